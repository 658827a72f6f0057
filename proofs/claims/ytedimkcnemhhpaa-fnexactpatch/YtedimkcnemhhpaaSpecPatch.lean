/- Hunks done to lines, by the model. -/
import Derived.Test.YtedimkcnemhhpaaSpecOne
import Derived.Test.YtedimkcnemhhpaaPatchImpl
import Derived.Test.YtedimkcnemhhpaaSpecHunks
namespace Go.Proofs.Ytedimkcnemhhpaa
open Go.RowKit Go.Shelf

theorem withX_blank {c : UInt8} {xs : List ByteArray} (h : ∀ x ∈ xs, blankB x = true) : (withX c xs).length = xs.length := by
  induction xs with
  | nil => rfl
  | cons x xs ih =>
    have hx := h x (by simp)
    have : cutX c x = some (x.extract 1 x.size) := by
      unfold blankB at hx
      unfold cutX
      split at hx
      · cases hx
      · rename_i d t hd; rw [hd]; simp only [hx, Bool.true_or, if_true]
    unfold withX at *
    rw [List.filterMap_cons, this]
    simp only [List.length_cons]
    rw [ih (fun y hy => h y (by simp [hy]))]
theorem withX_app (c : UInt8) (a b : List ByteArray) : withX c (a ++ b) = withX c a ++ withX c b := List.filterMap_append
theorem trim_len (c : UInt8) (xs : List ByteArray) (f : Nat) : (withX c xs).length = trimA xs f + (withX c (trimL xs f)).length + trimZ xs f := by
  obtain ⟨l1, l2⟩ := trimA_le xs f
  obtain ⟨l3, l4⟩ := trimZ_le xs f
  have e : xs = xs.take (trimA xs f) ++ (trimL xs f ++ xs.drop (xs.length - trimZ xs f)) := by
    have e1 : xs.drop (trimA xs f) = trimL xs f ++ xs.drop (xs.length - trimZ xs f) := by
      unfold trimL
      have := (List.take_append_drop (xs.length - trimZ xs f - trimA xs f) (xs.drop (trimA xs f))).symm
      rw [List.drop_drop, show trimA xs f + (xs.length - trimZ xs f - trimA xs f) = xs.length - trimZ xs f by omega] at this
      exact this
    rw [← e1, List.take_append_drop]
  have b1 : ∀ x ∈ xs.take (trimA xs f), blankB x = true := fun x hx => by
    obtain ⟨i, hi⟩ := List.getElem?_of_mem hx
    rw [List.getElem?_take] at hi
    split at hi
    · rename_i hlt
      have := runP_all (p := fun i => blankB (txtFn xs i)) (min f xs.length) 0 i hlt
      rw [Nat.zero_add] at this
      rwa [txtFn_get hi] at this
    · cases hi
  have b2 : ∀ x ∈ xs.drop (xs.length - trimZ xs f), blankB x = true := fun x hx => by
    obtain ⟨i, hi⟩ := List.getElem?_of_mem hx
    have hl := (List.getElem?_eq_some_iff.1 hi).1
    rw [List.length_drop] at hl
    rw [List.getElem?_drop] at hi
    have := runP_all (p := fun i => blankB (txtFn xs (xs.length - 1 - i))) (min (xs.length - trimA xs f) f) 0 (trimZ xs f - 1 - i) (by show _ < trimZ xs f; omega)
    rw [Nat.zero_add] at this
    rw [show xs.length - 1 - (trimZ xs f - 1 - i) = xs.length - trimZ xs f + i by omega, txtFn_get hi] at this
    exact this
  conv => lhs; rw [e]
  rw [withX_app, withX_app, List.length_append, List.length_append, withX_blank b1, withX_blank b2, List.length_take, List.length_drop]
  omega
theorem pass_later {s s' : PSt} {h : Hk} {fuzz : Nat} {off : Int} (e : passM s h fuzz = some s') (ho : s'.far = s.far ++ [off]) : s'.later = s.later + off + ((newL h).length : Int) - ((oldL h).length : Int) := by
  obtain ⟨j, far, _, rfl⟩ := passFrom_some _ _ e
  have hf : far = off := by
    have : s.far ++ [far] = s.far ++ [off] := ho
    simpa using this
  subst hf
  have h1 := trim_len 43 h.lines j
  have h2 := trim_len 45 h.lines j
  show s.later + (far + ((newL (trimH h j)).length : Int) - ((oldL (trimH h j)).length : Int)) = _
  have e1 : (newL h).length = trimA h.lines j + (newL (trimH h j)).length + trimZ h.lines j := h1
  have e2 : (oldL h).length = trimA h.lines j + (oldL (trimH h j)).length + trimZ h.lines j := h2
  omega
theorem owns_cap {W : World} {N n : Nat} {v : Value} {xs : List ByteArray} (h : W.ownsRow N 9 1 v n (xs.map Value.string)) : ∃ a cap, v = .slice a xs.length cap ∧ TxtsAt W a xs ∧ (a = none → cap = 0) ∧ xs.length ≤ cap := by
  obtain ⟨_, a, cap, hv, ht, hc, _⟩ := txts_owns h
  refine ⟨a, cap, hv, ht, fun e => ?_, hc⟩
  rcases h.2 with ⟨hv2, h0⟩ | ⟨g, c2, cur, hv2, _⟩
  · rw [hv2] at hv; injection hv with e1 e2 e3; exact e3.symm
  · rw [hv2, e] at hv; cases hv
theorem emptyRow (W : World) (N e : Nat) (hN : N ≤ W.heap.size) : (W.alloc (.cells #[] e)).ownsRow N e 1 (.slice (some ⟨W.heap.size, 0, none⟩) 0 0) 0 [] := World.ownsRow_lit (base := N) (e := e) (size := 1) W #[] 0 hN (by simp [maxLen]) rfl

/-- Where the hunks ahead of the k-th are done. -/
structure PRun (w W : World) (ls : List ByteArray) (hs : List Hk) (fz k : Nat) (s : PSt) (ov fv : Value) : Prop where
  run : runM fz (startM ls) (hs.take k) = some s
  out : W.ownsRow w.heap.size 9 1 ov (s.done ++ s.rest).length ((s.done ++ s.rest).map Value.string)
  far : W.ownsRow w.heap.size 3 1 fv s.far.length (s.far.map (Value.int .i64))
  ne : ov.ownBlock = none ∨ ov.ownBlock ≠ fv.ownBlock
  bound : PBound s ls.length k
  below : Below w.heap.size w W
theorem own_apart {X Y : World} {N n m : Nat} {v f : Value} {xs ys : List Value} {e e2 : Nat} (h : Y.ownsRow X.heap.size e 1 v n xs) (hf : X.ownsRow N e2 1 f m ys) : v.ownBlock = none ∨ v.ownBlock ≠ f.ownBlock := by
  cases hb : v.ownBlock with
  | none => exact .inl rfl
  | some x => exact .inr (fun e => by have h1 := (h.lt x hb).1; have h2 := (hf.lt x e.symm).2; omega)

theorem own_apart2 {W : World} {N n e cap : Nat} {v : Value} {xs : List Value} (h : W.ownsRow N e 1 v n xs) : v.ownBlock = none ∨ v.ownBlock ≠ (Value.slice (some ⟨W.heap.size, 0, none⟩) 0 cap).ownBlock := by
  cases hb : v.ownBlock with
  | none => exact .inl rfl
  | some x => exact .inr (fun e => by have := (h.lt x hb).2; cases e; exact Nat.lt_irrefl _ this)

set_option maxRecDepth 100000 in
set_option maxHeartbeats 16000000 in
theorem specPatch_any (ls : List ByteArray) (hs : List Hk) (fz : Int) (a la : Option Addr) (cap lcap : Nat) (w : World) (hx : ls.length ≤ maxLen) (hz : bigX ls) (hnil : a = none → cap = 0) (hhl : hs.length ≤ maxLen) (hbig : bigH hs) (h : TxtsAt w a ls) (hh : HksC w la hs) :
    Calls Try.prog 28 #[.slice a ls.length cap, .slice la hs.length lcap, .int .i64 fz] w fun e W => PatchOut w W e ls hs fz := by
  have HA := hid h
  have HH := hid hh
  have HX := hid hx
  have HZ := hid hz
  have HBG := hid hbig
  have HHL := hid hhl
  have HNIL := hid hnil
  have TA := hid (l5Lines_any ls a cap w hz hx h)
  clear h hh hz hbig hx hnil hhl
  go_enter Try.func28, Try.ntmps28
  go_upto_region 1 with fail
  go_cut [30] from 18 (fun s wx => s = .bool (!okM ls hs fz) ∧ Hid (Below w.heap.size w wx))
  case first =>
    have HOK := hid (show okM ls hs fz = (textB ls && (hunksB hs && (decide (0 ≤ fz) && decide (fz ≤ 2)))) from rfl)
    go_wp2_with fail
    refine (unhid TA).mono ?_
    rintro r w1 ⟨rfl, hw1⟩
    subst hw1
    clear TA
    cases ta : textB ls
    · have E := hid (show okM ls hs fz = false by rw [unhid HOK, ta]; rfl)
      clear ta
      go_wp2_with fail
      go_meet
      case rel => exact ⟨by rw [unhid E]; rfl, hid (Below.refl _ _)⟩
    have T1 := hid ta
    clear ta
    go_wp2_with fail
    refine (specHunksOk_any hs la lcap w1 (unhid HHL) (unhid HBG) (unhid HH).at).mono ?_
    rintro r w2 ⟨rfl, hb⟩
    have HB2 := hid hb
    clear hb
    cases tb : hunksB hs
    · have E := hid (show okM ls hs fz = false by rw [unhid HOK, unhid T1, tb]; rfl)
      clear tb
      go_wp2_with fail
      go_meet
      case rel => exact ⟨by rw [unhid E]; rfl, HB2⟩
    have T2 := hid tb
    clear tb
    have HO2 := hid (show okM ls hs fz = (decide (0 ≤ fz) && decide (fz ≤ 2)) by rw [unhid HOK, unhid T1, unhid T2]; rfl)
    go_wp2_with fail
    refine (l1In_any _ _ _ _).mono ?_
    rintro e w3 ⟨rfl, rfl⟩
    rw [← unhid HO2]
    cases hok : okM ls hs fz
    all_goals
      have E := hid hok
      clear hok
      go_wp2_with fail
      go_meet
      case rel => exact ⟨by rw [unhid E]; rfl, HB2⟩
  case rest =>
    obtain ⟨rfl, HBC⟩ := hcut
    clear TA
    have hbc := (unhid HBC).size
    cases hok : okM ls hs fz
    · have E := hid (patch_no hok)
      have r0 := emptyRow wc w.heap.size 9 hbc
      have hb1 : Below wc.heap.size wc (wc.alloc (.cells #[] 9)) := (Below.refl _ _).alloc (Nat.le_refl _) _
      have r1 := emptyRow (wc.alloc (.cells #[] 9)) w.heap.size 3 (by have := hb1.size; omega)
      have hb2 : Below (wc.alloc (.cells #[] 9)).heap.size (wc.alloc (.cells #[] 9)) ((wc.alloc (.cells #[] 9)).alloc (.cells #[] 3)) := (Below.refl _ _).alloc (Nat.le_refl _) _
      have hsz : (wc.alloc (.cells #[] 9)).heap.size = wc.heap.size + 1 := by simp
      have HF := hid (And.intro (owns_belowX r0 hb2) (And.intro r1 ((unhid HBC).trans ((hb1.trans (hb2.mono hb1.size)).mono hbc))))
      rw [hsz] at HF
      clear hok r0 r1 hb1 hb2 hsz
      simp only [Bool.not_false]
      go_wp2_with fail
      refine bodyPost_ret (v := .tuple #[.slice (some ⟨wc.heap.size, 0, none⟩) 0 0, .slice (some ⟨wc.heap.size + 1, 0, none⟩) 0 0, .bool false]) (by simp [results, Try.results28]) rfl ?_
      obtain ⟨e0, e1, e2⟩ := unhid E
      exact ⟨_, _, by rw [e2], by rw [e0]; exact (unhid HF).1, by rw [e1]; exact (unhid HF).2.1, .inr (fun e => by injection e with e; have e' : wc.heap.size = wc.heap.size + 1 := e; omega), (unhid HF).2.2⟩
    have HOK := hid hok
    simp only [Bool.not_true]
    have hparts := hok
    unfold okM at hparts
    simp only [Bool.and_eq_true, decide_eq_true_eq] at hparts
    obtain ⟨tls, ths, hf1, hf2⟩ := hparts
    have hl30 := (textB_parts tls).1
    obtain ⟨hh4, hmem⟩ := hunksB_mem ths
    have HM := hid hmem
    obtain ⟨fz, rfl⟩ : ∃ f : Nat, fz = (f : Int) := ⟨fz.toNat, by omega⟩
    have HOUT := hid (show outM ls hs (fz : Int) = (runM fz (startM ls) hs).bind fun s => if textB (s.done ++ s.rest) then some (s.done ++ s.rest, s.far) else none from rfl)
    clear hok tls ths hmem
    -- a copy of the lines
    have r0 := hid (emptyRow wc w.heap.size 9 hbc)
    have hb1 := hid (show Below w.heap.size w (wc.alloc (.cells #[] 9)) from (unhid HBC).alloc hbc _)
    go_wp2_with (at_builtin; refine wp_app rfl _ _ rfl w.heap.size _ [] ls a cap rfl rfl (unhid r0) ((unhid HA).below (unhid hb1)) (unhid HNIL) ?c1 (unhid hb1).size ?_)
    case c1 => simp only [List.length_nil]; omega
    intro v1 W1 hown hg hat
    have hB1 : Below w.heap.size w W1 := (unhid hb1).grown hg (unhid hb1).size (fun j e => ((unhid r0).lt j e).1)
    obtain ⟨oa, oc, hov, hjunk⟩ := owns_cap hown
    clear hjunk
    subst hov
    have HO1 := hid hown
    have HB1 := hid hB1
    have hbs := hB1.size
    have r2 := hid (emptyRow W1 w.heap.size 3 hbs)
    clear hown hg hat hB1 r0 hb1
    have HST := hid (show W1.heap.size < (W1.alloc (.cells #[] 3)).heap.size from by simp)
    have HB2 := hid ((unhid HB1).alloc hbs (.cells #[] 3))
    have HO2 := hid (owns_belowX (unhid HO1) (show Below W1.heap.size W1 (W1.alloc (.cells #[] 3)) from (Below.refl _ _).alloc (Nat.le_refl _) _))
    have HNE := hid (show (Value.slice oa ls.length oc).ownBlock = none ∨ (Value.slice oa ls.length oc).ownBlock ≠ (Value.slice (some ⟨W1.heap.size, 0, none⟩) 0 0).ownBlock from by
      cases hb : (Value.slice oa ls.length oc).ownBlock with
      | none => exact .inl rfl
      | some x => exact .inr (fun e => by have := ((unhid HO1).lt x hb).2; cases e; exact Nat.lt_irrefl _ this))
    go_wp2_with fail
    have HRUN := hid (show PRun w (W1.alloc (.cells #[] 3)) ls hs fz 0 (startM ls) (.slice oa ls.length oc) (.slice (some ⟨W1.heap.size, 0, none⟩) 0 0) from
      ⟨by simp [runM], unhid HO2, unhid r2, unhid HNE, start_bound ls, unhid HB2⟩)
    generalize W1.alloc (.cells #[] 3) = W2 at HRUN ⊢
    generalize W1.heap.size = g1 at HRUN ⊢
    clear HO2 r2 HNE HB2 HST HO1 HB1 hbs
    go_loopw [9, 10, 11, 12, 13] (fun o f l t i wr => ∃ (k : Nat) (s : PSt) (oa fa : Option Addr) (oc fc : Nat), k ≤ hs.length ∧ o = .slice oa (s.done ++ s.rest).length oc ∧ f = .slice fa s.far.length fc ∧ l = .int .i64 (s.done.length : Int) ∧ t = .int .i64 s.later ∧ i = .int .i64 (k : Int) ∧ Hid (PRun w wr ls hs fz k s (.slice oa (s.done ++ s.rest).length oc) (.slice fa s.far.length fc))) (fun _ _ _ _ i _ => hs.length - (intOf i).toNat)
    case atStart => exact ⟨0, startM ls, _, _, _, _, Nat.zero_le _, rfl, rfl, rfl, rfl, rfl, HRUN⟩
    case round =>
      clear HRUN
      obtain ⟨k, s, oa, fa, oc, fc, hk, rfl, rfl, rfl, rfl, rfl, HR⟩ := hrel
      obtain ⟨q1, q2, q3', q4, q5⟩ := (unhid HR).bound
      have q3 : s.far.length ≤ 5000 := by omega
      clear q3'
      obtain ⟨oa', oc', hov, hot, hon, hocap⟩ := owns_cap (unhid HR).out
      injection hov with e1 e2 e3
      subst e1
      subst e3
      have HOT := hid hot
      have HON := hid hon
      clear hot hon e2
      have hLl : (s.done ++ s.rest).length ≤ 5000 := by rw [List.length_append]; omega
      have hdl : s.done.length ≤ 5000 := by omega
      have HSL := hid (l5One_any s)
      have HQ1 := hid q1
      clear q1
      generalize hLS : s.done ++ s.rest = LS at *
      have HLS := hid hLS
      clear hLS
      by_cases hlt : k < hs.length
      · obtain ⟨e, he⟩ : ∃ e, hs[k]? = some e := ⟨hs[k], List.getElem?_eq_getElem hlt⟩
        obtain ⟨b, o, rfl, hbl, hc⟩ := (unhid HH).get (by intro e; subst e; simp at hlt)
        obtain ⟨ea, ec, c0, c1, ht, hec⟩ := hc k e he
        obtain ⟨hk1, hk2⟩ := unhid HM e (List.mem_of_getElem? he)
        obtain ⟨p1, p2, p3⟩ := hkB_parts hk1
        have HLB := hid p3
        have HZB := hid (unhid HBG e (List.mem_of_getElem? he)).1
        have HZE := hid (show ∀ x ∈ e.lines, 0 < x.size ∧ x.size ≤ maxLen from fun x hx => ⟨linesB_pos p3 x hx, (unhid HBG e (List.mem_of_getElem? he)).1 x hx⟩)
        have HCW := hid (show ∀ X : World, Below w.heap.size w X → X.cell? ⟨b, o + k * 2, none⟩ = some (.int .i64 e.at_) ∧ X.cell? ⟨b, o + k * 2 + 1, none⟩ = some (.slice ea e.lines.length ec) from fun X hX => ⟨(hX.cell (p := ⟨b, o + k * 2, none⟩) hbl).trans c0, (hX.cell (p := ⟨b, o + k * 2 + 1, none⟩) hbl).trans c1⟩)
        have HTE := hid ht
        have HSN := hid (show runM fz (startM ls) (hs.take (k + 1)) = passM s e fz by rw [List.take_add_one, he]; show runM fz _ (_ ++ [e]) = _; rw [runM_app, (unhid HR).run]; rfl)
        obtain ⟨c0', c1'⟩ := unhid HCW wr (unhid HR).below
        clear hc he c0 c1 ht hk1 p3
        go_wp2_with fail
        refine (unhid HSL e fz oa ea oc ec wr (by omega) (by omega) hLl hocap (unhid HON) (by omega) p2 hec (unhid HLB) (unhid HZB) (unhid HOT) ((unhid HTE).below (unhid HR).below)).mono ?_
        rintro r W3 ⟨xv, en, off, rfl, HOUT1, hb⟩
        have HB3 := hid ((unhid HR).below.trans (hb.mono (unhid HR).below.size))
        have HBR := hid hb
        clear hb c0' c1'
        cases hpm : passM s e fz with
        | none =>
          have E := hid (patch_none (unhid HOK) (show outM ls hs (fz : Int) = none by rw [unhid HOUT, runM_none (k := k + 1) (by rw [unhid HSN, hpm])]; rfl))
          clear hpm HOUT1
          simp only [Option.isSome_none]
          have hbg := (unhid HB3).size
          have r0 := hid (emptyRow W3 w.heap.size 9 hbg)
          have hb1 := hid (show Below w.heap.size w (W3.alloc (.cells #[] 9)) from (unhid HB3).alloc hbg _)
          go_wp2_with (at_builtin; refine wp_app rfl _ _ rfl w.heap.size _ [] ls a cap rfl rfl (unhid r0) ((unhid HA).below (unhid hb1)) (unhid HNIL) ?c1 (unhid hb1).size ?_)
          case c1 => simp only [List.length_nil]; omega
          intro v1 W4 hown hg hat
          have hB1 : Below w.heap.size w W4 := (unhid hb1).grown hg (unhid hb1).size (fun j e => ((unhid r0).lt j e).1)
          have hbs := hB1.size
          have r2 := emptyRow W4 w.heap.size 3 hbs
          have hb2 : Below W4.heap.size W4 (W4.alloc (.cells #[] 3)) := (Below.refl _ _).alloc (Nat.le_refl _) _
          obtain ⟨ca, cc, hcv⟩ := ownsRow_sliceX hown
          subst hcv
          have HF := hid (And.intro (owns_belowX hown hb2) (And.intro r2 (And.intro (own_apart2 (cap := 0) hown) (hB1.trans (hb2.mono hbs)))))
          clear hown hg hat hB1 hbs r2 hb2 r0 hb1
          go_wp2_with fail
          refine bodyPost_ret (v := .tuple #[.slice ca ls.length cc, .slice (some ⟨W4.heap.size, 0, none⟩) 0 0, .bool false]) (by simp [results, Try.results28]) rfl ?_
          obtain ⟨e0, e1, e2⟩ := unhid E
          exact ⟨_, _, by rw [e2], by rw [e0]; exact (unhid HF).1, by rw [e1]; exact (unhid HF).2.1, (unhid HF).2.2.1, (unhid HF).2.2.2⟩
        | some s2 =>
          obtain ⟨o1, o2, o3⟩ := unhid HOUT1 s2 hpm
          have HP2 := hid (passM_bound (unhid HR).bound p2 hpm)
          have HLT := hid (pass_later hpm o2)
          have HR2 := hid (show runM fz (startM ls) (hs.take (k + 1)) = some s2 by rw [unhid HSN, hpm])
          have HO3 := hid (ownsRow_baseX (N' := w.heap.size) o3 (unhid HR).below.size)
          have HNE := hid (own_apart o3 (unhid HR).far)
          have HEN := hid o1
          have HOF := hid o2
          obtain ⟨xa, xc, hxv⟩ := ownsRow_sliceX o3
          subst hxv
          simp only [Option.isSome_some]
          have hoff : -9 < off ∧ off < 9 := by
            obtain ⟨j, far, ht, e2⟩ := passFrom_some _ _ hpm
            have : s.far ++ [far] = s.far ++ [off] := by rw [← o2, e2]; rfl
            have hfo : far = off := by simpa using this
            rw [← hfo]; exact (findM_some ht).2
          obtain ⟨hof1, hof2⟩ := hoff
          have hS2 : (s2.done ++ s2.rest).length ≤ 5000 := by have := (unhid HP2).done; rw [List.length_append]; omega
          have henb : 0 ≤ en ∧ en ≤ 5000 := by rw [List.length_append] at hS2; omega
          obtain ⟨hen1, hen2⟩ := henb
          clear hpm HOUT1 o1 o2 o3
          generalize hLS2 : s2.done ++ s2.rest = LS2 at *
          have HLS2 := hid hLS2
          clear hLS2
          have HOL := hid (show oldX 43 e.lines = oldL e from old_with (fun x hx => List.all_eq_true.1 (unhid HLB) x hx))
          have HNL := hid (show oldX 45 e.lines = newL e from new_with (fun x hx => List.all_eq_true.1 (unhid HLB) x hx))
          have hol : (oldL e).length ≤ e.lines.length := withX_len _ _
          have hnl : (newL e).length ≤ e.lines.length := withX_len _ _
          have hbw := Nat.lt_of_lt_of_le hbl (unhid HB3).size
          obtain ⟨c0, c1⟩ := unhid HCW W3 (unhid HB3)
          have g0 : ∀ x : CW (fun w' => Below W3.heap.size W3 w'), x.w.cell? ⟨b, o + k * 2, none⟩ = some (.int .i64 e.at_) := fun x => (x.h.cell (p := ⟨b, o + k * 2, .none⟩) hbw).trans c0
          have g1 : ∀ x : CW (fun w' => Below W3.heap.size W3 w'), x.w.cell? ⟨b, o + k * 2 + 1, none⟩ = some (.slice ea e.lines.length ec) := fun x => (x.h.cell (p := ⟨b, o + k * 2 + 1, .none⟩) hbw).trans c1
          clear c0 c1 hbw
          go_wp2_with fail
          have hba : ∀ {q : Prop}, (CW (fun w' => Below W3.heap.size W3 w') → q) ↔ q := CW.all (Below.refl _ W3)
          refine held_begin (fun w' => Below W3.heap.size W3 w') (by kernel_rfl) (drew_belowX _) ?_
          refine held_take [true, true, true, true, true, true, true, false, false, false, true, true, true, true] (by kernel_rfl) (by kernel_rfl) (fun _ _ _ _ _ h => h) (drew_belowX _) ?_
          dsimp only [pick]
          repeat (go_big_quiet_step (fail))
          refine wpQuiet_nil ?_
          intro x1
          refine held_call 7 62 72 (enters_of Try.func62 (by kernel_rfl) rfl) #[.agg #[.int .i64 e.at_, .slice ea e.lines.length ec]] (by kernel_rfl) (by kernel_rfl) rfl rfl rfl rfl rfl ?_
          refine (l5New_any e ea ec _ (by omega) (unhid HZE) ((unhid HTE).below ((unhid HB3).trans (x1.h.mono (unhid HB3).size)))).mono ?_
          rintro r w2 ⟨v, rfl, ho, hb⟩
          obtain ⟨va, vc, rfl⟩ := ownsRow_sliceX ho
          rw [unhid HNL]
          refine ⟨_, rfl, x1.h.trans (hb.mono x1.h.size), ?_⟩
          simp only [Act.put, List.setIfInBounds_toArray, List.set_cons_zero, List.set_cons_succ]
          have hB2 := x1.h.trans (hb.mono x1.h.size)
          clear hb ho
          refine held_take [false, false, false, false, false, false, false, false, true, true] (by kernel_rfl) (by kernel_rfl) (fun _ _ _ _ _ h => h) hB2 ?_
          dsimp only [pick]
          repeat (go_big_quiet_step (fail))
          refine wpQuiet_nil ?_
          intro x2
          refine held_call 14 46 79 (enters_of Try.func46 (by kernel_rfl) rfl) #[.agg #[.int .i64 e.at_, .slice ea e.lines.length ec]] (by kernel_rfl) (by kernel_rfl) rfl rfl rfl rfl rfl ?_
          refine (l5Old_any e ea ec _ (by omega) (unhid HZE) ((unhid HTE).below ((unhid HB3).trans (x2.h.mono (unhid HB3).size)))).mono ?_
          rintro r w3 ⟨v, rfl, ho, hb⟩
          obtain ⟨va2, vc2, rfl⟩ := ownsRow_sliceX ho
          rw [unhid HOL]
          refine ⟨_, rfl, x2.h.trans (hb.mono x2.h.size), ?_⟩
          simp only [Act.put, List.setIfInBounds_toArray, List.set_cons_zero, List.set_cons_succ]
          have hB3 := x2.h.trans (hb.mono x2.h.size)
          clear hb ho
          refine held_take [false, false, false, false, false, false, false, false, false, false, false, false, false, false, false, true, true, true] (by kernel_rfl) (by kernel_rfl) (fun _ _ _ _ _ h => h) hB3 ?_
          dsimp only [pick]
          repeat (go_big_quiet_step (fail))
          refine wpQuiet_nil ?_
          intro x3
          refine held_done (by kernel_rfl) ?_
          have HB9 := hid x3.h
          generalize x3.w = W9 at HB9 ⊢
          clear hba g0 g1
          have HBW := hid ((unhid HB3).trans ((unhid HB9).mono (unhid HB3).size))
          have HOW := hid (owns_belowX (unhid HO3) (unhid HB9))
          have HFW := hid (owns_belowX (unhid HR).far ((unhid HBR).trans ((unhid HB9).mono (unhid HBR).size)))
          obtain ⟨i0, hi, hz0, hz1, hz2⟩ := info_parts infoInt
          have hbl9 := (unhid HBW).size
          have HNB := hid (show Below W9.heap.size W9 (W9.alloc (.cells #[.int .i64 off] 3)) from (Below.refl _ _).alloc (Nat.le_refl _) _)
          have hsz := (unhid HNB).size
          clear x1 x2 x3 hB2 hB3 HO3 HB9 HB3
          go_wp2_with (at_builtin; refine wpList_append_own_at _ rfl _ _ 35 rfl w.heap.size 3 i0 (.int .i64 0) 1 8 Try.underlying35 hi hz0 hz1 hz2 rfl (by decide) _ s.far.length (s.far.map (Value.int .i64)) rfl ((unhid HFW).alloc _) ⟨_, 0, none⟩ 1 1 [.int .i64 off] rfl rfl ?c1 ?c2 ?c3 ?c4 ?c5 ?_)
          case c1 =>
            intro j u hj
            cases j with
            | zero =>
              have hu : u = .int .i64 off := by simpa using hj.symm
              rw [hu, Addr.add_lit, World.cell?_alloc_at _ _ _ _ rfl]
              rfl
            | succ j => simp at hj
          case c2 => first | (intro u hu; simp at hu; subst hu; rfl) | rfl | simp
          case c3 => unfold maxLen; omega
          case c4 => omega
          case c5 => have := hbl9; simp at this ⊢; omega
          intro v' W10 hown hg _ hatb
          have hB10 : Below w.heap.size w W10 := ((unhid HBW).trans ((unhid HNB).mono hbl9)).grown hg (Nat.le_trans hbl9 hsz) (fun j e => ((unhid HFW).lt j e).1)
          have hown2 : W10.ownsRow w.heap.size 3 1 v' s2.far.length (s2.far.map (Value.int .i64)) := by rw [unhid HOF, List.length_append, List.map_append]; exact hown
          have hout2 : W10.ownsRow w.heap.size 9 1 (.slice xa LS2.length xc) LS2.length (LS2.map Value.string) := owns_grown ((unhid HOW).alloc _) hg (unhid HNE)
          have hne2 : (Value.slice xa LS2.length xc).ownBlock = none ∨ (Value.slice xa LS2.length xc).ownBlock ≠ v'.ownBlock := by
            cases hdv : (Value.slice xa LS2.length xc).ownBlock with
            | none => exact .inl rfl
            | some b2 =>
              refine .inr (fun e => ?_)
              rcases hatb with e2 | e2
              · rcases unhid HNE with e3 | e3
                · rw [e3] at hdv; cases hdv
                · exact e3 (by rw [hdv, e, e2])
              · rw [e2] at e
                have h1 := ((unhid HOW).lt _ hdv).2
                injection e with e
                omega
          obtain ⟨ga, gc, hgv⟩ := ownsRow_sliceX hown2
          subst hgv
          have HR9 := hid (show PRun w W10 ls hs fz (k + 1) s2 (.slice xa LS2.length xc) (.slice ga s2.far.length gc) from ⟨unhid HR2, by rw [unhid HLS2]; exact hout2, hown2, hne2, unhid HP2, hB10⟩)
          clear hown hown2 hout2 hne2 hB10 hg hatb
          rw [← unhid HLT, unhid HEN]
          go_wp2_with fail
          go_roundw
          case rel => exact ⟨k + 1, s2, xa, ga, xc, gc, by omega, by rw [unhid HLS2], rfl, rfl, rfl, by go_num, by rw [unhid HLS2]; exact HR9⟩
          case measure => simp [intOf]; omega
      · have e : k = hs.length := by omega
        subst e
        have HRN := hid (show runM fz (startM ls) hs = some s by have := (unhid HR).run; rwa [List.take_length] at this)
        have HBIG := hid (show bigX LS by rw [← unhid HLS]; exact runM_big (unhid HZ) (fun x hx => (unhid HBG x hx).1) (unhid HRN))
        have HBR := hid (unhid HR).below
        go_wp2_with fail
        refine (l5Lines_any LS oa oc wr (unhid HBIG) (by unfold maxLen; omega) (unhid HOT)).mono ?_
        rintro r W3 ⟨rfl, hw3⟩
        subst hw3
        cases tb : textB LS
        · have E := hid (patch_none (unhid HOK) (show outM ls hs (fz : Int) = none by rw [unhid HOUT, unhid HRN]; show (if textB (s.done ++ s.rest) = true then _ else _) = _; rw [unhid HLS, tb]; rfl))
          clear tb
          have hbg := (unhid HBR).size
          have r0 := hid (emptyRow W3 w.heap.size 9 hbg)
          have hb1 := hid (show Below w.heap.size w (W3.alloc (.cells #[] 9)) from (unhid HBR).alloc hbg _)
          go_wp2_with (at_builtin; refine wp_app rfl _ _ rfl w.heap.size _ [] ls a cap rfl rfl (unhid r0) ((unhid HA).below (unhid hb1)) (unhid HNIL) ?c1 (unhid hb1).size ?_)
          case c1 => simp only [List.length_nil]; omega
          intro v1 W4 hown hg hat
          have hB1 : Below w.heap.size w W4 := (unhid hb1).grown hg (unhid hb1).size (fun j e => ((unhid r0).lt j e).1)
          have hbs := hB1.size
          have r2 := emptyRow W4 w.heap.size 3 hbs
          have hb2 : Below W4.heap.size W4 (W4.alloc (.cells #[] 3)) := (Below.refl _ _).alloc (Nat.le_refl _) _
          obtain ⟨ca, cc, hcv⟩ := ownsRow_sliceX hown
          subst hcv
          have HF := hid (And.intro (owns_belowX hown hb2) (And.intro r2 (And.intro (own_apart2 (cap := 0) hown) (hB1.trans (hb2.mono hbs)))))
          clear hown hg hat hB1 hbs r2 hb2 r0 hb1
          go_wp2_with fail
          refine bodyPost_ret (v := .tuple #[.slice ca ls.length cc, .slice (some ⟨W4.heap.size, 0, none⟩) 0 0, .bool false]) (by simp [results, Try.results28]) rfl ?_
          obtain ⟨e0, e1, e2⟩ := unhid E
          exact ⟨_, _, by rw [e2], by rw [e0]; exact (unhid HF).1, by rw [e1]; exact (unhid HF).2.1, (unhid HF).2.2.1, (unhid HF).2.2.2⟩
        · have E := hid (patch_some (unhid HOK) (show outM ls hs (fz : Int) = some (s.done ++ s.rest, s.far) by rw [unhid HOUT, unhid HRN]; show (if textB (s.done ++ s.rest) = true then _ else _) = _; rw [unhid HLS, tb]; rfl))
          clear tb
          go_wp2_with fail
          refine bodyPost_ret (v := .tuple #[.slice oa LS.length oc, .slice fa s.far.length fc, .bool true]) (by simp [results, Try.results28]) rfl ?_
          obtain ⟨e0, e1, e2⟩ := unhid E
          exact ⟨_, _, by rw [e2], by rw [e0]; exact (unhid HR).out, by rw [e1]; exact (unhid HR).far, (unhid HR).ne, unhid HBR⟩
end Go.Proofs.Ytedimkcnemhhpaa
