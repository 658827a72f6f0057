/- Hunks done to lines, by the program. -/
import Derived.Test.YtedimkcnemhhpaaWalkPass
import Derived.Test.YtedimkcnemhhpaaHkOwn
namespace Go.Proofs.Ytedimkcnemhhpaa
open Go.RowKit Go.Shelf

/-- A row of hunks that is read, none with more lines than its row has room for. -/
def HksC (W : World) (a : Option Addr) (hs : List Hk) : Prop := hs = [] ∨ ∃ b o, a = some ⟨b, o, .none⟩ ∧ b < W.heap.size ∧ ∀ (i : Nat) h, hs[i]? = some h → ∃ la cap, W.cell? ⟨b, o + i * 2, none⟩ = some (.int .i64 h.at_) ∧ W.cell? ⟨b, o + i * 2 + 1, none⟩ = some (.slice la h.lines.length cap) ∧ TxtsAt W la h.lines ∧ h.lines.length ≤ cap
theorem HksC.at {W : World} {a : Option Addr} {hs : List Hk} (h : HksC W a hs) : HksAt W a hs := by
  rcases h with h | ⟨b, o, e, hl, hc⟩
  · exact .inl h
  · exact .inr ⟨b, o, e, hl, fun i x hi => by obtain ⟨la, cap, h1, h2, h3, _⟩ := hc i x hi; exact ⟨la, cap, h1, h2, h3⟩⟩
theorem HksC.get {W : World} {a : Option Addr} {hs : List Hk} (h : HksC W a hs) (hne : hs ≠ []) : ∃ b o, a = some ⟨b, o, .none⟩ ∧ b < W.heap.size ∧ ∀ (i : Nat) h, hs[i]? = some h → ∃ la cap, W.cell? ⟨b, o + i * 2, none⟩ = some (.int .i64 h.at_) ∧ W.cell? ⟨b, o + i * 2 + 1, none⟩ = some (.slice la h.lines.length cap) ∧ TxtsAt W la h.lines ∧ h.lines.length ≤ cap := h.resolve_left hne
/-- What Patch answers. -/
def PatchOut (w W : World) (e : Ending) (ls : List ByteArray) (hs : List Hk) (fz : Int) : Prop :=
  ∃ v0 v1, e = .returned (.tuple #[v0, v1, .bool (patch_2 ls hs fz)]) ∧ W.ownsRow w.heap.size 9 1 v0 (patch_0 ls hs fz).length ((patch_0 ls hs fz).map Value.string) ∧ W.ownsRow w.heap.size 3 1 v1 (patch_1 ls hs fz).length ((patch_1 ls hs fz).map (Value.int .i64)) ∧ (v0.ownBlock = none ∨ v0.ownBlock ≠ v1.ownBlock) ∧ Below w.heap.size w W
theorem patch_no {ls : List ByteArray} {hs : List Hk} {fz : Int} (h : okM ls hs fz = false) : patch_0 ls hs fz = [] ∧ patch_1 ls hs fz = [] ∧ patch_2 ls hs fz = false := by
  unfold patch_0 patch_1 patch_2; rw [h]; exact ⟨rfl, rfl, rfl⟩
theorem patch_none {ls : List ByteArray} {hs : List Hk} {fz : Int} (h : okM ls hs fz = true) (hn : outM ls hs fz = none) : patch_0 ls hs fz = ls ∧ patch_1 ls hs fz = [] ∧ patch_2 ls hs fz = false := by
  unfold patch_0 patch_1 patch_2; rw [h, hn]; exact ⟨rfl, rfl, rfl⟩
theorem patch_some {ls : List ByteArray} {hs : List Hk} {fz : Int} {x : List ByteArray × List Int} (h : okM ls hs fz = true) (hn : outM ls hs fz = some x) : patch_0 ls hs fz = x.1 ∧ patch_1 ls hs fz = x.2 ∧ patch_2 ls hs fz = true := by
  unfold patch_0 patch_1 patch_2; rw [h, hn]; exact ⟨rfl, rfl, rfl⟩

theorem cutX_big {c : UInt8} {x y : ByteArray} (h : cutX c x = some y) (hx : x.size ≤ maxLen) : y.size ≤ maxLen := by
  unfold cutX at h
  split at h
  · cases h
  · split at h
    · cases h; rw [ByteArray.size_extract]; omega
    · cases h
theorem withX_big {c : UInt8} {xs : List ByteArray} (h : bigX xs) : bigX (withX c xs) := fun y hy => by
  obtain ⟨x, hx, e⟩ := List.mem_filterMap.1 hy
  exact cutX_big e (h x hx)
theorem passFrom_big {s s' : PSt} {h : Hk} (hs : bigX s.done ∧ bigX s.rest) (hh : bigX h.lines) : ∀ (f k : Nat), passFrom s h f k = some s' → bigX s'.done ∧ bigX s'.rest
  | 0, _, e => by cases e
  | f + 1, k, e => by
    unfold passFrom at e
    split at e
    · cases e
      refine ⟨fun x hx => ?_, fun x hx => hs.2 x (List.mem_of_mem_drop hx)⟩
      simp only [doM, List.mem_append] at hx
      rcases hx with (hx | hx) | hx
      · exact hs.1 x hx
      · exact hs.2 x (List.mem_of_mem_take hx)
      · exact withX_big (fun y hy => hh y (trimL_mem hy)) x hx
    · exact passFrom_big hs hh f (k + 1) e
theorem runM_big2 {fuzz : Nat} : ∀ (hs : List Hk) (s s' : PSt), (∀ h ∈ hs, bigX h.lines) → bigX s.done ∧ bigX s.rest → runM fuzz s hs = some s' → bigX s'.done ∧ bigX s'.rest
  | [], s, s', _, hb, e => by cases e; exact hb
  | h :: hs, s, s', hl, hb, e => by
    simp only [runM] at e
    cases hp : passM s h fuzz with
    | none => rw [hp] at e; cases e
    | some s1 =>
      rw [hp] at e
      exact runM_big2 hs s1 s' (fun x hx => hl x (by simp [hx])) (passFrom_big hb (hl h (by simp)) _ _ hp) e
theorem runM_big {fuzz : Nat} {ls : List ByteArray} {hs : List Hk} {s : PSt} (h1 : bigX ls) (h2 : ∀ h ∈ hs, bigX h.lines) (e : runM fuzz (startM ls) hs = some s) : bigX (s.done ++ s.rest) := fun x hx => by
  obtain ⟨a, b⟩ := runM_big2 hs (startM ls) s h2 ⟨(fun y hy => by cases hy), h1⟩ e
  rcases List.mem_append.1 hx with hx | hx
  · exact a x hx
  · exact b x hx

set_option maxRecDepth 100000 in
set_option maxHeartbeats 8000000 in
theorem Patch_any (ls : List ByteArray) (hs : List Hk) (fz : Int) (a la : Option Addr) (cap lcap : Nat) (w : World) (hx : ls.length ≤ maxLen) (hz : bigX ls) (hcap : ls.length ≤ cap) (hnil : a = none → cap = 0) (hhl : hs.length ≤ maxLen) (hbig : bigH hs) (h : TxtsAt w a ls) (hh : HksC w la hs) :
    Calls Try.prog 29 #[.slice a ls.length cap, .slice la hs.length lcap, .int .i64 fz] w fun e W => PatchOut w W e ls hs fz := by
  have HA := hid h
  have HH := hid hh
  have HX := hid hx
  have HZ := hid hz
  have HBG := hid hbig
  have HHL := hid hhl
  have HNIL := hid hnil
  have TA := hid (textLinesOk_any ls a cap w hz hx h)
  clear h hh hz hbig hx hnil hhl
  go_enter Try.func29, Try.ntmps29
  go_upto_region 1 with fail
  go_cut [27] from 12 (fun s wx => s = .bool (!okM ls hs fz) ∧ Hid (Below w.heap.size w wx))
  case first =>
    have HOK := hid (show okM ls hs fz = (textB ls && (hunksB hs && (decide (0 ≤ fz) && decide (fz ≤ 2)))) from rfl)
    go_wp2_with fail
    refine (unhid TA).mono ?_
    rintro r w1 ⟨rfl, hb⟩
    have HB1 := hid hb
    clear hb TA
    cases ta : textB ls
    · have E := hid (show okM ls hs fz = false by rw [unhid HOK, ta]; rfl)
      clear ta
      go_wp2_with fail
      go_meet
      case rel => exact ⟨by rw [unhid E]; rfl, HB1⟩
    have T1 := hid ta
    clear ta
    go_wp2_with fail
    refine (HunksOk_any hs la lcap w1 (unhid HHL) (unhid HBG) ((unhid HH).at.below (unhid HB1))).mono ?_
    rintro r w2 ⟨rfl, hb⟩
    have HB2 := hid ((unhid HB1).trans (hb.mono (unhid HB1).size))
    clear hb HB1
    cases tb : hunksB hs
    · have E := hid (show okM ls hs fz = false by rw [unhid HOK, unhid T1, tb]; rfl)
      clear tb
      go_wp2_with fail
      go_meet
      case rel => exact ⟨by rw [unhid E]; rfl, HB2⟩
    have T2 := hid tb
    clear tb
    have HO2 := hid (show okM ls hs fz = (decide (0 ≤ fz) && decide (fz ≤ 2)) by rw [unhid HOK, unhid T1, unhid T2]; rfl)
    by_cases h0 : fz < 0
    · have E := hid (show okM ls hs fz = false by rw [unhid HO2, decide_eq_false (by omega)]; rfl)
      go_wp2_with fail
      go_meet
      case rel => exact ⟨by rw [unhid E]; rfl, HB2⟩
    by_cases h1 : 2 < fz
    · have E := hid (show okM ls hs fz = false by rw [unhid HO2, decide_eq_false (show ¬ fz ≤ 2 by omega), Bool.and_false])
      go_wp2_with fail
      go_meet
      case rel => exact ⟨by rw [unhid E]; rfl, HB2⟩
    · have E := hid (show okM ls hs fz = true by rw [unhid HO2, decide_eq_true (show fz ≤ 2 by omega), decide_eq_true (show 0 ≤ fz by omega)]; rfl)
      go_wp2_with fail
      go_meet
      case rel => exact ⟨by rw [unhid E]; simp [h0, h1], HB2⟩
  case rest =>
    obtain ⟨rfl, HBC⟩ := hcut
    clear TA
    cases hok : okM ls hs fz
    · have E := hid (patch_no hok)
      clear hok
      go_wp2_with fail
      refine bodyPost_ret (v := .tuple #[.slice none 0 0, .slice none 0 0, .bool false]) (by simp [results, Try.results29]) rfl ?_
      obtain ⟨e0, e1, e2⟩ := unhid E
      exact ⟨_, _, by rw [e2], by rw [e0]; exact World.ownsRow_nil _ _ _ _, by rw [e1]; exact World.ownsRow_nil _ _ _ _, .inl rfl, unhid HBC⟩
    have HOK := hid hok
    simp only [Bool.not_true]
    have hparts := hok
    unfold okM at hparts
    simp only [Bool.and_eq_true, decide_eq_true_eq] at hparts
    obtain ⟨tls, ths, hf1, hf2⟩ := hparts
    have hl30 := (textB_parts tls).1
    obtain ⟨hh4, hmem⟩ := hunksB_mem ths
    have HM := hid hmem
    obtain ⟨fz, rfl⟩ : ∃ f : Nat, fz = (f : Int) := ⟨fz.toNat, by omega⟩
    have HOUT := hid (show outM ls hs (fz : Int) = (runM fz (startM ls) hs).bind fun s => if textB (s.done ++ s.rest) then some (s.done ++ s.rest, s.far) else none from rfl)
    clear hok tls ths hmem
    have HNW := hid (show Wk w (wc.alloc (.cells #[.slice a ls.length cap, .slice none 0 0, .slice none 0 0, .int .i64 0] 75)) wc.heap.size (startM ls) a cap (.slice none 0 0) (.slice none 0 0) from
      ⟨(unhid HBC).size, by simp, fourAt_new _ _ _ _ _ _, World.ownsRow_nil _ _ _ _, World.ownsRow_nil _ _ _ _, (fun e => by cases e), (fun e => by cases e), .inl rfl, unhid HA, unhid HNIL, hcap, (unhid HBC).alloc (unhid HBC).size _⟩)
    go_wp2_with fail
    generalize wc.alloc (.cells #[.slice a ls.length cap, .slice none 0 0, .slice none 0 0, .int .i64 0] 75) = W0 at HNW ⊢
    generalize wc.heap.size = g at HNW ⊢
    clear HBC
    go_loopw [33] (fun i wr => ∃ (k : Nat) (s : PSt), k ≤ hs.length ∧ i = .int .i64 (k : Int) ∧ Hid (runM fz (startM ls) (hs.take k) = some s) ∧ Hid (∃ ra rc dv fv, Wk w wr g s ra rc dv fv) ∧ Hid (PBound s ls.length k)) (fun i _ => hs.length - (intOf i).toNat)
    case atStart => exact ⟨0, startM ls, Nat.zero_le _, rfl, hid (by simp [runM]), hid ⟨_, _, _, _, unhid HNW⟩, hid (start_bound ls)⟩
    case round =>
      clear HNW
      obtain ⟨k, s, hk, rfl, HR, HW, HP⟩ := hrel
      obtain ⟨ra, rc, dv, fv, hwk⟩ := unhid HW
      have HWK := hid hwk
      obtain ⟨q1, q2, q3', q4, q5⟩ := unhid HP
      have q3 : s.far.length ≤ 5000 := by omega
      clear hwk HW q3'
      by_cases hlt : k < hs.length
      · obtain ⟨e, he⟩ : ∃ e, hs[k]? = some e := ⟨hs[k], List.getElem?_eq_getElem hlt⟩
        obtain ⟨b, o, rfl, hbl, hc⟩ := (unhid HH).get (by intro e; subst e; simp at hlt)
        obtain ⟨ea, ec, c0, c1, ht, hec⟩ := hc k e he
        obtain ⟨hk1, hk2⟩ := unhid HM e (List.mem_of_getElem? he)
        obtain ⟨p1, p2, p3⟩ := hkB_parts hk1
        have HZE := hid (show ∀ x ∈ e.lines, 0 < x.size ∧ x.size ≤ maxLen from fun x hx => ⟨linesB_pos p3 x hx, (unhid HBG e (List.mem_of_getElem? he)).1 x hx⟩)
        have c0' := ((unhid HWK).below.cell (p := ⟨b, o + k * 2, none⟩) hbl).trans c0
        have c1' := ((unhid HWK).below.cell (p := ⟨b, o + k * 2 + 1, none⟩) hbl).trans c1
        have HTE := hid ht
        have HSN := hid (show runM fz (startM ls) (hs.take (k + 1)) = passM s e fz by rw [List.take_add_one, he]; show runM fz _ (_ ++ [e]) = _; rw [runM_app, unhid HR]; rfl)
        have HNB := hid (show Below wr.heap.size wr (wr.alloc (.cells #[.int .i64 e.at_, .slice ea e.lines.length ec] 46)) from (Below.refl _ _).alloc (Nat.le_refl _) _)
        have TN := twoAt_new wr e.at_ (.slice ea e.lines.length ec) 46
        obtain ⟨⟨t0, _⟩, t1, _⟩ := TN
        clear hc he c0 c1 ht hk1 p3
        go_wp2_with fail
        refine (pass_any w _ g s ra rc dv fv e fz ea ec ((unhid HWK).step (unhid HNB)) (by omega) (by omega) (by omega) (by omega) (by omega) (by omega) p2 hec (unhid HZE) ((unhid HTE).below ((unhid HWK).below.trans ((unhid HNB).mono (unhid HWK).below.size)))).mono ?_
        rintro r W2 ⟨rfl, HW2⟩
        clear t0 t1 c0' c1' HNB
        cases hpm : passM s e fz with
        | none =>
          rw [hpm] at HW2
          have E := hid (patch_none (unhid HOK) (show outM ls hs (fz : Int) = none by rw [unhid HOUT, runM_none (k := k + 1) (by rw [unhid HSN, hpm])]; rfl))
          obtain ⟨ra2, rc2, dv2, fv2, hwk2⟩ := unhid HW2
          have HB2 := hid hwk2.below
          clear hwk2 hpm HW2
          go_wp2_with fail
          refine (slicesClone_any ls a cap W2 (by omega) ((unhid HA).below (unhid HB2)) (unhid HNIL)).mono ?_
          rintro r W3 ⟨cv, rfl, ho, hb⟩
          have HO3 := hid (ownsRow_baseX ho (unhid HB2).size)
          have HB3 := hid ((unhid HB2).trans (hb.mono (unhid HB2).size))
          clear ho hb
          go_wp2_with fail
          refine bodyPost_ret (v := .tuple #[cv, .slice none 0 0, .bool false]) (by simp [results, Try.results29]) rfl ?_
          obtain ⟨e0, e1, e2⟩ := unhid E
          exact ⟨_, _, by rw [e2], by rw [e0]; exact unhid HO3, by rw [e1]; exact World.ownsRow_nil _ _ _ _, (by cases hcv : cv.ownBlock with | none => exact .inl rfl | some x => exact .inr (fun e => by cases e)), unhid HB3⟩
        | some s2 =>
          rw [hpm] at HW2
          have HP2 := hid (passM_bound (unhid HP) p2 hpm)
          have HR2 := hid (show runM fz (startM ls) (hs.take (k + 1)) = some s2 by rw [unhid HSN, hpm])
          clear hpm
          go_wp2_with fail
          go_roundw
          case rel => exact ⟨k + 1, s2, by omega, by go_num, HR2, HW2, HP2⟩
          case measure => simp [intOf]; omega
      · have e : k = hs.length := by omega
        subst e
        rw [List.take_of_length_le (Nat.le_refl _)] at HR
        have HO2 := hid (show outM ls hs (fz : Int) = if textB (s.done ++ s.rest) then some (s.done ++ s.rest, s.far) else none by rw [unhid HOUT, unhid HR]; rfl)
        have c0 := (unhid HWK).four.c0
        go_wp2_with fail
        refine (left_any g ra s.rest.length rc wr c0).mono ?_
        rintro r w4 ⟨rfl, hw4⟩
        subst hw4
        go_wp2_with fail
        refine (keep_any w w4 g s.rest.length s ra rc dv fv (unhid HWK) (Nat.le_refl _) (by omega) (by omega)).mono ?_
        rintro r W5 ⟨u5, rfl, dv5, hwk5, _⟩
        rw [List.take_of_length_le (Nat.le_refl _)] at hwk5
        have HW5 := hid hwk5
        obtain ⟨d5, cc5, hdv5⟩ := ownsRow_sliceX hwk5.down
        subst hdv5
        have c1 := hwk5.four.c1
        have c2 := hwk5.four.c2
        have HTX := hid (show TxtsAt W5 d5 (s.done ++ s.rest) by
          obtain ⟨_, a', c', hv, ht2, _⟩ := txts_owns hwk5.down
          injection hv with e1 e2 e3
          subst e1
          exact ht2)
        dsimp only at c1 c2
        have hln : (s.done ++ s.rest).length ≤ 1000 := by rw [List.length_append]; omega
        have HBX := hid (show bigX (s.done ++ s.rest) from runM_big (unhid HZ) (fun h hh => (unhid HBG h hh).1) (unhid HR))
        have HTL := hid (textLinesOk_any (s.done ++ s.rest) d5 cc5 W5 (unhid HBX) (by unfold maxLen; omega) (unhid HTX))
        clear hwk5 c0 HBX HTX
        generalize hD : s.done ++ s.rest = D at *
        go_wp2_with fail
        refine (unhid HTL).mono ?_
        rintro r W6 ⟨rfl, hb⟩
        have HW6 := hid ((unhid HW5).step hb)
        clear hb c1 c2 HTL HW5
        cases htb : textB D
        · have E := hid (patch_none (unhid HOK) (show outM ls hs (fz : Int) = none by rw [unhid HO2, htb]; rfl))
          have HB6 := hid (unhid HW6).below
          clear htb HW6
          go_wp2_with fail
          refine (slicesClone_any ls a cap W6 (by omega) ((unhid HA).below (unhid HB6)) (unhid HNIL)).mono ?_
          rintro r W3 ⟨cv, rfl, ho, hb⟩
          have HO3 := hid (ownsRow_baseX ho (unhid HB6).size)
          have HB3 := hid ((unhid HB6).trans (hb.mono (unhid HB6).size))
          clear ho hb
          go_wp2_with fail
          refine bodyPost_ret (v := .tuple #[cv, .slice none 0 0, .bool false]) (by simp [results, Try.results29]) rfl ?_
          obtain ⟨e0, e1, e2⟩ := unhid E
          exact ⟨_, _, by rw [e2], by rw [e0]; exact unhid HO3, by rw [e1]; exact World.ownsRow_nil _ _ _ _, (by cases hcv : cv.ownBlock with | none => exact .inl rfl | some x => exact .inr (fun e => by cases e)), unhid HB3⟩
        · have E := hid (patch_some (unhid HOK) (show outM ls hs (fz : Int) = some (D, s.far) by rw [unhid HO2, htb]; rfl))
          have c1 := (unhid HW6).four.c1
          have c2 := (unhid HW6).four.c2
          obtain ⟨f6, fc6, hfv6⟩ := ownsRow_sliceX (unhid HW6).fown
          subst hfv6
          dsimp only at c1 c2
          clear htb
          go_wp2_with fail
          go_quiet (fail)
          have HF := hid (show ∃ X, X = W6.drewN nq ∧ Wk w X g ⟨D, s.rest.drop s.rest.length, s.far, s.later⟩ _ _ _ _ from ⟨_, rfl, (unhid HW6).step ⟨rfl, rfl, rfl, Nat.le_refl _, fun _ _ => rfl⟩⟩)
          obtain ⟨X, hX, hwkX⟩ := unhid HF
          rw [← hX]
          have HWX := hid hwkX
          clear hX hwkX HF c1 c2
          go_wp2_with fail
          refine bodyPost_ret (v := .tuple #[.slice d5 D.length cc5, .slice f6 s.far.length fc6, .bool true]) (by simp [results, Try.results29]) rfl ?_
          obtain ⟨e0, e1, e2⟩ := unhid E
          exact ⟨_, _, by rw [e2], by rw [e0]; exact (unhid HWX).down, by rw [e1]; exact (unhid HWX).fown, (unhid HWX).df, (unhid HWX).below⟩
end Go.Proofs.Ytedimkcnemhhpaa
