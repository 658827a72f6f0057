/- Of every code: drawn lines, and others: FnDiffBack answers true; the code is as it was. No condition. -/
import Derived.Test.YtedimkcnemhhpaaJoin1
import Derived.Test.YtedimkcnemhhpaaJoin8
import Derived.Test.YtedimkcnemhhpaaJoin7
namespace Go.Proofs.Ytedimkcnemhhpaa
open Go.ChangeShapes Go.WideShapes Go.ChangeAt Go.RowKit

theorem sub_str (x : ByteArray) (h : 0 < x.size) : x.extract 0 1 = (⟨#[x[0]]⟩ : ByteArray) := by
  apply ByteArray.ext
  apply Array.ext'
  have := str_cons h
  rw [Lib.extract_data, List.drop_zero] 
  rw [this]
  rfl
theorem turnX_size {x : ByteArray} (h : 0 < x.size) : (turnX x).size = x.size := by
  unfold turnX
  rw [ByteArray.size_append, ByteArray.size_extract]
  show 1 + (min x.size x.size - 1) = x.size
  omega
theorem turn_small {h : Hk} (hs : smallX h.lines) (hp : ∀ x ∈ h.lines, 0 < x.size) (hl : h.lines.length ≤ 30) : smallK [turnH h] := by
  have hl2 : (turnH h).lines.length = h.lines.length := List.length_map _
  refine ⟨by simp, by simp only [cntH]; omega, fun x hx => ?_⟩
  rw [List.mem_singleton.1 hx]
  refine ⟨by omega, fun y hy => ?_⟩
  obtain ⟨z, hz, rfl⟩ := List.mem_map.1 hy
  rw [turnX_size (hp z hz)]
  exact hs.2 z hz
theorem hks_new (W : World) (h : Hk) (la : Option Addr) (lc : Nat) (ht : TxtsAt W la h.lines) (hc : h.lines.length ≤ lc) : HksC (W.alloc (.cells #[.int .i64 h.at_, .slice la h.lines.length lc] 46)) (some ⟨W.heap.size, 0, none⟩) [h] := by
  refine .inr ⟨W.heap.size, 0, rfl, by simp, fun i x hi => ?_⟩
  have hi0 : i = 0 := by have := (List.getElem?_eq_some_iff.1 hi).1; simp at this; exact this
  subst hi0
  simp only [List.getElem?_cons_zero, Option.some.injEq] at hi
  subst hi
  exact ⟨la, lc, cell_arr (World.alloc_heap_new W _) _ _ rfl, cell_arr (World.alloc_heap_new W _) _ _ rfl, ht.below ((Below.refl _ _).alloc (Nat.le_refl _) _), hc⟩
theorem turn_cases {x : ByteArray} (hx : hkLineB x.data.toList = true) : ∃ d : UInt8, (d = 32 ∨ d = 45 ∨ d = 43) ∧ x.extract 0 1 = (⟨#[d]⟩ : ByteArray) ∧ turnX x = (⟨#[turnC d]⟩ : ByteArray) ++ x.extract 1 x.size := by
  have hp : 0 < x.size := by
    rw [Lib.size_eq]
    cases hl : x.data.toList with
    | nil => rw [hl] at hx; cases hx
    | cons d t => simp
  refine ⟨x[0], ?_, sub_str x hp, ?_⟩
  · rw [str_cons hp] at hx
    simp only [hkLineB, Bool.and_eq_true] at hx
    have h3 := hx.1
    unfold signB at h3
    simp only [Bool.or_eq_true, beq_iff_eq] at h3
    rcases h3 with (h3 | h3) | h3
    · exact .inl (UInt8.toNat_inj.1 (by show _ = 32; omega))
    · exact .inr (.inl (UInt8.toNat_inj.1 (by show _ = 45; omega)))
    · exact .inr (.inr (UInt8.toNat_inj.1 (by show _ = 43; omega)))
  · unfold turnX
    rw [str_cons hp]
    rfl
/-- A box whose lines are appended to. -/
structure TB (W0 : World) (gh : Nat) (at_ : Int) (lv : Value) (ls : List ByteArray) (W : World) : Prop where
  low : Below gh W0 W
  two : TwoAt W gh at_ lv
  lt : gh < W.heap.size
  own : W.ownsRow (gh + 1) 9 1 lv ls.length (ls.map Value.string)
theorem TB.step {W0 W W' : World} {gh : Nat} {at_ : Int} {lv : Value} {ls : List ByteArray} (h : TB W0 gh at_ lv ls W) (hb : Below W.heap.size W W') : TB W0 gh at_ lv ls W' :=
  ⟨h.low.trans (hb.mono (Nat.le_of_lt h.lt)), h.two.block (hb.block gh h.lt), Nat.lt_of_lt_of_le h.lt hb.size, owns_belowX h.own hb⟩
theorem TB.app {W0 W W' : World} {gh : Nat} {at_ : Int} {lv lv' : Value} {ls ls' : List ByteArray} (h : TB W0 gh at_ lv ls W) (hg : W.grownBy W' lv.ownBlock) (ho : W'.ownsRow (gh + 1) 9 1 lv' ls'.length (ls'.map Value.string)) :
    Below gh W0 W' ∧ TwoAt W' gh at_ lv ∧ TB W0 gh at_ lv' ls' (W'.setCell ⟨gh, 1, none⟩ lv') := by
  have hlo : ∀ j, lv.ownBlock = some j → gh + 1 ≤ j := fun j e => (h.own.lt j e).1
  have g1 : Below gh W0 W' := h.low.grown hg (Nat.le_of_lt h.lt) (fun j e => by have := hlo j e; omega)
  have t1 : TwoAt W' gh at_ lv := h.two.block (hg.block gh h.lt (fun e => by have := hlo gh e.symm; omega))
  have gs : W'.grownBy (W'.setCell ⟨gh, 1, none⟩ lv') (some gh) := ⟨rfl, rfl, rfl, by simp, fun k' _ hne => Below.heap_setCell W' ⟨gh, 1, none⟩ _ k' (fun e => hne (by rw [e]))⟩
  have hl : gh < W'.heap.size := Nat.lt_of_lt_of_le h.lt hg.size
  exact ⟨g1, t1, g1.grown gs (Nat.le_of_lt hl) (fun j e => by cases e; exact Nat.le_refl _), t1.set1 lv', by simpa using hl, owns_grown ho gs (.inr (fun e => by have := (ho.lt gh e).1; omega))⟩
theorem turn_snoc (ls : List ByteArray) (k : Nat) (x : ByteArray) (h : ls[k]? = some x) : (ls.take (k + 1)).map turnX = (ls.take k).map turnX ++ [turnX x] := by
  rw [List.take_add_one, h, List.map_append]
  rfl

set_option maxRecDepth 100000 in
set_option maxHeartbeats 8000000 in
theorem walk_FnDiffBack (a : Option Addr) (len cap : Nat) (w : World) (h : Code w w.heap.size a len) (hc : len ≤ cap) :
    Calls Try.prog 7 #[.slice a len cap] w fun e w' => e = .returned (.bool true) ∧ Below w.heap.size w w' := by
  have H := hid h
  clear h
  by_cases hl : (1048576 : Int) < len
  · go_enter Try.func7, Try.ntmps7
    go_wp2
    go_ret
    exact ⟨rfl, Below.refl _ _⟩
  go_enter Try.func7, Try.ntmps7
  go_wp2_with fail
  refine (DrawDiffOf_any w a len cap (unhid H) (by omega) hc).mono ?_
  rintro e W1 ⟨v, v2, xs, ys, rfl, hD⟩
  obtain ⟨la, lc, rfl, ht, hnil, hcap⟩ := hD.v
  obtain ⟨lb, lbc, rfl, ht2, hnil2, hcap2⟩ := hD.v2
  have hlx := hD.lx
  have hly := hD.ly
  have SX := hid hD.sx
  have SY := hid hD.sy
  have CX := hid (And.intro hnil hcap)
  have CY := hid (And.intro hnil2 hcap2)
  have K1 := hid (show Kp w w.heap.size W1 [(la, xs), (lb, ys)] [] [] from ⟨hD.low, hD.low.size, (fun x hx => by
    rcases List.mem_cons.1 hx with rfl | hx
    · exact ht
    · rw [List.mem_singleton.1 hx]; exact ht2), (fun x hx => by cases hx), (fun x hx => by cases hx)⟩)
  clear hD ht hnil hcap ht2 hnil2 hcap2 H
  go_wp2_with fail
  refine (DiffOf_any xs ys la lb lc lbc _ (smallX_len (unhid SX)) (smallX_len (unhid SY)) (smallX_big (unhid SX)) (smallX_big (unhid SY)) (unhid CX).2 (unhid CY).2 ((unhid K1).txts (by simp)) ((unhid K1).txts (by simp))).mono ?_
  rintro e W2 ⟨v2, rfl, ho, hb⟩
  obtain ⟨ap, cp, rfl, hk⟩ := diff_kp (unhid K1) ho hb
  have K2 := hid hk
  clear ho hb hk K1
  go_wp2_with fail
  refine (specDiffOf_any xs ys la lb lc lbc _ (smallX_len (unhid SX)) (smallX_len (unhid SY)) (smallX_big (unhid SX)) (smallX_big (unhid SY)) ((unhid K2).txts (by simp)) ((unhid K2).txts (by simp))).mono ?_
  rintro e W3 ⟨v3, rfl, ho, hb⟩
  obtain ⟨aq, cq, rfl, hk⟩ := diff_kp (unhid K2) ho hb
  have K3 := hid hk
  clear ho hb hk K2
  have SD := hid (show smallK (diffL xs ys) from diffOf_small xs ys (unhid SX) (unhid SY))
  have LD := diff_len xs ys
  go_wp2_with fail
  refine (jsHunks_same (diffL xs ys) ap aq cp cq _ (Nat.le_trans (unhid SD).1 (by simp [maxLen])) (fun h hh => smallX_len ((unhid SD).2.2 h hh)) ((unhid K3).hks (by simp)).at ((unhid K3).hks (by simp)).at).mono ?_
  rintro e W4 ⟨rfl, hb⟩
  have K4 := hid ((unhid K3).step hb)
  clear hb K3
  by_cases h0 : diffL xs ys = []
  · have h0' : (((diffL xs ys).length : Int) == 0) = true := by rw [h0]; rfl
    clear h0
    go_wp2_with fail
    refine (specDiffOf_any xs ys la lb lc lbc _ (smallX_len (unhid SX)) (smallX_len (unhid SY)) (smallX_big (unhid SX)) (smallX_big (unhid SY)) ((unhid K4).txts (by simp)) ((unhid K4).txts (by simp))).mono ?_
    rintro e W5 ⟨v5, rfl, ho, hb⟩
    obtain ⟨ar, cr, rfl, hk⟩ := diff_kp (unhid K4) ho hb
    have K5 := hid hk
    clear ho hb hk K4
    go_wp2_with fail
    refine (jsHunks_same (diffL xs ys) ap ar cp cr _ (Nat.le_trans (unhid SD).1 (by simp [maxLen])) (fun h hh => smallX_len ((unhid SD).2.2 h hh)) ((unhid K5).hks (by simp)).at ((unhid K5).hks (by simp)).at).mono ?_
    rintro e W6 ⟨rfl, hb⟩
    have K6 := hid ((unhid K5).step hb)
    clear hb K5
    go_wp2_with fail
    go_ret
    exact ⟨rfl, (unhid K6).1⟩
  have h0' : (((diffL xs ys).length : Int) == 0) = false := by rw [beq_eq_false_iff_ne]; intro e; exact h0 (List.length_eq_zero_iff.1 (by omega))
  have PP := hid (patch_back (a := xs) (b := ys) h0)
  have PH := hid (patch_diff (a := xs) (b := ys) h0).2.2.2
  have HD0 := hid (diffL_some h0).1
  generalize hdh : dHunk xs ys = h at *
  clear hdh
  have HB := hid (hkB_parts ((hunksB_mem (hs := [h]) (by rw [← unhid HD0]; exact unhid PH)).2 h (by simp)).1)
  clear h0 PH
  generalize hgD : diffL xs ys = D at *
  clear hgD
  have hDl : 0 < D.length := by rw [unhid HD0]; simp
  obtain ⟨hb, ho, rfl, hbl, hc⟩ := ((unhid K4).hks (show (ap, D) ∈ _ by simp)).get (by intro e; rw [e] at hDl; simp at hDl)
  obtain ⟨ll, llc, c0, c1, ht, -⟩ := hc 0 h (by rw [unhid HD0]; rfl)
  simp only [Nat.zero_mul, Nat.add_zero] at c0 c1
  have C1 := hid (show ∀ W, Below W4.heap.size W4 W → W.cell? ⟨hb, ho + 1, none⟩ = some (.slice ll h.lines.length llc) from fun W hW => (hW.cell (p := ⟨hb, ho + 1, none⟩) hbl).trans c1)
  have HT := hid ht
  clear hc ht c1
  have hln := (unhid HB).2.1
  have HLB := hid (unhid HB).2.2
  have LS := hid ((unhid SD).2.2 h (by rw [unhid HD0]; simp))
  have HTB := hid (show TB W4 W4.heap.size h.at_ (.slice none 0 0) [] (W4.alloc (.cells #[.int .i64 h.at_, .slice none 0 0] 46)) from ⟨(Below.refl _ _).alloc (Nat.le_refl _) _, twoAt_new _ _ _ _, by simp, World.ownsRow_nil _ _ _ _⟩)
  go_wp2_with fail
  generalize hgh : W4.heap.size = gh at HTB C1 ⊢
  have hge : W4.heap.size ≤ gh := Nat.le_of_eq hgh
  have hge2 : gh ≤ W4.heap.size := Nat.le_of_eq hgh.symm
  clear hgh
  obtain ⟨at_, ls⟩ := h
  dsimp only at *
  go_loopw [7] (fun i wr => ∃ (k : Nat) (oa : Option Addr) (oc : Nat), k ≤ ls.length ∧ i = .int .i64 (k : Int) ∧ Hid (TB W4 gh at_ (.slice oa k oc) ((ls.take k).map turnX) wr)) (fun i _ => ls.length - (intOf i).toNat)
  case atStart => exact ⟨0, none, 0, by omega, rfl, HTB⟩
  case round =>
    clear HTB
    obtain ⟨k, oa, oc, hk, rfl, HTB⟩ := hrel
    have c1 := unhid C1 wr (unhid HTB).low
    by_cases hlt : k < ls.length
    · obtain ⟨x, hex⟩ : ∃ e, ls[k]? = some e := ⟨ls[k], List.getElem?_eq_getElem hlt⟩
      obtain ⟨lb2, lo, rfl, hlb, hlc⟩ := (unhid HT).get (by intro e; rw [e] at hlt; simp at hlt)
      have c2 := ((unhid HTB).low.cell (p := ⟨lb2, lo + k, none⟩) (Nat.lt_of_lt_of_le hlb hge)).trans (hlc k x hex)
      have z1 := linesB_pos (unhid HLB) x (List.mem_of_getElem? hex)
      have z3 : x.size ≤ 1048576 := (unhid LS).2 x (List.mem_of_getElem? hex)
      obtain ⟨d, hd, he1, het⟩ := turn_cases (List.all_eq_true.1 (unhid HLB) x (List.mem_of_getElem? hex))
      have E := hid (turn_snoc ls k x hex)
      have HET := hid het
      have LK := hid (show ((ls.take k).map turnX).length = k by rw [List.length_map, List.length_take]; omega)
      have hlk : ((ls.take k).map turnX).length ≤ 30 := by rw [unhid LK]; omega
      clear hlc hex hlb het
      generalize (ls.take k).map turnX = ts at *
      generalize turnX x = tx at *
      rcases hd with rfl | rfl | rfl
      · have hy : tx = (⟨#[32]⟩ : ByteArray) ++ x.extract 1 x.size := unhid HET
        clear HET
        have hys : ((⟨#[32]⟩ : ByteArray) ++ x.extract 1 x.size).size ≤ 1048577 := by rw [ByteArray.size_append, ByteArray.size_extract]; show 1 + _ ≤ _; omega
        go_wp2_with fail
        have gq : ∀ x : CW (fun w' => Below gh W4 w' ∧ TwoAt w' gh at_ (.slice oa k oc)), x.w.cell? ⟨gh, 1, none⟩ = some (.slice oa k oc) := fun x => x.h.2.2.1
        have HLd := hid ((unhid HTB).step (drew_belowX wr))
        have hba : ∀ {q : Prop}, (CW (fun w' => Below gh W4 w' ∧ TwoAt w' gh at_ (.slice oa k oc)) → q) ↔ q := CW.all ⟨(unhid HLd).low, (unhid HLd).two⟩
        refine heldE_begin 9 (fun w' => Below gh W4 w' ∧ TwoAt w' gh at_ (.slice oa k oc)) (by kernel_rfl) ?_
        refine heldE_here [true, true, true, true, true, true] (by kernel_rfl) (by kernel_rfl) (fun _ _ _ _ _ h => h) ⟨(unhid HLd).low, (unhid HLd).two⟩ ?_
        dsimp only [pick]
        repeat (go_big_quiet_step (fail))
        refine wpQuiet_nil ?_
        clear hba gq HTB hys
        rw [← hy]
        clear hy
        generalize wr.drew = W7 at HLd ⊢
        refine heldE_op 6 (by kernel_rfl) (by kernel_rfl) rfl (fun K hK => ?_)
        go_simp
        have TN := hid (one_new W7 tx)
        have HL' := hid ((unhid HLd).step ((Below.refl _ _).alloc (Nat.le_refl _) (.cells #[.string tx] 9)))
        refine hK.out _ _ ⟨(unhid HL').low, (unhid HL').two⟩ ?_
        clear hK K HLd
        generalize W7.alloc (.cells #[.string tx] 9) = W9 at TN HL' ⊢
        generalize W7.heap.size = g8 at TN ⊢
        refine heldE_op 7 (by kernel_rfl) (by kernel_rfl) rfl (fun K hK => ?_)
        refine app_op 74 (gh + 1) (.slice oa k oc) ts [tx] (some ⟨g8, 0, none⟩) 1 rfl rfl rfl rfl rfl (unhid HL').own (unhid TN) (fun e => by cases e) (by simp only [List.length_cons, List.length_nil]; omega) (unhid HL').lt ?_
        intro v2 W10 ho hg _
        obtain ⟨ga, t2, hl⟩ := (unhid HL').app hg ho
        refine hK.out _ _ ⟨ga, t2⟩ ?_
        clear hK K HL' TN hg
        rw [show (ts ++ [tx]).length = k + 1 by rw [List.length_append, unhid LK]; rfl] at ho
        obtain ⟨va, vc, hv⟩ := ownsRow_sliceX ho
        subst hv
        rw [← unhid E] at hl
        have HL := hid hl
        clear hl ho
        simp only [Act.put, List.setIfInBounds_toArray, List.set_cons_zero, List.set_cons_succ]
        have hba : ∀ {q : Prop}, (CW (fun w' => Below gh W4 w' ∧ TwoAt w' gh at_ (.slice oa k oc)) → q) ↔ q := CW.all ⟨ga, t2⟩
        refine heldE_here [false, false, false, false, false, false, false, false, true] (by kernel_rfl) (by kernel_rfl) (fun _ _ _ _ _ h => h) ⟨ga, t2⟩ ?_
        dsimp only [pick]
        repeat (go_big_quiet_step (fail))
        refine wpQuiet_nil ?_
        clear hba ga
        obtain ⟨-, f2, f3⟩ := t2
        refine heldE_last (by kernel_rfl) (by kernel_rfl) rfl (fun K hK => ?_)
        go_simp
        refine hK.out _ _ ?_
        clear hK K f2 f3
        refine heldE_done (by kernel_rfl) ?_
        go_wp2_with fail
        go_roundw
        case rel => exact ⟨k + 1, va, vc, by omega, by go_num, HL⟩
        case measure => simp [intOf]; omega
      · have hy : tx = (⟨#[43]⟩ : ByteArray) ++ x.extract 1 x.size := unhid HET
        clear HET
        have hys : ((⟨#[43]⟩ : ByteArray) ++ x.extract 1 x.size).size ≤ 1048577 := by rw [ByteArray.size_append, ByteArray.size_extract]; show 1 + _ ≤ _; omega
        go_wp2_with fail
        have gq : ∀ x : CW (fun w' => Below gh W4 w' ∧ TwoAt w' gh at_ (.slice oa k oc)), x.w.cell? ⟨gh, 1, none⟩ = some (.slice oa k oc) := fun x => x.h.2.2.1
        have HLd := hid ((unhid HTB).step (drew_belowX wr))
        have hba : ∀ {q : Prop}, (CW (fun w' => Below gh W4 w' ∧ TwoAt w' gh at_ (.slice oa k oc)) → q) ↔ q := CW.all ⟨(unhid HLd).low, (unhid HLd).two⟩
        refine heldE_begin 9 (fun w' => Below gh W4 w' ∧ TwoAt w' gh at_ (.slice oa k oc)) (by kernel_rfl) ?_
        refine heldE_here [true, true, true, true, true, true] (by kernel_rfl) (by kernel_rfl) (fun _ _ _ _ _ h => h) ⟨(unhid HLd).low, (unhid HLd).two⟩ ?_
        dsimp only [pick]
        repeat (go_big_quiet_step (fail))
        refine wpQuiet_nil ?_
        clear hba gq HTB hys
        rw [← hy]
        clear hy
        generalize wr.drew = W7 at HLd ⊢
        refine heldE_op 6 (by kernel_rfl) (by kernel_rfl) rfl (fun K hK => ?_)
        go_simp
        have TN := hid (one_new W7 tx)
        have HL' := hid ((unhid HLd).step ((Below.refl _ _).alloc (Nat.le_refl _) (.cells #[.string tx] 9)))
        refine hK.out _ _ ⟨(unhid HL').low, (unhid HL').two⟩ ?_
        clear hK K HLd
        generalize W7.alloc (.cells #[.string tx] 9) = W9 at TN HL' ⊢
        generalize W7.heap.size = g8 at TN ⊢
        refine heldE_op 7 (by kernel_rfl) (by kernel_rfl) rfl (fun K hK => ?_)
        refine app_op 74 (gh + 1) (.slice oa k oc) ts [tx] (some ⟨g8, 0, none⟩) 1 rfl rfl rfl rfl rfl (unhid HL').own (unhid TN) (fun e => by cases e) (by simp only [List.length_cons, List.length_nil]; omega) (unhid HL').lt ?_
        intro v2 W10 ho hg _
        obtain ⟨ga, t2, hl⟩ := (unhid HL').app hg ho
        refine hK.out _ _ ⟨ga, t2⟩ ?_
        clear hK K HL' TN hg
        rw [show (ts ++ [tx]).length = k + 1 by rw [List.length_append, unhid LK]; rfl] at ho
        obtain ⟨va, vc, hv⟩ := ownsRow_sliceX ho
        subst hv
        rw [← unhid E] at hl
        have HL := hid hl
        clear hl ho
        simp only [Act.put, List.setIfInBounds_toArray, List.set_cons_zero, List.set_cons_succ]
        have hba : ∀ {q : Prop}, (CW (fun w' => Below gh W4 w' ∧ TwoAt w' gh at_ (.slice oa k oc)) → q) ↔ q := CW.all ⟨ga, t2⟩
        refine heldE_here [false, false, false, false, false, false, false, false, true] (by kernel_rfl) (by kernel_rfl) (fun _ _ _ _ _ h => h) ⟨ga, t2⟩ ?_
        dsimp only [pick]
        repeat (go_big_quiet_step (fail))
        refine wpQuiet_nil ?_
        clear hba ga
        obtain ⟨-, f2, f3⟩ := t2
        refine heldE_last (by kernel_rfl) (by kernel_rfl) rfl (fun K hK => ?_)
        go_simp
        refine hK.out _ _ ?_
        clear hK K f2 f3
        refine heldE_done (by kernel_rfl) ?_
        go_wp2_with fail
        go_roundw
        case rel => exact ⟨k + 1, va, vc, by omega, by go_num, HL⟩
        case measure => simp [intOf]; omega
      · have hy : tx = (⟨#[45]⟩ : ByteArray) ++ x.extract 1 x.size := unhid HET
        clear HET
        have hys : ((⟨#[45]⟩ : ByteArray) ++ x.extract 1 x.size).size ≤ 1048577 := by rw [ByteArray.size_append, ByteArray.size_extract]; show 1 + _ ≤ _; omega
        go_wp2_with fail
        have gq : ∀ x : CW (fun w' => Below gh W4 w' ∧ TwoAt w' gh at_ (.slice oa k oc)), x.w.cell? ⟨gh, 1, none⟩ = some (.slice oa k oc) := fun x => x.h.2.2.1
        have HLd := hid ((unhid HTB).step (drew_belowX wr))
        have hba : ∀ {q : Prop}, (CW (fun w' => Below gh W4 w' ∧ TwoAt w' gh at_ (.slice oa k oc)) → q) ↔ q := CW.all ⟨(unhid HLd).low, (unhid HLd).two⟩
        refine heldE_begin 9 (fun w' => Below gh W4 w' ∧ TwoAt w' gh at_ (.slice oa k oc)) (by kernel_rfl) ?_
        refine heldE_here [true, true, true, true, true, true] (by kernel_rfl) (by kernel_rfl) (fun _ _ _ _ _ h => h) ⟨(unhid HLd).low, (unhid HLd).two⟩ ?_
        dsimp only [pick]
        repeat (go_big_quiet_step (fail))
        refine wpQuiet_nil ?_
        clear hba gq HTB hys
        rw [← hy]
        clear hy
        generalize wr.drew = W7 at HLd ⊢
        refine heldE_op 6 (by kernel_rfl) (by kernel_rfl) rfl (fun K hK => ?_)
        go_simp
        have TN := hid (one_new W7 tx)
        have HL' := hid ((unhid HLd).step ((Below.refl _ _).alloc (Nat.le_refl _) (.cells #[.string tx] 9)))
        refine hK.out _ _ ⟨(unhid HL').low, (unhid HL').two⟩ ?_
        clear hK K HLd
        generalize W7.alloc (.cells #[.string tx] 9) = W9 at TN HL' ⊢
        generalize W7.heap.size = g8 at TN ⊢
        refine heldE_op 7 (by kernel_rfl) (by kernel_rfl) rfl (fun K hK => ?_)
        refine app_op 74 (gh + 1) (.slice oa k oc) ts [tx] (some ⟨g8, 0, none⟩) 1 rfl rfl rfl rfl rfl (unhid HL').own (unhid TN) (fun e => by cases e) (by simp only [List.length_cons, List.length_nil]; omega) (unhid HL').lt ?_
        intro v2 W10 ho hg _
        obtain ⟨ga, t2, hl⟩ := (unhid HL').app hg ho
        refine hK.out _ _ ⟨ga, t2⟩ ?_
        clear hK K HL' TN hg
        rw [show (ts ++ [tx]).length = k + 1 by rw [List.length_append, unhid LK]; rfl] at ho
        obtain ⟨va, vc, hv⟩ := ownsRow_sliceX ho
        subst hv
        rw [← unhid E] at hl
        have HL := hid hl
        clear hl ho
        simp only [Act.put, List.setIfInBounds_toArray, List.set_cons_zero, List.set_cons_succ]
        have hba : ∀ {q : Prop}, (CW (fun w' => Below gh W4 w' ∧ TwoAt w' gh at_ (.slice oa k oc)) → q) ↔ q := CW.all ⟨ga, t2⟩
        refine heldE_here [false, false, false, false, false, false, false, false, true] (by kernel_rfl) (by kernel_rfl) (fun _ _ _ _ _ h => h) ⟨ga, t2⟩ ?_
        dsimp only [pick]
        repeat (go_big_quiet_step (fail))
        refine wpQuiet_nil ?_
        clear hba ga
        obtain ⟨-, f2, f3⟩ := t2
        refine heldE_last (by kernel_rfl) (by kernel_rfl) rfl (fun K hK => ?_)
        go_simp
        refine hK.out _ _ ?_
        clear hK K f2 f3
        refine heldE_done (by kernel_rfl) ?_
        go_wp2_with fail
        go_roundw
        case rel => exact ⟨k + 1, va, vc, by omega, by go_num, HL⟩
        case measure => simp [intOf]; omega
    · have e : k = ls.length := by omega
      subst e
      rw [List.take_length] at HTB
      have SN := hid (turn_small (h := ⟨at_, ls⟩) (unhid LS) (fun x hx => linesB_pos (unhid HLB) x hx) hln)
      have LM : (ls.map turnX).length = ls.length := List.length_map _
      obtain ⟨⟨f0, f1⟩, f2, f3⟩ := (unhid HTB).two
      obtain ⟨oa', oc', hov, hot, hon, hocap⟩ := owns_cap (unhid HTB).own
      injection hov with e1 e2 e3
      subst e1
      subst e3
      clear e2 hon
      have hK := hks_new wr ⟨at_, ls.map turnX⟩ oa oc hot hocap
      dsimp only at hK
      rw [LM] at hK
      have KA := hid ((((unhid K4).step ((unhid HTB).low.mono hge)).alloc (.cells #[.int .i64 at_, .slice oa ls.length oc] 46)).putH hK)
      clear hK hot hocap LM HTB K4 LS HLB SD HB HD0 C1 HT
      go_wp2_with fail
      refine (Patch_any ys [turnH ⟨at_, ls⟩] 0 lb (some ⟨wr.heap.size, 0, none⟩) lbc 1 _ (smallX_len (unhid SY)) (smallX_big (unhid SY)) (unhid CY).2 (unhid CY).1 (by simp [maxLen]) (smallK_big (unhid SN)) ((unhid KA).txts (by simp)) ((unhid KA).hks List.mem_cons_self)).mono ?_
      rintro e W24 hpo
      obtain ⟨ax, cx, ix, jx, rfl, -, -, h2, hk⟩ := patch_kp (unhid KA) hpo
      have K24 := hid hk
      clear hpo hk KA
      generalize patch_0 ys [turnH ⟨at_, ls⟩] 0 = x0 at *
      generalize patch_1 ys [turnH ⟨at_, ls⟩] 0 = x1 at *
      generalize patch_2 ys [turnH ⟨at_, ls⟩] 0 = x2 at *
      obtain ⟨e2, e0⟩ := unhid PP
      subst e2
      subst e0
      go_wp2_with fail
      refine (jsTexts_same x0 ax la cx lc _ (smallX_len (unhid SX)) ((unhid K24).txts (by simp)) ((unhid K24).txts (by simp))).mono ?_
      rintro e W25 ⟨rfl, hb2⟩
      have K25 := hid ((unhid K24).step hb2)
      clear hb2 K24
      go_wp2_with fail
      go_ret
      exact ⟨rfl, (unhid K25).1⟩

set_option maxRecDepth 100000 in
set_option maxHeartbeats 1000000 in
theorem lifted_FnDiffBack (os : Os) (started : os.Started) (H : Type) (enc : TypeId × Value → H) :
    ReturnsInHanded {} Try.checked os 7 .any (Rows.fnDiffBackSpec.pre6 enc Try.prog Try.f7 Rows.fnDiffBackRow.domain false) (Rows.fnDiffBackSpec.post enc Try.prog Try.f7 false true false false) := by
  refine returnsInHanded_of_change (C := Try.checked) own started (by kernel_rfl) Try.func7
    (ChangeSpec.witness6 (enc := enc) (C := Try.checked) false ⟨#[], #[.slice none 0 0], []⟩ 8 (by kernel_rfl) (by kernel_rfl) (by kernel_rfl) (by kernel_rfl)) ?_
  intro W base args ds gs before hval0 hW _ _
  have hval : ∀ (j : Nat) t v, Try.f7.params[j]? = some t → args[j]? = some v → Value.okWide Try.prog W .any base t v := hval0
  have hW' := hW
  obtain ⟨p, q, hA0, hV, rfl, hfz, hnd⟩ := hW
  have hA : DataW.TrodAll enc Try.prog W 0 (fun _ => true) true Try.f7.params.toList args.toList ds p := hA0
  rw [Try.params7] at hA hval
  obtain ⟨v0, vs0, d0, ds0, p0, q0, e0, rfl, rfl, h0, r0⟩ := trodAll_cons hA
  obtain ⟨rfl, rfl, rfl⟩ := trodAll_nil r0
  obtain rfl : args = #[v0] := by cases args; simp_all
  obtain ⟨rfl, rfl⟩ := trodVars_none hV
  have hlt : ∀ x ∈ p0, x.block < W.heap.size := fun x hx => by simpa using hW'.lt x (by simpa using hx)
  have t0 := h0
  have l0 : ∀ x ∈ p0, x.block < W.heap.size := fun x hx => hlt x (by simp [hx])
  obtain ⟨a0, len0, cap0, rfl⟩ := okWide_slice Try.underlying41 (hval 0 41 v0 rfl rfl)
  obtain ⟨hc0, hn0⟩ := code_of h0 l0
  clear hA0 hval0
  refine (walk_FnDiffBack a0 len0 cap0 W hc0 hn0).mono fun e W' ⟨he, hb⟩ => ?_
  subst he
  exact ⟨_, rfl, post_below (gs := []) (pv := []) hW' (fun _ _ _ => trodAll_cons_mk (shut_bool Try.underlying4 _) trodAll_mk0) (trodAll_cons_mk (Below.trod laidOut (by kernel_rfl) (of_decide_eq_true (by kernel_rfl)) t0 hb l0) trodAll_mk0) rfl (by simp) hb⟩

theorem fnDiffBack_holds : Rows.FnDiffBackSaid :=
  OpenClaim.holds_of_wide 7 Try.f7 rfl rfl rfl rfl rfl rfl rfl ⟨rfl, rfl, rfl, rfl, rfl⟩ rfl rfl rfl rfl rfl (by kernel_rfl) Try.func7 (by kernel_rfl)
    (of_decide_eq_true (by kernel_rfl)) (by unfold Func.isWrapper; first | (rw [if_pos (by decide +kernel)]; kernel_rfl) | (rw [if_neg (by decide +kernel)]; exact ⟨rfl, rfl⟩))
    (fun os started H enc _ => lifted_FnDiffBack os started H enc)
end Go.Proofs.Ytedimkcnemhhpaa
