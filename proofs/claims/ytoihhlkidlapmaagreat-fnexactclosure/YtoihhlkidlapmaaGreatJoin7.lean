/- Texts of this proof, one behind the other; each says at its head what it shows. -/
import Derived.Test.YtoihhlkidlapmaaGreatJoin4
import Derived.Test.YtoihhlkidlapmaaGreatJoin5
import Derived.Test.YtoihhlkidlapmaaGreatJoin6
import Derived.Test.YtoihhlkidlapmaaGreatJoin1
import Derived.Test.YtoihhlkidlapmaaGreatJoin2
import Derived.Maps.OwnSet
import Derived.StringKeys
/- Whether a pack is ok. -/
namespace Go.Proofs.YtoihhlkidlapmaaGreat
open Go.RowKit Go.Shelf

def pkOk (p : PackD) : Bool := packB p.name.data.toList && versOk p.version.data.toList && ((p.needs.all needOkD && decide (p.needs.length ≤ 6)) && !twiceB (p.name :: namesN p.needs)) && treeB (entsD p.tree)
structure smallP (p : PackD) : Prop where
  name : p.name.size ≤ 1048576
  version : p.version.size ≤ 1048576
  needs : smallN p.needs
  tree : smallE (entsD p.tree)
theorem smallP_of {p : PackD} (h : packC.sz p ≤ 1048576) : smallP p := by
  rw [packC_sz] at h
  exact ⟨by omega, by omega, smallN_of (by omega), smallE_of (by omega)⟩
theorem twice_swap (n : ByteArray) (xs : List ByteArray) : twiceB (xs ++ [n]) = twiceB (n :: xs) := by
  unfold twiceB
  rw [show decide (xs ++ [n]).Nodup = decide (n :: xs).Nodup from decide_eq_decide.2 (List.perm_append_comm (l₁ := xs) (l₂ := [n])).nodup_iff]

set_option maxRecDepth 100000 in
set_option maxHeartbeats 4000000 in
theorem specPackOk_any (p : PackD) (cs : List Value) (w : World) (hs : smallP p) (h : packC.at_ w cs p) :
    Calls Tryz.prog 122 #[.agg cs.toArray] w fun x w' => x = .returned (.bool (pkOk p)) ∧ Below w.heap.size w w' := by
  obtain ⟨v2, v3, rfl, h2, h3⟩ := packC_at h
  obtain ⟨name, version, needs, tree⟩ := p
  obtain ⟨hsn, hsv, hsd, hst⟩ := hs
  dsimp only at *
  have H2 := hid h2
  obtain ⟨ta, tc, rfl, htn, htc, hte⟩ := entsD_at h3
  have H3 := hid hte
  have SN := hid hsn
  have SV := hid hsv
  have SD := hid hsd
  have ST := hid hst
  have EQ := hid (show pkOk ⟨name, version, needs, tree⟩ = (packB name.data.toList && versOk version.data.toList && ((needs.all needOkD && decide (needs.length ≤ 6)) && !twiceB (name :: namesN needs)) && treeB (entsD tree)) from rfl)
  clear h h2 h3 hsn hsv hsd hst htn htc hte
  go_enter Tryz.func122, Tryz.ntmps122
  go_wp2_with fail
  have hP := World.alloc_heap_new w (.cells #[.string name, .string version, v2, .slice ta (entsD tree).length tc] 34)
  have hB : Below w.heap.size w (w.alloc (.cells #[.string name, .string version, v2, .slice ta (entsD tree).length tc] 34)) := (Below.refl _ w).alloc (Nat.le_refl _) _
  have hS : w.heap.size < (w.alloc (.cells #[.string name, .string version, v2, .slice ta (entsD tree).length tc] 34)).heap.size := by simp
  generalize w.alloc (.cells #[.string name, .string version, v2, .slice ta (entsD tree).length tc] 34) = W0 at hP hB hS ⊢
  have HB := hid hB
  have JP := hid hP
  have JS := hid hS
  clear hB hP hS
  refine (l3Pack_any name (le_maxLen (unhid SN)) W0).mono ?_
  rintro x w1 ⟨rfl, hw⟩
  subst hw
  obtain c1 := cell_arrS (unhid JP) 1 _ rfl
  cases q1 : packB name.data.toList with
  | false =>
    go_wp2_with fail
    go_ret
    exact ⟨by rw [unhid EQ, q1]; rfl, unhid HB⟩
  | true =>
  go_wp2_with fail
  clear c1
  refine (specVersionOk_any version (unhid SV) _).mono ?_
  rintro x w2 ⟨rfl, hb⟩
  have HB2 := hid ((unhid HB).trans (hb.mono (unhid HB).size))
  have JP2 := hid ((hb.block _ (unhid JS)).trans (unhid JP))
  have JS2 := hid (Nat.lt_of_lt_of_le (unhid JS) hb.size)
  clear hb HB JP JS
  obtain c0 := cell_arrS (unhid JP2) 0 _ rfl
  obtain c2 := cell_arrS (unhid JP2) 2 _ rfl
  cases q2 : versOk version.data.toList with
  | false =>
    go_wp2_with fail
    go_ret
    exact ⟨by rw [unhid EQ, q1, q2]; rfl, unhid HB2⟩
  | true =>
  go_wp2_with fail
  clear c0 c2
  refine (l7Needs_any name needs v2 _ (unhid SD) ((unhid H2).below (unhid HB2))).mono ?_
  rintro x w3 ⟨rfl, hb⟩
  have HB3 := hid ((unhid HB2).trans (hb.mono (unhid HB2).size))
  have JP3 := hid ((hb.block _ (unhid JS2)).trans (unhid JP2))
  clear hb HB2 JP2 JS2
  obtain c3 := cell_arrS (unhid JP3) 3 _ rfl
  cases q3 : ((needs.all needOkD && decide (needs.length ≤ 6)) && !twiceB (name :: namesN needs)) with
  | false =>
    go_wp2_with fail
    go_ret
    exact ⟨by rw [unhid EQ, q1, q2, q3]; rfl, unhid HB3⟩
  | true =>
  go_wp2_with fail
  clear c3
  refine (specTreeOk_any (entsD tree) ta tc _ (unhid ST) ((unhid H3).below (unhid HB3))).mono ?_
  rintro x w4 ⟨rfl, hb⟩
  have HB4 := hid ((unhid HB3).trans (hb.mono (unhid HB3).size))
  clear hb HB3
  go_wp2_with fail
  go_ret
  exact ⟨by rw [unhid EQ, q1, q2, q3]; rfl, unhid HB4⟩

set_option maxRecDepth 100000 in
set_option maxHeartbeats 4000000 in
theorem packOk_any (p : PackD) (cs : List Value) (w : World) (hs : smallP p) (h : packC.at_ w cs p) :
    Calls Tryz.prog 60 #[.agg cs.toArray] w fun x w' => x = .returned (.bool (pkOk p)) ∧ Below w.heap.size w w' := by
  obtain ⟨v2, v3, rfl, h2, h3⟩ := packC_at h
  obtain ⟨name, version, needs, tree⟩ := p
  obtain ⟨hsn, hsv, hsd, hst⟩ := hs
  dsimp only at *
  have H2 := hid h2
  obtain ⟨ta, tc, rfl, htn, htc, hte⟩ := entsD_at h3
  obtain ⟨na, nc, rfl, -, -, -⟩ := h2
  have H3 := hid hte
  have SN := hid hsn
  have SV := hid hsv
  have SD := hid hsd
  have ST := hid hst
  have EQ := hid (show pkOk ⟨name, version, needs, tree⟩ = (packB name.data.toList && versOk version.data.toList && ((needs.all needOkD && decide (needs.length ≤ 6)) && !twiceB (name :: namesN needs)) && treeB (entsD tree)) from rfl)
  clear h h3 hsn hsv hsd hst htn htc hte
  go_enter Tryz.func60, Tryz.ntmps60
  go_wp2_with fail
  have hP := World.alloc_heap_new w (.cells #[.string name, .string version, .slice na needs.length nc, .slice ta (entsD tree).length tc] 34)
  have hB : Below w.heap.size w (w.alloc (.cells #[.string name, .string version, .slice na needs.length nc, .slice ta (entsD tree).length tc] 34)) := (Below.refl _ w).alloc (Nat.le_refl _) _
  have hS : w.heap.size < (w.alloc (.cells #[.string name, .string version, .slice na needs.length nc, .slice ta (entsD tree).length tc] 34)).heap.size := by simp
  generalize w.alloc (.cells #[.string name, .string version, .slice na needs.length nc, .slice ta (entsD tree).length tc] 34) = W0 at hP hB hS ⊢
  have HB := hid hB
  have JP := hid hP
  have JS := hid hS
  clear hB hP hS
  have g0 : ∀ x : CW (fun w' => Below W0.heap.size W0 w'), x.w.cell? ⟨w.heap.size, 0, none⟩ = some (.string name) := fun x => cell_arrS ((x.h.block _ (unhid JS)).trans (unhid JP)) 0 _ rfl
  have g2 : ∀ x : CW (fun w' => Below W0.heap.size W0 w'), x.w.cell? ⟨w.heap.size, 2, none⟩ = some (.slice na needs.length nc) := fun x => cell_arrS ((x.h.block _ (unhid JS)).trans (unhid JP)) 2 _ rfl
  have hba : ∀ {q : Prop}, (CW (fun w' => Below W0.heap.size W0 w') → q) ↔ q := CW.all (Below.refl _ W0)
  refine held_begin (fun w' => Below W0.heap.size W0 w') (by kernel_rfl) (drew_belowS _) ?_
  refine held_here [true, true, false, true, true] (by kernel_rfl) (by kernel_rfl) (fun _ _ _ _ _ h => h) (drew_belowS _) ?_
  dsimp only [pick]
  repeat (go_big_quiet_step (fail))
  refine wpQuiet_nil ?_
  clear hba g0 g2
  have hD := drew_belowS (B := W0.heap.size) W0
  generalize W0.drew = W1 at hD ⊢
  have HD := hid hD
  clear hD
  have HLT := hid (show w.heap.size < W0.heap.size from unhid JS)
  refine held_op2 2 5 (by kernel_rfl) (by kernel_rfl) rfl rfl (fun K hK => ?_) (fun K hK => ?_)
  · refine call_op 112 6 (enters_of Tryz.func112 (by kernel_rfl) rfl) #[.slice na needs.length nc, .func (.func 113) #[] #[]] rfl rfl rfl rfl ?_
    have H2b := hid (((unhid H2).below (unhid HB)).below ((unhid HD).mono (Nat.le_refl _)))
    refine (namesOfNeed_any needs _ W1 (unhid SD).1 (unhid H2b)).mono ?_
    rintro e W2 ⟨u, rfl, hown, hb⟩
    have hD2 : Below W0.heap.size W0 W2 := (unhid HD).trans (hb.mono (unhid HD).size)
    obtain ⟨ua, uc, hu, -, -, -⟩ := ownsRow_txts hown
    subst hu
    refine ⟨_, rfl, hK.out _ _ hD2 ?_⟩
    clear hK K
    simp only [Act.put, List.setIfInBounds_toArray, List.set_cons_zero, List.set_cons_succ]
    have ho2 := ownsRow_lowerS hown (unhid HD).size
    clear hown hb HD
    refine held_op 5 (by kernel_rfl) (by kernel_rfl) rfl (fun K hK => ?_)
    go_simp
    have HD2 := hid (hD2.alloc hD2.size (.cells #[.string name] 9))
    refine hK.out _ _ (unhid HD2) ?_
    clear hK K
    have HO := hid (ho2.alloc (.cells #[.string name] 9))
    have HC := hid (cell_newN W2 (.string name) 9)
    clear ho2 hD2
    generalize W2.alloc (.cells #[.string name] 9) = W3 at HD2 HO HC ⊢
    generalize W2.heap.size = gx at HC ⊢
    -- the names are one row
    refine held_name 6 10 W0.heap.size (.slice ua (namesN needs).length uc) (namesN needs) name gx (by kernel_rfl) (by kernel_rfl) rfl rfl rfl rfl rfl rfl (unhid HO) (unhid HC) (by have := (unhid SD).1; rw [namesN_len]; omega) (unhid HD2).size ?_
    intro v' W5 hown hg
    have hD5 : Below W0.heap.size W0 W5 := grown_belowN (unhid HD2) hg (fun j ej => ((unhid HO).lt j ej).1)
    refine ⟨hD5, ?_⟩
    simp only [Act.put, List.setIfInBounds_toArray, List.set_cons_zero, List.set_cons_succ]
    have HO5 := hid hown
    have HD5 := hid hD5
    clear hown hg HO HC HD2 hD5
    have hba : ∀ {q : Prop}, (CW (fun w' => Below W0.heap.size W0 w') → q) ↔ q := CW.all (Below.refl _ W0)
    refine held_here [false, false, false, false, false, false, false, true] (by kernel_rfl) (by kernel_rfl) (fun _ _ _ _ _ h => h) (unhid HD5) ?_
    dsimp only [pick]
    repeat (go_big_quiet_step (fail))
    refine wpQuiet_nil ?_
    refine held_done (by kernel_rfl) ?_
    clear hba
    obtain ⟨va, vc, hv, -, -, -⟩ := ownsRow_txts (unhid HO5)
    subst hv
    have HNM := hid (twice_swap name (namesN needs))
    have HNL := hid (show (namesN needs ++ [name]).length = needs.length + 1 by rw [List.length_append, namesN_len]; rfl)
    generalize namesN needs ++ [name] = nm at *
    have HB5 := hid ((unhid HB).trans ((unhid HD5).mono (unhid HB).size))
    have JP5 := hid (((unhid HD5).block _ (unhid JS)).trans (unhid JP))
    have JS5 := hid (Nat.lt_of_lt_of_le (unhid JS) (unhid HD5).size)
    have HN5 := hid (unhid HB).size
    clear HD5 HB JP JS H2b
    have c0 := cell_arrS (unhid JP5) 0 _ rfl
    go_wp2_with fail
    clear c0
    refine (packNameOk_any name (le_maxLen (unhid SN)) _).mono ?_
    rintro x w1 ⟨rfl, hb⟩
    have HB6 := hid ((unhid HB5).trans (hb.mono (unhid HB5).size))
    have JP6 := hid ((hb.block _ (unhid JS5)).trans (unhid JP5))
    have JS6 := hid (Nat.lt_of_lt_of_le (unhid JS5) hb.size)
    have HO6 := hid (ownsRow_belowS (unhid HO5) hb)
    clear hb HB5 JP5 JS5 HO5
    have c1 := cell_arrS (unhid JP6) 1 _ rfl
    cases q1 : packB name.data.toList with
    | false =>
      go_wp2_with fail
      go_ret
      exact ⟨by rw [unhid EQ, q1]; rfl, unhid HB6⟩
    | true =>
    go_wp2_with fail
    clear c1
    refine (VersionOk_any version (le_maxLen (unhid SV)) _).mono ?_
    rintro x w2 ⟨rfl, hb⟩
    have HB7 := hid ((unhid HB6).trans (hb.mono (unhid HB6).size))
    have JP7 := hid ((hb.block _ (unhid JS6)).trans (unhid JP6))
    have JS7 := hid (Nat.lt_of_lt_of_le (unhid JS6) hb.size)
    have HO7 := hid (ownsRow_belowS (unhid HO6) hb)
    clear hb HB6 JP6 JS6 HO6
    have c2 := cell_arrS (unhid JP7) 2 _ rfl
    cases q2 : versOk version.data.toList with
    | false =>
      go_wp2_with fail
      go_ret
      exact ⟨by rw [unhid EQ, q1, q2]; rfl, unhid HB7⟩
    | true =>
    go_wp2_with fail
    clear c2
    refine (listOkNeed_any needs _ _ (unhid SD) ((unhid H2).below (unhid HB7))).mono ?_
    rintro x w3 ⟨rfl, hb⟩
    have HB8 := hid ((unhid HB7).trans (hb.mono (unhid HB7).size))
    have JP8 := hid ((hb.block _ (unhid JS7)).trans (unhid JP7))
    have JS8 := hid (Nat.lt_of_lt_of_le (unhid JS7) hb.size)
    have HO8 := hid (ownsRow_belowS (unhid HO7) hb)
    clear hb HB7 JP7 JS7 HO7
    cases q3 : (needs.all needOkD && decide (needs.length ≤ 6)) with
    | false =>
      go_wp2_with fail
      go_ret
      exact ⟨by rw [unhid EQ, q1, q2, q3]; rfl, unhid HB8⟩
    | true =>
    have hnl : needs.length ≤ 6 := by
      rw [Bool.and_eq_true] at q3
      exact of_decide_eq_true q3.2
    have hnn : nm.length ≤ 4294967296 := by rw [unhid HNL]; omega
    have HT := hid (anyTwice_any nm _ W0.heap.size w3 hnn (unhid HO8))
    have hlo := hid (show ∀ j, (Value.slice va nm.length vc).ownBlock = some j → W0.heap.size ≤ j from fun j ej => ((unhid HO8).lt j ej).1)
    clear hnl hnn HO8
    go_wp2_with fail
    refine (unhid HT).mono ?_
    rintro x w4 ⟨rfl, hg⟩
    have HB9 := hid (grown_belowN (unhid HB8) hg (fun j ej => Nat.le_trans (unhid HN5) (unhid hlo j ej)))
    have JP9 := hid ((hg.block _ (unhid JS8) (fun e => by have h1 := unhid hlo _ e.symm; have h2 := unhid HLT; omega)).trans (unhid JP8))
    clear hg HT hlo HB8 JP8 JS8 HN5
    rw [unhid HNM]
    have c3 := cell_arrS (unhid JP9) 3 _ rfl
    cases q4 : twiceB (name :: namesN needs) with
    | true =>
      go_wp2_with fail
      go_ret
      exact ⟨by rw [unhid EQ, q1, q2, q3, q4]; rfl, unhid HB9⟩
    | false =>
    go_wp2_with fail
    clear c3
    refine (treeOkP_any (entsD tree) ta tc _ (unhid ST) ((unhid H3).below (unhid HB9))).mono ?_
    rintro x w5 ⟨rfl, hb⟩
    have HBa := hid ((unhid HB9).trans (hb.mono (unhid HB9).size))
    clear hb HB9
    go_wp2_with fail
    go_ret
    exact ⟨by rw [unhid EQ, q1, q2, q3, q4]; rfl, unhid HBa⟩
  · go_simp
    have HDb := hid ((unhid HD).alloc (unhid HD).size (.cells #[.string name] 9))
    refine hK.out _ _ (unhid HDb) ?_
    clear hK K
    have hC0 := cell_newN W1 (.string name) 9
    have hlt0 : W1.heap.size < (W1.alloc (.cells #[.string name] 9)).heap.size := by simp
    clear HD
    generalize W1.alloc (.cells #[.string name] 9) = W2 at HDb hC0 hlt0 ⊢
    generalize W1.heap.size = gx at hC0 hlt0 ⊢
    have HC0 := hid hC0
    have HLT0 := hid hlt0
    clear hC0 hlt0
    refine held_op 2 (by kernel_rfl) (by kernel_rfl) rfl (fun K hK => ?_)
    refine call_op 112 6 (enters_of Tryz.func112 (by kernel_rfl) rfl) #[.slice na needs.length nc, .func (.func 113) #[] #[]] rfl rfl rfl rfl ?_
    have H2b := hid (((unhid H2).below (unhid HB)).below ((unhid HDb).mono (Nat.le_refl _)))
    refine (namesOfNeed_any needs _ W2 (unhid SD).1 (unhid H2b)).mono ?_
    rintro e W3 ⟨u, rfl, hown, hb⟩
    have HD2 := hid ((unhid HDb).trans (hb.mono (unhid HDb).size))
    obtain ⟨ua, uc, hu, -, -, -⟩ := ownsRow_txts hown
    subst hu
    refine ⟨_, rfl, hK.out _ _ (unhid HD2) ?_⟩
    clear hK K
    simp only [Act.put, List.setIfInBounds_toArray, List.set_cons_zero, List.set_cons_succ]
    have HO := hid (ownsRow_lowerS hown (unhid HDb).size)
    have HC := hid ((hb.cell (p := ⟨gx, 0, none⟩) (unhid HLT0)).trans (unhid HC0))
    clear hown hb HDb HC0 HLT0
    -- the names are one row
    refine held_name 6 10 W0.heap.size (.slice ua (namesN needs).length uc) (namesN needs) name gx (by kernel_rfl) (by kernel_rfl) rfl rfl rfl rfl rfl rfl (unhid HO) (unhid HC) (by have := (unhid SD).1; rw [namesN_len]; omega) (unhid HD2).size ?_
    intro v' W5 hown hg
    have hD5 : Below W0.heap.size W0 W5 := grown_belowN (unhid HD2) hg (fun j ej => ((unhid HO).lt j ej).1)
    refine ⟨hD5, ?_⟩
    simp only [Act.put, List.setIfInBounds_toArray, List.set_cons_zero, List.set_cons_succ]
    have HO5 := hid hown
    have HD5 := hid hD5
    clear hown hg HO HC HD2 hD5
    have hba : ∀ {q : Prop}, (CW (fun w' => Below W0.heap.size W0 w') → q) ↔ q := CW.all (Below.refl _ W0)
    refine held_here [false, false, false, false, false, false, false, true] (by kernel_rfl) (by kernel_rfl) (fun _ _ _ _ _ h => h) (unhid HD5) ?_
    dsimp only [pick]
    repeat (go_big_quiet_step (fail))
    refine wpQuiet_nil ?_
    refine held_done (by kernel_rfl) ?_
    clear hba
    obtain ⟨va, vc, hv, -, -, -⟩ := ownsRow_txts (unhid HO5)
    subst hv
    have HNM := hid (twice_swap name (namesN needs))
    have HNL := hid (show (namesN needs ++ [name]).length = needs.length + 1 by rw [List.length_append, namesN_len]; rfl)
    generalize namesN needs ++ [name] = nm at *
    have HB5 := hid ((unhid HB).trans ((unhid HD5).mono (unhid HB).size))
    have JP5 := hid (((unhid HD5).block _ (unhid JS)).trans (unhid JP))
    have JS5 := hid (Nat.lt_of_lt_of_le (unhid JS) (unhid HD5).size)
    have HN5 := hid (unhid HB).size
    clear HD5 HB JP JS H2b
    have c0 := cell_arrS (unhid JP5) 0 _ rfl
    go_wp2_with fail
    clear c0
    refine (packNameOk_any name (le_maxLen (unhid SN)) _).mono ?_
    rintro x w1 ⟨rfl, hb⟩
    have HB6 := hid ((unhid HB5).trans (hb.mono (unhid HB5).size))
    have JP6 := hid ((hb.block _ (unhid JS5)).trans (unhid JP5))
    have JS6 := hid (Nat.lt_of_lt_of_le (unhid JS5) hb.size)
    have HO6 := hid (ownsRow_belowS (unhid HO5) hb)
    clear hb HB5 JP5 JS5 HO5
    have c1 := cell_arrS (unhid JP6) 1 _ rfl
    cases q1 : packB name.data.toList with
    | false =>
      go_wp2_with fail
      go_ret
      exact ⟨by rw [unhid EQ, q1]; rfl, unhid HB6⟩
    | true =>
    go_wp2_with fail
    clear c1
    refine (VersionOk_any version (le_maxLen (unhid SV)) _).mono ?_
    rintro x w2 ⟨rfl, hb⟩
    have HB7 := hid ((unhid HB6).trans (hb.mono (unhid HB6).size))
    have JP7 := hid ((hb.block _ (unhid JS6)).trans (unhid JP6))
    have JS7 := hid (Nat.lt_of_lt_of_le (unhid JS6) hb.size)
    have HO7 := hid (ownsRow_belowS (unhid HO6) hb)
    clear hb HB6 JP6 JS6 HO6
    have c2 := cell_arrS (unhid JP7) 2 _ rfl
    cases q2 : versOk version.data.toList with
    | false =>
      go_wp2_with fail
      go_ret
      exact ⟨by rw [unhid EQ, q1, q2]; rfl, unhid HB7⟩
    | true =>
    go_wp2_with fail
    clear c2
    refine (listOkNeed_any needs _ _ (unhid SD) ((unhid H2).below (unhid HB7))).mono ?_
    rintro x w3 ⟨rfl, hb⟩
    have HB8 := hid ((unhid HB7).trans (hb.mono (unhid HB7).size))
    have JP8 := hid ((hb.block _ (unhid JS7)).trans (unhid JP7))
    have JS8 := hid (Nat.lt_of_lt_of_le (unhid JS7) hb.size)
    have HO8 := hid (ownsRow_belowS (unhid HO7) hb)
    clear hb HB7 JP7 JS7 HO7
    cases q3 : (needs.all needOkD && decide (needs.length ≤ 6)) with
    | false =>
      go_wp2_with fail
      go_ret
      exact ⟨by rw [unhid EQ, q1, q2, q3]; rfl, unhid HB8⟩
    | true =>
    have hnl : needs.length ≤ 6 := by
      rw [Bool.and_eq_true] at q3
      exact of_decide_eq_true q3.2
    have hnn : nm.length ≤ 4294967296 := by rw [unhid HNL]; omega
    have HT := hid (anyTwice_any nm _ W0.heap.size w3 hnn (unhid HO8))
    have hlo := hid (show ∀ j, (Value.slice va nm.length vc).ownBlock = some j → W0.heap.size ≤ j from fun j ej => ((unhid HO8).lt j ej).1)
    clear hnl hnn HO8
    go_wp2_with fail
    refine (unhid HT).mono ?_
    rintro x w4 ⟨rfl, hg⟩
    have HB9 := hid (grown_belowN (unhid HB8) hg (fun j ej => Nat.le_trans (unhid HN5) (unhid hlo j ej)))
    have JP9 := hid ((hg.block _ (unhid JS8) (fun e => by have h1 := unhid hlo _ e.symm; have h2 := unhid HLT; omega)).trans (unhid JP8))
    clear hg HT hlo HB8 JP8 JS8 HN5
    rw [unhid HNM]
    have c3 := cell_arrS (unhid JP9) 3 _ rfl
    cases q4 : twiceB (name :: namesN needs) with
    | true =>
      go_wp2_with fail
      go_ret
      exact ⟨by rw [unhid EQ, q1, q2, q3, q4]; rfl, unhid HB9⟩
    | false =>
    go_wp2_with fail
    clear c3
    refine (treeOkP_any (entsD tree) ta tc _ (unhid ST) ((unhid H3).below (unhid HB9))).mono ?_
    rintro x w5 ⟨rfl, hb⟩
    have HBa := hid ((unhid HB9).trans (hb.mono (unhid HB9).size))
    clear hb HB9
    go_wp2_with fail
    go_ret
    exact ⟨by rw [unhid EQ, q1, q2, q3, q4]; rfl, unhid HBa⟩
end Go.Proofs.YtoihhlkidlapmaaGreat

/- Packs in a row: read; whether they are by name; where one is. -/
namespace Go.Proofs.YtoihhlkidlapmaaGreat
open Go.RowKit Go.Shelf

/-- An operation whose guard says no. -/
theorem held_skip {P : Program} {md : Region.Mode} {ops : Array Oper} {Q : Exit → Act → World → Prop} {C : World → Prop} {F : Nat} {listed : Array Bool} {a : Act} {w : World} {o : Oper} (k d : Nat) (hr : Region.ready md ops listed = [k]) (hF : decide (0 < F) = true) (ho : ops[k]? = some o) (hw : Region.wanted o (yielded ops a.tmps) = false) (hd : o.dst = some d) (hC : C w)
    (h : wpAnyH P md ops Q (fun w' => ∃ x : CW C, w' = x.w) (F - 1) (listed.setIfInBounds k true) (a.put (some d) undef) w) : wpAnyH P md ops Q (fun w' => ∃ x : CW C, w' = x.w) F listed a w := by
  refine held_op k hr hF ho (fun K hK => ?_)
  rw [if_neg (by rw [hw]; exact Bool.false_ne_true)]
  refine hK.out _ _ hC ?_
  rw [hd]
  exact h
def smallPs (ps : List packC.D) : Prop := ps.length ≤ 1048576 ∧ ∀ p ∈ ps, smallP p
theorem smallPs_of {ps : List packC.D} (h : ps.length + szR packC ps ≤ 1048576) : smallPs ps :=
  ⟨by omega, fun p hp => smallP_of (by have := szR_mem hp; omega)⟩
def namesP (ps : List packC.D) : List ByteArray := List.map (α := packC.D) (fun p => PackD.name p) ps
theorem namesP_len (ps : List packC.D) : (namesP ps).length = ps.length := by unfold namesP; exact List.length_map _
theorem namesP_get {ps : List packC.D} {k : Nat} {p : packC.D} (h : ps[k]? = some p) : (namesP ps)[k]? = some (PackD.name p) := by unfold namesP; rw [List.getElem?_map, h]; rfl
theorem namesP_some {ps : List packC.D} {k : Nat} {x : ByteArray} (h : (namesP ps)[k]? = some x) : ∃ p : packC.D, ps[k]? = some p ∧ PackD.name p = x := by
  unfold namesP at h
  rw [List.getElem?_map] at h
  cases hd : ps[k]? with
  | none => rw [hd] at h; cases h
  | some p => rw [hd] at h; exact ⟨p, rfl, by simpa using h⟩
/-- The cells of one of the packs, and what its slices are. -/
theorem pack_cells {W w : World} {b o : Nat} {ps : List packC.D} {k : Nat} {e : packC.D} (hB : Below w.heap.size w W) (hbl : b < w.heap.size) (hc : ∀ (i : Nat) d, ps[i]? = some d → ∃ cs, packC.at_ w cs d ∧ ∀ j c, cs[j]? = some c → w.cell? ⟨b, o + i * packC.n + j, none⟩ = some c) (he : ps[k]? = some e) :
    ∃ (na : Option Addr) (nc : Nat) (ta : Option Addr) (tc : Nat), (W.cell? ⟨b, o + k * 4, none⟩ = some (.string (PackD.name e)) ∧ W.cell? ⟨b, o + k * 4 + 1, none⟩ = some (.string (PackD.version e)) ∧ W.cell? ⟨b, o + k * 4 + 2, none⟩ = some (.slice na (PackD.needs e).length nc) ∧ W.cell? ⟨b, o + k * 4 + 3, none⟩ = some (.slice ta (PackD.tree e).length tc)) ∧
      packC.at_ W [.string (PackD.name e), .string (PackD.version e), .slice na (PackD.needs e).length nc, .slice ta (PackD.tree e).length tc] e := by
  obtain ⟨cs, hat, hcell⟩ := hc k e he
  have hat2 := packC.below hat hB
  obtain ⟨v2, v3, rfl, h2, h3⟩ := packC_at hat
  obtain ⟨na, nc, rfl, -⟩ := rowAt.slice h2
  obtain ⟨ta, tc, rfl, -⟩ := rowAt.slice h3
  exact ⟨na, nc, ta, tc, ⟨(hB.cell (p := ⟨b, o + k * 4 + 0, none⟩) hbl).trans (hcell 0 _ rfl), (hB.cell (p := ⟨b, o + k * 4 + 1, none⟩) hbl).trans (hcell 1 _ rfl), (hB.cell (p := ⟨b, o + k * 4 + 2, none⟩) hbl).trans (hcell 2 _ rfl), (hB.cell (p := ⟨b, o + k * 4 + 3, none⟩) hbl).trans (hcell 3 _ rfl)⟩, hat2⟩


set_option maxRecDepth 100000 in
set_option maxHeartbeats 4000000 in
/-- The place of a pack, by the model. -/
theorem l8Pack_any (ps : List packC.D) (v : Value) (q : ByteArray) (w : World) (hs : ps.length ≤ 1048576) (h : rowAt packC w v ps) :
    Calls Tryz.prog 124 #[v, .string q] w fun x w' => (∃ r : Int, x = .returned (.int .i64 r) ∧ ((r = -1 ∧ q ∉ namesP ps) ∨ ∃ k : Nat, r = (k : Int) ∧ (namesP ps)[k]? = some q)) ∧ Below w.heap.size w w' := by
  obtain ⟨a, cap, rfl, -, -, h⟩ := h
  have H := hid h
  clear h
  go_enter Tryz.func124, Tryz.ntmps124
  go_wp2_with fail
  go_loopw [5] (fun i wr => ∃ k : Nat, k ≤ ps.length ∧ i = .int .i64 (k : Int) ∧ Hid (∀ j, j < k → (namesP ps)[j]? ≠ some q) ∧ Hid (Below w.heap.size w wr)) (fun i _ => ps.length - (intOf i).toNat)
  case atStart => exact ⟨0, Nat.zero_le _, rfl, hid (fun j hj => absurd hj (Nat.not_lt_zero _)), hid (Below.refl _ _)⟩
  case round =>
    obtain ⟨k, hk, rfl, HX, HB⟩ := hrel
    by_cases hlt : k < ps.length
    · obtain ⟨e, he⟩ : ∃ e, ps[k]? = some e := ⟨ps[k], List.getElem?_eq_getElem hlt⟩
      obtain ⟨b, o, rfl, hbl, hc⟩ := (unhid H).resolve_left (by intro e; subst e; simp at hlt)
      obtain ⟨na, nc, ta, tc, ⟨c0, c1, c2, c3⟩, -⟩ := pack_cells (unhid HB) hbl hc he
      have HE := hid (namesP_get he)
      have hq := txt_iff (PackD.name e) q
      clear hc he hbl c1 c2 c3
      by_cases hxy : PackD.name e = q
      · rw [decide_eq_true hxy] at hq
        have HXY := hid hxy
        clear hxy
        go_wp2_with fail
        go_ret
        exact ⟨⟨_, rfl, .inr ⟨k, rfl, by rw [unhid HE, unhid HXY]⟩⟩, unhid HB⟩
      · rw [decide_eq_false hxy] at hq
        have HXY := hid hxy
        clear hxy
        go_wp2_with fail
        go_roundw
        case rel =>
          refine ⟨k + 1, by omega, by go_num, hid (fun j hj => ?_), HB⟩
          by_cases ej : j = k
          · subst ej
            rw [unhid HE]
            exact fun e => unhid HXY (Option.some.inj e)
          · exact unhid HX j (by omega)
        case measure => simp [intOf]; omega
    · have e : k = ps.length := by omega
      subst e
      go_wp2_with fail
      go_ret
      refine ⟨⟨_, rfl, .inl ⟨rfl, fun hm => ?_⟩⟩, unhid HB⟩
      obtain ⟨j, hj⟩ := List.getElem?_of_mem hm
      exact unhid HX j (by have := (List.getElem?_eq_some_iff.1 hj).1; rwa [namesP_len] at this) hj
end Go.Proofs.YtoihhlkidlapmaaGreat

/- What the laws hand over of a need. -/
namespace Go.Proofs.YtoihhlkidlapmaaGreat
open Go.RowKit


end Go.Proofs.YtoihhlkidlapmaaGreat

/- Whether a pack is what is needed: by the program and by its model. -/
namespace Go.Proofs.YtoihhlkidlapmaaGreat
open Go.RowKit

/-- What a kind asks of the order of two versions. -/
def kindB (k o : Int) : Bool := if k = 1 then o == 0 else if k = 2 then decide (0 ≤ o) else if k = 3 then decide (o < 0) else true
def fitsB (n : List UInt8) (k : Int) (v name ver : List UInt8) : Bool := needB n k v && versOk ver && (n == name) && kindB k (ordI ver v)

set_option maxRecDepth 100000 in
set_option maxHeartbeats 1000000 in
theorem same_any (g h n m c d : Nat) (xs ys : List Int) (hn : xs.length = n) (hm : ys.length = m) (bn : n ≤ 1000000) (bm : m ≤ 1000000) (w : World) (hx : Nums w g xs) (hy : Nums w h ys) :
    Calls Tryz.prog 244 #[.slice (some ⟨g, 0, none⟩) n c, .slice (some ⟨h, 0, none⟩) m d] w fun e w' => e = .returned (.bool (cmpL xs ys == 0)) ∧ w' = w := by
  have H := hid (order_any g h n m c d xs ys hn hm bn bm w hx hy)
  clear hx hy hn hm
  go_enter Tryz.func244, Tryz.ntmps244
  go_wp2_with fail
  refine (unhid H).mono ?_
  rintro e w1 ⟨rfl, rfl⟩
  go_wp2_with fail
  go_ret
  exact ⟨rfl, rfl⟩

set_option maxRecDepth 100000 in
set_option maxHeartbeats 1000000 in
theorem elder_any (g h n m c d : Nat) (xs ys : List Int) (hn : xs.length = n) (hm : ys.length = m) (bn : n ≤ 1000000) (bm : m ≤ 1000000) (w : World) (hx : Nums w g xs) (hy : Nums w h ys) :
    Calls Tryz.prog 246 #[.slice (some ⟨g, 0, none⟩) n c, .slice (some ⟨h, 0, none⟩) m d] w fun e w' => e = .returned (.bool (decide (cmpL xs ys < 0))) ∧ w' = w := by
  have H := hid (order_any g h n m c d xs ys hn hm bn bm w hx hy)
  clear hx hy hn hm
  go_enter Tryz.func246, Tryz.ntmps246
  go_wp2_with fail
  refine (unhid H).mono ?_
  rintro e w1 ⟨rfl, rfl⟩
  go_wp2_with fail
  go_ret
  exact ⟨rfl, rfl⟩

set_option maxRecDepth 100000 in
set_option maxHeartbeats 1000000 in
theorem ask2_any (b g h n m c d : Nat) (xs ys : List Int) (hn : xs.length = n) (hm : ys.length = m) (bn : n ≤ 1000000) (bm : m ≤ 1000000) (w : World) (hc : w.cell? ⟨b, 0, none⟩ = some (.slice (some ⟨h, 0, none⟩) m d)) (hx : Nums w g xs) (hy : Nums w h ys) :
    Calls Tryz.prog 243 #[.slice (some ⟨g, 0, none⟩) n c, .pointer (some ⟨b, 0, none⟩)] w fun e w' => e = .returned (.bool (kindB 1 (cmpL xs ys))) ∧ w' = w := by
  have H := hid (same_any g h n m c d xs ys hn hm bn bm w hx hy)
  clear hx hy hn hm
  go_enter Tryz.func243, Tryz.ntmps243
  go_wp2_with fail
  refine (unhid H).mono ?_
  rintro e w1 ⟨rfl, rfl⟩
  go_wp2_with fail
  go_ret
  exact ⟨rfl, rfl⟩

set_option maxRecDepth 100000 in
set_option maxHeartbeats 1000000 in
theorem ask3_any (b g h n m c d : Nat) (xs ys : List Int) (hn : xs.length = n) (hm : ys.length = m) (bn : n ≤ 1000000) (bm : m ≤ 1000000) (w : World) (hc : w.cell? ⟨b, 0, none⟩ = some (.slice (some ⟨h, 0, none⟩) m d)) (hx : Nums w g xs) (hy : Nums w h ys) :
    Calls Tryz.prog 245 #[.slice (some ⟨g, 0, none⟩) n c, .pointer (some ⟨b, 0, none⟩)] w fun e w' => e = .returned (.bool (kindB 2 (cmpL xs ys))) ∧ w' = w := by
  have H := hid (elder_any g h n m c d xs ys hn hm bn bm w hx hy)
  have E := hid (show kindB 2 (cmpL xs ys) = !decide (cmpL xs ys < 0) by rw [← decide_not]; exact decide_eq_decide.2 (by omega))
  clear hx hy hn hm
  go_enter Tryz.func245, Tryz.ntmps245
  go_wp2_with fail
  refine (unhid H).mono ?_
  rintro e w1 ⟨rfl, rfl⟩
  go_wp2_with fail
  go_ret
  exact ⟨by rw [unhid E]; first | rfl | simp, rfl⟩

set_option maxRecDepth 100000 in
set_option maxHeartbeats 1000000 in
theorem ask4_any (b g h n m c d : Nat) (xs ys : List Int) (hn : xs.length = n) (hm : ys.length = m) (bn : n ≤ 1000000) (bm : m ≤ 1000000) (w : World) (hc : w.cell? ⟨b, 0, none⟩ = some (.slice (some ⟨h, 0, none⟩) m d)) (hx : Nums w g xs) (hy : Nums w h ys) :
    Calls Tryz.prog 247 #[.slice (some ⟨g, 0, none⟩) n c, .pointer (some ⟨b, 0, none⟩)] w fun e w' => e = .returned (.bool (kindB 3 (cmpL xs ys))) ∧ w' = w := by
  have H := hid (elder_any g h n m c d xs ys hn hm bn bm w hx hy)
  clear hx hy hn hm
  go_enter Tryz.func247, Tryz.ntmps247
  go_wp2_with fail
  refine (unhid H).mono ?_
  rintro e w1 ⟨rfl, rfl⟩
  go_wp2_with fail
  go_ret
  exact ⟨rfl, rfl⟩

set_option maxRecDepth 100000 in
set_option maxHeartbeats 1000000 in
theorem ask1_any (v : Value) (w : World) :
    Calls Tryz.prog 242 #[v] w fun e w' => e = .returned (.bool true) ∧ w' = w := by
  go_enter Tryz.func242, Tryz.ntmps242
  go_wp2_with fail
  go_ret
  exact ⟨rfl, rfl⟩

set_option maxRecDepth 100000 in
set_option maxHeartbeats 2000000 in
theorem l3Fits_any (n v name ver : ByteArray) (k : Int) (hv : v.size ≤ 1048576) (hr : ver.size ≤ 1048576) (w : World) :
    Calls Tryz.prog 126 #[.agg #[.string n, .int .i64 k, .string v], .string name, .string ver] w fun e W' => e = .returned (.bool ((n.data.toList == name.data.toList) && kindB k (ordI ver.data.toList v.data.toList))) ∧ Below w.heap.size w W' := by
  have HB0 := hid (show Below w.heap.size w (w.alloc (.cells #[.string n, .int .i64 k, .string v] 36)) from (Below.refl _ w).alloc (Nat.le_refl _) _)
  have fcell : ∀ w1 : World, Below (w.alloc (.cells #[.string n, .int .i64 k, .string v] 36)).heap.size (w.alloc (.cells #[.string n, .int .i64 k, .string v] 36)) w1 → w1.cell? ⟨w.heap.size, 1, none⟩ = some (.int .i64 k) := fun w1 hb =>
    (hb.cell (p := ⟨w.heap.size, 1, none⟩) (by simp)).trans (by simp [go_sem])
  have Hf := hid fcell
  clear fcell
  cases hne : (n.toList == name.toList)
  · have E := hid (show ((n.data.toList == name.data.toList) && kindB k (ordI ver.data.toList v.data.toList)) = false by rw [← Lib.toList_data, ← Lib.toList_data, hne]; rfl)
    go_enter Tryz.func126, Tryz.ntmps126
    go_wp2_with fail
    go_ret
    exact ⟨by rw [unhid E]; rfl, unhid HB0⟩
  · have E : ((n.data.toList == name.data.toList) && kindB k (ordI ver.data.toList v.data.toList)) = kindB k (ordI ver.data.toList v.data.toList) := by rw [← Lib.toList_data, ← Lib.toList_data, hne]; rfl
    rw [E]
    clear E
    have C := specVersionOrder_any ver v hr hv
    generalize ordI ver.data.toList v.data.toList = o at C ⊢
    have C' := hid C
    clear C
    go_enter Tryz.func126, Tryz.ntmps126
    go_wp2_with fail
    refine (unhid C' _).mono ?_
    rintro e w1 ⟨rfl, hb⟩
    have f1 := unhid Hf w1 hb
    have HB1 := hid ((unhid HB0).trans (hb.mono (unhid HB0).size))
    clear hb Hf C'
    by_cases k1 : k = 1
    · subst k1
      go_wp2_with fail
      go_ret
      exact ⟨rfl, unhid HB1⟩
    · by_cases k2 : k = 2
      · subst k2
        go_wp2_with fail
        go_ret
        exact ⟨by simp [kindB], unhid HB1⟩
      · by_cases k3 : k = 3
        · subst k3
          go_wp2_with fail
          go_ret
          exact ⟨rfl, unhid HB1⟩
        · have E := hid (show kindB k o = true by simp [kindB, k1, k2, k3])
          have h1 : (k == 1) = false := by rw [beq_eq_false_iff_ne]; exact k1
          have h2 : (k == 2) = false := by rw [beq_eq_false_iff_ne]; exact k2
          have h3 : (k == 3) = false := by rw [beq_eq_false_iff_ne]; exact k3
          go_wp2_with fail
          go_ret
          exact ⟨by rw [unhid E]; rfl, unhid HB1⟩

theorem fitsB_0 {n v name ver : List UInt8} (h1 : needB n 0 v = true) (h2 : versOk ver = true) (h3 : (n == name) = true) : fitsB n 0 v name ver = true := by simp [fitsB, h1, h2, h3, kindB]
theorem fitsB_k {n v name ver : List UInt8} {k : Int} (h1 : needB n k v = true) (h2 : versOk ver = true) (h4 : versOk v = true) (h3 : (n == name) = true) : fitsB n k v name ver = kindB k (cmpL (versL ver) (versL v)) := by simp [fitsB, h1, h2, h3, ordI, h4]

set_option maxRecDepth 100000 in
set_option maxHeartbeats 4000000 in
theorem NeedFits_any (n v name ver : ByteArray) (k : Int) (hn : n.size ≤ maxLen) (hv : v.size ≤ maxLen) (hr : ver.size ≤ maxLen) (w : World) :
    Calls Tryz.prog 248 #[.agg #[.string n, .int .i64 k, .string v], .string name, .string ver] w fun e W' => e = .returned (.bool (fitsB n.data.toList k v.data.toList name.data.toList ver.data.toList)) ∧ Below w.heap.size w W' := by
  have HB0 := hid (show Below w.heap.size w (w.alloc (.cells #[.string n, .int .i64 k, .string v] 36)) from (Below.refl _ w).alloc (Nat.le_refl _) _)
  have fcell : ∀ w1 : World, Below (w.alloc (.cells #[.string n, .int .i64 k, .string v] 36)).heap.size (w.alloc (.cells #[.string n, .int .i64 k, .string v] 36)) w1 → w1.cell? ⟨w.heap.size, 0, none⟩ = some (.string n) ∧ w1.cell? ⟨w.heap.size, 1, none⟩ = some (.int .i64 k) ∧ w1.cell? ⟨w.heap.size, 2, none⟩ = some (.string v) := fun w1 hb =>
    ⟨(hb.cell (p := ⟨w.heap.size, 0, none⟩) (by simp)).trans (by simp [go_sem]), (hb.cell (p := ⟨w.heap.size, 1, none⟩) (by simp)).trans (by simp [go_sem]), (hb.cell (p := ⟨w.heap.size, 2, none⟩) (by simp)).trans (by simp [go_sem])⟩
  have Hf := hid fcell
  clear fcell
  go_enter Tryz.func248, Tryz.ntmps248
  go_wp2_with fail
  refine (versionOf_any ver hr _).mono ?_
  rintro e w1 ⟨va, rfl, oa, -, b1⟩
  have OA := hid oa
  have B1 := hid b1
  obtain ⟨f1, f2, f3⟩ := unhid Hf w1 b1
  clear oa b1
  go_wp2_with fail
  refine (askOf_any n v k hv _).mono ?_
  rintro e w2 ⟨fv, rfl, hfv, b2⟩
  have FV := hid hfv
  have B2 := hid b2
  have B12 := hid ((unhid B1).trans (b2.mono (unhid B1).size))
  obtain ⟨g1, g2, g3⟩ := unhid Hf w2 (unhid B12)
  clear hfv b2 f1 f2 f3
  cases hy : versOk ver.data.toList
  · have E := hid (show fitsB n.data.toList k v.data.toList name.data.toList ver.data.toList = false by simp [fitsB, hy])
    go_wp2_with fail
    go_ret
    exact ⟨by rw [unhid E]; rfl, (unhid HB0).trans ((unhid B12).mono (unhid HB0).size)⟩
  · cases ha : askB k v.data.toList
    · have E := hid (show fitsB n.data.toList k v.data.toList name.data.toList ver.data.toList = false by simp [fitsB, needB, ha])
      go_wp2_with fail
      go_ret
      exact ⟨by rw [unhid E]; rfl, (unhid HB0).trans ((unhid B12).mono (unhid HB0).size)⟩
    · go_wp2_with fail
      refine (packNameOk_any n hn _).mono ?_
      rintro e w3 ⟨rfl, hb⟩
      have B3 := hid hb
      have B123 := hid ((unhid B12).trans (hb.mono (unhid B12).size))
      clear hb g1 g2 g3
      obtain ⟨g1, g2, g3⟩ := unhid Hf w3 (unhid B123)
      cases hp : packB n.data.toList
      · have E := hid (show fitsB n.data.toList k v.data.toList name.data.toList ver.data.toList = false by simp [fitsB, needB, hp])
        go_wp2_with fail
        go_ret
        exact ⟨by rw [unhid E]; rfl, (unhid HB0).trans ((unhid B123).mono (unhid HB0).size)⟩
      · have hN : needB n.data.toList k v.data.toList = true := by simp [needB, hp, ha]
        cases hne : (name.toList == n.toList)
        · have hne' : (n.data.toList == name.data.toList) = false := by rw [← Lib.toList_data, ← Lib.toList_data]; rw [beq_eq_false_iff_ne] at hne ⊢; exact hne.symm
          have E := hid (show fitsB n.data.toList k v.data.toList name.data.toList ver.data.toList = false by simp only [fitsB, hne', Bool.and_false, Bool.false_and])
          clear hne'
          go_wp2_with fail
          go_ret
          exact ⟨by rw [unhid E]; rfl, (unhid HB0).trans ((unhid B123).mono (unhid HB0).size)⟩
        · have hne' : (n.data.toList == name.data.toList) = true := by rw [← Lib.toList_data, ← Lib.toList_data]; rw [beq_iff_eq] at hne ⊢; exact hne.symm
          have HN := hid hN
          have HNE := hid hne'
          clear hN hne'
          rcases unhid FV ha with ⟨rfl, rfl⟩ | ⟨id, b, vv, hk, rfl, hb1, hb2, hc, hV⟩
          · have E := hid (fitsB_0 (unhid HN) hy (unhid HNE))
            go_wp2_with fail
            refine (ask1_any _ _).mono ?_
            rintro e w4 ⟨rfl, rfl⟩
            go_wp2_with fail
            go_ret
            exact ⟨by rw [unhid E]; rfl, (unhid HB0).trans ((unhid B123).mono (unhid HB0).size)⟩
          · have hva : versOk v.data.toList = true := by rcases hk with ⟨rfl, -⟩ | ⟨rfl, -⟩ | ⟨rfl, -⟩ <;> simpa [askB] using ha
            have E := hid (fitsB_k (unhid HN) hy hva (unhid HNE))
            have la := versL_len _ hy
            have lb := versL_len _ hva
            obtain ⟨g, c, rfl, _, hgl, ng⟩ := ((vers_of (versL_ne _) (unhid OA hy)).below (unhid B2)).below (unhid B3)
            obtain ⟨h, d, rfl, _, _, nh⟩ := hV.below (unhid B3)
            have hc3 : w3.cell? ⟨b, 0, none⟩ = some (.slice (some ⟨h, 0, none⟩) (versL v.data.toList).length d) := ((unhid B3).cell (p := ⟨b, 0, none⟩) hb2).trans hc
            have NG := hid ng
            have NH := hid nh
            have HC := hid hc3
            clear ng nh OA FV hc3 hc hV
            generalize hx : versL ver.data.toList = xs at *
            generalize hy : versL v.data.toList = ys at *
            clear hx hy
            rcases hk with ⟨rfl, rfl⟩ | ⟨rfl, rfl⟩ | ⟨rfl, rfl⟩
            · go_wp2_with fail
              refine (ask2_any b g h _ _ c d xs ys rfl rfl (by omega) (by omega) _ (unhid HC) (unhid NG) (unhid NH)).mono ?_
              rintro e w4 ⟨rfl, rfl⟩
              go_wp2_with fail
              go_ret
              exact ⟨by rw [unhid E]; rfl, (unhid HB0).trans ((unhid B123).mono (unhid HB0).size)⟩
            · go_wp2_with fail
              refine (ask3_any b g h _ _ c d xs ys rfl rfl (by omega) (by omega) _ (unhid HC) (unhid NG) (unhid NH)).mono ?_
              rintro e w4 ⟨rfl, rfl⟩
              go_wp2_with fail
              go_ret
              exact ⟨by rw [unhid E]; rfl, (unhid HB0).trans ((unhid B123).mono (unhid HB0).size)⟩
            · go_wp2_with fail
              refine (ask4_any b g h _ _ c d xs ys rfl rfl (by omega) (by omega) _ (unhid HC) (unhid NG) (unhid NH)).mono ?_
              rintro e w4 ⟨rfl, rfl⟩
              go_wp2_with fail
              go_ret
              exact ⟨by rw [unhid E]; rfl, (unhid HB0).trans ((unhid B123).mono (unhid HB0).size)⟩
end Go.Proofs.YtoihhlkidlapmaaGreat

/- Whether all that packs need is there, by the model. -/
namespace Go.Proofs.YtoihhlkidlapmaaGreat
open Go.RowKit Go.Shelf

def fitOne (n : needC.D) (q : packC.D) : Bool := decide (PackD.name q = NeedD.name n) && kindB (NeedD.kind n) (ordI (PackD.version q).data.toList (NeedD.version n).data.toList)
def hasNeed (ps : List packC.D) (n : needC.D) : Bool := List.any (α := packC.D) ps (fitOne n)
def needsOf (p : packC.D) : List needC.D := PackD.needs p
theorem has_none {ps : List packC.D} {n : needC.D} (h : NeedD.name n ∉ namesP ps) : hasNeed ps n = false := by
  unfold hasNeed
  rw [List.any_eq_false]
  intro q hq
  obtain ⟨i, hi⟩ := List.getElem?_of_mem hq
  have : PackD.name q ≠ NeedD.name n := fun e => h (by rw [← e]; exact List.mem_of_getElem? (namesP_get hi))
  unfold fitOne
  rw [decide_eq_false this]
  simp
theorem need_in {W : World} {e : packC.D} {na ta : Option Addr} {nc tc : Nat} (h : packC.at_ W [.string (PackD.name e), .string (PackD.version e), .slice na (PackD.needs e).length nc, .slice ta (PackD.tree e).length tc] e) {j : Nat} {n : needC.D} (hn : (needsOf e)[j]? = some n) :
    ∃ b o, na = some ⟨b, o, none⟩ ∧ b < W.heap.size ∧ (W.cell? ⟨b, o + j * 3, none⟩ = some (.string (NeedD.name n)) ∧ W.cell? ⟨b, o + j * 3 + 1, none⟩ = some (.int .i64 (NeedD.kind n)) ∧ W.cell? ⟨b, o + j * 3 + 2, none⟩ = some (.string (NeedD.version n))) := by
  obtain ⟨v2, v3, e1, h2, h3⟩ := packC_at h
  injection e1 with _ e1
  injection e1 with _ e1
  injection e1 with e2 _
  subst e2
  obtain ⟨a, cap, ev, -, -, hr⟩ := h2
  injection ev with ea _ _
  subst ea
  rcases hr with hr | ⟨b, o, ha, hl, hc⟩
  · have : needsOf e = [] := hr
    rw [this] at hn; cases hn
  · exact ⟨b, o, ha, hl, need_cells (Below.refl _ W) hl hc hn⟩

end Go.Proofs.YtoihhlkidlapmaaGreat

/- Packs and what they need, as names; the model of Closure. -/
namespace Go.Proofs.YtoihhlkidlapmaaGreat
open Go.RowKit Go.Shelf

def memB (q : ByteArray) (xs : List ByteArray) : Bool := xs.any fun x => decide (x = q)
theorem memB_iff {q : ByteArray} {xs : List ByteArray} : memB q xs = true ↔ q ∈ xs := by
  unfold memB
  rw [List.any_eq_true]
  constructor
  · rintro ⟨x, hx, e⟩
    rw [decide_eq_true_eq] at e
    exact e ▸ hx
  · exact fun h => ⟨q, h, decide_eq_true rfl⟩
theorem memB_yes {q : ByteArray} {xs : List ByteArray} (h : q ∈ xs) : memB q xs = true := memB_iff.2 h
theorem memB_no {q : ByteArray} {xs : List ByteArray} (h : q ∉ xs) : memB q xs = false := by
  cases e : memB q xs with
  | false => rfl
  | true => exact absurd (memB_iff.1 e) h
theorem nodup_inj {xs : List ByteArray} (h : xs.Nodup) {i j : Nat} {x : ByteArray} (hi : xs[i]? = some x) (hj : xs[j]? = some x) : i = j := by
  rw [List.nodup_iff_pairwise_ne, List.pairwise_iff_getElem] at h
  obtain ⟨hil, ei⟩ := List.getElem?_eq_some_iff.1 hi
  obtain ⟨hjl, ej⟩ := List.getElem?_eq_some_iff.1 hj
  rcases Nat.lt_trichotomy i j with h1 | h1 | h1
  · exact absurd (ei.trans ej.symm) (h i j hil hjl h1)
  · exact h1
  · exact absurd (ej.trans ei.symm) (h j i hjl hil h1)
theorem has_atN {ps : List packC.D} {n : needC.D} {i : Nat} {q : packC.D} (ha : (namesP ps).Nodup) (hq : ps[i]? = some q) (hn : PackD.name q = NeedD.name n) : hasNeed ps n = kindB (NeedD.kind n) (ordI (PackD.version q).data.toList (NeedD.version n).data.toList) := by
  cases hk : kindB (NeedD.kind n) (ordI (PackD.version q).data.toList (NeedD.version n).data.toList) with
  | true =>
    unfold hasNeed
    rw [List.any_eq_true]
    exact ⟨q, List.mem_of_getElem? hq, by unfold fitOne; rw [decide_eq_true hn, hk]; rfl⟩
  | false =>
    unfold hasNeed
    rw [List.any_eq_false]
    intro p hp
    obtain ⟨j, hj⟩ := List.getElem?_of_mem hp
    unfold fitOne
    by_cases hpn : PackD.name p = NeedD.name n
    · have e : i = j := nodup_inj ha (namesP_get hq) (by rw [namesP_get hj, hpn, hn])
      subst e
      rw [hq] at hj
      cases hj
      rw [hk]; simp
    · rw [decide_eq_false hpn]; simp
/-- What a pack needs, by name, and whether it is there as it must be. -/
def asksOf (ps : List packC.D) (p : packC.D) : List (ByteArray × Bool) := (needsOf p).map fun n => (NeedD.name n, hasNeed ps n)
def graphP (ps : List packC.D) (x : ByteArray) : Option (List (ByteArray × Bool)) := (List.find? (α := packC.D) (fun p => decide (PackD.name p = x)) ps).map (asksOf ps)
theorem graph_at {ps : List packC.D} (hn : (namesP ps).Nodup) {k : Nat} {p : packC.D} (hp : ps[k]? = some p) : graphP ps (PackD.name p) = some (asksOf ps p) := by
  unfold graphP
  cases h : List.find? (α := packC.D) (fun q => decide (PackD.name q = PackD.name p)) ps with
  | none =>
    have := List.find?_eq_none.1 h p (List.mem_of_getElem? hp)
    simp at this
  | some q =>
    have h1 := List.find?_some h
    have h2 : PackD.name q = PackD.name p := by simpa using h1
    obtain ⟨j, hj⟩ := List.getElem?_of_mem (List.mem_of_find?_eq_some h)
    have e : j = k := nodup_inj hn (namesP_get hj) (by rw [h2]; exact namesP_get hp)
    subst e
    rw [hp] at hj
    cases hj
    rfl
theorem graph_none {ps : List packC.D} {x : ByteArray} (h : x ∉ namesP ps) : graphP ps x = none := by
  unfold graphP
  rw [List.find?_eq_none.2]
  · rfl
  · intro q hq e
    have e : PackD.name q = x := by simpa using e
    obtain ⟨i, hi⟩ := List.getElem?_of_mem hq
    exact h (by rw [← e]; exact List.mem_of_getElem? (namesP_get hi))
theorem graph_in {ps : List packC.D} {x : ByteArray} (h : graphP ps x ≠ none) : x ∈ namesP ps := by
  by_cases hx : x ∈ namesP ps
  · exact hx
  · exact absurd (graph_none hx) h
theorem good_in {ps : List packC.D} {out : List ByteArray} (h : GoodL (graphP ps) out) : ∀ x ∈ out, x ∈ namesP ps := fun x hx => by
  obtain ⟨ns, h1, _⟩ := good_mem h hx
  exact graph_in (by rw [h1]; simp)
theorem good_len {ps : List packC.D} {out : List ByteArray} (h : GoodL (graphP ps) out) : out.length ≤ ps.length := by
  have := nodup_len out (namesP ps) (good_nodup h) (good_in h)
  rwa [namesP_len] at this

theorem needs_app {α : Type} (f : α → List α → List α × Int) : ∀ (cs bs : List (α × Bool)) (out : List α), needsF f (cs ++ bs) out = if (needsF f cs out).2 = 0 then needsF f bs (needsF f cs out).1 else needsF f cs out
  | [], bs, out => by simp [needsF]
  | n :: cs, bs, out => by
    rw [List.cons_append, needsF, needsF]
    by_cases h1 : n.2 = false
    · rw [if_pos h1, if_pos h1]; simp
    · rw [if_neg h1, if_neg h1]
      by_cases h2 : (f n.1 out).2 = 0
      · rw [if_pos h2, if_pos h2]; exact needs_app f cs bs _
      · rw [if_neg h2, if_neg h2, if_neg h2]
theorem split_at {α : Type} {ns : List α} {m : Nat} {n : α} (h : ns[m]? = some n) : ns = ns.take m ++ n :: ns.drop (m + 1) := by
  obtain ⟨hl, e⟩ := List.getElem?_eq_some_iff.1 h
  rw [← e, ← List.drop_eq_getElem_cons hl, List.take_append_drop]
theorem needs_at {α : Type} {f : α → List α → List α × Int} {ns : List (α × Bool)} {out : List α} {m : Nat} {n : α × Bool} (h : ns[m]? = some n) (h0 : (needsF f (ns.take m) out).2 = 0) :
    (n.2 = false → (needsF f ns out).2 = 3) ∧ (n.2 = true → (f n.1 (needsF f (ns.take m) out).1).2 ≠ 0 → (needsF f ns out).2 = (f n.1 (needsF f (ns.take m) out).1).2) ∧ (n.2 = true → (f n.1 (needsF f (ns.take m) out).1).2 = 0 → needsF f (ns.take (m + 1)) out = f n.1 (needsF f (ns.take m) out).1) := by
  have e := split_at h
  refine ⟨fun h1 => ?_, fun h1 h2 => ?_, fun h1 h2 => ?_⟩
  · rw [e, needs_app, if_pos h0, needsF, if_pos h1]
  · rw [e, needs_app, if_pos h0, needsF, if_neg (by rw [h1]; simp), if_neg h2, ← e]
  · rw [List.take_add_one, h, needs_app, if_pos h0]
    show needsF f [n] _ = _
    rw [needsF, if_neg (by rw [h1]; simp), if_pos h2, needsF]
    rw [← h2]

set_option maxRecDepth 100000 in
set_option maxHeartbeats 4000000 in
theorem l8Has_any (xs : List ByteArray) (V : Value) (q : ByteArray) (w : World) (hs : xs.length ≤ 1048576) (h : rowAt txtC w V xs) :
    Calls Tryz.prog 125 #[V, .string q] w fun x w' => x = .returned (.bool (memB q xs)) ∧ w' = w := by
  obtain ⟨a, cap, rfl, ht, -, -⟩ := rowAt_txts h
  have H := hid ht
  clear h ht
  go_enter Tryz.func125, Tryz.ntmps125
  go_wp2_with fail
  go_loopw [5] (fun i wr => ∃ k : Nat, k ≤ xs.length ∧ i = .int .i64 (k : Int) ∧ Hid (∀ j, j < k → xs[j]? ≠ some q) ∧ wr = w) (fun i _ => xs.length - (intOf i).toNat)
  case atStart => exact ⟨0, Nat.zero_le _, rfl, hid (fun j hj => absurd hj (Nat.not_lt_zero _)), (by first | rfl | trivial)⟩
  case round =>
    obtain ⟨k, hk, rfl, HX, rfl⟩ := hrel
    by_cases hlt : k < xs.length
    · obtain ⟨e, he⟩ : ∃ e, xs[k]? = some e := ⟨xs[k], List.getElem?_eq_getElem hlt⟩
      obtain ⟨b, o, rfl, hbl, hc⟩ := (unhid H).get (by intro e; subst e; simp at hlt)
      have c0 := hc k e he
      have HE := hid he
      have hq := txt_iff e q
      clear hc he hbl
      by_cases hxy : e = q
      · rw [decide_eq_true hxy] at hq
        have HXY := hid hxy
        clear hxy
        go_wp2_with fail
        go_ret
        exact ⟨by rw [memB_yes (by rw [← unhid HXY]; exact List.mem_of_getElem? (unhid HE))]; rfl, rfl⟩
      · rw [decide_eq_false hxy] at hq
        have HXY := hid hxy
        clear hxy
        go_wp2_with fail
        go_roundw
        case rel =>
          refine ⟨k + 1, by omega, by go_num, hid (fun j hj => ?_), (by first | rfl | trivial)⟩
          by_cases ej : j = k
          · subst ej
            rw [unhid HE]
            exact fun e => unhid HXY (Option.some.inj e)
          · exact unhid HX j (by omega)
        case measure => simp [intOf]; omega
    · have e : k = xs.length := by omega
      subst e
      go_wp2_with fail
      go_ret
      refine ⟨?_, rfl⟩
      rw [memB_no (fun hm => by
        obtain ⟨j, hj⟩ := List.getElem?_of_mem hm
        exact unhid HX j (List.getElem?_eq_some_iff.1 hj).1 hj)]
      rfl

def allPk (ps : List packC.D) : Bool := List.all (α := packC.D) ps pkOk
theorem allPk_no {ps : List packC.D} {k : Nat} {p : packC.D} (h : ps[k]? = some p) (hq : pkOk p = false) : allPk ps = false := all_no (p := fun q : packC.D => pkOk q) h hq
def packsCode (ps : List packC.D) : Int := if allPk ps then (if twiceB (namesP ps) then 2 else 0) else 1
set_option maxRecDepth 100000 in
set_option maxHeartbeats 4000000 in
theorem l8Packs_any (ps : List packC.D) (v : Value) (w : World) (hs : smallPs ps) (h : rowAt packC w v ps) :
    Calls Tryz.prog 65 #[v] w fun x w' => x = .returned (.int .i64 (packsCode ps)) ∧ Below w.heap.size w w' := by
  obtain ⟨a, cap, rfl, -, -, h⟩ := h
  have hlen := hs.1
  have HSM := hid hs
  have H := hid h
  clear h hs
  have HO := hid (ownsRow_made0 w)
  have HB := hid (show Below w.heap.size w (w.alloc (.cells #[] 9)) from (Below.refl _ w).alloc (Nat.le_refl _) _)
  go_enter Tryz.func65, Tryz.ntmps65
  go_wp2_with fail
  generalize w.alloc (.cells #[] 9) = wa at HO HB ⊢
  go_loopw [3, 4] (fun s i wr => ∃ (k : Nat) (oa : Option Addr) (oc : Nat), k ≤ ps.length ∧ i = .int .i64 (k : Int) ∧ s = .slice oa k oc ∧ Hid (allPk (ps.take k) = true) ∧ Hid (wr.ownsRow w.heap.size 9 1 (.slice oa k oc) ((namesP ps).take k).length (((namesP ps).take k).map Value.string)) ∧ Hid (Below w.heap.size w wr)) (fun _ i _ => ps.length - (intOf i).toNat)
  case atStart => exact ⟨0, _, _, Nat.zero_le _, rfl, rfl, hid rfl, HO, HB⟩
  case round =>
    clear HO HB
    obtain ⟨k, oa, oc, hk, rfl, rfl, HA, HO, HB⟩ := hrel
    by_cases hlt : k < ps.length
    · obtain ⟨e, he⟩ : ∃ e, ps[k]? = some e := ⟨ps[k], List.getElem?_eq_getElem hlt⟩
      obtain ⟨b, o, rfl, hbl, hc⟩ := (unhid H).resolve_left (by intro e; subst e; simp at hlt)
      obtain ⟨na, nc, ta, tc, ⟨c0, c1, c2, c3⟩, hat⟩ := pack_cells (unhid HB) hbl hc he
      have HAT := hid hat
      have HE := hid he
      have HX := hid (namesP_get he)
      have HC := hid hc
      have HBL := hid hbl
      have SP := hid ((unhid HSM).2 e (List.mem_of_getElem? he))
      clear hc he hbl hat
      go_wp2_with fail
      refine (specPackOk_any e _ wr (unhid SP) (unhid HAT)).mono ?_
      rintro x w2 ⟨rfl, hb⟩
      have HB2 := hid ((unhid HB).trans (hb.mono (unhid HB).size))
      have HO2 := hid (ownsRow_belowS (unhid HO) hb)
      clear hb c0 c1 c2 c3 HB HO HAT
      cases hq : pkOk e with
      | false =>
        have E := hid (show packsCode ps = 1 by unfold packsCode; rw [allPk_no (unhid HE) hq]; rfl)
        go_wp2_with fail
        go_ret
        exact ⟨by rw [unhid E]; rfl, unhid HB2⟩
      | true =>
        have HQ := hid hq
        obtain ⟨na, nc, ta, tc, ⟨c0, c1, c2, c3⟩, -⟩ := pack_cells (unhid HB2) (unhid HBL) (unhid HC) (unhid HE)
        have c0 := fun x => Go.Lib.cell?_alloc_some x c0
        clear hq c1 c2 c3
        have HO3 := hid ((unhid HO2).alloc (.cells #[.string (PackD.name e)] 9))
        have HB3 := hid ((unhid HB2).alloc (unhid HB2).size (.cells #[.string (PackD.name e)] 9))
        have HC3 := hid (cell_newN w2 (.string (PackD.name e)) 9)
        have hlo := hid (show ∀ j, (Value.slice oa k oc).ownBlock = some j → w.heap.size ≤ j from fun j ej => ((unhid HO2).lt j ej).1)
        have HKL := hid (show ((namesP ps).take k).length ≤ 1048576 by rw [List.length_take]; omega)
        have HSZ := hid (unhid HB3).size
        clear HO2 HB2
        obtain ⟨na, nc, ta, tc, ⟨c0, c1, c2, c3⟩, -⟩ := pack_cells (unhid HB3) (unhid HBL) (unhid HC) (unhid HE)
        clear c1 c2 c3
        go_wp2_with (at_builtin; refine wp_name rfl _ _ rfl w.heap.size (.slice oa k oc) ((namesP ps).take k) (PackD.name e) w2.heap.size rfl rfl (unhid HO3) (unhid HC3) (by have := unhid HKL; omega) (unhid HSZ) ?_)
        intro v' w4 hown hg
        have ho3 := ownsRow_take (unhid HX) (W := w4) (N := w.heap.size) (v := v') (by simpa using hown)
        have HB4 := hid (grown_belowN (unhid HB3) hg (unhid hlo))
        obtain ⟨oa2, oc2, hv, -⟩ := ownsRow_txts ho3
        have hk1 : ((namesP ps).take (k + 1)).length = k + 1 := by rw [List.length_take, namesP_len]; omega
        rw [hk1] at hv
        subst hv
        have HO4 := hid ho3
        clear hown hg hlo HC3 HB3 HO3 HSZ HKL ho3 hk1 c0
        go_wp2_with fail
        go_roundw
        case rel => exact ⟨k + 1, oa2, oc2, by omega, by go_num, rfl, hid (all_take_next (p := fun q : packC.D => pkOk q) (unhid HE) (unhid HA) (unhid HQ)), HO4, HB4⟩
        case measure => simp [intOf]; omega
    · have e : k = ps.length := by omega
      subst e
      have hnl : (namesP ps).length = ps.length := namesP_len ps
      have ho := unhid HO
      rw [List.take_of_length_le (by rw [hnl]; exact Nat.le_refl _)] at ho
      obtain ⟨a2, c2, e1, hat, -, -⟩ := ownsRow_txts ho
      rw [hnl] at e1
      injection e1 with e2 _ e3
      subst e2 e3
      have HT := hid (l4Twice_any (namesP ps) oa oc wr (by unfold maxLen; omega) hat)
      rw [hnl] at HT
      have EA := hid (show allPk ps = true by have := unhid HA; rw [List.take_of_length_le (Nat.le_refl _)] at this; exact this)
      clear ho hat hnl HO
      go_wp2_with fail
      refine (unhid HT).mono ?_
      rintro x w3 ⟨rfl, hb⟩
      have HB3 := hid ((unhid HB).trans (hb.mono (unhid HB).size))
      clear hb HT
      cases hq : twiceB (namesP ps) with
      | false =>
        have E := hid (show packsCode ps = 0 by unfold packsCode; rw [unhid EA, hq]; rfl)
        go_wp2_with fail
        go_ret
        exact ⟨by rw [unhid E]; rfl, unhid HB3⟩
      | true =>
        have E := hid (show packsCode ps = 2 by unfold packsCode; rw [unhid EA, hq]; rfl)
        go_wp2_with fail
        go_ret
        exact ⟨by rw [unhid E]; rfl, unhid HB3⟩
end Go.Proofs.YtoihhlkidlapmaaGreat

/- Closure, by the model. -/
namespace Go.Proofs.YtoihhlkidlapmaaGreat
open Go.RowKit Go.Shelf

/-- What a walk down answers. -/
def ClR (N : Nat) (w : World) (r : List ByteArray × Int) (x : Ending) (w' : World) : Prop := ∃ v, x = .returned (.tuple #[v, .int .i64 r.2]) ∧ (r.2 = 0 → w'.ownsRow N 9 1 v r.1.length (r.1.map Value.string)) ∧ Below w.heap.size w w'
theorem clR_mk {N : Nat} {w w' : World} {r : List ByteArray × Int} {v : Value} {c : Int} (hc : r.2 = c) (h : r.2 = 0 → w'.ownsRow N 9 1 v r.1.length (r.1.map Value.string)) (hb : Below w.heap.size w w') : ClR N w r (.returned (.tuple #[v, .int .i64 c])) w' := ⟨v, by rw [hc], h, hb⟩
theorem asks_get {ps : List packC.D} {p : packC.D} {m : Nat} {n : needC.D} (h : (needsOf p)[m]? = some n) : (asksOf ps p)[m]? = some (NeedD.name n, hasNeed ps n) := by
  have e := List.getElem?_map (f := fun n : needC.D => (NeedD.name n, hasNeed ps n)) (l := needsOf p) (i := m)
  rw [h] at e
  exact e
theorem asks_len (ps : List packC.D) (p : packC.D) : (asksOf ps p).length = (PackD.needs p).length := List.length_map _
theorem has_in {ps : List packC.D} {n : needC.D} (h : hasNeed ps n = true) : NeedD.name n ∈ namesP ps := by
  by_cases hx : NeedD.name n ∈ namesP ps
  · exact hx
  · rw [has_none hx] at h; cases h

set_option maxRecDepth 100000 in
set_option maxHeartbeats 16000000 in
theorem l8Close_any (ps : List packC.D) (pa : Option Addr) (pc : Nat) (N : Nat) (hs : smallPs ps) (hn : (namesP ps).Nodup) : ∀ (f : Nat) (x : ByteArray) (ov opv : Value) (out op : List ByteArray) (w : World), ps.length + 1 ≤ f + op.length → op.Nodup → (∀ z ∈ op, z ∈ namesP ps) → GoodL (graphP ps) out → N ≤ w.heap.size → rowAt packC w (.slice pa ps.length pc) ps → w.ownsRow N 9 1 ov out.length (out.map Value.string) → rowAt txtC w opv op →
    Calls Tryz.prog 66 #[.slice pa ps.length pc, .string x, ov, opv] w (ClR N w (clsF (graphP ps) f x out op)) := by
  intro f
  induction f with
  | zero =>
    intro x ov opv out op w hf hnd hop _ _ _ _ _
    have := nodup_len op (namesP ps) hnd hop
    rw [namesP_len] at this
    omega
  | succ f ih =>
    intro x ov opv out op w hf hnd hop hg hN hp ho hq
    have HN0 := hid hN
    clear hN
    have IH := hid ih
    have HF := hid (And.intro hf (And.intro hnd hop))
    have HG := hid hg
    have HP := hid hp
    have HO := hid ho
    have HQ := hid hq
    have HN := hid hn
    have HSM := hid hs
    have hlen := hs.1
    have hol : out.length ≤ 1048576 := Nat.le_trans (good_len hg) hlen
    have hpl : op.length ≤ 1048576 := by have := nodup_len op (namesP ps) hnd hop; rw [namesP_len] at this; omega
    have HOL := hid hol
    have HPL := hid hpl
    have HL8 := hid (l8Pack_any ps _ x w hlen hp)
    clear hf hnd hop hg hp ho hq ih hn hs
    go_enter Tryz.func66, Tryz.ntmps66
    go_wp2_with fail
    refine (unhid HL8).mono ?_
    rintro e w1 ⟨⟨r, rfl, hr⟩, hb⟩
    have HB1 := hid hb
    have HR := hid hr
    clear hb hr HL8
    go_wp2_with fail
    refine (l8Has_any out ov x w1 hol (ownsRow_at (ownsRow_belowS (unhid HO) (unhid HB1)))).mono ?_
    rintro e w2 ⟨rfl, ew⟩
    subst w2
    by_cases hxo : x ∈ out
    · rw [memB_yes hxo]
      have E := hid (show clsF (graphP ps) (f + 1) x out op = (out, 0) from cls_in hxo)
      go_wp2_with fail
      go_ret2
      refine clR_mk (by rw [unhid E]) (fun _ => ?_) (unhid HB1)
      rw [unhid E]
      exact ownsRow_belowS (unhid HO) (unhid HB1)
    · rw [memB_no hxo]
      have HXO := hid hxo
      clear hxo
      rcases unhid HR with ⟨rfl, hno⟩ | ⟨i, rfl, hi⟩
      · have E := hid (show (clsF (graphP ps) (f + 1) x out op).2 = 3 by rw [clsF, if_neg (unhid HXO), graph_none hno])
        clear HR hno
        go_wp2_with fail
        go_ret2
        exact clR_mk (unhid E) (fun h0 => by rw [unhid E] at h0; cases h0) (unhid HB1)
      · obtain ⟨p, hpi, hpn⟩ := namesP_some hi
        subst hpn
        have HI := hid hpi
        have hil : i < ps.length := (List.getElem?_eq_some_iff.1 hpi).1
        have EG := hid (graph_at (unhid HN) hpi)
        clear HR hi hpi
        go_wp2_with fail
        refine (l8Has_any op opv (PackD.name p) w1 hpl ((unhid HQ).below (unhid HB1))).mono ?_
        rintro e w2 ⟨rfl, ew⟩
        subst w2
        by_cases hxp : PackD.name p ∈ op
        · rw [memB_yes hxp]
          have E := hid (show (clsF (graphP ps) (f + 1) (PackD.name p) out op).2 = 4 by rw [clsF, if_neg (unhid HXO), unhid EG]; dsimp only; rw [if_pos hxp])
          clear hxp
          go_wp2_with fail
          go_ret2
          exact clR_mk (unhid E) (fun h0 => by rw [unhid E] at h0; cases h0) (unhid HB1)
        · rw [memB_no hxp]
          have E := hid (cls_new (f := f) (unhid HXO) (unhid EG) hxp)
          have HXP := hid hxp
          have HF2 := hid (show ps.length + 1 ≤ f + (op ++ [PackD.name p]).length ∧ (op ++ [PackD.name p]).Nodup ∧ ∀ z ∈ op ++ [PackD.name p], z ∈ namesP ps from
            ⟨by have := (unhid HF).1; rw [List.length_append, List.length_singleton]; omega, List.nodup_append.2 ⟨(unhid HF).2.1, by simp, fun a ha b hb e => by rw [List.mem_singleton.1 hb] at e; exact hxp (e ▸ ha)⟩, fun z hz => by
              rcases List.mem_append.1 hz with hz | hz
              · exact (unhid HF).2.2 z hz
              · rw [List.mem_singleton.1 hz]; exact List.mem_of_getElem? (namesP_get (unhid HI))⟩)
          clear hxp HF
          -- those that wait, with one more
          have HO1 := hid (ownsRow_made0 w1)
          have hba := hid (show Below w1.heap.size w1 (w1.alloc (.cells #[] 9)) from (Below.refl _ w1).alloc (Nat.le_refl _) _)
          have HBA := hid ((unhid HB1).trans ((unhid hba).mono (unhid HB1).size))
          have HQA := hid ((unhid HQ).below (unhid HBA))
          have hsz := hid (unhid hba).size
          go_wp2_with (at_builtin; refine wp_row rfl _ _ rfl w1.heap.size _ [] op opv rfl rfl (unhid HO1) (unhid HQA) (by have := unhid HPL; rw [List.length_nil]; omega) (unhid hsz) ?_)
          intro v3 w3 hown hgr
          have HB3 := hid (grown_belowN (w := w) (unhid HBA) hgr (fun j ej => Nat.le_trans (unhid HB1).size ((unhid HO1).lt j ej).1))
          have HO3 := hid ((show w3.ownsRow w1.heap.size 9 1 v3 op.length (op.map Value.string) from hown).alloc (.cells #[.string (PackD.name p)] 9))
          have hlo := hid (show ∀ j, v3.ownBlock = some j → w1.heap.size ≤ j from fun j ej => (World.ownsRow.lt (show w3.ownsRow w1.heap.size 9 1 v3 op.length (op.map Value.string) from hown) j ej).1)
          have HC3 := hid (cell_newN w3 (.string (PackD.name p)) 9)
          have HB4 := hid ((unhid HB3).alloc (unhid HB3).size (.cells #[.string (PackD.name p)] 9))
          have HSZ := hid (show w1.heap.size ≤ (w3.alloc (.cells #[.string (PackD.name p)] 9)).heap.size from Nat.le_trans (unhid hsz) (Nat.le_trans hgr.size (by simp)))
          clear hown hgr HO1 hba HQA hsz HBA HB3
          go_wp2_with (at_builtin; refine wp_name rfl _ _ rfl w1.heap.size v3 op (PackD.name p) w3.heap.size rfl rfl (unhid HO3) (unhid HC3) (by have := unhid HPL; omega) (unhid HSZ) ?_)
          intro v5 w5 hown hgr
          have HB5 := hid (grown_belowN (w := w) (unhid HB4) hgr (fun j ej => Nat.le_trans (unhid HB1).size (unhid hlo j ej)))
          have HW5 := hid (ownsRow_at (show w5.ownsRow w1.heap.size 9 1 v5 (op ++ [PackD.name p]).length ((op ++ [PackD.name p]).map Value.string) by simpa using hown))
          clear hown hgr HO3 HC3 HSZ hlo HB4
          go_wp2_with fail
          -- its needs
          go_loopw [2, 12] (fun s j wr => ∃ m : Nat, m ≤ (PackD.needs p).length ∧ j = .int .i64 (m : Int) ∧ Hid ((needsF (fun y o => clsF (graphP ps) f y o (op ++ [PackD.name p])) ((asksOf ps p).take m) out).2 = 0) ∧ Hid (wr.ownsRow N 9 1 s (needsF (fun y o => clsF (graphP ps) f y o (op ++ [PackD.name p])) ((asksOf ps p).take m) out).1.length ((needsF (fun y o => clsF (graphP ps) f y o (op ++ [PackD.name p])) ((asksOf ps p).take m) out).1.map Value.string)) ∧ Hid (Below w5.heap.size w5 wr)) (fun _ j _ => (PackD.needs p).length - (intOf j).toNat)
          case atStart => exact ⟨0, Nat.zero_le _, rfl, hid rfl, hid (ownsRow_belowS (unhid HO) (unhid HB5)), hid (Below.refl _ _)⟩
          case round =>
            obtain ⟨m, hm, rfl, H0, HS, HBr⟩ := hrel
            have HB := hid ((unhid HB5).trans ((unhid HBr).mono (unhid HB5).size))
            obtain ⟨pa', pc', epv, -, -, hrow⟩ := unhid HP
            injection epv with ea _ ec
            subst ea ec
            obtain ⟨b, o, rfl, hbl, hc⟩ := hrow.resolve_left (by intro e; rw [e] at hil; simp at hil)
            obtain ⟨na, nc, ta, tc, ⟨c0, c1, c2, c3⟩, hat⟩ := pack_cells (unhid HB) hbl hc (unhid HI)
            have HC := hid hc
            have HBL := hid hbl
            have SP := hid ((unhid HSM).2 p (List.mem_of_getElem? (unhid HI)))
            have hnl : (PackD.needs p).length ≤ 1048576 := (unhid SP).needs.1
            clear c0 c1 c3 hc hbl hrow
            by_cases hlt2 : m < (PackD.needs p).length
            · obtain ⟨n, hnn⟩ : ∃ n, (needsOf p)[m]? = some n := ⟨(needsOf p)[m]'hlt2, List.getElem?_eq_getElem hlt2⟩
              obtain ⟨b2, o2, rfl, hbl2, n0, n1, n2⟩ := need_in hat hnn
              have HNA := hid (needs_at (asks_get (ps := ps) hnn) (unhid H0))
              have SN := hid ((unhid SP).needs.2 n (List.mem_of_getElem? hnn))
              have HB0 := hid (show ∀ x, Below w5.heap.size w5 (wr.alloc x) from fun x => (unhid HBr).alloc (unhid HBr).size x)
              clear hnn hat hbl2
              go_wp2_with fail
              have hbox := World.alloc_heap_new wr (.cells #[.string (NeedD.name n), .int .i64 (NeedD.kind n), .string (NeedD.version n)] 36)
              have hB0 := unhid HB0 (.cells #[.string (NeedD.name n), .int .i64 (NeedD.kind n), .string (NeedD.version n)] 36)
              have hB1 : Below wr.heap.size wr (wr.alloc (.cells #[.string (NeedD.name n), .int .i64 (NeedD.kind n), .string (NeedD.version n)] 36)) := (Below.refl _ wr).alloc (Nat.le_refl _) _
              have hlw : wr.heap.size < (wr.alloc (.cells #[.string (NeedD.name n), .int .i64 (NeedD.kind n), .string (NeedD.version n)] 36)).heap.size := by simp
              generalize wr.alloc (.cells #[.string (NeedD.name n), .int .i64 (NeedD.kind n), .string (NeedD.version n)] 36) = W0 at hbox hB1 hB0 hlw ⊢
              have BX := hid hbox
              have HBr2 := hid hB0
              have HB2 := hid ((unhid HB5).trans ((unhid HBr2).mono (unhid HB5).size))
              have HS2 := hid (ownsRow_belowS (unhid HS) hB1)
              have HLW := hid hlw
              clear hbox hB0 hB1 hlw HB0 c2 n0 n1 n2 HBr HB HS
              refine (l8Pack_any ps _ (NeedD.name n) W0 hlen ((unhid HP).below (unhid HB2))).mono ?_
              rintro x W1 ⟨⟨r, rfl, hr⟩, hb⟩
              have HBr3 := hid ((unhid HBr2).trans (hb.mono (unhid HBr2).size))
              have HB3 := hid ((unhid HB2).trans (hb.mono (unhid HB2).size))
              have HS3 := hid (ownsRow_belowS (unhid HS2) hb)
              have BX1 := hid ((hb.block _ (unhid HLW)).trans (unhid BX))
              have HLW1 := hid (Nat.lt_of_lt_of_le (unhid HLW) hb.size)
              clear hb BX HLW HB2 HBr2 HS2
              have g0 : ∀ x : CW (fun w' => Below W1.heap.size W1 w'), x.w.cell? ⟨wr.heap.size, 0, none⟩ = some (.string (NeedD.name n)) := fun x => cell_arrS ((x.h.block _ (unhid HLW1)).trans (unhid BX1)) 0 _ rfl
              have g1 : ∀ x : CW (fun w' => Below W1.heap.size W1 w'), x.w.cell? ⟨wr.heap.size, 1, none⟩ = some (.int .i64 (NeedD.kind n)) := fun x => cell_arrS ((x.h.block _ (unhid HLW1)).trans (unhid BX1)) 1 _ rfl
              have g2 : ∀ x : CW (fun w' => Below W1.heap.size W1 w'), x.w.cell? ⟨wr.heap.size, 2, none⟩ = some (.string (NeedD.version n)) := fun x => cell_arrS ((x.h.block _ (unhid HLW1)).trans (unhid BX1)) 2 _ rfl
              have hba : ∀ {q : Prop}, (CW (fun w' => Below W1.heap.size W1 w') → q) ↔ q := CW.all (Below.refl _ W1)
              rcases hr with ⟨rfl, hno⟩ | ⟨i2, rfl, hi⟩
              · have EH := hid (has_none hno)
                clear hno
                go_wp2_with fail
                refine held_begin (fun w' => Below W1.heap.size W1 w') (by kernel_rfl) (drew_belowS _) ?_
                refine held_here [true, true, true, true, true, true, true, true, true, true, true] (by kernel_rfl) (by kernel_rfl) (fun _ _ _ _ _ h => h) (drew_belowS _) ?_
                dsimp only [pick]
                repeat (go_big_quiet_step (fail))
                refine wpQuiet_nil ?_
                have hD := drew_belowS (B := W1.heap.size) W1
                generalize W1.drew = W2 at hD ⊢
                clear g0 g1 g2
                refine held_skip 11 73 (by kernel_rfl) (by kernel_rfl) rfl rfl rfl hD ?_
                simp only [Act.put, List.setIfInBounds_toArray, List.set_cons_zero, List.set_cons_succ]
                refine held_here [false, false, false, false, false, false, false, false, false, false, false, false, true, true] (by kernel_rfl) (by kernel_rfl) (fun _ _ _ _ _ h => h) hD ?_
                dsimp only [pick]
                repeat (go_big_quiet_step (fail))
                refine wpQuiet_nil ?_
                refine held_done (by kernel_rfl) ?_
                have HB4 := hid ((unhid HB3).trans (hD.mono (unhid HB3).size))
                have E3 := hid ((unhid HNA).1 (unhid EH))
                clear hba hD
                go_wp2_with fail
                go_ret2
                have e2 : (clsF (graphP ps) (f + 1) (PackD.name p) out op).2 = 3 := by rw [unhid E, if_neg (by rw [unhid E3]; decide)]; exact unhid E3
                exact clR_mk e2 (fun h0 => by rw [e2] at h0; cases h0) (unhid HB4)
              · obtain ⟨q, hq, hqn⟩ := namesP_some hi
                have hi2l : i2 < ps.length := (List.getElem?_eq_some_iff.1 hq).1
                have hi0 : decide ((i2 : Int) < 0) = false := decide_eq_false (by omega)
                have EH := hid (has_atN (unhid HN) hq hqn)
                have SQ := hid ((unhid HSM).2 q (List.mem_of_getElem? hq))
                obtain ⟨-, -, -, -, ⟨-, d1, -, -⟩, -⟩ := pack_cells (unhid HB3) (unhid HBL) (unhid HC) hq
                have hbw : b < W1.heap.size := Nat.lt_of_lt_of_le (unhid HBL) (unhid HB3).size
                have g3 : ∀ x : CW (fun w' => Below W1.heap.size W1 w'), x.w.cell? ⟨b, o + i2 * 4 + 1, none⟩ = some (.string (PackD.version q)) := fun x => (x.h.cell (p := ⟨b, o + i2 * 4 + 1, none⟩) hbw).trans d1
                clear hi hq hqn d1
                go_wp2_with fail
                refine held_begin (fun w' => Below W1.heap.size W1 w') (by kernel_rfl) (drew_belowS _) ?_
                refine held_here [true, true, true, true, true, true, true, true, true, true, true] (by kernel_rfl) (by kernel_rfl) (fun _ _ _ _ _ h => h) (drew_belowS _) ?_
                dsimp only [pick]
                repeat (go_big_quiet_step (fail))
                refine wpQuiet_nil ?_
                have hD := drew_belowS (B := W1.heap.size) W1
                generalize W1.drew = W2 at hD ⊢
                clear g0 g1 g2 g3
                refine held_call 11 126 73 (enters_of Tryz.func126 (by kernel_rfl) rfl) #[.agg #[.string (NeedD.name n), .int .i64 (NeedD.kind n), .string (NeedD.version n)], .string (NeedD.name n), .string (PackD.version q)] (by kernel_rfl) (by kernel_rfl) rfl rfl rfl rfl rfl ?_
                refine (l3Fits_any (NeedD.name n) (NeedD.version n) (NeedD.name n) (PackD.version q) (NeedD.kind n) (unhid SN).2 (unhid SQ).version W2).mono ?_
                rintro x W3 ⟨rfl, hb⟩
                have hD2 := hD.trans (hb.mono hD.size)
                have HB4 := hid ((unhid HB3).trans (hD2.mono (unhid HB3).size))
                have HBr4 := hid ((unhid HBr3).trans (hD2.mono (unhid HBr3).size))
                have HS4 := hid (ownsRow_belowS (unhid HS3) hD2)
                have BX4 := hid ((hD2.block _ (unhid HLW1)).trans (unhid BX1))
                refine ⟨_, rfl, hD2, ?_⟩
                simp only [Act.put, List.setIfInBounds_toArray, List.set_cons_zero, List.set_cons_succ]
                clear hb
                rw [show ((NeedD.name n).data.toList == (NeedD.name n).data.toList) = true by simp, Bool.true_and, ← unhid EH]
                cases hh : hasNeed ps n with
                | false =>
                  have E3 := hid ((unhid HNA).1 hh)
                  refine held_here [false, false, false, false, false, false, false, false, false, false, false, false, true, true] (by kernel_rfl) (by kernel_rfl) (fun _ _ _ _ _ h => h) hD2 ?_
                  dsimp only [pick]
                  repeat (go_big_quiet_step (fail))
                  refine wpQuiet_nil ?_
                  refine held_done (by kernel_rfl) ?_
                  clear hba hD hD2
                  go_wp2_with fail
                  go_ret2
                  have e2 : (clsF (graphP ps) (f + 1) (PackD.name p) out op).2 = 3 := by rw [unhid E, if_neg (by rw [unhid E3]; decide)]; exact unhid E3
                  exact clR_mk e2 (fun h0 => by rw [e2] at h0; cases h0) (unhid HB4)
                | true =>
                  have HH := hid hh
                  clear hh
                  refine held_here [false, false, false, false, false, false, false, false, false, false, false, false, true, true] (by kernel_rfl) (by kernel_rfl) (fun _ _ _ _ _ h => h) hD2 ?_
                  dsimp only [pick]
                  repeat (go_big_quiet_step (fail))
                  refine wpQuiet_nil ?_
                  refine held_done (by kernel_rfl) ?_
                  clear hba hD hD2
                  have GG := hid (needs_ok (fun y o => cls_ok (graphP ps) f y o (op ++ [PackD.name p])) _ out (unhid H0) (unhid HG)).1
                  have cc := cell_arrS (unhid BX4) 0 _ rfl
                  go_wp2_with fail
                  refine (unhid IH (NeedD.name n) _ v5 _ (op ++ [PackD.name p]) W3 (unhid HF2).1 (unhid HF2).2.1 (unhid HF2).2.2 (unhid GG) (Nat.le_trans (unhid HN0) (unhid HB4).size) ((unhid HP).below (unhid HB4)) (unhid HS4) ((unhid HW5).below (unhid HBr4))).mono ?_
                  rintro e W5 ⟨vv, rfl, hrv, hb⟩
                  have HB5b := hid ((unhid HB4).trans (hb.mono (unhid HB4).size))
                  have HBr5 := hid ((unhid HBr4).trans (hb.mono (unhid HBr4).size))
                  have HRV := hid hrv
                  clear hb hrv cc
                  by_cases hz : (clsF (graphP ps) f (NeedD.name n) (needsF (fun y o => clsF (graphP ps) f y o (op ++ [PackD.name p])) ((asksOf ps p).take m) out).1 (op ++ [PackD.name p])).2 = 0
                  · have EN := hid ((unhid HNA).2.2 (unhid HH) hz)
                    have RV := hid (unhid HRV hz)
                    rw [hz]
                    have HZ := hid hz
                    clear hz HRV
                    go_wp2_with fail
                    go_roundw
                    case rel => exact ⟨m + 1, by omega, by go_num, hid (by rw [unhid EN]; exact unhid HZ), hid (by rw [unhid EN]; exact unhid RV), HBr5⟩
                    case measure => simp [intOf]; omega
                  · have EN := hid ((unhid HNA).2.1 (unhid HH) hz)
                    have e2 := hid (show (clsF (graphP ps) (f + 1) (PackD.name p) out op).2 = (clsF (graphP ps) f (NeedD.name n) (needsF (fun y o => clsF (graphP ps) f y o (op ++ [PackD.name p])) ((asksOf ps p).take m) out).1 (op ++ [PackD.name p])).2 by rw [unhid E, if_neg (by rw [unhid EN]; exact hz)]; exact unhid EN)
                    have hz' := hid hz
                    clear HRV EN
                    generalize (clsF (graphP ps) f (NeedD.name n) (needsF (fun y o => clsF (graphP ps) f y o (op ++ [PackD.name p])) ((asksOf ps p).take m) out).1 (op ++ [PackD.name p])).2 = cz at *
                    have hzb : (cz != 0) = true := by simpa using hz
                    go_wp2_with fail
                    go_ret2
                    exact clR_mk (unhid e2) (fun h0 => absurd ((unhid e2).symm.trans h0) (unhid hz')) (unhid HB5b)
            · have em : m = (PackD.needs p).length := by omega
              have EA : (asksOf ps p).take m = asksOf ps p := List.take_of_length_le (by rw [asks_len]; omega)
              have H1 := unhid H0
              have HS1 := unhid HS
              rw [EA] at H1 HS1
              have E0 := hid (show clsF (graphP ps) (f + 1) (PackD.name p) out op = ((needsF (fun y o => clsF (graphP ps) f y o (op ++ [PackD.name p])) (asksOf ps p) out).1 ++ [PackD.name p], 0) by rw [unhid E, if_pos H1])
              have GG := hid (good_len (needs_ok (fun y o => cls_ok (graphP ps) f y o (op ++ [PackD.name p])) _ out H1 (unhid HG)).1)
              generalize (needsF (fun y o => clsF (graphP ps) f y o (op ++ [PackD.name p])) (asksOf ps p) out).1 = fin at HS1 E0 GG
              have HO1 := hid (ownsRow_made0 wr)
              have hba := hid (show Below wr.heap.size wr (wr.alloc (.cells #[] 9)) from (Below.refl _ wr).alloc (Nat.le_refl _) _)
              have HBA := hid ((unhid HB).trans ((unhid hba).mono (unhid HB).size))
              have HQA := hid (ownsRow_at (ownsRow_belowS HS1 (unhid hba)))
              have hsz := hid (unhid hba).size
              clear H1 HS1 EA HS H0 E hat
              go_wp2_with (at_builtin; refine wp_row rfl _ _ rfl wr.heap.size _ [] fin _ rfl rfl (unhid HO1) (unhid HQA) (by have := unhid GG; rw [List.length_nil]; omega) (unhid hsz) ?_)
              intro v6 w6 hown hgr
              have HB6 := hid (grown_belowN (w := w) (unhid HBA) hgr (fun j ej => Nat.le_trans (unhid HB).size ((unhid HO1).lt j ej).1))
              have HO3 := hid ((show w6.ownsRow wr.heap.size 9 1 v6 fin.length (fin.map Value.string) from hown).alloc (.cells #[.string (PackD.name p)] 9))
              have hlo := hid (show ∀ j, v6.ownBlock = some j → wr.heap.size ≤ j from fun j ej => (World.ownsRow.lt (show w6.ownsRow wr.heap.size 9 1 v6 fin.length (fin.map Value.string) from hown) j ej).1)
              have HC3 := hid (cell_newN w6 (.string (PackD.name p)) 9)
              have HB7 := hid ((unhid HB6).alloc (unhid HB6).size (.cells #[.string (PackD.name p)] 9))
              have HSZ := hid (show wr.heap.size ≤ (w6.alloc (.cells #[.string (PackD.name p)] 9)).heap.size from Nat.le_trans (unhid hsz) (Nat.le_trans hgr.size (by simp)))
              clear hown hgr HO1 hba HQA hsz HBA HB6
              go_wp2_with (at_builtin; refine wp_name rfl _ _ rfl wr.heap.size v6 fin (PackD.name p) w6.heap.size rfl rfl (unhid HO3) (unhid HC3) (by have := unhid GG; omega) (unhid HSZ) ?_)
              intro v8 w8 hown hgr
              have HB8 := hid (grown_belowN (w := w) (unhid HB7) hgr (fun j ej => Nat.le_trans (unhid HB).size (unhid hlo j ej)))
              have HW8 := hid (ownsRow_lowerS (N := N) (show w8.ownsRow wr.heap.size 9 1 v8 (fin ++ [PackD.name p]).length ((fin ++ [PackD.name p]).map Value.string) by simpa using hown) (Nat.le_trans (unhid HN0) (unhid HB).size))
              clear hown hgr HO3 HC3 HSZ hlo HB7
              go_wp2_with fail
              go_ret2
              refine clR_mk (by rw [unhid E0]) (fun _ => ?_) (unhid HB8)
              rw [unhid E0]
              exact unhid HW8

/-- What Closure answers. -/
def closeR (ps : List packC.D) (xs : List ByteArray) : List ByteArray × Int := if packsCode ps = 0 then closeL (fun x o => clsF (graphP ps) (ps.length + 1) x o []) xs [] else ([], packsCode ps)
def closure_0 (ps : List packC.D) (xs : List ByteArray) : List ByteArray := (closeR ps xs).1
def closure_1 (ps : List packC.D) (xs : List ByteArray) : Int := (closeR ps xs).2
theorem packs_ok {ps : List packC.D} (h : packsCode ps = 0) : allPk ps = true ∧ (namesP ps).Nodup := by
  unfold packsCode at h
  by_cases h1 : allPk ps = true
  · rw [if_pos h1] at h
    refine ⟨h1, ?_⟩
    by_cases h2 : twiceB (namesP ps) = true
    · rw [if_pos h2] at h; cases h
    · unfold twiceB at h2; simpa using h2
  · rw [if_neg h1] at h; cases h
theorem packs_code {ps : List packC.D} (h1 : allPk ps = true) (h2 : (namesP ps).Nodup) : packsCode ps = 0 := by
  unfold packsCode twiceB
  rw [if_pos h1, if_neg (by simp [h2])]
theorem close_app {f : ByteArray → List ByteArray → List ByteArray × Int} : ∀ (as_ bs out : List ByteArray), (closeL f as_ out).2 = 0 → closeL f (as_ ++ bs) out = closeL f bs (closeL f as_ out).1
  | [], bs, out, _ => rfl
  | x :: as_, bs, out, h => by
    rw [List.cons_append, closeL]
    rw [closeL] at h
    rw [closeL]
    by_cases h2 : (f x out).2 = 0
    · rw [if_pos h2] at h ⊢
      rw [if_pos h2]
      exact close_app as_ bs _ h
    · rw [if_neg h2] at h; exact absurd h h2
theorem close_at {f : ByteArray → List ByteArray → List ByteArray × Int} {xs : List ByteArray} {k : Nat} {x : ByteArray} (hx : xs[k]? = some x) (h0 : (closeL f (xs.take k) []).2 = 0) :
    ((f x (closeL f (xs.take k) []).1).2 ≠ 0 → closeL f xs [] = ([], (f x (closeL f (xs.take k) []).1).2)) ∧ ((f x (closeL f (xs.take k) []).1).2 = 0 → closeL f (xs.take (k + 1)) [] = f x (closeL f (xs.take k) []).1) := by
  refine ⟨fun h => ?_, fun h => ?_⟩
  · have e := split_at hx
    rw [e, close_app _ _ _ h0, closeL, if_neg h, ← e]
  · rw [List.take_add_one, hx, close_app _ _ _ h0]
    show closeL f [x] _ = _
    rw [closeL, if_pos h, closeL, ← h]

set_option maxRecDepth 100000 in
set_option maxHeartbeats 8000000 in
theorem specClosure_any (ps : List packC.D) (pa : Option Addr) (pc : Nat) (xs : List ByteArray) (V : Value) (w : World) (hs : smallPs ps) (hx : xs.length ≤ 1048576) (hp : rowAt packC w (.slice pa ps.length pc) ps) (h : rowAt txtC w V xs) :
    Calls Tryz.prog 17 #[.slice pa ps.length pc, V] w fun e w' => (∃ v, e = .returned (.tuple #[v, .int .i64 (closure_1 ps xs)]) ∧ w'.ownsRow w.heap.size 9 1 v (closure_0 ps xs).length ((closure_0 ps xs).map Value.string)) ∧ Below w.heap.size w w' := by
  obtain ⟨xa, xc, rfl, ht, -, -⟩ := rowAt_txts h
  have HT := hid ht
  have HP := hid hp
  have HSM := hid hs
  have HL := hid (l8Packs_any ps _ w hs hp)
  clear h ht hp hs
  go_enter Tryz.func17, Tryz.ntmps17
  go_wp2_with fail
  refine (unhid HL).mono ?_
  rintro e w1 ⟨rfl, hb⟩
  have HB1 := hid hb
  clear hb HL
  by_cases hc : packsCode ps = 0
  · have E := hid (show closeR ps xs = closeL (fun x o => clsF (graphP ps) (ps.length + 1) x o []) xs [] by unfold closeR; rw [if_pos hc])
    have HN := hid (packs_ok hc).2
    rw [hc]
    clear hc
    have r0 := hid (ownsRow_lowerS (ownsRow_made0 w1) (unhid HB1).size)
    have hba := hid (show Below w.heap.size w (w1.alloc (.cells #[] 9)) from (unhid HB1).alloc (unhid HB1).size _)
    go_wp2_with fail
    generalize w1.alloc (.cells #[] 9) = w2 at r0 hba ⊢
    go_loopw [7, 8] (fun s i wr => ∃ k : Nat, k ≤ xs.length ∧ i = .int .i64 (k : Int) ∧ Hid ((closeL (fun x o => clsF (graphP ps) (ps.length + 1) x o []) (xs.take k) []).2 = 0) ∧ Hid (wr.ownsRow w.heap.size 9 1 s (closeL (fun x o => clsF (graphP ps) (ps.length + 1) x o []) (xs.take k) []).1.length ((closeL (fun x o => clsF (graphP ps) (ps.length + 1) x o []) (xs.take k) []).1.map Value.string)) ∧ Hid (Below w.heap.size w wr)) (fun _ i _ => xs.length - (intOf i).toNat)
    case atStart => exact ⟨0, Nat.zero_le _, rfl, hid rfl, hid (unhid r0), hba⟩
    case round =>
      clear r0 hba
      obtain ⟨k, hk, rfl, H0, HS, HB⟩ := hrel
      by_cases hlt : k < xs.length
      · obtain ⟨x, hxk⟩ : ∃ x, xs[k]? = some x := ⟨xs[k], List.getElem?_eq_getElem hlt⟩
        obtain ⟨b, o, rfl, hbl, hcell⟩ := (unhid HT).get (by intro e; subst e; simp at hlt)
        have c0 := ((unhid HB).cell (p := ⟨b, o + k, none⟩) hbl).trans (hcell k x hxk)
        have c0 := fun y => Go.Lib.cell?_alloc_some y c0
        have HCA := hid (close_at (f := fun x o => clsF (graphP ps) (ps.length + 1) x o []) hxk (unhid H0))
        have HG := hid (close_ok (G := graphP ps) (N := ps.length + 1) (xs.take k) [] (unhid H0) (good_nil _)).1
        have r0 := hid (ownsRow_at (ownsRow_made0 wr))
        have hba := hid (show Below wr.heap.size wr (wr.alloc (.cells #[] 9)) from (Below.refl _ wr).alloc (Nat.le_refl _) _)
        have c1 := ((unhid HB).cell (p := ⟨b, o + k, none⟩) hbl).trans (hcell k x hxk)
        clear hcell hbl hxk
        go_wp2_with fail
        generalize wr.alloc (.cells #[] 9) = w3 at r0 hba c0 ⊢
        have HB3 := hid ((unhid HB).trans ((unhid hba).mono (unhid HB).size))
        refine (l8Close_any ps pa pc w.heap.size (unhid HSM) (unhid HN) (ps.length + 1) x _ _ _ [] w3 (by simp) List.nodup_nil (fun z hz => by cases hz) (unhid HG) (unhid HB3).size ((unhid HP).below (unhid HB3)) (ownsRow_belowS (unhid HS) (unhid hba)) (unhid r0)).mono ?_
        rintro e w4 ⟨vv, rfl, hrv, hb⟩
        have HB4 := hid ((unhid HB3).trans (hb.mono (unhid HB3).size))
        have HRV := hid hrv
        clear hb hrv c0 c1 r0 hba HS HB HB3
        by_cases hz : (clsF (graphP ps) (ps.length + 1) x (closeL (fun x o => clsF (graphP ps) (ps.length + 1) x o []) (xs.take k) []).1 []).2 = 0
        · have EN := hid ((unhid HCA).2 hz)
          have RV := hid (unhid HRV hz)
          have HZ := hid hz
          rw [hz]
          clear hz HRV
          go_wp2_with fail
          go_roundw
          case rel => exact ⟨k + 1, by omega, by go_num, hid (by rw [unhid EN]; exact unhid HZ), hid (by rw [unhid EN]; exact unhid RV), HB4⟩
          case measure => simp [intOf]; omega
        · have EN := hid ((unhid E).trans ((unhid HCA).1 hz))
          clear HRV HCA H0 HG
          generalize (clsF (graphP ps) (ps.length + 1) x (closeL (fun x o => clsF (graphP ps) (ps.length + 1) x o []) (xs.take k) []).1 []).2 = cz at *
          have hzb : (cz != 0) = true := by simpa using hz
          have r0 := hid (ownsRow_lowerS (ownsRow_made0 w4) (unhid HB4).size)
          have HB5 := hid ((unhid HB4).alloc (unhid HB4).size (.cells #[] 9))
          clear c0
          go_wp2_with fail
          go_ret2
          exact ⟨⟨_, by unfold closure_1; rw [unhid EN]; rfl, by unfold closure_0; rw [unhid EN]; exact unhid r0⟩, unhid HB5⟩
      · have e : k = xs.length := by omega
        subst e
        have H1 := unhid H0
        have HS1 := unhid HS
        rw [List.take_of_length_le (Nat.le_refl _)] at H1 HS1
        have E1 := hid (show closure_1 ps xs = 0 by unfold closure_1; rw [unhid E]; exact H1)
        have E2 := hid (show wr.ownsRow w.heap.size 9 1 _ (closure_0 ps xs).length ((closure_0 ps xs).map Value.string) by unfold closure_0; rw [unhid E]; exact HS1)
        clear H1 HS1
        go_wp2_with fail
        go_ret2
        exact ⟨⟨_, by rw [unhid E1]; rfl, unhid E2⟩, unhid HB⟩
  · have E := hid (show closeR ps xs = ([], packsCode ps) by unfold closeR; rw [if_neg hc])
    generalize packsCode ps = cz at *
    have hzb : (cz != 0) = true := by simpa using hc
    have r0 := hid (ownsRow_lowerS (ownsRow_made0 w1) (unhid HB1).size)
    have HB5 := hid ((unhid HB1).alloc (unhid HB1).size (.cells #[] 9))
    go_wp2_with fail
    go_ret2
    exact ⟨⟨_, by unfold closure_1; rw [unhid E]; rfl, by unfold closure_0; rw [unhid E]; exact unhid r0⟩, unhid HB5⟩
end Go.Proofs.YtoihhlkidlapmaaGreat

/- Closure, by the program: packs that are ok, their names, and where each is. -/
namespace Go.Proofs.YtoihhlkidlapmaaGreat
open Go.RowKit Go.Shelf Go.Maps

set_option maxRecDepth 100000 in
set_option maxHeartbeats 4000000 in
theorem listOkPack_any (ps : List packC.D) (v : Value) (w : World) (hs : smallPs ps) (h : rowAt packC w v ps) :
    Calls Tryz.prog 59 #[v, .int .i64 (ps.length : Int), .func (.func 60) #[] #[]] w fun x w' => x = .returned (.bool (allPk ps)) ∧ Below w.heap.size w w' := by
  obtain ⟨a, cap, rfl, -, -, h⟩ := h
  have hlen := hs.1
  have HSM := hid hs
  have H := hid h
  clear h hs
  go_enter Tryz.func59, Tryz.ntmps59
  go_wp2_with fail
  go_loopw [15] (fun i wr => ∃ k : Nat, k ≤ ps.length ∧ i = .int .i64 (k : Int) ∧ Hid (allPk (ps.take k) = true) ∧ Hid (Below w.heap.size w wr)) (fun i _ => ps.length - (intOf i).toNat)
  case atStart => exact ⟨0, Nat.zero_le _, rfl, hid rfl, hid (Below.refl _ _)⟩
  case round =>
    obtain ⟨k, hk, rfl, HA, HB⟩ := hrel
    by_cases hlt : k < ps.length
    · obtain ⟨e, he⟩ : ∃ e, ps[k]? = some e := ⟨ps[k], List.getElem?_eq_getElem hlt⟩
      obtain ⟨b, o, rfl, hbl, hc⟩ := (unhid H).resolve_left (by intro e; subst e; simp at hlt)
      obtain ⟨na, nc, ta, tc, ⟨c0, c1, c2, c3⟩, hat⟩ := pack_cells (unhid HB) hbl hc he
      have HAT := hid hat
      have HS := hid ((unhid HSM).2 e (List.mem_of_getElem? he))
      have HE := hid he
      have HBA := hid (show ∀ x, Below w.heap.size w (wr.alloc x) from fun x => (unhid HB).alloc (unhid HB).size x)
      have HBR := hid (show ∀ x, Below wr.heap.size wr (wr.alloc x) from fun x => (Below.refl _ wr).alloc (Nat.le_refl _) x)
      clear hc he hbl HB hat
      go_wp2_with fail
      refine (packOk_any e _ _ (unhid HS) (packC.below (unhid HAT) (unhid HBR _))).mono ?_
      rintro x w2 ⟨rfl, hb⟩
      have HB2 := hid ((unhid HBA _).trans (hb.mono (unhid HBA _).size))
      clear hb c0 c1 c2 c3 HBA HBR
      cases hq : pkOk e with
      | false =>
        have E := hid (allPk_no (unhid HE) hq)
        go_wp2_with fail
        go_ret
        exact ⟨by rw [unhid E]; rfl, unhid HB2⟩
      | true =>
        have HQ := hid hq
        clear hq
        go_wp2_with fail
        go_roundw
        case rel => exact ⟨k + 1, by omega, by go_num, hid (all_take_next (p := fun q : packC.D => pkOk q) (unhid HE) (unhid HA) (unhid HQ)), HB2⟩
        case measure => simp [intOf]; omega
    · have e : k = ps.length := by omega
      subst e
      have E := hid (show allPk ps = true by have := unhid HA; rw [List.take_of_length_le (Nat.le_refl _)] at this; exact this)
      go_wp2_with fail
      go_ret
      exact ⟨by rw [unhid E]; rfl, unhid HB⟩

set_option maxRecDepth 100000 in
set_option maxHeartbeats 1000000 in
theorem packNames1_any (e : packC.D) (na : Option Addr) (nc : Nat) (ta : Option Addr) (tc : Nat) (w : World) :
    Calls Tryz.prog 119 #[.agg #[.string (PackD.name e), .string (PackD.version e), .slice na (PackD.needs e).length nc, .slice ta (PackD.tree e).length tc]] w fun x w' => x = .returned (.string (PackD.name e)) ∧ Below w.heap.size w w' := by
  have HB := hid (show ∀ x, Below w.heap.size w (w.alloc x) from fun x => (Below.refl _ w).alloc (Nat.le_refl _) x)
  go_enter Tryz.func119, Tryz.ntmps119
  go_wp2_with fail
  go_ret
  exact ⟨rfl, unhid HB _⟩

set_option maxRecDepth 100000 in
set_option maxHeartbeats 4000000 in
theorem packNames_any (ps : List packC.D) (v : Value) (w : World) (hl : ps.length ≤ 1048576) (h : rowAt packC w v ps) :
    Calls Tryz.prog 118 #[v, .func (.func 119) #[] #[]] w fun x w' => ∃ u, x = .returned u ∧ w'.ownsRow w.heap.size 9 1 u (namesP ps).length ((namesP ps).map Value.string) ∧ Below w.heap.size w w' := by
  obtain ⟨a, cap, rfl, -, -, h⟩ := h
  have H := hid h
  clear h
  go_enter Tryz.func118, Tryz.ntmps118
  go_wp2_with fail
  go_loopw [5, 10] (fun s i wr => ∃ (k : Nat) (oa : Option Addr) (oc : Nat), k ≤ ps.length ∧ i = .int .i64 (k : Int) ∧ s = .slice oa k oc ∧ Hid (wr.ownsRow w.heap.size 9 1 (.slice oa k oc) ((namesP ps).take k).length (((namesP ps).take k).map Value.string)) ∧ Hid (Below w.heap.size w wr)) (fun _ i _ => ps.length - (intOf i).toNat)
  case atStart => exact ⟨0, _, _, Nat.zero_le _, rfl, rfl, hid (ownsRow_none _ _), hid (Below.refl _ _)⟩
  case round =>
    obtain ⟨k, oa, oc, hk, rfl, rfl, HO, HB⟩ := hrel
    by_cases hlt : k < ps.length
    · obtain ⟨e, he⟩ : ∃ e, ps[k]? = some e := ⟨ps[k], List.getElem?_eq_getElem hlt⟩
      obtain ⟨b, o, rfl, hbl, hc⟩ := (unhid H).resolve_left (by intro e; subst e; simp at hlt)
      obtain ⟨na, nc, ta, tc, ⟨c0, c1, c2, c3⟩, -⟩ := pack_cells (unhid HB) hbl hc he
      have HX := hid (namesP_get he)
      have HBA := hid (show ∀ x, Below w.heap.size w (wr.alloc x) from fun x => (unhid HB).alloc (unhid HB).size x)
      have HOA := hid (fun x => (unhid HO).alloc x)
      have hlo := hid (show ∀ j, (Value.slice oa k oc).ownBlock = some j → w.heap.size ≤ j from fun j ej => ((unhid HO).lt j ej).1)
      clear hc he hbl HB HO
      go_wp2_with fail
      refine (packNames1_any e na nc ta tc _).mono ?_
      rintro x w2 ⟨rfl, hb⟩
      have HB2a := hid ((unhid HBA _).trans (hb.mono (unhid HBA _).size))
      have HO2 := hid ((ownsRow_belowS (unhid HOA _) hb).alloc (.cells #[.string (PackD.name e)] 9))
      have HB2 := hid ((unhid HB2a).alloc (unhid HB2a).size (.cells #[.string (PackD.name e)] 9))
      have HC2 := hid (cell_newN w2 (.string (PackD.name e)) 9)
      have HKL := hid (show ((namesP ps).take k).length ≤ 1048576 by rw [List.length_take]; omega)
      have HSZ := hid (unhid HB2).size
      clear hb c0 c1 c2 c3 HBA HOA HB2a
      go_wp2_with (at_builtin; refine wp_name rfl _ _ rfl w.heap.size (.slice oa k oc) ((namesP ps).take k) (PackD.name e) w2.heap.size rfl rfl (unhid HO2) (unhid HC2) (by have := unhid HKL; omega) (unhid HSZ) ?_)
      intro v' w4 hown hg
      have ho3 := ownsRow_take (unhid HX) (W := w4) (N := w.heap.size) (v := v') (by simpa using hown)
      have HB3 := hid (grown_belowN (unhid HB2) hg (unhid hlo))
      obtain ⟨oa2, oc2, hv, -⟩ := ownsRow_txts ho3
      have hk1 : ((namesP ps).take (k + 1)).length = k + 1 := by rw [List.length_take, namesP_len]; omega
      rw [hk1] at hv
      subst hv
      have HO3 := hid ho3
      clear hown hg hlo HC2 HB2 HO2 HSZ HKL ho3 hk1
      go_wp2_with fail
      go_roundw
      case rel => exact ⟨k + 1, oa2, oc2, by omega, by go_num, rfl, HO3, HB3⟩
      case measure => simp [intOf]; omega
    · have e : k = ps.length := by omega
      subst e
      go_wp2_with fail
      go_ret
      have := unhid HO
      rw [List.take_of_length_le (by rw [namesP_len]; exact Nat.le_refl _)] at this
      exact ⟨_, rfl, this, unhid HB⟩

/-- A map from names to where each is. -/
structure PlaceMap (W : World) (mb n : Nat) (names : List ByteArray) (D : DataW Unit) : Prop where
  own : W.ownsMap Tryz.prog 9 (plainElem Tryz.prog 3) mb n D
  has : ∀ x : ByteArray, Maps.has D (.string x.data.toList) = memB x names
  at_ : ∀ (x : ByteArray) (i : Nat), names[i]? = some x → D.atKey (.string x.data.toList) (.lit (.int .i64 0)) = .lit (.int .i64 (i : Int))
theorem law9 : Keyed Tryz.prog 9 := string_keyed Tryz.underlying9
theorem zero3 (w : World) : (zeroValue 3).run Tryz.prog w = .ok (.int .i64 0) w := by kernel_rfl
theorem wf_nat {k : Nat} (h : k ≤ 1048576) : (Lit.int .i64 (k : Int)).wf = true := by
  simp [Lit.wf, IntKind.min, IntKind.max, IntKind.signed, IntKind.bits]; omega
theorem bytes_eq {x y : ByteArray} (h : x.data.toList = y.data.toList) : x = y := by
  cases x with | mk a => cases y with | mk b => congr; exact Array.ext' h
theorem isKey_str (l : List UInt8) : WideAt.IsKeyLit (.string l) := by trivial
theorem PlaceMap.frame {W W' : World} {mb n : Nat} {names : List ByteArray} {D : DataW Unit} (h : PlaceMap W mb n names D) {row : Option Nat} (hg : W.grownBy W' row) (hne : some mb ≠ row) : PlaceMap W' mb n names D := ⟨h.own.kept hg hne, h.has, h.at_⟩
theorem PlaceMap.next {W : World} {mb n k : Nat} {names : List ByteArray} {x : ByteArray} {D : DataW Unit} (hn : names.Nodup) (hx : names[k]? = some x) (hD : IsMap D) (hh : ∀ y : ByteArray, Maps.has D (.string y.data.toList) = memB y (names.take k)) (ha : ∀ (y : ByteArray) (i : Nat), (names.take k)[i]? = some y → D.atKey (.string y.data.toList) (.lit (.int .i64 0)) = .lit (.int .i64 (i : Int)))
    (ho : W.ownsMap Tryz.prog 9 (plainElem Tryz.prog 3) mb n (D.put (.string x.data.toList) (.lit (.int .i64 (k : Int))))) : PlaceMap W mb n (names.take (k + 1)) (D.put (.string x.data.toList) (.lit (.int .i64 (k : Int)))) := by
  have e := take_next hx
  refine ⟨ho, fun y => ?_, fun y i hi => ?_⟩
  · by_cases hyx : y = x
    · subst hyx
      rw [has_put_same hD (isKey_str _), memB_yes (by rw [e]; simp)]
    · rw [has_put_other (fun h => hyx (bytes_eq (by injection h))), hh y]
      cases h : memB y (names.take k) with
      | true => rw [memB_yes (by rw [e]; exact List.mem_append_left _ (memB_iff.1 h))]
      | false => rw [memB_no (fun hm => by
          rw [e] at hm
          rcases List.mem_append.1 hm with hm | hm
          · rw [memB_yes hm] at h; cases h
          · exact hyx (List.mem_singleton.1 hm))]
  · have hik : i < k + 1 := by have := (List.getElem?_eq_some_iff.1 hi).1; rw [List.length_take] at this; omega
    have hni : names[i]? = some y := by rwa [List.getElem?_take_of_lt hik] at hi
    by_cases hyx : y = x
    · subst hyx
      have ei := nodup_inj hn hni hx
      subst ei
      rw [atKey_put_same hD (isKey_str _)]
    · rw [atKey_put_other (fun h => hyx (bytes_eq (by injection h)))]
      have hne : i ≠ k := fun e => by subst e; rw [hx] at hni; cases hni; exact hyx rfl
      exact ha y i (by rw [List.getElem?_take_of_lt (by omega)]; exact hni)
/-- A name is looked up. -/
theorem PlaceMap.look {W : World} {mb n : Nat} {names : List ByteArray} {D : DataW Unit} (h : PlaceMap W mb n names D) (x : ByteArray) (hx : x.size ≤ maxLen) : ∃ c : Int, (Instr.lookup 86 (.map (some mb)) (.string x) true).run Tryz.prog W = .ok (.tuple #[.int .i64 c, .bool (memB x names)]) W ∧ ∀ i : Nat, names[i]? = some x → c = (i : Int) := by
  obtain ⟨v, ps, hrun, hv⟩ := h.own.look_ok law9 Tryz.underlying86 (zero3 W) (plainElem_int Tryz.underlying3 (by decide)) (Go.WideMaps.keyOf_string_mk Tryz.underlying9 hx)
  obtain ⟨c, rfl, hc, hwc⟩ := plainElem_int_inv Tryz.underlying3 hv
  refine ⟨c, by rw [hrun, h.has], fun i hi => ?_⟩
  have h1 := congrArg Prod.fst hc
  have h2 := h.at_ x i hi
  rw [h2] at h1
  have h3 : (DataW.lit (.int .i64 (i : Int)) : DataW Unit) = .lit (.int .i64 c) := h1
  exact (Lit.int.inj (DataW.lit.inj h3)).2.symm
end Go.Proofs.YtoihhlkidlapmaaGreat

/- What the program's iterator over a tree tells. -/
namespace Go.Proofs.YtoihhlkidlapmaaGreat
open Go.RowKit Go.Shelf





theorem row_cells {W : World} {N n size : Nat} {v : Value} {e : TypeId} {xs : List Value} {g : Nat} (h : W.ownsRow N e size v n xs) (hg : v.ownBlock = some g) : ∃ cur, W.heap[g]? = some (.cells cur e (0, 0)) := by
  rcases h.2 with ⟨rfl, _⟩ | ⟨g', cap, cur, rfl, _, hh, _⟩
  · cases hg
  · cases hg; exact ⟨cur, hh⟩

end Go.Proofs.YtoihhlkidlapmaaGreat

/- A region inside a round of a range over a function, by what holds of it outside. -/
namespace Go.Proofs.YtoihhlkidlapmaaGreat
open Go.RowKit Go.Shelf



end Go.Proofs.YtoihhlkidlapmaaGreat

/- What a tree has at a path, by the program. -/
namespace Go.Proofs.YtoihhlkidlapmaaGreat
open Go.RowKit Go.Shelf


end Go.Proofs.YtoihhlkidlapmaaGreat
