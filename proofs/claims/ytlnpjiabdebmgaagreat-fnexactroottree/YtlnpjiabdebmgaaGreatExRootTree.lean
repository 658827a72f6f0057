/- For all arguments the program's RootTree answers as its model does; it writes into no argument, and what it answers is its own. -/
import Derived.Test.YtlnpjiabdebmgaaGreatJoin12
import Derived.Test.YtlnpjiabdebmgaaGreatJoin10
namespace Go.Proofs.YtlnpjiabdebmgaaGreat
open Go.ChangeShapes Go.WideShapes Go.ChangeAt Go.RowKit Go.Shelf

set_option maxRecDepth 100000 in
set_option maxHeartbeats 16000000 in
theorem walk_FnExactRootTree (d0 : RootD) (V0 : Value) (w : World) (hz0 : (rootC.big d0)) (h0 : aggAt rootC w V0 d0) :
    Calls Tryz.prog 5 #[V0] w fun x w' => x = .returned (.bool true) ∧ Below w.heap.size w w' := by
  obtain ⟨cs0, rfl, hat0⟩ := h0
  obtain ⟨pv0_0, rfl, pr0_0⟩ := rootC_at hat0
  obtain ⟨P0a0, P0c0, rfl, -⟩ := rowAt.slice pr0_0
  have h0 : aggAt rootC w (.agg #[.slice P0a0 d0.packs.length P0c0]) d0 := ⟨_, rfl, hat0⟩
  clear hat0 pr0_0
  have HA0 := hid h0
  have HZ0 := hid hz0
  clear h0 hz0
  go_enter Tryz.func5, Tryz.ntmps5
  go_wp2_with fail
  have hbx0 := World.alloc_heap_new w (.cells #[.slice P0a0 d0.packs.length P0c0] 37)
  have hb : Below w.heap.size w (w.alloc (.cells #[.slice P0a0 d0.packs.length P0c0] 37)) := (Below.refl _ w).alloc (Nat.le_refl _) _
  have hszb : w.heap.size + 1 ≤ (w.alloc (.cells #[.slice P0a0 d0.packs.length P0c0] 37)).heap.size := by simp
  generalize (w.alloc (.cells #[.slice P0a0 d0.packs.length P0c0] 37)) = wb at hb hszb hbx0 ⊢
  have HB0 := hid hb
  have HORD := hid hszb
  clear hb hszb
  have BP0 := hid hbx0
  clear hbx0
  refine (vszRoot_v d0 _ 1048576 wb (unhid HZ0) (by omega) (by omega) (aggAt.below (unhid HA0) (unhid HB0))).mono ?_
  rintro x s0 ⟨⟨r0, rfl, hr0a, hr0b⟩, hb⟩
  have HB1 := hid ((unhid HB0).trans (hb.mono (unhid HB0).size))
  have BP0 := hid ((hb.block _ (by have o1 := unhid HORD; omega)).trans (unhid BP0))
  have HORD := hid (show w.heap.size + 1 ≤ s0.heap.size from by have o1 := unhid HORD; have o2 := hb.size; omega)
  clear hb
  clear HB0
  by_cases hneg0 : r0 < 0
  · go_wp2_with fail
    go_ret
    exact ⟨rfl, unhid HB1⟩
  have HT0 := hid (hr0b.resolve_left hneg0)
  have hr0c : 0 ≤ r0 := by omega
  clear hr0b
  have htot : (rootC.sz d0) ≤ 1048576 := by skip; have t0 := unhid HT0; omega
  have M0 := hid (show (rootC.sz d0) ≤ 1048576 ∧ (rootC.big d0) from ⟨by omega, unhid HZ0⟩)
  have hc0 : (cntVRoot d0) ≤ 8388608 := by have := cntVRoot_le d0; omega
  have HTOT := hid htot
  have SR := hid (rootTree_small d0 (unhid M0) (unhid HTOT))
  have R0 := hid (unhid SR).1
  have rc0 : (cntR entryC (rootTree_0 d0)) ≤ 9000000 := (unhid SR).2
  clear htot HT0
  have HC0 := hid rc0
  have HCA0 := hid hc0
  clear rc0 hc0
  have BP0k0 := cell_arrS (unhid BP0) 0 _ rfl
  go_wp2_with fail
  clear BP0k0
  clear hr0a hr0c hneg0
  refine (vtoRoot_v d0 _ s0 (unhid M0).1 (aggAt.below (unhid HA0) (unhid HB1))).mono ?_
  rintro x w3 ⟨v1, F2, rfl, hown, hfr, hb⟩
  obtain ⟨v1a0, v1c0, hsh⟩ := root_shape hown
  subst hsh
  have HB2 := hid ((unhid HB1).trans (hb.mono (unhid HB1).size))
  have BP0 := hid ((hb.block _ (by have o1 := unhid HORD; omega)).trans (unhid BP0))
  have HORD := hid (show w.heap.size + 1 ≤ w3.heap.size from by have o1 := unhid HORD; have o2 := hb.size; omega)
  clear hb HB1
  have X4 := hid hown
  have bX4 := hid hfr
  clear hown hfr
  have BP0k0 := cell_arrS (unhid BP0) 0 _ rfl
  go_wp2_with fail
  clear BP0k0
  refine (rootTree_spec d0 (.agg #[.slice v1a0 d0.packs.length v1c0]) F2 w3 (unhid M0) (unhid X4)).mono ?_
  rintro x w5 ⟨v6, F7, rfl, ho0, hf0, hb⟩
  have HORDO := HORD
  have HLOHI := hid (show w3.heap.size ≤ w5.heap.size from hb.size)
  have HB3 := hid ((unhid HB2).trans (hb.mono (unhid HB2).size))
  have BP0 := hid ((hb.block _ (by have o1 := unhid HORD; omega)).trans (unhid BP0))
  have HORD := hid (show w.heap.size + 1 ≤ w5.heap.size from by have o1 := unhid HORD; have o2 := hb.size; omega)
  have X4 := hid (vfresh (unhid X4) hb)
  clear hb HB2
  have HORD := hid (show w.heap.size + 1 ≤ w3.heap.size ∧ w3.heap.size ≤ w5.heap.size ∧ w5.heap.size ≤ w5.heap.size from by have o1 := unhid HORDO; have o2 := unhid HORD; have o3 := unhid HLOHI; omega)
  clear HORDO HLOHI
  have S0 := hid ho0
  have bS0 := hid hf0
  clear ho0 hf0
  clear X4 bX4
  have BP0k0 := cell_arrS (unhid BP0) 0 _ rfl
  go_wp2_with fail
  clear BP0k0
  refine (vtoRoot_v d0 _ w5 (unhid M0).1 (aggAt.below (unhid HA0) (unhid HB3))).mono ?_
  rintro x w10 ⟨v8, F9, rfl, hown, hfr, hb⟩
  obtain ⟨v8a0, v8c0, hsh⟩ := root_shape hown
  subst hsh
  have HORDO := HORD
  have HLOHI := hid (show w5.heap.size ≤ w10.heap.size from hb.size)
  have HB4 := hid ((unhid HB3).trans (hb.mono (unhid HB3).size))
  have BP0 := hid ((hb.block _ (by have o1 := unhid HORD; omega)).trans (unhid BP0))
  have HORD := hid (show w.heap.size + 1 ≤ w3.heap.size ∧ w3.heap.size ≤ w5.heap.size ∧ w5.heap.size ≤ w10.heap.size from by have o1 := unhid HORD; have o2 := hb.size; omega)
  have S0 := hid (vfresh (unhid S0) hb)
  clear hb HB3
  have HORD := hid (show w.heap.size + 1 ≤ w3.heap.size ∧ w3.heap.size ≤ w5.heap.size ∧ w5.heap.size ≤ w10.heap.size ∧ w10.heap.size ≤ w10.heap.size from by have o1 := unhid HORDO; have o2 := unhid HORD; have o3 := unhid HLOHI; omega)
  clear HORDO HLOHI
  have X11 := hid hown
  have bX11 := hid hfr
  clear hown hfr
  have BP0k0 := cell_arrS (unhid BP0) 0 _ rfl
  go_wp2_with fail
  clear BP0k0
  have hbx := World.alloc_heap_new w10 (.cells #[.slice v8a0 d0.packs.length v8c0] 42)
  have hb : Below w10.heap.size w10 (w10.alloc (.cells #[.slice v8a0 d0.packs.length v8c0] 42)) := (Below.refl _ w10).alloc (Nat.le_refl _) _
  have hlt : w10.heap.size < (w10.alloc (.cells #[.slice v8a0 d0.packs.length v8c0] 42)).heap.size := by simp
  generalize w10.alloc (.cells #[.slice v8a0 d0.packs.length v8c0] 42) = w12 at hbx hb hlt ⊢
  have HLT := hid hlt
  have BXX11 := hid hbx
  clear hbx hlt
  have HORDO := HORD
  have HB5 := hid ((unhid HB4).trans (hb.mono (unhid HB4).size))
  have BP0 := hid ((hb.block _ (by have o1 := unhid HORD; omega)).trans (unhid BP0))
  have HORD := hid (show w.heap.size + 1 ≤ w3.heap.size ∧ w3.heap.size ≤ w5.heap.size ∧ w5.heap.size ≤ w10.heap.size ∧ w10.heap.size ≤ w12.heap.size from by have o1 := unhid HORD; have o2 := hb.size; omega)
  have S0 := hid (vfresh (unhid S0) hb)
  have X11 := hid (vfresh (unhid X11) hb)
  clear hb HB4
  have HORD := hid (show w.heap.size + 1 ≤ w3.heap.size ∧ w3.heap.size ≤ w5.heap.size ∧ w5.heap.size ≤ w10.heap.size ∧ w10.heap.size < w12.heap.size ∧ w12.heap.size ≤ w12.heap.size from by have o1 := unhid HORDO; have o2 := unhid HORD; have o3 := unhid HLT; omega)
  clear HORDO HLT
  have BP0k0 := cell_arrS (unhid BP0) 0 _ rfl
  have BXX11k0 := cell_arrS (unhid BXX11) 0 _ rfl
  go_wp2_with fail
  clear BP0k0 BXX11k0
  refine (rootTree_impl d0 (.agg #[.slice v8a0 d0.packs.length v8c0]) F9 w12 (unhid M0) (unhid X11)).mono ?_
  rintro x w13 ⟨v14, F15, rfl, ho0, hf0, hb⟩
  have HORDO := HORD
  have HLOHI := hid (show w12.heap.size ≤ w13.heap.size from hb.size)
  have HB6 := hid ((unhid HB5).trans (hb.mono (unhid HB5).size))
  have BP0 := hid ((hb.block _ (by have o1 := unhid HORD; omega)).trans (unhid BP0))
  have BXX11 := hid ((hb.block _ (by have o1 := unhid HORD; omega)).trans (unhid BXX11))
  have HORD := hid (show w.heap.size + 1 ≤ w3.heap.size ∧ w3.heap.size ≤ w5.heap.size ∧ w5.heap.size ≤ w10.heap.size ∧ w10.heap.size < w12.heap.size ∧ w12.heap.size ≤ w13.heap.size from by have o1 := unhid HORD; have o2 := hb.size; omega)
  have S0 := hid (vfresh (unhid S0) hb)
  have X11 := hid (vfresh (unhid X11) hb)
  clear hb HB5
  have HORD := hid (show w.heap.size + 1 ≤ w3.heap.size ∧ w3.heap.size ≤ w5.heap.size ∧ w5.heap.size ≤ w10.heap.size ∧ w10.heap.size < w12.heap.size ∧ w12.heap.size ≤ w13.heap.size ∧ w13.heap.size ≤ w13.heap.size from by have o1 := unhid HORDO; have o2 := unhid HORD; have o3 := unhid HLOHI; omega)
  clear HORDO HLOHI
  have G0 := hid ho0
  have bG0 := hid hf0
  clear ho0 hf0
  have BP0k0 := cell_arrS (unhid BP0) 0 _ rfl
  have BXX11k0 := cell_arrS (unhid BXX11) 0 _ rfl
  go_wp2_with fail
  clear BP0k0 BXX11k0
  refine (veqEntryS_v (rootTree_0 d0) v14 v6 F15 F7 w13 (unhid R0) (unhid G0) (unhid S0)).mono ?_
  rintro x w16 ⟨rfl, hb⟩
  have HB7 := hid ((unhid HB6).trans (hb.mono (unhid HB6).size))
  have BP0 := hid ((hb.block _ (by have o1 := unhid HORD; omega)).trans (unhid BP0))
  have BXX11 := hid ((hb.block _ (by have o1 := unhid HORD; omega)).trans (unhid BXX11))
  have HORD := hid (show w.heap.size + 1 ≤ w3.heap.size ∧ w3.heap.size ≤ w5.heap.size ∧ w5.heap.size ≤ w10.heap.size ∧ w10.heap.size < w12.heap.size ∧ w12.heap.size ≤ w13.heap.size ∧ w13.heap.size ≤ w16.heap.size from by have o1 := unhid HORD; have o2 := hb.size; omega)
  have S0 := hid (vfresh (unhid S0) hb)
  have X11 := hid (vfresh (unhid X11) hb)
  have G0 := hid (vfresh (unhid G0) hb)
  clear hb HB6
  have BP0k0 := cell_arrS (unhid BP0) 0 _ rfl
  have BXX11k0 := cell_arrS (unhid BXX11) 0 _ rfl
  go_wp2_with fail
  clear BP0k0 BXX11k0
  have BXX11k0 : ∀ x : CW (fun w' => Below w16.heap.size w16 w'), x.w.cell? ⟨w10.heap.size, 0, none⟩ = some (.slice v8a0 d0.packs.length v8c0) := fun x => cell_arrS ((x.h.block _ (by have o1 := unhid HORD; omega)).trans (unhid BXX11)) 0 _ rfl
  have BP0k0 : ∀ x : CW (fun w' => Below w16.heap.size w16 w'), x.w.cell? ⟨w.heap.size, 0, none⟩ = some (.slice P0a0 d0.packs.length P0c0) := fun x => cell_arrS ((x.h.block _ (by have o1 := unhid HORD; omega)).trans (unhid BP0)) 0 _ rfl
  have hba : ∀ {q : Prop}, (CW (fun w' => Below w16.heap.size w16 w') → q) ↔ q := CW.all (Below.refl _ w16)
  refine held_begin (fun w' => Below w16.heap.size w16 w') (by kernel_rfl) (drew_belowS _) ?_
  refine held_here [true, true] (by kernel_rfl) (by kernel_rfl) (fun _ _ _ _ _ h => h) (drew_belowS _) ?_
  dsimp only [pick]
  repeat (go_big_quiet_step (fail))
  refine wpQuiet_nil ?_
  clear hba BXX11k0 BP0k0
  have hb := drew_belowS (B := w16.heap.size) w16
  generalize hdr : w16.drew = w17 at hb ⊢
  clear hdr
  have HC := hid hb
  have HB8 := hid ((unhid HB7).trans (hb.mono (unhid HB7).size))
  have BP0 := hid ((hb.block _ (by have o1 := unhid HORD; omega)).trans (unhid BP0))
  have BXX11 := hid ((hb.block _ (by have o1 := unhid HORD; omega)).trans (unhid BXX11))
  have HORD := hid (show w.heap.size + 1 ≤ w3.heap.size ∧ w3.heap.size ≤ w5.heap.size ∧ w5.heap.size ≤ w10.heap.size ∧ w10.heap.size < w12.heap.size ∧ w12.heap.size ≤ w13.heap.size ∧ w13.heap.size ≤ w17.heap.size from by have o1 := unhid HORD; have o2 := hb.size; omega)
  have S0 := hid (vfresh (unhid S0) hb)
  have X11 := hid (vfresh (unhid X11) hb)
  have G0 := hid (vfresh (unhid G0) hb)
  clear hb HB7
  refine held_call 2 19 29 (enters_of Tryz.func19 (by kernel_rfl) rfl) #[.agg #[.slice P0a0 d0.packs.length P0c0]] (by kernel_rfl) (by kernel_rfl) rfl rfl rfl rfl rfl ?_
  refine (vtoRoot_v d0 _ w17 (unhid M0).1 (aggAt.below (unhid HA0) (unhid HB8))).mono ?_
  rintro x w18 ⟨v20, F21, rfl, hown, hfr, hb⟩
  obtain ⟨v20a0, v20c0, hsh⟩ := root_shape hown
  subst hsh
  have HC := hid ((unhid HC).trans (hb.mono (unhid HC).size))
  have HB9 := hid ((unhid HB8).trans (hb.mono (unhid HB8).size))
  have BP0 := hid ((hb.block _ (by have o1 := unhid HORD; omega)).trans (unhid BP0))
  have BXX11 := hid ((hb.block _ (by have o1 := unhid HORD; omega)).trans (unhid BXX11))
  have HORD := hid (show w.heap.size + 1 ≤ w3.heap.size ∧ w3.heap.size ≤ w5.heap.size ∧ w5.heap.size ≤ w10.heap.size ∧ w10.heap.size < w12.heap.size ∧ w12.heap.size ≤ w13.heap.size ∧ w13.heap.size ≤ w18.heap.size from by have o1 := unhid HORD; have o2 := hb.size; omega)
  have S0 := hid (vfresh (unhid S0) hb)
  have X11 := hid (vfresh (unhid X11) hb)
  have G0 := hid (vfresh (unhid G0) hb)
  clear hb HB8
  refine ⟨_, rfl, unhid HC, ?_⟩
  simp only [Act.put, List.setIfInBounds_toArray, List.set_cons_zero, List.set_cons_succ]
  refine held_call 3 21 30 (enters_of Tryz.func21 (by kernel_rfl) rfl) #[(.agg #[.slice v8a0 d0.packs.length v8c0]), .agg #[.slice v20a0 d0.packs.length v20c0]] (by kernel_rfl) (by kernel_rfl) rfl rfl rfl rfl rfl ?_
  refine (veqRoot_v d0 _ _ F9 F21 w18 (unhid M0).2 (unhid X11) hown).mono ?_
  rintro x w19 ⟨rfl, hb⟩
  clear hown hfr
  have HC := hid ((unhid HC).trans (hb.mono (unhid HC).size))
  have HB10 := hid ((unhid HB9).trans (hb.mono (unhid HB9).size))
  have BP0 := hid ((hb.block _ (by have o1 := unhid HORD; omega)).trans (unhid BP0))
  have BXX11 := hid ((hb.block _ (by have o1 := unhid HORD; omega)).trans (unhid BXX11))
  have HORD := hid (show w.heap.size + 1 ≤ w3.heap.size ∧ w3.heap.size ≤ w5.heap.size ∧ w5.heap.size ≤ w10.heap.size ∧ w10.heap.size < w12.heap.size ∧ w12.heap.size ≤ w13.heap.size ∧ w13.heap.size ≤ w19.heap.size from by have o1 := unhid HORD; have o2 := hb.size; omega)
  have S0 := hid (vfresh (unhid S0) hb)
  have X11 := hid (vfresh (unhid X11) hb)
  have G0 := hid (vfresh (unhid G0) hb)
  clear hb HB9
  refine ⟨_, rfl, unhid HC, ?_⟩
  simp only [Act.put, List.setIfInBounds_toArray, List.set_cons_zero, List.set_cons_succ]
  have hba : ∀ {q : Prop}, (CW (fun w' => Below w16.heap.size w16 w') → q) ↔ q := CW.all (Below.refl _ w16)
  refine held_here [false, false, false, false, true] (by kernel_rfl) (by kernel_rfl) (fun _ _ _ _ _ h => h) (unhid HC) ?_
  dsimp only [pick]
  repeat (go_big_quiet_step (fail))
  refine wpQuiet_nil ?_
  refine held_done (by kernel_rfl) ?_
  clear hba HC
  have BP0k0 := cell_arrS (unhid BP0) 0 _ rfl
  have BXX11k0 := cell_arrS (unhid BXX11) 0 _ rfl
  go_wp2_with fail
  clear BP0k0 BXX11k0
  refine (vmarkRoot_v d0 (.agg #[.slice v8a0 d0.packs.length v8c0]) F9 (1) _ (by omega) w19 (by omega) (by skip; have t0 := unhid HCA0; omega) (unhid X11)).mono ?_
  rintro x w22 ⟨⟨r23, rfl, r23a, r23b⟩, hown, ho⟩
  have S0 := hid (vonly (unhid S0) ho (fun k hk e => by have b1 := (unhid bS0) k hk; have b2 := (unhid bX11) k e; have o1 := unhid HORD; omega))
  have G0 := hid (vonly (unhid G0) ho (fun k hk e => by have b1 := (unhid bG0) k hk; have b2 := (unhid bX11) k e; have o1 := unhid HORD; omega))
  have HB11 := hid ((ho.inside (unhid bX11)).below (unhid HB10) (by have o1 := unhid HORD; omega))
  have BP0 := hid ((ho.block _ (by have o1 := unhid HORD; omega) (fun e => by have b2 := (unhid bX11) _ e; have o1 := unhid HORD; omega)).trans (unhid BP0))
  have BXX11 := hid ((ho.block _ (by have o1 := unhid HORD; omega) (fun e => by have b2 := (unhid bX11) _ e; have o1 := unhid HORD; omega)).trans (unhid BXX11))
  have HORD := hid (show w.heap.size + 1 ≤ w3.heap.size ∧ w3.heap.size ≤ w5.heap.size ∧ w5.heap.size ≤ w10.heap.size ∧ w10.heap.size < w12.heap.size ∧ w12.heap.size ≤ w13.heap.size ∧ w13.heap.size ≤ w22.heap.size from by have o1 := unhid HORD; have o2 := ho.size; omega)
  have X11 := hid hown
  clear ho hown HB10
  clear X11 bX11
  have hkpos : ¬ (r23 < 0) := by omega
  have BP0k0 := cell_arrS (unhid BP0) 0 _ rfl
  have BXX11k0 := cell_arrS (unhid BXX11) 0 _ rfl
  go_wp2_with fail
  clear BP0k0 BXX11k0
  refine (veqEntryS_v (rootTree_0 d0) v14 v6 F15 F7 w22 (unhid R0) (unhid G0) (unhid S0)).mono ?_
  rintro x w24 ⟨rfl, hb⟩
  have HB12 := hid ((unhid HB11).trans (hb.mono (unhid HB11).size))
  have BP0 := hid ((hb.block _ (by have o1 := unhid HORD; omega)).trans (unhid BP0))
  have BXX11 := hid ((hb.block _ (by have o1 := unhid HORD; omega)).trans (unhid BXX11))
  have HORD := hid (show w.heap.size + 1 ≤ w3.heap.size ∧ w3.heap.size ≤ w5.heap.size ∧ w5.heap.size ≤ w10.heap.size ∧ w10.heap.size < w12.heap.size ∧ w12.heap.size ≤ w13.heap.size ∧ w13.heap.size ≤ w24.heap.size from by have o1 := unhid HORD; have o2 := hb.size; omega)
  have S0 := hid (vfresh (unhid S0) hb)
  have G0 := hid (vfresh (unhid G0) hb)
  clear hb HB11
  clear hkpos
  have BP0k0 := cell_arrS (unhid BP0) 0 _ rfl
  have BXX11k0 := cell_arrS (unhid BXX11) 0 _ rfl
  go_wp2_with fail
  clear BP0k0 BXX11k0
  refine (vmarkEntryS_v (rootTree_0 d0) v14 F15 (1) _ (by omega) w24 (by omega) (by skip; have t0 := unhid HC0; omega) (unhid G0)).mono ?_
  rintro x w25 ⟨⟨r26, rfl, r26a, r26b⟩, hown, ho⟩
  have S0 := hid (vonly (unhid S0) ho (fun k hk e => by have b1 := (unhid bS0) k hk; have b2 := (unhid bG0) k e; have o1 := unhid HORD; omega))
  have HB13 := hid ((ho.inside (unhid bG0)).below (unhid HB12) (by have o1 := unhid HORD; omega))
  have BP0 := hid ((ho.block _ (by have o1 := unhid HORD; omega) (fun e => by have b2 := (unhid bG0) _ e; have o1 := unhid HORD; omega)).trans (unhid BP0))
  have BXX11 := hid ((ho.block _ (by have o1 := unhid HORD; omega) (fun e => by have b2 := (unhid bG0) _ e; have o1 := unhid HORD; omega)).trans (unhid BXX11))
  have HORD := hid (show w.heap.size + 1 ≤ w3.heap.size ∧ w3.heap.size ≤ w5.heap.size ∧ w5.heap.size ≤ w10.heap.size ∧ w10.heap.size < w12.heap.size ∧ w12.heap.size ≤ w13.heap.size ∧ w13.heap.size ≤ w25.heap.size from by have o1 := unhid HORD; have o2 := ho.size; omega)
  have G0 := hid hown
  clear ho hown HB12
  have BP0k0 := cell_arrS (unhid BP0) 0 _ rfl
  have BXX11k0 := cell_arrS (unhid BXX11) 0 _ rfl
  go_wp2_with fail
  clear BP0k0 BXX11k0
  refine (vheldEntryS_v (rootTree_0 d0) v14 F15 (1) _ (by omega) w25 (by omega) (by skip; have t0 := unhid HC0; omega) (unhid G0)).mono ?_
  rintro x w27 ⟨⟨r28, rfl, r28a, r28b⟩, hb⟩
  have HB14 := hid ((unhid HB13).trans (hb.mono (unhid HB13).size))
  have BP0 := hid ((hb.block _ (by have o1 := unhid HORD; omega)).trans (unhid BP0))
  have BXX11 := hid ((hb.block _ (by have o1 := unhid HORD; omega)).trans (unhid BXX11))
  have HORD := hid (show w.heap.size + 1 ≤ w3.heap.size ∧ w3.heap.size ≤ w5.heap.size ∧ w5.heap.size ≤ w10.heap.size ∧ w10.heap.size < w12.heap.size ∧ w12.heap.size ≤ w13.heap.size ∧ w13.heap.size ≤ w27.heap.size from by have o1 := unhid HORD; have o2 := hb.size; omega)
  have S0 := hid (vfresh (unhid S0) hb)
  have G0 := hid (vfresh (unhid G0) hb)
  clear hb HB13
  have hkposr28 : ¬ (r28 < 0) := by omega
  have hqmr28 : (r28 != r26) = false := by rw [bne_eq_false_iff_eq]; omega
  have BP0k0 := cell_arrS (unhid BP0) 0 _ rfl
  have BXX11k0 := cell_arrS (unhid BXX11) 0 _ rfl
  go_wp2_with fail
  clear BP0k0 BXX11k0
  refine (vtoRoot_v d0 _ w27 (unhid M0).1 (aggAt.below (unhid HA0) (unhid HB14))).mono ?_
  rintro x w31 ⟨v29, F30, rfl, hown, hfr, hb⟩
  obtain ⟨v29a0, v29c0, hsh⟩ := root_shape hown
  subst hsh
  have HB15 := hid ((unhid HB14).trans (hb.mono (unhid HB14).size))
  have BP0 := hid ((hb.block _ (by have o1 := unhid HORD; omega)).trans (unhid BP0))
  have BXX11 := hid ((hb.block _ (by have o1 := unhid HORD; omega)).trans (unhid BXX11))
  have HORD := hid (show w.heap.size + 1 ≤ w3.heap.size ∧ w3.heap.size ≤ w5.heap.size ∧ w5.heap.size ≤ w10.heap.size ∧ w10.heap.size < w12.heap.size ∧ w12.heap.size ≤ w13.heap.size ∧ w13.heap.size ≤ w31.heap.size from by have o1 := unhid HORD; have o2 := hb.size; omega)
  have S0 := hid (vfresh (unhid S0) hb)
  have G0 := hid (vfresh (unhid G0) hb)
  clear hb HB14
  have X32 := hid hown
  have bX32 := hid hfr
  clear hown hfr
  have BP0k0 := cell_arrS (unhid BP0) 0 _ rfl
  have BXX11k0 := cell_arrS (unhid BXX11) 0 _ rfl
  go_wp2_with fail
  clear BP0k0 BXX11k0
  refine (rootTree_impl d0 (.agg #[.slice v29a0 d0.packs.length v29c0]) F30 w31 (unhid M0) (unhid X32)).mono ?_
  rintro x w33 ⟨v34, F35, rfl, ho0, hf0, hb⟩
  have HB16 := hid ((unhid HB15).trans (hb.mono (unhid HB15).size))
  have BP0 := hid ((hb.block _ (by have o1 := unhid HORD; omega)).trans (unhid BP0))
  have BXX11 := hid ((hb.block _ (by have o1 := unhid HORD; omega)).trans (unhid BXX11))
  have HORD := hid (show w.heap.size + 1 ≤ w3.heap.size ∧ w3.heap.size ≤ w5.heap.size ∧ w5.heap.size ≤ w10.heap.size ∧ w10.heap.size < w12.heap.size ∧ w12.heap.size ≤ w13.heap.size ∧ w13.heap.size ≤ w33.heap.size from by have o1 := unhid HORD; have o2 := hb.size; omega)
  have S0 := hid (vfresh (unhid S0) hb)
  have G0 := hid (vfresh (unhid G0) hb)
  have X32 := hid (vfresh (unhid X32) hb)
  clear hb HB15
  have H0 := hid ho0
  have bH0 := hid hf0
  clear ho0 hf0
  clear X32 bX32
  clear hkposr28 hqmr28
  have BP0k0 := cell_arrS (unhid BP0) 0 _ rfl
  have BXX11k0 := cell_arrS (unhid BXX11) 0 _ rfl
  go_wp2_with fail
  clear BP0k0 BXX11k0
  refine (veqEntryS_v (rootTree_0 d0) v34 v6 F35 F7 w33 (unhid R0) (unhid H0) (unhid S0)).mono ?_
  rintro x w36 ⟨rfl, hb⟩
  have HB17 := hid ((unhid HB16).trans (hb.mono (unhid HB16).size))
  have BP0 := hid ((hb.block _ (by have o1 := unhid HORD; omega)).trans (unhid BP0))
  have BXX11 := hid ((hb.block _ (by have o1 := unhid HORD; omega)).trans (unhid BXX11))
  have HORD := hid (show w.heap.size + 1 ≤ w3.heap.size ∧ w3.heap.size ≤ w5.heap.size ∧ w5.heap.size ≤ w10.heap.size ∧ w10.heap.size < w12.heap.size ∧ w12.heap.size ≤ w13.heap.size ∧ w13.heap.size ≤ w36.heap.size from by have o1 := unhid HORD; have o2 := hb.size; omega)
  have S0 := hid (vfresh (unhid S0) hb)
  have G0 := hid (vfresh (unhid G0) hb)
  have H0 := hid (vfresh (unhid H0) hb)
  clear hb HB16
  clear H0 bH0
  have BP0k0 := cell_arrS (unhid BP0) 0 _ rfl
  have BXX11k0 := cell_arrS (unhid BXX11) 0 _ rfl
  go_wp2_with fail
  clear BP0k0 BXX11k0
  refine (vheldEntryS_v (rootTree_0 d0) v14 F15 (1) _ (by omega) w36 (by omega) (by skip; have t0 := unhid HC0; omega) (unhid G0)).mono ?_
  rintro x w37 ⟨⟨r38, rfl, r38a, r38b⟩, hb⟩
  have HB18 := hid ((unhid HB17).trans (hb.mono (unhid HB17).size))
  have BP0 := hid ((hb.block _ (by have o1 := unhid HORD; omega)).trans (unhid BP0))
  have BXX11 := hid ((hb.block _ (by have o1 := unhid HORD; omega)).trans (unhid BXX11))
  have HORD := hid (show w.heap.size + 1 ≤ w3.heap.size ∧ w3.heap.size ≤ w5.heap.size ∧ w5.heap.size ≤ w10.heap.size ∧ w10.heap.size < w12.heap.size ∧ w12.heap.size ≤ w13.heap.size ∧ w13.heap.size ≤ w37.heap.size from by have o1 := unhid HORD; have o2 := hb.size; omega)
  have S0 := hid (vfresh (unhid S0) hb)
  have G0 := hid (vfresh (unhid G0) hb)
  clear hb HB17
  have hkposr38 : ¬ (r38 < 0) := by omega
  have hqmr38 : (r38 != r26) = false := by rw [bne_eq_false_iff_eq]; omega
  have BP0k0 := cell_arrS (unhid BP0) 0 _ rfl
  have BXX11k0 := cell_arrS (unhid BXX11) 0 _ rfl
  go_wp2_with fail
  clear BP0k0 BXX11k0
  go_ret
  exact ⟨rfl, unhid HB18⟩

set_option maxRecDepth 100000 in
set_option maxHeartbeats 1000000 in
theorem lifted_FnExactRootTree (os : Os) (started : os.Started) (H : Type) (enc : TypeId × Value → H) :
    ReturnsInHanded {} Tryz.checked os 5 .any (Rows.fnExactRootTreeSpec.pre6 enc Tryz.prog Tryz.f5 Rows.fnExactRootTreeRow.domain false) (Rows.fnExactRootTreeSpec.post enc Tryz.prog Tryz.f5 false true false false) := by
  refine returnsInHanded_of_change (C := Tryz.checked) own started (by kernel_rfl) Tryz.func5
    (ChangeSpec.witness6 (enc := enc) (C := Tryz.checked) false ⟨#[], #[.agg #[.slice none 0 0]], []⟩ 8 (by kernel_rfl) (by kernel_rfl) (by kernel_rfl) (by kernel_rfl)) ?_
  intro W base args ds gs before hval0 hW _ _
  have hval : ∀ (j : Nat) t v, Tryz.f5.params[j]? = some t → args[j]? = some v → Value.okWide Tryz.prog W .any base t v := hval0
  have hW' := hW
  obtain ⟨p, q, hA0, hV, rfl, hfz, hnd⟩ := hW
  have hA : DataW.TrodAll enc Tryz.prog W 0 (fun _ => true) true Tryz.f5.params.toList args.toList ds p := hA0
  rw [Tryz.params5] at hA hval
  obtain ⟨v0, vs0, d0, ds0, p0, q0, e0, rfl, rfl, h0, r0⟩ := trodAll_cons hA
  obtain ⟨rfl, rfl, rfl⟩ := trodAll_nil r0
  obtain rfl : args = #[v0] := by cases args; simp_all
  obtain ⟨rfl, rfl⟩ := trodVars_none hV
  have hlt : ∀ x ∈ p0, x.block < W.heap.size := fun x hx => by simpa using hW'.lt x (by simpa using hx)
  have t0 := h0
  have l0 : ∀ x ∈ p0, x.block < W.heap.size := fun x hx => hlt x (by simp [hx])
  obtain ⟨f0, hat0, hbig0⟩ := root_of (hval 0 37 v0 rfl rfl) h0 l0
  clear hA0 hval0
  refine (walk_FnExactRootTree f0 v0 W hbig0 hat0).mono fun e W' ⟨he, hb⟩ => ?_
  subst he
  exact ⟨_, rfl, post_below (gs := []) (pv := []) hW' (fun _ _ _ => trodAll_cons_mk (shut_bool Tryz.underlying4 _) trodAll_mk0) (trodAll_cons_mk (Below.trod laidOut (by kernel_rfl) (of_decide_eq_true (by kernel_rfl)) t0 hb l0) trodAll_mk0) rfl (by simp) hb⟩

theorem fnExactRootTree_holds : Rows.FnExactRootTreeSaid :=
  OpenClaim.holds_of_wide 5 Tryz.f5 rfl rfl rfl rfl rfl rfl rfl ⟨rfl, rfl, rfl, rfl, rfl⟩ rfl rfl rfl rfl rfl (by kernel_rfl) Tryz.func5 (by kernel_rfl)
    (of_decide_eq_true (by kernel_rfl)) (by unfold Func.isWrapper; first | (rw [if_pos (by decide +kernel)]; kernel_rfl) | (rw [if_neg (by decide +kernel)]; exact ⟨rfl, rfl⟩))
    (fun os started H enc _ => lifted_FnExactRootTree os started H enc)
end Go.Proofs.YtlnpjiabdebmgaaGreat

