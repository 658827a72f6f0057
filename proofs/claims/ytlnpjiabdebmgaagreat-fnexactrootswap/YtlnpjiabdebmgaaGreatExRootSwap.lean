/- For all arguments the program's RootSwap answers as its model does; it writes into no argument, and what it answers is its own. -/
import Derived.Test.YtlnpjiabdebmgaaGreatJoin15
import Derived.Test.YtlnpjiabdebmgaaGreatJoin10
import Derived.Deep.CutBlock
namespace Go.Proofs.YtlnpjiabdebmgaaGreat
open Go.ChangeShapes Go.WideShapes Go.ChangeAt Go.RowKit Go.Shelf

set_option maxRecDepth 100000 in
set_option maxHeartbeats 16000000 in
theorem walk_FnExactRootSwap (d0 : RootD) (V0 : Value) (d1 : PackD) (V1 : Value) (w : World) (hz0 : (rootC.big d0)) (h0 : aggAt rootC w V0 d0) (hz1 : (packC.big d1)) (h1 : aggAt packC w V1 d1) :
    Calls Tryz.prog 8 #[V0, V1] w fun x w' => x = .returned (.bool true) ∧ Below w.heap.size w w' := by
  obtain ⟨cs0, rfl, hat0⟩ := h0
  obtain ⟨pv0_0, rfl, pr0_0⟩ := rootC_at hat0
  obtain ⟨P0a0, P0c0, rfl, -⟩ := rowAt.slice pr0_0
  have h0 : aggAt rootC w (.agg #[.slice P0a0 d0.packs.length P0c0]) d0 := ⟨_, rfl, hat0⟩
  clear hat0 pr0_0
  obtain ⟨cs1, rfl, hat1⟩ := h1
  obtain ⟨pv1_2, pv1_3, rfl, pr1_2, pr1_3⟩ := packC_at hat1
  obtain ⟨P1a2, P1c2, rfl, -⟩ := rowAt.slice pr1_2
  obtain ⟨P1a3, P1c3, rfl, -⟩ := rowAt.slice pr1_3
  have h1 : aggAt packC w (.agg #[.string d1.name, .string d1.version, .slice P1a2 d1.needs.length P1c2, .slice P1a3 d1.tree.length P1c3]) d1 := ⟨_, rfl, hat1⟩
  clear hat1 pr1_2 pr1_3
  have HA0 := hid h0
  have HZ0 := hid hz0
  clear h0 hz0
  have HA1 := hid h1
  have HZ1 := hid hz1
  clear h1 hz1
  go_enter Tryz.func8, Tryz.ntmps8
  go_wp2_with fail
  obtain ⟨hbx0, hbx1, hszb⟩ := two_boxes w (.cells #[.slice P0a0 d0.packs.length P0c0] 37) (.cells #[.string d1.name, .string d1.version, .slice P1a2 d1.needs.length P1c2, .slice P1a3 d1.tree.length P1c3] 25)
  have hb := alloc2_below w (.cells #[.slice P0a0 d0.packs.length P0c0] 37) (.cells #[.string d1.name, .string d1.version, .slice P1a2 d1.needs.length P1c2, .slice P1a3 d1.tree.length P1c3] 25)
  have hszb : w.heap.size + 2 ≤ ((w.alloc (.cells #[.slice P0a0 d0.packs.length P0c0] 37)).alloc (.cells #[.string d1.name, .string d1.version, .slice P1a2 d1.needs.length P1c2, .slice P1a3 d1.tree.length P1c3] 25)).heap.size := hszb
  generalize ((w.alloc (.cells #[.slice P0a0 d0.packs.length P0c0] 37)).alloc (.cells #[.string d1.name, .string d1.version, .slice P1a2 d1.needs.length P1c2, .slice P1a3 d1.tree.length P1c3] 25)) = wb at hb hszb hbx0 hbx1 ⊢
  have HB0 := hid hb
  have HORD := hid hszb
  clear hb hszb
  have BP0 := hid hbx0
  clear hbx0
  have BP1 := hid hbx1
  clear hbx1
  refine (vszRoot_v d0 _ 1048576 wb (unhid HZ0) (by omega) (by omega) (aggAt.below (unhid HA0) (unhid HB0))).mono ?_
  rintro x s0 ⟨⟨r0, rfl, hr0a, hr0b⟩, hb⟩
  have HB1 := hid ((unhid HB0).trans (hb.mono (unhid HB0).size))
  have BP0 := hid ((hb.block _ (by have o1 := unhid HORD; omega)).trans (unhid BP0))
  have BP1 := hid ((hb.block _ (by have o1 := unhid HORD; omega)).trans (unhid BP1))
  have HORD := hid (show w.heap.size + 2 ≤ s0.heap.size from by have o1 := unhid HORD; have o2 := hb.size; omega)
  clear hb
  clear HB0
  by_cases hneg0 : r0 < 0
  · go_wp2_with fail
    go_ret
    exact ⟨rfl, unhid HB1⟩
  have HT0 := hid (hr0b.resolve_left hneg0)
  have hr0c : 0 ≤ r0 := by omega
  clear hr0b
  have BP0k0 := cell_arrS (unhid BP0) 0 _ rfl
  have BP1k0 := cell_arrS (unhid BP1) 0 _ rfl
  have BP1k1 := cell_arrS (unhid BP1) 1 _ rfl
  have BP1k2 := cell_arrS (unhid BP1) 2 _ rfl
  have BP1k3 := cell_arrS (unhid BP1) 3 _ rfl
  go_wp2_with fail
  clear BP0k0 BP1k0 BP1k1 BP1k2 BP1k3
  refine (vszPack_v d1 _ r0 s0 (unhid HZ1) (by omega) (by omega) (aggAt.below (unhid HA1) (unhid HB1))).mono ?_
  rintro x s1 ⟨⟨r1, rfl, hr1a, hr1b⟩, hb⟩
  have HB2 := hid ((unhid HB1).trans (hb.mono (unhid HB1).size))
  have BP0 := hid ((hb.block _ (by have o1 := unhid HORD; omega)).trans (unhid BP0))
  have BP1 := hid ((hb.block _ (by have o1 := unhid HORD; omega)).trans (unhid BP1))
  have HORD := hid (show w.heap.size + 2 ≤ s1.heap.size from by have o1 := unhid HORD; have o2 := hb.size; omega)
  clear hb
  clear HB1
  by_cases hneg1 : r1 < 0
  · go_wp2_with fail
    go_ret
    exact ⟨rfl, unhid HB2⟩
  have HT1 := hid (hr1b.resolve_left hneg1)
  have hr1c : 0 ≤ r1 := by omega
  clear hr1b
  have htot : (rootC.sz d0) + (packC.sz d1) ≤ 1048576 := by skip; have t0 := unhid HT0; have t1 := unhid HT1; omega
  have M0 := hid (show (rootC.sz d0) ≤ 1048576 ∧ (rootC.big d0) from ⟨by omega, unhid HZ0⟩)
  have M1 := hid (show (packC.sz d1) ≤ 1048576 ∧ (packC.big d1) from ⟨by omega, unhid HZ1⟩)
  have hc0 : (cntVRoot d0) ≤ 8388608 := by have := cntVRoot_le d0; omega
  have hc1 : (cntVPack d1) ≤ 8388608 := by have := cntVPack_le d1; omega
  have hcs : (cntVRoot d0) + (cntVPack d1) ≤ 8388608 := by have e0 := cntVRoot_le d0; have e1 := cntVPack_le d1; omega
  have HTOT := hid htot
  have SR := hid (rootSwap_small d0 d1 (unhid M0) (unhid M1) (unhid HTOT))
  have R0 := hid (unhid SR).1
  have rc0 : (cntVRoot (rootSwap_0 d0 d1)) ≤ 9000000 := (unhid SR).2
  clear htot HT0 HT1
  have HC0 := hid rc0
  have HCA0 := hid hc0
  have HCA1 := hid hc1
  have HCS := hid hcs
  clear hcs
  clear rc0 hc0 hc1
  have hself1 : ((rootSwap_1 d0 d1) != (rootSwap_1 d0 d1)) = false := by simp
  go_upto_region 8 with fail
  clear hr0a hr0c hneg0 hr1a hr1c hneg1
  go_cut [6, 7] from 27 to 34 (fun s6 s7 wx => ∃ (g8 lo8 hi8 : Nat) (v1a0 : Option Addr) (v1c0 : Nat) (F2 : List Nat), s6 = .pointer (some ⟨g8, 0, none⟩) ∧ s7 = .int .i64 (rootSwap_1 d0 d1) ∧ Hid (Below w.heap.size w wx) ∧ Hid (wx.heap[w.heap.size]? = some (.cells #[.slice P0a0 d0.packs.length P0c0] 37 (0, 0))) ∧ Hid (wx.heap[w.heap.size + 1]? = some (.cells #[.string d1.name, .string d1.version, .slice P1a2 d1.needs.length P1c2, .slice P1a3 d1.tree.length P1c3] 25 (0, 0))) ∧ Hid (wx.heap[g8]? = some (.cells #[.slice v1a0 ((rootSwap_0 d0 d1)).packs.length v1c0] 42 (0, 0))) ∧ Hid ((aggK rootC).own wx (.agg #[.slice v1a0 ((rootSwap_0 d0 d1)).packs.length v1c0]) (rootSwap_0 d0 d1) F2) ∧ Hid (∀ k ∈ F2, lo8 ≤ k ∧ k < hi8) ∧ Hid (w.heap.size + 2 ≤ lo8 ∧ lo8 ≤ hi8 ∧ hi8 ≤ wx.heap.size ∧ w.heap.size + 2 ≤ g8 ∧ g8 < wx.heap.size ∧ (g8 < lo8 ∨ hi8 ≤ g8)))
  case first =>
    have BP0k0 : ∀ x : CW (fun w' => Below s1.heap.size s1 w'), x.w.cell? ⟨w.heap.size, 0, none⟩ = some (.slice P0a0 d0.packs.length P0c0) := fun x => cell_arrS ((x.h.block _ (by have o1 := unhid HORD; omega)).trans (unhid BP0)) 0 _ rfl
    have BP1k0 : ∀ x : CW (fun w' => Below s1.heap.size s1 w'), x.w.cell? ⟨w.heap.size + 1, 0, none⟩ = some (.string d1.name) := fun x => cell_arrS ((x.h.block _ (by have o1 := unhid HORD; omega)).trans (unhid BP1)) 0 _ rfl
    have BP1k1 : ∀ x : CW (fun w' => Below s1.heap.size s1 w'), x.w.cell? ⟨w.heap.size + 1, 1, none⟩ = some (.string d1.version) := fun x => cell_arrS ((x.h.block _ (by have o1 := unhid HORD; omega)).trans (unhid BP1)) 1 _ rfl
    have BP1k2 : ∀ x : CW (fun w' => Below s1.heap.size s1 w'), x.w.cell? ⟨w.heap.size + 1, 2, none⟩ = some (.slice P1a2 d1.needs.length P1c2) := fun x => cell_arrS ((x.h.block _ (by have o1 := unhid HORD; omega)).trans (unhid BP1)) 2 _ rfl
    have BP1k3 : ∀ x : CW (fun w' => Below s1.heap.size s1 w'), x.w.cell? ⟨w.heap.size + 1, 3, none⟩ = some (.slice P1a3 d1.tree.length P1c3) := fun x => cell_arrS ((x.h.block _ (by have o1 := unhid HORD; omega)).trans (unhid BP1)) 3 _ rfl
    have hba : ∀ {q : Prop}, (CW (fun w' => Below s1.heap.size s1 w') → q) ↔ q := CW.all (Below.refl _ s1)
    refine held_begin (fun w' => Below s1.heap.size s1 w') (by kernel_rfl) (drew_belowS _) ?_
    refine held_here [true, false, true] (by kernel_rfl) (by kernel_rfl) (fun _ _ _ _ _ h => h) (drew_belowS _) ?_
    dsimp only [pick]
    repeat (go_big_quiet_step (fail))
    refine wpQuiet_nil ?_
    clear hba BP0k0 BP1k0 BP1k1 BP1k2 BP1k3
    have HC := hid (drew_belowS (B := s1.heap.size) s1)
    generalize hdr : s1.drew = w3 at HC ⊢
    clear hdr
    have Z4 := hid (unhid HC).size
    refine held_op2 1 8 (by kernel_rfl) (by kernel_rfl) rfl rfl (fun K hK => ?_) (fun K hK => ?_)
    · refine call_op 19 29 (enters_of Tryz.func19 (by kernel_rfl) rfl) #[.agg #[.slice P0a0 d0.packs.length P0c0]] rfl rfl rfl rfl ?_
      refine (vtoRoot_v d0 _ w3 (unhid M0).1 (aggAt.below (unhid HA0) ((unhid HB2).trans ((unhid HC).mono (unhid HB2).size)))).mono ?_
      rintro x w5 ⟨v7, F8, rfl, hown, hfr, hb⟩
      obtain ⟨v7a0, v7c0, hsh⟩ := root_shape hown
      subst hsh
      have Y9 := hid hown
      clear hown hfr
      have Z6 := hid (show w3.heap.size ≤ w5.heap.size from hb.size)
      have HC := hid ((unhid HC).trans (hb.mono (unhid HC).size))
      clear hb
      refine ⟨_, rfl, hK.out _ _ (unhid HC) ?_⟩
      simp only [Act.put, List.setIfInBounds_toArray, List.set_cons_zero, List.set_cons_succ]
      clear hK K
      refine held_op2 3 8 (by kernel_rfl) (by kernel_rfl) rfl rfl (fun K hK => ?_) (fun K hK => ?_)
      · refine call_op 14 31 (enters_of Tryz.func14 (by kernel_rfl) rfl) #[.agg #[.string d1.name, .string d1.version, .slice P1a2 d1.needs.length P1c2, .slice P1a3 d1.tree.length P1c3]] rfl rfl rfl rfl ?_
        refine (vtoPack_v d1 _ w5 (unhid M1).1 (aggAt.below (unhid HA1) ((unhid HB2).trans ((unhid HC).mono (unhid HB2).size)))).mono ?_
        rintro x w10 ⟨v12, F13, rfl, hown, hfr, hb⟩
        obtain ⟨v12a2, v12c2, v12a3, v12c3, hsh⟩ := pack_shape hown
        subst hsh
        have Y9 := hid (vfresh (unhid Y9) hb)
        have Y14 := hid hown
        clear hown hfr
        have Z11 := hid (show w5.heap.size ≤ w10.heap.size from hb.size)
        have HC := hid ((unhid HC).trans (hb.mono (unhid HC).size))
        clear hb
        refine ⟨_, rfl, hK.out _ _ (unhid HC) ?_⟩
        simp only [Act.put, List.setIfInBounds_toArray, List.set_cons_zero, List.set_cons_succ]
        clear hK K
        refine held_op2 4 8 (by kernel_rfl) (by kernel_rfl) rfl rfl (fun K hK => ?_) (fun K hK => ?_)
        · refine call_op 34 32 (enters_of Tryz.func34 (by kernel_rfl) rfl) #[(.agg #[.slice v7a0 d0.packs.length v7c0]), (.agg #[.string d1.name, .string d1.version, .slice v12a2 d1.needs.length v12c2, .slice v12a3 d1.tree.length v12c3])] rfl rfl rfl rfl ?_
          refine (rootSwap_spec d0 d1 (.agg #[.slice v7a0 d0.packs.length v7c0]) F8 (.agg #[.string d1.name, .string d1.version, .slice v12a2 d1.needs.length v12c2, .slice v12a3 d1.tree.length v12c3]) F13 w10 (unhid M0) (unhid M1) (unhid Y9) (unhid Y14)).mono ?_
          rintro x w15 ⟨v1, F2, rfl, ho, hf, hb⟩
          obtain ⟨v1a0, v1c0, hsh⟩ := root_shape ho
          subst hsh
          have HS := hid ho
          have HFR := hid hf
          clear ho hf Y9 Y14
          have Z16 := hid (show w10.heap.size ≤ w15.heap.size from hb.size)
          have HC := hid ((unhid HC).trans (hb.mono (unhid HC).size))
          clear hb
          refine ⟨_, rfl, hK.out _ _ (unhid HC) ?_⟩
          simp only [Act.put, List.setIfInBounds_toArray, List.set_cons_zero, List.set_cons_succ]
          clear hK K
          have hba : ∀ {q : Prop}, (CW (fun w' => Below s1.heap.size s1 w') → q) ↔ q := CW.all (Below.refl _ s1)
          refine held_here [false, false, false, false, false, true, true, true] (by kernel_rfl) (by kernel_rfl) (fun _ _ _ _ _ h => h) (unhid HC) ?_
          dsimp only [pick]
          repeat (go_big_quiet_step (fail))
          refine wpQuiet_nil ?_
          clear hba
          refine held_op 8 (by kernel_rfl) (by kernel_rfl) rfl (fun K hK => ?_)
          go_simp
          have hbx := World.alloc_heap_new w15 (.cells #[.slice none 0 0] 42)
          have hb : Below w15.heap.size w15 (w15.alloc (.cells #[.slice none 0 0] 42)) := (Below.refl _ w15).alloc (Nat.le_refl _) _
          have hlt : w15.heap.size < (w15.alloc (.cells #[.slice none 0 0] 42)).heap.size := by simp
          refine hK.out _ _ ((unhid HC).trans (hb.mono (unhid HC).size)) ?_
          clear hK K
          generalize w15.alloc (.cells #[.slice none 0 0] 42) = w17 at hbx hb hlt ⊢
          have HBX := hid hbx
          have Z18 := hid hlt
          have HS := hid (vfresh (unhid HS) hb)
          have HC := hid ((unhid HC).trans (hb.mono (unhid HC).size))
          clear hbx hb hlt
          obtain ⟨o1, p1⟩ := cell_fz (unhid HBX) 0 _ rfl
          refine held_op 9 (by kernel_rfl) (by kernel_rfl) rfl (fun K hK => ?_)
          go_simp
          refine hK.out _ _ ((unhid HC).setCell (show s1.heap.size ≤ w15.heap.size from by have o0 := unhid HORD; have oZ4 := unhid Z4; have oZ6 := unhid Z6; have oZ11 := unhid Z11; have oZ16 := unhid Z16; have oZ18 := unhid Z18; omega) _) ?_
          clear hK K o1 p1
          have HX := hid (heap_setCell_same w17 (w15.heap.size) 0 _ _ (.slice v1a0 ((rootSwap_0 d0 d1)).packs.length v1c0) (unhid HBX))
          have HS := hid ((aggK rootC).frame (unhid HS) (fun k hk => Below.heap_setCell w17 ⟨w15.heap.size, 0, none⟩ (.slice v1a0 ((rootSwap_0 d0 d1)).packs.length v1c0) k (show k ≠ w15.heap.size from by have o0 := unhid HORD; have oZ4 := unhid Z4; have oZ6 := unhid Z6; have oZ11 := unhid Z11; have oZ16 := unhid Z16; have oZ18 := unhid Z18; have oF := unhid HFR k hk; omega)))
          have HC := hid ((unhid HC).setCell (p := ⟨w15.heap.size, 0, none⟩) (show s1.heap.size ≤ w15.heap.size from by have o0 := unhid HORD; have oZ4 := unhid Z4; have oZ6 := unhid Z6; have oZ11 := unhid Z11; have oZ16 := unhid Z16; have oZ18 := unhid Z18; omega) (.slice v1a0 ((rootSwap_0 d0 d1)).packs.length v1c0))
          have HZF := hid (show (w17.setCell ⟨w15.heap.size, 0, none⟩ (.slice v1a0 ((rootSwap_0 d0 d1)).packs.length v1c0)).heap.size = w17.heap.size by simp)
          have hba : ∀ {q : Prop}, (CW (fun w' => Below s1.heap.size s1 w') → q) ↔ q := CW.all (Below.refl _ s1)
          refine held_here [false, false, false, false, false, false, false, false, false, false, true] (by kernel_rfl) (by kernel_rfl) (fun _ _ _ _ _ h => h) (unhid HC) ?_
          dsimp only [pick]
          repeat (go_big_quiet_step (fail))
          refine wpQuiet_nil ?_
          clear hba
          refine held_done (by kernel_rfl) ?_
          go_wp2_with fail
          go_meet
          case rel => exact ⟨w15.heap.size, w10.heap.size, w15.heap.size, v1a0, v1c0, F2, rfl, rfl, hid ((unhid HB2).trans ((unhid HC).mono (unhid HB2).size)), hid (((unhid HC).block _ (by have o1 := unhid HORD; omega)).trans (unhid BP0)), hid (((unhid HC).block _ (by have o1 := unhid HORD; omega)).trans (unhid BP1)), HX, HS, HFR, hid (by have o0 := unhid HORD; have oZ4 := unhid Z4; have oZ6 := unhid Z6; have oZ11 := unhid Z11; have oZ16 := unhid Z16; have oZ18 := unhid Z18; have oF := unhid HZF; omega)⟩
        · go_simp
          have hbx := World.alloc_heap_new w10 (.cells #[.slice none 0 0] 42)
          have hb : Below w10.heap.size w10 (w10.alloc (.cells #[.slice none 0 0] 42)) := (Below.refl _ w10).alloc (Nat.le_refl _) _
          have hlt : w10.heap.size < (w10.alloc (.cells #[.slice none 0 0] 42)).heap.size := by simp
          refine hK.out _ _ ((unhid HC).trans (hb.mono (unhid HC).size)) ?_
          clear hK K
          generalize w10.alloc (.cells #[.slice none 0 0] 42) = w19 at hbx hb hlt ⊢
          have HBX := hid hbx
          have Z20 := hid hlt
          have Y9 := hid (vfresh (unhid Y9) hb)
          have Y14 := hid (vfresh (unhid Y14) hb)
          have HC := hid ((unhid HC).trans (hb.mono (unhid HC).size))
          clear hbx hb hlt
          refine held_call 4 34 32 (enters_of Tryz.func34 (by kernel_rfl) rfl) #[(.agg #[.slice v7a0 d0.packs.length v7c0]), (.agg #[.string d1.name, .string d1.version, .slice v12a2 d1.needs.length v12c2, .slice v12a3 d1.tree.length v12c3])] (by kernel_rfl) (by kernel_rfl) rfl rfl rfl rfl rfl ?_
          refine (rootSwap_spec d0 d1 (.agg #[.slice v7a0 d0.packs.length v7c0]) F8 (.agg #[.string d1.name, .string d1.version, .slice v12a2 d1.needs.length v12c2, .slice v12a3 d1.tree.length v12c3]) F13 w19 (unhid M0) (unhid M1) (unhid Y9) (unhid Y14)).mono ?_
          rintro x w21 ⟨v1, F2, rfl, ho, hf, hb⟩
          obtain ⟨v1a0, v1c0, hsh⟩ := root_shape ho
          subst hsh
          have HS := hid ho
          have HFR := hid hf
          clear ho hf Y9 Y14
          have HBX := hid ((hb.block _ (by have o0 := unhid HORD; have oZ4 := unhid Z4; have oZ6 := unhid Z6; have oZ11 := unhid Z11; have oZ20 := unhid Z20; omega)).trans (unhid HBX))
          have Z22 := hid (show w19.heap.size ≤ w21.heap.size from hb.size)
          have HC := hid ((unhid HC).trans (hb.mono (unhid HC).size))
          clear hb
          refine ⟨_, rfl, unhid HC, ?_⟩
          simp only [Act.put, List.setIfInBounds_toArray, List.set_cons_zero, List.set_cons_succ]
          have hba : ∀ {q : Prop}, (CW (fun w' => Below s1.heap.size s1 w') → q) ↔ q := CW.all (Below.refl _ s1)
          refine held_here [false, false, false, false, false, true, true, true] (by kernel_rfl) (by kernel_rfl) (fun _ _ _ _ _ h => h) (unhid HC) ?_
          dsimp only [pick]
          repeat (go_big_quiet_step (fail))
          refine wpQuiet_nil ?_
          clear hba
          obtain ⟨o1, p1⟩ := cell_fz (unhid HBX) 0 _ rfl
          refine held_op 9 (by kernel_rfl) (by kernel_rfl) rfl (fun K hK => ?_)
          go_simp
          refine hK.out _ _ ((unhid HC).setCell (show s1.heap.size ≤ w10.heap.size from by have o0 := unhid HORD; have oZ4 := unhid Z4; have oZ6 := unhid Z6; have oZ11 := unhid Z11; have oZ20 := unhid Z20; have oZ22 := unhid Z22; omega) _) ?_
          clear hK K o1 p1
          have HX := hid (heap_setCell_same w21 (w10.heap.size) 0 _ _ (.slice v1a0 ((rootSwap_0 d0 d1)).packs.length v1c0) (unhid HBX))
          have HS := hid ((aggK rootC).frame (unhid HS) (fun k hk => Below.heap_setCell w21 ⟨w10.heap.size, 0, none⟩ (.slice v1a0 ((rootSwap_0 d0 d1)).packs.length v1c0) k (show k ≠ w10.heap.size from by have o0 := unhid HORD; have oZ4 := unhid Z4; have oZ6 := unhid Z6; have oZ11 := unhid Z11; have oZ20 := unhid Z20; have oZ22 := unhid Z22; have oF := unhid HFR k hk; omega)))
          have HC := hid ((unhid HC).setCell (p := ⟨w10.heap.size, 0, none⟩) (show s1.heap.size ≤ w10.heap.size from by have o0 := unhid HORD; have oZ4 := unhid Z4; have oZ6 := unhid Z6; have oZ11 := unhid Z11; have oZ20 := unhid Z20; have oZ22 := unhid Z22; omega) (.slice v1a0 ((rootSwap_0 d0 d1)).packs.length v1c0))
          have HZF := hid (show (w21.setCell ⟨w10.heap.size, 0, none⟩ (.slice v1a0 ((rootSwap_0 d0 d1)).packs.length v1c0)).heap.size = w21.heap.size by simp)
          have hba : ∀ {q : Prop}, (CW (fun w' => Below s1.heap.size s1 w') → q) ↔ q := CW.all (Below.refl _ s1)
          refine held_here [false, false, false, false, false, false, false, false, false, false, true] (by kernel_rfl) (by kernel_rfl) (fun _ _ _ _ _ h => h) (unhid HC) ?_
          dsimp only [pick]
          repeat (go_big_quiet_step (fail))
          refine wpQuiet_nil ?_
          clear hba
          refine held_done (by kernel_rfl) ?_
          go_wp2_with fail
          go_meet
          case rel => exact ⟨w10.heap.size, w19.heap.size, w21.heap.size, v1a0, v1c0, F2, rfl, rfl, hid ((unhid HB2).trans ((unhid HC).mono (unhid HB2).size)), hid (((unhid HC).block _ (by have o1 := unhid HORD; omega)).trans (unhid BP0)), hid (((unhid HC).block _ (by have o1 := unhid HORD; omega)).trans (unhid BP1)), HX, HS, HFR, hid (by have o0 := unhid HORD; have oZ4 := unhid Z4; have oZ6 := unhid Z6; have oZ11 := unhid Z11; have oZ20 := unhid Z20; have oZ22 := unhid Z22; have oF := unhid HZF; omega)⟩
      · go_simp
        have hbx := World.alloc_heap_new w5 (.cells #[.slice none 0 0] 42)
        have hb : Below w5.heap.size w5 (w5.alloc (.cells #[.slice none 0 0] 42)) := (Below.refl _ w5).alloc (Nat.le_refl _) _
        have hlt : w5.heap.size < (w5.alloc (.cells #[.slice none 0 0] 42)).heap.size := by simp
        refine hK.out _ _ ((unhid HC).trans (hb.mono (unhid HC).size)) ?_
        clear hK K
        generalize w5.alloc (.cells #[.slice none 0 0] 42) = w23 at hbx hb hlt ⊢
        have HBX := hid hbx
        have Z24 := hid hlt
        have Y9 := hid (vfresh (unhid Y9) hb)
        have HC := hid ((unhid HC).trans (hb.mono (unhid HC).size))
        clear hbx hb hlt
        refine held_call 3 14 31 (enters_of Tryz.func14 (by kernel_rfl) rfl) #[.agg #[.string d1.name, .string d1.version, .slice P1a2 d1.needs.length P1c2, .slice P1a3 d1.tree.length P1c3]] (by kernel_rfl) (by kernel_rfl) rfl rfl rfl rfl rfl ?_
        refine (vtoPack_v d1 _ w23 (unhid M1).1 (aggAt.below (unhid HA1) ((unhid HB2).trans ((unhid HC).mono (unhid HB2).size)))).mono ?_
        rintro x w25 ⟨v27, F28, rfl, hown, hfr, hb⟩
        obtain ⟨v27a2, v27c2, v27a3, v27c3, hsh⟩ := pack_shape hown
        subst hsh
        have Y9 := hid (vfresh (unhid Y9) hb)
        have Y29 := hid hown
        clear hown hfr
        have HBX := hid ((hb.block _ (by have o0 := unhid HORD; have oZ4 := unhid Z4; have oZ6 := unhid Z6; have oZ24 := unhid Z24; omega)).trans (unhid HBX))
        have Z26 := hid (show w23.heap.size ≤ w25.heap.size from hb.size)
        have HC := hid ((unhid HC).trans (hb.mono (unhid HC).size))
        clear hb
        refine ⟨_, rfl, unhid HC, ?_⟩
        simp only [Act.put, List.setIfInBounds_toArray, List.set_cons_zero, List.set_cons_succ]
        refine held_call 4 34 32 (enters_of Tryz.func34 (by kernel_rfl) rfl) #[(.agg #[.slice v7a0 d0.packs.length v7c0]), (.agg #[.string d1.name, .string d1.version, .slice v27a2 d1.needs.length v27c2, .slice v27a3 d1.tree.length v27c3])] (by kernel_rfl) (by kernel_rfl) rfl rfl rfl rfl rfl ?_
        refine (rootSwap_spec d0 d1 (.agg #[.slice v7a0 d0.packs.length v7c0]) F8 (.agg #[.string d1.name, .string d1.version, .slice v27a2 d1.needs.length v27c2, .slice v27a3 d1.tree.length v27c3]) F28 w25 (unhid M0) (unhid M1) (unhid Y9) (unhid Y29)).mono ?_
        rintro x w30 ⟨v1, F2, rfl, ho, hf, hb⟩
        obtain ⟨v1a0, v1c0, hsh⟩ := root_shape ho
        subst hsh
        have HS := hid ho
        have HFR := hid hf
        clear ho hf Y9 Y29
        have HBX := hid ((hb.block _ (by have o0 := unhid HORD; have oZ4 := unhid Z4; have oZ6 := unhid Z6; have oZ24 := unhid Z24; have oZ26 := unhid Z26; omega)).trans (unhid HBX))
        have Z31 := hid (show w25.heap.size ≤ w30.heap.size from hb.size)
        have HC := hid ((unhid HC).trans (hb.mono (unhid HC).size))
        clear hb
        refine ⟨_, rfl, unhid HC, ?_⟩
        simp only [Act.put, List.setIfInBounds_toArray, List.set_cons_zero, List.set_cons_succ]
        have hba : ∀ {q : Prop}, (CW (fun w' => Below s1.heap.size s1 w') → q) ↔ q := CW.all (Below.refl _ s1)
        refine held_here [false, false, false, false, false, true, true, true] (by kernel_rfl) (by kernel_rfl) (fun _ _ _ _ _ h => h) (unhid HC) ?_
        dsimp only [pick]
        repeat (go_big_quiet_step (fail))
        refine wpQuiet_nil ?_
        clear hba
        obtain ⟨o1, p1⟩ := cell_fz (unhid HBX) 0 _ rfl
        refine held_op 9 (by kernel_rfl) (by kernel_rfl) rfl (fun K hK => ?_)
        go_simp
        refine hK.out _ _ ((unhid HC).setCell (show s1.heap.size ≤ w5.heap.size from by have o0 := unhid HORD; have oZ4 := unhid Z4; have oZ6 := unhid Z6; have oZ24 := unhid Z24; have oZ26 := unhid Z26; have oZ31 := unhid Z31; omega) _) ?_
        clear hK K o1 p1
        have HX := hid (heap_setCell_same w30 (w5.heap.size) 0 _ _ (.slice v1a0 ((rootSwap_0 d0 d1)).packs.length v1c0) (unhid HBX))
        have HS := hid ((aggK rootC).frame (unhid HS) (fun k hk => Below.heap_setCell w30 ⟨w5.heap.size, 0, none⟩ (.slice v1a0 ((rootSwap_0 d0 d1)).packs.length v1c0) k (show k ≠ w5.heap.size from by have o0 := unhid HORD; have oZ4 := unhid Z4; have oZ6 := unhid Z6; have oZ24 := unhid Z24; have oZ26 := unhid Z26; have oZ31 := unhid Z31; have oF := unhid HFR k hk; omega)))
        have HC := hid ((unhid HC).setCell (p := ⟨w5.heap.size, 0, none⟩) (show s1.heap.size ≤ w5.heap.size from by have o0 := unhid HORD; have oZ4 := unhid Z4; have oZ6 := unhid Z6; have oZ24 := unhid Z24; have oZ26 := unhid Z26; have oZ31 := unhid Z31; omega) (.slice v1a0 ((rootSwap_0 d0 d1)).packs.length v1c0))
        have HZF := hid (show (w30.setCell ⟨w5.heap.size, 0, none⟩ (.slice v1a0 ((rootSwap_0 d0 d1)).packs.length v1c0)).heap.size = w30.heap.size by simp)
        have hba : ∀ {q : Prop}, (CW (fun w' => Below s1.heap.size s1 w') → q) ↔ q := CW.all (Below.refl _ s1)
        refine held_here [false, false, false, false, false, false, false, false, false, false, true] (by kernel_rfl) (by kernel_rfl) (fun _ _ _ _ _ h => h) (unhid HC) ?_
        dsimp only [pick]
        repeat (go_big_quiet_step (fail))
        refine wpQuiet_nil ?_
        clear hba
        refine held_done (by kernel_rfl) ?_
        go_wp2_with fail
        go_meet
        case rel => exact ⟨w5.heap.size, w25.heap.size, w30.heap.size, v1a0, v1c0, F2, rfl, rfl, hid ((unhid HB2).trans ((unhid HC).mono (unhid HB2).size)), hid (((unhid HC).block _ (by have o1 := unhid HORD; omega)).trans (unhid BP0)), hid (((unhid HC).block _ (by have o1 := unhid HORD; omega)).trans (unhid BP1)), HX, HS, HFR, hid (by have o0 := unhid HORD; have oZ4 := unhid Z4; have oZ6 := unhid Z6; have oZ24 := unhid Z24; have oZ26 := unhid Z26; have oZ31 := unhid Z31; have oF := unhid HZF; omega)⟩
    · go_simp
      have hbx := World.alloc_heap_new w3 (.cells #[.slice none 0 0] 42)
      have hb : Below w3.heap.size w3 (w3.alloc (.cells #[.slice none 0 0] 42)) := (Below.refl _ w3).alloc (Nat.le_refl _) _
      have hlt : w3.heap.size < (w3.alloc (.cells #[.slice none 0 0] 42)).heap.size := by simp
      refine hK.out _ _ ((unhid HC).trans (hb.mono (unhid HC).size)) ?_
      clear hK K
      generalize w3.alloc (.cells #[.slice none 0 0] 42) = w32 at hbx hb hlt ⊢
      have HBX := hid hbx
      have Z33 := hid hlt
      have HC := hid ((unhid HC).trans (hb.mono (unhid HC).size))
      clear hbx hb hlt
      refine held_call 1 19 29 (enters_of Tryz.func19 (by kernel_rfl) rfl) #[.agg #[.slice P0a0 d0.packs.length P0c0]] (by kernel_rfl) (by kernel_rfl) rfl rfl rfl rfl rfl ?_
      refine (vtoRoot_v d0 _ w32 (unhid M0).1 (aggAt.below (unhid HA0) ((unhid HB2).trans ((unhid HC).mono (unhid HB2).size)))).mono ?_
      rintro x w34 ⟨v36, F37, rfl, hown, hfr, hb⟩
      obtain ⟨v36a0, v36c0, hsh⟩ := root_shape hown
      subst hsh
      have Y38 := hid hown
      clear hown hfr
      have HBX := hid ((hb.block _ (by have o0 := unhid HORD; have oZ4 := unhid Z4; have oZ33 := unhid Z33; omega)).trans (unhid HBX))
      have Z35 := hid (show w32.heap.size ≤ w34.heap.size from hb.size)
      have HC := hid ((unhid HC).trans (hb.mono (unhid HC).size))
      clear hb
      refine ⟨_, rfl, unhid HC, ?_⟩
      simp only [Act.put, List.setIfInBounds_toArray, List.set_cons_zero, List.set_cons_succ]
      refine held_call 3 14 31 (enters_of Tryz.func14 (by kernel_rfl) rfl) #[.agg #[.string d1.name, .string d1.version, .slice P1a2 d1.needs.length P1c2, .slice P1a3 d1.tree.length P1c3]] (by kernel_rfl) (by kernel_rfl) rfl rfl rfl rfl rfl ?_
      refine (vtoPack_v d1 _ w34 (unhid M1).1 (aggAt.below (unhid HA1) ((unhid HB2).trans ((unhid HC).mono (unhid HB2).size)))).mono ?_
      rintro x w39 ⟨v41, F42, rfl, hown, hfr, hb⟩
      obtain ⟨v41a2, v41c2, v41a3, v41c3, hsh⟩ := pack_shape hown
      subst hsh
      have Y38 := hid (vfresh (unhid Y38) hb)
      have Y43 := hid hown
      clear hown hfr
      have HBX := hid ((hb.block _ (by have o0 := unhid HORD; have oZ4 := unhid Z4; have oZ33 := unhid Z33; have oZ35 := unhid Z35; omega)).trans (unhid HBX))
      have Z40 := hid (show w34.heap.size ≤ w39.heap.size from hb.size)
      have HC := hid ((unhid HC).trans (hb.mono (unhid HC).size))
      clear hb
      refine ⟨_, rfl, unhid HC, ?_⟩
      simp only [Act.put, List.setIfInBounds_toArray, List.set_cons_zero, List.set_cons_succ]
      refine held_call 4 34 32 (enters_of Tryz.func34 (by kernel_rfl) rfl) #[(.agg #[.slice v36a0 d0.packs.length v36c0]), (.agg #[.string d1.name, .string d1.version, .slice v41a2 d1.needs.length v41c2, .slice v41a3 d1.tree.length v41c3])] (by kernel_rfl) (by kernel_rfl) rfl rfl rfl rfl rfl ?_
      refine (rootSwap_spec d0 d1 (.agg #[.slice v36a0 d0.packs.length v36c0]) F37 (.agg #[.string d1.name, .string d1.version, .slice v41a2 d1.needs.length v41c2, .slice v41a3 d1.tree.length v41c3]) F42 w39 (unhid M0) (unhid M1) (unhid Y38) (unhid Y43)).mono ?_
      rintro x w44 ⟨v1, F2, rfl, ho, hf, hb⟩
      obtain ⟨v1a0, v1c0, hsh⟩ := root_shape ho
      subst hsh
      have HS := hid ho
      have HFR := hid hf
      clear ho hf Y38 Y43
      have HBX := hid ((hb.block _ (by have o0 := unhid HORD; have oZ4 := unhid Z4; have oZ33 := unhid Z33; have oZ35 := unhid Z35; have oZ40 := unhid Z40; omega)).trans (unhid HBX))
      have Z45 := hid (show w39.heap.size ≤ w44.heap.size from hb.size)
      have HC := hid ((unhid HC).trans (hb.mono (unhid HC).size))
      clear hb
      refine ⟨_, rfl, unhid HC, ?_⟩
      simp only [Act.put, List.setIfInBounds_toArray, List.set_cons_zero, List.set_cons_succ]
      have hba : ∀ {q : Prop}, (CW (fun w' => Below s1.heap.size s1 w') → q) ↔ q := CW.all (Below.refl _ s1)
      refine held_here [false, false, false, false, false, true, true, true] (by kernel_rfl) (by kernel_rfl) (fun _ _ _ _ _ h => h) (unhid HC) ?_
      dsimp only [pick]
      repeat (go_big_quiet_step (fail))
      refine wpQuiet_nil ?_
      clear hba
      obtain ⟨o1, p1⟩ := cell_fz (unhid HBX) 0 _ rfl
      refine held_op 9 (by kernel_rfl) (by kernel_rfl) rfl (fun K hK => ?_)
      go_simp
      refine hK.out _ _ ((unhid HC).setCell (show s1.heap.size ≤ w3.heap.size from by have o0 := unhid HORD; have oZ4 := unhid Z4; have oZ33 := unhid Z33; have oZ35 := unhid Z35; have oZ40 := unhid Z40; have oZ45 := unhid Z45; omega) _) ?_
      clear hK K o1 p1
      have HX := hid (heap_setCell_same w44 (w3.heap.size) 0 _ _ (.slice v1a0 ((rootSwap_0 d0 d1)).packs.length v1c0) (unhid HBX))
      have HS := hid ((aggK rootC).frame (unhid HS) (fun k hk => Below.heap_setCell w44 ⟨w3.heap.size, 0, none⟩ (.slice v1a0 ((rootSwap_0 d0 d1)).packs.length v1c0) k (show k ≠ w3.heap.size from by have o0 := unhid HORD; have oZ4 := unhid Z4; have oZ33 := unhid Z33; have oZ35 := unhid Z35; have oZ40 := unhid Z40; have oZ45 := unhid Z45; have oF := unhid HFR k hk; omega)))
      have HC := hid ((unhid HC).setCell (p := ⟨w3.heap.size, 0, none⟩) (show s1.heap.size ≤ w3.heap.size from by have o0 := unhid HORD; have oZ4 := unhid Z4; have oZ33 := unhid Z33; have oZ35 := unhid Z35; have oZ40 := unhid Z40; have oZ45 := unhid Z45; omega) (.slice v1a0 ((rootSwap_0 d0 d1)).packs.length v1c0))
      have HZF := hid (show (w44.setCell ⟨w3.heap.size, 0, none⟩ (.slice v1a0 ((rootSwap_0 d0 d1)).packs.length v1c0)).heap.size = w44.heap.size by simp)
      have hba : ∀ {q : Prop}, (CW (fun w' => Below s1.heap.size s1 w') → q) ↔ q := CW.all (Below.refl _ s1)
      refine held_here [false, false, false, false, false, false, false, false, false, false, true] (by kernel_rfl) (by kernel_rfl) (fun _ _ _ _ _ h => h) (unhid HC) ?_
      dsimp only [pick]
      repeat (go_big_quiet_step (fail))
      refine wpQuiet_nil ?_
      clear hba
      refine held_done (by kernel_rfl) ?_
      go_wp2_with fail
      go_meet
      case rel => exact ⟨w3.heap.size, w39.heap.size, w44.heap.size, v1a0, v1c0, F2, rfl, rfl, hid ((unhid HB2).trans ((unhid HC).mono (unhid HB2).size)), hid (((unhid HC).block _ (by have o1 := unhid HORD; omega)).trans (unhid BP0)), hid (((unhid HC).block _ (by have o1 := unhid HORD; omega)).trans (unhid BP1)), HX, HS, HFR, hid (by have o0 := unhid HORD; have oZ4 := unhid Z4; have oZ33 := unhid Z33; have oZ35 := unhid Z35; have oZ40 := unhid Z40; have oZ45 := unhid Z45; have oF := unhid HZF; omega)⟩
  case rest =>
    rename World => w46
    obtain ⟨g8, lo8, hi8, v1a0, v1c0, F2, rfl, rfl, HB3, BP0, BP1, BXS0, S0, bS0, HORD⟩ := hcut
    have BP0k0 := cell_arrS (unhid BP0) 0 _ rfl
    have BP1k0 := cell_arrS (unhid BP1) 0 _ rfl
    have BP1k1 := cell_arrS (unhid BP1) 1 _ rfl
    have BP1k2 := cell_arrS (unhid BP1) 2 _ rfl
    have BP1k3 := cell_arrS (unhid BP1) 3 _ rfl
    have BXS0k0 := cell_arrS (unhid BXS0) 0 _ rfl
    go_wp2_with fail
    clear BP0k0 BP1k0 BP1k1 BP1k2 BP1k3 BXS0k0
    refine (vtoRoot_v d0 _ w46 (unhid M0).1 (aggAt.below (unhid HA0) (unhid HB3))).mono ?_
    rintro x w49 ⟨v47, F48, rfl, hown, hfr, hb⟩
    obtain ⟨v47a0, v47c0, hsh⟩ := root_shape hown
    subst hsh
    have HORDO := HORD
    have HLOHI := hid (show w46.heap.size ≤ w49.heap.size from hb.size)
    have HB4 := hid ((unhid HB3).trans (hb.mono (unhid HB3).size))
    have BP0 := hid ((hb.block _ (by have o1 := unhid HORD; omega)).trans (unhid BP0))
    have BP1 := hid ((hb.block _ (by have o1 := unhid HORD; omega)).trans (unhid BP1))
    have BXS0 := hid ((hb.block _ (by have o1 := unhid HORD; omega)).trans (unhid BXS0))
    have HORD := hid (show w.heap.size + 2 ≤ lo8 ∧ lo8 ≤ hi8 ∧ hi8 ≤ w46.heap.size ∧ w46.heap.size ≤ w49.heap.size ∧ w.heap.size + 2 ≤ g8 ∧ g8 < w46.heap.size ∧ (g8 < lo8 ∨ hi8 ≤ g8) from by have o1 := unhid HORD; have o2 := hb.size; omega)
    have S0 := hid (vfresh (unhid S0) hb)
    clear hb HB3
    have HORD := hid (show w.heap.size + 2 ≤ lo8 ∧ lo8 ≤ hi8 ∧ hi8 ≤ w46.heap.size ∧ w46.heap.size ≤ w49.heap.size ∧ w49.heap.size ≤ w49.heap.size ∧ w.heap.size + 2 ≤ g8 ∧ g8 < w46.heap.size ∧ (g8 < lo8 ∨ hi8 ≤ g8) from by have o1 := unhid HORDO; have o2 := unhid HORD; have o3 := unhid HLOHI; omega)
    clear HORDO HLOHI
    have X50 := hid hown
    have bX50 := hid hfr
    clear hown hfr
    have BP0k0 := cell_arrS (unhid BP0) 0 _ rfl
    have BP1k0 := cell_arrS (unhid BP1) 0 _ rfl
    have BP1k1 := cell_arrS (unhid BP1) 1 _ rfl
    have BP1k2 := cell_arrS (unhid BP1) 2 _ rfl
    have BP1k3 := cell_arrS (unhid BP1) 3 _ rfl
    have BXS0k0 := cell_arrS (unhid BXS0) 0 _ rfl
    have BP0k0a : ∀ x, (w49.alloc x).cell? ⟨w.heap.size, 0, none⟩ = some (.slice P0a0 d0.packs.length P0c0) := fun x => Go.Lib.cell?_alloc_some x BP0k0
    have BP1k0a : ∀ x, (w49.alloc x).cell? ⟨w.heap.size + 1, 0, none⟩ = some (.string d1.name) := fun x => Go.Lib.cell?_alloc_some x BP1k0
    have BP1k1a : ∀ x, (w49.alloc x).cell? ⟨w.heap.size + 1, 1, none⟩ = some (.string d1.version) := fun x => Go.Lib.cell?_alloc_some x BP1k1
    have BP1k2a : ∀ x, (w49.alloc x).cell? ⟨w.heap.size + 1, 2, none⟩ = some (.slice P1a2 d1.needs.length P1c2) := fun x => Go.Lib.cell?_alloc_some x BP1k2
    have BP1k3a : ∀ x, (w49.alloc x).cell? ⟨w.heap.size + 1, 3, none⟩ = some (.slice P1a3 d1.tree.length P1c3) := fun x => Go.Lib.cell?_alloc_some x BP1k3
    have BXS0k0a : ∀ x, (w49.alloc x).cell? ⟨g8, 0, none⟩ = some (.slice v1a0 ((rootSwap_0 d0 d1)).packs.length v1c0) := fun x => Go.Lib.cell?_alloc_some x BXS0k0
    go_wp2_with fail
    clear BP0k0a BP1k0a BP1k1a BP1k2a BP1k3a BXS0k0a
    clear BP0k0 BP1k0 BP1k1 BP1k2 BP1k3 BXS0k0
    have hbx := World.alloc_heap_new w49 (.cells #[.slice v47a0 d0.packs.length v47c0] 42)
    have hb : Below w49.heap.size w49 (w49.alloc (.cells #[.slice v47a0 d0.packs.length v47c0] 42)) := (Below.refl _ w49).alloc (Nat.le_refl _) _
    have hlt : w49.heap.size < (w49.alloc (.cells #[.slice v47a0 d0.packs.length v47c0] 42)).heap.size := by simp
    generalize w49.alloc (.cells #[.slice v47a0 d0.packs.length v47c0] 42) = w51 at hbx hb hlt ⊢
    have HLT := hid hlt
    have BXX50 := hid hbx
    clear hbx hlt
    have HORDO := HORD
    have HB5 := hid ((unhid HB4).trans (hb.mono (unhid HB4).size))
    have BP0 := hid ((hb.block _ (by have o1 := unhid HORD; omega)).trans (unhid BP0))
    have BP1 := hid ((hb.block _ (by have o1 := unhid HORD; omega)).trans (unhid BP1))
    have BXS0 := hid ((hb.block _ (by have o1 := unhid HORD; omega)).trans (unhid BXS0))
    have HORD := hid (show w.heap.size + 2 ≤ lo8 ∧ lo8 ≤ hi8 ∧ hi8 ≤ w46.heap.size ∧ w46.heap.size ≤ w49.heap.size ∧ w49.heap.size ≤ w51.heap.size ∧ w.heap.size + 2 ≤ g8 ∧ g8 < w46.heap.size ∧ (g8 < lo8 ∨ hi8 ≤ g8) from by have o1 := unhid HORD; have o2 := hb.size; omega)
    have S0 := hid (vfresh (unhid S0) hb)
    have X50 := hid (vfresh (unhid X50) hb)
    clear hb HB4
    have HORD := hid (show w.heap.size + 2 ≤ lo8 ∧ lo8 ≤ hi8 ∧ hi8 ≤ w46.heap.size ∧ w46.heap.size ≤ w49.heap.size ∧ w49.heap.size < w51.heap.size ∧ w51.heap.size ≤ w51.heap.size ∧ w.heap.size + 2 ≤ g8 ∧ g8 < w46.heap.size ∧ (g8 < lo8 ∨ hi8 ≤ g8) from by have o1 := unhid HORDO; have o2 := unhid HORD; have o3 := unhid HLT; omega)
    clear HORDO HLT
    have BP0k0 := cell_arrS (unhid BP0) 0 _ rfl
    have BP1k0 := cell_arrS (unhid BP1) 0 _ rfl
    have BP1k1 := cell_arrS (unhid BP1) 1 _ rfl
    have BP1k2 := cell_arrS (unhid BP1) 2 _ rfl
    have BP1k3 := cell_arrS (unhid BP1) 3 _ rfl
    have BXS0k0 := cell_arrS (unhid BXS0) 0 _ rfl
    have BXX50k0 := cell_arrS (unhid BXX50) 0 _ rfl
    go_wp2_with fail
    clear BP0k0 BP1k0 BP1k1 BP1k2 BP1k3 BXS0k0 BXX50k0
    refine (vtoPack_v d1 _ w51 (unhid M1).1 (aggAt.below (unhid HA1) (unhid HB5))).mono ?_
    rintro x w54 ⟨v52, F53, rfl, hown, hfr, hb⟩
    obtain ⟨v52a2, v52c2, v52a3, v52c3, hsh⟩ := pack_shape hown
    subst hsh
    have HORDO := HORD
    have HLOHI := hid (show w51.heap.size ≤ w54.heap.size from hb.size)
    have HB6 := hid ((unhid HB5).trans (hb.mono (unhid HB5).size))
    have BP0 := hid ((hb.block _ (by have o1 := unhid HORD; omega)).trans (unhid BP0))
    have BP1 := hid ((hb.block _ (by have o1 := unhid HORD; omega)).trans (unhid BP1))
    have BXS0 := hid ((hb.block _ (by have o1 := unhid HORD; omega)).trans (unhid BXS0))
    have BXX50 := hid ((hb.block _ (by have o1 := unhid HORD; omega)).trans (unhid BXX50))
    have HORD := hid (show w.heap.size + 2 ≤ lo8 ∧ lo8 ≤ hi8 ∧ hi8 ≤ w46.heap.size ∧ w46.heap.size ≤ w49.heap.size ∧ w49.heap.size < w51.heap.size ∧ w51.heap.size ≤ w54.heap.size ∧ w.heap.size + 2 ≤ g8 ∧ g8 < w46.heap.size ∧ (g8 < lo8 ∨ hi8 ≤ g8) from by have o1 := unhid HORD; have o2 := hb.size; omega)
    have S0 := hid (vfresh (unhid S0) hb)
    have X50 := hid (vfresh (unhid X50) hb)
    clear hb HB5
    have HORD := hid (show w.heap.size + 2 ≤ lo8 ∧ lo8 ≤ hi8 ∧ hi8 ≤ w46.heap.size ∧ w46.heap.size ≤ w49.heap.size ∧ w49.heap.size < w51.heap.size ∧ w51.heap.size ≤ w54.heap.size ∧ w54.heap.size ≤ w54.heap.size ∧ w.heap.size + 2 ≤ g8 ∧ g8 < w46.heap.size ∧ (g8 < lo8 ∨ hi8 ≤ g8) from by have o1 := unhid HORDO; have o2 := unhid HORD; have o3 := unhid HLOHI; omega)
    clear HORDO HLOHI
    have X55 := hid hown
    have bX55 := hid hfr
    clear hown hfr
    have BP0k0 := cell_arrS (unhid BP0) 0 _ rfl
    have BP1k0 := cell_arrS (unhid BP1) 0 _ rfl
    have BP1k1 := cell_arrS (unhid BP1) 1 _ rfl
    have BP1k2 := cell_arrS (unhid BP1) 2 _ rfl
    have BP1k3 := cell_arrS (unhid BP1) 3 _ rfl
    have BXS0k0 := cell_arrS (unhid BXS0) 0 _ rfl
    have BXX50k0 := cell_arrS (unhid BXX50) 0 _ rfl
    have BP0k0a : ∀ x, (w54.alloc x).cell? ⟨w.heap.size, 0, none⟩ = some (.slice P0a0 d0.packs.length P0c0) := fun x => Go.Lib.cell?_alloc_some x BP0k0
    have BP1k0a : ∀ x, (w54.alloc x).cell? ⟨w.heap.size + 1, 0, none⟩ = some (.string d1.name) := fun x => Go.Lib.cell?_alloc_some x BP1k0
    have BP1k1a : ∀ x, (w54.alloc x).cell? ⟨w.heap.size + 1, 1, none⟩ = some (.string d1.version) := fun x => Go.Lib.cell?_alloc_some x BP1k1
    have BP1k2a : ∀ x, (w54.alloc x).cell? ⟨w.heap.size + 1, 2, none⟩ = some (.slice P1a2 d1.needs.length P1c2) := fun x => Go.Lib.cell?_alloc_some x BP1k2
    have BP1k3a : ∀ x, (w54.alloc x).cell? ⟨w.heap.size + 1, 3, none⟩ = some (.slice P1a3 d1.tree.length P1c3) := fun x => Go.Lib.cell?_alloc_some x BP1k3
    have BXS0k0a : ∀ x, (w54.alloc x).cell? ⟨g8, 0, none⟩ = some (.slice v1a0 ((rootSwap_0 d0 d1)).packs.length v1c0) := fun x => Go.Lib.cell?_alloc_some x BXS0k0
    have BXX50k0a : ∀ x, (w54.alloc x).cell? ⟨w49.heap.size, 0, none⟩ = some (.slice v47a0 d0.packs.length v47c0) := fun x => Go.Lib.cell?_alloc_some x BXX50k0
    go_wp2_with fail
    clear BP0k0a BP1k0a BP1k1a BP1k2a BP1k3a BXS0k0a BXX50k0a
    clear BP0k0 BP1k0 BP1k1 BP1k2 BP1k3 BXS0k0 BXX50k0
    have hbx := World.alloc_heap_new w54 (.cells #[.string d1.name, .string d1.version, .slice v52a2 d1.needs.length v52c2, .slice v52a3 d1.tree.length v52c3] 31)
    have hb : Below w54.heap.size w54 (w54.alloc (.cells #[.string d1.name, .string d1.version, .slice v52a2 d1.needs.length v52c2, .slice v52a3 d1.tree.length v52c3] 31)) := (Below.refl _ w54).alloc (Nat.le_refl _) _
    have hlt : w54.heap.size < (w54.alloc (.cells #[.string d1.name, .string d1.version, .slice v52a2 d1.needs.length v52c2, .slice v52a3 d1.tree.length v52c3] 31)).heap.size := by simp
    generalize w54.alloc (.cells #[.string d1.name, .string d1.version, .slice v52a2 d1.needs.length v52c2, .slice v52a3 d1.tree.length v52c3] 31) = w56 at hbx hb hlt ⊢
    have HLT := hid hlt
    have BXX55 := hid hbx
    clear hbx hlt
    have HORDO := HORD
    have HB7 := hid ((unhid HB6).trans (hb.mono (unhid HB6).size))
    have BP0 := hid ((hb.block _ (by have o1 := unhid HORD; omega)).trans (unhid BP0))
    have BP1 := hid ((hb.block _ (by have o1 := unhid HORD; omega)).trans (unhid BP1))
    have BXS0 := hid ((hb.block _ (by have o1 := unhid HORD; omega)).trans (unhid BXS0))
    have BXX50 := hid ((hb.block _ (by have o1 := unhid HORD; omega)).trans (unhid BXX50))
    have HORD := hid (show w.heap.size + 2 ≤ lo8 ∧ lo8 ≤ hi8 ∧ hi8 ≤ w46.heap.size ∧ w46.heap.size ≤ w49.heap.size ∧ w49.heap.size < w51.heap.size ∧ w51.heap.size ≤ w54.heap.size ∧ w54.heap.size ≤ w56.heap.size ∧ w.heap.size + 2 ≤ g8 ∧ g8 < w46.heap.size ∧ (g8 < lo8 ∨ hi8 ≤ g8) from by have o1 := unhid HORD; have o2 := hb.size; omega)
    have S0 := hid (vfresh (unhid S0) hb)
    have X50 := hid (vfresh (unhid X50) hb)
    have X55 := hid (vfresh (unhid X55) hb)
    clear hb HB6
    have HORD := hid (show w.heap.size + 2 ≤ lo8 ∧ lo8 ≤ hi8 ∧ hi8 ≤ w46.heap.size ∧ w46.heap.size ≤ w49.heap.size ∧ w49.heap.size < w51.heap.size ∧ w51.heap.size ≤ w54.heap.size ∧ w54.heap.size < w56.heap.size ∧ w56.heap.size ≤ w56.heap.size ∧ w.heap.size + 2 ≤ g8 ∧ g8 < w46.heap.size ∧ (g8 < lo8 ∨ hi8 ≤ g8) from by have o1 := unhid HORDO; have o2 := unhid HORD; have o3 := unhid HLT; omega)
    clear HORDO HLT
    have BP0k0 := cell_arrS (unhid BP0) 0 _ rfl
    have BP1k0 := cell_arrS (unhid BP1) 0 _ rfl
    have BP1k1 := cell_arrS (unhid BP1) 1 _ rfl
    have BP1k2 := cell_arrS (unhid BP1) 2 _ rfl
    have BP1k3 := cell_arrS (unhid BP1) 3 _ rfl
    have BXS0k0 := cell_arrS (unhid BXS0) 0 _ rfl
    have BXX50k0 := cell_arrS (unhid BXX50) 0 _ rfl
    have BXX55k0 := cell_arrS (unhid BXX55) 0 _ rfl
    have BXX55k1 := cell_arrS (unhid BXX55) 1 _ rfl
    have BXX55k2 := cell_arrS (unhid BXX55) 2 _ rfl
    have BXX55k3 := cell_arrS (unhid BXX55) 3 _ rfl
    go_wp2_with fail
    clear BP0k0 BP1k0 BP1k1 BP1k2 BP1k3 BXS0k0 BXX50k0 BXX55k0 BXX55k1 BXX55k2 BXX55k3
    refine (rootSwap_impl d0 d1 (.agg #[.slice v47a0 d0.packs.length v47c0]) F48 (.agg #[.string d1.name, .string d1.version, .slice v52a2 d1.needs.length v52c2, .slice v52a3 d1.tree.length v52c3]) F53 w56 (unhid M0) (unhid M1) (unhid X50) (unhid X55)).mono ?_
    rintro x w57 ⟨v58, F59, rfl, ho0, hf0, hb⟩
    have HORDO := HORD
    have HLOHI := hid (show w56.heap.size ≤ w57.heap.size from hb.size)
    have HB8 := hid ((unhid HB7).trans (hb.mono (unhid HB7).size))
    have BP0 := hid ((hb.block _ (by have o1 := unhid HORD; omega)).trans (unhid BP0))
    have BP1 := hid ((hb.block _ (by have o1 := unhid HORD; omega)).trans (unhid BP1))
    have BXS0 := hid ((hb.block _ (by have o1 := unhid HORD; omega)).trans (unhid BXS0))
    have BXX50 := hid ((hb.block _ (by have o1 := unhid HORD; omega)).trans (unhid BXX50))
    have BXX55 := hid ((hb.block _ (by have o1 := unhid HORD; omega)).trans (unhid BXX55))
    have HORD := hid (show w.heap.size + 2 ≤ lo8 ∧ lo8 ≤ hi8 ∧ hi8 ≤ w46.heap.size ∧ w46.heap.size ≤ w49.heap.size ∧ w49.heap.size < w51.heap.size ∧ w51.heap.size ≤ w54.heap.size ∧ w54.heap.size < w56.heap.size ∧ w56.heap.size ≤ w57.heap.size ∧ w.heap.size + 2 ≤ g8 ∧ g8 < w46.heap.size ∧ (g8 < lo8 ∨ hi8 ≤ g8) from by have o1 := unhid HORD; have o2 := hb.size; omega)
    have S0 := hid (vfresh (unhid S0) hb)
    have X50 := hid (vfresh (unhid X50) hb)
    have X55 := hid (vfresh (unhid X55) hb)
    clear hb HB7
    have HORD := hid (show w.heap.size + 2 ≤ lo8 ∧ lo8 ≤ hi8 ∧ hi8 ≤ w46.heap.size ∧ w46.heap.size ≤ w49.heap.size ∧ w49.heap.size < w51.heap.size ∧ w51.heap.size ≤ w54.heap.size ∧ w54.heap.size < w56.heap.size ∧ w56.heap.size ≤ w57.heap.size ∧ w57.heap.size ≤ w57.heap.size ∧ w.heap.size + 2 ≤ g8 ∧ g8 < w46.heap.size ∧ (g8 < lo8 ∨ hi8 ≤ g8) from by have o1 := unhid HORDO; have o2 := unhid HORD; have o3 := unhid HLOHI; omega)
    clear HORDO HLOHI
    have G0 := hid ho0
    have bG0 := hid hf0
    clear ho0 hf0
    have HSH := hid (root_shape (unhid G0))
    obtain ⟨v58a0, v58c0, hsh⟩ := unhid HSH
    clear HSH
    subst hsh
    have BP0k0 := cell_arrS (unhid BP0) 0 _ rfl
    have BP1k0 := cell_arrS (unhid BP1) 0 _ rfl
    have BP1k1 := cell_arrS (unhid BP1) 1 _ rfl
    have BP1k2 := cell_arrS (unhid BP1) 2 _ rfl
    have BP1k3 := cell_arrS (unhid BP1) 3 _ rfl
    have BXS0k0 := cell_arrS (unhid BXS0) 0 _ rfl
    have BXX50k0 := cell_arrS (unhid BXX50) 0 _ rfl
    have BXX55k0 := cell_arrS (unhid BXX55) 0 _ rfl
    have BXX55k1 := cell_arrS (unhid BXX55) 1 _ rfl
    have BXX55k2 := cell_arrS (unhid BXX55) 2 _ rfl
    have BXX55k3 := cell_arrS (unhid BXX55) 3 _ rfl
    have BP0k0a : ∀ x, (w57.alloc x).cell? ⟨w.heap.size, 0, none⟩ = some (.slice P0a0 d0.packs.length P0c0) := fun x => Go.Lib.cell?_alloc_some x BP0k0
    have BP1k0a : ∀ x, (w57.alloc x).cell? ⟨w.heap.size + 1, 0, none⟩ = some (.string d1.name) := fun x => Go.Lib.cell?_alloc_some x BP1k0
    have BP1k1a : ∀ x, (w57.alloc x).cell? ⟨w.heap.size + 1, 1, none⟩ = some (.string d1.version) := fun x => Go.Lib.cell?_alloc_some x BP1k1
    have BP1k2a : ∀ x, (w57.alloc x).cell? ⟨w.heap.size + 1, 2, none⟩ = some (.slice P1a2 d1.needs.length P1c2) := fun x => Go.Lib.cell?_alloc_some x BP1k2
    have BP1k3a : ∀ x, (w57.alloc x).cell? ⟨w.heap.size + 1, 3, none⟩ = some (.slice P1a3 d1.tree.length P1c3) := fun x => Go.Lib.cell?_alloc_some x BP1k3
    have BXS0k0a : ∀ x, (w57.alloc x).cell? ⟨g8, 0, none⟩ = some (.slice v1a0 ((rootSwap_0 d0 d1)).packs.length v1c0) := fun x => Go.Lib.cell?_alloc_some x BXS0k0
    have BXX50k0a : ∀ x, (w57.alloc x).cell? ⟨w49.heap.size, 0, none⟩ = some (.slice v47a0 d0.packs.length v47c0) := fun x => Go.Lib.cell?_alloc_some x BXX50k0
    have BXX55k0a : ∀ x, (w57.alloc x).cell? ⟨w54.heap.size, 0, none⟩ = some (.string d1.name) := fun x => Go.Lib.cell?_alloc_some x BXX55k0
    have BXX55k1a : ∀ x, (w57.alloc x).cell? ⟨w54.heap.size, 1, none⟩ = some (.string d1.version) := fun x => Go.Lib.cell?_alloc_some x BXX55k1
    have BXX55k2a : ∀ x, (w57.alloc x).cell? ⟨w54.heap.size, 2, none⟩ = some (.slice v52a2 d1.needs.length v52c2) := fun x => Go.Lib.cell?_alloc_some x BXX55k2
    have BXX55k3a : ∀ x, (w57.alloc x).cell? ⟨w54.heap.size, 3, none⟩ = some (.slice v52a3 d1.tree.length v52c3) := fun x => Go.Lib.cell?_alloc_some x BXX55k3
    go_wp2_with fail
    clear BP0k0a BP1k0a BP1k1a BP1k2a BP1k3a BXS0k0a BXX50k0a BXX55k0a BXX55k1a BXX55k2a BXX55k3a
    clear BP0k0 BP1k0 BP1k1 BP1k2 BP1k3 BXS0k0 BXX50k0 BXX55k0 BXX55k1 BXX55k2 BXX55k3
    have hbx := World.alloc_heap_new w57 (.cells #[.slice v58a0 ((rootSwap_0 d0 d1)).packs.length v58c0] 42)
    have hb : Below w57.heap.size w57 (w57.alloc (.cells #[.slice v58a0 ((rootSwap_0 d0 d1)).packs.length v58c0] 42)) := (Below.refl _ w57).alloc (Nat.le_refl _) _
    have hlt : w57.heap.size < (w57.alloc (.cells #[.slice v58a0 ((rootSwap_0 d0 d1)).packs.length v58c0] 42)).heap.size := by simp
    generalize w57.alloc (.cells #[.slice v58a0 ((rootSwap_0 d0 d1)).packs.length v58c0] 42) = w60 at hbx hb hlt ⊢
    have HLT := hid hlt
    have BXG0 := hid hbx
    clear hbx hlt
    have HORDO := HORD
    have HB9 := hid ((unhid HB8).trans (hb.mono (unhid HB8).size))
    have BP0 := hid ((hb.block _ (by have o1 := unhid HORD; omega)).trans (unhid BP0))
    have BP1 := hid ((hb.block _ (by have o1 := unhid HORD; omega)).trans (unhid BP1))
    have BXS0 := hid ((hb.block _ (by have o1 := unhid HORD; omega)).trans (unhid BXS0))
    have BXX50 := hid ((hb.block _ (by have o1 := unhid HORD; omega)).trans (unhid BXX50))
    have BXX55 := hid ((hb.block _ (by have o1 := unhid HORD; omega)).trans (unhid BXX55))
    have HORD := hid (show w.heap.size + 2 ≤ lo8 ∧ lo8 ≤ hi8 ∧ hi8 ≤ w46.heap.size ∧ w46.heap.size ≤ w49.heap.size ∧ w49.heap.size < w51.heap.size ∧ w51.heap.size ≤ w54.heap.size ∧ w54.heap.size < w56.heap.size ∧ w56.heap.size ≤ w57.heap.size ∧ w57.heap.size ≤ w60.heap.size ∧ w.heap.size + 2 ≤ g8 ∧ g8 < w46.heap.size ∧ (g8 < lo8 ∨ hi8 ≤ g8) from by have o1 := unhid HORD; have o2 := hb.size; omega)
    have S0 := hid (vfresh (unhid S0) hb)
    have X50 := hid (vfresh (unhid X50) hb)
    have X55 := hid (vfresh (unhid X55) hb)
    have G0 := hid (vfresh (unhid G0) hb)
    clear hb HB8
    have HORD := hid (show w.heap.size + 2 ≤ lo8 ∧ lo8 ≤ hi8 ∧ hi8 ≤ w46.heap.size ∧ w46.heap.size ≤ w49.heap.size ∧ w49.heap.size < w51.heap.size ∧ w51.heap.size ≤ w54.heap.size ∧ w54.heap.size < w56.heap.size ∧ w56.heap.size ≤ w57.heap.size ∧ w57.heap.size < w60.heap.size ∧ w60.heap.size ≤ w60.heap.size ∧ w.heap.size + 2 ≤ g8 ∧ g8 < w46.heap.size ∧ (g8 < lo8 ∨ hi8 ≤ g8) from by have o1 := unhid HORDO; have o2 := unhid HORD; have o3 := unhid HLT; omega)
    clear HORDO HLT
    have BP0k0 := cell_arrS (unhid BP0) 0 _ rfl
    have BP1k0 := cell_arrS (unhid BP1) 0 _ rfl
    have BP1k1 := cell_arrS (unhid BP1) 1 _ rfl
    have BP1k2 := cell_arrS (unhid BP1) 2 _ rfl
    have BP1k3 := cell_arrS (unhid BP1) 3 _ rfl
    have BXS0k0 := cell_arrS (unhid BXS0) 0 _ rfl
    have BXX50k0 := cell_arrS (unhid BXX50) 0 _ rfl
    have BXX55k0 := cell_arrS (unhid BXX55) 0 _ rfl
    have BXX55k1 := cell_arrS (unhid BXX55) 1 _ rfl
    have BXX55k2 := cell_arrS (unhid BXX55) 2 _ rfl
    have BXX55k3 := cell_arrS (unhid BXX55) 3 _ rfl
    have BXG0k0 := cell_arrS (unhid BXG0) 0 _ rfl
    go_wp2_with fail
    clear BP0k0 BP1k0 BP1k1 BP1k2 BP1k3 BXS0k0 BXX50k0 BXX55k0 BXX55k1 BXX55k2 BXX55k3 BXG0k0
    refine (veqRoot_v (rootSwap_0 d0 d1) (.agg #[.slice v58a0 ((rootSwap_0 d0 d1)).packs.length v58c0]) (.agg #[.slice v1a0 ((rootSwap_0 d0 d1)).packs.length v1c0]) F59 F2 w60 (unhid R0) (unhid G0) (unhid S0)).mono ?_
    rintro x w61 ⟨rfl, hb⟩
    have HB10 := hid ((unhid HB9).trans (hb.mono (unhid HB9).size))
    have BP0 := hid ((hb.block _ (by have o1 := unhid HORD; omega)).trans (unhid BP0))
    have BP1 := hid ((hb.block _ (by have o1 := unhid HORD; omega)).trans (unhid BP1))
    have BXS0 := hid ((hb.block _ (by have o1 := unhid HORD; omega)).trans (unhid BXS0))
    have BXX50 := hid ((hb.block _ (by have o1 := unhid HORD; omega)).trans (unhid BXX50))
    have BXX55 := hid ((hb.block _ (by have o1 := unhid HORD; omega)).trans (unhid BXX55))
    have BXG0 := hid ((hb.block _ (by have o1 := unhid HORD; omega)).trans (unhid BXG0))
    have HORD := hid (show w.heap.size + 2 ≤ lo8 ∧ lo8 ≤ hi8 ∧ hi8 ≤ w46.heap.size ∧ w46.heap.size ≤ w49.heap.size ∧ w49.heap.size < w51.heap.size ∧ w51.heap.size ≤ w54.heap.size ∧ w54.heap.size < w56.heap.size ∧ w56.heap.size ≤ w57.heap.size ∧ w57.heap.size < w60.heap.size ∧ w60.heap.size ≤ w61.heap.size ∧ w.heap.size + 2 ≤ g8 ∧ g8 < w46.heap.size ∧ (g8 < lo8 ∨ hi8 ≤ g8) from by have o1 := unhid HORD; have o2 := hb.size; omega)
    have S0 := hid (vfresh (unhid S0) hb)
    have X50 := hid (vfresh (unhid X50) hb)
    have X55 := hid (vfresh (unhid X55) hb)
    have G0 := hid (vfresh (unhid G0) hb)
    clear hb HB9
    have BP0k0 := cell_arrS (unhid BP0) 0 _ rfl
    have BP1k0 := cell_arrS (unhid BP1) 0 _ rfl
    have BP1k1 := cell_arrS (unhid BP1) 1 _ rfl
    have BP1k2 := cell_arrS (unhid BP1) 2 _ rfl
    have BP1k3 := cell_arrS (unhid BP1) 3 _ rfl
    have BXS0k0 := cell_arrS (unhid BXS0) 0 _ rfl
    have BXX50k0 := cell_arrS (unhid BXX50) 0 _ rfl
    have BXX55k0 := cell_arrS (unhid BXX55) 0 _ rfl
    have BXX55k1 := cell_arrS (unhid BXX55) 1 _ rfl
    have BXX55k2 := cell_arrS (unhid BXX55) 2 _ rfl
    have BXX55k3 := cell_arrS (unhid BXX55) 3 _ rfl
    have BXG0k0 := cell_arrS (unhid BXG0) 0 _ rfl
    go_wp2_with fail
    clear BP0k0 BP1k0 BP1k1 BP1k2 BP1k3 BXS0k0 BXX50k0 BXX55k0 BXX55k1 BXX55k2 BXX55k3 BXG0k0
    have BXX50k0 : ∀ x : CW (fun w' => Below w61.heap.size w61 w'), x.w.cell? ⟨w49.heap.size, 0, none⟩ = some (.slice v47a0 d0.packs.length v47c0) := fun x => cell_arrS ((x.h.block _ (by have o1 := unhid HORD; omega)).trans (unhid BXX50)) 0 _ rfl
    have BP0k0 : ∀ x : CW (fun w' => Below w61.heap.size w61 w'), x.w.cell? ⟨w.heap.size, 0, none⟩ = some (.slice P0a0 d0.packs.length P0c0) := fun x => cell_arrS ((x.h.block _ (by have o1 := unhid HORD; omega)).trans (unhid BP0)) 0 _ rfl
    have hba : ∀ {q : Prop}, (CW (fun w' => Below w61.heap.size w61 w') → q) ↔ q := CW.all (Below.refl _ w61)
    refine held_begin (fun w' => Below w61.heap.size w61 w') (by kernel_rfl) (drew_belowS _) ?_
    refine held_here [true, true] (by kernel_rfl) (by kernel_rfl) (fun _ _ _ _ _ h => h) (drew_belowS _) ?_
    dsimp only [pick]
    repeat (go_big_quiet_step (fail))
    refine wpQuiet_nil ?_
    clear hba BXX50k0 BP0k0
    have hb := drew_belowS (B := w61.heap.size) w61
    generalize hdr : w61.drew = w62 at hb ⊢
    clear hdr
    have HC := hid hb
    have HB11 := hid ((unhid HB10).trans (hb.mono (unhid HB10).size))
    have BP0 := hid ((hb.block _ (by have o1 := unhid HORD; omega)).trans (unhid BP0))
    have BP1 := hid ((hb.block _ (by have o1 := unhid HORD; omega)).trans (unhid BP1))
    have BXS0 := hid ((hb.block _ (by have o1 := unhid HORD; omega)).trans (unhid BXS0))
    have BXX50 := hid ((hb.block _ (by have o1 := unhid HORD; omega)).trans (unhid BXX50))
    have BXX55 := hid ((hb.block _ (by have o1 := unhid HORD; omega)).trans (unhid BXX55))
    have BXG0 := hid ((hb.block _ (by have o1 := unhid HORD; omega)).trans (unhid BXG0))
    have HORD := hid (show w.heap.size + 2 ≤ lo8 ∧ lo8 ≤ hi8 ∧ hi8 ≤ w46.heap.size ∧ w46.heap.size ≤ w49.heap.size ∧ w49.heap.size < w51.heap.size ∧ w51.heap.size ≤ w54.heap.size ∧ w54.heap.size < w56.heap.size ∧ w56.heap.size ≤ w57.heap.size ∧ w57.heap.size < w60.heap.size ∧ w60.heap.size ≤ w62.heap.size ∧ w.heap.size + 2 ≤ g8 ∧ g8 < w46.heap.size ∧ (g8 < lo8 ∨ hi8 ≤ g8) from by have o1 := unhid HORD; have o2 := hb.size; omega)
    have S0 := hid (vfresh (unhid S0) hb)
    have X50 := hid (vfresh (unhid X50) hb)
    have X55 := hid (vfresh (unhid X55) hb)
    have G0 := hid (vfresh (unhid G0) hb)
    clear hb HB10
    refine held_call 2 19 56 (enters_of Tryz.func19 (by kernel_rfl) rfl) #[.agg #[.slice P0a0 d0.packs.length P0c0]] (by kernel_rfl) (by kernel_rfl) rfl rfl rfl rfl rfl ?_
    refine (vtoRoot_v d0 _ w62 (unhid M0).1 (aggAt.below (unhid HA0) (unhid HB11))).mono ?_
    rintro x w63 ⟨v65, F66, rfl, hown, hfr, hb⟩
    obtain ⟨v65a0, v65c0, hsh⟩ := root_shape hown
    subst hsh
    have HC := hid ((unhid HC).trans (hb.mono (unhid HC).size))
    have HB12 := hid ((unhid HB11).trans (hb.mono (unhid HB11).size))
    have BP0 := hid ((hb.block _ (by have o1 := unhid HORD; omega)).trans (unhid BP0))
    have BP1 := hid ((hb.block _ (by have o1 := unhid HORD; omega)).trans (unhid BP1))
    have BXS0 := hid ((hb.block _ (by have o1 := unhid HORD; omega)).trans (unhid BXS0))
    have BXX50 := hid ((hb.block _ (by have o1 := unhid HORD; omega)).trans (unhid BXX50))
    have BXX55 := hid ((hb.block _ (by have o1 := unhid HORD; omega)).trans (unhid BXX55))
    have BXG0 := hid ((hb.block _ (by have o1 := unhid HORD; omega)).trans (unhid BXG0))
    have HORD := hid (show w.heap.size + 2 ≤ lo8 ∧ lo8 ≤ hi8 ∧ hi8 ≤ w46.heap.size ∧ w46.heap.size ≤ w49.heap.size ∧ w49.heap.size < w51.heap.size ∧ w51.heap.size ≤ w54.heap.size ∧ w54.heap.size < w56.heap.size ∧ w56.heap.size ≤ w57.heap.size ∧ w57.heap.size < w60.heap.size ∧ w60.heap.size ≤ w63.heap.size ∧ w.heap.size + 2 ≤ g8 ∧ g8 < w46.heap.size ∧ (g8 < lo8 ∨ hi8 ≤ g8) from by have o1 := unhid HORD; have o2 := hb.size; omega)
    have S0 := hid (vfresh (unhid S0) hb)
    have X50 := hid (vfresh (unhid X50) hb)
    have X55 := hid (vfresh (unhid X55) hb)
    have G0 := hid (vfresh (unhid G0) hb)
    clear hb HB11
    refine ⟨_, rfl, unhid HC, ?_⟩
    simp only [Act.put, List.setIfInBounds_toArray, List.set_cons_zero, List.set_cons_succ]
    refine held_call 3 21 57 (enters_of Tryz.func21 (by kernel_rfl) rfl) #[(.agg #[.slice v47a0 d0.packs.length v47c0]), .agg #[.slice v65a0 d0.packs.length v65c0]] (by kernel_rfl) (by kernel_rfl) rfl rfl rfl rfl rfl ?_
    refine (veqRoot_v d0 _ _ F48 F66 w63 (unhid M0).2 (unhid X50) hown).mono ?_
    rintro x w64 ⟨rfl, hb⟩
    clear hown hfr
    have HC := hid ((unhid HC).trans (hb.mono (unhid HC).size))
    have HB13 := hid ((unhid HB12).trans (hb.mono (unhid HB12).size))
    have BP0 := hid ((hb.block _ (by have o1 := unhid HORD; omega)).trans (unhid BP0))
    have BP1 := hid ((hb.block _ (by have o1 := unhid HORD; omega)).trans (unhid BP1))
    have BXS0 := hid ((hb.block _ (by have o1 := unhid HORD; omega)).trans (unhid BXS0))
    have BXX50 := hid ((hb.block _ (by have o1 := unhid HORD; omega)).trans (unhid BXX50))
    have BXX55 := hid ((hb.block _ (by have o1 := unhid HORD; omega)).trans (unhid BXX55))
    have BXG0 := hid ((hb.block _ (by have o1 := unhid HORD; omega)).trans (unhid BXG0))
    have HORD := hid (show w.heap.size + 2 ≤ lo8 ∧ lo8 ≤ hi8 ∧ hi8 ≤ w46.heap.size ∧ w46.heap.size ≤ w49.heap.size ∧ w49.heap.size < w51.heap.size ∧ w51.heap.size ≤ w54.heap.size ∧ w54.heap.size < w56.heap.size ∧ w56.heap.size ≤ w57.heap.size ∧ w57.heap.size < w60.heap.size ∧ w60.heap.size ≤ w64.heap.size ∧ w.heap.size + 2 ≤ g8 ∧ g8 < w46.heap.size ∧ (g8 < lo8 ∨ hi8 ≤ g8) from by have o1 := unhid HORD; have o2 := hb.size; omega)
    have S0 := hid (vfresh (unhid S0) hb)
    have X50 := hid (vfresh (unhid X50) hb)
    have X55 := hid (vfresh (unhid X55) hb)
    have G0 := hid (vfresh (unhid G0) hb)
    clear hb HB12
    refine ⟨_, rfl, unhid HC, ?_⟩
    simp only [Act.put, List.setIfInBounds_toArray, List.set_cons_zero, List.set_cons_succ]
    have hba : ∀ {q : Prop}, (CW (fun w' => Below w61.heap.size w61 w') → q) ↔ q := CW.all (Below.refl _ w61)
    refine held_here [false, false, false, false, true] (by kernel_rfl) (by kernel_rfl) (fun _ _ _ _ _ h => h) (unhid HC) ?_
    dsimp only [pick]
    repeat (go_big_quiet_step (fail))
    refine wpQuiet_nil ?_
    refine held_done (by kernel_rfl) ?_
    clear hba HC
    have BP0k0 := cell_arrS (unhid BP0) 0 _ rfl
    have BP1k0 := cell_arrS (unhid BP1) 0 _ rfl
    have BP1k1 := cell_arrS (unhid BP1) 1 _ rfl
    have BP1k2 := cell_arrS (unhid BP1) 2 _ rfl
    have BP1k3 := cell_arrS (unhid BP1) 3 _ rfl
    have BXS0k0 := cell_arrS (unhid BXS0) 0 _ rfl
    have BXX50k0 := cell_arrS (unhid BXX50) 0 _ rfl
    have BXX55k0 := cell_arrS (unhid BXX55) 0 _ rfl
    have BXX55k1 := cell_arrS (unhid BXX55) 1 _ rfl
    have BXX55k2 := cell_arrS (unhid BXX55) 2 _ rfl
    have BXX55k3 := cell_arrS (unhid BXX55) 3 _ rfl
    have BXG0k0 := cell_arrS (unhid BXG0) 0 _ rfl
    go_wp2_with fail
    clear BP0k0 BP1k0 BP1k1 BP1k2 BP1k3 BXS0k0 BXX50k0 BXX55k0 BXX55k1 BXX55k2 BXX55k3 BXG0k0
    have BXX55k0 : ∀ x : CW (fun w' => Below w64.heap.size w64 w'), x.w.cell? ⟨w54.heap.size, 0, none⟩ = some (.string d1.name) := fun x => cell_arrS ((x.h.block _ (by have o1 := unhid HORD; omega)).trans (unhid BXX55)) 0 _ rfl
    have BXX55k1 : ∀ x : CW (fun w' => Below w64.heap.size w64 w'), x.w.cell? ⟨w54.heap.size, 1, none⟩ = some (.string d1.version) := fun x => cell_arrS ((x.h.block _ (by have o1 := unhid HORD; omega)).trans (unhid BXX55)) 1 _ rfl
    have BXX55k2 : ∀ x : CW (fun w' => Below w64.heap.size w64 w'), x.w.cell? ⟨w54.heap.size, 2, none⟩ = some (.slice v52a2 d1.needs.length v52c2) := fun x => cell_arrS ((x.h.block _ (by have o1 := unhid HORD; omega)).trans (unhid BXX55)) 2 _ rfl
    have BXX55k3 : ∀ x : CW (fun w' => Below w64.heap.size w64 w'), x.w.cell? ⟨w54.heap.size, 3, none⟩ = some (.slice v52a3 d1.tree.length v52c3) := fun x => cell_arrS ((x.h.block _ (by have o1 := unhid HORD; omega)).trans (unhid BXX55)) 3 _ rfl
    have BP1k0 : ∀ x : CW (fun w' => Below w64.heap.size w64 w'), x.w.cell? ⟨w.heap.size + 1, 0, none⟩ = some (.string d1.name) := fun x => cell_arrS ((x.h.block _ (by have o1 := unhid HORD; omega)).trans (unhid BP1)) 0 _ rfl
    have BP1k1 : ∀ x : CW (fun w' => Below w64.heap.size w64 w'), x.w.cell? ⟨w.heap.size + 1, 1, none⟩ = some (.string d1.version) := fun x => cell_arrS ((x.h.block _ (by have o1 := unhid HORD; omega)).trans (unhid BP1)) 1 _ rfl
    have BP1k2 : ∀ x : CW (fun w' => Below w64.heap.size w64 w'), x.w.cell? ⟨w.heap.size + 1, 2, none⟩ = some (.slice P1a2 d1.needs.length P1c2) := fun x => cell_arrS ((x.h.block _ (by have o1 := unhid HORD; omega)).trans (unhid BP1)) 2 _ rfl
    have BP1k3 : ∀ x : CW (fun w' => Below w64.heap.size w64 w'), x.w.cell? ⟨w.heap.size + 1, 3, none⟩ = some (.slice P1a3 d1.tree.length P1c3) := fun x => cell_arrS ((x.h.block _ (by have o1 := unhid HORD; omega)).trans (unhid BP1)) 3 _ rfl
    have hba : ∀ {q : Prop}, (CW (fun w' => Below w64.heap.size w64 w') → q) ↔ q := CW.all (Below.refl _ w64)
    refine held_begin (fun w' => Below w64.heap.size w64 w') (by kernel_rfl) (drew_belowS _) ?_
    refine held_here [true, true] (by kernel_rfl) (by kernel_rfl) (fun _ _ _ _ _ h => h) (drew_belowS _) ?_
    dsimp only [pick]
    repeat (go_big_quiet_step (fail))
    refine wpQuiet_nil ?_
    clear hba BXX55k0 BXX55k1 BXX55k2 BXX55k3 BP1k0 BP1k1 BP1k2 BP1k3
    have hb := drew_belowS (B := w64.heap.size) w64
    generalize hdr : w64.drew = w67 at hb ⊢
    clear hdr
    have HC := hid hb
    have HB14 := hid ((unhid HB13).trans (hb.mono (unhid HB13).size))
    have BP0 := hid ((hb.block _ (by have o1 := unhid HORD; omega)).trans (unhid BP0))
    have BP1 := hid ((hb.block _ (by have o1 := unhid HORD; omega)).trans (unhid BP1))
    have BXS0 := hid ((hb.block _ (by have o1 := unhid HORD; omega)).trans (unhid BXS0))
    have BXX50 := hid ((hb.block _ (by have o1 := unhid HORD; omega)).trans (unhid BXX50))
    have BXX55 := hid ((hb.block _ (by have o1 := unhid HORD; omega)).trans (unhid BXX55))
    have BXG0 := hid ((hb.block _ (by have o1 := unhid HORD; omega)).trans (unhid BXG0))
    have HORD := hid (show w.heap.size + 2 ≤ lo8 ∧ lo8 ≤ hi8 ∧ hi8 ≤ w46.heap.size ∧ w46.heap.size ≤ w49.heap.size ∧ w49.heap.size < w51.heap.size ∧ w51.heap.size ≤ w54.heap.size ∧ w54.heap.size < w56.heap.size ∧ w56.heap.size ≤ w57.heap.size ∧ w57.heap.size < w60.heap.size ∧ w60.heap.size ≤ w67.heap.size ∧ w.heap.size + 2 ≤ g8 ∧ g8 < w46.heap.size ∧ (g8 < lo8 ∨ hi8 ≤ g8) from by have o1 := unhid HORD; have o2 := hb.size; omega)
    have S0 := hid (vfresh (unhid S0) hb)
    have X50 := hid (vfresh (unhid X50) hb)
    have X55 := hid (vfresh (unhid X55) hb)
    have G0 := hid (vfresh (unhid G0) hb)
    clear hb HB13
    refine held_call 2 14 61 (enters_of Tryz.func14 (by kernel_rfl) rfl) #[.agg #[.string d1.name, .string d1.version, .slice P1a2 d1.needs.length P1c2, .slice P1a3 d1.tree.length P1c3]] (by kernel_rfl) (by kernel_rfl) rfl rfl rfl rfl rfl ?_
    refine (vtoPack_v d1 _ w67 (unhid M1).1 (aggAt.below (unhid HA1) (unhid HB14))).mono ?_
    rintro x w68 ⟨v70, F71, rfl, hown, hfr, hb⟩
    obtain ⟨v70a2, v70c2, v70a3, v70c3, hsh⟩ := pack_shape hown
    subst hsh
    have HC := hid ((unhid HC).trans (hb.mono (unhid HC).size))
    have HB15 := hid ((unhid HB14).trans (hb.mono (unhid HB14).size))
    have BP0 := hid ((hb.block _ (by have o1 := unhid HORD; omega)).trans (unhid BP0))
    have BP1 := hid ((hb.block _ (by have o1 := unhid HORD; omega)).trans (unhid BP1))
    have BXS0 := hid ((hb.block _ (by have o1 := unhid HORD; omega)).trans (unhid BXS0))
    have BXX50 := hid ((hb.block _ (by have o1 := unhid HORD; omega)).trans (unhid BXX50))
    have BXX55 := hid ((hb.block _ (by have o1 := unhid HORD; omega)).trans (unhid BXX55))
    have BXG0 := hid ((hb.block _ (by have o1 := unhid HORD; omega)).trans (unhid BXG0))
    have HORD := hid (show w.heap.size + 2 ≤ lo8 ∧ lo8 ≤ hi8 ∧ hi8 ≤ w46.heap.size ∧ w46.heap.size ≤ w49.heap.size ∧ w49.heap.size < w51.heap.size ∧ w51.heap.size ≤ w54.heap.size ∧ w54.heap.size < w56.heap.size ∧ w56.heap.size ≤ w57.heap.size ∧ w57.heap.size < w60.heap.size ∧ w60.heap.size ≤ w68.heap.size ∧ w.heap.size + 2 ≤ g8 ∧ g8 < w46.heap.size ∧ (g8 < lo8 ∨ hi8 ≤ g8) from by have o1 := unhid HORD; have o2 := hb.size; omega)
    have S0 := hid (vfresh (unhid S0) hb)
    have X50 := hid (vfresh (unhid X50) hb)
    have X55 := hid (vfresh (unhid X55) hb)
    have G0 := hid (vfresh (unhid G0) hb)
    clear hb HB14
    refine ⟨_, rfl, unhid HC, ?_⟩
    simp only [Act.put, List.setIfInBounds_toArray, List.set_cons_zero, List.set_cons_succ]
    refine held_call 3 16 62 (enters_of Tryz.func16 (by kernel_rfl) rfl) #[(.agg #[.string d1.name, .string d1.version, .slice v52a2 d1.needs.length v52c2, .slice v52a3 d1.tree.length v52c3]), .agg #[.string d1.name, .string d1.version, .slice v70a2 d1.needs.length v70c2, .slice v70a3 d1.tree.length v70c3]] (by kernel_rfl) (by kernel_rfl) rfl rfl rfl rfl rfl ?_
    refine (veqPack_v d1 _ _ F53 F71 w68 (unhid M1).2 (unhid X55) hown).mono ?_
    rintro x w69 ⟨rfl, hb⟩
    clear hown hfr
    have HC := hid ((unhid HC).trans (hb.mono (unhid HC).size))
    have HB16 := hid ((unhid HB15).trans (hb.mono (unhid HB15).size))
    have BP0 := hid ((hb.block _ (by have o1 := unhid HORD; omega)).trans (unhid BP0))
    have BP1 := hid ((hb.block _ (by have o1 := unhid HORD; omega)).trans (unhid BP1))
    have BXS0 := hid ((hb.block _ (by have o1 := unhid HORD; omega)).trans (unhid BXS0))
    have BXX50 := hid ((hb.block _ (by have o1 := unhid HORD; omega)).trans (unhid BXX50))
    have BXX55 := hid ((hb.block _ (by have o1 := unhid HORD; omega)).trans (unhid BXX55))
    have BXG0 := hid ((hb.block _ (by have o1 := unhid HORD; omega)).trans (unhid BXG0))
    have HORD := hid (show w.heap.size + 2 ≤ lo8 ∧ lo8 ≤ hi8 ∧ hi8 ≤ w46.heap.size ∧ w46.heap.size ≤ w49.heap.size ∧ w49.heap.size < w51.heap.size ∧ w51.heap.size ≤ w54.heap.size ∧ w54.heap.size < w56.heap.size ∧ w56.heap.size ≤ w57.heap.size ∧ w57.heap.size < w60.heap.size ∧ w60.heap.size ≤ w69.heap.size ∧ w.heap.size + 2 ≤ g8 ∧ g8 < w46.heap.size ∧ (g8 < lo8 ∨ hi8 ≤ g8) from by have o1 := unhid HORD; have o2 := hb.size; omega)
    have S0 := hid (vfresh (unhid S0) hb)
    have X50 := hid (vfresh (unhid X50) hb)
    have X55 := hid (vfresh (unhid X55) hb)
    have G0 := hid (vfresh (unhid G0) hb)
    clear hb HB15
    refine ⟨_, rfl, unhid HC, ?_⟩
    simp only [Act.put, List.setIfInBounds_toArray, List.set_cons_zero, List.set_cons_succ]
    have hba : ∀ {q : Prop}, (CW (fun w' => Below w64.heap.size w64 w') → q) ↔ q := CW.all (Below.refl _ w64)
    refine held_here [false, false, false, false, true] (by kernel_rfl) (by kernel_rfl) (fun _ _ _ _ _ h => h) (unhid HC) ?_
    dsimp only [pick]
    repeat (go_big_quiet_step (fail))
    refine wpQuiet_nil ?_
    refine held_done (by kernel_rfl) ?_
    clear hba HC
    have BP0k0 := cell_arrS (unhid BP0) 0 _ rfl
    have BP1k0 := cell_arrS (unhid BP1) 0 _ rfl
    have BP1k1 := cell_arrS (unhid BP1) 1 _ rfl
    have BP1k2 := cell_arrS (unhid BP1) 2 _ rfl
    have BP1k3 := cell_arrS (unhid BP1) 3 _ rfl
    have BXS0k0 := cell_arrS (unhid BXS0) 0 _ rfl
    have BXX50k0 := cell_arrS (unhid BXX50) 0 _ rfl
    have BXX55k0 := cell_arrS (unhid BXX55) 0 _ rfl
    have BXX55k1 := cell_arrS (unhid BXX55) 1 _ rfl
    have BXX55k2 := cell_arrS (unhid BXX55) 2 _ rfl
    have BXX55k3 := cell_arrS (unhid BXX55) 3 _ rfl
    have BXG0k0 := cell_arrS (unhid BXG0) 0 _ rfl
    go_wp2_with fail
    clear BP0k0 BP1k0 BP1k1 BP1k2 BP1k3 BXS0k0 BXX50k0 BXX55k0 BXX55k1 BXX55k2 BXX55k3 BXG0k0
    refine (vmarkRoot_v d0 (.agg #[.slice v47a0 d0.packs.length v47c0]) F48 (1) _ (by omega) w69 (by omega) (by skip; have t0 := unhid HCA0; have t1 := unhid HCA1; have t := unhid HCS; omega) (unhid X50)).mono ?_
    rintro x w72 ⟨⟨r73, rfl, r73a, r73b⟩, hown, ho⟩
    have S0 := hid (vonly (unhid S0) ho (fun k hk e => by have b1 := (unhid bS0) k hk; have b2 := (unhid bX50) k e; have o1 := unhid HORD; omega))
    have X55 := hid (vonly (unhid X55) ho (fun k hk e => by have b1 := (unhid bX55) k hk; have b2 := (unhid bX50) k e; have o1 := unhid HORD; omega))
    have G0 := hid (vonly (unhid G0) ho (fun k hk e => by have b1 := (unhid bG0) k hk; have b2 := (unhid bX50) k e; have o1 := unhid HORD; omega))
    have HB17 := hid ((ho.inside (unhid bX50)).below (unhid HB16) (by have o1 := unhid HORD; omega))
    have BP0 := hid ((ho.block _ (by have o1 := unhid HORD; omega) (fun e => by have b2 := (unhid bX50) _ e; have o1 := unhid HORD; omega)).trans (unhid BP0))
    have BP1 := hid ((ho.block _ (by have o1 := unhid HORD; omega) (fun e => by have b2 := (unhid bX50) _ e; have o1 := unhid HORD; omega)).trans (unhid BP1))
    have BXS0 := hid ((ho.block _ (by have o1 := unhid HORD; omega) (fun e => by have b2 := (unhid bX50) _ e; have o1 := unhid HORD; omega)).trans (unhid BXS0))
    have BXX50 := hid ((ho.block _ (by have o1 := unhid HORD; omega) (fun e => by have b2 := (unhid bX50) _ e; have o1 := unhid HORD; omega)).trans (unhid BXX50))
    have BXX55 := hid ((ho.block _ (by have o1 := unhid HORD; omega) (fun e => by have b2 := (unhid bX50) _ e; have o1 := unhid HORD; omega)).trans (unhid BXX55))
    have BXG0 := hid ((ho.block _ (by have o1 := unhid HORD; omega) (fun e => by have b2 := (unhid bX50) _ e; have o1 := unhid HORD; omega)).trans (unhid BXG0))
    have HORD := hid (show w.heap.size + 2 ≤ lo8 ∧ lo8 ≤ hi8 ∧ hi8 ≤ w46.heap.size ∧ w46.heap.size ≤ w49.heap.size ∧ w49.heap.size < w51.heap.size ∧ w51.heap.size ≤ w54.heap.size ∧ w54.heap.size < w56.heap.size ∧ w56.heap.size ≤ w57.heap.size ∧ w57.heap.size < w60.heap.size ∧ w60.heap.size ≤ w72.heap.size ∧ w.heap.size + 2 ≤ g8 ∧ g8 < w46.heap.size ∧ (g8 < lo8 ∨ hi8 ≤ g8) from by have o1 := unhid HORD; have o2 := ho.size; omega)
    have X50 := hid hown
    clear ho hown HB16
    have BP0k0 := cell_arrS (unhid BP0) 0 _ rfl
    have BP1k0 := cell_arrS (unhid BP1) 0 _ rfl
    have BP1k1 := cell_arrS (unhid BP1) 1 _ rfl
    have BP1k2 := cell_arrS (unhid BP1) 2 _ rfl
    have BP1k3 := cell_arrS (unhid BP1) 3 _ rfl
    have BXS0k0 := cell_arrS (unhid BXS0) 0 _ rfl
    have BXX50k0 := cell_arrS (unhid BXX50) 0 _ rfl
    have BXX55k0 := cell_arrS (unhid BXX55) 0 _ rfl
    have BXX55k1 := cell_arrS (unhid BXX55) 1 _ rfl
    have BXX55k2 := cell_arrS (unhid BXX55) 2 _ rfl
    have BXX55k3 := cell_arrS (unhid BXX55) 3 _ rfl
    have BXG0k0 := cell_arrS (unhid BXG0) 0 _ rfl
    go_wp2_with fail
    clear BP0k0 BP1k0 BP1k1 BP1k2 BP1k3 BXS0k0 BXX50k0 BXX55k0 BXX55k1 BXX55k2 BXX55k3 BXG0k0
    refine (vmarkPack_v d1 (.agg #[.string d1.name, .string d1.version, .slice v52a2 d1.needs.length v52c2, .slice v52a3 d1.tree.length v52c3]) F53 (1 + (cntVRoot d0)) _ (by omega) w72 (by omega) (by skip; have t0 := unhid HCA0; have t1 := unhid HCA1; have t := unhid HCS; omega) (unhid X55)).mono ?_
    rintro x w74 ⟨⟨r75, rfl, r75a, r75b⟩, hown, ho⟩
    have S0 := hid (vonly (unhid S0) ho (fun k hk e => by have b1 := (unhid bS0) k hk; have b2 := (unhid bX55) k e; have o1 := unhid HORD; omega))
    have X50 := hid (vonly (unhid X50) ho (fun k hk e => by have b1 := (unhid bX50) k hk; have b2 := (unhid bX55) k e; have o1 := unhid HORD; omega))
    have G0 := hid (vonly (unhid G0) ho (fun k hk e => by have b1 := (unhid bG0) k hk; have b2 := (unhid bX55) k e; have o1 := unhid HORD; omega))
    have HB18 := hid ((ho.inside (unhid bX55)).below (unhid HB17) (by have o1 := unhid HORD; omega))
    have BP0 := hid ((ho.block _ (by have o1 := unhid HORD; omega) (fun e => by have b2 := (unhid bX55) _ e; have o1 := unhid HORD; omega)).trans (unhid BP0))
    have BP1 := hid ((ho.block _ (by have o1 := unhid HORD; omega) (fun e => by have b2 := (unhid bX55) _ e; have o1 := unhid HORD; omega)).trans (unhid BP1))
    have BXS0 := hid ((ho.block _ (by have o1 := unhid HORD; omega) (fun e => by have b2 := (unhid bX55) _ e; have o1 := unhid HORD; omega)).trans (unhid BXS0))
    have BXX50 := hid ((ho.block _ (by have o1 := unhid HORD; omega) (fun e => by have b2 := (unhid bX55) _ e; have o1 := unhid HORD; omega)).trans (unhid BXX50))
    have BXX55 := hid ((ho.block _ (by have o1 := unhid HORD; omega) (fun e => by have b2 := (unhid bX55) _ e; have o1 := unhid HORD; omega)).trans (unhid BXX55))
    have BXG0 := hid ((ho.block _ (by have o1 := unhid HORD; omega) (fun e => by have b2 := (unhid bX55) _ e; have o1 := unhid HORD; omega)).trans (unhid BXG0))
    have HORD := hid (show w.heap.size + 2 ≤ lo8 ∧ lo8 ≤ hi8 ∧ hi8 ≤ w46.heap.size ∧ w46.heap.size ≤ w49.heap.size ∧ w49.heap.size < w51.heap.size ∧ w51.heap.size ≤ w54.heap.size ∧ w54.heap.size < w56.heap.size ∧ w56.heap.size ≤ w57.heap.size ∧ w57.heap.size < w60.heap.size ∧ w60.heap.size ≤ w74.heap.size ∧ w.heap.size + 2 ≤ g8 ∧ g8 < w46.heap.size ∧ (g8 < lo8 ∨ hi8 ≤ g8) from by have o1 := unhid HORD; have o2 := ho.size; omega)
    have X55 := hid hown
    clear ho hown HB17
    clear X50 bX50
    clear X55 bX55
    have hkpos : ¬ (r75 < 0) := by omega
    have BP0k0 := cell_arrS (unhid BP0) 0 _ rfl
    have BP1k0 := cell_arrS (unhid BP1) 0 _ rfl
    have BP1k1 := cell_arrS (unhid BP1) 1 _ rfl
    have BP1k2 := cell_arrS (unhid BP1) 2 _ rfl
    have BP1k3 := cell_arrS (unhid BP1) 3 _ rfl
    have BXS0k0 := cell_arrS (unhid BXS0) 0 _ rfl
    have BXX50k0 := cell_arrS (unhid BXX50) 0 _ rfl
    have BXX55k0 := cell_arrS (unhid BXX55) 0 _ rfl
    have BXX55k1 := cell_arrS (unhid BXX55) 1 _ rfl
    have BXX55k2 := cell_arrS (unhid BXX55) 2 _ rfl
    have BXX55k3 := cell_arrS (unhid BXX55) 3 _ rfl
    have BXG0k0 := cell_arrS (unhid BXG0) 0 _ rfl
    go_wp2_with fail
    clear BP0k0 BP1k0 BP1k1 BP1k2 BP1k3 BXS0k0 BXX50k0 BXX55k0 BXX55k1 BXX55k2 BXX55k3 BXG0k0
    refine (veqRoot_v (rootSwap_0 d0 d1) (.agg #[.slice v58a0 ((rootSwap_0 d0 d1)).packs.length v58c0]) (.agg #[.slice v1a0 ((rootSwap_0 d0 d1)).packs.length v1c0]) F59 F2 w74 (unhid R0) (unhid G0) (unhid S0)).mono ?_
    rintro x w76 ⟨rfl, hb⟩
    have HB19 := hid ((unhid HB18).trans (hb.mono (unhid HB18).size))
    have BP0 := hid ((hb.block _ (by have o1 := unhid HORD; omega)).trans (unhid BP0))
    have BP1 := hid ((hb.block _ (by have o1 := unhid HORD; omega)).trans (unhid BP1))
    have BXS0 := hid ((hb.block _ (by have o1 := unhid HORD; omega)).trans (unhid BXS0))
    have BXX50 := hid ((hb.block _ (by have o1 := unhid HORD; omega)).trans (unhid BXX50))
    have BXX55 := hid ((hb.block _ (by have o1 := unhid HORD; omega)).trans (unhid BXX55))
    have BXG0 := hid ((hb.block _ (by have o1 := unhid HORD; omega)).trans (unhid BXG0))
    have HORD := hid (show w.heap.size + 2 ≤ lo8 ∧ lo8 ≤ hi8 ∧ hi8 ≤ w46.heap.size ∧ w46.heap.size ≤ w49.heap.size ∧ w49.heap.size < w51.heap.size ∧ w51.heap.size ≤ w54.heap.size ∧ w54.heap.size < w56.heap.size ∧ w56.heap.size ≤ w57.heap.size ∧ w57.heap.size < w60.heap.size ∧ w60.heap.size ≤ w76.heap.size ∧ w.heap.size + 2 ≤ g8 ∧ g8 < w46.heap.size ∧ (g8 < lo8 ∨ hi8 ≤ g8) from by have o1 := unhid HORD; have o2 := hb.size; omega)
    have S0 := hid (vfresh (unhid S0) hb)
    have G0 := hid (vfresh (unhid G0) hb)
    clear hb HB18
    clear hkpos
    have BP0k0 := cell_arrS (unhid BP0) 0 _ rfl
    have BP1k0 := cell_arrS (unhid BP1) 0 _ rfl
    have BP1k1 := cell_arrS (unhid BP1) 1 _ rfl
    have BP1k2 := cell_arrS (unhid BP1) 2 _ rfl
    have BP1k3 := cell_arrS (unhid BP1) 3 _ rfl
    have BXS0k0 := cell_arrS (unhid BXS0) 0 _ rfl
    have BXX50k0 := cell_arrS (unhid BXX50) 0 _ rfl
    have BXX55k0 := cell_arrS (unhid BXX55) 0 _ rfl
    have BXX55k1 := cell_arrS (unhid BXX55) 1 _ rfl
    have BXX55k2 := cell_arrS (unhid BXX55) 2 _ rfl
    have BXX55k3 := cell_arrS (unhid BXX55) 3 _ rfl
    have BXG0k0 := cell_arrS (unhid BXG0) 0 _ rfl
    go_wp2_with fail
    clear BP0k0 BP1k0 BP1k1 BP1k2 BP1k3 BXS0k0 BXX50k0 BXX55k0 BXX55k1 BXX55k2 BXX55k3 BXG0k0
    refine (vmarkRoot_v (rootSwap_0 d0 d1) (.agg #[.slice v58a0 ((rootSwap_0 d0 d1)).packs.length v58c0]) F59 (1) _ (by omega) w76 (by omega) (by skip; have t0 := unhid HC0; omega) (unhid G0)).mono ?_
    rintro x w77 ⟨⟨r78, rfl, r78a, r78b⟩, hown, ho⟩
    have S0 := hid (vonly (unhid S0) ho (fun k hk e => by have b1 := (unhid bS0) k hk; have b2 := (unhid bG0) k e; have o1 := unhid HORD; omega))
    have HB20 := hid ((ho.inside (unhid bG0)).below (unhid HB19) (by have o1 := unhid HORD; omega))
    have BP0 := hid ((ho.block _ (by have o1 := unhid HORD; omega) (fun e => by have b2 := (unhid bG0) _ e; have o1 := unhid HORD; omega)).trans (unhid BP0))
    have BP1 := hid ((ho.block _ (by have o1 := unhid HORD; omega) (fun e => by have b2 := (unhid bG0) _ e; have o1 := unhid HORD; omega)).trans (unhid BP1))
    have BXS0 := hid ((ho.block _ (by have o1 := unhid HORD; omega) (fun e => by have b2 := (unhid bG0) _ e; have o1 := unhid HORD; omega)).trans (unhid BXS0))
    have BXX50 := hid ((ho.block _ (by have o1 := unhid HORD; omega) (fun e => by have b2 := (unhid bG0) _ e; have o1 := unhid HORD; omega)).trans (unhid BXX50))
    have BXX55 := hid ((ho.block _ (by have o1 := unhid HORD; omega) (fun e => by have b2 := (unhid bG0) _ e; have o1 := unhid HORD; omega)).trans (unhid BXX55))
    have BXG0 := hid ((ho.block _ (by have o1 := unhid HORD; omega) (fun e => by have b2 := (unhid bG0) _ e; have o1 := unhid HORD; omega)).trans (unhid BXG0))
    have HORD := hid (show w.heap.size + 2 ≤ lo8 ∧ lo8 ≤ hi8 ∧ hi8 ≤ w46.heap.size ∧ w46.heap.size ≤ w49.heap.size ∧ w49.heap.size < w51.heap.size ∧ w51.heap.size ≤ w54.heap.size ∧ w54.heap.size < w56.heap.size ∧ w56.heap.size ≤ w57.heap.size ∧ w57.heap.size < w60.heap.size ∧ w60.heap.size ≤ w77.heap.size ∧ w.heap.size + 2 ≤ g8 ∧ g8 < w46.heap.size ∧ (g8 < lo8 ∨ hi8 ≤ g8) from by have o1 := unhid HORD; have o2 := ho.size; omega)
    have G0 := hid hown
    clear ho hown HB19
    have BP0k0 := cell_arrS (unhid BP0) 0 _ rfl
    have BP1k0 := cell_arrS (unhid BP1) 0 _ rfl
    have BP1k1 := cell_arrS (unhid BP1) 1 _ rfl
    have BP1k2 := cell_arrS (unhid BP1) 2 _ rfl
    have BP1k3 := cell_arrS (unhid BP1) 3 _ rfl
    have BXS0k0 := cell_arrS (unhid BXS0) 0 _ rfl
    have BXX50k0 := cell_arrS (unhid BXX50) 0 _ rfl
    have BXX55k0 := cell_arrS (unhid BXX55) 0 _ rfl
    have BXX55k1 := cell_arrS (unhid BXX55) 1 _ rfl
    have BXX55k2 := cell_arrS (unhid BXX55) 2 _ rfl
    have BXX55k3 := cell_arrS (unhid BXX55) 3 _ rfl
    have BXG0k0 := cell_arrS (unhid BXG0) 0 _ rfl
    go_wp2_with fail
    clear BP0k0 BP1k0 BP1k1 BP1k2 BP1k3 BXS0k0 BXX50k0 BXX55k0 BXX55k1 BXX55k2 BXX55k3 BXG0k0
    refine (vheldRoot_v (rootSwap_0 d0 d1) (.agg #[.slice v58a0 ((rootSwap_0 d0 d1)).packs.length v58c0]) F59 (1) _ (by omega) w77 (by omega) (by skip; have t0 := unhid HC0; omega) (unhid G0)).mono ?_
    rintro x w79 ⟨⟨r80, rfl, r80a, r80b⟩, hb⟩
    have HB21 := hid ((unhid HB20).trans (hb.mono (unhid HB20).size))
    have BP0 := hid ((hb.block _ (by have o1 := unhid HORD; omega)).trans (unhid BP0))
    have BP1 := hid ((hb.block _ (by have o1 := unhid HORD; omega)).trans (unhid BP1))
    have BXS0 := hid ((hb.block _ (by have o1 := unhid HORD; omega)).trans (unhid BXS0))
    have BXX50 := hid ((hb.block _ (by have o1 := unhid HORD; omega)).trans (unhid BXX50))
    have BXX55 := hid ((hb.block _ (by have o1 := unhid HORD; omega)).trans (unhid BXX55))
    have BXG0 := hid ((hb.block _ (by have o1 := unhid HORD; omega)).trans (unhid BXG0))
    have HORD := hid (show w.heap.size + 2 ≤ lo8 ∧ lo8 ≤ hi8 ∧ hi8 ≤ w46.heap.size ∧ w46.heap.size ≤ w49.heap.size ∧ w49.heap.size < w51.heap.size ∧ w51.heap.size ≤ w54.heap.size ∧ w54.heap.size < w56.heap.size ∧ w56.heap.size ≤ w57.heap.size ∧ w57.heap.size < w60.heap.size ∧ w60.heap.size ≤ w79.heap.size ∧ w.heap.size + 2 ≤ g8 ∧ g8 < w46.heap.size ∧ (g8 < lo8 ∨ hi8 ≤ g8) from by have o1 := unhid HORD; have o2 := hb.size; omega)
    have S0 := hid (vfresh (unhid S0) hb)
    have G0 := hid (vfresh (unhid G0) hb)
    clear hb HB20
    have hkposr80 : ¬ (r80 < 0) := by omega
    have hqmr80 : (r80 != r78) = false := by rw [bne_eq_false_iff_eq]; omega
    go_upto_region 31 with fail
    go_cut [15, 16] from 94 to 101 (fun s15 s16 wx => ∃ (g31 lo31 hi31 : Nat) (v81a0 : Option Addr) (v81c0 : Nat) (F82 : List Nat), s15 = .pointer (some ⟨g31, 0, none⟩) ∧ s16 = .int .i64 (rootSwap_1 d0 d1) ∧ Hid (Below w.heap.size w wx) ∧ Hid (wx.heap[w.heap.size]? = some (.cells #[.slice P0a0 d0.packs.length P0c0] 37 (0, 0))) ∧ Hid (wx.heap[w.heap.size + 1]? = some (.cells #[.string d1.name, .string d1.version, .slice P1a2 d1.needs.length P1c2, .slice P1a3 d1.tree.length P1c3] 25 (0, 0))) ∧ Hid (wx.heap[g8]? = some (.cells #[.slice v1a0 ((rootSwap_0 d0 d1)).packs.length v1c0] 42 (0, 0))) ∧ Hid (wx.heap[w49.heap.size]? = some (.cells #[.slice v47a0 d0.packs.length v47c0] 42 (0, 0))) ∧ Hid (wx.heap[w54.heap.size]? = some (.cells #[.string d1.name, .string d1.version, .slice v52a2 d1.needs.length v52c2, .slice v52a3 d1.tree.length v52c3] 31 (0, 0))) ∧ Hid (wx.heap[w57.heap.size]? = some (.cells #[.slice v58a0 ((rootSwap_0 d0 d1)).packs.length v58c0] 42 (0, 0))) ∧ Hid ((aggK rootC).own wx (.agg #[.slice v1a0 ((rootSwap_0 d0 d1)).packs.length v1c0]) (rootSwap_0 d0 d1) F2) ∧ Hid ((aggK rootC).own wx (.agg #[.slice v58a0 ((rootSwap_0 d0 d1)).packs.length v58c0]) (markVRoot (1) (rootSwap_0 d0 d1)) F59) ∧ Hid (wx.heap[g31]? = some (.cells #[.slice v81a0 ((rootSwap_0 d0 d1)).packs.length v81c0] 42 (0, 0))) ∧ Hid ((aggK rootC).own wx (.agg #[.slice v81a0 ((rootSwap_0 d0 d1)).packs.length v81c0]) (rootSwap_0 d0 d1) F82) ∧ Hid (∀ k ∈ F82, lo31 ≤ k ∧ k < hi31) ∧ Hid (w.heap.size + 2 ≤ lo8 ∧ lo8 ≤ hi8 ∧ hi8 ≤ w46.heap.size ∧ w46.heap.size ≤ w49.heap.size ∧ w49.heap.size < w51.heap.size ∧ w51.heap.size ≤ w54.heap.size ∧ w54.heap.size < w56.heap.size ∧ w56.heap.size ≤ w57.heap.size ∧ w57.heap.size < w60.heap.size ∧ w60.heap.size ≤ lo31 ∧ lo31 ≤ hi31 ∧ hi31 ≤ wx.heap.size ∧ w.heap.size + 2 ≤ g8 ∧ g8 < w46.heap.size ∧ (g8 < lo8 ∨ hi8 ≤ g8) ∧ w60.heap.size ≤ g31 ∧ g31 < wx.heap.size ∧ (g31 < lo31 ∨ hi31 ≤ g31)))
    case first =>
      have BP0k0 : ∀ x : CW (fun w' => Below w79.heap.size w79 w'), x.w.cell? ⟨w.heap.size, 0, none⟩ = some (.slice P0a0 d0.packs.length P0c0) := fun x => cell_arrS ((x.h.block _ (by have o1 := unhid HORD; omega)).trans (unhid BP0)) 0 _ rfl
      have BP1k0 : ∀ x : CW (fun w' => Below w79.heap.size w79 w'), x.w.cell? ⟨w.heap.size + 1, 0, none⟩ = some (.string d1.name) := fun x => cell_arrS ((x.h.block _ (by have o1 := unhid HORD; omega)).trans (unhid BP1)) 0 _ rfl
      have BP1k1 : ∀ x : CW (fun w' => Below w79.heap.size w79 w'), x.w.cell? ⟨w.heap.size + 1, 1, none⟩ = some (.string d1.version) := fun x => cell_arrS ((x.h.block _ (by have o1 := unhid HORD; omega)).trans (unhid BP1)) 1 _ rfl
      have BP1k2 : ∀ x : CW (fun w' => Below w79.heap.size w79 w'), x.w.cell? ⟨w.heap.size + 1, 2, none⟩ = some (.slice P1a2 d1.needs.length P1c2) := fun x => cell_arrS ((x.h.block _ (by have o1 := unhid HORD; omega)).trans (unhid BP1)) 2 _ rfl
      have BP1k3 : ∀ x : CW (fun w' => Below w79.heap.size w79 w'), x.w.cell? ⟨w.heap.size + 1, 3, none⟩ = some (.slice P1a3 d1.tree.length P1c3) := fun x => cell_arrS ((x.h.block _ (by have o1 := unhid HORD; omega)).trans (unhid BP1)) 3 _ rfl
      have hba : ∀ {q : Prop}, (CW (fun w' => Below w79.heap.size w79 w') → q) ↔ q := CW.all (Below.refl _ w79)
      refine held_begin (fun w' => Below w79.heap.size w79 w') (by kernel_rfl) (drew_belowS _) ?_
      refine held_here [true, false, true] (by kernel_rfl) (by kernel_rfl) (fun _ _ _ _ _ h => h) (drew_belowS _) ?_
      dsimp only [pick]
      repeat (go_big_quiet_step (fail))
      refine wpQuiet_nil ?_
      clear hba BP0k0 BP1k0 BP1k1 BP1k2 BP1k3
      have HC := hid (drew_belowS (B := w79.heap.size) w79)
      generalize hdr : w79.drew = w83 at HC ⊢
      clear hdr
      have Z84 := hid (unhid HC).size
      refine held_op2 1 8 (by kernel_rfl) (by kernel_rfl) rfl rfl (fun K hK => ?_) (fun K hK => ?_)
      · refine call_op 19 96 (enters_of Tryz.func19 (by kernel_rfl) rfl) #[.agg #[.slice P0a0 d0.packs.length P0c0]] rfl rfl rfl rfl ?_
        refine (vtoRoot_v d0 _ w83 (unhid M0).1 (aggAt.below (unhid HA0) ((unhid HB21).trans ((unhid HC).mono (unhid HB21).size)))).mono ?_
        rintro x w85 ⟨v87, F88, rfl, hown, hfr, hb⟩
        obtain ⟨v87a0, v87c0, hsh⟩ := root_shape hown
        subst hsh
        have Y89 := hid hown
        clear hown hfr
        have Z86 := hid (show w83.heap.size ≤ w85.heap.size from hb.size)
        have HC := hid ((unhid HC).trans (hb.mono (unhid HC).size))
        clear hb
        refine ⟨_, rfl, hK.out _ _ (unhid HC) ?_⟩
        simp only [Act.put, List.setIfInBounds_toArray, List.set_cons_zero, List.set_cons_succ]
        clear hK K
        refine held_op2 3 8 (by kernel_rfl) (by kernel_rfl) rfl rfl (fun K hK => ?_) (fun K hK => ?_)
        · refine call_op 14 98 (enters_of Tryz.func14 (by kernel_rfl) rfl) #[.agg #[.string d1.name, .string d1.version, .slice P1a2 d1.needs.length P1c2, .slice P1a3 d1.tree.length P1c3]] rfl rfl rfl rfl ?_
          refine (vtoPack_v d1 _ w85 (unhid M1).1 (aggAt.below (unhid HA1) ((unhid HB21).trans ((unhid HC).mono (unhid HB21).size)))).mono ?_
          rintro x w90 ⟨v92, F93, rfl, hown, hfr, hb⟩
          obtain ⟨v92a2, v92c2, v92a3, v92c3, hsh⟩ := pack_shape hown
          subst hsh
          have Y89 := hid (vfresh (unhid Y89) hb)
          have Y94 := hid hown
          clear hown hfr
          have Z91 := hid (show w85.heap.size ≤ w90.heap.size from hb.size)
          have HC := hid ((unhid HC).trans (hb.mono (unhid HC).size))
          clear hb
          refine ⟨_, rfl, hK.out _ _ (unhid HC) ?_⟩
          simp only [Act.put, List.setIfInBounds_toArray, List.set_cons_zero, List.set_cons_succ]
          clear hK K
          refine held_op2 4 8 (by kernel_rfl) (by kernel_rfl) rfl rfl (fun K hK => ?_) (fun K hK => ?_)
          · refine call_op 35 99 (enters_of Tryz.func35 (by kernel_rfl) rfl) #[(.agg #[.slice v87a0 d0.packs.length v87c0]), (.agg #[.string d1.name, .string d1.version, .slice v92a2 d1.needs.length v92c2, .slice v92a3 d1.tree.length v92c3])] rfl rfl rfl rfl ?_
            refine (rootSwap_impl d0 d1 (.agg #[.slice v87a0 d0.packs.length v87c0]) F88 (.agg #[.string d1.name, .string d1.version, .slice v92a2 d1.needs.length v92c2, .slice v92a3 d1.tree.length v92c3]) F93 w90 (unhid M0) (unhid M1) (unhid Y89) (unhid Y94)).mono ?_
            rintro x w95 ⟨v81, F82, rfl, ho, hf, hb⟩
            obtain ⟨v81a0, v81c0, hsh⟩ := root_shape ho
            subst hsh
            have HS := hid ho
            have HFR := hid hf
            clear ho hf Y89 Y94
            have Z96 := hid (show w90.heap.size ≤ w95.heap.size from hb.size)
            have HC := hid ((unhid HC).trans (hb.mono (unhid HC).size))
            clear hb
            refine ⟨_, rfl, hK.out _ _ (unhid HC) ?_⟩
            simp only [Act.put, List.setIfInBounds_toArray, List.set_cons_zero, List.set_cons_succ]
            clear hK K
            have hba : ∀ {q : Prop}, (CW (fun w' => Below w79.heap.size w79 w') → q) ↔ q := CW.all (Below.refl _ w79)
            refine held_here [false, false, false, false, false, true, true, true] (by kernel_rfl) (by kernel_rfl) (fun _ _ _ _ _ h => h) (unhid HC) ?_
            dsimp only [pick]
            repeat (go_big_quiet_step (fail))
            refine wpQuiet_nil ?_
            clear hba
            refine held_op 8 (by kernel_rfl) (by kernel_rfl) rfl (fun K hK => ?_)
            go_simp
            have hbx := World.alloc_heap_new w95 (.cells #[.slice none 0 0] 42)
            have hb : Below w95.heap.size w95 (w95.alloc (.cells #[.slice none 0 0] 42)) := (Below.refl _ w95).alloc (Nat.le_refl _) _
            have hlt : w95.heap.size < (w95.alloc (.cells #[.slice none 0 0] 42)).heap.size := by simp
            refine hK.out _ _ ((unhid HC).trans (hb.mono (unhid HC).size)) ?_
            clear hK K
            generalize w95.alloc (.cells #[.slice none 0 0] 42) = w97 at hbx hb hlt ⊢
            have HBX := hid hbx
            have Z98 := hid hlt
            have HS := hid (vfresh (unhid HS) hb)
            have HC := hid ((unhid HC).trans (hb.mono (unhid HC).size))
            clear hbx hb hlt
            obtain ⟨o1, p1⟩ := cell_fz (unhid HBX) 0 _ rfl
            refine held_op 9 (by kernel_rfl) (by kernel_rfl) rfl (fun K hK => ?_)
            go_simp
            refine hK.out _ _ ((unhid HC).setCell (show w79.heap.size ≤ w95.heap.size from by have o0 := unhid HORD; have oZ84 := unhid Z84; have oZ86 := unhid Z86; have oZ91 := unhid Z91; have oZ96 := unhid Z96; have oZ98 := unhid Z98; omega) _) ?_
            clear hK K o1 p1
            have HX := hid (heap_setCell_same w97 (w95.heap.size) 0 _ _ (.slice v81a0 ((rootSwap_0 d0 d1)).packs.length v81c0) (unhid HBX))
            have HS := hid ((aggK rootC).frame (unhid HS) (fun k hk => Below.heap_setCell w97 ⟨w95.heap.size, 0, none⟩ (.slice v81a0 ((rootSwap_0 d0 d1)).packs.length v81c0) k (show k ≠ w95.heap.size from by have o0 := unhid HORD; have oZ84 := unhid Z84; have oZ86 := unhid Z86; have oZ91 := unhid Z91; have oZ96 := unhid Z96; have oZ98 := unhid Z98; have oF := unhid HFR k hk; omega)))
            have HC := hid ((unhid HC).setCell (p := ⟨w95.heap.size, 0, none⟩) (show w79.heap.size ≤ w95.heap.size from by have o0 := unhid HORD; have oZ84 := unhid Z84; have oZ86 := unhid Z86; have oZ91 := unhid Z91; have oZ96 := unhid Z96; have oZ98 := unhid Z98; omega) (.slice v81a0 ((rootSwap_0 d0 d1)).packs.length v81c0))
            have HZF := hid (show (w97.setCell ⟨w95.heap.size, 0, none⟩ (.slice v81a0 ((rootSwap_0 d0 d1)).packs.length v81c0)).heap.size = w97.heap.size by simp)
            have hba : ∀ {q : Prop}, (CW (fun w' => Below w79.heap.size w79 w') → q) ↔ q := CW.all (Below.refl _ w79)
            refine held_here [false, false, false, false, false, false, false, false, false, false, true] (by kernel_rfl) (by kernel_rfl) (fun _ _ _ _ _ h => h) (unhid HC) ?_
            dsimp only [pick]
            repeat (go_big_quiet_step (fail))
            refine wpQuiet_nil ?_
            clear hba
            refine held_done (by kernel_rfl) ?_
            go_wp2_with fail
            go_meet
            case rel => exact ⟨w95.heap.size, w90.heap.size, w95.heap.size, v81a0, v81c0, F82, rfl, rfl, hid ((unhid HB21).trans ((unhid HC).mono (unhid HB21).size)), hid (((unhid HC).block _ (by have o1 := unhid HORD; omega)).trans (unhid BP0)), hid (((unhid HC).block _ (by have o1 := unhid HORD; omega)).trans (unhid BP1)), hid (((unhid HC).block _ (by have o1 := unhid HORD; omega)).trans (unhid BXS0)), hid (((unhid HC).block _ (by have o1 := unhid HORD; omega)).trans (unhid BXX50)), hid (((unhid HC).block _ (by have o1 := unhid HORD; omega)).trans (unhid BXX55)), hid (((unhid HC).block _ (by have o1 := unhid HORD; omega)).trans (unhid BXG0)), hid (vfresh (unhid S0) (unhid HC)), hid (vfresh (unhid G0) (unhid HC)), HX, HS, HFR, hid (by have o0 := unhid HORD; have oZ84 := unhid Z84; have oZ86 := unhid Z86; have oZ91 := unhid Z91; have oZ96 := unhid Z96; have oZ98 := unhid Z98; have oF := unhid HZF; omega)⟩
          · go_simp
            have hbx := World.alloc_heap_new w90 (.cells #[.slice none 0 0] 42)
            have hb : Below w90.heap.size w90 (w90.alloc (.cells #[.slice none 0 0] 42)) := (Below.refl _ w90).alloc (Nat.le_refl _) _
            have hlt : w90.heap.size < (w90.alloc (.cells #[.slice none 0 0] 42)).heap.size := by simp
            refine hK.out _ _ ((unhid HC).trans (hb.mono (unhid HC).size)) ?_
            clear hK K
            generalize w90.alloc (.cells #[.slice none 0 0] 42) = w99 at hbx hb hlt ⊢
            have HBX := hid hbx
            have Z100 := hid hlt
            have Y89 := hid (vfresh (unhid Y89) hb)
            have Y94 := hid (vfresh (unhid Y94) hb)
            have HC := hid ((unhid HC).trans (hb.mono (unhid HC).size))
            clear hbx hb hlt
            refine held_call 4 35 99 (enters_of Tryz.func35 (by kernel_rfl) rfl) #[(.agg #[.slice v87a0 d0.packs.length v87c0]), (.agg #[.string d1.name, .string d1.version, .slice v92a2 d1.needs.length v92c2, .slice v92a3 d1.tree.length v92c3])] (by kernel_rfl) (by kernel_rfl) rfl rfl rfl rfl rfl ?_
            refine (rootSwap_impl d0 d1 (.agg #[.slice v87a0 d0.packs.length v87c0]) F88 (.agg #[.string d1.name, .string d1.version, .slice v92a2 d1.needs.length v92c2, .slice v92a3 d1.tree.length v92c3]) F93 w99 (unhid M0) (unhid M1) (unhid Y89) (unhid Y94)).mono ?_
            rintro x w101 ⟨v81, F82, rfl, ho, hf, hb⟩
            obtain ⟨v81a0, v81c0, hsh⟩ := root_shape ho
            subst hsh
            have HS := hid ho
            have HFR := hid hf
            clear ho hf Y89 Y94
            have HBX := hid ((hb.block _ (by have o0 := unhid HORD; have oZ84 := unhid Z84; have oZ86 := unhid Z86; have oZ91 := unhid Z91; have oZ100 := unhid Z100; omega)).trans (unhid HBX))
            have Z102 := hid (show w99.heap.size ≤ w101.heap.size from hb.size)
            have HC := hid ((unhid HC).trans (hb.mono (unhid HC).size))
            clear hb
            refine ⟨_, rfl, unhid HC, ?_⟩
            simp only [Act.put, List.setIfInBounds_toArray, List.set_cons_zero, List.set_cons_succ]
            have hba : ∀ {q : Prop}, (CW (fun w' => Below w79.heap.size w79 w') → q) ↔ q := CW.all (Below.refl _ w79)
            refine held_here [false, false, false, false, false, true, true, true] (by kernel_rfl) (by kernel_rfl) (fun _ _ _ _ _ h => h) (unhid HC) ?_
            dsimp only [pick]
            repeat (go_big_quiet_step (fail))
            refine wpQuiet_nil ?_
            clear hba
            obtain ⟨o1, p1⟩ := cell_fz (unhid HBX) 0 _ rfl
            refine held_op 9 (by kernel_rfl) (by kernel_rfl) rfl (fun K hK => ?_)
            go_simp
            refine hK.out _ _ ((unhid HC).setCell (show w79.heap.size ≤ w90.heap.size from by have o0 := unhid HORD; have oZ84 := unhid Z84; have oZ86 := unhid Z86; have oZ91 := unhid Z91; have oZ100 := unhid Z100; have oZ102 := unhid Z102; omega) _) ?_
            clear hK K o1 p1
            have HX := hid (heap_setCell_same w101 (w90.heap.size) 0 _ _ (.slice v81a0 ((rootSwap_0 d0 d1)).packs.length v81c0) (unhid HBX))
            have HS := hid ((aggK rootC).frame (unhid HS) (fun k hk => Below.heap_setCell w101 ⟨w90.heap.size, 0, none⟩ (.slice v81a0 ((rootSwap_0 d0 d1)).packs.length v81c0) k (show k ≠ w90.heap.size from by have o0 := unhid HORD; have oZ84 := unhid Z84; have oZ86 := unhid Z86; have oZ91 := unhid Z91; have oZ100 := unhid Z100; have oZ102 := unhid Z102; have oF := unhid HFR k hk; omega)))
            have HC := hid ((unhid HC).setCell (p := ⟨w90.heap.size, 0, none⟩) (show w79.heap.size ≤ w90.heap.size from by have o0 := unhid HORD; have oZ84 := unhid Z84; have oZ86 := unhid Z86; have oZ91 := unhid Z91; have oZ100 := unhid Z100; have oZ102 := unhid Z102; omega) (.slice v81a0 ((rootSwap_0 d0 d1)).packs.length v81c0))
            have HZF := hid (show (w101.setCell ⟨w90.heap.size, 0, none⟩ (.slice v81a0 ((rootSwap_0 d0 d1)).packs.length v81c0)).heap.size = w101.heap.size by simp)
            have hba : ∀ {q : Prop}, (CW (fun w' => Below w79.heap.size w79 w') → q) ↔ q := CW.all (Below.refl _ w79)
            refine held_here [false, false, false, false, false, false, false, false, false, false, true] (by kernel_rfl) (by kernel_rfl) (fun _ _ _ _ _ h => h) (unhid HC) ?_
            dsimp only [pick]
            repeat (go_big_quiet_step (fail))
            refine wpQuiet_nil ?_
            clear hba
            refine held_done (by kernel_rfl) ?_
            go_wp2_with fail
            go_meet
            case rel => exact ⟨w90.heap.size, w99.heap.size, w101.heap.size, v81a0, v81c0, F82, rfl, rfl, hid ((unhid HB21).trans ((unhid HC).mono (unhid HB21).size)), hid (((unhid HC).block _ (by have o1 := unhid HORD; omega)).trans (unhid BP0)), hid (((unhid HC).block _ (by have o1 := unhid HORD; omega)).trans (unhid BP1)), hid (((unhid HC).block _ (by have o1 := unhid HORD; omega)).trans (unhid BXS0)), hid (((unhid HC).block _ (by have o1 := unhid HORD; omega)).trans (unhid BXX50)), hid (((unhid HC).block _ (by have o1 := unhid HORD; omega)).trans (unhid BXX55)), hid (((unhid HC).block _ (by have o1 := unhid HORD; omega)).trans (unhid BXG0)), hid (vfresh (unhid S0) (unhid HC)), hid (vfresh (unhid G0) (unhid HC)), HX, HS, HFR, hid (by have o0 := unhid HORD; have oZ84 := unhid Z84; have oZ86 := unhid Z86; have oZ91 := unhid Z91; have oZ100 := unhid Z100; have oZ102 := unhid Z102; have oF := unhid HZF; omega)⟩
        · go_simp
          have hbx := World.alloc_heap_new w85 (.cells #[.slice none 0 0] 42)
          have hb : Below w85.heap.size w85 (w85.alloc (.cells #[.slice none 0 0] 42)) := (Below.refl _ w85).alloc (Nat.le_refl _) _
          have hlt : w85.heap.size < (w85.alloc (.cells #[.slice none 0 0] 42)).heap.size := by simp
          refine hK.out _ _ ((unhid HC).trans (hb.mono (unhid HC).size)) ?_
          clear hK K
          generalize w85.alloc (.cells #[.slice none 0 0] 42) = w103 at hbx hb hlt ⊢
          have HBX := hid hbx
          have Z104 := hid hlt
          have Y89 := hid (vfresh (unhid Y89) hb)
          have HC := hid ((unhid HC).trans (hb.mono (unhid HC).size))
          clear hbx hb hlt
          refine held_call 3 14 98 (enters_of Tryz.func14 (by kernel_rfl) rfl) #[.agg #[.string d1.name, .string d1.version, .slice P1a2 d1.needs.length P1c2, .slice P1a3 d1.tree.length P1c3]] (by kernel_rfl) (by kernel_rfl) rfl rfl rfl rfl rfl ?_
          refine (vtoPack_v d1 _ w103 (unhid M1).1 (aggAt.below (unhid HA1) ((unhid HB21).trans ((unhid HC).mono (unhid HB21).size)))).mono ?_
          rintro x w105 ⟨v107, F108, rfl, hown, hfr, hb⟩
          obtain ⟨v107a2, v107c2, v107a3, v107c3, hsh⟩ := pack_shape hown
          subst hsh
          have Y89 := hid (vfresh (unhid Y89) hb)
          have Y109 := hid hown
          clear hown hfr
          have HBX := hid ((hb.block _ (by have o0 := unhid HORD; have oZ84 := unhid Z84; have oZ86 := unhid Z86; have oZ104 := unhid Z104; omega)).trans (unhid HBX))
          have Z106 := hid (show w103.heap.size ≤ w105.heap.size from hb.size)
          have HC := hid ((unhid HC).trans (hb.mono (unhid HC).size))
          clear hb
          refine ⟨_, rfl, unhid HC, ?_⟩
          simp only [Act.put, List.setIfInBounds_toArray, List.set_cons_zero, List.set_cons_succ]
          refine held_call 4 35 99 (enters_of Tryz.func35 (by kernel_rfl) rfl) #[(.agg #[.slice v87a0 d0.packs.length v87c0]), (.agg #[.string d1.name, .string d1.version, .slice v107a2 d1.needs.length v107c2, .slice v107a3 d1.tree.length v107c3])] (by kernel_rfl) (by kernel_rfl) rfl rfl rfl rfl rfl ?_
          refine (rootSwap_impl d0 d1 (.agg #[.slice v87a0 d0.packs.length v87c0]) F88 (.agg #[.string d1.name, .string d1.version, .slice v107a2 d1.needs.length v107c2, .slice v107a3 d1.tree.length v107c3]) F108 w105 (unhid M0) (unhid M1) (unhid Y89) (unhid Y109)).mono ?_
          rintro x w110 ⟨v81, F82, rfl, ho, hf, hb⟩
          obtain ⟨v81a0, v81c0, hsh⟩ := root_shape ho
          subst hsh
          have HS := hid ho
          have HFR := hid hf
          clear ho hf Y89 Y109
          have HBX := hid ((hb.block _ (by have o0 := unhid HORD; have oZ84 := unhid Z84; have oZ86 := unhid Z86; have oZ104 := unhid Z104; have oZ106 := unhid Z106; omega)).trans (unhid HBX))
          have Z111 := hid (show w105.heap.size ≤ w110.heap.size from hb.size)
          have HC := hid ((unhid HC).trans (hb.mono (unhid HC).size))
          clear hb
          refine ⟨_, rfl, unhid HC, ?_⟩
          simp only [Act.put, List.setIfInBounds_toArray, List.set_cons_zero, List.set_cons_succ]
          have hba : ∀ {q : Prop}, (CW (fun w' => Below w79.heap.size w79 w') → q) ↔ q := CW.all (Below.refl _ w79)
          refine held_here [false, false, false, false, false, true, true, true] (by kernel_rfl) (by kernel_rfl) (fun _ _ _ _ _ h => h) (unhid HC) ?_
          dsimp only [pick]
          repeat (go_big_quiet_step (fail))
          refine wpQuiet_nil ?_
          clear hba
          obtain ⟨o1, p1⟩ := cell_fz (unhid HBX) 0 _ rfl
          refine held_op 9 (by kernel_rfl) (by kernel_rfl) rfl (fun K hK => ?_)
          go_simp
          refine hK.out _ _ ((unhid HC).setCell (show w79.heap.size ≤ w85.heap.size from by have o0 := unhid HORD; have oZ84 := unhid Z84; have oZ86 := unhid Z86; have oZ104 := unhid Z104; have oZ106 := unhid Z106; have oZ111 := unhid Z111; omega) _) ?_
          clear hK K o1 p1
          have HX := hid (heap_setCell_same w110 (w85.heap.size) 0 _ _ (.slice v81a0 ((rootSwap_0 d0 d1)).packs.length v81c0) (unhid HBX))
          have HS := hid ((aggK rootC).frame (unhid HS) (fun k hk => Below.heap_setCell w110 ⟨w85.heap.size, 0, none⟩ (.slice v81a0 ((rootSwap_0 d0 d1)).packs.length v81c0) k (show k ≠ w85.heap.size from by have o0 := unhid HORD; have oZ84 := unhid Z84; have oZ86 := unhid Z86; have oZ104 := unhid Z104; have oZ106 := unhid Z106; have oZ111 := unhid Z111; have oF := unhid HFR k hk; omega)))
          have HC := hid ((unhid HC).setCell (p := ⟨w85.heap.size, 0, none⟩) (show w79.heap.size ≤ w85.heap.size from by have o0 := unhid HORD; have oZ84 := unhid Z84; have oZ86 := unhid Z86; have oZ104 := unhid Z104; have oZ106 := unhid Z106; have oZ111 := unhid Z111; omega) (.slice v81a0 ((rootSwap_0 d0 d1)).packs.length v81c0))
          have HZF := hid (show (w110.setCell ⟨w85.heap.size, 0, none⟩ (.slice v81a0 ((rootSwap_0 d0 d1)).packs.length v81c0)).heap.size = w110.heap.size by simp)
          have hba : ∀ {q : Prop}, (CW (fun w' => Below w79.heap.size w79 w') → q) ↔ q := CW.all (Below.refl _ w79)
          refine held_here [false, false, false, false, false, false, false, false, false, false, true] (by kernel_rfl) (by kernel_rfl) (fun _ _ _ _ _ h => h) (unhid HC) ?_
          dsimp only [pick]
          repeat (go_big_quiet_step (fail))
          refine wpQuiet_nil ?_
          clear hba
          refine held_done (by kernel_rfl) ?_
          go_wp2_with fail
          go_meet
          case rel => exact ⟨w85.heap.size, w105.heap.size, w110.heap.size, v81a0, v81c0, F82, rfl, rfl, hid ((unhid HB21).trans ((unhid HC).mono (unhid HB21).size)), hid (((unhid HC).block _ (by have o1 := unhid HORD; omega)).trans (unhid BP0)), hid (((unhid HC).block _ (by have o1 := unhid HORD; omega)).trans (unhid BP1)), hid (((unhid HC).block _ (by have o1 := unhid HORD; omega)).trans (unhid BXS0)), hid (((unhid HC).block _ (by have o1 := unhid HORD; omega)).trans (unhid BXX50)), hid (((unhid HC).block _ (by have o1 := unhid HORD; omega)).trans (unhid BXX55)), hid (((unhid HC).block _ (by have o1 := unhid HORD; omega)).trans (unhid BXG0)), hid (vfresh (unhid S0) (unhid HC)), hid (vfresh (unhid G0) (unhid HC)), HX, HS, HFR, hid (by have o0 := unhid HORD; have oZ84 := unhid Z84; have oZ86 := unhid Z86; have oZ104 := unhid Z104; have oZ106 := unhid Z106; have oZ111 := unhid Z111; have oF := unhid HZF; omega)⟩
      · go_simp
        have hbx := World.alloc_heap_new w83 (.cells #[.slice none 0 0] 42)
        have hb : Below w83.heap.size w83 (w83.alloc (.cells #[.slice none 0 0] 42)) := (Below.refl _ w83).alloc (Nat.le_refl _) _
        have hlt : w83.heap.size < (w83.alloc (.cells #[.slice none 0 0] 42)).heap.size := by simp
        refine hK.out _ _ ((unhid HC).trans (hb.mono (unhid HC).size)) ?_
        clear hK K
        generalize w83.alloc (.cells #[.slice none 0 0] 42) = w112 at hbx hb hlt ⊢
        have HBX := hid hbx
        have Z113 := hid hlt
        have HC := hid ((unhid HC).trans (hb.mono (unhid HC).size))
        clear hbx hb hlt
        refine held_call 1 19 96 (enters_of Tryz.func19 (by kernel_rfl) rfl) #[.agg #[.slice P0a0 d0.packs.length P0c0]] (by kernel_rfl) (by kernel_rfl) rfl rfl rfl rfl rfl ?_
        refine (vtoRoot_v d0 _ w112 (unhid M0).1 (aggAt.below (unhid HA0) ((unhid HB21).trans ((unhid HC).mono (unhid HB21).size)))).mono ?_
        rintro x w114 ⟨v116, F117, rfl, hown, hfr, hb⟩
        obtain ⟨v116a0, v116c0, hsh⟩ := root_shape hown
        subst hsh
        have Y118 := hid hown
        clear hown hfr
        have HBX := hid ((hb.block _ (by have o0 := unhid HORD; have oZ84 := unhid Z84; have oZ113 := unhid Z113; omega)).trans (unhid HBX))
        have Z115 := hid (show w112.heap.size ≤ w114.heap.size from hb.size)
        have HC := hid ((unhid HC).trans (hb.mono (unhid HC).size))
        clear hb
        refine ⟨_, rfl, unhid HC, ?_⟩
        simp only [Act.put, List.setIfInBounds_toArray, List.set_cons_zero, List.set_cons_succ]
        refine held_call 3 14 98 (enters_of Tryz.func14 (by kernel_rfl) rfl) #[.agg #[.string d1.name, .string d1.version, .slice P1a2 d1.needs.length P1c2, .slice P1a3 d1.tree.length P1c3]] (by kernel_rfl) (by kernel_rfl) rfl rfl rfl rfl rfl ?_
        refine (vtoPack_v d1 _ w114 (unhid M1).1 (aggAt.below (unhid HA1) ((unhid HB21).trans ((unhid HC).mono (unhid HB21).size)))).mono ?_
        rintro x w119 ⟨v121, F122, rfl, hown, hfr, hb⟩
        obtain ⟨v121a2, v121c2, v121a3, v121c3, hsh⟩ := pack_shape hown
        subst hsh
        have Y118 := hid (vfresh (unhid Y118) hb)
        have Y123 := hid hown
        clear hown hfr
        have HBX := hid ((hb.block _ (by have o0 := unhid HORD; have oZ84 := unhid Z84; have oZ113 := unhid Z113; have oZ115 := unhid Z115; omega)).trans (unhid HBX))
        have Z120 := hid (show w114.heap.size ≤ w119.heap.size from hb.size)
        have HC := hid ((unhid HC).trans (hb.mono (unhid HC).size))
        clear hb
        refine ⟨_, rfl, unhid HC, ?_⟩
        simp only [Act.put, List.setIfInBounds_toArray, List.set_cons_zero, List.set_cons_succ]
        refine held_call 4 35 99 (enters_of Tryz.func35 (by kernel_rfl) rfl) #[(.agg #[.slice v116a0 d0.packs.length v116c0]), (.agg #[.string d1.name, .string d1.version, .slice v121a2 d1.needs.length v121c2, .slice v121a3 d1.tree.length v121c3])] (by kernel_rfl) (by kernel_rfl) rfl rfl rfl rfl rfl ?_
        refine (rootSwap_impl d0 d1 (.agg #[.slice v116a0 d0.packs.length v116c0]) F117 (.agg #[.string d1.name, .string d1.version, .slice v121a2 d1.needs.length v121c2, .slice v121a3 d1.tree.length v121c3]) F122 w119 (unhid M0) (unhid M1) (unhid Y118) (unhid Y123)).mono ?_
        rintro x w124 ⟨v81, F82, rfl, ho, hf, hb⟩
        obtain ⟨v81a0, v81c0, hsh⟩ := root_shape ho
        subst hsh
        have HS := hid ho
        have HFR := hid hf
        clear ho hf Y118 Y123
        have HBX := hid ((hb.block _ (by have o0 := unhid HORD; have oZ84 := unhid Z84; have oZ113 := unhid Z113; have oZ115 := unhid Z115; have oZ120 := unhid Z120; omega)).trans (unhid HBX))
        have Z125 := hid (show w119.heap.size ≤ w124.heap.size from hb.size)
        have HC := hid ((unhid HC).trans (hb.mono (unhid HC).size))
        clear hb
        refine ⟨_, rfl, unhid HC, ?_⟩
        simp only [Act.put, List.setIfInBounds_toArray, List.set_cons_zero, List.set_cons_succ]
        have hba : ∀ {q : Prop}, (CW (fun w' => Below w79.heap.size w79 w') → q) ↔ q := CW.all (Below.refl _ w79)
        refine held_here [false, false, false, false, false, true, true, true] (by kernel_rfl) (by kernel_rfl) (fun _ _ _ _ _ h => h) (unhid HC) ?_
        dsimp only [pick]
        repeat (go_big_quiet_step (fail))
        refine wpQuiet_nil ?_
        clear hba
        obtain ⟨o1, p1⟩ := cell_fz (unhid HBX) 0 _ rfl
        refine held_op 9 (by kernel_rfl) (by kernel_rfl) rfl (fun K hK => ?_)
        go_simp
        refine hK.out _ _ ((unhid HC).setCell (show w79.heap.size ≤ w83.heap.size from by have o0 := unhid HORD; have oZ84 := unhid Z84; have oZ113 := unhid Z113; have oZ115 := unhid Z115; have oZ120 := unhid Z120; have oZ125 := unhid Z125; omega) _) ?_
        clear hK K o1 p1
        have HX := hid (heap_setCell_same w124 (w83.heap.size) 0 _ _ (.slice v81a0 ((rootSwap_0 d0 d1)).packs.length v81c0) (unhid HBX))
        have HS := hid ((aggK rootC).frame (unhid HS) (fun k hk => Below.heap_setCell w124 ⟨w83.heap.size, 0, none⟩ (.slice v81a0 ((rootSwap_0 d0 d1)).packs.length v81c0) k (show k ≠ w83.heap.size from by have o0 := unhid HORD; have oZ84 := unhid Z84; have oZ113 := unhid Z113; have oZ115 := unhid Z115; have oZ120 := unhid Z120; have oZ125 := unhid Z125; have oF := unhid HFR k hk; omega)))
        have HC := hid ((unhid HC).setCell (p := ⟨w83.heap.size, 0, none⟩) (show w79.heap.size ≤ w83.heap.size from by have o0 := unhid HORD; have oZ84 := unhid Z84; have oZ113 := unhid Z113; have oZ115 := unhid Z115; have oZ120 := unhid Z120; have oZ125 := unhid Z125; omega) (.slice v81a0 ((rootSwap_0 d0 d1)).packs.length v81c0))
        have HZF := hid (show (w124.setCell ⟨w83.heap.size, 0, none⟩ (.slice v81a0 ((rootSwap_0 d0 d1)).packs.length v81c0)).heap.size = w124.heap.size by simp)
        have hba : ∀ {q : Prop}, (CW (fun w' => Below w79.heap.size w79 w') → q) ↔ q := CW.all (Below.refl _ w79)
        refine held_here [false, false, false, false, false, false, false, false, false, false, true] (by kernel_rfl) (by kernel_rfl) (fun _ _ _ _ _ h => h) (unhid HC) ?_
        dsimp only [pick]
        repeat (go_big_quiet_step (fail))
        refine wpQuiet_nil ?_
        clear hba
        refine held_done (by kernel_rfl) ?_
        go_wp2_with fail
        go_meet
        case rel => exact ⟨w83.heap.size, w119.heap.size, w124.heap.size, v81a0, v81c0, F82, rfl, rfl, hid ((unhid HB21).trans ((unhid HC).mono (unhid HB21).size)), hid (((unhid HC).block _ (by have o1 := unhid HORD; omega)).trans (unhid BP0)), hid (((unhid HC).block _ (by have o1 := unhid HORD; omega)).trans (unhid BP1)), hid (((unhid HC).block _ (by have o1 := unhid HORD; omega)).trans (unhid BXS0)), hid (((unhid HC).block _ (by have o1 := unhid HORD; omega)).trans (unhid BXX50)), hid (((unhid HC).block _ (by have o1 := unhid HORD; omega)).trans (unhid BXX55)), hid (((unhid HC).block _ (by have o1 := unhid HORD; omega)).trans (unhid BXG0)), hid (vfresh (unhid S0) (unhid HC)), hid (vfresh (unhid G0) (unhid HC)), HX, HS, HFR, hid (by have o0 := unhid HORD; have oZ84 := unhid Z84; have oZ113 := unhid Z113; have oZ115 := unhid Z115; have oZ120 := unhid Z120; have oZ125 := unhid Z125; have oF := unhid HZF; omega)⟩
    case rest =>
      rename World => w126
      obtain ⟨g31, lo31, hi31, v81a0, v81c0, F82, rfl, rfl, HB22, BP0, BP1, BXS0, BXX50, BXX55, BXG0, S0, G0, BXH0, H0, bH0, HORD⟩ := hcut
      clear hkposr80 hqmr80
      have BP0k0 := cell_arrS (unhid BP0) 0 _ rfl
      have BP1k0 := cell_arrS (unhid BP1) 0 _ rfl
      have BP1k1 := cell_arrS (unhid BP1) 1 _ rfl
      have BP1k2 := cell_arrS (unhid BP1) 2 _ rfl
      have BP1k3 := cell_arrS (unhid BP1) 3 _ rfl
      have BXS0k0 := cell_arrS (unhid BXS0) 0 _ rfl
      have BXX50k0 := cell_arrS (unhid BXX50) 0 _ rfl
      have BXX55k0 := cell_arrS (unhid BXX55) 0 _ rfl
      have BXX55k1 := cell_arrS (unhid BXX55) 1 _ rfl
      have BXX55k2 := cell_arrS (unhid BXX55) 2 _ rfl
      have BXX55k3 := cell_arrS (unhid BXX55) 3 _ rfl
      have BXG0k0 := cell_arrS (unhid BXG0) 0 _ rfl
      have BXH0k0 := cell_arrS (unhid BXH0) 0 _ rfl
      go_wp2_with fail
      clear BP0k0 BP1k0 BP1k1 BP1k2 BP1k3 BXS0k0 BXX50k0 BXX55k0 BXX55k1 BXX55k2 BXX55k3 BXG0k0 BXH0k0
      refine (veqRoot_v (rootSwap_0 d0 d1) (.agg #[.slice v81a0 ((rootSwap_0 d0 d1)).packs.length v81c0]) (.agg #[.slice v1a0 ((rootSwap_0 d0 d1)).packs.length v1c0]) F82 F2 w126 (unhid R0) (unhid H0) (unhid S0)).mono ?_
      rintro x w127 ⟨rfl, hb⟩
      have HB23 := hid ((unhid HB22).trans (hb.mono (unhid HB22).size))
      have BP0 := hid ((hb.block _ (by have o1 := unhid HORD; omega)).trans (unhid BP0))
      have BP1 := hid ((hb.block _ (by have o1 := unhid HORD; omega)).trans (unhid BP1))
      have BXS0 := hid ((hb.block _ (by have o1 := unhid HORD; omega)).trans (unhid BXS0))
      have BXX50 := hid ((hb.block _ (by have o1 := unhid HORD; omega)).trans (unhid BXX50))
      have BXX55 := hid ((hb.block _ (by have o1 := unhid HORD; omega)).trans (unhid BXX55))
      have BXG0 := hid ((hb.block _ (by have o1 := unhid HORD; omega)).trans (unhid BXG0))
      have BXH0 := hid ((hb.block _ (by have o1 := unhid HORD; omega)).trans (unhid BXH0))
      have HORD := hid (show w.heap.size + 2 ≤ lo8 ∧ lo8 ≤ hi8 ∧ hi8 ≤ w46.heap.size ∧ w46.heap.size ≤ w49.heap.size ∧ w49.heap.size < w51.heap.size ∧ w51.heap.size ≤ w54.heap.size ∧ w54.heap.size < w56.heap.size ∧ w56.heap.size ≤ w57.heap.size ∧ w57.heap.size < w60.heap.size ∧ w60.heap.size ≤ lo31 ∧ lo31 ≤ hi31 ∧ hi31 ≤ w126.heap.size ∧ w126.heap.size ≤ w127.heap.size ∧ w.heap.size + 2 ≤ g8 ∧ g8 < w46.heap.size ∧ (g8 < lo8 ∨ hi8 ≤ g8) ∧ w60.heap.size ≤ g31 ∧ g31 < w126.heap.size ∧ (g31 < lo31 ∨ hi31 ≤ g31) from by have o1 := unhid HORD; have o2 := hb.size; omega)
      have S0 := hid (vfresh (unhid S0) hb)
      have G0 := hid (vfresh (unhid G0) hb)
      have H0 := hid (vfresh (unhid H0) hb)
      clear hb HB22
      clear H0 bH0
      have BP0k0 := cell_arrS (unhid BP0) 0 _ rfl
      have BP1k0 := cell_arrS (unhid BP1) 0 _ rfl
      have BP1k1 := cell_arrS (unhid BP1) 1 _ rfl
      have BP1k2 := cell_arrS (unhid BP1) 2 _ rfl
      have BP1k3 := cell_arrS (unhid BP1) 3 _ rfl
      have BXS0k0 := cell_arrS (unhid BXS0) 0 _ rfl
      have BXX50k0 := cell_arrS (unhid BXX50) 0 _ rfl
      have BXX55k0 := cell_arrS (unhid BXX55) 0 _ rfl
      have BXX55k1 := cell_arrS (unhid BXX55) 1 _ rfl
      have BXX55k2 := cell_arrS (unhid BXX55) 2 _ rfl
      have BXX55k3 := cell_arrS (unhid BXX55) 3 _ rfl
      have BXG0k0 := cell_arrS (unhid BXG0) 0 _ rfl
      have BXH0k0 := cell_arrS (unhid BXH0) 0 _ rfl
      go_wp2_with fail
      clear BP0k0 BP1k0 BP1k1 BP1k2 BP1k3 BXS0k0 BXX50k0 BXX55k0 BXX55k1 BXX55k2 BXX55k3 BXG0k0 BXH0k0
      refine (vheldRoot_v (rootSwap_0 d0 d1) (.agg #[.slice v58a0 ((rootSwap_0 d0 d1)).packs.length v58c0]) F59 (1) _ (by omega) w127 (by omega) (by skip; have t0 := unhid HC0; omega) (unhid G0)).mono ?_
      rintro x w128 ⟨⟨r129, rfl, r129a, r129b⟩, hb⟩
      have HB24 := hid ((unhid HB23).trans (hb.mono (unhid HB23).size))
      have BP0 := hid ((hb.block _ (by have o1 := unhid HORD; omega)).trans (unhid BP0))
      have BP1 := hid ((hb.block _ (by have o1 := unhid HORD; omega)).trans (unhid BP1))
      have BXS0 := hid ((hb.block _ (by have o1 := unhid HORD; omega)).trans (unhid BXS0))
      have BXX50 := hid ((hb.block _ (by have o1 := unhid HORD; omega)).trans (unhid BXX50))
      have BXX55 := hid ((hb.block _ (by have o1 := unhid HORD; omega)).trans (unhid BXX55))
      have BXG0 := hid ((hb.block _ (by have o1 := unhid HORD; omega)).trans (unhid BXG0))
      have BXH0 := hid ((hb.block _ (by have o1 := unhid HORD; omega)).trans (unhid BXH0))
      have HORD := hid (show w.heap.size + 2 ≤ lo8 ∧ lo8 ≤ hi8 ∧ hi8 ≤ w46.heap.size ∧ w46.heap.size ≤ w49.heap.size ∧ w49.heap.size < w51.heap.size ∧ w51.heap.size ≤ w54.heap.size ∧ w54.heap.size < w56.heap.size ∧ w56.heap.size ≤ w57.heap.size ∧ w57.heap.size < w60.heap.size ∧ w60.heap.size ≤ lo31 ∧ lo31 ≤ hi31 ∧ hi31 ≤ w126.heap.size ∧ w126.heap.size ≤ w128.heap.size ∧ w.heap.size + 2 ≤ g8 ∧ g8 < w46.heap.size ∧ (g8 < lo8 ∨ hi8 ≤ g8) ∧ w60.heap.size ≤ g31 ∧ g31 < w126.heap.size ∧ (g31 < lo31 ∨ hi31 ≤ g31) from by have o1 := unhid HORD; have o2 := hb.size; omega)
      have S0 := hid (vfresh (unhid S0) hb)
      have G0 := hid (vfresh (unhid G0) hb)
      clear hb HB23
      have hkposr129 : ¬ (r129 < 0) := by omega
      have hqmr129 : (r129 != r78) = false := by rw [bne_eq_false_iff_eq]; omega
      have BP0k0 := cell_arrS (unhid BP0) 0 _ rfl
      have BP1k0 := cell_arrS (unhid BP1) 0 _ rfl
      have BP1k1 := cell_arrS (unhid BP1) 1 _ rfl
      have BP1k2 := cell_arrS (unhid BP1) 2 _ rfl
      have BP1k3 := cell_arrS (unhid BP1) 3 _ rfl
      have BXS0k0 := cell_arrS (unhid BXS0) 0 _ rfl
      have BXX50k0 := cell_arrS (unhid BXX50) 0 _ rfl
      have BXX55k0 := cell_arrS (unhid BXX55) 0 _ rfl
      have BXX55k1 := cell_arrS (unhid BXX55) 1 _ rfl
      have BXX55k2 := cell_arrS (unhid BXX55) 2 _ rfl
      have BXX55k3 := cell_arrS (unhid BXX55) 3 _ rfl
      have BXG0k0 := cell_arrS (unhid BXG0) 0 _ rfl
      have BXH0k0 := cell_arrS (unhid BXH0) 0 _ rfl
      go_wp2_with fail
      clear BP0k0 BP1k0 BP1k1 BP1k2 BP1k3 BXS0k0 BXX50k0 BXX55k0 BXX55k1 BXX55k2 BXX55k3 BXG0k0 BXH0k0
      go_ret
      exact ⟨rfl, unhid HB24⟩

set_option maxRecDepth 100000 in
set_option maxHeartbeats 1000000 in
theorem lifted_FnExactRootSwap (os : Os) (started : os.Started) (H : Type) (enc : TypeId × Value → H) :
    ReturnsInHanded {} Tryz.checked os 8 .any (Rows.fnExactRootSwapSpec.pre6 enc Tryz.prog Tryz.f8 Rows.fnExactRootSwapRow.domain false) (Rows.fnExactRootSwapSpec.post enc Tryz.prog Tryz.f8 false true false false) := by
  refine returnsInHanded_of_change (C := Tryz.checked) own started (by kernel_rfl) Tryz.func8
    (ChangeSpec.witness6 (enc := enc) (C := Tryz.checked) false ⟨#[], #[.agg #[.slice none 0 0], .agg #[.string ⟨#[]⟩, .string ⟨#[]⟩, .slice none 0 0, .slice none 0 0]], []⟩ 8 (by kernel_rfl) (by kernel_rfl) (by kernel_rfl) (by kernel_rfl)) ?_
  intro W base args ds gs before hval0 hW _ _
  have hval : ∀ (j : Nat) t v, Tryz.f8.params[j]? = some t → args[j]? = some v → Value.okWide Tryz.prog W .any base t v := hval0
  have hW' := hW
  obtain ⟨p, q, hA0, hV, rfl, hfz, hnd⟩ := hW
  have hA : DataW.TrodAll enc Tryz.prog W 0 (fun _ => true) true Tryz.f8.params.toList args.toList ds p := hA0
  rw [Tryz.params8] at hA hval
  obtain ⟨v0, vs0, d0, ds0, p0, q0, e0, rfl, rfl, h0, r0⟩ := trodAll_cons hA
  obtain ⟨v1, vs1, d1, ds1, p1, q1, e1, rfl, rfl, h1, r1⟩ := trodAll_cons r0
  obtain ⟨rfl, rfl, rfl⟩ := trodAll_nil r1
  obtain rfl : args = #[v0, v1] := by cases args; simp_all
  obtain ⟨rfl, rfl⟩ := trodVars_none hV
  have hlt : ∀ x ∈ p0 ++ p1, x.block < W.heap.size := fun x hx => by simpa using hW'.lt x (by simpa using hx)
  have t0 := h0
  have l0 : ∀ x ∈ p0, x.block < W.heap.size := fun x hx => hlt x (by simp [hx])
  have t1 := h1
  have l1 : ∀ x ∈ p1, x.block < W.heap.size := fun x hx => hlt x (by simp [hx])
  obtain ⟨f0, hat0, hbig0⟩ := root_of (hval 0 37 v0 rfl rfl) h0 l0
  obtain ⟨f1, hat1, hbig1⟩ := pack_of (hval 1 25 v1 rfl rfl) h1 l1
  clear hA0 hval0
  refine (walk_FnExactRootSwap f0 v0 f1 v1 W hbig0 hat0 hbig1 hat1).mono fun e W' ⟨he, hb⟩ => ?_
  subst he
  exact ⟨_, rfl, post_below (gs := []) (pv := []) hW' (fun _ _ _ => trodAll_cons_mk (shut_bool Tryz.underlying4 _) trodAll_mk0) (trodAll_cons_mk (Below.trod laidOut (by kernel_rfl) (of_decide_eq_true (by kernel_rfl)) t0 hb l0) (trodAll_cons_mk (Below.trod laidOut (by kernel_rfl) (of_decide_eq_true (by kernel_rfl)) t1 hb l1) trodAll_mk0)) rfl (by simp) hb⟩

theorem fnExactRootSwap_holds : Rows.FnExactRootSwapSaid :=
  OpenClaim.holds_of_wide 8 Tryz.f8 rfl rfl rfl rfl rfl rfl rfl ⟨rfl, rfl, rfl, rfl, rfl⟩ rfl rfl rfl rfl rfl (by kernel_rfl) Tryz.func8 (by kernel_rfl)
    (of_decide_eq_true (by kernel_rfl)) (by unfold Func.isWrapper; first | (rw [if_pos (by decide +kernel)]; kernel_rfl) | (rw [if_neg (by decide +kernel)]; exact ⟨rfl, rfl⟩))
    (fun os started H enc _ => lifted_FnExactRootSwap os started H enc)
end Go.Proofs.YtlnpjiabdebmgaaGreat

