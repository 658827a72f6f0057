/- For all arguments the program's RootOut answers as its model does; it writes into no argument, and what it answers is its own. -/
import Derived.Test.YtlnpjiabdebmgaaGreatJoin13
import Derived.Test.YtlnpjiabdebmgaaGreatJoin10
namespace Go.Proofs.YtlnpjiabdebmgaaGreat
open Go.ChangeShapes Go.WideShapes Go.ChangeAt Go.RowKit Go.Shelf
open Go.ChangeMaps (open_string shut_string)

set_option maxRecDepth 100000 in
set_option maxHeartbeats 16000000 in
theorem walk_FnExactRootOut (d0 : RootD) (V0 : Value) (d1 : ByteArray) (w : World) (hz0 : (rootC.big d0)) (h0 : aggAt rootC w V0 d0) (hz1 : d1.size ≤ maxLen) :
    Calls Tryz.prog 7 #[V0, .string d1] w fun x w' => x = .returned (.bool true) ∧ Below w.heap.size w w' := by
  have hs1 : d1.size ≤ 9223372036854775807 := hz1
  clear hz1
  obtain ⟨cs0, rfl, hat0⟩ := h0
  obtain ⟨pv0_0, rfl, pr0_0⟩ := rootC_at hat0
  obtain ⟨P0a0, P0c0, rfl, -⟩ := rowAt.slice pr0_0
  have h0 : aggAt rootC w (.agg #[.slice P0a0 d0.packs.length P0c0]) d0 := ⟨_, rfl, hat0⟩
  clear hat0 pr0_0
  have HA0 := hid h0
  have HZ0 := hid hz0
  clear h0 hz0
  by_cases hneg1 : (1048576 : Int) < (d1.size : Int)
  · go_enter Tryz.func7, Tryz.ntmps7
    go_wp2_with fail
    go_ret
    exact ⟨rfl, (Below.refl _ _).alloc (Nat.le_refl _) _⟩
  go_enter Tryz.func7, Tryz.ntmps7
  go_wp2_with fail
  have hbx0 := World.alloc_heap_new w (.cells #[.slice P0a0 d0.packs.length P0c0] 37)
  have hb : Below w.heap.size w (w.alloc (.cells #[.slice P0a0 d0.packs.length P0c0] 37)) := (Below.refl _ w).alloc (Nat.le_refl _) _
  have hszb : w.heap.size + 1 ≤ (w.alloc (.cells #[.slice P0a0 d0.packs.length P0c0] 37)).heap.size := by simp
  generalize (w.alloc (.cells #[.slice P0a0 d0.packs.length P0c0] 37)) = wb at hb hszb hbx0 ⊢
  have HB0 := hid hb
  have HORD := hid hszb
  clear hb hszb
  have BP0 := hid hbx0
  clear hbx0
  refine (vszRoot_v d0 _ 1048576 wb (unhid HZ0) (by omega) (by omega) (aggAt.below (unhid HA0) (unhid HB0))).mono ?_
  rintro x s0 ⟨⟨r0, rfl, hr0a, hr0b⟩, hb⟩
  have HB1 := hid ((unhid HB0).trans (hb.mono (unhid HB0).size))
  have BP0 := hid ((hb.block _ (by have o1 := unhid HORD; omega)).trans (unhid BP0))
  have HORD := hid (show w.heap.size + 1 ≤ s0.heap.size from by have o1 := unhid HORD; have o2 := hb.size; omega)
  clear hb
  clear HB0
  by_cases hneg0 : r0 < 0
  · go_wp2_with fail
    go_ret
    exact ⟨rfl, unhid HB1⟩
  have HT0 := hid (hr0b.resolve_left hneg0)
  have hr0c : 0 ≤ r0 := by omega
  clear hr0b
  have htot : (rootC.sz d0) ≤ 1048576 := by skip; have t0 := unhid HT0; omega
  have M0 := hid (show (rootC.sz d0) ≤ 1048576 ∧ (rootC.big d0) from ⟨by omega, unhid HZ0⟩)
  have M1 := hid (show d1.size ≤ 1048576 by omega)
  have hc0 : (cntVRoot d0) ≤ 8388608 := by have := cntVRoot_le d0; omega
  have HTOT := hid htot
  have SR := hid (rootOut_small d0 d1 (unhid M0) (unhid M1) (unhid HTOT))
  have R0 := hid (unhid SR).1
  have rc0 : (cntVRoot (rootOut_0 d0 d1)) ≤ 9000000 := (unhid SR).2
  clear htot HT0
  have HC0 := hid rc0
  have HCA0 := hid hc0
  clear rc0 hc0
  have hself1 : ((rootOut_1 d0 d1) != (rootOut_1 d0 d1)) = false := by simp
  have BP0k0 := cell_arrS (unhid BP0) 0 _ rfl
  go_wp2_with fail
  clear BP0k0
  clear hr0a hr0c hneg0 hneg1
  refine (vtoRoot_v d0 _ s0 (unhid M0).1 (aggAt.below (unhid HA0) (unhid HB1))).mono ?_
  rintro x w3 ⟨v1, F2, rfl, hown, hfr, hb⟩
  obtain ⟨v1a0, v1c0, hsh⟩ := root_shape hown
  subst hsh
  have HB2 := hid ((unhid HB1).trans (hb.mono (unhid HB1).size))
  have BP0 := hid ((hb.block _ (by have o1 := unhid HORD; omega)).trans (unhid BP0))
  have HORD := hid (show w.heap.size + 1 ≤ w3.heap.size from by have o1 := unhid HORD; have o2 := hb.size; omega)
  clear hb HB1
  have X4 := hid hown
  have bX4 := hid hfr
  clear hown hfr
  have BP0k0 := cell_arrS (unhid BP0) 0 _ rfl
  go_wp2_with fail
  clear BP0k0
  refine (rootOut_spec d0 d1 (.agg #[.slice v1a0 d0.packs.length v1c0]) F2 w3 (unhid M0) (unhid M1) (unhid X4)).mono ?_
  rintro x w5 ⟨v6, F7, rfl, ho0, hf0, hb⟩
  have HORDO := HORD
  have HLOHI := hid (show w3.heap.size ≤ w5.heap.size from hb.size)
  have HB3 := hid ((unhid HB2).trans (hb.mono (unhid HB2).size))
  have BP0 := hid ((hb.block _ (by have o1 := unhid HORD; omega)).trans (unhid BP0))
  have HORD := hid (show w.heap.size + 1 ≤ w5.heap.size from by have o1 := unhid HORD; have o2 := hb.size; omega)
  have X4 := hid (vfresh (unhid X4) hb)
  clear hb HB2
  have HORD := hid (show w.heap.size + 1 ≤ w3.heap.size ∧ w3.heap.size ≤ w5.heap.size ∧ w5.heap.size ≤ w5.heap.size from by have o1 := unhid HORDO; have o2 := unhid HORD; have o3 := unhid HLOHI; omega)
  clear HORDO HLOHI
  have S0 := hid ho0
  have bS0 := hid hf0
  clear ho0 hf0
  clear X4 bX4
  have HSH := hid (root_shape (unhid S0))
  obtain ⟨v6a0, v6c0, hsh⟩ := unhid HSH
  clear HSH
  subst hsh
  have BP0k0 := cell_arrS (unhid BP0) 0 _ rfl
  have BP0k0a : ∀ x, (w5.alloc x).cell? ⟨w.heap.size, 0, none⟩ = some (.slice P0a0 d0.packs.length P0c0) := fun x => Go.Lib.cell?_alloc_some x BP0k0
  go_wp2_with fail
  clear BP0k0a
  clear BP0k0
  have hbx := World.alloc_heap_new w5 (.cells #[.slice v6a0 ((rootOut_0 d0 d1)).packs.length v6c0] 42)
  have hb : Below w5.heap.size w5 (w5.alloc (.cells #[.slice v6a0 ((rootOut_0 d0 d1)).packs.length v6c0] 42)) := (Below.refl _ w5).alloc (Nat.le_refl _) _
  have hlt : w5.heap.size < (w5.alloc (.cells #[.slice v6a0 ((rootOut_0 d0 d1)).packs.length v6c0] 42)).heap.size := by simp
  generalize w5.alloc (.cells #[.slice v6a0 ((rootOut_0 d0 d1)).packs.length v6c0] 42) = w8 at hbx hb hlt ⊢
  have HLT := hid hlt
  have BXS0 := hid hbx
  clear hbx hlt
  have HORDO := HORD
  have HB4 := hid ((unhid HB3).trans (hb.mono (unhid HB3).size))
  have BP0 := hid ((hb.block _ (by have o1 := unhid HORD; omega)).trans (unhid BP0))
  have HORD := hid (show w.heap.size + 1 ≤ w3.heap.size ∧ w3.heap.size ≤ w5.heap.size ∧ w5.heap.size ≤ w8.heap.size from by have o1 := unhid HORD; have o2 := hb.size; omega)
  have S0 := hid (vfresh (unhid S0) hb)
  clear hb HB3
  have HORD := hid (show w.heap.size + 1 ≤ w3.heap.size ∧ w3.heap.size ≤ w5.heap.size ∧ w5.heap.size < w8.heap.size ∧ w8.heap.size ≤ w8.heap.size from by have o1 := unhid HORDO; have o2 := unhid HORD; have o3 := unhid HLT; omega)
  clear HORDO HLT
  have BP0k0 := cell_arrS (unhid BP0) 0 _ rfl
  have BXS0k0 := cell_arrS (unhid BXS0) 0 _ rfl
  go_wp2_with fail
  clear BP0k0 BXS0k0
  refine (vtoRoot_v d0 _ w8 (unhid M0).1 (aggAt.below (unhid HA0) (unhid HB4))).mono ?_
  rintro x w11 ⟨v9, F10, rfl, hown, hfr, hb⟩
  obtain ⟨v9a0, v9c0, hsh⟩ := root_shape hown
  subst hsh
  have HORDO := HORD
  have HLOHI := hid (show w8.heap.size ≤ w11.heap.size from hb.size)
  have HB5 := hid ((unhid HB4).trans (hb.mono (unhid HB4).size))
  have BP0 := hid ((hb.block _ (by have o1 := unhid HORD; omega)).trans (unhid BP0))
  have BXS0 := hid ((hb.block _ (by have o1 := unhid HORD; omega)).trans (unhid BXS0))
  have HORD := hid (show w.heap.size + 1 ≤ w3.heap.size ∧ w3.heap.size ≤ w5.heap.size ∧ w5.heap.size < w8.heap.size ∧ w8.heap.size ≤ w11.heap.size from by have o1 := unhid HORD; have o2 := hb.size; omega)
  have S0 := hid (vfresh (unhid S0) hb)
  clear hb HB4
  have HORD := hid (show w.heap.size + 1 ≤ w3.heap.size ∧ w3.heap.size ≤ w5.heap.size ∧ w5.heap.size < w8.heap.size ∧ w8.heap.size ≤ w11.heap.size ∧ w11.heap.size ≤ w11.heap.size from by have o1 := unhid HORDO; have o2 := unhid HORD; have o3 := unhid HLOHI; omega)
  clear HORDO HLOHI
  have X12 := hid hown
  have bX12 := hid hfr
  clear hown hfr
  have BP0k0 := cell_arrS (unhid BP0) 0 _ rfl
  have BXS0k0 := cell_arrS (unhid BXS0) 0 _ rfl
  have BP0k0a : ∀ x, (w11.alloc x).cell? ⟨w.heap.size, 0, none⟩ = some (.slice P0a0 d0.packs.length P0c0) := fun x => Go.Lib.cell?_alloc_some x BP0k0
  have BXS0k0a : ∀ x, (w11.alloc x).cell? ⟨w5.heap.size, 0, none⟩ = some (.slice v6a0 ((rootOut_0 d0 d1)).packs.length v6c0) := fun x => Go.Lib.cell?_alloc_some x BXS0k0
  go_wp2_with fail
  clear BP0k0a BXS0k0a
  clear BP0k0 BXS0k0
  have hbx := World.alloc_heap_new w11 (.cells #[.slice v9a0 d0.packs.length v9c0] 42)
  have hb : Below w11.heap.size w11 (w11.alloc (.cells #[.slice v9a0 d0.packs.length v9c0] 42)) := (Below.refl _ w11).alloc (Nat.le_refl _) _
  have hlt : w11.heap.size < (w11.alloc (.cells #[.slice v9a0 d0.packs.length v9c0] 42)).heap.size := by simp
  generalize w11.alloc (.cells #[.slice v9a0 d0.packs.length v9c0] 42) = w13 at hbx hb hlt ⊢
  have HLT := hid hlt
  have BXX12 := hid hbx
  clear hbx hlt
  have HORDO := HORD
  have HB6 := hid ((unhid HB5).trans (hb.mono (unhid HB5).size))
  have BP0 := hid ((hb.block _ (by have o1 := unhid HORD; omega)).trans (unhid BP0))
  have BXS0 := hid ((hb.block _ (by have o1 := unhid HORD; omega)).trans (unhid BXS0))
  have HORD := hid (show w.heap.size + 1 ≤ w3.heap.size ∧ w3.heap.size ≤ w5.heap.size ∧ w5.heap.size < w8.heap.size ∧ w8.heap.size ≤ w11.heap.size ∧ w11.heap.size ≤ w13.heap.size from by have o1 := unhid HORD; have o2 := hb.size; omega)
  have S0 := hid (vfresh (unhid S0) hb)
  have X12 := hid (vfresh (unhid X12) hb)
  clear hb HB5
  have HORD := hid (show w.heap.size + 1 ≤ w3.heap.size ∧ w3.heap.size ≤ w5.heap.size ∧ w5.heap.size < w8.heap.size ∧ w8.heap.size ≤ w11.heap.size ∧ w11.heap.size < w13.heap.size ∧ w13.heap.size ≤ w13.heap.size from by have o1 := unhid HORDO; have o2 := unhid HORD; have o3 := unhid HLT; omega)
  clear HORDO HLT
  have BP0k0 := cell_arrS (unhid BP0) 0 _ rfl
  have BXS0k0 := cell_arrS (unhid BXS0) 0 _ rfl
  have BXX12k0 := cell_arrS (unhid BXX12) 0 _ rfl
  go_wp2_with fail
  clear BP0k0 BXS0k0 BXX12k0
  refine (rootOut_impl d0 d1 (.agg #[.slice v9a0 d0.packs.length v9c0]) F10 w13 (unhid M0) (unhid M1) (unhid X12)).mono ?_
  rintro x w14 ⟨v15, F16, rfl, ho0, hf0, hb⟩
  have HORDO := HORD
  have HLOHI := hid (show w13.heap.size ≤ w14.heap.size from hb.size)
  have HB7 := hid ((unhid HB6).trans (hb.mono (unhid HB6).size))
  have BP0 := hid ((hb.block _ (by have o1 := unhid HORD; omega)).trans (unhid BP0))
  have BXS0 := hid ((hb.block _ (by have o1 := unhid HORD; omega)).trans (unhid BXS0))
  have BXX12 := hid ((hb.block _ (by have o1 := unhid HORD; omega)).trans (unhid BXX12))
  have HORD := hid (show w.heap.size + 1 ≤ w3.heap.size ∧ w3.heap.size ≤ w5.heap.size ∧ w5.heap.size < w8.heap.size ∧ w8.heap.size ≤ w11.heap.size ∧ w11.heap.size < w13.heap.size ∧ w13.heap.size ≤ w14.heap.size from by have o1 := unhid HORD; have o2 := hb.size; omega)
  have S0 := hid (vfresh (unhid S0) hb)
  have X12 := hid (vfresh (unhid X12) hb)
  clear hb HB6
  have HORD := hid (show w.heap.size + 1 ≤ w3.heap.size ∧ w3.heap.size ≤ w5.heap.size ∧ w5.heap.size < w8.heap.size ∧ w8.heap.size ≤ w11.heap.size ∧ w11.heap.size < w13.heap.size ∧ w13.heap.size ≤ w14.heap.size ∧ w14.heap.size ≤ w14.heap.size from by have o1 := unhid HORDO; have o2 := unhid HORD; have o3 := unhid HLOHI; omega)
  clear HORDO HLOHI
  have G0 := hid ho0
  have bG0 := hid hf0
  clear ho0 hf0
  have HSH := hid (root_shape (unhid G0))
  obtain ⟨v15a0, v15c0, hsh⟩ := unhid HSH
  clear HSH
  subst hsh
  have BP0k0 := cell_arrS (unhid BP0) 0 _ rfl
  have BXS0k0 := cell_arrS (unhid BXS0) 0 _ rfl
  have BXX12k0 := cell_arrS (unhid BXX12) 0 _ rfl
  have BP0k0a : ∀ x, (w14.alloc x).cell? ⟨w.heap.size, 0, none⟩ = some (.slice P0a0 d0.packs.length P0c0) := fun x => Go.Lib.cell?_alloc_some x BP0k0
  have BXS0k0a : ∀ x, (w14.alloc x).cell? ⟨w5.heap.size, 0, none⟩ = some (.slice v6a0 ((rootOut_0 d0 d1)).packs.length v6c0) := fun x => Go.Lib.cell?_alloc_some x BXS0k0
  have BXX12k0a : ∀ x, (w14.alloc x).cell? ⟨w11.heap.size, 0, none⟩ = some (.slice v9a0 d0.packs.length v9c0) := fun x => Go.Lib.cell?_alloc_some x BXX12k0
  go_wp2_with fail
  clear BP0k0a BXS0k0a BXX12k0a
  clear BP0k0 BXS0k0 BXX12k0
  have hbx := World.alloc_heap_new w14 (.cells #[.slice v15a0 ((rootOut_0 d0 d1)).packs.length v15c0] 42)
  have hb : Below w14.heap.size w14 (w14.alloc (.cells #[.slice v15a0 ((rootOut_0 d0 d1)).packs.length v15c0] 42)) := (Below.refl _ w14).alloc (Nat.le_refl _) _
  have hlt : w14.heap.size < (w14.alloc (.cells #[.slice v15a0 ((rootOut_0 d0 d1)).packs.length v15c0] 42)).heap.size := by simp
  generalize w14.alloc (.cells #[.slice v15a0 ((rootOut_0 d0 d1)).packs.length v15c0] 42) = w17 at hbx hb hlt ⊢
  have HLT := hid hlt
  have BXG0 := hid hbx
  clear hbx hlt
  have HORDO := HORD
  have HB8 := hid ((unhid HB7).trans (hb.mono (unhid HB7).size))
  have BP0 := hid ((hb.block _ (by have o1 := unhid HORD; omega)).trans (unhid BP0))
  have BXS0 := hid ((hb.block _ (by have o1 := unhid HORD; omega)).trans (unhid BXS0))
  have BXX12 := hid ((hb.block _ (by have o1 := unhid HORD; omega)).trans (unhid BXX12))
  have HORD := hid (show w.heap.size + 1 ≤ w3.heap.size ∧ w3.heap.size ≤ w5.heap.size ∧ w5.heap.size < w8.heap.size ∧ w8.heap.size ≤ w11.heap.size ∧ w11.heap.size < w13.heap.size ∧ w13.heap.size ≤ w14.heap.size ∧ w14.heap.size ≤ w17.heap.size from by have o1 := unhid HORD; have o2 := hb.size; omega)
  have S0 := hid (vfresh (unhid S0) hb)
  have X12 := hid (vfresh (unhid X12) hb)
  have G0 := hid (vfresh (unhid G0) hb)
  clear hb HB7
  have HORD := hid (show w.heap.size + 1 ≤ w3.heap.size ∧ w3.heap.size ≤ w5.heap.size ∧ w5.heap.size < w8.heap.size ∧ w8.heap.size ≤ w11.heap.size ∧ w11.heap.size < w13.heap.size ∧ w13.heap.size ≤ w14.heap.size ∧ w14.heap.size < w17.heap.size ∧ w17.heap.size ≤ w17.heap.size from by have o1 := unhid HORDO; have o2 := unhid HORD; have o3 := unhid HLT; omega)
  clear HORDO HLT
  have BP0k0 := cell_arrS (unhid BP0) 0 _ rfl
  have BXS0k0 := cell_arrS (unhid BXS0) 0 _ rfl
  have BXX12k0 := cell_arrS (unhid BXX12) 0 _ rfl
  have BXG0k0 := cell_arrS (unhid BXG0) 0 _ rfl
  go_wp2_with fail
  clear BP0k0 BXS0k0 BXX12k0 BXG0k0
  refine (veqRoot_v (rootOut_0 d0 d1) (.agg #[.slice v15a0 ((rootOut_0 d0 d1)).packs.length v15c0]) (.agg #[.slice v6a0 ((rootOut_0 d0 d1)).packs.length v6c0]) F16 F7 w17 (unhid R0) (unhid G0) (unhid S0)).mono ?_
  rintro x w18 ⟨rfl, hb⟩
  have HB9 := hid ((unhid HB8).trans (hb.mono (unhid HB8).size))
  have BP0 := hid ((hb.block _ (by have o1 := unhid HORD; omega)).trans (unhid BP0))
  have BXS0 := hid ((hb.block _ (by have o1 := unhid HORD; omega)).trans (unhid BXS0))
  have BXX12 := hid ((hb.block _ (by have o1 := unhid HORD; omega)).trans (unhid BXX12))
  have BXG0 := hid ((hb.block _ (by have o1 := unhid HORD; omega)).trans (unhid BXG0))
  have HORD := hid (show w.heap.size + 1 ≤ w3.heap.size ∧ w3.heap.size ≤ w5.heap.size ∧ w5.heap.size < w8.heap.size ∧ w8.heap.size ≤ w11.heap.size ∧ w11.heap.size < w13.heap.size ∧ w13.heap.size ≤ w14.heap.size ∧ w14.heap.size < w17.heap.size ∧ w17.heap.size ≤ w18.heap.size from by have o1 := unhid HORD; have o2 := hb.size; omega)
  have S0 := hid (vfresh (unhid S0) hb)
  have X12 := hid (vfresh (unhid X12) hb)
  have G0 := hid (vfresh (unhid G0) hb)
  clear hb HB8
  have BP0k0 := cell_arrS (unhid BP0) 0 _ rfl
  have BXS0k0 := cell_arrS (unhid BXS0) 0 _ rfl
  have BXX12k0 := cell_arrS (unhid BXX12) 0 _ rfl
  have BXG0k0 := cell_arrS (unhid BXG0) 0 _ rfl
  go_wp2_with fail
  clear BP0k0 BXS0k0 BXX12k0 BXG0k0
  have BXX12k0 : ∀ x : CW (fun w' => Below w18.heap.size w18 w'), x.w.cell? ⟨w11.heap.size, 0, none⟩ = some (.slice v9a0 d0.packs.length v9c0) := fun x => cell_arrS ((x.h.block _ (by have o1 := unhid HORD; omega)).trans (unhid BXX12)) 0 _ rfl
  have BP0k0 : ∀ x : CW (fun w' => Below w18.heap.size w18 w'), x.w.cell? ⟨w.heap.size, 0, none⟩ = some (.slice P0a0 d0.packs.length P0c0) := fun x => cell_arrS ((x.h.block _ (by have o1 := unhid HORD; omega)).trans (unhid BP0)) 0 _ rfl
  have hba : ∀ {q : Prop}, (CW (fun w' => Below w18.heap.size w18 w') → q) ↔ q := CW.all (Below.refl _ w18)
  refine held_begin (fun w' => Below w18.heap.size w18 w') (by kernel_rfl) (drew_belowS _) ?_
  refine held_here [true, true] (by kernel_rfl) (by kernel_rfl) (fun _ _ _ _ _ h => h) (drew_belowS _) ?_
  dsimp only [pick]
  repeat (go_big_quiet_step (fail))
  refine wpQuiet_nil ?_
  clear hba BXX12k0 BP0k0
  have hb := drew_belowS (B := w18.heap.size) w18
  generalize hdr : w18.drew = w19 at hb ⊢
  clear hdr
  have HC := hid hb
  have HB10 := hid ((unhid HB9).trans (hb.mono (unhid HB9).size))
  have BP0 := hid ((hb.block _ (by have o1 := unhid HORD; omega)).trans (unhid BP0))
  have BXS0 := hid ((hb.block _ (by have o1 := unhid HORD; omega)).trans (unhid BXS0))
  have BXX12 := hid ((hb.block _ (by have o1 := unhid HORD; omega)).trans (unhid BXX12))
  have BXG0 := hid ((hb.block _ (by have o1 := unhid HORD; omega)).trans (unhid BXG0))
  have HORD := hid (show w.heap.size + 1 ≤ w3.heap.size ∧ w3.heap.size ≤ w5.heap.size ∧ w5.heap.size < w8.heap.size ∧ w8.heap.size ≤ w11.heap.size ∧ w11.heap.size < w13.heap.size ∧ w13.heap.size ≤ w14.heap.size ∧ w14.heap.size < w17.heap.size ∧ w17.heap.size ≤ w19.heap.size from by have o1 := unhid HORD; have o2 := hb.size; omega)
  have S0 := hid (vfresh (unhid S0) hb)
  have X12 := hid (vfresh (unhid X12) hb)
  have G0 := hid (vfresh (unhid G0) hb)
  clear hb HB9
  refine held_call 2 19 50 (enters_of Tryz.func19 (by kernel_rfl) rfl) #[.agg #[.slice P0a0 d0.packs.length P0c0]] (by kernel_rfl) (by kernel_rfl) rfl rfl rfl rfl rfl ?_
  refine (vtoRoot_v d0 _ w19 (unhid M0).1 (aggAt.below (unhid HA0) (unhid HB10))).mono ?_
  rintro x w20 ⟨v22, F23, rfl, hown, hfr, hb⟩
  obtain ⟨v22a0, v22c0, hsh⟩ := root_shape hown
  subst hsh
  have HC := hid ((unhid HC).trans (hb.mono (unhid HC).size))
  have HB11 := hid ((unhid HB10).trans (hb.mono (unhid HB10).size))
  have BP0 := hid ((hb.block _ (by have o1 := unhid HORD; omega)).trans (unhid BP0))
  have BXS0 := hid ((hb.block _ (by have o1 := unhid HORD; omega)).trans (unhid BXS0))
  have BXX12 := hid ((hb.block _ (by have o1 := unhid HORD; omega)).trans (unhid BXX12))
  have BXG0 := hid ((hb.block _ (by have o1 := unhid HORD; omega)).trans (unhid BXG0))
  have HORD := hid (show w.heap.size + 1 ≤ w3.heap.size ∧ w3.heap.size ≤ w5.heap.size ∧ w5.heap.size < w8.heap.size ∧ w8.heap.size ≤ w11.heap.size ∧ w11.heap.size < w13.heap.size ∧ w13.heap.size ≤ w14.heap.size ∧ w14.heap.size < w17.heap.size ∧ w17.heap.size ≤ w20.heap.size from by have o1 := unhid HORD; have o2 := hb.size; omega)
  have S0 := hid (vfresh (unhid S0) hb)
  have X12 := hid (vfresh (unhid X12) hb)
  have G0 := hid (vfresh (unhid G0) hb)
  clear hb HB10
  refine ⟨_, rfl, unhid HC, ?_⟩
  simp only [Act.put, List.setIfInBounds_toArray, List.set_cons_zero, List.set_cons_succ]
  refine held_call 3 21 51 (enters_of Tryz.func21 (by kernel_rfl) rfl) #[(.agg #[.slice v9a0 d0.packs.length v9c0]), .agg #[.slice v22a0 d0.packs.length v22c0]] (by kernel_rfl) (by kernel_rfl) rfl rfl rfl rfl rfl ?_
  refine (veqRoot_v d0 _ _ F10 F23 w20 (unhid M0).2 (unhid X12) hown).mono ?_
  rintro x w21 ⟨rfl, hb⟩
  clear hown hfr
  have HC := hid ((unhid HC).trans (hb.mono (unhid HC).size))
  have HB12 := hid ((unhid HB11).trans (hb.mono (unhid HB11).size))
  have BP0 := hid ((hb.block _ (by have o1 := unhid HORD; omega)).trans (unhid BP0))
  have BXS0 := hid ((hb.block _ (by have o1 := unhid HORD; omega)).trans (unhid BXS0))
  have BXX12 := hid ((hb.block _ (by have o1 := unhid HORD; omega)).trans (unhid BXX12))
  have BXG0 := hid ((hb.block _ (by have o1 := unhid HORD; omega)).trans (unhid BXG0))
  have HORD := hid (show w.heap.size + 1 ≤ w3.heap.size ∧ w3.heap.size ≤ w5.heap.size ∧ w5.heap.size < w8.heap.size ∧ w8.heap.size ≤ w11.heap.size ∧ w11.heap.size < w13.heap.size ∧ w13.heap.size ≤ w14.heap.size ∧ w14.heap.size < w17.heap.size ∧ w17.heap.size ≤ w21.heap.size from by have o1 := unhid HORD; have o2 := hb.size; omega)
  have S0 := hid (vfresh (unhid S0) hb)
  have X12 := hid (vfresh (unhid X12) hb)
  have G0 := hid (vfresh (unhid G0) hb)
  clear hb HB11
  refine ⟨_, rfl, unhid HC, ?_⟩
  simp only [Act.put, List.setIfInBounds_toArray, List.set_cons_zero, List.set_cons_succ]
  have hba : ∀ {q : Prop}, (CW (fun w' => Below w18.heap.size w18 w') → q) ↔ q := CW.all (Below.refl _ w18)
  refine held_here [false, false, false, false, true] (by kernel_rfl) (by kernel_rfl) (fun _ _ _ _ _ h => h) (unhid HC) ?_
  dsimp only [pick]
  repeat (go_big_quiet_step (fail))
  refine wpQuiet_nil ?_
  refine held_done (by kernel_rfl) ?_
  clear hba HC
  have BP0k0 := cell_arrS (unhid BP0) 0 _ rfl
  have BXS0k0 := cell_arrS (unhid BXS0) 0 _ rfl
  have BXX12k0 := cell_arrS (unhid BXX12) 0 _ rfl
  have BXG0k0 := cell_arrS (unhid BXG0) 0 _ rfl
  go_wp2_with fail
  clear BP0k0 BXS0k0 BXX12k0 BXG0k0
  refine (vmarkRoot_v d0 (.agg #[.slice v9a0 d0.packs.length v9c0]) F10 (1) _ (by omega) w21 (by omega) (by skip; have t0 := unhid HCA0; omega) (unhid X12)).mono ?_
  rintro x w24 ⟨⟨r25, rfl, r25a, r25b⟩, hown, ho⟩
  have S0 := hid (vonly (unhid S0) ho (fun k hk e => by have b1 := (unhid bS0) k hk; have b2 := (unhid bX12) k e; have o1 := unhid HORD; omega))
  have G0 := hid (vonly (unhid G0) ho (fun k hk e => by have b1 := (unhid bG0) k hk; have b2 := (unhid bX12) k e; have o1 := unhid HORD; omega))
  have HB13 := hid ((ho.inside (unhid bX12)).below (unhid HB12) (by have o1 := unhid HORD; omega))
  have BP0 := hid ((ho.block _ (by have o1 := unhid HORD; omega) (fun e => by have b2 := (unhid bX12) _ e; have o1 := unhid HORD; omega)).trans (unhid BP0))
  have BXS0 := hid ((ho.block _ (by have o1 := unhid HORD; omega) (fun e => by have b2 := (unhid bX12) _ e; have o1 := unhid HORD; omega)).trans (unhid BXS0))
  have BXX12 := hid ((ho.block _ (by have o1 := unhid HORD; omega) (fun e => by have b2 := (unhid bX12) _ e; have o1 := unhid HORD; omega)).trans (unhid BXX12))
  have BXG0 := hid ((ho.block _ (by have o1 := unhid HORD; omega) (fun e => by have b2 := (unhid bX12) _ e; have o1 := unhid HORD; omega)).trans (unhid BXG0))
  have HORD := hid (show w.heap.size + 1 ≤ w3.heap.size ∧ w3.heap.size ≤ w5.heap.size ∧ w5.heap.size < w8.heap.size ∧ w8.heap.size ≤ w11.heap.size ∧ w11.heap.size < w13.heap.size ∧ w13.heap.size ≤ w14.heap.size ∧ w14.heap.size < w17.heap.size ∧ w17.heap.size ≤ w24.heap.size from by have o1 := unhid HORD; have o2 := ho.size; omega)
  have X12 := hid hown
  clear ho hown HB12
  clear X12 bX12
  have hkpos : ¬ (r25 < 0) := by omega
  have BP0k0 := cell_arrS (unhid BP0) 0 _ rfl
  have BXS0k0 := cell_arrS (unhid BXS0) 0 _ rfl
  have BXX12k0 := cell_arrS (unhid BXX12) 0 _ rfl
  have BXG0k0 := cell_arrS (unhid BXG0) 0 _ rfl
  go_wp2_with fail
  clear BP0k0 BXS0k0 BXX12k0 BXG0k0
  refine (veqRoot_v (rootOut_0 d0 d1) (.agg #[.slice v15a0 ((rootOut_0 d0 d1)).packs.length v15c0]) (.agg #[.slice v6a0 ((rootOut_0 d0 d1)).packs.length v6c0]) F16 F7 w24 (unhid R0) (unhid G0) (unhid S0)).mono ?_
  rintro x w26 ⟨rfl, hb⟩
  have HB14 := hid ((unhid HB13).trans (hb.mono (unhid HB13).size))
  have BP0 := hid ((hb.block _ (by have o1 := unhid HORD; omega)).trans (unhid BP0))
  have BXS0 := hid ((hb.block _ (by have o1 := unhid HORD; omega)).trans (unhid BXS0))
  have BXX12 := hid ((hb.block _ (by have o1 := unhid HORD; omega)).trans (unhid BXX12))
  have BXG0 := hid ((hb.block _ (by have o1 := unhid HORD; omega)).trans (unhid BXG0))
  have HORD := hid (show w.heap.size + 1 ≤ w3.heap.size ∧ w3.heap.size ≤ w5.heap.size ∧ w5.heap.size < w8.heap.size ∧ w8.heap.size ≤ w11.heap.size ∧ w11.heap.size < w13.heap.size ∧ w13.heap.size ≤ w14.heap.size ∧ w14.heap.size < w17.heap.size ∧ w17.heap.size ≤ w26.heap.size from by have o1 := unhid HORD; have o2 := hb.size; omega)
  have S0 := hid (vfresh (unhid S0) hb)
  have G0 := hid (vfresh (unhid G0) hb)
  clear hb HB13
  clear hkpos
  have BP0k0 := cell_arrS (unhid BP0) 0 _ rfl
  have BXS0k0 := cell_arrS (unhid BXS0) 0 _ rfl
  have BXX12k0 := cell_arrS (unhid BXX12) 0 _ rfl
  have BXG0k0 := cell_arrS (unhid BXG0) 0 _ rfl
  go_wp2_with fail
  clear BP0k0 BXS0k0 BXX12k0 BXG0k0
  refine (vmarkRoot_v (rootOut_0 d0 d1) (.agg #[.slice v15a0 ((rootOut_0 d0 d1)).packs.length v15c0]) F16 (1) _ (by omega) w26 (by omega) (by skip; have t0 := unhid HC0; omega) (unhid G0)).mono ?_
  rintro x w27 ⟨⟨r28, rfl, r28a, r28b⟩, hown, ho⟩
  have S0 := hid (vonly (unhid S0) ho (fun k hk e => by have b1 := (unhid bS0) k hk; have b2 := (unhid bG0) k e; have o1 := unhid HORD; omega))
  have HB15 := hid ((ho.inside (unhid bG0)).below (unhid HB14) (by have o1 := unhid HORD; omega))
  have BP0 := hid ((ho.block _ (by have o1 := unhid HORD; omega) (fun e => by have b2 := (unhid bG0) _ e; have o1 := unhid HORD; omega)).trans (unhid BP0))
  have BXS0 := hid ((ho.block _ (by have o1 := unhid HORD; omega) (fun e => by have b2 := (unhid bG0) _ e; have o1 := unhid HORD; omega)).trans (unhid BXS0))
  have BXX12 := hid ((ho.block _ (by have o1 := unhid HORD; omega) (fun e => by have b2 := (unhid bG0) _ e; have o1 := unhid HORD; omega)).trans (unhid BXX12))
  have BXG0 := hid ((ho.block _ (by have o1 := unhid HORD; omega) (fun e => by have b2 := (unhid bG0) _ e; have o1 := unhid HORD; omega)).trans (unhid BXG0))
  have HORD := hid (show w.heap.size + 1 ≤ w3.heap.size ∧ w3.heap.size ≤ w5.heap.size ∧ w5.heap.size < w8.heap.size ∧ w8.heap.size ≤ w11.heap.size ∧ w11.heap.size < w13.heap.size ∧ w13.heap.size ≤ w14.heap.size ∧ w14.heap.size < w17.heap.size ∧ w17.heap.size ≤ w27.heap.size from by have o1 := unhid HORD; have o2 := ho.size; omega)
  have G0 := hid hown
  clear ho hown HB14
  have BP0k0 := cell_arrS (unhid BP0) 0 _ rfl
  have BXS0k0 := cell_arrS (unhid BXS0) 0 _ rfl
  have BXX12k0 := cell_arrS (unhid BXX12) 0 _ rfl
  have BXG0k0 := cell_arrS (unhid BXG0) 0 _ rfl
  go_wp2_with fail
  clear BP0k0 BXS0k0 BXX12k0 BXG0k0
  refine (vheldRoot_v (rootOut_0 d0 d1) (.agg #[.slice v15a0 ((rootOut_0 d0 d1)).packs.length v15c0]) F16 (1) _ (by omega) w27 (by omega) (by skip; have t0 := unhid HC0; omega) (unhid G0)).mono ?_
  rintro x w29 ⟨⟨r30, rfl, r30a, r30b⟩, hb⟩
  have HB16 := hid ((unhid HB15).trans (hb.mono (unhid HB15).size))
  have BP0 := hid ((hb.block _ (by have o1 := unhid HORD; omega)).trans (unhid BP0))
  have BXS0 := hid ((hb.block _ (by have o1 := unhid HORD; omega)).trans (unhid BXS0))
  have BXX12 := hid ((hb.block _ (by have o1 := unhid HORD; omega)).trans (unhid BXX12))
  have BXG0 := hid ((hb.block _ (by have o1 := unhid HORD; omega)).trans (unhid BXG0))
  have HORD := hid (show w.heap.size + 1 ≤ w3.heap.size ∧ w3.heap.size ≤ w5.heap.size ∧ w5.heap.size < w8.heap.size ∧ w8.heap.size ≤ w11.heap.size ∧ w11.heap.size < w13.heap.size ∧ w13.heap.size ≤ w14.heap.size ∧ w14.heap.size < w17.heap.size ∧ w17.heap.size ≤ w29.heap.size from by have o1 := unhid HORD; have o2 := hb.size; omega)
  have S0 := hid (vfresh (unhid S0) hb)
  have G0 := hid (vfresh (unhid G0) hb)
  clear hb HB15
  have hkposr30 : ¬ (r30 < 0) := by omega
  have hqmr30 : (r30 != r28) = false := by rw [bne_eq_false_iff_eq]; omega
  have BP0k0 := cell_arrS (unhid BP0) 0 _ rfl
  have BXS0k0 := cell_arrS (unhid BXS0) 0 _ rfl
  have BXX12k0 := cell_arrS (unhid BXX12) 0 _ rfl
  have BXG0k0 := cell_arrS (unhid BXG0) 0 _ rfl
  go_wp2_with fail
  clear BP0k0 BXS0k0 BXX12k0 BXG0k0
  refine (vtoRoot_v d0 _ w29 (unhid M0).1 (aggAt.below (unhid HA0) (unhid HB16))).mono ?_
  rintro x w33 ⟨v31, F32, rfl, hown, hfr, hb⟩
  obtain ⟨v31a0, v31c0, hsh⟩ := root_shape hown
  subst hsh
  have HB17 := hid ((unhid HB16).trans (hb.mono (unhid HB16).size))
  have BP0 := hid ((hb.block _ (by have o1 := unhid HORD; omega)).trans (unhid BP0))
  have BXS0 := hid ((hb.block _ (by have o1 := unhid HORD; omega)).trans (unhid BXS0))
  have BXX12 := hid ((hb.block _ (by have o1 := unhid HORD; omega)).trans (unhid BXX12))
  have BXG0 := hid ((hb.block _ (by have o1 := unhid HORD; omega)).trans (unhid BXG0))
  have HORD := hid (show w.heap.size + 1 ≤ w3.heap.size ∧ w3.heap.size ≤ w5.heap.size ∧ w5.heap.size < w8.heap.size ∧ w8.heap.size ≤ w11.heap.size ∧ w11.heap.size < w13.heap.size ∧ w13.heap.size ≤ w14.heap.size ∧ w14.heap.size < w17.heap.size ∧ w17.heap.size ≤ w33.heap.size from by have o1 := unhid HORD; have o2 := hb.size; omega)
  have S0 := hid (vfresh (unhid S0) hb)
  have G0 := hid (vfresh (unhid G0) hb)
  clear hb HB16
  have X34 := hid hown
  have bX34 := hid hfr
  clear hown hfr
  have BP0k0 := cell_arrS (unhid BP0) 0 _ rfl
  have BXS0k0 := cell_arrS (unhid BXS0) 0 _ rfl
  have BXX12k0 := cell_arrS (unhid BXX12) 0 _ rfl
  have BXG0k0 := cell_arrS (unhid BXG0) 0 _ rfl
  go_wp2_with fail
  clear BP0k0 BXS0k0 BXX12k0 BXG0k0
  refine (rootOut_impl d0 d1 (.agg #[.slice v31a0 d0.packs.length v31c0]) F32 w33 (unhid M0) (unhid M1) (unhid X34)).mono ?_
  rintro x w35 ⟨v36, F37, rfl, ho0, hf0, hb⟩
  have HB18 := hid ((unhid HB17).trans (hb.mono (unhid HB17).size))
  have BP0 := hid ((hb.block _ (by have o1 := unhid HORD; omega)).trans (unhid BP0))
  have BXS0 := hid ((hb.block _ (by have o1 := unhid HORD; omega)).trans (unhid BXS0))
  have BXX12 := hid ((hb.block _ (by have o1 := unhid HORD; omega)).trans (unhid BXX12))
  have BXG0 := hid ((hb.block _ (by have o1 := unhid HORD; omega)).trans (unhid BXG0))
  have HORD := hid (show w.heap.size + 1 ≤ w3.heap.size ∧ w3.heap.size ≤ w5.heap.size ∧ w5.heap.size < w8.heap.size ∧ w8.heap.size ≤ w11.heap.size ∧ w11.heap.size < w13.heap.size ∧ w13.heap.size ≤ w14.heap.size ∧ w14.heap.size < w17.heap.size ∧ w17.heap.size ≤ w35.heap.size from by have o1 := unhid HORD; have o2 := hb.size; omega)
  have S0 := hid (vfresh (unhid S0) hb)
  have G0 := hid (vfresh (unhid G0) hb)
  have X34 := hid (vfresh (unhid X34) hb)
  clear hb HB17
  have H0 := hid ho0
  have bH0 := hid hf0
  clear ho0 hf0
  clear X34 bX34
  have HSH := hid (root_shape (unhid H0))
  obtain ⟨v36a0, v36c0, hsh⟩ := unhid HSH
  clear HSH
  subst hsh
  have BP0k0 := cell_arrS (unhid BP0) 0 _ rfl
  have BXS0k0 := cell_arrS (unhid BXS0) 0 _ rfl
  have BXX12k0 := cell_arrS (unhid BXX12) 0 _ rfl
  have BXG0k0 := cell_arrS (unhid BXG0) 0 _ rfl
  have BP0k0a : ∀ x, (w35.alloc x).cell? ⟨w.heap.size, 0, none⟩ = some (.slice P0a0 d0.packs.length P0c0) := fun x => Go.Lib.cell?_alloc_some x BP0k0
  have BXS0k0a : ∀ x, (w35.alloc x).cell? ⟨w5.heap.size, 0, none⟩ = some (.slice v6a0 ((rootOut_0 d0 d1)).packs.length v6c0) := fun x => Go.Lib.cell?_alloc_some x BXS0k0
  have BXX12k0a : ∀ x, (w35.alloc x).cell? ⟨w11.heap.size, 0, none⟩ = some (.slice v9a0 d0.packs.length v9c0) := fun x => Go.Lib.cell?_alloc_some x BXX12k0
  have BXG0k0a : ∀ x, (w35.alloc x).cell? ⟨w14.heap.size, 0, none⟩ = some (.slice v15a0 ((rootOut_0 d0 d1)).packs.length v15c0) := fun x => Go.Lib.cell?_alloc_some x BXG0k0
  go_wp2_with fail
  clear BP0k0a BXS0k0a BXX12k0a BXG0k0a
  clear BP0k0 BXS0k0 BXX12k0 BXG0k0
  have hbx := World.alloc_heap_new w35 (.cells #[.slice v36a0 ((rootOut_0 d0 d1)).packs.length v36c0] 42)
  have hb : Below w35.heap.size w35 (w35.alloc (.cells #[.slice v36a0 ((rootOut_0 d0 d1)).packs.length v36c0] 42)) := (Below.refl _ w35).alloc (Nat.le_refl _) _
  have hlt : w35.heap.size < (w35.alloc (.cells #[.slice v36a0 ((rootOut_0 d0 d1)).packs.length v36c0] 42)).heap.size := by simp
  generalize w35.alloc (.cells #[.slice v36a0 ((rootOut_0 d0 d1)).packs.length v36c0] 42) = w38 at hbx hb hlt ⊢
  have HLT := hid hlt
  have BXH0 := hid hbx
  clear hbx hlt
  have HORDO := HORD
  have HB19 := hid ((unhid HB18).trans (hb.mono (unhid HB18).size))
  have BP0 := hid ((hb.block _ (by have o1 := unhid HORD; omega)).trans (unhid BP0))
  have BXS0 := hid ((hb.block _ (by have o1 := unhid HORD; omega)).trans (unhid BXS0))
  have BXX12 := hid ((hb.block _ (by have o1 := unhid HORD; omega)).trans (unhid BXX12))
  have BXG0 := hid ((hb.block _ (by have o1 := unhid HORD; omega)).trans (unhid BXG0))
  have HORD := hid (show w.heap.size + 1 ≤ w3.heap.size ∧ w3.heap.size ≤ w5.heap.size ∧ w5.heap.size < w8.heap.size ∧ w8.heap.size ≤ w11.heap.size ∧ w11.heap.size < w13.heap.size ∧ w13.heap.size ≤ w14.heap.size ∧ w14.heap.size < w17.heap.size ∧ w17.heap.size ≤ w38.heap.size from by have o1 := unhid HORD; have o2 := hb.size; omega)
  have S0 := hid (vfresh (unhid S0) hb)
  have G0 := hid (vfresh (unhid G0) hb)
  have H0 := hid (vfresh (unhid H0) hb)
  clear hb HB18
  have HORD := hid (show w.heap.size + 1 ≤ w3.heap.size ∧ w3.heap.size ≤ w5.heap.size ∧ w5.heap.size < w8.heap.size ∧ w8.heap.size ≤ w11.heap.size ∧ w11.heap.size < w13.heap.size ∧ w13.heap.size ≤ w14.heap.size ∧ w14.heap.size < w17.heap.size ∧ w17.heap.size ≤ w35.heap.size ∧ w35.heap.size < w38.heap.size ∧ w38.heap.size ≤ w38.heap.size from by have o1 := unhid HORDO; have o2 := unhid HORD; have o3 := unhid HLT; omega)
  clear HORDO HLT
  clear hkposr30 hqmr30
  have BP0k0 := cell_arrS (unhid BP0) 0 _ rfl
  have BXS0k0 := cell_arrS (unhid BXS0) 0 _ rfl
  have BXX12k0 := cell_arrS (unhid BXX12) 0 _ rfl
  have BXG0k0 := cell_arrS (unhid BXG0) 0 _ rfl
  have BXH0k0 := cell_arrS (unhid BXH0) 0 _ rfl
  go_wp2_with fail
  clear BP0k0 BXS0k0 BXX12k0 BXG0k0 BXH0k0
  refine (veqRoot_v (rootOut_0 d0 d1) (.agg #[.slice v36a0 ((rootOut_0 d0 d1)).packs.length v36c0]) (.agg #[.slice v6a0 ((rootOut_0 d0 d1)).packs.length v6c0]) F37 F7 w38 (unhid R0) (unhid H0) (unhid S0)).mono ?_
  rintro x w39 ⟨rfl, hb⟩
  have HB20 := hid ((unhid HB19).trans (hb.mono (unhid HB19).size))
  have BP0 := hid ((hb.block _ (by have o1 := unhid HORD; omega)).trans (unhid BP0))
  have BXS0 := hid ((hb.block _ (by have o1 := unhid HORD; omega)).trans (unhid BXS0))
  have BXX12 := hid ((hb.block _ (by have o1 := unhid HORD; omega)).trans (unhid BXX12))
  have BXG0 := hid ((hb.block _ (by have o1 := unhid HORD; omega)).trans (unhid BXG0))
  have BXH0 := hid ((hb.block _ (by have o1 := unhid HORD; omega)).trans (unhid BXH0))
  have HORD := hid (show w.heap.size + 1 ≤ w3.heap.size ∧ w3.heap.size ≤ w5.heap.size ∧ w5.heap.size < w8.heap.size ∧ w8.heap.size ≤ w11.heap.size ∧ w11.heap.size < w13.heap.size ∧ w13.heap.size ≤ w14.heap.size ∧ w14.heap.size < w17.heap.size ∧ w17.heap.size ≤ w35.heap.size ∧ w35.heap.size < w38.heap.size ∧ w38.heap.size ≤ w39.heap.size from by have o1 := unhid HORD; have o2 := hb.size; omega)
  have S0 := hid (vfresh (unhid S0) hb)
  have G0 := hid (vfresh (unhid G0) hb)
  have H0 := hid (vfresh (unhid H0) hb)
  clear hb HB19
  clear H0 bH0
  have BP0k0 := cell_arrS (unhid BP0) 0 _ rfl
  have BXS0k0 := cell_arrS (unhid BXS0) 0 _ rfl
  have BXX12k0 := cell_arrS (unhid BXX12) 0 _ rfl
  have BXG0k0 := cell_arrS (unhid BXG0) 0 _ rfl
  have BXH0k0 := cell_arrS (unhid BXH0) 0 _ rfl
  go_wp2_with fail
  clear BP0k0 BXS0k0 BXX12k0 BXG0k0 BXH0k0
  refine (vheldRoot_v (rootOut_0 d0 d1) (.agg #[.slice v15a0 ((rootOut_0 d0 d1)).packs.length v15c0]) F16 (1) _ (by omega) w39 (by omega) (by skip; have t0 := unhid HC0; omega) (unhid G0)).mono ?_
  rintro x w40 ⟨⟨r41, rfl, r41a, r41b⟩, hb⟩
  have HB21 := hid ((unhid HB20).trans (hb.mono (unhid HB20).size))
  have BP0 := hid ((hb.block _ (by have o1 := unhid HORD; omega)).trans (unhid BP0))
  have BXS0 := hid ((hb.block _ (by have o1 := unhid HORD; omega)).trans (unhid BXS0))
  have BXX12 := hid ((hb.block _ (by have o1 := unhid HORD; omega)).trans (unhid BXX12))
  have BXG0 := hid ((hb.block _ (by have o1 := unhid HORD; omega)).trans (unhid BXG0))
  have BXH0 := hid ((hb.block _ (by have o1 := unhid HORD; omega)).trans (unhid BXH0))
  have HORD := hid (show w.heap.size + 1 ≤ w3.heap.size ∧ w3.heap.size ≤ w5.heap.size ∧ w5.heap.size < w8.heap.size ∧ w8.heap.size ≤ w11.heap.size ∧ w11.heap.size < w13.heap.size ∧ w13.heap.size ≤ w14.heap.size ∧ w14.heap.size < w17.heap.size ∧ w17.heap.size ≤ w35.heap.size ∧ w35.heap.size < w38.heap.size ∧ w38.heap.size ≤ w40.heap.size from by have o1 := unhid HORD; have o2 := hb.size; omega)
  have S0 := hid (vfresh (unhid S0) hb)
  have G0 := hid (vfresh (unhid G0) hb)
  clear hb HB20
  have hkposr41 : ¬ (r41 < 0) := by omega
  have hqmr41 : (r41 != r28) = false := by rw [bne_eq_false_iff_eq]; omega
  have BP0k0 := cell_arrS (unhid BP0) 0 _ rfl
  have BXS0k0 := cell_arrS (unhid BXS0) 0 _ rfl
  have BXX12k0 := cell_arrS (unhid BXX12) 0 _ rfl
  have BXG0k0 := cell_arrS (unhid BXG0) 0 _ rfl
  have BXH0k0 := cell_arrS (unhid BXH0) 0 _ rfl
  go_wp2_with fail
  clear BP0k0 BXS0k0 BXX12k0 BXG0k0 BXH0k0
  go_ret
  exact ⟨rfl, unhid HB21⟩

set_option maxRecDepth 100000 in
set_option maxHeartbeats 1000000 in
theorem lifted_FnExactRootOut (os : Os) (started : os.Started) (H : Type) (enc : TypeId × Value → H) :
    ReturnsInHanded {} Tryz.checked os 7 .any (Rows.fnExactRootOutSpec.pre6 enc Tryz.prog Tryz.f7 Rows.fnExactRootOutRow.domain false) (Rows.fnExactRootOutSpec.post enc Tryz.prog Tryz.f7 false true false false) := by
  refine returnsInHanded_of_change (C := Tryz.checked) own started (by kernel_rfl) Tryz.func7
    (ChangeSpec.witness6 (enc := enc) (C := Tryz.checked) false ⟨#[], #[.agg #[.slice none 0 0], .string ⟨#[]⟩], []⟩ 8 (by kernel_rfl) (by kernel_rfl) (by kernel_rfl) (by kernel_rfl)) ?_
  intro W base args ds gs before hval0 hW _ _
  have hval : ∀ (j : Nat) t v, Tryz.f7.params[j]? = some t → args[j]? = some v → Value.okWide Tryz.prog W .any base t v := hval0
  have hW' := hW
  obtain ⟨p, q, hA0, hV, rfl, hfz, hnd⟩ := hW
  have hA : DataW.TrodAll enc Tryz.prog W 0 (fun _ => true) true Tryz.f7.params.toList args.toList ds p := hA0
  rw [Tryz.params7] at hA hval
  obtain ⟨v0, vs0, d0, ds0, p0, q0, e0, rfl, rfl, h0, r0⟩ := trodAll_cons hA
  obtain ⟨v1, vs1, d1, ds1, p1, q1, e1, rfl, rfl, h1, r1⟩ := trodAll_cons r0
  obtain ⟨rfl, rfl, rfl⟩ := trodAll_nil r1
  obtain rfl : args = #[v0, v1] := by cases args; simp_all
  obtain ⟨rfl, rfl⟩ := trodVars_none hV
  have hlt : ∀ x ∈ p0 ++ p1, x.block < W.heap.size := fun x hx => by simpa using hW'.lt x (by simpa using hx)
  have t0 := h0
  have l0 : ∀ x ∈ p0, x.block < W.heap.size := fun x hx => hlt x (by simp [hx])
  have t1 := h1
  have l1 : ∀ x ∈ p1, x.block < W.heap.size := fun x hx => hlt x (by simp [hx])
  obtain ⟨f0, hat0, hbig0⟩ := root_of (hval 0 37 v0 rfl rfl) h0 l0
  obtain ⟨s1, rfl, rfl, rfl, w1⟩ := open_string Tryz.underlying9 (hval 1 9 v1 rfl rfl) h1
  clear hA0 hval0
  refine (walk_FnExactRootOut f0 v0 s1 W hbig0 hat0 w1).mono fun e W' ⟨he, hb⟩ => ?_
  subst he
  exact ⟨_, rfl, post_below (gs := []) (pv := []) hW' (fun _ _ _ => trodAll_cons_mk (shut_bool Tryz.underlying4 _) trodAll_mk0) (trodAll_cons_mk (Below.trod laidOut (by kernel_rfl) (of_decide_eq_true (by kernel_rfl)) t0 hb l0) (trodAll_cons_mk (Below.trod laidOut (by kernel_rfl) (of_decide_eq_true (by kernel_rfl)) t1 hb l1) trodAll_mk0)) rfl (by simp) hb⟩

theorem fnExactRootOut_holds : Rows.FnExactRootOutSaid :=
  OpenClaim.holds_of_wide 7 Tryz.f7 rfl rfl rfl rfl rfl rfl rfl ⟨rfl, rfl, rfl, rfl, rfl⟩ rfl rfl rfl rfl rfl (by kernel_rfl) Tryz.func7 (by kernel_rfl)
    (of_decide_eq_true (by kernel_rfl)) (by unfold Func.isWrapper; first | (rw [if_pos (by decide +kernel)]; kernel_rfl) | (rw [if_neg (by decide +kernel)]; exact ⟨rfl, rfl⟩))
    (fun os started H enc _ => lifted_FnExactRootOut os started H enc)
end Go.Proofs.YtlnpjiabdebmgaaGreat

