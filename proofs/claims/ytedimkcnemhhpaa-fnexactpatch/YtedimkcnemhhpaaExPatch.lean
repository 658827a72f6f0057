/- For all arguments the program's Patch answers as its model does; it writes into no argument, and what it answers is its own. -/
import Derived.Test.YtedimkcnemhhpaaPatchOwn
import Derived.Test.YtedimkcnemhhpaaRowTxts
namespace Go.Proofs.Ytedimkcnemhhpaa
open Go.ChangeShapes Go.WideShapes Go.ChangeAt Go.RowKit Go.Shelf

set_option maxRecDepth 100000 in
set_option maxHeartbeats 16000000 in
theorem walk_FnExactPatch (d0 : List ByteArray) (a0 : Option Addr) (cap0 : Nat) (d1 : List Hk) (a1 : Option Addr) (cap1 : Nat) (d2 : Int) (w : World) (hz0 : bigX d0) (hlen0 : d0.length ≤ maxLen) (h0 : TxtsAt w a0 d0) (hz1 : bigH d1) (hlen1 : d1.length ≤ maxLen) (h1 : HksAt w a1 d1) (hk2 : -9223372036854775808 ≤ d2 ∧ d2 ≤ 9223372036854775807) :
    Calls Try.prog 5 #[.slice a0 d0.length cap0, .slice a1 d1.length cap1, .int .i64 d2] w fun x w' => x = .returned (.bool true) ∧ Below w.heap.size w w' := by
  obtain ⟨hka2, hkb2⟩ := hk2
  have HA0 := hid h0
  have HZ0 := hid hz0
  have HL0 := hid hlen0
  have HA1 := hid h1
  have HZ1 := hid hz1
  have HL1 := hid hlen1
  clear h0 hz0 hlen0 h1 hz1 hlen1
  go_enter Try.func5, Try.ntmps5
  go_wp2_with fail
  refine (szStringS_any d0 a0 cap0 1048576 w (unhid HZ0) (unhid HL0) (by omega) (by omega) (unhid HA0)).mono ?_
  rintro x s0 ⟨⟨r0, rfl, hr0a, hr0b⟩, hw⟩
  have hb : Below w.heap.size w s0 := by rw [hw]; exact Below.refl _ _
  clear hw
  have HB0 := hid (hb)
  clear hb
  by_cases hneg0 : r0 < 0
  · go_wp2_with fail
    go_ret
    exact ⟨rfl, unhid HB0⟩
  have HT0 := hid (hr0b.resolve_left hneg0)
  have hr0c : 0 ≤ r0 := by omega
  clear hr0b
  go_wp2_with fail
  refine (szHunkS_any d1 a1 cap1 r0 s0 (unhid HZ1) (unhid HL1) (by omega) (by omega) ((unhid HA1).below (unhid HB0))).mono ?_
  rintro x s1 ⟨⟨r1, rfl, hr1a, hr1b⟩, hb⟩
  have HB1 := hid ((unhid HB0).trans (hb.mono (unhid HB0).size))
  clear hb
  clear HB0
  by_cases hneg1 : r1 < 0
  · go_wp2_with fail
    go_ret
    exact ⟨rfl, unhid HB1⟩
  have HT1 := hid (hr1b.resolve_left hneg1)
  have hr1c : 0 ≤ r1 := by omega
  clear hr1b
  have htot : (d0.length + totX d0) + (d1.length + totH d1) ≤ 1048576 := by have t0 := unhid HT0; have t1 := unhid HT1; omega
  have M0 := hid (smallX_of (show d0.length + totX d0 ≤ 1048576 by omega))
  have hc0 : cnt_x d0 ≤ 2097152 := by have := (unhid M0).1; unfold cnt_x; omega
  have M1 := hid (smallK_of (show d1.length + totH d1 ≤ 1048576 by omega))
  have hc1 : cnt_h d1 ≤ 2097152 := by exact (unhid M1).2.1
  have SR := hid (patch_small d0 d1 d2 (unhid M0) (unhid M1))
  have R0 := hid (unhid SR).1
  have rc0 : cnt_x (patch_0 d0 d1 d2) ≤ 2097152 := by have := (unhid R0).1; unfold cnt_x; omega
  have R1 := hid (unhid SR).2
  have rc1 : cnt_z (patch_1 d0 d1 d2) ≤ 2097152 := by have := unhid R1; unfold smallZ at this; unfold cnt_z; omega
  clear htot HT0 HT1
  have HC0 := hid rc0
  have HC1 := hid rc1
  have HCA0 := hid hc0
  have HCA1 := hid hc1
  clear rc0 rc1 hc0 hc1
  have HORD := hid (show w.heap.size ≤ s1.heap.size from (unhid HB1).size)
  go_wp2_with fail
  clear hr0a hr0c hneg0 hr1a hr1c hneg1
  refine (to_x d0 a0 cap0 s1 (unhid M0) ((unhid HA0).below (unhid HB1))).mono ?_
  rintro x w3 ⟨v1, F2, rfl, hown, hfr, hb⟩
  have HB2 := hid ((unhid HB1).trans (hb.mono (unhid HB1).size))
  have HORD := hid (show w.heap.size ≤ w3.heap.size from by have o1 := unhid HORD; have o2 := hb.size; omega)
  clear hb HB1
  have X4 := hid hown
  have bX4 := hid hfr
  clear hown hfr
  go_wp2_with fail
  refine (to_h d1 a1 cap1 w3 (unhid M1) ((unhid HA1).below (unhid HB2))).mono ?_
  rintro x w7 ⟨v5, F6, rfl, hown, hfr, hb⟩
  have HB3 := hid ((unhid HB2).trans (hb.mono (unhid HB2).size))
  have HORD := hid (show w.heap.size ≤ w7.heap.size from by have o1 := unhid HORD; have o2 := hb.size; omega)
  have X4 := hid (fresh_frame (unhid X4) hb)
  clear hb HB2
  have X8 := hid hown
  have bX8 := hid hfr
  clear hown hfr
  go_wp2_with fail
  refine (patch_spec d0 d1 d2 v1 F2 v5 F6 w7 (unhid M0) (unhid M1) (unhid X4) (unhid X8)).mono ?_
  rintro x w9 ⟨v10, F12, v11, F13, rfl, ho0, hf0, ho1, hf1, hap, hb⟩
  have HORDO := HORD
  have HLOHI := hid (show w7.heap.size ≤ w9.heap.size from hb.size)
  have HB4 := hid ((unhid HB3).trans (hb.mono (unhid HB3).size))
  have HORD := hid (show w.heap.size ≤ w9.heap.size from by have o1 := unhid HORD; have o2 := hb.size; omega)
  have X4 := hid (fresh_frame (unhid X4) hb)
  have X8 := hid (fresh_frame (unhid X8) hb)
  clear hb HB3
  have HORD := hid (show w.heap.size ≤ w7.heap.size ∧ w7.heap.size ≤ w9.heap.size ∧ w9.heap.size ≤ w9.heap.size from by have o1 := unhid HORDO; have o2 := unhid HORD; have o3 := unhid HLOHI; omega)
  clear HORDO HLOHI
  have S0 := hid ho0
  have bS0 := hid hf0
  clear ho0 hf0
  have S1 := hid ho1
  have bS1 := hid hf1
  clear ho1 hf1
  clear hap
  clear X4 bX4
  clear X8 bX8
  go_wp2_with fail
  refine (to_x d0 a0 cap0 w9 (unhid M0) ((unhid HA0).below (unhid HB4))).mono ?_
  rintro x w16 ⟨v14, F15, rfl, hown, hfr, hb⟩
  have HORDO := HORD
  have HLOHI := hid (show w9.heap.size ≤ w16.heap.size from hb.size)
  have HB5 := hid ((unhid HB4).trans (hb.mono (unhid HB4).size))
  have HORD := hid (show w.heap.size ≤ w7.heap.size ∧ w7.heap.size ≤ w9.heap.size ∧ w9.heap.size ≤ w16.heap.size from by have o1 := unhid HORD; have o2 := hb.size; omega)
  have S0 := hid (fresh_frame (unhid S0) hb)
  have S1 := hid (fresh_frame (unhid S1) hb)
  clear hb HB4
  have HORD := hid (show w.heap.size ≤ w7.heap.size ∧ w7.heap.size ≤ w9.heap.size ∧ w9.heap.size ≤ w16.heap.size ∧ w16.heap.size ≤ w16.heap.size from by have o1 := unhid HORDO; have o2 := unhid HORD; have o3 := unhid HLOHI; omega)
  clear HORDO HLOHI
  have X17 := hid hown
  have bX17 := hid hfr
  clear hown hfr
  go_wp2_with fail
  refine (to_h d1 a1 cap1 w16 (unhid M1) ((unhid HA1).below (unhid HB5))).mono ?_
  rintro x w20 ⟨v18, F19, rfl, hown, hfr, hb⟩
  have HORDO := HORD
  have HLOHI := hid (show w16.heap.size ≤ w20.heap.size from hb.size)
  have HB6 := hid ((unhid HB5).trans (hb.mono (unhid HB5).size))
  have HORD := hid (show w.heap.size ≤ w7.heap.size ∧ w7.heap.size ≤ w9.heap.size ∧ w9.heap.size ≤ w16.heap.size ∧ w16.heap.size ≤ w20.heap.size from by have o1 := unhid HORD; have o2 := hb.size; omega)
  have S0 := hid (fresh_frame (unhid S0) hb)
  have S1 := hid (fresh_frame (unhid S1) hb)
  have X17 := hid (fresh_frame (unhid X17) hb)
  clear hb HB5
  have HORD := hid (show w.heap.size ≤ w7.heap.size ∧ w7.heap.size ≤ w9.heap.size ∧ w9.heap.size ≤ w16.heap.size ∧ w16.heap.size ≤ w20.heap.size ∧ w20.heap.size ≤ w20.heap.size from by have o1 := unhid HORDO; have o2 := unhid HORD; have o3 := unhid HLOHI; omega)
  clear HORDO HLOHI
  have X21 := hid hown
  have bX21 := hid hfr
  clear hown hfr
  go_wp2_with fail
  refine (patch_impl d0 d1 d2 v14 F15 v18 F19 w20 (unhid M0) (unhid M1) (unhid X17) (unhid X21)).mono ?_
  rintro x w22 ⟨v23, F25, v24, F26, rfl, ho0, hf0, ho1, hf1, hap, hb⟩
  have HORDO := HORD
  have HLOHI := hid (show w20.heap.size ≤ w22.heap.size from hb.size)
  have HB7 := hid ((unhid HB6).trans (hb.mono (unhid HB6).size))
  have HORD := hid (show w.heap.size ≤ w7.heap.size ∧ w7.heap.size ≤ w9.heap.size ∧ w9.heap.size ≤ w16.heap.size ∧ w16.heap.size ≤ w20.heap.size ∧ w20.heap.size ≤ w22.heap.size from by have o1 := unhid HORD; have o2 := hb.size; omega)
  have S0 := hid (fresh_frame (unhid S0) hb)
  have S1 := hid (fresh_frame (unhid S1) hb)
  have X17 := hid (fresh_frame (unhid X17) hb)
  have X21 := hid (fresh_frame (unhid X21) hb)
  clear hb HB6
  have HORD := hid (show w.heap.size ≤ w7.heap.size ∧ w7.heap.size ≤ w9.heap.size ∧ w9.heap.size ≤ w16.heap.size ∧ w16.heap.size ≤ w20.heap.size ∧ w20.heap.size ≤ w22.heap.size ∧ w22.heap.size ≤ w22.heap.size from by have o1 := unhid HORDO; have o2 := unhid HORD; have o3 := unhid HLOHI; omega)
  clear HORDO HLOHI
  have G0 := hid ho0
  have bG0 := hid hf0
  clear ho0 hf0
  have G1 := hid ho1
  have bG1 := hid hf1
  clear ho1 hf1
  have HAP := hid (show (∀ k ∈ F25, k ∉ F26) ∧ (∀ k ∈ F26, k ∉ F25) from ⟨fun k hk e => hap k hk e, fun k hk e => hap k e hk⟩)
  clear hap
  go_wp2_with fail
  refine (eq_x (patch_0 d0 d1 d2) v23 v10 F25 F12 w22 (unhid R0) (unhid G0) (unhid S0)).mono ?_
  rintro x w27 ⟨rfl, hb⟩
  have HB8 := hid ((unhid HB7).trans (hb.mono (unhid HB7).size))
  have HORD := hid (show w.heap.size ≤ w7.heap.size ∧ w7.heap.size ≤ w9.heap.size ∧ w9.heap.size ≤ w16.heap.size ∧ w16.heap.size ≤ w20.heap.size ∧ w20.heap.size ≤ w22.heap.size ∧ w22.heap.size ≤ w27.heap.size from by have o1 := unhid HORD; have o2 := hb.size; omega)
  have S0 := hid (fresh_frame (unhid S0) hb)
  have S1 := hid (fresh_frame (unhid S1) hb)
  have X17 := hid (fresh_frame (unhid X17) hb)
  have X21 := hid (fresh_frame (unhid X21) hb)
  have G0 := hid (fresh_frame (unhid G0) hb)
  have G1 := hid (fresh_frame (unhid G1) hb)
  clear hb HB7
  go_wp2_with fail
  refine (eq_z (patch_1 d0 d1 d2) v24 v11 F26 F13 w27 (unhid R1) (unhid G1) (unhid S1)).mono ?_
  rintro x w28 ⟨rfl, hb⟩
  have HB9 := hid ((unhid HB8).trans (hb.mono (unhid HB8).size))
  have HORD := hid (show w.heap.size ≤ w7.heap.size ∧ w7.heap.size ≤ w9.heap.size ∧ w9.heap.size ≤ w16.heap.size ∧ w16.heap.size ≤ w20.heap.size ∧ w20.heap.size ≤ w22.heap.size ∧ w22.heap.size ≤ w28.heap.size from by have o1 := unhid HORD; have o2 := hb.size; omega)
  have S0 := hid (fresh_frame (unhid S0) hb)
  have S1 := hid (fresh_frame (unhid S1) hb)
  have X17 := hid (fresh_frame (unhid X17) hb)
  have X21 := hid (fresh_frame (unhid X21) hb)
  have G0 := hid (fresh_frame (unhid G0) hb)
  have G1 := hid (fresh_frame (unhid G1) hb)
  clear hb HB8
  go_wp2_with fail
  refine (to_x d0 a0 cap0 w28 (unhid M0) ((unhid HA0).below (unhid HB9))).mono ?_
  rintro x w31 ⟨v29, F30, rfl, hown, hfr, hb⟩
  have HB10 := hid ((unhid HB9).trans (hb.mono (unhid HB9).size))
  have HORD := hid (show w.heap.size ≤ w7.heap.size ∧ w7.heap.size ≤ w9.heap.size ∧ w9.heap.size ≤ w16.heap.size ∧ w16.heap.size ≤ w20.heap.size ∧ w20.heap.size ≤ w22.heap.size ∧ w22.heap.size ≤ w31.heap.size from by have o1 := unhid HORD; have o2 := hb.size; omega)
  have S0 := hid (fresh_frame (unhid S0) hb)
  have S1 := hid (fresh_frame (unhid S1) hb)
  have X17 := hid (fresh_frame (unhid X17) hb)
  have X21 := hid (fresh_frame (unhid X21) hb)
  have G0 := hid (fresh_frame (unhid G0) hb)
  have G1 := hid (fresh_frame (unhid G1) hb)
  clear hb HB9
  have X32 := hid hown
  have bX32 := hid hfr
  clear hown hfr
  go_wp2_with fail
  refine (eq_x d0 v14 v29 F15 F30 w31 (unhid M0) (unhid X17) (unhid X32)).mono ?_
  rintro x w33 ⟨rfl, hb⟩
  have HB11 := hid ((unhid HB10).trans (hb.mono (unhid HB10).size))
  have HORD := hid (show w.heap.size ≤ w7.heap.size ∧ w7.heap.size ≤ w9.heap.size ∧ w9.heap.size ≤ w16.heap.size ∧ w16.heap.size ≤ w20.heap.size ∧ w20.heap.size ≤ w22.heap.size ∧ w22.heap.size ≤ w33.heap.size from by have o1 := unhid HORD; have o2 := hb.size; omega)
  have S0 := hid (fresh_frame (unhid S0) hb)
  have S1 := hid (fresh_frame (unhid S1) hb)
  have X17 := hid (fresh_frame (unhid X17) hb)
  have X21 := hid (fresh_frame (unhid X21) hb)
  have G0 := hid (fresh_frame (unhid G0) hb)
  have G1 := hid (fresh_frame (unhid G1) hb)
  have X32 := hid (fresh_frame (unhid X32) hb)
  clear hb HB10
  clear X32 bX32
  go_wp2_with fail
  refine (to_h d1 a1 cap1 w33 (unhid M1) ((unhid HA1).below (unhid HB11))).mono ?_
  rintro x w36 ⟨v34, F35, rfl, hown, hfr, hb⟩
  have HB12 := hid ((unhid HB11).trans (hb.mono (unhid HB11).size))
  have HORD := hid (show w.heap.size ≤ w7.heap.size ∧ w7.heap.size ≤ w9.heap.size ∧ w9.heap.size ≤ w16.heap.size ∧ w16.heap.size ≤ w20.heap.size ∧ w20.heap.size ≤ w22.heap.size ∧ w22.heap.size ≤ w36.heap.size from by have o1 := unhid HORD; have o2 := hb.size; omega)
  have S0 := hid (fresh_frame (unhid S0) hb)
  have S1 := hid (fresh_frame (unhid S1) hb)
  have X17 := hid (fresh_frame (unhid X17) hb)
  have X21 := hid (fresh_frame (unhid X21) hb)
  have G0 := hid (fresh_frame (unhid G0) hb)
  have G1 := hid (fresh_frame (unhid G1) hb)
  clear hb HB11
  have X37 := hid hown
  have bX37 := hid hfr
  clear hown hfr
  go_wp2_with fail
  refine (eq_h d1 v18 v34 F19 F35 w36 (unhid M1) (unhid X21) (unhid X37)).mono ?_
  rintro x w38 ⟨rfl, hb⟩
  have HB13 := hid ((unhid HB12).trans (hb.mono (unhid HB12).size))
  have HORD := hid (show w.heap.size ≤ w7.heap.size ∧ w7.heap.size ≤ w9.heap.size ∧ w9.heap.size ≤ w16.heap.size ∧ w16.heap.size ≤ w20.heap.size ∧ w20.heap.size ≤ w22.heap.size ∧ w22.heap.size ≤ w38.heap.size from by have o1 := unhid HORD; have o2 := hb.size; omega)
  have S0 := hid (fresh_frame (unhid S0) hb)
  have S1 := hid (fresh_frame (unhid S1) hb)
  have X17 := hid (fresh_frame (unhid X17) hb)
  have X21 := hid (fresh_frame (unhid X21) hb)
  have G0 := hid (fresh_frame (unhid G0) hb)
  have G1 := hid (fresh_frame (unhid G1) hb)
  have X37 := hid (fresh_frame (unhid X37) hb)
  clear hb HB12
  clear X37 bX37
  go_wp2_with fail
  have MK := fun c hc => mark_x d0 v14 F15 (1) c hc w38 (unhid M0) (by omega) (by skip; have t0 := unhid HCA0; have t1 := unhid HCA1; omega) (unhid X17)
  refine (MK _ (by omega)).mono ?_
  rintro x w39 ⟨rfl, hown, ho⟩
  clear MK
  have S0 := hid (only_frame (unhid S0) ho (fun k hk e => by have b1 := (unhid bS0) k hk; have b2 := (unhid bX17) k e; have o1 := unhid HORD; omega))
  have S1 := hid (only_frame (unhid S1) ho (fun k hk e => by have b1 := (unhid bS1) k hk; have b2 := (unhid bX17) k e; have o1 := unhid HORD; omega))
  have X21 := hid (only_frame (unhid X21) ho (fun k hk e => by have b1 := (unhid bX21) k hk; have b2 := (unhid bX17) k e; have o1 := unhid HORD; omega))
  have G0 := hid (only_frame (unhid G0) ho (fun k hk e => by have b1 := (unhid bG0) k hk; have b2 := (unhid bX17) k e; have o1 := unhid HORD; omega))
  have G1 := hid (only_frame (unhid G1) ho (fun k hk e => by have b1 := (unhid bG1) k hk; have b2 := (unhid bX17) k e; have o1 := unhid HORD; omega))
  have HB14 := hid ((ho.inside (unhid bX17)).below (unhid HB13) (by have o1 := unhid HORD; omega))
  have HORD := hid (show w.heap.size ≤ w7.heap.size ∧ w7.heap.size ≤ w9.heap.size ∧ w9.heap.size ≤ w16.heap.size ∧ w16.heap.size ≤ w20.heap.size ∧ w20.heap.size ≤ w22.heap.size ∧ w22.heap.size ≤ w39.heap.size from by have o1 := unhid HORD; have o2 := ho.size; omega)
  have X17 := hid hown
  clear ho hown HB13
  go_wp2_with fail
  have MK := fun c hc => mark_h d1 v18 F19 (1 + cnt_x d0) c hc w39 (unhid M1) (by omega) (by skip; have t0 := unhid HCA0; have t1 := unhid HCA1; omega) (unhid X21)
  refine (MK _ (by omega)).mono ?_
  rintro x w40 ⟨rfl, hown, ho⟩
  clear MK
  have S0 := hid (only_frame (unhid S0) ho (fun k hk e => by have b1 := (unhid bS0) k hk; have b2 := (unhid bX21) k e; have o1 := unhid HORD; omega))
  have S1 := hid (only_frame (unhid S1) ho (fun k hk e => by have b1 := (unhid bS1) k hk; have b2 := (unhid bX21) k e; have o1 := unhid HORD; omega))
  have X17 := hid (only_frame (unhid X17) ho (fun k hk e => by have b1 := (unhid bX17) k hk; have b2 := (unhid bX21) k e; have o1 := unhid HORD; omega))
  have G0 := hid (only_frame (unhid G0) ho (fun k hk e => by have b1 := (unhid bG0) k hk; have b2 := (unhid bX21) k e; have o1 := unhid HORD; omega))
  have G1 := hid (only_frame (unhid G1) ho (fun k hk e => by have b1 := (unhid bG1) k hk; have b2 := (unhid bX21) k e; have o1 := unhid HORD; omega))
  have HB15 := hid ((ho.inside (unhid bX21)).below (unhid HB14) (by have o1 := unhid HORD; omega))
  have HORD := hid (show w.heap.size ≤ w7.heap.size ∧ w7.heap.size ≤ w9.heap.size ∧ w9.heap.size ≤ w16.heap.size ∧ w16.heap.size ≤ w20.heap.size ∧ w20.heap.size ≤ w22.heap.size ∧ w22.heap.size ≤ w40.heap.size from by have o1 := unhid HORD; have o2 := ho.size; omega)
  have X21 := hid hown
  clear ho hown HB14
  clear X17 bX17
  clear X21 bX21
  have hkpos : ¬ (((1 : Int) + (cnt_x d0 : Int) + (cnt_h d1 : Int) : Int) < 0) := by omega
  go_wp2_with fail
  refine (eq_x (patch_0 d0 d1 d2) v23 v10 F25 F12 w40 (unhid R0) (unhid G0) (unhid S0)).mono ?_
  rintro x w41 ⟨rfl, hb⟩
  have HB16 := hid ((unhid HB15).trans (hb.mono (unhid HB15).size))
  have HORD := hid (show w.heap.size ≤ w7.heap.size ∧ w7.heap.size ≤ w9.heap.size ∧ w9.heap.size ≤ w16.heap.size ∧ w16.heap.size ≤ w20.heap.size ∧ w20.heap.size ≤ w22.heap.size ∧ w22.heap.size ≤ w41.heap.size from by have o1 := unhid HORD; have o2 := hb.size; omega)
  have S0 := hid (fresh_frame (unhid S0) hb)
  have S1 := hid (fresh_frame (unhid S1) hb)
  have G0 := hid (fresh_frame (unhid G0) hb)
  have G1 := hid (fresh_frame (unhid G1) hb)
  clear hb HB15
  go_wp2_with fail
  refine (eq_z (patch_1 d0 d1 d2) v24 v11 F26 F13 w41 (unhid R1) (unhid G1) (unhid S1)).mono ?_
  rintro x w42 ⟨rfl, hb⟩
  have HB17 := hid ((unhid HB16).trans (hb.mono (unhid HB16).size))
  have HORD := hid (show w.heap.size ≤ w7.heap.size ∧ w7.heap.size ≤ w9.heap.size ∧ w9.heap.size ≤ w16.heap.size ∧ w16.heap.size ≤ w20.heap.size ∧ w20.heap.size ≤ w22.heap.size ∧ w22.heap.size ≤ w42.heap.size from by have o1 := unhid HORD; have o2 := hb.size; omega)
  have S0 := hid (fresh_frame (unhid S0) hb)
  have S1 := hid (fresh_frame (unhid S1) hb)
  have G0 := hid (fresh_frame (unhid G0) hb)
  have G1 := hid (fresh_frame (unhid G1) hb)
  clear hb HB16
  clear hkpos
  go_wp2_with fail
  have MK := fun c hc => mark_x (patch_0 d0 d1 d2) v23 F25 (1) c hc w42 (unhid R0) (by omega) (by skip; have t0 := unhid HC0; have t1 := unhid HC1; omega) (unhid G0)
  refine (MK _ (by omega)).mono ?_
  rintro x w43 ⟨rfl, hown, ho⟩
  clear MK
  have S0 := hid (only_frame (unhid S0) ho (fun k hk e => by have b1 := (unhid bS0) k hk; have b2 := (unhid bG0) k e; have o1 := unhid HORD; omega))
  have S1 := hid (only_frame (unhid S1) ho (fun k hk e => by have b1 := (unhid bS1) k hk; have b2 := (unhid bG0) k e; have o1 := unhid HORD; omega))
  have G1 := hid (only_frame (unhid G1) ho (fun k hk e => (unhid HAP).2 k hk e))
  have HB18 := hid ((ho.inside (unhid bG0)).below (unhid HB17) (by have o1 := unhid HORD; omega))
  have HORD := hid (show w.heap.size ≤ w7.heap.size ∧ w7.heap.size ≤ w9.heap.size ∧ w9.heap.size ≤ w16.heap.size ∧ w16.heap.size ≤ w20.heap.size ∧ w20.heap.size ≤ w22.heap.size ∧ w22.heap.size ≤ w43.heap.size from by have o1 := unhid HORD; have o2 := ho.size; omega)
  have G0 := hid hown
  clear ho hown HB17
  go_wp2_with fail
  have MK := fun c hc => mark_z (patch_1 d0 d1 d2) v24 F26 (1 + cnt_x (patch_0 d0 d1 d2)) c hc w43 (unhid R1) (by omega) (by skip; have t0 := unhid HC0; have t1 := unhid HC1; omega) (unhid G1)
  refine (MK _ (by omega)).mono ?_
  rintro x w44 ⟨rfl, hown, ho⟩
  clear MK
  have S0 := hid (only_frame (unhid S0) ho (fun k hk e => by have b1 := (unhid bS0) k hk; have b2 := (unhid bG1) k e; have o1 := unhid HORD; omega))
  have S1 := hid (only_frame (unhid S1) ho (fun k hk e => by have b1 := (unhid bS1) k hk; have b2 := (unhid bG1) k e; have o1 := unhid HORD; omega))
  have G0 := hid (only_frame (unhid G0) ho (fun k hk e => (unhid HAP).1 k hk e))
  have HB19 := hid ((ho.inside (unhid bG1)).below (unhid HB18) (by have o1 := unhid HORD; omega))
  have HORD := hid (show w.heap.size ≤ w7.heap.size ∧ w7.heap.size ≤ w9.heap.size ∧ w9.heap.size ≤ w16.heap.size ∧ w16.heap.size ≤ w20.heap.size ∧ w20.heap.size ≤ w22.heap.size ∧ w22.heap.size ≤ w44.heap.size from by have o1 := unhid HORD; have o2 := ho.size; omega)
  have G1 := hid hown
  clear ho hown HB18
  go_wp2_with fail
  have HL := fun c hc => held_x (patch_0 d0 d1 d2) v23 F25 (1) c hc w44 (unhid R0) (by omega) (by skip; have t0 := unhid HC0; have t1 := unhid HC1; omega) (unhid G0)
  refine (HL _ (by omega)).mono ?_
  rintro x w45 ⟨rfl, hb⟩
  clear HL
  have HB20 := hid ((unhid HB19).trans (hb.mono (unhid HB19).size))
  have HORD := hid (show w.heap.size ≤ w7.heap.size ∧ w7.heap.size ≤ w9.heap.size ∧ w9.heap.size ≤ w16.heap.size ∧ w16.heap.size ≤ w20.heap.size ∧ w20.heap.size ≤ w22.heap.size ∧ w22.heap.size ≤ w45.heap.size from by have o1 := unhid HORD; have o2 := hb.size; omega)
  have S0 := hid (fresh_frame (unhid S0) hb)
  have S1 := hid (fresh_frame (unhid S1) hb)
  have G0 := hid (fresh_frame (unhid G0) hb)
  have G1 := hid (fresh_frame (unhid G1) hb)
  clear hb HB19
  have hkposG0 : ¬ (((1 : Int) + (cnt_x (patch_0 d0 d1 d2) : Int) : Int) < 0) := by omega
  go_wp2_with fail
  have HL := fun c hc => held_z (patch_1 d0 d1 d2) v24 F26 (1 + cnt_x (patch_0 d0 d1 d2)) c hc w45 (unhid R1) (by omega) (by skip; have t0 := unhid HC0; have t1 := unhid HC1; omega) (unhid G1)
  refine (HL _ (by omega)).mono ?_
  rintro x w46 ⟨rfl, hb⟩
  clear HL
  have HB21 := hid ((unhid HB20).trans (hb.mono (unhid HB20).size))
  have HORD := hid (show w.heap.size ≤ w7.heap.size ∧ w7.heap.size ≤ w9.heap.size ∧ w9.heap.size ≤ w16.heap.size ∧ w16.heap.size ≤ w20.heap.size ∧ w20.heap.size ≤ w22.heap.size ∧ w22.heap.size ≤ w46.heap.size from by have o1 := unhid HORD; have o2 := hb.size; omega)
  have S0 := hid (fresh_frame (unhid S0) hb)
  have S1 := hid (fresh_frame (unhid S1) hb)
  have G0 := hid (fresh_frame (unhid G0) hb)
  have G1 := hid (fresh_frame (unhid G1) hb)
  clear hb HB20
  have hkposG1 : ¬ (((1 : Int) + (cnt_x (patch_0 d0 d1 d2) : Int) + (cnt_z (patch_1 d0 d1 d2) : Int) : Int) < 0) := by omega
  go_wp2_with fail
  refine (to_x d0 a0 cap0 w46 (unhid M0) ((unhid HA0).below (unhid HB21))).mono ?_
  rintro x w49 ⟨v47, F48, rfl, hown, hfr, hb⟩
  have HB22 := hid ((unhid HB21).trans (hb.mono (unhid HB21).size))
  have HORD := hid (show w.heap.size ≤ w7.heap.size ∧ w7.heap.size ≤ w9.heap.size ∧ w9.heap.size ≤ w16.heap.size ∧ w16.heap.size ≤ w20.heap.size ∧ w20.heap.size ≤ w22.heap.size ∧ w22.heap.size ≤ w49.heap.size from by have o1 := unhid HORD; have o2 := hb.size; omega)
  have S0 := hid (fresh_frame (unhid S0) hb)
  have S1 := hid (fresh_frame (unhid S1) hb)
  have G0 := hid (fresh_frame (unhid G0) hb)
  have G1 := hid (fresh_frame (unhid G1) hb)
  clear hb HB21
  have X50 := hid hown
  have bX50 := hid hfr
  clear hown hfr
  go_wp2_with fail
  refine (to_h d1 a1 cap1 w49 (unhid M1) ((unhid HA1).below (unhid HB22))).mono ?_
  rintro x w53 ⟨v51, F52, rfl, hown, hfr, hb⟩
  have HB23 := hid ((unhid HB22).trans (hb.mono (unhid HB22).size))
  have HORD := hid (show w.heap.size ≤ w7.heap.size ∧ w7.heap.size ≤ w9.heap.size ∧ w9.heap.size ≤ w16.heap.size ∧ w16.heap.size ≤ w20.heap.size ∧ w20.heap.size ≤ w22.heap.size ∧ w22.heap.size ≤ w53.heap.size from by have o1 := unhid HORD; have o2 := hb.size; omega)
  have S0 := hid (fresh_frame (unhid S0) hb)
  have S1 := hid (fresh_frame (unhid S1) hb)
  have G0 := hid (fresh_frame (unhid G0) hb)
  have G1 := hid (fresh_frame (unhid G1) hb)
  have X50 := hid (fresh_frame (unhid X50) hb)
  clear hb HB22
  have X54 := hid hown
  have bX54 := hid hfr
  clear hown hfr
  go_wp2_with fail
  refine (patch_impl d0 d1 d2 v47 F48 v51 F52 w53 (unhid M0) (unhid M1) (unhid X50) (unhid X54)).mono ?_
  rintro x w55 ⟨v56, F58, v57, F59, rfl, ho0, hf0, ho1, hf1, hap, hb⟩
  have HB24 := hid ((unhid HB23).trans (hb.mono (unhid HB23).size))
  have HORD := hid (show w.heap.size ≤ w7.heap.size ∧ w7.heap.size ≤ w9.heap.size ∧ w9.heap.size ≤ w16.heap.size ∧ w16.heap.size ≤ w20.heap.size ∧ w20.heap.size ≤ w22.heap.size ∧ w22.heap.size ≤ w55.heap.size from by have o1 := unhid HORD; have o2 := hb.size; omega)
  have S0 := hid (fresh_frame (unhid S0) hb)
  have S1 := hid (fresh_frame (unhid S1) hb)
  have G0 := hid (fresh_frame (unhid G0) hb)
  have G1 := hid (fresh_frame (unhid G1) hb)
  have X50 := hid (fresh_frame (unhid X50) hb)
  have X54 := hid (fresh_frame (unhid X54) hb)
  clear hb HB23
  have H0 := hid ho0
  have bH0 := hid hf0
  clear ho0 hf0
  have H1 := hid ho1
  have bH1 := hid hf1
  clear ho1 hf1
  clear hap
  clear X50 bX50
  clear X54 bX54
  clear hkposG0 hkposG1
  go_wp2_with fail
  refine (eq_x (patch_0 d0 d1 d2) v56 v10 F58 F12 w55 (unhid R0) (unhid H0) (unhid S0)).mono ?_
  rintro x w60 ⟨rfl, hb⟩
  have HB25 := hid ((unhid HB24).trans (hb.mono (unhid HB24).size))
  have HORD := hid (show w.heap.size ≤ w7.heap.size ∧ w7.heap.size ≤ w9.heap.size ∧ w9.heap.size ≤ w16.heap.size ∧ w16.heap.size ≤ w20.heap.size ∧ w20.heap.size ≤ w22.heap.size ∧ w22.heap.size ≤ w60.heap.size from by have o1 := unhid HORD; have o2 := hb.size; omega)
  have S0 := hid (fresh_frame (unhid S0) hb)
  have S1 := hid (fresh_frame (unhid S1) hb)
  have G0 := hid (fresh_frame (unhid G0) hb)
  have G1 := hid (fresh_frame (unhid G1) hb)
  have H0 := hid (fresh_frame (unhid H0) hb)
  have H1 := hid (fresh_frame (unhid H1) hb)
  clear hb HB24
  go_wp2_with fail
  refine (eq_z (patch_1 d0 d1 d2) v57 v11 F59 F13 w60 (unhid R1) (unhid H1) (unhid S1)).mono ?_
  rintro x w61 ⟨rfl, hb⟩
  have HB26 := hid ((unhid HB25).trans (hb.mono (unhid HB25).size))
  have HORD := hid (show w.heap.size ≤ w7.heap.size ∧ w7.heap.size ≤ w9.heap.size ∧ w9.heap.size ≤ w16.heap.size ∧ w16.heap.size ≤ w20.heap.size ∧ w20.heap.size ≤ w22.heap.size ∧ w22.heap.size ≤ w61.heap.size from by have o1 := unhid HORD; have o2 := hb.size; omega)
  have S0 := hid (fresh_frame (unhid S0) hb)
  have S1 := hid (fresh_frame (unhid S1) hb)
  have G0 := hid (fresh_frame (unhid G0) hb)
  have G1 := hid (fresh_frame (unhid G1) hb)
  have H0 := hid (fresh_frame (unhid H0) hb)
  have H1 := hid (fresh_frame (unhid H1) hb)
  clear hb HB25
  clear H0 bH0
  clear H1 bH1
  go_wp2_with fail
  have HL := fun c hc => held_x (patch_0 d0 d1 d2) v23 F25 (1) c hc w61 (unhid R0) (by omega) (by skip; have t0 := unhid HC0; have t1 := unhid HC1; omega) (unhid G0)
  refine (HL _ (by omega)).mono ?_
  rintro x w62 ⟨rfl, hb⟩
  clear HL
  have HB27 := hid ((unhid HB26).trans (hb.mono (unhid HB26).size))
  have HORD := hid (show w.heap.size ≤ w7.heap.size ∧ w7.heap.size ≤ w9.heap.size ∧ w9.heap.size ≤ w16.heap.size ∧ w16.heap.size ≤ w20.heap.size ∧ w20.heap.size ≤ w22.heap.size ∧ w22.heap.size ≤ w62.heap.size from by have o1 := unhid HORD; have o2 := hb.size; omega)
  have S0 := hid (fresh_frame (unhid S0) hb)
  have S1 := hid (fresh_frame (unhid S1) hb)
  have G0 := hid (fresh_frame (unhid G0) hb)
  have G1 := hid (fresh_frame (unhid G1) hb)
  clear hb HB26
  have hkposG0 : ¬ (((1 : Int) + (cnt_x (patch_0 d0 d1 d2) : Int) : Int) < 0) := by omega
  go_wp2_with fail
  have HL := fun c hc => held_z (patch_1 d0 d1 d2) v24 F26 (1 + cnt_x (patch_0 d0 d1 d2)) c hc w62 (unhid R1) (by omega) (by skip; have t0 := unhid HC0; have t1 := unhid HC1; omega) (unhid G1)
  refine (HL _ (by omega)).mono ?_
  rintro x w63 ⟨rfl, hb⟩
  clear HL
  have HB28 := hid ((unhid HB27).trans (hb.mono (unhid HB27).size))
  have HORD := hid (show w.heap.size ≤ w7.heap.size ∧ w7.heap.size ≤ w9.heap.size ∧ w9.heap.size ≤ w16.heap.size ∧ w16.heap.size ≤ w20.heap.size ∧ w20.heap.size ≤ w22.heap.size ∧ w22.heap.size ≤ w63.heap.size from by have o1 := unhid HORD; have o2 := hb.size; omega)
  have S0 := hid (fresh_frame (unhid S0) hb)
  have S1 := hid (fresh_frame (unhid S1) hb)
  have G0 := hid (fresh_frame (unhid G0) hb)
  have G1 := hid (fresh_frame (unhid G1) hb)
  clear hb HB27
  have hkposG1 : ¬ (((1 : Int) + (cnt_x (patch_0 d0 d1 d2) : Int) + (cnt_z (patch_1 d0 d1 d2) : Int) : Int) < 0) := by omega
  go_wp2_with fail
  go_ret
  exact ⟨rfl, unhid HB28⟩

set_option maxRecDepth 100000 in
set_option maxHeartbeats 1000000 in
theorem lifted_FnExactPatch (os : Os) (started : os.Started) (H : Type) (enc : TypeId × Value → H) :
    ReturnsInHanded {} Try.checked os 5 .any (Rows.fnExactPatchSpec.pre6 enc Try.prog Try.f5 Rows.fnExactPatchRow.domain false) (Rows.fnExactPatchSpec.post enc Try.prog Try.f5 false true false false) := by
  refine returnsInHanded_of_change (C := Try.checked) own started (by kernel_rfl) Try.func5
    (ChangeSpec.witness6 (enc := enc) (C := Try.checked) false ⟨#[], #[.slice none 0 0, .slice none 0 0, .int .i64 0], []⟩ 8 (by kernel_rfl) (by kernel_rfl) (by kernel_rfl) (by kernel_rfl)) ?_
  intro W base args ds gs before hval0 hW _ _
  have hval : ∀ (j : Nat) t v, Try.f5.params[j]? = some t → args[j]? = some v → Value.okWide Try.prog W .any base t v := hval0
  have hW' := hW
  obtain ⟨p, q, hA0, hV, rfl, hfz, hnd⟩ := hW
  have hA : DataW.TrodAll enc Try.prog W 0 (fun _ => true) true Try.f5.params.toList args.toList ds p := hA0
  rw [Try.params5] at hA hval
  obtain ⟨v0, vs0, d0, ds0, p0, q0, e0, rfl, rfl, h0, r0⟩ := trodAll_cons hA
  obtain ⟨v1, vs1, d1, ds1, p1, q1, e1, rfl, rfl, h1, r1⟩ := trodAll_cons r0
  obtain ⟨v2, vs2, d2, ds2, p2, q2, e2, rfl, rfl, h2, r2⟩ := trodAll_cons r1
  obtain ⟨rfl, rfl, rfl⟩ := trodAll_nil r2
  obtain rfl : args = #[v0, v1, v2] := by cases args; simp_all
  obtain ⟨rfl, rfl⟩ := trodVars_none hV
  have hlt : ∀ x ∈ p0 ++ p1 ++ p2, x.block < W.heap.size := fun x hx => by simpa using hW'.lt x (by simpa using hx)
  have t0 := h0
  have l0 : ∀ x ∈ p0, x.block < W.heap.size := fun x hx => hlt x (by simp [hx])
  have t1 := h1
  have l1 : ∀ x ∈ p1, x.block < W.heap.size := fun x hx => hlt x (by simp [hx])
  have t2 := h2
  have l2 : ∀ x ∈ p2, x.block < W.heap.size := fun x hx => hlt x (by simp [hx])
  obtain ⟨es0, a0, cap0, rfl, hbig0, hlen0, hents0⟩ := txts_of (okWide_slice Try.underlying29 (hval 0 29 v0 rfl rfl)) h0 l0
  obtain ⟨es1, a1, cap1, rfl, hbig1, hlen1, hents1⟩ := hunks_of (okWide_slice Try.underlying22 (hval 1 22 v1 rfl rfl)) h1 l1
  obtain ⟨k2, rfl, rfl, rfl, hk2⟩ := open_int Try.underlying3 (hval 2 3 v2 rfl rfl) h2
  replace hk2 : -9223372036854775808 ≤ k2 ∧ k2 ≤ 9223372036854775807 := by simpa [Lit.wf, IntKind.min, IntKind.max, IntKind.signed, IntKind.bits] using hk2
  clear hA0 hval0
  refine (walk_FnExactPatch es0 a0 cap0 es1 a1 cap1 k2 W hbig0 hlen0 hents0 hbig1 hlen1 hents1 hk2).mono fun e W' ⟨he, hb⟩ => ?_
  subst he
  exact ⟨_, rfl, post_below (gs := []) (pv := []) hW' (fun _ _ _ => trodAll_cons_mk (shut_bool Try.underlying4 _) trodAll_mk0) (trodAll_cons_mk (Below.trod laidOut (by kernel_rfl) (of_decide_eq_true (by kernel_rfl)) t0 hb l0) (trodAll_cons_mk (Below.trod laidOut (by kernel_rfl) (of_decide_eq_true (by kernel_rfl)) t1 hb l1) (trodAll_cons_mk (Below.trod laidOut (by kernel_rfl) (of_decide_eq_true (by kernel_rfl)) t2 hb l2) trodAll_mk0))) rfl (by simp) hb⟩

theorem fnExactPatch_holds : Rows.FnExactPatchSaid :=
  OpenClaim.holds_of_wide 5 Try.f5 rfl rfl rfl rfl rfl rfl rfl ⟨rfl, rfl, rfl, rfl, rfl⟩ rfl rfl rfl rfl rfl (by kernel_rfl) Try.func5 (by kernel_rfl)
    (of_decide_eq_true (by kernel_rfl)) (by unfold Func.isWrapper; first | (rw [if_pos (by decide +kernel)]; kernel_rfl) | (rw [if_neg (by decide +kernel)]; exact ⟨rfl, rfl⟩))
    (fun os started H enc _ => lifted_FnExactPatch os started H enc)
end Go.Proofs.Ytedimkcnemhhpaa

