/- For all arguments the program's DiffOf answers as its model does; it writes into no argument, and what it answers is its own. -/
import Derived.Test.YtedimkcnemhhpaaDiffOwn
import Derived.Test.YtedimkcnemhhpaaRowTxts
namespace Go.Proofs.Ytedimkcnemhhpaa
open Go.ChangeShapes Go.WideShapes Go.ChangeAt Go.RowKit Go.Shelf

set_option maxRecDepth 100000 in
set_option maxHeartbeats 16000000 in
theorem walk_FnExactDiffOf (d0 : List ByteArray) (a0 : Option Addr) (cap0 : Nat) (d1 : List ByteArray) (a1 : Option Addr) (cap1 : Nat) (w : World) (hz0 : bigX d0) (hlen0 : d0.length ≤ maxLen) (h0 : TxtsAt w a0 d0) (hz1 : bigX d1) (hlen1 : d1.length ≤ maxLen) (h1 : TxtsAt w a1 d1) :
    Calls Try.prog 4 #[.slice a0 d0.length cap0, .slice a1 d1.length cap1] w fun x w' => x = .returned (.bool true) ∧ Below w.heap.size w w' := by
  have HA0 := hid h0
  have HZ0 := hid hz0
  have HL0 := hid hlen0
  have HA1 := hid h1
  have HZ1 := hid hz1
  have HL1 := hid hlen1
  clear h0 hz0 hlen0 h1 hz1 hlen1
  go_enter Try.func4, Try.ntmps4
  go_wp2_with fail
  refine (szStringS_any d0 a0 cap0 1048576 w (unhid HZ0) (unhid HL0) (by omega) (by omega) (unhid HA0)).mono ?_
  rintro x s0 ⟨⟨r0, rfl, hr0a, hr0b⟩, hw⟩
  have hb : Below w.heap.size w s0 := by rw [hw]; exact Below.refl _ _
  clear hw
  have HB0 := hid (hb)
  clear hb
  by_cases hneg0 : r0 < 0
  · go_wp2_with fail
    go_ret
    exact ⟨rfl, unhid HB0⟩
  have HT0 := hid (hr0b.resolve_left hneg0)
  have hr0c : 0 ≤ r0 := by omega
  clear hr0b
  go_wp2_with fail
  refine (szStringS_any d1 a1 cap1 r0 s0 (unhid HZ1) (unhid HL1) (by omega) (by omega) ((unhid HA1).below (unhid HB0))).mono ?_
  rintro x s1 ⟨⟨r1, rfl, hr1a, hr1b⟩, hw⟩
  have hb : Below s0.heap.size s0 s1 := by rw [hw]; exact Below.refl _ _
  clear hw
  have HB1 := hid ((unhid HB0).trans (hb.mono (unhid HB0).size))
  clear hb
  clear HB0
  by_cases hneg1 : r1 < 0
  · go_wp2_with fail
    go_ret
    exact ⟨rfl, unhid HB1⟩
  have HT1 := hid (hr1b.resolve_left hneg1)
  have hr1c : 0 ≤ r1 := by omega
  clear hr1b
  have htot : (d0.length + totX d0) + (d1.length + totX d1) ≤ 1048576 := by have t0 := unhid HT0; have t1 := unhid HT1; omega
  have M0 := hid (smallX_of (show d0.length + totX d0 ≤ 1048576 by omega))
  have hc0 : cnt_x d0 ≤ 2097152 := by have := (unhid M0).1; unfold cnt_x; omega
  have M1 := hid (smallX_of (show d1.length + totX d1 ≤ 1048576 by omega))
  have hc1 : cnt_x d1 ≤ 2097152 := by have := (unhid M1).1; unfold cnt_x; omega
  have SR := hid (diffOf_small d0 d1 (unhid M0) (unhid M1))
  have R0 := hid (unhid SR)
  have rc0 : cnt_h (diffOf_0 d0 d1) ≤ 2097152 := by exact (unhid R0).2.1
  clear htot HT0 HT1
  have HC0 := hid rc0
  have HCA0 := hid hc0
  have HCA1 := hid hc1
  clear rc0 hc0 hc1
  have HORD := hid (show w.heap.size ≤ s1.heap.size from (unhid HB1).size)
  go_wp2_with fail
  clear hr0a hr0c hneg0 hr1a hr1c hneg1
  refine (to_x d0 a0 cap0 s1 (unhid M0) ((unhid HA0).below (unhid HB1))).mono ?_
  rintro x w3 ⟨v1, F2, rfl, hown, hfr, hb⟩
  have HB2 := hid ((unhid HB1).trans (hb.mono (unhid HB1).size))
  have HORD := hid (show w.heap.size ≤ w3.heap.size from by have o1 := unhid HORD; have o2 := hb.size; omega)
  clear hb HB1
  have X4 := hid hown
  have bX4 := hid hfr
  clear hown hfr
  go_wp2_with fail
  refine (to_x d1 a1 cap1 w3 (unhid M1) ((unhid HA1).below (unhid HB2))).mono ?_
  rintro x w7 ⟨v5, F6, rfl, hown, hfr, hb⟩
  have HB3 := hid ((unhid HB2).trans (hb.mono (unhid HB2).size))
  have HORD := hid (show w.heap.size ≤ w7.heap.size from by have o1 := unhid HORD; have o2 := hb.size; omega)
  have X4 := hid (fresh_frame (unhid X4) hb)
  clear hb HB2
  have X8 := hid hown
  have bX8 := hid hfr
  clear hown hfr
  go_wp2_with fail
  refine (diffOf_spec d0 d1 v1 F2 v5 F6 w7 (unhid M0) (unhid M1) (unhid X4) (unhid X8)).mono ?_
  rintro x w9 ⟨v10, F11, rfl, ho0, hf0, hb⟩
  have HORDO := HORD
  have HLOHI := hid (show w7.heap.size ≤ w9.heap.size from hb.size)
  have HB4 := hid ((unhid HB3).trans (hb.mono (unhid HB3).size))
  have HORD := hid (show w.heap.size ≤ w9.heap.size from by have o1 := unhid HORD; have o2 := hb.size; omega)
  have X4 := hid (fresh_frame (unhid X4) hb)
  have X8 := hid (fresh_frame (unhid X8) hb)
  clear hb HB3
  have HORD := hid (show w.heap.size ≤ w7.heap.size ∧ w7.heap.size ≤ w9.heap.size ∧ w9.heap.size ≤ w9.heap.size from by have o1 := unhid HORDO; have o2 := unhid HORD; have o3 := unhid HLOHI; omega)
  clear HORDO HLOHI
  have S0 := hid ho0
  have bS0 := hid hf0
  clear ho0 hf0
  clear X4 bX4
  clear X8 bX8
  go_wp2_with fail
  refine (to_x d0 a0 cap0 w9 (unhid M0) ((unhid HA0).below (unhid HB4))).mono ?_
  rintro x w14 ⟨v12, F13, rfl, hown, hfr, hb⟩
  have HORDO := HORD
  have HLOHI := hid (show w9.heap.size ≤ w14.heap.size from hb.size)
  have HB5 := hid ((unhid HB4).trans (hb.mono (unhid HB4).size))
  have HORD := hid (show w.heap.size ≤ w7.heap.size ∧ w7.heap.size ≤ w9.heap.size ∧ w9.heap.size ≤ w14.heap.size from by have o1 := unhid HORD; have o2 := hb.size; omega)
  have S0 := hid (fresh_frame (unhid S0) hb)
  clear hb HB4
  have HORD := hid (show w.heap.size ≤ w7.heap.size ∧ w7.heap.size ≤ w9.heap.size ∧ w9.heap.size ≤ w14.heap.size ∧ w14.heap.size ≤ w14.heap.size from by have o1 := unhid HORDO; have o2 := unhid HORD; have o3 := unhid HLOHI; omega)
  clear HORDO HLOHI
  have X15 := hid hown
  have bX15 := hid hfr
  clear hown hfr
  go_wp2_with fail
  refine (to_x d1 a1 cap1 w14 (unhid M1) ((unhid HA1).below (unhid HB5))).mono ?_
  rintro x w18 ⟨v16, F17, rfl, hown, hfr, hb⟩
  have HORDO := HORD
  have HLOHI := hid (show w14.heap.size ≤ w18.heap.size from hb.size)
  have HB6 := hid ((unhid HB5).trans (hb.mono (unhid HB5).size))
  have HORD := hid (show w.heap.size ≤ w7.heap.size ∧ w7.heap.size ≤ w9.heap.size ∧ w9.heap.size ≤ w14.heap.size ∧ w14.heap.size ≤ w18.heap.size from by have o1 := unhid HORD; have o2 := hb.size; omega)
  have S0 := hid (fresh_frame (unhid S0) hb)
  have X15 := hid (fresh_frame (unhid X15) hb)
  clear hb HB5
  have HORD := hid (show w.heap.size ≤ w7.heap.size ∧ w7.heap.size ≤ w9.heap.size ∧ w9.heap.size ≤ w14.heap.size ∧ w14.heap.size ≤ w18.heap.size ∧ w18.heap.size ≤ w18.heap.size from by have o1 := unhid HORDO; have o2 := unhid HORD; have o3 := unhid HLOHI; omega)
  clear HORDO HLOHI
  have X19 := hid hown
  have bX19 := hid hfr
  clear hown hfr
  go_wp2_with fail
  refine (diffOf_impl d0 d1 v12 F13 v16 F17 w18 (unhid M0) (unhid M1) (unhid X15) (unhid X19)).mono ?_
  rintro x w20 ⟨v21, F22, rfl, ho0, hf0, hb⟩
  have HORDO := HORD
  have HLOHI := hid (show w18.heap.size ≤ w20.heap.size from hb.size)
  have HB7 := hid ((unhid HB6).trans (hb.mono (unhid HB6).size))
  have HORD := hid (show w.heap.size ≤ w7.heap.size ∧ w7.heap.size ≤ w9.heap.size ∧ w9.heap.size ≤ w14.heap.size ∧ w14.heap.size ≤ w18.heap.size ∧ w18.heap.size ≤ w20.heap.size from by have o1 := unhid HORD; have o2 := hb.size; omega)
  have S0 := hid (fresh_frame (unhid S0) hb)
  have X15 := hid (fresh_frame (unhid X15) hb)
  have X19 := hid (fresh_frame (unhid X19) hb)
  clear hb HB6
  have HORD := hid (show w.heap.size ≤ w7.heap.size ∧ w7.heap.size ≤ w9.heap.size ∧ w9.heap.size ≤ w14.heap.size ∧ w14.heap.size ≤ w18.heap.size ∧ w18.heap.size ≤ w20.heap.size ∧ w20.heap.size ≤ w20.heap.size from by have o1 := unhid HORDO; have o2 := unhid HORD; have o3 := unhid HLOHI; omega)
  clear HORDO HLOHI
  have G0 := hid ho0
  have bG0 := hid hf0
  clear ho0 hf0
  go_wp2_with fail
  refine (eq_h (diffOf_0 d0 d1) v21 v10 F22 F11 w20 (unhid R0) (unhid G0) (unhid S0)).mono ?_
  rintro x w23 ⟨rfl, hb⟩
  have HB8 := hid ((unhid HB7).trans (hb.mono (unhid HB7).size))
  have HORD := hid (show w.heap.size ≤ w7.heap.size ∧ w7.heap.size ≤ w9.heap.size ∧ w9.heap.size ≤ w14.heap.size ∧ w14.heap.size ≤ w18.heap.size ∧ w18.heap.size ≤ w20.heap.size ∧ w20.heap.size ≤ w23.heap.size from by have o1 := unhid HORD; have o2 := hb.size; omega)
  have S0 := hid (fresh_frame (unhid S0) hb)
  have X15 := hid (fresh_frame (unhid X15) hb)
  have X19 := hid (fresh_frame (unhid X19) hb)
  have G0 := hid (fresh_frame (unhid G0) hb)
  clear hb HB7
  go_wp2_with fail
  refine (to_x d0 a0 cap0 w23 (unhid M0) ((unhid HA0).below (unhid HB8))).mono ?_
  rintro x w26 ⟨v24, F25, rfl, hown, hfr, hb⟩
  have HB9 := hid ((unhid HB8).trans (hb.mono (unhid HB8).size))
  have HORD := hid (show w.heap.size ≤ w7.heap.size ∧ w7.heap.size ≤ w9.heap.size ∧ w9.heap.size ≤ w14.heap.size ∧ w14.heap.size ≤ w18.heap.size ∧ w18.heap.size ≤ w20.heap.size ∧ w20.heap.size ≤ w26.heap.size from by have o1 := unhid HORD; have o2 := hb.size; omega)
  have S0 := hid (fresh_frame (unhid S0) hb)
  have X15 := hid (fresh_frame (unhid X15) hb)
  have X19 := hid (fresh_frame (unhid X19) hb)
  have G0 := hid (fresh_frame (unhid G0) hb)
  clear hb HB8
  have X27 := hid hown
  have bX27 := hid hfr
  clear hown hfr
  go_wp2_with fail
  refine (eq_x d0 v12 v24 F13 F25 w26 (unhid M0) (unhid X15) (unhid X27)).mono ?_
  rintro x w28 ⟨rfl, hb⟩
  have HB10 := hid ((unhid HB9).trans (hb.mono (unhid HB9).size))
  have HORD := hid (show w.heap.size ≤ w7.heap.size ∧ w7.heap.size ≤ w9.heap.size ∧ w9.heap.size ≤ w14.heap.size ∧ w14.heap.size ≤ w18.heap.size ∧ w18.heap.size ≤ w20.heap.size ∧ w20.heap.size ≤ w28.heap.size from by have o1 := unhid HORD; have o2 := hb.size; omega)
  have S0 := hid (fresh_frame (unhid S0) hb)
  have X15 := hid (fresh_frame (unhid X15) hb)
  have X19 := hid (fresh_frame (unhid X19) hb)
  have G0 := hid (fresh_frame (unhid G0) hb)
  have X27 := hid (fresh_frame (unhid X27) hb)
  clear hb HB9
  clear X27 bX27
  go_wp2_with fail
  refine (to_x d1 a1 cap1 w28 (unhid M1) ((unhid HA1).below (unhid HB10))).mono ?_
  rintro x w31 ⟨v29, F30, rfl, hown, hfr, hb⟩
  have HB11 := hid ((unhid HB10).trans (hb.mono (unhid HB10).size))
  have HORD := hid (show w.heap.size ≤ w7.heap.size ∧ w7.heap.size ≤ w9.heap.size ∧ w9.heap.size ≤ w14.heap.size ∧ w14.heap.size ≤ w18.heap.size ∧ w18.heap.size ≤ w20.heap.size ∧ w20.heap.size ≤ w31.heap.size from by have o1 := unhid HORD; have o2 := hb.size; omega)
  have S0 := hid (fresh_frame (unhid S0) hb)
  have X15 := hid (fresh_frame (unhid X15) hb)
  have X19 := hid (fresh_frame (unhid X19) hb)
  have G0 := hid (fresh_frame (unhid G0) hb)
  clear hb HB10
  have X32 := hid hown
  have bX32 := hid hfr
  clear hown hfr
  go_wp2_with fail
  refine (eq_x d1 v16 v29 F17 F30 w31 (unhid M1) (unhid X19) (unhid X32)).mono ?_
  rintro x w33 ⟨rfl, hb⟩
  have HB12 := hid ((unhid HB11).trans (hb.mono (unhid HB11).size))
  have HORD := hid (show w.heap.size ≤ w7.heap.size ∧ w7.heap.size ≤ w9.heap.size ∧ w9.heap.size ≤ w14.heap.size ∧ w14.heap.size ≤ w18.heap.size ∧ w18.heap.size ≤ w20.heap.size ∧ w20.heap.size ≤ w33.heap.size from by have o1 := unhid HORD; have o2 := hb.size; omega)
  have S0 := hid (fresh_frame (unhid S0) hb)
  have X15 := hid (fresh_frame (unhid X15) hb)
  have X19 := hid (fresh_frame (unhid X19) hb)
  have G0 := hid (fresh_frame (unhid G0) hb)
  have X32 := hid (fresh_frame (unhid X32) hb)
  clear hb HB11
  clear X32 bX32
  go_wp2_with fail
  have MK := fun c hc => mark_x d0 v12 F13 (1) c hc w33 (unhid M0) (by omega) (by skip; have t0 := unhid HCA0; have t1 := unhid HCA1; omega) (unhid X15)
  refine (MK _ (by omega)).mono ?_
  rintro x w34 ⟨rfl, hown, ho⟩
  clear MK
  have S0 := hid (only_frame (unhid S0) ho (fun k hk e => by have b1 := (unhid bS0) k hk; have b2 := (unhid bX15) k e; have o1 := unhid HORD; omega))
  have X19 := hid (only_frame (unhid X19) ho (fun k hk e => by have b1 := (unhid bX19) k hk; have b2 := (unhid bX15) k e; have o1 := unhid HORD; omega))
  have G0 := hid (only_frame (unhid G0) ho (fun k hk e => by have b1 := (unhid bG0) k hk; have b2 := (unhid bX15) k e; have o1 := unhid HORD; omega))
  have HB13 := hid ((ho.inside (unhid bX15)).below (unhid HB12) (by have o1 := unhid HORD; omega))
  have HORD := hid (show w.heap.size ≤ w7.heap.size ∧ w7.heap.size ≤ w9.heap.size ∧ w9.heap.size ≤ w14.heap.size ∧ w14.heap.size ≤ w18.heap.size ∧ w18.heap.size ≤ w20.heap.size ∧ w20.heap.size ≤ w34.heap.size from by have o1 := unhid HORD; have o2 := ho.size; omega)
  have X15 := hid hown
  clear ho hown HB12
  go_wp2_with fail
  have MK := fun c hc => mark_x d1 v16 F17 (1 + cnt_x d0) c hc w34 (unhid M1) (by omega) (by skip; have t0 := unhid HCA0; have t1 := unhid HCA1; omega) (unhid X19)
  refine (MK _ (by omega)).mono ?_
  rintro x w35 ⟨rfl, hown, ho⟩
  clear MK
  have S0 := hid (only_frame (unhid S0) ho (fun k hk e => by have b1 := (unhid bS0) k hk; have b2 := (unhid bX19) k e; have o1 := unhid HORD; omega))
  have X15 := hid (only_frame (unhid X15) ho (fun k hk e => by have b1 := (unhid bX15) k hk; have b2 := (unhid bX19) k e; have o1 := unhid HORD; omega))
  have G0 := hid (only_frame (unhid G0) ho (fun k hk e => by have b1 := (unhid bG0) k hk; have b2 := (unhid bX19) k e; have o1 := unhid HORD; omega))
  have HB14 := hid ((ho.inside (unhid bX19)).below (unhid HB13) (by have o1 := unhid HORD; omega))
  have HORD := hid (show w.heap.size ≤ w7.heap.size ∧ w7.heap.size ≤ w9.heap.size ∧ w9.heap.size ≤ w14.heap.size ∧ w14.heap.size ≤ w18.heap.size ∧ w18.heap.size ≤ w20.heap.size ∧ w20.heap.size ≤ w35.heap.size from by have o1 := unhid HORD; have o2 := ho.size; omega)
  have X19 := hid hown
  clear ho hown HB13
  clear X15 bX15
  clear X19 bX19
  have hkpos : ¬ (((1 : Int) + (cnt_x d0 : Int) + (cnt_x d1 : Int) : Int) < 0) := by omega
  go_wp2_with fail
  refine (eq_h (diffOf_0 d0 d1) v21 v10 F22 F11 w35 (unhid R0) (unhid G0) (unhid S0)).mono ?_
  rintro x w36 ⟨rfl, hb⟩
  have HB15 := hid ((unhid HB14).trans (hb.mono (unhid HB14).size))
  have HORD := hid (show w.heap.size ≤ w7.heap.size ∧ w7.heap.size ≤ w9.heap.size ∧ w9.heap.size ≤ w14.heap.size ∧ w14.heap.size ≤ w18.heap.size ∧ w18.heap.size ≤ w20.heap.size ∧ w20.heap.size ≤ w36.heap.size from by have o1 := unhid HORD; have o2 := hb.size; omega)
  have S0 := hid (fresh_frame (unhid S0) hb)
  have G0 := hid (fresh_frame (unhid G0) hb)
  clear hb HB14
  clear hkpos
  go_wp2_with fail
  have MK := fun c hc => mark_h (diffOf_0 d0 d1) v21 F22 (1) c hc w36 (unhid R0) (by omega) (by skip; have t0 := unhid HC0; omega) (unhid G0)
  refine (MK _ (by omega)).mono ?_
  rintro x w37 ⟨rfl, hown, ho⟩
  clear MK
  have S0 := hid (only_frame (unhid S0) ho (fun k hk e => by have b1 := (unhid bS0) k hk; have b2 := (unhid bG0) k e; have o1 := unhid HORD; omega))
  have HB16 := hid ((ho.inside (unhid bG0)).below (unhid HB15) (by have o1 := unhid HORD; omega))
  have HORD := hid (show w.heap.size ≤ w7.heap.size ∧ w7.heap.size ≤ w9.heap.size ∧ w9.heap.size ≤ w14.heap.size ∧ w14.heap.size ≤ w18.heap.size ∧ w18.heap.size ≤ w20.heap.size ∧ w20.heap.size ≤ w37.heap.size from by have o1 := unhid HORD; have o2 := ho.size; omega)
  have G0 := hid hown
  clear ho hown HB15
  go_wp2_with fail
  have HL := fun c hc => held_h (diffOf_0 d0 d1) v21 F22 (1) c hc w37 (unhid R0) (by omega) (by skip; have t0 := unhid HC0; omega) (unhid G0)
  refine (HL _ (by omega)).mono ?_
  rintro x w38 ⟨rfl, hb⟩
  clear HL
  have HB17 := hid ((unhid HB16).trans (hb.mono (unhid HB16).size))
  have HORD := hid (show w.heap.size ≤ w7.heap.size ∧ w7.heap.size ≤ w9.heap.size ∧ w9.heap.size ≤ w14.heap.size ∧ w14.heap.size ≤ w18.heap.size ∧ w18.heap.size ≤ w20.heap.size ∧ w20.heap.size ≤ w38.heap.size from by have o1 := unhid HORD; have o2 := hb.size; omega)
  have S0 := hid (fresh_frame (unhid S0) hb)
  have G0 := hid (fresh_frame (unhid G0) hb)
  clear hb HB16
  have hkposG0 : ¬ (((1 : Int) + (cnt_h (diffOf_0 d0 d1) : Int) : Int) < 0) := by omega
  go_wp2_with fail
  refine (to_x d0 a0 cap0 w38 (unhid M0) ((unhid HA0).below (unhid HB17))).mono ?_
  rintro x w41 ⟨v39, F40, rfl, hown, hfr, hb⟩
  have HB18 := hid ((unhid HB17).trans (hb.mono (unhid HB17).size))
  have HORD := hid (show w.heap.size ≤ w7.heap.size ∧ w7.heap.size ≤ w9.heap.size ∧ w9.heap.size ≤ w14.heap.size ∧ w14.heap.size ≤ w18.heap.size ∧ w18.heap.size ≤ w20.heap.size ∧ w20.heap.size ≤ w41.heap.size from by have o1 := unhid HORD; have o2 := hb.size; omega)
  have S0 := hid (fresh_frame (unhid S0) hb)
  have G0 := hid (fresh_frame (unhid G0) hb)
  clear hb HB17
  have X42 := hid hown
  have bX42 := hid hfr
  clear hown hfr
  go_wp2_with fail
  refine (to_x d1 a1 cap1 w41 (unhid M1) ((unhid HA1).below (unhid HB18))).mono ?_
  rintro x w45 ⟨v43, F44, rfl, hown, hfr, hb⟩
  have HB19 := hid ((unhid HB18).trans (hb.mono (unhid HB18).size))
  have HORD := hid (show w.heap.size ≤ w7.heap.size ∧ w7.heap.size ≤ w9.heap.size ∧ w9.heap.size ≤ w14.heap.size ∧ w14.heap.size ≤ w18.heap.size ∧ w18.heap.size ≤ w20.heap.size ∧ w20.heap.size ≤ w45.heap.size from by have o1 := unhid HORD; have o2 := hb.size; omega)
  have S0 := hid (fresh_frame (unhid S0) hb)
  have G0 := hid (fresh_frame (unhid G0) hb)
  have X42 := hid (fresh_frame (unhid X42) hb)
  clear hb HB18
  have X46 := hid hown
  have bX46 := hid hfr
  clear hown hfr
  go_wp2_with fail
  refine (diffOf_impl d0 d1 v39 F40 v43 F44 w45 (unhid M0) (unhid M1) (unhid X42) (unhid X46)).mono ?_
  rintro x w47 ⟨v48, F49, rfl, ho0, hf0, hb⟩
  have HB20 := hid ((unhid HB19).trans (hb.mono (unhid HB19).size))
  have HORD := hid (show w.heap.size ≤ w7.heap.size ∧ w7.heap.size ≤ w9.heap.size ∧ w9.heap.size ≤ w14.heap.size ∧ w14.heap.size ≤ w18.heap.size ∧ w18.heap.size ≤ w20.heap.size ∧ w20.heap.size ≤ w47.heap.size from by have o1 := unhid HORD; have o2 := hb.size; omega)
  have S0 := hid (fresh_frame (unhid S0) hb)
  have G0 := hid (fresh_frame (unhid G0) hb)
  have X42 := hid (fresh_frame (unhid X42) hb)
  have X46 := hid (fresh_frame (unhid X46) hb)
  clear hb HB19
  have H0 := hid ho0
  have bH0 := hid hf0
  clear ho0 hf0
  clear X42 bX42
  clear X46 bX46
  clear hkposG0
  go_wp2_with fail
  refine (eq_h (diffOf_0 d0 d1) v48 v10 F49 F11 w47 (unhid R0) (unhid H0) (unhid S0)).mono ?_
  rintro x w50 ⟨rfl, hb⟩
  have HB21 := hid ((unhid HB20).trans (hb.mono (unhid HB20).size))
  have HORD := hid (show w.heap.size ≤ w7.heap.size ∧ w7.heap.size ≤ w9.heap.size ∧ w9.heap.size ≤ w14.heap.size ∧ w14.heap.size ≤ w18.heap.size ∧ w18.heap.size ≤ w20.heap.size ∧ w20.heap.size ≤ w50.heap.size from by have o1 := unhid HORD; have o2 := hb.size; omega)
  have S0 := hid (fresh_frame (unhid S0) hb)
  have G0 := hid (fresh_frame (unhid G0) hb)
  have H0 := hid (fresh_frame (unhid H0) hb)
  clear hb HB20
  clear H0 bH0
  go_wp2_with fail
  have HL := fun c hc => held_h (diffOf_0 d0 d1) v21 F22 (1) c hc w50 (unhid R0) (by omega) (by skip; have t0 := unhid HC0; omega) (unhid G0)
  refine (HL _ (by omega)).mono ?_
  rintro x w51 ⟨rfl, hb⟩
  clear HL
  have HB22 := hid ((unhid HB21).trans (hb.mono (unhid HB21).size))
  have HORD := hid (show w.heap.size ≤ w7.heap.size ∧ w7.heap.size ≤ w9.heap.size ∧ w9.heap.size ≤ w14.heap.size ∧ w14.heap.size ≤ w18.heap.size ∧ w18.heap.size ≤ w20.heap.size ∧ w20.heap.size ≤ w51.heap.size from by have o1 := unhid HORD; have o2 := hb.size; omega)
  have S0 := hid (fresh_frame (unhid S0) hb)
  have G0 := hid (fresh_frame (unhid G0) hb)
  clear hb HB21
  have hkposG0 : ¬ (((1 : Int) + (cnt_h (diffOf_0 d0 d1) : Int) : Int) < 0) := by omega
  go_wp2_with fail
  go_ret
  exact ⟨rfl, unhid HB22⟩

set_option maxRecDepth 100000 in
set_option maxHeartbeats 1000000 in
theorem lifted_FnExactDiffOf (os : Os) (started : os.Started) (H : Type) (enc : TypeId × Value → H) :
    ReturnsInHanded {} Try.checked os 4 .any (Rows.fnExactDiffOfSpec.pre6 enc Try.prog Try.f4 Rows.fnExactDiffOfRow.domain false) (Rows.fnExactDiffOfSpec.post enc Try.prog Try.f4 false true false false) := by
  refine returnsInHanded_of_change (C := Try.checked) own started (by kernel_rfl) Try.func4
    (ChangeSpec.witness6 (enc := enc) (C := Try.checked) false ⟨#[], #[.slice none 0 0, .slice none 0 0], []⟩ 8 (by kernel_rfl) (by kernel_rfl) (by kernel_rfl) (by kernel_rfl)) ?_
  intro W base args ds gs before hval0 hW _ _
  have hval : ∀ (j : Nat) t v, Try.f4.params[j]? = some t → args[j]? = some v → Value.okWide Try.prog W .any base t v := hval0
  have hW' := hW
  obtain ⟨p, q, hA0, hV, rfl, hfz, hnd⟩ := hW
  have hA : DataW.TrodAll enc Try.prog W 0 (fun _ => true) true Try.f4.params.toList args.toList ds p := hA0
  rw [Try.params4] at hA hval
  obtain ⟨v0, vs0, d0, ds0, p0, q0, e0, rfl, rfl, h0, r0⟩ := trodAll_cons hA
  obtain ⟨v1, vs1, d1, ds1, p1, q1, e1, rfl, rfl, h1, r1⟩ := trodAll_cons r0
  obtain ⟨rfl, rfl, rfl⟩ := trodAll_nil r1
  obtain rfl : args = #[v0, v1] := by cases args; simp_all
  obtain ⟨rfl, rfl⟩ := trodVars_none hV
  have hlt : ∀ x ∈ p0 ++ p1, x.block < W.heap.size := fun x hx => by simpa using hW'.lt x (by simpa using hx)
  have t0 := h0
  have l0 : ∀ x ∈ p0, x.block < W.heap.size := fun x hx => hlt x (by simp [hx])
  have t1 := h1
  have l1 : ∀ x ∈ p1, x.block < W.heap.size := fun x hx => hlt x (by simp [hx])
  obtain ⟨es0, a0, cap0, rfl, hbig0, hlen0, hents0⟩ := txts_of (okWide_slice Try.underlying29 (hval 0 29 v0 rfl rfl)) h0 l0
  obtain ⟨es1, a1, cap1, rfl, hbig1, hlen1, hents1⟩ := txts_of (okWide_slice Try.underlying29 (hval 1 29 v1 rfl rfl)) h1 l1
  clear hA0 hval0
  refine (walk_FnExactDiffOf es0 a0 cap0 es1 a1 cap1 W hbig0 hlen0 hents0 hbig1 hlen1 hents1).mono fun e W' ⟨he, hb⟩ => ?_
  subst he
  exact ⟨_, rfl, post_below (gs := []) (pv := []) hW' (fun _ _ _ => trodAll_cons_mk (shut_bool Try.underlying4 _) trodAll_mk0) (trodAll_cons_mk (Below.trod laidOut (by kernel_rfl) (of_decide_eq_true (by kernel_rfl)) t0 hb l0) (trodAll_cons_mk (Below.trod laidOut (by kernel_rfl) (of_decide_eq_true (by kernel_rfl)) t1 hb l1) trodAll_mk0)) rfl (by simp) hb⟩

theorem fnExactDiffOf_holds : Rows.FnExactDiffOfSaid :=
  OpenClaim.holds_of_wide 4 Try.f4 rfl rfl rfl rfl rfl rfl rfl ⟨rfl, rfl, rfl, rfl, rfl⟩ rfl rfl rfl rfl rfl (by kernel_rfl) Try.func4 (by kernel_rfl)
    (of_decide_eq_true (by kernel_rfl)) (by unfold Func.isWrapper; first | (rw [if_pos (by decide +kernel)]; kernel_rfl) | (rw [if_neg (by decide +kernel)]; exact ⟨rfl, rfl⟩))
    (fun os started H enc _ => lifted_FnExactDiffOf os started H enc)
end Go.Proofs.Ytedimkcnemhhpaa

