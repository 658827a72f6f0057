/- Texts of this proof, one behind the other; each says at its head what it shows. -/
import Derived.Test.YtoihhlkidlapmaaGreatJoin10
import Derived.Test.YtoihhlkidlapmaaGreatJoin7
import Derived.Test.YtoihhlkidlapmaaGreatJoin2
import Derived.Test.YtoihhlkidlapmaaGreatJoin1
/- For all arguments the program's Needers answers as its model does; it writes into no argument, and what it answers is its own. -/
namespace Go.Proofs.YtoihhlkidlapmaaGreat
open Go.ChangeShapes Go.WideShapes Go.ChangeAt Go.RowKit Go.Shelf
open Go.ChangeMaps (open_string shut_string)

set_option maxRecDepth 100000 in
set_option maxHeartbeats 16000000 in
theorem walk_FnExactNeeders (d0 : List packC.D) (V0 : Value) (d1 : ByteArray) (w : World) (hz0 : (d0.length ≤ maxLen ∧ ∀ d ∈ d0, packC.big d)) (h0 : rowAt packC w V0 d0) (hz1 : d1.size ≤ maxLen) :
    Calls Tryz.prog 8 #[V0, .string d1] w fun x w' => x = .returned (.bool true) ∧ Below w.heap.size w w' := by
  have hs1 : d1.size ≤ 9223372036854775807 := hz1
  clear hz1
  have HA0 := hid h0
  have HZ0 := hid hz0
  clear h0 hz0
  by_cases hneg1 : (1048576 : Int) < (d1.size : Int)
  · go_enter Tryz.func8, Tryz.ntmps8
    go_wp2_with fail
    go_ret
    exact ⟨rfl, Below.refl _ _⟩
  go_enter Tryz.func8, Tryz.ntmps8
  go_wp2_with fail
  refine (vszPackS_v d0 V0 1048576 w (unhid HZ0) (by omega) (by omega) (unhid HA0)).mono ?_
  rintro x s0 ⟨⟨r0, rfl, hr0a, hr0b⟩, hb⟩
  have HB0 := hid (hb)
  clear hb
  by_cases hneg0 : r0 < 0
  · go_wp2_with fail
    go_ret
    exact ⟨rfl, unhid HB0⟩
  have HT0 := hid (hr0b.resolve_left hneg0)
  have hr0c : 0 ≤ r0 := by omega
  clear hr0b
  have htot : (d0.length + szR packC d0) ≤ 1048576 := by skip; have t0 := unhid HT0; omega
  have M0 := hid (show (d0.length + szR packC d0) ≤ 1048576 ∧ (d0.length ≤ maxLen ∧ ∀ d ∈ d0, packC.big d) from ⟨by omega, unhid HZ0⟩)
  have M1 := hid (show d1.size ≤ 1048576 by omega)
  have hc0 : (cntR packC d0) ≤ 8388608 := by have := cntPackS d0; omega
  have HTOT := hid htot
  have SR := hid (needers_small d0 d1 (unhid M0) (unhid M1) (unhid HTOT))
  have R0 := hid (unhid SR).1
  have rc0 : (cntR txtC (needers_0 d0 d1)) ≤ 9000000 := (unhid SR).2
  clear htot HT0
  have HC0 := hid rc0
  have HCA0 := hid hc0
  clear rc0 hc0
  have HORD := hid (show w.heap.size ≤ s0.heap.size from (unhid HB0).size)
  go_wp2_with fail
  clear hr0a hr0c hneg0 hneg1
  refine (vtoPackS_v d0 V0 s0 (unhid M0).1 (rowAt.below (unhid HA0) (unhid HB0))).mono ?_
  rintro x w3 ⟨v1, F2, rfl, hown, hfr, hb⟩
  have HB1 := hid ((unhid HB0).trans (hb.mono (unhid HB0).size))
  have HORD := hid (show w.heap.size ≤ w3.heap.size from by have o1 := unhid HORD; have o2 := hb.size; omega)
  clear hb HB0
  have X4 := hid hown
  have bX4 := hid hfr
  clear hown hfr
  go_wp2_with fail
  refine (needers_spec d0 d1 v1 F2 w3 (unhid M0) (unhid M1) (unhid X4)).mono ?_
  rintro x w5 ⟨v6, F7, rfl, ho0, hf0, hb⟩
  have HORDO := HORD
  have HLOHI := hid (show w3.heap.size ≤ w5.heap.size from hb.size)
  have HB2 := hid ((unhid HB1).trans (hb.mono (unhid HB1).size))
  have HORD := hid (show w.heap.size ≤ w5.heap.size from by have o1 := unhid HORD; have o2 := hb.size; omega)
  have X4 := hid (vfresh (unhid X4) hb)
  clear hb HB1
  have HORD := hid (show w.heap.size ≤ w3.heap.size ∧ w3.heap.size ≤ w5.heap.size ∧ w5.heap.size ≤ w5.heap.size from by have o1 := unhid HORDO; have o2 := unhid HORD; have o3 := unhid HLOHI; omega)
  clear HORDO HLOHI
  have S0 := hid ho0
  have bS0 := hid hf0
  clear ho0 hf0
  clear X4 bX4
  go_wp2_with fail
  refine (vtoPackS_v d0 V0 w5 (unhid M0).1 (rowAt.below (unhid HA0) (unhid HB2))).mono ?_
  rintro x w10 ⟨v8, F9, rfl, hown, hfr, hb⟩
  have HORDO := HORD
  have HLOHI := hid (show w5.heap.size ≤ w10.heap.size from hb.size)
  have HB3 := hid ((unhid HB2).trans (hb.mono (unhid HB2).size))
  have HORD := hid (show w.heap.size ≤ w3.heap.size ∧ w3.heap.size ≤ w5.heap.size ∧ w5.heap.size ≤ w10.heap.size from by have o1 := unhid HORD; have o2 := hb.size; omega)
  have S0 := hid (vfresh (unhid S0) hb)
  clear hb HB2
  have HORD := hid (show w.heap.size ≤ w3.heap.size ∧ w3.heap.size ≤ w5.heap.size ∧ w5.heap.size ≤ w10.heap.size ∧ w10.heap.size ≤ w10.heap.size from by have o1 := unhid HORDO; have o2 := unhid HORD; have o3 := unhid HLOHI; omega)
  clear HORDO HLOHI
  have X11 := hid hown
  have bX11 := hid hfr
  clear hown hfr
  go_wp2_with fail
  refine (needers_impl d0 d1 v8 F9 w10 (unhid M0) (unhid M1) (unhid X11)).mono ?_
  rintro x w12 ⟨v13, F14, rfl, ho0, hf0, hb⟩
  have HORDO := HORD
  have HLOHI := hid (show w10.heap.size ≤ w12.heap.size from hb.size)
  have HB4 := hid ((unhid HB3).trans (hb.mono (unhid HB3).size))
  have HORD := hid (show w.heap.size ≤ w3.heap.size ∧ w3.heap.size ≤ w5.heap.size ∧ w5.heap.size ≤ w10.heap.size ∧ w10.heap.size ≤ w12.heap.size from by have o1 := unhid HORD; have o2 := hb.size; omega)
  have S0 := hid (vfresh (unhid S0) hb)
  have X11 := hid (vfresh (unhid X11) hb)
  clear hb HB3
  have HORD := hid (show w.heap.size ≤ w3.heap.size ∧ w3.heap.size ≤ w5.heap.size ∧ w5.heap.size ≤ w10.heap.size ∧ w10.heap.size ≤ w12.heap.size ∧ w12.heap.size ≤ w12.heap.size from by have o1 := unhid HORDO; have o2 := unhid HORD; have o3 := unhid HLOHI; omega)
  clear HORDO HLOHI
  have G0 := hid ho0
  have bG0 := hid hf0
  clear ho0 hf0
  go_wp2_with fail
  refine (veqStringS_o (needers_0 d0 d1) v13 v6 F14 F7 w12 (unhid R0) (unhid G0) (unhid S0)).mono ?_
  rintro x w15 ⟨rfl, hb⟩
  have HB5 := hid ((unhid HB4).trans (hb.mono (unhid HB4).size))
  have HORD := hid (show w.heap.size ≤ w3.heap.size ∧ w3.heap.size ≤ w5.heap.size ∧ w5.heap.size ≤ w10.heap.size ∧ w10.heap.size ≤ w12.heap.size ∧ w12.heap.size ≤ w15.heap.size from by have o1 := unhid HORD; have o2 := hb.size; omega)
  have S0 := hid (vfresh (unhid S0) hb)
  have X11 := hid (vfresh (unhid X11) hb)
  have G0 := hid (vfresh (unhid G0) hb)
  clear hb HB4
  go_wp2_with fail
  refine (vtoPackS_v d0 V0 w15 (unhid M0).1 (rowAt.below (unhid HA0) (unhid HB5))).mono ?_
  rintro x w18 ⟨v16, F17, rfl, hown, hfr, hb⟩
  have HB6 := hid ((unhid HB5).trans (hb.mono (unhid HB5).size))
  have HORD := hid (show w.heap.size ≤ w3.heap.size ∧ w3.heap.size ≤ w5.heap.size ∧ w5.heap.size ≤ w10.heap.size ∧ w10.heap.size ≤ w12.heap.size ∧ w12.heap.size ≤ w18.heap.size from by have o1 := unhid HORD; have o2 := hb.size; omega)
  have S0 := hid (vfresh (unhid S0) hb)
  have X11 := hid (vfresh (unhid X11) hb)
  have G0 := hid (vfresh (unhid G0) hb)
  clear hb HB5
  have X19 := hid hown
  have bX19 := hid hfr
  clear hown hfr
  go_wp2_with fail
  refine (veqPackS_v d0 v8 v16 F9 F17 w18 (unhid M0).2 (unhid X11) (unhid X19)).mono ?_
  rintro x w20 ⟨rfl, hb⟩
  have HB7 := hid ((unhid HB6).trans (hb.mono (unhid HB6).size))
  have HORD := hid (show w.heap.size ≤ w3.heap.size ∧ w3.heap.size ≤ w5.heap.size ∧ w5.heap.size ≤ w10.heap.size ∧ w10.heap.size ≤ w12.heap.size ∧ w12.heap.size ≤ w20.heap.size from by have o1 := unhid HORD; have o2 := hb.size; omega)
  have S0 := hid (vfresh (unhid S0) hb)
  have X11 := hid (vfresh (unhid X11) hb)
  have G0 := hid (vfresh (unhid G0) hb)
  have X19 := hid (vfresh (unhid X19) hb)
  clear hb HB6
  clear X19 bX19
  go_wp2_with fail
  refine (vmarkPackS_v d0 v8 F9 (1) _ (by omega) w20 (by omega) (by skip; have t0 := unhid HCA0; omega) (unhid X11)).mono ?_
  rintro x w21 ⟨⟨r22, rfl, r22a, r22b⟩, hown, ho⟩
  have S0 := hid (vonly (unhid S0) ho (fun k hk e => by have b1 := (unhid bS0) k hk; have b2 := (unhid bX11) k e; have o1 := unhid HORD; omega))
  have G0 := hid (vonly (unhid G0) ho (fun k hk e => by have b1 := (unhid bG0) k hk; have b2 := (unhid bX11) k e; have o1 := unhid HORD; omega))
  have HB8 := hid ((ho.inside (unhid bX11)).below (unhid HB7) (by have o1 := unhid HORD; omega))
  have HORD := hid (show w.heap.size ≤ w3.heap.size ∧ w3.heap.size ≤ w5.heap.size ∧ w5.heap.size ≤ w10.heap.size ∧ w10.heap.size ≤ w12.heap.size ∧ w12.heap.size ≤ w21.heap.size from by have o1 := unhid HORD; have o2 := ho.size; omega)
  have X11 := hid hown
  clear ho hown HB7
  clear X11 bX11
  have hkpos : ¬ (r22 < 0) := by omega
  go_wp2_with fail
  refine (veqStringS_o (needers_0 d0 d1) v13 v6 F14 F7 w21 (unhid R0) (unhid G0) (unhid S0)).mono ?_
  rintro x w23 ⟨rfl, hb⟩
  have HB9 := hid ((unhid HB8).trans (hb.mono (unhid HB8).size))
  have HORD := hid (show w.heap.size ≤ w3.heap.size ∧ w3.heap.size ≤ w5.heap.size ∧ w5.heap.size ≤ w10.heap.size ∧ w10.heap.size ≤ w12.heap.size ∧ w12.heap.size ≤ w23.heap.size from by have o1 := unhid HORD; have o2 := hb.size; omega)
  have S0 := hid (vfresh (unhid S0) hb)
  have G0 := hid (vfresh (unhid G0) hb)
  clear hb HB8
  clear hkpos
  go_wp2_with fail
  refine (vmarkStringS_o (needers_0 d0 d1) v13 F14 (1) _ (by omega) w23 (by omega) (by skip; have t0 := unhid HC0; omega) (unhid G0)).mono ?_
  rintro x w24 ⟨⟨r25, rfl, r25a, r25b⟩, hown, ho⟩
  have S0 := hid (vonly (unhid S0) ho (fun k hk e => by have b1 := (unhid bS0) k hk; have b2 := (unhid bG0) k e; have o1 := unhid HORD; omega))
  have HB10 := hid ((ho.inside (unhid bG0)).below (unhid HB9) (by have o1 := unhid HORD; omega))
  have HORD := hid (show w.heap.size ≤ w3.heap.size ∧ w3.heap.size ≤ w5.heap.size ∧ w5.heap.size ≤ w10.heap.size ∧ w10.heap.size ≤ w12.heap.size ∧ w12.heap.size ≤ w24.heap.size from by have o1 := unhid HORD; have o2 := ho.size; omega)
  have G0 := hid hown
  clear ho hown HB9
  go_wp2_with fail
  refine (vheldStringS_o (needers_0 d0 d1) v13 F14 (1) _ (by omega) w24 (by omega) (by skip; have t0 := unhid HC0; omega) (unhid G0)).mono ?_
  rintro x w26 ⟨⟨r27, rfl, r27a, r27b⟩, hb⟩
  have HB11 := hid ((unhid HB10).trans (hb.mono (unhid HB10).size))
  have HORD := hid (show w.heap.size ≤ w3.heap.size ∧ w3.heap.size ≤ w5.heap.size ∧ w5.heap.size ≤ w10.heap.size ∧ w10.heap.size ≤ w12.heap.size ∧ w12.heap.size ≤ w26.heap.size from by have o1 := unhid HORD; have o2 := hb.size; omega)
  have S0 := hid (vfresh (unhid S0) hb)
  have G0 := hid (vfresh (unhid G0) hb)
  clear hb HB10
  have hkposr27 : ¬ (r27 < 0) := by omega
  have hqmr27 : (r27 != r25) = false := by rw [bne_eq_false_iff_eq]; omega
  go_wp2_with fail
  refine (vtoPackS_v d0 V0 w26 (unhid M0).1 (rowAt.below (unhid HA0) (unhid HB11))).mono ?_
  rintro x w30 ⟨v28, F29, rfl, hown, hfr, hb⟩
  have HB12 := hid ((unhid HB11).trans (hb.mono (unhid HB11).size))
  have HORD := hid (show w.heap.size ≤ w3.heap.size ∧ w3.heap.size ≤ w5.heap.size ∧ w5.heap.size ≤ w10.heap.size ∧ w10.heap.size ≤ w12.heap.size ∧ w12.heap.size ≤ w30.heap.size from by have o1 := unhid HORD; have o2 := hb.size; omega)
  have S0 := hid (vfresh (unhid S0) hb)
  have G0 := hid (vfresh (unhid G0) hb)
  clear hb HB11
  have X31 := hid hown
  have bX31 := hid hfr
  clear hown hfr
  go_wp2_with fail
  refine (needers_impl d0 d1 v28 F29 w30 (unhid M0) (unhid M1) (unhid X31)).mono ?_
  rintro x w32 ⟨v33, F34, rfl, ho0, hf0, hb⟩
  have HB13 := hid ((unhid HB12).trans (hb.mono (unhid HB12).size))
  have HORD := hid (show w.heap.size ≤ w3.heap.size ∧ w3.heap.size ≤ w5.heap.size ∧ w5.heap.size ≤ w10.heap.size ∧ w10.heap.size ≤ w12.heap.size ∧ w12.heap.size ≤ w32.heap.size from by have o1 := unhid HORD; have o2 := hb.size; omega)
  have S0 := hid (vfresh (unhid S0) hb)
  have G0 := hid (vfresh (unhid G0) hb)
  have X31 := hid (vfresh (unhid X31) hb)
  clear hb HB12
  have H0 := hid ho0
  have bH0 := hid hf0
  clear ho0 hf0
  clear X31 bX31
  clear hkposr27 hqmr27
  go_wp2_with fail
  refine (veqStringS_o (needers_0 d0 d1) v33 v6 F34 F7 w32 (unhid R0) (unhid H0) (unhid S0)).mono ?_
  rintro x w35 ⟨rfl, hb⟩
  have HB14 := hid ((unhid HB13).trans (hb.mono (unhid HB13).size))
  have HORD := hid (show w.heap.size ≤ w3.heap.size ∧ w3.heap.size ≤ w5.heap.size ∧ w5.heap.size ≤ w10.heap.size ∧ w10.heap.size ≤ w12.heap.size ∧ w12.heap.size ≤ w35.heap.size from by have o1 := unhid HORD; have o2 := hb.size; omega)
  have S0 := hid (vfresh (unhid S0) hb)
  have G0 := hid (vfresh (unhid G0) hb)
  have H0 := hid (vfresh (unhid H0) hb)
  clear hb HB13
  clear H0 bH0
  go_wp2_with fail
  refine (vheldStringS_o (needers_0 d0 d1) v13 F14 (1) _ (by omega) w35 (by omega) (by skip; have t0 := unhid HC0; omega) (unhid G0)).mono ?_
  rintro x w36 ⟨⟨r37, rfl, r37a, r37b⟩, hb⟩
  have HB15 := hid ((unhid HB14).trans (hb.mono (unhid HB14).size))
  have HORD := hid (show w.heap.size ≤ w3.heap.size ∧ w3.heap.size ≤ w5.heap.size ∧ w5.heap.size ≤ w10.heap.size ∧ w10.heap.size ≤ w12.heap.size ∧ w12.heap.size ≤ w36.heap.size from by have o1 := unhid HORD; have o2 := hb.size; omega)
  have S0 := hid (vfresh (unhid S0) hb)
  have G0 := hid (vfresh (unhid G0) hb)
  clear hb HB14
  have hkposr37 : ¬ (r37 < 0) := by omega
  have hqmr37 : (r37 != r25) = false := by rw [bne_eq_false_iff_eq]; omega
  go_wp2_with fail
  go_ret
  exact ⟨rfl, unhid HB15⟩
end Go.Proofs.YtoihhlkidlapmaaGreat
