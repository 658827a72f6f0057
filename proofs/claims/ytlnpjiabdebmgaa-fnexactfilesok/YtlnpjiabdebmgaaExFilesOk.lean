/- For all arguments the program's FilesOk answers as its model does; it writes into no argument, and what it answers is its own. -/
import Derived.Test.YtlnpjiabdebmgaaFilesOk
import Derived.Test.YtlnpjiabdebmgaaOFile
import Derived.Test.YtlnpjiabdebmgaaRowKit
namespace Go.Proofs.Ytlnpjiabdebmgaa
open Go.ChangeShapes Go.WideShapes Go.ChangeAt Go.RowKit Go.Shelf

set_option maxRecDepth 100000 in
set_option maxHeartbeats 16000000 in
theorem walk_FnExactFilesOk (d0 : List fileC.D) (V0 : Value) (w : World) (hz0 : (d0.length ≤ maxLen ∧ ∀ d ∈ d0, fileC.big d)) (h0 : rowAt fileC w V0 d0) :
    Calls Try.prog 3 #[V0] w fun x w' => x = .returned (.bool true) ∧ Below w.heap.size w w' := by
  have HA0 := hid h0
  have HZ0 := hid hz0
  clear h0 hz0
  go_enter Try.func3, Try.ntmps3
  go_wp2_with fail
  refine (vszFileS_v d0 V0 1048576 w (unhid HZ0) (by omega) (by omega) (unhid HA0)).mono ?_
  rintro x s0 ⟨⟨r0, rfl, hr0a, hr0b⟩, hb⟩
  have HB0 := hid (hb)
  clear hb
  by_cases hneg0 : r0 < 0
  · go_wp2_with fail
    go_ret
    exact ⟨rfl, unhid HB0⟩
  have HT0 := hid (hr0b.resolve_left hneg0)
  have hr0c : 0 ≤ r0 := by omega
  clear hr0b
  have htot : (d0.length + szR fileC d0) ≤ 1048576 := by skip; have t0 := unhid HT0; omega
  have M0 := hid (show (d0.length + szR fileC d0) ≤ 1048576 ∧ (d0.length ≤ maxLen ∧ ∀ d ∈ d0, fileC.big d) from ⟨by omega, unhid HZ0⟩)
  clear htot HT0
  have HORD := hid (show w.heap.size ≤ s0.heap.size from (unhid HB0).size)
  go_wp2_with fail
  clear hr0a hr0c hneg0
  refine (vtoFileS_v d0 V0 s0 (unhid M0).1 (rowAt.below (unhid HA0) (unhid HB0))).mono ?_
  rintro x w3 ⟨v1, F2, rfl, hown, hfr, hb⟩
  have HB1 := hid ((unhid HB0).trans (hb.mono (unhid HB0).size))
  have HORD := hid (show w.heap.size ≤ w3.heap.size from by have o1 := unhid HORD; have o2 := hb.size; omega)
  clear hb HB0
  have X4 := hid hown
  have bX4 := hid hfr
  clear hown hfr
  go_wp2_with fail
  refine (filesOk_spec d0 v1 F2 w3 (unhid M0) (unhid X4)).mono ?_
  rintro x w5 ⟨rfl, hb⟩
  have HB2 := hid ((unhid HB1).trans (hb.mono (unhid HB1).size))
  have HORD := hid (show w.heap.size ≤ w5.heap.size from by have o1 := unhid HORD; have o2 := hb.size; omega)
  have X4 := hid (vfresh (unhid X4) hb)
  clear hb HB1
  clear X4 bX4
  go_wp2_with fail
  refine (vtoFileS_v d0 V0 w5 (unhid M0).1 (rowAt.below (unhid HA0) (unhid HB2))).mono ?_
  rintro x w8 ⟨v6, F7, rfl, hown, hfr, hb⟩
  have HORDO := HORD
  have HLOHI := hid (show w5.heap.size ≤ w8.heap.size from hb.size)
  have HB3 := hid ((unhid HB2).trans (hb.mono (unhid HB2).size))
  have HORD := hid (show w.heap.size ≤ w8.heap.size from by have o1 := unhid HORD; have o2 := hb.size; omega)
  clear hb HB2
  have HORD := hid (show w.heap.size ≤ w5.heap.size ∧ w5.heap.size ≤ w8.heap.size ∧ w8.heap.size ≤ w8.heap.size from by have o1 := unhid HORDO; have o2 := unhid HORD; have o3 := unhid HLOHI; omega)
  clear HORDO HLOHI
  have X9 := hid hown
  have bX9 := hid hfr
  clear hown hfr
  go_wp2_with fail
  refine (filesOk_impl d0 v6 F7 w8 (unhid M0) (unhid X9)).mono ?_
  rintro x w10 ⟨rfl, hb⟩
  have HB4 := hid ((unhid HB3).trans (hb.mono (unhid HB3).size))
  have HORD := hid (show w.heap.size ≤ w5.heap.size ∧ w5.heap.size ≤ w8.heap.size ∧ w8.heap.size ≤ w10.heap.size from by have o1 := unhid HORD; have o2 := hb.size; omega)
  have X9 := hid (vfresh (unhid X9) hb)
  clear hb HB3
  go_wp2_with fail
  refine (vtoFileS_v d0 V0 w10 (unhid M0).1 (rowAt.below (unhid HA0) (unhid HB4))).mono ?_
  rintro x w13 ⟨v11, F12, rfl, hown, hfr, hb⟩
  have HB5 := hid ((unhid HB4).trans (hb.mono (unhid HB4).size))
  have HORD := hid (show w.heap.size ≤ w5.heap.size ∧ w5.heap.size ≤ w8.heap.size ∧ w8.heap.size ≤ w13.heap.size from by have o1 := unhid HORD; have o2 := hb.size; omega)
  have X9 := hid (vfresh (unhid X9) hb)
  clear hb HB4
  have X14 := hid hown
  have bX14 := hid hfr
  clear hown hfr
  go_wp2_with fail
  refine (veqFileS_v d0 v6 v11 F7 F12 w13 (unhid M0).2 (unhid X9) (unhid X14)).mono ?_
  rintro x w15 ⟨rfl, hb⟩
  have HB6 := hid ((unhid HB5).trans (hb.mono (unhid HB5).size))
  have HORD := hid (show w.heap.size ≤ w5.heap.size ∧ w5.heap.size ≤ w8.heap.size ∧ w8.heap.size ≤ w15.heap.size from by have o1 := unhid HORD; have o2 := hb.size; omega)
  have X9 := hid (vfresh (unhid X9) hb)
  have X14 := hid (vfresh (unhid X14) hb)
  clear hb HB5
  clear X14 bX14
  go_wp2_with fail
  go_ret
  exact ⟨rfl, unhid HB6⟩

set_option maxRecDepth 100000 in
set_option maxHeartbeats 1000000 in
theorem lifted_FnExactFilesOk (os : Os) (started : os.Started) (H : Type) (enc : TypeId × Value → H) :
    ReturnsInHanded {} Try.checked os 3 .any (Rows.fnExactFilesOkSpec.pre6 enc Try.prog Try.f3 Rows.fnExactFilesOkRow.domain false) (Rows.fnExactFilesOkSpec.post enc Try.prog Try.f3 false true false false) := by
  refine returnsInHanded_of_change (C := Try.checked) own started (by kernel_rfl) Try.func3
    (ChangeSpec.witness6 (enc := enc) (C := Try.checked) false ⟨#[], #[.slice none 0 0], []⟩ 8 (by kernel_rfl) (by kernel_rfl) (by kernel_rfl) (by kernel_rfl)) ?_
  intro W base args ds gs before hval0 hW _ _
  have hval : ∀ (j : Nat) t v, Try.f3.params[j]? = some t → args[j]? = some v → Value.okWide Try.prog W .any base t v := hval0
  have hW' := hW
  obtain ⟨p, q, hA0, hV, rfl, hfz, hnd⟩ := hW
  have hA : DataW.TrodAll enc Try.prog W 0 (fun _ => true) true Try.f3.params.toList args.toList ds p := hA0
  rw [Try.params3] at hA hval
  obtain ⟨v0, vs0, d0, ds0, p0, q0, e0, rfl, rfl, h0, r0⟩ := trodAll_cons hA
  obtain ⟨rfl, rfl, rfl⟩ := trodAll_nil r0
  obtain rfl : args = #[v0] := by cases args; simp_all
  obtain ⟨rfl, rfl⟩ := trodVars_none hV
  have hlt : ∀ x ∈ p0, x.block < W.heap.size := fun x hx => by simpa using hW'.lt x (by simpa using hx)
  have t0 := h0
  have l0 : ∀ x ∈ p0, x.block < W.heap.size := fun x hx => hlt x (by simp [hx])
  obtain ⟨f0, hat0, hbig0⟩ := file_ofS (hval 0 22 v0 rfl rfl) h0 l0
  clear hA0 hval0
  refine (walk_FnExactFilesOk f0 v0 W hbig0 hat0).mono fun e W' ⟨he, hb⟩ => ?_
  subst he
  exact ⟨_, rfl, post_below (gs := []) (pv := []) hW' (fun _ _ _ => trodAll_cons_mk (shut_bool Try.underlying4 _) trodAll_mk0) (trodAll_cons_mk (Below.trod laidOut (by kernel_rfl) (of_decide_eq_true (by kernel_rfl)) t0 hb l0) trodAll_mk0) rfl (by simp) hb⟩

theorem fnExactFilesOk_holds : Rows.FnExactFilesOkSaid :=
  OpenClaim.holds_of_wide 3 Try.f3 rfl rfl rfl rfl rfl rfl rfl ⟨rfl, rfl, rfl, rfl, rfl⟩ rfl rfl rfl rfl rfl (by kernel_rfl) Try.func3 (by kernel_rfl)
    (of_decide_eq_true (by kernel_rfl)) (by unfold Func.isWrapper; first | (rw [if_pos (by decide +kernel)]; kernel_rfl) | (rw [if_neg (by decide +kernel)]; exact ⟨rfl, rfl⟩))
    (fun os started H enc _ => lifted_FnExactFilesOk os started H enc)
end Go.Proofs.Ytlnpjiabdebmgaa

