/- For every need, name and version the program's NeedFits answers as its model does; the need is as it was. No condition. -/
import Derived.Test.YtcggeolljfjnmaaRowKit
import Derived.Test.YtcggeolljfjnmaaFits
import Derived.Lib.SmallJoins
namespace Go.Proofs.Ytcggeolljfjnmaa
open Go.ChangeShapes Go.WideShapes Go.ChangeAt Go.RowKit
open Go.ChangeMaps (open_string shut_string)

set_option maxRecDepth 100000 in
set_option maxHeartbeats 1000000 in
theorem walk_FnExactNeedFits (n : ByteArray) (k : Int) (v name ver : ByteArray) (hn : n.size ≤ maxLen) (hv : v.size ≤ maxLen) (hm : name.size ≤ maxLen) (hr : ver.size ≤ maxLen) (w : World) :
    Calls Try.prog 9 #[.agg #[.string n, .int .i64 k, .string v], .string name, .string ver] w fun e w' => e = .returned (.bool true) ∧ Below w.heap.size w w' := by
  have hm' : name.size ≤ 9223372036854775807 := hm
  have hr' : ver.size ≤ 9223372036854775807 := hr
  have HB0 := hid (show Below w.heap.size w (w.alloc (.cells #[.string n, .int .i64 k, .string v] 33)) from (Below.refl _ w).alloc (Nat.le_refl _) _)
  have fcell : ∀ w1 : World, Below (w.alloc (.cells #[.string n, .int .i64 k, .string v] 33)).heap.size (w.alloc (.cells #[.string n, .int .i64 k, .string v] 33)) w1 → w1.cell? ⟨w.heap.size, 0, none⟩ = some (.string n) ∧ w1.cell? ⟨w.heap.size, 1, none⟩ = some (.int .i64 k) ∧ w1.cell? ⟨w.heap.size, 2, none⟩ = some (.string v) := fun w1 hb =>
    ⟨(hb.cell (p := ⟨w.heap.size, 0, none⟩) (by simp)).trans (by simp [go_sem]), (hb.cell (p := ⟨w.heap.size, 1, none⟩) (by simp)).trans (by simp [go_sem]), (hb.cell (p := ⟨w.heap.size, 2, none⟩) (by simp)).trans (by simp [go_sem])⟩
  have Hf := hid fcell
  clear fcell
  by_cases c1 : (1048576 : Int) < name.size
  · go_enter Try.func9, Try.ntmps9
    go_wp2_with fail
    go_ret
    exact ⟨rfl, unhid HB0⟩
  by_cases c2 : (1048576 : Int) < ver.size
  · go_enter Try.func9, Try.ntmps9
    go_wp2_with fail
    go_ret
    exact ⟨rfl, unhid HB0⟩
  go_enter Try.func9, Try.ntmps9
  go_wp2_with fail
  refine (szNeed_any n v k hn hv _).mono ?_
  rintro e w1 ⟨r, rfl, hr, hb1⟩
  have B1 := hid hb1
  clear hb1
  by_cases h0 : r < 0
  · go_wp2_with fail
    go_ret
    exact ⟨rfl, (unhid HB0).trans ((unhid B1).mono (unhid HB0).size)⟩
  · obtain ⟨z1, z2⟩ := hr (by omega)
    obtain ⟨f1, f2, f3⟩ := unhid Hf w1 (unhid B1)
    go_wp2_with fail
    refine (toNeed_any n v k _).mono ?_
    rintro e w2 ⟨rfl, hb⟩
    have B2 := hid ((unhid B1).trans (hb.mono (unhid B1).size))
    clear hb f1 f2 f3
    go_wp2_with fail
    refine (specNeedFits_any n v name ver k z1 z2 (by omega) _).mono ?_
    rintro e w3 ⟨rfl, hb⟩
    have B3 := hid ((unhid B2).trans (hb.mono (unhid B2).size))
    obtain ⟨f1, f2, f3⟩ := unhid Hf w3 (unhid B3)
    clear hb
    go_wp2_with fail
    refine (toNeed_any n v k _).mono ?_
    rintro e w4 ⟨rfl, hb⟩
    have B4 := hid ((unhid B3).trans (hb.mono (unhid B3).size))
    clear hb f1 f2 f3
    go_wp2_with fail
    refine (NeedFits_any n v name ver k hn hv hr' _).mono ?_
    rintro e w5 ⟨rfl, hb⟩
    have B5 := hid ((unhid B4).trans (hb.mono (unhid B4).size))
    clear hb
    cases hx : fitsB n.data.toList k v.data.toList name.data.toList ver.data.toList <;>
    · go_wp2_with fail
      go_ret
      exact ⟨rfl, (unhid HB0).trans ((unhid B5).mono (unhid HB0).size)⟩


set_option maxRecDepth 100000 in
set_option maxHeartbeats 1000000 in
theorem lifted_FnExactNeedFits (os : Os) (started : os.Started) (H : Type) (enc : TypeId × Value → H) :
    ReturnsInHanded {} Try.checked os 9 .any (Rows.fnExactNeedFitsSpec.pre6 enc Try.prog Try.f9 Rows.fnExactNeedFitsRow.domain false) (Rows.fnExactNeedFitsSpec.post enc Try.prog Try.f9 false true false false) := by
  refine returnsInHanded_of_change (C := Try.checked) own started (by kernel_rfl) Try.func9
    (ChangeSpec.witness6 (enc := enc) (C := Try.checked) false ⟨#[], #[.agg #[.string ⟨#[]⟩, .int .i64 0, .string ⟨#[]⟩], .string ⟨#[]⟩, .string ⟨#[]⟩], []⟩ 8 (by kernel_rfl) (by kernel_rfl) (by kernel_rfl) (by kernel_rfl)) ?_
  intro W base args ds gs before hval0 hW _ _
  have hval : ∀ (j : Nat) t v, Try.f9.params[j]? = some t → args[j]? = some v → Value.okWide Try.prog W .any base t v := hval0
  have hW' := hW
  obtain ⟨p, q, hA0, hV, rfl, hfz, hnd⟩ := hW
  have hA : DataW.TrodAll enc Try.prog W 0 (fun _ => true) true Try.f9.params.toList args.toList ds p := hA0
  rw [Try.params9] at hA hval
  obtain ⟨v0, vs0, d0, ds0, p0, q0, e0, rfl, rfl, h0, r0⟩ := trodAll_cons hA
  obtain ⟨v1, vs1, d1, ds1, p1, q1, e1, rfl, rfl, h1, r1⟩ := trodAll_cons r0
  obtain ⟨v2, vs2, d2, ds2, p2, q2, e2, rfl, rfl, h2, r2⟩ := trodAll_cons r1
  obtain ⟨rfl, rfl, rfl⟩ := trodAll_nil r2
  obtain rfl : args = #[v0, v1, v2] := by cases args; simp_all
  obtain ⟨rfl, rfl⟩ := trodVars_none hV
  have hlt : ∀ x ∈ p0 ++ p1 ++ p2, x.block < W.heap.size := fun x hx => by simpa using hW'.lt x (by simpa using hx)
  have t0 := h0
  have l0 : ∀ x ∈ p0, x.block < W.heap.size := fun x hx => hlt x (by simp [hx])
  have t1 := h1
  have l1 : ∀ x ∈ p1, x.block < W.heap.size := fun x hx => hlt x (by simp [hx])
  have t2 := h2
  have l2 : ∀ x ∈ p2, x.block < W.heap.size := fun x hx => hlt x (by simp [hx])
  obtain ⟨c00, c01, c02, y00, y01, y02, m0, rfl, rfl, rfl, g00, g01, g02⟩ := Joins.open_agg3 Try.underlying33 (by kernel_rfl) (by kernel_rfl) (hval 0 33 v0 rfl rfl) h0
  obtain ⟨a0, ea0, rfl, wa0⟩ := DataW.trod_string Try.underlying9 g00
  obtain ⟨k0, ek0, rfl, wk0⟩ := DataW.trod_int Try.underlying3 g01
  obtain ⟨b0, eb0, rfl, wb0⟩ := DataW.trod_string Try.underlying9 g02
  simp only [List.cons.injEq, and_true] at ea0 ek0 eb0
  subst ea0 ek0 eb0
  obtain ⟨s1, rfl, rfl, rfl, w1⟩ := open_string Try.underlying9 (hval 1 9 v1 rfl rfl) h1
  obtain ⟨s2, rfl, rfl, rfl, w2⟩ := open_string Try.underlying9 (hval 2 9 v2 rfl rfl) h2
  clear hA0 hval0
  refine (walk_FnExactNeedFits a0 k0 b0 s1 s2 wa0 wb0 w1 w2 W).mono fun e W' ⟨he, hb⟩ => ?_
  subst he
  exact ⟨_, rfl, post_below (gs := []) (pv := []) hW' (fun _ _ _ => trodAll_cons_mk (shut_bool Try.underlying4 _) trodAll_mk0) (trodAll_cons_mk (Below.trod laidOut (by kernel_rfl) (of_decide_eq_true (by kernel_rfl)) t0 hb l0) (trodAll_cons_mk (Below.trod laidOut (by kernel_rfl) (of_decide_eq_true (by kernel_rfl)) t1 hb l1) (trodAll_cons_mk (Below.trod laidOut (by kernel_rfl) (of_decide_eq_true (by kernel_rfl)) t2 hb l2) trodAll_mk0))) rfl (by simp) hb⟩

theorem fnExactNeedFits_holds : Rows.FnExactNeedFitsSaid :=
  OpenClaim.holds_of_wide 9 Try.f9 rfl rfl rfl rfl rfl rfl rfl ⟨rfl, rfl, rfl, rfl, rfl⟩ rfl rfl rfl rfl rfl (by kernel_rfl) Try.func9 (by kernel_rfl)
    (of_decide_eq_true (by kernel_rfl)) (by unfold Func.isWrapper; first | (rw [if_pos (by decide +kernel)]; kernel_rfl) | (rw [if_neg (by decide +kernel)]; exact ⟨rfl, rfl⟩))
    (fun os started H enc _ => lifted_FnExactNeedFits os started H enc)
end Go.Proofs.Ytcggeolljfjnmaa
