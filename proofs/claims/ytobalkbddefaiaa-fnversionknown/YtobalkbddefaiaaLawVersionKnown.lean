/- Of every code: two drawn versions: FnVersionKnown answers true; the code is as it was. No condition. -/
import Derived.Test.YtobalkbddefaiaaRowCode
import Derived.Test.YtobalkbddefaiaaVersMath2
import Derived.Test.YtobalkbddefaiaaDrawVers
namespace Go.Proofs.Ytobalkbddefaiaa
open Go.ChangeShapes Go.WideShapes Go.ChangeAt Go.RowKit

set_option maxRecDepth 100000 in
set_option maxHeartbeats 4000000 in
theorem walk_FnVersionKnown (a : Option Addr) (len cap : Nat) (w : World) (h : Code w w.heap.size a len) (hc : len ≤ cap) :
    Calls Try.prog 4 #[.slice a len cap] w fun e w' => e = .returned (.bool true) ∧ Below w.heap.size w w' := by
  have H := hid h
  clear h
  by_cases hl : (1048576 : Int) < len
  · go_enter Try.func4, Try.ntmps4
    go_wp2
    go_ret
    exact ⟨rfl, Below.refl _ _⟩
  · go_enter Try.func4, Try.ntmps4
    go_wp2_with fail
    refine (DrawVersionOrder_any w a len cap (unhid H) (by omega) hc).mono ?_
    rintro e w1 ⟨x, y, rfl, hx0, hy0, hb1⟩
    have hx : x.size ≤ 100 := hx0
    have hy : y.size ≤ 100 := hy0
    have xm : x.size ≤ maxLen := by unfold maxLen; omega
    have ym : y.size ≤ maxLen := by unfold maxLen; omega
    have K1 := hid hb1
    clear hb1 hx0 hy0 H
    have e9 : (x ++ (⟨#[46, 57]⟩ : ByteArray)).size ≤ 102 := by rw [ByteArray.size_append]; show x.size + 2 ≤ 102; omega
    have e10 : (x ++ (⟨#[46, 49, 48]⟩ : ByteArray)).size ≤ 103 := by rw [ByteArray.size_append]; show x.size + 3 ≤ 103; omega
    have O9 := hid (show versOk (x ++ (⟨#[46, 57]⟩ : ByteArray)).data.toList = true → ordI (x ++ (⟨#[46, 57]⟩ : ByteArray)).data.toList (x ++ (⟨#[46, 49, 48]⟩ : ByteArray)).data.toList = -1 by rw [app_data, app_data]; exact ordI_ten)
    go_wp2_with fail
    refine (VersionOrder_any x y xm ym _).mono ?_
    rintro e w2 ⟨rfl, hb⟩
    have K2 := hid ((unhid K1).trans (hb.mono (unhid K1).size))
    clear hb K1
    generalize ho : ordI x.data.toList y.data.toList = o
    have HO := hid ho
    clear ho
    go_wp2_with fail
    refine (specVersionOrder_any x y (by omega) (by omega) _).mono ?_
    rintro e w3 ⟨rfl, hb⟩
    have K3 := hid ((unhid K2).trans (hb.mono (unhid K2).size))
    clear hb K2
    rw [unhid HO]
    go_wp2_with fail
    refine (VersionOrder_any ⟨#[49, 46, 50]⟩ ⟨#[49, 46, 49, 48]⟩ (by decide) (by decide) _).mono ?_
    rintro e w4 ⟨rfl, hb⟩
    have K4 := hid ((unhid K3).trans (hb.mono (unhid K3).size))
    clear hb K3
    rw [show ordI (⟨#[49, 46, 50]⟩ : ByteArray).data.toList (⟨#[49, 46, 49, 48]⟩ : ByteArray).data.toList = -1 from known1]
    go_wp2_with fail
    refine (VersionOrder_any ⟨#[50]⟩ ⟨#[49, 46, 57, 57]⟩ (by decide) (by decide) _).mono ?_
    rintro e w5 ⟨rfl, hb⟩
    have K5 := hid ((unhid K4).trans (hb.mono (unhid K4).size))
    clear hb K4
    rw [show ordI (⟨#[50]⟩ : ByteArray).data.toList (⟨#[49, 46, 57, 57]⟩ : ByteArray).data.toList = 1 from known2]
    go_wp2_with fail
    refine (VersionOrder_any ⟨#[49]⟩ ⟨#[49, 46, 48]⟩ (by decide) (by decide) _).mono ?_
    rintro e w6 ⟨rfl, hb⟩
    have K6 := hid ((unhid K5).trans (hb.mono (unhid K5).size))
    clear hb K5
    rw [show ordI (⟨#[49]⟩ : ByteArray).data.toList (⟨#[49, 46, 48]⟩ : ByteArray).data.toList = -1 from known3]
    go_wp2_with fail
    refine (VersionOk_any (x ++ (⟨#[46, 57]⟩ : ByteArray)) (by unfold maxLen; omega) _).mono ?_
    rintro e w7 ⟨rfl, hb⟩
    have K7 := hid ((unhid K6).trans (hb.mono (unhid K6).size))
    clear hb K6
    cases hV : versOk (x ++ (⟨#[46, 57]⟩ : ByteArray)).data.toList
    · go_wp2_with fail
      go_ret
      exact ⟨rfl, unhid K7⟩
    · have E9 := hid (unhid O9 hV)
      clear hV
      go_wp2_with fail
      refine (VersionOrder_any (x ++ (⟨#[46, 57]⟩ : ByteArray)) (x ++ (⟨#[46, 49, 48]⟩ : ByteArray)) (by unfold maxLen; omega) (by unfold maxLen; omega) _).mono ?_
      rintro e w8 ⟨rfl, hb⟩
      have K8 := hid ((unhid K7).trans (hb.mono (unhid K7).size))
      clear hb K7
      rw [unhid E9]
      go_wp2_with fail
      go_ret
      exact ⟨rfl, unhid K8⟩

set_option maxRecDepth 100000 in
set_option maxHeartbeats 1000000 in
theorem lifted_FnVersionKnown (os : Os) (started : os.Started) (H : Type) (enc : TypeId × Value → H) :
    ReturnsInHanded {} Try.checked os 4 .any (Rows.fnVersionKnownSpec.pre6 enc Try.prog Try.f4 Rows.fnVersionKnownRow.domain false) (Rows.fnVersionKnownSpec.post enc Try.prog Try.f4 false true false false) := by
  refine returnsInHanded_of_change (C := Try.checked) own started (by kernel_rfl) Try.func4
    (ChangeSpec.witness6 (enc := enc) (C := Try.checked) false ⟨#[], #[.slice none 0 0], []⟩ 8 (by kernel_rfl) (by kernel_rfl) (by kernel_rfl) (by kernel_rfl)) ?_
  intro W base args ds gs before hval0 hW _ _
  have hval : ∀ (j : Nat) t v, Try.f4.params[j]? = some t → args[j]? = some v → Value.okWide Try.prog W .any base t v := hval0
  have hW' := hW
  obtain ⟨p, q, hA0, hV, rfl, hfz, hnd⟩ := hW
  have hA : DataW.TrodAll enc Try.prog W 0 (fun _ => true) true Try.f4.params.toList args.toList ds p := hA0
  rw [Try.params4] at hA hval
  obtain ⟨v0, vs0, d0, ds0, p0, q0, e0, rfl, rfl, h0, r0⟩ := trodAll_cons hA
  obtain ⟨rfl, rfl, rfl⟩ := trodAll_nil r0
  obtain rfl : args = #[v0] := by cases args; simp_all
  obtain ⟨rfl, rfl⟩ := trodVars_none hV
  have hlt : ∀ x ∈ p0, x.block < W.heap.size := fun x hx => by simpa using hW'.lt x (by simpa using hx)
  have t0 := h0
  have l0 : ∀ x ∈ p0, x.block < W.heap.size := fun x hx => hlt x (by simp [hx])
  obtain ⟨a0, len0, cap0, rfl⟩ := okWide_slice Try.underlying22 (hval 0 22 v0 rfl rfl)
  obtain ⟨hc0, hn0⟩ := code_of h0 l0
  clear hA0 hval0
  refine (walk_FnVersionKnown a0 len0 cap0 W hc0 hn0).mono fun e W' ⟨he, hb⟩ => ?_
  subst he
  exact ⟨_, rfl, post_below (gs := []) (pv := []) hW' (fun _ _ _ => trodAll_cons_mk (shut_bool Try.underlying4 _) trodAll_mk0) (trodAll_cons_mk (Below.trod laidOut (by kernel_rfl) (of_decide_eq_true (by kernel_rfl)) t0 hb l0) trodAll_mk0) rfl (by simp) hb⟩

theorem fnVersionKnown_holds : Rows.FnVersionKnownSaid :=
  OpenClaim.holds_of_wide 4 Try.f4 rfl rfl rfl rfl rfl rfl rfl ⟨rfl, rfl, rfl, rfl, rfl⟩ rfl rfl rfl rfl rfl (by kernel_rfl) Try.func4 (by kernel_rfl)
    (of_decide_eq_true (by kernel_rfl)) (by unfold Func.isWrapper; first | (rw [if_pos (by decide +kernel)]; kernel_rfl) | (rw [if_neg (by decide +kernel)]; exact ⟨rfl, rfl⟩))
    (fun os started H enc _ => lifted_FnVersionKnown os started H enc)
end Go.Proofs.Ytobalkbddefaiaa
