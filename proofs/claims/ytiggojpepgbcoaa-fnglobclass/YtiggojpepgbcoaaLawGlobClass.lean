/- Of every code: a class with the last name of the drawn path, if that is one byte, takes it, and with a sign it does not; one mark takes it, two do not; with a star behind it takes itself: FnGlobClass answers true; the code is as it was. No condition. -/
import Derived.Test.YtiggojpepgbcoaaGlobS
import Derived.Test.YtiggojpepgbcoaaExGlobOk
namespace Go.Proofs.Ytiggojpepgbcoaa
open Go.ChangeShapes Go.WideShapes Go.ChangeAt Go.RowKit

def c1 : ByteArray := ⟨#[91]⟩
def c2 : ByteArray := ⟨#[45, 93]⟩
def c3 : ByteArray := ⟨#[91, 33]⟩
def c4 : ByteArray := ⟨#[93]⟩
def q1 : ByteArray := ⟨#[63]⟩
def q2 : ByteArray := ⟨#[63, 63]⟩
def st1 : ByteArray := ⟨#[42]⟩
def factC (s : ByteArray) : Bool := decide ((pathLastS s).size ≤ 20) && (!decide ((pathLastS s).size = 1) || (hasS (c1 ++ pathLastS s ++ c2) (pathLastS s) && !hasS (c3 ++ pathLastS s ++ c4) (pathLastS s) && hasS q1 (pathLastS s) && !hasS q2 (pathLastS s) && hasS (pathLastS s ++ st1) (pathLastS s)))
theorem factC_all : ∀ l ∈ pathTexts, factC ⟨⟨l⟩⟩ = true := by decide +kernel
theorem factC_of {s : ByteArray} (hs : oneOf pathTexts s) : (pathLastS s).size ≤ 20 ∧ ((pathLastS s).size = 1 → hasS (c1 ++ pathLastS s ++ c2) (pathLastS s) = true ∧ hasS (c3 ++ pathLastS s ++ c4) (pathLastS s) = false ∧ hasS q1 (pathLastS s) = true ∧ hasS q2 (pathLastS s) = false ∧ hasS (pathLastS s ++ st1) (pathLastS s) = true) := by
  have h := factC_all _ hs
  rw [ba_eta] at h
  unfold factC at h
  simp only [Bool.and_eq_true, Bool.or_eq_true, Bool.not_eq_true', decide_eq_true_eq, decide_eq_false_iff_not] at h
  refine ⟨h.1, fun e => ?_⟩
  rcases h.2 with h2 | h2
  · exact absurd e h2
  · exact ⟨h2.1.1.1.1, h2.1.1.1.2, h2.1.1.2, h2.1.2, h2.2⟩

set_option maxRecDepth 100000 in
set_option maxHeartbeats 4000000 in
theorem walk_FnGlobClass (w : World) (a : Option Addr) (len cap : Nat) (h : Code w w.heap.size a len) (hc : len ≤ cap) :
    Calls Try.prog 5 #[.slice a len cap] w fun e w' => e = .returned (.bool true) ∧ Below w.heap.size w w' := by
  have H := hid h
  clear h
  by_cases hl : (1048576 : Int) < len
  · go_enter Try.func5, Try.ntmps5
    go_wp2_with fail
    go_ret
    exact ⟨rfl, Below.refl _ _⟩
  · go_enter Try.func5, Try.ntmps5
    go_wp2_with fail
    refine (DrawGlobHas_is w a len cap (unhid H) (by omega) hc).mono ?_
    rintro e w1 ⟨g, s, rfl, hg, hs, hb1⟩
    have zg := glob_size hg
    have zs := path_size hs
    have HB := hid hb1
    clear hb1 hg
    have e1 : (⟨#[91]⟩ : ByteArray) = c1 := rfl
    have e2 : (⟨#[45, 93]⟩ : ByteArray) = c2 := rfl
    have e3 : (⟨#[91, 33]⟩ : ByteArray) = c3 := rfl
    have e4 : (⟨#[93]⟩ : ByteArray) = c4 := rfl
    have e5 : (⟨#[63]⟩ : ByteArray) = q1 := rfl
    have e6 : (⟨#[63, 63]⟩ : ByteArray) = q2 := rfl
    have e7 : (⟨#[42]⟩ : ByteArray) = st1 := rfl
    have z1 : c1.size = 1 := rfl
    have z2 : c2.size = 2 := rfl
    have z3 : c3.size = 2 := rfl
    have z4 : c4.size = 1 := rfl
    have z5 : q1.size = 1 := rfl
    have z6 : q2.size = 2 := rfl
    have z7 : st1.size = 1 := rfl
    obtain ⟨zl, hf⟩ := factC_of hs
    by_cases h1 : (pathLastS s).size = 1
    · obtain ⟨f1, f2, f3, f4, f5⟩ := hf h1
      have h1' : (((pathLastS s).size : Int) == 1) = true := by simp [h1]
      have z8 : (pathLastS s).size ≤ 1 := by omega
      clear hs hf h1
      cases hh : hasS g s
      all_goals
        go_wp2_with (first
      | (go_at_call 17; refine (PathUp_any _ (by unfold maxLen; omega) _).mono ?_; rintro e w' ⟨rfl, hb⟩; replace HB := hid ((unhid HB).trans (hb.mono (unhid HB).size)); clear hb)
      | (go_at_call 18; refine (PathLast_any _ (by unfold maxLen; omega) _).mono ?_; rintro e w' ⟨rfl, hb⟩; replace HB := hid ((unhid HB).trans (hb.mono (unhid HB).size)); clear hb)
      | (go_at_call 10; refine (GlobHasS_any _ _ (by first | omega | (simp only [app_size]; first | omega | (simp; omega))) (by omega) _).mono ?_; rintro e w' ⟨rfl, hb⟩; replace HB := hid ((unhid HB).trans (hb.mono (unhid HB).size)); clear hb)
      | (go_at_call 11; refine (specGlobHasS_any _ _ (by omega) (by omega) _).mono ?_; rintro e w' ⟨rfl, hb⟩; replace HB := hid ((unhid HB).trans (hb.mono (unhid HB).size)); clear hb)
      | (go_at_call 12; refine (GlobOkS_any _ (by first | omega | (simp only [app_size]; first | omega | (simp; omega))) _).mono ?_; rintro e w' ⟨rfl, hb⟩; replace HB := hid ((unhid HB).trans (hb.mono (unhid HB).size)); clear hb)
      | (go_at_call 13; refine (specGlobOkS_any _ (by omega) _).mono ?_; rintro e w' ⟨rfl, hb⟩; replace HB := hid ((unhid HB).trans (hb.mono (unhid HB).size)); clear hb)
      | (go_at_call 16; refine (PathOkS_any _ (by omega) _).mono ?_; rintro e w' ⟨rfl, hb⟩; replace HB := hid ((unhid HB).trans (hb.mono (unhid HB).size)); clear hb)
      | (go_at_call 14; refine (specPathOkS_any _ (by omega) _).mono ?_; rintro e w' ⟨rfl, hb⟩; replace HB := hid ((unhid HB).trans (hb.mono (unhid HB).size)); clear hb))
        go_ret
        exact ⟨rfl, unhid HB⟩
    · have h1' : (((pathLastS s).size : Int) == 1) = false := by rw [beq_eq_false_iff_ne]; omega
      clear hs hf h1
      cases hh : hasS g s
      all_goals
        go_wp2_with (first
      | (go_at_call 17; refine (PathUp_any _ (by unfold maxLen; omega) _).mono ?_; rintro e w' ⟨rfl, hb⟩; replace HB := hid ((unhid HB).trans (hb.mono (unhid HB).size)); clear hb)
      | (go_at_call 18; refine (PathLast_any _ (by unfold maxLen; omega) _).mono ?_; rintro e w' ⟨rfl, hb⟩; replace HB := hid ((unhid HB).trans (hb.mono (unhid HB).size)); clear hb)
      | (go_at_call 10; refine (GlobHasS_any _ _ (by first | omega | (simp only [app_size]; first | omega | (simp; omega))) (by omega) _).mono ?_; rintro e w' ⟨rfl, hb⟩; replace HB := hid ((unhid HB).trans (hb.mono (unhid HB).size)); clear hb)
      | (go_at_call 11; refine (specGlobHasS_any _ _ (by omega) (by omega) _).mono ?_; rintro e w' ⟨rfl, hb⟩; replace HB := hid ((unhid HB).trans (hb.mono (unhid HB).size)); clear hb)
      | (go_at_call 12; refine (GlobOkS_any _ (by first | omega | (simp only [app_size]; first | omega | (simp; omega))) _).mono ?_; rintro e w' ⟨rfl, hb⟩; replace HB := hid ((unhid HB).trans (hb.mono (unhid HB).size)); clear hb)
      | (go_at_call 13; refine (specGlobOkS_any _ (by omega) _).mono ?_; rintro e w' ⟨rfl, hb⟩; replace HB := hid ((unhid HB).trans (hb.mono (unhid HB).size)); clear hb)
      | (go_at_call 16; refine (PathOkS_any _ (by omega) _).mono ?_; rintro e w' ⟨rfl, hb⟩; replace HB := hid ((unhid HB).trans (hb.mono (unhid HB).size)); clear hb)
      | (go_at_call 14; refine (specPathOkS_any _ (by omega) _).mono ?_; rintro e w' ⟨rfl, hb⟩; replace HB := hid ((unhid HB).trans (hb.mono (unhid HB).size)); clear hb))
        go_ret
        exact ⟨rfl, unhid HB⟩

set_option maxRecDepth 100000 in
theorem lifted_FnGlobClass (os : Os) (started : os.Started) (H : Type) (enc : TypeId × Value → H) :
    ReturnsInHanded {} Try.checked os 5 .any (Rows.fnGlobClassSpec.pre6 enc Try.prog Try.f5 Rows.fnGlobClassRow.domain false) (Rows.fnGlobClassSpec.post enc Try.prog Try.f5 false true false false) := by
  refine returnsInHanded_of_change (C := Try.checked) own started (by kernel_rfl) Try.func5
    (ChangeSpec.witness6 (enc := enc) (C := Try.checked) false ⟨#[], #[.slice none 0 0], []⟩ 8 (by kernel_rfl) (by kernel_rfl) (by kernel_rfl) (by kernel_rfl)) ?_
  intro W base args ds gs before hval0 hW _ _
  have hval : ∀ (j : Nat) t v, Try.f5.params[j]? = some t → args[j]? = some v → Value.okWide Try.prog W .any base t v := hval0
  have hW' := hW
  obtain ⟨p, q, hA0, hV, rfl, hfz, hnd⟩ := hW
  have hA : DataW.TrodAll enc Try.prog W 0 (fun _ => true) true Try.f5.params.toList args.toList ds p := hA0
  rw [Try.params5] at hA hval
  obtain ⟨v0, vs0, d0, ds0, p0, q0, e0, rfl, rfl, h0, r0⟩ := trodAll_cons hA
  obtain ⟨rfl, rfl, rfl⟩ := trodAll_nil r0
  obtain rfl : args = #[v0] := by cases args; simp_all
  obtain ⟨rfl, rfl⟩ := trodVars_none hV
  obtain ⟨a0, len, cap, rfl⟩ := okWide_slice Try.underlying22 (hval 0 22 v0 rfl rfl)
  clear hA0 hval0
  simp only [List.append_nil] at hW'
  have hlt : ∀ x ∈ p0, x.block < W.heap.size := fun x hx => by simpa using hW'.lt x hx
  obtain ⟨hcode, hcap⟩ := code_of h0 hlt
  refine (walk_FnGlobClass W a0 len cap hcode hcap).mono fun e W' ⟨he, hb⟩ => ?_
  subst he
  exact ⟨_, rfl, post_below (ds := [d0]) (gs := []) (pa := p0 ++ []) (pv := []) (by simpa using hW') (fun _ _ _ => trodAll_cons_mk (shut_bool Try.underlying4 _) trodAll_mk0)
    (trodAll_cons_mk (Below.trod laidOut (by kernel_rfl) (of_decide_eq_true (by kernel_rfl)) h0 hb hlt) trodAll_mk0) rfl (by simp) hb⟩

theorem fnGlobClass_holds : Rows.FnGlobClassSaid :=
  OpenClaim.holds_of_wide 5 Try.f5 rfl rfl rfl rfl rfl rfl rfl ⟨rfl, rfl, rfl, rfl, rfl⟩ rfl rfl rfl rfl rfl (by kernel_rfl) Try.func5 (by kernel_rfl)
    (of_decide_eq_true (by kernel_rfl)) (by unfold Func.isWrapper; first | (rw [if_pos (by decide +kernel)]; kernel_rfl) | (rw [if_neg (by decide +kernel)]; exact ⟨rfl, rfl⟩))
    (fun os started H enc _ => lifted_FnGlobClass os started H enc)
end Go.Proofs.Ytiggojpepgbcoaa
