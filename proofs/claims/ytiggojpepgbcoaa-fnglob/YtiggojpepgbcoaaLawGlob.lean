/- Of every code: the drawn path is one of itself as a pattern, of two stars, and of a pattern behind two stars that takes it: FnGlob answers true; the code is as it was. No condition. -/
import Derived.Test.YtiggojpepgbcoaaGlobS
import Derived.Test.YtiggojpepgbcoaaExGlobOk
namespace Go.Proofs.Ytiggojpepgbcoaa
open Go.ChangeShapes Go.WideShapes Go.ChangeAt Go.RowKit

def ss3 : ByteArray := ⟨#[42, 42, 47]⟩
def ss2 : ByteArray := ⟨#[42, 42]⟩
def factG (g s : List UInt8) : Bool := !pathB s || ((!(hasB g s && globOkB ([42, 42, 47] ++ g)) || hasB ([42, 42, 47] ++ g) s) && decide (s.length ≤ 40) && hasB s s && hasB [42, 42] s)
theorem factG_all : ∀ g ∈ globTexts, ∀ s ∈ pathTexts, factG g s = true := by decide +kernel
theorem factG_of {g s : ByteArray} (hg : oneOf globTexts g) (hs : oneOf pathTexts s) (hp : pathS s = true) : (hasS g s = true → okS (ss3 ++ g) = true → hasS (ss3 ++ g) s = true) ∧ hasS s s = true ∧ hasS ss2 s = true := by
  have h := factG_all _ hg _ hs
  have hp' : pathB s.data.toList = true := hp
  unfold factG at h
  rw [hp'] at h
  simp only [Bool.not_true, Bool.false_or, Bool.and_eq_true, Bool.or_eq_true, Bool.not_eq_true', Bool.and_eq_false_iff] at h
  obtain ⟨⟨⟨h1, _⟩, h2⟩, h3⟩ := h
  refine ⟨fun a b => ?_, h2, h3⟩
  have a' : hasB g.data.toList s.data.toList = true := a
  have b' : globOkB ([42, 42, 47] ++ g.data.toList) = true := by have := b; unfold okS at this; rwa [app_data] at this
  show hasB (ss3 ++ g).data.toList s.data.toList = true
  rw [app_data]
  rcases h1 with (h1 | h1) | h1
  · rw [a'] at h1; cases h1
  · rw [b'] at h1; cases h1
  · exact h1

set_option maxRecDepth 100000 in
set_option maxHeartbeats 4000000 in
theorem walk_FnGlob (w : World) (a : Option Addr) (len cap : Nat) (h : Code w w.heap.size a len) (hc : len ≤ cap) :
    Calls Try.prog 3 #[.slice a len cap] w fun e w' => e = .returned (.bool true) ∧ Below w.heap.size w w' := by
  have H := hid h
  clear h
  by_cases hl : (1048576 : Int) < len
  · go_enter Try.func3, Try.ntmps3
    go_wp2_with fail
    go_ret
    exact ⟨rfl, Below.refl _ _⟩
  · go_enter Try.func3, Try.ntmps3
    go_wp2_with fail
    refine (DrawGlobHas_is w a len cap (unhid H) (by omega) hc).mono ?_
    rintro e w1 ⟨g, s, rfl, hg, hs, hb1⟩
    have zg := glob_size hg
    have zs := path_size hs
    have HB := hid hb1
    have e3 : (⟨#[42, 42, 47]⟩ : ByteArray) = ss3 := rfl
    have e2 : (⟨#[42, 42]⟩ : ByteArray) = ss2 := rfl
    have z3 : ss3.size = 3 := rfl
    have z2 : ss2.size = 2 := rfl
    have hz40 : ¬ (40 : Int) < s.size := by omega
    clear hb1
    cases hp : pathS s
    · have hh := has_path (g := g) hp
      have hgs := hid (And.intro hg hs)
      clear hg hs
      cases hok : okS g
      all_goals
        go_wp2_with (first
      | (go_at_call 10; refine (GlobHasS_any _ _ (by first | omega | (simp only [app_size]; first | omega | (simp; omega))) (by omega) _).mono ?_; rintro e w' ⟨rfl, hb⟩; replace HB := hid ((unhid HB).trans (hb.mono (unhid HB).size)); clear hb)
      | (go_at_call 11; refine (specGlobHasS_any _ _ (by omega) (by omega) _).mono ?_; rintro e w' ⟨rfl, hb⟩; replace HB := hid ((unhid HB).trans (hb.mono (unhid HB).size)); clear hb)
      | (go_at_call 12; refine (GlobOkS_any _ (by first | omega | (simp only [app_size]; first | omega | (simp; omega))) _).mono ?_; rintro e w' ⟨rfl, hb⟩; replace HB := hid ((unhid HB).trans (hb.mono (unhid HB).size)); clear hb)
      | (go_at_call 13; refine (specGlobOkS_any _ (by omega) _).mono ?_; rintro e w' ⟨rfl, hb⟩; replace HB := hid ((unhid HB).trans (hb.mono (unhid HB).size)); clear hb)
      | (go_at_call 16; refine (PathOkS_any _ (by omega) _).mono ?_; rintro e w' ⟨rfl, hb⟩; replace HB := hid ((unhid HB).trans (hb.mono (unhid HB).size)); clear hb)
      | (go_at_call 14; refine (specPathOkS_any _ (by omega) _).mono ?_; rintro e w' ⟨rfl, hb⟩; replace HB := hid ((unhid HB).trans (hb.mono (unhid HB).size)); clear hb))
        go_ret
        exact ⟨rfl, unhid HB⟩
    · obtain ⟨f1, f2, f3⟩ := factG_of hg hs hp
      cases hh : hasS g s
      · clear f1 hg hs
        cases hok : okS g
        all_goals
          go_wp2_with (first
      | (go_at_call 10; refine (GlobHasS_any _ _ (by first | omega | (simp only [app_size]; first | omega | (simp; omega))) (by omega) _).mono ?_; rintro e w' ⟨rfl, hb⟩; replace HB := hid ((unhid HB).trans (hb.mono (unhid HB).size)); clear hb)
      | (go_at_call 11; refine (specGlobHasS_any _ _ (by omega) (by omega) _).mono ?_; rintro e w' ⟨rfl, hb⟩; replace HB := hid ((unhid HB).trans (hb.mono (unhid HB).size)); clear hb)
      | (go_at_call 12; refine (GlobOkS_any _ (by first | omega | (simp only [app_size]; first | omega | (simp; omega))) _).mono ?_; rintro e w' ⟨rfl, hb⟩; replace HB := hid ((unhid HB).trans (hb.mono (unhid HB).size)); clear hb)
      | (go_at_call 13; refine (specGlobOkS_any _ (by omega) _).mono ?_; rintro e w' ⟨rfl, hb⟩; replace HB := hid ((unhid HB).trans (hb.mono (unhid HB).size)); clear hb)
      | (go_at_call 16; refine (PathOkS_any _ (by omega) _).mono ?_; rintro e w' ⟨rfl, hb⟩; replace HB := hid ((unhid HB).trans (hb.mono (unhid HB).size)); clear hb)
      | (go_at_call 14; refine (specPathOkS_any _ (by omega) _).mono ?_; rintro e w' ⟨rfl, hb⟩; replace HB := hid ((unhid HB).trans (hb.mono (unhid HB).size)); clear hb))
          go_ret
          exact ⟨rfl, unhid HB⟩
      · have hok := has_ok hh
        cases hw : okS (ss3 ++ g)
        · clear f1 hg hs
          go_wp2_with (first
      | (go_at_call 10; refine (GlobHasS_any _ _ (by first | omega | (simp only [app_size]; first | omega | (simp; omega))) (by omega) _).mono ?_; rintro e w' ⟨rfl, hb⟩; replace HB := hid ((unhid HB).trans (hb.mono (unhid HB).size)); clear hb)
      | (go_at_call 11; refine (specGlobHasS_any _ _ (by omega) (by omega) _).mono ?_; rintro e w' ⟨rfl, hb⟩; replace HB := hid ((unhid HB).trans (hb.mono (unhid HB).size)); clear hb)
      | (go_at_call 12; refine (GlobOkS_any _ (by first | omega | (simp only [app_size]; first | omega | (simp; omega))) _).mono ?_; rintro e w' ⟨rfl, hb⟩; replace HB := hid ((unhid HB).trans (hb.mono (unhid HB).size)); clear hb)
      | (go_at_call 13; refine (specGlobOkS_any _ (by omega) _).mono ?_; rintro e w' ⟨rfl, hb⟩; replace HB := hid ((unhid HB).trans (hb.mono (unhid HB).size)); clear hb)
      | (go_at_call 16; refine (PathOkS_any _ (by omega) _).mono ?_; rintro e w' ⟨rfl, hb⟩; replace HB := hid ((unhid HB).trans (hb.mono (unhid HB).size)); clear hb)
      | (go_at_call 14; refine (specPathOkS_any _ (by omega) _).mono ?_; rintro e w' ⟨rfl, hb⟩; replace HB := hid ((unhid HB).trans (hb.mono (unhid HB).size)); clear hb))
          go_ret
          exact ⟨rfl, unhid HB⟩
        · have hhw := f1 hh hw
          clear f1 hg hs
          go_wp2_with (first
      | (go_at_call 10; refine (GlobHasS_any _ _ (by first | omega | (simp only [app_size]; first | omega | (simp; omega))) (by omega) _).mono ?_; rintro e w' ⟨rfl, hb⟩; replace HB := hid ((unhid HB).trans (hb.mono (unhid HB).size)); clear hb)
      | (go_at_call 11; refine (specGlobHasS_any _ _ (by omega) (by omega) _).mono ?_; rintro e w' ⟨rfl, hb⟩; replace HB := hid ((unhid HB).trans (hb.mono (unhid HB).size)); clear hb)
      | (go_at_call 12; refine (GlobOkS_any _ (by first | omega | (simp only [app_size]; first | omega | (simp; omega))) _).mono ?_; rintro e w' ⟨rfl, hb⟩; replace HB := hid ((unhid HB).trans (hb.mono (unhid HB).size)); clear hb)
      | (go_at_call 13; refine (specGlobOkS_any _ (by omega) _).mono ?_; rintro e w' ⟨rfl, hb⟩; replace HB := hid ((unhid HB).trans (hb.mono (unhid HB).size)); clear hb)
      | (go_at_call 16; refine (PathOkS_any _ (by omega) _).mono ?_; rintro e w' ⟨rfl, hb⟩; replace HB := hid ((unhid HB).trans (hb.mono (unhid HB).size)); clear hb)
      | (go_at_call 14; refine (specPathOkS_any _ (by omega) _).mono ?_; rintro e w' ⟨rfl, hb⟩; replace HB := hid ((unhid HB).trans (hb.mono (unhid HB).size)); clear hb))
          go_ret
          exact ⟨rfl, unhid HB⟩

set_option maxRecDepth 100000 in
theorem lifted_FnGlob (os : Os) (started : os.Started) (H : Type) (enc : TypeId × Value → H) :
    ReturnsInHanded {} Try.checked os 3 .any (Rows.fnGlobSpec.pre6 enc Try.prog Try.f3 Rows.fnGlobRow.domain false) (Rows.fnGlobSpec.post enc Try.prog Try.f3 false true false false) := by
  refine returnsInHanded_of_change (C := Try.checked) own started (by kernel_rfl) Try.func3
    (ChangeSpec.witness6 (enc := enc) (C := Try.checked) false ⟨#[], #[.slice none 0 0], []⟩ 8 (by kernel_rfl) (by kernel_rfl) (by kernel_rfl) (by kernel_rfl)) ?_
  intro W base args ds gs before hval0 hW _ _
  have hval : ∀ (j : Nat) t v, Try.f3.params[j]? = some t → args[j]? = some v → Value.okWide Try.prog W .any base t v := hval0
  have hW' := hW
  obtain ⟨p, q, hA0, hV, rfl, hfz, hnd⟩ := hW
  have hA : DataW.TrodAll enc Try.prog W 0 (fun _ => true) true Try.f3.params.toList args.toList ds p := hA0
  rw [Try.params3] at hA hval
  obtain ⟨v0, vs0, d0, ds0, p0, q0, e0, rfl, rfl, h0, r0⟩ := trodAll_cons hA
  obtain ⟨rfl, rfl, rfl⟩ := trodAll_nil r0
  obtain rfl : args = #[v0] := by cases args; simp_all
  obtain ⟨rfl, rfl⟩ := trodVars_none hV
  obtain ⟨a0, len, cap, rfl⟩ := okWide_slice Try.underlying22 (hval 0 22 v0 rfl rfl)
  clear hA0 hval0
  simp only [List.append_nil] at hW'
  have hlt : ∀ x ∈ p0, x.block < W.heap.size := fun x hx => by simpa using hW'.lt x hx
  obtain ⟨hcode, hcap⟩ := code_of h0 hlt
  refine (walk_FnGlob W a0 len cap hcode hcap).mono fun e W' ⟨he, hb⟩ => ?_
  subst he
  exact ⟨_, rfl, post_below (ds := [d0]) (gs := []) (pa := p0 ++ []) (pv := []) (by simpa using hW') (fun _ _ _ => trodAll_cons_mk (shut_bool Try.underlying4 _) trodAll_mk0)
    (trodAll_cons_mk (Below.trod laidOut (by kernel_rfl) (of_decide_eq_true (by kernel_rfl)) h0 hb hlt) trodAll_mk0) rfl (by simp) hb⟩

theorem fnGlob_holds : Rows.FnGlobSaid :=
  OpenClaim.holds_of_wide 3 Try.f3 rfl rfl rfl rfl rfl rfl rfl ⟨rfl, rfl, rfl, rfl, rfl⟩ rfl rfl rfl rfl rfl (by kernel_rfl) Try.func3 (by kernel_rfl)
    (of_decide_eq_true (by kernel_rfl)) (by unfold Func.isWrapper; first | (rw [if_pos (by decide +kernel)]; kernel_rfl) | (rw [if_neg (by decide +kernel)]; exact ⟨rfl, rfl⟩))
    (fun os started H enc _ => lifted_FnGlob os started H enc)
end Go.Proofs.Ytiggojpepgbcoaa
