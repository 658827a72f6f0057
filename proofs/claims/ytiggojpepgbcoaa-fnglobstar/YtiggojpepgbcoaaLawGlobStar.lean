/- Of every code: a star takes the drawn path just if it is of one name; with what it is in ahead it takes it: FnGlobStar answers true; the code is as it was. No condition. -/
import Derived.Test.YtiggojpepgbcoaaGlobS
import Derived.Test.YtiggojpepgbcoaaExGlobOk
namespace Go.Proofs.Ytiggojpepgbcoaa
open Go.ChangeShapes Go.WideShapes Go.ChangeAt Go.RowKit

def st1 : ByteArray := ⟨#[42]⟩
def st2 : ByteArray := ⟨#[42, 47, 42]⟩
def st3 : ByteArray := ⟨#[42, 42, 47, 42]⟩
def sl1 : ByteArray := ⟨#[47, 42]⟩
def sl2 : ByteArray := ⟨#[47, 42, 42]⟩
def noUp (s : ByteArray) : Bool := (pathUpS s).data.toList.isEmpty
def factS (s : ByteArray) : Bool := !pathS s || (if noUp s then hasS st1 s && !hasS st2 s else !hasS st1 s && hasS st3 s && decide ((pathUpS s).size ≤ 37) && hasS (pathUpS s ++ sl1) s && hasS (pathUpS s ++ sl2) s)
theorem factS_all : ∀ l ∈ pathTexts, factS ⟨⟨l⟩⟩ = true := by decide +kernel
theorem factS_of {s : ByteArray} (hs : oneOf pathTexts s) (hp : pathS s = true) : (noUp s = true ∧ hasS st1 s = true ∧ hasS st2 s = false) ∨ (noUp s = false ∧ hasS st1 s = false ∧ hasS st3 s = true ∧ (pathUpS s).size ≤ 37 ∧ hasS (pathUpS s ++ sl1) s = true ∧ hasS (pathUpS s ++ sl2) s = true) := by
  have h := factS_all _ hs
  rw [ba_eta] at h
  unfold factS at h
  rw [hp] at h
  cases hn : noUp s
  · rw [hn] at h
    simp only [Bool.not_true, Bool.false_or, Bool.false_eq_true, if_false, Bool.and_eq_true, Bool.not_eq_true', decide_eq_true_eq] at h
    exact .inr ⟨rfl, h.1.1.1.1, h.1.1.1.2, h.1.1.2, h.1.2, h.2⟩
  · rw [hn] at h
    simp only [Bool.not_true, Bool.false_or, if_true, Bool.and_eq_true, Bool.not_eq_true'] at h
    exact .inl ⟨rfl, h.1, h.2⟩

set_option maxRecDepth 100000 in
set_option maxHeartbeats 4000000 in
theorem walk_FnGlobStar (w : World) (a : Option Addr) (len cap : Nat) (h : Code w w.heap.size a len) (hc : len ≤ cap) :
    Calls Try.prog 4 #[.slice a len cap] w fun e w' => e = .returned (.bool true) ∧ Below w.heap.size w w' := by
  have H := hid h
  clear h
  by_cases hl : (1048576 : Int) < len
  · go_enter Try.func4, Try.ntmps4
    go_wp2_with fail
    go_ret
    exact ⟨rfl, Below.refl _ _⟩
  · go_enter Try.func4, Try.ntmps4
    go_wp2_with fail
    refine (DrawPathOk_is w a len cap (unhid H) (by omega) hc).mono ?_
    rintro e w1 ⟨s, rfl, hs, hb1⟩
    have zs := path_size hs
    have HB := hid hb1
    clear hb1
    have e1 : (⟨#[42]⟩ : ByteArray) = st1 := rfl
    have e2 : (⟨#[42, 47, 42]⟩ : ByteArray) = st2 := rfl
    have e3 : (⟨#[42, 42, 47, 42]⟩ : ByteArray) = st3 := rfl
    have e4 : (⟨#[47, 42]⟩ : ByteArray) = sl1 := rfl
    have e5 : (⟨#[47, 42, 42]⟩ : ByteArray) = sl2 := rfl
    have z1 : st1.size = 1 := rfl
    have z2 : st2.size = 3 := rfl
    have z3 : st3.size = 4 := rfl
    have z4 : sl1.size = 2 := rfl
    have z5 : sl2.size = 3 := rfl
    cases hp : pathS s
    · clear hs
      go_wp2_with (first
      | (go_at_call 17; refine (PathUp_any _ (by unfold maxLen; omega) _).mono ?_; rintro e w' ⟨rfl, hb⟩; replace HB := hid ((unhid HB).trans (hb.mono (unhid HB).size)); clear hb)
      | (go_at_call 18; refine (PathLast_any _ (by unfold maxLen; omega) _).mono ?_; rintro e w' ⟨rfl, hb⟩; replace HB := hid ((unhid HB).trans (hb.mono (unhid HB).size)); clear hb)
      | (go_at_call 10; refine (GlobHasS_any _ _ (by first | omega | (simp only [app_size]; first | omega | (simp; omega))) (by omega) _).mono ?_; rintro e w' ⟨rfl, hb⟩; replace HB := hid ((unhid HB).trans (hb.mono (unhid HB).size)); clear hb)
      | (go_at_call 11; refine (specGlobHasS_any _ _ (by omega) (by omega) _).mono ?_; rintro e w' ⟨rfl, hb⟩; replace HB := hid ((unhid HB).trans (hb.mono (unhid HB).size)); clear hb)
      | (go_at_call 12; refine (GlobOkS_any _ (by first | omega | (simp only [app_size]; first | omega | (simp; omega))) _).mono ?_; rintro e w' ⟨rfl, hb⟩; replace HB := hid ((unhid HB).trans (hb.mono (unhid HB).size)); clear hb)
      | (go_at_call 13; refine (specGlobOkS_any _ (by omega) _).mono ?_; rintro e w' ⟨rfl, hb⟩; replace HB := hid ((unhid HB).trans (hb.mono (unhid HB).size)); clear hb)
      | (go_at_call 16; refine (PathOkS_any _ (by omega) _).mono ?_; rintro e w' ⟨rfl, hb⟩; replace HB := hid ((unhid HB).trans (hb.mono (unhid HB).size)); clear hb)
      | (go_at_call 14; refine (specPathOkS_any _ (by omega) _).mono ?_; rintro e w' ⟨rfl, hb⟩; replace HB := hid ((unhid HB).trans (hb.mono (unhid HB).size)); clear hb))
      go_ret
      exact ⟨rfl, unhid HB⟩
    · rcases factS_of hs hp with ⟨h1, h2, h3⟩ | ⟨h1, h2, h3, h4, h5, h6⟩
      · have h1' : (pathUpS s).toList.isEmpty = true := by rw [Lib.toList_data]; exact h1
        clear hs h1
        go_wp2_with (first
      | (go_at_call 17; refine (PathUp_any _ (by unfold maxLen; omega) _).mono ?_; rintro e w' ⟨rfl, hb⟩; replace HB := hid ((unhid HB).trans (hb.mono (unhid HB).size)); clear hb)
      | (go_at_call 18; refine (PathLast_any _ (by unfold maxLen; omega) _).mono ?_; rintro e w' ⟨rfl, hb⟩; replace HB := hid ((unhid HB).trans (hb.mono (unhid HB).size)); clear hb)
      | (go_at_call 10; refine (GlobHasS_any _ _ (by first | omega | (simp only [app_size]; first | omega | (simp; omega))) (by omega) _).mono ?_; rintro e w' ⟨rfl, hb⟩; replace HB := hid ((unhid HB).trans (hb.mono (unhid HB).size)); clear hb)
      | (go_at_call 11; refine (specGlobHasS_any _ _ (by omega) (by omega) _).mono ?_; rintro e w' ⟨rfl, hb⟩; replace HB := hid ((unhid HB).trans (hb.mono (unhid HB).size)); clear hb)
      | (go_at_call 12; refine (GlobOkS_any _ (by first | omega | (simp only [app_size]; first | omega | (simp; omega))) _).mono ?_; rintro e w' ⟨rfl, hb⟩; replace HB := hid ((unhid HB).trans (hb.mono (unhid HB).size)); clear hb)
      | (go_at_call 13; refine (specGlobOkS_any _ (by omega) _).mono ?_; rintro e w' ⟨rfl, hb⟩; replace HB := hid ((unhid HB).trans (hb.mono (unhid HB).size)); clear hb)
      | (go_at_call 16; refine (PathOkS_any _ (by omega) _).mono ?_; rintro e w' ⟨rfl, hb⟩; replace HB := hid ((unhid HB).trans (hb.mono (unhid HB).size)); clear hb)
      | (go_at_call 14; refine (specPathOkS_any _ (by omega) _).mono ?_; rintro e w' ⟨rfl, hb⟩; replace HB := hid ((unhid HB).trans (hb.mono (unhid HB).size)); clear hb))
        go_ret
        exact ⟨rfl, unhid HB⟩
      · have h1' : (pathUpS s).toList.isEmpty = false := by rw [Lib.toList_data]; exact h1
        have h4' : ¬ (40 : Int) < ((pathUpS s).size : Int) + 3 := by omega
        clear hs h1
        go_wp2_with (first
      | (go_at_call 17; refine (PathUp_any _ (by unfold maxLen; omega) _).mono ?_; rintro e w' ⟨rfl, hb⟩; replace HB := hid ((unhid HB).trans (hb.mono (unhid HB).size)); clear hb)
      | (go_at_call 18; refine (PathLast_any _ (by unfold maxLen; omega) _).mono ?_; rintro e w' ⟨rfl, hb⟩; replace HB := hid ((unhid HB).trans (hb.mono (unhid HB).size)); clear hb)
      | (go_at_call 10; refine (GlobHasS_any _ _ (by first | omega | (simp only [app_size]; first | omega | (simp; omega))) (by omega) _).mono ?_; rintro e w' ⟨rfl, hb⟩; replace HB := hid ((unhid HB).trans (hb.mono (unhid HB).size)); clear hb)
      | (go_at_call 11; refine (specGlobHasS_any _ _ (by omega) (by omega) _).mono ?_; rintro e w' ⟨rfl, hb⟩; replace HB := hid ((unhid HB).trans (hb.mono (unhid HB).size)); clear hb)
      | (go_at_call 12; refine (GlobOkS_any _ (by first | omega | (simp only [app_size]; first | omega | (simp; omega))) _).mono ?_; rintro e w' ⟨rfl, hb⟩; replace HB := hid ((unhid HB).trans (hb.mono (unhid HB).size)); clear hb)
      | (go_at_call 13; refine (specGlobOkS_any _ (by omega) _).mono ?_; rintro e w' ⟨rfl, hb⟩; replace HB := hid ((unhid HB).trans (hb.mono (unhid HB).size)); clear hb)
      | (go_at_call 16; refine (PathOkS_any _ (by omega) _).mono ?_; rintro e w' ⟨rfl, hb⟩; replace HB := hid ((unhid HB).trans (hb.mono (unhid HB).size)); clear hb)
      | (go_at_call 14; refine (specPathOkS_any _ (by omega) _).mono ?_; rintro e w' ⟨rfl, hb⟩; replace HB := hid ((unhid HB).trans (hb.mono (unhid HB).size)); clear hb))
        go_ret
        exact ⟨rfl, unhid HB⟩

set_option maxRecDepth 100000 in
theorem lifted_FnGlobStar (os : Os) (started : os.Started) (H : Type) (enc : TypeId × Value → H) :
    ReturnsInHanded {} Try.checked os 4 .any (Rows.fnGlobStarSpec.pre6 enc Try.prog Try.f4 Rows.fnGlobStarRow.domain false) (Rows.fnGlobStarSpec.post enc Try.prog Try.f4 false true false false) := by
  refine returnsInHanded_of_change (C := Try.checked) own started (by kernel_rfl) Try.func4
    (ChangeSpec.witness6 (enc := enc) (C := Try.checked) false ⟨#[], #[.slice none 0 0], []⟩ 8 (by kernel_rfl) (by kernel_rfl) (by kernel_rfl) (by kernel_rfl)) ?_
  intro W base args ds gs before hval0 hW _ _
  have hval : ∀ (j : Nat) t v, Try.f4.params[j]? = some t → args[j]? = some v → Value.okWide Try.prog W .any base t v := hval0
  have hW' := hW
  obtain ⟨p, q, hA0, hV, rfl, hfz, hnd⟩ := hW
  have hA : DataW.TrodAll enc Try.prog W 0 (fun _ => true) true Try.f4.params.toList args.toList ds p := hA0
  rw [Try.params4] at hA hval
  obtain ⟨v0, vs0, d0, ds0, p0, q0, e0, rfl, rfl, h0, r0⟩ := trodAll_cons hA
  obtain ⟨rfl, rfl, rfl⟩ := trodAll_nil r0
  obtain rfl : args = #[v0] := by cases args; simp_all
  obtain ⟨rfl, rfl⟩ := trodVars_none hV
  obtain ⟨a0, len, cap, rfl⟩ := okWide_slice Try.underlying22 (hval 0 22 v0 rfl rfl)
  clear hA0 hval0
  simp only [List.append_nil] at hW'
  have hlt : ∀ x ∈ p0, x.block < W.heap.size := fun x hx => by simpa using hW'.lt x hx
  obtain ⟨hcode, hcap⟩ := code_of h0 hlt
  refine (walk_FnGlobStar W a0 len cap hcode hcap).mono fun e W' ⟨he, hb⟩ => ?_
  subst he
  exact ⟨_, rfl, post_below (ds := [d0]) (gs := []) (pa := p0 ++ []) (pv := []) (by simpa using hW') (fun _ _ _ => trodAll_cons_mk (shut_bool Try.underlying4 _) trodAll_mk0)
    (trodAll_cons_mk (Below.trod laidOut (by kernel_rfl) (of_decide_eq_true (by kernel_rfl)) h0 hb hlt) trodAll_mk0) rfl (by simp) hb⟩

theorem fnGlobStar_holds : Rows.FnGlobStarSaid :=
  OpenClaim.holds_of_wide 4 Try.f4 rfl rfl rfl rfl rfl rfl rfl ⟨rfl, rfl, rfl, rfl, rfl⟩ rfl rfl rfl rfl rfl (by kernel_rfl) Try.func4 (by kernel_rfl)
    (of_decide_eq_true (by kernel_rfl)) (by unfold Func.isWrapper; first | (rw [if_pos (by decide +kernel)]; kernel_rfl) | (rw [if_neg (by decide +kernel)]; exact ⟨rfl, rfl⟩))
    (fun os started H enc _ => lifted_FnGlobStar os started H enc)
end Go.Proofs.Ytiggojpepgbcoaa
