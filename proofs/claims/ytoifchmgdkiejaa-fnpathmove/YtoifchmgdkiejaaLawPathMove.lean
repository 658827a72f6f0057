/- Of every code: a drawn path that is moved is at the other place, and back it is as it was: FnPathMove answers true; the code is as it was. No condition. -/
import Derived.Test.YtoifchmgdkiejaaRowCode
import Derived.Test.YtoifchmgdkiejaaPathMath2
import Derived.Test.YtoifchmgdkiejaaDrawMove
namespace Go.Proofs.Ytoifchmgdkiejaa
open Go.ChangeShapes Go.WideShapes Go.ChangeAt Go.RowKit

set_option maxRecDepth 100000 in
set_option maxHeartbeats 2000000 in
theorem walk_FnPathMove (w : World) (a : Option Addr) (len cap : Nat) (h : Code w w.heap.size a len) (hc : len ≤ cap) :
    Calls Try.prog 5 #[.slice a len cap] w fun e w' => e = .returned (.bool true) ∧ Below w.heap.size w w' := by
  have H := hid h
  clear h
  by_cases hl : (1048576 : Int) < len
  · go_enter Try.func5, Try.ntmps5
    go_wp2
    go_ret
    exact ⟨rfl, Below.refl _ _⟩
  · go_enter Try.func5, Try.ntmps5
    go_wp2_with fail
    refine (DrawPathMove_any w a len cap (unhid H) (by omega) hc).mono ?_
    rintro e w1 ⟨s, f, t, rfl, hs0, hf0, ht0, hb1⟩
    have hs : s.size ≤ 100 := hs0
    have hf : f.size ≤ 100 := hf0
    have ht : t.size ≤ 100 := ht0
    have sm : s.size ≤ maxLen := by unfold maxLen; omega
    have fm : f.size ≤ maxLen := by unfold maxLen; omega
    have tm : t.size ≤ maxLen := by unfold maxLen; omega
    have HB1 := hid hb1
    clear hb1 hs0 hf0 ht0
    go_wp2_with fail
    refine (PathMove_any s f t sm fm tm _).mono ?_
    rintro e w2 ⟨rfl, hb⟩
    have HB2 := hid ((unhid HB1).trans (hb.mono (unhid HB1).size))
    clear hb HB1
    go_wp2_with fail
    refine (specPathMove_any s f t (by omega) (by omega) (by omega) _).mono ?_
    rintro e w3 ⟨rfl, hb⟩
    have HB3 := hid ((unhid HB2).trans (hb.mono (unhid HB2).size))
    clear hb HB2
    have xm : (moveS s f t).size ≤ maxLen := by have := size_move s f t; unfold maxLen; omega
    by_cases hx : (moveS s f t).toList = []
    · have hx' : (moveS s f t).toList.isEmpty = true := by simp [hx]
      go_wp2_with fail
      refine (specPathMove_any s f t (by omega) (by omega) (by omega) _).mono ?_
      rintro e w4 ⟨rfl, hb⟩
      have HB4 := hid ((unhid HB3).trans (hb.mono (unhid HB3).size))
      clear hb HB3
      go_wp2_with fail
      go_ret
      exact ⟨rfl, unhid HB4⟩
    · have hx' : (moveS s f t).toList.isEmpty = false := by simp [hx]
      obtain ⟨g1, g2, g3, g4⟩ := fnPathMove_facts hx
      have G1 := hid g1
      have G2 := hid g2
      have G3 := hid g3
      have G4 := hid g4
      clear g1 g2 g3 g4
      generalize moveS s f t = x at *
      go_wp2_with fail
      refine (PathOk_any x xm _).mono ?_
      rintro e w4 ⟨rfl, hb⟩
      rw [unhid G1]
      have HB4 := hid ((unhid HB3).trans (hb.mono (unhid HB3).size))
      clear hb HB3
      go_wp2_with fail
      refine (PathIn_any t x tm xm _).mono ?_
      rintro e w5 ⟨rfl, hb⟩
      rw [unhid G2]
      have HB5 := hid ((unhid HB4).trans (hb.mono (unhid HB4).size))
      clear hb HB4
      go_wp2_with fail
      refine (PathMove_any x t f xm tm fm _).mono ?_
      rintro e w6 ⟨rfl, hb⟩
      rw [unhid G3]
      have HB6 := hid ((unhid HB5).trans (hb.mono (unhid HB5).size))
      clear hb HB5
      go_wp2_with fail
      refine (PathMove_any s f f sm fm fm _).mono ?_
      rintro e w7 ⟨rfl, hb⟩
      rw [unhid G4]
      have HB7 := hid ((unhid HB6).trans (hb.mono (unhid HB6).size))
      clear hb HB6
      go_wp2_with fail
      go_ret
      exact ⟨rfl, unhid HB7⟩

set_option maxRecDepth 100000 in
theorem lifted_FnPathMove (os : Os) (started : os.Started) (H : Type) (enc : TypeId × Value → H) :
    ReturnsInHanded {} Try.checked os 5 .any (Rows.fnPathMoveSpec.pre6 enc Try.prog Try.f5 Rows.fnPathMoveRow.domain false) (Rows.fnPathMoveSpec.post enc Try.prog Try.f5 false true false false) := by
  refine returnsInHanded_of_change (C := Try.checked) own started (by kernel_rfl) Try.func5
    (ChangeSpec.witness6 (enc := enc) (C := Try.checked) false ⟨#[], #[.slice none 0 0], []⟩ 8 (by kernel_rfl) (by kernel_rfl) (by kernel_rfl) (by kernel_rfl)) ?_
  intro W base args ds gs before hval0 hW _ _
  have hval : ∀ (j : Nat) t v, Try.f5.params[j]? = some t → args[j]? = some v → Value.okWide Try.prog W .any base t v := hval0
  have hW' := hW
  obtain ⟨p, q, hA0, hV, rfl, hfz, hnd⟩ := hW
  have hA : DataW.TrodAll enc Try.prog W 0 (fun _ => true) true Try.f5.params.toList args.toList ds p := hA0
  rw [Try.params5] at hA hval
  obtain ⟨v0, vs0, d0, ds0, p0, q0, e0, rfl, rfl, h0, r0⟩ := trodAll_cons hA
  obtain ⟨rfl, rfl, rfl⟩ := trodAll_nil r0
  obtain rfl : args = #[v0] := by cases args; simp_all
  obtain ⟨rfl, rfl⟩ := trodVars_none hV
  obtain ⟨a0, len, cap, rfl⟩ := okWide_slice Try.underlying22 (hval 0 22 v0 rfl rfl)
  clear hA0 hval0
  simp only [List.append_nil] at hW'
  have hlt : ∀ x ∈ p0, x.block < W.heap.size := fun x hx => by simpa using hW'.lt x hx
  obtain ⟨hcode, hcap⟩ := code_of h0 hlt
  refine (walk_FnPathMove W a0 len cap hcode hcap).mono fun e W' ⟨he, hb⟩ => ?_
  subst he
  exact ⟨_, rfl, post_below (ds := [d0]) (gs := []) (pa := p0 ++ []) (pv := []) (by simpa using hW') (fun _ _ _ => trodAll_cons_mk (shut_bool Try.underlying4 _) trodAll_mk0)
    (trodAll_cons_mk (Below.trod laidOut (by kernel_rfl) (of_decide_eq_true (by kernel_rfl)) h0 hb hlt) trodAll_mk0) rfl (by simp) hb⟩

theorem fnPathMove_holds : Rows.FnPathMoveSaid :=
  OpenClaim.holds_of_wide 5 Try.f5 rfl rfl rfl rfl rfl rfl rfl ⟨rfl, rfl, rfl, rfl, rfl⟩ rfl rfl rfl rfl rfl (by kernel_rfl) Try.func5 (by kernel_rfl)
    (of_decide_eq_true (by kernel_rfl)) (by unfold Func.isWrapper; first | (rw [if_pos (by decide +kernel)]; kernel_rfl) | (rw [if_neg (by decide +kernel)]; exact ⟨rfl, rfl⟩))
    (fun os started H enc _ => lifted_FnPathMove os started H enc)
end Go.Proofs.Ytoifchmgdkiejaa
