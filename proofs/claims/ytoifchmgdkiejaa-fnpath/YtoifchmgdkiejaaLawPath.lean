/- Of every code: the drawn path is in what it is in, by its last name: FnPath answers true; the code is as it was. No condition. -/
import Derived.Test.YtoifchmgdkiejaaRowCode
import Derived.Test.YtoifchmgdkiejaaPathMath
namespace Go.Proofs.Ytoifchmgdkiejaa
open Go.ChangeShapes Go.WideShapes Go.ChangeAt Go.RowKit

set_option maxRecDepth 100000 in
set_option maxHeartbeats 2000000 in
theorem walk_FnPath (w : World) (a : Option Addr) (len cap : Nat) (h : Code w w.heap.size a len) (hc : len ≤ cap) :
    Calls Try.prog 3 #[.slice a len cap] w fun e w' => e = .returned (.bool true) ∧ Below w.heap.size w w' := by
  have H := hid h
  clear h
  by_cases hl : (1048576 : Int) < len
  · go_enter Try.func3, Try.ntmps3
    go_wp2
    go_ret
    exact ⟨rfl, Below.refl _ _⟩
  · go_enter Try.func3, Try.ntmps3
    go_wp2_with fail
    refine (DrawPathOk_any w a len cap (unhid H) (by omega) hc).mono ?_
    rintro e w1 ⟨s, rfl, hs0, hb1⟩
    have hs : s.size ≤ 100 := hs0
    have hm : s.size ≤ maxLen := by unfold maxLen; omega
    have hq : s.size ≤ 1048576 := by omega
    have HB := hid hb1
    clear hb1 hs0
    go_wp2_with fail
    refine (PathOk_any s hm _).mono ?_
    rintro e w2 ⟨rfl, hb⟩
    have HB2 := hid ((unhid HB).trans (hb.mono (unhid HB).size))
    clear hb HB
    go_wp2_with fail
    refine (PathUp_any s hm _).mono ?_
    rintro e w3 ⟨rfl, hb⟩
    have HB3 := hid ((unhid HB2).trans (hb.mono (unhid HB2).size))
    clear hb HB2
    go_wp2_with fail
    refine (PathLast_any s hm _).mono ?_
    rintro e w4 ⟨rfl, hb⟩
    have HB4 := hid ((unhid HB3).trans (hb.mono (unhid HB3).size))
    clear hb HB3
    go_wp2_with fail
    refine (specPathOk_any s hq _).mono ?_
    rintro e w5 ⟨rfl, hb⟩
    have HB5 := hid ((unhid HB4).trans (hb.mono (unhid HB4).size))
    clear hb HB4
    go_wp2_with fail
    refine (specPathUp_any s hq _).mono ?_
    rintro e w6 ⟨rfl, hb⟩
    have HB6 := hid ((unhid HB5).trans (hb.mono (unhid HB5).size))
    clear hb HB5
    go_wp2_with fail
    refine (specPathLast_any s hq _).mono ?_
    rintro e w7 ⟨rfl, hb⟩
    have HB7 := hid ((unhid HB6).trans (hb.mono (unhid HB6).size))
    clear hb HB6
    cases hp : pathB s.data.toList
    · go_wp2_with fail
      refine (specPathOk_any s hq _).mono ?_
      rintro e w8 ⟨rfl, hb⟩
      have HB8 := hid ((unhid HB7).trans (hb.mono (unhid HB7).size))
      clear hb HB7
      go_wp2_with fail
      refine (specPathUp_any s hq _).mono ?_
      rintro e w9 ⟨rfl, hb⟩
      have HB9 := hid ((unhid HB8).trans (hb.mono (unhid HB8).size))
      clear hb HB8
      go_wp2_with fail
      refine (specPathLast_any s hq _).mono ?_
      rintro e w10 ⟨rfl, hb⟩
      have HB10 := hid ((unhid HB9).trans (hb.mono (unhid HB9).size))
      clear hb HB9
      go_wp2_with fail
      go_ret
      exact ⟨rfl, unhid HB10⟩
    · by_cases hi : lastIx 47 s.data.toList < 0
      · rw [up_none hi, last_none hp hi]
        go_wp2_with fail
        refine (PathIn_any s s hm hm _).mono ?_
        rintro e w8 ⟨rfl, hb⟩
        rw [inB_refl _ hp]
        have HB8 := hid ((unhid HB7).trans (hb.mono (unhid HB7).size))
        clear hb HB7
        go_wp2_with fail
        go_ret
        exact ⟨rfl, unhid HB8⟩
      · have hi' : 0 ≤ lastIx 47 s.data.toList := by omega
        obtain ⟨f1, f2, f3, f4, f5⟩ := fnPath_facts hp hi'
        have z1 := size_up s
        have z2 := size_last s
        generalize pathUpS s = u at *
        generalize pathLastS s = l at *
        have F3 := hid f3
        have F4 := hid f4
        have F5 := hid f5
        have f2' : ((u ++ ⟨#[47]⟩ ++ l).toList == s.toList) = true := by simp [f2]
        have f1' : u.toList.isEmpty = false := by simp [f1]
        have hu : u.size ≤ maxLen := by unfold maxLen; omega
        clear f2 f3 f4 f5 hi hi'
        go_wp2_with fail
        refine (PathOk_any u hu _).mono ?_
        rintro e w8 ⟨rfl, hb⟩
        rw [unhid F3]
        have HB8 := hid ((unhid HB7).trans (hb.mono (unhid HB7).size))
        clear hb HB7
        go_wp2_with fail
        refine (PathIn_any u s hu hm _).mono ?_
        rintro e w9 ⟨rfl, hb⟩
        rw [unhid F4]
        have HB9 := hid ((unhid HB8).trans (hb.mono (unhid HB8).size))
        clear hb HB8
        go_wp2_with fail
        refine (PathIn_any s u hm hu _).mono ?_
        rintro e w10 ⟨rfl, hb⟩
        rw [unhid F5]
        have HB10 := hid ((unhid HB9).trans (hb.mono (unhid HB9).size))
        clear hb HB9
        go_wp2_with fail
        go_ret
        exact ⟨rfl, unhid HB10⟩

set_option maxRecDepth 100000 in
theorem lifted_FnPath (os : Os) (started : os.Started) (H : Type) (enc : TypeId × Value → H) :
    ReturnsInHanded {} Try.checked os 3 .any (Rows.fnPathSpec.pre6 enc Try.prog Try.f3 Rows.fnPathRow.domain false) (Rows.fnPathSpec.post enc Try.prog Try.f3 false true false false) := by
  refine returnsInHanded_of_change (C := Try.checked) own started (by kernel_rfl) Try.func3
    (ChangeSpec.witness6 (enc := enc) (C := Try.checked) false ⟨#[], #[.slice none 0 0], []⟩ 8 (by kernel_rfl) (by kernel_rfl) (by kernel_rfl) (by kernel_rfl)) ?_
  intro W base args ds gs before hval0 hW _ _
  have hval : ∀ (j : Nat) t v, Try.f3.params[j]? = some t → args[j]? = some v → Value.okWide Try.prog W .any base t v := hval0
  have hW' := hW
  obtain ⟨p, q, hA0, hV, rfl, hfz, hnd⟩ := hW
  have hA : DataW.TrodAll enc Try.prog W 0 (fun _ => true) true Try.f3.params.toList args.toList ds p := hA0
  rw [Try.params3] at hA hval
  obtain ⟨v0, vs0, d0, ds0, p0, q0, e0, rfl, rfl, h0, r0⟩ := trodAll_cons hA
  obtain ⟨rfl, rfl, rfl⟩ := trodAll_nil r0
  obtain rfl : args = #[v0] := by cases args; simp_all
  obtain ⟨rfl, rfl⟩ := trodVars_none hV
  obtain ⟨a0, len, cap, rfl⟩ := okWide_slice Try.underlying22 (hval 0 22 v0 rfl rfl)
  clear hA0 hval0
  simp only [List.append_nil] at hW'
  have hlt : ∀ x ∈ p0, x.block < W.heap.size := fun x hx => by simpa using hW'.lt x hx
  obtain ⟨hcode, hcap⟩ := code_of h0 hlt
  refine (walk_FnPath W a0 len cap hcode hcap).mono fun e W' ⟨he, hb⟩ => ?_
  subst he
  exact ⟨_, rfl, post_below (ds := [d0]) (gs := []) (pa := p0 ++ []) (pv := []) (by simpa using hW') (fun _ _ _ => trodAll_cons_mk (shut_bool Try.underlying4 _) trodAll_mk0)
    (trodAll_cons_mk (Below.trod laidOut (by kernel_rfl) (of_decide_eq_true (by kernel_rfl)) h0 hb hlt) trodAll_mk0) rfl (by simp) hb⟩

theorem fnPath_holds : Rows.FnPathSaid :=
  OpenClaim.holds_of_wide 3 Try.f3 rfl rfl rfl rfl rfl rfl rfl ⟨rfl, rfl, rfl, rfl, rfl⟩ rfl rfl rfl rfl rfl (by kernel_rfl) Try.func3 (by kernel_rfl)
    (of_decide_eq_true (by kernel_rfl)) (by unfold Func.isWrapper; first | (rw [if_pos (by decide +kernel)]; kernel_rfl) | (rw [if_neg (by decide +kernel)]; exact ⟨rfl, rfl⟩))
    (fun os started H enc _ => lifted_FnPath os started H enc)
end Go.Proofs.Ytoifchmgdkiejaa
