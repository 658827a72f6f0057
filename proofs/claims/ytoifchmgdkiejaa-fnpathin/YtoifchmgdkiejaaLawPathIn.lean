/- Of every code: what is below what is below is below, of two drawn paths: FnPathIn answers true; the code is as it was. No condition. -/
import Derived.Test.YtoifchmgdkiejaaRowCode
import Derived.Test.YtoifchmgdkiejaaPathMath2
namespace Go.Proofs.Ytoifchmgdkiejaa
open Go.ChangeShapes Go.WideShapes Go.ChangeAt Go.RowKit

set_option maxRecDepth 100000 in
set_option maxHeartbeats 2000000 in
theorem walk_FnPathIn (w : World) (a : Option Addr) (len cap : Nat) (h : Code w w.heap.size a len) (hc : len ≤ cap) :
    Calls Try.prog 4 #[.slice a len cap] w fun e w' => e = .returned (.bool true) ∧ Below w.heap.size w w' := by
  have H := hid h
  clear h
  by_cases hl : (1048576 : Int) < len
  · go_enter Try.func4, Try.ntmps4
    go_wp2
    go_ret
    exact ⟨rfl, Below.refl _ _⟩
  · go_enter Try.func4, Try.ntmps4
    go_wp2_with fail
    refine (DrawPathIn_any w a len cap (unhid H) (by omega) hc).mono ?_
    rintro e w1 ⟨p, s, rfl, hp0, hs0, hb1⟩
    have hp : p.size ≤ 100 := hp0
    have hs : s.size ≤ 100 := hs0
    have pm : p.size ≤ maxLen := by unfold maxLen; omega
    have sm : s.size ≤ maxLen := by unfold maxLen; omega
    have pq : p.size ≤ 1048576 := by omega
    have sq : s.size ≤ 1048576 := by omega
    have HB1 := hid hb1
    clear hb1 hs0 hp0
    go_wp2_with fail
    refine (PathIn_any p s pm sm _).mono ?_
    rintro e w2 ⟨rfl, hb⟩
    have HB2 := hid ((unhid HB1).trans (hb.mono (unhid HB1).size))
    clear hb HB1
    go_wp2_with fail
    refine (specPathIn_any p s pq sq _).mono ?_
    rintro e w3 ⟨rfl, hb⟩
    have HB3 := hid ((unhid HB2).trans (hb.mono (unhid HB2).size))
    clear hb HB2
    cases hi : inB p.data.toList s.data.toList
    · go_wp2_with fail
      refine (specPathIn_any p s pq sq _).mono ?_
      rintro e w4 ⟨rfl, hb⟩
      rw [hi]
      have HB4 := hid ((unhid HB3).trans (hb.mono (unhid HB3).size))
      clear hb HB3
      go_wp2_with fail
      go_ret
      exact ⟨rfl, unhid HB4⟩
    · go_wp2_with fail
      refine (PathUp_any p pm _).mono ?_
      rintro e w4 ⟨rfl, hb⟩
      have HB4 := hid ((unhid HB3).trans (hb.mono (unhid HB3).size))
      clear hb HB3
      have z1 := size_up p
      have Hu := hid (fun h => fnPathIn_up (p := p) (s := s) hi h)
      have um : (pathUpS p).size ≤ maxLen := by unfold maxLen; omega
      by_cases hps : p.toList = s.toList
      · have hps' : (p.toList == s.toList) = true := by simp [hps]
        by_cases hu : (pathUpS p).toList = []
        · have hu' : (pathUpS p).toList.isEmpty = true := by simp [hu]
          go_wp2_with fail
          go_ret
          exact ⟨rfl, unhid HB4⟩
        · have hu' : (pathUpS p).toList.isEmpty = false := by simp [hu]
          have G := hid (unhid Hu hu)
          go_wp2_with fail
          refine (PathIn_any _ s um sm _).mono ?_
          rintro e w5 ⟨rfl, hb⟩
          rw [unhid G]
          have HB5 := hid ((unhid HB4).trans (hb.mono (unhid HB4).size))
          clear hb HB4
          go_wp2_with fail
          go_ret
          exact ⟨rfl, unhid HB5⟩
      · have hps' : (p.toList == s.toList) = false := by simp [hps]
        obtain ⟨g1, g2⟩ := fnPathIn_facts hi hps
        have G1 := hid g1
        have G2 := hid g2
        have z2 := size_up s
        have um2 : (pathUpS s).size ≤ maxLen := by unfold maxLen; omega
        clear g1 g2
        go_wp2_with fail
        refine (PathUp_any s sm _).mono ?_
        rintro e w5 ⟨rfl, hb⟩
        have HB5 := hid ((unhid HB4).trans (hb.mono (unhid HB4).size))
        clear hb HB4
        go_wp2_with fail
        refine (PathIn_any p _ pm um2 _).mono ?_
        rintro e w6 ⟨rfl, hb⟩
        rw [unhid G1]
        have HB6 := hid ((unhid HB5).trans (hb.mono (unhid HB5).size))
        clear hb HB5
        go_wp2_with fail
        refine (PathIn_any s p sm pm _).mono ?_
        rintro e w7 ⟨rfl, hb⟩
        rw [unhid G2]
        have HB7 := hid ((unhid HB6).trans (hb.mono (unhid HB6).size))
        clear hb HB6
        by_cases hu : (pathUpS p).toList = []
        · have hu' : (pathUpS p).toList.isEmpty = true := by simp [hu]
          go_wp2_with fail
          go_ret
          exact ⟨rfl, unhid HB7⟩
        · have hu' : (pathUpS p).toList.isEmpty = false := by simp [hu]
          have G := hid (unhid Hu hu)
          go_wp2_with fail
          refine (PathIn_any _ s um sm _).mono ?_
          rintro e w8 ⟨rfl, hb⟩
          rw [unhid G]
          have HB8 := hid ((unhid HB7).trans (hb.mono (unhid HB7).size))
          clear hb HB7
          go_wp2_with fail
          go_ret
          exact ⟨rfl, unhid HB8⟩

set_option maxRecDepth 100000 in
theorem lifted_FnPathIn (os : Os) (started : os.Started) (H : Type) (enc : TypeId × Value → H) :
    ReturnsInHanded {} Try.checked os 4 .any (Rows.fnPathInSpec.pre6 enc Try.prog Try.f4 Rows.fnPathInRow.domain false) (Rows.fnPathInSpec.post enc Try.prog Try.f4 false true false false) := by
  refine returnsInHanded_of_change (C := Try.checked) own started (by kernel_rfl) Try.func4
    (ChangeSpec.witness6 (enc := enc) (C := Try.checked) false ⟨#[], #[.slice none 0 0], []⟩ 8 (by kernel_rfl) (by kernel_rfl) (by kernel_rfl) (by kernel_rfl)) ?_
  intro W base args ds gs before hval0 hW _ _
  have hval : ∀ (j : Nat) t v, Try.f4.params[j]? = some t → args[j]? = some v → Value.okWide Try.prog W .any base t v := hval0
  have hW' := hW
  obtain ⟨p, q, hA0, hV, rfl, hfz, hnd⟩ := hW
  have hA : DataW.TrodAll enc Try.prog W 0 (fun _ => true) true Try.f4.params.toList args.toList ds p := hA0
  rw [Try.params4] at hA hval
  obtain ⟨v0, vs0, d0, ds0, p0, q0, e0, rfl, rfl, h0, r0⟩ := trodAll_cons hA
  obtain ⟨rfl, rfl, rfl⟩ := trodAll_nil r0
  obtain rfl : args = #[v0] := by cases args; simp_all
  obtain ⟨rfl, rfl⟩ := trodVars_none hV
  obtain ⟨a0, len, cap, rfl⟩ := okWide_slice Try.underlying22 (hval 0 22 v0 rfl rfl)
  clear hA0 hval0
  simp only [List.append_nil] at hW'
  have hlt : ∀ x ∈ p0, x.block < W.heap.size := fun x hx => by simpa using hW'.lt x hx
  obtain ⟨hcode, hcap⟩ := code_of h0 hlt
  refine (walk_FnPathIn W a0 len cap hcode hcap).mono fun e W' ⟨he, hb⟩ => ?_
  subst he
  exact ⟨_, rfl, post_below (ds := [d0]) (gs := []) (pa := p0 ++ []) (pv := []) (by simpa using hW') (fun _ _ _ => trodAll_cons_mk (shut_bool Try.underlying4 _) trodAll_mk0)
    (trodAll_cons_mk (Below.trod laidOut (by kernel_rfl) (of_decide_eq_true (by kernel_rfl)) h0 hb hlt) trodAll_mk0) rfl (by simp) hb⟩

theorem fnPathIn_holds : Rows.FnPathInSaid :=
  OpenClaim.holds_of_wide 4 Try.f4 rfl rfl rfl rfl rfl rfl rfl ⟨rfl, rfl, rfl, rfl, rfl⟩ rfl rfl rfl rfl rfl (by kernel_rfl) Try.func4 (by kernel_rfl)
    (of_decide_eq_true (by kernel_rfl)) (by unfold Func.isWrapper; first | (rw [if_pos (by decide +kernel)]; kernel_rfl) | (rw [if_neg (by decide +kernel)]; exact ⟨rfl, rfl⟩))
    (fun os started H enc _ => lifted_FnPathIn os started H enc)
end Go.Proofs.Ytoifchmgdkiejaa
