/- Of every code: a drawn need, a name and a version: FnNeedFits answers true; the code is as it was. No condition. -/
import Derived.Test.YtcggeolljfjnmaaRowCode
import Derived.Test.YtcggeolljfjnmaaVersMath
import Derived.Test.YtcggeolljfjnmaaDrawFits
namespace Go.Proofs.Ytcggeolljfjnmaa
open Go.ChangeShapes Go.WideShapes Go.ChangeAt Go.RowKit

theorem fits_facts {x v ver : ByteArray} {k : Int} (hN : needB x.data.toList k v.data.toList = true) (hk : k ≠ 0) (hV : versOk ver.data.toList = true) :
    ∃ bf bl bs : Bool, (bf = false ∧ bl = true ∧ bs = false ∨ bf = true ∧ bl = false ∧ bs = true ∨ bf = true ∧ bl = false ∧ bs = false) ∧
      fitsB x.data.toList 2 v.data.toList x.data.toList ver.data.toList = bf ∧ fitsB x.data.toList 3 v.data.toList x.data.toList ver.data.toList = bl ∧ fitsB x.data.toList 1 v.data.toList x.data.toList ver.data.toList = bs ∧
      fitsB x.data.toList 0 (⟨#[]⟩ : ByteArray).data.toList x.data.toList ver.data.toList = true ∧ (ver.toList == v.toList) = bs := by
  have hp : packB x.data.toList = true := by unfold needB at hN; rw [Bool.and_eq_true] at hN; exact hN.1
  have hv : versOk v.data.toList = true := by
    unfold needB askB at hN
    rw [if_neg hk] at hN
    simp only [Bool.and_eq_true] at hN
    exact hN.2.2
  have e : ∀ j : Int, (j = 1 ∨ j = 2 ∨ j = 3) → fitsB x.data.toList j v.data.toList x.data.toList ver.data.toList = kindB j (ordI ver.data.toList v.data.toList) := by
    intro j hj
    have : askB j v.data.toList = true := by rcases hj with rfl | rfl | rfl <;> simp [askB, hv]
    simp [fitsB, needB, hp, this, hV]
  have e0 : fitsB x.data.toList 0 (⟨#[]⟩ : ByteArray).data.toList x.data.toList ver.data.toList = true := by
    simp [fitsB, needB, hp, askB, hV, kindB]
  have ez := ord_zero hV hv
  rw [e 1 (.inl rfl), e 2 (.inr (.inl rfl)), e 3 (.inr (.inr rfl)), e0, Lib.toList_data, Lib.toList_data, ← ez]
  generalize ordI ver.data.toList v.data.toList = o
  refine ⟨_, _, _, ?_, rfl, rfl, rfl, rfl, rfl⟩
  rcases Int.lt_trichotomy o 0 with h | h | h
  · left; simp [kindB]; omega
  · right; left; subst h; decide
  · right; right; simp [kindB]; omega

set_option maxRecDepth 100000 in
set_option maxHeartbeats 4000000 in
theorem walk_FnNeedFits (w : World) (a : Option Addr) (len cap : Nat) (h : Code w w.heap.size a len) (hc : len ≤ cap) :
    Calls Try.prog 3 #[.slice a len cap] w fun e w' => e = .returned (.bool true) ∧ Below w.heap.size w w' := by
  have H := hid h
  clear h
  by_cases hl : (1048576 : Int) < len
  · go_enter Try.func3, Try.ntmps3
    go_wp2
    go_ret
    exact ⟨rfl, Below.refl _ _⟩
  · go_enter Try.func3, Try.ntmps3
    go_wp2_with fail
    refine (DrawNeedFits_any w a len cap (unhid H) (by omega) hc).mono ?_
    rintro e w1 ⟨x, v, nm, ver, k, rfl, hx0, hv0, hnm0, hver0, hb1⟩
    have hx : x.size ≤ 100 := hx0
    have hv : v.size ≤ 100 := hv0
    have hnm : nm.size ≤ 100 := hnm0
    have hver : ver.size ≤ 100 := hver0
    have xm : x.size ≤ maxLen := by unfold maxLen; omega
    have vm : v.size ≤ maxLen := by unfold maxLen; omega
    have rm : ver.size ≤ maxLen := by unfold maxLen; omega
    have HB1 := hid (hb1.alloc hb1.size (.cells #[.string x, .int .i64 k, .string v] 24))
    have NA := hid (needAt_new w1 x k v 24)
    have hsz : w1.heap.size < (w1.alloc (.cells #[.string x, .int .i64 k, .string v] 24)).heap.size := by simp
    clear hb1 hx0 hv0 hnm0 hver0 H
    go_wp2_with fail
    generalize w1.alloc (.cells #[.string x, .int .i64 k, .string v] 24) = W at *
    generalize w1.heap.size = g at *
    have keep : ∀ {y z : World}, Hid (NeedAt y g x k v ∧ g < y.heap.size ∧ Below w.heap.size w y) → Below y.heap.size y z → Hid (NeedAt z g x k v ∧ g < z.heap.size ∧ Below w.heap.size w z) := fun h hb =>
      hid ⟨(unhid h).1.below hb (unhid h).2.1, Nat.lt_of_lt_of_le (unhid h).2.1 hb.size, (unhid h).2.2.trans (hb.mono (unhid h).2.2.size)⟩
    have K0 : Hid (NeedAt W g x k v ∧ g < W.heap.size ∧ Below w.heap.size w W) := hid ⟨unhid NA, hsz, unhid HB1⟩
    clear NA hsz HB1
    refine (NeedFits_any x v nm ver k xm vm rm _).mono ?_
    rintro e w2 ⟨rfl, hb⟩
    have K2 := keep K0 hb
    obtain ⟨⟨c0, _⟩, ⟨c1, _⟩, c2, _⟩ := (unhid K2).1
    clear hb K0
    go_wp2_with fail
    refine (specNeedFits_any x v nm ver k (by omega) (by omega) (by omega) _).mono ?_
    rintro e w3 ⟨rfl, hb⟩
    have K3 := keep K2 hb
    clear hb K2 c0 c1 c2
    obtain ⟨⟨c0, _⟩, ⟨c1, _⟩, c2, _⟩ := (unhid K3).1
    have hend : fitsB x.data.toList k v.data.toList nm.data.toList ver.data.toList = true → (nm.toList == x.toList) = true := by
      intro h
      simp only [fitsB, Bool.and_eq_true] at h
      rw [beq_iff_eq, Lib.toList_data, Lib.toList_data]
      exact (beq_iff_eq.1 h.1.2).symm
    have Hend := hid hend
    clear hend
    cases hF : fitsB x.data.toList k v.data.toList nm.data.toList ver.data.toList
    all_goals
      have HF := hid hF
      clear hF
      go_wp2_with fail
      refine (specNeedOk_any x v k (by omega) (by omega) _).mono ?_
      rintro e w4 ⟨rfl, hb⟩
      have K4 := keep K3 hb
      clear hb c0 c1 c2
      obtain ⟨⟨c0, _⟩, ⟨c1, _⟩, c2, _⟩ := (unhid K4).1
      cases hN : needB x.data.toList k v.data.toList
      · go_wp2_with fail
        refine (specNeedFits_any x v nm ver k (by omega) (by omega) (by omega) _).mono ?_
        rintro e w5 ⟨rfl, hb⟩
        rw [unhid HF]
        have K5 := keep K4 hb
        clear hb
        go_wp2_with fail
        go_ret
        exact ⟨rfl, (unhid K5).2.2⟩
      · have HN := hid hN
        clear hN
        go_wp2_with fail
        refine (specVersionOk_any ver (by omega) _).mono ?_
        rintro e w5 ⟨rfl, hb⟩
        have K5 := keep K4 hb
        clear hb c0 c1 c2
        obtain ⟨⟨c0, _⟩, ⟨c1, _⟩, c2, _⟩ := (unhid K5).1
        cases hV : versOk ver.data.toList
        · go_wp2_with fail
          refine (specNeedFits_any x v nm ver k (by omega) (by omega) (by omega) _).mono ?_
          rintro e w6 ⟨rfl, hb⟩
          rw [unhid HF]
          have K6 := keep K5 hb
          clear hb
          go_wp2_with fail
          go_ret
          exact ⟨rfl, (unhid K6).2.2⟩
        · have HV := hid hV
          clear hV
          by_cases k0 : k = 0
          · subst k0
            go_wp2_with fail
            refine (specNeedFits_any x v nm ver 0 (by omega) (by omega) (by omega) _).mono ?_
            rintro e w6 ⟨rfl, hb⟩
            rw [unhid HF]
            have K6 := keep K5 hb
            clear hb
            go_wp2_with fail
            go_ret
            exact ⟨rfl, (unhid K6).2.2⟩
          · have k0' : (k == 0) = false := by rw [beq_eq_false_iff_ne]; exact k0
            obtain ⟨bf, bl, bs, hcase, e2, e3, e1, e0, ee⟩ := fits_facts (unhid HN) k0 (unhid HV)
            have E0 := hid e0
            have E1 := hid e1
            have E2 := hid e2
            have E3 := hid e3
            clear e0 e1 e2 e3
            go_wp2_with fail
            refine (NeedFits_any x v x ver 2 xm vm rm _).mono ?_
            rintro e w6 ⟨rfl, hb⟩
            rw [unhid E2]
            have K6 := keep K5 hb
            clear hb c0 c1 c2
            obtain ⟨⟨c0, _⟩, ⟨c1, _⟩, c2, _⟩ := (unhid K6).1
            go_wp2_with fail
            refine (NeedFits_any x v x ver 3 xm vm rm _).mono ?_
            rintro e w7 ⟨rfl, hb⟩
            rw [unhid E3]
            have K7 := keep K6 hb
            clear hb c0 c1 c2
            obtain ⟨⟨c0, _⟩, ⟨c1, _⟩, c2, _⟩ := (unhid K7).1
            go_wp2_with fail
            refine (NeedFits_any x v x ver 1 xm vm rm _).mono ?_
            rintro e w8 ⟨rfl, hb⟩
            rw [unhid E1]
            have K8 := keep K7 hb
            clear hb c0 c1 c2
            obtain ⟨⟨c0, _⟩, ⟨c1, _⟩, c2, _⟩ := (unhid K8).1
            go_wp2_with fail
            refine (NeedFits_any x ⟨#[]⟩ x ver 0 xm (by decide) rm _).mono ?_
            rintro e w9 ⟨rfl, hb⟩
            rw [unhid E0]
            have K9 := keep K8 hb
            clear hb c0 c1 c2
            obtain ⟨⟨c0, _⟩, ⟨c1, _⟩, c2, _⟩ := (unhid K9).1
            cases hq : (nm.toList == x.toList)
            · rcases hcase with ⟨rfl, rfl, rfl⟩ | ⟨rfl, rfl, rfl⟩ | ⟨rfl, rfl, rfl⟩
              all_goals first | (exfalso; have := unhid Hend (unhid HF); rw [hq] at this; cases this) | (go_wp2_with fail; go_ret; exact ⟨rfl, (unhid K9).2.2⟩)
            · rcases hcase with ⟨rfl, rfl, rfl⟩ | ⟨rfl, rfl, rfl⟩ | ⟨rfl, rfl, rfl⟩
              all_goals
                go_wp2_with fail
                go_ret
                exact ⟨rfl, (unhid K9).2.2⟩

set_option maxRecDepth 100000 in
theorem lifted_FnNeedFits (os : Os) (started : os.Started) (H : Type) (enc : TypeId × Value → H) :
    ReturnsInHanded {} Try.checked os 3 .any (Rows.fnNeedFitsSpec.pre6 enc Try.prog Try.f3 Rows.fnNeedFitsRow.domain false) (Rows.fnNeedFitsSpec.post enc Try.prog Try.f3 false true false false) := by
  refine returnsInHanded_of_change (C := Try.checked) own started (by kernel_rfl) Try.func3
    (ChangeSpec.witness6 (enc := enc) (C := Try.checked) false ⟨#[], #[.slice none 0 0], []⟩ 8 (by kernel_rfl) (by kernel_rfl) (by kernel_rfl) (by kernel_rfl)) ?_
  intro W base args ds gs before hval0 hW _ _
  have hval : ∀ (j : Nat) t v, Try.f3.params[j]? = some t → args[j]? = some v → Value.okWide Try.prog W .any base t v := hval0
  have hW' := hW
  obtain ⟨p, q, hA0, hV, rfl, hfz, hnd⟩ := hW
  have hA : DataW.TrodAll enc Try.prog W 0 (fun _ => true) true Try.f3.params.toList args.toList ds p := hA0
  rw [Try.params3] at hA hval
  obtain ⟨v0, vs0, d0, ds0, p0, q0, e0, rfl, rfl, h0, r0⟩ := trodAll_cons hA
  obtain ⟨rfl, rfl, rfl⟩ := trodAll_nil r0
  obtain rfl : args = #[v0] := by cases args; simp_all
  obtain ⟨rfl, rfl⟩ := trodVars_none hV
  obtain ⟨a0, len, cap, rfl⟩ := okWide_slice Try.underlying22 (hval 0 22 v0 rfl rfl)
  clear hA0 hval0
  simp only [List.append_nil] at hW'
  have hlt : ∀ x ∈ p0, x.block < W.heap.size := fun x hx => by simpa using hW'.lt x hx
  obtain ⟨hcode, hcap⟩ := code_of h0 hlt
  refine (walk_FnNeedFits W a0 len cap hcode hcap).mono fun e W' ⟨he, hb⟩ => ?_
  subst he
  exact ⟨_, rfl, post_below (ds := [d0]) (gs := []) (pa := p0 ++ []) (pv := []) (by simpa using hW') (fun _ _ _ => trodAll_cons_mk (shut_bool Try.underlying4 _) trodAll_mk0)
    (trodAll_cons_mk (Below.trod laidOut (by kernel_rfl) (of_decide_eq_true (by kernel_rfl)) h0 hb hlt) trodAll_mk0) rfl (by simp) hb⟩

theorem fnNeedFits_holds : Rows.FnNeedFitsSaid :=
  OpenClaim.holds_of_wide 3 Try.f3 rfl rfl rfl rfl rfl rfl rfl ⟨rfl, rfl, rfl, rfl, rfl⟩ rfl rfl rfl rfl rfl (by kernel_rfl) Try.func3 (by kernel_rfl)
    (of_decide_eq_true (by kernel_rfl)) (by unfold Func.isWrapper; first | (rw [if_pos (by decide +kernel)]; kernel_rfl) | (rw [if_neg (by decide +kernel)]; exact ⟨rfl, rfl⟩))
    (fun os started H enc _ => lifted_FnNeedFits os started H enc)
end Go.Proofs.Ytcggeolljfjnmaa
