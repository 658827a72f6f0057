/- Of every code: a drawn need, a name and a version: FnNeedOther answers true; the code is as it was. No condition. -/
import Derived.Test.YtobalkbddefaiaaRowCode
import Derived.Test.YtobalkbddefaiaaVersMath2
import Derived.Test.YtobalkbddefaiaaDrawFits
namespace Go.Proofs.Ytobalkbddefaiaa
open Go.ChangeShapes Go.WideShapes Go.ChangeAt Go.RowKit

theorem fits_other {n nm v ver : List UInt8} {k : Int} (h : (n == nm) = false) : fitsB n k v nm ver = false := by simp [fitsB, h]
theorem fits_more (x v ver : ByteArray) (k : Int) : fitsB x.data.toList k v.data.toList (x ++ (⟨#[120]⟩ : ByteArray)).data.toList ver.data.toList = false := by
  refine fits_other ?_
  rw [beq_eq_false_iff_ne, app_data]
  intro h
  have := congrArg List.length h
  simp at this
theorem fits_none (x v ver : ByteArray) (k : Int) : fitsB x.data.toList k v.data.toList (⟨#[]⟩ : ByteArray).data.toList ver.data.toList = false := by
  by_cases h : x.data.toList = []
  · simp [fitsB, needB, packB, h]
  · exact fits_other (by rw [beq_eq_false_iff_ne]; exact h)
theorem fits_need {n nm v ver : List UInt8} {k : Int} (h : fitsB n k v nm ver = true) : needB n k v = true ∧ versOk ver = true := by
  simp only [fitsB, Bool.and_eq_true] at h
  exact h.1.1

set_option maxRecDepth 100000 in
set_option maxHeartbeats 4000000 in
theorem walk_FnNeedOther (a : Option Addr) (len cap : Nat) (w : World) (h : Code w w.heap.size a len) (hc : len ≤ cap) :
    Calls Try.prog 6 #[.slice a len cap] w fun e w' => e = .returned (.bool true) ∧ Below w.heap.size w w' := by
  have H := hid h
  clear h
  by_cases hl : (1048576 : Int) < len
  · go_enter Try.func6, Try.ntmps6
    go_wp2
    go_ret
    exact ⟨rfl, Below.refl _ _⟩
  · go_enter Try.func6, Try.ntmps6
    go_wp2_with fail
    refine (DrawNeedFits_any w a len cap (unhid H) (by omega) hc).mono ?_
    rintro e w1 ⟨x, v, nm, ver, k, rfl, hx0, hv0, hnm0, hver0, hb1⟩
    have hx : x.size ≤ 100 := hx0
    have hv : v.size ≤ 100 := hv0
    have hnm : nm.size ≤ 100 := hnm0
    have hver : ver.size ≤ 100 := hver0
    have xm : x.size ≤ maxLen := by unfold maxLen; omega
    have vm : v.size ≤ maxLen := by unfold maxLen; omega
    have rm : ver.size ≤ maxLen := by unfold maxLen; omega
    have HB1 := hid (hb1.alloc hb1.size (.cells #[.string x, .int .i64 k, .string v] 30))
    have NA := hid (needAt_new w1 x k v 30)
    have hsz : w1.heap.size < (w1.alloc (.cells #[.string x, .int .i64 k, .string v] 30)).heap.size := by simp
    clear hb1 hx0 hv0 hnm0 hver0 H
    go_wp2_with fail
    generalize w1.alloc (.cells #[.string x, .int .i64 k, .string v] 30) = W at *
    generalize w1.heap.size = g at *
    have keep : ∀ {y z : World}, Hid (NeedAt y g x k v ∧ g < y.heap.size ∧ Below w.heap.size w y) → Below y.heap.size y z → Hid (NeedAt z g x k v ∧ g < z.heap.size ∧ Below w.heap.size w z) := fun h hb =>
      hid ⟨(unhid h).1.below hb (unhid h).2.1, Nat.lt_of_lt_of_le (unhid h).2.1 hb.size, (unhid h).2.2.trans (hb.mono (unhid h).2.2.size)⟩
    have K0 : Hid (NeedAt W g x k v ∧ g < W.heap.size ∧ Below w.heap.size w W) := hid ⟨unhid NA, hsz, unhid HB1⟩
    clear NA hsz HB1
    refine (NeedFits_any x v nm ver k xm vm rm _).mono ?_
    rintro e w2 ⟨rfl, hb⟩
    have K2 := keep K0 hb
    obtain ⟨⟨c0, _⟩, ⟨c1, _⟩, c2, _⟩ := (unhid K2).1
    clear hb K0
    go_wp2_with fail
    refine (specNeedFits_any x v nm ver k (by omega) (by omega) (by omega) _).mono ?_
    rintro e w3 ⟨rfl, hb⟩
    have K3 := keep K2 hb
    clear hb K2 c0 c1 c2
    obtain ⟨⟨c0, _⟩, ⟨c1, _⟩, c2, _⟩ := (unhid K3).1
    have ex : (x ++ (⟨#[120]⟩ : ByteArray)).size ≤ 101 := by rw [ByteArray.size_append]; show x.size + 1 ≤ 101; omega
    generalize hF : fitsB x.data.toList k v.data.toList nm.data.toList ver.data.toList = f
    have HF := hid hF
    clear hF
    go_wp2_with fail
    refine (NeedFits_any x v (x ++ (⟨#[120]⟩ : ByteArray)) ver k xm vm rm _).mono ?_
    rintro e w4 ⟨rfl, hb⟩
    rw [fits_more]
    have K4 := keep K3 hb
    clear hb K3 c0 c1 c2
    obtain ⟨⟨c0, _⟩, ⟨c1, _⟩, c2, _⟩ := (unhid K4).1
    go_wp2_with fail
    refine (NeedFits_any x v ⟨#[]⟩ ver k xm vm rm _).mono ?_
    rintro e w5 ⟨rfl, hb⟩
    rw [fits_none]
    have K5 := keep K4 hb
    clear hb K4 c0 c1 c2
    obtain ⟨⟨c0, _⟩, ⟨c1, _⟩, c2, _⟩ := (unhid K5).1
    cases f
    · go_wp2_with fail
      go_ret
      exact ⟨rfl, (unhid K5).2.2⟩
    · have HN := hid (fits_need (unhid HF))
      go_wp2_with fail
      refine (NeedOk_any x v k xm vm _).mono ?_
      rintro e w6 ⟨rfl, hb⟩
      rw [(unhid HN).1]
      have K6 := keep K5 hb
      clear hb K5 c0 c1 c2
      go_wp2_with fail
      refine (VersionOk_any ver rm _).mono ?_
      rintro e w7 ⟨rfl, hb⟩
      rw [(unhid HN).2]
      have K7 := keep K6 hb
      clear hb K6
      go_wp2_with fail
      go_ret
      exact ⟨rfl, (unhid K7).2.2⟩

set_option maxRecDepth 100000 in
set_option maxHeartbeats 1000000 in
theorem lifted_FnNeedOther (os : Os) (started : os.Started) (H : Type) (enc : TypeId × Value → H) :
    ReturnsInHanded {} Try.checked os 6 .any (Rows.fnNeedOtherSpec.pre6 enc Try.prog Try.f6 Rows.fnNeedOtherRow.domain false) (Rows.fnNeedOtherSpec.post enc Try.prog Try.f6 false true false false) := by
  refine returnsInHanded_of_change (C := Try.checked) own started (by kernel_rfl) Try.func6
    (ChangeSpec.witness6 (enc := enc) (C := Try.checked) false ⟨#[], #[.slice none 0 0], []⟩ 8 (by kernel_rfl) (by kernel_rfl) (by kernel_rfl) (by kernel_rfl)) ?_
  intro W base args ds gs before hval0 hW _ _
  have hval : ∀ (j : Nat) t v, Try.f6.params[j]? = some t → args[j]? = some v → Value.okWide Try.prog W .any base t v := hval0
  have hW' := hW
  obtain ⟨p, q, hA0, hV, rfl, hfz, hnd⟩ := hW
  have hA : DataW.TrodAll enc Try.prog W 0 (fun _ => true) true Try.f6.params.toList args.toList ds p := hA0
  rw [Try.params6] at hA hval
  obtain ⟨v0, vs0, d0, ds0, p0, q0, e0, rfl, rfl, h0, r0⟩ := trodAll_cons hA
  obtain ⟨rfl, rfl, rfl⟩ := trodAll_nil r0
  obtain rfl : args = #[v0] := by cases args; simp_all
  obtain ⟨rfl, rfl⟩ := trodVars_none hV
  have hlt : ∀ x ∈ p0, x.block < W.heap.size := fun x hx => by simpa using hW'.lt x (by simpa using hx)
  have t0 := h0
  have l0 : ∀ x ∈ p0, x.block < W.heap.size := fun x hx => hlt x (by simp [hx])
  obtain ⟨a0, len0, cap0, rfl⟩ := okWide_slice Try.underlying22 (hval 0 22 v0 rfl rfl)
  obtain ⟨hc0, hn0⟩ := code_of h0 l0
  clear hA0 hval0
  refine (walk_FnNeedOther a0 len0 cap0 W hc0 hn0).mono fun e W' ⟨he, hb⟩ => ?_
  subst he
  exact ⟨_, rfl, post_below (gs := []) (pv := []) hW' (fun _ _ _ => trodAll_cons_mk (shut_bool Try.underlying4 _) trodAll_mk0) (trodAll_cons_mk (Below.trod laidOut (by kernel_rfl) (of_decide_eq_true (by kernel_rfl)) t0 hb l0) trodAll_mk0) rfl (by simp) hb⟩

theorem fnNeedOther_holds : Rows.FnNeedOtherSaid :=
  OpenClaim.holds_of_wide 6 Try.f6 rfl rfl rfl rfl rfl rfl rfl ⟨rfl, rfl, rfl, rfl, rfl⟩ rfl rfl rfl rfl rfl (by kernel_rfl) Try.func6 (by kernel_rfl)
    (of_decide_eq_true (by kernel_rfl)) (by unfold Func.isWrapper; first | (rw [if_pos (by decide +kernel)]; kernel_rfl) | (rw [if_neg (by decide +kernel)]; exact ⟨rfl, rfl⟩))
    (fun os started H enc _ => lifted_FnNeedOther os started H enc)
end Go.Proofs.Ytobalkbddefaiaa
