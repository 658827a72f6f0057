/- What a name of a pattern is, by the model. -/
import Derived.Test.YtiggojpepgbcoaaGlobSpec
namespace Go.Proofs.Ytiggojpepgbcoaa
open Go.RowKit Go.Shelf

theorem ba_same {x y : ByteArray} (h : x.data.toList = y.data.toList) : x = y := by
  obtain ⟨⟨l⟩⟩ := x; obtain ⟨⟨m⟩⟩ := y; simp at h; subst h; rfl
theorem tail_data (s : ByteArray) (k : Nat) : (s.extract k s.size).data.toList = s.data.toList.drop k := by
  rw [Lib.extract_data, List.take_of_length_le (by simp)]
theorem tail_tail (s : ByteArray) (k n : Nat) : (s.extract k s.size).extract n (s.extract k s.size).size = s.extract (k + n) s.size :=
  ba_same (by rw [tail_data, tail_data, tail_data, List.drop_drop])
theorem tail_size (s : ByteArray) (k : Nat) : (s.extract k s.size).size = s.size - k := by rw [ByteArray.size_extract]; omega
theorem tail_head {s : ByteArray} {k : Nat} (hk : k < s.size) (h : 0 < (s.extract k s.size).size) : (s.extract k s.size)[0] = s[k] := by
  have h1 : (s.extract k s.size).data.toList[0]? = some (s.extract k s.size)[0] := getByte _ 0 h
  have h2 : s.data.toList[k]? = some s[k] := getByte s k hk
  rw [tail_data, List.getElem?_drop, Nat.add_zero, h2] at h1
  exact (Option.some.inj h1).symm
/-- A name of a pattern, of one byte at least. -/
def globbedB (s : ByteArray) : Bool := (wants s).any fun l => !l.isEmpty
theorem globbed_size {s : ByteArray} (h : 0 < s.size) : globbedB s = (wants s).isSome := by
  unfold globbedB
  cases hr : firstR s s[0] with
  | none => rw [wants_none h hr]; rfl
  | some p =>
    obtain ⟨x, n⟩ := p
    rw [wants_some h hr]
    cases wants (s.extract n s.size) <;> rfl
theorem globbed_nil {s : ByteArray} (h : s.size = 0) : globbedB s = false := by unfold globbedB; rw [wants_nil h]; rfl
theorem tail_none {s : ByteArray} {k : Nat} (hk : k < s.size) (h : firstR (s.extract k s.size) s[k] = none) : (wants (s.extract k s.size)).isSome = false := by
  have hz : 0 < (s.extract k s.size).size := by rw [tail_size]; omega
  rw [wants_none hz (by rw [tail_head hk hz]; exact h)]; rfl
theorem tail_some {s : ByteArray} {k n : Nat} {x : W8} (hk : k < s.size) (h : firstR (s.extract k s.size) s[k] = some (x, n)) : (wants (s.extract k s.size)).isSome = (wants (s.extract (k + n) s.size)).isSome ∧ 1 ≤ n ∧ k + n ≤ s.size := by
  have hz : 0 < (s.extract k s.size).size := by rw [tail_size]; omega
  have hr : firstR (s.extract k s.size) (s.extract k s.size)[0] = some (x, n) := by rw [tail_head hk hz]; exact h
  have hn := firstR_le hz hr
  rw [tail_size] at hn
  rw [wants_some hz hr, tail_tail]
  exact ⟨by cases wants (s.extract (k + n) s.size) <;> rfl, by omega, by omega⟩

set_option maxRecDepth 100000 in
set_option maxHeartbeats 4000000 in
theorem l1Globbed_any (s : ByteArray) (hs : s.size ≤ 1048576) (w : World) :
    Calls Try.prog 27 #[.string s] w fun e w' => e = .returned (.bool (globbedB s)) ∧ w' = w := by
  go_enter Try.func27, Try.ntmps27
  go_wp2_with fail
  go_loop [3, 4] (fun i _ => ∃ k : Nat, k ≤ s.size ∧ i = .int .i64 k ∧ Hid ((wants s).isSome = (wants (s.extract k s.size)).isSome)) (fun i _ => s.size - (intOf i).toNat)
  case atStart => exact ⟨0, by omega, rfl, hid (by rw [show s.extract 0 s.size = s from ba_same (by rw [tail_data, List.drop_zero])])⟩
  case round =>
    obtain ⟨k, hk, rfl, hc⟩ := hrel
    by_cases hlt : k < s.size
    · have hz : 0 < s.size := by omega
      by_cases e1 : s[k] = 91
      · have b1 : (((s[k]).toNat : Int) == 91) = true := by rw [e1]; rfl
        have h0 : (s.extract k s.size).data.toList[0]? = some 91 := by rw [tail_data, List.getElem?_drop, Nat.add_zero, get_some hlt, e1]
        have hF : firstR (s.extract k s.size) s[k] = classR (s.extract k s.size) := by rw [e1]; rfl
        have H0 := hid h0
        have hrz : (s.extract k s.size).size ≤ 1048576 := by rw [tail_size]; omega
        have HF := hid hF
        clear e1 h0 hF
        go_wp2_with fail
        refine (l1Class_any _ hrz (unhid H0) _).mono ?_
        rintro e w' ⟨rfl, rfl⟩
        cases hr : classR (s.extract k s.size) with
        | none =>
          have hN : classN (s.extract k s.size) = 0 := by unfold classN; rw [hr]
          have E := hid (show globbedB s = false by rw [globbed_size hz, unhid hc]; exact tail_none hlt ((unhid HF).trans hr))
          clear hr
          rw [hN]
          go_wp2_with fail
          go_ret
          exact ⟨by rw [unhid E]; rfl, rfl⟩
        | some p =>
          obtain ⟨x, n⟩ := p
          have hN : classN (s.extract k s.size) = n := by unfold classN; rw [hr]
          obtain ⟨g1, g2, g3⟩ := tail_some hlt ((unhid HF).trans hr)
          have hn0 : ((n : Int) == 0) = false := by rw [beq_eq_false_iff_ne]; omega
          have G1 := hid g1
          clear hr g1
          rw [hN]
          go_wp2_with fail
          refine ⟨⟨k + n, by omega, by go_num, hid ((unhid hc).trans (unhid G1))⟩, by simp [intOf]; omega⟩
      · have b1 := eq_no (n := 91) rfl e1
        by_cases e2 : s[k] = 42
        · have b2 : (((s[k]).toNat : Int) == 42) = true := by rw [e2]; rfl
          obtain ⟨g1, g2, g3⟩ := tail_some (x := .star) (n := 1) hlt (by rw [e2]; rfl)
          have G1 := hid g1
          clear e1 e2 g1
          go_wp2_with fail
          refine ⟨⟨k + 1, by omega, by go_num, hid ((unhid hc).trans (unhid G1))⟩, by simp [intOf]; omega⟩
        · have b2 := eq_no (n := 42) rfl e2
          by_cases e3 : s[k] = 63
          · have b3 : (((s[k]).toNat : Int) == 63) = true := by rw [e3]; rfl
            obtain ⟨g1, g2, g3⟩ := tail_some (x := .any) (n := 1) hlt (by rw [e3]; rfl)
            have G1 := hid g1
            clear e1 e2 e3 g1
            go_wp2_with fail
            refine ⟨⟨k + 1, by omega, by go_num, hid ((unhid hc).trans (unhid G1))⟩, by simp [intOf]; omega⟩
          · have b3 := eq_no (n := 63) rfl e3
            cases hn : nameB ((s[k]).toNat : Int)
            · have E := hid (show globbedB s = false by
                rw [globbed_size hz, unhid hc]
                exact tail_none hlt (by unfold firstR; rw [if_neg e2, if_neg e3, if_neg e1, hn]; rfl))
              clear e1 e2 e3
              go_wp2_with fail
              refine (l1Small_any _ _).mono ?_
              rintro e w' ⟨rfl, rfl⟩
              rw [hn]
              go_wp2_with fail
              go_ret
              exact ⟨by rw [unhid E]; rfl, rfl⟩
            · obtain ⟨g1, g2, g3⟩ := tail_some (x := .byte s[k]) (n := 1) hlt (by unfold firstR; rw [if_neg e2, if_neg e3, if_neg e1, if_pos hn])
              have G1 := hid g1
              clear e1 e2 e3 g1
              go_wp2_with fail
              refine (l1Small_any _ _).mono ?_
              rintro e w' ⟨rfl, rfl⟩
              rw [hn]
              go_wp2_with fail
              refine ⟨⟨k + 1, by omega, by go_num, hid ((unhid hc).trans (unhid G1))⟩, by simp [intOf]; omega⟩
    · have hks : k = s.size := by omega
      have hsome : (wants s).isSome = true := by
        rw [unhid hc, wants_nil (by rw [tail_size]; omega)]; rfl
      by_cases hz : 0 < s.size
      · have E := hid (show globbedB s = true by rw [globbed_size hz]; exact hsome)
        have he : s.toList.isEmpty = false := by rw [Lib.toList_data, List.isEmpty_eq_false_iff, ← List.length_pos_iff, ← Lib.size_eq]; exact hz
        clear hks
        go_wp2_with fail
        go_ret
        exact ⟨by rw [unhid E]; rfl, rfl⟩
      · have E := hid (show globbedB s = false from globbed_nil (by omega))
        have he : s.toList.isEmpty = true := by rw [Lib.toList_data, List.isEmpty_iff, ← List.length_eq_zero_iff, ← Lib.size_eq]; omega
        clear hks
        go_wp2_with fail
        go_ret
        exact ⟨by rw [unhid E]; rfl, rfl⟩
end Go.Proofs.Ytiggojpepgbcoaa
