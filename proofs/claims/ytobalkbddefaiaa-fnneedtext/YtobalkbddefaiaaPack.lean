/- What is a name of a pack, by the program and by its model. -/
import Derived.Test.YtobalkbddefaiaaVOrder
namespace Go.Proofs.Ytobalkbddefaiaa
open Go.RowKit

def packC (c : Int) : Bool := letB c || figB c
def packB (l : List UInt8) : Bool := !l.isEmpty && decide (l.length ≤ 10) && !(l.head?.any fun c => figB c.toNat) && l.all fun c => packC c.toNat

set_option maxHeartbeats 1000000 in
theorem isPackByte_any (c : Int) (w : World) :
    Calls Try.prog 31 #[.int .u8 c] w fun e w' => e = .returned (.bool (packC c)) ∧ w' = w := by
  cases h1 : letB c
  · have E := hid (show packC c = figB c by simp [packC, h1])
    go_enter Try.func31, Try.ntmps31
    go_wp2_with (first | (go_at_call 50; refine (isLetter_any _ _).mono ?_; rintro e w' ⟨rfl, rfl⟩) | (go_at_call 51; refine (isFigure_any _ _).mono ?_; rintro e w' ⟨rfl, rfl⟩))
    go_ret
    exact ⟨by rw [unhid E]; rfl, rfl⟩
  · have E := hid (show packC c = true by simp [packC, h1])
    go_enter Try.func31, Try.ntmps31
    go_wp2_with (go_at_call 50; refine (isLetter_any _ _).mono ?_; rintro e w' ⟨rfl, rfl⟩)
    go_ret
    exact ⟨by rw [unhid E]; rfl, rfl⟩

theorem egPack : ∀ args w, (callFunc 31 args).run Try.prog w = .ok (.enter 31 args) w := enters_of Try.func31 (by kernel_rfl) rfl

theorem head_get (s : ByteArray) (h : 0 < s.size) : s.data.toList.head? = some s[0] := by rw [List.head?_eq_getElem?, getByte s 0 h]

set_option maxRecDepth 100000 in
set_option maxHeartbeats 1000000 in
theorem packNameOk_any (s : ByteArray) (hs : s.size ≤ maxLen) (w : World) :
    Calls Try.prog 35 #[.string s] w fun e w' => e = .returned (.bool (packB s.data.toList)) ∧ Below w.heap.size w w' := by
  have hm : s.size ≤ 9223372036854775807 := hs
  by_cases he : s.toList = []
  · have he' : s.toList.isEmpty = true := by simp [he]
    have E := hid (show packB s.data.toList = false by rw [Lib.toList_data] at he; simp [packB, he])
    go_enter Try.func35, Try.ntmps35
    go_wp2_with fail
    go_ret
    exact ⟨by rw [unhid E]; rfl, Below.refl _ _⟩
  · have he' : s.toList.isEmpty = false := by simp [he]
    have h0 : 0 < s.size := by
      rw [Lib.toList_data] at he
      have := List.length_pos_iff.2 he
      rwa [← Lib.size_eq] at this
    have hl : s.data.toList.length = s.size := (Lib.size_eq s).symm
    by_cases h10 : (s.size : Int) ≤ 10
    · have hne : s.data.toList.isEmpty = false := by rw [List.isEmpty_eq_false_iff, ← List.length_pos_iff, hl]; exact h0
      cases hf : figB (s[0].toNat : Int)
      · have E := hid (show packB s.data.toList = s.data.toList.all fun c => packC c.toNat by
          unfold packB
          rw [head_get s h0, hne, hl, decide_eq_true (show s.size ≤ 10 by omega)]; simp [hf])
        clear hl hne
        go_enter Try.func35, Try.ntmps35
        go_wp2_with fail
        refine (isFigure_any _ _).mono ?_
        rintro e w1 ⟨rfl, rfl⟩
        rw [hf]
        go_wp2_with fail
        refine (allBytes_any 31 packC egPack isPackByte_any s hs _).mono ?_
        rintro e w2 ⟨rfl, hb⟩
        rw [← unhid E]
        go_wp2_with fail
        go_ret
        exact ⟨rfl, hb⟩
      · have E := hid (show packB s.data.toList = false by
          unfold packB
          rw [head_get s h0]; simp [hf])
        clear hl hne
        go_enter Try.func35, Try.ntmps35
        go_wp2_with fail
        refine (isFigure_any _ _).mono ?_
        rintro e w1 ⟨rfl, rfl⟩
        rw [hf]
        go_wp2_with fail
        go_ret
        exact ⟨by rw [unhid E]; rfl, Below.refl _ _⟩
    · have E := hid (show packB s.data.toList = false by
        unfold packB
        rw [hl, decide_eq_false (show ¬ s.size ≤ 10 by omega)]; simp)
      clear hl
      go_enter Try.func35, Try.ntmps35
      go_wp2_with fail
      go_ret
      exact ⟨by rw [unhid E]; rfl, Below.refl _ _⟩

theorem packB_bad (s : ByteArray) (k : Nat) (h : k < s.size) (h1 : letB (s[k].toNat : Int) = false) (h2 : k = 0 ∨ figB (s[k].toNat : Int) = false) : packB s.data.toList = false := by
  cases hf : figB (s[k].toNat : Int)
  · have : (s.data.toList.all fun c => packC c.toNat) = false := List.all_eq_false.2 ⟨s[k], List.mem_of_getElem? (getByte s k h), by simp [packC, h1, hf]⟩
    unfold packB
    rw [this]; simp
  · rcases h2 with rfl | h2
    · unfold packB
      rw [head_get s h]; simp [hf]
    · rw [hf] at h2; cases h2
theorem packB_good (s : ByteArray) (h : ∀ k (hk : k < s.size), letB (s[k].toNat : Int) = true ∨ 0 < k ∧ figB (s[k].toNat : Int) = true) : packB s.data.toList = (decide ((1 : Int) ≤ s.size) && decide ((s.size : Int) ≤ 10)) := by
  have hl : s.data.toList.length = s.size := (Lib.size_eq s).symm
  by_cases h0 : 0 < s.size
  · have hne : s.data.toList.isEmpty = false := by rw [List.isEmpty_eq_false_iff, ← List.length_pos_iff, hl]; exact h0
    have hf : figB (s[0].toNat : Int) = false := by
      rcases h 0 h0 with h1 | h1
      · simp only [letB, Bool.and_eq_true, decide_eq_true_eq] at h1
        simp [figB]; omega
      · omega
    have ha : (s.data.toList.all fun c => packC c.toNat) = true := by
      rw [List.all_eq_true]
      intro c hc
      obtain ⟨k, hk, rfl⟩ := List.getElem_of_mem hc
      have hk' : k < s.size := by omega
      have e : s.data.toList[k] = s[k] := rfl
      rw [e]
      rcases h k hk' with h1 | h1
      · simp [packC, h1]
      · simp [packC, h1.2]
    unfold packB
    have hany : (some s[0]).any (fun c => figB (c.toNat : Int)) = false := by simp [hf]
    rw [head_get s h0, hne, hl, ha, hany]
    simp only [Bool.not_false, Bool.true_and, Bool.and_true]
    rw [decide_eq_true (show (1 : Int) ≤ s.size by omega), Bool.true_and]
    exact decide_eq_decide.2 (by omega)
  · have he : s.data.toList = [] := List.length_eq_zero_iff.1 (by omega)
    have hz : s.size = 0 := by omega
    rw [he, hz]; rfl

set_option maxRecDepth 100000 in
set_option maxHeartbeats 2000000 in
theorem l3Pack_any (s : ByteArray) (hs : s.size ≤ maxLen) (w : World) :
    Calls Try.prog 36 #[.string s] w fun e w' => e = .returned (.bool (packB s.data.toList)) ∧ w' = w := by
  unfold maxLen at hs
  go_enter Try.func36, Try.ntmps36
  go_wp2
  go_loop [3, 4] (fun i _ => ∃ k : Nat, k ≤ s.size ∧ i = .int .i64 k ∧ Hid (∀ j (hj : j < s.size), j < k → letB (s[j].toNat : Int) = true ∨ 0 < j ∧ figB (s[j].toNat : Int) = true)) (fun i _ => s.size - (intOf i).toNat)
  case atStart => exact ⟨0, Nat.zero_le _, rfl, hid (fun j _ h => by omega)⟩
  case round =>
    obtain ⟨k, hk, rfl, hall⟩ := hrel
    by_cases hlt : k < s.size
    · have step : (letB (s[k].toNat : Int) = true ∨ 0 < k ∧ figB (s[k].toNat : Int) = true) → ∀ j (hj : j < s.size), j < k + 1 → letB (s[j].toNat : Int) = true ∨ 0 < j ∧ figB (s[j].toNat : Int) = true := fun h j hj hjk => by
        by_cases e : j = k
        · subst e; exact h
        · exact unhid hall j hj (by omega)
      have Hstep := hid step
      have Hbad := hid (packB_bad s k hlt)
      clear step
      by_cases a1 : (97 : Int) ≤ s[k].toNat
      · by_cases a2 : (s[k].toNat : Int) ≤ 122
        · go_wp2_with fail
          refine ⟨⟨k + 1, by omega, by go_num, hid (unhid Hstep (.inl (by simp [letB]; omega)))⟩, by simp [intOf]; omega⟩
        · by_cases k0 : k = 0
          · subst k0
            go_wp2_with fail
            go_ret
            exact ⟨by rw [packB_bad s 0 hlt (by simp [letB]; omega) (.inl rfl)]; rfl, rfl⟩
          · have k0' : ((k : Int) == 0) = false := by rw [beq_eq_false_iff_ne]; omega
            have b1 : ¬ (s[k].toNat : Int) < 48 := by omega
            have b2 : (57 : Int) < s[k].toNat := by omega
            go_wp2_with fail
            go_ret
            exact ⟨by rw [unhid Hbad (by simp [letB]; omega) (.inr (by simp [figB]; omega))]; rfl, rfl⟩
      · by_cases k0 : k = 0
        · subst k0
          go_wp2_with fail
          go_ret
          exact ⟨by rw [packB_bad s 0 hlt (by simp [letB]; omega) (.inl rfl)]; rfl, rfl⟩
        · have k0' : ((k : Int) == 0) = false := by rw [beq_eq_false_iff_ne]; omega
          by_cases b1 : (s[k].toNat : Int) < 48
          · go_wp2_with fail
            go_ret
            exact ⟨by rw [unhid Hbad (by simp [letB]; omega) (.inr (by simp [figB]; omega))]; rfl, rfl⟩
          · by_cases b2 : (57 : Int) < s[k].toNat
            · go_wp2_with fail
              go_ret
              exact ⟨by rw [unhid Hbad (by simp [letB]; omega) (.inr (by simp [figB]; omega))]; rfl, rfl⟩
            · go_wp2_with fail
              refine ⟨⟨k + 1, by omega, by go_num, hid (unhid Hstep (.inr ⟨by omega, by simp [figB]; omega⟩))⟩, by simp [intOf]; omega⟩
    · have E := hid (packB_good s (fun j hj => unhid hall j hj (by omega)))
      go_wp2_with fail
      refine (l1In_any _ _ _ _).mono ?_
      rintro e w1 ⟨rfl, rfl⟩
      rw [← unhid E]
      go_wp2_with fail
      go_ret
      exact ⟨rfl, rfl⟩
end Go.Proofs.Ytobalkbddefaiaa
