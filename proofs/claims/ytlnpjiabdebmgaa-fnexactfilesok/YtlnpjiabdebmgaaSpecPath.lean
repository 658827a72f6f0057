/- What the model calls a name, and a path: the same as the program. -/
import Derived.Test.YtlnpjiabdebmgaaCut
import Derived.Test.YtlnpjiabdebmgaaPathOk
namespace Go.Proofs.Ytlnpjiabdebmgaa
open Go.RowKit Go.Shelf

theorem nameOk_len (s : ByteArray) : nameOkB s.data.toList = ((decide ((1 : Int) ≤ s.size) && decide ((s.size : Int) ≤ 10)) && !(s.data.toList == [46]) && !(s.data.toList == [46, 46]) && s.data.toList.all fun c => nameB c.toNat) := by
  have h : (!s.data.toList.isEmpty && decide (s.data.toList.length ≤ 10)) = (decide ((1 : Int) ≤ s.size) && decide ((s.size : Int) ≤ 10)) := by
    have hl : s.size = s.data.toList.length := Lib.size_eq s
    rw [hl]
    cases s.data.toList with
    | nil => simp
    | cons a l => rw [Bool.eq_iff_iff]; simp; omega
  unfold nameOkB
  rw [h]

set_option maxRecDepth 100000 in
set_option maxHeartbeats 1000000 in
theorem l1Name_any (s : ByteArray) (hs : s.size ≤ maxLen) (w : World) :
    Calls Try.prog 10 #[.string s] w fun e w' => e = .returned (.bool (nameOkB s.data.toList)) ∧ w' = w := by
  unfold maxLen at hs
  go_enter Try.func10, Try.ntmps10
  go_wp2
  go_loop [3] (fun i => ∃ k : Nat, k ≤ s.size ∧ i = .int .i64 k ∧ Hid ((s.data.toList.take k).all (fun c => nameB c.toNat) = true)) (fun i => s.size - (intOf i).toNat)
  case atStart => exact ⟨0, Nat.zero_le _, rfl, hid (by simp)⟩
  case round =>
    obtain ⟨k, hk, rfl, hall⟩ := hrel
    by_cases hlt : k < s.size
    · have hstep := hid (all_take_succ s k hlt (fun c => nameB c.toNat))
      cases hb : nameB ((s[k]).toNat : Int)
      · go_wp2_with (go_at_call 20; refine (l1Small_any _ _).mono ?_; rintro e w' ⟨rfl, rfl⟩)
        go_ret
        refine ⟨?_, rfl⟩
        have : (s.data.toList.all fun c => nameB c.toNat) = false := List.all_eq_false.2 ⟨s[k], by have := getByte s k hlt; exact List.mem_of_getElem? this, by simp [hb]⟩
        unfold nameOkB
        rw [this]; simp
      · go_wp2_with (go_at_call 20; refine (l1Small_any _ _).mono ?_; rintro e w' ⟨rfl, rfl⟩)
        go_round
        case rel => exact ⟨k + 1, by omega, by go_num, hid (by rw [unhid hstep, unhid hall, hb]; rfl)⟩
        case measure => simp [intOf]; omega
    · have hall' := hid (show (s.data.toList.all fun c => nameB c.toNat) = true by
        have := unhid hall; rwa [List.take_of_length_le (by simp; omega)] at this)
      have hl : s.data.toList.length = s.size := (Lib.size_eq s).symm
      have Hl := hid hl
      clear hl
      go_wp2_with (go_at_call 21; refine (l1In_any _ _ _ _).mono ?_; rintro e w' ⟨rfl, rfl⟩)
      all_goals
        try simp only [Lib.toList_data] at *
        go_ret
        refine ⟨?_, rfl⟩
        rw [nameOk_len s, unhid hall']
        simp_all <;> (intros; exfalso; omega)

end Go.Proofs.Ytlnpjiabdebmgaa
