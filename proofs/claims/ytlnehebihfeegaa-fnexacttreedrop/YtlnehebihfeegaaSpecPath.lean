/- What the model calls a name, and a path: the same as the program. -/
import Derived.Test.YtlnehebihfeegaaCut
import Derived.Test.YtlnehebihfeegaaPathOk
namespace Go.Proofs.Ytlnehebihfeegaa
open Go.RowKit Go.Shelf

theorem nameOk_len (s : ByteArray) : nameOkB s.data.toList = ((decide ((1 : Int) ≤ s.size) && decide ((s.size : Int) ≤ 10)) && !(s.data.toList == [46]) && !(s.data.toList == [46, 46]) && s.data.toList.all fun c => nameB c.toNat) := by
  have h : (!s.data.toList.isEmpty && decide (s.data.toList.length ≤ 10)) = (decide ((1 : Int) ≤ s.size) && decide ((s.size : Int) ≤ 10)) := by
    have hl : s.size = s.data.toList.length := Lib.size_eq s
    rw [hl]
    cases s.data.toList with
    | nil => simp
    | cons a l => rw [Bool.eq_iff_iff]; simp; omega
  unfold nameOkB
  rw [h]

set_option maxRecDepth 100000 in
set_option maxHeartbeats 1000000 in
theorem l1Name_any (s : ByteArray) (hs : s.size ≤ maxLen) (w : World) :
    Calls Try.prog 113 #[.string s] w fun e w' => e = .returned (.bool (nameOkB s.data.toList)) ∧ w' = w := by
  unfold maxLen at hs
  go_enter Try.func113, Try.ntmps113
  go_wp2
  go_loop [3] (fun i => ∃ k : Nat, k ≤ s.size ∧ i = .int .i64 k ∧ Hid ((s.data.toList.take k).all (fun c => nameB c.toNat) = true)) (fun i => s.size - (intOf i).toNat)
  case atStart => exact ⟨0, Nat.zero_le _, rfl, hid (by simp)⟩
  case round =>
    obtain ⟨k, hk, rfl, hall⟩ := hrel
    by_cases hlt : k < s.size
    · have hstep := hid (all_take_succ s k hlt (fun c => nameB c.toNat))
      cases hb : nameB ((s[k]).toNat : Int)
      · go_wp2_with (go_at_call 130; refine (l1Small_any _ _).mono ?_; rintro e w' ⟨rfl, rfl⟩)
        go_ret
        refine ⟨?_, rfl⟩
        have : (s.data.toList.all fun c => nameB c.toNat) = false := List.all_eq_false.2 ⟨s[k], by have := getByte s k hlt; exact List.mem_of_getElem? this, by simp [hb]⟩
        unfold nameOkB
        rw [this]; simp
      · go_wp2_with (go_at_call 130; refine (l1Small_any _ _).mono ?_; rintro e w' ⟨rfl, rfl⟩)
        go_round
        case rel => exact ⟨k + 1, by omega, by go_num, hid (by rw [unhid hstep, unhid hall, hb]; rfl)⟩
        case measure => simp [intOf]; omega
    · have hall' := hid (show (s.data.toList.all fun c => nameB c.toNat) = true by
        have := unhid hall; rwa [List.take_of_length_le (by simp; omega)] at this)
      have hl : s.data.toList.length = s.size := (Lib.size_eq s).symm
      have Hl := hid hl
      clear hl
      go_wp2_with (go_at_call 89; refine (l1In_any _ _ _ _).mono ?_; rintro e w' ⟨rfl, rfl⟩)
      all_goals
        try simp only [Lib.toList_data] at *
        go_ret
        refine ⟨?_, rfl⟩
        rw [nameOk_len s, unhid hall']
        simp_all <;> (intros; exfalso; omega)

set_option maxRecDepth 100000 in
set_option maxHeartbeats 1000000 in
theorem l1Path_any (s : ByteArray) (hs : s.size ≤ 1048576) (w : World) :
    Calls Try.prog 86 #[.string s] w fun e w' => e = .returned (.bool (pathB s.data.toList)) ∧ Below w.heap.size w w' := by
  go_enter Try.func86, Try.ntmps86
  go_wp2_with fail
  refine (l1Cut_any s 47 _ hs (by omega) (by omega) _).mono ?_
  rintro e w1 ⟨v, xs, rfl, hxs, hown, hB⟩
  have hne : xs ≠ [] := by
    intro h; subst h; exact cutB_ne _ _ hxs.symm
  obtain ⟨n, hn⟩ : ∃ n, xs.length = n + 1 := ⟨xs.length - 1, by have := List.length_pos_iff.2 hne; omega⟩
  rw [hn] at hown
  obtain ⟨g, cap, rfl⟩ := ownsRow_succ hown
  have hcell : ∀ (k : Nat) x, xs[k]? = some x → w1.cell? ⟨g, k, none⟩ = some (.string x) := fun k x hx => by
    have hk : k < xs.length := (List.getElem?_eq_some_iff.1 hx).1
    rw [hown.cellAt k (by omega), List.getElem?_map, hx]; rfl
  have hlen : ∀ x ∈ xs, x.size ≤ maxLen := fun x hx => by
    have h1 : x.data.toList ∈ cutB 47 s.data.toList := by rw [← hxs]; exact List.mem_map.2 ⟨x, hx, rfl⟩
    have h2 := cutB_le 47 _ _ h1
    rw [← Lib.size_eq, ← Lib.size_eq] at h2
    unfold maxLen; omega
  have Hcell := hid hcell
  have Hlen := hid hlen
  have Hxs := hid hxs
  have Hn := hid hn
  have hns : n ≤ 1048576 := by
    have := cutB_length 47 s.data.toList
    rw [← hxs, ← Lib.size_eq] at this
    simp [datas] at this
    omega
  clear hown hcell hlen hxs hn
  go_wp2_with fail
  go_loop [4] (fun i => ∃ k : Nat, k ≤ n + 1 ∧ i = .int .i64 k ∧ Hid (((datas xs).take k).all nameOkB = true)) (fun i => n + 1 - (intOf i).toNat)
  case atStart => exact ⟨0, Nat.zero_le _, rfl, hid (by simp)⟩
  case round =>
    obtain ⟨k, hk, rfl, hall⟩ := hrel
    by_cases hlt : k < n + 1
    · obtain ⟨x, hx⟩ : ∃ x, xs[k]? = some x := ⟨xs[k]'(by rw [unhid Hn]; exact hlt), List.getElem?_eq_getElem _⟩
      have hck := unhid Hcell k x hx
      have hlk := unhid Hlen x (List.mem_of_getElem? hx)
      have Hx := hid hx
      clear hx
      cases hb : nameOkB x.data.toList
      · go_wp2_with (go_at_call 113; refine (l1Name_any _ hlk _).mono ?_; rintro e w' ⟨rfl, rfl⟩)
        go_ret
        refine ⟨?_, hB⟩
        have hf : pathB s.data.toList = false := by
          unfold pathB
          rw [← unhid Hxs, List.all_eq_false.2 ⟨x.data.toList, List.mem_map.2 ⟨x, List.mem_of_getElem? (unhid Hx), rfl⟩, by simp [hb]⟩]; simp
        rw [hf]; rfl
      · go_wp2_with (go_at_call 113; refine (l1Name_any _ hlk _).mono ?_; rintro e w' ⟨rfl, rfl⟩)
        refine ⟨⟨k + 1, by omega, by go_num, hid ?_⟩, by simp [intOf]; omega⟩
        rw [List.take_add_one, List.getElem?_map, unhid Hx, List.all_append, unhid hall]
        simp [hb]
    · go_wp2
      go_ret
      refine ⟨?_, hB⟩
      have hl : (datas xs).length = n + 1 := by rw [← unhid Hn]; simp [datas]
      have hall' : (datas xs).all nameOkB = true := by have := unhid hall; rwa [List.take_of_length_le (by omega)] at this
      have hf : pathB s.data.toList = decide ((n : Int) + 1 ≤ 5) := by
        unfold pathB
        rw [← unhid Hxs, hall', hl, Bool.and_true]
        simp; omega
      rw [hf]; rfl

end Go.Proofs.Ytlnehebihfeegaa
