/- The last name of a path; a path in a place; by the program and by its model. -/
import Derived.Test.YtoifchmgdkiejaaLastIx
namespace Go.Proofs.Ytoifchmgdkiejaa
open Go.RowKit Go.Shelf

set_option maxHeartbeats 1000000 in
theorem PathLast_any (s : ByteArray) (hm : s.size ≤ maxLen) (w : World) :
    Calls Try.prog 15 #[.string s] w fun e w' => e = .returned (.string (pathLastS s)) ∧ Below w.heap.size w w' := by
  have hg := lastIx_ge 47 s.data.toList
  have hl := lastIx_lt 47 s.data.toList
  rw [← Lib.size_eq] at hl
  obtain ⟨i, ei⟩ : ∃ i : Nat, lastIx 47 s.data.toList = (i : Int) - 1 := ⟨(lastIx 47 s.data.toList + 1).toNat, by omega⟩
  have hm' : s.size ≤ 9223372036854775807 := hm
  cases hp : pathB s.data.toList
  · have E := hid (show pathLastS s = ⟨#[]⟩ by simp [pathLastS, hp])
    go_enter Try.func15, Try.ntmps15
    go_wp2_with (go_at_call 13; refine (PathOk_any _ hm _).mono ?_; rintro e w' ⟨rfl, hb⟩)
    go_ret
    exact ⟨by rw [unhid E]; rfl, hb⟩
  · have E := hid (show pathLastS s = s.extract i s.size by simp [pathLastS, lastS, hp, ei])
    have hil : i ≤ s.size := by omega
    have Ei := hid ei
    clear ei
    go_enter Try.func15, Try.ntmps15
    go_wp2_with (go_at_call 13; refine (PathOk_any _ hm _).mono ?_; rintro e w' ⟨rfl, hb⟩)
    refine (LastIndexByte_any s 47 hm _).mono ?_
    rintro e w' ⟨rfl, rfl⟩
    rw [unhid Ei]
    go_wp2_with fail
    go_ret
    exact ⟨by rw [unhid E]; rfl, hb⟩

set_option maxRecDepth 100000 in
set_option maxHeartbeats 1000000 in
theorem specPathLast_any (s : ByteArray) (hs : s.size ≤ 1048576) (w : World) :
    Calls Try.prog 18 #[.string s] w fun e w' => e = .returned (.string (pathLastS s)) ∧ Below w.heap.size w w' := by
  cases hp : pathB s.data.toList
  · have E := hid (show pathLastS s = ⟨#[]⟩ by simp [pathLastS, hp])
    go_enter Try.func18, Try.ntmps18
    go_wp2_with (go_at_call 31; refine (l1Path_any _ hs _).mono ?_; rintro e w' ⟨rfl, hb⟩)
    go_ret
    exact ⟨by rw [unhid E]; rfl, hb⟩
  · have E := hid (show pathLastS s = lastS s by simp [pathLastS, hp])
    go_enter Try.func18, Try.ntmps18
    go_wp2_with (go_at_call 31; refine (l1Path_any _ hs _).mono ?_; rintro e w' ⟨rfl, hb⟩)
    refine (l1Cut_any s 47 _ hs (by omega) (by omega) _).mono ?_
    rintro e w1 ⟨v, xs, rfl, hxs, hown, hB⟩
    have hne : xs ≠ [] := by
      intro h; subst h; exact cutB_ne _ _ hxs.symm
    obtain ⟨n, hn⟩ : ∃ n, xs.length = n + 1 := ⟨xs.length - 1, by have := List.length_pos_iff.2 hne; omega⟩
    rw [hn] at hown
    obtain ⟨g, cap, rfl⟩ := ownsRow_succ hown
    obtain ⟨x, hx⟩ : ∃ x, xs[n]? = some x := ⟨xs[n]'(by omega), List.getElem?_eq_getElem _⟩
    have hcx : w1.cell? ⟨g, n, none⟩ = some (.string x) := by
      rw [hown.cellAt n (by omega), List.getElem?_map, hx]; rfl
    have hxl : x = lastS s := by
      apply ba_ext
      have h1 := (cutB_lastIx 47 s.data.toList).2.2
      rw [← hxs, List.getLast?_eq_getElem?, List.getElem?_map, List.length_map, hn, Nat.add_sub_cancel, hx] at h1
      have h2 : x.data.toList = s.data.toList.drop (lastIx 47 s.data.toList + 1).toNat := by simpa using h1
      rw [h2, lastS, Lib.extract_data, List.take_of_length_le (by simp)]
    have hns : n ≤ 1048576 := by
      have := cutB_length 47 s.data.toList
      rw [← hxs, ← Lib.size_eq] at this
      simp [datas] at this
      omega
    have Hxl := hid hxl
    clear hown hxs hn hx hxl
    go_wp2_with fail
    go_ret
    exact ⟨by rw [unhid E, ← unhid Hxl]; rfl, hb.trans (hB.mono hb.size)⟩

set_option maxHeartbeats 1000000 in
theorem slHasPrefix_any (s p : ByteArray) (w : World) :
    Calls Try.prog 45 #[.string s, .string p] w fun e w' => e = .returned (.bool (Lib.hasPrefix s.data.toList p.data.toList)) ∧ w' = w := by
  rw [← Lib.hasPrefix_of_take, ← Lib.size_eq, ← Lib.size_eq]
  go_enter Try.func45, Try.ntmps45
  go_wp2
  · rename_i h
    go_ret
    refine ⟨?_, rfl⟩
    show Ending.returned (Value.bool ((s.extract 0 p.size).toList == p.toList)) = _
    rw [Lib.extract_toList, Lib.toList_data]
    simp [h]
  · rename_i h
    go_ret
    refine ⟨?_, rfl⟩
    show Ending.returned (Value.bool false) = _
    simp [h]

set_option maxHeartbeats 1000000 in
theorem HasPrefix_any (s p : ByteArray) (w : World) :
    Calls Try.prog 34 #[.string s, .string p] w fun e w' => e = .returned (.bool (Lib.hasPrefix s.data.toList p.data.toList)) ∧ w' = w := by
  go_enter Try.func34, Try.ntmps34
  go_wp2_with (go_at_call 45; refine (slHasPrefix_any _ _ _).mono ?_; rintro e w' ⟨rfl, rfl⟩)
  go_ret
  exact ⟨rfl, rfl⟩
end Go.Proofs.Ytoifchmgdkiejaa
