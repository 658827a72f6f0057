/- What is left of a text behind a prefix. -/
import Derived.Test.YtiggojpepgbcoaaCut
namespace Go.Proofs.Ytiggojpepgbcoaa
open Go.RowKit Go.Shelf

set_option maxHeartbeats 1000000 in
theorem slHasPrefix_any (s p : ByteArray) (w : World) :
    Calls Try.prog 69 #[.string s, .string p] w fun e w' => e = .returned (.bool (Lib.hasPrefix s.data.toList p.data.toList)) ∧ w' = w := by
  rw [← Lib.hasPrefix_of_take, ← Lib.size_eq, ← Lib.size_eq]
  go_enter Try.func69, Try.ntmps69
  go_wp2
  · rename_i h
    go_ret
    refine ⟨?_, rfl⟩
    show Ending.returned (Value.bool ((s.extract 0 p.size).toList == p.toList)) = _
    rw [Lib.extract_toList, Lib.toList_data]
    simp [h]
  · rename_i h
    go_ret
    refine ⟨?_, rfl⟩
    show Ending.returned (Value.bool false) = _
    simp [h]

def hasA (s p : ByteArray) : Bool := Lib.hasPrefix s.data.toList p.data.toList
/-- What is left behind a prefix, or the whole. -/
def cutA (s p : ByteArray) : ByteArray := if hasA s p then s.extract p.size s.size else s

set_option maxHeartbeats 1000000 in
theorem slCutPrefix_any (s p : ByteArray) (hs : s.size ≤ maxLen) (w : World) :
    Calls Try.prog 68 #[.string s, .string p] w fun e w' => e = .returned (.tuple #[.string (cutA s p), .bool (hasA s p)]) ∧ w' = w := by
  have hs' : s.size ≤ 9223372036854775807 := hs
  cases hp : hasA s p
  · have E := hid (show cutA s p = s by simp [cutA, hp])
    go_enter Try.func68, Try.ntmps68
    go_wp2_with fail
    refine (slHasPrefix_any _ _ _).mono ?_
    rintro e w' ⟨rfl, rfl⟩
    rw [show Lib.hasPrefix s.data.toList p.data.toList = _ from hp]
    go_wp2_with fail
    go_ret2
    exact ⟨by rw [unhid E]; rfl, rfl⟩
  · have E := hid (show cutA s p = s.extract p.size s.size by simp [cutA, hp])
    have hl : p.size ≤ s.size := by rw [Lib.size_eq, Lib.size_eq]; have h2 := hp; unfold hasA Lib.hasPrefix at h2; exact (List.isPrefixOf_iff_prefix.1 h2).length_le
    go_enter Try.func68, Try.ntmps68
    go_wp2_with fail
    refine (slHasPrefix_any _ _ _).mono ?_
    rintro e w' ⟨rfl, rfl⟩
    rw [show Lib.hasPrefix s.data.toList p.data.toList = _ from hp]
    go_wp2_with fail
    go_ret2
    exact ⟨by rw [unhid E]; rfl, rfl⟩

set_option maxHeartbeats 1000000 in
theorem CutPrefix_any (s p : ByteArray) (hs : s.size ≤ maxLen) (w : World) :
    Calls Try.prog 66 #[.string s, .string p] w fun e w' => e = .returned (.tuple #[.string (cutA s p), .bool (hasA s p)]) ∧ w' = w := by
  go_enter Try.func66, Try.ntmps66
  go_wp2_with fail
  refine (slCutPrefix_any _ _ hs _).mono ?_
  rintro e w' ⟨rfl, rfl⟩
  go_wp2_with fail
  go_ret2
  exact ⟨rfl, rfl⟩
end Go.Proofs.Ytiggojpepgbcoaa
