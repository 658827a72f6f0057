/- The last name of a path; a path in a place; by the program and by its model. -/
import Derived.Test.YtiggojpepgbcoaaLastIx
namespace Go.Proofs.Ytiggojpepgbcoaa
open Go.RowKit Go.Shelf

set_option maxHeartbeats 1000000 in
theorem PathLast_any (s : ByteArray) (hm : s.size ≤ maxLen) (w : World) :
    Calls Try.prog 18 #[.string s] w fun e w' => e = .returned (.string (pathLastS s)) ∧ Below w.heap.size w w' := by
  have hg := lastIx_ge 47 s.data.toList
  have hl := lastIx_lt 47 s.data.toList
  rw [← Lib.size_eq] at hl
  obtain ⟨i, ei⟩ : ∃ i : Nat, lastIx 47 s.data.toList = (i : Int) - 1 := ⟨(lastIx 47 s.data.toList + 1).toNat, by omega⟩
  have hm' : s.size ≤ 9223372036854775807 := hm
  cases hp : pathB s.data.toList
  · have E := hid (show pathLastS s = ⟨#[]⟩ by simp [pathLastS, hp])
    go_enter Try.func18, Try.ntmps18
    go_wp2_with (go_at_call 16; refine (PathOk_any _ hm _).mono ?_; rintro e w' ⟨rfl, hb⟩)
    go_ret
    exact ⟨by rw [unhid E]; rfl, hb⟩
  · have E := hid (show pathLastS s = s.extract i s.size by simp [pathLastS, lastS, hp, ei])
    have hil : i ≤ s.size := by omega
    have Ei := hid ei
    clear ei
    go_enter Try.func18, Try.ntmps18
    go_wp2_with (go_at_call 16; refine (PathOk_any _ hm _).mono ?_; rintro e w' ⟨rfl, hb⟩)
    refine (LastIndexByte_any s 47 hm _).mono ?_
    rintro e w' ⟨rfl, rfl⟩
    rw [unhid Ei]
    go_wp2_with fail
    go_ret
    exact ⟨by rw [unhid E]; rfl, hb⟩

end Go.Proofs.Ytiggojpepgbcoaa
