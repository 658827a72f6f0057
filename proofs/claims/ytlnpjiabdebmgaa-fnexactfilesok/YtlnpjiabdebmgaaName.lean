/- What is a name of a path, by the program and by its model. -/
import Derived.Test.YtlnpjiabdebmgaaBytesOf
import Derived.WalkSpells
import Derived.Lib.Strings
namespace Go.Proofs.Ytlnpjiabdebmgaa
open Go.RowKit Go.Shelf

def nameOkB (l : List UInt8) : Bool := !l.isEmpty && decide (l.length ≤ 10) && !(l == [46]) && !(l == [46, 46]) && l.all fun c => nameB c.toNat

theorem eg26 : ∀ args w, (callFunc 26 args).run Try.prog w = .ok (.enter 26 args) w := enters_of Try.func26 (by kernel_rfl) rfl

set_option maxRecDepth 100000 in
set_option maxHeartbeats 1000000 in
theorem nameOk_any (s : ByteArray) (hs : s.size ≤ maxLen) (w : World) :
    Calls Try.prog 22 #[.string s] w fun e w' => e = .returned (.bool (nameOkB s.data.toList)) ∧ Below w.heap.size w w' := by
  go_enter Try.func22, Try.ntmps22
  go_wp2_with (go_at_call 25; refine (allBytes_any 26 nameB eg26 isNameByte_any _ hs _).mono ?_; rintro e w' ⟨rfl, hb⟩)
  all_goals
    simp only [Lib.toList_data] at *
    go_ret
    refine ⟨?_, ?_⟩
    · have hl : s.data.toList.length = s.size := (Lib.size_eq s).symm
      have hd : decide (s.data.toList.length ≤ 10) = decide ((s.size : Int) ≤ 10) := by rw [hl]; simp; omega
      unfold nameOkB
      rw [hd]
      clear hd hl
      simp_all <;> (intro h; exfalso; omega)
    · first | exact Below.refl _ _ | assumption
end Go.Proofs.Ytlnpjiabdebmgaa
