/- Which bytes a want takes. -/
import Derived.Test.YtiggojpepgbcoaaGlobName
import Derived.Deep.QuietTactic
import Derived.BigQuiet
namespace Go.Proofs.Ytiggojpepgbcoaa
open Go.RowKit Go.Shelf

def takesB : W8 → UInt8 → Bool
  | none, _ => false
  | some none, _ => true
  | some (some (.inl d)), c => c == d
  | some (some (.inr (inner, others))), c => inner.data.toList.contains c != others

set_option maxRecDepth 100000 in
set_option maxHeartbeats 1000000 in
theorem takes_any (c : UInt8) (w : World) : Calls Try.prog 63 #[.int .u8 c.toNat] w fun e w' => e = .returned (.bool (takesB .any c)) ∧ w' = w := by
  go_enter Try.func63, Try.ntmps63
  go_wp2
  go_ret
  exact ⟨rfl, rfl⟩

set_option maxRecDepth 100000 in
set_option maxHeartbeats 1000000 in
theorem takes_byte (c d : UInt8) (b : Nat) (w : World) (hc : w.cell? ⟨b, 0, none⟩ = some (.int .u8 d.toNat)) : Calls Try.prog 65 #[.int .u8 c.toNat, .pointer (some ⟨b, 0, none⟩)] w fun e w' => e = .returned (.bool (takesB (.byte d) c)) ∧ w' = w := by
  have E := hid (show takesB (.byte d) c = ((c.toNat : Int) == (d.toNat : Int)) by
    show (c == d) = _
    rw [Bool.eq_iff_iff]
    simp only [beq_iff_eq]
    exact ⟨fun h => by rw [h], fun h => UInt8.toNat_inj.1 (by omega)⟩)
  go_enter Try.func65, Try.ntmps65
  go_wp2
  go_ret
  exact ⟨by rw [unhid E]; rfl, rfl⟩

theorem index_has (l : List UInt8) (c : UInt8) : decide (0 ≤ Lib.indexByte l c) = l.contains c := by
  induction l with
  | nil => simp [Lib.indexByte]
  | cons d l ih =>
    have hg := Lib.indexByte_ge l c
    unfold Lib.indexByte
    by_cases h : (d == c) = true
    · have hdc : d = c := by simpa using h
      subst hdc
      simp
    · have hne : (c == d) = false := by
        rw [beq_eq_false_iff_ne]; intro e; exact h (by simp [e])
      rw [List.contains_cons, hne, Bool.false_or, ← ih]
      rw [decide_eq_decide]
      simp only [h, Bool.false_eq_true, if_false]
      split <;> (rename_i hn; simp at hn; omega)

set_option maxRecDepth 100000 in
set_option maxHeartbeats 1000000 in
theorem takes_cls (c : UInt8) (inner : ByteArray) (others : Bool) (b d : Nat) (w : World) (hb : w.cell? ⟨b, 0, none⟩ = some (.string inner)) (hd : w.cell? ⟨d, 0, none⟩ = some (.bool others)) :
    Calls Try.prog 67 #[.int .u8 c.toNat, .pointer (some ⟨b, 0, none⟩), .pointer (some ⟨d, 0, none⟩)] w fun e w' => e = .returned (.bool (takesB (.cls inner others) c)) ∧ ∃ m, w' = w.drewN m := by
  have E := hid (show takesB (.cls inner others) c = (decide (0 ≤ Lib.indexByte inner.data.toList c) != others) by rw [index_has]; rfl)
  go_enter Try.func67, Try.ntmps67
  go_wp2_with fail
  go_quiet ((go_at_call 39; exact Calls.quiet_of_same (IndexByteU_any _ _ _)))
  go_wp2
  go_ret
  exact ⟨by rw [unhid E]; rfl, _, rfl⟩
end Go.Proofs.Ytiggojpepgbcoaa
