/- What the laws write over a text to see whose it is. -/
import Derived.Test.YtlnpjiabdebmgaaBytesOf
import Derived.Laws.IdiomStrings
namespace Go.Proofs.Ytlnpjiabdebmgaa
open Go.RowKit Go.Shelf

/-- The figures of a number, ahead of others. -/
def mdig : Nat → Nat → List UInt8 → List UInt8
  | 0, _, acc => acc
  | f + 1, k, acc => if k = 0 then acc else mdig f (k / 10) (UInt8.ofNat (48 + k % 10) :: acc)
def mtext (k : Nat) : ByteArray := ⟨(109 :: mdig 20 k []).toArray⟩
theorem mdig_step (f k : Nat) (acc : List UInt8) (hk : 0 < k) : mdig (f + 1) k acc = mdig f (k / 10) (UInt8.ofNat (48 + k % 10) :: acc) := by
  rw [mdig, if_neg (by omega)]
theorem mdig_zero (f : Nat) (acc : List UInt8) : mdig f 0 acc = acc := by cases f <;> simp [mdig]

theorem ba_cons (c : UInt8) (l : List UInt8) : (⟨#[c]⟩ : ByteArray) ++ ⟨l.toArray⟩ = ⟨(c :: l).toArray⟩ := by
  apply ByteArray.ext
  simp [ByteArray.data_append]
theorem grownBy_below {w w' w'' : World} {row : Option Nat} (h : w.grownBy w' row) (hb : Below w'.heap.size w' w'') : w.grownBy w'' row :=
  ⟨hb.os.trans h.os, hb.tape.trans h.tape, hb.output.trans h.output, Nat.le_trans h.size hb.size, fun k hk hr => (hb.block k (Nat.lt_of_lt_of_le hk h.size)).trans (h.block k hk hr)⟩
theorem grown_setCell {w w' : World} {g : Nat} (h : w.grownBy w' (some g)) (o : Nat) (v : Value) : w.grownBy (w'.setCell ⟨g, o, .none⟩ v) (some g) :=
  ⟨h.os, h.tape, h.output, by simpa using h.size, fun k hk hr => (Below.heap_setCell _ _ _ _ (fun e => hr (by have e' : k = g := e; rw [e']))).trans (h.block k hk hr)⟩
theorem ret_int {k : IntKind} {a b : Int} (h : a = b) : Ending.returned (.int k a) = .returned (.int k b) := by rw [h]
end Go.Proofs.Ytlnpjiabdebmgaa
