/- What the laws write over a text to see whose it is. -/
import Derived.Test.YtedimkcnemhhpaaBytesOf
import Derived.Laws.IdiomStrings
namespace Go.Proofs.Ytedimkcnemhhpaa
open Go.RowKit Go.Shelf

/-- The figures of a number, ahead of others. -/
def mdig : Nat → Nat → List UInt8 → List UInt8
  | 0, _, acc => acc
  | f + 1, k, acc => if k = 0 then acc else mdig f (k / 10) (UInt8.ofNat (48 + k % 10) :: acc)
def mtext (k : Nat) : ByteArray := ⟨(109 :: mdig 20 k []).toArray⟩
theorem mdig_step (f k : Nat) (acc : List UInt8) (hk : 0 < k) : mdig (f + 1) k acc = mdig f (k / 10) (UInt8.ofNat (48 + k % 10) :: acc) := by
  rw [mdig, if_neg (by omega)]
theorem mdig_zero (f : Nat) (acc : List UInt8) : mdig f 0 acc = acc := by cases f <;> simp [mdig]

theorem ba_cons (c : UInt8) (l : List UInt8) : (⟨#[c]⟩ : ByteArray) ++ ⟨l.toArray⟩ = ⟨(c :: l).toArray⟩ := by
  apply ByteArray.ext
  simp [ByteArray.data_append]
theorem conv_one (w : World) (q : Nat) : Sem.run Try.prog (convert 41 9 (.slice (some ⟨w.heap.size, 0, none⟩) 1 1)) (w.alloc (.cells #[.int .u8 (48 + (q : Int) % 10)] 5)) = .ok (.string ⟨#[UInt8.ofNat (48 + q % 10)]⟩) (w.alloc (.cells #[.int .u8 (48 + (q : Int) % 10)] 5)) := by
  refine run_convert_bytes_back (P := Try.prog) _ 41 9 5 ⟨w.heap.size, 0, none⟩ 1 [UInt8.ofNat (48 + q % 10)] (by kernel_rfl) (by kernel_rfl) (by kernel_rfl) (fun j hj => ?_)
  have : j = 0 := by simpa using hj
  subst this
  have h1 := (cell_new_l w (.int .u8 (48 + (q : Int) % 10)) 5).1
  have h2 : (UInt8.ofNat (48 + q % 10)).toNat = 48 + q % 10 := by simp; omega
  simp only [List.getElem_cons_zero, h2]
  have e : ((⟨w.heap.size, 0, none⟩ : Addr).add 0) = ⟨w.heap.size, 0, none⟩ := rfl
  rw [e, h1]; rfl

set_option maxRecDepth 100000 in
set_option maxHeartbeats 1000000 in
theorem markText_any (k : Nat) (w : World) (hk : 0 < k) (hk2 : k < 100000000) :
    Calls Try.prog 59 #[.int .i64 (k : Int)] w fun x w' => x = .returned (.string (mtext k)) ∧ Below w.heap.size w w' := by
  go_enter Try.func59, Try.ntmps59
  go_wp2_with fail
  go_loopw [0, 3] (fun c o wr => ∃ (f q : Nat) (l : List UInt8), Hid (q < 10 ^ f) ∧ q < 100000000 ∧ l.length + f ≤ 20 ∧ c = .int .i64 (q : Int) ∧ o = .string ⟨l.toArray⟩ ∧ Hid (mdig f q l = mdig 20 k []) ∧ Below w.heap.size w wr) (fun c _ _ => (intOf c).toNat)
  case atStart => exact ⟨20, k, [], hid (by omega), hk2, by simp, rfl, rfl, hid rfl, Below.refl _ _⟩
  case round =>
    obtain ⟨f, q, l, hq, hq2, hl, rfl, rfl, HD, hB⟩ := hrel
    by_cases h0 : 0 < q
    · obtain ⟨f, rfl⟩ : ∃ g, f = g + 1 := ⟨f - 1, by have : f ≠ 0 := (by rintro rfl; have := unhid hq; omega)
                                                     omega⟩
      have hcv := conv_one wr q
      have HS := hid (mdig_step f q l h0)
      have HB := hid ((hB.alloc hB.size (.cells #[.int .u8 (48 + (q : Int) % 10)] 5)))
      go_wp2_with fail
      go_roundw
      case rel =>
        refine ⟨f, q / 10, UInt8.ofNat (48 + q % 10) :: l, hid (by have := unhid hq; rw [Nat.pow_succ] at this; omega), by omega, by simp; omega, by go_num, ?_, hid (by rw [← unhid HS]; exact unhid HD), unhid HB⟩
        rw [ba_cons]
        simp
      case measure => simp [intOf]; omega
    · have e : q = 0 := by omega
      subst e
      go_wp2_with fail
      go_ret
      refine ⟨?_, hB⟩
      have := unhid HD
      rw [mdig_zero] at this
      unfold mtext
      rw [← this, ba_cons]
      rfl

theorem markText_at (c : Int) (k : Nat) (w : World) (hc : c = (k : Int)) (hk : 0 < k) (hk2 : k < 100000000) :
    Calls Try.prog 59 #[.int .i64 c] w fun x w' => x = .returned (.string (mtext k)) ∧ Below w.heap.size w w' := by subst hc; exact markText_any k w hk hk2
theorem grownBy_below {w w' w'' : World} {row : Option Nat} (h : w.grownBy w' row) (hb : Below w'.heap.size w' w'') : w.grownBy w'' row :=
  ⟨hb.os.trans h.os, hb.tape.trans h.tape, hb.output.trans h.output, Nat.le_trans h.size hb.size, fun k hk hr => (hb.block k (Nat.lt_of_lt_of_le hk h.size)).trans (h.block k hk hr)⟩
theorem grown_setCell {w w' : World} {g : Nat} (h : w.grownBy w' (some g)) (o : Nat) (v : Value) : w.grownBy (w'.setCell ⟨g, o, .none⟩ v) (some g) :=
  ⟨h.os, h.tape, h.output, by simpa using h.size, fun k hk hr => (Below.heap_setCell _ _ _ _ (fun e => hr (by have e' : k = g := e; rw [e']))).trans (h.block k hk hr)⟩
theorem ret_int {k : IntKind} {a b : Int} (h : a = b) : Ending.returned (.int k a) = .returned (.int k b) := by rw [h]
end Go.Proofs.Ytedimkcnemhhpaa
