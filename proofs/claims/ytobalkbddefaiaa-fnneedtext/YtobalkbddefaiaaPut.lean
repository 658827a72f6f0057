/- A need is written: by the program and by its model. -/
import Derived.Test.YtobalkbddefaiaaLawNeed
import Derived.Deep.QuietTactic
import Derived.BigQuiet
namespace Go.Proofs.Ytobalkbddefaiaa
open Go.RowKit

/-- What stands between name and version. -/
def markA (k : Int) : ByteArray := if k = 1 then ⟨#[61]⟩ else if k = 2 then ⟨#[62, 61]⟩ else if k = 3 then ⟨#[60]⟩ else ⟨#[]⟩
theorem markA_size (k : Int) : (markA k).size ≤ 2 := by
  unfold markA; split
  · decide
  · split
    · decide
    · split <;> decide

set_option maxRecDepth 100000 in
set_option maxHeartbeats 1000000 in
theorem needMark_any (k : Int) (w : World) : Calls Try.prog 30 #[.int .i64 k] w fun e w' => e = .returned (.string (markA k)) ∧ w' = w := by
  by_cases k1 : k = 1
  · subst k1
    go_enter Try.func30, Try.ntmps30
    go_wp2
    go_ret
    exact ⟨rfl, rfl⟩
  · by_cases k2 : k = 2
    · subst k2
      go_enter Try.func30, Try.ntmps30
      go_wp2
      go_ret
      exact ⟨rfl, rfl⟩
    · by_cases k3 : k = 3
      · subst k3
        go_enter Try.func30, Try.ntmps30
        go_wp2
        go_ret
        exact ⟨rfl, rfl⟩
      · have E := hid (show markA k = ⟨#[]⟩ by simp [markA, k1, k2, k3])
        have h1 : (k == 1) = false := by rw [beq_eq_false_iff_ne]; exact k1
        have h2 : (k == 2) = false := by rw [beq_eq_false_iff_ne]; exact k2
        have h3 : (k == 3) = false := by rw [beq_eq_false_iff_ne]; exact k3
        go_enter Try.func30, Try.ntmps30
        go_wp2
        go_ret
        exact ⟨by rw [unhid E]; rfl, rfl⟩

set_option maxRecDepth 100000 in
set_option maxHeartbeats 1000000 in
theorem l3Sign_any (k : Int) (w : World) : Calls Try.prog 53 #[.int .i64 k] w fun e w' => e = .returned (.string (markA k)) ∧ w' = w := by
  by_cases k1 : k = 1
  · subst k1
    go_enter Try.func53, Try.ntmps53
    go_wp2
    go_ret
    exact ⟨rfl, rfl⟩
  · by_cases k2 : k = 2
    · subst k2
      go_enter Try.func53, Try.ntmps53
      go_wp2
      go_ret
      exact ⟨rfl, rfl⟩
    · by_cases k3 : k = 3
      · subst k3
        go_enter Try.func53, Try.ntmps53
        go_wp2
        go_ret
        exact ⟨rfl, rfl⟩
      · have E := hid (show markA k = ⟨#[]⟩ by simp [markA, k1, k2, k3])
        have h1 : (k == 1) = false := by rw [beq_eq_false_iff_ne]; exact k1
        have h2 : (k == 2) = false := by rw [beq_eq_false_iff_ne]; exact k2
        have h3 : (k == 3) = false := by rw [beq_eq_false_iff_ne]; exact k3
        go_enter Try.func53, Try.ntmps53
        go_wp2
        go_ret
        exact ⟨by rw [unhid E]; rfl, rfl⟩

/-- A need that is ok, written. -/
def putA (n : ByteArray) (k : Int) (v : ByteArray) : ByteArray := n ++ markA k ++ v
def needPutA (n : ByteArray) (k : Int) (v : ByteArray) : ByteArray := if needB n.data.toList k v.data.toList then putA n k v else ⟨#[]⟩

set_option maxRecDepth 100000 in
set_option maxHeartbeats 1000000 in
theorem l3Put_any (n v : ByteArray) (k : Int) (hn : n.size ≤ 1048576) (hv : v.size ≤ 1048576) (w : World) :
    Calls Try.prog 33 #[.agg #[.string n, .int .i64 k, .string v]] w fun e W' => e = .returned (.string (putA n k v)) ∧ Below w.heap.size w W' := by
  have hm := markA_size k
  have e1 : (n ++ markA k).size ≤ 1048578 := by rw [ByteArray.size_append]; omega
  have e2 : (n ++ markA k ++ v).size ≤ 2097154 := by rw [ByteArray.size_append]; omega
  go_enter Try.func33, Try.ntmps33
  go_wp2_with fail
  go_quiet ((go_at_call 53; exact Calls.quiet_of_same (l3Sign_any _ _)))
  go_wp2
  go_ret
  exact ⟨rfl, rfl, rfl, rfl, by simp, fun j hj => Below.heap_alloc w _ j hj⟩

set_option maxRecDepth 100000 in
set_option maxHeartbeats 1000000 in
theorem specNeedPut_any (n v : ByteArray) (k : Int) (hn : n.size ≤ 1048576) (hv : v.size ≤ 1048576) (w : World) :
    Calls Try.prog 15 #[.agg #[.string n, .int .i64 k, .string v]] w fun e W' => e = .returned (.string (needPutA n k v)) ∧ Below w.heap.size w W' := by
  have HB0 := hid (show Below w.heap.size w (w.alloc (.cells #[.string n, .int .i64 k, .string v] 30)) from (Below.refl _ w).alloc (Nat.le_refl _) _)
  have fcell : ∀ w1 : World, Below (w.alloc (.cells #[.string n, .int .i64 k, .string v] 30)).heap.size (w.alloc (.cells #[.string n, .int .i64 k, .string v] 30)) w1 → w1.cell? ⟨w.heap.size, 0, none⟩ = some (.string n) ∧ w1.cell? ⟨w.heap.size, 1, none⟩ = some (.int .i64 k) ∧ w1.cell? ⟨w.heap.size, 2, none⟩ = some (.string v) := fun w1 hb =>
    ⟨(hb.cell (p := ⟨w.heap.size, 0, none⟩) (by simp)).trans (by simp [go_sem]), (hb.cell (p := ⟨w.heap.size, 1, none⟩) (by simp)).trans (by simp [go_sem]), (hb.cell (p := ⟨w.heap.size, 2, none⟩) (by simp)).trans (by simp [go_sem])⟩
  have Hf := hid fcell
  clear fcell
  go_enter Try.func15, Try.ntmps15
  go_wp2_with fail
  refine (specNeedOk_any n v k hn hv _).mono ?_
  rintro e w1 ⟨rfl, hb⟩
  have B1 := hid hb
  obtain ⟨f1, f2, f3⟩ := unhid Hf w1 hb
  clear hb
  cases hx : needB n.data.toList k v.data.toList
  · have E := hid (show needPutA n k v = ⟨#[]⟩ by simp [needPutA, hx])
    go_wp2_with fail
    go_ret
    exact ⟨by rw [unhid E]; rfl, (unhid HB0).trans ((unhid B1).mono (unhid HB0).size)⟩
  · have E := hid (show needPutA n k v = putA n k v by simp [needPutA, hx])
    go_wp2_with fail
    refine (l3Put_any n v k hn hv _).mono ?_
    rintro e w2 ⟨rfl, hb⟩
    have B2 := hid ((unhid B1).trans (hb.mono (unhid B1).size))
    clear hb
    go_wp2_with fail
    go_ret
    exact ⟨by rw [unhid E]; rfl, (unhid HB0).trans ((unhid B2).mono (unhid HB0).size)⟩

theorem packB_size {n : ByteArray} (h : packB n.data.toList = true) : n.size ≤ 1048576 := by
  unfold packB at h
  simp only [Bool.and_eq_true, decide_eq_true_eq] at h
  have := h.1.1.2
  have e : n.data.toList.length = n.size := by simp
  omega

set_option maxRecDepth 100000 in
set_option maxHeartbeats 1000000 in
theorem NeedPut_any (n v : ByteArray) (k : Int) (hn : n.size ≤ maxLen) (hv : v.size ≤ 1048576) (w : World) :
    Calls Try.prog 13 #[.agg #[.string n, .int .i64 k, .string v]] w fun e W' => e = .returned (.string (needPutA n k v)) ∧ Below w.heap.size w W' := by
  have HB0 := hid (show Below w.heap.size w (w.alloc (.cells #[.string n, .int .i64 k, .string v] 30)) from (Below.refl _ w).alloc (Nat.le_refl _) _)
  have fcell : ∀ w1 : World, Below (w.alloc (.cells #[.string n, .int .i64 k, .string v] 30)).heap.size (w.alloc (.cells #[.string n, .int .i64 k, .string v] 30)) w1 → w1.cell? ⟨w.heap.size, 0, none⟩ = some (.string n) ∧ w1.cell? ⟨w.heap.size, 1, none⟩ = some (.int .i64 k) ∧ w1.cell? ⟨w.heap.size, 2, none⟩ = some (.string v) := fun w1 hb =>
    ⟨(hb.cell (p := ⟨w.heap.size, 0, none⟩) (by simp)).trans (by simp [go_sem]), (hb.cell (p := ⟨w.heap.size, 1, none⟩) (by simp)).trans (by simp [go_sem]), (hb.cell (p := ⟨w.heap.size, 2, none⟩) (by simp)).trans (by simp [go_sem])⟩
  have Hf := hid fcell
  clear fcell
  have hvm : v.size ≤ maxLen := by unfold maxLen; omega
  go_enter Try.func13, Try.ntmps13
  go_wp2_with fail
  refine (NeedOk_any n v k hn hvm _).mono ?_
  rintro e w1 ⟨rfl, hb⟩
  have B1 := hid hb
  obtain ⟨f1, f2, f3⟩ := unhid Hf w1 hb
  clear hb
  cases hx : needB n.data.toList k v.data.toList
  · have E := hid (show needPutA n k v = ⟨#[]⟩ by simp [needPutA, hx])
    go_wp2_with fail
    go_ret
    exact ⟨by rw [unhid E]; rfl, (unhid HB0).trans ((unhid B1).mono (unhid HB0).size)⟩
  · have E := hid (show needPutA n k v = putA n k v by simp [needPutA, hx])
    have hp : packB n.data.toList = true := by
      unfold needB at hx; rw [Bool.and_eq_true] at hx; exact hx.1
    have hn2 := packB_size hp
    have hm := markA_size k
    have e1 : (n ++ markA k).size ≤ 1048578 := by rw [ByteArray.size_append]; omega
    have e2 : (n ++ markA k ++ v).size ≤ 2097154 := by rw [ByteArray.size_append]; omega
    go_wp2_with fail
    go_quiet ((go_at_call 30; exact Calls.quiet_of_same (needMark_any _ _)))
    go_wp2
    go_ret
    refine ⟨by rw [unhid E]; rfl, ?_⟩
    have hB := (unhid HB0).trans ((unhid B1).mono (unhid HB0).size)
    exact ⟨hB.os, hB.tape, hB.output, hB.size, hB.block⟩
end Go.Proofs.Ytobalkbddefaiaa
