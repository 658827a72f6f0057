/- What the laws hand over of a need. -/
import Derived.Test.YtcggeolljfjnmaaNeed
namespace Go.Proofs.Ytcggeolljfjnmaa
open Go.RowKit

set_option maxRecDepth 100000 in
set_option maxHeartbeats 1000000 in
theorem szNeed_any (n v : ByteArray) (k : Int) (hn : n.size ≤ maxLen) (hv : v.size ≤ maxLen) (w : World) :
    Calls Try.prog 18 #[.agg #[.string n, .int .i64 k, .string v], .int .i64 1048576] w fun e w' => ∃ r : Int, e = .returned (.int .i64 r) ∧ (0 ≤ r → n.size ≤ 1048576 ∧ v.size ≤ 1048576) ∧ Below w.heap.size w w' := by
  have hn' : n.size ≤ 9223372036854775807 := hn
  have hv' : v.size ≤ 9223372036854775807 := hv
  have HB := hid (show Below w.heap.size w (w.alloc (.cells #[.string n, .int .i64 k, .string v] 33)) from (Below.refl _ w).alloc (Nat.le_refl _) _)
  by_cases h1 : (1048576 : Int) - n.size < 0
  · go_enter Try.func18, Try.ntmps18
    go_wp2
    go_ret
    exact ⟨-1, rfl, (fun h => by omega), unhid HB⟩
  · by_cases h2 : (1048576 : Int) - n.size - v.size < 0
    · go_enter Try.func18, Try.ntmps18
      go_wp2
      go_ret
      exact ⟨-1, rfl, (fun h => by omega), unhid HB⟩
    · go_enter Try.func18, Try.ntmps18
      go_wp2
      go_ret
      exact ⟨(1048576 : Int) - n.size - v.size, rfl, (fun h => by omega), unhid HB⟩

set_option maxRecDepth 100000 in
set_option maxHeartbeats 1000000 in
theorem toNeed_any (n v : ByteArray) (k : Int) (w : World) :
    Calls Try.prog 19 #[.agg #[.string n, .int .i64 k, .string v]] w fun e w' => e = .returned (.agg #[.string n, .int .i64 k, .string v]) ∧ Below w.heap.size w w' := by
  go_enter Try.func19, Try.ntmps19
  go_wp2
  refine bodyPost_ret (v := .agg #[.string n, .int .i64 k, .string v]) (by simp [results, Try.results19, go_sem]) rfl ⟨rfl, ?_⟩
  exact (((Below.refl _ w).alloc (Nat.le_refl _) _).alloc (by simp) _).alloc (by simp; omega) _
end Go.Proofs.Ytcggeolljfjnmaa
