/- What the draw of two versions gives: two short texts. -/
import Derived.Test.YtobalkbddefaiaaDrawNeed
namespace Go.Proofs.Ytobalkbddefaiaa
open Go.RowKit

set_option maxRecDepth 100000 in
set_option maxHeartbeats 1000000 in
theorem DrawVersionOrder_any (w : World) (a : Option Addr) (len cap : Nat) (h : Code w w.heap.size a len) (hl : len ≤ 1048576) (hc : len ≤ cap) :
    Calls Try.prog 7 #[.slice a len cap] w fun e w' => ∃ x y, e = .returned (.tuple #[.string x, .string y]) ∧ short x ∧ short y ∧ Below w.heap.size w w' := by
  have H := hid h
  clear h
  go_enter Try.func7, Try.ntmps7
  go_wp2_with fail
  refine (l1Open_any w a len cap (unhid H) hl hc).mono ?_
  rintro e w1 ⟨rfl, ⟨l', c', hR⟩, hB⟩
  have HR := hid hR
  have HB := hid hB
  clear hR hB
  go_wp2_with fail
  refine (l11AnyVersion_any w1 _ a l' c' 0 (unhid HR) (by omega)).mono ?_
  rintro e w2 ⟨x, hx, rfl, hR, hG⟩
  have HB2 := hid ((unhid HB).trans (grown_below hG (Nat.le_refl _) (unhid HB).size))
  have HR2 := hid hR
  clear hR hG
  go_wp2_with fail
  refine (l11AnyVersion_any w2 _ a l' c' _ (unhid HR2) (by omega)).mono ?_
  rintro e w3 ⟨y, hy, rfl, hR, hG⟩
  have HB3 := hid ((unhid HB2).trans (grown_below hG (Nat.le_refl _) (unhid HB2).size))
  clear hR hG
  go_wp2_with fail
  go_ret2
  exact ⟨x, y, rfl, hx, hy, unhid HB3⟩
end Go.Proofs.Ytobalkbddefaiaa
