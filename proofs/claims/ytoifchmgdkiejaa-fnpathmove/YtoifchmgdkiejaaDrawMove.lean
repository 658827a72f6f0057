/- What the draw of three paths gives: texts of at most a hundred bytes. -/
import Derived.Test.YtoifchmgdkiejaaDrawPath
namespace Go.Proofs.Ytoifchmgdkiejaa
open Go.RowKit

set_option maxRecDepth 100000 in
set_option maxHeartbeats 1000000 in
theorem DrawPathMove_any (w : World) (a : Option Addr) (len cap : Nat) (h : Code w w.heap.size a len) (hl : len ≤ 1048576) (hc : len ≤ cap) :
    Calls Try.prog 22 #[.slice a len cap] w fun e w' => ∃ x y z, e = .returned (.tuple #[.string x, .string y, .string z]) ∧ short x ∧ short y ∧ short z ∧ Below w.heap.size w w' := by
  have H := hid h
  clear h
  go_enter Try.func22, Try.ntmps22
  go_wp2_with fail
  refine (l1Open_any w a len cap (unhid H) hl hc).mono ?_
  rintro e w1 ⟨rfl, ⟨l', c', hR⟩, hB⟩
  have HR := hid hR
  have HB := hid hB
  clear hR hB
  go_wp2_with fail
  refine (l11AnyPath_any w1 _ a l' c' 0 (unhid HR) (by omega)).mono ?_
  rintro e w2 ⟨x, hx, rfl, hR, hG⟩
  have HB2 := hid ((unhid HB).trans (grown_below hG (Nat.le_refl _) (unhid HB).size))
  have HR2 := hid hR
  clear hR hG
  go_wp2_with fail
  refine (l11AnyPath_any w2 _ a l' c' _ (unhid HR2) (by omega)).mono ?_
  rintro e w3 ⟨y0, hy0, rfl, hR, hG⟩
  have HB3 := hid ((unhid HB2).trans (grown_below hG (Nat.le_refl _) (unhid HB2).size))
  have HR3 := hid hR
  clear hR hG
  go_wp2_with fail
  have hb := (unhid HR3).lt
  refine (of_any short _ _ a l' c' (0 + 1 + 1 + 1 + 1) ?h1 (by omega) w3.heap.size 4 4 ?h2 (by omega) (by omega) ?h5).mono ?_
  case h1 => exact (unhid HR3).alloc _
  case h2 => omega
  case h5 => exact fun k hk => row_short w3 _ _ (by have h9 : y0.size ≤ 100 := hy0; simp [shortV, h9]; decide) k hk
  rintro e w4 ⟨y, hy, rfl, hR, hG⟩
  have HB4 := hid ((unhid HB3).trans (grown_below (grown_trans (World.grownBy_alloc w3 _ (some w.heap.size)) hG) (Nat.le_refl _) (unhid HB3).size))
  have HR4 := hid hR
  clear hR hG hb
  go_wp2_with fail
  refine (l11AnyPath_any w4 _ a l' c' (0 + 1 + 1 + 1 + 1 + 1) (unhid HR4) (by omega)).mono ?_
  rintro e w5 ⟨z, hz, rfl, hR, hG⟩
  have HB5 := hid ((unhid HB4).trans (grown_below hG (Nat.le_refl _) (unhid HB4).size))
  clear hR hG
  go_wp2_with fail
  go_ret3
  exact ⟨x, y, z, rfl, hx, hy, hz, unhid HB5⟩
end Go.Proofs.Ytoifchmgdkiejaa
