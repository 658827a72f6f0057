/- What the draws of FnNeedText give: a need, and a text that is short. -/
import Derived.Test.YtobalkbddefaiaaDrawNeed
import Derived.Test.YtobalkbddefaiaaPut
import Derived.Deep.DrawnRows
namespace Go.Proofs.Ytobalkbddefaiaa
open Go.RowKit
attribute [local go_sem ↓] Go.wp_at_zero Go.wp_at_succ

set_option maxRecDepth 100000 in
set_option maxHeartbeats 2000000 in
theorem DrawNeedPut_any (w : World) (a : Option Addr) (len cap : Nat) (h : Code w w.heap.size a len) (hl : len ≤ 1048576) (hc : len ≤ cap) :
    Calls Try.prog 12 #[.slice a len cap] w fun e w' => ∃ (x v : ByteArray) (k : Int), e = .returned (.agg #[.string x, .int .i64 k, .string v]) ∧ short x ∧ short v ∧ Below w.heap.size w w' := by
  have hcode : Code (w.alloc (.cells #[.string ⟨#[]⟩, .int .i64 0, .string ⟨#[]⟩] 30)) (w.alloc (.cells #[.string ⟨#[]⟩, .int .i64 0, .string ⟨#[]⟩] 30)).heap.size a len := by
    rcases h with h | ⟨blk, off, ha, hb, hcc⟩
    · exact .inl h
    · refine .inr ⟨blk, off, ha, by simp; omega, fun k hk => ?_⟩
      obtain ⟨c, h1, h2⟩ := hcc k hk
      exact ⟨c, h1, (((Below.refl w.heap.size w).alloc (Nat.le_refl _) _).cell (p := ⟨blk, off + k, none⟩) hb).trans h2⟩
  have H := hid hcode
  clear h hcode
  go_enter Try.func12, Try.ntmps12
  go_wp2_with fail
  refine (l1Open_any _ a len cap (unhid H) hl hc).mono ?_
  rintro e w1 ⟨rfl, ⟨l', c', hR⟩, hB⟩
  have hsz : (w.alloc (.cells #[.string ⟨#[]⟩, .int .i64 0, .string ⟨#[]⟩] 30)).heap.size = w.heap.size + 1 := by simp
  rw [hsz] at hR hB ⊢
  have HR := hid hR
  have HB := hid hB
  have N1 := hid ((needAt_new w ⟨#[]⟩ 0 ⟨#[]⟩ 30).below hB (by omega))
  have hz1 := hR.lt
  clear hR hB H
  go_wp2_with fail
  refine (l11AnyNeed_any w1 (w.heap.size + 1) a l' c' 0 (unhid HR) (by omega)).mono ?_
  rintro e w2 ⟨x, v, k, hx, hv, rfl, -, hG⟩
  have HB2 : Hid (Below (w.heap.size + 1) (w.alloc (.cells #[.string ⟨#[]⟩, .int .i64 0, .string ⟨#[]⟩] 30)) w2) := hid ((unhid HB).trans (grown_below hG (Nat.le_refl _) (by omega)))
  obtain ⟨⟨c0, f0⟩, ⟨c1, f1⟩, c2, f2⟩ := (unhid N1).grown hG (by omega) (by omega)
  clear hG N1 HB HR
  go_wp2_with fail
  refine bodyPost_ret (v := .agg #[.string x, .int .i64 k, .string v]) (by simp [results, Try.results12, go_sem, World.cell?_setCell_same', c0, c1, c2]) rfl ⟨x, v, k, rfl, hx, hv, ?_⟩
  exact ((((Below.refl _ w).alloc (Nat.le_refl _) _).trans ((unhid HB2).mono (Nat.le_succ _))).setCell (Nat.le_refl _) _ |>.setCell (Nat.le_refl _) _).setCell (Nat.le_refl _) _

theorem Rd.drew' {w : World} {b : Nat} {a : Option Addr} {len cap p : Nat} (h : Rd w b a len cap p) : Rd w.drew b a len cap p := ⟨h.c0, h.c1, h.f1, h.l, h.d⟩
theorem grown_drew {w w' : World} {r : Option Nat} (h : w.grownBy w' r) : w.grownBy w'.drew r := ⟨h.os, h.tape, h.output, h.size, h.block⟩
theorem drew_grown {w w' : World} {r : Option Nat} (h : w.drew.grownBy w' r) : w.grownBy w' r := ⟨h.os, h.tape, h.output, h.size, h.block⟩

set_option maxRecDepth 100000 in
set_option maxHeartbeats 4000000 in
theorem l11Cut_any (w : World) (b : Nat) (a : Option Addr) (len cap p : Nat) (h : Rd w b a len cap p) (hp : p ≤ 1000) (s : ByteArray) (hs : s.size ≤ 1000) :
    Calls Try.prog 38 #[.pointer (some ⟨b, 0, none⟩), .string s] w fun e w' => ∃ x : ByteArray, x.size ≤ 2100 ∧ e = .returned (.string x) ∧ (∃ p', p' ≤ p + 3 ∧ Rd w' b a len cap p') ∧ w.grownBy w' (some b) := by
  have H := hid h
  clear h
  have hm : s.size ≤ 9223372036854775807 := by omega
  go_enter Try.func38, Try.ntmps38
  go_wp2_with fail
  refine (pick_any w b a len cap p (unhid H) (by omega) ((s.size : Int) + 1) (by omega) (by omega)).mono ?_
  rintro e w1 ⟨k, hk, rfl, hR, hG⟩
  have HR := hid hR
  have HG := hid hG
  clear hR hG
  have hks : k ≤ s.size := by omega
  clear hk
  go_wp2_with fail
  refine (pick_any w1 b a len cap (p + 1) (unhid HR) (by omega) 5 (by omega) (by omega)).mono ?_
  rintro e w2 ⟨r, hr, rfl, hR, hG⟩
  have HR2 := hid hR
  have HG2 := hid (grown_trans (unhid HG) hG)
  clear hR hG HR HG
  have x1 : (s.extract 0 k).size ≤ 1000 := by rw [ByteArray.size_extract]; omega
  have x2 : (s.extract k s.size).size ≤ 1000 := by rw [ByteArray.size_extract]; omega
  have e1 : (s.extract 0 k).size ≤ 9223372036854775807 := by omega
  by_cases h0 : r = 0
  · have h0' : ((r : Int) == 0) = true := by simp [h0]
    subst h0
    have hb := (unhid HR2).lt
    go_wp2_with fail
    have hne : w2.heap.size ≠ b := by omega
    go_region_with ((go_at_call 41; refine (of_any short _ b a len cap (p + 1 + 1) ?h1 (by omega) w2.heap.size 6 6 hne (by omega) (by omega) ?h5).mono ?_; (case h1 => exact Rd.drew' ((unhid HR2).alloc _)); (case h5 => exact fun k hk => row_short w2 _ _ (by kernel_rfl) k hk); rintro e w3 ⟨y, hy, rfl, hR3, hG3⟩; have HG3 := hid (grown_trans (unhid HG2) (grown_trans (World.grownBy_alloc _ _ _) (drew_grown hG3))); have HR3 := hid hR3; clear hR3 hG3; have hy9 : y.size ≤ 100 := hy; have z1 : (s.extract 0 k ++ y).size ≤ 1100 := (by rw [ByteArray.size_append]; omega); have z2 : (s.extract 0 k ++ y ++ s.extract k s.size).size ≤ 2100 := (by rw [ByteArray.size_append]; omega)))
    all_goals
      go_wp2_with fail
      go_ret
      exact ⟨_, z2, rfl, ⟨_, by omega, unhid HR3⟩, unhid HG3⟩
  · have h0' : ((r : Int) == 0) = false := by rw [beq_eq_false_iff_ne]; omega
    by_cases h1 : r = 1
    · have h1' : ((r : Int) == 1) = true := by simp [h1]
      go_wp2_with fail
      go_ret
      exact ⟨_, by omega, rfl, ⟨_, by omega, unhid HR2⟩, unhid HG2⟩
    · have h1' : ((r : Int) == 1) = false := by rw [beq_eq_false_iff_ne]; omega
      go_wp2_with fail
      go_ret
      exact ⟨s, by omega, rfl, ⟨_, by omega, unhid HR2⟩, unhid HG2⟩

theorem Rd.below {w w' : World} {b : Nat} {a : Option Addr} {len cap p : Nat} (h : Rd w b a len cap p) (hb : Below w.heap.size w w') : Rd w' b a len cap p where
  c0 := (hb.cell (p := ⟨b, 0, none⟩) h.lt).trans h.c0
  c1 := (hb.cell (p := ⟨b, 1, none⟩) h.lt).trans h.c1
  f1 := (hb.frozen (p := ⟨b, 1, none⟩) h.lt).trans h.f1
  l := h.l
  d := by
    have hl := h.lt
    rcases h.d with h0 | ⟨blk, off, ha, hk, hc⟩
    · exact .inl h0
    · refine .inr ⟨blk, off, ha, hk, fun k hlt => ?_⟩
      obtain ⟨c, h1, h2⟩ := hc k hlt
      exact ⟨c, h1, (hb.cell (p := ⟨blk, off + k, none⟩) (Nat.lt_trans hk hl)).trans h2⟩
theorem put_size (x v : ByteArray) (k : Int) (hx : short x) (hv : short v) : (needPutA x k v).size ≤ 202 := by
  have h1 : x.size ≤ 100 := hx
  have h2 : v.size ≤ 100 := hv
  have h3 := markA_size k
  unfold needPutA
  split
  · unfold putA; rw [ByteArray.size_append, ByteArray.size_append]; omega
  · exact Nat.zero_le _

set_option maxRecDepth 100000 in
set_option maxHeartbeats 2000000 in
theorem DrawNeedGet_any (w : World) (a : Option Addr) (len cap : Nat) (h : Code w w.heap.size a len) (hl : len ≤ 1048576) (hc : len ≤ cap) :
    Calls Try.prog 18 #[.slice a len cap] w fun e w' => ∃ x : ByteArray, e = .returned (.string x) ∧ x.size ≤ 2100 ∧ Below w.heap.size w w' := by
  have H := hid h
  clear h
  go_enter Try.func18, Try.ntmps18
  go_wp2_with fail
  refine (l1Open_any w a len cap (unhid H) hl hc).mono ?_
  rintro e w1 ⟨rfl, ⟨l', c', hR⟩, hB⟩
  have HR := hid hR
  have HB := hid hB
  clear hR hB
  go_wp2_with fail
  refine (l11Need_any w1 _ a l' c' 0 (unhid HR) (by omega)).mono ?_
  rintro e w2 ⟨x, v, k, hx, hv, rfl, ⟨p2, hp2, hR⟩, hG⟩
  have HB2 := hid ((unhid HB).trans (grown_below hG (Nat.le_refl _) (unhid HB).size))
  have HR2 := hid hR
  clear hR hG HB HR
  have hx9 : x.size ≤ 100 := hx
  have hv9 : v.size ≤ 100 := hv
  go_wp2_with fail
  refine (specNeedPut_any x v k (by omega) (by omega) w2).mono ?_
  rintro e w3 ⟨rfl, hb⟩
  have HB3 := hid ((unhid HB2).trans (hb.mono (unhid HB2).size))
  have HR3 := hid ((unhid HR2).below hb)
  clear hb HB2 HR2
  have hz := put_size x v k hx hv
  generalize needPutA x k v = s at *
  go_wp2_with fail
  refine (l11Cut_any w3 _ a l' c' p2 (unhid HR3) (by omega) s (by omega)).mono ?_
  rintro e w4 ⟨y, hy, rfl, -, hG⟩
  have HB4 := hid ((unhid HB3).trans (grown_below hG (Nat.le_refl _) (unhid HB3).size))
  clear hG HB3 HR3
  go_wp2_with fail
  go_ret
  exact ⟨y, rfl, hy, unhid HB4⟩
end Go.Proofs.Ytobalkbddefaiaa
