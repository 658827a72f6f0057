/- What the draw of a need, a name and a version gives: short texts. -/
import Derived.Test.YtobalkbddefaiaaDrawNeed
import Derived.Deep.DrawnRows
namespace Go.Proofs.Ytobalkbddefaiaa
open Go.RowKit
attribute [local go_sem ↓] Go.wp_at_zero Go.wp_at_succ

theorem Rd.drew {w : World} {b : Nat} {a : Option Addr} {len cap p : Nat} (h : Rd w b a len cap p) : Rd w.drew b a len cap p := ⟨h.c0, h.c1, h.f1, h.l, h.d⟩

/-- What stays as it is while the reader reads on. -/
def Bun (w : World) (g : Nat) (x : ByteArray) (k : Int) (v : ByteArray) (W : World) : Prop :=
  NeedAt W w.heap.size ⟨#[]⟩ 0 ⟨#[]⟩ ∧ NeedAt W g x k v ∧ Below (w.heap.size + 1) (w.alloc (.cells #[.string ⟨#[]⟩, .int .i64 0, .string ⟨#[]⟩] 30)) W ∧ g < W.heap.size ∧ w.heap.size + 2 ≤ g
theorem Bun.drew {w : World} {g : Nat} {x : ByteArray} {k : Int} {v : ByteArray} {W : World} (h : Bun w g x k v W) : Bun w g x k v W.drew := ⟨h.1, h.2.1, h.2.2.1.drew, h.2.2.2⟩
theorem Bun.grown {w : World} {g : Nat} {x : ByteArray} {k : Int} {v : ByteArray} {W W' : World} (h : Bun w g x k v W) (hG : W.grownBy W' (some (w.heap.size + 1))) : Bun w g x k v W' := by
  obtain ⟨h1, h2, h3, h4, h5⟩ := h
  exact ⟨h1.grown hG (by omega) (by omega), h2.grown hG h4 (by omega), h3.trans (grown_below hG (Nat.le_refl _) (by omega)), Nat.lt_of_lt_of_le h4 hG.size, h5⟩
theorem names_short {x : ByteArray} (hx : short x) : (#[Value.string x, .string x, .string ⟨#[111, 110, 101]⟩] : Array Value).toList.all shortV = true := by
  have h9 : x.size ≤ 100 := hx
  simp [shortV, h9]; decide

set_option maxRecDepth 100000 in
set_option maxHeartbeats 4000000 in
theorem DrawNeedFits_any (w : World) (a : Option Addr) (len cap : Nat) (h : Code w w.heap.size a len) (hl : len ≤ 1048576) (hc : len ≤ cap) :
    Calls Try.prog 20 #[.slice a len cap] w fun e w' => ∃ (x v nm ver : ByteArray) (k : Int), e = .returned (.tuple #[.agg #[.string x, .int .i64 k, .string v], .string nm, .string ver]) ∧ short x ∧ short v ∧ short nm ∧ short ver ∧ Below w.heap.size w w' := by
  have hcode : Code (w.alloc (.cells #[.string ⟨#[]⟩, .int .i64 0, .string ⟨#[]⟩] 30)) (w.alloc (.cells #[.string ⟨#[]⟩, .int .i64 0, .string ⟨#[]⟩] 30)).heap.size a len := by
    rcases h with h | ⟨blk, off, ha, hb, hcc⟩
    · exact .inl h
    · refine .inr ⟨blk, off, ha, by simp; omega, fun k hk => ?_⟩
      obtain ⟨c, h1, h2⟩ := hcc k hk
      exact ⟨c, h1, (((Below.refl w.heap.size w).alloc (Nat.le_refl _) _).cell (p := ⟨blk, off + k, none⟩) hb).trans h2⟩
  have H := hid hcode
  clear h hcode
  go_enter Try.func20, Try.ntmps20
  go_wp2_with fail
  refine (l1Open_any _ a len cap (unhid H) hl hc).mono ?_
  rintro e w1 ⟨rfl, ⟨l', c', hR⟩, hB⟩
  have hsz : (w.alloc (.cells #[.string ⟨#[]⟩, .int .i64 0, .string ⟨#[]⟩] 30)).heap.size = w.heap.size + 1 := by simp
  rw [hsz] at hR hB ⊢
  have HR := hid hR
  have HB := hid hB
  have N1 := hid ((needAt_new w ⟨#[]⟩ 0 ⟨#[]⟩ 30).below hB (by omega))
  have hz1 := hR.lt
  clear hR hB H
  go_wp2_with fail
  refine (l11AnyNeed_any w1 (w.heap.size + 1) a l' c' 0 (unhid HR) (by omega)).mono ?_
  rintro e w2 ⟨x, v, k, hx, hv, rfl, ⟨p2, hp2, hR⟩, hG⟩
  have hB2 : Below (w.heap.size + 1) (w.alloc (.cells #[.string ⟨#[]⟩, .int .i64 0, .string ⟨#[]⟩] 30)) w2 := (unhid HB).trans (grown_below hG (Nat.le_refl _) (by omega))
  have N2 := hid (((unhid N1).grown hG (by omega) (by omega)).grown (World.grownBy_alloc w2 (.cells #[.string x, .int .i64 k, .string v] 30) (some (w.heap.size + 1))) (by have := hG.size; omega) (by omega))
  have hz2 : w.heap.size + 2 ≤ w2.heap.size := by have := hG.size; omega
  have HB2 := hid (hB2.alloc (by omega) (.cells #[.string x, .int .i64 k, .string v] 30))
  have HR2 := hid (hR.alloc (.cells #[.string x, .int .i64 k, .string v] 30))
  have NN := hid (needAt_new w2 x k v 30)
  clear hR hG hB2 N1 HB HR
  have hsz2 : (w2.alloc (.cells #[.string x, .int .i64 k, .string v] 30)).heap.size = w2.heap.size + 1 := by simp
  go_wp2_with fail
  generalize w2.alloc (.cells #[.string x, .int .i64 k, .string v] 30) = W at *
  generalize hg : w2.heap.size = g at *
  have hsz3 : W.drew.heap.size = g + 1 := hsz2
  have hg3 : g < W.heap.size := by omega
  have BN := hid (show Bun w g x k v W from ⟨unhid N2, unhid NN, unhid HB2, hg3, hz2⟩)
  obtain ⟨⟨d0, g0⟩, ⟨d1, g1⟩, d2, g2⟩ := unhid NN
  have hne' : ¬ g = w.heap.size := by omega
  have hne2 : ¬ w.heap.size = g := by omega
  clear N2 NN HB2
  go_region_with (first
    | (go_at_call 41; refine (of_any short _ (w.heap.size + 1) a l' c' p2 ((Rd.drew (unhid HR2)).alloc _) (by omega) (g + 1) 3 3 (by omega) (by omega) (by omega) (fun k hk => row_short_at _ _ _ _ hsz3.symm (names_short hx) k hk)).mono ?_; rintro e w3 ⟨nm, hnm, rfl, hR3, hG3⟩; have BN3 := hid ((unhid BN).drew.grown (grown_trans (World.grownBy_alloc _ _ _) hG3)); have HR3 := hid hR3; clear hR3 hG3; obtain ⟨⟨d0, g0⟩, ⟨d1, g1⟩, d2, g2⟩ := (unhid BN3).2.1)
    | (go_at_call 24; refine (l11AnyVersion_any _ (w.heap.size + 1) a l' c' (p2 + 1) (unhid HR3) (by omega)).mono ?_; rintro e w4 ⟨ver, hver, rfl, hR4, hG4⟩; have BN4 := hid ((unhid BN3).grown hG4); clear hR4 hG4; obtain ⟨⟨d0, g0⟩, ⟨d1, g1⟩, d2, g2⟩ := (unhid BN4).2.1; obtain ⟨⟨c0, f0⟩, ⟨c1, f1⟩, c2, f2⟩ := (unhid BN4).1))
  all_goals
    go_wp2_with fail
    refine bodyPost_ret (v := .tuple #[.agg #[.string x, .int .i64 k, .string v], .string nm, .string ver]) (by simp [results, Try.results20, go_sem, World.cell?_setCell_same', c0, c1, c2]) rfl ⟨x, v, nm, ver, k, rfl, hx, hv, hnm, hver, ?_⟩
    exact ((((Below.refl _ w).alloc (Nat.le_refl _) _).trans ((unhid BN4).2.2.1.mono (Nat.le_succ _))).setCell (Nat.le_refl _) _ |>.setCell (Nat.le_refl _) _).setCell (Nat.le_refl _) _
end Go.Proofs.Ytobalkbddefaiaa
