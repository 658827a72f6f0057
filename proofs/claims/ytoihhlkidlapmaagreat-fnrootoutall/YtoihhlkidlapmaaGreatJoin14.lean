/- Texts of this proof, one behind the other; each says at its head what it shows. -/
import Derived.Test.YtoihhlkidlapmaaGreatJoin11
import Derived.Test.YtoihhlkidlapmaaGreatJoin13
import Derived.Deep.RegionWith
import Derived.Test.YtoihhlkidlapmaaGreatJoin12
import Derived.Test.YtoihhlkidlapmaaGreatJoin5
import Derived.Test.YtoihhlkidlapmaaGreatJoin10
namespace Go.Proofs.YtoihhlkidlapmaaGreat
open Go.RowKit
theorem grown_set {x y : World} {b : Nat} (h : x.grownBy y (some b)) {p : Addr} (hp : x.heap.size ≤ p.block) (v : Value) : x.grownBy (y.setCell p v) (some b) :=
  ⟨h.os, h.tape, h.output, by simpa using h.size, fun k hk hne => (Below.heap_setCell y p v k (by omega)).trans (h.block k hk hne)⟩
theorem Rd.set {w : World} {b : Nat} {a : Option Addr} {len cap p : Nat} (h : Rd w b a len cap p) {q : Addr} (hq : b < q.block) (v : Value) : Rd (w.setCell q v) b a len cap p where
  c0 := (World.cell?_of_block (w := w) (Below.heap_setCell w q v b (by omega))).trans h.c0
  c1 := (World.cell?_of_block (w := w) (Below.heap_setCell w q v b (by omega))).trans h.c1
  f1 := (World.frozen?_of_block (w := w) (Below.heap_setCell w q v b (by omega))).trans h.f1
  l := h.l
  d := by
    rcases h.d with h0 | ⟨blk, off, ha, hb, hc⟩
    · exact .inl h0
    · refine .inr ⟨blk, off, ha, hb, fun k hk => ?_⟩
      obtain ⟨c, h1, h2⟩ := hc k hk
      exact ⟨c, h1, (World.cell?_of_block (w := w) (Below.heap_setCell w q v blk (by omega))).trans h2⟩
theorem row_short_at (w : World) (cs : Array Value) (t : TypeId) (B : Nat) (hB : B = w.heap.size) (h : cs.toList.all shortV = true) (k : Nat) (hk : k < cs.size) : ∃ x, short x ∧ (w.alloc (.cells cs t)).cell? ⟨B, k, none⟩ = some (.string x) := by
  subst hB; exact row_short w cs t h k hk
theorem NeedAt.far {W : World} {b : Nat} {n : ByteArray} {k : Int} {v : ByteArray} (h : NeedAt W b n k v) {q : Addr} (hq : b ≠ q.block) (x : Value) : NeedAt (W.setCell q x) b n k v := by
  have hb := Below.heap_setCell W q x b hq
  exact ⟨⟨(World.cell?_of_block (w := W) hb).trans h.1.1, (World.frozen?_of_block (w := W) hb).trans h.1.2⟩, ⟨(World.cell?_of_block (w := W) hb).trans h.2.1.1, (World.frozen?_of_block (w := W) hb).trans h.2.1.2⟩, (World.cell?_of_block (w := W) hb).trans h.2.2.1, (World.frozen?_of_block (w := W) hb).trans h.2.2.2⟩
theorem NeedAt.grown {W W' : World} {b c : Nat} {n : ByteArray} {k : Int} {v : ByteArray} (h : NeedAt W c n k v) (hg : W.grownBy W' (some b)) (hc : c < W.heap.size) (hne : c ≠ b) : NeedAt W' c n k v := by
  have hb : W'.heap[c]? = W.heap[c]? := hg.block c hc (fun e => hne (by cases e; rfl))
  exact ⟨⟨(World.cell?_of_block (w := W) hb).trans h.1.1, (World.frozen?_of_block (w := W) hb).trans h.1.2⟩, ⟨(World.cell?_of_block (w := W) hb).trans h.2.1.1, (World.frozen?_of_block (w := W) hb).trans h.2.1.2⟩, (World.cell?_of_block (w := W) hb).trans h.2.2.1, (World.frozen?_of_block (w := W) hb).trans h.2.2.2⟩
set_option maxRecDepth 100000 in
set_option maxHeartbeats 1000000 in
theorem l11Version_any (w : World) (b : Nat) (a : Option Addr) (len cap p : Nat) (h : Rd w b a len cap p) (hp : p ≤ 1048576) :
    Calls Tryz.prog 111 #[.pointer (some ⟨b, 0, none⟩)] w fun e w' => ∃ x, short x ∧ e = .returned (.string x) ∧ Rd w' b a len cap (p + 1) ∧ w.grownBy w' (some b) := by
  have H := hid h
  clear h
  go_enter Tryz.func111, Tryz.ntmps111
  go_wp2_with fail
  have hb := (unhid H).lt
  refine (of_any short _ b a len cap p ?h1 hp w.heap.size 8 8 ?h2 (by omega) (by omega) ?h5).mono ?_
  case h1 => exact (unhid H).alloc _
  case h2 => omega
  case h5 => exact fun k hk => row_short w _ _ (by kernel_rfl) k hk
  rintro e w1 ⟨x, hx, rfl, hR, hG⟩
  have hG' := grown_trans (World.grownBy_alloc w _ (some b)) hG
  have HR := hid hR
  have HG := hid hG'
  clear hR hG hG'
  go_wp2_with fail
  go_ret
  exact ⟨x, hx, rfl, unhid HR, unhid HG⟩
set_option maxRecDepth 100000 in
set_option maxHeartbeats 1000000 in
theorem l11AnyVersion_any (w : World) (b : Nat) (a : Option Addr) (len cap p : Nat) (h : Rd w b a len cap p) (hp : p ≤ 1000000) :
    Calls Tryz.prog 155 #[.pointer (some ⟨b, 0, none⟩)] w fun e w' => ∃ x, short x ∧ e = .returned (.string x) ∧ Rd w' b a len cap (p + 1 + 1) ∧ w.grownBy w' (some b) := by
  have H := hid h
  clear h
  go_enter Tryz.func155, Tryz.ntmps155
  go_wp2_with fail
  refine (pick_any w b a len cap p (unhid H) (by omega) 6 (by omega) (by omega)).mono ?_
  rintro e w1 ⟨r, hr, rfl, hR, hG⟩
  have HR := hid hR
  have HG := hid hG
  clear hR hG
  by_cases h0 : r = 0
  · have h0' : ((r : Int) == 0) = true := by simp [h0]
    go_wp2_with fail
    have hb := (unhid HR).lt
    refine (of_any short _ b a len cap (p + 1) ?h1 (by omega) w1.heap.size 8 8 ?h2 (by omega) (by omega) ?h5).mono ?_
    case h1 => exact (unhid HR).alloc _
    case h2 => omega
    case h5 => exact fun k hk => row_short w1 _ _ (by kernel_rfl) k hk
    rintro e w2 ⟨x, hx, rfl, hR, hG⟩
    have hG' := grown_trans (unhid HG) (grown_trans (World.grownBy_alloc w1 _ (some b)) hG)
    have HR2 := hid hR
    have HG2 := hid hG'
    clear hR hG hG'
    go_wp2_with fail
    go_ret
    exact ⟨x, hx, rfl, unhid HR2, unhid HG2⟩
  · have h0' : ((r : Int) == 0) = false := by rw [beq_eq_false_iff_ne]; omega
    go_wp2_with fail
    refine (l11Version_any w1 b a len cap (p + 1) (unhid HR) (by omega)).mono ?_
    rintro e w2 ⟨x, hx, rfl, hR, hG⟩
    have hG' := grown_trans (unhid HG) hG
    have HR2 := hid hR
    have HG2 := hid hG'
    clear hR hG hG'
    go_wp2_with fail
    go_ret
    exact ⟨x, hx, rfl, unhid HR2, unhid HG2⟩
theorem short_nil : short ⟨#[]⟩ := by unfold short; decide
set_option maxRecDepth 100000 in
set_option maxHeartbeats 2000000 in
theorem l11Need_any (w : World) (b : Nat) (a : Option Addr) (len cap p : Nat) (h : Rd w b a len cap p) (hp : p ≤ 1000000) :
    Calls Tryz.prog 157 #[.pointer (some ⟨b, 0, none⟩)] w fun e w' => ∃ (x v : ByteArray) (k : Int), short x ∧ short v ∧ e = .returned (.agg #[.string x, .int .i64 k, .string v]) ∧ (∃ p', p' ≤ p + 3 ∧ Rd w' b a len cap p') ∧ w.grownBy w' (some b) := by
  have H := hid (h.alloc (.cells #[.string ⟨#[]⟩, .int .i64 0, .string ⟨#[]⟩] 36))
  have hbl := h.lt
  clear h
  go_enter Tryz.func157, Tryz.ntmps157
  go_wp2_with fail
  refine (of_any short _ b a len cap p ?h1 (by omega) (w.heap.size + 1) 4 4 ?h2 (by omega) (by omega) ?h5).mono ?_
  case h1 => exact (unhid H).alloc _
  case h2 => omega
  case h5 => exact fun k hk => row_short_at _ _ _ _ (by simp) (by kernel_rfl) k hk
  rintro e w1 ⟨x, hx, rfl, hR, hG⟩
  have HG := hid (grown_trans (World.grownBy_alloc w (.cells #[.string ⟨#[]⟩, .int .i64 0, .string ⟨#[]⟩] 36) (some b)) (grown_trans (World.grownBy_alloc _ _ (some b)) hG))
  have hz1 : w.heap.size + 2 ≤ w1.heap.size := by have := hG.size; simpa using this
  have HN := hid (((needAt_new w ⟨#[]⟩ 0 ⟨#[]⟩ 36).grown (World.grownBy_alloc _ _ (some b)) (by simp) (by omega)).grown hG (by simp; omega) (by omega))
  have HR := hid hR
  clear hR hG H
  go_wp2_with fail
  refine (pick_any w1 b a len cap (p + 1) (unhid HR) (by omega) 4 (by omega) (by omega)).mono ?_
  rintro e w2 ⟨r, hr, rfl, hR, hG⟩
  have HN2 := hid ((unhid HN).grown hG (by omega) (by omega))
  have HG2 := hid (grown_trans (unhid HG) hG)
  have hz2 : w.heap.size + 2 ≤ w2.heap.size := Nat.le_trans hz1 hG.size
  have HR2 := hid hR
  clear hR hG HN HG HR
  by_cases h0 : r = 0
  · subst h0
    obtain ⟨⟨c0, f0⟩, ⟨c1, f1⟩, c2, f2⟩ := (unhid HN2).grown (World.grownBy_alloc w2 (.cells #[.string x, .int .i64 0, .string ⟨#[]⟩] 36) (some b)) (by omega) (by omega)
    have G := hid (grown_trans (unhid HG2) (World.grownBy_alloc w2 (.cells #[.string x, .int .i64 0, .string ⟨#[]⟩] 36) (some b)))
    have R := hid ((unhid HR2).alloc (.cells #[.string x, .int .i64 0, .string ⟨#[]⟩] 36))
    go_wp2_with fail
    refine bodyPost_ret (v := .agg #[.string x, .int .i64 0, .string ⟨#[]⟩]) (by simp [results, Tryz.results157, go_sem, World.cell?_setCell_same', c0, c1, c2]) rfl ⟨x, ⟨#[]⟩, 0, hx, short_nil, rfl, ⟨_, ?_, (((unhid R).set ?_ _).set ?_ _).set ?_ _⟩, grown_set (grown_set (grown_set (unhid G) (Nat.le_refl _) _) (Nat.le_refl _) _) (Nat.le_refl _) _⟩
    all_goals (try dsimp only); omega
  · have h0' : ((r : Int) != 0) = true := by rw [bne_iff_ne]; omega
    have NN := hid (needAt_new w2 x r ⟨#[]⟩ 36)
    have N0 := hid ((unhid HN2).grown (World.grownBy_alloc w2 (.cells #[.string x, .int .i64 r, .string ⟨#[]⟩] 36) (some b)) (by omega) (by omega))
    have G := hid (grown_trans (unhid HG2) (World.grownBy_alloc w2 (.cells #[.string x, .int .i64 r, .string ⟨#[]⟩] 36) (some b)))
    have R := hid ((unhid HR2).alloc (.cells #[.string x, .int .i64 r, .string ⟨#[]⟩] 36))
    clear HN2 HG2 HR2
    go_wp2_with fail
    refine (l11Version_any _ b a len cap _ (unhid R) (by omega)).mono ?_
    rintro e w3 ⟨v, hv, rfl, hR, hG⟩
    obtain ⟨⟨d0, g0⟩, ⟨d1, g1⟩, d2, g2⟩ := (unhid NN).grown hG (by simp) (by omega)
    have hN3 := (unhid N0).grown hG (by simp; omega) (by omega)
    obtain ⟨⟨c0, f0⟩, ⟨c1, f1⟩, c2, f2⟩ := hN3
    have G3 := hid (grown_trans (unhid G) hG)
    have R3 := hid hR
    have hz3 : w.heap.size + 3 ≤ w3.heap.size := by have := hG.size; simp at this; omega
    clear hG hR NN N0 G R
    have hne : ∀ i j, (⟨w2.heap.size, i, none⟩ : Addr) ≠ ⟨w.heap.size, j, none⟩ := fun i j e => by have := congrArg Addr.block e; simp at this; omega
    have hne' : ¬ w2.heap.size = w.heap.size := by omega
    have hne2 : ¬ w.heap.size = w2.heap.size := by omega
    go_wp2_with fail
    refine bodyPost_ret (v := .agg #[.string x, .int .i64 r, .string v]) (by simp [results, Tryz.results157, go_sem, World.cell?_setCell_same', c0, c1, c2]) rfl ⟨x, v, r, hx, hv, rfl, ⟨_, ?_, ((((unhid R3).set ?_ _).set ?_ _).set ?_ _).set ?_ _⟩, grown_set (grown_set (grown_set (grown_set (unhid G3) ?_ _) (Nat.le_refl _) _) (Nat.le_refl _) _) (Nat.le_refl _) _⟩
    all_goals (try dsimp only); omega
set_option maxRecDepth 100000 in
set_option maxHeartbeats 4000000 in
theorem l11AnyNeed_any (w : World) (b : Nat) (a : Option Addr) (len cap p : Nat) (h : Rd w b a len cap p) (hp : p ≤ 900000) :
    Calls Tryz.prog 156 #[.pointer (some ⟨b, 0, none⟩)] w fun e w' => ∃ (x v : ByteArray) (k : Int), short x ∧ short v ∧ e = .returned (.agg #[.string x, .int .i64 k, .string v]) ∧ (∃ p', p' ≤ p + 6 ∧ Rd w' b a len cap p') ∧ w.grownBy w' (some b) := by
  have H := hid (h.alloc (.cells #[.string ⟨#[]⟩, .int .i64 0, .string ⟨#[]⟩] 36))
  have hbl := h.lt
  clear h
  go_enter Tryz.func156, Tryz.ntmps156
  go_wp2_with fail
  refine (l11Need_any _ b a len cap p (unhid H) (by omega)).mono ?_
  rintro e w1 ⟨x, v, k, hx, hv, rfl, ⟨p1, hp1, hR⟩, hG⟩
  have hz1 : w.heap.size + 1 ≤ w1.heap.size := by have := hG.size; simpa using this
  have N0 := hid (((needAt_new w ⟨#[]⟩ 0 ⟨#[]⟩ 36).grown hG (by simp) (by omega)).grown (World.grownBy_alloc w1 (.cells #[.string x, .int .i64 k, .string v] 36) (some b)) (by omega) (by omega))
  have NN := hid (needAt_new w1 x k v 36)
  have G := hid (grown_trans (grown_trans (World.grownBy_alloc w _ (some b)) hG) (World.grownBy_alloc w1 (.cells #[.string x, .int .i64 k, .string v] 36) (some b)))
  have R := hid (hR.alloc (.cells #[.string x, .int .i64 k, .string v] 36))
  clear hR hG H
  go_wp2_with fail
  refine (pick_any _ b a len cap p1 (unhid R) (by omega) 14 (by omega) (by omega)).mono ?_
  rintro e w2 ⟨r, hr, rfl, hR, hG⟩
  have N0' := hid ((unhid N0).grown hG (by simp; omega) (by omega))
  have NN' := hid ((unhid NN).grown hG (by simp) (by omega))
  have G2 := hid (grown_trans (unhid G) hG)
  have R2 := hid hR
  have hz2 : w1.heap.size + 1 ≤ w2.heap.size := by have := hG.size; simpa using this
  clear hG hR N0 NN G R
  have hne' : ¬ w1.heap.size = w.heap.size := by omega
  have hne2 : ¬ w.heap.size = w1.heap.size := by omega
  by_cases h0 : r = 0
  · subst h0
    go_wp2_with fail
    refine (of_any short _ b a len cap (p1 + 1) ?h1 (by omega) w2.heap.size 4 4 ?h2 (by omega) (by omega) ?h5).mono ?_
    case h1 => exact (unhid R2).alloc _
    case h2 => omega
    case h5 => exact fun k hk => row_short_at _ _ _ _ (by simp) (by kernel_rfl) k hk
    rintro e w3 ⟨y, hy, rfl, hR, hG0⟩
    have hG := grown_trans (World.grownBy_alloc w2 _ (some b)) hG0
    obtain ⟨⟨d0, g0⟩, ⟨d1, g1⟩, d2, g2⟩ := (unhid NN').grown hG (by omega) (by omega)
    obtain ⟨⟨c0, f0⟩, ⟨c1, f1⟩, c2, f2⟩ := (unhid N0').grown hG (by omega) (by omega)
    have G3 := hid (grown_trans (unhid G2) hG)
    have R3 := hid hR
    clear hG hG0 hR NN' N0' G2 R2
    go_wp2_with fail
    refine bodyPost_ret (v := .agg #[.string y, .int .i64 k, .string v]) (by simp [results, Tryz.results156, go_sem, World.cell?_setCell_same', c0, c1, c2]) rfl ⟨y, v, k, hy, hv, rfl, ⟨_, ?_, ((((unhid R3).set ?_ _).set ?_ _).set ?_ _).set ?_ _⟩, grown_set (grown_set (grown_set (grown_set (unhid G3) ?_ _) (Nat.le_refl _) _) (Nat.le_refl _) _) (Nat.le_refl _) _⟩
    all_goals (try dsimp only); omega
  · by_cases h1 : r = 1
    · subst h1
      go_wp2_with fail
      refine (pick_any _ b a len cap _ (unhid R2) (by omega) 6 (by omega) (by omega)).mono ?_
      rintro e w3 ⟨q, hq, rfl, hR, hG⟩
      obtain ⟨⟨d0, g0⟩, ⟨d1, g1⟩, d2, g2⟩ := (unhid NN').grown hG (by omega) (by omega)
      obtain ⟨⟨c0, f0⟩, ⟨c1, f1⟩, c2, f2⟩ := (unhid N0').grown hG (by omega) (by omega)
      have G3 := hid (grown_trans (unhid G2) hG)
      have R3 := hid hR
      clear hG hR NN' N0' G2 R2
      go_wp2_with fail
      refine bodyPost_ret (v := .agg #[.string x, .int .i64 ((q : Int) - 1), .string v]) (by simp [results, Tryz.results156, go_sem, World.cell?_setCell_same', c0, c1, c2]) rfl ⟨x, v, (q : Int) - 1, hx, hv, rfl, ⟨_, ?_, ((((unhid R3).set ?_ _).set ?_ _).set ?_ _).set ?_ _⟩, grown_set (grown_set (grown_set (grown_set (unhid G3) ?_ _) (Nat.le_refl _) _) (Nat.le_refl _) _) (Nat.le_refl _) _⟩
      all_goals (try dsimp only); omega
    · by_cases h2 : r = 2
      · subst h2
        go_wp2_with fail
        refine (l11AnyVersion_any _ b a len cap _ (unhid R2) (by omega)).mono ?_
        rintro e w3 ⟨y, hy, rfl, hR, hG⟩
        obtain ⟨⟨d0, g0⟩, ⟨d1, g1⟩, d2, g2⟩ := (unhid NN').grown hG (by omega) (by omega)
        obtain ⟨⟨c0, f0⟩, ⟨c1, f1⟩, c2, f2⟩ := (unhid N0').grown hG (by omega) (by omega)
        have G3 := hid (grown_trans (unhid G2) hG)
        have R3 := hid hR
        clear hG hR NN' N0' G2 R2
        go_wp2_with fail
        refine bodyPost_ret (v := .agg #[.string x, .int .i64 k, .string y]) (by simp [results, Tryz.results156, go_sem, World.cell?_setCell_same', c0, c1, c2]) rfl ⟨x, y, k, hx, hy, rfl, ⟨_, ?_, ((((unhid R3).set ?_ _).set ?_ _).set ?_ _).set ?_ _⟩, grown_set (grown_set (grown_set (grown_set (unhid G3) ?_ _) (Nat.le_refl _) _) (Nat.le_refl _) _) (Nat.le_refl _) _⟩
        all_goals (try dsimp only); omega
      · have b0 : ((r : Int) == 0) = false := by rw [beq_eq_false_iff_ne]; omega
        have b1 : ((r : Int) == 1) = false := by rw [beq_eq_false_iff_ne]; omega
        have b2 : ((r : Int) == 2) = false := by rw [beq_eq_false_iff_ne]; omega
        obtain ⟨⟨d0, g0⟩, ⟨d1, g1⟩, d2, g2⟩ := unhid NN'
        obtain ⟨⟨c0, f0⟩, ⟨c1, f1⟩, c2, f2⟩ := unhid N0'
        go_wp2_with fail
        refine bodyPost_ret (v := .agg #[.string x, .int .i64 k, .string v]) (by simp [results, Tryz.results156, go_sem, World.cell?_setCell_same', c0, c1, c2]) rfl ⟨x, v, k, hx, hv, rfl, ⟨_, ?_, (((unhid R2).set ?_ _).set ?_ _).set ?_ _⟩, grown_set (grown_set (grown_set (unhid G2) (Nat.le_refl _) _) (Nat.le_refl _) _) (Nat.le_refl _) _⟩
        all_goals (try dsimp only); omega
end Go.Proofs.YtoihhlkidlapmaaGreat

namespace Go.Proofs.YtoihhlkidlapmaaGreat
open Go.RowKit Go.Shelf
def drawnB (l : List UInt8) : Bool := [[111, 110, 101], [116, 119, 111], [116, 104, 114, 101, 101], [122, 105, 112], [], [79, 110, 101]].contains l
def drawnV : Value → Bool
  | .string x => drawnB x.data.toList
  | _ => false
def drawn (x : ByteArray) : Prop := drawnB x.data.toList = true
theorem row_drawn (w : World) (cs : Array Value) (t : TypeId) (B : Nat) (hB : B = w.heap.size) (h : cs.toList.all drawnV = true) (k : Nat) (hk : k < cs.size) : ∃ x, drawn x ∧ (w.alloc (.cells cs t)).cell? ⟨B, k, none⟩ = some (.string x) := by
  subst hB
  have hv := List.all_eq_true.1 h cs[k] (by simp)
  have hc := cell_arrS (World.alloc_heap_new w (.cells cs t)) k cs[k] (Array.getElem?_eq_getElem hk)
  revert hv hc
  generalize cs[k] = v
  intro hv hc
  cases v <;> first | (cases hv; done) | skip
  exact ⟨_, hv, hc⟩
theorem drawn_short {x : ByteArray} (h : drawn x) : x.size ≤ 100 := by
  unfold drawn drawnB at h
  have : x.size = x.data.toList.length := by rw [Array.length_toList]; rfl
  rw [this]
  simp only [List.contains_eq_mem, List.mem_cons, List.not_mem_nil, or_false, decide_eq_true_eq] at h
  rcases h with h | h | h | h | h | h <;> rw [h] <;> decide
theorem nrow_own2 {K : CK} {ty : Nat} {W : World} {N : Nat} {v : Value} {L : List (It K)} (h : NRow K ty W N v L) : ∃ F, rowOwn K ty W v (itD L) F ∧ ∀ k ∈ F, v.ownBlock = some k ∨ k ∈ itF L := by
  rcases h.row.2 with ⟨rfl, h0⟩ | ⟨g, cap, cur, hv, hN, hg, hc, _, hsz, hcells⟩
  · have : L = [] := List.length_eq_zero_iff.1 h0
    subst this
    exact ⟨[], .inl ⟨rfl, rfl, none, 0, rfl, fun _ => rfl⟩, fun k hk => by cases hk⟩
  · have hF : (L.map (fun t => t.2.2)).flatten = itF L := by simp [itF, List.flatMap]
    have hap : g ∉ itF L := h.apart g (by rw [hv]; rfl)
    refine ⟨g :: itF L, .inr ⟨g, cap, cur, L.map (fun t => t.2.2), by rw [itD_len]; exact hv, by rw [itD_len]; exact hc, by rw [hF], List.nodup_cons.2 ⟨hap, h.items.nodup⟩, ⟨hg, by rw [itD_len, hsz]; exact Nat.mul_le_mul_right _ hc, by rw [itD_len, List.length_map], fun i d hi => ?_⟩⟩, fun k hk => ?_⟩
    · unfold itD at hi
      rw [List.getElem?_map] at hi
      cases ht : L[i]? with
      | none => rw [ht] at hi; cases hi
      | some t =>
        rw [ht] at hi
        simp at hi
        subst hi
        have hm : t ∈ L := List.mem_of_getElem? ht
        have hown := h.items.each t hm
        refine ⟨t.1, t.2.2, by rw [List.getElem?_map, ht]; rfl, fun j c hj => ?_, hown⟩
        have hjn : j < K.n := by rw [← K.len hown]; exact (List.getElem?_eq_some_iff.1 hj).1
        have h1 := itCells_get (fun t ht => K.len (h.items.each t ht)) i t ht j hjn
        rw [hj, ← hcells] at h1
        have hil : i < L.length := (List.getElem?_eq_some_iff.1 ht).1
        have : (i + 1) * K.n ≤ L.length * K.n := Nat.mul_le_mul_right _ hil
        rw [Nat.add_mul, Nat.one_mul] at this
        rw [List.getElem?_take_of_lt (by omega), Array.getElem?_toList] at h1
        exact h1
    · rcases List.mem_cons.1 hk with rfl | hk
      · exact .inl (by rw [hv]; rfl)
      · exact .inr hk
def entIt (e : Ent) : It entryC := ([.string e.path, .int .i64 e.kind, .int .i64 e.mode, .string e.text], dEnt e, [])
def entIts (es : List Ent) : List (It entryC) := es.map entIt
theorem entIts_len (es : List Ent) : (entIts es).length = es.length := List.length_map _
theorem entIts_D (es : List Ent) : itD (entIts es) = dEnts es := by
  unfold itD entIts dEnts
  rw [List.map_map]; rfl
theorem entIts_F : ∀ es : List Ent, itF (entIts es) = []
  | [] => rfl
  | e :: es => by
    have := entIts_F es
    show [] ++ itF (entIts es) = []
    rw [this]; rfl
theorem entIts_cells : ∀ es : List Ent, itCells (entIts es) = valsOf es
  | [] => rfl
  | e :: es => by
    have := entIts_cells es
    show [.string e.path, .int .i64 e.kind, .int .i64 e.mode, .string e.text] ++ itCells (entIts es) = _
    rw [this]
    simp [valsOf, Ent.vals]
theorem ents_nrow {W : World} {N : Nat} {v : Value} {es : List Ent} (h : W.ownsRow N 57 4 v es.length (valsOf es)) : NRow entryC 57 W N v (entIts es) :=
  ⟨by rw [entIts_len, entIts_cells]; exact h, ⟨fun t ht => by
    unfold entIts at ht
    obtain ⟨e, _, rfl⟩ := List.mem_map.1 ht
    exact entryC_mk ⟨rfl, rfl⟩, by rw [entIts_F]; exact List.nodup_nil, by rw [entIts_F]; exact fun k hk => by cases hk⟩, by rw [entIts_F]; exact fun g _ hk => by cases hk⟩
structure DK (W : World) (N : Nat) (nv : Value) (nL : List (It needC)) (tv : Value) (es : List Ent) : Prop where
  needs : NRow needC 36 W N nv nL
  tree : NRow entryC 57 W N tv (entIts es)
  leaf : itF nL = []
  apart : ∀ g, nv.ownBlock = some g → tv.ownBlock = some g → False
theorem DK.frame {W W' : World} {N : Nat} {nv tv : Value} {nL : List (It needC)} {es : List Ent} (h : DK W N nv nL tv es) (hk : ∀ k, N ≤ k → k < W.heap.size → W'.heap[k]? = W.heap[k]?) : DK W' N nv nL tv es :=
  ⟨h.needs.frame (fun k hm => hk k (h.needs.base k hm).1 (h.needs.base k hm).2), h.tree.frame (fun k hm => hk k (h.tree.base k hm).1 (h.tree.base k hm).2), h.leaf, h.apart⟩
theorem DK.own {W : World} {N : Nat} {nv tv : Value} {nL : List (It needC)} {es : List Ent} (h : DK W N nv nL tv es) (name ver : ByteArray) : ∃ F, packC.own W [.string name, .string ver, nv, tv] (⟨name, ver, itD nL, dEnts es⟩ : PackD) F ∧ ∀ k ∈ F, N ≤ k ∧ k < W.heap.size := by
  obtain ⟨F2, o2, f2⟩ := nrow_own2 h.needs
  obtain ⟨F3, o3, f3⟩ := nrow_own2 h.tree
  rw [entIts_D] at o3
  refine ⟨F2 ++ F3, packC_mk ⟨nv, tv, F2, F3, rfl, rfl, o2, o3, fun k h2 h3 => ?_⟩, fun k hk => ?_⟩
  · have a2 := f2 k h2
    have a3 := f3 k h3
    rw [h.leaf] at a2
    rw [entIts_F] at a3
    rcases a2 with a2 | a2
    · rcases a3 with a3 | a3
      · exact h.apart k a2 a3
      · cases a3
    · cases a2
  · rcases List.mem_append.1 hk with hk | hk
    · exact h.needs.base k (f2 k hk)
    · exact h.tree.base k (f3 k hk)
structure DQ (w : World) (b : Nat) (a : Option Addr) (len cap q : Nat) (W : World) (ver : ByteArray) (nv : Value) (nL : List (It needC)) (tv : Value) (es : List Ent) : Prop where
  ver : short ver
  k : DK W (w.heap.size + 1) nv nL tv es
  nice : ∀ e ∈ es, niceE e
  few : es.length ≤ 17
  sn : ∀ n ∈ itD nL, (NeedD.name n).size ≤ 100 ∧ (NeedD.version n).size ≤ 100
  ln : nL.length ≤ 5
  rd : ∃ p', p' ≤ q ∧ Rd W b a len cap p'
  grown : w.grownBy W (some b)
theorem slice_of_owns {W : World} {N : Nat} {v : Value} {es : List Ent} (h : W.ownsRow N 57 4 v es.length (valsOf es)) : ∃ a c, v = .slice a es.length c := by
  rcases h.2 with ⟨rfl, h0⟩ | ⟨g, cap, cur, rfl, _⟩
  · exact ⟨none, 0, by rw [h0]⟩
  · exact ⟨_, cap, rfl⟩
theorem sets4_off (w : World) (g : Nat) (v0 v1 v2 v3 : Value) (k : Nat) (h : k ≠ g) : ((((w.setCell ⟨g, 0, none⟩ v0).setCell ⟨g, 1, none⟩ v1).setCell ⟨g, 2, none⟩ v2).setCell ⟨g, 3, none⟩ v3).heap[k]? = w.heap[k]? := setsW_off [v0, v1, v2, v3] w g 0 k h
theorem dq_end {w : World} {b : Nat} {a : Option Addr} {len cap q p' : Nat} {W : World} {ver : ByteArray} {nv tv : Value} {nL : List (It needC)} {es : List Ent} (v0 v1 v2 v3 : Value) (hbl : b < w.heap.size) (hv : short ver) (hk : DK W (w.heap.size + 1) nv nL tv es) (hn : ∀ e ∈ es, niceE e) (hf : es.length ≤ 17)
    (hs : ∀ n ∈ itD nL, (NeedD.name n).size ≤ 100 ∧ (NeedD.version n).size ≤ 100) (hl : nL.length ≤ 5) (hR : Rd W b a len cap p') (hp : p' ≤ q) (hg : w.grownBy W (some b)) :
    DQ w b a len cap q (((((W.setCell ⟨w.heap.size, 0, none⟩ v0).setCell ⟨w.heap.size, 1, none⟩ v1).setCell ⟨w.heap.size, 2, none⟩ v2).setCell ⟨w.heap.size, 3, none⟩ v3)) ver nv nL tv es := by
  have hB : Below w.heap.size W (((((W.setCell ⟨w.heap.size, 0, none⟩ v0).setCell ⟨w.heap.size, 1, none⟩ v1).setCell ⟨w.heap.size, 2, none⟩ v2).setCell ⟨w.heap.size, 3, none⟩ v3)) := setsW_below [v0, v1, v2, v3] W W w.heap.size w.heap.size 0 (Below.refl _ _) (Nat.le_refl _)
  exact ⟨hv, hk.frame (fun k h1 _ => sets4_off W _ v0 v1 v2 v3 k (by omega)), hn, hf, hs, hl, ⟨p', hp, Rd.low hR hB hbl⟩, grown_low hg hB⟩
theorem need_items (W : World) (N : Nat) (x v : ByteArray) (k : Int) : Items needC W N [(([.string x, .int .i64 k, .string v], (⟨x, k, v⟩ : NeedD), []) : It needC)] :=
  ⟨fun t ht => by rcases List.mem_singleton.1 ht with rfl; exact needC_mk ⟨rfl, rfl⟩, by simp [itF], fun k hk => by simp [itF] at hk⟩
set_option maxRecDepth 100000 in
set_option maxHeartbeats 8000000 in
theorem l11Pack_any (w : World) (b : Nat) (a : Option Addr) (len cap p : Nat) (name : ByteArray) (h : Rd w b a len cap p) (hp : p ≤ 500000) :
    Calls Tryz.prog 154 #[.pointer (some ⟨b, 0, none⟩), .string name] w fun x w' => ∃ ver nv nL tv es, x = .returned (.agg #[.string name, .string ver, nv, tv]) ∧ DQ w b a len cap (p + 60) w' ver nv nL tv es ∧ nL.length ≤ 1 := by
  have hbl := h.lt
  have H := hid (h.alloc (.cells #[.string ⟨#[]⟩, .string ⟨#[]⟩, .slice none 0 0, .slice none 0 0] 34))
  have hR0 := World.alloc_heap_new w (.cells #[.string ⟨#[]⟩, .string ⟨#[]⟩, .slice none 0 0, .slice none 0 0] 34)
  have hG0 : w.grownBy (w.alloc (.cells #[.string ⟨#[]⟩, .string ⟨#[]⟩, .slice none 0 0, .slice none 0 0] 34)) (some b) := World.grownBy_alloc w _ (some b)
  have hS0 : w.heap.size + 1 ≤ (w.alloc (.cells #[.string ⟨#[]⟩, .string ⟨#[]⟩, .slice none 0 0, .slice none 0 0] 34)).heap.size := by simp
  clear h
  go_enter Tryz.func154, Tryz.ntmps154
  go_wp2_with fail
  generalize w.alloc (.cells #[.string ⟨#[]⟩, .string ⟨#[]⟩, .slice none 0 0, .slice none 0 0] 34) = w0 at H hR0 hG0 hS0 ⊢
  refine (l11Version_any w0 b a len cap p (unhid H) (by omega)).mono ?_
  rintro e w1 ⟨ver, hver, rfl, hR, hG⟩
  have hR1 := (hG.block _ (by omega) (by intro e; injection e; omega)).trans hR0
  have hS1 := Nat.le_trans hS0 hG.size
  have hG1 := grown_trans hG0 hG
  clear hR0 hG0 hS0 hG
  go_wp2_with fail
  refine (l11Tree_any w1 b a len cap (p + 1) hR (by omega)).mono ?_
  rintro x w2 ⟨v, rfl, es, hT⟩
  have hTn := hT.nice
  have hTf := hT.few
  obtain ⟨p2, hp2, hR2⟩ := hT.rd
  have HTV := hid hT.v
  obtain ⟨g, c, rfl, ho⟩ := hT.v
  have hRb2 := (hT.grown.block _ (by omega) (by intro e; injection e; omega)).trans hR1
  have hS2 := Nat.le_trans hS1 hT.grown.size
  have hG2 := grown_trans hG1 hT.grown
  have hbw1 := hR.lt
  have hw12 := hT.grown.size
  clear hR hT hG1 hR1 ho
  go_wp2_with fail
  refine (of_any short _ b a len cap p2 (hR2.alloc _) (by omega) w2.heap.size 5 5 (by have := hR2.lt; omega) (by omega) (by omega) ?h5).mono ?_
  case h5 => exact fun k hk => row_short_at _ _ _ _ rfl (by kernel_rfl) k hk
  rintro e w3 ⟨pat, hpat, rfl, hR3, hG⟩
  have hG23 := grown_trans (World.grownBy_alloc w2 _ (some b)) hG
  have hRb3 := (hG23.block _ (by omega) (by intro e; injection e; omega)).trans hRb2
  have hS3 := Nat.le_trans hS2 hG23.size
  have hG3 := grown_trans hG2 hG23
  have hTV3 := (unhid HTV).grown hG23 hbw1
  obtain ⟨g', c', hv, ho⟩ := hTV3
  cases hv
  obtain ⟨e1, e2, e3, e4⟩ := TreeV.ents ho
  have JN := hid (specTreePart_any es pat g 0 c w3 ⟨by omega, fun e he => ⟨by have := nice_short (hTn e he).1; omega, by have : e.text.size ≤ 100 := (hTn e he).2; omega⟩⟩ (by have : pat.size ≤ 100 := hpat; omega) e1 e2)
  clear hG hG23 hG2 hRb2 hS2 HTV ho e1 e2 e3 e4
  go_wp2_with fail
  refine (unhid JN).mono ?_
  rintro x w4 ⟨tv, rfl, ho4, hB4⟩
  obtain ⟨ta, tc, rfl⟩ := slice_of_owns ho4
  have hT4 : NRow entryC 57 w4 (w.heap.size + 1) (.slice ta (partR pat es).length tc) (entIts (partR pat es)) := NRow.lower (ents_nrow ho4) hS3
  have hR4 := hR3.of_below hB4
  have hRb4 := (hB4.block _ (by omega)).trans hRb3
  have hS4 := Nat.le_trans hS3 hB4.size
  have hG4 := grown_low hG3 (hB4.mono hG3.size)
  have HT4 := hid hT4
  have HTW := hid (fun k (e : (Value.slice ta (partR pat es).length tc).ownBlock = some k) => (hT4.base k (.inl e)).2)
  have HP := hid (And.intro (fun e (he : e ∈ partR pat es) => hTn e (part_sub he)) (Nat.le_trans (part_le pat es) hTf))
  clear JN hB4 hRb3 hS3 hG3 hR3 ho4 hT4 hTn hTf
  generalize partR pat es = ts at *
  go_wp2_with fail
  have hP4 := World.alloc_heap_new w4 (.cells #[.string name, .string ver, .slice none 0 0, .slice ta ts.length tc] 34)
  have hG5 : w4.grownBy (w4.alloc (.cells #[.string name, .string ver, .slice none 0 0, .slice ta ts.length tc] 34)) (some b) := World.grownBy_alloc w4 _ (some b)
  have hR5 := hR4.alloc (.cells #[.string name, .string ver, .slice none 0 0, .slice ta ts.length tc] 34)
  have hz5 : w4.heap.size + 1 ≤ (w4.alloc (.cells #[.string name, .string ver, .slice none 0 0, .slice ta ts.length tc] 34)).heap.size := by simp
  generalize w4.alloc (.cells #[.string name, .string ver, .slice none 0 0, .slice ta ts.length tc] 34) = w5 at hP4 hG5 hR5 hz5 ⊢
  refine (pick_any w5 b a len cap (p2 + 1) hR5 (by omega) 3 (by omega) (by omega)).mono ?_
  rintro e w6 ⟨m, hm, rfl, hR6, hG6⟩
  have hG46 := grown_trans hG5 hG6
  have hP6 := (hG6.block w4.heap.size (by omega) (by intro e; injection e; omega)).trans hP4
  have hRb6 := (hG46.block _ (by omega) (by intro e; injection e; omega)).trans hRb4
  have hz6 : w4.heap.size + 1 ≤ w6.heap.size := Nat.le_trans hz5 hG6.size
  have hG := grown_trans hG4 hG46
  have hT6 : NRow entryC 57 w6 (w.heap.size + 1) (.slice ta ts.length tc) (entIts ts) := (unhid HT4).frame (fun k hk => by
    have hb1 := (unhid HT4).base k hk
    exact hG46.block k hb1.2 (by intro e; injection e; omega))
  have HT6 := hid hT6
  clear hP4 hG5 hR5 hz5 hG6 hG46 hG4 hRb4 hR4 HT4 hT6
  obtain ⟨o0, r0⟩ := cell_fz hRb6 0 _ rfl
  obtain ⟨o1, r1⟩ := cell_fz hRb6 1 _ rfl
  obtain ⟨o2, r2⟩ := cell_fz hRb6 2 _ rfl
  obtain ⟨o3, r3⟩ := cell_fz hRb6 3 _ rfl
  have hne : ¬ w4.heap.size = w.heap.size := by omega
  have hne2 : ¬ w.heap.size = w4.heap.size := by omega
  by_cases h0 : m = 0
  · subst h0
    have hC0 : (fun w' => w6.grownBy w' (some b)) w6.drew := ⟨rfl, rfl, rfl, Nat.le_refl _, fun _ _ _ => rfl⟩
    have gp2 : ∀ x : CW (fun w' => w6.grownBy w' (some b)), x.w.cell? ⟨w4.heap.size, 2, none⟩ = some (.slice none 0 0) := fun x => cell_arrS ((x.h.block w4.heap.size (by omega) (by intro e; injection e; omega)).trans hP6) 2 _ rfl
    have hba : ∀ {q : Prop}, (CW (fun w' => w6.grownBy w' (some b)) → q) ↔ q := CW.all hC0
    go_wp2_with fail
    refine heldE_begin 7 (fun w' => w6.grownBy w' (some b)) (by kernel_rfl) ?_
    refine heldE_here [true, true, true] (by kernel_rfl) (by kernel_rfl) (fun _ _ _ _ _ h => h) hC0 ?_
    dsimp only [pick]
    repeat (go_big_quiet_step (fail))
    refine wpQuiet_nil ?_
    have hR7 := hR6.of_below (drew_belowS (B := w6.heap.size) w6)
    clear hba gp2 o0 r0 o1 r1 o2 r2 o3 r3 hR6
    generalize w6.drew = w7 at hC0 hR7 ⊢
    refine heldE_op 3 (by kernel_rfl) (by kernel_rfl) rfl (fun K hK => ?_)
    refine call_op 157 22 (enters_of Tryz.func157 (by kernel_rfl) rfl) #[.pointer (some ⟨b, 0, none⟩)] rfl rfl rfl rfl ?_
    refine (l11Need_any w7 b a len cap _ hR7 (by omega)).mono ?_
    rintro e w8 ⟨nx, nv, nk, hnx, hnv, rfl, ⟨p8, hp8, hR8⟩, hG8⟩
    have hC8 : w6.grownBy w8 (some b) := grown_trans hC0 hG8
    refine ⟨_, rfl, hK.out _ _ hC8 ?_⟩
    simp only [Act.put, List.setIfInBounds_toArray, List.set_cons_zero, List.set_cons_succ]
    clear hK K hC0 hR7 hG8
    have hz8 := hC8.size
    refine heldE_op 4 (by kernel_rfl) (by kernel_rfl) rfl (fun K hK => ?_)
    go_simp
    have hN9 := World.alloc_heap_new w8 (.cells #[.string nx, .int .i64 nk, .string nv] 36)
    have hG9 : w8.grownBy (w8.alloc (.cells #[.string nx, .int .i64 nk, .string nv] 36)) (some b) := World.grownBy_alloc w8 _ (some b)
    have hR9 := hR8.alloc (.cells #[.string nx, .int .i64 nk, .string nv] 36)
    have hz9 : w8.heap.size + 1 ≤ (w8.alloc (.cells #[.string nx, .int .i64 nk, .string nv] 36)).heap.size := by simp
    refine hK.out _ _ (grown_trans hC8 hG9) ?_
    clear hK K
    generalize w8.alloc (.cells #[.string nx, .int .i64 nk, .string nv] 36) = w9 at hN9 hG9 hR9 hz9 ⊢
    have hC9 := grown_trans hC8 hG9
    refine heldE_op 5 (by kernel_rfl) (by kernel_rfl) rfl (fun K hK => ?_)
    refine op_items etNeed oneNeed w9 24 _ _ rfl rfl rfl w6.heap.size (.slice none 0 0) [] [(([.string nx, .int .i64 nk, .string nv], (⟨nx, nk, nv⟩ : NeedD), []) : It needC)] w8.heap.size 0 1 (NRow.none w9 _) (need_items w9 _ nx nv nk) (fun g e => by cases e) (fun j u hj => by rw [Nat.zero_add]; exact cell_arrS hN9 _ _ (by simpa [itCells] using hj)) (by simp) (by omega) rfl (by simp [Act.eval]) ?_
    intro nw wA hgr
    have hgA : w9.grownBy wA none := hgr.by_
    have hCA : w6.grownBy wA (some b) := grown_trans hC9 ⟨hgA.os, hgA.tape, hgA.output, hgA.size, fun k hk _ => hgA.block k hk (by intro e; cases e)⟩
    have hRA := hR9.of_below ⟨hgA.os, hgA.tape, hgA.output, hgA.size, fun k hk => hgA.block k hk (by intro e; cases e)⟩
    refine hK.out _ _ hCA ?_
    simp only [Act.put, List.setIfInBounds_toArray, List.set_cons_zero, List.set_cons_succ]
    clear hK K
    have hba : ∀ {q : Prop}, (CW (fun w' => w6.grownBy w' (some b)) → q) ↔ q := CW.all hCA
    refine heldE_here [false, false, false, false, false, false, true] (by kernel_rfl) (by kernel_rfl) (fun _ _ _ _ _ h => h) hCA ?_
    dsimp only [pick]
    repeat (go_big_quiet_step (fail))
    refine wpQuiet_nil ?_
    clear hba
    have hPA := (hCA.block w4.heap.size (by omega) (by intro e; injection e; omega)).trans hP6
    have hRbA := (hCA.block w.heap.size (by omega) (by intro e; injection e; omega)).trans hRb6
    obtain ⟨na, nn, nc, rfl⟩ : ∃ a n c, nw = .slice a n c := by obtain ⟨a, c, e⟩ := grew_slice hgr; exact ⟨_, _, _, e⟩
    obtain ⟨c2, f2⟩ := cell_fz hPA 2 _ rfl
    have hNr := hgr.row
    have hnb : ∀ g, (Value.slice na nn nc).ownBlock = some g → w6.heap.size ≤ g ∧ g < wA.heap.size := fun g e => hNr.base g (.inl e)
    have hTA : NRow entryC 57 wA (w.heap.size + 1) (.slice ta ts.length tc) (entIts ts) := (unhid HT6).frame (fun k hk => by
      have hb1 := (unhid HT6).base k hk
      exact hCA.block k hb1.2 (by intro e; injection e; omega))
    have HT7 := hid (fun g (e : (Value.slice ta ts.length tc).ownBlock = some g) => ((unhid HT6).base g (.inl e)).2)
    have HTA := hid hTA
    have HNR := hid hNr
    have HNB := hid hnb
    have HGR := hid (grown_trans hG hCA)
    have HRA := hid hRA
    have hzA : w4.heap.size + 1 ≤ wA.heap.size := Nat.le_trans hz6 hCA.size
    refine heldE_last (by kernel_rfl) (by kernel_rfl) rfl (fun K hK => ?_)
    go_simp
    refine hK.out _ _ ?_
    clear hK K c2 f2
    refine heldE_done (by kernel_rfl) ?_
    have hPB := heap_setCell_same wA w4.heap.size 2 _ _ (.slice na nn nc) hPA
    have hRbB := (Below.heap_setCell wA ⟨w4.heap.size, 2, none⟩ (.slice na nn nc) w.heap.size (by dsimp only; omega)).trans hRbA
    have hoff : ∀ k, k ≠ w4.heap.size → (wA.setCell ⟨w4.heap.size, 2, none⟩ (.slice na nn nc)).heap[k]? = wA.heap[k]? := fun k hk => Below.heap_setCell _ _ _ _ hk
    have hBw4 : Below w4.heap.size wA (wA.setCell ⟨w4.heap.size, 2, none⟩ (.slice na nn nc)) := (Below.refl _ wA).setCell (p := ⟨w4.heap.size, 2, none⟩) (Nat.le_refl _) _
    have hRB := Rd.low (unhid HRA) hBw4 (by omega)
    have hGB := grown_low (unhid HGR) (hBw4.mono (by omega))
    have hKB : DK (wA.setCell ⟨w4.heap.size, 2, none⟩ (.slice na nn nc)) (w.heap.size + 1) (.slice na nn nc) [(([.string nx, .int .i64 nk, .string nv], (⟨nx, nk, nv⟩ : NeedD), []) : It needC)] (.slice ta ts.length tc) ts := ⟨NRow.lower ((unhid HNR).frame (fun k hk => hoff k (by have := ((unhid HNR).base k hk).1; omega))) (by omega), (unhid HTA).frame (fun k hk => hoff k (by
        rcases hk with hk | hk
        · intro e
          have h1 := unhid HTW k hk
          omega
        · rw [entIts_F] at hk; cases hk)), by simp [itF], fun g e1 e2 => by have h1 := ((unhid HNB) g e1).1; have h2 := (unhid HT7) g e2; omega⟩
    have HF := hid (dq_end (q := p + 60) (.string name) (.string ver) (.slice na nn nc) (.slice ta ts.length tc) hbl hver hKB (unhid HP).1 (by have := (unhid HP).2; omega) (fun n hn => by
      have hn' := List.mem_singleton.1 (show n ∈ [(⟨nx, nk, nv⟩ : NeedD)] from hn)
      rw [hn']
      exact ⟨hnx, hnv⟩) (by simp) hRB (by omega) hGB)
    generalize wA.setCell ⟨w4.heap.size, 2, none⟩ (.slice na nn nc) = wB at *
    obtain ⟨c0, f0⟩ := cell_fz hPB 0 _ rfl
    obtain ⟨c1, f1⟩ := cell_fz hPB 1 _ rfl
    obtain ⟨c2, f2⟩ := cell_fz hPB 2 _ rfl
    obtain ⟨c3, f3⟩ := cell_fz hPB 3 _ rfl
    obtain ⟨o0, r0⟩ := cell_fz hRbB 0 _ rfl
    obtain ⟨o1, r1⟩ := cell_fz hRbB 1 _ rfl
    obtain ⟨o2, r2⟩ := cell_fz hRbB 2 _ rfl
    obtain ⟨o3, r3⟩ := cell_fz hRbB 3 _ rfl
    clear hPB hRbB hPA hRbA hCA hC9 hC8 hgA hgr hNr hnb hTA hKB hRB hGB hRA hR9 hG9 hN9 hR8 hBw4 hoff hP6 hRb6 hG
    go_wp2_with fail
    exact bodyPost_ret (v := .agg #[.string name, .string ver, .slice na nn nc, .slice ta ts.length tc]) (by simp [results, Tryz.results154, go_sem, World.cell?_setCell_same', o0, o1, o2, o3]) rfl ⟨ver, _, _, _, ts, rfl, unhid HF, Nat.le_refl _⟩
  · have h0' : ((m : Int) == 0) = false := by rw [beq_eq_false_iff_ne]; omega
    have h0i : ¬ ((m : Int) = 0) := by omega
    obtain ⟨c0, f0⟩ := cell_fz hP6 0 _ rfl
    obtain ⟨c1, f1⟩ := cell_fz hP6 1 _ rfl
    obtain ⟨c2, f2⟩ := cell_fz hP6 2 _ rfl
    obtain ⟨c3, f3⟩ := cell_fz hP6 3 _ rfl
    have HF := hid (dq_end (q := p + 60) (nv := .slice none 0 0) (nL := []) (.string name) (.string ver) (.slice none 0 0) (.slice ta ts.length tc) hbl hver ⟨NRow.none w6 _, unhid HT6, rfl, fun g e => by cases e⟩ (unhid HP).1 (by have := (unhid HP).2; omega) (fun n hn => by cases hn) (Nat.zero_le _) hR6 (by omega) hG)
    clear hP6 hRb6 hR6 hG
    go_wp2_with fail
    exact bodyPost_ret (v := .agg #[.string name, .string ver, .slice none 0 0, .slice ta ts.length tc]) (by simp [results, Tryz.results154, go_sem, World.cell?_setCell_same', o0, o1, o2, o3]) rfl ⟨ver, _, [], _, ts, rfl, unhid HF, Nat.zero_le _⟩
end Go.Proofs.YtoihhlkidlapmaaGreat

namespace Go.Proofs.YtoihhlkidlapmaaGreat
open Go.RowKit Go.Shelf
theorem DK.lower {W : World} {N M : Nat} {nv tv : Value} {nL : List (It needC)} {es : List Ent} (h : DK W M nv nL tv es) (hN : N ≤ M) : DK W N nv nL tv es := ⟨NRow.lower h.needs hN, NRow.lower h.tree hN, h.leaf, h.apart⟩
theorem DK.grown {W W' : World} {N b : Nat} {nv tv : Value} {nL : List (It needC)} {es : List Ent} (h : DK W N nv nL tv es) (hg : W.grownBy W' (some b)) (hb : b < N) : DK W' N nv nL tv es := h.frame (fun k h1 h2 => hg.block k h2 (by intro e; injection e; omega))
theorem slice_of_needs {W : World} {N : Nat} {v : Value} {L : List (It needC)} (h : NRow needC 36 W N v L) : ∃ a n c, v = .slice a n c := by obtain ⟨a, c, e⟩ := nrow_slice h; exact ⟨_, _, _, e⟩
theorem slice_of_tree {W : World} {N : Nat} {v : Value} {es : List Ent} (h : NRow entryC 57 W N v (entIts es)) : ∃ a c, v = .slice a es.length c := by
  obtain ⟨a, c, e⟩ := nrow_slice h
  rw [entIts_len] at e
  exact ⟨a, c, e⟩
theorem DK.set {W : World} {N g j : Nat} {u nv tv : Value} {nL : List (It needC)} {es : List Ent} (h : DK W N nv nL tv es) (hg : ∀ k, (nv.ownBlock = some k ∨ tv.ownBlock = some k) → k ≠ g) : DK (W.setCell ⟨g, j, none⟩ u) N nv nL tv es :=
  ⟨h.needs.frame (fun k hk => Below.heap_setCell _ _ _ _ (by rcases hk with hk | hk; exact hg k (.inl hk); rw [h.leaf] at hk; cases hk)), h.tree.frame (fun k hk => Below.heap_setCell _ _ _ _ (by rcases hk with hk | hk; exact hg k (.inr hk); rw [entIts_F] at hk; cases hk)), h.leaf, h.apart⟩
theorem leaf_app {W : World} {N : Nat} {A B : List (It needC)} (ha : Items needC W N A) (hb : Items needC W N B) (h1 : itF A = []) (h2 : itF B = []) : Items needC W N (A ++ B) :=
  ⟨fun t ht => by
    rcases List.mem_append.1 ht with ht | ht
    · exact ha.each t ht
    · exact hb.each t ht, by rw [itF_app, h1, h2]; exact List.nodup_nil, fun k hk => by rw [itF_app, h1, h2] at hk; cases hk⟩
set_option maxRecDepth 100000 in
set_option maxHeartbeats 16000000 in
theorem l11AnyPack_any (w : World) (b : Nat) (a : Option Addr) (len cap p : Nat) (h : Rd w b a len cap p) (hp : p ≤ 400000) :
    Calls Tryz.prog 95 #[.pointer (some ⟨b, 0, none⟩)] w fun x w' => ∃ name ver nv nL tv es, x = .returned (.agg #[.string name, .string ver, nv, tv]) ∧ drawn name ∧ DQ w b a len cap (p + 200) w' ver nv nL tv es := by
  have hbl := h.lt
  have H := hid (h.alloc (.cells #[.string ⟨#[]⟩, .string ⟨#[]⟩, .slice none 0 0, .slice none 0 0] 34))
  have hR0 := World.alloc_heap_new w (.cells #[.string ⟨#[]⟩, .string ⟨#[]⟩, .slice none 0 0, .slice none 0 0] 34)
  have hG0 : w.grownBy (w.alloc (.cells #[.string ⟨#[]⟩, .string ⟨#[]⟩, .slice none 0 0, .slice none 0 0] 34)) (some b) := World.grownBy_alloc w _ (some b)
  have hS0 : (w.alloc (.cells #[.string ⟨#[]⟩, .string ⟨#[]⟩, .slice none 0 0, .slice none 0 0] 34)).heap.size = w.heap.size + 1 := by simp
  clear h
  go_enter Tryz.func95, Tryz.ntmps95
  go_wp2_with fail
  generalize w.alloc (.cells #[.string ⟨#[]⟩, .string ⟨#[]⟩, .slice none 0 0, .slice none 0 0] 34) = w0 at H hR0 hG0 hS0 ⊢
  refine (of_any drawn _ b a len cap p ((unhid H).alloc _) (by omega) (w.heap.size + 1) 4 4 (by omega) (by omega) (by omega) ?h5).mono ?_
  case h5 => exact fun k hk => row_drawn _ _ _ _ hS0.symm (by kernel_rfl) k hk
  rintro e w1 ⟨name, hname, rfl, hR1, hG⟩
  have hG01 := grown_trans (World.grownBy_alloc w0 _ (some b)) hG
  have hRb1 := (hG01.block _ (by omega) (by intro e; injection e; omega)).trans hR0
  have hS1 : w.heap.size + 1 ≤ w1.heap.size := by have := hG01.size; omega
  have hG1 := grown_trans hG0 hG01
  clear hR0 hG0 hS0 hG hG01 H
  go_wp2_with fail
  refine (l11Pack_any w1 b a len cap (p + 1) name hR1 (by omega)).mono ?_
  rintro x w2 ⟨ver, nv, nL, tv, ts, rfl, hQ, hL1⟩
  obtain ⟨na, nn, nc, rfl⟩ := slice_of_needs hQ.k.needs
  obtain ⟨ta, tc, rfl⟩ := slice_of_tree hQ.k.tree
  obtain ⟨p2, hp2, hR2⟩ := hQ.rd
  have hRb2 := (hQ.grown.block _ (by omega) (by intro e; injection e; omega)).trans hRb1
  have hS2 := Nat.le_trans hS1 hQ.grown.size
  have hG2 := grown_trans hG1 hQ.grown
  have hK2 : DK w2 (w.heap.size + 1) (.slice na nn nc) nL (.slice ta ts.length tc) ts := hQ.k.lower (by omega)
  have HQ := hid (And.intro hQ.ver (And.intro hQ.nice (And.intro hQ.few (And.intro hQ.sn hQ.ln))))
  clear hQ hRb1 hS1 hG1 hR1
  have hP2 := World.alloc_heap_new w2 (.cells #[.string name, .string ver, .slice na nn nc, .slice ta ts.length tc] 34)
  have hG3 : w2.grownBy (w2.alloc (.cells #[.string name, .string ver, .slice na nn nc, .slice ta ts.length tc] 34)) (some b) := World.grownBy_alloc w2 _ (some b)
  have hR3 := hR2.alloc (.cells #[.string name, .string ver, .slice na nn nc, .slice ta ts.length tc] 34)
  have hz3 : w2.heap.size + 1 ≤ (w2.alloc (.cells #[.string name, .string ver, .slice na nn nc, .slice ta ts.length tc] 34)).heap.size := by simp
  have hKB := hid (fun g (e : (Value.slice na nn nc).ownBlock = some g ∨ (Value.slice ta ts.length tc).ownBlock = some g) => (show w.heap.size + 1 ≤ g ∧ g < w2.heap.size from by rcases e with e | e; exact hK2.needs.base g (.inl e); exact hK2.tree.base g (.inl e)))
  go_wp2_with fail
  generalize w2.alloc (.cells #[.string name, .string ver, .slice na nn nc, .slice ta ts.length tc] 34) = w3 at hP2 hG3 hR3 hz3 ⊢
  refine (pick_any w3 b a len cap p2 hR3 (by omega) 14 (by omega) (by omega)).mono ?_
  rintro e w4 ⟨m, hm, rfl, hR4, hG4⟩
  have hG24 := grown_trans hG3 hG4
  have hP4 := (hG4.block w2.heap.size (by omega) (by intro e; injection e; omega)).trans hP2
  have hRb4 := (hG24.block _ (by omega) (by intro e; injection e; omega)).trans hRb2
  have hz4 : w2.heap.size + 1 ≤ w4.heap.size := Nat.le_trans hz3 hG4.size
  have hG := grown_trans hG2 hG24
  have hK4 := hK2.grown hG24 (by omega)
  clear hP2 hG3 hR3 hz3 hG4 hG24 hG2 hRb2 hR2 hK2
  have hne : ¬ w2.heap.size = w.heap.size := by omega
  have hne2 : ¬ w.heap.size = w2.heap.size := by omega
  have HN := hid hname
  by_cases h0 : m = 0
  · subst h0
    go_wp2_with fail
    refine (of_any drawn _ b a len cap (p2 + 1) (hR4.alloc _) (by omega) w4.heap.size 2 2 (by have := hR4.lt; omega) (by omega) (by omega) ?h6).mono ?_
    case h6 => exact fun k hk => row_drawn _ _ _ _ rfl (by kernel_rfl) k hk
    rintro e w5 ⟨name2, hn2, rfl, hR5, hG5⟩
    have hG45 := grown_trans (World.grownBy_alloc w4 _ (some b)) hG5
    have HN := hid hn2
    have hP5 := (hG45.block w2.heap.size (by omega) (by intro e; injection e; omega)).trans hP4
    have hRb5 := (hG45.block w.heap.size (by omega) (by intro e; injection e; omega)).trans hRb4
    have hK5 := hK4.grown hG45 (by omega)
    have hGw5 := grown_trans hG hG45
    have hz5 := Nat.le_trans hz4 hG45.size
    have hPB := heap_setCell_same w5 w2.heap.size 0 _ _ (.string name2) hP5
    have hRbB := (Below.heap_setCell w5 ⟨w2.heap.size, 0, none⟩ (.string name2) w.heap.size (by dsimp only; omega)).trans hRb5
    have hBw : Below w2.heap.size w5 (w5.setCell ⟨w2.heap.size, 0, none⟩ (.string name2)) := (Below.refl _ w5).setCell (p := ⟨w2.heap.size, 0, none⟩) (Nat.le_refl _) _
    have HF := hid (dq_end (q := p + 200) (.string name2) (.string ver) (.slice na nn nc) (.slice ta ts.length tc) hbl (unhid HQ).1 (hK5.set (fun k hk => by have := (unhid hKB k hk).2; omega)) (unhid HQ).2.1 (unhid HQ).2.2.1 (unhid HQ).2.2.2.1 (unhid HQ).2.2.2.2 (Rd.low hR5 hBw (by omega)) (by omega) (grown_low hGw5 (hBw.mono (by omega))))
    obtain ⟨d0, g0⟩ := cell_fz hP5 0 _ rfl
    obtain ⟨c0, f0⟩ := cell_fz hPB 0 _ rfl
    obtain ⟨o0, r0⟩ := cell_fz hRbB 0 _ rfl
    obtain ⟨c1, f1⟩ := cell_fz hPB 1 _ rfl
    obtain ⟨o1, r1⟩ := cell_fz hRbB 1 _ rfl
    obtain ⟨c2, f2⟩ := cell_fz hPB 2 _ rfl
    obtain ⟨o2, r2⟩ := cell_fz hRbB 2 _ rfl
    obtain ⟨c3, f3⟩ := cell_fz hPB 3 _ rfl
    obtain ⟨o3, r3⟩ := cell_fz hRbB 3 _ rfl
    clear hPB hRbB hP5 hRb5 hK5 hGw5 hBw hP4 hRb4 hK4 hG hG45 hR4 hR5
    go_wp2_with fail
    exact bodyPost_ret (v := .agg #[.string name2, .string ver, .slice na nn nc, .slice ta ts.length tc]) (by simp [results, Tryz.results95, go_sem, World.cell?_setCell_same', o0, o1, o2, o3]) rfl ⟨name2, ver, _, _, _, ts, rfl, unhid HN, unhid HF⟩
  · have e0 : ((m : Int) == 0) = false := by rw [beq_eq_false_iff_ne]; omega
    have e0i : ¬ ((m : Int) = 0) := by omega
    by_cases h1 : m = 1
    · subst h1
      go_wp2_with fail
      refine (l11AnyVersion_any w4 b a len cap (p2 + 1) hR4 (by omega)).mono ?_
      rintro e w5 ⟨ver2, hv2, rfl, hR5, hG45⟩
      have hP5 := (hG45.block w2.heap.size (by omega) (by intro e; injection e; omega)).trans hP4
      have hRb5 := (hG45.block w.heap.size (by omega) (by intro e; injection e; omega)).trans hRb4
      have hK5 := hK4.grown hG45 (by omega)
      have hGw5 := grown_trans hG hG45
      have hz5 := Nat.le_trans hz4 hG45.size
      have hPB := heap_setCell_same w5 w2.heap.size 1 _ _ (.string ver2) hP5
      have hRbB := (Below.heap_setCell w5 ⟨w2.heap.size, 1, none⟩ (.string ver2) w.heap.size (by dsimp only; omega)).trans hRb5
      have hBw : Below w2.heap.size w5 (w5.setCell ⟨w2.heap.size, 1, none⟩ (.string ver2)) := (Below.refl _ w5).setCell (p := ⟨w2.heap.size, 1, none⟩) (Nat.le_refl _) _
      have HF := hid (dq_end (q := p + 200) (.string name) (.string ver2) (.slice na nn nc) (.slice ta ts.length tc) hbl hv2 (hK5.set (fun k hk => by have := (unhid hKB k hk).2; omega)) (unhid HQ).2.1 (unhid HQ).2.2.1 (unhid HQ).2.2.2.1 (unhid HQ).2.2.2.2 (Rd.low hR5 hBw (by omega)) (by omega) (grown_low hGw5 (hBw.mono (by omega))))
      obtain ⟨d0, g0⟩ := cell_fz hP5 1 _ rfl
      obtain ⟨c0, f0⟩ := cell_fz hPB 0 _ rfl
      obtain ⟨o0, r0⟩ := cell_fz hRbB 0 _ rfl
      obtain ⟨c1, f1⟩ := cell_fz hPB 1 _ rfl
      obtain ⟨o1, r1⟩ := cell_fz hRbB 1 _ rfl
      obtain ⟨c2, f2⟩ := cell_fz hPB 2 _ rfl
      obtain ⟨o2, r2⟩ := cell_fz hRbB 2 _ rfl
      obtain ⟨c3, f3⟩ := cell_fz hPB 3 _ rfl
      obtain ⟨o3, r3⟩ := cell_fz hRbB 3 _ rfl
      clear hPB hRbB hP5 hRb5 hK5 hGw5 hBw hP4 hRb4 hK4 hG hG45 hR4 hR5
      go_wp2_with fail
      exact bodyPost_ret (v := .agg #[.string name, .string ver2, .slice na nn nc, .slice ta ts.length tc]) (by simp [results, Tryz.results95, go_sem, World.cell?_setCell_same', o0, o1, o2, o3]) rfl ⟨name, ver2, _, _, _, ts, rfl, unhid HN, unhid HF⟩
    · have e1 : ((m : Int) == 1) = false := by rw [beq_eq_false_iff_ne]; omega
      have e1i : ¬ ((m : Int) = 1) := by omega
      by_cases h2 : m = 2
      · subst h2
        have hC0 : (fun w' : World => w'.heap[w2.heap.size]? = some (.cells #[.string name, .string ver, .slice na nn nc, .slice ta ts.length tc] 34 (0, 0))) w4.drew := hP4
        have gp2 : ∀ x : CW (fun w' : World => w'.heap[w2.heap.size]? = some (.cells #[.string name, .string ver, .slice na nn nc, .slice ta ts.length tc] 34 (0, 0))), x.w.cell? ⟨w2.heap.size, 2, none⟩ = some (.slice na nn nc) := fun x => cell_arrS x.h 2 _ rfl
        have hba : ∀ {q : Prop}, (CW (fun w' : World => w'.heap[w2.heap.size]? = some (.cells #[.string name, .string ver, .slice na nn nc, .slice ta ts.length tc] 34 (0, 0))) → q) ↔ q := CW.all hC0
        go_wp2_with fail
        refine heldE_begin 9 (fun w' : World => w'.heap[w2.heap.size]? = some (.cells #[.string name, .string ver, .slice na nn nc, .slice ta ts.length tc] 34 (0, 0))) (by kernel_rfl) ?_
        refine heldE_here [true, true, true, false, true] (by kernel_rfl) (by kernel_rfl) (fun _ _ _ _ _ h => h) hC0 ?_
        dsimp only [pick]
        repeat (go_big_quiet_step (fail))
        refine wpQuiet_nil ?_
        have hR5 := hR4.of_below (drew_belowS (B := w4.heap.size) w4)
        have hK5 : DK w4.drew (w.heap.size + 1) (.slice na nn nc) nL (.slice ta ts.length tc) ts := hK4.frame (fun k _ _ => rfl)
        have hG5 : w.grownBy w4.drew (some b) := grown_low hG (drew_belowS _)
        have hRb5 : w4.drew.heap[w.heap.size]? = some (.cells #[.string ⟨#[]⟩, .string ⟨#[]⟩, .slice none 0 0, .slice none 0 0] 34 (0, 0)) := hRb4
        have hz5 : w2.heap.size + 1 ≤ w4.drew.heap.size := hz4
        clear hba gp2 hR4 hK4 hG hRb4 hz4 hP4
        generalize w4.drew = w5 at *
        refine heldE_op 3 (by kernel_rfl) (by kernel_rfl) rfl (fun K hK => ?_)
        refine call_op 156 27 (enters_of Tryz.func156 (by kernel_rfl) rfl) #[.pointer (some ⟨b, 0, none⟩)] rfl rfl rfl rfl ?_
        refine (l11AnyNeed_any w5 b a len cap _ hR5 (by omega)).mono ?_
        rintro e w6 ⟨nx, nv1, nk, hnx, hnv, rfl, ⟨p6, hp6, hR6⟩, hG56⟩
        have hP6 := (hG56.block w2.heap.size (by omega) (by intro e; injection e; omega)).trans hC0
        have hRb6 := (hG56.block w.heap.size (by omega) (by intro e; injection e; omega)).trans hRb5
        have hK6 := hK5.grown hG56 (by omega)
        have hG6 := grown_trans hG5 hG56
        have hz6 := Nat.le_trans hz5 hG56.size
        refine ⟨_, rfl, hK.out _ _ hP6 ?_⟩
        simp only [Act.put, List.setIfInBounds_toArray, List.set_cons_zero, List.set_cons_succ]
        clear hK K hC0 hR5 hK5 hG5 hRb5 hz5 hG56
        refine heldE_op 5 (by kernel_rfl) (by kernel_rfl) rfl (fun K hK => ?_)
        refine call_op 157 29 (enters_of Tryz.func157 (by kernel_rfl) rfl) #[.pointer (some ⟨b, 0, none⟩)] rfl rfl rfl rfl ?_
        refine (l11Need_any w6 b a len cap _ hR6 (by omega)).mono ?_
        rintro e w7 ⟨mx, mv1, mk, hmx, hmv, rfl, ⟨p7, hp7, hR7⟩, hG67⟩
        have hP7 := (hG67.block w2.heap.size (by omega) (by intro e; injection e; omega)).trans hP6
        have hRb7 := (hG67.block w.heap.size (by omega) (by intro e; injection e; omega)).trans hRb6
        have hK7 := hK6.grown hG67 (by omega)
        have hG7 := grown_trans hG6 hG67
        have hz7 := Nat.le_trans hz6 hG67.size
        refine ⟨_, rfl, hK.out _ _ hP7 ?_⟩
        simp only [Act.put, List.setIfInBounds_toArray, List.set_cons_zero, List.set_cons_succ]
        clear hK K hP6 hR6 hK6 hG6 hRb6 hz6 hG67
        refine heldE_op 6 (by kernel_rfl) (by kernel_rfl) rfl (fun K hK => ?_)
        go_simp
        have hN8 := World.alloc_heap_new w7 (.cells #[.string nx, .int .i64 nk, .string nv1, .string mx, .int .i64 mk, .string mv1] 36)
        have hG78 : w7.grownBy (w7.alloc (.cells #[.string nx, .int .i64 nk, .string nv1, .string mx, .int .i64 mk, .string mv1] 36)) (some b) := World.grownBy_alloc w7 _ (some b)
        have hR8 := hR7.alloc (.cells #[.string nx, .int .i64 nk, .string nv1, .string mx, .int .i64 mk, .string mv1] 36)
        have hz8' : w7.heap.size + 1 ≤ (w7.alloc (.cells #[.string nx, .int .i64 nk, .string nv1, .string mx, .int .i64 mk, .string mv1] 36)).heap.size := by simp
        have hP8 := (hG78.block w2.heap.size (by omega) (by intro e; injection e; omega)).trans hP7
        refine hK.out _ _ hP8 ?_
        clear hK K
        generalize w7.alloc (.cells #[.string nx, .int .i64 nk, .string nv1, .string mx, .int .i64 mk, .string mv1] 36) = w8 at hN8 hG78 hR8 hz8' hP8 ⊢
        have hRb8 := (hG78.block w.heap.size (by omega) (by intro e; injection e; omega)).trans hRb7
        have hK8 := hK7.grown hG78 (by omega)
        have hG8 := grown_trans hG7 hG78
        have hz8 := Nat.le_trans hz7 hG78.size
        have hI2 : Items needC w8 (w.heap.size + 1) [(([.string nx, .int .i64 nk, .string nv1], (⟨nx, nk, nv1⟩ : NeedD), []) : It needC), (([.string mx, .int .i64 mk, .string mv1], (⟨mx, mk, mv1⟩ : NeedD), []) : It needC)] := leaf_app (A := [_]) (B := [_]) (need_items w8 _ nx nv1 nk) (need_items w8 _ mx mv1 mk) (by simp [itF]) (by simp [itF])
        have hI3 := leaf_app hK8.needs.items hI2 hK8.leaf (by simp [itF])
        have hln := hL1
        refine heldE_op 7 (by kernel_rfl) (by kernel_rfl) rfl (fun K hK => ?_)
        refine op_items etNeed oneNeed w8 31 _ _ rfl rfl rfl (w.heap.size + 1) (.slice na nn nc) nL [(([.string nx, .int .i64 nk, .string nv1], (⟨nx, nk, nv1⟩ : NeedD), []) : It needC), (([.string mx, .int .i64 mk, .string mv1], (⟨mx, mk, mv1⟩ : NeedD), []) : It needC)] w7.heap.size 0 2 hK8.needs hI3 (fun g _ hk => by simp [itF] at hk) (fun j u hj => by rw [Nat.zero_add]; exact cell_arrS hN8 _ _ (by simpa [itCells] using hj)) (by simp; omega) (by omega) rfl (by simp [Act.eval]) ?_
        intro nw wA hgr
        have hgA : w8.grownBy wA (Value.slice na nn nc).ownBlock := hgr.by_
        have hBA : Below (w.heap.size + 1) w8 wA := ⟨hgA.os, hgA.tape, hgA.output, hgA.size, fun k hk => hgA.block k (by omega) (fun e => by have := (hK8.needs.base k (.inl e.symm)).1; omega)⟩
        have hPA := (hgA.block w2.heap.size (by omega) (fun e => by have := (unhid hKB _ (.inl e.symm)).2; omega)).trans hP8
        have hRbA := (hBA.block w.heap.size (by omega)).trans hRb8
        refine hK.out _ _ hPA ?_
        simp only [Act.put, List.setIfInBounds_toArray, List.set_cons_zero, List.set_cons_succ]
        clear hK K
        have hba : ∀ {q : Prop}, (CW (fun w' : World => w'.heap[w2.heap.size]? = some (.cells #[.string name, .string ver, .slice na nn nc, .slice ta ts.length tc] 34 (0, 0))) → q) ↔ q := CW.all hPA
        refine heldE_here [false, false, false, false, false, false, false, false, true] (by kernel_rfl) (by kernel_rfl) (fun _ _ _ _ _ h => h) hPA ?_
        dsimp only [pick]
        repeat (go_big_quiet_step (fail))
        refine wpQuiet_nil ?_
        clear hba
        obtain ⟨na2, nn2, nc2, rfl⟩ : ∃ a n c, nw = .slice a n c := by obtain ⟨a, c, e⟩ := grew_slice hgr; exact ⟨_, _, _, e⟩
        have hTA : NRow entryC 57 wA (w.heap.size + 1) (.slice ta ts.length tc) (entIts ts) := hK8.tree.frame (fun k hk => hgA.block k (hK8.tree.base k hk).2 (fun e => by
          rcases hk with hk | hk
          · exact hK8.apart k e.symm hk
          · rw [entIts_F] at hk; cases hk))
        have hblk : ∀ g, (Value.slice na2 nn2 nc2).ownBlock = some g → (Value.slice na nn nc).ownBlock = some g ∨ g = w8.heap.size := fun g e => by
          rcases hgr.block with h | h
          · exact .inl (by rw [← h]; exact e)
          · rw [h] at e; injection e with e; exact .inr e.symm
        have hKA : DK wA (w.heap.size + 1) (.slice na2 nn2 nc2) (nL ++ [(([.string nx, .int .i64 nk, .string nv1], (⟨nx, nk, nv1⟩ : NeedD), []) : It needC), (([.string mx, .int .i64 mk, .string mv1], (⟨mx, mk, mv1⟩ : NeedD), []) : It needC)]) (.slice ta ts.length tc) ts := ⟨hgr.row, hTA, by rw [itF_app, hK8.leaf]; simp [itF], fun g e1 e2 => by
          rcases hblk g e1 with h | h
          · exact hK8.apart g h e2
          · have := (unhid hKB g (.inr e2)).2; omega⟩
        have hRA := Rd.low hR8 hBA (by omega)
        have hGA := grown_low hG8 (hBA.mono (by omega))
        have hzA := hgA.size
        obtain ⟨c2, f2⟩ := cell_fz hPA 2 _ rfl
        have hBw : Below w2.heap.size wA (wA.setCell ⟨w2.heap.size, 2, none⟩ (.slice na2 nn2 nc2)) := (Below.refl _ wA).setCell (p := ⟨w2.heap.size, 2, none⟩) (Nat.le_refl _) _
        have HF := hid (dq_end (q := p + 200) (.string name) (.string ver) (.slice na2 nn2 nc2) (.slice ta ts.length tc) hbl (unhid HQ).1 (hKA.set (g := w2.heap.size) (j := 2) (u := .slice na2 nn2 nc2) (fun k hk => by
          rcases hk with hk | hk
          · rcases hblk k hk with h | h
            · have := (unhid hKB k (.inl h)).2; omega
            · omega
          · have := (unhid hKB k (.inr hk)).2; omega)) (unhid HQ).2.1 (unhid HQ).2.2.1 (fun n hn => by
            rw [itD_app] at hn
            rcases List.mem_append.1 hn with hn | hn
            · exact (unhid HQ).2.2.2.1 n hn
            · rcases List.mem_cons.1 (show n ∈ [(⟨nx, nk, nv1⟩ : NeedD), (⟨mx, mk, mv1⟩ : NeedD)] from hn) with hn | hn
              · rw [hn]; exact ⟨hnx, hnv⟩
              · rw [List.mem_singleton.1 hn]; exact ⟨hmx, hmv⟩) (by simp; omega) (Rd.low hRA hBw (by omega)) (by omega) (grown_low hGA (hBw.mono (by omega))))
        have hPB := hid (heap_setCell_same wA w2.heap.size 2 _ _ (.slice na2 nn2 nc2) hPA)
        have hRbB := hid ((Below.heap_setCell wA ⟨w2.heap.size, 2, none⟩ (.slice na2 nn2 nc2) w.heap.size (by dsimp only; omega)).trans hRbA)
        refine heldE_last (by kernel_rfl) (by kernel_rfl) rfl (fun K hK => ?_)
        go_simp
        refine hK.out _ _ ?_
        clear hK K c2 f2
        refine heldE_done (by kernel_rfl) ?_
        generalize wA.setCell ⟨w2.heap.size, 2, none⟩ (.slice na2 nn2 nc2) = wB at *
        obtain ⟨c0, f0⟩ := cell_fz (unhid hPB) 0 _ rfl
        obtain ⟨c1, f1⟩ := cell_fz (unhid hPB) 1 _ rfl
        obtain ⟨c2, f2⟩ := cell_fz (unhid hPB) 2 _ rfl
        obtain ⟨c3, f3⟩ := cell_fz (unhid hPB) 3 _ rfl
        obtain ⟨o0, r0⟩ := cell_fz (unhid hRbB) 0 _ rfl
        obtain ⟨o1, r1⟩ := cell_fz (unhid hRbB) 1 _ rfl
        obtain ⟨o2, r2⟩ := cell_fz (unhid hRbB) 2 _ rfl
        obtain ⟨o3, r3⟩ := cell_fz (unhid hRbB) 3 _ rfl
        clear hPB hRbB hPA hRbA hKA hTA hblk hBA hgA hgr hRA hGA hBw hP8 hRb8 hK8 hG8 hI2 hI3 hN8 hG78 hR8 hP7 hRb7 hK7 hG7 hR7
        go_wp2_with fail
        exact bodyPost_ret (v := .agg #[.string name, .string ver, .slice na2 nn2 nc2, .slice ta ts.length tc]) (by simp [results, Tryz.results95, go_sem, World.cell?_setCell_same', o0, o1, o2, o3]) rfl ⟨name, ver, _, _, _, ts, rfl, unhid HN, unhid HF⟩
      · have e2 : ((m : Int) == 2) = false := by rw [beq_eq_false_iff_ne]; omega
        have e2i : ¬ ((m : Int) = 2) := by omega
        by_cases h3 : m = 3
        · subst h3
          go_wp2_with fail
          refine (l11AnyTree_any w4 b a len cap (p2 + 1) hR4 (by omega)).mono ?_
          rintro x w5 ⟨tv2, rfl, es2, hT⟩
          have hG45 := hT.grown
          obtain ⟨p5, hp5, hR5⟩ := hT.rd
          obtain ⟨g2, k2, rfl, ho2⟩ := hT.v
          have hT2 : NRow entryC 57 w5 w4.heap.size (.slice (some ⟨g2, 0, none⟩) es2.length k2) (entIts es2) := ents_nrow ho2
          have hTB := fun g (e : (Value.slice (some ⟨g2, 0, none⟩) es2.length k2).ownBlock = some g) => (hT2.base g (.inl e)).1
          have HT3 := hid (And.intro hT.nice hT.few)
          clear hT ho2
          have hP5 := (hG45.block w2.heap.size (by omega) (by intro e; injection e; omega)).trans hP4
          have hRb5 := (hG45.block w.heap.size (by omega) (by intro e; injection e; omega)).trans hRb4
          have hK5 := hK4.grown hG45 (by omega)
          have hGw5 := grown_trans hG hG45
          have hz5 := Nat.le_trans hz4 hG45.size
          have hPB := heap_setCell_same w5 w2.heap.size 3 _ _ (.slice (some ⟨g2, 0, none⟩) es2.length k2) hP5
          have hRbB := (Below.heap_setCell w5 ⟨w2.heap.size, 3, none⟩ (.slice (some ⟨g2, 0, none⟩) es2.length k2) w.heap.size (by dsimp only; omega)).trans hRb5
          have hBw : Below w2.heap.size w5 (w5.setCell ⟨w2.heap.size, 3, none⟩ (.slice (some ⟨g2, 0, none⟩) es2.length k2)) := (Below.refl _ w5).setCell (p := ⟨w2.heap.size, 3, none⟩) (Nat.le_refl _) _
          have HF := hid (dq_end (q := p + 200) (.string name) (.string ver) (.slice na nn nc) (.slice (some ⟨g2, 0, none⟩) es2.length k2) hbl (unhid HQ).1 ((⟨hK5.needs, NRow.lower hT2 (by omega), hK5.leaf, fun g e1 e2 => by have h1 := (unhid hKB g (.inl e1)).2; have h2 := hTB g e2; omega⟩ : DK w5 (w.heap.size + 1) (.slice na nn nc) nL (.slice (some ⟨g2, 0, none⟩) es2.length k2) es2).set (fun k hk => by rcases hk with hk | hk; have := (unhid hKB k (.inl hk)).2; omega; have := hTB k hk; omega)) (unhid HT3).1 (unhid HT3).2 (unhid HQ).2.2.2.1 (unhid HQ).2.2.2.2 (Rd.low hR5 hBw (by omega)) (by omega) (grown_low hGw5 (hBw.mono (by omega))))
          obtain ⟨d0, g0⟩ := cell_fz hP5 3 _ rfl
          obtain ⟨c0, f0⟩ := cell_fz hPB 0 _ rfl
          obtain ⟨o0, r0⟩ := cell_fz hRbB 0 _ rfl
          obtain ⟨c1, f1⟩ := cell_fz hPB 1 _ rfl
          obtain ⟨o1, r1⟩ := cell_fz hRbB 1 _ rfl
          obtain ⟨c2, f2⟩ := cell_fz hPB 2 _ rfl
          obtain ⟨o2, r2⟩ := cell_fz hRbB 2 _ rfl
          obtain ⟨c3, f3⟩ := cell_fz hPB 3 _ rfl
          obtain ⟨o3, r3⟩ := cell_fz hRbB 3 _ rfl
          clear hT2 hTB hPB hRbB hP5 hRb5 hK5 hGw5 hBw hP4 hRb4 hK4 hG hG45 hR4 hR5
          go_wp2_with fail
          exact bodyPost_ret (v := .agg #[.string name, .string ver, .slice na nn nc, .slice (some ⟨g2, 0, none⟩) es2.length k2]) (by simp [results, Tryz.results95, go_sem, World.cell?_setCell_same', o0, o1, o2, o3]) rfl ⟨name, ver, _, _, _, es2, rfl, unhid HN, unhid HF⟩
        · have e3 : ((m : Int) == 3) = false := by rw [beq_eq_false_iff_ne]; omega
          have e3i : ¬ ((m : Int) = 3) := by omega
          have hPB := hP4
          have hRbB := hRb4
          have HF := hid (dq_end (q := p + 200) (.string name) (.string ver) (.slice na nn nc) (.slice ta ts.length tc) hbl (unhid HQ).1 hK4 (unhid HQ).2.1 (unhid HQ).2.2.1 (unhid HQ).2.2.2.1 (unhid HQ).2.2.2.2 hR4 (by omega) hG)
          obtain ⟨c0, f0⟩ := cell_fz hPB 0 _ rfl
          obtain ⟨c1, f1⟩ := cell_fz hPB 1 _ rfl
          obtain ⟨c2, f2⟩ := cell_fz hPB 2 _ rfl
          obtain ⟨c3, f3⟩ := cell_fz hPB 3 _ rfl
          obtain ⟨o0, r0⟩ := cell_fz hRbB 0 _ rfl
          obtain ⟨o1, r1⟩ := cell_fz hRbB 1 _ rfl
          obtain ⟨o2, r2⟩ := cell_fz hRbB 2 _ rfl
          obtain ⟨o3, r3⟩ := cell_fz hRbB 3 _ rfl
          clear hPB hRbB hP4 hRb4 hR4 hG hK4
          go_wp2_with fail
          exact bodyPost_ret (v := .agg #[.string name, .string ver, .slice na nn nc, .slice ta ts.length tc]) (by simp [results, Tryz.results95, go_sem, World.cell?_setCell_same', o0, o1, o2, o3]) rfl ⟨name, ver, _, nL, _, ts, rfl, unhid HN, unhid HF⟩
end Go.Proofs.YtoihhlkidlapmaaGreat

namespace Go.Proofs.YtoihhlkidlapmaaGreat
open Go.RowKit
def wpAnyF (kl : Nat) (P : Program) (md : Region.Mode) (ops : Array Oper) (Q : Exit → Act → World → Prop) (S : World → Prop) : Nat → Array Bool → Act → World → Prop
  | 0, listed, a, w => Region.ready md ops listed = [] ∧ Q .normal a w
  | fuel + 1, listed, a, w =>
    (Region.ready md ops listed = [] → Q .normal a w) ∧
    ∀ i ∈ Region.ready md ops listed, wpOp P ops Q i (fun a' w' => (i ≠ kl → listed.getD kl true = false → S w') ∧ wpAnyF kl P md ops Q S fuel (listed.setIfInBounds i true) a' w') a w
theorem wpAny_of_heldF {kl : Nat} {P : Program} {ops : Array Oper} {Q : Exit → Act → World → Prop} {md : Region.Mode} {S : World → Prop} : ∀ (fuel : Nat) (listed : Array Bool) (a : Act) (w : World), wpAnyF kl P md ops Q S fuel listed a w → wpAny P md ops Q fuel listed a w
  | 0, _, _, _, h => h
  | fuel + 1, _, _, _, h => ⟨h.1, fun i hi => wpOp_mono (fun a' w' h' => wpAny_of_heldF fuel _ a' w' h'.2) (h.2 i hi)⟩
theorem getD_set_self {l : Array Bool} {k : Nat} : (l.setIfInBounds k true).getD k true = true := by
  rcases Nat.lt_or_ge k l.size with h | h
  · simp [h]
  · simp [Array.getD]
theorem wpAnyF_first {kl : Nat} {P : Program} {ops : Array Oper} {Q : Exit → Act → World → Prop} {md : Region.Mode} {S : World → Prop} {i : Nat} {oi : Oper} {v : Value} (hi : ops[i]? = some oi) (hsel : ∀ (j : Nat) (o : Oper) cs b, ops[j]? = some o → o.op ≠ .select cs b)
    (hQ : ∀ c a w, Q (.panic c) (a.put oi.dst v) w → Q (.panic c) a w) (hkl : waitsB md ops kl i = true) :
    ∀ (fuel : Nat) (listed : Array Bool) (a : Act) (w : World),
      (∀ j oj, ops[j]? = some oj → j ≠ i → listed.getD j true = false → (∀ e ∈ oj.after, Region.binds md e = true → e.on ≠ i) → oi.apart ops oj = true) →
      i ∈ Region.ready md ops listed → listed.getD kl true = false → YieldsIf P ops S oi v a → S w →
      wpAnyF kl P md ops Q S fuel (listed.setIfInBounds i true) (a.put oi.dst v) w → wpAnyF kl P md ops Q S (fuel + 1) listed a w := by
  intro fuel
  induction fuel with
  | zero =>
    intro listed a w _ hr _ hy hS H
    refine ⟨fun h => (by rw [h] at hr; cases hr), fun j hj => ?_⟩
    by_cases hji : j = i
    · subst hji; exact hy.wpOp hi hS ⟨fun _ _ => hS, H⟩
    · have := ready_mono hj hji
      rw [H.1] at this
      cases this
  | succ fuel ih =>
    intro listed a w hfree hr hk0 hy hS H
    refine ⟨fun h => (by rw [h] at hr; cases hr), fun j hj => ?_⟩
    by_cases hji : j = i
    · subst hji; exact hy.wpOp hi hS ⟨fun _ _ => hS, H⟩
    · have hjk : j ≠ kl := fun e => waits_not hkl hr (e ▸ hj)
      have hik : i ≠ kl := fun e => waits_not hkl hr (e ▸ hr)
      have h1 := H.2 j (ready_mono hj hji)
      obtain ⟨hjun, oj, hoj, hall⟩ := mem_ready.1 hj
      have hnot : ∀ e ∈ oj.after, Region.binds md e = true → e.on ≠ i := fun e he hb heq => by
        have h1 := hall e he hb
        have h0 := (mem_ready.1 hr).1
        rw [heq] at h1
        rcases Nat.lt_or_ge i listed.size with h' | h'
        · simp [h'] at h0 h1; rw [h0] at h1; cases h1
        · simp [Array.getElem?_eq_none h'] at h1
      have h2 := wpOp_putIf hoj (hfree j oj hoj hji hjun hnot) (fun cs b => hsel i oi cs b hi) (fun cs b => hsel j oj cs b hoj) hQ hy h1
      have hfree' : ∀ k ok, ops[k]? = some ok → k ≠ i → (listed.setIfInBounds j true).getD k true = false →
          (∀ e ∈ ok.after, Region.binds md e = true → e.on ≠ i) → oi.apart ops ok = true := fun k ok hk hki hun hno => by
        refine hfree k ok hk hki ?_ hno
        by_cases hjk : j = k
        · subst hjk; exact hjun
        · rw [getD_set_ne true hjk] at hun; exact hun
      have hSj : ∀ w', ((j ≠ kl → (listed.setIfInBounds i true).getD kl true = false → S w') → S w') := fun w' h => h hjk (by rw [getD_set_ne true hik]; exact hk0)
      refine wpOp_mono (fun a' w' h3 => ⟨fun _ _ => hSj w' h3.2.1, ih (listed.setIfInBounds j true) a' w' hfree' (ready_mono hr (Ne.symm hji)) (by rw [getD_set_ne true hjk]; exact hk0) h3.1 (hSj w' h3.2.1) ?_⟩) h2
      rw [Array.setIfInBounds_comm _ _ hji]
      exact h3.2.2
theorem wpAnyF_pure {kl : Nat} {P : Program} {ops : Array Oper} {Q : Exit → Act → World → Prop} {md : Region.Mode} {S T : World → Prop} (hT : ∀ w, T w) {i : Nat} {oi : Oper} {v : Value} (hi : ops[i]? = some oi) (hsel : ∀ (j : Nat) (o : Oper) cs b, ops[j]? = some o → o.op ≠ .select cs b)
    (hQ : ∀ c a w, Q (.panic c) (a.put oi.dst v) w → Q (.panic c) a w) (hik : i ≠ kl) :
    ∀ (fuel : Nat) (listed : Array Bool) (a : Act) (w : World),
      (∀ j oj, ops[j]? = some oj → j ≠ i → listed.getD j true = false → (∀ e ∈ oj.after, Region.binds md e = true → e.on ≠ i) → oi.apart ops oj = true) →
      i ∈ Region.ready md ops listed → YieldsIf P ops T oi v a → (listed.getD kl true = false → S w) →
      wpAnyF kl P md ops Q S fuel (listed.setIfInBounds i true) (a.put oi.dst v) w → wpAnyF kl P md ops Q S (fuel + 1) listed a w := by
  intro fuel
  induction fuel with
  | zero =>
    intro listed a w _ hr hy hS H
    refine ⟨fun h => (by rw [h] at hr; cases hr), fun j hj => ?_⟩
    by_cases hji : j = i
    · subst hji; exact hy.wpOp hi (hT w) ⟨fun _ => hS, H⟩
    · have := ready_mono hj hji
      rw [H.1] at this
      cases this
  | succ fuel ih =>
    intro listed a w hfree hr hy hS H
    refine ⟨fun h => (by rw [h] at hr; cases hr), fun j hj => ?_⟩
    by_cases hji : j = i
    · subst hji; exact hy.wpOp hi (hT w) ⟨fun _ => hS, H⟩
    · have h1 := H.2 j (ready_mono hj hji)
      obtain ⟨hjun, oj, hoj, hall⟩ := mem_ready.1 hj
      have hnot : ∀ e ∈ oj.after, Region.binds md e = true → e.on ≠ i := fun e he hb heq => by
        have h1 := hall e he hb
        have h0 := (mem_ready.1 hr).1
        rw [heq] at h1
        rcases Nat.lt_or_ge i listed.size with h' | h'
        · simp [h'] at h0 h1; rw [h0] at h1; cases h1
        · simp [Array.getElem?_eq_none h'] at h1
      have h2 := wpOp_putIf hoj (hfree j oj hoj hji hjun hnot) (fun cs b => hsel i oi cs b hi) (fun cs b => hsel j oj cs b hoj) hQ hy h1
      have hfree' : ∀ k ok, ops[k]? = some ok → k ≠ i → (listed.setIfInBounds j true).getD k true = false →
          (∀ e ∈ ok.after, Region.binds md e = true → e.on ≠ i) → oi.apart ops ok = true := fun k ok hk hki hun hno => by
        refine hfree k ok hk hki ?_ hno
        by_cases hjk : j = k
        · subst hjk; exact hjun
        · rw [getD_set_ne true hjk] at hun; exact hun
      refine wpOp_mono (fun a' w' h3 => ⟨fun hjk hf => h3.2.1 hjk (by rw [getD_set_ne true hik]; exact hf), ih (listed.setIfInBounds j true) a' w' hfree' (ready_mono hr (Ne.symm hji)) h3.1 (fun hf => ?_) ?_⟩) h2
      · by_cases hjk : j = kl
        · subst hjk; rw [getD_set_self] at hf; cases hf
        · rw [getD_set_ne true hjk] at hf
          exact h3.2.1 hjk (by rw [getD_set_ne true hik]; exact hf)
      · rw [Array.setIfInBounds_comm _ _ hji]
        exact h3.2.2
def heldPB (kl : Nat) (md : Region.Mode) (ops : Array Oper) : List Nat → Array Bool → Bool
  | [], _ => true
  | i :: is, listed => (Region.ready md ops listed).contains i && Region.free md ops listed i && ((ops[i]?).map plainOp).getD false && !(i == kl) && heldPB kl md ops is (listed.setIfInBounds i true)
def openB (kl : Nat) (listed : Array Bool) : Bool := !(listed.getD kl true)
theorem heldF_list {kl : Nat} {P : Program} {md : Region.Mode} {ops : Array Oper} {Q : Exit → Act → World → Prop} {S : World → Prop} (hs : Region.noSelect ops = true) (hQ : ∀ c a t v w, Q (.panic c) (Act.put a (some t) v) w → Q (.panic c) a w) (fuel : Nat) : ∀ (is : List Nat) (l : List Oper) (listed : Array Bool) (a : Act) (w : World), is.map (fun i => ops[i]?) = l.map some → heldEB kl md ops is listed = true → listed.getD kl true = false → S w →
    wpQuiet P ops S (fun a' => wpAnyF kl P md ops Q S fuel (markAll is listed) a' w) l a → wpAnyF kl P md ops Q S (is.length + fuel) listed a w
  | [], [], listed, a, w, _, _, _, _, h => by rw [List.length_nil, Nat.zero_add]; exact h
  | [], _ :: _, _, _, _, e, _, _, _, _ => by cases e
  | _ :: _, [], _, _, _, e, _, _, _, _ => by cases e
  | i :: is, o :: l, listed, a, w, e, hB, hk, hS, h => by
    simp only [List.map_cons, List.cons.injEq] at e
    simp only [heldEB, Bool.and_eq_true] at hB
    obtain ⟨⟨⟨⟨h1, h2⟩, h3⟩, h5⟩, h4⟩ := hB
    rw [e.1] at h3
    obtain ⟨v, hy, hK⟩ := yieldsIf_quiet (by simpa using h3) h
    have hr : i ∈ Region.ready md ops listed := by simpa using h1
    have hik : i ≠ kl := fun e => waits_not h5 hr (e ▸ hr)
    rw [show (i :: is).length + fuel = (is.length + fuel) + 1 by simp; omega]
    exact wpAnyF_first e.1 (Region.noSelect_spec hs) (fun c a w hq => by cases hd : o.dst with | none => rw [hd] at hq; exact hq | some t => rw [hd] at hq; exact hQ _ _ _ _ _ hq) h5 _ _ _ _ (Region.free_spec e.1 h2) hr hk hy hS (heldF_list hs hQ fuel is l _ _ w e.2 h4 (by rw [getD_set_ne true hik]; exact hk) hS hK)
theorem heldF_plist {kl : Nat} {P : Program} {md : Region.Mode} {ops : Array Oper} {Q : Exit → Act → World → Prop} {S T : World → Prop} (hT : ∀ w, T w) (hs : Region.noSelect ops = true) (hQ : ∀ c a t v w, Q (.panic c) (Act.put a (some t) v) w → Q (.panic c) a w) (fuel : Nat) : ∀ (is : List Nat) (l : List Oper) (listed : Array Bool) (a : Act) (w : World), is.map (fun i => ops[i]?) = l.map some → heldPB kl md ops is listed = true → (listed.getD kl true = false → S w) →
    wpQuiet P ops T (fun a' => wpAnyF kl P md ops Q S fuel (markAll is listed) a' w) l a → wpAnyF kl P md ops Q S (is.length + fuel) listed a w
  | [], [], listed, a, w, _, _, _, h => by rw [List.length_nil, Nat.zero_add]; exact h
  | [], _ :: _, _, _, _, e, _, _, _ => by cases e
  | _ :: _, [], _, _, _, e, _, _, _ => by cases e
  | i :: is, o :: l, listed, a, w, e, hB, hS, h => by
    simp only [List.map_cons, List.cons.injEq] at e
    simp only [heldPB, Bool.and_eq_true] at hB
    obtain ⟨⟨⟨⟨h1, h2⟩, h3⟩, h5⟩, h4⟩ := hB
    rw [e.1] at h3
    obtain ⟨v, hy, hK⟩ := yieldsIf_quiet (by simpa using h3) h
    have hik : i ≠ kl := by simpa using h5
    rw [show (i :: is).length + fuel = (is.length + fuel) + 1 by simp; omega]
    exact wpAnyF_pure hT e.1 (Region.noSelect_spec hs) (fun c a w hq => by cases hd : o.dst with | none => rw [hd] at hq; exact hq | some t => rw [hd] at hq; exact hQ _ _ _ _ _ hq) hik _ _ _ _ (Region.free_spec e.1 h2) (by simpa using h1) hy hS (heldF_plist hT hs hQ fuel is l _ _ w e.2 h4 (fun hf => hS (by rwa [getD_set_ne true hik] at hf)) hK)
theorem heldF_begin {P : Program} {id : Nat} {Q : Exit → Act → World → Prop} {a : Act} {w : World} {l : List Oper} (kl : Nat) (C : World → Prop) (hm : P.follows .mixedOrders = true)
    (h : wpAnyF kl P .any l.toArray Q (fun w' => ∃ x : CW C, w' = x.w) l.length (Array.replicate l.length false) a w.drew) : (Code.region id l.toArray true).wp P Q a w :=
  wp_region_any hm (wpAny_of_heldF _ _ _ _ (by simpa using h))
theorem heldF_here {kl : Nat} {P : Program} {md : Region.Mode} {Q : Exit → Act → World → Prop} {C : World → Prop} {F : Nat} {listed : Array Bool} {a : Act} {w : World} {l : List Oper} (m : List Bool) (hs : Region.noSelect l.toArray = true) (hB : (decide (m.length ≤ l.length) && decide ((maskIx 0 m).length ≤ F) && heldEB kl md l.toArray (maskIx 0 m) listed && openB kl listed) = true) (hQ : ∀ c a t v w, Q (.panic c) (Act.put a (some t) v) w → Q (.panic c) a w) (hC : C w)
    (h : wpQuiet P l.toArray (fun w' => ∃ x : CW C, w' = x.w) (fun a' => wpAnyF kl P md l.toArray Q (fun w' => ∃ x : CW C, w' = x.w) (F - (maskIx 0 m).length) (markAll (maskIx 0 m) listed) a' w) (pick l m) a) :
    wpAnyF kl P md l.toArray Q (fun w' => ∃ x : CW C, w' = x.w) F listed a w := by
  simp only [Bool.and_eq_true, decide_eq_true_eq] at hB
  obtain ⟨⟨⟨h1, h2⟩, h3⟩, h4⟩ := hB
  have := heldF_list (P := P) (md := md) (Q := Q) (S := fun w' => ∃ x : CW C, w' = x.w) hs hQ (F - (maskIx 0 m).length) (maskIx 0 m) (pick l m) listed a w (pick_ix l l m 0 h1 (by simp)) h3 (by simpa [openB] using h4) ⟨⟨w, hC⟩, rfl⟩ h
  rwa [show (maskIx 0 m).length + (F - (maskIx 0 m).length) = F by omega] at this
theorem heldF_pure {kl : Nat} {P : Program} {md : Region.Mode} {Q : Exit → Act → World → Prop} {C : World → Prop} {F : Nat} {listed : Array Bool} {a : Act} {w : World} {l : List Oper} (m : List Bool) (hs : Region.noSelect l.toArray = true) (hB : (decide (m.length ≤ l.length) && decide ((maskIx 0 m).length ≤ F) && heldPB kl md l.toArray (maskIx 0 m) listed) = true) (hQ : ∀ c a t v w, Q (.panic c) (Act.put a (some t) v) w → Q (.panic c) a w) (hC : C w)
    (h : wpQuiet P l.toArray (fun w' => ∃ x : CW (fun _ : World => True), w' = x.w) (fun a' => wpAnyF kl P md l.toArray Q (fun w' => ∃ x : CW C, w' = x.w) (F - (maskIx 0 m).length) (markAll (maskIx 0 m) listed) a' w) (pick l m) a) :
    wpAnyF kl P md l.toArray Q (fun w' => ∃ x : CW C, w' = x.w) F listed a w := by
  simp only [Bool.and_eq_true, decide_eq_true_eq] at hB
  obtain ⟨⟨h1, h2⟩, h3⟩ := hB
  have := heldF_plist (P := P) (md := md) (Q := Q) (S := fun w' => ∃ x : CW C, w' = x.w) (T := fun w' => ∃ x : CW (fun _ : World => True), w' = x.w) (fun w => ⟨⟨w, trivial⟩, rfl⟩) hs hQ (F - (maskIx 0 m).length) (maskIx 0 m) (pick l m) listed a w (pick_ix l l m 0 h1 (by simp)) h3 (fun _ => ⟨⟨w, hC⟩, rfl⟩) h
  rwa [show (maskIx 0 m).length + (F - (maskIx 0 m).length) = F by omega] at this
theorem heldF_ready {kl : Nat} {P : Program} {md : Region.Mode} {ops : Array Oper} {Q : Exit → Act → World → Prop} {C : World → Prop} {F : Nat} {listed : Array Bool} {a : Act} {w : World} {o : Oper} (k : Nat) (hr : Region.ready md ops listed = [k]) (hF : decide (0 < F) = true) (ho : ops[k]? = some o)
    (h : ∀ K' : Act → World → Prop, Shut (∀ a w, (k ≠ kl → C w) → wpAnyF kl P md ops Q (fun w' => ∃ x : CW C, w' = x.w) (F - 1) (listed.setIfInBounds k true) a w → K' a w) → if Region.wanted o (yielded ops a.tmps) = true then Oper.wp P o a w K' Q else K' (a.put o.dst undef) w) :
    wpAnyF kl P md ops Q (fun w' => ∃ x : CW C, w' = x.w) F listed a w := by
  have hF' : F = (F - 1) + 1 := by simp only [decide_eq_true_eq] at hF; omega
  rw [hF']
  refine ⟨fun h0 => (by rw [hr] at h0; cases h0), fun i hi => ?_⟩
  rw [hr] at hi
  rcases List.mem_singleton.1 hi with rfl
  exact wpOp_step ho (fun K' hK => h K' (fun a w hS hW => hK a w ⟨fun hne _ => ⟨⟨w, hS hne⟩, rfl⟩, hW⟩))
theorem heldF_op {kl : Nat} {P : Program} {md : Region.Mode} {ops : Array Oper} {Q : Exit → Act → World → Prop} {C : World → Prop} {F : Nat} {listed : Array Bool} {a : Act} {w : World} {o : Oper} (k : Nat) (hr : Region.ready md ops listed = [k]) (hF : decide (0 < F) = true) (ho : ops[k]? = some o)
    (h : ∀ K' : Act → World → Prop, Shut (∀ a w, C w → wpAnyF kl P md ops Q (fun w' => ∃ x : CW C, w' = x.w) (F - 1) (listed.setIfInBounds k true) a w → K' a w) → if Region.wanted o (yielded ops a.tmps) = true then Oper.wp P o a w K' Q else K' (a.put o.dst undef) w) :
    wpAnyF kl P md ops Q (fun w' => ∃ x : CW C, w' = x.w) F listed a w :=
  heldF_ready k hr hF ho (fun K' hK => h K' (fun a w hc hw => hK.out a w (fun _ => hc) hw))
theorem heldF_last {kl : Nat} {P : Program} {md : Region.Mode} {ops : Array Oper} {Q : Exit → Act → World → Prop} {C : World → Prop} {F : Nat} {listed : Array Bool} {a : Act} {w : World} {o : Oper} (hr : Region.ready md ops listed = [kl]) (hF : decide (0 < F) = true) (ho : ops[kl]? = some o)
    (h : ∀ K' : Act → World → Prop, Shut (∀ a w, wpAnyF kl P md ops Q (fun w' => ∃ x : CW C, w' = x.w) (F - 1) (listed.setIfInBounds kl true) a w → K' a w) → if Region.wanted o (yielded ops a.tmps) = true then Oper.wp P o a w K' Q else K' (a.put o.dst undef) w) :
    wpAnyF kl P md ops Q (fun w' => ∃ x : CW C, w' = x.w) F listed a w :=
  heldF_ready kl hr hF ho (fun K' hK => h K' (fun a w hw => hK.out a w (fun hne => absurd rfl hne) hw))
theorem heldF_done {kl : Nat} {P : Program} {md : Region.Mode} {ops : Array Oper} {Q : Exit → Act → World → Prop} {S : World → Prop} {F : Nat} {listed : Array Bool} {a : Act} {w : World} (hr : Region.ready md ops listed = []) (h : Q .normal a w) : wpAnyF kl P md ops Q S F listed a w := by
  cases F with
  | zero => exact ⟨hr, h⟩
  | succ F => exact ⟨fun _ => h, by rw [hr]; simp⟩
end Go.Proofs.YtoihhlkidlapmaaGreat

namespace Go.Proofs.YtoihhlkidlapmaaGreat
open Go.RowKit Go.Shelf
structure DPk (d : packC.D) : Prop where
  small : smallP d
  name : drawn (PackD.name d)
  nice : ∀ e ∈ treeOfP d, niceE e
theorem DQ.pack {w : World} {b : Nat} {a : Option Addr} {len cap q : Nat} {W : World} {name ver : ByteArray} {nv tv : Value} {nL : List (It needC)} {es : List Ent} (h : DQ w b a len cap q W ver nv nL tv es) (hn : drawn name) : DPk (⟨name, ver, itD nL, dEnts es⟩ : PackD) := by
  have hs := drawn_short hn
  have hv : ver.size ≤ 100 := h.ver
  have ht : treeOfP (⟨name, ver, itD nL, dEnts es⟩ : PackD) = es := entsD_back es
  refine ⟨⟨show name.size ≤ 1048576 by omega, show ver.size ≤ 1048576 by omega, ⟨show (itD nL).length ≤ 1048576 by rw [itD_len]; have := h.ln; omega, fun d hd => ?_⟩, ?_⟩, hn, by rw [ht]; exact h.nice⟩
  · have := h.sn d hd
    exact ⟨by omega, by omega⟩
  · show smallE (entsD (dEnts es))
    rw [entsD_back]
    exact ⟨by have := h.few; omega, fun e he => ⟨by have := nice_short (h.nice e he).1; omega, by have : e.text.size ≤ 100 := (h.nice e he).2; omega⟩⟩
structure RQ (w : World) (b : Nat) (a : Option Addr) (len cap q : Nat) (W : World) (v : Value) (L : List (It packC)) : Prop where
  row : NRow packC 34 W (w.heap.size + 1) v L
  ok : ∀ d ∈ itD L, DPk d
  few : L.length ≤ 7
  rd : ∃ p', p' ≤ q ∧ Rd W b a len cap p'
  grown : w.grownBy W (some b)
theorem inP_mem (p : packC.D) (ps : List packC.D) : (inP p ps).length ≤ ps.length + 1 ∧ ∀ x ∈ inP p ps, x = p ∨ x ∈ ps := by
  have hwith : (withP p ps).length ≤ ps.length + 1 ∧ (∀ x ∈ withP p ps, x = p ∨ x ∈ ps) := by
    unfold withP
    refine ⟨by rw [List.length_append, List.length_cons, List.length_take, List.length_drop]; omega, fun x hx => ?_⟩
    rcases List.mem_append.1 hx with hx | hx
    · exact .inr (List.mem_of_mem_take hx)
    · rcases List.mem_cons.1 hx with rfl | hx
      · exact .inl rfl
      · exact .inr (List.mem_of_mem_drop hx)
  have hsame : ps.length ≤ ps.length + 1 ∧ (∀ x ∈ ps, x = p ∨ x ∈ ps) := ⟨by omega, fun x hx => .inr hx⟩
  unfold inP tryP
  split
  · split
    · exact hsame
    · split
      · exact hwith
      · exact hsame
  · exact hsame
theorem nrow_grown {W W' : World} {N b : Nat} {v : Value} {L : List (It packC)} (h : NRow packC 34 W N v L) (hg : W.grownBy W' (some b)) (hb : b < N) : NRow packC 34 W' N v L :=
  h.frame (fun k hk => hg.block k (h.base k hk).2 (by have := (h.base k hk).1; intro e; injection e; omega))
def RI (w : World) (b : Nat) (a : Option Addr) (len cap p k : Nat) (v : Value) (L : List (It packC)) (wr : World) : Prop :=
  wr.heap[w.heap.size]? = some (.cells #[.slice none 0 0] 51 (0, 0)) ∧ wr.heap[w.heap.size + 1]? = some (.cells #[v] 51 (0, 0)) ∧ w.heap.size + 1 < wr.heap.size ∧ NRow packC 34 wr (w.heap.size + 2) v L ∧ (∀ d ∈ itD L, DPk d) ∧ L.length + k ≤ 4 ∧ w.grownBy wr (some b) ∧ ∃ p', p' ≤ p + 1 + (4 - k) * 100 ∧ Rd wr b a len cap p'
set_option maxRecDepth 100000 in
set_option maxHeartbeats 8000000 in
theorem l11Root_any (w : World) (b : Nat) (a : Option Addr) (len cap p : Nat) (h : Rd w b a len cap p) (hp : p ≤ 300000) :
    Calls Tryz.prog 135 #[.pointer (some ⟨b, 0, none⟩)] w fun x w' => ∃ v L, x = .returned (.agg #[v]) ∧ RQ w b a len cap (p + 500) w' v L := by
  have hbl := h.lt
  have hR0 := (two_boxes w (.cells #[.slice none 0 0] 51) (.cells #[.slice none 0 0] 51))
  have H := hid ((h.alloc (.cells #[.slice none 0 0] 51)).alloc (.cells #[.slice none 0 0] 51))
  have hG0 : w.grownBy ((w.alloc (.cells #[.slice none 0 0] 51)).alloc (.cells #[.slice none 0 0] 51)) (some b) := grown_trans (World.grownBy_alloc w _ (some b)) (World.grownBy_alloc _ _ (some b))
  clear h
  go_enter Tryz.func135, Tryz.ntmps135
  go_wp2_with fail
  generalize (w.alloc (.cells #[.slice none 0 0] 51)).alloc (.cells #[.slice none 0 0] 51) = w0 at H hR0 hG0 ⊢
  obtain ⟨hRb0, hX0, hS0⟩ := hR0
  refine (pick_any w0 b a len cap p (unhid H) (by omega) 5 (by omega) (by omega)).mono ?_
  rintro e w1 ⟨m, hm, rfl, hR1, hG1⟩
  have HI := hid (show w1.heap[w.heap.size]? = some (.cells #[.slice none 0 0] 51 (0, 0)) ∧ w1.heap[w.heap.size + 1]? = some (.cells #[.slice none 0 0] 51 (0, 0)) ∧ w.heap.size + 1 < w1.heap.size ∧ w.grownBy w1 (some b) ∧ Rd w1 b a len cap (p + 1) from
    ⟨(hG1.block _ (by omega) (by intro e; injection e; omega)).trans hRb0, (hG1.block _ (by omega) (by intro e; injection e; omega)).trans hX0, Nat.lt_of_lt_of_le hS0 hG1.size, grown_trans hG0 hG1, hR1⟩)
  clear hRb0 hX0 hS0 hG0 hG1 hR1 H
  go_wp2_with fail
  have HR := hid (show RI w b a len cap p m (.slice none 0 0) [] w1 from ⟨(unhid HI).1, (unhid HI).2.1, (unhid HI).2.2.1, NRow.none _ _, (fun d hd => by cases hd), (by simp; omega), (unhid HI).2.2.2.1, p + 1, (by omega), (unhid HI).2.2.2.2⟩)
  clear HI
  go_loopw [4] (fun i wr => ∃ (k : Nat) (v : Value) (L : List (It packC)), k ≤ 4 ∧ i = .int .i64 (k : Int) ∧ Hid (RI w b a len cap p k v L wr)) (fun i _ => (intOf i).toNat)
  case atStart => exact ⟨m, _, [], by omega, rfl, HR⟩
  case round =>
    clear HR
    obtain ⟨k, v, L, hk, rfl, HI⟩ := hrel
    obtain ⟨hRb, hX, hS, hN, hok, hfew, hG, p', hp', hRd⟩ := unhid HI
    obtain ⟨va, vn, vc, rfl⟩ : ∃ a n c, v = .slice a n c := by obtain ⟨a, c, e⟩ := nrow_slice hN; exact ⟨_, _, _, e⟩
    clear HI
    by_cases h0 : k = 0
    · subst h0
      obtain ⟨c0, f0⟩ := cell_fz hX 0 _ rfl
      obtain ⟨o0, r0⟩ := cell_fz hRb 0 _ rfl
      have hBw : Below w.heap.size wr (wr.setCell ⟨w.heap.size, 0, none⟩ (.slice va vn vc)) := (Below.refl _ wr).setCell (p := ⟨w.heap.size, 0, none⟩) (Nat.le_refl _) _
      have HF := hid (show RQ w b a len cap (p + 500) (wr.setCell ⟨w.heap.size, 0, none⟩ (.slice va vn vc)) (.slice va vn vc) L from ⟨NRow.lower (N := w.heap.size + 2) (hN.frame (fun k hk => Below.heap_setCell _ _ _ _ (by have := (hN.base k hk).1; dsimp only; omega))) (by omega), hok, by omega, ⟨p', by omega, Rd.low hRd hBw hbl⟩, grown_low hG hBw⟩)
      clear hX hRb hN hG hRd hBw
      go_wp2_with fail
      exact bodyPost_ret (v := .agg #[.slice va vn vc]) (by simp [results, Tryz.results135, go_sem, World.cell?_setCell_same', o0]) rfl ⟨_, L, rfl, unhid HF⟩
    · have hk0 : (0 : Int) < (k : Int) := by omega
      have hC0 : (fun w' : World => w'.heap[w.heap.size + 1]? = some (.cells #[.slice va vn vc] 51 (0, 0))) wr.drew := hX
      have gp : ∀ x : CW (fun w' : World => w'.heap[w.heap.size + 1]? = some (.cells #[.slice va vn vc] 51 (0, 0))), x.w.cell? ⟨w.heap.size + 1, 0, none⟩ = some (.slice va vn vc) := fun x => cell_arrS x.h 0 _ rfl
      have hba : ∀ {q : Prop}, (CW (fun w' : World => w'.heap[w.heap.size + 1]? = some (.cells #[.slice va vn vc] 51 (0, 0))) → q) ↔ q := CW.all hC0
      go_wp2_with fail
      refine heldF_begin 10 (fun w' : World => w'.heap[w.heap.size + 1]? = some (.cells #[.slice va vn vc] 51 (0, 0))) (by kernel_rfl) ?_
      refine heldF_here [true, true, true] (by kernel_rfl) (by kernel_rfl) (fun _ _ _ _ _ h => h) hC0 ?_
      dsimp only [pick]
      repeat (go_big_quiet_step (fail))
      refine wpQuiet_nil ?_
      have hR5 := hRd.of_below (drew_belowS (B := wr.heap.size) wr)
      have hN5 : NRow packC 34 wr.drew (w.heap.size + 2) (.slice va vn vc) L := hN.frame (fun k _ => rfl)
      have hG5 : w.grownBy wr.drew (some b) := grown_low hG (drew_belowS _)
      have hRb5 : wr.drew.heap[w.heap.size]? = some (.cells #[.slice none 0 0] 51 (0, 0)) := hRb
      have hz5 : w.heap.size + 1 < wr.drew.heap.size := hS
      clear hba gp hX hRb hS hN hG hRd
      generalize wr.drew = w5 at *
      refine heldF_op 3 (by kernel_rfl) (by kernel_rfl) rfl (fun K hK => ?_)
      go_simp
      have hG56 : w5.grownBy (w5.alloc (.cells #[.string ⟨#[111, 110, 101]⟩, .string ⟨#[116, 119, 111]⟩, .string ⟨#[116, 104, 114, 101, 101]⟩, .string ⟨#[122, 105, 112]⟩] 9)) (some b) := World.grownBy_alloc w5 _ (some b)
      have hX6 := (hG56.block (w.heap.size + 1) (by omega) (by intro e; injection e; omega)).trans hC0
      refine hK.out _ _ hX6 ?_
      clear hK K
      have OF := hid (of_any drawn (w5.alloc (.cells #[.string ⟨#[111, 110, 101]⟩, .string ⟨#[116, 119, 111]⟩, .string ⟨#[116, 104, 114, 101, 101]⟩, .string ⟨#[122, 105, 112]⟩] 9)) b a len cap p' (hR5.alloc _) (by omega) w5.heap.size 4 4 (by omega) (by omega) (by omega) (fun k hk => row_drawn _ _ _ _ rfl (by kernel_rfl) k hk))
      generalize w5.alloc (.cells #[.string ⟨#[111, 110, 101]⟩, .string ⟨#[116, 119, 111]⟩, .string ⟨#[116, 104, 114, 101, 101]⟩, .string ⟨#[122, 105, 112]⟩] 9) = w6 at hG56 hX6 OF ⊢
      refine heldF_op 4 (by kernel_rfl) (by kernel_rfl) rfl (fun K hK => ?_)
      refine call_op 57 17 (enters_of Tryz.func57 (by kernel_rfl) rfl) #[.pointer (some ⟨b, 0, none⟩), .slice (some ⟨w5.heap.size, 0, none⟩) 4 4] rfl rfl rfl rfl ?_
      refine (unhid OF).mono ?_
      rintro e w7 ⟨name, hname, rfl, hR7, hG67⟩
      have hG57 := grown_trans hG56 hG67
      have hX7 := (hG67.block (w.heap.size + 1) (by have := hG56.size; omega) (by intro e; injection e; omega)).trans hX6
      have hRb7 := (hG57.block w.heap.size (by omega) (by intro e; injection e; omega)).trans hRb5
      have hN7 := nrow_grown hN5 hG57 (by omega)
      have hG7 := grown_trans hG5 hG57
      have hz7 := Nat.lt_of_lt_of_le hz5 hG57.size
      refine ⟨_, rfl, hK.out _ _ hX7 ?_⟩
      simp only [Act.put, List.setIfInBounds_toArray, List.set_cons_zero, List.set_cons_succ]
      clear hK K OF hG56 hX6 hG67 hG57 hC0 hR5 hN5 hG5 hRb5 hz5
      refine heldF_op 5 (by kernel_rfl) (by kernel_rfl) rfl (fun K hK => ?_)
      refine call_op 154 18 (enters_of Tryz.func154 (by kernel_rfl) rfl) #[.pointer (some ⟨b, 0, none⟩), .string name] rfl rfl rfl rfl ?_
      refine (l11Pack_any w7 b a len cap _ name hR7 (by omega)).mono ?_
      rintro x w8 ⟨ver, nv, nL, tv, ts, rfl, hQ, -⟩
      have hX8 := (hQ.grown.block (w.heap.size + 1) hz7 (by intro e; injection e; omega)).trans hX7
      have hRb8 := (hQ.grown.block w.heap.size (by omega) (by intro e; injection e; omega)).trans hRb7
      have hN8 := nrow_grown hN7 hQ.grown (by omega)
      have hG8 := grown_trans hG7 hQ.grown
      have hz8 := Nat.lt_of_lt_of_le hz7 hQ.grown.size
      obtain ⟨p8, hp8, hR8⟩ := hQ.rd
      have hdp := hQ.pack hname
      obtain ⟨F8, hown8, hf8⟩ := hQ.k.own name ver
      refine ⟨_, rfl, hK.out _ _ hX8 ?_⟩
      simp only [Act.put, List.setIfInBounds_toArray, List.set_cons_zero, List.set_cons_succ]
      clear hK K hX7 hRb7 hN7 hG7 hR7
      have hsm : smallPs (itD L) := ⟨by rw [itD_len]; omega, fun q hq => (hok q hq).small⟩
      refine heldF_op 6 (by kernel_rfl) (by kernel_rfl) rfl (fun K hK => ?_)
      refine call_op 97 19 (enters_of Tryz.func97 (by kernel_rfl) rfl) #[.agg #[.slice va vn vc], .agg #[.string name, .string ver, nv, tv]] rfl rfl rfl rfl ?_
      refine (l9In_any L (.slice va vn vc) (⟨name, ver, itD nL, dEnts ts⟩ : PackD) [.string name, .string ver, nv, tv] w8 (w.heap.size + 2) (by omega) hsm (by omega) hdp.small hN8 (packC.toAt hown8)).mono ?_
      rintro x w9 ⟨r9, L9, rfl, hN9, hL9, hB9⟩
      have hX9 := (hB9.block (w.heap.size + 1) hz8).trans hX8
      have hRb9 := (hB9.block w.heap.size (by omega)).trans hRb8
      have hG9 := grown_low hG8 (hB9.mono (by omega))
      have hR9 := hR8.of_below hB9
      have hz9 := Nat.lt_of_lt_of_le hz8 hB9.size
      have hin := inP_mem (⟨name, ver, itD nL, dEnts ts⟩ : PackD) (itD L)
      rw [← hL9, itD_len, itD_len] at hin
      obtain ⟨ra, rn, rc, rfl⟩ : ∃ a n c, r9 = .slice a n c := by obtain ⟨a, c, e⟩ := nrow_slice hN9; exact ⟨_, _, _, e⟩
      have HN9 := hid hN9
      have HOK := hid (show ∀ d ∈ itD L9, DPk d from fun d hd => by
        rcases hin.2 d hd with rfl | h
        · exact hdp
        · exact hok d h)
      have HLN := hid hin.1
      generalize inCode _ (itD L) = ic
      refine ⟨_, rfl, hK.out _ _ hX9 ?_⟩
      simp only [Act.put, List.setIfInBounds_toArray, List.set_cons_zero, List.set_cons_succ]
      clear hK K hX8 hRb8 hN8 hG8 hR8 hB9 hQ hown8 hf8 hin hL9 hsm hN9
      have hba : ∀ {q : Prop}, (CW (fun _ : World => True) → q) ↔ q := CW.all (C := fun _ : World => True) (W := w9) trivial
      refine heldF_pure [false, false, false, false, false, false, false, true, true, true] (by kernel_rfl) (by kernel_rfl) (fun _ _ _ _ _ h => h) hX9 ?_
      dsimp only [pick]
      repeat (go_big_quiet_step (fail))
      refine wpQuiet_nil ?_
      clear hba
      obtain ⟨c0, f0⟩ := cell_fz hX9 0 _ rfl
      refine heldF_last (by kernel_rfl) (by kernel_rfl) rfl (fun K hK => ?_)
      go_simp
      refine hK.out _ _ ?_
      clear hK K c0 f0
      refine heldF_done (by kernel_rfl) ?_
      have hBw : Below (w.heap.size + 1) w9 (w9.setCell ⟨w.heap.size + 1, 0, none⟩ (.slice ra rn rc)) := (Below.refl _ w9).setCell (p := ⟨w.heap.size + 1, 0, none⟩) (Nat.le_refl _) _
      have HX := hid (show RI w b a len cap p (k - 1) (.slice ra rn rc) L9 (w9.setCell ⟨w.heap.size + 1, 0, none⟩ (.slice ra rn rc)) from
        ⟨(hBw.block w.heap.size (by omega)).trans hRb9, heap_setCell_same w9 (w.heap.size + 1) 0 _ _ (.slice ra rn rc) hX9, by simpa using hz9, (unhid HN9).frame (fun k hk => Below.heap_setCell _ _ _ _ (by have := ((unhid HN9).base k hk).1; dsimp only; omega)), unhid HOK, by have := unhid HLN; omega, grown_low hG9 (hBw.mono (by omega)), p8, by omega, Rd.low hR9 hBw (by omega)⟩)
      clear hX9 hRb9 hG9 hR9 hBw
      generalize w9.setCell ⟨w.heap.size + 1, 0, none⟩ (.slice ra rn rc) = wB at *
      go_wp2_with fail
      go_roundw
      case rel => exact ⟨k - 1, _, L9, by omega, by go_num, HX⟩
      case measure => simp [intOf]; omega
end Go.Proofs.YtoihhlkidlapmaaGreat
