/- What the draw of a need gives: short texts. -/
import Derived.Test.YtobalkbddefaiaaDrawPath
import Derived.Test.YtobalkbddefaiaaGet
import Derived.Deep.RegionWith
namespace Go.Proofs.Ytobalkbddefaiaa
open Go.RowKit

theorem grown_set {x y : World} {b : Nat} (h : x.grownBy y (some b)) {p : Addr} (hp : x.heap.size ≤ p.block) (v : Value) : x.grownBy (y.setCell p v) (some b) :=
  ⟨h.os, h.tape, h.output, by simpa using h.size, fun k hk hne => (Below.heap_setCell y p v k (by omega)).trans (h.block k hk hne)⟩
theorem Rd.set {w : World} {b : Nat} {a : Option Addr} {len cap p : Nat} (h : Rd w b a len cap p) {q : Addr} (hq : b < q.block) (v : Value) : Rd (w.setCell q v) b a len cap p where
  c0 := (World.cell?_of_block (w := w) (Below.heap_setCell w q v b (by omega))).trans h.c0
  c1 := (World.cell?_of_block (w := w) (Below.heap_setCell w q v b (by omega))).trans h.c1
  f1 := (World.frozen?_of_block (w := w) (Below.heap_setCell w q v b (by omega))).trans h.f1
  l := h.l
  d := by
    rcases h.d with h0 | ⟨blk, off, ha, hb, hc⟩
    · exact .inl h0
    · refine .inr ⟨blk, off, ha, hb, fun k hk => ?_⟩
      obtain ⟨c, h1, h2⟩ := hc k hk
      exact ⟨c, h1, (World.cell?_of_block (w := w) (Below.heap_setCell w q v blk (by omega))).trans h2⟩
theorem row_short_at (w : World) (cs : Array Value) (t : TypeId) (B : Nat) (hB : B = w.heap.size) (h : cs.toList.all shortV = true) (k : Nat) (hk : k < cs.size) : ∃ x, short x ∧ (w.alloc (.cells cs t)).cell? ⟨B, k, none⟩ = some (.string x) := by
  subst hB; exact row_short w cs t h k hk
theorem needAt_set3 {W : World} {b : Nat} {n : ByteArray} {k : Int} {v : ByteArray} (h : NeedAt W b n k v) (n' : ByteArray) (k' : Int) (v' : ByteArray) : NeedAt (((W.setCell ⟨b, 0, none⟩ (.string n')).setCell ⟨b, 1, none⟩ (.int .i64 k')).setCell ⟨b, 2, none⟩ (.string v')) b n' k' v' := by
  obtain ⟨⟨c0, f0⟩, ⟨c1, f1⟩, c2, f2⟩ := h
  refine ⟨⟨?_, ?_⟩, ⟨?_, ?_⟩, ?_, ?_⟩ <;> simp [go_sem, World.cell?_setCell_same', c0, c1, c2, f0, f1, f2]
theorem NeedAt.far {W : World} {b : Nat} {n : ByteArray} {k : Int} {v : ByteArray} (h : NeedAt W b n k v) {q : Addr} (hq : b ≠ q.block) (x : Value) : NeedAt (W.setCell q x) b n k v := by
  have hb := Below.heap_setCell W q x b hq
  exact ⟨⟨(World.cell?_of_block (w := W) hb).trans h.1.1, (World.frozen?_of_block (w := W) hb).trans h.1.2⟩, ⟨(World.cell?_of_block (w := W) hb).trans h.2.1.1, (World.frozen?_of_block (w := W) hb).trans h.2.1.2⟩, (World.cell?_of_block (w := W) hb).trans h.2.2.1, (World.frozen?_of_block (w := W) hb).trans h.2.2.2⟩
theorem NeedAt.set2 {W : World} {b : Nat} {n : ByteArray} {k : Int} {v : ByteArray} (h : NeedAt W b n k v) (v' : ByteArray) : NeedAt (W.setCell ⟨b, 2, none⟩ (.string v')) b n k v' := by
  obtain ⟨⟨c0, f0⟩, ⟨c1, f1⟩, c2, f2⟩ := h
  refine ⟨⟨?_, ?_⟩, ⟨?_, ?_⟩, ?_, ?_⟩ <;> simp [go_sem, World.cell?_setCell_same', c0, c1, c2, f0, f1, f2]
theorem NeedAt.set1 {W : World} {b : Nat} {n : ByteArray} {k : Int} {v : ByteArray} (h : NeedAt W b n k v) (k' : Int) : NeedAt (W.setCell ⟨b, 1, none⟩ (.int .i64 k')) b n k' v := by
  obtain ⟨⟨c0, f0⟩, ⟨c1, f1⟩, c2, f2⟩ := h
  refine ⟨⟨?_, ?_⟩, ⟨?_, ?_⟩, ?_, ?_⟩ <;> simp [go_sem, World.cell?_setCell_same', c0, c1, c2, f0, f1, f2]
theorem NeedAt.set0 {W : World} {b : Nat} {n : ByteArray} {k : Int} {v : ByteArray} (h : NeedAt W b n k v) (n' : ByteArray) : NeedAt (W.setCell ⟨b, 0, none⟩ (.string n')) b n' k v := by
  obtain ⟨⟨c0, f0⟩, ⟨c1, f1⟩, c2, f2⟩ := h
  refine ⟨⟨?_, ?_⟩, ⟨?_, ?_⟩, ?_, ?_⟩ <;> simp [go_sem, World.cell?_setCell_same', c0, c1, c2, f0, f1, f2]
theorem NeedAt.grown {W W' : World} {b c : Nat} {n : ByteArray} {k : Int} {v : ByteArray} (h : NeedAt W c n k v) (hg : W.grownBy W' (some b)) (hc : c < W.heap.size) (hne : c ≠ b) : NeedAt W' c n k v := by
  have hb : W'.heap[c]? = W.heap[c]? := hg.block c hc (fun e => hne (by cases e; rfl))
  exact ⟨⟨(World.cell?_of_block (w := W) hb).trans h.1.1, (World.frozen?_of_block (w := W) hb).trans h.1.2⟩, ⟨(World.cell?_of_block (w := W) hb).trans h.2.1.1, (World.frozen?_of_block (w := W) hb).trans h.2.1.2⟩, (World.cell?_of_block (w := W) hb).trans h.2.2.1, (World.frozen?_of_block (w := W) hb).trans h.2.2.2⟩

set_option maxRecDepth 100000 in
set_option maxHeartbeats 1000000 in
theorem l11Version_any (w : World) (b : Nat) (a : Option Addr) (len cap p : Nat) (h : Rd w b a len cap p) (hp : p ≤ 1048576) :
    Calls Try.prog 44 #[.pointer (some ⟨b, 0, none⟩)] w fun e w' => ∃ x, short x ∧ e = .returned (.string x) ∧ Rd w' b a len cap (p + 1) ∧ w.grownBy w' (some b) := by
  have H := hid h
  clear h
  go_enter Try.func44, Try.ntmps44
  go_wp2_with fail
  have hb := (unhid H).lt
  refine (of_any short _ b a len cap p ?h1 hp w.heap.size 8 8 ?h2 (by omega) (by omega) ?h5).mono ?_
  case h1 => exact (unhid H).alloc _
  case h2 => omega
  case h5 => exact fun k hk => row_short w _ _ (by kernel_rfl) k hk
  rintro e w1 ⟨x, hx, rfl, hR, hG⟩
  have hG' := grown_trans (World.grownBy_alloc w _ (some b)) hG
  have HR := hid hR
  have HG := hid hG'
  clear hR hG hG'
  go_wp2_with fail
  go_ret
  exact ⟨x, hx, rfl, unhid HR, unhid HG⟩

set_option maxRecDepth 100000 in
set_option maxHeartbeats 1000000 in
theorem l11AnyVersion_any (w : World) (b : Nat) (a : Option Addr) (len cap p : Nat) (h : Rd w b a len cap p) (hp : p ≤ 1000000) :
    Calls Try.prog 24 #[.pointer (some ⟨b, 0, none⟩)] w fun e w' => ∃ x, short x ∧ e = .returned (.string x) ∧ Rd w' b a len cap (p + 1 + 1) ∧ w.grownBy w' (some b) := by
  have H := hid h
  clear h
  go_enter Try.func24, Try.ntmps24
  go_wp2_with fail
  refine (pick_any w b a len cap p (unhid H) (by omega) 6 (by omega) (by omega)).mono ?_
  rintro e w1 ⟨r, hr, rfl, hR, hG⟩
  have HR := hid hR
  have HG := hid hG
  clear hR hG
  by_cases h0 : r = 0
  · have h0' : ((r : Int) == 0) = true := by simp [h0]
    go_wp2_with fail
    have hb := (unhid HR).lt
    refine (of_any short _ b a len cap (p + 1) ?h1 (by omega) w1.heap.size 8 8 ?h2 (by omega) (by omega) ?h5).mono ?_
    case h1 => exact (unhid HR).alloc _
    case h2 => omega
    case h5 => exact fun k hk => row_short w1 _ _ (by kernel_rfl) k hk
    rintro e w2 ⟨x, hx, rfl, hR, hG⟩
    have hG' := grown_trans (unhid HG) (grown_trans (World.grownBy_alloc w1 _ (some b)) hG)
    have HR2 := hid hR
    have HG2 := hid hG'
    clear hR hG hG'
    go_wp2_with fail
    go_ret
    exact ⟨x, hx, rfl, unhid HR2, unhid HG2⟩
  · have h0' : ((r : Int) == 0) = false := by rw [beq_eq_false_iff_ne]; omega
    go_wp2_with fail
    refine (l11Version_any w1 b a len cap (p + 1) (unhid HR) (by omega)).mono ?_
    rintro e w2 ⟨x, hx, rfl, hR, hG⟩
    have hG' := grown_trans (unhid HG) hG
    have HR2 := hid hR
    have HG2 := hid hG'
    clear hR hG hG'
    go_wp2_with fail
    go_ret
    exact ⟨x, hx, rfl, unhid HR2, unhid HG2⟩

theorem short_nil : short ⟨#[]⟩ := by unfold short; decide

set_option maxRecDepth 100000 in
set_option maxHeartbeats 2000000 in
theorem l11Need_any (w : World) (b : Nat) (a : Option Addr) (len cap p : Nat) (h : Rd w b a len cap p) (hp : p ≤ 1000000) :
    Calls Try.prog 39 #[.pointer (some ⟨b, 0, none⟩)] w fun e w' => ∃ (x v : ByteArray) (k : Int), short x ∧ short v ∧ e = .returned (.agg #[.string x, .int .i64 k, .string v]) ∧ (∃ p', p' ≤ p + 3 ∧ Rd w' b a len cap p') ∧ w.grownBy w' (some b) := by
  have H := hid (h.alloc (.cells #[.string ⟨#[]⟩, .int .i64 0, .string ⟨#[]⟩] 30))
  have hbl := h.lt
  clear h
  go_enter Try.func39, Try.ntmps39
  go_wp2_with fail
  refine (of_any short _ b a len cap p ?h1 (by omega) (w.heap.size + 1) 4 4 ?h2 (by omega) (by omega) ?h5).mono ?_
  case h1 => exact (unhid H).alloc _
  case h2 => omega
  case h5 => exact fun k hk => row_short_at _ _ _ _ (by simp) (by kernel_rfl) k hk
  rintro e w1 ⟨x, hx, rfl, hR, hG⟩
  have HG := hid (grown_trans (World.grownBy_alloc w (.cells #[.string ⟨#[]⟩, .int .i64 0, .string ⟨#[]⟩] 30) (some b)) (grown_trans (World.grownBy_alloc _ _ (some b)) hG))
  have hz1 : w.heap.size + 2 ≤ w1.heap.size := by have := hG.size; simpa using this
  have HN := hid (((needAt_new w ⟨#[]⟩ 0 ⟨#[]⟩ 30).grown (World.grownBy_alloc _ _ (some b)) (by simp) (by omega)).grown hG (by simp; omega) (by omega))
  have HR := hid hR
  clear hR hG H
  go_wp2_with fail
  refine (pick_any w1 b a len cap (p + 1) (unhid HR) (by omega) 4 (by omega) (by omega)).mono ?_
  rintro e w2 ⟨r, hr, rfl, hR, hG⟩
  have HN2 := hid ((unhid HN).grown hG (by omega) (by omega))
  have HG2 := hid (grown_trans (unhid HG) hG)
  have hz2 : w.heap.size + 2 ≤ w2.heap.size := Nat.le_trans hz1 hG.size
  have HR2 := hid hR
  clear hR hG HN HG HR
  by_cases h0 : r = 0
  · subst h0
    obtain ⟨⟨c0, f0⟩, ⟨c1, f1⟩, c2, f2⟩ := (unhid HN2).grown (World.grownBy_alloc w2 (.cells #[.string x, .int .i64 0, .string ⟨#[]⟩] 30) (some b)) (by omega) (by omega)
    have G := hid (grown_trans (unhid HG2) (World.grownBy_alloc w2 (.cells #[.string x, .int .i64 0, .string ⟨#[]⟩] 30) (some b)))
    have R := hid ((unhid HR2).alloc (.cells #[.string x, .int .i64 0, .string ⟨#[]⟩] 30))
    go_wp2_with fail
    refine bodyPost_ret (v := .agg #[.string x, .int .i64 0, .string ⟨#[]⟩]) (by simp [results, Try.results39, go_sem, World.cell?_setCell_same', c0, c1, c2]) rfl ⟨x, ⟨#[]⟩, 0, hx, short_nil, rfl, ⟨_, ?_, (((unhid R).set ?_ _).set ?_ _).set ?_ _⟩, grown_set (grown_set (grown_set (unhid G) (Nat.le_refl _) _) (Nat.le_refl _) _) (Nat.le_refl _) _⟩
    all_goals (try dsimp only); omega
  · have h0' : ((r : Int) != 0) = true := by rw [bne_iff_ne]; omega
    have NN := hid (needAt_new w2 x r ⟨#[]⟩ 30)
    have N0 := hid ((unhid HN2).grown (World.grownBy_alloc w2 (.cells #[.string x, .int .i64 r, .string ⟨#[]⟩] 30) (some b)) (by omega) (by omega))
    have G := hid (grown_trans (unhid HG2) (World.grownBy_alloc w2 (.cells #[.string x, .int .i64 r, .string ⟨#[]⟩] 30) (some b)))
    have R := hid ((unhid HR2).alloc (.cells #[.string x, .int .i64 r, .string ⟨#[]⟩] 30))
    clear HN2 HG2 HR2
    go_wp2_with fail
    refine (l11Version_any _ b a len cap _ (unhid R) (by omega)).mono ?_
    rintro e w3 ⟨v, hv, rfl, hR, hG⟩
    obtain ⟨⟨d0, g0⟩, ⟨d1, g1⟩, d2, g2⟩ := (unhid NN).grown hG (by simp) (by omega)
    have hN3 := (unhid N0).grown hG (by simp; omega) (by omega)
    obtain ⟨⟨c0, f0⟩, ⟨c1, f1⟩, c2, f2⟩ := hN3
    have G3 := hid (grown_trans (unhid G) hG)
    have R3 := hid hR
    have hz3 : w.heap.size + 3 ≤ w3.heap.size := by have := hG.size; simp at this; omega
    clear hG hR NN N0 G R
    have hne : ∀ i j, (⟨w2.heap.size, i, none⟩ : Addr) ≠ ⟨w.heap.size, j, none⟩ := fun i j e => by have := congrArg Addr.block e; simp at this; omega
    have hne' : ¬ w2.heap.size = w.heap.size := by omega
    have hne2 : ¬ w.heap.size = w2.heap.size := by omega
    go_wp2_with fail
    refine bodyPost_ret (v := .agg #[.string x, .int .i64 r, .string v]) (by simp [results, Try.results39, go_sem, World.cell?_setCell_same', c0, c1, c2]) rfl ⟨x, v, r, hx, hv, rfl, ⟨_, ?_, ((((unhid R3).set ?_ _).set ?_ _).set ?_ _).set ?_ _⟩, grown_set (grown_set (grown_set (grown_set (unhid G3) ?_ _) (Nat.le_refl _) _) (Nat.le_refl _) _) (Nat.le_refl _) _⟩
    all_goals (try dsimp only); omega

set_option maxRecDepth 100000 in
set_option maxHeartbeats 4000000 in
theorem l11AnyNeed_any (w : World) (b : Nat) (a : Option Addr) (len cap p : Nat) (h : Rd w b a len cap p) (hp : p ≤ 900000) :
    Calls Try.prog 29 #[.pointer (some ⟨b, 0, none⟩)] w fun e w' => ∃ (x v : ByteArray) (k : Int), short x ∧ short v ∧ e = .returned (.agg #[.string x, .int .i64 k, .string v]) ∧ (∃ p', p' ≤ p + 6 ∧ Rd w' b a len cap p') ∧ w.grownBy w' (some b) := by
  have H := hid (h.alloc (.cells #[.string ⟨#[]⟩, .int .i64 0, .string ⟨#[]⟩] 30))
  have hbl := h.lt
  clear h
  go_enter Try.func29, Try.ntmps29
  go_wp2_with fail
  refine (l11Need_any _ b a len cap p (unhid H) (by omega)).mono ?_
  rintro e w1 ⟨x, v, k, hx, hv, rfl, ⟨p1, hp1, hR⟩, hG⟩
  have hz1 : w.heap.size + 1 ≤ w1.heap.size := by have := hG.size; simpa using this
  have N0 := hid (((needAt_new w ⟨#[]⟩ 0 ⟨#[]⟩ 30).grown hG (by simp) (by omega)).grown (World.grownBy_alloc w1 (.cells #[.string x, .int .i64 k, .string v] 30) (some b)) (by omega) (by omega))
  have NN := hid (needAt_new w1 x k v 30)
  have G := hid (grown_trans (grown_trans (World.grownBy_alloc w _ (some b)) hG) (World.grownBy_alloc w1 (.cells #[.string x, .int .i64 k, .string v] 30) (some b)))
  have R := hid (hR.alloc (.cells #[.string x, .int .i64 k, .string v] 30))
  clear hR hG H
  go_wp2_with fail
  refine (pick_any _ b a len cap p1 (unhid R) (by omega) 14 (by omega) (by omega)).mono ?_
  rintro e w2 ⟨r, hr, rfl, hR, hG⟩
  have N0' := hid ((unhid N0).grown hG (by simp; omega) (by omega))
  have NN' := hid ((unhid NN).grown hG (by simp) (by omega))
  have G2 := hid (grown_trans (unhid G) hG)
  have R2 := hid hR
  have hz2 : w1.heap.size + 1 ≤ w2.heap.size := by have := hG.size; simpa using this
  clear hG hR N0 NN G R
  have hne' : ¬ w1.heap.size = w.heap.size := by omega
  have hne2 : ¬ w.heap.size = w1.heap.size := by omega
  by_cases h0 : r = 0
  · subst h0
    go_wp2_with fail
    refine (of_any short _ b a len cap (p1 + 1) ?h1 (by omega) w2.heap.size 4 4 ?h2 (by omega) (by omega) ?h5).mono ?_
    case h1 => exact (unhid R2).alloc _
    case h2 => omega
    case h5 => exact fun k hk => row_short_at _ _ _ _ (by simp) (by kernel_rfl) k hk
    rintro e w3 ⟨y, hy, rfl, hR, hG0⟩
    have hG := grown_trans (World.grownBy_alloc w2 _ (some b)) hG0
    obtain ⟨⟨d0, g0⟩, ⟨d1, g1⟩, d2, g2⟩ := (unhid NN').grown hG (by omega) (by omega)
    obtain ⟨⟨c0, f0⟩, ⟨c1, f1⟩, c2, f2⟩ := (unhid N0').grown hG (by omega) (by omega)
    have G3 := hid (grown_trans (unhid G2) hG)
    have R3 := hid hR
    clear hG hG0 hR NN' N0' G2 R2
    go_wp2_with fail
    refine bodyPost_ret (v := .agg #[.string y, .int .i64 k, .string v]) (by simp [results, Try.results29, go_sem, World.cell?_setCell_same', c0, c1, c2]) rfl ⟨y, v, k, hy, hv, rfl, ⟨_, ?_, ((((unhid R3).set ?_ _).set ?_ _).set ?_ _).set ?_ _⟩, grown_set (grown_set (grown_set (grown_set (unhid G3) ?_ _) (Nat.le_refl _) _) (Nat.le_refl _) _) (Nat.le_refl _) _⟩
    all_goals (try dsimp only); omega
  · by_cases h1 : r = 1
    · subst h1
      go_wp2_with fail
      refine (pick_any _ b a len cap _ (unhid R2) (by omega) 6 (by omega) (by omega)).mono ?_
      rintro e w3 ⟨q, hq, rfl, hR, hG⟩
      obtain ⟨⟨d0, g0⟩, ⟨d1, g1⟩, d2, g2⟩ := (unhid NN').grown hG (by omega) (by omega)
      obtain ⟨⟨c0, f0⟩, ⟨c1, f1⟩, c2, f2⟩ := (unhid N0').grown hG (by omega) (by omega)
      have G3 := hid (grown_trans (unhid G2) hG)
      have R3 := hid hR
      clear hG hR NN' N0' G2 R2
      go_wp2_with fail
      refine bodyPost_ret (v := .agg #[.string x, .int .i64 ((q : Int) - 1), .string v]) (by simp [results, Try.results29, go_sem, World.cell?_setCell_same', c0, c1, c2]) rfl ⟨x, v, (q : Int) - 1, hx, hv, rfl, ⟨_, ?_, ((((unhid R3).set ?_ _).set ?_ _).set ?_ _).set ?_ _⟩, grown_set (grown_set (grown_set (grown_set (unhid G3) ?_ _) (Nat.le_refl _) _) (Nat.le_refl _) _) (Nat.le_refl _) _⟩
      all_goals (try dsimp only); omega
    · by_cases h2 : r = 2
      · subst h2
        go_wp2_with fail
        refine (l11AnyVersion_any _ b a len cap _ (unhid R2) (by omega)).mono ?_
        rintro e w3 ⟨y, hy, rfl, hR, hG⟩
        obtain ⟨⟨d0, g0⟩, ⟨d1, g1⟩, d2, g2⟩ := (unhid NN').grown hG (by omega) (by omega)
        obtain ⟨⟨c0, f0⟩, ⟨c1, f1⟩, c2, f2⟩ := (unhid N0').grown hG (by omega) (by omega)
        have G3 := hid (grown_trans (unhid G2) hG)
        have R3 := hid hR
        clear hG hR NN' N0' G2 R2
        go_wp2_with fail
        refine bodyPost_ret (v := .agg #[.string x, .int .i64 k, .string y]) (by simp [results, Try.results29, go_sem, World.cell?_setCell_same', c0, c1, c2]) rfl ⟨x, y, k, hx, hy, rfl, ⟨_, ?_, ((((unhid R3).set ?_ _).set ?_ _).set ?_ _).set ?_ _⟩, grown_set (grown_set (grown_set (grown_set (unhid G3) ?_ _) (Nat.le_refl _) _) (Nat.le_refl _) _) (Nat.le_refl _) _⟩
        all_goals (try dsimp only); omega
      · have b0 : ((r : Int) == 0) = false := by rw [beq_eq_false_iff_ne]; omega
        have b1 : ((r : Int) == 1) = false := by rw [beq_eq_false_iff_ne]; omega
        have b2 : ((r : Int) == 2) = false := by rw [beq_eq_false_iff_ne]; omega
        obtain ⟨⟨d0, g0⟩, ⟨d1, g1⟩, d2, g2⟩ := unhid NN'
        obtain ⟨⟨c0, f0⟩, ⟨c1, f1⟩, c2, f2⟩ := unhid N0'
        go_wp2_with fail
        refine bodyPost_ret (v := .agg #[.string x, .int .i64 k, .string v]) (by simp [results, Try.results29, go_sem, World.cell?_setCell_same', c0, c1, c2]) rfl ⟨x, v, k, hx, hv, rfl, ⟨_, ?_, (((unhid R2).set ?_ _).set ?_ _).set ?_ _⟩, grown_set (grown_set (grown_set (unhid G2) (Nat.le_refl _) _) (Nat.le_refl _) _) (Nat.le_refl _) _⟩
        all_goals (try dsimp only); omega
end Go.Proofs.Ytobalkbddefaiaa
