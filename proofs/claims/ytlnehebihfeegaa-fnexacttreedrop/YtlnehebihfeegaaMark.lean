/- What the laws write over a row to see whose it is. -/
import Derived.Test.YtlnehebihfeegaaEntEq
import Derived.Laws.IdiomStrings
namespace Go.Proofs.Ytlnehebihfeegaa
open Go.RowKit Go.Shelf

/-- The figures of a number, ahead of others. -/
def mdig : Nat → Nat → List UInt8 → List UInt8
  | 0, _, acc => acc
  | f + 1, k, acc => if k = 0 then acc else mdig f (k / 10) (UInt8.ofNat (48 + k % 10) :: acc)
def mtext (k : Nat) : ByteArray := ⟨(109 :: mdig 20 k []).toArray⟩
theorem mdig_step (f k : Nat) (acc : List UInt8) (hk : 0 < k) : mdig (f + 1) k acc = mdig f (k / 10) (UInt8.ofNat (48 + k % 10) :: acc) := by
  rw [mdig, if_neg (by omega)]
theorem mdig_zero (f : Nat) (acc : List UInt8) : mdig f 0 acc = acc := by cases f <;> simp [mdig]

theorem ba_cons (c : UInt8) (l : List UInt8) : (⟨#[c]⟩ : ByteArray) ++ ⟨l.toArray⟩ = ⟨(c :: l).toArray⟩ := by
  apply ByteArray.ext
  simp [ByteArray.data_append]
theorem conv_one (w : World) (q : Nat) : Sem.run Try.prog (convert 22 9 (.slice (some ⟨w.heap.size, 0, none⟩) 1 1)) (w.alloc (.cells #[.int .u8 (48 + (q : Int) % 10)] 5)) = .ok (.string ⟨#[UInt8.ofNat (48 + q % 10)]⟩) (w.alloc (.cells #[.int .u8 (48 + (q : Int) % 10)] 5)) := by
  refine run_convert_bytes_back (P := Try.prog) _ 22 9 5 ⟨w.heap.size, 0, none⟩ 1 [UInt8.ofNat (48 + q % 10)] (by kernel_rfl) (by kernel_rfl) (by kernel_rfl) (fun j hj => ?_)
  have : j = 0 := by simpa using hj
  subst this
  have h1 := (cell_new_l w (.int .u8 (48 + (q : Int) % 10)) 5).1
  have h2 : (UInt8.ofNat (48 + q % 10)).toNat = 48 + q % 10 := by simp; omega
  simp only [List.getElem_cons_zero, h2]
  have e : ((⟨w.heap.size, 0, none⟩ : Addr).add 0) = ⟨w.heap.size, 0, none⟩ := rfl
  rw [e, h1]; rfl

set_option maxRecDepth 100000 in
set_option maxHeartbeats 1000000 in
theorem markText_any (k : Nat) (w : World) (hk : 0 < k) (hk2 : k < 100000000) :
    Calls Try.prog 63 #[.int .i64 (k : Int)] w fun x w' => x = .returned (.string (mtext k)) ∧ Below w.heap.size w w' := by
  go_enter Try.func63, Try.ntmps63
  go_wp2_with fail
  go_loopw [0, 3] (fun c o wr => ∃ (f q : Nat) (l : List UInt8), Hid (q < 10 ^ f) ∧ q < 100000000 ∧ l.length + f ≤ 20 ∧ c = .int .i64 (q : Int) ∧ o = .string ⟨l.toArray⟩ ∧ Hid (mdig f q l = mdig 20 k []) ∧ Below w.heap.size w wr) (fun c _ _ => (intOf c).toNat)
  case atStart => exact ⟨20, k, [], hid (by omega), hk2, by simp, rfl, rfl, hid rfl, Below.refl _ _⟩
  case round =>
    obtain ⟨f, q, l, hq, hq2, hl, rfl, rfl, HD, hB⟩ := hrel
    by_cases h0 : 0 < q
    · obtain ⟨f, rfl⟩ : ∃ g, f = g + 1 := ⟨f - 1, by have : f ≠ 0 := (by rintro rfl; have := unhid hq; omega)
                                                     omega⟩
      have hcv := conv_one wr q
      have HS := hid (mdig_step f q l h0)
      have HB := hid ((hB.alloc hB.size (.cells #[.int .u8 (48 + (q : Int) % 10)] 5)))
      go_wp2_with fail
      go_roundw
      case rel =>
        refine ⟨f, q / 10, UInt8.ofNat (48 + q % 10) :: l, hid (by have := unhid hq; rw [Nat.pow_succ] at this; omega), by omega, by simp; omega, by go_num, ?_, hid (by rw [← unhid HS]; exact unhid HD), unhid HB⟩
        rw [ba_cons]
        simp
      case measure => simp [intOf]; omega
    · have e : q = 0 := by omega
      subst e
      go_wp2_with fail
      go_ret
      refine ⟨?_, hB⟩
      have := unhid HD
      rw [mdig_zero] at this
      unfold mtext
      rw [← this, ba_cons]
      rfl

theorem markText_at (c : Int) (k : Nat) (w : World) (hc : c = (k : Int)) (hk : 0 < k) (hk2 : k < 100000000) :
    Calls Try.prog 63 #[.int .i64 c] w fun x w' => x = .returned (.string (mtext k)) ∧ Below w.heap.size w w' := by subst hc; exact markText_any k w hk hk2
theorem grownBy_below {w w' w'' : World} {row : Option Nat} (h : w.grownBy w' row) (hb : Below w'.heap.size w' w'') : w.grownBy w'' row :=
  ⟨hb.os.trans h.os, hb.tape.trans h.tape, hb.output.trans h.output, Nat.le_trans h.size hb.size, fun k hk hr => (hb.block k (Nat.lt_of_lt_of_le hk h.size)).trans (h.block k hk hr)⟩
theorem grown_setCell {w w' : World} {g : Nat} (h : w.grownBy w' (some g)) (o : Nat) (v : Value) : w.grownBy (w'.setCell ⟨g, o, .none⟩ v) (some g) :=
  ⟨h.os, h.tape, h.output, by simpa using h.size, fun k hk hr => (Below.heap_setCell _ _ _ _ (fun e => hr (by have e' : k = g := e; rw [e']))).trans (h.block k hk hr)⟩
theorem ret_int {k : IntKind} {a b : Int} (h : a = b) : Ending.returned (.int k a) = .returned (.int k b) := by rw [h]
/-- A block whose first cells are n entries. -/
def RowE (W : World) (g n : Nat) (f : Nat → Ent) : Prop := ∃ cur : Array Value, W.heap[g]? = some (.cells cur 27 (0, 0)) ∧ n * 4 ≤ cur.size ∧ ∀ i, i < n → cur[i * 4]? = some (.string (f i).path) ∧ cur[i * 4 + 1]? = some (.int .i64 (f i).kind) ∧ cur[i * 4 + 2]? = some (.int .i64 (f i).mode) ∧ cur[i * 4 + 3]? = some (.string (f i).text)
theorem RowE.lt {W : World} {g n : Nat} {f : Nat → Ent} (x : RowE W g n f) : g < W.heap.size := by
  obtain ⟨cur, h1, _⟩ := x; exact (Array.getElem?_eq_some_iff.1 h1).1
theorem RowE.block {W W' : World} {g n : Nat} {f : Nat → Ent} (x : RowE W g n f) (e : W'.heap[g]? = W.heap[g]?) : RowE W' g n f := by
  obtain ⟨cur, h1, h2, h3⟩ := x; exact ⟨cur, e.trans h1, h2, h3⟩
theorem RowE.below {W W' : World} {B g n : Nat} {f : Nat → Ent} (x : RowE W g n f) (hb : Below B W W') (hg : g < B) : RowE W' g n f := x.block (hb.block g hg)
theorem RowE.congr {W : World} {g n : Nat} {f f' : Nat → Ent} (x : RowE W g n f) (e : ∀ j, j < n → f j = f' j) : RowE W g n f' := by
  obtain ⟨cur, h1, h2, h3⟩ := x; exact ⟨cur, h1, h2, fun j hj => by rw [← e j hj]; exact h3 j hj⟩
theorem RowE.cells {W : World} {g n : Nat} {f : Nat → Ent} (x : RowE W g n f) (k : Nat) (hk : k < n) : EntAt W g (k * 4) (f k) ∧ (W.frozen? ⟨g, k * 4, .none⟩ = false ∧ W.frozen? ⟨g, k * 4 + 1, .none⟩ = false ∧ W.frozen? ⟨g, k * 4 + 2, .none⟩ = false ∧ W.frozen? ⟨g, k * 4 + 3, .none⟩ = false) := by
  obtain ⟨cur, h1, h2, h3⟩ := x
  obtain ⟨a, b, c, d⟩ := h3 k hk
  exact ⟨⟨by simp [World.cell?, h1, a], by simp [World.cell?, h1, b], by simp [World.cell?, h1, c], by simp [World.cell?, h1, d]⟩, by simp [World.frozen?, h1], by simp [World.frozen?, h1], by simp [World.frozen?, h1], by simp [World.frozen?, h1]⟩
theorem RowE.set0 {W : World} {g n : Nat} {f : Nat → Ent} (x : RowE W g n f) (k : Nat) (hk : k < n) (p : ByteArray) : RowE (W.setCell ⟨g, k * 4, .none⟩ (.string p)) g n (upd f k { f k with path := p }) := by
  obtain ⟨cur, h1, h2, h3⟩ := x
  refine ⟨cur.setIfInBounds (k * 4) (.string p), heap_setCell_same _ g _ _ _ _ h1, by simpa using h2, fun i hi => ?_⟩
  obtain ⟨a, b, c, d⟩ := h3 i hi
  unfold upd
  simp only [Array.getElem?_setIfInBounds]
  by_cases e1 : i = k
  · subst e1
    rw [if_pos rfl, if_pos rfl, if_pos (by omega), if_neg (by omega), if_neg (by omega), if_neg (by omega)]
    exact ⟨rfl, b, c, d⟩
  · rw [if_neg e1, if_neg (by omega), if_neg (by omega), if_neg (by omega), if_neg (by omega)]
    exact ⟨a, b, c, d⟩
theorem RowE.set1 {W : World} {g n : Nat} {f : Nat → Ent} (x : RowE W g n f) (k : Nat) (hk : k < n) (p : Int) : RowE (W.setCell ⟨g, k * 4 + 1, .none⟩ (.int .i64 p)) g n (upd f k { f k with kind := p }) := by
  obtain ⟨cur, h1, h2, h3⟩ := x
  refine ⟨cur.setIfInBounds (k * 4 + 1) (.int .i64 p), heap_setCell_same _ g _ _ _ _ h1, by simpa using h2, fun i hi => ?_⟩
  obtain ⟨a, b, c, d⟩ := h3 i hi
  unfold upd
  simp only [Array.getElem?_setIfInBounds]
  by_cases e1 : i = k
  · subst e1
    rw [if_pos rfl, if_pos rfl, if_neg (by omega), if_pos (by omega), if_neg (by omega), if_neg (by omega)]
    exact ⟨a, rfl, c, d⟩
  · rw [if_neg e1, if_neg (by omega), if_neg (by omega), if_neg (by omega), if_neg (by omega)]
    exact ⟨a, b, c, d⟩
theorem RowE.set2 {W : World} {g n : Nat} {f : Nat → Ent} (x : RowE W g n f) (k : Nat) (hk : k < n) (p : Int) : RowE (W.setCell ⟨g, k * 4 + 2, .none⟩ (.int .i64 p)) g n (upd f k { f k with mode := p }) := by
  obtain ⟨cur, h1, h2, h3⟩ := x
  refine ⟨cur.setIfInBounds (k * 4 + 2) (.int .i64 p), heap_setCell_same _ g _ _ _ _ h1, by simpa using h2, fun i hi => ?_⟩
  obtain ⟨a, b, c, d⟩ := h3 i hi
  unfold upd
  simp only [Array.getElem?_setIfInBounds]
  by_cases e1 : i = k
  · subst e1
    rw [if_pos rfl, if_neg (by omega), if_neg (by omega), if_pos rfl, if_pos (by omega), if_neg (by omega)]
    exact ⟨a, b, rfl, d⟩
  · rw [if_neg e1, if_neg (by omega), if_neg (by omega), if_neg (by omega), if_neg (by omega)]
    exact ⟨a, b, c, d⟩
theorem RowE.set3 {W : World} {g n : Nat} {f : Nat → Ent} (x : RowE W g n f) (k : Nat) (hk : k < n) (p : ByteArray) : RowE (W.setCell ⟨g, k * 4 + 3, .none⟩ (.string p)) g n (upd f k { f k with text := p }) := by
  obtain ⟨cur, h1, h2, h3⟩ := x
  refine ⟨cur.setIfInBounds (k * 4 + 3) (.string p), heap_setCell_same _ g _ _ _ _ h1, by simpa using h2, fun i hi => ?_⟩
  obtain ⟨a, b, c, d⟩ := h3 i hi
  unfold upd
  simp only [Array.getElem?_setIfInBounds]
  by_cases e1 : i = k
  · subst e1
    rw [if_pos rfl, if_neg (by omega), if_neg (by omega), if_neg (by omega), if_pos rfl, if_pos (by omega)]
    exact ⟨a, b, c, rfl⟩
  · rw [if_neg e1, if_neg (by omega), if_neg (by omega), if_neg (by omega), if_neg (by omega)]
    exact ⟨a, b, c, d⟩

/-- The entry that the laws write at a place. -/
def markE (q i : Nat) : Ent := ⟨mtext (q + i * 4), ((q + i * 4 + 1 : Nat) : Int), ((q + i * 4 + 2 : Nat) : Int), mtext (q + i * 4 + 3)⟩

set_option maxRecDepth 100000 in
set_option maxHeartbeats 4000000 in
theorem markEntryS_row (g n cap q : Nat) (f : Nat → Ent) (w : World) (hn : n ≤ 1048576) (hq : 0 < q) (hq2 : q ≤ 20000000) (h : RowE w g n f) :
    Calls Try.prog 32 #[.slice (some ⟨g, 0, .none⟩) n cap, .int .i64 (q : Int)] w fun x w' => x = .returned (.int .i64 ((q + n * 4 : Nat) : Int)) ∧ RowE w' g n (markE q) ∧ w.grownBy w' (some g) := by
  have hgl := h.lt
  go_enter Try.func32, Try.ntmps32
  go_wp2_with fail
  go_loopw [1, 5] (fun c i wr => ∃ k : Nat, k ≤ n ∧ i = .int .i64 (k : Int) ∧ c = .int .i64 ((q + k * 4 : Nat) : Int) ∧ RowE wr g n (fun j => if j < k then markE q j else f j) ∧ w.grownBy wr (some g)) (fun _ i _ => n - (intOf i).toNat)
  case atStart => exact ⟨0, Nat.zero_le _, rfl, by go_num, h.congr (fun j _ => by simp), gb_refl _ _⟩
  case round =>
    obtain ⟨k, hk, rfl, rfl, hR, hG⟩ := hrel
    by_cases hlt : k < n
    · obtain ⟨⟨d0, d1, d2, d3⟩, f0, f1, f2, f3⟩ := hR.cells k hlt
      have HR := hid hR
      have HG := hid hG
      clear hR hG h
      go_wp2_with fail
      refine (markText_at _ (q + k * 4) _ (by omega) (by omega) (by omega)).mono ?_
      rintro x w1 ⟨rfl, hb1⟩
      have hgr : g < wr.heap.size := (unhid HR).lt
      have hR1 := (unhid HR).below hb1 hgr
      have HG1 := hid (grownBy_below (unhid HG) hb1)
      obtain ⟨⟨d0, d1, d2, d3⟩, f0, f1, f2, f3⟩ := hR1.cells k hlt
      have hR2 := ((hR1.set0 k hlt (mtext (q + k * 4))).set1 k hlt ((q : Int) + (k : Int) * 4 + 1)).set2 k hlt ((q : Int) + (k : Int) * 4 + 1 + 1)
      have hg1 : w.grownBy (((w1.setCell ⟨g, k * 4, .none⟩ (.string (mtext (q + k * 4)))).setCell ⟨g, k * 4 + 1, .none⟩ (.int .i64 ((q : Int) + (k : Int) * 4 + 1))).setCell ⟨g, k * 4 + 2, .none⟩ (.int .i64 ((q : Int) + (k : Int) * 4 + 1 + 1))) (some g) := grown_setCell (grown_setCell (grown_setCell (unhid HG1) _ _) _ _) _ _
      obtain ⟨W3, hW3⟩ : ∃ W3, W3 = (((w1.setCell ⟨g, k * 4, .none⟩ (.string (mtext (q + k * 4)))).setCell ⟨g, k * 4 + 1, .none⟩ (.int .i64 ((q : Int) + (k : Int) * 4 + 1))).setCell ⟨g, k * 4 + 2, .none⟩ (.int .i64 ((q : Int) + (k : Int) * 4 + 1 + 1))) := ⟨_, rfl⟩
      rw [← hW3] at hR2 hg1
      have HR2 := hid (And.intro hR2 hg1)
      have HW3 := hid hW3
      clear hR1 hb1 HR HG hR2 hg1 HG1 hW3
      go_wp2_with fail
      rw [← unhid HW3]
      refine (markText_at _ (q + k * 4 + 3) _ (by omega) (by omega) (by omega)).mono ?_
      rintro x w4 ⟨rfl, hb4⟩
      have hR4 := (unhid HR2).1.below hb4 (unhid HR2).1.lt
      have hG4 := grownBy_below (unhid HR2).2 hb4
      have hR5 := hR4.set3 k hlt (mtext (q + k * 4 + 3))
      obtain ⟨⟨-, -, -, d3⟩, -, -, -, f3⟩ := hR4.cells k hlt
      have HF := hid (And.intro hR5 (grown_setCell hG4 (k * 4 + 3) (.string (mtext (q + k * 4 + 3)))))
      clear hR4 hG4 hR5 HR2 HW3 hb4 d0 d1 d2 f0 f1 f2
      go_wp2_with fail
      go_roundw
      case rel =>
        refine ⟨k + 1, by omega, by go_num, by go_num, (unhid HF).1.congr (fun j hj => ?_), (unhid HF).2⟩
        unfold upd
        by_cases ej : j = k
        · subst ej
          simp [markE]
          omega
        · simp only [if_neg ej]
          by_cases hj2 : j < k
          · rw [if_pos hj2, if_pos (by omega)]
          · rw [if_neg hj2, if_neg (by omega)]
      case measure => simp [intOf]; omega
    · have e : k = n := by omega
      subst e
      go_wp2_with fail
      go_ret
      exact ⟨ret_int (by go_num), hR.congr (fun j hj => by rw [if_pos hj]), hG⟩
end Go.Proofs.Ytlnehebihfeegaa
