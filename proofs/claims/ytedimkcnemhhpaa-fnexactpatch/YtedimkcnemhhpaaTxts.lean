/- Rows of texts: what they hold, the laws' own copies of them, their sizes; two rows of the same texts are the same. -/
import Derived.Test.YtedimkcnemhhpaaBytesOf
import Derived.Deep.OwnRows
import Derived.Maps.OwnIn
import Derived.Deep.RegionWith
import Derived.Lib.Strings
namespace Go.Proofs.Ytedimkcnemhhpaa
open Go.RowKit Go.Shelf

/-- A row of texts that is read. -/
def TxtsAt (W : World) (a : Option Addr) (xs : List ByteArray) : Prop := xs = [] ∨ ∃ b o, a = some ⟨b, o, .none⟩ ∧ b < W.heap.size ∧ ∀ (i : Nat) x, xs[i]? = some x → W.cell? ⟨b, o + i, .none⟩ = some (.string x)
theorem TxtsAt.below {W W' : World} {a : Option Addr} {xs : List ByteArray} (h : TxtsAt W a xs) (hb : Below W.heap.size W W') : TxtsAt W' a xs := by
  rcases h with h | ⟨b, o, rfl, hl, hc⟩
  · exact .inl h
  · exact .inr ⟨b, o, rfl, Nat.lt_of_lt_of_le hl hb.size, fun i x hi => (hb.cell (p := ⟨b, o + i, .none⟩) hl).trans (hc i x hi)⟩
theorem TxtsAt.get {W : World} {a : Option Addr} {xs : List ByteArray} (h : TxtsAt W a xs) (hne : xs ≠ []) : ∃ b o, a = some ⟨b, o, .none⟩ ∧ b < W.heap.size ∧ ∀ (i : Nat) x, xs[i]? = some x → W.cell? ⟨b, o + i, .none⟩ = some (.string x) := h.resolve_left hne
theorem TxtsAt.block {W W' : World} {a : Option Addr} {xs : List ByteArray} (h : TxtsAt W a xs) (g : Nat) (hne : ∀ b o, a = some ⟨b, o, .none⟩ → b ≠ g) (hz : W.heap.size ≤ W'.heap.size) (hb : ∀ b, b < W.heap.size → b ≠ g → W'.heap[b]? = W.heap[b]?) : TxtsAt W' a xs := by
  rcases h with h | ⟨b, o, rfl, hl, hc⟩
  · exact .inl h
  · exact .inr ⟨b, o, rfl, Nat.lt_of_lt_of_le hl hz, fun i x hi => (World.cell?_of_block (w := W) (hb b hl (hne b o rfl))).trans (hc i x hi)⟩
def totX (xs : List ByteArray) : Nat := (xs.map fun x => x.size).sum
theorem totX_take (xs : List ByteArray) (k : Nat) (x : ByteArray) (h : xs[k]? = some x) : totX (xs.take (k + 1)) = totX (xs.take k) + x.size := by
  unfold totX
  rw [List.take_add_one, h]
  simp
theorem totX_mem {xs : List ByteArray} {x : ByteArray} (h : x ∈ xs) : x.size ≤ totX xs := by
  unfold totX
  induction xs with
  | nil => cases h
  | cons y ys ih =>
    rcases List.mem_cons.1 h with rfl | h
    · simp
    · have := ih h; simp; omega
def bigX (xs : List ByteArray) : Prop := ∀ x ∈ xs, x.size ≤ maxLen

set_option maxRecDepth 100000 in
set_option maxHeartbeats 2000000 in
theorem szStringS_any (xs : List ByteArray) (a : Option Addr) (cap : Nat) (left : Int) (w : World) (hz : bigX xs) (hlen : xs.length ≤ maxLen) (hl : 0 ≤ left) (hl2 : left ≤ 1048576) (h : TxtsAt w a xs) :
    Calls Try.prog 20 #[.slice a xs.length cap, .int .i64 left] w fun x w' => (∃ r : Int, x = .returned (.int .i64 r) ∧ r ≤ left ∧ (r < 0 ∨ r + xs.length + totX xs = left)) ∧ w' = w := by
  unfold maxLen at hlen
  by_cases h0 : left - (xs.length : Int) < 0
  · go_enter Try.func20, Try.ntmps20
    go_wp2_with fail
    go_ret
    exact ⟨⟨-1, rfl, by omega, .inl (by omega)⟩, rfl⟩
  · go_enter Try.func20, Try.ntmps20
    go_wp2_with fail
    go_loop [1, 5] (fun l i => ∃ (k : Nat) (q : Int), k ≤ xs.length ∧ i = .int .i64 k ∧ l = .int .i64 q ∧ 0 ≤ q ∧ q + xs.length + totX (xs.take k) = left) (fun _ i => xs.length - (intOf i).toNat)
    case atStart => exact ⟨0, _, Nat.zero_le _, rfl, rfl, by omega, by simp [totX]⟩
    case round =>
      obtain ⟨k, q, hk, rfl, rfl, hq, hs⟩ := hrel
      by_cases hlt : k < xs.length
      · obtain ⟨x, he⟩ : ∃ x, xs[k]? = some x := ⟨xs[k], List.getElem?_eq_getElem hlt⟩
        obtain ⟨b, o, rfl, hbl, hc⟩ := h.get (by intro e; subst e; simp at hlt)
        have c0 := hc k x he
        have z1 : x.size ≤ 9223372036854775807 := hz x (List.mem_of_getElem? he)
        have HS := hid (totX_take xs k x he)
        have HE := hid (And.intro hz hc)
        clear hz hc he
        by_cases hr0 : q - (x.size : Int) < 0
        · go_wp2_with fail
          go_ret
          exact ⟨⟨-1, rfl, by omega, .inl (by omega)⟩, rfl⟩
        · go_wp2_with fail
          refine ⟨⟨k + 1, q - x.size, by omega, by go_num, rfl, by omega, by rw [unhid HS]; omega⟩, by simp [intOf]; omega⟩
      · have e : k = xs.length := by omega
        subst e
        rw [List.take_of_length_le (Nat.le_refl _)] at hs
        go_wp2_with fail
        go_ret
        exact ⟨⟨q, rfl, by omega, .inr hs⟩, rfl⟩

/-- A block that is a row of n texts. -/
def TxtRow (W : World) (g T n : Nat) (f : Nat → ByteArray) : Prop := ∃ cur : Array Value, W.heap[g]? = some (.cells cur T (0, 0)) ∧ cur.size = n ∧ ∀ i, i < n → cur[i]? = some (.string (f i))
theorem TxtRow.lt {W : World} {g T n : Nat} {f : Nat → ByteArray} (x : TxtRow W g T n f) : g < W.heap.size := by
  obtain ⟨cur, h1, _⟩ := x; exact (Array.getElem?_eq_some_iff.1 h1).1
theorem TxtRow.block {W W' : World} {g T n : Nat} {f : Nat → ByteArray} (x : TxtRow W g T n f) (e : W'.heap[g]? = W.heap[g]?) : TxtRow W' g T n f := by
  obtain ⟨cur, h1, h2, h3⟩ := x; exact ⟨cur, e.trans h1, h2, h3⟩
theorem TxtRow.below {W W' : World} {B g T n : Nat} {f : Nat → ByteArray} (x : TxtRow W g T n f) (hb : Below B W W') (hg : g < B) : TxtRow W' g T n f := x.block (hb.block g hg)
theorem TxtRow.congr {W : World} {g T n : Nat} {f f' : Nat → ByteArray} (x : TxtRow W g T n f) (e : ∀ j, j < n → f j = f' j) : TxtRow W g T n f' := by
  obtain ⟨cur, h1, h2, h3⟩ := x; exact ⟨cur, h1, h2, fun j hj => by rw [← e j hj]; exact h3 j hj⟩
theorem TxtRow.cells {W : World} {g T n : Nat} {f : Nat → ByteArray} (x : TxtRow W g T n f) (k : Nat) (hk : k < n) : W.cell? ⟨g, k, .none⟩ = some (.string (f k)) ∧ W.frozen? ⟨g, k, .none⟩ = false := by
  obtain ⟨cur, h1, h2, h3⟩ := x
  exact ⟨by simp [World.cell?, h1, h3 k hk], by simp [World.frozen?, h1]⟩
def updX (f : Nat → ByteArray) (k : Nat) (e : ByteArray) : Nat → ByteArray := fun j => if j = k then e else f j
theorem TxtRow.set {W : World} {g T n : Nat} {f : Nat → ByteArray} (x : TxtRow W g T n f) (k : Nat) (hk : k < n) (e : ByteArray) : TxtRow (W.setCell ⟨g, k, .none⟩ (.string e)) g T n (updX f k e) := by
  obtain ⟨cur, h1, h2, h3⟩ := x
  refine ⟨cur.setIfInBounds k (.string e), heap_setCell_same _ g _ _ T _ h1, by simpa using h2, fun i hi => ?_⟩
  unfold updX
  simp only [Array.getElem?_setIfInBounds]
  by_cases e1 : i = k
  · subst e1
    rw [if_pos rfl, if_pos (by omega), if_pos rfl]
  · rw [if_neg (by omega), if_neg e1]
    exact h3 i hi
def txtFn (xs : List ByteArray) (i : Nat) : ByteArray := xs.getD i ⟨#[]⟩
theorem txtFn_get {xs : List ByteArray} {i : Nat} {x : ByteArray} (h : xs[i]? = some x) : txtFn xs i = x := by unfold txtFn; rw [List.getD_eq_getElem?_getD, h]; rfl
theorem TxtRow.at {W : World} {g T n : Nat} {xs : List ByteArray} (x : TxtRow W g T n (txtFn xs)) (hn : xs.length ≤ n) : TxtsAt W (some ⟨g, 0, .none⟩) xs :=
  .inr ⟨g, 0, rfl, x.lt, fun i e hi => by
    have hl : i < xs.length := (List.getElem?_eq_some_iff.1 hi).1
    have := (x.cells i (by omega)).1
    rw [txtFn_get hi] at this
    rwa [Nat.zero_add]⟩
theorem infoTxt : (Try.prog.info? 9).map (fun i => (i.zero, i.size, i.bytes)) = some (some (.string ⟨#[]⟩), 1, 16) := by kernel_rfl
theorem mkTxts (W : World) (n : Nat) (hn : n ≤ 1048576) : ∃ M : Array Value, (Instr.makeSlice 29 (.int .i64 (n : Int)) (.int .i64 (n : Int))).run Try.prog W = .ok (.slice (some ⟨W.heap.size, 0, .none⟩) n n) (W.alloc (.cells M 9)) ∧ TxtRow (W.alloc (.cells M 9)) W.heap.size 9 n (fun _ => ⟨#[]⟩) := by
  obtain ⟨i, hi, hz0, hz1, hz2⟩ := info_parts infoTxt
  refine ⟨madeCells #[.string ⟨#[]⟩] n, ?_, _, World.alloc_heap_new W _, by simp [madeCells], fun j hj => ?_⟩
  · have := run_make (P := Try.prog) W 29 9 i _ Try.underlying29 hi hz0 .i64 .i64 n n (by omega) (Int.le_refl _) (by rw [hz2]; omega) (by omega)
    simpa [hz1, Value.cells] using this
  · unfold madeCells
    simp only [Array.getElem?_map, Array.getElem?_range]
    rw [if_pos (by omega)]
    simp [Nat.mod_one]

set_option maxRecDepth 100000 in
set_option maxHeartbeats 2000000 in
theorem toStringS_any (xs : List ByteArray) (a : Option Addr) (cap : Nat) (w : World) (hlen : xs.length ≤ 1048576) (h : TxtsAt w a xs) :
    Calls Try.prog 22 #[.slice a xs.length cap] w fun x w' => ∃ g, x = .returned (.slice (some ⟨g, 0, .none⟩) xs.length xs.length) ∧ w.heap.size ≤ g ∧ TxtRow w' g 9 xs.length (txtFn xs) ∧ Below w.heap.size w w' := by
  obtain ⟨M, hmk, hrow⟩ := mkTxts w xs.length hlen
  have HR := hid hrow
  clear hrow
  go_enter Try.func22, Try.ntmps22
  go_wp2_with fail
  clear hmk
  have hB0 : Below w.heap.size w (w.alloc (.cells M 9)) := (Below.refl _ _).alloc (Nat.le_refl _) _
  generalize w.alloc (.cells M 9) = wq at HR hB0 ⊢
  go_loopw [4] (fun i wr => ∃ k : Nat, k ≤ xs.length ∧ i = .int .i64 k ∧ TxtRow wr w.heap.size 9 xs.length (fun j => if j < k then txtFn xs j else ⟨#[]⟩) ∧ Below w.heap.size w wr) (fun i _ => xs.length - (intOf i).toNat)
  case atStart => exact ⟨0, Nat.zero_le _, rfl, (unhid HR).congr (fun j _ => by simp), hB0⟩
  case round =>
    clear HR hB0
    obtain ⟨k, hk, rfl, hR, hB⟩ := hrel
    by_cases hlt : k < xs.length
    · obtain ⟨e, he⟩ : ∃ e, xs[k]? = some e := ⟨xs[k], List.getElem?_eq_getElem hlt⟩
      obtain ⟨b, o, rfl, hbl, hc⟩ := h.get (by intro e; subst e; simp at hlt)
      have c0 := (hB.cell (p := ⟨b, o + k, .none⟩) hbl).trans (hc k e he)
      obtain ⟨d0, f0⟩ := hR.cells k hlt
      have HS := hid (show txtFn xs k = e from txtFn_get he)
      have HB := hid hB
      have HR := hid hR
      have HH := hid hc
      clear hc hB he hR h
      go_wp2_with fail
      go_roundw
      case rel =>
        refine ⟨k + 1, by omega, by go_num, ((unhid HR).set k hlt e).congr (fun j hj => ?_), (unhid HB).setCell (Nat.le_refl _) _⟩
        unfold updX
        by_cases ej : j = k
        · rw [if_pos ej, if_pos (by omega), ej, unhid HS]
        · rw [if_neg ej]
          show (if j < k then txtFn xs j else ⟨#[]⟩) = _
          by_cases hj2 : j < k
          · rw [if_pos hj2, if_pos (by omega)]
          · rw [if_neg hj2, if_neg (by omega)]
      case measure => simp [intOf]; omega
    · have e : k = xs.length := by omega
      subst e
      go_wp2_with fail
      go_ret
      exact ⟨w.heap.size, rfl, Nat.le_refl _, hR.congr (fun j hj => by rw [if_pos hj]), hB⟩

theorem drew_belowX {B : Nat} (w : World) : Below B w w.drew := ⟨rfl, rfl, rfl, Nat.le_refl _, fun _ _ => rfl⟩
set_option maxRecDepth 100000 in
set_option maxHeartbeats 4000000 in
theorem eqStringS_same (xs : List ByteArray) (a b : Option Addr) (cap cap2 : Nat) (w : World) (hx : xs.length ≤ maxLen) (h : TxtsAt w a xs) (h2 : TxtsAt w b xs) :
    Calls Try.prog 24 #[.slice a xs.length cap, .slice b xs.length cap2] w fun r w' => r = .returned (.bool true) ∧ Below w.heap.size w w' := by
  unfold maxLen at hx
  have hl' : ((xs.length : Int) != (xs.length : Int)) = false := by simp
  go_enter Try.func24, Try.ntmps24
  go_wp2_with fail
  go_loopw [5] (fun i wr => ∃ k : Nat, k ≤ xs.length ∧ i = .int .i64 k ∧ Below w.heap.size w wr) (fun i _ => xs.length - (intOf i).toNat)
  case atStart => exact ⟨0, Nat.zero_le _, rfl, Below.refl _ _⟩
  case round =>
    obtain ⟨k, hk, rfl, hB⟩ := hrel
    by_cases hlt : k < xs.length
    · obtain ⟨e, he⟩ : ∃ e, xs[k]? = some e := ⟨xs[k], List.getElem?_eq_getElem hlt⟩
      obtain ⟨bb, o, rfl, hbl, hc⟩ := h.get (by intro e; subst e; simp at hlt)
      obtain ⟨bb2, o2, rfl, hbl2, hc2⟩ := h2.get (by intro e; subst e; simp at hlt)
      have c0 := (hB.cell (p := ⟨bb, o + k, .none⟩) hbl).trans (hc k e he)
      have d0 := (hB.cell (p := ⟨bb2, o2 + k, .none⟩) hbl2).trans (hc2 k e he)
      have HB := hid hB
      have HH := hid (And.intro h (And.intro h2 (And.intro hc hc2)))
      have hq : (e.toList != e.toList) = false := by simp
      clear hc hc2 hB he h h2
      go_wp2_with fail
      go_quiet (fail)
      go_wp2_with fail
      go_roundw
      case rel => exact ⟨k + 1, by omega, by go_num, ⟨(unhid HB).os, (unhid HB).tape, (unhid HB).output, (unhid HB).size, (unhid HB).block⟩⟩
      case measure => simp [intOf]; omega
    · have e : k = xs.length := by omega
      subst e
      go_wp2_with fail
      go_ret
      exact ⟨rfl, hB⟩
end Go.Proofs.Ytedimkcnemhhpaa
