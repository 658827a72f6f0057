/- Rows of texts: what they hold, the laws' own copies of them, their sizes; two rows of the same texts are the same. -/
import Derived.Test.YtlnpjiabdebmgaaBytesOf
import Derived.Deep.OwnRows
import Derived.Maps.OwnIn
import Derived.Deep.RegionWith
import Derived.Lib.Strings
namespace Go.Proofs.Ytlnpjiabdebmgaa
open Go.RowKit Go.Shelf

/-- A row of texts that is read. -/
def TxtsAt (W : World) (a : Option Addr) (xs : List ByteArray) : Prop := xs = [] ∨ ∃ b o, a = some ⟨b, o, .none⟩ ∧ b < W.heap.size ∧ ∀ (i : Nat) x, xs[i]? = some x → W.cell? ⟨b, o + i, .none⟩ = some (.string x)
theorem TxtsAt.below {W W' : World} {a : Option Addr} {xs : List ByteArray} (h : TxtsAt W a xs) (hb : Below W.heap.size W W') : TxtsAt W' a xs := by
  rcases h with h | ⟨b, o, rfl, hl, hc⟩
  · exact .inl h
  · exact .inr ⟨b, o, rfl, Nat.lt_of_lt_of_le hl hb.size, fun i x hi => (hb.cell (p := ⟨b, o + i, .none⟩) hl).trans (hc i x hi)⟩
theorem TxtsAt.get {W : World} {a : Option Addr} {xs : List ByteArray} (h : TxtsAt W a xs) (hne : xs ≠ []) : ∃ b o, a = some ⟨b, o, .none⟩ ∧ b < W.heap.size ∧ ∀ (i : Nat) x, xs[i]? = some x → W.cell? ⟨b, o + i, .none⟩ = some (.string x) := h.resolve_left hne
theorem TxtsAt.block {W W' : World} {a : Option Addr} {xs : List ByteArray} (h : TxtsAt W a xs) (g : Nat) (hne : ∀ b o, a = some ⟨b, o, .none⟩ → b ≠ g) (hz : W.heap.size ≤ W'.heap.size) (hb : ∀ b, b < W.heap.size → b ≠ g → W'.heap[b]? = W.heap[b]?) : TxtsAt W' a xs := by
  rcases h with h | ⟨b, o, rfl, hl, hc⟩
  · exact .inl h
  · exact .inr ⟨b, o, rfl, Nat.lt_of_lt_of_le hl hz, fun i x hi => (World.cell?_of_block (w := W) (hb b hl (hne b o rfl))).trans (hc i x hi)⟩
def totX (xs : List ByteArray) : Nat := (xs.map fun x => x.size).sum
theorem totX_take (xs : List ByteArray) (k : Nat) (x : ByteArray) (h : xs[k]? = some x) : totX (xs.take (k + 1)) = totX (xs.take k) + x.size := by
  unfold totX
  rw [List.take_add_one, h]
  simp
theorem totX_mem {xs : List ByteArray} {x : ByteArray} (h : x ∈ xs) : x.size ≤ totX xs := by
  unfold totX
  induction xs with
  | nil => cases h
  | cons y ys ih =>
    rcases List.mem_cons.1 h with rfl | h
    · simp
    · have := ih h; simp; omega
def bigX (xs : List ByteArray) : Prop := ∀ x ∈ xs, x.size ≤ maxLen

/-- A block that is a row of n texts. -/
def TxtRow (W : World) (g T n : Nat) (f : Nat → ByteArray) : Prop := ∃ cur : Array Value, W.heap[g]? = some (.cells cur T (0, 0)) ∧ cur.size = n ∧ ∀ i, i < n → cur[i]? = some (.string (f i))
theorem TxtRow.lt {W : World} {g T n : Nat} {f : Nat → ByteArray} (x : TxtRow W g T n f) : g < W.heap.size := by
  obtain ⟨cur, h1, _⟩ := x; exact (Array.getElem?_eq_some_iff.1 h1).1
theorem TxtRow.block {W W' : World} {g T n : Nat} {f : Nat → ByteArray} (x : TxtRow W g T n f) (e : W'.heap[g]? = W.heap[g]?) : TxtRow W' g T n f := by
  obtain ⟨cur, h1, h2, h3⟩ := x; exact ⟨cur, e.trans h1, h2, h3⟩
theorem TxtRow.below {W W' : World} {B g T n : Nat} {f : Nat → ByteArray} (x : TxtRow W g T n f) (hb : Below B W W') (hg : g < B) : TxtRow W' g T n f := x.block (hb.block g hg)
theorem TxtRow.congr {W : World} {g T n : Nat} {f f' : Nat → ByteArray} (x : TxtRow W g T n f) (e : ∀ j, j < n → f j = f' j) : TxtRow W g T n f' := by
  obtain ⟨cur, h1, h2, h3⟩ := x; exact ⟨cur, h1, h2, fun j hj => by rw [← e j hj]; exact h3 j hj⟩
theorem TxtRow.cells {W : World} {g T n : Nat} {f : Nat → ByteArray} (x : TxtRow W g T n f) (k : Nat) (hk : k < n) : W.cell? ⟨g, k, .none⟩ = some (.string (f k)) ∧ W.frozen? ⟨g, k, .none⟩ = false := by
  obtain ⟨cur, h1, h2, h3⟩ := x
  exact ⟨by simp [World.cell?, h1, h3 k hk], by simp [World.frozen?, h1]⟩
def updX (f : Nat → ByteArray) (k : Nat) (e : ByteArray) : Nat → ByteArray := fun j => if j = k then e else f j
theorem TxtRow.set {W : World} {g T n : Nat} {f : Nat → ByteArray} (x : TxtRow W g T n f) (k : Nat) (hk : k < n) (e : ByteArray) : TxtRow (W.setCell ⟨g, k, .none⟩ (.string e)) g T n (updX f k e) := by
  obtain ⟨cur, h1, h2, h3⟩ := x
  refine ⟨cur.setIfInBounds k (.string e), heap_setCell_same _ g _ _ T _ h1, by simpa using h2, fun i hi => ?_⟩
  unfold updX
  simp only [Array.getElem?_setIfInBounds]
  by_cases e1 : i = k
  · subst e1
    rw [if_pos rfl, if_pos (by omega), if_pos rfl]
  · rw [if_neg (by omega), if_neg e1]
    exact h3 i hi
def txtFn (xs : List ByteArray) (i : Nat) : ByteArray := xs.getD i ⟨#[]⟩
theorem txtFn_get {xs : List ByteArray} {i : Nat} {x : ByteArray} (h : xs[i]? = some x) : txtFn xs i = x := by unfold txtFn; rw [List.getD_eq_getElem?_getD, h]; rfl
theorem TxtRow.at {W : World} {g T n : Nat} {xs : List ByteArray} (x : TxtRow W g T n (txtFn xs)) (hn : xs.length ≤ n) : TxtsAt W (some ⟨g, 0, .none⟩) xs :=
  .inr ⟨g, 0, rfl, x.lt, fun i e hi => by
    have hl : i < xs.length := (List.getElem?_eq_some_iff.1 hi).1
    have := (x.cells i (by omega)).1
    rw [txtFn_get hi] at this
    rwa [Nat.zero_add]⟩
theorem infoTxt : (Try.prog.info? 9).map (fun i => (i.zero, i.size, i.bytes)) = some (some (.string ⟨#[]⟩), 1, 16) := by kernel_rfl
theorem drew_belowX {B : Nat} (w : World) : Below B w w.drew := ⟨rfl, rfl, rfl, Nat.le_refl _, fun _ _ => rfl⟩
end Go.Proofs.Ytlnpjiabdebmgaa
