/- Rows of Booleans that a call owns, and rows of wants that it reads. -/
import Derived.Test.YtiggojpepgbcoaaGlobMath
import Derived.Test.YtiggojpepgbcoaaGlobTakes
import Derived.Maps.OwnIn
import Derived.Deep.OwnRows
namespace Go.Proofs.Ytiggojpepgbcoaa
open Go.RowKit Go.Shelf

theorem gb_refl (w : World) (r : Option Nat) : w.grownBy w r := ⟨rfl, rfl, rfl, Nat.le_refl _, fun _ _ _ => rfl⟩
theorem gb_set (w : World) (g i : Nat) (v : Value) : w.grownBy (w.setCell ⟨g, i, none⟩ v) (some g) := ⟨rfl, rfl, rfl, by simp, fun k _ hk => Below.heap_setCell w _ v k (fun e => hk (by rw [e]))⟩
/-- A block of m Booleans. -/
def Bools (W : World) (g m : Nat) (h : Nat → Bool) : Prop := ∃ cur : Array Value, W.heap[g]? = some (.cells cur 4 (0, 0)) ∧ cur.size = m ∧ ∀ j, j < m → cur[j]? = some (.bool (h j))
theorem Bools.lt {W : World} {g m : Nat} {h : Nat → Bool} (x : Bools W g m h) : g < W.heap.size := by
  obtain ⟨cur, h1, _⟩ := x; exact (Array.getElem?_eq_some_iff.1 h1).1
theorem Bools.cell {W : World} {g m : Nat} {h : Nat → Bool} (x : Bools W g m h) (j : Nat) (hj : j < m) : W.cell? ⟨g, j, none⟩ = some (.bool (h j)) ∧ W.frozen? ⟨g, j, none⟩ = false := by
  obtain ⟨cur, h1, h2, h3⟩ := x
  constructor
  · simp [World.cell?, h1, h3 j hj]
  · simp [World.frozen?, h1]
theorem Bools.block {W W' : World} {g m : Nat} {h : Nat → Bool} (x : Bools W g m h) (e : W'.heap[g]? = W.heap[g]?) : Bools W' g m h := by
  obtain ⟨cur, h1, h2, h3⟩ := x; exact ⟨cur, e.trans h1, h2, h3⟩
theorem Bools.alloc {W : World} {g m : Nat} {h : Nat → Bool} (x : Bools W g m h) (o : Obj) : Bools (W.alloc o) g m h := x.block (Below.heap_alloc _ _ _ x.lt)
theorem Bools.below {W W' : World} {B g m : Nat} {h : Nat → Bool} (x : Bools W g m h) (hb : Below B W W') (hg : g < B) : Bools W' g m h := x.block (hb.block g hg)
theorem Bools.other {W : World} {g m : Nat} {h : Nat → Bool} (x : Bools W g m h) (a : Addr) (v : Value) (hne : g ≠ a.block) : Bools (W.setCell a v) g m h := x.block (Below.heap_setCell W a v g hne)
theorem Bools.congr {W : World} {g m : Nat} {h h' : Nat → Bool} (x : Bools W g m h) (e : ∀ j, j < m → h j = h' j) : Bools W g m h' := by
  obtain ⟨cur, h1, h2, h3⟩ := x; exact ⟨cur, h1, h2, fun j hj => by rw [h3 j hj, e j hj]⟩
theorem Bools.set {W : World} {g m : Nat} {h : Nat → Bool} (x : Bools W g m h) (j : Nat) (hj : j < m) (b : Bool) : Bools (W.setCell ⟨g, j, none⟩ (.bool b)) g m (fun i => if i = j then b else h i) := by
  obtain ⟨cur, h1, h2, h3⟩ := x
  refine ⟨cur.setIfInBounds j (.bool b), ?_, by simpa using h2, fun i hi => ?_⟩
  · exact heap_setCell_same W g j cur 4 (.bool b) h1
  · rw [Array.getElem?_setIfInBounds]
    by_cases e : j = i
    · subst e; simp; omega
    · have e' : ¬ i = j := fun x => e x.symm
      rw [if_neg e, h3 i hi]; simp [e']

theorem type_ne {W : World} {g b : Nat} {cur cur' : Array Value} {e e' : TypeId} {f f' : Nat × Nat} (h : W.heap[g]? = some (.cells cur e f)) (h' : W.heap[b]? = some (.cells cur' e' f')) (hne : e ≠ e') : g ≠ b := by
  rintro rfl; rw [h] at h'; cases h'; exact hne rfl

/-- A row of n pairs of cells: a Boolean and a value each. -/
def Row2 (W : World) (e : TypeId) (v : Value) (n : Nat) (cs : Nat → Bool × Value) : Prop :=
  ∃ a cap, v = .slice a n cap ∧ (n = 0 ∨ ∃ g cur, a = some ⟨g, 0, none⟩ ∧ W.heap[g]? = some (.cells cur e (0, 0)) ∧ n ≤ cap ∧ ∀ i, i < n → cur[i * 2]? = some (.bool (cs i).1) ∧ cur[i * 2 + 1]? = some (cs i).2 ∧ (cs i).2.oneCell' = true)


theorem Row2.kept {W W' : World} {e : TypeId} {v : Value} {n : Nat} {cs : Nat → Bool × Value} (x : Row2 W e v n cs) (hk : ∀ b, b < W.heap.size → W'.heap[b]? = W.heap[b]?) : Row2 W' e v n cs := by
  obtain ⟨a, cap, rfl, h⟩ := x
  refine ⟨a, cap, rfl, h.imp id ?_⟩
  rintro ⟨g, cur, rfl, h1, h2⟩
  exact ⟨g, cur, rfl, (hk g (Array.getElem?_eq_some_iff.1 h1).1).trans h1, h2⟩
theorem below_of_grown {w W W' : World} {g : Nat} (hb : Below w.heap.size w W) (hg : W.grownBy W' (some g)) (hge : w.heap.size ≤ g) : Below w.heap.size w W' :=
  ⟨hg.os.trans hb.os, hg.tape.trans hb.tape, hg.output.trans hb.output, Nat.le_trans hb.size hg.size, fun k hk => (hg.block k (Nat.lt_of_lt_of_le hk hb.size) (by intro e; cases e; omega)).trans (hb.block k hk)⟩
/-- What the program's function values of wants answer, in every world in which what lay below is as it was. -/
def TakesIs {α : Type} (enc : α → Value) (xs : Pat α) (cs : Nat → Bool × Value) (w : World) : Prop :=
  ∀ i, i < xs.length → runAt xs i = false → ∃ f ca, (cs i).2 = .func (.func f) #[] ca ∧ (∀ args w, (callFunc f args).run Try.prog w = .ok (.enter f args) w) ∧
    ∀ (c : α) (W : World), Below w.heap.size w W → Calls Try.prog f (#[enc c] ++ ca) W fun e W' => e = .returned (.bool (takeAt xs i c)) ∧ Below W.heap.size W W'

theorem infoBool : (Try.prog.info? 4).map (fun i => (i.zero, i.size, i.bytes)) = some (some (.bool false), 1, 1) := by kernel_rfl
theorem mkBools (W : World) (n : Nat) (hn : n ≤ 1000) : (Instr.makeSlice 65 (.int .i64 ((n : Int) + 1)) (.int .i64 ((n : Int) + 1))).run Try.prog W = .ok (.slice (some ⟨W.heap.size, 0, none⟩) (n + 1) (n + 1)) (W.alloc (.cells (madeCells #[.bool false] (n + 1)) 4)) :=
  run_make_row' 65 4 (.bool false) 1 Try.underlying65 infoBool rfl .i64 .i64 (n + 1) (by omega) (by omega) W
theorem Bools.new (W : World) (m : Nat) : Bools (W.alloc (.cells (madeCells #[.bool false] m) 4)) W.heap.size m (fun _ => false) := by
  refine ⟨_, World.alloc_heap_new W _, by simp [madeCells], fun j hj => by simp [madeCells, hj, Nat.mod_one]⟩
end Go.Proofs.Ytiggojpepgbcoaa
