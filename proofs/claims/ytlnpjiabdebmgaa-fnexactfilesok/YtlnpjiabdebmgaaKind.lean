/- Data in memory of its own: by the list of its blocks. What is written over other blocks leaves it as it was. -/
import Derived.Test.YtlnpjiabdebmgaaProg
import Derived.WalkKit
namespace Go.Proofs.Ytlnpjiabdebmgaa
open Go.RowKit

/-- Nothing changes but blocks of a list. -/
structure Only (F : List Nat) (w w' : World) : Prop where
  os : w'.os = w.os
  tape : w'.tape = w.tape
  output : w'.output = w.output
  size : w.heap.size ≤ w'.heap.size
  block : ∀ k, k < w.heap.size → k ∉ F → w'.heap[k]? = w.heap[k]?
theorem Only.refl (F : List Nat) (w : World) : Only F w w := ⟨rfl, rfl, rfl, Nat.le_refl _, fun _ _ _ => rfl⟩
theorem Only.trans {F : List Nat} {a b c : World} (h : Only F a b) (k : Only F b c) : Only F a c :=
  ⟨k.os.trans h.os, k.tape.trans h.tape, k.output.trans h.output, Nat.le_trans h.size k.size, fun i hi hn => (k.block i (Nat.lt_of_lt_of_le hi h.size) hn).trans (h.block i hi hn)⟩
theorem Only.mono {F G : List Nat} {a b : World} (h : Only F a b) (hs : ∀ k ∈ F, k ∈ G) : Only G a b :=
  ⟨h.os, h.tape, h.output, h.size, fun i hi hn => h.block i hi (fun e => hn (hs i e))⟩
theorem Only.ofBelow {F : List Nat} {a b : World} (h : Below a.heap.size a b) : Only F a b := ⟨h.os, h.tape, h.output, h.size, fun i hi _ => h.block i hi⟩
theorem Only.setCell {F : List Nat} {a b : World} (h : Only F a b) {p : Addr} (hp : p.block ∈ F) (v : Value) : Only F a (b.setCell p v) :=
  ⟨h.os, h.tape, h.output, by simpa using h.size, fun i hi hn => (Below.heap_setCell _ _ _ _ (fun e => hn (by rw [e]; exact hp))).trans (h.block i hi hn)⟩
/-- Nothing changes but blocks from N on, ahead of M. -/
structure OnlyIn (N M : Nat) (w w' : World) : Prop where
  os : w'.os = w.os
  tape : w'.tape = w.tape
  output : w'.output = w.output
  size : w.heap.size ≤ w'.heap.size
  block : ∀ k, k < w.heap.size → (k < N ∨ M ≤ k) → w'.heap[k]? = w.heap[k]?
theorem Only.inside {F : List Nat} {N M : Nat} {a b : World} (h : Only F a b) (hF : ∀ k ∈ F, N ≤ k ∧ k < M) : OnlyIn N M a b :=
  ⟨h.os, h.tape, h.output, h.size, fun i hi hn => h.block i hi (fun e => by have := hF i e; omega)⟩
theorem OnlyIn.below {w0 w w' : World} {N M : Nat} (h : OnlyIn N M w w') (hb : Below w0.heap.size w0 w) (hN : w0.heap.size ≤ N) : Below w0.heap.size w0 w' :=
  ⟨h.os.trans hb.os, h.tape.trans hb.tape, h.output.trans hb.output, Nat.le_trans hb.size h.size, fun k hk => (h.block k (Nat.lt_of_lt_of_le hk hb.size) (by omega)).trans (hb.block k hk)⟩

/-- A kind of data in memory of its own. -/
structure Kind where
  D : Type
  own : World → Value → D → List Nat → Prop
  frame : ∀ {W W' : World} {v : Value} {d : D} {F : List Nat}, own W v d F → (∀ k ∈ F, W'.heap[k]? = W.heap[k]?) → own W' v d F
  lt : ∀ {W : World} {v : Value} {d : D} {F : List Nat}, own W v d F → ∀ k ∈ F, k < W.heap.size
def Kind.In (K : Kind) (W : World) (v : Value) (d : K.D) (N M : Nat) : Prop := ∃ F, K.own W v d F ∧ ∀ k ∈ F, N ≤ k ∧ k < M
theorem Kind.In.below {K : Kind} {W W' : World} {v : Value} {d : K.D} {N M : Nat} (h : K.In W v d N M) (hb : Below W.heap.size W W') : K.In W' v d N M := by
  obtain ⟨F, h1, h2⟩ := h
  exact ⟨F, K.frame h1 (fun k hk => hb.block k (K.lt h1 k hk)), h2⟩
theorem Kind.In.wide {K : Kind} {W : World} {v : Value} {d : K.D} {N M N2 M2 : Nat} (h : K.In W v d N M) (hN : N2 ≤ N) (hM : M ≤ M2) : K.In W v d N2 M2 := by
  obtain ⟨F, h1, h2⟩ := h
  exact ⟨F, h1, fun k hk => by have := h2 k hk; omega⟩
theorem Kind.In.spare {K : Kind} {W W' : World} {v : Value} {d : K.D} {N M N2 M2 : Nat} (h : K.In W v d N M) (ho : OnlyIn N2 M2 W W') (hd : M ≤ N2 ∨ M2 ≤ N) : K.In W' v d N M := by
  obtain ⟨F, h1, h2⟩ := h
  exact ⟨F, K.frame h1 (fun k hk => ho.block k (K.lt h1 k hk) (by have := h2 k hk; omega)), h2⟩
end Go.Proofs.Ytlnpjiabdebmgaa
