/- What a row of entries that is handed over holds. -/
import Derived.Test.YtlnehebihfeegaaRowKit
import Derived.Test.YtlnehebihfeegaaEnt
import Derived.Deep.Slices
import Derived.Lib.SmallJoins
namespace Go.Proofs.Ytlnehebihfeegaa
open Go.ChangeShapes Go.WideShapes Go.ChangeAt Go.RowKit

theorem cellsE : Try.prog.cellsOf 44 = 4 := by kernel_rfl

theorem list_of {p : Nat → Ent → Prop} : ∀ n, (∀ i, i < n → ∃ e, p i e) → ∃ es : List Ent, es.length = n ∧ ∀ (i : Nat) e, es[i]? = some e → p i e
  | 0, _ => ⟨[], rfl, fun i e h => by simp at h⟩
  | n + 1, h => by
    obtain ⟨es, hl, hp⟩ := list_of n (fun i hi => h i (by omega))
    obtain ⟨e, he⟩ := h n (by omega)
    refine ⟨es ++ [e], by simp [hl], fun i x hx => ?_⟩
    rcases Nat.lt_or_ge i es.length with hi | hi
    · rw [List.getElem?_append_left hi] at hx; exact hp i x hx
    · rw [List.getElem?_append_right hi] at hx
      have : i - es.length = 0 := by
        rcases Nat.eq_zero_or_pos (i - es.length) with h0 | h0
        · exact h0
        · rw [List.getElem?_eq_none (by simp; omega)] at hx; cases hx
      rw [this] at hx
      simp at hx
      subst hx
      have : i = n := by omega
      rw [this]; exact he

theorem add_plainE (b o n : Nat) : (⟨b, o, none⟩ : Addr).add n = ⟨b, o + n, none⟩ := by simp [Addr.add]

set_option maxRecDepth 100000 in
theorem ent_of {H : Type} {enc : TypeId × Value → H} {W : World} {n b o : Nat} {cs : List Value} {x : DataW H × List MemPlace} (h1 : W.cells? 0 ⟨b, o, none⟩ 4 = some cs)
    (h2 : DataW.trod enc Try.prog W 0 (fun _ => true) true n 44 cs = some x) : ∃ e : Ent, EntAt W b o e ∧ e.path.size ≤ maxLen ∧ e.text.size ≤ maxLen := by
  obtain ⟨_, hlen, hcell⟩ := World.cells?_some h1
  match cs, hlen with
  | [c0, c1, c2, c3], _ =>
    obtain ⟨y0, y1, y2, y3, m, _, _, g0, g1, g2, g3⟩ := Joins.trod_struct4 Try.underlying44 h2
    obtain ⟨s0, e0, _, z0⟩ := DataW.trod_string (by kernel_rfl) g0
    obtain ⟨k1, e1, _, _⟩ := DataW.trod_int (k := .i64) (by kernel_rfl) g1
    obtain ⟨k2, e2, _, _⟩ := DataW.trod_int (k := .i64) (by kernel_rfl) g2
    obtain ⟨s3, e3, _, z3⟩ := DataW.trod_string (by kernel_rfl) g3
    have f0 : c0 = .string s0 := (List.cons.inj e0).1
    have f1 : c1 = .int .i64 k1 := (List.cons.inj e1).1
    have f2 : c2 = .int .i64 k2 := (List.cons.inj e2).1
    have f3 : c3 = .string s3 := (List.cons.inj e3).1
    subst f0 f1 f2 f3
    exact ⟨⟨s0, k1, k2, s3⟩, ⟨hcell 0 (by omega), hcell 1 (by omega), hcell 2 (by omega), hcell 3 (by omega)⟩, z0, z3⟩

set_option maxRecDepth 100000 in
theorem ents_of {H : Type} {enc : TypeId × Value → H} {W : World} {v : Value} {d0 : DataW H} {p0 : List MemPlace} (hv : ∃ a0 len cap, v = .slice a0 len cap)
    (h0 : DataW.Trod enc Try.prog W 0 (fun _ => true) true 38 v d0 p0) (hlt : ∀ x ∈ p0, x.block < W.heap.size) :
    ∃ (es : List Ent) (a : Option Addr) (cap : Nat), v = .slice a es.length cap ∧ bigE es ∧ es.length ≤ maxLen ∧ EntsAt W a es := by
  obtain ⟨a0, len, cap, rfl⟩ := hv
  obtain ⟨fuel, hf⟩ := h0
  rcases Deep.open_slice Try.underlying38 hf with ⟨hcs, hx⟩ | ⟨a, len', cap', m, n, D, Pl, hcs, _, hl, hm, hmm, hx, hcell⟩
  · simp [Value.cells] at hcs
    obtain ⟨rfl, rfl, rfl⟩ := hcs
    exact ⟨[], _, _, rfl, fun e he => by simp at he, by simp, .inl rfl⟩
  · simp [Value.cells] at hcs
    obtain ⟨rfl, rfl, rfl⟩ := hcs
    simp only [Prod.mk.injEq] at hx
    obtain ⟨rfl, rfl⟩ := hx
    rw [cellsE] at hcell hlt
    simp only [if_true] at hmm
    by_cases hl0 : len = 0
    · subst hl0
      exact ⟨[], _, _, rfl, fun e he => by simp at he, by simp, .inl rfl⟩
    · obtain ⟨b, off, spot⟩ := a
      have hspot : spot = none := by
        obtain ⟨cs, h1, _⟩ := hcell 0 (by omega)
        obtain ⟨_, hlen, hc⟩ := World.cells?_some h1
        have := hc 0 (by omega)
        rw [List.getElem?_eq_getElem (by omega)] at this
        simpa [Addr.add] using World.cell?_spot this
      subst hspot
      have hbW : b < W.heap.size := hlt (.cell b off) (List.mem_append_left _ (MemPlace.mem_row.2 ⟨0, by omega, by simp⟩))
      obtain ⟨es, hes, hall⟩ := list_of (p := fun i e => EntAt W b (off + i * 4) e ∧ e.path.size ≤ maxLen ∧ e.text.size ≤ maxLen) len (fun i hi => by
        obtain ⟨cs, h1, h2⟩ := hcell i (by omega)
        rw [add_plainE] at h1
        exact ent_of h1 h2)
      refine ⟨es, _, cap, by rw [hes], fun e he => ?_, by omega, .inr ⟨b, off, rfl, hbW, fun i e hi => (hall i e hi).1⟩⟩
      obtain ⟨i, hi⟩ := List.getElem?_of_mem he
      exact (hall i e hi).2
end Go.Proofs.Ytlnehebihfeegaa
