/- What a row of texts, and a row of hunks, that is handed over holds. -/
import Derived.Test.YtedimkcnemhhpaaRowKit
import Derived.Test.YtedimkcnemhhpaaHunks
import Derived.Deep.Slices
import Derived.Lib.SmallJoins
namespace Go.Proofs.Ytedimkcnemhhpaa
open Go.ChangeShapes Go.WideShapes Go.ChangeAt Go.RowKit

theorem list_ofG {α : Type} {p : Nat → α → Prop} : ∀ n, (∀ i, i < n → ∃ e, p i e) → ∃ es : List α, es.length = n ∧ ∀ (i : Nat) e, es[i]? = some e → p i e
  | 0, _ => ⟨[], rfl, fun i e h => by simp at h⟩
  | n + 1, h => by
    obtain ⟨es, hl, hp⟩ := list_ofG n (fun i hi => h i (by omega))
    obtain ⟨e, he⟩ := h n (by omega)
    refine ⟨es ++ [e], by simp [hl], fun i x hx => ?_⟩
    rcases Nat.lt_or_ge i es.length with hi | hi
    · rw [List.getElem?_append_left hi] at hx; exact hp i x hx
    · rw [List.getElem?_append_right hi] at hx
      have : i - es.length = 0 := by
        rcases Nat.eq_zero_or_pos (i - es.length) with h0 | h0
        · exact h0
        · rw [List.getElem?_eq_none (by simp; omega)] at hx; cases hx
      rw [this] at hx
      simp at hx
      subst hx
      have : i = n := by omega
      rw [this]; exact he
theorem add_plainX (b o n : Nat) : (⟨b, o, none⟩ : Addr).add n = ⟨b, o + n, none⟩ := by simp [Addr.add]

set_option maxRecDepth 100000 in
theorem txts_in {H : Type} {enc : TypeId × Value → H} {W : World} {fuel : Nat} {v : Value} {x : DataW H × List MemPlace} (hf : DataW.trod enc Try.prog W 0 (fun _ => true) true fuel 29 [v] = some x) (hlt : ∀ y ∈ x.2, y.block < W.heap.size) :
    ∃ (xs : List ByteArray) (a : Option Addr) (cap : Nat), v = .slice a xs.length cap ∧ bigX xs ∧ xs.length ≤ maxLen ∧ TxtsAt W a xs := by
  rcases Deep.open_slice1 Try.underlying29 (by kernel_rfl) hf with ⟨hcs, hx⟩ | ⟨a, len, cap, m, n, V, D, Pl, hcs, _, hl, hm, hmm, hx, hcell⟩
  · obtain rfl := (List.cons.inj hcs).1
    exact ⟨[], _, _, rfl, fun e he => by simp at he, by simp, .inl rfl⟩
  · obtain rfl := (List.cons.inj hcs).1
    subst hx
    simp only [if_true] at hmm
    by_cases hl0 : len = 0
    · subst hl0
      exact ⟨[], _, _, rfl, fun e he => by simp at he, by simp, .inl rfl⟩
    · obtain ⟨b, off, spot⟩ := a
      have hspot : spot = none := by
        obtain ⟨h1, _⟩ := hcell 0 (by omega)
        simpa [Addr.add] using World.cell?_spot h1
      subst hspot
      have hbW : b < W.heap.size := hlt (.cell b off) (List.mem_append_left _ (MemPlace.mem_row.2 ⟨0, by omega, by simp⟩))
      obtain ⟨es, hes, hall⟩ := list_ofG (p := fun i (e : ByteArray) => W.cell? ⟨b, off + i, none⟩ = some (.string e) ∧ e.size ≤ maxLen) len (fun i hi => by
        obtain ⟨h1, h2⟩ := hcell i (by omega)
        rw [add_plainX] at h1
        obtain ⟨s0, e0, _, z0⟩ := DataW.trod_string (by kernel_rfl) h2
        rw [(List.cons.inj e0).1] at h1
        exact ⟨s0, h1, z0⟩)
      refine ⟨es, _, cap, by rw [hes], fun e he => ?_, by omega, .inr ⟨b, off, rfl, hbW, fun i e hi => (hall i e hi).1⟩⟩
      obtain ⟨i, hi⟩ := List.getElem?_of_mem he
      exact (hall i e hi).2

theorem txts_of {H : Type} {enc : TypeId × Value → H} {W : World} {v : Value} {d0 : DataW H} {p0 : List MemPlace} (hv : ∃ a0 len cap, v = .slice a0 len cap)
    (h0 : DataW.Trod enc Try.prog W 0 (fun _ => true) true 29 v d0 p0) (hlt : ∀ x ∈ p0, x.block < W.heap.size) :
    ∃ (xs : List ByteArray) (a : Option Addr) (cap : Nat), v = .slice a xs.length cap ∧ bigX xs ∧ xs.length ≤ maxLen ∧ TxtsAt W a xs := by
  obtain ⟨a0, len, cap, rfl⟩ := hv
  obtain ⟨fuel, hf⟩ := h0
  exact txts_in (x := (d0, p0)) (by simpa [Value.cells] using hf) hlt

theorem cellsK : Try.prog.cellsOf 58 = 2 := by kernel_rfl
set_option maxRecDepth 100000 in
theorem hunk_of {H : Type} {enc : TypeId × Value → H} {W : World} {n b o : Nat} {cs : List Value} {x : DataW H × List MemPlace} (h1 : W.cells? 0 ⟨b, o, none⟩ 2 = some cs)
    (h2 : DataW.trod enc Try.prog W 0 (fun _ => true) true n 58 cs = some x) (hlt : ∀ y ∈ x.2, y.block < W.heap.size) : ∃ e : Hk, HkAt W b o e ∧ bigX e.lines ∧ e.lines.length ≤ maxLen := by
  obtain ⟨_, hlen, hcell⟩ := World.cells?_some h1
  match cs, hlen with
  | [c0, c1], _ =>
    obtain ⟨y0, y1, m, hx, _, g0, g1⟩ := trod_struct2 Try.underlying58 h2
    obtain ⟨k1, e1, _, _⟩ := DataW.trod_int (k := .i64) (by kernel_rfl) g0
    have f0 : c0 = .int .i64 k1 := (List.cons.inj e1).1
    subst f0
    obtain ⟨xs, a, cap, rfl, hb, hl, ht⟩ := txts_in (x := y1) (fuel := m) (v := c1) g1 (fun y hy => hlt y (by rw [hx]; exact List.mem_append_right _ hy))
    exact ⟨⟨k1, xs⟩, ⟨a, cap, hcell 0 (by omega), hcell 1 (by omega), ht⟩, hb, hl⟩

set_option maxRecDepth 100000 in
theorem hunks_of {H : Type} {enc : TypeId × Value → H} {W : World} {v : Value} {d0 : DataW H} {p0 : List MemPlace} (hv : ∃ a0 len cap, v = .slice a0 len cap)
    (h0 : DataW.Trod enc Try.prog W 0 (fun _ => true) true 22 v d0 p0) (hlt : ∀ x ∈ p0, x.block < W.heap.size) :
    ∃ (hs : List Hk) (a : Option Addr) (cap : Nat), v = .slice a hs.length cap ∧ bigH hs ∧ hs.length ≤ maxLen ∧ HksAt W a hs := by
  obtain ⟨a0, len, cap, rfl⟩ := hv
  obtain ⟨fuel, hf⟩ := h0
  rcases Deep.open_slice Try.underlying22 hf with ⟨hcs, hx⟩ | ⟨a, len', cap', m, n, D, Pl, hcs, _, hl, hm, hmm, hx, hcell⟩
  · simp [Value.cells] at hcs
    obtain ⟨rfl, rfl, rfl⟩ := hcs
    exact ⟨[], _, _, rfl, fun e he => by simp at he, by simp, .inl rfl⟩
  · simp [Value.cells] at hcs
    obtain ⟨rfl, rfl, rfl⟩ := hcs
    simp only [Prod.mk.injEq] at hx
    obtain ⟨rfl, rfl⟩ := hx
    rw [cellsK] at hcell hlt
    simp only [if_true] at hmm
    by_cases hl0 : len = 0
    · subst hl0
      exact ⟨[], _, _, rfl, fun e he => by simp at he, by simp, .inl rfl⟩
    · obtain ⟨b, off, spot⟩ := a
      have hspot : spot = none := by
        obtain ⟨cs, h1, _⟩ := hcell 0 (by omega)
        obtain ⟨_, hlen, hc⟩ := World.cells?_some h1
        have := hc 0 (by omega)
        rw [List.getElem?_eq_getElem (by omega)] at this
        simpa [Addr.add] using World.cell?_spot this
      subst hspot
      have hbW : b < W.heap.size := hlt (.cell b off) (List.mem_append_left _ (MemPlace.mem_row.2 ⟨0, by omega, by simp⟩))
      obtain ⟨es, hes, hall⟩ := list_ofG (p := fun i (e : Hk) => HkAt W b (off + i * 2) e ∧ bigX e.lines ∧ e.lines.length ≤ maxLen) len (fun i hi => by
        obtain ⟨cs, h1, h2⟩ := hcell i (by omega)
        rw [add_plainX] at h1
        exact hunk_of h1 h2 (fun y hy => hlt y (List.mem_append_right _ (List.mem_flatMap.2 ⟨i, List.mem_range.2 (by omega), hy⟩))))
      refine ⟨es, _, cap, by rw [hes], fun e he => ?_, by omega, .inr ⟨b, off, rfl, hbW, fun i e hi => (hall i e hi).1⟩⟩
      obtain ⟨i, hi⟩ := List.getElem?_of_mem he
      exact (hall i e hi).2
end Go.Proofs.Ytedimkcnemhhpaa
