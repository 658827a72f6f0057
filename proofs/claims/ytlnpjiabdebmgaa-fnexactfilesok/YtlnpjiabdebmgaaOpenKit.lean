/- What data that is handed over holds, by its shape. -/
import Derived.Test.YtlnpjiabdebmgaaSKit
import Derived.Test.YtlnpjiabdebmgaaRowKit
import Derived.Deep.Slices
import Derived.Lib.SmallJoins
namespace Go.Proofs.Ytlnpjiabdebmgaa
open Go.ChangeShapes Go.WideShapes Go.ChangeAt Go.RowKit

def Opens (K : CK) (ty : Nat) : Prop := ∀ (H : Type) (enc : TypeId × Value → H) (W : World) (n : Nat) (cs : List Value) (x : DataW H × List MemPlace), DataW.trod enc Try.prog W 0 (fun _ => true) true n ty cs = some x → (∀ y ∈ x.2, y.block < W.heap.size) → ∃ d, K.at_ W cs d ∧ K.big d
theorem opens_txt : Opens txtC 9 := fun H enc W n cs x h _ => by
  obtain ⟨s, e, _, z⟩ := DataW.trod_string (by kernel_rfl) h
  exact ⟨s, e, z⟩
theorem opens_int : Opens intC 3 := fun H enc W n cs x h _ => by
  obtain ⟨k, e, _, hk⟩ := DataW.trod_int (k := .i64) (by kernel_rfl) h
  exact ⟨k, e, show -9223372036854775808 ≤ k ∧ k ≤ 9223372036854775807 by simpa [Lit.wf, IntKind.min, IntKind.max, IntKind.signed, IntKind.bits] using hk⟩
theorem list_ofS {α : Type} {p : Nat → α → Prop} : ∀ n, (∀ i, i < n → ∃ e, p i e) → ∃ es : List α, es.length = n ∧ ∀ (i : Nat) e, es[i]? = some e → p i e
  | 0, _ => ⟨[], rfl, fun i e h => by simp at h⟩
  | n + 1, h => by
    obtain ⟨es, hl, hp⟩ := list_ofS n (fun i hi => h i (by omega))
    obtain ⟨e, he⟩ := h n (by omega)
    refine ⟨es ++ [e], by simp [hl], fun i x hx => ?_⟩
    rcases Nat.lt_or_ge i es.length with hi | hi
    · rw [List.getElem?_append_left hi] at hx; exact hp i x hx
    · rw [List.getElem?_append_right hi] at hx
      have : i - es.length = 0 := by
        rcases Nat.eq_zero_or_pos (i - es.length) with h0 | h0
        · exact h0
        · rw [List.getElem?_eq_none (by simp; omega)] at hx; cases hx
      rw [this] at hx
      simp at hx
      subst hx
      have : i = n := by omega
      rw [this]; exact he
theorem add_plainS (b o n : Nat) : (⟨b, o, none⟩ : Addr).add n = ⟨b, o + n, none⟩ := by simp [Addr.add]
theorem opens_row {K : CK} {ety sty ty : Nat} (hs : Try.prog.underlying sty = some (.slice ety)) (hc : Try.prog.cellsOf ety = K.n) (hpos : 0 < K.n) (ho : Opens K ety) : Opens (rowC K ty) sty := by
  intro H enc W n cs x h hlt
  rcases Deep.open_slice hs h with ⟨rfl, rfl⟩ | ⟨a, len, cap, m, n', D, Pl, rfl, _, hl, hm, hmm, rfl, hcell⟩
  · exact ⟨[], ⟨_, rfl, none, 0, rfl, fun _ => rfl, Nat.le_refl _, .inl rfl⟩, Nat.zero_le _, fun d hd => by cases hd⟩
  · rw [hc] at hcell hlt
    simp only [if_true] at hmm
    by_cases hl0 : len = 0
    · subst hl0
      exact ⟨[], ⟨_, rfl, some a, cap, rfl, (fun e => by cases e), Nat.zero_le _, .inl rfl⟩, Nat.zero_le _, fun d hd => by cases hd⟩
    · obtain ⟨b, off, spot⟩ := a
      have hspot : spot = none := by
        obtain ⟨cs, h1, _⟩ := hcell 0 (by omega)
        obtain ⟨_, hlen, hc'⟩ := World.cells?_some h1
        have := hc' 0 (by omega)
        rw [List.getElem?_eq_getElem (by omega)] at this
        simpa [Addr.add] using World.cell?_spot this
      subst hspot
      have hbW : b < W.heap.size := hlt (.cell b off) (List.mem_append_left _ (MemPlace.mem_row.2 ⟨0, Nat.mul_pos (by omega) hpos, by simp⟩))
      obtain ⟨es, hes, hall⟩ := list_ofS (p := fun i (e : K.D) => (∃ cs, K.at_ W cs e ∧ ∀ j c, cs[j]? = some c → W.cell? ⟨b, off + i * K.n + j, none⟩ = some c) ∧ K.big e) len (fun i hi => by
        obtain ⟨cs', h1, h2⟩ := hcell i (by omega)
        rw [add_plainS] at h1
        obtain ⟨d, hd1, hd2⟩ := ho H enc W _ cs' _ h2 (fun y hy => hlt y (List.mem_append_right _ (List.mem_flatMap.2 ⟨i, List.mem_range.2 (by omega), hy⟩)))
        obtain ⟨_, hlen, hc'⟩ := World.cells?_some h1
        refine ⟨d, ⟨cs', hd1, fun j c hj => ?_⟩, hd2⟩
        have := hc' j (by have := (List.getElem?_eq_some_iff.1 hj).1; omega)
        rw [hj, add_plainS] at this
        exact this)
      subst hes
      refine ⟨es, ⟨_, rfl, _, cap, rfl, (fun e => by cases e), hl, .inr ⟨b, off, rfl, hbW, fun i e hi => (hall i e hi).1⟩⟩, by omega, fun d hd => ?_⟩
      obtain ⟨i, hi⟩ := List.getElem?_of_mem hd
      exact (hall i d hi).2
set_option maxRecDepth 100000 in
theorem agg_of {H : Type} {enc : TypeId × Value → H} {K : CK} {ty base : Nat} {fs : Array Field} {W : World} {v : Value} {d0 : DataW H} {p : List MemPlace} (hs : Try.prog.underlying ty = some (.struct fs)) (ho : Opens K ty) (hv : Value.okWide Try.prog W .any base ty v) (h : DataW.Trod enc Try.prog W 0 (fun _ => true) true ty v d0 p) (hlt : ∀ x ∈ p, x.block < W.heap.size) :
    ∃ d, aggAt K W v d ∧ K.big d := by
  obtain ⟨cs, rfl, _⟩ := okWide_struct hs hv
  obtain ⟨fuel, hf⟩ := h
  obtain ⟨d, h1, h2⟩ := ho H enc W fuel _ _ hf hlt
  exact ⟨d, ⟨cs.toList, by simp, by simpa [Value.cells] using h1⟩, h2⟩
set_option maxRecDepth 100000 in
theorem rowv_of {H : Type} {enc : TypeId × Value → H} {K : CK} {ety sty base ty : Nat} {W : World} {v : Value} {d0 : DataW H} {p : List MemPlace} (hs : Try.prog.underlying sty = some (.slice ety)) (ho : Opens (rowC K ty) sty) (hv : Value.okWide Try.prog W .any base sty v) (h : DataW.Trod enc Try.prog W 0 (fun _ => true) true sty v d0 p) (hlt : ∀ x ∈ p, x.block < W.heap.size) :
    ∃ ds, rowAt K W v ds ∧ (ds.length ≤ maxLen ∧ ∀ d ∈ ds, K.big d) := by
  obtain ⟨a0, len, cap, rfl⟩ := okWide_slice hs hv
  obtain ⟨fuel, hf⟩ := h
  obtain ⟨ds, ⟨v', e, h1⟩, h2⟩ := ho H enc W fuel _ _ hf hlt
  have : v' = .slice a0 len cap := by simpa [Value.cells] using e.symm
  subst this
  exact ⟨ds, h1, h2⟩
theorem aggAt.below {K : CK} {W W' : World} {v : Value} {d : K.D} (h : aggAt K W v d) (hb : Below W.heap.size W W') : aggAt K W' v d := by
  obtain ⟨cs, h1, h2⟩ := h
  exact ⟨cs, h1, K.below h2 hb⟩
theorem vfresh {K : Kind} {W W' : World} {v : Value} {d : K.D} {F : List Nat} (h : K.own W v d F) (hb : Below W.heap.size W W') : K.own W' v d F := K.frame h (fun k hk => hb.block k (K.lt h k hk))
theorem vonly {K : Kind} {W W' : World} {v : Value} {d : K.D} {F G : List Nat} (h : K.own W v d F) (ho : Only G W W') (hd : ∀ k ∈ F, k ∉ G) : K.own W' v d F := K.frame h (fun k hk => ho.block k (K.lt h k hk) (hd k hk))
end Go.Proofs.Ytlnpjiabdebmgaa
