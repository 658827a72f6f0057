/- DiffOf of copies in memory of their own. -/
import Derived.Test.YtedimkcnemhhpaaSpecDiff
import Derived.Test.YtedimkcnemhhpaaExactKit
namespace Go.Proofs.Ytedimkcnemhhpaa
open Go.RowKit Go.Shelf

theorem hksOwn_own {W : World} {N : Nat} {v : Value} {hs : List Hk} (h : HksOwn W N v hs) : ∃ F, hkK.own W v hs F ∧ ∀ k ∈ F, N ≤ k ∧ k < W.heap.size := by
  match hs, h with
  | [], h =>
    refine ⟨[], .inl ⟨rfl, rfl, ?_⟩, fun k hk => by cases hk⟩
    rcases h with rfl | ⟨g, rfl, _⟩
    · exact ⟨none, 0, rfl, fun _ => rfl⟩
    · exact ⟨_, 0, rfl, fun e => by cases e⟩
  | [h], ⟨g, lv, hv, hg, hh, hown, hne⟩ =>
    obtain ⟨ht, hf⟩ := TxtOwn.of_owns hown
    refine ⟨g :: [lv.ownBlock.toList].flatten, .inr ⟨g, 1, _, [lv.ownBlock.toList], hv, Nat.le_refl _, rfl, ?_, ⟨hh, by simp, rfl, fun i x hi => ?_⟩⟩, fun k hk => ?_⟩
    · simp only [List.flatten_cons, List.flatten_nil, List.append_nil, List.nodup_cons]
      refine ⟨fun e => hne (by cases ho : lv.ownBlock with | none => rw [ho] at e; cases e | some b => rw [ho] at e; rw [List.mem_singleton.1 e]), ?_⟩
      cases lv.ownBlock <;> simp
    · match i, hi with
      | 0, hi => cases hi; exact ⟨lv, _, rfl, rfl, rfl, ht⟩
      | i + 1, hi => simp at hi
    · simp only [List.flatten_cons, List.flatten_nil, List.append_nil, List.mem_cons] at hk
      rcases hk with rfl | hk
      · exact ⟨hg, (Array.getElem?_eq_some_iff.1 hh).1⟩
      · exact hf k hk
def diffOf_0 (xs ys : List ByteArray) : List Hk := diffL xs ys
theorem diffOf_small (xs ys : List ByteArray) (_ : smallX xs) (_ : smallX ys) : smallK (diffOf_0 xs ys) := by
  unfold diffOf_0 diffL
  split
  · rename_i h
    unfold diffB at h
    simp only [Bool.and_eq_true] at h
    obtain ⟨q1, q2⟩ := dLines_small h.1 h.2.1
    refine ⟨by simp, ?_, fun x hx => ?_⟩
    · show 1 + (dLines xs ys).length + 0 ≤ _; omega
    · rcases List.mem_singleton.1 hx with rfl
      exact ⟨by show (dLines xs ys).length ≤ _; omega, fun y hy => by have := (q2 y hy).2; omega⟩
  · exact ⟨by simp, by simp [cntH], fun x hx => by cases hx⟩
theorem diffOf_spec (xs ys : List ByteArray) (v : Value) (F : List Nat) (v' : Value) (F' : List Nat) (W : World) (hx : smallX xs) (hy : smallX ys) (h : txtK.own W v xs F) (h' : txtK.own W v' ys F') :
    Calls Try.prog 21 #[v, v'] W fun r W' => ∃ g G, r = .returned g ∧ hkK.own W' g (diffOf_0 xs ys) G ∧ (∀ k ∈ G, W.heap.size ≤ k ∧ k < W'.heap.size) ∧ Below W.heap.size W W' := by
  obtain ⟨a, cap, rfl, h1, _⟩ := TxtOwn.read h
  obtain ⟨a', cap', rfl, h2, _⟩ := TxtOwn.read h'
  refine (specDiffOf_any xs ys a a' cap cap' W (smallX_len hx) (smallX_len hy) (smallX_big hx) (smallX_big hy) h1 h2).mono ?_
  rintro r W' ⟨g, rfl, ho, hb⟩
  obtain ⟨G, g1, g2⟩ := hksOwn_own ho
  exact ⟨g, G, rfl, g1, g2, hb⟩
theorem TxtOwn.cap {W : World} {v : Value} {xs : List ByteArray} {F : List Nat} (h : TxtOwn W v xs F) : ∃ a cap, v = .slice a xs.length cap ∧ TxtsAt W a xs ∧ (a = none → cap = 0) ∧ xs.length ≤ cap := by
  obtain ⟨a, cap, ⟨h1, h2, h3, h4⟩ | ⟨h1, rfl, h3⟩⟩ := h.at
  · exact ⟨a, cap, h1, h2, h3, h4⟩
  · exact ⟨a, cap, h1, .inl rfl, h3, Nat.zero_le _⟩
theorem diffOf_impl (xs ys : List ByteArray) (v : Value) (F : List Nat) (v' : Value) (F' : List Nat) (W : World) (hx : smallX xs) (hy : smallX ys) (h : txtK.own W v xs F) (h' : txtK.own W v' ys F') :
    Calls Try.prog 23 #[v, v'] W fun r W' => ∃ g G, r = .returned g ∧ hkK.own W' g (diffOf_0 xs ys) G ∧ (∀ k ∈ G, W.heap.size ≤ k ∧ k < W'.heap.size) ∧ Below W.heap.size W W' := by
  obtain ⟨a, cap, rfl, h1, _, hc⟩ := TxtOwn.cap h
  obtain ⟨a', cap', rfl, h2, _, hc'⟩ := TxtOwn.cap h'
  refine (DiffOf_any xs ys a a' cap cap' W (smallX_len hx) (smallX_len hy) (smallX_big hx) (smallX_big hy) hc hc' h1 h2).mono ?_
  rintro r W' ⟨g, rfl, ho, hb⟩
  obtain ⟨G, g1, g2⟩ := hksOwn_own ho
  exact ⟨g, G, rfl, g1, g2, hb⟩
end Go.Proofs.Ytedimkcnemhhpaa
