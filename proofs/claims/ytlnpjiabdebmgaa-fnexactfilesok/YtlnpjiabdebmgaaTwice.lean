/- Whether a text comes twice: by the model. -/
import Derived.Test.YtlnpjiabdebmgaaNameRow
namespace Go.Proofs.Ytlnpjiabdebmgaa
open Go.RowKit Go.Shelf

theorem txt_iff (x y : ByteArray) : (x.toList == y.toList) = decide (x = y) := by
  by_cases h : x = y
  · subst h; simp
  · rw [decide_eq_false h]
    rw [beq_eq_false_iff_ne]
    intro e
    apply h
    apply ByteArray.ext
    apply Array.ext'
    rw [← Lib.toList_data, ← Lib.toList_data]; exact e
theorem nodup_snoc {α : Type} {xs : List α} {x : α} (h : xs.Nodup) (hx : x ∉ xs) : (xs ++ [x]).Nodup := by
  rw [List.nodup_append]
  exact ⟨h, by simp, fun a ha b hb e => by rw [List.mem_singleton.1 hb] at e; exact hx (e ▸ ha)⟩
theorem twiceB_true {xs : List ByteArray} {k i : Nat} {x : ByteArray} (hk : xs[k]? = some x) (hi : xs[i]? = some x) (h : k < i) : twiceB xs = true := by
  unfold twiceB
  rw [decide_eq_false]
  · rfl
  · intro hn
    obtain ⟨l1, e1⟩ := List.getElem?_eq_some_iff.1 hk
    obtain ⟨l2, e2⟩ := List.getElem?_eq_some_iff.1 hi
    have := (List.pairwise_iff_getElem.1 hn) k i l1 l2 h
    exact this (e1.trans e2.symm)

end Go.Proofs.Ytlnpjiabdebmgaa
