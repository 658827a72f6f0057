/- What the model's cut of a text makes: the parts between marks, and what the model calls a name and a path. -/
import Derived.Test.YtlnpjiabdebmgaaParts
import Derived.Maps.AppendAt
namespace Go.Proofs.Ytlnpjiabdebmgaa
open Go.RowKit Go.Shelf

theorem cutB_at (b : UInt8) : ∀ (l : List UInt8) (j : Nat), l[j]? = some b → (∀ i, i < j → l[i]? ≠ some b) → cutB b l = l.take j :: cutB b (l.drop (j + 1))
  | [], j, h, _ => by simp at h
  | c :: l, 0, h, _ => by simp at h; subst h; simp [cutB]
  | c :: l, j + 1, h, hn => by
    have hc : (c == b) = false := by have := hn 0 (by omega); simpa using this
    have ih := cutB_at b l j (by simpa using h) (fun i hi => by have := hn (i + 1) (by omega); simpa using this)
    simp [cutB, hc, ih]
theorem cutB_no (b : UInt8) : ∀ (l : List UInt8), (∀ i : Nat, l[i]? ≠ some b) → cutB b l = [l]
  | [], _ => rfl
  | c :: l, hn => by
    have hc : (c == b) = false := by have := hn 0; simpa using this
    have ih := cutB_no b l (fun i => by have := hn (i + 1); simpa using this)
    simp [cutB, hc, ih]

theorem getByte (s : ByteArray) (k : Nat) (h : k < s.size) : s.data.toList[k]? = some s[k] := by
  rw [List.getElem?_eq_getElem (by simpa using h)]; rfl
theorem cut_step (s : ByteArray) (b : UInt8) (fr k : Nat) (hfk : fr ≤ k) (hlt : k < s.size) (hb : s[k] = b) (hno : ∀ j, fr ≤ j → j < k → s.data.toList[j]? ≠ some b) :
    cutB b (s.data.toList.drop fr) = (s.extract fr k).data.toList :: cutB b (s.data.toList.drop (k + 1)) := by
  have h := cutB_at b (s.data.toList.drop fr) (k - fr) (by rw [List.getElem?_drop, Nat.add_sub_cancel' hfk, getByte s k hlt, hb])
    (fun i hi => by rw [List.getElem?_drop]; exact hno _ (by omega) (by omega))
  rw [h, List.drop_drop, Lib.extract_data, show fr + (k - fr + 1) = k + 1 from by omega]
theorem cut_last (s : ByteArray) (b : UInt8) (fr k : Nat) (hk : s.size ≤ k) (hno : ∀ j, fr ≤ j → j < k → s.data.toList[j]? ≠ some b) :
    cutB b (s.data.toList.drop fr) = [(s.extract fr s.size).data.toList] := by
  have h := cutB_no b (s.data.toList.drop fr) (fun i => by
    rw [List.getElem?_drop]
    by_cases hi : fr + i < k
    · exact hno _ (by omega) hi
    · rw [List.getElem?_eq_none (by simp; omega)]; simp)
  rw [h, Lib.extract_data, List.take_of_length_le (by simp)]

theorem cutB_le (b : UInt8) : ∀ (l : List UInt8) (p : List UInt8), p ∈ cutB b l → p.length ≤ l.length
  | [], p, h => by simp [cutB] at h; subst h; simp
  | c :: l, p, h => by
    unfold cutB at h
    split at h
    · rcases List.mem_cons.1 h with h | h
      · subst h; simp
      · have := cutB_le b l p h; simp; omega
    · have ih := cutB_le b l
      split at h
      · simp at h; subst h; simp
      · rename_i hd tl e
        rw [e] at ih
        rcases List.mem_cons.1 h with h | h
        · subst h; have := ih hd (by simp); simp; omega
        · have := ih p (by simp [h]); simp; omega
theorem cutB_length (b : UInt8) : ∀ (l : List UInt8), (cutB b l).length ≤ l.length + 1
  | [] => by simp [cutB]
  | c :: l => by
    have ih := cutB_length b l
    unfold cutB
    split
    · simp; omega
    · split
      · simp
      · rename_i hd tl e
        rw [e] at ih
        simp at ih ⊢; omega

theorem all_take_succ (s : ByteArray) (k : Nat) (h : k < s.size) (p : UInt8 → Bool) : (s.data.toList.take (k + 1)).all p = ((s.data.toList.take k).all p && p s[k]) := by
  rw [take_snoc s k h]; simp

theorem info9 : (Try.prog.info? 9).map (fun i => (i.zero, i.size, i.bytes)) = some (some (.string ⟨#[]⟩), 1, 16) := by kernel_rfl

abbrev datas (xs : List ByteArray) : List (List UInt8) := xs.map fun x => x.data.toList

end Go.Proofs.Ytlnpjiabdebmgaa
