/- A class of a pattern, as the program reads it and as its model does. -/
import Derived.Test.YtiggojpepgbcoaaGlobName
import Derived.Test.YtiggojpepgbcoaaSpecPath
namespace Go.Proofs.Ytiggojpepgbcoaa
open Go.RowKit Go.Shelf

theorem index_at {l : List UInt8} {b : UInt8} {i : Nat} (h : Lib.indexByte l b = i) : l[i]? = some b ∧ ∀ j, j < i → l[j]? ≠ some b := by
  induction l generalizing i with
  | nil => simp [Lib.indexByte] at h
  | cons c l ih =>
    unfold Lib.indexByte at h
    have hg := Lib.indexByte_ge l b
    by_cases hc : (c == b) = true
    · simp [hc] at h
      obtain rfl : i = 0 := by omega
      have : c = b := by simpa using hc
      exact ⟨by simp [this], fun j hj => by omega⟩
    · simp [hc] at h
      split at h
      · omega
      · obtain ⟨j, rfl⟩ : ∃ j, i = j + 1 := ⟨i - 1, by omega⟩
        obtain ⟨h1, h2⟩ := ih (i := j) (by omega)
        refine ⟨by simpa using h1, fun k hk => ?_⟩
        cases k with
        | zero => simpa using hc
        | succ k => simpa using h2 k (by omega)
theorem index_of {l : List UInt8} {b : UInt8} {i : Nat} (h1 : l[i]? = some b) (h2 : ∀ j, j < i → l[j]? ≠ some b) : Lib.indexByte l b = i := by
  by_cases hn : Lib.indexByte l b < 0
  · exfalso
    have hc := cutB_none b l hn
    have : ∀ (l : List UInt8) (i : Nat), Lib.indexByte l b < 0 → l[i]? ≠ some b := by
      intro l
      induction l with
      | nil => intro i _; simp
      | cons c l ih =>
        intro i h
        unfold Lib.indexByte at h
        have hg := Lib.indexByte_ge l b
        by_cases hc : (c == b) = true
        · simp [hc] at h
        · simp [hc] at h
          have hl : Lib.indexByte l b < 0 := by split at h <;> omega
          cases i with
          | zero => simpa using hc
          | succ i => simpa using ih i hl
    exact this l i hn h1
  · obtain ⟨k, ek⟩ : ∃ k : Nat, Lib.indexByte l b = k := ⟨(Lib.indexByte l b).toNat, by omega⟩
    obtain ⟨g1, g2⟩ := index_at ek
    rw [ek]
    rcases Nat.lt_trichotomy k i with h | h | h
    · exact absurd g1 (h2 k h)
    · rw [h]
    · exact absurd h1 (g2 i h)

/-- Where the bytes of a class begin. -/
def clsFrom (l : List UInt8) : Nat := if l[1]? = some 33 then 2 else 1
theorem mid_data (s : ByteArray) (i : Nat) : (s.extract 1 i).data.toList = (s.data.toList.take i).drop 1 := by
  rw [Lib.extract_data, ← List.drop_take]
theorem mid_bang {s : ByteArray} {i : Nat} (hi : 1 < i) : hasA (s.extract 1 i) bang = decide (s.data.toList[1]? = some 33) := by
  unfold hasA Lib.hasPrefix
  rw [mid_data]
  have hb : bang.data.toList = [33] := rfl
  rw [hb]
  have h1 : ((s.data.toList.take i).drop 1)[0]? = s.data.toList[1]? := by
    rw [List.getElem?_drop, List.getElem?_take]; simp [hi]
  cases hm : (s.data.toList.take i).drop 1 with
  | nil =>
    rw [hm] at h1
    rw [← h1]; rfl
  | cons c t =>
    rw [hm] at h1
    rw [← h1]
    simp [List.isPrefixOf]
    rw [Bool.eq_iff_iff]
    simp
    exact eq_comm
theorem cls_data {s : ByteArray} {i : Nat} (hi : 1 < i) : (clsA s i).data.toList = (s.data.toList.take i).drop (clsFrom s.data.toList) := by
  unfold clsA cutA clsFrom
  rw [mid_bang hi]
  by_cases h : s.data.toList[1]? = some 33
  · rw [if_pos h, if_pos (decide_eq_true h), Lib.extract_data, mid_data]
    have hb : bang.size = 1 := rfl
    rw [hb, List.drop_drop, List.take_of_length_le]
    have hl : 1 < s.data.toList.length := (List.getElem?_eq_some_iff.1 h).1
    rw [Lib.size_eq, mid_data]; simp at hl ⊢; omega
  · rw [if_neg h, if_neg (by simpa using h), mid_data]

theorem class_some {s : ByteArray} {i : Nat} (h0 : s.data.toList[0]? = some 91) (hk : clsFrom s.data.toList < i) (hi : s.data.toList[i]? = some 93) (hall : ∀ j, clsFrom s.data.toList ≤ j → j < i → ∃ c, s.data.toList[j]? = some c ∧ nameB c.toNat = true) :
    classR s = some (.cls (clsA s i) (hasA (s.extract 1 i) bang), i + 1) := by
  have h1i : 1 < i := by unfold clsFrom at hk; split at hk <;> omega
  have hix : Lib.indexByte s.data.toList 93 = i := by
    refine index_of hi fun j hj => ?_
    by_cases hj0 : j = 0
    · subst hj0; rw [h0]; decide
    · by_cases hjk : clsFrom s.data.toList ≤ j
      · obtain ⟨c, hc, hn⟩ := hall j hjk hj
        rw [hc]
        intro e
        cases e
        revert hn; decide
      · have hj1 : j = 1 ∧ s.data.toList[1]? = some 33 := by
          unfold clsFrom at hjk
          split at hjk
          · exact ⟨by omega, by assumption⟩
          · omega
        rw [hj1.1, hj1.2]; decide
  have hil : i < s.data.toList.length := (List.getElem?_eq_some_iff.1 hi).1
  have he : (clsA s i).toList.isEmpty = false := by
    rw [Lib.toList_data, List.isEmpty_eq_false_iff, ← List.length_pos_iff, cls_data h1i, List.length_drop, List.length_take]; omega
  have ha : ((clsA s i).data.toList.all fun c => nameB c.toNat) = true := by
    rw [List.all_eq_true]
    intro c hc
    rw [cls_data h1i] at hc
    obtain ⟨m, hm⟩ := List.mem_iff_getElem?.1 hc
    rw [List.getElem?_drop, List.getElem?_take] at hm
    split at hm
    · rename_i hlt
      obtain ⟨d, hd, hn⟩ := hall _ (Nat.le_add_right _ m) hlt
      rw [hd] at hm
      cases hm
      exact hn
    · cases hm
  unfold classR
  rw [hix, if_neg (by omega)]
  show (if ((clsA s i).toList.isEmpty || _) = true then none else _) = _
  rw [he]
  simp only [Int.toNat_natCast]
  rw [ha]; rfl
theorem class_of {s : ByteArray} {p : W8 × Nat} (h0 : s.data.toList[0]? = some 91) (h : classR s = some p) : ∃ i, p.2 = i + 1 ∧ clsFrom s.data.toList < i ∧ s.data.toList[i]? = some 93 ∧ ∀ j, clsFrom s.data.toList ≤ j → j < i → ∃ c, s.data.toList[j]? = some c ∧ nameB c.toNat = true := by
  unfold classR at h
  split at h
  · cases h
  · split at h
    · cases h
    · rename_i hi hc
      obtain ⟨i, ei⟩ : ∃ i : Nat, Lib.indexByte s.data.toList 93 = i := ⟨(Lib.indexByte s.data.toList 93).toNat, by omega⟩
      obtain ⟨g1, g2⟩ := index_at ei
      rw [ei] at h hc
      simp only [Int.toNat_natCast] at h hc
      cases h
      simp only [Bool.or_eq_true, Bool.not_eq_true', not_or, Bool.not_eq_true, Bool.not_eq_false] at hc
      obtain ⟨hc1, hc2⟩ := hc
      have hil : i < s.data.toList.length := (List.getElem?_eq_some_iff.1 g1).1
      have h1i : 1 < i := by
        rcases (by omega : i = 0 ∨ i = 1 ∨ 1 < i) with rfl | rfl | h
        · rw [h0] at g1; cases g1
        · exfalso
          rw [Lib.toList_data, List.isEmpty_eq_false_iff, ← List.length_pos_iff] at hc1
          have hz : (clsA s 1).data.toList.length = 0 := by
            unfold clsA cutA
            split
            · rw [Lib.extract_data, mid_data]; simp
            · rw [mid_data]; simp
          omega
        · exact h
      refine ⟨i, rfl, ?_, g1, fun j h1 h2 => ?_⟩
      · rw [Lib.toList_data, List.isEmpty_eq_false_iff, ← List.length_pos_iff, cls_data h1i, List.length_drop, List.length_take] at hc1
        omega
      · obtain ⟨c, hcj⟩ : ∃ c, s.data.toList[j]? = some c := ⟨_, List.getElem?_eq_getElem (by omega)⟩
        refine ⟨c, hcj, ?_⟩
        rw [List.all_eq_true] at hc2
        refine hc2 c ?_
        rw [cls_data h1i, List.mem_iff_getElem?]
        refine ⟨j - clsFrom s.data.toList, ?_⟩
        rw [List.getElem?_drop, List.getElem?_take, show clsFrom s.data.toList + (j - clsFrom s.data.toList) = j by omega, if_pos h2, hcj]
end Go.Proofs.Ytiggojpepgbcoaa
