/- What holds of paths as lists of bytes: what a path is in is a path; it is in that; moved, and back. -/
import Derived.Test.YtlnehebihfeegaaPathIn2
namespace Go.Proofs.Ytlnehebihfeegaa

theorem lastIx_get (b : UInt8) : ∀ l : List UInt8, 0 ≤ lastIx b l → l[(lastIx b l).toNat]? = some b
  | [], h => by simp [lastIx] at h
  | c :: l, h => by
    by_cases hl : 0 ≤ lastIx b l
    · have ih := lastIx_get b l hl
      have e : lastIx b (c :: l) = lastIx b l + 1 := by simp [lastIx, hl]
      rw [e, show (lastIx b l + 1).toNat = (lastIx b l).toNat + 1 from by omega]
      simpa using ih
    · by_cases hc : (c == b) = true
      · have e : lastIx b (c :: l) = 0 := by simp [lastIx, hl, hc]
        rw [e]; simpa using hc
      · have e : lastIx b (c :: l) = -1 := by simp [lastIx, hl, hc]
        omega
theorem lastIx_after (b : UInt8) : ∀ (l : List UInt8) (j : Nat), lastIx b l < j → l[j]? ≠ some b
  | [], j, _ => by simp
  | c :: l, j, h => by
    have hg := lastIx_ge b l
    by_cases hl : 0 ≤ lastIx b l
    · have e : lastIx b (c :: l) = lastIx b l + 1 := by simp [lastIx, hl]
      cases j with
      | zero => omega
      | succ j => simpa using lastIx_after b l j (by omega)
    · cases j with
      | zero =>
        by_cases hc : (c == b) = true
        · have e : lastIx b (c :: l) = 0 := by simp [lastIx, hl, hc]
          omega
        · simpa using hc
      | succ j => simpa using lastIx_after b l j (by omega)
theorem split_last (b : UInt8) (l : List UInt8) (h : 0 ≤ lastIx b l) : l.take (lastIx b l).toNat ++ b :: l.drop (lastIx b l + 1).toNat = l := by
  have hg := lastIx_get b l h
  have hlt := (List.getElem?_eq_some_iff.1 hg).1
  have h2 := (List.getElem?_eq_some_iff.1 hg).2
  rw [show (lastIx b l + 1).toNat = (lastIx b l).toNat + 1 from by omega]
  conv => rhs; rw [← List.take_append_drop (lastIx b l).toNat l, List.drop_eq_getElem_cons hlt, h2]
theorem cutB_take (b : UInt8) : ∀ l : List UInt8, 0 ≤ lastIx b l → cutB b (l.take (lastIx b l).toNat) = (cutB b l).dropLast
  | [], h => by simp [lastIx] at h
  | c :: l, h => by
    by_cases hl : 0 ≤ lastIx b l
    · have ih := cutB_take b l hl
      obtain ⟨x, y, t, e⟩ := (cutB_lastIx b l).2.1 hl
      have el : lastIx b (c :: l) = lastIx b l + 1 := by simp [lastIx, hl]
      rw [el, show (lastIx b l + 1).toNat = (lastIx b l).toNat + 1 from by omega, List.take_succ_cons]
      by_cases hc : (c == b) = true
      · simp [cutB, hc, ih, e]
      · simp [cutB, hc, ih, e]
    · by_cases hc : (c == b) = true
      · have el : lastIx b (c :: l) = 0 := by simp [lastIx, hl, hc]
        have e1 := (cutB_lastIx b l).1 (by omega)
        rw [el]
        simp [cutB, hc, e1]
      · have el : lastIx b (c :: l) = -1 := by simp [lastIx, hl, hc]
        omega
theorem pathB_up (l : List UInt8) (h : pathB l = true) (hi : 0 ≤ lastIx 47 l) : pathB (l.take (lastIx 47 l).toNat) = true := by
  simp only [pathB, Bool.and_eq_true, decide_eq_true_eq, List.all_eq_true] at h ⊢
  rw [cutB_take 47 l hi]
  exact ⟨by simp; omega, fun x hx => h.2 x ((List.dropLast_prefix _).subset hx)⟩
theorem pathB_ne (l : List UInt8) (h : pathB l = true) : l ≠ [] := by
  rintro rfl
  simp [pathB, cutB, nameOkB] at h
theorem belowB_refl (l : List UInt8) : belowB l l = true := by simp [belowB]
theorem belowB_app (l t : List UInt8) : belowB l (l ++ 47 :: t) = true := by
  simp only [belowB, Lib.hasPrefix, Bool.or_eq_true]
  exact .inr (List.isPrefixOf_iff_prefix.2 ⟨t, by simp⟩)
theorem belowB_cases {p s : List UInt8} (h : belowB p s = true) : s = p ∨ ∃ t, s = p ++ 47 :: t := by
  simp only [belowB, Lib.hasPrefix, Bool.or_eq_true, beq_iff_eq] at h
  rcases h with h | h
  · exact .inl h
  · obtain ⟨t, rfl⟩ := List.isPrefixOf_iff_prefix.1 h
    exact .inr ⟨t, by simp⟩
theorem belowB_long {p s : List UInt8} (h : s.length < p.length) : belowB p s = false := by
  cases hb : belowB p s with
  | false => rfl
  | true =>
    rcases belowB_cases hb with rfl | ⟨t, rfl⟩
    · omega
    · simp at h; omega
theorem inB_refl (l : List UInt8) (h : pathB l = true) : inB l l = true := by simp [inB, h, belowB_refl]
theorem inB_up (l : List UInt8) (h : pathB l = true) (hi : 0 ≤ lastIx 47 l) : inB (l.take (lastIx 47 l).toNat) l = true := by
  simp only [inB, pathB_up l h hi, h, Bool.and_self, Bool.true_and]
  conv => lhs; rw [← split_last 47 l hi]
  have e : (l.take (lastIx 47 l).toNat ++ 47 :: l.drop (lastIx 47 l + 1).toNat).take (lastIx 47 (l.take (lastIx 47 l).toNat ++ 47 :: l.drop (lastIx 47 l + 1).toNat)).toNat = l.take (lastIx 47 l).toNat := by rw [split_last 47 l hi]
  rw [e]
  exact belowB_app _ _
theorem inB_trans {a b c : List UInt8} (h : inB a b = true) (g : inB b c = true) : inB a c = true := by
  simp only [inB, Bool.and_eq_true] at h g ⊢
  refine ⟨⟨h.1.1, g.1.2⟩, ?_⟩
  rcases belowB_cases g.2 with rfl | ⟨t, rfl⟩
  · exact h.2
  · rcases belowB_cases h.2 with rfl | ⟨u, rfl⟩
    · exact belowB_app _ _
    · rw [List.append_assoc]; exact belowB_app _ _

theorem up_none {s : ByteArray} (hi : lastIx 47 s.data.toList < 0) : pathUpS s = ⟨#[]⟩ := by simp [pathUpS, upS, hi]
theorem last_none {s : ByteArray} (h : pathB s.data.toList = true) (hi : lastIx 47 s.data.toList < 0) : pathLastS s = s := by
  have hg := lastIx_ge 47 s.data.toList
  apply ba_ext
  rw [pathLastS, h, if_pos rfl, lastS, Lib.extract_data, show (lastIx 47 s.data.toList + 1).toNat = 0 from by omega]
  rw [List.take_of_length_le (by simp)]; rfl
theorem up_some {s : ByteArray} (h : pathB s.data.toList = true) (hi : 0 ≤ lastIx 47 s.data.toList) : (pathUpS s).data.toList = s.data.toList.take (lastIx 47 s.data.toList).toNat := by
  rw [pathUpS, h, if_pos rfl, upS, if_neg (by omega), Lib.extract_data]; simp
theorem last_some {s : ByteArray} (h : pathB s.data.toList = true) : (pathLastS s).data.toList = s.data.toList.drop (lastIx 47 s.data.toList + 1).toNat := by
  rw [pathLastS, h, if_pos rfl, lastS, Lib.extract_data, List.take_of_length_le (by simp)]
theorem size_app (x y : ByteArray) : (x ++ y).size = x.size + y.size := by simp
theorem data_app (x y : ByteArray) : (x ++ y).data.toList = x.data.toList ++ y.data.toList := by simp
theorem size_up (s : ByteArray) : (pathUpS s).size ≤ s.size := by
  unfold pathUpS upS
  split
  · split
    · exact Nat.zero_le _
    · simp; omega
  · exact Nat.zero_le _
theorem size_last (s : ByteArray) : (pathLastS s).size ≤ s.size := by
  unfold pathLastS lastS
  split
  · simp
  · exact Nat.zero_le _

/-- What FnPath asks, of a path with a slash. -/
theorem fnPath_facts {s : ByteArray} (h : pathB s.data.toList = true) (hi : 0 ≤ lastIx 47 s.data.toList) :
    ¬ (pathUpS s).toList = [] ∧ (pathUpS s ++ ⟨#[47]⟩ ++ pathLastS s).toList = s.toList ∧ pathB (pathUpS s).data.toList = true ∧ inB (pathUpS s).data.toList s.data.toList = true ∧ inB s.data.toList (pathUpS s).data.toList = false := by
  have hp : pathB (pathUpS s).data.toList = true := by rw [up_some h hi]; exact pathB_up _ h hi
  refine ⟨?_, ?_, hp, ?_, ?_⟩
  · rw [Lib.toList_data]; exact pathB_ne _ hp
  · rw [Lib.toList_data, Lib.toList_data, data_app, data_app, up_some h hi, last_some h]
    have := split_last 47 s.data.toList hi
    rw [List.append_assoc]
    exact this
  · rw [up_some h hi]; exact inB_up _ h hi
  · have hl := (List.getElem?_eq_some_iff.1 (lastIx_get 47 s.data.toList hi)).1
    have : belowB s.data.toList (pathUpS s).data.toList = false := belowB_long (by rw [up_some h hi, List.length_take]; omega)
    simp [inB, this]
end Go.Proofs.Ytlnehebihfeegaa
