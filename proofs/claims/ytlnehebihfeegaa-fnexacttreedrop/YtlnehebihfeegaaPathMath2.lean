/- What holds of a path in a place, and of one that is moved. -/
import Derived.Test.YtlnehebihfeegaaPathMath
namespace Go.Proofs.Ytlnehebihfeegaa

theorem empty_toList : (ByteArray.mk #[]).toList = [] := by rw [Lib.toList_data]
theorem inB_parts {p s : List UInt8} (h : inB p s = true) : pathB p = true ∧ pathB s = true ∧ belowB p s = true := by
  simp only [inB, Bool.and_eq_true] at h
  exact ⟨h.1.1, h.1.2, h.2⟩
theorem inB_mk {p s : List UInt8} (h1 : pathB p = true) (h2 : pathB s = true) (h3 : belowB p s = true) : inB p s = true := by simp [inB, h1, h2, h3]

theorem in_up {p s : List UInt8} (h : inB p s = true) (hne : s ≠ p) : 0 ≤ lastIx 47 s ∧ inB p (s.take (lastIx 47 s).toNat) = true ∧ inB s p = false := by
  obtain ⟨h1, h2, h3⟩ := inB_parts h
  rcases belowB_cases h3 with rfl | ⟨t, rfl⟩
  · exact absurd rfl hne
  · have hat : (p ++ 47 :: t)[p.length]? = some 47 := by simp
    have hle : (p.length : Int) ≤ lastIx 47 (p ++ 47 :: t) := by
      rcases Int.lt_or_le (lastIx 47 (p ++ 47 :: t)) p.length with hlt | hge
      · exact absurd hat (lastIx_after 47 _ _ hlt)
      · exact hge
    refine ⟨by omega, inB_mk h1 (pathB_up _ h2 (by omega)) ?_, ?_⟩
    · obtain ⟨k, hk⟩ : ∃ k, (lastIx 47 (p ++ 47 :: t)).toNat = p.length + k := ⟨(lastIx 47 (p ++ 47 :: t)).toNat - p.length, by omega⟩
      rw [hk, List.take_length_add_append]
      cases k with
      | zero => simp [belowB_refl]
      | succ k => rw [List.take_succ_cons]; exact belowB_app _ _
    · have := belowB_long (p := p ++ 47 :: t) (s := p) (by simp)
      simp [inB, this]

/-- What FnPathIn asks of a path in a place, and not the place. -/
theorem fnPathIn_facts {p s : ByteArray} (h : inB p.data.toList s.data.toList = true) (hne : ¬ p.toList = s.toList) :
    inB p.data.toList (pathUpS s).data.toList = true ∧ inB s.data.toList p.data.toList = false := by
  rw [Lib.toList_data, Lib.toList_data] at hne
  obtain ⟨h1, h2, h3⟩ := in_up h (fun e => hne e.symm)
  exact ⟨by rw [up_some (inB_parts h).2.1 h1]; exact h2, h3⟩
theorem fnPathIn_up {p s : ByteArray} (h : inB p.data.toList s.data.toList = true) (hu : ¬ (pathUpS p).toList = []) : inB (pathUpS p).data.toList s.data.toList = true := by
  by_cases hi : lastIx 47 p.data.toList < 0
  · rw [up_none hi] at hu; exact absurd empty_toList hu
  · refine inB_trans ?_ h
    rw [up_some (inB_parts h).1 (by omega)]
    exact inB_up _ (inB_parts h).1 (by omega)

theorem drop_size (f s : ByteArray) : (s.extract f.size s.size).data.toList = s.data.toList.drop f.data.toList.length := by
  rw [Lib.extract_data, List.take_of_length_le (by simp), ← Lib.size_eq]
theorem move_back {s f t : ByteArray} (h : inB f.data.toList s.data.toList = true) (ht : pathB t.data.toList = true) (hx : pathB (t ++ s.extract f.size s.size).data.toList = true) :
    inB t.data.toList (t ++ s.extract f.size s.size).data.toList = true ∧ moveS (t ++ s.extract f.size s.size) t f = s := by
  obtain ⟨h1, h2, h3⟩ := inB_parts h
  have hd : (t ++ s.extract f.size s.size).data.toList = t.data.toList ++ s.data.toList.drop f.data.toList.length := by rw [data_app, drop_size]
  have hin : inB t.data.toList (t ++ s.extract f.size s.size).data.toList = true := by
    refine inB_mk ht hx ?_
    rw [hd]
    rcases belowB_cases h3 with e | ⟨r, e⟩
    · rw [e, List.drop_length, List.append_nil]; exact belowB_refl _
    · rw [e, List.drop_left]; exact belowB_app _ _
  refine ⟨hin, ?_⟩
  have he : f ++ (t ++ s.extract f.size s.size).extract t.size (t ++ s.extract f.size s.size).size = s := by
    apply ba_ext
    rw [data_app, drop_size, hd, List.drop_left]
    rcases belowB_cases h3 with e | ⟨r, e⟩
    · rw [e, List.drop_length, List.append_nil]
    · rw [e, List.drop_left]
  unfold moveS
  rw [hin, h1, he, h2]
  rfl
theorem move_same {s f : ByteArray} (h : inB f.data.toList s.data.toList = true) : moveS s f f = s := by
  obtain ⟨h1, h2, h3⟩ := inB_parts h
  have he : f ++ s.extract f.size s.size = s := by
    apply ba_ext
    rw [data_app, drop_size]
    rcases belowB_cases h3 with e | ⟨r, e⟩
    · rw [e, List.drop_length, List.append_nil]
    · rw [e, List.drop_left]
  unfold moveS
  rw [h, h1, he, h2]
  rfl
theorem size_move (s f t : ByteArray) : (moveS s f t).size ≤ s.size + t.size := by
  unfold moveS
  split
  · simp; omega
  · exact Nat.zero_le _
/-- What FnPathMove asks of what was moved. -/
theorem fnPathMove_facts {s f t : ByteArray} (hne : ¬ (moveS s f t).toList = []) :
    pathB (moveS s f t).data.toList = true ∧ inB t.data.toList (moveS s f t).data.toList = true ∧ moveS (moveS s f t) t f = s ∧ moveS s f f = s := by
  by_cases hc : (inB f.data.toList s.data.toList && pathB t.data.toList && pathB (t ++ s.extract f.size s.size).data.toList) = true
  · have e : moveS s f t = t ++ s.extract f.size s.size := by unfold moveS; rw [if_pos hc]
    simp only [Bool.and_eq_true] at hc
    obtain ⟨m1, m2⟩ := move_back hc.1.1 hc.1.2 hc.2
    rw [e]
    exact ⟨hc.2, m1, m2, move_same hc.1.1⟩
  · have e : moveS s f t = ⟨#[]⟩ := by unfold moveS; rw [if_neg hc]
    rw [e] at hne
    exact absurd empty_toList hne
end Go.Proofs.Ytlnehebihfeegaa
