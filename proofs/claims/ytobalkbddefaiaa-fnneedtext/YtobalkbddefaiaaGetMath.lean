/- The program and its model read the same need. -/
import Derived.Test.YtobalkbddefaiaaGetSpec
namespace Go.Proofs.Ytobalkbddefaiaa
open Go.RowKit Go.Shelf

theorem byteArray_ext {x y : ByteArray} (h : x.data.toList = y.data.toList) : x = y := by
  obtain ⟨⟨l⟩⟩ := x; obtain ⟨⟨m⟩⟩ := y; simp at h; subst h; rfl
/-- What the model's NeedGet hands back. -/
def specV (s : ByteArray) (k : Nat) : Value := if spOk s (nameA s k) (restA s k) then needV (nameA s k) (spKV (restA s k) 4).1 (spKV (restA s k) 4).2 true else needV ⟨#[]⟩ 0 ⟨#[]⟩ false

theorem rest_data (s : ByteArray) (k : Nat) : (restA s k).data.toList = s.data.toList.drop k := by
  unfold restA; rw [Lib.extract_data, List.take_of_length_le (by simp)]
theorem name_data (s : ByteArray) (k : Nat) : (nameA s k).data.toList = s.data.toList.take k := by
  unfold nameA; rw [Lib.extract_data]; simp
theorem has_of {r m : ByteArray} (h : hasA r m = true) : ∃ t, r.data.toList = m.data.toList ++ t := by
  unfold hasA Lib.hasPrefix at h
  obtain ⟨t, ht⟩ := List.isPrefixOf_iff_prefix.1 h
  exact ⟨t, ht.symm⟩
theorem has_mk {r m : ByteArray} {t : List UInt8} (h : r.data.toList = m.data.toList ++ t) : hasA r m = true := by
  unfold hasA Lib.hasPrefix
  exact List.isPrefixOf_iff_prefix.2 ⟨t, h.symm⟩
theorem mark1 : (markA 1).data.toList = [61] := rfl
theorem mark2 : (markA 2).data.toList = [62, 61] := rfl
theorem mark3 : (markA 3).data.toList = [60] := rfl
theorem mark0 : (markA 0).data.toList = [] := rfl
theorem has0 (r : ByteArray) : hasA r (markA 0) = true := has_mk (t := r.data.toList) (by rw [mark0]; rfl)
theorem has_no {r : ByteArray} {c : UInt8} {t : List UInt8} (h : r.data.toList = c :: t) (j : Int) (hj : j = 1 ∧ c ≠ 61 ∨ j = 2 ∧ c ≠ 62 ∨ j = 3 ∧ c ≠ 60) : hasA r (markA j) = false := by
  cases hh : hasA r (markA j)
  · rfl
  · obtain ⟨u, hu⟩ := has_of hh
    rw [h] at hu
    rcases hj with ⟨rfl, hc⟩ | ⟨rfl, hc⟩ | ⟨rfl, hc⟩
    · rw [mark1] at hu; exact absurd (by simpa using congrArg List.head? hu) hc
    · rw [mark2] at hu; exact absurd (by simpa using congrArg List.head? hu) hc
    · rw [mark3] at hu; exact absurd (by simpa using congrArg List.head? hu) hc
theorem has_nil {r : ByteArray} (h : r.data.toList = []) (j : Int) (hj : j = 1 ∨ j = 2 ∨ j = 3) : hasA r (markA j) = false := by
  cases hh : hasA r (markA j)
  · rfl
  · obtain ⟨u, hu⟩ := has_of hh
    rw [h] at hu
    rcases hj with rfl | rfl | rfl
    · rw [mark1] at hu; cases hu
    · rw [mark2] at hu; cases hu
    · rw [mark3] at hu; cases hu
theorem cut0_data (r : ByteArray) : (cutA r (markA 0)).data.toList = r.data.toList := by
  unfold cutA; rw [if_pos (has0 r), Lib.extract_data]
  show ((r.data.toList.drop 0).take (r.size - 0)) = _
  rw [List.drop_zero, List.take_of_length_le (by simp)]
theorem spKV4 (r : ByteArray) : spKV r 4 = if hasA r (markA 3) = true then (3, r.extract (markA 3).size r.size) else if hasA r (markA 2) = true then (2, r.extract (markA 2).size r.size) else if hasA r (markA 1) = true then (1, r.extract (markA 1).size r.size) else (0, ⟨#[]⟩) := by
  simp [spKV]
/-- A need that bears a mark, put again, is the text. -/
theorem put_back {s : ByteArray} {k : Nat} {j : Int} (h : hasA (restA s k) (markA j) = true) : ((putA (nameA s k) j ((restA s k).extract (markA j).size (restA s k).size)).toList == s.toList) = true := by
  rw [beq_iff_eq, Lib.toList_data, Lib.toList_data]
  obtain ⟨t, ht⟩ := has_of h
  have e1 : (markA j).size = (markA j).data.toList.length := Lib.size_eq _
  have e2 : (restA s k).size = (restA s k).data.toList.length := Lib.size_eq _
  have hx : ((restA s k).extract (markA j).size (restA s k).size).data.toList = t := by
    rw [Lib.extract_data, e2, ht, e1, List.drop_left, List.take_of_length_le (by simp)]
  unfold putA
  rw [ByteArray.data_append, ByteArray.data_append, Array.toList_append, Array.toList_append, hx, name_data, List.append_assoc, ← ht, rest_data, List.take_append_drop]
theorem needB_0 {n v : List UInt8} (h : v ≠ []) : needB n 0 v = false := by
  have : v.isEmpty = false := by cases v <;> simp_all
  simp [needB, askB, this]
theorem needB_p {n v : List UInt8} {k : Int} (h : packB n = false) : needB n k v = false := by simp [needB, h]

theorem get_one {s : ByteArray} {k : Nat} {j : Nat} (hj : j = 1 ∨ j = 2 ∨ j = 3) (hh : hasA (restA s k) (markA j) = true) (hn : ∀ i : Nat, i = 1 ∨ i = 2 ∨ i = 3 → i ≠ j → hasA (restA s k) (markA i) = false) : getV s k = specV s k := by
  have hne : (restA s k).data.toList ≠ [] := by
    intro h0
    rw [has_nil h0 j (by omega)] at hh; cases hh
  have t0 : tryB s k 0 = false := by
    unfold tryB; rw [needB_0 (by rw [cut0_data]; exact hne), Bool.and_false]
  have tn : ∀ i : Nat, i = 1 ∨ i = 2 ∨ i = 3 → i ≠ j → tryB s k i = false := fun i hi hij => by
    unfold tryB preB; rw [hn i hi hij]; rfl
  have hkv : spKV (restA s k) 4 = ((j : Int), (restA s k).extract (markA j).size (restA s k).size) := by
    rw [spKV4]
    have h1 := hn 1
    have h2 := hn 2
    have h3 := hn 3
    rcases hj with rfl | rfl | rfl <;> simp_all
  have hc : cutA (restA s k) (markA j) = (restA s k).extract (markA j).size (restA s k).size := by unfold cutA; rw [if_pos hh]
  have ht : tryB s k j = spOk s (nameA s k) (restA s k) := by
    unfold tryB preB spOk; rw [hh, hkv, put_back hh, hc, Bool.true_and, Bool.and_true]
  unfold specV
  rw [← ht, hkv]
  cases hx : tryB s k j
  · rw [if_neg (by simp)]
    refine getV_none s k fun i hi => ?_
    by_cases hi0 : i = 0
    · subst hi0; exact t0
    · by_cases hij : i = j
      · subst hij; exact hx
      · exact tn i (by omega) hij
  · rw [if_pos rfl, getV_hit s k j (by omega) (fun i hi => by
      by_cases hi0 : i = 0
      · subst hi0; exact t0
      · exact tn i (by omega) (by omega)) hx, hc]

theorem get_eq {s : ByteArray} {e k : Nat} (hP : PackEnd s e) (hM : MarkEnd s k) : getV s e = specV s k := by
  obtain ⟨he, p1, p2⟩ := hP
  obtain ⟨hk, m1, m2⟩ := hM
  have hle : e ≤ k := by
    apply Nat.le_of_not_lt
    intro hlt
    have hks : k < s.size := by omega
    have a := m2 hks
    have b := p1 k hks hlt
    simp only [markC, Bool.or_eq_true, beq_iff_eq] at a
    rcases a with (a | a) | a <;> rw [a] at b <;> revert b <;> decide
  have hget : ∀ j (hj : j < s.size), s.data.toList.drop j = s[j] :: s.data.toList.drop (j + 1) := fun j hj => by
    rw [List.drop_eq_getElem_cons (by simpa using hj)]; rfl
  by_cases hek : e = k
  · subst hek
    by_cases hks : e < s.size
    · have hr := (rest_data s e).trans (hget e hks)
      have a := m2 hks
      simp only [markC, Bool.or_eq_true, beq_iff_eq] at a
      have other : ∀ (j : Nat) (i : Nat), (j = 1 ∧ s[e] = 61 ∨ j = 2 ∧ s[e] = 62 ∨ j = 3 ∧ s[e] = 60) → i = 1 ∨ i = 2 ∨ i = 3 → i ≠ j → hasA (restA s e) (markA i) = false := by
        intro j i hj hi hij
        refine has_no hr i ?_
        rcases hj with ⟨rfl, hc⟩ | ⟨rfl, hc⟩ | ⟨rfl, hc⟩ <;> rcases hi with rfl | rfl | rfl <;> first | exact absurd rfl hij | (rw [hc]; decide)
      have none_of : hasA (restA s e) (markA 1) = false → hasA (restA s e) (markA 2) = false → hasA (restA s e) (markA 3) = false → getV s e = specV s e := by
        intro h1 h2 h3
        have hne : (restA s e).data.toList ≠ [] := by rw [hr]; simp
        have hs : spOk s (nameA s e) (restA s e) = false := by
          unfold spOk
          rw [spKV4, if_neg (by simp [h3]), if_neg (by simp [h2]), if_neg (by simp [h1])]
          have : ((putA (nameA s e) 0 ⟨#[]⟩).toList == s.toList) = false := by
            rw [beq_eq_false_iff_ne, Lib.toList_data, Lib.toList_data]
            intro h
            have h' := congrArg List.length h
            unfold putA at h'
            rw [ByteArray.data_append, ByteArray.data_append, Array.toList_append, Array.toList_append, name_data] at h'
            have z : (markA 0).data.toList = [] := rfl
            rw [z] at h'
            simp at h'
            omega
          show (_ && _) = false
          rw [this, Bool.and_false]
        unfold specV
        rw [hs, if_neg (by simp)]
        refine getV_none s e fun i hi => ?_
        rcases (by omega : i = 0 ∨ i = 1 ∨ i = 2 ∨ i = 3) with rfl | rfl | rfl | rfl
        · show tryB s e 0 = false
          unfold tryB; rw [needB_0 (by rw [cut0_data]; exact hne), Bool.and_false]
        · show tryB s e 1 = false
          unfold tryB preB; rw [h1]; rfl
        · show tryB s e 2 = false
          unfold tryB preB; rw [h2]; rfl
        · show tryB s e 3 = false
          unfold tryB preB; rw [h3]; rfl
      rcases a with (a | a) | a
      · exact get_one (j := 1) (.inl rfl) (has_mk (t := s.data.toList.drop (e + 1)) (by rw [hr, a]; rfl)) (fun i hi hij => other 1 i (.inl ⟨rfl, a⟩) hi hij)
      · cases h2 : hasA (restA s e) (markA 2)
        · exact none_of (other 2 1 (.inr (.inl ⟨rfl, a⟩)) (by omega) (by omega)) h2 (other 2 3 (.inr (.inl ⟨rfl, a⟩)) (by omega) (by omega))
        · exact get_one (j := 2) (.inr (.inl rfl)) h2 (fun i hi hij => other 2 i (.inr (.inl ⟨rfl, a⟩)) hi hij)
      · exact get_one (j := 3) (.inr (.inr rfl)) (has_mk (t := s.data.toList.drop (e + 1)) (by rw [hr, a]; rfl)) (fun i hi hij => other 3 i (.inr (.inr ⟨rfl, a⟩)) hi hij)
    · have hr : (restA s e).data.toList = [] := by rw [rest_data, List.drop_of_length_le (by simp; omega)]
      have h1 := has_nil hr 1 (by omega)
      have h2 := has_nil hr 2 (by omega)
      have h3 := has_nil hr 3 (by omega)
      have hc : cutA (restA s e) (markA 0) = ⟨#[]⟩ := byteArray_ext (by rw [cut0_data, hr])
      have hkv : spKV (restA s e) 4 = (0, ⟨#[]⟩) := by rw [spKV4, if_neg (by simp [h3]), if_neg (by simp [h2]), if_neg (by simp [h1])]
      have hp : ((putA (nameA s e) 0 ⟨#[]⟩).toList == s.toList) = true := by
        rw [beq_iff_eq, Lib.toList_data, Lib.toList_data]
        unfold putA
        rw [ByteArray.data_append, ByteArray.data_append, Array.toList_append, Array.toList_append, name_data]
        have z : (markA 0).data.toList = [] := rfl
        rw [z, List.take_of_length_le (by simp; omega)]
        simp
      have ht : tryB s e 0 = spOk s (nameA s e) (restA s e) := by
        unfold tryB preB spOk; rw [has0, hkv, hc, Bool.true_and]
        show _ = (_ && ((putA (nameA s e) 0 ⟨#[]⟩).toList == s.toList))
        rw [hp, Bool.and_true]
      unfold specV
      rw [← ht, hkv]
      cases hx : tryB s e 0
      · rw [if_neg (by simp)]
        refine getV_none s e fun i hi => ?_
        rcases (by omega : i = 0 ∨ i = 1 ∨ i = 2 ∨ i = 3) with rfl | rfl | rfl | rfl
        · exact hx
        · show tryB s e 1 = false
          unfold tryB preB; rw [h1]; rfl
        · show tryB s e 2 = false
          unfold tryB preB; rw [h2]; rfl
        · show tryB s e 3 = false
          unfold tryB preB; rw [h3]; rfl
      · rw [if_pos rfl]
        have := getV_hit s e 0 (by omega) (fun i hi => by omega) hx
        rw [this]
        show needV (nameA s e) 0 (cutA (restA s e) (markA 0)) true = _
        rw [hc]
  · have hes : e < s.size := by omega
    have hr := (rest_data s e).trans (hget e hes)
    have b := p2 hes
    have a := m1 e hes (by omega)
    simp only [markC, Bool.or_eq_false_iff, beq_eq_false_iff_ne] at a
    have hpk : packB (nameA s k).data.toList = false := by
      cases hx : packB (nameA s k).data.toList
      · rfl
      · unfold packB at hx
        simp only [Bool.and_eq_true, List.all_eq_true] at hx
        have hmem : s[e] ∈ (nameA s k).data.toList := by
          rw [name_data, List.mem_take_iff_getElem]
          exact ⟨e, by simp; omega, rfl⟩
        have := hx.2 _ hmem
        rw [b] at this; cases this
    have hs : spOk s (nameA s k) (restA s k) = false := by unfold spOk; rw [needB_p hpk, Bool.false_and]
    unfold specV
    rw [hs, if_neg (by simp)]
    refine getV_none s e fun i hi => ?_
    rcases (by omega : i = 0 ∨ i = 1 ∨ i = 2 ∨ i = 3) with rfl | rfl | rfl | rfl
    · show tryB s e 0 = false
      unfold tryB; rw [needB_0 (by rw [cut0_data, hr]; simp), Bool.and_false]
    · show tryB s e 1 = false
      unfold tryB preB; rw [has_no hr 1 (.inl ⟨rfl, a.1.1⟩)]; rfl
    · show tryB s e 2 = false
      unfold tryB preB; rw [has_no hr 2 (.inr (.inl ⟨rfl, a.1.2⟩))]; rfl
    · show tryB s e 3 = false
      unfold tryB preB; rw [has_no hr 3 (.inr (.inr ⟨rfl, a.2⟩))]; rfl
end Go.Proofs.Ytobalkbddefaiaa
