/- Entries that are a tree, told one by one: each can be put behind those ahead of it. -/
import Derived.Test.YtlnehebihfeegaaTreeEntry
namespace Go.Proofs.Ytlnehebihfeegaa
open Go.RowKit Go.Shelf

def okI (es : List Ent) (i : Nat) : Bool := (i == 0 || ltS (entFn es (i - 1)).path (entFn es i).path) && putB (es.take i) (entFn es i)
theorem lt_take : ∀ (l : List UInt8) (i : Nat), i < l.length → Op.bytesLess (l.take i) l = true
  | [], _, h => by simp at h
  | _ :: _, 0, _ => rfl
  | a :: l, i + 1, h => by
    simp only [List.take_succ_cons, Op.bytesLess, Bool.or_eq_true, Bool.and_eq_true, beq_iff_eq]
    exact .inr ⟨trivial, lt_take l i (by simpa using h)⟩
theorem up_less {p : ByteArray} (h : (upS p).toList.isEmpty = false) : ltS (upS p) p = true := by
  unfold upS at h ⊢
  have hl := lastIx_lt 47 p.data.toList
  split
  · rename_i hi; rw [if_pos hi] at h; rw [Lib.toList_data] at h; cases h
  · unfold ltS
    rw [Lib.toList_data, Lib.toList_data, Lib.extract_data]
    simp only [Nat.sub_zero, List.drop_zero]
    exact lt_take _ _ (by omega)
theorem ent_get {es : List Ent} {i : Nat} (hi : i < es.length) : es[i]? = some (entFn es i) := by
  have := List.getElem?_eq_getElem hi
  rw [this, ← entFn_get this]
theorem asc_of {es : List Ent} {n : Nat} (_ : n ≤ es.length) (h : ∀ i, i < n → i = 0 ∨ ltS (entFn es (i - 1)).path (entFn es i).path = true) : ∀ i j, i < j → j < n → ltS (entFn es i).path (entFn es j).path = true := by
  intro i j hij hj
  induction j with
  | zero => omega
  | succ j ih =>
    have hs := (h (j + 1) hj).resolve_left (by omega)
    rw [Nat.add_sub_cancel] at hs
    by_cases e : i = j
    · subst e; exact hs
    · exact lt_tra _ _ _ (ih (by omega) (by omega)) hs
theorem place_at {es : List Ent} {j m : Nat} {q : ByteArray} (hj : j < m) (hm : m ≤ es.length) (hq : (entFn es j).path = q) (hasc : ∀ i, i < j → ltS (entFn es i).path q = true) : placeE (es.take m) q = j := by
  have hl : (es.take m).length = m := by rw [List.length_take]; omega
  have hg : ∀ i, i < m → (es.take m)[i]? = some (entFn es i) := fun i hi => by rw [List.getElem?_take_of_lt hi]; exact ent_get (by omega)
  refine place_of _ q j (by omega) (fun i e hi he => ?_) (fun e he => ?_)
  · rw [hg i (by omega)] at he; cases he; exact hasc i hi
  · rw [hg j hj] at he; cases he; rw [hq]; exact lt_irr _
theorem there_at {es : List Ent} {j m : Nat} {q : ByteArray} (hj : j < m) (hm : m ≤ es.length) (hq : (entFn es j).path = q) (hasc : ∀ i, i < j → ltS (entFn es i).path q = true) : thereE (es.take m) q = true ∧ entFn (es.take m) (placeE (es.take m) q) = entFn es j := by
  have hp := place_at hj hm hq hasc
  have hg : (es.take m)[j]? = some (entFn es j) := by rw [List.getElem?_take_of_lt hj]; exact ent_get (by omega)
  refine ⟨?_, by rw [hp]; exact entFn_get hg⟩
  unfold thereE
  rw [hp, hg]
  show eqS _ _ = true
  rw [hq]; exact (eqS_iff _ _).2 rfl
theorem dir_take {es : List Ent} {i : Nat} {q : ByteArray} (hi : i < es.length) (hs : ∀ a b, a < b → b < es.length → ltS (entFn es a).path (entFn es b).path = true) (hq : q.toList.isEmpty = false → ltS q (entFn es i).path = true) : dirE es q = dirE (es.take i) q := by
  unfold dirE
  cases he : q.toList.isEmpty
  · simp only [Bool.false_or]
    have hql := hq he
    rw [Bool.eq_iff_iff]
    constructor
    · intro h
      rw [Bool.and_eq_true] at h
      obtain ⟨e, hj, hpe⟩ := there_get h.1
      have hjl : placeE es q < es.length := (List.getElem?_eq_some_iff.1 hj).1
      have hfe : (entFn es (placeE es q)).path = q := by rw [entFn_get hj]; exact hpe
      have hji : placeE es q < i := by
        rcases Nat.lt_trichotomy (placeE es q) i with h1 | h1 | h1
        · exact h1
        · rw [h1] at hfe; rw [← hfe] at hql; have := lt_irr (entFn es i).path.toList; unfold ltS at hql; rw [this] at hql; cases hql
        · have h2 := hs i (placeE es q) h1 hjl
          rw [hfe] at h2
          have h3 := lt_tra _ _ _ h2 hql
          rw [lt_irr] at h3; cases h3
      obtain ⟨t1, t2⟩ := there_at (m := i) hji (by omega) hfe (fun a ha => by rw [← hfe]; exact hs a _ ha hjl)
      rw [t1, t2]; exact h.2
    · intro h
      rw [Bool.and_eq_true] at h
      obtain ⟨e, hj, hpe⟩ := there_get h.1
      have hjl : placeE (es.take i) q < (es.take i).length := (List.getElem?_eq_some_iff.1 hj).1
      rw [List.length_take] at hjl
      have hji : placeE (es.take i) q < i := by omega
      have hj' : es[placeE (es.take i) q]? = some e := by rw [List.getElem?_take_of_lt hji] at hj; exact hj
      have hfe : (entFn es (placeE (es.take i) q)).path = q := by rw [entFn_get hj']; exact hpe
      have hall : ∀ a, a < placeE (es.take i) q → ltS (entFn es a).path q = true := fun a ha => by rw [← hfe]; exact hs a _ ha (by omega)
      obtain ⟨t1, t2⟩ := there_at (m := es.length) (j := placeE (es.take i) q) (by omega) (Nat.le_refl _) hfe hall
      rw [List.take_of_length_le (Nat.le_refl _)] at t1 t2
      rw [t1, t2]
      have h2 := h.2
      rw [entFn_get hj] at h2
      rw [entFn_get hj']; exact h2
  · simp
theorem ent_path {e : Ent} (h : entB e = true) : pathUpS e.path = upS e.path := by
  unfold entB at h
  rw [Bool.and_eq_true] at h
  unfold pathUpS; rw [if_pos h.1]
theorem treeB_eq (es : List Ent) : treeB es = (List.range es.length).all (okI es) := by
  rw [Bool.eq_iff_iff]
  unfold treeB
  simp only [Bool.and_eq_true, List.all_eq_true, List.mem_range, decide_eq_true_eq]
  constructor
  · rintro ⟨⟨h1, h2⟩, h3⟩ i hi
    have hs : ∀ i, i < es.length → i = 0 ∨ ltS (entFn es (i - 1)).path (entFn es i).path = true := fun i hi => by
      have := h1 i hi; unfold sortAt at this; simp only [Bool.and_eq_true, Bool.or_eq_true, beq_iff_eq] at this; exact this.2
    have he : entB (entFn es i) = true := by have := h1 i hi; unfold sortAt at this; simp only [Bool.and_eq_true] at this; exact this.1
    have hd := h2 i hi
    rw [dir_take hi (asc_of (Nat.le_refl _) hs) (fun hq => up_less hq), ← ent_path he] at hd
    unfold okI putB
    rw [he, hd]
    have hl : (es.take i).length = i := by rw [List.length_take]; omega
    rw [hl]
    simp only [Bool.and_eq_true, Bool.or_eq_true, beq_iff_eq, decide_eq_true_eq, Bool.true_and]
    exact ⟨hs i hi, by omega⟩
  · intro h
    have hs : ∀ i, i < es.length → i = 0 ∨ ltS (entFn es (i - 1)).path (entFn es i).path = true := fun i hi => by
      have := h i hi; unfold okI at this; simp only [Bool.and_eq_true, Bool.or_eq_true, beq_iff_eq] at this; exact this.1
    have hp : ∀ i, i < es.length → entB (entFn es i) = true ∧ dirE (es.take i) (pathUpS (entFn es i).path) = true ∧ i ≠ 16 := fun i hi => by
      have := h i hi
      unfold okI putB at this
      have hl : (es.take i).length = i := by rw [List.length_take]; omega
      rw [hl] at this
      simp only [Bool.and_eq_true, decide_eq_true_eq] at this
      exact ⟨this.2.1, this.2.2.1, this.2.2.2⟩
    refine ⟨⟨fun i hi => ?_, fun i hi => ?_⟩, ?_⟩
    · unfold sortAt
      simp only [Bool.and_eq_true, Bool.or_eq_true, beq_iff_eq]
      exact ⟨(hp i hi).1, hs i hi⟩
    · have hd := (hp i hi).2.1
      rw [ent_path (hp i hi).1] at hd
      rw [dir_take hi (asc_of (Nat.le_refl _) hs) (fun hq => up_less hq)]
      exact hd
    · rcases Nat.lt_or_ge 16 es.length with h16 | h16
      · exact absurd rfl (hp 16 h16).2.2
      · exact h16
theorem asc_take {es : List Ent} {k : Nat} (hk : k ≤ es.length) (h : (List.range k).all (okI es) = true) : Asc (pathsOf (es.take k)) := by
  rw [List.all_eq_true] at h
  have hs : ∀ i, i < k → i = 0 ∨ ltS (entFn es (i - 1)).path (entFn es i).path = true := fun i hi => by
    have := h i (List.mem_range.2 hi); unfold okI at this; simp only [Bool.and_eq_true, Bool.or_eq_true, beq_iff_eq] at this; exact this.1
  have ha := asc_of hk hs
  intro i j x y hij hx hy
  unfold pathsOf at hx hy
  rw [List.getElem?_map] at hx hy
  have hl : (es.take k).length = k := by rw [List.length_take]; omega
  have hj : j < k := by
    rcases Nat.lt_or_ge j k with h | h
    · exact h
    · rw [List.getElem?_eq_none (by omega)] at hy; cases hy
  rw [List.getElem?_take_of_lt (by omega), ent_get (by omega)] at hx
  rw [List.getElem?_take_of_lt hj, ent_get (by omega)] at hy
  cases hx; cases hy
  exact ha i j hij hj
theorem place_end {es : List Ent} {k : Nat} (hk : k < es.length) (h : (List.range k).all (okI es) = true) (hl : k = 0 ∨ ltS (entFn es (k - 1)).path (entFn es k).path = true) : placeE (es.take k) (entFn es k).path = (es.take k).length := by
  rw [List.all_eq_true] at h
  have hs : ∀ i, i < k + 1 → i = 0 ∨ ltS (entFn es (i - 1)).path (entFn es i).path = true := fun i hi => by
    by_cases e : i = k
    · subst e; exact hl
    · have := h i (List.mem_range.2 (by omega)); unfold okI at this; simp only [Bool.and_eq_true, Bool.or_eq_true, beq_iff_eq] at this; exact this.1
  have ha := asc_of (n := k + 1) (by omega) hs
  have hlen : (es.take k).length = k := by rw [List.length_take]; omega
  rw [hlen]
  refine place_of _ _ k (by omega) (fun i e hi he => ?_) (fun e he => ?_)
  · rw [List.getElem?_take_of_lt hi, ent_get (by omega)] at he; cases he; exact ha i k hi (by omega)
  · rw [List.getElem?_eq_none (by omega)] at he; cases he
end Go.Proofs.Ytlnehebihfeegaa
