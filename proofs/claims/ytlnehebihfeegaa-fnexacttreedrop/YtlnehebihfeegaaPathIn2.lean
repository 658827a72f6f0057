/- A path in a place, and a path that is moved, by the program and by its model. -/
import Derived.Test.YtlnehebihfeegaaPathIn
namespace Go.Proofs.Ytlnehebihfeegaa
open Go.RowKit Go.Shelf

theorem cutB_sum (b : UInt8) : ∀ l : List UInt8, ((cutB b l).map fun p => p.length + 1).sum = l.length + 1
  | [] => by simp [cutB]
  | c :: l => by
    have ih := cutB_sum b l
    unfold cutB
    split
    · simp [ih]; omega
    · split
      · rename_i e; exact absurd e (cutB_ne b l)
      · rename_i h t e
        rw [e] at ih
        simp at ih ⊢; omega
theorem sum_le (l : List (List UInt8)) (h : ∀ p ∈ l, p.length ≤ 10) : (l.map fun p => p.length + 1).sum ≤ 11 * l.length := by
  induction l with
  | nil => simp
  | cons a l ih =>
    have h1 := h a (by simp)
    have h2 := ih (fun p hp => h p (by simp [hp]))
    simp; omega
theorem pathB_size (l : List UInt8) (h : pathB l = true) : l.length ≤ 54 := by
  simp only [pathB, Bool.and_eq_true, decide_eq_true_eq, List.all_eq_true] at h
  have h1 := cutB_sum 47 l
  have h2 := sum_le (cutB 47 l) (fun p hp => by
    have := h.2 p hp
    simp only [nameOkB, Bool.and_eq_true, decide_eq_true_eq] at this
    exact this.1.1.1.2)
  omega

/-- A text is a place, or begins with it and a slash. -/
def belowB (p s : List UInt8) : Bool := (s == p) || Lib.hasPrefix s (p ++ [47])
def inB (p s : List UInt8) : Bool := pathB p && pathB s && belowB p s

theorem belowB_eq (p s : List UInt8) : belowB p s = ((s == p) || (decide (p.length < s.length) && (s.take p.length == p) && (s[p.length]? == some 47))) := by
  unfold belowB Lib.hasPrefix
  congr 1
  rw [Bool.eq_iff_iff]
  simp only [List.isPrefixOf_iff_prefix, Bool.and_eq_true, decide_eq_true_eq, beq_iff_eq]
  constructor
  · rintro ⟨t, rfl⟩
    simp
  · rintro ⟨⟨h1, h2⟩, h3⟩
    refine ⟨s.drop (p.length + 1), ?_⟩
    have h4 : s = s.take p.length ++ s.drop p.length := (List.take_append_drop _ _).symm
    have h5 : s.drop p.length = s[p.length] :: s.drop (p.length + 1) := List.drop_eq_getElem_cons h1
    rw [List.getElem?_eq_getElem h1] at h3
    simp at h3
    rw [h5, h2, h3] at h4
    rw [List.append_assoc]; exact h4.symm

theorem ret_bool {a b : Bool} (h : a = b) : Ending.returned (.bool a) = .returned (.bool b) := by rw [h]
theorem byte_47 (c : UInt8) : (some c == some 47) = ((c.toNat : Int) == 47) := by
  rw [Bool.eq_iff_iff]
  simp only [beq_iff_eq, Option.some.injEq]
  constructor
  · rintro rfl; rfl
  · intro h; exact UInt8.toNat_inj.1 (by simp; omega)

set_option maxRecDepth 100000 in
set_option maxHeartbeats 1000000 in
theorem l1Below_any (p s : ByteArray) (hp : p.size ≤ maxLen) (_hs : s.size ≤ maxLen) (w : World) :
    Calls Try.prog 87 #[.string p, .string s] w fun e w' => e = .returned (.bool (belowB p.data.toList s.data.toList)) ∧ w' = w := by
  unfold maxLen at _hs hp
  rw [belowB_eq, ← Lib.size_eq, ← Lib.size_eq]
  go_enter Try.func87, Try.ntmps87
  go_wp2
  · rename_i h1
    go_ret
    refine ⟨ret_bool ?_, rfl⟩
    rw [Lib.toList_data, Lib.toList_data] at h1
    simp [h1]
  · rename_i h1 h2 h3
    go_ret
    refine ⟨ret_bool ?_, rfl⟩
    rw [Lib.toList_data, Lib.toList_data] at h1 ⊢
    rw [Lib.extract_toList, Lib.toList_data] at h3
    rw [getByte s p.size h2, byte_47]
    simp at h3
    simp [h2, h3]
  · rename_i h1 h2 h3
    go_ret
    refine ⟨ret_bool ?_, rfl⟩
    rw [Lib.toList_data, Lib.toList_data] at h1 ⊢
    rw [Lib.extract_toList, Lib.toList_data] at h3
    simp at h3
    simp [h3]
  · rename_i h1 h2
    go_ret
    refine ⟨ret_bool ?_, rfl⟩
    rw [Lib.toList_data, Lib.toList_data] at h1 ⊢
    simp [h2]

set_option maxRecDepth 100000 in
set_option maxHeartbeats 1000000 in
theorem PathIn_any (p s : ByteArray) (hp : p.size ≤ maxLen) (hs : s.size ≤ maxLen) (w : World) :
    Calls Try.prog 54 #[.string p, .string s] w fun e w' => e = .returned (.bool (inB p.data.toList s.data.toList)) ∧ Below w.heap.size w w' := by
  cases h1 : pathB p.data.toList
  · have E := hid (show inB p.data.toList s.data.toList = false by simp [inB, h1])
    go_enter Try.func54, Try.ntmps54
    go_wp2_with fail
    refine (PathOk_any p hp _).mono ?_
    rintro e w1 ⟨rfl, hb1⟩
    rw [h1]
    go_wp2_with fail
    go_ret
    exact ⟨by rw [unhid E]; rfl, hb1⟩
  · cases h2 : pathB s.data.toList
    · have E := hid (show inB p.data.toList s.data.toList = false by simp [inB, h2])
      go_enter Try.func54, Try.ntmps54
      go_wp2_with fail
      refine (PathOk_any p hp _).mono ?_
      rintro e w1 ⟨rfl, hb1⟩
      rw [h1]
      go_wp2_with fail
      refine (PathOk_any s hs _).mono ?_
      rintro e w2 ⟨rfl, hb2⟩
      rw [h2]
      go_wp2_with fail
      go_ret
      exact ⟨by rw [unhid E]; rfl, hb1.trans (hb2.mono hb1.size)⟩
    · have E := hid (show inB p.data.toList s.data.toList = belowB p.data.toList s.data.toList by simp [inB, h1, h2])
      have hz := pathB_size _ h1
      rw [← Lib.size_eq] at hz
      go_enter Try.func54, Try.ntmps54
      go_wp2_with fail
      refine (PathOk_any p hp _).mono ?_
      rintro e w1 ⟨rfl, hb1⟩
      rw [h1]
      go_wp2_with fail
      refine (PathOk_any s hs _).mono ?_
      rintro e w2 ⟨rfl, hb2⟩
      rw [h2]
      go_wp2_with fail
      · rename_i h3
        rw [Lib.toList_data, Lib.toList_data] at h3
        go_ret
        refine ⟨ret_bool ?_, hb1.trans (hb2.mono hb1.size)⟩
        rw [unhid E, belowB]
        simp [h3]
      · have h3 : ¬ s.toList = p.toList := by assumption
        rw [Lib.toList_data, Lib.toList_data] at h3
        refine (HasPrefix_any s _ _).mono ?_
        rintro e w3 ⟨rfl, rfl⟩
        go_wp2_with fail
        go_ret
        refine ⟨ret_bool ?_, hb1.trans (hb2.mono hb1.size)⟩
        rw [unhid E, belowB, Lib.toList_data, Lib.toList_data]

/-- What the model's PathMove answers. -/
def moveS (s f t : ByteArray) : ByteArray := if inB f.data.toList s.data.toList && pathB t.data.toList && pathB (t ++ s.extract f.size s.size).data.toList then t ++ s.extract f.size s.size else ⟨#[]⟩

theorem inB_size {p s : ByteArray} (h : inB p.data.toList s.data.toList = true) : p.size ≤ s.size ∧ s.size ≤ 54 := by
  simp only [inB, Bool.and_eq_true] at h
  have h1 := pathB_size _ h.1.2
  have h2 := h.2
  rw [belowB_eq] at h2
  simp only [Bool.or_eq_true, Bool.and_eq_true, decide_eq_true_eq, beq_iff_eq] at h2
  rw [← Lib.size_eq] at h1
  rcases h2 with h2 | h2
  · have := congrArg List.length h2
    rw [← Lib.size_eq, ← Lib.size_eq] at this
    omega
  · have := h2.1.1
    rw [← Lib.size_eq, ← Lib.size_eq] at this
    omega

set_option maxRecDepth 100000 in
set_option maxHeartbeats 1000000 in
theorem PathMove_any (s f t : ByteArray) (hs : s.size ≤ maxLen) (hf : f.size ≤ maxLen) (ht : t.size ≤ maxLen) (w : World) :
    Calls Try.prog 55 #[.string s, .string f, .string t] w fun e w' => e = .returned (.string (moveS s f t)) ∧ Below w.heap.size w w' := by
  cases h1 : inB f.data.toList s.data.toList
  · have E := hid (show moveS s f t = ⟨#[]⟩ by simp [moveS, h1])
    go_enter Try.func55, Try.ntmps55
    go_wp2_with fail
    refine (PathIn_any f s hf hs _).mono ?_
    rintro e w1 ⟨rfl, hb1⟩
    rw [h1]
    go_wp2_with fail
    go_ret
    exact ⟨by rw [unhid E]; rfl, hb1⟩
  · obtain ⟨z1, z2⟩ := inB_size h1
    cases h2 : pathB t.data.toList
    · have E := hid (show moveS s f t = ⟨#[]⟩ by simp [moveS, h2])
      go_enter Try.func55, Try.ntmps55
      go_wp2_with fail
      refine (PathIn_any f s hf hs _).mono ?_
      rintro e w1 ⟨rfl, hb1⟩
      rw [h1]
      go_wp2_with fail
      refine (PathOk_any t ht _).mono ?_
      rintro e w2 ⟨rfl, hb2⟩
      rw [h2]
      go_wp2_with fail
      go_ret
      exact ⟨by rw [unhid E]; rfl, hb1.trans (hb2.mono hb1.size)⟩
    · have z3 := pathB_size _ h2
      rw [← Lib.size_eq] at z3
      have zz : (t ++ s.extract f.size s.size).size ≤ maxLen := by unfold maxLen; simp; omega
      have Zz := hid zz
      cases h3 : pathB (t ++ s.extract f.size s.size).data.toList
      · have E := hid (show moveS s f t = ⟨#[]⟩ by rw [moveS, h3]; simp)
        have H3 := hid h3
        clear zz h3
        go_enter Try.func55, Try.ntmps55
        go_wp2_with fail
        refine (PathIn_any f s hf hs _).mono ?_
        rintro e w1 ⟨rfl, hb1⟩
        rw [h1]
        go_wp2_with fail
        refine (PathOk_any t ht _).mono ?_
        rintro e w2 ⟨rfl, hb2⟩
        rw [h2]
        go_wp2_with fail
        refine (PathOk_any _ (unhid Zz) _).mono ?_
        rintro e w3 ⟨rfl, hb3⟩
        rw [unhid H3]
        go_wp2_with fail
        go_ret
        exact ⟨by rw [unhid E]; rfl, hb1.trans ((hb2.trans (hb3.mono hb2.size)).mono hb1.size)⟩
      · have E := hid (show moveS s f t = t ++ s.extract f.size s.size by rw [moveS, h1, h2, h3]; simp)
        have H3 := hid h3
        clear zz h3
        go_enter Try.func55, Try.ntmps55
        go_wp2_with fail
        refine (PathIn_any f s hf hs _).mono ?_
        rintro e w1 ⟨rfl, hb1⟩
        rw [h1]
        go_wp2_with fail
        refine (PathOk_any t ht _).mono ?_
        rintro e w2 ⟨rfl, hb2⟩
        rw [h2]
        go_wp2_with fail
        refine (PathOk_any _ (unhid Zz) _).mono ?_
        rintro e w3 ⟨rfl, hb3⟩
        rw [unhid H3]
        go_wp2_with fail
        go_ret
        exact ⟨by rw [unhid E]; rfl, hb1.trans ((hb2.trans (hb3.mono hb2.size)).mono hb1.size)⟩

end Go.Proofs.Ytlnehebihfeegaa
