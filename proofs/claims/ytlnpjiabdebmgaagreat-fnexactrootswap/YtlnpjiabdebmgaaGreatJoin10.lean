/- Texts of this proof, one behind the other; each says at its head what it shows. -/
import Derived.Test.YtlnpjiabdebmgaaGreatJoin9
import Derived.Test.YtlnpjiabdebmgaaGreatRows
import Derived.WalkKit
import Derived.ProofKit
import Derived.OpenShut
import Derived.Test.YtlnpjiabdebmgaaGreatJoin4
import Derived.Deep.Slices
import Derived.Lib.SmallJoins
import Derived.Test.YtlnpjiabdebmgaaGreatJoin6
import Derived.Test.YtlnpjiabdebmgaaGreatJoin5
import Derived.Laws.StructEq
/- What holds of paths as lists of bytes: what a path is in is a path; it is in that; moved, and back. -/
namespace Go.Proofs.YtlnpjiabdebmgaaGreat

theorem lastIx_get (b : UInt8) : ∀ l : List UInt8, 0 ≤ lastIx b l → l[(lastIx b l).toNat]? = some b
  | [], h => by simp [lastIx] at h
  | c :: l, h => by
    by_cases hl : 0 ≤ lastIx b l
    · have ih := lastIx_get b l hl
      have e : lastIx b (c :: l) = lastIx b l + 1 := by simp [lastIx, hl]
      rw [e, show (lastIx b l + 1).toNat = (lastIx b l).toNat + 1 from by omega]
      simpa using ih
    · by_cases hc : (c == b) = true
      · have e : lastIx b (c :: l) = 0 := by simp [lastIx, hl, hc]
        rw [e]; simpa using hc
      · have e : lastIx b (c :: l) = -1 := by simp [lastIx, hl, hc]
        omega
theorem lastIx_after (b : UInt8) : ∀ (l : List UInt8) (j : Nat), lastIx b l < j → l[j]? ≠ some b
  | [], j, _ => by simp
  | c :: l, j, h => by
    have hg := lastIx_ge b l
    by_cases hl : 0 ≤ lastIx b l
    · have e : lastIx b (c :: l) = lastIx b l + 1 := by simp [lastIx, hl]
      cases j with
      | zero => omega
      | succ j => simpa using lastIx_after b l j (by omega)
    · cases j with
      | zero =>
        by_cases hc : (c == b) = true
        · have e : lastIx b (c :: l) = 0 := by simp [lastIx, hl, hc]
          omega
        · simpa using hc
      | succ j => simpa using lastIx_after b l j (by omega)
theorem split_last (b : UInt8) (l : List UInt8) (h : 0 ≤ lastIx b l) : l.take (lastIx b l).toNat ++ b :: l.drop (lastIx b l + 1).toNat = l := by
  have hg := lastIx_get b l h
  have hlt := (List.getElem?_eq_some_iff.1 hg).1
  have h2 := (List.getElem?_eq_some_iff.1 hg).2
  rw [show (lastIx b l + 1).toNat = (lastIx b l).toNat + 1 from by omega]
  conv => rhs; rw [← List.take_append_drop (lastIx b l).toNat l, List.drop_eq_getElem_cons hlt, h2]
theorem cutB_take (b : UInt8) : ∀ l : List UInt8, 0 ≤ lastIx b l → cutB b (l.take (lastIx b l).toNat) = (cutB b l).dropLast
  | [], h => by simp [lastIx] at h
  | c :: l, h => by
    by_cases hl : 0 ≤ lastIx b l
    · have ih := cutB_take b l hl
      obtain ⟨x, y, t, e⟩ := (cutB_lastIx b l).2.1 hl
      have el : lastIx b (c :: l) = lastIx b l + 1 := by simp [lastIx, hl]
      rw [el, show (lastIx b l + 1).toNat = (lastIx b l).toNat + 1 from by omega, List.take_succ_cons]
      by_cases hc : (c == b) = true
      · simp [cutB, hc, ih, e]
      · simp [cutB, hc, ih, e]
    · by_cases hc : (c == b) = true
      · have el : lastIx b (c :: l) = 0 := by simp [lastIx, hl, hc]
        have e1 := (cutB_lastIx b l).1 (by omega)
        rw [el]
        simp [cutB, hc, e1]
      · have el : lastIx b (c :: l) = -1 := by simp [lastIx, hl, hc]
        omega
theorem pathB_up (l : List UInt8) (h : pathB l = true) (hi : 0 ≤ lastIx 47 l) : pathB (l.take (lastIx 47 l).toNat) = true := by
  simp only [pathB, Bool.and_eq_true, decide_eq_true_eq, List.all_eq_true] at h ⊢
  rw [cutB_take 47 l hi]
  exact ⟨by simp; omega, fun x hx => h.2 x ((List.dropLast_prefix _).subset hx)⟩
theorem pathB_ne (l : List UInt8) (h : pathB l = true) : l ≠ [] := by
  rintro rfl
  simp [pathB, cutB, nameOkB] at h
theorem belowB_refl (l : List UInt8) : belowB l l = true := by simp [belowB]
theorem belowB_app (l t : List UInt8) : belowB l (l ++ 47 :: t) = true := by
  simp only [belowB, Lib.hasPrefix, Bool.or_eq_true]
  exact .inr (List.isPrefixOf_iff_prefix.2 ⟨t, by simp⟩)
theorem belowB_cases {p s : List UInt8} (h : belowB p s = true) : s = p ∨ ∃ t, s = p ++ 47 :: t := by
  simp only [belowB, Lib.hasPrefix, Bool.or_eq_true, beq_iff_eq] at h
  rcases h with h | h
  · exact .inl h
  · obtain ⟨t, rfl⟩ := List.isPrefixOf_iff_prefix.1 h
    exact .inr ⟨t, by simp⟩
theorem belowB_long {p s : List UInt8} (h : s.length < p.length) : belowB p s = false := by
  cases hb : belowB p s with
  | false => rfl
  | true =>
    rcases belowB_cases hb with rfl | ⟨t, rfl⟩
    · omega
    · simp at h; omega
theorem inB_refl (l : List UInt8) (h : pathB l = true) : inB l l = true := by simp [inB, h, belowB_refl]
theorem inB_up (l : List UInt8) (h : pathB l = true) (hi : 0 ≤ lastIx 47 l) : inB (l.take (lastIx 47 l).toNat) l = true := by
  simp only [inB, pathB_up l h hi, h, Bool.and_self, Bool.true_and]
  conv => lhs; rw [← split_last 47 l hi]
  have e : (l.take (lastIx 47 l).toNat ++ 47 :: l.drop (lastIx 47 l + 1).toNat).take (lastIx 47 (l.take (lastIx 47 l).toNat ++ 47 :: l.drop (lastIx 47 l + 1).toNat)).toNat = l.take (lastIx 47 l).toNat := by rw [split_last 47 l hi]
  rw [e]
  exact belowB_app _ _
theorem inB_trans {a b c : List UInt8} (h : inB a b = true) (g : inB b c = true) : inB a c = true := by
  simp only [inB, Bool.and_eq_true] at h g ⊢
  refine ⟨⟨h.1.1, g.1.2⟩, ?_⟩
  rcases belowB_cases g.2 with rfl | ⟨t, rfl⟩
  · exact h.2
  · rcases belowB_cases h.2 with rfl | ⟨u, rfl⟩
    · exact belowB_app _ _
    · rw [List.append_assoc]; exact belowB_app _ _

theorem up_none {s : ByteArray} (hi : lastIx 47 s.data.toList < 0) : pathUpS s = ⟨#[]⟩ := by simp [pathUpS, upS, hi]
theorem last_none {s : ByteArray} (h : pathB s.data.toList = true) (hi : lastIx 47 s.data.toList < 0) : pathLastS s = s := by
  have hg := lastIx_ge 47 s.data.toList
  apply ba_ext
  rw [pathLastS, h, if_pos rfl, lastS, Lib.extract_data, show (lastIx 47 s.data.toList + 1).toNat = 0 from by omega]
  rw [List.take_of_length_le (by simp)]; rfl
theorem up_some {s : ByteArray} (h : pathB s.data.toList = true) (hi : 0 ≤ lastIx 47 s.data.toList) : (pathUpS s).data.toList = s.data.toList.take (lastIx 47 s.data.toList).toNat := by
  rw [pathUpS, h, if_pos rfl, upS, if_neg (by omega), Lib.extract_data]; simp
theorem last_some {s : ByteArray} (h : pathB s.data.toList = true) : (pathLastS s).data.toList = s.data.toList.drop (lastIx 47 s.data.toList + 1).toNat := by
  rw [pathLastS, h, if_pos rfl, lastS, Lib.extract_data, List.take_of_length_le (by simp)]
theorem size_app (x y : ByteArray) : (x ++ y).size = x.size + y.size := by simp
theorem data_app (x y : ByteArray) : (x ++ y).data.toList = x.data.toList ++ y.data.toList := by simp
theorem size_up (s : ByteArray) : (pathUpS s).size ≤ s.size := by
  unfold pathUpS upS
  split
  · split
    · exact Nat.zero_le _
    · simp; omega
  · exact Nat.zero_le _
theorem size_last (s : ByteArray) : (pathLastS s).size ≤ s.size := by
  unfold pathLastS lastS
  split
  · simp
  · exact Nat.zero_le _

/-- What FnPath asks, of a path with a slash. -/
theorem fnPath_facts {s : ByteArray} (h : pathB s.data.toList = true) (hi : 0 ≤ lastIx 47 s.data.toList) :
    ¬ (pathUpS s).toList = [] ∧ (pathUpS s ++ ⟨#[47]⟩ ++ pathLastS s).toList = s.toList ∧ pathB (pathUpS s).data.toList = true ∧ inB (pathUpS s).data.toList s.data.toList = true ∧ inB s.data.toList (pathUpS s).data.toList = false := by
  have hp : pathB (pathUpS s).data.toList = true := by rw [up_some h hi]; exact pathB_up _ h hi
  refine ⟨?_, ?_, hp, ?_, ?_⟩
  · rw [Lib.toList_data]; exact pathB_ne _ hp
  · rw [Lib.toList_data, Lib.toList_data, data_app, data_app, up_some h hi, last_some h]
    have := split_last 47 s.data.toList hi
    rw [List.append_assoc]
    exact this
  · rw [up_some h hi]; exact inB_up _ h hi
  · have hl := (List.getElem?_eq_some_iff.1 (lastIx_get 47 s.data.toList hi)).1
    have : belowB s.data.toList (pathUpS s).data.toList = false := belowB_long (by rw [up_some h hi, List.length_take]; omega)
    simp [inB, this]
end Go.Proofs.YtlnpjiabdebmgaaGreat

/- What holds of a path in a place, and of one that is moved. -/
namespace Go.Proofs.YtlnpjiabdebmgaaGreat

theorem empty_toList : (ByteArray.mk #[]).toList = [] := by rw [Lib.toList_data]
theorem inB_parts {p s : List UInt8} (h : inB p s = true) : pathB p = true ∧ pathB s = true ∧ belowB p s = true := by
  simp only [inB, Bool.and_eq_true] at h
  exact ⟨h.1.1, h.1.2, h.2⟩
theorem inB_mk {p s : List UInt8} (h1 : pathB p = true) (h2 : pathB s = true) (h3 : belowB p s = true) : inB p s = true := by simp [inB, h1, h2, h3]

theorem in_up {p s : List UInt8} (h : inB p s = true) (hne : s ≠ p) : 0 ≤ lastIx 47 s ∧ inB p (s.take (lastIx 47 s).toNat) = true ∧ inB s p = false := by
  obtain ⟨h1, h2, h3⟩ := inB_parts h
  rcases belowB_cases h3 with rfl | ⟨t, rfl⟩
  · exact absurd rfl hne
  · have hat : (p ++ 47 :: t)[p.length]? = some 47 := by simp
    have hle : (p.length : Int) ≤ lastIx 47 (p ++ 47 :: t) := by
      rcases Int.lt_or_le (lastIx 47 (p ++ 47 :: t)) p.length with hlt | hge
      · exact absurd hat (lastIx_after 47 _ _ hlt)
      · exact hge
    refine ⟨by omega, inB_mk h1 (pathB_up _ h2 (by omega)) ?_, ?_⟩
    · obtain ⟨k, hk⟩ : ∃ k, (lastIx 47 (p ++ 47 :: t)).toNat = p.length + k := ⟨(lastIx 47 (p ++ 47 :: t)).toNat - p.length, by omega⟩
      rw [hk, List.take_length_add_append]
      cases k with
      | zero => simp [belowB_refl]
      | succ k => rw [List.take_succ_cons]; exact belowB_app _ _
    · have := belowB_long (p := p ++ 47 :: t) (s := p) (by simp)
      simp [inB, this]

/-- What FnPathIn asks of a path in a place, and not the place. -/
theorem fnPathIn_facts {p s : ByteArray} (h : inB p.data.toList s.data.toList = true) (hne : ¬ p.toList = s.toList) :
    inB p.data.toList (pathUpS s).data.toList = true ∧ inB s.data.toList p.data.toList = false := by
  rw [Lib.toList_data, Lib.toList_data] at hne
  obtain ⟨h1, h2, h3⟩ := in_up h (fun e => hne e.symm)
  exact ⟨by rw [up_some (inB_parts h).2.1 h1]; exact h2, h3⟩
theorem fnPathIn_up {p s : ByteArray} (h : inB p.data.toList s.data.toList = true) (hu : ¬ (pathUpS p).toList = []) : inB (pathUpS p).data.toList s.data.toList = true := by
  by_cases hi : lastIx 47 p.data.toList < 0
  · rw [up_none hi] at hu; exact absurd empty_toList hu
  · refine inB_trans ?_ h
    rw [up_some (inB_parts h).1 (by omega)]
    exact inB_up _ (inB_parts h).1 (by omega)

theorem drop_size (f s : ByteArray) : (s.extract f.size s.size).data.toList = s.data.toList.drop f.data.toList.length := by
  rw [Lib.extract_data, List.take_of_length_le (by simp), ← Lib.size_eq]
theorem move_back {s f t : ByteArray} (h : inB f.data.toList s.data.toList = true) (ht : pathB t.data.toList = true) (hx : pathB (t ++ s.extract f.size s.size).data.toList = true) :
    inB t.data.toList (t ++ s.extract f.size s.size).data.toList = true ∧ moveS (t ++ s.extract f.size s.size) t f = s := by
  obtain ⟨h1, h2, h3⟩ := inB_parts h
  have hd : (t ++ s.extract f.size s.size).data.toList = t.data.toList ++ s.data.toList.drop f.data.toList.length := by rw [data_app, drop_size]
  have hin : inB t.data.toList (t ++ s.extract f.size s.size).data.toList = true := by
    refine inB_mk ht hx ?_
    rw [hd]
    rcases belowB_cases h3 with e | ⟨r, e⟩
    · rw [e, List.drop_length, List.append_nil]; exact belowB_refl _
    · rw [e, List.drop_left]; exact belowB_app _ _
  refine ⟨hin, ?_⟩
  have he : f ++ (t ++ s.extract f.size s.size).extract t.size (t ++ s.extract f.size s.size).size = s := by
    apply ba_ext
    rw [data_app, drop_size, hd, List.drop_left]
    rcases belowB_cases h3 with e | ⟨r, e⟩
    · rw [e, List.drop_length, List.append_nil]
    · rw [e, List.drop_left]
  unfold moveS
  rw [hin, h1, he, h2]
  rfl
theorem move_same {s f : ByteArray} (h : inB f.data.toList s.data.toList = true) : moveS s f f = s := by
  obtain ⟨h1, h2, h3⟩ := inB_parts h
  have he : f ++ s.extract f.size s.size = s := by
    apply ba_ext
    rw [data_app, drop_size]
    rcases belowB_cases h3 with e | ⟨r, e⟩
    · rw [e, List.drop_length, List.append_nil]
    · rw [e, List.drop_left]
  unfold moveS
  rw [h, h1, he, h2]
  rfl
theorem size_move (s f t : ByteArray) : (moveS s f t).size ≤ s.size + t.size := by
  unfold moveS
  split
  · simp; omega
  · exact Nat.zero_le _
/-- What FnPathMove asks of what was moved. -/
theorem fnPathMove_facts {s f t : ByteArray} (hne : ¬ (moveS s f t).toList = []) :
    pathB (moveS s f t).data.toList = true ∧ inB t.data.toList (moveS s f t).data.toList = true ∧ moveS (moveS s f t) t f = s ∧ moveS s f f = s := by
  by_cases hc : (inB f.data.toList s.data.toList && pathB t.data.toList && pathB (t ++ s.extract f.size s.size).data.toList) = true
  · have e : moveS s f t = t ++ s.extract f.size s.size := by unfold moveS; rw [if_pos hc]
    simp only [Bool.and_eq_true] at hc
    obtain ⟨m1, m2⟩ := move_back hc.1.1 hc.1.2 hc.2
    rw [e]
    exact ⟨hc.2, m1, m2, move_same hc.1.1⟩
  · have e : moveS s f t = ⟨#[]⟩ := by unfold moveS; rw [if_neg hc]
    rw [e] at hne
    exact absurd empty_toList hne
end Go.Proofs.YtlnpjiabdebmgaaGreat

/- What is in a place of a tree is there only if the place is. -/
namespace Go.Proofs.YtlnpjiabdebmgaaGreat
open Go.RowKit Go.Shelf

theorem there_mem {es : List Ent} {x : Ent} (h : Up es) (hx : x ∈ es) : thereE es x.path = true ∧ entFn es (placeE es x.path) = x := by
  obtain ⟨i, hi⟩ := List.getElem?_of_mem hx
  obtain ⟨hil, he⟩ := List.getElem?_eq_some_iff.1 hi
  have hp : placeE es x.path = i := place_of es x.path i (Nat.le_of_lt hil) (fun j y hj hy => by
      obtain ⟨hjl, hyj⟩ := List.getElem?_eq_some_iff.1 hy
      have := List.pairwise_iff_getElem.1 h j i hjl hil hj
      rw [hyj, he] at this; exact this) (fun y hy => by rw [hi] at hy; cases hy; exact lt_irr _)
  refine ⟨?_, ?_⟩
  · unfold thereE; rw [hp, hi]; exact (eqS_iff _ _).2 rfl
  · rw [hp]; exact entFn_get hi
theorem tree_dir {es : List Ent} {x : Ent} (h : treeB es = true) (hx : x ∈ es) : dirE es (upS x.path) = true := by
  unfold treeB at h
  simp only [Bool.and_eq_true] at h
  obtain ⟨i, hi⟩ := List.getElem?_of_mem hx
  have := List.all_eq_true.1 h.1.2 i (List.mem_range.2 (List.getElem?_eq_some_iff.1 hi).1)
  rwa [entFn_get hi] at this
theorem ent_pathB {e : Ent} (h : entB e = true) : pathB e.path.data.toList = true := by
  unfold entB at h; simp only [Bool.and_eq_true] at h; exact h.1
theorem in_there {es : List Ent} {p : ByteArray} (h : treeB es = true) : ∀ (n : Nat) (e : Ent), e ∈ es → e.path.size ≤ n → inB p.data.toList e.path.data.toList = true → thereE es p = true
  | n, e, he, hn, hin => by
    by_cases hs : e.path.data.toList = p.data.toList
    · have : e.path = p := by
        apply ByteArray.ext; exact Array.ext' hs
      subst this
      exact (there_mem (asc_up (tree_asc h)) he).1
    · obtain ⟨h1, h2, _⟩ := in_up hin hs
      have hpb := ent_pathB (tree_all h e he)
      have hup : (upS e.path).data.toList = e.path.data.toList.take (lastIx 47 e.path.data.toList).toNat := by
        rw [← ent_path (tree_all h e he)]; exact up_some hpb h1
      have hd := tree_dir h he
      have hne : (upS e.path).toList.isEmpty = false := by
        rw [Lib.toList_data, hup]
        have := pathB_ne _ (inB_parts h2).2.1
        simpa using this
      unfold dirE at hd
      rw [hne, Bool.false_or, Bool.and_eq_true] at hd
      obtain ⟨x, hx, hxp⟩ := there_get hd.1
      have hlt : (upS e.path).size < e.path.size := by
        have hll := lastIx_get 47 e.path.data.toList h1
        have hl2 := (List.getElem?_eq_some_iff.1 hll).1
        rw [Lib.size_eq, Lib.size_eq, hup, List.length_take]; omega
      match n with
      | 0 => omega
      | n + 1 => exact in_there h n x (List.mem_of_getElem? hx) (by rw [hxp]; omega) (by rw [hxp, hup]; exact h2)
theorem left_none {es : List Ent} {p : ByteArray} (h : treeB es = true) (ht : thereE es p = false) : leftE p es = es := by
  unfold leftE
  rw [List.filter_eq_self]
  intro e he
  cases hi : inB p.data.toList e.path.data.toList
  · rfl
  · rw [in_there h _ e he (Nat.le_refl _) hi] at ht; cases ht
theorem left_drop {es : List Ent} {p : ByteArray} (h : treeB es = true) (ht : thereE es p = true) : leftE p es = dropB p es := by
  obtain ⟨x, hx, hxp⟩ := there_get ht
  have hp : pathB p.data.toList = true := by rw [← hxp]; exact ent_pathB (tree_ent h hx)
  unfold leftE dropB
  apply List.filter_congr
  intro e he
  unfold inB
  rw [hp, ent_pathB (tree_all h e he)]
  rfl

def dropR (p : ByteArray) (es : List Ent) : List Ent := leftE p (keptE es)
def dropOk (p : ByteArray) (es : List Ent) : Bool := treeB es && thereE es p

end Go.Proofs.YtlnpjiabdebmgaaGreat

/- The way from a walk to a row: what lay below is as it was. -/
namespace Go.Proofs.YtlnpjiabdebmgaaGreat
open Go.ChangeShapes Go.WideShapes Go.ChangeAt Go.RowKit

theorem own : ownKnob Tryz.prog.godebug = none := by kernel_rfl
theorem laidOut : laidOutB Tryz.prog = true := by kernel_rfl

theorem post_below {H : Type} {enc : TypeId × Value → H} {P : Program} {f : Func} {s : ChangeSpec} {apart fresh handsOn : Bool} {W W' : World} {args : Array Value} {v : Value} {ds gs : List (DataW H)} {before pa pv : List MemPlace}
    (hW : DataW.Whole enc P f.params.toList s.vars apart W args.toList ds gs before)
    (hres : ∀ (b : Nat) (sp : Nat → Bool) (hd : Bool), DataW.TrodAll enc P W' b sp hd f.resultTypes.toList (v.resultList f.resultTypes.size) (s.fn H (ds ++ gs)).results [])
    (hargs : DataW.TrodAll enc P W' 0 (fun b => decide (b < W.heap.size)) true f.params.toList args.toList (s.fn H (ds ++ gs)).args pa)
    (hvars : DataW.TrodVars enc P W' (fun b => decide (b < W.heap.size)) s.vars (s.fn H (ds ++ gs)).vars pv)
    (hps : before = pa ++ pv) (hB : Below W.heap.size W W') :
    s.post enc P f apart fresh handsOn false W args v W' := by
  refine ⟨ds, gs, before, [], pa, pv, hW, hres _ _ _, hargs, hvars, World.keptBut_mono (fun p hp => ⟨hp, ?_⟩) (hB.frame (· ∈ before)), fun h => by cases h⟩
  rw [hps, List.mem_append] at hp
  exact Or.inr hp
end Go.Proofs.YtlnpjiabdebmgaaGreat

/- What a row of entries that is handed over holds. -/
namespace Go.Proofs.YtlnpjiabdebmgaaGreat
open Go.ChangeShapes Go.WideShapes Go.ChangeAt Go.RowKit

theorem cellsE : Tryz.prog.cellsOf 123 = 4 := by kernel_rfl

theorem list_of {p : Nat → Ent → Prop} : ∀ n, (∀ i, i < n → ∃ e, p i e) → ∃ es : List Ent, es.length = n ∧ ∀ (i : Nat) e, es[i]? = some e → p i e
  | 0, _ => ⟨[], rfl, fun i e h => by simp at h⟩
  | n + 1, h => by
    obtain ⟨es, hl, hp⟩ := list_of n (fun i hi => h i (by omega))
    obtain ⟨e, he⟩ := h n (by omega)
    refine ⟨es ++ [e], by simp [hl], fun i x hx => ?_⟩
    rcases Nat.lt_or_ge i es.length with hi | hi
    · rw [List.getElem?_append_left hi] at hx; exact hp i x hx
    · rw [List.getElem?_append_right hi] at hx
      have : i - es.length = 0 := by
        rcases Nat.eq_zero_or_pos (i - es.length) with h0 | h0
        · exact h0
        · rw [List.getElem?_eq_none (by simp; omega)] at hx; cases hx
      rw [this] at hx
      simp at hx
      subst hx
      have : i = n := by omega
      rw [this]; exact he

theorem add_plainE (b o n : Nat) : (⟨b, o, none⟩ : Addr).add n = ⟨b, o + n, none⟩ := by simp [Addr.add]

set_option maxRecDepth 100000 in
theorem ent_of {H : Type} {enc : TypeId × Value → H} {W : World} {n b o : Nat} {cs : List Value} {x : DataW H × List MemPlace} (h1 : W.cells? 0 ⟨b, o, none⟩ 4 = some cs)
    (h2 : DataW.trod enc Tryz.prog W 0 (fun _ => true) true n 123 cs = some x) : ∃ e : Ent, EntAt W b o e ∧ e.path.size ≤ maxLen ∧ e.text.size ≤ maxLen := by
  obtain ⟨_, hlen, hcell⟩ := World.cells?_some h1
  match cs, hlen with
  | [c0, c1, c2, c3], _ =>
    obtain ⟨y0, y1, y2, y3, m, _, _, g0, g1, g2, g3⟩ := Joins.trod_struct4 Tryz.underlying123 h2
    obtain ⟨s0, e0, _, z0⟩ := DataW.trod_string (by kernel_rfl) g0
    obtain ⟨k1, e1, _, _⟩ := DataW.trod_int (k := .i64) (by kernel_rfl) g1
    obtain ⟨k2, e2, _, _⟩ := DataW.trod_int (k := .i64) (by kernel_rfl) g2
    obtain ⟨s3, e3, _, z3⟩ := DataW.trod_string (by kernel_rfl) g3
    have f0 : c0 = .string s0 := (List.cons.inj e0).1
    have f1 : c1 = .int .i64 k1 := (List.cons.inj e1).1
    have f2 : c2 = .int .i64 k2 := (List.cons.inj e2).1
    have f3 : c3 = .string s3 := (List.cons.inj e3).1
    subst f0 f1 f2 f3
    exact ⟨⟨s0, k1, k2, s3⟩, ⟨hcell 0 (by omega), hcell 1 (by omega), hcell 2 (by omega), hcell 3 (by omega)⟩, z0, z3⟩

set_option maxRecDepth 100000 in
theorem ents_of {H : Type} {enc : TypeId × Value → H} {W : World} {v : Value} {d0 : DataW H} {p0 : List MemPlace} (hv : ∃ a0 len cap, v = .slice a0 len cap)
    (h0 : DataW.Trod enc Tryz.prog W 0 (fun _ => true) true 23 v d0 p0) (hlt : ∀ x ∈ p0, x.block < W.heap.size) :
    ∃ (es : List Ent) (a : Option Addr) (cap : Nat), v = .slice a es.length cap ∧ bigE es ∧ es.length ≤ maxLen ∧ EntsAt W a es := by
  obtain ⟨a0, len, cap, rfl⟩ := hv
  obtain ⟨fuel, hf⟩ := h0
  rcases Deep.open_slice Tryz.underlying23 hf with ⟨hcs, hx⟩ | ⟨a, len', cap', m, n, D, Pl, hcs, _, hl, hm, hmm, hx, hcell⟩
  · simp [Value.cells] at hcs
    obtain ⟨rfl, rfl, rfl⟩ := hcs
    exact ⟨[], _, _, rfl, fun e he => by simp at he, by simp, .inl rfl⟩
  · simp [Value.cells] at hcs
    obtain ⟨rfl, rfl, rfl⟩ := hcs
    simp only [Prod.mk.injEq] at hx
    obtain ⟨rfl, rfl⟩ := hx
    rw [cellsE] at hcell hlt
    simp only [if_true] at hmm
    by_cases hl0 : len = 0
    · subst hl0
      exact ⟨[], _, _, rfl, fun e he => by simp at he, by simp, .inl rfl⟩
    · obtain ⟨b, off, spot⟩ := a
      have hspot : spot = none := by
        obtain ⟨cs, h1, _⟩ := hcell 0 (by omega)
        obtain ⟨_, hlen, hc⟩ := World.cells?_some h1
        have := hc 0 (by omega)
        rw [List.getElem?_eq_getElem (by omega)] at this
        simpa [Addr.add] using World.cell?_spot this
      subst hspot
      have hbW : b < W.heap.size := hlt (.cell b off) (List.mem_append_left _ (MemPlace.mem_row.2 ⟨0, by omega, by simp⟩))
      obtain ⟨es, hes, hall⟩ := list_of (p := fun i e => EntAt W b (off + i * 4) e ∧ e.path.size ≤ maxLen ∧ e.text.size ≤ maxLen) len (fun i hi => by
        obtain ⟨cs, h1, h2⟩ := hcell i (by omega)
        rw [add_plainE] at h1
        exact ent_of h1 h2)
      refine ⟨es, _, cap, by rw [hes], fun e he => ?_, by omega, .inr ⟨b, off, rfl, hbW, fun i e hi => (hall i e hi).1⟩⟩
      obtain ⟨i, hi⟩ := List.getElem?_of_mem he
      exact (hall i e hi).2
end Go.Proofs.YtlnpjiabdebmgaaGreat

/- For every tree the program's TreeOk answers as its model does (the walk). -/
namespace Go.Proofs.YtlnpjiabdebmgaaGreat
open Go.ChangeShapes Go.WideShapes Go.ChangeAt Go.RowKit Go.Shelf

set_option maxRecDepth 100000 in
set_option maxHeartbeats 2000000 in
theorem treeOk_any (es : List Ent) (a : Option Addr) (cap : Nat) (w : World) (hs : smallE es) (h : EntsAt w a es) :
    Calls Tryz.prog 66 #[.slice a es.length cap] w fun x w' => x = .returned (.bool (treeB es)) ∧ Below w.heap.size w w' := by
  have H := hid (treeOf_any es a cap w hs h)
  clear hs h
  go_enter Tryz.func66, Tryz.ntmps66
  go_wp2_with (go_at_call 115; refine (unhid H).mono ?_; rintro x w1 ⟨vp, vn, rfl, ⟨t2, t3⟩, hB⟩; obtain ⟨ap, cp, rfl⟩ := ownsRow_slice t2; obtain ⟨an, cn, rfl⟩ := ownsRow_slice t3; clear t2 t3)
  go_ret
  exact ⟨rfl, hB.alloc hB.size _⟩

theorem small_of {es : List Ent} (h : es.length + totE es ≤ 1048576) : smallE es := by
  refine ⟨by omega, fun e he => ?_⟩
  have : e.path.size + e.text.size ≤ totE es := by
    exact totE_mem he
  omega

end Go.Proofs.YtlnpjiabdebmgaaGreat

/- Two trees in one, by the program. -/
namespace Go.Proofs.YtlnpjiabdebmgaaGreat
open Go.RowKit Go.Shelf

attribute [local go_sem] Oper.semAt_some

def joinTo (L : List Ent) (xs : List Ent) : List Ent := xs.foldl putT L
def stepJ (L : List Ent) (x : Ent) : Bool := !(thereE L x.path) || sameB (entFn L (placeE L x.path)) x
def okJ : List Ent → List Ent → Bool
  | _, [] => true
  | L, x :: xs => stepJ L x && okJ (putT L x) xs
theorem joinTo_snoc (L xs : List Ent) (x : Ent) : joinTo L (xs ++ [x]) = putT (joinTo L xs) x := by unfold joinTo; rw [List.foldl_append]; rfl
theorem okJ_app : ∀ (L xs ys : List Ent), okJ L (xs ++ ys) = (okJ L xs && okJ (joinTo L xs) ys)
  | L, [], ys => by simp [okJ, joinTo]
  | L, x :: xs, ys => by rw [List.cons_append, okJ, okJ, okJ_app (putT L x) xs ys, Bool.and_assoc]; rfl
theorem okJ_snoc (L xs : List Ent) (x : Ent) : okJ L (xs ++ [x]) = (okJ L xs && stepJ (joinTo L xs) x) := by rw [okJ_app]; simp [okJ]
theorem okJ_prefix {L xs ys : List Ent} (h : xs <+: ys) (hno : okJ L xs = false) : okJ L ys = false := by
  obtain ⟨zs, rfl⟩ := h
  rw [okJ_app, hno]; rfl
theorem joinTo_up {L : List Ent} (h : Up L) : ∀ xs, Up (joinTo L xs) := snoc_ind h (fun xs x ih => by rw [joinTo_snoc]; exact putT_up ih)
theorem joinTo_len (L : List Ent) : ∀ xs, (joinTo L xs).length ≤ L.length + xs.length := snoc_ind (Nat.le_refl _) (fun xs x ih => by
  rw [joinTo_snoc]
  have := putT_len (joinTo L xs) x
  simp; omega)
theorem joinTo_mem (L : List Ent) : ∀ xs x, x ∈ joinTo L xs → x ∈ L ∨ x ∈ xs := snoc_ind (fun x h => .inl h) (fun xs x ih y hy => by
  rw [joinTo_snoc] at hy
  rcases putT_mem hy with h | h
  · rcases ih y h with h | h
    · exact .inl h
    · exact .inr (List.mem_append_left _ h)
  · subst h; exact .inr (by simp))
def joinOk (es fs : List Ent) : Bool := treeB es && (treeB fs && (okJ es fs && treeB (joinTo es fs)))
def joinR (es fs : List Ent) : List Ent := if joinOk es fs then joinTo es fs else []
theorem ent_text_len {e : Ent} (h : entB e = true) : e.text.size ≤ 80 := by
  unfold entB at h
  simp only [Bool.and_eq_true] at h
  have h2 := h.2
  split at h2
  · simp only [Bool.and_eq_true] at h2
    rw [Lib.size_eq]
    have := h2.2
    simp at this
    rw [this]; simp
  · split at h2
    · simp only [Bool.and_eq_true, textB, decide_eq_true_eq] at h2
      rw [Lib.size_eq]; exact h2.2.1
    · simp only [Bool.and_eq_true] at h2
      have := pathB_size _ h2.2.2
      rw [Lib.size_eq]; omega
theorem small_all {es : List Ent} (hl : es.length ≤ 1000) (h : ∀ e ∈ es, entB e = true) : smallE es :=
  ⟨by omega, fun e he => ⟨by have := ent_path_len (h e he); omega, by have := ent_text_len (h e he); omega⟩⟩

/-- A row that does not lie between two bounds. -/
def AwayV (M M2 : Nat) (v : Value) : Prop := ∀ k, v.ownBlock = some k → k < M ∨ M2 ≤ k
/-- The boxes of what a join answers. -/
def BxJ (W : World) (N : Nat) : Prop := W.heap[N]? = some (.cells #[.slice none 0 0] 29 (0, 0)) ∧ W.heap[N + 1]? = some (.cells #[.bool false] 4 (0, 0))
theorem BxJ.keep {W W' : World} {N : Nat} (h : BxJ W N) (hk : ∀ k, k < N + 2 → W'.heap[k]? = W.heap[k]?) : BxJ W' N := ⟨(hk _ (by omega)).trans h.1, (hk _ (by omega)).trans h.2⟩
theorem BxJ.grown {W W' : World} {row : Option Nat} {N : Nat} (h : BxJ W N) (hg : W.grownBy W' row) (hr : ∀ r, row = some r → ∃ o : Obj, W.heap[r]? = some o ∧ o.isCells = false) : BxJ W' N := ⟨cells_grown hg hr h.1, cells_grown hg hr h.2⟩
theorem RowsV.below {W W' : World} {N bt : Nat} {vp vn : Value} {es : List Ent} (h : RowsV W N bt vp vn es) (hb : Below W.heap.size W W') : RowsV W' N bt vp vn es :=
  ⟨(hb.block bt (Array.getElem?_eq_some_iff.1 h.1).1).trans h.1, ownsRow_kept h.2.1 (fun g e => hb.block g (h.2.1.lt g e).2), ownsRow_kept h.2.2 (fun g e => hb.block g (h.2.2.lt g e).2)⟩
theorem RowsV.grown {W W' : World} {row : Option Nat} {N bt : Nat} {vp vn : Value} {es : List Ent} (h : RowsV W N bt vp vn es) (hg : W.grownBy W' row) (hr : ∀ r, row = some r → ∃ o : Obj, W.heap[r]? = some o ∧ o.isCells = false) : RowsV W' N bt vp vn es :=
  ⟨cells_grown hg hr h.1, row_grown hg hr h.2.1, row_grown hg hr h.2.2⟩
theorem RowsV.at {W : World} {N bt : Nat} {vp vn : Value} {es : List Ent} (h : RowsV W N bt vp vn es) : TreeAt W N bt es := ⟨vp, vn, h.1, h.2.1, h.2.2⟩

set_option maxRecDepth 100000 in
set_option maxHeartbeats 8000000 in
theorem treeJoin_any (es fs : List Ent) (a b : Option Addr) (cap cap2 : Nat) (w : World) (hs : smallE es) (hs2 : smallE fs) (h : EntsAt w a es) (h2 : EntsAt w b fs) :
    Calls Tryz.prog 123 #[.slice a es.length cap, .slice b fs.length cap2] w fun x w' => ∃ v, x = .returned (.tuple #[v, .bool (joinOk es fs)]) ∧ w'.ownsRow w.heap.size 90 4 v (joinR es fs).length (valsOf (joinR es fs)) ∧ Below w.heap.size w w' := by
  obtain ⟨wA, hwA⟩ : ∃ wA, wA = (w.alloc (.cells #[.slice none 0 0] 29)).alloc (.cells #[.bool false] 4) := ⟨_, rfl⟩
  have hsz : wA.heap.size = w.heap.size + 2 := by rw [hwA]; simp
  have hBA : Below w.heap.size w wA := by rw [hwA]; exact ((Below.refl _ w).alloc (Nat.le_refl _) _).alloc (by simp) _
  have hbox : BxJ wA w.heap.size := by
    rw [hwA]
    refine ⟨(Below.heap_alloc _ _ _ (by simp)).trans (World.alloc_heap_new w _), ?_⟩
    have := World.alloc_heap_new (w.alloc (.cells #[.slice none 0 0] 29)) (.cells #[.bool false] 4)
    rw [World.size_alloc] at this
    exact this
  have H := hid (treeOf_any es a cap wA hs (h.below hBA))
  have HA := hid (And.intro hsz (And.intro hBA hbox))
  have HWA := hid hwA
  have HE2 := hid (And.intro hs2 h2)
  clear hs h hwA hsz hBA hbox hs2 h2
  refine (callsIn_wide (n := 3)).1 ?_
  refine callsIn_of_wp_marks Tryz.func123 rfl trivial ?_ rfl
  simp only [Tryz.ntmps123, List.size_toArray, List.length_cons, List.length_nil, Nat.reduceAdd, Nat.reduceSub, Array.replicate_succ, Array.replicate_zero, List.push_toArray, List.append_toArray, List.nil_append, List.cons_append]
  gi_wp2
  rw [← unhid HWA]
  refine ⟨trivial, (callsIn_wide.2 (unhid H)).mono ?_⟩
  rintro x w1 ⟨vp, vn, rfl, ⟨t2, t3⟩, hB⟩
  obtain ⟨ap, cp, rfl⟩ := ownsRow_slice t2
  obtain ⟨an, cn, rfl⟩ := ownsRow_slice t3
  obtain ⟨hsz, hBA, hbox⟩ := unhid HA
  obtain ⟨wt, hwt⟩ : ∃ wt, wt = w1.alloc (.cells #[.slice ap (keptE es).length cp, .slice an (keptE es).length cn] 145) := ⟨_, rfl⟩
  have hB1 : Below w.heap.size w w1 := hBA.trans (hB.mono (by omega))
  have hBt : Below w1.heap.size w1 wt := by rw [hwt]; exact (Below.refl _ w1).alloc (Nat.le_refl _) _
  have hBT : Below w.heap.size w wt := hB1.trans (hBt.mono hB1.size)
  have hT : RowsV wt wA.heap.size w1.heap.size (.slice ap (keptE es).length cp) (.slice an (keptE es).length cn) (keptE es) := ⟨by rw [hwt]; exact World.alloc_heap_new _ _, ownsRow_kept t2 (fun g e => hBt.block g (t2.lt g e).2), ownsRow_kept t3 (fun g e => hBt.block g (t3.lt g e).2)⟩
  have hw1 : wA.heap.size ≤ w1.heap.size := hB.size
  have hzt : wt.heap.size = w1.heap.size + 1 := by rw [hwt]; simp
  have hbt : BxJ wt w.heap.size := hbox.keep (fun k hk => (hBt.block _ (by omega)).trans (hB.block _ (by omega)))
  have H2 := hid (treeOf_any fs b cap2 wt (unhid HE2).1 ((unhid HE2).2.below hBT))
  have HT := hid (And.intro hBT (And.intro hbt hT))
  have HWT := hid hwt
  clear hT hBT hBt hB1 hB t2 t3 hbox hBA HA HWA H hbt hwt HE2
  gi_wp2
  rw [← unhid HWT]
  refine ⟨trivial, (callsIn_wide.2 (unhid H2)).mono ?_⟩
  rintro x w2 ⟨vp2, vn2, rfl, ⟨t2, t3⟩, hB⟩
  obtain ⟨ap2, cp2, rfl⟩ := ownsRow_slice t2
  obtain ⟨an2, cn2, rfl⟩ := ownsRow_slice t3
  obtain ⟨wu, hwu⟩ : ∃ wu, wu = w2.alloc (.cells #[.slice ap2 (keptE fs).length cp2, .slice an2 (keptE fs).length cn2] 145) := ⟨_, rfl⟩
  have hBt : Below w2.heap.size w2 wu := by rw [hwu]; exact (Below.refl _ w2).alloc (Nat.le_refl _) _
  have hBu : Below wt.heap.size wt wu := hB.trans (hBt.mono hB.size)
  have hzu : wu.heap.size = w2.heap.size + 1 := by rw [hwu]; simp
  have hw2 : wt.heap.size ≤ w2.heap.size := hB.size
  have HU := hid (show Below w.heap.size w wu ∧ BxJ wu w.heap.size ∧ RowsV wu wA.heap.size w1.heap.size (.slice ap (keptE es).length cp) (.slice an (keptE es).length cn) (keptE es) ∧ RowsV wu wt.heap.size w2.heap.size (.slice ap2 (keptE fs).length cp2) (.slice an2 (keptE fs).length cn2) (keptE fs) from
    ⟨(unhid HT).1.trans (hBu.mono (by omega)), (unhid HT).2.1.keep (fun k hk => hBu.block k (by omega)), (unhid HT).2.2.below hBu, by rw [hwu]; exact World.alloc_heap_new _ _, ownsRow_kept t2 (fun g e => hBt.block g (t2.lt g e).2), ownsRow_kept t3 (fun g e => hBt.block g (t3.lt g e).2)⟩)
  have HR1 := hid (show (∀ g, (Value.slice ap (keptE es).length cp).ownBlock = some g → g < wt.heap.size) ∧ (∀ g, (Value.slice an (keptE es).length cn).ownBlock = some g → g < wt.heap.size) from ⟨fun g e => ((unhid HT).2.2.2.1.lt g e).2, fun g e => ((unhid HT).2.2.2.2.lt g e).2⟩)
  have HWU := hid hwu
  clear hBt hBu t2 t3 hB H2 HT HWT hwu
  cases htb : treeB es
  · have E := hid (show joinOk es fs = false ∧ joinR es fs = [] by unfold joinR joinOk; rw [htb]; exact ⟨rfl, rfl⟩)
    obtain ⟨hBw, hbx, -, -⟩ := unhid HU
    obtain ⟨k2, f2⟩ := cell_of_box_l hbx.1
    obtain ⟨k3, f3⟩ := cell_of_box_l hbx.2
    rw [unhid HWU] at k2 f2 k3 f3
    have HF := hid hBw
    clear hBw hbx
    gi_wp2
    rw [← unhid HWU]
    rw [unhid HWU] at HF
    refine ⟨.tuple #[.slice none 0 0, .bool false], ?_, _, by rw [(unhid E).1], by rw [(unhid E).2]; exact World.ownsRow_nil _ _ _ _, ?_⟩
    · rw [unhid HWU]; simp [results, Tryz.f123, go_sem, World.cell?_setCell_same', k2, k3]
    · rw [unhid HWU]; exact ((unhid HF).setCell (p := ⟨w.heap.size, 0, none⟩) (Nat.le_refl _) _).setCell (p := ⟨w.heap.size + 1, 0, none⟩) (show w.heap.size ≤ w.heap.size + 1 by omega) _

  cases htb2 : treeB fs
  · have E := hid (show joinOk es fs = false ∧ joinR es fs = [] by unfold joinR joinOk; rw [htb, htb2]; exact ⟨rfl, rfl⟩)
    obtain ⟨hBw, hbx, -, -⟩ := unhid HU
    obtain ⟨k2, f2⟩ := cell_of_box_l hbx.1
    obtain ⟨k3, f3⟩ := cell_of_box_l hbx.2
    rw [unhid HWU] at k2 f2 k3 f3
    have HF := hid hBw
    clear hBw hbx
    gi_wp2
    rw [← unhid HWU]
    rw [unhid HWU] at HF
    refine ⟨.tuple #[.slice none 0 0, .bool false], ?_, _, by rw [(unhid E).1], by rw [(unhid E).2]; exact World.ownsRow_nil _ _ _ _, ?_⟩
    · rw [unhid HWU]; simp [results, Tryz.f123, go_sem, World.cell?_setCell_same', k2, k3]
    · rw [unhid HWU]; exact ((unhid HF).setCell (p := ⟨w.heap.size, 0, none⟩) (Nat.le_refl _) _).setCell (p := ⟨w.heap.size + 1, 0, none⟩) (show w.heap.size ≤ w.heap.size + 1 by omega) _

  rw [keptE_yes htb] at HU HR1 ⊢
  rw [keptE_yes htb2] at HU HWU ⊢
  obtain ⟨hBu, hbu, hr1, hr2⟩ := unhid HU
  have hwl : w2.heap.size < wu.heap.size := by omega
  obtain ⟨w4, hw4⟩ : ∃ w4, w4 = wu.alloc (.cells #[.pointer (some ⟨w2.heap.size, 0, none⟩)] 194) := ⟨_, rfl⟩
  have hz4 : w4.heap.size = wu.heap.size + 1 := by rw [hw4]; simp
  have hB4 : Below wu.heap.size wu w4 := by rw [hw4]; exact (Below.refl _ wu).alloc (Nat.le_refl _) _
  have HAL := hid (all_in Fence.wide 2 trivial rfl w2.heap.size wu)
  rw [← hw4] at HAL
  have HR2 := hid (show (∀ g, (Value.slice ap2 fs.length cp2).ownBlock = some g → wt.heap.size ≤ g ∧ g < w4.heap.size) ∧ (∀ g, (Value.slice an2 fs.length cn2).ownBlock = some g → wt.heap.size ≤ g ∧ g < w4.heap.size) from ⟨fun g e => ⟨(hr2.2.1.lt g e).1, by have := (hr2.2.1.lt g e).2; omega⟩, fun g e => ⟨(hr2.2.2.lt g e).1, by have := (hr2.2.2.lt g e).2; omega⟩⟩)
  have hTI : TreeIn wu.heap.size w2.heap.size wt.heap.size (.slice ap2 fs.length cp2) (.slice an2 fs.length cn2) fs w4 := ⟨by have := (cell_new_l wu (.pointer (some ⟨w2.heap.size, 0, none⟩)) 194).1; rw [hw4]; exact this, (hr2.below hB4).1, (hr2.below hB4).2⟩
  have hBt0 : (∃ vp vn, RowsV w4 wA.heap.size w1.heap.size vp vn (joinTo es ([])) ∧ AwayV wt.heap.size w4.heap.size vp ∧ AwayV wt.heap.size w4.heap.size vn) := ⟨_, _, hr1.below hB4, fun k hk => .inl ((unhid HR1).1 k hk), fun k hk => .inl ((unhid HR1).2 k hk)⟩
  have hbx4 : BxJ w4 w.heap.size := hbu.keep (fun k hk => hB4.block k (by omega))
  have hBw : Below w.heap.size w w4 := hBu.trans (hB4.mono (by omega))
  have hl1 := tree_16 htb
  have hl2 := tree_16 htb2
  have hup := asc_up (tree_asc htb)
  have hkb := tree_all htb2
  have zu1 := Nat.le_of_eq hzu
  have zu2 := Nat.le_of_eq hzu.symm
  have z41 := Nat.le_of_eq hz4
  have z42 := Nat.le_of_eq hz4.symm
  have zt1 := Nat.le_of_eq hzt
  have zt2 := Nat.le_of_eq hzt.symm
  have za1 := Nat.le_of_eq hsz
  have za2 := Nat.le_of_eq hsz.symm
  clear hw4 hr1 hr2 hbu hBu HR1 hB4 hzu hz4 hzt hsz
  gi_wp2
  rw [← unhid HWU]
  refine ⟨trivial, (unhid HAL).mono ?_⟩
  rintro x w5 ⟨rfl, e5⟩
  rw [e5]
  clear e5
  gi_wp2
  refine wpIn_rangeFunc_ownF rfl (by omega) (gf := 198) (lb := #[.pointer (some ⟨wu.heap.size, 0, none⟩)]) rfl trivial (enters_of Tryz.func198 (by kernel_rfl) rfl)
    (all_stops Fence.wide _ trivial rfl (by omega) wu.heap.size w2.heap.size wt.heap.size _ _ fs (by omega) (fun e => entB e = true) hkb _ hTI) (fun h g x => g (h x)) (fun W l o o' _ hl hc _ h => treeIn_grown h (grownBy_putObj' _ l o') (fun r e => by cases e; exact ⟨_, hl, hc⟩)) (Below.refl _ _) (fun _ => rfl)
    (fun pre W => ((∃ vp vn, RowsV W wA.heap.size w1.heap.size vp vn (joinTo es (pre.map (·.1))) ∧ AwayV wt.heap.size w4.heap.size vp ∧ AwayV wt.heap.size w4.heap.size vn) ∧ TreeIn wu.heap.size w2.heap.size wt.heap.size (.slice ap2 fs.length cp2) (.slice an2 fs.length cn2) fs W ∧ BxJ W w.heap.size ∧ Hid (okJ es (pre.map (·.1)) = true)) ∧ Below w.heap.size w W ∧ w4.heap.size ≤ W.heap.size)
    (fun c pre W => (c = .ret ∧ okJ es (pre.map (·.1)) = false ∧ BxJ W w.heap.size) ∧ Below w.heap.size w W)
    (fun s A B row hs hg hr => ⟨⟨by obtain ⟨vp, vn, q1, q2, q3⟩ := hs.1.1; exact ⟨vp, vn, q1.grown hg (fun r e => (hr r e).2), q2, q3⟩, treeIn_grown hs.1.2.1 hg (fun r e => (hr r e).2), hs.1.2.2.1.grown hg (fun r e => (hr r e).2), hs.1.2.2.2⟩, ownFrom_below (Nat.le_refl _) (by omega) s A B row hs.2.1 hg hr, Nat.le_trans hs.2.2 hg.size⟩)
    (fun c s A B row hs hg hr => ⟨⟨hs.1.1, hs.1.2.1, hs.1.2.2.grown hg (fun r e => (hr r e).2)⟩, ownFrom_below (Nat.le_refl _) (by omega) s A B row hs.2 hg hr⟩)
    ⟨⟨hBt0, hTI, hbx4, hid rfl⟩, hBw, Nat.le_refl _⟩
    (fun x => { tmps := #[.slice a es.length cap, .slice b fs.length cap2, undef, undef, .pointer (some ⟨w.heap.size, 0, none⟩), .pointer (some ⟨w.heap.size + 1, 0, none⟩), .pointer (some ⟨w1.heap.size, 0, none⟩), .bool true, .pointer (some ⟨w2.heap.size, 0, none⟩), .bool true, .string x.1.path, nodeV x.1, undef, undef, undef, .tuple #[.agg #[.slice ap es.length cp, .slice an es.length cn], .bool true], .slice a es.length cap, .tuple #[.agg #[.slice ap es.length cp, .slice an es.length cn], .bool true], .agg #[.slice ap es.length cp, .slice an es.length cn], .bool true, .tuple #[.agg #[.slice ap2 fs.length cp2, .slice an2 fs.length cn2], .bool true], .slice b fs.length cap2, .tuple #[.agg #[.slice ap2 fs.length cp2, .slice an2 fs.length cn2], .bool true], .agg #[.slice ap2 fs.length cp2, .slice an2 fs.length cn2], .bool true, .bool true, .bool false, .bool false, .bool true, .bool false, .bool false, .pointer (some ⟨w2.heap.size, 0, none⟩), .func (.func 198) #[] #[.pointer (some ⟨wu.heap.size, 0, none⟩)], .string x.1.path, nodeV x.1, undef, undef, undef, undef, undef, undef, undef, undef, undef, undef, undef, undef, undef, undef, undef, undef, undef, undef, undef, undef, undef, undef], defers := [] }) ?assign ?body ?done ?stop
  case assign =>
    intro l x W K hK
    gi_wp2
    exact hK
  case body =>
    rintro l pre ⟨e, hx⟩ W ⟨⟨⟨vp, vn, hrv, hav, han⟩, hTI2, hbW, hok⟩, hB, hW4⟩ hpl
    dsimp only
    obtain ⟨T0, nv, hnv⟩ := nodeV_shape e
    have hjl : (joinTo es (pre.map (·.1))).length ≤ 100 := by have := joinTo_len es (pre.map (·.1)); rw [List.length_map] at this; omega
    have hasc := up_asc (joinTo_up hup (pre.map (·.1)))
    have GET := hid (mapGet_any wA.heap.size w1.heap.size (joinTo es (pre.map (·.1))) e.path W (by omega) hasc hrv.at)
    cases hth : thereE (joinTo es (pre.map (·.1))) e.path
    · have hst : stepJ (joinTo es (pre.map (·.1))) e = true := by unfold stepJ; rw [hth]; rfl
      have hgv : getV (joinTo es (pre.map (·.1))) e.path = .nilIface := by unfold getV; rw [hth]; rfl
      rw [hgv, hth] at GET
      have HI0 := hid (And.intro hrv (And.intro hav (And.intro han (And.intro hTI2 (And.intro hbW hB)))))
      clear hrv hav han hTI2 hbW hB hgv
      gi_wp2
      refine ⟨trivial, (CallsIn.inRound l (callsIn_wide.2 (unhid GET))).mono ?_⟩
      rintro x W2 ⟨rfl, e2⟩
      subst e2
      obtain ⟨hrv, hav, han, hTI2, hbW, hB⟩ := unhid HI0
      have hmk : joinTo es ((pre ++ [(⟨e, hx⟩ : { e : Ent // entB e = true })]).map (·.1)) = putT (joinTo es (pre.map (·.1))) e := by rw [List.map_append]; exact joinTo_snoc _ _ _
      have hokn : okJ es ((pre ++ [(⟨e, hx⟩ : { e : Ent // entB e = true })]).map (·.1)) = true := by rw [List.map_append]; exact (okJ_snoc es (pre.map (·.1)) e).trans (by rw [unhid hok, hst])
      have hput := mapPut_V wA.heap.size w1.heap.size vp vn (joinTo es (pre.map (·.1))) e W2 (by omega) hasc hw1 hrv
      rw [← hmk] at hput
      rw [hnv] at hput
      try rw [hnv]
      have HP := hid hput
      have HI := hid (And.intro hrv (And.intro hav (And.intro han (And.intro hTI2 (And.intro hbW (And.intro hB (And.intro (KeepsOthers.refl W2) hokn)))))))
      clear hput hmk hokn
      gi_wp2
      refine ⟨trivial, ?_⟩
      gi_wp2
      refine ⟨trivial, (CallsIn.inRound l (callsIn_wide.2 (unhid HP))).mono ?_⟩
      rintro x W9 ⟨⟨v, rfl⟩, ⟨vp', vn', hrv9, hfp, hfn⟩, hB9, hO9, hS9⟩
      obtain ⟨hrv, hav, han, hTW, hbW, hBW, hKO, hokn⟩ := unhid HI
      have hsz9 : W2.heap.size ≤ W9.heap.size := hB9.size
      have hTF : TreeIn wu.heap.size w2.heap.size wt.heap.size (.slice ap2 fs.length cp2) (.slice an2 fs.length cn2) fs W9 := treeIn_kept hTW (fun k hk => by
        have hkr : wt.heap.size ≤ k ∧ k < w4.heap.size := by
          rcases hk with rfl | rfl | h | h
          · omega
          · omega
          · exact (unhid HR2).1 k h
          · exact (unhid HR2).2 k h
        exact hS9 k (by omega) (by omega) (fun eq => by have := hav k eq; omega) (fun eq => by have := han k eq; omega))
      have HF := hid (show KeepsOthers W2 W9 ∧ (TreeIn wu.heap.size w2.heap.size wt.heap.size (.slice ap2 fs.length cp2) (.slice an2 fs.length cn2) fs W2 → TreeIn wu.heap.size w2.heap.size wt.heap.size (.slice ap2 fs.length cp2) (.slice an2 fs.length cn2) fs W9) ∧ ((∃ vp vn, RowsV W9 wA.heap.size w1.heap.size vp vn (joinTo es ((pre ++ [(⟨e, hx⟩ : { e : Ent // entB e = true })]).map (·.1))) ∧ AwayV wt.heap.size w4.heap.size vp ∧ AwayV wt.heap.size w4.heap.size vn) ∧ TreeIn wu.heap.size w2.heap.size wt.heap.size (.slice ap2 fs.length cp2) (.slice an2 fs.length cn2) fs W9 ∧ BxJ W9 w.heap.size ∧ Hid (okJ es ((pre ++ [(⟨e, hx⟩ : { e : Ent // entB e = true })]).map (·.1)) = true)) ∧ Below w.heap.size w W9 ∧ w4.heap.size ≤ W9.heap.size from
        ⟨hKO.trans ⟨hB9.size, fun k o hk hc => by
            by_cases hkb : k = w1.heap.size
            · subst hkb; have q1 := hrv.1; rw [hk] at q1; cases q1; cases hc
            · exact hO9 k o hkb hk (fun cs t f e => by subst e; cases hc)⟩, fun _ => hTF,
         ⟨⟨vp', vn', hrv9, fun k hk => by rcases hfp k hk with h | h; exact hav k h; right; omega, fun k hk => by rcases hfn k hk with h | h; exact han k h; right; omega⟩, hTF, hbW.keep (fun k hk => hB9.block k (by omega)), hid hokn⟩, hBW.trans (hB9.mono (by omega)), by omega⟩)
      clear hrv9 hfp hfn hB9 hO9 hS9 hrv hav han hTW hbW hBW hKO hokn hTF
      gi_wp2
      exact unhid HF
    · obtain ⟨old, hold, hop⟩ := there_get hth
      have hfo := entFn_get hold
      obtain ⟨T1, nv1, hnv1⟩ := nodeV_shape old
      have hgv : getV (joinTo es (pre.map (·.1))) e.path = .iface T1 nv1 := by unfold getV; rw [hth, hfo, if_pos rfl, hnv1]
      rw [hgv, hth] at GET
      have SAME := hid (fun W => sameDir_any old e W)
      rw [hnv, hnv1] at SAME
      have HI0 := hid (And.intro hrv (And.intro hav (And.intro han (And.intro hTI2 (And.intro hbW hB)))))
      clear hrv hav han hTI2 hbW hB hgv hnv1 hold hop
      gi_wp2
      refine ⟨trivial, (CallsIn.inRound l (callsIn_wide.2 (unhid GET))).mono ?_⟩
      rintro x W2 ⟨rfl, e2⟩
      subst e2
      gi_wp2
      refine ⟨trivial, (CallsIn.inRound l (callsIn_wide.2 (unhid SAME _))).mono ?_⟩
      rintro x W3 ⟨rfl, hb⟩
      obtain ⟨hrv0, hav, han, hTI0, hbW0, hB0⟩ := unhid HI0
      have hrv := hrv0.below hb
      have hTI2 := treeIn_below hTI0 hb
      have hlw : w.heap.size + 2 ≤ W2.heap.size := by have := (Array.getElem?_eq_some_iff.1 hbW0.2).1; omega
      have hbW := hbW0.keep (fun k hk => hb.block k (by omega))
      have hB := hB0.trans (hb.mono hB0.size)
      have hW43 : w4.heap.size ≤ W3.heap.size := Nat.le_trans hW4 hb.size
      have hKO := KeepsOthers_of_below hb
      clear hrv0 hTI0 hbW0 hB0 hb HI0 SAME
      cases hsm : sameB old e
      · have hno : okJ es ((pre ++ [(⟨e, hx⟩ : { e : Ent // entB e = true })]).map (·.1)) = false := by rw [List.map_append]; rw [show List.map (fun x => x.1) [(⟨e, hx⟩ : { e : Ent // entB e = true })] = [e] from rfl, okJ_snoc, show stepJ (joinTo es (pre.map (·.1))) e = false by unfold stepJ; rw [hth, hfo, hsm]; rfl, Bool.and_false]
        obtain ⟨k2, f2⟩ := cell_of_box_l hbW.1
        obtain ⟨k3, f3⟩ := cell_of_box_l hbW.2
        have HF := hid (And.intro hKO (And.intro hno (And.intro hbW hB)))
        clear hKO hno hbW hB hrv hav han hTI2
        gi_wp2
        obtain ⟨hKO, hno, hbW, hB⟩ := unhid HF
        exact ⟨hKO.trans ((KeepsOthers.setCell _ _ _).trans (KeepsOthers.setCell _ _ _)), ⟨rfl, hno, (Below.heap_setCell _ _ _ _ (show w.heap.size ≠ w.heap.size + 1 by omega)).trans (by rw [heap_setCell_same _ _ 0 _ _ _ hbW.1]; rfl), by rw [heap_setCell_same _ _ 0 _ _ _ ((Below.heap_setCell _ _ _ _ (show w.heap.size + 1 ≠ w.heap.size by omega)).trans hbW.2)]; rfl⟩, (hB.setCell (p := ⟨w.heap.size, 0, none⟩) (Nat.le_refl _) _).setCell (p := ⟨w.heap.size + 1, 0, none⟩) (show w.heap.size ≤ w.heap.size + 1 by omega) _⟩
      · have hst : stepJ (joinTo es (pre.map (·.1))) e = true := by unfold stepJ; rw [hfo, hsm]; simp
        have hmk : joinTo es ((pre ++ [(⟨e, hx⟩ : { e : Ent // entB e = true })]).map (·.1)) = putT (joinTo es (pre.map (·.1))) e := by rw [List.map_append]; exact joinTo_snoc _ _ _
        have hokn : okJ es ((pre ++ [(⟨e, hx⟩ : { e : Ent // entB e = true })]).map (·.1)) = true := by rw [List.map_append]; exact (okJ_snoc es (pre.map (·.1)) e).trans (by rw [unhid hok, hst])
        have hput := mapPut_V wA.heap.size w1.heap.size vp vn (joinTo es (pre.map (·.1))) e W3 (by omega) hasc hw1 hrv
        rw [← hmk] at hput
        rw [hnv] at hput
        try rw [hnv]
        have HP := hid hput
        have HI := hid (And.intro hrv (And.intro hav (And.intro han (And.intro hTI2 (And.intro hbW (And.intro hB (And.intro hKO hokn)))))))
        clear hput hmk hokn
        gi_wp2
        refine ⟨trivial, (CallsIn.inRound l (callsIn_wide.2 (unhid HP))).mono ?_⟩
        rintro x W9 ⟨⟨v, rfl⟩, ⟨vp', vn', hrv9, hfp, hfn⟩, hB9, hO9, hS9⟩
        obtain ⟨hrv, hav, han, hTW, hbW, hBW, hKO, hokn⟩ := unhid HI
        have hsz9 : W3.heap.size ≤ W9.heap.size := hB9.size
        have hTF : TreeIn wu.heap.size w2.heap.size wt.heap.size (.slice ap2 fs.length cp2) (.slice an2 fs.length cn2) fs W9 := treeIn_kept hTW (fun k hk => by
          have hkr : wt.heap.size ≤ k ∧ k < w4.heap.size := by
            rcases hk with rfl | rfl | h | h
            · omega
            · omega
            · exact (unhid HR2).1 k h
            · exact (unhid HR2).2 k h
          exact hS9 k (by omega) (by omega) (fun eq => by have := hav k eq; omega) (fun eq => by have := han k eq; omega))
        have HF := hid (show KeepsOthers W2 W9 ∧ (TreeIn wu.heap.size w2.heap.size wt.heap.size (.slice ap2 fs.length cp2) (.slice an2 fs.length cn2) fs W2 → TreeIn wu.heap.size w2.heap.size wt.heap.size (.slice ap2 fs.length cp2) (.slice an2 fs.length cn2) fs W9) ∧ ((∃ vp vn, RowsV W9 wA.heap.size w1.heap.size vp vn (joinTo es ((pre ++ [(⟨e, hx⟩ : { e : Ent // entB e = true })]).map (·.1))) ∧ AwayV wt.heap.size w4.heap.size vp ∧ AwayV wt.heap.size w4.heap.size vn) ∧ TreeIn wu.heap.size w2.heap.size wt.heap.size (.slice ap2 fs.length cp2) (.slice an2 fs.length cn2) fs W9 ∧ BxJ W9 w.heap.size ∧ Hid (okJ es ((pre ++ [(⟨e, hx⟩ : { e : Ent // entB e = true })]).map (·.1)) = true)) ∧ Below w.heap.size w W9 ∧ w4.heap.size ≤ W9.heap.size from
          ⟨hKO.trans ⟨hB9.size, fun k o hk hc => by
              by_cases hkb : k = w1.heap.size
              · subst hkb; have q1 := hrv.1; rw [hk] at q1; cases q1; cases hc
              · exact hO9 k o hkb hk (fun cs t f e => by subst e; cases hc)⟩, fun _ => hTF,
           ⟨⟨vp', vn', hrv9, fun k hk => by rcases hfp k hk with h | h; exact hav k h; right; omega, fun k hk => by rcases hfn k hk with h | h; exact han k h; right; omega⟩, hTF, hbW.keep (fun k hk => hB9.block k (by omega)), hid hokn⟩, hBW.trans (hB9.mono (by omega)), by omega⟩)
        clear hrv9 hfp hfn hB9 hO9 hS9 hrv hav han hTW hbW hBW hKO hokn hTF
        gi_wp2
        exact unhid HF
  case stop =>
    rintro D c pre W hD hpr ⟨⟨rfl, hno, hbW⟩, hB⟩ hK
    have E := hid (show joinOk es fs = false ∧ joinR es fs = [] by unfold joinR joinOk; rw [okJ_prefix hpr hno, htb, htb2]; exact ⟨rfl, rfl⟩)
    have hg := grownBy_putObj' W D (.deferred none)
    have hr : ∀ r, some D = some r → ∃ o : Obj, W.heap[r]? = some o ∧ o.isCells = false := fun r e => by cases e; exact ⟨_, hK, rfl⟩
    have s2 := (cell_of_box_l (cells_grown hg hr hbW.1)).1
    have s3 := (cell_of_box_l (cells_grown hg hr hbW.2)).1
    have HF := hid (And.intro (hB.trans (belowK_b (w := w) (Nat.le_refl _) _ D (.deferred (some [])) (.deferred none) (by omega) hK rfl rfl)) hK)
    clear hg hr hbW hB hK hno
    gi_wp2
    refine ⟨by simp, .inl ⟨_, _, rfl, run_takeDeferred (unhid HF).2, ?_⟩⟩
    refine ⟨.tuple #[.slice none 0 0, .bool false], ?_, _, by rw [(unhid E).1], by rw [(unhid E).2]; exact World.ownsRow_nil _ _ _ _, (unhid HF).1⟩
    simp [results, Tryz.f123, go_sem, s2, s3]
  case done =>
    rintro D ys W hD hys ⟨⟨⟨vp, vn, hrv, hav, han⟩, hTI2, hbW, hok⟩, hB, hW4⟩ hK
    rw [hys] at hrv hok
    have hlen : (joinTo es fs).length ≤ 100 := by have := joinTo_len es fs; omega
    have hen : ∀ e ∈ joinTo es fs, entB e = true := fun e he => by
      rcases joinTo_mem es fs e he with h | h
      · exact tree_all htb e h
      · exact hkb e h
    have ENT := hid (entries_any wA.heap.size w1.heap.size (joinTo es fs) W (by omega) hen hrv.at)
    have HSM := hid (small_all (by omega) hen)
    have HI := hid (And.intro hB (And.intro hK hbW))
    have hDl := (Array.getElem?_eq_some_iff.1 hK).1
    have hwl2 : w.heap.size + 2 ≤ W.heap.size := by have := (Array.getElem?_eq_some_iff.1 hbW.2).1; omega
    clear hrv hav han hTI2 hbW hB hK hen
    gi_wp2
    refine ⟨trivial, (callsIn_wide.2 (unhid ENT)).mono ?_⟩
    rintro x W3 ⟨v, rfl, hown, hb3⟩
    obtain ⟨va, vc, hva, hRI⟩ := rowIn_of_owns hown
    subst hva
    obtain ⟨hB, hK, hbW⟩ := unhid HI
    have TOK := hid (treeOk_any (joinTo es fs) va vc W3 (unhid HSM) hRI.at)
    have HI3 := hid (And.intro hown (And.intro (hB.trans (hb3.mono hB.size)) (And.intro ((hb3.block _ hDl).trans hK) (hbW.keep (fun k hk => hb3.block k (by omega))))))
    have hsz3 := hb3.size
    clear hown hb3 hB hK hbW hRI HI
    gi_wp2
    refine ⟨trivial, (callsIn_wide.2 (unhid TOK)).mono ?_⟩
    rintro x W4 ⟨rfl, hb4⟩
    obtain ⟨hown0, hB0, hK0, hbx0⟩ := unhid HI3
    have hown := ownsRow_kept hown0 (fun g e => hb4.block g (hown0.lt g e).2)
    have hB := hB0.trans (hb4.mono hB0.size)
    have hK := (hb4.block _ (by omega)).trans hK0
    have hbx := hbx0.keep (fun k hk => hb4.block k (by omega))
    have HI4 := hid (And.intro hown (And.intro hB (And.intro hK hbx)))
    obtain ⟨k2, f2⟩ := cell_of_box_l hbx.1
    obtain ⟨k3, f3⟩ := cell_of_box_l hbx.2
    clear hown0 hB0 hK0 hbx0 hown hB hK hbx hb4 HI3 TOK
    cases htj : treeB (joinTo es fs)
    · have E := hid (show joinOk es fs = false ∧ joinR es fs = [] by unfold joinR joinOk; rw [htj, htb, htb2, unhid hok]; exact ⟨rfl, rfl⟩)
      gi_wp2
      obtain ⟨hown, hB, hK, hbx⟩ := unhid HI4
      obtain ⟨WF, hWF⟩ : ∃ WF, WF = ((W4.setCell ⟨w.heap.size, 0, none⟩ (.slice none 0 0)).setCell ⟨w.heap.size + 1, 0, none⟩ (.bool false)) := ⟨_, rfl⟩
      have hne23 : w.heap.size ≠ w.heap.size + 1 := by omega
      have hKF : WF.heap[D]? = some (.deferred (some [])) := by rw [hWF]; exact (Below.heap_setCell _ _ _ _ (show D ≠ w.heap.size + 1 by omega)).trans ((Below.heap_setCell _ _ _ _ (show D ≠ w.heap.size by omega)).trans hK)
      have hv1 : WF.heap[w.heap.size]? = some (.cells #[.slice none 0 0] 29 (0, 0)) := by rw [hWF]; exact (Below.heap_setCell _ _ _ _ hne23).trans (by rw [heap_setCell_same _ _ 0 _ _ _ hbx.1]; rfl)
      have hb7 : WF.heap[w.heap.size + 1]? = some (.cells #[.bool false] 4 (0, 0)) := by rw [hWF, heap_setCell_same _ _ 0 _ _ _ ((Below.heap_setCell _ _ _ _ hne23.symm).trans hbx.2)]; rfl
      have hBF : Below w.heap.size w WF := by rw [hWF]; exact (hB.setCell (p := ⟨w.heap.size, 0, none⟩) (Nat.le_refl _) _).setCell (p := ⟨w.heap.size + 1, 0, none⟩) (show w.heap.size ≤ w.heap.size + 1 by omega) _
      rw [← hWF]
      refine ⟨by simp, .inl ⟨_, _, rfl, run_takeDeferred hKF, ?_⟩⟩
      have hg := grownBy_putObj' WF D (.deferred none)
      have hr : ∀ r, some D = some r → ∃ o : Obj, WF.heap[r]? = some o ∧ o.isCells = false := fun r e => by cases e; exact ⟨_, hKF, rfl⟩
      have s2 := (cell_of_box_l (cells_grown hg hr hv1)).1
      have s3 := (cell_of_box_l (cells_grown hg hr hb7)).1
      refine ⟨.tuple #[.slice none 0 0, .bool false], ?_, _, by rw [(unhid E).1], by rw [(unhid E).2]; exact World.ownsRow_nil _ _ _ _, hBF.trans (belowK_b (w := w) (Nat.le_refl _) _ D (.deferred (some [])) (.deferred none) (by omega) hKF rfl rfl)⟩
      simp [results, Tryz.f123, go_sem, s2, s3]
    · have E := hid (show joinOk es fs = true ∧ joinR es fs = joinTo es fs by unfold joinR joinOk; rw [htj, htb, htb2, unhid hok]; exact ⟨rfl, rfl⟩)
      gi_wp2
      obtain ⟨hown, hB, hK, hbx⟩ := unhid HI4
      obtain ⟨WF, hWF⟩ : ∃ WF, WF = ((W4.setCell ⟨w.heap.size, 0, none⟩ (.slice va (joinTo es fs).length vc)).setCell ⟨w.heap.size + 1, 0, none⟩ (.bool true)) := ⟨_, rfl⟩
      have hne23 : w.heap.size ≠ w.heap.size + 1 := by omega
      have hKF : WF.heap[D]? = some (.deferred (some [])) := by rw [hWF]; exact (Below.heap_setCell _ _ _ _ (show D ≠ w.heap.size + 1 by omega)).trans ((Below.heap_setCell _ _ _ _ (show D ≠ w.heap.size by omega)).trans hK)
      have hv1 : WF.heap[w.heap.size]? = some (.cells #[.slice va (joinTo es fs).length vc] 29 (0, 0)) := by rw [hWF]; exact (Below.heap_setCell _ _ _ _ hne23).trans (by rw [heap_setCell_same _ _ 0 _ _ _ hbx.1]; rfl)
      have hb7 : WF.heap[w.heap.size + 1]? = some (.cells #[.bool true] 4 (0, 0)) := by rw [hWF, heap_setCell_same _ _ 0 _ _ _ ((Below.heap_setCell _ _ _ _ hne23.symm).trans hbx.2)]; rfl
      have hBF : Below w.heap.size w WF := by rw [hWF]; exact (hB.setCell (p := ⟨w.heap.size, 0, none⟩) (Nat.le_refl _) _).setCell (p := ⟨w.heap.size + 1, 0, none⟩) (show w.heap.size ≤ w.heap.size + 1 by omega) _
      have hownF : WF.ownsRow W.heap.size 90 4 (.slice va (joinTo es fs).length vc) (joinTo es fs).length (valsOf (joinTo es fs)) := by rw [hWF]; exact ownsRow_setCell_below (ownsRow_setCell_below hown (a := ⟨w.heap.size, 0, none⟩) (show w.heap.size < W.heap.size by omega) _) (a := ⟨w.heap.size + 1, 0, none⟩) (show w.heap.size + 1 < W.heap.size by omega) _
      rw [← hWF]
      refine ⟨by simp, .inl ⟨_, _, rfl, run_takeDeferred hKF, ?_⟩⟩
      have hg := grownBy_putObj' WF D (.deferred none)
      have hr : ∀ r, some D = some r → ∃ o : Obj, WF.heap[r]? = some o ∧ o.isCells = false := fun r e => by cases e; exact ⟨_, hKF, rfl⟩
      have s2 := (cell_of_box_l (cells_grown hg hr hv1)).1
      have s3 := (cell_of_box_l (cells_grown hg hr hb7)).1
      refine ⟨.tuple #[.slice va (joinTo es fs).length vc, .bool true], ?_, _, by rw [(unhid E).1], by rw [(unhid E).2]; exact ownsRow_base (row_grown hg hr hownF) (by omega), hBF.trans (belowK_b (w := w) (Nat.le_refl _) _ D (.deferred (some [])) (.deferred none) (by omega) hKF rfl rfl)⟩
      simp [results, Tryz.f123, go_sem, s2, s3]
end Go.Proofs.YtlnpjiabdebmgaaGreat

/- Whether a place of a tree may be moved, by the program. -/
namespace Go.Proofs.YtlnpjiabdebmgaaGreat
open Go.RowKit Go.Shelf

def mayB (es : List Ent) (p q : ByteArray) : Bool := thereE es p && (!thereE es q && (pathB q.data.toList && (!inB p.data.toList q.data.toList && dirE es (pathUpS q))))

end Go.Proofs.YtlnpjiabdebmgaaGreat

/- What is moved in a tree, by the program. -/
namespace Go.Proofs.YtlnpjiabdebmgaaGreat
open Go.RowKit Go.Shelf

attribute [local go_sem] Oper.semAt_some

def placeM (p q : ByteArray) (e : Ent) : ByteArray := if inB p.data.toList e.path.data.toList then moveS e.path p q else e.path
def mvE (p q : ByteArray) (e : Ent) : Ent := { e with path := placeM p q e }
def moveAll (p q : ByteArray) (es : List Ent) : Bool := es.all fun e => !(placeM p q e).toList.isEmpty
def moveOk (p q : ByteArray) (es : List Ent) : Bool := mayB (keptE es) p q && moveAll p q (keptE es)
def moveR (p q : ByteArray) (es : List Ent) : List Ent := if moveOk p q es then putAll ((keptE es).map (mvE p q)) else keptE es
theorem mv_nodeV (p q : ByteArray) (e : Ent) : nodeV (mvE p q e) = nodeV e := rfl
theorem empty_of {s : ByteArray} (h : s.toList.isEmpty = true) : s = ⟨#[]⟩ := by
  rw [Lib.toList_data] at h
  apply ByteArray.ext
  exact Array.ext' (by simpa using h)
theorem move_pathB {s f t : ByteArray} (h : (moveS s f t).toList.isEmpty = false) : pathB (moveS s f t).data.toList = true := by
  unfold moveS at h ⊢
  split at h
  · rename_i hc
    rw [if_pos hc]
    simp only [Bool.and_eq_true] at hc
    exact hc.2
  · simp [Lib.toList_data] at h
theorem mv_ok {p q : ByteArray} {e : Ent} (he : entB e = true) (hm : (placeM p q e).toList.isEmpty = false) : entB (mvE p q e) = true := by
  have hp : pathB (placeM p q e).data.toList = true := by
    unfold placeM at hm ⊢
    cases hi : inB p.data.toList e.path.data.toList
    · exact ent_pathB he
    · rw [hi] at hm; exact move_pathB hm
  unfold entB at he ⊢
  simp only [Bool.and_eq_true] at he ⊢
  exact ⟨hp, he.2⟩
/-- The boxes of a move: from, to, what is answered. -/
def BxM (W : World) (N : Nat) (p q : ByteArray) : Prop := W.heap[N]? = some (.cells #[.string p] 9 (0, 0)) ∧ W.heap[N + 1]? = some (.cells #[.string q] 9 (0, 0)) ∧ W.heap[N + 1 + 1]? = some (.cells #[.slice none 0 0] 29 (0, 0)) ∧ W.heap[N + 1 + 1 + 1]? = some (.cells #[.bool false] 4 (0, 0))
theorem BxM.keep {W W' : World} {N : Nat} {p q : ByteArray} (h : BxM W N p q) (hk : ∀ k, k < N + 4 → W'.heap[k]? = W.heap[k]?) : BxM W' N p q :=
  ⟨(hk _ (by omega)).trans h.1, (hk _ (by omega)).trans h.2.1, (hk _ (by omega)).trans h.2.2.1, (hk _ (by omega)).trans h.2.2.2⟩
theorem BxM.grown {W W' : World} {row : Option Nat} {N : Nat} {p q : ByteArray} (h : BxM W N p q) (hg : W.grownBy W' row) (hr : ∀ r, row = some r → ∃ o : Obj, W.heap[r]? = some o ∧ o.isCells = false) : BxM W' N p q :=
  ⟨cells_grown hg hr h.1, cells_grown hg hr h.2.1, cells_grown hg hr h.2.2.1, cells_grown hg hr h.2.2.2⟩

end Go.Proofs.YtlnpjiabdebmgaaGreat

/- Entries put by path, by the model. -/
namespace Go.Proofs.YtlnpjiabdebmgaaGreat
open Go.RowKit Go.Shelf

theorem ownsRow_some {W : World} {N n size : Nat} {v : Value} {e : TypeId} {xs : List Value} (h : W.ownsRow N e size v n xs) (hn : 0 < n) : ∃ g cap, v = .slice (some ⟨g, 0, none⟩) n cap := by
  rcases h.2 with ⟨rfl, h0⟩ | ⟨g, cap, cur, rfl, _⟩
  · omega
  · exact ⟨g, cap, rfl⟩
def sortL (xs : List Ent) : List Ent := xs.foldl insAt []
theorem sortL_snoc (xs : List Ent) (x : Ent) : sortL (xs ++ [x]) = insAt (sortL xs) x := by unfold sortL; rw [List.foldl_append]; rfl
theorem insAt_len (es : List Ent) (e : Ent) : (insAt es e).length = es.length + 1 := by unfold insAt; have := placeE_le es e.path; simp; omega
theorem sortL_len : ∀ xs, (sortL xs).length = xs.length := snoc_ind rfl (fun xs x ih => by rw [sortL_snoc, insAt_len, ih]; simp)

end Go.Proofs.YtlnpjiabdebmgaaGreat

/- Two trees in one, by the model. -/
namespace Go.Proofs.YtlnpjiabdebmgaaGreat
open Go.RowKit Go.Shelf

/-- Whether two entries are the same, as the language compares them. -/
def eqV (x y : Ent) : Bool := x.path == y.path && (x.kind == y.kind && (x.mode == y.mode && x.text == y.text))
theorem beqS_iff (a b : ByteArray) : (a == b) = true ↔ a = b := by
  rw [beq_toListBytes]
  exact eqS_iff a b
theorem in_str (d : Nat) (a b : ByteArray) (w : World) : (Op.equalIn (d + 1) 9 (.string a) (.string b)).run Tryz.prog w = .ok (a == b) w := by
  simp [Op.equalIn, run_underlying Tryz.underlying9]
theorem in_ent (d : Nat) (x y : Ent) (w : World) : (Op.equalIn (d + 1 + 1) 90 (.agg x.vals) (.agg y.vals)).run Tryz.prog w = .ok (eqV x y) w := by
  obtain ⟨p, k, m, t⟩ := x
  obtain ⟨p2, k2, m2, t2⟩ := y
  have h0 : (program).run Tryz.prog w = .ok Tryz.prog w := by kernel_rfl
  have h1 : Tryz.prog.stoodInHeld 90 = false := by kernel_rfl
  have e0 : ∀ (p : ByteArray) (k m : Int) (t : ByteArray), (part 9 #[.string p, .int .i64 k, .int .i64 m, .string t] 0).run Tryz.prog w = .ok (.string p) w := fun p k m t => by kernel_rfl
  have e1 : ∀ (p : ByteArray) (k m : Int) (t : ByteArray), (part 3 #[.string p, .int .i64 k, .int .i64 m, .string t] 1).run Tryz.prog w = .ok (.int .i64 k) w := fun p k m t => by kernel_rfl
  have e2 : ∀ (p : ByteArray) (k m : Int) (t : ByteArray), (part 3 #[.string p, .int .i64 k, .int .i64 m, .string t] 2).run Tryz.prog w = .ok (.int .i64 m) w := fun p k m t => by kernel_rfl
  have e3 : ∀ (p : ByteArray) (k m : Int) (t : ByteArray), (part 9 #[.string p, .int .i64 k, .int .i64 m, .string t] 3).run Tryz.prog w = .ok (.string t) w := fun p k m t => by kernel_rfl
  unfold Ent.vals eqV
  unfold Op.equalIn
  simp only [Sem.run_bind, run_underlying Tryz.underlying90, Result.andThen_ok, h0, h1, Bool.false_eq_true, if_false, List.forIn_toArray, List.forIn_cons, List.forIn_nil]
  rw [if_pos (by decide)]
  simp only [Sem.run_bind, e0, in_str, Result.andThen_ok]
  cases (p == p2)
  · simp [Sem.run_pure]
  · simp only [Bool.not_true, Bool.false_eq_true, if_false, Sem.run_pure, Result.andThen_ok]
    rw [if_pos (by decide)]
    simp only [Sem.run_bind, e1, in_int, Result.andThen_ok]
    cases (k == k2)
    · simp [Sem.run_pure]
    · simp only [Bool.not_true, Bool.false_eq_true, if_false, Sem.run_pure, Result.andThen_ok]
      rw [if_pos (by decide)]
      simp only [Sem.run_bind, e2, in_int, Result.andThen_ok]
      cases (m == m2)
      · simp [Sem.run_pure]
      · simp only [Bool.not_true, Bool.false_eq_true, if_false, Sem.run_pure, Result.andThen_ok]
        rw [if_pos (by decide)]
        simp only [Sem.run_bind, e3, in_str, Result.andThen_ok]
        cases (t == t2) <;> simp [Sem.run_pure]
theorem ne_ents (x y : Ent) (w : World) : (binOp .neq 90 (.agg x.vals) (.agg y.vals)).run Tryz.prog w = .ok (.bool (!eqV x y)) w := by
  simp only [binOp]
  simp [Op.equal, Op.maxDepth, in_ent 9998]
theorem same_eq {x old : Ent} (hx : entB x = true) (ho : entB old = true) (hp : old.path = x.path) : sameB old x = (old.kind == 1 && eqV x old) := by
  unfold sameB eqV
  cases hk : (old.kind == 1)
  · rfl
  · have hk1 : old.kind = 1 := by simpa using hk
    have hto : old.text.data.toList = [] := by unfold entB at ho; rw [if_pos hk1] at ho; simp only [Bool.and_eq_true] at ho; have := ho.2.2; simpa using this
    rw [hp, hk1]
    cases hkx : (x.kind == 1)
    · simp
    · have hx1 : x.kind = 1 := by simpa using hkx
      have htx : x.text.data.toList = [] := by unfold entB at hx; rw [if_pos hx1] at hx; simp only [Bool.and_eq_true] at hx; have := hx.2.2; simpa using this
      have htt : x.text = old.text := ByteArray.ext (Array.ext' (by rw [htx, hto]))
      have hm : (old.mode == x.mode) = (x.mode == old.mode) := by rw [Bool.eq_iff_iff, beq_iff_eq, beq_iff_eq]; exact ⟨fun h => h.symm, fun h => h.symm⟩
      rw [htt, hm, (beqS_iff _ _).2 rfl, (beqS_iff _ _).2 rfl]
      simp
theorem eqV_eq {x y : Ent} (h : eqV x y = true) : x = y := by
  unfold eqV at h
  simp only [Bool.and_eq_true] at h
  obtain ⟨h1, h2, h3, h4⟩ := h
  have e1 := (beqS_iff _ _).1 h1
  have e4 := (beqS_iff _ _).1 h4
  have e2 := eq_of_beq h2
  have e3 := eq_of_beq h3
  cases x; cases y; dsimp only at e1 e2 e3 e4; subst e1 e2 e3 e4; rfl
theorem put_same {L : List Ent} {x : Ent} (hth : thereE L x.path = true) (he : entFn L (placeE L x.path) = x) : putT L x = L := by
  obtain ⟨old, hold, _⟩ := there_get hth
  rw [entFn_get hold] at he
  subst he
  unfold putT
  rw [hth, if_pos rfl]
  apply List.ext_getElem?
  intro i
  rw [List.getElem?_set]
  split
  · rename_i hi
    subst hi
    rw [if_pos (List.getElem?_eq_some_iff.1 hold).1, hold]
  · rfl
theorem put_new {L : List Ent} {x : Ent} (hth : thereE L x.path = false) : putT L x = insAt L x := by unfold putT; rw [hth]; rfl
def joinL (es fs : List Ent) : List Ent := if okJ es fs then joinTo es fs else []

set_option maxRecDepth 100000 in
set_option maxHeartbeats 8000000 in
theorem l2Join_any (es fs : List Ent) (b o cap b2 o2 cap2 : Nat) (w : World) (hte : treeB es = true) (htf : treeB fs = true) (h : ∀ (i : Nat) e, es[i]? = some e → EntAt w b (o + i * 4) e) (hb : b < w.heap.size) (hf : ∀ (i : Nat) e, fs[i]? = some e → EntAt w b2 (o2 + i * 4) e) (hb2 : b2 < w.heap.size) :
    Calls Tryz.prog 122 #[.slice (some ⟨b, o, none⟩) es.length cap, .slice (some ⟨b2, o2, none⟩) fs.length cap2] w fun x w' => ∃ v, x = .returned (.tuple #[v, .bool (okJ es fs && treeB (joinTo es fs))]) ∧ w'.ownsRow w.heap.size 90 4 v (joinL es fs).length (valsOf (joinL es fs)) ∧ Below w.heap.size w w' := by
  obtain ⟨i0, hi0, hz0, hzs, hzb⟩ := info_parts infoEntry
  have HI := hid (And.intro hi0 (And.intro hz0 (And.intro hzs hzb)))
  have hle := tree_16 hte
  have hlf := tree_16 htf
  have hae := tree_all hte
  have haf := tree_all htf
  have HH := hid hf
  have HC := hid (l2Copy_some es b o cap w (by omega) h (.inr hb))
  clear hi0 hz0 hzs hzb h hf hb
  go_enter Tryz.func122, Tryz.ntmps122
  go_wp2_with fail
  refine (unhid HC).mono ?_
  rintro x w1 ⟨g1, c1, rfl, hown, hB1⟩
  have HF0 := hid (And.intro hown hB1)
  clear hown hB1 HC
  go_wp2_with fail
  go_loopw [6, 7] (fun v i wr => ∃ j : Nat, j ≤ fs.length ∧ i = .int .i64 (j : Int) ∧ (∃ g c, v = .slice (some ⟨g, 0, none⟩) (joinTo es (fs.take j)).length c) ∧ Hid (wr.ownsRow w.heap.size 90 4 v (joinTo es (fs.take j)).length (valsOf (joinTo es (fs.take j)))) ∧ Hid (okJ es (fs.take j) = true) ∧ Hid (Below w.heap.size w wr)) (fun _ i _ => fs.length - (intOf i).toNat)
  case atStart => exact ⟨0, Nat.zero_le _, rfl, ⟨g1, c1, rfl⟩, hid (unhid HF0).1, hid rfl, hid (unhid HF0).2⟩
  case round =>
    obtain ⟨j, hj, rfl, ⟨g, c, rfl⟩, HO, HA, HB⟩ := hrel
    by_cases hlt : j < fs.length
    · obtain ⟨e, he⟩ : ∃ e, fs[j]? = some e := ⟨fs[j], List.getElem?_eq_getElem hlt⟩
      have hsn : joinTo es (fs.take (j + 1)) = putT (joinTo es (fs.take j)) e := by rw [List.take_add_one, he]; exact joinTo_snoc _ _ _
      have hon : okJ es (fs.take (j + 1)) = (okJ es (fs.take j) && stepJ (joinTo es (fs.take j)) e) := by rw [List.take_add_one, he]; exact okJ_snoc _ _ _
      have hl9 : (joinTo es (fs.take j)).length ≤ 900 := by have := joinTo_len es (fs.take j); rw [List.length_take] at this; omega
      have hall : ∀ x ∈ joinTo es (fs.take j), entB x = true := fun x hx => by
        rcases joinTo_mem es _ x hx with h | h
        · exact hae x h
        · exact haf x (List.mem_of_mem_take h)
      have hxe := haf e (List.mem_of_getElem? he)
      have hpr : okJ es (fs.take (j + 1)) = false → okJ es fs = false := okJ_prefix (List.take_prefix _ _)
      obtain ⟨c0, c1', c2, c3⟩ := ((unhid HH) j e he).below (unhid HB) hb2
      have HE := hid ((unhid HH) j e he)
      obtain ⟨a1, cap1, ev, hRI⟩ := rowIn_of_owns (unhid HO)
      injection ev with ev1 ev2 ev3
      subst ev1
      have HAT := hid hRI.at
      have hcl : (joinTo es (fs.take j)).length ≤ c := by
        rcases (unhid HO).2 with ⟨hv, h0⟩ | ⟨g', cap', cur', hv, _, _, hcc, _⟩
        · cases hv
        · cases hv; exact hcc
      have hgl : g < wr.heap.size := by
        rcases (unhid HO).2 with ⟨hv, h0⟩ | ⟨g', cap', cur', hv, _, hh, _⟩
        · cases hv
        · cases hv; exact (Array.getElem?_eq_some_iff.1 hh).1
      have HGE := hid (show ∀ (i : Nat) x, (joinTo es (fs.take j))[i]? = some x → EntAt wr g (0 + i * 4) x by
        rcases unhid HAT with h0 | ⟨b', o', eb, _, hcc⟩
        · intro i x hi; rw [h0] at hi; simp at hi
        · cases eb; exact hcc)
      have AT := hid (l2At_any (joinTo es (fs.take j)) (some ⟨g, 0, none⟩) c e.path wr (by omega) (unhid HAT))
      have HSN0 := hid (And.intro hsn (And.intro hon hpr))
      have HXE := hid (And.intro hxe hall)
      clear hRI he hsn hon hpr hall hxe ev2 ev3
      generalize joinTo es (fs.take j) = L at *
      go_wp2_with fail
      refine (unhid AT).mono ?_
      rintro x w3 ⟨rfl, n3, e3⟩
      have hB3 : Below wr.heap.size wr w3 := by rw [e3]; exact drewN_below _ _
      have hkn : placeE L e.path ≤ L.length := placeE_le _ _
      have HB2 := hid ((unhid HB).trans (hB3.mono (unhid HB).size))
      have HG3 := hid (entAt_below (unhid HGE) (.inr hgl) hB3)
      have HE3 := hid ((unhid HE).below (unhid HB2) hb2)
      have HO3 := hid (ownsRow_kept (unhid HO) (fun g eg => hB3.block g ((unhid HO).lt g eg).2))
      have hwl : w.heap.size ≤ w3.heap.size := (unhid HB2).size
      have hgl3 : g < w3.heap.size := Nat.lt_of_lt_of_le hgl hB3.size
      have hbl3 : b2 < w3.heap.size := Nat.lt_of_lt_of_le hb2 hwl
      clear hB3 e3 AT HGE HE c0 c1' c2 c3 HAT HB HO n3 hgl
      cases hth : thereE L e.path
      · have HSN := hid (show (joinTo es (fs.take (j + 1))).length = placeE L e.path + 1 + (L.length - placeE L e.path) ∧ valsOf (joinTo es (fs.take (j + 1))) = valsOf (L.take (placeE L e.path)) ++ valsOf [e] ++ valsOf (L.drop (placeE L e.path)) by
          rw [(unhid HSN0).1, put_new hth]; refine ⟨by rw [insAt_len]; omega, ?_⟩; unfold insAt; rw [valsOf_app, valsOf_app])
        have HOK := hid (show okJ es (fs.take (j + 1)) = true by rw [(unhid HSN0).2.1, unhid HA]; unfold stepJ; rw [hth]; rfl)
        clear hth HSN0 HXE HO3
        generalize placeE L e.path = k at hkn HSN ⊢
        generalize hnl : L.length = n at *
        have HNL := hid hnl
        clear hnl
        go_wp2_with fail
        go_quiet (fail)
        have hBq : Below w3.heap.size w3 (w3.drewN nq) := drewN_below _ _
        have HB2' := hid ((unhid HB2).trans (hBq.mono hwl))
        have HG3' := hid (entAt_below (unhid HG3) (.inr hgl3) hBq)
        have HE3' := hid ((unhid HE3).below hBq hbl3)
        have hwl' : w.heap.size ≤ (w3.drewN nq).heap.size := hwl
        have hgl3' : g < (w3.drewN nq).heap.size := hgl3
        have hbl3' : b2 < (w3.drewN nq).heap.size := hbl3
        clear hBq HB2 HG3 HE3 hwl hgl3 hbl3
        have HB2 := HB2'; have HG3 := HG3'; have HE3 := HE3'; have hwl := hwl'; have hgl3 := hgl3'; have hbl3 := hbl3'
        clear HB2' HG3' HE3' hwl' hgl3' hbl3'
        generalize w3.drewN nq = w3 at *
        go_wp2_with fail
        have hi1 : (0 : Int) ≤ (k : Int) := by omega
        have hi2 : (k : Int) ≤ (n : Int) := by omega
        have hi3 : (k : Int) ≤ (c : Int) := by omega
        have hi4 : (n : Int) ≤ (c : Int) := by omega
        have hi5 : (0 : Int) ≤ (j : Int) := by omega
        have hi6 : (j : Int) < (fs.length : Int) := by omega
        have HC1 := hid (show ∀ W, Below w3.heap.size w3 W → ∀ j u, (valsOf (L.take k))[j]? = some u → W.cell? ((⟨g, 0, none⟩ : Addr).add j) = some u from fun W hW => ents_cells (ents_take (entAt_below (unhid HG3) (.inr hgl3) hW)))
        have HC2 := hid (show ∀ W, Below w3.heap.size w3 W → ∀ j u, (valsOf (L.drop k))[j]? = some u → W.cell? ((⟨g, offD c k, none⟩ : Addr).add j) = some u from fun W hW => ents_cells (fun i x hi => by have := ents_dropD (entAt_below (unhid HG3) (.inr hgl3) hW) (show L.length ≤ c by rw [unhid HNL]; omega) i x hi; rwa [Nat.zero_add] at this))
        have ht1 : (L.take k).length = k := by rw [List.length_take, unhid HNL]; omega
        have ht2 : (L.drop k).length = n - k := by rw [List.length_drop, unhid HNL]
        refine wp_region_held_drew (S := fun w' => Below w3.heap.size w3 w') (by kernel_rfl) (drew_below _) (fun hS => ?_)
        refine wpAnyH_take (i := 1) (v := .slice (some ⟨g, 0, none⟩) n c) rfl (by kernel_rfl) (by kernel_rfl) (by kernel_rfl) (fun _ _ _ h => h) (Or.inl ⟨by rfl, fun w' hw => by go_simp⟩) hS ?_
        refine wpAnyH_take (i := 2) (v := .int .i64 (k : Int)) rfl (by kernel_rfl) (by kernel_rfl) (by kernel_rfl) (fun _ _ _ h => h) (Or.inl ⟨by rfl, fun w' hw => by go_simp⟩) hS ?_
        refine wpAnyH_take (i := 3) (v := .slice (some ⟨g, 0, none⟩) k c) rfl (by kernel_rfl) (by kernel_rfl) (by kernel_rfl) (fun _ _ _ h => h) (Or.inl ⟨by rfl, fun w' hw => by go_simp⟩) hS ?_
        refine wpAnyH_take (i := 5) (v := .slice (some ⟨b2, o2, none⟩) fs.length cap2) rfl (by kernel_rfl) (by kernel_rfl) (by kernel_rfl) (fun _ _ _ h => h) (Or.inl ⟨by rfl, fun w' hw => by go_simp⟩) hS ?_
        refine wpAnyH_take (i := 6) (v := .int .i64 (j : Int)) rfl (by kernel_rfl) (by kernel_rfl) (by kernel_rfl) (fun _ _ _ h => h) (Or.inl ⟨by rfl, fun w' hw => by go_simp⟩) hS ?_
        refine wpAnyH_take (i := 7) (v := .pointer (some ⟨b2, o2 + j * 4, none⟩)) rfl (by kernel_rfl) (by kernel_rfl) (by kernel_rfl) (fun _ _ _ h => h) (Or.inl ⟨by rfl, fun w' hw => by go_simp⟩) hS ?_
        refine wpAnyH_take (i := 8) (v := .agg #[.string e.path, .int .i64 e.kind, .int .i64 e.mode, .string e.text]) rfl (by kernel_rfl) (by kernel_rfl) (by kernel_rfl) (fun _ _ _ h => h) (Or.inl ⟨by rfl, fun w' hw => by obtain ⟨k0, k1, k2, k3⟩ := (unhid HE3).below hw hbl3; go_simp⟩) hS ?_
        refine wpAnyH_take (i := 11) (v := .slice (some ⟨g, 0, none⟩) n c) rfl (by kernel_rfl) (by kernel_rfl) (by kernel_rfl) (fun _ _ _ h => h) (Or.inl ⟨by rfl, fun w' hw => by go_simp⟩) hS ?_
        refine wpAnyH_take (i := 12) (v := .int .i64 (k : Int)) rfl (by kernel_rfl) (by kernel_rfl) (by kernel_rfl) (fun _ _ _ h => h) (Or.inl ⟨by rfl, fun w' hw => by go_simp⟩) hS ?_
        refine wpAnyH_take (i := 13) (v := .slice (some ⟨g, offD c k, none⟩) (n - k) (c - k)) rfl (by kernel_rfl) (by kernel_rfl) (by kernel_rfl) (fun _ _ _ h => h) (Or.inl ⟨by rfl, fun w' hw => by 
          unfold offD
          by_cases hck : c = k
          · rw [if_pos hck]; go_simp
          · rw [if_neg hck]; go_simp⟩) hS ?_
        generalize w3.drew = W at hS ⊢
        refine wpAnyH_ready (rs := [0, 9]) (by kernel_rfl) (by simp) ?_
        refine AllReadyH.cons rfl (fun K hK => ?_) (AllReadyH.cons rfl (fun K hK => ?_) AllReadyH.nil)
        · go_simp
          have r0 := owns_empty W w3.heap.size hS.size 90
          have hS1 := hS.alloc hS.size (.cells #[] 90)
          refine hK.out _ _ hS1 (fun _ => ?_)
          clear hK K hS
          generalize W.alloc (.cells #[] 90) = W2 at hS1 r0 ⊢
          generalize W.heap.size = g0 at r0 ⊢
          have hS := hS1
          clear hS1
          refine wpAnyH_ready (rs := [4, 9]) (by kernel_rfl) (by simp) ?_
          refine AllReadyH.cons rfl (fun K hK => ?_) (AllReadyH.cons rfl (fun K hK => ?_) AllReadyH.nil)
          · refine step_append_at (by rfl) _ _ 29 (by rfl) w3.heap.size 90 i0 _ 4 48 Tryz.underlying29 (unhid HI).1 (unhid HI).2.1 (unhid HI).2.2.1 (unhid HI).2.2.2 rfl (by decide) (Value.slice (some ⟨g0, 0, none⟩) 0 0) (0) ([]) (by rfl) r0 ⟨g, 0, none⟩ (k) (c) (valsOf (L.take k)) (by rfl) (by rw [valsOf_len, ht1]) (unhid HC1 _ hS) (valsOf_one _) (by unfold maxLen; omega) (by omega) hS.size ?_
            intro v1 W3 r1 hg1 hat1
            rw [Nat.zero_add, List.nil_append] at r1
            obtain ⟨a1, c1, rfl⟩ := ownsRow_slice r1
            have hS1 := hS.grown hg1 hS.size (fun g eg => (r0.lt g eg).1)
            refine hK.out _ _ hS1 (fun _ => ?_)
            clear hK K hS r0 hg1 hat1
            have hS := hS1
            clear hS1
            refine wpAnyH_ready (rs := [9]) (by kernel_rfl) (by simp) ?_
            refine AllReadyH.cons rfl (fun K hK => ?_) AllReadyH.nil
            go_simp
            have o2 : OneAt (W3.alloc (.cells #[.string e.path, .int .i64 e.kind, .int .i64 e.mode, .string e.text] 90)) W3.heap.size e := World.alloc_heap_new _ _
            have hS1 := hS.alloc hS.size (.cells #[.string e.path, .int .i64 e.kind, .int .i64 e.mode, .string e.text] 90)
            have m2 : (Value.slice a1 k c1).ownBlock ≠ some W3.heap.size := fun eq => Nat.lt_irrefl _ (r1.lt _ eq).2
            have r1' := r1.alloc (.cells #[.string e.path, .int .i64 e.kind, .int .i64 e.mode, .string e.text] 90)
            clear r1
            have r1 := r1'
            clear r1'
            refine hK.out _ _ hS1 (fun _ => ?_)
            clear hK K hS
            generalize W3.alloc (.cells #[.string e.path, .int .i64 e.kind, .int .i64 e.mode, .string e.text] 90) = W4 at hS1 o2 r1 ⊢
            generalize W3.heap.size = g2 at o2 m2 ⊢
            have hS := hS1
            clear hS1
            refine wpAnyH_ready (rs := [10]) (by kernel_rfl) (by simp) ?_
            refine AllReadyH.cons rfl (fun K hK => ?_) AllReadyH.nil
            refine step_append_at (by rfl) _ _ 29 (by rfl) w3.heap.size 90 i0 _ 4 48 Tryz.underlying29 (unhid HI).1 (unhid HI).2.1 (unhid HI).2.2.1 (unhid HI).2.2.2 rfl (by decide) (Value.slice a1 k c1) (k) (valsOf (L.take k)) (by rfl) r1 ⟨g2, 0, none⟩ (1) (1) (valsOf [e]) (by rfl) (by rw [valsOf_len]; rfl) (o2.cells) (valsOf_one _) (by unfold maxLen; omega) (by omega) hS.size ?_
            intro v2 W5 r2 hg1 hat1
            obtain ⟨a2, c2, rfl⟩ := ownsRow_slice r2
            have hS1 := hS.grown hg1 hS.size (fun g eg => (r1.lt g eg).1)
            refine hK.out _ _ hS1 (fun _ => ?_)
            clear hK K hS r1 hg1 hat1 o2 m2
            have hS := hS1
            clear hS1
            refine wpAnyH_ready (rs := [14]) (by kernel_rfl) (by simp) ?_
            refine AllReadyH.cons rfl (fun K hK => ?_) AllReadyH.nil
            refine step_append_at (by rfl) _ _ 29 (by rfl) w3.heap.size 90 i0 _ 4 48 Tryz.underlying29 (unhid HI).1 (unhid HI).2.1 (unhid HI).2.2.1 (unhid HI).2.2.2 rfl (by decide) (Value.slice a2 (k + 1) c2) (k + 1) (valsOf (L.take k) ++ valsOf [e]) (by rfl) r2 ⟨g, offD c k, none⟩ ((n - k)) ((c - k)) (valsOf (L.drop k)) (by rfl) (by rw [valsOf_len, ht2]) (unhid HC2 _ hS) (valsOf_one _) (by unfold maxLen; omega) (by omega) hS.size ?_
            intro v3 W6 r3 hg1 hat1
            obtain ⟨a3, c3, rfl⟩ := ownsRow_slice r3
            have hS1 := hS.grown hg1 hS.size (fun g eg => (r2.lt g eg).1)
            refine hK.out _ _ hS1 (fun _ => ?_)
            clear hK K hS r2 hg1 hat1
            have hS := hS1
            clear hS1
            refine wpAnyH_take (i := 15) (v := .slice a3 (k + 1 + (n - k)) c3) rfl (by kernel_rfl) (by kernel_rfl) (by kernel_rfl) (fun _ _ _ h => h) (Or.inl ⟨by rfl, fun w' hw => by go_simp⟩) hS ?_
            refine wpAnyH_done (by kernel_rfl) ?_ _
            have HF := hid (show W6.ownsRow w.heap.size 90 4 (.slice a3 (k + 1 + (n - k)) c3) (joinTo es (fs.take (j + 1))).length (valsOf (joinTo es (fs.take (j + 1)))) ∧ Below w.heap.size w W6 from ⟨by rw [(unhid HSN).1, (unhid HSN).2]; exact ownsRow_base r3 (by omega), (unhid HB2).trans (hS.mono (by omega))⟩)
            obtain ⟨g3, cc3, hv3⟩ := ownsRow_some (unhid HF).1 (by rw [(unhid HSN).1]; omega)
            have HV3 := hid hv3
            clear r3 hS hv3
            go_wp2_with fail
            go_roundw
            case rel => exact ⟨j + 1, by omega, by go_num, ⟨g3, cc3, unhid HV3⟩, hid (unhid HF).1, HOK, hid (unhid HF).2⟩
            case measure => simp [intOf]; omega
          · go_simp
            have o2 : OneAt (W2.alloc (.cells #[.string e.path, .int .i64 e.kind, .int .i64 e.mode, .string e.text] 90)) W2.heap.size e := World.alloc_heap_new _ _
            have hS1 := hS.alloc hS.size (.cells #[.string e.path, .int .i64 e.kind, .int .i64 e.mode, .string e.text] 90)
            have m2 : (Value.slice (some ⟨g0, 0, none⟩) 0 0).ownBlock ≠ some W2.heap.size := fun eq => Nat.lt_irrefl _ (r0.lt _ eq).2
            have r0' := r0.alloc (.cells #[.string e.path, .int .i64 e.kind, .int .i64 e.mode, .string e.text] 90)
            clear r0
            have r0 := r0'
            clear r0'
            refine hK.out _ _ hS1 (fun _ => ?_)
            clear hK K hS
            generalize W2.alloc (.cells #[.string e.path, .int .i64 e.kind, .int .i64 e.mode, .string e.text] 90) = W3 at hS1 o2 r0 ⊢
            generalize W2.heap.size = g2 at o2 m2 ⊢
            have hS := hS1
            clear hS1
            refine wpAnyH_ready (rs := [4]) (by kernel_rfl) (by simp) ?_
            refine AllReadyH.cons rfl (fun K hK => ?_) AllReadyH.nil
            refine step_append_at (by rfl) _ _ 29 (by rfl) w3.heap.size 90 i0 _ 4 48 Tryz.underlying29 (unhid HI).1 (unhid HI).2.1 (unhid HI).2.2.1 (unhid HI).2.2.2 rfl (by decide) (Value.slice (some ⟨g0, 0, none⟩) 0 0) (0) ([]) (by rfl) r0 ⟨g, 0, none⟩ (k) (c) (valsOf (L.take k)) (by rfl) (by rw [valsOf_len, ht1]) (unhid HC1 _ hS) (valsOf_one _) (by unfold maxLen; omega) (by omega) hS.size ?_
            intro v1 W4 r1 hg1 hat1
            rw [Nat.zero_add, List.nil_append] at r1
            obtain ⟨a1, c1, rfl⟩ := ownsRow_slice r1
            have hS1 := hS.grown hg1 hS.size (fun g eg => (r0.lt g eg).1)
            have o2' := o2.grown hg1 (fun eq => m2 eq.symm)
            have m2' : (Value.slice a1 k c1).ownBlock ≠ some g2 := by
              rcases hat1 with h | h <;> rw [h]
              · exact m2
              · intro eq; injection eq with eq; have := o2.lt; omega
            clear o2 m2
            have o2 := o2'
            clear o2'
            have m2 := m2'
            clear m2'
            refine hK.out _ _ hS1 (fun _ => ?_)
            clear hK K hS r0 hg1 hat1
            have hS := hS1
            clear hS1
            refine wpAnyH_ready (rs := [10]) (by kernel_rfl) (by simp) ?_
            refine AllReadyH.cons rfl (fun K hK => ?_) AllReadyH.nil
            refine step_append_at (by rfl) _ _ 29 (by rfl) w3.heap.size 90 i0 _ 4 48 Tryz.underlying29 (unhid HI).1 (unhid HI).2.1 (unhid HI).2.2.1 (unhid HI).2.2.2 rfl (by decide) (Value.slice a1 k c1) (k) (valsOf (L.take k)) (by rfl) r1 ⟨g2, 0, none⟩ (1) (1) (valsOf [e]) (by rfl) (by rw [valsOf_len]; rfl) (o2.cells) (valsOf_one _) (by unfold maxLen; omega) (by omega) hS.size ?_
            intro v2 W5 r2 hg1 hat1
            obtain ⟨a2, c2, rfl⟩ := ownsRow_slice r2
            have hS1 := hS.grown hg1 hS.size (fun g eg => (r1.lt g eg).1)
            refine hK.out _ _ hS1 (fun _ => ?_)
            clear hK K hS r1 hg1 hat1 o2 m2
            have hS := hS1
            clear hS1
            refine wpAnyH_ready (rs := [14]) (by kernel_rfl) (by simp) ?_
            refine AllReadyH.cons rfl (fun K hK => ?_) AllReadyH.nil
            refine step_append_at (by rfl) _ _ 29 (by rfl) w3.heap.size 90 i0 _ 4 48 Tryz.underlying29 (unhid HI).1 (unhid HI).2.1 (unhid HI).2.2.1 (unhid HI).2.2.2 rfl (by decide) (Value.slice a2 (k + 1) c2) (k + 1) (valsOf (L.take k) ++ valsOf [e]) (by rfl) r2 ⟨g, offD c k, none⟩ ((n - k)) ((c - k)) (valsOf (L.drop k)) (by rfl) (by rw [valsOf_len, ht2]) (unhid HC2 _ hS) (valsOf_one _) (by unfold maxLen; omega) (by omega) hS.size ?_
            intro v3 W6 r3 hg1 hat1
            obtain ⟨a3, c3, rfl⟩ := ownsRow_slice r3
            have hS1 := hS.grown hg1 hS.size (fun g eg => (r2.lt g eg).1)
            refine hK.out _ _ hS1 (fun _ => ?_)
            clear hK K hS r2 hg1 hat1
            have hS := hS1
            clear hS1
            refine wpAnyH_take (i := 15) (v := .slice a3 (k + 1 + (n - k)) c3) rfl (by kernel_rfl) (by kernel_rfl) (by kernel_rfl) (fun _ _ _ h => h) (Or.inl ⟨by rfl, fun w' hw => by go_simp⟩) hS ?_
            refine wpAnyH_done (by kernel_rfl) ?_ _
            have HF := hid (show W6.ownsRow w.heap.size 90 4 (.slice a3 (k + 1 + (n - k)) c3) (joinTo es (fs.take (j + 1))).length (valsOf (joinTo es (fs.take (j + 1)))) ∧ Below w.heap.size w W6 from ⟨by rw [(unhid HSN).1, (unhid HSN).2]; exact ownsRow_base r3 (by omega), (unhid HB2).trans (hS.mono (by omega))⟩)
            obtain ⟨g3, cc3, hv3⟩ := ownsRow_some (unhid HF).1 (by rw [(unhid HSN).1]; omega)
            have HV3 := hid hv3
            clear r3 hS hv3
            go_wp2_with fail
            go_roundw
            case rel => exact ⟨j + 1, by omega, by go_num, ⟨g3, cc3, unhid HV3⟩, hid (unhid HF).1, HOK, hid (unhid HF).2⟩
            case measure => simp [intOf]; omega
        · go_simp
          have o2 : OneAt (W.alloc (.cells #[.string e.path, .int .i64 e.kind, .int .i64 e.mode, .string e.text] 90)) W.heap.size e := World.alloc_heap_new _ _
          have hS1 := hS.alloc hS.size (.cells #[.string e.path, .int .i64 e.kind, .int .i64 e.mode, .string e.text] 90)
          refine hK.out _ _ hS1 (fun _ => ?_)
          clear hK K hS
          generalize W.alloc (.cells #[.string e.path, .int .i64 e.kind, .int .i64 e.mode, .string e.text] 90) = W2 at hS1 o2 ⊢
          generalize W.heap.size = g2 at o2 ⊢
          have hS := hS1
          clear hS1
          refine wpAnyH_ready (rs := [0]) (by kernel_rfl) (by simp) ?_
          refine AllReadyH.cons rfl (fun K hK => ?_) AllReadyH.nil
          go_simp
          have r0 := owns_empty W2 w3.heap.size hS.size 90
          have hS1 := hS.alloc hS.size (.cells #[] 90)
          have o2' := o2.alloc (.cells #[] 90)
          have m2 : (Value.slice (some ⟨W2.heap.size, 0, none⟩) 0 0).ownBlock ≠ some g2 := fun eq => by injection eq with eq; have eq2 : W2.heap.size = g2 := eq; have := o2.lt; omega
          clear o2
          have o2 := o2'
          clear o2'
          refine hK.out _ _ hS1 (fun _ => ?_)
          clear hK K hS
          generalize W2.alloc (.cells #[] 90) = W3 at hS1 r0 o2 ⊢
          generalize W2.heap.size = g0 at r0 m2 ⊢
          have hS := hS1
          clear hS1
          refine wpAnyH_ready (rs := [4]) (by kernel_rfl) (by simp) ?_
          refine AllReadyH.cons rfl (fun K hK => ?_) AllReadyH.nil
          refine step_append_at (by rfl) _ _ 29 (by rfl) w3.heap.size 90 i0 _ 4 48 Tryz.underlying29 (unhid HI).1 (unhid HI).2.1 (unhid HI).2.2.1 (unhid HI).2.2.2 rfl (by decide) (Value.slice (some ⟨g0, 0, none⟩) 0 0) (0) ([]) (by rfl) r0 ⟨g, 0, none⟩ (k) (c) (valsOf (L.take k)) (by rfl) (by rw [valsOf_len, ht1]) (unhid HC1 _ hS) (valsOf_one _) (by unfold maxLen; omega) (by omega) hS.size ?_
          intro v1 W4 r1 hg1 hat1
          rw [Nat.zero_add, List.nil_append] at r1
          obtain ⟨a1, c1, rfl⟩ := ownsRow_slice r1
          have hS1 := hS.grown hg1 hS.size (fun g eg => (r0.lt g eg).1)
          have o2' := o2.grown hg1 (fun eq => m2 eq.symm)
          have m2' : (Value.slice a1 k c1).ownBlock ≠ some g2 := by
            rcases hat1 with h | h <;> rw [h]
            · exact m2
            · intro eq; injection eq with eq; have := o2.lt; omega
          clear o2 m2
          have o2 := o2'
          clear o2'
          have m2 := m2'
          clear m2'
          refine hK.out _ _ hS1 (fun _ => ?_)
          clear hK K hS r0 hg1 hat1
          have hS := hS1
          clear hS1
          refine wpAnyH_ready (rs := [10]) (by kernel_rfl) (by simp) ?_
          refine AllReadyH.cons rfl (fun K hK => ?_) AllReadyH.nil
          refine step_append_at (by rfl) _ _ 29 (by rfl) w3.heap.size 90 i0 _ 4 48 Tryz.underlying29 (unhid HI).1 (unhid HI).2.1 (unhid HI).2.2.1 (unhid HI).2.2.2 rfl (by decide) (Value.slice a1 k c1) (k) (valsOf (L.take k)) (by rfl) r1 ⟨g2, 0, none⟩ (1) (1) (valsOf [e]) (by rfl) (by rw [valsOf_len]; rfl) (o2.cells) (valsOf_one _) (by unfold maxLen; omega) (by omega) hS.size ?_
          intro v2 W5 r2 hg1 hat1
          obtain ⟨a2, c2, rfl⟩ := ownsRow_slice r2
          have hS1 := hS.grown hg1 hS.size (fun g eg => (r1.lt g eg).1)
          refine hK.out _ _ hS1 (fun _ => ?_)
          clear hK K hS r1 hg1 hat1 o2 m2
          have hS := hS1
          clear hS1
          refine wpAnyH_ready (rs := [14]) (by kernel_rfl) (by simp) ?_
          refine AllReadyH.cons rfl (fun K hK => ?_) AllReadyH.nil
          refine step_append_at (by rfl) _ _ 29 (by rfl) w3.heap.size 90 i0 _ 4 48 Tryz.underlying29 (unhid HI).1 (unhid HI).2.1 (unhid HI).2.2.1 (unhid HI).2.2.2 rfl (by decide) (Value.slice a2 (k + 1) c2) (k + 1) (valsOf (L.take k) ++ valsOf [e]) (by rfl) r2 ⟨g, offD c k, none⟩ ((n - k)) ((c - k)) (valsOf (L.drop k)) (by rfl) (by rw [valsOf_len, ht2]) (unhid HC2 _ hS) (valsOf_one _) (by unfold maxLen; omega) (by omega) hS.size ?_
          intro v3 W6 r3 hg1 hat1
          obtain ⟨a3, c3, rfl⟩ := ownsRow_slice r3
          have hS1 := hS.grown hg1 hS.size (fun g eg => (r2.lt g eg).1)
          refine hK.out _ _ hS1 (fun _ => ?_)
          clear hK K hS r2 hg1 hat1
          have hS := hS1
          clear hS1
          refine wpAnyH_take (i := 15) (v := .slice a3 (k + 1 + (n - k)) c3) rfl (by kernel_rfl) (by kernel_rfl) (by kernel_rfl) (fun _ _ _ h => h) (Or.inl ⟨by rfl, fun w' hw => by go_simp⟩) hS ?_
          refine wpAnyH_done (by kernel_rfl) ?_ _
          have HF := hid (show W6.ownsRow w.heap.size 90 4 (.slice a3 (k + 1 + (n - k)) c3) (joinTo es (fs.take (j + 1))).length (valsOf (joinTo es (fs.take (j + 1)))) ∧ Below w.heap.size w W6 from ⟨by rw [(unhid HSN).1, (unhid HSN).2]; exact ownsRow_base r3 (by omega), (unhid HB2).trans (hS.mono (by omega))⟩)
          obtain ⟨g3, cc3, hv3⟩ := ownsRow_some (unhid HF).1 (by rw [(unhid HSN).1]; omega)
          have HV3 := hid hv3
          clear r3 hS hv3
          go_wp2_with fail
          go_roundw
          case rel => exact ⟨j + 1, by omega, by go_num, ⟨g3, cc3, unhid HV3⟩, hid (unhid HF).1, HOK, hid (unhid HF).2⟩
          case measure => simp [intOf]; omega
      · obtain ⟨old, hold, hop⟩ := there_get hth
        have hfo := entFn_get hold
        have hkl : placeE L e.path < L.length := (List.getElem?_eq_some_iff.1 hold).1
        obtain ⟨k0, k1, k2, k3⟩ := (unhid HG3) _ old hold
        simp only [Nat.zero_add] at k0 k1 k2 k3
        obtain ⟨m0, m1, m2, m3⟩ := unhid HE3
        have hse := same_eq (unhid HXE).1 ((unhid HXE).2 old (List.mem_of_getElem? hold)) hop
        cases hk1 : (old.kind == 1)
        · have hno : okJ es fs = false := (unhid HSN0).2.2 (by rw [(unhid HSN0).2.1]; unfold stepJ; rw [hth, hfo, hse, hk1]; simp)
          have E := hid (show (okJ es fs && treeB (joinTo es fs)) = false ∧ joinL es fs = [] by unfold joinL; rw [hno]; exact ⟨rfl, rfl⟩)
          have hkb : (old.kind != 1) = true := by rw [bne, hk1]; rfl
          clear hold hfo hse hop hno hk1
          go_wp2_with fail
          go_quiet (fail)
          have HF := hid (And.intro (owns_empty (w3.drewN nq) w.heap.size hwl 90) (((unhid HB2).trans (drewN_below w3 nq)).alloc (w := w3.drewN nq) hwl (.cells #[] 90)))
          generalize w3.drewN nq = w4 at HF ⊢
          go_wp2_with fail
          go_ret2
          exact ⟨_, by rw [(unhid E).1]; rfl, by rw [(unhid E).2]; exact (unhid HF).1, (unhid HF).2⟩
        · have hne := fun w => ne_ents e old w
          unfold Ent.vals at hne
          have hkb : (old.kind != 1) = false := by rw [bne, hk1]; rfl
          cases hev : eqV e old
          · have hno : okJ es fs = false := (unhid HSN0).2.2 (by rw [(unhid HSN0).2.1]; unfold stepJ; rw [hth, hfo, hse, hev]; simp)
            have E := hid (show (okJ es fs && treeB (joinTo es fs)) = false ∧ joinL es fs = [] by unfold joinL; rw [hno]; exact ⟨rfl, rfl⟩)
            rw [hev] at hne
            clear hold hfo hse hop hno hk1
            go_wp2_with fail
            go_quiet (fail)
            have HF := hid (And.intro (owns_empty (w3.drewN nq) w.heap.size hwl 90) (((unhid HB2).trans (drewN_below w3 nq)).alloc (w := w3.drewN nq) hwl (.cells #[] 90)))
            generalize w3.drewN nq = w4 at HF ⊢
            go_wp2_with fail
            go_ret2
            exact ⟨_, by rw [(unhid E).1]; rfl, by rw [(unhid E).2]; exact (unhid HF).1, (unhid HF).2⟩
          · have heo := eqV_eq hev
            have HSN := hid (show joinTo es (fs.take (j + 1)) = L by rw [(unhid HSN0).1]; exact put_same hth (by rw [hfo, heo]))
            have HOK := hid (show okJ es (fs.take (j + 1)) = true by rw [(unhid HSN0).2.1, unhid HA]; unfold stepJ; rw [hfo, hse, hk1, hev]; simp)
            rw [hev] at hne
            clear hold hfo hse hop hk1 heo
            go_wp2_with fail
            go_quiet (fail)
            have hBq : Below w3.heap.size w3 (w3.drewN nq) := drewN_below _ _
            have HF := hid (And.intro (ownsRow_kept (unhid HO3) (fun g eg => hBq.block g ((unhid HO3).lt g eg).2)) ((unhid HB2).trans (drewN_below w3 nq)))
            generalize w3.drewN nq = w4 at HF ⊢
            go_wp2_with fail
            go_roundw
            case rel => exact ⟨j + 1, by omega, by go_num, ⟨g, c, by rw [unhid HSN]⟩, hid (by rw [unhid HSN]; exact (unhid HF).1), HOK, hid (unhid HF).2⟩
            case measure => simp [intOf]; omega
    · have e : j = fs.length := by omega
      subst e
      rw [List.take_of_length_le (Nat.le_refl _)] at HO HA ⊢
      obtain ⟨a1, cap1, ev, hRI⟩ := rowIn_of_owns (unhid HO)
      have hsm : smallE (joinTo es fs) := small_all (by have := joinTo_len es fs; omega) (fun x hx => by
        rcases joinTo_mem es _ x hx with h | h
        · exact hae x h
        · exact haf x h)
      injection ev with ev1 ev2 ev3
      subst ev1
      have TOK := hid (specTreeOk_any (joinTo es fs) (some ⟨g, 0, none⟩) c wr hsm hRI.at)
      have E := hid (show (okJ es fs && treeB (joinTo es fs)) = treeB (joinTo es fs) ∧ joinL es fs = joinTo es fs by unfold joinL; rw [unhid HA]; exact ⟨rfl, rfl⟩)
      clear hRI hsm ev2 ev3
      go_wp2_with fail
      refine (unhid TOK).mono ?_
      rintro x w9 ⟨rfl, hB9⟩
      have HF := hid (And.intro (ownsRow_kept (unhid HO) (fun g eg => hB9.block g ((unhid HO).lt g eg).2)) ((unhid HB).trans (hB9.mono (unhid HB).size)))
      clear hB9 TOK
      go_wp2_with fail
      go_ret2
      exact ⟨_, by rw [(unhid E).1]; rfl, by rw [(unhid E).2]; exact (unhid HF).1, (unhid HF).2⟩
end Go.Proofs.YtlnpjiabdebmgaaGreat
