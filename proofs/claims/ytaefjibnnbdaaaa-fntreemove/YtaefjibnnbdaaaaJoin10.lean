/- Texts of this proof, one behind the other; each says at its head what it shows. -/
import Derived.Test.YtaefjibnnbdaaaaJoin9
/- What was moved is a tree, and moved back it is as it was. -/
namespace Go.Proofs.Ytaefjibnnbdaaaa
open Go.RowKit Go.Shelf

theorem putAll_iff : ∀ xs : List Ent, (xs.map (·.path)).Nodup → (∀ x, x ∈ putAll xs ↔ x ∈ xs) ∧ (putAll xs).length = xs.length := snoc_ind (fun _ => ⟨fun _ => Iff.rfl, rfl⟩) (fun xs x ih h => by
  rw [List.map_append, List.nodup_append] at h
  obtain ⟨i1, i2⟩ := ih h.1
  have hu := putAll_up xs
  have hne : ∀ y ∈ xs, y.path ≠ x.path := fun y hy => h.2.2 y.path (List.mem_map.2 ⟨y, hy, rfl⟩) x.path (by simp)
  rw [putAll_snoc]
  refine ⟨fun y => ?_, ?_⟩
  · rw [putT_iff hu, i1, List.mem_append, List.mem_singleton]
    constructor
    · rintro (h | ⟨h, _⟩)
      · exact .inr h
      · exact .inl h
    · rintro (h | h)
      · exact .inr ⟨h, hne y h⟩
      · exact .inl h
  · have ht : thereE (putAll xs) x.path = false := by
      cases ht : thereE (putAll xs) x.path
      · rfl
      · obtain ⟨y, hy, hp⟩ := (there_iff hu _).1 ht
        exact absurd hp (hne y ((i1 y).1 hy))
    unfold putT
    rw [ht]
    simp only [Bool.false_eq_true, if_false]
    rw [insAt_len, i2]; simp)
theorem lastIx_app (b : UInt8) (c : List UInt8) (hc : 0 ≤ lastIx b c) : ∀ a : List UInt8, lastIx b (a ++ c) = a.length + lastIx b c
  | [] => by simp
  | x :: a => by
    have ih := lastIx_app b c hc a
    rw [List.cons_append]
    rw [show lastIx b (x :: (a ++ c)) = if 0 ≤ lastIx b (a ++ c) then lastIx b (a ++ c) + 1 else if x == b then 0 else -1 from rfl, ih, if_pos (by omega)]
    simp; omega
theorem lastIx_slash (t : List UInt8) : 0 ≤ lastIx 47 (47 :: t) := by
  unfold lastIx
  split
  · omega
  · simp
theorem take_slash (a t : List UInt8) : (a ++ 47 :: t).take (lastIx 47 (a ++ 47 :: t)).toNat = a ++ (47 :: t).take (lastIx 47 (47 :: t)).toNat := by
  have h := lastIx_slash t
  rw [lastIx_app 47 (47 :: t) h a]
  have : ((a.length : Int) + lastIx 47 (47 :: t)).toNat = a.length + (lastIx 47 (47 :: t)).toNat := by omega
  rw [this, List.take_length_add_append]
theorem upS_list {s : ByteArray} (hi : 0 ≤ lastIx 47 s.data.toList) : (upS s).data.toList = s.data.toList.take (lastIx 47 s.data.toList).toNat := by
  unfold upS
  rw [if_neg (by omega), Lib.extract_data]
  simp
theorem upS_moved {p q s : ByteArray} {t : List UInt8} (hs : s.data.toList = p.data.toList ++ 47 :: t) : upS (movedP p q s) = movedP p q (upS s) ∧ (upS s).data.toList = p.data.toList ++ (47 :: t).take (lastIx 47 (47 :: t)).toNat := by
  have h1 : (movedP p q s).data.toList = q.data.toList ++ 47 :: t := by rw [movedP_list, hs, List.drop_left]
  have i0 := lastIx_slash t
  have i1 : 0 ≤ lastIx 47 s.data.toList := by rw [hs, lastIx_app 47 _ i0]; omega
  have i2 : 0 ≤ lastIx 47 (movedP p q s).data.toList := by rw [h1, lastIx_app 47 _ i0]; omega
  have e1 : (upS s).data.toList = p.data.toList ++ (47 :: t).take (lastIx 47 (47 :: t)).toNat := by rw [upS_list i1, hs, take_slash]
  refine ⟨?_, e1⟩
  apply bytes_ext
  rw [upS_list i2, h1, take_slash, movedP_list, e1, List.drop_left]
theorem below_trans {a b c : List UInt8} (h : belowB a b = true) (g : belowB b c = true) : belowB a c = true := by
  rcases belowB_cases h with rfl | ⟨t, rfl⟩
  · exact g
  · rcases belowB_cases g with rfl | ⟨u, rfl⟩
    · exact belowB_app _ _
    · rw [List.append_assoc]
      exact belowB_app _ _
theorem mv_back {p q s : ByteArray} (h : belowB p.data.toList s.data.toList = true) : movedP q p (movedP p q s) = s := by
  apply bytes_ext
  rw [movedP_list, movedP_list, List.drop_left]
  exact (below_drop h).1.symm
theorem below_there {es : List Ent} {q : ByteArray} (h : treeB es = true) (hq : pathB q.data.toList = true) (hno : thereE es q = false) : ∀ e ∈ es, belowB q.data.toList e.path.data.toList = false := fun e he => by
  cases hb : belowB q.data.toList e.path.data.toList
  · rfl
  · rw [in_there h _ e he (Nat.le_refl _) (inB_mk hq (ent_pathB (tree_all h e he)) hb)] at hno; cases hno

structure MoveF (es : List Ent) (p q : ByteArray) (X : List Ent) : Prop where
  mem : ∀ x, x ∈ X ↔ ∃ e ∈ es, x = mvS p q e
  tree : treeB X = true
  len : X.length = es.length
  gone : thereE X p = false
  back : moveOk q p X = true
  same : moveR q p X = es
theorem move_facts {es : List Ent} {p q : ByteArray} (h : treeB es = true) (hm : moveOk p q es = true) : MoveF es p q (moveR p q es) ∧ pathB p.data.toList = true ∧ pathB q.data.toList = true ∧ ∀ e ∈ es, pathB (mvS p q e).path.data.toList = true := by
  obtain ⟨e1, e2⟩ := move_spec (p := p) (q := q) h
  rw [e1] at hm
  rw [hm, if_pos rfl] at e2
  rw [Bool.and_eq_true] at hm
  obtain ⟨hmay, hall⟩ := hm
  unfold mayS at hmay
  simp only [Bool.and_eq_true, Bool.not_eq_true'] at hmay
  obtain ⟨tp, nq, hq, nbelow, dq⟩ := hmay
  have hu := tree_up h
  obtain ⟨x0, hx0, hx0p⟩ := (there_iff hu p).1 tp
  have hp : pathB p.data.toList = true := by rw [← hx0p]; exact ent_pathB (tree_all h x0 hx0)
  have hpb : ∀ e ∈ es, pathB (mvS p q e).path.data.toList = true := fun e he => List.all_eq_true.1 hall e he
  have hnd := moved_nodup (p := p) h hq nq
  obtain ⟨m1, m2⟩ := putAll_iff _ hnd
  have hX : moveR p q es = putAll (es.map (mvS p q)) := by rw [e2, sort_put _ hnd]
  have hmem : ∀ x, x ∈ moveR p q es ↔ ∃ e ∈ es, x = mvS p q e := fun x => by
    rw [hX, m1, List.mem_map]
    constructor
    · rintro ⟨e, he, rfl⟩; exact ⟨e, he, rfl⟩
    · rintro ⟨e, he, rfl⟩; exact ⟨e, he, rfl⟩
  have hlen : (moveR p q es).length = es.length := by rw [hX, m2]; simp
  have huX : Up (moveR p q es) := by rw [hX]; exact putAll_up _
  have nbq : ∀ e ∈ es, belowB q.data.toList e.path.data.toList = false := below_there h hq nq
  have stay : ∀ d ∈ es, belowB p.data.toList d.path.data.toList = false → d ∈ moveR p q es := fun d hd hb => (hmem d).2 ⟨d, hd, by unfold mvS; rw [hb]; rfl⟩
  have went : ∀ d ∈ es, belowB p.data.toList d.path.data.toList = true → { d with path := movedP p q d.path } ∈ moveR p q es := fun d hd hb => (hmem _).2 ⟨d, hd, by unfold mvS; rw [hb]; rfl⟩
  obtain ⟨g1, _, g3, g4⟩ := (tree_iff es).1 h
  have hT : treeB (moveR p q es) = true := by
    refine (tree_iff _).2 ⟨fun x hx => ?_, huX, fun x hx => ?_, by rw [hlen]; exact g4⟩
    · obtain ⟨e, he, rfl⟩ := (hmem x).1 hx
      have h1 := g1 e he
      have h2 := hpb e he
      unfold mvS at h2 ⊢
      split
      · rename_i hb
        rw [if_pos hb] at h2
        unfold entB at h1 ⊢
        rw [Bool.and_eq_true] at h1 ⊢
        exact ⟨h2, h1.2⟩
      · exact h1
    · obtain ⟨e, he, rfl⟩ := (hmem x).1 hx
      have hpe := ent_pathB (g1 e he)
      unfold mvS
      cases hb : belowB p.data.toList e.path.data.toList
      · simp only [Bool.false_eq_true, if_false]
        rcases g3 e he with h0 | ⟨d, hd, hdp, hk⟩
        · exact .inl h0
        · by_cases hem : (upS e.path).toList.isEmpty = true
          · exact .inl hem
          · refine .inr ⟨d, stay d hd ?_, hdp, hk⟩
            cases hbd : belowB p.data.toList d.path.data.toList
            · rfl
            · have := (inB_parts (up_in hpe (by simpa using hem))).2.2
              rw [← hdp] at this
              rw [below_trans hbd this] at hb
              cases hb
      · simp only [if_true]
        rcases belowB_cases hb with heq | ⟨t, ht⟩
        · have hep : e.path = p := bytes_ext heq
          have hmq : movedP p q e.path = q := by
            rw [hep]
            apply bytes_ext
            rw [movedP_list]; simp
          show DirIn (moveR p q es) (upS (movedP p q e.path))
          rw [hmq]
          rcases (dir_iff hu _).1 dq with h0 | ⟨d, hd, hdp, hk⟩
          · exact .inl h0
          · by_cases hem : (upS q).toList.isEmpty = true
            · exact .inl hem
            · refine .inr ⟨d, stay d hd ?_, hdp, hk⟩
              cases hbd : belowB p.data.toList d.path.data.toList
              · rfl
              · have := (inB_parts (up_in hq (by simpa using hem))).2.2
                rw [← hdp] at this
                rw [below_trans hbd this] at nbelow
                cases nbelow
        · obtain ⟨um, ul⟩ := upS_moved (q := q) ht
          show DirIn (moveR p q es) (upS (movedP p q e.path))
          rw [um]
          rcases g3 e he with h0 | ⟨d, hd, hdp, hk⟩
          · exfalso
            rw [Lib.toList_data, ul] at h0
            have := pathB_ne _ hp
            simp at h0
            exact this (by simpa using h0.1)
          · have hbd : belowB p.data.toList d.path.data.toList = true := by
              rw [hdp, ul]
              have i0 := lastIx_slash t
              cases hz : (lastIx 47 (47 :: t)).toNat with
              | zero => simp [belowB_refl]
              | succ n => rw [List.take_succ_cons]; exact belowB_app _ _
            exact .inr ⟨_, went d hd hbd, by show movedP p q d.path = _; rw [hdp], hk⟩
  have hgone : thereE (moveR p q es) p = false := by
    cases ht : thereE (moveR p q es) p
    · rfl
    · exfalso
      obtain ⟨x, hx, hxp⟩ := (there_iff huX p).1 ht
      obtain ⟨e, he, rfl⟩ := (hmem x).1 hx
      unfold mvS at hxp
      cases hb : belowB p.data.toList e.path.data.toList
      · rw [hb] at hxp
        simp only [Bool.false_eq_true, if_false] at hxp
        rw [hxp, belowB_refl] at hb; cases hb
      · rw [hb] at hxp
        simp only [if_true] at hxp
        have h1 := movedP_below (q := q) hb
        rw [hxp] at h1
        rw [← hx0p, nbq x0 hx0] at h1
        cases h1
  have hqX : thereE (moveR p q es) q = true := by
    refine (there_iff huX q).2 ⟨_, went x0 hx0 (by rw [hx0p]; exact belowB_refl _), ?_⟩
    show movedP p q x0.path = q
    rw [hx0p]
    apply bytes_ext
    rw [movedP_list]; simp
  have nqp : belowB q.data.toList p.data.toList = false := by rw [← hx0p]; exact nbq x0 hx0
  have hdp : dirE (moveR p q es) (upS p) = true := by
    refine (dir_iff huX _).2 ?_
    have hx := g3 x0 hx0
    rw [hx0p] at hx
    rcases hx with h0 | ⟨d, hd, hdd, hk⟩
    · exact .inl h0
    · by_cases hem : (upS p).toList.isEmpty = true
      · exact .inl hem
      · refine .inr ⟨d, stay d hd ?_, hdd, hk⟩
        refine belowB_long ?_
        rw [hdd]
        have hin := inB_parts (up_in hp (by simpa using hem))
        have hi : 0 ≤ lastIx 47 p.data.toList := by
          refine Int.not_lt.1 (fun hlt => hem ?_)
          unfold upS; rw [if_pos hlt]; decide +kernel
        have hg := (List.getElem?_eq_some_iff.1 (lastIx_get 47 p.data.toList hi)).1
        rw [upS_list hi, List.length_take]; omega
  have hback : ∀ e ∈ es, mvS q p (mvS p q e) = e := fun e he => by
    unfold mvS
    cases hb : belowB p.data.toList e.path.data.toList
    · simp only [Bool.false_eq_true, if_false]
      rw [nbq e he]; rfl
    · simp only [if_true]
      rw [movedP_below (q := q) hb, if_pos rfl, mv_back hb]
  have hmay2 : mayS (moveR p q es) q p = true := by
    unfold mayS
    rw [hqX, hgone, hp, nqp, hdp]; rfl
  have hall2 : mvAllS q p (moveR p q es) = true := by
    unfold mvAllS
    rw [List.all_eq_true]
    intro x hx
    obtain ⟨e, he, rfl⟩ := (hmem x).1 hx
    rw [hback e he]
    exact ent_pathB (g1 e he)
  obtain ⟨b1, b2⟩ := move_spec (p := q) (q := p) hT
  rw [hmay2, hall2, Bool.and_self] at b1 b2
  rw [if_pos rfl] at b2
  have hnd2 := moved_nodup (p := q) hT hp hgone
  obtain ⟨n1, _⟩ := putAll_iff _ hnd2
  refine ⟨⟨hmem, hT, hlen, hgone, b1, ?_⟩, hp, hq, hpb⟩
  rw [b2, sort_put _ hnd2]
  refine up_ext (putAll_up _) hu (fun x => ?_)
  rw [n1, List.mem_map]
  constructor
  · rintro ⟨y, hy, rfl⟩
    obtain ⟨e, he, rfl⟩ := (hmem y).1 hy
    rw [hback e he]; exact he
  · intro hx
    exact ⟨mvS p q x, (hmem _).2 ⟨x, hx, rfl⟩, hback x hx⟩
end Go.Proofs.Ytaefjibnnbdaaaa
