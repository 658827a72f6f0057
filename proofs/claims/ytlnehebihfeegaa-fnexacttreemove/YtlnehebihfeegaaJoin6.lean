/- Texts of this proof, one behind the other; each says at its head what it shows. -/
import Derived.Test.YtlnehebihfeegaaJoin5
/- What is in a place of a tree is there only if the place is. -/
namespace Go.Proofs.Ytlnehebihfeegaa
open Go.RowKit Go.Shelf

theorem there_mem {es : List Ent} {x : Ent} (h : Up es) (hx : x ∈ es) : thereE es x.path = true ∧ entFn es (placeE es x.path) = x := by
  obtain ⟨i, hi⟩ := List.getElem?_of_mem hx
  obtain ⟨hil, he⟩ := List.getElem?_eq_some_iff.1 hi
  have hp : placeE es x.path = i := place_of es x.path i (Nat.le_of_lt hil) (fun j y hj hy => by
      obtain ⟨hjl, hyj⟩ := List.getElem?_eq_some_iff.1 hy
      have := List.pairwise_iff_getElem.1 h j i hjl hil hj
      rw [hyj, he] at this; exact this) (fun y hy => by rw [hi] at hy; cases hy; exact lt_irr _)
  refine ⟨?_, ?_⟩
  · unfold thereE; rw [hp, hi]; exact (eqS_iff _ _).2 rfl
  · rw [hp]; exact entFn_get hi
theorem tree_dir {es : List Ent} {x : Ent} (h : treeB es = true) (hx : x ∈ es) : dirE es (upS x.path) = true := by
  unfold treeB at h
  simp only [Bool.and_eq_true] at h
  obtain ⟨i, hi⟩ := List.getElem?_of_mem hx
  have := List.all_eq_true.1 h.1.2 i (List.mem_range.2 (List.getElem?_eq_some_iff.1 hi).1)
  rwa [entFn_get hi] at this
theorem ent_pathB {e : Ent} (h : entB e = true) : pathB e.path.data.toList = true := by
  unfold entB at h; simp only [Bool.and_eq_true] at h; exact h.1
theorem in_there {es : List Ent} {p : ByteArray} (h : treeB es = true) : ∀ (n : Nat) (e : Ent), e ∈ es → e.path.size ≤ n → inB p.data.toList e.path.data.toList = true → thereE es p = true
  | n, e, he, hn, hin => by
    by_cases hs : e.path.data.toList = p.data.toList
    · have : e.path = p := by
        apply ByteArray.ext; exact Array.ext' hs
      subst this
      exact (there_mem (asc_up (tree_asc h)) he).1
    · obtain ⟨h1, h2, _⟩ := in_up hin hs
      have hpb := ent_pathB (tree_all h e he)
      have hup : (upS e.path).data.toList = e.path.data.toList.take (lastIx 47 e.path.data.toList).toNat := by
        rw [← ent_path (tree_all h e he)]; exact up_some hpb h1
      have hd := tree_dir h he
      have hne : (upS e.path).toList.isEmpty = false := by
        rw [Lib.toList_data, hup]
        have := pathB_ne _ (inB_parts h2).2.1
        simpa using this
      unfold dirE at hd
      rw [hne, Bool.false_or, Bool.and_eq_true] at hd
      obtain ⟨x, hx, hxp⟩ := there_get hd.1
      have hlt : (upS e.path).size < e.path.size := by
        have hll := lastIx_get 47 e.path.data.toList h1
        have hl2 := (List.getElem?_eq_some_iff.1 hll).1
        rw [Lib.size_eq, Lib.size_eq, hup, List.length_take]; omega
      match n with
      | 0 => omega
      | n + 1 => exact in_there h n x (List.mem_of_getElem? hx) (by rw [hxp]; omega) (by rw [hxp, hup]; exact h2)
theorem left_none {es : List Ent} {p : ByteArray} (h : treeB es = true) (ht : thereE es p = false) : leftE p es = es := by
  unfold leftE
  rw [List.filter_eq_self]
  intro e he
  cases hi : inB p.data.toList e.path.data.toList
  · rfl
  · rw [in_there h _ e he (Nat.le_refl _) hi] at ht; cases ht
theorem left_drop {es : List Ent} {p : ByteArray} (h : treeB es = true) (ht : thereE es p = true) : leftE p es = dropB p es := by
  obtain ⟨x, hx, hxp⟩ := there_get ht
  have hp : pathB p.data.toList = true := by rw [← hxp]; exact ent_pathB (tree_ent h hx)
  unfold leftE dropB
  apply List.filter_congr
  intro e he
  unfold inB
  rw [hp, ent_pathB (tree_all h e he)]
  rfl

def dropR (p : ByteArray) (es : List Ent) : List Ent := leftE p (keptE es)
def dropOk (p : ByteArray) (es : List Ent) : Bool := treeB es && thereE es p

set_option maxRecDepth 100000 in
set_option maxHeartbeats 2000000 in
theorem specTreeDrop_any (es : List Ent) (p : ByteArray) (b o cap : Nat) (w : World) (hs : smallE es) (hp : p.size ≤ 1048576) (h : ∀ (i : Nat) e, es[i]? = some e → EntAt w b (o + i * 4) e) (hb : b < w.heap.size) :
    Calls Try.prog 34 #[.slice (some ⟨b, o, none⟩) es.length cap, .string p] w fun x w' => ∃ v, x = .returned (.tuple #[v, .bool (dropOk p es)]) ∧ w'.ownsRow w.heap.size 27 4 v (dropR p es).length (valsOf (dropR p es)) ∧ Below w.heap.size w w' := by
  have hat1 : EntsAt w (some ⟨b, o, none⟩) es := .inr ⟨b, o, rfl, hb, h⟩
  have OK := hid (specTreeOk_any es (some ⟨b, o, none⟩) cap w hs hat1)
  have H1 := hid h
  have HS := hid hs
  clear hat1 h hs
  go_enter Try.func34, Try.ntmps34
  go_wp2_with fail
  refine (unhid OK).mono ?_
  rintro x w2 ⟨rfl, hB2⟩
  have H2 := hid (show Below w.heap.size w w2 ∧ ∀ (i : Nat) e, es[i]? = some e → EntAt w2 b (o + i * 4) e from ⟨hB2, entAt_below (unhid H1) (.inr hb) hB2⟩)
  have hb2 : b < w2.heap.size := Nat.lt_of_lt_of_le hb hB2.size
  clear hB2 H1 OK
  cases htb : treeB es
  · have E := hid (show dropR p es = [] ∧ dropOk p es = false by unfold dropR dropOk; rw [htb, keptE_no htb]; exact ⟨rfl, rfl⟩)
    have HF := hid (And.intro (owns_empty w2 w.heap.size (unhid H2).1.size 27) ((unhid H2).1.alloc (unhid H2).1.size (.cells #[] 27)))
    go_wp2_with fail
    go_ret2
    exact ⟨_, by rw [(unhid E).2]; rfl, by rw [(unhid E).1]; exact (unhid HF).1, (unhid HF).2⟩
  · have hl16 := tree_16 htb
    go_wp2_with fail
    refine (l2At_any es _ _ p w2 (unhid HS).1 (.inr ⟨b, o, rfl, hb2, (unhid H2).2⟩)).mono ?_
    rintro x w3 ⟨rfl, n3, e3⟩
    have hB3 : Below w2.heap.size w2 w3 := by rw [e3]; exact drewN_below _ _
    have H3 := hid (show Below w.heap.size w w3 ∧ ∀ (i : Nat) e, es[i]? = some e → EntAt w3 b (o + i * 4) e from ⟨(unhid H2).1.trans (hB3.mono (unhid H2).1.size), entAt_below (unhid H2).2 (.inr hb2) hB3⟩)
    have hb3 : b < w3.heap.size := Nat.lt_of_lt_of_le hb2 hB3.size
    clear hB3 e3 H2 hb2 n3
    cases hth : thereE es p
    · have E := hid (show dropR p es = es ∧ dropOk p es = false by unfold dropR dropOk; rw [htb, keptE_yes htb, hth]; exact ⟨left_none htb hth, rfl⟩)
      go_wp2_with fail
      refine (l2Copy_any es b o cap w3 (by omega) (unhid H3).2 (.inr hb3)).mono ?_
      rintro x w4 ⟨v, rfl, hown, hB4⟩
      obtain ⟨va, vc, rfl⟩ := ownsRow_slice hown
      have HF := hid (And.intro (ownsRow_base hown (unhid H3).1.size) ((unhid H3).1.trans (hB4.mono (unhid H3).1.size)))
      clear hown hB4
      go_wp2_with fail
      go_ret2
      exact ⟨_, by rw [(unhid E).2]; rfl, by rw [(unhid E).1]; exact (unhid HF).1, (unhid HF).2⟩
    · have E := hid (show dropR p es = dropB p es ∧ dropOk p es = true by unfold dropR dropOk; rw [htb, keptE_yes htb, hth]; exact ⟨left_drop htb hth, rfl⟩)
      go_wp2_with fail
      refine (l2Drop_any es p b o cap w3 (unhid HS) hp (unhid H3).2 hb3).mono ?_
      rintro x w4 ⟨v, rfl, hown, hB4⟩
      obtain ⟨va, vc, rfl⟩ := ownsRow_slice hown
      have HF := hid (And.intro (ownsRow_base hown (unhid H3).1.size) ((unhid H3).1.trans (hB4.mono (unhid H3).1.size)))
      clear hown hB4
      go_wp2_with fail
      go_ret2
      exact ⟨_, by rw [(unhid E).2]; rfl, by rw [(unhid E).1]; exact (unhid HF).1, (unhid HF).2⟩
end Go.Proofs.Ytlnehebihfeegaa

/- Whether a place of a tree may be moved, by the program. -/
namespace Go.Proofs.Ytlnehebihfeegaa
open Go.RowKit Go.Shelf

def mayB (es : List Ent) (p q : ByteArray) : Bool := thereE es p && (!thereE es q && (pathB q.data.toList && (!inB p.data.toList q.data.toList && dirE es (pathUpS q))))

set_option maxRecDepth 100000 in
set_option maxHeartbeats 4000000 in
theorem mayMove_any (N bt : Nat) (es : List Ent) (p q : ByteArray) (w : World) (hp : p.size ≤ 1048576) (hq : q.size ≤ 1048576) (hn : es.length ≤ 900) (ha : Asc (pathsOf es)) (h : TreeAt w N bt es) :
    Calls Try.prog 52 #[.pointer (some ⟨bt, 0, .none⟩), .string p, .string q] w fun x w' => x = .returned (.bool (mayB es p q)) ∧ Below w.heap.size w w' := by
  have G1 := hid (mapGet_any N bt es p w (by omega) ha h)
  have G2 := hid (mapGet_any N bt es q w (by omega) ha h)
  have HA := hid ha
  have H := hid h
  clear ha h
  obtain ⟨gp, hgp⟩ : ∃ gp, getV es p = gp := ⟨_, rfl⟩
  obtain ⟨gq, hgq⟩ : ∃ gq, getV es q = gq := ⟨_, rfl⟩
  rw [hgp] at G1
  rw [hgq] at G2
  clear hgp hgq
  cases h1 : thereE es p
  · go_enter Try.func52, Try.ntmps52
    go_wp2_with fail
    refine (unhid G1).mono ?_
    rintro x w1 ⟨rfl, e1⟩
    subst e1
    rw [h1]
    go_wp2_with fail
    refine (unhid G2).mono ?_
    rintro x w2 ⟨rfl, e2⟩
    subst e2
    go_wp2_with fail
    go_ret
    exact ⟨by simp [mayB, h1], Below.refl _ _⟩

  · cases h2 : thereE es q
    · cases h3 : pathB q.data.toList
      · go_enter Try.func52, Try.ntmps52
        go_wp2_with fail
        refine (unhid G1).mono ?_
        rintro x w1 ⟨rfl, e1⟩
        subst e1
        rw [h1]
        go_wp2_with fail
        refine (unhid G2).mono ?_
        rintro x w2 ⟨rfl, e2⟩
        subst e2
        rw [h2]
        go_wp2_with fail
        refine (PathOk_any q (by unfold maxLen; omega) _).mono ?_
        rintro x w3 ⟨rfl, hb⟩
        rw [h3]
        have HT3 := hid ((unhid H).below hb)
        have HB3 := hid hb
        clear hb
        go_wp2_with fail
        go_ret
        exact ⟨by simp [mayB, h1, h2, h3], unhid HB3⟩

      · cases h4 : inB p.data.toList q.data.toList
        · go_enter Try.func52, Try.ntmps52
          go_wp2_with fail
          refine (unhid G1).mono ?_
          rintro x w1 ⟨rfl, e1⟩
          subst e1
          rw [h1]
          go_wp2_with fail
          refine (unhid G2).mono ?_
          rintro x w2 ⟨rfl, e2⟩
          subst e2
          rw [h2]
          go_wp2_with fail
          refine (PathOk_any q (by unfold maxLen; omega) _).mono ?_
          rintro x w3 ⟨rfl, hb⟩
          rw [h3]
          have HT3 := hid ((unhid H).below hb)
          have HB3 := hid hb
          clear hb
          go_wp2_with fail
          refine (PathIn_any p q (by unfold maxLen; omega) (by unfold maxLen; omega) _).mono ?_
          rintro x w4 ⟨rfl, hb⟩
          rw [h4]
          have HT4 := hid ((unhid HT3).below hb)
          have HB4 := hid ((unhid HB3).trans (hb.mono (unhid HB3).size))
          clear hb HT3 HB3
          go_wp2_with fail
          refine (hasPlace_any N bt es q _ (by unfold maxLen; omega) (by omega) (unhid HA) (unhid HT4)).mono ?_
          rintro x w5 ⟨rfl, hb⟩
          have HB5 := hid ((unhid HB4).trans (hb.mono (unhid HB4).size))
          clear hb HT4 HB4
          go_wp2_with fail
          go_ret
          exact ⟨by simp [mayB, h1, h2, h3, h4], unhid HB5⟩

        · go_enter Try.func52, Try.ntmps52
          go_wp2_with fail
          refine (unhid G1).mono ?_
          rintro x w1 ⟨rfl, e1⟩
          subst e1
          rw [h1]
          go_wp2_with fail
          refine (unhid G2).mono ?_
          rintro x w2 ⟨rfl, e2⟩
          subst e2
          rw [h2]
          go_wp2_with fail
          refine (PathOk_any q (by unfold maxLen; omega) _).mono ?_
          rintro x w3 ⟨rfl, hb⟩
          rw [h3]
          have HT3 := hid ((unhid H).below hb)
          have HB3 := hid hb
          clear hb
          go_wp2_with fail
          refine (PathIn_any p q (by unfold maxLen; omega) (by unfold maxLen; omega) _).mono ?_
          rintro x w4 ⟨rfl, hb⟩
          rw [h4]
          have HT4 := hid ((unhid HT3).below hb)
          have HB4 := hid ((unhid HB3).trans (hb.mono (unhid HB3).size))
          clear hb HT3 HB3
          go_wp2_with fail
          go_ret
          exact ⟨by simp [mayB, h1, h2, h3, h4], unhid HB4⟩

    · go_enter Try.func52, Try.ntmps52
      go_wp2_with fail
      refine (unhid G1).mono ?_
      rintro x w1 ⟨rfl, e1⟩
      subst e1
      rw [h1]
      go_wp2_with fail
      refine (unhid G2).mono ?_
      rintro x w2 ⟨rfl, e2⟩
      subst e2
      rw [h2]
      go_wp2_with fail
      go_ret
      exact ⟨by simp [mayB, h1, h2], Below.refl _ _⟩

end Go.Proofs.Ytlnehebihfeegaa

/- What is moved in a tree, by the program. -/
namespace Go.Proofs.Ytlnehebihfeegaa
open Go.RowKit Go.Shelf

attribute [local go_sem] Oper.semAt_some

def placeM (p q : ByteArray) (e : Ent) : ByteArray := if inB p.data.toList e.path.data.toList then moveS e.path p q else e.path
def mvE (p q : ByteArray) (e : Ent) : Ent := { e with path := placeM p q e }
def moveAll (p q : ByteArray) (es : List Ent) : Bool := es.all fun e => !(placeM p q e).toList.isEmpty
def moveOk (p q : ByteArray) (es : List Ent) : Bool := mayB (keptE es) p q && moveAll p q (keptE es)
def moveR (p q : ByteArray) (es : List Ent) : List Ent := if moveOk p q es then putAll ((keptE es).map (mvE p q)) else keptE es
theorem mv_nodeV (p q : ByteArray) (e : Ent) : nodeV (mvE p q e) = nodeV e := rfl
theorem empty_of {s : ByteArray} (h : s.toList.isEmpty = true) : s = ⟨#[]⟩ := by
  rw [Lib.toList_data] at h
  apply ByteArray.ext
  exact Array.ext' (by simpa using h)
theorem move_pathB {s f t : ByteArray} (h : (moveS s f t).toList.isEmpty = false) : pathB (moveS s f t).data.toList = true := by
  unfold moveS at h ⊢
  split at h
  · rename_i hc
    rw [if_pos hc]
    simp only [Bool.and_eq_true] at hc
    exact hc.2
  · simp [Lib.toList_data] at h
theorem mv_ok {p q : ByteArray} {e : Ent} (he : entB e = true) (hm : (placeM p q e).toList.isEmpty = false) : entB (mvE p q e) = true := by
  have hp : pathB (placeM p q e).data.toList = true := by
    unfold placeM at hm ⊢
    cases hi : inB p.data.toList e.path.data.toList
    · exact ent_pathB he
    · rw [hi] at hm; exact move_pathB hm
  unfold entB at he ⊢
  simp only [Bool.and_eq_true] at he ⊢
  exact ⟨hp, he.2⟩
/-- The boxes of a move: from, to, what is answered. -/
def BxM (W : World) (N : Nat) (p q : ByteArray) : Prop := W.heap[N]? = some (.cells #[.string p] 9 (0, 0)) ∧ W.heap[N + 1]? = some (.cells #[.string q] 9 (0, 0)) ∧ W.heap[N + 1 + 1]? = some (.cells #[.slice none 0 0] 23 (0, 0)) ∧ W.heap[N + 1 + 1 + 1]? = some (.cells #[.bool false] 4 (0, 0))
theorem BxM.keep {W W' : World} {N : Nat} {p q : ByteArray} (h : BxM W N p q) (hk : ∀ k, k < N + 4 → W'.heap[k]? = W.heap[k]?) : BxM W' N p q :=
  ⟨(hk _ (by omega)).trans h.1, (hk _ (by omega)).trans h.2.1, (hk _ (by omega)).trans h.2.2.1, (hk _ (by omega)).trans h.2.2.2⟩
theorem BxM.grown {W W' : World} {row : Option Nat} {N : Nat} {p q : ByteArray} (h : BxM W N p q) (hg : W.grownBy W' row) (hr : ∀ r, row = some r → ∃ o : Obj, W.heap[r]? = some o ∧ o.isCells = false) : BxM W' N p q :=
  ⟨cells_grown hg hr h.1, cells_grown hg hr h.2.1, cells_grown hg hr h.2.2.1, cells_grown hg hr h.2.2.2⟩

set_option maxRecDepth 100000 in
set_option maxHeartbeats 8000000 in
theorem treeMove_any (es : List Ent) (a : Option Addr) (cap : Nat) (p q : ByteArray) (w : World) (hs : smallE es) (hp : p.size ≤ 1048576) (hq : q.size ≤ 1048576) (h : EntsAt w a es) :
    Calls Try.prog 18 #[.slice a es.length cap, .string p, .string q] w fun x w' => ∃ v, x = .returned (.tuple #[v, .bool (moveOk p q es)]) ∧ w'.ownsRow w.heap.size 27 4 v (moveR p q es).length (valsOf (moveR p q es)) ∧ Below w.heap.size w w' := by
  obtain ⟨wA, hwA⟩ : ∃ wA, wA = (((w.alloc (.cells #[.string p] 9)).alloc (.cells #[.string q] 9)).alloc (.cells #[.slice none 0 0] 23)).alloc (.cells #[.bool false] 4) := ⟨_, rfl⟩
  have hsz : wA.heap.size = w.heap.size + 4 := by rw [hwA]; simp
  have hBA : Below w.heap.size w wA := by rw [hwA]; exact ((((Below.refl _ w).alloc (Nat.le_refl _) _).alloc (by simp) _).alloc (by simp; omega) _).alloc (by simp; omega) _
  have hbox : BxM wA w.heap.size p q := by
    rw [hwA]
    refine ⟨?_, ?_, ?_, ?_⟩
    · exact (Below.heap_alloc _ _ _ (by simp; omega)).trans ((Below.heap_alloc _ _ _ (by simp; omega)).trans ((Below.heap_alloc _ _ _ (by simp)).trans (World.alloc_heap_new w _)))
    · have := World.alloc_heap_new (w.alloc (.cells #[.string p] 9)) (.cells #[.string q] 9)
      rw [World.size_alloc] at this
      exact (Below.heap_alloc _ _ _ (by simp)).trans ((Below.heap_alloc _ _ _ (by simp)).trans this)
    · have := World.alloc_heap_new ((w.alloc (.cells #[.string p] 9)).alloc (.cells #[.string q] 9)) (.cells #[.slice none 0 0] 23)
      rw [World.size_alloc, World.size_alloc] at this
      exact (Below.heap_alloc _ _ _ (by simp)).trans this
    · have := World.alloc_heap_new (((w.alloc (.cells #[.string p] 9)).alloc (.cells #[.string q] 9)).alloc (.cells #[.slice none 0 0] 23)) (.cells #[.bool false] 4)
      rw [World.size_alloc, World.size_alloc, World.size_alloc] at this
      exact this
  have H := hid (treeOf_any es a cap wA hs (h.below hBA))
  have HA := hid (And.intro hsz (And.intro hBA hbox))
  have HWA := hid hwA
  clear hs h hwA hsz hBA hbox
  refine (callsIn_wide (n := 3)).1 ?_
  refine callsIn_of_wp_marks Try.func18 rfl trivial ?_ rfl
  simp only [Try.ntmps18, List.size_toArray, List.length_cons, List.length_nil, Nat.reduceAdd, Nat.reduceSub, Array.replicate_succ, Array.replicate_zero, List.push_toArray, List.append_toArray, List.nil_append, List.cons_append]
  gi_wp2
  rw [← unhid HWA]
  refine ⟨trivial, (callsIn_wide.2 (unhid H)).mono ?_⟩
  rintro x w1 ⟨vp, vn, rfl, ⟨t2, t3⟩, hB⟩
  obtain ⟨ap, cp, rfl⟩ := ownsRow_slice t2
  obtain ⟨an, cn, rfl⟩ := ownsRow_slice t3
  obtain ⟨hsz, hBA, hbox⟩ := unhid HA
  obtain ⟨wt, hwt⟩ : ∃ wt, wt = w1.alloc (.cells #[.slice ap (keptE es).length cp, .slice an (keptE es).length cn] 59) := ⟨_, rfl⟩
  have hB1 : Below w.heap.size w w1 := hBA.trans (hB.mono (by omega))
  have hBt : Below w1.heap.size w1 wt := by rw [hwt]; exact (Below.refl _ w1).alloc (Nat.le_refl _) _
  have hBT : Below w.heap.size w wt := hB1.trans (hBt.mono hB1.size)
  have hT : TreeAt wt wA.heap.size w1.heap.size (keptE es) := ⟨_, _, by rw [hwt]; exact World.alloc_heap_new _ _, ownsRow_kept t2 (fun g e => hBt.block g (t2.lt g e).2), ownsRow_kept t3 (fun g e => hBt.block g (t3.lt g e).2)⟩
  have hw1 : wA.heap.size ≤ w1.heap.size := hB.size
  have hbt : BxM wt w.heap.size p q := hbox.keep (fun k hk => (hBt.block _ (by omega)).trans (hB.block _ (by omega)))
  have hkl := (kept_asc es).2
  have hka := (kept_asc es).1
  have hkb : ∀ e ∈ keptE es, entB e = true := fun x hx => by
    cases htb : treeB es
    · rw [keptE_no htb] at hx; simp at hx
    · rw [keptE_yes htb] at hx; exact tree_all htb x hx
  have MAY := hid (mayMove_any _ _ (keptE es) p q wt hp hq (by omega) hka hT)
  have d0 := (cell_of_box_l hbt.1).1
  have d1 := (cell_of_box_l hbt.2.1).1
  rw [hwt] at d0 d1
  have HT := hid (And.intro hBT (And.intro hbt hT))
  have HWT := hid hwt
  have HEQ := hid (show moveOk p q es = (mayB (keptE es) p q && moveAll p q (keptE es)) ∧ moveR p q es = if (mayB (keptE es) p q && moveAll p q (keptE es)) then putAll ((keptE es).map (mvE p q)) else keptE es from ⟨rfl, rfl⟩)
  clear hT hBT hBt hB1 hB t2 t3 hbox hBA HA HWA H hbt hwt
  gi_wp2
  rw [← unhid HWT]
  refine ⟨trivial, (callsIn_wide.2 (unhid MAY)).mono ?_⟩
  rintro x w2 ⟨rfl, hb⟩
  have hlt : w.heap.size + 4 ≤ wt.heap.size := by have := (unhid HT).2.2.lt; omega
  have HT2 := hid (show Below w.heap.size w w2 ∧ BxM w2 w.heap.size p q ∧ TreeAt w2 wA.heap.size w1.heap.size (keptE es) from ⟨(unhid HT).1.trans (hb.mono (by omega)), (unhid HT).2.1.keep (fun k hk => hb.block _ (by omega)), (unhid HT).2.2.below hb⟩)
  have hlt2 : w.heap.size + 4 ≤ w2.heap.size := Nat.le_trans hlt hb.size
  generalize hks : keptE es = ks at *
  clear hb HT HWT MAY d0 d1 hks hlt
  cases hmay : mayB ks p q
  · have E := hid (show moveOk p q es = false ∧ moveR p q es = ks by rw [(unhid HEQ).1, (unhid HEQ).2, hmay]; exact ⟨rfl, rfl⟩)
    gi_wp2
    refine ⟨trivial, (callsIn_wide.2 (entries_any wA.heap.size w1.heap.size ks w2 (by omega) hkb (unhid HT2).2.2)).mono ?_⟩
    rintro x w3 ⟨v, rfl, hown, hb⟩
    obtain ⟨va, vc, rfl⟩ := ownsRow_slice hown
    obtain ⟨hBw, hbx, hT⟩ := unhid HT2
    have hbx3 := hbx.keep (fun k hk => hb.block k (by omega))
    have hB3 := hBw.trans (hb.mono (by omega))
    obtain ⟨k2, f2⟩ := cell_of_box_l hbx3.2.2.1
    obtain ⟨k3, f3⟩ := cell_of_box_l hbx3.2.2.2
    have HF := hid (And.intro hown (And.intro hB3 hbx3))
    clear hown hb hBw hbx hT hbx3 hB3 HT2
    gi_wp2
    obtain ⟨hown, hB3, -⟩ := unhid HF
    refine ⟨.tuple #[.slice va ks.length vc, .bool false], ?_, _, by rw [(unhid E).1], by rw [(unhid E).2]; exact ownsRow_base (ownsRow_setCell_below (ownsRow_setCell_below hown (a := ⟨w.heap.size + 1 + 1, 0, none⟩) (show w.heap.size + 1 + 1 < w2.heap.size by omega) _) (a := ⟨w.heap.size + 1 + 1 + 1, 0, none⟩) (show w.heap.size + 1 + 1 + 1 < w2.heap.size by omega) _) (by omega), (hB3.setCell (p := ⟨w.heap.size + 1 + 1, 0, none⟩) (show w.heap.size ≤ w.heap.size + 1 + 1 by omega) _).setCell (p := ⟨w.heap.size + 1 + 1 + 1, 0, none⟩) (show w.heap.size ≤ w.heap.size + 1 + 1 + 1 by omega) _⟩
    simp [results, Try.f18, go_sem, World.cell?_setCell_same', k2, k3]
  · have E := hid (show moveOk p q es = moveAll p q ks ∧ moveR p q es = (if moveAll p q ks then putAll (ks.map (mvE p q)) else ks) by rw [(unhid HEQ).1, (unhid HEQ).2, hmay]; exact ⟨rfl, rfl⟩)
    obtain ⟨w3, hw3⟩ : ∃ w3, w3 = w2.alloc (.cells #[.slice none 0 0, .slice none 0 0] 59) := ⟨_, rfl⟩
    obtain ⟨w4, hw4⟩ : ∃ w4, w4 = w3.alloc (.cells #[.pointer (some ⟨w1.heap.size, 0, none⟩)] 99) := ⟨_, rfl⟩
    have hz3 : w3.heap.size = w2.heap.size + 1 := by rw [hw3]; simp
    have hz4 : w4.heap.size = w2.heap.size + 1 + 1 := by rw [hw4]; simp [hz3]
    have hB3 : Below w2.heap.size w2 w3 := by rw [hw3]; exact (Below.refl _ w2).alloc (Nat.le_refl _) _
    have hB34 : Below w3.heap.size w3 w4 := by rw [hw4]; exact (Below.refl _ w3).alloc (Nat.le_refl _) _
    have hB4 : Below w2.heap.size w2 w4 := hB3.trans (hB34.mono hB3.size)
    obtain ⟨hBT, hbx, vp, vn, t1, t2, t3⟩ := unhid HT2
    have hbl : w1.heap.size < w2.heap.size := (Array.getElem?_eq_some_iff.1 t1).1
    have hBw : Below w.heap.size w w4 := hBT.trans (hB4.mono (by omega))
    have hbx4 : BxM w4 w.heap.size p q := hbx.keep (fun k hk => hB4.block k (by omega))
    have hTI : TreeIn (w2.heap.size + 1) w1.heap.size wA.heap.size vp vn ks w4 :=
      ⟨by have := (cell_new_l w3 (.pointer (some ⟨w1.heap.size, 0, none⟩)) 99).1; rw [hz3] at this; rw [hw4]; exact this,
       (hB4.block _ hbl).trans t1, ownsRow_kept t2 (fun g e => hB4.block g (t2.lt g e).2), ownsRow_kept t3 (fun g e => hB4.block g (t3.lt g e).2)⟩
    have hLT : TreeAt w4 w2.heap.size w2.heap.size (putAll []) := ⟨.slice none 0 0, .slice none 0 0, (hB34.block _ (by omega)).trans (by rw [hw3]; exact World.alloc_heap_new _ _), World.ownsRow_nil _ _ _ _, World.ownsRow_nil _ _ _ _⟩
    have hbn4 : w4.heap[w2.heap.size + 1]? = some (.cells #[.pointer (some ⟨w1.heap.size, 0, none⟩)] 99 (0, 0)) := by have := World.alloc_heap_new w3 (.cells #[.pointer (some ⟨w1.heap.size, 0, none⟩)] 99); rw [hz3] at this; rw [hw4]; exact this
    have HAL := hid (all_in Fence.wide 2 trivial rfl w1.heap.size w3)
    rw [hz3, ← hw4] at HAL
    have HRW := hid (And.intro (fun g (eg : vp.ownBlock = some g) => (t2.lt g eg).2) (fun g (eg : vn.ownBlock = some g) => (t3.lt g eg).2))
    have HW3 := hid hw3
    clear hw4 t1 t2 t3 hB34 hB3 hbx hBT hw3
    gi_wp2
    rw [← unhid HW3]
    refine ⟨trivial, (unhid HAL).mono ?_⟩
    rintro x w5 ⟨rfl, e5⟩
    subst e5
    gi_wp2
    refine wpIn_rangeFunc_ownF rfl (by omega) (gf := 82) (lb := #[.pointer (some ⟨w2.heap.size + 1, 0, none⟩)]) rfl trivial (enters_of Try.func82 (by kernel_rfl) rfl)
      (all_stops Fence.wide _ trivial rfl (by omega) (w2.heap.size + 1) w1.heap.size wA.heap.size vp vn ks (by omega) (fun e => entB e = true) hkb _ hTI) (fun h g x => g (h x)) (fun W l o o' _ hl hc _ h => treeIn_grown h (grownBy_putObj' _ l o') (fun r e => by cases e; exact ⟨_, hl, hc⟩)) (Below.refl _ _) (fun _ => rfl)
      (fun pre W => (TreeAt W w2.heap.size w2.heap.size (putAll ((pre.map (·.1)).map (mvE p q))) ∧ TreeIn (w2.heap.size + 1) w1.heap.size wA.heap.size vp vn ks W ∧ BxM W w.heap.size p q ∧ W.heap[w2.heap.size + 1]? = some (.cells #[.pointer (some ⟨w1.heap.size, 0, none⟩)] 99 (0, 0)) ∧ Hid (∀ x ∈ pre.map (·.1), (placeM p q x).toList.isEmpty = false)) ∧ Below w.heap.size w W)
      (fun c pre W => (c = .ret ∧ (∃ x ∈ pre.map (·.1), (placeM p q x).toList.isEmpty = true) ∧ (∃ v, W.heap[w.heap.size + 1 + 1]? = some (.cells #[v] 23 (0, 0)) ∧ W.ownsRow w.heap.size 27 4 v ks.length (valsOf ks)) ∧ W.heap[w.heap.size + 1 + 1 + 1]? = some (.cells #[.bool false] 4 (0, 0))) ∧ Below w.heap.size w W)
      (OwnFrom.and (Own.from (fun s A B row hs hg hr => ⟨treeAt_grown hs.1 hg hr, treeIn_grown hs.2.1 hg hr, hs.2.2.1.grown hg hr, cells_grown hg hr hs.2.2.2.1, hs.2.2.2.2⟩) _) (ownFrom_below (Nat.le_refl _) (by omega)))
      (fun c => OwnFrom.and (Own.from (fun s A B row hs hg hr => ⟨hs.1, hs.2.1, by obtain ⟨v, h1, h2⟩ := hs.2.2.1; exact ⟨v, cells_grown hg hr h1, row_grown hg hr h2⟩, cells_grown hg hr hs.2.2.2⟩) _) (ownFrom_below (Nat.le_refl _) (by omega)))
      ⟨⟨hLT, hTI, hbx4, hbn4, hid (fun x hx => by simp at hx)⟩, hBw⟩
      (fun x => { tmps := #[.slice a es.length cap, .string p, .string q, undef, .pointer (some ⟨w.heap.size, 0, none⟩), .pointer (some ⟨w.heap.size + 1, 0, none⟩), .pointer (some ⟨w.heap.size + 1 + 1, 0, none⟩), .pointer (some ⟨w.heap.size + 1 + 1 + 1, 0, none⟩), .pointer (some ⟨w1.heap.size, 0, none⟩), .bool (treeB es), .pointer (some ⟨w2.heap.size, 0, none⟩), .string x.1.path, nodeV x.1, undef, .tuple #[.agg #[.slice ap ks.length cp, .slice an ks.length cn], .bool (treeB es)], .slice a es.length cap, .tuple #[.agg #[.slice ap ks.length cp, .slice an ks.length cn], .bool (treeB es)], .agg #[.slice ap ks.length cp, .slice an ks.length cn], .bool (treeB es), .string p, .string q, .bool true, .bool false, undef, .agg #[.slice none 0 0, .slice none 0 0], .pointer (some ⟨w1.heap.size, 0, none⟩), .func (.func 82) #[] #[.pointer (some ⟨w2.heap.size + 1, 0, none⟩)], .string x.1.path, nodeV x.1, undef, undef, undef, undef, undef, undef, undef, undef, undef, undef, undef, undef, undef, undef, undef, undef], defers := [] }) ?assign ?body ?done ?stop
    case assign =>
      intro l x W K hK
      gi_wp2
      exact hK
    case body =>
      rintro l pre ⟨e, hx⟩ W ⟨⟨hL, hTI2, hbW, hbn, hall⟩, hB⟩ hpl
      dsimp only
      have hpx : e.path.size ≤ maxLen := by have := ent_path_len hx; unfold maxLen; omega
      obtain ⟨d0, -⟩ := cell_of_box_l hbW.1
      obtain ⟨T0, nv, hnv⟩ := nodeV_shape e
      have hpre : (pre.map (·.1)).length = pre.length := List.length_map _
      have hwl : w.heap.size + 4 ≤ W.heap.size := by have := (Array.getElem?_eq_some_iff.1 hbW.2.2.2).1; omega
      gi_wp2
      refine ⟨trivial, (CallsIn.inRound l (callsIn_wide.2 (PathIn_any p e.path (by unfold maxLen; omega) hpx _))).mono ?_⟩
      rintro x W2 ⟨rfl, hb⟩
      have hO := KeepsOthers_of_below hb
      have hL2 := hL.below hb
      have hT2 := treeIn_below hTI2 hb
      have hbx2 := hbW.keep (fun k hk => hb.block k (by omega))
      have hbn2 := (hb.block _ (Array.getElem?_eq_some_iff.1 hbn).1).trans hbn
      have hB2 := hB.trans (hb.mono hB.size)
      have hwl2 := Nat.le_trans hwl hb.size
      clear hb d0 hL hTI2 hbW hbn hB
      cases hin : inB p.data.toList e.path.data.toList
      · have hpl2 : placeM p q e = e.path := by unfold placeM; rw [hin]; rfl
        have hem : e.path.toList.isEmpty = false := by rw [Lib.toList_data]; have := pathB_ne _ (ent_pathB hx); simpa using this
        have hmk : ((pre ++ [(⟨e, hx⟩ : { e : Ent // entB e = true })]).map (·.1)).map (mvE p q) = (pre.map (·.1)).map (mvE p q) ++ [mvE p q e] := by rw [List.map_append, List.map_append]; rfl
        have hlen : (putAll ((pre.map (·.1)).map (mvE p q))).length ≤ 900 := by
          have h1 := putAll_len ((pre.map (·.1)).map (mvE p q))
          rw [List.length_map, List.length_map] at h1
          omega
        have hput := mapPut_any w2.heap.size w2.heap.size (putAll ((pre.map (·.1)).map (mvE p q))) (mvE p q e) W2 hlen (up_asc (putAll_up _)) (Nat.le_refl _) hL2
        rw [← putAll_snoc, ← hmk, mv_nodeV, show (mvE p q e).path = e.path from hpl2] at hput
        rw [hnv] at hput
        try rw [hnv]
        have hne : ∀ x ∈ (pre ++ [(⟨e, hx⟩ : { e : Ent // entB e = true })]).map (·.1), (placeM p q x).toList.isEmpty = false := by
          intro x hxm
          rw [List.map_append, List.mem_append] at hxm
          rcases hxm with h | h
          · exact unhid hall x h
          · simp at h; subst h; rw [hpl2]; exact hem
        have HP := hid hput
        have HI := hid (And.intro hO (And.intro hT2 (And.intro hbx2 (And.intro hbn2 (And.intro hB2 hne)))))
        have HL0 := hid hL2
        clear hput hO hL2 hT2 hbx2 hB2 hmk hlen hbn2 hne hpl2
        gi_wp2
        refine ⟨trivial, (CallsIn.inRound l (callsIn_wide.2 (unhid HP))).mono ?_⟩
        rintro x W9 ⟨⟨v, rfl⟩, hT9, hB9, hO9⟩
        obtain ⟨hO, hT2, hbx2, hbn2, hB2, hne⟩ := unhid HI
        have hap2 : Apart (.cells #[.pointer (some ⟨w1.heap.size, 0, none⟩)] 99 (0, 0)) := apart_of (by decide)
        have HF := hid (show KeepsOthers W W9 ∧ (TreeIn (w2.heap.size + 1) w1.heap.size wA.heap.size vp vn ks W → TreeIn (w2.heap.size + 1) w1.heap.size wA.heap.size vp vn ks W9) ∧ (TreeAt W9 w2.heap.size w2.heap.size (putAll (((pre ++ [(⟨e, hx⟩ : { e : Ent // entB e = true })]).map (·.1)).map (mvE p q))) ∧ TreeIn (w2.heap.size + 1) w1.heap.size wA.heap.size vp vn ks W9 ∧ BxM W9 w.heap.size p q ∧ W9.heap[w2.heap.size + 1]? = some (.cells #[.pointer (some ⟨w1.heap.size, 0, none⟩)] 99 (0, 0)) ∧ Hid (∀ x ∈ (pre ++ [(⟨e, hx⟩ : { e : Ent // entB e = true })]).map (·.1), (placeM p q x).toList.isEmpty = false)) ∧ Below w.heap.size w W9 by
          have hTF : TreeIn (w2.heap.size + 1) w1.heap.size wA.heap.size vp vn ks W9 := treeIn_kept2 hT2 (fun k hk => hB9.block k hk) hbl (unhid HRW).1 (unhid HRW).2 (fun o ho hap => hO9 _ o (by omega) ho hap) ⟨_, _, _, hbn2, by decide⟩
          exact ⟨hO.trans ⟨hB9.size, fun k o hk hc => by
              by_cases hkb : k = w2.heap.size
              · subst hkb; obtain ⟨_, _, q1, _⟩ := (unhid HL0); rw [hk] at q1; cases q1; cases hc
              · exact hO9 k o hkb hk (fun cs t f e => by subst e; cases hc)⟩, fun _ => hTF, ⟨hT9, hTF, hbx2.keep (fun k hk => hB9.block k (by omega)), hO9 _ _ (by omega) hbn2 hap2, hid hne⟩, hB2.trans (hB9.mono (by omega))⟩)
        clear hT9 hB9 hO9 hO hT2 hbx2 hB2 hbn2 hap2 hne
        gi_wp2
        exact unhid HF
      · have hpl2 : placeM p q e = moveS e.path p q := by unfold placeM; rw [hin]; rfl
        obtain ⟨d0, -⟩ := cell_of_box_l hbx2.1
        obtain ⟨d1, -⟩ := cell_of_box_l hbx2.2.1
        have HI0 := hid (And.intro hO (And.intro hL2 (And.intro hT2 (And.intro hbx2 (And.intro hbn2 hB2)))))
        clear hO hL2 hT2 hbx2 hbn2 hB2
        gi_wp2
        refine ⟨trivial, (CallsIn.inRound l (callsIn_wide.2 (PathMove_any e.path p q hpx (by unfold maxLen; omega) (by unfold maxLen; omega) _))).mono ?_⟩
        rintro x W3 ⟨rfl, hb⟩
        obtain ⟨hO0, hL0, hT0, hbx0, hbn0, hB0⟩ := unhid HI0
        have hO := hO0.trans (KeepsOthers_of_below hb)
        have hL2 := hL0.below hb
        have hT2 := treeIn_below hT0 hb
        have hbx2 := hbx0.keep (fun k hk => hb.block k (by omega))
        have hbn2 := (hb.block _ (Array.getElem?_eq_some_iff.1 hbn0).1).trans hbn0
        have hB2 := hB0.trans (hb.mono hB0.size)
        have hwl3 := Nat.le_trans hwl2 hb.size
        clear hb d0 d1 hO0 hL0 hT0 hbx0 hbn0 hB0 HI0
        cases hem : (moveS e.path p q).toList.isEmpty
        · skip
          have hmk : ((pre ++ [(⟨e, hx⟩ : { e : Ent // entB e = true })]).map (·.1)).map (mvE p q) = (pre.map (·.1)).map (mvE p q) ++ [mvE p q e] := by rw [List.map_append, List.map_append]; rfl
          have hlen : (putAll ((pre.map (·.1)).map (mvE p q))).length ≤ 900 := by
            have h1 := putAll_len ((pre.map (·.1)).map (mvE p q))
            rw [List.length_map, List.length_map] at h1
            omega
          have hput := mapPut_any w2.heap.size w2.heap.size (putAll ((pre.map (·.1)).map (mvE p q))) (mvE p q e) W3 hlen (up_asc (putAll_up _)) (Nat.le_refl _) hL2
          rw [← putAll_snoc, ← hmk, mv_nodeV, show (mvE p q e).path = moveS e.path p q from hpl2] at hput
          rw [hnv] at hput
          try rw [hnv]
          have hne : ∀ x ∈ (pre ++ [(⟨e, hx⟩ : { e : Ent // entB e = true })]).map (·.1), (placeM p q x).toList.isEmpty = false := by
            intro x hxm
            rw [List.map_append, List.mem_append] at hxm
            rcases hxm with h | h
            · exact unhid hall x h
            · simp at h; subst h; rw [hpl2]; exact hem
          have HP := hid hput
          have HI := hid (And.intro hO (And.intro hT2 (And.intro hbx2 (And.intro hbn2 (And.intro hB2 hne)))))
          have HL0 := hid hL2
          clear hput hO hL2 hT2 hbx2 hB2 hmk hlen hbn2 hne hpl2
          gi_wp2
          refine ⟨trivial, (CallsIn.inRound l (callsIn_wide.2 (unhid HP))).mono ?_⟩
          rintro x W9 ⟨⟨v, rfl⟩, hT9, hB9, hO9⟩
          obtain ⟨hO, hT2, hbx2, hbn2, hB2, hne⟩ := unhid HI
          have hap2 : Apart (.cells #[.pointer (some ⟨w1.heap.size, 0, none⟩)] 99 (0, 0)) := apart_of (by decide)
          have HF := hid (show KeepsOthers W W9 ∧ (TreeIn (w2.heap.size + 1) w1.heap.size wA.heap.size vp vn ks W → TreeIn (w2.heap.size + 1) w1.heap.size wA.heap.size vp vn ks W9) ∧ (TreeAt W9 w2.heap.size w2.heap.size (putAll (((pre ++ [(⟨e, hx⟩ : { e : Ent // entB e = true })]).map (·.1)).map (mvE p q))) ∧ TreeIn (w2.heap.size + 1) w1.heap.size wA.heap.size vp vn ks W9 ∧ BxM W9 w.heap.size p q ∧ W9.heap[w2.heap.size + 1]? = some (.cells #[.pointer (some ⟨w1.heap.size, 0, none⟩)] 99 (0, 0)) ∧ Hid (∀ x ∈ (pre ++ [(⟨e, hx⟩ : { e : Ent // entB e = true })]).map (·.1), (placeM p q x).toList.isEmpty = false)) ∧ Below w.heap.size w W9 by
            have hTF : TreeIn (w2.heap.size + 1) w1.heap.size wA.heap.size vp vn ks W9 := treeIn_kept2 hT2 (fun k hk => hB9.block k hk) hbl (unhid HRW).1 (unhid HRW).2 (fun o ho hap => hO9 _ o (by omega) ho hap) ⟨_, _, _, hbn2, by decide⟩
            exact ⟨hO.trans ⟨hB9.size, fun k o hk hc => by
                by_cases hkb : k = w2.heap.size
                · subst hkb; obtain ⟨_, _, q1, _⟩ := (unhid HL0); rw [hk] at q1; cases q1; cases hc
                · exact hO9 k o hkb hk (fun cs t f e => by subst e; cases hc)⟩, fun _ => hTF, ⟨hT9, hTF, hbx2.keep (fun k hk => hB9.block k (by omega)), hO9 _ _ (by omega) hbn2 hap2, hid hne⟩, hB2.trans (hB9.mono (by omega))⟩)
          clear hT9 hB9 hO9 hO hT2 hbx2 hB2 hbn2 hap2 hne
          gi_wp2
          exact unhid HF
        · have hbad : ∃ x ∈ (pre ++ [(⟨e, hx⟩ : { e : Ent // entB e = true })]).map (·.1), (placeM p q x).toList.isEmpty = true := ⟨e, by simp, by rw [hpl2]; exact hem⟩
          have hTm : TreeAt W3 wA.heap.size w1.heap.size ks := ⟨vp, vn, hT2.2.1, hT2.2.2⟩
          have ENT := hid (entries_any wA.heap.size w1.heap.size ks W3 (by omega) hkb hTm)
          have HI := hid (And.intro hO (And.intro hbx2 (And.intro hB2 hbad)))
          clear hO hL2 hT2 hbx2 hbn2 hB2 hbad hTm hpl2
          gi_wp2
          refine ⟨trivial, (CallsIn.inRound l (callsIn_wide.2 (unhid ENT))).mono ?_⟩
          rintro x W9 ⟨v, rfl, hown, hb⟩
          obtain ⟨va, vc, rfl⟩ := ownsRow_slice hown
          obtain ⟨hO, hbx2, hB2, hbad⟩ := unhid HI
          have hbx9 := hbx2.keep (fun k hk => hb.block k (by omega))
          have hB9 := hB2.trans (hb.mono hB2.size)
          have hO9 := hO.trans (KeepsOthers_of_below hb)
          obtain ⟨k2, f2⟩ := cell_of_box_l hbx9.2.2.1
          obtain ⟨k3, f3⟩ := cell_of_box_l hbx9.2.2.2
          have HF := hid (And.intro hown (And.intro hbx9 (And.intro hB9 (And.intro hO9 hbad))))
          clear hown hb hO hbx2 hB2 hbad hbx9 hB9 hO9 HI
          gi_wp2
          obtain ⟨hown, hbx9, hB9, hO9, hbad⟩ := unhid HF
          have hne23 : w.heap.size + 1 + 1 ≠ w.heap.size + 1 + 1 + 1 := by omega
          exact ⟨hO9.trans ((KeepsOthers.setCell _ _ _).trans (KeepsOthers.setCell _ _ _)), ⟨rfl, hbad, ⟨.slice va ks.length vc, (Below.heap_setCell _ _ _ _ hne23).trans (by rw [heap_setCell_same _ _ 0 _ _ _ hbx9.2.2.1]; rfl), ownsRow_base (ownsRow_setCell_below (ownsRow_setCell_below hown (a := ⟨w.heap.size + 1 + 1, 0, none⟩) (show w.heap.size + 1 + 1 < W3.heap.size by omega) _) (a := ⟨w.heap.size + 1 + 1 + 1, 0, none⟩) (show w.heap.size + 1 + 1 + 1 < W3.heap.size by omega) _) (by omega)⟩,
            by rw [heap_setCell_same _ _ 0 _ _ _ ((Below.heap_setCell _ _ _ _ hne23.symm).trans hbx9.2.2.2)]; rfl⟩, (hB9.setCell (p := ⟨w.heap.size + 1 + 1, 0, none⟩) (show w.heap.size ≤ w.heap.size + 1 + 1 by omega) _).setCell (p := ⟨w.heap.size + 1 + 1 + 1, 0, none⟩) (show w.heap.size ≤ w.heap.size + 1 + 1 + 1 by omega) _⟩
    case stop =>
      rintro D c pre W hD hpr ⟨⟨rfl, hbad, ⟨v, hv1, hv2⟩, hb7⟩, hB⟩ hK
      have hno : moveAll p q ks = false := by
        obtain ⟨x, hxm, hxe⟩ := hbad
        exact List.all_eq_false.2 ⟨x, hpr.subset hxm, by rw [hxe]; simp⟩
      have hg := grownBy_putObj' W D (.deferred none)
      have hr : ∀ r, some D = some r → ∃ o : Obj, W.heap[r]? = some o ∧ o.isCells = false := fun r e => by cases e; exact ⟨_, hK, rfl⟩
      have s2 := (cell_of_box_l (cells_grown hg hr hv1)).1
      have s3 := (cell_of_box_l (cells_grown hg hr hb7)).1
      have HF := hid (And.intro (row_grown hg hr hv2) (And.intro (hB.trans (belowK_b (w := w) (Nat.le_refl _) _ D (.deferred (some [])) (.deferred none) (by omega) hK rfl rfl)) (And.intro hno hK)))
      clear hno hg hr hv1 hv2 hb7 hB hbad hK
      gi_wp2
      refine ⟨by simp, .inl ⟨_, _, rfl, run_takeDeferred (unhid HF).2.2.2, ?_⟩⟩
      obtain ⟨hown, hB, hno, -⟩ := unhid HF
      refine ⟨.tuple #[v, .bool false], ?_, _, by rw [(unhid E).1, hno], by rw [(unhid E).2, hno]; exact hown, hB⟩
      simp [results, Try.f18, go_sem, s2, s3]
    case done =>
      rintro D ys W hD hys ⟨⟨hL, hTI2, hbW, hbn, hall⟩, hB⟩ hK
      rw [hys] at hL hall
      have hyes : moveAll p q ks = true := List.all_eq_true.2 (fun x hx => by rw [unhid hall x hx]; rfl)
      have hlen : (putAll (ks.map (mvE p q))).length ≤ 1000 := by have := putAll_len (ks.map (mvE p q)); rw [List.length_map] at this; omega
      have hen : ∀ e ∈ putAll (ks.map (mvE p q)), entB e = true := fun e he => by
        obtain ⟨x, hx, rfl⟩ := List.mem_map.1 (putAll_mem _ _ he)
        exact mv_ok (hkb x hx) (unhid hall x hx)
      have ENT := hid (entries_any w2.heap.size w2.heap.size (putAll (ks.map (mvE p q))) W hlen hen hL)
      have HI := hid (And.intro hB (And.intro hK (And.intro hbW hyes)))
      have hDl := (Array.getElem?_eq_some_iff.1 hK).1
      have hwl : w.heap.size + 4 ≤ W.heap.size := by have := (Array.getElem?_eq_some_iff.1 hbW.2.2.2).1; omega
      clear hL hTI2 hbW hbn hB hK hlen hen hall hyes
      gi_wp2
      refine ⟨trivial, (callsIn_wide.2 (unhid ENT)).mono ?_⟩
      rintro x W3 ⟨v, rfl, hown, hb3⟩
      obtain ⟨va, vc, rfl⟩ := ownsRow_slice hown
      obtain ⟨hB, hK, hbW, hyes⟩ := unhid HI
      have hbx3 := hbW.keep (fun k hk => hb3.block k (by omega))
      obtain ⟨k2, f2⟩ := cell_of_box_l hbx3.2.2.1
      obtain ⟨k3, f3⟩ := cell_of_box_l hbx3.2.2.2
      have HF := hid (And.intro hown (And.intro (hB.trans (hb3.mono hB.size)) (And.intro ((hb3.block _ hDl).trans hK) (And.intro hbx3 hyes))))
      have hw3 := hb3.size
      clear hown hb3 hB hK hbW hyes hbx3 HI
      gi_wp2
      obtain ⟨hown, hB, hK, hbx3, hyes⟩ := unhid HF
      have hne23 : w.heap.size + 1 + 1 ≠ w.heap.size + 1 + 1 + 1 := by omega
      obtain ⟨WF, hWF⟩ : ∃ WF, WF = ((W3.setCell ⟨w.heap.size + 1 + 1, 0, none⟩ (.slice va (putAll (ks.map (mvE p q))).length vc)).setCell ⟨w.heap.size + 1 + 1 + 1, 0, none⟩ (.bool true)) := ⟨_, rfl⟩
      have hKF : WF.heap[D]? = some (.deferred (some [])) := by rw [hWF]; exact (Below.heap_setCell _ _ _ _ (show D ≠ w.heap.size + 1 + 1 + 1 by omega)).trans ((Below.heap_setCell _ _ _ _ (show D ≠ w.heap.size + 1 + 1 by omega)).trans hK)
      have hv1 : WF.heap[w.heap.size + 1 + 1]? = some (.cells #[.slice va (putAll (ks.map (mvE p q))).length vc] 23 (0, 0)) := by rw [hWF]; exact (Below.heap_setCell _ _ _ _ hne23).trans (by rw [heap_setCell_same _ _ 0 _ _ _ hbx3.2.2.1]; rfl)
      have hb7 : WF.heap[w.heap.size + 1 + 1 + 1]? = some (.cells #[.bool true] 4 (0, 0)) := by rw [hWF, heap_setCell_same _ _ 0 _ _ _ ((Below.heap_setCell _ _ _ _ hne23.symm).trans hbx3.2.2.2)]; rfl
      have hownF : WF.ownsRow W.heap.size 27 4 (.slice va (putAll (ks.map (mvE p q))).length vc) (putAll (ks.map (mvE p q))).length (valsOf (putAll (ks.map (mvE p q)))) := by rw [hWF]; exact ownsRow_setCell_below (ownsRow_setCell_below hown (a := ⟨w.heap.size + 1 + 1, 0, none⟩) (show w.heap.size + 1 + 1 < W.heap.size by omega) _) (a := ⟨w.heap.size + 1 + 1 + 1, 0, none⟩) (show w.heap.size + 1 + 1 + 1 < W.heap.size by omega) _
      have hBF : Below w.heap.size w WF := by rw [hWF]; exact (hB.setCell (p := ⟨w.heap.size + 1 + 1, 0, none⟩) (show w.heap.size ≤ w.heap.size + 1 + 1 by omega) _).setCell (p := ⟨w.heap.size + 1 + 1 + 1, 0, none⟩) (show w.heap.size ≤ w.heap.size + 1 + 1 + 1 by omega) _
      rw [← hWF]
      refine ⟨by simp, .inl ⟨_, _, rfl, run_takeDeferred hKF, ?_⟩⟩
      have hg := grownBy_putObj' WF D (.deferred none)
      have hr : ∀ r, some D = some r → ∃ o : Obj, WF.heap[r]? = some o ∧ o.isCells = false := fun r e => by cases e; exact ⟨_, hKF, rfl⟩
      have s2 := (cell_of_box_l (cells_grown hg hr hv1)).1
      have s3 := (cell_of_box_l (cells_grown hg hr hb7)).1
      refine ⟨.tuple #[.slice va (putAll (ks.map (mvE p q))).length vc, .bool true], ?_, _, by rw [(unhid E).1, hyes], by rw [(unhid E).2, hyes]; exact ownsRow_base (row_grown hg hr hownF) (by omega), hBF.trans (belowK_b (w := w) (Nat.le_refl _) _ D (.deferred (some [])) (.deferred none) (by omega) hKF rfl rfl)⟩
      simp [results, Try.f18, go_sem, s2, s3]
end Go.Proofs.Ytlnehebihfeegaa

/- Entries put by path, by the model. -/
namespace Go.Proofs.Ytlnehebihfeegaa
open Go.RowKit Go.Shelf

theorem ownsRow_some {W : World} {N n size : Nat} {v : Value} {e : TypeId} {xs : List Value} (h : W.ownsRow N e size v n xs) (hn : 0 < n) : ∃ g cap, v = .slice (some ⟨g, 0, none⟩) n cap := by
  rcases h.2 with ⟨rfl, h0⟩ | ⟨g, cap, cur, rfl, _⟩
  · omega
  · exact ⟨g, cap, rfl⟩
def sortL (xs : List Ent) : List Ent := xs.foldl insAt []
theorem sortL_snoc (xs : List Ent) (x : Ent) : sortL (xs ++ [x]) = insAt (sortL xs) x := by unfold sortL; rw [List.foldl_append]; rfl
theorem insAt_len (es : List Ent) (e : Ent) : (insAt es e).length = es.length + 1 := by unfold insAt; have := placeE_le es e.path; simp; omega
theorem sortL_len : ∀ xs, (sortL xs).length = xs.length := snoc_ind rfl (fun xs x ih => by rw [sortL_snoc, insAt_len, ih]; simp)

set_option maxRecDepth 100000 in
set_option maxHeartbeats 8000000 in
theorem l2Sorted_any (xs : List Ent) (b o cap : Nat) (w : World) (hn : xs.length ≤ 900) (h : ∀ (i : Nat) e, xs[i]? = some e → EntAt w b (o + i * 4) e) (hb : b < w.heap.size) :
    Calls Try.prog 88 #[.slice (some ⟨b, o, none⟩) xs.length cap] w fun x w' => ∃ v, x = .returned v ∧ w'.ownsRow w.heap.size 27 4 v (sortL xs).length (valsOf (sortL xs)) ∧ Below w.heap.size w w' := by
  obtain ⟨i0, hi0, hz0, hzs, hzb⟩ := info_parts infoEntry
  have HI := hid (And.intro hi0 (And.intro hz0 (And.intro hzs hzb)))
  have HH := hid h
  have HF0 := hid (And.intro (owns_empty w w.heap.size (Nat.le_refl _) 27) ((Below.refl w.heap.size w).alloc (Nat.le_refl _) (.cells #[] 27)))
  clear hi0 hz0 hzs hzb h
  go_enter Try.func88, Try.ntmps88
  go_wp2_with fail
  go_loopw [3, 4] (fun v i wr => ∃ j : Nat, j ≤ xs.length ∧ i = .int .i64 (j : Int) ∧ (∃ g c, v = .slice (some ⟨g, 0, none⟩) (sortL (xs.take j)).length c) ∧ Hid (wr.ownsRow w.heap.size 27 4 v (sortL (xs.take j)).length (valsOf (sortL (xs.take j)))) ∧ Hid (Below w.heap.size w wr)) (fun _ i _ => xs.length - (intOf i).toNat)
  case atStart => exact ⟨0, Nat.zero_le _, rfl, ⟨_, 0, rfl⟩, hid (by simp [sortL, valsOf]; exact (unhid HF0).1), hid (unhid HF0).2⟩
  case round =>
    obtain ⟨j, hj, rfl, ⟨g, c, rfl⟩, HO, HB⟩ := hrel
    by_cases hlt : j < xs.length
    · obtain ⟨e, he⟩ : ∃ e, xs[j]? = some e := ⟨xs[j], List.getElem?_eq_getElem hlt⟩
      have hsn : sortL (xs.take (j + 1)) = insAt (sortL (xs.take j)) e := by rw [List.take_add_one, he]; exact sortL_snoc _ _
      have hll := sortL_len (xs.take j)
      rw [List.length_take, Nat.min_eq_left (by omega)] at hll
      have hl9 : (sortL (xs.take j)).length ≤ 900 := by omega
      clear hll
      obtain ⟨c0, c1, c2, c3⟩ := ((unhid HH) j e he).below (unhid HB) hb
      have HE := hid ((unhid HH) j e he)
      obtain ⟨a1, cap1, ev, hRI⟩ := rowIn_of_owns (unhid HO)
      injection ev with ev1 ev2 ev3
      subst ev1
      have HAT := hid hRI.at
      have hcl : (sortL (xs.take j)).length ≤ c := by
        rcases (unhid HO).2 with ⟨hv, h0⟩ | ⟨g', cap', cur', hv, _, _, hcc, _⟩
        · cases hv
        · cases hv; exact hcc
      have hgl : g < wr.heap.size := by
        rcases (unhid HO).2 with ⟨hv, h0⟩ | ⟨g', cap', cur', hv, _, hh, _⟩
        · cases hv
        · cases hv; exact (Array.getElem?_eq_some_iff.1 hh).1
      have HGE := hid (show ∀ (i : Nat) x, (sortL (xs.take j))[i]? = some x → EntAt wr g (0 + i * 4) x by
        rcases unhid HAT with h0 | ⟨b', o', eb, _, hcc⟩
        · intro i x hi; rw [h0] at hi; simp at hi
        · cases eb; exact hcc)
      have AT := hid (l2At_any (sortL (xs.take j)) (some ⟨g, 0, none⟩) c e.path wr (by omega) (unhid HAT))
      have HSN0 := hid hsn
      clear hRI he hsn ev2 ev3
      generalize sortL (xs.take j) = L at *
      go_wp2_with fail
      refine (unhid AT).mono ?_
      rintro x w3 ⟨rfl, n3, e3⟩
      have hB3 : Below wr.heap.size wr w3 := by rw [e3]; exact drewN_below _ _
      have hkn : placeE L e.path ≤ L.length := placeE_le _ _
      have HSN := hid (show (sortL (xs.take (j + 1))).length = placeE L e.path + 1 + (L.length - placeE L e.path) ∧ valsOf (sortL (xs.take (j + 1))) = valsOf (L.take (placeE L e.path)) ++ valsOf [e] ++ valsOf (L.drop (placeE L e.path)) by
        rw [unhid HSN0]; refine ⟨by rw [insAt_len]; omega, ?_⟩; unfold insAt; rw [valsOf_app, valsOf_app])
      have HB2 := hid ((unhid HB).trans (hB3.mono (unhid HB).size))
      have HG3 := hid (entAt_below (unhid HGE) (.inr hgl) hB3)
      have HE3 := hid ((unhid HE).below (unhid HB2) hb)
      have hwl : w.heap.size ≤ w3.heap.size := (unhid HB2).size
      have hgl3 : g < w3.heap.size := Nat.lt_of_lt_of_le hgl hB3.size
      have hbl3 : b < w3.heap.size := Nat.lt_of_lt_of_le hb hwl
      generalize hth : thereE L e.path = th
      clear hth
      generalize placeE L e.path = k at hkn HSN ⊢
      clear hB3 e3 AT HGE HE c0 c1 c2 c3 HAT HSN0 HB HO n3 hgl
      generalize hnl : L.length = n at *
      have HNL := hid hnl
      clear hnl
      go_wp2_with fail
      have hi1 : (0 : Int) ≤ (k : Int) := by omega
      have hi2 : (k : Int) ≤ (n : Int) := by omega
      have hi3 : (k : Int) ≤ (c : Int) := by omega
      have hi4 : (n : Int) ≤ (c : Int) := by omega
      have hi5 : (0 : Int) ≤ (j : Int) := by omega
      have hi6 : (j : Int) < (xs.length : Int) := by omega
      have HC1 := hid (show ∀ W, Below w3.heap.size w3 W → ∀ j u, (valsOf (L.take k))[j]? = some u → W.cell? ((⟨g, 0, none⟩ : Addr).add j) = some u from fun W hW => ents_cells (ents_take (entAt_below (unhid HG3) (.inr hgl3) hW)))
      have HC2 := hid (show ∀ W, Below w3.heap.size w3 W → ∀ j u, (valsOf (L.drop k))[j]? = some u → W.cell? ((⟨g, offD c k, none⟩ : Addr).add j) = some u from fun W hW => ents_cells (fun i x hi => by have := ents_dropD (entAt_below (unhid HG3) (.inr hgl3) hW) (show L.length ≤ c by rw [unhid HNL]; omega) i x hi; rwa [Nat.zero_add] at this))
      have ht1 : (L.take k).length = k := by rw [List.length_take, unhid HNL]; omega
      have ht2 : (L.drop k).length = n - k := by rw [List.length_drop, unhid HNL]
      refine wp_region_held_drew (S := fun w' => Below w3.heap.size w3 w') (by kernel_rfl) (drew_below _) (fun hS => ?_)
      refine wpAnyH_take (i := 1) (v := .slice (some ⟨g, 0, none⟩) n c) rfl (by kernel_rfl) (by kernel_rfl) (by kernel_rfl) (fun _ _ _ h => h) (Or.inl ⟨by rfl, fun w' hw => by go_simp⟩) hS ?_
      refine wpAnyH_take (i := 2) (v := .int .i64 (k : Int)) rfl (by kernel_rfl) (by kernel_rfl) (by kernel_rfl) (fun _ _ _ h => h) (Or.inl ⟨by rfl, fun w' hw => by go_simp⟩) hS ?_
      refine wpAnyH_take (i := 3) (v := .slice (some ⟨g, 0, none⟩) k c) rfl (by kernel_rfl) (by kernel_rfl) (by kernel_rfl) (fun _ _ _ h => h) (Or.inl ⟨by rfl, fun w' hw => by go_simp⟩) hS ?_
      refine wpAnyH_take (i := 5) (v := .slice (some ⟨b, o, none⟩) xs.length cap) rfl (by kernel_rfl) (by kernel_rfl) (by kernel_rfl) (fun _ _ _ h => h) (Or.inl ⟨by rfl, fun w' hw => by go_simp⟩) hS ?_
      refine wpAnyH_take (i := 6) (v := .int .i64 (j : Int)) rfl (by kernel_rfl) (by kernel_rfl) (by kernel_rfl) (fun _ _ _ h => h) (Or.inl ⟨by rfl, fun w' hw => by go_simp⟩) hS ?_
      refine wpAnyH_take (i := 7) (v := .pointer (some ⟨b, o + j * 4, none⟩)) rfl (by kernel_rfl) (by kernel_rfl) (by kernel_rfl) (fun _ _ _ h => h) (Or.inl ⟨by rfl, fun w' hw => by go_simp⟩) hS ?_
      refine wpAnyH_take (i := 8) (v := .agg #[.string e.path, .int .i64 e.kind, .int .i64 e.mode, .string e.text]) rfl (by kernel_rfl) (by kernel_rfl) (by kernel_rfl) (fun _ _ _ h => h) (Or.inl ⟨by rfl, fun w' hw => by obtain ⟨k0, k1, k2, k3⟩ := (unhid HE3).below hw hbl3; go_simp⟩) hS ?_
      refine wpAnyH_take (i := 11) (v := .slice (some ⟨g, 0, none⟩) n c) rfl (by kernel_rfl) (by kernel_rfl) (by kernel_rfl) (fun _ _ _ h => h) (Or.inl ⟨by rfl, fun w' hw => by go_simp⟩) hS ?_
      refine wpAnyH_take (i := 12) (v := .int .i64 (k : Int)) rfl (by kernel_rfl) (by kernel_rfl) (by kernel_rfl) (fun _ _ _ h => h) (Or.inl ⟨by rfl, fun w' hw => by go_simp⟩) hS ?_
      refine wpAnyH_take (i := 13) (v := .slice (some ⟨g, offD c k, none⟩) (n - k) (c - k)) rfl (by kernel_rfl) (by kernel_rfl) (by kernel_rfl) (fun _ _ _ h => h) (Or.inl ⟨by rfl, fun w' hw => by 
        unfold offD
        by_cases hck : c = k
        · rw [if_pos hck]; go_simp
        · rw [if_neg hck]; go_simp⟩) hS ?_
      generalize w3.drew = W at hS ⊢
      refine wpAnyH_ready (rs := [0, 9]) (by kernel_rfl) (by simp) ?_
      refine AllReadyH.cons rfl (fun K hK => ?_) (AllReadyH.cons rfl (fun K hK => ?_) AllReadyH.nil)
      · go_simp
        have r0 := owns_empty W w3.heap.size hS.size 27
        have hS1 := hS.alloc hS.size (.cells #[] 27)
        refine hK.out _ _ hS1 (fun _ => ?_)
        clear hK K hS
        generalize W.alloc (.cells #[] 27) = W2 at hS1 r0 ⊢
        generalize W.heap.size = g0 at r0 ⊢
        have hS := hS1
        clear hS1
        refine wpAnyH_ready (rs := [4, 9]) (by kernel_rfl) (by simp) ?_
        refine AllReadyH.cons rfl (fun K hK => ?_) (AllReadyH.cons rfl (fun K hK => ?_) AllReadyH.nil)
        · refine step_append_at (by rfl) _ _ 23 (by rfl) w3.heap.size 27 i0 _ 4 48 Try.underlying23 (unhid HI).1 (unhid HI).2.1 (unhid HI).2.2.1 (unhid HI).2.2.2 rfl (by decide) (Value.slice (some ⟨g0, 0, none⟩) 0 0) (0) ([]) (by rfl) r0 ⟨g, 0, none⟩ (k) (c) (valsOf (L.take k)) (by rfl) (by rw [valsOf_len, ht1]) (unhid HC1 _ hS) (valsOf_one _) (by unfold maxLen; omega) (by omega) hS.size ?_
          intro v1 W3 r1 hg1 hat1
          rw [Nat.zero_add, List.nil_append] at r1
          obtain ⟨a1, c1, rfl⟩ := ownsRow_slice r1
          have hS1 := hS.grown hg1 hS.size (fun g eg => (r0.lt g eg).1)
          refine hK.out _ _ hS1 (fun _ => ?_)
          clear hK K hS r0 hg1 hat1
          have hS := hS1
          clear hS1
          refine wpAnyH_ready (rs := [9]) (by kernel_rfl) (by simp) ?_
          refine AllReadyH.cons rfl (fun K hK => ?_) AllReadyH.nil
          go_simp
          have o2 : OneAt (W3.alloc (.cells #[.string e.path, .int .i64 e.kind, .int .i64 e.mode, .string e.text] 27)) W3.heap.size e := World.alloc_heap_new _ _
          have hS1 := hS.alloc hS.size (.cells #[.string e.path, .int .i64 e.kind, .int .i64 e.mode, .string e.text] 27)
          have m2 : (Value.slice a1 k c1).ownBlock ≠ some W3.heap.size := fun eq => Nat.lt_irrefl _ (r1.lt _ eq).2
          have r1' := r1.alloc (.cells #[.string e.path, .int .i64 e.kind, .int .i64 e.mode, .string e.text] 27)
          clear r1
          have r1 := r1'
          clear r1'
          refine hK.out _ _ hS1 (fun _ => ?_)
          clear hK K hS
          generalize W3.alloc (.cells #[.string e.path, .int .i64 e.kind, .int .i64 e.mode, .string e.text] 27) = W4 at hS1 o2 r1 ⊢
          generalize W3.heap.size = g2 at o2 m2 ⊢
          have hS := hS1
          clear hS1
          refine wpAnyH_ready (rs := [10]) (by kernel_rfl) (by simp) ?_
          refine AllReadyH.cons rfl (fun K hK => ?_) AllReadyH.nil
          refine step_append_at (by rfl) _ _ 23 (by rfl) w3.heap.size 27 i0 _ 4 48 Try.underlying23 (unhid HI).1 (unhid HI).2.1 (unhid HI).2.2.1 (unhid HI).2.2.2 rfl (by decide) (Value.slice a1 k c1) (k) (valsOf (L.take k)) (by rfl) r1 ⟨g2, 0, none⟩ (1) (1) (valsOf [e]) (by rfl) (by rw [valsOf_len]; rfl) (o2.cells) (valsOf_one _) (by unfold maxLen; omega) (by omega) hS.size ?_
          intro v2 W5 r2 hg1 hat1
          obtain ⟨a2, c2, rfl⟩ := ownsRow_slice r2
          have hS1 := hS.grown hg1 hS.size (fun g eg => (r1.lt g eg).1)
          refine hK.out _ _ hS1 (fun _ => ?_)
          clear hK K hS r1 hg1 hat1 o2 m2
          have hS := hS1
          clear hS1
          refine wpAnyH_ready (rs := [14]) (by kernel_rfl) (by simp) ?_
          refine AllReadyH.cons rfl (fun K hK => ?_) AllReadyH.nil
          refine step_append_at (by rfl) _ _ 23 (by rfl) w3.heap.size 27 i0 _ 4 48 Try.underlying23 (unhid HI).1 (unhid HI).2.1 (unhid HI).2.2.1 (unhid HI).2.2.2 rfl (by decide) (Value.slice a2 (k + 1) c2) (k + 1) (valsOf (L.take k) ++ valsOf [e]) (by rfl) r2 ⟨g, offD c k, none⟩ ((n - k)) ((c - k)) (valsOf (L.drop k)) (by rfl) (by rw [valsOf_len, ht2]) (unhid HC2 _ hS) (valsOf_one _) (by unfold maxLen; omega) (by omega) hS.size ?_
          intro v3 W6 r3 hg1 hat1
          obtain ⟨a3, c3, rfl⟩ := ownsRow_slice r3
          have hS1 := hS.grown hg1 hS.size (fun g eg => (r2.lt g eg).1)
          refine hK.out _ _ hS1 (fun _ => ?_)
          clear hK K hS r2 hg1 hat1
          have hS := hS1
          clear hS1
          refine wpAnyH_take (i := 15) (v := .slice a3 (k + 1 + (n - k)) c3) rfl (by kernel_rfl) (by kernel_rfl) (by kernel_rfl) (fun _ _ _ h => h) (Or.inl ⟨by rfl, fun w' hw => by go_simp⟩) hS ?_
          refine wpAnyH_done (by kernel_rfl) ?_ _
          have HF := hid (show W6.ownsRow w.heap.size 27 4 (.slice a3 (k + 1 + (n - k)) c3) (sortL (xs.take (j + 1))).length (valsOf (sortL (xs.take (j + 1)))) ∧ Below w.heap.size w W6 from ⟨by rw [(unhid HSN).1, (unhid HSN).2]; exact ownsRow_base r3 (by omega), (unhid HB2).trans (hS.mono (by omega))⟩)
          obtain ⟨g3, cc3, hv3⟩ := ownsRow_some (unhid HF).1 (by rw [(unhid HSN).1]; omega)
          have HV3 := hid hv3
          clear r3 hS hv3
          go_wp2_with fail
          go_roundw
          case rel => exact ⟨j + 1, by omega, by go_num, ⟨g3, cc3, unhid HV3⟩, hid (unhid HF).1, hid (unhid HF).2⟩
          case measure => simp [intOf]; omega
        · go_simp
          have o2 : OneAt (W2.alloc (.cells #[.string e.path, .int .i64 e.kind, .int .i64 e.mode, .string e.text] 27)) W2.heap.size e := World.alloc_heap_new _ _
          have hS1 := hS.alloc hS.size (.cells #[.string e.path, .int .i64 e.kind, .int .i64 e.mode, .string e.text] 27)
          have m2 : (Value.slice (some ⟨g0, 0, none⟩) 0 0).ownBlock ≠ some W2.heap.size := fun eq => Nat.lt_irrefl _ (r0.lt _ eq).2
          have r0' := r0.alloc (.cells #[.string e.path, .int .i64 e.kind, .int .i64 e.mode, .string e.text] 27)
          clear r0
          have r0 := r0'
          clear r0'
          refine hK.out _ _ hS1 (fun _ => ?_)
          clear hK K hS
          generalize W2.alloc (.cells #[.string e.path, .int .i64 e.kind, .int .i64 e.mode, .string e.text] 27) = W3 at hS1 o2 r0 ⊢
          generalize W2.heap.size = g2 at o2 m2 ⊢
          have hS := hS1
          clear hS1
          refine wpAnyH_ready (rs := [4]) (by kernel_rfl) (by simp) ?_
          refine AllReadyH.cons rfl (fun K hK => ?_) AllReadyH.nil
          refine step_append_at (by rfl) _ _ 23 (by rfl) w3.heap.size 27 i0 _ 4 48 Try.underlying23 (unhid HI).1 (unhid HI).2.1 (unhid HI).2.2.1 (unhid HI).2.2.2 rfl (by decide) (Value.slice (some ⟨g0, 0, none⟩) 0 0) (0) ([]) (by rfl) r0 ⟨g, 0, none⟩ (k) (c) (valsOf (L.take k)) (by rfl) (by rw [valsOf_len, ht1]) (unhid HC1 _ hS) (valsOf_one _) (by unfold maxLen; omega) (by omega) hS.size ?_
          intro v1 W4 r1 hg1 hat1
          rw [Nat.zero_add, List.nil_append] at r1
          obtain ⟨a1, c1, rfl⟩ := ownsRow_slice r1
          have hS1 := hS.grown hg1 hS.size (fun g eg => (r0.lt g eg).1)
          have o2' := o2.grown hg1 (fun eq => m2 eq.symm)
          have m2' : (Value.slice a1 k c1).ownBlock ≠ some g2 := by
            rcases hat1 with h | h <;> rw [h]
            · exact m2
            · intro eq; injection eq with eq; have := o2.lt; omega
          clear o2 m2
          have o2 := o2'
          clear o2'
          have m2 := m2'
          clear m2'
          refine hK.out _ _ hS1 (fun _ => ?_)
          clear hK K hS r0 hg1 hat1
          have hS := hS1
          clear hS1
          refine wpAnyH_ready (rs := [10]) (by kernel_rfl) (by simp) ?_
          refine AllReadyH.cons rfl (fun K hK => ?_) AllReadyH.nil
          refine step_append_at (by rfl) _ _ 23 (by rfl) w3.heap.size 27 i0 _ 4 48 Try.underlying23 (unhid HI).1 (unhid HI).2.1 (unhid HI).2.2.1 (unhid HI).2.2.2 rfl (by decide) (Value.slice a1 k c1) (k) (valsOf (L.take k)) (by rfl) r1 ⟨g2, 0, none⟩ (1) (1) (valsOf [e]) (by rfl) (by rw [valsOf_len]; rfl) (o2.cells) (valsOf_one _) (by unfold maxLen; omega) (by omega) hS.size ?_
          intro v2 W5 r2 hg1 hat1
          obtain ⟨a2, c2, rfl⟩ := ownsRow_slice r2
          have hS1 := hS.grown hg1 hS.size (fun g eg => (r1.lt g eg).1)
          refine hK.out _ _ hS1 (fun _ => ?_)
          clear hK K hS r1 hg1 hat1 o2 m2
          have hS := hS1
          clear hS1
          refine wpAnyH_ready (rs := [14]) (by kernel_rfl) (by simp) ?_
          refine AllReadyH.cons rfl (fun K hK => ?_) AllReadyH.nil
          refine step_append_at (by rfl) _ _ 23 (by rfl) w3.heap.size 27 i0 _ 4 48 Try.underlying23 (unhid HI).1 (unhid HI).2.1 (unhid HI).2.2.1 (unhid HI).2.2.2 rfl (by decide) (Value.slice a2 (k + 1) c2) (k + 1) (valsOf (L.take k) ++ valsOf [e]) (by rfl) r2 ⟨g, offD c k, none⟩ ((n - k)) ((c - k)) (valsOf (L.drop k)) (by rfl) (by rw [valsOf_len, ht2]) (unhid HC2 _ hS) (valsOf_one _) (by unfold maxLen; omega) (by omega) hS.size ?_
          intro v3 W6 r3 hg1 hat1
          obtain ⟨a3, c3, rfl⟩ := ownsRow_slice r3
          have hS1 := hS.grown hg1 hS.size (fun g eg => (r2.lt g eg).1)
          refine hK.out _ _ hS1 (fun _ => ?_)
          clear hK K hS r2 hg1 hat1
          have hS := hS1
          clear hS1
          refine wpAnyH_take (i := 15) (v := .slice a3 (k + 1 + (n - k)) c3) rfl (by kernel_rfl) (by kernel_rfl) (by kernel_rfl) (fun _ _ _ h => h) (Or.inl ⟨by rfl, fun w' hw => by go_simp⟩) hS ?_
          refine wpAnyH_done (by kernel_rfl) ?_ _
          have HF := hid (show W6.ownsRow w.heap.size 27 4 (.slice a3 (k + 1 + (n - k)) c3) (sortL (xs.take (j + 1))).length (valsOf (sortL (xs.take (j + 1)))) ∧ Below w.heap.size w W6 from ⟨by rw [(unhid HSN).1, (unhid HSN).2]; exact ownsRow_base r3 (by omega), (unhid HB2).trans (hS.mono (by omega))⟩)
          obtain ⟨g3, cc3, hv3⟩ := ownsRow_some (unhid HF).1 (by rw [(unhid HSN).1]; omega)
          have HV3 := hid hv3
          clear r3 hS hv3
          go_wp2_with fail
          go_roundw
          case rel => exact ⟨j + 1, by omega, by go_num, ⟨g3, cc3, unhid HV3⟩, hid (unhid HF).1, hid (unhid HF).2⟩
          case measure => simp [intOf]; omega
      · go_simp
        have o2 : OneAt (W.alloc (.cells #[.string e.path, .int .i64 e.kind, .int .i64 e.mode, .string e.text] 27)) W.heap.size e := World.alloc_heap_new _ _
        have hS1 := hS.alloc hS.size (.cells #[.string e.path, .int .i64 e.kind, .int .i64 e.mode, .string e.text] 27)
        refine hK.out _ _ hS1 (fun _ => ?_)
        clear hK K hS
        generalize W.alloc (.cells #[.string e.path, .int .i64 e.kind, .int .i64 e.mode, .string e.text] 27) = W2 at hS1 o2 ⊢
        generalize W.heap.size = g2 at o2 ⊢
        have hS := hS1
        clear hS1
        refine wpAnyH_ready (rs := [0]) (by kernel_rfl) (by simp) ?_
        refine AllReadyH.cons rfl (fun K hK => ?_) AllReadyH.nil
        go_simp
        have r0 := owns_empty W2 w3.heap.size hS.size 27
        have hS1 := hS.alloc hS.size (.cells #[] 27)
        have o2' := o2.alloc (.cells #[] 27)
        have m2 : (Value.slice (some ⟨W2.heap.size, 0, none⟩) 0 0).ownBlock ≠ some g2 := fun eq => by injection eq with eq; have eq2 : W2.heap.size = g2 := eq; have := o2.lt; omega
        clear o2
        have o2 := o2'
        clear o2'
        refine hK.out _ _ hS1 (fun _ => ?_)
        clear hK K hS
        generalize W2.alloc (.cells #[] 27) = W3 at hS1 r0 o2 ⊢
        generalize W2.heap.size = g0 at r0 m2 ⊢
        have hS := hS1
        clear hS1
        refine wpAnyH_ready (rs := [4]) (by kernel_rfl) (by simp) ?_
        refine AllReadyH.cons rfl (fun K hK => ?_) AllReadyH.nil
        refine step_append_at (by rfl) _ _ 23 (by rfl) w3.heap.size 27 i0 _ 4 48 Try.underlying23 (unhid HI).1 (unhid HI).2.1 (unhid HI).2.2.1 (unhid HI).2.2.2 rfl (by decide) (Value.slice (some ⟨g0, 0, none⟩) 0 0) (0) ([]) (by rfl) r0 ⟨g, 0, none⟩ (k) (c) (valsOf (L.take k)) (by rfl) (by rw [valsOf_len, ht1]) (unhid HC1 _ hS) (valsOf_one _) (by unfold maxLen; omega) (by omega) hS.size ?_
        intro v1 W4 r1 hg1 hat1
        rw [Nat.zero_add, List.nil_append] at r1
        obtain ⟨a1, c1, rfl⟩ := ownsRow_slice r1
        have hS1 := hS.grown hg1 hS.size (fun g eg => (r0.lt g eg).1)
        have o2' := o2.grown hg1 (fun eq => m2 eq.symm)
        have m2' : (Value.slice a1 k c1).ownBlock ≠ some g2 := by
          rcases hat1 with h | h <;> rw [h]
          · exact m2
          · intro eq; injection eq with eq; have := o2.lt; omega
        clear o2 m2
        have o2 := o2'
        clear o2'
        have m2 := m2'
        clear m2'
        refine hK.out _ _ hS1 (fun _ => ?_)
        clear hK K hS r0 hg1 hat1
        have hS := hS1
        clear hS1
        refine wpAnyH_ready (rs := [10]) (by kernel_rfl) (by simp) ?_
        refine AllReadyH.cons rfl (fun K hK => ?_) AllReadyH.nil
        refine step_append_at (by rfl) _ _ 23 (by rfl) w3.heap.size 27 i0 _ 4 48 Try.underlying23 (unhid HI).1 (unhid HI).2.1 (unhid HI).2.2.1 (unhid HI).2.2.2 rfl (by decide) (Value.slice a1 k c1) (k) (valsOf (L.take k)) (by rfl) r1 ⟨g2, 0, none⟩ (1) (1) (valsOf [e]) (by rfl) (by rw [valsOf_len]; rfl) (o2.cells) (valsOf_one _) (by unfold maxLen; omega) (by omega) hS.size ?_
        intro v2 W5 r2 hg1 hat1
        obtain ⟨a2, c2, rfl⟩ := ownsRow_slice r2
        have hS1 := hS.grown hg1 hS.size (fun g eg => (r1.lt g eg).1)
        refine hK.out _ _ hS1 (fun _ => ?_)
        clear hK K hS r1 hg1 hat1 o2 m2
        have hS := hS1
        clear hS1
        refine wpAnyH_ready (rs := [14]) (by kernel_rfl) (by simp) ?_
        refine AllReadyH.cons rfl (fun K hK => ?_) AllReadyH.nil
        refine step_append_at (by rfl) _ _ 23 (by rfl) w3.heap.size 27 i0 _ 4 48 Try.underlying23 (unhid HI).1 (unhid HI).2.1 (unhid HI).2.2.1 (unhid HI).2.2.2 rfl (by decide) (Value.slice a2 (k + 1) c2) (k + 1) (valsOf (L.take k) ++ valsOf [e]) (by rfl) r2 ⟨g, offD c k, none⟩ ((n - k)) ((c - k)) (valsOf (L.drop k)) (by rfl) (by rw [valsOf_len, ht2]) (unhid HC2 _ hS) (valsOf_one _) (by unfold maxLen; omega) (by omega) hS.size ?_
        intro v3 W6 r3 hg1 hat1
        obtain ⟨a3, c3, rfl⟩ := ownsRow_slice r3
        have hS1 := hS.grown hg1 hS.size (fun g eg => (r2.lt g eg).1)
        refine hK.out _ _ hS1 (fun _ => ?_)
        clear hK K hS r2 hg1 hat1
        have hS := hS1
        clear hS1
        refine wpAnyH_take (i := 15) (v := .slice a3 (k + 1 + (n - k)) c3) rfl (by kernel_rfl) (by kernel_rfl) (by kernel_rfl) (fun _ _ _ h => h) (Or.inl ⟨by rfl, fun w' hw => by go_simp⟩) hS ?_
        refine wpAnyH_done (by kernel_rfl) ?_ _
        have HF := hid (show W6.ownsRow w.heap.size 27 4 (.slice a3 (k + 1 + (n - k)) c3) (sortL (xs.take (j + 1))).length (valsOf (sortL (xs.take (j + 1)))) ∧ Below w.heap.size w W6 from ⟨by rw [(unhid HSN).1, (unhid HSN).2]; exact ownsRow_base r3 (by omega), (unhid HB2).trans (hS.mono (by omega))⟩)
        obtain ⟨g3, cc3, hv3⟩ := ownsRow_some (unhid HF).1 (by rw [(unhid HSN).1]; omega)
        have HV3 := hid hv3
        clear r3 hS hv3
        go_wp2_with fail
        go_roundw
        case rel => exact ⟨j + 1, by omega, by go_num, ⟨g3, cc3, unhid HV3⟩, hid (unhid HF).1, hid (unhid HF).2⟩
        case measure => simp [intOf]; omega
    · have e : j = xs.length := by omega
      subst e
      rw [List.take_of_length_le (Nat.le_refl _)] at HO ⊢
      go_wp2_with fail
      go_ret
      exact ⟨_, rfl, unhid HO, unhid HB⟩
end Go.Proofs.Ytlnehebihfeegaa

/- Entries that are moved: no two come to one place. -/
namespace Go.Proofs.Ytlnehebihfeegaa
open Go.RowKit Go.Shelf

def movedP (p q s : ByteArray) : ByteArray := q ++ s.extract p.size s.size
def mvS (p q : ByteArray) (e : Ent) : Ent := if belowB p.data.toList e.path.data.toList then { e with path := movedP p q e.path } else e
def mvAllS (p q : ByteArray) (es : List Ent) : Bool := es.all fun e => pathB (mvS p q e).path.data.toList
theorem sort_put : ∀ xs : List Ent, (xs.map (·.path)).Nodup → sortL xs = putAll xs := snoc_ind (fun _ => rfl) (fun xs x ih h => by
  rw [List.map_append, List.nodup_append] at h
  rw [sortL_snoc, putAll_snoc, ih h.1]
  have ht : thereE (putAll xs) x.path = false := by
    cases ht : thereE (putAll xs) x.path
    · rfl
    · obtain ⟨e, he, hp⟩ := there_get ht
      have hm := putAll_mem xs e (List.mem_of_getElem? he)
      exact absurd hp (h.2.2 e.path (List.mem_map.2 ⟨e, hm, rfl⟩) x.path (by simp))
  unfold putT; rw [ht]; rfl)
theorem bytes_ext {a b : ByteArray} (h : a.data.toList = b.data.toList) : a = b := by apply ByteArray.ext; exact Array.ext' h
theorem movedP_list (p q s : ByteArray) : (movedP p q s).data.toList = q.data.toList ++ s.data.toList.drop p.data.toList.length := by
  unfold movedP; rw [data_app, drop_size]
theorem below_drop {p s : List UInt8} (h : belowB p s = true) : s = p ++ s.drop p.length ∧ (s.drop p.length = [] ∨ ∃ t, s.drop p.length = 47 :: t) := by
  rcases belowB_cases h with rfl | ⟨t, rfl⟩
  · simp
  · simp
theorem movedP_inj {p q s s' : ByteArray} (h : belowB p.data.toList s.data.toList = true) (h' : belowB p.data.toList s'.data.toList = true) (he : movedP p q s = movedP p q s') : s = s' := by
  apply bytes_ext
  have h1 := congrArg (fun x => x.data.toList) he
  simp only [movedP_list] at h1
  have h2 := List.append_cancel_left h1
  rw [(below_drop h).1, (below_drop h').1, h2]
theorem movedP_below {p q s : ByteArray} (h : belowB p.data.toList s.data.toList = true) : belowB q.data.toList (movedP p q s).data.toList = true := by
  rw [movedP_list]
  rcases (below_drop h).2 with h1 | ⟨t, h1⟩
  · rw [h1, List.append_nil]; exact belowB_refl _
  · rw [h1]; exact belowB_app _ _
theorem moved_nodup {es : List Ent} {p q : ByteArray} (ht : treeB es = true) (hq : pathB q.data.toList = true) (hno : thereE es q = false) : ((es.map (mvS p q)).map (·.path)).Nodup := by
  have hup := asc_up (tree_asc ht)
  have hnot : ∀ e ∈ es, ∀ s : ByteArray, belowB p.data.toList s.data.toList = true → e.path ≠ movedP p q s := fun e he s hs heq => by
    have h1 : inB q.data.toList e.path.data.toList = true := by
      unfold inB; rw [hq, ent_pathB (tree_all ht e he), heq, movedP_below hs]; rfl
    rw [in_there ht _ e he (Nat.le_refl _) h1] at hno; cases hno
  rw [List.map_map, List.Nodup, List.pairwise_map]
  refine List.Pairwise.imp_of_mem (fun {x y} hx hy hxy => ?_) hup
  have hne : x.path ≠ y.path := fun e => by rw [e] at hxy; rw [show ltS y.path y.path = false from lt_irr _] at hxy; cases hxy
  show (mvS p q x).path ≠ (mvS p q y).path
  unfold mvS
  cases h1 : belowB p.data.toList x.path.data.toList <;> cases h2 : belowB p.data.toList y.path.data.toList
  · exact hne
  · exact hnot x hx y.path h2
  · exact fun e => hnot y hy x.path h1 e.symm
  · exact fun e => hne (movedP_inj h1 h2 e)
/-- What the model asks of a move. -/
def mayS (es : List Ent) (p q : ByteArray) : Bool := thereE es p && (!thereE es q && (pathB q.data.toList && (!belowB p.data.toList q.data.toList && dirE es (upS q))))
theorem may_eq {es : List Ent} {p q : ByteArray} (ht : treeB es = true) : mayB es p q = mayS es p q := by
  unfold mayB mayS
  cases h1 : thereE es p
  · rfl
  · obtain ⟨x, hx, hxp⟩ := there_get h1
    have hp : pathB p.data.toList = true := by rw [← hxp]; exact ent_pathB (tree_ent ht hx)
    cases h2 : thereE es q
    · cases h3 : pathB q.data.toList
      · rfl
      · unfold inB pathUpS; rw [hp, h3]; rfl
    · rfl
theorem place_eq {es : List Ent} {p q : ByteArray} (ht : treeB es = true) (hp : pathB p.data.toList = true) (hq : pathB q.data.toList = true) {e : Ent} (he : e ∈ es) : (!(placeM p q e).toList.isEmpty) = pathB (mvS p q e).path.data.toList ∧ (pathB (mvS p q e).path.data.toList = true → mvE p q e = mvS p q e) := by
  have hpe := ent_pathB (tree_all ht e he)
  have hib : inB p.data.toList e.path.data.toList = belowB p.data.toList e.path.data.toList := by unfold inB; rw [hp, hpe]; rfl
  unfold mvE placeM mvS
  rw [hib]
  cases h1 : belowB p.data.toList e.path.data.toList
  · refine ⟨?_, fun _ => rfl⟩
    have := pathB_ne _ hpe
    simp only [Bool.false_eq_true, if_false]
    rw [hpe, Lib.toList_data]
    simpa using this
  · simp only [if_true]
    have hm : moveS e.path p q = if pathB (movedP p q e.path).data.toList then movedP p q e.path else ⟨#[]⟩ := by
      unfold moveS; rw [hib, h1, hq]; rfl
    rw [hm]
    cases h2 : pathB (movedP p q e.path).data.toList
    · refine ⟨by simp [Lib.toList_data], fun h => by cases h⟩
    · refine ⟨?_, fun _ => rfl⟩
      have := pathB_ne _ h2
      simp only [if_true]
      rw [Lib.toList_data]
      simpa using this
theorem move_spec {es : List Ent} {p q : ByteArray} (ht : treeB es = true) : moveOk p q es = (mayS es p q && mvAllS p q es) ∧ moveR p q es = if (mayS es p q && mvAllS p q es) then sortL (es.map (mvS p q)) else es := by
  unfold moveR moveOk
  rw [keptE_yes ht, may_eq ht]
  cases hm : mayS es p q
  · exact ⟨rfl, rfl⟩
  · unfold mayS at hm
    simp only [Bool.and_eq_true, Bool.not_eq_true'] at hm
    obtain ⟨h1, h2, hq, _⟩ := hm
    obtain ⟨x, hx, hxp⟩ := there_get h1
    have hp : pathB p.data.toList = true := by rw [← hxp]; exact ent_pathB (tree_ent ht hx)
    have hall : moveAll p q es = mvAllS p q es := by
      unfold moveAll mvAllS
      rw [Bool.eq_iff_iff, List.all_eq_true, List.all_eq_true]
      exact ⟨fun h e he => by rw [← (place_eq ht hp hq he).1]; exact h e he, fun h e he => by rw [(place_eq ht hp hq he).1]; exact h e he⟩
    rw [hall]
    refine ⟨rfl, ?_⟩
    cases h3 : mvAllS p q es
    · rfl
    · have hmap : es.map (mvE p q) = es.map (mvS p q) := List.map_congr_left (fun e he => (place_eq ht hp hq he).2 (List.all_eq_true.1 h3 e he))
      simp only [Bool.and_self, if_true]
      rw [hmap, sort_put _ (moved_nodup ht hq h2)]
end Go.Proofs.Ytlnehebihfeegaa
