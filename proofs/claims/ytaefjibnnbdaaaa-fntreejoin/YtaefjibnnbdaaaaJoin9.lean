/- Texts of this proof, one behind the other; each says at its head what it shows. -/
import Derived.Test.YtaefjibnnbdaaaaJoin6
import Derived.Test.YtaefjibnnbdaaaaJoin8
import Derived.Test.YtaefjibnnbdaaaaJoin7
import Derived.Test.YtaefjibnnbdaaaaProg
import Derived.Test.YtaefjibnnbdaaaaJoin1
import Derived.Laws.EntriesVeiled
import Derived.Maps.AppendAt
import Derived.Deep.QuietTactic
import Derived.BigQuiet
import Derived.Maps.OwnIn
import Derived.Deep.OwnRows
/- What a law over drawn trees keeps from call to call. -/
namespace Go.Proofs.Ytaefjibnnbdaaaa
open Go.RowKit

/-- Nothing elder has changed, these rows are read, these entries lie in boxes. -/
def Kb (w : World) (B : Nat) (W : World) (l : List (Option Addr × List Ent)) (m : List (Nat × Ent)) : Prop := Below w.heap.size w W ∧ B ≤ W.heap.size ∧ (∀ x ∈ l, EntsAt W x.1 x.2) ∧ ∀ x ∈ m, OneAt W x.1 x.2
theorem Kb.step {w W W' : World} {B : Nat} {l : List (Option Addr × List Ent)} {m : List (Nat × Ent)} (h : Kb w B W l m) (hb : Below W.heap.size W W') : Kb w B W' l m :=
  ⟨h.1.trans (hb.mono h.1.size), Nat.le_trans h.2.1 hb.size, fun x hx => (h.2.2.1 x hx).below hb, fun x hx => (hb.block _ (h.2.2.2 x hx).lt).trans (h.2.2.2 x hx)⟩
theorem Kb.push {w W W' : World} {B c : Nat} {a : Option Addr} {L : List Ent} {l : List (Option Addr × List Ent)} {m : List (Nat × Ent)} (h : Kb w B W l m) (ho : W'.ownsRow W.heap.size 27 4 (.slice a L.length c) L.length (valsOf L)) (hb : Below W.heap.size W W') : Kb w B W' ((a, L) :: l) m := by
  have h' := h.step hb
  refine ⟨h'.1, h'.2.1, fun x hx => ?_, h'.2.2.2⟩
  rcases List.mem_cons.1 hx with rfl | hx
  · obtain ⟨a1, c1, hv, hr⟩ := rowIn_of_owns ho
    cases hv
    exact hr.at
  · exact h'.2.2.1 x hx
theorem Kb.box {w W : World} {B : Nat} {l : List (Option Addr × List Ent)} {m : List (Nat × Ent)} (h : Kb w B W l m) (e : Ent) : Kb w B (W.alloc (.cells #[.string e.path, .int .i64 e.kind, .int .i64 e.mode, .string e.text] 27)) l ((W.heap.size, e) :: m) := by
  have h' := h.step ((Below.refl _ W).alloc (Nat.le_refl _) (.cells #[.string e.path, .int .i64 e.kind, .int .i64 e.mode, .string e.text] 27))
  refine ⟨h'.1, h'.2.1, h'.2.2.1, fun x hx => ?_⟩
  rcases List.mem_cons.1 hx with rfl | hx
  · exact World.alloc_heap_new _ _
  · exact h'.2.2.2 x hx
theorem Kb.at {w W : World} {B : Nat} {a : Option Addr} {L : List Ent} {l : List (Option Addr × List Ent)} {m : List (Nat × Ent)} (h : Kb w B W l m) (hx : (a, L) ∈ l) : EntsAt W a L := h.2.2.1 _ hx
theorem Kb.one {w W : World} {B k : Nat} {e : Ent} {l : List (Option Addr × List Ent)} {m : List (Nat × Ent)} (h : Kb w B W l m) (hx : (k, e) ∈ m) : OneAt W k e := h.2.2.2 _ hx
theorem Kb.unbox {w W : World} {B : Nat} {l : List (Option Addr × List Ent)} {m : List (Nat × Ent)} {x : Nat × Ent} (h : Kb w B W l (x :: m)) : Kb w B W l m := ⟨h.1, h.2.1, h.2.2.1, fun y hy => h.2.2.2 y (List.mem_cons_of_mem _ hy)⟩
theorem Kb.unrow {w W : World} {B : Nat} {l : List (Option Addr × List Ent)} {m : List (Nat × Ent)} {x : Option Addr × List Ent} (h : Kb w B W (x :: l) m) : Kb w B W l m := ⟨h.1, h.2.1, fun y hy => h.2.2.1 y (List.mem_cons_of_mem _ hy), h.2.2.2⟩
theorem ents_some {W : World} {g : Nat} {es : List Ent} (h : EntsAt W (some ⟨g, 0, none⟩) es) : ∀ (i : Nat) e, es[i]? = some e → EntAt W g (0 + i * 4) e := by
  rcases h with rfl | ⟨b, o, hb, _, hc⟩
  · intro i e hi; simp at hi
  · cases hb; exact hc
theorem Kb.ents {w W : World} {B g : Nat} {es : List Ent} {l : List (Option Addr × List Ent)} {m : List (Nat × Ent)} (h : Kb w B W l m) (hx : (some ⟨g, 0, none⟩, es) ∈ l) : ∀ (i : Nat) e, es[i]? = some e → EntAt W g (0 + i * 4) e := ents_some (h.at hx)
theorem Kb.lt {w W : World} {B g : Nat} {l : List (Option Addr × List Ent)} {m : List (Nat × Ent)} (h : Kb w B W l m) (hg : g < B) : g < W.heap.size := Nat.lt_of_lt_of_le hg h.2.1
theorem kb_drawn {w W : World} {g c : Nat} {es : List Ent} (h : Drawn w W (.slice (some ⟨g, 0, none⟩) es.length c) es) : Kb w W.heap.size W [(some ⟨g, 0, none⟩, es)] [] ∧ g < W.heap.size ∧ es.length ≤ c := by
  obtain ⟨g', c', hv, ho⟩ := h.v
  cases hv
  obtain ⟨h1, h2, h3, h4⟩ := TreeV.ents ho
  refine ⟨⟨h.below, Nat.le_refl _, fun x hx => ?_, fun x hx => by cases hx⟩, h2, h4⟩
  rw [List.mem_singleton.1 hx]
  exact .inr ⟨g, 0, rfl, h2, h1⟩
theorem putR_len {es : List Ent} {e : Ent} : (putR es e).length ≤ 1000 := by
  unfold putR
  split
  · rename_i h
    have := putL_len es e
    have := tree_16 h
    omega
  · simp
theorem dropR_len {p : ByteArray} {es : List Ent} : (dropR p es).length ≤ 1000 := by
  have h := (kept_asc es).2
  unfold dropR leftE
  exact Nat.le_trans (List.length_filter_le _ _) (by omega)
theorem eq_ents (x y : Ent) (w : World) : (binOp .eql 27 (.agg x.vals) (.agg y.vals)).run Try.prog w = .ok (.bool (eqV x y)) w := by
  simp only [binOp]
  simp [Op.equal, Op.maxDepth, in_ent 9998]
theorem ne_same (p : ByteArray) (k m : Int) (t : ByteArray) (w : World) : (binOp .neq 27 (.agg #[.string p, .int .i64 k, .int .i64 m, .string t]) (.agg #[.string p, .int .i64 k, .int .i64 m, .string t])).run Try.prog w = .ok (.bool false) w := by
  have := ne_ents ⟨p, k, m, t⟩ ⟨p, k, m, t⟩ w
  rw [eqV_self] at this
  exact this
theorem eq_same (p : ByteArray) (k m : Int) (t : ByteArray) (w : World) : (binOp .eql 27 (.agg #[.string p, .int .i64 k, .int .i64 m, .string t]) (.agg #[.string p, .int .i64 k, .int .i64 m, .string t])).run Try.prog w = .ok (.bool true) w := by
  have := eq_ents ⟨p, k, m, t⟩ ⟨p, k, m, t⟩ w
  rw [eqV_self] at this
  exact this
end Go.Proofs.Ytaefjibnnbdaaaa

/- Two trees in one: the model's answer. -/
namespace Go.Proofs.Ytaefjibnnbdaaaa
open Go.RowKit Go.Shelf

theorem joinR_len (es fs : List Ent) : (joinR es fs).length ≤ 100 := by
  unfold joinR
  split
  · rename_i h
    unfold joinOk at h
    simp only [Bool.and_eq_true] at h
    have h1 := joinTo_len es fs
    have h2 := tree_16 h.1
    have h3 := tree_16 h.2.1
    omega
  · simp

set_option maxRecDepth 100000 in
set_option maxHeartbeats 2000000 in
theorem specTreeJoin_any (es fs : List Ent) (b o cap b2 o2 cap2 : Nat) (w : World) (hs : smallE es) (hs2 : smallE fs) (h : ∀ (i : Nat) e, es[i]? = some e → EntAt w b (o + i * 4) e) (hb : b < w.heap.size) (hf : ∀ (i : Nat) e, fs[i]? = some e → EntAt w b2 (o2 + i * 4) e) (hb2 : b2 < w.heap.size) :
    Calls Try.prog 34 #[.slice (some ⟨b, o, none⟩) es.length cap, .slice (some ⟨b2, o2, none⟩) fs.length cap2] w fun x w' => ∃ v, x = .returned (.tuple #[v, .bool (joinOk es fs)]) ∧ w'.ownsRow w.heap.size 27 4 v (joinR es fs).length (valsOf (joinR es fs)) ∧ Below w.heap.size w w' := by
  have OK := hid (specTreeOk_any es (some ⟨b, o, none⟩) cap w hs (.inr ⟨b, o, rfl, hb, h⟩))
  have H1 := hid (And.intro h hf)
  have HS2 := hid hs2
  clear h hf hs hs2
  go_enter Try.func34, Try.ntmps34
  go_wp2_with fail
  refine (unhid OK).mono ?_
  rintro x w2 ⟨rfl, hB2⟩
  have H2 := hid (show Below w.heap.size w w2 ∧ (∀ (i : Nat) e, es[i]? = some e → EntAt w2 b (o + i * 4) e) ∧ ∀ (i : Nat) e, fs[i]? = some e → EntAt w2 b2 (o2 + i * 4) e from ⟨hB2, entAt_below (unhid H1).1 (.inr hb) hB2, entAt_below (unhid H1).2 (.inr hb2) hB2⟩)
  have hb' : b < w2.heap.size := Nat.lt_of_lt_of_le hb hB2.size
  have hb2' : b2 < w2.heap.size := Nat.lt_of_lt_of_le hb2 hB2.size
  clear hB2 H1 OK
  cases htb : treeB es
  · have E := hid (show joinOk es fs = false ∧ joinR es fs = [] by unfold joinR joinOk; rw [htb]; exact ⟨rfl, rfl⟩)
    have HF := hid (And.intro (owns_empty w2 w.heap.size (unhid H2).1.size 27) ((unhid H2).1.alloc (unhid H2).1.size (.cells #[] 27)))
    go_wp2_with fail
    go_ret2
    exact ⟨_, by rw [(unhid E).1]; rfl, by rw [(unhid E).2]; exact (unhid HF).1, (unhid HF).2⟩
  · go_wp2_with fail
    refine (specTreeOk_any fs (some ⟨b2, o2, none⟩) cap2 w2 (unhid HS2) (.inr ⟨b2, o2, rfl, hb2', (unhid H2).2.2⟩)).mono ?_
    rintro x w3 ⟨rfl, hB3⟩
    have H3 := hid (show Below w.heap.size w w3 ∧ (∀ (i : Nat) e, es[i]? = some e → EntAt w3 b (o + i * 4) e) ∧ ∀ (i : Nat) e, fs[i]? = some e → EntAt w3 b2 (o2 + i * 4) e from ⟨(unhid H2).1.trans (hB3.mono (unhid H2).1.size), entAt_below (unhid H2).2.1 (.inr hb') hB3, entAt_below (unhid H2).2.2 (.inr hb2') hB3⟩)
    have hb3 : b < w3.heap.size := Nat.lt_of_lt_of_le hb' hB3.size
    have hb23 : b2 < w3.heap.size := Nat.lt_of_lt_of_le hb2' hB3.size
    clear hB3 H2
    cases htb2 : treeB fs
    · have E := hid (show joinOk es fs = false ∧ joinR es fs = [] by unfold joinR joinOk; rw [htb, htb2]; exact ⟨rfl, rfl⟩)
      have HF := hid (And.intro (owns_empty w3 w.heap.size (unhid H3).1.size 27) ((unhid H3).1.alloc (unhid H3).1.size (.cells #[] 27)))
      go_wp2_with fail
      go_ret2
      exact ⟨_, by rw [(unhid E).1]; rfl, by rw [(unhid E).2]; exact (unhid HF).1, (unhid HF).2⟩
    · go_wp2_with fail
      refine (l2Join_any es fs b o cap b2 o2 cap2 w3 htb htb2 (unhid H3).2.1 hb3 (unhid H3).2.2 hb23).mono ?_
      rintro x w4 ⟨v, rfl, hown, hB4⟩
      obtain ⟨va, vc, rfl⟩ := ownsRow_slice hown
      have hB := (unhid H3).1.trans (hB4.mono (unhid H3).1.size)
      cases hj : (okJ es fs && treeB (joinTo es fs))
      · have E := hid (show joinOk es fs = false ∧ joinR es fs = [] by unfold joinR joinOk; rw [htb, htb2, hj]; exact ⟨rfl, rfl⟩)
        have HF := hid (And.intro (owns_empty w4 w.heap.size hB.size 27) (hB.alloc hB.size (.cells #[] 27)))
        clear hown hB4 hB
        go_wp2_with fail
        go_ret2
        exact ⟨_, by rw [(unhid E).1]; rfl, by rw [(unhid E).2]; exact (unhid HF).1, (unhid HF).2⟩
      · have E := hid (show joinOk es fs = true ∧ joinR es fs = joinL es fs by
          have hj1 : okJ es fs = true := by simp only [Bool.and_eq_true] at hj; exact hj.1
          unfold joinR joinOk joinL; rw [htb, htb2, hj, hj1]; exact ⟨rfl, rfl⟩)
        have HF := hid (And.intro (ownsRow_base hown (unhid H3).1.size) hB)
        clear hown hB4 hB
        go_wp2_with fail
        go_ret2
        exact ⟨_, by rw [(unhid E).1]; rfl, by rw [(unhid E).2]; exact (unhid HF).1, (unhid HF).2⟩
end Go.Proofs.Ytaefjibnnbdaaaa

/- A tree by what is in it: entries that are ok, each path once, each in a dir. -/
namespace Go.Proofs.Ytaefjibnnbdaaaa
open Go.RowKit Go.Shelf

theorem path_uniq {es : List Ent} (h : Up es) {x y : Ent} (hx : x ∈ es) (hy : y ∈ es) (hp : x.path = y.path) : x = y := by
  have h1 := (there_mem h hx).2
  have h2 := (there_mem h hy).2
  rw [← h1, ← h2, hp]
theorem there_iff {es : List Ent} (h : Up es) (p : ByteArray) : thereE es p = true ↔ ∃ x ∈ es, x.path = p := by
  constructor
  · intro ht
    obtain ⟨x, hx, hp⟩ := there_get ht
    exact ⟨x, List.mem_of_getElem? hx, hp⟩
  · rintro ⟨x, hx, rfl⟩
    exact (there_mem h hx).1
theorem there_not {es : List Ent} (h : Up es) {p : ByteArray} (ht : thereE es p = false) : ∀ x ∈ es, x.path ≠ p := fun x hx hp => by
  rw [(there_iff h p).2 ⟨x, hx, hp⟩] at ht; cases ht
/-- Something may be in a place: it is the top, or a dir that is there. -/
def DirIn (es : List Ent) (q : ByteArray) : Prop := q.toList.isEmpty = true ∨ ∃ x ∈ es, x.path = q ∧ x.kind = 1
theorem dir_iff {es : List Ent} (h : Up es) (q : ByteArray) : dirE es q = true ↔ DirIn es q := by
  unfold dirE DirIn
  constructor
  · intro hd
    rw [Bool.or_eq_true] at hd
    rcases hd with hd | hd
    · exact .inl hd
    · rw [Bool.and_eq_true] at hd
      obtain ⟨x, hx, hp⟩ := there_get hd.1
      rw [entFn_get hx] at hd
      exact .inr ⟨x, List.mem_of_getElem? hx, hp, by simpa using hd.2⟩
  · rintro (hd | ⟨x, hx, rfl, hk⟩)
    · rw [hd]; rfl
    · rw [(there_mem h hx).1, (there_mem h hx).2, hk]; simp
theorem tree_iff (es : List Ent) : treeB es = true ↔ (∀ x ∈ es, entB x = true) ∧ Up es ∧ (∀ x ∈ es, DirIn es (upS x.path)) ∧ es.length ≤ 16 := by
  constructor
  · intro h
    have hu := asc_up (tree_asc h)
    exact ⟨tree_all h, hu, fun x hx => (dir_iff hu _).1 (tree_dir h hx), tree_16 h⟩
  · rintro ⟨h1, hu, h3, h4⟩
    unfold treeB
    simp only [Bool.and_eq_true, List.all_eq_true, List.mem_range, decide_eq_true_eq]
    refine ⟨⟨fun i hi => ?_, fun i hi => ?_⟩, h4⟩
    · have hm : entFn es i ∈ es := List.mem_of_getElem? (ent_get hi)
      unfold sortAt
      rw [h1 _ hm, Bool.true_and, Bool.or_eq_true]
      by_cases h0 : i = 0
      · left; simp [h0]
      · right
        have hi1 : i - 1 < es.length := by omega
        have := List.pairwise_iff_getElem.1 hu (i - 1) i hi1 hi (by omega)
        rw [entFn_get (List.getElem?_eq_getElem hi), entFn_get (List.getElem?_eq_getElem hi1)]
        exact this
    · have hm : entFn es i ∈ es := List.mem_of_getElem? (ent_get hi)
      exact (dir_iff hu _).2 (h3 _ hm)
theorem up_ext : ∀ {xs ys : List Ent}, Up xs → Up ys → (∀ x, x ∈ xs ↔ x ∈ ys) → xs = ys
  | [], [], _, _, _ => rfl
  | [], y :: ys, _, _, h => absurd ((h y).2 (by simp)) (by simp)
  | x :: xs, [], _, _, h => absurd ((h x).1 (by simp)) (by simp)
  | x :: xs, y :: ys, hx, hy, h => by
    have hx' := List.pairwise_cons.1 hx
    have hy' := List.pairwise_cons.1 hy
    have hirr : ∀ a : ByteArray, ltS a a = false := fun a => lt_irr _
    have e : x = y := by
      rcases List.mem_cons.1 ((h x).1 (by simp)) with e | hm
      · exact e
      · rcases List.mem_cons.1 ((h y).2 (by simp)) with e | hm2
        · exact e.symm
        · have a := hy'.1 x hm
          have b := hx'.1 y hm2
          have := lt_trans' a b
          rw [hirr] at this; cases this
    subst e
    have : xs = ys := up_ext hx'.2 hy'.2 (fun z => by
      constructor
      · intro hz
        rcases List.mem_cons.1 ((h z).1 (by simp [hz])) with e | hm
        · subst e; have := hx'.1 z hz; rw [hirr] at this; cases this
        · exact hm
      · intro hz
        rcases List.mem_cons.1 ((h z).2 (by simp [hz])) with e | hm
        · subst e; have := hy'.1 z hz; rw [hirr] at this; cases this
        · exact hm)
    rw [this]
theorem putT_iff {es : List Ent} (h : Up es) (e x : Ent) : x ∈ putT es e ↔ x = e ∨ (x ∈ es ∧ x.path ≠ e.path) := by
  unfold putT
  cases ht : thereE es e.path
  · have hno := there_not h ht
    unfold insAt
    simp only [Bool.false_eq_true, if_false, List.mem_append, List.mem_singleton]
    constructor
    · rintro ((hx | hx) | hx)
      · exact .inr ⟨List.mem_of_mem_take hx, hno x (List.mem_of_mem_take hx)⟩
      · exact .inl hx
      · exact .inr ⟨List.mem_of_mem_drop hx, hno x (List.mem_of_mem_drop hx)⟩
    · rintro (hx | ⟨hx, _⟩)
      · exact .inl (.inr hx)
      · rw [← List.take_append_drop (placeE es e.path) es, List.mem_append] at hx
        rcases hx with hx | hx
        · exact .inl (.inl hx)
        · exact .inr hx
  · obtain ⟨old, ho, hop⟩ := there_get ht
    have hol := (List.getElem?_eq_some_iff.1 ho).1
    simp only [if_true]
    constructor
    · intro hx
      have hu : Up (es.set (placeE es e.path) e) := by
        have := putT_up (e := e) h
        unfold putT at this
        rwa [ht, if_pos rfl] at this
      have he : e ∈ es.set (placeE es e.path) e := List.mem_set hol e
      rcases List.mem_or_eq_of_mem_set hx with hm | rfl
      · by_cases hp : x.path = e.path
        · exact .inl (path_uniq hu hx he hp)
        · exact .inr ⟨hm, hp⟩
      · exact .inl rfl
    · rintro (rfl | ⟨hx, hp⟩)
      · exact List.mem_set hol x
      · obtain ⟨i, hi⟩ := List.getElem?_of_mem hx
        have hne : placeE es e.path ≠ i := by
          rintro rfl
          rw [ho] at hi
          cases hi
          exact hp hop
        refine List.mem_of_getElem? (i := i) ?_
        rw [List.getElem?_set, if_neg hne]; exact hi
theorem left_iff (p : ByteArray) (es : List Ent) (x : Ent) : x ∈ leftE p es ↔ x ∈ es ∧ inB p.data.toList x.path.data.toList = false := by
  unfold leftE; rw [List.mem_filter]; simp
theorem left_up {p : ByteArray} {es : List Ent} (h : Up es) : Up (leftE p es) := List.Pairwise.filter _ h
theorem tree_up {es : List Ent} (h : treeB es = true) : Up es := asc_up (tree_asc h)

/-- What can be put into a tree leaves a tree. -/
theorem okPut_iff {es : List Ent} (h : treeB es = true) (e : Ent) : okPut es e = true ↔ entB e = true ∧ DirIn es (upS e.path) ∧ ((∃ x ∈ es, x.path = e.path ∧ x.kind = e.kind) ∨ ((∀ x ∈ es, x.path ≠ e.path) ∧ es.length < 16)) := by
  have hu := tree_up h
  unfold okPut
  rw [Bool.and_eq_true, Bool.and_eq_true]
  constructor
  · rintro ⟨h1, h2, h3⟩
    rw [ent_path h1] at h2
    refine ⟨h1, (dir_iff hu _).1 h2, ?_⟩
    cases ht : thereE es e.path
    · rw [ht] at h3
      right
      have := tree_16 h
      simp at h3
      exact ⟨there_not hu ht, by omega⟩
    · rw [ht] at h3
      obtain ⟨old, ho, hop⟩ := there_get ht
      rw [entFn_get ho] at h3
      left
      exact ⟨old, List.mem_of_getElem? ho, hop, by simpa using h3⟩
  · rintro ⟨h1, h2, h3⟩
    refine ⟨h1, by rw [ent_path h1]; exact (dir_iff hu _).2 h2, ?_⟩
    rcases h3 with ⟨x, hx, hp, hk⟩ | ⟨h3, h4⟩
    · have := there_mem hu hx
      rw [← hp, this.1, this.2, hk]; simp
    · have ht : thereE es e.path = false := by
        cases ht : thereE es e.path
        · rfl
        · obtain ⟨x, hx, hp⟩ := (there_iff hu _).1 ht
          exact absurd hp (h3 x hx)
      rw [ht]; simp; omega
theorem putT_16 {es : List Ent} {e : Ent} (h : treeB es = true) (hk : okPut es e = true) : (putT es e).length ≤ 16 := by
  have : putT es e = putL es e := by unfold putL; rw [hk]; rfl
  have h16 := tree_16 h
  unfold putT
  cases ht : thereE es e.path
  · have h3 := ((okPut_iff h e).1 hk).2.2
    rcases h3 with ⟨x, hx, hp, _⟩ | ⟨_, h3⟩
    · rw [(there_iff (tree_up h) _).2 ⟨x, hx, hp⟩] at ht; cases ht
    · have := placeE_le es e.path
      unfold insAt; simp; omega
  · simp; exact h16
theorem put_tree {es : List Ent} {e : Ent} (h : treeB es = true) (hk : okPut es e = true) : treeB (putT es e) = true := by
  have hu := tree_up h
  obtain ⟨h1, h2, h3⟩ := (okPut_iff h e).1 hk
  obtain ⟨g1, g2, g3, g4⟩ := (tree_iff es).1 h
  have hdir : ∀ q, DirIn es q → DirIn (putT es e) q := by
    rintro q (hq | ⟨x, hx, hp, hk⟩)
    · exact .inl hq
    · by_cases hpe : x.path = e.path
      · rcases h3 with ⟨y, hy, hyp, hyk⟩ | ⟨h3, _⟩
        · have : y = x := path_uniq hu hy hx (by rw [hyp, hpe])
          subst this
          exact .inr ⟨e, (putT_iff hu e e).2 (.inl rfl), by rw [← hpe, hp], by rw [← hyk, hk]⟩
        · exact absurd hpe (h3 x hx)
      · exact .inr ⟨x, (putT_iff hu e x).2 (.inr ⟨hx, hpe⟩), hp, hk⟩
  refine (tree_iff _).2 ⟨fun x hx => ?_, putT_up hu, fun x hx => ?_, putT_16 h hk⟩
  · rcases (putT_iff hu e x).1 hx with rfl | ⟨hx, _⟩
    · exact h1
    · exact g1 x hx
  · rcases (putT_iff hu e x).1 hx with rfl | ⟨hx, _⟩
    · exact hdir _ h2
    · exact hdir _ (g3 x hx)
theorem put_yes {es : List Ent} {e : Ent} (h : putOk es e = true) : treeB es = true ∧ okPut es e = true ∧ putR es e = putT es e := by
  unfold putOk at h
  rw [Bool.and_eq_true] at h
  refine ⟨h.1, h.2, ?_⟩
  unfold putR putL
  rw [if_pos h.1, if_pos h.2]
theorem there_mem' {es : List Ent} {x : Ent} (h : treeB es = true) (hx : x ∈ es) : thereE es x.path = true ∧ gotE es x.path = x := by
  have := there_mem (tree_up h) hx
  refine ⟨this.1, ?_⟩
  unfold gotE
  rw [h, this.1]
  exact this.2
theorem up_in {s : ByteArray} (h : pathB s.data.toList = true) (hne : (upS s).toList.isEmpty = false) : inB (upS s).data.toList s.data.toList = true := by
  by_cases hi : 0 ≤ lastIx 47 s.data.toList
  · have h1 := up_some h hi
    have h2 : pathUpS s = upS s := by unfold pathUpS; rw [h]; rfl
    rw [h2] at h1
    rw [h1]
    exact inB_up _ h hi
  · exfalso
    unfold upS at hne
    rw [if_pos (by omega)] at hne
    revert hne
    decide +kernel
theorem drop_tree {es : List Ent} (h : treeB es = true) (p : ByteArray) : treeB (leftE p es) = true := by
  obtain ⟨g1, g2, g3, g4⟩ := (tree_iff es).1 h
  refine (tree_iff _).2 ⟨fun x hx => g1 x ((left_iff p es x).1 hx).1, left_up g2, fun x hx => ?_, Nat.le_trans (List.length_filter_le _ _) g4⟩
  obtain ⟨hx1, hx2⟩ := (left_iff p es x).1 hx
  rcases g3 x hx1 with hq | ⟨y, hy, hp, hk⟩
  · exact .inl hq
  · by_cases hq : (upS x.path).toList.isEmpty = true
    · exact .inl hq
    · refine .inr ⟨y, (left_iff p es y).2 ⟨hy, ?_⟩, hp, hk⟩
      cases hi : inB p.data.toList y.path.data.toList
      · rfl
      · have := up_in (ent_pathB (g1 x hx1)) (by simpa using hq)
        rw [← hp] at this
        rw [inB_trans hi this] at hx2
        cases hx2
theorem left_less {es : List Ent} {p : ByteArray} (h : treeB es = true) (ht : thereE es p = true) : (leftE p es).length < es.length := by
  obtain ⟨x, hx, hp⟩ := (there_iff (tree_up h) p).1 ht
  refine List.length_filter_lt_length_iff_exists.2 ⟨x, hx, ?_⟩
  have := ent_pathB (tree_all h x hx)
  rw [← hp, inB_refl _ this]
  simp
theorem left_split {es : List Ent} {p : ByteArray} {k : Nat} {e : Ent} (he : es[k]? = some e) (hi : inB p.data.toList e.path.data.toList = false) : leftE p (es.take (k + 1)) = leftE p (es.take k) ++ [e] ∧ (leftE p es)[(leftE p (es.take k)).length]? = some e := by
  have h1 : leftE p (es.take (k + 1)) = leftE p (es.take k) ++ [e] := by
    unfold leftE; rw [List.take_add_one, he, List.filter_append]; simp [hi]
  refine ⟨h1, ?_⟩
  have h2 : leftE p es = leftE p (es.take (k + 1)) ++ leftE p (es.drop (k + 1)) := by
    unfold leftE; rw [← List.filter_append, List.take_append_drop]
  rw [h2, h1, List.append_assoc, List.getElem?_append_right (Nat.le_refl _)]
  simp
theorem left_skip {es : List Ent} {p : ByteArray} {k : Nat} {e : Ent} (he : es[k]? = some e) (hi : inB p.data.toList e.path.data.toList = true) : leftE p (es.take (k + 1)) = leftE p (es.take k) := by
  unfold leftE; rw [List.take_add_one, he, List.filter_append]; simp [hi]
theorem left_len (p : ByteArray) (es : List Ent) : (leftE p es).length ≤ es.length := List.length_filter_le _ _
end Go.Proofs.Ytaefjibnnbdaaaa

/- Two trees in one: all of both, either way round. -/
namespace Go.Proofs.Ytaefjibnnbdaaaa
open Go.RowKit Go.Shelf

/-- Where two rows have one path they have one dir. -/
def Compat (L xs : List Ent) : Prop := ∀ x ∈ xs, ∀ e ∈ L, e.path = x.path → e = x ∧ x.kind = 1
theorem step_iff {L : List Ent} {x : Ent} (hL : Up L) (hb : ∀ e ∈ L, entB e = true) (hx : entB x = true) : stepJ L x = true ↔ ∀ e ∈ L, e.path = x.path → e = x ∧ x.kind = 1 := by
  unfold stepJ
  cases ht : thereE L x.path
  · constructor
    · intro _ e he hp; exact absurd hp (there_not hL ht e he)
    · intro _; rfl
  · obtain ⟨old, ho, hop⟩ := there_get ht
    have hom := List.mem_of_getElem? ho
    rw [entFn_get ho, same_eq hx (hb old hom) hop]
    constructor
    · intro h e he hp
      have he2 : e = old := path_uniq hL he hom (hp.trans hop.symm)
      simp only [Bool.not_true, Bool.false_or, Bool.and_eq_true] at h
      have h2 := eqV_eq h.2
      subst he2
      exact ⟨h2.symm, by rw [h2]; simpa using h.1⟩
    · intro h
      obtain ⟨h1, h2⟩ := h old hom hop
      subst h1
      rw [eqV_self]
      simp [h2]
theorem join_iff : ∀ (xs L : List Ent), Up L → Up xs → (∀ e ∈ L, entB e = true) → (∀ e ∈ xs, entB e = true) →
    (okJ L xs = true ↔ Compat L xs) ∧ (Compat L xs → (∀ x, x ∈ joinTo L xs ↔ x ∈ L ∨ x ∈ xs) ∧ (joinTo L xs).length = L.length + (xs.filter fun x => !thereE L x.path).length)
  | [], L, _, _, _, _ => ⟨⟨(fun _ x hx => by cases hx), (fun _ => rfl)⟩, (fun _ => ⟨(fun x => by simp [joinTo]), (by simp [joinTo])⟩)⟩
  | x :: xs, L, hL, hX, hb, hxb => by
    have hX' := List.pairwise_cons.1 hX
    have hbx := hxb x (by simp)
    have hne : ∀ y ∈ xs, x.path ≠ y.path := fun y hy e => by
      have := hX'.1 y hy
      rw [e, show ltS y.path y.path = false from lt_irr _] at this; cases this
    have hputb : ∀ e ∈ putT L x, entB e = true := fun e he => by
      rcases putT_mem he with h | h
      · exact hb e h
      · rw [h]; exact hbx
    obtain ⟨i1, i2⟩ := join_iff xs (putT L x) (putT_up hL) hX'.2 hputb (fun e he => hxb e (by simp [he]))
    have hs := step_iff hL hb hbx
    have hcc : Compat (putT L x) xs ↔ Compat L xs := by
      constructor
      · intro h y hy e he hp
        exact h y hy e ((putT_iff hL x e).2 (.inr ⟨he, fun e2 => hne y hy (e2.symm.trans hp)⟩)) hp
      · intro h y hy e he hp
        rcases (putT_iff hL x e).1 he with rfl | ⟨he, _⟩
        · exact absurd hp (hne y hy)
        · exact h y hy e he hp
    have hcons : Compat L (x :: xs) ↔ (∀ e ∈ L, e.path = x.path → e = x ∧ x.kind = 1) ∧ Compat L xs := by
      constructor
      · intro h; exact ⟨h x (by simp), fun y hy => h y (by simp [hy])⟩
      · rintro ⟨h1, h2⟩ y hy
        rcases List.mem_cons.1 hy with rfl | hy
        · exact h1
        · exact h2 y hy
    refine ⟨?_, fun hc => ?_⟩
    · rw [okJ, Bool.and_eq_true, hs, i1, hcc, hcons]
    · obtain ⟨c1, c2⟩ := hcons.1 hc
      obtain ⟨j1, j2⟩ := i2 (hcc.2 c2)
      have hmem : ∀ y, y ∈ putT L x ↔ y ∈ L ∨ y = x := fun y => by
        rw [putT_iff hL]
        constructor
        · rintro (h | ⟨h, _⟩)
          · exact .inr h
          · exact .inl h
        · rintro (h | h)
          · by_cases e : y.path = x.path
            · exact .inl (c1 y h e).1
            · exact .inr ⟨h, e⟩
          · exact .inl h
      have hthere : ∀ y ∈ xs, thereE (putT L x) y.path = thereE L y.path := fun y hy => by
        rw [Bool.eq_iff_iff, there_iff (putT_up hL), there_iff hL]
        constructor
        · rintro ⟨e, he, hp⟩
          rcases (hmem e).1 he with h | h
          · exact ⟨e, h, hp⟩
          · subst h; exact absurd hp (hne y hy)
        · rintro ⟨e, he, hp⟩
          exact ⟨e, (hmem e).2 (.inl he), hp⟩
      refine ⟨fun y => ?_, ?_⟩
      · show y ∈ joinTo (putT L x) xs ↔ _
        rw [j1, hmem, List.mem_cons, or_assoc]
      · show (joinTo (putT L x) xs).length = _
        rw [j2]
        have hf : (xs.filter fun y => !thereE (putT L x) y.path) = xs.filter fun y => !thereE L y.path := List.filter_congr (fun y hy => by rw [hthere y hy])
        rw [hf, List.filter_cons]
        unfold putT
        cases ht : thereE L x.path
        · simp only [Bool.false_eq_true, if_false, Bool.not_false, if_true]
          rw [insAt_len]; simp; omega
        · simp
def bothC (fs es : List Ent) : Nat := (es.filter fun e => thereE fs e.path).length
theorem filter_two (p : Ent → Bool) (xs : List Ent) : (xs.filter p).length + (xs.filter fun x => !p x).length = xs.length := by
  induction xs with
  | nil => rfl
  | cons x xs ih =>
    rw [List.filter_cons, List.filter_cons]
    cases p x <;> simp <;> omega
structure JoinF (es fs X : List Ent) : Prop where
  tree : treeB X = true
  te : treeB es = true
  tf : treeB fs = true
  a : ∀ e ∈ es, thereE X e.path = true ∧ gotE X e.path = e
  b : ∀ e ∈ fs, thereE X e.path = true ∧ gotE X e.path = e
  back : joinOk fs es = true
  same : joinR fs es = X
  len : X.length + bothC fs es = es.length + fs.length
theorem join_all {es fs : List Ent} (h : joinOk es fs = true) : JoinF es fs (joinR es fs) := by
  have hR : joinR es fs = joinTo es fs := by unfold joinR; rw [h]; rfl
  unfold joinOk at h
  simp only [Bool.and_eq_true] at h
  obtain ⟨h1, h2, h3, h4⟩ := h
  have ue := tree_up h1
  have uf := tree_up h2
  obtain ⟨i1, i2⟩ := join_iff fs es ue uf (tree_all h1) (tree_all h2)
  obtain ⟨k1, k2⟩ := join_iff es fs uf ue (tree_all h2) (tree_all h1)
  have hc := i1.1 h3
  have hc2 : Compat fs es := fun x hx e he hp => by
    obtain ⟨a, b⟩ := hc e he x hx hp.symm
    subst a; exact ⟨rfl, b⟩
  obtain ⟨m1, _⟩ := i2 hc
  obtain ⟨n1, n2⟩ := k2 hc2
  have heq : joinTo fs es = joinTo es fs := up_ext (joinTo_up uf es) (joinTo_up ue fs) (fun x => by rw [n1, m1]; exact or_comm)
  have hok : joinOk fs es = true := by unfold joinOk; rw [h1, h2, k1.2 hc2, heq, h4]; rfl
  rw [hR]
  refine ⟨h4, h1, h2, fun e he => there_mem' h4 ((m1 e).2 (.inl he)), fun e he => there_mem' h4 ((m1 e).2 (.inr he)), hok, by unfold joinR; rw [hok]; exact heq, ?_⟩
  rw [← heq, n2]
  have := filter_two (fun e => thereE fs e.path) es
  unfold bothC
  omega
theorem bothC_yes {fs es : List Ent} {k : Nat} {e : Ent} (he : es[k]? = some e) (h : thereE fs e.path = true) : bothC fs (es.take (k + 1)) = bothC fs (es.take k) + 1 := by
  unfold bothC; rw [List.take_add_one, he, List.filter_append]; simp [h]
theorem bothC_no {fs es : List Ent} {k : Nat} {e : Ent} (he : es[k]? = some e) (h : thereE fs e.path = false) : bothC fs (es.take (k + 1)) = bothC fs (es.take k) := by
  unfold bothC; rw [List.take_add_one, he, List.filter_append]; simp [h]
theorem bothC_le (fs es : List Ent) : bothC fs es ≤ es.length := List.length_filter_le _ _
end Go.Proofs.Ytaefjibnnbdaaaa

/- Plain mathematics of patterns: the places at which a pattern may stand behind some items, kept all at once, tell whether it takes just these. -/
namespace Go.Proofs.Ytaefjibnnbdaaaa

/-- A pattern: 'none' takes any run of items, 'some f' one item that f takes. -/
abbrev Pat (α : Type) := List (Option (α → Bool))

def starO {α : Type} (f : List α → Bool) : List α → Bool
  | [] => f []
  | c :: t => f (c :: t) || starO f t
def matchO {α : Type} : Pat α → List α → Bool
  | [], s => s.isEmpty
  | none :: g, s => starO (matchO g) s
  | some f :: g, s => match s with
    | [] => false
    | c :: t => f c && matchO g t

def runAt {α : Type} (xs : Pat α) (i : Nat) : Bool := match xs[i]? with
  | some none => true
  | _ => false
def takeAt {α : Type} (xs : Pat α) (i : Nat) (c : α) : Bool := match xs[i]? with
  | some (some f) => f c
  | _ => false

def skipN {α : Type} (xs : Pat α) (h : Nat → Bool) : Nat → Nat → Bool
  | 0 => h
  | k + 1 => fun j => skipN xs h k j || (j == k + 1 && (skipN xs h k k && runAt xs k))
def passN {α : Type} (xs : Pat α) (h : Nat → Bool) (c : α) : Nat → Nat → Bool
  | 0 => fun _ => false
  | k + 1 => fun j => passN xs h c k j || (h k && ((runAt xs k && j == k) || (takeAt xs k c && j == k + 1)))
def nextP {α : Type} (xs : Pat α) (h : Nat → Bool) (c : α) : Nat → Bool := skipN xs (passN xs h c xs.length) xs.length
def startP {α : Type} (xs : Pat α) : Nat → Bool := skipN xs (fun j => j == 0) xs.length
def placesP {α : Type} (xs : Pat α) (items : List α) : Nat → Bool := items.foldl (nextP xs) (startP xs)
theorem placesP_snoc {α : Type} (xs : Pat α) (items : List α) (c : α) : placesP xs (items ++ [c]) = nextP xs (placesP xs items) c := by simp [placesP]

theorem skipN_iff {α : Type} (xs : Pat α) (h : Nat → Bool) (k j : Nat) : skipN xs h k j = true ↔ ∃ i, i ≤ j ∧ h i = true ∧ (∀ t, i ≤ t → t < j → runAt xs t = true) ∧ (i = j ∨ j ≤ k) := by
  induction k generalizing j with
  | zero =>
    constructor
    · intro e; exact ⟨j, Nat.le_refl _, e, fun t h1 h2 => by omega, .inl rfl⟩
    · rintro ⟨i, h1, h2, _, h4⟩
      have : i = j := by omega
      subst this; exact h2
  | succ k ih =>
    unfold skipN
    rw [Bool.or_eq_true, Bool.and_eq_true, Bool.and_eq_true, ih j, ih k]
    constructor
    · rintro (⟨i, h1, h2, h3, h4⟩ | ⟨hj, ⟨i, h1, h2, h3, _⟩, hr⟩)
      · exact ⟨i, h1, h2, h3, by omega⟩
      · have hj' : j = k + 1 := by simpa using hj
        subst hj'
        refine ⟨i, by omega, h2, fun t a b => ?_, .inr (Nat.le_refl _)⟩
        by_cases e : t = k
        · subst e; exact hr
        · exact h3 t a (by omega)
    · rintro ⟨i, h1, h2, h3, h4⟩
      by_cases e : i = j ∨ j ≤ k
      · exact .inl ⟨i, h1, h2, h3, e⟩
      · have hj : j = k + 1 := by omega
        subst hj
        exact .inr ⟨by simp, ⟨i, by omega, h2, fun t a b => h3 t a (by omega), .inr (Nat.le_refl _)⟩, h3 k (by omega) (by omega)⟩

theorem passN_iff {α : Type} (xs : Pat α) (h : Nat → Bool) (c : α) (k j : Nat) : passN xs h c k j = true ↔ (j < k ∧ h j = true ∧ runAt xs j = true) ∨ ∃ i, i < k ∧ j = i + 1 ∧ h i = true ∧ takeAt xs i c = true := by
  induction k with
  | zero => simp [passN]
  | succ k ih =>
    unfold passN
    rw [Bool.or_eq_true, ih, Bool.and_eq_true, Bool.or_eq_true, Bool.and_eq_true, Bool.and_eq_true]
    simp only [beq_iff_eq]
    constructor
    · rintro ((⟨a, b, d⟩ | ⟨i, a, b, d, e⟩) | ⟨hk, ⟨a, rfl⟩ | ⟨a, rfl⟩⟩)
      · exact .inl ⟨by omega, b, d⟩
      · exact .inr ⟨i, by omega, b, d, e⟩
      · exact .inl ⟨by omega, hk, a⟩
      · exact .inr ⟨k, by omega, rfl, hk, a⟩
    · rintro (⟨a, b, d⟩ | ⟨i, a, b, d, e⟩)
      · by_cases ek : j = k
        · subst ek; exact .inr ⟨b, .inl ⟨d, rfl⟩⟩
        · exact .inl (.inl ⟨by omega, b, d⟩)
      · by_cases ek : i = k
        · subst ek; exact .inr ⟨d, .inr ⟨e, b⟩⟩
        · exact .inl (.inr ⟨i, by omega, b, d, e⟩)

theorem drop_at {α : Type} (xs : Pat α) (i : Nat) (x : Option (α → Bool)) (h : xs[i]? = some x) : xs.drop i = x :: xs.drop (i + 1) := by
  obtain ⟨hi, rfl⟩ := List.getElem?_eq_some_iff.1 h
  exact List.drop_eq_getElem_cons hi
theorem runAt_iff {α : Type} {xs : Pat α} {i : Nat} : runAt xs i = true ↔ xs[i]? = some none := by
  unfold runAt
  split <;> simp_all
theorem starO_of {α : Type} (f : List α → Bool) (s : List α) (h : f s = true) : starO f s = true := by
  cases s with
  | nil => exact h
  | cons c t => simp [starO, h]
theorem match_skip {α : Type} {xs : Pat α} {i : Nat} {r : List α} (hr : runAt xs i = true) (h : matchO (xs.drop (i + 1)) r = true) : matchO (xs.drop i) r = true := by
  rw [drop_at xs i none (runAt_iff.1 hr)]
  exact starO_of _ _ h
theorem match_skips {α : Type} {xs : Pat α} {r : List α} (i d : Nat) (hr : ∀ t, i ≤ t → t < i + d → runAt xs t = true) (h : matchO (xs.drop (i + d)) r = true) : matchO (xs.drop i) r = true := by
  induction d with
  | zero => exact h
  | succ d ih => exact ih (fun t a b => hr t a (by omega)) (match_skip (hr (i + d) (by omega) (by omega)) h)

/-- The places tell all that may come. -/
def OkPl {α : Type} (xs : Pat α) (h : Nat → Bool) (pre : List α) : Prop :=
  (∀ rest, matchO xs (pre ++ rest) = true ↔ ∃ i, i ≤ xs.length ∧ h i = true ∧ matchO (xs.drop i) rest = true) ∧ ∀ i, i < xs.length → h i = true → runAt xs i = true → h (i + 1) = true

theorem okPl_start {α : Type} (xs : Pat α) : OkPl xs (startP xs) [] := by
  refine ⟨fun rest => ⟨fun h => ⟨0, Nat.zero_le _, ?_, h⟩, ?_⟩, fun i hi h hr => ?_⟩
  · exact (skipN_iff _ _ _ _).2 ⟨0, Nat.le_refl _, rfl, fun t _ b => by omega, .inl rfl⟩
  · rintro ⟨i, hi, h1, h2⟩
    obtain ⟨j, hj, hj0, hall, _⟩ := (skipN_iff _ _ _ _).1 h1
    have hj0' : j = 0 := by simpa using hj0
    subst hj0'
    exact match_skips (xs := xs) 0 i (fun t a b => hall t a (by omega)) (by simpa using h2)
  · obtain ⟨j, hj, hj0, hall, _⟩ := (skipN_iff _ _ _ _).1 h
    refine (skipN_iff _ _ _ _).2 ⟨j, by omega, hj0, fun t a b => ?_, .inr (by omega)⟩
    by_cases e : t = i
    · subst e; exact hr
    · exact hall t a (by omega)

theorem okPl_next {α : Type} {xs : Pat α} {h : Nat → Bool} {pre : List α} (c : α) (ok : OkPl xs h pre) : OkPl xs (nextP xs h c) (pre ++ [c]) := by
  obtain ⟨h1, h2⟩ := ok
  have hpass : ∀ i, i ≤ xs.length → passN xs h c xs.length i = true → nextP xs h c i = true := fun i _ hp =>
    (skipN_iff _ _ _ _).2 ⟨i, Nat.le_refl _, hp, fun t a b => by omega, .inl rfl⟩
  refine ⟨fun rest => ?_, fun i hi hn hr => ?_⟩
  · rw [List.append_assoc, List.singleton_append, h1]
    constructor
    · rintro ⟨i, hi, a, b⟩
      obtain ⟨d, hd⟩ : ∃ d, xs.length - i = d := ⟨_, rfl⟩
      induction d generalizing i with
      | zero =>
        rw [List.drop_of_length_le (by omega)] at b
        simp [matchO] at b
      | succ d ih =>
        have hlt : i < xs.length := by omega
        cases hx : xs[i] with
        | none =>
          have hxs : xs[i]? = some none := by rw [List.getElem?_eq_getElem hlt, hx]
          rw [drop_at xs i none hxs] at b
          simp only [matchO, starO, Bool.or_eq_true] at b
          rcases b with b | b
          · exact ih (i + 1) (by omega) (h2 i hlt a (runAt_iff.2 hxs)) b (by omega)
          · refine ⟨i, hi, hpass i hi ((passN_iff _ _ _ _ _).2 (.inl ⟨hlt, a, runAt_iff.2 hxs⟩)), ?_⟩
            rw [drop_at xs i none hxs]; exact b
        | some f =>
          have hxs : xs[i]? = some (some f) := by rw [List.getElem?_eq_getElem hlt, hx]
          rw [drop_at xs i _ hxs] at b
          simp only [matchO, Bool.and_eq_true] at b
          exact ⟨i + 1, by omega, hpass _ (by omega) ((passN_iff _ _ _ _ _).2 (.inr ⟨i, hlt, rfl, a, by unfold takeAt; rw [hxs]; exact b.1⟩)), b.2⟩
    · rintro ⟨j, hj, a, b⟩
      obtain ⟨i, hij, hp, hall, _⟩ := (skipN_iff _ _ _ _).1 a
      have b' : matchO (xs.drop i) rest = true := match_skips (xs := xs) i (j - i) (fun t p q => hall t p (by omega)) (by rw [show i + (j - i) = j by omega]; exact b)
      rcases (passN_iff _ _ _ _ _).1 hp with ⟨hi, hh, hr⟩ | ⟨k, hk, rfl, hh, ht⟩
      · refine ⟨i, by omega, hh, ?_⟩
        rw [drop_at xs i none (runAt_iff.1 hr)] at b' ⊢
        simp only [matchO, starO, Bool.or_eq_true] at b' ⊢
        exact .inr b'
      · refine ⟨k, by omega, hh, ?_⟩
        unfold takeAt at ht
        split at ht
        · rename_i f hxs
          rw [drop_at xs k _ hxs]
          simp only [matchO, Bool.and_eq_true]
          exact ⟨ht, b'⟩
        · cases ht
  · obtain ⟨k, hk, hp, hall, _⟩ := (skipN_iff _ _ _ _).1 hn
    refine (skipN_iff _ _ _ _).2 ⟨k, by omega, hp, fun t a b => ?_, .inr (by omega)⟩
    by_cases e : t = i
    · subst e; exact hr
    · exact hall t a (by omega)

theorem okPl_places {α : Type} (xs : Pat α) (items : List α) : OkPl xs (placesP xs items) items := by
  suffices ∀ (l : List α) (pre : List α), OkPl xs (placesP xs pre) pre → OkPl xs (placesP xs (pre ++ l)) (pre ++ l) by
    simpa using this items [] (okPl_start xs)
  intro l
  induction l with
  | nil => intro pre h; simpa using h
  | cons c l ih =>
    intro pre h
    have := ih (pre ++ [c]) (by rw [placesP_snoc]; exact okPl_next c h)
    simpa using this

theorem match_end {α : Type} {xs : Pat α} {h : Nat → Bool} {pre : List α} (ok : OkPl xs h pre) : h xs.length = matchO xs pre := by
  obtain ⟨h1, h2⟩ := ok
  rw [Bool.eq_iff_iff]
  have h1' := h1 []
  rw [List.append_nil] at h1'
  rw [h1']
  constructor
  · intro hn
    exact ⟨xs.length, Nat.le_refl _, hn, by simp [matchO]⟩
  · rintro ⟨i, hi, a, b⟩
    obtain ⟨d, hd⟩ : ∃ d, xs.length - i = d := ⟨_, rfl⟩
    induction d generalizing i with
    | zero => have : i = xs.length := by omega
              subst this; exact a
    | succ d ih =>
      have hlt : i < xs.length := by omega
      cases hx : xs[i] with
      | none =>
        have hxs : xs[i]? = some none := by rw [List.getElem?_eq_getElem hlt, hx]
        rw [drop_at xs i none hxs] at b
        exact ih (i + 1) (by omega) (h2 i hlt a (runAt_iff.2 hxs)) b (by omega)
      | some f =>
        have hxs : xs[i]? = some (some f) := by rw [List.getElem?_eq_getElem hlt, hx]
        rw [drop_at xs i _ hxs] at b
        simp [matchO] at b
theorem places_match {α : Type} (xs : Pat α) (items : List α) : placesP xs items xs.length = matchO xs items := match_end (okPl_places xs items)
end Go.Proofs.Ytaefjibnnbdaaaa

/- What is left of a text behind a prefix. -/
namespace Go.Proofs.Ytaefjibnnbdaaaa
open Go.RowKit Go.Shelf

set_option maxHeartbeats 1000000 in
theorem slHasPrefixG_any (s p : ByteArray) (w : World) :
    Calls Try.prog 99 #[.string s, .string p] w fun e w' => e = .returned (.bool (Lib.hasPrefix s.data.toList p.data.toList)) ∧ w' = w := by
  rw [← Lib.hasPrefix_of_take, ← Lib.size_eq, ← Lib.size_eq]
  go_enter Try.func99, Try.ntmps99
  go_wp2
  · rename_i h
    go_ret
    refine ⟨?_, rfl⟩
    show Ending.returned (Value.bool ((s.extract 0 p.size).toList == p.toList)) = _
    rw [Lib.extract_toList, Lib.toList_data]
    simp [h]
  · rename_i h
    go_ret
    refine ⟨?_, rfl⟩
    show Ending.returned (Value.bool false) = _
    simp [h]

def hasA (s p : ByteArray) : Bool := Lib.hasPrefix s.data.toList p.data.toList
/-- What is left behind a prefix, or the whole. -/
def cutA (s p : ByteArray) : ByteArray := if hasA s p then s.extract p.size s.size else s

set_option maxHeartbeats 1000000 in
theorem slCutPrefix_any (s p : ByteArray) (hs : s.size ≤ maxLen) (w : World) :
    Calls Try.prog 152 #[.string s, .string p] w fun e w' => e = .returned (.tuple #[.string (cutA s p), .bool (hasA s p)]) ∧ w' = w := by
  have hs' : s.size ≤ 9223372036854775807 := hs
  cases hp : hasA s p
  · have E := hid (show cutA s p = s by simp [cutA, hp])
    go_enter Try.func152, Try.ntmps152
    go_wp2_with fail
    refine (slHasPrefixG_any _ _ _).mono ?_
    rintro e w' ⟨rfl, rfl⟩
    rw [show Lib.hasPrefix s.data.toList p.data.toList = _ from hp]
    go_wp2_with fail
    go_ret2
    exact ⟨by rw [unhid E]; rfl, rfl⟩
  · have E := hid (show cutA s p = s.extract p.size s.size by simp [cutA, hp])
    have hl : p.size ≤ s.size := by rw [Lib.size_eq, Lib.size_eq]; have h2 := hp; unfold hasA Lib.hasPrefix at h2; exact (List.isPrefixOf_iff_prefix.1 h2).length_le
    go_enter Try.func152, Try.ntmps152
    go_wp2_with fail
    refine (slHasPrefixG_any _ _ _).mono ?_
    rintro e w' ⟨rfl, rfl⟩
    rw [show Lib.hasPrefix s.data.toList p.data.toList = _ from hp]
    go_wp2_with fail
    go_ret2
    exact ⟨by rw [unhid E]; rfl, rfl⟩

set_option maxHeartbeats 1000000 in
theorem CutPrefix_any (s p : ByteArray) (hs : s.size ≤ maxLen) (w : World) :
    Calls Try.prog 150 #[.string s, .string p] w fun e w' => e = .returned (.tuple #[.string (cutA s p), .bool (hasA s p)]) ∧ w' = w := by
  go_enter Try.func150, Try.ntmps150
  go_wp2_with fail
  refine (slCutPrefix_any _ _ hs _).mono ?_
  rintro e w' ⟨rfl, rfl⟩
  go_wp2_with fail
  go_ret2
  exact ⟨rfl, rfl⟩
end Go.Proofs.Ytaefjibnnbdaaaa

/- What the beginning of a pattern's name wants, as the program reads it. -/
namespace Go.Proofs.Ytaefjibnnbdaaaa
open Go.RowKit Go.Shelf

/-- One place of a name of a pattern. -/
abbrev W8 := Option (Option (UInt8 ⊕ ByteArray × Bool))
abbrev W8.star : W8 := none
abbrev W8.any : W8 := some none
abbrev W8.byte (c : UInt8) : W8 := some (some (.inl c))
abbrev W8.cls (inner : ByteArray) (others : Bool) : W8 := some (some (.inr (inner, others)))

/-- What a want's value is that the program keeps; what it captured lies in blocks of a kind. -/
def WantIs (W : World) (P : Nat → Prop) : W8 → Bool → Value → Prop
  | none, run, fv => run = true ∧ fv = .nilFunc
  | some none, run, fv => run = false ∧ fv = .func (.func 147) #[] #[]
  | some (some (.inl c)), run, fv => run = false ∧ ∃ b, fv = .func (.func 149) #[] #[.pointer (some ⟨b, 0, none⟩)] ∧ P b ∧ b < W.heap.size ∧ W.cell? ⟨b, 0, none⟩ = some (.int .u8 c.toNat)
  | some (some (.inr (inner, others))), run, fv => run = false ∧ ∃ b d, fv = .func (.func 151) #[] #[.pointer (some ⟨b, 0, none⟩), .pointer (some ⟨d, 0, none⟩)] ∧ (P b ∧ b < W.heap.size ∧ W.cell? ⟨b, 0, none⟩ = some (.string inner)) ∧ P d ∧ d < W.heap.size ∧ W.cell? ⟨d, 0, none⟩ = some (.bool others)
def WantR (W : World) (P : Nat → Prop) (r : Option (W8 × Nat)) (run : Bool) (fv : Value) (sz : Int) (ok : Bool) : Prop :=
  match r with
  | none => run = false ∧ fv = .nilFunc ∧ sz = 0 ∧ ok = false
  | some (x, n) => ok = true ∧ sz = n ∧ WantIs W P x run fv
theorem WantIs.kept {W W' : World} {P P' : Nat → Prop} {x : W8} {run : Bool} {fv : Value} (h : WantIs W P x run fv) (hs : W.heap.size ≤ W'.heap.size) (hk : ∀ b, P b → b < W.heap.size → W'.heap[b]? = W.heap[b]?) (hP : ∀ b, P b → b < W.heap.size → P' b) : WantIs W' P' x run fv := by
  rcases x with _ | _ | c | ⟨inner, others⟩
  · exact h
  · exact h
  · obtain ⟨h0, b, h1, h2, h3, h4⟩ := h
    exact ⟨h0, b, h1, hP b h2 h3, Nat.lt_of_lt_of_le h3 hs, (World.cell?_of_block (w := W) (hk b h2 h3)).trans h4⟩
  · obtain ⟨h0, b, d, h1, ⟨h2, h3, h4⟩, h5, h6, h7⟩ := h
    exact ⟨h0, b, d, h1, ⟨hP b h2 h3, Nat.lt_of_lt_of_le h3 hs, (World.cell?_of_block (w := W) (hk b h2 h3)).trans h4⟩, hP d h5 h6, Nat.lt_of_lt_of_le h6 hs, (World.cell?_of_block (w := W) (hk d h5 h6)).trans h7⟩
theorem WantR.kept {W W' : World} {P P' : Nat → Prop} {r : Option (W8 × Nat)} {run : Bool} {fv : Value} {sz : Int} {ok : Bool} (h : WantR W P r run fv sz ok) (hs : W.heap.size ≤ W'.heap.size) (hk : ∀ b, P b → b < W.heap.size → W'.heap[b]? = W.heap[b]?) (hP : ∀ b, P b → b < W.heap.size → P' b) : WantR W' P' r run fv sz ok := by
  cases r with
  | none => exact h
  | some p => obtain ⟨x, n⟩ := p; exact ⟨h.1, h.2.1, h.2.2.kept hs hk hP⟩
theorem WantIs.form {W : World} {P : Nat → Prop} {x : W8} {run : Bool} {fv : Value} (h : WantIs W P x run fv) : fv = .nilFunc ∨ ∃ f ca, fv = .func (.func f) #[] ca := by
  rcases x with _ | _ | c | ⟨inner, others⟩
  · exact .inl h.2
  · exact .inr ⟨_, _, h.2⟩
  · obtain ⟨_, b, g1, _⟩ := h; exact .inr ⟨_, _, g1⟩
  · obtain ⟨_, b, d, g1, _⟩ := h; exact .inr ⟨_, _, g1⟩
theorem WantR.oneCell {W : World} {P : Nat → Prop} {r : Option (W8 × Nat)} {run : Bool} {fv : Value} {sz : Int} {ok : Bool} (h : WantR W P r run fv sz ok) : fv.oneCell' = true := by
  have : fv = .nilFunc ∨ ∃ f ca, fv = .func (.func f) #[] ca := by
    cases r with
    | none => exact .inl h.2.1
    | some p => obtain ⟨x, n⟩ := p; exact h.2.2.form
  rcases this with rfl | ⟨f, ca, rfl⟩ <;> rfl
theorem cell_two_l (W : World) (u v : Value) (t : TypeId) : (W.alloc (.cells #[u, v] t)).cell? ⟨W.heap.size, 0, none⟩ = some u ∧ (W.alloc (.cells #[u, v] t)).cell? ⟨W.heap.size, 1, none⟩ = some v ∧ (W.alloc (.cells #[u, v] t)).frozen? ⟨W.heap.size, 0, none⟩ = false ∧ (W.alloc (.cells #[u, v] t)).frozen? ⟨W.heap.size, 1, none⟩ = false := by
  refine ⟨?_, ?_, ?_, ?_⟩ <;> simp [go_sem]
/-- What a class is read as. -/
def bang : ByteArray := ⟨#[33]⟩
def clsA (s : ByteArray) (i : Nat) : ByteArray := cutA (s.extract 1 i) bang
def classR (s : ByteArray) : Option (W8 × Nat) :=
  if Lib.indexByte s.data.toList 93 < 0 then none
  else if (clsA s (Lib.indexByte s.data.toList 93).toNat).toList.isEmpty || !((clsA s (Lib.indexByte s.data.toList 93).toNat).data.toList.all fun c => nameB c.toNat) then none
  else some (.cls (clsA s (Lib.indexByte s.data.toList 93).toNat) (hasA (s.extract 1 (Lib.indexByte s.data.toList 93).toNat) bang), (Lib.indexByte s.data.toList 93).toNat + 1)

set_option maxRecDepth 100000 in
set_option maxHeartbeats 2000000 in
theorem classWant_any (s : ByteArray) (hs : s.size ≤ maxLen) (h0 : s.data.toList[0]? = some 91) (w : World) :
    Calls Try.prog 148 #[.string s] w fun e W' => ∃ run fv sz ok, e = .returned (.tuple #[.agg #[.bool run, fv], .int .i64 sz, .bool ok]) ∧ WantR W' (fun b => w.heap.size ≤ b) (classR s) run fv sz ok ∧ Below w.heap.size w W' := by
  have hs' : s.size ≤ 9223372036854775807 := hs
  have hc0 := cell_two_l w (.bool false) .nilFunc 155
  obtain ⟨c0, c1, f0, f1⟩ := hc0
  have HB0 := hid (show Below w.heap.size w (w.alloc (.cells #[.bool false, .nilFunc] 155)) from (Below.refl _ w).alloc (Nat.le_refl _) _)
  by_cases hi : Lib.indexByte s.data.toList 93 < 0
  · have E := hid (show classR s = none by simp [classR, hi])
    go_enter Try.func148, Try.ntmps148
    go_wp2_with fail
    refine (IndexByte_any s 93 _).mono ?_
    rintro e w1 ⟨rfl, rfl⟩
    have hi' : Lib.indexByte s.data.toList (Int.toNat 93).toUInt8 < 0 := hi
    go_wp2_with fail
    refine bodyPost_ret (v := .tuple #[.agg #[.bool false, .nilFunc], .int .i64 0, .bool false]) (by simp [results, Try.results148, go_sem]) rfl ⟨false, .nilFunc, 0, false, rfl, by rw [unhid E]; exact ⟨rfl, rfl, rfl, rfl⟩, ?_⟩
    exact unhid HB0
  · obtain ⟨i, ei⟩ : ∃ i : Nat, Lib.indexByte s.data.toList 93 = i := ⟨(Lib.indexByte s.data.toList 93).toNat, by omega⟩
    have hil : i < s.size := by rw [Lib.size_eq]; exact (cutB_some 93 _ i ei).1
    have hi1 : 1 ≤ i := by
      rcases Nat.eq_zero_or_pos i with rfl | h
      · exfalso
        cases hl : s.data.toList with
        | nil => rw [hl] at h0; cases h0
        | cons c t =>
          rw [hl] at h0 ei
          simp at h0
          subst h0
          have := Lib.indexByte_ge t 93
          simp [Lib.indexByte] at ei
          split at ei <;> omega
      · exact h
    have mz : (s.extract 1 i).size ≤ maxLen := by rw [ByteArray.size_extract]; unfold maxLen; omega
    have cz : (clsA s i).size ≤ maxLen := by
      unfold clsA cutA; split
      · rw [ByteArray.size_extract]; unfold maxLen at mz ⊢; omega
      · exact mz
    have EC : classR s = if (clsA s i).toList.isEmpty || !((clsA s i).data.toList.all fun c => nameB c.toNat) then none else some (.cls (clsA s i) (hasA (s.extract 1 i) bang), i + 1) := by
      unfold classR; rw [if_neg hi, ei]; rfl
    have HC := hid EC
    have Ei := hid (show Lib.indexByte s.data.toList (Int.toNat 93).toUInt8 = i from ei)
    clear EC ei hi
    go_enter Try.func148, Try.ntmps148
    go_wp2_with fail
    refine (IndexByte_any s 93 _).mono ?_
    rintro e w1 ⟨rfl, rfl⟩
    rw [unhid Ei]
    go_wp2_with fail
    refine (CutPrefix_any (s.extract 1 i) bang mz _).mono ?_
    rintro e w1 ⟨rfl, rfl⟩
    rw [show cutA (s.extract 1 i) bang = clsA s i from rfl]
    generalize hasA (s.extract 1 i) bang = oth at HC ⊢
    generalize clsA s i = inner at HC cz ⊢
    have hW : ∃ W, W = ((w.alloc (.cells #[.bool false, .nilFunc] 155)).alloc (.cells #[.string inner] 9)).alloc (.cells #[.bool oth] 4) := ⟨_, rfl⟩
    obtain ⟨W, hW⟩ := hW
    have hz : W.heap.size = w.heap.size + 3 := by rw [hW]; simp
    have HBW := hid (show Below w.heap.size w W by rw [hW]; exact (((Below.refl _ w).alloc (Nat.le_refl _) _).alloc (by simp) _).alloc (by simp; omega) _)
    have hA : Below (w.heap.size + 1) (w.alloc (.cells #[.bool false, .nilFunc] 155)) W := by rw [hW]; exact ((Below.refl _ _).alloc (by simp) _).alloc (by simp) _
    have a0 := hid ((hA.cell (p := ⟨w.heap.size, 0, none⟩) (Nat.lt_succ_self _)).trans c0)
    have a1 := hid ((hA.cell (p := ⟨w.heap.size, 1, none⟩) (Nat.lt_succ_self _)).trans c1)
    have g0 := hid ((hA.frozen (p := ⟨w.heap.size, 0, none⟩) (Nat.lt_succ_self _)).trans f0)
    have g1 := hid ((hA.frozen (p := ⟨w.heap.size, 1, none⟩) (Nat.lt_succ_self _)).trans f1)
    have b0 := hid (show W.cell? ⟨w.heap.size + 1, 0, none⟩ = some (.string inner) by rw [hW]; simp [go_sem])
    have d0 := hid (show W.cell? ⟨w.heap.size + 1 + 1, 0, none⟩ = some (.bool oth) by rw [hW]; simp [go_sem])
    clear hA c0 c1 f0 f1
    cases he : inner.toList.isEmpty
    · go_wp2_with fail
      rw [← hW]
      clear hW
      refine (allBytes_any 120 nameB eg120 isNameByte_any inner cz _).mono ?_
      rintro e w2 ⟨rfl, hb⟩
      have HB2 := hid ((unhid HBW).trans (hb.mono (unhid HBW).size))
      have c0 := (hb.cell (p := ⟨w.heap.size, 0, none⟩) (by rw [hz]; simp)).trans (unhid a0)
      have c1 := (hb.cell (p := ⟨w.heap.size, 1, none⟩) (by rw [hz]; simp)).trans (unhid a1)
      have f0 := (hb.frozen (p := ⟨w.heap.size, 0, none⟩) (by rw [hz]; simp)).trans (unhid g0)
      have f1 := (hb.frozen (p := ⟨w.heap.size, 1, none⟩) (by rw [hz]; simp)).trans (unhid g1)
      have b1 := hid ((hb.cell (p := ⟨w.heap.size + 1, 0, none⟩) (by rw [hz]; simp)).trans (unhid b0))
      have d1 := hid ((hb.cell (p := ⟨w.heap.size + 1 + 1, 0, none⟩) (by rw [hz]; simp)).trans (unhid d0))
      have hz2 : w.heap.size + 3 ≤ w2.heap.size := by have := hb.size; omega
      clear hb
      cases ha : (inner.data.toList.all fun c => nameB c.toNat)
      · have E := hid (show classR s = none by rw [unhid HC, he, ha]; rfl)
        go_wp2_with fail
        refine bodyPost_ret (v := .tuple #[.agg #[.bool false, .nilFunc], .int .i64 0, .bool false]) (by simp [results, Try.results148, go_sem, World.cell?_setCell_same', c0, c1]) rfl ⟨false, .nilFunc, 0, false, rfl, by rw [unhid E]; exact ⟨rfl, rfl, rfl, rfl⟩, ?_⟩
        exact ((unhid HB2).setCell (Nat.le_refl _) _).setCell (Nat.le_refl _) _
      · have E := hid (show classR s = some (.cls inner oth, i + 1) by rw [unhid HC, he, ha]; rfl)
        go_wp2_with fail
        refine bodyPost_ret (v := .tuple #[.agg #[.bool false, .func (.func 151) #[] #[.pointer (some ⟨w.heap.size + 1, 0, none⟩), .pointer (some ⟨w.heap.size + 1 + 1, 0, none⟩)]], .int .i64 ((i : Int) + 1), .bool true]) (by simp [results, Try.results148, go_sem, World.cell?_setCell_same', c0, c1]) rfl ⟨false, _, (i : Int) + 1, true, rfl, ?_, ?_⟩
        · rw [unhid E]
          refine ⟨rfl, by simp, rfl, _, _, rfl, ⟨by omega, by simp; omega, ?_⟩, by omega, by simp; omega, ?_⟩
          · rw [World.cell?_setCell_other (h := by simp), World.cell?_setCell_other (h := by simp)]; exact unhid b1
          · rw [World.cell?_setCell_other (h := by simp), World.cell?_setCell_other (h := by simp)]; exact unhid d1
        · exact ((unhid HB2).setCell (Nat.le_refl _) _).setCell (Nat.le_refl _) _
    · have E := hid (show classR s = none by rw [unhid HC, he]; rfl)
      go_wp2_with fail
      refine bodyPost_ret (v := .tuple #[.agg #[.bool false, .nilFunc], .int .i64 0, .bool false]) (by simp [results, Try.results148, go_sem]) rfl ⟨false, .nilFunc, 0, false, rfl, by rw [unhid E]; exact ⟨rfl, rfl, rfl, rfl⟩, ?_⟩
      rw [← hW]; exact unhid HBW

/-- What the beginning of a text that is not empty is read as. -/
def firstR (s : ByteArray) (c : UInt8) : Option (W8 × Nat) :=
  if c = 42 then some (.star, 1) else if c = 63 then some (.any, 1) else if c = 91 then classR s else if nameB c.toNat then some (.byte c, 1) else none
theorem eq_no {c b : UInt8} {n : Int} (hn : (b.toNat : Int) = n) (h : c ≠ b) : (((c.toNat : Nat) : Int) == n) = false := by
  rw [beq_eq_false_iff_ne]
  intro e
  exact h (UInt8.toNat_inj.1 (by omega))

set_option maxRecDepth 100000 in
set_option maxHeartbeats 2000000 in
theorem firstWant_any (s : ByteArray) (hs : s.size ≤ maxLen) (h0 : 0 < s.size) (w : World) :
    Calls Try.prog 139 #[.string s] w fun e W' => ∃ run fv sz ok, e = .returned (.tuple #[.agg #[.bool run, fv], .int .i64 sz, .bool ok]) ∧ WantR W' (fun b => w.heap.size ≤ b) (firstR s s[0]) run fv sz ok ∧ Below w.heap.size w W' := by
  have hs' : s.size ≤ 9223372036854775807 := hs
  have HBW := hid (show Below w.heap.size w ((w.alloc (.cells #[.bool false, .nilFunc] 155)).alloc (.cells #[.int .u8 (s[0]).toNat] 5)) from ((Below.refl _ w).alloc (Nat.le_refl _) _).alloc (by simp) _)
  have h91 : s[0] = 91 → s.data.toList[0]? = some 91 := fun h => by rw [getByte s 0 h0, h]
  have H91 := hid h91
  clear h91
  have two : ∀ (x y : Obj), Below w.heap.size w ((w.alloc x).alloc y) := fun x y => ((Below.refl _ w).alloc (Nat.le_refl _) _).alloc (by simp) _
  have H2 := hid two
  clear two
  by_cases e1 : s[0] = 42
  · have E := hid (show firstR s s[0] = some (.star, 1) by rw [e1]; rfl)
    have b1 : (((s[0]).toNat : Int) == 42) = true := by rw [e1]; rfl
    clear e1
    go_enter Try.func139, Try.ntmps139
    go_wp2_with fail
    refine bodyPost_ret (v := .tuple #[.agg #[.bool true, .nilFunc], .int .i64 1, .bool true]) (by simp [results, Try.results139, go_sem]) rfl ⟨true, .nilFunc, 1, true, rfl, by rw [unhid E]; exact ⟨rfl, rfl, rfl, rfl⟩, unhid H2 _ _⟩
  have b1 := eq_no (n := 42) rfl e1
  by_cases e2 : s[0] = 63
  · have E := hid (show firstR s s[0] = some (.any, 1) by rw [e2]; rfl)
    have b2 : (((s[0]).toNat : Int) == 63) = true := by rw [e2]; rfl
    clear e1 e2
    go_enter Try.func139, Try.ntmps139
    go_wp2_with fail
    refine bodyPost_ret (v := .tuple #[.agg #[.bool false, .func (.func 147) #[] #[]], .int .i64 1, .bool true]) (by simp [results, Try.results139, go_sem]) rfl ⟨false, _, 1, true, rfl, by rw [unhid E]; exact ⟨rfl, rfl, rfl, rfl⟩, unhid H2 _ _⟩
  have b2 := eq_no (n := 63) rfl e2
  by_cases e3 : s[0] = 91
  · have E := hid (show firstR s s[0] = classR s by unfold firstR; rw [if_neg e1, if_neg e2, if_pos e3])
    have b3 : (((s[0]).toNat : Int) == 91) = true := by rw [e3]; rfl
    have h9 := unhid H91 e3
    have H9 := hid h9
    clear e1 e2 e3 h9
    have c := cell_two_l w (.bool false) .nilFunc 155
    have CL := hid c
    clear c
    go_enter Try.func139, Try.ntmps139
    go_wp2_with fail
    refine (classWant_any s hs (unhid H9) _).mono ?_
    rintro e w2 ⟨run, fv, sz, ok, rfl, hR, hb⟩
    have hb' : Below (w.heap.size + 1) (w.alloc (.cells #[.bool false, .nilFunc] 155)) w2 := ((Below.refl _ _).alloc (by simp) _).trans (hb.mono (by simp))
    obtain ⟨k0, k1, k2, k3⟩ := unhid CL
    have c0 := (hb'.cell (p := ⟨w.heap.size, 0, none⟩) (Nat.lt_succ_self _)).trans k0
    have c1 := (hb'.cell (p := ⟨w.heap.size, 1, none⟩) (Nat.lt_succ_self _)).trans k1
    have f0 := (hb'.frozen (p := ⟨w.heap.size, 0, none⟩) (Nat.lt_succ_self _)).trans k2
    have f1 := (hb'.frozen (p := ⟨w.heap.size, 1, none⟩) (Nat.lt_succ_self _)).trans k3
    have HB2 := hid ((unhid HBW).trans (hb.mono (unhid HBW).size))
    have HR := hid (hR.kept (P' := fun b => w.heap.size + 2 ≤ b) (Nat.le_refl _) (fun _ _ _ => rfl) (fun b hb _ => by simpa using hb))
    clear hR hb hb' k0 k1 k2 k3
    have hst : ∀ m, (store ⟨w.heap.size, 1, none⟩ fv m).run Try.prog (w2.setCell ⟨w.heap.size, 0, none⟩ (.bool run)) = stored Try.prog (w2.setCell ⟨w.heap.size, 0, none⟩ (.bool run)) ⟨w.heap.size, 1, none⟩ fv m := fun m => run_store _ _ _ _ _ ((unhid HR).oneCell)
    go_wp2_with fail
    refine bodyPost_ret (v := .tuple #[.agg #[.bool run, fv], .int .i64 sz, .bool ok]) (by simp [results, Try.results139, go_sem, World.cell?_setCell_same', c0, c1]) rfl ⟨run, fv, sz, ok, rfl, ?_, ((unhid HB2).setCell (Nat.le_refl _) _).setCell (Nat.le_refl _) _⟩
    rw [unhid E]
    exact (unhid HR).kept (by simp) (fun b hb _ => by
      rw [Below.heap_setCell _ _ _ b (by simp; omega), Below.heap_setCell _ _ _ b (by simp; omega)]) (fun b hb _ => by omega)
  have b3 := eq_no (n := 91) rfl e3
  cases hn : nameB ((s[0]).toNat : Int)
  · have E := hid (show firstR s s[0] = none by unfold firstR; rw [if_neg e1, if_neg e2, if_neg e3, hn]; rfl)
    clear e1 e2 e3
    go_enter Try.func139, Try.ntmps139
    go_wp2_with fail
    refine (isNameByte_any _ _).mono ?_
    rintro e w' ⟨rfl, rfl⟩
    rw [hn]
    go_wp2_with fail
    refine bodyPost_ret (v := .tuple #[.agg #[.bool false, .nilFunc], .int .i64 0, .bool false]) (by simp [results, Try.results139, go_sem]) rfl ⟨false, .nilFunc, 0, false, rfl, by rw [unhid E]; exact ⟨rfl, rfl, rfl, rfl⟩, unhid H2 _ _⟩
  · have E := hid (show firstR s s[0] = some (.byte s[0], 1) by unfold firstR; rw [if_neg e1, if_neg e2, if_neg e3, if_pos hn])
    clear e1 e2 e3
    go_enter Try.func139, Try.ntmps139
    go_wp2_with fail
    refine (isNameByte_any _ _).mono ?_
    rintro e w' ⟨rfl, rfl⟩
    rw [hn]
    go_wp2_with fail
    refine bodyPost_ret (v := .tuple #[.agg #[.bool false, .func (.func 149) #[] #[.pointer (some ⟨w.heap.size + 1, 0, none⟩)]], .int .i64 1, .bool true]) (by simp [results, Try.results139, go_sem]) rfl ⟨false, _, 1, true, rfl, ?_, unhid H2 _ _⟩
    rw [unhid E]
    refine ⟨rfl, rfl, rfl, _, rfl, by omega, by simp, ?_⟩
    simp
end Go.Proofs.Ytaefjibnnbdaaaa

/- What a name of a pattern wants, byte by byte, as the program reads it. -/
namespace Go.Proofs.Ytaefjibnnbdaaaa
open Go.RowKit Go.Shelf

theorem firstR_le {s : ByteArray} {x : W8} {n : Nat} (h0 : 0 < s.size) (h : firstR s s[0] = some (x, n)) : 1 ≤ n ∧ n ≤ s.size := by
  unfold firstR at h
  split at h
  · cases h; omega
  · split at h
    · cases h; omega
    · split at h
      · unfold classR at h
        split at h
        · cases h
        · split at h
          · cases h
          · rename_i hi _
            cases h
            obtain ⟨i, ei⟩ : ∃ i : Nat, Lib.indexByte s.data.toList 93 = i := ⟨(Lib.indexByte s.data.toList 93).toNat, by omega⟩
            have hil : i < s.size := by rw [Lib.size_eq]; exact (cutB_some 93 _ i ei).1
            rw [ei]; simp; omega
      · split at h
        · cases h; omega
        · cases h

def wantsF : Nat → ByteArray → Option (List W8)
  | 0, s => if s.size = 0 then some [] else none
  | f + 1, s => if h : 0 < s.size then
      match firstR s s[0] with
      | none => none
      | some (x, n) => (wantsF f (s.extract n s.size)).map (x :: ·)
    else some []
def wants (s : ByteArray) : Option (List W8) := wantsF s.size s
theorem wantsF_any : ∀ (f g : Nat) (s : ByteArray), s.size ≤ f → s.size ≤ g → wantsF f s = wantsF g s := by
  intro f
  induction f with
  | zero =>
    intro g s hf _
    have h0 : s.size = 0 := by omega
    cases g with
    | zero => rfl
    | succ g => unfold wantsF; rw [if_pos h0, dif_neg (by omega)]
  | succ f ih =>
    intro g s hf hg
    by_cases h0 : 0 < s.size
    · cases g with
      | zero => omega
      | succ g =>
        unfold wantsF
        rw [dif_pos h0, dif_pos h0]
        cases hr : firstR s s[0] with
        | none => rfl
        | some p =>
          obtain ⟨x, n⟩ := p
          have hn := firstR_le h0 hr
          show (wantsF f (s.extract n s.size)).map _ = (wantsF g (s.extract n s.size)).map _
          rw [ih g _ (by rw [ByteArray.size_extract]; omega) (by rw [ByteArray.size_extract]; omega)]
    · cases g with
      | zero => unfold wantsF; rw [dif_neg h0, if_pos (by omega)]
      | succ g => unfold wantsF; rw [dif_neg h0, dif_neg h0]
theorem wants_nil {s : ByteArray} (h : s.size = 0) : wants s = some [] := by
  unfold wants; rw [h]; unfold wantsF; rw [if_pos h]
theorem wants_none {s : ByteArray} (h0 : 0 < s.size) (h : firstR s s[0] = none) : wants s = none := by
  unfold wants
  rw [wantsF_any s.size (s.size + 1) s (Nat.le_refl _) (Nat.le_succ _)]
  unfold wantsF
  rw [dif_pos h0, h]
theorem wants_some {s : ByteArray} {x : W8} {n : Nat} (h0 : 0 < s.size) (h : firstR s s[0] = some (x, n)) : wants s = (wants (s.extract n s.size)).map (x :: ·) := by
  have hn := firstR_le h0 h
  unfold wants
  rw [wantsF_any s.size (s.size + 1) s (Nat.le_refl _) (Nat.le_succ _)]
  show wantsF (s.size + 1) s = _
  rw [wantsF, dif_pos h0, h]
  show (wantsF s.size (s.extract n s.size)).map _ = _
  rw [wantsF_any s.size (s.extract n s.size).size _ (by rw [ByteArray.size_extract]; omega) (Nat.le_refl _)]

/-- Wants that the program keeps in a row. -/
def Wants (W : World) (base : Nat) (v : Value) (xs : List W8) : Prop :=
  ∃ cells, W.ownsRow base 155 2 v xs.length cells ∧ ∀ i x, xs[i]? = some x → ∃ run fv, cells[2 * i]? = some (.bool run) ∧ cells[2 * i + 1]? = some fv ∧ WantIs W (fun b => base ≤ b ∧ v.ownBlock ≠ some b) x run fv
theorem wants_row_nil (W : World) (base : Nat) : Wants W base (.slice none 0 0) [] := ⟨[], World.ownsRow_nil _ _ _ _, fun i x h => by simp at h⟩
def lenOf : Value → Nat
  | .string x => x.size
  | _ => 0
theorem ownsRow_shG {W : World} {base : Nat} {e : TypeId} {size : Nat} {v : Value} {n : Nat} {xs : List Value} (h : W.ownsRow base e size v n xs) : ∃ a cap, v = .slice a n cap := by
  rcases h.2 with ⟨rfl, rfl⟩ | ⟨g, cap, cur, rfl, _⟩
  · exact ⟨none, 0, rfl⟩
  · exact ⟨_, _, rfl⟩
theorem ownsRow_below {w w' : World} {base : Nat} {e : TypeId} {size : Nat} {v : Value} {n : Nat} {xs : List Value} (h : w.ownsRow base e size v n xs) (hb : Below w.heap.size w w') : w'.ownsRow base e size v n xs := by
  refine ⟨h.1, ?_⟩
  rcases h.2 with h1 | ⟨g, cap, cur, h1, h2, h3, h4⟩
  · exact .inl h1
  · refine .inr ⟨g, cap, cur, h1, h2, ?_, h4⟩
    rw [hb.block g (Array.getElem?_eq_some_iff.1 h3).1]; exact h3
theorem cells_two_new (W : World) (u v : Value) (t : TypeId) (B : Nat) (hB : B = W.heap.size) : ∀ (j : Nat) x, [u, v][j]? = some x → (W.alloc (.cells #[u, v] t)).cell? ((⟨B, 0, none⟩ : Addr).add j) = some x := by
  subst hB
  obtain ⟨c0, c1, -, -⟩ := cell_two_l W u v t
  intro j x hj
  match j with
  | 0 => simp at hj; subst hj; exact c0
  | 1 => simp at hj; subst hj; exact c1
  | j + 2 => simp at hj
theorem infoWant : (Try.prog.info? 155).map (fun i => (i.zero, i.size, i.bytes)) = some (some (.agg #[.bool false, .nilFunc]), 2, 16) := by kernel_rfl

/-- One want more in the row. -/
theorem below_push {w wr w1 w2 : World} {o o' : Obj} {v : Value} (hB : Below w.heap.size w wr) (hB1 : Below wr.heap.size wr w1) (hgrow : ((w1.alloc o).alloc o').grownBy w2 v.ownBlock) (hv : ∀ g, v.ownBlock = some g → w.heap.size ≤ g) : Below w.heap.size w w2 := by
  have h1 := (((hB.trans (hB1.mono hB.size)).alloc (Nat.le_trans hB.size hB1.size) o).alloc (by have := hB.size; have := hB1.size; simp; omega) o')
  exact h1.grown hgrow h1.size hv
theorem wants_push {wr w1 w2 : World} {o o' : Obj} {base : Nat} {v v' : Value} {xs : List W8} {cells : List Value} {x : W8} {run : Bool} {fv : Value}
    (h : ∀ i x, xs[i]? = some x → ∃ run fv, cells[2 * i]? = some (.bool run) ∧ cells[2 * i + 1]? = some fv ∧ WantIs wr (fun b => base ≤ b ∧ v.ownBlock ≠ some b) x run fv)
    (hl : cells.length = xs.length * 2) (hbase : base ≤ wr.heap.size) (hv : ∀ g, v.ownBlock = some g → g < wr.heap.size) (hB1 : Below wr.heap.size wr w1) (hx : WantIs w1 (fun b => wr.heap.size ≤ b) x run fv)
    (hgrow : ((w1.alloc o).alloc o').grownBy w2 v.ownBlock) (hat : v'.ownBlock = v.ownBlock ∨ ∃ g, v'.ownBlock = some g ∧ w1.heap.size ≤ g) :
    ∀ i y, (xs ++ [x])[i]? = some y → ∃ run' fv', (cells ++ [.bool run, fv])[2 * i]? = some (.bool run') ∧ (cells ++ [.bool run, fv])[2 * i + 1]? = some fv' ∧ WantIs w2 (fun b => base ≤ b ∧ v'.ownBlock ≠ some b) y run' fv' := by
  have hW : Below w1.heap.size w1 ((w1.alloc o).alloc o') := ((Below.refl _ w1).alloc (Nat.le_refl _) _).alloc (by simp) _
  have hs1 := hB1.size
  have hs2 := hW.size
  have hs3 := hgrow.size
  have far : ∀ b, b < w1.heap.size → v.ownBlock ≠ some b → w2.heap[b]? = w1.heap[b]? := fun b hb hne => (hgrow.block b (by omega) (by intro e; first | exact hne e | exact hne e.symm)).trans (hW.block b hb)
  intro i y hi
  by_cases hlt : i < xs.length
  · rw [List.getElem?_append_left hlt] at hi
    obtain ⟨r, f, h1, h2, h3⟩ := h i y hi
    refine ⟨r, f, by rw [List.getElem?_append_left (by omega)]; exact h1, by rw [List.getElem?_append_left (by omega)]; exact h2, ?_⟩
    refine h3.kept (by omega) (fun b hb hlb => (far b (by omega) hb.2).trans (hB1.block b hlb)) (fun b hb hlb => ⟨hb.1, ?_⟩)
    rcases hat with e | ⟨g, e, hg⟩
    · rw [e]; exact hb.2
    · rw [e]; intro e'; cases e'; omega
  · rw [List.getElem?_append_right (by omega)] at hi
    have hi0 : i = xs.length := by
      have := (List.getElem?_eq_some_iff.1 hi).1
      simp at this; omega
    subst hi0
    simp at hi
    subst hi
    refine ⟨run, fv, by rw [List.getElem?_append_right (by omega), show 2 * xs.length - cells.length = 0 by omega]; rfl, by rw [List.getElem?_append_right (by omega), show 2 * xs.length + 1 - cells.length = 1 by omega]; rfl, ?_⟩
    refine hx.kept (by omega) (fun b hb hlb => far b hlb (fun e => by have := hv b e; omega)) (fun b hb hlb => ⟨by omega, ?_⟩)
    rcases hat with e | ⟨g, e, hg⟩
    · rw [e]; intro e'; have := hv b e'; omega
    · rw [e]; intro e'; cases e'; omega

set_option maxRecDepth 100000 in
set_option maxHeartbeats 4000000 in
theorem byteWants_any (s : ByteArray) (hs : s.size ≤ 1048576) (w : World) :
    Calls Try.prog 123 #[.string s] w fun e W' => ∃ v, e = .returned (.tuple #[v, .bool ((wants s).any fun l => !l.isEmpty)]) ∧ (∃ a l c, v = .slice a l c) ∧ (∀ xs, wants s = some xs → Wants W' w.heap.size v xs) ∧ Below w.heap.size w W' := by
  go_enter Try.func123, Try.ntmps123
  obtain ⟨i0, hi, hz0, hz1, hz2⟩ := info_parts infoWant
  go_wp2_with fail
  go_loopw [4, 5, 6, 7, 8] (fun v r _ _ _ wr => ∃ (xs : List W8) (rest : ByteArray) (cells : List Value) (ad : Option Addr) (cap : Nat), v = .slice ad xs.length cap ∧ r = .string rest ∧ rest.size + xs.length ≤ s.size ∧ Hid (wants s = (wants rest).map (xs ++ ·)) ∧
      wr.ownsRow w.heap.size 155 2 (.slice ad xs.length cap) xs.length cells ∧ Hid (∀ i x, xs[i]? = some x → ∃ run fv, cells[2 * i]? = some (.bool run) ∧ cells[2 * i + 1]? = some fv ∧ WantIs wr (fun b => w.heap.size ≤ b ∧ (Value.slice ad xs.length cap).ownBlock ≠ some b) x run fv) ∧ Below w.heap.size w wr)
    (fun _ r _ _ _ _ => lenOf r)
  case atStart => exact ⟨[], s, [], none, 0, rfl, rfl, by simp, hid (by simp), World.ownsRow_nil _ _ _ _, hid (fun i x h => by simp at h), Below.refl _ _⟩
  case round =>
    obtain ⟨xs, rest, cells, ad, cap, rfl, rfl, hlen, hw, hown, hwants, hB⟩ := hrel
    have HO := hid hown
    have HB := hid hB
    clear hown hB
    by_cases h0 : 0 < rest.size
    · have he : rest.toList.isEmpty = false := by
        rw [Lib.toList_data, List.isEmpty_eq_false_iff, ← List.length_pos_iff, ← Lib.size_eq]; exact h0
      have rz : rest.size ≤ maxLen := by unfold maxLen; omega
      go_wp2_with fail
      refine (firstWant_any rest rz h0 _).mono ?_
      rintro e w1 ⟨run, fv, sz, ok, rfl, hR, hb⟩
      have HR := hid hR
      have HB1 := hid hb
      clear hR hb
      cases hr : firstR rest rest[0] with
      | none =>
        have hR := unhid HR
        rw [hr] at hR
        obtain ⟨rfl, rfl, rfl, rfl⟩ := hR
        have E := hid (show wants s = none by rw [unhid hw, wants_none h0 hr]; rfl)
        go_wp2_with fail
        go_ret2
        refine ⟨.slice none 0 0, by rw [unhid E]; rfl, ⟨_, _, _, rfl⟩, (fun ys h => by rw [unhid E] at h; cases h), ?_⟩
        exact ((unhid HB).trans ((unhid HB1).mono (unhid HB).size)).alloc (by have := (unhid HB).size; have := (unhid HB1).size; omega) _
      | some p =>
        obtain ⟨x, n⟩ := p
        have hn := firstR_le h0 hr
        have hR := unhid HR
        rw [hr] at hR
        obtain ⟨rfl, rfl, hW⟩ := hR
        have HW := hid hW
        have HS := hid (wants_some h0 hr)
        clear hW hr HR
        have hn1 : (n : Int) ≤ rest.size := by omega
        have hoc : fv.oneCell' = true := by rcases (unhid HW).form with rfl | ⟨f, ca, rfl⟩ <;> rfl
        have HO1 := hid ((ownsRow_below (unhid HO) (unhid HB1)).alloc (.cells #[.bool run, fv] 155))
        have hbase : w.heap.size ≤ w1.heap.size := Nat.le_trans (unhid HB).size (unhid HB1).size
        rcases (unhid HW).form with rfl | ⟨f, ca, rfl⟩
        all_goals
          go_wp2_with (at_builtin; refine wpList_append_own_at _ rfl _ _ 142 rfl w.heap.size 155 i0 (.agg #[.bool false, .nilFunc]) 2 16 Try.underlying142 hi hz0 hz1 hz2 rfl (by decide) _ _ _ rfl ((unhid HO1).alloc _) ⟨w1.heap.size + 1, 0, none⟩ 1 1 [.bool run, _] rfl rfl (cells_two_new _ _ _ _ _ (by simp)) ?c2 ?c3 ?c4 ?c5 ?_)
          case c2 => intro u hu; simp at hu; rcases hu with rfl | rfl <;> rfl
          case c3 => unfold maxLen; omega
          case c4 => omega
          case c5 => simp; omega
          intro v' w2 hown' hgrow _ hat
          obtain ⟨ad', cap', rfl⟩ := ownsRow_shG hown'
          have hP := wants_push (unhid hwants) (unhid HO).1 (unhid HB).size (fun g e => ((unhid HO).lt g e).2) (unhid HB1) (unhid HW) hgrow (hat.imp id fun e => ⟨_, e, by omega⟩)
          have HP := hid hP
          have HO2 := hid hown'
          have HB2 := hid (below_push (unhid HB) (unhid HB1) hgrow (fun g e => ((unhid HO).lt g e).1))
          clear hP hown' hgrow hat
          go_wp2_with fail
          go_roundw
          case rel => exact ⟨xs ++ [x], rest.extract n rest.size, cells ++ [.bool run, _], ad', cap', by simp, rfl, by simp [ByteArray.size_extract]; omega, hid (by rw [unhid hw, unhid HS]; simp [Option.map_map, Function.comp_def]), by simpa using unhid HO2, hid (by simpa using unhid HP), unhid HB2⟩
          case measure => simp [lenOf, ByteArray.size_extract]; omega
    · have he : rest.toList.isEmpty = true := by
        rw [Lib.toList_data, List.isEmpty_iff, ← List.length_eq_zero_iff, ← Lib.size_eq]; omega
      have E := hid (show wants s = some xs by rw [unhid hw, wants_nil (by omega)]; simp)
      have hxs : ((xs.length : Int) > 0) ∨ xs.length = 0 := by omega
      go_wp2_with fail
      go_ret2
      refine ⟨.slice ad xs.length cap, by rw [unhid E]; cases xs <;> rfl, ⟨_, _, _, rfl⟩, (fun ys h => ?_), unhid HB⟩
      rw [unhid E] at h
      cases h
      exact ⟨cells, unhid HO, unhid hwants⟩
end Go.Proofs.Ytaefjibnnbdaaaa

/- What a name of a pattern wants, as the program reads it. -/
namespace Go.Proofs.Ytaefjibnnbdaaaa
open Go.RowKit Go.Shelf

/-- Wants in a row whose blocks are of a kind. -/
def WantsP (W : World) (P : Nat → Prop) (v : Value) (xs : List W8) : Prop :=
  ∃ base cells, W.ownsRow base 155 2 v xs.length cells ∧ (∀ g, v.ownBlock = some g → P g) ∧ ∀ i x, xs[i]? = some x → ∃ run fv, cells[2 * i]? = some (.bool run) ∧ cells[2 * i + 1]? = some fv ∧ WantIs W P x run fv
theorem Wants.p {W : World} {base : Nat} {v : Value} {xs : List W8} (h : Wants W base v xs) : WantsP W (fun b => base ≤ b) v xs := by
  obtain ⟨cells, h1, h2⟩ := h
  refine ⟨base, cells, h1, fun g e => (h1.lt g e).1, fun i x hi => ?_⟩
  obtain ⟨run, fv, g1, g2, g3⟩ := h2 i x hi
  exact ⟨run, fv, g1, g2, g3.kept (Nat.le_refl _) (fun _ _ _ => rfl) (fun b hb _ => hb.1)⟩
theorem ownsRow_keptG {w w' : World} {base : Nat} {e : TypeId} {size : Nat} {v : Value} {n : Nat} {xs : List Value} (h : w.ownsRow base e size v n xs) (hk : ∀ g, v.ownBlock = some g → w'.heap[g]? = w.heap[g]?) : w'.ownsRow base e size v n xs := by
  refine ⟨h.1, ?_⟩
  rcases h.2 with h1 | ⟨g, cap, cur, rfl, h2, h3, h4⟩
  · exact .inl h1
  · exact .inr ⟨g, cap, cur, rfl, h2, by rw [hk g rfl]; exact h3, h4⟩
theorem WantsP.kept {W W' : World} {P P' : Nat → Prop} {v : Value} {xs : List W8} (h : WantsP W P v xs) (hs : W.heap.size ≤ W'.heap.size) (hk : ∀ b, P b → b < W.heap.size → W'.heap[b]? = W.heap[b]?) (hP : ∀ b, P b → b < W.heap.size → P' b) : WantsP W' P' v xs := by
  obtain ⟨base, cells, h1, h2, h3⟩ := h
  refine ⟨base, cells, ownsRow_keptG h1 (fun g e => hk g (h2 g e) (h1.lt g e).2), fun g e => hP g (h2 g e) (h1.lt g e).2, fun i x hi => ?_⟩
  obtain ⟨run, fv, g1, g2, g3⟩ := h3 i x hi
  exact ⟨run, fv, g1, g2, g3.kept hs hk hP⟩

/-- One place of a pattern. -/
abbrev W9 := Option (List W8)
abbrev W9.deep : W9 := none
abbrev W9.name (xs : List W8) : W9 := some xs
def nameW (s : ByteArray) : Option W9 := if (s.toList == [42, 42]) = true then some .deep else match wants s with
  | some (x :: xs) => some (.name (x :: xs))
  | _ => none
/-- What its value is that the program keeps. -/
def NameIs (W : World) (P : Nat → Prop) : W9 → Bool → Value → Prop
  | none, run, fv => run = true ∧ fv = .nilFunc
  | some xs, run, fv => run = false ∧ ∃ b v, fv = .func (.func 124) #[] #[.pointer (some ⟨b, 0, none⟩)] ∧ P b ∧ b < W.heap.size ∧ W.cell? ⟨b, 0, none⟩ = some v ∧ WantsP W P v xs
theorem NameIs.kept {W W' : World} {P P' : Nat → Prop} {x : W9} {run : Bool} {fv : Value} (h : NameIs W P x run fv) (hs : W.heap.size ≤ W'.heap.size) (hk : ∀ b, P b → b < W.heap.size → W'.heap[b]? = W.heap[b]?) (hP : ∀ b, P b → b < W.heap.size → P' b) : NameIs W' P' x run fv := by
  rcases x with _ | xs
  · exact h
  · obtain ⟨h0, b, v, h1, h2, h3, h4, h5⟩ := h
    exact ⟨h0, b, v, h1, hP b h2 h3, Nat.lt_of_lt_of_le h3 hs, (World.cell?_of_block (w := W) (hk b h2 h3)).trans h4, h5.kept hs hk hP⟩

set_option maxRecDepth 100000 in
set_option maxHeartbeats 2000000 in
theorem nameWant_any (s : ByteArray) (hs : s.size ≤ 1048576) (w : World) :
    Calls Try.prog 105 #[.string s] w fun e W' => ∃ run fv, e = .returned (.tuple #[.agg #[.bool run, fv], .bool (nameW s).isSome]) ∧ (fv = .nilFunc ∨ ∃ f ca, fv = .func (.func f) #[] ca) ∧ (∀ x, nameW s = some x → NameIs W' (fun b => w.heap.size ≤ b) x run fv) ∧ Below w.heap.size w W' := by
  have hc := cell_two_l w (.bool false) .nilFunc 129
  have CL := hid hc
  clear hc
  cases hd : (s.toList == [42, 42])
  · have hd' : (s.toList == (⟨#[42, 42]⟩ : ByteArray).toList) = false := by rw [Lib.toList_data ⟨#[42, 42]⟩]; exact hd
    go_enter Try.func105, Try.ntmps105
    go_wp2_with fail
    refine (byteWants_any s hs _).mono ?_
    rintro e w1 ⟨v, rfl, ⟨sa, sl, sc, rfl⟩, hv, hb⟩
    have hok : ((wants s).any fun l => !l.isEmpty) = (nameW s).isSome := by
      unfold nameW; rw [hd]
      cases wants s with
      | none => rfl
      | some l => cases l <;> rfl
    rw [hok]
    have HV := hid hv
    have HB1 := hid hb
    obtain ⟨k0, k1, k2, k3⟩ := unhid CL
    have hA : Below (w.heap.size + 1) (w.alloc (.cells #[.bool false, .nilFunc] 129)) (w1.alloc (.cells #[.slice sa sl sc] 142)) := (hb.mono (by simp)).alloc (by have := hb.size; simpa using this) _
    have c0 := (hA.cell (p := ⟨w.heap.size, 0, none⟩) (Nat.lt_succ_self _)).trans k0
    have c1 := (hA.cell (p := ⟨w.heap.size, 1, none⟩) (Nat.lt_succ_self _)).trans k1
    have f0 := (hA.frozen (p := ⟨w.heap.size, 0, none⟩) (Nat.lt_succ_self _)).trans k2
    have f1 := (hA.frozen (p := ⟨w.heap.size, 1, none⟩) (Nat.lt_succ_self _)).trans k3
    have HA := hid hA
    have hz : w.heap.size + 1 ≤ w1.heap.size := by have := hb.size; simpa using this
    have hne : ¬ w1.heap.size = w.heap.size := by omega
    clear hv hb hok hA k0 k1 k2 k3
    go_wp2_with fail
    refine bodyPost_ret (v := .tuple #[.agg #[.bool false, .func (.func 124) #[] #[.pointer (some ⟨w1.heap.size, 0, none⟩)]], .bool (nameW s).isSome]) (by simp [results, Try.results105, go_sem, World.cell?_setCell_same', c0, c1]) rfl ⟨false, _, rfl, .inr ⟨_, _, rfl⟩, fun x hx => ?_, ?_⟩
    · obtain ⟨xs, rfl, hxs⟩ : ∃ xs, x = .name xs ∧ wants s = some xs := by
        unfold nameW at hx; rw [hd] at hx
        cases hw : wants s with
        | none => rw [hw] at hx; cases hx
        | some l =>
          rw [hw] at hx
          cases l with
          | nil => cases hx
          | cons y l => cases hx; exact ⟨_, rfl, rfl⟩
      have hk : ∀ b, w.heap.size + 1 ≤ b → b < w1.heap.size → (((w1.alloc (.cells #[.slice sa sl sc] 142)).setCell ⟨w.heap.size, 0, none⟩ (.bool false)).setCell ⟨w.heap.size, 1, none⟩ (.func (.func 124) #[] #[.pointer (some ⟨w1.heap.size, 0, none⟩)])).heap[b]? = w1.heap[b]? := fun b h1 h2 => by
        rw [Below.heap_setCell _ _ _ b (by simp; omega), Below.heap_setCell _ _ _ b (by simp; omega), Below.heap_alloc _ _ b h2]
      refine ⟨rfl, w1.heap.size, .slice sa sl sc, rfl, by omega, by simp, ?_, ?_⟩
      · rw [World.cell?_setCell_other (h := by simp), World.cell?_setCell_other (h := by simp)]
        exact (cell_new_l w1 (.slice sa sl sc) 142).1
      · exact (unhid HV xs hxs).p.kept (by simp) (fun b h1 h2 => hk b (by simpa using h1) h2) (fun b h1 _ => by simp at h1; omega)
    · exact ((((Below.refl _ w).alloc (Nat.le_refl _) _).trans ((unhid HA).mono (Nat.le_succ _))).setCell (Nat.le_refl _) _).setCell (Nat.le_refl _) _
  · have E := hid (show nameW s = some .deep by unfold nameW; rw [hd]; rfl)
    have hd' : (s.toList == (⟨#[42, 42]⟩ : ByteArray).toList) = true := by rw [Lib.toList_data ⟨#[42, 42]⟩]; exact hd
    go_enter Try.func105, Try.ntmps105
    go_wp2_with fail
    refine bodyPost_ret (v := .tuple #[.agg #[.bool true, .nilFunc], .bool (nameW s).isSome]) (by simp [results, Try.results105, go_sem, unhid E]) rfl ⟨true, .nilFunc, rfl, .inl rfl, fun x hx => ?_, (Below.refl _ w).alloc (Nat.le_refl _) _⟩
    rw [unhid E] at hx
    cases hx
    exact ⟨rfl, rfl⟩
end Go.Proofs.Ytaefjibnnbdaaaa

/- Which bytes a want takes. -/
namespace Go.Proofs.Ytaefjibnnbdaaaa
open Go.RowKit Go.Shelf

def takesB : W8 → UInt8 → Bool
  | none, _ => false
  | some none, _ => true
  | some (some (.inl d)), c => c == d
  | some (some (.inr (inner, others))), c => inner.data.toList.contains c != others

set_option maxRecDepth 100000 in
set_option maxHeartbeats 1000000 in
theorem takes_any (c : UInt8) (w : World) : Calls Try.prog 147 #[.int .u8 c.toNat] w fun e w' => e = .returned (.bool (takesB .any c)) ∧ w' = w := by
  go_enter Try.func147, Try.ntmps147
  go_wp2
  go_ret
  exact ⟨rfl, rfl⟩

set_option maxRecDepth 100000 in
set_option maxHeartbeats 1000000 in
theorem takes_byte (c d : UInt8) (b : Nat) (w : World) (hc : w.cell? ⟨b, 0, none⟩ = some (.int .u8 d.toNat)) : Calls Try.prog 149 #[.int .u8 c.toNat, .pointer (some ⟨b, 0, none⟩)] w fun e w' => e = .returned (.bool (takesB (.byte d) c)) ∧ w' = w := by
  have E := hid (show takesB (.byte d) c = ((c.toNat : Int) == (d.toNat : Int)) by
    show (c == d) = _
    rw [Bool.eq_iff_iff]
    simp only [beq_iff_eq]
    exact ⟨fun h => by rw [h], fun h => UInt8.toNat_inj.1 (by omega)⟩)
  go_enter Try.func149, Try.ntmps149
  go_wp2
  go_ret
  exact ⟨by rw [unhid E]; rfl, rfl⟩

theorem index_has (l : List UInt8) (c : UInt8) : decide (0 ≤ Lib.indexByte l c) = l.contains c := by
  induction l with
  | nil => simp [Lib.indexByte]
  | cons d l ih =>
    have hg := Lib.indexByte_ge l c
    unfold Lib.indexByte
    by_cases h : (d == c) = true
    · have hdc : d = c := by simpa using h
      subst hdc
      simp
    · have hne : (c == d) = false := by
        rw [beq_eq_false_iff_ne]; intro e; exact h (by simp [e])
      rw [List.contains_cons, hne, Bool.false_or, ← ih]
      rw [decide_eq_decide]
      simp only [h, Bool.false_eq_true, if_false]
      split <;> (rename_i hn; simp at hn; omega)

set_option maxRecDepth 100000 in
set_option maxHeartbeats 1000000 in
theorem takes_cls (c : UInt8) (inner : ByteArray) (others : Bool) (b d : Nat) (w : World) (hb : w.cell? ⟨b, 0, none⟩ = some (.string inner)) (hd : w.cell? ⟨d, 0, none⟩ = some (.bool others)) :
    Calls Try.prog 151 #[.int .u8 c.toNat, .pointer (some ⟨b, 0, none⟩), .pointer (some ⟨d, 0, none⟩)] w fun e w' => e = .returned (.bool (takesB (.cls inner others) c)) ∧ ∃ m, w' = w.drewN m := by
  have E := hid (show takesB (.cls inner others) c = (decide (0 ≤ Lib.indexByte inner.data.toList c) != others) by rw [index_has]; rfl)
  go_enter Try.func151, Try.ntmps151
  go_wp2_with fail
  go_quiet ((go_at_call 109; exact Calls.quiet_of_same (IndexByteU_any _ _ _)))
  go_wp2
  go_ret
  exact ⟨by rw [unhid E]; rfl, _, rfl⟩
end Go.Proofs.Ytaefjibnnbdaaaa

/- Rows of Booleans that a call owns, and rows of wants that it reads. -/
namespace Go.Proofs.Ytaefjibnnbdaaaa
open Go.RowKit Go.Shelf

theorem gb_reflG (w : World) (r : Option Nat) : w.grownBy w r := ⟨rfl, rfl, rfl, Nat.le_refl _, fun _ _ _ => rfl⟩
theorem gb_set (w : World) (g i : Nat) (v : Value) : w.grownBy (w.setCell ⟨g, i, none⟩ v) (some g) := ⟨rfl, rfl, rfl, by simp, fun k _ hk => Below.heap_setCell w _ v k (fun e => hk (by rw [e]))⟩
/-- A block of m Booleans. -/
def Bools (W : World) (g m : Nat) (h : Nat → Bool) : Prop := ∃ cur : Array Value, W.heap[g]? = some (.cells cur 4 (0, 0)) ∧ cur.size = m ∧ ∀ j, j < m → cur[j]? = some (.bool (h j))
theorem Bools.lt {W : World} {g m : Nat} {h : Nat → Bool} (x : Bools W g m h) : g < W.heap.size := by
  obtain ⟨cur, h1, _⟩ := x; exact (Array.getElem?_eq_some_iff.1 h1).1
theorem Bools.cell {W : World} {g m : Nat} {h : Nat → Bool} (x : Bools W g m h) (j : Nat) (hj : j < m) : W.cell? ⟨g, j, none⟩ = some (.bool (h j)) ∧ W.frozen? ⟨g, j, none⟩ = false := by
  obtain ⟨cur, h1, h2, h3⟩ := x
  constructor
  · simp [World.cell?, h1, h3 j hj]
  · simp [World.frozen?, h1]
theorem Bools.block {W W' : World} {g m : Nat} {h : Nat → Bool} (x : Bools W g m h) (e : W'.heap[g]? = W.heap[g]?) : Bools W' g m h := by
  obtain ⟨cur, h1, h2, h3⟩ := x; exact ⟨cur, e.trans h1, h2, h3⟩
theorem Bools.alloc {W : World} {g m : Nat} {h : Nat → Bool} (x : Bools W g m h) (o : Obj) : Bools (W.alloc o) g m h := x.block (Below.heap_alloc _ _ _ x.lt)
theorem Bools.below {W W' : World} {B g m : Nat} {h : Nat → Bool} (x : Bools W g m h) (hb : Below B W W') (hg : g < B) : Bools W' g m h := x.block (hb.block g hg)
theorem Bools.other {W : World} {g m : Nat} {h : Nat → Bool} (x : Bools W g m h) (a : Addr) (v : Value) (hne : g ≠ a.block) : Bools (W.setCell a v) g m h := x.block (Below.heap_setCell W a v g hne)
theorem Bools.congr {W : World} {g m : Nat} {h h' : Nat → Bool} (x : Bools W g m h) (e : ∀ j, j < m → h j = h' j) : Bools W g m h' := by
  obtain ⟨cur, h1, h2, h3⟩ := x; exact ⟨cur, h1, h2, fun j hj => by rw [h3 j hj, e j hj]⟩
theorem Bools.set {W : World} {g m : Nat} {h : Nat → Bool} (x : Bools W g m h) (j : Nat) (hj : j < m) (b : Bool) : Bools (W.setCell ⟨g, j, none⟩ (.bool b)) g m (fun i => if i = j then b else h i) := by
  obtain ⟨cur, h1, h2, h3⟩ := x
  refine ⟨cur.setIfInBounds j (.bool b), ?_, by simpa using h2, fun i hi => ?_⟩
  · exact heap_setCell_same W g j cur 4 (.bool b) h1
  · rw [Array.getElem?_setIfInBounds]
    by_cases e : j = i
    · subst e; simp; omega
    · have e' : ¬ i = j := fun x => e x.symm
      rw [if_neg e, h3 i hi]; simp [e']

theorem type_neG {W : World} {g b : Nat} {cur cur' : Array Value} {e e' : TypeId} {f f' : Nat × Nat} (h : W.heap[g]? = some (.cells cur e f)) (h' : W.heap[b]? = some (.cells cur' e' f')) (hne : e ≠ e') : g ≠ b := by
  rintro rfl; rw [h] at h'; cases h'; exact hne rfl

/-- A row of n pairs of cells: a Boolean and a value each. -/
def Row2 (W : World) (e : TypeId) (v : Value) (n : Nat) (cs : Nat → Bool × Value) : Prop :=
  ∃ a cap, v = .slice a n cap ∧ (n = 0 ∨ ∃ g cur, a = some ⟨g, 0, none⟩ ∧ W.heap[g]? = some (.cells cur e (0, 0)) ∧ n ≤ cap ∧ ∀ i, i < n → cur[i * 2]? = some (.bool (cs i).1) ∧ cur[i * 2 + 1]? = some (cs i).2 ∧ (cs i).2.oneCell' = true)


theorem Row2.kept {W W' : World} {e : TypeId} {v : Value} {n : Nat} {cs : Nat → Bool × Value} (x : Row2 W e v n cs) (hk : ∀ b, b < W.heap.size → W'.heap[b]? = W.heap[b]?) : Row2 W' e v n cs := by
  obtain ⟨a, cap, rfl, h⟩ := x
  refine ⟨a, cap, rfl, h.imp id ?_⟩
  rintro ⟨g, cur, rfl, h1, h2⟩
  exact ⟨g, cur, rfl, (hk g (Array.getElem?_eq_some_iff.1 h1).1).trans h1, h2⟩
theorem below_of_grown {w W W' : World} {g : Nat} (hb : Below w.heap.size w W) (hg : W.grownBy W' (some g)) (hge : w.heap.size ≤ g) : Below w.heap.size w W' :=
  ⟨hg.os.trans hb.os, hg.tape.trans hb.tape, hg.output.trans hb.output, Nat.le_trans hb.size hg.size, fun k hk => (hg.block k (Nat.lt_of_lt_of_le hk hb.size) (by intro e; cases e; omega)).trans (hb.block k hk)⟩
/-- What the program's function values of wants answer, in every world in which what lay below is as it was. -/
def TakesIs {α : Type} (enc : α → Value) (xs : Pat α) (cs : Nat → Bool × Value) (w : World) : Prop :=
  ∀ i, i < xs.length → runAt xs i = false → ∃ f ca, (cs i).2 = .func (.func f) #[] ca ∧ (∀ args w, (callFunc f args).run Try.prog w = .ok (.enter f args) w) ∧
    ∀ (c : α) (W : World), Below w.heap.size w W → Calls Try.prog f (#[enc c] ++ ca) W fun e W' => e = .returned (.bool (takeAt xs i c)) ∧ Below W.heap.size W W'

theorem infoBool : (Try.prog.info? 4).map (fun i => (i.zero, i.size, i.bytes)) = some (some (.bool false), 1, 1) := by kernel_rfl
theorem mkBools (W : World) (n : Nat) (hn : n ≤ 1000) : (Instr.makeSlice 149 (.int .i64 ((n : Int) + 1)) (.int .i64 ((n : Int) + 1))).run Try.prog W = .ok (.slice (some ⟨W.heap.size, 0, none⟩) (n + 1) (n + 1)) (W.alloc (.cells (madeCells #[.bool false] (n + 1)) 4)) :=
  run_make_row' 149 4 (.bool false) 1 Try.underlying149 infoBool rfl .i64 .i64 (n + 1) (by omega) (by omega) W
theorem Bools.new (W : World) (m : Nat) : Bools (W.alloc (.cells (madeCells #[.bool false] m) 4)) W.heap.size m (fun _ => false) := by
  refine ⟨_, World.alloc_heap_new W _, by simp [madeCells], fun j hj => by simp [madeCells, hj, Nat.mod_one]⟩
end Go.Proofs.Ytaefjibnnbdaaaa

/- How the program goes through a pattern item by item (string). -/
namespace Go.Proofs.Ytaefjibnnbdaaaa
open Go.RowKit Go.Shelf

set_option maxRecDepth 100000 in
set_option maxHeartbeats 4000000 in
theorem skipRunsS_any (xs : Pat Str) (v : Value) (cs : Nat → Bool × Value) (h : Nat → Bool) (g cap : Nat) (w : World) (hn : xs.length ≤ 1000) (hv : Row2 w 129 v xs.length cs) (hr : ∀ i, i < xs.length → runAt xs i = (cs i).1) (hh : Bools w g (xs.length + 1) h) :
    Calls Try.prog 127 #[v, .slice (some ⟨g, 0, none⟩) (xs.length + 1) cap] w fun e W' => (∃ x, e = .returned x) ∧ Bools W' g (xs.length + 1) (skipN xs h xs.length) ∧ w.grownBy W' (some g) := by
  obtain ⟨a, vc, rfl, hrow⟩ := hv
  go_enter Try.func127, Try.ntmps127
  go_wp2_with fail
  go_loopw [4, 5, 8] (fun _ _ i wr => ∃ k : Nat, k ≤ xs.length ∧ i = .int .i64 k ∧ Bools wr g (xs.length + 1) (skipN xs h k) ∧ w.grownBy wr (some g)) (fun _ _ i _ => xs.length - (intOf i).toNat)
  case atStart => exact ⟨0, Nat.zero_le _, rfl, hh, gb_reflG _ _⟩
  case round =>
    obtain ⟨k, hk, rfl, hB, hG⟩ := hrel
    by_cases hlt : k < xs.length
    · obtain ⟨c0, f0⟩ := hB.cell k (by omega)
      rcases hrow with h0 | ⟨gv, cur, rfl, hcur, hvc, hcs⟩
      · omega
      have hcw := (hG.block gv (Array.getElem?_eq_some_iff.1 hcur).1 (by intro e; cases e; obtain ⟨cur', q, _⟩ := hh; exact type_neG hcur q (by decide) rfl)).trans hcur
      have w0 : wr.cell? ⟨gv, k * 2, none⟩ = some (.bool (cs k).1) := by simp [World.cell?, hcw, (hcs k hlt).1]
      have w1 : wr.cell? ⟨gv, k * 2 + 1, none⟩ = some (cs k).2 := by simp [World.cell?, hcw, (hcs k hlt).2.1]
      have hgl := hB.lt
      have hgn : ¬ g = wr.heap.size := by omega
      obtain ⟨c1, f1⟩ := hB.cell (k + 1) (by omega)
      have hst : ∀ b m, (store ⟨wr.heap.size, 1, none⟩ (cs k).2 m).run Try.prog (wr.alloc (.cells #[.bool b, .nilFunc] 129)) = stored Try.prog (wr.alloc (.cells #[.bool b, .nilFunc] 129)) ⟨wr.heap.size, 1, none⟩ (cs k).2 m := fun b m => run_store _ _ _ _ _ (hcs k hlt).2.2
      have hrk := hr k hlt
      have HB := hid hB
      have HG := hid hG
      clear hB hG hcs hr hcur hcw hh
      cases hb1 : skipN xs h k k
      · rw [hb1] at c0
        go_wp2_with fail
        go_roundw
        case rel => exact ⟨k + 1, by omega, by go_num, ((unhid HB).congr (fun j hj => by simp [skipN, hb1])).alloc _, (unhid HG).trans (World.grownBy_alloc _ _ _)⟩
        case measure => simp [intOf]; omega
      · cases hb2 : (cs k).1
        · rw [hb1] at c0
          rw [hb2] at w0 hrk
          go_wp2_with fail
          go_roundw
          case rel => exact ⟨k + 1, by omega, by go_num, ((unhid HB).congr (fun j hj => by simp [skipN, hrk])).alloc _, (unhid HG).trans (World.grownBy_alloc _ _ _)⟩
          case measure => simp [intOf]; omega
        · rw [hb1] at c0
          rw [hb2] at w0 hrk
          go_wp2_with fail
          go_roundw
          case rel => exact ⟨k + 1, by omega, by go_num, (((unhid HB).set (k + 1) (by omega) true).congr (fun j hj => by by_cases e : j = k + 1 <;> simp [skipN, hb1, hrk, e])).alloc _, ((unhid HG).trans (gb_set _ _ _ _)).trans (World.grownBy_alloc _ _ _)⟩
          case measure => simp [intOf]; omega
    · have e : k = xs.length := by omega
      subst e
      go_wp2_with fail
      go_end0
      exact ⟨⟨_, rfl⟩, hB, hG⟩

set_option maxRecDepth 100000 in
set_option maxHeartbeats 4000000 in
theorem passItemS_any (xs : Pat Str) (v : Value) (cs : Nat → Bool × Value) (h : Nat → Bool) (g cap : Nat) (c : Str) (w : World) (hn : xs.length ≤ 1000) (hv : Row2 w 129 v xs.length cs) (hr : ∀ i, i < xs.length → runAt xs i = (cs i).1) (hh : Bools w g (xs.length + 1) h)
    (hT : TakesIs (fun c : Str => .string c.1) xs cs w) :
    Calls Try.prog 128 #[v, .slice (some ⟨g, 0, none⟩) (xs.length + 1) cap, .string c.1] w fun e W' => ∃ g', e = .returned (.slice (some ⟨g', 0, none⟩) (xs.length + 1) (xs.length + 1)) ∧ w.heap.size ≤ g' ∧ Bools W' g' (xs.length + 1) (nextP xs h c) ∧ Below w.heap.size w W' := by
  have HV := hid hv
  have hmk := mkBools w xs.length hn
  have b0 := hid (Bools.new w (xs.length + 1))
  obtain ⟨a, vc, rfl, hrow⟩ := hv
  go_enter Try.func128, Try.ntmps128
  go_wp2_with fail
  clear hmk
  have hB0 : Below w.heap.size w (w.alloc (.cells (madeCells #[.bool false] (xs.length + 1)) 4)) := (Below.refl _ _).alloc (Nat.le_refl _) _
  have hz0 : w.heap.size < (w.alloc (.cells (madeCells #[.bool false] (xs.length + 1)) 4)).heap.size := by simp
  generalize w.alloc (.cells (madeCells #[.bool false] (xs.length + 1)) 4) = wq at b0 hB0 hz0 ⊢
  go_loopw [8, 9, 15] (fun _ _ i wr => ∃ k : Nat, k ≤ xs.length ∧ i = .int .i64 k ∧ Bools wr w.heap.size (xs.length + 1) (passN xs h c k) ∧ Below w.heap.size w wr) (fun _ _ i _ => xs.length - (intOf i).toNat)
  case atStart => exact ⟨0, Nat.zero_le _, rfl, unhid b0, hB0⟩
  case round =>
    clear b0 hB0 hz0
    obtain ⟨k, hk, rfl, hB, hG⟩ := hrel
    by_cases hlt : k < xs.length
    · obtain ⟨c0, f0⟩ := (hh.below hG hh.lt).cell k (by omega)
      obtain ⟨n0, m0⟩ := hB.cell k (by omega)
      obtain ⟨n1, m1⟩ := hB.cell (k + 1) (by omega)
      rcases hrow with h0 | ⟨gv, cur, rfl, hcur, hvc, hcs⟩
      · omega
      have hgv := (Array.getElem?_eq_some_iff.1 hcur).1
      have hcw := (hG.block gv hgv).trans hcur
      have w0 : wr.cell? ⟨gv, k * 2, none⟩ = some (.bool (cs k).1) := by simp [World.cell?, hcw, (hcs k hlt).1]
      have w1 : wr.cell? ⟨gv, k * 2 + 1, none⟩ = some (cs k).2 := by simp [World.cell?, hcw, (hcs k hlt).2.1]
      have hgl : g < wr.heap.size := Nat.lt_of_lt_of_le hh.lt hG.size
      have hgn : ¬ g = wr.heap.size := by omega
      have hnl := hB.lt
      have hnn : ¬ w.heap.size = wr.heap.size := by omega
      have hgg : ¬ g = w.heap.size := by have := hh.lt; omega
      have hvn : ¬ gv = w.heap.size := by omega
      have hst : ∀ b m, (store ⟨wr.heap.size, 1, none⟩ (cs k).2 m).run Try.prog (wr.alloc (.cells #[.bool b, .nilFunc] 129)) = stored Try.prog (wr.alloc (.cells #[.bool b, .nilFunc] 129)) ⟨wr.heap.size, 1, none⟩ (cs k).2 m := fun b m => run_store _ _ _ _ _ (hcs k hlt).2.2
      have hrk := hr k hlt
      have HB := hid hB
      have HG := hid hG
      have HH := hid hh
      clear hB hG hcs hr hcur hcw hh
      have hTk := hT k hlt
      have HT := hid hTk
      clear hT hTk
      cases hb1 : h k
      · rw [hb1] at c0
        go_wp2_with fail
        go_roundw
        case rel => exact ⟨k + 1, by omega, by go_num, ((unhid HB).congr (fun j hj => by simp [passN, hb1])).alloc _, (unhid HG).alloc (unhid HG).size _⟩
        case measure => simp [intOf]; omega
      · rw [hb1] at c0
        cases hb2 : (cs k).1
        · rw [hb2] at w0 hrk
          obtain ⟨f, ca, hf, hen, hcall⟩ := unhid HT hrk
          rw [hf] at w1 hst
          have HC := hid hcall
          clear hcall HT hf
          go_wp2_with fail
          have hA : Below w.heap.size w (wr.alloc (.cells #[.bool false, .func (.func f) #[] ca] 129)) := (unhid HG).alloc (unhid HG).size _
          refine (unhid HC c _ hA).mono ?_
          rintro e w2 ⟨rfl, hb⟩
          have HB2 := hid (((unhid HB).alloc (.cells #[.bool false, .func (.func f) #[] ca] 129)).below hb (by simp; omega))
          obtain ⟨n1, m1⟩ := (unhid HB2).cell (k + 1) (by omega)
          have HG2 := hid (hA.trans (hb.mono hA.size))
          clear hA hb c0 f0 n0 m0 w0 w1 hst hgl hgn hnl hnn
          cases ht : takeAt xs k c
          · go_wp2_with fail
            go_roundw
            case rel => exact ⟨k + 1, by omega, by go_num, (unhid HB2).congr (fun j hj => by simp [passN, hb1, hrk, ht]), unhid HG2⟩
            case measure => simp [intOf]; omega
          · go_wp2_with fail
            go_roundw
            case rel => exact ⟨k + 1, by omega, by go_num, ((unhid HB2).set (k + 1) (by omega) true).congr (fun j hj => by by_cases e : j = k + 1 <;> simp [passN, hb1, hrk, ht, e]), (unhid HG2).setCell (p := ⟨w.heap.size, k + 1, none⟩) (Nat.le_refl _) _⟩
            case measure => simp [intOf]; omega
        · rw [hb2] at w0 hrk
          go_wp2_with fail
          go_roundw
          case rel => exact ⟨k + 1, by omega, by go_num, (((unhid HB).set k (by omega) true).congr (fun j hj => by by_cases e : j = k <;> simp [passN, hb1, hrk, takeAt, runAt_iff.1 hrk, e])).alloc _, ((unhid HG).setCell (p := ⟨w.heap.size, k, none⟩) (Nat.le_refl _) _).alloc (by simp; exact (unhid HG).size) _⟩
          case measure => simp [intOf]; omega
    · have e : k = xs.length := by omega
      subst e
      have HR := hid hr
      have HB := hid hB
      have HG := hid hG
      clear hT hrow hr hB hG hh
      go_wp2_with fail
      refine (skipRunsS_any xs _ cs _ w.heap.size (xs.length + 1) wr hn ((unhid HV).kept (fun b hb => (unhid HG).block b hb)) (unhid HR) (unhid HB)).mono ?_
      rintro e w2 ⟨⟨x, rfl⟩, hB2, hG2⟩
      go_wp2_with fail
      go_ret
      exact ⟨w.heap.size, rfl, Nat.le_refl _, hB2, below_of_grown (unhid HG) hG2 (Nat.le_refl _)⟩
end Go.Proofs.Ytaefjibnnbdaaaa
