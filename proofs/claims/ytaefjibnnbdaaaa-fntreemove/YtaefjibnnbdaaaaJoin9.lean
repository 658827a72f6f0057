/- Texts of this proof, one behind the other; each says at its head what it shows. -/
import Derived.Test.YtaefjibnnbdaaaaJoin6
import Derived.Test.YtaefjibnnbdaaaaJoin8
import Derived.Test.YtaefjibnnbdaaaaJoin7
import Derived.Test.YtaefjibnnbdaaaaJoin3
import Derived.Test.YtaefjibnnbdaaaaJoin2
import Derived.Test.YtaefjibnnbdaaaaJoin1
import Derived.Test.YtaefjibnnbdaaaaJoin5
/- What a law over drawn trees keeps from call to call. -/
namespace Go.Proofs.Ytaefjibnnbdaaaa
open Go.RowKit

/-- Nothing elder has changed, these rows are read, these entries lie in boxes. -/
def Kb (w : World) (B : Nat) (W : World) (l : List (Option Addr × List Ent)) (m : List (Nat × Ent)) : Prop := Below w.heap.size w W ∧ B ≤ W.heap.size ∧ (∀ x ∈ l, EntsAt W x.1 x.2) ∧ ∀ x ∈ m, OneAt W x.1 x.2
theorem Kb.step {w W W' : World} {B : Nat} {l : List (Option Addr × List Ent)} {m : List (Nat × Ent)} (h : Kb w B W l m) (hb : Below W.heap.size W W') : Kb w B W' l m :=
  ⟨h.1.trans (hb.mono h.1.size), Nat.le_trans h.2.1 hb.size, fun x hx => (h.2.2.1 x hx).below hb, fun x hx => (hb.block _ (h.2.2.2 x hx).lt).trans (h.2.2.2 x hx)⟩
theorem Kb.push {w W W' : World} {B c : Nat} {a : Option Addr} {L : List Ent} {l : List (Option Addr × List Ent)} {m : List (Nat × Ent)} (h : Kb w B W l m) (ho : W'.ownsRow W.heap.size 27 4 (.slice a L.length c) L.length (valsOf L)) (hb : Below W.heap.size W W') : Kb w B W' ((a, L) :: l) m := by
  have h' := h.step hb
  refine ⟨h'.1, h'.2.1, fun x hx => ?_, h'.2.2.2⟩
  rcases List.mem_cons.1 hx with rfl | hx
  · obtain ⟨a1, c1, hv, hr⟩ := rowIn_of_owns ho
    cases hv
    exact hr.at
  · exact h'.2.2.1 x hx
theorem Kb.box {w W : World} {B : Nat} {l : List (Option Addr × List Ent)} {m : List (Nat × Ent)} (h : Kb w B W l m) (e : Ent) : Kb w B (W.alloc (.cells #[.string e.path, .int .i64 e.kind, .int .i64 e.mode, .string e.text] 27)) l ((W.heap.size, e) :: m) := by
  have h' := h.step ((Below.refl _ W).alloc (Nat.le_refl _) (.cells #[.string e.path, .int .i64 e.kind, .int .i64 e.mode, .string e.text] 27))
  refine ⟨h'.1, h'.2.1, h'.2.2.1, fun x hx => ?_⟩
  rcases List.mem_cons.1 hx with rfl | hx
  · exact World.alloc_heap_new _ _
  · exact h'.2.2.2 x hx
theorem Kb.at {w W : World} {B : Nat} {a : Option Addr} {L : List Ent} {l : List (Option Addr × List Ent)} {m : List (Nat × Ent)} (h : Kb w B W l m) (hx : (a, L) ∈ l) : EntsAt W a L := h.2.2.1 _ hx
theorem Kb.one {w W : World} {B k : Nat} {e : Ent} {l : List (Option Addr × List Ent)} {m : List (Nat × Ent)} (h : Kb w B W l m) (hx : (k, e) ∈ m) : OneAt W k e := h.2.2.2 _ hx
theorem Kb.unbox {w W : World} {B : Nat} {l : List (Option Addr × List Ent)} {m : List (Nat × Ent)} {x : Nat × Ent} (h : Kb w B W l (x :: m)) : Kb w B W l m := ⟨h.1, h.2.1, h.2.2.1, fun y hy => h.2.2.2 y (List.mem_cons_of_mem _ hy)⟩
theorem Kb.unrow {w W : World} {B : Nat} {l : List (Option Addr × List Ent)} {m : List (Nat × Ent)} {x : Option Addr × List Ent} (h : Kb w B W (x :: l) m) : Kb w B W l m := ⟨h.1, h.2.1, fun y hy => h.2.2.1 y (List.mem_cons_of_mem _ hy), h.2.2.2⟩
theorem ents_some {W : World} {g : Nat} {es : List Ent} (h : EntsAt W (some ⟨g, 0, none⟩) es) : ∀ (i : Nat) e, es[i]? = some e → EntAt W g (0 + i * 4) e := by
  rcases h with rfl | ⟨b, o, hb, _, hc⟩
  · intro i e hi; simp at hi
  · cases hb; exact hc
theorem Kb.ents {w W : World} {B g : Nat} {es : List Ent} {l : List (Option Addr × List Ent)} {m : List (Nat × Ent)} (h : Kb w B W l m) (hx : (some ⟨g, 0, none⟩, es) ∈ l) : ∀ (i : Nat) e, es[i]? = some e → EntAt W g (0 + i * 4) e := ents_some (h.at hx)
theorem Kb.lt {w W : World} {B g : Nat} {l : List (Option Addr × List Ent)} {m : List (Nat × Ent)} (h : Kb w B W l m) (hg : g < B) : g < W.heap.size := Nat.lt_of_lt_of_le hg h.2.1
theorem kb_drawn {w W : World} {g c : Nat} {es : List Ent} (h : Drawn w W (.slice (some ⟨g, 0, none⟩) es.length c) es) : Kb w W.heap.size W [(some ⟨g, 0, none⟩, es)] [] ∧ g < W.heap.size ∧ es.length ≤ c := by
  obtain ⟨g', c', hv, ho⟩ := h.v
  cases hv
  obtain ⟨h1, h2, h3, h4⟩ := TreeV.ents ho
  refine ⟨⟨h.below, Nat.le_refl _, fun x hx => ?_, fun x hx => by cases hx⟩, h2, h4⟩
  rw [List.mem_singleton.1 hx]
  exact .inr ⟨g, 0, rfl, h2, h1⟩
theorem putR_len {es : List Ent} {e : Ent} : (putR es e).length ≤ 1000 := by
  unfold putR
  split
  · rename_i h
    have := putL_len es e
    have := tree_16 h
    omega
  · simp
theorem dropR_len {p : ByteArray} {es : List Ent} : (dropR p es).length ≤ 1000 := by
  have h := (kept_asc es).2
  unfold dropR leftE
  exact Nat.le_trans (List.length_filter_le _ _) (by omega)
theorem eq_ents (x y : Ent) (w : World) : (binOp .eql 27 (.agg x.vals) (.agg y.vals)).run Try.prog w = .ok (.bool (eqV x y)) w := by
  simp only [binOp]
  simp [Op.equal, Op.maxDepth, in_ent 9998]
theorem ne_same (p : ByteArray) (k m : Int) (t : ByteArray) (w : World) : (binOp .neq 27 (.agg #[.string p, .int .i64 k, .int .i64 m, .string t]) (.agg #[.string p, .int .i64 k, .int .i64 m, .string t])).run Try.prog w = .ok (.bool false) w := by
  have := ne_ents ⟨p, k, m, t⟩ ⟨p, k, m, t⟩ w
  rw [eqV_self] at this
  exact this
theorem eq_same (p : ByteArray) (k m : Int) (t : ByteArray) (w : World) : (binOp .eql 27 (.agg #[.string p, .int .i64 k, .int .i64 m, .string t]) (.agg #[.string p, .int .i64 k, .int .i64 m, .string t])).run Try.prog w = .ok (.bool true) w := by
  have := eq_ents ⟨p, k, m, t⟩ ⟨p, k, m, t⟩ w
  rw [eqV_self] at this
  exact this
end Go.Proofs.Ytaefjibnnbdaaaa

/- Entries that are moved: no two come to one place. -/
namespace Go.Proofs.Ytaefjibnnbdaaaa
open Go.RowKit Go.Shelf

def movedP (p q s : ByteArray) : ByteArray := q ++ s.extract p.size s.size
def mvS (p q : ByteArray) (e : Ent) : Ent := if belowB p.data.toList e.path.data.toList then { e with path := movedP p q e.path } else e
def mvAllS (p q : ByteArray) (es : List Ent) : Bool := es.all fun e => pathB (mvS p q e).path.data.toList
theorem sort_put : ∀ xs : List Ent, (xs.map (·.path)).Nodup → sortL xs = putAll xs := snoc_ind (fun _ => rfl) (fun xs x ih h => by
  rw [List.map_append, List.nodup_append] at h
  rw [sortL_snoc, putAll_snoc, ih h.1]
  have ht : thereE (putAll xs) x.path = false := by
    cases ht : thereE (putAll xs) x.path
    · rfl
    · obtain ⟨e, he, hp⟩ := there_get ht
      have hm := putAll_mem xs e (List.mem_of_getElem? he)
      exact absurd hp (h.2.2 e.path (List.mem_map.2 ⟨e, hm, rfl⟩) x.path (by simp))
  unfold putT; rw [ht]; rfl)
theorem bytes_ext {a b : ByteArray} (h : a.data.toList = b.data.toList) : a = b := by apply ByteArray.ext; exact Array.ext' h
theorem movedP_list (p q s : ByteArray) : (movedP p q s).data.toList = q.data.toList ++ s.data.toList.drop p.data.toList.length := by
  unfold movedP; rw [data_app, drop_size]
theorem below_drop {p s : List UInt8} (h : belowB p s = true) : s = p ++ s.drop p.length ∧ (s.drop p.length = [] ∨ ∃ t, s.drop p.length = 47 :: t) := by
  rcases belowB_cases h with rfl | ⟨t, rfl⟩
  · simp
  · simp
theorem movedP_inj {p q s s' : ByteArray} (h : belowB p.data.toList s.data.toList = true) (h' : belowB p.data.toList s'.data.toList = true) (he : movedP p q s = movedP p q s') : s = s' := by
  apply bytes_ext
  have h1 := congrArg (fun x => x.data.toList) he
  simp only [movedP_list] at h1
  have h2 := List.append_cancel_left h1
  rw [(below_drop h).1, (below_drop h').1, h2]
theorem movedP_below {p q s : ByteArray} (h : belowB p.data.toList s.data.toList = true) : belowB q.data.toList (movedP p q s).data.toList = true := by
  rw [movedP_list]
  rcases (below_drop h).2 with h1 | ⟨t, h1⟩
  · rw [h1, List.append_nil]; exact belowB_refl _
  · rw [h1]; exact belowB_app _ _
theorem moved_nodup {es : List Ent} {p q : ByteArray} (ht : treeB es = true) (hq : pathB q.data.toList = true) (hno : thereE es q = false) : ((es.map (mvS p q)).map (·.path)).Nodup := by
  have hup := asc_up (tree_asc ht)
  have hnot : ∀ e ∈ es, ∀ s : ByteArray, belowB p.data.toList s.data.toList = true → e.path ≠ movedP p q s := fun e he s hs heq => by
    have h1 : inB q.data.toList e.path.data.toList = true := by
      unfold inB; rw [hq, ent_pathB (tree_all ht e he), heq, movedP_below hs]; rfl
    rw [in_there ht _ e he (Nat.le_refl _) h1] at hno; cases hno
  rw [List.map_map, List.Nodup, List.pairwise_map]
  refine List.Pairwise.imp_of_mem (fun {x y} hx hy hxy => ?_) hup
  have hne : x.path ≠ y.path := fun e => by rw [e] at hxy; rw [show ltS y.path y.path = false from lt_irr _] at hxy; cases hxy
  show (mvS p q x).path ≠ (mvS p q y).path
  unfold mvS
  cases h1 : belowB p.data.toList x.path.data.toList <;> cases h2 : belowB p.data.toList y.path.data.toList
  · exact hne
  · exact hnot x hx y.path h2
  · exact fun e => hnot y hy x.path h1 e.symm
  · exact fun e => hne (movedP_inj h1 h2 e)
/-- What the model asks of a move. -/
def mayS (es : List Ent) (p q : ByteArray) : Bool := thereE es p && (!thereE es q && (pathB q.data.toList && (!belowB p.data.toList q.data.toList && dirE es (upS q))))
theorem may_eq {es : List Ent} {p q : ByteArray} (ht : treeB es = true) : mayB es p q = mayS es p q := by
  unfold mayB mayS
  cases h1 : thereE es p
  · rfl
  · obtain ⟨x, hx, hxp⟩ := there_get h1
    have hp : pathB p.data.toList = true := by rw [← hxp]; exact ent_pathB (tree_ent ht hx)
    cases h2 : thereE es q
    · cases h3 : pathB q.data.toList
      · rfl
      · unfold inB pathUpS; rw [hp, h3]; rfl
    · rfl
theorem place_eq {es : List Ent} {p q : ByteArray} (ht : treeB es = true) (hp : pathB p.data.toList = true) (hq : pathB q.data.toList = true) {e : Ent} (he : e ∈ es) : (!(placeM p q e).toList.isEmpty) = pathB (mvS p q e).path.data.toList ∧ (pathB (mvS p q e).path.data.toList = true → mvE p q e = mvS p q e) := by
  have hpe := ent_pathB (tree_all ht e he)
  have hib : inB p.data.toList e.path.data.toList = belowB p.data.toList e.path.data.toList := by unfold inB; rw [hp, hpe]; rfl
  unfold mvE placeM mvS
  rw [hib]
  cases h1 : belowB p.data.toList e.path.data.toList
  · refine ⟨?_, fun _ => rfl⟩
    have := pathB_ne _ hpe
    simp only [Bool.false_eq_true, if_false]
    rw [hpe, Lib.toList_data]
    simpa using this
  · simp only [if_true]
    have hm : moveS e.path p q = if pathB (movedP p q e.path).data.toList then movedP p q e.path else ⟨#[]⟩ := by
      unfold moveS; rw [hib, h1, hq]; rfl
    rw [hm]
    cases h2 : pathB (movedP p q e.path).data.toList
    · refine ⟨by simp [Lib.toList_data], fun h => by cases h⟩
    · refine ⟨?_, fun _ => rfl⟩
      have := pathB_ne _ h2
      simp only [if_true]
      rw [Lib.toList_data]
      simpa using this
theorem move_spec {es : List Ent} {p q : ByteArray} (ht : treeB es = true) : moveOk p q es = (mayS es p q && mvAllS p q es) ∧ moveR p q es = if (mayS es p q && mvAllS p q es) then sortL (es.map (mvS p q)) else es := by
  unfold moveR moveOk
  rw [keptE_yes ht, may_eq ht]
  cases hm : mayS es p q
  · exact ⟨rfl, rfl⟩
  · unfold mayS at hm
    simp only [Bool.and_eq_true, Bool.not_eq_true'] at hm
    obtain ⟨h1, h2, hq, _⟩ := hm
    obtain ⟨x, hx, hxp⟩ := there_get h1
    have hp : pathB p.data.toList = true := by rw [← hxp]; exact ent_pathB (tree_ent ht hx)
    have hall : moveAll p q es = mvAllS p q es := by
      unfold moveAll mvAllS
      rw [Bool.eq_iff_iff, List.all_eq_true, List.all_eq_true]
      exact ⟨fun h e he => by rw [← (place_eq ht hp hq he).1]; exact h e he, fun h e he => by rw [(place_eq ht hp hq he).1]; exact h e he⟩
    rw [hall]
    refine ⟨rfl, ?_⟩
    cases h3 : mvAllS p q es
    · rfl
    · have hmap : es.map (mvE p q) = es.map (mvS p q) := List.map_congr_left (fun e he => (place_eq ht hp hq he).2 (List.all_eq_true.1 h3 e he))
      simp only [Bool.and_self, if_true]
      rw [hmap, sort_put _ (moved_nodup ht hq h2)]
end Go.Proofs.Ytaefjibnnbdaaaa

/- A place of a tree moved, by the model. -/
namespace Go.Proofs.Ytaefjibnnbdaaaa
open Go.RowKit Go.Shelf

def mvTo (p q : ByteArray) (es : List Ent) (k : Nat) : List Ent := (es.take k).map (mvS p q)
def moveL (p q : ByteArray) (es : List Ent) : List Ent := if (mayS es p q && mvAllS p q es) then sortL (es.map (mvS p q)) else es

set_option maxRecDepth 100000 in
set_option maxHeartbeats 8000000 in
theorem l2Move_any (es : List Ent) (p q : ByteArray) (b o cap : Nat) (w : World) (htb : treeB es = true) (hp : p.size ≤ 1048576) (hq : q.size ≤ 1048576) (h : ∀ (i : Nat) e, es[i]? = some e → EntAt w b (o + i * 4) e) (hb : b < w.heap.size) :
    Calls Try.prog 58 #[.slice (some ⟨b, o, none⟩) es.length cap, .string p, .string q] w fun x w' => ∃ v, x = .returned (.tuple #[v, .bool (mayS es p q && mvAllS p q es)]) ∧ w'.ownsRow w.heap.size 27 4 v (moveL p q es).length (valsOf (moveL p q es)) ∧ Below w.heap.size w w' := by
  obtain ⟨i0, hi0, hz0, hzs, hzb⟩ := info_parts infoEntry
  have HI := hid (And.intro hi0 (And.intro hz0 (And.intro hzs hzb)))
  have hl16 := tree_16 htb
  have H := hid h
  clear h hi0 hz0 hzs hzb
  cases h1 : thereE es p
  · have E := hid (show (mayS es p q && mvAllS p q es) = false ∧ moveL p q es = es by unfold moveL; rw [show mayS es p q = false by simp [mayS, h1]]; exact ⟨rfl, rfl⟩)
    go_enter Try.func58, Try.ntmps58
    go_wp2_with fail
    refine (l2At_any es _ _ p w (by omega) (.inr ⟨b, o, rfl, hb, unhid H⟩)).mono ?_
    rintro x w1 ⟨rfl, n1, e1⟩
    rw [h1]
    have hB1 : Below w.heap.size w w1 := by rw [e1]; exact drewN_below _ _
    have H1 := hid (show Below w.heap.size w w1 ∧ ∀ (i : Nat) e, es[i]? = some e → EntAt w1 b (o + i * 4) e from ⟨hB1, entAt_below (unhid H) (.inr hb) hB1⟩)
    have hb1 : b < w1.heap.size := Nat.lt_of_lt_of_le hb hB1.size
    clear hB1 e1 n1
    go_wp2_with fail
    refine (l2At_any es _ _ q w1 (by omega) (.inr ⟨b, o, rfl, hb1, (unhid H1).2⟩)).mono ?_
    rintro x w2 ⟨rfl, n2, e2⟩
    have hB2 : Below w1.heap.size w1 w2 := by rw [e2]; exact drewN_below _ _
    have H2 := hid (show Below w.heap.size w w2 ∧ ∀ (i : Nat) e, es[i]? = some e → EntAt w2 b (o + i * 4) e from ⟨(unhid H1).1.trans (hB2.mono (unhid H1).1.size), entAt_below (unhid H1).2 (.inr hb1) hB2⟩)
    have hb2 : b < w2.heap.size := Nat.lt_of_lt_of_le hb1 hB2.size
    clear hB2 e2 n2 H1 hb1
    go_wp2_with fail
    refine (l2Copy_any es b o cap w2 (by omega) (unhid H2).2 (.inr hb2)).mono ?_
    rintro x w9 ⟨v, rfl, hown, hB⟩
    obtain ⟨va, vc, rfl⟩ := ownsRow_slice hown
    have HF := hid (And.intro (ownsRow_base hown (unhid H2).1.size) ((unhid H2).1.trans (hB.mono (unhid H2).1.size)))
    clear hown hB
    go_wp2_with fail
    go_ret2
    exact ⟨_, by rw [(unhid E).1]; rfl, by rw [(unhid E).2]; exact (unhid HF).1, (unhid HF).2⟩

  · cases h2 : thereE es q
    · cases h3 : pathB q.data.toList
      · have E := hid (show (mayS es p q && mvAllS p q es) = false ∧ moveL p q es = es by unfold moveL; rw [show mayS es p q = false by simp [mayS, h1, h2, h3]]; exact ⟨rfl, rfl⟩)
        go_enter Try.func58, Try.ntmps58
        go_wp2_with fail
        refine (l2At_any es _ _ p w (by omega) (.inr ⟨b, o, rfl, hb, unhid H⟩)).mono ?_
        rintro x w1 ⟨rfl, n1, e1⟩
        rw [h1]
        have hB1 : Below w.heap.size w w1 := by rw [e1]; exact drewN_below _ _
        have H1 := hid (show Below w.heap.size w w1 ∧ ∀ (i : Nat) e, es[i]? = some e → EntAt w1 b (o + i * 4) e from ⟨hB1, entAt_below (unhid H) (.inr hb) hB1⟩)
        have hb1 : b < w1.heap.size := Nat.lt_of_lt_of_le hb hB1.size
        clear hB1 e1 n1
        go_wp2_with fail
        refine (l2At_any es _ _ q w1 (by omega) (.inr ⟨b, o, rfl, hb1, (unhid H1).2⟩)).mono ?_
        rintro x w2 ⟨rfl, n2, e2⟩
        have hB2 : Below w1.heap.size w1 w2 := by rw [e2]; exact drewN_below _ _
        have H2 := hid (show Below w.heap.size w w2 ∧ ∀ (i : Nat) e, es[i]? = some e → EntAt w2 b (o + i * 4) e from ⟨(unhid H1).1.trans (hB2.mono (unhid H1).1.size), entAt_below (unhid H1).2 (.inr hb1) hB2⟩)
        have hb2 : b < w2.heap.size := Nat.lt_of_lt_of_le hb1 hB2.size
        clear hB2 e2 n2 H1 hb1
        rw [h2]
        go_wp2_with fail
        refine (l1Path_any q hq w2).mono ?_
        rintro x w3 ⟨rfl, hB⟩
        rw [h3]
        have H3 := hid (show Below w.heap.size w w3 ∧ ∀ (i : Nat) e, es[i]? = some e → EntAt w3 b (o + i * 4) e from ⟨(unhid H2).1.trans (hB.mono (unhid H2).1.size), entAt_below (unhid H2).2 (.inr hb2) hB⟩)
        have hb3 : b < w3.heap.size := Nat.lt_of_lt_of_le hb2 hB.size
        clear hB H2 hb2
        go_wp2_with fail
        refine (l2Copy_any es b o cap w3 (by omega) (unhid H3).2 (.inr hb3)).mono ?_
        rintro x w9 ⟨v, rfl, hown, hB⟩
        obtain ⟨va, vc, rfl⟩ := ownsRow_slice hown
        have HF := hid (And.intro (ownsRow_base hown (unhid H3).1.size) ((unhid H3).1.trans (hB.mono (unhid H3).1.size)))
        clear hown hB
        go_wp2_with fail
        go_ret2
        exact ⟨_, by rw [(unhid E).1]; rfl, by rw [(unhid E).2]; exact (unhid HF).1, (unhid HF).2⟩

      · have hq54 := pathB_size _ h3
        rw [← Lib.size_eq] at hq54
        cases h4 : belowB p.data.toList q.data.toList
        · cases h5 : dirE es (upS q)
          · have E := hid (show (mayS es p q && mvAllS p q es) = false ∧ moveL p q es = es by unfold moveL; rw [show mayS es p q = false by simp [mayS, h1, h2, h3, h4, h5]]; exact ⟨rfl, rfl⟩)
            go_enter Try.func58, Try.ntmps58
            go_wp2_with fail
            refine (l2At_any es _ _ p w (by omega) (.inr ⟨b, o, rfl, hb, unhid H⟩)).mono ?_
            rintro x w1 ⟨rfl, n1, e1⟩
            rw [h1]
            have hB1 : Below w.heap.size w w1 := by rw [e1]; exact drewN_below _ _
            have H1 := hid (show Below w.heap.size w w1 ∧ ∀ (i : Nat) e, es[i]? = some e → EntAt w1 b (o + i * 4) e from ⟨hB1, entAt_below (unhid H) (.inr hb) hB1⟩)
            have hb1 : b < w1.heap.size := Nat.lt_of_lt_of_le hb hB1.size
            clear hB1 e1 n1
            go_wp2_with fail
            refine (l2At_any es _ _ q w1 (by omega) (.inr ⟨b, o, rfl, hb1, (unhid H1).2⟩)).mono ?_
            rintro x w2 ⟨rfl, n2, e2⟩
            have hB2 : Below w1.heap.size w1 w2 := by rw [e2]; exact drewN_below _ _
            have H2 := hid (show Below w.heap.size w w2 ∧ ∀ (i : Nat) e, es[i]? = some e → EntAt w2 b (o + i * 4) e from ⟨(unhid H1).1.trans (hB2.mono (unhid H1).1.size), entAt_below (unhid H1).2 (.inr hb1) hB2⟩)
            have hb2 : b < w2.heap.size := Nat.lt_of_lt_of_le hb1 hB2.size
            clear hB2 e2 n2 H1 hb1
            rw [h2]
            go_wp2_with fail
            refine (l1Path_any q hq w2).mono ?_
            rintro x w3 ⟨rfl, hB⟩
            rw [h3]
            have H3 := hid (show Below w.heap.size w w3 ∧ ∀ (i : Nat) e, es[i]? = some e → EntAt w3 b (o + i * 4) e from ⟨(unhid H2).1.trans (hB.mono (unhid H2).1.size), entAt_below (unhid H2).2 (.inr hb2) hB⟩)
            have hb3 : b < w3.heap.size := Nat.lt_of_lt_of_le hb2 hB.size
            clear hB H2 hb2
            go_wp2_with fail
            refine (l1Below_any p q (by unfold maxLen; omega) (by unfold maxLen; omega) w3).mono ?_
            rintro x w4 ⟨rfl, e4⟩
            subst e4
            rw [h4]
            go_wp2_with fail
            refine (l1Up_any q (by unfold maxLen; omega) w4).mono ?_
            rintro x w5 ⟨rfl, e5⟩
            subst e5
            go_wp2_with fail
            refine (l2Dir_any es _ cap (upS q) w5 (by omega) (.inr ⟨b, o, rfl, hb3, (unhid H3).2⟩)).mono ?_
            rintro x w6 ⟨rfl, n6, e6⟩
            have hB : Below w5.heap.size w5 w6 := by rw [e6]; exact drewN_below _ _
            rw [h5]
            have H6 := hid (show Below w.heap.size w w6 ∧ ∀ (i : Nat) e, es[i]? = some e → EntAt w6 b (o + i * 4) e from ⟨(unhid H3).1.trans (hB.mono (unhid H3).1.size), entAt_below (unhid H3).2 (.inr hb3) hB⟩)
            have hb6 : b < w6.heap.size := Nat.lt_of_lt_of_le hb3 hB.size
            clear hB H3 hb3 e6 n6
            go_wp2_with fail
            refine (l2Copy_any es b o cap w6 (by omega) (unhid H6).2 (.inr hb6)).mono ?_
            rintro x w9 ⟨v, rfl, hown, hB⟩
            obtain ⟨va, vc, rfl⟩ := ownsRow_slice hown
            have HF := hid (And.intro (ownsRow_base hown (unhid H6).1.size) ((unhid H6).1.trans (hB.mono (unhid H6).1.size)))
            clear hown hB
            go_wp2_with fail
            go_ret2
            exact ⟨_, by rw [(unhid E).1]; rfl, by rw [(unhid E).2]; exact (unhid HF).1, (unhid HF).2⟩

          · have E := hid (show (mayS es p q && mvAllS p q es) = mvAllS p q es ∧ moveL p q es = (if mvAllS p q es then sortL (es.map (mvS p q)) else es) by unfold moveL; rw [show mayS es p q = true by simp [mayS, h1, h2, h3, h4, h5]]; exact ⟨rfl, rfl⟩)
            go_enter Try.func58, Try.ntmps58
            go_wp2_with fail
            refine (l2At_any es _ _ p w (by omega) (.inr ⟨b, o, rfl, hb, unhid H⟩)).mono ?_
            rintro x w1 ⟨rfl, n1, e1⟩
            rw [h1]
            have hB1 : Below w.heap.size w w1 := by rw [e1]; exact drewN_below _ _
            have H1 := hid (show Below w.heap.size w w1 ∧ ∀ (i : Nat) e, es[i]? = some e → EntAt w1 b (o + i * 4) e from ⟨hB1, entAt_below (unhid H) (.inr hb) hB1⟩)
            have hb1 : b < w1.heap.size := Nat.lt_of_lt_of_le hb hB1.size
            clear hB1 e1 n1
            go_wp2_with fail
            refine (l2At_any es _ _ q w1 (by omega) (.inr ⟨b, o, rfl, hb1, (unhid H1).2⟩)).mono ?_
            rintro x w2 ⟨rfl, n2, e2⟩
            have hB2 : Below w1.heap.size w1 w2 := by rw [e2]; exact drewN_below _ _
            have H2 := hid (show Below w.heap.size w w2 ∧ ∀ (i : Nat) e, es[i]? = some e → EntAt w2 b (o + i * 4) e from ⟨(unhid H1).1.trans (hB2.mono (unhid H1).1.size), entAt_below (unhid H1).2 (.inr hb1) hB2⟩)
            have hb2 : b < w2.heap.size := Nat.lt_of_lt_of_le hb1 hB2.size
            clear hB2 e2 n2 H1 hb1
            rw [h2]
            go_wp2_with fail
            refine (l1Path_any q hq w2).mono ?_
            rintro x w3 ⟨rfl, hB⟩
            rw [h3]
            have H3 := hid (show Below w.heap.size w w3 ∧ ∀ (i : Nat) e, es[i]? = some e → EntAt w3 b (o + i * 4) e from ⟨(unhid H2).1.trans (hB.mono (unhid H2).1.size), entAt_below (unhid H2).2 (.inr hb2) hB⟩)
            have hb3 : b < w3.heap.size := Nat.lt_of_lt_of_le hb2 hB.size
            clear hB H2 hb2
            go_wp2_with fail
            refine (l1Below_any p q (by unfold maxLen; omega) (by unfold maxLen; omega) w3).mono ?_
            rintro x w4 ⟨rfl, e4⟩
            subst e4
            rw [h4]
            go_wp2_with fail
            refine (l1Up_any q (by unfold maxLen; omega) w4).mono ?_
            rintro x w5 ⟨rfl, e5⟩
            subst e5
            go_wp2_with fail
            refine (l2Dir_any es _ cap (upS q) w5 (by omega) (.inr ⟨b, o, rfl, hb3, (unhid H3).2⟩)).mono ?_
            rintro x w6 ⟨rfl, n6, e6⟩
            have hB : Below w5.heap.size w5 w6 := by rw [e6]; exact drewN_below _ _
            rw [h5]
            have H6 := hid (show Below w.heap.size w w6 ∧ ∀ (i : Nat) e, es[i]? = some e → EntAt w6 b (o + i * 4) e from ⟨(unhid H3).1.trans (hB.mono (unhid H3).1.size), entAt_below (unhid H3).2 (.inr hb3) hB⟩)
            have hb6 : b < w6.heap.size := Nat.lt_of_lt_of_le hb3 hB.size
            clear hB H3 hb3 e6 n6
            go_wp2_with fail
            have HF0 := hid (owns_empty w6 w6.heap.size (Nat.le_refl _) 27)
            have hw6 : w.heap.size ≤ w6.heap.size := (unhid H6).1.size
            go_loopw [12, 13] (fun v i wr => ∃ k : Nat, k ≤ es.length ∧ i = .int .i64 (k : Int) ∧ (∃ g c, v = .slice (some ⟨g, 0, none⟩) k c) ∧ Hid (wr.ownsRow w6.heap.size 27 4 v k (valsOf (mvTo p q es k))) ∧ Hid (mvAllS p q (es.take k) = true) ∧ Hid (Below w6.heap.size w6 wr)) (fun _ i _ => es.length - (intOf i).toNat)
            case atStart => exact ⟨0, Nat.zero_le _, rfl, ⟨_, 0, rfl⟩, hid (unhid HF0), hid rfl, hid ((Below.refl _ _).alloc (Nat.le_refl _) _)⟩
            case round =>
              obtain ⟨k, hk, rfl, ⟨g, c, rfl⟩, HO, HA, HB6⟩ := hrel
              by_cases hlt : k < es.length
              · obtain ⟨e, he⟩ : ∃ e, es[k]? = some e := ⟨es[k], List.getElem?_eq_getElem hlt⟩
                have hem := List.mem_of_getElem? he
                have hpe := pathB_size _ (ent_pathB (tree_all htb e hem))
                rw [← Lib.size_eq] at hpe
                obtain ⟨c0, c1, c2, c3⟩ := ((unhid H6).2 k e he).below (unhid HB6) hb6
                have hsz : w6.heap.size ≤ wr.heap.size := (unhid HB6).size
                have htk : mvTo p q es (k + 1) = mvTo p q es k ++ [mvS p q e] := by unfold mvTo; rw [List.take_add_one, he, List.map_append]; rfl
                have hal : mvAllS p q (es.take (k + 1)) = (mvAllS p q (es.take k) && pathB (mvS p q e).path.data.toList) := by unfold mvAllS; rw [List.take_add_one, he, List.all_append]; simp
                have HTK := hid htk
                have HAL := hid hal
                have HE := hid he
                obtain ⟨W1, hW1⟩ : ∃ W1, W1 = wr.alloc (.cells #[.string e.path, .int .i64 e.kind, .int .i64 e.mode, .string e.text] 27) := ⟨_, rfl⟩
                have hbx : W1.heap[wr.heap.size]? = some (.cells #[.string e.path, .int .i64 e.kind, .int .i64 e.mode, .string e.text] 27 (0, 0)) := by rw [hW1]; exact World.alloc_heap_new _ _
                have hBW : Below wr.heap.size wr W1 := by rw [hW1]; exact (Below.refl _ wr).alloc (Nat.le_refl _) _
                have hO1 := ownsRow_kept (unhid HO) (fun g eg => hBW.block g ((unhid HO).lt g eg).2)
                have hgne : g ≠ wr.heap.size := fun eg => by have := ((unhid HO).lt g rfl).2; omega
                have HB61 := hid ((unhid HB6).trans (hBW.mono (unhid HB6).size))
                obtain ⟨⟨d0, d1, d2, d3⟩, f0, f1, f2, f3⟩ := four_cells hbx
                have HX1 := hid hbx
                have HO1 := hid hO1
                have hz1 : wr.heap.size < W1.heap.size := (Array.getElem?_eq_some_iff.1 hbx).1
                have HW1 := hid hW1
                rw [hW1] at d0 d1 d2 d3 f0 f1 f2 f3
                clear he hem hBW hO1 HB6 hbx htk hal hW1
                cases hbl : belowB p.data.toList e.path.data.toList
                · have hmv : mvS p q e = e := by unfold mvS; rw [hbl]; rfl
                  have hpb : pathB e.path.data.toList = true := ent_pathB (tree_all htb e (List.mem_of_getElem? (unhid HE)))
                  rw [hmv] at HTK HAL
                  go_wp2_with fail
                  rw [← unhid HW1]
                  refine (l1Below_any p e.path (by unfold maxLen; omega) (by unfold maxLen; omega) W1).mono ?_
                  rintro x W2 ⟨rfl, e2⟩
                  subst e2
                  rw [hbl]
                  obtain ⟨⟨d0, d1, d2, d3⟩, f0, f1, f2, f3⟩ := four_cells (unhid HX1)
                  go_wp2_with fail
                  refine (l1Path_any e.path (by omega) W2).mono ?_
                  rintro x W3 ⟨rfl, hB⟩
                  rw [hpb]
                  have HAN := hid (show mvAllS p q (es.take (k + 1)) = true by rw [unhid HAL, unhid HA, hpb]; rfl)
                  have hO3 := ownsRow_kept (unhid HO1) (fun g eg => hB.block g ((unhid HO1).lt g eg).2)
                  have hX3 := (hB.block _ hz1).trans (unhid HX1)
                  have hB63 := (unhid HB61).trans (hB.mono (unhid HB61).size)
                  obtain ⟨⟨d0, d1, d2, d3⟩, -⟩ := four_cells hX3
                  have hz3 : w6.heap.size ≤ W3.heap.size := hB63.size
                  have HO3 := hid (hO3.alloc (.cells #[.string e.path, .int .i64 e.kind, .int .i64 e.mode, .string e.text] 27))
                  have HB3 := hid (hB63.alloc hB63.size (.cells #[.string e.path, .int .i64 e.kind, .int .i64 e.mode, .string e.text] 27))
                  clear hO3 hX3 hB63 hB HX1 HO1 HB61
                  go_wp2_with (at_builtin; refine wpList_append_own _ rfl _ _ 23 rfl w6.heap.size 27 i0 _ 4 48 Try.underlying23 (unhid HI).1 (unhid HI).2.1 (unhid HI).2.2.1 (unhid HI).2.2.2 rfl (by decide) _ k (valsOf (mvTo p q es k)) rfl (unhid HO3) ⟨W3.heap.size, 0, none⟩ 1 1 [.string e.path, .int .i64 e.kind, .int .i64 e.mode, .string e.text] rfl rfl (lit_cells W3 _ _ _ _ _) ?c2 ?c3 ?c4 ?c5 ?_)
                  case c2 => intro u hu; simp at hu; rcases hu with rfl | rfl | rfl | rfl <;> rfl
                  case c3 => unfold maxLen; omega
                  case c4 => omega
                  case c5 => simp; omega
                  intro v' W4 hown hg _
                  obtain ⟨g4, cap4, hv4⟩ := ownsRow_some hown (by omega)
                  subst hv4
                  have HF := hid (show W4.ownsRow w6.heap.size 27 4 (.slice (some ⟨g4, 0, none⟩) (k + 1) cap4) (k + 1) (valsOf (mvTo p q es (k + 1))) ∧ Below w6.heap.size w6 W4 from
                    ⟨by rw [unhid HTK, valsOf_snoc]; exact hown, (unhid HB3).grown hg (unhid HB3).size (fun k e => ((unhid HO3).lt k e).1)⟩)
                  clear hown hg
                  go_wp2_with fail
                  go_roundw
                  case rel => exact ⟨k + 1, by omega, by go_num, ⟨g4, cap4, rfl⟩, hid (unhid HF).1, HAN, hid (unhid HF).2⟩
                  case measure => simp [intOf]; omega
                · have hmv : mvS p q e = { e with path := movedP p q e.path } := by unfold mvS; rw [hbl]; rfl
                  rw [hmv] at HTK HAL
                  have hps : p.size ≤ e.path.size := by
                    rcases belowB_cases hbl with h0 | ⟨t, h0⟩
                    · rw [Lib.size_eq, Lib.size_eq, h0]; omega
                    · rw [Lib.size_eq, Lib.size_eq, h0]; simp
                  have hmz : (movedP p q e.path).size ≤ 1048576 := by
                    have h0 := movedP_list p q e.path
                    have h1 : (movedP p q e.path).size = q.size + (e.path.size - p.size) := by rw [Lib.size_eq, h0, List.length_append, List.length_drop, ← Lib.size_eq, ← Lib.size_eq, ← Lib.size_eq]
                    omega
                  go_wp2_with fail
                  rw [← unhid HW1]
                  refine (l1Below_any p e.path (by unfold maxLen; omega) (by unfold maxLen; omega) W1).mono ?_
                  rintro x W2 ⟨rfl, e2⟩
                  subst e2
                  rw [hbl]
                  obtain ⟨⟨d0, d1, d2, d3⟩, f0, f1, f2, f3⟩ := four_cells (unhid HX1)
                  have hps2 : (p.size : Int) ≤ (e.path.size : Int) := by omega
                  go_wp2_with fail
                  rw [show q ++ e.path.extract p.size e.path.size = movedP p q e.path from rfl]
                  obtain ⟨W5, hW5⟩ : ∃ W5, W5 = W2.setCell ⟨wr.heap.size, 0, none⟩ (.string (movedP p q e.path)) := ⟨_, rfl⟩
                  rw [← hW5]
                  have hX5 : W5.heap[wr.heap.size]? = some (.cells #[.string (movedP p q e.path), .int .i64 e.kind, .int .i64 e.mode, .string e.text] 27 (0, 0)) := by rw [hW5, heap_setCell_same _ _ 0 _ _ _ (unhid HX1)]; rfl
                  have hO5 : W5.ownsRow w6.heap.size 27 4 (.slice (some ⟨g, 0, none⟩) k c) k (valsOf (mvTo p q es k)) := by rw [hW5]; exact ownsRow_kept (unhid HO1) (fun g' eg => Below.heap_setCell _ _ _ _ (fun eq => by cases eg; exact hgne eq))
                  have hB65 : Below w6.heap.size w6 W5 := by rw [hW5]; exact (unhid HB61).setCell (p := ⟨wr.heap.size, 0, none⟩) hsz _
                  have hz5 : wr.heap.size < W5.heap.size := (Array.getElem?_eq_some_iff.1 hX5).1
                  clear HX1 HO1 HB61 d0 d1 d2 d3 f0 f1 f2 f3 hW5 hz1
                  have HX1 := hid hX5
                  have HO1 := hid hO5
                  have HB61 := hid hB65
                  have hz1 := hz5
                  clear hX5 hO5 hB65 hz5
                  refine (l1Path_any (movedP p q e.path) hmz W5).mono ?_
                  rintro x W3 ⟨rfl, hB⟩
                  cases hpb : pathB (movedP p q e.path).data.toList
                  · have hno : mvAllS p q es = false := List.all_eq_false.2 ⟨e, List.mem_of_getElem? (unhid HE), by rw [hmv]; simp [hpb]⟩
                    have E2 := hid (show (mayS es p q && mvAllS p q es) = false ∧ moveL p q es = es by rw [(unhid E).1, (unhid E).2, hno]; exact ⟨rfl, rfl⟩)
                    have hB63 := (unhid HB61).trans (hB.mono (unhid HB61).size)
                    have H7 := hid (show Below w.heap.size w W3 ∧ ∀ (i : Nat) e, es[i]? = some e → EntAt W3 b (o + i * 4) e from ⟨(unhid H6).1.trans (hB63.mono hw6), entAt_below (unhid H6).2 (.inr hb6) hB63⟩)
                    have hb7 : b < W3.heap.size := Nat.lt_of_lt_of_le hb6 hB63.size
                    clear hB hB63 hno HX1 HO1 HB61
                    go_wp2_with fail
                    refine (l2Copy_any es b o cap W3 (by omega) (unhid H7).2 (.inr hb7)).mono ?_
                    rintro x w9 ⟨v, rfl, hown, hB⟩
                    obtain ⟨va, vc, rfl⟩ := ownsRow_slice hown
                    have HF := hid (And.intro (ownsRow_base hown (unhid H7).1.size) ((unhid H7).1.trans (hB.mono (unhid H7).1.size)))
                    clear hown hB
                    go_wp2_with fail
                    go_ret2
                    exact ⟨_, by rw [(unhid E2).1]; rfl, by rw [(unhid E2).2]; exact (unhid HF).1, (unhid HF).2⟩
                  · have HAN := hid (show mvAllS p q (es.take (k + 1)) = true by rw [unhid HAL, unhid HA]; simpa using hpb)
                    have hO3 := ownsRow_kept (unhid HO1) (fun g eg => hB.block g ((unhid HO1).lt g eg).2)
                    have hX3 := (hB.block _ hz1).trans (unhid HX1)
                    have hB63 := (unhid HB61).trans (hB.mono (unhid HB61).size)
                    obtain ⟨⟨d0, d1, d2, d3⟩, -⟩ := four_cells hX3
                    have hz3 : w6.heap.size ≤ W3.heap.size := hB63.size
                    have HO3 := hid (hO3.alloc (.cells #[.string (movedP p q e.path), .int .i64 e.kind, .int .i64 e.mode, .string e.text] 27))
                    have HB3 := hid (hB63.alloc hB63.size (.cells #[.string (movedP p q e.path), .int .i64 e.kind, .int .i64 e.mode, .string e.text] 27))
                    clear hO3 hX3 hB63 hB HX1 HO1 HB61
                    go_wp2_with (at_builtin; refine wpList_append_own _ rfl _ _ 23 rfl w6.heap.size 27 i0 _ 4 48 Try.underlying23 (unhid HI).1 (unhid HI).2.1 (unhid HI).2.2.1 (unhid HI).2.2.2 rfl (by decide) _ k (valsOf (mvTo p q es k)) rfl (unhid HO3) ⟨W3.heap.size, 0, none⟩ 1 1 [.string (movedP p q e.path), .int .i64 e.kind, .int .i64 e.mode, .string e.text] rfl rfl (lit_cells W3 _ _ _ _ _) ?c2 ?c3 ?c4 ?c5 ?_)
                    case c2 => intro u hu; simp at hu; rcases hu with rfl | rfl | rfl | rfl <;> rfl
                    case c3 => unfold maxLen; omega
                    case c4 => omega
                    case c5 => simp; omega
                    intro v' W4 hown hg _
                    obtain ⟨g4, cap4, hv4⟩ := ownsRow_some hown (by omega)
                    subst hv4
                    have HF := hid (show W4.ownsRow w6.heap.size 27 4 (.slice (some ⟨g4, 0, none⟩) (k + 1) cap4) (k + 1) (valsOf (mvTo p q es (k + 1))) ∧ Below w6.heap.size w6 W4 from
                      ⟨by rw [unhid HTK, valsOf_snoc]; exact hown, (unhid HB3).grown hg (unhid HB3).size (fun k e => ((unhid HO3).lt k e).1)⟩)
                    clear hown hg
                    go_wp2_with fail
                    go_roundw
                    case rel => exact ⟨k + 1, by omega, by go_num, ⟨g4, cap4, rfl⟩, hid (unhid HF).1, HAN, hid (unhid HF).2⟩
                    case measure => simp [intOf]; omega
              · have ek : k = es.length := by omega
                subst ek
                rw [List.take_of_length_le (Nat.le_refl _)] at HA
                have hmt : mvTo p q es es.length = es.map (mvS p q) := by unfold mvTo; rw [List.take_of_length_le (Nat.le_refl _)]
                rw [hmt] at HO
                have hml : (es.map (mvS p q)).length = es.length := List.length_map _
                have E2 := hid (show (mayS es p q && mvAllS p q es) = true ∧ moveL p q es = sortL (es.map (mvS p q)) by rw [(unhid E).1, (unhid E).2, unhid HA]; exact ⟨rfl, rfl⟩)
                have hO := unhid HO
                rw [← hml] at hO
                obtain ⟨a1, cap1, ev, hRI⟩ := rowIn_of_owns hO
                have hgl : g < wr.heap.size := ((unhid HO).lt g rfl).2
                have HGE := hid (show ∀ (i : Nat) x, (es.map (mvS p q))[i]? = some x → EntAt wr g (0 + i * 4) x by

                  injection ev with ev1 ev2 ev3
                  subst ev1
                  rcases hRI.at with h0 | ⟨b', o', eb, _, hcc⟩
                  · intro i x hi; rw [h0] at hi; simp at hi
                  · cases eb; exact hcc)
                have SRT := hid (l2Sorted_any (es.map (mvS p q)) g 0 c wr (by rw [hml]; omega) (unhid HGE) hgl)
                rw [hml] at SRT
                have HB := hid ((unhid H6).1.trans ((unhid HB6).mono hw6))
                clear hO ev hRI hmt hml HGE hgl
                go_wp2_with fail
                refine (unhid SRT).mono ?_
                rintro x w9 ⟨v, rfl, hown, hB⟩
                obtain ⟨va, vc, rfl⟩ := ownsRow_slice hown
                have HF := hid (And.intro (ownsRow_base hown (unhid HB).size) ((unhid HB).trans (hB.mono (unhid HB).size)))
                clear hown hB
                go_wp2_with fail
                go_ret2
                exact ⟨_, by rw [(unhid E2).1]; rfl, by rw [(unhid E2).2]; exact (unhid HF).1, (unhid HF).2⟩

        · have E := hid (show (mayS es p q && mvAllS p q es) = false ∧ moveL p q es = es by unfold moveL; rw [show mayS es p q = false by simp [mayS, h1, h2, h3, h4]]; exact ⟨rfl, rfl⟩)
          go_enter Try.func58, Try.ntmps58
          go_wp2_with fail
          refine (l2At_any es _ _ p w (by omega) (.inr ⟨b, o, rfl, hb, unhid H⟩)).mono ?_
          rintro x w1 ⟨rfl, n1, e1⟩
          rw [h1]
          have hB1 : Below w.heap.size w w1 := by rw [e1]; exact drewN_below _ _
          have H1 := hid (show Below w.heap.size w w1 ∧ ∀ (i : Nat) e, es[i]? = some e → EntAt w1 b (o + i * 4) e from ⟨hB1, entAt_below (unhid H) (.inr hb) hB1⟩)
          have hb1 : b < w1.heap.size := Nat.lt_of_lt_of_le hb hB1.size
          clear hB1 e1 n1
          go_wp2_with fail
          refine (l2At_any es _ _ q w1 (by omega) (.inr ⟨b, o, rfl, hb1, (unhid H1).2⟩)).mono ?_
          rintro x w2 ⟨rfl, n2, e2⟩
          have hB2 : Below w1.heap.size w1 w2 := by rw [e2]; exact drewN_below _ _
          have H2 := hid (show Below w.heap.size w w2 ∧ ∀ (i : Nat) e, es[i]? = some e → EntAt w2 b (o + i * 4) e from ⟨(unhid H1).1.trans (hB2.mono (unhid H1).1.size), entAt_below (unhid H1).2 (.inr hb1) hB2⟩)
          have hb2 : b < w2.heap.size := Nat.lt_of_lt_of_le hb1 hB2.size
          clear hB2 e2 n2 H1 hb1
          rw [h2]
          go_wp2_with fail
          refine (l1Path_any q hq w2).mono ?_
          rintro x w3 ⟨rfl, hB⟩
          rw [h3]
          have H3 := hid (show Below w.heap.size w w3 ∧ ∀ (i : Nat) e, es[i]? = some e → EntAt w3 b (o + i * 4) e from ⟨(unhid H2).1.trans (hB.mono (unhid H2).1.size), entAt_below (unhid H2).2 (.inr hb2) hB⟩)
          have hb3 : b < w3.heap.size := Nat.lt_of_lt_of_le hb2 hB.size
          clear hB H2 hb2
          go_wp2_with fail
          refine (l1Below_any p q (by unfold maxLen; omega) (by unfold maxLen; omega) w3).mono ?_
          rintro x w4 ⟨rfl, e4⟩
          subst e4
          rw [h4]
          go_wp2_with fail
          refine (l2Copy_any es b o cap w4 (by omega) (unhid H3).2 (.inr hb3)).mono ?_
          rintro x w9 ⟨v, rfl, hown, hB⟩
          obtain ⟨va, vc, rfl⟩ := ownsRow_slice hown
          have HF := hid (And.intro (ownsRow_base hown (unhid H3).1.size) ((unhid H3).1.trans (hB.mono (unhid H3).1.size)))
          clear hown hB
          go_wp2_with fail
          go_ret2
          exact ⟨_, by rw [(unhid E).1]; rfl, by rw [(unhid E).2]; exact (unhid HF).1, (unhid HF).2⟩

    · have E := hid (show (mayS es p q && mvAllS p q es) = false ∧ moveL p q es = es by unfold moveL; rw [show mayS es p q = false by simp [mayS, h1, h2]]; exact ⟨rfl, rfl⟩)
      go_enter Try.func58, Try.ntmps58
      go_wp2_with fail
      refine (l2At_any es _ _ p w (by omega) (.inr ⟨b, o, rfl, hb, unhid H⟩)).mono ?_
      rintro x w1 ⟨rfl, n1, e1⟩
      rw [h1]
      have hB1 : Below w.heap.size w w1 := by rw [e1]; exact drewN_below _ _
      have H1 := hid (show Below w.heap.size w w1 ∧ ∀ (i : Nat) e, es[i]? = some e → EntAt w1 b (o + i * 4) e from ⟨hB1, entAt_below (unhid H) (.inr hb) hB1⟩)
      have hb1 : b < w1.heap.size := Nat.lt_of_lt_of_le hb hB1.size
      clear hB1 e1 n1
      go_wp2_with fail
      refine (l2At_any es _ _ q w1 (by omega) (.inr ⟨b, o, rfl, hb1, (unhid H1).2⟩)).mono ?_
      rintro x w2 ⟨rfl, n2, e2⟩
      have hB2 : Below w1.heap.size w1 w2 := by rw [e2]; exact drewN_below _ _
      have H2 := hid (show Below w.heap.size w w2 ∧ ∀ (i : Nat) e, es[i]? = some e → EntAt w2 b (o + i * 4) e from ⟨(unhid H1).1.trans (hB2.mono (unhid H1).1.size), entAt_below (unhid H1).2 (.inr hb1) hB2⟩)
      have hb2 : b < w2.heap.size := Nat.lt_of_lt_of_le hb1 hB2.size
      clear hB2 e2 n2 H1 hb1
      rw [h2]
      go_wp2_with fail
      refine (l2Copy_any es b o cap w2 (by omega) (unhid H2).2 (.inr hb2)).mono ?_
      rintro x w9 ⟨v, rfl, hown, hB⟩
      obtain ⟨va, vc, rfl⟩ := ownsRow_slice hown
      have HF := hid (And.intro (ownsRow_base hown (unhid H2).1.size) ((unhid H2).1.trans (hB.mono (unhid H2).1.size)))
      clear hown hB
      go_wp2_with fail
      go_ret2
      exact ⟨_, by rw [(unhid E).1]; rfl, by rw [(unhid E).2]; exact (unhid HF).1, (unhid HF).2⟩

end Go.Proofs.Ytaefjibnnbdaaaa

/- What is moved in a tree: the model's answer. -/
namespace Go.Proofs.Ytaefjibnnbdaaaa
open Go.RowKit Go.Shelf

theorem moveR_len (p q : ByteArray) (es : List Ent) : (moveR p q es).length ≤ 100 := by
  have := (kept_asc es).2
  unfold moveR
  split
  · have h := putAll_len ((keptE es).map (mvE p q))
    rw [List.length_map] at h
    omega
  · omega

set_option maxRecDepth 100000 in
set_option maxHeartbeats 2000000 in
theorem specTreeMove_any (es : List Ent) (p q : ByteArray) (b o cap : Nat) (w : World) (hs : smallE es) (hp : p.size ≤ 1048576) (hq : q.size ≤ 1048576) (h : ∀ (i : Nat) e, es[i]? = some e → EntAt w b (o + i * 4) e) (hb : b < w.heap.size) :
    Calls Try.prog 20 #[.slice (some ⟨b, o, none⟩) es.length cap, .string p, .string q] w fun x w' => ∃ v, x = .returned (.tuple #[v, .bool (moveOk p q es)]) ∧ w'.ownsRow w.heap.size 27 4 v (moveR p q es).length (valsOf (moveR p q es)) ∧ Below w.heap.size w w' := by
  have hat1 : EntsAt w (some ⟨b, o, none⟩) es := .inr ⟨b, o, rfl, hb, h⟩
  have OK := hid (specTreeOk_any es (some ⟨b, o, none⟩) cap w hs hat1)
  have H1 := hid h
  clear hat1 h hs
  go_enter Try.func20, Try.ntmps20
  go_wp2_with fail
  refine (unhid OK).mono ?_
  rintro x w2 ⟨rfl, hB2⟩
  have H2 := hid (show Below w.heap.size w w2 ∧ ∀ (i : Nat) e, es[i]? = some e → EntAt w2 b (o + i * 4) e from ⟨hB2, entAt_below (unhid H1) (.inr hb) hB2⟩)
  have hb2 : b < w2.heap.size := Nat.lt_of_lt_of_le hb hB2.size
  clear hB2 H1 OK
  cases htb : treeB es
  · have E := hid (show moveR p q es = [] ∧ moveOk p q es = false by unfold moveR moveOk; rw [keptE_no htb]; exact ⟨by simp [mayB, thereE, placeE], by simp [mayB, thereE, placeE]⟩)
    have HF := hid (And.intro (owns_empty w2 w.heap.size (unhid H2).1.size 27) ((unhid H2).1.alloc (unhid H2).1.size (.cells #[] 27)))
    go_wp2_with fail
    go_ret2
    exact ⟨_, by rw [(unhid E).2]; rfl, by rw [(unhid E).1]; exact (unhid HF).1, (unhid HF).2⟩
  · have E := hid (show moveOk p q es = (mayS es p q && mvAllS p q es) ∧ moveR p q es = moveL p q es from move_spec (p := p) (q := q) htb)
    go_wp2_with fail
    refine (l2Move_any es p q b o cap w2 htb hp hq (unhid H2).2 hb2).mono ?_
    rintro x w4 ⟨v, rfl, hown, hB4⟩
    obtain ⟨va, vc, rfl⟩ := ownsRow_slice hown
    have HF := hid (And.intro (ownsRow_base hown (unhid H2).1.size) ((unhid H2).1.trans (hB4.mono (unhid H2).1.size)))
    clear hown hB4
    generalize hmb : (mayS es p q && mvAllS p q es) = mb at *
    clear hmb
    go_wp2_with fail
    go_ret2
    exact ⟨_, by rw [(unhid E).1]; rfl, by rw [(unhid E).2]; exact (unhid HF).1, (unhid HF).2⟩
end Go.Proofs.Ytaefjibnnbdaaaa

/- Two trees in one: the model's answer. -/
namespace Go.Proofs.Ytaefjibnnbdaaaa
open Go.RowKit Go.Shelf

theorem joinR_len (es fs : List Ent) : (joinR es fs).length ≤ 100 := by
  unfold joinR
  split
  · rename_i h
    unfold joinOk at h
    simp only [Bool.and_eq_true] at h
    have h1 := joinTo_len es fs
    have h2 := tree_16 h.1
    have h3 := tree_16 h.2.1
    omega
  · simp

set_option maxRecDepth 100000 in
set_option maxHeartbeats 2000000 in
theorem specTreeJoin_any (es fs : List Ent) (b o cap b2 o2 cap2 : Nat) (w : World) (hs : smallE es) (hs2 : smallE fs) (h : ∀ (i : Nat) e, es[i]? = some e → EntAt w b (o + i * 4) e) (hb : b < w.heap.size) (hf : ∀ (i : Nat) e, fs[i]? = some e → EntAt w b2 (o2 + i * 4) e) (hb2 : b2 < w.heap.size) :
    Calls Try.prog 34 #[.slice (some ⟨b, o, none⟩) es.length cap, .slice (some ⟨b2, o2, none⟩) fs.length cap2] w fun x w' => ∃ v, x = .returned (.tuple #[v, .bool (joinOk es fs)]) ∧ w'.ownsRow w.heap.size 27 4 v (joinR es fs).length (valsOf (joinR es fs)) ∧ Below w.heap.size w w' := by
  have OK := hid (specTreeOk_any es (some ⟨b, o, none⟩) cap w hs (.inr ⟨b, o, rfl, hb, h⟩))
  have H1 := hid (And.intro h hf)
  have HS2 := hid hs2
  clear h hf hs hs2
  go_enter Try.func34, Try.ntmps34
  go_wp2_with fail
  refine (unhid OK).mono ?_
  rintro x w2 ⟨rfl, hB2⟩
  have H2 := hid (show Below w.heap.size w w2 ∧ (∀ (i : Nat) e, es[i]? = some e → EntAt w2 b (o + i * 4) e) ∧ ∀ (i : Nat) e, fs[i]? = some e → EntAt w2 b2 (o2 + i * 4) e from ⟨hB2, entAt_below (unhid H1).1 (.inr hb) hB2, entAt_below (unhid H1).2 (.inr hb2) hB2⟩)
  have hb' : b < w2.heap.size := Nat.lt_of_lt_of_le hb hB2.size
  have hb2' : b2 < w2.heap.size := Nat.lt_of_lt_of_le hb2 hB2.size
  clear hB2 H1 OK
  cases htb : treeB es
  · have E := hid (show joinOk es fs = false ∧ joinR es fs = [] by unfold joinR joinOk; rw [htb]; exact ⟨rfl, rfl⟩)
    have HF := hid (And.intro (owns_empty w2 w.heap.size (unhid H2).1.size 27) ((unhid H2).1.alloc (unhid H2).1.size (.cells #[] 27)))
    go_wp2_with fail
    go_ret2
    exact ⟨_, by rw [(unhid E).1]; rfl, by rw [(unhid E).2]; exact (unhid HF).1, (unhid HF).2⟩
  · go_wp2_with fail
    refine (specTreeOk_any fs (some ⟨b2, o2, none⟩) cap2 w2 (unhid HS2) (.inr ⟨b2, o2, rfl, hb2', (unhid H2).2.2⟩)).mono ?_
    rintro x w3 ⟨rfl, hB3⟩
    have H3 := hid (show Below w.heap.size w w3 ∧ (∀ (i : Nat) e, es[i]? = some e → EntAt w3 b (o + i * 4) e) ∧ ∀ (i : Nat) e, fs[i]? = some e → EntAt w3 b2 (o2 + i * 4) e from ⟨(unhid H2).1.trans (hB3.mono (unhid H2).1.size), entAt_below (unhid H2).2.1 (.inr hb') hB3, entAt_below (unhid H2).2.2 (.inr hb2') hB3⟩)
    have hb3 : b < w3.heap.size := Nat.lt_of_lt_of_le hb' hB3.size
    have hb23 : b2 < w3.heap.size := Nat.lt_of_lt_of_le hb2' hB3.size
    clear hB3 H2
    cases htb2 : treeB fs
    · have E := hid (show joinOk es fs = false ∧ joinR es fs = [] by unfold joinR joinOk; rw [htb, htb2]; exact ⟨rfl, rfl⟩)
      have HF := hid (And.intro (owns_empty w3 w.heap.size (unhid H3).1.size 27) ((unhid H3).1.alloc (unhid H3).1.size (.cells #[] 27)))
      go_wp2_with fail
      go_ret2
      exact ⟨_, by rw [(unhid E).1]; rfl, by rw [(unhid E).2]; exact (unhid HF).1, (unhid HF).2⟩
    · go_wp2_with fail
      refine (l2Join_any es fs b o cap b2 o2 cap2 w3 htb htb2 (unhid H3).2.1 hb3 (unhid H3).2.2 hb23).mono ?_
      rintro x w4 ⟨v, rfl, hown, hB4⟩
      obtain ⟨va, vc, rfl⟩ := ownsRow_slice hown
      have hB := (unhid H3).1.trans (hB4.mono (unhid H3).1.size)
      cases hj : (okJ es fs && treeB (joinTo es fs))
      · have E := hid (show joinOk es fs = false ∧ joinR es fs = [] by unfold joinR joinOk; rw [htb, htb2, hj]; exact ⟨rfl, rfl⟩)
        have HF := hid (And.intro (owns_empty w4 w.heap.size hB.size 27) (hB.alloc hB.size (.cells #[] 27)))
        clear hown hB4 hB
        go_wp2_with fail
        go_ret2
        exact ⟨_, by rw [(unhid E).1]; rfl, by rw [(unhid E).2]; exact (unhid HF).1, (unhid HF).2⟩
      · have E := hid (show joinOk es fs = true ∧ joinR es fs = joinL es fs by
          have hj1 : okJ es fs = true := by simp only [Bool.and_eq_true] at hj; exact hj.1
          unfold joinR joinOk joinL; rw [htb, htb2, hj, hj1]; exact ⟨rfl, rfl⟩)
        have HF := hid (And.intro (ownsRow_base hown (unhid H3).1.size) hB)
        clear hown hB4 hB
        go_wp2_with fail
        go_ret2
        exact ⟨_, by rw [(unhid E).1]; rfl, by rw [(unhid E).2]; exact (unhid HF).1, (unhid HF).2⟩
end Go.Proofs.Ytaefjibnnbdaaaa

/- A tree by what is in it: entries that are ok, each path once, each in a dir. -/
namespace Go.Proofs.Ytaefjibnnbdaaaa
open Go.RowKit Go.Shelf

theorem path_uniq {es : List Ent} (h : Up es) {x y : Ent} (hx : x ∈ es) (hy : y ∈ es) (hp : x.path = y.path) : x = y := by
  have h1 := (there_mem h hx).2
  have h2 := (there_mem h hy).2
  rw [← h1, ← h2, hp]
theorem there_iff {es : List Ent} (h : Up es) (p : ByteArray) : thereE es p = true ↔ ∃ x ∈ es, x.path = p := by
  constructor
  · intro ht
    obtain ⟨x, hx, hp⟩ := there_get ht
    exact ⟨x, List.mem_of_getElem? hx, hp⟩
  · rintro ⟨x, hx, rfl⟩
    exact (there_mem h hx).1
theorem there_not {es : List Ent} (h : Up es) {p : ByteArray} (ht : thereE es p = false) : ∀ x ∈ es, x.path ≠ p := fun x hx hp => by
  rw [(there_iff h p).2 ⟨x, hx, hp⟩] at ht; cases ht
/-- Something may be in a place: it is the top, or a dir that is there. -/
def DirIn (es : List Ent) (q : ByteArray) : Prop := q.toList.isEmpty = true ∨ ∃ x ∈ es, x.path = q ∧ x.kind = 1
theorem dir_iff {es : List Ent} (h : Up es) (q : ByteArray) : dirE es q = true ↔ DirIn es q := by
  unfold dirE DirIn
  constructor
  · intro hd
    rw [Bool.or_eq_true] at hd
    rcases hd with hd | hd
    · exact .inl hd
    · rw [Bool.and_eq_true] at hd
      obtain ⟨x, hx, hp⟩ := there_get hd.1
      rw [entFn_get hx] at hd
      exact .inr ⟨x, List.mem_of_getElem? hx, hp, by simpa using hd.2⟩
  · rintro (hd | ⟨x, hx, rfl, hk⟩)
    · rw [hd]; rfl
    · rw [(there_mem h hx).1, (there_mem h hx).2, hk]; simp
theorem tree_iff (es : List Ent) : treeB es = true ↔ (∀ x ∈ es, entB x = true) ∧ Up es ∧ (∀ x ∈ es, DirIn es (upS x.path)) ∧ es.length ≤ 16 := by
  constructor
  · intro h
    have hu := asc_up (tree_asc h)
    exact ⟨tree_all h, hu, fun x hx => (dir_iff hu _).1 (tree_dir h hx), tree_16 h⟩
  · rintro ⟨h1, hu, h3, h4⟩
    unfold treeB
    simp only [Bool.and_eq_true, List.all_eq_true, List.mem_range, decide_eq_true_eq]
    refine ⟨⟨fun i hi => ?_, fun i hi => ?_⟩, h4⟩
    · have hm : entFn es i ∈ es := List.mem_of_getElem? (ent_get hi)
      unfold sortAt
      rw [h1 _ hm, Bool.true_and, Bool.or_eq_true]
      by_cases h0 : i = 0
      · left; simp [h0]
      · right
        have hi1 : i - 1 < es.length := by omega
        have := List.pairwise_iff_getElem.1 hu (i - 1) i hi1 hi (by omega)
        rw [entFn_get (List.getElem?_eq_getElem hi), entFn_get (List.getElem?_eq_getElem hi1)]
        exact this
    · have hm : entFn es i ∈ es := List.mem_of_getElem? (ent_get hi)
      exact (dir_iff hu _).2 (h3 _ hm)
theorem up_ext : ∀ {xs ys : List Ent}, Up xs → Up ys → (∀ x, x ∈ xs ↔ x ∈ ys) → xs = ys
  | [], [], _, _, _ => rfl
  | [], y :: ys, _, _, h => absurd ((h y).2 (by simp)) (by simp)
  | x :: xs, [], _, _, h => absurd ((h x).1 (by simp)) (by simp)
  | x :: xs, y :: ys, hx, hy, h => by
    have hx' := List.pairwise_cons.1 hx
    have hy' := List.pairwise_cons.1 hy
    have hirr : ∀ a : ByteArray, ltS a a = false := fun a => lt_irr _
    have e : x = y := by
      rcases List.mem_cons.1 ((h x).1 (by simp)) with e | hm
      · exact e
      · rcases List.mem_cons.1 ((h y).2 (by simp)) with e | hm2
        · exact e.symm
        · have a := hy'.1 x hm
          have b := hx'.1 y hm2
          have := lt_trans' a b
          rw [hirr] at this; cases this
    subst e
    have : xs = ys := up_ext hx'.2 hy'.2 (fun z => by
      constructor
      · intro hz
        rcases List.mem_cons.1 ((h z).1 (by simp [hz])) with e | hm
        · subst e; have := hx'.1 z hz; rw [hirr] at this; cases this
        · exact hm
      · intro hz
        rcases List.mem_cons.1 ((h z).2 (by simp [hz])) with e | hm
        · subst e; have := hy'.1 z hz; rw [hirr] at this; cases this
        · exact hm)
    rw [this]
theorem putT_iff {es : List Ent} (h : Up es) (e x : Ent) : x ∈ putT es e ↔ x = e ∨ (x ∈ es ∧ x.path ≠ e.path) := by
  unfold putT
  cases ht : thereE es e.path
  · have hno := there_not h ht
    unfold insAt
    simp only [Bool.false_eq_true, if_false, List.mem_append, List.mem_singleton]
    constructor
    · rintro ((hx | hx) | hx)
      · exact .inr ⟨List.mem_of_mem_take hx, hno x (List.mem_of_mem_take hx)⟩
      · exact .inl hx
      · exact .inr ⟨List.mem_of_mem_drop hx, hno x (List.mem_of_mem_drop hx)⟩
    · rintro (hx | ⟨hx, _⟩)
      · exact .inl (.inr hx)
      · rw [← List.take_append_drop (placeE es e.path) es, List.mem_append] at hx
        rcases hx with hx | hx
        · exact .inl (.inl hx)
        · exact .inr hx
  · obtain ⟨old, ho, hop⟩ := there_get ht
    have hol := (List.getElem?_eq_some_iff.1 ho).1
    simp only [if_true]
    constructor
    · intro hx
      have hu : Up (es.set (placeE es e.path) e) := by
        have := putT_up (e := e) h
        unfold putT at this
        rwa [ht, if_pos rfl] at this
      have he : e ∈ es.set (placeE es e.path) e := List.mem_set hol e
      rcases List.mem_or_eq_of_mem_set hx with hm | rfl
      · by_cases hp : x.path = e.path
        · exact .inl (path_uniq hu hx he hp)
        · exact .inr ⟨hm, hp⟩
      · exact .inl rfl
    · rintro (rfl | ⟨hx, hp⟩)
      · exact List.mem_set hol x
      · obtain ⟨i, hi⟩ := List.getElem?_of_mem hx
        have hne : placeE es e.path ≠ i := by
          rintro rfl
          rw [ho] at hi
          cases hi
          exact hp hop
        refine List.mem_of_getElem? (i := i) ?_
        rw [List.getElem?_set, if_neg hne]; exact hi
theorem left_iff (p : ByteArray) (es : List Ent) (x : Ent) : x ∈ leftE p es ↔ x ∈ es ∧ inB p.data.toList x.path.data.toList = false := by
  unfold leftE; rw [List.mem_filter]; simp
theorem left_up {p : ByteArray} {es : List Ent} (h : Up es) : Up (leftE p es) := List.Pairwise.filter _ h
theorem tree_up {es : List Ent} (h : treeB es = true) : Up es := asc_up (tree_asc h)

/-- What can be put into a tree leaves a tree. -/
theorem okPut_iff {es : List Ent} (h : treeB es = true) (e : Ent) : okPut es e = true ↔ entB e = true ∧ DirIn es (upS e.path) ∧ ((∃ x ∈ es, x.path = e.path ∧ x.kind = e.kind) ∨ ((∀ x ∈ es, x.path ≠ e.path) ∧ es.length < 16)) := by
  have hu := tree_up h
  unfold okPut
  rw [Bool.and_eq_true, Bool.and_eq_true]
  constructor
  · rintro ⟨h1, h2, h3⟩
    rw [ent_path h1] at h2
    refine ⟨h1, (dir_iff hu _).1 h2, ?_⟩
    cases ht : thereE es e.path
    · rw [ht] at h3
      right
      have := tree_16 h
      simp at h3
      exact ⟨there_not hu ht, by omega⟩
    · rw [ht] at h3
      obtain ⟨old, ho, hop⟩ := there_get ht
      rw [entFn_get ho] at h3
      left
      exact ⟨old, List.mem_of_getElem? ho, hop, by simpa using h3⟩
  · rintro ⟨h1, h2, h3⟩
    refine ⟨h1, by rw [ent_path h1]; exact (dir_iff hu _).2 h2, ?_⟩
    rcases h3 with ⟨x, hx, hp, hk⟩ | ⟨h3, h4⟩
    · have := there_mem hu hx
      rw [← hp, this.1, this.2, hk]; simp
    · have ht : thereE es e.path = false := by
        cases ht : thereE es e.path
        · rfl
        · obtain ⟨x, hx, hp⟩ := (there_iff hu _).1 ht
          exact absurd hp (h3 x hx)
      rw [ht]; simp; omega
theorem putT_16 {es : List Ent} {e : Ent} (h : treeB es = true) (hk : okPut es e = true) : (putT es e).length ≤ 16 := by
  have : putT es e = putL es e := by unfold putL; rw [hk]; rfl
  have h16 := tree_16 h
  unfold putT
  cases ht : thereE es e.path
  · have h3 := ((okPut_iff h e).1 hk).2.2
    rcases h3 with ⟨x, hx, hp, _⟩ | ⟨_, h3⟩
    · rw [(there_iff (tree_up h) _).2 ⟨x, hx, hp⟩] at ht; cases ht
    · have := placeE_le es e.path
      unfold insAt; simp; omega
  · simp; exact h16
theorem put_tree {es : List Ent} {e : Ent} (h : treeB es = true) (hk : okPut es e = true) : treeB (putT es e) = true := by
  have hu := tree_up h
  obtain ⟨h1, h2, h3⟩ := (okPut_iff h e).1 hk
  obtain ⟨g1, g2, g3, g4⟩ := (tree_iff es).1 h
  have hdir : ∀ q, DirIn es q → DirIn (putT es e) q := by
    rintro q (hq | ⟨x, hx, hp, hk⟩)
    · exact .inl hq
    · by_cases hpe : x.path = e.path
      · rcases h3 with ⟨y, hy, hyp, hyk⟩ | ⟨h3, _⟩
        · have : y = x := path_uniq hu hy hx (by rw [hyp, hpe])
          subst this
          exact .inr ⟨e, (putT_iff hu e e).2 (.inl rfl), by rw [← hpe, hp], by rw [← hyk, hk]⟩
        · exact absurd hpe (h3 x hx)
      · exact .inr ⟨x, (putT_iff hu e x).2 (.inr ⟨hx, hpe⟩), hp, hk⟩
  refine (tree_iff _).2 ⟨fun x hx => ?_, putT_up hu, fun x hx => ?_, putT_16 h hk⟩
  · rcases (putT_iff hu e x).1 hx with rfl | ⟨hx, _⟩
    · exact h1
    · exact g1 x hx
  · rcases (putT_iff hu e x).1 hx with rfl | ⟨hx, _⟩
    · exact hdir _ h2
    · exact hdir _ (g3 x hx)
theorem put_yes {es : List Ent} {e : Ent} (h : putOk es e = true) : treeB es = true ∧ okPut es e = true ∧ putR es e = putT es e := by
  unfold putOk at h
  rw [Bool.and_eq_true] at h
  refine ⟨h.1, h.2, ?_⟩
  unfold putR putL
  rw [if_pos h.1, if_pos h.2]
theorem there_mem' {es : List Ent} {x : Ent} (h : treeB es = true) (hx : x ∈ es) : thereE es x.path = true ∧ gotE es x.path = x := by
  have := there_mem (tree_up h) hx
  refine ⟨this.1, ?_⟩
  unfold gotE
  rw [h, this.1]
  exact this.2
theorem up_in {s : ByteArray} (h : pathB s.data.toList = true) (hne : (upS s).toList.isEmpty = false) : inB (upS s).data.toList s.data.toList = true := by
  by_cases hi : 0 ≤ lastIx 47 s.data.toList
  · have h1 := up_some h hi
    have h2 : pathUpS s = upS s := by unfold pathUpS; rw [h]; rfl
    rw [h2] at h1
    rw [h1]
    exact inB_up _ h hi
  · exfalso
    unfold upS at hne
    rw [if_pos (by omega)] at hne
    revert hne
    decide +kernel
theorem drop_tree {es : List Ent} (h : treeB es = true) (p : ByteArray) : treeB (leftE p es) = true := by
  obtain ⟨g1, g2, g3, g4⟩ := (tree_iff es).1 h
  refine (tree_iff _).2 ⟨fun x hx => g1 x ((left_iff p es x).1 hx).1, left_up g2, fun x hx => ?_, Nat.le_trans (List.length_filter_le _ _) g4⟩
  obtain ⟨hx1, hx2⟩ := (left_iff p es x).1 hx
  rcases g3 x hx1 with hq | ⟨y, hy, hp, hk⟩
  · exact .inl hq
  · by_cases hq : (upS x.path).toList.isEmpty = true
    · exact .inl hq
    · refine .inr ⟨y, (left_iff p es y).2 ⟨hy, ?_⟩, hp, hk⟩
      cases hi : inB p.data.toList y.path.data.toList
      · rfl
      · have := up_in (ent_pathB (g1 x hx1)) (by simpa using hq)
        rw [← hp] at this
        rw [inB_trans hi this] at hx2
        cases hx2
theorem left_less {es : List Ent} {p : ByteArray} (h : treeB es = true) (ht : thereE es p = true) : (leftE p es).length < es.length := by
  obtain ⟨x, hx, hp⟩ := (there_iff (tree_up h) p).1 ht
  refine List.length_filter_lt_length_iff_exists.2 ⟨x, hx, ?_⟩
  have := ent_pathB (tree_all h x hx)
  rw [← hp, inB_refl _ this]
  simp
theorem left_split {es : List Ent} {p : ByteArray} {k : Nat} {e : Ent} (he : es[k]? = some e) (hi : inB p.data.toList e.path.data.toList = false) : leftE p (es.take (k + 1)) = leftE p (es.take k) ++ [e] ∧ (leftE p es)[(leftE p (es.take k)).length]? = some e := by
  have h1 : leftE p (es.take (k + 1)) = leftE p (es.take k) ++ [e] := by
    unfold leftE; rw [List.take_add_one, he, List.filter_append]; simp [hi]
  refine ⟨h1, ?_⟩
  have h2 : leftE p es = leftE p (es.take (k + 1)) ++ leftE p (es.drop (k + 1)) := by
    unfold leftE; rw [← List.filter_append, List.take_append_drop]
  rw [h2, h1, List.append_assoc, List.getElem?_append_right (Nat.le_refl _)]
  simp
theorem left_skip {es : List Ent} {p : ByteArray} {k : Nat} {e : Ent} (he : es[k]? = some e) (hi : inB p.data.toList e.path.data.toList = true) : leftE p (es.take (k + 1)) = leftE p (es.take k) := by
  unfold leftE; rw [List.take_add_one, he, List.filter_append]; simp [hi]
theorem left_len (p : ByteArray) (es : List Ent) : (leftE p es).length ≤ es.length := List.length_filter_le _ _
end Go.Proofs.Ytaefjibnnbdaaaa

/- Where a link leads; where links lead one behind the other. -/
namespace Go.Proofs.Ytaefjibnnbdaaaa
open Go.RowKit Go.Shelf

set_option maxRecDepth 100000 in
set_option maxHeartbeats 4000000 in
theorem linkText_no (e : Ent) (he : entB e = true) (hk : e.kind ≠ 3) (w : World) : Calls Try.prog 46 #[nodeV e] w fun x w' => x = .returned (.tuple #[.string ⟨#[]⟩, .bool false]) ∧ Below w.heap.size w w' := by
  by_cases k1 : e.kind = 1
  · rw [show nodeV e = .iface 110 (.agg #[.int .i64 e.mode]) by unfold nodeV; rw [if_pos k1]]
    have hta : ∀ w, (Instr.typeAssert (.iface 110 (.agg #[.int .i64 e.mode])) 62 107 true).run Try.prog w = .ok (.tuple #[.agg #[.string ⟨#[]⟩], .bool false]) w := fun _ => by kernel_rfl
    clear k1 hk he
    go_enter Try.func46, Try.ntmps46
    go_wp2_with fail
    go_ret2
    exact ⟨rfl, (Below.refl _ _).alloc (Nat.le_refl _) _⟩
  · by_cases k2 : e.kind = 2
    · rw [show nodeV e = .iface 112 (.agg #[.int .i64 e.mode, .string e.text]) by unfold nodeV; rw [if_neg k1, if_pos k2]]
      have hta : ∀ w, (Instr.typeAssert (.iface 112 (.agg #[.int .i64 e.mode, .string e.text])) 62 107 true).run Try.prog w = .ok (.tuple #[.agg #[.string ⟨#[]⟩], .bool false]) w := fun _ => by kernel_rfl
      clear k1 k2 hk he
      go_enter Try.func46, Try.ntmps46
      go_wp2_with fail
      go_ret2
      exact ⟨rfl, (Below.refl _ _).alloc (Nat.le_refl _) _⟩
    · exfalso
      unfold entB at he
      rw [if_neg k1, if_neg k2] at he
      simp only [Bool.and_eq_true, beq_iff_eq] at he
      exact hk he.2.1
set_option maxRecDepth 100000 in
set_option maxHeartbeats 4000000 in
theorem linkText_yes (e : Ent) (hk : e.kind = 3) (w : World) : Calls Try.prog 46 #[nodeV e] w fun x w' => x = .returned (.tuple #[.string e.text, .bool true]) ∧ Below w.heap.size w w' := by
  rw [show nodeV e = .iface 107 (.agg #[.string e.text]) by unfold nodeV; rw [if_neg (by omega), if_neg (by omega)]]
  have hta : ∀ w, (Instr.typeAssert (.iface 107 (.agg #[.string e.text])) 62 107 true).run Try.prog w = .ok (.tuple #[.agg #[.string e.text], .bool true]) w := fun _ => by kernel_rfl
  clear hk
  go_enter Try.func46, Try.ntmps46
  go_wp2_with fail
  go_ret2
  exact ⟨rfl, (Below.refl _ _).alloc (Nat.le_refl _) _⟩

/-- Where links lead from a path, so many places at most. -/
def folE (es : List Ent) : Nat → ByteArray → Option Ent
  | 0, _ => none
  | n + 1, p => if thereE es p then (if (entFn es (placeE es p)).kind = 3 then folE es n (entFn es (placeE es p)).text else some (entFn es (placeE es p))) else none
def folGot : Option Ent → Ent
  | none => noneE
  | some e => e
theorem fol_no {es : List Ent} {p : ByteArray} {n : Nat} (h : thereE es p = false) : folE es n p = none := by
  cases n
  · rfl
  · simp [folE, h]
theorem fol_end {es : List Ent} {p : ByteArray} {n : Nat} {e : Ent} (h : thereE es p = true) (he : es[placeE es p]? = some e) (hk : e.kind ≠ 3) : folE es (n + 1) p = some e := by
  simp [folE, h, entFn_get he, hk]
theorem fol_on {es : List Ent} {p : ByteArray} {n : Nat} {e : Ent} (h : thereE es p = true) (he : es[placeE es p]? = some e) (hk : e.kind = 3) : folE es (n + 1) p = folE es n e.text := by
  simp [folE, h, entFn_get he, hk]
end Go.Proofs.Ytaefjibnnbdaaaa

/- A way of links through at most sixteen entries ends within sixteen, or never. -/
namespace Go.Proofs.Ytaefjibnnbdaaaa
open Go.RowKit

theorem fol_mono {es : List Ent} : ∀ (n : Nat) (p : ByteArray) (x : Ent), folE es n p = some x → folE es (n + 1) p = some x
  | 0, p, x, h => by simp [folE] at h
  | n + 1, p, x, h => by
    unfold folE at h ⊢
    split at h
    · rename_i ht
      rw [if_pos ht]
      split at h
      · rename_i hk
        rw [if_pos hk]
        exact fol_mono n _ x h
      · rename_i hk
        rw [if_neg hk]; exact h
    · cases h
theorem fol_le {es : List Ent} {n m : Nat} (hnm : n ≤ m) {p : ByteArray} {x : Ent} (h : folE es n p = some x) : folE es m p = some x := by
  induction hnm with
  | refl => exact h
  | step _ ih => exact fol_mono _ _ _ ih
/-- The way from here is just so long. -/
def Rank (es : List Ent) (x : Ent) (m : Nat) (p : ByteArray) : Prop := folE es (m + 1) p = some x ∧ folE es m p = none
theorem rank_uniq {es : List Ent} {x : Ent} {m k : Nat} {p : ByteArray} (h : Rank es x m p) (g : Rank es x k p) : m = k := by
  rcases Nat.lt_trichotomy m k with hlt | he | hlt
  · have := fol_le hlt h.1
    rw [g.2] at this; cases this
  · exact he
  · have := fol_le hlt g.1
    rw [h.2] at this; cases this
theorem rank_down {es : List Ent} {x : Ent} {n : Nat} : ∀ {p : ByteArray}, Rank es x n p → ∀ m, m ≤ n → ∃ e ∈ es, Rank es x m e.path := by
  induction n with
  | zero =>
    intro p h m hm
    have hm0 : m = 0 := by omega
    subst hm0
    have h1 := h.1
    unfold folE at h1
    split at h1
    · rename_i ht
      obtain ⟨e, he, hp⟩ := there_get ht
      exact ⟨e, List.mem_of_getElem? he, by rw [hp]; exact h⟩
    · cases h1
  | succ n ih =>
    intro p h m hm
    have h1 := h.1
    unfold folE at h1
    split at h1
    · rename_i ht
      obtain ⟨e, he, hp⟩ := there_get ht
      by_cases hmn : m = n + 1
      · subst hmn
        exact ⟨e, List.mem_of_getElem? he, by rw [hp]; exact h⟩
      · split at h1
        · rename_i hk
          have h2 := h.2
          unfold folE at h2
          rw [if_pos ht, if_pos hk] at h2
          exact ih ⟨h1, h2⟩ m (by omega)
        · rename_i hk
          have h2 := h.2
          unfold folE at h2
          rw [if_pos ht, if_neg hk] at h2
          cases h2
    · cases h1
open Classical in
theorem rank_many {es : List Ent} {x : Ent} : ∀ (n : Nat) (fs : List Ent), (∀ m, m ≤ n → ∃ e ∈ fs, Rank es x m e.path) → n + 1 ≤ fs.length
  | 0, fs, h => by
    obtain ⟨e, he, _⟩ := h 0 (Nat.le_refl _)
    exact List.length_pos_iff.2 (fun h0 => by rw [h0] at he; cases he)
  | n + 1, fs, h => by
    have hlt : (fs.filter fun e => decide (¬ Rank es x (n + 1) e.path)).length < fs.length := by
      obtain ⟨e, he, hr⟩ := h (n + 1) (Nat.le_refl _)
      exact List.length_filter_lt_length_iff_exists.2 ⟨e, he, by simp [hr]⟩
    have := rank_many n (fs.filter fun e => decide (¬ Rank es x (n + 1) e.path)) (fun m hm => by
      obtain ⟨e, he, hr⟩ := h m (by omega)
      refine ⟨e, List.mem_filter.2 ⟨he, ?_⟩, hr⟩
      have : ¬ Rank es x (n + 1) e.path := fun hr2 => by have := rank_uniq hr hr2; omega
      simpa using this)
    omega
theorem fol_16 {es : List Ent} (h : es.length ≤ 16) (q : ByteArray) : folE es 17 q = folE es 16 q := by
  cases h16 : folE es 16 q with
  | some x => exact fol_mono _ _ _ h16
  | none =>
    cases h17 : folE es 17 q with
    | none => rfl
    | some x =>
      have := rank_many 16 es (rank_down (x := x) (n := 16) ⟨h17, h16⟩)
      omega
theorem fol_mem {es : List Ent} : ∀ (n : Nat) (p : ByteArray) (x : Ent), folE es n p = some x → x ∈ es ∧ x.kind ≠ 3
  | 0, p, x, h => by simp [folE] at h
  | n + 1, p, x, h => by
    unfold folE at h
    split at h
    · rename_i ht
      obtain ⟨e, he, hp⟩ := there_get ht
      rw [entFn_get he] at h
      split at h
      · exact fol_mem n _ x h
      · rename_i hk
        cases h
        exact ⟨List.mem_of_getElem? he, hk⟩
    · cases h
/-- What leads on without a new entry leads on with it. -/
theorem fol_put {es : List Ent} {l : Ent} (hu : Up es) (hn : ∀ x ∈ es, x.path ≠ l.path) : ∀ (n : Nat) (p : ByteArray) (x : Ent), folE es n p = some x → folE (putT es l) n p = some x
  | 0, p, x, h => by simp [folE] at h
  | n + 1, p, x, h => by
    unfold folE at h
    split at h
    · rename_i ht
      obtain ⟨e, he, hp⟩ := there_get ht
      have hm := List.mem_of_getElem? he
      have hm2 : e ∈ putT es l := (putT_iff hu l e).2 (.inr ⟨hm, hn e hm⟩)
      have h2 := there_mem (putT_up (e := l) hu) hm2
      rw [hp] at h2
      rw [entFn_get he] at h
      unfold folE
      rw [if_pos h2.1, h2.2]
      split at h
      · rename_i hk
        rw [if_pos hk]
        exact fol_put hu hn n _ x h
      · rename_i hk
        rw [if_neg hk]; exact h
    · cases h
end Go.Proofs.Ytaefjibnnbdaaaa

/- Where links of a tree lead, by the program. -/
namespace Go.Proofs.Ytaefjibnnbdaaaa
open Go.RowKit Go.Shelf

set_option maxRecDepth 100000 in
set_option maxHeartbeats 4000000 in
theorem treeFollow_any (es : List Ent) (a : Option Addr) (cap : Nat) (p : ByteArray) (w : World) (hs : smallE es) (h : EntsAt w a es) :
    Calls Try.prog 15 #[.slice a es.length cap, .string p] w fun x w' => x = .returned (.tuple #[.agg (folGot (folE (keptE es) 17 p)).vals, .bool (folE (keptE es) 17 p).isSome]) ∧ Below w.heap.size w w' := by
  have hk := kept_asc es
  have KENT : ∀ (i : Nat) (e : Ent), (keptE es)[i]? = some e → entB e = true := fun i e he => by
    cases hb : treeB es
    · rw [keptE_no hb] at he; simp at he
    · rw [keptE_yes hb] at he; exact tree_ent hb he
  have HT0 := fun wA hE => treeOf_any es a cap wA hs hE
  obtain ⟨ks, hke⟩ : ∃ ks, keptE es = ks := ⟨_, rfl⟩
  rw [hke] at hk KENT ⊢
  simp only [hke] at HT0
  clear hke
  obtain ⟨wA, hwA⟩ : ∃ wA, wA = w.alloc (.cells #[.string ⟨#[]⟩, .int .i64 0, .int .i64 0, .string ⟨#[]⟩] 27) := ⟨_, rfl⟩
  have hsz : wA.heap.size = w.heap.size + 1 := by rw [hwA]; simp
  have hBA : Below w.heap.size w wA := by rw [hwA]; exact (Below.refl _ w).alloc (Nat.le_refl _) _
  have hbox : wA.heap[w.heap.size]? = some (.cells #[.string ⟨#[]⟩, .int .i64 0, .int .i64 0, .string ⟨#[]⟩] 27 (0, 0)) := by rw [hwA]; exact World.alloc_heap_new _ _
  have H := hid (HT0 wA (h.below (by rw [hwA]; exact (Below.refl _ w).alloc (Nat.le_refl _) _)))
  have HA := hid (And.intro hsz (And.intro hBA hbox))
  have HWA := hid hwA
  clear hs h hwA hsz hBA hbox HT0
  go_enter Try.func15, Try.ntmps15
  go_wp2_with fail
  rw [← unhid HWA]
  refine (unhid H).mono ?_
  rintro x w1 ⟨vp, vn, rfl, ⟨t2, t3⟩, hB⟩
  obtain ⟨ap, cp, rfl⟩ := ownsRow_slice t2
  obtain ⟨an, cn, rfl⟩ := ownsRow_slice t3
  obtain ⟨hsz, hBA, hbox⟩ := unhid HA
  obtain ⟨wt, hwt⟩ : ∃ wt, wt = w1.alloc (.cells #[.slice ap ks.length cp, .slice an ks.length cn] 58) := ⟨_, rfl⟩
  have hB1 : Below w.heap.size w w1 := hBA.trans (hB.mono (by omega))
  have hBt : Below w1.heap.size w1 wt := by rw [hwt]; exact (Below.refl _ w1).alloc (Nat.le_refl _) _
  have hBT : Below w.heap.size w wt := hB1.trans (hBt.mono hB1.size)
  have hT : TreeAt wt wA.heap.size w1.heap.size ks := ⟨_, _, by rw [hwt]; exact World.alloc_heap_new _ _, ownsRow_kept t2 (fun g e => hBt.block g (t2.lt g e).2), ownsRow_kept t3 (fun g e => hBt.block g (t3.lt g e).2)⟩
  have hw1 : wA.heap.size ≤ w1.heap.size := hB.size
  have hbt : wt.heap[w.heap.size]? = some (.cells #[.string ⟨#[]⟩, .int .i64 0, .int .i64 0, .string ⟨#[]⟩] 27 (0, 0)) := (hBt.block _ (by omega)).trans ((hB.block _ (by omega)).trans hbox)
  have HKS := hid (And.intro hk KENT)
  have HT := hid (And.intro hBT (And.intro hbt hT))
  have HWT := hid hwt
  clear hT hbt hBT hBt hB1 hwt hB t2 t3 hbox hBA hk HA HWA H KENT
  go_wp2_with fail
  rw [← unhid HWT]
  go_loopw [8, 19] (fun q i wr => ∃ (k : Nat) (qs : ByteArray), k ≤ 17 ∧ i = .int .i64 k ∧ q = .string qs ∧ Hid (folE ks 17 p = folE ks (17 - k) qs) ∧ Hid (Below w.heap.size w wr ∧ wr.heap[w.heap.size]? = some (.cells #[.string ⟨#[]⟩, .int .i64 0, .int .i64 0, .string ⟨#[]⟩] 27 (0, 0)) ∧ TreeAt wr wA.heap.size w1.heap.size ks)) (fun _ i _ => 17 - (intOf i).toNat)
  case atStart => exact ⟨0, p, by omega, rfl, rfl, hid rfl, HT⟩
  case round =>
    obtain ⟨k, qs, hk, rfl, rfl, hfol, HST⟩ := hrel
    obtain ⟨hB, hbx, hT⟩ := unhid HST
    have hks := unhid HKS
    by_cases hlt : k < 17
    · have GET := hid (mapGet_any _ _ ks qs wr (by omega) hks.1.1 hT)
      cases hth : thereE ks qs
      · have hnone : folE ks 17 p = none := (unhid hfol).trans (fol_no hth)
        rw [show getV ks qs = .nilIface by unfold getV; rw [hth]; rfl, hth] at GET
        obtain ⟨⟨d0, d1, d2, d3⟩, f0, f1, f2, f3⟩ := four_cells hbx
        have E := hid hnone
        have HB := hid hB
        clear hB hbx hT hth hnone HST HT HKS hks hfol
        go_wp2_with fail
        refine (unhid GET).mono ?_
        rintro x w2 ⟨rfl, e2⟩
        rw [e2]
        clear e2
        go_wp2_with fail
        refine bodyPost_ret (v := .tuple #[.agg #[.string ⟨#[]⟩, .int .i64 0, .int .i64 0, .string ⟨#[]⟩], .bool false]) (by simp [results, Try.results15, go_sem, World.cell?_setCell_same', d0, d1, d2, d3]) rfl ⟨by rw [unhid E]; rfl, ((((unhid HB).setCell (Nat.le_refl _) _).setCell (Nat.le_refl _) _).setCell (Nat.le_refl _) _).setCell (Nat.le_refl _) _⟩
      · obtain ⟨e, he, hep⟩ := there_get hth
        subst hep
        obtain ⟨j, hj⟩ : ∃ j, 17 - k = j + 1 := ⟨16 - k, by omega⟩
        rw [show getV ks e.path = nodeV e by unfold getV; rw [hth, entFn_get he]; rfl, hth] at GET
        have hwl : w.heap.size < wr.heap.size := (Array.getElem?_eq_some_iff.1 hbx).1
        by_cases hk3 : e.kind = 3
        · have HF2 : Hid (folE ks 17 p = folE ks (17 - (k + 1)) e.text) := hid (by rw [unhid hfol, hj, fol_on hth he hk3, show 17 - (k + 1) = j by omega])
          have LINK := hid (linkText_yes e hk3 wr)
          obtain ⟨T0, nv, hnv⟩ := nodeV_shape e
          rw [hnv] at GET LINK
          have HS2 := hid (And.intro hB (And.intro hbx hT))
          clear hB hbx hT hth HST HT HKS hks hfol he hnv hk3 hj
          go_wp2_with fail
          refine (unhid GET).mono ?_
          rintro x w2 ⟨rfl, e2⟩
          rw [e2]
          clear e2 GET
          go_wp2_with fail
          refine (unhid LINK).mono ?_
          rintro x w3 ⟨rfl, hB3⟩
          have HS3 := hid (show Below w.heap.size w w3 ∧ w3.heap[w.heap.size]? = some (.cells #[.string ⟨#[]⟩, .int .i64 0, .int .i64 0, .string ⟨#[]⟩] 27 (0, 0)) ∧ TreeAt w3 wA.heap.size w1.heap.size ks from ⟨(unhid HS2).1.trans (hB3.mono (Nat.le_of_lt hwl)), (hB3.block _ hwl).trans (unhid HS2).2.1, (unhid HS2).2.2.below hB3⟩)
          clear hB3 HS2 LINK
          go_wp2_with fail
          go_roundw
          case rel => exact ⟨k + 1, e.text, by omega, by go_num, rfl, HF2, HS3⟩
          case measure => simp [intOf]; omega
        · have hsome : folE ks 17 p = some e := by rw [unhid hfol, hj, fol_end hth he hk3]
          have heb := hks.2 _ e he
          have LINK := hid (linkText_no e heb hk3 wr)
          have hent := fun w => entryOf_any e heb w
          obtain ⟨T0, nv, hnv⟩ := nodeV_shape e
          rw [hnv] at GET LINK hent
          have ENT := hid hent
          have E := hid hsome
          have HS2 := hid (And.intro hB hbx)
          clear hB hbx hT hth HST HT HKS hks hfol he hnv hk3 hj hsome heb hent
          go_wp2_with fail
          refine (unhid GET).mono ?_
          rintro x w2 ⟨rfl, e2⟩
          rw [e2]
          clear e2 GET
          go_wp2_with fail
          refine (unhid LINK).mono ?_
          rintro x w3 ⟨rfl, hB3⟩
          have hwl3 : w.heap.size < w3.heap.size := Nat.lt_of_lt_of_le hwl hB3.size
          have HS3 := hid (And.intro ((unhid HS2).1.trans (hB3.mono (Nat.le_of_lt hwl))) ((hB3.block _ hwl).trans (unhid HS2).2))
          clear hB3 HS2 LINK
          go_wp2_with fail
          refine (unhid ENT _).mono ?_
          rintro x w4 ⟨rfl, hB4⟩
          obtain ⟨⟨d0, d1, d2, d3⟩, f0, f1, f2, f3⟩ := four_cells ((hB4.block _ hwl3).trans (unhid HS3).2)
          have HB3 := hid ((unhid HS3).1.trans (hB4.mono (Nat.le_of_lt hwl3)))
          clear hB4 HS3 ENT
          unfold Ent.vals
          go_wp2_with fail
          refine bodyPost_ret (v := .tuple #[.agg #[.string e.path, .int .i64 e.kind, .int .i64 e.mode, .string e.text], .bool true]) (by simp [results, Try.results15, go_sem, World.cell?_setCell_same', d0, d1, d2, d3]) rfl ⟨by rw [unhid E]; rfl, ((((unhid HB3).setCell (Nat.le_refl _) _).setCell (Nat.le_refl _) _).setCell (Nat.le_refl _) _).setCell (Nat.le_refl _) _⟩
    · have hnone : folE ks 17 p = none := by rw [unhid hfol, show 17 - k = 0 by omega]; rfl
      obtain ⟨⟨d0, d1, d2, d3⟩, f0, f1, f2, f3⟩ := four_cells hbx
      have E := hid hnone
      have HB := hid hB
      clear hB hbx hT hnone HST HT HKS hks hfol
      go_wp2_with fail
      refine bodyPost_ret (v := .tuple #[.agg #[.string ⟨#[]⟩, .int .i64 0, .int .i64 0, .string ⟨#[]⟩], .bool false]) (by simp [results, Try.results15, go_sem, World.cell?_setCell_same', d0, d1, d2, d3]) rfl ⟨by rw [unhid E]; rfl, ((((unhid HB).setCell (Nat.le_refl _) _).setCell (Nat.le_refl _) _).setCell (Nat.le_refl _) _).setCell (Nat.le_refl _) _⟩
end Go.Proofs.Ytaefjibnnbdaaaa

/- Where links of a tree lead, by the model. -/
namespace Go.Proofs.Ytaefjibnnbdaaaa
open Go.RowKit Go.Shelf

set_option maxRecDepth 100000 in
set_option maxHeartbeats 4000000 in
theorem l2Follow_any (es : List Ent) (a : Option Addr) (cap : Nat) (hs : es.length ≤ 1048576) : ∀ (n : Nat) (p : ByteArray) (m : Int) (w : World), n ≤ 17 → m = (n : Int) - 1 → EntsAt w a es →
    Calls Try.prog 48 #[.slice a es.length cap, .string p, .int .i64 m] w fun x w' => x = .returned (.tuple #[.agg (folGot (folE es n p)).vals, .bool (folE es n p).isSome]) ∧ Below w.heap.size w w' := by
  intro n
  induction n with
  | zero =>
    intro p m w hn hm h
    obtain ⟨wA, hwA⟩ : ∃ wA, wA = w.alloc (.cells #[.string ⟨#[]⟩, .int .i64 0, .int .i64 0, .string ⟨#[]⟩] 27) := ⟨_, rfl⟩
    have hBA : Below w.heap.size w wA := by rw [hwA]; exact (Below.refl _ w).alloc (Nat.le_refl _) _
    have hbox : wA.heap[w.heap.size]? = some (.cells #[.string ⟨#[]⟩, .int .i64 0, .int .i64 0, .string ⟨#[]⟩] 27 (0, 0)) := by rw [hwA]; exact World.alloc_heap_new _ _
    have hE : EntsAt wA a es := h.below (by rw [hwA]; exact (Below.refl _ w).alloc (Nat.le_refl _) _)
    have AT := hid (l2At_any es a cap p wA hs hE)
    have HA := hid (And.intro hBA hbox)
    have HWA := hid hwA
    have E := hid (show folE es 0 p = none from rfl)
    have hm0 : m < 0 := by omega
    clear h hwA hBA hbox hE hm
    go_enter Try.func48, Try.ntmps48
    go_wp2_with fail
    rw [← unhid HWA]
    refine (unhid AT).mono ?_
    rintro x w1 ⟨rfl, nn, e1⟩
    have hB1 : Below wA.heap.size wA w1 := by rw [e1]; exact ⟨rfl, rfl, rfl, Nat.le_refl _, fun _ _ => rfl⟩
    obtain ⟨hBA, hbox⟩ := unhid HA
    have hwl : w.heap.size < wA.heap.size := (Array.getElem?_eq_some_iff.1 hbox).1
    have HB1 := hid (hBA.trans (hB1.mono (Nat.le_of_lt hwl)))
    obtain ⟨⟨d0, d1, d2, d3⟩, f0, f1, f2, f3⟩ := four_cells ((hB1.block _ hwl).trans hbox)
    clear hB1 hBA hbox e1 HA AT HWA hwl
    cases hth : thereE es p <;>
    · go_wp2_with fail
      refine bodyPost_ret (v := .tuple #[.agg #[.string ⟨#[]⟩, .int .i64 0, .int .i64 0, .string ⟨#[]⟩], .bool false]) (by simp [results, Try.results48, go_sem, World.cell?_setCell_same', d0, d1, d2, d3]) rfl ⟨by rw [unhid E]; rfl, ((((unhid HB1).setCell (Nat.le_refl _) _).setCell (Nat.le_refl _) _).setCell (Nat.le_refl _) _).setCell (Nat.le_refl _) _⟩
  | succ n ih =>
    intro p m w hn hm h
    obtain ⟨wA, hwA⟩ : ∃ wA, wA = w.alloc (.cells #[.string ⟨#[]⟩, .int .i64 0, .int .i64 0, .string ⟨#[]⟩] 27) := ⟨_, rfl⟩
    have hBA : Below w.heap.size w wA := by rw [hwA]; exact (Below.refl _ w).alloc (Nat.le_refl _) _
    have hbox : wA.heap[w.heap.size]? = some (.cells #[.string ⟨#[]⟩, .int .i64 0, .int .i64 0, .string ⟨#[]⟩] 27 (0, 0)) := by rw [hwA]; exact World.alloc_heap_new _ _
    have hE : EntsAt wA a es := h.below (by rw [hwA]; exact (Below.refl _ w).alloc (Nat.le_refl _) _)
    have AT := hid (l2At_any es a cap p wA hs hE)
    have HA := hid (And.intro hBA (And.intro hbox hE))
    have HWA := hid hwA
    have hm0 : ¬ (m < 0) := by omega
    have hm1 : m ≤ 16 := by omega
    have IH := hid (fun p w hE => ih p (m - 1) w (by omega) (by omega) hE)
    clear h hwA hBA hbox hE hm ih
    go_enter Try.func48, Try.ntmps48
    go_wp2_with fail
    rw [← unhid HWA]
    refine (unhid AT).mono ?_
    rintro x w1 ⟨rfl, nn, e1⟩
    have hB1 : Below wA.heap.size wA w1 := by rw [e1]; exact ⟨rfl, rfl, rfl, Nat.le_refl _, fun _ _ => rfl⟩
    obtain ⟨hBA, hbox, hE⟩ := unhid HA
    have hwl : w.heap.size < wA.heap.size := (Array.getElem?_eq_some_iff.1 hbox).1
    have hE1 := hE.below hB1
    have HB1 := hid (hBA.trans (hB1.mono (Nat.le_of_lt hwl)))
    have hX1 := (hB1.block _ hwl).trans hbox
    clear hB1 hBA hbox hE e1 HA AT HWA hwl
    cases hth : thereE es p
    · have E := hid (show folE es (n + 1) p = none from fol_no hth)
      obtain ⟨⟨d0, d1, d2, d3⟩, f0, f1, f2, f3⟩ := four_cells hX1
      clear hX1 hE1
      go_wp2_with fail
      refine bodyPost_ret (v := .tuple #[.agg #[.string ⟨#[]⟩, .int .i64 0, .int .i64 0, .string ⟨#[]⟩], .bool false]) (by simp [results, Try.results48, go_sem, World.cell?_setCell_same', d0, d1, d2, d3]) rfl ⟨by rw [unhid E]; rfl, ((((unhid HB1).setCell (Nat.le_refl _) _).setCell (Nat.le_refl _) _).setCell (Nat.le_refl _) _).setCell (Nat.le_refl _) _⟩
    · obtain ⟨e, he, hep⟩ := there_get hth
      have hpl : placeE es p < es.length := (List.getElem?_eq_some_iff.1 he).1
      have HE1 := hid hE1
      obtain ⟨b, o, rfl, hbl, hc⟩ := hE1.get (by intro e; subst e; simp at hpl)
      obtain ⟨c0, c1, c2, c3⟩ := hc _ e he
      by_cases hk3 : e.kind = 3
      · have E := hid (show folE es (n + 1) p = folE es n e.text from fol_on hth he hk3)
        have hwl : w.heap.size < w1.heap.size := (Array.getElem?_eq_some_iff.1 hX1).1
        have HX1 := hid hX1
        rw [hk3] at c1
        have CALL := hid (unhid IH e.text w1 (unhid HE1))
        generalize folE es n e.text = fr at *
        obtain ⟨ge, gb, hge, hgb⟩ : ∃ ge gb, folGot fr = ge ∧ fr.isSome = gb := ⟨_, _, rfl, rfl⟩
        rw [hge, hgb] at CALL
        unfold Ent.vals at CALL
        generalize placeE es p = k at *
        clear hc he hep hX1 hth hk3 IH
        go_wp2_with fail
        refine (unhid CALL).mono ?_
        rintro x w2 ⟨rfl, hB2⟩
        obtain ⟨⟨d0, d1, d2, d3⟩, f0, f1, f2, f3⟩ := four_cells ((hB2.block _ hwl).trans (unhid HX1))
        have HB2 := hid ((unhid HB1).trans (hB2.mono (Nat.le_of_lt hwl)))
        clear hB2 HX1 HB1 CALL c0 c1 c2 c3 HE1 hbl
        go_wp2_with fail
        refine bodyPost_ret (v := .tuple #[.agg #[.string ge.path, .int .i64 ge.kind, .int .i64 ge.mode, .string ge.text], .bool gb]) (by simp [results, Try.results48, go_sem, World.cell?_setCell_same', d0, d1, d2, d3]) rfl ⟨by rw [unhid E, hge, hgb]; rfl, ((((unhid HB2).setCell (Nat.le_refl _) _).setCell (Nat.le_refl _) _).setCell (Nat.le_refl _) _).setCell (Nat.le_refl _) _⟩
      · have E := hid (show folE es (n + 1) p = some e from fol_end hth he hk3)
        obtain ⟨⟨d0, d1, d2, d3⟩, f0, f1, f2, f3⟩ := four_cells hX1
        generalize placeE es p = k at *
        clear hc he hep hX1 hth IH HE1
        go_wp2_with fail
        refine bodyPost_ret (v := .tuple #[.agg #[.string e.path, .int .i64 e.kind, .int .i64 e.mode, .string e.text], .bool true]) (by simp [results, Try.results48, go_sem, World.cell?_setCell_same', d0, d1, d2, d3]) rfl ⟨by rw [unhid E]; rfl, ((((unhid HB1).setCell (Nat.le_refl _) _).setCell (Nat.le_refl _) _).setCell (Nat.le_refl _) _).setCell (Nat.le_refl _) _⟩

set_option maxRecDepth 100000 in
set_option maxHeartbeats 4000000 in
theorem specTreeFollow_any (es : List Ent) (a : Option Addr) (cap : Nat) (p : ByteArray) (w : World) (hs : smallE es) (h : EntsAt w a es) :
    Calls Try.prog 16 #[.slice a es.length cap, .string p] w fun x w' => x = .returned (.tuple #[.agg (folGot (folE (keptE es) 17 p)).vals, .bool (folE (keptE es) 17 p).isSome]) ∧ Below w.heap.size w w' := by
  obtain ⟨wA, hwA⟩ : ∃ wA, wA = w.alloc (.cells #[.string ⟨#[]⟩, .int .i64 0, .int .i64 0, .string ⟨#[]⟩] 27) := ⟨_, rfl⟩
  have hBA : Below w.heap.size w wA := by rw [hwA]; exact (Below.refl _ w).alloc (Nat.le_refl _) _
  have hbox : wA.heap[w.heap.size]? = some (.cells #[.string ⟨#[]⟩, .int .i64 0, .int .i64 0, .string ⟨#[]⟩] 27 (0, 0)) := by rw [hwA]; exact World.alloc_heap_new _ _
  have hE : EntsAt wA a es := h.below (by rw [hwA]; exact (Below.refl _ w).alloc (Nat.le_refl _) _)
  have OK := hid (specTreeOk_any es a cap wA hs hE)
  have HA := hid (And.intro hBA (And.intro hbox hE))
  have HS := hid hs
  have HWA := hid hwA
  clear hs h hwA hBA hbox hE
  go_enter Try.func16, Try.ntmps16
  go_wp2_with fail
  rw [← unhid HWA]
  refine (unhid OK).mono ?_
  rintro x w1 ⟨rfl, hB1⟩
  obtain ⟨hBA, hbox, hE⟩ := unhid HA
  have hwl : w.heap.size < wA.heap.size := (Array.getElem?_eq_some_iff.1 hbox).1
  have HE1 := hid (hE.below hB1)
  have HB1 := hid (hBA.trans (hB1.mono (Nat.le_of_lt hwl)))
  have hX1 := (hB1.block _ hwl).trans hbox
  have hwl1 : w.heap.size < w1.heap.size := (Array.getElem?_eq_some_iff.1 hX1).1
  clear hB1 hBA hbox hE HA OK HWA hwl
  cases htb : treeB es
  · have E := hid (show folE (keptE es) 17 p = none by rw [keptE_no htb]; exact fol_no (by simp [thereE, placeE]))
    obtain ⟨⟨d0, d1, d2, d3⟩, f0, f1, f2, f3⟩ := four_cells hX1
    clear hX1
    go_wp2_with fail
    refine bodyPost_ret (v := .tuple #[.agg #[.string ⟨#[]⟩, .int .i64 0, .int .i64 0, .string ⟨#[]⟩], .bool false]) (by simp [results, Try.results16, go_sem, World.cell?_setCell_same', d0, d1, d2, d3]) rfl ⟨by rw [unhid E]; rfl, ((((unhid HB1).setCell (Nat.le_refl _) _).setCell (Nat.le_refl _) _).setCell (Nat.le_refl _) _).setCell (Nat.le_refl _) _⟩
  · have E := hid (show folE (keptE es) 17 p = folE es 17 p by rw [keptE_yes htb])
    have CALL := hid (l2Follow_any es a cap (unhid HS).1 17 p 16 w1 (by omega) (by omega) (unhid HE1))
    have HX1 := hid hX1
    generalize folE es 17 p = fr at *
    obtain ⟨ge, gb, hge, hgb⟩ : ∃ ge gb, folGot fr = ge ∧ fr.isSome = gb := ⟨_, _, rfl, rfl⟩
    rw [hge, hgb] at CALL
    unfold Ent.vals at CALL
    clear hX1
    go_wp2_with fail
    refine (unhid CALL).mono ?_
    rintro x w2 ⟨rfl, hB2⟩
    obtain ⟨⟨d0, d1, d2, d3⟩, f0, f1, f2, f3⟩ := four_cells ((hB2.block _ hwl1).trans (unhid HX1))
    have HB2 := hid ((unhid HB1).trans (hB2.mono (Nat.le_of_lt hwl1)))
    clear hB2 HX1 HB1 CALL HE1
    go_wp2_with fail
    refine bodyPost_ret (v := .tuple #[.agg #[.string ge.path, .int .i64 ge.kind, .int .i64 ge.mode, .string ge.text], .bool gb]) (by simp [results, Try.results16, go_sem, World.cell?_setCell_same', d0, d1, d2, d3]) rfl ⟨by rw [unhid E, hge, hgb]; rfl, ((((unhid HB2).setCell (Nat.le_refl _) _).setCell (Nat.le_refl _) _).setCell (Nat.le_refl _) _).setCell (Nat.le_refl _) _⟩
end Go.Proofs.Ytaefjibnnbdaaaa

/- Dirs and a link that are put anew, one in the other, and taken away again. -/
namespace Go.Proofs.Ytaefjibnnbdaaaa
open Go.RowKit

def fr : ByteArray := ⟨#[102, 114, 101, 115, 104]⟩
def frA : ByteArray := ⟨#[102, 114, 101, 115, 104, 47, 97]⟩
def frB : ByteArray := ⟨#[102, 114, 101, 115, 104, 47, 97, 47, 98]⟩
def gD1 : Ent := ⟨fr, 1, 7, ⟨#[]⟩⟩
def gF2 : Ent := ⟨frA, 2, 0, ⟨#[]⟩⟩
def gD2 : Ent := ⟨frA, 1, 0, ⟨#[]⟩⟩
def gL3 : Ent := ⟨frB, 3, 0, fr⟩
theorem nice_no {x : ByteArray} (h : nice x) : x ≠ fr ∧ x ≠ frA ∧ x ≠ frB ∧ belowB fr.data.toList x.data.toList = false := by
  unfold nice niceB at h
  simp only [Bool.and_eq_true] at h
  have h2 := h.2.1
  rw [bne_iff_ne] at h2
  refine ⟨?_, ?_, ?_, ?_⟩
  · rintro rfl; exact h2 rfl
  · rintro rfl; exact h2 rfl
  · rintro rfl; exact h2 rfl
  · cases hb : belowB fr.data.toList x.data.toList
    · rfl
    · exfalso
      rcases belowB_cases hb with e | ⟨t, e⟩
      · rw [e] at h2; exact h2 rfl
      · rw [e] at h2; exact h2 rfl
theorem in_no {x : ByteArray} (h : nice x) : inB fr.data.toList x.data.toList = false := by
  unfold inB; rw [(nice_no h).2.2.2]; simp
structure Grow (es : List Ent) : Prop where
  one : putOk es gD1 = true
  no : putOk es gF2 = false
  two : putOk (putR es gD1) gD2 = true
  three : putOk (putR (putR es gD1) gD2) gL3 = true
  leads : folE (keptE (putR (putR (putR es gD1) gD2) gL3)) 17 frB = some gD1
  gone : (treeB (putR (putR (putR es gD1) gD2) gL3) && thereE (putR (putR (putR es gD1) gD2) gL3) fr) = true
  back : leftE fr (keptE (putR (putR (putR es gD1) gD2) gL3)) = es
theorem grow_all {es : List Ent} (h : treeB es = true) (hn : ∀ e ∈ es, niceE e) (hl : es.length + 3 ≤ 16) : Grow es := by
  have hu := tree_up h
  have n1 : ∀ x ∈ es, x.path ≠ fr := fun x hx => (nice_no (hn x hx).1).1
  have n2 : ∀ x ∈ es, x.path ≠ frA := fun x hx => (nice_no (hn x hx).1).2.1
  have n3 : ∀ x ∈ es, x.path ≠ frB := fun x hx => (nice_no (hn x hx).1).2.2.1
  have u1 : (upS fr).toList.isEmpty = true := by decide +kernel
  have u2 : upS frA = fr := by decide +kernel
  have u3 : upS frB = frA := by decide +kernel
  have k1 : entB gD1 = true := by decide +kernel
  have k2 : entB gD2 = true := by decide +kernel
  have k3 : entB gL3 = true := by decide +kernel
  have d12 : frA ≠ fr := by decide +kernel
  have d13 : frB ≠ fr := by decide +kernel
  have d23 : frB ≠ frA := by decide +kernel
  have o1 : okPut es gD1 = true := (okPut_iff h gD1).2 ⟨k1, .inl u1, .inr ⟨n1, by omega⟩⟩
  have p1 : putOk es gD1 = true := by unfold putOk; rw [h, o1]; rfl
  have r1 := (put_yes p1).2.2
  have t1 := put_tree h o1
  have m1 := putT_iff hu gD1
  have l1 := putT_len es gD1
  have o2 : okPut (putT es gD1) gD2 = true := (okPut_iff t1 gD2).2 ⟨k2, .inr ⟨gD1, (m1 gD1).2 (.inl rfl), u2.symm, rfl⟩, .inr ⟨fun x hx => by
    rcases (m1 x).1 hx with rfl | ⟨hx, _⟩
    · exact fun e => d12 e.symm
    · exact n2 x hx, by omega⟩⟩
  have p2 : putOk (putT es gD1) gD2 = true := by unfold putOk; rw [t1, o2]; rfl
  have r2 := (put_yes p2).2.2
  have t2 := put_tree t1 o2
  have hu1 := tree_up t1
  have m2 := putT_iff hu1 gD2
  have l2 := putT_len (putT es gD1) gD2
  have i1 : gD1 ∈ putT (putT es gD1) gD2 := (m2 gD1).2 (.inr ⟨(m1 gD1).2 (.inl rfl), fun e => d12 e.symm⟩)
  have o3 : okPut (putT (putT es gD1) gD2) gL3 = true := (okPut_iff t2 gL3).2 ⟨k3, .inr ⟨gD2, (m2 gD2).2 (.inl rfl), u3.symm, rfl⟩, .inr ⟨fun x hx => by
    rcases (m2 x).1 hx with rfl | ⟨hx, _⟩
    · exact fun e => d23 e.symm
    · rcases (m1 x).1 hx with rfl | ⟨hx, _⟩
      · exact fun e => d13 e.symm
      · exact n3 x hx, by omega⟩⟩
  have p3 : putOk (putT (putT es gD1) gD2) gL3 = true := by unfold putOk; rw [t2, o3]; rfl
  have r3 := (put_yes p3).2.2
  have t3 := put_tree t2 o3
  have hu2 := tree_up t2
  have hu3 := tree_up t3
  have m3 := putT_iff hu2 gL3
  have j1 : gD1 ∈ putT (putT (putT es gD1) gD2) gL3 := (m3 gD1).2 (.inr ⟨i1, fun e => d13 e.symm⟩)
  have j3 : gL3 ∈ putT (putT (putT es gD1) gD2) gL3 := (m3 gL3).2 (.inl rfl)
  have a1 := there_mem hu3 j1
  have a3 := there_mem hu3 j3
  have b1 : thereE (putT (putT (putT es gD1) gD2) gL3) fr = true := a1.1
  have c1 : entFn (putT (putT (putT es gD1) gD2) gL3) (placeE (putT (putT (putT es gD1) gD2) gL3) fr) = gD1 := a1.2
  have b3 : thereE (putT (putT (putT es gD1) gD2) gL3) frB = true := a3.1
  have c3 : entFn (putT (putT (putT es gD1) gD2) gL3) (placeE (putT (putT (putT es gD1) gD2) gL3) frB) = gL3 := a3.2
  refine ⟨p1, ?_, by rw [r1]; exact p2, by rw [r1, r2]; exact p3, ?_, ?_, ?_⟩
  · unfold putOk
    rw [h, Bool.true_and]
    cases ho : okPut es gF2
    · rfl
    · exfalso
      rcases ((okPut_iff h gF2).1 ho).2.1 with e | ⟨x, hx, hp, _⟩
      · rw [show upS gF2.path = fr from u2] at e
        revert e; decide +kernel
      · exact n1 x hx (hp.trans u2)
  · rw [r1, r2, r3, keptE_yes t3, show (17 : Nat) = 15 + 1 + 1 from rfl, folE, if_pos b3, c3, if_pos (show gL3.kind = 3 from rfl), folE]
    show (if thereE (putT (putT (putT es gD1) gD2) gL3) fr = true then _ else none) = _
    rw [if_pos b1]
    show (if (entFn (putT (putT (putT es gD1) gD2) gL3) (placeE (putT (putT (putT es gD1) gD2) gL3) fr)).kind = 3 then _ else some (entFn (putT (putT (putT es gD1) gD2) gL3) (placeE (putT (putT (putT es gD1) gD2) gL3) fr))) = _
    rw [c1]
    rfl
  · rw [r1, r2, r3, t3, b1]; rfl
  · rw [r1, r2, r3, keptE_yes t3]
    refine up_ext (left_up hu3) hu (fun x => ?_)
    rw [left_iff, m3, m2, m1]
    have e1 : inB fr.data.toList gD1.path.data.toList = true := by decide +kernel
    have e2 : inB fr.data.toList gD2.path.data.toList = true := by decide +kernel
    have e3 : inB fr.data.toList gL3.path.data.toList = true := by decide +kernel
    constructor
    · rintro ⟨rfl | ⟨rfl | ⟨rfl | ⟨hx, _⟩, _⟩, _⟩, hi⟩
      · rw [e3] at hi; cases hi
      · rw [e2] at hi; cases hi
      · rw [e1] at hi; cases hi
      · exact hx
    · intro hx
      exact ⟨.inr ⟨.inr ⟨.inr ⟨hx, n1 x hx⟩, n2 x hx⟩, n3 x hx⟩, in_no (hn x hx).1⟩
end Go.Proofs.Ytaefjibnnbdaaaa
