/- Texts of this proof, one behind the other; each says at its head what it shows. -/
import Derived.Test.YtaefjibnnbdaaaaJoin8
/- Entries that are moved: no two come to one place. -/
namespace Go.Proofs.Ytaefjibnnbdaaaa
open Go.RowKit Go.Shelf

def movedP (p q s : ByteArray) : ByteArray := q ++ s.extract p.size s.size
def mvS (p q : ByteArray) (e : Ent) : Ent := if belowB p.data.toList e.path.data.toList then { e with path := movedP p q e.path } else e
def mvAllS (p q : ByteArray) (es : List Ent) : Bool := es.all fun e => pathB (mvS p q e).path.data.toList
theorem sort_put : ∀ xs : List Ent, (xs.map (·.path)).Nodup → sortL xs = putAll xs := snoc_ind (fun _ => rfl) (fun xs x ih h => by
  rw [List.map_append, List.nodup_append] at h
  rw [sortL_snoc, putAll_snoc, ih h.1]
  have ht : thereE (putAll xs) x.path = false := by
    cases ht : thereE (putAll xs) x.path
    · rfl
    · obtain ⟨e, he, hp⟩ := there_get ht
      have hm := putAll_mem xs e (List.mem_of_getElem? he)
      exact absurd hp (h.2.2 e.path (List.mem_map.2 ⟨e, hm, rfl⟩) x.path (by simp))
  unfold putT; rw [ht]; rfl)
theorem bytes_ext {a b : ByteArray} (h : a.data.toList = b.data.toList) : a = b := by apply ByteArray.ext; exact Array.ext' h
theorem movedP_list (p q s : ByteArray) : (movedP p q s).data.toList = q.data.toList ++ s.data.toList.drop p.data.toList.length := by
  unfold movedP; rw [data_app, drop_size]
theorem below_drop {p s : List UInt8} (h : belowB p s = true) : s = p ++ s.drop p.length ∧ (s.drop p.length = [] ∨ ∃ t, s.drop p.length = 47 :: t) := by
  rcases belowB_cases h with rfl | ⟨t, rfl⟩
  · simp
  · simp
theorem movedP_inj {p q s s' : ByteArray} (h : belowB p.data.toList s.data.toList = true) (h' : belowB p.data.toList s'.data.toList = true) (he : movedP p q s = movedP p q s') : s = s' := by
  apply bytes_ext
  have h1 := congrArg (fun x => x.data.toList) he
  simp only [movedP_list] at h1
  have h2 := List.append_cancel_left h1
  rw [(below_drop h).1, (below_drop h').1, h2]
theorem movedP_below {p q s : ByteArray} (h : belowB p.data.toList s.data.toList = true) : belowB q.data.toList (movedP p q s).data.toList = true := by
  rw [movedP_list]
  rcases (below_drop h).2 with h1 | ⟨t, h1⟩
  · rw [h1, List.append_nil]; exact belowB_refl _
  · rw [h1]; exact belowB_app _ _
theorem moved_nodup {es : List Ent} {p q : ByteArray} (ht : treeB es = true) (hq : pathB q.data.toList = true) (hno : thereE es q = false) : ((es.map (mvS p q)).map (·.path)).Nodup := by
  have hup := asc_up (tree_asc ht)
  have hnot : ∀ e ∈ es, ∀ s : ByteArray, belowB p.data.toList s.data.toList = true → e.path ≠ movedP p q s := fun e he s hs heq => by
    have h1 : inB q.data.toList e.path.data.toList = true := by
      unfold inB; rw [hq, ent_pathB (tree_all ht e he), heq, movedP_below hs]; rfl
    rw [in_there ht _ e he (Nat.le_refl _) h1] at hno; cases hno
  rw [List.map_map, List.Nodup, List.pairwise_map]
  refine List.Pairwise.imp_of_mem (fun {x y} hx hy hxy => ?_) hup
  have hne : x.path ≠ y.path := fun e => by rw [e] at hxy; rw [show ltS y.path y.path = false from lt_irr _] at hxy; cases hxy
  show (mvS p q x).path ≠ (mvS p q y).path
  unfold mvS
  cases h1 : belowB p.data.toList x.path.data.toList <;> cases h2 : belowB p.data.toList y.path.data.toList
  · exact hne
  · exact hnot x hx y.path h2
  · exact fun e => hnot y hy x.path h1 e.symm
  · exact fun e => hne (movedP_inj h1 h2 e)
/-- What the model asks of a move. -/
def mayS (es : List Ent) (p q : ByteArray) : Bool := thereE es p && (!thereE es q && (pathB q.data.toList && (!belowB p.data.toList q.data.toList && dirE es (upS q))))
theorem may_eq {es : List Ent} {p q : ByteArray} (ht : treeB es = true) : mayB es p q = mayS es p q := by
  unfold mayB mayS
  cases h1 : thereE es p
  · rfl
  · obtain ⟨x, hx, hxp⟩ := there_get h1
    have hp : pathB p.data.toList = true := by rw [← hxp]; exact ent_pathB (tree_ent ht hx)
    cases h2 : thereE es q
    · cases h3 : pathB q.data.toList
      · rfl
      · unfold inB pathUpS; rw [hp, h3]; rfl
    · rfl
theorem place_eq {es : List Ent} {p q : ByteArray} (ht : treeB es = true) (hp : pathB p.data.toList = true) (hq : pathB q.data.toList = true) {e : Ent} (he : e ∈ es) : (!(placeM p q e).toList.isEmpty) = pathB (mvS p q e).path.data.toList ∧ (pathB (mvS p q e).path.data.toList = true → mvE p q e = mvS p q e) := by
  have hpe := ent_pathB (tree_all ht e he)
  have hib : inB p.data.toList e.path.data.toList = belowB p.data.toList e.path.data.toList := by unfold inB; rw [hp, hpe]; rfl
  unfold mvE placeM mvS
  rw [hib]
  cases h1 : belowB p.data.toList e.path.data.toList
  · refine ⟨?_, fun _ => rfl⟩
    have := pathB_ne _ hpe
    simp only [Bool.false_eq_true, if_false]
    rw [hpe, Lib.toList_data]
    simpa using this
  · simp only [if_true]
    have hm : moveS e.path p q = if pathB (movedP p q e.path).data.toList then movedP p q e.path else ⟨#[]⟩ := by
      unfold moveS; rw [hib, h1, hq]; rfl
    rw [hm]
    cases h2 : pathB (movedP p q e.path).data.toList
    · refine ⟨by simp [Lib.toList_data], fun h => by cases h⟩
    · refine ⟨?_, fun _ => rfl⟩
      have := pathB_ne _ h2
      simp only [if_true]
      rw [Lib.toList_data]
      simpa using this
theorem move_spec {es : List Ent} {p q : ByteArray} (ht : treeB es = true) : moveOk p q es = (mayS es p q && mvAllS p q es) ∧ moveR p q es = if (mayS es p q && mvAllS p q es) then sortL (es.map (mvS p q)) else es := by
  unfold moveR moveOk
  rw [keptE_yes ht, may_eq ht]
  cases hm : mayS es p q
  · exact ⟨rfl, rfl⟩
  · unfold mayS at hm
    simp only [Bool.and_eq_true, Bool.not_eq_true'] at hm
    obtain ⟨h1, h2, hq, _⟩ := hm
    obtain ⟨x, hx, hxp⟩ := there_get h1
    have hp : pathB p.data.toList = true := by rw [← hxp]; exact ent_pathB (tree_ent ht hx)
    have hall : moveAll p q es = mvAllS p q es := by
      unfold moveAll mvAllS
      rw [Bool.eq_iff_iff, List.all_eq_true, List.all_eq_true]
      exact ⟨fun h e he => by rw [← (place_eq ht hp hq he).1]; exact h e he, fun h e he => by rw [(place_eq ht hp hq he).1]; exact h e he⟩
    rw [hall]
    refine ⟨rfl, ?_⟩
    cases h3 : mvAllS p q es
    · rfl
    · have hmap : es.map (mvE p q) = es.map (mvS p q) := List.map_congr_left (fun e he => (place_eq ht hp hq he).2 (List.all_eq_true.1 h3 e he))
      simp only [Bool.and_self, if_true]
      rw [hmap, sort_put _ (moved_nodup ht hq h2)]
end Go.Proofs.Ytaefjibnnbdaaaa

/- A place of a tree moved, by the model. -/
namespace Go.Proofs.Ytaefjibnnbdaaaa
open Go.RowKit Go.Shelf

def mvTo (p q : ByteArray) (es : List Ent) (k : Nat) : List Ent := (es.take k).map (mvS p q)
def moveL (p q : ByteArray) (es : List Ent) : List Ent := if (mayS es p q && mvAllS p q es) then sortL (es.map (mvS p q)) else es

set_option maxRecDepth 100000 in
set_option maxHeartbeats 8000000 in
theorem l2Move_any (es : List Ent) (p q : ByteArray) (b o cap : Nat) (w : World) (htb : treeB es = true) (hp : p.size ≤ 1048576) (hq : q.size ≤ 1048576) (h : ∀ (i : Nat) e, es[i]? = some e → EntAt w b (o + i * 4) e) (hb : b < w.heap.size) :
    Calls Try.prog 58 #[.slice (some ⟨b, o, none⟩) es.length cap, .string p, .string q] w fun x w' => ∃ v, x = .returned (.tuple #[v, .bool (mayS es p q && mvAllS p q es)]) ∧ w'.ownsRow w.heap.size 27 4 v (moveL p q es).length (valsOf (moveL p q es)) ∧ Below w.heap.size w w' := by
  obtain ⟨i0, hi0, hz0, hzs, hzb⟩ := info_parts infoEntry
  have HI := hid (And.intro hi0 (And.intro hz0 (And.intro hzs hzb)))
  have hl16 := tree_16 htb
  have H := hid h
  clear h hi0 hz0 hzs hzb
  cases h1 : thereE es p
  · have E := hid (show (mayS es p q && mvAllS p q es) = false ∧ moveL p q es = es by unfold moveL; rw [show mayS es p q = false by simp [mayS, h1]]; exact ⟨rfl, rfl⟩)
    go_enter Try.func58, Try.ntmps58
    go_wp2_with fail
    refine (l2At_any es _ _ p w (by omega) (.inr ⟨b, o, rfl, hb, unhid H⟩)).mono ?_
    rintro x w1 ⟨rfl, n1, e1⟩
    rw [h1]
    have hB1 : Below w.heap.size w w1 := by rw [e1]; exact drewN_below _ _
    have H1 := hid (show Below w.heap.size w w1 ∧ ∀ (i : Nat) e, es[i]? = some e → EntAt w1 b (o + i * 4) e from ⟨hB1, entAt_below (unhid H) (.inr hb) hB1⟩)
    have hb1 : b < w1.heap.size := Nat.lt_of_lt_of_le hb hB1.size
    clear hB1 e1 n1
    go_wp2_with fail
    refine (l2At_any es _ _ q w1 (by omega) (.inr ⟨b, o, rfl, hb1, (unhid H1).2⟩)).mono ?_
    rintro x w2 ⟨rfl, n2, e2⟩
    have hB2 : Below w1.heap.size w1 w2 := by rw [e2]; exact drewN_below _ _
    have H2 := hid (show Below w.heap.size w w2 ∧ ∀ (i : Nat) e, es[i]? = some e → EntAt w2 b (o + i * 4) e from ⟨(unhid H1).1.trans (hB2.mono (unhid H1).1.size), entAt_below (unhid H1).2 (.inr hb1) hB2⟩)
    have hb2 : b < w2.heap.size := Nat.lt_of_lt_of_le hb1 hB2.size
    clear hB2 e2 n2 H1 hb1
    go_wp2_with fail
    refine (l2Copy_any es b o cap w2 (by omega) (unhid H2).2 (.inr hb2)).mono ?_
    rintro x w9 ⟨v, rfl, hown, hB⟩
    obtain ⟨va, vc, rfl⟩ := ownsRow_slice hown
    have HF := hid (And.intro (ownsRow_base hown (unhid H2).1.size) ((unhid H2).1.trans (hB.mono (unhid H2).1.size)))
    clear hown hB
    go_wp2_with fail
    go_ret2
    exact ⟨_, by rw [(unhid E).1]; rfl, by rw [(unhid E).2]; exact (unhid HF).1, (unhid HF).2⟩

  · cases h2 : thereE es q
    · cases h3 : pathB q.data.toList
      · have E := hid (show (mayS es p q && mvAllS p q es) = false ∧ moveL p q es = es by unfold moveL; rw [show mayS es p q = false by simp [mayS, h1, h2, h3]]; exact ⟨rfl, rfl⟩)
        go_enter Try.func58, Try.ntmps58
        go_wp2_with fail
        refine (l2At_any es _ _ p w (by omega) (.inr ⟨b, o, rfl, hb, unhid H⟩)).mono ?_
        rintro x w1 ⟨rfl, n1, e1⟩
        rw [h1]
        have hB1 : Below w.heap.size w w1 := by rw [e1]; exact drewN_below _ _
        have H1 := hid (show Below w.heap.size w w1 ∧ ∀ (i : Nat) e, es[i]? = some e → EntAt w1 b (o + i * 4) e from ⟨hB1, entAt_below (unhid H) (.inr hb) hB1⟩)
        have hb1 : b < w1.heap.size := Nat.lt_of_lt_of_le hb hB1.size
        clear hB1 e1 n1
        go_wp2_with fail
        refine (l2At_any es _ _ q w1 (by omega) (.inr ⟨b, o, rfl, hb1, (unhid H1).2⟩)).mono ?_
        rintro x w2 ⟨rfl, n2, e2⟩
        have hB2 : Below w1.heap.size w1 w2 := by rw [e2]; exact drewN_below _ _
        have H2 := hid (show Below w.heap.size w w2 ∧ ∀ (i : Nat) e, es[i]? = some e → EntAt w2 b (o + i * 4) e from ⟨(unhid H1).1.trans (hB2.mono (unhid H1).1.size), entAt_below (unhid H1).2 (.inr hb1) hB2⟩)
        have hb2 : b < w2.heap.size := Nat.lt_of_lt_of_le hb1 hB2.size
        clear hB2 e2 n2 H1 hb1
        rw [h2]
        go_wp2_with fail
        refine (l1Path_any q hq w2).mono ?_
        rintro x w3 ⟨rfl, hB⟩
        rw [h3]
        have H3 := hid (show Below w.heap.size w w3 ∧ ∀ (i : Nat) e, es[i]? = some e → EntAt w3 b (o + i * 4) e from ⟨(unhid H2).1.trans (hB.mono (unhid H2).1.size), entAt_below (unhid H2).2 (.inr hb2) hB⟩)
        have hb3 : b < w3.heap.size := Nat.lt_of_lt_of_le hb2 hB.size
        clear hB H2 hb2
        go_wp2_with fail
        refine (l2Copy_any es b o cap w3 (by omega) (unhid H3).2 (.inr hb3)).mono ?_
        rintro x w9 ⟨v, rfl, hown, hB⟩
        obtain ⟨va, vc, rfl⟩ := ownsRow_slice hown
        have HF := hid (And.intro (ownsRow_base hown (unhid H3).1.size) ((unhid H3).1.trans (hB.mono (unhid H3).1.size)))
        clear hown hB
        go_wp2_with fail
        go_ret2
        exact ⟨_, by rw [(unhid E).1]; rfl, by rw [(unhid E).2]; exact (unhid HF).1, (unhid HF).2⟩

      · have hq54 := pathB_size _ h3
        rw [← Lib.size_eq] at hq54
        cases h4 : belowB p.data.toList q.data.toList
        · cases h5 : dirE es (upS q)
          · have E := hid (show (mayS es p q && mvAllS p q es) = false ∧ moveL p q es = es by unfold moveL; rw [show mayS es p q = false by simp [mayS, h1, h2, h3, h4, h5]]; exact ⟨rfl, rfl⟩)
            go_enter Try.func58, Try.ntmps58
            go_wp2_with fail
            refine (l2At_any es _ _ p w (by omega) (.inr ⟨b, o, rfl, hb, unhid H⟩)).mono ?_
            rintro x w1 ⟨rfl, n1, e1⟩
            rw [h1]
            have hB1 : Below w.heap.size w w1 := by rw [e1]; exact drewN_below _ _
            have H1 := hid (show Below w.heap.size w w1 ∧ ∀ (i : Nat) e, es[i]? = some e → EntAt w1 b (o + i * 4) e from ⟨hB1, entAt_below (unhid H) (.inr hb) hB1⟩)
            have hb1 : b < w1.heap.size := Nat.lt_of_lt_of_le hb hB1.size
            clear hB1 e1 n1
            go_wp2_with fail
            refine (l2At_any es _ _ q w1 (by omega) (.inr ⟨b, o, rfl, hb1, (unhid H1).2⟩)).mono ?_
            rintro x w2 ⟨rfl, n2, e2⟩
            have hB2 : Below w1.heap.size w1 w2 := by rw [e2]; exact drewN_below _ _
            have H2 := hid (show Below w.heap.size w w2 ∧ ∀ (i : Nat) e, es[i]? = some e → EntAt w2 b (o + i * 4) e from ⟨(unhid H1).1.trans (hB2.mono (unhid H1).1.size), entAt_below (unhid H1).2 (.inr hb1) hB2⟩)
            have hb2 : b < w2.heap.size := Nat.lt_of_lt_of_le hb1 hB2.size
            clear hB2 e2 n2 H1 hb1
            rw [h2]
            go_wp2_with fail
            refine (l1Path_any q hq w2).mono ?_
            rintro x w3 ⟨rfl, hB⟩
            rw [h3]
            have H3 := hid (show Below w.heap.size w w3 ∧ ∀ (i : Nat) e, es[i]? = some e → EntAt w3 b (o + i * 4) e from ⟨(unhid H2).1.trans (hB.mono (unhid H2).1.size), entAt_below (unhid H2).2 (.inr hb2) hB⟩)
            have hb3 : b < w3.heap.size := Nat.lt_of_lt_of_le hb2 hB.size
            clear hB H2 hb2
            go_wp2_with fail
            refine (l1Below_any p q (by unfold maxLen; omega) (by unfold maxLen; omega) w3).mono ?_
            rintro x w4 ⟨rfl, e4⟩
            subst e4
            rw [h4]
            go_wp2_with fail
            refine (l1Up_any q (by unfold maxLen; omega) w4).mono ?_
            rintro x w5 ⟨rfl, e5⟩
            subst e5
            go_wp2_with fail
            refine (l2Dir_any es _ cap (upS q) w5 (by omega) (.inr ⟨b, o, rfl, hb3, (unhid H3).2⟩)).mono ?_
            rintro x w6 ⟨rfl, n6, e6⟩
            have hB : Below w5.heap.size w5 w6 := by rw [e6]; exact drewN_below _ _
            rw [h5]
            have H6 := hid (show Below w.heap.size w w6 ∧ ∀ (i : Nat) e, es[i]? = some e → EntAt w6 b (o + i * 4) e from ⟨(unhid H3).1.trans (hB.mono (unhid H3).1.size), entAt_below (unhid H3).2 (.inr hb3) hB⟩)
            have hb6 : b < w6.heap.size := Nat.lt_of_lt_of_le hb3 hB.size
            clear hB H3 hb3 e6 n6
            go_wp2_with fail
            refine (l2Copy_any es b o cap w6 (by omega) (unhid H6).2 (.inr hb6)).mono ?_
            rintro x w9 ⟨v, rfl, hown, hB⟩
            obtain ⟨va, vc, rfl⟩ := ownsRow_slice hown
            have HF := hid (And.intro (ownsRow_base hown (unhid H6).1.size) ((unhid H6).1.trans (hB.mono (unhid H6).1.size)))
            clear hown hB
            go_wp2_with fail
            go_ret2
            exact ⟨_, by rw [(unhid E).1]; rfl, by rw [(unhid E).2]; exact (unhid HF).1, (unhid HF).2⟩

          · have E := hid (show (mayS es p q && mvAllS p q es) = mvAllS p q es ∧ moveL p q es = (if mvAllS p q es then sortL (es.map (mvS p q)) else es) by unfold moveL; rw [show mayS es p q = true by simp [mayS, h1, h2, h3, h4, h5]]; exact ⟨rfl, rfl⟩)
            go_enter Try.func58, Try.ntmps58
            go_wp2_with fail
            refine (l2At_any es _ _ p w (by omega) (.inr ⟨b, o, rfl, hb, unhid H⟩)).mono ?_
            rintro x w1 ⟨rfl, n1, e1⟩
            rw [h1]
            have hB1 : Below w.heap.size w w1 := by rw [e1]; exact drewN_below _ _
            have H1 := hid (show Below w.heap.size w w1 ∧ ∀ (i : Nat) e, es[i]? = some e → EntAt w1 b (o + i * 4) e from ⟨hB1, entAt_below (unhid H) (.inr hb) hB1⟩)
            have hb1 : b < w1.heap.size := Nat.lt_of_lt_of_le hb hB1.size
            clear hB1 e1 n1
            go_wp2_with fail
            refine (l2At_any es _ _ q w1 (by omega) (.inr ⟨b, o, rfl, hb1, (unhid H1).2⟩)).mono ?_
            rintro x w2 ⟨rfl, n2, e2⟩
            have hB2 : Below w1.heap.size w1 w2 := by rw [e2]; exact drewN_below _ _
            have H2 := hid (show Below w.heap.size w w2 ∧ ∀ (i : Nat) e, es[i]? = some e → EntAt w2 b (o + i * 4) e from ⟨(unhid H1).1.trans (hB2.mono (unhid H1).1.size), entAt_below (unhid H1).2 (.inr hb1) hB2⟩)
            have hb2 : b < w2.heap.size := Nat.lt_of_lt_of_le hb1 hB2.size
            clear hB2 e2 n2 H1 hb1
            rw [h2]
            go_wp2_with fail
            refine (l1Path_any q hq w2).mono ?_
            rintro x w3 ⟨rfl, hB⟩
            rw [h3]
            have H3 := hid (show Below w.heap.size w w3 ∧ ∀ (i : Nat) e, es[i]? = some e → EntAt w3 b (o + i * 4) e from ⟨(unhid H2).1.trans (hB.mono (unhid H2).1.size), entAt_below (unhid H2).2 (.inr hb2) hB⟩)
            have hb3 : b < w3.heap.size := Nat.lt_of_lt_of_le hb2 hB.size
            clear hB H2 hb2
            go_wp2_with fail
            refine (l1Below_any p q (by unfold maxLen; omega) (by unfold maxLen; omega) w3).mono ?_
            rintro x w4 ⟨rfl, e4⟩
            subst e4
            rw [h4]
            go_wp2_with fail
            refine (l1Up_any q (by unfold maxLen; omega) w4).mono ?_
            rintro x w5 ⟨rfl, e5⟩
            subst e5
            go_wp2_with fail
            refine (l2Dir_any es _ cap (upS q) w5 (by omega) (.inr ⟨b, o, rfl, hb3, (unhid H3).2⟩)).mono ?_
            rintro x w6 ⟨rfl, n6, e6⟩
            have hB : Below w5.heap.size w5 w6 := by rw [e6]; exact drewN_below _ _
            rw [h5]
            have H6 := hid (show Below w.heap.size w w6 ∧ ∀ (i : Nat) e, es[i]? = some e → EntAt w6 b (o + i * 4) e from ⟨(unhid H3).1.trans (hB.mono (unhid H3).1.size), entAt_below (unhid H3).2 (.inr hb3) hB⟩)
            have hb6 : b < w6.heap.size := Nat.lt_of_lt_of_le hb3 hB.size
            clear hB H3 hb3 e6 n6
            go_wp2_with fail
            have HF0 := hid (owns_empty w6 w6.heap.size (Nat.le_refl _) 27)
            have hw6 : w.heap.size ≤ w6.heap.size := (unhid H6).1.size
            go_loopw [12, 13] (fun v i wr => ∃ k : Nat, k ≤ es.length ∧ i = .int .i64 (k : Int) ∧ (∃ g c, v = .slice (some ⟨g, 0, none⟩) k c) ∧ Hid (wr.ownsRow w6.heap.size 27 4 v k (valsOf (mvTo p q es k))) ∧ Hid (mvAllS p q (es.take k) = true) ∧ Hid (Below w6.heap.size w6 wr)) (fun _ i _ => es.length - (intOf i).toNat)
            case atStart => exact ⟨0, Nat.zero_le _, rfl, ⟨_, 0, rfl⟩, hid (unhid HF0), hid rfl, hid ((Below.refl _ _).alloc (Nat.le_refl _) _)⟩
            case round =>
              obtain ⟨k, hk, rfl, ⟨g, c, rfl⟩, HO, HA, HB6⟩ := hrel
              by_cases hlt : k < es.length
              · obtain ⟨e, he⟩ : ∃ e, es[k]? = some e := ⟨es[k], List.getElem?_eq_getElem hlt⟩
                have hem := List.mem_of_getElem? he
                have hpe := pathB_size _ (ent_pathB (tree_all htb e hem))
                rw [← Lib.size_eq] at hpe
                obtain ⟨c0, c1, c2, c3⟩ := ((unhid H6).2 k e he).below (unhid HB6) hb6
                have hsz : w6.heap.size ≤ wr.heap.size := (unhid HB6).size
                have htk : mvTo p q es (k + 1) = mvTo p q es k ++ [mvS p q e] := by unfold mvTo; rw [List.take_add_one, he, List.map_append]; rfl
                have hal : mvAllS p q (es.take (k + 1)) = (mvAllS p q (es.take k) && pathB (mvS p q e).path.data.toList) := by unfold mvAllS; rw [List.take_add_one, he, List.all_append]; simp
                have HTK := hid htk
                have HAL := hid hal
                have HE := hid he
                obtain ⟨W1, hW1⟩ : ∃ W1, W1 = wr.alloc (.cells #[.string e.path, .int .i64 e.kind, .int .i64 e.mode, .string e.text] 27) := ⟨_, rfl⟩
                have hbx : W1.heap[wr.heap.size]? = some (.cells #[.string e.path, .int .i64 e.kind, .int .i64 e.mode, .string e.text] 27 (0, 0)) := by rw [hW1]; exact World.alloc_heap_new _ _
                have hBW : Below wr.heap.size wr W1 := by rw [hW1]; exact (Below.refl _ wr).alloc (Nat.le_refl _) _
                have hO1 := ownsRow_kept (unhid HO) (fun g eg => hBW.block g ((unhid HO).lt g eg).2)
                have hgne : g ≠ wr.heap.size := fun eg => by have := ((unhid HO).lt g rfl).2; omega
                have HB61 := hid ((unhid HB6).trans (hBW.mono (unhid HB6).size))
                obtain ⟨⟨d0, d1, d2, d3⟩, f0, f1, f2, f3⟩ := four_cells hbx
                have HX1 := hid hbx
                have HO1 := hid hO1
                have hz1 : wr.heap.size < W1.heap.size := (Array.getElem?_eq_some_iff.1 hbx).1
                have HW1 := hid hW1
                rw [hW1] at d0 d1 d2 d3 f0 f1 f2 f3
                clear he hem hBW hO1 HB6 hbx htk hal hW1
                cases hbl : belowB p.data.toList e.path.data.toList
                · have hmv : mvS p q e = e := by unfold mvS; rw [hbl]; rfl
                  have hpb : pathB e.path.data.toList = true := ent_pathB (tree_all htb e (List.mem_of_getElem? (unhid HE)))
                  rw [hmv] at HTK HAL
                  go_wp2_with fail
                  rw [← unhid HW1]
                  refine (l1Below_any p e.path (by unfold maxLen; omega) (by unfold maxLen; omega) W1).mono ?_
                  rintro x W2 ⟨rfl, e2⟩
                  subst e2
                  rw [hbl]
                  obtain ⟨⟨d0, d1, d2, d3⟩, f0, f1, f2, f3⟩ := four_cells (unhid HX1)
                  go_wp2_with fail
                  refine (l1Path_any e.path (by omega) W2).mono ?_
                  rintro x W3 ⟨rfl, hB⟩
                  rw [hpb]
                  have HAN := hid (show mvAllS p q (es.take (k + 1)) = true by rw [unhid HAL, unhid HA, hpb]; rfl)
                  have hO3 := ownsRow_kept (unhid HO1) (fun g eg => hB.block g ((unhid HO1).lt g eg).2)
                  have hX3 := (hB.block _ hz1).trans (unhid HX1)
                  have hB63 := (unhid HB61).trans (hB.mono (unhid HB61).size)
                  obtain ⟨⟨d0, d1, d2, d3⟩, -⟩ := four_cells hX3
                  have hz3 : w6.heap.size ≤ W3.heap.size := hB63.size
                  have HO3 := hid (hO3.alloc (.cells #[.string e.path, .int .i64 e.kind, .int .i64 e.mode, .string e.text] 27))
                  have HB3 := hid (hB63.alloc hB63.size (.cells #[.string e.path, .int .i64 e.kind, .int .i64 e.mode, .string e.text] 27))
                  clear hO3 hX3 hB63 hB HX1 HO1 HB61
                  go_wp2_with (at_builtin; refine wpList_append_own _ rfl _ _ 23 rfl w6.heap.size 27 i0 _ 4 48 Try.underlying23 (unhid HI).1 (unhid HI).2.1 (unhid HI).2.2.1 (unhid HI).2.2.2 rfl (by decide) _ k (valsOf (mvTo p q es k)) rfl (unhid HO3) ⟨W3.heap.size, 0, none⟩ 1 1 [.string e.path, .int .i64 e.kind, .int .i64 e.mode, .string e.text] rfl rfl (lit_cells W3 _ _ _ _ _) ?c2 ?c3 ?c4 ?c5 ?_)
                  case c2 => intro u hu; simp at hu; rcases hu with rfl | rfl | rfl | rfl <;> rfl
                  case c3 => unfold maxLen; omega
                  case c4 => omega
                  case c5 => simp; omega
                  intro v' W4 hown hg _
                  obtain ⟨g4, cap4, hv4⟩ := ownsRow_some hown (by omega)
                  subst hv4
                  have HF := hid (show W4.ownsRow w6.heap.size 27 4 (.slice (some ⟨g4, 0, none⟩) (k + 1) cap4) (k + 1) (valsOf (mvTo p q es (k + 1))) ∧ Below w6.heap.size w6 W4 from
                    ⟨by rw [unhid HTK, valsOf_snoc]; exact hown, (unhid HB3).grown hg (unhid HB3).size (fun k e => ((unhid HO3).lt k e).1)⟩)
                  clear hown hg
                  go_wp2_with fail
                  go_roundw
                  case rel => exact ⟨k + 1, by omega, by go_num, ⟨g4, cap4, rfl⟩, hid (unhid HF).1, HAN, hid (unhid HF).2⟩
                  case measure => simp [intOf]; omega
                · have hmv : mvS p q e = { e with path := movedP p q e.path } := by unfold mvS; rw [hbl]; rfl
                  rw [hmv] at HTK HAL
                  have hps : p.size ≤ e.path.size := by
                    rcases belowB_cases hbl with h0 | ⟨t, h0⟩
                    · rw [Lib.size_eq, Lib.size_eq, h0]; omega
                    · rw [Lib.size_eq, Lib.size_eq, h0]; simp
                  have hmz : (movedP p q e.path).size ≤ 1048576 := by
                    have h0 := movedP_list p q e.path
                    have h1 : (movedP p q e.path).size = q.size + (e.path.size - p.size) := by rw [Lib.size_eq, h0, List.length_append, List.length_drop, ← Lib.size_eq, ← Lib.size_eq, ← Lib.size_eq]
                    omega
                  go_wp2_with fail
                  rw [← unhid HW1]
                  refine (l1Below_any p e.path (by unfold maxLen; omega) (by unfold maxLen; omega) W1).mono ?_
                  rintro x W2 ⟨rfl, e2⟩
                  subst e2
                  rw [hbl]
                  obtain ⟨⟨d0, d1, d2, d3⟩, f0, f1, f2, f3⟩ := four_cells (unhid HX1)
                  have hps2 : (p.size : Int) ≤ (e.path.size : Int) := by omega
                  go_wp2_with fail
                  rw [show q ++ e.path.extract p.size e.path.size = movedP p q e.path from rfl]
                  obtain ⟨W5, hW5⟩ : ∃ W5, W5 = W2.setCell ⟨wr.heap.size, 0, none⟩ (.string (movedP p q e.path)) := ⟨_, rfl⟩
                  rw [← hW5]
                  have hX5 : W5.heap[wr.heap.size]? = some (.cells #[.string (movedP p q e.path), .int .i64 e.kind, .int .i64 e.mode, .string e.text] 27 (0, 0)) := by rw [hW5, heap_setCell_same _ _ 0 _ _ _ (unhid HX1)]; rfl
                  have hO5 : W5.ownsRow w6.heap.size 27 4 (.slice (some ⟨g, 0, none⟩) k c) k (valsOf (mvTo p q es k)) := by rw [hW5]; exact ownsRow_kept (unhid HO1) (fun g' eg => Below.heap_setCell _ _ _ _ (fun eq => by cases eg; exact hgne eq))
                  have hB65 : Below w6.heap.size w6 W5 := by rw [hW5]; exact (unhid HB61).setCell (p := ⟨wr.heap.size, 0, none⟩) hsz _
                  have hz5 : wr.heap.size < W5.heap.size := (Array.getElem?_eq_some_iff.1 hX5).1
                  clear HX1 HO1 HB61 d0 d1 d2 d3 f0 f1 f2 f3 hW5 hz1
                  have HX1 := hid hX5
                  have HO1 := hid hO5
                  have HB61 := hid hB65
                  have hz1 := hz5
                  clear hX5 hO5 hB65 hz5
                  refine (l1Path_any (movedP p q e.path) hmz W5).mono ?_
                  rintro x W3 ⟨rfl, hB⟩
                  cases hpb : pathB (movedP p q e.path).data.toList
                  · have hno : mvAllS p q es = false := List.all_eq_false.2 ⟨e, List.mem_of_getElem? (unhid HE), by rw [hmv]; simp [hpb]⟩
                    have E2 := hid (show (mayS es p q && mvAllS p q es) = false ∧ moveL p q es = es by rw [(unhid E).1, (unhid E).2, hno]; exact ⟨rfl, rfl⟩)
                    have hB63 := (unhid HB61).trans (hB.mono (unhid HB61).size)
                    have H7 := hid (show Below w.heap.size w W3 ∧ ∀ (i : Nat) e, es[i]? = some e → EntAt W3 b (o + i * 4) e from ⟨(unhid H6).1.trans (hB63.mono hw6), entAt_below (unhid H6).2 (.inr hb6) hB63⟩)
                    have hb7 : b < W3.heap.size := Nat.lt_of_lt_of_le hb6 hB63.size
                    clear hB hB63 hno HX1 HO1 HB61
                    go_wp2_with fail
                    refine (l2Copy_any es b o cap W3 (by omega) (unhid H7).2 (.inr hb7)).mono ?_
                    rintro x w9 ⟨v, rfl, hown, hB⟩
                    obtain ⟨va, vc, rfl⟩ := ownsRow_slice hown
                    have HF := hid (And.intro (ownsRow_base hown (unhid H7).1.size) ((unhid H7).1.trans (hB.mono (unhid H7).1.size)))
                    clear hown hB
                    go_wp2_with fail
                    go_ret2
                    exact ⟨_, by rw [(unhid E2).1]; rfl, by rw [(unhid E2).2]; exact (unhid HF).1, (unhid HF).2⟩
                  · have HAN := hid (show mvAllS p q (es.take (k + 1)) = true by rw [unhid HAL, unhid HA]; simpa using hpb)
                    have hO3 := ownsRow_kept (unhid HO1) (fun g eg => hB.block g ((unhid HO1).lt g eg).2)
                    have hX3 := (hB.block _ hz1).trans (unhid HX1)
                    have hB63 := (unhid HB61).trans (hB.mono (unhid HB61).size)
                    obtain ⟨⟨d0, d1, d2, d3⟩, -⟩ := four_cells hX3
                    have hz3 : w6.heap.size ≤ W3.heap.size := hB63.size
                    have HO3 := hid (hO3.alloc (.cells #[.string (movedP p q e.path), .int .i64 e.kind, .int .i64 e.mode, .string e.text] 27))
                    have HB3 := hid (hB63.alloc hB63.size (.cells #[.string (movedP p q e.path), .int .i64 e.kind, .int .i64 e.mode, .string e.text] 27))
                    clear hO3 hX3 hB63 hB HX1 HO1 HB61
                    go_wp2_with (at_builtin; refine wpList_append_own _ rfl _ _ 23 rfl w6.heap.size 27 i0 _ 4 48 Try.underlying23 (unhid HI).1 (unhid HI).2.1 (unhid HI).2.2.1 (unhid HI).2.2.2 rfl (by decide) _ k (valsOf (mvTo p q es k)) rfl (unhid HO3) ⟨W3.heap.size, 0, none⟩ 1 1 [.string (movedP p q e.path), .int .i64 e.kind, .int .i64 e.mode, .string e.text] rfl rfl (lit_cells W3 _ _ _ _ _) ?c2 ?c3 ?c4 ?c5 ?_)
                    case c2 => intro u hu; simp at hu; rcases hu with rfl | rfl | rfl | rfl <;> rfl
                    case c3 => unfold maxLen; omega
                    case c4 => omega
                    case c5 => simp; omega
                    intro v' W4 hown hg _
                    obtain ⟨g4, cap4, hv4⟩ := ownsRow_some hown (by omega)
                    subst hv4
                    have HF := hid (show W4.ownsRow w6.heap.size 27 4 (.slice (some ⟨g4, 0, none⟩) (k + 1) cap4) (k + 1) (valsOf (mvTo p q es (k + 1))) ∧ Below w6.heap.size w6 W4 from
                      ⟨by rw [unhid HTK, valsOf_snoc]; exact hown, (unhid HB3).grown hg (unhid HB3).size (fun k e => ((unhid HO3).lt k e).1)⟩)
                    clear hown hg
                    go_wp2_with fail
                    go_roundw
                    case rel => exact ⟨k + 1, by omega, by go_num, ⟨g4, cap4, rfl⟩, hid (unhid HF).1, HAN, hid (unhid HF).2⟩
                    case measure => simp [intOf]; omega
              · have ek : k = es.length := by omega
                subst ek
                rw [List.take_of_length_le (Nat.le_refl _)] at HA
                have hmt : mvTo p q es es.length = es.map (mvS p q) := by unfold mvTo; rw [List.take_of_length_le (Nat.le_refl _)]
                rw [hmt] at HO
                have hml : (es.map (mvS p q)).length = es.length := List.length_map _
                have E2 := hid (show (mayS es p q && mvAllS p q es) = true ∧ moveL p q es = sortL (es.map (mvS p q)) by rw [(unhid E).1, (unhid E).2, unhid HA]; exact ⟨rfl, rfl⟩)
                have hO := unhid HO
                rw [← hml] at hO
                obtain ⟨a1, cap1, ev, hRI⟩ := rowIn_of_owns hO
                have hgl : g < wr.heap.size := ((unhid HO).lt g rfl).2
                have HGE := hid (show ∀ (i : Nat) x, (es.map (mvS p q))[i]? = some x → EntAt wr g (0 + i * 4) x by

                  injection ev with ev1 ev2 ev3
                  subst ev1
                  rcases hRI.at with h0 | ⟨b', o', eb, _, hcc⟩
                  · intro i x hi; rw [h0] at hi; simp at hi
                  · cases eb; exact hcc)
                have SRT := hid (l2Sorted_any (es.map (mvS p q)) g 0 c wr (by rw [hml]; omega) (unhid HGE) hgl)
                rw [hml] at SRT
                have HB := hid ((unhid H6).1.trans ((unhid HB6).mono hw6))
                clear hO ev hRI hmt hml HGE hgl
                go_wp2_with fail
                refine (unhid SRT).mono ?_
                rintro x w9 ⟨v, rfl, hown, hB⟩
                obtain ⟨va, vc, rfl⟩ := ownsRow_slice hown
                have HF := hid (And.intro (ownsRow_base hown (unhid HB).size) ((unhid HB).trans (hB.mono (unhid HB).size)))
                clear hown hB
                go_wp2_with fail
                go_ret2
                exact ⟨_, by rw [(unhid E2).1]; rfl, by rw [(unhid E2).2]; exact (unhid HF).1, (unhid HF).2⟩

        · have E := hid (show (mayS es p q && mvAllS p q es) = false ∧ moveL p q es = es by unfold moveL; rw [show mayS es p q = false by simp [mayS, h1, h2, h3, h4]]; exact ⟨rfl, rfl⟩)
          go_enter Try.func58, Try.ntmps58
          go_wp2_with fail
          refine (l2At_any es _ _ p w (by omega) (.inr ⟨b, o, rfl, hb, unhid H⟩)).mono ?_
          rintro x w1 ⟨rfl, n1, e1⟩
          rw [h1]
          have hB1 : Below w.heap.size w w1 := by rw [e1]; exact drewN_below _ _
          have H1 := hid (show Below w.heap.size w w1 ∧ ∀ (i : Nat) e, es[i]? = some e → EntAt w1 b (o + i * 4) e from ⟨hB1, entAt_below (unhid H) (.inr hb) hB1⟩)
          have hb1 : b < w1.heap.size := Nat.lt_of_lt_of_le hb hB1.size
          clear hB1 e1 n1
          go_wp2_with fail
          refine (l2At_any es _ _ q w1 (by omega) (.inr ⟨b, o, rfl, hb1, (unhid H1).2⟩)).mono ?_
          rintro x w2 ⟨rfl, n2, e2⟩
          have hB2 : Below w1.heap.size w1 w2 := by rw [e2]; exact drewN_below _ _
          have H2 := hid (show Below w.heap.size w w2 ∧ ∀ (i : Nat) e, es[i]? = some e → EntAt w2 b (o + i * 4) e from ⟨(unhid H1).1.trans (hB2.mono (unhid H1).1.size), entAt_below (unhid H1).2 (.inr hb1) hB2⟩)
          have hb2 : b < w2.heap.size := Nat.lt_of_lt_of_le hb1 hB2.size
          clear hB2 e2 n2 H1 hb1
          rw [h2]
          go_wp2_with fail
          refine (l1Path_any q hq w2).mono ?_
          rintro x w3 ⟨rfl, hB⟩
          rw [h3]
          have H3 := hid (show Below w.heap.size w w3 ∧ ∀ (i : Nat) e, es[i]? = some e → EntAt w3 b (o + i * 4) e from ⟨(unhid H2).1.trans (hB.mono (unhid H2).1.size), entAt_below (unhid H2).2 (.inr hb2) hB⟩)
          have hb3 : b < w3.heap.size := Nat.lt_of_lt_of_le hb2 hB.size
          clear hB H2 hb2
          go_wp2_with fail
          refine (l1Below_any p q (by unfold maxLen; omega) (by unfold maxLen; omega) w3).mono ?_
          rintro x w4 ⟨rfl, e4⟩
          subst e4
          rw [h4]
          go_wp2_with fail
          refine (l2Copy_any es b o cap w4 (by omega) (unhid H3).2 (.inr hb3)).mono ?_
          rintro x w9 ⟨v, rfl, hown, hB⟩
          obtain ⟨va, vc, rfl⟩ := ownsRow_slice hown
          have HF := hid (And.intro (ownsRow_base hown (unhid H3).1.size) ((unhid H3).1.trans (hB.mono (unhid H3).1.size)))
          clear hown hB
          go_wp2_with fail
          go_ret2
          exact ⟨_, by rw [(unhid E).1]; rfl, by rw [(unhid E).2]; exact (unhid HF).1, (unhid HF).2⟩

    · have E := hid (show (mayS es p q && mvAllS p q es) = false ∧ moveL p q es = es by unfold moveL; rw [show mayS es p q = false by simp [mayS, h1, h2]]; exact ⟨rfl, rfl⟩)
      go_enter Try.func58, Try.ntmps58
      go_wp2_with fail
      refine (l2At_any es _ _ p w (by omega) (.inr ⟨b, o, rfl, hb, unhid H⟩)).mono ?_
      rintro x w1 ⟨rfl, n1, e1⟩
      rw [h1]
      have hB1 : Below w.heap.size w w1 := by rw [e1]; exact drewN_below _ _
      have H1 := hid (show Below w.heap.size w w1 ∧ ∀ (i : Nat) e, es[i]? = some e → EntAt w1 b (o + i * 4) e from ⟨hB1, entAt_below (unhid H) (.inr hb) hB1⟩)
      have hb1 : b < w1.heap.size := Nat.lt_of_lt_of_le hb hB1.size
      clear hB1 e1 n1
      go_wp2_with fail
      refine (l2At_any es _ _ q w1 (by omega) (.inr ⟨b, o, rfl, hb1, (unhid H1).2⟩)).mono ?_
      rintro x w2 ⟨rfl, n2, e2⟩
      have hB2 : Below w1.heap.size w1 w2 := by rw [e2]; exact drewN_below _ _
      have H2 := hid (show Below w.heap.size w w2 ∧ ∀ (i : Nat) e, es[i]? = some e → EntAt w2 b (o + i * 4) e from ⟨(unhid H1).1.trans (hB2.mono (unhid H1).1.size), entAt_below (unhid H1).2 (.inr hb1) hB2⟩)
      have hb2 : b < w2.heap.size := Nat.lt_of_lt_of_le hb1 hB2.size
      clear hB2 e2 n2 H1 hb1
      rw [h2]
      go_wp2_with fail
      refine (l2Copy_any es b o cap w2 (by omega) (unhid H2).2 (.inr hb2)).mono ?_
      rintro x w9 ⟨v, rfl, hown, hB⟩
      obtain ⟨va, vc, rfl⟩ := ownsRow_slice hown
      have HF := hid (And.intro (ownsRow_base hown (unhid H2).1.size) ((unhid H2).1.trans (hB.mono (unhid H2).1.size)))
      clear hown hB
      go_wp2_with fail
      go_ret2
      exact ⟨_, by rw [(unhid E).1]; rfl, by rw [(unhid E).2]; exact (unhid HF).1, (unhid HF).2⟩

end Go.Proofs.Ytaefjibnnbdaaaa

/- What is moved in a tree: the model's answer. -/
namespace Go.Proofs.Ytaefjibnnbdaaaa
open Go.RowKit Go.Shelf

theorem moveR_len (p q : ByteArray) (es : List Ent) : (moveR p q es).length ≤ 100 := by
  have := (kept_asc es).2
  unfold moveR
  split
  · have h := putAll_len ((keptE es).map (mvE p q))
    rw [List.length_map] at h
    omega
  · omega

set_option maxRecDepth 100000 in
set_option maxHeartbeats 2000000 in
theorem specTreeMove_any (es : List Ent) (p q : ByteArray) (b o cap : Nat) (w : World) (hs : smallE es) (hp : p.size ≤ 1048576) (hq : q.size ≤ 1048576) (h : ∀ (i : Nat) e, es[i]? = some e → EntAt w b (o + i * 4) e) (hb : b < w.heap.size) :
    Calls Try.prog 20 #[.slice (some ⟨b, o, none⟩) es.length cap, .string p, .string q] w fun x w' => ∃ v, x = .returned (.tuple #[v, .bool (moveOk p q es)]) ∧ w'.ownsRow w.heap.size 27 4 v (moveR p q es).length (valsOf (moveR p q es)) ∧ Below w.heap.size w w' := by
  have hat1 : EntsAt w (some ⟨b, o, none⟩) es := .inr ⟨b, o, rfl, hb, h⟩
  have OK := hid (specTreeOk_any es (some ⟨b, o, none⟩) cap w hs hat1)
  have H1 := hid h
  clear hat1 h hs
  go_enter Try.func20, Try.ntmps20
  go_wp2_with fail
  refine (unhid OK).mono ?_
  rintro x w2 ⟨rfl, hB2⟩
  have H2 := hid (show Below w.heap.size w w2 ∧ ∀ (i : Nat) e, es[i]? = some e → EntAt w2 b (o + i * 4) e from ⟨hB2, entAt_below (unhid H1) (.inr hb) hB2⟩)
  have hb2 : b < w2.heap.size := Nat.lt_of_lt_of_le hb hB2.size
  clear hB2 H1 OK
  cases htb : treeB es
  · have E := hid (show moveR p q es = [] ∧ moveOk p q es = false by unfold moveR moveOk; rw [keptE_no htb]; exact ⟨by simp [mayB, thereE, placeE], by simp [mayB, thereE, placeE]⟩)
    have HF := hid (And.intro (owns_empty w2 w.heap.size (unhid H2).1.size 27) ((unhid H2).1.alloc (unhid H2).1.size (.cells #[] 27)))
    go_wp2_with fail
    go_ret2
    exact ⟨_, by rw [(unhid E).2]; rfl, by rw [(unhid E).1]; exact (unhid HF).1, (unhid HF).2⟩
  · have E := hid (show moveOk p q es = (mayS es p q && mvAllS p q es) ∧ moveR p q es = moveL p q es from move_spec (p := p) (q := q) htb)
    go_wp2_with fail
    refine (l2Move_any es p q b o cap w2 htb hp hq (unhid H2).2 hb2).mono ?_
    rintro x w4 ⟨v, rfl, hown, hB4⟩
    obtain ⟨va, vc, rfl⟩ := ownsRow_slice hown
    have HF := hid (And.intro (ownsRow_base hown (unhid H2).1.size) ((unhid H2).1.trans (hB4.mono (unhid H2).1.size)))
    clear hown hB4
    generalize hmb : (mayS es p q && mvAllS p q es) = mb at *
    clear hmb
    go_wp2_with fail
    go_ret2
    exact ⟨_, by rw [(unhid E).1]; rfl, by rw [(unhid E).2]; exact (unhid HF).1, (unhid HF).2⟩
end Go.Proofs.Ytaefjibnnbdaaaa
