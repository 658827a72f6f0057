/- What is in a place of a tree is there only if the place is. -/
import Derived.Test.YtlnehebihfeegaaSpecDrop
import Derived.Test.YtlnehebihfeegaaPathMath2
namespace Go.Proofs.Ytlnehebihfeegaa
open Go.RowKit Go.Shelf

theorem there_mem {es : List Ent} {x : Ent} (h : Up es) (hx : x ∈ es) : thereE es x.path = true ∧ entFn es (placeE es x.path) = x := by
  obtain ⟨i, hi⟩ := List.getElem?_of_mem hx
  obtain ⟨hil, he⟩ := List.getElem?_eq_some_iff.1 hi
  have hp : placeE es x.path = i := place_of es x.path i (Nat.le_of_lt hil) (fun j y hj hy => by
      obtain ⟨hjl, hyj⟩ := List.getElem?_eq_some_iff.1 hy
      have := List.pairwise_iff_getElem.1 h j i hjl hil hj
      rw [hyj, he] at this; exact this) (fun y hy => by rw [hi] at hy; cases hy; exact lt_irr _)
  refine ⟨?_, ?_⟩
  · unfold thereE; rw [hp, hi]; exact (eqS_iff _ _).2 rfl
  · rw [hp]; exact entFn_get hi
theorem tree_dir {es : List Ent} {x : Ent} (h : treeB es = true) (hx : x ∈ es) : dirE es (upS x.path) = true := by
  unfold treeB at h
  simp only [Bool.and_eq_true] at h
  obtain ⟨i, hi⟩ := List.getElem?_of_mem hx
  have := List.all_eq_true.1 h.1.2 i (List.mem_range.2 (List.getElem?_eq_some_iff.1 hi).1)
  rwa [entFn_get hi] at this
theorem ent_pathB {e : Ent} (h : entB e = true) : pathB e.path.data.toList = true := by
  unfold entB at h; simp only [Bool.and_eq_true] at h; exact h.1
theorem in_there {es : List Ent} {p : ByteArray} (h : treeB es = true) : ∀ (n : Nat) (e : Ent), e ∈ es → e.path.size ≤ n → inB p.data.toList e.path.data.toList = true → thereE es p = true
  | n, e, he, hn, hin => by
    by_cases hs : e.path.data.toList = p.data.toList
    · have : e.path = p := by
        apply ByteArray.ext; exact Array.ext' hs
      subst this
      exact (there_mem (asc_up (tree_asc h)) he).1
    · obtain ⟨h1, h2, _⟩ := in_up hin hs
      have hpb := ent_pathB (tree_all h e he)
      have hup : (upS e.path).data.toList = e.path.data.toList.take (lastIx 47 e.path.data.toList).toNat := by
        rw [← ent_path (tree_all h e he)]; exact up_some hpb h1
      have hd := tree_dir h he
      have hne : (upS e.path).toList.isEmpty = false := by
        rw [Lib.toList_data, hup]
        have := pathB_ne _ (inB_parts h2).2.1
        simpa using this
      unfold dirE at hd
      rw [hne, Bool.false_or, Bool.and_eq_true] at hd
      obtain ⟨x, hx, hxp⟩ := there_get hd.1
      have hlt : (upS e.path).size < e.path.size := by
        have hll := lastIx_get 47 e.path.data.toList h1
        have hl2 := (List.getElem?_eq_some_iff.1 hll).1
        rw [Lib.size_eq, Lib.size_eq, hup, List.length_take]; omega
      match n with
      | 0 => omega
      | n + 1 => exact in_there h n x (List.mem_of_getElem? hx) (by rw [hxp]; omega) (by rw [hxp, hup]; exact h2)
theorem left_none {es : List Ent} {p : ByteArray} (h : treeB es = true) (ht : thereE es p = false) : leftE p es = es := by
  unfold leftE
  rw [List.filter_eq_self]
  intro e he
  cases hi : inB p.data.toList e.path.data.toList
  · rfl
  · rw [in_there h _ e he (Nat.le_refl _) hi] at ht; cases ht
theorem left_drop {es : List Ent} {p : ByteArray} (h : treeB es = true) (ht : thereE es p = true) : leftE p es = dropB p es := by
  obtain ⟨x, hx, hxp⟩ := there_get ht
  have hp : pathB p.data.toList = true := by rw [← hxp]; exact ent_pathB (tree_ent h hx)
  unfold leftE dropB
  apply List.filter_congr
  intro e he
  unfold inB
  rw [hp, ent_pathB (tree_all h e he)]
  rfl

def dropR (p : ByteArray) (es : List Ent) : List Ent := leftE p (keptE es)
def dropOk (p : ByteArray) (es : List Ent) : Bool := treeB es && thereE es p

set_option maxRecDepth 100000 in
set_option maxHeartbeats 2000000 in
theorem specTreeDrop_any (es : List Ent) (p : ByteArray) (b o cap : Nat) (w : World) (hs : smallE es) (hp : p.size ≤ 1048576) (h : ∀ (i : Nat) e, es[i]? = some e → EntAt w b (o + i * 4) e) (hb : b < w.heap.size) :
    Calls Try.prog 34 #[.slice (some ⟨b, o, none⟩) es.length cap, .string p] w fun x w' => ∃ v, x = .returned (.tuple #[v, .bool (dropOk p es)]) ∧ w'.ownsRow w.heap.size 27 4 v (dropR p es).length (valsOf (dropR p es)) ∧ Below w.heap.size w w' := by
  have hat1 : EntsAt w (some ⟨b, o, none⟩) es := .inr ⟨b, o, rfl, hb, h⟩
  have OK := hid (specTreeOk_any es (some ⟨b, o, none⟩) cap w hs hat1)
  have H1 := hid h
  have HS := hid hs
  clear hat1 h hs
  go_enter Try.func34, Try.ntmps34
  go_wp2_with fail
  refine (unhid OK).mono ?_
  rintro x w2 ⟨rfl, hB2⟩
  have H2 := hid (show Below w.heap.size w w2 ∧ ∀ (i : Nat) e, es[i]? = some e → EntAt w2 b (o + i * 4) e from ⟨hB2, entAt_below (unhid H1) (.inr hb) hB2⟩)
  have hb2 : b < w2.heap.size := Nat.lt_of_lt_of_le hb hB2.size
  clear hB2 H1 OK
  cases htb : treeB es
  · have E := hid (show dropR p es = [] ∧ dropOk p es = false by unfold dropR dropOk; rw [htb, keptE_no htb]; exact ⟨rfl, rfl⟩)
    have HF := hid (And.intro (owns_empty w2 w.heap.size (unhid H2).1.size 27) ((unhid H2).1.alloc (unhid H2).1.size (.cells #[] 27)))
    go_wp2_with fail
    go_ret2
    exact ⟨_, by rw [(unhid E).2]; rfl, by rw [(unhid E).1]; exact (unhid HF).1, (unhid HF).2⟩
  · have hl16 := tree_16 htb
    go_wp2_with fail
    refine (l2At_any es _ _ p w2 (unhid HS).1 (.inr ⟨b, o, rfl, hb2, (unhid H2).2⟩)).mono ?_
    rintro x w3 ⟨rfl, n3, e3⟩
    have hB3 : Below w2.heap.size w2 w3 := by rw [e3]; exact drewN_below _ _
    have H3 := hid (show Below w.heap.size w w3 ∧ ∀ (i : Nat) e, es[i]? = some e → EntAt w3 b (o + i * 4) e from ⟨(unhid H2).1.trans (hB3.mono (unhid H2).1.size), entAt_below (unhid H2).2 (.inr hb2) hB3⟩)
    have hb3 : b < w3.heap.size := Nat.lt_of_lt_of_le hb2 hB3.size
    clear hB3 e3 H2 hb2 n3
    cases hth : thereE es p
    · have E := hid (show dropR p es = es ∧ dropOk p es = false by unfold dropR dropOk; rw [htb, keptE_yes htb, hth]; exact ⟨left_none htb hth, rfl⟩)
      go_wp2_with fail
      refine (l2Copy_any es b o cap w3 (by omega) (unhid H3).2 (.inr hb3)).mono ?_
      rintro x w4 ⟨v, rfl, hown, hB4⟩
      obtain ⟨va, vc, rfl⟩ := ownsRow_slice hown
      have HF := hid (And.intro (ownsRow_base hown (unhid H3).1.size) ((unhid H3).1.trans (hB4.mono (unhid H3).1.size)))
      clear hown hB4
      go_wp2_with fail
      go_ret2
      exact ⟨_, by rw [(unhid E).2]; rfl, by rw [(unhid E).1]; exact (unhid HF).1, (unhid HF).2⟩
    · have E := hid (show dropR p es = dropB p es ∧ dropOk p es = true by unfold dropR dropOk; rw [htb, keptE_yes htb, hth]; exact ⟨left_drop htb hth, rfl⟩)
      go_wp2_with fail
      refine (l2Drop_any es p b o cap w3 (unhid HS) hp (unhid H3).2 hb3).mono ?_
      rintro x w4 ⟨v, rfl, hown, hB4⟩
      obtain ⟨va, vc, rfl⟩ := ownsRow_slice hown
      have HF := hid (And.intro (ownsRow_base hown (unhid H3).1.size) ((unhid H3).1.trans (hB4.mono (unhid H3).1.size)))
      clear hown hB4
      go_wp2_with fail
      go_ret2
      exact ⟨_, by rw [(unhid E).2]; rfl, by rw [(unhid E).1]; exact (unhid HF).1, (unhid HF).2⟩
end Go.Proofs.Ytlnehebihfeegaa
