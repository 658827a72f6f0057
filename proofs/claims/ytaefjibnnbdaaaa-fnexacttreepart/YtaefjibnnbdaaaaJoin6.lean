/- Texts of this proof, one behind the other; each says at its head what it shows. -/
import Derived.Test.YtaefjibnnbdaaaaJoin5
import Derived.Laws.Entries
import Derived.Test.YtaefjibnnbdaaaaJoin3
/- What is in a place of a tree is there only if the place is. -/
namespace Go.Proofs.Ytaefjibnnbdaaaa
open Go.RowKit Go.Shelf

theorem there_mem {es : List Ent} {x : Ent} (h : Up es) (hx : x ∈ es) : thereE es x.path = true ∧ entFn es (placeE es x.path) = x := by
  obtain ⟨i, hi⟩ := List.getElem?_of_mem hx
  obtain ⟨hil, he⟩ := List.getElem?_eq_some_iff.1 hi
  have hp : placeE es x.path = i := place_of es x.path i (Nat.le_of_lt hil) (fun j y hj hy => by
      obtain ⟨hjl, hyj⟩ := List.getElem?_eq_some_iff.1 hy
      have := List.pairwise_iff_getElem.1 h j i hjl hil hj
      rw [hyj, he] at this; exact this) (fun y hy => by rw [hi] at hy; cases hy; exact lt_irr _)
  refine ⟨?_, ?_⟩
  · unfold thereE; rw [hp, hi]; exact (eqS_iff _ _).2 rfl
  · rw [hp]; exact entFn_get hi
theorem tree_dir {es : List Ent} {x : Ent} (h : treeB es = true) (hx : x ∈ es) : dirE es (upS x.path) = true := by
  unfold treeB at h
  simp only [Bool.and_eq_true] at h
  obtain ⟨i, hi⟩ := List.getElem?_of_mem hx
  have := List.all_eq_true.1 h.1.2 i (List.mem_range.2 (List.getElem?_eq_some_iff.1 hi).1)
  rwa [entFn_get hi] at this
theorem ent_pathB {e : Ent} (h : entB e = true) : pathB e.path.data.toList = true := by
  unfold entB at h; simp only [Bool.and_eq_true] at h; exact h.1
theorem in_there {es : List Ent} {p : ByteArray} (h : treeB es = true) : ∀ (n : Nat) (e : Ent), e ∈ es → e.path.size ≤ n → inB p.data.toList e.path.data.toList = true → thereE es p = true
  | n, e, he, hn, hin => by
    by_cases hs : e.path.data.toList = p.data.toList
    · have : e.path = p := by
        apply ByteArray.ext; exact Array.ext' hs
      subst this
      exact (there_mem (asc_up (tree_asc h)) he).1
    · obtain ⟨h1, h2, _⟩ := in_up hin hs
      have hpb := ent_pathB (tree_all h e he)
      have hup : (upS e.path).data.toList = e.path.data.toList.take (lastIx 47 e.path.data.toList).toNat := by
        rw [← ent_path (tree_all h e he)]; exact up_some hpb h1
      have hd := tree_dir h he
      have hne : (upS e.path).toList.isEmpty = false := by
        rw [Lib.toList_data, hup]
        have := pathB_ne _ (inB_parts h2).2.1
        simpa using this
      unfold dirE at hd
      rw [hne, Bool.false_or, Bool.and_eq_true] at hd
      obtain ⟨x, hx, hxp⟩ := there_get hd.1
      have hlt : (upS e.path).size < e.path.size := by
        have hll := lastIx_get 47 e.path.data.toList h1
        have hl2 := (List.getElem?_eq_some_iff.1 hll).1
        rw [Lib.size_eq, Lib.size_eq, hup, List.length_take]; omega
      match n with
      | 0 => omega
      | n + 1 => exact in_there h n x (List.mem_of_getElem? hx) (by rw [hxp]; omega) (by rw [hxp, hup]; exact h2)
theorem left_none {es : List Ent} {p : ByteArray} (h : treeB es = true) (ht : thereE es p = false) : leftE p es = es := by
  unfold leftE
  rw [List.filter_eq_self]
  intro e he
  cases hi : inB p.data.toList e.path.data.toList
  · rfl
  · rw [in_there h _ e he (Nat.le_refl _) hi] at ht; cases ht
theorem left_drop {es : List Ent} {p : ByteArray} (h : treeB es = true) (ht : thereE es p = true) : leftE p es = dropB p es := by
  obtain ⟨x, hx, hxp⟩ := there_get ht
  have hp : pathB p.data.toList = true := by rw [← hxp]; exact ent_pathB (tree_ent h hx)
  unfold leftE dropB
  apply List.filter_congr
  intro e he
  unfold inB
  rw [hp, ent_pathB (tree_all h e he)]
  rfl

def dropR (p : ByteArray) (es : List Ent) : List Ent := leftE p (keptE es)
def dropOk (p : ByteArray) (es : List Ent) : Bool := treeB es && thereE es p

set_option maxRecDepth 100000 in
set_option maxHeartbeats 2000000 in
theorem specTreeDrop_any (es : List Ent) (p : ByteArray) (b o cap : Nat) (w : World) (hs : smallE es) (hp : p.size ≤ 1048576) (h : ∀ (i : Nat) e, es[i]? = some e → EntAt w b (o + i * 4) e) (hb : b < w.heap.size) :
    Calls Try.prog 29 #[.slice (some ⟨b, o, none⟩) es.length cap, .string p] w fun x w' => ∃ v, x = .returned (.tuple #[v, .bool (dropOk p es)]) ∧ w'.ownsRow w.heap.size 27 4 v (dropR p es).length (valsOf (dropR p es)) ∧ Below w.heap.size w w' := by
  have hat1 : EntsAt w (some ⟨b, o, none⟩) es := .inr ⟨b, o, rfl, hb, h⟩
  have OK := hid (specTreeOk_any es (some ⟨b, o, none⟩) cap w hs hat1)
  have H1 := hid h
  have HS := hid hs
  clear hat1 h hs
  go_enter Try.func29, Try.ntmps29
  go_wp2_with fail
  refine (unhid OK).mono ?_
  rintro x w2 ⟨rfl, hB2⟩
  have H2 := hid (show Below w.heap.size w w2 ∧ ∀ (i : Nat) e, es[i]? = some e → EntAt w2 b (o + i * 4) e from ⟨hB2, entAt_below (unhid H1) (.inr hb) hB2⟩)
  have hb2 : b < w2.heap.size := Nat.lt_of_lt_of_le hb hB2.size
  clear hB2 H1 OK
  cases htb : treeB es
  · have E := hid (show dropR p es = [] ∧ dropOk p es = false by unfold dropR dropOk; rw [htb, keptE_no htb]; exact ⟨rfl, rfl⟩)
    have HF := hid (And.intro (owns_empty w2 w.heap.size (unhid H2).1.size 27) ((unhid H2).1.alloc (unhid H2).1.size (.cells #[] 27)))
    go_wp2_with fail
    go_ret2
    exact ⟨_, by rw [(unhid E).2]; rfl, by rw [(unhid E).1]; exact (unhid HF).1, (unhid HF).2⟩
  · have hl16 := tree_16 htb
    go_wp2_with fail
    refine (l2At_any es _ _ p w2 (unhid HS).1 (.inr ⟨b, o, rfl, hb2, (unhid H2).2⟩)).mono ?_
    rintro x w3 ⟨rfl, n3, e3⟩
    have hB3 : Below w2.heap.size w2 w3 := by rw [e3]; exact drewN_below _ _
    have H3 := hid (show Below w.heap.size w w3 ∧ ∀ (i : Nat) e, es[i]? = some e → EntAt w3 b (o + i * 4) e from ⟨(unhid H2).1.trans (hB3.mono (unhid H2).1.size), entAt_below (unhid H2).2 (.inr hb2) hB3⟩)
    have hb3 : b < w3.heap.size := Nat.lt_of_lt_of_le hb2 hB3.size
    clear hB3 e3 H2 hb2 n3
    cases hth : thereE es p
    · have E := hid (show dropR p es = es ∧ dropOk p es = false by unfold dropR dropOk; rw [htb, keptE_yes htb, hth]; exact ⟨left_none htb hth, rfl⟩)
      go_wp2_with fail
      refine (l2Copy_any es b o cap w3 (by omega) (unhid H3).2 (.inr hb3)).mono ?_
      rintro x w4 ⟨v, rfl, hown, hB4⟩
      obtain ⟨va, vc, rfl⟩ := ownsRow_slice hown
      have HF := hid (And.intro (ownsRow_base hown (unhid H3).1.size) ((unhid H3).1.trans (hB4.mono (unhid H3).1.size)))
      clear hown hB4
      go_wp2_with fail
      go_ret2
      exact ⟨_, by rw [(unhid E).2]; rfl, by rw [(unhid E).1]; exact (unhid HF).1, (unhid HF).2⟩
    · have E := hid (show dropR p es = dropB p es ∧ dropOk p es = true by unfold dropR dropOk; rw [htb, keptE_yes htb, hth]; exact ⟨left_drop htb hth, rfl⟩)
      go_wp2_with fail
      refine (l2Drop_any es p b o cap w3 (unhid HS) hp (unhid H3).2 hb3).mono ?_
      rintro x w4 ⟨v, rfl, hown, hB4⟩
      obtain ⟨va, vc, rfl⟩ := ownsRow_slice hown
      have HF := hid (And.intro (ownsRow_base hown (unhid H3).1.size) ((unhid H3).1.trans (hB4.mono (unhid H3).1.size)))
      clear hown hB4
      go_wp2_with fail
      go_ret2
      exact ⟨_, by rw [(unhid E).2]; rfl, by rw [(unhid E).1]; exact (unhid HF).1, (unhid HF).2⟩
end Go.Proofs.Ytaefjibnnbdaaaa

/- An entry put into a tree: which blocks change, and where its rows lie then. -/
namespace Go.Proofs.Ytaefjibnnbdaaaa
open Go.RowKit Go.Shelf

/-- A tree at a block, its rows by name. -/
def RowsV (W : World) (N bt : Nat) (vp vn : Value) (es : List Ent) : Prop := W.heap[bt]? = some (.cells #[vp, vn] 58 (0, 0)) ∧ W.ownsRow N 9 1 vp es.length (es.map fun e => .string e.path) ∧ W.ownsRow N 62 1 vn es.length (es.map nodeV)
/-- A row is where it was, or new. -/
def FreshV (w : World) (v v' : Value) : Prop := ∀ k, v'.ownBlock = some k → v.ownBlock = some k ∨ w.heap.size ≤ k
/-- Behind a put: the tree, its rows where they were or new; nothing else has changed. -/
def PutV (w w' : World) (N bt : Nat) (vp vn : Value) (es : List Ent) : Prop := (∃ vp' vn', RowsV w' N bt vp' vn' es ∧ FreshV w vp vp' ∧ FreshV w vn vn') ∧ Below N w w' ∧ (∀ k o, k ≠ bt → w.heap[k]? = some o → Apart o → w'.heap[k]? = some o) ∧ ∀ k, k < w.heap.size → k ≠ bt → vp.ownBlock ≠ some k → vn.ownBlock ≠ some k → w'.heap[k]? = w.heap[k]?

set_option maxRecDepth 100000 in
set_option maxHeartbeats 4000000 in
theorem mapPut_insV (N bt : Nat) (vp vn : Value) (es : List Ent) (e : Ent) (w : World) (hn : es.length ≤ 900) (ha : Asc (pathsOf es)) (hN : N ≤ bt) (ht0 : thereE es e.path = false) (h : RowsV w N bt vp vn es) :
    Calls Try.prog 57 #[.pointer (some ⟨bt, 0, .none⟩), .string e.path, nodeV e] w fun x w' => (∃ v, x = .returned v) ∧ PutV w w' N bt vp vn (insAt es e) := by
  obtain ⟨h1, h2, h3⟩ := h
  have hbl : bt < w.heap.size := (Array.getElem?_eq_some_iff.1 h1).1
  obtain ⟨a, cap, hva, hT⟩ := texts_of h2
  have hpn : (pathsOf es).length = es.length := by simp [pathsOf]
  have hl : (pathsOf es).length ≤ 1048576 := by omega
  have ht : thereP (pathsOf es) e.path = false := by rw [thereP_E, ht0]
  have hpp : placeP (pathsOf es) e.path = placeE es e.path := placeP_E _ _
  have hkl : placeE es e.path ≤ es.length := placeE_le es e.path
  have hins : insAt es e = es.take (placeE es e.path) ++ [e] ++ es.drop (placeE es e.path) := rfl
  have hT1 : ∀ v ∈ es.map (fun e => Value.string e.path), v.oneCell' = true := fun v hv => by obtain ⟨x, -, rfl⟩ := List.mem_map.1 hv; rfl
  have hN1 : ∀ v ∈ es.map nodeV, v.oneCell' = true := fun v hv => by obtain ⟨x, -, rfl⟩ := List.mem_map.1 hv; exact nodeV_one x
  obtain ⟨k, hk⟩ : ∃ k, placeE es e.path = k := ⟨_, rfl⟩
  rw [hk] at hpp hkl hins
  rw [hins]
  have hS := BinarySearch_any (pathsOf es) a cap e.path w hl ha hT
  rw [hpp, ht, hpn] at hS
  rw [hpn] at hva
  subst hva
  obtain ⟨T, nv, hV⟩ := nodeV_shape e
  have hIN := fun n i b v xs w => InsertN_any N n i b v xs e w
  simp only [hV] at hIN
  rw [hV]
  have HV := hid hV
  have HIN := hid hIN
  clear hV hIN
  have HS := hid hS
  obtain ⟨c0, c1, f0, f1⟩ := two_cells h1
  have H2 := hid h2
  have H3 := hid h3
  have H1 := hid h1
  have HT1 := hid hT1
  have HN1 := hid hN1
  clear hT ha hl ht hpp h1 h2 h3 hpn hS hins hk ht0 hT1 hN1
  go_enter Try.func57, Try.ntmps57
  go_wp2_with fail
  refine (unhid HS).mono ?_
  rintro x w1 ⟨rfl, hw1⟩
  rw [hw1]
  clear hw1
  go_wp2_with fail
  refine (InsertS_any N es.length k w.heap.size _ _ e.path (w.alloc (.cells #[.string e.path] 9)) hkl (by omega) (by simp; omega) ((unhid H2).alloc _) (fun eq => by have := ((unhid H2).lt _ eq).2; omega) (World.alloc_heap_new w _) (unhid HT1)).mono ?_
  rintro x w2 ⟨v2, rfl, hown2, hgrow2, hat2⟩
  obtain ⟨g2, cap2, rfl⟩ := ownsRow_succ hown2
  have h1a : (w.alloc (.cells #[.string e.path] 9)).heap[bt]? = some (.cells #[.slice a es.length cap, vn] 58 (0, 0)) := (Below.heap_alloc _ _ _ hbl).trans (unhid H1)
  have h12 : w2.heap[bt]? = some (.cells #[.slice a es.length cap, vn] 58 (0, 0)) := (hgrow2.block bt (by simp; omega) (row_ne ((unhid H2).alloc (.cells #[.string e.path] 9)) h1a (by decide))).trans h1a
  obtain ⟨c0, c1, f0, f1⟩ := two_cells h12
  have h32 : w2.ownsRow N 62 1 vn es.length (es.map nodeV) := by
    refine ownsRow_kept ((unhid H3).alloc (.cells #[.string e.path] 9)) (fun g hg => hgrow2.block g (((unhid H3).alloc (.cells #[.string e.path] 9)).lt g hg).2 ?_)
    rcases ((unhid H3).alloc (.cells #[.string e.path] 9)).2 with ⟨rfl, _⟩ | ⟨g', cap', cur', rfl, _, hgc, _⟩
    · cases hg
    · cases hg; exact row_ne ((unhid H2).alloc (.cells #[.string e.path] 9)) hgc (by decide)
  have hg2w : g2 ≠ bt := fun eq => by
    rcases hown2.2 with ⟨h, _⟩ | ⟨g', cap', cur', hv, _, hgc, _⟩
    · cases h
    · cases hv; exact type_ne hgc h12 (by decide) eq
  have HB2 := hid (And.intro hown2 (And.intro hgrow2 (And.intro h12 h32)))
  have HAT2 := hid hat2
  have hsz2 : w.heap.size + 1 ≤ w2.heap.size := by have := hgrow2.size; simpa using this
  clear hown2 hgrow2 h12 h32 h1a hat2
  go_wp2_with fail
  obtain ⟨W3, hW3⟩ : ∃ W3, W3 = (w2.setCell ⟨bt, 0, .none⟩ (.slice (some ⟨g2, 0, .none⟩) (es.length + 1) cap2)).alloc (.cells #[.iface T nv] 62) := ⟨_, rfl⟩
  rw [← hW3]
  obtain ⟨hown2, hgrow2, h12, h32⟩ := unhid HB2
  have hbl2 : bt < w2.heap.size := by omega
  have h13 : W3.heap[bt]? = some (.cells #[.slice (some ⟨g2, 0, .none⟩) (es.length + 1) cap2, vn] 58 (0, 0)) := by
    rw [hW3, Below.heap_alloc _ _ _ (by simp; omega), heap_setCell_same _ bt 0 _ _ _ h12]; rfl
  have hk3 : ∀ g, g < w2.heap.size → g ≠ bt → W3.heap[g]? = w2.heap[g]? := fun g hg hne => by
    rw [hW3, Below.heap_alloc _ _ _ (by simpa using hg), Below.heap_setCell _ _ _ _ hne]
  have h33 : W3.ownsRow N 62 1 vn es.length (es.map nodeV) := ownsRow_kept h32 (fun g hg => hk3 g (h32.lt g hg).2 (fun eq => (row_ne h32 h12 (by decide)) (by rw [hg, eq])))
  have hown3 : W3.ownsRow N 9 1 (.slice (some ⟨g2, 0, .none⟩) (es.length + 1) cap2) (es.length + 1) ((es.map fun e => .string e.path).take k ++ [.string e.path] ++ (es.map fun e => .string e.path).drop k) := ownsRow_kept hown2 (fun g hg => hk3 g (hown2.lt g hg).2 (fun eq => by cases hg; exact hg2w eq))
  have hs3 : W3.heap.size = w2.heap.size + 1 := by rw [hW3]; simp
  have hc3 : W3.heap[w2.heap.size]? = some (.cells #[.iface T nv] 62 (0, 0)) := by
    rw [hW3]; have := World.alloc_heap_new (w2.setCell ⟨bt, 0, .none⟩ (.slice (some ⟨g2, 0, .none⟩) (es.length + 1) cap2)) (.cells #[.iface T nv] 62); simpa using this
  refine (unhid HIN es.length k w2.heap.size vn _ W3 hkl (by omega) (by omega) h33 (fun eq => by have := (h32.lt _ eq).2; omega) hc3 (unhid HN1)).mono ?_
  rintro x w4 ⟨v4, rfl, hown4, hgrow4, hat4⟩
  obtain ⟨g4, cap4, rfl⟩ := ownsRow_succ hown4
  have h14 : w4.heap[bt]? = some (.cells #[.slice (some ⟨g2, 0, .none⟩) (es.length + 1) cap2, vn] 58 (0, 0)) := (hgrow4.block bt (by omega) (row_ne h33 h13 (by decide))).trans h13
  have hrow4 : w4.ownsRow N 9 1 (.slice (some ⟨g2, 0, .none⟩) (es.length + 1) cap2) (es.length + 1) ((es.map fun e => .string e.path).take k ++ [.string e.path] ++ (es.map fun e => .string e.path).drop k) := ownsRow_kept hown3 (fun g hg => hgrow4.block g (hown3.lt g hg).2 (by
    rcases hown3.2 with ⟨h, _⟩ | ⟨g', cap', cur', hv, _, hgc, _⟩
    · cases h
    · cases hv; cases hg; exact row_ne h33 hgc (by decide)))
  obtain ⟨c0, c1, f0, f1⟩ := two_cells h14
  have hg4w : g4 ≠ bt := fun eq => by
    rcases hown4.2 with ⟨h, _⟩ | ⟨g', cap', cur', hv, _, hgc, _⟩
    · cases h
    · cases hv; exact type_ne hgc h14 (by decide) eq
  have hF : RowsV (w4.setCell ⟨bt, 1, .none⟩ (.slice (some ⟨g4, 0, .none⟩) (es.length + 1) cap4)) N bt (.slice (some ⟨g2, 0, .none⟩) (es.length + 1) cap2) (.slice (some ⟨g4, 0, .none⟩) (es.length + 1) cap4) (es.take k ++ [e] ++ es.drop k) := by
    refine ⟨?_, ?_, ?_⟩
    · rw [heap_setCell_same _ bt 1 _ _ _ h14]; rfl
    · rw [show (es.take k ++ [e] ++ es.drop k).length = es.length + 1 by simp; omega, List.map_append, List.map_append, List.map_take, List.map_drop]
      exact ownsRow_kept hrow4 (fun g hg => Below.heap_setCell _ _ _ _ (fun eq => by cases hg; exact hg2w eq))
    · rw [show (es.take k ++ [e] ++ es.drop k).length = es.length + 1 by simp; omega, List.map_append, List.map_append, List.map_take, List.map_drop]
      rw [← unhid HV] at hown4
      exact ownsRow_kept hown4 (fun g hg => Below.heap_setCell _ _ _ _ (fun eq => by cases hg; exact hg4w eq))
  have hB : Below N w (w4.setCell ⟨bt, 1, .none⟩ (.slice (some ⟨g4, 0, .none⟩) (es.length + 1) cap4)) := by
    have b1 : Below N w (w.alloc (.cells #[.string e.path] 9)) := (Below.refl _ _).alloc (by omega) _
    have b2 : Below N w w2 := b1.grown hgrow2 (by simp; omega) (fun g hg => (((unhid H2).alloc (.cells #[.string e.path] 9)).lt g hg).1)
    have b3 : Below N w W3 := by rw [hW3]; exact (b2.setCell hN _).alloc (by simp; omega) _
    have b4 : Below N w w4 := b3.grown hgrow4 (by omega) (fun g hg => (h33.lt g hg).1)
    exact b4.setCell hN _
  have hO : ∀ k o, k ≠ bt → w.heap[k]? = some o → Apart o → (w4.setCell ⟨bt, 1, .none⟩ (.slice (some ⟨g4, 0, .none⟩) (es.length + 1) cap4)).heap[k]? = some o := by
    intro k o hk ho hap
    have hkl : k < w.heap.size := (Array.getElem?_eq_some_iff.1 ho).1
    have a1 : (w.alloc (.cells #[.string e.path] 9)).heap[k]? = some o := (Below.heap_alloc _ _ _ hkl).trans ho
    have a2 : w2.heap[k]? = some o := (hgrow2.block k (by simp; omega) (fun eq => by
      rcases ((unhid H2).alloc (.cells #[.string e.path] 9)).2 with ⟨h, _⟩ | ⟨g', cap', cur', hv, _, hgc, _⟩
      · rw [h] at eq; cases eq
      · rw [hv] at eq; cases eq; rw [a1] at hgc; cases hgc; exact (hap _ _ _ rfl).1 rfl)).trans a1
    have a3 : W3.heap[k]? = some o := (hk3 k (by omega) hk).trans a2
    have a4 : w4.heap[k]? = some o := (hgrow4.block k (by omega) (fun eq => by
      rcases h33.2 with ⟨h, _⟩ | ⟨g', cap', cur', hv, _, hgc, _⟩
      · rw [h] at eq; cases eq
      · rw [hv] at eq; cases eq; rw [a3] at hgc; cases hgc; exact (hap _ _ _ rfl).2 rfl)).trans a3
    exact (Below.heap_setCell _ _ _ _ hk).trans a4
  have hS : ∀ k, k < w.heap.size → k ≠ bt → (Value.slice a es.length cap).ownBlock ≠ some k → vn.ownBlock ≠ some k → (w4.setCell ⟨bt, 1, .none⟩ (.slice (some ⟨g4, 0, .none⟩) (es.length + 1) cap4)).heap[k]? = w.heap[k]? := by
    intro k hk hkb hkp hkn
    have a1 : (w.alloc (.cells #[.string e.path] 9)).heap[k]? = w.heap[k]? := Below.heap_alloc _ _ _ hk
    have a2 : w2.heap[k]? = w.heap[k]? := (hgrow2.block k (by simp; omega) (fun eq => hkp eq.symm)).trans a1
    have a3 : W3.heap[k]? = w.heap[k]? := (hk3 k (by omega) hkb).trans a2
    have a4 : w4.heap[k]? = w.heap[k]? := (hgrow4.block k (by omega) (fun eq => hkn eq.symm)).trans a3
    exact (Below.heap_setCell _ _ _ _ hkb).trans a4
  have hf2 : FreshV w (.slice a es.length cap) (.slice (some ⟨g2, 0, .none⟩) (es.length + 1) cap2) := fun k hk => by
    rcases unhid HAT2 with h | h
    · exact .inl (h ▸ hk)
    · rw [h] at hk; injection hk with hk; right; rw [World.size_alloc] at hk; omega
  have hf4 : FreshV w vn (.slice (some ⟨g4, 0, .none⟩) (es.length + 1) cap4) := fun k hk => by
    rcases hat4 with h | h
    · exact .inl (h ▸ hk)
    · rw [h] at hk; injection hk with hk; right; omega
  have HF := hid (show PutV w (w4.setCell ⟨bt, 1, .none⟩ (.slice (some ⟨g4, 0, .none⟩) (es.length + 1) cap4)) N bt (.slice a es.length cap) vn (es.take k ++ [e] ++ es.drop k) from ⟨⟨_, _, hF, hf2, hf4⟩, hB, hO, hS⟩)
  clear hF hB hO hS hf2 hf4 hat4 HAT2 hown4 hgrow4 h14 hrow4 h13 hk3 h33 hown3 hc3 hW3 hown2 hgrow2 h12 h32 HB2
  go_wp2_with fail
  go_end0
  exact ⟨⟨_, rfl⟩, unhid HF⟩

set_option maxRecDepth 100000 in
set_option maxHeartbeats 4000000 in
theorem mapPut_overV (N bt : Nat) (vp vn : Value) (es : List Ent) (e : Ent) (w : World) (hn : es.length ≤ 900) (ha : Asc (pathsOf es)) (ht0 : thereE es e.path = true) (h : RowsV w N bt vp vn es) :
    Calls Try.prog 57 #[.pointer (some ⟨bt, 0, .none⟩), .string e.path, nodeV e] w fun x w' => (∃ v, x = .returned v) ∧ PutV w w' N bt vp vn (es.set (placeE es e.path) e) := by
  obtain ⟨h1, h2, h3⟩ := h
  have hbl : bt < w.heap.size := (Array.getElem?_eq_some_iff.1 h1).1
  obtain ⟨a, cap, hva, hT⟩ := texts_of h2
  have hpn : (pathsOf es).length = es.length := by simp [pathsOf]
  have hl : (pathsOf es).length ≤ 1048576 := by omega
  have ht : thereP (pathsOf es) e.path = true := by rw [thereP_E, ht0]
  obtain ⟨old, hj, hpo⟩ := there_get ht0
  have hjl : placeE es e.path < es.length := (List.getElem?_eq_some_iff.1 hj).1
  have hS := BinarySearch_any (pathsOf es) a cap e.path w hl ha hT
  rw [placeP_E, ht, hpn] at hS
  rw [hpn] at hva
  subst hva
  obtain ⟨T, nv, hV⟩ := nodeV_shape e
  have hse : (es.set (placeE es e.path) e).map nodeV = (es.map nodeV).set (placeE es e.path) (nodeV e) := by rw [List.map_set]
  have hsp : (es.set (placeE es e.path) e).map (fun e => Value.string e.path) = es.map (fun e => .string e.path) := by
    rw [List.map_set]
    apply List.ext_getElem?
    intro i
    rw [List.getElem?_set]
    split
    · rename_i hi
      subst hi
      rw [if_pos (by simpa using hjl), List.getElem?_map, hj, Option.map_some, hpo]
    · rfl
  obtain ⟨g, cap2, cur, rfl, hgN, hg, hszc⟩ : ∃ g cap2 cur, vn = .slice (some ⟨g, 0, .none⟩) es.length cap2 ∧ N ≤ g ∧ w.heap[g]? = some (.cells cur 62 (0, 0)) ∧ placeE es e.path < cur.size ∧ es.length ≤ cap2 := by
    rcases h3.2 with ⟨rfl, h0⟩ | ⟨g, cap, cur, rfl, hN', hg, hc, _, hsz, hcells⟩
    · omega
    · exact ⟨g, cap, cur, rfl, hN', hg, by omega, hc⟩
  have hFT : RowsV (w.setCell ⟨g, placeE es e.path, .none⟩ (nodeV e)) N bt (.slice a es.length cap) (.slice (some ⟨g, 0, .none⟩) es.length cap2) (es.set (placeE es e.path) e) := by
    refine ⟨?_, ?_, ?_⟩
    · rw [Below.heap_setCell _ _ _ _ (type_ne hg h1 (by decide)).symm]; exact h1
    · rw [List.length_set, hsp]
      refine ownsRow_kept h2 (fun g' eg => Below.heap_setCell _ _ _ _ (fun eq => ?_))
      obtain ⟨cur', hc'⟩ := (show ∃ cur', w.heap[g']? = some (.cells cur' 9 (0, 0)) by
        rcases h2.2 with ⟨hh, _⟩ | ⟨g'', cap'', cur'', hv, _, hh, _⟩
        · rw [hh] at eg; cases eg
        · rw [hv] at eg; cases eg; exact ⟨_, hh⟩)
      exact type_ne hg hc' (by decide) eq.symm
    · rw [List.length_set, hse]
      exact ownsRow_set h3 hjl rfl
  have hFB : Below N w (w.setCell ⟨g, placeE es e.path, .none⟩ (nodeV e)) := (Below.refl _ _).setCell hgN _
  have hFO : ∀ k o, k ≠ bt → w.heap[k]? = some o → Apart o → (w.setCell ⟨g, placeE es e.path, .none⟩ (nodeV e)).heap[k]? = some o := fun k o _ ho hap =>
    (Below.heap_setCell _ _ _ _ (fun eq => by
      have eq' : k = g := eq
      subst eq'
      rw [ho] at hg; cases hg; exact (hap _ _ _ rfl).2 rfl)).trans ho
  have HF := hid (show PutV w (w.setCell ⟨g, placeE es e.path, .none⟩ (nodeV e)) N bt (.slice a es.length cap) (.slice (some ⟨g, 0, .none⟩) es.length cap2) (es.set (placeE es e.path) e) from ⟨⟨_, _, hFT, fun k hk => .inl hk, fun k hk => .inl hk⟩, hFB, hFO, fun k _ _ _ hkn => Below.heap_setCell _ _ _ _ (fun eq => hkn (by have eq' : k = g := eq; rw [eq']; rfl))⟩)
  clear hFT hFB hFO hse hsp
  rw [hV] at HF ⊢
  obtain ⟨hsz1, hle⟩ := hszc
  have n0 : ∃ u, w.cell? ⟨g, placeE es e.path, .none⟩ = some u := ⟨cur[placeE es e.path], by simp [World.cell?, hg, hsz1]⟩
  obtain ⟨u, n0⟩ := n0
  have m0 : w.frozen? ⟨g, placeE es e.path, .none⟩ = false := by simp [World.frozen?, hg]
  have HS := hid hS
  obtain ⟨c0, c1, f0, f1⟩ := two_cells h1
  clear hT ha hl ht h1 h2 h3 hpn hj hS hV hg ht0 hpo hsz1
  generalize placeE es e.path = j at HS HF hjl n0 m0 ⊢
  go_enter Try.func57, Try.ntmps57
  go_wp2_with fail
  refine (unhid HS).mono ?_
  rintro x w1 ⟨rfl, hw1⟩
  rw [hw1]
  clear hw1
  go_wp2_with fail
  first | go_end0 | refine bodyPost_ret (results_none rfl _ _ _) rfl ?_
  exact ⟨⟨_, rfl⟩, unhid HF⟩

theorem mapPut_V (N bt : Nat) (vp vn : Value) (es : List Ent) (e : Ent) (w : World) (hn : es.length ≤ 900) (ha : Asc (pathsOf es)) (hN : N ≤ bt) (h : RowsV w N bt vp vn es) :
    Calls Try.prog 57 #[.pointer (some ⟨bt, 0, .none⟩), .string e.path, nodeV e] w fun x w' => (∃ v, x = .returned v) ∧ PutV w w' N bt vp vn (putT es e) := by
  cases ht : thereE es e.path
  · have : putT es e = insAt es e := by unfold putT; rw [ht]; rfl
    rw [this]
    exact mapPut_insV N bt vp vn es e w hn ha hN ht h
  · have : putT es e = es.set (placeE es e.path) e := by unfold putT; rw [ht]; rfl
    rw [this]
    exact mapPut_overV N bt vp vn es e w hn ha ht h
end Go.Proofs.Ytaefjibnnbdaaaa

/- Whether two things are one dir, by the program. -/
namespace Go.Proofs.Ytaefjibnnbdaaaa
open Go.RowKit Go.Shelf

theorem in_int (d : Nat) (a b : Int) (w : World) : (Op.equalIn (d + 1) 3 (.int .i64 a) (.int .i64 b)).run Try.prog w = .ok (a == b) w := by
  simp [Op.equalIn, run_underlying Try.underlying3]
theorem in_dir (d : Nat) (a b : Int) (w : World) : (Op.equalIn (d + 1 + 1) 110 (.agg #[.int .i64 a]) (.agg #[.int .i64 b])).run Try.prog w = .ok (a == b) w := by
  have h0 : (program).run Try.prog w = .ok Try.prog w := by kernel_rfl
  have h1 : Try.prog.stoodInHeld 110 = false := by kernel_rfl
  have h2 : ∀ a, (part 3 #[.int .i64 a] 0).run Try.prog w = .ok (.int .i64 a) w := fun a => by kernel_rfl
  unfold Op.equalIn
  simp only [Sem.run_bind, run_underlying Try.underlying110, Result.andThen_ok, h0, h1, Bool.false_eq_true, if_false, List.forIn_toArray, List.forIn_cons, List.forIn_nil]
  rw [if_pos (by decide)]
  simp only [Sem.run_bind, h2, in_int, Result.andThen_ok]
  cases (a == b) <;> simp [Sem.run_pure]
theorem eq_dirs (a b : Int) (w : World) : (binOp .eql 62 (.iface 110 (.agg #[.int .i64 a])) (.iface 110 (.agg #[.int .i64 b]))).run Try.prog w = .ok (.bool (a == b)) w := by
  have hc : (Try.prog.info? 110).map (·.comparable) = some true := by kernel_rfl
  cases hi : Try.prog.info? 110 with
  | none => simp [hi] at hc
  | some i =>
    have hcc : i.comparable = true := by simpa [hi] using hc
    have h : ∀ d : Nat, (Op.equalIn (d + 1 + 1 + 1) 62 (.iface 110 (.agg #[.int .i64 a])) (.iface 110 (.agg #[.int .i64 b]))).run Try.prog w = .ok (a == b) w := fun d => by
      have := in_dir d a b w
      unfold Op.equalIn
      simp only [Sem.run_bind, run_underlying Try.underlying62, Result.andThen_ok]
      simp [typeInfo, hi, hcc, this]
    simp only [binOp]
    simp [Op.equal, Op.maxDepth, h 9997]
theorem eq_dirf (a b : Int) (s : ByteArray) (w : World) : (binOp .eql 62 (.iface 110 (.agg #[.int .i64 a])) (.iface 112 (.agg #[.int .i64 b, .string s]))).run Try.prog w = .ok (.bool false) w := by kernel_rfl
theorem eq_dirl (a : Int) (s : ByteArray) (w : World) : (binOp .eql 62 (.iface 110 (.agg #[.int .i64 a])) (.iface 107 (.agg #[.string s]))).run Try.prog w = .ok (.bool false) w := by kernel_rfl

def sameB (x y : Ent) : Bool := x.kind == 1 && (y.kind == 1 && x.mode == y.mode)

set_option maxRecDepth 100000 in
set_option maxHeartbeats 2000000 in
theorem sameDir_any (x y : Ent) (w : World) :
    Calls Try.prog 72 #[nodeV x, nodeV y] w fun r w' => r = .returned (.bool (sameB x y)) ∧ Below w.heap.size w w' := by
  have DIR := hid (isDir_node x w)
  cases hk : (x.kind == 1)
  · obtain ⟨T0, nv, hnv⟩ := nodeV_shape x
    obtain ⟨T1, nv1, hnv1⟩ := nodeV_shape y
    rw [hnv] at DIR ⊢
    rw [hnv1]
    have E := hid (show sameB x y = false by unfold sameB; rw [hk]; rfl)
    go_enter Try.func72, Try.ntmps72
    go_wp2_with fail
    refine (unhid DIR).mono ?_
    rintro r w1 ⟨rfl, hB⟩
    rw [hk]
    have HB := hid hB
    clear hB
    go_wp2_with fail
    go_ret
    exact ⟨by rw [unhid E]; rfl, unhid HB⟩
  · have hk1 : x.kind = 1 := by simpa using hk
    have hnv : nodeV x = .iface 110 (.agg #[.int .i64 x.mode]) := by unfold nodeV; rw [if_pos hk1]
    rw [hnv] at DIR ⊢
    by_cases hy1 : y.kind = 1
    · have hnv1 : nodeV y = .iface 110 (.agg #[.int .i64 y.mode]) := by unfold nodeV; rw [if_pos hy1]
      rw [hnv1]
      go_enter Try.func72, Try.ntmps72
      go_wp2_with fail
      refine (unhid DIR).mono ?_
      rintro r w1 ⟨rfl, hB⟩
      rw [hk]
      have HB := hid hB
      clear hB
      have E := hid (show sameB x y = (x.mode == y.mode) by unfold sameB; rw [hk, hy1]; rfl)
      have heq := eq_dirs x.mode y.mode w1
      clear hnv hnv1
      go_wp2_with fail
      go_ret
      exact ⟨by rw [unhid E]; rfl, unhid HB⟩
    · have E := hid (show sameB x y = false by unfold sameB; simp [hy1])
      by_cases hy2 : y.kind = 2
      · have hnv1 : nodeV y = .iface 112 (.agg #[.int .i64 y.mode, .string y.text]) := by unfold nodeV; rw [if_neg hy1, if_pos hy2]
        rw [hnv1]
        go_enter Try.func72, Try.ntmps72
        go_wp2_with fail
        refine (unhid DIR).mono ?_
        rintro r w1 ⟨rfl, hB⟩
        rw [hk]
        have HB := hid hB
        have heq := eq_dirf x.mode y.mode y.text w1
        clear hB hnv hnv1
        go_wp2_with fail
        go_ret
        exact ⟨by rw [unhid E]; rfl, unhid HB⟩
      · have hnv1 : nodeV y = .iface 107 (.agg #[.string y.text]) := by unfold nodeV; rw [if_neg hy1, if_neg hy2]
        rw [hnv1]
        go_enter Try.func72, Try.ntmps72
        go_wp2_with fail
        refine (unhid DIR).mono ?_
        rintro r w1 ⟨rfl, hB⟩
        rw [hk]
        have HB := hid hB
        have heq := eq_dirl x.mode y.text w1
        clear hB hnv hnv1
        go_wp2_with fail
        go_ret
        exact ⟨by rw [unhid E]; rfl, unhid HB⟩
end Go.Proofs.Ytaefjibnnbdaaaa

/- Two trees in one, by the program. -/
namespace Go.Proofs.Ytaefjibnnbdaaaa
open Go.RowKit Go.Shelf

attribute [local go_sem] Oper.semAt_some

def joinTo (L : List Ent) (xs : List Ent) : List Ent := xs.foldl putT L
def stepJ (L : List Ent) (x : Ent) : Bool := !(thereE L x.path) || sameB (entFn L (placeE L x.path)) x
def okJ : List Ent → List Ent → Bool
  | _, [] => true
  | L, x :: xs => stepJ L x && okJ (putT L x) xs
theorem joinTo_snoc (L xs : List Ent) (x : Ent) : joinTo L (xs ++ [x]) = putT (joinTo L xs) x := by unfold joinTo; rw [List.foldl_append]; rfl
theorem okJ_app : ∀ (L xs ys : List Ent), okJ L (xs ++ ys) = (okJ L xs && okJ (joinTo L xs) ys)
  | L, [], ys => by simp [okJ, joinTo]
  | L, x :: xs, ys => by rw [List.cons_append, okJ, okJ, okJ_app (putT L x) xs ys, Bool.and_assoc]; rfl
theorem okJ_snoc (L xs : List Ent) (x : Ent) : okJ L (xs ++ [x]) = (okJ L xs && stepJ (joinTo L xs) x) := by rw [okJ_app]; simp [okJ]
theorem okJ_prefix {L xs ys : List Ent} (h : xs <+: ys) (hno : okJ L xs = false) : okJ L ys = false := by
  obtain ⟨zs, rfl⟩ := h
  rw [okJ_app, hno]; rfl
theorem joinTo_up {L : List Ent} (h : Up L) : ∀ xs, Up (joinTo L xs) := snoc_ind h (fun xs x ih => by rw [joinTo_snoc]; exact putT_up ih)
theorem joinTo_len (L : List Ent) : ∀ xs, (joinTo L xs).length ≤ L.length + xs.length := snoc_ind (Nat.le_refl _) (fun xs x ih => by
  rw [joinTo_snoc]
  have := putT_len (joinTo L xs) x
  simp; omega)
theorem joinTo_mem (L : List Ent) : ∀ xs x, x ∈ joinTo L xs → x ∈ L ∨ x ∈ xs := snoc_ind (fun x h => .inl h) (fun xs x ih y hy => by
  rw [joinTo_snoc] at hy
  rcases putT_mem hy with h | h
  · rcases ih y h with h | h
    · exact .inl h
    · exact .inr (List.mem_append_left _ h)
  · subst h; exact .inr (by simp))
def joinOk (es fs : List Ent) : Bool := treeB es && (treeB fs && (okJ es fs && treeB (joinTo es fs)))
def joinR (es fs : List Ent) : List Ent := if joinOk es fs then joinTo es fs else []
theorem ent_text_len {e : Ent} (h : entB e = true) : e.text.size ≤ 80 := by
  unfold entB at h
  simp only [Bool.and_eq_true] at h
  have h2 := h.2
  split at h2
  · simp only [Bool.and_eq_true] at h2
    rw [Lib.size_eq]
    have := h2.2
    simp at this
    rw [this]; simp
  · split at h2
    · simp only [Bool.and_eq_true, textB, decide_eq_true_eq] at h2
      rw [Lib.size_eq]; exact h2.2.1
    · simp only [Bool.and_eq_true] at h2
      have := pathB_size _ h2.2.2
      rw [Lib.size_eq]; omega
theorem small_all {es : List Ent} (hl : es.length ≤ 1000) (h : ∀ e ∈ es, entB e = true) : smallE es :=
  ⟨by omega, fun e he => ⟨by have := ent_path_len (h e he); omega, by have := ent_text_len (h e he); omega⟩⟩

/-- A row that does not lie between two bounds. -/
def AwayV (M M2 : Nat) (v : Value) : Prop := ∀ k, v.ownBlock = some k → k < M ∨ M2 ≤ k
/-- The boxes of what a join answers. -/
def BxJ (W : World) (N : Nat) : Prop := W.heap[N]? = some (.cells #[.slice none 0 0] 23 (0, 0)) ∧ W.heap[N + 1]? = some (.cells #[.bool false] 4 (0, 0))
theorem BxJ.keep {W W' : World} {N : Nat} (h : BxJ W N) (hk : ∀ k, k < N + 2 → W'.heap[k]? = W.heap[k]?) : BxJ W' N := ⟨(hk _ (by omega)).trans h.1, (hk _ (by omega)).trans h.2⟩
theorem BxJ.grown {W W' : World} {row : Option Nat} {N : Nat} (h : BxJ W N) (hg : W.grownBy W' row) (hr : ∀ r, row = some r → ∃ o : Obj, W.heap[r]? = some o ∧ o.isCells = false) : BxJ W' N := ⟨cells_grown hg hr h.1, cells_grown hg hr h.2⟩
theorem RowsV.below {W W' : World} {N bt : Nat} {vp vn : Value} {es : List Ent} (h : RowsV W N bt vp vn es) (hb : Below W.heap.size W W') : RowsV W' N bt vp vn es :=
  ⟨(hb.block bt (Array.getElem?_eq_some_iff.1 h.1).1).trans h.1, ownsRow_kept h.2.1 (fun g e => hb.block g (h.2.1.lt g e).2), ownsRow_kept h.2.2 (fun g e => hb.block g (h.2.2.lt g e).2)⟩
theorem RowsV.grown {W W' : World} {row : Option Nat} {N bt : Nat} {vp vn : Value} {es : List Ent} (h : RowsV W N bt vp vn es) (hg : W.grownBy W' row) (hr : ∀ r, row = some r → ∃ o : Obj, W.heap[r]? = some o ∧ o.isCells = false) : RowsV W' N bt vp vn es :=
  ⟨cells_grown hg hr h.1, row_grown hg hr h.2.1, row_grown hg hr h.2.2⟩
theorem RowsV.at {W : World} {N bt : Nat} {vp vn : Value} {es : List Ent} (h : RowsV W N bt vp vn es) : TreeAt W N bt es := ⟨vp, vn, h.1, h.2.1, h.2.2⟩

set_option maxRecDepth 100000 in
set_option maxHeartbeats 8000000 in
theorem treeJoin_any (es fs : List Ent) (a b : Option Addr) (cap cap2 : Nat) (w : World) (hs : smallE es) (hs2 : smallE fs) (h : EntsAt w a es) (h2 : EntsAt w b fs) :
    Calls Try.prog 33 #[.slice a es.length cap, .slice b fs.length cap2] w fun x w' => ∃ v, x = .returned (.tuple #[v, .bool (joinOk es fs)]) ∧ w'.ownsRow w.heap.size 27 4 v (joinR es fs).length (valsOf (joinR es fs)) ∧ Below w.heap.size w w' := by
  obtain ⟨wA, hwA⟩ : ∃ wA, wA = (w.alloc (.cells #[.slice none 0 0] 23)).alloc (.cells #[.bool false] 4) := ⟨_, rfl⟩
  have hsz : wA.heap.size = w.heap.size + 2 := by rw [hwA]; simp
  have hBA : Below w.heap.size w wA := by rw [hwA]; exact ((Below.refl _ w).alloc (Nat.le_refl _) _).alloc (by simp) _
  have hbox : BxJ wA w.heap.size := by
    rw [hwA]
    refine ⟨(Below.heap_alloc _ _ _ (by simp)).trans (World.alloc_heap_new w _), ?_⟩
    have := World.alloc_heap_new (w.alloc (.cells #[.slice none 0 0] 23)) (.cells #[.bool false] 4)
    rw [World.size_alloc] at this
    exact this
  have H := hid (treeOf_any es a cap wA hs (h.below hBA))
  have HA := hid (And.intro hsz (And.intro hBA hbox))
  have HWA := hid hwA
  have HE2 := hid (And.intro hs2 h2)
  clear hs h hwA hsz hBA hbox hs2 h2
  refine (callsIn_wide (n := 3)).1 ?_
  refine callsIn_of_wp_marks Try.func33 rfl trivial ?_ rfl
  simp only [Try.ntmps33, List.size_toArray, List.length_cons, List.length_nil, Nat.reduceAdd, Nat.reduceSub, Array.replicate_succ, Array.replicate_zero, List.push_toArray, List.append_toArray, List.nil_append, List.cons_append]
  gi_wp2
  rw [← unhid HWA]
  refine ⟨trivial, (callsIn_wide.2 (unhid H)).mono ?_⟩
  rintro x w1 ⟨vp, vn, rfl, ⟨t2, t3⟩, hB⟩
  obtain ⟨ap, cp, rfl⟩ := ownsRow_slice t2
  obtain ⟨an, cn, rfl⟩ := ownsRow_slice t3
  obtain ⟨hsz, hBA, hbox⟩ := unhid HA
  obtain ⟨wt, hwt⟩ : ∃ wt, wt = w1.alloc (.cells #[.slice ap (keptE es).length cp, .slice an (keptE es).length cn] 58) := ⟨_, rfl⟩
  have hB1 : Below w.heap.size w w1 := hBA.trans (hB.mono (by omega))
  have hBt : Below w1.heap.size w1 wt := by rw [hwt]; exact (Below.refl _ w1).alloc (Nat.le_refl _) _
  have hBT : Below w.heap.size w wt := hB1.trans (hBt.mono hB1.size)
  have hT : RowsV wt wA.heap.size w1.heap.size (.slice ap (keptE es).length cp) (.slice an (keptE es).length cn) (keptE es) := ⟨by rw [hwt]; exact World.alloc_heap_new _ _, ownsRow_kept t2 (fun g e => hBt.block g (t2.lt g e).2), ownsRow_kept t3 (fun g e => hBt.block g (t3.lt g e).2)⟩
  have hw1 : wA.heap.size ≤ w1.heap.size := hB.size
  have hzt : wt.heap.size = w1.heap.size + 1 := by rw [hwt]; simp
  have hbt : BxJ wt w.heap.size := hbox.keep (fun k hk => (hBt.block _ (by omega)).trans (hB.block _ (by omega)))
  have H2 := hid (treeOf_any fs b cap2 wt (unhid HE2).1 ((unhid HE2).2.below hBT))
  have HT := hid (And.intro hBT (And.intro hbt hT))
  have HWT := hid hwt
  clear hT hBT hBt hB1 hB t2 t3 hbox hBA HA HWA H hbt hwt HE2
  gi_wp2
  rw [← unhid HWT]
  refine ⟨trivial, (callsIn_wide.2 (unhid H2)).mono ?_⟩
  rintro x w2 ⟨vp2, vn2, rfl, ⟨t2, t3⟩, hB⟩
  obtain ⟨ap2, cp2, rfl⟩ := ownsRow_slice t2
  obtain ⟨an2, cn2, rfl⟩ := ownsRow_slice t3
  obtain ⟨wu, hwu⟩ : ∃ wu, wu = w2.alloc (.cells #[.slice ap2 (keptE fs).length cp2, .slice an2 (keptE fs).length cn2] 58) := ⟨_, rfl⟩
  have hBt : Below w2.heap.size w2 wu := by rw [hwu]; exact (Below.refl _ w2).alloc (Nat.le_refl _) _
  have hBu : Below wt.heap.size wt wu := hB.trans (hBt.mono hB.size)
  have hzu : wu.heap.size = w2.heap.size + 1 := by rw [hwu]; simp
  have hw2 : wt.heap.size ≤ w2.heap.size := hB.size
  have HU := hid (show Below w.heap.size w wu ∧ BxJ wu w.heap.size ∧ RowsV wu wA.heap.size w1.heap.size (.slice ap (keptE es).length cp) (.slice an (keptE es).length cn) (keptE es) ∧ RowsV wu wt.heap.size w2.heap.size (.slice ap2 (keptE fs).length cp2) (.slice an2 (keptE fs).length cn2) (keptE fs) from
    ⟨(unhid HT).1.trans (hBu.mono (by omega)), (unhid HT).2.1.keep (fun k hk => hBu.block k (by omega)), (unhid HT).2.2.below hBu, by rw [hwu]; exact World.alloc_heap_new _ _, ownsRow_kept t2 (fun g e => hBt.block g (t2.lt g e).2), ownsRow_kept t3 (fun g e => hBt.block g (t3.lt g e).2)⟩)
  have HR1 := hid (show (∀ g, (Value.slice ap (keptE es).length cp).ownBlock = some g → g < wt.heap.size) ∧ (∀ g, (Value.slice an (keptE es).length cn).ownBlock = some g → g < wt.heap.size) from ⟨fun g e => ((unhid HT).2.2.2.1.lt g e).2, fun g e => ((unhid HT).2.2.2.2.lt g e).2⟩)
  have HWU := hid hwu
  clear hBt hBu t2 t3 hB H2 HT HWT hwu
  cases htb : treeB es
  · have E := hid (show joinOk es fs = false ∧ joinR es fs = [] by unfold joinR joinOk; rw [htb]; exact ⟨rfl, rfl⟩)
    obtain ⟨hBw, hbx, -, -⟩ := unhid HU
    obtain ⟨k2, f2⟩ := cell_of_box_l hbx.1
    obtain ⟨k3, f3⟩ := cell_of_box_l hbx.2
    rw [unhid HWU] at k2 f2 k3 f3
    have HF := hid hBw
    clear hBw hbx
    gi_wp2
    rw [← unhid HWU]
    rw [unhid HWU] at HF
    refine ⟨.tuple #[.slice none 0 0, .bool false], ?_, _, by rw [(unhid E).1], by rw [(unhid E).2]; exact World.ownsRow_nil _ _ _ _, ?_⟩
    · rw [unhid HWU]; simp [results, Try.f33, go_sem, World.cell?_setCell_same', k2, k3]
    · rw [unhid HWU]; exact ((unhid HF).setCell (p := ⟨w.heap.size, 0, none⟩) (Nat.le_refl _) _).setCell (p := ⟨w.heap.size + 1, 0, none⟩) (show w.heap.size ≤ w.heap.size + 1 by omega) _

  cases htb2 : treeB fs
  · have E := hid (show joinOk es fs = false ∧ joinR es fs = [] by unfold joinR joinOk; rw [htb, htb2]; exact ⟨rfl, rfl⟩)
    obtain ⟨hBw, hbx, -, -⟩ := unhid HU
    obtain ⟨k2, f2⟩ := cell_of_box_l hbx.1
    obtain ⟨k3, f3⟩ := cell_of_box_l hbx.2
    rw [unhid HWU] at k2 f2 k3 f3
    have HF := hid hBw
    clear hBw hbx
    gi_wp2
    rw [← unhid HWU]
    rw [unhid HWU] at HF
    refine ⟨.tuple #[.slice none 0 0, .bool false], ?_, _, by rw [(unhid E).1], by rw [(unhid E).2]; exact World.ownsRow_nil _ _ _ _, ?_⟩
    · rw [unhid HWU]; simp [results, Try.f33, go_sem, World.cell?_setCell_same', k2, k3]
    · rw [unhid HWU]; exact ((unhid HF).setCell (p := ⟨w.heap.size, 0, none⟩) (Nat.le_refl _) _).setCell (p := ⟨w.heap.size + 1, 0, none⟩) (show w.heap.size ≤ w.heap.size + 1 by omega) _

  rw [keptE_yes htb] at HU HR1 ⊢
  rw [keptE_yes htb2] at HU HWU ⊢
  obtain ⟨hBu, hbu, hr1, hr2⟩ := unhid HU
  have hwl : w2.heap.size < wu.heap.size := by omega
  obtain ⟨w4, hw4⟩ : ∃ w4, w4 = wu.alloc (.cells #[.pointer (some ⟨w2.heap.size, 0, none⟩)] 104) := ⟨_, rfl⟩
  have hz4 : w4.heap.size = wu.heap.size + 1 := by rw [hw4]; simp
  have hB4 : Below wu.heap.size wu w4 := by rw [hw4]; exact (Below.refl _ wu).alloc (Nat.le_refl _) _
  have HAL := hid (all_in Fence.wide 2 trivial rfl w2.heap.size wu)
  rw [← hw4] at HAL
  have HR2 := hid (show (∀ g, (Value.slice ap2 fs.length cp2).ownBlock = some g → wt.heap.size ≤ g ∧ g < w4.heap.size) ∧ (∀ g, (Value.slice an2 fs.length cn2).ownBlock = some g → wt.heap.size ≤ g ∧ g < w4.heap.size) from ⟨fun g e => ⟨(hr2.2.1.lt g e).1, by have := (hr2.2.1.lt g e).2; omega⟩, fun g e => ⟨(hr2.2.2.lt g e).1, by have := (hr2.2.2.lt g e).2; omega⟩⟩)
  have hTI : TreeIn wu.heap.size w2.heap.size wt.heap.size (.slice ap2 fs.length cp2) (.slice an2 fs.length cn2) fs w4 := ⟨by have := (cell_new_l wu (.pointer (some ⟨w2.heap.size, 0, none⟩)) 104).1; rw [hw4]; exact this, (hr2.below hB4).1, (hr2.below hB4).2⟩
  have hBt0 : (∃ vp vn, RowsV w4 wA.heap.size w1.heap.size vp vn (joinTo es ([])) ∧ AwayV wt.heap.size w4.heap.size vp ∧ AwayV wt.heap.size w4.heap.size vn) := ⟨_, _, hr1.below hB4, fun k hk => .inl ((unhid HR1).1 k hk), fun k hk => .inl ((unhid HR1).2 k hk)⟩
  have hbx4 : BxJ w4 w.heap.size := hbu.keep (fun k hk => hB4.block k (by omega))
  have hBw : Below w.heap.size w w4 := hBu.trans (hB4.mono (by omega))
  have hl1 := tree_16 htb
  have hl2 := tree_16 htb2
  have hup := asc_up (tree_asc htb)
  have hkb := tree_all htb2
  have zu1 := Nat.le_of_eq hzu
  have zu2 := Nat.le_of_eq hzu.symm
  have z41 := Nat.le_of_eq hz4
  have z42 := Nat.le_of_eq hz4.symm
  have zt1 := Nat.le_of_eq hzt
  have zt2 := Nat.le_of_eq hzt.symm
  have za1 := Nat.le_of_eq hsz
  have za2 := Nat.le_of_eq hsz.symm
  clear hw4 hr1 hr2 hbu hBu HR1 hB4 hzu hz4 hzt hsz
  gi_wp2
  rw [← unhid HWU]
  refine ⟨trivial, (unhid HAL).mono ?_⟩
  rintro x w5 ⟨rfl, e5⟩
  rw [e5]
  clear e5
  gi_wp2
  refine wpIn_rangeFunc_ownF rfl (by omega) (gf := 87) (lb := #[.pointer (some ⟨wu.heap.size, 0, none⟩)]) rfl trivial (enters_of Try.func87 (by kernel_rfl) rfl)
    (all_stops Fence.wide _ trivial rfl (by omega) wu.heap.size w2.heap.size wt.heap.size _ _ fs (by omega) (fun e => entB e = true) hkb _ hTI) (fun h g x => g (h x)) (fun W l o o' _ hl hc _ h => treeIn_grown h (grownBy_putObj' _ l o') (fun r e => by cases e; exact ⟨_, hl, hc⟩)) (Below.refl _ _) (fun _ => rfl)
    (fun pre W => ((∃ vp vn, RowsV W wA.heap.size w1.heap.size vp vn (joinTo es (pre.map (·.1))) ∧ AwayV wt.heap.size w4.heap.size vp ∧ AwayV wt.heap.size w4.heap.size vn) ∧ TreeIn wu.heap.size w2.heap.size wt.heap.size (.slice ap2 fs.length cp2) (.slice an2 fs.length cn2) fs W ∧ BxJ W w.heap.size ∧ Hid (okJ es (pre.map (·.1)) = true)) ∧ Below w.heap.size w W ∧ w4.heap.size ≤ W.heap.size)
    (fun c pre W => (c = .ret ∧ okJ es (pre.map (·.1)) = false ∧ BxJ W w.heap.size) ∧ Below w.heap.size w W)
    (fun s A B row hs hg hr => ⟨⟨by obtain ⟨vp, vn, q1, q2, q3⟩ := hs.1.1; exact ⟨vp, vn, q1.grown hg (fun r e => (hr r e).2), q2, q3⟩, treeIn_grown hs.1.2.1 hg (fun r e => (hr r e).2), hs.1.2.2.1.grown hg (fun r e => (hr r e).2), hs.1.2.2.2⟩, ownFrom_below (Nat.le_refl _) (by omega) s A B row hs.2.1 hg hr, Nat.le_trans hs.2.2 hg.size⟩)
    (fun c s A B row hs hg hr => ⟨⟨hs.1.1, hs.1.2.1, hs.1.2.2.grown hg (fun r e => (hr r e).2)⟩, ownFrom_below (Nat.le_refl _) (by omega) s A B row hs.2 hg hr⟩)
    ⟨⟨hBt0, hTI, hbx4, hid rfl⟩, hBw, Nat.le_refl _⟩
    (fun x => { tmps := #[.slice a es.length cap, .slice b fs.length cap2, undef, undef, .pointer (some ⟨w.heap.size, 0, none⟩), .pointer (some ⟨w.heap.size + 1, 0, none⟩), .pointer (some ⟨w1.heap.size, 0, none⟩), .bool true, .pointer (some ⟨w2.heap.size, 0, none⟩), .bool true, .string x.1.path, nodeV x.1, undef, undef, undef, .tuple #[.agg #[.slice ap es.length cp, .slice an es.length cn], .bool true], .slice a es.length cap, .tuple #[.agg #[.slice ap es.length cp, .slice an es.length cn], .bool true], .agg #[.slice ap es.length cp, .slice an es.length cn], .bool true, .tuple #[.agg #[.slice ap2 fs.length cp2, .slice an2 fs.length cn2], .bool true], .slice b fs.length cap2, .tuple #[.agg #[.slice ap2 fs.length cp2, .slice an2 fs.length cn2], .bool true], .agg #[.slice ap2 fs.length cp2, .slice an2 fs.length cn2], .bool true, .bool true, .bool false, .bool false, .bool true, .bool false, .bool false, .pointer (some ⟨w2.heap.size, 0, none⟩), .func (.func 87) #[] #[.pointer (some ⟨wu.heap.size, 0, none⟩)], .string x.1.path, nodeV x.1, undef, undef, undef, undef, undef, undef, undef, undef, undef, undef, undef, undef, undef, undef, undef, undef, undef, undef, undef, undef, undef, undef], defers := [] }) ?assign ?body ?done ?stop
  case assign =>
    intro l x W K hK
    gi_wp2
    exact hK
  case body =>
    rintro l pre ⟨e, hx⟩ W ⟨⟨⟨vp, vn, hrv, hav, han⟩, hTI2, hbW, hok⟩, hB, hW4⟩ hpl
    dsimp only
    obtain ⟨T0, nv, hnv⟩ := nodeV_shape e
    have hjl : (joinTo es (pre.map (·.1))).length ≤ 100 := by have := joinTo_len es (pre.map (·.1)); rw [List.length_map] at this; omega
    have hasc := up_asc (joinTo_up hup (pre.map (·.1)))
    have GET := hid (mapGet_any wA.heap.size w1.heap.size (joinTo es (pre.map (·.1))) e.path W (by omega) hasc hrv.at)
    cases hth : thereE (joinTo es (pre.map (·.1))) e.path
    · have hst : stepJ (joinTo es (pre.map (·.1))) e = true := by unfold stepJ; rw [hth]; rfl
      have hgv : getV (joinTo es (pre.map (·.1))) e.path = .nilIface := by unfold getV; rw [hth]; rfl
      rw [hgv, hth] at GET
      have HI0 := hid (And.intro hrv (And.intro hav (And.intro han (And.intro hTI2 (And.intro hbW hB)))))
      clear hrv hav han hTI2 hbW hB hgv
      gi_wp2
      refine ⟨trivial, (CallsIn.inRound l (callsIn_wide.2 (unhid GET))).mono ?_⟩
      rintro x W2 ⟨rfl, e2⟩
      subst e2
      obtain ⟨hrv, hav, han, hTI2, hbW, hB⟩ := unhid HI0
      have hmk : joinTo es ((pre ++ [(⟨e, hx⟩ : { e : Ent // entB e = true })]).map (·.1)) = putT (joinTo es (pre.map (·.1))) e := by rw [List.map_append]; exact joinTo_snoc _ _ _
      have hokn : okJ es ((pre ++ [(⟨e, hx⟩ : { e : Ent // entB e = true })]).map (·.1)) = true := by rw [List.map_append]; exact (okJ_snoc es (pre.map (·.1)) e).trans (by rw [unhid hok, hst])
      have hput := mapPut_V wA.heap.size w1.heap.size vp vn (joinTo es (pre.map (·.1))) e W2 (by omega) hasc hw1 hrv
      rw [← hmk] at hput
      rw [hnv] at hput
      try rw [hnv]
      have HP := hid hput
      have HI := hid (And.intro hrv (And.intro hav (And.intro han (And.intro hTI2 (And.intro hbW (And.intro hB (And.intro (KeepsOthers.refl W2) hokn)))))))
      clear hput hmk hokn
      gi_wp2
      refine ⟨trivial, ?_⟩
      gi_wp2
      refine ⟨trivial, (CallsIn.inRound l (callsIn_wide.2 (unhid HP))).mono ?_⟩
      rintro x W9 ⟨⟨v, rfl⟩, ⟨vp', vn', hrv9, hfp, hfn⟩, hB9, hO9, hS9⟩
      obtain ⟨hrv, hav, han, hTW, hbW, hBW, hKO, hokn⟩ := unhid HI
      have hsz9 : W2.heap.size ≤ W9.heap.size := hB9.size
      have hTF : TreeIn wu.heap.size w2.heap.size wt.heap.size (.slice ap2 fs.length cp2) (.slice an2 fs.length cn2) fs W9 := treeIn_kept hTW (fun k hk => by
        have hkr : wt.heap.size ≤ k ∧ k < w4.heap.size := by
          rcases hk with rfl | rfl | h | h
          · omega
          · omega
          · exact (unhid HR2).1 k h
          · exact (unhid HR2).2 k h
        exact hS9 k (by omega) (by omega) (fun eq => by have := hav k eq; omega) (fun eq => by have := han k eq; omega))
      have HF := hid (show KeepsOthers W2 W9 ∧ (TreeIn wu.heap.size w2.heap.size wt.heap.size (.slice ap2 fs.length cp2) (.slice an2 fs.length cn2) fs W2 → TreeIn wu.heap.size w2.heap.size wt.heap.size (.slice ap2 fs.length cp2) (.slice an2 fs.length cn2) fs W9) ∧ ((∃ vp vn, RowsV W9 wA.heap.size w1.heap.size vp vn (joinTo es ((pre ++ [(⟨e, hx⟩ : { e : Ent // entB e = true })]).map (·.1))) ∧ AwayV wt.heap.size w4.heap.size vp ∧ AwayV wt.heap.size w4.heap.size vn) ∧ TreeIn wu.heap.size w2.heap.size wt.heap.size (.slice ap2 fs.length cp2) (.slice an2 fs.length cn2) fs W9 ∧ BxJ W9 w.heap.size ∧ Hid (okJ es ((pre ++ [(⟨e, hx⟩ : { e : Ent // entB e = true })]).map (·.1)) = true)) ∧ Below w.heap.size w W9 ∧ w4.heap.size ≤ W9.heap.size from
        ⟨hKO.trans ⟨hB9.size, fun k o hk hc => by
            by_cases hkb : k = w1.heap.size
            · subst hkb; have q1 := hrv.1; rw [hk] at q1; cases q1; cases hc
            · exact hO9 k o hkb hk (fun cs t f e => by subst e; cases hc)⟩, fun _ => hTF,
         ⟨⟨vp', vn', hrv9, fun k hk => by rcases hfp k hk with h | h; exact hav k h; right; omega, fun k hk => by rcases hfn k hk with h | h; exact han k h; right; omega⟩, hTF, hbW.keep (fun k hk => hB9.block k (by omega)), hid hokn⟩, hBW.trans (hB9.mono (by omega)), by omega⟩)
      clear hrv9 hfp hfn hB9 hO9 hS9 hrv hav han hTW hbW hBW hKO hokn hTF
      gi_wp2
      exact unhid HF
    · obtain ⟨old, hold, hop⟩ := there_get hth
      have hfo := entFn_get hold
      obtain ⟨T1, nv1, hnv1⟩ := nodeV_shape old
      have hgv : getV (joinTo es (pre.map (·.1))) e.path = .iface T1 nv1 := by unfold getV; rw [hth, hfo, if_pos rfl, hnv1]
      rw [hgv, hth] at GET
      have SAME := hid (fun W => sameDir_any old e W)
      rw [hnv, hnv1] at SAME
      have HI0 := hid (And.intro hrv (And.intro hav (And.intro han (And.intro hTI2 (And.intro hbW hB)))))
      clear hrv hav han hTI2 hbW hB hgv hnv1 hold hop
      gi_wp2
      refine ⟨trivial, (CallsIn.inRound l (callsIn_wide.2 (unhid GET))).mono ?_⟩
      rintro x W2 ⟨rfl, e2⟩
      subst e2
      gi_wp2
      refine ⟨trivial, (CallsIn.inRound l (callsIn_wide.2 (unhid SAME _))).mono ?_⟩
      rintro x W3 ⟨rfl, hb⟩
      obtain ⟨hrv0, hav, han, hTI0, hbW0, hB0⟩ := unhid HI0
      have hrv := hrv0.below hb
      have hTI2 := treeIn_below hTI0 hb
      have hlw : w.heap.size + 2 ≤ W2.heap.size := by have := (Array.getElem?_eq_some_iff.1 hbW0.2).1; omega
      have hbW := hbW0.keep (fun k hk => hb.block k (by omega))
      have hB := hB0.trans (hb.mono hB0.size)
      have hW43 : w4.heap.size ≤ W3.heap.size := Nat.le_trans hW4 hb.size
      have hKO := KeepsOthers_of_below hb
      clear hrv0 hTI0 hbW0 hB0 hb HI0 SAME
      cases hsm : sameB old e
      · have hno : okJ es ((pre ++ [(⟨e, hx⟩ : { e : Ent // entB e = true })]).map (·.1)) = false := by rw [List.map_append]; rw [show List.map (fun x => x.1) [(⟨e, hx⟩ : { e : Ent // entB e = true })] = [e] from rfl, okJ_snoc, show stepJ (joinTo es (pre.map (·.1))) e = false by unfold stepJ; rw [hth, hfo, hsm]; rfl, Bool.and_false]
        obtain ⟨k2, f2⟩ := cell_of_box_l hbW.1
        obtain ⟨k3, f3⟩ := cell_of_box_l hbW.2
        have HF := hid (And.intro hKO (And.intro hno (And.intro hbW hB)))
        clear hKO hno hbW hB hrv hav han hTI2
        gi_wp2
        obtain ⟨hKO, hno, hbW, hB⟩ := unhid HF
        exact ⟨hKO.trans ((KeepsOthers.setCell _ _ _).trans (KeepsOthers.setCell _ _ _)), ⟨rfl, hno, (Below.heap_setCell _ _ _ _ (show w.heap.size ≠ w.heap.size + 1 by omega)).trans (by rw [heap_setCell_same _ _ 0 _ _ _ hbW.1]; rfl), by rw [heap_setCell_same _ _ 0 _ _ _ ((Below.heap_setCell _ _ _ _ (show w.heap.size + 1 ≠ w.heap.size by omega)).trans hbW.2)]; rfl⟩, (hB.setCell (p := ⟨w.heap.size, 0, none⟩) (Nat.le_refl _) _).setCell (p := ⟨w.heap.size + 1, 0, none⟩) (show w.heap.size ≤ w.heap.size + 1 by omega) _⟩
      · have hst : stepJ (joinTo es (pre.map (·.1))) e = true := by unfold stepJ; rw [hfo, hsm]; simp
        have hmk : joinTo es ((pre ++ [(⟨e, hx⟩ : { e : Ent // entB e = true })]).map (·.1)) = putT (joinTo es (pre.map (·.1))) e := by rw [List.map_append]; exact joinTo_snoc _ _ _
        have hokn : okJ es ((pre ++ [(⟨e, hx⟩ : { e : Ent // entB e = true })]).map (·.1)) = true := by rw [List.map_append]; exact (okJ_snoc es (pre.map (·.1)) e).trans (by rw [unhid hok, hst])
        have hput := mapPut_V wA.heap.size w1.heap.size vp vn (joinTo es (pre.map (·.1))) e W3 (by omega) hasc hw1 hrv
        rw [← hmk] at hput
        rw [hnv] at hput
        try rw [hnv]
        have HP := hid hput
        have HI := hid (And.intro hrv (And.intro hav (And.intro han (And.intro hTI2 (And.intro hbW (And.intro hB (And.intro hKO hokn)))))))
        clear hput hmk hokn
        gi_wp2
        refine ⟨trivial, (CallsIn.inRound l (callsIn_wide.2 (unhid HP))).mono ?_⟩
        rintro x W9 ⟨⟨v, rfl⟩, ⟨vp', vn', hrv9, hfp, hfn⟩, hB9, hO9, hS9⟩
        obtain ⟨hrv, hav, han, hTW, hbW, hBW, hKO, hokn⟩ := unhid HI
        have hsz9 : W3.heap.size ≤ W9.heap.size := hB9.size
        have hTF : TreeIn wu.heap.size w2.heap.size wt.heap.size (.slice ap2 fs.length cp2) (.slice an2 fs.length cn2) fs W9 := treeIn_kept hTW (fun k hk => by
          have hkr : wt.heap.size ≤ k ∧ k < w4.heap.size := by
            rcases hk with rfl | rfl | h | h
            · omega
            · omega
            · exact (unhid HR2).1 k h
            · exact (unhid HR2).2 k h
          exact hS9 k (by omega) (by omega) (fun eq => by have := hav k eq; omega) (fun eq => by have := han k eq; omega))
        have HF := hid (show KeepsOthers W2 W9 ∧ (TreeIn wu.heap.size w2.heap.size wt.heap.size (.slice ap2 fs.length cp2) (.slice an2 fs.length cn2) fs W2 → TreeIn wu.heap.size w2.heap.size wt.heap.size (.slice ap2 fs.length cp2) (.slice an2 fs.length cn2) fs W9) ∧ ((∃ vp vn, RowsV W9 wA.heap.size w1.heap.size vp vn (joinTo es ((pre ++ [(⟨e, hx⟩ : { e : Ent // entB e = true })]).map (·.1))) ∧ AwayV wt.heap.size w4.heap.size vp ∧ AwayV wt.heap.size w4.heap.size vn) ∧ TreeIn wu.heap.size w2.heap.size wt.heap.size (.slice ap2 fs.length cp2) (.slice an2 fs.length cn2) fs W9 ∧ BxJ W9 w.heap.size ∧ Hid (okJ es ((pre ++ [(⟨e, hx⟩ : { e : Ent // entB e = true })]).map (·.1)) = true)) ∧ Below w.heap.size w W9 ∧ w4.heap.size ≤ W9.heap.size from
          ⟨hKO.trans ⟨hB9.size, fun k o hk hc => by
              by_cases hkb : k = w1.heap.size
              · subst hkb; have q1 := hrv.1; rw [hk] at q1; cases q1; cases hc
              · exact hO9 k o hkb hk (fun cs t f e => by subst e; cases hc)⟩, fun _ => hTF,
           ⟨⟨vp', vn', hrv9, fun k hk => by rcases hfp k hk with h | h; exact hav k h; right; omega, fun k hk => by rcases hfn k hk with h | h; exact han k h; right; omega⟩, hTF, hbW.keep (fun k hk => hB9.block k (by omega)), hid hokn⟩, hBW.trans (hB9.mono (by omega)), by omega⟩)
        clear hrv9 hfp hfn hB9 hO9 hS9 hrv hav han hTW hbW hBW hKO hokn hTF
        gi_wp2
        exact unhid HF
  case stop =>
    rintro D c pre W hD hpr ⟨⟨rfl, hno, hbW⟩, hB⟩ hK
    have E := hid (show joinOk es fs = false ∧ joinR es fs = [] by unfold joinR joinOk; rw [okJ_prefix hpr hno, htb, htb2]; exact ⟨rfl, rfl⟩)
    have hg := grownBy_putObj' W D (.deferred none)
    have hr : ∀ r, some D = some r → ∃ o : Obj, W.heap[r]? = some o ∧ o.isCells = false := fun r e => by cases e; exact ⟨_, hK, rfl⟩
    have s2 := (cell_of_box_l (cells_grown hg hr hbW.1)).1
    have s3 := (cell_of_box_l (cells_grown hg hr hbW.2)).1
    have HF := hid (And.intro (hB.trans (belowK_b (w := w) (Nat.le_refl _) _ D (.deferred (some [])) (.deferred none) (by omega) hK rfl rfl)) hK)
    clear hg hr hbW hB hK hno
    gi_wp2
    refine ⟨by simp, .inl ⟨_, _, rfl, run_takeDeferred (unhid HF).2, ?_⟩⟩
    refine ⟨.tuple #[.slice none 0 0, .bool false], ?_, _, by rw [(unhid E).1], by rw [(unhid E).2]; exact World.ownsRow_nil _ _ _ _, (unhid HF).1⟩
    simp [results, Try.f33, go_sem, s2, s3]
  case done =>
    rintro D ys W hD hys ⟨⟨⟨vp, vn, hrv, hav, han⟩, hTI2, hbW, hok⟩, hB, hW4⟩ hK
    rw [hys] at hrv hok
    have hlen : (joinTo es fs).length ≤ 100 := by have := joinTo_len es fs; omega
    have hen : ∀ e ∈ joinTo es fs, entB e = true := fun e he => by
      rcases joinTo_mem es fs e he with h | h
      · exact tree_all htb e h
      · exact hkb e h
    have ENT := hid (entries_any wA.heap.size w1.heap.size (joinTo es fs) W (by omega) hen hrv.at)
    have HSM := hid (small_all (by omega) hen)
    have HI := hid (And.intro hB (And.intro hK hbW))
    have hDl := (Array.getElem?_eq_some_iff.1 hK).1
    have hwl2 : w.heap.size + 2 ≤ W.heap.size := by have := (Array.getElem?_eq_some_iff.1 hbW.2).1; omega
    clear hrv hav han hTI2 hbW hB hK hen
    gi_wp2
    refine ⟨trivial, (callsIn_wide.2 (unhid ENT)).mono ?_⟩
    rintro x W3 ⟨v, rfl, hown, hb3⟩
    obtain ⟨va, vc, hva, hRI⟩ := rowIn_of_owns hown
    subst hva
    obtain ⟨hB, hK, hbW⟩ := unhid HI
    have TOK := hid (treeOk_any (joinTo es fs) va vc W3 (unhid HSM) hRI.at)
    have HI3 := hid (And.intro hown (And.intro (hB.trans (hb3.mono hB.size)) (And.intro ((hb3.block _ hDl).trans hK) (hbW.keep (fun k hk => hb3.block k (by omega))))))
    have hsz3 := hb3.size
    clear hown hb3 hB hK hbW hRI HI
    gi_wp2
    refine ⟨trivial, (callsIn_wide.2 (unhid TOK)).mono ?_⟩
    rintro x W4 ⟨rfl, hb4⟩
    obtain ⟨hown0, hB0, hK0, hbx0⟩ := unhid HI3
    have hown := ownsRow_kept hown0 (fun g e => hb4.block g (hown0.lt g e).2)
    have hB := hB0.trans (hb4.mono hB0.size)
    have hK := (hb4.block _ (by omega)).trans hK0
    have hbx := hbx0.keep (fun k hk => hb4.block k (by omega))
    have HI4 := hid (And.intro hown (And.intro hB (And.intro hK hbx)))
    obtain ⟨k2, f2⟩ := cell_of_box_l hbx.1
    obtain ⟨k3, f3⟩ := cell_of_box_l hbx.2
    clear hown0 hB0 hK0 hbx0 hown hB hK hbx hb4 HI3 TOK
    cases htj : treeB (joinTo es fs)
    · have E := hid (show joinOk es fs = false ∧ joinR es fs = [] by unfold joinR joinOk; rw [htj, htb, htb2, unhid hok]; exact ⟨rfl, rfl⟩)
      gi_wp2
      obtain ⟨hown, hB, hK, hbx⟩ := unhid HI4
      obtain ⟨WF, hWF⟩ : ∃ WF, WF = ((W4.setCell ⟨w.heap.size, 0, none⟩ (.slice none 0 0)).setCell ⟨w.heap.size + 1, 0, none⟩ (.bool false)) := ⟨_, rfl⟩
      have hne23 : w.heap.size ≠ w.heap.size + 1 := by omega
      have hKF : WF.heap[D]? = some (.deferred (some [])) := by rw [hWF]; exact (Below.heap_setCell _ _ _ _ (show D ≠ w.heap.size + 1 by omega)).trans ((Below.heap_setCell _ _ _ _ (show D ≠ w.heap.size by omega)).trans hK)
      have hv1 : WF.heap[w.heap.size]? = some (.cells #[.slice none 0 0] 23 (0, 0)) := by rw [hWF]; exact (Below.heap_setCell _ _ _ _ hne23).trans (by rw [heap_setCell_same _ _ 0 _ _ _ hbx.1]; rfl)
      have hb7 : WF.heap[w.heap.size + 1]? = some (.cells #[.bool false] 4 (0, 0)) := by rw [hWF, heap_setCell_same _ _ 0 _ _ _ ((Below.heap_setCell _ _ _ _ hne23.symm).trans hbx.2)]; rfl
      have hBF : Below w.heap.size w WF := by rw [hWF]; exact (hB.setCell (p := ⟨w.heap.size, 0, none⟩) (Nat.le_refl _) _).setCell (p := ⟨w.heap.size + 1, 0, none⟩) (show w.heap.size ≤ w.heap.size + 1 by omega) _
      rw [← hWF]
      refine ⟨by simp, .inl ⟨_, _, rfl, run_takeDeferred hKF, ?_⟩⟩
      have hg := grownBy_putObj' WF D (.deferred none)
      have hr : ∀ r, some D = some r → ∃ o : Obj, WF.heap[r]? = some o ∧ o.isCells = false := fun r e => by cases e; exact ⟨_, hKF, rfl⟩
      have s2 := (cell_of_box_l (cells_grown hg hr hv1)).1
      have s3 := (cell_of_box_l (cells_grown hg hr hb7)).1
      refine ⟨.tuple #[.slice none 0 0, .bool false], ?_, _, by rw [(unhid E).1], by rw [(unhid E).2]; exact World.ownsRow_nil _ _ _ _, hBF.trans (belowK_b (w := w) (Nat.le_refl _) _ D (.deferred (some [])) (.deferred none) (by omega) hKF rfl rfl)⟩
      simp [results, Try.f33, go_sem, s2, s3]
    · have E := hid (show joinOk es fs = true ∧ joinR es fs = joinTo es fs by unfold joinR joinOk; rw [htj, htb, htb2, unhid hok]; exact ⟨rfl, rfl⟩)
      gi_wp2
      obtain ⟨hown, hB, hK, hbx⟩ := unhid HI4
      obtain ⟨WF, hWF⟩ : ∃ WF, WF = ((W4.setCell ⟨w.heap.size, 0, none⟩ (.slice va (joinTo es fs).length vc)).setCell ⟨w.heap.size + 1, 0, none⟩ (.bool true)) := ⟨_, rfl⟩
      have hne23 : w.heap.size ≠ w.heap.size + 1 := by omega
      have hKF : WF.heap[D]? = some (.deferred (some [])) := by rw [hWF]; exact (Below.heap_setCell _ _ _ _ (show D ≠ w.heap.size + 1 by omega)).trans ((Below.heap_setCell _ _ _ _ (show D ≠ w.heap.size by omega)).trans hK)
      have hv1 : WF.heap[w.heap.size]? = some (.cells #[.slice va (joinTo es fs).length vc] 23 (0, 0)) := by rw [hWF]; exact (Below.heap_setCell _ _ _ _ hne23).trans (by rw [heap_setCell_same _ _ 0 _ _ _ hbx.1]; rfl)
      have hb7 : WF.heap[w.heap.size + 1]? = some (.cells #[.bool true] 4 (0, 0)) := by rw [hWF, heap_setCell_same _ _ 0 _ _ _ ((Below.heap_setCell _ _ _ _ hne23.symm).trans hbx.2)]; rfl
      have hBF : Below w.heap.size w WF := by rw [hWF]; exact (hB.setCell (p := ⟨w.heap.size, 0, none⟩) (Nat.le_refl _) _).setCell (p := ⟨w.heap.size + 1, 0, none⟩) (show w.heap.size ≤ w.heap.size + 1 by omega) _
      have hownF : WF.ownsRow W.heap.size 27 4 (.slice va (joinTo es fs).length vc) (joinTo es fs).length (valsOf (joinTo es fs)) := by rw [hWF]; exact ownsRow_setCell_below (ownsRow_setCell_below hown (a := ⟨w.heap.size, 0, none⟩) (show w.heap.size < W.heap.size by omega) _) (a := ⟨w.heap.size + 1, 0, none⟩) (show w.heap.size + 1 < W.heap.size by omega) _
      rw [← hWF]
      refine ⟨by simp, .inl ⟨_, _, rfl, run_takeDeferred hKF, ?_⟩⟩
      have hg := grownBy_putObj' WF D (.deferred none)
      have hr : ∀ r, some D = some r → ∃ o : Obj, WF.heap[r]? = some o ∧ o.isCells = false := fun r e => by cases e; exact ⟨_, hKF, rfl⟩
      have s2 := (cell_of_box_l (cells_grown hg hr hv1)).1
      have s3 := (cell_of_box_l (cells_grown hg hr hb7)).1
      refine ⟨.tuple #[.slice va (joinTo es fs).length vc, .bool true], ?_, _, by rw [(unhid E).1], by rw [(unhid E).2]; exact ownsRow_base (row_grown hg hr hownF) (by omega), hBF.trans (belowK_b (w := w) (Nat.le_refl _) _ D (.deferred (some [])) (.deferred none) (by omega) hKF rfl rfl)⟩
      simp [results, Try.f33, go_sem, s2, s3]
end Go.Proofs.Ytaefjibnnbdaaaa

/- Whether a place of a tree may be moved, by the program. -/
namespace Go.Proofs.Ytaefjibnnbdaaaa
open Go.RowKit Go.Shelf

def mayB (es : List Ent) (p q : ByteArray) : Bool := thereE es p && (!thereE es q && (pathB q.data.toList && (!inB p.data.toList q.data.toList && dirE es (pathUpS q))))

set_option maxRecDepth 100000 in
set_option maxHeartbeats 4000000 in
theorem mayMove_any (N bt : Nat) (es : List Ent) (p q : ByteArray) (w : World) (hp : p.size ≤ 1048576) (hq : q.size ≤ 1048576) (hn : es.length ≤ 900) (ha : Asc (pathsOf es)) (h : TreeAt w N bt es) :
    Calls Try.prog 55 #[.pointer (some ⟨bt, 0, .none⟩), .string p, .string q] w fun x w' => x = .returned (.bool (mayB es p q)) ∧ Below w.heap.size w w' := by
  have G1 := hid (mapGet_any N bt es p w (by omega) ha h)
  have G2 := hid (mapGet_any N bt es q w (by omega) ha h)
  have HA := hid ha
  have H := hid h
  clear ha h
  obtain ⟨gp, hgp⟩ : ∃ gp, getV es p = gp := ⟨_, rfl⟩
  obtain ⟨gq, hgq⟩ : ∃ gq, getV es q = gq := ⟨_, rfl⟩
  rw [hgp] at G1
  rw [hgq] at G2
  clear hgp hgq
  cases h1 : thereE es p
  · go_enter Try.func55, Try.ntmps55
    go_wp2_with fail
    refine (unhid G1).mono ?_
    rintro x w1 ⟨rfl, e1⟩
    subst e1
    rw [h1]
    go_wp2_with fail
    refine (unhid G2).mono ?_
    rintro x w2 ⟨rfl, e2⟩
    subst e2
    go_wp2_with fail
    go_ret
    exact ⟨by simp [mayB, h1], Below.refl _ _⟩

  · cases h2 : thereE es q
    · cases h3 : pathB q.data.toList
      · go_enter Try.func55, Try.ntmps55
        go_wp2_with fail
        refine (unhid G1).mono ?_
        rintro x w1 ⟨rfl, e1⟩
        subst e1
        rw [h1]
        go_wp2_with fail
        refine (unhid G2).mono ?_
        rintro x w2 ⟨rfl, e2⟩
        subst e2
        rw [h2]
        go_wp2_with fail
        refine (PathOk_any q (by unfold maxLen; omega) _).mono ?_
        rintro x w3 ⟨rfl, hb⟩
        rw [h3]
        have HT3 := hid ((unhid H).below hb)
        have HB3 := hid hb
        clear hb
        go_wp2_with fail
        go_ret
        exact ⟨by simp [mayB, h1, h2, h3], unhid HB3⟩

      · cases h4 : inB p.data.toList q.data.toList
        · go_enter Try.func55, Try.ntmps55
          go_wp2_with fail
          refine (unhid G1).mono ?_
          rintro x w1 ⟨rfl, e1⟩
          subst e1
          rw [h1]
          go_wp2_with fail
          refine (unhid G2).mono ?_
          rintro x w2 ⟨rfl, e2⟩
          subst e2
          rw [h2]
          go_wp2_with fail
          refine (PathOk_any q (by unfold maxLen; omega) _).mono ?_
          rintro x w3 ⟨rfl, hb⟩
          rw [h3]
          have HT3 := hid ((unhid H).below hb)
          have HB3 := hid hb
          clear hb
          go_wp2_with fail
          refine (PathIn_any p q (by unfold maxLen; omega) (by unfold maxLen; omega) _).mono ?_
          rintro x w4 ⟨rfl, hb⟩
          rw [h4]
          have HT4 := hid ((unhid HT3).below hb)
          have HB4 := hid ((unhid HB3).trans (hb.mono (unhid HB3).size))
          clear hb HT3 HB3
          go_wp2_with fail
          refine (hasPlace_any N bt es q _ (by unfold maxLen; omega) (by omega) (unhid HA) (unhid HT4)).mono ?_
          rintro x w5 ⟨rfl, hb⟩
          have HB5 := hid ((unhid HB4).trans (hb.mono (unhid HB4).size))
          clear hb HT4 HB4
          go_wp2_with fail
          go_ret
          exact ⟨by simp [mayB, h1, h2, h3, h4], unhid HB5⟩

        · go_enter Try.func55, Try.ntmps55
          go_wp2_with fail
          refine (unhid G1).mono ?_
          rintro x w1 ⟨rfl, e1⟩
          subst e1
          rw [h1]
          go_wp2_with fail
          refine (unhid G2).mono ?_
          rintro x w2 ⟨rfl, e2⟩
          subst e2
          rw [h2]
          go_wp2_with fail
          refine (PathOk_any q (by unfold maxLen; omega) _).mono ?_
          rintro x w3 ⟨rfl, hb⟩
          rw [h3]
          have HT3 := hid ((unhid H).below hb)
          have HB3 := hid hb
          clear hb
          go_wp2_with fail
          refine (PathIn_any p q (by unfold maxLen; omega) (by unfold maxLen; omega) _).mono ?_
          rintro x w4 ⟨rfl, hb⟩
          rw [h4]
          have HT4 := hid ((unhid HT3).below hb)
          have HB4 := hid ((unhid HB3).trans (hb.mono (unhid HB3).size))
          clear hb HT3 HB3
          go_wp2_with fail
          go_ret
          exact ⟨by simp [mayB, h1, h2, h3, h4], unhid HB4⟩

    · go_enter Try.func55, Try.ntmps55
      go_wp2_with fail
      refine (unhid G1).mono ?_
      rintro x w1 ⟨rfl, e1⟩
      subst e1
      rw [h1]
      go_wp2_with fail
      refine (unhid G2).mono ?_
      rintro x w2 ⟨rfl, e2⟩
      subst e2
      rw [h2]
      go_wp2_with fail
      go_ret
      exact ⟨by simp [mayB, h1, h2], Below.refl _ _⟩

end Go.Proofs.Ytaefjibnnbdaaaa

/- What is moved in a tree, by the program. -/
namespace Go.Proofs.Ytaefjibnnbdaaaa
open Go.RowKit Go.Shelf

attribute [local go_sem] Oper.semAt_some

def placeM (p q : ByteArray) (e : Ent) : ByteArray := if inB p.data.toList e.path.data.toList then moveS e.path p q else e.path
def mvE (p q : ByteArray) (e : Ent) : Ent := { e with path := placeM p q e }
def moveAll (p q : ByteArray) (es : List Ent) : Bool := es.all fun e => !(placeM p q e).toList.isEmpty
def moveOk (p q : ByteArray) (es : List Ent) : Bool := mayB (keptE es) p q && moveAll p q (keptE es)
def moveR (p q : ByteArray) (es : List Ent) : List Ent := if moveOk p q es then putAll ((keptE es).map (mvE p q)) else keptE es
theorem mv_nodeV (p q : ByteArray) (e : Ent) : nodeV (mvE p q e) = nodeV e := rfl
theorem empty_of {s : ByteArray} (h : s.toList.isEmpty = true) : s = ⟨#[]⟩ := by
  rw [Lib.toList_data] at h
  apply ByteArray.ext
  exact Array.ext' (by simpa using h)
theorem move_pathB {s f t : ByteArray} (h : (moveS s f t).toList.isEmpty = false) : pathB (moveS s f t).data.toList = true := by
  unfold moveS at h ⊢
  split at h
  · rename_i hc
    rw [if_pos hc]
    simp only [Bool.and_eq_true] at hc
    exact hc.2
  · simp [Lib.toList_data] at h
theorem mv_ok {p q : ByteArray} {e : Ent} (he : entB e = true) (hm : (placeM p q e).toList.isEmpty = false) : entB (mvE p q e) = true := by
  have hp : pathB (placeM p q e).data.toList = true := by
    unfold placeM at hm ⊢
    cases hi : inB p.data.toList e.path.data.toList
    · exact ent_pathB he
    · rw [hi] at hm; exact move_pathB hm
  unfold entB at he ⊢
  simp only [Bool.and_eq_true] at he ⊢
  exact ⟨hp, he.2⟩
/-- The boxes of a move: from, to, what is answered. -/
def BxM (W : World) (N : Nat) (p q : ByteArray) : Prop := W.heap[N]? = some (.cells #[.string p] 9 (0, 0)) ∧ W.heap[N + 1]? = some (.cells #[.string q] 9 (0, 0)) ∧ W.heap[N + 1 + 1]? = some (.cells #[.slice none 0 0] 23 (0, 0)) ∧ W.heap[N + 1 + 1 + 1]? = some (.cells #[.bool false] 4 (0, 0))
theorem BxM.keep {W W' : World} {N : Nat} {p q : ByteArray} (h : BxM W N p q) (hk : ∀ k, k < N + 4 → W'.heap[k]? = W.heap[k]?) : BxM W' N p q :=
  ⟨(hk _ (by omega)).trans h.1, (hk _ (by omega)).trans h.2.1, (hk _ (by omega)).trans h.2.2.1, (hk _ (by omega)).trans h.2.2.2⟩
theorem BxM.grown {W W' : World} {row : Option Nat} {N : Nat} {p q : ByteArray} (h : BxM W N p q) (hg : W.grownBy W' row) (hr : ∀ r, row = some r → ∃ o : Obj, W.heap[r]? = some o ∧ o.isCells = false) : BxM W' N p q :=
  ⟨cells_grown hg hr h.1, cells_grown hg hr h.2.1, cells_grown hg hr h.2.2.1, cells_grown hg hr h.2.2.2⟩

set_option maxRecDepth 100000 in
set_option maxHeartbeats 8000000 in
theorem treeMove_any (es : List Ent) (a : Option Addr) (cap : Nat) (p q : ByteArray) (w : World) (hs : smallE es) (hp : p.size ≤ 1048576) (hq : q.size ≤ 1048576) (h : EntsAt w a es) :
    Calls Try.prog 19 #[.slice a es.length cap, .string p, .string q] w fun x w' => ∃ v, x = .returned (.tuple #[v, .bool (moveOk p q es)]) ∧ w'.ownsRow w.heap.size 27 4 v (moveR p q es).length (valsOf (moveR p q es)) ∧ Below w.heap.size w w' := by
  obtain ⟨wA, hwA⟩ : ∃ wA, wA = (((w.alloc (.cells #[.string p] 9)).alloc (.cells #[.string q] 9)).alloc (.cells #[.slice none 0 0] 23)).alloc (.cells #[.bool false] 4) := ⟨_, rfl⟩
  have hsz : wA.heap.size = w.heap.size + 4 := by rw [hwA]; simp
  have hBA : Below w.heap.size w wA := by rw [hwA]; exact ((((Below.refl _ w).alloc (Nat.le_refl _) _).alloc (by simp) _).alloc (by simp; omega) _).alloc (by simp; omega) _
  have hbox : BxM wA w.heap.size p q := by
    rw [hwA]
    refine ⟨?_, ?_, ?_, ?_⟩
    · exact (Below.heap_alloc _ _ _ (by simp; omega)).trans ((Below.heap_alloc _ _ _ (by simp; omega)).trans ((Below.heap_alloc _ _ _ (by simp)).trans (World.alloc_heap_new w _)))
    · have := World.alloc_heap_new (w.alloc (.cells #[.string p] 9)) (.cells #[.string q] 9)
      rw [World.size_alloc] at this
      exact (Below.heap_alloc _ _ _ (by simp)).trans ((Below.heap_alloc _ _ _ (by simp)).trans this)
    · have := World.alloc_heap_new ((w.alloc (.cells #[.string p] 9)).alloc (.cells #[.string q] 9)) (.cells #[.slice none 0 0] 23)
      rw [World.size_alloc, World.size_alloc] at this
      exact (Below.heap_alloc _ _ _ (by simp)).trans this
    · have := World.alloc_heap_new (((w.alloc (.cells #[.string p] 9)).alloc (.cells #[.string q] 9)).alloc (.cells #[.slice none 0 0] 23)) (.cells #[.bool false] 4)
      rw [World.size_alloc, World.size_alloc, World.size_alloc] at this
      exact this
  have H := hid (treeOf_any es a cap wA hs (h.below hBA))
  have HA := hid (And.intro hsz (And.intro hBA hbox))
  have HWA := hid hwA
  clear hs h hwA hsz hBA hbox
  refine (callsIn_wide (n := 3)).1 ?_
  refine callsIn_of_wp_marks Try.func19 rfl trivial ?_ rfl
  simp only [Try.ntmps19, List.size_toArray, List.length_cons, List.length_nil, Nat.reduceAdd, Nat.reduceSub, Array.replicate_succ, Array.replicate_zero, List.push_toArray, List.append_toArray, List.nil_append, List.cons_append]
  gi_wp2
  rw [← unhid HWA]
  refine ⟨trivial, (callsIn_wide.2 (unhid H)).mono ?_⟩
  rintro x w1 ⟨vp, vn, rfl, ⟨t2, t3⟩, hB⟩
  obtain ⟨ap, cp, rfl⟩ := ownsRow_slice t2
  obtain ⟨an, cn, rfl⟩ := ownsRow_slice t3
  obtain ⟨hsz, hBA, hbox⟩ := unhid HA
  obtain ⟨wt, hwt⟩ : ∃ wt, wt = w1.alloc (.cells #[.slice ap (keptE es).length cp, .slice an (keptE es).length cn] 58) := ⟨_, rfl⟩
  have hB1 : Below w.heap.size w w1 := hBA.trans (hB.mono (by omega))
  have hBt : Below w1.heap.size w1 wt := by rw [hwt]; exact (Below.refl _ w1).alloc (Nat.le_refl _) _
  have hBT : Below w.heap.size w wt := hB1.trans (hBt.mono hB1.size)
  have hT : TreeAt wt wA.heap.size w1.heap.size (keptE es) := ⟨_, _, by rw [hwt]; exact World.alloc_heap_new _ _, ownsRow_kept t2 (fun g e => hBt.block g (t2.lt g e).2), ownsRow_kept t3 (fun g e => hBt.block g (t3.lt g e).2)⟩
  have hw1 : wA.heap.size ≤ w1.heap.size := hB.size
  have hbt : BxM wt w.heap.size p q := hbox.keep (fun k hk => (hBt.block _ (by omega)).trans (hB.block _ (by omega)))
  have hkl := (kept_asc es).2
  have hka := (kept_asc es).1
  have hkb : ∀ e ∈ keptE es, entB e = true := fun x hx => by
    cases htb : treeB es
    · rw [keptE_no htb] at hx; simp at hx
    · rw [keptE_yes htb] at hx; exact tree_all htb x hx
  have MAY := hid (mayMove_any _ _ (keptE es) p q wt hp hq (by omega) hka hT)
  have d0 := (cell_of_box_l hbt.1).1
  have d1 := (cell_of_box_l hbt.2.1).1
  rw [hwt] at d0 d1
  have HT := hid (And.intro hBT (And.intro hbt hT))
  have HWT := hid hwt
  have HEQ := hid (show moveOk p q es = (mayB (keptE es) p q && moveAll p q (keptE es)) ∧ moveR p q es = if (mayB (keptE es) p q && moveAll p q (keptE es)) then putAll ((keptE es).map (mvE p q)) else keptE es from ⟨rfl, rfl⟩)
  clear hT hBT hBt hB1 hB t2 t3 hbox hBA HA HWA H hbt hwt
  gi_wp2
  rw [← unhid HWT]
  refine ⟨trivial, (callsIn_wide.2 (unhid MAY)).mono ?_⟩
  rintro x w2 ⟨rfl, hb⟩
  have hlt : w.heap.size + 4 ≤ wt.heap.size := by have := (unhid HT).2.2.lt; omega
  have HT2 := hid (show Below w.heap.size w w2 ∧ BxM w2 w.heap.size p q ∧ TreeAt w2 wA.heap.size w1.heap.size (keptE es) from ⟨(unhid HT).1.trans (hb.mono (by omega)), (unhid HT).2.1.keep (fun k hk => hb.block _ (by omega)), (unhid HT).2.2.below hb⟩)
  have hlt2 : w.heap.size + 4 ≤ w2.heap.size := Nat.le_trans hlt hb.size
  generalize hks : keptE es = ks at *
  clear hb HT HWT MAY d0 d1 hks hlt
  cases hmay : mayB ks p q
  · have E := hid (show moveOk p q es = false ∧ moveR p q es = ks by rw [(unhid HEQ).1, (unhid HEQ).2, hmay]; exact ⟨rfl, rfl⟩)
    gi_wp2
    refine ⟨trivial, (callsIn_wide.2 (entries_any wA.heap.size w1.heap.size ks w2 (by omega) hkb (unhid HT2).2.2)).mono ?_⟩
    rintro x w3 ⟨v, rfl, hown, hb⟩
    obtain ⟨va, vc, rfl⟩ := ownsRow_slice hown
    obtain ⟨hBw, hbx, hT⟩ := unhid HT2
    have hbx3 := hbx.keep (fun k hk => hb.block k (by omega))
    have hB3 := hBw.trans (hb.mono (by omega))
    obtain ⟨k2, f2⟩ := cell_of_box_l hbx3.2.2.1
    obtain ⟨k3, f3⟩ := cell_of_box_l hbx3.2.2.2
    have HF := hid (And.intro hown (And.intro hB3 hbx3))
    clear hown hb hBw hbx hT hbx3 hB3 HT2
    gi_wp2
    obtain ⟨hown, hB3, -⟩ := unhid HF
    refine ⟨.tuple #[.slice va ks.length vc, .bool false], ?_, _, by rw [(unhid E).1], by rw [(unhid E).2]; exact ownsRow_base (ownsRow_setCell_below (ownsRow_setCell_below hown (a := ⟨w.heap.size + 1 + 1, 0, none⟩) (show w.heap.size + 1 + 1 < w2.heap.size by omega) _) (a := ⟨w.heap.size + 1 + 1 + 1, 0, none⟩) (show w.heap.size + 1 + 1 + 1 < w2.heap.size by omega) _) (by omega), (hB3.setCell (p := ⟨w.heap.size + 1 + 1, 0, none⟩) (show w.heap.size ≤ w.heap.size + 1 + 1 by omega) _).setCell (p := ⟨w.heap.size + 1 + 1 + 1, 0, none⟩) (show w.heap.size ≤ w.heap.size + 1 + 1 + 1 by omega) _⟩
    simp [results, Try.f19, go_sem, World.cell?_setCell_same', k2, k3]
  · have E := hid (show moveOk p q es = moveAll p q ks ∧ moveR p q es = (if moveAll p q ks then putAll (ks.map (mvE p q)) else ks) by rw [(unhid HEQ).1, (unhid HEQ).2, hmay]; exact ⟨rfl, rfl⟩)
    obtain ⟨w3, hw3⟩ : ∃ w3, w3 = w2.alloc (.cells #[.slice none 0 0, .slice none 0 0] 58) := ⟨_, rfl⟩
    obtain ⟨w4, hw4⟩ : ∃ w4, w4 = w3.alloc (.cells #[.pointer (some ⟨w1.heap.size, 0, none⟩)] 104) := ⟨_, rfl⟩
    have hz3 : w3.heap.size = w2.heap.size + 1 := by rw [hw3]; simp
    have hz4 : w4.heap.size = w2.heap.size + 1 + 1 := by rw [hw4]; simp [hz3]
    have hB3 : Below w2.heap.size w2 w3 := by rw [hw3]; exact (Below.refl _ w2).alloc (Nat.le_refl _) _
    have hB34 : Below w3.heap.size w3 w4 := by rw [hw4]; exact (Below.refl _ w3).alloc (Nat.le_refl _) _
    have hB4 : Below w2.heap.size w2 w4 := hB3.trans (hB34.mono hB3.size)
    obtain ⟨hBT, hbx, vp, vn, t1, t2, t3⟩ := unhid HT2
    have hbl : w1.heap.size < w2.heap.size := (Array.getElem?_eq_some_iff.1 t1).1
    have hBw : Below w.heap.size w w4 := hBT.trans (hB4.mono (by omega))
    have hbx4 : BxM w4 w.heap.size p q := hbx.keep (fun k hk => hB4.block k (by omega))
    have hTI : TreeIn (w2.heap.size + 1) w1.heap.size wA.heap.size vp vn ks w4 :=
      ⟨by have := (cell_new_l w3 (.pointer (some ⟨w1.heap.size, 0, none⟩)) 104).1; rw [hz3] at this; rw [hw4]; exact this,
       (hB4.block _ hbl).trans t1, ownsRow_kept t2 (fun g e => hB4.block g (t2.lt g e).2), ownsRow_kept t3 (fun g e => hB4.block g (t3.lt g e).2)⟩
    have hLT : TreeAt w4 w2.heap.size w2.heap.size (putAll []) := ⟨.slice none 0 0, .slice none 0 0, (hB34.block _ (by omega)).trans (by rw [hw3]; exact World.alloc_heap_new _ _), World.ownsRow_nil _ _ _ _, World.ownsRow_nil _ _ _ _⟩
    have hbn4 : w4.heap[w2.heap.size + 1]? = some (.cells #[.pointer (some ⟨w1.heap.size, 0, none⟩)] 104 (0, 0)) := by have := World.alloc_heap_new w3 (.cells #[.pointer (some ⟨w1.heap.size, 0, none⟩)] 104); rw [hz3] at this; rw [hw4]; exact this
    have HAL := hid (all_in Fence.wide 2 trivial rfl w1.heap.size w3)
    rw [hz3, ← hw4] at HAL
    have HRW := hid (And.intro (fun g (eg : vp.ownBlock = some g) => (t2.lt g eg).2) (fun g (eg : vn.ownBlock = some g) => (t3.lt g eg).2))
    have HW3 := hid hw3
    clear hw4 t1 t2 t3 hB34 hB3 hbx hBT hw3
    gi_wp2
    rw [← unhid HW3]
    refine ⟨trivial, (unhid HAL).mono ?_⟩
    rintro x w5 ⟨rfl, e5⟩
    subst e5
    gi_wp2
    refine wpIn_rangeFunc_ownF rfl (by omega) (gf := 87) (lb := #[.pointer (some ⟨w2.heap.size + 1, 0, none⟩)]) rfl trivial (enters_of Try.func87 (by kernel_rfl) rfl)
      (all_stops Fence.wide _ trivial rfl (by omega) (w2.heap.size + 1) w1.heap.size wA.heap.size vp vn ks (by omega) (fun e => entB e = true) hkb _ hTI) (fun h g x => g (h x)) (fun W l o o' _ hl hc _ h => treeIn_grown h (grownBy_putObj' _ l o') (fun r e => by cases e; exact ⟨_, hl, hc⟩)) (Below.refl _ _) (fun _ => rfl)
      (fun pre W => (TreeAt W w2.heap.size w2.heap.size (putAll ((pre.map (·.1)).map (mvE p q))) ∧ TreeIn (w2.heap.size + 1) w1.heap.size wA.heap.size vp vn ks W ∧ BxM W w.heap.size p q ∧ W.heap[w2.heap.size + 1]? = some (.cells #[.pointer (some ⟨w1.heap.size, 0, none⟩)] 104 (0, 0)) ∧ Hid (∀ x ∈ pre.map (·.1), (placeM p q x).toList.isEmpty = false)) ∧ Below w.heap.size w W)
      (fun c pre W => (c = .ret ∧ (∃ x ∈ pre.map (·.1), (placeM p q x).toList.isEmpty = true) ∧ (∃ v, W.heap[w.heap.size + 1 + 1]? = some (.cells #[v] 23 (0, 0)) ∧ W.ownsRow w.heap.size 27 4 v ks.length (valsOf ks)) ∧ W.heap[w.heap.size + 1 + 1 + 1]? = some (.cells #[.bool false] 4 (0, 0))) ∧ Below w.heap.size w W)
      (OwnFrom.and (Own.from (fun s A B row hs hg hr => ⟨treeAt_grown hs.1 hg hr, treeIn_grown hs.2.1 hg hr, hs.2.2.1.grown hg hr, cells_grown hg hr hs.2.2.2.1, hs.2.2.2.2⟩) _) (ownFrom_below (Nat.le_refl _) (by omega)))
      (fun c => OwnFrom.and (Own.from (fun s A B row hs hg hr => ⟨hs.1, hs.2.1, by obtain ⟨v, h1, h2⟩ := hs.2.2.1; exact ⟨v, cells_grown hg hr h1, row_grown hg hr h2⟩, cells_grown hg hr hs.2.2.2⟩) _) (ownFrom_below (Nat.le_refl _) (by omega)))
      ⟨⟨hLT, hTI, hbx4, hbn4, hid (fun x hx => by simp at hx)⟩, hBw⟩
      (fun x => { tmps := #[.slice a es.length cap, .string p, .string q, undef, .pointer (some ⟨w.heap.size, 0, none⟩), .pointer (some ⟨w.heap.size + 1, 0, none⟩), .pointer (some ⟨w.heap.size + 1 + 1, 0, none⟩), .pointer (some ⟨w.heap.size + 1 + 1 + 1, 0, none⟩), .pointer (some ⟨w1.heap.size, 0, none⟩), .bool (treeB es), .pointer (some ⟨w2.heap.size, 0, none⟩), .string x.1.path, nodeV x.1, undef, .tuple #[.agg #[.slice ap ks.length cp, .slice an ks.length cn], .bool (treeB es)], .slice a es.length cap, .tuple #[.agg #[.slice ap ks.length cp, .slice an ks.length cn], .bool (treeB es)], .agg #[.slice ap ks.length cp, .slice an ks.length cn], .bool (treeB es), .string p, .string q, .bool true, .bool false, undef, .agg #[.slice none 0 0, .slice none 0 0], .pointer (some ⟨w1.heap.size, 0, none⟩), .func (.func 87) #[] #[.pointer (some ⟨w2.heap.size + 1, 0, none⟩)], .string x.1.path, nodeV x.1, undef, undef, undef, undef, undef, undef, undef, undef, undef, undef, undef, undef, undef, undef, undef, undef], defers := [] }) ?assign ?body ?done ?stop
    case assign =>
      intro l x W K hK
      gi_wp2
      exact hK
    case body =>
      rintro l pre ⟨e, hx⟩ W ⟨⟨hL, hTI2, hbW, hbn, hall⟩, hB⟩ hpl
      dsimp only
      have hpx : e.path.size ≤ maxLen := by have := ent_path_len hx; unfold maxLen; omega
      obtain ⟨d0, -⟩ := cell_of_box_l hbW.1
      obtain ⟨T0, nv, hnv⟩ := nodeV_shape e
      have hpre : (pre.map (·.1)).length = pre.length := List.length_map _
      have hwl : w.heap.size + 4 ≤ W.heap.size := by have := (Array.getElem?_eq_some_iff.1 hbW.2.2.2).1; omega
      gi_wp2
      refine ⟨trivial, (CallsIn.inRound l (callsIn_wide.2 (PathIn_any p e.path (by unfold maxLen; omega) hpx _))).mono ?_⟩
      rintro x W2 ⟨rfl, hb⟩
      have hO := KeepsOthers_of_below hb
      have hL2 := hL.below hb
      have hT2 := treeIn_below hTI2 hb
      have hbx2 := hbW.keep (fun k hk => hb.block k (by omega))
      have hbn2 := (hb.block _ (Array.getElem?_eq_some_iff.1 hbn).1).trans hbn
      have hB2 := hB.trans (hb.mono hB.size)
      have hwl2 := Nat.le_trans hwl hb.size
      clear hb d0 hL hTI2 hbW hbn hB
      cases hin : inB p.data.toList e.path.data.toList
      · have hpl2 : placeM p q e = e.path := by unfold placeM; rw [hin]; rfl
        have hem : e.path.toList.isEmpty = false := by rw [Lib.toList_data]; have := pathB_ne _ (ent_pathB hx); simpa using this
        have hmk : ((pre ++ [(⟨e, hx⟩ : { e : Ent // entB e = true })]).map (·.1)).map (mvE p q) = (pre.map (·.1)).map (mvE p q) ++ [mvE p q e] := by rw [List.map_append, List.map_append]; rfl
        have hlen : (putAll ((pre.map (·.1)).map (mvE p q))).length ≤ 900 := by
          have h1 := putAll_len ((pre.map (·.1)).map (mvE p q))
          rw [List.length_map, List.length_map] at h1
          omega
        have hput := mapPut_any w2.heap.size w2.heap.size (putAll ((pre.map (·.1)).map (mvE p q))) (mvE p q e) W2 hlen (up_asc (putAll_up _)) (Nat.le_refl _) hL2
        rw [← putAll_snoc, ← hmk, mv_nodeV, show (mvE p q e).path = e.path from hpl2] at hput
        rw [hnv] at hput
        try rw [hnv]
        have hne : ∀ x ∈ (pre ++ [(⟨e, hx⟩ : { e : Ent // entB e = true })]).map (·.1), (placeM p q x).toList.isEmpty = false := by
          intro x hxm
          rw [List.map_append, List.mem_append] at hxm
          rcases hxm with h | h
          · exact unhid hall x h
          · simp at h; subst h; rw [hpl2]; exact hem
        have HP := hid hput
        have HI := hid (And.intro hO (And.intro hT2 (And.intro hbx2 (And.intro hbn2 (And.intro hB2 hne)))))
        have HL0 := hid hL2
        clear hput hO hL2 hT2 hbx2 hB2 hmk hlen hbn2 hne hpl2
        gi_wp2
        refine ⟨trivial, (CallsIn.inRound l (callsIn_wide.2 (unhid HP))).mono ?_⟩
        rintro x W9 ⟨⟨v, rfl⟩, hT9, hB9, hO9⟩
        obtain ⟨hO, hT2, hbx2, hbn2, hB2, hne⟩ := unhid HI
        have hap2 : Apart (.cells #[.pointer (some ⟨w1.heap.size, 0, none⟩)] 104 (0, 0)) := apart_of (by decide)
        have HF := hid (show KeepsOthers W W9 ∧ (TreeIn (w2.heap.size + 1) w1.heap.size wA.heap.size vp vn ks W → TreeIn (w2.heap.size + 1) w1.heap.size wA.heap.size vp vn ks W9) ∧ (TreeAt W9 w2.heap.size w2.heap.size (putAll (((pre ++ [(⟨e, hx⟩ : { e : Ent // entB e = true })]).map (·.1)).map (mvE p q))) ∧ TreeIn (w2.heap.size + 1) w1.heap.size wA.heap.size vp vn ks W9 ∧ BxM W9 w.heap.size p q ∧ W9.heap[w2.heap.size + 1]? = some (.cells #[.pointer (some ⟨w1.heap.size, 0, none⟩)] 104 (0, 0)) ∧ Hid (∀ x ∈ (pre ++ [(⟨e, hx⟩ : { e : Ent // entB e = true })]).map (·.1), (placeM p q x).toList.isEmpty = false)) ∧ Below w.heap.size w W9 by
          have hTF : TreeIn (w2.heap.size + 1) w1.heap.size wA.heap.size vp vn ks W9 := treeIn_kept2 hT2 (fun k hk => hB9.block k hk) hbl (unhid HRW).1 (unhid HRW).2 (fun o ho hap => hO9 _ o (by omega) ho hap) ⟨_, _, _, hbn2, by decide⟩
          exact ⟨hO.trans ⟨hB9.size, fun k o hk hc => by
              by_cases hkb : k = w2.heap.size
              · subst hkb; obtain ⟨_, _, q1, _⟩ := (unhid HL0); rw [hk] at q1; cases q1; cases hc
              · exact hO9 k o hkb hk (fun cs t f e => by subst e; cases hc)⟩, fun _ => hTF, ⟨hT9, hTF, hbx2.keep (fun k hk => hB9.block k (by omega)), hO9 _ _ (by omega) hbn2 hap2, hid hne⟩, hB2.trans (hB9.mono (by omega))⟩)
        clear hT9 hB9 hO9 hO hT2 hbx2 hB2 hbn2 hap2 hne
        gi_wp2
        exact unhid HF
      · have hpl2 : placeM p q e = moveS e.path p q := by unfold placeM; rw [hin]; rfl
        obtain ⟨d0, -⟩ := cell_of_box_l hbx2.1
        obtain ⟨d1, -⟩ := cell_of_box_l hbx2.2.1
        have HI0 := hid (And.intro hO (And.intro hL2 (And.intro hT2 (And.intro hbx2 (And.intro hbn2 hB2)))))
        clear hO hL2 hT2 hbx2 hbn2 hB2
        gi_wp2
        refine ⟨trivial, (CallsIn.inRound l (callsIn_wide.2 (PathMove_any e.path p q hpx (by unfold maxLen; omega) (by unfold maxLen; omega) _))).mono ?_⟩
        rintro x W3 ⟨rfl, hb⟩
        obtain ⟨hO0, hL0, hT0, hbx0, hbn0, hB0⟩ := unhid HI0
        have hO := hO0.trans (KeepsOthers_of_below hb)
        have hL2 := hL0.below hb
        have hT2 := treeIn_below hT0 hb
        have hbx2 := hbx0.keep (fun k hk => hb.block k (by omega))
        have hbn2 := (hb.block _ (Array.getElem?_eq_some_iff.1 hbn0).1).trans hbn0
        have hB2 := hB0.trans (hb.mono hB0.size)
        have hwl3 := Nat.le_trans hwl2 hb.size
        clear hb d0 d1 hO0 hL0 hT0 hbx0 hbn0 hB0 HI0
        cases hem : (moveS e.path p q).toList.isEmpty
        · skip
          have hmk : ((pre ++ [(⟨e, hx⟩ : { e : Ent // entB e = true })]).map (·.1)).map (mvE p q) = (pre.map (·.1)).map (mvE p q) ++ [mvE p q e] := by rw [List.map_append, List.map_append]; rfl
          have hlen : (putAll ((pre.map (·.1)).map (mvE p q))).length ≤ 900 := by
            have h1 := putAll_len ((pre.map (·.1)).map (mvE p q))
            rw [List.length_map, List.length_map] at h1
            omega
          have hput := mapPut_any w2.heap.size w2.heap.size (putAll ((pre.map (·.1)).map (mvE p q))) (mvE p q e) W3 hlen (up_asc (putAll_up _)) (Nat.le_refl _) hL2
          rw [← putAll_snoc, ← hmk, mv_nodeV, show (mvE p q e).path = moveS e.path p q from hpl2] at hput
          rw [hnv] at hput
          try rw [hnv]
          have hne : ∀ x ∈ (pre ++ [(⟨e, hx⟩ : { e : Ent // entB e = true })]).map (·.1), (placeM p q x).toList.isEmpty = false := by
            intro x hxm
            rw [List.map_append, List.mem_append] at hxm
            rcases hxm with h | h
            · exact unhid hall x h
            · simp at h; subst h; rw [hpl2]; exact hem
          have HP := hid hput
          have HI := hid (And.intro hO (And.intro hT2 (And.intro hbx2 (And.intro hbn2 (And.intro hB2 hne)))))
          have HL0 := hid hL2
          clear hput hO hL2 hT2 hbx2 hB2 hmk hlen hbn2 hne hpl2
          gi_wp2
          refine ⟨trivial, (CallsIn.inRound l (callsIn_wide.2 (unhid HP))).mono ?_⟩
          rintro x W9 ⟨⟨v, rfl⟩, hT9, hB9, hO9⟩
          obtain ⟨hO, hT2, hbx2, hbn2, hB2, hne⟩ := unhid HI
          have hap2 : Apart (.cells #[.pointer (some ⟨w1.heap.size, 0, none⟩)] 104 (0, 0)) := apart_of (by decide)
          have HF := hid (show KeepsOthers W W9 ∧ (TreeIn (w2.heap.size + 1) w1.heap.size wA.heap.size vp vn ks W → TreeIn (w2.heap.size + 1) w1.heap.size wA.heap.size vp vn ks W9) ∧ (TreeAt W9 w2.heap.size w2.heap.size (putAll (((pre ++ [(⟨e, hx⟩ : { e : Ent // entB e = true })]).map (·.1)).map (mvE p q))) ∧ TreeIn (w2.heap.size + 1) w1.heap.size wA.heap.size vp vn ks W9 ∧ BxM W9 w.heap.size p q ∧ W9.heap[w2.heap.size + 1]? = some (.cells #[.pointer (some ⟨w1.heap.size, 0, none⟩)] 104 (0, 0)) ∧ Hid (∀ x ∈ (pre ++ [(⟨e, hx⟩ : { e : Ent // entB e = true })]).map (·.1), (placeM p q x).toList.isEmpty = false)) ∧ Below w.heap.size w W9 by
            have hTF : TreeIn (w2.heap.size + 1) w1.heap.size wA.heap.size vp vn ks W9 := treeIn_kept2 hT2 (fun k hk => hB9.block k hk) hbl (unhid HRW).1 (unhid HRW).2 (fun o ho hap => hO9 _ o (by omega) ho hap) ⟨_, _, _, hbn2, by decide⟩
            exact ⟨hO.trans ⟨hB9.size, fun k o hk hc => by
                by_cases hkb : k = w2.heap.size
                · subst hkb; obtain ⟨_, _, q1, _⟩ := (unhid HL0); rw [hk] at q1; cases q1; cases hc
                · exact hO9 k o hkb hk (fun cs t f e => by subst e; cases hc)⟩, fun _ => hTF, ⟨hT9, hTF, hbx2.keep (fun k hk => hB9.block k (by omega)), hO9 _ _ (by omega) hbn2 hap2, hid hne⟩, hB2.trans (hB9.mono (by omega))⟩)
          clear hT9 hB9 hO9 hO hT2 hbx2 hB2 hbn2 hap2 hne
          gi_wp2
          exact unhid HF
        · have hbad : ∃ x ∈ (pre ++ [(⟨e, hx⟩ : { e : Ent // entB e = true })]).map (·.1), (placeM p q x).toList.isEmpty = true := ⟨e, by simp, by rw [hpl2]; exact hem⟩
          have hTm : TreeAt W3 wA.heap.size w1.heap.size ks := ⟨vp, vn, hT2.2.1, hT2.2.2⟩
          have ENT := hid (entries_any wA.heap.size w1.heap.size ks W3 (by omega) hkb hTm)
          have HI := hid (And.intro hO (And.intro hbx2 (And.intro hB2 hbad)))
          clear hO hL2 hT2 hbx2 hbn2 hB2 hbad hTm hpl2
          gi_wp2
          refine ⟨trivial, (CallsIn.inRound l (callsIn_wide.2 (unhid ENT))).mono ?_⟩
          rintro x W9 ⟨v, rfl, hown, hb⟩
          obtain ⟨va, vc, rfl⟩ := ownsRow_slice hown
          obtain ⟨hO, hbx2, hB2, hbad⟩ := unhid HI
          have hbx9 := hbx2.keep (fun k hk => hb.block k (by omega))
          have hB9 := hB2.trans (hb.mono hB2.size)
          have hO9 := hO.trans (KeepsOthers_of_below hb)
          obtain ⟨k2, f2⟩ := cell_of_box_l hbx9.2.2.1
          obtain ⟨k3, f3⟩ := cell_of_box_l hbx9.2.2.2
          have HF := hid (And.intro hown (And.intro hbx9 (And.intro hB9 (And.intro hO9 hbad))))
          clear hown hb hO hbx2 hB2 hbad hbx9 hB9 hO9 HI
          gi_wp2
          obtain ⟨hown, hbx9, hB9, hO9, hbad⟩ := unhid HF
          have hne23 : w.heap.size + 1 + 1 ≠ w.heap.size + 1 + 1 + 1 := by omega
          exact ⟨hO9.trans ((KeepsOthers.setCell _ _ _).trans (KeepsOthers.setCell _ _ _)), ⟨rfl, hbad, ⟨.slice va ks.length vc, (Below.heap_setCell _ _ _ _ hne23).trans (by rw [heap_setCell_same _ _ 0 _ _ _ hbx9.2.2.1]; rfl), ownsRow_base (ownsRow_setCell_below (ownsRow_setCell_below hown (a := ⟨w.heap.size + 1 + 1, 0, none⟩) (show w.heap.size + 1 + 1 < W3.heap.size by omega) _) (a := ⟨w.heap.size + 1 + 1 + 1, 0, none⟩) (show w.heap.size + 1 + 1 + 1 < W3.heap.size by omega) _) (by omega)⟩,
            by rw [heap_setCell_same _ _ 0 _ _ _ ((Below.heap_setCell _ _ _ _ hne23.symm).trans hbx9.2.2.2)]; rfl⟩, (hB9.setCell (p := ⟨w.heap.size + 1 + 1, 0, none⟩) (show w.heap.size ≤ w.heap.size + 1 + 1 by omega) _).setCell (p := ⟨w.heap.size + 1 + 1 + 1, 0, none⟩) (show w.heap.size ≤ w.heap.size + 1 + 1 + 1 by omega) _⟩
    case stop =>
      rintro D c pre W hD hpr ⟨⟨rfl, hbad, ⟨v, hv1, hv2⟩, hb7⟩, hB⟩ hK
      have hno : moveAll p q ks = false := by
        obtain ⟨x, hxm, hxe⟩ := hbad
        exact List.all_eq_false.2 ⟨x, hpr.subset hxm, by rw [hxe]; simp⟩
      have hg := grownBy_putObj' W D (.deferred none)
      have hr : ∀ r, some D = some r → ∃ o : Obj, W.heap[r]? = some o ∧ o.isCells = false := fun r e => by cases e; exact ⟨_, hK, rfl⟩
      have s2 := (cell_of_box_l (cells_grown hg hr hv1)).1
      have s3 := (cell_of_box_l (cells_grown hg hr hb7)).1
      have HF := hid (And.intro (row_grown hg hr hv2) (And.intro (hB.trans (belowK_b (w := w) (Nat.le_refl _) _ D (.deferred (some [])) (.deferred none) (by omega) hK rfl rfl)) (And.intro hno hK)))
      clear hno hg hr hv1 hv2 hb7 hB hbad hK
      gi_wp2
      refine ⟨by simp, .inl ⟨_, _, rfl, run_takeDeferred (unhid HF).2.2.2, ?_⟩⟩
      obtain ⟨hown, hB, hno, -⟩ := unhid HF
      refine ⟨.tuple #[v, .bool false], ?_, _, by rw [(unhid E).1, hno], by rw [(unhid E).2, hno]; exact hown, hB⟩
      simp [results, Try.f19, go_sem, s2, s3]
    case done =>
      rintro D ys W hD hys ⟨⟨hL, hTI2, hbW, hbn, hall⟩, hB⟩ hK
      rw [hys] at hL hall
      have hyes : moveAll p q ks = true := List.all_eq_true.2 (fun x hx => by rw [unhid hall x hx]; rfl)
      have hlen : (putAll (ks.map (mvE p q))).length ≤ 1000 := by have := putAll_len (ks.map (mvE p q)); rw [List.length_map] at this; omega
      have hen : ∀ e ∈ putAll (ks.map (mvE p q)), entB e = true := fun e he => by
        obtain ⟨x, hx, rfl⟩ := List.mem_map.1 (putAll_mem _ _ he)
        exact mv_ok (hkb x hx) (unhid hall x hx)
      have ENT := hid (entries_any w2.heap.size w2.heap.size (putAll (ks.map (mvE p q))) W hlen hen hL)
      have HI := hid (And.intro hB (And.intro hK (And.intro hbW hyes)))
      have hDl := (Array.getElem?_eq_some_iff.1 hK).1
      have hwl : w.heap.size + 4 ≤ W.heap.size := by have := (Array.getElem?_eq_some_iff.1 hbW.2.2.2).1; omega
      clear hL hTI2 hbW hbn hB hK hlen hen hall hyes
      gi_wp2
      refine ⟨trivial, (callsIn_wide.2 (unhid ENT)).mono ?_⟩
      rintro x W3 ⟨v, rfl, hown, hb3⟩
      obtain ⟨va, vc, rfl⟩ := ownsRow_slice hown
      obtain ⟨hB, hK, hbW, hyes⟩ := unhid HI
      have hbx3 := hbW.keep (fun k hk => hb3.block k (by omega))
      obtain ⟨k2, f2⟩ := cell_of_box_l hbx3.2.2.1
      obtain ⟨k3, f3⟩ := cell_of_box_l hbx3.2.2.2
      have HF := hid (And.intro hown (And.intro (hB.trans (hb3.mono hB.size)) (And.intro ((hb3.block _ hDl).trans hK) (And.intro hbx3 hyes))))
      have hw3 := hb3.size
      clear hown hb3 hB hK hbW hyes hbx3 HI
      gi_wp2
      obtain ⟨hown, hB, hK, hbx3, hyes⟩ := unhid HF
      have hne23 : w.heap.size + 1 + 1 ≠ w.heap.size + 1 + 1 + 1 := by omega
      obtain ⟨WF, hWF⟩ : ∃ WF, WF = ((W3.setCell ⟨w.heap.size + 1 + 1, 0, none⟩ (.slice va (putAll (ks.map (mvE p q))).length vc)).setCell ⟨w.heap.size + 1 + 1 + 1, 0, none⟩ (.bool true)) := ⟨_, rfl⟩
      have hKF : WF.heap[D]? = some (.deferred (some [])) := by rw [hWF]; exact (Below.heap_setCell _ _ _ _ (show D ≠ w.heap.size + 1 + 1 + 1 by omega)).trans ((Below.heap_setCell _ _ _ _ (show D ≠ w.heap.size + 1 + 1 by omega)).trans hK)
      have hv1 : WF.heap[w.heap.size + 1 + 1]? = some (.cells #[.slice va (putAll (ks.map (mvE p q))).length vc] 23 (0, 0)) := by rw [hWF]; exact (Below.heap_setCell _ _ _ _ hne23).trans (by rw [heap_setCell_same _ _ 0 _ _ _ hbx3.2.2.1]; rfl)
      have hb7 : WF.heap[w.heap.size + 1 + 1 + 1]? = some (.cells #[.bool true] 4 (0, 0)) := by rw [hWF, heap_setCell_same _ _ 0 _ _ _ ((Below.heap_setCell _ _ _ _ hne23.symm).trans hbx3.2.2.2)]; rfl
      have hownF : WF.ownsRow W.heap.size 27 4 (.slice va (putAll (ks.map (mvE p q))).length vc) (putAll (ks.map (mvE p q))).length (valsOf (putAll (ks.map (mvE p q)))) := by rw [hWF]; exact ownsRow_setCell_below (ownsRow_setCell_below hown (a := ⟨w.heap.size + 1 + 1, 0, none⟩) (show w.heap.size + 1 + 1 < W.heap.size by omega) _) (a := ⟨w.heap.size + 1 + 1 + 1, 0, none⟩) (show w.heap.size + 1 + 1 + 1 < W.heap.size by omega) _
      have hBF : Below w.heap.size w WF := by rw [hWF]; exact (hB.setCell (p := ⟨w.heap.size + 1 + 1, 0, none⟩) (show w.heap.size ≤ w.heap.size + 1 + 1 by omega) _).setCell (p := ⟨w.heap.size + 1 + 1 + 1, 0, none⟩) (show w.heap.size ≤ w.heap.size + 1 + 1 + 1 by omega) _
      rw [← hWF]
      refine ⟨by simp, .inl ⟨_, _, rfl, run_takeDeferred hKF, ?_⟩⟩
      have hg := grownBy_putObj' WF D (.deferred none)
      have hr : ∀ r, some D = some r → ∃ o : Obj, WF.heap[r]? = some o ∧ o.isCells = false := fun r e => by cases e; exact ⟨_, hKF, rfl⟩
      have s2 := (cell_of_box_l (cells_grown hg hr hv1)).1
      have s3 := (cell_of_box_l (cells_grown hg hr hb7)).1
      refine ⟨.tuple #[.slice va (putAll (ks.map (mvE p q))).length vc, .bool true], ?_, _, by rw [(unhid E).1, hyes], by rw [(unhid E).2, hyes]; exact ownsRow_base (row_grown hg hr hownF) (by omega), hBF.trans (belowK_b (w := w) (Nat.le_refl _) _ D (.deferred (some [])) (.deferred none) (by omega) hKF rfl rfl)⟩
      simp [results, Try.f19, go_sem, s2, s3]
end Go.Proofs.Ytaefjibnnbdaaaa
