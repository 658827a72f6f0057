/- Texts of this proof, one behind the other; each says at its head what it shows. -/
import Derived.Test.YtlnpjiabdebmgaaGreatJoin8
import Derived.Laws.Entries
import Derived.Test.YtlnpjiabdebmgaaGreatJoin6
import Derived.Test.YtlnpjiabdebmgaaGreatJoin4
import Derived.Test.YtlnpjiabdebmgaaGreatJoin1
import Derived.Deep.RegionHeld
import Derived.Maps.AppendAt
/- An entry put into a tree: which blocks change, and where its rows lie then. -/
namespace Go.Proofs.YtlnpjiabdebmgaaGreat
open Go.RowKit Go.Shelf

/-- A tree at a block, its rows by name. -/
def RowsV (W : World) (N bt : Nat) (vp vn : Value) (es : List Ent) : Prop := W.heap[bt]? = some (.cells #[vp, vn] 145 (0, 0)) ∧ W.ownsRow N 9 1 vp es.length (es.map fun e => .string e.path) ∧ W.ownsRow N 162 1 vn es.length (es.map nodeV)
/-- A row is where it was, or new. -/
def FreshV (w : World) (v v' : Value) : Prop := ∀ k, v'.ownBlock = some k → v.ownBlock = some k ∨ w.heap.size ≤ k
/-- Behind a put: the tree, its rows where they were or new; nothing else has changed. -/
def PutV (w w' : World) (N bt : Nat) (vp vn : Value) (es : List Ent) : Prop := (∃ vp' vn', RowsV w' N bt vp' vn' es ∧ FreshV w vp vp' ∧ FreshV w vn vn') ∧ Below N w w' ∧ (∀ k o, k ≠ bt → w.heap[k]? = some o → Apart o → w'.heap[k]? = some o) ∧ ∀ k, k < w.heap.size → k ≠ bt → vp.ownBlock ≠ some k → vn.ownBlock ≠ some k → w'.heap[k]? = w.heap[k]?

set_option maxRecDepth 100000 in
set_option maxHeartbeats 4000000 in
theorem mapPut_insV (N bt : Nat) (vp vn : Value) (es : List Ent) (e : Ent) (w : World) (hn : es.length ≤ 900) (ha : Asc (pathsOf es)) (hN : N ≤ bt) (ht0 : thereE es e.path = false) (h : RowsV w N bt vp vn es) :
    Calls Tryz.prog 169 #[.pointer (some ⟨bt, 0, .none⟩), .string e.path, nodeV e] w fun x w' => (∃ v, x = .returned v) ∧ PutV w w' N bt vp vn (insAt es e) := by
  obtain ⟨h1, h2, h3⟩ := h
  have hbl : bt < w.heap.size := (Array.getElem?_eq_some_iff.1 h1).1
  obtain ⟨a, cap, hva, hT⟩ := texts_of h2
  have hpn : (pathsOf es).length = es.length := by simp [pathsOf]
  have hl : (pathsOf es).length ≤ 1048576 := by omega
  have ht : thereP (pathsOf es) e.path = false := by rw [thereP_E, ht0]
  have hpp : placeP (pathsOf es) e.path = placeE es e.path := placeP_E _ _
  have hkl : placeE es e.path ≤ es.length := placeE_le es e.path
  have hins : insAt es e = es.take (placeE es e.path) ++ [e] ++ es.drop (placeE es e.path) := rfl
  have hT1 : ∀ v ∈ es.map (fun e => Value.string e.path), v.oneCell' = true := fun v hv => by obtain ⟨x, -, rfl⟩ := List.mem_map.1 hv; rfl
  have hN1 : ∀ v ∈ es.map nodeV, v.oneCell' = true := fun v hv => by obtain ⟨x, -, rfl⟩ := List.mem_map.1 hv; exact nodeV_one x
  obtain ⟨k, hk⟩ : ∃ k, placeE es e.path = k := ⟨_, rfl⟩
  rw [hk] at hpp hkl hins
  rw [hins]
  have hS := BinarySearch_any (pathsOf es) a cap e.path w hl ha hT
  rw [hpp, ht, hpn] at hS
  rw [hpn] at hva
  subst hva
  obtain ⟨T, nv, hV⟩ := nodeV_shape e
  have hIN := fun n i b v xs w => InsertN_any N n i b v xs e w
  simp only [hV] at hIN
  rw [hV]
  have HV := hid hV
  have HIN := hid hIN
  clear hV hIN
  have HS := hid hS
  obtain ⟨c0, c1, f0, f1⟩ := two_cells h1
  have H2 := hid h2
  have H3 := hid h3
  have H1 := hid h1
  have HT1 := hid hT1
  have HN1 := hid hN1
  clear hT ha hl ht hpp h1 h2 h3 hpn hS hins hk ht0 hT1 hN1
  go_enter Tryz.func169, Tryz.ntmps169
  go_wp2_with fail
  refine (unhid HS).mono ?_
  rintro x w1 ⟨rfl, hw1⟩
  rw [hw1]
  clear hw1
  go_wp2_with fail
  refine (InsertS_any N es.length k w.heap.size _ _ e.path (w.alloc (.cells #[.string e.path] 9)) hkl (by omega) (by simp; omega) ((unhid H2).alloc _) (fun eq => by have := ((unhid H2).lt _ eq).2; omega) (World.alloc_heap_new w _) (unhid HT1)).mono ?_
  rintro x w2 ⟨v2, rfl, hown2, hgrow2, hat2⟩
  obtain ⟨g2, cap2, rfl⟩ := ownsRow_succ hown2
  have h1a : (w.alloc (.cells #[.string e.path] 9)).heap[bt]? = some (.cells #[.slice a es.length cap, vn] 145 (0, 0)) := (Below.heap_alloc _ _ _ hbl).trans (unhid H1)
  have h12 : w2.heap[bt]? = some (.cells #[.slice a es.length cap, vn] 145 (0, 0)) := (hgrow2.block bt (by simp; omega) (row_ne ((unhid H2).alloc (.cells #[.string e.path] 9)) h1a (by decide))).trans h1a
  obtain ⟨c0, c1, f0, f1⟩ := two_cells h12
  have h32 : w2.ownsRow N 162 1 vn es.length (es.map nodeV) := by
    refine ownsRow_kept ((unhid H3).alloc (.cells #[.string e.path] 9)) (fun g hg => hgrow2.block g (((unhid H3).alloc (.cells #[.string e.path] 9)).lt g hg).2 ?_)
    rcases ((unhid H3).alloc (.cells #[.string e.path] 9)).2 with ⟨rfl, _⟩ | ⟨g', cap', cur', rfl, _, hgc, _⟩
    · cases hg
    · cases hg; exact row_ne ((unhid H2).alloc (.cells #[.string e.path] 9)) hgc (by decide)
  have hg2w : g2 ≠ bt := fun eq => by
    rcases hown2.2 with ⟨h, _⟩ | ⟨g', cap', cur', hv, _, hgc, _⟩
    · cases h
    · cases hv; exact type_ne hgc h12 (by decide) eq
  have HB2 := hid (And.intro hown2 (And.intro hgrow2 (And.intro h12 h32)))
  have HAT2 := hid hat2
  have hsz2 : w.heap.size + 1 ≤ w2.heap.size := by have := hgrow2.size; simpa using this
  clear hown2 hgrow2 h12 h32 h1a hat2
  go_wp2_with fail
  obtain ⟨W3, hW3⟩ : ∃ W3, W3 = (w2.setCell ⟨bt, 0, .none⟩ (.slice (some ⟨g2, 0, .none⟩) (es.length + 1) cap2)).alloc (.cells #[.iface T nv] 162) := ⟨_, rfl⟩
  rw [← hW3]
  obtain ⟨hown2, hgrow2, h12, h32⟩ := unhid HB2
  have hbl2 : bt < w2.heap.size := by omega
  have h13 : W3.heap[bt]? = some (.cells #[.slice (some ⟨g2, 0, .none⟩) (es.length + 1) cap2, vn] 145 (0, 0)) := by
    rw [hW3, Below.heap_alloc _ _ _ (by simp; omega), heap_setCell_same _ bt 0 _ _ _ h12]; rfl
  have hk3 : ∀ g, g < w2.heap.size → g ≠ bt → W3.heap[g]? = w2.heap[g]? := fun g hg hne => by
    rw [hW3, Below.heap_alloc _ _ _ (by simpa using hg), Below.heap_setCell _ _ _ _ hne]
  have h33 : W3.ownsRow N 162 1 vn es.length (es.map nodeV) := ownsRow_kept h32 (fun g hg => hk3 g (h32.lt g hg).2 (fun eq => (row_ne h32 h12 (by decide)) (by rw [hg, eq])))
  have hown3 : W3.ownsRow N 9 1 (.slice (some ⟨g2, 0, .none⟩) (es.length + 1) cap2) (es.length + 1) ((es.map fun e => .string e.path).take k ++ [.string e.path] ++ (es.map fun e => .string e.path).drop k) := ownsRow_kept hown2 (fun g hg => hk3 g (hown2.lt g hg).2 (fun eq => by cases hg; exact hg2w eq))
  have hs3 : W3.heap.size = w2.heap.size + 1 := by rw [hW3]; simp
  have hc3 : W3.heap[w2.heap.size]? = some (.cells #[.iface T nv] 162 (0, 0)) := by
    rw [hW3]; have := World.alloc_heap_new (w2.setCell ⟨bt, 0, .none⟩ (.slice (some ⟨g2, 0, .none⟩) (es.length + 1) cap2)) (.cells #[.iface T nv] 162); simpa using this
  refine (unhid HIN es.length k w2.heap.size vn _ W3 hkl (by omega) (by omega) h33 (fun eq => by have := (h32.lt _ eq).2; omega) hc3 (unhid HN1)).mono ?_
  rintro x w4 ⟨v4, rfl, hown4, hgrow4, hat4⟩
  obtain ⟨g4, cap4, rfl⟩ := ownsRow_succ hown4
  have h14 : w4.heap[bt]? = some (.cells #[.slice (some ⟨g2, 0, .none⟩) (es.length + 1) cap2, vn] 145 (0, 0)) := (hgrow4.block bt (by omega) (row_ne h33 h13 (by decide))).trans h13
  have hrow4 : w4.ownsRow N 9 1 (.slice (some ⟨g2, 0, .none⟩) (es.length + 1) cap2) (es.length + 1) ((es.map fun e => .string e.path).take k ++ [.string e.path] ++ (es.map fun e => .string e.path).drop k) := ownsRow_kept hown3 (fun g hg => hgrow4.block g (hown3.lt g hg).2 (by
    rcases hown3.2 with ⟨h, _⟩ | ⟨g', cap', cur', hv, _, hgc, _⟩
    · cases h
    · cases hv; cases hg; exact row_ne h33 hgc (by decide)))
  obtain ⟨c0, c1, f0, f1⟩ := two_cells h14
  have hg4w : g4 ≠ bt := fun eq => by
    rcases hown4.2 with ⟨h, _⟩ | ⟨g', cap', cur', hv, _, hgc, _⟩
    · cases h
    · cases hv; exact type_ne hgc h14 (by decide) eq
  have hF : RowsV (w4.setCell ⟨bt, 1, .none⟩ (.slice (some ⟨g4, 0, .none⟩) (es.length + 1) cap4)) N bt (.slice (some ⟨g2, 0, .none⟩) (es.length + 1) cap2) (.slice (some ⟨g4, 0, .none⟩) (es.length + 1) cap4) (es.take k ++ [e] ++ es.drop k) := by
    refine ⟨?_, ?_, ?_⟩
    · rw [heap_setCell_same _ bt 1 _ _ _ h14]; rfl
    · rw [show (es.take k ++ [e] ++ es.drop k).length = es.length + 1 by simp; omega, List.map_append, List.map_append, List.map_take, List.map_drop]
      exact ownsRow_kept hrow4 (fun g hg => Below.heap_setCell _ _ _ _ (fun eq => by cases hg; exact hg2w eq))
    · rw [show (es.take k ++ [e] ++ es.drop k).length = es.length + 1 by simp; omega, List.map_append, List.map_append, List.map_take, List.map_drop]
      rw [← unhid HV] at hown4
      exact ownsRow_kept hown4 (fun g hg => Below.heap_setCell _ _ _ _ (fun eq => by cases hg; exact hg4w eq))
  have hB : Below N w (w4.setCell ⟨bt, 1, .none⟩ (.slice (some ⟨g4, 0, .none⟩) (es.length + 1) cap4)) := by
    have b1 : Below N w (w.alloc (.cells #[.string e.path] 9)) := (Below.refl _ _).alloc (by omega) _
    have b2 : Below N w w2 := b1.grown hgrow2 (by simp; omega) (fun g hg => (((unhid H2).alloc (.cells #[.string e.path] 9)).lt g hg).1)
    have b3 : Below N w W3 := by rw [hW3]; exact (b2.setCell hN _).alloc (by simp; omega) _
    have b4 : Below N w w4 := b3.grown hgrow4 (by omega) (fun g hg => (h33.lt g hg).1)
    exact b4.setCell hN _
  have hO : ∀ k o, k ≠ bt → w.heap[k]? = some o → Apart o → (w4.setCell ⟨bt, 1, .none⟩ (.slice (some ⟨g4, 0, .none⟩) (es.length + 1) cap4)).heap[k]? = some o := by
    intro k o hk ho hap
    have hkl : k < w.heap.size := (Array.getElem?_eq_some_iff.1 ho).1
    have a1 : (w.alloc (.cells #[.string e.path] 9)).heap[k]? = some o := (Below.heap_alloc _ _ _ hkl).trans ho
    have a2 : w2.heap[k]? = some o := (hgrow2.block k (by simp; omega) (fun eq => by
      rcases ((unhid H2).alloc (.cells #[.string e.path] 9)).2 with ⟨h, _⟩ | ⟨g', cap', cur', hv, _, hgc, _⟩
      · rw [h] at eq; cases eq
      · rw [hv] at eq; cases eq; rw [a1] at hgc; cases hgc; exact (hap _ _ _ rfl).1 rfl)).trans a1
    have a3 : W3.heap[k]? = some o := (hk3 k (by omega) hk).trans a2
    have a4 : w4.heap[k]? = some o := (hgrow4.block k (by omega) (fun eq => by
      rcases h33.2 with ⟨h, _⟩ | ⟨g', cap', cur', hv, _, hgc, _⟩
      · rw [h] at eq; cases eq
      · rw [hv] at eq; cases eq; rw [a3] at hgc; cases hgc; exact (hap _ _ _ rfl).2 rfl)).trans a3
    exact (Below.heap_setCell _ _ _ _ hk).trans a4
  have hS : ∀ k, k < w.heap.size → k ≠ bt → (Value.slice a es.length cap).ownBlock ≠ some k → vn.ownBlock ≠ some k → (w4.setCell ⟨bt, 1, .none⟩ (.slice (some ⟨g4, 0, .none⟩) (es.length + 1) cap4)).heap[k]? = w.heap[k]? := by
    intro k hk hkb hkp hkn
    have a1 : (w.alloc (.cells #[.string e.path] 9)).heap[k]? = w.heap[k]? := Below.heap_alloc _ _ _ hk
    have a2 : w2.heap[k]? = w.heap[k]? := (hgrow2.block k (by simp; omega) (fun eq => hkp eq.symm)).trans a1
    have a3 : W3.heap[k]? = w.heap[k]? := (hk3 k (by omega) hkb).trans a2
    have a4 : w4.heap[k]? = w.heap[k]? := (hgrow4.block k (by omega) (fun eq => hkn eq.symm)).trans a3
    exact (Below.heap_setCell _ _ _ _ hkb).trans a4
  have hf2 : FreshV w (.slice a es.length cap) (.slice (some ⟨g2, 0, .none⟩) (es.length + 1) cap2) := fun k hk => by
    rcases unhid HAT2 with h | h
    · exact .inl (h ▸ hk)
    · rw [h] at hk; injection hk with hk; right; rw [World.size_alloc] at hk; omega
  have hf4 : FreshV w vn (.slice (some ⟨g4, 0, .none⟩) (es.length + 1) cap4) := fun k hk => by
    rcases hat4 with h | h
    · exact .inl (h ▸ hk)
    · rw [h] at hk; injection hk with hk; right; omega
  have HF := hid (show PutV w (w4.setCell ⟨bt, 1, .none⟩ (.slice (some ⟨g4, 0, .none⟩) (es.length + 1) cap4)) N bt (.slice a es.length cap) vn (es.take k ++ [e] ++ es.drop k) from ⟨⟨_, _, hF, hf2, hf4⟩, hB, hO, hS⟩)
  clear hF hB hO hS hf2 hf4 hat4 HAT2 hown4 hgrow4 h14 hrow4 h13 hk3 h33 hown3 hc3 hW3 hown2 hgrow2 h12 h32 HB2
  go_wp2_with fail
  go_end0
  exact ⟨⟨_, rfl⟩, unhid HF⟩

set_option maxRecDepth 100000 in
set_option maxHeartbeats 4000000 in
theorem mapPut_overV (N bt : Nat) (vp vn : Value) (es : List Ent) (e : Ent) (w : World) (hn : es.length ≤ 900) (ha : Asc (pathsOf es)) (ht0 : thereE es e.path = true) (h : RowsV w N bt vp vn es) :
    Calls Tryz.prog 169 #[.pointer (some ⟨bt, 0, .none⟩), .string e.path, nodeV e] w fun x w' => (∃ v, x = .returned v) ∧ PutV w w' N bt vp vn (es.set (placeE es e.path) e) := by
  obtain ⟨h1, h2, h3⟩ := h
  have hbl : bt < w.heap.size := (Array.getElem?_eq_some_iff.1 h1).1
  obtain ⟨a, cap, hva, hT⟩ := texts_of h2
  have hpn : (pathsOf es).length = es.length := by simp [pathsOf]
  have hl : (pathsOf es).length ≤ 1048576 := by omega
  have ht : thereP (pathsOf es) e.path = true := by rw [thereP_E, ht0]
  obtain ⟨old, hj, hpo⟩ := there_get ht0
  have hjl : placeE es e.path < es.length := (List.getElem?_eq_some_iff.1 hj).1
  have hS := BinarySearch_any (pathsOf es) a cap e.path w hl ha hT
  rw [placeP_E, ht, hpn] at hS
  rw [hpn] at hva
  subst hva
  obtain ⟨T, nv, hV⟩ := nodeV_shape e
  have hse : (es.set (placeE es e.path) e).map nodeV = (es.map nodeV).set (placeE es e.path) (nodeV e) := by rw [List.map_set]
  have hsp : (es.set (placeE es e.path) e).map (fun e => Value.string e.path) = es.map (fun e => .string e.path) := by
    rw [List.map_set]
    apply List.ext_getElem?
    intro i
    rw [List.getElem?_set]
    split
    · rename_i hi
      subst hi
      rw [if_pos (by simpa using hjl), List.getElem?_map, hj, Option.map_some, hpo]
    · rfl
  obtain ⟨g, cap2, cur, rfl, hgN, hg, hszc⟩ : ∃ g cap2 cur, vn = .slice (some ⟨g, 0, .none⟩) es.length cap2 ∧ N ≤ g ∧ w.heap[g]? = some (.cells cur 162 (0, 0)) ∧ placeE es e.path < cur.size ∧ es.length ≤ cap2 := by
    rcases h3.2 with ⟨rfl, h0⟩ | ⟨g, cap, cur, rfl, hN', hg, hc, _, hsz, hcells⟩
    · omega
    · exact ⟨g, cap, cur, rfl, hN', hg, by omega, hc⟩
  have hFT : RowsV (w.setCell ⟨g, placeE es e.path, .none⟩ (nodeV e)) N bt (.slice a es.length cap) (.slice (some ⟨g, 0, .none⟩) es.length cap2) (es.set (placeE es e.path) e) := by
    refine ⟨?_, ?_, ?_⟩
    · rw [Below.heap_setCell _ _ _ _ (type_ne hg h1 (by decide)).symm]; exact h1
    · rw [List.length_set, hsp]
      refine ownsRow_kept h2 (fun g' eg => Below.heap_setCell _ _ _ _ (fun eq => ?_))
      obtain ⟨cur', hc'⟩ := (show ∃ cur', w.heap[g']? = some (.cells cur' 9 (0, 0)) by
        rcases h2.2 with ⟨hh, _⟩ | ⟨g'', cap'', cur'', hv, _, hh, _⟩
        · rw [hh] at eg; cases eg
        · rw [hv] at eg; cases eg; exact ⟨_, hh⟩)
      exact type_ne hg hc' (by decide) eq.symm
    · rw [List.length_set, hse]
      exact ownsRow_set h3 hjl rfl
  have hFB : Below N w (w.setCell ⟨g, placeE es e.path, .none⟩ (nodeV e)) := (Below.refl _ _).setCell hgN _
  have hFO : ∀ k o, k ≠ bt → w.heap[k]? = some o → Apart o → (w.setCell ⟨g, placeE es e.path, .none⟩ (nodeV e)).heap[k]? = some o := fun k o _ ho hap =>
    (Below.heap_setCell _ _ _ _ (fun eq => by
      have eq' : k = g := eq
      subst eq'
      rw [ho] at hg; cases hg; exact (hap _ _ _ rfl).2 rfl)).trans ho
  have HF := hid (show PutV w (w.setCell ⟨g, placeE es e.path, .none⟩ (nodeV e)) N bt (.slice a es.length cap) (.slice (some ⟨g, 0, .none⟩) es.length cap2) (es.set (placeE es e.path) e) from ⟨⟨_, _, hFT, fun k hk => .inl hk, fun k hk => .inl hk⟩, hFB, hFO, fun k _ _ _ hkn => Below.heap_setCell _ _ _ _ (fun eq => hkn (by have eq' : k = g := eq; rw [eq']; rfl))⟩)
  clear hFT hFB hFO hse hsp
  rw [hV] at HF ⊢
  obtain ⟨hsz1, hle⟩ := hszc
  have n0 : ∃ u, w.cell? ⟨g, placeE es e.path, .none⟩ = some u := ⟨cur[placeE es e.path], by simp [World.cell?, hg, hsz1]⟩
  obtain ⟨u, n0⟩ := n0
  have m0 : w.frozen? ⟨g, placeE es e.path, .none⟩ = false := by simp [World.frozen?, hg]
  have HS := hid hS
  obtain ⟨c0, c1, f0, f1⟩ := two_cells h1
  clear hT ha hl ht h1 h2 h3 hpn hj hS hV hg ht0 hpo hsz1
  generalize placeE es e.path = j at HS HF hjl n0 m0 ⊢
  go_enter Tryz.func169, Tryz.ntmps169
  go_wp2_with fail
  refine (unhid HS).mono ?_
  rintro x w1 ⟨rfl, hw1⟩
  rw [hw1]
  clear hw1
  go_wp2_with fail
  first | go_end0 | refine bodyPost_ret (results_none rfl _ _ _) rfl ?_
  exact ⟨⟨_, rfl⟩, unhid HF⟩

theorem mapPut_V (N bt : Nat) (vp vn : Value) (es : List Ent) (e : Ent) (w : World) (hn : es.length ≤ 900) (ha : Asc (pathsOf es)) (hN : N ≤ bt) (h : RowsV w N bt vp vn es) :
    Calls Tryz.prog 169 #[.pointer (some ⟨bt, 0, .none⟩), .string e.path, nodeV e] w fun x w' => (∃ v, x = .returned v) ∧ PutV w w' N bt vp vn (putT es e) := by
  cases ht : thereE es e.path
  · have : putT es e = insAt es e := by unfold putT; rw [ht]; rfl
    rw [this]
    exact mapPut_insV N bt vp vn es e w hn ha hN ht h
  · have : putT es e = es.set (placeE es e.path) e := by unfold putT; rw [ht]; rfl
    rw [this]
    exact mapPut_overV N bt vp vn es e w hn ha ht h
end Go.Proofs.YtlnpjiabdebmgaaGreat

/- Whether two things are one dir, by the program. -/
namespace Go.Proofs.YtlnpjiabdebmgaaGreat
open Go.RowKit Go.Shelf

theorem in_int (d : Nat) (a b : Int) (w : World) : (Op.equalIn (d + 1) 3 (.int .i64 a) (.int .i64 b)).run Tryz.prog w = .ok (a == b) w := by
  simp [Op.equalIn, run_underlying Tryz.underlying3]
theorem in_dir (d : Nat) (a b : Int) (w : World) : (Op.equalIn (d + 1 + 1) 197 (.agg #[.int .i64 a]) (.agg #[.int .i64 b])).run Tryz.prog w = .ok (a == b) w := by
  have h0 : (program).run Tryz.prog w = .ok Tryz.prog w := by kernel_rfl
  have h1 : Tryz.prog.stoodInHeld 197 = false := by kernel_rfl
  have h2 : ∀ a, (part 3 #[.int .i64 a] 0).run Tryz.prog w = .ok (.int .i64 a) w := fun a => by kernel_rfl
  unfold Op.equalIn
  simp only [Sem.run_bind, run_underlying Tryz.underlying197, Result.andThen_ok, h0, h1, Bool.false_eq_true, if_false, List.forIn_toArray, List.forIn_cons, List.forIn_nil]
  rw [if_pos (by decide)]
  simp only [Sem.run_bind, h2, in_int, Result.andThen_ok]
  cases (a == b) <;> simp [Sem.run_pure]
theorem eq_dirs (a b : Int) (w : World) : (binOp .eql 162 (.iface 197 (.agg #[.int .i64 a])) (.iface 197 (.agg #[.int .i64 b]))).run Tryz.prog w = .ok (.bool (a == b)) w := by
  have hc : (Tryz.prog.info? 197).map (·.comparable) = some true := by kernel_rfl
  cases hi : Tryz.prog.info? 197 with
  | none => simp [hi] at hc
  | some i =>
    have hcc : i.comparable = true := by simpa [hi] using hc
    have h : ∀ d : Nat, (Op.equalIn (d + 1 + 1 + 1) 162 (.iface 197 (.agg #[.int .i64 a])) (.iface 197 (.agg #[.int .i64 b]))).run Tryz.prog w = .ok (a == b) w := fun d => by
      have := in_dir d a b w
      unfold Op.equalIn
      simp only [Sem.run_bind, run_underlying Tryz.underlying162, Result.andThen_ok]
      simp [typeInfo, hi, hcc, this]
    simp only [binOp]
    simp [Op.equal, Op.maxDepth, h 9997]
theorem eq_dirf (a b : Int) (s : ByteArray) (w : World) : (binOp .eql 162 (.iface 197 (.agg #[.int .i64 a])) (.iface 199 (.agg #[.int .i64 b, .string s]))).run Tryz.prog w = .ok (.bool false) w := by kernel_rfl
theorem eq_dirl (a : Int) (s : ByteArray) (w : World) : (binOp .eql 162 (.iface 197 (.agg #[.int .i64 a])) (.iface 201 (.agg #[.string s]))).run Tryz.prog w = .ok (.bool false) w := by kernel_rfl

def sameB (x y : Ent) : Bool := x.kind == 1 && (y.kind == 1 && x.mode == y.mode)

set_option maxRecDepth 100000 in
set_option maxHeartbeats 2000000 in
theorem sameDir_any (x y : Ent) (w : World) :
    Calls Tryz.prog 168 #[nodeV x, nodeV y] w fun r w' => r = .returned (.bool (sameB x y)) ∧ Below w.heap.size w w' := by
  have DIR := hid (isDir_node x w)
  cases hk : (x.kind == 1)
  · obtain ⟨T0, nv, hnv⟩ := nodeV_shape x
    obtain ⟨T1, nv1, hnv1⟩ := nodeV_shape y
    rw [hnv] at DIR ⊢
    rw [hnv1]
    have E := hid (show sameB x y = false by unfold sameB; rw [hk]; rfl)
    go_enter Tryz.func168, Tryz.ntmps168
    go_wp2_with fail
    refine (unhid DIR).mono ?_
    rintro r w1 ⟨rfl, hB⟩
    rw [hk]
    have HB := hid hB
    clear hB
    go_wp2_with fail
    go_ret
    exact ⟨by rw [unhid E]; rfl, unhid HB⟩
  · have hk1 : x.kind = 1 := by simpa using hk
    have hnv : nodeV x = .iface 197 (.agg #[.int .i64 x.mode]) := by unfold nodeV; rw [if_pos hk1]
    rw [hnv] at DIR ⊢
    by_cases hy1 : y.kind = 1
    · have hnv1 : nodeV y = .iface 197 (.agg #[.int .i64 y.mode]) := by unfold nodeV; rw [if_pos hy1]
      rw [hnv1]
      go_enter Tryz.func168, Tryz.ntmps168
      go_wp2_with fail
      refine (unhid DIR).mono ?_
      rintro r w1 ⟨rfl, hB⟩
      rw [hk]
      have HB := hid hB
      clear hB
      have E := hid (show sameB x y = (x.mode == y.mode) by unfold sameB; rw [hk, hy1]; rfl)
      have heq := eq_dirs x.mode y.mode w1
      clear hnv hnv1
      go_wp2_with fail
      go_ret
      exact ⟨by rw [unhid E]; rfl, unhid HB⟩
    · have E := hid (show sameB x y = false by unfold sameB; simp [hy1])
      by_cases hy2 : y.kind = 2
      · have hnv1 : nodeV y = .iface 199 (.agg #[.int .i64 y.mode, .string y.text]) := by unfold nodeV; rw [if_neg hy1, if_pos hy2]
        rw [hnv1]
        go_enter Tryz.func168, Tryz.ntmps168
        go_wp2_with fail
        refine (unhid DIR).mono ?_
        rintro r w1 ⟨rfl, hB⟩
        rw [hk]
        have HB := hid hB
        have heq := eq_dirf x.mode y.mode y.text w1
        clear hB hnv hnv1
        go_wp2_with fail
        go_ret
        exact ⟨by rw [unhid E]; rfl, unhid HB⟩
      · have hnv1 : nodeV y = .iface 201 (.agg #[.string y.text]) := by unfold nodeV; rw [if_neg hy1, if_neg hy2]
        rw [hnv1]
        go_enter Tryz.func168, Tryz.ntmps168
        go_wp2_with fail
        refine (unhid DIR).mono ?_
        rintro r w1 ⟨rfl, hB⟩
        rw [hk]
        have HB := hid hB
        have heq := eq_dirl x.mode y.text w1
        clear hB hnv hnv1
        go_wp2_with fail
        go_ret
        exact ⟨by rw [unhid E]; rfl, unhid HB⟩
end Go.Proofs.YtlnpjiabdebmgaaGreat

/- What the program's iterator over a tree tells. -/
namespace Go.Proofs.YtlnpjiabdebmgaaGreat
open Go.RowKit Go.Shelf

/-- A tree that an iterator goes over: the box with where it is, its two rows. -/
def TreeIn (Bn bt N : Nat) (vp vn : Value) (es : List Ent) (W : World) : Prop := W.cell? ⟨Bn, 0, none⟩ = some (.pointer (some ⟨bt, 0, none⟩)) ∧ W.heap[bt]? = some (.cells #[vp, vn] 145 (0, 0)) ∧ RowsAt W N vp vn es

theorem path_of {W : World} {N : Nat} {v : Value} {es : List Ent} {i : Nat} {e : Ent} (h : W.ownsRow N 9 1 v es.length (es.map fun e => .string e.path)) (he : es[i]? = some e) : ∃ g cap, v = .slice (some ⟨g, 0, .none⟩) es.length cap ∧ W.cell? ⟨g, i, .none⟩ = some (.string e.path) ∧ es.length ≤ cap := by
  have hil : i < es.length := (List.getElem?_eq_some_iff.1 he).1
  rcases h.2 with ⟨rfl, h0⟩ | ⟨g, cap, cur, rfl, _, hg, hc, _, hsz, hcells⟩
  · omega
  · refine ⟨g, cap, rfl, ?_, hc⟩
    have h1 : (cur.toList.take (es.length * 1))[i]? = some (.string e.path) := by rw [hcells, List.getElem?_map, he]; rfl
    rw [List.getElem?_take_of_lt (by omega), Array.getElem?_toList] at h1
    simp [World.cell?, hg, h1]

set_option maxRecDepth 100000 in
set_option maxHeartbeats 2000000 in
theorem all1_in (F : Fence) (n : Nat) (hf : F.fn 198) (hro : F.round = none) (hn : 1 ≤ n) (l Bn bt N : Nat) (vp vn : Value) (es : List Ent) (hes : es.length ≤ 1000) (P : Ent → Prop) (hP : ∀ e ∈ es, P e) (J Jx : List { e : Ent // P e } → World → Prop)
    (hY : ∀ pre (x : { e : Ent // P e }) W, J pre W → pre.length < es.length → YieldAt F (n - 1) Tryz.prog l #[.string x.1.path, nodeV x.1] W fun e W' =>
      (e = .returned (.bool true) ∧ J (pre ++ [x]) W' ∧ (TreeIn Bn bt N vp vn es W → TreeIn Bn bt N vp vn es W')) ∨ (e = .returned (.bool false) ∧ Jx (pre ++ [x]) W'))
    (W : World) (hc : TreeIn Bn bt N vp vn es W) (h0 : J [] W) :
    CallsIn F n Tryz.prog 198 #[.func (.yield l) #[] #[], .pointer (some ⟨Bn, 0, none⟩)] W fun e W' => (∃ v, e = .returned v) ∧
      ((∃ ys : List { e : Ent // P e }, ys.map (·.1) = es ∧ J ys W') ∨ (∃ pre : List { e : Ent // P e }, pre.map (·.1) <+: es ∧ Jx pre W')) := by
  obtain ⟨ap, cp, rfl⟩ := ownsRow_slice hc.2.2.1
  refine callsIn_of_wp Tryz.func198 rfl hf ?_ hro
  simp only [Tryz.ntmps198, List.size_toArray, List.length_cons, List.length_nil, Nat.reduceAdd, Nat.reduceSub, Array.replicate_succ, Array.replicate_zero, List.push_toArray, List.append_toArray, List.nil_append, List.cons_append]
  have c0 := hc.1
  obtain ⟨c1, c2, -, -⟩ := two_cells hc.2.1
  have HC := hid hc
  clear hc
  gi_wp2
  clear c0 c1 c2
  gi_loopw [10] (fun p wr => ∃ (k : Nat) (ys : List { e : Ent // P e }), k ≤ es.length ∧ p = .int .i64 k ∧ Hid (ys.map (·.1) = es.take k) ∧ J ys wr ∧ Hid (TreeIn Bn bt N (.slice ap es.length cp) vn es wr))
    (fun p _ => es.length - (intOf p).toNat)
  case atStart =>
    exact ⟨0, [], Nat.zero_le _, rfl, hid rfl, h0, HC⟩
  case round =>
    obtain ⟨k, ys, hk, rfl, hys, hJ, HT⟩ := hrel
    have hyl : ys.length = k := by have := congrArg List.length (unhid hys); rw [List.length_map, List.length_take] at this; omega
    by_cases hlt : k < es.length
    · obtain ⟨e, he⟩ : ∃ e, es[k]? = some e := ⟨es[k], List.getElem?_eq_getElem hlt⟩
      have hPe : P e := hP e (List.mem_of_getElem? he)
      obtain ⟨g, cap, hv, hc1, hle⟩ := path_of (unhid HT).2.2.1 he
      cases hv
      obtain ⟨g2, cap2, rfl, hc2, hle2⟩ := node_of (unhid HT).2.2.2 he
      have c0 := (unhid HT).1
      obtain ⟨c1, c2, -, -⟩ := two_cells (unhid HT).2.1
      have hY1 := hY ys ⟨e, hPe⟩ wr hJ (by omega)
      obtain ⟨T0, nv, hnv⟩ := nodeV_shape e
      dsimp only at hY1
      rw [hnv] at hc2 hY1
      obtain ⟨fn, tmps, assign, body, hy, hR⟩ := hY1
      have HY := hid hY
      clear hY
      gi_wp2
      refine hR.mono ?_
      rintro x W3 (⟨rfl, hJ3, hk3⟩ | ⟨rfl, hJx3⟩)
      · have HT3 := hid (hk3 (unhid HT))
        have HYS := hid (show (ys ++ [(⟨e, hPe⟩ : { e : Ent // P e })]).map (fun x => x.1) = es.take (k + 1) by rw [List.map_append, unhid hys, List.take_add_one, he]; rfl)
        clear hk3 HT hys
        gi_wp2
        go_roundw
        case rel => exact ⟨k + 1, _, by omega, by go_num, HYS, hJ3, HT3⟩
        case measure => simp [intOf]; omega
      · gi_wp2
        refine bodyPost_ret (results_none rfl _ _ _) rfl ?_
        exact ⟨⟨_, rfl⟩, .inr ⟨_, by rw [List.map_append, unhid hys]; rw [show [(⟨e, hPe⟩ : { e : Ent // P e })].map (·.1) = [e] from rfl, show es.take k ++ [e] = es.take (k + 1) by rw [List.take_add_one, he]; rfl]; exact List.take_prefix _ _, hJx3⟩⟩
    · gi_wp2
      go_end0
      exact ⟨⟨_, rfl⟩, .inl ⟨_, by rw [unhid hys, List.take_of_length_le (by omega)], hJ⟩⟩

set_option maxHeartbeats 1000000 in
theorem all_in (F : Fence) (n : Nat) (hf : F.fn 167) (hro : F.round = none) (bt : Nat) (w : World) :
    CallsIn F n Tryz.prog 167 #[.pointer (some ⟨bt, 0, none⟩)] w fun e w' => e = .returned (.func (.func 198) #[] #[.pointer (some ⟨w.heap.size, 0, none⟩)]) ∧ w' = w.alloc (.cells #[.pointer (some ⟨bt, 0, none⟩)] 194) := by
  refine callsIn_of_wp Tryz.func167 rfl hf ?_ hro
  simp only [Tryz.ntmps167, List.size_toArray, List.length_cons, List.length_nil, Nat.reduceAdd, Nat.reduceSub, Array.replicate_succ, Array.replicate_zero, List.push_toArray, List.append_toArray, List.nil_append, List.cons_append]
  gi_wp2
  go_ret
  exact ⟨rfl, rfl⟩

theorem treeIn_below {Bn bt N : Nat} {vp vn : Value} {es : List Ent} {W W' : World} (h : TreeIn Bn bt N vp vn es W) (hb : Below W.heap.size W W') : TreeIn Bn bt N vp vn es W' := by
  have hl : Bn < W.heap.size := below_lt h.1
  exact ⟨(hb.cell (p := ⟨Bn, 0, none⟩) hl).trans h.1, (hb.block bt (Array.getElem?_eq_some_iff.1 h.2.1).1).trans h.2.1, ownsRow_kept h.2.2.1 (fun g e => hb.block g (h.2.2.1.lt g e).2), ownsRow_kept h.2.2.2 (fun g e => hb.block g (h.2.2.2.lt g e).2)⟩
theorem row_cells {W : World} {N n size : Nat} {v : Value} {e : TypeId} {xs : List Value} {g : Nat} (h : W.ownsRow N e size v n xs) (hg : v.ownBlock = some g) : ∃ cur, W.heap[g]? = some (.cells cur e (0, 0)) := by
  rcases h.2 with ⟨rfl, _⟩ | ⟨g', cap, cur, rfl, _, hh, _⟩
  · cases hg
  · cases hg; exact ⟨cur, hh⟩
theorem treeIn_grown {Bn bt N : Nat} {vp vn : Value} {es : List Ent} {W W' : World} {row : Option Nat} (h : TreeIn Bn bt N vp vn es W) (hg : W.grownBy W' row) (hr : ∀ r, row = some r → ∃ o : Obj, W.heap[r]? = some o ∧ o.isCells = false) : TreeIn Bn bt N vp vn es W' := by
  have hk : ∀ (b : Nat) (cs : Array Value) (t : TypeId) (f : Nat × Nat), W.heap[b]? = some (.cells cs t f) → W'.heap[b]? = W.heap[b]? := fun b cs t f hb => hg.block b (Array.getElem?_eq_some_iff.1 hb).1 (fun e => by
    obtain ⟨o, ho, hc⟩ := hr b e.symm
    rw [hb] at ho; cases ho; cases hc)
  refine ⟨cell_kept h.1 hg hr, (hk _ _ _ _ h.2.1).trans h.2.1, ownsRow_kept h.2.2.1 (fun g e => ?_), ownsRow_kept h.2.2.2 (fun g e => ?_)⟩
  · obtain ⟨cur, hc⟩ := row_cells h.2.2.1 e; exact hk _ _ _ _ hc
  · obtain ⟨cur, hc⟩ := row_cells h.2.2.2 e; exact hk _ _ _ _ hc

theorem all_stops (F : Fence) (n : Nat) (hf : F.fn 198) (hro : F.round = none) (hn : 1 ≤ n) (Bn bt N : Nat) (vp vn : Value) (es : List Ent) (hes : es.length ≤ 1000) (P : Ent → Prop) (hP : ∀ e ∈ es, P e) (w : World) (hc : TreeIn Bn bt N vp vn es w) :
    SeqStopsK F n Tryz.prog 198 #[.pointer (some ⟨Bn, 0, none⟩)] (fun x : { e : Ent // P e } => #[Value.string x.1.path, nodeV x.1]) (fun W W' => TreeIn Bn bt N vp vn es W → TreeIn Bn bt N vp vn es W') (fun ys => ys.map (·.1) = es) (fun pre => pre.map (·.1) <+: es) es.length w := fun l J Jx W hW _ _ hY h0 =>
  all1_in F n hf hro hn l Bn bt N vp vn es hes P hP J Jx hY W (treeIn_below hc hW) h0
end Go.Proofs.YtlnpjiabdebmgaaGreat

/- A region inside a round of a range over a function, by what holds of it outside. -/
namespace Go.Proofs.YtlnpjiabdebmgaaGreat
open Go.RowKit Go.Shelf

def noDefer (o : Oper) : Bool := match o.op with | .defer _ => false | _ => true
theorem noDefer_ne {o : Oper} (h : noDefer o = true) : ∀ c, o.op ≠ .defer c := fun c e => by unfold noDefer at h; rw [e] at h; cases h

theorem opIn_of_op {P : Program} {o : Oper} {a : Act} {w : World} {K K' : Act → World → Prop} {Q : Exit → Act → World → Prop} {l n : Nat} (hd : noDefer o = true) (hK : ∀ a w, K a w → K' a w) (h : o.wp P a w K Q) : o.wpIn (Fence.wide.inRound l) n P a w K' Q := by
  refine ⟨fun _ _ => trivial, ?_⟩
  rw [Oper.semAt_plain _ _ _ (noDefer_ne hd)]
  unfold Oper.wp at h
  generalize (execOp a.eval o).run P w = r at h
  cases r with
  | ok x w' =>
    cases x with
    | value v => exact hK _ _ h
    | skip => exact hK _ _ h
    | defer d => exact hK _ _ h
    | enter f args =>
      refine ⟨(fun e => by cases e), CallsIn.inRound l (callsIn_wide.2 (Calls.mono (show Calls P f args w' _ from h) ?_))⟩
      intro e w'' he
      cases e with
      | returned v => exact hK _ _ he
      | panicked c => exact he
      | outgrown => exact he
    | row r args => exact ⟨(fun e => by cases e), fun c cs _ => let ⟨v, w', r, s⟩ := (show Rows P _ _ _ _ from h) c cs; ⟨v, w', hK _ _ r, stepsIn_wide.2 s⟩⟩
    | _ => exact h.elim
  | halt x w' => cases x <;> simp only [Oper.upon] at h <;> simp only [Oper.uponIn] <;> exact h

theorem anyIn_of_any {P : Program} {md : Region.Mode} {ops : Array Oper} {Q : Exit → Act → World → Prop} {l n : Nat} (hd : ops.all noDefer = true) (hnl : ¬ LetsOut Q) : ∀ (fuel : Nat) (listed : Array Bool) (a : Act) (w : World), wpAny P md ops Q fuel listed a w → wpAnyIn (Fence.wide.inRound l) n P md ops Q fuel listed a w
  | 0, _, _, _, h => h
  | fuel + 1, listed, a, w, h => by
    refine ⟨h.1, fun i hi => ?_⟩
    have h2 := h.2 i hi
    unfold wpOp at h2
    unfold wpOpIn
    cases ho : ops[i]? with
    | none => rw [ho] at h2; exact anyIn_of_any hd hnl fuel _ _ _ h2
    | some o =>
      rw [ho] at h2
      dsimp only at h2 ⊢
      have hdo : noDefer o = true := by
        rw [Array.all_eq_true] at hd
        obtain ⟨hil, he⟩ := Array.getElem?_eq_some_iff.1 ho
        rw [← he]; exact hd i hil
      split
      · rename_i hw
        rw [if_pos hw] at h2
        exact opIn_of_op hdo (fun a w h => anyIn_of_any hd hnl fuel _ a w h) (h2.resolve_right (fun e => hnl e.2))
      · rename_i hw
        rw [if_neg hw] at h2
        exact ⟨fun _ _ => trivial, anyIn_of_any hd hnl fuel _ _ _ h2⟩
theorem region_in {P : Program} {id l n : Nat} {ops : Array Oper} {Q : Exit → Act → World → Prop} {a : Act} {w : World} (hm : P.follows .mixedOrders = true) (hd : ops.all noDefer = true) (hnl : ¬ LetsOut Q)
    (h : wpAny P .any ops Q ops.size (Array.replicate ops.size false) a w.drew) : (Code.region id ops true).wpIn (Fence.wide.inRound l) n P Q a w :=
  wpIn_region_any hm (anyIn_of_any hd hnl _ _ _ _ h)
end Go.Proofs.YtlnpjiabdebmgaaGreat

/- What a tree has at a path, by the program. -/
namespace Go.Proofs.YtlnpjiabdebmgaaGreat
open Go.RowKit Go.Shelf

theorem kept_asc (es : List Ent) : Asc (pathsOf (keptE es)) ∧ (keptE es).length ≤ 16 := by
  cases h : treeB es
  · rw [keptE_no h]; exact ⟨by simp [pathsOf, Asc], by simp⟩
  · rw [keptE_yes h]
    rw [treeB_eq] at h
    have h1 := asc_take (Nat.le_refl _) h
    rw [List.take_of_length_le (Nat.le_refl _)] at h1
    exact ⟨h1, okI_16 (Nat.le_refl _) h⟩
theorem kept_there (es : List Ent) (p : ByteArray) : thereE (keptE es) p = (treeB es && thereE es p) := by
  cases h : treeB es
  · rw [keptE_no h]; simp [thereE, placeE]
  · rw [keptE_yes h]; simp
theorem tree_ent {es : List Ent} {i : Nat} {e : Ent} (h : treeB es = true) (he : es[i]? = some e) : entB e = true := by
  rw [treeB_eq, List.all_eq_true] at h
  have := h i (List.mem_range.2 (List.getElem?_eq_some_iff.1 he).1)
  unfold okI putB at this
  rw [entFn_get he] at this
  simp only [Bool.and_eq_true] at this
  exact this.2.1
theorem four_cells {W : World} {bt : Nat} {u v x y : Value} {t : TypeId} (h : W.heap[bt]? = some (.cells #[u, v, x, y] t (0, 0))) : (W.cell? ⟨bt, 0, .none⟩ = some u ∧ W.cell? ⟨bt, 1, .none⟩ = some v ∧ W.cell? ⟨bt, 2, .none⟩ = some x ∧ W.cell? ⟨bt, 3, .none⟩ = some y) ∧ (W.frozen? ⟨bt, 0, .none⟩ = false ∧ W.frozen? ⟨bt, 1, .none⟩ = false ∧ W.frozen? ⟨bt, 2, .none⟩ = false ∧ W.frozen? ⟨bt, 3, .none⟩ = false) := by
  refine ⟨⟨?_, ?_, ?_, ?_⟩, ?_, ?_, ?_, ?_⟩ <;> simp [World.cell?, World.frozen?, h]
def noneE : Ent := ⟨⟨#[]⟩, 0, 0, ⟨#[]⟩⟩
def gotE (es : List Ent) (p : ByteArray) : Ent := if treeB es && thereE es p then entFn es (placeE es p) else noneE

set_option maxRecDepth 100000 in
set_option maxHeartbeats 2000000 in
theorem treeGet_any (es : List Ent) (a : Option Addr) (cap : Nat) (p : ByteArray) (w : World) (hs : smallE es) (h : EntsAt w a es) :
    Calls Tryz.prog 88 #[.slice a es.length cap, .string p] w fun x w' => x = .returned (.tuple #[.agg (gotE es p).vals, .bool (treeB es && thereE es p)]) ∧ Below w.heap.size w w' := by
  obtain ⟨wA, hwA⟩ : ∃ wA, wA = w.alloc (.cells #[.string ⟨#[]⟩, .int .i64 0, .int .i64 0, .string ⟨#[]⟩] 90) := ⟨_, rfl⟩
  have hsz : wA.heap.size = w.heap.size + 1 := by rw [hwA]; simp
  have hBA : Below w.heap.size w wA := by rw [hwA]; exact (Below.refl _ w).alloc (Nat.le_refl _) _
  have hbox : wA.heap[w.heap.size]? = some (.cells #[.string ⟨#[]⟩, .int .i64 0, .int .i64 0, .string ⟨#[]⟩] 90 (0, 0)) := by rw [hwA]; exact World.alloc_heap_new _ _
  have H := hid (treeOf_any es a cap wA hs (h.below (by rw [hwA]; exact (Below.refl _ w).alloc (Nat.le_refl _) _)))
  have HA := hid (And.intro hsz (And.intro hBA hbox))
  have HWA := hid hwA
  clear hs h hwA hsz hBA hbox
  go_enter Tryz.func88, Tryz.ntmps88
  go_wp2_with fail
  rw [← unhid HWA]
  refine (unhid H).mono ?_
  rintro x w1 ⟨vp, vn, rfl, ⟨t2, t3⟩, hB⟩
  obtain ⟨ap, cp, rfl⟩ := ownsRow_slice t2
  obtain ⟨an, cn, rfl⟩ := ownsRow_slice t3
  obtain ⟨hsz, hBA, hbox⟩ := unhid HA
  obtain ⟨wt, hwt⟩ : ∃ wt, wt = w1.alloc (.cells #[.slice ap (keptE es).length cp, .slice an (keptE es).length cn] 145) := ⟨_, rfl⟩
  have hB1 : Below w.heap.size w w1 := hBA.trans (hB.mono (by omega))
  have hBt : Below w1.heap.size w1 wt := by rw [hwt]; exact (Below.refl _ w1).alloc (Nat.le_refl _) _
  have hBT : Below w.heap.size w wt := hB1.trans (hBt.mono hB1.size)
  have hT : TreeAt wt wA.heap.size w1.heap.size (keptE es) := ⟨_, _, by rw [hwt]; exact World.alloc_heap_new _ _, ownsRow_kept t2 (fun g e => hBt.block g (t2.lt g e).2), ownsRow_kept t3 (fun g e => hBt.block g (t3.lt g e).2)⟩
  have hw1 : wA.heap.size ≤ w1.heap.size := hB.size
  have hbt : wt.heap[w.heap.size]? = some (.cells #[.string ⟨#[]⟩, .int .i64 0, .int .i64 0, .string ⟨#[]⟩] 90 (0, 0)) := (hBt.block _ (by omega)).trans ((hB.block _ (by omega)).trans hbox)
  have hk := kept_asc es
  have GET := hid (mapGet_any _ _ (keptE es) p wt (by omega) hk.1 hT)
  have HT := hid (And.intro hBT hbt)
  have HWT := hid hwt
  clear hT hbt hBT hBt hB1 hwt hB t2 t3 hbox hBA hk HA HWA H
  have KT := hid (kept_there es p)
  go_wp2_with fail
  rw [← unhid HWT]
  refine (unhid GET).mono ?_
  cases hth : thereE (keptE es) p
  · rw [show getV (keptE es) p = .nilIface by unfold getV; rw [hth]; rfl]
    rintro x w2 ⟨rfl, e2⟩
    subst e2
    have G1 : (treeB es && thereE es p) = false := (unhid KT).symm.trans hth
    have E := hid (show (gotE es p).vals = #[.string ⟨#[]⟩, .int .i64 0, .int .i64 0, .string ⟨#[]⟩] by unfold gotE; rw [G1]; rfl)
    have E2 := hid G1
    obtain ⟨hBT, hbt⟩ := unhid HT
    obtain ⟨⟨d0, d1, d2, d3⟩, f0, f1, f2, f3⟩ := four_cells hbt
    have HB := hid hBT
    clear hBT hbt G1 hth KT HT GET HWT
    go_wp2_with fail
    refine bodyPost_ret (v := .tuple #[.agg #[.string ⟨#[]⟩, .int .i64 0, .int .i64 0, .string ⟨#[]⟩], .bool false]) (by simp [results, Tryz.results88, go_sem, World.cell?_setCell_same', d0, d1, d2, d3]) rfl ⟨by rw [unhid E, unhid E2], ((((unhid HB).setCell (Nat.le_refl _) _).setCell (Nat.le_refl _) _).setCell (Nat.le_refl _) _).setCell (Nat.le_refl _) _⟩
  · have G1 : (treeB es && thereE es p) = true := (unhid KT).symm.trans hth
    have hb : treeB es = true := by simp only [Bool.and_eq_true] at G1; exact G1.1
    have hthe : thereE es p = true := by simp only [Bool.and_eq_true] at G1; exact G1.2
    obtain ⟨e, he, hep⟩ := there_get hthe
    have hfe := entFn_get he
    rw [show getV (keptE es) p = nodeV e by unfold getV; rw [hth, keptE_yes hb, hfe]; rfl]
    have hg : gotE es p = e := by unfold gotE; rw [G1, hfe]; rfl
    have ENT := hid (entryOf_any e (tree_ent hb he) wt)
    rintro x w2 ⟨rfl, e2⟩
    subst e2
    rw [hep] at ENT
    have E := hid (show (gotE es p).vals = e.vals by rw [hg])
    have E2 := hid G1
    obtain ⟨hBT, hbt⟩ := unhid HT
    obtain ⟨T0, nv, hnv⟩ := nodeV_shape e
    rw [hnv] at ENT
    rw [hnv]
    have HBX := hid hbt
    have HB := hid hBT
    clear hBT hbt G1 hth KT HT GET HWT hb hthe he hep hfe hg
    go_wp2_with fail
    refine (unhid ENT).mono ?_
    rintro x w3 ⟨rfl, hB3⟩
    have hw2 : w.heap.size < w2.heap.size := (Array.getElem?_eq_some_iff.1 (unhid HBX)).1
    obtain ⟨⟨d0, d1, d2, d3⟩, f0, f1, f2, f3⟩ := four_cells ((hB3.block _ hw2).trans (unhid HBX))
    have HB3 := hid ((unhid HB).trans (hB3.mono (Nat.le_of_lt hw2)))
    clear hB3 HB HBX ENT hw2
    unfold Ent.vals
    unfold Ent.vals at E
    go_wp2_with fail
    refine bodyPost_ret (v := .tuple #[.agg #[.string e.path, .int .i64 e.kind, .int .i64 e.mode, .string e.text], .bool true]) (by simp [results, Tryz.results88, go_sem, World.cell?_setCell_same', d0, d1, d2, d3]) rfl ⟨by rw [unhid E2, show (gotE es p).vals = #[.string e.path, .int .i64 e.kind, .int .i64 e.mode, .string e.text] from unhid E], ((((unhid HB3).setCell (Nat.le_refl _) _).setCell (Nat.le_refl _) _).setCell (Nat.le_refl _) _).setCell (Nat.le_refl _) _⟩
end Go.Proofs.YtlnpjiabdebmgaaGreat

/- The entries of a tree, in a row of their own. -/
namespace Go.Proofs.YtlnpjiabdebmgaaGreat
open Go.RowKit Go.Shelf

attribute [local go_sem] Oper.semAt_some

def valsOf (es : List Ent) : List Value := es.flatMap fun e => e.vals.toList

theorem cells_grown {W W' : World} {row : Option Nat} (hg : W.grownBy W' row) (hr : ∀ r, row = some r → ∃ o : Obj, W.heap[r]? = some o ∧ o.isCells = false) {b : Nat} {cs : Array Value} {t : TypeId} {f : Nat × Nat} (hb : W.heap[b]? = some (.cells cs t f)) : W'.heap[b]? = some (.cells cs t f) :=
  (hg.block b (Array.getElem?_eq_some_iff.1 hb).1 (fun e => by obtain ⟨o, ho, hc⟩ := hr b e.symm; rw [hb] at ho; cases ho; cases hc)).trans hb
theorem row_grown {W W' : World} {row : Option Nat} (hg : W.grownBy W' row) (hr : ∀ r, row = some r → ∃ o : Obj, W.heap[r]? = some o ∧ o.isCells = false) {N n size : Nat} {v : Value} {e : TypeId} {xs : List Value} (h : W.ownsRow N e size v n xs) : W'.ownsRow N e size v n xs :=
  ownsRow_kept h (fun g eg => by obtain ⟨cur, hc⟩ := row_cells h eg; rw [cells_grown hg hr hc, hc])
theorem valsOf_snoc (es : List Ent) (e : Ent) : valsOf (es ++ [e]) = valsOf es ++ e.vals.toList := by simp [valsOf]
theorem keepsOthers_of_grown {W W' : World} {row : Option Nat} (h : W.grownBy W' row) (hr : ∀ r, row = some r → ∃ cs t f, W.heap[r]? = some (.cells cs t f)) : KeepsOthers W W' :=
  ⟨h.size, fun k o hk hc => (h.block k (Array.getElem?_eq_some_iff.1 hk).1 (fun e => by obtain ⟨cs, t, f, hh⟩ := hr k e.symm; rw [hk] at hh; cases hh; cases hc)).trans hk⟩

theorem treeIn_kept {Bn bt N : Nat} {vp vn : Value} {es : List Ent} {W W' : World} (h : TreeIn Bn bt N vp vn es W) (hk : ∀ k, (k = Bn ∨ k = bt ∨ vp.ownBlock = some k ∨ vn.ownBlock = some k) → W'.heap[k]? = W.heap[k]?) : TreeIn Bn bt N vp vn es W' :=
  ⟨(World.cell?_of_block (a := ⟨Bn, 0, none⟩) (hk Bn (.inl rfl))).trans h.1, (hk bt (.inr (.inl rfl))).trans h.2.1, ownsRow_kept h.2.2.1 (fun g e => hk g (.inr (.inr (.inl e)))), ownsRow_kept h.2.2.2 (fun g e => hk g (.inr (.inr (.inr e))))⟩
theorem infoEntry : (Tryz.prog.info? 90).map (fun i => (i.zero, i.size, i.bytes)) = some (some (.agg #[.string ⟨#[]⟩, .int .i64 0, .int .i64 0, .string ⟨#[]⟩]), 4, 48) := by kernel_rfl
theorem ownsRow_base {W : World} {N N' n size : Nat} {v : Value} {e : TypeId} {xs : List Value} (h : W.ownsRow N e size v n xs) (hN : N' ≤ N) : W.ownsRow N' e size v n xs :=
  ⟨h.1, h.2.imp id (fun ⟨g, cap, cur, a, b, c⟩ => ⟨g, cap, cur, a, Nat.le_trans hN b, c⟩)⟩
theorem lit_cells (w1 : World) (a b c d : Value) (t : TypeId) : ∀ (j : Nat) (u : Value), [a, b, c, d][j]? = some u → (w1.alloc (.cells #[a, b, c, d] t)).cell? ((⟨w1.heap.size, 0, none⟩ : Addr).add j) = some u := by
  intro j u hj
  rw [Addr.add_lit, World.cell?_alloc_at _ _ _ _ rfl, Nat.zero_add]
  simpa using hj
/-- Behind one append to the list of a walk. -/
theorem inEnts_step {w W W3 w2 : World} {bt N : Nat} {vp vn v v' : Value} {es : List Ent} {pre : List { e : Ent // entB e = true }} {x : { e : Ent // entB e = true }} (hbt : bt < w.heap.size) (hrp : ∀ g, vp.ownBlock = some g → g < w.heap.size) (hrn : ∀ g, vn.ownBlock = some g → g < w.heap.size)
    (hv1 : W.heap[w.heap.size]? = some (.cells #[v] 29 (0, 0))) (hv2 : W.ownsRow (w.heap.size + 2) 90 4 v pre.length (valsOf (pre.map (·.1)))) (hT : TreeIn (w.heap.size + 1) bt N vp vn es W) (hB : Below w.heap.size w W)
    (hb3 : Below W.heap.size W W3) (hown : w2.ownsRow (w.heap.size + 2) 90 4 v' (pre.length + 1) (valsOf (pre.map (·.1)) ++ x.1.vals.toList)) (hg : W3.grownBy w2 v.ownBlock) :
    KeepsOthers W (w2.setCell ⟨w.heap.size, 0, none⟩ v') ∧ (TreeIn (w.heap.size + 1) bt N vp vn es W → TreeIn (w.heap.size + 1) bt N vp vn es (w2.setCell ⟨w.heap.size, 0, none⟩ v')) ∧ ((∃ v, (w2.setCell ⟨w.heap.size, 0, none⟩ v').heap[w.heap.size]? = some (.cells #[v] 29 (0, 0)) ∧ (w2.setCell ⟨w.heap.size, 0, none⟩ v').ownsRow (w.heap.size + 2) 90 4 v (pre ++ [x]).length (valsOf ((pre ++ [x]).map (·.1)))) ∧ TreeIn (w.heap.size + 1) bt N vp vn es (w2.setCell ⟨w.heap.size, 0, none⟩ v')) ∧ Below w.heap.size w (w2.setCell ⟨w.heap.size, 0, none⟩ v') := by
  have hBn := below_lt hT.1
  have hgo : ∀ g, v.ownBlock = some g → w.heap.size + 2 ≤ g := fun g e => (hv2.lt g e).1
  have hk2 : ∀ k, k < w.heap.size + 2 → w2.heap[k]? = W.heap[k]? := fun k hk => (hg.block k (Nat.lt_of_lt_of_le (by omega) hb3.size) (fun e => by have := hgo k e.symm; omega)).trans (hb3.block k (by omega))
  have hbox2 : w2.heap[w.heap.size]? = some (.cells #[v] 29 (0, 0)) := (hk2 _ (by omega)).trans hv1
  have hT2 : TreeIn (w.heap.size + 1) bt N vp vn es (w2.setCell ⟨w.heap.size, 0, none⟩ v') := treeIn_kept hT (fun k hk => by
    have hkl : k < w.heap.size + 2 ∧ k ≠ w.heap.size := by
      rcases hk with rfl | rfl | h | h
      · omega
      · omega
      · have := hrp k h; omega
      · have := hrn k h; omega
    exact (Below.heap_setCell _ _ _ _ hkl.2).trans (hk2 k hkl.1))
  refine ⟨((KeepsOthers_of_below hb3).trans (keepsOthers_of_grown hg (fun r e => ?_))).trans (KeepsOthers.setCell _ _ _), fun _ => hT2, ⟨⟨v', by rw [heap_setCell_same _ _ 0 _ _ _ hbox2]; rfl, ?_⟩, hT2⟩, ?_⟩
  · obtain ⟨cur, hc⟩ := row_cells hv2 e
    exact ⟨_, _, _, (hb3.block r (hv2.lt r e).2).trans hc⟩
  · rw [List.length_append, List.map_append, List.map_singleton, valsOf_snoc]
    exact ownsRow_kept hown (fun g e => Below.heap_setCell _ _ _ _ (fun eq => by have := (hown.lt g e).1; have eq' : g = w.heap.size := eq; omega))
  · exact (((hB.trans (hb3.mono hB.size)).grown hg (Nat.le_trans hB.size hb3.size) (fun k e => by have := hgo k e; omega))).setCell (Nat.le_refl _) _
/-- What the rounds of a tree's walk keep: the box of the list, the list, the tree. -/
def InEnts (w : World) (bt N : Nat) (vp vn : Value) (es : List Ent) (pre : List { e : Ent // entB e = true }) (W : World) : Prop :=
  (∃ v, W.heap[w.heap.size]? = some (.cells #[v] 29 (0, 0)) ∧ W.ownsRow (w.heap.size + 2) 90 4 v pre.length (valsOf (pre.map (·.1)))) ∧ TreeIn (w.heap.size + 1) bt N vp vn es W

set_option maxRecDepth 100000 in
set_option maxHeartbeats 4000000 in
theorem entries_any (N bt : Nat) (es : List Ent) (w : World) (hn : es.length ≤ 1000) (he : ∀ e ∈ es, entB e = true) (h : TreeAt w N bt es) :
    Calls Tryz.prog 170 #[.pointer (some ⟨bt, 0, .none⟩)] w fun x w' => ∃ v, x = .returned v ∧ w'.ownsRow w.heap.size 90 4 v es.length (valsOf es) ∧ Below w.heap.size w w' := by
  obtain ⟨vp, vn, h1, h2, h3⟩ := h
  refine (callsIn_wide (n := 3)).1 ?_
  refine callsIn_of_wp_marks Tryz.func170 rfl trivial ?_ rfl
  simp only [Tryz.ntmps170, List.size_toArray, List.length_cons, List.length_nil, Nat.reduceAdd, Nat.reduceSub, Array.replicate_succ, Array.replicate_zero, List.push_toArray, List.append_toArray, List.nil_append, List.cons_append]
  gi_wp2_with (refine ⟨trivial, ?_⟩; gi_at_call 167; refine (all_in Fence.wide _ trivial rfl _ _).mono ?_; rintro e w' ⟨rfl, rfl⟩)
  have hBw : Below w.heap.size w ((w.alloc (.cells #[.slice none 0 0] 29)).alloc (.cells #[.pointer (some ⟨bt, 0, none⟩)] 194)) := ((Below.refl _ w).alloc (Nat.le_refl _) _).alloc (by simp) _
  have hTI : TreeIn (w.heap.size + 1) bt N vp vn es ((w.alloc (.cells #[.slice none 0 0] 29)).alloc (.cells #[.pointer (some ⟨bt, 0, none⟩)] 194)) :=
    ⟨by have := (cell_new_l (w.alloc (.cells #[.slice none 0 0] 29)) (.pointer (some ⟨bt, 0, none⟩)) 194).1; rwa [World.size_alloc] at this,
     (hBw.block bt (Array.getElem?_eq_some_iff.1 h1).1).trans h1, ownsRow_kept h2 (fun g e => hBw.block g (h2.lt g e).2), ownsRow_kept h3 (fun g e => hBw.block g (h3.lt g e).2)⟩
  refine wpIn_rangeFunc_ownF rfl (by omega) (gf := 198) (lb := #[.pointer (some ⟨w.heap.size + 1, 0, none⟩)]) rfl trivial (enters_of Tryz.func198 (by kernel_rfl) rfl)
    (all_stops Fence.wide _ trivial rfl (by omega) (w.heap.size + 1) bt N vp vn es hn (fun e => entB e = true) he _ hTI) (fun h g x => g (h x)) (fun W l o o' _ hl hc _ h => treeIn_grown h (grownBy_putObj' _ l o') (fun r e => by cases e; exact ⟨_, hl, hc⟩)) (Below.refl _ _) (fun _ => rfl)
    (fun pre W => InEnts w bt N vp vn es pre W ∧ Below w.heap.size w W)
    (fun _ _ _ => False)
    (OwnFrom.and (Own.from (fun s A B row hs hg hr => ⟨by obtain ⟨v, hv1, hv2⟩ := hs.1; exact ⟨v, cells_grown hg hr hv1, row_grown hg hr hv2⟩, treeIn_grown hs.2 hg hr⟩) _) (ownFrom_below (Nat.le_refl _) (by simp; omega)))
    (fun c => fun _ _ _ _ h _ _ => h)
    ⟨⟨⟨.slice none 0 0, (Below.heap_alloc _ _ _ (by simp)).trans (World.alloc_heap_new w _), World.ownsRow_nil _ _ _ _⟩, hTI⟩, hBw⟩
    (fun x => { tmps := #[.pointer (some ⟨bt, 0, none⟩), undef, .slice none 0 0, .pointer (some ⟨w.heap.size, 0, none⟩), .string x.1.path, nodeV x.1, .pointer (some ⟨bt, 0, none⟩), .pointer (some ⟨bt, 0, none⟩), .pointer (some ⟨bt, 0, none⟩), .func (.func 198) #[] #[.pointer (some ⟨w.heap.size + 1, 0, none⟩)], .string x.1.path, nodeV x.1, undef, undef, undef, undef, undef, undef, undef], defers := [] }) ?assign ?body ?done ?stop
  case assign =>
    intro l x W K hK
    gi_wp2
    exact hK
  case stop => intro D c pre W _ _ h _; exact h.elim
  case body =>
    rintro l pre ⟨e, hx⟩ W ⟨⟨⟨v, hv1, hv2⟩, hTI2⟩, hB⟩ hpl
    dsimp only
    obtain ⟨av, capv, rfl⟩ := ownsRow_slice hv2
    have ENT := hid (fun W => entryOf_any e hx W)
    obtain ⟨T0, nv, hnv⟩ := nodeV_shape e
    rw [hnv] at ENT ⊢
    obtain ⟨i0, hi0, hz0, hzs, hzb⟩ := info_parts infoEntry
    refine wpIn_block ?_
    refine region_in (by kernel_rfl) (by kernel_rfl) (by rintro ⟨_, _, h⟩; exact h) ?_
    refine wpAny_take (i := 1) (v := .string e.path) rfl (by kernel_rfl) (by kernel_rfl) (by kernel_rfl) (fun _ _ _ h => h) (Or.inl ⟨by rfl, fun w => by go_simp⟩) ?_
    refine wpAny_take (i := 2) (v := .iface T0 nv) rfl (by kernel_rfl) (by kernel_rfl) (by kernel_rfl) (fun _ _ _ h => h) (Or.inl ⟨by rfl, fun w => by go_simp⟩) ?_
    refine wpAny_ready (rs := [0, 3]) (by kernel_rfl) (by simp) ?_
    refine AllReady.cons rfl (fun K hK => ?_) (AllReady.cons rfl (fun K hK => ?_) AllReady.nil)
    · have c0 := (cell_of_box_l hv1).1
      go_simp
      refine hK _ _ ?_
      clear hK K
      refine wpAny_ready (rs := [3]) (by kernel_rfl) (by simp) ?_
      refine AllReady.cons rfl (fun K hK => ?_) AllReady.nil
      go_simp
      refine (unhid ENT _).mono ?_
      rintro r w1 ⟨rfl, hB1⟩
      refine hK _ _ ?_
      clear hK K
      have hb1 : Below W.heap.size W w1 := ((Below.refl _ W).drew).trans hB1
      have hlw := (Array.getElem?_eq_some_iff.1 hv1).1
      have c1 : w1.cell? ⟨w.heap.size, 0, none⟩ = some (.slice av pre.length capv) := (cell_of_box_l ((hb1.block _ hlw).trans hv1)).1
      unfold Ent.vals
      refine wpAny_ready (rs := [4]) (by kernel_rfl) (by simp) ?_
      refine AllReady.cons rfl (fun K hK => ?_) AllReady.nil
      go_simp
      refine hK _ _ ?_
      clear hK K
      have hb3 : Below W.heap.size W (w1.alloc (.cells #[.string e.path, .int .i64 e.kind, .int .i64 e.mode, .string e.text] 90)) := hb1.trans ((Below.refl _ w1).alloc hb1.size _)
      have hv3 := ownsRow_kept hv2 (fun g e => hb3.block g (hv2.lt g e).2)
      have hbx3 := (hb3.block _ hlw).trans hv1
      refine wpAny_ready (rs := [5]) (by kernel_rfl) (by simp) ?_
      refine AllReady.cons rfl (fun K hK => ?_) AllReady.nil
      rw [if_pos (by kernel_rfl)]
      refine wp_append_own _ _ _ 29 rfl (w.heap.size + 2) 90 i0 _ 4 48 Tryz.underlying29 hi0 hz0 hzs hzb rfl (by decide) _ pre.length _ rfl hv3 ⟨w1.heap.size, 0, none⟩ 1 1 [.string e.path, .int .i64 e.kind, .int .i64 e.mode, .string e.text] rfl rfl ?_ ?_ ?_ ?_ ?_ ?_
      · exact lit_cells w1 _ _ _ _ _
      · intro u hu; simp at hu; rcases hu with rfl | rfl | rfl | rfl <;> rfl
      · unfold maxLen; omega
      · omega
      · have := below_lt hTI2.1; have := hb3.size; omega
      · intro v' w2 hown hg _
        obtain ⟨a2, cap2, rfl⟩ := ownsRow_slice hown
        refine hK _ _ ?_
        clear hK K
        have FIN := inEnts_step (x := ⟨e, hx⟩) (Array.getElem?_eq_some_iff.1 h1).1 (fun g eg => (h2.lt g eg).2) (fun g eg => (h3.lt g eg).2) hv1 hv2 hTI2 hB hb3 hown hg
        have hbx2 : w2.heap[w.heap.size]? = some (.cells #[.slice av pre.length capv] 29 (0, 0)) := (hg.block _ (by simp; have := hb1.size; omega) (fun eg => by have := (hv2.lt _ eg.symm).1; omega)).trans hbx3
        obtain ⟨k0, k1⟩ := cell_of_box_l hbx2
        have HF := hid FIN
        clear FIN hown hg
        refine wpAny_ready (rs := [6]) (by kernel_rfl) (by simp) ?_
        refine AllReady.cons rfl (fun K hK => ?_) AllReady.nil
        go_simp
        refine hK _ _ ?_
        clear hK K
        refine wpAny_done (by kernel_rfl) ?_ _
        have HFF := unhid HF
        exact HFF
    · go_simp
      refine (unhid ENT _).mono ?_
      rintro r w1 ⟨rfl, hB1⟩
      refine hK _ _ ?_
      clear hK K
      have hb1 : Below W.heap.size W w1 := ((Below.refl _ W).drew).trans hB1
      have hlw := (Array.getElem?_eq_some_iff.1 hv1).1
      have c1 : w1.cell? ⟨w.heap.size, 0, none⟩ = some (.slice av pre.length capv) := (cell_of_box_l ((hb1.block _ hlw).trans hv1)).1
      unfold Ent.vals
      refine wpAny_ready (rs := [0, 4]) (by kernel_rfl) (by simp) ?_
      refine AllReady.cons rfl (fun K hK => ?_) (AllReady.cons rfl (fun K hK => ?_) AllReady.nil)
      · go_simp
        refine hK _ _ ?_
        clear hK K
        refine wpAny_ready (rs := [4]) (by kernel_rfl) (by simp) ?_
        refine AllReady.cons rfl (fun K hK => ?_) AllReady.nil
        go_simp
        refine hK _ _ ?_
        clear hK K
        have hb3 : Below W.heap.size W (w1.alloc (.cells #[.string e.path, .int .i64 e.kind, .int .i64 e.mode, .string e.text] 90)) := hb1.trans ((Below.refl _ w1).alloc hb1.size _)
        have hv3 := ownsRow_kept hv2 (fun g e => hb3.block g (hv2.lt g e).2)
        have hbx3 := (hb3.block _ hlw).trans hv1
        refine wpAny_ready (rs := [5]) (by kernel_rfl) (by simp) ?_
        refine AllReady.cons rfl (fun K hK => ?_) AllReady.nil
        rw [if_pos (by kernel_rfl)]
        refine wp_append_own _ _ _ 29 rfl (w.heap.size + 2) 90 i0 _ 4 48 Tryz.underlying29 hi0 hz0 hzs hzb rfl (by decide) _ pre.length _ rfl hv3 ⟨w1.heap.size, 0, none⟩ 1 1 [.string e.path, .int .i64 e.kind, .int .i64 e.mode, .string e.text] rfl rfl ?_ ?_ ?_ ?_ ?_ ?_
        · exact lit_cells w1 _ _ _ _ _
        · intro u hu; simp at hu; rcases hu with rfl | rfl | rfl | rfl <;> rfl
        · unfold maxLen; omega
        · omega
        · have := below_lt hTI2.1; have := hb3.size; omega
        · intro v' w2 hown hg _
          obtain ⟨a2, cap2, rfl⟩ := ownsRow_slice hown
          refine hK _ _ ?_
          clear hK K
          have FIN := inEnts_step (x := ⟨e, hx⟩) (Array.getElem?_eq_some_iff.1 h1).1 (fun g eg => (h2.lt g eg).2) (fun g eg => (h3.lt g eg).2) hv1 hv2 hTI2 hB hb3 hown hg
          have hbx2 : w2.heap[w.heap.size]? = some (.cells #[.slice av pre.length capv] 29 (0, 0)) := (hg.block _ (by simp; have := hb1.size; omega) (fun eg => by have := (hv2.lt _ eg.symm).1; omega)).trans hbx3
          obtain ⟨k0, k1⟩ := cell_of_box_l hbx2
          have HF := hid FIN
          clear FIN hown hg
          refine wpAny_ready (rs := [6]) (by kernel_rfl) (by simp) ?_
          refine AllReady.cons rfl (fun K hK => ?_) AllReady.nil
          go_simp
          refine hK _ _ ?_
          clear hK K
          refine wpAny_done (by kernel_rfl) ?_ _
          have HFF := unhid HF
          exact HFF
      · go_simp
        refine hK _ _ ?_
        clear hK K
        have c3 : (w1.alloc (.cells #[.string e.path, .int .i64 e.kind, .int .i64 e.mode, .string e.text] 90)).cell? ⟨w.heap.size, 0, none⟩ = some (.slice av pre.length capv) := cell_alloc_l _ c1
        refine wpAny_ready (rs := [0]) (by kernel_rfl) (by simp) ?_
        refine AllReady.cons rfl (fun K hK => ?_) AllReady.nil
        go_simp
        refine hK _ _ ?_
        clear hK K
        have hb3 : Below W.heap.size W (w1.alloc (.cells #[.string e.path, .int .i64 e.kind, .int .i64 e.mode, .string e.text] 90)) := hb1.trans ((Below.refl _ w1).alloc hb1.size _)
        have hv3 := ownsRow_kept hv2 (fun g e => hb3.block g (hv2.lt g e).2)
        have hbx3 := (hb3.block _ hlw).trans hv1
        refine wpAny_ready (rs := [5]) (by kernel_rfl) (by simp) ?_
        refine AllReady.cons rfl (fun K hK => ?_) AllReady.nil
        rw [if_pos (by kernel_rfl)]
        refine wp_append_own _ _ _ 29 rfl (w.heap.size + 2) 90 i0 _ 4 48 Tryz.underlying29 hi0 hz0 hzs hzb rfl (by decide) _ pre.length _ rfl hv3 ⟨w1.heap.size, 0, none⟩ 1 1 [.string e.path, .int .i64 e.kind, .int .i64 e.mode, .string e.text] rfl rfl ?_ ?_ ?_ ?_ ?_ ?_
        · exact lit_cells w1 _ _ _ _ _
        · intro u hu; simp at hu; rcases hu with rfl | rfl | rfl | rfl <;> rfl
        · unfold maxLen; omega
        · omega
        · have := below_lt hTI2.1; have := hb3.size; omega
        · intro v' w2 hown hg _
          obtain ⟨a2, cap2, rfl⟩ := ownsRow_slice hown
          refine hK _ _ ?_
          clear hK K
          have FIN := inEnts_step (x := ⟨e, hx⟩) (Array.getElem?_eq_some_iff.1 h1).1 (fun g eg => (h2.lt g eg).2) (fun g eg => (h3.lt g eg).2) hv1 hv2 hTI2 hB hb3 hown hg
          have hbx2 : w2.heap[w.heap.size]? = some (.cells #[.slice av pre.length capv] 29 (0, 0)) := (hg.block _ (by simp; have := hb1.size; omega) (fun eg => by have := (hv2.lt _ eg.symm).1; omega)).trans hbx3
          obtain ⟨k0, k1⟩ := cell_of_box_l hbx2
          have HF := hid FIN
          clear FIN hown hg
          refine wpAny_ready (rs := [6]) (by kernel_rfl) (by simp) ?_
          refine AllReady.cons rfl (fun K hK => ?_) AllReady.nil
          go_simp
          refine hK _ _ ?_
          clear hK K
          refine wpAny_done (by kernel_rfl) ?_ _
          have HFF := unhid HF
          exact HFF
  case done =>
    rintro D ys W hD hys ⟨⟨⟨v, hv1, hv2⟩, hTI2⟩, hB⟩ hK
    have c0 := (cell_of_box_l hv1).1
    gi_wp2
    refine ⟨by simp, .inl ⟨_, _, rfl, run_takeDeferred hK, ?_⟩⟩
    have hg := grownBy_putObj' W D (.deferred none)
    have hr : ∀ r, some D = some r → ∃ o : Obj, W.heap[r]? = some o ∧ o.isCells = false := fun r e => by cases e; exact ⟨_, hK, rfl⟩
    have hyl : ys.length = es.length := by rw [← hys, List.length_map]
    rw [hys, hyl] at hv2
    refine ⟨v, ?_, v, rfl, ownsRow_base (row_grown hg hr hv2) (by omega), hB.trans (belowK_b (w := w) (Nat.le_refl _) _ D _ _ (by simp at hD; omega) hK rfl rfl)⟩
    simp [results, Tryz.f170, go_sem]
end Go.Proofs.YtlnpjiabdebmgaaGreat

/- What the laws write over a row to see whose it is. -/
namespace Go.Proofs.YtlnpjiabdebmgaaGreat
open Go.RowKit Go.Shelf

/-- A block whose first cells are n entries. -/
def RowE (W : World) (g n : Nat) (f : Nat → Ent) : Prop := ∃ cur : Array Value, W.heap[g]? = some (.cells cur 90 (0, 0)) ∧ n * 4 ≤ cur.size ∧ ∀ i, i < n → cur[i * 4]? = some (.string (f i).path) ∧ cur[i * 4 + 1]? = some (.int .i64 (f i).kind) ∧ cur[i * 4 + 2]? = some (.int .i64 (f i).mode) ∧ cur[i * 4 + 3]? = some (.string (f i).text)
theorem RowE.lt {W : World} {g n : Nat} {f : Nat → Ent} (x : RowE W g n f) : g < W.heap.size := by
  obtain ⟨cur, h1, _⟩ := x; exact (Array.getElem?_eq_some_iff.1 h1).1
theorem RowE.block {W W' : World} {g n : Nat} {f : Nat → Ent} (x : RowE W g n f) (e : W'.heap[g]? = W.heap[g]?) : RowE W' g n f := by
  obtain ⟨cur, h1, h2, h3⟩ := x; exact ⟨cur, e.trans h1, h2, h3⟩
theorem RowE.below {W W' : World} {B g n : Nat} {f : Nat → Ent} (x : RowE W g n f) (hb : Below B W W') (hg : g < B) : RowE W' g n f := x.block (hb.block g hg)
theorem RowE.congr {W : World} {g n : Nat} {f f' : Nat → Ent} (x : RowE W g n f) (e : ∀ j, j < n → f j = f' j) : RowE W g n f' := by
  obtain ⟨cur, h1, h2, h3⟩ := x; exact ⟨cur, h1, h2, fun j hj => by rw [← e j hj]; exact h3 j hj⟩
theorem RowE.cells {W : World} {g n : Nat} {f : Nat → Ent} (x : RowE W g n f) (k : Nat) (hk : k < n) : EntAt W g (k * 4) (f k) ∧ (W.frozen? ⟨g, k * 4, .none⟩ = false ∧ W.frozen? ⟨g, k * 4 + 1, .none⟩ = false ∧ W.frozen? ⟨g, k * 4 + 2, .none⟩ = false ∧ W.frozen? ⟨g, k * 4 + 3, .none⟩ = false) := by
  obtain ⟨cur, h1, h2, h3⟩ := x
  obtain ⟨a, b, c, d⟩ := h3 k hk
  exact ⟨⟨by simp [World.cell?, h1, a], by simp [World.cell?, h1, b], by simp [World.cell?, h1, c], by simp [World.cell?, h1, d]⟩, by simp [World.frozen?, h1], by simp [World.frozen?, h1], by simp [World.frozen?, h1], by simp [World.frozen?, h1]⟩
theorem RowE.set0 {W : World} {g n : Nat} {f : Nat → Ent} (x : RowE W g n f) (k : Nat) (hk : k < n) (p : ByteArray) : RowE (W.setCell ⟨g, k * 4, .none⟩ (.string p)) g n (upd f k { f k with path := p }) := by
  obtain ⟨cur, h1, h2, h3⟩ := x
  refine ⟨cur.setIfInBounds (k * 4) (.string p), heap_setCell_same _ g _ _ _ _ h1, by simpa using h2, fun i hi => ?_⟩
  obtain ⟨a, b, c, d⟩ := h3 i hi
  unfold upd
  simp only [Array.getElem?_setIfInBounds]
  by_cases e1 : i = k
  · subst e1
    rw [if_pos rfl, if_pos rfl, if_pos (by omega), if_neg (by omega), if_neg (by omega), if_neg (by omega)]
    exact ⟨rfl, b, c, d⟩
  · rw [if_neg e1, if_neg (by omega), if_neg (by omega), if_neg (by omega), if_neg (by omega)]
    exact ⟨a, b, c, d⟩
theorem RowE.set1 {W : World} {g n : Nat} {f : Nat → Ent} (x : RowE W g n f) (k : Nat) (hk : k < n) (p : Int) : RowE (W.setCell ⟨g, k * 4 + 1, .none⟩ (.int .i64 p)) g n (upd f k { f k with kind := p }) := by
  obtain ⟨cur, h1, h2, h3⟩ := x
  refine ⟨cur.setIfInBounds (k * 4 + 1) (.int .i64 p), heap_setCell_same _ g _ _ _ _ h1, by simpa using h2, fun i hi => ?_⟩
  obtain ⟨a, b, c, d⟩ := h3 i hi
  unfold upd
  simp only [Array.getElem?_setIfInBounds]
  by_cases e1 : i = k
  · subst e1
    rw [if_pos rfl, if_pos rfl, if_neg (by omega), if_pos (by omega), if_neg (by omega), if_neg (by omega)]
    exact ⟨a, rfl, c, d⟩
  · rw [if_neg e1, if_neg (by omega), if_neg (by omega), if_neg (by omega), if_neg (by omega)]
    exact ⟨a, b, c, d⟩
theorem RowE.set2 {W : World} {g n : Nat} {f : Nat → Ent} (x : RowE W g n f) (k : Nat) (hk : k < n) (p : Int) : RowE (W.setCell ⟨g, k * 4 + 2, .none⟩ (.int .i64 p)) g n (upd f k { f k with mode := p }) := by
  obtain ⟨cur, h1, h2, h3⟩ := x
  refine ⟨cur.setIfInBounds (k * 4 + 2) (.int .i64 p), heap_setCell_same _ g _ _ _ _ h1, by simpa using h2, fun i hi => ?_⟩
  obtain ⟨a, b, c, d⟩ := h3 i hi
  unfold upd
  simp only [Array.getElem?_setIfInBounds]
  by_cases e1 : i = k
  · subst e1
    rw [if_pos rfl, if_neg (by omega), if_neg (by omega), if_pos rfl, if_pos (by omega), if_neg (by omega)]
    exact ⟨a, b, rfl, d⟩
  · rw [if_neg e1, if_neg (by omega), if_neg (by omega), if_neg (by omega), if_neg (by omega)]
    exact ⟨a, b, c, d⟩
theorem RowE.set3 {W : World} {g n : Nat} {f : Nat → Ent} (x : RowE W g n f) (k : Nat) (hk : k < n) (p : ByteArray) : RowE (W.setCell ⟨g, k * 4 + 3, .none⟩ (.string p)) g n (upd f k { f k with text := p }) := by
  obtain ⟨cur, h1, h2, h3⟩ := x
  refine ⟨cur.setIfInBounds (k * 4 + 3) (.string p), heap_setCell_same _ g _ _ _ _ h1, by simpa using h2, fun i hi => ?_⟩
  obtain ⟨a, b, c, d⟩ := h3 i hi
  unfold upd
  simp only [Array.getElem?_setIfInBounds]
  by_cases e1 : i = k
  · subst e1
    rw [if_pos rfl, if_neg (by omega), if_neg (by omega), if_neg (by omega), if_pos rfl, if_pos (by omega)]
    exact ⟨a, b, c, rfl⟩
  · rw [if_neg e1, if_neg (by omega), if_neg (by omega), if_neg (by omega), if_neg (by omega)]
    exact ⟨a, b, c, d⟩

/-- The entry that the laws write at a place. -/
def markE (q i : Nat) : Ent := ⟨mtext (q + i * 4), ((q + i * 4 + 1 : Nat) : Int), ((q + i * 4 + 2 : Nat) : Int), mtext (q + i * 4 + 3)⟩

set_option maxRecDepth 100000 in
set_option maxHeartbeats 4000000 in
theorem markEntryS_row (g n cap q : Nat) (f : Nat → Ent) (w : World) (hn : n ≤ 1048576) (hq : 0 < q) (hq2 : q ≤ 20000000) (h : RowE w g n f) :
    Calls Tryz.prog 26 #[.slice (some ⟨g, 0, .none⟩) n cap, .int .i64 (q : Int)] w fun x w' => x = .returned (.int .i64 ((q + n * 4 : Nat) : Int)) ∧ RowE w' g n (markE q) ∧ w.grownBy w' (some g) := by
  have hgl := h.lt
  go_enter Tryz.func26, Tryz.ntmps26
  go_wp2_with fail
  go_loopw [1, 5] (fun c i wr => ∃ k : Nat, k ≤ n ∧ i = .int .i64 (k : Int) ∧ c = .int .i64 ((q + k * 4 : Nat) : Int) ∧ RowE wr g n (fun j => if j < k then markE q j else f j) ∧ w.grownBy wr (some g)) (fun _ i _ => n - (intOf i).toNat)
  case atStart => exact ⟨0, Nat.zero_le _, rfl, by go_num, h.congr (fun j _ => by simp), gb_refl _ _⟩
  case round =>
    obtain ⟨k, hk, rfl, rfl, hR, hG⟩ := hrel
    by_cases hlt : k < n
    · obtain ⟨⟨d0, d1, d2, d3⟩, f0, f1, f2, f3⟩ := hR.cells k hlt
      have HR := hid hR
      have HG := hid hG
      clear hR hG h
      go_wp2_with fail
      refine (markText_at _ (q + k * 4) _ (by omega) (by omega) (by omega)).mono ?_
      rintro x w1 ⟨rfl, hb1⟩
      have hgr : g < wr.heap.size := (unhid HR).lt
      have hR1 := (unhid HR).below hb1 hgr
      have HG1 := hid (grownBy_below (unhid HG) hb1)
      obtain ⟨⟨d0, d1, d2, d3⟩, f0, f1, f2, f3⟩ := hR1.cells k hlt
      have hR2 := ((hR1.set0 k hlt (mtext (q + k * 4))).set1 k hlt ((q : Int) + (k : Int) * 4 + 1)).set2 k hlt ((q : Int) + (k : Int) * 4 + 1 + 1)
      have hg1 : w.grownBy (((w1.setCell ⟨g, k * 4, .none⟩ (.string (mtext (q + k * 4)))).setCell ⟨g, k * 4 + 1, .none⟩ (.int .i64 ((q : Int) + (k : Int) * 4 + 1))).setCell ⟨g, k * 4 + 2, .none⟩ (.int .i64 ((q : Int) + (k : Int) * 4 + 1 + 1))) (some g) := grown_setCell (grown_setCell (grown_setCell (unhid HG1) _ _) _ _) _ _
      obtain ⟨W3, hW3⟩ : ∃ W3, W3 = (((w1.setCell ⟨g, k * 4, .none⟩ (.string (mtext (q + k * 4)))).setCell ⟨g, k * 4 + 1, .none⟩ (.int .i64 ((q : Int) + (k : Int) * 4 + 1))).setCell ⟨g, k * 4 + 2, .none⟩ (.int .i64 ((q : Int) + (k : Int) * 4 + 1 + 1))) := ⟨_, rfl⟩
      rw [← hW3] at hR2 hg1
      have HR2 := hid (And.intro hR2 hg1)
      have HW3 := hid hW3
      clear hR1 hb1 HR HG hR2 hg1 HG1 hW3
      go_wp2_with fail
      rw [← unhid HW3]
      refine (markText_at _ (q + k * 4 + 3) _ (by omega) (by omega) (by omega)).mono ?_
      rintro x w4 ⟨rfl, hb4⟩
      have hR4 := (unhid HR2).1.below hb4 (unhid HR2).1.lt
      have hG4 := grownBy_below (unhid HR2).2 hb4
      have hR5 := hR4.set3 k hlt (mtext (q + k * 4 + 3))
      obtain ⟨⟨-, -, -, d3⟩, -, -, -, f3⟩ := hR4.cells k hlt
      have HF := hid (And.intro hR5 (grown_setCell hG4 (k * 4 + 3) (.string (mtext (q + k * 4 + 3)))))
      clear hR4 hG4 hR5 HR2 HW3 hb4 d0 d1 d2 f0 f1 f2
      go_wp2_with fail
      go_roundw
      case rel =>
        refine ⟨k + 1, by omega, by go_num, by go_num, (unhid HF).1.congr (fun j hj => ?_), (unhid HF).2⟩
        unfold upd
        by_cases ej : j = k
        · subst ej
          simp [markE]
          omega
        · simp only [if_neg ej]
          by_cases hj2 : j < k
          · rw [if_pos hj2, if_pos (by omega)]
          · rw [if_neg hj2, if_neg (by omega)]
      case measure => simp [intOf]; omega
    · have e : k = n := by omega
      subst e
      go_wp2_with fail
      go_ret
      exact ⟨ret_int (by go_num), hR.congr (fun j hj => by rw [if_pos hj]), hG⟩
end Go.Proofs.YtlnpjiabdebmgaaGreat

/- Rows of entries between two bounds; what is written over them is there, and nothing else changes. -/
namespace Go.Proofs.YtlnpjiabdebmgaaGreat
open Go.RowKit Go.Shelf

/-- Entries in a row of their own, whose block is from N on, ahead of M. -/
def RowIn (W : World) (a : Option Addr) (N M : Nat) (es : List Ent) : Prop := es = [] ∨ ∃ g, a = some ⟨g, 0, .none⟩ ∧ N ≤ g ∧ g < M ∧ RowE W g es.length (entFn es)
theorem RowIn.at {W : World} {a : Option Addr} {N M : Nat} {es : List Ent} (h : RowIn W a N M es) : EntsAt W a es := by
  rcases h with h | ⟨g, rfl, _, _, hR⟩
  · exact .inl h
  · refine .inr ⟨g, 0, rfl, hR.lt, fun i e hi => ?_⟩
    have := (hR.cells i (List.getElem?_eq_some_iff.1 hi).1).1
    rw [entFn_get hi] at this
    rwa [Nat.zero_add]
/-- Nothing changes but blocks from N on, ahead of M. -/
structure Spares (N M : Nat) (w w' : World) : Prop where
  os : w'.os = w.os
  tape : w'.tape = w.tape
  output : w'.output = w.output
  size : w.heap.size ≤ w'.heap.size
  block : ∀ k, k < w.heap.size → (k < N ∨ M ≤ k) → w'.heap[k]? = w.heap[k]?
theorem Spares.row {w w' : World} {N M N2 M2 : Nat} {a : Option Addr} {es : List Ent} (h : Spares N M w w') (x : RowIn w a N2 M2 es) (hd : M2 ≤ N ∨ M ≤ N2) : RowIn w' a N2 M2 es := by
  rcases x with x | ⟨g, rfl, h1, h2, hR⟩
  · exact .inl x
  · exact .inr ⟨g, rfl, h1, h2, hR.block (h.block g hR.lt (by omega))⟩
theorem Spares.below {w0 w w' : World} {N M : Nat} (h : Spares N M w w') (hb : Below w0.heap.size w0 w) (hN : w0.heap.size ≤ N) : Below w0.heap.size w0 w' :=
  ⟨h.os.trans hb.os, h.tape.trans hb.tape, h.output.trans hb.output, Nat.le_trans hb.size h.size, fun k hk => (h.block k (Nat.lt_of_lt_of_le hk hb.size) (by omega)).trans (hb.block k hk)⟩
theorem RowIn.below {w w' : World} {N M : Nat} {a : Option Addr} {es : List Ent} (x : RowIn w a N M es) (h : Below w.heap.size w w') : RowIn w' a N M es := by
  rcases x with x | ⟨g, rfl, h1, h2, hR⟩
  · exact .inl x
  · exact .inr ⟨g, rfl, h1, h2, hR.block (h.block g hR.lt)⟩
theorem RowIn.wide {w : World} {N M N2 M2 : Nat} {a : Option Addr} {es : List Ent} (x : RowIn w a N M es) (hN : N2 ≤ N) (hM : M ≤ M2) : RowIn w a N2 M2 es := by
  rcases x with x | ⟨g, rfl, h1, h2, hR⟩
  · exact .inl x
  · exact .inr ⟨g, rfl, by omega, by omega, hR⟩
def marks (q n : Nat) : List Ent := (List.range n).map (markE q)
theorem marks_len (q n : Nat) : (marks q n).length = n := by simp [marks]
theorem marks_get {q n i : Nat} (h : i < n) : entFn (marks q n) i = markE q i := entFn_get (by simp [marks, h])

set_option maxRecDepth 100000 in
set_option maxHeartbeats 1000000 in
theorem markEntryS_any (es : List Ent) (a : Option Addr) (cap q N M : Nat) (w : World) (hn : es.length ≤ 1048576) (hq : 0 < q) (hq2 : q ≤ 20000000) (h : RowIn w a N M es) :
    Calls Tryz.prog 26 #[.slice a es.length cap, .int .i64 (q : Int)] w fun x w' => x = .returned (.int .i64 ((q + es.length * 4 : Nat) : Int)) ∧ RowIn w' a N M (marks q es.length) ∧ Spares N M w w' := by
  rcases h with rfl | ⟨g, rfl, h1, h2, hR⟩
  · go_enter Tryz.func26, Tryz.ntmps26
    go_wp2_with fail
    go_loopw [1, 5] (fun c i wr => i = .int .i64 0 ∧ c = .int .i64 (q : Int) ∧ wr = w) (fun _ i _ => 0)
    case atStart => exact ⟨rfl, rfl, rfl⟩
    case round =>
      obtain ⟨rfl, rfl, rfl⟩ := hrel
      go_wp2_with fail
      go_ret
      exact ⟨ret_int (by simp), .inl (by simp [marks]), ⟨rfl, rfl, rfl, Nat.le_refl _, fun _ _ _ => rfl⟩⟩
  · refine (markEntryS_row g es.length cap q _ w hn hq hq2 hR).mono ?_
    rintro x w' ⟨rfl, hR', hG⟩
    refine ⟨rfl, .inr ⟨g, rfl, h1, h2, ?_⟩, ⟨hG.os, hG.tape, hG.output, hG.size, fun k hk hor => hG.block k hk (fun e => by cases e; omega)⟩⟩
    rw [marks_len]
    exact hR'.congr (fun j hj => (marks_get hj).symm)

set_option maxRecDepth 100000 in
set_option maxHeartbeats 4000000 in
theorem heldEntryS_any (n : Nat) (a : Option Addr) (cap q : Nat) (w : World) (hn : n ≤ 1048576) (hq : 0 < q) (hq2 : q ≤ 20000000) (h : EntsAt w a (marks q n)) :
    Calls Tryz.prog 27 #[.slice a n cap, .int .i64 (q : Int)] w fun x w' => x = .returned (.int .i64 ((q + n * 4 : Nat) : Int)) ∧ Below w.heap.size w w' := by
  go_enter Tryz.func27, Tryz.ntmps27
  go_wp2_with fail
  go_loopw [1, 5] (fun c i wr => ∃ k : Nat, k ≤ n ∧ i = .int .i64 (k : Int) ∧ c = .int .i64 ((q + k * 4 : Nat) : Int) ∧ Below w.heap.size w wr) (fun _ i _ => n - (intOf i).toNat)
  case atStart => exact ⟨0, Nat.zero_le _, rfl, by go_num, Below.refl _ _⟩
  case round =>
    obtain ⟨k, hk, rfl, rfl, hB⟩ := hrel
    by_cases hlt : k < n
    · have he : (marks q n)[k]? = some (markE q k) := by simp [marks, hlt]
      obtain ⟨b, o, rfl, hbl, hc⟩ := h.get (by intro e; rw [e] at he; cases he)
      obtain ⟨c0, c1, c2, c3⟩ := ((hc k _ he).below hB hbl)
      have HH := hid (And.intro hc hB)
      have hbw : b < wr.heap.size := Nat.lt_of_lt_of_le hbl hB.size
      have HC := hid (And.intro c0 (And.intro c1 (And.intro c2 c3)))
      have g0 := BW.cell (B := wr.heap.size) hbw (show wr.cell? ⟨b, o + k * 4, none⟩ = some (.string (mtext (q + k * 4))) from c0)
      clear hc hB he h c0 c1 c2 c3
      go_wp2_with fail
      have hba := @BW.all wr.heap.size wr
      refine calm_region wr.heap.size (by kernel_rfl) (by kernel_rfl) ?_
      repeat (go_big_quiet_step ((go_at_call 73; exact Calls.bw (v := .string (mtext (q + k * 4))) (Nat.le_refl _) (markText_at _ (q + k * 4) _ (by omega) (by omega) (by omega)))))
      refine wpQuiet_nil ?_
      intro w4 hw
      obtain ⟨x, hx⟩ := hw
      have hB4 : Below wr.heap.size wr w4 := by rw [hx]; exact x.h
      clear hx x g0 hba
      obtain ⟨c0, c1, c2, c3⟩ := unhid HC
      have d1 : w4.cell? ⟨b, o + k * 4 + 1, none⟩ = some (.int .i64 ((q : Int) + (k : Int) * 4 + 1)) := ((hB4.cell (p := ⟨b, o + k * 4 + 1, none⟩) hbw).trans c1).trans (by simp [markE])
      have d2 : w4.cell? ⟨b, o + k * 4 + 2, none⟩ = some (.int .i64 ((q : Int) + (k : Int) * 4 + 1 + 1)) := ((hB4.cell (p := ⟨b, o + k * 4 + 2, none⟩) hbw).trans c2).trans (by simp [markE]; omega)
      have d3 : w4.cell? ⟨b, o + k * 4 + 3, none⟩ = some (.string (mtext (q + k * 4 + 3))) := (hB4.cell (p := ⟨b, o + k * 4 + 3, none⟩) hbw).trans c3
      have HB4 := hid ((unhid HH).2.trans (hB4.mono (unhid HH).2.size))
      have hbw4 : b < w4.heap.size := Nat.lt_of_lt_of_le hbw hB4.size
      have g3 := BW.cell (B := w4.heap.size) hbw4 d3
      clear c0 c1 c2 c3 HC hB4 HH d3
      go_wp2_with fail
      have hba := @BW.all w4.heap.size w4
      refine calm_region w4.heap.size (by kernel_rfl) (by kernel_rfl) ?_
      repeat (go_big_quiet_step ((go_at_call 73; exact Calls.bw (v := .string (mtext (q + k * 4 + 3))) (Nat.le_refl _) (markText_at _ (q + k * 4 + 3) _ (by omega) (by omega) (by omega)))))
      refine wpQuiet_nil ?_
      intro w5 hw
      obtain ⟨x, hx⟩ := hw
      have hB5 : Below w4.heap.size w4 w5 := by rw [hx]; exact x.h
      have HB5 := hid ((unhid HB4).trans (hB5.mono (unhid HB4).size))
      clear hx x g3 hba hB5 HB4 d1 d2
      go_wp2_with fail
      go_roundw
      case rel => exact ⟨k + 1, by omega, by go_num, by go_num, unhid HB5⟩
      case measure => simp [intOf]; omega
    · have e : k = n := by omega
      subst e
      go_wp2_with fail
      go_ret
      exact ⟨ret_int (by go_num), hB⟩
end Go.Proofs.YtlnpjiabdebmgaaGreat

/- A row of entries copied, by the model. -/
namespace Go.Proofs.YtlnpjiabdebmgaaGreat
open Go.RowKit Go.Shelf

theorem valsOf_len (es : List Ent) : (valsOf es).length = es.length * 4 := by
  induction es with
  | nil => rfl
  | cons e es ih => simp only [valsOf, List.flatMap_cons, List.length_append, List.length_cons] at *; rw [ih]; simp [Ent.vals]; omega
theorem valsOf_get : ∀ (es : List Ent) (i r : Nat), r < 4 → (valsOf es)[i * 4 + r]? = (es[i]?).bind fun e => e.vals.toList[r]?
  | [], i, r, h => by simp [valsOf]
  | e :: es, 0, r, h => by
    show (e.vals.toList ++ valsOf es)[0 * 4 + r]? = _
    rw [Nat.zero_mul, Nat.zero_add, List.getElem?_append_left (by simp [Ent.vals]; omega)]
    rfl
  | e :: es, i + 1, r, h => by
    show (e.vals.toList ++ valsOf es)[(i + 1) * 4 + r]? = _
    rw [List.getElem?_append_right (by simp [Ent.vals]; omega)]
    have : (i + 1) * 4 + r - e.vals.toList.length = i * 4 + r := by simp [Ent.vals]; omega
    rw [this, valsOf_get es i r h, List.getElem?_cons_succ]
theorem valsOf_one (es : List Ent) : ∀ u ∈ valsOf es, u.oneCell' = true := by
  intro u hu
  simp only [valsOf, List.mem_flatMap] at hu
  obtain ⟨e, _, hu⟩ := hu
  simp [Ent.vals] at hu
  rcases hu with rfl | rfl | rfl | rfl <;> rfl
theorem add_plain4 (b o n : Nat) : (⟨b, o, none⟩ : Addr).add n = ⟨b, o + n, none⟩ := by simp [Addr.add]
theorem ents_cells {W : World} {b o : Nat} {es : List Ent} (h : ∀ (i : Nat) e, es[i]? = some e → EntAt W b (o + i * 4) e) : ∀ j u, (valsOf es)[j]? = some u → W.cell? ((⟨b, o, none⟩ : Addr).add j) = some u := by
  intro j u hj
  have e1 : j = j / 4 * 4 + j % 4 := by omega
  rw [e1, valsOf_get es _ _ (Nat.mod_lt _ (by omega))] at hj
  cases he : es[j / 4]? with
  | none => rw [he] at hj; cases hj
  | some e =>
    rw [he] at hj
    obtain ⟨c0, c1, c2, c3⟩ := h _ e he
    rw [add_plain4]
    have hr : j % 4 < 4 := Nat.mod_lt _ (by omega)
    have e2 : o + j = o + j / 4 * 4 + j % 4 := by omega
    rw [e2]
    have hb : e.vals.toList[j % 4]? = some u := hj
    generalize j % 4 = r at hr hb
    match r, hr with
    | 0, _ => simp [Ent.vals] at hb; rw [← hb]; exact c0
    | 1, _ => simp [Ent.vals] at hb; rw [← hb]; exact c1
    | 2, _ => simp [Ent.vals] at hb; rw [← hb]; exact c2
    | 3, _ => simp [Ent.vals] at hb; rw [← hb]; exact c3
/-- A row that is owned holds its entries. -/
theorem rowIn_of_owns {W : World} {N : Nat} {v : Value} {es : List Ent} (h : W.ownsRow N 90 4 v es.length (valsOf es)) : ∃ a cap, v = .slice a es.length cap ∧ RowIn W a N W.heap.size es := by
  rcases h.2 with ⟨rfl, h0⟩ | ⟨g, cap, cur, rfl, hN, hg, hc, _, hsz, hcells⟩
  · exact ⟨none, 0, by rw [h0], .inl (List.length_eq_zero_iff.1 h0)⟩
  · refine ⟨_, cap, rfl, .inr ⟨g, rfl, hN, (Array.getElem?_eq_some_iff.1 hg).1, cur, hg, by omega, fun i hi => ?_⟩⟩
    have he : es[i]? = some es[i] := List.getElem?_eq_getElem hi
    rw [entFn_get he]
    have hget : ∀ r, r < 4 → cur[i * 4 + r]? = es[i].vals.toList[r]? := fun r hr => by
      have h1 := valsOf_get es i r hr
      rw [he, ← hcells, List.getElem?_take_of_lt (by omega), Array.getElem?_toList] at h1
      exact h1
    exact ⟨hget 0 (by omega), hget 1 (by omega), hget 2 (by omega), hget 3 (by omega)⟩
theorem ents_take {W : World} {b o k : Nat} {es : List Ent} (h : ∀ (i : Nat) e, es[i]? = some e → EntAt W b (o + i * 4) e) : ∀ (i : Nat) e, (es.take k)[i]? = some e → EntAt W b (o + i * 4) e := fun i e hi => h i e (by
  rw [List.getElem?_take] at hi
  split at hi
  · exact hi
  · cases hi)
theorem ents_drop {W : World} {b o k : Nat} {es : List Ent} (h : ∀ (i : Nat) e, es[i]? = some e → EntAt W b (o + i * 4) e) : ∀ (i : Nat) e, (es.drop k)[i]? = some e → EntAt W b (o + k * 4 + i * 4) e := fun i e hi => by
  have := h (k + i) e (by rw [List.getElem?_drop] at hi; exact hi)
  rwa [Nat.add_mul, ← Nat.add_assoc] at this
theorem owns_empty (w : World) (N : Nat) (hN : N ≤ w.heap.size) (T : TypeId) : (w.alloc (.cells #[] T)).ownsRow N T 4 (.slice (some ⟨w.heap.size, 0, none⟩) 0 0) 0 [] :=
  ⟨rfl, .inr ⟨w.heap.size, 0, #[], rfl, hN, World.alloc_heap_new _ _, Nat.le_refl _, Nat.zero_le _, rfl, rfl⟩⟩
theorem entAt_below {W W' : World} {b o : Nat} {es : List Ent} (h : ∀ (i : Nat) e, es[i]? = some e → EntAt W b (o + i * 4) e) (hb : es = [] ∨ b < W.heap.size) (hB : Below W.heap.size W W') : ∀ (i : Nat) e, es[i]? = some e → EntAt W' b (o + i * 4) e := fun i e hi => by
  rcases hb with rfl | hb
  · simp at hi
  · exact (h i e hi).below hB hb

set_option maxRecDepth 100000 in
set_option maxHeartbeats 1000000 in
theorem l2Copy_some (es : List Ent) (b o cap : Nat) (w : World) (hn : es.length ≤ 1048576) (h : ∀ (i : Nat) e, es[i]? = some e → EntAt w b (o + i * 4) e) (hb : es = [] ∨ b < w.heap.size) :
    Calls Tryz.prog 166 #[.slice (some ⟨b, o, none⟩) es.length cap] w fun x w' => ∃ g c, x = .returned (.slice (some ⟨g, 0, none⟩) es.length c) ∧ w'.ownsRow w.heap.size 90 4 (.slice (some ⟨g, 0, none⟩) es.length c) es.length (valsOf es) ∧ Below w.heap.size w w' := by
  obtain ⟨i0, hi0, hz0, hzs, hzb⟩ := info_parts infoEntry
  go_enter Tryz.func166, Tryz.ntmps166
  have hB1 : Below w.heap.size w (w.alloc (.cells #[] 90)) := (Below.refl _ w).alloc (Nat.le_refl _) _
  have hcs := ents_cells (entAt_below h hb hB1)
  have HV := hid (And.intro (valsOf_len es) (And.intro hcs (valsOf_one es)))
  have HB := hid hB1
  clear h hcs hB1
  go_wp2_with (at_builtin; refine wpList_append_own _ rfl _ _ 29 rfl w.heap.size 90 i0 _ 4 48 Tryz.underlying29 hi0 hz0 hzs hzb rfl (by decide) _ 0 [] rfl (owns_empty w _ (Nat.le_refl _) _) ⟨b, o, none⟩ es.length cap (valsOf es) rfl (unhid HV).1 (unhid HV).2.1 (unhid HV).2.2 ?c3 ?c4 ?c5 ?_)
  case c3 => unfold maxLen; omega
  case c4 => omega
  case c5 => simp
  intro v' w2 hown hg hnil
  obtain ⟨g2, cap2, rfl⟩ : ∃ g2 cap2, v' = .slice (some ⟨g2, 0, none⟩) es.length cap2 := by
    rcases hown.2 with ⟨hv, _⟩ | ⟨g, cap, cur, hv, _⟩
    · exact absurd hv hnil
    · exact ⟨g, cap, hv⟩
  have HF := hid (And.intro hown ((unhid HB).grown hg (unhid HB).size (fun k e => by cases e; exact Nat.le_refl _)))
  clear hown hg HV HB
  go_wp2_with fail
  go_ret
  exact ⟨g2, cap2, rfl, unhid HF⟩
theorem l2Copy_any (es : List Ent) (b o cap : Nat) (w : World) (hn : es.length ≤ 1048576) (h : ∀ (i : Nat) e, es[i]? = some e → EntAt w b (o + i * 4) e) (hb : es = [] ∨ b < w.heap.size) :
    Calls Tryz.prog 166 #[.slice (some ⟨b, o, none⟩) es.length cap] w fun x w' => ∃ v, x = .returned v ∧ w'.ownsRow w.heap.size 90 4 v es.length (valsOf es) ∧ Below w.heap.size w w' :=
  (l2Copy_some es b o cap w hn h hb).mono (fun _ _ ⟨_, _, h1, h2, h3⟩ => ⟨_, h1, h2, h3⟩)
end Go.Proofs.YtlnpjiabdebmgaaGreat

/- An entry put into a tree, by the model. -/
namespace Go.Proofs.YtlnpjiabdebmgaaGreat
open Go.RowKit Go.Shelf

theorem below_set4 {B : Nat} {a w : World} (h : Below B a w) {g : Nat} (hg : B ≤ g) (j : Nat) (e : Ent) : Below B a ((((w.setCell ⟨g, j * 4, none⟩ (.string e.path)).setCell ⟨g, j * 4 + 1, none⟩ (.int .i64 e.kind)).setCell ⟨g, j * 4 + 2, none⟩ (.int .i64 e.mode)).setCell ⟨g, j * 4 + 3, none⟩ (.string e.text)) :=
  (((h.setCell (p := ⟨g, j * 4, none⟩) hg _).setCell (p := ⟨g, j * 4 + 1, none⟩) hg _).setCell (p := ⟨g, j * 4 + 2, none⟩) hg _).setCell (p := ⟨g, j * 4 + 3, none⟩) hg _
/-- An append at a step of a region, and where the new row lies. -/
theorem step_append_at {P : Program} {w : World} {ops : Array Oper} {o : Oper} {a : Act} {K : Act → World → Prop} {Q : Exit → Act → World → Prop} {E : Prop} (hgd : o.guard = none) (s x : Operand) (t : TypeId)
    (ho : o.op = .call { callee := .builtin .append, args := #[s, x], argTypes := #[t, t] })
    (base : Nat) (e : TypeId) (i : TypeInfo) (z : Value) (size bytes : Nat) (ht : P.underlying t = some (.slice e)) (hi : P.info? e = some i) (hz : i.zero = some z)
    (hsize : i.size = size) (hby : i.bytes = bytes) (hzs : z.cells.size = size) (hsz : 0 < size)
    (v : Value) (n : Nat) (xs : List Value) (hs : a.eval s = v) (hown : w.ownsRow base e size v n xs)
    (ad : Addr) (m c : Nat) (news : List Value) (hx : a.eval x = .slice (some ad) m c) (hl : news.length = m * size) (hnews : ∀ j u, news[j]? = some u → w.cell? (ad.add j) = some u) (h1 : ∀ u ∈ news, u.oneCell' = true)
    (h63 : n + m ≤ maxLen) (hbytes : (n + m) * bytes ≤ 140737488355328) (hbase : base ≤ w.heap.size)
    (h : ∀ v' w', w'.ownsRow base e size v' (n + m) (xs ++ news) → w.grownBy w' v.ownBlock → (v'.ownBlock = v.ownBlock ∨ v'.ownBlock = some w.heap.size) → K (a.put o.dst v') w') :
    if Region.wanted o (yielded ops a.tmps) = true then Oper.wp P o a w K Q else E := by
  have hw : Region.wanted o (yielded ops a.tmps) = true := by simp [Region.wanted, hgd]
  rw [if_pos hw]
  obtain ⟨v', w', hr, h2, h3, _, h5⟩ := run_append_own_at (P := P) w base t o.type e i z size bytes ht hi hz hsize hby hzs hsz v n xs hown ad m c news hl hnews h1 h63 hbytes hbase
  unfold Oper.wp execOp
  simp only [ho, resolve, invoke, builtin, Sem.run_bind, Sem.run_pure, Result.andThen_ok, List.map_toArray, List.map_cons, List.map_nil, hs, hx, hr]
  exact h v' w' h2 h3 h5
/-- How far on a row's rest begins: where nothing is left it stays where the row began. -/
def offD (cap k : Nat) : Nat := if cap = k then 0 else k * 4
theorem ents_dropD {W : World} {b o k cap : Nat} {es : List Ent} (h : ∀ (i : Nat) e, es[i]? = some e → EntAt W b (o + i * 4) e) (hc : es.length ≤ cap) : ∀ (i : Nat) e, (es.drop k)[i]? = some e → EntAt W b (o + offD cap k + i * 4) e := fun i e hi => by
  by_cases hck : cap = k
  · have : es.drop k = [] := List.drop_eq_nil_of_le (by omega)
    rw [this] at hi; simp at hi
  · unfold offD; rw [if_neg hck]; exact ents_drop h i e hi
/-- A row of one entry. -/
def OneAt (W : World) (g : Nat) (e : Ent) : Prop := W.heap[g]? = some (.cells e.vals 90 (0, 0))
theorem OneAt.lt {W : World} {g : Nat} {e : Ent} (h : OneAt W g e) : g < W.heap.size := (Array.getElem?_eq_some_iff.1 h).1
theorem OneAt.alloc {W : World} {g : Nat} {e : Ent} (h : OneAt W g e) (o : Obj) : OneAt (W.alloc o) g e := (Below.heap_alloc _ _ _ h.lt).trans h
theorem OneAt.grown {W W' : World} {g : Nat} {e : Ent} {row : Option Nat} (h : OneAt W g e) (hg : W.grownBy W' row) (hr : some g ≠ row) : OneAt W' g e := (hg.block g h.lt hr).trans h
theorem OneAt.cells {W : World} {g : Nat} {e : Ent} (h : OneAt W g e) : ∀ j u, (valsOf [e])[j]? = some u → W.cell? ((⟨g, 0, none⟩ : Addr).add j) = some u := by
  intro j u hj
  rw [add_plain4, Nat.zero_add]
  have hj' : e.vals[j]? = some u := by
    have : (valsOf [e]) = e.vals.toList := by simp [valsOf]
    rw [this, Array.getElem?_toList] at hj; exact hj
  show W.cell? ⟨g, j, none⟩ = some u
  unfold OneAt at h
  simp only [World.cell?, h]
  exact hj'
theorem valsOf_app (xs ys : List Ent) : valsOf (xs ++ ys) = valsOf xs ++ valsOf ys := by simp [valsOf]
theorem valsOf_set (es : List Ent) (j : Nat) (e : Ent) (hj : j < es.length) : valsOf (es.set j e) = ((((valsOf es).set (j * 4) (.string e.path)).set (j * 4 + 1) (.int .i64 e.kind)).set (j * 4 + 2) (.int .i64 e.mode)).set (j * 4 + 3) (.string e.text) := by
  have hl := valsOf_len es
  apply List.ext_getElem?
  intro i
  have e1 : i = i / 4 * 4 + i % 4 := by omega
  have hr : i % 4 < 4 := Nat.mod_lt _ (by omega)
  generalize i / 4 = m at e1
  generalize i % 4 = r at e1 hr
  subst e1
  rw [valsOf_get _ _ _ hr, List.getElem?_set, List.getElem?_set, List.getElem?_set, List.getElem?_set, List.getElem?_set, valsOf_get _ _ _ hr]
  simp only [List.length_set]
  by_cases ej : j = m
  · subst ej
    rw [if_pos rfl, if_pos hj]
    match r, hr with
    | 0, _ => rw [if_neg (by omega), if_neg (by omega), if_neg (by omega), if_pos (by omega), if_pos (by omega)]; rfl
    | 1, _ => rw [if_neg (by omega), if_neg (by omega), if_pos (by omega), if_pos (by omega)]; rfl
    | 2, _ => rw [if_neg (by omega), if_pos (by omega), if_pos (by omega)]; rfl
    | 3, _ => rw [if_pos (by omega), if_pos (by omega)]; rfl
  · rw [if_neg ej, if_neg (by omega), if_neg (by omega), if_neg (by omega), if_neg (by omega)]
theorem ownsRow_set4 {W : World} {N j g : Nat} {v : Value} {es : List Ent} (h : W.ownsRow N 90 4 v es.length (valsOf es)) (hj : j < es.length) (hg : v.ownBlock = some g) (e : Ent) :
    ((((W.setCell ⟨g, j * 4, none⟩ (.string e.path)).setCell ⟨g, j * 4 + 1, none⟩ (.int .i64 e.kind)).setCell ⟨g, j * 4 + 2, none⟩ (.int .i64 e.mode)).setCell ⟨g, j * 4 + 3, none⟩ (.string e.text)).ownsRow N 90 4 v es.length (valsOf (es.set j e)) := by
  refine ⟨by rw [valsOf_len, List.length_set], ?_⟩
  rcases h.2 with ⟨rfl, h0⟩ | ⟨g', cap, cur, rfl, hN, hh, hc, hm, hsz, hcells⟩
  · cases hg
  · cases hg
    refine .inr ⟨g', cap, (((cur.setIfInBounds (j * 4) (.string e.path)).setIfInBounds (j * 4 + 1) (.int .i64 e.kind)).setIfInBounds (j * 4 + 2) (.int .i64 e.mode)).setIfInBounds (j * 4 + 3) (.string e.text), rfl, hN, ?_, hc, hm, by simpa using hsz, ?_⟩
    · exact heap_setCell_same _ g' _ _ _ _ (heap_setCell_same _ g' _ _ _ _ (heap_setCell_same _ g' _ _ _ _ (heap_setCell_same _ g' _ _ _ _ hh)))
    · rw [valsOf_set es j e hj, ← hcells]
      simp only [Array.toList_setIfInBounds, List.take_set]

/-- A slice that is not nil. -/
def SomeV (v : Value) : Prop := ∃ ad n c, v = .slice (some ad) n c
theorem owns_some {W : World} {N n size : Nat} {v : Value} {e : TypeId} {xs : List Value} (h : W.ownsRow N e size v n xs) (hn : 0 < n) : SomeV v := by
  rcases h.2 with ⟨rfl, h0⟩ | ⟨g, cap, cur, rfl, _⟩
  · omega
  · exact ⟨_, _, _, rfl⟩
end Go.Proofs.YtlnpjiabdebmgaaGreat

/- An entry put into a tree: what the program answers, and its model. -/
namespace Go.Proofs.YtlnpjiabdebmgaaGreat
open Go.RowKit Go.Shelf

def putR (es : List Ent) (e : Ent) : List Ent := if treeB es then putL es e else []
def putOk (es : List Ent) (e : Ent) : Bool := treeB es && okPut es e
theorem tree_16 {es : List Ent} (h : treeB es = true) : es.length ≤ 16 := by
  have := (kept_asc es).2; rwa [keptE_yes h] at this
theorem tree_asc {es : List Ent} (h : treeB es = true) : Asc (pathsOf es) := by
  have := (kept_asc es).1; rwa [keptE_yes h] at this
theorem tree_all {es : List Ent} (h : treeB es = true) : ∀ x ∈ es, entB x = true := fun x hx => by
  obtain ⟨i, hi⟩ := List.getElem?_of_mem hx
  exact tree_ent h hi

theorem putL_len (es : List Ent) (e : Ent) : (putL es e).length ≤ es.length + 1 := by
  unfold putL
  split
  · exact putT_len es e
  · omega
theorem putL_all {es : List Ent} {e : Ent} (h : ∀ x ∈ es, entB x = true) : ∀ x ∈ putL es e, entB x = true := fun x hx => by
  unfold putL at hx
  cases hk : okPut es e
  · rw [hk] at hx; exact h x hx
  · rw [hk] at hx
    rcases putT_mem hx with h1 | h1
    · exact h x h1
    · subst h1; unfold okPut at hk; simp only [Bool.and_eq_true] at hk; exact hk.1

end Go.Proofs.YtlnpjiabdebmgaaGreat

/- The last name of a path; a path in a place; by the program and by its model. -/
namespace Go.Proofs.YtlnpjiabdebmgaaGreat
open Go.RowKit Go.Shelf

end Go.Proofs.YtlnpjiabdebmgaaGreat

/- A path in a place, and a path that is moved, by the program and by its model. -/
namespace Go.Proofs.YtlnpjiabdebmgaaGreat
open Go.RowKit Go.Shelf

theorem cutB_sum (b : UInt8) : ∀ l : List UInt8, ((cutB b l).map fun p => p.length + 1).sum = l.length + 1
  | [] => by simp [cutB]
  | c :: l => by
    have ih := cutB_sum b l
    unfold cutB
    split
    · simp [ih]; omega
    · split
      · rename_i e; exact absurd e (cutB_ne b l)
      · rename_i h t e
        rw [e] at ih
        simp at ih ⊢; omega
theorem sum_le (l : List (List UInt8)) (h : ∀ p ∈ l, p.length ≤ 10) : (l.map fun p => p.length + 1).sum ≤ 11 * l.length := by
  induction l with
  | nil => simp
  | cons a l ih =>
    have h1 := h a (by simp)
    have h2 := ih (fun p hp => h p (by simp [hp]))
    simp; omega
theorem pathB_size (l : List UInt8) (h : pathB l = true) : l.length ≤ 54 := by
  simp only [pathB, Bool.and_eq_true, decide_eq_true_eq, List.all_eq_true] at h
  have h1 := cutB_sum 47 l
  have h2 := sum_le (cutB 47 l) (fun p hp => by
    have := h.2 p hp
    simp only [nameOkB, Bool.and_eq_true, decide_eq_true_eq] at this
    exact this.1.1.1.2)
  omega

/-- A text is a place, or begins with it and a slash. -/
def belowB (p s : List UInt8) : Bool := (s == p) || Lib.hasPrefix s (p ++ [47])
def inB (p s : List UInt8) : Bool := pathB p && pathB s && belowB p s

theorem belowB_eq (p s : List UInt8) : belowB p s = ((s == p) || (decide (p.length < s.length) && (s.take p.length == p) && (s[p.length]? == some 47))) := by
  unfold belowB Lib.hasPrefix
  congr 1
  rw [Bool.eq_iff_iff]
  simp only [List.isPrefixOf_iff_prefix, Bool.and_eq_true, decide_eq_true_eq, beq_iff_eq]
  constructor
  · rintro ⟨t, rfl⟩
    simp
  · rintro ⟨⟨h1, h2⟩, h3⟩
    refine ⟨s.drop (p.length + 1), ?_⟩
    have h4 : s = s.take p.length ++ s.drop p.length := (List.take_append_drop _ _).symm
    have h5 : s.drop p.length = s[p.length] :: s.drop (p.length + 1) := List.drop_eq_getElem_cons h1
    rw [List.getElem?_eq_getElem h1] at h3
    simp at h3
    rw [h5, h2, h3] at h4
    rw [List.append_assoc]; exact h4.symm

theorem ret_bool {a b : Bool} (h : a = b) : Ending.returned (.bool a) = .returned (.bool b) := by rw [h]
theorem byte_47 (c : UInt8) : (some c == some 47) = ((c.toNat : Int) == 47) := by
  rw [Bool.eq_iff_iff]
  simp only [beq_iff_eq, Option.some.injEq]
  constructor
  · rintro rfl; rfl
  · intro h; exact UInt8.toNat_inj.1 (by simp; omega)

/-- What the model's PathMove answers. -/
def moveS (s f t : ByteArray) : ByteArray := if inB f.data.toList s.data.toList && pathB t.data.toList && pathB (t ++ s.extract f.size s.size).data.toList then t ++ s.extract f.size s.size else ⟨#[]⟩

theorem inB_size {p s : ByteArray} (h : inB p.data.toList s.data.toList = true) : p.size ≤ s.size ∧ s.size ≤ 54 := by
  simp only [inB, Bool.and_eq_true] at h
  have h1 := pathB_size _ h.1.2
  have h2 := h.2
  rw [belowB_eq] at h2
  simp only [Bool.or_eq_true, Bool.and_eq_true, decide_eq_true_eq, beq_iff_eq] at h2
  rw [← Lib.size_eq] at h1
  rcases h2 with h2 | h2
  · have := congrArg List.length h2
    rw [← Lib.size_eq, ← Lib.size_eq] at this
    omega
  · have := h2.1.1
    rw [← Lib.size_eq, ← Lib.size_eq] at this
    omega

end Go.Proofs.YtlnpjiabdebmgaaGreat

/- What is left of a tree without a place, by the program. -/
namespace Go.Proofs.YtlnpjiabdebmgaaGreat
open Go.RowKit Go.Shelf

attribute [local go_sem] Oper.semAt_some

def leftE (p : ByteArray) (es : List Ent) : List Ent := es.filter fun e => !inB p.data.toList e.path.data.toList

theorem ent_path_len {e : Ent} (h : entB e = true) : e.path.size ≤ 54 := by
  unfold entB at h
  simp only [Bool.and_eq_true] at h
  have := pathB_size _ h.1
  rwa [Lib.size_eq]
/-- A tree that is gone over stays, where only what is behind a bound changes, and its own box does not. -/
theorem treeIn_kept2 {Bl bt N : Nat} {vp vn : Value} {es : List Ent} {W W' : World} (h : TreeIn (Bl + 1) bt N vp vn es W) (hk : ∀ k, k < Bl → W'.heap[k]? = W.heap[k]?) (hbt : bt < Bl) (hp : ∀ g, vp.ownBlock = some g → g < Bl) (hn : ∀ g, vn.ownBlock = some g → g < Bl)
    (ho : ∀ o, W.heap[Bl + 1]? = some o → Apart o → W'.heap[Bl + 1]? = some o) (hbx : ∃ cs t f, W.heap[Bl + 1]? = some (.cells cs t f) ∧ t ≠ 9 ∧ t ≠ 162) : TreeIn (Bl + 1) bt N vp vn es W' :=
  treeIn_kept h (fun k hkk => by
    rcases hkk with rfl | rfl | h1 | h1
    · obtain ⟨cs, t, f, hw, ht⟩ := hbx
      exact (ho _ hw (fun _ _ _ e => by cases e; exact ht)).trans hw.symm
    · exact hk _ hbt
    · exact hk _ (hp k h1)
    · exact hk _ (hn k h1))
theorem treeAt_grown {W W' : World} {row : Option Nat} {N bt : Nat} {es : List Ent} (h : TreeAt W N bt es) (hg : W.grownBy W' row) (hr : ∀ r, row = some r → ∃ o : Obj, W.heap[r]? = some o ∧ o.isCells = false) : TreeAt W' N bt es := by
  obtain ⟨vp, vn, h1, h2, h3⟩ := h
  exact ⟨vp, vn, cells_grown hg hr h1, row_grown hg hr h2, row_grown hg hr h3⟩
end Go.Proofs.YtlnpjiabdebmgaaGreat

/- What is left of a tree without a place, by the model. -/
namespace Go.Proofs.YtlnpjiabdebmgaaGreat
open Go.RowKit Go.Shelf

def dropB (p : ByteArray) (es : List Ent) : List Ent := es.filter fun e => !belowB p.data.toList e.path.data.toList
theorem dropB_snoc_yes {p : ByteArray} {es : List Ent} {k : Nat} {e : Ent} (he : es[k]? = some e) (h : belowB p.data.toList e.path.data.toList = false) : dropB p (es.take (k + 1)) = dropB p (es.take k) ++ [e] := by
  unfold dropB; rw [List.take_add_one, he, List.filter_append]; simp [h]
theorem dropB_snoc_no {p : ByteArray} {es : List Ent} {k : Nat} {e : Ent} (he : es[k]? = some e) (h : belowB p.data.toList e.path.data.toList = true) : dropB p (es.take (k + 1)) = dropB p (es.take k) := by
  unfold dropB; rw [List.take_add_one, he, List.filter_append]; simp [h]

end Go.Proofs.YtlnpjiabdebmgaaGreat
