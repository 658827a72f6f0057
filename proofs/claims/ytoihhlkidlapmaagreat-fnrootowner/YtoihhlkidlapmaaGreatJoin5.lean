/- Texts of this proof, one behind the other; each says at its head what it shows. -/
import Derived.Test.YtoihhlkidlapmaaGreatJoin4
import Derived.Laws.Entries
import Derived.Test.YtoihhlkidlapmaaGreatRows
import Derived.WalkKit
import Derived.ProofKit
import Derived.OpenShut
import Derived.Test.YtoihhlkidlapmaaGreatJoin1
import Derived.Deep.Slices
import Derived.Lib.SmallJoins
import Derived.Test.YtoihhlkidlapmaaGreatJoin3
import Derived.Laws.StructEq
import Derived.Test.YtoihhlkidlapmaaGreatProg
import Derived.Deep.RegionWith
/- An entry put into a tree: which blocks change, and where its rows lie then. -/
namespace Go.Proofs.YtoihhlkidlapmaaGreat
open Go.RowKit Go.Shelf

/-- A tree at a block, its rows by name. -/
def RowsV (W : World) (N bt : Nat) (vp vn : Value) (es : List Ent) : Prop := W.heap[bt]? = some (.cells #[vp, vn] 117 (0, 0)) ∧ W.ownsRow N 9 1 vp es.length (es.map fun e => .string e.path) ∧ W.ownsRow N 121 1 vn es.length (es.map nodeV)
/-- A row is where it was, or new. -/
def FreshV (w : World) (v v' : Value) : Prop := ∀ k, v'.ownBlock = some k → v.ownBlock = some k ∨ w.heap.size ≤ k
/-- Behind a put: the tree, its rows where they were or new; nothing else has changed. -/
def PutV (w w' : World) (N bt : Nat) (vp vn : Value) (es : List Ent) : Prop := (∃ vp' vn', RowsV w' N bt vp' vn' es ∧ FreshV w vp vp' ∧ FreshV w vn vn') ∧ Below N w w' ∧ (∀ k o, k ≠ bt → w.heap[k]? = some o → Apart o → w'.heap[k]? = some o) ∧ ∀ k, k < w.heap.size → k ≠ bt → vp.ownBlock ≠ some k → vn.ownBlock ≠ some k → w'.heap[k]? = w.heap[k]?

set_option maxRecDepth 100000 in
set_option maxHeartbeats 4000000 in
theorem mapPut_insV (N bt : Nat) (vp vn : Value) (es : List Ent) (e : Ent) (w : World) (hn : es.length ≤ 900) (ha : Asc (pathsOf es)) (hN : N ≤ bt) (ht0 : thereE es e.path = false) (h : RowsV w N bt vp vn es) :
    Calls Tryz.prog 172 #[.pointer (some ⟨bt, 0, .none⟩), .string e.path, nodeV e] w fun x w' => (∃ v, x = .returned v) ∧ PutV w w' N bt vp vn (insAt es e) := by
  obtain ⟨h1, h2, h3⟩ := h
  have hbl : bt < w.heap.size := (Array.getElem?_eq_some_iff.1 h1).1
  obtain ⟨a, cap, hva, hT⟩ := texts_of h2
  have hpn : (pathsOf es).length = es.length := by simp [pathsOf]
  have hl : (pathsOf es).length ≤ 1048576 := by omega
  have ht : thereP (pathsOf es) e.path = false := by rw [thereP_E, ht0]
  have hpp : placeP (pathsOf es) e.path = placeE es e.path := placeP_E _ _
  have hkl : placeE es e.path ≤ es.length := placeE_le es e.path
  have hins : insAt es e = es.take (placeE es e.path) ++ [e] ++ es.drop (placeE es e.path) := rfl
  have hT1 : ∀ v ∈ es.map (fun e => Value.string e.path), v.oneCell' = true := fun v hv => by obtain ⟨x, -, rfl⟩ := List.mem_map.1 hv; rfl
  have hN1 : ∀ v ∈ es.map nodeV, v.oneCell' = true := fun v hv => by obtain ⟨x, -, rfl⟩ := List.mem_map.1 hv; exact nodeV_one x
  obtain ⟨k, hk⟩ : ∃ k, placeE es e.path = k := ⟨_, rfl⟩
  rw [hk] at hpp hkl hins
  rw [hins]
  have hS := BinarySearch_any (pathsOf es) a cap e.path w hl ha hT
  rw [hpp, ht, hpn] at hS
  rw [hpn] at hva
  subst hva
  obtain ⟨T, nv, hV⟩ := nodeV_shape e
  have hIN := fun n i b v xs w => InsertN_any N n i b v xs e w
  simp only [hV] at hIN
  rw [hV]
  have HV := hid hV
  have HIN := hid hIN
  clear hV hIN
  have HS := hid hS
  obtain ⟨c0, c1, f0, f1⟩ := two_cells h1
  have H2 := hid h2
  have H3 := hid h3
  have H1 := hid h1
  have HT1 := hid hT1
  have HN1 := hid hN1
  clear hT ha hl ht hpp h1 h2 h3 hpn hS hins hk ht0 hT1 hN1
  go_enter Tryz.func172, Tryz.ntmps172
  go_wp2_with fail
  refine (unhid HS).mono ?_
  rintro x w1 ⟨rfl, hw1⟩
  rw [hw1]
  clear hw1
  go_wp2_with fail
  refine (InsertS_any N es.length k w.heap.size _ _ e.path (w.alloc (.cells #[.string e.path] 9)) hkl (by omega) (by simp; omega) ((unhid H2).alloc _) (fun eq => by have := ((unhid H2).lt _ eq).2; omega) (World.alloc_heap_new w _) (unhid HT1)).mono ?_
  rintro x w2 ⟨v2, rfl, hown2, hgrow2, hat2⟩
  obtain ⟨g2, cap2, rfl⟩ := ownsRow_succ hown2
  have h1a : (w.alloc (.cells #[.string e.path] 9)).heap[bt]? = some (.cells #[.slice a es.length cap, vn] 117 (0, 0)) := (Below.heap_alloc _ _ _ hbl).trans (unhid H1)
  have h12 : w2.heap[bt]? = some (.cells #[.slice a es.length cap, vn] 117 (0, 0)) := (hgrow2.block bt (by simp; omega) (row_ne ((unhid H2).alloc (.cells #[.string e.path] 9)) h1a (by decide))).trans h1a
  obtain ⟨c0, c1, f0, f1⟩ := two_cells h12
  have h32 : w2.ownsRow N 121 1 vn es.length (es.map nodeV) := by
    refine ownsRow_kept ((unhid H3).alloc (.cells #[.string e.path] 9)) (fun g hg => hgrow2.block g (((unhid H3).alloc (.cells #[.string e.path] 9)).lt g hg).2 ?_)
    rcases ((unhid H3).alloc (.cells #[.string e.path] 9)).2 with ⟨rfl, _⟩ | ⟨g', cap', cur', rfl, _, hgc, _⟩
    · cases hg
    · cases hg; exact row_ne ((unhid H2).alloc (.cells #[.string e.path] 9)) hgc (by decide)
  have hg2w : g2 ≠ bt := fun eq => by
    rcases hown2.2 with ⟨h, _⟩ | ⟨g', cap', cur', hv, _, hgc, _⟩
    · cases h
    · cases hv; exact type_ne hgc h12 (by decide) eq
  have HB2 := hid (And.intro hown2 (And.intro hgrow2 (And.intro h12 h32)))
  have HAT2 := hid hat2
  have hsz2 : w.heap.size + 1 ≤ w2.heap.size := by have := hgrow2.size; simpa using this
  clear hown2 hgrow2 h12 h32 h1a hat2
  go_wp2_with fail
  obtain ⟨W3, hW3⟩ : ∃ W3, W3 = (w2.setCell ⟨bt, 0, .none⟩ (.slice (some ⟨g2, 0, .none⟩) (es.length + 1) cap2)).alloc (.cells #[.iface T nv] 121) := ⟨_, rfl⟩
  rw [← hW3]
  obtain ⟨hown2, hgrow2, h12, h32⟩ := unhid HB2
  have hbl2 : bt < w2.heap.size := by omega
  have h13 : W3.heap[bt]? = some (.cells #[.slice (some ⟨g2, 0, .none⟩) (es.length + 1) cap2, vn] 117 (0, 0)) := by
    rw [hW3, Below.heap_alloc _ _ _ (by simp; omega), heap_setCell_same _ bt 0 _ _ _ h12]; rfl
  have hk3 : ∀ g, g < w2.heap.size → g ≠ bt → W3.heap[g]? = w2.heap[g]? := fun g hg hne => by
    rw [hW3, Below.heap_alloc _ _ _ (by simpa using hg), Below.heap_setCell _ _ _ _ hne]
  have h33 : W3.ownsRow N 121 1 vn es.length (es.map nodeV) := ownsRow_kept h32 (fun g hg => hk3 g (h32.lt g hg).2 (fun eq => (row_ne h32 h12 (by decide)) (by rw [hg, eq])))
  have hown3 : W3.ownsRow N 9 1 (.slice (some ⟨g2, 0, .none⟩) (es.length + 1) cap2) (es.length + 1) ((es.map fun e => .string e.path).take k ++ [.string e.path] ++ (es.map fun e => .string e.path).drop k) := ownsRow_kept hown2 (fun g hg => hk3 g (hown2.lt g hg).2 (fun eq => by cases hg; exact hg2w eq))
  have hs3 : W3.heap.size = w2.heap.size + 1 := by rw [hW3]; simp
  have hc3 : W3.heap[w2.heap.size]? = some (.cells #[.iface T nv] 121 (0, 0)) := by
    rw [hW3]; have := World.alloc_heap_new (w2.setCell ⟨bt, 0, .none⟩ (.slice (some ⟨g2, 0, .none⟩) (es.length + 1) cap2)) (.cells #[.iface T nv] 121); simpa using this
  refine (unhid HIN es.length k w2.heap.size vn _ W3 hkl (by omega) (by omega) h33 (fun eq => by have := (h32.lt _ eq).2; omega) hc3 (unhid HN1)).mono ?_
  rintro x w4 ⟨v4, rfl, hown4, hgrow4, hat4⟩
  obtain ⟨g4, cap4, rfl⟩ := ownsRow_succ hown4
  have h14 : w4.heap[bt]? = some (.cells #[.slice (some ⟨g2, 0, .none⟩) (es.length + 1) cap2, vn] 117 (0, 0)) := (hgrow4.block bt (by omega) (row_ne h33 h13 (by decide))).trans h13
  have hrow4 : w4.ownsRow N 9 1 (.slice (some ⟨g2, 0, .none⟩) (es.length + 1) cap2) (es.length + 1) ((es.map fun e => .string e.path).take k ++ [.string e.path] ++ (es.map fun e => .string e.path).drop k) := ownsRow_kept hown3 (fun g hg => hgrow4.block g (hown3.lt g hg).2 (by
    rcases hown3.2 with ⟨h, _⟩ | ⟨g', cap', cur', hv, _, hgc, _⟩
    · cases h
    · cases hv; cases hg; exact row_ne h33 hgc (by decide)))
  obtain ⟨c0, c1, f0, f1⟩ := two_cells h14
  have hg4w : g4 ≠ bt := fun eq => by
    rcases hown4.2 with ⟨h, _⟩ | ⟨g', cap', cur', hv, _, hgc, _⟩
    · cases h
    · cases hv; exact type_ne hgc h14 (by decide) eq
  have hF : RowsV (w4.setCell ⟨bt, 1, .none⟩ (.slice (some ⟨g4, 0, .none⟩) (es.length + 1) cap4)) N bt (.slice (some ⟨g2, 0, .none⟩) (es.length + 1) cap2) (.slice (some ⟨g4, 0, .none⟩) (es.length + 1) cap4) (es.take k ++ [e] ++ es.drop k) := by
    refine ⟨?_, ?_, ?_⟩
    · rw [heap_setCell_same _ bt 1 _ _ _ h14]; rfl
    · rw [show (es.take k ++ [e] ++ es.drop k).length = es.length + 1 by simp; omega, List.map_append, List.map_append, List.map_take, List.map_drop]
      exact ownsRow_kept hrow4 (fun g hg => Below.heap_setCell _ _ _ _ (fun eq => by cases hg; exact hg2w eq))
    · rw [show (es.take k ++ [e] ++ es.drop k).length = es.length + 1 by simp; omega, List.map_append, List.map_append, List.map_take, List.map_drop]
      rw [← unhid HV] at hown4
      exact ownsRow_kept hown4 (fun g hg => Below.heap_setCell _ _ _ _ (fun eq => by cases hg; exact hg4w eq))
  have hB : Below N w (w4.setCell ⟨bt, 1, .none⟩ (.slice (some ⟨g4, 0, .none⟩) (es.length + 1) cap4)) := by
    have b1 : Below N w (w.alloc (.cells #[.string e.path] 9)) := (Below.refl _ _).alloc (by omega) _
    have b2 : Below N w w2 := b1.grown hgrow2 (by simp; omega) (fun g hg => (((unhid H2).alloc (.cells #[.string e.path] 9)).lt g hg).1)
    have b3 : Below N w W3 := by rw [hW3]; exact (b2.setCell hN _).alloc (by simp; omega) _
    have b4 : Below N w w4 := b3.grown hgrow4 (by omega) (fun g hg => (h33.lt g hg).1)
    exact b4.setCell hN _
  have hO : ∀ k o, k ≠ bt → w.heap[k]? = some o → Apart o → (w4.setCell ⟨bt, 1, .none⟩ (.slice (some ⟨g4, 0, .none⟩) (es.length + 1) cap4)).heap[k]? = some o := by
    intro k o hk ho hap
    have hkl : k < w.heap.size := (Array.getElem?_eq_some_iff.1 ho).1
    have a1 : (w.alloc (.cells #[.string e.path] 9)).heap[k]? = some o := (Below.heap_alloc _ _ _ hkl).trans ho
    have a2 : w2.heap[k]? = some o := (hgrow2.block k (by simp; omega) (fun eq => by
      rcases ((unhid H2).alloc (.cells #[.string e.path] 9)).2 with ⟨h, _⟩ | ⟨g', cap', cur', hv, _, hgc, _⟩
      · rw [h] at eq; cases eq
      · rw [hv] at eq; cases eq; rw [a1] at hgc; cases hgc; exact (hap _ _ _ rfl).1 rfl)).trans a1
    have a3 : W3.heap[k]? = some o := (hk3 k (by omega) hk).trans a2
    have a4 : w4.heap[k]? = some o := (hgrow4.block k (by omega) (fun eq => by
      rcases h33.2 with ⟨h, _⟩ | ⟨g', cap', cur', hv, _, hgc, _⟩
      · rw [h] at eq; cases eq
      · rw [hv] at eq; cases eq; rw [a3] at hgc; cases hgc; exact (hap _ _ _ rfl).2 rfl)).trans a3
    exact (Below.heap_setCell _ _ _ _ hk).trans a4
  have hS : ∀ k, k < w.heap.size → k ≠ bt → (Value.slice a es.length cap).ownBlock ≠ some k → vn.ownBlock ≠ some k → (w4.setCell ⟨bt, 1, .none⟩ (.slice (some ⟨g4, 0, .none⟩) (es.length + 1) cap4)).heap[k]? = w.heap[k]? := by
    intro k hk hkb hkp hkn
    have a1 : (w.alloc (.cells #[.string e.path] 9)).heap[k]? = w.heap[k]? := Below.heap_alloc _ _ _ hk
    have a2 : w2.heap[k]? = w.heap[k]? := (hgrow2.block k (by simp; omega) (fun eq => hkp eq.symm)).trans a1
    have a3 : W3.heap[k]? = w.heap[k]? := (hk3 k (by omega) hkb).trans a2
    have a4 : w4.heap[k]? = w.heap[k]? := (hgrow4.block k (by omega) (fun eq => hkn eq.symm)).trans a3
    exact (Below.heap_setCell _ _ _ _ hkb).trans a4
  have hf2 : FreshV w (.slice a es.length cap) (.slice (some ⟨g2, 0, .none⟩) (es.length + 1) cap2) := fun k hk => by
    rcases unhid HAT2 with h | h
    · exact .inl (h ▸ hk)
    · rw [h] at hk; injection hk with hk; right; rw [World.size_alloc] at hk; omega
  have hf4 : FreshV w vn (.slice (some ⟨g4, 0, .none⟩) (es.length + 1) cap4) := fun k hk => by
    rcases hat4 with h | h
    · exact .inl (h ▸ hk)
    · rw [h] at hk; injection hk with hk; right; omega
  have HF := hid (show PutV w (w4.setCell ⟨bt, 1, .none⟩ (.slice (some ⟨g4, 0, .none⟩) (es.length + 1) cap4)) N bt (.slice a es.length cap) vn (es.take k ++ [e] ++ es.drop k) from ⟨⟨_, _, hF, hf2, hf4⟩, hB, hO, hS⟩)
  clear hF hB hO hS hf2 hf4 hat4 HAT2 hown4 hgrow4 h14 hrow4 h13 hk3 h33 hown3 hc3 hW3 hown2 hgrow2 h12 h32 HB2
  go_wp2_with fail
  go_end0
  exact ⟨⟨_, rfl⟩, unhid HF⟩

set_option maxRecDepth 100000 in
set_option maxHeartbeats 4000000 in
theorem mapPut_overV (N bt : Nat) (vp vn : Value) (es : List Ent) (e : Ent) (w : World) (hn : es.length ≤ 900) (ha : Asc (pathsOf es)) (ht0 : thereE es e.path = true) (h : RowsV w N bt vp vn es) :
    Calls Tryz.prog 172 #[.pointer (some ⟨bt, 0, .none⟩), .string e.path, nodeV e] w fun x w' => (∃ v, x = .returned v) ∧ PutV w w' N bt vp vn (es.set (placeE es e.path) e) := by
  obtain ⟨h1, h2, h3⟩ := h
  have hbl : bt < w.heap.size := (Array.getElem?_eq_some_iff.1 h1).1
  obtain ⟨a, cap, hva, hT⟩ := texts_of h2
  have hpn : (pathsOf es).length = es.length := by simp [pathsOf]
  have hl : (pathsOf es).length ≤ 1048576 := by omega
  have ht : thereP (pathsOf es) e.path = true := by rw [thereP_E, ht0]
  obtain ⟨old, hj, hpo⟩ := there_get ht0
  have hjl : placeE es e.path < es.length := (List.getElem?_eq_some_iff.1 hj).1
  have hS := BinarySearch_any (pathsOf es) a cap e.path w hl ha hT
  rw [placeP_E, ht, hpn] at hS
  rw [hpn] at hva
  subst hva
  obtain ⟨T, nv, hV⟩ := nodeV_shape e
  have hse : (es.set (placeE es e.path) e).map nodeV = (es.map nodeV).set (placeE es e.path) (nodeV e) := by rw [List.map_set]
  have hsp : (es.set (placeE es e.path) e).map (fun e => Value.string e.path) = es.map (fun e => .string e.path) := by
    rw [List.map_set]
    apply List.ext_getElem?
    intro i
    rw [List.getElem?_set]
    split
    · rename_i hi
      subst hi
      rw [if_pos (by simpa using hjl), List.getElem?_map, hj, Option.map_some, hpo]
    · rfl
  obtain ⟨g, cap2, cur, rfl, hgN, hg, hszc⟩ : ∃ g cap2 cur, vn = .slice (some ⟨g, 0, .none⟩) es.length cap2 ∧ N ≤ g ∧ w.heap[g]? = some (.cells cur 121 (0, 0)) ∧ placeE es e.path < cur.size ∧ es.length ≤ cap2 := by
    rcases h3.2 with ⟨rfl, h0⟩ | ⟨g, cap, cur, rfl, hN', hg, hc, _, hsz, hcells⟩
    · omega
    · exact ⟨g, cap, cur, rfl, hN', hg, by omega, hc⟩
  have hFT : RowsV (w.setCell ⟨g, placeE es e.path, .none⟩ (nodeV e)) N bt (.slice a es.length cap) (.slice (some ⟨g, 0, .none⟩) es.length cap2) (es.set (placeE es e.path) e) := by
    refine ⟨?_, ?_, ?_⟩
    · rw [Below.heap_setCell _ _ _ _ (type_ne hg h1 (by decide)).symm]; exact h1
    · rw [List.length_set, hsp]
      refine ownsRow_kept h2 (fun g' eg => Below.heap_setCell _ _ _ _ (fun eq => ?_))
      obtain ⟨cur', hc'⟩ := (show ∃ cur', w.heap[g']? = some (.cells cur' 9 (0, 0)) by
        rcases h2.2 with ⟨hh, _⟩ | ⟨g'', cap'', cur'', hv, _, hh, _⟩
        · rw [hh] at eg; cases eg
        · rw [hv] at eg; cases eg; exact ⟨_, hh⟩)
      exact type_ne hg hc' (by decide) eq.symm
    · rw [List.length_set, hse]
      exact ownsRow_set h3 hjl rfl
  have hFB : Below N w (w.setCell ⟨g, placeE es e.path, .none⟩ (nodeV e)) := (Below.refl _ _).setCell hgN _
  have hFO : ∀ k o, k ≠ bt → w.heap[k]? = some o → Apart o → (w.setCell ⟨g, placeE es e.path, .none⟩ (nodeV e)).heap[k]? = some o := fun k o _ ho hap =>
    (Below.heap_setCell _ _ _ _ (fun eq => by
      have eq' : k = g := eq
      subst eq'
      rw [ho] at hg; cases hg; exact (hap _ _ _ rfl).2 rfl)).trans ho
  have HF := hid (show PutV w (w.setCell ⟨g, placeE es e.path, .none⟩ (nodeV e)) N bt (.slice a es.length cap) (.slice (some ⟨g, 0, .none⟩) es.length cap2) (es.set (placeE es e.path) e) from ⟨⟨_, _, hFT, fun k hk => .inl hk, fun k hk => .inl hk⟩, hFB, hFO, fun k _ _ _ hkn => Below.heap_setCell _ _ _ _ (fun eq => hkn (by have eq' : k = g := eq; rw [eq']; rfl))⟩)
  clear hFT hFB hFO hse hsp
  rw [hV] at HF ⊢
  obtain ⟨hsz1, hle⟩ := hszc
  have n0 : ∃ u, w.cell? ⟨g, placeE es e.path, .none⟩ = some u := ⟨cur[placeE es e.path], by simp [World.cell?, hg, hsz1]⟩
  obtain ⟨u, n0⟩ := n0
  have m0 : w.frozen? ⟨g, placeE es e.path, .none⟩ = false := by simp [World.frozen?, hg]
  have HS := hid hS
  obtain ⟨c0, c1, f0, f1⟩ := two_cells h1
  clear hT ha hl ht h1 h2 h3 hpn hj hS hV hg ht0 hpo hsz1
  generalize placeE es e.path = j at HS HF hjl n0 m0 ⊢
  go_enter Tryz.func172, Tryz.ntmps172
  go_wp2_with fail
  refine (unhid HS).mono ?_
  rintro x w1 ⟨rfl, hw1⟩
  rw [hw1]
  clear hw1
  go_wp2_with fail
  first | go_end0 | refine bodyPost_ret (results_none rfl _ _ _) rfl ?_
  exact ⟨⟨_, rfl⟩, unhid HF⟩

theorem mapPut_V (N bt : Nat) (vp vn : Value) (es : List Ent) (e : Ent) (w : World) (hn : es.length ≤ 900) (ha : Asc (pathsOf es)) (hN : N ≤ bt) (h : RowsV w N bt vp vn es) :
    Calls Tryz.prog 172 #[.pointer (some ⟨bt, 0, .none⟩), .string e.path, nodeV e] w fun x w' => (∃ v, x = .returned v) ∧ PutV w w' N bt vp vn (putT es e) := by
  cases ht : thereE es e.path
  · have : putT es e = insAt es e := by unfold putT; rw [ht]; rfl
    rw [this]
    exact mapPut_insV N bt vp vn es e w hn ha hN ht h
  · have : putT es e = es.set (placeE es e.path) e := by unfold putT; rw [ht]; rfl
    rw [this]
    exact mapPut_overV N bt vp vn es e w hn ha ht h
end Go.Proofs.YtoihhlkidlapmaaGreat

/- Whether two things are one dir, by the program. -/
namespace Go.Proofs.YtoihhlkidlapmaaGreat
open Go.RowKit Go.Shelf

theorem in_int (d : Nat) (a b : Int) (w : World) : (Op.equalIn (d + 1) 3 (.int .i64 a) (.int .i64 b)).run Tryz.prog w = .ok (a == b) w := by
  simp [Op.equalIn, run_underlying Tryz.underlying3]
theorem in_dir (d : Nat) (a b : Int) (w : World) : (Op.equalIn (d + 1 + 1) 176 (.agg #[.int .i64 a]) (.agg #[.int .i64 b])).run Tryz.prog w = .ok (a == b) w := by
  have h0 : (program).run Tryz.prog w = .ok Tryz.prog w := by kernel_rfl
  have h1 : Tryz.prog.stoodInHeld 176 = false := by kernel_rfl
  have h2 : ∀ a, (part 3 #[.int .i64 a] 0).run Tryz.prog w = .ok (.int .i64 a) w := fun a => by kernel_rfl
  unfold Op.equalIn
  simp only [Sem.run_bind, run_underlying Tryz.underlying176, Result.andThen_ok, h0, h1, Bool.false_eq_true, if_false, List.forIn_toArray, List.forIn_cons, List.forIn_nil]
  rw [if_pos (by decide)]
  simp only [Sem.run_bind, h2, in_int, Result.andThen_ok]
  cases (a == b) <;> simp [Sem.run_pure]
theorem eq_dirs (a b : Int) (w : World) : (binOp .eql 121 (.iface 176 (.agg #[.int .i64 a])) (.iface 176 (.agg #[.int .i64 b]))).run Tryz.prog w = .ok (.bool (a == b)) w := by
  have hc : (Tryz.prog.info? 176).map (·.comparable) = some true := by kernel_rfl
  cases hi : Tryz.prog.info? 176 with
  | none => simp [hi] at hc
  | some i =>
    have hcc : i.comparable = true := by simpa [hi] using hc
    have h : ∀ d : Nat, (Op.equalIn (d + 1 + 1 + 1) 121 (.iface 176 (.agg #[.int .i64 a])) (.iface 176 (.agg #[.int .i64 b]))).run Tryz.prog w = .ok (a == b) w := fun d => by
      have := in_dir d a b w
      unfold Op.equalIn
      simp only [Sem.run_bind, run_underlying Tryz.underlying121, Result.andThen_ok]
      simp [typeInfo, hi, hcc, this]
    simp only [binOp]
    simp [Op.equal, Op.maxDepth, h 9997]
theorem eq_dirf (a b : Int) (s : ByteArray) (w : World) : (binOp .eql 121 (.iface 176 (.agg #[.int .i64 a])) (.iface 178 (.agg #[.int .i64 b, .string s]))).run Tryz.prog w = .ok (.bool false) w := by kernel_rfl
theorem eq_dirl (a : Int) (s : ByteArray) (w : World) : (binOp .eql 121 (.iface 176 (.agg #[.int .i64 a])) (.iface 180 (.agg #[.string s]))).run Tryz.prog w = .ok (.bool false) w := by kernel_rfl

def sameB (x y : Ent) : Bool := x.kind == 1 && (y.kind == 1 && x.mode == y.mode)

set_option maxRecDepth 100000 in
set_option maxHeartbeats 2000000 in
theorem sameDir_any (x y : Ent) (w : World) :
    Calls Tryz.prog 212 #[nodeV x, nodeV y] w fun r w' => r = .returned (.bool (sameB x y)) ∧ Below w.heap.size w w' := by
  have DIR := hid (isDir_node x w)
  cases hk : (x.kind == 1)
  · obtain ⟨T0, nv, hnv⟩ := nodeV_shape x
    obtain ⟨T1, nv1, hnv1⟩ := nodeV_shape y
    rw [hnv] at DIR ⊢
    rw [hnv1]
    have E := hid (show sameB x y = false by unfold sameB; rw [hk]; rfl)
    go_enter Tryz.func212, Tryz.ntmps212
    go_wp2_with fail
    refine (unhid DIR).mono ?_
    rintro r w1 ⟨rfl, hB⟩
    rw [hk]
    have HB := hid hB
    clear hB
    go_wp2_with fail
    go_ret
    exact ⟨by rw [unhid E]; rfl, unhid HB⟩
  · have hk1 : x.kind = 1 := by simpa using hk
    have hnv : nodeV x = .iface 176 (.agg #[.int .i64 x.mode]) := by unfold nodeV; rw [if_pos hk1]
    rw [hnv] at DIR ⊢
    by_cases hy1 : y.kind = 1
    · have hnv1 : nodeV y = .iface 176 (.agg #[.int .i64 y.mode]) := by unfold nodeV; rw [if_pos hy1]
      rw [hnv1]
      go_enter Tryz.func212, Tryz.ntmps212
      go_wp2_with fail
      refine (unhid DIR).mono ?_
      rintro r w1 ⟨rfl, hB⟩
      rw [hk]
      have HB := hid hB
      clear hB
      have E := hid (show sameB x y = (x.mode == y.mode) by unfold sameB; rw [hk, hy1]; rfl)
      have heq := eq_dirs x.mode y.mode w1
      clear hnv hnv1
      go_wp2_with fail
      go_ret
      exact ⟨by rw [unhid E]; rfl, unhid HB⟩
    · have E := hid (show sameB x y = false by unfold sameB; simp [hy1])
      by_cases hy2 : y.kind = 2
      · have hnv1 : nodeV y = .iface 178 (.agg #[.int .i64 y.mode, .string y.text]) := by unfold nodeV; rw [if_neg hy1, if_pos hy2]
        rw [hnv1]
        go_enter Tryz.func212, Tryz.ntmps212
        go_wp2_with fail
        refine (unhid DIR).mono ?_
        rintro r w1 ⟨rfl, hB⟩
        rw [hk]
        have HB := hid hB
        have heq := eq_dirf x.mode y.mode y.text w1
        clear hB hnv hnv1
        go_wp2_with fail
        go_ret
        exact ⟨by rw [unhid E]; rfl, unhid HB⟩
      · have hnv1 : nodeV y = .iface 180 (.agg #[.string y.text]) := by unfold nodeV; rw [if_neg hy1, if_neg hy2]
        rw [hnv1]
        go_enter Tryz.func212, Tryz.ntmps212
        go_wp2_with fail
        refine (unhid DIR).mono ?_
        rintro r w1 ⟨rfl, hB⟩
        rw [hk]
        have HB := hid hB
        have heq := eq_dirl x.mode y.text w1
        clear hB hnv hnv1
        go_wp2_with fail
        go_ret
        exact ⟨by rw [unhid E]; rfl, unhid HB⟩
end Go.Proofs.YtoihhlkidlapmaaGreat

/- The way from a walk to a row: what lay below is as it was. -/
namespace Go.Proofs.YtoihhlkidlapmaaGreat
open Go.ChangeShapes Go.WideShapes Go.ChangeAt Go.RowKit

theorem own : ownKnob Tryz.prog.godebug = none := by kernel_rfl
theorem laidOut : laidOutB Tryz.prog = true := by kernel_rfl

theorem post_below {H : Type} {enc : TypeId × Value → H} {P : Program} {f : Func} {s : ChangeSpec} {apart fresh handsOn : Bool} {W W' : World} {args : Array Value} {v : Value} {ds gs : List (DataW H)} {before pa pv : List MemPlace}
    (hW : DataW.Whole enc P f.params.toList s.vars apart W args.toList ds gs before)
    (hres : ∀ (b : Nat) (sp : Nat → Bool) (hd : Bool), DataW.TrodAll enc P W' b sp hd f.resultTypes.toList (v.resultList f.resultTypes.size) (s.fn H (ds ++ gs)).results [])
    (hargs : DataW.TrodAll enc P W' 0 (fun b => decide (b < W.heap.size)) true f.params.toList args.toList (s.fn H (ds ++ gs)).args pa)
    (hvars : DataW.TrodVars enc P W' (fun b => decide (b < W.heap.size)) s.vars (s.fn H (ds ++ gs)).vars pv)
    (hps : before = pa ++ pv) (hB : Below W.heap.size W W') :
    s.post enc P f apart fresh handsOn false W args v W' := by
  refine ⟨ds, gs, before, [], pa, pv, hW, hres _ _ _, hargs, hvars, World.keptBut_mono (fun p hp => ⟨hp, ?_⟩) (hB.frame (· ∈ before)), fun h => by cases h⟩
  rw [hps, List.mem_append] at hp
  exact Or.inr hp
end Go.Proofs.YtoihhlkidlapmaaGreat

/- What a row of entries that is handed over holds. -/
namespace Go.Proofs.YtoihhlkidlapmaaGreat
open Go.ChangeShapes Go.WideShapes Go.ChangeAt Go.RowKit





end Go.Proofs.YtoihhlkidlapmaaGreat

/- For every tree the program's TreeOk answers as its model does (the walk). -/
namespace Go.Proofs.YtoihhlkidlapmaaGreat
open Go.ChangeShapes Go.WideShapes Go.ChangeAt Go.RowKit Go.Shelf

set_option maxRecDepth 100000 in
set_option maxHeartbeats 2000000 in
theorem treeOk_any (es : List Ent) (a : Option Addr) (cap : Nat) (w : World) (hs : smallE es) (h : EntsAt w a es) :
    Calls Tryz.prog 46 #[.slice a es.length cap] w fun x w' => x = .returned (.bool (treeB es)) ∧ Below w.heap.size w w' := by
  have H := hid (treeOf_any es a cap w hs h)
  clear hs h
  go_enter Tryz.func46, Tryz.ntmps46
  go_wp2_with (go_at_call 81; refine (unhid H).mono ?_; rintro x w1 ⟨vp, vn, rfl, ⟨t2, t3⟩, hB⟩; obtain ⟨ap, cp, rfl⟩ := ownsRow_slice t2; obtain ⟨an, cn, rfl⟩ := ownsRow_slice t3; clear t2 t3)
  go_ret
  exact ⟨rfl, hB.alloc hB.size _⟩


end Go.Proofs.YtoihhlkidlapmaaGreat

/- Two trees in one, by the program. -/
namespace Go.Proofs.YtoihhlkidlapmaaGreat
open Go.RowKit Go.Shelf

attribute [local go_sem] Oper.semAt_some

def joinTo (L : List Ent) (xs : List Ent) : List Ent := xs.foldl putT L
def stepJ (L : List Ent) (x : Ent) : Bool := !(thereE L x.path) || sameB (entFn L (placeE L x.path)) x
def okJ : List Ent → List Ent → Bool
  | _, [] => true
  | L, x :: xs => stepJ L x && okJ (putT L x) xs
theorem joinTo_snoc (L xs : List Ent) (x : Ent) : joinTo L (xs ++ [x]) = putT (joinTo L xs) x := by unfold joinTo; rw [List.foldl_append]; rfl
theorem okJ_app : ∀ (L xs ys : List Ent), okJ L (xs ++ ys) = (okJ L xs && okJ (joinTo L xs) ys)
  | L, [], ys => by simp [okJ, joinTo]
  | L, x :: xs, ys => by rw [List.cons_append, okJ, okJ, okJ_app (putT L x) xs ys, Bool.and_assoc]; rfl
theorem okJ_snoc (L xs : List Ent) (x : Ent) : okJ L (xs ++ [x]) = (okJ L xs && stepJ (joinTo L xs) x) := by rw [okJ_app]; simp [okJ]
theorem okJ_prefix {L xs ys : List Ent} (h : xs <+: ys) (hno : okJ L xs = false) : okJ L ys = false := by
  obtain ⟨zs, rfl⟩ := h
  rw [okJ_app, hno]; rfl
theorem joinTo_up {L : List Ent} (h : Up L) : ∀ xs, Up (joinTo L xs) := snoc_ind h (fun xs x ih => by rw [joinTo_snoc]; exact putT_up ih)
theorem joinTo_len (L : List Ent) : ∀ xs, (joinTo L xs).length ≤ L.length + xs.length := snoc_ind (Nat.le_refl _) (fun xs x ih => by
  rw [joinTo_snoc]
  have := putT_len (joinTo L xs) x
  simp; omega)
theorem joinTo_mem (L : List Ent) : ∀ xs x, x ∈ joinTo L xs → x ∈ L ∨ x ∈ xs := snoc_ind (fun x h => .inl h) (fun xs x ih y hy => by
  rw [joinTo_snoc] at hy
  rcases putT_mem hy with h | h
  · rcases ih y h with h | h
    · exact .inl h
    · exact .inr (List.mem_append_left _ h)
  · subst h; exact .inr (by simp))
def joinOk (es fs : List Ent) : Bool := treeB es && (treeB fs && (okJ es fs && treeB (joinTo es fs)))
def joinR (es fs : List Ent) : List Ent := if joinOk es fs then joinTo es fs else []
theorem ent_text_len {e : Ent} (h : entB e = true) : e.text.size ≤ 80 := by
  unfold entB at h
  simp only [Bool.and_eq_true] at h
  have h2 := h.2
  split at h2
  · simp only [Bool.and_eq_true] at h2
    rw [Lib.size_eq]
    have := h2.2
    simp at this
    rw [this]; simp
  · split at h2
    · simp only [Bool.and_eq_true, textB, decide_eq_true_eq] at h2
      rw [Lib.size_eq]; exact h2.2.1
    · simp only [Bool.and_eq_true] at h2
      have := pathB_size _ h2.2.2
      rw [Lib.size_eq]; omega
theorem small_all {es : List Ent} (hl : es.length ≤ 1000) (h : ∀ e ∈ es, entB e = true) : smallE es :=
  ⟨by omega, fun e he => ⟨by have := ent_path_len (h e he); omega, by have := ent_text_len (h e he); omega⟩⟩

/-- A row that does not lie between two bounds. -/
def AwayV (M M2 : Nat) (v : Value) : Prop := ∀ k, v.ownBlock = some k → k < M ∨ M2 ≤ k
/-- The boxes of what a join answers. -/
def BxJ (W : World) (N : Nat) : Prop := W.heap[N]? = some (.cells #[.slice none 0 0] 32 (0, 0)) ∧ W.heap[N + 1]? = some (.cells #[.bool false] 4 (0, 0))
theorem BxJ.keep {W W' : World} {N : Nat} (h : BxJ W N) (hk : ∀ k, k < N + 2 → W'.heap[k]? = W.heap[k]?) : BxJ W' N := ⟨(hk _ (by omega)).trans h.1, (hk _ (by omega)).trans h.2⟩
theorem BxJ.grown {W W' : World} {row : Option Nat} {N : Nat} (h : BxJ W N) (hg : W.grownBy W' row) (hr : ∀ r, row = some r → ∃ o : Obj, W.heap[r]? = some o ∧ o.isCells = false) : BxJ W' N := ⟨cells_grown hg hr h.1, cells_grown hg hr h.2⟩
theorem RowsV.below {W W' : World} {N bt : Nat} {vp vn : Value} {es : List Ent} (h : RowsV W N bt vp vn es) (hb : Below W.heap.size W W') : RowsV W' N bt vp vn es :=
  ⟨(hb.block bt (Array.getElem?_eq_some_iff.1 h.1).1).trans h.1, ownsRow_kept h.2.1 (fun g e => hb.block g (h.2.1.lt g e).2), ownsRow_kept h.2.2 (fun g e => hb.block g (h.2.2.lt g e).2)⟩
theorem RowsV.grown {W W' : World} {row : Option Nat} {N bt : Nat} {vp vn : Value} {es : List Ent} (h : RowsV W N bt vp vn es) (hg : W.grownBy W' row) (hr : ∀ r, row = some r → ∃ o : Obj, W.heap[r]? = some o ∧ o.isCells = false) : RowsV W' N bt vp vn es :=
  ⟨cells_grown hg hr h.1, row_grown hg hr h.2.1, row_grown hg hr h.2.2⟩
theorem RowsV.at {W : World} {N bt : Nat} {vp vn : Value} {es : List Ent} (h : RowsV W N bt vp vn es) : TreeAt W N bt es := ⟨vp, vn, h.1, h.2.1, h.2.2⟩

set_option maxRecDepth 100000 in
set_option maxHeartbeats 8000000 in
theorem treeJoin_any (es fs : List Ent) (a b : Option Addr) (cap cap2 : Nat) (w : World) (hs : smallE es) (hs2 : smallE fs) (h : EntsAt w a es) (h2 : EntsAt w b fs) :
    Calls Tryz.prog 140 #[.slice a es.length cap, .slice b fs.length cap2] w fun x w' => ∃ v, x = .returned (.tuple #[v, .bool (joinOk es fs)]) ∧ w'.ownsRow w.heap.size 57 4 v (joinR es fs).length (valsOf (joinR es fs)) ∧ Below w.heap.size w w' := by
  obtain ⟨wA, hwA⟩ : ∃ wA, wA = (w.alloc (.cells #[.slice none 0 0] 32)).alloc (.cells #[.bool false] 4) := ⟨_, rfl⟩
  have hsz : wA.heap.size = w.heap.size + 2 := by rw [hwA]; simp
  have hBA : Below w.heap.size w wA := by rw [hwA]; exact ((Below.refl _ w).alloc (Nat.le_refl _) _).alloc (by simp) _
  have hbox : BxJ wA w.heap.size := by
    rw [hwA]
    refine ⟨(Below.heap_alloc _ _ _ (by simp)).trans (World.alloc_heap_new w _), ?_⟩
    have := World.alloc_heap_new (w.alloc (.cells #[.slice none 0 0] 32)) (.cells #[.bool false] 4)
    rw [World.size_alloc] at this
    exact this
  have H := hid (treeOf_any es a cap wA hs (h.below hBA))
  have HA := hid (And.intro hsz (And.intro hBA hbox))
  have HWA := hid hwA
  have HE2 := hid (And.intro hs2 h2)
  clear hs h hwA hsz hBA hbox hs2 h2
  refine (callsIn_wide (n := 3)).1 ?_
  refine callsIn_of_wp_marks Tryz.func140 rfl trivial ?_ rfl
  simp only [Tryz.ntmps140, List.size_toArray, List.length_cons, List.length_nil, Nat.reduceAdd, Nat.reduceSub, Array.replicate_succ, Array.replicate_zero, List.push_toArray, List.append_toArray, List.nil_append, List.cons_append]
  gi_wp2
  rw [← unhid HWA]
  refine ⟨trivial, (callsIn_wide.2 (unhid H)).mono ?_⟩
  rintro x w1 ⟨vp, vn, rfl, ⟨t2, t3⟩, hB⟩
  obtain ⟨ap, cp, rfl⟩ := ownsRow_slice t2
  obtain ⟨an, cn, rfl⟩ := ownsRow_slice t3
  obtain ⟨hsz, hBA, hbox⟩ := unhid HA
  obtain ⟨wt, hwt⟩ : ∃ wt, wt = w1.alloc (.cells #[.slice ap (keptE es).length cp, .slice an (keptE es).length cn] 117) := ⟨_, rfl⟩
  have hB1 : Below w.heap.size w w1 := hBA.trans (hB.mono (by omega))
  have hBt : Below w1.heap.size w1 wt := by rw [hwt]; exact (Below.refl _ w1).alloc (Nat.le_refl _) _
  have hBT : Below w.heap.size w wt := hB1.trans (hBt.mono hB1.size)
  have hT : RowsV wt wA.heap.size w1.heap.size (.slice ap (keptE es).length cp) (.slice an (keptE es).length cn) (keptE es) := ⟨by rw [hwt]; exact World.alloc_heap_new _ _, ownsRow_kept t2 (fun g e => hBt.block g (t2.lt g e).2), ownsRow_kept t3 (fun g e => hBt.block g (t3.lt g e).2)⟩
  have hw1 : wA.heap.size ≤ w1.heap.size := hB.size
  have hzt : wt.heap.size = w1.heap.size + 1 := by rw [hwt]; simp
  have hbt : BxJ wt w.heap.size := hbox.keep (fun k hk => (hBt.block _ (by omega)).trans (hB.block _ (by omega)))
  have H2 := hid (treeOf_any fs b cap2 wt (unhid HE2).1 ((unhid HE2).2.below hBT))
  have HT := hid (And.intro hBT (And.intro hbt hT))
  have HWT := hid hwt
  clear hT hBT hBt hB1 hB t2 t3 hbox hBA HA HWA H hbt hwt HE2
  gi_wp2
  rw [← unhid HWT]
  refine ⟨trivial, (callsIn_wide.2 (unhid H2)).mono ?_⟩
  rintro x w2 ⟨vp2, vn2, rfl, ⟨t2, t3⟩, hB⟩
  obtain ⟨ap2, cp2, rfl⟩ := ownsRow_slice t2
  obtain ⟨an2, cn2, rfl⟩ := ownsRow_slice t3
  obtain ⟨wu, hwu⟩ : ∃ wu, wu = w2.alloc (.cells #[.slice ap2 (keptE fs).length cp2, .slice an2 (keptE fs).length cn2] 117) := ⟨_, rfl⟩
  have hBt : Below w2.heap.size w2 wu := by rw [hwu]; exact (Below.refl _ w2).alloc (Nat.le_refl _) _
  have hBu : Below wt.heap.size wt wu := hB.trans (hBt.mono hB.size)
  have hzu : wu.heap.size = w2.heap.size + 1 := by rw [hwu]; simp
  have hw2 : wt.heap.size ≤ w2.heap.size := hB.size
  have HU := hid (show Below w.heap.size w wu ∧ BxJ wu w.heap.size ∧ RowsV wu wA.heap.size w1.heap.size (.slice ap (keptE es).length cp) (.slice an (keptE es).length cn) (keptE es) ∧ RowsV wu wt.heap.size w2.heap.size (.slice ap2 (keptE fs).length cp2) (.slice an2 (keptE fs).length cn2) (keptE fs) from
    ⟨(unhid HT).1.trans (hBu.mono (by omega)), (unhid HT).2.1.keep (fun k hk => hBu.block k (by omega)), (unhid HT).2.2.below hBu, by rw [hwu]; exact World.alloc_heap_new _ _, ownsRow_kept t2 (fun g e => hBt.block g (t2.lt g e).2), ownsRow_kept t3 (fun g e => hBt.block g (t3.lt g e).2)⟩)
  have HR1 := hid (show (∀ g, (Value.slice ap (keptE es).length cp).ownBlock = some g → g < wt.heap.size) ∧ (∀ g, (Value.slice an (keptE es).length cn).ownBlock = some g → g < wt.heap.size) from ⟨fun g e => ((unhid HT).2.2.2.1.lt g e).2, fun g e => ((unhid HT).2.2.2.2.lt g e).2⟩)
  have HWU := hid hwu
  clear hBt hBu t2 t3 hB H2 HT HWT hwu
  cases htb : treeB es
  · have E := hid (show joinOk es fs = false ∧ joinR es fs = [] by unfold joinR joinOk; rw [htb]; exact ⟨rfl, rfl⟩)
    obtain ⟨hBw, hbx, -, -⟩ := unhid HU
    obtain ⟨k2, f2⟩ := cell_of_box_l hbx.1
    obtain ⟨k3, f3⟩ := cell_of_box_l hbx.2
    rw [unhid HWU] at k2 f2 k3 f3
    have HF := hid hBw
    clear hBw hbx
    gi_wp2
    rw [← unhid HWU]
    rw [unhid HWU] at HF
    refine ⟨.tuple #[.slice none 0 0, .bool false], ?_, _, by rw [(unhid E).1], by rw [(unhid E).2]; exact World.ownsRow_nil _ _ _ _, ?_⟩
    · rw [unhid HWU]; simp [results, Tryz.f140, go_sem, World.cell?_setCell_same', k2, k3]
    · rw [unhid HWU]; exact ((unhid HF).setCell (p := ⟨w.heap.size, 0, none⟩) (Nat.le_refl _) _).setCell (p := ⟨w.heap.size + 1, 0, none⟩) (show w.heap.size ≤ w.heap.size + 1 by omega) _

  cases htb2 : treeB fs
  · have E := hid (show joinOk es fs = false ∧ joinR es fs = [] by unfold joinR joinOk; rw [htb, htb2]; exact ⟨rfl, rfl⟩)
    obtain ⟨hBw, hbx, -, -⟩ := unhid HU
    obtain ⟨k2, f2⟩ := cell_of_box_l hbx.1
    obtain ⟨k3, f3⟩ := cell_of_box_l hbx.2
    rw [unhid HWU] at k2 f2 k3 f3
    have HF := hid hBw
    clear hBw hbx
    gi_wp2
    rw [← unhid HWU]
    rw [unhid HWU] at HF
    refine ⟨.tuple #[.slice none 0 0, .bool false], ?_, _, by rw [(unhid E).1], by rw [(unhid E).2]; exact World.ownsRow_nil _ _ _ _, ?_⟩
    · rw [unhid HWU]; simp [results, Tryz.f140, go_sem, World.cell?_setCell_same', k2, k3]
    · rw [unhid HWU]; exact ((unhid HF).setCell (p := ⟨w.heap.size, 0, none⟩) (Nat.le_refl _) _).setCell (p := ⟨w.heap.size + 1, 0, none⟩) (show w.heap.size ≤ w.heap.size + 1 by omega) _

  rw [keptE_yes htb] at HU HR1 ⊢
  rw [keptE_yes htb2] at HU HWU ⊢
  obtain ⟨hBu, hbu, hr1, hr2⟩ := unhid HU
  have hwl : w2.heap.size < wu.heap.size := by omega
  obtain ⟨w4, hw4⟩ : ∃ w4, w4 = wu.alloc (.cells #[.pointer (some ⟨w2.heap.size, 0, none⟩)] 173) := ⟨_, rfl⟩
  have hz4 : w4.heap.size = wu.heap.size + 1 := by rw [hw4]; simp
  have hB4 : Below wu.heap.size wu w4 := by rw [hw4]; exact (Below.refl _ wu).alloc (Nat.le_refl _) _
  have HAL := hid (all_in Fence.wide 2 trivial rfl w2.heap.size wu)
  rw [← hw4] at HAL
  have HR2 := hid (show (∀ g, (Value.slice ap2 fs.length cp2).ownBlock = some g → wt.heap.size ≤ g ∧ g < w4.heap.size) ∧ (∀ g, (Value.slice an2 fs.length cn2).ownBlock = some g → wt.heap.size ≤ g ∧ g < w4.heap.size) from ⟨fun g e => ⟨(hr2.2.1.lt g e).1, by have := (hr2.2.1.lt g e).2; omega⟩, fun g e => ⟨(hr2.2.2.lt g e).1, by have := (hr2.2.2.lt g e).2; omega⟩⟩)
  have hTI : TreeIn wu.heap.size w2.heap.size wt.heap.size (.slice ap2 fs.length cp2) (.slice an2 fs.length cn2) fs w4 := ⟨by have := (cell_new_l wu (.pointer (some ⟨w2.heap.size, 0, none⟩)) 173).1; rw [hw4]; exact this, (hr2.below hB4).1, (hr2.below hB4).2⟩
  have hBt0 : (∃ vp vn, RowsV w4 wA.heap.size w1.heap.size vp vn (joinTo es ([])) ∧ AwayV wt.heap.size w4.heap.size vp ∧ AwayV wt.heap.size w4.heap.size vn) := ⟨_, _, hr1.below hB4, fun k hk => .inl ((unhid HR1).1 k hk), fun k hk => .inl ((unhid HR1).2 k hk)⟩
  have hbx4 : BxJ w4 w.heap.size := hbu.keep (fun k hk => hB4.block k (by omega))
  have hBw : Below w.heap.size w w4 := hBu.trans (hB4.mono (by omega))
  have hl1 := tree_16 htb
  have hl2 := tree_16 htb2
  have hup := asc_up (tree_asc htb)
  have hkb := tree_all htb2
  have zu1 := Nat.le_of_eq hzu
  have zu2 := Nat.le_of_eq hzu.symm
  have z41 := Nat.le_of_eq hz4
  have z42 := Nat.le_of_eq hz4.symm
  have zt1 := Nat.le_of_eq hzt
  have zt2 := Nat.le_of_eq hzt.symm
  have za1 := Nat.le_of_eq hsz
  have za2 := Nat.le_of_eq hsz.symm
  clear hw4 hr1 hr2 hbu hBu HR1 hB4 hzu hz4 hzt hsz
  gi_wp2
  rw [← unhid HWU]
  refine ⟨trivial, (unhid HAL).mono ?_⟩
  rintro x w5 ⟨rfl, e5⟩
  rw [e5]
  clear e5
  gi_wp2
  refine wpIn_rangeFunc_ownF rfl (by omega) (gf := 168) (lb := #[.pointer (some ⟨wu.heap.size, 0, none⟩)]) rfl trivial (enters_of Tryz.func168 (by kernel_rfl) rfl)
    (all_stops Fence.wide _ trivial rfl (by omega) wu.heap.size w2.heap.size wt.heap.size _ _ fs (by omega) (fun e => entB e = true) hkb _ hTI) (fun h g x => g (h x)) (fun W l o o' _ hl hc _ h => treeIn_grown h (grownBy_putObj' _ l o') (fun r e => by cases e; exact ⟨_, hl, hc⟩)) (Below.refl _ _) (fun _ => rfl)
    (fun pre W => ((∃ vp vn, RowsV W wA.heap.size w1.heap.size vp vn (joinTo es (pre.map (·.1))) ∧ AwayV wt.heap.size w4.heap.size vp ∧ AwayV wt.heap.size w4.heap.size vn) ∧ TreeIn wu.heap.size w2.heap.size wt.heap.size (.slice ap2 fs.length cp2) (.slice an2 fs.length cn2) fs W ∧ BxJ W w.heap.size ∧ Hid (okJ es (pre.map (·.1)) = true)) ∧ Below w.heap.size w W ∧ w4.heap.size ≤ W.heap.size)
    (fun c pre W => (c = .ret ∧ okJ es (pre.map (·.1)) = false ∧ BxJ W w.heap.size) ∧ Below w.heap.size w W)
    (fun s A B row hs hg hr => ⟨⟨by obtain ⟨vp, vn, q1, q2, q3⟩ := hs.1.1; exact ⟨vp, vn, q1.grown hg (fun r e => (hr r e).2), q2, q3⟩, treeIn_grown hs.1.2.1 hg (fun r e => (hr r e).2), hs.1.2.2.1.grown hg (fun r e => (hr r e).2), hs.1.2.2.2⟩, ownFrom_below (Nat.le_refl _) (by omega) s A B row hs.2.1 hg hr, Nat.le_trans hs.2.2 hg.size⟩)
    (fun c s A B row hs hg hr => ⟨⟨hs.1.1, hs.1.2.1, hs.1.2.2.grown hg (fun r e => (hr r e).2)⟩, ownFrom_below (Nat.le_refl _) (by omega) s A B row hs.2 hg hr⟩)
    ⟨⟨hBt0, hTI, hbx4, hid rfl⟩, hBw, Nat.le_refl _⟩
    (fun x => { tmps := #[.slice a es.length cap, .slice b fs.length cap2, undef, undef, .pointer (some ⟨w.heap.size, 0, none⟩), .pointer (some ⟨w.heap.size + 1, 0, none⟩), .pointer (some ⟨w1.heap.size, 0, none⟩), .bool true, .pointer (some ⟨w2.heap.size, 0, none⟩), .bool true, .string x.1.path, nodeV x.1, undef, undef, undef, .tuple #[.agg #[.slice ap es.length cp, .slice an es.length cn], .bool true], .slice a es.length cap, .tuple #[.agg #[.slice ap es.length cp, .slice an es.length cn], .bool true], .agg #[.slice ap es.length cp, .slice an es.length cn], .bool true, .tuple #[.agg #[.slice ap2 fs.length cp2, .slice an2 fs.length cn2], .bool true], .slice b fs.length cap2, .tuple #[.agg #[.slice ap2 fs.length cp2, .slice an2 fs.length cn2], .bool true], .agg #[.slice ap2 fs.length cp2, .slice an2 fs.length cn2], .bool true, .bool true, .bool false, .bool false, .bool true, .bool false, .bool false, .pointer (some ⟨w2.heap.size, 0, none⟩), .func (.func 168) #[] #[.pointer (some ⟨wu.heap.size, 0, none⟩)], .string x.1.path, nodeV x.1, undef, undef, undef, undef, undef, undef, undef, undef, undef, undef, undef, undef, undef, undef, undef, undef, undef, undef, undef, undef, undef, undef], defers := [] }) ?assign ?body ?done ?stop
  case assign =>
    intro l x W K hK
    gi_wp2
    exact hK
  case body =>
    rintro l pre ⟨e, hx⟩ W ⟨⟨⟨vp, vn, hrv, hav, han⟩, hTI2, hbW, hok⟩, hB, hW4⟩ hpl
    dsimp only
    obtain ⟨T0, nv, hnv⟩ := nodeV_shape e
    have hjl : (joinTo es (pre.map (·.1))).length ≤ 100 := by have := joinTo_len es (pre.map (·.1)); rw [List.length_map] at this; omega
    have hasc := up_asc (joinTo_up hup (pre.map (·.1)))
    have GET := hid (mapGet_any wA.heap.size w1.heap.size (joinTo es (pre.map (·.1))) e.path W (by omega) hasc hrv.at)
    cases hth : thereE (joinTo es (pre.map (·.1))) e.path
    · have hst : stepJ (joinTo es (pre.map (·.1))) e = true := by unfold stepJ; rw [hth]; rfl
      have hgv : getV (joinTo es (pre.map (·.1))) e.path = .nilIface := by unfold getV; rw [hth]; rfl
      rw [hgv, hth] at GET
      have HI0 := hid (And.intro hrv (And.intro hav (And.intro han (And.intro hTI2 (And.intro hbW hB)))))
      clear hrv hav han hTI2 hbW hB hgv
      gi_wp2
      refine ⟨trivial, (CallsIn.inRound l (callsIn_wide.2 (unhid GET))).mono ?_⟩
      rintro x W2 ⟨rfl, e2⟩
      subst e2
      obtain ⟨hrv, hav, han, hTI2, hbW, hB⟩ := unhid HI0
      have hmk : joinTo es ((pre ++ [(⟨e, hx⟩ : { e : Ent // entB e = true })]).map (·.1)) = putT (joinTo es (pre.map (·.1))) e := by rw [List.map_append]; exact joinTo_snoc _ _ _
      have hokn : okJ es ((pre ++ [(⟨e, hx⟩ : { e : Ent // entB e = true })]).map (·.1)) = true := by rw [List.map_append]; exact (okJ_snoc es (pre.map (·.1)) e).trans (by rw [unhid hok, hst])
      have hput := mapPut_V wA.heap.size w1.heap.size vp vn (joinTo es (pre.map (·.1))) e W2 (by omega) hasc hw1 hrv
      rw [← hmk] at hput
      rw [hnv] at hput
      try rw [hnv]
      have HP := hid hput
      have HI := hid (And.intro hrv (And.intro hav (And.intro han (And.intro hTI2 (And.intro hbW (And.intro hB (And.intro (KeepsOthers.refl W2) hokn)))))))
      clear hput hmk hokn
      gi_wp2
      refine ⟨trivial, ?_⟩
      gi_wp2
      refine ⟨trivial, (CallsIn.inRound l (callsIn_wide.2 (unhid HP))).mono ?_⟩
      rintro x W9 ⟨⟨v, rfl⟩, ⟨vp', vn', hrv9, hfp, hfn⟩, hB9, hO9, hS9⟩
      obtain ⟨hrv, hav, han, hTW, hbW, hBW, hKO, hokn⟩ := unhid HI
      have hsz9 : W2.heap.size ≤ W9.heap.size := hB9.size
      have hTF : TreeIn wu.heap.size w2.heap.size wt.heap.size (.slice ap2 fs.length cp2) (.slice an2 fs.length cn2) fs W9 := treeIn_kept hTW (fun k hk => by
        have hkr : wt.heap.size ≤ k ∧ k < w4.heap.size := by
          rcases hk with rfl | rfl | h | h
          · omega
          · omega
          · exact (unhid HR2).1 k h
          · exact (unhid HR2).2 k h
        exact hS9 k (by omega) (by omega) (fun eq => by have := hav k eq; omega) (fun eq => by have := han k eq; omega))
      have HF := hid (show KeepsOthers W2 W9 ∧ (TreeIn wu.heap.size w2.heap.size wt.heap.size (.slice ap2 fs.length cp2) (.slice an2 fs.length cn2) fs W2 → TreeIn wu.heap.size w2.heap.size wt.heap.size (.slice ap2 fs.length cp2) (.slice an2 fs.length cn2) fs W9) ∧ ((∃ vp vn, RowsV W9 wA.heap.size w1.heap.size vp vn (joinTo es ((pre ++ [(⟨e, hx⟩ : { e : Ent // entB e = true })]).map (·.1))) ∧ AwayV wt.heap.size w4.heap.size vp ∧ AwayV wt.heap.size w4.heap.size vn) ∧ TreeIn wu.heap.size w2.heap.size wt.heap.size (.slice ap2 fs.length cp2) (.slice an2 fs.length cn2) fs W9 ∧ BxJ W9 w.heap.size ∧ Hid (okJ es ((pre ++ [(⟨e, hx⟩ : { e : Ent // entB e = true })]).map (·.1)) = true)) ∧ Below w.heap.size w W9 ∧ w4.heap.size ≤ W9.heap.size from
        ⟨hKO.trans ⟨hB9.size, fun k o hk hc => by
            by_cases hkb : k = w1.heap.size
            · subst hkb; have q1 := hrv.1; rw [hk] at q1; cases q1; cases hc
            · exact hO9 k o hkb hk (fun cs t f e => by subst e; cases hc)⟩, fun _ => hTF,
         ⟨⟨vp', vn', hrv9, fun k hk => by rcases hfp k hk with h | h; exact hav k h; right; omega, fun k hk => by rcases hfn k hk with h | h; exact han k h; right; omega⟩, hTF, hbW.keep (fun k hk => hB9.block k (by omega)), hid hokn⟩, hBW.trans (hB9.mono (by omega)), by omega⟩)
      clear hrv9 hfp hfn hB9 hO9 hS9 hrv hav han hTW hbW hBW hKO hokn hTF
      gi_wp2
      exact unhid HF
    · obtain ⟨old, hold, hop⟩ := there_get hth
      have hfo := entFn_get hold
      obtain ⟨T1, nv1, hnv1⟩ := nodeV_shape old
      have hgv : getV (joinTo es (pre.map (·.1))) e.path = .iface T1 nv1 := by unfold getV; rw [hth, hfo, if_pos rfl, hnv1]
      rw [hgv, hth] at GET
      have SAME := hid (fun W => sameDir_any old e W)
      rw [hnv, hnv1] at SAME
      have HI0 := hid (And.intro hrv (And.intro hav (And.intro han (And.intro hTI2 (And.intro hbW hB)))))
      clear hrv hav han hTI2 hbW hB hgv hnv1 hold hop
      gi_wp2
      refine ⟨trivial, (CallsIn.inRound l (callsIn_wide.2 (unhid GET))).mono ?_⟩
      rintro x W2 ⟨rfl, e2⟩
      subst e2
      gi_wp2
      refine ⟨trivial, (CallsIn.inRound l (callsIn_wide.2 (unhid SAME _))).mono ?_⟩
      rintro x W3 ⟨rfl, hb⟩
      obtain ⟨hrv0, hav, han, hTI0, hbW0, hB0⟩ := unhid HI0
      have hrv := hrv0.below hb
      have hTI2 := treeIn_below hTI0 hb
      have hlw : w.heap.size + 2 ≤ W2.heap.size := by have := (Array.getElem?_eq_some_iff.1 hbW0.2).1; omega
      have hbW := hbW0.keep (fun k hk => hb.block k (by omega))
      have hB := hB0.trans (hb.mono hB0.size)
      have hW43 : w4.heap.size ≤ W3.heap.size := Nat.le_trans hW4 hb.size
      have hKO := KeepsOthers_of_below hb
      clear hrv0 hTI0 hbW0 hB0 hb HI0 SAME
      cases hsm : sameB old e
      · have hno : okJ es ((pre ++ [(⟨e, hx⟩ : { e : Ent // entB e = true })]).map (·.1)) = false := by rw [List.map_append]; rw [show List.map (fun x => x.1) [(⟨e, hx⟩ : { e : Ent // entB e = true })] = [e] from rfl, okJ_snoc, show stepJ (joinTo es (pre.map (·.1))) e = false by unfold stepJ; rw [hth, hfo, hsm]; rfl, Bool.and_false]
        obtain ⟨k2, f2⟩ := cell_of_box_l hbW.1
        obtain ⟨k3, f3⟩ := cell_of_box_l hbW.2
        have HF := hid (And.intro hKO (And.intro hno (And.intro hbW hB)))
        clear hKO hno hbW hB hrv hav han hTI2
        gi_wp2
        obtain ⟨hKO, hno, hbW, hB⟩ := unhid HF
        exact ⟨hKO.trans ((KeepsOthers.setCell _ _ _).trans (KeepsOthers.setCell _ _ _)), ⟨rfl, hno, (Below.heap_setCell _ _ _ _ (show w.heap.size ≠ w.heap.size + 1 by omega)).trans (by rw [heap_setCell_same _ _ 0 _ _ _ hbW.1]; rfl), by rw [heap_setCell_same _ _ 0 _ _ _ ((Below.heap_setCell _ _ _ _ (show w.heap.size + 1 ≠ w.heap.size by omega)).trans hbW.2)]; rfl⟩, (hB.setCell (p := ⟨w.heap.size, 0, none⟩) (Nat.le_refl _) _).setCell (p := ⟨w.heap.size + 1, 0, none⟩) (show w.heap.size ≤ w.heap.size + 1 by omega) _⟩
      · have hst : stepJ (joinTo es (pre.map (·.1))) e = true := by unfold stepJ; rw [hfo, hsm]; simp
        have hmk : joinTo es ((pre ++ [(⟨e, hx⟩ : { e : Ent // entB e = true })]).map (·.1)) = putT (joinTo es (pre.map (·.1))) e := by rw [List.map_append]; exact joinTo_snoc _ _ _
        have hokn : okJ es ((pre ++ [(⟨e, hx⟩ : { e : Ent // entB e = true })]).map (·.1)) = true := by rw [List.map_append]; exact (okJ_snoc es (pre.map (·.1)) e).trans (by rw [unhid hok, hst])
        have hput := mapPut_V wA.heap.size w1.heap.size vp vn (joinTo es (pre.map (·.1))) e W3 (by omega) hasc hw1 hrv
        rw [← hmk] at hput
        rw [hnv] at hput
        try rw [hnv]
        have HP := hid hput
        have HI := hid (And.intro hrv (And.intro hav (And.intro han (And.intro hTI2 (And.intro hbW (And.intro hB (And.intro hKO hokn)))))))
        clear hput hmk hokn
        gi_wp2
        refine ⟨trivial, (CallsIn.inRound l (callsIn_wide.2 (unhid HP))).mono ?_⟩
        rintro x W9 ⟨⟨v, rfl⟩, ⟨vp', vn', hrv9, hfp, hfn⟩, hB9, hO9, hS9⟩
        obtain ⟨hrv, hav, han, hTW, hbW, hBW, hKO, hokn⟩ := unhid HI
        have hsz9 : W3.heap.size ≤ W9.heap.size := hB9.size
        have hTF : TreeIn wu.heap.size w2.heap.size wt.heap.size (.slice ap2 fs.length cp2) (.slice an2 fs.length cn2) fs W9 := treeIn_kept hTW (fun k hk => by
          have hkr : wt.heap.size ≤ k ∧ k < w4.heap.size := by
            rcases hk with rfl | rfl | h | h
            · omega
            · omega
            · exact (unhid HR2).1 k h
            · exact (unhid HR2).2 k h
          exact hS9 k (by omega) (by omega) (fun eq => by have := hav k eq; omega) (fun eq => by have := han k eq; omega))
        have HF := hid (show KeepsOthers W2 W9 ∧ (TreeIn wu.heap.size w2.heap.size wt.heap.size (.slice ap2 fs.length cp2) (.slice an2 fs.length cn2) fs W2 → TreeIn wu.heap.size w2.heap.size wt.heap.size (.slice ap2 fs.length cp2) (.slice an2 fs.length cn2) fs W9) ∧ ((∃ vp vn, RowsV W9 wA.heap.size w1.heap.size vp vn (joinTo es ((pre ++ [(⟨e, hx⟩ : { e : Ent // entB e = true })]).map (·.1))) ∧ AwayV wt.heap.size w4.heap.size vp ∧ AwayV wt.heap.size w4.heap.size vn) ∧ TreeIn wu.heap.size w2.heap.size wt.heap.size (.slice ap2 fs.length cp2) (.slice an2 fs.length cn2) fs W9 ∧ BxJ W9 w.heap.size ∧ Hid (okJ es ((pre ++ [(⟨e, hx⟩ : { e : Ent // entB e = true })]).map (·.1)) = true)) ∧ Below w.heap.size w W9 ∧ w4.heap.size ≤ W9.heap.size from
          ⟨hKO.trans ⟨hB9.size, fun k o hk hc => by
              by_cases hkb : k = w1.heap.size
              · subst hkb; have q1 := hrv.1; rw [hk] at q1; cases q1; cases hc
              · exact hO9 k o hkb hk (fun cs t f e => by subst e; cases hc)⟩, fun _ => hTF,
           ⟨⟨vp', vn', hrv9, fun k hk => by rcases hfp k hk with h | h; exact hav k h; right; omega, fun k hk => by rcases hfn k hk with h | h; exact han k h; right; omega⟩, hTF, hbW.keep (fun k hk => hB9.block k (by omega)), hid hokn⟩, hBW.trans (hB9.mono (by omega)), by omega⟩)
        clear hrv9 hfp hfn hB9 hO9 hS9 hrv hav han hTW hbW hBW hKO hokn hTF
        gi_wp2
        exact unhid HF
  case stop =>
    rintro D c pre W hD hpr ⟨⟨rfl, hno, hbW⟩, hB⟩ hK
    have E := hid (show joinOk es fs = false ∧ joinR es fs = [] by unfold joinR joinOk; rw [okJ_prefix hpr hno, htb, htb2]; exact ⟨rfl, rfl⟩)
    have hg := grownBy_putObj' W D (.deferred none)
    have hr : ∀ r, some D = some r → ∃ o : Obj, W.heap[r]? = some o ∧ o.isCells = false := fun r e => by cases e; exact ⟨_, hK, rfl⟩
    have s2 := (cell_of_box_l (cells_grown hg hr hbW.1)).1
    have s3 := (cell_of_box_l (cells_grown hg hr hbW.2)).1
    have HF := hid (And.intro (hB.trans (belowK_b (w := w) (Nat.le_refl _) _ D (.deferred (some [])) (.deferred none) (by omega) hK rfl rfl)) hK)
    clear hg hr hbW hB hK hno
    gi_wp2
    refine ⟨by simp, .inl ⟨_, _, rfl, run_takeDeferred (unhid HF).2, ?_⟩⟩
    refine ⟨.tuple #[.slice none 0 0, .bool false], ?_, _, by rw [(unhid E).1], by rw [(unhid E).2]; exact World.ownsRow_nil _ _ _ _, (unhid HF).1⟩
    simp [results, Tryz.f140, go_sem, s2, s3]
  case done =>
    rintro D ys W hD hys ⟨⟨⟨vp, vn, hrv, hav, han⟩, hTI2, hbW, hok⟩, hB, hW4⟩ hK
    rw [hys] at hrv hok
    have hlen : (joinTo es fs).length ≤ 100 := by have := joinTo_len es fs; omega
    have hen : ∀ e ∈ joinTo es fs, entB e = true := fun e he => by
      rcases joinTo_mem es fs e he with h | h
      · exact tree_all htb e h
      · exact hkb e h
    have ENT := hid (entries_any wA.heap.size w1.heap.size (joinTo es fs) W (by omega) hen hrv.at)
    have HSM := hid (small_all (by omega) hen)
    have HI := hid (And.intro hB (And.intro hK hbW))
    have hDl := (Array.getElem?_eq_some_iff.1 hK).1
    have hwl2 : w.heap.size + 2 ≤ W.heap.size := by have := (Array.getElem?_eq_some_iff.1 hbW.2).1; omega
    clear hrv hav han hTI2 hbW hB hK hen
    gi_wp2
    refine ⟨trivial, (callsIn_wide.2 (unhid ENT)).mono ?_⟩
    rintro x W3 ⟨v, rfl, hown, hb3⟩
    obtain ⟨va, vc, hva, hRI⟩ := rowIn_of_owns hown
    subst hva
    obtain ⟨hB, hK, hbW⟩ := unhid HI
    have TOK := hid (treeOk_any (joinTo es fs) va vc W3 (unhid HSM) hRI.at)
    have HI3 := hid (And.intro hown (And.intro (hB.trans (hb3.mono hB.size)) (And.intro ((hb3.block _ hDl).trans hK) (hbW.keep (fun k hk => hb3.block k (by omega))))))
    have hsz3 := hb3.size
    clear hown hb3 hB hK hbW hRI HI
    gi_wp2
    refine ⟨trivial, (callsIn_wide.2 (unhid TOK)).mono ?_⟩
    rintro x W4 ⟨rfl, hb4⟩
    obtain ⟨hown0, hB0, hK0, hbx0⟩ := unhid HI3
    have hown := ownsRow_kept hown0 (fun g e => hb4.block g (hown0.lt g e).2)
    have hB := hB0.trans (hb4.mono hB0.size)
    have hK := (hb4.block _ (by omega)).trans hK0
    have hbx := hbx0.keep (fun k hk => hb4.block k (by omega))
    have HI4 := hid (And.intro hown (And.intro hB (And.intro hK hbx)))
    obtain ⟨k2, f2⟩ := cell_of_box_l hbx.1
    obtain ⟨k3, f3⟩ := cell_of_box_l hbx.2
    clear hown0 hB0 hK0 hbx0 hown hB hK hbx hb4 HI3 TOK
    cases htj : treeB (joinTo es fs)
    · have E := hid (show joinOk es fs = false ∧ joinR es fs = [] by unfold joinR joinOk; rw [htj, htb, htb2, unhid hok]; exact ⟨rfl, rfl⟩)
      gi_wp2
      obtain ⟨hown, hB, hK, hbx⟩ := unhid HI4
      obtain ⟨WF, hWF⟩ : ∃ WF, WF = ((W4.setCell ⟨w.heap.size, 0, none⟩ (.slice none 0 0)).setCell ⟨w.heap.size + 1, 0, none⟩ (.bool false)) := ⟨_, rfl⟩
      have hne23 : w.heap.size ≠ w.heap.size + 1 := by omega
      have hKF : WF.heap[D]? = some (.deferred (some [])) := by rw [hWF]; exact (Below.heap_setCell _ _ _ _ (show D ≠ w.heap.size + 1 by omega)).trans ((Below.heap_setCell _ _ _ _ (show D ≠ w.heap.size by omega)).trans hK)
      have hv1 : WF.heap[w.heap.size]? = some (.cells #[.slice none 0 0] 32 (0, 0)) := by rw [hWF]; exact (Below.heap_setCell _ _ _ _ hne23).trans (by rw [heap_setCell_same _ _ 0 _ _ _ hbx.1]; rfl)
      have hb7 : WF.heap[w.heap.size + 1]? = some (.cells #[.bool false] 4 (0, 0)) := by rw [hWF, heap_setCell_same _ _ 0 _ _ _ ((Below.heap_setCell _ _ _ _ hne23.symm).trans hbx.2)]; rfl
      have hBF : Below w.heap.size w WF := by rw [hWF]; exact (hB.setCell (p := ⟨w.heap.size, 0, none⟩) (Nat.le_refl _) _).setCell (p := ⟨w.heap.size + 1, 0, none⟩) (show w.heap.size ≤ w.heap.size + 1 by omega) _
      rw [← hWF]
      refine ⟨by simp, .inl ⟨_, _, rfl, run_takeDeferred hKF, ?_⟩⟩
      have hg := grownBy_putObj' WF D (.deferred none)
      have hr : ∀ r, some D = some r → ∃ o : Obj, WF.heap[r]? = some o ∧ o.isCells = false := fun r e => by cases e; exact ⟨_, hKF, rfl⟩
      have s2 := (cell_of_box_l (cells_grown hg hr hv1)).1
      have s3 := (cell_of_box_l (cells_grown hg hr hb7)).1
      refine ⟨.tuple #[.slice none 0 0, .bool false], ?_, _, by rw [(unhid E).1], by rw [(unhid E).2]; exact World.ownsRow_nil _ _ _ _, hBF.trans (belowK_b (w := w) (Nat.le_refl _) _ D (.deferred (some [])) (.deferred none) (by omega) hKF rfl rfl)⟩
      simp [results, Tryz.f140, go_sem, s2, s3]
    · have E := hid (show joinOk es fs = true ∧ joinR es fs = joinTo es fs by unfold joinR joinOk; rw [htj, htb, htb2, unhid hok]; exact ⟨rfl, rfl⟩)
      gi_wp2
      obtain ⟨hown, hB, hK, hbx⟩ := unhid HI4
      obtain ⟨WF, hWF⟩ : ∃ WF, WF = ((W4.setCell ⟨w.heap.size, 0, none⟩ (.slice va (joinTo es fs).length vc)).setCell ⟨w.heap.size + 1, 0, none⟩ (.bool true)) := ⟨_, rfl⟩
      have hne23 : w.heap.size ≠ w.heap.size + 1 := by omega
      have hKF : WF.heap[D]? = some (.deferred (some [])) := by rw [hWF]; exact (Below.heap_setCell _ _ _ _ (show D ≠ w.heap.size + 1 by omega)).trans ((Below.heap_setCell _ _ _ _ (show D ≠ w.heap.size by omega)).trans hK)
      have hv1 : WF.heap[w.heap.size]? = some (.cells #[.slice va (joinTo es fs).length vc] 32 (0, 0)) := by rw [hWF]; exact (Below.heap_setCell _ _ _ _ hne23).trans (by rw [heap_setCell_same _ _ 0 _ _ _ hbx.1]; rfl)
      have hb7 : WF.heap[w.heap.size + 1]? = some (.cells #[.bool true] 4 (0, 0)) := by rw [hWF, heap_setCell_same _ _ 0 _ _ _ ((Below.heap_setCell _ _ _ _ hne23.symm).trans hbx.2)]; rfl
      have hBF : Below w.heap.size w WF := by rw [hWF]; exact (hB.setCell (p := ⟨w.heap.size, 0, none⟩) (Nat.le_refl _) _).setCell (p := ⟨w.heap.size + 1, 0, none⟩) (show w.heap.size ≤ w.heap.size + 1 by omega) _
      have hownF : WF.ownsRow W.heap.size 57 4 (.slice va (joinTo es fs).length vc) (joinTo es fs).length (valsOf (joinTo es fs)) := by rw [hWF]; exact ownsRow_setCell_below (ownsRow_setCell_below hown (a := ⟨w.heap.size, 0, none⟩) (show w.heap.size < W.heap.size by omega) _) (a := ⟨w.heap.size + 1, 0, none⟩) (show w.heap.size + 1 < W.heap.size by omega) _
      rw [← hWF]
      refine ⟨by simp, .inl ⟨_, _, rfl, run_takeDeferred hKF, ?_⟩⟩
      have hg := grownBy_putObj' WF D (.deferred none)
      have hr : ∀ r, some D = some r → ∃ o : Obj, WF.heap[r]? = some o ∧ o.isCells = false := fun r e => by cases e; exact ⟨_, hKF, rfl⟩
      have s2 := (cell_of_box_l (cells_grown hg hr hv1)).1
      have s3 := (cell_of_box_l (cells_grown hg hr hb7)).1
      refine ⟨.tuple #[.slice va (joinTo es fs).length vc, .bool true], ?_, _, by rw [(unhid E).1], by rw [(unhid E).2]; exact ownsRow_base (row_grown hg hr hownF) (by omega), hBF.trans (belowK_b (w := w) (Nat.le_refl _) _ D (.deferred (some [])) (.deferred none) (by omega) hKF rfl rfl)⟩
      simp [results, Tryz.f140, go_sem, s2, s3]
end Go.Proofs.YtoihhlkidlapmaaGreat

/- Whether a place of a tree may be moved, by the program. -/
namespace Go.Proofs.YtoihhlkidlapmaaGreat
open Go.RowKit Go.Shelf


end Go.Proofs.YtoihhlkidlapmaaGreat

/- What is moved in a tree, by the program. -/
namespace Go.Proofs.YtoihhlkidlapmaaGreat
open Go.RowKit Go.Shelf

attribute [local go_sem] Oper.semAt_some

/-- The boxes of a move: from, to, what is answered. -/
def BxM (W : World) (N : Nat) (p q : ByteArray) : Prop := W.heap[N]? = some (.cells #[.string p] 9 (0, 0)) ∧ W.heap[N + 1]? = some (.cells #[.string q] 9 (0, 0)) ∧ W.heap[N + 1 + 1]? = some (.cells #[.slice none 0 0] 32 (0, 0)) ∧ W.heap[N + 1 + 1 + 1]? = some (.cells #[.bool false] 4 (0, 0))
theorem BxM.keep {W W' : World} {N : Nat} {p q : ByteArray} (h : BxM W N p q) (hk : ∀ k, k < N + 4 → W'.heap[k]? = W.heap[k]?) : BxM W' N p q :=
  ⟨(hk _ (by omega)).trans h.1, (hk _ (by omega)).trans h.2.1, (hk _ (by omega)).trans h.2.2.1, (hk _ (by omega)).trans h.2.2.2⟩
theorem BxM.grown {W W' : World} {row : Option Nat} {N : Nat} {p q : ByteArray} (h : BxM W N p q) (hg : W.grownBy W' row) (hr : ∀ r, row = some r → ∃ o : Obj, W.heap[r]? = some o ∧ o.isCells = false) : BxM W' N p q :=
  ⟨cells_grown hg hr h.1, cells_grown hg hr h.2.1, cells_grown hg hr h.2.2.1, cells_grown hg hr h.2.2.2⟩

end Go.Proofs.YtoihhlkidlapmaaGreat

/- Entries put by path, by the model. -/
namespace Go.Proofs.YtoihhlkidlapmaaGreat
open Go.RowKit Go.Shelf

theorem ownsRow_some {W : World} {N n size : Nat} {v : Value} {e : TypeId} {xs : List Value} (h : W.ownsRow N e size v n xs) (hn : 0 < n) : ∃ g cap, v = .slice (some ⟨g, 0, none⟩) n cap := by
  rcases h.2 with ⟨rfl, h0⟩ | ⟨g, cap, cur, rfl, _⟩
  · omega
  · exact ⟨g, cap, rfl⟩
theorem insAt_len (es : List Ent) (e : Ent) : (insAt es e).length = es.length + 1 := by unfold insAt; have := placeE_le es e.path; simp; omega

end Go.Proofs.YtoihhlkidlapmaaGreat

/- Two trees in one, by the model. -/
namespace Go.Proofs.YtoihhlkidlapmaaGreat
open Go.RowKit Go.Shelf

/-- Whether two entries are the same, as the language compares them. -/
def eqV (x y : Ent) : Bool := x.path == y.path && (x.kind == y.kind && (x.mode == y.mode && x.text == y.text))
theorem beqS_iff (a b : ByteArray) : (a == b) = true ↔ a = b := by
  rw [beq_toListBytes]
  exact eqS_iff a b
theorem in_str (d : Nat) (a b : ByteArray) (w : World) : (Op.equalIn (d + 1) 9 (.string a) (.string b)).run Tryz.prog w = .ok (a == b) w := by
  simp [Op.equalIn, run_underlying Tryz.underlying9]
theorem in_ent (d : Nat) (x y : Ent) (w : World) : (Op.equalIn (d + 1 + 1) 57 (.agg x.vals) (.agg y.vals)).run Tryz.prog w = .ok (eqV x y) w := by
  obtain ⟨p, k, m, t⟩ := x
  obtain ⟨p2, k2, m2, t2⟩ := y
  have h0 : (program).run Tryz.prog w = .ok Tryz.prog w := by kernel_rfl
  have h1 : Tryz.prog.stoodInHeld 57 = false := by kernel_rfl
  have e0 : ∀ (p : ByteArray) (k m : Int) (t : ByteArray), (part 9 #[.string p, .int .i64 k, .int .i64 m, .string t] 0).run Tryz.prog w = .ok (.string p) w := fun p k m t => by kernel_rfl
  have e1 : ∀ (p : ByteArray) (k m : Int) (t : ByteArray), (part 3 #[.string p, .int .i64 k, .int .i64 m, .string t] 1).run Tryz.prog w = .ok (.int .i64 k) w := fun p k m t => by kernel_rfl
  have e2 : ∀ (p : ByteArray) (k m : Int) (t : ByteArray), (part 3 #[.string p, .int .i64 k, .int .i64 m, .string t] 2).run Tryz.prog w = .ok (.int .i64 m) w := fun p k m t => by kernel_rfl
  have e3 : ∀ (p : ByteArray) (k m : Int) (t : ByteArray), (part 9 #[.string p, .int .i64 k, .int .i64 m, .string t] 3).run Tryz.prog w = .ok (.string t) w := fun p k m t => by kernel_rfl
  unfold Ent.vals eqV
  unfold Op.equalIn
  simp only [Sem.run_bind, run_underlying Tryz.underlying57, Result.andThen_ok, h0, h1, Bool.false_eq_true, if_false, List.forIn_toArray, List.forIn_cons, List.forIn_nil]
  rw [if_pos (by decide)]
  simp only [Sem.run_bind, e0, in_str, Result.andThen_ok]
  cases (p == p2)
  · simp [Sem.run_pure]
  · simp only [Bool.not_true, Bool.false_eq_true, if_false, Sem.run_pure, Result.andThen_ok]
    rw [if_pos (by decide)]
    simp only [Sem.run_bind, e1, in_int, Result.andThen_ok]
    cases (k == k2)
    · simp [Sem.run_pure]
    · simp only [Bool.not_true, Bool.false_eq_true, if_false, Sem.run_pure, Result.andThen_ok]
      rw [if_pos (by decide)]
      simp only [Sem.run_bind, e2, in_int, Result.andThen_ok]
      cases (m == m2)
      · simp [Sem.run_pure]
      · simp only [Bool.not_true, Bool.false_eq_true, if_false, Sem.run_pure, Result.andThen_ok]
        rw [if_pos (by decide)]
        simp only [Sem.run_bind, e3, in_str, Result.andThen_ok]
        cases (t == t2) <;> simp [Sem.run_pure]
theorem ne_ents (x y : Ent) (w : World) : (binOp .neq 57 (.agg x.vals) (.agg y.vals)).run Tryz.prog w = .ok (.bool (!eqV x y)) w := by
  simp only [binOp]
  simp [Op.equal, Op.maxDepth, in_ent 9998]
theorem same_eq {x old : Ent} (hx : entB x = true) (ho : entB old = true) (hp : old.path = x.path) : sameB old x = (old.kind == 1 && eqV x old) := by
  unfold sameB eqV
  cases hk : (old.kind == 1)
  · rfl
  · have hk1 : old.kind = 1 := by simpa using hk
    have hto : old.text.data.toList = [] := by unfold entB at ho; rw [if_pos hk1] at ho; simp only [Bool.and_eq_true] at ho; have := ho.2.2; simpa using this
    rw [hp, hk1]
    cases hkx : (x.kind == 1)
    · simp
    · have hx1 : x.kind = 1 := by simpa using hkx
      have htx : x.text.data.toList = [] := by unfold entB at hx; rw [if_pos hx1] at hx; simp only [Bool.and_eq_true] at hx; have := hx.2.2; simpa using this
      have htt : x.text = old.text := ByteArray.ext (Array.ext' (by rw [htx, hto]))
      have hm : (old.mode == x.mode) = (x.mode == old.mode) := by rw [Bool.eq_iff_iff, beq_iff_eq, beq_iff_eq]; exact ⟨fun h => h.symm, fun h => h.symm⟩
      rw [htt, hm, (beqS_iff _ _).2 rfl, (beqS_iff _ _).2 rfl]
      simp
theorem eqV_eq {x y : Ent} (h : eqV x y = true) : x = y := by
  unfold eqV at h
  simp only [Bool.and_eq_true] at h
  obtain ⟨h1, h2, h3, h4⟩ := h
  have e1 := (beqS_iff _ _).1 h1
  have e4 := (beqS_iff _ _).1 h4
  have e2 := eq_of_beq h2
  have e3 := eq_of_beq h3
  cases x; cases y; dsimp only at e1 e2 e3 e4; subst e1 e2 e3 e4; rfl
theorem put_same {L : List Ent} {x : Ent} (hth : thereE L x.path = true) (he : entFn L (placeE L x.path) = x) : putT L x = L := by
  obtain ⟨old, hold, _⟩ := there_get hth
  rw [entFn_get hold] at he
  subst he
  unfold putT
  rw [hth, if_pos rfl]
  apply List.ext_getElem?
  intro i
  rw [List.getElem?_set]
  split
  · rename_i hi
    subst hi
    rw [if_pos (List.getElem?_eq_some_iff.1 hold).1, hold]
  · rfl
theorem put_new {L : List Ent} {x : Ent} (hth : thereE L x.path = false) : putT L x = insAt L x := by unfold putT; rw [hth]; rfl
def joinL (es fs : List Ent) : List Ent := if okJ es fs then joinTo es fs else []

end Go.Proofs.YtoihhlkidlapmaaGreat

/- Two trees in one: the model's answer. -/
namespace Go.Proofs.YtoihhlkidlapmaaGreat
open Go.RowKit Go.Shelf


end Go.Proofs.YtoihhlkidlapmaaGreat

/- A tree by what is in it: entries that are ok, each path once, each in a dir. -/
namespace Go.Proofs.YtoihhlkidlapmaaGreat
open Go.RowKit Go.Shelf

theorem path_uniq {es : List Ent} (h : Up es) {x y : Ent} (hx : x ∈ es) (hy : y ∈ es) (hp : x.path = y.path) : x = y := by
  have h1 := (there_mem h hx).2
  have h2 := (there_mem h hy).2
  rw [← h1, ← h2, hp]
theorem there_iff {es : List Ent} (h : Up es) (p : ByteArray) : thereE es p = true ↔ ∃ x ∈ es, x.path = p := by
  constructor
  · intro ht
    obtain ⟨x, hx, hp⟩ := there_get ht
    exact ⟨x, List.mem_of_getElem? hx, hp⟩
  · rintro ⟨x, hx, rfl⟩
    exact (there_mem h hx).1
theorem there_not {es : List Ent} (h : Up es) {p : ByteArray} (ht : thereE es p = false) : ∀ x ∈ es, x.path ≠ p := fun x hx hp => by
  rw [(there_iff h p).2 ⟨x, hx, hp⟩] at ht; cases ht
/-- Something may be in a place: it is the top, or a dir that is there. -/
def DirIn (es : List Ent) (q : ByteArray) : Prop := q.toList.isEmpty = true ∨ ∃ x ∈ es, x.path = q ∧ x.kind = 1
theorem dir_iff {es : List Ent} (h : Up es) (q : ByteArray) : dirE es q = true ↔ DirIn es q := by
  unfold dirE DirIn
  constructor
  · intro hd
    rw [Bool.or_eq_true] at hd
    rcases hd with hd | hd
    · exact .inl hd
    · rw [Bool.and_eq_true] at hd
      obtain ⟨x, hx, hp⟩ := there_get hd.1
      rw [entFn_get hx] at hd
      exact .inr ⟨x, List.mem_of_getElem? hx, hp, by simpa using hd.2⟩
  · rintro (hd | ⟨x, hx, rfl, hk⟩)
    · rw [hd]; rfl
    · rw [(there_mem h hx).1, (there_mem h hx).2, hk]; simp
theorem tree_iff (es : List Ent) : treeB es = true ↔ (∀ x ∈ es, entB x = true) ∧ Up es ∧ (∀ x ∈ es, DirIn es (upS x.path)) ∧ es.length ≤ 16 := by
  constructor
  · intro h
    have hu := asc_up (tree_asc h)
    exact ⟨tree_all h, hu, fun x hx => (dir_iff hu _).1 (tree_dir h hx), tree_16 h⟩
  · rintro ⟨h1, hu, h3, h4⟩
    unfold treeB
    simp only [Bool.and_eq_true, List.all_eq_true, List.mem_range, decide_eq_true_eq]
    refine ⟨⟨fun i hi => ?_, fun i hi => ?_⟩, h4⟩
    · have hm : entFn es i ∈ es := List.mem_of_getElem? (ent_get hi)
      unfold sortAt
      rw [h1 _ hm, Bool.true_and, Bool.or_eq_true]
      by_cases h0 : i = 0
      · left; simp [h0]
      · right
        have hi1 : i - 1 < es.length := by omega
        have := List.pairwise_iff_getElem.1 hu (i - 1) i hi1 hi (by omega)
        rw [entFn_get (List.getElem?_eq_getElem hi), entFn_get (List.getElem?_eq_getElem hi1)]
        exact this
    · have hm : entFn es i ∈ es := List.mem_of_getElem? (ent_get hi)
      exact (dir_iff hu _).2 (h3 _ hm)
theorem up_ext : ∀ {xs ys : List Ent}, Up xs → Up ys → (∀ x, x ∈ xs ↔ x ∈ ys) → xs = ys
  | [], [], _, _, _ => rfl
  | [], y :: ys, _, _, h => absurd ((h y).2 (by simp)) (by simp)
  | x :: xs, [], _, _, h => absurd ((h x).1 (by simp)) (by simp)
  | x :: xs, y :: ys, hx, hy, h => by
    have hx' := List.pairwise_cons.1 hx
    have hy' := List.pairwise_cons.1 hy
    have hirr : ∀ a : ByteArray, ltS a a = false := fun a => lt_irr _
    have e : x = y := by
      rcases List.mem_cons.1 ((h x).1 (by simp)) with e | hm
      · exact e
      · rcases List.mem_cons.1 ((h y).2 (by simp)) with e | hm2
        · exact e.symm
        · have a := hy'.1 x hm
          have b := hx'.1 y hm2
          have := lt_trans' a b
          rw [hirr] at this; cases this
    subst e
    have : xs = ys := up_ext hx'.2 hy'.2 (fun z => by
      constructor
      · intro hz
        rcases List.mem_cons.1 ((h z).1 (by simp [hz])) with e | hm
        · subst e; have := hx'.1 z hz; rw [hirr] at this; cases this
        · exact hm
      · intro hz
        rcases List.mem_cons.1 ((h z).2 (by simp [hz])) with e | hm
        · subst e; have := hy'.1 z hz; rw [hirr] at this; cases this
        · exact hm)
    rw [this]
theorem putT_iff {es : List Ent} (h : Up es) (e x : Ent) : x ∈ putT es e ↔ x = e ∨ (x ∈ es ∧ x.path ≠ e.path) := by
  unfold putT
  cases ht : thereE es e.path
  · have hno := there_not h ht
    unfold insAt
    simp only [Bool.false_eq_true, if_false, List.mem_append, List.mem_singleton]
    constructor
    · rintro ((hx | hx) | hx)
      · exact .inr ⟨List.mem_of_mem_take hx, hno x (List.mem_of_mem_take hx)⟩
      · exact .inl hx
      · exact .inr ⟨List.mem_of_mem_drop hx, hno x (List.mem_of_mem_drop hx)⟩
    · rintro (hx | ⟨hx, _⟩)
      · exact .inl (.inr hx)
      · rw [← List.take_append_drop (placeE es e.path) es, List.mem_append] at hx
        rcases hx with hx | hx
        · exact .inl (.inl hx)
        · exact .inr hx
  · obtain ⟨old, ho, hop⟩ := there_get ht
    have hol := (List.getElem?_eq_some_iff.1 ho).1
    simp only [if_true]
    constructor
    · intro hx
      have hu : Up (es.set (placeE es e.path) e) := by
        have := putT_up (e := e) h
        unfold putT at this
        rwa [ht, if_pos rfl] at this
      have he : e ∈ es.set (placeE es e.path) e := List.mem_set hol e
      rcases List.mem_or_eq_of_mem_set hx with hm | rfl
      · by_cases hp : x.path = e.path
        · exact .inl (path_uniq hu hx he hp)
        · exact .inr ⟨hm, hp⟩
      · exact .inl rfl
    · rintro (rfl | ⟨hx, hp⟩)
      · exact List.mem_set hol x
      · obtain ⟨i, hi⟩ := List.getElem?_of_mem hx
        have hne : placeE es e.path ≠ i := by
          rintro rfl
          rw [ho] at hi
          cases hi
          exact hp hop
        refine List.mem_of_getElem? (i := i) ?_
        rw [List.getElem?_set, if_neg hne]; exact hi
theorem tree_up {es : List Ent} (h : treeB es = true) : Up es := asc_up (tree_asc h)

theorem there_mem' {es : List Ent} {x : Ent} (h : treeB es = true) (hx : x ∈ es) : thereE es x.path = true ∧ gotE es x.path = x := by
  have := there_mem (tree_up h) hx
  refine ⟨this.1, ?_⟩
  unfold gotE
  rw [h, this.1]
  exact this.2
end Go.Proofs.YtoihhlkidlapmaaGreat

/- Whether two rows of entries are the same, as the laws ask it. -/
namespace Go.Proofs.YtoihhlkidlapmaaGreat
open Go.RowKit

theorem eqV_self (x : Ent) : eqV x x = true := by unfold eqV; simp [(beqS_iff _ _).2]

end Go.Proofs.YtoihhlkidlapmaaGreat

/- Two trees in one: all of both, either way round. -/
namespace Go.Proofs.YtoihhlkidlapmaaGreat
open Go.RowKit Go.Shelf

/-- Where two rows have one path they have one dir. -/
def Compat (L xs : List Ent) : Prop := ∀ x ∈ xs, ∀ e ∈ L, e.path = x.path → e = x ∧ x.kind = 1
theorem step_iff {L : List Ent} {x : Ent} (hL : Up L) (hb : ∀ e ∈ L, entB e = true) (hx : entB x = true) : stepJ L x = true ↔ ∀ e ∈ L, e.path = x.path → e = x ∧ x.kind = 1 := by
  unfold stepJ
  cases ht : thereE L x.path
  · constructor
    · intro _ e he hp; exact absurd hp (there_not hL ht e he)
    · intro _; rfl
  · obtain ⟨old, ho, hop⟩ := there_get ht
    have hom := List.mem_of_getElem? ho
    rw [entFn_get ho, same_eq hx (hb old hom) hop]
    constructor
    · intro h e he hp
      have he2 : e = old := path_uniq hL he hom (hp.trans hop.symm)
      simp only [Bool.not_true, Bool.false_or, Bool.and_eq_true] at h
      have h2 := eqV_eq h.2
      subst he2
      exact ⟨h2.symm, by rw [h2]; simpa using h.1⟩
    · intro h
      obtain ⟨h1, h2⟩ := h old hom hop
      subst h1
      rw [eqV_self]
      simp [h2]
theorem join_iff : ∀ (xs L : List Ent), Up L → Up xs → (∀ e ∈ L, entB e = true) → (∀ e ∈ xs, entB e = true) →
    (okJ L xs = true ↔ Compat L xs) ∧ (Compat L xs → (∀ x, x ∈ joinTo L xs ↔ x ∈ L ∨ x ∈ xs) ∧ (joinTo L xs).length = L.length + (xs.filter fun x => !thereE L x.path).length)
  | [], L, _, _, _, _ => ⟨⟨(fun _ x hx => by cases hx), (fun _ => rfl)⟩, (fun _ => ⟨(fun x => by simp [joinTo]), (by simp [joinTo])⟩)⟩
  | x :: xs, L, hL, hX, hb, hxb => by
    have hX' := List.pairwise_cons.1 hX
    have hbx := hxb x (by simp)
    have hne : ∀ y ∈ xs, x.path ≠ y.path := fun y hy e => by
      have := hX'.1 y hy
      rw [e, show ltS y.path y.path = false from lt_irr _] at this; cases this
    have hputb : ∀ e ∈ putT L x, entB e = true := fun e he => by
      rcases putT_mem he with h | h
      · exact hb e h
      · rw [h]; exact hbx
    obtain ⟨i1, i2⟩ := join_iff xs (putT L x) (putT_up hL) hX'.2 hputb (fun e he => hxb e (by simp [he]))
    have hs := step_iff hL hb hbx
    have hcc : Compat (putT L x) xs ↔ Compat L xs := by
      constructor
      · intro h y hy e he hp
        exact h y hy e ((putT_iff hL x e).2 (.inr ⟨he, fun e2 => hne y hy (e2.symm.trans hp)⟩)) hp
      · intro h y hy e he hp
        rcases (putT_iff hL x e).1 he with rfl | ⟨he, _⟩
        · exact absurd hp (hne y hy)
        · exact h y hy e he hp
    have hcons : Compat L (x :: xs) ↔ (∀ e ∈ L, e.path = x.path → e = x ∧ x.kind = 1) ∧ Compat L xs := by
      constructor
      · intro h; exact ⟨h x (by simp), fun y hy => h y (by simp [hy])⟩
      · rintro ⟨h1, h2⟩ y hy
        rcases List.mem_cons.1 hy with rfl | hy
        · exact h1
        · exact h2 y hy
    refine ⟨?_, fun hc => ?_⟩
    · rw [okJ, Bool.and_eq_true, hs, i1, hcc, hcons]
    · obtain ⟨c1, c2⟩ := hcons.1 hc
      obtain ⟨j1, j2⟩ := i2 (hcc.2 c2)
      have hmem : ∀ y, y ∈ putT L x ↔ y ∈ L ∨ y = x := fun y => by
        rw [putT_iff hL]
        constructor
        · rintro (h | ⟨h, _⟩)
          · exact .inr h
          · exact .inl h
        · rintro (h | h)
          · by_cases e : y.path = x.path
            · exact .inl (c1 y h e).1
            · exact .inr ⟨h, e⟩
          · exact .inl h
      have hthere : ∀ y ∈ xs, thereE (putT L x) y.path = thereE L y.path := fun y hy => by
        rw [Bool.eq_iff_iff, there_iff (putT_up hL), there_iff hL]
        constructor
        · rintro ⟨e, he, hp⟩
          rcases (hmem e).1 he with h | h
          · exact ⟨e, h, hp⟩
          · subst h; exact absurd hp (hne y hy)
        · rintro ⟨e, he, hp⟩
          exact ⟨e, (hmem e).2 (.inl he), hp⟩
      refine ⟨fun y => ?_, ?_⟩
      · show y ∈ joinTo (putT L x) xs ↔ _
        rw [j1, hmem, List.mem_cons, or_assoc]
      · show (joinTo (putT L x) xs).length = _
        rw [j2]
        have hf : (xs.filter fun y => !thereE (putT L x) y.path) = xs.filter fun y => !thereE L y.path := List.filter_congr (fun y hy => by rw [hthere y hy])
        rw [hf, List.filter_cons]
        unfold putT
        cases ht : thereE L x.path
        · simp only [Bool.false_eq_true, if_false, Bool.not_false, if_true]
          rw [insAt_len]; simp; omega
        · simp
end Go.Proofs.YtoihhlkidlapmaaGreat

/- Data in memory of its own: by the list of its blocks. What is written over other blocks leaves it as it was. -/
namespace Go.Proofs.YtoihhlkidlapmaaGreat
open Go.RowKit

/-- Nothing changes but blocks of a list. -/
structure Only (F : List Nat) (w w' : World) : Prop where
  os : w'.os = w.os
  tape : w'.tape = w.tape
  output : w'.output = w.output
  size : w.heap.size ≤ w'.heap.size
  block : ∀ k, k < w.heap.size → k ∉ F → w'.heap[k]? = w.heap[k]?
theorem Only.refl (F : List Nat) (w : World) : Only F w w := ⟨rfl, rfl, rfl, Nat.le_refl _, fun _ _ _ => rfl⟩
theorem Only.trans {F : List Nat} {a b c : World} (h : Only F a b) (k : Only F b c) : Only F a c :=
  ⟨k.os.trans h.os, k.tape.trans h.tape, k.output.trans h.output, Nat.le_trans h.size k.size, fun i hi hn => (k.block i (Nat.lt_of_lt_of_le hi h.size) hn).trans (h.block i hi hn)⟩
theorem Only.mono {F G : List Nat} {a b : World} (h : Only F a b) (hs : ∀ k ∈ F, k ∈ G) : Only G a b :=
  ⟨h.os, h.tape, h.output, h.size, fun i hi hn => h.block i hi (fun e => hn (hs i e))⟩
theorem Only.setCell {F : List Nat} {a b : World} (h : Only F a b) {p : Addr} (hp : p.block ∈ F) (v : Value) : Only F a (b.setCell p v) :=
  ⟨h.os, h.tape, h.output, by simpa using h.size, fun i hi hn => (Below.heap_setCell _ _ _ _ (fun e => hn (by rw [e]; exact hp))).trans (h.block i hi hn)⟩
/-- Nothing changes but blocks from N on, ahead of M. -/
structure OnlyIn (N M : Nat) (w w' : World) : Prop where
  os : w'.os = w.os
  tape : w'.tape = w.tape
  output : w'.output = w.output
  size : w.heap.size ≤ w'.heap.size
  block : ∀ k, k < w.heap.size → (k < N ∨ M ≤ k) → w'.heap[k]? = w.heap[k]?
theorem Only.inside {F : List Nat} {N M : Nat} {a b : World} (h : Only F a b) (hF : ∀ k ∈ F, N ≤ k ∧ k < M) : OnlyIn N M a b :=
  ⟨h.os, h.tape, h.output, h.size, fun i hi hn => h.block i hi (fun e => by have := hF i e; omega)⟩
theorem OnlyIn.below {w0 w w' : World} {N M : Nat} (h : OnlyIn N M w w') (hb : Below w0.heap.size w0 w) (hN : w0.heap.size ≤ N) : Below w0.heap.size w0 w' :=
  ⟨h.os.trans hb.os, h.tape.trans hb.tape, h.output.trans hb.output, Nat.le_trans hb.size h.size, fun k hk => (h.block k (Nat.lt_of_lt_of_le hk hb.size) (by omega)).trans (hb.block k hk)⟩

/-- A kind of data in memory of its own. -/
structure Kind where
  D : Type
  own : World → Value → D → List Nat → Prop
  frame : ∀ {W W' : World} {v : Value} {d : D} {F : List Nat}, own W v d F → (∀ k ∈ F, W'.heap[k]? = W.heap[k]?) → own W' v d F
  lt : ∀ {W : World} {v : Value} {d : D} {F : List Nat}, own W v d F → ∀ k ∈ F, k < W.heap.size
def Kind.In (K : Kind) (W : World) (v : Value) (d : K.D) (N M : Nat) : Prop := ∃ F, K.own W v d F ∧ ∀ k ∈ F, N ≤ k ∧ k < M
theorem Kind.In.below {K : Kind} {W W' : World} {v : Value} {d : K.D} {N M : Nat} (h : K.In W v d N M) (hb : Below W.heap.size W W') : K.In W' v d N M := by
  obtain ⟨F, h1, h2⟩ := h
  exact ⟨F, K.frame h1 (fun k hk => hb.block k (K.lt h1 k hk)), h2⟩
theorem Kind.In.wide {K : Kind} {W : World} {v : Value} {d : K.D} {N M N2 M2 : Nat} (h : K.In W v d N M) (hN : N2 ≤ N) (hM : M ≤ M2) : K.In W v d N2 M2 := by
  obtain ⟨F, h1, h2⟩ := h
  exact ⟨F, h1, fun k hk => by have := h2 k hk; omega⟩
end Go.Proofs.YtoihhlkidlapmaaGreat

/- Data by its shape: texts, numbers, structs and rows of these, read, in memory of its own, and written over. -/
namespace Go.Proofs.YtoihhlkidlapmaaGreat
open Go.RowKit

/-- What lies in n cells, one behind the other. -/
structure CK where
  D : Type
  n : Nat
  own : World → List Value → D → List Nat → Prop
  at_ : World → List Value → D → Prop
  mark : Nat → D → D
  cnt : D → Nat
  sz : D → Nat
  big : D → Prop
  len : ∀ {W : World} {cs : List Value} {d : D} {F : List Nat}, own W cs d F → cs.length = n
  alen : ∀ {W : World} {cs : List Value} {d : D}, at_ W cs d → cs.length = n
  frame : ∀ {W W' : World} {cs : List Value} {d : D} {F : List Nat}, own W cs d F → (∀ k ∈ F, W'.heap[k]? = W.heap[k]?) → own W' cs d F
  lt : ∀ {W : World} {cs : List Value} {d : D} {F : List Nat}, own W cs d F → ∀ k ∈ F, k < W.heap.size
  nodup : ∀ {W : World} {cs : List Value} {d : D} {F : List Nat}, own W cs d F → F.Nodup
  below : ∀ {W W' : World} {cs : List Value} {d : D}, at_ W cs d → Below W.heap.size W W' → at_ W' cs d
  toAt : ∀ {W : World} {cs : List Value} {d : D} {F : List Nat}, own W cs d F → at_ W cs d

def txtC : CK where
  D := ByteArray
  n := 1
  own := fun _ cs x F => cs = [.string x] ∧ F = []
  at_ := fun _ cs x => cs = [.string x]
  mark := fun q _ => mtext q
  cnt := fun _ => 1
  sz := fun x => x.size
  big := fun x => x.size ≤ maxLen
  len := fun h => by rw [h.1]; rfl
  alen := fun h => by rw [h]; rfl
  frame := fun h _ => h
  lt := fun h k hk => by rw [h.2] at hk; cases hk
  nodup := fun h => by rw [h.2]; exact List.nodup_nil
  below := fun h _ => h
  toAt := fun h => h.1
def intC : CK where
  D := Int
  n := 1
  own := fun _ cs x F => cs = [.int .i64 x] ∧ F = []
  at_ := fun _ cs x => cs = [.int .i64 x]
  mark := fun q _ => (q : Int)
  cnt := fun _ => 1
  sz := fun _ => 0
  big := fun x => -9223372036854775808 ≤ x ∧ x ≤ 9223372036854775807
  len := fun h => by rw [h.1]; rfl
  alen := fun h => by rw [h]; rfl
  frame := fun h _ => h
  lt := fun h k hk => by rw [h.2] at hk; cases hk
  nodup := fun h => by rw [h.2]; exact List.nodup_nil
  below := fun h _ => h
  toAt := fun h => h.1
def pairC (a b : CK) : CK where
  D := a.D × b.D
  n := a.n + b.n
  own := fun W cs d F => ∃ c1 c2 F1 F2, cs = c1 ++ c2 ∧ F = F1 ++ F2 ∧ a.own W c1 d.1 F1 ∧ b.own W c2 d.2 F2 ∧ ∀ k ∈ F1, k ∉ F2
  at_ := fun W cs d => ∃ c1 c2, cs = c1 ++ c2 ∧ a.at_ W c1 d.1 ∧ b.at_ W c2 d.2
  mark := fun q d => (a.mark q d.1, b.mark (q + a.cnt d.1) d.2)
  cnt := fun d => a.cnt d.1 + b.cnt d.2
  sz := fun d => a.sz d.1 + b.sz d.2
  big := fun d => a.big d.1 ∧ b.big d.2
  len := fun h => by obtain ⟨c1, c2, F1, F2, rfl, rfl, h1, h2, _⟩ := h; rw [List.length_append, a.len h1, b.len h2]
  alen := fun h => by obtain ⟨c1, c2, rfl, h1, h2⟩ := h; rw [List.length_append, a.alen h1, b.alen h2]
  frame := fun h hf => by
    obtain ⟨c1, c2, F1, F2, rfl, rfl, h1, h2, hd⟩ := h
    exact ⟨c1, c2, F1, F2, rfl, rfl, a.frame h1 (fun k hk => hf k (List.mem_append.2 (.inl hk))), b.frame h2 (fun k hk => hf k (List.mem_append.2 (.inr hk))), hd⟩
  lt := fun h k hk => by
    obtain ⟨c1, c2, F1, F2, rfl, rfl, h1, h2, hd⟩ := h
    rcases List.mem_append.1 hk with hk | hk
    · exact a.lt h1 k hk
    · exact b.lt h2 k hk
  nodup := fun h => by
    obtain ⟨c1, c2, F1, F2, rfl, rfl, h1, h2, hd⟩ := h
    exact List.nodup_append.2 ⟨a.nodup h1, b.nodup h2, fun x hx y hy e => hd x hx (e ▸ hy)⟩
  below := fun h hb => by obtain ⟨c1, c2, e, h1, h2⟩ := h; exact ⟨c1, c2, e, a.below h1 hb, b.below h2 hb⟩
  toAt := fun h => by obtain ⟨c1, c2, F1, F2, e, _, h1, h2, _⟩ := h; exact ⟨c1, c2, e, a.toAt h1, b.toAt h2⟩
/-- The same by another name. -/
def isoC (K : CK) (T : Type) (f : T → K.D) (g : K.D → T) : CK where
  D := T
  n := K.n
  own := fun W cs t F => K.own W cs (f t) F
  at_ := fun W cs t => K.at_ W cs (f t)
  mark := fun q t => g (K.mark q (f t))
  cnt := fun t => K.cnt (f t)
  sz := fun t => K.sz (f t)
  big := fun t => K.big (f t)
  len := K.len
  alen := K.alen
  frame := K.frame
  lt := K.lt
  nodup := K.nodup
  below := K.below
  toAt := K.toAt

/-- A row that is read. -/
def rowAt (K : CK) (W : World) (v : Value) (ds : List K.D) : Prop := ∃ (a : Option Addr) (cap : Nat), v = .slice a ds.length cap ∧ (a = none → cap = 0) ∧ ds.length ≤ cap ∧
  (ds = [] ∨ ∃ b o, a = some ⟨b, o, none⟩ ∧ b < W.heap.size ∧ ∀ (i : Nat) d, ds[i]? = some d → ∃ cs, K.at_ W cs d ∧ ∀ j c, cs[j]? = some c → W.cell? ⟨b, o + i * K.n + j, none⟩ = some c)
theorem rowAt.below {K : CK} {W W' : World} {v : Value} {ds : List K.D} (h : rowAt K W v ds) (hb : Below W.heap.size W W') : rowAt K W' v ds := by
  obtain ⟨a, cap, hv, hn, hc, h⟩ := h
  refine ⟨a, cap, hv, hn, hc, ?_⟩
  rcases h with h | ⟨b, o, ha, hl, he⟩
  · exact .inl h
  · refine .inr ⟨b, o, ha, Nat.lt_of_lt_of_le hl hb.size, fun i d hi => ?_⟩
    obtain ⟨cs, h1, h2⟩ := he i d hi
    exact ⟨cs, K.below h1 hb, fun j c hj => (hb.cell (p := ⟨b, o + i * K.n + j, none⟩) hl).trans (h2 j c hj)⟩
/-- A row at block g, each of its items with its own blocks. -/
structure RowAll (K : CK) (ty : Nat) (W : World) (g : Nat) (ds : List K.D) (cur : Array Value) (Fs : List (List Nat)) : Prop where
  heap : W.heap[g]? = some (.cells cur ty (0, 0))
  size : ds.length * K.n ≤ cur.size
  len : Fs.length = ds.length
  each : ∀ (i : Nat) d, ds[i]? = some d → ∃ cs Fi, Fs[i]? = some Fi ∧ (∀ (j : Nat) c, cs[j]? = some c → cur[i * K.n + j]? = some c) ∧ K.own W cs d Fi
def rowOwn (K : CK) (ty : Nat) (W : World) (v : Value) (ds : List K.D) (F : List Nat) : Prop := (ds = [] ∧ F = [] ∧ ∃ a c, v = .slice a 0 c ∧ (a = none → c = 0)) ∨
  ∃ g cap cur Fs, v = .slice (some ⟨g, 0, none⟩) ds.length cap ∧ ds.length ≤ cap ∧ F = g :: Fs.flatten ∧ F.Nodup ∧ RowAll K ty W g ds cur Fs
theorem mem_flatS {Fs : List (List Nat)} {i : Nat} {Fi : List Nat} (h : Fs[i]? = some Fi) {k : Nat} (hk : k ∈ Fi) : k ∈ Fs.flatten := List.mem_flatten.2 ⟨Fi, List.mem_of_getElem? h, hk⟩
theorem RowAll.frame {K : CK} {ty : Nat} {W W' : World} {g : Nat} {ds : List K.D} {cur : Array Value} {Fs : List (List Nat)} (h : RowAll K ty W g ds cur Fs) (hf : ∀ k ∈ g :: Fs.flatten, W'.heap[k]? = W.heap[k]?) : RowAll K ty W' g ds cur Fs :=
  ⟨(hf g (by simp)).trans h.heap, h.size, h.len, fun i x hi => by
    obtain ⟨cs, Fi, h1, h2, h3⟩ := h.each i x hi
    exact ⟨cs, Fi, h1, h2, K.frame h3 (fun k hk => hf k (List.mem_cons_of_mem _ (mem_flatS h1 hk)))⟩⟩
theorem RowAll.lt {K : CK} {ty : Nat} {W : World} {g : Nat} {ds : List K.D} {cur : Array Value} {Fs : List (List Nat)} (h : RowAll K ty W g ds cur Fs) : ∀ k ∈ g :: Fs.flatten, k < W.heap.size := by
  intro k hk
  rcases List.mem_cons.1 hk with rfl | hk
  · exact (Array.getElem?_eq_some_iff.1 h.heap).1
  · obtain ⟨Fi, hF, hk⟩ := List.mem_flatten.1 hk
    obtain ⟨i, hi⟩ := List.getElem?_of_mem hF
    have hl : i < ds.length := by rw [← h.len]; exact (List.getElem?_eq_some_iff.1 hi).1
    obtain ⟨cs, Fi', h1, _, h3⟩ := h.each i ds[i] (List.getElem?_eq_getElem hl)
    rw [hi] at h1
    cases h1
    exact K.lt h3 k hk
theorem rowOwn.frame {K : CK} {ty : Nat} {W W' : World} {v : Value} {ds : List K.D} {F : List Nat} (h : rowOwn K ty W v ds F) (hf : ∀ k ∈ F, W'.heap[k]? = W.heap[k]?) : rowOwn K ty W' v ds F := by
  rcases h with h | ⟨g, cap, cur, Fs, hv, hc, rfl, hn, ha⟩
  · exact .inl h
  · exact .inr ⟨g, cap, cur, Fs, hv, hc, rfl, hn, ha.frame hf⟩
theorem rowOwn.lt {K : CK} {ty : Nat} {W : World} {v : Value} {ds : List K.D} {F : List Nat} (h : rowOwn K ty W v ds F) : ∀ k ∈ F, k < W.heap.size := by
  rcases h with ⟨_, rfl, _⟩ | ⟨g, cap, cur, Fs, hv, hc, rfl, hn, ha⟩
  · intro k hk; cases hk
  · exact ha.lt
theorem cell_arrS {W : World} {g T : Nat} {cur : Array Value} {fz : Nat × Nat} (hh : W.heap[g]? = some (.cells cur T fz)) (i : Nat) (v : Value) (hv : cur[i]? = some v) : W.cell? ⟨g, i, none⟩ = some v := by simp [World.cell?, hh, hv]
theorem rowOwn.toAt {K : CK} {ty : Nat} {W : World} {v : Value} {ds : List K.D} {F : List Nat} (h : rowOwn K ty W v ds F) : rowAt K W v ds := by
  rcases h with ⟨rfl, _, a, c, hv, hn⟩ | ⟨g, cap, cur, Fs, hv, hc, rfl, hn, ha⟩
  · exact ⟨a, c, hv, hn, Nat.zero_le _, .inl rfl⟩
  · refine ⟨_, cap, hv, fun e => (by cases e), hc, .inr ⟨g, 0, rfl, (Array.getElem?_eq_some_iff.1 ha.heap).1, fun i x hi => ?_⟩⟩
    obtain ⟨cs, Fi, h1, h2, h3⟩ := ha.each i x hi
    exact ⟨cs, K.toAt h3, fun j c hj => by rw [Nat.zero_add]; exact cell_arrS ha.heap _ _ (h2 j c hj)⟩
theorem rowOwn.nodup {K : CK} {ty : Nat} {W : World} {v : Value} {ds : List K.D} {F : List Nat} (h : rowOwn K ty W v ds F) : F.Nodup := by
  rcases h with ⟨_, rfl, _⟩ | ⟨g, cap, cur, Fs, hv, hc, rfl, hn, ha⟩
  · exact List.nodup_nil
  · exact hn
def markR (K : CK) : Nat → List K.D → List K.D
  | _, [] => []
  | q, d :: ds => K.mark q d :: markR K (q + K.cnt d) ds
def cntR (K : CK) : List K.D → Nat
  | [] => 0
  | d :: ds => K.cnt d + cntR K ds
def szR (K : CK) : List K.D → Nat
  | [] => 0
  | d :: ds => K.sz d + szR K ds
def rowC (K : CK) (ty : Nat) : CK where
  D := List K.D
  n := 1
  own := fun W cs ds F => ∃ v, cs = [v] ∧ rowOwn K ty W v ds F
  at_ := fun W cs ds => ∃ v, cs = [v] ∧ rowAt K W v ds
  mark := markR K
  cnt := cntR K
  sz := fun ds => ds.length + szR K ds
  big := fun ds => ds.length ≤ maxLen ∧ ∀ d ∈ ds, K.big d
  len := fun ⟨_, h, _⟩ => by rw [h]; rfl
  alen := fun ⟨_, h, _⟩ => by rw [h]; rfl
  frame := fun ⟨v, h, h2⟩ hf => ⟨v, h, h2.frame hf⟩
  lt := fun ⟨_, _, h2⟩ => h2.lt
  nodup := fun ⟨_, _, h2⟩ => h2.nodup
  below := fun ⟨v, h, h2⟩ hb => ⟨v, h, h2.below hb⟩
  toAt := fun ⟨v, h, h2⟩ => ⟨v, h, h2.toAt⟩
def aggAt (K : CK) (W : World) (v : Value) (d : K.D) : Prop := ∃ cs : List Value, v = .agg cs.toArray ∧ K.at_ W cs d

end Go.Proofs.YtoihhlkidlapmaaGreat

/- Small laws for what mkshape.py writes. -/
namespace Go.Proofs.YtoihhlkidlapmaaGreat
open Go.RowKit

theorem not_app {k : Nat} {F G : List Nat} (h : k ∉ F) (h2 : k ∉ G) : k ∉ F ++ G := fun e => by
  rcases List.mem_append.1 e with e | e
  · exact h e
  · exact h2 e
theorem three_boxes (w : World) (p r o : Obj) : (((w.alloc p).alloc r).alloc o).heap[w.heap.size]? = some p ∧ (((w.alloc p).alloc r).alloc o).heap[w.heap.size + 1]? = some r ∧ (((w.alloc p).alloc r).alloc o).heap[w.heap.size + 1 + 1]? = some o ∧ w.heap.size + 1 + 1 < (((w.alloc p).alloc r).alloc o).heap.size ∧ Below w.heap.size w (((w.alloc p).alloc r).alloc o) := by
  have s1 : (w.alloc p).heap.size = w.heap.size + 1 := by simp
  have s2 : ((w.alloc p).alloc r).heap.size = w.heap.size + 1 + 1 := by simp
  have b1 := (Below.refl (w.alloc p).heap.size (w.alloc p)).alloc (Nat.le_refl _) r
  have b2 := (Below.refl ((w.alloc p).alloc r).heap.size ((w.alloc p).alloc r)).alloc (Nat.le_refl _) o
  have n0 := World.alloc_heap_new w p
  have n1 := World.alloc_heap_new (w.alloc p) r
  have n2 := World.alloc_heap_new ((w.alloc p).alloc r) o
  rw [s1] at n1
  rw [s2] at n2
  refine ⟨?_, ?_, n2, by simp, (((Below.refl _ w).alloc (Nat.le_refl _) p).alloc (by simp) r).alloc (by simp; omega) o⟩
  · rw [b2.block _ (by omega), b1.block _ (by omega)]; exact n0
  · rw [b2.block _ (by omega)]; exact n1
theorem cell_fz {W : World} {g T : Nat} {cur : Array Value} (hh : W.heap[g]? = some (.cells cur T (0, 0))) (i : Nat) (v : Value) (hv : cur[i]? = some v) : W.cell? ⟨g, i, none⟩ = some v ∧ W.frozen? ⟨g, i, none⟩ = false := ⟨cell_arrS hh i v hv, by simp [World.frozen?, hh]⟩
theorem rowOwn.slice {K : CK} {ty : Nat} {W : World} {v : Value} {ds : List K.D} {F : List Nat} (h : rowOwn K ty W v ds F) : ∃ a c, v = .slice a ds.length c := by
  rcases h with ⟨rfl, _, a, c, hv, _⟩ | ⟨g, cap, cur, Fs, hv, _⟩
  · exact ⟨a, c, hv⟩
  · exact ⟨_, cap, hv⟩
def setsW : World → Nat → Nat → List Value → World
  | w, _, _, [] => w
  | w, g, o, v :: l => setsW (w.setCell ⟨g, o, none⟩ v) g (o + 1) l
theorem setsW_off : ∀ (l : List Value) (w : World) (g o j : Nat), j ≠ g → (setsW w g o l).heap[j]? = w.heap[j]?
  | [], _, _, _, _, _ => rfl
  | _ :: l, _, g, o, j, h => (setsW_off l _ g (o + 1) j h).trans (Below.heap_setCell _ _ _ _ h)
theorem setsW_below : ∀ (l : List Value) (a w : World) (N g o : Nat), Below N a w → N ≤ g → Below N a (setsW w g o l)
  | [], _, _, _, _, _, h, _ => h
  | v :: l, a, _, N, g, o, h, hg => setsW_below l a _ N g (o + 1) (h.setCell hg v) hg
theorem drew_belowS {B : Nat} (w : World) : Below B w w.drew := ⟨rfl, rfl, rfl, Nat.le_refl _, fun _ _ => rfl⟩
theorem two_boxes (w : World) (p r : Obj) : ((w.alloc p).alloc r).heap[w.heap.size]? = some p ∧ ((w.alloc p).alloc r).heap[w.heap.size + 1]? = some r ∧ w.heap.size + 1 < ((w.alloc p).alloc r).heap.size := by
  have s1 : (w.alloc p).heap.size = w.heap.size + 1 := by simp
  have b1 := (Below.refl (w.alloc p).heap.size (w.alloc p)).alloc (Nat.le_refl _) r
  have n0 := World.alloc_heap_new w p
  have n1 := World.alloc_heap_new (w.alloc p) r
  rw [s1] at n1
  refine ⟨?_, n1, by simp⟩
  rw [b1.block _ (by omega)]; exact n0
/-- The cells of an item of a row, while they are set. -/
def ItemAt (W : World) (g ty o : Nat) (cur0 : Array Value) (cs : List Value) : Prop := ∃ cur : Array Value, W.heap[g]? = some (.cells cur ty (0, 0)) ∧ cur.size = cur0.size ∧ o + cs.length ≤ cur.size ∧ (∀ j, j < o ∨ o + cs.length ≤ j → cur[j]? = cur0[j]?) ∧ ∀ (j : Nat) c, cs[j]? = some c → cur[o + j]? = some c
theorem ItemAt.frame {W W' : World} {g ty o : Nat} {cur0 : Array Value} {cs : List Value} (h : ItemAt W g ty o cur0 cs) (e : W'.heap[g]? = W.heap[g]?) : ItemAt W' g ty o cur0 cs := by
  obtain ⟨cur, h1, h2⟩ := h; exact ⟨cur, e.trans h1, h2⟩
theorem ItemAt.lt {W : World} {g ty o : Nat} {cur0 : Array Value} {cs : List Value} (h : ItemAt W g ty o cur0 cs) : g < W.heap.size := by
  obtain ⟨cur, h1, h2⟩ := h; exact (Array.getElem?_eq_some_iff.1 h1).1
theorem ItemAt.cell {W : World} {g ty o : Nat} {cur0 : Array Value} {cs : List Value} (h : ItemAt W g ty o cur0 cs) (j : Nat) (c : Value) (e : cs[j]? = some c) : W.cell? ⟨g, o + j, none⟩ = some c ∧ W.frozen? ⟨g, o + j, none⟩ = false := by
  obtain ⟨cur, h1, h2, h3, h4, h5⟩ := h
  exact ⟨cell_arrS h1 _ _ (h5 j c e), by simp [World.frozen?, h1]⟩
theorem ItemAt.set {W : World} {g ty o : Nat} {cur0 : Array Value} {cs : List Value} (h : ItemAt W g ty o cur0 cs) (j : Nat) (v : Value) (hj : j < cs.length) : ItemAt (W.setCell ⟨g, o + j, none⟩ v) g ty o cur0 (cs.set j v) := by
  obtain ⟨cur, h1, h2, h3, h4, h5⟩ := h
  refine ⟨cur.setIfInBounds (o + j) v, heap_setCell_same W g (o + j) cur ty v h1, by rw [Array.size_setIfInBounds]; exact h2, by rw [Array.size_setIfInBounds, List.length_set]; exact h3, fun i hi => ?_, fun i c hi => ?_⟩
  · rw [List.length_set] at hi
    rw [Array.getElem?_setIfInBounds, if_neg (by omega)]; exact h4 i hi
  · rw [Array.getElem?_setIfInBounds]
    by_cases e : j = i
    · subst e
      rw [if_pos rfl, if_pos (by omega)]
      rw [List.getElem?_set_self hj] at hi
      exact hi
    · rw [if_neg (by omega)]
      rw [List.getElem?_set_ne e] at hi
      exact h5 i c hi
theorem rowOwn.below {K : CK} {ty : Nat} {W W' : World} {v : Value} {ds : List K.D} {F : List Nat} (h : rowOwn K ty W v ds F) (hb : Below W.heap.size W W') : rowOwn K ty W' v ds F := h.frame (fun k hk => hb.block k (h.lt k hk))
theorem rowOwn.only {K : CK} {ty : Nat} {W W' : World} {v : Value} {ds : List K.D} {F G : List Nat} (h : rowOwn K ty W v ds F) (ho : Only G W W') (hd : ∀ k ∈ F, k ∉ G) : rowOwn K ty W' v ds F := h.frame (fun k hk => ho.block k (h.lt k hk) (hd k hk))
theorem ItemAt.below {W W' : World} {g ty o : Nat} {cur0 : Array Value} {cs : List Value} (h : ItemAt W g ty o cur0 cs) (hb : Below W.heap.size W W') : ItemAt W' g ty o cur0 cs := h.frame (hb.block g h.lt)
theorem ItemAt.only {W W' : World} {g ty o : Nat} {cur0 : Array Value} {cs : List Value} {G : List Nat} (h : ItemAt W g ty o cur0 cs) (ho : Only G W W') (hg : g ∉ G) : ItemAt W' g ty o cur0 cs := h.frame (ho.block g h.lt hg)
theorem rowAt.slice {K : CK} {W : World} {v : Value} {ds : List K.D} (h : rowAt K W v ds) : ∃ a c, v = .slice a ds.length c ∧ (a = none → c = 0) := by
  obtain ⟨a, c, hv, hn, _⟩ := h
  exact ⟨a, c, hv, hn⟩
end Go.Proofs.YtoihhlkidlapmaaGreat
