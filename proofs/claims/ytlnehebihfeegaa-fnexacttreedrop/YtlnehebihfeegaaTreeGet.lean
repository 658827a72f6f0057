/- What a tree has at a path, by the program. -/
import Derived.Test.YtlnehebihfeegaaTreeOf
namespace Go.Proofs.Ytlnehebihfeegaa
open Go.RowKit Go.Shelf

theorem kept_asc (es : List Ent) : Asc (pathsOf (keptE es)) ∧ (keptE es).length ≤ 16 := by
  cases h : treeB es
  · rw [keptE_no h]; exact ⟨by simp [pathsOf, Asc], by simp⟩
  · rw [keptE_yes h]
    rw [treeB_eq] at h
    have h1 := asc_take (Nat.le_refl _) h
    rw [List.take_of_length_le (Nat.le_refl _)] at h1
    exact ⟨h1, okI_16 (Nat.le_refl _) h⟩
theorem kept_there (es : List Ent) (p : ByteArray) : thereE (keptE es) p = (treeB es && thereE es p) := by
  cases h : treeB es
  · rw [keptE_no h]; simp [thereE, placeE]
  · rw [keptE_yes h]; simp
theorem tree_ent {es : List Ent} {i : Nat} {e : Ent} (h : treeB es = true) (he : es[i]? = some e) : entB e = true := by
  rw [treeB_eq, List.all_eq_true] at h
  have := h i (List.mem_range.2 (List.getElem?_eq_some_iff.1 he).1)
  unfold okI putB at this
  rw [entFn_get he] at this
  simp only [Bool.and_eq_true] at this
  exact this.2.1
theorem four_cells {W : World} {bt : Nat} {u v x y : Value} {t : TypeId} (h : W.heap[bt]? = some (.cells #[u, v, x, y] t (0, 0))) : (W.cell? ⟨bt, 0, .none⟩ = some u ∧ W.cell? ⟨bt, 1, .none⟩ = some v ∧ W.cell? ⟨bt, 2, .none⟩ = some x ∧ W.cell? ⟨bt, 3, .none⟩ = some y) ∧ (W.frozen? ⟨bt, 0, .none⟩ = false ∧ W.frozen? ⟨bt, 1, .none⟩ = false ∧ W.frozen? ⟨bt, 2, .none⟩ = false ∧ W.frozen? ⟨bt, 3, .none⟩ = false) := by
  refine ⟨⟨?_, ?_, ?_, ?_⟩, ?_, ?_, ?_, ?_⟩ <;> simp [World.cell?, World.frozen?, h]
def noneE : Ent := ⟨⟨#[]⟩, 0, 0, ⟨#[]⟩⟩
def gotE (es : List Ent) (p : ByteArray) : Ent := if treeB es && thereE es p then entFn es (placeE es p) else noneE

set_option maxRecDepth 100000 in
set_option maxHeartbeats 2000000 in
theorem treeGet_any (es : List Ent) (a : Option Addr) (cap : Nat) (p : ByteArray) (w : World) (hs : smallE es) (h : EntsAt w a es) :
    Calls Try.prog 27 #[.slice a es.length cap, .string p] w fun x w' => x = .returned (.tuple #[.agg (gotE es p).vals, .bool (treeB es && thereE es p)]) ∧ Below w.heap.size w w' := by
  obtain ⟨wA, hwA⟩ : ∃ wA, wA = w.alloc (.cells #[.string ⟨#[]⟩, .int .i64 0, .int .i64 0, .string ⟨#[]⟩] 27) := ⟨_, rfl⟩
  have hsz : wA.heap.size = w.heap.size + 1 := by rw [hwA]; simp
  have hBA : Below w.heap.size w wA := by rw [hwA]; exact (Below.refl _ w).alloc (Nat.le_refl _) _
  have hbox : wA.heap[w.heap.size]? = some (.cells #[.string ⟨#[]⟩, .int .i64 0, .int .i64 0, .string ⟨#[]⟩] 27 (0, 0)) := by rw [hwA]; exact World.alloc_heap_new _ _
  have H := hid (treeOf_any es a cap wA hs (h.below (by rw [hwA]; exact (Below.refl _ w).alloc (Nat.le_refl _) _)))
  have HA := hid (And.intro hsz (And.intro hBA hbox))
  have HWA := hid hwA
  clear hs h hwA hsz hBA hbox
  go_enter Try.func27, Try.ntmps27
  go_wp2_with fail
  rw [← unhid HWA]
  refine (unhid H).mono ?_
  rintro x w1 ⟨vp, vn, rfl, ⟨t2, t3⟩, hB⟩
  obtain ⟨ap, cp, rfl⟩ := ownsRow_slice t2
  obtain ⟨an, cn, rfl⟩ := ownsRow_slice t3
  obtain ⟨hsz, hBA, hbox⟩ := unhid HA
  obtain ⟨wt, hwt⟩ : ∃ wt, wt = w1.alloc (.cells #[.slice ap (keptE es).length cp, .slice an (keptE es).length cn] 59) := ⟨_, rfl⟩
  have hB1 : Below w.heap.size w w1 := hBA.trans (hB.mono (by omega))
  have hBt : Below w1.heap.size w1 wt := by rw [hwt]; exact (Below.refl _ w1).alloc (Nat.le_refl _) _
  have hBT : Below w.heap.size w wt := hB1.trans (hBt.mono hB1.size)
  have hT : TreeAt wt wA.heap.size w1.heap.size (keptE es) := ⟨_, _, by rw [hwt]; exact World.alloc_heap_new _ _, ownsRow_kept t2 (fun g e => hBt.block g (t2.lt g e).2), ownsRow_kept t3 (fun g e => hBt.block g (t3.lt g e).2)⟩
  have hw1 : wA.heap.size ≤ w1.heap.size := hB.size
  have hbt : wt.heap[w.heap.size]? = some (.cells #[.string ⟨#[]⟩, .int .i64 0, .int .i64 0, .string ⟨#[]⟩] 27 (0, 0)) := (hBt.block _ (by omega)).trans ((hB.block _ (by omega)).trans hbox)
  have hk := kept_asc es
  have GET := hid (mapGet_any _ _ (keptE es) p wt (by omega) hk.1 hT)
  have HT := hid (And.intro hBT hbt)
  have HWT := hid hwt
  clear hT hbt hBT hBt hB1 hwt hB t2 t3 hbox hBA hk HA HWA H
  have KT := hid (kept_there es p)
  go_wp2_with fail
  rw [← unhid HWT]
  refine (unhid GET).mono ?_
  cases hth : thereE (keptE es) p
  · rw [show getV (keptE es) p = .nilIface by unfold getV; rw [hth]; rfl]
    rintro x w2 ⟨rfl, e2⟩
    subst e2
    have G1 : (treeB es && thereE es p) = false := (unhid KT).symm.trans hth
    have E := hid (show (gotE es p).vals = #[.string ⟨#[]⟩, .int .i64 0, .int .i64 0, .string ⟨#[]⟩] by unfold gotE; rw [G1]; rfl)
    have E2 := hid G1
    obtain ⟨hBT, hbt⟩ := unhid HT
    obtain ⟨⟨d0, d1, d2, d3⟩, f0, f1, f2, f3⟩ := four_cells hbt
    have HB := hid hBT
    clear hBT hbt G1 hth KT HT GET HWT
    go_wp2_with fail
    refine bodyPost_ret (v := .tuple #[.agg #[.string ⟨#[]⟩, .int .i64 0, .int .i64 0, .string ⟨#[]⟩], .bool false]) (by simp [results, Try.results27, go_sem, World.cell?_setCell_same', d0, d1, d2, d3]) rfl ⟨by rw [unhid E, unhid E2], ((((unhid HB).setCell (Nat.le_refl _) _).setCell (Nat.le_refl _) _).setCell (Nat.le_refl _) _).setCell (Nat.le_refl _) _⟩
  · have G1 : (treeB es && thereE es p) = true := (unhid KT).symm.trans hth
    have hb : treeB es = true := by simp only [Bool.and_eq_true] at G1; exact G1.1
    have hthe : thereE es p = true := by simp only [Bool.and_eq_true] at G1; exact G1.2
    obtain ⟨e, he, hep⟩ := there_get hthe
    have hfe := entFn_get he
    rw [show getV (keptE es) p = nodeV e by unfold getV; rw [hth, keptE_yes hb, hfe]; rfl]
    have hg : gotE es p = e := by unfold gotE; rw [G1, hfe]; rfl
    have ENT := hid (entryOf_any e (tree_ent hb he) wt)
    rintro x w2 ⟨rfl, e2⟩
    subst e2
    rw [hep] at ENT
    have E := hid (show (gotE es p).vals = e.vals by rw [hg])
    have E2 := hid G1
    obtain ⟨hBT, hbt⟩ := unhid HT
    obtain ⟨T0, nv, hnv⟩ := nodeV_shape e
    rw [hnv] at ENT
    rw [hnv]
    have HBX := hid hbt
    have HB := hid hBT
    clear hBT hbt G1 hth KT HT GET HWT hb hthe he hep hfe hg
    go_wp2_with fail
    refine (unhid ENT).mono ?_
    rintro x w3 ⟨rfl, hB3⟩
    have hw2 : w.heap.size < w2.heap.size := (Array.getElem?_eq_some_iff.1 (unhid HBX)).1
    obtain ⟨⟨d0, d1, d2, d3⟩, f0, f1, f2, f3⟩ := four_cells ((hB3.block _ hw2).trans (unhid HBX))
    have HB3 := hid ((unhid HB).trans (hB3.mono (Nat.le_of_lt hw2)))
    clear hB3 HB HBX ENT hw2
    unfold Ent.vals
    unfold Ent.vals at E
    go_wp2_with fail
    refine bodyPost_ret (v := .tuple #[.agg #[.string e.path, .int .i64 e.kind, .int .i64 e.mode, .string e.text], .bool true]) (by simp [results, Try.results27, go_sem, World.cell?_setCell_same', d0, d1, d2, d3]) rfl ⟨by rw [unhid E2, show (gotE es p).vals = #[.string e.path, .int .i64 e.kind, .int .i64 e.mode, .string e.text] from unhid E], ((((unhid HB3).setCell (Nat.le_refl _) _).setCell (Nat.le_refl _) _).setCell (Nat.le_refl _) _).setCell (Nat.le_refl _) _⟩
end Go.Proofs.Ytlnehebihfeegaa
