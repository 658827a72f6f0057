/- What a tree has at a path, by the model. -/
import Derived.Test.YtlnehebihfeegaaTreeGet
import Derived.Test.YtlnehebihfeegaaEntTree
namespace Go.Proofs.Ytlnehebihfeegaa
open Go.RowKit Go.Shelf

set_option maxRecDepth 100000 in
set_option maxHeartbeats 2000000 in
theorem specTreeGet_any (es : List Ent) (a : Option Addr) (cap : Nat) (p : ByteArray) (w : World) (hs : smallE es) (h : EntsAt w a es) :
    Calls Try.prog 26 #[.slice a es.length cap, .string p] w fun x w' => x = .returned (.tuple #[.agg (gotE es p).vals, .bool (treeB es && thereE es p)]) ∧ Below w.heap.size w w' := by
  obtain ⟨wA, hwA⟩ : ∃ wA, wA = w.alloc (.cells #[.string ⟨#[]⟩, .int .i64 0, .int .i64 0, .string ⟨#[]⟩] 27) := ⟨_, rfl⟩
  have hBA : Below w.heap.size w wA := by rw [hwA]; exact (Below.refl _ w).alloc (Nat.le_refl _) _
  have hbox : wA.heap[w.heap.size]? = some (.cells #[.string ⟨#[]⟩, .int .i64 0, .int .i64 0, .string ⟨#[]⟩] 27 (0, 0)) := by rw [hwA]; exact World.alloc_heap_new _ _
  have hE : EntsAt wA a es := h.below (by rw [hwA]; exact (Below.refl _ w).alloc (Nat.le_refl _) _)
  have AT := hid (l2At_any es a cap p wA hs.1 hE)
  have HA := hid (And.intro hBA (And.intro hbox hE))
  have HS := hid hs
  have HWA := hid hwA
  clear hs h hwA hBA hbox hE
  go_enter Try.func26, Try.ntmps26
  go_wp2_with fail
  rw [← unhid HWA]
  refine (unhid AT).mono ?_
  rintro x w1 ⟨rfl, n, e1⟩
  have hB1 : Below wA.heap.size wA w1 := by rw [e1]; exact ⟨rfl, rfl, rfl, Nat.le_refl _, fun _ _ => rfl⟩
  obtain ⟨hBA, hbox, hE⟩ := unhid HA
  have hwl : w.heap.size < wA.heap.size := (Array.getElem?_eq_some_iff.1 hbox).1
  have HE1 := hid (hE.below hB1)
  have HB1 := hid (hBA.trans (hB1.mono (Nat.le_of_lt hwl)))
  have HX1 := hid ((hB1.block _ hwl).trans hbox)
  clear hB1 hBA hbox hE e1 HA AT HWA hwl
  cases htb : treeB es <;> cases hth : thereE es p
  · have E := hid (show (gotE es p).vals = #[.string ⟨#[]⟩, .int .i64 0, .int .i64 0, .string ⟨#[]⟩] by unfold gotE; rw [htb, hth]; rfl)
    go_wp2_with fail
    refine (specTreeOk_any es _ _ w1 (unhid HS) (unhid HE1)).mono ?_
    rintro x w2 ⟨rfl, hB2⟩
    rw [htb]
    have hwl : w.heap.size < w1.heap.size := (Array.getElem?_eq_some_iff.1 (unhid HX1)).1
    obtain ⟨⟨d0, d1, d2, d3⟩, f0, f1, f2, f3⟩ := four_cells ((hB2.block _ hwl).trans (unhid HX1))
    have HB2 := hid ((unhid HB1).trans (hB2.mono (Nat.le_of_lt hwl)))
    have HE2 := hid ((unhid HE1).below hB2)
    clear hB2 HB1 HX1 HE1 hwl
    go_wp2_with fail
    refine bodyPost_ret (v := .tuple #[.agg #[.string ⟨#[]⟩, .int .i64 0, .int .i64 0, .string ⟨#[]⟩], .bool false]) (by simp [results, Try.results26, go_sem, World.cell?_setCell_same', d0, d1, d2, d3]) rfl ⟨by rw [unhid E, htb, hth]; rfl, ((((unhid HB2).setCell (Nat.le_refl _) _).setCell (Nat.le_refl _) _).setCell (Nat.le_refl _) _).setCell (Nat.le_refl _) _⟩
  · have E := hid (show (gotE es p).vals = #[.string ⟨#[]⟩, .int .i64 0, .int .i64 0, .string ⟨#[]⟩] by unfold gotE; rw [htb, hth]; rfl)
    go_wp2_with fail
    refine (specTreeOk_any es _ _ w1 (unhid HS) (unhid HE1)).mono ?_
    rintro x w2 ⟨rfl, hB2⟩
    rw [htb]
    have hwl : w.heap.size < w1.heap.size := (Array.getElem?_eq_some_iff.1 (unhid HX1)).1
    obtain ⟨⟨d0, d1, d2, d3⟩, f0, f1, f2, f3⟩ := four_cells ((hB2.block _ hwl).trans (unhid HX1))
    have HB2 := hid ((unhid HB1).trans (hB2.mono (Nat.le_of_lt hwl)))
    have HE2 := hid ((unhid HE1).below hB2)
    clear hB2 HB1 HX1 HE1 hwl
    go_wp2_with fail
    refine bodyPost_ret (v := .tuple #[.agg #[.string ⟨#[]⟩, .int .i64 0, .int .i64 0, .string ⟨#[]⟩], .bool false]) (by simp [results, Try.results26, go_sem, World.cell?_setCell_same', d0, d1, d2, d3]) rfl ⟨by rw [unhid E, htb, hth]; rfl, ((((unhid HB2).setCell (Nat.le_refl _) _).setCell (Nat.le_refl _) _).setCell (Nat.le_refl _) _).setCell (Nat.le_refl _) _⟩
  · have E := hid (show (gotE es p).vals = #[.string ⟨#[]⟩, .int .i64 0, .int .i64 0, .string ⟨#[]⟩] by unfold gotE; rw [htb, hth]; rfl)
    go_wp2_with fail
    refine (specTreeOk_any es _ _ w1 (unhid HS) (unhid HE1)).mono ?_
    rintro x w2 ⟨rfl, hB2⟩
    rw [htb]
    have hwl : w.heap.size < w1.heap.size := (Array.getElem?_eq_some_iff.1 (unhid HX1)).1
    obtain ⟨⟨d0, d1, d2, d3⟩, f0, f1, f2, f3⟩ := four_cells ((hB2.block _ hwl).trans (unhid HX1))
    have HB2 := hid ((unhid HB1).trans (hB2.mono (Nat.le_of_lt hwl)))
    have HE2 := hid ((unhid HE1).below hB2)
    clear hB2 HB1 HX1 HE1 hwl
    go_wp2_with fail
    refine bodyPost_ret (v := .tuple #[.agg #[.string ⟨#[]⟩, .int .i64 0, .int .i64 0, .string ⟨#[]⟩], .bool false]) (by simp [results, Try.results26, go_sem, World.cell?_setCell_same', d0, d1, d2, d3]) rfl ⟨by rw [unhid E, htb, hth]; rfl, ((((unhid HB2).setCell (Nat.le_refl _) _).setCell (Nat.le_refl _) _).setCell (Nat.le_refl _) _).setCell (Nat.le_refl _) _⟩
  · obtain ⟨e, he, hep⟩ := there_get hth
    have hfe := entFn_get he
    have E := hid (show (gotE es p).vals = #[.string e.path, .int .i64 e.kind, .int .i64 e.mode, .string e.text] by unfold gotE; rw [htb, hth, hfe]; rfl)
    have hpl : placeE es p < es.length := (List.getElem?_eq_some_iff.1 he).1
    have hlen := (unhid HS).1
    go_wp2_with fail
    refine (specTreeOk_any es _ _ w1 (unhid HS) (unhid HE1)).mono ?_
    rintro x w2 ⟨rfl, hB2⟩
    rw [htb]
    have hwl : w.heap.size < w1.heap.size := (Array.getElem?_eq_some_iff.1 (unhid HX1)).1
    obtain ⟨⟨d0, d1, d2, d3⟩, f0, f1, f2, f3⟩ := four_cells ((hB2.block _ hwl).trans (unhid HX1))
    have HB2 := hid ((unhid HB1).trans (hB2.mono (Nat.le_of_lt hwl)))
    have HE2 := hid ((unhid HE1).below hB2)
    clear hB2 HB1 HX1 HE1 hwl
    obtain ⟨b, o, rfl, hbl, hc⟩ := (unhid HE2).get (by intro e; subst e; simp at hpl)
    obtain ⟨c0, c1, c2, c3⟩ := hc _ e he
    have HTH := hid hth
    clear hth
    generalize placeE es p = k at *
    clear hc he hep hfe HE2 HS
    go_wp2_with fail
    refine bodyPost_ret (v := .tuple #[.agg #[.string e.path, .int .i64 e.kind, .int .i64 e.mode, .string e.text], .bool true]) (by simp [results, Try.results26, go_sem, World.cell?_setCell_same', d0, d1, d2, d3]) rfl ⟨by rw [unhid E, htb, unhid HTH]; rfl, ((((unhid HB2).setCell (Nat.le_refl _) _).setCell (Nat.le_refl _) _).setCell (Nat.le_refl _) _).setCell (Nat.le_refl _) _⟩
end Go.Proofs.Ytlnehebihfeegaa
