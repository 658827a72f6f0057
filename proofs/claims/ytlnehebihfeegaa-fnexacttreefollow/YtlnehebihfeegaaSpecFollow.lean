/- Where links of a tree lead, by the model. -/
import Derived.Test.YtlnehebihfeegaaTreeFollow
import Derived.Test.YtlnehebihfeegaaEntTree
namespace Go.Proofs.Ytlnehebihfeegaa
open Go.RowKit Go.Shelf

set_option maxRecDepth 100000 in
set_option maxHeartbeats 4000000 in
theorem l2Follow_any (es : List Ent) (a : Option Addr) (cap : Nat) (hs : es.length ≤ 1048576) : ∀ (n : Nat) (p : ByteArray) (m : Int) (w : World), n ≤ 17 → m = (n : Int) - 1 → EntsAt w a es →
    Calls Try.prog 45 #[.slice a es.length cap, .string p, .int .i64 m] w fun x w' => x = .returned (.tuple #[.agg (folGot (folE es n p)).vals, .bool (folE es n p).isSome]) ∧ Below w.heap.size w w' := by
  intro n
  induction n with
  | zero =>
    intro p m w hn hm h
    obtain ⟨wA, hwA⟩ : ∃ wA, wA = w.alloc (.cells #[.string ⟨#[]⟩, .int .i64 0, .int .i64 0, .string ⟨#[]⟩] 27) := ⟨_, rfl⟩
    have hBA : Below w.heap.size w wA := by rw [hwA]; exact (Below.refl _ w).alloc (Nat.le_refl _) _
    have hbox : wA.heap[w.heap.size]? = some (.cells #[.string ⟨#[]⟩, .int .i64 0, .int .i64 0, .string ⟨#[]⟩] 27 (0, 0)) := by rw [hwA]; exact World.alloc_heap_new _ _
    have hE : EntsAt wA a es := h.below (by rw [hwA]; exact (Below.refl _ w).alloc (Nat.le_refl _) _)
    have AT := hid (l2At_any es a cap p wA hs hE)
    have HA := hid (And.intro hBA hbox)
    have HWA := hid hwA
    have E := hid (show folE es 0 p = none from rfl)
    have hm0 : m < 0 := by omega
    clear h hwA hBA hbox hE hm
    go_enter Try.func45, Try.ntmps45
    go_wp2_with fail
    rw [← unhid HWA]
    refine (unhid AT).mono ?_
    rintro x w1 ⟨rfl, nn, e1⟩
    have hB1 : Below wA.heap.size wA w1 := by rw [e1]; exact ⟨rfl, rfl, rfl, Nat.le_refl _, fun _ _ => rfl⟩
    obtain ⟨hBA, hbox⟩ := unhid HA
    have hwl : w.heap.size < wA.heap.size := (Array.getElem?_eq_some_iff.1 hbox).1
    have HB1 := hid (hBA.trans (hB1.mono (Nat.le_of_lt hwl)))
    obtain ⟨⟨d0, d1, d2, d3⟩, f0, f1, f2, f3⟩ := four_cells ((hB1.block _ hwl).trans hbox)
    clear hB1 hBA hbox e1 HA AT HWA hwl
    cases hth : thereE es p <;>
    · go_wp2_with fail
      refine bodyPost_ret (v := .tuple #[.agg #[.string ⟨#[]⟩, .int .i64 0, .int .i64 0, .string ⟨#[]⟩], .bool false]) (by simp [results, Try.results45, go_sem, World.cell?_setCell_same', d0, d1, d2, d3]) rfl ⟨by rw [unhid E]; rfl, ((((unhid HB1).setCell (Nat.le_refl _) _).setCell (Nat.le_refl _) _).setCell (Nat.le_refl _) _).setCell (Nat.le_refl _) _⟩
  | succ n ih =>
    intro p m w hn hm h
    obtain ⟨wA, hwA⟩ : ∃ wA, wA = w.alloc (.cells #[.string ⟨#[]⟩, .int .i64 0, .int .i64 0, .string ⟨#[]⟩] 27) := ⟨_, rfl⟩
    have hBA : Below w.heap.size w wA := by rw [hwA]; exact (Below.refl _ w).alloc (Nat.le_refl _) _
    have hbox : wA.heap[w.heap.size]? = some (.cells #[.string ⟨#[]⟩, .int .i64 0, .int .i64 0, .string ⟨#[]⟩] 27 (0, 0)) := by rw [hwA]; exact World.alloc_heap_new _ _
    have hE : EntsAt wA a es := h.below (by rw [hwA]; exact (Below.refl _ w).alloc (Nat.le_refl _) _)
    have AT := hid (l2At_any es a cap p wA hs hE)
    have HA := hid (And.intro hBA (And.intro hbox hE))
    have HWA := hid hwA
    have hm0 : ¬ (m < 0) := by omega
    have hm1 : m ≤ 16 := by omega
    have IH := hid (fun p w hE => ih p (m - 1) w (by omega) (by omega) hE)
    clear h hwA hBA hbox hE hm ih
    go_enter Try.func45, Try.ntmps45
    go_wp2_with fail
    rw [← unhid HWA]
    refine (unhid AT).mono ?_
    rintro x w1 ⟨rfl, nn, e1⟩
    have hB1 : Below wA.heap.size wA w1 := by rw [e1]; exact ⟨rfl, rfl, rfl, Nat.le_refl _, fun _ _ => rfl⟩
    obtain ⟨hBA, hbox, hE⟩ := unhid HA
    have hwl : w.heap.size < wA.heap.size := (Array.getElem?_eq_some_iff.1 hbox).1
    have hE1 := hE.below hB1
    have HB1 := hid (hBA.trans (hB1.mono (Nat.le_of_lt hwl)))
    have hX1 := (hB1.block _ hwl).trans hbox
    clear hB1 hBA hbox hE e1 HA AT HWA hwl
    cases hth : thereE es p
    · have E := hid (show folE es (n + 1) p = none from fol_no hth)
      obtain ⟨⟨d0, d1, d2, d3⟩, f0, f1, f2, f3⟩ := four_cells hX1
      clear hX1 hE1
      go_wp2_with fail
      refine bodyPost_ret (v := .tuple #[.agg #[.string ⟨#[]⟩, .int .i64 0, .int .i64 0, .string ⟨#[]⟩], .bool false]) (by simp [results, Try.results45, go_sem, World.cell?_setCell_same', d0, d1, d2, d3]) rfl ⟨by rw [unhid E]; rfl, ((((unhid HB1).setCell (Nat.le_refl _) _).setCell (Nat.le_refl _) _).setCell (Nat.le_refl _) _).setCell (Nat.le_refl _) _⟩
    · obtain ⟨e, he, hep⟩ := there_get hth
      have hpl : placeE es p < es.length := (List.getElem?_eq_some_iff.1 he).1
      have HE1 := hid hE1
      obtain ⟨b, o, rfl, hbl, hc⟩ := hE1.get (by intro e; subst e; simp at hpl)
      obtain ⟨c0, c1, c2, c3⟩ := hc _ e he
      by_cases hk3 : e.kind = 3
      · have E := hid (show folE es (n + 1) p = folE es n e.text from fol_on hth he hk3)
        have hwl : w.heap.size < w1.heap.size := (Array.getElem?_eq_some_iff.1 hX1).1
        have HX1 := hid hX1
        rw [hk3] at c1
        have CALL := hid (unhid IH e.text w1 (unhid HE1))
        generalize folE es n e.text = fr at *
        obtain ⟨ge, gb, hge, hgb⟩ : ∃ ge gb, folGot fr = ge ∧ fr.isSome = gb := ⟨_, _, rfl, rfl⟩
        rw [hge, hgb] at CALL
        unfold Ent.vals at CALL
        generalize placeE es p = k at *
        clear hc he hep hX1 hth hk3 IH
        go_wp2_with fail
        refine (unhid CALL).mono ?_
        rintro x w2 ⟨rfl, hB2⟩
        obtain ⟨⟨d0, d1, d2, d3⟩, f0, f1, f2, f3⟩ := four_cells ((hB2.block _ hwl).trans (unhid HX1))
        have HB2 := hid ((unhid HB1).trans (hB2.mono (Nat.le_of_lt hwl)))
        clear hB2 HX1 HB1 CALL c0 c1 c2 c3 HE1 hbl
        go_wp2_with fail
        refine bodyPost_ret (v := .tuple #[.agg #[.string ge.path, .int .i64 ge.kind, .int .i64 ge.mode, .string ge.text], .bool gb]) (by simp [results, Try.results45, go_sem, World.cell?_setCell_same', d0, d1, d2, d3]) rfl ⟨by rw [unhid E, hge, hgb]; rfl, ((((unhid HB2).setCell (Nat.le_refl _) _).setCell (Nat.le_refl _) _).setCell (Nat.le_refl _) _).setCell (Nat.le_refl _) _⟩
      · have E := hid (show folE es (n + 1) p = some e from fol_end hth he hk3)
        obtain ⟨⟨d0, d1, d2, d3⟩, f0, f1, f2, f3⟩ := four_cells hX1
        generalize placeE es p = k at *
        clear hc he hep hX1 hth IH HE1
        go_wp2_with fail
        refine bodyPost_ret (v := .tuple #[.agg #[.string e.path, .int .i64 e.kind, .int .i64 e.mode, .string e.text], .bool true]) (by simp [results, Try.results45, go_sem, World.cell?_setCell_same', d0, d1, d2, d3]) rfl ⟨by rw [unhid E]; rfl, ((((unhid HB1).setCell (Nat.le_refl _) _).setCell (Nat.le_refl _) _).setCell (Nat.le_refl _) _).setCell (Nat.le_refl _) _⟩

set_option maxRecDepth 100000 in
set_option maxHeartbeats 4000000 in
theorem specTreeFollow_any (es : List Ent) (a : Option Addr) (cap : Nat) (p : ByteArray) (w : World) (hs : smallE es) (h : EntsAt w a es) :
    Calls Try.prog 15 #[.slice a es.length cap, .string p] w fun x w' => x = .returned (.tuple #[.agg (folGot (folE (keptE es) 17 p)).vals, .bool (folE (keptE es) 17 p).isSome]) ∧ Below w.heap.size w w' := by
  obtain ⟨wA, hwA⟩ : ∃ wA, wA = w.alloc (.cells #[.string ⟨#[]⟩, .int .i64 0, .int .i64 0, .string ⟨#[]⟩] 27) := ⟨_, rfl⟩
  have hBA : Below w.heap.size w wA := by rw [hwA]; exact (Below.refl _ w).alloc (Nat.le_refl _) _
  have hbox : wA.heap[w.heap.size]? = some (.cells #[.string ⟨#[]⟩, .int .i64 0, .int .i64 0, .string ⟨#[]⟩] 27 (0, 0)) := by rw [hwA]; exact World.alloc_heap_new _ _
  have hE : EntsAt wA a es := h.below (by rw [hwA]; exact (Below.refl _ w).alloc (Nat.le_refl _) _)
  have OK := hid (specTreeOk_any es a cap wA hs hE)
  have HA := hid (And.intro hBA (And.intro hbox hE))
  have HS := hid hs
  have HWA := hid hwA
  clear hs h hwA hBA hbox hE
  go_enter Try.func15, Try.ntmps15
  go_wp2_with fail
  rw [← unhid HWA]
  refine (unhid OK).mono ?_
  rintro x w1 ⟨rfl, hB1⟩
  obtain ⟨hBA, hbox, hE⟩ := unhid HA
  have hwl : w.heap.size < wA.heap.size := (Array.getElem?_eq_some_iff.1 hbox).1
  have HE1 := hid (hE.below hB1)
  have HB1 := hid (hBA.trans (hB1.mono (Nat.le_of_lt hwl)))
  have hX1 := (hB1.block _ hwl).trans hbox
  have hwl1 : w.heap.size < w1.heap.size := (Array.getElem?_eq_some_iff.1 hX1).1
  clear hB1 hBA hbox hE HA OK HWA hwl
  cases htb : treeB es
  · have E := hid (show folE (keptE es) 17 p = none by rw [keptE_no htb]; exact fol_no (by simp [thereE, placeE]))
    obtain ⟨⟨d0, d1, d2, d3⟩, f0, f1, f2, f3⟩ := four_cells hX1
    clear hX1
    go_wp2_with fail
    refine bodyPost_ret (v := .tuple #[.agg #[.string ⟨#[]⟩, .int .i64 0, .int .i64 0, .string ⟨#[]⟩], .bool false]) (by simp [results, Try.results15, go_sem, World.cell?_setCell_same', d0, d1, d2, d3]) rfl ⟨by rw [unhid E]; rfl, ((((unhid HB1).setCell (Nat.le_refl _) _).setCell (Nat.le_refl _) _).setCell (Nat.le_refl _) _).setCell (Nat.le_refl _) _⟩
  · have E := hid (show folE (keptE es) 17 p = folE es 17 p by rw [keptE_yes htb])
    have CALL := hid (l2Follow_any es a cap (unhid HS).1 17 p 16 w1 (by omega) (by omega) (unhid HE1))
    have HX1 := hid hX1
    generalize folE es 17 p = fr at *
    obtain ⟨ge, gb, hge, hgb⟩ : ∃ ge gb, folGot fr = ge ∧ fr.isSome = gb := ⟨_, _, rfl, rfl⟩
    rw [hge, hgb] at CALL
    unfold Ent.vals at CALL
    clear hX1
    go_wp2_with fail
    refine (unhid CALL).mono ?_
    rintro x w2 ⟨rfl, hB2⟩
    obtain ⟨⟨d0, d1, d2, d3⟩, f0, f1, f2, f3⟩ := four_cells ((hB2.block _ hwl1).trans (unhid HX1))
    have HB2 := hid ((unhid HB1).trans (hB2.mono (Nat.le_of_lt hwl1)))
    clear hB2 HX1 HB1 CALL HE1
    go_wp2_with fail
    refine bodyPost_ret (v := .tuple #[.agg #[.string ge.path, .int .i64 ge.kind, .int .i64 ge.mode, .string ge.text], .bool gb]) (by simp [results, Try.results15, go_sem, World.cell?_setCell_same', d0, d1, d2, d3]) rfl ⟨by rw [unhid E, hge, hgb]; rfl, ((((unhid HB2).setCell (Nat.le_refl _) _).setCell (Nat.le_refl _) _).setCell (Nat.le_refl _) _).setCell (Nat.le_refl _) _⟩
end Go.Proofs.Ytlnehebihfeegaa
