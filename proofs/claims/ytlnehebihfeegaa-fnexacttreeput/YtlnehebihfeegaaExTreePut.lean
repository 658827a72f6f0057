/- For every tree and entry the program puts the entry into the tree as its model does, and what it answers is its own. -/
import Derived.Test.YtlnehebihfeegaaExTreeOk
import Derived.Test.YtlnehebihfeegaaTreePut
import Derived.Test.YtlnehebihfeegaaListLaw
import Derived.Deep.CutRange
namespace Go.Proofs.Ytlnehebihfeegaa
open Go.ChangeShapes Go.WideShapes Go.ChangeAt Go.RowKit Go.Shelf
open Go.ChangeMaps (open_string shut_string)

theorem putR_len (es : List Ent) (e : Ent) : (putR es e).length ≤ 100 := by
  unfold putR
  split
  · rename_i h; have := putL_len es e; have := tree_16 h; omega
  · simp

set_option maxRecDepth 100000 in
set_option maxHeartbeats 4000000 in
theorem walk_FnExactTreePut (es : List Ent) (a : Option Addr) (cap : Nat) (p : ByteArray) (k m : Int) (t : ByteArray) (w : World) (hz : bigE es) (hlen : es.length ≤ maxLen) (h : EntsAt w a es) (hp : p.size ≤ maxLen) (ht : t.size ≤ maxLen) :
    Calls Try.prog 7 #[.slice a es.length cap, .agg #[.string p, .int .i64 k, .int .i64 m, .string t]] w fun x w' => x = .returned (.bool true) ∧ Below w.heap.size w w' := by
  obtain ⟨wA, hwA⟩ : ∃ wA, wA = w.alloc (.cells #[.string p, .int .i64 k, .int .i64 m, .string t] 44) := ⟨_, rfl⟩
  have hBA : Below w.heap.size w wA := by rw [hwA]; exact (Below.refl _ w).alloc (Nat.le_refl _) _
  have hbox : wA.heap[w.heap.size]? = some (.cells #[.string p, .int .i64 k, .int .i64 m, .string t] 44 (0, 0)) := by rw [hwA]; exact World.alloc_heap_new _ _
  have SZ := hid (szEntryS_any es a cap 1048576 wA hz hlen (by omega) (by omega) (h.below hBA))
  have HA := hid (And.intro hBA hbox)
  have HWA := hid hwA
  have H := hid h
  have HL := hid hlen
  clear hz h hlen hBA hbox hwA
  go_enter Try.func7, Try.ntmps7
  go_wp2_with fail
  rw [← unhid HWA]
  refine (unhid SZ).mono ?_
  rintro x w1 ⟨⟨r, rfl, hr1, hr2⟩, hB⟩
  have hlA : w.heap.size < wA.heap.size := (Array.getElem?_eq_some_iff.1 (unhid HA).2).1
  have HB1 := hid (And.intro ((unhid HA).1.trans (hB.mono (Nat.le_of_lt hlA))) ((hB.block _ hlA).trans (unhid HA).2))
  clear hB SZ HA HWA hlA
  by_cases h0 : r < 0
  · go_wp2_with fail
    go_ret
    exact ⟨rfl, (unhid HB1).1⟩
  have HS := hid (small_of (es := es) (by omega))
  obtain ⟨⟨d0, d1, d2, d3⟩, -⟩ := four_cells (unhid HB1).2
  go_wp2_with fail
  refine (szEntry_any ⟨p, k, m, t⟩ r w1 hp ht (by omega) (by omega)).mono ?_
  rintro x w2 ⟨⟨r2, rfl, hr3, hr4⟩, hB⟩
  have hl1 : w.heap.size < w1.heap.size := (Array.getElem?_eq_some_iff.1 (unhid HB1).2).1
  have HB2 := hid (And.intro ((unhid HB1).1.trans (hB.mono (Nat.le_of_lt hl1))) ((hB.block _ hl1).trans (unhid HB1).2))
  clear hB HB1 hl1 d0 d1 d2 d3
  by_cases h02 : r2 < 0
  · go_wp2_with fail
    go_ret
    exact ⟨rfl, (unhid HB2).1⟩
  have hp2 : p.size ≤ 1048576 := by have := hr4.resolve_left h02; dsimp only at this; omega
  have ht2 : t.size ≤ 1048576 := by have := hr4.resolve_left h02; dsimp only at this; omega
  clear hr2 hr4 hp ht
  obtain ⟨rs, rb, hRL, hSP, hIM⟩ : ∃ (rs : List Ent) (rb : Bool), rs.length ≤ 100 ∧ (∀ (g : Nat) (W : World), EntRow W g 27 es.length (entFn es) → Calls Try.prog 30 #[.slice (some ⟨g, 0, none⟩) es.length es.length, .agg #[.string p, .int .i64 k, .int .i64 m, .string t]] W fun x w' => ∃ a c, x = .returned (.tuple #[.slice a rs.length c, .bool rb]) ∧ RowIn w' a W.heap.size w'.heap.size rs ∧ Below W.heap.size W w') ∧
      (∀ (a : Option Addr) (cap : Nat) (W : World), EntsAt W a es → Calls Try.prog 16 #[.slice a es.length cap, .agg #[.string p, .int .i64 k, .int .i64 m, .string t]] W fun x w' => ∃ a c, x = .returned (.tuple #[.slice a rs.length c, .bool rb]) ∧ RowIn w' a W.heap.size w'.heap.size rs ∧ Below W.heap.size W w') :=
    ⟨putR es ⟨p, k, m, t⟩, putOk es ⟨p, k, m, t⟩, putR_len es _, fun g W hg => (specTreePut_any es ⟨p, k, m, t⟩ g 0 es.length W (unhid HS) (Nat.le_refl _) hp2 ht2 hg.ents hg.lt).mono (fun x w' ⟨v, h1, h2, h3⟩ => by
      obtain ⟨a, c, rfl, h4⟩ := rowIn_of_owns h2
      exact ⟨a, c, h1, h4, h3⟩),
     fun a cap W hW => (treePut_any es ⟨p, k, m, t⟩ a cap W (unhid HS) hp2 ht2 hW).mono (fun x w' ⟨v, h1, h2, h3⟩ => by
      obtain ⟨a, c, rfl, h4⟩ := rowIn_of_owns h2
      exact ⟨a, c, h1, h4, h3⟩)⟩
  have SP := hid hSP
  have IM := hid hIM
  clear hSP hIM
  go_upto_region 8 with fail
  go_cut [6, 7] from 26 to 33 (fun s6 s7 wx => ∃ aS c, s6 = .slice aS rs.length c ∧ s7 = .bool rb ∧ Hid (St w wx aS none none wx.heap.size wx.heap.size wx.heap.size rs [] []) ∧ Hid (wx.heap[w.heap.size]? = some (.cells #[.string p, .int .i64 k, .int .i64 m, .string t] 44 (0, 0))))
  case first =>
    have hl2 : w.heap.size < w2.heap.size := (Array.getElem?_eq_some_iff.1 (unhid HB2).2).1
    refine wp_region_held_drew (S := fun w' => Below w2.heap.size w2 w') (by kernel_rfl) (drew_below _) (fun hS => ?_)
    refine wpAnyH_take (i := 0) (v := .slice a es.length cap) rfl (by kernel_rfl) (by kernel_rfl) (by kernel_rfl) (fun _ _ _ h => h) (Or.inl ⟨by rfl, fun w' hw => by go_simp⟩) hS ?_
    refine wpAnyH_take (i := 2) (v := .agg #[.string p, .int .i64 k, .int .i64 m, .string t]) rfl (by kernel_rfl) (by kernel_rfl) (by kernel_rfl) (fun _ _ _ h => h) (Or.inl ⟨by rfl, fun w' hw => by obtain ⟨⟨k0, k1, k2, k3⟩, -⟩ := four_cells ((Below.block hw _ hl2).trans (unhid HB2).2); go_simp⟩) hS ?_
    generalize w2.drew = W at hS ⊢
    refine wpAnyH_ready (rs := [1]) (by kernel_rfl) (by simp) ?_
    refine AllReadyH.cons rfl (fun K hK => ?_) AllReadyH.nil
    go_simp
    refine (toEntryS_any es a cap W (unhid HS).1 ((unhid H).below ((unhid HB2).1.trans (hS.mono (unhid HB2).1.size)))).mono ?_
    rintro x W1 ⟨g, rfl, hg, hrow, hB⟩
    have hS1 := hS.trans (hB.mono hS.size)
    refine hK.out _ _ hS1 (fun _ => ?_)
    clear hK K hS hB hg
    have hS := hS1
    clear hS1
    refine wpAnyH_ready (rs := [3]) (by kernel_rfl) (by simp) ?_
    refine AllReadyH.cons rfl (fun K hK => ?_) AllReadyH.nil
    go_simp
    refine (toEntry_any ⟨p, k, m, t⟩ W1).mono ?_
    rintro x W2 ⟨rfl, hB⟩
    have hrow1 := hrow.below hB hrow.lt
    have hS1 := hS.trans (hB.mono hS.size)
    unfold Ent.vals
    refine hK.out _ _ hS1 (fun _ => ?_)
    clear hK K hS hB
    clear hrow
    have hrow := hrow1
    clear hrow1
    have hS := hS1
    clear hS1
    refine wpAnyH_ready (rs := [4]) (by kernel_rfl) (by simp) ?_
    refine AllReadyH.cons rfl (fun K hK => ?_) AllReadyH.nil
    go_simp
    refine (unhid SP _ _ hrow).mono ?_
    rintro x W3 ⟨aS, c, rfl, hR, hB3⟩
    have hb0 := hS.size
    have hS1 := hS.trans (hB3.mono hS.size)
    have HF := hid (St.setS ((unhid HB2).1.trans (hS.mono (unhid HB2).1.size)) hB3 hR)
    have HX := hid ((hS1.block _ hl2).trans (unhid HB2).2)
    refine hK.out _ _ hS1 (fun _ => ?_)
    clear hK K hS hR hB3 hrow hb0
    have hS := hS1
    clear hS1
    refine wpAnyH_take (i := 5) (v := .tuple #[.slice aS rs.length c, .bool rb]) rfl (by kernel_rfl) (by kernel_rfl) (by kernel_rfl) (fun _ _ _ h => h) (Or.inl ⟨by rfl, fun w' hw => by go_simp⟩) hS ?_
    refine wpAnyH_take (i := 6) (v := .slice aS rs.length c) rfl (by kernel_rfl) (by kernel_rfl) (by kernel_rfl) (fun _ _ _ h => h) (Or.inl ⟨by rfl, fun w' hw => by go_simp⟩) hS ?_
    refine wpAnyH_take (i := 7) (v := .bool rb) rfl (by kernel_rfl) (by kernel_rfl) (by kernel_rfl) (fun _ _ _ h => h) (Or.inl ⟨by rfl, fun w' hw => by go_simp⟩) hS ?_
    refine wpAnyH_take (i := 8) (v := .slice aS rs.length c) rfl (by kernel_rfl) (by kernel_rfl) (by kernel_rfl) (fun _ _ _ h => h) (Or.inl ⟨by rfl, fun w' hw => by go_simp⟩) hS ?_
    refine wpAnyH_take (i := 9) (v := .bool rb) rfl (by kernel_rfl) (by kernel_rfl) (by kernel_rfl) (fun _ _ _ h => h) (Or.inl ⟨by rfl, fun w' hw => by go_simp⟩) hS ?_
    refine wpAnyH_done (by kernel_rfl) ?_ _
    clear hS
    go_wp2_with fail
    go_meet
    case rel => exact ⟨aS, c, rfl, rfl, HF, HX⟩
  case rest =>
    obtain ⟨aS, cS, rfl, rfl, HT0, HX0⟩ := hcut
    have hlc : w.heap.size < wc.heap.size := (Array.getElem?_eq_some_iff.1 (unhid HX0)).1
    clear HB2
    have hlen1 := (unhid HS).1
    go_wp2_with fail
    refine (toEntryS_any es a cap wc hlen1 ((unhid H).below (unhid HT0).b)).mono ?_
    rintro x w3 ⟨gx, rfl, hg, hrow, hB⟩
    have HT1 := hid ((unhid HT0).setX hB (hrow.rowIn hg hrow.lt))
    have HX1 := hid ((hB.block _ (Array.getElem?_eq_some_iff.1 (unhid HX0)).1).trans (unhid HX0))
    clear hB hrow hg HT0 HX0
    obtain ⟨⟨d0, d1, d2, d3⟩, -⟩ := four_cells (unhid HX1)
    go_wp2_with fail
    refine (toEntry_any ⟨p, k, m, t⟩ w3).mono ?_
    rintro x w4 ⟨rfl, hB⟩
    have HT2 := hid ((unhid HT1).below hB)
    have HX2 := hid ((hB.block _ (Array.getElem?_eq_some_iff.1 (unhid HX1)).1).trans (unhid HX1))
    clear hB HT1 HX1 d0 d1 d2 d3
    unfold Ent.vals
    go_wp2_with fail
    refine (unhid IM _ _ w4 (unhid HT2).x.at).mono ?_
    rintro x w5 ⟨aG, cG, rfl, hR, hB⟩
    have HT3 := hid ((unhid HT2).setG hB hR)
    have HX3 := hid ((hB.block _ (Array.getElem?_eq_some_iff.1 (unhid HX2)).1).trans (unhid HX2))
    clear hB hR HT2 HX2
    go_wp2_with fail
    refine (eqEntryS_any rs rs _ _ _ _ w5 (by unfold maxLen; omega) (by unfold maxLen; omega) (unhid HT3).g.at (unhid HT3).s.at).mono ?_
    rintro x w6 ⟨rfl, hB⟩
    rw [eqEs_self]
    have HT4 := hid ((unhid HT3).below hB)
    have HX4 := hid ((hB.block _ (Array.getElem?_eq_some_iff.1 (unhid HX3)).1).trans (unhid HX3))
    clear hB HT3 HX3
    go_wp2_with fail
    refine (toEntryS_any es a cap w6 hlen1 ((unhid H).below (unhid HT4).b)).mono ?_
    rintro x w7 ⟨gf, rfl, hg, hrow, hB⟩
    have HRF := hid (hrow.at (Nat.le_refl _))
    have HT5 := hid ((unhid HT4).below hB)
    have HX5 := hid ((hB.block _ (Array.getElem?_eq_some_iff.1 (unhid HX4)).1).trans (unhid HX4))
    clear hB HT4 HX4
    clear hrow hg
    go_wp2_with fail
    refine (eqEntryS_any es es _ _ _ _ w7 (unhid HL) (unhid HL) (unhid HT5).x.at (unhid HRF)).mono ?_
    rintro x w8 ⟨rfl, hB⟩
    rw [eqEs_self]
    have HT6 := hid ((unhid HT5).below hB)
    have HX6 := hid ((hB.block _ (Array.getElem?_eq_some_iff.1 (unhid HX5)).1).trans (unhid HX5))
    clear hB HT5 HX5
    clear HRF
    go_wp2_with fail
    refine (markEntryS_any es _ _ 1 wc.heap.size w3.heap.size w8 hlen1 (by omega) (by omega) (unhid HT6).x).mono ?_
    rintro x w9 ⟨rfl, hR, hSp⟩
    have HT7 := hid ((unhid HT6).markX hSp hR)
    have HX7 := hid ((hSp.block _ (Array.getElem?_eq_some_iff.1 (unhid HX6)).1 (.inl hlc)).trans (unhid HX6))
    clear hR hSp HT6 HX6
    have hk0 : ¬ ((1 + es.length * 4 : Nat) : Int) < 0 := by omega
    go_wp2_with fail
    refine (eqEntryS_any rs rs _ _ _ _ w9 (by unfold maxLen; omega) (by unfold maxLen; omega) (unhid HT7).g.at (unhid HT7).s.at).mono ?_
    rintro x w10 ⟨rfl, hB⟩
    rw [eqEs_self]
    have HT8 := hid ((unhid HT7).below hB)
    have HX8 := hid ((hB.block _ (Array.getElem?_eq_some_iff.1 (unhid HX7)).1).trans (unhid HX7))
    clear hB HT7 HX7
    go_wp2_with fail
    refine (markEntryS_any rs _ _ 1 w3.heap.size w5.heap.size w10 (by omega) (by omega) (by omega) (unhid HT8).g).mono ?_
    rintro x w11 ⟨rfl, hR, hSp⟩
    have hl3 : wc.heap.size ≤ w3.heap.size := (unhid HT8).m2
    have HT9 := hid ((unhid HT8).markG hSp hR)
    have HX9 := hid ((hSp.block _ (Array.getElem?_eq_some_iff.1 (unhid HX8)).1 (.inl (Nat.lt_of_lt_of_le hlc hl3))).trans (unhid HX8))
    clear hR hSp HT8 HX8
    go_wp2_with fail
    refine (heldEntryS_any rs.length _ _ 1 w11 (by omega) (by omega) (by omega) (unhid HT9).g.at).mono ?_
    rintro x w12 ⟨rfl, hB⟩
    have HT10 := hid ((unhid HT9).below hB)
    have HX10 := hid ((hB.block _ (Array.getElem?_eq_some_iff.1 (unhid HX9)).1).trans (unhid HX9))
    clear hB HT9 HX9
    go_upto_region 27 with fail
    have hl12 : w.heap.size < w12.heap.size := (Array.getElem?_eq_some_iff.1 (unhid HX10)).1
    refine wp_region_held_drew (S := fun w' => Below w12.heap.size w12 w') (by kernel_rfl) (drew_below _) (fun hS => ?_)
    refine wpAnyH_take (i := 0) (v := .slice a es.length cap) rfl (by kernel_rfl) (by kernel_rfl) (by kernel_rfl) (fun _ _ _ h => h) (Or.inl ⟨by rfl, fun w' hw => by go_simp⟩) hS ?_
    refine wpAnyH_take (i := 2) (v := .agg #[.string p, .int .i64 k, .int .i64 m, .string t]) rfl (by kernel_rfl) (by kernel_rfl) (by kernel_rfl) (fun _ _ _ h => h) (Or.inl ⟨by rfl, fun w' hw => by obtain ⟨⟨k0, k1, k2, k3⟩, -⟩ := four_cells ((Below.block hw _ hl12).trans (unhid HX10)); go_simp⟩) hS ?_
    generalize w12.drew = W at hS ⊢
    refine wpAnyH_ready (rs := [1]) (by kernel_rfl) (by simp) ?_
    refine AllReadyH.cons rfl (fun K hK => ?_) AllReadyH.nil
    go_simp
    refine (toEntryS_any es a cap W hlen1 ((unhid H).below ((unhid HT10).b.trans (hS.mono (unhid HT10).b.size)))).mono ?_
    rintro x W1 ⟨g, rfl, hg, hrow, hB⟩
    have hS1 := hS.trans (hB.mono hS.size)
    refine hK.out _ _ hS1 (fun _ => ?_)
    clear hK K hS hB hg
    have hS := hS1
    clear hS1
    refine wpAnyH_ready (rs := [3]) (by kernel_rfl) (by simp) ?_
    refine AllReadyH.cons rfl (fun K hK => ?_) AllReadyH.nil
    go_simp
    refine (toEntry_any ⟨p, k, m, t⟩ W1).mono ?_
    rintro x W2 ⟨rfl, hB⟩
    have hrow1 := hrow.below hB hrow.lt
    have hS1 := hS.trans (hB.mono hS.size)
    unfold Ent.vals
    refine hK.out _ _ hS1 (fun _ => ?_)
    clear hK K hS hB hrow
    have hS := hS1
    clear hS1
    refine wpAnyH_ready (rs := [4]) (by kernel_rfl) (by simp) ?_
    refine AllReadyH.cons rfl (fun K hK => ?_) AllReadyH.nil
    go_simp
    refine (unhid IM _ _ W2 (hrow1.at (Nat.le_refl _))).mono ?_
    rintro x W3 ⟨aH, cH, rfl, hR, hB⟩
    have hS1 := hS.trans (hB.mono hS.size)
    have HT11 := hid ((unhid HT10).below hS1)
    have HRH := hid hR.at
    refine hK.out _ _ hS1 (fun _ => ?_)
    clear hK K hS hB hrow1 hR HT10 HX10
    have hS := hS1
    clear hS1
    refine wpAnyH_take (i := 5) (v := .tuple #[.slice aH rs.length cH, .bool rb]) rfl (by kernel_rfl) (by kernel_rfl) (by kernel_rfl) (fun _ _ _ h => h) (Or.inl ⟨by rfl, fun w' hw => by go_simp⟩) hS ?_
    refine wpAnyH_take (i := 6) (v := .slice aH rs.length cH) rfl (by kernel_rfl) (by kernel_rfl) (by kernel_rfl) (fun _ _ _ h => h) (Or.inl ⟨by rfl, fun w' hw => by go_simp⟩) hS ?_
    refine wpAnyH_take (i := 7) (v := .bool rb) rfl (by kernel_rfl) (by kernel_rfl) (by kernel_rfl) (fun _ _ _ h => h) (Or.inl ⟨by rfl, fun w' hw => by go_simp⟩) hS ?_
    refine wpAnyH_take (i := 8) (v := .slice aH rs.length cH) rfl (by kernel_rfl) (by kernel_rfl) (by kernel_rfl) (fun _ _ _ h => h) (Or.inl ⟨by rfl, fun w' hw => by go_simp⟩) hS ?_
    refine wpAnyH_take (i := 9) (v := .bool rb) rfl (by kernel_rfl) (by kernel_rfl) (by kernel_rfl) (fun _ _ _ h => h) (Or.inl ⟨by rfl, fun w' hw => by go_simp⟩) hS ?_
    refine wpAnyH_done (by kernel_rfl) ?_ _
    clear hS
    go_wp2_with fail
    refine (eqEntryS_any rs rs _ _ _ _ W3 (by unfold maxLen; omega) (by unfold maxLen; omega) (unhid HRH) (unhid HT11).s.at).mono ?_
    rintro x w13 ⟨rfl, hB⟩
    rw [eqEs_self]
    have HT12 := hid ((unhid HT11).below hB)
    clear hB HT11 HRH
    go_wp2_with fail
    refine (heldEntryS_any rs.length _ _ 1 w13 (by omega) (by omega) (by omega) (unhid HT12).g.at).mono ?_
    rintro x w14 ⟨rfl, hB⟩
    have HB := hid ((unhid HT12).below hB).b
    clear hB HT12
    go_wp2_with fail
    go_ret
    exact ⟨rfl, unhid HB⟩
set_option maxRecDepth 100000 in
set_option maxHeartbeats 1000000 in
theorem lifted_FnExactTreePut (os : Os) (started : os.Started) (H : Type) (enc : TypeId × Value → H) :
    ReturnsInHanded {} Try.checked os 7 .any (Rows.fnExactTreePutSpec.pre6 enc Try.prog Try.f7 Rows.fnExactTreePutRow.domain false) (Rows.fnExactTreePutSpec.post enc Try.prog Try.f7 false true false false) := by
  refine returnsInHanded_of_change (C := Try.checked) own started (by kernel_rfl) Try.func7
    (ChangeSpec.witness6 (enc := enc) (C := Try.checked) false ⟨#[], #[.slice none 0 0, .agg #[.string ⟨#[]⟩, .int .i64 0, .int .i64 0, .string ⟨#[]⟩]], []⟩ 8 (by kernel_rfl) (by kernel_rfl) (by kernel_rfl) (by kernel_rfl)) ?_
  intro W base args ds gs before hval0 hW _ _
  have hval : ∀ (j : Nat) t v, Try.f7.params[j]? = some t → args[j]? = some v → Value.okWide Try.prog W .any base t v := hval0
  have hW' := hW
  obtain ⟨p, q, hA0, hV, rfl, hfz, hnd⟩ := hW
  have hA : DataW.TrodAll enc Try.prog W 0 (fun _ => true) true Try.f7.params.toList args.toList ds p := hA0
  rw [Try.params7] at hA hval
  obtain ⟨v0, vs0, d0, ds0, p0, q0, e0, rfl, rfl, h0, r0⟩ := trodAll_cons hA
  obtain ⟨v1, vs1, d1, ds1, p1, q1, e1, rfl, rfl, h1, r1⟩ := trodAll_cons r0
  obtain ⟨rfl, rfl, rfl⟩ := trodAll_nil r1
  obtain rfl : args = #[v0, v1] := by cases args; simp_all
  obtain ⟨rfl, rfl⟩ := trodVars_none hV
  have hlt : ∀ x ∈ p0 ++ p1, x.block < W.heap.size := fun x hx => by simpa using hW'.lt x (by simpa using hx)
  have t0 := h0
  have l0 : ∀ x ∈ p0, x.block < W.heap.size := fun x hx => hlt x (by simp [hx])
  have t1 := h1
  have l1 : ∀ x ∈ p1, x.block < W.heap.size := fun x hx => hlt x (by simp [hx])
  obtain ⟨es0, a0, cap0, rfl, hbig0, hlen0, hents0⟩ := ents_of (okWide_slice Try.underlying38 (hval 0 38 v0 rfl rfl)) h0 l0
  obtain ⟨c10, c11, c12, c13, y10, y11, y12, y13, m1, rfl, rfl, rfl, g10, g11, g12, g13⟩ := Joins.open_agg4 Try.underlying44 (by kernel_rfl) (by kernel_rfl) (hval 1 44 v1 rfl rfl) h1
  obtain ⟨a1, ea1, rfl, wa1⟩ := DataW.trod_string Try.underlying9 g10
  obtain ⟨k1, ek1, rfl, wk1⟩ := DataW.trod_int Try.underlying3 g11
  obtain ⟨f1, ef1, rfl, wf1⟩ := DataW.trod_int Try.underlying3 g12
  obtain ⟨b1, eb1, rfl, wb1⟩ := DataW.trod_string Try.underlying9 g13
  simp only [List.cons.injEq, and_true] at ea1 ek1 ef1 eb1
  subst ea1 ek1 ef1 eb1
  clear hA0 hval0
  refine (walk_FnExactTreePut es0 a0 cap0 a1 k1 f1 b1 W hbig0 hlen0 hents0 wa1 wb1).mono fun e W' ⟨he, hb⟩ => ?_
  subst he
  exact ⟨_, rfl, post_below (gs := []) (pv := []) hW' (fun _ _ _ => trodAll_cons_mk (shut_bool Try.underlying4 _) trodAll_mk0) (trodAll_cons_mk (Below.trod laidOut (by kernel_rfl) (of_decide_eq_true (by kernel_rfl)) t0 hb l0) (trodAll_cons_mk (Below.trod laidOut (by kernel_rfl) (of_decide_eq_true (by kernel_rfl)) t1 hb l1) trodAll_mk0)) rfl (by simp) hb⟩

theorem fnExactTreePut_holds : Rows.FnExactTreePutSaid :=
  OpenClaim.holds_of_wide 7 Try.f7 rfl rfl rfl rfl rfl rfl rfl ⟨rfl, rfl, rfl, rfl, rfl⟩ rfl rfl rfl rfl rfl (by kernel_rfl) Try.func7 (by kernel_rfl)
    (of_decide_eq_true (by kernel_rfl)) (by unfold Func.isWrapper; first | (rw [if_pos (by decide +kernel)]; kernel_rfl) | (rw [if_neg (by decide +kernel)]; exact ⟨rfl, rfl⟩))
    (fun os started H enc _ => lifted_FnExactTreePut os started H enc)
end Go.Proofs.Ytlnehebihfeegaa
