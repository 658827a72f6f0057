/- For every tree and path the program's TreeGet answers as its model does. -/
import Derived.Test.YtlnehebihfeegaaExTreeOk
import Derived.Test.YtlnehebihfeegaaSpecGet
namespace Go.Proofs.Ytlnehebihfeegaa
open Go.ChangeShapes Go.WideShapes Go.ChangeAt Go.RowKit Go.Shelf
open Go.ChangeMaps (open_string shut_string)

set_option maxRecDepth 100000 in
set_option maxHeartbeats 2000000 in
theorem walk_FnExactTreeGet (es : List Ent) (a : Option Addr) (cap : Nat) (p : ByteArray) (w : World) (hz : bigE es) (hlen : es.length ≤ maxLen) (h : EntsAt w a es) :
    Calls Try.prog 6 #[.slice a es.length cap, .string p] w fun x w' => x = .returned (.bool true) ∧ Below w.heap.size w w' := by
  have SZ := hid (szEntryS_any es a cap 1048576 w hz hlen (by omega) (by omega) h)
  obtain ⟨ge, gb, hSP, hIM⟩ : ∃ (ge : Ent) (gb : Bool), (∀ (a : Option Addr) (cap : Nat) (w : World), smallE es → EntsAt w a es → Calls Try.prog 26 #[.slice a es.length cap, .string p] w fun x w' => x = .returned (.tuple #[.agg #[.string ge.path, .int .i64 ge.kind, .int .i64 ge.mode, .string ge.text], .bool gb]) ∧ Below w.heap.size w w') ∧ (∀ (a : Option Addr) (cap : Nat) (w : World), smallE es → EntsAt w a es → Calls Try.prog 27 #[.slice a es.length cap, .string p] w fun x w' => x = .returned (.tuple #[.agg #[.string ge.path, .int .i64 ge.kind, .int .i64 ge.mode, .string ge.text], .bool gb]) ∧ Below w.heap.size w w') :=
    ⟨gotE es p, _, fun a cap w h1 h2 => specTreeGet_any es a cap p w h1 h2, fun a cap w h1 h2 => treeGet_any es a cap p w h1 h2⟩
  have SP := hid hSP
  have IM := hid hIM
  clear hSP hIM
  have H := hid h
  have HL := hid hlen
  clear hz h hlen
  by_cases hpl : (1048576 : Int) < p.size
  · go_enter Try.func6, Try.ntmps6
    go_wp2_with fail
    go_ret
    exact ⟨rfl, Below.refl _ _⟩
  go_enter Try.func6, Try.ntmps6
  go_wp2_with fail
  refine (unhid SZ).mono ?_
  rintro x w1 ⟨⟨r, rfl, hr1, hr2⟩, hB⟩
  have HB1 := hid hB
  clear hB SZ
  by_cases h0 : r < 0
  · go_wp2_with fail
    go_ret
    exact ⟨rfl, unhid HB1⟩
  · have HS := hid (small_of (es := es) (by omega))
    have H1 := hid ((unhid H).below (unhid HB1))
    go_wp2_with fail
    refine (toEntryS_any es a cap w1 (unhid HS).1 (unhid H1)).mono ?_
    rintro x w2 ⟨g, rfl, hg, hrow, hB⟩
    have H2 := hid ((unhid H1).below hB)
    have G2 := hid (hrow.at (Nat.le_refl _))
    have HB2 := hid ((unhid HB1).trans (hB.mono (unhid HB1).size))
    clear hB hrow hg H1 HB1
    go_wp2_with fail
    refine (unhid SP _ _ w2 (unhid HS) (unhid G2)).mono ?_
    rintro x w3 ⟨rfl, hB⟩
    have H3 := hid ((unhid H2).below hB)
    have HB3 := hid ((unhid HB2).trans (hB.mono (unhid HB2).size))
    clear hB H2 HB2 G2
    obtain ⟨w4, hw4⟩ : ∃ w4, w4 = w3.alloc (.cells #[.string ge.path, .int .i64 ge.kind, .int .i64 ge.mode, .string ge.text] 27) := ⟨_, rfl⟩
    have hB4 : Below w3.heap.size w3 w4 := by rw [hw4]; exact (Below.refl _ w3).alloc (Nat.le_refl _) _
    have HX4 := hid (show w4.heap[w3.heap.size]? = some (.cells #[.string ge.path, .int .i64 ge.kind, .int .i64 ge.mode, .string ge.text] 27 (0, 0)) by rw [hw4]; exact World.alloc_heap_new _ _)
    have HW4 := hid hw4
    have H4 := hid ((unhid H3).below hB4)
    have HB4 := hid ((unhid HB3).trans (hB4.mono (unhid HB3).size))
    clear hB4 hw4 H3
    go_wp2_with fail
    rw [← unhid HW4]
    clear HW4
    refine (toEntryS_any es a cap w4 (unhid HS).1 (unhid H4)).mono ?_
    rintro x w5 ⟨g5, rfl, hg, hrow, hB⟩
    have H5 := hid ((unhid H4).below hB)
    have G5 := hid (hrow.at (Nat.le_refl _))
    have HX5 := hid ((hB.block _ (Array.getElem?_eq_some_iff.1 (unhid HX4)).1).trans (unhid HX4))
    have HB5 := hid ((unhid HB4).trans (hB.mono (unhid HB4).size))
    clear hB hrow hg H4 HB4 HX4
    go_wp2_with fail
    refine (unhid IM _ _ w5 (unhid HS) (unhid G5)).mono ?_
    rintro x w6 ⟨rfl, hB⟩
    have H6 := hid ((unhid H5).below hB)
    have G6 := hid ((unhid G5).below hB)
    have HX6 := hid ((hB.block _ (Array.getElem?_eq_some_iff.1 (unhid HX5)).1).trans (unhid HX5))
    have HB6 := hid ((unhid HB5).trans (hB.mono (unhid HB5).size))
    clear hB H5 HB5 G5 HX5
    obtain ⟨w7, hw7⟩ : ∃ w7, w7 = w6.alloc (.cells #[.string ge.path, .int .i64 ge.kind, .int .i64 ge.mode, .string ge.text] 27) := ⟨_, rfl⟩
    have hB7 : Below w6.heap.size w6 w7 := by rw [hw7]; exact (Below.refl _ w6).alloc (Nat.le_refl _) _
    have HY7 := hid (show w7.heap[w6.heap.size]? = some (.cells #[.string ge.path, .int .i64 ge.kind, .int .i64 ge.mode, .string ge.text] 27 (0, 0)) by rw [hw7]; exact World.alloc_heap_new _ _)
    have HX7 := hid ((hB7.block _ (Array.getElem?_eq_some_iff.1 (unhid HX6)).1).trans (unhid HX6))
    have HW7 := hid hw7
    have H7 := hid ((unhid H6).below hB7)
    have G7 := hid ((unhid G6).below hB7)
    have HB7 := hid ((unhid HB6).trans (hB7.mono (unhid HB6).size))
    clear hB7 hw7 H6 G6 HX6
    obtain ⟨⟨d0, d1, d2, d3⟩, -⟩ := four_cells (unhid HX7)
    rw [unhid HW7] at d0 d1 d2 d3
    go_wp2_with fail
    rw [← unhid HW7]
    refine (eqEntry_any ge ge w7).mono ?_
    rintro x w8 ⟨rfl, hB⟩
    rw [eqE_self]
    have H8 := hid ((unhid H7).below hB)
    have G8 := hid ((unhid G7).below hB)
    have HB8 := hid ((unhid HB7).trans (hB.mono (unhid HB7).size))
    clear hB H7 HB7 G7 HX7 HY7 HW7 d0 d1 d2 d3
    go_wp2_with fail
    refine (toEntryS_any es a cap w8 (unhid HS).1 (unhid H8)).mono ?_
    rintro x w9 ⟨g9, rfl, hg, hrow, hB⟩
    have G9 := hid (hrow.at (Nat.le_refl _))
    have K9 := hid ((unhid G8).below hB)
    have HB9 := hid ((unhid HB8).trans (hB.mono (unhid HB8).size))
    clear hB hrow hg H8 HB8 G8
    go_wp2_with fail
    refine (eqEntryS_any es es _ _ _ _ w9 (unhid HL) (unhid HL) (unhid K9) (unhid G9)).mono ?_
    rintro x w10 ⟨rfl, hB⟩
    rw [eqEs_self]
    have HB10 := hid ((unhid HB9).trans (hB.mono (unhid HB9).size))
    clear hB
    go_wp2_with fail
    go_ret
    exact ⟨rfl, unhid HB10⟩

set_option maxRecDepth 100000 in
set_option maxHeartbeats 1000000 in
theorem lifted_FnExactTreeGet (os : Os) (started : os.Started) (H : Type) (enc : TypeId × Value → H) :
    ReturnsInHanded {} Try.checked os 6 .any (Rows.fnExactTreeGetSpec.pre6 enc Try.prog Try.f6 Rows.fnExactTreeGetRow.domain false) (Rows.fnExactTreeGetSpec.post enc Try.prog Try.f6 false true false false) := by
  refine returnsInHanded_of_change (C := Try.checked) own started (by kernel_rfl) Try.func6
    (ChangeSpec.witness6 (enc := enc) (C := Try.checked) false ⟨#[], #[.slice none 0 0, .string ⟨#[]⟩], []⟩ 8 (by kernel_rfl) (by kernel_rfl) (by kernel_rfl) (by kernel_rfl)) ?_
  intro W base args ds gs before hval0 hW _ _
  have hval : ∀ (j : Nat) t v, Try.f6.params[j]? = some t → args[j]? = some v → Value.okWide Try.prog W .any base t v := hval0
  have hW' := hW
  obtain ⟨p, q, hA0, hV, rfl, hfz, hnd⟩ := hW
  have hA : DataW.TrodAll enc Try.prog W 0 (fun _ => true) true Try.f6.params.toList args.toList ds p := hA0
  rw [Try.params6] at hA hval
  obtain ⟨v0, vs0, d0, ds0, p0, q0, e0, rfl, rfl, h0, r0⟩ := trodAll_cons hA
  obtain ⟨v1, vs1, d1, ds1, p1, q1, e1, rfl, rfl, h1, r1⟩ := trodAll_cons r0
  obtain ⟨rfl, rfl, rfl⟩ := trodAll_nil r1
  obtain rfl : args = #[v0, v1] := by cases args; simp_all
  obtain ⟨rfl, rfl⟩ := trodVars_none hV
  have hlt : ∀ x ∈ p0 ++ p1, x.block < W.heap.size := fun x hx => by simpa using hW'.lt x (by simpa using hx)
  have t0 := h0
  have l0 : ∀ x ∈ p0, x.block < W.heap.size := fun x hx => hlt x (by simp [hx])
  have t1 := h1
  have l1 : ∀ x ∈ p1, x.block < W.heap.size := fun x hx => hlt x (by simp [hx])
  obtain ⟨es0, a0, cap0, rfl, hbig0, hlen0, hents0⟩ := ents_of (okWide_slice Try.underlying38 (hval 0 38 v0 rfl rfl)) h0 l0
  obtain ⟨s1, rfl, rfl, rfl, w1⟩ := open_string Try.underlying9 (hval 1 9 v1 rfl rfl) h1
  clear hA0 hval0
  refine (walk_FnExactTreeGet es0 a0 cap0 s1 W hbig0 hlen0 hents0).mono fun e W' ⟨he, hb⟩ => ?_
  subst he
  exact ⟨_, rfl, post_below (gs := []) (pv := []) hW' (fun _ _ _ => trodAll_cons_mk (shut_bool Try.underlying4 _) trodAll_mk0) (trodAll_cons_mk (Below.trod laidOut (by kernel_rfl) (of_decide_eq_true (by kernel_rfl)) t0 hb l0) (trodAll_cons_mk (Below.trod laidOut (by kernel_rfl) (of_decide_eq_true (by kernel_rfl)) t1 hb l1) trodAll_mk0)) rfl (by simp) hb⟩

theorem fnExactTreeGet_holds : Rows.FnExactTreeGetSaid :=
  OpenClaim.holds_of_wide 6 Try.f6 rfl rfl rfl rfl rfl rfl rfl ⟨rfl, rfl, rfl, rfl, rfl⟩ rfl rfl rfl rfl rfl (by kernel_rfl) Try.func6 (by kernel_rfl)
    (of_decide_eq_true (by kernel_rfl)) (by unfold Func.isWrapper; first | (rw [if_pos (by decide +kernel)]; kernel_rfl) | (rw [if_neg (by decide +kernel)]; exact ⟨rfl, rfl⟩))
    (fun os started H enc _ => lifted_FnExactTreeGet os started H enc)
end Go.Proofs.Ytlnehebihfeegaa
