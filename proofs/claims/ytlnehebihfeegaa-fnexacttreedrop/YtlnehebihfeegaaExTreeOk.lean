/- For every tree the program's TreeOk answers as its model does (the walk). -/
import Derived.Test.YtlnehebihfeegaaTreeOf
import Derived.Test.YtlnehebihfeegaaRowKit
import Derived.Test.YtlnehebihfeegaaRowEnts
import Derived.Test.YtlnehebihfeegaaEntTree
import Derived.Test.YtlnehebihfeegaaEntEq
namespace Go.Proofs.Ytlnehebihfeegaa
open Go.ChangeShapes Go.WideShapes Go.ChangeAt Go.RowKit Go.Shelf

set_option maxRecDepth 100000 in
set_option maxHeartbeats 2000000 in
theorem treeOk_any (es : List Ent) (a : Option Addr) (cap : Nat) (w : World) (hs : smallE es) (h : EntsAt w a es) :
    Calls Try.prog 24 #[.slice a es.length cap] w fun x w' => x = .returned (.bool (treeB es)) ∧ Below w.heap.size w w' := by
  have H := hid (treeOf_any es a cap w hs h)
  clear hs h
  go_enter Try.func24, Try.ntmps24
  go_wp2_with (go_at_call 41; refine (unhid H).mono ?_; rintro x w1 ⟨vp, vn, rfl, ⟨t2, t3⟩, hB⟩; obtain ⟨ap, cp, rfl⟩ := ownsRow_slice t2; obtain ⟨an, cn, rfl⟩ := ownsRow_slice t3; clear t2 t3)
  go_ret
  exact ⟨rfl, hB.alloc hB.size _⟩

theorem small_of {es : List Ent} (h : es.length + totE es ≤ 1048576) : smallE es := by
  refine ⟨by omega, fun e he => ?_⟩
  have : e.path.size + e.text.size ≤ totE es := by
    exact totE_mem he
  omega

set_option maxRecDepth 100000 in
set_option maxHeartbeats 2000000 in
theorem walk_FnExactTreeOk (es : List Ent) (a : Option Addr) (cap : Nat) (w : World) (hz : bigE es) (hlen : es.length ≤ maxLen) (h : EntsAt w a es) :
    Calls Try.prog 5 #[.slice a es.length cap] w fun x w' => x = .returned (.bool true) ∧ Below w.heap.size w w' := by
  have SZ := hid (szEntryS_any es a cap 1048576 w hz hlen (by omega) (by omega) h)
  have H := hid h
  have HL := hid hlen
  clear hz h hlen
  go_enter Try.func5, Try.ntmps5
  go_wp2_with fail
  refine (unhid SZ).mono ?_
  rintro x w1 ⟨⟨r, rfl, hr1, hr2⟩, hB⟩
  have HB1 := hid hB
  clear hB SZ
  by_cases h0 : r < 0
  · go_wp2_with fail
    go_ret
    exact ⟨rfl, unhid HB1⟩
  · have HS := hid (small_of (es := es) (by omega))
    have H1 := hid ((unhid H).below (unhid HB1))
    go_wp2_with fail
    refine (toEntryS_any es a cap w1 (unhid HS).1 (unhid H1)).mono ?_
    rintro x w2 ⟨g, rfl, hg, hrow, hB⟩
    have H2 := hid ((unhid H1).below hB)
    have G2 := hid (hrow.at (Nat.le_refl _))
    have HB2 := hid ((unhid HB1).trans (hB.mono (unhid HB1).size))
    clear hB hrow hg H1 HB1
    go_wp2_with fail
    refine (specTreeOk_any es _ _ w2 (unhid HS) (unhid G2)).mono ?_
    rintro x w3 ⟨rfl, hB⟩
    have H3 := hid ((unhid H2).below hB)
    have HB3 := hid ((unhid HB2).trans (hB.mono (unhid HB2).size))
    clear hB H2 HB2 G2
    go_wp2_with fail
    refine (toEntryS_any es a cap w3 (unhid HS).1 (unhid H3)).mono ?_
    rintro x w4 ⟨g4, rfl, hg, hrow, hB⟩
    have H4 := hid ((unhid H3).below hB)
    have G4 := hid (hrow.at (Nat.le_refl _))
    have HB4 := hid ((unhid HB3).trans (hB.mono (unhid HB3).size))
    clear hB hrow hg H3 HB3
    go_wp2_with fail
    refine (treeOk_any es _ _ w4 (unhid HS) (unhid G4)).mono ?_
    rintro x w5 ⟨rfl, hB⟩
    have H5 := hid ((unhid H4).below hB)
    have G5 := hid ((unhid G4).below hB)
    have HB5 := hid ((unhid HB4).trans (hB.mono (unhid HB4).size))
    clear hB H4 HB4 G4
    go_wp2_with fail
    refine (toEntryS_any es a cap w5 (unhid HS).1 (unhid H5)).mono ?_
    rintro x w6 ⟨g6, rfl, hg, hrow, hB⟩
    have G6 := hid (hrow.at (Nat.le_refl _))
    have K6 := hid ((unhid G5).below hB)
    have HB6 := hid ((unhid HB5).trans (hB.mono (unhid HB5).size))
    clear hB hrow hg H5 HB5 G5
    go_wp2_with fail
    refine (eqEntryS_any es es _ _ _ _ w6 (unhid HL) (unhid HL) (unhid K6) (unhid G6)).mono ?_
    rintro x w7 ⟨rfl, hB⟩
    rw [eqEs_self]
    have HB7 := hid ((unhid HB6).trans (hB.mono (unhid HB6).size))
    clear hB
    go_wp2_with fail
    go_ret
    exact ⟨rfl, unhid HB7⟩

set_option maxRecDepth 100000 in
theorem lifted_FnExactTreeOk (os : Os) (started : os.Started) (H : Type) (enc : TypeId × Value → H) :
    ReturnsInHanded {} Try.checked os 5 .any (Rows.fnExactTreeOkSpec.pre6 enc Try.prog Try.f5 Rows.fnExactTreeOkRow.domain false) (Rows.fnExactTreeOkSpec.post enc Try.prog Try.f5 false true false false) := by
  refine returnsInHanded_of_change (C := Try.checked) own started (by kernel_rfl) Try.func5
    (ChangeSpec.witness6 (enc := enc) (C := Try.checked) false ⟨#[], #[.slice none 0 0], []⟩ 8 (by kernel_rfl) (by kernel_rfl) (by kernel_rfl) (by kernel_rfl)) ?_
  intro W base args ds gs before hval0 hW _ _
  have hval : ∀ (j : Nat) t v, Try.f5.params[j]? = some t → args[j]? = some v → Value.okWide Try.prog W .any base t v := hval0
  have hW' := hW
  obtain ⟨p, q, hA0, hV, rfl, hfz, hnd⟩ := hW
  have hA : DataW.TrodAll enc Try.prog W 0 (fun _ => true) true Try.f5.params.toList args.toList ds p := hA0
  rw [Try.params5] at hA hval
  obtain ⟨v0, vs0, d0, ds0, p0, q0, e0, rfl, rfl, h0, r0⟩ := trodAll_cons hA
  obtain ⟨rfl, rfl, rfl⟩ := trodAll_nil r0
  obtain rfl : args = #[v0] := by cases args; simp_all
  obtain ⟨rfl, rfl⟩ := trodVars_none hV
  have hsl := okWide_slice Try.underlying38 (hval 0 38 v0 rfl rfl)
  clear hA0 hval0
  simp only [List.append_nil] at hW'
  have hlt : ∀ x ∈ p0, x.block < W.heap.size := fun x hx => by simpa using hW'.lt x hx
  obtain ⟨es, a, cap, rfl, hbig, hlen, hents⟩ := ents_of hsl h0 hlt
  refine (walk_FnExactTreeOk es a cap W hbig hlen hents).mono fun e W' ⟨he, hb⟩ => ?_
  subst he
  exact ⟨_, rfl, post_below (ds := [d0]) (gs := []) (pa := p0 ++ []) (pv := []) (by simpa using hW') (fun _ _ _ => trodAll_cons_mk (shut_bool Try.underlying4 _) trodAll_mk0)
    (trodAll_cons_mk (Below.trod laidOut (by kernel_rfl) (of_decide_eq_true (by kernel_rfl)) h0 hb hlt) trodAll_mk0) rfl (by simp) hb⟩

theorem fnExactTreeOk_holds : Rows.FnExactTreeOkSaid :=
  OpenClaim.holds_of_wide 5 Try.f5 rfl rfl rfl rfl rfl rfl rfl ⟨rfl, rfl, rfl, rfl, rfl⟩ rfl rfl rfl rfl rfl (by kernel_rfl) Try.func5 (by kernel_rfl)
    (of_decide_eq_true (by kernel_rfl)) (by unfold Func.isWrapper; first | (rw [if_pos (by decide +kernel)]; kernel_rfl) | (rw [if_neg (by decide +kernel)]; exact ⟨rfl, rfl⟩))
    (fun os started H enc _ => lifted_FnExactTreeOk os started H enc)
end Go.Proofs.Ytlnehebihfeegaa
