/- For every row of hunks the program's HunksOk answers as its model does. -/
import Derived.Test.YtedimkcnemhhpaaSpecHunks
import Derived.Test.YtedimkcnemhhpaaRowTxts
namespace Go.Proofs.Ytedimkcnemhhpaa
open Go.ChangeShapes Go.WideShapes Go.ChangeAt Go.RowKit Go.Shelf

theorem smallH_of {hs : List Hk} (h : hs.length + totH hs ≤ 1048576) : hs.length ≤ 1048576 ∧ ∀ h ∈ hs, h.lines.length ≤ 1048576 ∧ ∀ x ∈ h.lines, x.size ≤ 1048576 := by
  refine ⟨by omega, fun e he => ?_⟩
  have h1 := totH_mem he
  exact ⟨by omega, fun x hx => by have := totX_mem hx; omega⟩

set_option maxRecDepth 100000 in
set_option maxHeartbeats 2000000 in
theorem walk_FnExactHunksOk (hs : List Hk) (a : Option Addr) (cap : Nat) (w : World) (hz : bigH hs) (hlen : hs.length ≤ maxLen) (h : HksAt w a hs) :
    Calls Try.prog 3 #[.slice a hs.length cap] w fun x w' => x = .returned (.bool true) ∧ Below w.heap.size w w' := by
  have SZ := hid (szHunkS_any hs a cap 1048576 w hz hlen (by omega) (by omega) h)
  have H := hid h
  have HL := hid hlen
  have HZ := hid hz
  have HZ2 := hid (fun h hh => (hz h hh).2)
  clear hz h hlen
  go_enter Try.func3, Try.ntmps3
  go_wp2_with fail
  refine (unhid SZ).mono ?_
  rintro x w1 ⟨⟨r, rfl, hr1, hr2⟩, hB⟩
  have HB1 := hid hB
  clear hB SZ
  by_cases h0 : r < 0
  · go_wp2_with fail
    go_ret
    exact ⟨rfl, unhid HB1⟩
  · have HS := hid (smallH_of (hs := hs) (by omega))
    have HS2 := hid (fun h hh => ((unhid HS).2 h hh).1)
    have H1 := hid ((unhid H).below (unhid HB1))
    go_wp2_with fail
    refine (toHunkS_any hs a cap w1 (unhid HS).1 (unhid HS2) (unhid H1)).mono ?_
    rintro x w2 ⟨g, rfl, hg, hat, hB⟩
    have H2 := hid ((unhid H1).below hB)
    have G2 := hid hat
    have HB2 := hid ((unhid HB1).trans (hB.mono (unhid HB1).size))
    clear hB hat hg H1 HB1
    go_wp2_with fail
    refine (specHunksOk_any hs _ _ w2 (unhid HL) (unhid HZ) (unhid G2)).mono ?_
    rintro x w3 ⟨rfl, hB⟩
    have H3 := hid ((unhid H2).below hB)
    have HB3 := hid ((unhid HB2).trans (hB.mono (unhid HB2).size))
    clear hB H2 HB2 G2
    go_wp2_with fail
    refine (toHunkS_any hs a cap w3 (unhid HS).1 (unhid HS2) (unhid H3)).mono ?_
    rintro x w4 ⟨g4, rfl, hg, hat, hB⟩
    have H4 := hid ((unhid H3).below hB)
    have G4 := hid hat
    have HB4 := hid ((unhid HB3).trans (hB.mono (unhid HB3).size))
    clear hB hat hg H3 HB3
    go_wp2_with fail
    refine (HunksOk_any hs _ _ w4 (unhid HL) (unhid HZ) (unhid G4)).mono ?_
    rintro x w5 ⟨rfl, hB⟩
    have H5 := hid ((unhid H4).below hB)
    have G5 := hid ((unhid G4).below hB)
    have HB5 := hid ((unhid HB4).trans (hB.mono (unhid HB4).size))
    clear hB H4 HB4 G4
    go_wp2_with fail
    refine (toHunkS_any hs a cap w5 (unhid HS).1 (unhid HS2) (unhid H5)).mono ?_
    rintro x w6 ⟨g6, rfl, hg, hat, hB⟩
    have G6 := hid hat
    have K6 := hid ((unhid G5).below hB)
    have HB6 := hid ((unhid HB5).trans (hB.mono (unhid HB5).size))
    clear hB hat hg H5 HB5 G5
    go_wp2_with fail
    refine (eqHunkS_same hs _ _ _ _ w6 (unhid HL) (unhid HZ2) (unhid K6) (unhid G6)).mono ?_
    rintro x w7 ⟨rfl, hB⟩
    have HB7 := hid ((unhid HB6).trans (hB.mono (unhid HB6).size))
    clear hB
    go_wp2_with fail
    go_ret
    exact ⟨rfl, unhid HB7⟩

set_option maxRecDepth 100000 in
set_option maxHeartbeats 1000000 in
theorem lifted_FnExactHunksOk (os : Os) (started : os.Started) (H : Type) (enc : TypeId × Value → H) :
    ReturnsInHanded {} Try.checked os 3 .any (Rows.fnExactHunksOkSpec.pre6 enc Try.prog Try.f3 Rows.fnExactHunksOkRow.domain false) (Rows.fnExactHunksOkSpec.post enc Try.prog Try.f3 false true false false) := by
  refine returnsInHanded_of_change (C := Try.checked) own started (by kernel_rfl) Try.func3
    (ChangeSpec.witness6 (enc := enc) (C := Try.checked) false ⟨#[], #[.slice none 0 0], []⟩ 8 (by kernel_rfl) (by kernel_rfl) (by kernel_rfl) (by kernel_rfl)) ?_
  intro W base args ds gs before hval0 hW _ _
  have hval : ∀ (j : Nat) t v, Try.f3.params[j]? = some t → args[j]? = some v → Value.okWide Try.prog W .any base t v := hval0
  have hW' := hW
  obtain ⟨p, q, hA0, hV, rfl, hfz, hnd⟩ := hW
  have hA : DataW.TrodAll enc Try.prog W 0 (fun _ => true) true Try.f3.params.toList args.toList ds p := hA0
  rw [Try.params3] at hA hval
  obtain ⟨v0, vs0, d0, ds0, p0, q0, e0, rfl, rfl, h0, r0⟩ := trodAll_cons hA
  obtain ⟨rfl, rfl, rfl⟩ := trodAll_nil r0
  obtain rfl : args = #[v0] := by cases args; simp_all
  obtain ⟨rfl, rfl⟩ := trodVars_none hV
  have hlt : ∀ x ∈ p0, x.block < W.heap.size := fun x hx => by simpa using hW'.lt x (by simpa using hx)
  have t0 := h0
  have l0 : ∀ x ∈ p0, x.block < W.heap.size := fun x hx => hlt x (by simp [hx])
  obtain ⟨es0, a0, cap0, rfl, hbig0, hlen0, hents0⟩ := hunks_of (okWide_slice Try.underlying22 (hval 0 22 v0 rfl rfl)) h0 l0
  clear hA0 hval0
  refine (walk_FnExactHunksOk es0 a0 cap0 W hbig0 hlen0 hents0).mono fun e W' ⟨he, hb⟩ => ?_
  subst he
  exact ⟨_, rfl, post_below (gs := []) (pv := []) hW' (fun _ _ _ => trodAll_cons_mk (shut_bool Try.underlying4 _) trodAll_mk0) (trodAll_cons_mk (Below.trod laidOut (by kernel_rfl) (of_decide_eq_true (by kernel_rfl)) t0 hb l0) trodAll_mk0) rfl (by simp) hb⟩

theorem fnExactHunksOk_holds : Rows.FnExactHunksOkSaid :=
  OpenClaim.holds_of_wide 3 Try.f3 rfl rfl rfl rfl rfl rfl rfl ⟨rfl, rfl, rfl, rfl, rfl⟩ rfl rfl rfl rfl rfl (by kernel_rfl) Try.func3 (by kernel_rfl)
    (of_decide_eq_true (by kernel_rfl)) (by unfold Func.isWrapper; first | (rw [if_pos (by decide +kernel)]; kernel_rfl) | (rw [if_neg (by decide +kernel)]; exact ⟨rfl, rfl⟩))
    (fun os started H enc _ => lifted_FnExactHunksOk os started H enc)
end Go.Proofs.Ytedimkcnemhhpaa
