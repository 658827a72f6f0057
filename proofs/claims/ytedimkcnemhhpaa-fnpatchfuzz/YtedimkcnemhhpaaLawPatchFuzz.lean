/- Of every code: drawn lines and hunks: FnPatchFuzz answers true; the code is as it was. No condition. -/
import Derived.Test.YtedimkcnemhhpaaJoin1
import Derived.Test.YtedimkcnemhhpaaJoin8
import Derived.Test.YtedimkcnemhhpaaJoin7
namespace Go.Proofs.Ytedimkcnemhhpaa
open Go.ChangeShapes Go.WideShapes Go.ChangeAt Go.RowKit


set_option maxRecDepth 100000 in
set_option maxHeartbeats 8000000 in
theorem walk_FnPatchFuzz (a : Option Addr) (len cap : Nat) (w : World) (h : Code w w.heap.size a len) (hc : len ≤ cap) :
    Calls Try.prog 9 #[.slice a len cap] w fun e w' => e = .returned (.bool true) ∧ Below w.heap.size w w' := by
  have H := hid h
  clear h
  by_cases hl : (1048576 : Int) < len
  · go_enter Try.func9, Try.ntmps9
    go_wp2
    go_ret
    exact ⟨rfl, Below.refl _ _⟩
  go_enter Try.func9, Try.ntmps9
  go_wp2_with fail
  refine (DrawPatch_any w a len cap (unhid H) (by omega) hc).mono ?_
  rintro e W1 ⟨v, hv, fz, xs, hs, rfl, hD, hf0, hf1⟩
  obtain ⟨la, lc, rfl, ht, hnil, hcap⟩ := hD.v
  obtain ⟨lh, lhc, rfl, hh, hhc⟩ := hD.hv
  have hlx := hD.lx
  have hlh := hD.lh
  have SX := hid hD.sx
  have SH := hid hD.sh
  have CX := hid (And.intro hnil hcap)
  have K1 := hid (show Kp w w.heap.size W1 [(la, xs)] [(lh, hs)] [] from ⟨hD.low, hD.low.size, fun x hx => by rw [List.mem_singleton.1 hx]; exact ht, fun x hx => by rw [List.mem_singleton.1 hx]; exact hh, fun x hx => by cases hx⟩)
  clear hD ht hnil hcap hh H
  go_wp2_with fail
  refine (Patch_any xs hs (0) la lh lc lhc _ (smallX_len (unhid SX)) (smallX_big (unhid SX)) (unhid CX).2 (unhid CX).1 (Nat.le_trans (unhid SH).1 (by simp [maxLen])) (smallK_big (unhid SH)) ((unhid K1).txts (by simp)) ((unhid K1).hks (by simp))).mono ?_
  rintro e W2 ho
  obtain ⟨ax, cx, ix, jx, rfl, hn, h1, h2, hk⟩ := patch_kp (unhid K1) ho
  have Cx := hid (And.intro hn h1)
  have Dx := hid h2
  have K2 := hid hk
  clear ho hn h1 h2 hk K1
  go_wp2_with fail
  refine (specPatch_any xs hs (0) la lh lc lhc _ (smallX_len (unhid SX)) (smallX_big (unhid SX)) (unhid CX).1 (Nat.le_trans (unhid SH).1 (by simp [maxLen])) (smallK_big (unhid SH)) ((unhid K2).txts (by simp)) ((unhid K2).hks (by simp))).mono ?_
  rintro e W3 ho
  obtain ⟨ay, cy, iy, jy, rfl, hn, h1, h2, hk⟩ := patch_kp (unhid K2) ho
  have Cy := hid (And.intro hn h1)
  have Dy := hid h2
  have K3 := hid hk
  clear ho hn h1 h2 hk K2
  have SP := hid (patch_small xs hs (0) (unhid SX) (unhid SH))
  have F1 := hid (fun h => patch_fuzz (ls := xs) (hs := hs) 1 (by omega) (by omega) h)
  have F2 := hid (fun h => patch_fuzz (ls := xs) (hs := hs) 2 (by omega) (by omega) h)
  generalize hg0 : patch_0 xs hs (0) = x0 at *
  generalize hg1 : patch_1 xs hs (0) = x1 at *
  generalize hg2 : patch_2 xs hs (0) = x2 at *
  have S0 := hid (unhid SP).1
  have S1 := hid (show x1.length ≤ 1048576 from (unhid SP).2)
  clear hg0 hg1 hg2 SP
  cases x2
  · skip
    go_wp2_with fail
    refine (jsTexts_same x0 ax ay cx cy _ (smallX_len (unhid S0)) ((unhid K3).txts (by simp)) ((unhid K3).txts (by simp))).mono ?_
    rintro e W4 ⟨rfl, hb⟩
    have K4 := hid ((unhid K3).step hb)
    clear hb K3
    go_wp2_with fail
    refine (jsInts_same x1 ix iy jx jy _ (Nat.le_trans (unhid S1) (by simp [maxLen])) ((unhid K4).ints (by simp)) ((unhid K4).ints (by simp))).mono ?_
    rintro e W5 ⟨rfl, hb⟩
    have K5 := hid ((unhid K4).step hb)
    clear hb K4
    go_wp2_with fail
    refine (jsTexts_same x0 ax ay cx cy _ (smallX_len (unhid S0)) ((unhid K5).txts (by simp)) ((unhid K5).txts (by simp))).mono ?_
    rintro e W6 ⟨rfl, hb⟩
    have K6 := hid ((unhid K5).step hb)
    clear hb K5
    go_wp2_with fail
    refine (jsInts_same x1 ix iy jx jy _ (Nat.le_trans (unhid S1) (by simp [maxLen])) ((unhid K6).ints (by simp)) ((unhid K6).ints (by simp))).mono ?_
    rintro e W7 ⟨rfl, hb⟩
    have K7 := hid ((unhid K6).step hb)
    clear hb K6
    go_wp2_with fail
    go_ret
    exact ⟨rfl, (unhid K7).1⟩
  go_wp2_with fail
  refine (jsTexts_same x0 ax ay cx cy _ (smallX_len (unhid S0)) ((unhid K3).txts (by simp)) ((unhid K3).txts (by simp))).mono ?_
  rintro e W4 ⟨rfl, hb⟩
  have K4 := hid ((unhid K3).step hb)
  clear hb K3
  go_wp2_with fail
  refine (jsInts_same x1 ix iy jx jy _ (Nat.le_trans (unhid S1) (by simp [maxLen])) ((unhid K4).ints (by simp)) ((unhid K4).ints (by simp))).mono ?_
  rintro e W5 ⟨rfl, hb⟩
  have K5 := hid ((unhid K4).step hb)
  clear hb K4
  go_wp2_with fail
  refine (Patch_any xs hs (1) la lh lc lhc _ (smallX_len (unhid SX)) (smallX_big (unhid SX)) (unhid CX).2 (unhid CX).1 (Nat.le_trans (unhid SH).1 (by simp [maxLen])) (smallK_big (unhid SH)) ((unhid K5).txts (by simp)) ((unhid K5).hks (by simp))).mono ?_
  rintro e W6 ho
  obtain ⟨au, cu, iu, ju, rfl, hn, h1, h2, hk⟩ := patch_kp (unhid K5) ho
  have Cu := hid (And.intro hn h1)
  have Du := hid h2
  have K6 := hid hk
  clear ho hn h1 h2 hk K5
  go_wp2_with fail
  refine (Patch_any xs hs (2) la lh lc lhc _ (smallX_len (unhid SX)) (smallX_big (unhid SX)) (unhid CX).2 (unhid CX).1 (Nat.le_trans (unhid SH).1 (by simp [maxLen])) (smallK_big (unhid SH)) ((unhid K6).txts (by simp)) ((unhid K6).hks (by simp))).mono ?_
  rintro e W7 ho
  obtain ⟨az, cz, iz, jz, rfl, hn, h1, h2, hk⟩ := patch_kp (unhid K6) ho
  have Cz := hid (And.intro hn h1)
  have Dz := hid h2
  have K7 := hid hk
  clear ho hn h1 h2 hk K6
  generalize patch_0 xs hs 1 = y0 at *
  generalize patch_1 xs hs 1 = y1 at *
  generalize patch_2 xs hs 1 = y2 at *
  obtain ⟨rfl, rfl, rfl⟩ := unhid F1 (by simp)
  clear F1
  generalize patch_0 xs hs 2 = y0 at *
  generalize patch_1 xs hs 2 = y1 at *
  generalize patch_2 xs hs 2 = y2 at *
  obtain ⟨rfl, rfl, rfl⟩ := unhid F2 (by simp)
  clear F2
  go_wp2_with fail
  refine (jsTexts_same y0 au ax cu cx _ (smallX_len (unhid S0)) ((unhid K7).txts (by simp)) ((unhid K7).txts (by simp))).mono ?_
  rintro e W8 ⟨rfl, hb⟩
  have K8 := hid ((unhid K7).step hb)
  clear hb K7
  go_wp2_with fail
  refine (jsTexts_same y0 az ax cz cx _ (smallX_len (unhid S0)) ((unhid K8).txts (by simp)) ((unhid K8).txts (by simp))).mono ?_
  rintro e W9 ⟨rfl, hb⟩
  have K9 := hid ((unhid K8).step hb)
  clear hb K8
  go_wp2_with fail
  refine (jsInts_same y1 iu ix ju jx _ (Nat.le_trans (unhid S1) (by simp [maxLen])) ((unhid K9).ints (by simp)) ((unhid K9).ints (by simp))).mono ?_
  rintro e W10 ⟨rfl, hb⟩
  have K10 := hid ((unhid K9).step hb)
  clear hb K9
  go_wp2_with fail
  refine (jsInts_same y1 iz ix jz jx _ (Nat.le_trans (unhid S1) (by simp [maxLen])) ((unhid K10).ints (by simp)) ((unhid K10).ints (by simp))).mono ?_
  rintro e W11 ⟨rfl, hb⟩
  have K11 := hid ((unhid K10).step hb)
  clear hb K10
  go_wp2_with fail
  go_ret
  exact ⟨rfl, (unhid K11).1⟩

set_option maxRecDepth 100000 in
set_option maxHeartbeats 1000000 in
theorem lifted_FnPatchFuzz (os : Os) (started : os.Started) (H : Type) (enc : TypeId × Value → H) :
    ReturnsInHanded {} Try.checked os 9 .any (Rows.fnPatchFuzzSpec.pre6 enc Try.prog Try.f9 Rows.fnPatchFuzzRow.domain false) (Rows.fnPatchFuzzSpec.post enc Try.prog Try.f9 false true false false) := by
  refine returnsInHanded_of_change (C := Try.checked) own started (by kernel_rfl) Try.func9
    (ChangeSpec.witness6 (enc := enc) (C := Try.checked) false ⟨#[], #[.slice none 0 0], []⟩ 8 (by kernel_rfl) (by kernel_rfl) (by kernel_rfl) (by kernel_rfl)) ?_
  intro W base args ds gs before hval0 hW _ _
  have hval : ∀ (j : Nat) t v, Try.f9.params[j]? = some t → args[j]? = some v → Value.okWide Try.prog W .any base t v := hval0
  have hW' := hW
  obtain ⟨p, q, hA0, hV, rfl, hfz, hnd⟩ := hW
  have hA : DataW.TrodAll enc Try.prog W 0 (fun _ => true) true Try.f9.params.toList args.toList ds p := hA0
  rw [Try.params9] at hA hval
  obtain ⟨v0, vs0, d0, ds0, p0, q0, e0, rfl, rfl, h0, r0⟩ := trodAll_cons hA
  obtain ⟨rfl, rfl, rfl⟩ := trodAll_nil r0
  obtain rfl : args = #[v0] := by cases args; simp_all
  obtain ⟨rfl, rfl⟩ := trodVars_none hV
  have hlt : ∀ x ∈ p0, x.block < W.heap.size := fun x hx => by simpa using hW'.lt x (by simpa using hx)
  have t0 := h0
  have l0 : ∀ x ∈ p0, x.block < W.heap.size := fun x hx => hlt x (by simp [hx])
  obtain ⟨a0, len0, cap0, rfl⟩ := okWide_slice Try.underlying41 (hval 0 41 v0 rfl rfl)
  obtain ⟨hc0, hn0⟩ := code_of h0 l0
  clear hA0 hval0
  refine (walk_FnPatchFuzz a0 len0 cap0 W hc0 hn0).mono fun e W' ⟨he, hb⟩ => ?_
  subst he
  exact ⟨_, rfl, post_below (gs := []) (pv := []) hW' (fun _ _ _ => trodAll_cons_mk (shut_bool Try.underlying4 _) trodAll_mk0) (trodAll_cons_mk (Below.trod laidOut (by kernel_rfl) (of_decide_eq_true (by kernel_rfl)) t0 hb l0) trodAll_mk0) rfl (by simp) hb⟩

theorem fnPatchFuzz_holds : Rows.FnPatchFuzzSaid :=
  OpenClaim.holds_of_wide 9 Try.f9 rfl rfl rfl rfl rfl rfl rfl ⟨rfl, rfl, rfl, rfl, rfl⟩ rfl rfl rfl rfl rfl (by kernel_rfl) Try.func9 (by kernel_rfl)
    (of_decide_eq_true (by kernel_rfl)) (by unfold Func.isWrapper; first | (rw [if_pos (by decide +kernel)]; kernel_rfl) | (rw [if_neg (by decide +kernel)]; exact ⟨rfl, rfl⟩))
    (fun os started H enc _ => lifted_FnPatchFuzz os started H enc)
end Go.Proofs.Ytedimkcnemhhpaa
