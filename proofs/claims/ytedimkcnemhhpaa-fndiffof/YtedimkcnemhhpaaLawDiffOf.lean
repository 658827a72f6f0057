/- Of every code: drawn lines, and others: FnDiffOf answers true; the code is as it was. No condition. -/
import Derived.Test.YtedimkcnemhhpaaJoin1
import Derived.Test.YtedimkcnemhhpaaJoin8
import Derived.Test.YtedimkcnemhhpaaJoin7
namespace Go.Proofs.Ytedimkcnemhhpaa
open Go.ChangeShapes Go.WideShapes Go.ChangeAt Go.RowKit

theorem one_int (W : World) (z : Int) : IntsAt (W.alloc (.cells #[.int .i64 z] 3)) (some ⟨W.heap.size, 0, none⟩) [z] := by
  refine .inr ⟨W.heap.size, 0, rfl, by simp, fun i x hi => ?_⟩
  have hi0 : i = 0 := by have := (List.getElem?_eq_some_iff.1 hi).1; simp at this; exact this
  subst hi0
  simp only [List.getElem?_cons_zero, Option.some.injEq] at hi
  subst hi
  exact cell_arr (World.alloc_heap_new W _) _ _ rfl
theorem diff_self (xs : List ByteArray) : diffL xs xs = [] := by
  unfold diffL diffB
  simp

set_option maxRecDepth 100000 in
set_option maxHeartbeats 8000000 in
theorem walk_FnDiffOf (a : Option Addr) (len cap : Nat) (w : World) (h : Code w w.heap.size a len) (hc : len ≤ cap) :
    Calls Try.prog 6 #[.slice a len cap] w fun e w' => e = .returned (.bool true) ∧ Below w.heap.size w w' := by
  have H := hid h
  clear h
  by_cases hl : (1048576 : Int) < len
  · go_enter Try.func6, Try.ntmps6
    go_wp2
    go_ret
    exact ⟨rfl, Below.refl _ _⟩
  go_enter Try.func6, Try.ntmps6
  go_wp2_with fail
  refine (DrawDiffOf_any w a len cap (unhid H) (by omega) hc).mono ?_
  rintro e W1 ⟨v, v2, xs, ys, rfl, hD⟩
  obtain ⟨la, lc, rfl, ht, hnil, hcap⟩ := hD.v
  obtain ⟨lb, lbc, rfl, ht2, hnil2, hcap2⟩ := hD.v2
  have hlx := hD.lx
  have hly := hD.ly
  have SX := hid hD.sx
  have SY := hid hD.sy
  have CX := hid (And.intro hnil hcap)
  have CY := hid (And.intro hnil2 hcap2)
  have K1 := hid (show Kp w w.heap.size W1 [(la, xs), (lb, ys)] [] [] from ⟨hD.low, hD.low.size, (fun x hx => by
    rcases List.mem_cons.1 hx with rfl | hx
    · exact ht
    · rw [List.mem_singleton.1 hx]; exact ht2), (fun x hx => by cases hx), (fun x hx => by cases hx)⟩)
  clear hD ht hnil hcap ht2 hnil2 hcap2 H
  go_wp2_with fail
  refine (DiffOf_any xs ys la lb lc lbc _ (smallX_len (unhid SX)) (smallX_len (unhid SY)) (smallX_big (unhid SX)) (smallX_big (unhid SY)) (unhid CX).2 (unhid CY).2 ((unhid K1).txts (by simp)) ((unhid K1).txts (by simp))).mono ?_
  rintro e W2 ⟨v2, rfl, ho, hb⟩
  obtain ⟨ap, cp, rfl, hk⟩ := diff_kp (unhid K1) ho hb
  have K2 := hid hk
  clear ho hb hk K1
  go_wp2_with fail
  refine (specDiffOf_any xs ys la lb lc lbc _ (smallX_len (unhid SX)) (smallX_len (unhid SY)) (smallX_big (unhid SX)) (smallX_big (unhid SY)) ((unhid K2).txts (by simp)) ((unhid K2).txts (by simp))).mono ?_
  rintro e W3 ⟨v3, rfl, ho, hb⟩
  obtain ⟨aq, cq, rfl, hk⟩ := diff_kp (unhid K2) ho hb
  have K3 := hid hk
  clear ho hb hk K2
  have SD := hid (show smallK (diffL xs ys) from diffOf_small xs ys (unhid SX) (unhid SY))
  have LD := diff_len xs ys
  go_wp2_with fail
  refine (jsHunks_same (diffL xs ys) ap aq cp cq _ (Nat.le_trans (unhid SD).1 (by simp [maxLen])) (fun h hh => smallX_len ((unhid SD).2.2 h hh)) ((unhid K3).hks (by simp)).at ((unhid K3).hks (by simp)).at).mono ?_
  rintro e W4 ⟨rfl, hb⟩
  have K4 := hid ((unhid K3).step hb)
  clear hb K3
  by_cases h0 : diffL xs ys = []
  · have h0' : (((diffL xs ys).length : Int) == 0) = true := by rw [h0]; rfl
    clear h0
    go_wp2_with fail
    refine (specDiffOf_any xs ys la lb lc lbc _ (smallX_len (unhid SX)) (smallX_len (unhid SY)) (smallX_big (unhid SX)) (smallX_big (unhid SY)) ((unhid K4).txts (by simp)) ((unhid K4).txts (by simp))).mono ?_
    rintro e W5 ⟨v5, rfl, ho, hb⟩
    obtain ⟨ar, cr, rfl, hk⟩ := diff_kp (unhid K4) ho hb
    have K5 := hid hk
    clear ho hb hk K4
    go_wp2_with fail
    refine (jsHunks_same (diffL xs ys) ap ar cp cr _ (Nat.le_trans (unhid SD).1 (by simp [maxLen])) (fun h hh => smallX_len ((unhid SD).2.2 h hh)) ((unhid K5).hks (by simp)).at ((unhid K5).hks (by simp)).at).mono ?_
    rintro e W6 ⟨rfl, hb⟩
    have K6 := hid ((unhid K5).step hb)
    clear hb K5
    go_wp2_with fail
    go_ret
    exact ⟨rfl, (unhid K6).1⟩
  have h0' : (((diffL xs ys).length : Int) == 0) = false := by rw [beq_eq_false_iff_ne]; intro e; exact h0 (List.length_eq_zero_iff.1 (by omega))
  have PP := hid (patch_diff (a := xs) (b := ys) h0)
  have DS := hid (diff_self xs)
  clear h0
  generalize hgD : diffL xs ys = D at *
  clear hgD
  go_wp2_with fail
  refine (Patch_any xs D (0) la ap lc cp _ (smallX_len (unhid SX)) (smallX_big (unhid SX)) (unhid CX).2 (unhid CX).1 (Nat.le_trans (unhid SD).1 (by simp [maxLen])) (smallK_big (unhid SD)) ((unhid K4).txts (by simp)) ((unhid K4).hks (by simp))).mono ?_
  rintro e W5 ho
  obtain ⟨ax, cx, ix, jx, rfl, hn, h1, h2, hk⟩ := patch_kp (unhid K4) ho
  have Cx := hid (And.intro hn h1)
  have Dx := hid h2
  have K5 := hid hk
  clear ho hn h1 h2 hk K4
  generalize patch_0 xs D 0 = x0 at *
  generalize patch_1 xs D 0 = x1 at *
  generalize patch_2 xs D 0 = x2 at *
  obtain ⟨e2, e0, e1, hh⟩ := unhid PP
  subst e2
  subst e0
  subst e1
  have HH := hid hh
  clear hh PP
  go_wp2_with fail
  refine (HunksOk_any D ap cp _ (Nat.le_trans (unhid SD).1 (by simp [maxLen])) (smallK_big (unhid SD)) ((unhid K5).hks (by simp)).at).mono ?_
  rintro e W6 ⟨rfl, hb⟩
  have K6 := hid ((unhid K5).step hb)
  clear hb K5
  rw [unhid HH]
  go_wp2_with fail
  refine (jsTexts_same x0 ax lb cx lbc _ (smallX_len (unhid SY)) ((unhid K6).txts (by simp)) ((unhid K6).txts (by simp))).mono ?_
  rintro e W7 ⟨rfl, hb⟩
  have K7 := hid ((unhid K6).step hb)
  clear hb K6
  have K8 := hid (show Kp w w.heap.size (W7.alloc (.cells #[.int .i64 0] 3)) _ _ _ from ((unhid K7).alloc (.cells #[.int .i64 0] 3)).putZ (one_int W7 0))
  clear K7
  go_wp2_with fail
  refine (jsInts_same [0] ix (some ⟨W7.heap.size, 0, none⟩) jx 1 _ (by simp [maxLen]) ((unhid K8).ints (by simp)) ((unhid K8).ints (by simp))).mono ?_
  rintro e W9 ⟨rfl, hb⟩
  have K9 := hid ((unhid K8).step hb)
  clear hb K8
  go_wp2_with fail
  refine (DiffOf_any xs xs la la lc lc _ (smallX_len (unhid SX)) (smallX_len (unhid SX)) (smallX_big (unhid SX)) (smallX_big (unhid SX)) (unhid CX).2 (unhid CX).2 ((unhid K9).txts (by simp)) ((unhid K9).txts (by simp))).mono ?_
  rintro e W10 ⟨v10, rfl, ho, hb⟩
  obtain ⟨az, cz, rfl, hk⟩ := diff_kp (unhid K9) ho hb
  have K10 := hid hk
  clear ho hb hk K9
  rw [unhid DS]
  go_wp2_with fail
  go_ret
  exact ⟨rfl, (unhid K10).1⟩

set_option maxRecDepth 100000 in
set_option maxHeartbeats 1000000 in
theorem lifted_FnDiffOf (os : Os) (started : os.Started) (H : Type) (enc : TypeId × Value → H) :
    ReturnsInHanded {} Try.checked os 6 .any (Rows.fnDiffOfSpec.pre6 enc Try.prog Try.f6 Rows.fnDiffOfRow.domain false) (Rows.fnDiffOfSpec.post enc Try.prog Try.f6 false true false false) := by
  refine returnsInHanded_of_change (C := Try.checked) own started (by kernel_rfl) Try.func6
    (ChangeSpec.witness6 (enc := enc) (C := Try.checked) false ⟨#[], #[.slice none 0 0], []⟩ 8 (by kernel_rfl) (by kernel_rfl) (by kernel_rfl) (by kernel_rfl)) ?_
  intro W base args ds gs before hval0 hW _ _
  have hval : ∀ (j : Nat) t v, Try.f6.params[j]? = some t → args[j]? = some v → Value.okWide Try.prog W .any base t v := hval0
  have hW' := hW
  obtain ⟨p, q, hA0, hV, rfl, hfz, hnd⟩ := hW
  have hA : DataW.TrodAll enc Try.prog W 0 (fun _ => true) true Try.f6.params.toList args.toList ds p := hA0
  rw [Try.params6] at hA hval
  obtain ⟨v0, vs0, d0, ds0, p0, q0, e0, rfl, rfl, h0, r0⟩ := trodAll_cons hA
  obtain ⟨rfl, rfl, rfl⟩ := trodAll_nil r0
  obtain rfl : args = #[v0] := by cases args; simp_all
  obtain ⟨rfl, rfl⟩ := trodVars_none hV
  have hlt : ∀ x ∈ p0, x.block < W.heap.size := fun x hx => by simpa using hW'.lt x (by simpa using hx)
  have t0 := h0
  have l0 : ∀ x ∈ p0, x.block < W.heap.size := fun x hx => hlt x (by simp [hx])
  obtain ⟨a0, len0, cap0, rfl⟩ := okWide_slice Try.underlying41 (hval 0 41 v0 rfl rfl)
  obtain ⟨hc0, hn0⟩ := code_of h0 l0
  clear hA0 hval0
  refine (walk_FnDiffOf a0 len0 cap0 W hc0 hn0).mono fun e W' ⟨he, hb⟩ => ?_
  subst he
  exact ⟨_, rfl, post_below (gs := []) (pv := []) hW' (fun _ _ _ => trodAll_cons_mk (shut_bool Try.underlying4 _) trodAll_mk0) (trodAll_cons_mk (Below.trod laidOut (by kernel_rfl) (of_decide_eq_true (by kernel_rfl)) t0 hb l0) trodAll_mk0) rfl (by simp) hb⟩

theorem fnDiffOf_holds : Rows.FnDiffOfSaid :=
  OpenClaim.holds_of_wide 6 Try.f6 rfl rfl rfl rfl rfl rfl rfl ⟨rfl, rfl, rfl, rfl, rfl⟩ rfl rfl rfl rfl rfl (by kernel_rfl) Try.func6 (by kernel_rfl)
    (of_decide_eq_true (by kernel_rfl)) (by unfold Func.isWrapper; first | (rw [if_pos (by decide +kernel)]; kernel_rfl) | (rw [if_neg (by decide +kernel)]; exact ⟨rfl, rfl⟩))
    (fun os started H enc _ => lifted_FnDiffOf os started H enc)
end Go.Proofs.Ytedimkcnemhhpaa
