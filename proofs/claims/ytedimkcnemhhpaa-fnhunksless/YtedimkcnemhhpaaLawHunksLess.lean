/- Of every two codes: drawn lines and hunks, cut at a drawn one: FnHunksLess answers true; the codes are as they were. No condition. -/
import Derived.Test.YtedimkcnemhhpaaJoin1
import Derived.Test.YtedimkcnemhhpaaJoin8
import Derived.Test.YtedimkcnemhhpaaJoin7
namespace Go.Proofs.Ytedimkcnemhhpaa
open Go.ChangeShapes Go.WideShapes Go.ChangeAt Go.RowKit

theorem sumL_snoc : ∀ (hs : List Hk) (k : Nat) (h : Hk), hs[k]? = some h → sumL (hs.take (k + 1)) = sumL (hs.take k) + h.lines.length
  | [], _, _, e => by cases e
  | x :: hs, 0, h, e => by simp at e; subst e; simp [sumL]
  | x :: hs, k + 1, h, e => by
    have := sumL_snoc hs k h (by simpa using e)
    simp only [List.take_succ_cons, sumL] at this ⊢
    omega
theorem HksC.cut {W : World} {a : Option Addr} {hs : List Hk} (h : HksC W a hs) (n : Nat) : HksC W a (hs.take n) := by
  rcases h with rfl | ⟨b, o, e, hl, hc⟩
  · exact .inl (by simp)
  · exact .inr ⟨b, o, e, hl, fun i x hi => hc i x (by rw [List.getElem?_take] at hi; split at hi; exact hi; cases hi)⟩
theorem IntsAt.cut {W : World} {a : Option Addr} {zs : List Int} (h : IntsAt W a zs) (n : Nat) : IntsAt W a (zs.take n) := by
  rcases h with rfl | ⟨b, o, e, hl, hc⟩
  · exact .inl (by simp)
  · exact .inr ⟨b, o, e, hl, fun i x hi => hc i x (by rw [List.getElem?_take] at hi; split at hi; exact hi; cases hi)⟩

set_option maxRecDepth 100000 in
set_option maxHeartbeats 8000000 in
theorem walk_FnHunksLess (a : Option Addr) (len cap : Nat) (a' : Option Addr) (len' cap' : Nat) (w : World) (h : Code w w.heap.size a len) (hc : len ≤ cap) (_h' : Code w w.heap.size a' len') (_hc' : len' ≤ cap') :
    Calls Try.prog 13 #[.slice a len cap, .slice a' len' cap'] w fun e w' => e = .returned (.bool true) ∧ Below w.heap.size w w' := by
  have H := hid h
  clear h _h' _hc'
  by_cases hl : (1048576 : Int) < len
  · go_enter Try.func13, Try.ntmps13
    go_wp2
    go_ret
    exact ⟨rfl, Below.refl _ _⟩
  by_cases hl' : (1048576 : Int) < len'
  · go_enter Try.func13, Try.ntmps13
    go_wp2
    go_ret
    exact ⟨rfl, Below.refl _ _⟩
  go_enter Try.func13, Try.ntmps13
  go_wp2_with fail
  refine (DrawPatch_any w a len cap (unhid H) (by omega) hc).mono ?_
  rintro e W1 ⟨v, hv, fz, xs, hs, rfl, hD, hf0, hf1⟩
  obtain ⟨la, lc, rfl, ht, hnil, hcap⟩ := hD.v
  obtain ⟨lh, lhc, rfl, hh, hhc⟩ := hD.hv
  have hlx := hD.lx
  have hlh := hD.lh
  have SX := hid hD.sx
  have SH := hid hD.sh
  have CX := hid (And.intro hnil hcap)
  have K1 := hid (show Kp w w.heap.size W1 [(la, xs)] [(lh, hs)] [] from ⟨hD.low, hD.low.size, fun x hx => by rw [List.mem_singleton.1 hx]; exact ht, fun x hx => by rw [List.mem_singleton.1 hx]; exact hh, fun x hx => by cases hx⟩)
  clear hD ht hnil hcap hh H
  go_wp2_with fail
  refine (Patch_any xs hs (fz) la lh lc lhc _ (smallX_len (unhid SX)) (smallX_big (unhid SX)) (unhid CX).2 (unhid CX).1 (Nat.le_trans (unhid SH).1 (by simp [maxLen])) (smallK_big (unhid SH)) ((unhid K1).txts (by simp)) ((unhid K1).hks (by simp))).mono ?_
  rintro e W2 ho
  obtain ⟨ax, cx, ix, jx, rfl, hn, h1, h2, hk⟩ := patch_kp (unhid K1) ho
  have Cx := hid (And.intro hn h1)
  have Dx := hid h2
  have K2 := hid hk
  clear ho hn h1 h2 hk K1
  go_wp2_with fail
  refine (specPatch_any xs hs (fz) la lh lc lhc _ (smallX_len (unhid SX)) (smallX_big (unhid SX)) (unhid CX).1 (Nat.le_trans (unhid SH).1 (by simp [maxLen])) (smallK_big (unhid SH)) ((unhid K2).txts (by simp)) ((unhid K2).hks (by simp))).mono ?_
  rintro e W3 ho
  obtain ⟨ay, cy, iy, jy, rfl, hn, h1, h2, hk⟩ := patch_kp (unhid K2) ho
  have Cy := hid (And.intro hn h1)
  have Dy := hid h2
  have K3 := hid hk
  clear ho hn h1 h2 hk K2
  have SP := hid (patch_small xs hs (fz) (unhid SX) (unhid SH))
  have F1 := hid (fun n hn h => patch_less (ls := xs) (hs := hs) (fz := fz) n hn h)
  have FG := hid (fun h => patch_gain (ls := xs) (hs := hs) (fz := fz) h)
  generalize hg0 : patch_0 xs hs fz = x0 at *
  generalize hg1 : patch_1 xs hs fz = x1 at *
  generalize hg2 : patch_2 xs hs fz = x2 at *
  have S0 := hid (unhid SP).1
  have S1 := hid (show x1.length ≤ 1048576 from (unhid SP).2)
  clear hg0 hg1 hg2 SP
  cases x2
  · skip
    go_wp2_with fail
    refine (jsTexts_same x0 ax ay cx cy _ (smallX_len (unhid S0)) ((unhid K3).txts (by simp)) ((unhid K3).txts (by simp))).mono ?_
    rintro e W4 ⟨rfl, hb⟩
    have K4 := hid ((unhid K3).step hb)
    clear hb K3
    go_wp2_with fail
    refine (jsInts_same x1 ix iy jx jy _ (Nat.le_trans (unhid S1) (by simp [maxLen])) ((unhid K4).ints (by simp)) ((unhid K4).ints (by simp))).mono ?_
    rintro e W5 ⟨rfl, hb⟩
    have K5 := hid ((unhid K4).step hb)
    clear hb K4
    go_wp2_with fail
    refine (jsTexts_same x0 ax ay cx cy _ (smallX_len (unhid S0)) ((unhid K5).txts (by simp)) ((unhid K5).txts (by simp))).mono ?_
    rintro e W6 ⟨rfl, hb⟩
    have K6 := hid ((unhid K5).step hb)
    clear hb K5
    go_wp2_with fail
    refine (jsInts_same x1 ix iy jx jy _ (Nat.le_trans (unhid S1) (by simp [maxLen])) ((unhid K6).ints (by simp)) ((unhid K6).ints (by simp))).mono ?_
    rintro e W7 ⟨rfl, hb⟩
    have K7 := hid ((unhid K6).step hb)
    clear hb K6
    go_wp2_with fail
    go_ret
    exact ⟨rfl, (unhid K7).1⟩
  go_wp2_with fail
  refine (jsTexts_same x0 ax ay cx cy _ (smallX_len (unhid S0)) ((unhid K3).txts (by simp)) ((unhid K3).txts (by simp))).mono ?_
  rintro e W4 ⟨rfl, hb⟩
  have K4 := hid ((unhid K3).step hb)
  clear hb K3
  go_wp2_with fail
  refine (jsInts_same x1 ix iy jx jy _ (Nat.le_trans (unhid S1) (by simp [maxLen])) ((unhid K4).ints (by simp)) ((unhid K4).ints (by simp))).mono ?_
  rintro e W5 ⟨rfl, hb⟩
  have K5 := hid ((unhid K4).step hb)
  clear hb K4
  have hm0 : 0 ≤ (len' : Int) % ((hs.length : Int) + 1) := Int.emod_nonneg _ (by omega)
  have hm1 : (len' : Int) % ((hs.length : Int) + 1) ≤ (lhc : Int) := by have := Int.emod_lt_of_pos (len' : Int) (show (0 : Int) < (hs.length : Int) + 1 by omega); omega
  have hm2 : len' % (hs.length + 1) ≤ hs.length := by have := Nat.mod_lt len' (show 0 < hs.length + 1 by omega); omega
  have hm3 : (len' : Int) % ((hs.length : Int) + 1) = ((len' % (hs.length + 1) : Nat) : Int) := by simp
  have HM3 := hid hm3
  clear hm3
  go_wp2_with fail
  rw [unhid HM3]
  clear hm0 hm1 HM3
  generalize len' % (hs.length + 1) = n at hm2 ⊢
  have LH := hid (show (hs.take n).length = n by rw [List.length_take]; omega)
  have SN := hid (show smallK (hs.take n) from ⟨by rw [unhid LH]; have := (unhid SH).1; omega, Nat.le_trans (cntH_le hs n) (unhid SH).2.1, fun x hx => (unhid SH).2.2 x (List.mem_of_mem_take hx)⟩)
  obtain ⟨f1, f2⟩ := unhid F1 n hm2 (by simp)
  have F2 := hid f1
  have F3 := hid f2
  obtain ⟨-, g2, -, -⟩ := unhid FG (by simp)
  have G2 := hid g2
  clear f1 f2 g2 F1 FG
  have hk0 := ((unhid K5).hks (show (lh, hs) ∈ _ by simp)).cut n
  have hm4 : n ≤ x1.length := by rw [unhid G2]; exact hm2
  have LX := hid (show (x1.take n).length = n by rw [List.length_take]; omega)
  have KZ0 := hid (((unhid K5).ints (show (ix, x1) ∈ _ by simp)).cut n)
  have K6 := hid (((unhid K5).putH hk0).putZ (unhid KZ0))
  have hk1 : (n : Int) ≤ (jx : Int) := by have := unhid Dx; omega
  clear hk0 KZ0 K5 hm4 hm2
  generalize hs.take n = gs at *
  generalize x1.take n = y1 at *
  obtain rfl : n = gs.length := (unhid LH).symm
  clear LH G2
  refine (Patch_any xs gs (fz) la lh lc lhc _ (smallX_len (unhid SX)) (smallX_big (unhid SX)) (unhid CX).2 (unhid CX).1 (Nat.le_trans (unhid SN).1 (by simp [maxLen])) (smallK_big (unhid SN)) ((unhid K6).txts (by simp)) ((unhid K6).hks (by simp))).mono ?_
  rintro e W7 ho
  obtain ⟨az, cz, iz, jz, rfl, hn, h1, h2, hk⟩ := patch_kp (unhid K6) ho
  have Cz := hid (And.intro hn h1)
  have Dz := hid h2
  have K7 := hid hk
  clear ho hn h1 h2 hk K6
  have SP := hid (patch_small xs gs fz (unhid SX) (unhid SN))
  generalize patch_0 xs gs fz = z0 at *
  generalize patch_1 xs gs fz = z1 at *
  generalize patch_2 xs gs fz = z2 at *
  have SZ := hid (show z1.length ≤ 1048576 from (unhid SP).2)
  clear SP
  go_wp2_with fail
  go_loopw [19, 20] (fun m i wr => ∃ (k : Nat) (z : Int), k ≤ gs.length ∧ i = .int .i64 (k : Int) ∧ m = .int .i64 z ∧ Hid (z = (xs.length : Int) + (sumL (gs.take k) : Int)) ∧ 0 ≤ z ∧ z ≤ 12 + 1048576 * (k : Int) ∧ Hid (Kp w w.heap.size wr _ _ _)) (fun _ i _ => gs.length - (intOf i).toNat)
  case atStart => exact ⟨0, xs.length, by omega, rfl, rfl, hid (by simp [sumL]), by omega, by omega, K7⟩
  case round =>
    clear K7
    obtain ⟨k, z, hk, rfl, rfl, HZ, hz1, hz2, K⟩ := hrel
    have hgl := (unhid SN).1
    by_cases hlt : k < gs.length
    · obtain ⟨h, he⟩ : ∃ e, gs[k]? = some e := ⟨gs[k], List.getElem?_eq_getElem hlt⟩
      obtain ⟨hb, ho, rfl, hbl, hc⟩ := ((unhid K).hks (show (lh, gs) ∈ _ by simp)).get (by intro e; subst e; cases he)
      obtain ⟨ll, llc, c0, c1, ht, -⟩ := hc k h he
      have hln := ((unhid SN).2.2 h (List.mem_of_getElem? he)).1
      have HS := hid (sumL_snoc gs k h he)
      clear hc he c0 ht hbl
      go_wp2_with fail
      go_roundw
      case rel => exact ⟨k + 1, z + (h.lines.length : Int), by omega, by go_num, rfl, hid (by rw [unhid HS, unhid HZ]; omega), by omega, by omega, K⟩
      case measure => simp [intOf]; omega
    · have e : k = gs.length := by omega
      subst e
      have E := hid (show z = (xs.length : Int) + (sumL gs : Int) by have := unhid HZ; rwa [List.take_length] at this)
      clear HZ
      go_wp2_with fail
      refine (HunksOk_any gs lh lhc _ (Nat.le_trans (unhid SN).1 (by simp [maxLen])) (smallK_big (unhid SN)) ((unhid K).hks (show (lh, gs) ∈ _ by simp)).at).mono ?_
      rintro e W8 ⟨rfl, hb⟩
      rw [unhid F2]
      have K8 := hid ((unhid K).step hb)
      clear hb K
      by_cases hz3 : 30 < z
      · go_wp2_with fail
        go_ret
        exact ⟨rfl, (unhid K8).1⟩
      · obtain ⟨f1, f2⟩ := unhid F3 (by have := unhid E; omega)
        subst f1
        subst f2
        clear F3 E
        go_wp2_with fail
        rw [show (Value.slice ix gs.length jx) = .slice ix z1.length jx by rw [unhid LX]]
        refine (jsInts_same z1 iz ix jz jx _ (Nat.le_trans (unhid SZ) (by simp [maxLen])) ((unhid K8).ints (by simp)) ((unhid K8).ints (by simp))).mono ?_
        rintro e W9 ⟨rfl, hb⟩
        have K9 := hid ((unhid K8).step hb)
        clear hb K8
        go_wp2_with fail
        go_ret
        exact ⟨rfl, (unhid K9).1⟩

set_option maxRecDepth 100000 in
set_option maxHeartbeats 1000000 in
theorem lifted_FnHunksLess (os : Os) (started : os.Started) (H : Type) (enc : TypeId × Value → H) :
    ReturnsInHanded {} Try.checked os 13 .any (Rows.fnHunksLessSpec.pre6 enc Try.prog Try.f13 Rows.fnHunksLessRow.domain false) (Rows.fnHunksLessSpec.post enc Try.prog Try.f13 false true false false) := by
  refine returnsInHanded_of_change (C := Try.checked) own started (by kernel_rfl) Try.func13
    (ChangeSpec.witness6 (enc := enc) (C := Try.checked) false ⟨#[], #[.slice none 0 0, .slice none 0 0], []⟩ 8 (by kernel_rfl) (by kernel_rfl) (by kernel_rfl) (by kernel_rfl)) ?_
  intro W base args ds gs before hval0 hW _ _
  have hval : ∀ (j : Nat) t v, Try.f13.params[j]? = some t → args[j]? = some v → Value.okWide Try.prog W .any base t v := hval0
  have hW' := hW
  obtain ⟨p, q, hA0, hV, rfl, hfz, hnd⟩ := hW
  have hA : DataW.TrodAll enc Try.prog W 0 (fun _ => true) true Try.f13.params.toList args.toList ds p := hA0
  rw [Try.params13] at hA hval
  obtain ⟨v0, vs0, d0, ds0, p0, q0, e0, rfl, rfl, h0, r0⟩ := trodAll_cons hA
  obtain ⟨v1, vs1, d1, ds1, p1, q1, e1, rfl, rfl, h1, r1⟩ := trodAll_cons r0
  obtain ⟨rfl, rfl, rfl⟩ := trodAll_nil r1
  obtain rfl : args = #[v0, v1] := by cases args; simp_all
  obtain ⟨rfl, rfl⟩ := trodVars_none hV
  have hlt : ∀ x ∈ p0 ++ p1, x.block < W.heap.size := fun x hx => by simpa using hW'.lt x (by simpa using hx)
  have t0 := h0
  have l0 : ∀ x ∈ p0, x.block < W.heap.size := fun x hx => hlt x (by simp [hx])
  have t1 := h1
  have l1 : ∀ x ∈ p1, x.block < W.heap.size := fun x hx => hlt x (by simp [hx])
  obtain ⟨a0, len0, cap0, rfl⟩ := okWide_slice Try.underlying41 (hval 0 41 v0 rfl rfl)
  obtain ⟨hc0, hn0⟩ := code_of h0 l0
  obtain ⟨a1, len1, cap1, rfl⟩ := okWide_slice Try.underlying41 (hval 1 41 v1 rfl rfl)
  obtain ⟨hc1, hn1⟩ := code_of h1 l1
  clear hA0 hval0
  refine (walk_FnHunksLess a0 len0 cap0 a1 len1 cap1 W hc0 hn0 hc1 hn1).mono fun e W' ⟨he, hb⟩ => ?_
  subst he
  exact ⟨_, rfl, post_below (gs := []) (pv := []) hW' (fun _ _ _ => trodAll_cons_mk (shut_bool Try.underlying4 _) trodAll_mk0) (trodAll_cons_mk (Below.trod laidOut (by kernel_rfl) (of_decide_eq_true (by kernel_rfl)) t0 hb l0) (trodAll_cons_mk (Below.trod laidOut (by kernel_rfl) (of_decide_eq_true (by kernel_rfl)) t1 hb l1) trodAll_mk0)) rfl (by simp) hb⟩

theorem fnHunksLess_holds : Rows.FnHunksLessSaid :=
  OpenClaim.holds_of_wide 13 Try.f13 rfl rfl rfl rfl rfl rfl rfl ⟨rfl, rfl, rfl, rfl, rfl⟩ rfl rfl rfl rfl rfl (by kernel_rfl) Try.func13 (by kernel_rfl)
    (of_decide_eq_true (by kernel_rfl)) (by unfold Func.isWrapper; first | (rw [if_pos (by decide +kernel)]; kernel_rfl) | (rw [if_neg (by decide +kernel)]; exact ⟨rfl, rfl⟩))
    (fun os started H enc _ => lifted_FnHunksLess os started H enc)
end Go.Proofs.Ytedimkcnemhhpaa
