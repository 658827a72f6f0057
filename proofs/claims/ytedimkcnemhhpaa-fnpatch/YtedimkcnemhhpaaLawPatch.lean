/- Of every code: drawn lines and hunks: FnPatch answers true; the code is as it was. No condition. -/
import Derived.Test.YtedimkcnemhhpaaJoin1
import Derived.Test.YtedimkcnemhhpaaJoin8
import Derived.Test.YtedimkcnemhhpaaJoin7
namespace Go.Proofs.Ytedimkcnemhhpaa
open Go.ChangeShapes Go.WideShapes Go.ChangeAt Go.RowKit

def sgnX (x : ByteArray) : Int := if x.data.toList.head? = some 43 then 1 else if x.data.toList.head? = some 45 then -1 else 0
def gainX (ls : List ByteArray) : Int := (ls.map sgnX).sum
theorem gainX_snoc (ls : List ByteArray) (k : Nat) (x : ByteArray) (h : ls[k]? = some x) : gainX (ls.take (k + 1)) = gainX (ls.take k) + sgnX x := by
  unfold gainX
  rw [List.take_add_one, h, List.map_append, List.sum_append]
  simp
theorem gain_lines : ∀ ls : List ByteArray, linesB ls = true → ((withX 43 ls).length : Int) - (withX 45 ls).length = gainX ls
  | [], _ => rfl
  | x :: ls, h => by
    have h1 : hkLineB x.data.toList = true ∧ linesB ls = true := by unfold linesB at h ⊢; simpa using h
    have ih := gain_lines ls h1.2
    have hg : gainX (x :: ls) = sgnX x + gainX ls := by unfold gainX; simp
    rw [hg]
    unfold withX at *
    rw [List.filterMap_cons, List.filterMap_cons]
    cases hd : x.data.toList with
    | nil => rw [hd] at h1; cases h1.1
    | cons d t =>
      rw [hd] at h1
      have h2 := h1.1
      simp only [hkLineB, Bool.and_eq_true] at h2
      have h3 := h2.1
      have e43 : cutX 43 x = if d == 32 || d == 43 then some (x.extract 1 x.size) else none := by unfold cutX; rw [hd]
      have e45 : cutX 45 x = if d == 32 || d == 45 then some (x.extract 1 x.size) else none := by unfold cutX; rw [hd]
      have es : sgnX x = if d = 43 then 1 else if d = 45 then -1 else 0 := by unfold sgnX; rw [hd]; simp
      rw [e43, e45, es]
      have hs : d = 32 ∨ d = 45 ∨ d = 43 := by
        unfold signB at h3
        simp only [Bool.or_eq_true, beq_iff_eq] at h3
        rcases h3 with (h3 | h3) | h3
        · exact .inl (UInt8.toNat_inj.1 (by show _ = 32; omega))
        · exact .inr (.inl (UInt8.toNat_inj.1 (by show _ = 45; omega)))
        · exact .inr (.inr (UInt8.toNat_inj.1 (by show _ = 43; omega)))
      rcases hs with rfl | rfl | rfl
      · simp; omega
      · simp; omega
      · simp; omega
theorem sgn_cases (x : ByteArray) (hp : 0 < x.size) : ((((x[0]).toNat : Int) == 43) = true ∧ sgnX x = 1) ∨ ((((x[0]).toNat : Int) == 43) = false ∧ (((x[0]).toNat : Int) == 45) = true ∧ sgnX x = -1) ∨ ((((x[0]).toNat : Int) == 43) = false ∧ (((x[0]).toNat : Int) == 45) = false ∧ sgnX x = 0) := by
  have es : sgnX x = if x[0] = 43 then 1 else if x[0] = 45 then -1 else 0 := by unfold sgnX; rw [str_cons hp]; simp
  rw [es]
  by_cases h : x[0] = 43
  · exact .inl ⟨by rw [h]; rfl, by rw [if_pos h]⟩
  · have b1 : (((x[0]).toNat : Int) == 43) = false := by rw [beq_eq_false_iff_ne]; intro e; exact h (UInt8.toNat_inj.1 (by show _ = 43; omega))
    by_cases h2 : x[0] = 45
    · exact .inr (.inl ⟨b1, by rw [h2]; rfl, by rw [if_neg h, if_pos h2]⟩)
    · have b2 : (((x[0]).toNat : Int) == 45) = false := by rw [beq_eq_false_iff_ne]; intro e; exact h2 (UInt8.toNat_inj.1 (by show _ = 45; omega))
      exact .inr (.inr ⟨b1, b2, by rw [if_neg h, if_neg h2]⟩)
theorem gainL_snoc : ∀ (hs : List Hk) (k : Nat) (h : Hk), hs[k]? = some h → gainL (hs.take (k + 1)) = gainL (hs.take k) + gainH h
  | [], _, _, e => by cases e
  | x :: hs, 0, h, e => by simp at e; subst e; simp [gainL]
  | x :: hs, k + 1, h, e => by
    have := gainL_snoc hs k h (by simpa using e)
    simp only [List.take_succ_cons, gainL] at this ⊢
    omega

set_option maxRecDepth 100000 in
set_option maxHeartbeats 8000000 in
theorem walk_FnPatch (a : Option Addr) (len cap : Nat) (w : World) (h : Code w w.heap.size a len) (hc : len ≤ cap) :
    Calls Try.prog 8 #[.slice a len cap] w fun e w' => e = .returned (.bool true) ∧ Below w.heap.size w w' := by
  have H := hid h
  clear h
  by_cases hl : (1048576 : Int) < len
  · go_enter Try.func8, Try.ntmps8
    go_wp2
    go_ret
    exact ⟨rfl, Below.refl _ _⟩
  go_enter Try.func8, Try.ntmps8
  go_wp2_with fail
  refine (DrawPatch_any w a len cap (unhid H) (by omega) hc).mono ?_
  rintro e W1 ⟨v, hv, fz, xs, hs, rfl, hD, hf0, hf1⟩
  obtain ⟨la, lc, rfl, ht, hnil, hcap⟩ := hD.v
  obtain ⟨lh, lhc, rfl, hh, hhc⟩ := hD.hv
  have hlx := hD.lx
  have hlh := hD.lh
  have SX := hid hD.sx
  have SH := hid hD.sh
  have CX := hid (And.intro hnil hcap)
  have K1 := hid (show Kp w w.heap.size W1 [(la, xs)] [(lh, hs)] [] from ⟨hD.low, hD.low.size, fun x hx => by rw [List.mem_singleton.1 hx]; exact ht, fun x hx => by rw [List.mem_singleton.1 hx]; exact hh, fun x hx => by cases hx⟩)
  clear hD ht hnil hcap hh H
  go_wp2_with fail
  refine (Patch_any xs hs (fz) la lh lc lhc _ (smallX_len (unhid SX)) (smallX_big (unhid SX)) (unhid CX).2 (unhid CX).1 (Nat.le_trans (unhid SH).1 (by simp [maxLen])) (smallK_big (unhid SH)) ((unhid K1).txts (by simp)) ((unhid K1).hks (by simp))).mono ?_
  rintro e W2 ho
  obtain ⟨ax, cx, ix, jx, rfl, hn, h1, h2, hk⟩ := patch_kp (unhid K1) ho
  have Cx := hid (And.intro hn h1)
  have Dx := hid h2
  have K2 := hid hk
  clear ho hn h1 h2 hk K1
  go_wp2_with fail
  refine (specPatch_any xs hs (fz) la lh lc lhc _ (smallX_len (unhid SX)) (smallX_big (unhid SX)) (unhid CX).1 (Nat.le_trans (unhid SH).1 (by simp [maxLen])) (smallK_big (unhid SH)) ((unhid K2).txts (by simp)) ((unhid K2).hks (by simp))).mono ?_
  rintro e W3 ho
  obtain ⟨ay, cy, iy, jy, rfl, hn, h1, h2, hk⟩ := patch_kp (unhid K2) ho
  have Cy := hid (And.intro hn h1)
  have Dy := hid h2
  have K3 := hid hk
  clear ho hn h1 h2 hk K2
  have SP := hid (patch_small xs hs (fz) (unhid SX) (unhid SH))
  have F1 := hid (fun h => patch_gain (ls := xs) (hs := hs) (fz := fz) h)
  have F0 := hid (fun h => patch_not (ls := xs) (hs := hs) (fz := fz) h)
  generalize hg0 : patch_0 xs hs fz = x0 at *
  generalize hg1 : patch_1 xs hs fz = x1 at *
  generalize hg2 : patch_2 xs hs fz = x2 at *
  have S0 := hid (unhid SP).1
  have S1 := hid (show x1.length ≤ 1048576 from (unhid SP).2)
  clear hg0 hg1 hg2 SP
  cases x2
  · skip
    go_wp2_with fail
    refine (jsTexts_same x0 ax ay cx cy _ (smallX_len (unhid S0)) ((unhid K3).txts (by simp)) ((unhid K3).txts (by simp))).mono ?_
    rintro e W4 ⟨rfl, hb⟩
    have K4 := hid ((unhid K3).step hb)
    clear hb K3
    go_wp2_with fail
    refine (jsInts_same x1 ix iy jx jy _ (Nat.le_trans (unhid S1) (by simp [maxLen])) ((unhid K4).ints (by simp)) ((unhid K4).ints (by simp))).mono ?_
    rintro e W5 ⟨rfl, hb⟩
    have K5 := hid ((unhid K4).step hb)
    clear hb K4
    go_wp2_with fail
    refine (jsTexts_same x0 ax ay cx cy _ (smallX_len (unhid S0)) ((unhid K5).txts (by simp)) ((unhid K5).txts (by simp))).mono ?_
    rintro e W6 ⟨rfl, hb⟩
    have K6 := hid ((unhid K5).step hb)
    clear hb K5
    go_wp2_with fail
    refine (jsInts_same x1 ix iy jx jy _ (Nat.le_trans (unhid S1) (by simp [maxLen])) ((unhid K6).ints (by simp)) ((unhid K6).ints (by simp))).mono ?_
    rintro e W7 ⟨rfl, hb⟩
    have K7 := hid ((unhid K6).step hb)
    clear hb K6
    rcases (unhid F0 (by simp)).2 with rfl | rfl
    · skip
      go_wp2_with fail
      go_ret
      exact ⟨rfl, (unhid K7).1⟩
    · cases hq : ((x0.length : Int) == 0)
      · skip
        go_wp2_with fail
        refine (jsTexts_same x0 ax la cx lc _ (smallX_len (unhid S0)) ((unhid K7).txts (by simp)) ((unhid K7).txts (by simp))).mono ?_
        rintro e W8 ⟨rfl, hb⟩
        have K8 := hid ((unhid K7).step hb)
        clear hb K7
        go_wp2_with fail
        go_ret
        exact ⟨rfl, (unhid K8).1⟩
      · skip
        go_wp2_with fail
        go_ret
        exact ⟨rfl, (unhid K7).1⟩

  go_wp2_with fail
  refine (jsTexts_same x0 ax ay cx cy _ (smallX_len (unhid S0)) ((unhid K3).txts (by simp)) ((unhid K3).txts (by simp))).mono ?_
  rintro e W4 ⟨rfl, hb⟩
  have K4 := hid ((unhid K3).step hb)
  clear hb K3
  go_wp2_with fail
  refine (jsInts_same x1 ix iy jx jy _ (Nat.le_trans (unhid S1) (by simp [maxLen])) ((unhid K4).ints (by simp)) ((unhid K4).ints (by simp))).mono ?_
  rintro e W5 ⟨rfl, hb⟩
  have K5 := hid ((unhid K4).step hb)
  clear hb K4
  obtain ⟨g1, g2, g3, g4⟩ := unhid F1 (by simp)
  have G1 := hid g1
  have G2 := hid g2
  have G3 := hid g3
  have G4 := hid (hunksB_mem g4).2
  clear g1 g2 g3 g4 F0 F1
  go_wp2_with fail
  go_loopw [12, 13] (fun n i wr => ∃ (k : Nat) (z : Int), k ≤ hs.length ∧ i = .int .i64 (k : Int) ∧ n = .int .i64 z ∧ Hid (z = (xs.length : Int) + gainL (hs.take k)) ∧ -(130 * (k : Int)) ≤ z ∧ z ≤ 60 + 130 * (k : Int) ∧ Hid (Kp w w.heap.size wr [(ay, x0), (ax, x0), (la, xs)] [(lh, hs)] [(iy, x1), (ix, x1)])) (fun _ i _ => hs.length - (intOf i).toNat)
  case atStart => exact ⟨0, xs.length, by omega, rfl, rfl, hid (by simp [gainL]), by omega, by omega, K5⟩
  case round =>
    clear K5
    obtain ⟨k, z, hk, rfl, rfl, HZ, hz1, hz2, K⟩ := hrel
    by_cases hlt : k < hs.length
    · obtain ⟨h, he⟩ : ∃ e, hs[k]? = some e := ⟨hs[k], List.getElem?_eq_getElem hlt⟩
      obtain ⟨hb, ho, rfl, hbl, hc⟩ := ((unhid K).hks (show (lh, hs) ∈ _ by simp)).get (by intro e; subst e; simp at hlt)
      obtain ⟨ll, llc, c0, c1, ht, -⟩ := hc k h he
      have hkb := hkB_parts (unhid G4 h (List.mem_of_getElem? he)).1
      have hln := hkb.2.1
      have HLB := hid hkb.2.2
      have LS := hid ((unhid SH).2.2 h (List.mem_of_getElem? he)).2
      have HS := hid (show gainL (hs.take (k + 1)) = gainL (hs.take k) + gainX h.lines by rw [gainL_snoc hs k h he, ← gain_lines h.lines hkb.2.2]; rfl)
      have C1 := hid (show ∀ W, Below wr.heap.size wr W → W.cell? ⟨hb, ho + k * 2 + 1, none⟩ = some (.slice ll h.lines.length llc) from fun W hW => (hW.cell (p := ⟨hb, ho + k * 2 + 1, none⟩) hbl).trans c1)
      have HT := hid ht
      clear hc he hkb c0 c1 ht hbl
      generalize h.lines = ls at *
      obtain ⟨x1v, hx1⟩ : ∃ y, x1[k]? = some y := ⟨x1[k]'(by rw [unhid G2]; exact hlt), List.getElem?_eq_getElem _⟩
      obtain ⟨ib, io, rfl, hibl, hic⟩ := ((unhid K).ints (show (ix, x1) ∈ _ by simp)).get (by intro e; subst e; cases hx1)
      have X1 := hid (show ∀ W, Below wr.heap.size wr W → W.cell? ⟨ib, io + k, none⟩ = some (.int .i64 x1v) from fun W hW => (hW.cell (p := ⟨ib, io + k, none⟩) hibl).trans (hic k x1v hx1))
      obtain ⟨y1, y2⟩ := unhid G3 x1v (List.mem_of_getElem? hx1)
      have hkx : k < x1.length := (List.getElem?_eq_some_iff.1 hx1).1
      have c1 := unhid C1 wr (Below.refl _ _)
      clear hic hx1 hibl
      go_wp2_with fail
      go_loopw [12, 14] (fun n i wi => ∃ (j : Nat) (y : Int), j ≤ ls.length ∧ i = .int .i64 (j : Int) ∧ n = .int .i64 y ∧ Hid (y = z + gainX (ls.take j)) ∧ z - (j : Int) ≤ y ∧ y ≤ z + (j : Int) ∧ Hid (wi = wr)) (fun _ i _ => ls.length - (intOf i).toNat)
      case atStart => exact ⟨0, z, by omega, rfl, rfl, hid (by simp [gainX]), by omega, by omega, hid rfl⟩
      case round =>
        obtain ⟨j, y, hj, rfl, rfl, HY, hy1, hy2, HW⟩ := hrel
        obtain rfl := unhid HW
        by_cases hjl : j < ls.length
        · obtain ⟨x, hex⟩ : ∃ e, ls[j]? = some e := ⟨ls[j], List.getElem?_eq_getElem hjl⟩
          obtain ⟨lb, lo, rfl, hlb, hlc⟩ := (unhid HT).get (by intro e; subst e; simp at hjl)
          have c2 := hlc j x hex
          have z1 := linesB_pos (unhid HLB) x (List.mem_of_getElem? hex)
          have z3 : x.size ≤ 9223372036854775807 := Nat.le_trans (unhid LS x (List.mem_of_getElem? hex)) (by omega)
          have E := hid (gainX_snoc ls j x hex)
          have hsg := sgn_cases x z1
          clear hlc hex hlb
          rcases hsg with ⟨b1, hs1⟩ | ⟨b1, b2, hs1⟩ | ⟨b1, b2, hs1⟩
          · have S1 := hid hs1
            clear hs1
            go_wp2_with fail
            go_roundw
            case rel => exact ⟨j + 1, y + 1, by omega, by go_num, rfl, hid (by rw [unhid E, unhid HY, unhid S1]; omega), by omega, by omega, hid (by simp)⟩
            case measure => simp [intOf]; omega
          · have S1 := hid hs1
            clear hs1
            go_wp2_with fail
            go_roundw
            case rel => exact ⟨j + 1, y - 1, by omega, by go_num, rfl, hid (by rw [unhid E, unhid HY, unhid S1]; omega), by omega, by omega, hid (by simp)⟩
            case measure => simp [intOf]; omega
          · have S1 := hid hs1
            clear hs1
            go_wp2_with fail
            go_roundw
            case rel => exact ⟨j + 1, y, by omega, by go_num, rfl, hid (by rw [unhid E, unhid HY, unhid S1]; omega), by omega, by omega, hid (by simp)⟩
            case measure => simp [intOf]; omega
        · have e : j = ls.length := by omega
          subst e
          have c3 := unhid X1 wr (Below.refl _ _)
          have E := hid (show y = z + gainX ls by have := unhid HY; rwa [List.take_length] at this)
          clear HY
          go_wp2_with fail
          go_roundw
          case rel => exact ⟨k + 1, y, by omega, by go_num, rfl, hid (by rw [unhid HS, unhid E, unhid HZ]; omega), by omega, by omega, K⟩
          case measure => simp [intOf]; omega
    · have e : k = hs.length := by omega
      subst e
      obtain rfl : z = (x0.length : Int) := by have e1 := unhid HZ; rw [List.take_length] at e1; rw [e1, unhid G1]
      have hq2 : ((x1.length : Int) == (hs.length : Int)) = true := by rw [unhid G2]; simp
      go_wp2_with fail
      go_ret
      exact ⟨rfl, (unhid K).1⟩

set_option maxRecDepth 100000 in
set_option maxHeartbeats 1000000 in
theorem lifted_FnPatch (os : Os) (started : os.Started) (H : Type) (enc : TypeId × Value → H) :
    ReturnsInHanded {} Try.checked os 8 .any (Rows.fnPatchSpec.pre6 enc Try.prog Try.f8 Rows.fnPatchRow.domain false) (Rows.fnPatchSpec.post enc Try.prog Try.f8 false true false false) := by
  refine returnsInHanded_of_change (C := Try.checked) own started (by kernel_rfl) Try.func8
    (ChangeSpec.witness6 (enc := enc) (C := Try.checked) false ⟨#[], #[.slice none 0 0], []⟩ 8 (by kernel_rfl) (by kernel_rfl) (by kernel_rfl) (by kernel_rfl)) ?_
  intro W base args ds gs before hval0 hW _ _
  have hval : ∀ (j : Nat) t v, Try.f8.params[j]? = some t → args[j]? = some v → Value.okWide Try.prog W .any base t v := hval0
  have hW' := hW
  obtain ⟨p, q, hA0, hV, rfl, hfz, hnd⟩ := hW
  have hA : DataW.TrodAll enc Try.prog W 0 (fun _ => true) true Try.f8.params.toList args.toList ds p := hA0
  rw [Try.params8] at hA hval
  obtain ⟨v0, vs0, d0, ds0, p0, q0, e0, rfl, rfl, h0, r0⟩ := trodAll_cons hA
  obtain ⟨rfl, rfl, rfl⟩ := trodAll_nil r0
  obtain rfl : args = #[v0] := by cases args; simp_all
  obtain ⟨rfl, rfl⟩ := trodVars_none hV
  have hlt : ∀ x ∈ p0, x.block < W.heap.size := fun x hx => by simpa using hW'.lt x (by simpa using hx)
  have t0 := h0
  have l0 : ∀ x ∈ p0, x.block < W.heap.size := fun x hx => hlt x (by simp [hx])
  obtain ⟨a0, len0, cap0, rfl⟩ := okWide_slice Try.underlying41 (hval 0 41 v0 rfl rfl)
  obtain ⟨hc0, hn0⟩ := code_of h0 l0
  clear hA0 hval0
  refine (walk_FnPatch a0 len0 cap0 W hc0 hn0).mono fun e W' ⟨he, hb⟩ => ?_
  subst he
  exact ⟨_, rfl, post_below (gs := []) (pv := []) hW' (fun _ _ _ => trodAll_cons_mk (shut_bool Try.underlying4 _) trodAll_mk0) (trodAll_cons_mk (Below.trod laidOut (by kernel_rfl) (of_decide_eq_true (by kernel_rfl)) t0 hb l0) trodAll_mk0) rfl (by simp) hb⟩

theorem fnPatch_holds : Rows.FnPatchSaid :=
  OpenClaim.holds_of_wide 8 Try.f8 rfl rfl rfl rfl rfl rfl rfl ⟨rfl, rfl, rfl, rfl, rfl⟩ rfl rfl rfl rfl rfl (by kernel_rfl) Try.func8 (by kernel_rfl)
    (of_decide_eq_true (by kernel_rfl)) (by unfold Func.isWrapper; first | (rw [if_pos (by decide +kernel)]; kernel_rfl) | (rw [if_neg (by decide +kernel)]; exact ⟨rfl, rfl⟩))
    (fun os started H enc _ => lifted_FnPatch os started H enc)
end Go.Proofs.Ytedimkcnemhhpaa
