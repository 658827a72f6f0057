/- Of every two codes: drawn lines, and others: FnPatchLater answers true; the codes are as they were. No condition. -/
import Derived.Test.YtedimkcnemhhpaaJoin1
import Derived.Test.YtedimkcnemhhpaaJoin8
import Derived.Test.YtedimkcnemhhpaaJoin7
namespace Go.Proofs.Ytedimkcnemhhpaa
open Go.ChangeShapes Go.WideShapes Go.ChangeAt Go.RowKit

def aheadL (n : Nat) : List ByteArray := List.replicate n ⟨#[110, 111, 98, 111, 100, 121, 32, 104, 97, 115, 32, 116, 104, 105, 115, 32, 108, 105, 110, 101]⟩
theorem ahead_snoc (n : Nat) : aheadL n ++ [⟨#[110, 111, 98, 111, 100, 121, 32, 104, 97, 115, 32, 116, 104, 105, 115, 32, 108, 105, 110, 101]⟩] = aheadL (n + 1) := by
  unfold aheadL
  rw [List.replicate_succ']
theorem ahead_ok (n : Nat) : linesOk (aheadL n) := fun x hx => by
  obtain rfl := List.eq_of_mem_replicate hx
  decide
theorem ahead_size (n : Nat) : ∀ x ∈ aheadL n, x.size ≤ 1048576 := fun x hx => by
  obtain rfl := List.eq_of_mem_replicate hx
  decide
theorem ahead_len (n : Nat) : (aheadL n).length = n := List.length_replicate
theorem later_facts {a b : List ByteArray} {n : Nat} (h : diffL a b ≠ []) (hn : n ≤ 8) (ha : a.length + n ≤ 30) (hb : b.length + n ≤ 30) :
    patch_2 (aheadL n ++ a) (diffL a b) 0 = true ∧ (patch_0 (aheadL n ++ a) (diffL a b) 0).length = n + b.length ∧ ∃ far, patch_1 (aheadL n ++ a) (diffL a b) 0 = [far] ∧ far ≤ (n : Int) := by
  have := patch_later (Q := aheadL n) h (by rw [ahead_len]; exact hn) (ahead_ok n) (by rw [ahead_len]; exact ha) (by rw [ahead_len]; exact hb)
  rwa [ahead_len] at this

set_option maxRecDepth 100000 in
set_option maxHeartbeats 8000000 in
theorem walk_FnPatchLater (a : Option Addr) (len cap : Nat) (a' : Option Addr) (len' cap' : Nat) (w : World) (h : Code w w.heap.size a len) (hc : len ≤ cap) (_h' : Code w w.heap.size a' len') (_hc' : len' ≤ cap') :
    Calls Try.prog 11 #[.slice a len cap, .slice a' len' cap'] w fun e w' => e = .returned (.bool true) ∧ Below w.heap.size w w' := by
  have H := hid h
  clear h _h' _hc'
  by_cases hl : (1048576 : Int) < len
  · go_enter Try.func11, Try.ntmps11
    go_wp2
    go_ret
    exact ⟨rfl, Below.refl _ _⟩
  by_cases hl' : (1048576 : Int) < len'
  · go_enter Try.func11, Try.ntmps11
    go_wp2
    go_ret
    exact ⟨rfl, Below.refl _ _⟩
  go_enter Try.func11, Try.ntmps11
  go_wp2_with fail
  refine (DrawDiffOf_any w a len cap (unhid H) (by omega) hc).mono ?_
  rintro e W1 ⟨v, v2, xs, ys, rfl, hD⟩
  obtain ⟨la, lc, rfl, ht, hnil, hcap⟩ := hD.v
  obtain ⟨lb, lbc, rfl, ht2, hnil2, hcap2⟩ := hD.v2
  have hlx := hD.lx
  have hly := hD.ly
  have SX := hid hD.sx
  have SY := hid hD.sy
  have CX := hid (And.intro hnil hcap)
  have CY := hid (And.intro hnil2 hcap2)
  have K1 := hid (show Kp w w.heap.size W1 [(la, xs), (lb, ys)] [] [] from ⟨hD.low, hD.low.size, (fun x hx => by
    rcases List.mem_cons.1 hx with rfl | hx
    · exact ht
    · rw [List.mem_singleton.1 hx]; exact ht2), (fun x hx => by cases hx), (fun x hx => by cases hx)⟩)
  clear hD ht hnil hcap ht2 hnil2 hcap2 H
  go_wp2_with fail
  refine (DiffOf_any xs ys la lb lc lbc _ (smallX_len (unhid SX)) (smallX_len (unhid SY)) (smallX_big (unhid SX)) (smallX_big (unhid SY)) (unhid CX).2 (unhid CY).2 ((unhid K1).txts (by simp)) ((unhid K1).txts (by simp))).mono ?_
  rintro e W2 ⟨v2, rfl, ho, hb⟩
  obtain ⟨ap, cp, rfl, hk⟩ := diff_kp (unhid K1) ho hb
  have K2 := hid hk
  clear ho hb hk K1
  have hm0 : 0 ≤ (len' : Int) % 9 := by omega
  have hm1 : (len' : Int) % 9 ≤ 8 := by omega
  have HN := hid (show (len' : Int) % 9 = ((len' % 9 : Nat) : Int) by simp)
  have hm2 : len' % 9 ≤ 8 := by omega
  go_wp2_with fail
  refine (specDiffOf_any xs ys la lb lc lbc _ (smallX_len (unhid SX)) (smallX_len (unhid SY)) (smallX_big (unhid SX)) (smallX_big (unhid SY)) ((unhid K2).txts (by simp)) ((unhid K2).txts (by simp))).mono ?_
  rintro e W3 ⟨v3, rfl, ho, hb⟩
  obtain ⟨aq, cq, rfl, hk⟩ := diff_kp (unhid K2) ho hb
  have K3 := hid hk
  clear ho hb hk K2
  have SD := hid (show smallK (diffL xs ys) from diffOf_small xs ys (unhid SX) (unhid SY))
  have LD := diff_len xs ys
  rw [unhid HN]
  generalize len' % 9 = n at *
  clear HN
  go_wp2_with fail
  refine (jsHunks_same (diffL xs ys) ap aq cp cq _ (Nat.le_trans (unhid SD).1 (by simp [maxLen])) (fun h hh => smallX_len ((unhid SD).2.2 h hh)) ((unhid K3).hks (by simp)).at ((unhid K3).hks (by simp)).at).mono ?_
  rintro e W4 ⟨rfl, hb⟩
  have K4 := hid ((unhid K3).step hb)
  clear hb K3
  by_cases h0 : diffL xs ys = []
  · have h0' : (((diffL xs ys).length : Int) == 0) = true := by rw [h0]; rfl
    clear h0
    go_wp2_with fail
    refine (specDiffOf_any xs ys la lb lc lbc _ (smallX_len (unhid SX)) (smallX_len (unhid SY)) (smallX_big (unhid SX)) (smallX_big (unhid SY)) ((unhid K4).txts (by simp)) ((unhid K4).txts (by simp))).mono ?_
    rintro e W5 ⟨v5, rfl, ho, hb⟩
    obtain ⟨ar, cr, rfl, hk⟩ := diff_kp (unhid K4) ho hb
    have K5 := hid hk
    clear ho hb hk K4
    go_wp2_with fail
    refine (jsHunks_same (diffL xs ys) ap ar cp cr _ (Nat.le_trans (unhid SD).1 (by simp [maxLen])) (fun h hh => smallX_len ((unhid SD).2.2 h hh)) ((unhid K5).hks (by simp)).at ((unhid K5).hks (by simp)).at).mono ?_
    rintro e W6 ⟨rfl, hb⟩
    have K6 := hid ((unhid K5).step hb)
    clear hb K5
    go_wp2_with fail
    go_ret
    exact ⟨rfl, (unhid K6).1⟩
  have h0' : (((diffL xs ys).length : Int) == 0) = false := by rw [beq_eq_false_iff_ne]; intro e; exact h0 (List.length_eq_zero_iff.1 (by omega))
  by_cases hA : (30 : Int) < (xs.length : Int) + (n : Int)
  · clear h0
    go_wp2_with fail
    refine (specDiffOf_any xs ys la lb lc lbc _ (smallX_len (unhid SX)) (smallX_len (unhid SY)) (smallX_big (unhid SX)) (smallX_big (unhid SY)) ((unhid K4).txts (by simp)) ((unhid K4).txts (by simp))).mono ?_
    rintro e W5 ⟨v5, rfl, ho, hb⟩
    obtain ⟨ar, cr, rfl, hk⟩ := diff_kp (unhid K4) ho hb
    have K5 := hid hk
    clear ho hb hk K4
    go_wp2_with fail
    refine (jsHunks_same (diffL xs ys) ap ar cp cr _ (Nat.le_trans (unhid SD).1 (by simp [maxLen])) (fun h hh => smallX_len ((unhid SD).2.2 h hh)) ((unhid K5).hks (by simp)).at ((unhid K5).hks (by simp)).at).mono ?_
    rintro e W6 ⟨rfl, hb⟩
    have K6 := hid ((unhid K5).step hb)
    clear hb K5
    go_wp2_with fail
    go_ret
    exact ⟨rfl, (unhid K6).1⟩
  by_cases hB : (30 : Int) < (ys.length : Int) + (n : Int)
  · clear h0
    go_wp2_with fail
    refine (specDiffOf_any xs ys la lb lc lbc _ (smallX_len (unhid SX)) (smallX_len (unhid SY)) (smallX_big (unhid SX)) (smallX_big (unhid SY)) ((unhid K4).txts (by simp)) ((unhid K4).txts (by simp))).mono ?_
    rintro e W5 ⟨v5, rfl, ho, hb⟩
    obtain ⟨ar, cr, rfl, hk⟩ := diff_kp (unhid K4) ho hb
    have K5 := hid hk
    clear ho hb hk K4
    go_wp2_with fail
    refine (jsHunks_same (diffL xs ys) ap ar cp cr _ (Nat.le_trans (unhid SD).1 (by simp [maxLen])) (fun h hh => smallX_len ((unhid SD).2.2 h hh)) ((unhid K5).hks (by simp)).at ((unhid K5).hks (by simp)).at).mono ?_
    rintro e W6 ⟨rfl, hb⟩
    have K6 := hid ((unhid K5).step hb)
    clear hb K5
    go_wp2_with fail
    go_ret
    exact ⟨rfl, (unhid K6).1⟩
  have PP := hid (later_facts (a := xs) (b := ys) (n := n) h0 hm2 (by omega) (by omega))
  have PH := hid (patch_diff (a := xs) (b := ys) h0).2.2.2
  obtain ⟨h, hh⟩ : ∃ h, diffL xs ys = [h] := ⟨_, (diffL_some h0).1⟩
  have HB := hid (hkB_parts ((hunksB_mem (hs := [h]) (by rw [← hh]; exact unhid PH)).2 h (by simp)).1)
  clear h0 PH
  generalize diffL xs ys = D at *
  have HD := hid hh
  have hDl : 0 < D.length := by rw [hh]; simp
  clear hh
  have HR := hid (emptyRow W4 W4.heap.size 9 (Nat.le_refl _))
  have HW := hid ((Below.refl W4.heap.size W4).alloc (Nat.le_refl _) (.cells #[] 9))
  go_wp2_with fail
  go_loopw [9, 10] (fun o i wr => ∃ (k : Nat) (oa : Option Addr) (oc : Nat), k ≤ n ∧ i = .int .i64 (k : Int) ∧ o = .slice oa k oc ∧ Hid (wr.ownsRow W4.heap.size 9 1 (.slice oa k oc) k ((aheadL k).map Value.string)) ∧ Hid (Below W4.heap.size W4 wr)) (fun _ i _ => n - (intOf i).toNat)
  case atStart => exact ⟨0, some ⟨W4.heap.size, 0, none⟩, 0, by omega, rfl, rfl, HR, HW⟩
  case round =>
    clear HR HW
    obtain ⟨k, oa, oc, hk, rfl, rfl, HO, HW⟩ := hrel
    by_cases hlt : k < n
    · have LK := hid (ahead_len k)
      have TN := hid (one_new wr ⟨#[110, 111, 98, 111, 100, 121, 32, 104, 97, 115, 32, 116, 104, 105, 115, 32, 108, 105, 110, 101]⟩)
      have HO1 := hid (show (wr.alloc (.cells #[.string ⟨#[110, 111, 98, 111, 100, 121, 32, 104, 97, 115, 32, 116, 104, 105, 115, 32, 108, 105, 110, 101]⟩] 9)).ownsRow W4.heap.size 9 1 (.slice oa k oc) (aheadL k).length ((aheadL k).map Value.string) by rw [unhid LK]; exact (unhid HO).alloc _)
      have hbase : W4.heap.size ≤ (wr.alloc (.cells #[.string ⟨#[110, 111, 98, 111, 100, 121, 32, 104, 97, 115, 32, 116, 104, 105, 115, 32, 108, 105, 110, 101]⟩] 9)).heap.size := by have := (unhid HW).size; simp; omega
      have HW1 := hid ((unhid HW).alloc (unhid HW).size (.cells #[.string ⟨#[110, 111, 98, 111, 100, 121, 32, 104, 97, 115, 32, 116, 104, 105, 115, 32, 108, 105, 110, 101]⟩] 9))
      have hln : (aheadL k).length ≤ 8 := by rw [unhid LK]; omega
      have AS := hid (ahead_snoc k)
      generalize hal : aheadL k = al at *
      clear hal
      clear HO HW
      go_wp2_with (at_builtin; refine wp_app rfl _ _ rfl W4.heap.size (.slice oa k oc) al [⟨#[110, 111, 98, 111, 100, 121, 32, 104, 97, 115, 32, 116, 104, 105, 115, 32, 108, 105, 110, 101]⟩] (some ⟨wr.heap.size, 0, none⟩) 1 rfl rfl (unhid HO1) (unhid TN) (fun e => by cases e) (by simp only [List.length_cons, List.length_nil]; omega) hbase ?_)
      intro v' W20 ho hg _
      have ho2 : W20.ownsRow W4.heap.size 9 1 v' (k + 1) ((aheadL (k + 1)).map Value.string) := by rw [← unhid AS]; simpa [unhid LK] using ho
      obtain ⟨oa2, oc2, hv⟩ := ownsRow_sliceX ho2
      subst hv
      have HO2 := hid ho2
      have HW2 := hid ((unhid HW1).grown hg hbase (fun j e => ((unhid HO1).lt j e).1))
      clear ho ho2 hg HO1 HW1 TN AS LK
      go_wp2_with fail
      go_roundw
      case rel => exact ⟨k + 1, oa2, oc2, by omega, by go_num, rfl, HO2, HW2⟩
      case measure => simp [intOf]; omega
    · have e : k = n := by omega
      subst e
      have LK := hid (ahead_len k)
      have OK := hid (ahead_size k)
      have HO1 := hid (show wr.ownsRow W4.heap.size 9 1 (.slice oa k oc) (aheadL k).length ((aheadL k).map Value.string) by rw [unhid LK]; exact unhid HO)
      clear HO
      generalize aheadL k = al at *
      obtain rfl : k = al.length := (unhid LK).symm
      clear LK
      obtain ⟨oa', oc', hov, hot, hon, hocap⟩ := owns_cap (unhid HO1)
      injection hov with e1 e2 e3
      subst e1
      subst e3
      clear e2
      have K20 := hid ((unhid K4).step (unhid HW))
      have hB2 : Below wr.heap.size wr (wr.alloc (.cells #[] 9)) := (Below.refl _ _).alloc (Nat.le_refl _) _
      have HT := hid (hot.below hB2)
      have HN := hid hon
      have r0 := hid (emptyRow wr wr.heap.size 9 (Nat.le_refl _))
      have hS : wr.heap.size ≤ (wr.alloc (.cells #[] 9)).heap.size := hB2.size
      have HB2 := hid hB2
      have K21 := hid ((unhid K20).alloc (.cells #[] 9))
      clear hot hon hB2 HO1 HW K4
      go_wp2_with (at_builtin; refine wp_app rfl _ _ rfl wr.heap.size (.slice (some ⟨wr.heap.size, 0, none⟩) 0 0) [] al oa oc rfl rfl (unhid r0) (unhid HT) (unhid HN) (by simp only [List.length_nil]; omega) hS ?_)
      intro v1 W21 ho hg _
      have ho1 : W21.ownsRow wr.heap.size 9 1 v1 al.length (al.map Value.string) := by simpa using ho
      have HB3 := hid ((unhid HB2).grown hg hS (fun j e => ((unhid r0).lt j e).1))
      have K22 := hid ((unhid K20).step (unhid HB3))
      have HO1 := hid ho1
      have hS1 : wr.heap.size ≤ W21.heap.size := (unhid HB3).size
      clear ho ho1 hg HB2 HT HN r0 hS K21
      go_wp2_with (at_builtin; refine wp_app rfl _ _ rfl wr.heap.size v1 al xs la lc rfl rfl (unhid HO1) ((unhid K22).txts (by simp)) (unhid CX).1 (by omega) hS1 ?_)
      intro v2 W22 ho hg _
      have ho2 : W22.ownsRow wr.heap.size 9 1 v2 (al ++ xs).length ((al ++ xs).map Value.string) := by simpa using ho
      have HB4 := hid ((unhid HB3).grown hg hS1 (fun j e => ((unhid HO1).lt j e).1))
      obtain ⟨az, cz, hv, htz, hnz, hcz⟩ := owns_cap ho2
      subst hv
      have K23 := hid (((unhid K20).step (unhid HB4)).putT htz)
      have CZ := hid (And.intro hnz hcz)
      have SZ := hid (show smallX (al ++ xs) from ⟨by rw [List.length_append]; omega, fun x hx => by
        rcases List.mem_append.1 hx with hx | hx
        · exact unhid OK x hx
        · exact (unhid SX).2 x hx⟩)
      clear ho ho2 hg htz hnz hcz HB3 HB4 K20 K22 HO1 OK
      generalize al ++ xs = zs at *
      go_wp2_with fail
      refine (Patch_any zs D 0 az ap cz cp _ (smallX_len (unhid SZ)) (smallX_big (unhid SZ)) (unhid CZ).2 (unhid CZ).1 (Nat.le_trans (unhid SD).1 (by simp [maxLen])) (smallK_big (unhid SD)) ((unhid K23).txts (by simp)) ((unhid K23).hks (by simp))).mono ?_
      rintro e W24 ho
      obtain ⟨ax, cx, ix, jx, rfl, -, -, h2, hk⟩ := patch_kp (unhid K23) ho
      have K24 := hid hk
      clear ho hk K23
      generalize patch_0 zs D 0 = x0 at *
      generalize patch_1 zs D 0 = x1 at *
      generalize patch_2 zs D 0 = x2 at *
      obtain ⟨e2, e0, far, e1, hf⟩ := unhid PP
      subst e2
      subst e1
      have E0 := hid e0
      clear e0 PP
      go_wp2_with fail
      go_loopw [14, 15] (fun b i wl => ∃ (k : Nat) (bb : Bool), k ≤ h.lines.length ∧ i = .int .i64 (k : Int) ∧ b = .bool bb ∧ Hid (wl = W24)) (fun _ i _ => h.lines.length - (intOf i).toNat)
      case atStart => exact ⟨0, false, by omega, rfl, rfl, hid rfl⟩
      case round =>
        obtain ⟨k, bb, hk, rfl, rfl, HWL⟩ := hrel
        obtain rfl := unhid HWL
        obtain ⟨hb, ho, rfl, hbl, hc⟩ := ((unhid K24).hks (show (ap, D) ∈ _ by simp)).get (by intro e; rw [e] at hDl; simp at hDl)
        obtain ⟨ll, llc, c0, c1, ht, -⟩ := hc 0 h (by rw [unhid HD]; rfl)
        simp only [Nat.zero_mul, Nat.add_zero] at c0 c1
        have HT := hid ht
        have hln := (unhid HB).2.1
        have HLB := hid (unhid HB).2.2
        have LS := hid ((unhid SD).2.2 h (by rw [unhid HD]; simp)).2
        clear hc ht hbl c0
        by_cases hlt : k < h.lines.length
        · obtain ⟨x, hex⟩ : ∃ e, h.lines[k]? = some e := ⟨h.lines[k], List.getElem?_eq_getElem hlt⟩
          obtain ⟨lb2, lo, rfl, hlb, hlc⟩ := (unhid HT).get (by intro e; rw [e] at hlt; simp at hlt)
          have c2 := hlc k x hex
          have z1 := linesB_pos (unhid HLB) x (List.mem_of_getElem? hex)
          have z3 : x.size ≤ 9223372036854775807 := Nat.le_trans (unhid LS x (List.mem_of_getElem? hex)) (by omega)
          clear hlc hex hlb
          cases bb
          · go_wp2_with fail
            go_roundw
            case rel => exact ⟨k + 1, _, by omega, by go_num, rfl, hid (by simp)⟩
            case measure => simp [intOf]; omega
          · go_wp2_with fail
            go_roundw
            case rel => exact ⟨k + 1, true, by omega, by go_num, rfl, hid (by simp)⟩
            case measure => simp [intOf]; omega
        · have e : k = h.lines.length := by omega
          subst e
          have hq1 : ((x0.length : Int) == ((al.length : Int) + (ys.length : Int))) = true := by rw [unhid E0]; simp
          cases bb
          · go_wp2_with fail
            go_ret
            exact ⟨rfl, (unhid K24).1⟩
          · obtain ⟨ib, io, rfl, hib, hic⟩ := ((unhid K24).ints (show (ix, [far]) ∈ _ by simp)).get (by simp)
            have c3 := hic 0 far rfl
            simp only [Nat.add_zero] at c3
            clear hic hib
            go_wp2_with fail
            go_ret
            exact ⟨rfl, (unhid K24).1⟩

set_option maxRecDepth 100000 in
set_option maxHeartbeats 1000000 in
theorem lifted_FnPatchLater (os : Os) (started : os.Started) (H : Type) (enc : TypeId × Value → H) :
    ReturnsInHanded {} Try.checked os 11 .any (Rows.fnPatchLaterSpec.pre6 enc Try.prog Try.f11 Rows.fnPatchLaterRow.domain false) (Rows.fnPatchLaterSpec.post enc Try.prog Try.f11 false true false false) := by
  refine returnsInHanded_of_change (C := Try.checked) own started (by kernel_rfl) Try.func11
    (ChangeSpec.witness6 (enc := enc) (C := Try.checked) false ⟨#[], #[.slice none 0 0, .slice none 0 0], []⟩ 8 (by kernel_rfl) (by kernel_rfl) (by kernel_rfl) (by kernel_rfl)) ?_
  intro W base args ds gs before hval0 hW _ _
  have hval : ∀ (j : Nat) t v, Try.f11.params[j]? = some t → args[j]? = some v → Value.okWide Try.prog W .any base t v := hval0
  have hW' := hW
  obtain ⟨p, q, hA0, hV, rfl, hfz, hnd⟩ := hW
  have hA : DataW.TrodAll enc Try.prog W 0 (fun _ => true) true Try.f11.params.toList args.toList ds p := hA0
  rw [Try.params11] at hA hval
  obtain ⟨v0, vs0, d0, ds0, p0, q0, e0, rfl, rfl, h0, r0⟩ := trodAll_cons hA
  obtain ⟨v1, vs1, d1, ds1, p1, q1, e1, rfl, rfl, h1, r1⟩ := trodAll_cons r0
  obtain ⟨rfl, rfl, rfl⟩ := trodAll_nil r1
  obtain rfl : args = #[v0, v1] := by cases args; simp_all
  obtain ⟨rfl, rfl⟩ := trodVars_none hV
  have hlt : ∀ x ∈ p0 ++ p1, x.block < W.heap.size := fun x hx => by simpa using hW'.lt x (by simpa using hx)
  have t0 := h0
  have l0 : ∀ x ∈ p0, x.block < W.heap.size := fun x hx => hlt x (by simp [hx])
  have t1 := h1
  have l1 : ∀ x ∈ p1, x.block < W.heap.size := fun x hx => hlt x (by simp [hx])
  obtain ⟨a0, len0, cap0, rfl⟩ := okWide_slice Try.underlying41 (hval 0 41 v0 rfl rfl)
  obtain ⟨hc0, hn0⟩ := code_of h0 l0
  obtain ⟨a1, len1, cap1, rfl⟩ := okWide_slice Try.underlying41 (hval 1 41 v1 rfl rfl)
  obtain ⟨hc1, hn1⟩ := code_of h1 l1
  clear hA0 hval0
  refine (walk_FnPatchLater a0 len0 cap0 a1 len1 cap1 W hc0 hn0 hc1 hn1).mono fun e W' ⟨he, hb⟩ => ?_
  subst he
  exact ⟨_, rfl, post_below (gs := []) (pv := []) hW' (fun _ _ _ => trodAll_cons_mk (shut_bool Try.underlying4 _) trodAll_mk0) (trodAll_cons_mk (Below.trod laidOut (by kernel_rfl) (of_decide_eq_true (by kernel_rfl)) t0 hb l0) (trodAll_cons_mk (Below.trod laidOut (by kernel_rfl) (of_decide_eq_true (by kernel_rfl)) t1 hb l1) trodAll_mk0)) rfl (by simp) hb⟩

theorem fnPatchLater_holds : Rows.FnPatchLaterSaid :=
  OpenClaim.holds_of_wide 11 Try.f11 rfl rfl rfl rfl rfl rfl rfl ⟨rfl, rfl, rfl, rfl, rfl⟩ rfl rfl rfl rfl rfl (by kernel_rfl) Try.func11 (by kernel_rfl)
    (of_decide_eq_true (by kernel_rfl)) (by unfold Func.isWrapper; first | (rw [if_pos (by decide +kernel)]; kernel_rfl) | (rw [if_neg (by decide +kernel)]; exact ⟨rfl, rfl⟩))
    (fun os started H enc _ => lifted_FnPatchLater os started H enc)
end Go.Proofs.Ytedimkcnemhhpaa
