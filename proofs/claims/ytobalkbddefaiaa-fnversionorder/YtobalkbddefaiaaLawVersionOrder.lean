/- Of every two codes: drawn versions: FnVersionOrder answers true; the codes are as they were. No condition. -/
import Derived.Test.YtobalkbddefaiaaRowCode
import Derived.Test.YtobalkbddefaiaaVersMath2
import Derived.Test.YtobalkbddefaiaaDrawVers
namespace Go.Proofs.Ytobalkbddefaiaa
open Go.ChangeShapes Go.WideShapes Go.ChangeAt Go.RowKit

theorem Code.kept {w w' : World} {B : Nat} {a : Option Addr} {len : Nat} (h : Code w B a len) (hb : Below B w w') : Code w' B a len := by
  rcases h with h | ⟨blk, off, ha, hk, hc⟩
  · exact .inl h
  · refine .inr ⟨blk, off, ha, hk, fun k hlt => ?_⟩
    obtain ⟨c, h1, h2⟩ := hc k hlt
    exact ⟨c, h1, (hb.cell (p := ⟨blk, off + k, none⟩) hk).trans h2⟩
theorem Code.wide {w : World} {B B' : Nat} {a : Option Addr} {len : Nat} (h : Code w B a len) (hb : B ≤ B') : Code w B' a len := by
  rcases h with h | ⟨blk, off, ha, hk, hc⟩
  · exact .inl h
  · exact .inr ⟨blk, off, ha, by omega, hc⟩

set_option maxRecDepth 100000 in
set_option maxHeartbeats 4000000 in
theorem walk_FnVersionOrder (a : Option Addr) (len cap : Nat) (a' : Option Addr) (len' cap' : Nat) (w : World) (h : Code w w.heap.size a len) (hc : len ≤ cap) (h' : Code w w.heap.size a' len') (hc' : len' ≤ cap') :
    Calls Try.prog 3 #[.slice a len cap, .slice a' len' cap'] w fun e w' => e = .returned (.bool true) ∧ Below w.heap.size w w' := by
  have H := hid h
  have H' := hid h'
  clear h h'
  by_cases hl : (1048576 : Int) < len
  · go_enter Try.func3, Try.ntmps3
    go_wp2
    go_ret
    exact ⟨rfl, Below.refl _ _⟩
  by_cases hl' : (1048576 : Int) < len'
  · go_enter Try.func3, Try.ntmps3
    go_wp2
    go_ret
    exact ⟨rfl, Below.refl _ _⟩
  go_enter Try.func3, Try.ntmps3
  go_wp2_with fail
  refine (DrawVersionOrder_any w a len cap (unhid H) (by omega) hc).mono ?_
  rintro e w1 ⟨x, y, rfl, hx0, hy0, hb1⟩
  have hx : x.size ≤ 100 := hx0
  have hy : y.size ≤ 100 := hy0
  have xm : x.size ≤ maxLen := by unfold maxLen; omega
  have ym : y.size ≤ maxLen := by unfold maxLen; omega
  have K1 := hid hb1
  have H1 := hid (((unhid H').kept hb1).wide hb1.size)
  clear hb1 hx0 hy0 H H'
  go_wp2_with fail
  refine (DrawVersionOrder_any w1 a' len' cap' (unhid H1) (by omega) hc').mono ?_
  rintro e w2 ⟨z, z2, rfl, hz0, -, hb⟩
  have hz : z.size ≤ 100 := hz0
  have zm : z.size ≤ maxLen := by unfold maxLen; omega
  have K2 := hid ((unhid K1).trans (hb.mono (unhid K1).size))
  clear hb hz0 H1 K1
  have e0 : (x ++ (⟨#[46, 48]⟩ : ByteArray)).size ≤ 102 := by rw [ByteArray.size_append]; show x.size + 2 ≤ 102; omega
  have O0 := hid (show versOk x.data.toList = true → versOk (x ++ (⟨#[46, 48]⟩ : ByteArray)).data.toList = true → ordI x.data.toList (x ++ (⟨#[46, 48]⟩ : ByteArray)).data.toList = -1 by rw [app_data]; exact ordI_more)
  have OZ := hid (fun h1 h2 => (ord_zero (a := x.data.toList) (b := y.data.toList) h1 h2))
  have OT := hid (fun h1 h2 h3 => (ordI_trans (a := x.data.toList) (b := y.data.toList) (c := z.data.toList) h1 h2 h3))
  have hturn := ordI_turn x.data.toList y.data.toList
  go_wp2_with fail
  refine (VersionOrder_any x y xm ym _).mono ?_
  rintro e w3 ⟨rfl, hb⟩
  have K3 := hid ((unhid K2).trans (hb.mono (unhid K2).size))
  clear hb K2
  have hrange := ordI_range x.data.toList y.data.toList
  generalize ho : ordI x.data.toList y.data.toList = o at *
  have HO := hid ho
  clear ho
  have HT := hid hturn
  clear hturn
  go_wp2_with fail
  refine (specVersionOrder_any x y (by omega) (by omega) _).mono ?_
  rintro e w4 ⟨rfl, hb⟩
  have K4 := hid ((unhid K3).trans (hb.mono (unhid K3).size))
  clear hb K3
  rw [unhid HO]
  go_wp2_with fail
  refine (VersionOrder_any y x ym xm _).mono ?_
  rintro e w5 ⟨rfl, hb⟩
  have K5 := hid ((unhid K4).trans (hb.mono (unhid K4).size))
  clear hb K4
  rw [unhid HT]
  go_wp2_with fail
  refine (specVersionOk_any x (by omega) _).mono ?_
  rintro e w6 ⟨rfl, hb⟩
  have K6 := hid ((unhid K5).trans (hb.mono (unhid K5).size))
  clear hb K5
  cases hvx : versOk x.data.toList
  · have HVX := hid hvx
    clear hvx
    go_wp2_with fail
    refine (specVersionOrder_any x y (by omega) (by omega) _).mono ?_
    rintro e w7 ⟨rfl, hb⟩
    have K7 := hid ((unhid K6).trans (hb.mono (unhid K6).size))
    clear hb K6
    rw [unhid HO]
    go_wp2_with fail
    refine (VersionOrder_any y x ym xm _).mono ?_
    rintro e w8 ⟨rfl, hb⟩
    have K8 := hid ((unhid K7).trans (hb.mono (unhid K7).size))
    clear hb K7
    rw [unhid HT]
    go_wp2_with fail
    go_ret
    exact ⟨rfl, unhid K8⟩
  have HVX := hid hvx
  clear hvx
  go_wp2_with fail
  refine (specVersionOk_any y (by omega) _).mono ?_
  rintro e w7 ⟨rfl, hb⟩
  have K7 := hid ((unhid K6).trans (hb.mono (unhid K6).size))
  clear hb K6
  cases hvy : versOk y.data.toList
  · have HVY := hid hvy
    clear hvy
    go_wp2_with fail
    refine (specVersionOrder_any x y (by omega) (by omega) _).mono ?_
    rintro e w8 ⟨rfl, hb⟩
    have K8 := hid ((unhid K7).trans (hb.mono (unhid K7).size))
    clear hb K7
    rw [unhid HO]
    go_wp2_with fail
    refine (VersionOrder_any y x ym xm _).mono ?_
    rintro e w9 ⟨rfl, hb⟩
    have K9 := hid ((unhid K8).trans (hb.mono (unhid K8).size))
    clear hb K8
    rw [unhid HT]
    go_wp2_with fail
    go_ret
    exact ⟨rfl, unhid K9⟩
  have HVY := hid hvy
  clear hvy
  go_wp2_with fail
  refine (specVersionOk_any z (by omega) _).mono ?_
  rintro e w8 ⟨rfl, hb⟩
  have K8 := hid ((unhid K7).trans (hb.mono (unhid K7).size))
  clear hb K7
  cases hvz : versOk z.data.toList
  · have HVZ := hid hvz
    clear hvz
    go_wp2_with fail
    refine (specVersionOrder_any x y (by omega) (by omega) _).mono ?_
    rintro e w9 ⟨rfl, hb⟩
    have K9 := hid ((unhid K8).trans (hb.mono (unhid K8).size))
    clear hb K8
    rw [unhid HO]
    go_wp2_with fail
    refine (VersionOrder_any y x ym xm _).mono ?_
    rintro e w10 ⟨rfl, hb⟩
    have K10 := hid ((unhid K9).trans (hb.mono (unhid K9).size))
    clear hb K9
    rw [unhid HT]
    go_wp2_with fail
    go_ret
    exact ⟨rfl, unhid K10⟩
  have HVZ := hid hvz
  clear hvz
  have hz0 := unhid OZ (unhid HVX) (unhid HVY)
  have hq : (x.toList == y.toList) = (o == 0) := by rw [Lib.toList_data, Lib.toList_data]; exact hz0.symm
  clear hz0
  rcases hrange with rfl | rfl | rfl
  · go_wp2_with fail
    refine (VersionOrder_any y z ym zm _).mono ?_
    rintro e w9 ⟨rfl, hb⟩
    have K9 := hid ((unhid K8).trans (hb.mono (unhid K8).size))
    clear hb K8
    have h2 := ordI_range y.data.toList z.data.toList
    generalize ho2 : ordI y.data.toList z.data.toList = o2 at *
    have HO2 := hid ho2
    clear ho2
    rcases h2 with rfl | rfl | rfl
    · have h3 := unhid OT (unhid HVX) (unhid HVY) (unhid HVZ) (by omega) (by omega)
      go_wp2_with fail
      refine (VersionOrder_any x z xm zm _).mono ?_
      rintro e w10 ⟨rfl, hb⟩
      have K10 := hid ((unhid K9).trans (hb.mono (unhid K9).size))
      clear hb K9
      generalize ordI x.data.toList z.data.toList = o3 at *
      go_wp2_with fail
      refine (VersionOk_any (x ++ (⟨#[46, 48]⟩ : ByteArray)) (by unfold maxLen; omega) _).mono ?_
      rintro e w11 ⟨rfl, hb⟩
      have K11 := hid ((unhid K10).trans (hb.mono (unhid K10).size))
      clear hb K10
      cases hV : versOk (x ++ (⟨#[46, 48]⟩ : ByteArray)).data.toList
      · go_wp2_with fail
        go_ret
        exact ⟨rfl, unhid K11⟩
      · have E9 := hid (unhid O0 (unhid HVX) hV)
        clear hV
        go_wp2_with fail
        refine (VersionOrder_any x (x ++ (⟨#[46, 48]⟩ : ByteArray)) (by unfold maxLen; omega) (by unfold maxLen; omega) _).mono ?_
        rintro e w12 ⟨rfl, hb⟩
        have K12 := hid ((unhid K11).trans (hb.mono (unhid K11).size))
        clear hb K11
        rw [unhid E9]
        go_wp2_with fail
        go_ret
        exact ⟨rfl, unhid K12⟩
    · have h3 := unhid OT (unhid HVX) (unhid HVY) (unhid HVZ) (by omega) (by omega)
      go_wp2_with fail
      refine (VersionOrder_any x z xm zm _).mono ?_
      rintro e w10 ⟨rfl, hb⟩
      have K10 := hid ((unhid K9).trans (hb.mono (unhid K9).size))
      clear hb K9
      generalize ordI x.data.toList z.data.toList = o3 at *
      go_wp2_with fail
      refine (VersionOk_any (x ++ (⟨#[46, 48]⟩ : ByteArray)) (by unfold maxLen; omega) _).mono ?_
      rintro e w11 ⟨rfl, hb⟩
      have K11 := hid ((unhid K10).trans (hb.mono (unhid K10).size))
      clear hb K10
      cases hV : versOk (x ++ (⟨#[46, 48]⟩ : ByteArray)).data.toList
      · go_wp2_with fail
        go_ret
        exact ⟨rfl, unhid K11⟩
      · have E9 := hid (unhid O0 (unhid HVX) hV)
        clear hV
        go_wp2_with fail
        refine (VersionOrder_any x (x ++ (⟨#[46, 48]⟩ : ByteArray)) (by unfold maxLen; omega) (by unfold maxLen; omega) _).mono ?_
        rintro e w12 ⟨rfl, hb⟩
        have K12 := hid ((unhid K11).trans (hb.mono (unhid K11).size))
        clear hb K11
        rw [unhid E9]
        go_wp2_with fail
        go_ret
        exact ⟨rfl, unhid K12⟩
    · go_wp2_with fail
      refine (VersionOk_any (x ++ (⟨#[46, 48]⟩ : ByteArray)) (by unfold maxLen; omega) _).mono ?_
      rintro e w10 ⟨rfl, hb⟩
      have K10 := hid ((unhid K9).trans (hb.mono (unhid K9).size))
      clear hb K9
      cases hV : versOk (x ++ (⟨#[46, 48]⟩ : ByteArray)).data.toList
      · go_wp2_with fail
        go_ret
        exact ⟨rfl, unhid K10⟩
      · have E9 := hid (unhid O0 (unhid HVX) hV)
        clear hV
        go_wp2_with fail
        refine (VersionOrder_any x (x ++ (⟨#[46, 48]⟩ : ByteArray)) (by unfold maxLen; omega) (by unfold maxLen; omega) _).mono ?_
        rintro e w11 ⟨rfl, hb⟩
        have K11 := hid ((unhid K10).trans (hb.mono (unhid K10).size))
        clear hb K10
        rw [unhid E9]
        go_wp2_with fail
        go_ret
        exact ⟨rfl, unhid K11⟩
  · go_wp2_with fail
    refine (VersionOrder_any y z ym zm _).mono ?_
    rintro e w9 ⟨rfl, hb⟩
    have K9 := hid ((unhid K8).trans (hb.mono (unhid K8).size))
    clear hb K8
    have h2 := ordI_range y.data.toList z.data.toList
    generalize ho2 : ordI y.data.toList z.data.toList = o2 at *
    have HO2 := hid ho2
    clear ho2
    rcases h2 with rfl | rfl | rfl
    · have h3 := unhid OT (unhid HVX) (unhid HVY) (unhid HVZ) (by omega) (by omega)
      go_wp2_with fail
      refine (VersionOrder_any x z xm zm _).mono ?_
      rintro e w10 ⟨rfl, hb⟩
      have K10 := hid ((unhid K9).trans (hb.mono (unhid K9).size))
      clear hb K9
      generalize ordI x.data.toList z.data.toList = o3 at *
      go_wp2_with fail
      refine (VersionOk_any (x ++ (⟨#[46, 48]⟩ : ByteArray)) (by unfold maxLen; omega) _).mono ?_
      rintro e w11 ⟨rfl, hb⟩
      have K11 := hid ((unhid K10).trans (hb.mono (unhid K10).size))
      clear hb K10
      cases hV : versOk (x ++ (⟨#[46, 48]⟩ : ByteArray)).data.toList
      · go_wp2_with fail
        go_ret
        exact ⟨rfl, unhid K11⟩
      · have E9 := hid (unhid O0 (unhid HVX) hV)
        clear hV
        go_wp2_with fail
        refine (VersionOrder_any x (x ++ (⟨#[46, 48]⟩ : ByteArray)) (by unfold maxLen; omega) (by unfold maxLen; omega) _).mono ?_
        rintro e w12 ⟨rfl, hb⟩
        have K12 := hid ((unhid K11).trans (hb.mono (unhid K11).size))
        clear hb K11
        rw [unhid E9]
        go_wp2_with fail
        go_ret
        exact ⟨rfl, unhid K12⟩
    · have h3 := unhid OT (unhid HVX) (unhid HVY) (unhid HVZ) (by omega) (by omega)
      go_wp2_with fail
      refine (VersionOrder_any x z xm zm _).mono ?_
      rintro e w10 ⟨rfl, hb⟩
      have K10 := hid ((unhid K9).trans (hb.mono (unhid K9).size))
      clear hb K9
      generalize ordI x.data.toList z.data.toList = o3 at *
      go_wp2_with fail
      refine (VersionOk_any (x ++ (⟨#[46, 48]⟩ : ByteArray)) (by unfold maxLen; omega) _).mono ?_
      rintro e w11 ⟨rfl, hb⟩
      have K11 := hid ((unhid K10).trans (hb.mono (unhid K10).size))
      clear hb K10
      cases hV : versOk (x ++ (⟨#[46, 48]⟩ : ByteArray)).data.toList
      · go_wp2_with fail
        go_ret
        exact ⟨rfl, unhid K11⟩
      · have E9 := hid (unhid O0 (unhid HVX) hV)
        clear hV
        go_wp2_with fail
        refine (VersionOrder_any x (x ++ (⟨#[46, 48]⟩ : ByteArray)) (by unfold maxLen; omega) (by unfold maxLen; omega) _).mono ?_
        rintro e w12 ⟨rfl, hb⟩
        have K12 := hid ((unhid K11).trans (hb.mono (unhid K11).size))
        clear hb K11
        rw [unhid E9]
        go_wp2_with fail
        go_ret
        exact ⟨rfl, unhid K12⟩
    · go_wp2_with fail
      refine (VersionOk_any (x ++ (⟨#[46, 48]⟩ : ByteArray)) (by unfold maxLen; omega) _).mono ?_
      rintro e w10 ⟨rfl, hb⟩
      have K10 := hid ((unhid K9).trans (hb.mono (unhid K9).size))
      clear hb K9
      cases hV : versOk (x ++ (⟨#[46, 48]⟩ : ByteArray)).data.toList
      · go_wp2_with fail
        go_ret
        exact ⟨rfl, unhid K10⟩
      · have E9 := hid (unhid O0 (unhid HVX) hV)
        clear hV
        go_wp2_with fail
        refine (VersionOrder_any x (x ++ (⟨#[46, 48]⟩ : ByteArray)) (by unfold maxLen; omega) (by unfold maxLen; omega) _).mono ?_
        rintro e w11 ⟨rfl, hb⟩
        have K11 := hid ((unhid K10).trans (hb.mono (unhid K10).size))
        clear hb K10
        rw [unhid E9]
        go_wp2_with fail
        go_ret
        exact ⟨rfl, unhid K11⟩
  · go_wp2_with fail
    refine (VersionOk_any (x ++ (⟨#[46, 48]⟩ : ByteArray)) (by unfold maxLen; omega) _).mono ?_
    rintro e w9 ⟨rfl, hb⟩
    have K9 := hid ((unhid K8).trans (hb.mono (unhid K8).size))
    clear hb K8
    cases hV : versOk (x ++ (⟨#[46, 48]⟩ : ByteArray)).data.toList
    · go_wp2_with fail
      go_ret
      exact ⟨rfl, unhid K9⟩
    · have E9 := hid (unhid O0 (unhid HVX) hV)
      clear hV
      go_wp2_with fail
      refine (VersionOrder_any x (x ++ (⟨#[46, 48]⟩ : ByteArray)) (by unfold maxLen; omega) (by unfold maxLen; omega) _).mono ?_
      rintro e w10 ⟨rfl, hb⟩
      have K10 := hid ((unhid K9).trans (hb.mono (unhid K9).size))
      clear hb K9
      rw [unhid E9]
      go_wp2_with fail
      go_ret
      exact ⟨rfl, unhid K10⟩

set_option maxRecDepth 100000 in
set_option maxHeartbeats 1000000 in
theorem lifted_FnVersionOrder (os : Os) (started : os.Started) (H : Type) (enc : TypeId × Value → H) :
    ReturnsInHanded {} Try.checked os 3 .any (Rows.fnVersionOrderSpec.pre6 enc Try.prog Try.f3 Rows.fnVersionOrderRow.domain false) (Rows.fnVersionOrderSpec.post enc Try.prog Try.f3 false true false false) := by
  refine returnsInHanded_of_change (C := Try.checked) own started (by kernel_rfl) Try.func3
    (ChangeSpec.witness6 (enc := enc) (C := Try.checked) false ⟨#[], #[.slice none 0 0, .slice none 0 0], []⟩ 8 (by kernel_rfl) (by kernel_rfl) (by kernel_rfl) (by kernel_rfl)) ?_
  intro W base args ds gs before hval0 hW _ _
  have hval : ∀ (j : Nat) t v, Try.f3.params[j]? = some t → args[j]? = some v → Value.okWide Try.prog W .any base t v := hval0
  have hW' := hW
  obtain ⟨p, q, hA0, hV, rfl, hfz, hnd⟩ := hW
  have hA : DataW.TrodAll enc Try.prog W 0 (fun _ => true) true Try.f3.params.toList args.toList ds p := hA0
  rw [Try.params3] at hA hval
  obtain ⟨v0, vs0, d0, ds0, p0, q0, e0, rfl, rfl, h0, r0⟩ := trodAll_cons hA
  obtain ⟨v1, vs1, d1, ds1, p1, q1, e1, rfl, rfl, h1, r1⟩ := trodAll_cons r0
  obtain ⟨rfl, rfl, rfl⟩ := trodAll_nil r1
  obtain rfl : args = #[v0, v1] := by cases args; simp_all
  obtain ⟨rfl, rfl⟩ := trodVars_none hV
  have hlt : ∀ x ∈ p0 ++ p1, x.block < W.heap.size := fun x hx => by simpa using hW'.lt x (by simpa using hx)
  have t0 := h0
  have l0 : ∀ x ∈ p0, x.block < W.heap.size := fun x hx => hlt x (by simp [hx])
  have t1 := h1
  have l1 : ∀ x ∈ p1, x.block < W.heap.size := fun x hx => hlt x (by simp [hx])
  obtain ⟨a0, len0, cap0, rfl⟩ := okWide_slice Try.underlying22 (hval 0 22 v0 rfl rfl)
  obtain ⟨hc0, hn0⟩ := code_of h0 l0
  obtain ⟨a1, len1, cap1, rfl⟩ := okWide_slice Try.underlying22 (hval 1 22 v1 rfl rfl)
  obtain ⟨hc1, hn1⟩ := code_of h1 l1
  clear hA0 hval0
  refine (walk_FnVersionOrder a0 len0 cap0 a1 len1 cap1 W hc0 hn0 hc1 hn1).mono fun e W' ⟨he, hb⟩ => ?_
  subst he
  exact ⟨_, rfl, post_below (gs := []) (pv := []) hW' (fun _ _ _ => trodAll_cons_mk (shut_bool Try.underlying4 _) trodAll_mk0) (trodAll_cons_mk (Below.trod laidOut (by kernel_rfl) (of_decide_eq_true (by kernel_rfl)) t0 hb l0) (trodAll_cons_mk (Below.trod laidOut (by kernel_rfl) (of_decide_eq_true (by kernel_rfl)) t1 hb l1) trodAll_mk0)) rfl (by simp) hb⟩

theorem fnVersionOrder_holds : Rows.FnVersionOrderSaid :=
  OpenClaim.holds_of_wide 3 Try.f3 rfl rfl rfl rfl rfl rfl rfl ⟨rfl, rfl, rfl, rfl, rfl⟩ rfl rfl rfl rfl rfl (by kernel_rfl) Try.func3 (by kernel_rfl)
    (of_decide_eq_true (by kernel_rfl)) (by unfold Func.isWrapper; first | (rw [if_pos (by decide +kernel)]; kernel_rfl) | (rw [if_neg (by decide +kernel)]; exact ⟨rfl, rfl⟩))
    (fun os started H enc _ => lifted_FnVersionOrder os started H enc)
end Go.Proofs.Ytobalkbddefaiaa
