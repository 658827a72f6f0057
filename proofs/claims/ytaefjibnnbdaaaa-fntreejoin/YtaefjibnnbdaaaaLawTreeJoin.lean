/- Of every code: two drawn trees: FnTreeJoin answers true; the code is as it was. No condition. -/
import Derived.Test.YtaefjibnnbdaaaaJoin9
import Derived.Test.YtaefjibnnbdaaaaJoin13
import Derived.Test.YtaefjibnnbdaaaaJoin7
namespace Go.Proofs.Ytaefjibnnbdaaaa
open Go.ChangeShapes Go.WideShapes Go.ChangeAt Go.RowKit

theorem kb_drawn2 {w W : World} {g c g2 c2 : Nat} {es fs : List Ent} (h : Drawn2 w W (.slice (some ⟨g, 0, none⟩) es.length c) es (.slice (some ⟨g2, 0, none⟩) fs.length c2) fs) : Kb w W.heap.size W [(some ⟨g2, 0, none⟩, fs), (some ⟨g, 0, none⟩, es)] [] ∧ g < W.heap.size ∧ g2 < W.heap.size := by
  obtain ⟨⟨k1, k2, k3, k4⟩, k5, _⟩ := kb_drawn h.a
  obtain ⟨⟨_, _, l3, _⟩, l5, _⟩ := kb_drawn h.b
  refine ⟨⟨k1, k2, fun x hx => ?_, k4⟩, k5, l5⟩
  rcases List.mem_cons.1 hx with rfl | hx
  · exact l3 _ (by simp)
  · exact k3 x hx

set_option maxRecDepth 100000 in
set_option maxHeartbeats 8000000 in
theorem walk_FnTreeJoin (a : Option Addr) (len cap : Nat) (w : World) (h : Code w w.heap.size a len) (hc : len ≤ cap) :
    Calls Try.prog 8 #[.slice a len cap] w fun e w' => e = .returned (.bool true) ∧ Below w.heap.size w w' := by
  have H := hid h
  clear h
  by_cases hl : (1048576 : Int) < len
  · go_enter Try.func8, Try.ntmps8
    go_wp2
    go_ret
    exact ⟨rfl, Below.refl _ _⟩
  go_enter Try.func8, Try.ntmps8
  go_wp2_with fail
  refine (DrawTreeJoin_any w a len cap (unhid H) (by omega) hc).mono ?_
  rintro e W1 ⟨v, v2, rfl, es, fs, hD⟩
  have HS := hid hD.a.small
  have HS2 := hid hD.b.small
  have hfew := hD.a.few
  have hfew2 := hD.b.few
  obtain ⟨g, c, rfl, -⟩ := hD.a.v
  obtain ⟨g2, c2, rfl, -⟩ := hD.b.v
  have K1 := hid (kb_drawn2 hD).1
  have hgB := (kb_drawn2 hD).2.1
  have hgB2 := (kb_drawn2 hD).2.2
  generalize W1.heap.size = B at K1 hgB hgB2
  have JL := joinR_len es fs
  clear hD H
  go_wp2_with fail
  refine (treeJoin_any es fs (some ⟨g, 0, none⟩) (some ⟨g2, 0, none⟩) c c2 _ (unhid HS) (unhid HS2) ((unhid K1).at (by simp)) ((unhid K1).at (by simp))).mono ?_
  rintro e W2 ⟨v2, rfl, ho, hb⟩
  obtain ⟨ax, cx, rfl⟩ := ownsRow_slice ho
  have K2 := hid ((unhid K1).push ho hb)
  clear ho hb K1
  go_wp2_with fail
  refine (specTreeJoin_any es fs g 0 c g2 0 c2 _ (unhid HS) (unhid HS2) ((unhid K2).ents (by simp)) ((unhid K2).lt hgB) ((unhid K2).ents (by simp)) ((unhid K2).lt hgB2)).mono ?_
  rintro e W3 ⟨v3, rfl, ho, hb⟩
  obtain ⟨ay, cy, rfl⟩ := ownsRow_slice ho
  have K3 := hid ((unhid K2).push ho hb)
  clear ho hb K2
  have JF := hid (fun h => join_all (es := es) (fs := fs) h)
  generalize hLg : joinR es fs = L at *
  generalize hbg : joinOk es fs = ok at *
  clear hLg hbg
  go_wp2_with fail
  refine (jsTree_any L L ax ay cx cy _ (by unfold maxLen; omega) (by unfold maxLen; omega) ((unhid K3).at (by simp)) ((unhid K3).at (by simp))).mono ?_
  rintro e W4 ⟨rfl, hb⟩
  have K4 := hid ((unhid K3).step hb)
  clear hb K3
  rw [eqEs_self]
  cases ok
  · skip
    go_wp2_with fail
    refine (jsTree_any L L ax ay cx cy _ (by unfold maxLen; omega) (by unfold maxLen; omega) ((unhid K4).at (by simp)) ((unhid K4).at (by simp))).mono ?_
    rintro e W5 ⟨rfl, hb⟩
    have K5 := hid ((unhid K4).step hb)
    clear hb K4
    rw [eqEs_self]
    go_wp2_with fail
    go_ret
    exact ⟨rfl, (unhid K5).1⟩
  obtain ⟨q1, qe, qf, qa, qb, q2, q3, q4⟩ := unhid JF rfl
  have HSL := hid (show smallE L from small_all (by omega) (tree_all q1))
  have Q := hid (And.intro q1 (And.intro qe (And.intro qf (And.intro qa (And.intro qb (And.intro q2 (And.intro q3 q4)))))))
  clear q1 qe qf qa qb q2 q3 q4 JF
  go_wp2_with fail
  refine (treeJoin_any fs es (some ⟨g2, 0, none⟩) (some ⟨g, 0, none⟩) c2 c _ (unhid HS2) (unhid HS) ((unhid K4).at (by simp)) ((unhid K4).at (by simp))).mono ?_
  rintro e W5 ⟨v5, rfl, ho, hb⟩
  obtain ⟨az, cz, rfl⟩ := ownsRow_slice ho
  have K5 := hid ((unhid K4).push ho hb)
  clear ho hb K4
  rw [(unhid Q).2.2.2.2.2.1]
  go_wp2_with fail
  go_loopw [11, 12, 13, 14, 15, 16] (fun n i _ _ _ _ wr => ∃ j : Nat, j ≤ es.length ∧ i = .int .i64 j ∧ n = .int .i64 (bothC fs (es.take j)) ∧ Hid (Kb w B wr [(az, joinR fs es), (ay, L), (ax, L), (some ⟨g2, 0, none⟩, fs), (some ⟨g, 0, none⟩, es)] [])) (fun _ i _ _ _ _ _ => es.length - (intOf i).toNat)
  case atStart => exact ⟨0, by omega, rfl, rfl, K5⟩
  case round =>
    obtain ⟨j, hj, rfl, rfl, KL⟩ := hrel
    clear K5
    by_cases hlt : j < es.length
    · skip
      obtain ⟨⟨tp, tk, tm, tt⟩, he⟩ : ∃ e, es[j]? = some e := ⟨es[j], List.getElem?_eq_getElem hlt⟩
      have HE := hid he
      obtain ⟨t0, t1, t2, t3⟩ := ((unhid KL).ents (g := g) (es := es) (by simp) j _ he)
      rw [Nat.zero_add] at t0 t1 t2 t3
      have OE := hid ((unhid Q).2.2.2.1 _ (List.mem_of_getElem? he))
      have BY := hid (fun h => bothC_yes (fs := fs) he h)
      have BN := hid (fun h => bothC_no (fs := fs) he h)
      have hbl := bothC_le fs (es.take j)
      rw [List.length_take] at hbl
      clear he
      dsimp only at t0 t1 t2 t3
      go_wp2_with fail
      refine (treeGet_any L ax cx tp _ (unhid HSL) ((unhid KL).at (by simp))).mono ?_
      rintro e W20 ⟨rfl, hb⟩
      have K20 := hid ((unhid KL).step hb)
      clear hb KL t0 t1 t2 t3
      have O1 := unhid OE
      try dsimp only at O1
      rw [(unhid Q).1, O1.1, O1.2, Bool.true_and]
      clear O1
      have hne := fun w => ne_same tp tk tm tt w
      unfold Ent.vals
      dsimp only
      have K21 := hid (show Kb w B (W20.alloc (.cells #[.string tp, .int .i64 tk, .int .i64 tm, .string tt] 27)) _ _ from (unhid K20).box ⟨tp, tk, tm, tt⟩)
      clear K20
      obtain ⟨t0, t1, t2, t3⟩ := ((unhid K21).ents (g := g) (es := es) (by simp) j _ (unhid HE))
      rw [Nat.zero_add] at t0 t1 t2 t3
      obtain ⟨⟨z0, z1, z2, z3⟩, -⟩ := four_cells ((unhid K21).one (show (W20.heap.size, (⟨tp, tk, tm, tt⟩ : Ent)) ∈ _ by simp))
      dsimp only at t0 t1 t2 t3 z0 z1 z2 z3
      go_wp2_with fail
      generalize W20.alloc (.cells #[.string tp, .int .i64 tk, .int .i64 tm, .string tt] 27) = W21 at *
      generalize W20.heap.size = bz at *
      go_quiet (fail)
      have K22 := hid ((unhid K21).step (drewN_below W21 nq)).unbox
      clear K21 t0 t1 t2 t3 z0 z1 z2 z3
      generalize W21.drewN nq = W22 at *
      obtain ⟨t0, t1, t2, t3⟩ := ((unhid K22).ents (g := g) (es := es) (by simp) j _ (unhid HE))
      rw [Nat.zero_add] at t0 t1 t2 t3
      dsimp only at t0 t1 t2 t3
      go_wp2_with fail
      refine (treeGet_any fs (some ⟨g2, 0, none⟩) c2 tp _ (unhid HS2) ((unhid K22).at (by simp))).mono ?_
      rintro e W23 ⟨rfl, hb⟩
      have K23 := hid ((unhid K22).step hb)
      clear hb K22
      clear t0 t1 t2 t3
      rw [(unhid Q).2.2.1, Bool.true_and]
      generalize gotE fs tp = got at *
      obtain ⟨zp, zk, zm, zt⟩ := got
      unfold Ent.vals
      dsimp only
      have K24 := hid (show Kb w B (W23.alloc (.cells #[.string zp, .int .i64 zk, .int .i64 zm, .string zt] 27)) _ _ from (unhid K23).box ⟨zp, zk, zm, zt⟩)
      clear K23
      cases hth : thereE fs tp
      · have E := hid (unhid BN hth)
        clear hth
        go_wp2_with fail
        go_roundw
        case rel => exact ⟨j + 1, by omega, by go_num, by rw [unhid E], hid (unhid K24).unbox⟩
        case measure => simp [intOf]; omega
      · have E := hid (unhid BY hth)
        clear hth
        go_wp2_with fail
        go_roundw
        case rel => exact ⟨j + 1, by omega, by go_num, by rw [unhid E]; go_num, hid (unhid K24).unbox⟩
        case measure => simp [intOf]; omega
    have hje : j = es.length := by omega
    subst hje
    rw [List.take_of_length_le (Nat.le_refl _)]
    clear hlt hj
    go_wp2_with fail
    go_loopw [17, 18, 19] (fun i _ _ wr => ∃ j : Nat, j ≤ fs.length ∧ i = .int .i64 j ∧ Hid (Kb w B wr [(az, joinR fs es), (ay, L), (ax, L), (some ⟨g2, 0, none⟩, fs), (some ⟨g, 0, none⟩, es)] [])) (fun i _ _ _ => fs.length - (intOf i).toNat)
    case atStart => exact ⟨0, by omega, rfl, KL⟩
    case round =>
      clear KL
      obtain ⟨j, hj, rfl, KL⟩ := hrel
      by_cases hlt : j < fs.length
      · skip
        obtain ⟨⟨tp, tk, tm, tt⟩, he⟩ : ∃ e, fs[j]? = some e := ⟨fs[j], List.getElem?_eq_getElem hlt⟩
        have HE := hid he
        obtain ⟨t0, t1, t2, t3⟩ := ((unhid KL).ents (g := g2) (es := fs) (by simp) j _ he)
        rw [Nat.zero_add] at t0 t1 t2 t3
        have OE := hid ((unhid Q).2.2.2.2.1 _ (List.mem_of_getElem? he))
        clear he
        dsimp only at t0 t1 t2 t3
        go_wp2_with fail
        refine (treeGet_any L ax cx tp _ (unhid HSL) ((unhid KL).at (by simp))).mono ?_
        rintro e W20 ⟨rfl, hb⟩
        have K20 := hid ((unhid KL).step hb)
        clear hb KL t0 t1 t2 t3
        have O1 := unhid OE
        try dsimp only at O1
        rw [(unhid Q).1, O1.1, O1.2, Bool.true_and]
        clear O1
        have hne := fun w => ne_same tp tk tm tt w
        unfold Ent.vals
        dsimp only
        have K21 := hid (show Kb w B (W20.alloc (.cells #[.string tp, .int .i64 tk, .int .i64 tm, .string tt] 27)) _ _ from (unhid K20).box ⟨tp, tk, tm, tt⟩)
        clear K20
        obtain ⟨t0, t1, t2, t3⟩ := ((unhid K21).ents (g := g2) (es := fs) (by simp) j _ (unhid HE))
        rw [Nat.zero_add] at t0 t1 t2 t3
        obtain ⟨⟨z0, z1, z2, z3⟩, -⟩ := four_cells ((unhid K21).one (show (W20.heap.size, (⟨tp, tk, tm, tt⟩ : Ent)) ∈ _ by simp))
        dsimp only at t0 t1 t2 t3 z0 z1 z2 z3
        go_wp2_with fail
        generalize W20.alloc (.cells #[.string tp, .int .i64 tk, .int .i64 tm, .string tt] 27) = W21 at *
        generalize W20.heap.size = bz at *
        go_quiet (fail)
        have K22 := hid ((unhid K21).step (drewN_below W21 nq)).unbox
        clear K21 t0 t1 t2 t3 z0 z1 z2 z3
        generalize W21.drewN nq = W22 at *
        go_wp2_with fail
        go_roundw
        case rel => exact ⟨j + 1, by omega, by go_num, K22⟩
        case measure => simp [intOf]; omega
      have K19 := KL
      clear KL
      generalize wr = W19 at *
      go_wp2_with fail
      refine (treeOk_any L ax cx _ (unhid HSL) ((unhid K19).at (by simp))).mono ?_
      rintro e W20 ⟨rfl, hb⟩
      have K20 := hid ((unhid K19).step hb)
      clear hb K19
      rw [(unhid Q).1]
      have hzl : (joinR fs es).length ≤ 1000 := by have := joinR_len fs es; omega
      have hbl := bothC_le fs es
      have hlen : ((L.length : Int) == (es.length : Int) + (fs.length : Int) - (bothC fs es : Int)) = true := by have := (unhid Q).2.2.2.2.2.2.2; rw [beq_iff_eq]; omega
      generalize bothC fs es = nb at *
      go_wp2_with fail
      refine (jsTree_any (joinR fs es) L az ax cz cx _ (by unfold maxLen; omega) (by unfold maxLen; omega) ((unhid K20).at (by simp)) ((unhid K20).at (by simp))).mono ?_
      rintro e W21 ⟨rfl, hb⟩
      have K21 := hid ((unhid K20).step hb)
      clear hb K20
      rw [(eqEs_iff _ _).2 (unhid Q).2.2.2.2.2.2.1]
      go_wp2_with fail
      go_ret
      exact ⟨rfl, (unhid K21).1⟩

set_option maxRecDepth 100000 in
set_option maxHeartbeats 1000000 in
theorem lifted_FnTreeJoin (os : Os) (started : os.Started) (H : Type) (enc : TypeId × Value → H) :
    ReturnsInHanded {} Try.checked os 8 .any (Rows.fnTreeJoinSpec.pre6 enc Try.prog Try.f8 Rows.fnTreeJoinRow.domain false) (Rows.fnTreeJoinSpec.post enc Try.prog Try.f8 false true false false) := by
  refine returnsInHanded_of_change (C := Try.checked) own started (by kernel_rfl) Try.func8
    (ChangeSpec.witness6 (enc := enc) (C := Try.checked) false ⟨#[], #[.slice none 0 0], []⟩ 8 (by kernel_rfl) (by kernel_rfl) (by kernel_rfl) (by kernel_rfl)) ?_
  intro W base args ds gs before hval0 hW _ _
  have hval : ∀ (j : Nat) t v, Try.f8.params[j]? = some t → args[j]? = some v → Value.okWide Try.prog W .any base t v := hval0
  have hW' := hW
  obtain ⟨p, q, hA0, hV, rfl, hfz, hnd⟩ := hW
  have hA : DataW.TrodAll enc Try.prog W 0 (fun _ => true) true Try.f8.params.toList args.toList ds p := hA0
  rw [Try.params8] at hA hval
  obtain ⟨v0, vs0, d0, ds0, p0, q0, e0, rfl, rfl, h0, r0⟩ := trodAll_cons hA
  obtain ⟨rfl, rfl, rfl⟩ := trodAll_nil r0
  obtain rfl : args = #[v0] := by cases args; simp_all
  obtain ⟨rfl, rfl⟩ := trodVars_none hV
  have hlt : ∀ x ∈ p0, x.block < W.heap.size := fun x hx => by simpa using hW'.lt x (by simpa using hx)
  have t0 := h0
  have l0 : ∀ x ∈ p0, x.block < W.heap.size := fun x hx => hlt x (by simp [hx])
  obtain ⟨a0, len0, cap0, rfl⟩ := okWide_slice Try.underlying22 (hval 0 22 v0 rfl rfl)
  obtain ⟨hc0, hn0⟩ := code_of h0 l0
  clear hA0 hval0
  refine (walk_FnTreeJoin a0 len0 cap0 W hc0 hn0).mono fun e W' ⟨he, hb⟩ => ?_
  subst he
  exact ⟨_, rfl, post_below (gs := []) (pv := []) hW' (fun _ _ _ => trodAll_cons_mk (shut_bool Try.underlying4 _) trodAll_mk0) (trodAll_cons_mk (Below.trod laidOut (by kernel_rfl) (of_decide_eq_true (by kernel_rfl)) t0 hb l0) trodAll_mk0) rfl (by simp) hb⟩

theorem fnTreeJoin_holds : Rows.FnTreeJoinSaid :=
  OpenClaim.holds_of_wide 8 Try.f8 rfl rfl rfl rfl rfl rfl rfl ⟨rfl, rfl, rfl, rfl, rfl⟩ rfl rfl rfl rfl rfl (by kernel_rfl) Try.func8 (by kernel_rfl)
    (of_decide_eq_true (by kernel_rfl)) (by unfold Func.isWrapper; first | (rw [if_pos (by decide +kernel)]; kernel_rfl) | (rw [if_neg (by decide +kernel)]; exact ⟨rfl, rfl⟩))
    (fun os started H enc _ => lifted_FnTreeJoin os started H enc)
end Go.Proofs.Ytaefjibnnbdaaaa
