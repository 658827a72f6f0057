/- Of every code: a drawn tree and two paths: FnTreeMove answers true; the code is as it was. No condition. -/
import Derived.Test.YtaefjibnnbdaaaaJoin9
import Derived.Test.YtaefjibnnbdaaaaJoin10
import Derived.Test.YtaefjibnnbdaaaaJoin7
namespace Go.Proofs.Ytaefjibnnbdaaaa
open Go.ChangeShapes Go.WideShapes Go.ChangeAt Go.RowKit

theorem move_old {es : List Ent} {p q : ByteArray} (h : treeB es = true) (hm : moveOk p q es = true) : ∀ e ∈ es, (inB p.data.toList e.path.data.toList = false → thereE (moveR p q es) e.path = true ∧ gotE (moveR p q es) e.path = e) ∧ (inB p.data.toList e.path.data.toList = true → thereE (moveR p q es) (moveS e.path p q) = true ∧ gotE (moveR p q es) (moveS e.path p q) = { e with path := moveS e.path p q } ∧ (moveS e.path p q).size ≤ 200) := by
  intro e he
  obtain ⟨⟨hmem, hT, _, _, _, _⟩, hp, hq, hpb⟩ := move_facts h hm
  have hpe := ent_pathB (tree_all h e he)
  have hib : inB p.data.toList e.path.data.toList = belowB p.data.toList e.path.data.toList := by unfold inB; rw [hp, hpe]; rfl
  have hin : mvS p q e ∈ moveR p q es := (hmem _).2 ⟨e, he, rfl⟩
  have hg := there_mem' hT hin
  have hpv := hpb e he
  refine ⟨fun hb => ?_, fun hb => ?_⟩
  · rw [hib] at hb
    have : mvS p q e = e := by unfold mvS; rw [hb]; rfl
    rw [this] at hg
    exact hg
  · have hb2 := hb
    rw [hib] at hb2
    have hv : mvS p q e = { e with path := movedP p q e.path } := by unfold mvS; rw [hb2]; rfl
    rw [hv] at hg hpv
    have hmv : moveS e.path p q = movedP p q e.path := by
      unfold moveS
      rw [hb, hq]
      have : pathB (q ++ e.path.extract p.size e.path.size).data.toList = true := hpv
      rw [this]; rfl
    rw [hmv]
    refine ⟨hg.1, hg.2, ?_⟩
    have := pathB_size _ hpv
    have e2 : (movedP p q e.path).size = (movedP p q e.path).data.toList.length := Lib.size_eq _
    dsimp only at this
    omega
theorem move_not {es : List Ent} {p q : ByteArray} (h : treeB es = true) (hm : moveOk p q es = false) : moveR p q es = es := by
  unfold moveR; rw [hm]; exact keptE_yes h

set_option maxRecDepth 100000 in
set_option maxHeartbeats 8000000 in
theorem walk_FnTreeMove (a : Option Addr) (len cap : Nat) (w : World) (h : Code w w.heap.size a len) (hc : len ≤ cap) :
    Calls Try.prog 7 #[.slice a len cap] w fun e w' => e = .returned (.bool true) ∧ Below w.heap.size w w' := by
  have H := hid h
  clear h
  by_cases hl : (1048576 : Int) < len
  · go_enter Try.func7, Try.ntmps7
    go_wp2
    go_ret
    exact ⟨rfl, Below.refl _ _⟩
  go_enter Try.func7, Try.ntmps7
  go_wp2_with fail
  refine (DrawTreeMove_any w a len cap (unhid H) (by omega) hc).mono ?_
  rintro e W1 ⟨v, p, q, rfl, hp0, hq0, es, hD⟩
  have HS := hid hD.small
  have HN := hid hD.nice
  have hfew := hD.few
  obtain ⟨g, c, rfl, -⟩ := hD.v
  have K1 := hid (kb_drawn hD).1
  have hgB := (kb_drawn hD).2.1
  have hcap := (kb_drawn hD).2.2
  generalize W1.heap.size = B at K1 hgB
  clear hD H
  have hp := nice_short hp0
  have hq := nice_short hq0
  have ML := moveR_len p q es
  clear hp0 hq0 HN
  go_wp2_with fail
  refine (treeMove_any es (some ⟨g, 0, none⟩) c p q _ (unhid HS) (by omega) (by omega) ((unhid K1).at (by simp))).mono ?_
  rintro e W2 ⟨v2, rfl, ho, hb⟩
  obtain ⟨ax, cx, rfl⟩ := ownsRow_slice ho
  have K2 := hid ((unhid K1).push ho hb)
  clear ho hb K1
  go_wp2_with fail
  refine (specTreeMove_any es p q g 0 c _ (unhid HS) (by omega) (by omega) ((unhid K2).ents (by simp)) ((unhid K2).lt hgB)).mono ?_
  rintro e W3 ⟨v3, rfl, ho, hb⟩
  obtain ⟨ay, cy, rfl⟩ := ownsRow_slice ho
  have K3 := hid ((unhid K2).push ho hb)
  clear ho hb K2
  have MF := hid (fun h1 h2 => (move_facts (es := es) (p := p) (q := q) h1 h2).1)
  have MO := hid (fun h1 h2 => move_old (es := es) (p := p) (q := q) h1 h2)
  have MN := hid (fun h1 h2 => move_not (es := es) (p := p) (q := q) h1 h2)
  generalize hLg : moveR p q es = L at *
  generalize hbg : moveOk p q es = ok at *
  clear hLg hbg
  go_wp2_with fail
  refine (jsTree_any L L ax ay cx cy _ (by unfold maxLen; omega) (by unfold maxLen; omega) ((unhid K3).at (by simp)) ((unhid K3).at (by simp))).mono ?_
  rintro e W4 ⟨rfl, hb⟩
  have K4 := hid ((unhid K3).step hb)
  clear hb K3
  rw [eqEs_self]
  go_wp2_with fail
  refine (specTreeOk_any es _ c _ (unhid HS) ((unhid K4).at (by simp))).mono ?_
  rintro e W5 ⟨rfl, hb⟩
  have K5 := hid ((unhid K4).step hb)
  clear hb K4
  cases hT : treeB es
  · skip
    go_wp2_with fail
    refine (jsTree_any L L ax ay cx cy _ (by unfold maxLen; omega) (by unfold maxLen; omega) ((unhid K5).at (by simp)) ((unhid K5).at (by simp))).mono ?_
    rintro e W6 ⟨rfl, hb⟩
    have K6 := hid ((unhid K5).step hb)
    clear hb K5
    rw [eqEs_self]
    go_wp2_with fail
    go_ret
    exact ⟨rfl, (unhid K6).1⟩
  cases ok
  · skip
    have E0 := hid (unhid MN hT rfl)
    go_wp2_with fail
    refine (jsTree_any L es ax (some ⟨g, 0, none⟩) cx c _ (by unfold maxLen; omega) (by unfold maxLen; omega) ((unhid K5).at (by simp)) ((unhid K5).at (by simp))).mono ?_
    rintro e W6 ⟨rfl, hb⟩
    have K6 := hid ((unhid K5).step hb)
    clear hb K5
    rw [(eqEs_iff _ _).2 (unhid E0)]
    go_wp2_with fail
    go_ret
    exact ⟨rfl, (unhid K6).1⟩
  obtain ⟨-, q1, q2, q3, q4, q5⟩ := unhid MF hT rfl
  have HS2 := hid (show smallE L from small_all (by omega) (tree_all q1))
  have Q := hid (And.intro q1 (And.intro q3 (And.intro q4 q5)))
  have OLD := hid (unhid MO hT rfl)
  have Q2 := hid q2
  clear q1 q2 q3 q4 q5 MF MN MO hT
  go_wp2_with fail
  refine (treeMove_any L ax cx q p _ (unhid HS2) (by omega) (by omega) ((unhid K5).at (by simp))).mono ?_
  rintro e W6 ⟨v6, rfl, ho, hb⟩
  obtain ⟨az, cz, rfl⟩ := ownsRow_slice ho
  have K6 := hid ((unhid K5).push ho hb)
  clear ho hb K5
  rw [(unhid Q).2.2.1]
  go_wp2_with fail
  refine (treeGet_any L ax cx p _ (unhid HS2) ((unhid K6).at (by simp))).mono ?_
  rintro e W7 ⟨rfl, hb⟩
  have K7 := hid ((unhid K6).step hb)
  clear hb K6
  rw [(unhid Q).1, (unhid Q).2.1, Bool.true_and]
  generalize gotE L p = got at *
  obtain ⟨zp, zk, zm, zt⟩ := got
  unfold Ent.vals
  dsimp only
  have K8 := hid (show Kb w B (W7.alloc (.cells #[.string zp, .int .i64 zk, .int .i64 zm, .string zt] 27)) _ _ from (unhid K7).box ⟨zp, zk, zm, zt⟩)
  clear K7
  go_wp2_with fail
  generalize W7.alloc (.cells #[.string zp, .int .i64 zk, .int .i64 zm, .string zt] 27) = W8 at *
  generalize W7.heap.size = bq at *
  go_loopw [14, 15, 16, 17] (fun i _ _ _ wr => ∃ j : Nat, j ≤ es.length ∧ i = .int .i64 j ∧ Hid (Kb w B wr [(az, moveR q p L), (ay, L), (ax, L), (some ⟨g, 0, none⟩, es)] [(bq, ⟨zp, zk, zm, zt⟩)])) (fun i _ _ _ _ => es.length - (intOf i).toNat)
  case atStart => exact ⟨0, by omega, rfl, K8⟩
  case round =>
    obtain ⟨j, hj, rfl, KL⟩ := hrel
    clear K8
    by_cases hlt : j < es.length
    · skip
      obtain ⟨⟨tp, tk, tm, tt⟩, he⟩ : ∃ e, es[j]? = some e := ⟨es[j], List.getElem?_eq_getElem hlt⟩
      have HE := hid he
      obtain ⟨t0, t1, t2, t3⟩ := ((unhid KL).ents (g := g) (es := es) (by simp) j _ he)
      rw [Nat.zero_add] at t0 t1 t2 t3
      have OE := hid (unhid OLD _ (List.mem_of_getElem? he))
      have htp := ((unhid HS).2 _ (List.mem_of_getElem? he)).1
      clear he
      dsimp only at t0 t1 t2 t3 htp
      go_wp2_with fail
      refine (PathIn_any p tp (by unfold maxLen; omega) (by unfold maxLen; omega) _).mono ?_
      rintro e W20 ⟨rfl, hb⟩
      have K20 := hid ((unhid KL).step hb)
      clear hb KL t0 t1 t2 t3
      cases hi : inB p.data.toList tp.data.toList
      · skip
        have O1 := (unhid OE).1 hi
        try dsimp only at O1
        go_wp2_with fail
        refine (treeGet_any L ax cx tp _ (unhid HS2) ((unhid K20).at (by simp))).mono ?_
        rintro e W21 ⟨rfl, hb⟩
        have K21 := hid ((unhid K20).step hb)
        clear hb K20
        rw [(unhid Q).1, O1.1, O1.2, Bool.true_and]
        unfold Ent.vals
        dsimp only
        clear O1 hi
        have K22 := hid (show Kb w B (W21.alloc (.cells #[.string tp, .int .i64 tk, .int .i64 tm, .string tt] 27)) _ _ from (unhid K21).box ⟨tp, tk, tm, tt⟩)
        clear K21
        obtain ⟨t0, t1, t2, t3⟩ := ((unhid K22).ents (g := g) (es := es) (by simp) j _ (unhid HE))
        rw [Nat.zero_add] at t0 t1 t2 t3
        obtain ⟨⟨z0, z1, z2, z3⟩, -⟩ := four_cells ((unhid K22).one (show (W21.heap.size, (⟨tp, tk, tm, tt⟩ : Ent)) ∈ _ by simp))
        dsimp only at t0 t1 t2 t3 z0 z1 z2 z3
        go_wp2_with fail
        generalize W21.alloc (.cells #[.string tp, .int .i64 tk, .int .i64 tm, .string tt] 27) = W22 at *
        generalize W21.heap.size = bz at *
        go_quiet (fail)
        go_wp2_with fail
        go_roundw
        case rel => exact ⟨j + 1, by omega, by go_num, hid ((unhid K22).step (drewN_below _ _)).unbox⟩
        case measure => simp [intOf]; omega
      · skip
        have O1 := hid ((unhid OE).2 hi)
        clear hi
        go_wp2_with fail
        refine (PathMove_any tp p q (by unfold maxLen; omega) (by unfold maxLen; omega) (by unfold maxLen; omega) _).mono ?_
        rintro e W21 ⟨rfl, hb⟩
        have K21 := hid ((unhid K20).step hb)
        clear hb K20
        have O2 := unhid O1
        try dsimp only at O2
        generalize moveS tp p q = mp at *
        go_wp2_with fail
        refine (treeGet_any L ax cx mp _ (unhid HS2) ((unhid K21).at (by simp))).mono ?_
        rintro e W22 ⟨rfl, hb⟩
        have K22 := hid ((unhid K21).step hb)
        clear hb K21
        rw [(unhid Q).1, O2.1, O2.2.1, Bool.true_and]
        unfold Ent.vals
        dsimp only
        clear O2
        have K23 := hid (show Kb w B (W22.alloc (.cells #[.string mp, .int .i64 tk, .int .i64 tm, .string tt] 27)) _ _ from (unhid K22).box ⟨mp, tk, tm, tt⟩)
        clear K22
        obtain ⟨t0, t1, t2, t3⟩ := ((unhid K23).ents (g := g) (es := es) (by simp) j _ (unhid HE))
        rw [Nat.zero_add] at t0 t1 t2 t3
        obtain ⟨⟨z0, z1, z2, z3⟩, -⟩ := four_cells ((unhid K23).one (show (W22.heap.size, (⟨mp, tk, tm, tt⟩ : Ent)) ∈ _ by simp))
        dsimp only at t0 t1 t2 t3 z0 z1 z2 z3
        go_wp2_with fail
        generalize W22.alloc (.cells #[.string mp, .int .i64 tk, .int .i64 tm, .string tt] 27) = W23 at *
        generalize W22.heap.size = bz at *
        go_quiet (fail)
        go_wp2_with fail
        go_roundw
        case rel => exact ⟨j + 1, by omega, by go_num, hid ((unhid K23).step (drewN_below _ _)).unbox⟩
        case measure => simp [intOf]; omega
    have K19 := KL
    clear KL
    generalize wr = W19 at *
    go_wp2_with fail
    refine (treeOk_any L ax cx _ (unhid HS2) ((unhid K19).at (by simp))).mono ?_
    rintro e W20 ⟨rfl, hb⟩
    have K20 := hid ((unhid K19).step hb)
    clear hb K19
    rw [(unhid Q).1]
    have hlen : ((L.length : Int) == (es.length : Int)) = true := by rw [unhid Q2]; simp
    have hzl : (moveR q p L).length ≤ 1000 := by have := moveR_len q p L; omega
    go_wp2_with fail
    refine (jsTree_any (moveR q p L) es az (some ⟨g, 0, none⟩) cz c _ (by unfold maxLen; omega) (by unfold maxLen; omega) ((unhid K20).at (by simp)) ((unhid K20).at (by simp))).mono ?_
    rintro e W21 ⟨rfl, hb⟩
    have K21 := hid ((unhid K20).step hb)
    clear hb K20
    rw [(eqEs_iff _ _).2 (unhid Q).2.2.2]
    go_wp2_with fail
    go_ret
    exact ⟨rfl, (unhid K21).1⟩

set_option maxRecDepth 100000 in
set_option maxHeartbeats 1000000 in
theorem lifted_FnTreeMove (os : Os) (started : os.Started) (H : Type) (enc : TypeId × Value → H) :
    ReturnsInHanded {} Try.checked os 7 .any (Rows.fnTreeMoveSpec.pre6 enc Try.prog Try.f7 Rows.fnTreeMoveRow.domain false) (Rows.fnTreeMoveSpec.post enc Try.prog Try.f7 false true false false) := by
  refine returnsInHanded_of_change (C := Try.checked) own started (by kernel_rfl) Try.func7
    (ChangeSpec.witness6 (enc := enc) (C := Try.checked) false ⟨#[], #[.slice none 0 0], []⟩ 8 (by kernel_rfl) (by kernel_rfl) (by kernel_rfl) (by kernel_rfl)) ?_
  intro W base args ds gs before hval0 hW _ _
  have hval : ∀ (j : Nat) t v, Try.f7.params[j]? = some t → args[j]? = some v → Value.okWide Try.prog W .any base t v := hval0
  have hW' := hW
  obtain ⟨p, q, hA0, hV, rfl, hfz, hnd⟩ := hW
  have hA : DataW.TrodAll enc Try.prog W 0 (fun _ => true) true Try.f7.params.toList args.toList ds p := hA0
  rw [Try.params7] at hA hval
  obtain ⟨v0, vs0, d0, ds0, p0, q0, e0, rfl, rfl, h0, r0⟩ := trodAll_cons hA
  obtain ⟨rfl, rfl, rfl⟩ := trodAll_nil r0
  obtain rfl : args = #[v0] := by cases args; simp_all
  obtain ⟨rfl, rfl⟩ := trodVars_none hV
  have hlt : ∀ x ∈ p0, x.block < W.heap.size := fun x hx => by simpa using hW'.lt x (by simpa using hx)
  have t0 := h0
  have l0 : ∀ x ∈ p0, x.block < W.heap.size := fun x hx => hlt x (by simp [hx])
  obtain ⟨a0, len0, cap0, rfl⟩ := okWide_slice Try.underlying22 (hval 0 22 v0 rfl rfl)
  obtain ⟨hc0, hn0⟩ := code_of h0 l0
  clear hA0 hval0
  refine (walk_FnTreeMove a0 len0 cap0 W hc0 hn0).mono fun e W' ⟨he, hb⟩ => ?_
  subst he
  exact ⟨_, rfl, post_below (gs := []) (pv := []) hW' (fun _ _ _ => trodAll_cons_mk (shut_bool Try.underlying4 _) trodAll_mk0) (trodAll_cons_mk (Below.trod laidOut (by kernel_rfl) (of_decide_eq_true (by kernel_rfl)) t0 hb l0) trodAll_mk0) rfl (by simp) hb⟩

theorem fnTreeMove_holds : Rows.FnTreeMoveSaid :=
  OpenClaim.holds_of_wide 7 Try.f7 rfl rfl rfl rfl rfl rfl rfl ⟨rfl, rfl, rfl, rfl, rfl⟩ rfl rfl rfl rfl rfl (by kernel_rfl) Try.func7 (by kernel_rfl)
    (of_decide_eq_true (by kernel_rfl)) (by unfold Func.isWrapper; first | (rw [if_pos (by decide +kernel)]; kernel_rfl) | (rw [if_neg (by decide +kernel)]; exact ⟨rfl, rfl⟩))
    (fun os started H enc _ => lifted_FnTreeMove os started H enc)
end Go.Proofs.Ytaefjibnnbdaaaa
