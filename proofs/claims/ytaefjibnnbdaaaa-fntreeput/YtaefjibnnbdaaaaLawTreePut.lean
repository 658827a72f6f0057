/- Of every code: a drawn tree and an entry: FnTreePut answers true; the code is as it was. No condition. -/
import Derived.Test.YtaefjibnnbdaaaaJoin9
import Derived.Test.YtaefjibnnbdaaaaJoin7
namespace Go.Proofs.Ytaefjibnnbdaaaa
open Go.ChangeShapes Go.WideShapes Go.ChangeAt Go.RowKit

structure PutF (es : List Ent) (e : Ent) (X : List Ent) : Prop where
  tree : treeB X = true
  there : thereE X e.path = true
  got : gotE X e.path = e
  again : putOk X e = true
  same : putR X e = X
  more : X.length ≤ es.length + 1
  old : ∀ x ∈ es, thereE X x.path = true ∧ (x.path ≠ e.path → gotE X x.path = x)
theorem put_facts {es : List Ent} {e : Ent} (h : putOk es e = true) : PutF es e (putR es e) := by
  obtain ⟨hT, hO, hP⟩ := put_yes h
  rw [hP]
  have hu := tree_up hT
  have hX := put_tree hT hO
  have huX := tree_up hX
  have he : e ∈ putT es e := (putT_iff hu e e).2 (.inl rfl)
  obtain ⟨o1, o2, o3⟩ := (okPut_iff hT e).1 hO
  have hd : DirIn (putT es e) (upS e.path) := by
    obtain ⟨_, _, g3, _⟩ := (tree_iff _).1 hX
    exact g3 e he
  have hO2 : okPut (putT es e) e = true := (okPut_iff hX e).2 ⟨o1, hd, .inl ⟨e, he, rfl, rfl⟩⟩
  have hs : putT (putT es e) e = putT es e := by
    have := there_mem huX he
    exact put_same this.1 this.2
  refine ⟨hX, (there_mem' hX he).1, (there_mem' hX he).2, by unfold putOk; rw [hX, hO2]; rfl, by unfold putR putL; rw [if_pos hX, if_pos hO2, hs], putT_len es e, fun x hx => ?_⟩
  by_cases hp : x.path = e.path
  · exact ⟨by rw [hp]; exact (there_mem' hX he).1, fun hne => absurd hp hne⟩
  · have hm : x ∈ putT es e := (putT_iff hu e x).2 (.inr ⟨hx, hp⟩)
    exact ⟨(there_mem' hX hm).1, fun _ => (there_mem' hX hm).2⟩
theorem put_not {es : List Ent} {e : Ent} (hT : treeB es = true) (h : putOk es e = false) : putR es e = es := by
  unfold putOk at h
  rw [hT, Bool.true_and] at h
  unfold putR
  rw [if_pos hT, putL_no h]

set_option maxRecDepth 100000 in
set_option maxHeartbeats 8000000 in
theorem walk_FnTreePut (a : Option Addr) (len cap : Nat) (w : World) (h : Code w w.heap.size a len) (hc : len ≤ cap) :
    Calls Try.prog 5 #[.slice a len cap] w fun e w' => e = .returned (.bool true) ∧ Below w.heap.size w w' := by
  have H := hid h
  clear h
  by_cases hl : (1048576 : Int) < len
  · go_enter Try.func5, Try.ntmps5
    go_wp2
    go_ret
    exact ⟨rfl, Below.refl _ _⟩
  go_enter Try.func5, Try.ntmps5
  go_wp2_with fail
  refine (DrawTreePut_any w a len cap (unhid H) (by omega) hc).mono ?_
  rintro e W1 ⟨v, ⟨x, k, m, t⟩, rfl, he, es, hD⟩
  have HS := hid hD.small
  have HN := hid hD.nice
  have hfew := hD.few
  obtain ⟨g, c, rfl, -⟩ := hD.v
  have K1 := hid (kb_drawn hD).1
  have hgB := (kb_drawn hD).2.1
  have hcap := (kb_drawn hD).2.2
  generalize W1.heap.size = B at K1 hgB
  clear hD H
  have hx := nice_short he.1
  have ht : t.size ≤ 100 := he.2
  dsimp only at hx
  have PL := putR_len (es := es) (e := ⟨x, k, m, t⟩)
  clear HN he
  unfold Ent.vals
  dsimp only
  have K2 := hid (show Kb w B (W1.alloc (.cells #[.string x, .int .i64 k, .int .i64 m, .string t] 27)) _ _ from (unhid K1).box ⟨x, k, m, t⟩)
  clear K1
  go_wp2_with fail
  generalize W1.alloc (.cells #[.string x, .int .i64 k, .int .i64 m, .string t] 27) = W2 at *
  generalize W1.heap.size = be at *
  refine (treePut_any es ⟨x, k, m, t⟩ (some ⟨g, 0, none⟩) c _ (unhid HS) (by dsimp only; omega) (by dsimp only; omega) ((unhid K2).at (by simp))).mono ?_
  rintro e W3 ⟨v3, rfl, ho, hb⟩
  obtain ⟨ax, cx, rfl⟩ := ownsRow_slice ho
  have K3 := hid ((unhid K2).push ho hb)
  clear ho hb K2
  obtain ⟨⟨d0, d1, d2, d3⟩, -⟩ := four_cells ((unhid K3).one (show (be, ⟨x, k, m, t⟩) ∈ _ by simp))
  dsimp only at d0 d1 d2 d3
  go_wp2_with fail
  refine (specTreePut_any es ⟨x, k, m, t⟩ g 0 c _ (unhid HS) hcap (by dsimp only; omega) (by dsimp only; omega) ((unhid K3).ents (by simp)) ((unhid K3).lt hgB)).mono ?_
  rintro e W4 ⟨v4, rfl, ho, hb⟩
  obtain ⟨ay, cy, rfl⟩ := ownsRow_slice ho
  have K4 := hid ((unhid K3).push ho hb)
  clear ho hb K3
  clear d0 d1 d2 d3
  have PF := hid (fun h => put_facts (es := es) (e := ⟨x, k, m, t⟩) h)
  have PN := hid (fun h1 h2 => put_not (es := es) (e := ⟨x, k, m, t⟩) h1 h2)
  generalize hLg : putR es ⟨x, k, m, t⟩ = L at *
  generalize hbg : putOk es ⟨x, k, m, t⟩ = ok at *
  clear hLg hbg
  go_wp2_with fail
  refine (jsTree_any L L ax ay cx cy _ (by unfold maxLen; omega) (by unfold maxLen; omega) ((unhid K4).at (by simp)) ((unhid K4).at (by simp))).mono ?_
  rintro e W5 ⟨rfl, hb⟩
  have K5 := hid ((unhid K4).step hb)
  clear hb K4
  rw [eqEs_self]
  go_wp2_with fail
  refine (treeOk_any es (some ⟨g, 0, none⟩) c _ (unhid HS) ((unhid K5).at (by simp))).mono ?_
  rintro e W6 ⟨rfl, hb⟩
  have K6 := hid ((unhid K5).step hb)
  clear hb K5
  go_wp2_with fail
  refine (specTreeOk_any es _ c _ (unhid HS) ((unhid K6).at (by simp))).mono ?_
  rintro e W7 ⟨rfl, hb⟩
  have K7 := hid ((unhid K6).step hb)
  clear hb K6
  cases hT : treeB es
  · skip
    go_wp2_with fail
    refine (specTreeOk_any es _ c _ (unhid HS) ((unhid K7).at (by simp))).mono ?_
    rintro e W8 ⟨rfl, hb⟩
    have K8 := hid ((unhid K7).step hb)
    clear hb K7
    rw [hT]
    go_wp2_with fail
    refine (jsTree_any L L ax ay cx cy _ (by unfold maxLen; omega) (by unfold maxLen; omega) ((unhid K8).at (by simp)) ((unhid K8).at (by simp))).mono ?_
    rintro e W9 ⟨rfl, hb⟩
    have K9 := hid ((unhid K8).step hb)
    clear hb K8
    rw [eqEs_self]
    go_wp2_with fail
    refine (treeOk_any es (some ⟨g, 0, none⟩) c _ (unhid HS) ((unhid K9).at (by simp))).mono ?_
    rintro e W10 ⟨rfl, hb⟩
    have K10 := hid ((unhid K9).step hb)
    clear hb K9
    rw [hT]
    go_wp2_with fail
    refine (specTreeOk_any es _ c _ (unhid HS) ((unhid K10).at (by simp))).mono ?_
    rintro e W11 ⟨rfl, hb⟩
    have K11 := hid ((unhid K10).step hb)
    clear hb K10
    rw [hT]
    go_wp2_with fail
    go_ret
    exact ⟨rfl, (unhid K11).1⟩
  go_wp2_with fail
  refine (specTreeOk_any es _ c _ (unhid HS) ((unhid K7).at (by simp))).mono ?_
  rintro e W8 ⟨rfl, hb⟩
  have K8 := hid ((unhid K7).step hb)
  clear hb K7
  rw [hT]
  have HT := hid hT
  clear hT
  cases ok
  · skip
    have E0 := hid (unhid PN (unhid HT) rfl)
    go_wp2_with fail
    refine (jsTree_any L es ax (some ⟨g, 0, none⟩) cx c _ (by unfold maxLen; omega) (by unfold maxLen; omega) ((unhid K8).at (by simp)) ((unhid K8).at (by simp))).mono ?_
    rintro e W9 ⟨rfl, hb⟩
    have K9 := hid ((unhid K8).step hb)
    clear hb K8
    rw [(eqEs_iff _ _).2 (unhid E0)]
    go_wp2_with fail
    go_ret
    exact ⟨rfl, (unhid K9).1⟩
  obtain ⟨q1, q2, q3, q4, q5, q6, q7⟩ := unhid PF rfl
  have HS2 := hid (show smallE L from small_all (by omega) (tree_all q1))
  have Q := hid (And.intro q1 (And.intro q2 (And.intro q3 (And.intro q4 (And.intro q5 q7)))))
  clear q1 q2 q3 q4 q5 q7 PF PN
  obtain ⟨⟨d0, d1, d2, d3⟩, -⟩ := four_cells ((unhid K8).one (show (be, ⟨x, k, m, t⟩) ∈ _ by simp))
  dsimp only at d0 d1 d2 d3
  go_wp2_with fail
  refine (treeGet_any L ax cx x _ (unhid HS2) ((unhid K8).at (by simp))).mono ?_
  rintro e W9 ⟨rfl, hb⟩
  have K9 := hid ((unhid K8).step hb)
  clear hb K8
  have Q1 := unhid Q
  try dsimp only at Q1
  rw [Q1.1, Q1.2.1, Q1.2.2.1, Bool.true_and]
  clear Q1
  unfold Ent.vals
  dsimp only
  clear d0 d1 d2 d3
  have K10 := hid (show Kb w B (W9.alloc (.cells #[.string x, .int .i64 k, .int .i64 m, .string t] 27)) _ _ from (unhid K9).box ⟨x, k, m, t⟩)
  clear K9
  obtain ⟨⟨d0, d1, d2, d3⟩, -⟩ := four_cells ((unhid K10).one (show (be, ⟨x, k, m, t⟩) ∈ _ by simp))
  dsimp only at d0 d1 d2 d3
  go_wp2_with fail
  generalize W9.alloc (.cells #[.string x, .int .i64 k, .int .i64 m, .string t] 27) = W10 at *
  generalize W9.heap.size = bq at *
  refine (treePut_any L ⟨x, k, m, t⟩ ax cx _ (unhid HS2) (by dsimp only; omega) (by dsimp only; omega) ((unhid K10).at (by simp))).mono ?_
  rintro e W11 ⟨v11, rfl, ho, hb⟩
  obtain ⟨az, cz, rfl⟩ := ownsRow_slice ho
  have K11 := hid ((unhid K10).push ho hb)
  clear ho hb K10
  rw [(unhid Q).2.2.2.1]
  clear d0 d1 d2 d3
  go_wp2_with fail
  go_loopw [13, 14, 15] (fun i _ _ wr => ∃ j : Nat, j ≤ es.length ∧ i = .int .i64 j ∧ Hid (Kb w B wr [(az, putR L ⟨x, k, m, t⟩), (ay, L), (ax, L), (some ⟨g, 0, none⟩, es)] [(bq, ⟨x, k, m, t⟩), (be, ⟨x, k, m, t⟩)])) (fun i _ _ _ => es.length - (intOf i).toNat)
  case atStart => exact ⟨0, by omega, rfl, K11⟩
  case round =>
    obtain ⟨j, hj, rfl, KL⟩ := hrel
    clear K11
    by_cases hlt : j < es.length
    · skip
      obtain ⟨⟨tp, tk, tm, tt⟩, he⟩ : ∃ e, es[j]? = some e := ⟨es[j], List.getElem?_eq_getElem hlt⟩
      have HE := hid he
      obtain ⟨t0, t1, t2, t3⟩ := ((unhid KL).ents (g := g) (es := es) (by simp) j _ he)
      rw [Nat.zero_add] at t0 t1 t2 t3
      have OLD := hid ((unhid Q).2.2.2.2.2 _ (List.mem_of_getElem? he))
      clear he
      dsimp only at t0 t1 t2 t3
      go_wp2_with fail
      refine (treeGet_any L ax cx tp _ (unhid HS2) ((unhid KL).at (by simp))).mono ?_
      rintro e W20 ⟨rfl, hb⟩
      have K20 := hid ((unhid KL).step hb)
      clear hb KL t0 t1 t2 t3
      have OL := unhid OLD
      try dsimp only at OL
      rw [(unhid Q).1, OL.1, Bool.true_and]
      by_cases hpp : tp = x
      · skip
        subst hpp
        have hbq : (tp.toList != tp.toList) = false := by simp
        clear OL
        generalize gotE L tp = got at *
        obtain ⟨zp, zk, zm, zt⟩ := got
        unfold Ent.vals
        dsimp only
        have K21 := hid (show Kb w B (W20.alloc (.cells #[.string zp, .int .i64 zk, .int .i64 zm, .string zt] 27)) _ _ from (unhid K20).box ⟨zp, zk, zm, zt⟩)
        clear K20
        obtain ⟨t0, t1, t2, t3⟩ := ((unhid K21).ents (g := g) (es := es) (by simp) j _ (unhid HE))
        rw [Nat.zero_add] at t0 t1 t2 t3
        obtain ⟨⟨d0, d1, d2, d3⟩, -⟩ := four_cells ((unhid K21).one (show (be, (⟨tp, k, m, t⟩ : Ent)) ∈ _ by simp))
        obtain ⟨⟨z0, z1, z2, z3⟩, -⟩ := four_cells ((unhid K21).one (show (W20.heap.size, (⟨zp, zk, zm, zt⟩ : Ent)) ∈ _ by simp))
        dsimp only at t0 t1 t2 t3 d0 d1 d2 d3 z0 z1 z2 z3
        go_wp2_with fail
        generalize W20.alloc (.cells #[.string zp, .int .i64 zk, .int .i64 zm, .string zt] 27) = W21 at *
        generalize W20.heap.size = bz at *
        go_quiet (fail)
        go_wp2_with fail
        go_roundw
        case rel => exact ⟨j + 1, by omega, by go_num, hid ((unhid K21).step (drewN_below _ _)).unbox⟩
        case measure => simp [intOf]; omega
      · skip
        have hb1 : (tp.toList == x.toList) = false := by rw [beq_eq_false_iff_ne]; intro h; exact hpp ((eqS_iff tp x).1 (by unfold eqS; rw [h]; simp))
        have hb2 : (tp == x) = false := by cases hq : (tp == x); rfl; exact absurd ((beqS_iff tp x).1 hq) hpp
        have hbq : (tp.toList != x.toList) = true := by unfold bne; rw [hb1]; rfl
        have hb3 : (tp != x) = true := by unfold bne; rw [hb2]; rfl
        rw [OL.2 hpp]
        have hne := fun w => ne_same tp tk tm tt w
        clear OL hpp
        unfold Ent.vals
        dsimp only
        have K21 := hid (show Kb w B (W20.alloc (.cells #[.string tp, .int .i64 tk, .int .i64 tm, .string tt] 27)) _ _ from (unhid K20).box ⟨tp, tk, tm, tt⟩)
        clear K20
        obtain ⟨t0, t1, t2, t3⟩ := ((unhid K21).ents (g := g) (es := es) (by simp) j _ (unhid HE))
        rw [Nat.zero_add] at t0 t1 t2 t3
        obtain ⟨⟨d0, d1, d2, d3⟩, -⟩ := four_cells ((unhid K21).one (show (be, (⟨x, k, m, t⟩ : Ent)) ∈ _ by simp))
        obtain ⟨⟨z0, z1, z2, z3⟩, -⟩ := four_cells ((unhid K21).one (show (W20.heap.size, (⟨tp, tk, tm, tt⟩ : Ent)) ∈ _ by simp))
        dsimp only at t0 t1 t2 t3 d0 d1 d2 d3 z0 z1 z2 z3
        go_wp2_with fail
        generalize W20.alloc (.cells #[.string tp, .int .i64 tk, .int .i64 tm, .string tt] 27) = W21 at *
        generalize W20.heap.size = bz at *
        go_quiet (fail)
        go_wp2_with fail
        go_roundw
        case rel => exact ⟨j + 1, by omega, by go_num, hid ((unhid K21).step (drewN_below _ _)).unbox⟩
        case measure => simp [intOf]; omega
    have K19 := KL
    clear KL
    generalize wr = W19 at *
    go_wp2_with fail
    refine (treeOk_any L ax cx _ (unhid HS2) ((unhid K19).at (by simp))).mono ?_
    rintro e W20 ⟨rfl, hb⟩
    have K20 := hid ((unhid K19).step hb)
    clear hb K19
    rw [(unhid Q).1]
    have heq := fun w => eq_same x k m t w
    have hlen : (L.length : Int) ≤ (es.length : Int) + 1 := by omega
    have hzl : (putR L ⟨x, k, m, t⟩).length ≤ 1000 := by rw [(unhid Q).2.2.2.2.1]; omega
    obtain ⟨⟨d0, d1, d2, d3⟩, -⟩ := four_cells ((unhid K20).one (show (be, ⟨x, k, m, t⟩) ∈ _ by simp))
    obtain ⟨⟨f0, f1, f2, f3⟩, -⟩ := four_cells ((unhid K20).one (show (bq, ⟨x, k, m, t⟩) ∈ _ by simp))
    dsimp only at d0 d1 d2 d3 f0 f1 f2 f3
    go_wp2_with fail
    refine (jsTree_any (putR L ⟨x, k, m, t⟩) L az ax cz cx _ (by unfold maxLen; omega) (by unfold maxLen; omega) ((unhid K20).at (by simp)) ((unhid K20).at (by simp))).mono ?_
    rintro e W21 ⟨rfl, hb⟩
    have K21 := hid ((unhid K20).step hb)
    clear hb K20
    rw [(eqEs_iff _ _).2 (unhid Q).2.2.2.2.1]
    go_wp2_with fail
    go_ret
    exact ⟨rfl, (unhid K21).1⟩

set_option maxRecDepth 100000 in
set_option maxHeartbeats 1000000 in
theorem lifted_FnTreePut (os : Os) (started : os.Started) (H : Type) (enc : TypeId × Value → H) :
    ReturnsInHanded {} Try.checked os 5 .any (Rows.fnTreePutSpec.pre6 enc Try.prog Try.f5 Rows.fnTreePutRow.domain false) (Rows.fnTreePutSpec.post enc Try.prog Try.f5 false true false false) := by
  refine returnsInHanded_of_change (C := Try.checked) own started (by kernel_rfl) Try.func5
    (ChangeSpec.witness6 (enc := enc) (C := Try.checked) false ⟨#[], #[.slice none 0 0], []⟩ 8 (by kernel_rfl) (by kernel_rfl) (by kernel_rfl) (by kernel_rfl)) ?_
  intro W base args ds gs before hval0 hW _ _
  have hval : ∀ (j : Nat) t v, Try.f5.params[j]? = some t → args[j]? = some v → Value.okWide Try.prog W .any base t v := hval0
  have hW' := hW
  obtain ⟨p, q, hA0, hV, rfl, hfz, hnd⟩ := hW
  have hA : DataW.TrodAll enc Try.prog W 0 (fun _ => true) true Try.f5.params.toList args.toList ds p := hA0
  rw [Try.params5] at hA hval
  obtain ⟨v0, vs0, d0, ds0, p0, q0, e0, rfl, rfl, h0, r0⟩ := trodAll_cons hA
  obtain ⟨rfl, rfl, rfl⟩ := trodAll_nil r0
  obtain rfl : args = #[v0] := by cases args; simp_all
  obtain ⟨rfl, rfl⟩ := trodVars_none hV
  have hlt : ∀ x ∈ p0, x.block < W.heap.size := fun x hx => by simpa using hW'.lt x (by simpa using hx)
  have t0 := h0
  have l0 : ∀ x ∈ p0, x.block < W.heap.size := fun x hx => hlt x (by simp [hx])
  obtain ⟨a0, len0, cap0, rfl⟩ := okWide_slice Try.underlying22 (hval 0 22 v0 rfl rfl)
  obtain ⟨hc0, hn0⟩ := code_of h0 l0
  clear hA0 hval0
  refine (walk_FnTreePut a0 len0 cap0 W hc0 hn0).mono fun e W' ⟨he, hb⟩ => ?_
  subst he
  exact ⟨_, rfl, post_below (gs := []) (pv := []) hW' (fun _ _ _ => trodAll_cons_mk (shut_bool Try.underlying4 _) trodAll_mk0) (trodAll_cons_mk (Below.trod laidOut (by kernel_rfl) (of_decide_eq_true (by kernel_rfl)) t0 hb l0) trodAll_mk0) rfl (by simp) hb⟩

theorem fnTreePut_holds : Rows.FnTreePutSaid :=
  OpenClaim.holds_of_wide 5 Try.f5 rfl rfl rfl rfl rfl rfl rfl ⟨rfl, rfl, rfl, rfl, rfl⟩ rfl rfl rfl rfl rfl (by kernel_rfl) Try.func5 (by kernel_rfl)
    (of_decide_eq_true (by kernel_rfl)) (by unfold Func.isWrapper; first | (rw [if_pos (by decide +kernel)]; kernel_rfl) | (rw [if_neg (by decide +kernel)]; exact ⟨rfl, rfl⟩))
    (fun os started H enc _ => lifted_FnTreePut os started H enc)
end Go.Proofs.Ytaefjibnnbdaaaa
