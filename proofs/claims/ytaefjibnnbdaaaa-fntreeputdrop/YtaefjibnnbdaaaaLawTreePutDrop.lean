/- Of every code: a drawn tree and an entry: FnTreePutDrop answers true; the code is as it was. No condition. -/
import Derived.Test.YtaefjibnnbdaaaaJoin9
namespace Go.Proofs.Ytaefjibnnbdaaaa
open Go.ChangeShapes Go.WideShapes Go.ChangeAt Go.RowKit

theorem drop_new {es : List Ent} {e : Ent} (h : treeB es = true) (hk : okPut es e = true) (ht : thereE es e.path = false) : leftE e.path (keptE (putT es e)) = es := by
  have hu := tree_up h
  rw [keptE_yes (put_tree h hk)]
  refine up_ext (left_up (putT_up hu)) hu (fun x => ?_)
  rw [left_iff, putT_iff hu]
  have hp := ent_pathB ((okPut_iff h e).1 hk).1
  constructor
  · rintro ⟨rfl | ⟨hx, _⟩, hin⟩
    · rw [inB_refl _ hp] at hin; cases hin
    · exact hx
  · intro hx
    refine ⟨.inr ⟨hx, there_not hu ht x hx⟩, ?_⟩
    cases hi : inB e.path.data.toList x.path.data.toList
    · rfl
    · rw [in_there h _ x hx (Nat.le_refl _) hi] at ht; cases ht
theorem put_there {es : List Ent} {e : Ent} (h : treeB es = true) (hk : okPut es e = true) : (treeB (putT es e) && thereE (putT es e) e.path) = true := by
  have hT := put_tree h hk
  rw [hT, (there_mem (tree_up hT) ((putT_iff (tree_up h) e e).2 (.inl rfl))).1]; rfl

set_option maxRecDepth 100000 in
set_option maxHeartbeats 8000000 in
theorem walk_FnTreePutDrop (a : Option Addr) (len cap : Nat) (w : World) (h : Code w w.heap.size a len) (hc : len ≤ cap) :
    Calls Try.prog 10 #[.slice a len cap] w fun e w' => e = .returned (.bool true) ∧ Below w.heap.size w w' := by
  have H := hid h
  clear h
  by_cases hl : (1048576 : Int) < len
  · go_enter Try.func10, Try.ntmps10
    go_wp2
    go_ret
    exact ⟨rfl, Below.refl _ _⟩
  go_enter Try.func10, Try.ntmps10
  go_wp2_with fail
  refine (DrawTreePut_any w a len cap (unhid H) (by omega) hc).mono ?_
  rintro e W1 ⟨v, ⟨x, k, m, t⟩, rfl, he, es, hD⟩
  have HS := hid hD.small
  have HN := hid hD.nice
  have hfew := hD.few
  obtain ⟨g, c, rfl, -⟩ := hD.v
  have K1 := hid (kb_drawn hD).1
  have hgB := (kb_drawn hD).2.1
  have hcap := (kb_drawn hD).2.2
  generalize W1.heap.size = B at K1 hgB
  clear hD H
  have hx := nice_short he.1
  have ht : t.size ≤ 100 := he.2
  dsimp only at hx
  have PL := putR_len (es := es) (e := ⟨x, k, m, t⟩)
  clear HN he
  unfold Ent.vals
  dsimp only
  have K2 := hid (show Kb w B (W1.alloc (.cells #[.string x, .int .i64 k, .int .i64 m, .string t] 27)) _ _ from (unhid K1).box ⟨x, k, m, t⟩)
  clear K1
  go_wp2_with fail
  generalize W1.alloc (.cells #[.string x, .int .i64 k, .int .i64 m, .string t] 27) = W2 at *
  generalize W1.heap.size = be at *
  refine (treePut_any es ⟨x, k, m, t⟩ (some ⟨g, 0, none⟩) c _ (unhid HS) (by dsimp only; omega) (by dsimp only; omega) ((unhid K2).at (by simp))).mono ?_
  rintro e W3 ⟨v3, rfl, ho, hb⟩
  obtain ⟨ax, cx, rfl⟩ := ownsRow_slice ho
  have K3 := hid ((unhid K2).push ho hb)
  clear ho hb K2
  obtain ⟨⟨d0, d1, d2, d3⟩, -⟩ := four_cells ((unhid K3).one (show (be, ⟨x, k, m, t⟩) ∈ _ by simp))
  dsimp only at d0 d1 d2 d3
  go_wp2_with fail
  refine (specTreePut_any es ⟨x, k, m, t⟩ g 0 c _ (unhid HS) hcap (by dsimp only; omega) (by dsimp only; omega) ((unhid K3).ents (by simp)) ((unhid K3).lt hgB)).mono ?_
  rintro e W4 ⟨v4, rfl, ho, hb⟩
  obtain ⟨ay, cy, rfl⟩ := ownsRow_slice ho
  have K4 := hid ((unhid K3).push ho hb)
  clear ho hb K3
  clear d0 d1 d2 d3
  have PY := hid (fun h => put_yes (es := es) (e := ⟨x, k, m, t⟩) h)
  generalize hLg : putR es ⟨x, k, m, t⟩ = L at *
  generalize hbg : putOk es ⟨x, k, m, t⟩ = ok at *
  clear hLg hbg
  go_wp2_with fail
  refine (jsTree_any L L ax ay cx cy _ (by unfold maxLen; omega) (by unfold maxLen; omega) ((unhid K4).at (by simp)) ((unhid K4).at (by simp))).mono ?_
  rintro e W5 ⟨rfl, hb⟩
  have K5 := hid ((unhid K4).step hb)
  clear hb K4
  rw [eqEs_self]
  cases ok
  · skip
    go_wp2_with fail
    refine (jsTree_any L L ax ay cx cy _ (by unfold maxLen; omega) (by unfold maxLen; omega) ((unhid K5).at (by simp)) ((unhid K5).at (by simp))).mono ?_
    rintro e W6 ⟨rfl, hb⟩
    have K6 := hid ((unhid K5).step hb)
    clear hb K5
    rw [eqEs_self]
    go_wp2_with fail
    go_ret
    exact ⟨rfl, (unhid K6).1⟩
  obtain ⟨hT, hO, rfl⟩ := unhid PY rfl
  have TD := hid (put_there hT hO)
  have DN := hid (fun h => drop_new (es := es) (e := ⟨x, k, m, t⟩) hT hO h)
  have HS2 := hid (show smallE (putT es ⟨x, k, m, t⟩) from small_all (by omega) (tree_all (put_tree hT hO)))
  have HTT := hid hT
  clear PY hT hO
  obtain ⟨⟨d0, d1, d2, d3⟩, -⟩ := four_cells ((unhid K5).one (show (be, ⟨x, k, m, t⟩) ∈ _ by simp))
  dsimp only at d0 d1 d2 d3
  go_wp2_with fail
  refine (treeGet_any es (some ⟨g, 0, none⟩) c x _ (unhid HS) ((unhid K5).at (by simp))).mono ?_
  rintro e W6 ⟨rfl, hb⟩
  have K6 := hid ((unhid K5).step hb)
  clear hb K5
  rw [unhid HTT, Bool.true_and]
  generalize gotE es x = got
  obtain ⟨gp, gk, gm, gt⟩ := got
  unfold Ent.vals
  dsimp only
  clear d0 d1 d2 d3
  have K7 := hid (show Kb w B (W6.alloc (.cells #[.string gp, .int .i64 gk, .int .i64 gm, .string gt] 27)) _ _ from (unhid K6).box ⟨gp, gk, gm, gt⟩)
  clear K6
  obtain ⟨⟨d0, d1, d2, d3⟩, -⟩ := four_cells ((unhid K7).one (show (be, ⟨x, k, m, t⟩) ∈ _ by simp))
  dsimp only at d0 d1 d2 d3
  go_wp2_with fail
  generalize W6.alloc (.cells #[.string gp, .int .i64 gk, .int .i64 gm, .string gt] 27) = W7 at *
  generalize W6.heap.size = bq at *
  refine (treeDrop_any (putT es ⟨x, k, m, t⟩) ax cx x _ (unhid HS2) (by omega) ((unhid K7).at (by simp))).mono ?_
  rintro e W8 ⟨v8, rfl, ho, hb⟩
  obtain ⟨az, cz, rfl⟩ := ownsRow_slice ho
  have K8 := hid ((unhid K7).push ho hb)
  clear ho hb K7
  rw [unhid TD]
  clear d0 d1 d2 d3
  cases hth : thereE es x
  · skip
    have E := hid (unhid DN hth)
    have hzl : (leftE x (keptE (putT es ⟨x, k, m, t⟩))).length ≤ 1000 := by have := unhid E; (try dsimp only at this); rw [this]; omega
    clear hth
    go_wp2_with fail
    refine (jsTree_any (leftE x (keptE (putT es ⟨x, k, m, t⟩))) es az (some ⟨g, 0, none⟩) cz c _ (by unfold maxLen; omega) (by unfold maxLen; omega) ((unhid K8).at (by simp)) ((unhid K8).at (by simp))).mono ?_
    rintro e W9 ⟨rfl, hb⟩
    have K9 := hid ((unhid K8).step hb)
    clear hb K8
    rw [(eqEs_iff _ _).2 (unhid E)]
    go_wp2_with fail
    go_ret
    exact ⟨rfl, (unhid K9).1⟩
  go_wp2_with fail
  go_ret
  exact ⟨rfl, (unhid K8).1⟩

set_option maxRecDepth 100000 in
set_option maxHeartbeats 1000000 in
theorem lifted_FnTreePutDrop (os : Os) (started : os.Started) (H : Type) (enc : TypeId × Value → H) :
    ReturnsInHanded {} Try.checked os 10 .any (Rows.fnTreePutDropSpec.pre6 enc Try.prog Try.f10 Rows.fnTreePutDropRow.domain false) (Rows.fnTreePutDropSpec.post enc Try.prog Try.f10 false true false false) := by
  refine returnsInHanded_of_change (C := Try.checked) own started (by kernel_rfl) Try.func10
    (ChangeSpec.witness6 (enc := enc) (C := Try.checked) false ⟨#[], #[.slice none 0 0], []⟩ 8 (by kernel_rfl) (by kernel_rfl) (by kernel_rfl) (by kernel_rfl)) ?_
  intro W base args ds gs before hval0 hW _ _
  have hval : ∀ (j : Nat) t v, Try.f10.params[j]? = some t → args[j]? = some v → Value.okWide Try.prog W .any base t v := hval0
  have hW' := hW
  obtain ⟨p, q, hA0, hV, rfl, hfz, hnd⟩ := hW
  have hA : DataW.TrodAll enc Try.prog W 0 (fun _ => true) true Try.f10.params.toList args.toList ds p := hA0
  rw [Try.params10] at hA hval
  obtain ⟨v0, vs0, d0, ds0, p0, q0, e0, rfl, rfl, h0, r0⟩ := trodAll_cons hA
  obtain ⟨rfl, rfl, rfl⟩ := trodAll_nil r0
  obtain rfl : args = #[v0] := by cases args; simp_all
  obtain ⟨rfl, rfl⟩ := trodVars_none hV
  have hlt : ∀ x ∈ p0, x.block < W.heap.size := fun x hx => by simpa using hW'.lt x (by simpa using hx)
  have t0 := h0
  have l0 : ∀ x ∈ p0, x.block < W.heap.size := fun x hx => hlt x (by simp [hx])
  obtain ⟨a0, len0, cap0, rfl⟩ := okWide_slice Try.underlying22 (hval 0 22 v0 rfl rfl)
  obtain ⟨hc0, hn0⟩ := code_of h0 l0
  clear hA0 hval0
  refine (walk_FnTreePutDrop a0 len0 cap0 W hc0 hn0).mono fun e W' ⟨he, hb⟩ => ?_
  subst he
  exact ⟨_, rfl, post_below (gs := []) (pv := []) hW' (fun _ _ _ => trodAll_cons_mk (shut_bool Try.underlying4 _) trodAll_mk0) (trodAll_cons_mk (Below.trod laidOut (by kernel_rfl) (of_decide_eq_true (by kernel_rfl)) t0 hb l0) trodAll_mk0) rfl (by simp) hb⟩

theorem fnTreePutDrop_holds : Rows.FnTreePutDropSaid :=
  OpenClaim.holds_of_wide 10 Try.f10 rfl rfl rfl rfl rfl rfl rfl ⟨rfl, rfl, rfl, rfl, rfl⟩ rfl rfl rfl rfl rfl (by kernel_rfl) Try.func10 (by kernel_rfl)
    (of_decide_eq_true (by kernel_rfl)) (by unfold Func.isWrapper; first | (rw [if_pos (by decide +kernel)]; kernel_rfl) | (rw [if_neg (by decide +kernel)]; exact ⟨rfl, rfl⟩))
    (fun os started H enc _ => lifted_FnTreePutDrop os started H enc)
end Go.Proofs.Ytaefjibnnbdaaaa
