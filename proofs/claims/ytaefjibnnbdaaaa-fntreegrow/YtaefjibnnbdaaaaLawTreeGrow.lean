/- Of every code: a drawn tree: FnTreeGrow answers true; the code is as it was. No condition. -/
import Derived.Test.YtaefjibnnbdaaaaJoin9
import Derived.Test.YtaefjibnnbdaaaaJoin7
namespace Go.Proofs.Ytaefjibnnbdaaaa
open Go.ChangeShapes Go.WideShapes Go.ChangeAt Go.RowKit

theorem putR_small2 {es : List Ent} {e : Ent} : smallE (putR es e) := by
  unfold putR
  split
  · rename_i h
    exact small_all (by have := putL_len es e; have := tree_16 h; omega) (putL_all (tree_all h))
  · exact ⟨by simp, fun e he => by cases he⟩

set_option maxRecDepth 100000 in
set_option maxHeartbeats 8000000 in
theorem walk_FnTreeGrow (a : Option Addr) (len cap : Nat) (w : World) (h : Code w w.heap.size a len) (hc : len ≤ cap) :
    Calls Try.prog 12 #[.slice a len cap] w fun e w' => e = .returned (.bool true) ∧ Below w.heap.size w w' := by
  have H := hid h
  clear h
  by_cases hl : (1048576 : Int) < len
  · go_enter Try.func12, Try.ntmps12
    go_wp2
    go_ret
    exact ⟨rfl, Below.refl _ _⟩
  go_enter Try.func12, Try.ntmps12
  go_wp2_with fail
  refine (DrawTreePut_any w a len cap (unhid H) (by omega) hc).mono ?_
  rintro e W1 ⟨v, ⟨x, k, m, t⟩, rfl, he, es, hD⟩
  have HS := hid hD.small
  have HN := hid hD.nice
  have hfew := hD.few
  obtain ⟨g, c, rfl, -⟩ := hD.v
  have K1 := hid (kb_drawn hD).1
  have hgB := (kb_drawn hD).2.1
  have hcap := (kb_drawn hD).2.2
  generalize W1.heap.size = B at K1 hgB
  clear hD H
  clear he
  unfold Ent.vals
  dsimp only
  have K2 := hid (show Kb w B (W1.alloc (.cells #[.string x, .int .i64 k, .int .i64 m, .string t] 27)) _ _ from (unhid K1).box ⟨x, k, m, t⟩)
  clear K1
  go_wp2_with fail
  generalize W1.alloc (.cells #[.string x, .int .i64 k, .int .i64 m, .string t] 27) = W2 at *
  generalize W1.heap.size = be at *
  refine (treeOk_any es (some ⟨g, 0, none⟩) c _ (unhid HS) ((unhid K2).at (by simp))).mono ?_
  rintro e W3 ⟨rfl, hb⟩
  have K3 := hid ((unhid K2).step hb)
  clear hb K2
  go_wp2_with fail
  refine (specTreeOk_any es _ c _ (unhid HS) ((unhid K3).at (by simp))).mono ?_
  rintro e W4 ⟨rfl, hb⟩
  have K4 := hid ((unhid K3).step hb)
  clear hb K3
  cases hT : treeB es
  · skip
    go_wp2_with fail
    refine (specTreeOk_any es _ c _ (unhid HS) ((unhid K4).at (by simp))).mono ?_
    rintro e W5 ⟨rfl, hb⟩
    have K5 := hid ((unhid K4).step hb)
    clear hb K4
    rw [hT]
    go_wp2_with fail
    go_ret
    exact ⟨rfl, (unhid K5).1⟩
  by_cases hl3 : (16 : Int) < (es.length : Int) + 3
  · skip
    go_wp2_with fail
    refine (specTreeOk_any es _ c _ (unhid HS) ((unhid K4).at (by simp))).mono ?_
    rintro e W5 ⟨rfl, hb⟩
    have K5 := hid ((unhid K4).step hb)
    clear hb K4
    rw [hT]
    go_wp2_with fail
    go_ret
    exact ⟨rfl, (unhid K5).1⟩
  obtain ⟨q1, q0, q2, q3, q4, q5, q6⟩ := grow_all hT (unhid HN) (by omega)
  have Q1 := hid q1
  have Q0 := hid q0
  have Q2 := hid q2
  have Q3 := hid q3
  have Q4 := hid q4
  have Q5 := hid q5
  have Q6 := hid q6
  clear q1 q0 q2 q3 q4 q5 q6 HN hT
  go_wp2_with fail
  refine (treePut_any es gD1 (some ⟨g, 0, none⟩) c _ (unhid HS) (by show (5 : Nat) ≤ 1048576; omega) (by show (0 : Nat) ≤ 1048576; omega) ((unhid K4).at (by simp))).mono ?_
  rintro e W5 ⟨v5, rfl, ho, hb⟩
  obtain ⟨ax, cx, rfl⟩ := ownsRow_slice ho
  have K5 := hid ((unhid K4).push ho hb)
  clear ho hb K4
  rw [unhid Q1]
  go_wp2_with fail
  refine (treePut_any es gF2 (some ⟨g, 0, none⟩) c _ (unhid HS) (by show (7 : Nat) ≤ 1048576; omega) (by show (0 : Nat) ≤ 1048576; omega) ((unhid K5).at (by simp))).mono ?_
  rintro e W6 ⟨v6, rfl, ho, hb⟩
  obtain ⟨an, cn, rfl⟩ := ownsRow_slice ho
  have K6 := hid ((unhid K5).push ho hb)
  clear ho hb K5
  rw [unhid Q0]
  go_wp2_with fail
  refine (treePut_any (putR es gD1) gD2 ax cx _ putR_small2 (by show (7 : Nat) ≤ 1048576; omega) (by show (0 : Nat) ≤ 1048576; omega) ((unhid K6).at (by simp))).mono ?_
  rintro e W7 ⟨v7, rfl, ho, hb⟩
  obtain ⟨ay, cy, rfl⟩ := ownsRow_slice ho
  have K7 := hid ((unhid K6).push ho hb)
  clear ho hb K6
  rw [unhid Q2]
  go_wp2_with fail
  refine (treePut_any (putR (putR es gD1) gD2) gL3 ay cy _ putR_small2 (by show (9 : Nat) ≤ 1048576; omega) (by show (5 : Nat) ≤ 1048576; omega) ((unhid K7).at (by simp))).mono ?_
  rintro e W8 ⟨v8, rfl, ho, hb⟩
  obtain ⟨az, cz, rfl⟩ := ownsRow_slice ho
  have K8 := hid ((unhid K7).push ho hb)
  clear ho hb K7
  rw [unhid Q3]
  go_wp2_with fail
  refine (treeFollow_any (putR (putR (putR es gD1) gD2) gL3) az cz frB _ putR_small2 ((unhid K8).at (by simp))).mono ?_
  rintro e W9 ⟨rfl, hb⟩
  have K9 := hid ((unhid K8).step hb)
  clear hb K8
  rw [unhid Q4]
  unfold folGot Option.isSome gD1 fr Ent.vals
  dsimp only
  have K10 := hid (show Kb w B (W9.alloc (.cells #[.string ⟨#[102, 114, 101, 115, 104]⟩, .int .i64 1, .int .i64 7, .string ⟨#[]⟩] 27)) _ _ from (unhid K9).box ⟨⟨#[102, 114, 101, 115, 104]⟩, 1, 7, ⟨#[]⟩⟩)
  clear K9
  go_wp2_with fail
  generalize W9.alloc (.cells #[.string ⟨#[102, 114, 101, 115, 104]⟩, .int .i64 1, .int .i64 7, .string ⟨#[]⟩] 27) = W10 at *
  generalize W9.heap.size = bu at *
  refine (treeDrop_any (putR (putR (putR es gD1) gD2) gL3) az cz fr _ putR_small2 (by show (5 : Nat) ≤ 1048576; omega) ((unhid K10).at (by simp))).mono ?_
  rintro e W11 ⟨v11, rfl, ho, hb⟩
  obtain ⟨aq, cq, rfl⟩ := ownsRow_slice ho
  have K11 := hid ((unhid K10).push ho hb)
  clear ho hb K10
  rw [unhid Q5]
  have hql : (leftE fr (keptE (putR (putR (putR es gD1) gD2) gL3))).length ≤ 1000 := by rw [unhid Q6]; omega
  obtain ⟨⟨d0, d1, d2, d3⟩, -⟩ := four_cells ((unhid K11).one (show (bu, (⟨⟨#[102, 114, 101, 115, 104]⟩, 1, 7, ⟨#[]⟩⟩ : Ent)) ∈ _ by simp))
  dsimp only at d0 d1 d2 d3
  go_wp2_with fail
  refine (jsTree_any (leftE fr (keptE (putR (putR (putR es gD1) gD2) gL3))) es aq (some ⟨g, 0, none⟩) cq c _ (by unfold maxLen; omega) (by unfold maxLen; omega) ((unhid K11).at (by simp)) ((unhid K11).at (by simp))).mono ?_
  rintro e W12 ⟨rfl, hb⟩
  have K12 := hid ((unhid K11).step hb)
  clear hb K11
  rw [(eqEs_iff _ _).2 (unhid Q6)]
  go_wp2_with fail
  go_ret
  exact ⟨rfl, (unhid K12).1⟩

set_option maxRecDepth 100000 in
set_option maxHeartbeats 1000000 in
theorem lifted_FnTreeGrow (os : Os) (started : os.Started) (H : Type) (enc : TypeId × Value → H) :
    ReturnsInHanded {} Try.checked os 12 .any (Rows.fnTreeGrowSpec.pre6 enc Try.prog Try.f12 Rows.fnTreeGrowRow.domain false) (Rows.fnTreeGrowSpec.post enc Try.prog Try.f12 false true false false) := by
  refine returnsInHanded_of_change (C := Try.checked) own started (by kernel_rfl) Try.func12
    (ChangeSpec.witness6 (enc := enc) (C := Try.checked) false ⟨#[], #[.slice none 0 0], []⟩ 8 (by kernel_rfl) (by kernel_rfl) (by kernel_rfl) (by kernel_rfl)) ?_
  intro W base args ds gs before hval0 hW _ _
  have hval : ∀ (j : Nat) t v, Try.f12.params[j]? = some t → args[j]? = some v → Value.okWide Try.prog W .any base t v := hval0
  have hW' := hW
  obtain ⟨p, q, hA0, hV, rfl, hfz, hnd⟩ := hW
  have hA : DataW.TrodAll enc Try.prog W 0 (fun _ => true) true Try.f12.params.toList args.toList ds p := hA0
  rw [Try.params12] at hA hval
  obtain ⟨v0, vs0, d0, ds0, p0, q0, e0, rfl, rfl, h0, r0⟩ := trodAll_cons hA
  obtain ⟨rfl, rfl, rfl⟩ := trodAll_nil r0
  obtain rfl : args = #[v0] := by cases args; simp_all
  obtain ⟨rfl, rfl⟩ := trodVars_none hV
  have hlt : ∀ x ∈ p0, x.block < W.heap.size := fun x hx => by simpa using hW'.lt x (by simpa using hx)
  have t0 := h0
  have l0 : ∀ x ∈ p0, x.block < W.heap.size := fun x hx => hlt x (by simp [hx])
  obtain ⟨a0, len0, cap0, rfl⟩ := okWide_slice Try.underlying22 (hval 0 22 v0 rfl rfl)
  obtain ⟨hc0, hn0⟩ := code_of h0 l0
  clear hA0 hval0
  refine (walk_FnTreeGrow a0 len0 cap0 W hc0 hn0).mono fun e W' ⟨he, hb⟩ => ?_
  subst he
  exact ⟨_, rfl, post_below (gs := []) (pv := []) hW' (fun _ _ _ => trodAll_cons_mk (shut_bool Try.underlying4 _) trodAll_mk0) (trodAll_cons_mk (Below.trod laidOut (by kernel_rfl) (of_decide_eq_true (by kernel_rfl)) t0 hb l0) trodAll_mk0) rfl (by simp) hb⟩

theorem fnTreeGrow_holds : Rows.FnTreeGrowSaid :=
  OpenClaim.holds_of_wide 12 Try.f12 rfl rfl rfl rfl rfl rfl rfl ⟨rfl, rfl, rfl, rfl, rfl⟩ rfl rfl rfl rfl rfl (by kernel_rfl) Try.func12 (by kernel_rfl)
    (of_decide_eq_true (by kernel_rfl)) (by unfold Func.isWrapper; first | (rw [if_pos (by decide +kernel)]; kernel_rfl) | (rw [if_neg (by decide +kernel)]; exact ⟨rfl, rfl⟩))
    (fun os started H enc _ => lifted_FnTreeGrow os started H enc)
end Go.Proofs.Ytaefjibnnbdaaaa
