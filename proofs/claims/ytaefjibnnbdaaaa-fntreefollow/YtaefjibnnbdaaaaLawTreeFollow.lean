/- Of every code: a drawn tree and a path: FnTreeFollow answers true; the code is as it was. No condition. -/
import Derived.Test.YtaefjibnnbdaaaaJoin9
namespace Go.Proofs.Ytaefjibnnbdaaaa
open Go.ChangeShapes Go.WideShapes Go.ChangeAt Go.RowKit

theorem fol_step {es : List Ent} {p : ByteArray} (h : treeB es = true) (ht : thereE es p = true) : folE (keptE es) 17 p = if (gotE es p).kind = 3 then folE (keptE es) 17 (gotE es p).text else some (gotE es p) := by
  have hg : gotE es p = entFn es (placeE es p) := by unfold gotE; rw [h, ht]; rfl
  rw [hg, keptE_yes h]
  rw [show (17 : Nat) = 16 + 1 from rfl, folE, if_pos ht]
  split
  · exact (fol_16 (tree_16 h) _).symm
  · rfl
theorem fol_last {es : List Ent} {p : ByteArray} {x : Ent} (h : treeB es = true) (hf : folE (keptE es) 17 p = some x) : thereE es x.path = true ∧ gotE es x.path = x ∧ x.kind ≠ 3 := by
  rw [keptE_yes h] at hf
  obtain ⟨h1, h2⟩ := fol_mem _ _ _ hf
  have := there_mem' h h1
  exact ⟨this.1, this.2, h2⟩

set_option maxRecDepth 100000 in
set_option maxHeartbeats 8000000 in
theorem walk_FnTreeFollow (a : Option Addr) (len cap : Nat) (w : World) (h : Code w w.heap.size a len) (hc : len ≤ cap) :
    Calls Try.prog 9 #[.slice a len cap] w fun e w' => e = .returned (.bool true) ∧ Below w.heap.size w w' := by
  have H := hid h
  clear h
  by_cases hl : (1048576 : Int) < len
  · go_enter Try.func9, Try.ntmps9
    go_wp2
    go_ret
    exact ⟨rfl, Below.refl _ _⟩
  go_enter Try.func9, Try.ntmps9
  go_wp2_with fail
  refine (DrawTreeFollow_any w a len cap (unhid H) (by omega) hc).mono ?_
  rintro e W1 ⟨v, p, rfl, hp0, es, hD⟩
  have HS := hid hD.small
  have HN := hid hD.nice
  have hfew := hD.few
  obtain ⟨g, c, rfl, -⟩ := hD.v
  have K1 := hid (kb_drawn hD).1
  have hgB := (kb_drawn hD).2.1
  have hcap := (kb_drawn hD).2.2
  generalize W1.heap.size = B at K1 hgB
  clear hD H
  have hp := nice_short hp0
  clear HN hp0
  go_wp2_with fail
  refine (treeFollow_any es (some ⟨g, 0, none⟩) c p _ (unhid HS) ((unhid K1).at (by simp))).mono ?_
  rintro e W2 ⟨rfl, hb⟩
  have K2 := hid ((unhid K1).step hb)
  clear hb K1
  have ST := hid (fun h1 h2 => fol_step (es := es) (p := p) h1 h2)
  have NO := hid (fun (h1 : treeB es = true) (h2 : thereE es p = false) => (by rw [keptE_yes h1]; exact fol_no h2 : folE (keptE es) 17 p = none))
  have EN := hid (fun x h1 h2 => fol_last (es := es) (p := p) (x := x) h1 h2)
  generalize hr : folE (keptE es) 17 p = r at *
  generalize hfe : folGot r = fe at *
  generalize hok : r.isSome = ok at *
  have HR := hid (And.intro hfe hok)
  clear hfe hok
  obtain ⟨fp, fk, fm, ft⟩ := fe
  unfold Ent.vals
  dsimp only
  have K3 := hid (show Kb w B (W2.alloc (.cells #[.string fp, .int .i64 fk, .int .i64 fm, .string ft] 27)) _ _ from (unhid K2).box ⟨fp, fk, fm, ft⟩)
  clear K2
  go_wp2_with fail
  generalize W2.alloc (.cells #[.string fp, .int .i64 fk, .int .i64 fm, .string ft] 27) = W3 at *
  generalize W2.heap.size = be at *
  refine (specTreeFollow_any es (some ⟨g, 0, none⟩) c p _ (unhid HS) ((unhid K3).at (by simp))).mono ?_
  rintro e W4 ⟨rfl, hb⟩
  have K4 := hid ((unhid K3).step hb)
  clear hb K3
  rw [hr, (unhid HR).1, (unhid HR).2]
  have HF := hid hr
  clear hr
  unfold Ent.vals
  dsimp only
  have K5 := hid (show Kb w B (W4.alloc (.cells #[.string fp, .int .i64 fk, .int .i64 fm, .string ft] 27)) _ _ from (unhid K4).box ⟨fp, fk, fm, ft⟩)
  clear K4
  have hne := fun w => ne_same fp fk fm ft w
  have heq := fun w => eq_same fp fk fm ft w
  have HKX := K5
  obtain ⟨⟨d0, d1, d2, d3⟩, -⟩ := four_cells ((unhid K5).one (show (be, ⟨fp, fk, fm, ft⟩) ∈ _ by simp))
  obtain ⟨⟨f0, f1, f2, f3⟩, -⟩ := four_cells ((unhid K5).one (show (W4.heap.size, ⟨fp, fk, fm, ft⟩) ∈ _ by simp))
  dsimp only at d0 d1 d2 d3 f0 f1 f2 f3
  clear HKX
  go_wp2_with fail
  generalize W4.alloc (.cells #[.string fp, .int .i64 fk, .int .i64 fm, .string ft] 27) = W5 at *
  generalize W4.heap.size = bu at *
  refine (specTreeOk_any es _ c _ (unhid HS) ((unhid K5).at (by simp))).mono ?_
  rintro e W6 ⟨rfl, hb⟩
  have K6 := hid ((unhid K5).step hb)
  clear hb K5
  clear d0 d1 d2 d3 f0 f1 f2 f3
  cases hT : treeB es
  · skip
    obtain ⟨⟨d0, d1, d2, d3⟩, -⟩ := four_cells ((unhid K6).one (show (be, ⟨fp, fk, fm, ft⟩) ∈ _ by simp))
    dsimp only at d0 d1 d2 d3
    obtain ⟨⟨f0, f1, f2, f3⟩, -⟩ := four_cells ((unhid K6).one (show (bu, ⟨fp, fk, fm, ft⟩) ∈ _ by simp))
    dsimp only at f0 f1 f2 f3
    go_wp2_with fail
    go_ret
    exact ⟨rfl, (unhid K6).1⟩
  go_wp2_with fail
  refine (treeGet_any es (some ⟨g, 0, none⟩) c p _ (unhid HS) ((unhid K6).at (by simp))).mono ?_
  rintro e W7 ⟨rfl, hb⟩
  have K7 := hid ((unhid K6).step hb)
  clear hb K6
  rw [hT, Bool.true_and]
  have ST2 := hid (unhid ST hT)
  have NO2 := hid (unhid NO hT)
  have EN2 := hid (fun x h => unhid EN x hT h)
  have HT := hid hT
  clear ST NO EN hT
  generalize gotE es p = got at *
  obtain ⟨qp, qk, qm, qt⟩ := got
  unfold Ent.vals
  dsimp only
  have K8 := hid (show Kb w B (W7.alloc (.cells #[.string qp, .int .i64 qk, .int .i64 qm, .string qt] 27)) _ _ from (unhid K7).box ⟨qp, qk, qm, qt⟩)
  clear K7
  cases hth : thereE es p
  · skip
    have hr0 := unhid NO2 hth
    subst hr0
    obtain ⟨h1, h2⟩ := unhid HR
    subst h2
    clear h1 hth
    go_wp2_with fail
    go_ret
    exact ⟨rfl, (unhid K8).1⟩
  have hst := unhid ST2 hth
  dsimp only at hst
  clear hth
  by_cases hk3 : qk = 3
  · skip
    subst hk3
    rw [if_pos rfl] at hst
    obtain ⟨⟨d0, d1, d2, d3⟩, -⟩ := four_cells ((unhid K8).one (show (W7.heap.size, (⟨qp, 3, qm, qt⟩ : Ent)) ∈ _ by simp))
    dsimp only at d0 d1 d2 d3
    go_wp2_with fail
    generalize W7.alloc (.cells #[.string qp, .int .i64 3, .int .i64 qm, .string qt] 27) = W8 at *
    generalize W7.heap.size = bq at *
    refine (treeFollow_any es (some ⟨g, 0, none⟩) c qt _ (unhid HS) ((unhid K8).at (by simp))).mono ?_
    rintro e W9 ⟨rfl, hb⟩
    have K9 := hid ((unhid K8).step hb)
    clear hb K8
    rw [← hst, (unhid HR).1, (unhid HR).2]
    unfold Ent.vals
    dsimp only
    clear hst
    clear d0 d1 d2 d3
    have K10 := hid (show Kb w B (W9.alloc (.cells #[.string fp, .int .i64 fk, .int .i64 fm, .string ft] 27)) _ _ from (unhid K9).box ⟨fp, fk, fm, ft⟩)
    clear K9
    obtain ⟨⟨d0, d1, d2, d3⟩, -⟩ := four_cells ((unhid K10).one (show (be, ⟨fp, fk, fm, ft⟩) ∈ _ by simp))
    dsimp only at d0 d1 d2 d3
    go_wp2_with fail
    generalize W9.alloc (.cells #[.string fp, .int .i64 fk, .int .i64 fm, .string ft] 27) = W10 at *
    generalize W9.heap.size = bn at *
    refine (treeGet_any es (some ⟨g, 0, none⟩) c fp _ (unhid HS) ((unhid K10).at (by simp))).mono ?_
    rintro e W11 ⟨rfl, hb⟩
    have K11 := hid ((unhid K10).step hb)
    clear hb K10
    rw [unhid HT, Bool.true_and]
    clear d0 d1 d2 d3
    cases r with
    | none =>
      obtain ⟨h1, h2⟩ := unhid HR
      subst h2
      clear h1
      generalize gotE es fp = got at *
      obtain ⟨zp, zk, zm, zt⟩ := got
      unfold Ent.vals
      dsimp only
      have K12 := hid (show Kb w B (W11.alloc (.cells #[.string zp, .int .i64 zk, .int .i64 zm, .string zt] 27)) _ _ from (unhid K11).box ⟨zp, zk, zm, zt⟩)
      clear K11
      obtain ⟨⟨d0, d1, d2, d3⟩, -⟩ := four_cells ((unhid K12).one (show (be, ⟨fp, fk, fm, ft⟩) ∈ _ by simp))
      obtain ⟨⟨f0, f1, f2, f3⟩, -⟩ := four_cells ((unhid K12).one (show (bn, ⟨fp, fk, fm, ft⟩) ∈ _ by simp))
      dsimp only at d0 d1 d2 d3 f0 f1 f2 f3
      go_wp2_with fail
      go_ret
      exact ⟨rfl, (unhid K12).1⟩
    | some x =>
      obtain ⟨e1, e2, e3⟩ := unhid EN2 x rfl
      obtain ⟨h1, h2⟩ := unhid HR
      have h1' : x = ⟨fp, fk, fm, ft⟩ := h1
      subst h1'
      subst h2
      dsimp only at e1 e2 e3
      rw [e1, e2]
      have hk : (fk != 3) = true := by rw [bne_iff_ne]; exact e3
      clear e1 e2 h1
      unfold Ent.vals
      dsimp only
      have K12 := hid (show Kb w B (W11.alloc (.cells #[.string fp, .int .i64 fk, .int .i64 fm, .string ft] 27)) _ _ from (unhid K11).box ⟨fp, fk, fm, ft⟩)
      clear K11
      obtain ⟨⟨d0, d1, d2, d3⟩, -⟩ := four_cells ((unhid K12).one (show (be, ⟨fp, fk, fm, ft⟩) ∈ _ by simp))
      obtain ⟨⟨f0, f1, f2, f3⟩, -⟩ := four_cells ((unhid K12).one (show (bn, ⟨fp, fk, fm, ft⟩) ∈ _ by simp))
      obtain ⟨⟨z0, z1, z2, z3⟩, -⟩ := four_cells ((unhid K12).one (show (W11.heap.size, ⟨fp, fk, fm, ft⟩) ∈ _ by simp))
      dsimp only at d0 d1 d2 d3 f0 f1 f2 f3 z0 z1 z2 z3
      go_wp2_with fail
      go_ret
      exact ⟨rfl, (unhid K12).1⟩
  rw [if_neg hk3] at hst
  subst hst
  obtain ⟨h1, h2⟩ := unhid HR
  have h1' : (⟨qp, qk, qm, qt⟩ : Ent) = ⟨fp, fk, fm, ft⟩ := h1
  injection h1' with i1 i2 i3 i4
  subst i1
  subst i2
  subst i3
  subst i4
  subst h2
  have hk : (qk != 3) = true := by rw [bne_iff_ne]; exact hk3
  clear h1 hk3
  obtain ⟨⟨d0, d1, d2, d3⟩, -⟩ := four_cells ((unhid K8).one (show (W7.heap.size, (⟨qp, qk, qm, qt⟩ : Ent)) ∈ _ by simp))
  obtain ⟨⟨f0, f1, f2, f3⟩, -⟩ := four_cells ((unhid K8).one (show (be, (⟨qp, qk, qm, qt⟩ : Ent)) ∈ _ by simp))
  dsimp only at d0 d1 d2 d3 f0 f1 f2 f3
  go_wp2_with fail
  go_ret
  exact ⟨rfl, (unhid K8).1⟩

set_option maxRecDepth 100000 in
set_option maxHeartbeats 1000000 in
theorem lifted_FnTreeFollow (os : Os) (started : os.Started) (H : Type) (enc : TypeId × Value → H) :
    ReturnsInHanded {} Try.checked os 9 .any (Rows.fnTreeFollowSpec.pre6 enc Try.prog Try.f9 Rows.fnTreeFollowRow.domain false) (Rows.fnTreeFollowSpec.post enc Try.prog Try.f9 false true false false) := by
  refine returnsInHanded_of_change (C := Try.checked) own started (by kernel_rfl) Try.func9
    (ChangeSpec.witness6 (enc := enc) (C := Try.checked) false ⟨#[], #[.slice none 0 0], []⟩ 8 (by kernel_rfl) (by kernel_rfl) (by kernel_rfl) (by kernel_rfl)) ?_
  intro W base args ds gs before hval0 hW _ _
  have hval : ∀ (j : Nat) t v, Try.f9.params[j]? = some t → args[j]? = some v → Value.okWide Try.prog W .any base t v := hval0
  have hW' := hW
  obtain ⟨p, q, hA0, hV, rfl, hfz, hnd⟩ := hW
  have hA : DataW.TrodAll enc Try.prog W 0 (fun _ => true) true Try.f9.params.toList args.toList ds p := hA0
  rw [Try.params9] at hA hval
  obtain ⟨v0, vs0, d0, ds0, p0, q0, e0, rfl, rfl, h0, r0⟩ := trodAll_cons hA
  obtain ⟨rfl, rfl, rfl⟩ := trodAll_nil r0
  obtain rfl : args = #[v0] := by cases args; simp_all
  obtain ⟨rfl, rfl⟩ := trodVars_none hV
  have hlt : ∀ x ∈ p0, x.block < W.heap.size := fun x hx => by simpa using hW'.lt x (by simpa using hx)
  have t0 := h0
  have l0 : ∀ x ∈ p0, x.block < W.heap.size := fun x hx => hlt x (by simp [hx])
  obtain ⟨a0, len0, cap0, rfl⟩ := okWide_slice Try.underlying22 (hval 0 22 v0 rfl rfl)
  obtain ⟨hc0, hn0⟩ := code_of h0 l0
  clear hA0 hval0
  refine (walk_FnTreeFollow a0 len0 cap0 W hc0 hn0).mono fun e W' ⟨he, hb⟩ => ?_
  subst he
  exact ⟨_, rfl, post_below (gs := []) (pv := []) hW' (fun _ _ _ => trodAll_cons_mk (shut_bool Try.underlying4 _) trodAll_mk0) (trodAll_cons_mk (Below.trod laidOut (by kernel_rfl) (of_decide_eq_true (by kernel_rfl)) t0 hb l0) trodAll_mk0) rfl (by simp) hb⟩

theorem fnTreeFollow_holds : Rows.FnTreeFollowSaid :=
  OpenClaim.holds_of_wide 9 Try.f9 rfl rfl rfl rfl rfl rfl rfl ⟨rfl, rfl, rfl, rfl, rfl⟩ rfl rfl rfl rfl rfl (by kernel_rfl) Try.func9 (by kernel_rfl)
    (of_decide_eq_true (by kernel_rfl)) (by unfold Func.isWrapper; first | (rw [if_pos (by decide +kernel)]; kernel_rfl) | (rw [if_neg (by decide +kernel)]; exact ⟨rfl, rfl⟩))
    (fun os started H enc _ => lifted_FnTreeFollow os started H enc)
end Go.Proofs.Ytaefjibnnbdaaaa
