/- Of every code: a drawn tree and two paths: FnTreeMoveIn answers true; the code is as it was. No condition. -/
import Derived.Test.YtaefjibnnbdaaaaJoin9
namespace Go.Proofs.Ytaefjibnnbdaaaa
open Go.ChangeShapes Go.WideShapes Go.ChangeAt Go.RowKit

theorem move_self (p : ByteArray) (es : List Ent) : moveOk p p es = false := by
  unfold moveOk mayB
  cases thereE (keptE es) p <;> simp
theorem move_into (p : ByteArray) (es : List Ent) : moveOk p (p ++ (⟨#[47, 120]⟩ : ByteArray)) es = false := by
  unfold moveOk
  cases hm : mayB (keptE es) p (p ++ (⟨#[47, 120]⟩ : ByteArray))
  · rfl
  · exfalso
    unfold mayB at hm
    simp only [Bool.and_eq_true] at hm
    obtain ⟨h1, -, h3, h4, -⟩ := hm
    obtain ⟨x, hx, hxp⟩ := there_get h1
    have hp : pathB p.data.toList = true := by
      cases ht : treeB es
      · rw [keptE_no ht] at hx; simp at hx
      · rw [keptE_yes ht] at hx; rw [← hxp]; exact ent_pathB (tree_ent ht hx)
    have hd : (p ++ (⟨#[47, 120]⟩ : ByteArray)).data.toList = p.data.toList ++ 47 :: [120] := by rw [ByteArray.data_append]; simp
    rw [hd] at h3 h4
    have := inB_mk hp h3 (belowB_app p.data.toList [120])
    rw [this] at h4
    cases h4

set_option maxRecDepth 100000 in
set_option maxHeartbeats 8000000 in
theorem walk_FnTreeMoveIn (a : Option Addr) (len cap : Nat) (w : World) (h : Code w w.heap.size a len) (hc : len ≤ cap) :
    Calls Try.prog 4 #[.slice a len cap] w fun e w' => e = .returned (.bool true) ∧ Below w.heap.size w w' := by
  have H := hid h
  clear h
  by_cases hl : (1048576 : Int) < len
  · go_enter Try.func4, Try.ntmps4
    go_wp2
    go_ret
    exact ⟨rfl, Below.refl _ _⟩
  go_enter Try.func4, Try.ntmps4
  go_wp2_with fail
  refine (DrawTreeMove_any w a len cap (unhid H) (by omega) hc).mono ?_
  rintro e W1 ⟨v, p, q, rfl, hp0, hq0, es, hD⟩
  have HS := hid hD.small
  have HN := hid hD.nice
  have hfew := hD.few
  obtain ⟨g, c, rfl, -⟩ := hD.v
  have K1 := hid (kb_drawn hD).1
  have hgB := (kb_drawn hD).2.1
  have hcap := (kb_drawn hD).2.2
  generalize W1.heap.size = B at K1 hgB
  clear hD H
  have hp := nice_short hp0
  have hq := nice_short hq0
  have hz : (p ++ (⟨#[47, 120]⟩ : ByteArray)).size ≤ 102 := by rw [ByteArray.size_append]; show p.size + 2 ≤ 102; omega
  have M1 := hid (move_self p es)
  have M2 := hid (move_into p es)
  have ML := moveR_len p q es
  clear hp0 hq0 HN
  go_wp2_with fail
  refine (treeMove_any es (some ⟨g, 0, none⟩) c p q _ (unhid HS) (by omega) (by omega) ((unhid K1).at (by simp))).mono ?_
  rintro e W2 ⟨v2, rfl, ho, hb⟩
  obtain ⟨ax, cx, rfl⟩ := ownsRow_slice ho
  have K2 := hid ((unhid K1).push ho hb)
  clear ho hb K1
  go_wp2_with fail
  refine (specTreeMove_any es p q g 0 c _ (unhid HS) (by omega) (by omega) ((unhid K2).ents (by simp)) ((unhid K2).lt hgB)).mono ?_
  rintro e W3 ⟨v3, rfl, ho, hb⟩
  obtain ⟨ay, cy, rfl⟩ := ownsRow_slice ho
  have K3 := hid ((unhid K2).push ho hb)
  clear ho hb K2
  generalize hLg : moveR p q es = L at *
  generalize hbg : moveOk p q es = ok at *
  clear hLg hbg
  go_wp2_with fail
  refine (jsTree_any L L ax ay cx cy _ (by unfold maxLen; omega) (by unfold maxLen; omega) ((unhid K3).at (by simp)) ((unhid K3).at (by simp))).mono ?_
  rintro e W4 ⟨rfl, hb⟩
  have K4 := hid ((unhid K3).step hb)
  clear hb K3
  rw [eqEs_self]
  go_wp2_with fail
  refine (specTreeOk_any es _ c _ (unhid HS) ((unhid K4).at (by simp))).mono ?_
  rintro e W5 ⟨rfl, hb⟩
  have K5 := hid ((unhid K4).step hb)
  clear hb K4
  cases hT : treeB es
  · skip
    go_wp2_with fail
    refine (jsTree_any L L ax ay cx cy _ (by unfold maxLen; omega) (by unfold maxLen; omega) ((unhid K5).at (by simp)) ((unhid K5).at (by simp))).mono ?_
    rintro e W6 ⟨rfl, hb⟩
    have K6 := hid ((unhid K5).step hb)
    clear hb K5
    rw [eqEs_self]
    go_wp2_with fail
    go_ret
    exact ⟨rfl, (unhid K6).1⟩
  go_wp2_with fail
  refine (treeMove_any es (some ⟨g, 0, none⟩) c p p _ (unhid HS) (by omega) (by omega) ((unhid K5).at (by simp))).mono ?_
  rintro e W6 ⟨v6, rfl, ho, hb⟩
  obtain ⟨au, cu, rfl⟩ := ownsRow_slice ho
  have K6 := hid ((unhid K5).push ho hb)
  clear ho hb K5
  rw [unhid M1]
  go_wp2_with fail
  refine (treeMove_any es (some ⟨g, 0, none⟩) c p (p ++ (⟨#[47, 120]⟩ : ByteArray)) _ (unhid HS) (by omega) (by omega) ((unhid K6).at (by simp))).mono ?_
  rintro e W7 ⟨v7, rfl, ho, hb⟩
  obtain ⟨az, cz, rfl⟩ := ownsRow_slice ho
  have K7 := hid ((unhid K6).push ho hb)
  clear ho hb K6
  rw [unhid M2]
  go_wp2_with fail
  go_ret
  exact ⟨rfl, (unhid K7).1⟩

set_option maxRecDepth 100000 in
set_option maxHeartbeats 1000000 in
theorem lifted_FnTreeMoveIn (os : Os) (started : os.Started) (H : Type) (enc : TypeId × Value → H) :
    ReturnsInHanded {} Try.checked os 4 .any (Rows.fnTreeMoveInSpec.pre6 enc Try.prog Try.f4 Rows.fnTreeMoveInRow.domain false) (Rows.fnTreeMoveInSpec.post enc Try.prog Try.f4 false true false false) := by
  refine returnsInHanded_of_change (C := Try.checked) own started (by kernel_rfl) Try.func4
    (ChangeSpec.witness6 (enc := enc) (C := Try.checked) false ⟨#[], #[.slice none 0 0], []⟩ 8 (by kernel_rfl) (by kernel_rfl) (by kernel_rfl) (by kernel_rfl)) ?_
  intro W base args ds gs before hval0 hW _ _
  have hval : ∀ (j : Nat) t v, Try.f4.params[j]? = some t → args[j]? = some v → Value.okWide Try.prog W .any base t v := hval0
  have hW' := hW
  obtain ⟨p, q, hA0, hV, rfl, hfz, hnd⟩ := hW
  have hA : DataW.TrodAll enc Try.prog W 0 (fun _ => true) true Try.f4.params.toList args.toList ds p := hA0
  rw [Try.params4] at hA hval
  obtain ⟨v0, vs0, d0, ds0, p0, q0, e0, rfl, rfl, h0, r0⟩ := trodAll_cons hA
  obtain ⟨rfl, rfl, rfl⟩ := trodAll_nil r0
  obtain rfl : args = #[v0] := by cases args; simp_all
  obtain ⟨rfl, rfl⟩ := trodVars_none hV
  have hlt : ∀ x ∈ p0, x.block < W.heap.size := fun x hx => by simpa using hW'.lt x (by simpa using hx)
  have t0 := h0
  have l0 : ∀ x ∈ p0, x.block < W.heap.size := fun x hx => hlt x (by simp [hx])
  obtain ⟨a0, len0, cap0, rfl⟩ := okWide_slice Try.underlying22 (hval 0 22 v0 rfl rfl)
  obtain ⟨hc0, hn0⟩ := code_of h0 l0
  clear hA0 hval0
  refine (walk_FnTreeMoveIn a0 len0 cap0 W hc0 hn0).mono fun e W' ⟨he, hb⟩ => ?_
  subst he
  exact ⟨_, rfl, post_below (gs := []) (pv := []) hW' (fun _ _ _ => trodAll_cons_mk (shut_bool Try.underlying4 _) trodAll_mk0) (trodAll_cons_mk (Below.trod laidOut (by kernel_rfl) (of_decide_eq_true (by kernel_rfl)) t0 hb l0) trodAll_mk0) rfl (by simp) hb⟩

theorem fnTreeMoveIn_holds : Rows.FnTreeMoveInSaid :=
  OpenClaim.holds_of_wide 4 Try.f4 rfl rfl rfl rfl rfl rfl rfl ⟨rfl, rfl, rfl, rfl, rfl⟩ rfl rfl rfl rfl rfl (by kernel_rfl) Try.func4 (by kernel_rfl)
    (of_decide_eq_true (by kernel_rfl)) (by unfold Func.isWrapper; first | (rw [if_pos (by decide +kernel)]; kernel_rfl) | (rw [if_neg (by decide +kernel)]; exact ⟨rfl, rfl⟩))
    (fun os started H enc _ => lifted_FnTreeMoveIn os started H enc)
end Go.Proofs.Ytaefjibnnbdaaaa
