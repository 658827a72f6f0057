/- Of every code: drawn entries: FnTreeJoinSelf answers true; the code is as it was. No condition. -/
import Derived.Test.YtaefjibnnbdaaaaJoin9
import Derived.Test.YtaefjibnnbdaaaaJoin7
namespace Go.Proofs.Ytaefjibnnbdaaaa
open Go.ChangeShapes Go.WideShapes Go.ChangeAt Go.RowKit

def dirsB (es : List Ent) : Bool := es.all fun e => e.kind == 1
theorem dirsB_snoc {es : List Ent} {k : Nat} {e : Ent} (h : es[k]? = some e) : dirsB (es.take (k + 1)) = (dirsB (es.take k) && (e.kind == 1)) := by
  unfold dirsB; rw [List.take_add_one, h, List.all_append]; simp
theorem put_self {es : List Ent} (h : Up es) {x : Ent} (hx : x ∈ es) : putT es x = es := by
  have := there_mem h hx
  exact put_same this.1 this.2
theorem join_in {es : List Ent} (h : treeB es = true) : ∀ xs : List Ent, (∀ x ∈ xs, x ∈ es) → okJ es xs = dirsB xs ∧ joinTo es xs = es
  | [], _ => ⟨rfl, rfl⟩
  | x :: xs, hs => by
    have hu := tree_up h
    have hx := hs x (by simp)
    have ih := join_in h xs (fun y hy => hs y (by simp [hy]))
    have hp := put_self hu hx
    have ht := there_mem hu hx
    have hst : stepJ es x = (x.kind == 1) := by
      unfold stepJ
      rw [ht.1, ht.2, same_eq (tree_all h x hx) (tree_all h x hx) rfl, eqV_self]
      simp
    refine ⟨?_, ?_⟩
    · rw [okJ, hst, hp, ih.1]; rfl
    · show joinTo (putT es x) xs = es
      rw [hp]; exact ih.2
theorem join_new : ∀ xs : List Ent, Up xs → okJ [] xs = true ∧ joinTo [] xs = xs := snoc_ind (fun _ => ⟨rfl, rfl⟩) (fun xs x ih h => by
  unfold Up at h
  rw [List.pairwise_append] at h
  have h1 := ih h.1
  have hlt : ∀ y ∈ xs, ltS y.path x.path = true := fun y hy => h.2.2 y hy x (by simp)
  have hno : thereE xs x.path = false := by
    cases ht : thereE xs x.path
    · rfl
    · obtain ⟨y, hy, hp⟩ := there_get ht
      have := hlt y (List.mem_of_getElem? hy)
      rw [hp] at this
      rw [show ltS x.path x.path = false from lt_irr _] at this
      cases this
  refine ⟨?_, ?_⟩
  · rw [okJ_snoc, h1.1, h1.2]; unfold stepJ; rw [hno]; rfl
  · rw [joinTo_snoc, h1.2]; exact putT_end hlt)
theorem join_facts {es : List Ent} (h : treeB es = true) : joinOk es es = dirsB es ∧ (dirsB es = true → joinR es es = es) ∧ (joinOk es [] = true ∧ joinR es [] = es) ∧ (joinOk [] es = true ∧ joinR [] es = es) := by
  have h0 : treeB [] = true := by decide
  have a := join_in h es (fun _ hx => hx)
  have b := join_new es (tree_up h)
  have e1 : joinOk es es = dirsB es := by unfold joinOk; rw [h, a.1, a.2, h]; simp
  have e2 : joinOk es [] = true := by unfold joinOk; rw [h, h0]; show (true && (true && (true && treeB es))) = true; rw [h]; rfl
  have e3 : joinOk [] es = true := by unfold joinOk; rw [h, h0, b.1, b.2, h]; rfl
  refine ⟨e1, fun hd => ?_, ⟨e2, ?_⟩, e3, ?_⟩
  · unfold joinR; rw [e1, hd, if_pos rfl]; exact a.2
  · unfold joinR; rw [e2, if_pos rfl]; rfl
  · unfold joinR; rw [e3, if_pos rfl]; exact b.2

set_option maxRecDepth 100000 in
set_option maxHeartbeats 8000000 in
theorem walk_FnTreeJoinSelf (a : Option Addr) (len cap : Nat) (w : World) (h : Code w w.heap.size a len) (hc : len ≤ cap) :
    Calls Try.prog 11 #[.slice a len cap] w fun e w' => e = .returned (.bool true) ∧ Below w.heap.size w w' := by
  have H := hid h
  clear h
  by_cases hl : (1048576 : Int) < len
  · go_enter Try.func11, Try.ntmps11
    go_wp2
    go_ret
    exact ⟨rfl, Below.refl _ _⟩
  go_enter Try.func11, Try.ntmps11
  go_wp2_with fail
  refine (DrawTreeText_any w a len cap (unhid H) (by omega) hc).mono ?_
  rintro e W1 ⟨v, rfl, es, hD⟩
  have HS := hid hD.small
  have HN := hid hD.nice
  have hfew := hD.few
  obtain ⟨g, c, rfl, -⟩ := hD.v
  have K1 := hid (kb_drawn hD).1
  have hgB := (kb_drawn hD).2.1
  have hcap := (kb_drawn hD).2.2
  generalize W1.heap.size = B at K1 hgB
  clear hD H
  clear HN
  go_wp2_with fail
  refine (treeOk_any es (some ⟨g, 0, none⟩) c _ (unhid HS) ((unhid K1).at (by simp))).mono ?_
  rintro e W2 ⟨rfl, hb⟩
  have K2 := hid ((unhid K1).step hb)
  clear hb K1
  go_wp2_with fail
  refine (specTreeOk_any es _ c _ (unhid HS) ((unhid K2).at (by simp))).mono ?_
  rintro e W3 ⟨rfl, hb⟩
  have K3 := hid ((unhid K2).step hb)
  clear hb K2
  cases hT : treeB es
  · skip
    go_wp2_with fail
    refine (specTreeOk_any es _ c _ (unhid HS) ((unhid K3).at (by simp))).mono ?_
    rintro e W4 ⟨rfl, hb⟩
    have K4 := hid ((unhid K3).step hb)
    clear hb K3
    rw [hT]
    go_wp2_with fail
    go_ret
    exact ⟨rfl, (unhid K4).1⟩
  have JF := hid (join_facts hT)
  clear hT
  go_wp2_with fail
  go_loopw [5, 6] (fun d i wr => ∃ k : Nat, k ≤ es.length ∧ i = .int .i64 k ∧ d = .bool (dirsB (es.take k)) ∧ Hid (Kb w B wr [(some ⟨g, 0, none⟩, es)] [])) (fun _ i _ => es.length - (intOf i).toNat)
  case atStart => exact ⟨0, by omega, rfl, rfl, K3⟩
  case round =>
    obtain ⟨k, hk, rfl, rfl, KL⟩ := hrel
    clear K3
    by_cases hlt : k < es.length
    · skip
      obtain ⟨e, he⟩ : ∃ e, es[k]? = some e := ⟨es[k], List.getElem?_eq_getElem hlt⟩
      have c1 := ((unhid KL).ents (g := g) (es := es) (by simp) k e he).c1
      rw [Nat.zero_add] at c1
      have HD := hid (dirsB_snoc he)
      clear he
      cases hd : dirsB (es.take k)
      · rw [hd] at HD
        go_wp2_with fail
        go_roundw
        case rel => exact ⟨k + 1, by omega, by go_num, by rw [unhid HD]; rfl, KL⟩
        case measure => simp [intOf]; omega
      · rw [hd] at HD
        go_wp2_with fail
        go_roundw
        case rel => exact ⟨k + 1, by omega, by go_num, by rw [unhid HD]; rfl, KL⟩
        case measure => simp [intOf]; omega
    have hke : k = es.length := by omega
    subst hke
    rw [List.take_of_length_le (Nat.le_refl _)]
    have K9 := KL
    clear KL hlt hk
    generalize wr = W9 at *
    go_wp2_with fail
    refine (treeJoin_any es es (some ⟨g, 0, none⟩) (some ⟨g, 0, none⟩) c c _ (unhid HS) (unhid HS) ((unhid K9).at (by simp)) ((unhid K9).at (by simp))).mono ?_
    rintro e W10 ⟨v10, rfl, ho, hb⟩
    obtain ⟨ax, cx, rfl⟩ := ownsRow_slice ho
    have K10 := hid ((unhid K9).push ho hb)
    clear ho hb K9
    rw [(unhid JF).1]
    go_wp2_with fail
    refine (treeJoin_any es [] (some ⟨g, 0, none⟩) none c 0 _ (unhid HS) ⟨by simp, fun e he => by cases he⟩ ((unhid K10).at (by simp)) (.inl rfl)).mono ?_
    rintro e W11 ⟨v11, rfl, ho, hb⟩
    obtain ⟨ay, cy, rfl⟩ := ownsRow_slice ho
    have K11 := hid ((unhid K10).push ho hb)
    clear ho hb K10
    rw [(unhid JF).2.2.1.1]
    go_wp2_with fail
    refine (treeJoin_any [] es none (some ⟨g, 0, none⟩) 0 c _ ⟨by simp, fun e he => by cases he⟩ (unhid HS) (.inl rfl) ((unhid K11).at (by simp))).mono ?_
    rintro e W12 ⟨v12, rfl, ho, hb⟩
    obtain ⟨az, cz, rfl⟩ := ownsRow_slice ho
    have K12 := hid ((unhid K11).push ho hb)
    clear ho hb K11
    rw [(unhid JF).2.2.2.1]
    have hyl : (joinR es []).length ≤ 1000 := by have := joinR_len es []; omega
    have hzl : (joinR [] es).length ≤ 1000 := by have := joinR_len [] es; omega
    have hxl : (joinR es es).length ≤ 1000 := by have := joinR_len es es; omega
    cases hd : dirsB es
    · skip
      go_wp2_with fail
      refine (jsTree_any (joinR es []) es ay (some ⟨g, 0, none⟩) cy c _ (by unfold maxLen; omega) (by unfold maxLen; omega) ((unhid K12).at (by simp)) ((unhid K12).at (by simp))).mono ?_
      rintro e W13 ⟨rfl, hb⟩
      have K13 := hid ((unhid K12).step hb)
      clear hb K12
      rw [(eqEs_iff _ _).2 (unhid JF).2.2.1.2]
      go_wp2_with fail
      refine (jsTree_any (joinR [] es) es az (some ⟨g, 0, none⟩) cz c _ (by unfold maxLen; omega) (by unfold maxLen; omega) ((unhid K13).at (by simp)) ((unhid K13).at (by simp))).mono ?_
      rintro e W14 ⟨rfl, hb⟩
      have K14 := hid ((unhid K13).step hb)
      clear hb K13
      rw [(eqEs_iff _ _).2 (unhid JF).2.2.2.2]
      go_wp2_with fail
      go_ret
      exact ⟨rfl, (unhid K14).1⟩
    go_wp2_with fail
    refine (jsTree_any (joinR es es) es ax (some ⟨g, 0, none⟩) cx c _ (by unfold maxLen; omega) (by unfold maxLen; omega) ((unhid K12).at (by simp)) ((unhid K12).at (by simp))).mono ?_
    rintro e W13 ⟨rfl, hb⟩
    have K13 := hid ((unhid K12).step hb)
    clear hb K12
    rw [(eqEs_iff _ _).2 ((unhid JF).2.1 hd)]
    go_wp2_with fail
    refine (jsTree_any (joinR es []) es ay (some ⟨g, 0, none⟩) cy c _ (by unfold maxLen; omega) (by unfold maxLen; omega) ((unhid K13).at (by simp)) ((unhid K13).at (by simp))).mono ?_
    rintro e W14 ⟨rfl, hb⟩
    have K14 := hid ((unhid K13).step hb)
    clear hb K13
    rw [(eqEs_iff _ _).2 (unhid JF).2.2.1.2]
    go_wp2_with fail
    refine (jsTree_any (joinR [] es) es az (some ⟨g, 0, none⟩) cz c _ (by unfold maxLen; omega) (by unfold maxLen; omega) ((unhid K14).at (by simp)) ((unhid K14).at (by simp))).mono ?_
    rintro e W15 ⟨rfl, hb⟩
    have K15 := hid ((unhid K14).step hb)
    clear hb K14
    rw [(eqEs_iff _ _).2 (unhid JF).2.2.2.2]
    go_wp2_with fail
    go_ret
    exact ⟨rfl, (unhid K15).1⟩

set_option maxRecDepth 100000 in
set_option maxHeartbeats 1000000 in
theorem lifted_FnTreeJoinSelf (os : Os) (started : os.Started) (H : Type) (enc : TypeId × Value → H) :
    ReturnsInHanded {} Try.checked os 11 .any (Rows.fnTreeJoinSelfSpec.pre6 enc Try.prog Try.f11 Rows.fnTreeJoinSelfRow.domain false) (Rows.fnTreeJoinSelfSpec.post enc Try.prog Try.f11 false true false false) := by
  refine returnsInHanded_of_change (C := Try.checked) own started (by kernel_rfl) Try.func11
    (ChangeSpec.witness6 (enc := enc) (C := Try.checked) false ⟨#[], #[.slice none 0 0], []⟩ 8 (by kernel_rfl) (by kernel_rfl) (by kernel_rfl) (by kernel_rfl)) ?_
  intro W base args ds gs before hval0 hW _ _
  have hval : ∀ (j : Nat) t v, Try.f11.params[j]? = some t → args[j]? = some v → Value.okWide Try.prog W .any base t v := hval0
  have hW' := hW
  obtain ⟨p, q, hA0, hV, rfl, hfz, hnd⟩ := hW
  have hA : DataW.TrodAll enc Try.prog W 0 (fun _ => true) true Try.f11.params.toList args.toList ds p := hA0
  rw [Try.params11] at hA hval
  obtain ⟨v0, vs0, d0, ds0, p0, q0, e0, rfl, rfl, h0, r0⟩ := trodAll_cons hA
  obtain ⟨rfl, rfl, rfl⟩ := trodAll_nil r0
  obtain rfl : args = #[v0] := by cases args; simp_all
  obtain ⟨rfl, rfl⟩ := trodVars_none hV
  have hlt : ∀ x ∈ p0, x.block < W.heap.size := fun x hx => by simpa using hW'.lt x (by simpa using hx)
  have t0 := h0
  have l0 : ∀ x ∈ p0, x.block < W.heap.size := fun x hx => hlt x (by simp [hx])
  obtain ⟨a0, len0, cap0, rfl⟩ := okWide_slice Try.underlying22 (hval 0 22 v0 rfl rfl)
  obtain ⟨hc0, hn0⟩ := code_of h0 l0
  clear hA0 hval0
  refine (walk_FnTreeJoinSelf a0 len0 cap0 W hc0 hn0).mono fun e W' ⟨he, hb⟩ => ?_
  subst he
  exact ⟨_, rfl, post_below (gs := []) (pv := []) hW' (fun _ _ _ => trodAll_cons_mk (shut_bool Try.underlying4 _) trodAll_mk0) (trodAll_cons_mk (Below.trod laidOut (by kernel_rfl) (of_decide_eq_true (by kernel_rfl)) t0 hb l0) trodAll_mk0) rfl (by simp) hb⟩

theorem fnTreeJoinSelf_holds : Rows.FnTreeJoinSelfSaid :=
  OpenClaim.holds_of_wide 11 Try.f11 rfl rfl rfl rfl rfl rfl rfl ⟨rfl, rfl, rfl, rfl, rfl⟩ rfl rfl rfl rfl rfl (by kernel_rfl) Try.func11 (by kernel_rfl)
    (of_decide_eq_true (by kernel_rfl)) (by unfold Func.isWrapper; first | (rw [if_pos (by decide +kernel)]; kernel_rfl) | (rw [if_neg (by decide +kernel)]; exact ⟨rfl, rfl⟩))
    (fun os started H enc _ => lifted_FnTreeJoinSelf os started H enc)
end Go.Proofs.Ytaefjibnnbdaaaa
