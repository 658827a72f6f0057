/- Of every code: a drawn tree and a path: FnTreeDrop answers true; the code is as it was. No condition. -/
import Derived.Test.YtaefjibnnbdaaaaJoin9
import Derived.Test.YtaefjibnnbdaaaaJoin7
namespace Go.Proofs.Ytaefjibnnbdaaaa
open Go.ChangeShapes Go.WideShapes Go.ChangeAt Go.RowKit

theorem treeDrop_R (es : List Ent) (a : Option Addr) (cap : Nat) (p : ByteArray) (w : World) (hs : smallE es) (hp : p.size ≤ 1048576) (h : EntsAt w a es) :
    Calls Try.prog 28 #[.slice a es.length cap, .string p] w fun x w' => ∃ v, x = .returned (.tuple #[v, .bool (dropOk p es)]) ∧ w'.ownsRow w.heap.size 27 4 v (dropR p es).length (valsOf (dropR p es)) ∧ Below w.heap.size w w' := treeDrop_any es a cap p w hs hp h
theorem drop_facts {es : List Ent} {p : ByteArray} (h : treeB es = true) : dropR p es = leftE p es ∧ dropOk p es = thereE es p ∧ (thereE es p = false → leftE p es = es) ∧ treeB (leftE p es) = true ∧ (thereE es p = true → (leftE p es).length < es.length) := by
  refine ⟨?_, ?_, left_none h, drop_tree h p, left_less h⟩
  · unfold dropR; rw [keptE_yes h]
  · unfold dropOk; rw [h]; rfl

set_option maxRecDepth 100000 in
set_option maxHeartbeats 8000000 in
theorem walk_FnTreeDrop (a : Option Addr) (len cap : Nat) (w : World) (h : Code w w.heap.size a len) (hc : len ≤ cap) :
    Calls Try.prog 6 #[.slice a len cap] w fun e w' => e = .returned (.bool true) ∧ Below w.heap.size w w' := by
  have H := hid h
  clear h
  by_cases hl : (1048576 : Int) < len
  · go_enter Try.func6, Try.ntmps6
    go_wp2
    go_ret
    exact ⟨rfl, Below.refl _ _⟩
  go_enter Try.func6, Try.ntmps6
  go_wp2_with fail
  refine (DrawTreeDrop_any w a len cap (unhid H) (by omega) hc).mono ?_
  rintro e W1 ⟨v, p, rfl, hp0, es, hD⟩
  have HS := hid hD.small
  have HN := hid hD.nice
  have hfew := hD.few
  obtain ⟨g, c, rfl, -⟩ := hD.v
  have K1 := hid (kb_drawn hD).1
  have hgB := (kb_drawn hD).2.1
  have hcap := (kb_drawn hD).2.2
  generalize W1.heap.size = B at K1 hgB
  clear hD H
  have hp := nice_short hp0
  have DL := dropR_len (p := p) (es := es)
  clear hp0 HN
  go_wp2_with fail
  refine (treeDrop_R es (some ⟨g, 0, none⟩) c p _ (unhid HS) (by omega) ((unhid K1).at (by simp))).mono ?_
  rintro e W2 ⟨v2, rfl, ho, hb⟩
  obtain ⟨ax, cx, rfl⟩ := ownsRow_slice ho
  have K2 := hid ((unhid K1).push ho hb)
  clear ho hb K1
  go_wp2_with fail
  refine (specTreeDrop_any es p g 0 c _ (unhid HS) (by omega) ((unhid K2).ents (by simp)) ((unhid K2).lt hgB)).mono ?_
  rintro e W3 ⟨v3, rfl, ho, hb⟩
  obtain ⟨ay, cy, rfl⟩ := ownsRow_slice ho
  have K3 := hid ((unhid K2).push ho hb)
  clear ho hb K2
  have DF := hid (fun h => drop_facts (es := es) (p := p) h)
  generalize hLg : dropR p es = L at *
  generalize hbg : dropOk p es = ok at *
  clear hLg hbg
  go_wp2_with fail
  refine (jsTree_any L L ax ay cx cy _ (by unfold maxLen; omega) (by unfold maxLen; omega) ((unhid K3).at (by simp)) ((unhid K3).at (by simp))).mono ?_
  rintro e W4 ⟨rfl, hb⟩
  have K4 := hid ((unhid K3).step hb)
  clear hb K3
  rw [eqEs_self]
  go_wp2_with fail
  refine (specTreeOk_any es _ c _ (unhid HS) ((unhid K4).at (by simp))).mono ?_
  rintro e W5 ⟨rfl, hb⟩
  have K5 := hid ((unhid K4).step hb)
  clear hb K4
  cases hT : treeB es
  · skip
    go_wp2_with fail
    refine (jsTree_any L L ax ay cx cy _ (by unfold maxLen; omega) (by unfold maxLen; omega) ((unhid K5).at (by simp)) ((unhid K5).at (by simp))).mono ?_
    rintro e W6 ⟨rfl, hb⟩
    have K6 := hid ((unhid K5).step hb)
    clear hb K5
    rw [eqEs_self]
    go_wp2_with fail
    go_ret
    exact ⟨rfl, (unhid K6).1⟩
  obtain ⟨rfl, rfl, q3, q4, q5⟩ := unhid DF hT
  have Q3 := hid q3
  have Q4 := hid q4
  have Q5 := hid q5
  have HT := hid hT
  have HS2 := hid (show smallE (leftE p es) from small_all (by omega) (tree_all q4))
  clear q3 q4 q5 hT DF
  cases hth : thereE es p
  · skip
    have E3 := hid (unhid Q3 hth)
    have HTH := hid hth
    clear hth
    go_wp2_with fail
    refine (treeGet_any es (some ⟨g, 0, none⟩) c p _ (unhid HS) ((unhid K5).at (by simp))).mono ?_
    rintro e W6 ⟨rfl, hb⟩
    have K6 := hid ((unhid K5).step hb)
    clear hb K5
    rw [unhid HT, unhid HTH, Bool.true_and]
    generalize gotE es p = got
    obtain ⟨gp, gk, gm, gt⟩ := got
    unfold Ent.vals
    dsimp only
    have K7 := hid (show Kb w B (W6.alloc (.cells #[.string gp, .int .i64 gk, .int .i64 gm, .string gt] 27)) _ _ from (unhid K6).box ⟨gp, gk, gm, gt⟩)
    clear K6
    go_wp2_with fail
    generalize W6.alloc (.cells #[.string gp, .int .i64 gk, .int .i64 gm, .string gt] 27) = W7 at *
    generalize W6.heap.size = bq at *
    refine (jsTree_any (leftE p es) es ax (some ⟨g, 0, none⟩) cx c _ (by unfold maxLen; omega) (by unfold maxLen; omega) ((unhid K7).at (by simp)) ((unhid K7).at (by simp))).mono ?_
    rintro e W8 ⟨rfl, hb⟩
    have K8 := hid ((unhid K7).step hb)
    clear hb K7
    rw [(eqEs_iff _ _).2 (unhid E3)]
    go_wp2_with fail
    go_ret
    exact ⟨rfl, (unhid K8).1⟩
  have E5 := unhid Q5 hth
  clear hth
  go_wp2_with fail
  go_loopw [11, 12] (fun n i wr => ∃ k : Nat, k ≤ es.length ∧ i = .int .i64 k ∧ n = .int .i64 (leftE p (es.take k)).length ∧ Hid (Kb w B wr [(ay, leftE p es), (ax, leftE p es), (some ⟨g, 0, none⟩, es)] [])) (fun _ i _ => es.length - (intOf i).toNat)
  case atStart => exact ⟨0, by omega, rfl, rfl, K5⟩
  case round =>
    obtain ⟨k, hk, rfl, rfl, KL⟩ := hrel
    clear K5
    by_cases hlt : k < es.length
    · skip
      obtain ⟨e, he⟩ : ∃ e, es[k]? = some e := ⟨es[k], List.getElem?_eq_getElem hlt⟩
      obtain ⟨t0, t1, t2, t3⟩ := ((unhid KL).ents (g := g) (es := es) (by simp) k e he)
      rw [Nat.zero_add] at t0 t1 t2 t3
      have hpe := ((unhid HS).2 e (List.mem_of_getElem? he)).1
      have HSP := hid (fun h => left_split (p := p) he h)
      have HSK := hid (fun h => left_skip (p := p) he h)
      have HE := hid he
      have hn1 := left_len p (es.take k)
      rw [List.length_take] at hn1
      clear he
      go_wp2_with fail
      refine (PathIn_any p e.path (by unfold maxLen; omega) (by unfold maxLen; omega) _).mono ?_
      rintro x wl ⟨rfl, hb⟩
      have KL2 := hid ((unhid KL).step hb)
      clear t0 t1 t2 t3 hb KL
      cases hi : inB p.data.toList e.path.data.toList
      · obtain ⟨s1, s2⟩ := unhid HSP hi
        have hn2 : (leftE p (es.take k)).length < (leftE p es).length := (List.getElem?_eq_some_iff.1 s2).1
        have S1 := hid (show (leftE p (es.take (k + 1))).length = (leftE p (es.take k)).length + 1 by rw [s1]; simp)
        obtain ⟨t0, t1, t2, t3⟩ := ((unhid KL2).ents (g := g) (es := es) (by simp) k e (unhid HE))
        rw [Nat.zero_add] at t0 t1 t2 t3
        obtain ⟨bx, ox, rfl, -, hcx⟩ := ((unhid KL2).at (a := ax) (L := leftE p es) (by simp)).get (by intro h0; rw [h0] at hn2; simp at hn2)
        obtain ⟨x0, x1, x2, x3⟩ := hcx _ e s2
        have hge : ¬ ((leftE p es).length : Int) ≤ ((leftE p (es.take k)).length : Int) := by omega
        have hnl : (leftE p (es.take k)).length ≤ 100 := by omega
        have hne := fun w => ne_same e.path e.kind e.mode e.text w
        clear hcx s1 s2 HSP HSK HE
        generalize (leftE p (es.take k)).length = n at *
        go_wp2_with fail
        go_quiet (fail)
        go_wp2_with fail
        go_roundw
        case rel => exact ⟨k + 1, by omega, by go_num, by rw [unhid S1]; go_num, hid ((unhid KL2).step (drewN_below _ _))⟩
        case measure => simp [intOf]; omega
      · have S1 := hid (congrArg List.length (unhid HSK hi))
        go_wp2_with fail
        go_roundw
        case rel => exact ⟨k + 1, by omega, by go_num, by rw [unhid S1], KL2⟩
        case measure => simp [intOf]; omega
    have hke : k = es.length := by omega
    subst hke
    rw [List.take_of_length_le (Nat.le_refl _)]
    have K9 := KL
    clear KL hlt hk
    generalize wr = W9 at *
    go_wp2_with fail
    refine (treeOk_any (leftE p es) ax cx _ (unhid HS2) ((unhid K9).at (by simp))).mono ?_
    rintro e W10 ⟨rfl, hb⟩
    have K10 := hid ((unhid K9).step hb)
    clear hb K9
    rw [unhid Q4]
    have hlt2 : ((leftE p es).length : Int) < (es.length : Int) := by omega
    go_wp2_with fail
    go_ret
    exact ⟨rfl, (unhid K10).1⟩

set_option maxRecDepth 100000 in
set_option maxHeartbeats 1000000 in
theorem lifted_FnTreeDrop (os : Os) (started : os.Started) (H : Type) (enc : TypeId × Value → H) :
    ReturnsInHanded {} Try.checked os 6 .any (Rows.fnTreeDropSpec.pre6 enc Try.prog Try.f6 Rows.fnTreeDropRow.domain false) (Rows.fnTreeDropSpec.post enc Try.prog Try.f6 false true false false) := by
  refine returnsInHanded_of_change (C := Try.checked) own started (by kernel_rfl) Try.func6
    (ChangeSpec.witness6 (enc := enc) (C := Try.checked) false ⟨#[], #[.slice none 0 0], []⟩ 8 (by kernel_rfl) (by kernel_rfl) (by kernel_rfl) (by kernel_rfl)) ?_
  intro W base args ds gs before hval0 hW _ _
  have hval : ∀ (j : Nat) t v, Try.f6.params[j]? = some t → args[j]? = some v → Value.okWide Try.prog W .any base t v := hval0
  have hW' := hW
  obtain ⟨p, q, hA0, hV, rfl, hfz, hnd⟩ := hW
  have hA : DataW.TrodAll enc Try.prog W 0 (fun _ => true) true Try.f6.params.toList args.toList ds p := hA0
  rw [Try.params6] at hA hval
  obtain ⟨v0, vs0, d0, ds0, p0, q0, e0, rfl, rfl, h0, r0⟩ := trodAll_cons hA
  obtain ⟨rfl, rfl, rfl⟩ := trodAll_nil r0
  obtain rfl : args = #[v0] := by cases args; simp_all
  obtain ⟨rfl, rfl⟩ := trodVars_none hV
  have hlt : ∀ x ∈ p0, x.block < W.heap.size := fun x hx => by simpa using hW'.lt x (by simpa using hx)
  have t0 := h0
  have l0 : ∀ x ∈ p0, x.block < W.heap.size := fun x hx => hlt x (by simp [hx])
  obtain ⟨a0, len0, cap0, rfl⟩ := okWide_slice Try.underlying22 (hval 0 22 v0 rfl rfl)
  obtain ⟨hc0, hn0⟩ := code_of h0 l0
  clear hA0 hval0
  refine (walk_FnTreeDrop a0 len0 cap0 W hc0 hn0).mono fun e W' ⟨he, hb⟩ => ?_
  subst he
  exact ⟨_, rfl, post_below (gs := []) (pv := []) hW' (fun _ _ _ => trodAll_cons_mk (shut_bool Try.underlying4 _) trodAll_mk0) (trodAll_cons_mk (Below.trod laidOut (by kernel_rfl) (of_decide_eq_true (by kernel_rfl)) t0 hb l0) trodAll_mk0) rfl (by simp) hb⟩

theorem fnTreeDrop_holds : Rows.FnTreeDropSaid :=
  OpenClaim.holds_of_wide 6 Try.f6 rfl rfl rfl rfl rfl rfl rfl ⟨rfl, rfl, rfl, rfl, rfl⟩ rfl rfl rfl rfl rfl (by kernel_rfl) Try.func6 (by kernel_rfl)
    (of_decide_eq_true (by kernel_rfl)) (by unfold Func.isWrapper; first | (rw [if_pos (by decide +kernel)]; kernel_rfl) | (rw [if_neg (by decide +kernel)]; exact ⟨rfl, rfl⟩))
    (fun os started H enc _ => lifted_FnTreeDrop os started H enc)
end Go.Proofs.Ytaefjibnnbdaaaa
