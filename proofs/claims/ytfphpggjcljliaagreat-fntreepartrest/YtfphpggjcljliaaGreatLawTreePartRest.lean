/- Of every code: a drawn tree and pattern: FnTreePartRest answers true; the code is as it was. No condition. -/
import Derived.Test.YtfphpggjcljliaaGreatJoin10
import Derived.Test.YtfphpggjcljliaaGreatJoin6
namespace Go.Proofs.YtfphpggjcljliaaGreat
open Go.ChangeShapes Go.WideShapes Go.ChangeAt Go.RowKit


set_option maxRecDepth 100000 in
set_option maxHeartbeats 8000000 in
theorem walk_FnTreePartRest (a : Option Addr) (len cap : Nat) (w : World) (h : Code w w.heap.size a len) (hc : len ≤ cap) :
    Calls Tryz.prog 4 #[.slice a len cap] w fun e w' => e = .returned (.bool true) ∧ Below w.heap.size w w' := by
  have H := hid h
  clear h
  by_cases hl : (1048576 : Int) < len
  · go_enter Tryz.func4, Tryz.ntmps4
    go_wp2
    go_ret
    exact ⟨rfl, Below.refl _ _⟩
  go_enter Tryz.func4, Tryz.ntmps4
  go_wp2_with fail
  refine (DrawTreePart_any w a len cap (unhid H) (by omega) hc).mono ?_
  rintro e W1 ⟨v, gl, rfl, hg0, es, hD⟩
  have HS := hid hD.small
  have HN := hid hD.nice
  have hfew := hD.few
  obtain ⟨g, c, rfl, -⟩ := hD.v
  have K1 := hid (kb_drawn hD).1
  have hgB := (kb_drawn hD).2.1
  have hcap := (kb_drawn hD).2.2
  generalize W1.heap.size = B at K1 hgB
  clear hD H
  have hgl : gl.size ≤ 100 := hg0
  have PL := partR_len gl es
  clear hg0 HN
  go_wp2_with fail
  refine (treePart_any es (some ⟨g, 0, none⟩) c gl _ (unhid HS) (by omega) ((unhid K1).at (by simp))).mono ?_
  rintro e W2 ⟨v2, rfl, ho, hb⟩
  obtain ⟨ax, cx, rfl⟩ := ownsRow_slice ho
  have K2 := hid ((unhid K1).push ho hb)
  clear ho hb K1
  go_wp2_with fail
  refine (specTreePart_any es gl g 0 c _ (unhid HS) (by omega) ((unhid K2).ents (by simp)) ((unhid K2).lt hgB)).mono ?_
  rintro e W3 ⟨v3, rfl, ho, hb⟩
  obtain ⟨ay, cy, rfl⟩ := ownsRow_slice ho
  have K3 := hid ((unhid K2).push ho hb)
  clear ho hb K2
  have PF := hid (fun h => part_facts (g := gl) (es := es) h)
  generalize hLg : partR gl es = L at *
  have HLG := hid hLg
  clear hLg
  go_wp2_with fail
  refine (jsTree_any L L ax ay cx cy _ (by unfold maxLen; omega) (by unfold maxLen; omega) ((unhid K3).at (by simp)) ((unhid K3).at (by simp))).mono ?_
  rintro e W4 ⟨rfl, hb⟩
  have K4 := hid ((unhid K3).step hb)
  clear hb K3
  rw [eqEs_self]
  go_wp2_with fail
  refine (specTreeOk_any es _ c _ (unhid HS) ((unhid K4).at (by simp))).mono ?_
  rintro e W5 ⟨rfl, hb⟩
  have K5 := hid ((unhid K4).step hb)
  clear hb K4
  cases hT : treeB es
  · skip
    go_wp2_with fail
    refine (specTreePart_any es gl g 0 c _ (unhid HS) (by omega) ((unhid K5).ents (by simp)) ((unhid K5).lt hgB)).mono ?_
    rintro e W6 ⟨v6, rfl, ho, hb⟩
    obtain ⟨az, cz, rfl⟩ := ownsRow_slice ho
    have K6 := hid ((unhid K5).push ho hb)
    clear ho hb K5
    rw [unhid HLG] at *
    go_wp2_with fail
    refine (jsTree_any L L ax az cx cz _ (by unfold maxLen; omega) (by unfold maxLen; omega) ((unhid K6).at (by simp)) ((unhid K6).at (by simp))).mono ?_
    rintro e W7 ⟨rfl, hb⟩
    have K7 := hid ((unhid K6).step hb)
    clear hb K6
    rw [eqEs_self]
    go_wp2_with fail
    go_ret
    exact ⟨rfl, (unhid K7).1⟩
  obtain ⟨q1, q2, q3, q4, q5, q6⟩ := unhid PF hT
  have HSL := hid (show smallE L from small_all (by omega) (tree_all q1))
  have Q := hid (And.intro q1 (And.intro q2 (And.intro q3 q4)))
  have Q6 := hid q6
  clear q1 q2 q3 q4 q6 PF hT
  go_wp2_with fail
  go_loopw [6, 7, 8, 9] (fun n i _ _ wr => ∃ j : Nat, j ≤ es.length ∧ i = .int .i64 j ∧ n = .int .i64 (keptP gl es (es.take j)).length ∧ Hid (Kb w B wr [(ay, L), (ax, L), (some ⟨g, 0, none⟩, es)] [])) (fun _ i _ _ _ => es.length - (intOf i).toNat)
  case atStart => exact ⟨0, by omega, rfl, rfl, K5⟩
  case round =>
    obtain ⟨j, hj, rfl, rfl, KL⟩ := hrel
    clear K5
    by_cases hlt : j < es.length
    · skip
      have hnl : (keptP gl es (es.take j)).length ≤ 17 := Nat.le_trans (List.length_filter_le _ _) (by rw [List.length_take]; omega)
      obtain ⟨⟨tp, tk, tm, tt⟩, he⟩ : ∃ e, es[j]? = some e := ⟨es[j], List.getElem?_eq_getElem hlt⟩
      have HE := hid he
      obtain ⟨t0, t1, t2, t3⟩ := ((unhid KL).ents (g := g) (es := es) (by simp) j _ he)
      rw [Nat.zero_add] at t0 t1 t2 t3
      have OE := hid ((unhid Q).2.1 _ (List.mem_of_getElem? he))
      have htp := ((unhid HS).2 _ (List.mem_of_getElem? he)).1
      have KY := hid (fun h => keptP_yes (g := gl) (ks := es) he h)
      have KN := hid (fun h => keptP_no (g := gl) (ks := es) he h)
      clear he
      dsimp only at t0 t1 t2 t3 htp
      go_wp2_with fail
      refine (treeGet_any L ax cx tp _ (unhid HSL) ((unhid KL).at (by simp))).mono ?_
      rintro e W20 ⟨rfl, hb⟩
      have K20 := hid ((unhid KL).step hb)
      clear hb KL t0 t1 t2 t3
      have O1 := unhid OE
      try dsimp only at O1
      rw [(unhid Q).1, O1, Bool.true_and]
      clear O1 OE
      generalize gotE L tp = got at *
      obtain ⟨zp, zk, zm, zt⟩ := got
      unfold Ent.vals
      dsimp only
      have K21 := hid (show Kb w B (W20.alloc (.cells #[.string zp, .int .i64 zk, .int .i64 zm, .string zt] 30)) _ _ from (unhid K20).box ⟨zp, zk, zm, zt⟩)
      clear K20
      obtain ⟨t0, t1, t2, t3⟩ := ((unhid K21).ents (g := g) (es := es) (by simp) j _ (unhid HE))
      rw [Nat.zero_add] at t0 t1 t2 t3
      dsimp only at t0 t1 t2 t3
      generalize hkb : keepB gl es (⟨tp, tk, tm, tt⟩ : Ent) = kb at *
      have HKB := hid hkb
      clear hkb
      have NX := hid (show (keptP gl es (es.take (j + 1))).length = (keptP gl es (es.take j)).length + (if kb then 1 else 0) by
        cases kb
        · rw [unhid KN rfl]; rfl
        · rw [unhid KY rfl]; simp)
      clear KY KN
      generalize (keptP gl es (es.take j)).length = n at *
      by_cases hk1 : tk = 1
      · skip
        subst hk1
        cases kb
        · go_wp2_with fail
          go_roundw
          case rel => exact ⟨j + 1, by omega, by go_num, by rw [unhid NX]; go_num, hid (unhid K21).unbox⟩
          case measure => simp [intOf]; omega
        · go_wp2_with fail
          go_roundw
          case rel => exact ⟨j + 1, by omega, by go_num, by rw [unhid NX]; go_num, hid (unhid K21).unbox⟩
          case measure => simp [intOf]; omega
      have hkn : (tk != 1) = true := by rw [bne_iff_ne]; exact hk1
      have TK := hid (show takenB gl (⟨tp, tk, tm, tt⟩ : Ent) = kb by
        rw [← unhid HKB]
        unfold keepB
        have : (((⟨tp, tk, tm, tt⟩ : Ent)).kind == 1) = false := by rw [beq_eq_false_iff_ne]; exact hk1
        rw [this]; simp)
      clear hk1
      go_wp2_with fail
      generalize W20.alloc (.cells #[.string zp, .int .i64 zk, .int .i64 zm, .string zt] 30) = W21 at *
      generalize W20.heap.size = bz at *
      refine (GlobHas_any gl tp (by unfold maxLen; omega) (by unfold maxLen; omega) _).mono ?_
      rintro e W22 ⟨rfl, hb⟩
      have K22 := hid ((unhid K21).step hb)
      clear hb K21
      clear t0 t1 t2 t3
      rw [show hasB gl.data.toList tp.data.toList = takenB gl (⟨tp, tk, tm, tt⟩ : Ent) from rfl, unhid TK]
      cases kb
      · go_wp2_with fail
        go_roundw
        case rel => exact ⟨j + 1, by omega, by go_num, by rw [unhid NX]; go_num, hid (unhid K22).unbox⟩
        case measure => simp [intOf]; omega
      · go_wp2_with fail
        go_roundw
        case rel => exact ⟨j + 1, by omega, by go_num, by rw [unhid NX]; go_num, hid (unhid K22).unbox⟩
        case measure => simp [intOf]; omega
    have hje : j = es.length := by omega
    subst hje
    rw [List.take_of_length_le (Nat.le_refl _), ← unhid Q6]
    clear hlt hj
    go_wp2_with fail
    go_ret
    exact ⟨rfl, (unhid KL).1⟩

set_option maxRecDepth 100000 in
set_option maxHeartbeats 1000000 in
theorem lifted_FnTreePartRest (os : Os) (started : os.Started) (H : Type) (enc : TypeId × Value → H) :
    ReturnsInHanded {} Tryz.checked os 4 .any (Rows.fnTreePartRestSpec.pre6 enc Tryz.prog Tryz.f4 Rows.fnTreePartRestRow.domain false) (Rows.fnTreePartRestSpec.post enc Tryz.prog Tryz.f4 false true false false) := by
  refine returnsInHanded_of_change (C := Tryz.checked) own started (by kernel_rfl) Tryz.func4
    (ChangeSpec.witness6 (enc := enc) (C := Tryz.checked) false ⟨#[], #[.slice none 0 0], []⟩ 8 (by kernel_rfl) (by kernel_rfl) (by kernel_rfl) (by kernel_rfl)) ?_
  intro W base args ds gs before hval0 hW _ _
  have hval : ∀ (j : Nat) t v, Tryz.f4.params[j]? = some t → args[j]? = some v → Value.okWide Tryz.prog W .any base t v := hval0
  have hW' := hW
  obtain ⟨p, q, hA0, hV, rfl, hfz, hnd⟩ := hW
  have hA : DataW.TrodAll enc Tryz.prog W 0 (fun _ => true) true Tryz.f4.params.toList args.toList ds p := hA0
  rw [Tryz.params4] at hA hval
  obtain ⟨v0, vs0, d0, ds0, p0, q0, e0, rfl, rfl, h0, r0⟩ := trodAll_cons hA
  obtain ⟨rfl, rfl, rfl⟩ := trodAll_nil r0
  obtain rfl : args = #[v0] := by cases args; simp_all
  obtain ⟨rfl, rfl⟩ := trodVars_none hV
  have hlt : ∀ x ∈ p0, x.block < W.heap.size := fun x hx => by simpa using hW'.lt x (by simpa using hx)
  have t0 := h0
  have l0 : ∀ x ∈ p0, x.block < W.heap.size := fun x hx => hlt x (by simp [hx])
  obtain ⟨a0, len0, cap0, rfl⟩ := okWide_slice Tryz.underlying22 (hval 0 22 v0 rfl rfl)
  obtain ⟨hc0, hn0⟩ := code_of h0 l0
  clear hA0 hval0
  refine (walk_FnTreePartRest a0 len0 cap0 W hc0 hn0).mono fun e W' ⟨he, hb⟩ => ?_
  subst he
  exact ⟨_, rfl, post_below (gs := []) (pv := []) hW' (fun _ _ _ => trodAll_cons_mk (shut_bool Tryz.underlying4 _) trodAll_mk0) (trodAll_cons_mk (Below.trod laidOut (by kernel_rfl) (of_decide_eq_true (by kernel_rfl)) t0 hb l0) trodAll_mk0) rfl (by simp) hb⟩

theorem fnTreePartRest_holds : Rows.FnTreePartRestSaid :=
  OpenClaim.holds_of_wide 4 Tryz.f4 rfl rfl rfl rfl rfl rfl rfl ⟨rfl, rfl, rfl, rfl, rfl⟩ rfl rfl rfl rfl rfl (by kernel_rfl) Tryz.func4 (by kernel_rfl)
    (of_decide_eq_true (by kernel_rfl)) (by unfold Func.isWrapper; first | (rw [if_pos (by decide +kernel)]; kernel_rfl) | (rw [if_neg (by decide +kernel)]; exact ⟨rfl, rfl⟩))
    (fun os started H enc _ => lifted_FnTreePartRest os started H enc)
end Go.Proofs.YtfphpggjcljliaaGreat
