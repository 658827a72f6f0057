/- Of every code: a drawn tree and a path: FnTreeLink answers true; the code is as it was. No condition. -/
import Derived.Test.YtaefjibnnbdaaaaJoin9
namespace Go.Proofs.Ytaefjibnnbdaaaa
open Go.ChangeShapes Go.WideShapes Go.ChangeAt Go.RowKit

theorem nice_fresh {x : ByteArray} (h : nice x) : x ≠ (⟨#[102, 114, 101, 115, 104]⟩ : ByteArray) := by
  rintro rfl
  unfold nice at h
  revert h
  decide
theorem putR_small {es : List Ent} {e : Ent} : smallE (putR es e) := by
  unfold putR
  split
  · rename_i h
    exact small_all (by have := putL_len es e; have := tree_16 h; omega) (putL_all (tree_all h))
  · exact ⟨by simp, fun e he => by cases he⟩
theorem link_fol {es : List Ent} {p : ByteArray} {x : Ent} (hn : ∀ e ∈ es, niceE e) (hf : folE (keptE es) 17 p = some x) (hk : putOk es ⟨⟨#[102, 114, 101, 115, 104]⟩, 3, 0, p⟩ = true) : folE (keptE (putR es ⟨⟨#[102, 114, 101, 115, 104]⟩, 3, 0, p⟩)) 17 (⟨#[102, 114, 101, 115, 104]⟩ : ByteArray) = some x := by
  obtain ⟨h, hO, hP⟩ := put_yes hk
  rw [hP, keptE_yes (put_tree h hO)]
  rw [keptE_yes h] at hf
  have hu := tree_up h
  have hno : ∀ e ∈ es, e.path ≠ (⟨⟨#[102, 114, 101, 115, 104]⟩, 3, 0, p⟩ : Ent).path := fun e he => nice_fresh (hn e he).1
  have hm := there_mem (putT_up hu) ((putT_iff hu ⟨⟨#[102, 114, 101, 115, 104]⟩, 3, 0, p⟩ ⟨⟨#[102, 114, 101, 115, 104]⟩, 3, 0, p⟩).2 (.inl rfl))
  rw [show (17 : Nat) = 16 + 1 from rfl, folE]
  have h1 : thereE (putT es ⟨⟨#[102, 114, 101, 115, 104]⟩, 3, 0, p⟩) (⟨#[102, 114, 101, 115, 104]⟩ : ByteArray) = true := hm.1
  have h2 : entFn (putT es ⟨⟨#[102, 114, 101, 115, 104]⟩, 3, 0, p⟩) (placeE (putT es ⟨⟨#[102, 114, 101, 115, 104]⟩, 3, 0, p⟩) (⟨#[102, 114, 101, 115, 104]⟩ : ByteArray)) = ⟨⟨#[102, 114, 101, 115, 104]⟩, 3, 0, p⟩ := hm.2
  rw [if_pos h1, h2, if_pos rfl]
  exact fol_put hu hno 16 p x (by rw [← fol_16 (tree_16 h)]; exact hf)

set_option maxRecDepth 100000 in
set_option maxHeartbeats 8000000 in
theorem walk_FnTreeLink (a : Option Addr) (len cap : Nat) (w : World) (h : Code w w.heap.size a len) (hc : len ≤ cap) :
    Calls Try.prog 3 #[.slice a len cap] w fun e w' => e = .returned (.bool true) ∧ Below w.heap.size w w' := by
  have H := hid h
  clear h
  by_cases hl : (1048576 : Int) < len
  · go_enter Try.func3, Try.ntmps3
    go_wp2
    go_ret
    exact ⟨rfl, Below.refl _ _⟩
  go_enter Try.func3, Try.ntmps3
  go_wp2_with fail
  refine (DrawTreeFollow_any w a len cap (unhid H) (by omega) hc).mono ?_
  rintro e W1 ⟨v, p, rfl, hp0, es, hD⟩
  have HS := hid hD.small
  have HN := hid hD.nice
  have hfew := hD.few
  obtain ⟨g, c, rfl, -⟩ := hD.v
  have K1 := hid (kb_drawn hD).1
  have hgB := (kb_drawn hD).2.1
  have hcap := (kb_drawn hD).2.2
  generalize W1.heap.size = B at K1 hgB
  clear hD H
  have hp := nice_short hp0
  clear hp0
  go_wp2_with fail
  refine (treeFollow_any es (some ⟨g, 0, none⟩) c p _ (unhid HS) ((unhid K1).at (by simp))).mono ?_
  rintro e W2 ⟨rfl, hb⟩
  have K2 := hid ((unhid K1).step hb)
  clear hb K1
  have LF := hid (fun x h1 h2 => link_fol (p := p) (x := x) (unhid HN) h1 h2)
  generalize hr : folE (keptE es) 17 p = r at *
  generalize hfe : folGot r = fe at *
  generalize hok : r.isSome = ok at *
  have HR := hid (And.intro hfe hok)
  clear hfe hok
  obtain ⟨fp, fk, fm, ft⟩ := fe
  unfold Ent.vals
  dsimp only
  have K3 := hid (show Kb w B (W2.alloc (.cells #[.string fp, .int .i64 fk, .int .i64 fm, .string ft] 27)) _ _ from (unhid K2).box ⟨fp, fk, fm, ft⟩)
  clear K2
  go_wp2_with fail
  generalize W2.alloc (.cells #[.string fp, .int .i64 fk, .int .i64 fm, .string ft] 27) = W3 at *
  generalize W2.heap.size = be at *
  refine (specTreeFollow_any es (some ⟨g, 0, none⟩) c p _ (unhid HS) ((unhid K3).at (by simp))).mono ?_
  rintro e W4 ⟨rfl, hb⟩
  have K4 := hid ((unhid K3).step hb)
  clear hb K3
  rw [hr, (unhid HR).1, (unhid HR).2]
  have HF := hid hr
  clear hr
  unfold Ent.vals
  dsimp only
  have K5 := hid (show Kb w B (W4.alloc (.cells #[.string fp, .int .i64 fk, .int .i64 fm, .string ft] 27)) _ _ from (unhid K4).box ⟨fp, fk, fm, ft⟩)
  clear K4
  have hne := fun w => ne_same fp fk fm ft w
  have heq := fun w => eq_same fp fk fm ft w
  obtain ⟨⟨d0, d1, d2, d3⟩, -⟩ := four_cells ((unhid K5).one (show (be, ⟨fp, fk, fm, ft⟩) ∈ _ by simp))
  obtain ⟨⟨f0, f1, f2, f3⟩, -⟩ := four_cells ((unhid K5).one (show (W4.heap.size, ⟨fp, fk, fm, ft⟩) ∈ _ by simp))
  dsimp only at d0 d1 d2 d3 f0 f1 f2 f3
  cases r with
  | none =>
    obtain ⟨h1, h2⟩ := unhid HR
    subst h2
    clear h1
    go_wp2_with fail
    go_ret
    exact ⟨rfl, (unhid K5).1⟩
  | some x =>
    obtain ⟨h1, h2⟩ := unhid HR
    have h1' : x = ⟨fp, fk, fm, ft⟩ := h1
    subst h1'
    subst h2
    clear h1
    have LF2 := hid (unhid LF _ rfl)
    clear LF
    go_wp2_with fail
    generalize W4.alloc (.cells #[.string fp, .int .i64 fk, .int .i64 fm, .string ft] 27) = W5 at *
    generalize W4.heap.size = bu at *
    clear d0 d1 d2 d3 f0 f1 f2 f3
    refine (treePut_any es ⟨⟨#[102, 114, 101, 115, 104]⟩, 3, 0, p⟩ (some ⟨g, 0, none⟩) c _ (unhid HS) (by show (5 : Nat) ≤ 1048576; omega) (by dsimp only; omega) ((unhid K5).at (by simp))).mono ?_
    rintro e W6 ⟨v6, rfl, ho, hb⟩
    obtain ⟨ax, cx, rfl⟩ := ownsRow_slice ho
    have K6 := hid ((unhid K5).push ho hb)
    clear ho hb K5
    go_wp2_with fail
    refine (treeFollow_any (putR es ⟨⟨#[102, 114, 101, 115, 104]⟩, 3, 0, p⟩) ax cx (⟨#[102, 114, 101, 115, 104]⟩ : ByteArray) _ putR_small ((unhid K6).at (by simp))).mono ?_
    rintro e W7 ⟨rfl, hb⟩
    have K7 := hid ((unhid K6).step hb)
    clear hb K6
    generalize hok2 : putOk es ⟨⟨#[102, 114, 101, 115, 104]⟩, 3, 0, p⟩ = put at *
    clear hok2
    cases put
    · skip
      generalize folE (keptE (putR es ⟨⟨#[102, 114, 101, 115, 104]⟩, 3, 0, p⟩)) 17 (⟨#[102, 114, 101, 115, 104]⟩ : ByteArray) = r2 at *
      generalize folGot r2 = got at *
      obtain ⟨zp, zk, zm, zt⟩ := got
      unfold Ent.vals
      dsimp only
      have K8 := hid (show Kb w B (W7.alloc (.cells #[.string zp, .int .i64 zk, .int .i64 zm, .string zt] 27)) _ _ from (unhid K7).box ⟨zp, zk, zm, zt⟩)
      clear K7
      go_wp2_with fail
      go_ret
      exact ⟨rfl, (unhid K8).1⟩
    rw [unhid LF2 rfl]
    show _
    unfold folGot Option.isSome Ent.vals
    dsimp only
    have K8 := hid (show Kb w B (W7.alloc (.cells #[.string fp, .int .i64 fk, .int .i64 fm, .string ft] 27)) _ _ from (unhid K7).box ⟨fp, fk, fm, ft⟩)
    clear K7
    obtain ⟨⟨d0, d1, d2, d3⟩, -⟩ := four_cells ((unhid K8).one (show (be, ⟨fp, fk, fm, ft⟩) ∈ _ by simp))
    obtain ⟨⟨f0, f1, f2, f3⟩, -⟩ := four_cells ((unhid K8).one (show (W7.heap.size, ⟨fp, fk, fm, ft⟩) ∈ _ by simp))
    dsimp only at d0 d1 d2 d3 f0 f1 f2 f3
    go_wp2_with fail
    go_ret
    exact ⟨rfl, (unhid K8).1⟩

set_option maxRecDepth 100000 in
set_option maxHeartbeats 1000000 in
theorem lifted_FnTreeLink (os : Os) (started : os.Started) (H : Type) (enc : TypeId × Value → H) :
    ReturnsInHanded {} Try.checked os 3 .any (Rows.fnTreeLinkSpec.pre6 enc Try.prog Try.f3 Rows.fnTreeLinkRow.domain false) (Rows.fnTreeLinkSpec.post enc Try.prog Try.f3 false true false false) := by
  refine returnsInHanded_of_change (C := Try.checked) own started (by kernel_rfl) Try.func3
    (ChangeSpec.witness6 (enc := enc) (C := Try.checked) false ⟨#[], #[.slice none 0 0], []⟩ 8 (by kernel_rfl) (by kernel_rfl) (by kernel_rfl) (by kernel_rfl)) ?_
  intro W base args ds gs before hval0 hW _ _
  have hval : ∀ (j : Nat) t v, Try.f3.params[j]? = some t → args[j]? = some v → Value.okWide Try.prog W .any base t v := hval0
  have hW' := hW
  obtain ⟨p, q, hA0, hV, rfl, hfz, hnd⟩ := hW
  have hA : DataW.TrodAll enc Try.prog W 0 (fun _ => true) true Try.f3.params.toList args.toList ds p := hA0
  rw [Try.params3] at hA hval
  obtain ⟨v0, vs0, d0, ds0, p0, q0, e0, rfl, rfl, h0, r0⟩ := trodAll_cons hA
  obtain ⟨rfl, rfl, rfl⟩ := trodAll_nil r0
  obtain rfl : args = #[v0] := by cases args; simp_all
  obtain ⟨rfl, rfl⟩ := trodVars_none hV
  have hlt : ∀ x ∈ p0, x.block < W.heap.size := fun x hx => by simpa using hW'.lt x (by simpa using hx)
  have t0 := h0
  have l0 : ∀ x ∈ p0, x.block < W.heap.size := fun x hx => hlt x (by simp [hx])
  obtain ⟨a0, len0, cap0, rfl⟩ := okWide_slice Try.underlying22 (hval 0 22 v0 rfl rfl)
  obtain ⟨hc0, hn0⟩ := code_of h0 l0
  clear hA0 hval0
  refine (walk_FnTreeLink a0 len0 cap0 W hc0 hn0).mono fun e W' ⟨he, hb⟩ => ?_
  subst he
  exact ⟨_, rfl, post_below (gs := []) (pv := []) hW' (fun _ _ _ => trodAll_cons_mk (shut_bool Try.underlying4 _) trodAll_mk0) (trodAll_cons_mk (Below.trod laidOut (by kernel_rfl) (of_decide_eq_true (by kernel_rfl)) t0 hb l0) trodAll_mk0) rfl (by simp) hb⟩

theorem fnTreeLink_holds : Rows.FnTreeLinkSaid :=
  OpenClaim.holds_of_wide 3 Try.f3 rfl rfl rfl rfl rfl rfl rfl ⟨rfl, rfl, rfl, rfl, rfl⟩ rfl rfl rfl rfl rfl (by kernel_rfl) Try.func3 (by kernel_rfl)
    (of_decide_eq_true (by kernel_rfl)) (by unfold Func.isWrapper; first | (rw [if_pos (by decide +kernel)]; kernel_rfl) | (rw [if_neg (by decide +kernel)]; exact ⟨rfl, rfl⟩))
    (fun os started H enc _ => lifted_FnTreeLink os started H enc)
end Go.Proofs.Ytaefjibnnbdaaaa
