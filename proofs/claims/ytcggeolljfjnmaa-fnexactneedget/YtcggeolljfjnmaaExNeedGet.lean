/- For every text the program's NeedGet answers as its model does. No condition. -/
import Derived.Test.YtcggeolljfjnmaaRowKit
import Derived.Test.YtcggeolljfjnmaaGetMath
namespace Go.Proofs.Ytcggeolljfjnmaa
open Go.ChangeShapes Go.WideShapes Go.ChangeAt Go.RowKit
open Go.ChangeMaps (open_string shut_string)

theorem getV_form (s : ByteArray) (e : Nat) : ∃ n k v b, getV s e = needV n k v b := by
  unfold getV
  repeat' split
  all_goals exact ⟨_, _, _, _, rfl⟩

set_option maxRecDepth 100000 in
set_option maxHeartbeats 2000000 in
theorem specNeedGet_any (s : ByteArray) (hs : s.size ≤ 1048576) (w : World) :
    Calls Try.prog 23 #[.string s] w fun e W' => (∃ k, MarkEnd s k ∧ e = .returned (specV s k)) ∧ Below w.heap.size w W' := by
  go_enter Try.func23, Try.ntmps23
  go_wp2_with fail
  refine (l3Get_any s hs _).mono ?_
  rintro e w1 ⟨⟨k, hM, rfl⟩, hb⟩
  have HM := hid hM
  have HB := hid hb
  clear hM hb
  have HB1 := hid ((unhid HB).alloc (unhid HB).size (.cells #[.string (nameA s k), .int .i64 (spKV (restA s k) 4).1, .string (spKV (restA s k) 4).2] 24))
  obtain ⟨⟨c0, f0⟩, ⟨c1, f1⟩, c2, f2⟩ := (needAt_new w ⟨#[]⟩ 0 ⟨#[]⟩ 24).below (unhid HB1) (by simp)
  clear HB
  unfold needV
  cases hx : spOk s (nameA s k) (restA s k)
  · have E := hid (show specV s k = needV ⟨#[]⟩ 0 ⟨#[]⟩ false by simp [specV, hx])
    generalize hn : nameA s k = nm at *
    generalize (spKV (restA s k) 4).1 = K at *
    generalize (spKV (restA s k) 4).2 = V at *
    go_wp2_with fail
    refine bodyPost_ret (v := needV ⟨#[]⟩ 0 ⟨#[]⟩ false) (by simp [results, Try.results23, go_sem, needV, World.cell?_setCell_same', c0, c1, c2]) rfl ⟨⟨k, unhid HM, by rw [unhid E]⟩, ?_⟩
    exact ((((Below.refl _ w).alloc (Nat.le_refl _) _).trans ((unhid HB1).mono (by simp))).setCell (Nat.le_refl _) _ |>.setCell (Nat.le_refl _) _).setCell (Nat.le_refl _) _
  · have E := hid (show specV s k = needV (nameA s k) (spKV (restA s k) 4).1 (spKV (restA s k) 4).2 true by simp [specV, hx])
    generalize hn : nameA s k = nm at *
    generalize (spKV (restA s k) 4).1 = K at *
    generalize (spKV (restA s k) 4).2 = V at *
    go_wp2_with fail
    refine bodyPost_ret (v := needV nm K V true) (by simp [results, Try.results23, go_sem, needV, World.cell?_setCell_same', c0, c1, c2]) rfl ⟨⟨k, unhid HM, by rw [unhid E]⟩, ?_⟩
    exact ((((Below.refl _ w).alloc (Nat.le_refl _) _).trans ((unhid HB1).mono (by simp))).setCell (Nat.le_refl _) _ |>.setCell (Nat.le_refl _) _).setCell (Nat.le_refl _) _

set_option maxRecDepth 100000 in
set_option maxHeartbeats 1000000 in
theorem eqNeed_same (n v : ByteArray) (k : Int) (w : World) :
    Calls Try.prog 25 #[.agg #[.string n, .int .i64 k, .string v], .agg #[.string n, .int .i64 k, .string v]] w fun e w' => e = .returned (.bool true) ∧ Below w.heap.size w w' := by
  have HB := hid (((Below.refl _ w).alloc (Nat.le_refl _) (.cells #[.string n, .int .i64 k, .string v] 24)).alloc (by simp) (.cells #[.string n, .int .i64 k, .string v] 24))
  go_enter Try.func25, Try.ntmps25
  go_wp2
  go_ret
  exact ⟨rfl, unhid HB⟩

set_option maxRecDepth 100000 in
set_option maxHeartbeats 1000000 in
theorem walk_FnExactNeedGet (s : ByteArray) (hs : s.size ≤ maxLen) (w : World) :
    Calls Try.prog 8 #[.string s] w fun e w' => e = .returned (.bool true) ∧ Below w.heap.size w w' := by
  have hs' : s.size ≤ 9223372036854775807 := hs
  by_cases c1 : (1048576 : Int) < s.size
  · go_enter Try.func8, Try.ntmps8
    go_wp2_with fail
    go_ret
    exact ⟨rfl, Below.refl _ _⟩
  have hz : s.size ≤ 1048576 := by omega
  go_enter Try.func8, Try.ntmps8
  go_wp2_with fail
  refine (specNeedGet_any s hz _).mono ?_
  rintro e w1 ⟨⟨k, hM, rfl⟩, hb⟩
  have HB1 := hid hb
  have HM := hid hM
  clear hb hM
  obtain ⟨n, kk, v, b, hf⟩ : ∃ n k' v b, specV s k = needV n k' v b := by unfold specV; split <;> exact ⟨_, _, _, _, rfl⟩
  have HF := hid hf
  rw [hf]
  clear hf
  unfold needV
  go_wp2_with fail
  refine (NeedGet_any s hz _).mono ?_
  rintro e w2 ⟨⟨k2, hP, rfl⟩, hb⟩
  rw [(get_eq hP (unhid HM)).trans (unhid HF)]
  have HB1a := hid ((unhid HB1).alloc (unhid HB1).size (.cells #[.string n, .int .i64 kk, .string v] 24))
  have HB2 := hid ((unhid HB1a).trans (hb.mono (unhid HB1a).size))
  have HB2a := hid ((unhid HB2).alloc (unhid HB2).size (.cells #[.string n, .int .i64 kk, .string v] 24))
  obtain ⟨⟨c0, _⟩, ⟨c1, _⟩, c2, _⟩ := (needAt_new w1 n kk v 24).below (hb.trans ((Below.refl _ w2).alloc hb.size (.cells #[.string n, .int .i64 kk, .string v] 24))) (by simp)
  clear hb hP
  unfold needV
  go_wp2_with fail
  refine (eqNeed_same n v kk _).mono ?_
  rintro e w3 ⟨rfl, hb⟩
  have HB3 := hid ((unhid HB2a).trans (hb.mono (unhid HB2a).size))
  clear hb
  cases b <;>
  · go_wp2_with fail
    go_ret
    exact ⟨rfl, unhid HB3⟩


set_option maxRecDepth 100000 in
theorem lifted_FnExactNeedGet (os : Os) (started : os.Started) (H : Type) (enc : TypeId × Value → H) :
    ReturnsInHanded {} Try.checked os 8 .any (Rows.fnExactNeedGetSpec.pre6 enc Try.prog Try.f8 Rows.fnExactNeedGetRow.domain false) (Rows.fnExactNeedGetSpec.post enc Try.prog Try.f8 false true false false) := by
  refine returnsInHanded_of_change (C := Try.checked) own started (by kernel_rfl) Try.func8
    (ChangeSpec.witness6 (enc := enc) (C := Try.checked) false ⟨#[], #[.string ⟨#[]⟩], []⟩ 8 (by kernel_rfl) (by kernel_rfl) (by kernel_rfl) (by kernel_rfl)) ?_
  intro W base args ds gs before hval0 hW _ _
  have hval : ∀ (j : Nat) t v, Try.f8.params[j]? = some t → args[j]? = some v → Value.okWide Try.prog W .any base t v := hval0
  have hW' := hW
  obtain ⟨p, q, hA0, hV, rfl, hfz, hnd⟩ := hW
  have hA : DataW.TrodAll enc Try.prog W 0 (fun _ => true) true Try.f8.params.toList args.toList ds p := hA0
  rw [Try.params8] at hA hval
  obtain ⟨v0, vs0, d0, ds0, p0, q0, e0, rfl, rfl, h0, r0⟩ := trodAll_cons hA
  obtain ⟨rfl, rfl, rfl⟩ := trodAll_nil r0
  obtain rfl : args = #[v0] := by cases args; simp_all
  obtain ⟨rfl, rfl⟩ := trodVars_none hV
  obtain ⟨s0, rfl, rfl, rfl, w0⟩ := open_string Try.underlying9 (hval 0 9 v0 rfl rfl) h0
  clear hA0 hval0
  simp only [List.append_nil] at hW'
  refine (walk_FnExactNeedGet s0 w0 W).mono fun e W' ⟨he, hb⟩ => ?_
  subst he
  exact ⟨_, rfl, post_below (pa := []) (pv := []) hW' (fun _ _ _ => trodAll_cons_mk (shut_bool Try.underlying4 _) trodAll_mk0) (trodAll_cons_mk (shut_string Try.underlying9 w0) trodAll_mk0) rfl rfl hb⟩

theorem fnExactNeedGet_holds : Rows.FnExactNeedGetSaid :=
  OpenClaim.holds_of_wide 8 Try.f8 rfl rfl rfl rfl rfl rfl rfl ⟨rfl, rfl, rfl, rfl, rfl⟩ rfl rfl rfl rfl rfl (by kernel_rfl) Try.func8 (by kernel_rfl)
    (of_decide_eq_true (by kernel_rfl)) (by unfold Func.isWrapper; first | (rw [if_pos (by decide +kernel)]; kernel_rfl) | (rw [if_neg (by decide +kernel)]; exact ⟨rfl, rfl⟩))
    (fun os started H enc _ => lifted_FnExactNeedGet os started H enc)
end Go.Proofs.Ytcggeolljfjnmaa
