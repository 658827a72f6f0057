/- Of every two codes: a drawn need and a drawn text: FnNeedText answers true; the codes are as they were. No condition. -/
import Derived.Test.YtobalkbddefaiaaRowCode
import Derived.Test.YtobalkbddefaiaaNeedEq
import Derived.Test.YtobalkbddefaiaaDrawText
import Derived.Test.YtobalkbddefaiaaCalm
import Derived.BigQuiet
namespace Go.Proofs.Ytobalkbddefaiaa
open Go.ChangeShapes Go.WideShapes Go.ChangeAt Go.RowKit

theorem get_sizes {s n v : ByteArray} {e : Nat} {k : Int} (h : getV s e = needV n k v true) : n.size ≤ s.size ∧ v.size ≤ s.size := by
  have hn : (nameA s e).size ≤ s.size := by unfold nameA; rw [ByteArray.size_extract]; omega
  have hr : (restA s e).size ≤ s.size := by unfold restA; rw [ByteArray.size_extract]; omega
  have hc : ∀ m : ByteArray, (cutA (restA s e) m).size ≤ s.size := fun m => by
    unfold cutA
    split
    · rw [ByteArray.size_extract]; omega
    · exact hr
  unfold getV at h
  split at h
  · obtain ⟨rfl, rfl, rfl, -⟩ := needV_inj h; exact ⟨hn, hc _⟩
  split at h
  · obtain ⟨rfl, rfl, rfl, -⟩ := needV_inj h; exact ⟨hn, hc _⟩
  split at h
  · obtain ⟨rfl, rfl, rfl, -⟩ := needV_inj h; exact ⟨hn, hc _⟩
  split at h
  · obtain ⟨rfl, rfl, rfl, -⟩ := needV_inj h; exact ⟨hn, hc _⟩
  · exact absurd (needV_inj h).2.2.2 (by decide)
theorem Code.kept {w w' : World} {B : Nat} {a : Option Addr} {len : Nat} (h : Code w B a len) (hb : Below B w w') : Code w' B a len := by
  rcases h with h | ⟨blk, off, ha, hk, hc⟩
  · exact .inl h
  · refine .inr ⟨blk, off, ha, hk, fun k hlt => ?_⟩
    obtain ⟨c, h1, h2⟩ := hc k hlt
    exact ⟨c, h1, (hb.cell (p := ⟨blk, off + k, none⟩) hk).trans h2⟩
theorem Code.wide {w : World} {B B' : Nat} {a : Option Addr} {len : Nat} (h : Code w B a len) (hb : B ≤ B') : Code w B' a len := by
  rcases h with h | ⟨blk, off, ha, hk, hc⟩
  · exact .inl h
  · exact .inr ⟨blk, off, ha, by omega, hc⟩

set_option maxRecDepth 100000 in
set_option maxHeartbeats 4000000 in
theorem walk_FnNeedText (a : Option Addr) (len cap : Nat) (a' : Option Addr) (len' cap' : Nat) (w : World) (h : Code w w.heap.size a len) (hc : len ≤ cap) (h' : Code w w.heap.size a' len') (hc' : len' ≤ cap') :
    Calls Try.prog 5 #[.slice a len cap, .slice a' len' cap'] w fun e w' => e = .returned (.bool true) ∧ Below w.heap.size w w' := by
  have H := hid h
  have H' := hid h'
  clear h h'
  by_cases hl : (1048576 : Int) < len
  · go_enter Try.func5, Try.ntmps5
    go_wp2
    go_ret
    exact ⟨rfl, Below.refl _ _⟩
  by_cases hl' : (1048576 : Int) < len'
  · go_enter Try.func5, Try.ntmps5
    go_wp2
    go_ret
    exact ⟨rfl, Below.refl _ _⟩
  go_enter Try.func5, Try.ntmps5
  go_wp2_with fail
  refine (DrawNeedPut_any w a len cap (unhid H) (by omega) hc).mono ?_
  rintro e w1 ⟨x, v, k, rfl, hx0, hv0, hb1⟩
  have hx : x.size ≤ 100 := hx0
  have hv : v.size ≤ 100 := hv0
  have xm : x.size ≤ maxLen := by unfold maxLen; omega
  have vm : v.size ≤ maxLen := by unfold maxLen; omega
  have hs : (needPutA x k v).size ≤ 202 := put_size x v k hx0 hv0
  have K1 := hid (hb1.alloc hb1.size (.cells #[.string x, .int .i64 k, .string v] 30))
  have NA := hid (needAt_new w1 x k v 30)
  have hsz : w1.heap.size < (w1.alloc (.cells #[.string x, .int .i64 k, .string v] 30)).heap.size := by simp
  have hbig := hb1.size
  clear hb1 hx0 hv0 H
  go_wp2_with fail
  generalize w1.alloc (.cells #[.string x, .int .i64 k, .string v] 30) = W at *
  generalize w1.heap.size = g at *
  have keep : ∀ {y z : World}, Hid (NeedAt y g x k v ∧ g < y.heap.size ∧ Below w.heap.size w y) → Below y.heap.size y z → Hid (NeedAt z g x k v ∧ g < z.heap.size ∧ Below w.heap.size w z) := fun h hb =>
    hid ⟨(unhid h).1.below hb (unhid h).2.1, Nat.lt_of_lt_of_le (unhid h).2.1 hb.size, (unhid h).2.2.trans (hb.mono (unhid h).2.2.size)⟩
  have K0 : Hid (NeedAt W g x k v ∧ g < W.heap.size ∧ Below w.heap.size w W) := hid ⟨unhid NA, hsz, unhid K1⟩
  clear NA hsz K1
  refine (NeedPut_any x v k xm (by omega) _).mono ?_
  rintro e w2 ⟨rfl, hb⟩
  have K2 := keep K0 hb
  clear hb K0
  generalize hS : needPutA x k v = s at *
  have ES := hid hS
  clear hS
  go_wp2_with fail
  refine (NeedGet_any s (by omega) _).mono ?_
  rintro e w3 ⟨⟨ke, hP, rfl⟩, hb⟩
  have K3 := keep K2 hb
  clear hb K2
  cases hN : needB x.data.toList k v.data.toList
  · obtain rfl : s = ⟨#[]⟩ := by rw [← unhid ES, put_none hN]
    have EV : getV ⟨#[]⟩ ke = needV ⟨#[]⟩ 0 ⟨#[]⟩ false := get_nil
    have HN := hid hN
    clear hN hP
    rw [EV]
    clear EV
    unfold needV
    have hba0 : Below w3.heap.size w3 (w3.alloc (.cells #[.string ⟨#[]⟩, .int .i64 0, .string ⟨#[]⟩] 30)) := (Below.refl _ w3).alloc (Nat.le_refl _) _
    have K4 := keep K3 hba0
    have NB := hid (needAt_new w3 ⟨#[]⟩ 0 ⟨#[]⟩ 30)
    have hlt4 : w3.heap.size < (w3.alloc (.cells #[.string ⟨#[]⟩, .int .i64 0, .string ⟨#[]⟩] 30)).heap.size := by simp
    have hgw := (unhid K3).2.1
    clear hba0 K3 keep
    go_wp2_with fail
    generalize w3.alloc (.cells #[.string ⟨#[]⟩, .int .i64 0, .string ⟨#[]⟩] 30) = W4 at *
    generalize w3.heap.size = g4 at *
    obtain ⟨⟨c0, _⟩, ⟨c1, _⟩, c2, _⟩ := (unhid K4).1
    obtain ⟨⟨d0, _⟩, ⟨d1, _⟩, d2, _⟩ := unhid NB
    have hg4 := (unhid K4).2.1
    have g0 := BW.cell (B := W4.heap.size) hg4 c0
    have g1 := BW.cell (B := W4.heap.size) hg4 c1
    have g2 := BW.cell (B := W4.heap.size) hg4 c2
    have g3 := BW.cell (B := W4.heap.size) hlt4 d0
    have g5 := BW.cell (B := W4.heap.size) hlt4 d1
    have g6 := BW.cell (B := W4.heap.size) hlt4 d2
    clear c0 c1 c2 d0 d1 d2
    have hnn := fun w => ne_need x v k w
    have hba := @BW.all W4.heap.size W4
    refine calm_region W4.heap.size (by kernel_rfl) (by kernel_rfl) ?_
    repeat (go_big_quiet_step (first | (go_at_call 15; refine Calls.bw (v := .string ⟨#[]⟩) (Nat.le_refl _) ((specNeedPut_any x v k (by omega) (by omega) _).mono ?_); rintro r w2 ⟨rfl, hb⟩; exact ⟨by rw [unhid ES], hb⟩) | (go_at_call 16; refine Calls.bw (v := .bool false) (Nat.le_refl _) ((NeedOk_any x v k xm vm _).mono ?_); rintro r w2 ⟨rfl, hb⟩; exact ⟨by rw [unhid HN], hb⟩) | (go_at_call 17; refine Calls.bw (v := .bool false) (Nat.le_refl _) ((specNeedOk_any x v k (by omega) (by omega) _).mono ?_); rintro r w2 ⟨rfl, hb⟩; exact ⟨by rw [unhid HN], hb⟩)))
    refine wpQuiet_nil ?_
    intro _ hw
    obtain ⟨⟨w5, hB5⟩, hw⟩ := hw
    subst hw
    have K5 := hid ((unhid K4).2.2.trans (hB5.mono (unhid K4).2.2.size))
    clear hB5 hba g0 g1 g2 g3 g5 g6 K4 NB hnn
    have H5 := hid (((unhid H').kept (unhid K5)).wide (unhid K5).size)
    go_wp2_with fail
    refine (DrawNeedGet_any _ a' len' cap' (unhid H5) (by omega) hc').mono ?_
    rintro e w6 ⟨t, rfl, ht, hb⟩
    have K6 := hid ((unhid K5).trans (hb.mono (unhid K5).size))
    clear hb K5 H5
    go_wp2_with fail
    refine (NeedGet_any t (by omega) _).mono ?_
    rintro e w7 ⟨⟨k7, hP7, rfl⟩, hb⟩
    obtain ⟨n7, kk7, v7, b7, hf⟩ := getV_form t k7
    have HF := hid hf
    rw [hf]
    clear hf
    have HP7 := hid hP7
    clear hP7
    have K7 := hid ((unhid K6).trans (hb.mono (unhid K6).size))
    clear hb K6
    have K7a := hid ((unhid K7).alloc (unhid K7).size (.cells #[.string n7, .int .i64 kk7, .string v7] 30))
    unfold needV
    go_wp2_with fail
    refine (specNeedGet_any t (by omega) _).mono ?_
    rintro e w8 ⟨⟨k8, hM, rfl⟩, hb⟩
    rw [← get_eq (unhid HP7) hM, unhid HF]
    have K8 := hid ((unhid K7a).trans (hb.mono (unhid K7a).size))
    have K8a := hid ((unhid K8).alloc (unhid K8).size (.cells #[.string n7, .int .i64 kk7, .string v7] 30))
    obtain ⟨⟨c0, _⟩, ⟨c1, _⟩, c2, _⟩ := (needAt_new w7 n7 kk7 v7 30).below (hb.trans ((Below.refl _ w8).alloc hb.size (.cells #[.string n7, .int .i64 kk7, .string v7] 30))) (by simp)
    clear hb hM K7 K7a K8
    have heq := fun w => eq_need n7 v7 kk7 w
    unfold needV
    cases b7
    · go_wp2_with fail
      go_ret
      exact ⟨rfl, unhid K8a⟩
    · obtain ⟨z1, z2⟩ := get_sizes (unhid HF)
      have EB := hid (get_back (unhid HF))
      go_wp2_with fail
      refine (NeedPut_any n7 v7 kk7 (by unfold maxLen; omega) (by omega) _).mono ?_
      rintro e w9 ⟨rfl, hb⟩
      rw [unhid EB]
      have K9 := hid ((unhid K8a).trans (hb.mono (unhid K8a).size))
      clear hb
      go_wp2_with fail
      go_ret
      exact ⟨rfl, unhid K9⟩
  · have EV : getV s ke = needV x k v true := by rw [← unhid ES, put_some hN] at hP ⊢; exact get_put hN hP
    have hsd : s.data.toList ≠ [] := by rw [← unhid ES, put_some hN]; exact put_ne hN
    have q1 : (s.toList == []) = false := by rw [Lib.toList_data, beq_eq_false_iff_ne]; exact hsd
    have q2 : (s.toList != []) = true := by simp only [bne, q1]; rfl
    have q0 : (⟨#[]⟩ : ByteArray).toList = [] := by rw [Lib.toList_data]
    have q3 : (s == (⟨#[]⟩ : ByteArray)) = false := by rw [beq_toListBytes, q0]; exact q1
    have q4 : (s != (⟨#[]⟩ : ByteArray)) = true := by simp only [bne, q3]; rfl
    have q5 : (s.toList == (⟨#[]⟩ : ByteArray).toList) = false := by rw [q0]; exact q1
    have q6 : (s.toList != (⟨#[]⟩ : ByteArray).toList) = true := by rw [q0]; exact q2
    clear hsd
    have HN := hid hN
    clear hN hP
    rw [EV]
    clear EV
    unfold needV
    have hba0 : Below w3.heap.size w3 (w3.alloc (.cells #[.string x, .int .i64 k, .string v] 30)) := (Below.refl _ w3).alloc (Nat.le_refl _) _
    have K4 := keep K3 hba0
    have NB := hid (needAt_new w3 x k v 30)
    have hlt4 : w3.heap.size < (w3.alloc (.cells #[.string x, .int .i64 k, .string v] 30)).heap.size := by simp
    have hgw := (unhid K3).2.1
    clear hba0 K3 keep
    go_wp2_with fail
    generalize w3.alloc (.cells #[.string x, .int .i64 k, .string v] 30) = W4 at *
    generalize w3.heap.size = g4 at *
    obtain ⟨⟨c0, _⟩, ⟨c1, _⟩, c2, _⟩ := (unhid K4).1
    obtain ⟨⟨d0, _⟩, ⟨d1, _⟩, d2, _⟩ := unhid NB
    have hg4 := (unhid K4).2.1
    have g0 := BW.cell (B := W4.heap.size) hg4 c0
    have g1 := BW.cell (B := W4.heap.size) hg4 c1
    have g2 := BW.cell (B := W4.heap.size) hg4 c2
    have g3 := BW.cell (B := W4.heap.size) hlt4 d0
    have g5 := BW.cell (B := W4.heap.size) hlt4 d1
    have g6 := BW.cell (B := W4.heap.size) hlt4 d2
    clear c0 c1 c2 d0 d1 d2
    have hnn := fun w => ne_need x v k w
    have hba := @BW.all W4.heap.size W4
    refine calm_region W4.heap.size (by kernel_rfl) (by kernel_rfl) ?_
    repeat (go_big_quiet_step (first | (go_at_call 15; refine Calls.bw (v := .string s) (Nat.le_refl _) ((specNeedPut_any x v k (by omega) (by omega) _).mono ?_); rintro r w2 ⟨rfl, hb⟩; exact ⟨by rw [unhid ES], hb⟩) | (go_at_call 16; refine Calls.bw (v := .bool true) (Nat.le_refl _) ((NeedOk_any x v k xm vm _).mono ?_); rintro r w2 ⟨rfl, hb⟩; exact ⟨by rw [unhid HN], hb⟩) | (go_at_call 17; refine Calls.bw (v := .bool true) (Nat.le_refl _) ((specNeedOk_any x v k (by omega) (by omega) _).mono ?_); rintro r w2 ⟨rfl, hb⟩; exact ⟨by rw [unhid HN], hb⟩)))
    refine wpQuiet_nil ?_
    intro _ hw
    obtain ⟨⟨w5, hB5⟩, hw⟩ := hw
    subst hw
    have K5 := hid ((unhid K4).2.2.trans (hB5.mono (unhid K4).2.2.size))
    clear hB5 hba g0 g1 g2 g3 g5 g6 K4 NB hnn
    have H5 := hid (((unhid H').kept (unhid K5)).wide (unhid K5).size)
    go_wp2_with fail
    refine (DrawNeedGet_any _ a' len' cap' (unhid H5) (by omega) hc').mono ?_
    rintro e w6 ⟨t, rfl, ht, hb⟩
    have K6 := hid ((unhid K5).trans (hb.mono (unhid K5).size))
    clear hb K5 H5
    go_wp2_with fail
    refine (NeedGet_any t (by omega) _).mono ?_
    rintro e w7 ⟨⟨k7, hP7, rfl⟩, hb⟩
    obtain ⟨n7, kk7, v7, b7, hf⟩ := getV_form t k7
    have HF := hid hf
    rw [hf]
    clear hf
    have HP7 := hid hP7
    clear hP7
    have K7 := hid ((unhid K6).trans (hb.mono (unhid K6).size))
    clear hb K6
    have K7a := hid ((unhid K7).alloc (unhid K7).size (.cells #[.string n7, .int .i64 kk7, .string v7] 30))
    unfold needV
    go_wp2_with fail
    refine (specNeedGet_any t (by omega) _).mono ?_
    rintro e w8 ⟨⟨k8, hM, rfl⟩, hb⟩
    rw [← get_eq (unhid HP7) hM, unhid HF]
    have K8 := hid ((unhid K7a).trans (hb.mono (unhid K7a).size))
    have K8a := hid ((unhid K8).alloc (unhid K8).size (.cells #[.string n7, .int .i64 kk7, .string v7] 30))
    obtain ⟨⟨c0, _⟩, ⟨c1, _⟩, c2, _⟩ := (needAt_new w7 n7 kk7 v7 30).below (hb.trans ((Below.refl _ w8).alloc hb.size (.cells #[.string n7, .int .i64 kk7, .string v7] 30))) (by simp)
    clear hb hM K7 K7a K8
    have heq := fun w => eq_need n7 v7 kk7 w
    unfold needV
    cases b7
    · go_wp2_with fail
      go_ret
      exact ⟨rfl, unhid K8a⟩
    · obtain ⟨z1, z2⟩ := get_sizes (unhid HF)
      have EB := hid (get_back (unhid HF))
      go_wp2_with fail
      refine (NeedPut_any n7 v7 kk7 (by unfold maxLen; omega) (by omega) _).mono ?_
      rintro e w9 ⟨rfl, hb⟩
      rw [unhid EB]
      have K9 := hid ((unhid K8a).trans (hb.mono (unhid K8a).size))
      clear hb
      go_wp2_with fail
      go_ret
      exact ⟨rfl, unhid K9⟩

set_option maxRecDepth 100000 in
set_option maxHeartbeats 1000000 in
theorem lifted_FnNeedText (os : Os) (started : os.Started) (H : Type) (enc : TypeId × Value → H) :
    ReturnsInHanded {} Try.checked os 5 .any (Rows.fnNeedTextSpec.pre6 enc Try.prog Try.f5 Rows.fnNeedTextRow.domain false) (Rows.fnNeedTextSpec.post enc Try.prog Try.f5 false true false false) := by
  refine returnsInHanded_of_change (C := Try.checked) own started (by kernel_rfl) Try.func5
    (ChangeSpec.witness6 (enc := enc) (C := Try.checked) false ⟨#[], #[.slice none 0 0, .slice none 0 0], []⟩ 8 (by kernel_rfl) (by kernel_rfl) (by kernel_rfl) (by kernel_rfl)) ?_
  intro W base args ds gs before hval0 hW _ _
  have hval : ∀ (j : Nat) t v, Try.f5.params[j]? = some t → args[j]? = some v → Value.okWide Try.prog W .any base t v := hval0
  have hW' := hW
  obtain ⟨p, q, hA0, hV, rfl, hfz, hnd⟩ := hW
  have hA : DataW.TrodAll enc Try.prog W 0 (fun _ => true) true Try.f5.params.toList args.toList ds p := hA0
  rw [Try.params5] at hA hval
  obtain ⟨v0, vs0, d0, ds0, p0, q0, e0, rfl, rfl, h0, r0⟩ := trodAll_cons hA
  obtain ⟨v1, vs1, d1, ds1, p1, q1, e1, rfl, rfl, h1, r1⟩ := trodAll_cons r0
  obtain ⟨rfl, rfl, rfl⟩ := trodAll_nil r1
  obtain rfl : args = #[v0, v1] := by cases args; simp_all
  obtain ⟨rfl, rfl⟩ := trodVars_none hV
  have hlt : ∀ x ∈ p0 ++ p1, x.block < W.heap.size := fun x hx => by simpa using hW'.lt x (by simpa using hx)
  have t0 := h0
  have l0 : ∀ x ∈ p0, x.block < W.heap.size := fun x hx => hlt x (by simp [hx])
  have t1 := h1
  have l1 : ∀ x ∈ p1, x.block < W.heap.size := fun x hx => hlt x (by simp [hx])
  obtain ⟨a0, len0, cap0, rfl⟩ := okWide_slice Try.underlying22 (hval 0 22 v0 rfl rfl)
  obtain ⟨hc0, hn0⟩ := code_of h0 l0
  obtain ⟨a1, len1, cap1, rfl⟩ := okWide_slice Try.underlying22 (hval 1 22 v1 rfl rfl)
  obtain ⟨hc1, hn1⟩ := code_of h1 l1
  clear hA0 hval0
  refine (walk_FnNeedText a0 len0 cap0 a1 len1 cap1 W hc0 hn0 hc1 hn1).mono fun e W' ⟨he, hb⟩ => ?_
  subst he
  exact ⟨_, rfl, post_below (gs := []) (pv := []) hW' (fun _ _ _ => trodAll_cons_mk (shut_bool Try.underlying4 _) trodAll_mk0) (trodAll_cons_mk (Below.trod laidOut (by kernel_rfl) (of_decide_eq_true (by kernel_rfl)) t0 hb l0) (trodAll_cons_mk (Below.trod laidOut (by kernel_rfl) (of_decide_eq_true (by kernel_rfl)) t1 hb l1) trodAll_mk0)) rfl (by simp) hb⟩

theorem fnNeedText_holds : Rows.FnNeedTextSaid :=
  OpenClaim.holds_of_wide 5 Try.f5 rfl rfl rfl rfl rfl rfl rfl ⟨rfl, rfl, rfl, rfl, rfl⟩ rfl rfl rfl rfl rfl (by kernel_rfl) Try.func5 (by kernel_rfl)
    (of_decide_eq_true (by kernel_rfl)) (by unfold Func.isWrapper; first | (rw [if_pos (by decide +kernel)]; kernel_rfl) | (rw [if_neg (by decide +kernel)]; exact ⟨rfl, rfl⟩))
    (fun os started H enc _ => lifted_FnNeedText os started H enc)
end Go.Proofs.Ytobalkbddefaiaa
