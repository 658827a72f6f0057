/- A hunk done to lines, by the model. -/
import Derived.Test.YtedimkcnemhhpaaSpecFind
import Derived.Test.YtedimkcnemhhpaaDiff
namespace Go.Proofs.Ytedimkcnemhhpaa
open Go.RowKit Go.Shelf

theorem stand_shift (done rest old : List ByteArray) (t : Int) : fromB (done ++ rest) old (done.length : Int) (t + (done.length : Int)) = standB rest t old := by
  have hd : 0 ≤ t → (done ++ rest).drop (t + (done.length : Int)).toNat = rest.drop t.toNat := fun h0 => by
    rw [show (t + (done.length : Int)).toNat = done.length + t.toNat by omega, ← List.drop_drop, List.drop_left]
  unfold fromB standB
  rw [Bool.eq_iff_iff]
  simp only [Bool.and_eq_true, decide_eq_true_eq, List.length_append]
  constructor
  · rintro ⟨h1, _, h2, h3⟩
    rw [hd (by omega)] at h3
    exact ⟨by omega, by omega, h3⟩
  · rintro ⟨h1, h2, h3⟩
    refine ⟨by omega, by omega, by omega, ?_⟩
    rw [hd h1]; exact h3
theorem findZ_try (s : PSt) (p : Hk) : findZ (s.done ++ s.rest) (oldL p) (p.at_ - 1 + s.later) (s.done.length : Int) = tryM s p := by
  unfold findZ tryM findM
  refine findFrom_congr (fun t => ?_) 9 0
  rw [show p.at_ - 1 + s.later + t = (onM s p + t) + (s.done.length : Int) by unfold onM; omega]
  exact stand_shift _ _ _ _
theorem doM_lines {s : PSt} {p : Hk} {far : Int} {k : Nat} (hk : onM s p + far = (k : Int)) :
    (doM s p far).done ++ (doM s p far).rest = (s.done ++ s.rest).take (s.done.length + k) ++ newL p ++ (s.done ++ s.rest).drop (s.done.length + k + (oldL p).length) := by
  have e : (onM s p + far).toNat = k := by omega
  show s.done ++ s.rest.take (onM s p + far).toNat ++ newL p ++ s.rest.drop ((onM s p + far).toNat + (oldL p).length) = _
  have t1 : (s.done ++ s.rest).take (s.done.length + k) = s.done ++ s.rest.take k := by
    rw [List.take_append, List.take_of_length_le (l := s.done) (by omega), show s.done.length + k - s.done.length = k by omega]
  have t2 : (s.done ++ s.rest).drop (s.done.length + k + (oldL p).length) = s.rest.drop (k + (oldL p).length) := by
    rw [List.drop_append, List.drop_eq_nil_of_le (show s.done.length ≤ s.done.length + k + (oldL p).length by omega), List.nil_append, show s.done.length + k + (oldL p).length - s.done.length = k + (oldL p).length by omega]
  rw [e, t1, t2]
theorem passFrom_some {s s' : PSt} {h : Hk} : ∀ (f k : Nat), passFrom s h f k = some s' → ∃ j far, tryM s (trimH h j) = some far ∧ s' = doM s (trimH h j) far
  | 0, _, e => by cases e
  | f + 1, k, e => by
    unfold passFrom at e
    split at e
    · rename_i far ht; cases e; exact ⟨k, far, ht, rfl⟩
    · exact passFrom_some f (k + 1) e
/-- What l5One answers where a hunk fits. -/
def OneOut (w W : World) (v : Value) (en off : Int) (s s' : PSt) : Prop := en = (s'.done.length : Int) ∧ s'.far = s.far ++ [off] ∧ W.ownsRow w.heap.size 9 1 v (s'.done ++ s'.rest).length ((s'.done ++ s'.rest).map Value.string)

def OnePost (w W : World) (e : Ending) (s : PSt) (h : Hk) (fuzz : Nat) : Prop := ∃ v en off, e = .returned (.tuple #[v, .int .i64 en, .int .i64 off, .bool (passM s h fuzz).isSome]) ∧ Hid (∀ s', passM s h fuzz = some s' → OneOut w W v en off s s') ∧ Below w.heap.size w W

set_option maxRecDepth 100000 in
set_option maxHeartbeats 8000000 in
theorem l5One_any (s : PSt) (h : Hk) (fuzz : Nat) (a la : Option Addr) (cap lcap : Nat) (w : World) (hat : -5000 ≤ h.at_ ∧ h.at_ ≤ 5000) (hl : -5000 ≤ s.later ∧ s.later ≤ 5000) (hls : (s.done ++ s.rest).length ≤ 5000) (hcap : (s.done ++ s.rest).length ≤ cap) (hnil : a = none → cap = 0) (hfz : fuzz ≤ 2) (hlen : h.lines.length ≤ 30) (hlc : h.lines.length ≤ lcap) (hok : linesB h.lines = true) (hz : bigX h.lines) (ht : TxtsAt w a (s.done ++ s.rest)) (ht2 : TxtsAt w la h.lines) :
    Calls Try.prog 61 #[.slice a (s.done ++ s.rest).length cap, .agg #[.int .i64 h.at_, .slice la h.lines.length lcap], .int .i64 (s.done.length : Nat), .int .i64 s.later, .int .i64 (fuzz : Int)] w fun e W => OnePost w W e s h fuzz := by
  have hdl : s.done.length ≤ 5000 := by rw [List.length_append] at hls; omega
  have HZ := hid (show ∀ x ∈ h.lines, 0 < x.size ∧ x.size ≤ maxLen from fun x hx => ⟨linesB_pos hok x hx, hz x hx⟩)
  have HOK := hid (show ∀ x ∈ h.lines, hkLineB x.data.toList = true from fun x hx => List.all_eq_true.1 hok x hx)
  have HAT := hid hat
  have HLT := hid hl
  have HNIL := hid hnil
  have TN := hid (twoAt_new w h.at_ (.slice la h.lines.length lcap) 46)
  have HN := hid (show Below w.heap.size w (w.alloc (.cells #[.int .i64 h.at_, .slice la h.lines.length lcap] 46)) from (Below.refl _ _).alloc (Nat.le_refl _) _)
  have hlt : w.heap.size < (w.alloc (.cells #[.int .i64 h.at_, .slice la h.lines.length lcap] 46)).heap.size := by simp
  have HT := hid (ht.below (unhid HN))
  have HT2 := hid (ht2.below (unhid HN))
  have HPM := hid (show passM s h fuzz = passFrom s h (fuzz + 1 - 0) 0 from rfl)
  have HTRY := hid (findZ_try s)
  generalize hLS : s.done ++ s.rest = LS at *
  have HLS := hid hLS
  clear ht ht2 hz hok hat hl hnil hLS
  go_enter Try.func61, Try.ntmps61
  go_wp2_with fail
  generalize w.alloc (.cells #[.int .i64 h.at_, .slice la h.lines.length lcap] 46) = W0 at *
  generalize hgb : w.heap.size = gb at *
  have HGB := hid hgb
  clear hgb
  go_loopw [14] (fun i wr => ∃ k : Nat, k ≤ fuzz + 1 ∧ i = .int .i64 (k : Int) ∧ Hid (passM s h fuzz = passFrom s h (fuzz + 1 - k) k) ∧ Hid (Below W0.heap.size W0 wr)) (fun i _ => fuzz + 1 - (intOf i).toNat)
  case atStart => exact ⟨0, by omega, rfl, HPM, hid (Below.refl _ _)⟩
  case round =>
    obtain ⟨k, hk, rfl, HK, HB⟩ := hrel
    by_cases hlt2 : k < fuzz + 1
    · obtain ⟨⟨b0, _⟩, b1, _⟩ := (unhid TN).below (unhid HB) hlt
      have hkf : (k : Int) ≤ (fuzz : Int) := by omega
      have HST := hid (show passM s h fuzz = match tryM s (trimH h k) with | some far => some (doM s (trimH h k) far) | none => passFrom s h (fuzz + 1 - (k + 1)) (k + 1) by
        rw [unhid HK, show fuzz + 1 - k = (fuzz + 1 - (k + 1)) + 1 by omega]; rfl)
      obtain ⟨l1, l2⟩ := trimA_le h.lines k
      have hat3 : -5000 ≤ (trimH h k).at_ ∧ (trimH h k).at_ ≤ 5030 := by have := unhid HAT; show -5000 ≤ h.at_ + (trimA h.lines k : Int) ∧ h.at_ + (trimA h.lines k : Int) ≤ 5030; omega
      obtain ⟨hat4, hat5⟩ := hat3
      have hln3 : (trimH h k).lines.length ≤ 30 := by show (trimL h.lines k).length ≤ 30; rw [trimL_len]; omega
      have HZ3 := hid (show ∀ x ∈ (trimH h k).lines, 0 < x.size ∧ x.size ≤ maxLen from fun x hx => unhid HZ x (trimL_mem hx))
      have HO3 := hid (show oldX 43 (trimH h k).lines = oldL (trimH h k) from old_with (fun x hx => unhid HOK x (trimL_mem hx)))
      have HN3 := hid (show oldX 45 (trimH h k).lines = newL (trimH h k) from new_with (fun x hx => unhid HOK x (trimL_mem hx)))
      have HTRY3 := hid (unhid HTRY (trimH h k))
      go_wp2_with fail
      refine (l5Trim_any h k la lcap wr (by omega) (by have := unhid HAT; omega) hlen hlc (unhid HZ) ((unhid HT2).below (unhid HB))).mono ?_
      rintro e W1 ⟨pa, pc, rfl, htp, hb⟩
      have HB1 := hid ((unhid HB).trans (hb.mono (unhid HB).size))
      have HTP := hid (htp.below hb)
      clear hb b0 b1 HB htp
      generalize trimH h k = p at *
      have hNB : Below W1.heap.size W1 (W1.alloc (.cells #[.int .i64 p.at_, .slice pa p.lines.length pc] 46)) := (Below.refl _ _).alloc (Nat.le_refl _) _
      have TP := hid (twoAt_new W1 p.at_ (.slice pa p.lines.length pc) 46)
      have hlt3 : W1.heap.size < (W1.alloc (.cells #[.int .i64 p.at_, .slice pa p.lines.length pc] 46)).heap.size := by simp
      have HB2 := hid ((unhid HB1).trans (hNB.mono (unhid HB1).size))
      have HTP2 := hid ((unhid HTP).below hNB)
      obtain ⟨⟨q0, _⟩, q1, _⟩ := unhid TP
      clear hNB HB1 HTP
      go_wp2_with fail
      generalize W1.alloc (.cells #[.int .i64 p.at_, .slice pa p.lines.length pc] 46) = W2 at *
      generalize W1.heap.size = gp at *
      refine (l5Old_any p pa pc W2 (by omega) (unhid HZ3) (unhid HTP2)).mono ?_
      rintro e W3 ⟨ov, rfl, ho, hb⟩
      rw [unhid HO3] at ho
      have HB3 := hid ((unhid HB2).trans (hb.mono (unhid HB2).size))
      have HTP3 := hid ((unhid HTP2).below hb)
      have TP3 := hid ((unhid TP).below hb hlt3)
      have hlt4 := Nat.lt_of_lt_of_le hlt3 hb.size
      obtain ⟨oa, oc, hov⟩ := ownsRow_sliceX ho
      subst hov
      have HOT := hid (show TxtsAt W3 oa (oldL p) by
        obtain ⟨_, a', c', hv, ht2, _⟩ := txts_owns ho
        injection hv with e1 e2 e3
        subst e1
        exact ht2)
      clear hb ho q0 q1 HB2 HTP2 TP hlt3
      obtain ⟨⟨q0, _⟩, q1, _⟩ := unhid TP3
      go_wp2_with fail
      refine (l5New_any p pa pc W3 (by omega) (unhid HZ3) (unhid HTP3)).mono ?_
      rintro e W4 ⟨nv, rfl, ho, hb⟩
      rw [unhid HN3] at ho
      have HB4 := hid ((unhid HB3).trans (hb.mono (unhid HB3).size))
      have TP4 := hid ((unhid TP3).below hb hlt4)
      have hlt5 := Nat.lt_of_lt_of_le hlt4 hb.size
      have HOT4 := hid ((unhid HOT).below hb)
      obtain ⟨_, na, nc, hnv, hnt, _, _, _⟩ := txts_owns ho
      have HNN := hid (show na = none → nc = 0 by
        intro e
        rcases ho.2 with ⟨hv, h0⟩ | ⟨g, c2, cur, hv, _⟩
        · rw [hv] at hnv; injection hnv with e1 e2 e3; exact e3.symm
        · rw [hv, e] at hnv; cases hnv)
      subst hnv
      have HNT := hid hnt
      clear hb ho q0 q1 HB3 HTP3 TP3 hlt4 HOT hnt
      obtain ⟨⟨q0, _⟩, q1, _⟩ := unhid TP4
      have hol : (oldL p).length ≤ p.lines.length := withX_len _ _
      have hnl : (newL p).length ≤ p.lines.length := withX_len _ _
      obtain ⟨hl1, hl2⟩ := unhid HLT
      go_wp2_with fail
      refine (l5Find_any LS (oldL p) a oa cap oc (p.at_ - 1 + s.later) (s.done.length : Int) W4 (by omega) (by omega) (by omega) (by omega) ((unhid HT).below (unhid HB4)) (unhid HOT4)).mono ?_
      rintro e W5 ⟨rfl, hb⟩
      rw [unhid HTRY3]
      have HB5 := hid ((unhid HB4).trans (hb.mono (unhid HB4).size))
      have TP5 := hid ((unhid TP4).below hb hlt5)
      have hlt6 := Nat.lt_of_lt_of_le hlt5 hb.size
      have HNT5 := hid ((unhid HNT).below hb)
      clear hb q0 q1 HB4 TP4 hlt5 HOT4 HNT
      obtain ⟨⟨q0, _⟩, q1, _⟩ := unhid TP5
      cases htr : tryM s p with
      | none =>
        have HST2 := hid (show passM s h fuzz = passFrom s h (fuzz + 1 - (k + 1)) (k + 1) by rw [unhid HST, htr])
        have E := hid (show foundZ (p.at_ - 1 + s.later) none = -1 from rfl)
        rw [unhid E]
        clear htr HST
        go_wp2_with fail
        go_roundw
        case rel => exact ⟨k + 1, by omega, by go_num, HST2, HB5⟩
        case measure => simp [intOf]; omega
      | some far =>
        have HST2 := hid (show passM s h fuzz = some (doM s p far) by rw [unhid HST, htr])
        obtain ⟨hst, f1, f2⟩ := findM_some htr
        obtain ⟨p1, p2, _⟩ := standB_parts hst
        obtain ⟨m, hm⟩ : ∃ m : Nat, onM s p + far = (m : Int) := ⟨(onM s p + far).toNat, by omega⟩
        have hmr : m + (oldL p).length ≤ s.rest.length := by omega
        have HLN := hid (doM_lines hm)
        have hLl : LS.length = s.done.length + s.rest.length := by rw [← unhid HLS, List.length_append]
        have hend : ((doM s p far).done.length : Int) = ((s.done.length + m : Nat) : Int) + ((newL p).length : Int) := by
          show ((s.done ++ s.rest.take (onM s p + far).toNat ++ newL p).length : Int) = _
          rw [hm]; simp only [List.length_append, List.length_take]; omega
        have HEND := hid hend
        have E := hid (show foundZ (p.at_ - 1 + s.later) (some far) = ((s.done.length + m : Nat) : Int) by show p.at_ - 1 + s.later + far = _; have : onM s p = p.at_ - 1 + s.later - (s.done.length : Int) := rfl; omega)
        have hoff : ((s.done.length + m : Nat) : Int) - (p.at_ - 1 + s.later) = far := by have : onM s p = p.at_ - 1 + s.later - (s.done.length : Int) := rfl; omega
        have HOFF := hid hoff
        rw [unhid E]
        rw [unhid HLS] at HLN
        have hmr2 : s.done.length + m + (oldL p).length ≤ LS.length := by omega
        clear htr HST hst hm hend hoff hmr p1 p2 hLl E
        generalize s.done.length + m = A at *
        have s1 := fun w => sub_h a LS.length cap A (by omega) w
        have s2 := fun w => sub_l a LS.length cap (A + (oldL p).length) (by omega) w
        rw [show ((A + (oldL p).length : Nat) : Int) = (A : Int) + ((oldL p).length : Int) by omega] at s2
        go_wp2_with fail
        -- the lines in one
        have hba : ∀ {q : Prop}, (CW (fun w' => Below W5.heap.size W5 w') → q) ↔ q := CW.all (Below.refl _ W5)
        refine held_begin (fun w' => Below W5.heap.size W5 w') (by kernel_rfl) (drew_belowX _) ?_
        refine held_here [false, true, true, true, false, true, false, true, true, true, true, true, true] (by kernel_rfl) (by kernel_rfl) (fun _ _ _ _ _ h => h) (drew_belowX _) ?_
        dsimp only [pick]
        repeat (go_big_quiet_step (fail))
        refine wpQuiet_nil ?_
        clear hba s1 s2
        have hD := drew_belowX (B := W5.heap.size) W5
        generalize W5.drew = W6 at hD ⊢
        refine held_op 0 (by kernel_rfl) (by kernel_rfl) rfl (fun K hK => ?_)
        go_simp
        have hD2 : Below W5.heap.size W5 (W6.alloc (.cells #[] 9)) := hD.alloc hD.size _
        refine hK.out _ _ hD2 ?_
        clear hK K
        have r0 := World.ownsRow_lit (base := W5.heap.size) (e := 9) (size := 1) W6 #[] 0 hD.size (by simp [maxLen]) rfl
        generalize W6.alloc (.cells #[] 9) = W7 at hD2 r0 ⊢
        generalize W6.heap.size = g0 at r0 ⊢
        clear hD
        have HTA := hid ((unhid HT).below (unhid HB5))
        have htk : (LS.take A).length = A := by rw [List.length_take]; omega
        refine held_app 4 51 W5.heap.size (.slice (some ⟨g0, 0, none⟩) 0 0) [] (LS.take A) a cap (by kernel_rfl) (by kernel_rfl) rfl rfl rfl rfl rfl (by rw [htk]; rfl) r0 (((unhid HTA).head A).below hD2) (unhid HNIL) (by rw [htk]; simp only [List.length_nil]; omega) hD2.size ?_
        intro v1 W8 r1 hg1 _
        have hD3 : Below W5.heap.size W5 W8 := hD2.grown hg1 hD2.size (fun j e => (r0.lt j e).1)
        refine ⟨hD3, ?_⟩
        simp only [Act.put, List.setIfInBounds_toArray, List.set_cons_zero, List.set_cons_succ]
        rw [List.nil_append] at r1
        clear hg1 r0 hD2
        refine held_app 6 53 W5.heap.size v1 (LS.take A) (newL p) na nc (by kernel_rfl) (by kernel_rfl) rfl rfl rfl rfl rfl rfl r1 ((unhid HNT5).below hD3) (unhid HNN) (by rw [htk]; omega) hD3.size ?_
        intro v2 W9 r2 hg2 _
        have hD4 : Below W5.heap.size W5 W9 := hD3.grown hg2 hD3.size (fun j e => (r1.lt j e).1)
        refine ⟨hD4, ?_⟩
        simp only [Act.put, List.setIfInBounds_toArray, List.set_cons_zero, List.set_cons_succ]
        clear hg2 r1 hD3
        have hdr : (LS.drop (A + (oldL p).length)).length = LS.length - (A + (oldL p).length) := List.length_drop
        refine held_app 13 60 W5.heap.size v2 (LS.take A ++ newL p) (LS.drop (A + (oldL p).length)) (subA a cap (A + (oldL p).length)) (cap - (A + (oldL p).length)) (by kernel_rfl) (by kernel_rfl) rfl rfl rfl rfl rfl (by rw [hdr]; rfl) r2 (((unhid HTA).rest hcap _).below hD4) (subA_none (by omega) (unhid HNIL)) (by rw [hdr, List.length_append, htk]; omega) hD4.size ?_
        intro v3 W10 r3 hg3 _
        have hD5 : Below W5.heap.size W5 W10 := hD4.grown hg3 hD4.size (fun j e => (r2.lt j e).1)
        refine ⟨hD5, ?_⟩
        simp only [Act.put, List.setIfInBounds_toArray, List.set_cons_zero, List.set_cons_succ]
        obtain ⟨va, vc, hv3⟩ := ownsRow_sliceX r3
        subst hv3
        clear hg3 r2 hD4
        have hba : ∀ {q : Prop}, (CW (fun w' => Below W5.heap.size W5 w') → q) ↔ q := CW.all (Below.refl _ W5)
        refine held_here [false, false, false, false, false, false, false, false, false, false, false, false, false, false, true] (by kernel_rfl) (by kernel_rfl) (fun _ _ _ _ _ h => h) hD5 ?_
        dsimp only [pick]
        repeat (go_big_quiet_step (fail))
        refine wpQuiet_nil ?_
        clear hba
        refine held_done (by kernel_rfl) ?_
        rw [← unhid HLN] at r3 ⊢
        have HR3 := hid (ownsRow_baseX (N' := w.heap.size) r3 (by rw [unhid HGB]; exact Nat.le_trans (Nat.le_of_lt hlt) (unhid HB5).size))
        have HB6 := hid ((unhid HB5).trans (hD5.mono (unhid HB5).size))
        have TP6 := hid ((unhid TP5).below hD5 hlt6)
        clear r3 hD5 q0 q1 TP5 htk hdr HTA HNT5
        obtain ⟨⟨q0, _⟩, q1, _⟩ := unhid TP6
        go_wp2_with fail
        go_quiet (fail)
        have HF := hid (show (W10.drewN nq).ownsRow w.heap.size 9 1 (.slice va ((doM s p far).done ++ (doM s p far).rest).length vc) ((doM s p far).done ++ (doM s p far).rest).length (((doM s p far).done ++ (doM s p far).rest).map Value.string) ∧ Below w.heap.size w (W10.drewN nq) from
          ⟨owns_belowX (unhid HR3) ⟨rfl, rfl, rfl, Nat.le_refl _, fun _ _ => rfl⟩, by
            have hx := (unhid HN).trans ((unhid HB6).mono (Nat.le_of_lt hlt))
            rw [unhid HGB]
            exact ⟨hx.os, hx.tape, hx.output, hx.size, hx.block⟩⟩)
        generalize W10.drewN nq = W11 at HF ⊢
        go_wp2_with fail
        refine bodyPost_ret (v := .tuple #[.slice va ((doM s p far).done ++ (doM s p far).rest).length vc, .int .i64 ((A : Int) + ((newL p).length : Int)), .int .i64 ((A : Int) - (p.at_ - 1 + s.later)), .bool true]) (by simp [results, Try.results61]) rfl ?_
        refine ⟨_, _, _, by rw [unhid HST2]; rfl, hid (fun s' e => ?_), (unhid HF).2⟩
        rw [unhid HST2] at e
        cases e
        exact ⟨(unhid HEND).symm, by rw [unhid HOFF]; rfl, (unhid HF).1⟩
    · have e : k = fuzz + 1 := by omega
      have E := hid (show passM s h fuzz = none by rw [unhid HK, e, Nat.sub_self]; rfl)
      have hlt3 : decide ((k : Int) ≤ (fuzz : Int)) = false := by rw [decide_eq_false_iff_not]; omega
      clear e
      go_wp2_with fail
      refine bodyPost_ret (v := .tuple #[.slice a LS.length cap, .int .i64 (s.done.length : Int), .int .i64 0, .bool false]) (by simp [results, Try.results61]) rfl ?_
      refine ⟨_, _, _, by rw [unhid E]; rfl, hid (fun s' e => by rw [unhid E] at e; cases e), ?_⟩
      rw [unhid HGB]
      exact (unhid HN).trans ((unhid HB).mono (Nat.le_of_lt hlt))
end Go.Proofs.Ytedimkcnemhhpaa
