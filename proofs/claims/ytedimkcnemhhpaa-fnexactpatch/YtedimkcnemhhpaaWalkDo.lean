/- Lines that hunks are being done to, by the program: kept; a hunk found and done. -/
import Derived.Test.YtedimkcnemhhpaaWalkImpl
import Derived.Test.YtedimkcnemhhpaaKind
namespace Go.Proofs.Ytedimkcnemhhpaa
open Go.RowKit Go.Shelf

set_option maxRecDepth 100000 in
set_option maxHeartbeats 4000000 in
theorem keep_any (w W : World) (g k : Nat) (s : PSt) (ra : Option Addr) (rc : Nat) (dv fv : Value) (h : Wk w W g s ra rc dv fv) (hk : k ≤ s.rest.length) (hl : s.rest.length ≤ 1000000) (hd : s.done.length ≤ 1000000) :
    Calls Try.prog 65 #[.pointer (some ⟨g, 0, none⟩), .int .i64 (k : Int)] W fun e W' => ∃ u, e = .returned u ∧ ∃ dv', Wk w W' g ⟨s.done ++ s.rest.take k, s.rest.drop k, s.far, s.later⟩ (subA ra rc k) (rc - k) dv' fv ∧ Only (g :: dv.ownBlock.toList) W W' := by
  obtain ⟨da, dc, hdv⟩ := ownsRow_sliceX h.down
  subst hdv
  have HON := hid (Only.ofBelow (F := g :: (Value.slice da s.done.length dc).ownBlock.toList) (drew_belowX (B := W.heap.size) W))
  have HH := hid (h.step (drew_belowX W))
  have htk := hid (show (s.rest.take k).length = k by rw [List.length_take]; omega)
  clear h
  go_enter Try.func65, Try.ntmps65
  go_wp2_with fail
  have hba : ∀ {q : Prop}, (CW (fun w' => Below w.heap.size w w') → q) ↔ q := CW.all (Below.refl _ w)
  refine held_begin (fun w' => Below w.heap.size w w') (by kernel_rfl) (unhid HH).below ?_
  refine held_here [true, true, true, true, false, true, true, true, true] (by kernel_rfl) (by kernel_rfl) (fun _ _ _ _ _ h => h) (unhid HH).below ?_
  dsimp only [pick]
  repeat (go_big_quiet_step (fail))
  refine wpQuiet_nil ?_
  clear hba
  generalize W.drew = W1 at HH HON ⊢
  have c1 := (unhid HH).four.c1
  refine held_both_call 4 9 94 8 13 (enters_of Try.func94 (by kernel_rfl) rfl) (.slice da s.done.length dc) #[.pointer (some ⟨g, 0, none⟩), .int .i64 (k : Int)] (by kernel_rfl) (by kernel_rfl) (by kernel_rfl) (by kernel_rfl) rfl rfl (by kernel_rfl) (by kernel_rfl) rfl rfl rfl rfl rfl rfl (unhid HH).below (by go_simp) ?_
  refine (take_any w W1 g k s ra rc _ fv (unhid HH) hk).mono ?_
  rintro e W2 ⟨rfl, hW2⟩
  have HH2 := hid ((unhid HH).took hk)
  rw [← hW2] at HH2
  have HON2 := hid ((unhid HON).setCell (p := ⟨g, 0, none⟩) (by simp) (.slice (subA ra rc k) (s.rest.length - k) (rc - k)))
  rw [← hW2] at HON2
  have c1' := (unhid HH2).four.c1
  have HR := hid (unhid HH).rest
  have HNIL := hid (unhid HH).rnil
  clear c1 HH hW2
  refine ⟨_, rfl, (unhid HH2).below, by go_simp, ?_⟩
  clear c1'
  simp only [Act.put, List.setIfInBounds_toArray, List.set_cons_zero, List.set_cons_succ]
  have hwl := (unhid HH2).below.size
  have HRA := hid ((unhid HR).below (unhid HH2).below)
  refine held_app 10 14 w.heap.size (.slice da s.done.length dc) s.done (s.rest.take k) ra rc (by kernel_rfl) (by kernel_rfl) rfl rfl rfl rfl rfl (by rw [unhid htk]; rfl) (unhid HH2).down ((unhid HRA).head k) (unhid HNIL) (by rw [unhid htk]; omega) hwl ?_
  intro v' W' hown hg hat
  obtain ⟨t4, hB', HW'⟩ := (unhid HH2).app hown hg hat
  refine ⟨hB', ?_⟩
  simp only [Act.put, List.setIfInBounds_toArray, List.set_cons_zero, List.set_cons_succ]
  obtain ⟨va, vc, hv⟩ := ownsRow_sliceX hown
  subst hv
  have HF := hid HW'
  have HON3 := hid (show Only (g :: (Value.slice da s.done.length dc).ownBlock.toList) W (W'.setCell ⟨g, 1, none⟩ (.slice va (s.done ++ s.rest.take k).length vc)) from ((unhid HON2).trans ⟨hg.os, hg.tape, hg.output, hg.size, fun i hi hn => hg.block i hi (fun e => hn (by rw [← e]; simp))⟩).setCell (p := ⟨g, 1, none⟩) (by simp) _)
  have f1 := t4.f1
  have c1 := t4.c1
  clear hown hg hat HW' t4
  have hba : ∀ {q : Prop}, (CW (fun w' => Below w.heap.size w w') → q) ↔ q := CW.all (Below.refl _ w)
  refine held_here [false, false, false, false, false, false, false, false, false, false, false, true, true] (by kernel_rfl) (by kernel_rfl) (fun _ _ _ _ _ h => h) hB' ?_
  dsimp only [pick]
  repeat (go_big_quiet_step (fail))
  refine wpQuiet_nil ?_
  clear hba
  refine held_op 13 (by kernel_rfl) (by kernel_rfl) rfl (fun K hK => ?_)
  go_simp
  have HF2 := hid (show ∃ dv', Wk w (W'.setCell ⟨g, 1, none⟩ (.slice va (s.done ++ s.rest.take k).length vc)) g ⟨s.done ++ s.rest.take k, s.rest.drop k, s.far, s.later⟩ (subA ra rc k) (rc - k) dv' fv ∧ Only (g :: (Value.slice da s.done.length dc).ownBlock.toList) W (W'.setCell ⟨g, 1, none⟩ (.slice va (s.done ++ s.rest.take k).length vc)) from ⟨_, unhid HF, unhid HON3⟩)
  simp only [List.length_append, unhid htk] at HF2
  refine hK.out _ _ (by obtain ⟨_, hh, _⟩ := unhid HF2; exact hh.below) ?_
  clear hK K f1 c1 hB' HF
  refine held_done (by kernel_rfl) ?_
  go_wp2_with fail
  exact bodyPost_end (results_none rfl _ _ _) rfl ⟨_, rfl, unhid HF2⟩

set_option maxRecDepth 100000 in
set_option maxHeartbeats 4000000 in
theorem find_any (w W : World) (g : Nat) (s : PSt) (ra : Option Addr) (rc : Nat) (dv fv : Value) (h : Hk) (la : Option Addr) (cap : Nat) (hw : Wk w W g s ra rc dv fv) (hat : -10000 ≤ h.at_ ∧ h.at_ ≤ 10000) (hl : -10000 ≤ s.later ∧ s.later ≤ 10000) (hd : s.done.length ≤ 10000) (hr : s.rest.length ≤ 10000) (hlen : h.lines.length ≤ 10000) (hz : ∀ x ∈ h.lines, 0 < x.size ∧ x.size ≤ maxLen) (ht : TxtsAt W la h.lines) :
    Calls Try.prog 92 #[.pointer (some ⟨g, 0, none⟩), .agg #[.int .i64 h.at_, .slice la h.lines.length cap]] W fun e W' => e = .returned (.tuple #[.int .i64 ((tryM s h).getD 0), .bool (tryM s h).isSome]) ∧ Below W.heap.size W W' := by
  have hol : (oldL h).length ≤ h.lines.length := withX_len _ _
  have hon : -40000 ≤ onM s h ∧ onM s h ≤ 40000 := by obtain ⟨a1, a2⟩ := hat; obtain ⟨a3, a4⟩ := hl; unfold onM; omega
  obtain ⟨on1, on2⟩ := hon
  have HW := hid hw
  have HT := hid ht
  have HZ := hid hz
  have HAT := hid hat
  have HLT := hid hl
  have TN := hid (twoAt_new W h.at_ (.slice la h.lines.length cap) 46)
  have HN := hid (show Below W.heap.size W (W.alloc (.cells #[.int .i64 h.at_, .slice la h.lines.length cap] 46)) from (Below.refl _ _).alloc (Nat.le_refl _) _)
  have HTM := hid (show tryM s h = findFrom (fun t => standB s.rest t (oldL h)) (onM s h) 9 0 from rfl)
  clear hw ht hz hat hl
  obtain ⟨⟨t0, _⟩, t1, _⟩ := unhid TN
  go_enter Try.func92, Try.ntmps92
  go_wp2_with fail
  refine (elderLines_any h la cap _ (by omega) (unhid HZ) ((unhid HT).below (unhid HN))).mono ?_
  rintro e W2 ⟨ov, rfl, ho, hb⟩
  have hlt : W.heap.size < (W.alloc (.cells #[.int .i64 h.at_, .slice la h.lines.length cap] 46)).heap.size := by simp
  have TN2 := hid ((unhid TN).below hb hlt)
  have HB2 := hid ((unhid HN).trans (hb.mono (unhid HN).size))
  have HO2 := hid ho
  clear hb ho t0 t1 TN HN hlt
  obtain ⟨⟨t0, _⟩, t1, _⟩ := unhid TN2
  obtain ⟨oa, oc, hov⟩ := ownsRow_sliceX (unhid HO2)
  subst hov
  go_wp2_with fail
  refine (lookedFor_any w W2 g s ra rc dv fv h (.slice la h.lines.length cap) ((unhid HW).step (unhid HB2)) (by have := unhid HAT; omega) (by have := unhid HLT; omega) (by omega)).mono ?_
  rintro e W3 ⟨rfl, hb⟩
  have HB3 := hid ((unhid HB2).trans (hb.mono (unhid HB2).size))
  have HO3 := hid (show TxtsAt W3 oa (oldL h) by
    obtain ⟨_, a', c', hv, ht2, _⟩ := txts_owns (unhid HO2)
    injection hv with e1 e2 e3
    subst e1
    exact ht2.below hb)
  clear hb t0 t1 TN2 HO2 HB2
  have HOL := hid (show (withX 45 h.lines).length = (oldL h).length from rfl)
  rw [unhid HOL]
  have HW3 := hid ((unhid HW).step (unhid HB3))
  generalize onM s h = on at *
  go_wp2_with fail
  go_loopw [14] (fun i wr => ∃ k : Nat, k ≤ 9 ∧ i = .int .i64 (k : Int) ∧ Hid (tryM s h = findFrom (fun t => standB s.rest t (oldL h)) on (9 - k) k) ∧ Hid (Below W3.heap.size W3 wr)) (fun i _ => 9 - (intOf i).toNat)
  case atStart => exact ⟨0, by omega, rfl, HTM, hid (Below.refl _ _)⟩
  case round =>
    obtain ⟨k, hk, rfl, HK, HBr⟩ := hrel
    by_cases hlt : k < 9
    · have HW4 := hid ((unhid HW3).step (unhid HBr))
      have HO4 := hid ((unhid HO3).below (unhid HBr))
      have c0 := (unhid HW4).four.c0
      have HST := hid (show tryM s h = if standB s.rest (on - (k : Int)) (oldL h) then some (-(k : Int)) else if standB s.rest (on + (k : Int)) (oldL h) then some (k : Int) else findFrom (fun t => standB s.rest t (oldL h)) on (9 - (k + 1)) (k + 1) by
        rw [unhid HK, show 9 - k = (9 - (k + 1)) + 1 by omega]; rfl)
      go_wp2_with fail
      refine (stand_any g s.rest (oldL h) ra oa rc oc (on - (k : Int)) wr c0 (by omega) (unhid HW4).rcap (by omega) (by omega) ((unhid HW4).rest.below (unhid HW4).below) (unhid HO4)).mono ?_
      rintro e W5 ⟨rfl, hb⟩
      have HB5 := hid ((unhid HBr).trans (hb.mono (unhid HBr).size))
      have HW5 := hid ((unhid HW4).step hb)
      have HO5 := hid ((unhid HO4).below hb)
      clear hb HW4 HO4 HBr c0
      cases hs1 : standB s.rest (on - (k : Int)) (oldL h)
      · have HST2 := hid (show tryM s h = if standB s.rest (on + (k : Int)) (oldL h) then some (k : Int) else findFrom (fun t => standB s.rest t (oldL h)) on (9 - (k + 1)) (k + 1) by rw [unhid HST, hs1]; rfl)
        clear hs1 HST
        have c0 := (unhid HW5).four.c0
        go_wp2_with fail
        refine (stand_any g s.rest (oldL h) ra oa rc oc (on + (k : Int)) W5 c0 (by omega) (unhid HW5).rcap (by omega) (by omega) ((unhid HW5).rest.below (unhid HW5).below) (unhid HO5)).mono ?_
        rintro e W6 ⟨rfl, hb⟩
        have HB6 := hid ((unhid HB5).trans (hb.mono (unhid HB5).size))
        clear hb HW5 HO5 HB5 c0
        cases hs2 : standB s.rest (on + (k : Int)) (oldL h)
        · have HST3 := hid (show tryM s h = findFrom (fun t => standB s.rest t (oldL h)) on (9 - (k + 1)) (k + 1) by rw [unhid HST2, hs2]; rfl)
          clear hs2 HST2
          go_wp2_with fail
          go_roundw
          case rel => exact ⟨k + 1, by omega, by go_num, HST3, HB6⟩
          case measure => simp [intOf]; omega
        · have HST3 := hid (show tryM s h = some (k : Int) by rw [unhid HST2, hs2]; rfl)
          clear hs2 HST2
          go_wp2_with fail
          go_ret2
          exact ⟨by rw [unhid HST3]; rfl, (unhid HB3).trans ((unhid HB6).mono (unhid HB3).size)⟩
      · have HST2 := hid (show tryM s h = some (-(k : Int)) by rw [unhid HST, hs1]; rfl)
        clear hs1 HST
        go_wp2_with fail
        go_ret2
        exact ⟨by rw [unhid HST2]; rfl, (unhid HB3).trans ((unhid HB5).mono (unhid HB3).size)⟩
    · have e : k = 9 := by omega
      subst e
      have E := hid (show tryM s h = none by rw [unhid HK]; rfl)
      go_wp2_with fail
      go_ret2
      exact ⟨by rw [unhid E]; rfl, (unhid HB3).trans ((unhid HBr).mono (unhid HB3).size)⟩
end Go.Proofs.Ytedimkcnemhhpaa
