/- A hunk done to lines, with the least fuzz that makes it fit, by the program. -/
import Derived.Test.YtedimkcnemhhpaaWalkDo
import Derived.Test.YtedimkcnemhhpaaTxtOwn
namespace Go.Proofs.Ytedimkcnemhhpaa
open Go.RowKit Go.Shelf

set_option maxRecDepth 100000 in
set_option maxHeartbeats 1000000 in
theorem laterLines_any (h : Hk) (la : Option Addr) (cap : Nat) (w : World) (hlen : h.lines.length ≤ 1048576) (hz : ∀ x ∈ h.lines, 0 < x.size ∧ x.size ≤ maxLen) (ht : TxtsAt w la h.lines) :
    Calls Try.prog 107 #[.agg #[.int .i64 h.at_, .slice la h.lines.length cap]] w fun e w' => ∃ v, e = .returned v ∧ w'.ownsRow w.heap.size 9 1 v (withX 43 h.lines).length ((withX 43 h.lines).map Value.string) ∧ Below w.heap.size w w' := by
  have HT := hid ht
  have HZ := hid hz
  clear ht hz
  have hA : ∀ o, Below w.heap.size w (w.alloc o) := fun o => (Below.refl _ w).alloc (Nat.le_refl _) o
  have HA := hid hA
  clear hA
  go_enter Try.func107, Try.ntmps107
  go_wp2_with fail
  refine (linesWith_any h 43 la cap _ hlen (unhid HZ) ((unhid HT).below (unhid HA _))).mono ?_
  rintro e w1 ⟨v, rfl, ho, hb⟩
  have HO := hid (ownsRow_baseX ho (unhid HA _).size)
  have HB := hid ((unhid HA _).trans (hb.mono (unhid HA _).size))
  clear ho hb
  go_wp2_with fail
  go_ret
  exact ⟨_, rfl, unhid HO, unhid HB⟩

theorem infoInt : (Try.prog.info? 3).map (fun i => (i.zero, i.size, i.bytes)) = some (some (.int .i64 0), 1, 8) := by kernel_rfl
/-- How far a hunk was, noted. -/
theorem Wk.far {w W W' : World} {g : Nat} {s : PSt} {ra : Option Addr} {rc : Nat} {dv fv fv' : Value} {z : Int} (h : Wk w W g s ra rc dv fv) (hown : W'.ownsRow w.heap.size 3 1 fv' (s.far.length + 1) (s.far.map (Value.int .i64) ++ [.int .i64 z])) (hg : W.grownBy W' fv.ownBlock) (hat : fv'.ownBlock = fv.ownBlock ∨ fv'.ownBlock = some W.heap.size) :
    FourAt W' g (.slice ra s.rest.length rc) dv fv (.int .i64 s.later) ∧ Below w.heap.size w W' ∧ Wk w (W'.setCell ⟨g, 2, none⟩ fv') g ⟨s.done, s.rest, s.far ++ [z], s.later⟩ ra rc dv fv' := by
  have h4 : FourAt W' g (.slice ra s.rest.length rc) dv fv (.int .i64 s.later) := h.four.block (hg.block g h.lt (fun e => h.fg e.symm))
  have hne : fv'.ownBlock ≠ some g := by
    rcases hat with e | e <;> rw [e]
    · exact h.fg
    · intro e; cases e; exact Nat.lt_irrefl _ h.lt
  have hB : Below w.heap.size w W' := h.below.grown hg h.below.size (fun k e => (h.fown.lt k e).1)
  refine ⟨h4, hB, h.lo, by have := hg.size; have := h.lt; simp; omega, h4.set2 fv', owns_set (owns_grown h.down hg h.df) h.dg _, ?_, h.dg, hne, ?_, h.rest, h.rnil, h.rcap, hB.setCell (p := ⟨g, 2, none⟩) h.lo _⟩
  · have := owns_set hown (p := ⟨g, 2, none⟩) hne fv'
    simpa using this
  · cases hdv : dv.ownBlock with
    | none => exact .inl rfl
    | some b =>
      refine .inr (fun e => ?_)
      rcases hat with e2 | e2
      · rcases h.df with e3 | e3
        · rw [e3] at hdv; cases hdv
        · exact e3 (by rw [hdv, e, e2])
      · rw [e2] at e
        cases e
        exact Nat.lt_irrefl _ (h.down.lt _ hdv).2
theorem Wk.setLater {w W : World} {g : Nat} {s : PSt} {ra : Option Addr} {rc : Nat} {dv fv : Value} (h : Wk w W g s ra rc dv fv) (z : Int) :
    Wk w (W.setCell ⟨g, 3, none⟩ (.int .i64 z)) g ⟨s.done, s.rest, s.far, z⟩ ra rc dv fv :=
  ⟨h.lo, by simpa using h.lt, h.four.set3 _, owns_set h.down h.dg _, owns_set h.fown h.fg _, h.dg, h.fg, h.df, h.rest, h.rnil, h.rcap, h.below.setCell (p := ⟨g, 3, none⟩) h.lo _⟩

set_option maxRecDepth 100000 in
set_option maxHeartbeats 8000000 in
theorem do_any (w W : World) (g : Nat) (s : PSt) (ra : Option Addr) (rc : Nat) (dv fv : Value) (h : Hk) (far : Int) (la : Option Addr) (cap : Nat) (hw : Wk w W g s ra rc dv fv) (hat : -10000 ≤ h.at_ ∧ h.at_ ≤ 10000) (hl : -10000 ≤ s.later ∧ s.later ≤ 10000) (hd : s.done.length ≤ 10000) (hr : s.rest.length ≤ 10000) (hfl : s.far.length ≤ 10000) (hfa : -10 ≤ far ∧ far ≤ 10) (hlen : h.lines.length ≤ 10000) (hz : ∀ x ∈ h.lines, 0 < x.size ∧ x.size ≤ maxLen) (ht : TxtsAt W la h.lines) (hfit : 0 ≤ onM s h + far ∧ onM s h + far + ((oldL h).length : Int) ≤ (s.rest.length : Int)) :
    Calls Try.prog 93 #[.pointer (some ⟨g, 0, none⟩), .agg #[.int .i64 h.at_, .slice la h.lines.length cap], .int .i64 far] W fun e W' => ∃ u, e = .returned u ∧ ∃ ra' rc' dv' fv', Wk w W' g (doM s h far) ra' rc' dv' fv' := by
  have hol : (oldL h).length ≤ h.lines.length := withX_len _ _
  have hnl : (newL h).length ≤ h.lines.length := withX_len _ _
  obtain ⟨k, hk⟩ : ∃ k : Nat, onM s h + far = (k : Int) := ⟨(onM s h + far).toNat, by omega⟩
  have hkr : k + (oldL h).length ≤ s.rest.length := by omega
  have HDM := hid (show doM s h far = ⟨s.done ++ s.rest.take k ++ newL h, s.rest.drop (k + (oldL h).length), s.far ++ [far], s.later + (far + ((newL h).length : Int) - ((oldL h).length : Int))⟩ by unfold doM; rw [hk]; rfl)
  have HKE := hid hk
  have HW := hid hw
  have HT := hid ht
  have HZ := hid hz
  have HAT := hid hat
  have HLT := hid hl
  obtain ⟨hl1, hl2⟩ := hl
  obtain ⟨fa1, fa2⟩ := hfa
  have hon : -40000 ≤ onM s h ∧ onM s h ≤ 40000 := by obtain ⟨a1, a2⟩ := hat; unfold onM; omega
  obtain ⟨on1, on2⟩ := hon
  have TN := hid (twoAt_new W h.at_ (.slice la h.lines.length cap) 46)
  have HN := hid (show Below W.heap.size W (W.alloc (.cells #[.int .i64 h.at_, .slice la h.lines.length cap] 46)) from (Below.refl _ _).alloc (Nat.le_refl _) _)
  have hlt : W.heap.size < (W.alloc (.cells #[.int .i64 h.at_, .slice la h.lines.length cap] 46)).heap.size := by simp
  clear hw ht hz hat hk hfit
  go_enter Try.func93, Try.ntmps93
  go_wp2_with fail
  have HB0 := HN
  generalize W.alloc (.cells #[.int .i64 h.at_, .slice la h.lines.length cap] 46) = W0 at *
  generalize hgb : W.heap.size = gb at *
  have HGB := hid hgb
  clear hgb
  have HW0 := hid ((unhid HW).step (by rw [unhid HGB]; exact unhid HB0))
  have HT0 := hid ((unhid HT).below (by rw [unhid HGB]; exact unhid HB0))
  clear HN HW HT HB0
  -- the two rows
  have g0 : ∀ y : CW (fun w' => Below W0.heap.size W0 w'), y.w.cell? ⟨gb, 0, none⟩ = some (.int .i64 h.at_) := fun y => ((unhid TN).below y.h hlt).1.1
  have g1 : ∀ y : CW (fun w' => Below W0.heap.size W0 w'), y.w.cell? ⟨gb, 1, none⟩ = some (.slice la h.lines.length cap) := fun y => ((unhid TN).below y.h hlt).2.1
  have hba : ∀ {q : Prop}, (CW (fun w' => Below W0.heap.size W0 w') → q) ↔ q := CW.all (Below.refl _ W0)
  refine held_begin (fun w' => Below W0.heap.size W0 w') (by kernel_rfl) (drew_belowX _) ?_
  refine held_here [true, false, true] (by kernel_rfl) (by kernel_rfl) (fun _ _ _ _ _ h => h) (drew_belowX _) ?_
  dsimp only [pick]
  repeat (go_big_quiet_step (fail))
  refine wpQuiet_nil ?_
  refine held_call 1 49 9 (enters_of Try.func49 (by kernel_rfl) rfl) #[.agg #[.int .i64 h.at_, .slice la h.lines.length cap]] (by kernel_rfl) (by kernel_rfl) rfl rfl rfl rfl rfl ?_
  refine (elderLines_any h la cap _ (by omega) (unhid HZ) ((unhid HT0).below (drew_belowX _))).mono ?_
  rintro r W1 ⟨ov, rfl, ho, hb⟩
  have hW1 : Below W0.heap.size W0 W1 := (drew_belowX W0).trans hb
  refine ⟨_, rfl, hW1, ?_⟩
  obtain ⟨oa, oc, hov⟩ := ownsRow_sliceX ho
  subst hov
  clear hb ho
  simp only [Act.put, List.setIfInBounds_toArray, List.set_cons_zero, List.set_cons_succ]
  refine held_call 3 107 11 (enters_of Try.func107 (by kernel_rfl) rfl) #[.agg #[.int .i64 h.at_, .slice la h.lines.length cap]] (by kernel_rfl) (by kernel_rfl) rfl rfl rfl rfl rfl ?_
  refine (laterLines_any h la cap _ (by omega) (unhid HZ) ((unhid HT0).below hW1)).mono ?_
  rintro r W2 ⟨nv, rfl, hno, hb⟩
  have hW2 : Below W0.heap.size W0 W2 := hW1.trans (hb.mono hW1.size)
  refine ⟨_, rfl, hW2, ?_⟩
  have HNO := hid (TxtOwn.of_owns hno)
  obtain ⟨na, nc, hnv⟩ := ownsRow_sliceX hno
  subst hnv
  have HNR := hid (TxtOwn.read (unhid HNO).1)
  have HNB := hid (show ∀ b o, na = some ⟨b, o, none⟩ → W0.heap.size ≤ b from fun b o e => by subst e; exact Nat.le_trans hW1.size ((unhid HNO).2 b (by simp [Value.ownBlock])).1)
  clear hb hno
  simp only [Act.put, List.setIfInBounds_toArray, List.set_cons_zero, List.set_cons_succ]
  refine held_here [false, false, false, false, true, true] (by kernel_rfl) (by kernel_rfl) (fun _ _ _ _ _ h => h) hW2 ?_
  dsimp only [pick]
  repeat (go_big_quiet_step (fail))
  refine wpQuiet_nil ?_
  refine held_done (by kernel_rfl) ?_
  have HW2 := hid ((unhid HW0).step hW2)
  have HTN := hid ((unhid TN).below hW2 hlt)
  have HNT := hid (show TxtsAt W2 na (newL h) ∧ (na = none → nc = 0) by
    obtain ⟨a', c', hv, ht2, hnil⟩ := unhid HNR
    injection hv with e1 e2 e3
    subst e1 e3
    exact ⟨ht2, hnil⟩)
  have hg2 : gb < W2.heap.size := Nat.lt_of_lt_of_le hlt hW2.size
  have HOL := hid (show (withX 45 h.lines).length = (oldL h).length ∧ (withX 43 h.lines).length = (newL h).length from ⟨rfl, rfl⟩)
  rw [(unhid HOL).1, (unhid HOL).2]
  clear g0 g1 hba hW1 hW2 HNO HNR HOL HT0 TN
  obtain ⟨⟨b0, _⟩, b1, _⟩ := unhid HTN
  go_wp2_with fail
  refine (lookedFor_any w W2 g s ra rc dv fv h (.slice la h.lines.length cap) (unhid HW2) (by have := unhid HAT; omega) (by omega) (by omega)).mono ?_
  rintro r W3 ⟨rfl, hb⟩
  have HW3 := hid ((unhid HW2).step hb)
  have HNT3 := hid (And.intro ((unhid HNT).1.below hb) (unhid HNT).2)
  have hs3 := hb.size
  clear hb HW2 HNT b0 b1 HTN
  go_wp2_with fail
  rw [unhid HKE]
  refine (keep_any w W3 g k s ra rc dv fv (unhid HW3) (by omega) (by omega) (by omega)).mono ?_
  rintro r W4 ⟨u4, rfl, dv4, hwk, hon⟩
  have HW4 := hid hwk
  have HNT4 := hid (show TxtsAt W4 na (newL h) ∧ (na = none → nc = 0) from ⟨by
    rcases (unhid HNT3).1 with h0 | ⟨b, o, e, hlb, hc⟩
    · exact .inl h0
    · refine .inr ⟨b, o, e, Nat.lt_of_lt_of_le hlb hon.size, fun i x hi => (World.cell?_of_block (w := W3) (hon.block b hlb (fun hm => ?_))).trans (hc i x hi)⟩
      have hb0 := unhid HNB b o e
      have hg0 := (unhid HW0).lt
      rcases List.mem_cons.1 hm with rfl | hm
      · omega
      · have hdb : dv.ownBlock = some b := by cases hd0 : dv.ownBlock with | none => rw [hd0] at hm; cases hm | some x => rw [hd0] at hm; rw [List.mem_singleton.1 hm]
        have := ((unhid HW0).down.lt b hdb).2
        omega, (unhid HNT3).2⟩)
  clear hwk hon HW3 HNT3
  go_wp2_with fail
  refine (take_any w W4 g (oldL h).length _ _ _ dv4 fv (unhid HW4) (by simp only [List.length_drop]; omega)).mono ?_
  rintro r W5 ⟨rfl, hW5⟩
  have HW5 := hid ((unhid HW4).took (k := (oldL h).length) (by simp only [List.length_drop]; omega))
  rw [← hW5] at HW5
  have HNT5 := hid (show TxtsAt W5 na (newL h) ∧ (na = none → nc = 0) from ⟨by
    rw [hW5]
    refine (unhid HNT4).1.block g (fun b o e => by have := unhid HNB b o e; have := (unhid HW0).lt; omega) (by simp) (fun b _ hne => Below.heap_setCell _ _ _ _ hne), (unhid HNT4).2⟩)
  clear hW5 HW4 HNT4
  dsimp only at HW5
  rw [List.drop_drop] at HW5
  obtain ⟨d5, c5, hdv5⟩ := ownsRow_sliceX (unhid HW5).down
  subst hdv5
  have hdl : (s.done ++ s.rest.take k).length ≤ 30000 := by simp only [List.length_append, List.length_take]; omega
  generalize hD5 : s.done ++ s.rest.take k = D5 at *
  generalize hR5 : s.rest.drop (k + (oldL h).length) = R5 at *
  generalize subA (subA ra rc k) (rc - k) (oldL h).length = ra5 at *
  generalize rc - k - (oldL h).length = rc5 at *
  dsimp only at HW5 ⊢
  have c1 := (unhid HW5).four.c1
  have hwl5 := (unhid HW5).below.size
  go_wp2_with (at_builtin; refine wp_app rfl _ _ rfl w.heap.size _ D5 (newL h) na nc rfl rfl (unhid HW5).down (unhid HNT5).1 (unhid HNT5).2 ?c1 hwl5 ?_)
  case c1 => omega
  intro v' W6 hown hg hatb
  have hown2 : W6.ownsRow w.heap.size 9 1 v' (D5 ++ newL h).length ((D5 ++ newL h).map Value.string) := by rw [List.length_append, List.map_append]; exact hown
  clear hown
  have hown := hown2
  clear hown2
  obtain ⟨t4, hB6, HW6'⟩ := (unhid HW5).app hown hg hatb
  obtain ⟨va, vc, hv⟩ := ownsRow_sliceX hown
  subst hv
  have f1 := t4.f1
  have c1' := t4.c1
  have HW6 := hid HW6'
  clear c1 hown hg hatb HW6' t4 HW5 HNT5 hB6
  dsimp only at HW6
  obtain ⟨fa, fc, hfv⟩ := ownsRow_sliceX (unhid HW6).fown
  subst hfv
  dsimp only at HW6
  obtain ⟨i0, hi, hz0, hz1, hz2⟩ := info_parts infoInt
  rw [List.length_append] at *
  have HW6b := hid (show Wk w (W6.setCell ⟨g, 1, none⟩ (.slice va (D5.length + (newL h).length) vc)) g ⟨D5 ++ newL h, R5, s.far, s.later⟩ ra5 rc5 (.slice va (D5.length + (newL h).length) vc) (.slice fa s.far.length fc) from unhid HW6)
  have c2 := (unhid HW6b).four.c2
  have hfo := hid (unhid HW6b).fown
  have hbl := (unhid HW6b).below.size
  have hNW := hid (show ∀ X : World, Below X.heap.size X (X.alloc (.cells #[.int .i64 far] 3)) from fun X => (Below.refl _ _).alloc (Nat.le_refl _) _)
  clear HW6
  go_wp2_with (at_builtin; refine wpList_append_own_at _ rfl _ _ 35 rfl w.heap.size 3 i0 (.int .i64 0) 1 8 Try.underlying35 hi hz0 hz1 hz2 rfl (by decide) _ s.far.length (s.far.map (Value.int .i64)) rfl ((unhid hfo).alloc _) ⟨_, 0, none⟩ 1 1 [.int .i64 far] rfl rfl ?c1 ?c2 ?c3 ?c4 ?c5 ?_)
  case c2 => first | (intro u hu; simp at hu; subst hu; rfl) | rfl | simp
  case c3 => unfold maxLen; omega
  case c4 => omega
  case c5 => have := hbl; simp at this ⊢; omega
  intro v' W7 hown hg _ hatb
  have HWA := hid ((unhid HW6b).step (unhid hNW _))
  obtain ⟨t5, hB7, HW7'⟩ := (unhid HWA).far hown hg (by simpa using hatb)
  obtain ⟨ga, gc, hgv⟩ := ownsRow_sliceX hown
  subst hgv
  have f2 := t5.f2
  have c2' := t5.c2
  have HW7 := hid HW7'
  clear c2 hown hg hatb HW7' t5 HWA HW6b hfo hB7 hbl
  have c3 := (unhid HW7).four.c3
  have f3 := (unhid HW7).four.f3
  dsimp only at c3
  have HW8 := hid ((unhid HW7).setLater (s.later + (far + ((newL h).length : Int) - ((oldL h).length : Int))))
  go_wp2_with fail
  have HW9 := hid (show ∃ ra' rc' dv' fv', Wk w _ g (doM s h far) ra' rc' dv' fv' from ⟨ra5, rc5, _, _, by rw [unhid HDM]; exact unhid HW8⟩)
  refine bodyPost_end (results_none rfl _ _ _) rfl ?_
  first | exact ⟨_, rfl, unhid HW9⟩ | exact ⟨⟨_, rfl⟩, unhid HW9⟩

set_option maxRecDepth 100000 in
set_option maxHeartbeats 8000000 in
theorem pass_any (w W : World) (g : Nat) (s : PSt) (ra : Option Addr) (rc : Nat) (dv fv : Value) (h : Hk) (fuzz : Nat) (la : Option Addr) (cap : Nat) (hw : Wk w W g s ra rc dv fv) (hat : -5000 ≤ h.at_ ∧ h.at_ ≤ 5000) (hl : -5000 ≤ s.later ∧ s.later ≤ 5000) (hd : s.done.length ≤ 5000) (hr : s.rest.length ≤ 5000) (hfl : s.far.length ≤ 5000) (hfz : fuzz ≤ 2) (hlen : h.lines.length ≤ 30) (hcap : h.lines.length ≤ cap) (hz : ∀ x ∈ h.lines, 0 < x.size ∧ x.size ≤ maxLen) (ht : TxtsAt W la h.lines) :
    Calls Try.prog 63 #[.pointer (some ⟨g, 0, none⟩), .agg #[.int .i64 h.at_, .slice la h.lines.length cap], .int .i64 (fuzz : Int)] W fun e W' => e = .returned (.bool (passM s h fuzz).isSome) ∧ Hid (∃ ra' rc' dv' fv', Wk w W' g ((passM s h fuzz).getD s) ra' rc' dv' fv') := by
  have HAT := hid hat
  have HLT := hid hl
  have HZ := hid hz
  have TN := hid (twoAt_new W h.at_ (.slice la h.lines.length cap) 46)
  have HN := hid (show Below W.heap.size W (W.alloc (.cells #[.int .i64 h.at_, .slice la h.lines.length cap] 46)) from (Below.refl _ _).alloc (Nat.le_refl _) _)
  have hlt : W.heap.size < (W.alloc (.cells #[.int .i64 h.at_, .slice la h.lines.length cap] 46)).heap.size := by simp
  have HW := hid (hw.step (unhid HN))
  have HT := hid (ht.below (unhid HN))
  have HPM := hid (show passM s h fuzz = passFrom s h (fuzz + 1 - 0) 0 from rfl)
  clear hw ht hz hat hl HN
  go_enter Try.func63, Try.ntmps63
  go_wp2_with fail
  generalize W.alloc (.cells #[.int .i64 h.at_, .slice la h.lines.length cap] 46) = W0 at *
  generalize W.heap.size = gb at *
  go_loopw [13] (fun i wr => ∃ k : Nat, k ≤ fuzz + 1 ∧ i = .int .i64 (k : Int) ∧ Hid (passM s h fuzz = passFrom s h (fuzz + 1 - k) k) ∧ Hid (Below W0.heap.size W0 wr)) (fun i _ => fuzz + 1 - (intOf i).toNat)
  case atStart => exact ⟨0, by omega, rfl, HPM, hid (Below.refl _ _)⟩
  case round =>
    obtain ⟨k, hk, rfl, HK, HB⟩ := hrel
    by_cases hlt2 : k < fuzz + 1
    · obtain ⟨⟨b0, _⟩, b1, _⟩ := (unhid TN).below (unhid HB) hlt
      have HST := hid (show passM s h fuzz = match tryM s (trimH h k) with | some far => some (doM s (trimH h k) far) | none => passFrom s h (fuzz + 1 - (k + 1)) (k + 1) by
        rw [unhid HK, show fuzz + 1 - k = (fuzz + 1 - (k + 1)) + 1 by omega]; rfl)
      obtain ⟨l1, l2⟩ := trimA_le h.lines k
      have hat3 : -5000 ≤ (trimH h k).at_ ∧ (trimH h k).at_ ≤ 5030 := by have := unhid HAT; show -5000 ≤ h.at_ + (trimA h.lines k : Int) ∧ h.at_ + (trimA h.lines k : Int) ≤ 5030; omega
      have hln3 : (trimH h k).lines.length ≤ 30 := by show (trimL h.lines k).length ≤ 30; rw [trimL_len]; omega
      have HZ3 := hid (show ∀ x ∈ (trimH h k).lines, 0 < x.size ∧ x.size ≤ maxLen from fun x hx => unhid HZ x (trimL_mem hx))
      have HTP := hid (show ∀ X : World, Below W0.heap.size W0 X → TxtsAt X (subA la cap (trimA h.lines k)) (trimH h k).lines from fun X hX => ((unhid HT).part hcap (trimA h.lines k) (h.lines.length - trimZ h.lines k - trimA h.lines k)).below hX)
      go_wp2_with fail
      refine (withoutEnds_any h k la cap wr (by omega) (by have := unhid HAT; omega) hlen hcap (unhid HZ) ((unhid HT).below (unhid HB))).mono ?_
      rintro e W1 ⟨rfl, hb⟩
      have HB1 := hid ((unhid HB).trans (hb.mono (unhid HB).size))
      clear hb b0 b1 HB
      generalize trimH h k = p at *
      generalize subA la cap (trimA h.lines k) = pa at *
      generalize cap - trimA h.lines k = pc at *
      have hNB : Below W1.heap.size W1 (W1.alloc (.cells #[.int .i64 p.at_, .slice pa p.lines.length pc] 46)) := (Below.refl _ _).alloc (Nat.le_refl _) _
      have TP := hid (twoAt_new W1 p.at_ (.slice pa p.lines.length pc) 46)
      have hlt3 : W1.heap.size < (W1.alloc (.cells #[.int .i64 p.at_, .slice pa p.lines.length pc] 46)).heap.size := by simp
      have HB2 := hid ((unhid HB1).trans (hNB.mono (unhid HB1).size))
      have HW2 := hid ((unhid HW).step (unhid HB2))
      have HT2 := hid (unhid HTP _ (unhid HB2))
      have hs2 := hNB.size
      obtain ⟨⟨q0, _⟩, q1, _⟩ := unhid TP
      clear hNB HB1
      go_wp2_with fail
      generalize W1.alloc (.cells #[.int .i64 p.at_, .slice pa p.lines.length pc] 46) = W2 at *
      generalize W1.heap.size = gp at *
      refine (find_any w W2 g s ra rc dv fv p pa pc (unhid HW2) (by omega) (by have := unhid HLT; omega) (by omega) (by omega) (by omega) (unhid HZ3) (unhid HT2)).mono ?_
      rintro e W3 ⟨rfl, hb⟩
      have HB3 := hid ((unhid HB2).trans (hb.mono (unhid HB2).size))
      have HW3 := hid ((unhid HW2).step hb)
      have HT3 := hid ((unhid HT2).below hb)
      have TP3 := hid ((unhid TP).below hb hlt3)
      have HFS := hid (fun far (e : tryM s p = some far) => findM_some e)
      clear hb q0 q1 HB2 HW2 HT2 TP hlt3
      obtain ⟨⟨q0, _⟩, q1, _⟩ := unhid TP3
      cases htr : tryM s p with
      | none =>
        have HST2 := hid (show passM s h fuzz = passFrom s h (fuzz + 1 - (k + 1)) (k + 1) by rw [unhid HST, htr])
        clear htr HST
        go_wp2_with fail
        go_roundw
        case rel => exact ⟨k + 1, by omega, by go_num, HST2, HB3⟩
        case measure => simp [intOf]; omega
      | some far =>
        have HST2 := hid (show passM s h fuzz = some (doM s p far) by rw [unhid HST, htr])
        obtain ⟨hst, f1, f2⟩ := unhid HFS far htr
        obtain ⟨p1, p2, _⟩ := standB_parts hst
        clear htr HST hst
        go_wp2_with fail
        refine (do_any w W3 g s ra rc dv fv p far pa pc (unhid HW3) (by omega) (by have := unhid HLT; omega) (by omega) (by omega) (by omega) (by omega) (by omega) (unhid HZ3) (unhid HT3) ⟨p1, p2⟩).mono ?_
        rintro e W4 ⟨u4, rfl, hwk⟩
        have HW4 := hid hwk
        clear hwk q0 q1
        go_wp2_with fail
        go_ret
        exact ⟨by rw [unhid HST2]; rfl, hid (by rw [unhid HST2]; exact unhid HW4)⟩
    · have e : k = fuzz + 1 := by omega
      have E := hid (show passM s h fuzz = none by rw [unhid HK, e, Nat.sub_self]; rfl)
      have HW2 := hid ((unhid HW).step (unhid HB))
      have hlt3 : decide ((k : Int) < (fuzz : Int) + 1) = false := by rw [decide_eq_false_iff_not]; omega
      clear e
      go_wp2_with fail
      go_ret
      exact ⟨by rw [unhid E]; rfl, hid (by rw [unhid E]; exact ⟨_, _, _, _, unhid HW2⟩)⟩
end Go.Proofs.Ytedimkcnemhhpaa
