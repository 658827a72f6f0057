/- Whether hunks are ok, by the model. -/
import Derived.Test.YtedimkcnemhhpaaHunksOk
import Derived.Test.YtedimkcnemhhpaaHeld
namespace Go.Proofs.Ytedimkcnemhhpaa
open Go.RowKit Go.Shelf

set_option maxRecDepth 100000 in
set_option maxHeartbeats 8000000 in
theorem specHunksOk_any (hs : List Hk) (a : Option Addr) (cap : Nat) (w : World) (hlen : hs.length ≤ maxLen) (hz : bigH hs) (h : HksAt w a hs) :
    Calls Try.prog 16 #[.slice a hs.length cap] w fun e w' => e = .returned (.bool (hunksB hs)) ∧ Below w.heap.size w w' := by
  unfold maxLen at hlen
  have HZ := hid hz
  have HH := hid h
  clear hz h
  go_enter Try.func16, Try.ntmps16
  go_wp2_with fail
  go_loopw [3] (fun i wr => ∃ k : Nat, k ≤ hs.length ∧ i = .int .i64 k ∧ Hid ((List.range k).all (okAt hs) = true) ∧ Below w.heap.size w wr) (fun i _ => hs.length - (intOf i).toNat)
  case atStart => exact ⟨0, Nat.zero_le _, rfl, hid rfl, Below.refl _ _⟩
  case round =>
    obtain ⟨k, hk, rfl, hall, hB⟩ := hrel
    by_cases hlt : k < hs.length
    · obtain ⟨e, he⟩ : ∃ e, hs[k]? = some e := ⟨hs[k], List.getElem?_eq_getElem hlt⟩
      obtain ⟨b, o, rfl, hbl, hc⟩ := (unhid HH).get (by intro e; subst e; simp at hlt)
      obtain ⟨la, lc, c0, c1, ht⟩ := hc k e he
      obtain ⟨z1, z2⟩ := unhid HZ e (List.mem_of_getElem? he)
      have HCK := hid (fun (X : World) (hX : Below w.heap.size w X) => And.intro ((hX.cell (p := ⟨b, o + k * 2, .none⟩) hbl).trans c0) ((hX.cell (p := ⟨b, o + k * 2 + 1, .none⟩) hbl).trans c1))
      have HF := hid (hkFn_get he)
      have HP := hid (lst_pos hs k (unhid hall))
      have HB := hid hB
      have HT := hid ht
      have Z1 := hid z1
      have Z2 := hid z2
      have HN := hid (fun x => no_hunks (hs := hs) hlt x)
      have HOk := hid (show okAt hs k = (hkB e && decide (lst hs k ≤ e.at_)) by unfold okAt; rw [unhid HF])
      have HC := hid hc
      clear hc hB he ht z1 z2 c0 c1
      cases hx : (hkB e && decide (1 ≤ e.at_))
      · have E := hid (unhid HN (by
          rw [unhid HOk]
          cases h1 : hkB e
          · rfl
          · rw [h1, Bool.true_and, decide_eq_false_iff_not] at hx
            have := unhid HP
            rw [decide_eq_false (by omega)]; rfl))
        have HX := hid hx
        clear hx
        obtain ⟨c0, c1⟩ := unhid HCK wr (unhid HB)
        have hbw := Nat.lt_of_lt_of_le hbl (unhid HB).size
        have g0 := BW.cell (B := wr.heap.size) hbw c0
        have g1 := BW.cell (B := wr.heap.size) hbw c1
        clear c0 c1
        go_wp2_with fail
        have hba := @BW.all wr.heap.size wr
        refine calm_region wr.heap.size (by kernel_rfl) (by kernel_rfl) ?_
        repeat (go_big_quiet_step ((go_at_call 45; refine Calls.bw (v := .bool false) (Nat.le_refl _) ((l5Hunk_any e la lc _ (unhid Z2) (unhid Z1) ((unhid HT).below ((unhid HB).trans ((BW.h _).mono (unhid HB).size)))).mono ?_); rintro r w2 ⟨rfl, hb⟩; exact ⟨by rw [unhid HX], hb⟩)))
        refine wpQuiet_nil ?_
        intro _ hw
        obtain ⟨⟨w2, hB2⟩, hw⟩ := hw
        subst hw
        have HB2 := hid ((unhid HB).trans (hB2.mono (unhid HB).size))
        clear hB2 hba g0 g1
        all_goals
          go_wp2_with fail
          go_ret
          exact ⟨by rw [unhid E]; rfl, unhid HB2⟩
      · have HX := hid hx
        rw [Bool.and_eq_true, decide_eq_true_eq] at hx
        obtain ⟨x1, x2⟩ := hx
        have y1 := (hkB_parts x1).1
        rcases k with _ | j
        · have hall2 := hid (all_snocH (unhid hall) (by rw [unhid HOk, x1, decide_eq_true (show lst hs 0 ≤ e.at_ from x2)]; rfl))
          have X1 := hid x1
          clear x1
          obtain ⟨c0, c1⟩ := unhid HCK wr (unhid HB)
          simp only [Nat.zero_mul, Nat.add_zero] at c0 c1
          have hbw := Nat.lt_of_lt_of_le hbl (unhid HB).size
          have g0 := BW.cell (B := wr.heap.size) hbw c0
          have g1 := BW.cell (B := wr.heap.size) hbw c1
          clear c0 c1
          go_wp2_with fail
          have hba := @BW.all wr.heap.size wr
          refine calm_region wr.heap.size (by kernel_rfl) (by kernel_rfl) ?_
          repeat (go_big_quiet_step ((go_at_call 45; refine Calls.bw (v := .bool true) (Nat.le_refl _) ((l5Hunk_any e la lc _ (unhid Z2) (unhid Z1) ((unhid HT).below ((unhid HB).trans ((BW.h _).mono (unhid HB).size)))).mono ?_); rintro r w2 ⟨rfl, hb⟩; exact ⟨by rw [unhid HX], hb⟩)))
          refine wpQuiet_nil ?_
          intro _ hw
          obtain ⟨⟨w2, hB2⟩, hw⟩ := hw
          subst hw
          have HB2 := hid ((unhid HB).trans (hB2.mono (unhid HB).size))
          clear hB2 hba g0 g1
          all_goals
            go_wp2_with fail
            go_roundw
            case rel => exact ⟨1, by omega, by go_num, hall2, unhid HB2⟩
            case measure => simp [intOf]; omega
        · obtain ⟨p, hpj⟩ : ∃ p, hs[j]? = some p := ⟨hs[j], List.getElem?_eq_getElem (by omega)⟩
          obtain ⟨la2, lc2, p0, p1, ht2⟩ := unhid HC j p hpj
          obtain ⟨y1', y2'⟩ := unhid HZ p (List.mem_of_getElem? hpj)
          have HCJ := hid (fun (X : World) (hX : Below w.heap.size w X) => And.intro ((hX.cell (p := ⟨b, o + j * 2, .none⟩) hbl).trans p0) ((hX.cell (p := ⟨b, o + j * 2 + 1, .none⟩) hbl).trans p1))
          have hokp : hkB p = true := by
            have := unhid hall
            rw [List.range_succ, List.all_append, Bool.and_eq_true] at this
            have h2 := this.2
            simp only [List.all_cons, List.all_nil, Bool.and_true, okAt, Bool.and_eq_true, hkFn_get hpj] at h2
            exact h2.1
          have hlj : lst hs (j + 1) = p.at_ + (withX 45 p.lines).length := by show endH (hkFn hs j) = _; rw [hkFn_get hpj]; rfl
          obtain ⟨r1, r2, r3⟩ := hkB_parts hokp
          have hold : (oldX 43 p.lines).length = (withX 45 p.lines).length := by rw [old_with (fun x hx => List.all_eq_true.1 r3 x hx)]
          have HT2 := hid ht2
          have HY2 := hid (fun x hx => And.intro (linesB_pos r3 x hx) (y1' x hx))
          have HOLD := hid hold
          have HLJ := hid hlj
          have X1 := hid x1
          have hp1 := unhid HP
          rw [hlj] at hp1
          have hwn : (withX 45 p.lines).length ≤ 30 := Nat.le_trans (withX_len _ _) r2
          have hpl : p.lines.length ≤ 1048576 := by omega
          clear x1 p0 p1 ht2 y1' y2' hokp hlj r3 hold hpj r2
          obtain ⟨c0, c1⟩ := unhid HCK wr (unhid HB)
          obtain ⟨e0, e1⟩ := unhid HCJ wr (unhid HB)
          generalize hn : (withX 45 p.lines).length = n at *
          have HN2 := hid hn
          clear hn
          have hbw := Nat.lt_of_lt_of_le hbl (unhid HB).size
          have g0 : ∀ x : CW (fun w' => Below wr.heap.size wr w'), x.w.cell? ⟨b, o + (j + 1) * 2, none⟩ = some (.int .i64 e.at_) := fun x => (x.h.cell (p := ⟨b, o + (j + 1) * 2, .none⟩) hbw).trans c0
          have g1 : ∀ x : CW (fun w' => Below wr.heap.size wr w'), x.w.cell? ⟨b, o + (j + 1) * 2 + 1, none⟩ = some (.slice la e.lines.length lc) := fun x => (x.h.cell (p := ⟨b, o + (j + 1) * 2 + 1, .none⟩) hbw).trans c1
          have g2 : ∀ x : CW (fun w' => Below wr.heap.size wr w'), x.w.cell? ⟨b, o + j * 2, none⟩ = some (.int .i64 p.at_) := fun x => (x.h.cell (p := ⟨b, o + j * 2, .none⟩) hbw).trans e0
          have g3 : ∀ x : CW (fun w' => Below wr.heap.size wr w'), x.w.cell? ⟨b, o + j * 2 + 1, none⟩ = some (.slice la2 p.lines.length lc2) := fun x => (x.h.cell (p := ⟨b, o + j * 2 + 1, .none⟩) hbw).trans e1
          clear c0 c1 e0 e1
          go_wp2_with fail
          have hba : ∀ {q : Prop}, (CW (fun w' => Below wr.heap.size wr w') → q) ↔ q := CW.all (Below.refl _ wr)
          refine held_begin (fun w' => Below wr.heap.size wr w') (by kernel_rfl) (drew_belowX _) ?_
          refine held_take [true, true, true, true] (by kernel_rfl) (by kernel_rfl) (fun _ _ _ _ _ h => h) (drew_belowX _) ?_
          dsimp only [pick]
          repeat (go_big_quiet_step (fail))
          refine wpQuiet_nil ?_
          intro x1
          refine held_call 4 45 14 (enters_of Try.func45 (by kernel_rfl) rfl) #[.agg #[.int .i64 e.at_, .slice la e.lines.length lc]] (by kernel_rfl) (by kernel_rfl) rfl rfl rfl rfl rfl ?_
          refine (l5Hunk_any e la lc _ (unhid Z2) (unhid Z1) ((unhid HT).below ((unhid HB).trans (x1.h.mono (unhid HB).size)))).mono ?_
          rintro r w2 ⟨rfl, hb⟩
          rw [unhid HX]
          refine ⟨_, rfl, x1.h.trans (hb.mono x1.h.size), ?_⟩
          simp only [Act.put, List.setIfInBounds_toArray, List.set_cons_zero, List.set_cons_succ]
          have hB2 := x1.h.trans (hb.mono x1.h.size)
          clear hb
          have hjj : ((j + 1 : Nat) : Int) - 1 = (j : Int) := by omega
          by_cases hlt2 : e.at_ < p.at_ + n
          · have E := hid (unhid HN (by rw [unhid HOk, unhid HLJ, decide_eq_false (by omega), Bool.and_false]))
            refine held_take [false, false, false, false, false, true, true, true, true, true, true, true, true, true, true, true, true, true, true, true, true, true, true, true, true, true] (by kernel_rfl) (by kernel_rfl) (fun _ _ _ _ _ h => h) hB2 ?_
            dsimp only [pick]
            repeat (go_big_quiet_step (fail))
            refine wpQuiet_nil ?_
            intro x2
            refine held_call 26 46 36 (enters_of Try.func46 (by kernel_rfl) rfl) #[.agg #[.int .i64 p.at_, .slice la2 p.lines.length lc2]] (by kernel_rfl) (by kernel_rfl) rfl rfl rfl rfl rfl ?_
            refine (l5Old_any p la2 lc2 _ hpl (unhid HY2) ((unhid HT2).below ((unhid HB).trans (x2.h.mono (unhid HB).size)))).mono ?_
            rintro r w3 ⟨v, rfl, ho, hb⟩
            obtain ⟨va, vc, rfl⟩ := ownsRow_sliceX ho
            rw [unhid HOLD]
            refine ⟨_, rfl, x2.h.trans (hb.mono x2.h.size), ?_⟩
            simp only [Act.put, List.setIfInBounds_toArray, List.set_cons_zero, List.set_cons_succ]
            have hB3 := x2.h.trans (hb.mono x2.h.size)
            clear hb ho
            refine held_take [false, false, false, false, false, false, false, false, false, false, false, false, false, false, false, false, false, false, false, false, false, false, false, false, false, false, false, true, true, true, true, true] (by kernel_rfl) (by kernel_rfl) (fun _ _ _ _ _ h => h) hB3 ?_
            dsimp only [pick]
            repeat (go_big_quiet_step (fail))
            refine wpQuiet_nil ?_
            intro x3
            refine held_done (by kernel_rfl) ?_
            have HB2 := hid ((unhid HB).trans (x3.h.mono (unhid HB).size))
            generalize x3.w = w9 at HB2 ⊢
            clear hba g0 g1 g2 g3
            go_wp2_with fail
            go_ret
            exact ⟨by rw [unhid E]; rfl, unhid HB2⟩
          · have hall2 := hid (all_snocH (unhid hall) (by rw [unhid HOk, unhid HLJ, unhid X1, decide_eq_true (by omega)]; rfl))
            refine held_take [false, false, false, false, false, true, true, true, true, true, true, true, true, true, true, true, true, true, true, true, true, true, true, true, true, true] (by kernel_rfl) (by kernel_rfl) (fun _ _ _ _ _ h => h) hB2 ?_
            dsimp only [pick]
            repeat (go_big_quiet_step (fail))
            refine wpQuiet_nil ?_
            intro x2
            refine held_call 26 46 36 (enters_of Try.func46 (by kernel_rfl) rfl) #[.agg #[.int .i64 p.at_, .slice la2 p.lines.length lc2]] (by kernel_rfl) (by kernel_rfl) rfl rfl rfl rfl rfl ?_
            refine (l5Old_any p la2 lc2 _ hpl (unhid HY2) ((unhid HT2).below ((unhid HB).trans (x2.h.mono (unhid HB).size)))).mono ?_
            rintro r w3 ⟨v, rfl, ho, hb⟩
            obtain ⟨va, vc, rfl⟩ := ownsRow_sliceX ho
            rw [unhid HOLD]
            refine ⟨_, rfl, x2.h.trans (hb.mono x2.h.size), ?_⟩
            simp only [Act.put, List.setIfInBounds_toArray, List.set_cons_zero, List.set_cons_succ]
            have hB3 := x2.h.trans (hb.mono x2.h.size)
            clear hb ho
            refine held_take [false, false, false, false, false, false, false, false, false, false, false, false, false, false, false, false, false, false, false, false, false, false, false, false, false, false, false, true, true, true, true, true] (by kernel_rfl) (by kernel_rfl) (fun _ _ _ _ _ h => h) hB3 ?_
            dsimp only [pick]
            repeat (go_big_quiet_step (fail))
            refine wpQuiet_nil ?_
            intro x3
            refine held_done (by kernel_rfl) ?_
            have HB2 := hid ((unhid HB).trans (x3.h.mono (unhid HB).size))
            generalize x3.w = w9 at HB2 ⊢
            clear hba g0 g1 g2 g3
            go_wp2_with fail
            go_roundw
            case rel => exact ⟨j + 1 + 1, by omega, by go_num, hall2, unhid HB2⟩
            case measure => simp [intOf]; omega
    · have e : k = hs.length := by omega
      subst e
      have E := hid (show hunksB hs = decide ((hs.length : Int) ≤ 4) by unfold hunksB; rw [unhid hall, Bool.true_and])
      go_wp2_with fail
      go_ret
      exact ⟨by rw [unhid E]; rfl, hB⟩
end Go.Proofs.Ytedimkcnemhhpaa
