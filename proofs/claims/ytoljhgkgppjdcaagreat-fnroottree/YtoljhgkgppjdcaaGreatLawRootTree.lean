/- What is in a root's tree is of one pack, or a dir. -/
import Derived.Test.YtoljhgkgppjdcaaGreatJoin16
import Derived.Deep.CutBlock
namespace Go.Proofs.YtoljhgkgppjdcaaGreat
open Go.ChangeShapes Go.WideShapes Go.ChangeAt Go.RowKit Go.Shelf

set_option maxRecDepth 100000 in
set_option maxHeartbeats 16000000 in
theorem walk_FnRootTree (a0 : Option Addr) (len0 cap0 : Nat) (w : World) (h0 : Code w w.heap.size a0 len0) (hc0 : len0 ≤ cap0) :
    Calls Tryz.prog 3 #[.slice a0 len0 cap0] w fun e w' => e = .returned (.bool true) ∧ Below w.heap.size w w' := by
  have H0 := hid h0
  clear h0
  by_cases hl0 : (1048576 : Int) < len0
  · go_enter Tryz.func3, Tryz.ntmps3
    go_wp2_with fail
    go_ret
    exact ⟨rfl, Below.refl _ _⟩
  go_enter Tryz.func3, Tryz.ntmps3
  have K := hid (KW.start w)
  go_wp2_with fail
  refine (DrawRootTree_any w a0 len0 cap0 (code_on (unhid H0) ((unhid K).now)) (by omega) hc0).mono ?_
  rintro e W1 ⟨v, ps, rfl, hD, hb⟩
  obtain ⟨ra, rc, rfl, hr⟩ := dr_rr hD
  have K := hid ((unhid K).step hb)
  have K := hid ((unhid K).row hr)
  have Dr := hid hD.ok
  clear hb hr hD
  go_wp2_with fail
  have hx0 := World.alloc_heap_new W1 (.cells #[.slice ra ps.length rc] 25)
  have hb := (Below.refl W1.heap.size W1).alloc (Nat.le_refl _) (.cells #[.slice ra ps.length rc] 25)
  generalize (W1.alloc (.cells #[.slice ra ps.length rc] 25)) = W2 at hx0 hb ⊢
  have K := hid ((unhid K).step hb)
  have K := hid ((unhid K).box hx0)
  clear hb hx0
  refine (tree_r ((unhid K).now.1.2)).mono ?_
  rintro e W3 ⟨ta, tc, rfl, hr, hb⟩
  have K := hid ((unhid K).step hb)
  clear hb
  have K := hid ((unhid K).ents hr)
  clear hr
  obtain ⟨ok, HOK⟩ : ∃ b, Hid (rootOk_0 ⟨ps⟩ = b) := ⟨_, hid rfl⟩
  cases ok
  case false =>
    have Brk0 : ∀ x : CW (fun w' => Below W3.heap.size W3 w'), x.w.cell? ⟨W1.heap.size, 0, none⟩ = some (.slice ra ps.length rc) := fun x => cell_arrS ((x.h.block _ (Array.getElem?_eq_some_iff.1 ((unhid K).now.1.2)).1).trans ((unhid K).now.1.2)) 0 _ rfl
    have hba : ∀ {q : Prop}, (CW (fun w' => Below W3.heap.size W3 w') → q) ↔ q := CW.all (Below.refl _ W3)
    go_wp2_with fail
    refine held_begin (fun w' => Below W3.heap.size W3 w') (by kernel_rfl) (drew_belowS _) ?_
    have HC := hid (drew_belowS (B := W3.heap.size) W3)
    refine held_here [true, true] (by kernel_rfl) (by kernel_rfl) (fun _ _ _ _ _ h => h) (unhid HC) ?_
    dsimp only [pick]
    repeat (go_big_quiet_step (fail))
    refine wpQuiet_nil ?_
    have hb := unhid HC
    generalize W3.drew = W4 at HC hb ⊢
    have K := hid ((unhid K).step hb)
    clear hb
    refine held_call 2 16 19 (enters_of Tryz.func16 (by kernel_rfl) rfl) #[.agg #[.slice ra ps.length rc]] (by kernel_rfl) (by kernel_rfl) rfl rfl rfl rfl rfl ?_
    refine (specTree_r ((unhid K).now.1.1.2)).mono ?_
    rintro x W5 ⟨sa, sc, rfl, hr, hb⟩
    have K := hid ((unhid K).step hb)
    have HC := hid ((unhid HC).trans (hb.mono (unhid HC).size))
    have K := hid ((unhid K).ents hr)
    refine ⟨_, rfl, unhid HC, ?_⟩
    simp only [Act.put, List.setIfInBounds_toArray, List.set_cons_zero, List.set_cons_succ]
    clear hb hr
    refine held_call 3 15 20 (enters_of Tryz.func15 (by kernel_rfl) rfl) #[.slice ta (rootTreeE ⟨ps⟩).length tc, .slice sa (rootTreeE ⟨ps⟩).length sc] (by kernel_rfl) (by kernel_rfl) rfl rfl rfl rfl rfl ?_
    refine (jsTree_r ((unhid K).now.1.2) ((unhid K).now.2)).mono ?_
    rintro x W6 ⟨rfl, hb⟩
    have K := hid ((unhid K).step hb)
    have HC := hid ((unhid HC).trans (hb.mono (unhid HC).size))
    refine ⟨_, rfl, unhid HC, ?_⟩
    simp only [Act.put, List.setIfInBounds_toArray, List.set_cons_zero, List.set_cons_succ]
    clear hb
    refine held_here [false, false, false, false, true, true, true, false, true] (by kernel_rfl) (by kernel_rfl) (fun _ _ _ _ _ h => h) (unhid HC) ?_
    dsimp only [pick]
    repeat (go_big_quiet_step (fail))
    refine wpQuiet_nil ?_
    refine held_call 7 17 24 (enters_of Tryz.func17 (by kernel_rfl) rfl) #[.agg #[.slice ra ps.length rc]] (by kernel_rfl) (by kernel_rfl) rfl rfl rfl rfl rfl ?_
    refine (show Calls Tryz.prog 17 #[.agg #[.slice ra ps.length rc]] W6 fun x w' => x = .returned (.bool false) ∧ Below W6.heap.size W6 w' from (implOk_r ((unhid K).now.1.1.1.2)).mono (fun _ _ h => ⟨by rw [h.1, unhid HOK], h.2⟩)).mono ?_
    rintro x W7 ⟨rfl, hb⟩
    have K := hid ((unhid K).step hb)
    have HC := hid ((unhid HC).trans (hb.mono (unhid HC).size))
    refine ⟨_, rfl, unhid HC, ?_⟩
    simp only [Act.put, List.setIfInBounds_toArray, List.set_cons_zero, List.set_cons_succ]
    clear hb
    refine held_call 9 18 26 (enters_of Tryz.func18 (by kernel_rfl) rfl) #[.agg #[.slice ra ps.length rc]] (by kernel_rfl) (by kernel_rfl) rfl rfl rfl rfl rfl ?_
    refine (show Calls Tryz.prog 18 #[.agg #[.slice ra ps.length rc]] W7 fun x w' => x = .returned (.bool false) ∧ Below W7.heap.size W7 w' from (specOk_r ((unhid K).now.1.1.1.2)).mono (fun _ _ h => ⟨by rw [h.1, unhid HOK], h.2⟩)).mono ?_
    rintro x W8 ⟨rfl, hb⟩
    have K := hid ((unhid K).step hb)
    have HC := hid ((unhid HC).trans (hb.mono (unhid HC).size))
    refine ⟨_, rfl, unhid HC, ?_⟩
    simp only [Act.put, List.setIfInBounds_toArray, List.set_cons_zero, List.set_cons_succ]
    clear hb
    refine held_here [false, false, false, false, false, false, false, false, false, false, true, true, true, true] (by kernel_rfl) (by kernel_rfl) (fun _ _ _ _ _ h => h) (unhid HC) ?_
    dsimp only [pick]
    repeat (go_big_quiet_step (fail))
    refine wpQuiet_nil ?_
    refine held_call 14 18 31 (enters_of Tryz.func18 (by kernel_rfl) rfl) #[.agg #[.slice ra ps.length rc]] (by kernel_rfl) (by kernel_rfl) rfl rfl rfl rfl rfl ?_
    refine (show Calls Tryz.prog 18 #[.agg #[.slice ra ps.length rc]] W8 fun x w' => x = .returned (.bool false) ∧ Below W8.heap.size W8 w' from (specOk_r ((unhid K).now.1.1.1.2)).mono (fun _ _ h => ⟨by rw [h.1, unhid HOK], h.2⟩)).mono ?_
    rintro x W9 ⟨rfl, hb⟩
    have K := hid ((unhid K).step hb)
    have HC := hid ((unhid HC).trans (hb.mono (unhid HC).size))
    refine ⟨_, rfl, unhid HC, ?_⟩
    simp only [Act.put, List.setIfInBounds_toArray, List.set_cons_zero, List.set_cons_succ]
    clear hb
    refine held_here [false, false, false, false, false, false, false, false, false, false, false, false, false, false, false, true, true] (by kernel_rfl) (by kernel_rfl) (fun _ _ _ _ _ h => h) (unhid HC) ?_
    dsimp only [pick]
    repeat (go_big_quiet_step (fail))
    refine wpQuiet_nil ?_
    refine held_done (by kernel_rfl) ?_
    clear hba HC Brk0
    have Brk0 : ∀ x : CW (fun w' => Below W9.heap.size W9 w'), x.w.cell? ⟨W1.heap.size, 0, none⟩ = some (.slice ra ps.length rc) := fun x => cell_arrS ((x.h.block _ (Array.getElem?_eq_some_iff.1 ((unhid K).now.1.1.2)).1).trans ((unhid K).now.1.1.2)) 0 _ rfl
    have hba : ∀ {q : Prop}, (CW (fun w' => Below W9.heap.size W9 w') → q) ↔ q := CW.all (Below.refl _ W9)
    go_wp2_with fail
    refine held_begin (fun w' => Below W9.heap.size W9 w') (by kernel_rfl) (drew_belowS _) ?_
    have HC := hid (drew_belowS (B := W9.heap.size) W9)
    refine held_here [true, true] (by kernel_rfl) (by kernel_rfl) (fun _ _ _ _ _ h => h) (unhid HC) ?_
    dsimp only [pick]
    repeat (go_big_quiet_step (fail))
    refine wpQuiet_nil ?_
    have hb := unhid HC
    generalize W9.drew = W10 at HC hb ⊢
    have K := hid ((unhid K).step hb)
    clear hb
    refine held_call 2 16 36 (enters_of Tryz.func16 (by kernel_rfl) rfl) #[.agg #[.slice ra ps.length rc]] (by kernel_rfl) (by kernel_rfl) rfl rfl rfl rfl rfl ?_
    refine (specTree_r ((unhid K).now.1.1.1.2)).mono ?_
    rintro x W11 ⟨ua, uc, rfl, hr, hb⟩
    have K := hid ((unhid K).step hb)
    have HC := hid ((unhid HC).trans (hb.mono (unhid HC).size))
    have K := hid ((unhid K).ents hr)
    refine ⟨_, rfl, unhid HC, ?_⟩
    simp only [Act.put, List.setIfInBounds_toArray, List.set_cons_zero, List.set_cons_succ]
    clear hb hr
    refine held_call 3 15 37 (enters_of Tryz.func15 (by kernel_rfl) rfl) #[.slice ta (rootTreeE ⟨ps⟩).length tc, .slice ua (rootTreeE ⟨ps⟩).length uc] (by kernel_rfl) (by kernel_rfl) rfl rfl rfl rfl rfl ?_
    refine (jsTree_r ((unhid K).now.1.1.2) ((unhid K).now.2)).mono ?_
    rintro x W12 ⟨rfl, hb⟩
    have K := hid ((unhid K).step hb)
    have HC := hid ((unhid HC).trans (hb.mono (unhid HC).size))
    refine ⟨_, rfl, unhid HC, ?_⟩
    simp only [Act.put, List.setIfInBounds_toArray, List.set_cons_zero, List.set_cons_succ]
    clear hb
    refine held_here [false, false, false, false, true, true, false, true] (by kernel_rfl) (by kernel_rfl) (fun _ _ _ _ _ h => h) (unhid HC) ?_
    dsimp only [pick]
    repeat (go_big_quiet_step (fail))
    refine wpQuiet_nil ?_
    refine held_call 6 17 40 (enters_of Tryz.func17 (by kernel_rfl) rfl) #[.agg #[.slice ra ps.length rc]] (by kernel_rfl) (by kernel_rfl) rfl rfl rfl rfl rfl ?_
    refine (show Calls Tryz.prog 17 #[.agg #[.slice ra ps.length rc]] W12 fun x w' => x = .returned (.bool false) ∧ Below W12.heap.size W12 w' from (implOk_r ((unhid K).now.1.1.1.1.2)).mono (fun _ _ h => ⟨by rw [h.1, unhid HOK], h.2⟩)).mono ?_
    rintro x W13 ⟨rfl, hb⟩
    have K := hid ((unhid K).step hb)
    have HC := hid ((unhid HC).trans (hb.mono (unhid HC).size))
    refine ⟨_, rfl, unhid HC, ?_⟩
    simp only [Act.put, List.setIfInBounds_toArray, List.set_cons_zero, List.set_cons_succ]
    clear hb
    refine held_call 8 18 42 (enters_of Tryz.func18 (by kernel_rfl) rfl) #[.agg #[.slice ra ps.length rc]] (by kernel_rfl) (by kernel_rfl) rfl rfl rfl rfl rfl ?_
    refine (show Calls Tryz.prog 18 #[.agg #[.slice ra ps.length rc]] W13 fun x w' => x = .returned (.bool false) ∧ Below W13.heap.size W13 w' from (specOk_r ((unhid K).now.1.1.1.1.2)).mono (fun _ _ h => ⟨by rw [h.1, unhid HOK], h.2⟩)).mono ?_
    rintro x W14 ⟨rfl, hb⟩
    have K := hid ((unhid K).step hb)
    have HC := hid ((unhid HC).trans (hb.mono (unhid HC).size))
    refine ⟨_, rfl, unhid HC, ?_⟩
    simp only [Act.put, List.setIfInBounds_toArray, List.set_cons_zero, List.set_cons_succ]
    clear hb
    refine held_here [false, false, false, false, false, false, false, false, false, true, true, true] (by kernel_rfl) (by kernel_rfl) (fun _ _ _ _ _ h => h) (unhid HC) ?_
    dsimp only [pick]
    repeat (go_big_quiet_step (fail))
    refine wpQuiet_nil ?_
    refine held_done (by kernel_rfl) ?_
    clear hba HC Brk0
    have Brk0 := cell_arrS ((unhid K).now.1.1.1.2) 0 _ rfl
    go_wp2_with fail
    clear Brk0
    go_ret
    exact ⟨rfl, (unhid K).now.1.1.1.1.1⟩
  case true =>
    have Brk0 : ∀ x : CW (fun w' => Below W3.heap.size W3 w'), x.w.cell? ⟨W1.heap.size, 0, none⟩ = some (.slice ra ps.length rc) := fun x => cell_arrS ((x.h.block _ (Array.getElem?_eq_some_iff.1 ((unhid K).now.1.2)).1).trans ((unhid K).now.1.2)) 0 _ rfl
    have hba : ∀ {q : Prop}, (CW (fun w' => Below W3.heap.size W3 w') → q) ↔ q := CW.all (Below.refl _ W3)
    go_wp2_with fail
    refine held_begin (fun w' => Below W3.heap.size W3 w') (by kernel_rfl) (drew_belowS _) ?_
    have HC := hid (drew_belowS (B := W3.heap.size) W3)
    refine held_here [true, true] (by kernel_rfl) (by kernel_rfl) (fun _ _ _ _ _ h => h) (unhid HC) ?_
    dsimp only [pick]
    repeat (go_big_quiet_step (fail))
    refine wpQuiet_nil ?_
    have hb := unhid HC
    generalize W3.drew = W15 at HC hb ⊢
    have K := hid ((unhid K).step hb)
    clear hb
    refine held_call 2 16 19 (enters_of Tryz.func16 (by kernel_rfl) rfl) #[.agg #[.slice ra ps.length rc]] (by kernel_rfl) (by kernel_rfl) rfl rfl rfl rfl rfl ?_
    refine (specTree_r ((unhid K).now.1.1.2)).mono ?_
    rintro x W16 ⟨sa, sc, rfl, hr, hb⟩
    have K := hid ((unhid K).step hb)
    have HC := hid ((unhid HC).trans (hb.mono (unhid HC).size))
    have K := hid ((unhid K).ents hr)
    refine ⟨_, rfl, unhid HC, ?_⟩
    simp only [Act.put, List.setIfInBounds_toArray, List.set_cons_zero, List.set_cons_succ]
    clear hb hr
    refine held_call 3 15 20 (enters_of Tryz.func15 (by kernel_rfl) rfl) #[.slice ta (rootTreeE ⟨ps⟩).length tc, .slice sa (rootTreeE ⟨ps⟩).length sc] (by kernel_rfl) (by kernel_rfl) rfl rfl rfl rfl rfl ?_
    refine (jsTree_r ((unhid K).now.1.2) ((unhid K).now.2)).mono ?_
    rintro x W17 ⟨rfl, hb⟩
    have K := hid ((unhid K).step hb)
    have HC := hid ((unhid HC).trans (hb.mono (unhid HC).size))
    refine ⟨_, rfl, unhid HC, ?_⟩
    simp only [Act.put, List.setIfInBounds_toArray, List.set_cons_zero, List.set_cons_succ]
    clear hb
    refine held_here [false, false, false, false, true, true, true, false, true] (by kernel_rfl) (by kernel_rfl) (fun _ _ _ _ _ h => h) (unhid HC) ?_
    dsimp only [pick]
    repeat (go_big_quiet_step (fail))
    refine wpQuiet_nil ?_
    refine held_call 7 17 24 (enters_of Tryz.func17 (by kernel_rfl) rfl) #[.agg #[.slice ra ps.length rc]] (by kernel_rfl) (by kernel_rfl) rfl rfl rfl rfl rfl ?_
    refine (show Calls Tryz.prog 17 #[.agg #[.slice ra ps.length rc]] W17 fun x w' => x = .returned (.bool true) ∧ Below W17.heap.size W17 w' from (implOk_r ((unhid K).now.1.1.1.2)).mono (fun _ _ h => ⟨by rw [h.1, unhid HOK], h.2⟩)).mono ?_
    rintro x W18 ⟨rfl, hb⟩
    have K := hid ((unhid K).step hb)
    have HC := hid ((unhid HC).trans (hb.mono (unhid HC).size))
    refine ⟨_, rfl, unhid HC, ?_⟩
    simp only [Act.put, List.setIfInBounds_toArray, List.set_cons_zero, List.set_cons_succ]
    clear hb
    refine held_call 9 18 26 (enters_of Tryz.func18 (by kernel_rfl) rfl) #[.agg #[.slice ra ps.length rc]] (by kernel_rfl) (by kernel_rfl) rfl rfl rfl rfl rfl ?_
    refine (show Calls Tryz.prog 18 #[.agg #[.slice ra ps.length rc]] W18 fun x w' => x = .returned (.bool true) ∧ Below W18.heap.size W18 w' from (specOk_r ((unhid K).now.1.1.1.2)).mono (fun _ _ h => ⟨by rw [h.1, unhid HOK], h.2⟩)).mono ?_
    rintro x W19 ⟨rfl, hb⟩
    have K := hid ((unhid K).step hb)
    have HC := hid ((unhid HC).trans (hb.mono (unhid HC).size))
    refine ⟨_, rfl, unhid HC, ?_⟩
    simp only [Act.put, List.setIfInBounds_toArray, List.set_cons_zero, List.set_cons_succ]
    clear hb
    refine held_here [false, false, false, false, false, false, false, false, false, false, true, true, true, true] (by kernel_rfl) (by kernel_rfl) (fun _ _ _ _ _ h => h) (unhid HC) ?_
    dsimp only [pick]
    repeat (go_big_quiet_step (fail))
    refine wpQuiet_nil ?_
    refine held_call 14 18 31 (enters_of Tryz.func18 (by kernel_rfl) rfl) #[.agg #[.slice ra ps.length rc]] (by kernel_rfl) (by kernel_rfl) rfl rfl rfl rfl rfl ?_
    refine (show Calls Tryz.prog 18 #[.agg #[.slice ra ps.length rc]] W19 fun x w' => x = .returned (.bool true) ∧ Below W19.heap.size W19 w' from (specOk_r ((unhid K).now.1.1.1.2)).mono (fun _ _ h => ⟨by rw [h.1, unhid HOK], h.2⟩)).mono ?_
    rintro x W20 ⟨rfl, hb⟩
    have K := hid ((unhid K).step hb)
    have HC := hid ((unhid HC).trans (hb.mono (unhid HC).size))
    refine ⟨_, rfl, unhid HC, ?_⟩
    simp only [Act.put, List.setIfInBounds_toArray, List.set_cons_zero, List.set_cons_succ]
    clear hb
    refine held_here [false, false, false, false, false, false, false, false, false, false, false, false, false, false, false, true, true] (by kernel_rfl) (by kernel_rfl) (fun _ _ _ _ _ h => h) (unhid HC) ?_
    dsimp only [pick]
    repeat (go_big_quiet_step (fail))
    refine wpQuiet_nil ?_
    refine held_done (by kernel_rfl) ?_
    clear hba HC Brk0
    have HT := hid (fun x hx => tree_law (unhid HOK) (x := x) hx)
    have HPK := hid ((code_iff ps).1 (ok_0.1 (unhid HOK))).1
    have hsm : (rootTreeE ⟨ps⟩).length ≤ 1048576 := ((unhid K).now.1.2).small.1
    have hfew : ps.length ≤ 100 := ((unhid K).now.1.1.1.2).few
    have K := hid ((unhid K).mark)
    have Brk0 := cell_arrS ((unhid K).now.1.1.1.2) 0 _ rfl
    go_wp2_with fail
    clear Brk0
    go_loopw [5] (fun i wr => ∃ m : Nat, m ≤ (rootTreeE ⟨ps⟩).length ∧ i = .int .i64 (m : Int) ∧ Hid (Below W20.heap.size W20 wr)) (fun i _ => (rootTreeE ⟨ps⟩).length - (intOf i).toNat)
    case atStart => exact ⟨0, Nat.zero_le _, rfl, hid (Below.refl _ _)⟩
    case round =>
      obtain ⟨m, hm, rfl, HBr⟩ := hrel
      have hb := unhid HBr
      have K := hid ((unhid K).step hb)
      clear hb HBr
      by_cases hlm : m < (rootTreeE ⟨ps⟩).length
      · have hne0 : rootTreeE ⟨ps⟩ ≠ [] := by intro e; rw [e] at hlm; simp at hlm
        obtain ⟨x, he⟩ : ∃ x, (rootTreeE ⟨ps⟩)[m]? = some x := ⟨(rootTreeE ⟨ps⟩)[m], List.getElem?_eq_getElem hlm⟩
        obtain ⟨eb, eo, hta, hbl, hc⟩ := ((unhid K).now.1.1.2).ents.get hne0
        have hce := hc m x he
        subst hta
        have K := hid ((unhid K).ent hbl hce)
        have HX := hid ((unhid HT) x (List.mem_of_getElem? he))
        clear hc hne0 hbl hce he
        have K := hid ((unhid K).mark)
        have Brk0 := cell_arrS ((unhid K).now.1.1.1.1.1.2) 0 _ rfl
        have Eek0 := ((unhid K).now.1.2).2.c0
        have Eek1 := ((unhid K).now.1.2).2.c1
        have Eek2 := ((unhid K).now.1.2).2.c2
        have Eek3 := ((unhid K).now.1.2).2.c3
        go_wp2_with fail
        clear Brk0 Eek0 Eek1 Eek2 Eek3
        go_loopw [6, 7] (fun c i wx => ∃ k : Nat, k ≤ ps.length ∧ c = .int .i64 ((cntP x (ps.take k) : Nat) : Int) ∧ i = .int .i64 (k : Int) ∧ Hid (Below wr.heap.size wr wx)) (fun _ i _ => ps.length - (intOf i).toNat)
        case atStart => exact ⟨0, Nat.zero_le _, rfl, rfl, hid (Below.refl _ _)⟩
        case round =>
          obtain ⟨k, hk, rfl, rfl, HBi⟩ := hrel
          have hb := unhid HBi
          have K := hid ((unhid K).step hb)
          clear hb HBi
          by_cases hlt : k < ps.length
          · obtain ⟨p, hp⟩ : ∃ p, ps[k]? = some p := ⟨ps[k], List.getElem?_eq_getElem hlt⟩
            obtain ⟨pb, po, na, nc, sta, stc, hra, hpa⟩ := RR.get ((unhid K).now.1.1.1.1.1.1.2) hp
            subst hra
            have K := hid ((unhid K).pa hpa)
            clear hpa
            have hcn := cntP_take (x := x) hp
            have hcb : cntP x (ps.take k) ≤ 100 := Nat.le_trans (cntP_le _ _) (by rw [List.length_take]; omega)
            have HQ := hid (And.intro ((unhid HX).1 p (List.mem_of_getElem? hp)) ((unhid HPK) p (List.mem_of_getElem? hp)))
            clear hp
            generalize hcg : cntP x (ps.take k) = cn at hcn hcb
            clear hcg
            have HCN := hid hcn
            clear hcn
            obtain ⟨y, HY⟩ : ∃ y, Hid (gotE (treeOfP p) x.path = y) := ⟨_, hid rfl⟩
            have Brk0 := cell_arrS ((unhid K).now.1.1.1.1.1.1.2) 0 _ rfl
            have Eek0 := ((unhid K).now.1.1.2).2.c0
            have Eek1 := ((unhid K).now.1.1.2).2.c1
            have Eek2 := ((unhid K).now.1.1.2).2.c2
            have Eek3 := ((unhid K).now.1.1.2).2.c3
            have Pak0 := ((unhid K).now.2).c3
            go_upto_region 14 with fail
            go_cut [8, 9] from 58 to 72 (fun s8 s9 wx => ∃ (g : Nat), s8 = .pointer (some ⟨g, 0, none⟩) ∧ s9 = .bool (hasP x p) ∧ Hid (Below wr.heap.size wr wx) ∧ Hid (wx.heap[g]? = some (.cells #[.string y.path, .int .i64 y.kind, .int .i64 y.mode, .string y.text] 32 (0, 0))))
            case first =>
              have Brk0 : ∀ xw : CW (fun w' => Below wr.heap.size wr w'), xw.w.cell? ⟨W1.heap.size, 0, none⟩ = some (.slice (some ⟨pb, po, none⟩) ps.length rc) := fun xw => cell_arrS ((xw.h.block _ (Array.getElem?_eq_some_iff.1 ((unhid K).now.1.1.1.1.1.1.2)).1).trans ((unhid K).now.1.1.1.1.1.1.2)) 0 _ rfl
              have Eek0 : ∀ xw : CW (fun w' => Below wr.heap.size wr w'), xw.w.cell? ⟨eb, eo + m * 4, none⟩ = some (.string x.path) := fun xw => (xw.h.cell (p := ⟨eb, eo + m * 4, none⟩) ((unhid K).now.1.1.2).1).trans ((unhid K).now.1.1.2).2.c0
              have Eek1 : ∀ xw : CW (fun w' => Below wr.heap.size wr w'), xw.w.cell? ⟨eb, eo + m * 4 + 1, none⟩ = some (.int .i64 x.kind) := fun xw => (xw.h.cell (p := ⟨eb, eo + m * 4 + 1, none⟩) ((unhid K).now.1.1.2).1).trans ((unhid K).now.1.1.2).2.c1
              have Eek2 : ∀ xw : CW (fun w' => Below wr.heap.size wr w'), xw.w.cell? ⟨eb, eo + m * 4 + 2, none⟩ = some (.int .i64 x.mode) := fun xw => (xw.h.cell (p := ⟨eb, eo + m * 4 + 2, none⟩) ((unhid K).now.1.1.2).1).trans ((unhid K).now.1.1.2).2.c2
              have Eek3 : ∀ xw : CW (fun w' => Below wr.heap.size wr w'), xw.w.cell? ⟨eb, eo + m * 4 + 3, none⟩ = some (.string x.text) := fun xw => (xw.h.cell (p := ⟨eb, eo + m * 4 + 3, none⟩) ((unhid K).now.1.1.2).1).trans ((unhid K).now.1.1.2).2.c3
              have Pak0 : ∀ xw : CW (fun w' => Below wr.heap.size wr w'), xw.w.cell? ⟨pb, po + k * 4 + 3, none⟩ = some (.slice sta (PackD.tree p).length stc) := fun xw => (xw.h.cell (p := ⟨pb, po + k * 4 + 3, none⟩) ((unhid K).now.2).lt).trans ((unhid K).now.2).c3
              have hba : ∀ {q : Prop}, (CW (fun w' => Below wr.heap.size wr w') → q) ↔ q := CW.all (Below.refl _ wr)
              refine held_begin (fun w' => Below wr.heap.size wr w') (by kernel_rfl) (drew_belowS _) ?_
              refine held_here [true, true, true, true, true, true, true, true, true, true, true] (by kernel_rfl) (by kernel_rfl) (fun _ _ _ _ _ h => h) (drew_belowS _) ?_
              dsimp only [pick]
              repeat (go_big_quiet_step (fail))
              refine wpQuiet_nil ?_
              clear hba Brk0 Eek0 Eek1 Eek2 Eek3 Pak0
              have HC := hid (drew_belowS (B := wr.heap.size) wr)
              generalize wr.drew = W21 at HC ⊢
              have K := hid ((unhid K).step (unhid HC))
              have Z0 := hid (unhid HC).size
              refine held_op2 11 15 (by kernel_rfl) (by kernel_rfl) rfl rfl (fun KK hK => ?_) (fun KK hK => ?_)
              · skip
                refine call_op 19 70 (enters_of Tryz.func19 (by kernel_rfl) rfl) #[.slice sta (PackD.tree p).length stc, .string x.path] rfl rfl rfl rfl ?_
                refine (show Calls Tryz.prog 19 _ W21 (fun r w' => r = .returned (.tuple #[.agg #[.string y.path, .int .i64 y.kind, .int .i64 y.mode, .string y.text], .bool (hasP x p)]) ∧ Below W21.heap.size W21 w') from by have := getP_r x (unhid HQ).2 ((unhid K).now.2).pr; rw [unhid HY] at this; exact this).mono ?_
                rintro r W22 ⟨rfl, hb⟩
                have HC := hid ((unhid HC).trans (hb.mono (unhid HC).size))
                have ZW22 := hid (show W21.heap.size ≤ W22.heap.size from hb.size)
                clear hb
                refine ⟨_, rfl, hK.out _ _ (unhid HC) ?_⟩
                simp only [Act.put, List.setIfInBounds_toArray, List.set_cons_zero, List.set_cons_succ]
                clear hK KK
                have hba : ∀ {q : Prop}, (CW (fun w' => Below wr.heap.size wr w') → q) ↔ q := CW.all (Below.refl _ wr)
                refine held_here [false, false, false, false, false, false, false, false, false, false, false, false, true, true, true] (by kernel_rfl) (by kernel_rfl) (fun _ _ _ _ _ h => h) (unhid HC) ?_
                dsimp only [pick]
                repeat (go_big_quiet_step (fail))
                refine wpQuiet_nil ?_
                clear hba
                refine held_op 15 (by kernel_rfl) (by kernel_rfl) rfl (fun KK hK => ?_)
                go_simp
                have hbx := World.alloc_heap_new W22 (.cells #[.string ⟨#[]⟩, .int .i64 0, .int .i64 0, .string ⟨#[]⟩] 32)
                have hb : Below W22.heap.size W22 (W22.alloc (.cells #[.string ⟨#[]⟩, .int .i64 0, .int .i64 0, .string ⟨#[]⟩] 32)) := (Below.refl _ W22).alloc (Nat.le_refl _) _
                have hlt : W22.heap.size < (W22.alloc (.cells #[.string ⟨#[]⟩, .int .i64 0, .int .i64 0, .string ⟨#[]⟩] 32)).heap.size := by simp
                refine hK.out _ _ ((unhid HC).trans (hb.mono (unhid HC).size)) ?_
                clear hK KK
                generalize W22.alloc (.cells #[.string ⟨#[]⟩, .int .i64 0, .int .i64 0, .string ⟨#[]⟩] 32) = W23 at hbx hb hlt ⊢
                have ZW23 := hid hlt
                have HC := hid ((unhid HC).trans (hb.mono (unhid HC).size))
                have HBX := hid hbx
                have HBL := hid hb
                clear hb hbx hlt
                obtain ⟨o0, p0⟩ := cell_fz (unhid HBX) 0 _ rfl
                obtain ⟨o1, p1⟩ := cell_fz (unhid HBX) 1 _ rfl
                obtain ⟨o2, p2⟩ := cell_fz (unhid HBX) 2 _ rfl
                obtain ⟨o3, p3⟩ := cell_fz (unhid HBX) 3 _ rfl
                refine held_op 16 (by kernel_rfl) (by kernel_rfl) rfl (fun KK hK => ?_)
                go_simp
                refine hK.out _ _ (set4_below (.string y.path) (.int .i64 y.kind) (.int .i64 y.mode) (.string y.text) (unhid HC) (show wr.heap.size ≤ W22.heap.size from by have oZ0 := unhid Z0; have oZW22 := unhid ZW22; have oZW23 := unhid ZW23; omega)) ?_
                clear hK KK o0 p0 o1 p1 o2 p2 o3 p3
                have HX4 := hid (set4_same W23 (W22.heap.size) _ _ _ _ _ (.string y.path) (.int .i64 y.kind) (.int .i64 y.mode) (.string y.text) (unhid HBX))
                have HC := hid (set4_below (.string y.path) (.int .i64 y.kind) (.int .i64 y.mode) (.string y.text) (unhid HC) (show wr.heap.size ≤ W22.heap.size from by have oZ0 := unhid Z0; have oZW22 := unhid ZW22; have oZW23 := unhid ZW23; omega))
                have hba : ∀ {q : Prop}, (CW (fun w' => Below wr.heap.size wr w') → q) ↔ q := CW.all (Below.refl _ wr)
                refine held_here [false, false, false, false, false, false, false, false, false, false, false, false, false, false, false, false, false, true] (by kernel_rfl) (by kernel_rfl) (fun _ _ _ _ _ h => h) (unhid HC) ?_
                dsimp only [pick]
                repeat (go_big_quiet_step (fail))
                refine wpQuiet_nil ?_
                clear hba
                refine held_done (by kernel_rfl) ?_
                go_wp2_with fail
                go_meet
                case rel => exact ⟨W22.heap.size, rfl, rfl, HC, HX4⟩
              · skip
                go_simp
                have hbx := World.alloc_heap_new W21 (.cells #[.string ⟨#[]⟩, .int .i64 0, .int .i64 0, .string ⟨#[]⟩] 32)
                have hb : Below W21.heap.size W21 (W21.alloc (.cells #[.string ⟨#[]⟩, .int .i64 0, .int .i64 0, .string ⟨#[]⟩] 32)) := (Below.refl _ W21).alloc (Nat.le_refl _) _
                have hlt : W21.heap.size < (W21.alloc (.cells #[.string ⟨#[]⟩, .int .i64 0, .int .i64 0, .string ⟨#[]⟩] 32)).heap.size := by simp
                refine hK.out _ _ ((unhid HC).trans (hb.mono (unhid HC).size)) ?_
                clear hK KK
                generalize W21.alloc (.cells #[.string ⟨#[]⟩, .int .i64 0, .int .i64 0, .string ⟨#[]⟩] 32) = W24 at hbx hb hlt ⊢
                have ZW24 := hid hlt
                have HC := hid ((unhid HC).trans (hb.mono (unhid HC).size))
                have HBX := hid hbx
                have K := hid ((unhid K).step hb)
                clear hb hbx hlt
                refine held_call 11 19 70 (enters_of Tryz.func19 (by kernel_rfl) rfl) #[.slice sta (PackD.tree p).length stc, .string x.path] (by kernel_rfl) (by kernel_rfl) rfl rfl rfl rfl rfl ?_
                refine (show Calls Tryz.prog 19 _ W24 (fun r w' => r = .returned (.tuple #[.agg #[.string y.path, .int .i64 y.kind, .int .i64 y.mode, .string y.text], .bool (hasP x p)]) ∧ Below W24.heap.size W24 w') from by have := getP_r x (unhid HQ).2 ((unhid K).now.2).pr; rw [unhid HY] at this; exact this).mono ?_
                rintro r W25 ⟨rfl, hb⟩
                have HBX := hid ((hb.block _ (by have oZ0 := unhid Z0; have oZW24 := unhid ZW24; omega)).trans (unhid HBX))
                have HC := hid ((unhid HC).trans (hb.mono (unhid HC).size))
                have ZW25 := hid (show W24.heap.size ≤ W25.heap.size from hb.size)
                clear hb
                refine ⟨_, rfl, unhid HC, ?_⟩
                simp only [Act.put, List.setIfInBounds_toArray, List.set_cons_zero, List.set_cons_succ]
                have hba : ∀ {q : Prop}, (CW (fun w' => Below wr.heap.size wr w') → q) ↔ q := CW.all (Below.refl _ wr)
                refine held_here [false, false, false, false, false, false, false, false, false, false, false, false, true, true, true] (by kernel_rfl) (by kernel_rfl) (fun _ _ _ _ _ h => h) (unhid HC) ?_
                dsimp only [pick]
                repeat (go_big_quiet_step (fail))
                refine wpQuiet_nil ?_
                clear hba
                obtain ⟨o0, p0⟩ := cell_fz (unhid HBX) 0 _ rfl
                obtain ⟨o1, p1⟩ := cell_fz (unhid HBX) 1 _ rfl
                obtain ⟨o2, p2⟩ := cell_fz (unhid HBX) 2 _ rfl
                obtain ⟨o3, p3⟩ := cell_fz (unhid HBX) 3 _ rfl
                refine held_op 16 (by kernel_rfl) (by kernel_rfl) rfl (fun KK hK => ?_)
                go_simp
                refine hK.out _ _ (set4_below (.string y.path) (.int .i64 y.kind) (.int .i64 y.mode) (.string y.text) (unhid HC) (show wr.heap.size ≤ W21.heap.size from by have oZ0 := unhid Z0; have oZW24 := unhid ZW24; have oZW25 := unhid ZW25; omega)) ?_
                clear hK KK o0 p0 o1 p1 o2 p2 o3 p3
                have HX4 := hid (set4_same W25 (W21.heap.size) _ _ _ _ _ (.string y.path) (.int .i64 y.kind) (.int .i64 y.mode) (.string y.text) (unhid HBX))
                have HC := hid (set4_below (.string y.path) (.int .i64 y.kind) (.int .i64 y.mode) (.string y.text) (unhid HC) (show wr.heap.size ≤ W21.heap.size from by have oZ0 := unhid Z0; have oZW24 := unhid ZW24; have oZW25 := unhid ZW25; omega))
                have hba : ∀ {q : Prop}, (CW (fun w' => Below wr.heap.size wr w') → q) ↔ q := CW.all (Below.refl _ wr)
                refine held_here [false, false, false, false, false, false, false, false, false, false, false, false, false, false, false, false, false, true] (by kernel_rfl) (by kernel_rfl) (fun _ _ _ _ _ h => h) (unhid HC) ?_
                dsimp only [pick]
                repeat (go_big_quiet_step (fail))
                refine wpQuiet_nil ?_
                clear hba
                refine held_done (by kernel_rfl) ?_
                go_wp2_with fail
                go_meet
                case rel => exact ⟨W21.heap.size, rfl, rfl, HC, HX4⟩
            case rest =>
              rename World => W26
              obtain ⟨gy, rfl, rfl, hb, hx⟩ := hcut
              have K := hid ((unhid K).step (unhid hb))
              have K := hid ((unhid K).box (unhid hx))
              clear hb hx
              clear Brk0 Eek0 Eek1 Eek2 Eek3 Pak0
              obtain ⟨bb, HBB⟩ : ∃ b, Hid (hasP x p = b) := ⟨_, hid rfl⟩
              rw [unhid HBB]
              cases bb
              case false =>
                have Brk0 := cell_arrS ((unhid K).now.1.1.1.1.1.1.1.2) 0 _ rfl
                have Eek0 := ((unhid K).now.1.1.1.2).2.c0
                have Eek1 := ((unhid K).now.1.1.1.2).2.c1
                have Eek2 := ((unhid K).now.1.1.1.2).2.c2
                have Eek3 := ((unhid K).now.1.1.1.2).2.c3
                have Pak0 := ((unhid K).now.1.2).c3
                have Byk0 := cell_arrS ((unhid K).now.2) 0 _ rfl
                have Byk1 := cell_arrS ((unhid K).now.2) 1 _ rfl
                have Byk2 := cell_arrS ((unhid K).now.2) 2 _ rfl
                have Byk3 := cell_arrS ((unhid K).now.2) 3 _ rfl
                go_wp2_with fail
                clear Brk0 Eek0 Eek1 Eek2 Eek3 Pak0 Byk0 Byk1 Byk2 Byk3
                have Brk0 := cell_arrS ((unhid K).now.1.1.1.1.1.1.1.2) 0 _ rfl
                have Eek0 := ((unhid K).now.1.1.1.2).2.c0
                have Eek1 := ((unhid K).now.1.1.1.2).2.c1
                have Eek2 := ((unhid K).now.1.1.1.2).2.c2
                have Eek3 := ((unhid K).now.1.1.1.2).2.c3
                have Pak0 := ((unhid K).now.1.2).c3
                have Byk0 := cell_arrS ((unhid K).now.2) 0 _ rfl
                have Byk1 := cell_arrS ((unhid K).now.2) 1 _ rfl
                have Byk2 := cell_arrS ((unhid K).now.2) 2 _ rfl
                have Byk3 := cell_arrS ((unhid K).now.2) 3 _ rfl
                go_quiet (fail)
                go_wp2_with fail
                go_roundw
                case rel => exact ⟨k + 1, by omega, by rw [unhid HCN, unhid HBB]; rfl, by go_num, hid (((unhid K).now.1.1.2).trans (drewN_below _ _))⟩
                case measure => simp [intOf]; omega
              case true =>
                have hyx : y = x := (unhid HY).symm.trans ((unhid HQ).1 (unhid HBB))
                subst hyx
                have hne := fun w => ne_ents y y w
                rw [eqV_self] at hne
                unfold Ent.vals at hne
                have Brk0 := cell_arrS ((unhid K).now.1.1.1.1.1.1.1.2) 0 _ rfl
                have Eek0 := ((unhid K).now.1.1.1.2).2.c0
                have Eek1 := ((unhid K).now.1.1.1.2).2.c1
                have Eek2 := ((unhid K).now.1.1.1.2).2.c2
                have Eek3 := ((unhid K).now.1.1.1.2).2.c3
                have Pak0 := ((unhid K).now.1.2).c3
                have Byk0 := cell_arrS ((unhid K).now.2) 0 _ rfl
                have Byk1 := cell_arrS ((unhid K).now.2) 1 _ rfl
                have Byk2 := cell_arrS ((unhid K).now.2) 2 _ rfl
                have Byk3 := cell_arrS ((unhid K).now.2) 3 _ rfl
                go_wp2_with fail
                clear Brk0 Eek0 Eek1 Eek2 Eek3 Pak0 Byk0 Byk1 Byk2 Byk3
                have Brk0 := cell_arrS ((unhid K).now.1.1.1.1.1.1.1.2) 0 _ rfl
                have Eek0 := ((unhid K).now.1.1.1.2).2.c0
                have Eek1 := ((unhid K).now.1.1.1.2).2.c1
                have Eek2 := ((unhid K).now.1.1.1.2).2.c2
                have Eek3 := ((unhid K).now.1.1.1.2).2.c3
                have Pak0 := ((unhid K).now.1.2).c3
                have Byk0 := cell_arrS ((unhid K).now.2) 0 _ rfl
                have Byk1 := cell_arrS ((unhid K).now.2) 1 _ rfl
                have Byk2 := cell_arrS ((unhid K).now.2) 2 _ rfl
                have Byk3 := cell_arrS ((unhid K).now.2) 3 _ rfl
                go_quiet (fail)
                go_wp2_with fail
                go_roundw
                case rel => exact ⟨k + 1, by omega, by rw [unhid HCN, unhid HBB]; rfl, by go_num, hid (((unhid K).now.1.1.2).trans (drewN_below _ _))⟩
                case measure => simp [intOf]; omega
          · have ek : k = ps.length := by omega
            subst ek
            rw [List.take_length]
            have hcb : cntP x ps ≤ 100 := Nat.le_trans (cntP_le _ _) hfew
            have h0 : cntP x ps ≠ 0 := (unhid HX).2.1
            have HX2 := hid (unhid HX).2.2
            clear HX
            generalize cntP x ps = cn at hcb h0 HX2 ⊢
            by_cases h1 : 1 < cn
            · have hx1 := (unhid HX2) h1
              have hk1 : (x.kind != 1) = false := by rw [hx1]; rfl
              clear hx1
              have Brk0 := cell_arrS ((unhid K).now.1.1.1.1.1.2) 0 _ rfl
              have Eek0 := ((unhid K).now.1.2).2.c0
              have Eek1 := ((unhid K).now.1.2).2.c1
              have Eek2 := ((unhid K).now.1.2).2.c2
              have Eek3 := ((unhid K).now.1.2).2.c3
              go_wp2_with fail
              clear Brk0 Eek0 Eek1 Eek2 Eek3
              go_roundw
              case rel => exact ⟨m + 1, by omega, by go_num, hid ((unhid K).now.1.1.2)⟩
              case measure => simp [intOf]; omega
            · skip
              have Brk0 := cell_arrS ((unhid K).now.1.1.1.1.1.2) 0 _ rfl
              have Eek0 := ((unhid K).now.1.2).2.c0
              have Eek1 := ((unhid K).now.1.2).2.c1
              have Eek2 := ((unhid K).now.1.2).2.c2
              have Eek3 := ((unhid K).now.1.2).2.c3
              go_wp2_with fail
              clear Brk0 Eek0 Eek1 Eek2 Eek3
              go_roundw
              case rel => exact ⟨m + 1, by omega, by go_num, hid ((unhid K).now.1.1.2)⟩
              case measure => simp [intOf]; omega
      · have hlm2 : ¬ m < (rootTreeE ⟨ps⟩).length := hlm
        have Brk0 := cell_arrS ((unhid K).now.1.1.1.2) 0 _ rfl
        go_wp2_with fail
        clear Brk0
        refine (treeOk_r ((unhid K).now.1.1.2)).mono ?_
        rintro e W27 ⟨rfl, hb⟩
        have K := hid ((unhid K).step hb)
        clear hb
        have Brk0 := cell_arrS ((unhid K).now.1.1.1.2) 0 _ rfl
        go_wp2_with fail
        clear Brk0
        go_ret
        exact ⟨rfl, (unhid K).now.1.1.1.1.1⟩

set_option maxRecDepth 100000 in
set_option maxHeartbeats 1000000 in
theorem lifted_FnRootTree (os : Os) (started : os.Started) (H : Type) (enc : TypeId × Value → H) :
    ReturnsInHanded {} Tryz.checked os 3 .any (Rows.fnRootTreeSpec.pre6 enc Tryz.prog Tryz.f3 Rows.fnRootTreeRow.domain false) (Rows.fnRootTreeSpec.post enc Tryz.prog Tryz.f3 false true false false) := by
  refine returnsInHanded_of_change (C := Tryz.checked) own started (by kernel_rfl) Tryz.func3
    (ChangeSpec.witness6 (enc := enc) (C := Tryz.checked) false ⟨#[], #[.slice none 0 0], []⟩ 8 (by kernel_rfl) (by kernel_rfl) (by kernel_rfl) (by kernel_rfl)) ?_
  intro W base args ds gs before hval0 hW _ _
  have hval : ∀ (j : Nat) t v, Tryz.f3.params[j]? = some t → args[j]? = some v → Value.okWide Tryz.prog W .any base t v := hval0
  have hW' := hW
  obtain ⟨p, q, hA0, hV, rfl, hfz, hnd⟩ := hW
  have hA : DataW.TrodAll enc Tryz.prog W 0 (fun _ => true) true Tryz.f3.params.toList args.toList ds p := hA0
  rw [Tryz.params3] at hA hval
  obtain ⟨v0, vs0, d0, ds0, p0, q0, e0, rfl, rfl, h0, r0⟩ := trodAll_cons hA
  obtain ⟨rfl, rfl, rfl⟩ := trodAll_nil r0
  obtain rfl : args = #[v0] := by cases args; simp_all
  obtain ⟨rfl, rfl⟩ := trodVars_none hV
  have hlt : ∀ x ∈ p0, x.block < W.heap.size := fun x hx => by simpa using hW'.lt x (by simpa using hx)
  have t0 := h0
  have l0 : ∀ x ∈ p0, x.block < W.heap.size := fun x hx => hlt x (by simp [hx])
  obtain ⟨a0, len0, cap0, rfl⟩ := okWide_slice Tryz.underlying22 (hval 0 22 v0 rfl rfl)
  obtain ⟨hc0, hn0⟩ := code_of h0 l0
  clear hA0 hval0
  refine (walk_FnRootTree a0 len0 cap0 W hc0 hn0).mono fun e W' ⟨he, hb⟩ => ?_
  subst he
  exact ⟨_, rfl, post_below (gs := []) (pv := []) hW' (fun _ _ _ => trodAll_cons_mk (shut_bool Tryz.underlying4 _) trodAll_mk0) (trodAll_cons_mk (Below.trod laidOut (by kernel_rfl) (of_decide_eq_true (by kernel_rfl)) t0 hb l0) trodAll_mk0) rfl (by simp) hb⟩

theorem fnRootTree_holds : Rows.FnRootTreeSaid :=
  OpenClaim.holds_of_wide 3 Tryz.f3 rfl rfl rfl rfl rfl rfl rfl ⟨rfl, rfl, rfl, rfl, rfl⟩ rfl rfl rfl rfl rfl (by kernel_rfl) Tryz.func3 (by kernel_rfl)
    (of_decide_eq_true (by kernel_rfl)) (by unfold Func.isWrapper; first | (rw [if_pos (by decide +kernel)]; kernel_rfl) | (rw [if_neg (by decide +kernel)]; exact ⟨rfl, rfl⟩))
    (fun os started H enc _ => lifted_FnRootTree os started H enc)
end Go.Proofs.YtoljhgkgppjdcaaGreat
