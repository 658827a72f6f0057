/- A pack whose needs are not there is not put in. -/
import Derived.Test.YtoljhgkgppjdcaaGreatJoin16
import Derived.Deep.CutBlock
namespace Go.Proofs.YtoljhgkgppjdcaaGreat
open Go.ChangeShapes Go.WideShapes Go.ChangeAt Go.RowKit Go.Shelf

set_option maxRecDepth 100000 in
set_option maxHeartbeats 16000000 in
theorem walk_FnRootNeeds (a0 : Option Addr) (len0 cap0 : Nat) (w : World) (h0 : Code w w.heap.size a0 len0) (hc0 : len0 ≤ cap0) :
    Calls Tryz.prog 9 #[.slice a0 len0 cap0] w fun e w' => e = .returned (.bool true) ∧ Below w.heap.size w w' := by
  have H0 := hid h0
  clear h0
  by_cases hl0 : (1048576 : Int) < len0
  · go_enter Tryz.func9, Tryz.ntmps9
    go_wp2_with fail
    go_ret
    exact ⟨rfl, Below.refl _ _⟩
  go_enter Tryz.func9, Tryz.ntmps9
  have K := hid (KW.start w)
  go_wp2_with fail
  refine (DrawRootTree_any w a0 len0 cap0 (code_on (unhid H0) ((unhid K).now)) (by omega) hc0).mono ?_
  rintro e W1 ⟨v, ps, rfl, hD, hb⟩
  obtain ⟨ra, rc, rfl, hr⟩ := dr_rr hD
  have K := hid ((unhid K).step hb)
  have K := hid ((unhid K).row hr)
  have Dr := hid hD.ok
  clear hb hr hD
  go_wp2_with fail
  have hx0 := World.alloc_heap_new W1 (.cells #[.slice ra ps.length rc] 25)
  have hb := (Below.refl W1.heap.size W1).alloc (Nat.le_refl _) (.cells #[.slice ra ps.length rc] 25)
  generalize (W1.alloc (.cells #[.slice ra ps.length rc] 25)) = W2 at hx0 hb ⊢
  have K := hid ((unhid K).step hb)
  have K := hid ((unhid K).box hx0)
  clear hb hx0
  refine (implOk_r ((unhid K).now.1.2)).mono ?_
  rintro e W3 ⟨rfl, hb⟩
  have K := hid ((unhid K).step hb)
  clear hb
  have Brk0 := cell_arrS ((unhid K).now.2) 0 _ rfl
  go_wp2_with fail
  clear Brk0
  refine (specOk_r ((unhid K).now.1.2)).mono ?_
  rintro e W4 ⟨rfl, hb⟩
  have K := hid ((unhid K).step hb)
  clear hb
  cases hok : rootOk_0 ⟨ps⟩
  case false =>
    have HOK := hid hok
    clear hok
    have Brk0 := cell_arrS ((unhid K).now.2) 0 _ rfl
    go_wp2_with fail
    clear Brk0
    refine (show Calls Tryz.prog 18 #[.agg #[.slice ra ps.length rc]] W4 fun x w' => x = .returned (.bool false) ∧ Below W4.heap.size W4 w' from (specOk_r ((unhid K).now.1.2)).mono (fun _ _ h => ⟨by rw [h.1, unhid HOK], h.2⟩)).mono ?_
    rintro e W5 ⟨rfl, hb⟩
    have K := hid ((unhid K).step hb)
    clear hb
    have Brk0 := cell_arrS ((unhid K).now.2) 0 _ rfl
    go_wp2_with fail
    clear Brk0
    go_ret
    exact ⟨rfl, (unhid K).now.1.1⟩
  case true =>
    have HOK := hid hok
    clear hok
    by_cases hl : (5 : Int) ≤ ps.length
    · skip
      have Brk0 := cell_arrS ((unhid K).now.2) 0 _ rfl
      go_wp2_with fail
      clear Brk0
      refine (show Calls Tryz.prog 18 #[.agg #[.slice ra ps.length rc]] W4 fun x w' => x = .returned (.bool true) ∧ Below W4.heap.size W4 w' from (specOk_r ((unhid K).now.1.2)).mono (fun _ _ h => ⟨by rw [h.1, unhid HOK], h.2⟩)).mono ?_
      rintro e W6 ⟨rfl, hb⟩
      have K := hid ((unhid K).step hb)
      clear hb
      have Brk0 := cell_arrS ((unhid K).now.2) 0 _ rfl
      go_wp2_with fail
      clear Brk0
      go_ret
      exact ⟨rfl, (unhid K).now.1.1⟩
    · skip
      have HL := hid (show ps.length < 5 by omega)
      have HD := hid (fun q (hq : q ∈ ps) => ((unhid Dr) q hq).name)
      have Brk0 := cell_arrS ((unhid K).now.2) 0 _ rfl
      go_wp2_with fail
      clear Brk0
      have hx0 := World.alloc_heap_new W4 (.cells #[.string ⟨#[110, 111, 98, 111, 100, 121, 115]⟩, .int .i64 0, .string ⟨#[]⟩] 51)
      have hb := (Below.refl W4.heap.size W4).alloc (Nat.le_refl _) (.cells #[.string ⟨#[110, 111, 98, 111, 100, 121, 115]⟩, .int .i64 0, .string ⟨#[]⟩] 51)
      generalize (W4.alloc (.cells #[.string ⟨#[110, 111, 98, 111, 100, 121, 115]⟩, .int .i64 0, .string ⟨#[]⟩] 51)) = W7 at hx0 hb ⊢
      have K := hid ((unhid K).step hb)
      have K := hid ((unhid K).box hx0)
      clear hb hx0
      have HN0 := hid (needs_no (unhid HOK) (unhid HL) (unhid HD))
      refine ((implIn_r ((unhid K).now.1.1.2) (freshN_pr (n := needNo) ((unhid K).now.2) (by decide) (by decide))).mono (fun _ _ h => turned_in (rin_not (unhid HOK) (by rw [unhid HN0]; decide)) (unhid HN0) h)).mono ?_
      rintro e W8 ⟨xa, xc, rfl, hr, hb⟩
      have K := hid ((unhid K).step hb)
      clear hb
      have K := hid ((unhid K).row hr)
      clear hr
      have Brk0 := fun x => Go.Lib.cell?_alloc_some x (cell_arrS ((unhid K).now.1.1.2) 0 _ rfl)
      go_wp2_with fail
      clear Brk0
      have hx0 := World.alloc_heap_new W8 (.cells #[.slice xa ps.length xc] 25)
      have hb := (Below.refl W8.heap.size W8).alloc (Nat.le_refl _) (.cells #[.slice xa ps.length xc] 25)
      generalize (W8.alloc (.cells #[.slice xa ps.length xc] 25)) = W9 at hx0 hb ⊢
      have K := hid ((unhid K).step hb)
      have K := hid ((unhid K).box hx0)
      clear hb hx0
      have K := hid ((unhid K).mark)
      go_loopw [7] (fun i wr => ∃ k : Nat, k ≤ ps.length ∧ i = .int .i64 (k : Int) ∧ Hid (Below W9.heap.size W9 wr)) (fun i _ => ps.length - (intOf i).toNat)
      case atStart => exact ⟨0, Nat.zero_le _, rfl, hid (Below.refl _ _)⟩
      case round =>
        obtain ⟨k, hk, rfl, HBr⟩ := hrel
        have hb := unhid HBr
        have K := hid ((unhid K).step hb)
        clear hb HBr
        by_cases hlt : k < ps.length
        · obtain ⟨p, hp⟩ : ∃ p, ps[k]? = some p := ⟨ps[k], List.getElem?_eq_getElem hlt⟩
          obtain ⟨pb, po, na, nc, ta, tc, hra, hpa⟩ := RR.get ((unhid K).now.1.1.1.1.1.2) hp
          subst hra
          have K := hid ((unhid K).pa hpa)
          clear hpa
          obtain ⟨Xy, HXy⟩ : ∃ x, Hid (rootInP ⟨ps⟩ (freshN (asksP p 1)) = x) := ⟨_, hid rfl⟩
          have HP := hid (needs_law (unhid HOK) (unhid HL) (unhid HD) (List.mem_of_getElem? hp) (unhid HXy))
          clear hp
          have HS := hid (And.intro ((unhid K).now.2).pr.small.name ((unhid K).now.2).pr.small.version)
          have Brk0 := cell_arrS ((unhid K).now.1.1.1.1.1.2) 0 _ rfl
          have Bxk0 := cell_arrS ((unhid K).now.1.1.2) 0 _ rfl
          have Pak0 := ((unhid K).now.2).c0
          have Pak1 := ((unhid K).now.2).c1
          go_upto_region 11 with fail
          go_cut [8, 9] from 54 to 73 (fun s8 s9 wx => ∃ (g : Nat) (xa : Option Addr) (xc : Nat), s8 = .pointer (some ⟨g, 0, none⟩) ∧ s9 = .int .i64 0 ∧ Hid (Below wr.heap.size wr wx) ∧ Hid (wx.heap[g]? = some (.cells #[.slice xa Xy.length xc] 25 (0, 0))) ∧ Hid (RR wx xa xc Xy))
          case first =>
            have Brk0 : ∀ x : CW (fun w' => Below wr.heap.size wr w'), x.w.cell? ⟨W1.heap.size, 0, none⟩ = some (.slice (some ⟨pb, po, none⟩) ps.length rc) := fun x => cell_arrS ((x.h.block _ (Array.getElem?_eq_some_iff.1 ((unhid K).now.1.1.1.1.1.2)).1).trans ((unhid K).now.1.1.1.1.1.2)) 0 _ rfl
            have Bxk0 : ∀ x : CW (fun w' => Below wr.heap.size wr w'), x.w.cell? ⟨W8.heap.size, 0, none⟩ = some (.slice xa ps.length xc) := fun x => cell_arrS ((x.h.block _ (Array.getElem?_eq_some_iff.1 ((unhid K).now.1.1.2)).1).trans ((unhid K).now.1.1.2)) 0 _ rfl
            have Pak0 : ∀ x : CW (fun w' => Below wr.heap.size wr w'), x.w.cell? ⟨pb, po + k * 4, none⟩ = some (.string (PackD.name p)) := fun x => (x.h.cell (p := ⟨pb, po + k * 4, none⟩) ((unhid K).now.2).lt).trans ((unhid K).now.2).c0
            have Pak1 : ∀ x : CW (fun w' => Below wr.heap.size wr w'), x.w.cell? ⟨pb, po + k * 4 + 1, none⟩ = some (.string (PackD.version p)) := fun x => (x.h.cell (p := ⟨pb, po + k * 4 + 1, none⟩) ((unhid K).now.2).lt).trans ((unhid K).now.2).c1
            have hba : ∀ {q : Prop}, (CW (fun w' => Below wr.heap.size wr w') → q) ↔ q := CW.all (Below.refl _ wr)
            refine held_begin (fun w' => Below wr.heap.size wr w') (by kernel_rfl) (drew_belowS _) ?_
            refine held_here [true, true, true, true, true, true, true, true, true, true, true, true, true, true] (by kernel_rfl) (by kernel_rfl) (fun _ _ _ _ _ h => h) (drew_belowS _) ?_
            dsimp only [pick]
            repeat (go_big_quiet_step (fail))
            refine wpQuiet_nil ?_
            clear hba Brk0 Bxk0 Pak0 Pak1
            have HC := hid (drew_belowS (B := wr.heap.size) wr)
            generalize wr.drew = W10 at HC ⊢
            have K := hid ((unhid K).step (unhid HC))
            have Z0 := hid (unhid HC).size
            refine held_op2 14 20 (by kernel_rfl) (by kernel_rfl) rfl rfl (fun KK hK => ?_) (fun KK hK => ?_)
            · skip
              go_simp
              have hbx := World.alloc_heap_new W10 (.cells #[.string (PackD.name p), .int .i64 1, .string (PackD.version p)] 51)
              have hb : Below W10.heap.size W10 (W10.alloc (.cells #[.string (PackD.name p), .int .i64 1, .string (PackD.version p)] 51)) := (Below.refl _ W10).alloc (Nat.le_refl _) _
              have hlt : W10.heap.size < (W10.alloc (.cells #[.string (PackD.name p), .int .i64 1, .string (PackD.version p)] 51)).heap.size := by simp
              refine hK.out _ _ ((unhid HC).trans (hb.mono (unhid HC).size)) ?_
              clear hK KK
              generalize W10.alloc (.cells #[.string (PackD.name p), .int .i64 1, .string (PackD.version p)] 51) = W11 at hbx hb hlt ⊢
              have ZW11 := hid hlt
              have HC := hid ((unhid HC).trans (hb.mono (unhid HC).size))
              have K := hid ((unhid K).step hb)
              have K := hid ((unhid K).box hbx)
              clear hb hbx hlt
              have hba : ∀ {q : Prop}, (CW (fun w' => Below wr.heap.size wr w') → q) ↔ q := CW.all (Below.refl _ wr)
              refine held_here [false, false, false, false, false, false, false, false, false, false, false, false, false, false, false, true] (by kernel_rfl) (by kernel_rfl) (fun _ _ _ _ _ h => h) (unhid HC) ?_
              dsimp only [pick]
              repeat (go_big_quiet_step (fail))
              refine wpQuiet_nil ?_
              clear hba
              refine held_op2 16 20 (by kernel_rfl) (by kernel_rfl) rfl rfl (fun KK hK => ?_) (fun KK hK => ?_)
              · skip
                refine call_op 22 71 (enters_of Tryz.func22 (by kernel_rfl) rfl) #[.agg #[.slice (some ⟨pb, po, none⟩) ps.length rc], .agg #[.string ⟨#[102, 114, 101, 115, 104]⟩, .string ⟨#[49]⟩, .slice (some ⟨W10.heap.size, 0, none⟩) 1 1, .slice none 0 0]] rfl rfl rfl rfl ?_
                refine (implIn_k ((unhid K).now.1.1.1.1.1.1.1.2) (freshN_pr (n := asksP p 1) ((unhid K).now.2) (unhid HS).1 (unhid HS).2) (unhid HXy) (unhid HP).1).mono ?_
                rintro x W12 ⟨xa, xc, rfl, hkeep, hb⟩
                have HRK := hid hkeep
                have HC := hid ((unhid HC).trans (hb.mono (unhid HC).size))
                have ZW12 := hid (show W11.heap.size ≤ W12.heap.size from hb.size)
                clear hb hkeep
                refine ⟨_, rfl, hK.out _ _ (unhid HC) ?_⟩
                simp only [Act.put, List.setIfInBounds_toArray, List.set_cons_zero, List.set_cons_succ]
                clear hK KK
                have hba : ∀ {q : Prop}, (CW (fun w' => Below wr.heap.size wr w') → q) ↔ q := CW.all (Below.refl _ wr)
                refine held_here [false, false, false, false, false, false, false, false, false, false, false, false, false, false, false, false, false, true, true, true] (by kernel_rfl) (by kernel_rfl) (fun _ _ _ _ _ h => h) (unhid HC) ?_
                dsimp only [pick]
                repeat (go_big_quiet_step (fail))
                refine wpQuiet_nil ?_
                clear hba
                refine held_op 20 (by kernel_rfl) (by kernel_rfl) rfl (fun KK hK => ?_)
                go_simp
                have hbx := World.alloc_heap_new W12 (.cells #[.slice none 0 0] 25)
                have hb : Below W12.heap.size W12 (W12.alloc (.cells #[.slice none 0 0] 25)) := (Below.refl _ W12).alloc (Nat.le_refl _) _
                have hlt : W12.heap.size < (W12.alloc (.cells #[.slice none 0 0] 25)).heap.size := by simp
                refine hK.out _ _ ((unhid HC).trans (hb.mono (unhid HC).size)) ?_
                clear hK KK
                generalize W12.alloc (.cells #[.slice none 0 0] 25) = W13 at hbx hb hlt ⊢
                have ZW13 := hid hlt
                have HC := hid ((unhid HC).trans (hb.mono (unhid HC).size))
                have HBX := hid hbx
                have HBL := hid hb
                clear hb hbx hlt
                obtain ⟨o1, p1⟩ := cell_fz (unhid HBX) 0 _ rfl
                refine held_op 21 (by kernel_rfl) (by kernel_rfl) rfl (fun KK hK => ?_)
                go_simp
                refine hK.out _ _ ((unhid HC).setCell (show wr.heap.size ≤ W12.heap.size from by have oZ0 := unhid Z0; have oZW11 := unhid ZW11; have oZW12 := unhid ZW12; have oZW13 := unhid ZW13; omega) _) ?_
                clear hK KK o1 p1
                have HX := hid (heap_setCell_same W13 (W12.heap.size) 0 _ _ (.slice xa Xy.length xc) (unhid HBX))
                have HC := hid ((unhid HC).setCell (p := ⟨W12.heap.size, 0, none⟩) (show wr.heap.size ≤ W12.heap.size from by have oZ0 := unhid Z0; have oZW11 := unhid ZW11; have oZW12 := unhid ZW12; have oZW13 := unhid ZW13; omega) (.slice xa Xy.length xc))
                have HR := hid (unhid HRK (W13.setCell ⟨W12.heap.size, 0, none⟩ (.slice xa Xy.length xc)) (fun j h1 h2 => (Below.heap_setCell W13 ⟨W12.heap.size, 0, none⟩ (.slice xa Xy.length xc) j (show j ≠ W12.heap.size by omega)).trans ((unhid HBL).block j h2)))
                clear HRK
                have hba : ∀ {q : Prop}, (CW (fun w' => Below wr.heap.size wr w') → q) ↔ q := CW.all (Below.refl _ wr)
                refine held_here [false, false, false, false, false, false, false, false, false, false, false, false, false, false, false, false, false, false, false, false, false, false, true] (by kernel_rfl) (by kernel_rfl) (fun _ _ _ _ _ h => h) (unhid HC) ?_
                dsimp only [pick]
                repeat (go_big_quiet_step (fail))
                refine wpQuiet_nil ?_
                clear hba
                refine held_done (by kernel_rfl) ?_
                go_wp2_with fail
                go_meet
                case rel => exact ⟨W12.heap.size, xa, xc, rfl, rfl, HC, HX, HR⟩
              · skip
                go_simp
                have hbx := World.alloc_heap_new W11 (.cells #[.slice none 0 0] 25)
                have hb : Below W11.heap.size W11 (W11.alloc (.cells #[.slice none 0 0] 25)) := (Below.refl _ W11).alloc (Nat.le_refl _) _
                have hlt : W11.heap.size < (W11.alloc (.cells #[.slice none 0 0] 25)).heap.size := by simp
                refine hK.out _ _ ((unhid HC).trans (hb.mono (unhid HC).size)) ?_
                clear hK KK
                generalize W11.alloc (.cells #[.slice none 0 0] 25) = W14 at hbx hb hlt ⊢
                have ZW14 := hid hlt
                have HC := hid ((unhid HC).trans (hb.mono (unhid HC).size))
                have HBX := hid hbx
                have K := hid ((unhid K).step hb)
                clear hb hbx hlt
                refine held_call 16 22 71 (enters_of Tryz.func22 (by kernel_rfl) rfl) #[.agg #[.slice (some ⟨pb, po, none⟩) ps.length rc], .agg #[.string ⟨#[102, 114, 101, 115, 104]⟩, .string ⟨#[49]⟩, .slice (some ⟨W10.heap.size, 0, none⟩) 1 1, .slice none 0 0]] (by kernel_rfl) (by kernel_rfl) rfl rfl rfl rfl rfl ?_
                refine (implIn_k ((unhid K).now.1.1.1.1.1.1.1.2) (freshN_pr (n := asksP p 1) ((unhid K).now.2) (unhid HS).1 (unhid HS).2) (unhid HXy) (unhid HP).1).mono ?_
                rintro x W15 ⟨xa, xc, rfl, hkeep, hb⟩
                have HBX := hid ((hb.block _ (by have oZ0 := unhid Z0; have oZW11 := unhid ZW11; have oZW14 := unhid ZW14; omega)).trans (unhid HBX))
                have HRK := hid hkeep
                have HC := hid ((unhid HC).trans (hb.mono (unhid HC).size))
                have ZW15 := hid (show W14.heap.size ≤ W15.heap.size from hb.size)
                clear hb hkeep
                refine ⟨_, rfl, unhid HC, ?_⟩
                simp only [Act.put, List.setIfInBounds_toArray, List.set_cons_zero, List.set_cons_succ]
                have hba : ∀ {q : Prop}, (CW (fun w' => Below wr.heap.size wr w') → q) ↔ q := CW.all (Below.refl _ wr)
                refine held_here [false, false, false, false, false, false, false, false, false, false, false, false, false, false, false, false, false, true, true, true] (by kernel_rfl) (by kernel_rfl) (fun _ _ _ _ _ h => h) (unhid HC) ?_
                dsimp only [pick]
                repeat (go_big_quiet_step (fail))
                refine wpQuiet_nil ?_
                clear hba
                obtain ⟨o1, p1⟩ := cell_fz (unhid HBX) 0 _ rfl
                refine held_op 21 (by kernel_rfl) (by kernel_rfl) rfl (fun KK hK => ?_)
                go_simp
                refine hK.out _ _ ((unhid HC).setCell (show wr.heap.size ≤ W11.heap.size from by have oZ0 := unhid Z0; have oZW11 := unhid ZW11; have oZW14 := unhid ZW14; have oZW15 := unhid ZW15; omega) _) ?_
                clear hK KK o1 p1
                have HX := hid (heap_setCell_same W15 (W11.heap.size) 0 _ _ (.slice xa Xy.length xc) (unhid HBX))
                have HC := hid ((unhid HC).setCell (p := ⟨W11.heap.size, 0, none⟩) (show wr.heap.size ≤ W11.heap.size from by have oZ0 := unhid Z0; have oZW11 := unhid ZW11; have oZW14 := unhid ZW14; have oZW15 := unhid ZW15; omega) (.slice xa Xy.length xc))
                have HR := hid (unhid HRK (W15.setCell ⟨W11.heap.size, 0, none⟩ (.slice xa Xy.length xc)) (fun j h1 h2 => Below.heap_setCell W15 ⟨W11.heap.size, 0, none⟩ (.slice xa Xy.length xc) j (show j ≠ W11.heap.size from by have oZ0 := unhid Z0; have oZW11 := unhid ZW11; have oZW14 := unhid ZW14; have oZW15 := unhid ZW15; omega)))
                clear HRK
                have hba : ∀ {q : Prop}, (CW (fun w' => Below wr.heap.size wr w') → q) ↔ q := CW.all (Below.refl _ wr)
                refine held_here [false, false, false, false, false, false, false, false, false, false, false, false, false, false, false, false, false, false, false, false, false, false, true] (by kernel_rfl) (by kernel_rfl) (fun _ _ _ _ _ h => h) (unhid HC) ?_
                dsimp only [pick]
                repeat (go_big_quiet_step (fail))
                refine wpQuiet_nil ?_
                clear hba
                refine held_done (by kernel_rfl) ?_
                go_wp2_with fail
                go_meet
                case rel => exact ⟨W11.heap.size, xa, xc, rfl, rfl, HC, HX, HR⟩
            · skip
              go_simp
              have hbx := World.alloc_heap_new W10 (.cells #[.slice none 0 0] 25)
              have hb : Below W10.heap.size W10 (W10.alloc (.cells #[.slice none 0 0] 25)) := (Below.refl _ W10).alloc (Nat.le_refl _) _
              have hlt : W10.heap.size < (W10.alloc (.cells #[.slice none 0 0] 25)).heap.size := by simp
              refine hK.out _ _ ((unhid HC).trans (hb.mono (unhid HC).size)) ?_
              clear hK KK
              generalize W10.alloc (.cells #[.slice none 0 0] 25) = W16 at hbx hb hlt ⊢
              have ZW16 := hid hlt
              have HC := hid ((unhid HC).trans (hb.mono (unhid HC).size))
              have HBX := hid hbx
              have K := hid ((unhid K).step hb)
              clear hb hbx hlt
              refine held_op 14 (by kernel_rfl) (by kernel_rfl) rfl (fun KK hK => ?_)
              go_simp
              have hbx := World.alloc_heap_new W16 (.cells #[.string (PackD.name p), .int .i64 1, .string (PackD.version p)] 51)
              have hb : Below W16.heap.size W16 (W16.alloc (.cells #[.string (PackD.name p), .int .i64 1, .string (PackD.version p)] 51)) := (Below.refl _ W16).alloc (Nat.le_refl _) _
              have hlt : W16.heap.size < (W16.alloc (.cells #[.string (PackD.name p), .int .i64 1, .string (PackD.version p)] 51)).heap.size := by simp
              refine hK.out _ _ ((unhid HC).trans (hb.mono (unhid HC).size)) ?_
              clear hK KK
              generalize W16.alloc (.cells #[.string (PackD.name p), .int .i64 1, .string (PackD.version p)] 51) = W17 at hbx hb hlt ⊢
              have ZW17 := hid hlt
              have HC := hid ((unhid HC).trans (hb.mono (unhid HC).size))
              have HBX := hid ((hb.block _ (by have oZ0 := unhid Z0; have oZW16 := unhid ZW16; omega)).trans (unhid HBX))
              have K := hid ((unhid K).step hb)
              have K := hid ((unhid K).box hbx)
              clear hb hbx hlt
              have hba : ∀ {q : Prop}, (CW (fun w' => Below wr.heap.size wr w') → q) ↔ q := CW.all (Below.refl _ wr)
              refine held_here [false, false, false, false, false, false, false, false, false, false, false, false, false, false, false, true] (by kernel_rfl) (by kernel_rfl) (fun _ _ _ _ _ h => h) (unhid HC) ?_
              dsimp only [pick]
              repeat (go_big_quiet_step (fail))
              refine wpQuiet_nil ?_
              clear hba
              refine held_call 16 22 71 (enters_of Tryz.func22 (by kernel_rfl) rfl) #[.agg #[.slice (some ⟨pb, po, none⟩) ps.length rc], .agg #[.string ⟨#[102, 114, 101, 115, 104]⟩, .string ⟨#[49]⟩, .slice (some ⟨W16.heap.size, 0, none⟩) 1 1, .slice none 0 0]] (by kernel_rfl) (by kernel_rfl) rfl rfl rfl rfl rfl ?_
              refine (implIn_k ((unhid K).now.1.1.1.1.1.1.1.2) (freshN_pr (n := asksP p 1) ((unhid K).now.2) (unhid HS).1 (unhid HS).2) (unhid HXy) (unhid HP).1).mono ?_
              rintro x W18 ⟨xa, xc, rfl, hkeep, hb⟩
              have HBX := hid ((hb.block _ (by have oZ0 := unhid Z0; have oZW16 := unhid ZW16; have oZW17 := unhid ZW17; omega)).trans (unhid HBX))
              have HRK := hid hkeep
              have HC := hid ((unhid HC).trans (hb.mono (unhid HC).size))
              have ZW18 := hid (show W17.heap.size ≤ W18.heap.size from hb.size)
              clear hb hkeep
              refine ⟨_, rfl, unhid HC, ?_⟩
              simp only [Act.put, List.setIfInBounds_toArray, List.set_cons_zero, List.set_cons_succ]
              have hba : ∀ {q : Prop}, (CW (fun w' => Below wr.heap.size wr w') → q) ↔ q := CW.all (Below.refl _ wr)
              refine held_here [false, false, false, false, false, false, false, false, false, false, false, false, false, false, false, false, false, true, true, true] (by kernel_rfl) (by kernel_rfl) (fun _ _ _ _ _ h => h) (unhid HC) ?_
              dsimp only [pick]
              repeat (go_big_quiet_step (fail))
              refine wpQuiet_nil ?_
              clear hba
              obtain ⟨o1, p1⟩ := cell_fz (unhid HBX) 0 _ rfl
              refine held_op 21 (by kernel_rfl) (by kernel_rfl) rfl (fun KK hK => ?_)
              go_simp
              refine hK.out _ _ ((unhid HC).setCell (show wr.heap.size ≤ W10.heap.size from by have oZ0 := unhid Z0; have oZW16 := unhid ZW16; have oZW17 := unhid ZW17; have oZW18 := unhid ZW18; omega) _) ?_
              clear hK KK o1 p1
              have HX := hid (heap_setCell_same W18 (W10.heap.size) 0 _ _ (.slice xa Xy.length xc) (unhid HBX))
              have HC := hid ((unhid HC).setCell (p := ⟨W10.heap.size, 0, none⟩) (show wr.heap.size ≤ W10.heap.size from by have oZ0 := unhid Z0; have oZW16 := unhid ZW16; have oZW17 := unhid ZW17; have oZW18 := unhid ZW18; omega) (.slice xa Xy.length xc))
              have HR := hid (unhid HRK (W18.setCell ⟨W10.heap.size, 0, none⟩ (.slice xa Xy.length xc)) (fun j h1 h2 => Below.heap_setCell W18 ⟨W10.heap.size, 0, none⟩ (.slice xa Xy.length xc) j (show j ≠ W10.heap.size from by have oZ0 := unhid Z0; have oZW16 := unhid ZW16; have oZW17 := unhid ZW17; have oZW18 := unhid ZW18; omega)))
              clear HRK
              have hba : ∀ {q : Prop}, (CW (fun w' => Below wr.heap.size wr w') → q) ↔ q := CW.all (Below.refl _ wr)
              refine held_here [false, false, false, false, false, false, false, false, false, false, false, false, false, false, false, false, false, false, false, false, false, false, true] (by kernel_rfl) (by kernel_rfl) (fun _ _ _ _ _ h => h) (unhid HC) ?_
              dsimp only [pick]
              repeat (go_big_quiet_step (fail))
              refine wpQuiet_nil ?_
              clear hba
              refine held_done (by kernel_rfl) ?_
              go_wp2_with fail
              go_meet
              case rel => exact ⟨W10.heap.size, xa, xc, rfl, rfl, HC, HX, HR⟩
          case rest =>
            rename World => W19
            obtain ⟨gy, ya, yc, rfl, rfl, hb, hx, hr⟩ := hcut
            have K := hid ((unhid K).step (unhid hb))
            have K := hid ((unhid K).box (unhid hx))
            have K := hid ((unhid K).row (unhid hr))
            clear hb hx hr
            clear Brk0 Bxk0 Pak0 Pak1
            have Brk0 := cell_arrS ((unhid K).now.1.1.1.1.1.1.1.2) 0 _ rfl
            have Bxk0 := cell_arrS ((unhid K).now.1.1.1.1.2) 0 _ rfl
            have Pak0 := ((unhid K).now.1.1.2).c0
            have Pak1 := ((unhid K).now.1.1.2).c1
            have Byk0 := cell_arrS ((unhid K).now.1.2) 0 _ rfl
            go_upto_region 12 with fail
            go_cut [10, 11] from 74 to 84 (fun s10 s11 wx => ∃ (g : Nat) (xa : Option Addr) (xc : Nat), s10 = .pointer (some ⟨g, 0, none⟩) ∧ s11 = .int .i64 4 ∧ Hid (Below W19.heap.size W19 wx) ∧ Hid (wx.heap[g]? = some (.cells #[.slice xa Xy.length xc] 25 (0, 0))) ∧ Hid (RR wx xa xc Xy))
            case first =>
              have Brk0 : ∀ x : CW (fun w' => Below W19.heap.size W19 w'), x.w.cell? ⟨W1.heap.size, 0, none⟩ = some (.slice (some ⟨pb, po, none⟩) ps.length rc) := fun x => cell_arrS ((x.h.block _ (Array.getElem?_eq_some_iff.1 ((unhid K).now.1.1.1.1.1.1.1.2)).1).trans ((unhid K).now.1.1.1.1.1.1.1.2)) 0 _ rfl
              have Bxk0 : ∀ x : CW (fun w' => Below W19.heap.size W19 w'), x.w.cell? ⟨W8.heap.size, 0, none⟩ = some (.slice xa ps.length xc) := fun x => cell_arrS ((x.h.block _ (Array.getElem?_eq_some_iff.1 ((unhid K).now.1.1.1.1.2)).1).trans ((unhid K).now.1.1.1.1.2)) 0 _ rfl
              have Pak0 : ∀ x : CW (fun w' => Below W19.heap.size W19 w'), x.w.cell? ⟨pb, po + k * 4, none⟩ = some (.string (PackD.name p)) := fun x => (x.h.cell (p := ⟨pb, po + k * 4, none⟩) ((unhid K).now.1.1.2).lt).trans ((unhid K).now.1.1.2).c0
              have Pak1 : ∀ x : CW (fun w' => Below W19.heap.size W19 w'), x.w.cell? ⟨pb, po + k * 4 + 1, none⟩ = some (.string (PackD.version p)) := fun x => (x.h.cell (p := ⟨pb, po + k * 4 + 1, none⟩) ((unhid K).now.1.1.2).lt).trans ((unhid K).now.1.1.2).c1
              have Byk0 : ∀ x : CW (fun w' => Below W19.heap.size W19 w'), x.w.cell? ⟨gy, 0, none⟩ = some (.slice ya Xy.length yc) := fun x => cell_arrS ((x.h.block _ (Array.getElem?_eq_some_iff.1 ((unhid K).now.1.2)).1).trans ((unhid K).now.1.2)) 0 _ rfl
              have hba : ∀ {q : Prop}, (CW (fun w' => Below W19.heap.size W19 w') → q) ↔ q := CW.all (Below.refl _ W19)
              refine held_begin (fun w' => Below W19.heap.size W19 w') (by kernel_rfl) (drew_belowS _) ?_
              refine held_here [true, true, true, true, true, true, true] (by kernel_rfl) (by kernel_rfl) (fun _ _ _ _ _ h => h) (drew_belowS _) ?_
              dsimp only [pick]
              repeat (go_big_quiet_step (fail))
              refine wpQuiet_nil ?_
              clear hba Brk0 Bxk0 Pak0 Pak1 Byk0
              have HC := hid (drew_belowS (B := W19.heap.size) W19)
              generalize W19.drew = W20 at HC ⊢
              have K := hid ((unhid K).step (unhid HC))
              have Z0 := hid (unhid HC).size
              refine held_op2 7 11 (by kernel_rfl) (by kernel_rfl) rfl rfl (fun KK hK => ?_) (fun KK hK => ?_)
              · skip
                refine call_op 25 82 (enters_of Tryz.func25 (by kernel_rfl) rfl) #[.agg #[.slice ya Xy.length yc], .string (PackD.name p)] rfl rfl rfl rfl ?_
                refine (outOut_k ((unhid K).now.2) (unhid HP).2.2.1 (unhid HP).2.1 ((unhid K).now.2).small ((unhid K).now.2).few).mono ?_
                rintro x W21 ⟨xa, xc, rfl, hkeep, hb⟩
                have HRK := hid hkeep
                have HC := hid ((unhid HC).trans (hb.mono (unhid HC).size))
                have ZW21 := hid (show W20.heap.size ≤ W21.heap.size from hb.size)
                clear hb hkeep
                refine ⟨_, rfl, hK.out _ _ (unhid HC) ?_⟩
                simp only [Act.put, List.setIfInBounds_toArray, List.set_cons_zero, List.set_cons_succ]
                clear hK KK
                have hba : ∀ {q : Prop}, (CW (fun w' => Below W19.heap.size W19 w') → q) ↔ q := CW.all (Below.refl _ W19)
                refine held_here [false, false, false, false, false, false, false, false, true, true, true] (by kernel_rfl) (by kernel_rfl) (fun _ _ _ _ _ h => h) (unhid HC) ?_
                dsimp only [pick]
                repeat (go_big_quiet_step (fail))
                refine wpQuiet_nil ?_
                clear hba
                refine held_op 11 (by kernel_rfl) (by kernel_rfl) rfl (fun KK hK => ?_)
                go_simp
                have hbx := World.alloc_heap_new W21 (.cells #[.slice none 0 0] 25)
                have hb : Below W21.heap.size W21 (W21.alloc (.cells #[.slice none 0 0] 25)) := (Below.refl _ W21).alloc (Nat.le_refl _) _
                have hlt : W21.heap.size < (W21.alloc (.cells #[.slice none 0 0] 25)).heap.size := by simp
                refine hK.out _ _ ((unhid HC).trans (hb.mono (unhid HC).size)) ?_
                clear hK KK
                generalize W21.alloc (.cells #[.slice none 0 0] 25) = W22 at hbx hb hlt ⊢
                have ZW22 := hid hlt
                have HC := hid ((unhid HC).trans (hb.mono (unhid HC).size))
                have HBX := hid hbx
                have HBL := hid hb
                clear hb hbx hlt
                obtain ⟨o1, p1⟩ := cell_fz (unhid HBX) 0 _ rfl
                refine held_op 12 (by kernel_rfl) (by kernel_rfl) rfl (fun KK hK => ?_)
                go_simp
                refine hK.out _ _ ((unhid HC).setCell (show W19.heap.size ≤ W21.heap.size from by have oZ0 := unhid Z0; have oZW21 := unhid ZW21; have oZW22 := unhid ZW22; omega) _) ?_
                clear hK KK o1 p1
                have HX := hid (heap_setCell_same W22 (W21.heap.size) 0 _ _ (.slice xa Xy.length xc) (unhid HBX))
                have HC := hid ((unhid HC).setCell (p := ⟨W21.heap.size, 0, none⟩) (show W19.heap.size ≤ W21.heap.size from by have oZ0 := unhid Z0; have oZW21 := unhid ZW21; have oZW22 := unhid ZW22; omega) (.slice xa Xy.length xc))
                have HR := hid (unhid HRK (W22.setCell ⟨W21.heap.size, 0, none⟩ (.slice xa Xy.length xc)) (fun j h1 h2 => (Below.heap_setCell W22 ⟨W21.heap.size, 0, none⟩ (.slice xa Xy.length xc) j (show j ≠ W21.heap.size by omega)).trans ((unhid HBL).block j h2)))
                clear HRK
                have hba : ∀ {q : Prop}, (CW (fun w' => Below W19.heap.size W19 w') → q) ↔ q := CW.all (Below.refl _ W19)
                refine held_here [false, false, false, false, false, false, false, false, false, false, false, false, false, true] (by kernel_rfl) (by kernel_rfl) (fun _ _ _ _ _ h => h) (unhid HC) ?_
                dsimp only [pick]
                repeat (go_big_quiet_step (fail))
                refine wpQuiet_nil ?_
                clear hba
                refine held_done (by kernel_rfl) ?_
                go_wp2_with fail
                go_meet
                case rel => exact ⟨W21.heap.size, xa, xc, rfl, rfl, HC, HX, HR⟩
              · skip
                go_simp
                have hbx := World.alloc_heap_new W20 (.cells #[.slice none 0 0] 25)
                have hb : Below W20.heap.size W20 (W20.alloc (.cells #[.slice none 0 0] 25)) := (Below.refl _ W20).alloc (Nat.le_refl _) _
                have hlt : W20.heap.size < (W20.alloc (.cells #[.slice none 0 0] 25)).heap.size := by simp
                refine hK.out _ _ ((unhid HC).trans (hb.mono (unhid HC).size)) ?_
                clear hK KK
                generalize W20.alloc (.cells #[.slice none 0 0] 25) = W23 at hbx hb hlt ⊢
                have ZW23 := hid hlt
                have HC := hid ((unhid HC).trans (hb.mono (unhid HC).size))
                have HBX := hid hbx
                have K := hid ((unhid K).step hb)
                clear hb hbx hlt
                refine held_call 7 25 82 (enters_of Tryz.func25 (by kernel_rfl) rfl) #[.agg #[.slice ya Xy.length yc], .string (PackD.name p)] (by kernel_rfl) (by kernel_rfl) rfl rfl rfl rfl rfl ?_
                refine (outOut_k ((unhid K).now.2) (unhid HP).2.2.1 (unhid HP).2.1 ((unhid K).now.2).small ((unhid K).now.2).few).mono ?_
                rintro x W24 ⟨xa, xc, rfl, hkeep, hb⟩
                have HBX := hid ((hb.block _ (by have oZ0 := unhid Z0; have oZW23 := unhid ZW23; omega)).trans (unhid HBX))
                have HRK := hid hkeep
                have HC := hid ((unhid HC).trans (hb.mono (unhid HC).size))
                have ZW24 := hid (show W23.heap.size ≤ W24.heap.size from hb.size)
                clear hb hkeep
                refine ⟨_, rfl, unhid HC, ?_⟩
                simp only [Act.put, List.setIfInBounds_toArray, List.set_cons_zero, List.set_cons_succ]
                have hba : ∀ {q : Prop}, (CW (fun w' => Below W19.heap.size W19 w') → q) ↔ q := CW.all (Below.refl _ W19)
                refine held_here [false, false, false, false, false, false, false, false, true, true, true] (by kernel_rfl) (by kernel_rfl) (fun _ _ _ _ _ h => h) (unhid HC) ?_
                dsimp only [pick]
                repeat (go_big_quiet_step (fail))
                refine wpQuiet_nil ?_
                clear hba
                obtain ⟨o1, p1⟩ := cell_fz (unhid HBX) 0 _ rfl
                refine held_op 12 (by kernel_rfl) (by kernel_rfl) rfl (fun KK hK => ?_)
                go_simp
                refine hK.out _ _ ((unhid HC).setCell (show W19.heap.size ≤ W20.heap.size from by have oZ0 := unhid Z0; have oZW23 := unhid ZW23; have oZW24 := unhid ZW24; omega) _) ?_
                clear hK KK o1 p1
                have HX := hid (heap_setCell_same W24 (W20.heap.size) 0 _ _ (.slice xa Xy.length xc) (unhid HBX))
                have HC := hid ((unhid HC).setCell (p := ⟨W20.heap.size, 0, none⟩) (show W19.heap.size ≤ W20.heap.size from by have oZ0 := unhid Z0; have oZW23 := unhid ZW23; have oZW24 := unhid ZW24; omega) (.slice xa Xy.length xc))
                have HR := hid (unhid HRK (W24.setCell ⟨W20.heap.size, 0, none⟩ (.slice xa Xy.length xc)) (fun j h1 h2 => Below.heap_setCell W24 ⟨W20.heap.size, 0, none⟩ (.slice xa Xy.length xc) j (show j ≠ W20.heap.size from by have oZ0 := unhid Z0; have oZW23 := unhid ZW23; have oZW24 := unhid ZW24; omega)))
                clear HRK
                have hba : ∀ {q : Prop}, (CW (fun w' => Below W19.heap.size W19 w') → q) ↔ q := CW.all (Below.refl _ W19)
                refine held_here [false, false, false, false, false, false, false, false, false, false, false, false, false, true] (by kernel_rfl) (by kernel_rfl) (fun _ _ _ _ _ h => h) (unhid HC) ?_
                dsimp only [pick]
                repeat (go_big_quiet_step (fail))
                refine wpQuiet_nil ?_
                clear hba
                refine held_done (by kernel_rfl) ?_
                go_wp2_with fail
                go_meet
                case rel => exact ⟨W20.heap.size, xa, xc, rfl, rfl, HC, HX, HR⟩
            case rest =>
              rename World => W25
              obtain ⟨gz, za, zc, rfl, rfl, hb, hx, hr⟩ := hcut
              have K := hid ((unhid K).step (unhid hb))
              have K := hid ((unhid K).box (unhid hx))
              have K := hid ((unhid K).row (unhid hr))
              clear hb hx hr
              clear Brk0 Bxk0 Pak0 Pak1 Byk0
              have Brk0 := cell_arrS ((unhid K).now.1.1.1.1.1.1.1.1.1.2) 0 _ rfl
              have Bxk0 := cell_arrS ((unhid K).now.1.1.1.1.1.1.2) 0 _ rfl
              have Pak0 := ((unhid K).now.1.1.1.1.2).c0
              have Pak1 := ((unhid K).now.1.1.1.1.2).c1
              have Byk0 := cell_arrS ((unhid K).now.1.1.1.2) 0 _ rfl
              have Bzk0 := cell_arrS ((unhid K).now.1.2) 0 _ rfl
              go_upto_region 13 with fail
              go_cut [12, 13] from 85 to 104 (fun s12 s13 wx => ∃ (g : Nat) (xa : Option Addr) (xc : Nat), s12 = .pointer (some ⟨g, 0, none⟩) ∧ s13 = .int .i64 4 ∧ Hid (Below W25.heap.size W25 wx) ∧ Hid (wx.heap[g]? = some (.cells #[.slice xa ps.length xc] 25 (0, 0))) ∧ Hid (RR wx xa xc ps))
              case first =>
                have Brk0 : ∀ x : CW (fun w' => Below W25.heap.size W25 w'), x.w.cell? ⟨W1.heap.size, 0, none⟩ = some (.slice (some ⟨pb, po, none⟩) ps.length rc) := fun x => cell_arrS ((x.h.block _ (Array.getElem?_eq_some_iff.1 ((unhid K).now.1.1.1.1.1.1.1.1.1.2)).1).trans ((unhid K).now.1.1.1.1.1.1.1.1.1.2)) 0 _ rfl
                have Bxk0 : ∀ x : CW (fun w' => Below W25.heap.size W25 w'), x.w.cell? ⟨W8.heap.size, 0, none⟩ = some (.slice xa ps.length xc) := fun x => cell_arrS ((x.h.block _ (Array.getElem?_eq_some_iff.1 ((unhid K).now.1.1.1.1.1.1.2)).1).trans ((unhid K).now.1.1.1.1.1.1.2)) 0 _ rfl
                have Pak0 : ∀ x : CW (fun w' => Below W25.heap.size W25 w'), x.w.cell? ⟨pb, po + k * 4, none⟩ = some (.string (PackD.name p)) := fun x => (x.h.cell (p := ⟨pb, po + k * 4, none⟩) ((unhid K).now.1.1.1.1.2).lt).trans ((unhid K).now.1.1.1.1.2).c0
                have Pak1 : ∀ x : CW (fun w' => Below W25.heap.size W25 w'), x.w.cell? ⟨pb, po + k * 4 + 1, none⟩ = some (.string (PackD.version p)) := fun x => (x.h.cell (p := ⟨pb, po + k * 4 + 1, none⟩) ((unhid K).now.1.1.1.1.2).lt).trans ((unhid K).now.1.1.1.1.2).c1
                have Byk0 : ∀ x : CW (fun w' => Below W25.heap.size W25 w'), x.w.cell? ⟨gy, 0, none⟩ = some (.slice ya Xy.length yc) := fun x => cell_arrS ((x.h.block _ (Array.getElem?_eq_some_iff.1 ((unhid K).now.1.1.1.2)).1).trans ((unhid K).now.1.1.1.2)) 0 _ rfl
                have Bzk0 : ∀ x : CW (fun w' => Below W25.heap.size W25 w'), x.w.cell? ⟨gz, 0, none⟩ = some (.slice za Xy.length zc) := fun x => cell_arrS ((x.h.block _ (Array.getElem?_eq_some_iff.1 ((unhid K).now.1.2)).1).trans ((unhid K).now.1.2)) 0 _ rfl
                have hba : ∀ {q : Prop}, (CW (fun w' => Below W25.heap.size W25 w') → q) ↔ q := CW.all (Below.refl _ W25)
                refine held_begin (fun w' => Below W25.heap.size W25 w') (by kernel_rfl) (drew_belowS _) ?_
                refine held_here [true, true, true, true, true, true, true, true, true, true, true, true, true, true] (by kernel_rfl) (by kernel_rfl) (fun _ _ _ _ _ h => h) (drew_belowS _) ?_
                dsimp only [pick]
                repeat (go_big_quiet_step (fail))
                refine wpQuiet_nil ?_
                clear hba Brk0 Bxk0 Pak0 Pak1 Byk0 Bzk0
                have HC := hid (drew_belowS (B := W25.heap.size) W25)
                generalize W25.drew = W26 at HC ⊢
                have K := hid ((unhid K).step (unhid HC))
                have Z0 := hid (unhid HC).size
                refine held_op2 14 20 (by kernel_rfl) (by kernel_rfl) rfl rfl (fun KK hK => ?_) (fun KK hK => ?_)
                · skip
                  go_simp
                  have hbx := World.alloc_heap_new W26 (.cells #[.string (PackD.name p), .int .i64 3, .string (PackD.version p)] 51)
                  have hb : Below W26.heap.size W26 (W26.alloc (.cells #[.string (PackD.name p), .int .i64 3, .string (PackD.version p)] 51)) := (Below.refl _ W26).alloc (Nat.le_refl _) _
                  have hlt : W26.heap.size < (W26.alloc (.cells #[.string (PackD.name p), .int .i64 3, .string (PackD.version p)] 51)).heap.size := by simp
                  refine hK.out _ _ ((unhid HC).trans (hb.mono (unhid HC).size)) ?_
                  clear hK KK
                  generalize W26.alloc (.cells #[.string (PackD.name p), .int .i64 3, .string (PackD.version p)] 51) = W27 at hbx hb hlt ⊢
                  have ZW27 := hid hlt
                  have HC := hid ((unhid HC).trans (hb.mono (unhid HC).size))
                  have K := hid ((unhid K).step hb)
                  have K := hid ((unhid K).box hbx)
                  clear hb hbx hlt
                  have hba : ∀ {q : Prop}, (CW (fun w' => Below W25.heap.size W25 w') → q) ↔ q := CW.all (Below.refl _ W25)
                  refine held_here [false, false, false, false, false, false, false, false, false, false, false, false, false, false, false, true] (by kernel_rfl) (by kernel_rfl) (fun _ _ _ _ _ h => h) (unhid HC) ?_
                  dsimp only [pick]
                  repeat (go_big_quiet_step (fail))
                  refine wpQuiet_nil ?_
                  clear hba
                  refine held_op2 16 20 (by kernel_rfl) (by kernel_rfl) rfl rfl (fun KK hK => ?_) (fun KK hK => ?_)
                  · skip
                    refine call_op 22 102 (enters_of Tryz.func22 (by kernel_rfl) rfl) #[.agg #[.slice (some ⟨pb, po, none⟩) ps.length rc], .agg #[.string ⟨#[102, 114, 101, 115, 104]⟩, .string ⟨#[49]⟩, .slice (some ⟨W26.heap.size, 0, none⟩) 1 1, .slice none 0 0]] rfl rfl rfl rfl ?_
                    refine (implIn_k ((unhid K).now.1.1.1.1.1.1.1.1.1.1.1.2) (freshN_pr (n := asksP p 3) ((unhid K).now.2) (unhid HS).1 (unhid HS).2) (unhid HP).2.2.2.2 (unhid HP).2.2.2.1).mono ?_
                    rintro x W28 ⟨xa, xc, rfl, hkeep, hb⟩
                    have HRK := hid hkeep
                    have HC := hid ((unhid HC).trans (hb.mono (unhid HC).size))
                    have ZW28 := hid (show W27.heap.size ≤ W28.heap.size from hb.size)
                    clear hb hkeep
                    refine ⟨_, rfl, hK.out _ _ (unhid HC) ?_⟩
                    simp only [Act.put, List.setIfInBounds_toArray, List.set_cons_zero, List.set_cons_succ]
                    clear hK KK
                    have hba : ∀ {q : Prop}, (CW (fun w' => Below W25.heap.size W25 w') → q) ↔ q := CW.all (Below.refl _ W25)
                    refine held_here [false, false, false, false, false, false, false, false, false, false, false, false, false, false, false, false, false, true, true, true] (by kernel_rfl) (by kernel_rfl) (fun _ _ _ _ _ h => h) (unhid HC) ?_
                    dsimp only [pick]
                    repeat (go_big_quiet_step (fail))
                    refine wpQuiet_nil ?_
                    clear hba
                    refine held_op 20 (by kernel_rfl) (by kernel_rfl) rfl (fun KK hK => ?_)
                    go_simp
                    have hbx := World.alloc_heap_new W28 (.cells #[.slice none 0 0] 25)
                    have hb : Below W28.heap.size W28 (W28.alloc (.cells #[.slice none 0 0] 25)) := (Below.refl _ W28).alloc (Nat.le_refl _) _
                    have hlt : W28.heap.size < (W28.alloc (.cells #[.slice none 0 0] 25)).heap.size := by simp
                    refine hK.out _ _ ((unhid HC).trans (hb.mono (unhid HC).size)) ?_
                    clear hK KK
                    generalize W28.alloc (.cells #[.slice none 0 0] 25) = W29 at hbx hb hlt ⊢
                    have ZW29 := hid hlt
                    have HC := hid ((unhid HC).trans (hb.mono (unhid HC).size))
                    have HBX := hid hbx
                    have HBL := hid hb
                    clear hb hbx hlt
                    obtain ⟨o1, p1⟩ := cell_fz (unhid HBX) 0 _ rfl
                    refine held_op 21 (by kernel_rfl) (by kernel_rfl) rfl (fun KK hK => ?_)
                    go_simp
                    refine hK.out _ _ ((unhid HC).setCell (show W25.heap.size ≤ W28.heap.size from by have oZ0 := unhid Z0; have oZW27 := unhid ZW27; have oZW28 := unhid ZW28; have oZW29 := unhid ZW29; omega) _) ?_
                    clear hK KK o1 p1
                    have HX := hid (heap_setCell_same W29 (W28.heap.size) 0 _ _ (.slice xa ps.length xc) (unhid HBX))
                    have HC := hid ((unhid HC).setCell (p := ⟨W28.heap.size, 0, none⟩) (show W25.heap.size ≤ W28.heap.size from by have oZ0 := unhid Z0; have oZW27 := unhid ZW27; have oZW28 := unhid ZW28; have oZW29 := unhid ZW29; omega) (.slice xa ps.length xc))
                    have HR := hid (unhid HRK (W29.setCell ⟨W28.heap.size, 0, none⟩ (.slice xa ps.length xc)) (fun j h1 h2 => (Below.heap_setCell W29 ⟨W28.heap.size, 0, none⟩ (.slice xa ps.length xc) j (show j ≠ W28.heap.size by omega)).trans ((unhid HBL).block j h2)))
                    clear HRK
                    have hba : ∀ {q : Prop}, (CW (fun w' => Below W25.heap.size W25 w') → q) ↔ q := CW.all (Below.refl _ W25)
                    refine held_here [false, false, false, false, false, false, false, false, false, false, false, false, false, false, false, false, false, false, false, false, false, false, true] (by kernel_rfl) (by kernel_rfl) (fun _ _ _ _ _ h => h) (unhid HC) ?_
                    dsimp only [pick]
                    repeat (go_big_quiet_step (fail))
                    refine wpQuiet_nil ?_
                    clear hba
                    refine held_done (by kernel_rfl) ?_
                    go_wp2_with fail
                    go_meet
                    case rel => exact ⟨W28.heap.size, xa, xc, rfl, rfl, HC, HX, HR⟩
                  · skip
                    go_simp
                    have hbx := World.alloc_heap_new W27 (.cells #[.slice none 0 0] 25)
                    have hb : Below W27.heap.size W27 (W27.alloc (.cells #[.slice none 0 0] 25)) := (Below.refl _ W27).alloc (Nat.le_refl _) _
                    have hlt : W27.heap.size < (W27.alloc (.cells #[.slice none 0 0] 25)).heap.size := by simp
                    refine hK.out _ _ ((unhid HC).trans (hb.mono (unhid HC).size)) ?_
                    clear hK KK
                    generalize W27.alloc (.cells #[.slice none 0 0] 25) = W30 at hbx hb hlt ⊢
                    have ZW30 := hid hlt
                    have HC := hid ((unhid HC).trans (hb.mono (unhid HC).size))
                    have HBX := hid hbx
                    have K := hid ((unhid K).step hb)
                    clear hb hbx hlt
                    refine held_call 16 22 102 (enters_of Tryz.func22 (by kernel_rfl) rfl) #[.agg #[.slice (some ⟨pb, po, none⟩) ps.length rc], .agg #[.string ⟨#[102, 114, 101, 115, 104]⟩, .string ⟨#[49]⟩, .slice (some ⟨W26.heap.size, 0, none⟩) 1 1, .slice none 0 0]] (by kernel_rfl) (by kernel_rfl) rfl rfl rfl rfl rfl ?_
                    refine (implIn_k ((unhid K).now.1.1.1.1.1.1.1.1.1.1.1.2) (freshN_pr (n := asksP p 3) ((unhid K).now.2) (unhid HS).1 (unhid HS).2) (unhid HP).2.2.2.2 (unhid HP).2.2.2.1).mono ?_
                    rintro x W31 ⟨xa, xc, rfl, hkeep, hb⟩
                    have HBX := hid ((hb.block _ (by have oZ0 := unhid Z0; have oZW27 := unhid ZW27; have oZW30 := unhid ZW30; omega)).trans (unhid HBX))
                    have HRK := hid hkeep
                    have HC := hid ((unhid HC).trans (hb.mono (unhid HC).size))
                    have ZW31 := hid (show W30.heap.size ≤ W31.heap.size from hb.size)
                    clear hb hkeep
                    refine ⟨_, rfl, unhid HC, ?_⟩
                    simp only [Act.put, List.setIfInBounds_toArray, List.set_cons_zero, List.set_cons_succ]
                    have hba : ∀ {q : Prop}, (CW (fun w' => Below W25.heap.size W25 w') → q) ↔ q := CW.all (Below.refl _ W25)
                    refine held_here [false, false, false, false, false, false, false, false, false, false, false, false, false, false, false, false, false, true, true, true] (by kernel_rfl) (by kernel_rfl) (fun _ _ _ _ _ h => h) (unhid HC) ?_
                    dsimp only [pick]
                    repeat (go_big_quiet_step (fail))
                    refine wpQuiet_nil ?_
                    clear hba
                    obtain ⟨o1, p1⟩ := cell_fz (unhid HBX) 0 _ rfl
                    refine held_op 21 (by kernel_rfl) (by kernel_rfl) rfl (fun KK hK => ?_)
                    go_simp
                    refine hK.out _ _ ((unhid HC).setCell (show W25.heap.size ≤ W27.heap.size from by have oZ0 := unhid Z0; have oZW27 := unhid ZW27; have oZW30 := unhid ZW30; have oZW31 := unhid ZW31; omega) _) ?_
                    clear hK KK o1 p1
                    have HX := hid (heap_setCell_same W31 (W27.heap.size) 0 _ _ (.slice xa ps.length xc) (unhid HBX))
                    have HC := hid ((unhid HC).setCell (p := ⟨W27.heap.size, 0, none⟩) (show W25.heap.size ≤ W27.heap.size from by have oZ0 := unhid Z0; have oZW27 := unhid ZW27; have oZW30 := unhid ZW30; have oZW31 := unhid ZW31; omega) (.slice xa ps.length xc))
                    have HR := hid (unhid HRK (W31.setCell ⟨W27.heap.size, 0, none⟩ (.slice xa ps.length xc)) (fun j h1 h2 => Below.heap_setCell W31 ⟨W27.heap.size, 0, none⟩ (.slice xa ps.length xc) j (show j ≠ W27.heap.size from by have oZ0 := unhid Z0; have oZW27 := unhid ZW27; have oZW30 := unhid ZW30; have oZW31 := unhid ZW31; omega)))
                    clear HRK
                    have hba : ∀ {q : Prop}, (CW (fun w' => Below W25.heap.size W25 w') → q) ↔ q := CW.all (Below.refl _ W25)
                    refine held_here [false, false, false, false, false, false, false, false, false, false, false, false, false, false, false, false, false, false, false, false, false, false, true] (by kernel_rfl) (by kernel_rfl) (fun _ _ _ _ _ h => h) (unhid HC) ?_
                    dsimp only [pick]
                    repeat (go_big_quiet_step (fail))
                    refine wpQuiet_nil ?_
                    clear hba
                    refine held_done (by kernel_rfl) ?_
                    go_wp2_with fail
                    go_meet
                    case rel => exact ⟨W27.heap.size, xa, xc, rfl, rfl, HC, HX, HR⟩
                · skip
                  go_simp
                  have hbx := World.alloc_heap_new W26 (.cells #[.slice none 0 0] 25)
                  have hb : Below W26.heap.size W26 (W26.alloc (.cells #[.slice none 0 0] 25)) := (Below.refl _ W26).alloc (Nat.le_refl _) _
                  have hlt : W26.heap.size < (W26.alloc (.cells #[.slice none 0 0] 25)).heap.size := by simp
                  refine hK.out _ _ ((unhid HC).trans (hb.mono (unhid HC).size)) ?_
                  clear hK KK
                  generalize W26.alloc (.cells #[.slice none 0 0] 25) = W32 at hbx hb hlt ⊢
                  have ZW32 := hid hlt
                  have HC := hid ((unhid HC).trans (hb.mono (unhid HC).size))
                  have HBX := hid hbx
                  have K := hid ((unhid K).step hb)
                  clear hb hbx hlt
                  refine held_op 14 (by kernel_rfl) (by kernel_rfl) rfl (fun KK hK => ?_)
                  go_simp
                  have hbx := World.alloc_heap_new W32 (.cells #[.string (PackD.name p), .int .i64 3, .string (PackD.version p)] 51)
                  have hb : Below W32.heap.size W32 (W32.alloc (.cells #[.string (PackD.name p), .int .i64 3, .string (PackD.version p)] 51)) := (Below.refl _ W32).alloc (Nat.le_refl _) _
                  have hlt : W32.heap.size < (W32.alloc (.cells #[.string (PackD.name p), .int .i64 3, .string (PackD.version p)] 51)).heap.size := by simp
                  refine hK.out _ _ ((unhid HC).trans (hb.mono (unhid HC).size)) ?_
                  clear hK KK
                  generalize W32.alloc (.cells #[.string (PackD.name p), .int .i64 3, .string (PackD.version p)] 51) = W33 at hbx hb hlt ⊢
                  have ZW33 := hid hlt
                  have HC := hid ((unhid HC).trans (hb.mono (unhid HC).size))
                  have HBX := hid ((hb.block _ (by have oZ0 := unhid Z0; have oZW32 := unhid ZW32; omega)).trans (unhid HBX))
                  have K := hid ((unhid K).step hb)
                  have K := hid ((unhid K).box hbx)
                  clear hb hbx hlt
                  have hba : ∀ {q : Prop}, (CW (fun w' => Below W25.heap.size W25 w') → q) ↔ q := CW.all (Below.refl _ W25)
                  refine held_here [false, false, false, false, false, false, false, false, false, false, false, false, false, false, false, true] (by kernel_rfl) (by kernel_rfl) (fun _ _ _ _ _ h => h) (unhid HC) ?_
                  dsimp only [pick]
                  repeat (go_big_quiet_step (fail))
                  refine wpQuiet_nil ?_
                  clear hba
                  refine held_call 16 22 102 (enters_of Tryz.func22 (by kernel_rfl) rfl) #[.agg #[.slice (some ⟨pb, po, none⟩) ps.length rc], .agg #[.string ⟨#[102, 114, 101, 115, 104]⟩, .string ⟨#[49]⟩, .slice (some ⟨W32.heap.size, 0, none⟩) 1 1, .slice none 0 0]] (by kernel_rfl) (by kernel_rfl) rfl rfl rfl rfl rfl ?_
                  refine (implIn_k ((unhid K).now.1.1.1.1.1.1.1.1.1.1.1.2) (freshN_pr (n := asksP p 3) ((unhid K).now.2) (unhid HS).1 (unhid HS).2) (unhid HP).2.2.2.2 (unhid HP).2.2.2.1).mono ?_
                  rintro x W34 ⟨xa, xc, rfl, hkeep, hb⟩
                  have HBX := hid ((hb.block _ (by have oZ0 := unhid Z0; have oZW32 := unhid ZW32; have oZW33 := unhid ZW33; omega)).trans (unhid HBX))
                  have HRK := hid hkeep
                  have HC := hid ((unhid HC).trans (hb.mono (unhid HC).size))
                  have ZW34 := hid (show W33.heap.size ≤ W34.heap.size from hb.size)
                  clear hb hkeep
                  refine ⟨_, rfl, unhid HC, ?_⟩
                  simp only [Act.put, List.setIfInBounds_toArray, List.set_cons_zero, List.set_cons_succ]
                  have hba : ∀ {q : Prop}, (CW (fun w' => Below W25.heap.size W25 w') → q) ↔ q := CW.all (Below.refl _ W25)
                  refine held_here [false, false, false, false, false, false, false, false, false, false, false, false, false, false, false, false, false, true, true, true] (by kernel_rfl) (by kernel_rfl) (fun _ _ _ _ _ h => h) (unhid HC) ?_
                  dsimp only [pick]
                  repeat (go_big_quiet_step (fail))
                  refine wpQuiet_nil ?_
                  clear hba
                  obtain ⟨o1, p1⟩ := cell_fz (unhid HBX) 0 _ rfl
                  refine held_op 21 (by kernel_rfl) (by kernel_rfl) rfl (fun KK hK => ?_)
                  go_simp
                  refine hK.out _ _ ((unhid HC).setCell (show W25.heap.size ≤ W26.heap.size from by have oZ0 := unhid Z0; have oZW32 := unhid ZW32; have oZW33 := unhid ZW33; have oZW34 := unhid ZW34; omega) _) ?_
                  clear hK KK o1 p1
                  have HX := hid (heap_setCell_same W34 (W26.heap.size) 0 _ _ (.slice xa ps.length xc) (unhid HBX))
                  have HC := hid ((unhid HC).setCell (p := ⟨W26.heap.size, 0, none⟩) (show W25.heap.size ≤ W26.heap.size from by have oZ0 := unhid Z0; have oZW32 := unhid ZW32; have oZW33 := unhid ZW33; have oZW34 := unhid ZW34; omega) (.slice xa ps.length xc))
                  have HR := hid (unhid HRK (W34.setCell ⟨W26.heap.size, 0, none⟩ (.slice xa ps.length xc)) (fun j h1 h2 => Below.heap_setCell W34 ⟨W26.heap.size, 0, none⟩ (.slice xa ps.length xc) j (show j ≠ W26.heap.size from by have oZ0 := unhid Z0; have oZW32 := unhid ZW32; have oZW33 := unhid ZW33; have oZW34 := unhid ZW34; omega)))
                  clear HRK
                  have hba : ∀ {q : Prop}, (CW (fun w' => Below W25.heap.size W25 w') → q) ↔ q := CW.all (Below.refl _ W25)
                  refine held_here [false, false, false, false, false, false, false, false, false, false, false, false, false, false, false, false, false, false, false, false, false, false, true] (by kernel_rfl) (by kernel_rfl) (fun _ _ _ _ _ h => h) (unhid HC) ?_
                  dsimp only [pick]
                  repeat (go_big_quiet_step (fail))
                  refine wpQuiet_nil ?_
                  clear hba
                  refine held_done (by kernel_rfl) ?_
                  go_wp2_with fail
                  go_meet
                  case rel => exact ⟨W26.heap.size, xa, xc, rfl, rfl, HC, HX, HR⟩
              case rest =>
                rename World => W35
                obtain ⟨gu, ua, uc, rfl, rfl, hb, hx, hr⟩ := hcut
                have K := hid ((unhid K).step (unhid hb))
                have K := hid ((unhid K).box (unhid hx))
                have K := hid ((unhid K).row (unhid hr))
                clear hb hx hr
                clear Brk0 Bxk0 Pak0 Pak1 Byk0 Bzk0
                have Brk0 := cell_arrS ((unhid K).now.1.1.1.1.1.1.1.1.1.1.1.2) 0 _ rfl
                have Bxk0 := cell_arrS ((unhid K).now.1.1.1.1.1.1.1.1.2) 0 _ rfl
                have Pak0 := ((unhid K).now.1.1.1.1.1.1.2).c0
                have Pak1 := ((unhid K).now.1.1.1.1.1.1.2).c1
                have Byk0 := cell_arrS ((unhid K).now.1.1.1.1.1.2) 0 _ rfl
                have Bzk0 := cell_arrS ((unhid K).now.1.1.1.2) 0 _ rfl
                have Buk0 := cell_arrS ((unhid K).now.1.2) 0 _ rfl
                go_wp2_with fail
                clear Brk0 Bxk0 Pak0 Pak1 Byk0 Bzk0 Buk0
                go_roundw
                case rel => exact ⟨k + 1, by omega, by go_num, hid ((unhid K).now.1.1.1.1.1.1.1.2)⟩
                case measure => simp [intOf]; omega
        · have hlt2 : ¬ k < ps.length := hlt
          have Brk0 := cell_arrS ((unhid K).now.1.1.1.1.2) 0 _ rfl
          have Bxk0 := cell_arrS ((unhid K).now.1.2) 0 _ rfl
          go_wp2_with fail
          clear Brk0 Bxk0
          refine (jsRoot_r ((unhid K).now.1.1.2) ((unhid K).now.1.1.1.1.1.2)).mono ?_
          rintro e W36 ⟨rfl, hb⟩
          have K := hid ((unhid K).step hb)
          clear hb
          have Brk0 := cell_arrS ((unhid K).now.1.1.1.1.2) 0 _ rfl
          have Bxk0 := cell_arrS ((unhid K).now.1.2) 0 _ rfl
          go_wp2_with fail
          clear Brk0 Bxk0
          go_ret
          exact ⟨rfl, (unhid K).now.1.1.1.1.1.1⟩

set_option maxRecDepth 100000 in
set_option maxHeartbeats 1000000 in
theorem lifted_FnRootNeeds (os : Os) (started : os.Started) (H : Type) (enc : TypeId × Value → H) :
    ReturnsInHanded {} Tryz.checked os 9 .any (Rows.fnRootNeedsSpec.pre6 enc Tryz.prog Tryz.f9 Rows.fnRootNeedsRow.domain false) (Rows.fnRootNeedsSpec.post enc Tryz.prog Tryz.f9 false true false false) := by
  refine returnsInHanded_of_change (C := Tryz.checked) own started (by kernel_rfl) Tryz.func9
    (ChangeSpec.witness6 (enc := enc) (C := Tryz.checked) false ⟨#[], #[.slice none 0 0], []⟩ 8 (by kernel_rfl) (by kernel_rfl) (by kernel_rfl) (by kernel_rfl)) ?_
  intro W base args ds gs before hval0 hW _ _
  have hval : ∀ (j : Nat) t v, Tryz.f9.params[j]? = some t → args[j]? = some v → Value.okWide Tryz.prog W .any base t v := hval0
  have hW' := hW
  obtain ⟨p, q, hA0, hV, rfl, hfz, hnd⟩ := hW
  have hA : DataW.TrodAll enc Tryz.prog W 0 (fun _ => true) true Tryz.f9.params.toList args.toList ds p := hA0
  rw [Tryz.params9] at hA hval
  obtain ⟨v0, vs0, d0, ds0, p0, q0, e0, rfl, rfl, h0, r0⟩ := trodAll_cons hA
  obtain ⟨rfl, rfl, rfl⟩ := trodAll_nil r0
  obtain rfl : args = #[v0] := by cases args; simp_all
  obtain ⟨rfl, rfl⟩ := trodVars_none hV
  have hlt : ∀ x ∈ p0, x.block < W.heap.size := fun x hx => by simpa using hW'.lt x (by simpa using hx)
  have t0 := h0
  have l0 : ∀ x ∈ p0, x.block < W.heap.size := fun x hx => hlt x (by simp [hx])
  obtain ⟨a0, len0, cap0, rfl⟩ := okWide_slice Tryz.underlying22 (hval 0 22 v0 rfl rfl)
  obtain ⟨hc0, hn0⟩ := code_of h0 l0
  clear hA0 hval0
  refine (walk_FnRootNeeds a0 len0 cap0 W hc0 hn0).mono fun e W' ⟨he, hb⟩ => ?_
  subst he
  exact ⟨_, rfl, post_below (gs := []) (pv := []) hW' (fun _ _ _ => trodAll_cons_mk (shut_bool Tryz.underlying4 _) trodAll_mk0) (trodAll_cons_mk (Below.trod laidOut (by kernel_rfl) (of_decide_eq_true (by kernel_rfl)) t0 hb l0) trodAll_mk0) rfl (by simp) hb⟩

theorem fnRootNeeds_holds : Rows.FnRootNeedsSaid :=
  OpenClaim.holds_of_wide 9 Tryz.f9 rfl rfl rfl rfl rfl rfl rfl ⟨rfl, rfl, rfl, rfl, rfl⟩ rfl rfl rfl rfl rfl (by kernel_rfl) Tryz.func9 (by kernel_rfl)
    (of_decide_eq_true (by kernel_rfl)) (by unfold Func.isWrapper; first | (rw [if_pos (by decide +kernel)]; kernel_rfl) | (rw [if_neg (by decide +kernel)]; exact ⟨rfl, rfl⟩))
    (fun os started H enc _ => lifted_FnRootNeeds os started H enc)
end Go.Proofs.YtoljhgkgppjdcaaGreat
