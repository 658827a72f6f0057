/- What is of one pack is put in by no other one. -/
import Derived.Test.YtoljhgkgppjdcaaGreatJoin16
import Derived.Deep.CutBlock
namespace Go.Proofs.YtoljhgkgppjdcaaGreat
open Go.ChangeShapes Go.WideShapes Go.ChangeAt Go.RowKit Go.Shelf

set_option maxRecDepth 100000 in
set_option maxHeartbeats 16000000 in
theorem walk_FnRootClash (a0 : Option Addr) (len0 cap0 : Nat) (w : World) (h0 : Code w w.heap.size a0 len0) (hc0 : len0 ≤ cap0) :
    Calls Tryz.prog 8 #[.slice a0 len0 cap0] w fun e w' => e = .returned (.bool true) ∧ Below w.heap.size w w' := by
  have H0 := hid h0
  clear h0
  by_cases hl0 : (1048576 : Int) < len0
  · go_enter Tryz.func8, Tryz.ntmps8
    go_wp2_with fail
    go_ret
    exact ⟨rfl, Below.refl _ _⟩
  go_enter Tryz.func8, Tryz.ntmps8
  have K := hid (KW.start w)
  go_wp2_with fail
  refine (DrawRootTree_any w a0 len0 cap0 (code_on (unhid H0) ((unhid K).now)) (by omega) hc0).mono ?_
  rintro e W1 ⟨v, ps, rfl, hD, hb⟩
  obtain ⟨ra, rc, rfl, hr⟩ := dr_rr hD
  have K := hid ((unhid K).step hb)
  have K := hid ((unhid K).row hr)
  have Dr := hid hD.ok
  clear hb hr hD
  go_wp2_with fail
  have hx0 := World.alloc_heap_new W1 (.cells #[.slice ra ps.length rc] 25)
  have hb := (Below.refl W1.heap.size W1).alloc (Nat.le_refl _) (.cells #[.slice ra ps.length rc] 25)
  generalize (W1.alloc (.cells #[.slice ra ps.length rc] 25)) = W2 at hx0 hb ⊢
  have K := hid ((unhid K).step hb)
  have K := hid ((unhid K).box hx0)
  clear hb hx0
  refine (implOk_r ((unhid K).now.1.2)).mono ?_
  rintro e W3 ⟨rfl, hb⟩
  have K := hid ((unhid K).step hb)
  clear hb
  have Brk0 := cell_arrS ((unhid K).now.2) 0 _ rfl
  go_wp2_with fail
  clear Brk0
  refine (specOk_r ((unhid K).now.1.2)).mono ?_
  rintro e W4 ⟨rfl, hb⟩
  have K := hid ((unhid K).step hb)
  clear hb
  cases hok : rootOk_0 ⟨ps⟩
  case false =>
    have HOK := hid hok
    clear hok
    have Brk0 := cell_arrS ((unhid K).now.2) 0 _ rfl
    go_wp2_with fail
    clear Brk0
    refine (show Calls Tryz.prog 18 #[.agg #[.slice ra ps.length rc]] W4 fun x w' => x = .returned (.bool false) ∧ Below W4.heap.size W4 w' from (specOk_r ((unhid K).now.1.2)).mono (fun _ _ h => ⟨by rw [h.1, unhid HOK], h.2⟩)).mono ?_
    rintro e W5 ⟨rfl, hb⟩
    have K := hid ((unhid K).step hb)
    clear hb
    have Brk0 := cell_arrS ((unhid K).now.2) 0 _ rfl
    go_wp2_with fail
    clear Brk0
    go_ret
    exact ⟨rfl, (unhid K).now.1.1⟩
  case true =>
    have HOK := hid hok
    clear hok
    by_cases hl : (5 : Int) ≤ ps.length
    · skip
      have Brk0 := cell_arrS ((unhid K).now.2) 0 _ rfl
      go_wp2_with fail
      clear Brk0
      refine (show Calls Tryz.prog 18 #[.agg #[.slice ra ps.length rc]] W4 fun x w' => x = .returned (.bool true) ∧ Below W4.heap.size W4 w' from (specOk_r ((unhid K).now.1.2)).mono (fun _ _ h => ⟨by rw [h.1, unhid HOK], h.2⟩)).mono ?_
      rintro e W6 ⟨rfl, hb⟩
      have K := hid ((unhid K).step hb)
      clear hb
      have Brk0 := cell_arrS ((unhid K).now.2) 0 _ rfl
      go_wp2_with fail
      clear Brk0
      go_ret
      exact ⟨rfl, (unhid K).now.1.1⟩
    · skip
      have HL := hid (show ps.length < 5 by omega)
      have HCL := hid (fun p hp => clash_law (unhid HOK) (unhid HL) (fun q hq => ((unhid Dr) q hq).name) (p := p) hp)
      have K := hid ((unhid K).mark)
      have Brk0 := cell_arrS ((unhid K).now.1.2) 0 _ rfl
      go_wp2_with fail
      clear Brk0
      go_loopw [5] (fun i wr => ∃ k : Nat, k ≤ ps.length ∧ i = .int .i64 (k : Int) ∧ Hid (Below W4.heap.size W4 wr)) (fun i _ => ps.length - (intOf i).toNat)
      case atStart => exact ⟨0, Nat.zero_le _, rfl, hid (Below.refl _ _)⟩
      case round =>
        obtain ⟨k, hk, rfl, HBr⟩ := hrel
        have hb := unhid HBr
        have K := hid ((unhid K).step hb)
        clear hb HBr
        by_cases hlt : k < ps.length
        · obtain ⟨p, hp⟩ : ∃ p, ps[k]? = some p := ⟨ps[k], List.getElem?_eq_getElem hlt⟩
          obtain ⟨pb, po, na, nc, ta, tc, hra, hpa⟩ := RR.get ((unhid K).now.1.1.2) hp
          subst hra
          have K := hid ((unhid K).pa hpa)
          clear hpa
          have htr := (PR.tree ((unhid K).now.2).pr).2
          have htl : (treeOfP p).length ≤ 1048576 := ((unhid K).now.2).pr.small.tree.1
          obtain ⟨kx, Hkx⟩ : ∃ x, Hid (rootInC ⟨ps⟩ (freshP p) = x) := ⟨_, hid rfl⟩
          obtain ⟨Xx, HXx⟩ : ∃ x, Hid (rootInP ⟨ps⟩ (freshP p) = x) := ⟨_, hid rfl⟩
          have HP := hid ((unhid HCL) p (List.mem_of_getElem? hp))
          clear hp
          have K := hid ((unhid K).mark)
          have Brk0 := cell_arrS ((unhid K).now.1.1.1.2) 0 _ rfl
          have Pak0 := ((unhid K).now.1.2).c3
          go_wp2_with fail
          clear Brk0 Pak0
          go_loopw [6, 7] (fun f j wi => ∃ m : Nat, m ≤ (treeOfP p).length ∧ f = .bool (anyFile ((treeOfP p).take m)) ∧ j = .int .i64 (m : Int) ∧ Hid (Below wr.heap.size wr wi)) (fun _ j _ => (treeOfP p).length - (intOf j).toNat)
          case atStart => exact ⟨0, Nat.zero_le _, rfl, rfl, hid (Below.refl _ _)⟩
          case round =>
            obtain ⟨m, hm, rfl, rfl, HBi⟩ := hrel
            have hb := unhid HBi
            have K := hid ((unhid K).step hb)
            clear hb HBi
            by_cases hlm : m < (treeOfP p).length
            · have hne0 : treeOfP p ≠ [] := by intro e; rw [e] at hlm; simp at hlm
              obtain ⟨e, he⟩ : ∃ e, (treeOfP p)[m]? = some e := ⟨(treeOfP p)[m], List.getElem?_eq_getElem hlm⟩
              have hlm2 : m < (PackD.tree p).length := by omega
              obtain ⟨eb, eo, hta, hbl, hc⟩ := (PR.tree ((unhid K).now.1.2).pr).1.get hne0
              have hce := hc m e he
              subst hta
              obtain ⟨-, d1, -, -⟩ := hce
              clear hc hne0 hbl
              have hat := anyFile_take he
              clear he
              cases hf : anyFile ((treeOfP p).take m)
              case false =>
                rw [hf] at hat
                have HAT := hid hat
                clear hat
                have Brk0 := cell_arrS ((unhid K).now.1.1.1.2) 0 _ rfl
                have Pak0 := ((unhid K).now.1.2).c3
                go_wp2_with fail
                clear Brk0 Pak0
                go_roundw
                case rel => exact ⟨m + 1, by omega, by rw [unhid HAT]; rfl, by go_num, hid ((unhid K).now.2)⟩
                case measure => simp [intOf]; omega
              case true =>
                rw [hf] at hat
                have HAT := hid hat
                clear hat
                have Brk0 := cell_arrS ((unhid K).now.1.1.1.2) 0 _ rfl
                have Pak0 := ((unhid K).now.1.2).c3
                go_wp2_with fail
                clear Brk0 Pak0
                go_roundw
                case rel => exact ⟨m + 1, by omega, by rw [unhid HAT]; rfl, by go_num, hid ((unhid K).now.2)⟩
                case measure => simp [intOf]; omega
            · have em : m = (PackD.tree p).length := by omega
              subst em
              have htk : (treeOfP p).take (PackD.tree p).length = treeOfP p := by rw [← htr, List.take_length]
              rw [htk]
              clear htk htr hlm hm htl
              have Brk0 := cell_arrS ((unhid K).now.1.1.1.2) 0 _ rfl
              have Pak0 := ((unhid K).now.1.2).c3
              go_upto_region 15 with fail
              go_cut [8, 9] from 67 to 78 (fun s8 s9 wx => ∃ (g : Nat) (xa : Option Addr) (xc : Nat), s8 = .pointer (some ⟨g, 0, none⟩) ∧ s9 = .int .i64 kx ∧ Hid (Below wr.heap.size wr wx) ∧ Hid (wx.heap[g]? = some (.cells #[.slice xa Xx.length xc] 25 (0, 0))) ∧ Hid (RR wx xa xc Xx))
              case first =>
                have Brk0 : ∀ x : CW (fun w' => Below wr.heap.size wr w'), x.w.cell? ⟨W1.heap.size, 0, none⟩ = some (.slice (some ⟨pb, po, none⟩) ps.length rc) := fun x => cell_arrS ((x.h.block _ (Array.getElem?_eq_some_iff.1 ((unhid K).now.1.1.1.2)).1).trans ((unhid K).now.1.1.1.2)) 0 _ rfl
                have Pak0 : ∀ x : CW (fun w' => Below wr.heap.size wr w'), x.w.cell? ⟨pb, po + k * 4 + 3, none⟩ = some (.slice ta (PackD.tree p).length tc) := fun x => (x.h.cell (p := ⟨pb, po + k * 4 + 3, none⟩) ((unhid K).now.1.2).lt).trans ((unhid K).now.1.2).c3
                have hba : ∀ {q : Prop}, (CW (fun w' => Below wr.heap.size wr w') → q) ↔ q := CW.all (Below.refl _ wr)
                refine held_begin (fun w' => Below wr.heap.size wr w') (by kernel_rfl) (drew_belowS _) ?_
                refine held_here [true, true, true, true, true, true, true, true] (by kernel_rfl) (by kernel_rfl) (fun _ _ _ _ _ h => h) (drew_belowS _) ?_
                dsimp only [pick]
                repeat (go_big_quiet_step (fail))
                refine wpQuiet_nil ?_
                clear hba Brk0 Pak0
                have HC := hid (drew_belowS (B := wr.heap.size) wr)
                generalize wr.drew = W7 at HC ⊢
                have K := hid ((unhid K).step (unhid HC))
                have Z0 := hid (unhid HC).size
                refine held_op2 8 12 (by kernel_rfl) (by kernel_rfl) rfl rfl (fun KK hK => ?_) (fun KK hK => ?_)
                · refine call_op 22 76 (enters_of Tryz.func22 (by kernel_rfl) rfl) #[.agg #[.slice (some ⟨pb, po, none⟩) ps.length rc], .agg #[.string ⟨#[102, 114, 101, 115, 104]⟩, .string ⟨#[49]⟩, .slice none 0 0, .slice ta (PackD.tree p).length tc]] rfl rfl rfl rfl ?_
                  refine (implIn_k ((unhid K).now.1.1.1.1.2) ((unhid K).now.1.2).pr.fresh (unhid HXx) (unhid Hkx)).mono ?_
                  rintro x W8 ⟨xa, xc, rfl, hkeep, hb⟩
                  have HRK := hid hkeep
                  have HC := hid ((unhid HC).trans (hb.mono (unhid HC).size))
                  have Z1 := hid (show W7.heap.size ≤ W8.heap.size from hb.size)
                  clear hb hkeep
                  refine ⟨_, rfl, hK.out _ _ (unhid HC) ?_⟩
                  simp only [Act.put, List.setIfInBounds_toArray, List.set_cons_zero, List.set_cons_succ]
                  clear hK KK
                  have hba : ∀ {q : Prop}, (CW (fun w' => Below wr.heap.size wr w') → q) ↔ q := CW.all (Below.refl _ wr)
                  refine held_here [false, false, false, false, false, false, false, false, false, true, true, true] (by kernel_rfl) (by kernel_rfl) (fun _ _ _ _ _ h => h) (unhid HC) ?_
                  dsimp only [pick]
                  repeat (go_big_quiet_step (fail))
                  refine wpQuiet_nil ?_
                  clear hba
                  refine held_op 12 (by kernel_rfl) (by kernel_rfl) rfl (fun KK hK => ?_)
                  go_simp
                  have hbx := World.alloc_heap_new W8 (.cells #[.slice none 0 0] 25)
                  have hb : Below W8.heap.size W8 (W8.alloc (.cells #[.slice none 0 0] 25)) := (Below.refl _ W8).alloc (Nat.le_refl _) _
                  have hlt : W8.heap.size < (W8.alloc (.cells #[.slice none 0 0] 25)).heap.size := by simp
                  refine hK.out _ _ ((unhid HC).trans (hb.mono (unhid HC).size)) ?_
                  clear hK KK
                  generalize W8.alloc (.cells #[.slice none 0 0] 25) = W9 at hbx hb hlt ⊢
                  have HBX := hid hbx
                  have Z2 := hid hlt
                  have HC := hid ((unhid HC).trans (hb.mono (unhid HC).size))
                  have HBL := hid hb
                  clear hb hbx hlt
                  obtain ⟨o1, p1⟩ := cell_fz (unhid HBX) 0 _ rfl
                  refine held_op 13 (by kernel_rfl) (by kernel_rfl) rfl (fun KK hK => ?_)
                  go_simp
                  refine hK.out _ _ ((unhid HC).setCell (show wr.heap.size ≤ W8.heap.size from by have oZ0 := unhid Z0; have oZ1 := unhid Z1; have oZ2 := unhid Z2; omega) _) ?_
                  clear hK KK o1 p1
                  have HX := hid (heap_setCell_same W9 (W8.heap.size) 0 _ _ (.slice xa Xx.length xc) (unhid HBX))
                  have HC := hid ((unhid HC).setCell (p := ⟨W8.heap.size, 0, none⟩) (show wr.heap.size ≤ W8.heap.size from by have oZ0 := unhid Z0; have oZ1 := unhid Z1; have oZ2 := unhid Z2; omega) (.slice xa Xx.length xc))
                  have HR := hid (unhid HRK (W9.setCell ⟨W8.heap.size, 0, none⟩ (.slice xa Xx.length xc)) (fun j _ h2 => (Below.heap_setCell W9 ⟨W8.heap.size, 0, none⟩ (.slice xa Xx.length xc) j (show j ≠ W8.heap.size by omega)).trans ((unhid HBL).block j h2)))
                  clear HRK
                  have hba : ∀ {q : Prop}, (CW (fun w' => Below wr.heap.size wr w') → q) ↔ q := CW.all (Below.refl _ wr)
                  refine held_here [false, false, false, false, false, false, false, false, false, false, false, false, false, false, true] (by kernel_rfl) (by kernel_rfl) (fun _ _ _ _ _ h => h) (unhid HC) ?_
                  dsimp only [pick]
                  repeat (go_big_quiet_step (fail))
                  refine wpQuiet_nil ?_
                  clear hba
                  refine held_done (by kernel_rfl) ?_
                  go_wp2_with fail
                  go_meet
                  case rel => exact ⟨W8.heap.size, xa, xc, rfl, rfl, HC, HX, HR⟩
                · skip
                  go_simp
                  have hbx := World.alloc_heap_new W7 (.cells #[.slice none 0 0] 25)
                  have hb : Below W7.heap.size W7 (W7.alloc (.cells #[.slice none 0 0] 25)) := (Below.refl _ W7).alloc (Nat.le_refl _) _
                  have hlt : W7.heap.size < (W7.alloc (.cells #[.slice none 0 0] 25)).heap.size := by simp
                  refine hK.out _ _ ((unhid HC).trans (hb.mono (unhid HC).size)) ?_
                  clear hK KK
                  generalize W7.alloc (.cells #[.slice none 0 0] 25) = W10 at hbx hb hlt ⊢
                  have HBX := hid hbx
                  have Z1 := hid hlt
                  have HC := hid ((unhid HC).trans (hb.mono (unhid HC).size))
                  have K := hid ((unhid K).step hb)
                  clear hb hbx hlt
                  refine held_call 8 22 76 (enters_of Tryz.func22 (by kernel_rfl) rfl) #[.agg #[.slice (some ⟨pb, po, none⟩) ps.length rc], .agg #[.string ⟨#[102, 114, 101, 115, 104]⟩, .string ⟨#[49]⟩, .slice none 0 0, .slice ta (PackD.tree p).length tc]] (by kernel_rfl) (by kernel_rfl) rfl rfl rfl rfl rfl ?_
                  refine (implIn_k ((unhid K).now.1.1.1.1.2) ((unhid K).now.1.2).pr.fresh (unhid HXx) (unhid Hkx)).mono ?_
                  rintro x W11 ⟨xa, xc, rfl, hkeep, hb⟩
                  have HBX := hid ((hb.block _ (unhid Z1)).trans (unhid HBX))
                  have HRK := hid hkeep
                  have HC := hid ((unhid HC).trans (hb.mono (unhid HC).size))
                  clear hb hkeep
                  refine ⟨_, rfl, unhid HC, ?_⟩
                  simp only [Act.put, List.setIfInBounds_toArray, List.set_cons_zero, List.set_cons_succ]
                  have hba : ∀ {q : Prop}, (CW (fun w' => Below wr.heap.size wr w') → q) ↔ q := CW.all (Below.refl _ wr)
                  refine held_here [false, false, false, false, false, false, false, false, false, true, true, true] (by kernel_rfl) (by kernel_rfl) (fun _ _ _ _ _ h => h) (unhid HC) ?_
                  dsimp only [pick]
                  repeat (go_big_quiet_step (fail))
                  refine wpQuiet_nil ?_
                  clear hba
                  obtain ⟨o1, p1⟩ := cell_fz (unhid HBX) 0 _ rfl
                  refine held_op 13 (by kernel_rfl) (by kernel_rfl) rfl (fun KK hK => ?_)
                  go_simp
                  refine hK.out _ _ ((unhid HC).setCell (show wr.heap.size ≤ W7.heap.size from by have oZ0 := unhid Z0; have oZ1 := unhid Z1; omega) _) ?_
                  clear hK KK o1 p1
                  have HX := hid (heap_setCell_same W11 (W7.heap.size) 0 _ _ (.slice xa Xx.length xc) (unhid HBX))
                  have HC := hid ((unhid HC).setCell (p := ⟨W7.heap.size, 0, none⟩) (show wr.heap.size ≤ W7.heap.size from by have oZ0 := unhid Z0; have oZ1 := unhid Z1; omega) (.slice xa Xx.length xc))
                  have HR := hid (unhid HRK (W11.setCell ⟨W7.heap.size, 0, none⟩ (.slice xa Xx.length xc)) (fun j h1 _ => Below.heap_setCell W11 ⟨W7.heap.size, 0, none⟩ (.slice xa Xx.length xc) j (show j ≠ W7.heap.size by have oZ := unhid Z1; omega)))
                  clear HRK
                  have hba : ∀ {q : Prop}, (CW (fun w' => Below wr.heap.size wr w') → q) ↔ q := CW.all (Below.refl _ wr)
                  refine held_here [false, false, false, false, false, false, false, false, false, false, false, false, false, false, true] (by kernel_rfl) (by kernel_rfl) (fun _ _ _ _ _ h => h) (unhid HC) ?_
                  dsimp only [pick]
                  repeat (go_big_quiet_step (fail))
                  refine wpQuiet_nil ?_
                  clear hba
                  refine held_done (by kernel_rfl) ?_
                  go_wp2_with fail
                  go_meet
                  case rel => exact ⟨W7.heap.size, xa, xc, rfl, rfl, HC, HX, HR⟩
              case rest =>
                rename World => W12
                obtain ⟨gx, xa, xc, rfl, rfl, hb, hx, hr⟩ := hcut
                have K := hid ((unhid K).step (unhid hb))
                have K := hid ((unhid K).box (unhid hx))
                have K := hid ((unhid K).row (unhid hr))
                clear hb hx hr
                clear Brk0 Pak0
                obtain ⟨fl, HFL⟩ : ∃ b, Hid (anyFile (treeOfP p) = b) := ⟨_, hid rfl⟩
                rw [unhid HFL]
                cases fl
                case false =>
                  have hk0 : kx = 0 := by rw [← unhid Hkx, unhid HP, unhid HFL]; rfl
                  subst hk0
                  have Brk0 := cell_arrS ((unhid K).now.1.1.1.1.1.2) 0 _ rfl
                  have Pak0 := ((unhid K).now.1.1.1.2).c3
                  have Bxk0 := cell_arrS ((unhid K).now.1.2) 0 _ rfl
                  go_wp2_with fail
                  clear Brk0 Pak0 Bxk0
                  go_roundw
                  case rel => exact ⟨k + 1, by omega, by go_num, hid ((unhid K).now.1.1.1.1.2)⟩
                  case measure => simp [intOf]; omega
                case true =>
                  have hk5 : kx = 5 := by rw [← unhid Hkx, unhid HP, unhid HFL]; rfl
                  subst hk5
                  have hxr : Xx = ps := (unhid HXx).symm.trans (rin_not (unhid HOK) (by rw [unhid Hkx]; decide))
                  subst hxr
                  have Brk0 := cell_arrS ((unhid K).now.1.1.1.1.1.2) 0 _ rfl
                  have Pak0 := ((unhid K).now.1.1.1.2).c3
                  have Bxk0 := cell_arrS ((unhid K).now.1.2) 0 _ rfl
                  go_wp2_with fail
                  clear Brk0 Pak0 Bxk0
                  refine (jsRoot_r ((unhid K).now.2) ((unhid K).now.1.1.1.1.1.1.2)).mono ?_
                  rintro e W13 ⟨rfl, hb⟩
                  have K := hid ((unhid K).step hb)
                  clear hb
                  have Brk0 := cell_arrS ((unhid K).now.1.1.1.1.1.2) 0 _ rfl
                  have Pak0 := ((unhid K).now.1.1.1.2).c3
                  have Bxk0 := cell_arrS ((unhid K).now.1.2) 0 _ rfl
                  go_wp2_with fail
                  clear Brk0 Pak0 Bxk0
                  go_roundw
                  case rel => exact ⟨k + 1, by omega, by go_num, hid ((unhid K).now.1.1.1.1.2)⟩
                  case measure => simp [intOf]; omega
        · have hlt2 : ¬ k < ps.length := hlt
          have Brk0 := cell_arrS ((unhid K).now.1.2) 0 _ rfl
          go_wp2_with fail
          clear Brk0
          go_ret
          exact ⟨rfl, (unhid K).now.1.1.1⟩

set_option maxRecDepth 100000 in
set_option maxHeartbeats 1000000 in
theorem lifted_FnRootClash (os : Os) (started : os.Started) (H : Type) (enc : TypeId × Value → H) :
    ReturnsInHanded {} Tryz.checked os 8 .any (Rows.fnRootClashSpec.pre6 enc Tryz.prog Tryz.f8 Rows.fnRootClashRow.domain false) (Rows.fnRootClashSpec.post enc Tryz.prog Tryz.f8 false true false false) := by
  refine returnsInHanded_of_change (C := Tryz.checked) own started (by kernel_rfl) Tryz.func8
    (ChangeSpec.witness6 (enc := enc) (C := Tryz.checked) false ⟨#[], #[.slice none 0 0], []⟩ 8 (by kernel_rfl) (by kernel_rfl) (by kernel_rfl) (by kernel_rfl)) ?_
  intro W base args ds gs before hval0 hW _ _
  have hval : ∀ (j : Nat) t v, Tryz.f8.params[j]? = some t → args[j]? = some v → Value.okWide Tryz.prog W .any base t v := hval0
  have hW' := hW
  obtain ⟨p, q, hA0, hV, rfl, hfz, hnd⟩ := hW
  have hA : DataW.TrodAll enc Tryz.prog W 0 (fun _ => true) true Tryz.f8.params.toList args.toList ds p := hA0
  rw [Tryz.params8] at hA hval
  obtain ⟨v0, vs0, d0, ds0, p0, q0, e0, rfl, rfl, h0, r0⟩ := trodAll_cons hA
  obtain ⟨rfl, rfl, rfl⟩ := trodAll_nil r0
  obtain rfl : args = #[v0] := by cases args; simp_all
  obtain ⟨rfl, rfl⟩ := trodVars_none hV
  have hlt : ∀ x ∈ p0, x.block < W.heap.size := fun x hx => by simpa using hW'.lt x (by simpa using hx)
  have t0 := h0
  have l0 : ∀ x ∈ p0, x.block < W.heap.size := fun x hx => hlt x (by simp [hx])
  obtain ⟨a0, len0, cap0, rfl⟩ := okWide_slice Tryz.underlying22 (hval 0 22 v0 rfl rfl)
  obtain ⟨hc0, hn0⟩ := code_of h0 l0
  clear hA0 hval0
  refine (walk_FnRootClash a0 len0 cap0 W hc0 hn0).mono fun e W' ⟨he, hb⟩ => ?_
  subst he
  exact ⟨_, rfl, post_below (gs := []) (pv := []) hW' (fun _ _ _ => trodAll_cons_mk (shut_bool Tryz.underlying4 _) trodAll_mk0) (trodAll_cons_mk (Below.trod laidOut (by kernel_rfl) (of_decide_eq_true (by kernel_rfl)) t0 hb l0) trodAll_mk0) rfl (by simp) hb⟩

theorem fnRootClash_holds : Rows.FnRootClashSaid :=
  OpenClaim.holds_of_wide 8 Tryz.f8 rfl rfl rfl rfl rfl rfl rfl ⟨rfl, rfl, rfl, rfl, rfl⟩ rfl rfl rfl rfl rfl (by kernel_rfl) Tryz.func8 (by kernel_rfl)
    (of_decide_eq_true (by kernel_rfl)) (by unfold Func.isWrapper; first | (rw [if_pos (by decide +kernel)]; kernel_rfl) | (rw [if_neg (by decide +kernel)]; exact ⟨rfl, rfl⟩))
    (fun os started H enc _ => lifted_FnRootClash os started H enc)
end Go.Proofs.YtoljhgkgppjdcaaGreat
