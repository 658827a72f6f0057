/- Texts of this proof, one behind the other; each says at its head what it shows. -/
import Derived.Test.YtoihhlkidlapmaaGreatJoin15
import Derived.Deep.CutBlock
namespace Go.Proofs.YtoihhlkidlapmaaGreat
open Go.ChangeShapes Go.WideShapes Go.ChangeAt Go.RowKit Go.Shelf
set_option maxRecDepth 100000 in
set_option maxHeartbeats 16000000 in
theorem walk_FnRootOutAll (a0 : Option Addr) (len0 cap0 : Nat) (w : World) (h0 : Code w w.heap.size a0 len0) (hc0 : len0 ≤ cap0) :
    Calls Tryz.prog 11 #[.slice a0 len0 cap0] w fun e w' => e = .returned (.bool true) ∧ Below w.heap.size w w' := by
  have H0 := hid h0
  clear h0
  by_cases hl0 : (1048576 : Int) < len0
  · go_enter Tryz.func11, Tryz.ntmps11
    go_wp2_with fail
    go_ret
    exact ⟨rfl, Below.refl _ _⟩
  go_enter Tryz.func11, Tryz.ntmps11
  have K := hid (KW.start w)
  go_wp2_with fail
  refine (DrawRootTree_any w a0 len0 cap0 (code_on (unhid H0) ((unhid K).now)) (by omega) hc0).mono ?_
  rintro e W1 ⟨v, ps, rfl, hD, hb⟩
  obtain ⟨ra, rc, rfl, hr⟩ := dr_rr hD
  have K := hid ((unhid K).step hb)
  have K := hid ((unhid K).row hr)
  have Dr := hid hD.ok
  clear hb hr hD
  go_wp2_with fail
  have hx0 := World.alloc_heap_new W1 (.cells #[.slice ra ps.length rc] 51)
  have hb := (Below.refl W1.heap.size W1).alloc (Nat.le_refl _) (.cells #[.slice ra ps.length rc] 51)
  generalize (W1.alloc (.cells #[.slice ra ps.length rc] 51)) = W2 at hx0 hb ⊢
  have K := hid ((unhid K).step hb)
  have K := hid ((unhid K).box hx0)
  clear hb hx0
  refine (implOk_r ((unhid K).now.1.2)).mono ?_
  rintro e W3 ⟨rfl, hb⟩
  have K := hid ((unhid K).step hb)
  clear hb
  obtain ⟨ok, HOK⟩ : ∃ b, Hid (rootOk_0 ⟨ps⟩ = b) := ⟨_, hid rfl⟩
  rw [unhid HOK]
  have Brk0 := cell_arrS ((unhid K).now.2) 0 _ rfl
  go_wp2_with fail
  clear Brk0
  refine (specOk_r ((unhid K).now.1.2)).mono ?_
  rintro e W4 ⟨rfl, hb⟩
  have K := hid ((unhid K).step hb)
  clear hb
  rw [unhid HOK]
  cases ok
  case false =>
    have Brk0 := cell_arrS ((unhid K).now.2) 0 _ rfl
    go_wp2_with fail
    clear Brk0
    refine (specOk_r ((unhid K).now.1.2)).mono ?_
    rintro e W5 ⟨rfl, hb⟩
    have K := hid ((unhid K).step hb)
    clear hb
    rw [unhid HOK]
    have Brk0 := cell_arrS ((unhid K).now.2) 0 _ rfl
    go_wp2_with fail
    clear Brk0
    go_ret
    exact ⟨rfl, (unhid K).now.1.1⟩
  case true =>
    have hco := ok_0.1 (unhid HOK)
    have HCO := hid hco
    have hfew := ((unhid K).now.1.2).few
    have HSM := hid ((unhid K).now.1.2).small
    clear hco
    have Brk0 := cell_arrS ((unhid K).now.2) 0 _ rfl
    go_wp2_with fail
    clear Brk0
    have hO := ownsRow_made0 W4
    have hB := (Below.refl W4.heap.size W4).alloc (Nat.le_refl _) (.cells #[] 9)
    generalize W4.alloc (.cells #[] 9) = Ws at hO hB ⊢
    have HO0 := hid hO
    have HB0 := hid hB
    clear hO hB
    go_loopw [5, 6] (fun s i wr => ∃ m : Nat, m ≤ ps.length ∧ i = .int .i64 (m : Int) ∧ Hid (wr.ownsRow W4.heap.size 9 1 s ((namesP ps).take m).length (((namesP ps).take m).map Value.string)) ∧ Hid (Below W4.heap.size W4 wr)) (fun _ i _ => ps.length - (intOf i).toNat)
    case atStart => exact ⟨0, Nat.zero_le _, rfl, HO0, HB0⟩
    case round =>
      clear HO0 HB0
      obtain ⟨m, hm, rfl, HO, HBr⟩ := hrel
      obtain ⟨sa, sc, rfl, -, -, -⟩ := ownsRow_txts (unhid HO)
      have Kb := K
      have K := hid ((unhid K).step (unhid HBr))
      have br := cell_arrS ((unhid K).now.2) 0 _ rfl
      by_cases hlt : m < ps.length
      · obtain ⟨p, hp⟩ : ∃ p, ps[m]? = some p := ⟨ps[m], List.getElem?_eq_getElem hlt⟩
        obtain ⟨pb, po, na, nc, sta, stc, hra, hpa⟩ := RR.get ((unhid K).now.1.2) hp
        subst hra
        have c0 := hpa.c0
        have HNX := hid (names_next hp)
        have hbs := (unhid HBr).size
        have hx5 : (wr.alloc (.cells #[.string (PackD.name p)] 9)).cell? ⟨wr.heap.size, 0, none⟩ = some (.string (PackD.name p)) := cell_arrS (World.alloc_heap_new wr (.cells #[.string (PackD.name p)] 9)) 0 _ rfl
        have hb5 := (Below.refl wr.heap.size wr).alloc (Nat.le_refl _) (.cells #[.string (PackD.name p)] 9)
        have H5 := hid (And.intro (ownsRow_belowS (unhid HO) hb5) (And.intro hx5 (show W4.heap.size ≤ (wr.alloc (.cells #[.string (PackD.name p)] 9)).heap.size from Nat.le_trans hbs hb5.size)))
        have HLE := hid (show ((namesP ps).take m).length ≤ 4294967296 by rw [List.length_take, namesP_len]; omega)
        have HB5 := hid ((unhid HBr).trans (hb5.mono hbs))
        clear hp hpa hx5 hb5 HO
        go_wp2_with (at_builtin; refine wp_name rfl _ _ rfl W4.heap.size _ ((namesP ps).take m) (PackD.name p) _ rfl rfl (unhid H5).1 (unhid H5).2.1 (unhid HLE) (unhid H5).2.2 ?_)
        intro v' w6 hO6 hg6
        have hO6 : w6.ownsRow W4.heap.size 9 1 v' ((namesP ps).take (m + 1)).length (((namesP ps).take (m + 1)).map Value.string) := by rw [unhid HNX]; simpa using hO6
        obtain ⟨za, zc, rfl, -, -, -⟩ := ownsRow_txts hO6
        have hown := own_ge (unhid H5).1
        rw [List.length_take] at hown
        have HB6 := hid ((unhid HB5).trans (⟨hg6.os, hg6.tape, hg6.output, hg6.size, fun k hk => hg6.block k (Nat.lt_of_lt_of_le hk (unhid H5).2.2) (fun e => by have := (hown k e.symm).1; omega)⟩ : Below W4.heap.size (wr.alloc (.cells #[.string (PackD.name p)] 9)) w6))
        have HO6 := hid hO6
        clear hO6 hg6 hown H5 HB5 c0 br
        go_wp2_with fail
        go_roundw
        case rel => exact ⟨m + 1, by omega, by go_num, HO6, HB6⟩
        case measure => simp [intOf]; omega
      · have e : m = ps.length := by omega
        subst e
        have hO := unhid HO
        have e9 : (namesP ps).take ps.length = namesP ps := List.take_of_length_le (by rw [namesP_len]; exact Nat.le_refl _)
        rw [e9] at hO ⊢
        rw [namesP_len] at hO
        have hO2 : wr.ownsRow W4.heap.size 9 1 (.slice sa (namesP ps).length sc) (namesP ps).length ((namesP ps).map Value.string) := by rw [namesP_len]; exact hO
        have HN := hid (TR.of_owns hO2 (by rw [namesP_len]; omega) (names_small (unhid HSM)))
        rw [namesP_len]
        clear hO hO2 e9 HO hm hlt
        have HCL := hid (implClo_r ((unhid K).now.1.2) (unhid HN))
        rw [namesP_len] at HCL
        go_wp2_with fail
        clear br
        refine (unhid HCL).mono ?_
        rintro e W6 ⟨oa, oc, rfl, hx, hb⟩
        have K := hid ((unhid K).step hb)
        clear hb
        have K := hid ((unhid K).txts hx)
        clear hx HCL HN
        have br := cell_arrS ((unhid K).now.1.2) 0 _ rfl
        rcases all_code (unhid HCO) with hk | hk
        · have hal := all_law (unhid HCO) hk
          rw [hk]
          clear hk
          have hlo := ((unhid K).now.2).few
          have HXO := hid ((unhid K).now.2)
          have HRR := hid ((unhid K).now.1.1.2)
          generalize closure_0 ps (namesP ps) = out at hal hlo HXO ⊢
          obtain ⟨hl1, hl2, hl3, hl4, hl5⟩ := hal
          have HL1 := hid hl1
          have HL2 := hid hl2
          have HL4 := hid hl4
          have HL5 := hid hl5
          have HL3 := hid hl3
          clear hl1 hl2 hl3 hl4 hl5
          have hx9 := World.alloc_heap_new W6 (.cells #[.slice ra ps.length rc] 51)
          have hb9 : Below W6.heap.size W6 (W6.alloc (.cells #[.slice ra ps.length rc] 51)) := (Below.refl _ W6).alloc (Nat.le_refl _) _
          have hz9 : W6.heap.size < (W6.alloc (.cells #[.slice ra ps.length rc] 51)).heap.size := by simp
          go_wp2_with fail
          clear br
          generalize W6.alloc (.cells #[.slice ra ps.length rc] 51) = w9 at hx9 hb9 hz9 ⊢
          have HX9 := hid (show w9.heap[W6.heap.size]? = some (.cells #[.slice ra (firstP ps out out.length).length rc] 51 (0, 0)) by rw [unhid HL3]; exact hx9)
          have HR9 := hid (show ∀ w'' : World, w9.grownBy w'' (some W6.heap.size) → RR w'' ra rc (firstP ps out out.length) from fun w'' hg => by rw [unhid HL3]; exact (unhid HRR).below (hb9.trans (grown_below hg (Nat.le_refl _) hb9.size)))
          have HB9 := hid hb9
          have HZ9 := hid hz9
          clear hx9 hb9 hz9
          go_loopw [10, 11, 12] (fun i _ _ wr => ∃ (m : Nat) (xa : Option Addr) (xc : Nat), m ≤ out.length ∧ i = .int .i64 ((m : Int) - 1) ∧ Hid (wr.heap[W6.heap.size]? = some (.cells #[.slice xa (firstP ps out m).length xc] 51 (0, 0))) ∧ Hid (∀ w'' : World, wr.grownBy w'' (some W6.heap.size) → RR w'' xa xc (firstP ps out m)) ∧ Hid (Below W6.heap.size W6 wr) ∧ Hid (W6.heap.size < wr.heap.size)) (fun i _ _ _ => (intOf i + 1).toNat)
          case atStart => exact ⟨out.length, ra, rc, Nat.le_refl _, by go_num, HX9, HR9, HB9, HZ9⟩
          case round =>
            clear HX9 HR9 HB9 HZ9 HRR
            obtain ⟨m, xa, xc, hm, rfl, HX, HR, HB, HZ⟩ := hrel
            have hrr := unhid HR wr ⟨rfl, rfl, rfl, Nat.le_refl _, fun _ _ _ => rfl⟩
            have HXW := hid ((unhid HXO).below (unhid HB))
            cases m with
            | zero =>
              have hz : ((0 : Nat) : Int) - 1 = -1 := rfl
              rw [hz]
              have hx0 := cell_arrS (unhid HX) 0 _ rfl
              rw [unhid HL2] at hx0
              have hl1 := unhid HL1
              have hlb : ((out.length : Int) == (ps.length : Int)) = true := by rw [beq_iff_eq]; omega
              have HFIN := hid ((unhid K).step (unhid HB))
              clear hl1 hrr
              go_wp2_with fail
              go_ret
              exact ⟨rfl, (unhid HFIN).now.1.1.1⟩
            | succ q =>
              have hz : ((q + 1 : Nat) : Int) - 1 = (q : Int) := by omega
              rw [hz]
              have hql : q < out.length := by omega
              obtain ⟨y, hy⟩ : ∃ y, out[q]? = some y := ⟨out[q], List.getElem?_eq_getElem hql⟩
              obtain ⟨ob, oo, rfl, hob, c0⟩ := (unhid HXW).get hy
              obtain ⟨hoc, hop⟩ := unhid HL5 q y hy
              have hlo2 := hlo
              have HC0 := hid c0
              have hzb := unhid HZ
              have HFS := hid (first_small (out := out) (i := q) (unhid HSM) hfew)
              have HRR := hid hrr
              have HOO := hid (And.intro hoc hop)
              clear hy c0 hoc hop hrr hz
              go_upto_region 19 with fail
              go_cut [11, 12] from 64 to 84 (fun s11 s12 wx => ∃ (g : Nat) (ya : Option Addr) (yc : Nat), s11 = .pointer (some ⟨g, 0, none⟩) ∧ s12 = .int .i64 0 ∧ Hid (Below wr.heap.size wr wx) ∧ Hid (wx.heap[g]? = some (.cells #[.slice ya (firstP ps out q).length yc] 51 (0, 0))) ∧ Hid (∀ w'' : World, (∀ j, wr.heap.size ≤ j → j < wx.heap.size → w''.heap[j]? = wx.heap[j]?) → RR w'' ya yc (firstP ps out q)))
              case first =>
                have hC0 := drew_belowS (B := wr.heap.size) wr
                have gx : ∀ x : CW (fun w' => Below wr.heap.size wr w'), x.w.cell? ⟨W6.heap.size, 0, none⟩ = some (.slice xa (firstP ps out (q + 1)).length xc) := fun x => cell_arrS ((x.h.block _ hzb).trans (unhid HX)) 0 _ rfl
                have go : ∀ x : CW (fun w' => Below wr.heap.size wr w'), x.w.cell? ⟨ob, oo + q, none⟩ = some (.string y) := fun x => (x.h.cell (p := ⟨ob, oo + q, none⟩) hob).trans (unhid HC0)
                have hba : ∀ {q : Prop}, (CW (fun w' => Below wr.heap.size wr w') → q) ↔ q := CW.all hC0
                refine held_begin (fun w' => Below wr.heap.size wr w') (by kernel_rfl) hC0 ?_
                refine held_here [true, true, true, true, true] (by kernel_rfl) (by kernel_rfl) (fun _ _ _ _ _ h => h) hC0 ?_
                dsimp only [pick]
                repeat (go_big_quiet_step (fail))
                refine wpQuiet_nil ?_
                clear gx go hba
                generalize wr.drew = w2 at hC0 ⊢
                have hrr2 := (unhid HRR).below hC0
                refine held_op2 5 9 (by kernel_rfl) (by kernel_rfl) rfl rfl (fun KK hK => ?_) (fun KK hK => ?_)
                · refine call_op 39 74 (enters_of Tryz.func39 (by kernel_rfl) rfl) #[.agg #[.slice xa (firstP ps out (q + 1)).length xc], .string y] rfl rfl rfl rfl ?_
                  refine (outOut_k hrr2 (unhid HOO).2 (unhid HOO).1 (unhid HFS).1 (unhid HFS).2).mono ?_
                  rintro x w3 ⟨ya, yc, rfl, hkeep, hb⟩
                  have hC3 := hC0.trans (hb.mono hC0.size)
                  refine ⟨_, rfl, hK.out _ _ hC3 ?_⟩
                  simp only [Act.put, List.setIfInBounds_toArray, List.set_cons_zero, List.set_cons_succ]
                  clear hK KK
                  have hba : ∀ {q : Prop}, (CW (fun w' => Below wr.heap.size wr w') → q) ↔ q := CW.all hC3
                  refine held_here [false, false, false, false, false, false, true, true, true] (by kernel_rfl) (by kernel_rfl) (fun _ _ _ _ _ h => h) hC3 ?_
                  dsimp only [pick]
                  repeat (go_big_quiet_step (fail))
                  refine wpQuiet_nil ?_
                  clear hba
                  refine held_op 9 (by kernel_rfl) (by kernel_rfl) rfl (fun KK hK => ?_)
                  go_simp
                  have hx4 := World.alloc_heap_new w3 (.cells #[.slice none 0 0] 51)
                  have hb4 : Below w3.heap.size w3 (w3.alloc (.cells #[.slice none 0 0] 51)) := (Below.refl _ w3).alloc (Nat.le_refl _) _
                  have hC4 := hC3.trans (hb4.mono hC3.size)
                  refine hK.out _ _ hC4 ?_
                  clear hK KK
                  generalize w3.alloc (.cells #[.slice none 0 0] 51) = w4 at hx4 hb4 hC4 ⊢
                  have hz3 : wr.heap.size ≤ w3.heap.size := hC3.size
                  have hz2 : wr.heap.size ≤ w2.heap.size := hC0.size
                  have hz4 : w3.heap.size ≤ w4.heap.size := hb4.size
                  obtain ⟨o1, p1⟩ := cell_fz hx4 0 _ rfl
                  refine held_op 10 (by kernel_rfl) (by kernel_rfl) rfl (fun KK hK => ?_)
                  go_simp
                  have hC5 := hC4.setCell (p := ⟨w3.heap.size, 0, none⟩) (show wr.heap.size ≤ w3.heap.size by omega) (.slice ya (firstP ps out q).length yc)
                  refine hK.out _ _ hC5 ?_
                  clear hK KK o1 p1
                  have HXX := hid (heap_setCell_same w4 (w3.heap.size) 0 _ _ (.slice ya (firstP ps out q).length yc) hx4)
                  have HKK := hid (show ∀ w'' : World, (∀ j, wr.heap.size ≤ j → j < (w4.setCell ⟨w3.heap.size, 0, none⟩ (.slice ya (firstP ps out q).length yc)).heap.size → w''.heap[j]? = (w4.setCell ⟨w3.heap.size, 0, none⟩ (.slice ya (firstP ps out q).length yc)).heap[j]?) → RR w'' ya yc (firstP ps out q) from fun w'' hw => hkeep w'' (fun j h1 h2 => (hw j (by omega) (by simp; omega)).trans ((Below.heap_setCell _ _ _ _ (by dsimp only; omega)).trans (hb4.block j h2))))
                  have hba : ∀ {q : Prop}, (CW (fun w' => Below wr.heap.size wr w') → q) ↔ q := CW.all hC5
                  refine held_here [false, false, false, false, false, false, false, false, false, false, false, true] (by kernel_rfl) (by kernel_rfl) (fun _ _ _ _ _ h => h) hC5 ?_
                  dsimp only [pick]
                  repeat (go_big_quiet_step (fail))
                  refine wpQuiet_nil ?_
                  clear hba
                  refine held_done (by kernel_rfl) ?_
                  have HC5 := hid hC5
                  clear hC5 hC4 hC3 hC0 hx4 hkeep
                  go_wp2_with fail
                  go_meet
                  case rel => exact ⟨w3.heap.size, ya, yc, rfl, rfl, HC5, HXX, HKK⟩
                · go_simp
                  have hx3 := World.alloc_heap_new w2 (.cells #[.slice none 0 0] 51)
                  have hb3 : Below w2.heap.size w2 (w2.alloc (.cells #[.slice none 0 0] 51)) := (Below.refl _ w2).alloc (Nat.le_refl _) _
                  have hz3' : w2.heap.size < (w2.alloc (.cells #[.slice none 0 0] 51)).heap.size := by simp
                  have hC3 := hC0.trans (hb3.mono hC0.size)
                  refine hK.out _ _ hC3 ?_
                  clear hK KK
                  generalize w2.alloc (.cells #[.slice none 0 0] 51) = w3 at hx3 hb3 hz3' hC3 ⊢
                  have hrr3 := hrr2.below hb3
                  refine held_call 5 39 74 (enters_of Tryz.func39 (by kernel_rfl) rfl) #[.agg #[.slice xa (firstP ps out (q + 1)).length xc], .string y] (by kernel_rfl) (by kernel_rfl) rfl rfl rfl rfl rfl ?_
                  refine (outOut_k hrr3 (unhid HOO).2 (unhid HOO).1 (unhid HFS).1 (unhid HFS).2).mono ?_
                  rintro x w4 ⟨ya, yc, rfl, hkeep, hb⟩
                  have hC4 := hC3.trans (hb.mono hC3.size)
                  have hx4 := (hb.block _ hz3').trans hx3
                  refine ⟨_, rfl, hC4, ?_⟩
                  simp only [Act.put, List.setIfInBounds_toArray, List.set_cons_zero, List.set_cons_succ]
                  have hba : ∀ {q : Prop}, (CW (fun w' => Below wr.heap.size wr w') → q) ↔ q := CW.all hC4
                  refine held_here [false, false, false, false, false, false, true, true, true] (by kernel_rfl) (by kernel_rfl) (fun _ _ _ _ _ h => h) hC4 ?_
                  dsimp only [pick]
                  repeat (go_big_quiet_step (fail))
                  refine wpQuiet_nil ?_
                  clear hba
                  have hz3 : wr.heap.size ≤ w3.heap.size := hC3.size
                  have hz2 : wr.heap.size ≤ w2.heap.size := hC0.size
                  have hz4 : w3.heap.size ≤ w4.heap.size := hb.size
                  obtain ⟨o1, p1⟩ := cell_fz hx4 0 _ rfl
                  refine held_op 10 (by kernel_rfl) (by kernel_rfl) rfl (fun KK hK => ?_)
                  go_simp
                  have hC5 := hC4.setCell (p := ⟨w2.heap.size, 0, none⟩) (show wr.heap.size ≤ w2.heap.size by omega) (.slice ya (firstP ps out q).length yc)
                  refine hK.out _ _ hC5 ?_
                  clear hK KK o1 p1
                  have HXX := hid (heap_setCell_same w4 (w2.heap.size) 0 _ _ (.slice ya (firstP ps out q).length yc) hx4)
                  have HKK := hid (show ∀ w'' : World, (∀ j, wr.heap.size ≤ j → j < (w4.setCell ⟨w2.heap.size, 0, none⟩ (.slice ya (firstP ps out q).length yc)).heap.size → w''.heap[j]? = (w4.setCell ⟨w2.heap.size, 0, none⟩ (.slice ya (firstP ps out q).length yc)).heap[j]?) → RR w'' ya yc (firstP ps out q) from fun w'' hw => hkeep w'' (fun j h1 h2 => (hw j (by omega) (by simp; omega)).trans (Below.heap_setCell _ _ _ _ (by dsimp only; omega))))
                  have hba : ∀ {q : Prop}, (CW (fun w' => Below wr.heap.size wr w') → q) ↔ q := CW.all hC5
                  refine held_here [false, false, false, false, false, false, false, false, false, false, false, true] (by kernel_rfl) (by kernel_rfl) (fun _ _ _ _ _ h => h) hC5 ?_
                  dsimp only [pick]
                  repeat (go_big_quiet_step (fail))
                  refine wpQuiet_nil ?_
                  clear hba
                  refine held_done (by kernel_rfl) ?_
                  have HC5 := hid hC5
                  clear hC5 hC4 hC3 hC0 hx4 hkeep
                  go_wp2_with fail
                  go_meet
                  case rel => exact ⟨w2.heap.size, ya, yc, rfl, rfl, HC5, HXX, HKK⟩
              case rest =>
                rename World => w3
                obtain ⟨g, ya, yc, rfl, rfl, HB3, HY, HK⟩ := hcut
                have hry := unhid HK w3 (fun _ _ _ => rfl)
                have HRY := hid hry
                have hx3 := ((unhid HB3).block _ hzb).trans (unhid HX)
                have HX3 := hid hx3
                have y0 := cell_arrS (unhid HY) 0 _ rfl
                have HOK4 := hid (show Calls Tryz.prog 42 #[.agg #[.slice ya (firstP ps out q).length yc]] w3 fun x w' => x = .returned (.bool true) ∧ Below w3.heap.size w3 w' from (implOk_r hry).mono (fun _ _ h => ⟨by rw [h.1, ok_0.2 (unhid HL4 q)], h.2⟩))
                clear hry hx3
                go_wp2_with fail
                refine (unhid HOK4).mono ?_
                rintro e w4 ⟨rfl, hb4⟩
                have hx4 := (hb4.block _ (Nat.lt_of_lt_of_le hzb (unhid HB3).size)).trans (unhid HX3)
                have y4 := cell_arrS ((hb4.block _ (Array.getElem?_eq_some_iff.1 (unhid HY)).1).trans (unhid HY)) 0 _ rfl
                obtain ⟨f0, f1⟩ := cell_fz hx4 0 _ rfl
                have hb34 := (unhid HB3).trans (hb4.mono (unhid HB3).size)
                have HX5 := hid (heap_setCell_same w4 W6.heap.size 0 _ _ (.slice ya (firstP ps out q).length yc) hx4)
                have HB5 := hid ((((unhid HB).trans (hb34.mono (unhid HB).size))).setCell (p := ⟨W6.heap.size, 0, none⟩) (Nat.le_refl _) (.slice ya (firstP ps out q).length yc))
                have HZ5 := hid (show W6.heap.size < (w4.setCell ⟨W6.heap.size, 0, none⟩ (.slice ya (firstP ps out q).length yc)).heap.size by have := hb34.size; simp; omega)
                have HR5 := hid (show ∀ w'' : World, (w4.setCell ⟨W6.heap.size, 0, none⟩ (.slice ya (firstP ps out q).length yc)).grownBy w'' (some W6.heap.size) → RR w'' ya yc (firstP ps out q) from fun w'' hg => unhid HK w'' (fun j h1 h2 => by
                  rw [hg.block j (by simp; have := hb4.size; omega) (by intro e; injection e; omega), Below.heap_setCell _ _ _ _ (by dsimp only; omega), hb4.block j h2]))
                clear y0 hx4 hb34 hb4 HOK4
                go_wp2_with fail
                go_roundw
                case rel => exact ⟨q, ya, yc, by omega, by go_num, HX5, HR5, HB5, HZ5⟩
                case measure => simp [intOf]
        · rw [hk]
          clear br
          go_wp2_with fail
          go_ret
          exact ⟨rfl, (unhid K).now.1.1.1⟩
end Go.Proofs.YtoihhlkidlapmaaGreat
