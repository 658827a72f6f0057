/- A hunk that makes lines of others, by the model. -/
import Derived.Test.YtedimkcnemhhpaaSpecSame
import Derived.Deep.CutBlock
namespace Go.Proofs.Ytedimkcnemhhpaa
open Go.RowKit Go.Shelf

theorem TwoAt.block {W W' : World} {b : Nat} {x : Int} {v : Value} (h : TwoAt W b x v) (hb : W'.heap[b]? = W.heap[b]?) : TwoAt W' b x v :=
  ⟨⟨(World.cell?_of_block (w := W) hb).trans h.1.1, (World.frozen?_of_block (w := W) hb).trans h.1.2⟩, (World.cell?_of_block (w := W) hb).trans h.2.1, (World.frozen?_of_block (w := W) hb).trans h.2.2⟩
theorem TwoAt.set1 {W : World} {b : Nat} {x : Int} {v : Value} (h : TwoAt W b x v) (y : Value) : TwoAt (W.setCell ⟨b, 1, .none⟩ y) b x y := by
  obtain ⟨⟨c0, f0⟩, c1, f1⟩ := h
  refine ⟨⟨?_, ?_⟩, ?_, ?_⟩ <;> simp [go_sem, World.cell?_setCell_same', c0, c1, f0, f1]
/-- A hunk in the making: its two cells, and the row of its lines. -/
structure DiffSt (w W : World) (g : Nat) (at_ : Int) (L : List ByteArray) (v : Value) : Prop where
  lo : w.heap.size ≤ g
  lt : g < W.heap.size
  two : TwoAt W g at_ v
  own : W.ownsRow w.heap.size 9 1 v L.length (L.map Value.string)
  ne : v.ownBlock ≠ some g
  below : Below w.heap.size w W
theorem DiffSt.step {w W W' : World} {g : Nat} {at_ : Int} {L : List ByteArray} {v : Value} (h : DiffSt w W g at_ L v) (hb : Below W.heap.size W W') : DiffSt w W' g at_ L v :=
  ⟨h.lo, Nat.lt_of_lt_of_le h.lt hb.size, h.two.block (hb.block g h.lt), owns_belowX h.own hb, h.ne, h.below.trans (hb.mono h.below.size)⟩
theorem DiffSt.app {w W W' : World} {g : Nat} {at_ : Int} {L ys : List ByteArray} {v v' : Value} (h : DiffSt w W g at_ L v) (hown : W'.ownsRow w.heap.size 9 1 v' (L ++ ys).length ((L ++ ys).map Value.string)) (hg : W.grownBy W' v.ownBlock) (hat : v'.ownBlock = v.ownBlock ∨ v'.ownBlock = some W.heap.size) :
    TwoAt W' g at_ v ∧ Below w.heap.size w W' ∧ DiffSt w (W'.setCell ⟨g, 1, none⟩ v') g at_ (L ++ ys) v' := by
  have hlt' : g < W'.heap.size := Nat.lt_of_lt_of_le h.lt hg.size
  have h2 : TwoAt W' g at_ v := h.two.block (hg.block g h.lt (fun e => h.ne e.symm))
  have hne : v'.ownBlock ≠ some g := by
    rcases hat with e | e <;> rw [e]
    · exact h.ne
    · intro e; cases e; exact Nat.lt_irrefl _ h.lt
  have hB : Below w.heap.size w W' := h.below.grown hg h.below.size (fun k e => (h.own.lt k e).1)
  refine ⟨h2, hB, h.lo, by simpa using hlt', h2.set1 v', ?_, hne, hB.setCell (p := ⟨g, 1, none⟩) h.lo _⟩
  refine ⟨hown.1, hown.2.imp id (fun ⟨g2, cap, cur, a, b, c, d⟩ => ⟨g2, cap, cur, a, b, ?_, d⟩)⟩
  rw [Below.heap_setCell _ _ _ _ (by dsimp only; intro e; subst e; subst a; exact hne rfl)]
  exact c
theorem signX_snoc (c : UInt8) (xs : List ByteArray) (l m : Nat) (x : ByteArray) (h : xs[l + m]? = some x) : signX c ((xs.drop l).take (m + 1)) = signX c ((xs.drop l).take m) ++ [(⟨#[c]⟩ : ByteArray) ++ x] := by
  unfold signX
  rw [List.take_add_one, List.getElem?_drop, h, List.map_append]; rfl
theorem one_new (W : World) (x : ByteArray) : TxtsAt (W.alloc (.cells #[.string x] 9)) (some ⟨W.heap.size, 0, none⟩) [x] := by
  have hh := World.alloc_heap_new W (.cells #[.string x] 9)
  refine .inr ⟨W.heap.size, 0, rfl, (Array.getElem?_eq_some_iff.1 hh).1, fun i y hi => ?_⟩
  match i, hi with
  | 0, hi => cases hi; exact cell_in hh 0 _ rfl
  | i + 1, hi => simp at hi
theorem emptyHks (W : World) (N : Nat) (hN : N ≤ W.heap.size) : HksOwn (W.alloc (.cells #[] 46)) N (.slice (some ⟨W.heap.size, 0, none⟩) 0 0) [] :=
  .inr ⟨W.heap.size, rfl, hN, World.alloc_heap_new _ _⟩

theorem hunksB_is (h : Hk) : hunksB [h] = (hkB h && decide (1 ≤ h.at_)) := by
  unfold hunksB
  simp only [List.length_cons, List.length_nil, Nat.zero_add, List.range_succ, List.range_zero, List.nil_append, List.all_cons, List.all_nil, Bool.and_true]
  show (okAt [h] 0 && true) = _
  rw [Bool.and_true]; rfl
theorem tail_eq (xs ys : List ByteArray) : dTail xs ys = runP (sameZ xs ys) 0 (min (xs.length - aheadN xs ys) (ys.length - aheadN xs ys)) := by
  unfold dTail behindN
  rw [List.length_drop, List.length_drop]
  refine runP_congr _ _ (fun i _ hi => ?_)
  unfold sameZ
  have e : ∀ zs : List ByteArray, i < zs.length - aheadN xs ys → txtFn (zs.drop (aheadN xs ys)) ((zs.drop (aheadN xs ys)).length - 1 - i) = txtFn zs (zs.length - 1 - i) := fun zs hz => by
    refine txtFn_get ?_
    rw [List.getElem?_drop, List.length_drop, show aheadN xs ys + (zs.length - aheadN xs ys - 1 - i) = zs.length - 1 - i by omega]
    exact txtFn_some (by omega)
  rw [e xs (by omega), e ys (by omega)]

set_option maxRecDepth 100000 in
set_option maxHeartbeats 16000000 in
theorem specDiffOf_any (xs ys : List ByteArray) (a b : Option Addr) (cap cap2 : Nat) (w : World) (hx : xs.length ≤ maxLen) (hy : ys.length ≤ maxLen) (hz : bigX xs) (hz2 : bigX ys) (h : TxtsAt w a xs) (h2 : TxtsAt w b ys) :
    Calls Try.prog 21 #[.slice a xs.length cap, .slice b ys.length cap2] w fun r w' => ∃ v, r = .returned v ∧ HksOwn w' w.heap.size v (diffL xs ys) ∧ Below w.heap.size w w' := by
  have HA := hid h
  have HB := hid h2
  have HX := hid hx
  have HY := hid hy
  have HZ := hid hz
  have HZ2 := hid hz2
  have TA := hid (l5Lines_any xs a cap w hz hx h)
  have HA0 : Hid (Below w.heap.size w (w.alloc (.cells #[] 46))) := hid ((Below.refl _ w).alloc (Nat.le_refl _) _)
  clear h h2 hz hz2 hx hy
  have HD : Hid (diffB xs ys = (textB xs && (textB ys && (!decide (xs = ys) && hunksB [dHunk xs ys])))) := hid rfl
  go_enter Try.func21, Try.ntmps21
  go_upto_region 1 with fail
  go_cut [32] from 13 (fun s wx => s = .bool (!(textB xs && (textB ys && !decide (xs = ys)))) ∧ Hid (Below w.heap.size w wx))
  case first =>
    as_aux_lemma =>
      go_wp2_with fail
      refine (unhid TA).mono ?_
      rintro r w1 ⟨rfl, hw1⟩
      subst hw1
      clear TA
      cases ta : textB xs
      · have T1 := hid ta
        clear ta
        go_wp2_with fail
        go_meet
        case rel => exact ⟨by rw [unhid T1]; rfl, hid (Below.refl _ _)⟩
      have lx := (textB_parts ta).1
      have T1 := hid ta
      clear ta
      go_wp2_with fail
      refine (l5Lines_any ys b cap2 w1 (unhid HZ2) (unhid HY) (unhid HB)).mono ?_
      rintro r w2 ⟨rfl, hw2⟩
      subst hw2
      cases tb : textB ys
      · have T2 := hid tb
        clear tb
        go_wp2_with fail
        go_meet
        case rel => exact ⟨by rw [unhid T1, unhid T2]; rfl, hid (Below.refl _ _)⟩
      have ly := (textB_parts tb).1
      have T2 := hid tb
      clear tb
      by_cases hle : xs.length = ys.length
      · have q1 : ((xs.length : Int) == (ys.length : Int)) = true := by rw [beq_iff_eq]; omega
        have LS := hid (l5Same_any xs ys a b cap cap2 0 w2 (by omega) (by omega) (by omega) (unhid HA) (unhid HB))
        have HSM := hid (show standB xs 0 ys = decide (xs = ys) by
          rw [Bool.eq_iff_iff]
          simp only [Bool.and_eq_true, decide_eq_true_eq, standB]
          constructor
          · rintro ⟨_, e2, e3⟩
            rw [show (0 : Int).toNat = 0 from rfl, List.drop_zero, List.take_of_length_le (by omega)] at e3
            exact e3
          · rintro rfl
            refine ⟨by omega, by omega, ?_⟩
            rw [show (0 : Int).toNat = 0 from rfl, List.drop_zero, List.take_of_length_le (Nat.le_refl _)])
        clear hle
        go_wp2_with fail
        refine (unhid LS).mono ?_
        rintro r w3 ⟨rfl, hb⟩
        rw [unhid HSM]
        have HBB := hid hb
        clear hb LS HSM
        cases hq : decide (xs = ys)
        all_goals
          have T3 := hid hq
          clear hq
          go_wp2_with fail
          go_meet
          case rel => exact ⟨by rw [unhid T1, unhid T2, unhid T3]; rfl, HBB⟩
      · have q1 : ((xs.length : Int) == (ys.length : Int)) = false := by rw [beq_eq_false_iff_ne]; omega
        have te : decide (xs = ys) = false := by rw [decide_eq_false_iff_not]; intro e; exact hle (by rw [e])
        have T3 := hid te
        clear te hle
        go_wp2_with fail
        go_meet
        case rel => exact ⟨by rw [unhid T1, unhid T2, unhid T3]; rfl, hid (Below.refl _ _)⟩
  case rest =>
    obtain ⟨rfl, HBC⟩ := hcut
    clear TA HA0
    cases hcond : (textB xs && (textB ys && !decide (xs = ys)))
    · have E := hid (show diffL xs ys = [] by
        have : diffB xs ys = ((textB xs && (textB ys && !decide (xs = ys))) && hunksB [dHunk xs ys]) := by rw [unhid HD]; simp only [Bool.and_assoc]
        unfold diffL; rw [this, hcond]; rfl)
      have HE := hid (emptyHks wc w.heap.size (unhid HBC).size)
      have HB2 := hid ((unhid HBC).alloc (unhid HBC).size (.cells #[] 46))
      clear hcond HD
      go_wp2_with fail
      go_ret
      exact ⟨_, rfl, by rw [unhid E]; exact unhid HE, unhid HB2⟩
    have hc3 := hcond
    simp only [Bool.and_eq_true, Bool.not_eq_true', decide_eq_false_iff_not] at hc3
    obtain ⟨ta, tb, hne⟩ := hc3
    have TAA := hid ta
    have TBB := hid tb
    have lx := (textB_parts ta).1
    have ly := (textB_parts tb).1
    have HD2 := hid (show diffB xs ys = hunksB [dHunk xs ys] by rw [unhid HD, ta, tb, decide_eq_false hne]; rfl)
    clear hcond HD ta tb hne
    have HA1 := hid ((unhid HA).below (unhid HBC))
    have HB1 := hid ((unhid HB).below (unhid HBC))
    obtain ⟨l1, l2⟩ := ahead_le xs ys
    obtain ⟨l3, l4⟩ := tail_le xs ys
    go_upto_block 0 with fail
    go_cut [5] from 13 (fun s wx => s = .int .i64 ((aheadN xs ys : Nat) : Int) ∧ Hid (Below w.heap.size w wx))
    case first =>
      as_aux_lemma =>
        clear l3 l4 l1 l2
        go_wp2_with fail
        go_loopw [5] (fun i wr => ∃ k : Nat, k ≤ min xs.length ys.length ∧ i = .int .i64 k ∧ Hid (∀ i, i < k → sameA xs ys i = true) ∧ Hid (Below w.heap.size w wr)) (fun i _ => min xs.length ys.length - (intOf i).toNat)
        case atStart => exact ⟨0, Nat.zero_le _, rfl, hid (fun i hi => absurd hi (Nat.not_lt_zero _)), HBC⟩
        case round =>
          obtain ⟨k, hk, rfl, hall, HB0⟩ := hrel
          have HR := hid (show ∀ n, Below w.heap.size w (wr.drewN n) from fun n => ⟨(unhid HB0).os, (unhid HB0).tape, (unhid HB0).output, (unhid HB0).size, (unhid HB0).block⟩)
          by_cases hlt : k < min xs.length ys.length
          · have hxk := txtFn_some (xs := xs) (i := k) (by omega)
            have hyk := txtFn_some (xs := ys) (i := k) (by omega)
            obtain ⟨bb, o, rfl, hbl, hc⟩ := (unhid HA).get (by intro e; subst e; simp at hxk)
            obtain ⟨bb2, o2, rfl, hbl2, hc2⟩ := (unhid HB).get (by intro e; subst e; simp at hyk)
            have c0 := ((unhid HB0).cell (p := ⟨bb, o + k, .none⟩) hbl).trans (hc k _ hxk)
            have d0 := ((unhid HB0).cell (p := ⟨bb2, o2 + k, .none⟩) hbl2).trans (hc2 k _ hyk)
            have p1 : k < xs.length := by omega
            have p2 : k < ys.length := by omega
            clear hc hc2 hxk hyk
            by_cases he : txtFn xs k = txtFn ys k
            · obtain ⟨q1, q2⟩ := txt_yes he
              have HE := hid (show sameA xs ys k = true from decide_eq_true he)
              clear he
              generalize txtFn xs k = x at *
              generalize txtFn ys k = y at *
              go_wp2_with fail
              go_quiet (fail)
              go_wp2_with fail
              go_roundw
              case rel => exact ⟨k + 1, by omega, by go_num, hid (fun i hi => (Nat.lt_succ_iff_lt_or_eq.1 hi).elim (fun h => unhid hall i h) (fun h => by subst h; exact unhid HE)), hid (unhid HR _)⟩
              case measure => simp [intOf]; omega
            · obtain ⟨q1, q2⟩ := txt_no he
              have E := hid (show aheadN xs ys = k from runP_eq _ 0 k (Nat.le_of_lt hlt) (fun i hi => by rw [Nat.zero_add]; exact unhid hall i hi) (.inr (by rw [Nat.zero_add]; exact decide_eq_false he)))
              clear he
              generalize txtFn xs k = x at *
              generalize txtFn ys k = y at *
              go_wp2_with fail
              go_quiet (fail)
              go_wp2_with fail
              go_meet
              case rel => exact ⟨by rw [unhid E], hid (unhid HR _)⟩
          · have e : k = min xs.length ys.length := by omega
            have E := hid (show aheadN xs ys = k from runP_eq _ 0 k hk (fun i hi => by rw [Nat.zero_add]; exact unhid hall i hi) (.inl e))
            by_cases dx : k < xs.length
            · have dy : ¬ k < ys.length := by omega
              clear e
              go_wp2_with fail
              go_quiet (fail)
              go_wp2_with fail
              go_meet
              case rel => exact ⟨by rw [unhid E], hid (unhid HR _)⟩
            · clear e
              go_wp2_with fail
              go_quiet (fail)
              go_wp2_with fail
              go_meet
              case rel => exact ⟨by rw [unhid E], hid (unhid HR _)⟩
    case rest =>
      rename_i wc0
      clear HBC HA1 HB1
      obtain ⟨rfl, HBC⟩ := hcut
      have HTE := hid (tail_eq xs ys)
      have HF1 := hid (show dFirst xs ys = aheadN xs ys - min (aheadN xs ys) 2 from rfl)
      have HF2 := hid (show dLast xs ys = xs.length - dTail xs ys + min (dTail xs ys) 2 from rfl)
      have HDH := hid (show dHunk xs ys = ⟨(dFirst xs ys : Int) + 1, dLines xs ys⟩ from rfl)
      have HL := hid (show dLines xs ys = signX 32 ((xs.drop (dFirst xs ys)).take (aheadN xs ys - dFirst xs ys)) ++ (signX 45 ((xs.drop (aheadN xs ys)).take (xs.length - dTail xs ys - aheadN xs ys)) ++
        (signX 43 ((ys.drop (aheadN xs ys)).take (ys.length - dTail xs ys - aheadN xs ys)) ++ signX 32 ((xs.drop (xs.length - dTail xs ys)).take (dLast xs ys - (xs.length - dTail xs ys))))) from rfl)
      generalize dFirst xs ys = f at *
      generalize dLast xs ys = l at *
      generalize dTail xs ys = t at *
      generalize aheadN xs ys = h at *
      go_upto_block 2 with fail
      go_cut [6] from 13 (fun s wx => s = .int .i64 ((t : Nat) : Int) ∧ Hid (Below w.heap.size w wx))
      case first =>
        as_aux_lemma =>
          clear l3 l4
          go_wp2_with fail
          go_loopw [6] (fun i wr => ∃ k : Nat, k ≤ min (xs.length - h) (ys.length - h) ∧ i = .int .i64 k ∧ Hid (∀ i, i < k → sameZ xs ys i = true) ∧ Hid (Below w.heap.size w wr)) (fun i _ => min (xs.length - h) (ys.length - h) - (intOf i).toNat)
          case atStart => exact ⟨0, Nat.zero_le _, rfl, hid (fun i hi => absurd hi (Nat.not_lt_zero _)), HBC⟩
          case round =>
            obtain ⟨k, hk, rfl, hall, HB0⟩ := hrel
            have HR := hid (show ∀ n, Below w.heap.size w (wr.drewN n) from fun n => ⟨(unhid HB0).os, (unhid HB0).tape, (unhid HB0).output, (unhid HB0).size, (unhid HB0).block⟩)
            by_cases hlt : k < min (xs.length - h) (ys.length - h)
            · have hxk := txtFn_some (xs := xs) (i := xs.length - 1 - k) (by omega)
              have hyk := txtFn_some (xs := ys) (i := ys.length - 1 - k) (by omega)
              obtain ⟨bb, o, rfl, hbl, hc⟩ := (unhid HA).get (by intro e; subst e; simp at hxk)
              obtain ⟨bb2, o2, rfl, hbl2, hc2⟩ := (unhid HB).get (by intro e; subst e; simp at hyk)
              have c0 := ((unhid HB0).cell (p := ⟨bb, o + (xs.length - 1 - k), .none⟩) hbl).trans (hc _ _ hxk)
              have d0 := ((unhid HB0).cell (p := ⟨bb2, o2 + (ys.length - 1 - k), .none⟩) hbl2).trans (hc2 _ _ hyk)
              have p1 : (k : Int) < (xs.length : Int) - (h : Int) := by omega
              have p2 : (k : Int) < (ys.length : Int) - (h : Int) := by omega
              have n1 : ((xs.length : Int) - 1 - (k : Int)).toNat = xs.length - 1 - k := by omega
              have n2 : ((ys.length : Int) - 1 - (k : Int)).toNat = ys.length - 1 - k := by omega
              clear hc hc2 hxk hyk
              by_cases he : txtFn xs (xs.length - 1 - k) = txtFn ys (ys.length - 1 - k)
              · obtain ⟨q1, q2⟩ := txt_yes he
                have HE := hid (show sameZ xs ys k = true from decide_eq_true he)
                clear he
                generalize txtFn xs (xs.length - 1 - k) = x at *
                generalize txtFn ys (ys.length - 1 - k) = y at *
                go_wp2_with fail
                go_quiet (fail)
                go_wp2_with fail
                go_roundw
                case rel => exact ⟨k + 1, by omega, by go_num, hid (fun i hi => (Nat.lt_succ_iff_lt_or_eq.1 hi).elim (fun h => unhid hall i h) (fun h => by subst h; exact unhid HE)), hid (unhid HR _)⟩
                case measure => simp [intOf]; omega
              · obtain ⟨q1, q2⟩ := txt_no he
                have E := hid (show t = k by rw [unhid HTE]; exact runP_eq _ 0 k (Nat.le_of_lt hlt) (fun i hi => by rw [Nat.zero_add]; exact unhid hall i hi) (.inr (by rw [Nat.zero_add]; exact decide_eq_false he)))
                clear he
                generalize txtFn xs (xs.length - 1 - k) = x at *
                generalize txtFn ys (ys.length - 1 - k) = y at *
                go_wp2_with fail
                go_quiet (fail)
                go_wp2_with fail
                go_meet
                case rel => exact ⟨by rw [unhid E], hid (unhid HR _)⟩
            · have e : k = min (xs.length - h) (ys.length - h) := by omega
              have E := hid (show t = k by rw [unhid HTE]; exact runP_eq _ 0 k hk (fun i hi => by rw [Nat.zero_add]; exact unhid hall i hi) (.inl e))
              by_cases dx : (k : Int) < (xs.length : Int) - (h : Int)
              · have dy : decide ((k : Int) < (ys.length : Int) - (h : Int)) = false := by rw [decide_eq_false_iff_not]; omega
                clear e
                go_wp2_with fail
                go_quiet (fail)
                go_wp2_with fail
                go_meet
                case rel => exact ⟨by rw [unhid E], hid (unhid HR _)⟩
              · have dy : decide ((k : Int) < (xs.length : Int) - (h : Int)) = false := by rw [decide_eq_false_iff_not]; exact dx
                clear e dx
                go_wp2_with fail
                go_quiet (fail)
                go_wp2_with fail
                go_meet
                case rel => exact ⟨by rw [unhid E], hid (unhid HR _)⟩
      case rest =>
        clear HBC HTE
        obtain ⟨rfl, HBC⟩ := hcut
        have m1 : f ≤ h := by have := unhid HF1; omega
        have m2 : l ≤ xs.length := by have := unhid HF2; omega
        have m3 : xs.length - t ≤ l := by have := unhid HF2; omega
        go_upto_if 95 with fail
        go_cut [7] from 13 (fun s wx => s = .int .i64 ((f : Nat) : Int) ∧ Hid (Below w.heap.size w wx))
        case first =>
          as_aux_lemma =>
            have ef := unhid HF1
            rcases Nat.lt_or_ge h 2 with hh | hh
            · have E := hid (show (0 : Int) = (f : Int) by omega)
              clear ef
              go_wp2_with fail
              go_meet
              case rel => exact ⟨by rw [← unhid E], HBC⟩
            · have E := hid (show (h : Int) - 2 = (f : Int) by omega)
              clear ef
              go_wp2_with fail
              go_meet
              case rel => exact ⟨by rw [unhid E], HBC⟩
        case rest =>
          clear HBC
          obtain ⟨rfl, HBC⟩ := hcut
          go_wp2_with fail
          have DS0 := hid (show DiffSt w (wc.alloc (.cells #[.int .i64 ((f : Int) + 1), .slice none 0 0] 46)) wc.heap.size ((f : Int) + 1) [] (.slice none 0 0) from ⟨(unhid HBC).size, by simp, twoAt_new _ _ _ _, World.ownsRow_nil _ _ _ _, (fun e => by cases e), (unhid HBC).alloc (unhid HBC).size _⟩)
          have HV0 := hid (show ∃ ad cp, Value.slice none 0 0 = .slice ad ([] : List ByteArray).length cp from ⟨none, 0, rfl⟩)
          generalize wc.alloc (.cells #[.int .i64 ((f : Int) + 1), .slice none 0 0] 46) = W0 at DS0 ⊢
          generalize hgg : wc.heap.size = g at DS0 ⊢
          clear hgg HBC
          generalize hv0 : Value.slice none 0 0 = v0 at DS0 HV0
          clear hv0
          generalize hL0 : ([] : List ByteArray) = L0 at DS0 HV0
          have HL0 := hid hL0
          have hl0 : L0.length ≤ 200 := by rw [← hL0]; simp
          clear hL0
          go_loopw [9] (fun i wr => ∃ (k : Nat) (v : Value), f ≤ k ∧ k ≤ h ∧ i = .int .i64 (k : Int) ∧ Hid (∃ ad cp, v = .slice ad (L0 ++ signX 32 ((xs.drop f).take (k - f))).length cp) ∧ Hid (DiffSt w wr g ((f : Int) + 1) (L0 ++ signX 32 ((xs.drop f).take (k - f))) v)) (fun i _ => h - (intOf i).toNat)
          case atStart => exact ⟨f, v0, Nat.le_refl _, by omega, by go_num, hid (by rw [Nat.sub_self, List.take_zero]; simpa [signX] using unhid HV0), hid (by rw [Nat.sub_self, List.take_zero]; simpa [signX] using unhid DS0)⟩
          case round =>
            clear DS0 HV0
            obtain ⟨k, v, hk1, hk2, rfl, HV, HS⟩ := hrel
            by_cases hlt : k < h
            · have hxk := txtFn_some (xs := xs) (i := k) (by omega)
              generalize txtFn xs k = x at hxk
              obtain ⟨bs, o, rfl, hbl, hc⟩ := (unhid HA).get (by intro e; subst e; simp at hxk)
              have E := hid (show L0 ++ signX 32 ((xs.drop f).take (k + 1 - f)) = (L0 ++ signX 32 ((xs.drop f).take (k - f))) ++ [(⟨#[32]⟩ : ByteArray) ++ x] by rw [show k + 1 - f = (k - f) + 1 by omega, signX_snoc 32 xs f (k - f) x (by rw [show f + (k - f) = k by omega]; exact hxk), List.append_assoc])
              have hlen : (L0 ++ signX 32 ((xs.drop f).take (k - f))).length ≤ 1000 := by simp only [List.length_append, signX_len, List.length_take, List.length_drop]; omega
              have hx80 : x.size ≤ 1048576 := Nat.le_trans ((textB_parts (unhid TAA)).2 x (List.mem_of_getElem? hxk)) (by omega)
              have hcx := hid (hc k x hxk)
              have hkh : k < h := hlt
              clear hc hxk
              generalize (L0 ++ signX 32 ((xs.drop f).take (k - f))) = L at *
              obtain ⟨ad, cp, rfl⟩ := unhid HV
              go_wp2_with fail
              have g0 : ∀ y : CW (fun w' => Below w.heap.size w w'), y.w.cell? ⟨bs, o + k, none⟩ = some (.string x) := fun y => (y.h.cell (p := ⟨bs, o + k, none⟩) hbl).trans (unhid hcx)
              have hba : ∀ {q : Prop}, (CW (fun w' => Below w.heap.size w w') → q) ↔ q := CW.all (Below.refl _ w)
              have DS := hid ((unhid HS).step (drew_belowX wr))
              refine held_begin (fun w' => Below w.heap.size w w') (by kernel_rfl) (unhid DS).below ?_
              refine held_here [true, false, true, true, true, true, true] (by kernel_rfl) (by kernel_rfl) (fun _ _ _ _ _ h => h) (unhid DS).below ?_
              dsimp only [pick]
              repeat (go_big_quiet_step (fail))
              refine wpQuiet_nil ?_
              clear g0 hba HS HV
              generalize wr.drew = W at DS ⊢
              have TN0 := one_new W ((⟨#[32]⟩ : ByteArray) ++ x)
              have hb0 : Below W.heap.size W (W.alloc (.cells #[.string ((⟨#[32]⟩ : ByteArray) ++ x)] 9)) := (Below.refl _ _).alloc (Nat.le_refl _) _
              have DSN := hid ((unhid DS).step hb0)
              have f2 := (unhid DS).two.2.1
              have f4 := (unhid DSN).two.2.1
              refine held_both 1 7 106 112 (.slice ad L.length cp) (.slice (some ⟨W.heap.size, 0, none⟩) 1 1) (W.alloc (.cells #[.string ((⟨#[32]⟩ : ByteArray) ++ x)] 9)) (by kernel_rfl) (by kernel_rfl) (by kernel_rfl) (by kernel_rfl) rfl rfl (by kernel_rfl) (by kernel_rfl) rfl rfl rfl rfl (unhid DS).below (unhid DSN).below (by go_simp) (by go_simp) (by go_simp) ?_
              simp only [Act.put, List.setIfInBounds_toArray, List.set_cons_zero, List.set_cons_succ]
              have TN := hid TN0
              clear DS hb0 TN0 f2 f4
              generalize W.alloc (.cells #[.string ((⟨#[32]⟩ : ByteArray) ++ x)] 9) = WN at DSN TN ⊢
              generalize W.heap.size = GN at TN ⊢
              have hwl := (unhid DSN).below.size
              refine held_app 8 113 w.heap.size (.slice ad L.length cp) L [(⟨#[32]⟩ : ByteArray) ++ x] (some ⟨GN, 0, none⟩) 1 (by kernel_rfl) (by kernel_rfl) rfl rfl rfl rfl rfl rfl (unhid DSN).own (unhid TN) (fun e => by cases e) (by simp only [List.length_cons, List.length_nil]; omega) hwl ?_
              intro v' W' hown hg hat
              obtain ⟨t2, hB', DS'⟩ := (unhid DSN).app hown hg hat
              refine ⟨hB', ?_⟩
              simp only [Act.put, List.setIfInBounds_toArray, List.set_cons_zero, List.set_cons_succ]
              obtain ⟨va, vc, hv⟩ := ownsRow_sliceX hown
              subst hv
              obtain ⟨⟨f0, f1⟩, f2, f3⟩ := t2
              have DS2 := hid DS'
              clear hown hg hat DS'
              have hba : ∀ {q : Prop}, (CW (fun w' => Below w.heap.size w w') → q) ↔ q := CW.all (Below.refl _ w)
              refine held_here [false, false, false, false, false, false, false, false, false, true] (by kernel_rfl) (by kernel_rfl) (fun _ _ _ _ _ h => h) hB' ?_
              dsimp only [pick]
              repeat (go_big_quiet_step (fail))
              refine wpQuiet_nil ?_
              clear hba
              refine held_op 10 (by kernel_rfl) (by kernel_rfl) rfl (fun K hK => ?_)
              go_simp
              have DS3 := hid (show DiffSt w (W'.setCell ⟨g, 1, none⟩ (.slice va (L ++ [(⟨#[32]⟩ : ByteArray) ++ x]).length vc)) g ((f : Int) + 1) (L ++ [(⟨#[32]⟩ : ByteArray) ++ x]) (.slice va (L ++ [(⟨#[32]⟩ : ByteArray) ++ x]).length vc) from unhid DS2)
              simp only [List.length_append, List.length_cons, List.length_nil, Nat.zero_add] at DS3 ⊢
              refine hK.out _ _ (unhid DS3).below ?_
              clear hK K f0 f1 f2 f3 hB' DS2
              generalize W'.setCell ⟨g, 1, none⟩ (.slice va (L.length + 1) vc) = W2 at DS3 ⊢
              refine held_done (by kernel_rfl) ?_
              go_wp2_with fail
              go_roundw
              case rel => exact ⟨k + 1, .slice va (L.length + 1) vc, by omega, by omega, by go_num, hid ⟨va, vc, by rw [unhid E, List.length_append]; rfl⟩, hid (by rw [unhid E]; exact unhid DS3)⟩
              case measure => simp [intOf]; omega
            · have ek : k = h := by omega
              have HL1 := hid (show (L0 ++ signX 32 ((xs.drop f).take (k - f))) = L0 ++ signX 32 ((xs.drop f).take (h - f)) by rw [ek])
              clear ek
              have hln : (L0 ++ signX 32 ((xs.drop f).take (k - f))).length ≤ 230 := by simp only [List.length_append, signX_len, List.length_take, List.length_drop]; omega
              generalize (L0 ++ signX 32 ((xs.drop f).take (k - f))) = L1 at *
              have hl1 : L1.length ≤ 230 := hln
              clear hln
              have HV1 := HV
              have DS1 := HS
              generalize v = v1 at *
              clear HV HS
              go_wp2_with fail
              clear hlt
              go_loopw [10] (fun i wr => ∃ (k : Nat) (v : Value), h ≤ k ∧ k ≤ (xs.length - t) ∧ i = .int .i64 (k : Int) ∧ Hid (∃ ad cp, v = .slice ad (L1 ++ signX 45 ((xs.drop h).take (k - h))).length cp) ∧ Hid (DiffSt w wr g ((f : Int) + 1) (L1 ++ signX 45 ((xs.drop h).take (k - h))) v)) (fun i _ => (xs.length - t) - (intOf i).toNat)
              case atStart => exact ⟨h, v1, Nat.le_refl _, by omega, by go_num, hid (by rw [Nat.sub_self, List.take_zero]; simpa [signX] using unhid HV1), hid (by rw [Nat.sub_self, List.take_zero]; simpa [signX] using unhid DS1)⟩
              case round =>
                clear DS1 HV1
                obtain ⟨k, v, hk1, hk2, rfl, HV, HS⟩ := hrel
                by_cases hlt : k < (xs.length - t)
                · have hxk := txtFn_some (xs := xs) (i := k) (by omega)
                  generalize txtFn xs k = x at hxk
                  obtain ⟨bs, o, rfl, hbl, hc⟩ := (unhid HA).get (by intro e; subst e; simp at hxk)
                  have E := hid (show L1 ++ signX 45 ((xs.drop h).take (k + 1 - h)) = (L1 ++ signX 45 ((xs.drop h).take (k - h))) ++ [(⟨#[45]⟩ : ByteArray) ++ x] by rw [show k + 1 - h = (k - h) + 1 by omega, signX_snoc 45 xs h (k - h) x (by rw [show h + (k - h) = k by omega]; exact hxk), List.append_assoc])
                  have hlen : (L1 ++ signX 45 ((xs.drop h).take (k - h))).length ≤ 1000 := by simp only [List.length_append, signX_len, List.length_take, List.length_drop]; omega
                  have hx80 : x.size ≤ 1048576 := Nat.le_trans ((textB_parts (unhid TAA)).2 x (List.mem_of_getElem? hxk)) (by omega)
                  have hcx := hid (hc k x hxk)
                  have hkt : (k : Int) < (xs.length : Int) - (t : Int) := by omega
                  clear hc hxk
                  generalize (L1 ++ signX 45 ((xs.drop h).take (k - h))) = L at *
                  obtain ⟨ad, cp, rfl⟩ := unhid HV
                  go_wp2_with fail
                  have g0 : ∀ y : CW (fun w' => Below w.heap.size w w'), y.w.cell? ⟨bs, o + k, none⟩ = some (.string x) := fun y => (y.h.cell (p := ⟨bs, o + k, none⟩) hbl).trans (unhid hcx)
                  have hba : ∀ {q : Prop}, (CW (fun w' => Below w.heap.size w w') → q) ↔ q := CW.all (Below.refl _ w)
                  have DS := hid ((unhid HS).step (drew_belowX wr))
                  refine held_begin (fun w' => Below w.heap.size w w') (by kernel_rfl) (unhid DS).below ?_
                  refine held_here [true, false, true, true, true, true, true] (by kernel_rfl) (by kernel_rfl) (fun _ _ _ _ _ h => h) (unhid DS).below ?_
                  dsimp only [pick]
                  repeat (go_big_quiet_step (fail))
                  refine wpQuiet_nil ?_
                  clear g0 hba HS HV
                  generalize wr.drew = W at DS ⊢
                  have TN0 := one_new W ((⟨#[45]⟩ : ByteArray) ++ x)
                  have hb0 : Below W.heap.size W (W.alloc (.cells #[.string ((⟨#[45]⟩ : ByteArray) ++ x)] 9)) := (Below.refl _ _).alloc (Nat.le_refl _) _
                  have DSN := hid ((unhid DS).step hb0)
                  have f2 := (unhid DS).two.2.1
                  have f4 := (unhid DSN).two.2.1
                  refine held_both 1 7 125 131 (.slice ad L.length cp) (.slice (some ⟨W.heap.size, 0, none⟩) 1 1) (W.alloc (.cells #[.string ((⟨#[45]⟩ : ByteArray) ++ x)] 9)) (by kernel_rfl) (by kernel_rfl) (by kernel_rfl) (by kernel_rfl) rfl rfl (by kernel_rfl) (by kernel_rfl) rfl rfl rfl rfl (unhid DS).below (unhid DSN).below (by go_simp) (by go_simp) (by go_simp) ?_
                  simp only [Act.put, List.setIfInBounds_toArray, List.set_cons_zero, List.set_cons_succ]
                  have TN := hid TN0
                  clear DS hb0 TN0 f2 f4
                  generalize W.alloc (.cells #[.string ((⟨#[45]⟩ : ByteArray) ++ x)] 9) = WN at DSN TN ⊢
                  generalize W.heap.size = GN at TN ⊢
                  have hwl := (unhid DSN).below.size
                  refine held_app 8 132 w.heap.size (.slice ad L.length cp) L [(⟨#[45]⟩ : ByteArray) ++ x] (some ⟨GN, 0, none⟩) 1 (by kernel_rfl) (by kernel_rfl) rfl rfl rfl rfl rfl rfl (unhid DSN).own (unhid TN) (fun e => by cases e) (by simp only [List.length_cons, List.length_nil]; omega) hwl ?_
                  intro v' W' hown hg hat
                  obtain ⟨t2, hB', DS'⟩ := (unhid DSN).app hown hg hat
                  refine ⟨hB', ?_⟩
                  simp only [Act.put, List.setIfInBounds_toArray, List.set_cons_zero, List.set_cons_succ]
                  obtain ⟨va, vc, hv⟩ := ownsRow_sliceX hown
                  subst hv
                  obtain ⟨⟨f0, f1⟩, f2, f3⟩ := t2
                  have DS2 := hid DS'
                  clear hown hg hat DS'
                  have hba : ∀ {q : Prop}, (CW (fun w' => Below w.heap.size w w') → q) ↔ q := CW.all (Below.refl _ w)
                  refine held_here [false, false, false, false, false, false, false, false, false, true] (by kernel_rfl) (by kernel_rfl) (fun _ _ _ _ _ h => h) hB' ?_
                  dsimp only [pick]
                  repeat (go_big_quiet_step (fail))
                  refine wpQuiet_nil ?_
                  clear hba
                  refine held_op 10 (by kernel_rfl) (by kernel_rfl) rfl (fun K hK => ?_)
                  go_simp
                  have DS3 := hid (show DiffSt w (W'.setCell ⟨g, 1, none⟩ (.slice va (L ++ [(⟨#[45]⟩ : ByteArray) ++ x]).length vc)) g ((f : Int) + 1) (L ++ [(⟨#[45]⟩ : ByteArray) ++ x]) (.slice va (L ++ [(⟨#[45]⟩ : ByteArray) ++ x]).length vc) from unhid DS2)
                  simp only [List.length_append, List.length_cons, List.length_nil, Nat.zero_add] at DS3 ⊢
                  refine hK.out _ _ (unhid DS3).below ?_
                  clear hK K f0 f1 f2 f3 hB' DS2
                  generalize W'.setCell ⟨g, 1, none⟩ (.slice va (L.length + 1) vc) = W2 at DS3 ⊢
                  refine held_done (by kernel_rfl) ?_
                  go_wp2_with fail
                  go_roundw
                  case rel => exact ⟨k + 1, .slice va (L.length + 1) vc, by omega, by omega, by go_num, hid ⟨va, vc, by rw [unhid E, List.length_append]; rfl⟩, hid (by rw [unhid E]; exact unhid DS3)⟩
                  case measure => simp [intOf]; omega
                · have ek : k = (xs.length - t) := by omega
                  have HL2 := hid (show (L1 ++ signX 45 ((xs.drop h).take (k - h))) = L1 ++ signX 45 ((xs.drop h).take ((xs.length - t) - h)) by rw [ek])
                  have dk : decide ((k : Int) < (xs.length : Int) - (t : Int)) = false := by rw [decide_eq_false_iff_not]; omega
                  clear ek
                  have hln : (L1 ++ signX 45 ((xs.drop h).take (k - h))).length ≤ 260 := by simp only [List.length_append, signX_len, List.length_take, List.length_drop]; omega
                  generalize (L1 ++ signX 45 ((xs.drop h).take (k - h))) = L2 at *
                  have hl2 : L2.length ≤ 260 := hln
                  clear hln
                  have HV2 := HV
                  have DS2 := HS
                  generalize v = v2 at *
                  clear HV HS
                  go_wp2_with fail
                  clear hlt
                  clear dk
                  go_loopw [11] (fun i wr => ∃ (k : Nat) (v : Value), h ≤ k ∧ k ≤ (ys.length - t) ∧ i = .int .i64 (k : Int) ∧ Hid (∃ ad cp, v = .slice ad (L2 ++ signX 43 ((ys.drop h).take (k - h))).length cp) ∧ Hid (DiffSt w wr g ((f : Int) + 1) (L2 ++ signX 43 ((ys.drop h).take (k - h))) v)) (fun i _ => (ys.length - t) - (intOf i).toNat)
                  case atStart => exact ⟨h, v2, Nat.le_refl _, by omega, by go_num, hid (by rw [Nat.sub_self, List.take_zero]; simpa [signX] using unhid HV2), hid (by rw [Nat.sub_self, List.take_zero]; simpa [signX] using unhid DS2)⟩
                  case round =>
                    clear DS2 HV2
                    obtain ⟨k, v, hk1, hk2, rfl, HV, HS⟩ := hrel
                    by_cases hlt : k < (ys.length - t)
                    · have hxk := txtFn_some (xs := ys) (i := k) (by omega)
                      generalize txtFn ys k = x at hxk
                      obtain ⟨bs, o, rfl, hbl, hc⟩ := (unhid HB).get (by intro e; subst e; simp at hxk)
                      have E := hid (show L2 ++ signX 43 ((ys.drop h).take (k + 1 - h)) = (L2 ++ signX 43 ((ys.drop h).take (k - h))) ++ [(⟨#[43]⟩ : ByteArray) ++ x] by rw [show k + 1 - h = (k - h) + 1 by omega, signX_snoc 43 ys h (k - h) x (by rw [show h + (k - h) = k by omega]; exact hxk), List.append_assoc])
                      have hlen : (L2 ++ signX 43 ((ys.drop h).take (k - h))).length ≤ 1000 := by simp only [List.length_append, signX_len, List.length_take, List.length_drop]; omega
                      have hx80 : x.size ≤ 1048576 := Nat.le_trans ((textB_parts (unhid TBB)).2 x (List.mem_of_getElem? hxk)) (by omega)
                      have hcx := hid (hc k x hxk)
                      have hkt : (k : Int) < (ys.length : Int) - (t : Int) := by omega
                      clear hc hxk
                      generalize (L2 ++ signX 43 ((ys.drop h).take (k - h))) = L at *
                      obtain ⟨ad, cp, rfl⟩ := unhid HV
                      go_wp2_with fail
                      have g0 : ∀ y : CW (fun w' => Below w.heap.size w w'), y.w.cell? ⟨bs, o + k, none⟩ = some (.string x) := fun y => (y.h.cell (p := ⟨bs, o + k, none⟩) hbl).trans (unhid hcx)
                      have hba : ∀ {q : Prop}, (CW (fun w' => Below w.heap.size w w') → q) ↔ q := CW.all (Below.refl _ w)
                      have DS := hid ((unhid HS).step (drew_belowX wr))
                      refine held_begin (fun w' => Below w.heap.size w w') (by kernel_rfl) (unhid DS).below ?_
                      refine held_here [true, false, true, true, true, true, true] (by kernel_rfl) (by kernel_rfl) (fun _ _ _ _ _ h => h) (unhid DS).below ?_
                      dsimp only [pick]
                      repeat (go_big_quiet_step (fail))
                      refine wpQuiet_nil ?_
                      clear g0 hba HS HV
                      generalize wr.drew = W at DS ⊢
                      have TN0 := one_new W ((⟨#[43]⟩ : ByteArray) ++ x)
                      have hb0 : Below W.heap.size W (W.alloc (.cells #[.string ((⟨#[43]⟩ : ByteArray) ++ x)] 9)) := (Below.refl _ _).alloc (Nat.le_refl _) _
                      have DSN := hid ((unhid DS).step hb0)
                      have f2 := (unhid DS).two.2.1
                      have f4 := (unhid DSN).two.2.1
                      refine held_both 1 7 144 150 (.slice ad L.length cp) (.slice (some ⟨W.heap.size, 0, none⟩) 1 1) (W.alloc (.cells #[.string ((⟨#[43]⟩ : ByteArray) ++ x)] 9)) (by kernel_rfl) (by kernel_rfl) (by kernel_rfl) (by kernel_rfl) rfl rfl (by kernel_rfl) (by kernel_rfl) rfl rfl rfl rfl (unhid DS).below (unhid DSN).below (by go_simp) (by go_simp) (by go_simp) ?_
                      simp only [Act.put, List.setIfInBounds_toArray, List.set_cons_zero, List.set_cons_succ]
                      have TN := hid TN0
                      clear DS hb0 TN0 f2 f4
                      generalize W.alloc (.cells #[.string ((⟨#[43]⟩ : ByteArray) ++ x)] 9) = WN at DSN TN ⊢
                      generalize W.heap.size = GN at TN ⊢
                      have hwl := (unhid DSN).below.size
                      refine held_app 8 151 w.heap.size (.slice ad L.length cp) L [(⟨#[43]⟩ : ByteArray) ++ x] (some ⟨GN, 0, none⟩) 1 (by kernel_rfl) (by kernel_rfl) rfl rfl rfl rfl rfl rfl (unhid DSN).own (unhid TN) (fun e => by cases e) (by simp only [List.length_cons, List.length_nil]; omega) hwl ?_
                      intro v' W' hown hg hat
                      obtain ⟨t2, hB', DS'⟩ := (unhid DSN).app hown hg hat
                      refine ⟨hB', ?_⟩
                      simp only [Act.put, List.setIfInBounds_toArray, List.set_cons_zero, List.set_cons_succ]
                      obtain ⟨va, vc, hv⟩ := ownsRow_sliceX hown
                      subst hv
                      obtain ⟨⟨f0, f1⟩, f2, f3⟩ := t2
                      have DS2 := hid DS'
                      clear hown hg hat DS'
                      have hba : ∀ {q : Prop}, (CW (fun w' => Below w.heap.size w w') → q) ↔ q := CW.all (Below.refl _ w)
                      refine held_here [false, false, false, false, false, false, false, false, false, true] (by kernel_rfl) (by kernel_rfl) (fun _ _ _ _ _ h => h) hB' ?_
                      dsimp only [pick]
                      repeat (go_big_quiet_step (fail))
                      refine wpQuiet_nil ?_
                      clear hba
                      refine held_op 10 (by kernel_rfl) (by kernel_rfl) rfl (fun K hK => ?_)
                      go_simp
                      have DS3 := hid (show DiffSt w (W'.setCell ⟨g, 1, none⟩ (.slice va (L ++ [(⟨#[43]⟩ : ByteArray) ++ x]).length vc)) g ((f : Int) + 1) (L ++ [(⟨#[43]⟩ : ByteArray) ++ x]) (.slice va (L ++ [(⟨#[43]⟩ : ByteArray) ++ x]).length vc) from unhid DS2)
                      simp only [List.length_append, List.length_cons, List.length_nil, Nat.zero_add] at DS3 ⊢
                      refine hK.out _ _ (unhid DS3).below ?_
                      clear hK K f0 f1 f2 f3 hB' DS2
                      generalize W'.setCell ⟨g, 1, none⟩ (.slice va (L.length + 1) vc) = W2 at DS3 ⊢
                      refine held_done (by kernel_rfl) ?_
                      go_wp2_with fail
                      go_roundw
                      case rel => exact ⟨k + 1, .slice va (L.length + 1) vc, by omega, by omega, by go_num, hid ⟨va, vc, by rw [unhid E, List.length_append]; rfl⟩, hid (by rw [unhid E]; exact unhid DS3)⟩
                      case measure => simp [intOf]; omega
                    · have ek : k = (ys.length - t) := by omega
                      have HL3 := hid (show (L2 ++ signX 43 ((ys.drop h).take (k - h))) = L2 ++ signX 43 ((ys.drop h).take ((ys.length - t) - h)) by rw [ek])
                      have dk : decide ((k : Int) < (ys.length : Int) - (t : Int)) = false := by rw [decide_eq_false_iff_not]; omega
                      clear ek
                      have hln : (L2 ++ signX 43 ((ys.drop h).take (k - h))).length ≤ 290 := by simp only [List.length_append, signX_len, List.length_take, List.length_drop]; omega
                      generalize (L2 ++ signX 43 ((ys.drop h).take (k - h))) = L3 at *
                      have hl3 : L3.length ≤ 290 := hln
                      clear hln
                      have HV3 := HV
                      have DS3 := HS
                      generalize v = v3 at *
                      clear HV HS
                      go_wp2_with fail
                      clear hlt
                      clear dk
                      go_loopw [12] (fun i wr => ∃ (k : Nat) (v : Value), (xs.length - t) ≤ k ∧ k ≤ l ∧ i = .int .i64 (k : Int) ∧ Hid (∃ ad cp, v = .slice ad (L3 ++ signX 32 ((xs.drop (xs.length - t)).take (k - (xs.length - t)))).length cp) ∧ Hid (DiffSt w wr g ((f : Int) + 1) (L3 ++ signX 32 ((xs.drop (xs.length - t)).take (k - (xs.length - t)))) v)) (fun i _ => l - (intOf i).toNat)
                      case atStart => exact ⟨(xs.length - t), v3, Nat.le_refl _, by omega, by go_num, hid (by rw [Nat.sub_self, List.take_zero]; simpa [signX] using unhid HV3), hid (by rw [Nat.sub_self, List.take_zero]; simpa [signX] using unhid DS3)⟩
                      case round =>
                        clear DS3 HV3
                        obtain ⟨k, v, hk1, hk2, rfl, HV, HS⟩ := hrel
                        by_cases hlt : k < l
                        · have hxk := txtFn_some (xs := xs) (i := k) (by omega)
                          generalize txtFn xs k = x at hxk
                          obtain ⟨bs, o, rfl, hbl, hc⟩ := (unhid HA).get (by intro e; subst e; simp at hxk)
                          have E := hid (show L3 ++ signX 32 ((xs.drop (xs.length - t)).take (k + 1 - (xs.length - t))) = (L3 ++ signX 32 ((xs.drop (xs.length - t)).take (k - (xs.length - t)))) ++ [(⟨#[32]⟩ : ByteArray) ++ x] by rw [show k + 1 - (xs.length - t) = (k - (xs.length - t)) + 1 by omega, signX_snoc 32 xs (xs.length - t) (k - (xs.length - t)) x (by rw [show (xs.length - t) + (k - (xs.length - t)) = k by omega]; exact hxk), List.append_assoc])
                          have hlen : (L3 ++ signX 32 ((xs.drop (xs.length - t)).take (k - (xs.length - t)))).length ≤ 1000 := by simp only [List.length_append, signX_len, List.length_take, List.length_drop]; omega
                          have hx80 : x.size ≤ 1048576 := Nat.le_trans ((textB_parts (unhid TAA)).2 x (List.mem_of_getElem? hxk)) (by omega)
                          have hcx := hid (hc k x hxk)
                          have hkt : (k : Int) < (xs.length : Int) - (t : Int) + 2 := by have := unhid HF2; omega
                          have hkx : k < xs.length := by omega
                          clear hc hxk
                          generalize (L3 ++ signX 32 ((xs.drop (xs.length - t)).take (k - (xs.length - t)))) = L at *
                          obtain ⟨ad, cp, rfl⟩ := unhid HV
                          go_wp2_with fail
                          have g0 : ∀ y : CW (fun w' => Below w.heap.size w w'), y.w.cell? ⟨bs, o + k, none⟩ = some (.string x) := fun y => (y.h.cell (p := ⟨bs, o + k, none⟩) hbl).trans (unhid hcx)
                          have hba : ∀ {q : Prop}, (CW (fun w' => Below w.heap.size w w') → q) ↔ q := CW.all (Below.refl _ w)
                          have DS := hid ((unhid HS).step (drew_belowX wr))
                          refine held_begin (fun w' => Below w.heap.size w w') (by kernel_rfl) (unhid DS).below ?_
                          refine held_here [true, false, true, true, true, true, true] (by kernel_rfl) (by kernel_rfl) (fun _ _ _ _ _ h => h) (unhid DS).below ?_
                          dsimp only [pick]
                          repeat (go_big_quiet_step (fail))
                          refine wpQuiet_nil ?_
                          clear g0 hba HS HV
                          generalize wr.drew = W at DS ⊢
                          have TN0 := one_new W ((⟨#[32]⟩ : ByteArray) ++ x)
                          have hb0 : Below W.heap.size W (W.alloc (.cells #[.string ((⟨#[32]⟩ : ByteArray) ++ x)] 9)) := (Below.refl _ _).alloc (Nat.le_refl _) _
                          have DSN := hid ((unhid DS).step hb0)
                          have f2 := (unhid DS).two.2.1
                          have f4 := (unhid DSN).two.2.1
                          refine held_both 1 7 173 179 (.slice ad L.length cp) (.slice (some ⟨W.heap.size, 0, none⟩) 1 1) (W.alloc (.cells #[.string ((⟨#[32]⟩ : ByteArray) ++ x)] 9)) (by kernel_rfl) (by kernel_rfl) (by kernel_rfl) (by kernel_rfl) rfl rfl (by kernel_rfl) (by kernel_rfl) rfl rfl rfl rfl (unhid DS).below (unhid DSN).below (by go_simp) (by go_simp) (by go_simp) ?_
                          simp only [Act.put, List.setIfInBounds_toArray, List.set_cons_zero, List.set_cons_succ]
                          have TN := hid TN0
                          clear DS hb0 TN0 f2 f4
                          generalize W.alloc (.cells #[.string ((⟨#[32]⟩ : ByteArray) ++ x)] 9) = WN at DSN TN ⊢
                          generalize W.heap.size = GN at TN ⊢
                          have hwl := (unhid DSN).below.size
                          refine held_app 8 180 w.heap.size (.slice ad L.length cp) L [(⟨#[32]⟩ : ByteArray) ++ x] (some ⟨GN, 0, none⟩) 1 (by kernel_rfl) (by kernel_rfl) rfl rfl rfl rfl rfl rfl (unhid DSN).own (unhid TN) (fun e => by cases e) (by simp only [List.length_cons, List.length_nil]; omega) hwl ?_
                          intro v' W' hown hg hat
                          obtain ⟨t2, hB', DS'⟩ := (unhid DSN).app hown hg hat
                          refine ⟨hB', ?_⟩
                          simp only [Act.put, List.setIfInBounds_toArray, List.set_cons_zero, List.set_cons_succ]
                          obtain ⟨va, vc, hv⟩ := ownsRow_sliceX hown
                          subst hv
                          obtain ⟨⟨f0, f1⟩, f2, f3⟩ := t2
                          have DS2 := hid DS'
                          clear hown hg hat DS'
                          have hba : ∀ {q : Prop}, (CW (fun w' => Below w.heap.size w w') → q) ↔ q := CW.all (Below.refl _ w)
                          refine held_here [false, false, false, false, false, false, false, false, false, true] (by kernel_rfl) (by kernel_rfl) (fun _ _ _ _ _ h => h) hB' ?_
                          dsimp only [pick]
                          repeat (go_big_quiet_step (fail))
                          refine wpQuiet_nil ?_
                          clear hba
                          refine held_op 10 (by kernel_rfl) (by kernel_rfl) rfl (fun K hK => ?_)
                          go_simp
                          have DS3 := hid (show DiffSt w (W'.setCell ⟨g, 1, none⟩ (.slice va (L ++ [(⟨#[32]⟩ : ByteArray) ++ x]).length vc)) g ((f : Int) + 1) (L ++ [(⟨#[32]⟩ : ByteArray) ++ x]) (.slice va (L ++ [(⟨#[32]⟩ : ByteArray) ++ x]).length vc) from unhid DS2)
                          simp only [List.length_append, List.length_cons, List.length_nil, Nat.zero_add] at DS3 ⊢
                          refine hK.out _ _ (unhid DS3).below ?_
                          clear hK K f0 f1 f2 f3 hB' DS2
                          generalize W'.setCell ⟨g, 1, none⟩ (.slice va (L.length + 1) vc) = W2 at DS3 ⊢
                          refine held_done (by kernel_rfl) ?_
                          go_wp2_with fail
                          go_roundw
                          case rel => exact ⟨k + 1, .slice va (L.length + 1) vc, by omega, by omega, by go_num, hid ⟨va, vc, by rw [unhid E, List.length_append]; rfl⟩, hid (by rw [unhid E]; exact unhid DS3)⟩
                          case measure => simp [intOf]; omega
                        · have ek : k = l := by omega
                          have HL4 := hid (show (L3 ++ signX 32 ((xs.drop (xs.length - t)).take (k - (xs.length - t)))) = L3 ++ signX 32 ((xs.drop (xs.length - t)).take (l - (xs.length - t))) by rw [ek])
                          have hor : ¬ k < xs.length ∨ (k < xs.length ∧ ¬ (k : Int) < (xs.length : Int) - (t : Int) + 2) := by have := unhid HF2; omega
                          clear ek
                          have hln : (L3 ++ signX 32 ((xs.drop (xs.length - t)).take (k - (xs.length - t)))).length ≤ 320 := by simp only [List.length_append, signX_len, List.length_take, List.length_drop]; omega
                          generalize (L3 ++ signX 32 ((xs.drop (xs.length - t)).take (k - (xs.length - t)))) = L4 at *
                          have hl4 : L4.length ≤ 320 := hln
                          clear hln
                          have HV4 := HV
                          have DS4 := HS
                          generalize v = v4 at *
                          clear HV HS
                          have HLL := hid (show L4 = dLines xs ys by rw [unhid HL4, unhid HL3, unhid HL2, unhid HL1, ← unhid HL0, unhid HL]; simp only [List.nil_append, List.append_assoc])
                          have HHB := hid (hunksB_is (dHunk xs ys))
                          obtain ⟨ad, cp, hv4⟩ := unhid HV4
                          subst hv4
                          have HTL := hid (txts_owns (unhid DS4).own)
                          obtain ⟨⟨f0, f1⟩, f2, f3⟩ := (unhid DS4).two
                          have LH := hid (l5Hunk_any ⟨(f : Int) + 1, L4⟩ ad cp wr (by show L4.length ≤ maxLen; have := hl4; unfold maxLen; omega) (fun x hx => by rw [unhid HLL] at hx; exact Nat.le_trans ((dLines_small (unhid TAA) (unhid TBB)).2 x hx).2 (by simp [maxLen])) (by
                            obtain ⟨_, a', c', hv, ht, _⟩ := unhid HTL
                            injection hv with e1 e2 e3
                            subst e1
                            exact ht))
                          have HEQ := hid (show hunksB [dHunk xs ys] = (hkB ⟨(f : Int) + 1, L4⟩ && decide (1 ≤ (f : Int) + 1)) by rw [unhid HHB, unhid HDH, unhid HLL])
                          rcases hor with d1 | ⟨d1, d2⟩
                          case' inr => have d3 : decide ((k : Int) < (xs.length : Int) - (t : Int) + 2) = false := by rw [decide_eq_false_iff_not]; exact d2
                          case' inr => clear d2
                          all_goals
                            go_wp2_with fail
                            refine (unhid LH).mono ?_
                            rintro r w9 ⟨rfl, hb⟩
                            rw [← unhid HEQ]
                            have DS9 := hid ((unhid DS4).step hb)
                            have hb9 := (unhid DS9).below.size
                            cases hk : hunksB [dHunk xs ys]
                            · have E := hid (show diffL xs ys = [] by unfold diffL; rw [unhid HD2, hk]; rfl)
                              have HE := hid (emptyHks w9 w.heap.size hb9)
                              have HB9 := hid ((unhid DS9).below.alloc hb9 (.cells #[] 46))
                              clear hk hb
                              go_wp2_with fail
                              go_ret
                              exact ⟨_, rfl, by rw [unhid E]; exact unhid HE, unhid HB9⟩
                            · have E := hid (show diffL xs ys = [dHunk xs ys] by unfold diffL; rw [unhid HD2, hk]; rfl)
                              obtain ⟨⟨m0, m1⟩, m2, m3⟩ := (unhid DS9).two
                              have HB9 := hid ((unhid DS9).below.alloc hb9 (.cells #[.int .i64 ((f : Int) + 1), .slice ad L4.length cp] 46))
                              have HON := hid (owns_belowX (unhid DS9).own ((Below.refl _ w9).alloc (Nat.le_refl _) (.cells #[.int .i64 ((f : Int) + 1), .slice ad L4.length cp] 46)))
                              have HNW := hid (World.alloc_heap_new w9 (.cells #[.int .i64 ((f : Int) + 1), .slice ad L4.length cp] 46))
                              have HNB := hid (show (Value.slice ad L4.length cp).ownBlock ≠ some w9.heap.size from fun e => by have := ((unhid DS9).own.lt _ e).2; omega)
                              clear hk hb f0 f1 f2 f3
                              go_wp2_with fail
                              go_ret
                              exact ⟨_, rfl, by rw [unhid E]; exact ⟨w9.heap.size, .slice ad L4.length cp, rfl, hb9, by rw [unhid HDH]; exact unhid HNW, by rw [unhid HDH, ← unhid HLL]; exact unhid HON, unhid HNB⟩, unhid HB9⟩
end Go.Proofs.Ytedimkcnemhhpaa
