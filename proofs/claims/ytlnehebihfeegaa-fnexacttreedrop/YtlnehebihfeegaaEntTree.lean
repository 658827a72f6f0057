/- Whether entries are a tree, by the model. -/
import Derived.Test.YtlnehebihfeegaaEntDir
namespace Go.Proofs.Ytlnehebihfeegaa
open Go.RowKit Go.Shelf

def smallE (es : List Ent) : Prop := es.length ≤ 1048576 ∧ ∀ e ∈ es, e.path.size ≤ 1048576 ∧ e.text.size ≤ 1048576
theorem all_range_no {n k : Nat} {f : Nat → Bool} (hk : k < n) (h : f k = false) : (List.range n).all f = false := List.all_eq_false.2 ⟨k, List.mem_range.2 hk, by simp [h]⟩
theorem all_range_snoc {k : Nat} {f : Nat → Bool} (ha : (List.range k).all f = true) (h : f k = true) : (List.range (k + 1)).all f = true := by rw [List.range_succ, List.all_append, ha]; simp [h]

set_option maxRecDepth 100000 in
set_option maxHeartbeats 8000000 in
theorem specTreeOk_any (es : List Ent) (a : Option Addr) (cap : Nat) (w : World) (hs : smallE es) (h : EntsAt w a es) :
    Calls Try.prog 21 #[.slice a es.length cap] w fun x w' => x = .returned (.bool (treeB es)) ∧ Below w.heap.size w w' := by
  obtain ⟨hlen, hz⟩ := hs
  have HH := hid h
  have HZ := hid hz
  clear h hz
  go_enter Try.func21, Try.ntmps21
  go_wp2_with fail
  go_loopw [3] (fun i wr => ∃ k : Nat, k ≤ es.length ∧ i = .int .i64 k ∧ Hid ((List.range k).all (sortAt es) = true) ∧ Below w.heap.size w wr) (fun i _ => es.length - (intOf i).toNat)
  case atStart => exact ⟨0, Nat.zero_le _, rfl, hid rfl, Below.refl _ _⟩
  case round =>
    obtain ⟨k, hk, rfl, hall, hB⟩ := hrel
    by_cases hlt : k < es.length
    · obtain ⟨e, he⟩ : ∃ e, es[k]? = some e := ⟨es[k], List.getElem?_eq_getElem hlt⟩
      obtain ⟨b, o, rfl, hbl, hc⟩ := (unhid HH).get (by intro e; subst e; simp at hlt)
      obtain ⟨c0, c1, c2, c3⟩ := (hc k e he).below hB hbl
      obtain ⟨z1, z2⟩ := unhid HZ e (List.mem_of_getElem? he)
      have hf := entFn_get he
      have HB := hid hB
      have hbw := Nat.lt_of_lt_of_le hbl hB.size
      have g0 := BW.cell (B := wr.heap.size) hbw c0
      have g1 := BW.cell (B := wr.heap.size) hbw c1
      have g2 := BW.cell (B := wr.heap.size) hbw c2
      have g3 := BW.cell (B := wr.heap.size) hbw c3
      cases he1 : entB e
      · have hno : sortAt es k = false := by unfold sortAt; rw [hf, he1]; rfl
        have E := hid (show treeB es = false by unfold treeB; rw [all_range_no hlt hno]; rfl)
        clear hc he hf hno hB c0 c1 c2 c3
        go_wp2_with fail
        have hba := @BW.all wr.heap.size wr
        refine calm_region wr.heap.size (by kernel_rfl) (by kernel_rfl) ?_
        repeat (go_big_quiet_step ((go_at_call 58; refine Calls.bw (v := .bool false) (Nat.le_refl _) ((l2Entry_any e z1 z2 _).mono ?_); rintro r w2 ⟨rfl, hb⟩; exact ⟨by rw [he1], hb⟩)))
        refine wpQuiet_nil ?_
        intro _ hw
        obtain ⟨⟨w2, hB2⟩, hw⟩ := hw
        subst hw
        have HB2 := hid ((unhid HB).trans (hB2.mono (unhid HB).size))
        clear hB2 hba g0 g1 g2 g3
        go_wp2_with fail
        go_ret
        exact ⟨by rw [unhid E]; rfl, unhid HB2⟩
      · rcases k with _ | j
        · have hyes : sortAt es 0 = true := by unfold sortAt; rw [hf, he1]; rfl
          have HY := hid (all_range_snoc (unhid hall) hyes)
          simp only [Nat.zero_mul, Nat.add_zero] at g0 g1 g2 g3
          clear hc he hf hyes hB c0 c1 c2 c3
          go_wp2_with fail
          have hba := @BW.all wr.heap.size wr
          refine calm_region wr.heap.size (by kernel_rfl) (by kernel_rfl) ?_
          repeat (go_big_quiet_step ((go_at_call 58; refine Calls.bw (v := .bool true) (Nat.le_refl _) ((l2Entry_any e z1 z2 _).mono ?_); rintro r w2 ⟨rfl, hb⟩; exact ⟨by rw [he1], hb⟩)))
          refine wpQuiet_nil ?_
          intro _ hw
          obtain ⟨⟨w2, hB2⟩, hw⟩ := hw
          subst hw
          have HB2 := hid ((unhid HB).trans (hB2.mono (unhid HB).size))
          clear hB2 hba g0 g1 g2 g3
          go_wp2_with fail
          go_roundw
          case rel => exact ⟨1, by omega, rfl, HY, unhid HB2⟩
          case measure => simp [intOf]; omega
        · obtain ⟨e0, he0⟩ : ∃ e, es[j]? = some e := ⟨es[j], List.getElem?_eq_getElem (by omega)⟩
          have hf0 := entFn_get he0
          have d0 := ((hc j e0 he0).below hB hbl).c0
          have y0 := BW.cell (B := wr.heap.size) hbw d0
          have hk0' : (0 : Int) < (j : Int) + 1 := by omega
          cases hq : Op.bytesLess e0.path.toList e.path.toList
          · have hno : sortAt es (j + 1) = false := by unfold sortAt ltS; rw [hf, Nat.add_sub_cancel, hf0, he1, hq]; rfl
            have E := hid (show treeB es = false by unfold treeB; rw [all_range_no hlt hno]; rfl)
            clear hc he hf hno hB c0 c1 c2 c3 he0 hf0 d0
            go_wp2_with fail
            have hba := @BW.all wr.heap.size wr
            refine calm_region wr.heap.size (by kernel_rfl) (by kernel_rfl) ?_
            repeat (go_big_quiet_step ((go_at_call 58; refine Calls.bw (v := .bool true) (Nat.le_refl _) ((l2Entry_any e z1 z2 _).mono ?_); rintro r w2 ⟨rfl, hb⟩; exact ⟨by rw [he1], hb⟩)))
            refine wpQuiet_nil ?_
            intro _ hw
            obtain ⟨⟨w2, hB2⟩, hw⟩ := hw
            subst hw
            have HB2 := hid ((unhid HB).trans (hB2.mono (unhid HB).size))
            clear hB2 hba g0 g1 g2 g3
            go_wp2_with fail
            go_ret
            exact ⟨by rw [unhid E]; rfl, unhid HB2⟩
          · have hyes : sortAt es (j + 1) = true := by unfold sortAt ltS; rw [hf, Nat.add_sub_cancel, hf0, he1, hq]; rfl
            have HY := hid (all_range_snoc (unhid hall) hyes)
            clear hc he hf hyes hB c0 c1 c2 c3 he0 hf0 d0
            go_wp2_with fail
            have hba := @BW.all wr.heap.size wr
            refine calm_region wr.heap.size (by kernel_rfl) (by kernel_rfl) ?_
            repeat (go_big_quiet_step ((go_at_call 58; refine Calls.bw (v := .bool true) (Nat.le_refl _) ((l2Entry_any e z1 z2 _).mono ?_); rintro r w2 ⟨rfl, hb⟩; exact ⟨by rw [he1], hb⟩)))
            refine wpQuiet_nil ?_
            intro _ hw
            obtain ⟨⟨w2, hB2⟩, hw⟩ := hw
            subst hw
            have HB2 := hid ((unhid HB).trans (hB2.mono (unhid HB).size))
            clear hB2 hba g0 g1 g2 g3
            go_wp2_with fail
            go_roundw
            case rel => exact ⟨j + 1 + 1, by omega, by go_num, HY, unhid HB2⟩
            case measure => simp [intOf]; omega
    · have hke : k = es.length := by omega
      have HSO := hid (show (List.range es.length).all (sortAt es) = true by rw [← hke]; exact unhid hall)
      have HB := hid hB
      have hlt' : ¬ (k : Int) < es.length := by omega
      clear hall hke hB
      go_wp2_with fail
      go_loopw [4] (fun i wr => ∃ k : Nat, k ≤ es.length ∧ i = .int .i64 k ∧ Hid ((List.range k).all (fun i => dirE es (upS (entFn es i).path)) = true) ∧ Below w.heap.size w wr) (fun i _ => es.length - (intOf i).toNat)
      case atStart => exact ⟨0, Nat.zero_le _, rfl, hid rfl, unhid HB⟩
      case round =>
        obtain ⟨k, hk, rfl, hall, hB⟩ := hrel
        clear HB
        by_cases hlt : k < es.length
        · obtain ⟨e, he⟩ : ∃ e, es[k]? = some e := ⟨es[k], List.getElem?_eq_getElem hlt⟩
          have hAt := (unhid HH).below (W' := wr) ⟨hB.os, hB.tape, hB.output, hB.size, hB.block⟩
          obtain ⟨b, o, rfl, hbl, hc⟩ := (unhid HH).get (by intro e; subst e; simp at hlt)
          obtain ⟨c0, c1, c2, c3⟩ := (hc k e he).below hB hbl
          obtain ⟨z1, z2⟩ := unhid HZ e (List.mem_of_getElem? he)
          have zm : e.path.size ≤ maxLen := by unfold maxLen; omega
          have HF := hid (entFn_get he)
          have HB := hid hB
          have HA := hid hAt
          clear hc he hB hAt
          cases hd : dirE es (upS e.path)
          · have E := hid (show treeB es = false by unfold treeB; rw [all_range_no (f := fun i => dirE es (upS (entFn es i).path)) hlt (by rw [unhid HF]; exact hd)]; simp)
            go_wp2_with (first | (go_at_call 60; refine (l1Up_any _ zm _).mono ?_; rintro r w2 ⟨rfl, rfl⟩) | (go_at_call 59; refine (l2Dir_any es _ cap _ _ hlen (unhid HA)).mono ?_; rintro r w2 ⟨rfl, n, rfl⟩; rw [hd]))
            go_ret
            exact ⟨by rw [unhid E]; rfl, (unhid HB).trans (drewN_below _ _)⟩
          · go_wp2_with (first | (go_at_call 60; refine (l1Up_any _ zm _).mono ?_; rintro r w2 ⟨rfl, rfl⟩) | (go_at_call 59; refine (l2Dir_any es _ cap _ _ hlen (unhid HA)).mono ?_; rintro r w2 ⟨rfl, n, rfl⟩; rw [hd]))
            go_roundw
            case rel => exact ⟨k + 1, by omega, by go_num, hid (all_range_snoc (unhid hall) (by rw [unhid HF]; exact hd)), (unhid HB).trans (drewN_below _ _)⟩
            case measure => simp [intOf]; omega
        · have hke : k = es.length := by omega
          have E := hid (show treeB es = decide ((es.length : Int) ≤ 16) by
            unfold treeB
            rw [unhid HSO, show (List.range es.length).all (fun i => dirE es (upS (entFn es i).path)) = true by rw [← hke]; exact unhid hall]
            exact decide_eq_decide.2 (by omega))
          have hlt' : ¬ (k : Int) < es.length := by omega
          clear hke
          go_wp2_with fail
          go_ret
          exact ⟨by rw [unhid E]; rfl, hB⟩
end Go.Proofs.Ytlnehebihfeegaa
