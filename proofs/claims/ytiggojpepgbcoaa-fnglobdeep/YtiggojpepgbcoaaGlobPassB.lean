/- How the program goes through a pattern item by item (byte). -/
import Derived.Test.YtiggojpepgbcoaaGlobBools
namespace Go.Proofs.Ytiggojpepgbcoaa
open Go.RowKit Go.Shelf

set_option maxRecDepth 100000 in
set_option maxHeartbeats 4000000 in
theorem skipRunsB_any (xs : Pat UInt8) (v : Value) (cs : Nat → Bool × Value) (h : Nat → Bool) (g cap : Nat) (w : World) (hn : xs.length ≤ 1000) (hv : Row2 w 71 v xs.length cs) (hr : ∀ i, i < xs.length → runAt xs i = (cs i).1) (hh : Bools w g (xs.length + 1) h) :
    Calls Try.prog 59 #[v, .slice (some ⟨g, 0, none⟩) (xs.length + 1) cap] w fun e W' => (∃ x, e = .returned x) ∧ Bools W' g (xs.length + 1) (skipN xs h xs.length) ∧ w.grownBy W' (some g) := by
  obtain ⟨a, vc, rfl, hrow⟩ := hv
  go_enter Try.func59, Try.ntmps59
  go_wp2_with fail
  go_loopw [4, 5, 8] (fun _ _ i wr => ∃ k : Nat, k ≤ xs.length ∧ i = .int .i64 k ∧ Bools wr g (xs.length + 1) (skipN xs h k) ∧ w.grownBy wr (some g)) (fun _ _ i _ => xs.length - (intOf i).toNat)
  case atStart => exact ⟨0, Nat.zero_le _, rfl, hh, gb_refl _ _⟩
  case round =>
    obtain ⟨k, hk, rfl, hB, hG⟩ := hrel
    by_cases hlt : k < xs.length
    · obtain ⟨c0, f0⟩ := hB.cell k (by omega)
      rcases hrow with h0 | ⟨gv, cur, rfl, hcur, hvc, hcs⟩
      · omega
      have hcw := (hG.block gv (Array.getElem?_eq_some_iff.1 hcur).1 (by intro e; cases e; obtain ⟨cur', q, _⟩ := hh; exact type_ne hcur q (by decide) rfl)).trans hcur
      have w0 : wr.cell? ⟨gv, k * 2, none⟩ = some (.bool (cs k).1) := by simp [World.cell?, hcw, (hcs k hlt).1]
      have w1 : wr.cell? ⟨gv, k * 2 + 1, none⟩ = some (cs k).2 := by simp [World.cell?, hcw, (hcs k hlt).2.1]
      have hgl := hB.lt
      have hgn : ¬ g = wr.heap.size := by omega
      obtain ⟨c1, f1⟩ := hB.cell (k + 1) (by omega)
      have hst : ∀ b m, (store ⟨wr.heap.size, 1, none⟩ (cs k).2 m).run Try.prog (wr.alloc (.cells #[.bool b, .nilFunc] 71)) = stored Try.prog (wr.alloc (.cells #[.bool b, .nilFunc] 71)) ⟨wr.heap.size, 1, none⟩ (cs k).2 m := fun b m => run_store _ _ _ _ _ (hcs k hlt).2.2
      have hrk := hr k hlt
      have HB := hid hB
      have HG := hid hG
      clear hB hG hcs hr hcur hcw hh
      cases hb1 : skipN xs h k k
      · rw [hb1] at c0
        go_wp2_with fail
        go_roundw
        case rel => exact ⟨k + 1, by omega, by go_num, ((unhid HB).congr (fun j hj => by simp [skipN, hb1])).alloc _, (unhid HG).trans (World.grownBy_alloc _ _ _)⟩
        case measure => simp [intOf]; omega
      · cases hb2 : (cs k).1
        · rw [hb1] at c0
          rw [hb2] at w0 hrk
          go_wp2_with fail
          go_roundw
          case rel => exact ⟨k + 1, by omega, by go_num, ((unhid HB).congr (fun j hj => by simp [skipN, hrk])).alloc _, (unhid HG).trans (World.grownBy_alloc _ _ _)⟩
          case measure => simp [intOf]; omega
        · rw [hb1] at c0
          rw [hb2] at w0 hrk
          go_wp2_with fail
          go_roundw
          case rel => exact ⟨k + 1, by omega, by go_num, (((unhid HB).set (k + 1) (by omega) true).congr (fun j hj => by by_cases e : j = k + 1 <;> simp [skipN, hb1, hrk, e])).alloc _, ((unhid HG).trans (gb_set _ _ _ _)).trans (World.grownBy_alloc _ _ _)⟩
          case measure => simp [intOf]; omega
    · have e : k = xs.length := by omega
      subst e
      go_wp2_with fail
      go_end0
      exact ⟨⟨_, rfl⟩, hB, hG⟩

set_option maxRecDepth 100000 in
set_option maxHeartbeats 4000000 in
theorem passItemB_any (xs : Pat UInt8) (v : Value) (cs : Nat → Bool × Value) (h : Nat → Bool) (g cap : Nat) (c : UInt8) (w : World) (hn : xs.length ≤ 1000) (hv : Row2 w 71 v xs.length cs) (hr : ∀ i, i < xs.length → runAt xs i = (cs i).1) (hh : Bools w g (xs.length + 1) h)
    (hT : TakesIs (fun c : UInt8 => .int .u8 c.toNat) xs cs w) :
    Calls Try.prog 60 #[v, .slice (some ⟨g, 0, none⟩) (xs.length + 1) cap, .int .u8 c.toNat] w fun e W' => ∃ g', e = .returned (.slice (some ⟨g', 0, none⟩) (xs.length + 1) (xs.length + 1)) ∧ w.heap.size ≤ g' ∧ Bools W' g' (xs.length + 1) (nextP xs h c) ∧ Below w.heap.size w W' := by
  have HV := hid hv
  have hmk := mkBools w xs.length hn
  have b0 := hid (Bools.new w (xs.length + 1))
  obtain ⟨a, vc, rfl, hrow⟩ := hv
  go_enter Try.func60, Try.ntmps60
  go_wp2_with fail
  clear hmk
  have hB0 : Below w.heap.size w (w.alloc (.cells (madeCells #[.bool false] (xs.length + 1)) 4)) := (Below.refl _ _).alloc (Nat.le_refl _) _
  have hz0 : w.heap.size < (w.alloc (.cells (madeCells #[.bool false] (xs.length + 1)) 4)).heap.size := by simp
  generalize w.alloc (.cells (madeCells #[.bool false] (xs.length + 1)) 4) = wq at b0 hB0 hz0 ⊢
  go_loopw [8, 9, 15] (fun _ _ i wr => ∃ k : Nat, k ≤ xs.length ∧ i = .int .i64 k ∧ Bools wr w.heap.size (xs.length + 1) (passN xs h c k) ∧ Below w.heap.size w wr) (fun _ _ i _ => xs.length - (intOf i).toNat)
  case atStart => exact ⟨0, Nat.zero_le _, rfl, unhid b0, hB0⟩
  case round =>
    clear b0 hB0 hz0
    obtain ⟨k, hk, rfl, hB, hG⟩ := hrel
    by_cases hlt : k < xs.length
    · obtain ⟨c0, f0⟩ := (hh.below hG hh.lt).cell k (by omega)
      obtain ⟨n0, m0⟩ := hB.cell k (by omega)
      obtain ⟨n1, m1⟩ := hB.cell (k + 1) (by omega)
      rcases hrow with h0 | ⟨gv, cur, rfl, hcur, hvc, hcs⟩
      · omega
      have hgv := (Array.getElem?_eq_some_iff.1 hcur).1
      have hcw := (hG.block gv hgv).trans hcur
      have w0 : wr.cell? ⟨gv, k * 2, none⟩ = some (.bool (cs k).1) := by simp [World.cell?, hcw, (hcs k hlt).1]
      have w1 : wr.cell? ⟨gv, k * 2 + 1, none⟩ = some (cs k).2 := by simp [World.cell?, hcw, (hcs k hlt).2.1]
      have hgl : g < wr.heap.size := Nat.lt_of_lt_of_le hh.lt hG.size
      have hgn : ¬ g = wr.heap.size := by omega
      have hnl := hB.lt
      have hnn : ¬ w.heap.size = wr.heap.size := by omega
      have hgg : ¬ g = w.heap.size := by have := hh.lt; omega
      have hvn : ¬ gv = w.heap.size := by omega
      have hst : ∀ b m, (store ⟨wr.heap.size, 1, none⟩ (cs k).2 m).run Try.prog (wr.alloc (.cells #[.bool b, .nilFunc] 71)) = stored Try.prog (wr.alloc (.cells #[.bool b, .nilFunc] 71)) ⟨wr.heap.size, 1, none⟩ (cs k).2 m := fun b m => run_store _ _ _ _ _ (hcs k hlt).2.2
      have hrk := hr k hlt
      have HB := hid hB
      have HG := hid hG
      have HH := hid hh
      clear hB hG hcs hr hcur hcw hh
      have hTk := hT k hlt
      have HT := hid hTk
      clear hT hTk
      cases hb1 : h k
      · rw [hb1] at c0
        go_wp2_with fail
        go_roundw
        case rel => exact ⟨k + 1, by omega, by go_num, ((unhid HB).congr (fun j hj => by simp [passN, hb1])).alloc _, (unhid HG).alloc (unhid HG).size _⟩
        case measure => simp [intOf]; omega
      · rw [hb1] at c0
        cases hb2 : (cs k).1
        · rw [hb2] at w0 hrk
          obtain ⟨f, ca, hf, hen, hcall⟩ := unhid HT hrk
          rw [hf] at w1 hst
          have HC := hid hcall
          clear hcall HT hf
          go_wp2_with fail
          have hA : Below w.heap.size w (wr.alloc (.cells #[.bool false, .func (.func f) #[] ca] 71)) := (unhid HG).alloc (unhid HG).size _
          refine (unhid HC c _ hA).mono ?_
          rintro e w2 ⟨rfl, hb⟩
          have HB2 := hid (((unhid HB).alloc (.cells #[.bool false, .func (.func f) #[] ca] 71)).below hb (by simp; omega))
          obtain ⟨n1, m1⟩ := (unhid HB2).cell (k + 1) (by omega)
          have HG2 := hid (hA.trans (hb.mono hA.size))
          clear hA hb c0 f0 n0 m0 w0 w1 hst hgl hgn hnl hnn
          cases ht : takeAt xs k c
          · go_wp2_with fail
            go_roundw
            case rel => exact ⟨k + 1, by omega, by go_num, (unhid HB2).congr (fun j hj => by simp [passN, hb1, hrk, ht]), unhid HG2⟩
            case measure => simp [intOf]; omega
          · go_wp2_with fail
            go_roundw
            case rel => exact ⟨k + 1, by omega, by go_num, ((unhid HB2).set (k + 1) (by omega) true).congr (fun j hj => by by_cases e : j = k + 1 <;> simp [passN, hb1, hrk, ht, e]), (unhid HG2).setCell (p := ⟨w.heap.size, k + 1, none⟩) (Nat.le_refl _) _⟩
            case measure => simp [intOf]; omega
        · rw [hb2] at w0 hrk
          go_wp2_with fail
          go_roundw
          case rel => exact ⟨k + 1, by omega, by go_num, (((unhid HB).set k (by omega) true).congr (fun j hj => by by_cases e : j = k <;> simp [passN, hb1, hrk, takeAt, runAt_iff.1 hrk, e])).alloc _, ((unhid HG).setCell (p := ⟨w.heap.size, k, none⟩) (Nat.le_refl _) _).alloc (by simp; exact (unhid HG).size) _⟩
          case measure => simp [intOf]; omega
    · have e : k = xs.length := by omega
      subst e
      have HR := hid hr
      have HB := hid hB
      have HG := hid hG
      clear hT hrow hr hB hG hh
      go_wp2_with fail
      refine (skipRunsB_any xs _ cs _ w.heap.size (xs.length + 1) wr hn ((unhid HV).kept (fun b hb => (unhid HG).block b hb)) (unhid HR) (unhid HB)).mono ?_
      rintro e w2 ⟨⟨x, rfl⟩, hB2, hG2⟩
      go_wp2_with fail
      go_ret
      exact ⟨w.heap.size, rfl, Nat.le_refl _, hB2, below_of_grown (unhid HG) hG2 (Nat.le_refl _)⟩
end Go.Proofs.Ytiggojpepgbcoaa
