/- Texts of this proof, one behind the other; each says at its head what it shows. -/
import Derived.Test.YtoihhlkidlapmaaGreatJoin7
import Derived.Test.YtoihhlkidlapmaaGreatJoin4
import Derived.Test.YtoihhlkidlapmaaGreatJoin2
import Derived.RangeFuncFrom
import Derived.RangeFuncBox
import Derived.Deep.RegionWith
import Derived.Test.YtoihhlkidlapmaaGreatJoin6
import Derived.Deep.QuietTactic
import Derived.BigQuiet
import Derived.Test.YtoihhlkidlapmaaGreatJoin1
import Derived.Maps.AppendAt
/- How the program goes through a pattern item by item (byte). -/
namespace Go.Proofs.YtoihhlkidlapmaaGreat
open Go.RowKit Go.Shelf

set_option maxRecDepth 100000 in
set_option maxHeartbeats 4000000 in
theorem skipRunsB_any (xs : Pat UInt8) (v : Value) (cs : Nat → Bool × Value) (h : Nat → Bool) (g cap : Nat) (w : World) (hn : xs.length ≤ 1000) (hv : Row2 w 270 v xs.length cs) (hr : ∀ i, i < xs.length → runAt xs i = (cs i).1) (hh : Bools w g (xs.length + 1) h) :
    Calls Tryz.prog 263 #[v, .slice (some ⟨g, 0, none⟩) (xs.length + 1) cap] w fun e W' => (∃ x, e = .returned x) ∧ Bools W' g (xs.length + 1) (skipN xs h xs.length) ∧ w.grownBy W' (some g) := by
  obtain ⟨a, vc, rfl, hrow⟩ := hv
  go_enter Tryz.func263, Tryz.ntmps263
  go_wp2_with fail
  go_loopw [4, 5, 8] (fun _ _ i wr => ∃ k : Nat, k ≤ xs.length ∧ i = .int .i64 k ∧ Bools wr g (xs.length + 1) (skipN xs h k) ∧ w.grownBy wr (some g)) (fun _ _ i _ => xs.length - (intOf i).toNat)
  case atStart => exact ⟨0, Nat.zero_le _, rfl, hh, gb_reflG _ _⟩
  case round =>
    obtain ⟨k, hk, rfl, hB, hG⟩ := hrel
    by_cases hlt : k < xs.length
    · obtain ⟨c0, f0⟩ := hB.cell k (by omega)
      rcases hrow with h0 | ⟨gv, cur, rfl, hcur, hvc, hcs⟩
      · omega
      have hcw := (hG.block gv (Array.getElem?_eq_some_iff.1 hcur).1 (by intro e; cases e; obtain ⟨cur', q, _⟩ := hh; exact type_neG hcur q (by decide) rfl)).trans hcur
      have w0 : wr.cell? ⟨gv, k * 2, none⟩ = some (.bool (cs k).1) := by simp [World.cell?, hcw, (hcs k hlt).1]
      have w1 : wr.cell? ⟨gv, k * 2 + 1, none⟩ = some (cs k).2 := by simp [World.cell?, hcw, (hcs k hlt).2.1]
      have hgl := hB.lt
      have hgn : ¬ g = wr.heap.size := by omega
      obtain ⟨c1, f1⟩ := hB.cell (k + 1) (by omega)
      have hst : ∀ b m, (store ⟨wr.heap.size, 1, none⟩ (cs k).2 m).run Tryz.prog (wr.alloc (.cells #[.bool b, .nilFunc] 270)) = stored Tryz.prog (wr.alloc (.cells #[.bool b, .nilFunc] 270)) ⟨wr.heap.size, 1, none⟩ (cs k).2 m := fun b m => run_store _ _ _ _ _ (hcs k hlt).2.2
      have hrk := hr k hlt
      have HB := hid hB
      have HG := hid hG
      clear hB hG hcs hr hcur hcw hh
      cases hb1 : skipN xs h k k
      · rw [hb1] at c0
        go_wp2_with fail
        go_roundw
        case rel => exact ⟨k + 1, by omega, by go_num, ((unhid HB).congr (fun j hj => by simp [skipN, hb1])).alloc _, (unhid HG).trans (World.grownBy_alloc _ _ _)⟩
        case measure => simp [intOf]; omega
      · cases hb2 : (cs k).1
        · rw [hb1] at c0
          rw [hb2] at w0 hrk
          go_wp2_with fail
          go_roundw
          case rel => exact ⟨k + 1, by omega, by go_num, ((unhid HB).congr (fun j hj => by simp [skipN, hrk])).alloc _, (unhid HG).trans (World.grownBy_alloc _ _ _)⟩
          case measure => simp [intOf]; omega
        · rw [hb1] at c0
          rw [hb2] at w0 hrk
          go_wp2_with fail
          go_roundw
          case rel => exact ⟨k + 1, by omega, by go_num, (((unhid HB).set (k + 1) (by omega) true).congr (fun j hj => by by_cases e : j = k + 1 <;> simp [skipN, hb1, hrk, e])).alloc _, ((unhid HG).trans (gb_set _ _ _ _)).trans (World.grownBy_alloc _ _ _)⟩
          case measure => simp [intOf]; omega
    · have e : k = xs.length := by omega
      subst e
      go_wp2_with fail
      go_end0
      exact ⟨⟨_, rfl⟩, hB, hG⟩

set_option maxRecDepth 100000 in
set_option maxHeartbeats 4000000 in
theorem passItemB_any (xs : Pat UInt8) (v : Value) (cs : Nat → Bool × Value) (h : Nat → Bool) (g cap : Nat) (c : UInt8) (w : World) (hn : xs.length ≤ 1000) (hv : Row2 w 270 v xs.length cs) (hr : ∀ i, i < xs.length → runAt xs i = (cs i).1) (hh : Bools w g (xs.length + 1) h)
    (hT : TakesIs (fun c : UInt8 => .int .u8 c.toNat) xs cs w) :
    Calls Tryz.prog 264 #[v, .slice (some ⟨g, 0, none⟩) (xs.length + 1) cap, .int .u8 c.toNat] w fun e W' => ∃ g', e = .returned (.slice (some ⟨g', 0, none⟩) (xs.length + 1) (xs.length + 1)) ∧ w.heap.size ≤ g' ∧ Bools W' g' (xs.length + 1) (nextP xs h c) ∧ Below w.heap.size w W' := by
  have HV := hid hv
  have hmk := mkBools w xs.length hn
  have b0 := hid (Bools.new w (xs.length + 1))
  obtain ⟨a, vc, rfl, hrow⟩ := hv
  go_enter Tryz.func264, Tryz.ntmps264
  go_wp2_with fail
  clear hmk
  have hB0 : Below w.heap.size w (w.alloc (.cells (madeCells #[.bool false] (xs.length + 1)) 4)) := (Below.refl _ _).alloc (Nat.le_refl _) _
  have hz0 : w.heap.size < (w.alloc (.cells (madeCells #[.bool false] (xs.length + 1)) 4)).heap.size := by simp
  generalize w.alloc (.cells (madeCells #[.bool false] (xs.length + 1)) 4) = wq at b0 hB0 hz0 ⊢
  go_loopw [8, 9, 15] (fun _ _ i wr => ∃ k : Nat, k ≤ xs.length ∧ i = .int .i64 k ∧ Bools wr w.heap.size (xs.length + 1) (passN xs h c k) ∧ Below w.heap.size w wr) (fun _ _ i _ => xs.length - (intOf i).toNat)
  case atStart => exact ⟨0, Nat.zero_le _, rfl, unhid b0, hB0⟩
  case round =>
    clear b0 hB0 hz0
    obtain ⟨k, hk, rfl, hB, hG⟩ := hrel
    by_cases hlt : k < xs.length
    · obtain ⟨c0, f0⟩ := (hh.below hG hh.lt).cell k (by omega)
      obtain ⟨n0, m0⟩ := hB.cell k (by omega)
      obtain ⟨n1, m1⟩ := hB.cell (k + 1) (by omega)
      rcases hrow with h0 | ⟨gv, cur, rfl, hcur, hvc, hcs⟩
      · omega
      have hgv := (Array.getElem?_eq_some_iff.1 hcur).1
      have hcw := (hG.block gv hgv).trans hcur
      have w0 : wr.cell? ⟨gv, k * 2, none⟩ = some (.bool (cs k).1) := by simp [World.cell?, hcw, (hcs k hlt).1]
      have w1 : wr.cell? ⟨gv, k * 2 + 1, none⟩ = some (cs k).2 := by simp [World.cell?, hcw, (hcs k hlt).2.1]
      have hgl : g < wr.heap.size := Nat.lt_of_lt_of_le hh.lt hG.size
      have hgn : ¬ g = wr.heap.size := by omega
      have hnl := hB.lt
      have hnn : ¬ w.heap.size = wr.heap.size := by omega
      have hgg : ¬ g = w.heap.size := by have := hh.lt; omega
      have hvn : ¬ gv = w.heap.size := by omega
      have hst : ∀ b m, (store ⟨wr.heap.size, 1, none⟩ (cs k).2 m).run Tryz.prog (wr.alloc (.cells #[.bool b, .nilFunc] 270)) = stored Tryz.prog (wr.alloc (.cells #[.bool b, .nilFunc] 270)) ⟨wr.heap.size, 1, none⟩ (cs k).2 m := fun b m => run_store _ _ _ _ _ (hcs k hlt).2.2
      have hrk := hr k hlt
      have HB := hid hB
      have HG := hid hG
      have HH := hid hh
      clear hB hG hcs hr hcur hcw hh
      have hTk := hT k hlt
      have HT := hid hTk
      clear hT hTk
      cases hb1 : h k
      · rw [hb1] at c0
        go_wp2_with fail
        go_roundw
        case rel => exact ⟨k + 1, by omega, by go_num, ((unhid HB).congr (fun j hj => by simp [passN, hb1])).alloc _, (unhid HG).alloc (unhid HG).size _⟩
        case measure => simp [intOf]; omega
      · rw [hb1] at c0
        cases hb2 : (cs k).1
        · rw [hb2] at w0 hrk
          obtain ⟨f, ca, hf, hen, hcall⟩ := unhid HT hrk
          rw [hf] at w1 hst
          have HC := hid hcall
          clear hcall HT hf
          go_wp2_with fail
          have hA : Below w.heap.size w (wr.alloc (.cells #[.bool false, .func (.func f) #[] ca] 270)) := (unhid HG).alloc (unhid HG).size _
          refine (unhid HC c _ hA).mono ?_
          rintro e w2 ⟨rfl, hb⟩
          have HB2 := hid (((unhid HB).alloc (.cells #[.bool false, .func (.func f) #[] ca] 270)).below hb (by simp; omega))
          obtain ⟨n1, m1⟩ := (unhid HB2).cell (k + 1) (by omega)
          have HG2 := hid (hA.trans (hb.mono hA.size))
          clear hA hb c0 f0 n0 m0 w0 w1 hst hgl hgn hnl hnn
          cases ht : takeAt xs k c
          · go_wp2_with fail
            go_roundw
            case rel => exact ⟨k + 1, by omega, by go_num, (unhid HB2).congr (fun j hj => by simp [passN, hb1, hrk, ht]), unhid HG2⟩
            case measure => simp [intOf]; omega
          · go_wp2_with fail
            go_roundw
            case rel => exact ⟨k + 1, by omega, by go_num, ((unhid HB2).set (k + 1) (by omega) true).congr (fun j hj => by by_cases e : j = k + 1 <;> simp [passN, hb1, hrk, ht, e]), (unhid HG2).setCell (p := ⟨w.heap.size, k + 1, none⟩) (Nat.le_refl _) _⟩
            case measure => simp [intOf]; omega
        · rw [hb2] at w0 hrk
          go_wp2_with fail
          go_roundw
          case rel => exact ⟨k + 1, by omega, by go_num, (((unhid HB).set k (by omega) true).congr (fun j hj => by by_cases e : j = k <;> simp [passN, hb1, hrk, takeAt, runAt_iff.1 hrk, e])).alloc _, ((unhid HG).setCell (p := ⟨w.heap.size, k, none⟩) (Nat.le_refl _) _).alloc (by simp; exact (unhid HG).size) _⟩
          case measure => simp [intOf]; omega
    · have e : k = xs.length := by omega
      subst e
      have HR := hid hr
      have HB := hid hB
      have HG := hid hG
      clear hT hrow hr hB hG hh
      go_wp2_with fail
      refine (skipRunsB_any xs _ cs _ w.heap.size (xs.length + 1) wr hn ((unhid HV).kept (fun b hb => (unhid HG).block b hb)) (unhid HR) (unhid HB)).mono ?_
      rintro e w2 ⟨⟨x, rfl⟩, hB2, hG2⟩
      go_wp2_with fail
      go_ret
      exact ⟨w.heap.size, rfl, Nat.le_refl _, hB2, below_of_grown (unhid HG) hG2 (Nat.le_refl _)⟩
end Go.Proofs.YtoihhlkidlapmaaGreat

/- A class of a pattern, as the program reads it and as its model does. -/
namespace Go.Proofs.YtoihhlkidlapmaaGreat
open Go.RowKit Go.Shelf



end Go.Proofs.YtoihhlkidlapmaaGreat

/- How long a class is, by the model. -/
namespace Go.Proofs.YtoihhlkidlapmaaGreat
open Go.RowKit Go.Shelf


end Go.Proofs.YtoihhlkidlapmaaGreat

/- What a name of a pattern is, by the model. -/
namespace Go.Proofs.YtoihhlkidlapmaaGreat
open Go.RowKit Go.Shelf


end Go.Proofs.YtoihhlkidlapmaaGreat

/- What a pattern is, by the model. -/
namespace Go.Proofs.YtoihhlkidlapmaaGreat
open Go.RowKit Go.Shelf


end Go.Proofs.YtoihhlkidlapmaaGreat

/- As Parts: the parts of a text, with a bound on each. -/
namespace Go.Proofs.YtoihhlkidlapmaaGreat
open Go.RowKit Go.Shelf

attribute [local go_sem] Oper.semAt_some



end Go.Proofs.YtoihhlkidlapmaaGreat

/- Whether a text is a pattern, by the program. -/
namespace Go.Proofs.YtoihhlkidlapmaaGreat
open Go.RowKit Go.Shelf

attribute [local go_sem] Oper.semAt_some

theorem grown_of_below {W w1 : World} (h : Below W.heap.size W w1) (r : Option Nat) : W.grownBy w1 r := ⟨h.os, h.tape, h.output, h.size, fun k hk _ => h.block k hk⟩
theorem Boxed_below {W w1 : World} {B : Nat} {t : TypeId} {v : Value} (h : Boxed W B t v) (hb : Below W.heap.size W w1) : Boxed w1 B t v := h.kept (grown_of_below hb none) (by simp)


end Go.Proofs.YtoihhlkidlapmaaGreat

/- Whether wants, one behind the other, take just the items of a text (byte). -/
namespace Go.Proofs.YtoihhlkidlapmaaGreat
open Go.RowKit Go.Shelf

attribute [local go_sem] Oper.semAt_some

theorem cells_of {W : World} {b : Nat} {cur : Array Value} {e : TypeId} {f : Nat × Nat} (h : W.heap[b]? = some (.cells cur e f)) {r : Option Nat} (hr : ∀ x, r = some x → ∃ o : Obj, W.heap[x]? = some o ∧ o.isCells = false) : r ≠ some b := by
  intro e
  obtain ⟨o, h1, h2⟩ := hr b e
  rw [h] at h1; cases h1; cases h2
theorem TakesIs.below {α : Type} {enc : α → Value} {xs : Pat α} {cs : Nat → Bool × Value} {w W : World} (h : TakesIs enc xs cs w) (hb : Below w.heap.size w W) : TakesIs enc xs cs W := fun i hi hr => by
  obtain ⟨f, ca, h1, h2, h3⟩ := h i hi hr
  exact ⟨f, ca, h1, h2, fun c W' hb' => h3 c W' (hb.trans (hb'.mono hb.size))⟩
theorem Bools.own {W W' : World} {g m : Nat} {h : Nat → Bool} (x : Bools W g m h) {r : Option Nat} (hg : W.grownBy W' r) (hr : ∀ x, r = some x → ∃ o : Obj, W.heap[x]? = some o ∧ o.isCells = false) : Bools W' g m h := by
  obtain ⟨cur, h1, h2, h3⟩ := x
  exact ⟨cur, (hg.block g (Array.getElem?_eq_some_iff.1 h1).1 (fun e => cells_of h1 hr e.symm)).trans h1, h2, h3⟩

set_option maxRecDepth 100000 in
set_option maxHeartbeats 4000000 in
theorem takesAllB_any (xs : Pat UInt8) (v : Value) (cs : Nat → Bool × Value) (s : ByteArray) (Bn : Nat) (w : World) (hn : xs.length ≤ 1000) (hs : s.size ≤ maxLen) (hv : Row2 w 270 v xs.length cs) (hr : ∀ i, i < xs.length → runAt xs i = (cs i).1)
    (hT : TakesIs (fun c : UInt8 => .int .u8 c.toNat) xs cs w) (hBn : Bn < w.heap.size) (hc : w.cell? ⟨Bn, 0, none⟩ = some (.string s)) :
    Calls Tryz.prog 228 #[v, .func (.func 265) #[] #[.pointer (some ⟨Bn, 0, none⟩)]] w fun e W' => e = .returned (.bool (matchO xs s.data.toList)) ∧ Below w.heap.size w W' := by
  have HV := hid hv
  have HT := hid hT
  have HC := hid hc
  have hsh : ∃ a vc, v = .slice a xs.length vc := by obtain ⟨a, vc, rfl, -⟩ := hv; exact ⟨a, vc, rfl⟩
  obtain ⟨a, vc, rfl⟩ := hsh
  clear hv hT hc
  have hmk := mkBools (w.alloc (.cells #[.slice a xs.length vc] 245)) xs.length hn
  have hms : (madeCells #[.bool false] (xs.length + 1)).size = xs.length + 1 := by simp [madeCells]
  have hm : ∀ j, j < xs.length + 1 → (madeCells #[.bool false] (xs.length + 1))[j]? = some (.bool false) := fun j hj => by simp [madeCells, hj, Nat.mod_one]
  generalize madeCells #[.bool false] (xs.length + 1) = M at hmk hms hm
  have hm0 := hm 0 (Nat.succ_pos _)
  have HM := hid (And.intro hms hm)
  clear hms hm
  refine (callsIn_wide (n := 4)).1 ?_
  refine callsIn_of_wp_marks Tryz.func228 rfl trivial ?_ rfl
  simp only [Tryz.ntmps228, List.size_toArray, List.length_cons, List.length_nil, Nat.reduceAdd, Nat.reduceSub, Array.replicate_succ, Array.replicate_zero, List.push_toArray, List.append_toArray, List.nil_append, List.cons_append]
  gi_wp2
  clear hmk hm0
  obtain ⟨W1, hW1⟩ : ∃ W1, W1 = (((w.alloc (.cells #[.slice a xs.length vc] 245)).alloc (.cells (M.setIfInBounds 0 (.bool true)) 4)).alloc (.cells #[.slice (some ⟨w.heap.size + 1, 0, none⟩) (xs.length + 1) (xs.length + 1)] 95)) := ⟨_, rfl⟩
  rw [← hW1]
  have hz1 : W1.heap.size = w.heap.size + 3 := by rw [hW1]; simp
  have hB1 : Below w.heap.size w W1 := by rw [hW1]; exact (((Below.refl _ w).alloc (Nat.le_refl _) _).alloc (by simp) _).alloc (by simp; omega) _
  have k0 : Boxed W1 w.heap.size 245 (.slice a xs.length vc) := by
    rw [hW1]; exact ((Boxed.new w _ _).alloc _).alloc _
  have k2 : Boxed W1 (w.heap.size + 1 + 1) 95 (.slice (some ⟨w.heap.size + 1, 0, none⟩) (xs.length + 1) (xs.length + 1)) := by
    rw [hW1]; have := Boxed.new ((w.alloc (.cells #[.slice a xs.length vc] 245)).alloc (.cells (M.setIfInBounds 0 (.bool true)) 4)) 95 (.slice (some ⟨w.heap.size + 1, 0, none⟩) (xs.length + 1) (xs.length + 1)); simpa using this
  have k1 : Bools W1 (w.heap.size + 1) (xs.length + 1) (fun j => j == 0) := by
    obtain ⟨h1, h2⟩ := unhid HM
    rw [hW1]
    refine Bools.alloc (W := (w.alloc _).alloc _) ⟨M.setIfInBounds 0 (.bool true), ?_, by simpa using h1, fun j hj => ?_⟩ _
    · have := World.alloc_heap_new (w.alloc (.cells #[.slice a xs.length vc] 245)) (.cells (M.setIfInBounds 0 (.bool true)) 4); simpa using this
    · rw [Array.getElem?_setIfInBounds]
      by_cases e : 0 = j
      · subst e; rw [if_pos rfl, if_pos (by omega)]; rfl
      · rw [if_neg e, h2 j hj]
        have e' : (j == 0) = false := by simp; omega
        rw [e']
  clear hW1 HM
  refine ⟨trivial, (callsIn_wide.2 (skipRunsB_any xs _ cs _ (w.heap.size + 1) (xs.length + 1) W1 hn ((unhid HV).kept (fun b hb => hB1.block b hb)) hr k1)).mono ?_⟩
  rintro e W2 ⟨⟨x, rfl⟩, b1, g1⟩
  have q0 := k0.kept g1 (by simp)
  have q2 := k2.kept g1 (by simp)
  have hB2 := below_of_grown hB1 g1 (by omega)
  have hz2 : w.heap.size + 3 ≤ W2.heap.size := by have := g1.size; omega
  have hc0 := q0.cell
  have hc2 := q2.cell
  have HQ := hid (And.intro q0 (And.intro q2 (And.intro b1 hB2)))
  clear k0 k1 k2 hB1 hz1 g1 q0 q2 b1 hB2 W1
  gi_wp2
  refine wpIn_rangeFunc_ownF rfl (by omega) (gf := 265) (lb := #[.pointer (some ⟨Bn, 0, none⟩)]) rfl trivial (enters_of Tryz.func265 (by kernel_rfl) rfl)
    (bytes_stops Fence.wide _ trivial rfl (by omega) Bn s hs w hBn (unhid HC)) Keeps.t (Keeps.b) (unhid HQ).2.2.2 (fun _ => rfl)
    (fun pre W => ((∃ g, Boxed W (w.heap.size + 1 + 1) 95 (.slice (some ⟨g, 0, none⟩) (xs.length + 1) (xs.length + 1)) ∧ Bools W g (xs.length + 1) (placesP xs pre)) ∧ Boxed W w.heap.size 245 (.slice a xs.length vc)) ∧ Below w.heap.size w W)
    (fun c pre W => False)
    (OwnFrom.and (Own.from (fun s A B row hs hg hr => by
        obtain ⟨⟨g, h1, h2⟩, h3⟩ := hs
        exact ⟨⟨g, boxed_own _ _ (fun _ => _) s A B row h1 hg hr, h2.own hg hr⟩, boxed_own _ _ (fun _ => _) s A B row h3 hg hr⟩) _) (ownFrom_below (Nat.le_refl _) (by omega)))
    (fun c => Own.from (fun s A B row hs hg hr => hs) _)
    ⟨⟨⟨w.heap.size + 1, (unhid HQ).2.1, (unhid HQ).2.2.1⟩, (unhid HQ).1⟩, (unhid HQ).2.2.2⟩
    (fun y => { tmps := #[.slice a xs.length vc, .func (.func 265) #[] #[.pointer (some ⟨Bn, 0, none⟩)], .pointer (some ⟨w.heap.size, 0, none⟩), undef, .bool false, .pointer (some ⟨w.heap.size + 1 + 1, 0, none⟩), .int .u8 y.toNat, .slice a xs.length vc, .int .i64 xs.length, .int .i64 ((xs.length : Int) + 1), .slice (some ⟨w.heap.size + 1, 0, none⟩) (xs.length + 1) (xs.length + 1), .slice (some ⟨w.heap.size + 1, 0, none⟩) (xs.length + 1) (xs.length + 1), .pointer (some ⟨w.heap.size + 1, 0, none⟩), .slice a xs.length vc, .slice (some ⟨w.heap.size + 1, 0, none⟩) (xs.length + 1) (xs.length + 1), x, .func (.func 265) #[] #[.pointer (some ⟨Bn, 0, none⟩)], .int .u8 y.toNat, undef, undef, undef, undef, undef, undef, undef, undef, undef], defers := [] }) ?assign ?body ?done ?stop
  case assign =>
    intro l y W K hK
    gi_wp2
    exact hK
  case body =>
    clear HQ hc0 hc2
    rintro l pre y W ⟨⟨⟨g, k2, k1⟩, k0⟩, hB⟩ _
    have hc0 := k0.cell
    have hc2 := k2.cell
    have hf2 := k2.frozen
    have HK := hid (And.intro k2 (And.intro k1 (And.intro k0 hB)))
    have hT1 : TakesIs (fun c : UInt8 => .int .u8 c.toNat) xs cs W := (unhid HT).below hB
    have HT1 := hid hT1
    have HV1 := hid ((unhid HV).kept (fun b hb => hB.block b hb))
    clear k2 k1 k0 hB hT1
    gi_wp2
    refine ⟨trivial, (CallsIn.inRound l (callsIn_wide.2 (passItemB_any xs _ cs _ g (xs.length + 1) y W hn (unhid HV1) hr (unhid HK).2.1 (unhid HT1)))).mono ?_⟩
    rintro e W' ⟨g', rfl, hg', b1, hb⟩
    obtain ⟨k2, k1, k0, hB⟩ := unhid HK
    have q2 := Boxed_below k2 hb
    have q0 := Boxed_below k0 hb
    have hB' := hB.trans (hb.mono hB.size)
    have hc0 := q0.cell
    have hc2 := q2.cell
    have hf2 := q2.frozen
    have hO := KeepsOthers_of_below hb
    have hgne : g' ≠ w.heap.size + 1 + 1 := by have := k2.lt; omega
    have hKp : Keeps [Bn] W W' := Keeps.of_below hb (fun b hb => by simp at hb; subst hb; exact Nat.lt_of_lt_of_le hBn hB.size)
    have HF := hid (show KeepsOthers W (W'.setCell ⟨w.heap.size + 1 + 1, 0, none⟩ (.slice (some ⟨g', 0, none⟩) (xs.length + 1) (xs.length + 1))) ∧ Keeps [Bn] W (W'.setCell ⟨w.heap.size + 1 + 1, 0, none⟩ (.slice (some ⟨g', 0, none⟩) (xs.length + 1) (xs.length + 1))) ∧ _ from
      And.intro (hO.trans (KeepsOthers.setCell _ _ _)) (And.intro (hKp.t (Keeps.setCell _ _ _ (by simp; omega))) (And.intro (And.intro (show ∃ g, Boxed (W'.setCell ⟨w.heap.size + 1 + 1, 0, none⟩ (.slice (some ⟨g', 0, none⟩) (xs.length + 1) (xs.length + 1))) (w.heap.size + 1 + 1) 95 (.slice (some ⟨g, 0, none⟩) (xs.length + 1) (xs.length + 1)) ∧ Bools (W'.setCell ⟨w.heap.size + 1 + 1, 0, none⟩ (.slice (some ⟨g', 0, none⟩) (xs.length + 1) (xs.length + 1))) g (xs.length + 1) (placesP xs (pre ++ [y])) from ⟨g', q2.set _, by rw [placesP_snoc]; exact b1.other _ _ hgne⟩) (q0.other (show w.heap.size ≠ w.heap.size + 1 + 1 by omega) (.slice (some ⟨g', 0, none⟩) (xs.length + 1) (xs.length + 1)))) (hB'.setCell (p := ⟨w.heap.size + 1 + 1, 0, none⟩) (by simp; omega) (.slice (some ⟨g', 0, none⟩) (xs.length + 1) (xs.length + 1))))))
    clear HK HT1 HV1 k2 k1 k0 hB q2 q0 hB' hO hKp b1 hb
    gi_wp2
    exact unhid HF
  case done =>
    clear HQ hc0 hc2
    rintro D ys W hD rfl ⟨⟨⟨g, k2, k1⟩, k0⟩, hB⟩ hK
    have hc0 := k0.cell
    have hc2 := k2.cell
    obtain ⟨hcn, -⟩ := k1.cell xs.length (by omega)
    rw [places_match] at hcn
    have HB := hid hB
    clear k2 k1 k0 hB
    gi_wp2
    refine ⟨by simp, .inl ⟨_, _, rfl, run_takeDeferred hK, ?_⟩⟩
    refine ⟨.bool (matchO xs s.data.toList), ?_, rfl, (unhid HB).trans (belowK_b (w := w) (Nat.le_refl _) _ D _ _ (by omega) hK rfl rfl)⟩
    simp [results, Tryz.f228, go_sem]
  case stop =>
    rintro D c pre W hD hpre h hK
    exact h.elim
end Go.Proofs.YtoihhlkidlapmaaGreat

/- Whether wants, one behind the other, take just the items of a text (string). -/
namespace Go.Proofs.YtoihhlkidlapmaaGreat
open Go.RowKit Go.Shelf

attribute [local go_sem] Oper.semAt_some

end Go.Proofs.YtoihhlkidlapmaaGreat

/- What a name of a pattern takes, by the program's function value for it. -/
namespace Go.Proofs.YtoihhlkidlapmaaGreat
open Go.RowKit Go.Shelf

def opt8 : W8 → Option (UInt8 → Bool)
  | none => none
  | some x => some (takesB (some x))
def runOf (cells : List Value) (i : Nat) : Bool × Value := ((match cells[2 * i]? with
  | some (.bool r) => r
  | _ => false), cells[2 * i + 1]?.getD undef)
theorem runOf_eq {cells : List Value} {i : Nat} {r : Bool} {fv : Value} (h1 : cells[2 * i]? = some (.bool r)) (h2 : cells[2 * i + 1]? = some fv) : runOf cells i = (r, fv) := by
  unfold runOf; rw [h1, h2]; rfl
theorem row2_of {W : World} {base : Nat} {e : TypeId} {v : Value} {n : Nat} {cells : List Value} (h : W.ownsRow base e 2 v n cells) (hc : ∀ i, i < n → ∃ r fv, cells[2 * i]? = some (.bool r) ∧ cells[2 * i + 1]? = some fv ∧ fv.oneCell' = true) : Row2 W e v n (runOf cells) := by
  rcases h.2 with ⟨rfl, rfl⟩ | ⟨g, cap, cur, rfl, hb, hg, hcap, _, hsz, hcells⟩
  · exact ⟨none, 0, rfl, .inl rfl⟩
  · refine ⟨_, cap, rfl, .inr ⟨g, cur, rfl, hg, hcap, fun i hi => ?_⟩⟩
    obtain ⟨r, fv, h1, h2, h3⟩ := hc i hi
    rw [runOf_eq h1 h2]
    rw [← hcells] at h1 h2
    rw [List.getElem?_take_of_lt (by omega)] at h1 h2
    refine ⟨?_, ?_, h3⟩
    · rw [show i * 2 = 2 * i by omega, ← Array.getElem?_toList]; exact h1
    · rw [show i * 2 + 1 = 2 * i + 1 by omega, ← Array.getElem?_toList]; exact h2
theorem opt8_run (xs : List W8) (i : Nat) (x : W8) (h : xs[i]? = some x) : (xs.map opt8)[i]? = some (opt8 x) := by simp [h]
theorem eg63 : ∀ args w, (callFunc 280 args).run Tryz.prog w = .ok (.enter 280 args) w := enters_of Tryz.func280 (by kernel_rfl) rfl
theorem eg65 : ∀ args w, (callFunc 282 args).run Tryz.prog w = .ok (.enter 282 args) w := enters_of Tryz.func282 (by kernel_rfl) rfl
theorem eg67 : ∀ args w, (callFunc 287 args).run Tryz.prog w = .ok (.enter 287 args) w := enters_of Tryz.func287 (by kernel_rfl) rfl
theorem eg48 : ∀ args w, (callFunc 227 args).run Tryz.prog w = .ok (.enter 227 args) w := enters_of Tryz.func227 (by kernel_rfl) rfl
theorem below_drewN {B : Nat} (w : World) (m : Nat) : Below B w (w.drewN m) := ⟨rfl, rfl, rfl, Nat.le_refl _, fun _ _ => rfl⟩

theorem WantsP.row {W : World} {P : Nat → Prop} {v : Value} {xs : List W8} (h : WantsP W P v xs) : ∃ cs, Row2 W 270 v (xs.map opt8).length cs ∧ (∀ i, i < (xs.map opt8).length → runAt (xs.map opt8) i = (cs i).1) ∧ TakesIs (fun c : UInt8 => .int .u8 c.toNat) (xs.map opt8) cs W := by
  obtain ⟨base, cells, h1, _, h3⟩ := h
  have hx : ∀ i, i < (xs.map opt8).length → ∃ x, xs[i]? = some x := fun i hi => ⟨_, List.getElem?_eq_getElem (by simpa using hi)⟩
  refine ⟨runOf cells, row2_of (by simpa using h1) (fun i hi => ?_), fun i hi => ?_, fun i hi hr => ?_⟩
  · obtain ⟨x, hxi⟩ := hx i hi
    obtain ⟨r, fv, a, b, c⟩ := h3 i x hxi
    exact ⟨r, fv, a, b, by rcases c.form with rfl | ⟨f, ca, rfl⟩ <;> rfl⟩
  · obtain ⟨x, hxi⟩ := hx i hi
    obtain ⟨r, fv, a, b, c⟩ := h3 i x hxi
    rw [runOf_eq a b]
    unfold runAt
    rw [opt8_run xs i x hxi]
    rcases x with _ | _ | d | ⟨inner, others⟩
    · exact c.1.symm
    · exact c.1.symm
    · exact c.1.symm
    · exact c.1.symm
  · obtain ⟨x, hxi⟩ := hx i hi
    obtain ⟨r, fv, a, b, c⟩ := h3 i x hxi
    have ht : ∀ c, x ≠ .star → takeAt (xs.map opt8) i c = takesB x c := fun c hne => by
      unfold takeAt
      rw [opt8_run xs i x hxi]
      cases x <;> first | exact absurd rfl hne | rfl
    rw [runOf_eq a b]
    rcases x with _ | _ | d | ⟨inner, others⟩
    · unfold runAt at hr; rw [opt8_run xs i _ hxi] at hr; cases hr
    · refine ⟨_, _, c.2, eg63, fun ch W' hb => ?_⟩
      rw [ht ch (by simp)]
      exact (takes_any ch W').mono (by rintro e w' ⟨rfl, rfl⟩; exact ⟨rfl, Below.refl _ _⟩)
    · obtain ⟨_, bb, e1, _, e3, e4⟩ := c
      refine ⟨_, _, e1, eg65, fun ch W' hb => ?_⟩
      rw [ht ch (by simp)]
      exact (takes_byte ch d bb W' ((hb.cell (p := ⟨bb, 0, none⟩) e3).trans e4)).mono (by rintro e w' ⟨rfl, rfl⟩; exact ⟨rfl, Below.refl _ _⟩)
    · obtain ⟨_, bb, dd, e1, ⟨_, e3, e4⟩, _, e6, e7⟩ := c
      refine ⟨_, _, e1, eg67, fun ch W' hb => ?_⟩
      rw [ht ch (by simp)]
      exact (takes_cls ch inner others bb dd W' ((hb.cell (p := ⟨bb, 0, none⟩) e3).trans e4) ((hb.cell (p := ⟨dd, 0, none⟩) e6).trans e7)).mono (by rintro e w' ⟨rfl, m, rfl⟩; exact ⟨rfl, below_drewN _ _⟩)

theorem bytesOf_any (s : ByteArray) (w : World) : Calls Tryz.prog 229 #[.string s] w fun e w' => e = .returned (.func (.func 265) #[] #[.pointer (some ⟨w.heap.size, 0, none⟩)]) ∧ w' = w.alloc (.cells #[.string s] 9) :=
  (callsIn_wide (n := 1)).1 (bytesOf_in Fence.wide _ trivial rfl s w)

set_option maxRecDepth 100000 in
set_option maxHeartbeats 4000000 in
theorem nameTakes_any (s : Str) (xs : List W8) (b : Nat) (v : Value) (P : Nat → Prop) (w : World) (hc : w.cell? ⟨b, 0, none⟩ = some v) (hW : WantsP w P v xs) (hn : xs.length ≤ 1000) :
    Calls Tryz.prog 227 #[.string s.1, .pointer (some ⟨b, 0, none⟩)] w fun e W' => e = .returned (.bool (matchO (xs.map opt8) s.1.data.toList)) ∧ Below w.heap.size w W' := by
  obtain ⟨cs, h1, h2, h3⟩ := hW.row
  have hbl := below_lt hc
  have H1 := hid h1
  have H2 := hid h2
  have H3 := hid h3
  clear h1 h2 h3 hW
  go_enter Tryz.func227, Tryz.ntmps227
  go_wp2_with fail
  have hal : Below w.heap.size w (w.alloc (.cells #[.string s.1] 9)).drew := ((Below.refl _ w).alloc (Nat.le_refl _) _).drew
  have HA := hid hal
  have HN := hid (show (w.alloc (.cells #[.string s.1] 9)).drew.cell? ⟨w.heap.size, 0, none⟩ = some (.string s.1) ∧ w.heap.size < (w.alloc (.cells #[.string s.1] 9)).drew.heap.size from ⟨(cell_new_l w _ _).1, by show _ < (w.alloc _).heap.size; simp⟩)
  clear hal
  go_region_with (first | (go_at_call 229; refine (bytesOf_any _ _).mono ?_; rintro e w' ⟨rfl, rfl⟩) | (go_at_call 228; refine (takesAllB_any (xs.map opt8) _ cs s.1 w.heap.size _ (by simpa using hn) s.2 ((unhid H1).kept (fun b hb => (unhid HA).block b hb)) (unhid H2) ((unhid H3).below (unhid HA)) (unhid HN).2 (unhid HN).1).mono ?_; rintro e w2 ⟨rfl, hb⟩; have HB2 := hid ((unhid HA).trans (hb.mono (unhid HA).size)); clear hb))
  all_goals
    go_wp2_with fail
    go_ret
    exact ⟨rfl, unhid HB2⟩

def opt9 : W9 → Option (Str → Bool)
  | none => none
  | some xs => some fun s => matchO (xs.map opt8) s.1.data.toList
/-- Wants of names in a row whose blocks are of a kind. -/
def NamesP (W : World) (P : Nat → Prop) (v : Value) (xs : List W9) : Prop :=
  ∃ base cells, W.ownsRow base 197 2 v xs.length cells ∧ (∀ g, v.ownBlock = some g → P g) ∧ ∀ i x, xs[i]? = some x → ∃ run fv, cells[2 * i]? = some (.bool run) ∧ cells[2 * i + 1]? = some fv ∧ NameIs W P x run fv
theorem NamesP.kept {W W' : World} {P P' : Nat → Prop} {v : Value} {xs : List W9} (h : NamesP W P v xs) (hs : W.heap.size ≤ W'.heap.size) (hk : ∀ b, P b → b < W.heap.size → W'.heap[b]? = W.heap[b]?) (hP : ∀ b, P b → b < W.heap.size → P' b) : NamesP W' P' v xs := by
  obtain ⟨base, cells, h1, h2, h3⟩ := h
  refine ⟨base, cells, ownsRow_keptG h1 (fun g e => hk g (h2 g e) (h1.lt g e).2), fun g e => hP g (h2 g e) (h1.lt g e).2, fun i x hi => ?_⟩
  obtain ⟨run, fv, g1, g2, g3⟩ := h3 i x hi
  exact ⟨run, fv, g1, g2, g3.kept hs hk hP⟩
theorem NameIs.form {W : World} {P : Nat → Prop} {x : W9} {run : Bool} {fv : Value} (h : NameIs W P x run fv) : fv = .nilFunc ∨ ∃ f ca, fv = .func (.func f) #[] ca := by
  rcases x with _ | xs
  · exact .inl h.2
  · obtain ⟨_, b, v, h1, _⟩ := h; exact .inr ⟨_, _, h1⟩
def small9 : W9 → Prop
  | none => True
  | some xs => xs.length ≤ 1000
theorem NamesP.row {W : World} {P : Nat → Prop} {v : Value} {xs : List W9} (h : NamesP W P v xs) (hm : ∀ x ∈ xs, small9 x) : ∃ cs, Row2 W 197 v (xs.map opt9).length cs ∧ (∀ i, i < (xs.map opt9).length → runAt (xs.map opt9) i = (cs i).1) ∧ TakesIs (fun c : Str => .string c.1) (xs.map opt9) cs W := by
  obtain ⟨base, cells, h1, _, h3⟩ := h
  have hx : ∀ i, i < (xs.map opt9).length → ∃ x, xs[i]? = some x := fun i hi => ⟨_, List.getElem?_eq_getElem (by simpa using hi)⟩
  have ho : ∀ (i : Nat) (x : W9), xs[i]? = some x → (xs.map opt9)[i]? = some (opt9 x) := fun i x h => by simp [h]
  refine ⟨runOf cells, row2_of (by simpa using h1) (fun i hi => ?_), fun i hi => ?_, fun i hi hr => ?_⟩
  · obtain ⟨x, hxi⟩ := hx i hi
    obtain ⟨r, fv, a, b, c⟩ := h3 i x hxi
    exact ⟨r, fv, a, b, by rcases c.form with rfl | ⟨f, ca, rfl⟩ <;> rfl⟩
  · obtain ⟨x, hxi⟩ := hx i hi
    obtain ⟨r, fv, a, b, c⟩ := h3 i x hxi
    rw [runOf_eq a b]
    unfold runAt
    rw [ho i x hxi]
    rcases x with _ | ys
    · exact c.1.symm
    · exact c.1.symm
  · obtain ⟨x, hxi⟩ := hx i hi
    obtain ⟨r, fv, a, b, c⟩ := h3 i x hxi
    rw [runOf_eq a b]
    rcases x with _ | ys
    · unfold runAt at hr; rw [ho i _ hxi] at hr; cases hr
    · obtain ⟨_, bb, vv, e1, _, e3, e4, e5⟩ := c
      refine ⟨_, _, e1, eg48, fun ch W' hb => ?_⟩
      have ht : takeAt (xs.map opt9) i ch = matchO (ys.map opt8) ch.1.data.toList := by unfold takeAt; rw [ho i _ hxi]; rfl
      rw [ht]
      exact nameTakes_any ch ys bb vv P W' ((hb.cell (p := ⟨bb, 0, none⟩) e3).trans e4) (e5.kept hb.size (fun b _ hl => hb.block b hl) (fun _ h _ => h)) (hm _ (List.mem_of_getElem? hxi))

end Go.Proofs.YtoihhlkidlapmaaGreat

/- What the program reads a pattern as: its function value, and what that captured. -/
namespace Go.Proofs.YtoihhlkidlapmaaGreat
open Go.RowKit Go.Shelf

attribute [local go_sem] Oper.semAt_some

def CellsAt (W : World) (b : Nat) : Prop := ∃ o : Obj, W.heap[b]? = some o ∧ o.isCells = true
theorem cellsAt_of_cell {W : World} {b : Nat} {v : Value} (h : W.cell? ⟨b, 0, none⟩ = some v) : CellsAt W b := by
  unfold World.cell? at h
  cases hh : W.heap[b]? with
  | none => simp [hh] at h
  | some o =>
    refine ⟨o, hh, ?_⟩
    cases o <;> first | rfl | (simp [hh] at h)
theorem WantIs.cells {W : World} {P : Nat → Prop} {x : W8} {run : Bool} {fv : Value} (h : WantIs W P x run fv) : WantIs W (fun b => P b ∧ CellsAt W b) x run fv := by
  rcases x with _ | _ | c | ⟨inner, others⟩
  · exact h
  · exact h
  · obtain ⟨h0, b, h1, h2, h3, h4⟩ := h
    exact ⟨h0, b, h1, ⟨h2, cellsAt_of_cell h4⟩, h3, h4⟩
  · obtain ⟨h0, b, d, h1, ⟨h2, h3, h4⟩, h5, h6, h7⟩ := h
    exact ⟨h0, b, d, h1, ⟨⟨h2, cellsAt_of_cell h4⟩, h3, h4⟩, ⟨h5, cellsAt_of_cell h7⟩, h6, h7⟩
theorem WantsP.cells {W : World} {P : Nat → Prop} {v : Value} {xs : List W8} (h : WantsP W P v xs) : WantsP W (fun b => P b ∧ CellsAt W b) v xs := by
  obtain ⟨base, cells, h1, h2, h3⟩ := h
  refine ⟨base, cells, h1, fun g e => ⟨h2 g e, ?_⟩, fun i x hi => ?_⟩
  · rcases h1.2 with ⟨rfl, _⟩ | ⟨g', cap, cur, rfl, _, hg, _⟩
    · cases e
    · cases e; exact ⟨_, hg, rfl⟩
  · obtain ⟨run, fv, g1, g2, g3⟩ := h3 i x hi
    exact ⟨run, fv, g1, g2, g3.cells⟩
theorem NameIs.cells {W : World} {P : Nat → Prop} {x : W9} {run : Bool} {fv : Value} (h : NameIs W P x run fv) : NameIs W (fun b => P b ∧ CellsAt W b) x run fv := by
  rcases x with _ | xs
  · exact h
  · obtain ⟨h0, b, v, h1, h2, h3, h4, h5⟩ := h
    exact ⟨h0, b, v, h1, ⟨h2, cellsAt_of_cell h4⟩, h3, h4, h5.cells⟩
/-- Blocks of cells from N on, but for the row's own. -/
def PB (N : Nat) (v : Value) (W : World) (b : Nat) : Prop := (N ≤ b ∧ v.ownBlock ≠ some b) ∧ CellsAt W b
def NamesIn (W : World) (N : Nat) (v : Value) (cells : List Value) (xs : List W9) : Prop :=
  ∀ (i : Nat) (x : W9), xs[i]? = some x → ∃ run fv, cells[2 * i]? = some (.bool run) ∧ cells[2 * i + 1]? = some fv ∧ NameIs W (PB N v W) x run fv
theorem NamesIn.own {A B : World} {N : Nat} {v : Value} {cells : List Value} {xs : List W9} (h : NamesIn A N v cells xs) {r : Option Nat} (hg : A.grownBy B r) (hr : ∀ x, r = some x → ∃ o : Obj, A.heap[x]? = some o ∧ o.isCells = false) : NamesIn B N v cells xs := by
  intro i x hi
  obtain ⟨run, fv, a, b, c⟩ := h i x hi
  have same : ∀ k, CellsAt A k → k < A.heap.size → B.heap[k]? = A.heap[k]? := fun k hk hl => hg.block k hl (fun e => by
    obtain ⟨o, h1, h2⟩ := hk
    obtain ⟨o', h3, h4⟩ := hr k e.symm
    rw [h1] at h3; cases h3; rw [h2] at h4; cases h4)
  exact ⟨run, fv, a, b, c.kept hg.size (fun k hk hl => same k hk.2 hl) (fun k hk hl => ⟨hk.1, by obtain ⟨o, h1, h2⟩ := hk.2; exact ⟨o, (same k hk.2 hl).trans h1, h2⟩⟩)⟩
theorem NamesIn.below {A B : World} {N : Nat} {v : Value} {cells : List Value} {xs : List W9} (h : NamesIn A N v cells xs) (hb : Below A.heap.size A B) : NamesIn B N v cells xs := by
  intro i x hi
  obtain ⟨run, fv, a, b, c⟩ := h i x hi
  exact ⟨run, fv, a, b, c.kept hb.size (fun k _ hl => hb.block k hl) (fun k hk hl => ⟨hk.1, by obtain ⟨o, h1, h2⟩ := hk.2; exact ⟨o, (hb.block k hl).trans h1, h2⟩⟩)⟩
theorem NamesIn.set {A : World} {N : Nat} {v : Value} {cells : List Value} {xs : List W9} (h : NamesIn A N v cells xs) (a : Addr) (ha : a.block < N) (u : Value) : NamesIn (A.setCell a u) N v cells xs := by
  intro i x hi
  obtain ⟨run, fv, p, q, c⟩ := h i x hi
  have same : ∀ k, N ≤ k → (A.setCell a u).heap[k]? = A.heap[k]? := fun k hk => Below.heap_setCell A a u k (by omega)
  exact ⟨run, fv, p, q, c.kept (by simp) (fun k hk _ => same k hk.1.1) (fun k hk _ => ⟨hk.1, by obtain ⟨o, h1, h2⟩ := hk.2; exact ⟨o, (same k hk.1.1).trans h1, h2⟩⟩)⟩
theorem NamesIn.p {W : World} {N base : Nat} {v : Value} {cells : List Value} {xs : List W9} (h : NamesIn W N v cells xs) (hr : W.ownsRow base 197 2 v xs.length cells) (hb : base ≤ N) : NamesP W (fun b => base ≤ b) v xs := by
  refine ⟨base, cells, hr, fun g e => (hr.lt g e).1, fun i x hi => ?_⟩
  obtain ⟨run, fv, a, b, c⟩ := h i x hi
  exact ⟨run, fv, a, b, c.kept (Nat.le_refl _) (fun _ _ _ => rfl) (fun k hk _ => Nat.le_trans hb hk.1.1)⟩

end Go.Proofs.YtoihhlkidlapmaaGreat

/- Whether a name is one of a pattern's name, by the model: as the places tell it. -/
namespace Go.Proofs.YtoihhlkidlapmaaGreat
open Go.RowKit Go.Shelf




end Go.Proofs.YtoihhlkidlapmaaGreat

/- Whether names are those of a pattern's names, by the model. -/
namespace Go.Proofs.YtoihhlkidlapmaaGreat
open Go.RowKit Go.Shelf


/-- A row of texts that is read. -/
def StrsAt (W : World) (v : Value) (ps : List ByteArray) : Prop := ∃ b o cap, v = .slice (some ⟨b, o, none⟩) ps.length cap ∧ ps.length ≤ cap ∧ ∀ (i : Nat) x, ps[i]? = some x → W.cell? ⟨b, o + i, none⟩ = some (.string x)
theorem StrsAt.drew {W : World} {v : Value} {ps : List ByteArray} (h : StrsAt W v ps) (n : Nat) : StrsAt (W.drewN n) v ps := h

end Go.Proofs.YtoihhlkidlapmaaGreat

/- GlobHas, by the program and by its model. -/
namespace Go.Proofs.YtoihhlkidlapmaaGreat
open Go.RowKit Go.Shelf





end Go.Proofs.YtoihhlkidlapmaaGreat

/- Entries that are moved: no two come to one place. -/
namespace Go.Proofs.YtoihhlkidlapmaaGreat
open Go.RowKit Go.Shelf

end Go.Proofs.YtoihhlkidlapmaaGreat

/- A place of a tree moved, by the model. -/
namespace Go.Proofs.YtoihhlkidlapmaaGreat
open Go.RowKit Go.Shelf


end Go.Proofs.YtoihhlkidlapmaaGreat

/- What is moved in a tree: the model's answer. -/
namespace Go.Proofs.YtoihhlkidlapmaaGreat
open Go.RowKit Go.Shelf


end Go.Proofs.YtoihhlkidlapmaaGreat

/- What was moved is a tree, and moved back it is as it was. -/
namespace Go.Proofs.YtoihhlkidlapmaaGreat
open Go.RowKit Go.Shelf


end Go.Proofs.YtoihhlkidlapmaaGreat

/- A part of a tree: what a pattern takes, and the dirs that it is in. -/
namespace Go.Proofs.YtoihhlkidlapmaaGreat
open Go.RowKit Go.Shelf

end Go.Proofs.YtoihhlkidlapmaaGreat

/- What is put with all dirs that it is in. -/
namespace Go.Proofs.YtoihhlkidlapmaaGreat
open Go.RowKit Go.Shelf



end Go.Proofs.YtoihhlkidlapmaaGreat

/- A part of a tree, by the program. -/
namespace Go.Proofs.YtoihhlkidlapmaaGreat
open Go.RowKit Go.Shelf

attribute [local go_sem] Oper.semAt_some


end Go.Proofs.YtoihhlkidlapmaaGreat

/- A part of a tree, by the model. -/
namespace Go.Proofs.YtoihhlkidlapmaaGreat
open Go.RowKit Go.Shelf



end Go.Proofs.YtoihhlkidlapmaaGreat

/- A part of a tree has nothing but what the tree has. -/
namespace Go.Proofs.YtoihhlkidlapmaaGreat
end Go.Proofs.YtoihhlkidlapmaaGreat

/- A need is written: by the program and by its model. -/
namespace Go.Proofs.YtoihhlkidlapmaaGreat
open Go.RowKit




end Go.Proofs.YtoihhlkidlapmaaGreat

/- A need is read: by the program. -/
namespace Go.Proofs.YtoihhlkidlapmaaGreat
open Go.RowKit Go.Shelf





/-- A need lies at the head of a block of its own. -/
def NeedAt (W : World) (b : Nat) (n : ByteArray) (k : Int) (v : ByteArray) : Prop :=
  (W.cell? ⟨b, 0, none⟩ = some (.string n) ∧ W.frozen? ⟨b, 0, none⟩ = false) ∧ (W.cell? ⟨b, 1, none⟩ = some (.int .i64 k) ∧ W.frozen? ⟨b, 1, none⟩ = false) ∧ W.cell? ⟨b, 2, none⟩ = some (.string v) ∧ W.frozen? ⟨b, 2, none⟩ = false
theorem NeedAt.below {W W' : World} {b B : Nat} {n : ByteArray} {k : Int} {v : ByteArray} (h : NeedAt W b n k v) (hb : Below B W W') (hB : b < B) : NeedAt W' b n k v :=
  ⟨⟨(hb.cell (p := ⟨b, 0, none⟩) hB).trans h.1.1, (hb.frozen (p := ⟨b, 0, none⟩) hB).trans h.1.2⟩, ⟨(hb.cell (p := ⟨b, 1, none⟩) hB).trans h.2.1.1, (hb.frozen (p := ⟨b, 1, none⟩) hB).trans h.2.1.2⟩, (hb.cell (p := ⟨b, 2, none⟩) hB).trans h.2.2.1, (hb.frozen (p := ⟨b, 2, none⟩) hB).trans h.2.2.2⟩

end Go.Proofs.YtoihhlkidlapmaaGreat

/- What the draw of a need gives: short texts. -/
namespace Go.Proofs.YtoihhlkidlapmaaGreat
open Go.RowKit

theorem Rd.set {w : World} {b : Nat} {a : Option Addr} {len cap p : Nat} (h : Rd w b a len cap p) {q : Addr} (hq : b < q.block) (v : Value) : Rd (w.setCell q v) b a len cap p where
  c0 := (World.cell?_of_block (w := w) (Below.heap_setCell w q v b (by omega))).trans h.c0
  c1 := (World.cell?_of_block (w := w) (Below.heap_setCell w q v b (by omega))).trans h.c1
  f1 := (World.frozen?_of_block (w := w) (Below.heap_setCell w q v b (by omega))).trans h.f1
  l := h.l
  d := by
    rcases h.d with h0 | ⟨blk, off, ha, hb, hc⟩
    · exact .inl h0
    · refine .inr ⟨blk, off, ha, hb, fun k hk => ?_⟩
      obtain ⟨c, h1, h2⟩ := hc k hk
      exact ⟨c, h1, (World.cell?_of_block (w := w) (Below.heap_setCell w q v blk (by omega))).trans h2⟩
theorem NeedAt.far {W : World} {b : Nat} {n : ByteArray} {k : Int} {v : ByteArray} (h : NeedAt W b n k v) {q : Addr} (hq : b ≠ q.block) (x : Value) : NeedAt (W.setCell q x) b n k v := by
  have hb := Below.heap_setCell W q x b hq
  exact ⟨⟨(World.cell?_of_block (w := W) hb).trans h.1.1, (World.frozen?_of_block (w := W) hb).trans h.1.2⟩, ⟨(World.cell?_of_block (w := W) hb).trans h.2.1.1, (World.frozen?_of_block (w := W) hb).trans h.2.1.2⟩, (World.cell?_of_block (w := W) hb).trans h.2.2.1, (World.frozen?_of_block (w := W) hb).trans h.2.2.2⟩
theorem NeedAt.grown {W W' : World} {b c : Nat} {n : ByteArray} {k : Int} {v : ByteArray} (h : NeedAt W c n k v) (hg : W.grownBy W' (some b)) (hc : c < W.heap.size) (hne : c ≠ b) : NeedAt W' c n k v := by
  have hb : W'.heap[c]? = W.heap[c]? := hg.block c hc (fun e => hne (by cases e; rfl))
  exact ⟨⟨(World.cell?_of_block (w := W) hb).trans h.1.1, (World.frozen?_of_block (w := W) hb).trans h.1.2⟩, ⟨(World.cell?_of_block (w := W) hb).trans h.2.1.1, (World.frozen?_of_block (w := W) hb).trans h.2.1.2⟩, (World.cell?_of_block (w := W) hb).trans h.2.2.1, (World.frozen?_of_block (w := W) hb).trans h.2.2.2⟩





end Go.Proofs.YtoihhlkidlapmaaGreat

/- Packs that are drawn. -/
namespace Go.Proofs.YtoihhlkidlapmaaGreat
open Go.RowKit Go.Shelf

/-- The names that packs are drawn with. -/
def drawnB (l : List UInt8) : Bool := [[111, 110, 101], [116, 119, 111], [116, 104, 114, 101, 101], [122, 105, 112], [], [79, 110, 101]].contains l
def drawn (x : ByteArray) : Prop := drawnB x.data.toList = true
theorem drawn_short {x : ByteArray} (h : drawn x) : x.size ≤ 100 := by
  unfold drawn drawnB at h
  have : x.size = x.data.toList.length := by rw [Array.length_toList]; rfl
  rw [this]
  simp only [List.contains_eq_mem, List.mem_cons, List.not_mem_nil, or_false, decide_eq_true_eq] at h
  rcases h with h | h | h | h | h | h <;> rw [h] <;> decide
theorem nrow_own2 {K : CK} {ty : Nat} {W : World} {N : Nat} {v : Value} {L : List (It K)} (h : NRow K ty W N v L) : ∃ F, rowOwn K ty W v (itD L) F ∧ ∀ k ∈ F, v.ownBlock = some k ∨ k ∈ itF L := by
  rcases h.row.2 with ⟨rfl, h0⟩ | ⟨g, cap, cur, hv, hN, hg, hc, _, hsz, hcells⟩
  · have : L = [] := List.length_eq_zero_iff.1 h0
    subst this
    exact ⟨[], .inl ⟨rfl, rfl, none, 0, rfl, fun _ => rfl⟩, fun k hk => by cases hk⟩
  · have hF : (L.map (fun t => t.2.2)).flatten = itF L := by simp [itF, List.flatMap]
    have hap : g ∉ itF L := h.apart g (by rw [hv]; rfl)
    refine ⟨g :: itF L, .inr ⟨g, cap, cur, L.map (fun t => t.2.2), by rw [itD_len]; exact hv, by rw [itD_len]; exact hc, by rw [hF], List.nodup_cons.2 ⟨hap, h.items.nodup⟩, ⟨hg, by rw [itD_len, hsz]; exact Nat.mul_le_mul_right _ hc, by rw [itD_len, List.length_map], fun i d hi => ?_⟩⟩, fun k hk => ?_⟩
    · unfold itD at hi
      rw [List.getElem?_map] at hi
      cases ht : L[i]? with
      | none => rw [ht] at hi; cases hi
      | some t =>
        rw [ht] at hi
        simp at hi
        subst hi
        have hm : t ∈ L := List.mem_of_getElem? ht
        have hown := h.items.each t hm
        refine ⟨t.1, t.2.2, by rw [List.getElem?_map, ht]; rfl, fun j c hj => ?_, hown⟩
        have hjn : j < K.n := by rw [← K.len hown]; exact (List.getElem?_eq_some_iff.1 hj).1
        have h1 := itCells_get (fun t ht => K.len (h.items.each t ht)) i t ht j hjn
        rw [hj, ← hcells] at h1
        have hil : i < L.length := (List.getElem?_eq_some_iff.1 ht).1
        have : (i + 1) * K.n ≤ L.length * K.n := Nat.mul_le_mul_right _ hil
        rw [Nat.add_mul, Nat.one_mul] at this
        rw [List.getElem?_take_of_lt (by omega), Array.getElem?_toList] at h1
        exact h1
    · rcases List.mem_cons.1 hk with rfl | hk
      · exact .inl (by rw [hv]; rfl)
      · exact .inr hk
/-- Entries, as items that own no block. -/
def entIt (e : Ent) : It entryC := ([.string e.path, .int .i64 e.kind, .int .i64 e.mode, .string e.text], dEnt e, [])
def entIts (es : List Ent) : List (It entryC) := es.map entIt
theorem entIts_D (es : List Ent) : itD (entIts es) = dEnts es := by
  unfold itD entIts dEnts
  rw [List.map_map]; rfl
theorem entIts_F : ∀ es : List Ent, itF (entIts es) = []
  | [] => rfl
  | e :: es => by
    have := entIts_F es
    show [] ++ itF (entIts es) = []
    rw [this]; rfl
/-- What a pack that is drawn holds: two rows of their own, apart. -/
structure DK (W : World) (N : Nat) (nv : Value) (nL : List (It needC)) (tv : Value) (es : List Ent) : Prop where
  needs : NRow needC 36 W N nv nL
  tree : NRow entryC 57 W N tv (entIts es)
  leaf : itF nL = []
  apart : ∀ g, nv.ownBlock = some g → tv.ownBlock = some g → False
theorem DK.frame {W W' : World} {N : Nat} {nv tv : Value} {nL : List (It needC)} {es : List Ent} (h : DK W N nv nL tv es) (hk : ∀ k, N ≤ k → k < W.heap.size → W'.heap[k]? = W.heap[k]?) : DK W' N nv nL tv es :=
  ⟨h.needs.frame (fun k hm => hk k (h.needs.base k hm).1 (h.needs.base k hm).2), h.tree.frame (fun k hm => hk k (h.tree.base k hm).1 (h.tree.base k hm).2), h.leaf, h.apart⟩
theorem DK.own {W : World} {N : Nat} {nv tv : Value} {nL : List (It needC)} {es : List Ent} (h : DK W N nv nL tv es) (name ver : ByteArray) : ∃ F, packC.own W [.string name, .string ver, nv, tv] (⟨name, ver, itD nL, dEnts es⟩ : PackD) F ∧ ∀ k ∈ F, N ≤ k ∧ k < W.heap.size := by
  obtain ⟨F2, o2, f2⟩ := nrow_own2 h.needs
  obtain ⟨F3, o3, f3⟩ := nrow_own2 h.tree
  rw [entIts_D] at o3
  refine ⟨F2 ++ F3, packC_mk ⟨nv, tv, F2, F3, rfl, rfl, o2, o3, fun k h2 h3 => ?_⟩, fun k hk => ?_⟩
  · have a2 := f2 k h2
    have a3 := f3 k h3
    rw [h.leaf] at a2
    rw [entIts_F] at a3
    rcases a2 with a2 | a2
    · rcases a3 with a3 | a3
      · exact h.apart k a2 a3
      · cases a3
    · cases a2
  · rcases List.mem_append.1 hk with hk | hk
    · exact h.needs.base k (f2 k hk)
    · exact h.tree.base k (f3 k hk)
/-- What the draw of a pack gives. -/
structure DQ (w : World) (b : Nat) (a : Option Addr) (len cap q : Nat) (W : World) (ver : ByteArray) (nv : Value) (nL : List (It needC)) (tv : Value) (es : List Ent) : Prop where
  ver : short ver
  k : DK W (w.heap.size + 1) nv nL tv es
  nice : ∀ e ∈ es, niceE e
  few : es.length ≤ 17
  sn : ∀ n ∈ itD nL, (NeedD.name n).size ≤ 100 ∧ (NeedD.version n).size ≤ 100
  ln : nL.length ≤ 5
  rd : ∃ p', p' ≤ q ∧ Rd W b a len cap p'
  grown : w.grownBy W (some b)


end Go.Proofs.YtoihhlkidlapmaaGreat

/- Any packs that are drawn. -/
namespace Go.Proofs.YtoihhlkidlapmaaGreat
open Go.RowKit Go.Shelf

theorem DK.grown {W W' : World} {N b : Nat} {nv tv : Value} {nL : List (It needC)} {es : List Ent} (h : DK W N nv nL tv es) (hg : W.grownBy W' (some b)) (hb : b < N) : DK W' N nv nL tv es := h.frame (fun k h1 h2 => hg.block k h2 (by intro e; injection e; omega))

/-- A cell of the box of the pack is set. -/
theorem DK.set {W : World} {N g j : Nat} {u nv tv : Value} {nL : List (It needC)} {es : List Ent} (h : DK W N nv nL tv es) (hg : ∀ k, (nv.ownBlock = some k ∨ tv.ownBlock = some k) → k ≠ g) : DK (W.setCell ⟨g, j, none⟩ u) N nv nL tv es :=
  ⟨h.needs.frame (fun k hk => Below.heap_setCell _ _ _ _ (by rcases hk with hk | hk; exact hg k (.inl hk); rw [h.leaf] at hk; cases hk)), h.tree.frame (fun k hk => Below.heap_setCell _ _ _ _ (by rcases hk with hk | hk; exact hg k (.inr hk); rw [entIts_F] at hk; cases hk)), h.leaf, h.apart⟩

end Go.Proofs.YtoihhlkidlapmaaGreat

/- A region that draws its order, over a class of worlds that holds up to one operation (a store) and need not behind it; what hangs on no memory may come behind. -/
namespace Go.Proofs.YtoihhlkidlapmaaGreat
open Go.RowKit

end Go.Proofs.YtoihhlkidlapmaaGreat

/- Roots that are drawn. -/
namespace Go.Proofs.YtoihhlkidlapmaaGreat
open Go.RowKit Go.Shelf

/-- A pack that is drawn. -/
structure DPk (d : packC.D) : Prop where
  small : smallP d
  name : drawn (PackD.name d)
  nice : ∀ e ∈ treeOfP d, niceE e
theorem DQ.pack {w : World} {b : Nat} {a : Option Addr} {len cap q : Nat} {W : World} {name ver : ByteArray} {nv tv : Value} {nL : List (It needC)} {es : List Ent} (h : DQ w b a len cap q W ver nv nL tv es) (hn : drawn name) : DPk (⟨name, ver, itD nL, dEnts es⟩ : PackD) := by
  have hs := drawn_short hn
  have hv : ver.size ≤ 100 := h.ver
  have ht : treeOfP (⟨name, ver, itD nL, dEnts es⟩ : PackD) = es := entsD_back es
  refine ⟨⟨show name.size ≤ 1048576 by omega, show ver.size ≤ 1048576 by omega, ⟨show (itD nL).length ≤ 1048576 by rw [itD_len]; have := h.ln; omega, fun d hd => ?_⟩, ?_⟩, hn, by rw [ht]; exact h.nice⟩
  · have := h.sn d hd
    exact ⟨by omega, by omega⟩
  · show smallE (entsD (dEnts es))
    rw [entsD_back]
    exact ⟨by have := h.few; omega, fun e he => ⟨by have := nice_short (h.nice e he).1; omega, by have : e.text.size ≤ 100 := (h.nice e he).2; omega⟩⟩


end Go.Proofs.YtoihhlkidlapmaaGreat

/- Any roots that are drawn. -/
namespace Go.Proofs.YtoihhlkidlapmaaGreat
open Go.RowKit Go.Shelf


end Go.Proofs.YtoihhlkidlapmaaGreat

/- What the laws over trees draw. -/
namespace Go.Proofs.YtoihhlkidlapmaaGreat
open Go.RowKit

/-- Drawn entries, in a row of their own. -/
structure Drawn (w W : World) (v : Value) (es : List Ent) : Prop where
  v : TreeV W w.heap.size v es
  nice : ∀ e ∈ es, niceE e
  few : es.length ≤ 17
  below : Below w.heap.size w W
theorem Drawn.small {w W : World} {v : Value} {es : List Ent} (h : Drawn w W v es) : smallE es :=
  ⟨by have := h.few; omega, fun e he => ⟨by have := nice_short (h.nice e he).1; omega, by have : e.text.size ≤ 100 := (h.nice e he).2; omega⟩⟩
end Go.Proofs.YtoihhlkidlapmaaGreat

/- What the laws of roots draw. -/
namespace Go.Proofs.YtoihhlkidlapmaaGreat
open Go.RowKit Go.Shelf

/-- Packs that are drawn, in whatever row. -/
structure DR (W : World) (v : Value) (ps : List packC.D) : Prop where
  row : rowAt packC W v ps
  ok : ∀ d ∈ ps, DPk d
  few : ps.length ≤ 8
theorem DR.below {W W' : World} {v : Value} {ps : List packC.D} (h : DR W v ps) (hb : Below W.heap.size W W') : DR W' v ps := ⟨h.row.below hb, h.ok, h.few⟩
theorem DR.small {W : World} {v : Value} {ps : List packC.D} (h : DR W v ps) : smallPs ps := ⟨by have := h.few; omega, fun d hd => (h.ok d hd).small⟩
end Go.Proofs.YtoihhlkidlapmaaGreat

/- Whether two roots are the same, as the laws ask it: where they are. -/
namespace Go.Proofs.YtoihhlkidlapmaaGreat
open Go.RowKit Go.Shelf


end Go.Proofs.YtoihhlkidlapmaaGreat

/- The bytes that a law is handed, read. -/
namespace Go.Proofs.YtoihhlkidlapmaaGreat
open Go.ChangeShapes Go.WideShapes Go.ChangeAt Go.RowKit


end Go.Proofs.YtoihhlkidlapmaaGreat

/- Roots that the laws read: the contracts, and what keeps. -/
namespace Go.Proofs.YtoihhlkidlapmaaGreat
open Go.RowKit Go.Shelf

/-- A root that is read. -/
structure RR (W : World) (a : Option Addr) (c : Nat) (ps : List packC.D) : Prop where
  row : rowAt packC W (.slice a ps.length c) ps
  small : smallPs ps
  few : ps.length ≤ 100
theorem RR.below {W W' : World} {a : Option Addr} {c : Nat} {ps : List packC.D} (h : RR W a c ps) (hb : Below W.heap.size W W') : RR W' a c ps := ⟨h.row.below hb, h.small, h.few⟩
/-- A pack that is read. -/
structure PR (W : World) (cs : List Value) (p : packC.D) : Prop where
  at_ : packC.at_ W cs p
  small : smallP p
theorem PR.below {W W' : World} {cs : List Value} {p : packC.D} (h : PR W cs p) (hb : Below W.heap.size W W') : PR W' cs p := ⟨packC.below h.at_ hb, h.small⟩
theorem PR.cells {W : World} {cs : List Value} {p : packC.D} (h : PR W cs p) : ∃ na nc ta tc, cs = [.string (PackD.name p), .string (PackD.version p), .slice na (PackD.needs p).length nc, .slice ta (PackD.tree p).length tc] := by
  obtain ⟨v2, v3, rfl, p2, p3⟩ := packC_at h.at_
  obtain ⟨na, nc, rfl, -⟩ := rowAt.slice p2
  obtain ⟨ta, tc, rfl, -⟩ := rowAt.slice p3
  exact ⟨_, _, _, _, rfl⟩
/-- What stays while nothing that was there is written. -/
def StaysW (Φ : World → Prop) : Prop := ∀ W W' : World, Below W.heap.size W W' → Φ W → Φ W'
structure KW (Φ : World → Prop) (W : World) : Prop where
  keeps : StaysW Φ
  now : Φ W
theorem KW.step {Φ : World → Prop} {W W' : World} (h : KW Φ W) (hb : Below W.heap.size W W') : KW Φ W' := ⟨h.keeps, h.keeps W W' hb h.now⟩
theorem KW.add {Φ Ψ : World → Prop} {W : World} (h : KW Φ W) (hk : StaysW Ψ) (hn : Ψ W) : KW (fun W => Φ W ∧ Ψ W) W := ⟨fun W W' hb hp => ⟨h.keeps W W' hb hp.1, hk W W' hb hp.2⟩, h.now, hn⟩
theorem KW.row {Φ : World → Prop} {W : World} (h : KW Φ W) {a : Option Addr} {c : Nat} {ps : List packC.D} (hr : RR W a c ps) : KW (fun W => Φ W ∧ RR W a c ps) W := h.add (fun _ _ hb hp => hp.below hb) hr
theorem KW.pack {Φ : World → Prop} {W : World} (h : KW Φ W) {cs : List Value} {p : packC.D} (hr : PR W cs p) : KW (fun W => Φ W ∧ PR W cs p) W := h.add (fun _ _ hb hp => hp.below hb) hr
theorem KW.box {Φ : World → Prop} {W : World} (h : KW Φ W) {g : Nat} {o : Obj} (hr : W.heap[g]? = some o) : KW (fun W => Φ W ∧ W.heap[g]? = some o) W := h.add (fun _ _ hb hp => (hb.block _ (Array.getElem?_eq_some_iff.1 hp).1).trans hp) hr
end Go.Proofs.YtoihhlkidlapmaaGreat

/- Roots that the laws read: more contracts. -/
namespace Go.Proofs.YtoihhlkidlapmaaGreat
open Go.RowKit Go.Shelf

/-- Entries that are read. -/
structure ER (W : World) (a : Option Addr) (es : List Ent) : Prop where
  ents : EntsAt W a es
  small : smallE es
theorem ER.below {W W' : World} {a : Option Addr} {es : List Ent} (h : ER W a es) (hb : Below W.heap.size W W') : ER W' a es := ⟨h.ents.below hb, h.small⟩
theorem KW.ents {Φ : World → Prop} {W : World} (h : KW Φ W) {a : Option Addr} {es : List Ent} (hr : ER W a es) : KW (fun W => Φ W ∧ ER W a es) W := h.add (fun _ _ hb hp => hp.below hb) hr
theorem KW.mark {Φ : World → Prop} {W : World} (h : KW Φ W) : KW (fun W' => Φ W' ∧ Below W.heap.size W W') W := h.add (fun _ _ hb hp => hp.trans (hb.mono hp.size)) (Below.refl _ W)
/-- The tree of a pack that is read. -/
theorem PR.tree {W : World} {p : packC.D} {n0 t0 : Option Addr} {n1 t1 : Nat} (h : PR W [.string (PackD.name p), .string (PackD.version p), .slice n0 (PackD.needs p).length n1, .slice t0 (PackD.tree p).length t1] p) : EntsAt W t0 (treeOfP p) ∧ (treeOfP p).length = (PackD.tree p).length := by
  obtain ⟨h1, h2, _⟩ := tree_in h.at_
  exact ⟨h1, h2⟩
end Go.Proofs.YtoihhlkidlapmaaGreat

/- A pack under another name, with the tree of one that is there. -/
namespace Go.Proofs.YtoihhlkidlapmaaGreat
open Go.RowKit Go.Shelf

def freshP (p : packC.D) : packC.D := (⟨⟨#[102, 114, 101, 115, 104]⟩, ⟨#[49]⟩, [], PackD.tree p⟩ : PackD)
theorem fresh_small {p : packC.D} (h : smallP p) : smallP (freshP p) := ⟨by show 5 ≤ 1048576; omega, by show 1 ≤ 1048576; omega, ⟨by show 0 ≤ 1048576; omega, fun d hd => by cases hd⟩, h.tree⟩
theorem fresh_at {W : World} {cs : List Value} {p : packC.D} (h : packC.at_ W cs p) {n2 v : Value} (hc : cs = [.string (PackD.name p), .string (PackD.version p), n2, v]) : packC.at_ W [.string ⟨#[102, 114, 101, 115, 104]⟩, .string ⟨#[49]⟩, .slice none 0 0, v] (freshP p) := by
  obtain ⟨v2, v3, e, p2, p3⟩ := packC_at h
  rw [e] at hc
  simp only [List.cons.injEq, and_true, true_and] at hc
  obtain ⟨-, rfl⟩ := hc
  exact ⟨[_], _, rfl, rfl, ⟨[_], _, rfl, rfl, ⟨[_], _, rfl, ⟨_, rfl, ⟨none, 0, rfl, fun _ => rfl, Nat.le_refl _, .inl rfl⟩⟩, ⟨_, rfl, p3⟩⟩⟩⟩
end Go.Proofs.YtoihhlkidlapmaaGreat

/- Roots that the laws read: packs under other names. -/
namespace Go.Proofs.YtoihhlkidlapmaaGreat
open Go.RowKit Go.Shelf

/-- A pack in a row. -/
structure PA (W : World) (b o : Nat) (p : packC.D) (na : Option Addr) (nc : Nat) (ta : Option Addr) (tc : Nat) : Prop where
  lt : b < W.heap.size
  c0 : W.cell? ⟨b, o, none⟩ = some (.string (PackD.name p))
  c1 : W.cell? ⟨b, o + 1, none⟩ = some (.string (PackD.version p))
  c2 : W.cell? ⟨b, o + 2, none⟩ = some (.slice na (PackD.needs p).length nc)
  c3 : W.cell? ⟨b, o + 3, none⟩ = some (.slice ta (PackD.tree p).length tc)
  pr : PR W [.string (PackD.name p), .string (PackD.version p), .slice na (PackD.needs p).length nc, .slice ta (PackD.tree p).length tc] p
theorem PA.below {W W' : World} {b o : Nat} {p : packC.D} {na : Option Addr} {nc : Nat} {ta : Option Addr} {tc : Nat} (h : PA W b o p na nc ta tc) (hb : Below W.heap.size W W') : PA W' b o p na nc ta tc :=
  ⟨Nat.lt_of_lt_of_le h.lt hb.size, (hb.cell (p := ⟨b, o, none⟩) h.lt).trans h.c0, (hb.cell (p := ⟨b, o + 1, none⟩) h.lt).trans h.c1, (hb.cell (p := ⟨b, o + 2, none⟩) h.lt).trans h.c2, (hb.cell (p := ⟨b, o + 3, none⟩) h.lt).trans h.c3, h.pr.below hb⟩
theorem RR.get {W : World} {a : Option Addr} {c k : Nat} {ps : List packC.D} {p : packC.D} (h : RR W a c ps) (hk : ps[k]? = some p) : ∃ b o na nc ta tc, a = some ⟨b, o, none⟩ ∧ PA W b (o + k * 4) p na nc ta tc := by
  obtain ⟨a', c', e, -, -, h2⟩ := h.row
  cases e
  rcases h2 with h2 | ⟨b, o, rfl, hb, hc⟩
  · rw [h2] at hk; cases hk
  · obtain ⟨na, nc, ta, tc, ⟨c0, c1, c2, c3⟩, hat⟩ := pack_cells (Below.refl W.heap.size W) hb hc hk
    exact ⟨b, o, na, nc, ta, tc, rfl, hb, c0, c1, c2, c3, hat, h.small.2 p (List.mem_of_getElem? hk)⟩
theorem KW.pa {Φ : World → Prop} {W : World} (h : KW Φ W) {b o : Nat} {p : packC.D} {na : Option Addr} {nc : Nat} {ta : Option Addr} {tc : Nat} (hr : PA W b o p na nc ta tc) : KW (fun W => Φ W ∧ PA W b o p na nc ta tc) W := h.add (fun _ _ hb hp => hp.below hb) hr
theorem KW.cut {Φ Ψ : World → Prop} {W : World} (h : KW (fun W => Φ W ∧ Ψ W) W) (hk : StaysW Φ) : KW Φ W := ⟨hk, h.now.1⟩
theorem PR.fresh {W : World} {p : packC.D} {na : Option Addr} {nc : Nat} {ta : Option Addr} {tc : Nat} (h : PR W [.string (PackD.name p), .string (PackD.version p), .slice na (PackD.needs p).length nc, .slice ta (PackD.tree p).length tc] p) : PR W [.string ⟨#[102, 114, 101, 115, 104]⟩, .string ⟨#[49]⟩, .slice none 0 0, .slice ta (PackD.tree p).length tc] (freshP p) := ⟨fresh_at h.at_ rfl, fresh_small h.small⟩
end Go.Proofs.YtoihhlkidlapmaaGreat

/- Whose a path of a root's tree is. -/
namespace Go.Proofs.YtoihhlkidlapmaaGreat
open Go.RowKit Go.Shelf

end Go.Proofs.YtoihhlkidlapmaaGreat

/- Roots that the laws read: their trees. -/
namespace Go.Proofs.YtoihhlkidlapmaaGreat
open Go.RowKit Go.Shelf

end Go.Proofs.YtoihhlkidlapmaaGreat

/- The memory of a walk that makes a closure: its struct, its marks, its map, those that wait, and the names. -/
namespace Go.Proofs.YtoihhlkidlapmaaGreat
open Go.RowKit Go.Shelf Go.Maps

theorem ownsRow_keep {W W' : World} {N e n size : Nat} {v : Value} {xs : List Value} (h : W.ownsRow N e size v n xs) (hk : ∀ j, v.ownBlock = some j → W'.heap[j]? = W.heap[j]?) : W'.ownsRow N e size v n xs := by
  refine ⟨h.1, ?_⟩
  rcases h.2 with h0 | ⟨g, cap, cur, hv, hg, hh, h2⟩
  · exact .inl h0
  · exact .inr ⟨g, cap, cur, hv, hg, (hk g (by rw [hv]; rfl)).trans hh, h2⟩
theorem ownsRow_sl {W : World} {N e n size : Nat} {v : Value} {xs : List Value} (h : W.ownsRow N e size v n xs) : ∃ a c, v = .slice a n c := by
  rcases h.2 with ⟨rfl, rfl⟩ | ⟨g, cap, cur, hv, _⟩
  · exact ⟨none, 0, rfl⟩
  · exact ⟨_, cap, hv⟩
theorem PlaceMap.keep {W W' : World} {mb n : Nat} {names : List ByteArray} {D : DataW Unit} (h : PlaceMap W mb n names D) (hk : W'.heap[mb]? = W.heap[mb]?) : PlaceMap W' mb n names D := by
  refine ⟨?_, h.has, h.at_⟩
  obtain ⟨es, clock, h1, h2⟩ := h.own
  exact ⟨es, clock, hk.trans h1, h2⟩
theorem PlaceMap.lt {W : World} {mb n : Nat} {names : List ByteArray} {D : DataW Unit} (h : PlaceMap W mb n names D) : mb < W.heap.size := h.own.lt
/-- A number more, and where the row lies then. -/
theorem infoInt3 : (Tryz.prog.info? 3).map (fun i => (i.zero, i.size, i.bytes)) = some (some (.int .i64 0), 1, 8) := by kernel_rfl
theorem int_oneN (x : Int) : ∀ u ∈ [Value.int .i64 x], u.oneCell' = true := fun u hu => by rw [List.mem_singleton.1 hu]; rfl
/-- A name more, and where the row lies then. -/
theorem app_nameL (w : World) (base ty : Nat) (v : Value) (xs : List ByteArray) (x : ByteArray) (g : Nat) (hown : w.ownsRow base 9 1 v xs.length (xs.map Value.string)) (h : w.cell? ⟨g, 0, none⟩ = some (.string x)) (hn : xs.length ≤ 4294967296) (hb : base ≤ w.heap.size) :
    ∃ v' w', (Builtin.append_ #[24, 24] ty #[v, .slice (some ⟨g, 0, none⟩) 1 1]).run Tryz.prog w = .ok v' w' ∧ w'.ownsRow base 9 1 v' (xs ++ [x]).length ((xs ++ [x]).map Value.string) ∧ w.grownBy w' v.ownBlock ∧ (v'.ownBlock = v.ownBlock ∨ v'.ownBlock = some w.heap.size) := by
  obtain ⟨i0, hi, hz0, hz1, hz2⟩ := info_parts infoStr
  obtain ⟨v', w', hr, h2, h3, _, h5⟩ := run_append_own_at (P := Tryz.prog) w base 24 ty 9 i0 (.string ⟨#[]⟩) 1 16 Tryz.underlying24 hi hz0 hz1 hz2 rfl (by decide) v xs.length _ hown ⟨g, 0, none⟩ 1 1 [.string x] (by simp) (by
    intro j u hj
    have : j = 0 := by
      have := (List.getElem?_eq_some_iff.1 hj).1
      simpa using this
    subst this
    simp at hj
    subst hj
    exact h) (str_oneN x) (by unfold maxLen; omega) (by omega) hb
  refine ⟨v', w', hr, ?_, h3, h5⟩
  rw [List.map_append, List.length_append]
  exact h2

theorem name_op {ops : Array Oper} {Q : Exit → Act → World → Prop} {K : Act → World → Prop} {a : Act} {w : World} {o : Oper} {s y : Operand} (d : Nat) (base : Nat) (v : Value) (xs : List ByteArray) (x : ByteArray) (g : Nat)
    (hop : o.op = .call { callee := .builtin .append, args := #[s, y], argTypes := #[24, 24] }) (hw : Region.wanted o (yielded ops a.tmps) = true) (hd : o.dst = some d) (hs : a.eval s = v) (hx : a.eval y = .slice (some ⟨g, 0, none⟩) 1 1)
    (hown : w.ownsRow base 9 1 v xs.length (xs.map Value.string)) (h : w.cell? ⟨g, 0, none⟩ = some (.string x)) (hn : xs.length ≤ 4294967296) (hb : base ≤ w.heap.size)
    (hk : ∀ v' w', w'.ownsRow base 9 1 v' (xs ++ [x]).length ((xs ++ [x]).map Value.string) → w.grownBy w' v.ownBlock → (v'.ownBlock = v.ownBlock ∨ v'.ownBlock = some w.heap.size) → K (a.put (some d) v') w') : if Region.wanted o (yielded ops a.tmps) = true then Oper.wp Tryz.prog o a w K Q else K (a.put o.dst undef) w := by
  rw [if_pos hw]
  obtain ⟨v', w', hr, h2, h3, h5⟩ := app_nameL w base o.type v xs x g hown h hn hb
  unfold Oper.wp execOp
  simp only [hop, resolve, invoke, builtin, Sem.run_bind, Sem.run_pure, Result.andThen_ok, List.map_toArray, List.map_cons, List.map_nil, hs, hx, hr]
  show K (a.put o.dst v') w'
  rw [hd]
  exact hk v' w' h2 h3 h5

/-- Those that wait, the last one first; how many of its needs each has asked for; the names. -/
structure WS where
  wt : List Nat
  ask : Nat → Nat
  out : List ByteArray
def intsV (l : List Nat) : List Value := l.map fun i : Nat => Value.int .i64 (i : Int)
structure WK (W : World) (N g : Nat) (pv : Value) (ps : List packC.D) (st : Nat → Int) (S : WS) (mb kb : Nat) (D : DataW Unit) (wv nv : Value) : Prop where
  box : W.heap[g]? = some (.cells #[pv, .map (some mb), .slice (some ⟨kb, 0, none⟩) ps.length ps.length, wv, nv] 90 (0, 0))
  marks : ∃ cur : Array Value, W.heap[kb]? = some (.cells cur 217 (0, 0)) ∧ cur.size = ps.length * 2 ∧ ∀ i, i < ps.length → cur[i * 2]? = some (.int .i64 (st i)) ∧ cur[i * 2 + 1]? = some (.int .i64 (S.ask i : Int))
  map : PlaceMap W mb ps.length (namesP ps) D
  waits : W.ownsRow N 3 1 wv S.wt.length (intsV S.wt.reverse)
  names : W.ownsRow N 9 1 nv S.out.length (S.out.map Value.string)
  lo : N ≤ g ∧ N ≤ mb ∧ N ≤ kb
  ap : mb ≠ g ∧ kb ≠ g ∧ kb ≠ mb
  wap : wv.ownBlock ≠ some g ∧ wv.ownBlock ≠ some mb ∧ wv.ownBlock ≠ some kb
  nap : nv.ownBlock ≠ some g ∧ nv.ownBlock ≠ some mb ∧ nv.ownBlock ≠ some kb
  wn : ∀ j, wv.ownBlock = some j → nv.ownBlock ≠ some j
theorem WK.glt {W : World} {N g : Nat} {pv : Value} {ps : List packC.D} {st : Nat → Int} {S : WS} {mb kb : Nat} {D : DataW Unit} {wv nv : Value} (h : WK W N g pv ps st S mb kb D wv nv) : g < W.heap.size ∧ mb < W.heap.size ∧ kb < W.heap.size := by
  obtain ⟨cur, h1, _⟩ := h.marks
  exact ⟨(Array.getElem?_eq_some_iff.1 h.box).1, h.map.lt, (Array.getElem?_eq_some_iff.1 h1).1⟩
theorem WK.keep {W W' : World} {N g : Nat} {pv : Value} {ps : List packC.D} {st : Nat → Int} {S : WS} {mb kb : Nat} {D : DataW Unit} {wv nv : Value} (h : WK W N g pv ps st S mb kb D wv nv) (hk : ∀ j, N ≤ j → j < W.heap.size → W'.heap[j]? = W.heap[j]?) : WK W' N g pv ps st S mb kb D wv nv := by
  obtain ⟨l1, l2, l3⟩ := h.glt
  obtain ⟨cur, h1, h2⟩ := h.marks
  exact ⟨(hk g h.lo.1 l1).trans h.box, ⟨cur, (hk kb h.lo.2.2 l3).trans h1, h2⟩, h.map.keep (hk mb h.lo.2.1 l2), ownsRow_keep h.waits (fun j e => hk j (h.waits.lt j e).1 (h.waits.lt j e).2), ownsRow_keep h.names (fun j e => hk j (h.names.lt j e).1 (h.names.lt j e).2), h.lo, h.ap, h.wap, h.nap, h.wn⟩
theorem WK.below {W W' : World} {N g : Nat} {pv : Value} {ps : List packC.D} {st : Nat → Int} {S : WS} {mb kb : Nat} {D : DataW Unit} {wv nv : Value} (h : WK W N g pv ps st S mb kb D wv nv) (hb : Below W.heap.size W W') : WK W' N g pv ps st S mb kb D wv nv := h.keep (fun j _ hj => hb.block j hj)
/-- One of the marks is set. -/
theorem WK.mark {W W' : World} {N g : Nat} {pv : Value} {ps : List packC.D} {st st' : Nat → Int} {S S' : WS} {mb kb : Nat} {D : DataW Unit} {wv nv : Value} (h : WK W N g pv ps st S mb kb D wv nv) (i o : Nat) (x : Int) (_ho : i * 2 + o < ps.length * 2) (hW : W' = W.setCell ⟨kb, i * 2 + o, none⟩ (.int .i64 x))
    (e1 : S'.wt = S.wt) (e2 : S'.out = S.out) (hc : ∀ j, j < ps.length → (.int .i64 (st' j) = if i * 2 + o = j * 2 then Value.int .i64 x else .int .i64 (st j)) ∧ (.int .i64 (S'.ask j : Int) = if i * 2 + o = j * 2 + 1 then Value.int .i64 x else .int .i64 (S.ask j : Int))) : WK W' N g pv ps st' S' mb kb D wv nv := by
  subst hW
  obtain ⟨cur, h1, h2, h3⟩ := h.marks
  have hne : ∀ j, j ≠ kb → (W.setCell ⟨kb, i * 2 + o, none⟩ (.int .i64 x)).heap[j]? = W.heap[j]? := fun j hj => Below.heap_setCell _ _ _ _ hj
  refine ⟨(hne g (Ne.symm h.ap.2.1)).trans h.box, ⟨cur.setIfInBounds (i * 2 + o) (.int .i64 x), heap_setCell_same W kb (i * 2 + o) cur _ _ h1, by rw [Array.size_setIfInBounds]; exact h2, fun j hj => ?_⟩, h.map.keep (hne mb (Ne.symm h.ap.2.2)), by rw [e1]; exact ownsRow_keep h.waits (fun j e => hne j (fun ej => h.wap.2.2 (by rw [e, ej]))), by rw [e2]; exact ownsRow_keep h.names (fun j e => hne j (fun ej => h.nap.2.2 (by rw [e, ej]))), h.lo, h.ap, h.wap, h.nap, h.wn⟩
  obtain ⟨c1, c2⟩ := hc j hj
  obtain ⟨d1, d2⟩ := h3 j hj
  rw [Array.getElem?_setIfInBounds, Array.getElem?_setIfInBounds]
  constructor
  · rw [c1]
    split
    · rw [if_pos (by omega)]
    · exact d1
  · rw [c2]
    split
    · rw [if_pos (by omega)]
    · exact d2
/-- Those that wait, or the names, are others: the struct is told. -/
theorem WK.field {W W' : World} {N g : Nat} {pv : Value} {ps : List packC.D} {st : Nat → Int} {S S' : WS} {mb kb : Nat} {D : DataW Unit} {wv nv wv' nv' : Value} (h : WK W N g pv ps st S mb kb D wv nv) (hbox : W'.heap[g]? = some (.cells #[pv, .map (some mb), .slice (some ⟨kb, 0, none⟩) ps.length ps.length, wv', nv'] 90 (0, 0)))
    (hk : ∀ j, j = mb ∨ j = kb → W'.heap[j]? = W.heap[j]?) (e : S'.ask = S.ask) (hw : W'.ownsRow N 3 1 wv' S'.wt.length (intsV S'.wt.reverse)) (hn : W'.ownsRow N 9 1 nv' S'.out.length (S'.out.map Value.string))
    (hwap : wv'.ownBlock ≠ some g ∧ wv'.ownBlock ≠ some mb ∧ wv'.ownBlock ≠ some kb) (hnap : nv'.ownBlock ≠ some g ∧ nv'.ownBlock ≠ some mb ∧ nv'.ownBlock ≠ some kb) (hwn : ∀ j, wv'.ownBlock = some j → nv'.ownBlock ≠ some j) : WK W' N g pv ps st S' mb kb D wv' nv' := by
  obtain ⟨cur, h1, h2, h3⟩ := h.marks
  exact ⟨hbox, ⟨cur, (hk kb (.inr rfl)).trans h1, h2, fun i hi => by rw [e]; exact h3 i hi⟩, h.map.keep (hk mb (.inl rfl)), hw, hn, h.lo, h.ap, hwap, hnap, hwn⟩
theorem WK.cells {W : World} {N g : Nat} {pv : Value} {ps : List packC.D} {st : Nat → Int} {S : WS} {mb kb : Nat} {D : DataW Unit} {wv nv : Value} (h : WK W N g pv ps st S mb kb D wv nv) : (W.cell? ⟨g, 0, none⟩ = some pv ∧ W.cell? ⟨g, 1, none⟩ = some (.map (some mb)) ∧ W.cell? ⟨g, 2, none⟩ = some (.slice (some ⟨kb, 0, none⟩) ps.length ps.length) ∧ W.cell? ⟨g, 3, none⟩ = some wv ∧ W.cell? ⟨g, 4, none⟩ = some nv) ∧ W.frozen? ⟨g, 3, none⟩ = false ∧ W.frozen? ⟨g, 4, none⟩ = false :=
  ⟨⟨cell_arrS h.box 0 _ rfl, cell_arrS h.box 1 _ rfl, cell_arrS h.box 2 _ rfl, cell_arrS h.box 3 _ rfl, cell_arrS h.box 4 _ rfl⟩, (cell_fz h.box 3 _ rfl).2, (cell_fz h.box 4 _ rfl).2⟩
/-- The last of those that wait. -/
theorem WK.last {W : World} {N g : Nat} {pv : Value} {ps : List packC.D} {st : Nat → Int} {S : WS} {mb kb : Nat} {D : DataW Unit} {wv nv : Value} (h : WK W N g pv ps st S mb kb D wv nv) {i : Nat} {rest : List Nat} (e : S.wt = i :: rest) : ∃ wb wc, wv = .slice (some ⟨wb, 0, none⟩) (rest.length + 1) wc ∧ W.cell? ⟨wb, rest.length, none⟩ = some (.int .i64 (i : Int)) ∧ wb < W.heap.size ∧ rest.length + 1 ≤ wc ∧ W.ownsRow N 3 1 (.slice (some ⟨wb, 0, none⟩) rest.length wc) rest.length (intsV rest.reverse) := by
  have hw := h.waits
  rw [e] at hw
  rcases hw.2 with ⟨_, h0⟩ | ⟨wb, wc, cur, hv, hN, hh, h1, h2, h3, h4⟩
  · cases h0
  · have hi : (i :: rest).length = rest.length + 1 := rfl
    rw [hi] at hv h1 h4
    rw [Nat.mul_one] at h4
    have hl : (intsV (i :: rest).reverse) = intsV rest.reverse ++ [.int .i64 (i : Int)] := by unfold intsV; rw [List.reverse_cons, List.map_append]; rfl
    rw [hl] at h4
    have hil : (intsV rest.reverse).length = rest.length := by unfold intsV; rw [List.length_map, List.length_reverse]
    refine ⟨wb, wc, hv, ?_, (Array.getElem?_eq_some_iff.1 hh).1, h1, by rw [hil, Nat.mul_one], .inr ⟨wb, wc, cur, rfl, hN, hh, by omega, h2, h3, ?_⟩⟩
    · refine cell_arrS hh _ _ ?_
      have h5 : (cur.toList.take (rest.length + 1))[rest.length]? = some (.int .i64 (i : Int)) := by rw [h4, List.getElem?_append_right (by omega), hil, Nat.sub_self]; rfl
      rw [List.getElem?_take_of_lt (by omega), Array.getElem?_toList] at h5
      exact h5
    · rw [Nat.mul_one]
      have h6 := congrArg (List.take rest.length) h4
      rw [List.take_take, Nat.min_eq_left (Nat.le_succ _), List.take_left' hil] at h6
      exact h6
end Go.Proofs.YtoihhlkidlapmaaGreat
