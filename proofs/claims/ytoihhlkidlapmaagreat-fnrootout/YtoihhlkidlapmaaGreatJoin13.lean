/- Texts of this proof, one behind the other; each says at its head what it shows. -/
import Derived.Test.YtoihhlkidlapmaaGreatJoin12
import Derived.Deep.QuietTactic
import Derived.BigQuiet
import Derived.Maps.OwnIn
import Derived.Deep.OwnRows
import Derived.Test.YtoihhlkidlapmaaGreatJoin3
import Derived.Test.YtoihhlkidlapmaaGreatJoin2
import Derived.RangeFuncFrom
import Derived.RangeFuncBox
import Derived.Deep.RegionWith
namespace Go.Proofs.YtoihhlkidlapmaaGreat
open Go.RowKit Go.Shelf
def takesB : W8 → UInt8 → Bool
  | none, _ => false
  | some none, _ => true
  | some (some (.inl d)), c => c == d
  | some (some (.inr (inner, others))), c => inner.data.toList.contains c != others
set_option maxRecDepth 100000 in
set_option maxHeartbeats 1000000 in
theorem takes_any (c : UInt8) (w : World) : Calls Tryz.prog 280 #[.int .u8 c.toNat] w fun e w' => e = .returned (.bool (takesB .any c)) ∧ w' = w := by
  go_enter Tryz.func280, Tryz.ntmps280
  go_wp2
  go_ret
  exact ⟨rfl, rfl⟩
set_option maxRecDepth 100000 in
set_option maxHeartbeats 1000000 in
theorem takes_byte (c d : UInt8) (b : Nat) (w : World) (hc : w.cell? ⟨b, 0, none⟩ = some (.int .u8 d.toNat)) : Calls Tryz.prog 282 #[.int .u8 c.toNat, .pointer (some ⟨b, 0, none⟩)] w fun e w' => e = .returned (.bool (takesB (.byte d) c)) ∧ w' = w := by
  have E := hid (show takesB (.byte d) c = ((c.toNat : Int) == (d.toNat : Int)) by
    show (c == d) = _
    rw [Bool.eq_iff_iff]
    simp only [beq_iff_eq]
    exact ⟨fun h => by rw [h], fun h => UInt8.toNat_inj.1 (by omega)⟩)
  go_enter Tryz.func282, Tryz.ntmps282
  go_wp2
  go_ret
  exact ⟨by rw [unhid E]; rfl, rfl⟩
theorem index_has (l : List UInt8) (c : UInt8) : decide (0 ≤ Lib.indexByte l c) = l.contains c := by
  induction l with
  | nil => simp [Lib.indexByte]
  | cons d l ih =>
    have hg := Lib.indexByte_ge l c
    unfold Lib.indexByte
    by_cases h : (d == c) = true
    · have hdc : d = c := by simpa using h
      subst hdc
      simp
    · have hne : (c == d) = false := by
        rw [beq_eq_false_iff_ne]; intro e; exact h (by simp [e])
      rw [List.contains_cons, hne, Bool.false_or, ← ih]
      rw [decide_eq_decide]
      simp only [h, Bool.false_eq_true, if_false]
      split <;> (rename_i hn; simp at hn; omega)
set_option maxRecDepth 100000 in
set_option maxHeartbeats 1000000 in
theorem takes_cls (c : UInt8) (inner : ByteArray) (others : Bool) (b d : Nat) (w : World) (hb : w.cell? ⟨b, 0, none⟩ = some (.string inner)) (hd : w.cell? ⟨d, 0, none⟩ = some (.bool others)) :
    Calls Tryz.prog 287 #[.int .u8 c.toNat, .pointer (some ⟨b, 0, none⟩), .pointer (some ⟨d, 0, none⟩)] w fun e w' => e = .returned (.bool (takesB (.cls inner others) c)) ∧ ∃ m, w' = w.drewN m := by
  have E := hid (show takesB (.cls inner others) c = (decide (0 ≤ Lib.indexByte inner.data.toList c) != others) by rw [index_has]; rfl)
  go_enter Tryz.func287, Tryz.ntmps287
  go_wp2_with fail
  go_quiet ((go_at_call 170; exact Calls.quiet_of_same (IndexByteU_any _ _ _)))
  go_wp2
  go_ret
  exact ⟨by rw [unhid E]; rfl, _, rfl⟩
end Go.Proofs.YtoihhlkidlapmaaGreat

namespace Go.Proofs.YtoihhlkidlapmaaGreat
open Go.RowKit Go.Shelf
theorem gb_reflG (w : World) (r : Option Nat) : w.grownBy w r := ⟨rfl, rfl, rfl, Nat.le_refl _, fun _ _ _ => rfl⟩
theorem gb_set (w : World) (g i : Nat) (v : Value) : w.grownBy (w.setCell ⟨g, i, none⟩ v) (some g) := ⟨rfl, rfl, rfl, by simp, fun k _ hk => Below.heap_setCell w _ v k (fun e => hk (by rw [e]))⟩
def Bools (W : World) (g m : Nat) (h : Nat → Bool) : Prop := ∃ cur : Array Value, W.heap[g]? = some (.cells cur 4 (0, 0)) ∧ cur.size = m ∧ ∀ j, j < m → cur[j]? = some (.bool (h j))
theorem Bools.lt {W : World} {g m : Nat} {h : Nat → Bool} (x : Bools W g m h) : g < W.heap.size := by
  obtain ⟨cur, h1, _⟩ := x; exact (Array.getElem?_eq_some_iff.1 h1).1
theorem Bools.cell {W : World} {g m : Nat} {h : Nat → Bool} (x : Bools W g m h) (j : Nat) (hj : j < m) : W.cell? ⟨g, j, none⟩ = some (.bool (h j)) ∧ W.frozen? ⟨g, j, none⟩ = false := by
  obtain ⟨cur, h1, h2, h3⟩ := x
  constructor
  · simp [World.cell?, h1, h3 j hj]
  · simp [World.frozen?, h1]
theorem Bools.block {W W' : World} {g m : Nat} {h : Nat → Bool} (x : Bools W g m h) (e : W'.heap[g]? = W.heap[g]?) : Bools W' g m h := by
  obtain ⟨cur, h1, h2, h3⟩ := x; exact ⟨cur, e.trans h1, h2, h3⟩
theorem Bools.alloc {W : World} {g m : Nat} {h : Nat → Bool} (x : Bools W g m h) (o : Obj) : Bools (W.alloc o) g m h := x.block (Below.heap_alloc _ _ _ x.lt)
theorem Bools.below {W W' : World} {B g m : Nat} {h : Nat → Bool} (x : Bools W g m h) (hb : Below B W W') (hg : g < B) : Bools W' g m h := x.block (hb.block g hg)
theorem Bools.other {W : World} {g m : Nat} {h : Nat → Bool} (x : Bools W g m h) (a : Addr) (v : Value) (hne : g ≠ a.block) : Bools (W.setCell a v) g m h := x.block (Below.heap_setCell W a v g hne)
theorem Bools.congr {W : World} {g m : Nat} {h h' : Nat → Bool} (x : Bools W g m h) (e : ∀ j, j < m → h j = h' j) : Bools W g m h' := by
  obtain ⟨cur, h1, h2, h3⟩ := x; exact ⟨cur, h1, h2, fun j hj => by rw [h3 j hj, e j hj]⟩
theorem Bools.set {W : World} {g m : Nat} {h : Nat → Bool} (x : Bools W g m h) (j : Nat) (hj : j < m) (b : Bool) : Bools (W.setCell ⟨g, j, none⟩ (.bool b)) g m (fun i => if i = j then b else h i) := by
  obtain ⟨cur, h1, h2, h3⟩ := x
  refine ⟨cur.setIfInBounds j (.bool b), ?_, by simpa using h2, fun i hi => ?_⟩
  · exact heap_setCell_same W g j cur 4 (.bool b) h1
  · rw [Array.getElem?_setIfInBounds]
    by_cases e : j = i
    · subst e; simp; omega
    · have e' : ¬ i = j := fun x => e x.symm
      rw [if_neg e, h3 i hi]; simp [e']
theorem type_neG {W : World} {g b : Nat} {cur cur' : Array Value} {e e' : TypeId} {f f' : Nat × Nat} (h : W.heap[g]? = some (.cells cur e f)) (h' : W.heap[b]? = some (.cells cur' e' f')) (hne : e ≠ e') : g ≠ b := by
  rintro rfl; rw [h] at h'; cases h'; exact hne rfl
def Row2 (W : World) (e : TypeId) (v : Value) (n : Nat) (cs : Nat → Bool × Value) : Prop :=
  ∃ a cap, v = .slice a n cap ∧ (n = 0 ∨ ∃ g cur, a = some ⟨g, 0, none⟩ ∧ W.heap[g]? = some (.cells cur e (0, 0)) ∧ n ≤ cap ∧ ∀ i, i < n → cur[i * 2]? = some (.bool (cs i).1) ∧ cur[i * 2 + 1]? = some (cs i).2 ∧ (cs i).2.oneCell' = true)
theorem Row2.kept {W W' : World} {e : TypeId} {v : Value} {n : Nat} {cs : Nat → Bool × Value} (x : Row2 W e v n cs) (hk : ∀ b, b < W.heap.size → W'.heap[b]? = W.heap[b]?) : Row2 W' e v n cs := by
  obtain ⟨a, cap, rfl, h⟩ := x
  refine ⟨a, cap, rfl, h.imp id ?_⟩
  rintro ⟨g, cur, rfl, h1, h2⟩
  exact ⟨g, cur, rfl, (hk g (Array.getElem?_eq_some_iff.1 h1).1).trans h1, h2⟩
theorem below_of_grown {w W W' : World} {g : Nat} (hb : Below w.heap.size w W) (hg : W.grownBy W' (some g)) (hge : w.heap.size ≤ g) : Below w.heap.size w W' :=
  ⟨hg.os.trans hb.os, hg.tape.trans hb.tape, hg.output.trans hb.output, Nat.le_trans hb.size hg.size, fun k hk => (hg.block k (Nat.lt_of_lt_of_le hk hb.size) (by intro e; cases e; omega)).trans (hb.block k hk)⟩
def TakesIs {α : Type} (enc : α → Value) (xs : Pat α) (cs : Nat → Bool × Value) (w : World) : Prop :=
  ∀ i, i < xs.length → runAt xs i = false → ∃ f ca, (cs i).2 = .func (.func f) #[] ca ∧ (∀ args w, (callFunc f args).run Tryz.prog w = .ok (.enter f args) w) ∧
    ∀ (c : α) (W : World), Below w.heap.size w W → Calls Tryz.prog f (#[enc c] ++ ca) W fun e W' => e = .returned (.bool (takeAt xs i c)) ∧ Below W.heap.size W W'
theorem infoBool : (Tryz.prog.info? 4).map (fun i => (i.zero, i.size, i.bytes)) = some (some (.bool false), 1, 1) := by kernel_rfl
theorem mkBools (W : World) (n : Nat) (hn : n ≤ 1000) : (Instr.makeSlice 95 (.int .i64 ((n : Int) + 1)) (.int .i64 ((n : Int) + 1))).run Tryz.prog W = .ok (.slice (some ⟨W.heap.size, 0, none⟩) (n + 1) (n + 1)) (W.alloc (.cells (madeCells #[.bool false] (n + 1)) 4)) :=
  run_make_row' 95 4 (.bool false) 1 Tryz.underlying95 infoBool rfl .i64 .i64 (n + 1) (by omega) (by omega) W
theorem Bools.new (W : World) (m : Nat) : Bools (W.alloc (.cells (madeCells #[.bool false] m) 4)) W.heap.size m (fun _ => false) := by
  refine ⟨_, World.alloc_heap_new W _, by simp [madeCells], fun j hj => by simp [madeCells, hj, Nat.mod_one]⟩
end Go.Proofs.YtoihhlkidlapmaaGreat

namespace Go.Proofs.YtoihhlkidlapmaaGreat
open Go.RowKit Go.Shelf
end Go.Proofs.YtoihhlkidlapmaaGreat

namespace Go.Proofs.YtoihhlkidlapmaaGreat
open Go.RowKit Go.Shelf
set_option maxRecDepth 100000 in
set_option maxHeartbeats 4000000 in
theorem skipRunsB_any (xs : Pat UInt8) (v : Value) (cs : Nat → Bool × Value) (h : Nat → Bool) (g cap : Nat) (w : World) (hn : xs.length ≤ 1000) (hv : Row2 w 270 v xs.length cs) (hr : ∀ i, i < xs.length → runAt xs i = (cs i).1) (hh : Bools w g (xs.length + 1) h) :
    Calls Tryz.prog 263 #[v, .slice (some ⟨g, 0, none⟩) (xs.length + 1) cap] w fun e W' => (∃ x, e = .returned x) ∧ Bools W' g (xs.length + 1) (skipN xs h xs.length) ∧ w.grownBy W' (some g) := by
  obtain ⟨a, vc, rfl, hrow⟩ := hv
  go_enter Tryz.func263, Tryz.ntmps263
  go_wp2_with fail
  go_loopw [4, 5, 8] (fun _ _ i wr => ∃ k : Nat, k ≤ xs.length ∧ i = .int .i64 k ∧ Bools wr g (xs.length + 1) (skipN xs h k) ∧ w.grownBy wr (some g)) (fun _ _ i _ => xs.length - (intOf i).toNat)
  case atStart => exact ⟨0, Nat.zero_le _, rfl, hh, gb_reflG _ _⟩
  case round =>
    obtain ⟨k, hk, rfl, hB, hG⟩ := hrel
    by_cases hlt : k < xs.length
    · obtain ⟨c0, f0⟩ := hB.cell k (by omega)
      rcases hrow with h0 | ⟨gv, cur, rfl, hcur, hvc, hcs⟩
      · omega
      have hcw := (hG.block gv (Array.getElem?_eq_some_iff.1 hcur).1 (by intro e; cases e; obtain ⟨cur', q, _⟩ := hh; exact type_neG hcur q (by decide) rfl)).trans hcur
      have w0 : wr.cell? ⟨gv, k * 2, none⟩ = some (.bool (cs k).1) := by simp [World.cell?, hcw, (hcs k hlt).1]
      have w1 : wr.cell? ⟨gv, k * 2 + 1, none⟩ = some (cs k).2 := by simp [World.cell?, hcw, (hcs k hlt).2.1]
      have hgl := hB.lt
      have hgn : ¬ g = wr.heap.size := by omega
      obtain ⟨c1, f1⟩ := hB.cell (k + 1) (by omega)
      have hst : ∀ b m, (store ⟨wr.heap.size, 1, none⟩ (cs k).2 m).run Tryz.prog (wr.alloc (.cells #[.bool b, .nilFunc] 270)) = stored Tryz.prog (wr.alloc (.cells #[.bool b, .nilFunc] 270)) ⟨wr.heap.size, 1, none⟩ (cs k).2 m := fun b m => run_store _ _ _ _ _ (hcs k hlt).2.2
      have hrk := hr k hlt
      have HB := hid hB
      have HG := hid hG
      clear hB hG hcs hr hcur hcw hh
      cases hb1 : skipN xs h k k
      · rw [hb1] at c0
        go_wp2_with fail
        go_roundw
        case rel => exact ⟨k + 1, by omega, by go_num, ((unhid HB).congr (fun j hj => by simp [skipN, hb1])).alloc _, (unhid HG).trans (World.grownBy_alloc _ _ _)⟩
        case measure => simp [intOf]; omega
      · cases hb2 : (cs k).1
        · rw [hb1] at c0
          rw [hb2] at w0 hrk
          go_wp2_with fail
          go_roundw
          case rel => exact ⟨k + 1, by omega, by go_num, ((unhid HB).congr (fun j hj => by simp [skipN, hrk])).alloc _, (unhid HG).trans (World.grownBy_alloc _ _ _)⟩
          case measure => simp [intOf]; omega
        · rw [hb1] at c0
          rw [hb2] at w0 hrk
          go_wp2_with fail
          go_roundw
          case rel => exact ⟨k + 1, by omega, by go_num, (((unhid HB).set (k + 1) (by omega) true).congr (fun j hj => by by_cases e : j = k + 1 <;> simp [skipN, hb1, hrk, e])).alloc _, ((unhid HG).trans (gb_set _ _ _ _)).trans (World.grownBy_alloc _ _ _)⟩
          case measure => simp [intOf]; omega
    · have e : k = xs.length := by omega
      subst e
      go_wp2_with fail
      go_end0
      exact ⟨⟨_, rfl⟩, hB, hG⟩
set_option maxRecDepth 100000 in
set_option maxHeartbeats 4000000 in
theorem passItemB_any (xs : Pat UInt8) (v : Value) (cs : Nat → Bool × Value) (h : Nat → Bool) (g cap : Nat) (c : UInt8) (w : World) (hn : xs.length ≤ 1000) (hv : Row2 w 270 v xs.length cs) (hr : ∀ i, i < xs.length → runAt xs i = (cs i).1) (hh : Bools w g (xs.length + 1) h)
    (hT : TakesIs (fun c : UInt8 => .int .u8 c.toNat) xs cs w) :
    Calls Tryz.prog 264 #[v, .slice (some ⟨g, 0, none⟩) (xs.length + 1) cap, .int .u8 c.toNat] w fun e W' => ∃ g', e = .returned (.slice (some ⟨g', 0, none⟩) (xs.length + 1) (xs.length + 1)) ∧ w.heap.size ≤ g' ∧ Bools W' g' (xs.length + 1) (nextP xs h c) ∧ Below w.heap.size w W' := by
  have HV := hid hv
  have hmk := mkBools w xs.length hn
  have b0 := hid (Bools.new w (xs.length + 1))
  obtain ⟨a, vc, rfl, hrow⟩ := hv
  go_enter Tryz.func264, Tryz.ntmps264
  go_wp2_with fail
  clear hmk
  have hB0 : Below w.heap.size w (w.alloc (.cells (madeCells #[.bool false] (xs.length + 1)) 4)) := (Below.refl _ _).alloc (Nat.le_refl _) _
  have hz0 : w.heap.size < (w.alloc (.cells (madeCells #[.bool false] (xs.length + 1)) 4)).heap.size := by simp
  generalize w.alloc (.cells (madeCells #[.bool false] (xs.length + 1)) 4) = wq at b0 hB0 hz0 ⊢
  go_loopw [8, 9, 15] (fun _ _ i wr => ∃ k : Nat, k ≤ xs.length ∧ i = .int .i64 k ∧ Bools wr w.heap.size (xs.length + 1) (passN xs h c k) ∧ Below w.heap.size w wr) (fun _ _ i _ => xs.length - (intOf i).toNat)
  case atStart => exact ⟨0, Nat.zero_le _, rfl, unhid b0, hB0⟩
  case round =>
    clear b0 hB0 hz0
    obtain ⟨k, hk, rfl, hB, hG⟩ := hrel
    by_cases hlt : k < xs.length
    · obtain ⟨c0, f0⟩ := (hh.below hG hh.lt).cell k (by omega)
      obtain ⟨n0, m0⟩ := hB.cell k (by omega)
      obtain ⟨n1, m1⟩ := hB.cell (k + 1) (by omega)
      rcases hrow with h0 | ⟨gv, cur, rfl, hcur, hvc, hcs⟩
      · omega
      have hgv := (Array.getElem?_eq_some_iff.1 hcur).1
      have hcw := (hG.block gv hgv).trans hcur
      have w0 : wr.cell? ⟨gv, k * 2, none⟩ = some (.bool (cs k).1) := by simp [World.cell?, hcw, (hcs k hlt).1]
      have w1 : wr.cell? ⟨gv, k * 2 + 1, none⟩ = some (cs k).2 := by simp [World.cell?, hcw, (hcs k hlt).2.1]
      have hgl : g < wr.heap.size := Nat.lt_of_lt_of_le hh.lt hG.size
      have hgn : ¬ g = wr.heap.size := by omega
      have hnl := hB.lt
      have hnn : ¬ w.heap.size = wr.heap.size := by omega
      have hgg : ¬ g = w.heap.size := by have := hh.lt; omega
      have hvn : ¬ gv = w.heap.size := by omega
      have hst : ∀ b m, (store ⟨wr.heap.size, 1, none⟩ (cs k).2 m).run Tryz.prog (wr.alloc (.cells #[.bool b, .nilFunc] 270)) = stored Tryz.prog (wr.alloc (.cells #[.bool b, .nilFunc] 270)) ⟨wr.heap.size, 1, none⟩ (cs k).2 m := fun b m => run_store _ _ _ _ _ (hcs k hlt).2.2
      have hrk := hr k hlt
      have HB := hid hB
      have HG := hid hG
      have HH := hid hh
      clear hB hG hcs hr hcur hcw hh
      have hTk := hT k hlt
      have HT := hid hTk
      clear hT hTk
      cases hb1 : h k
      · rw [hb1] at c0
        go_wp2_with fail
        go_roundw
        case rel => exact ⟨k + 1, by omega, by go_num, ((unhid HB).congr (fun j hj => by simp [passN, hb1])).alloc _, (unhid HG).alloc (unhid HG).size _⟩
        case measure => simp [intOf]; omega
      · rw [hb1] at c0
        cases hb2 : (cs k).1
        · rw [hb2] at w0 hrk
          obtain ⟨f, ca, hf, hen, hcall⟩ := unhid HT hrk
          rw [hf] at w1 hst
          have HC := hid hcall
          clear hcall HT hf
          go_wp2_with fail
          have hA : Below w.heap.size w (wr.alloc (.cells #[.bool false, .func (.func f) #[] ca] 270)) := (unhid HG).alloc (unhid HG).size _
          refine (unhid HC c _ hA).mono ?_
          rintro e w2 ⟨rfl, hb⟩
          have HB2 := hid (((unhid HB).alloc (.cells #[.bool false, .func (.func f) #[] ca] 270)).below hb (by simp; omega))
          obtain ⟨n1, m1⟩ := (unhid HB2).cell (k + 1) (by omega)
          have HG2 := hid (hA.trans (hb.mono hA.size))
          clear hA hb c0 f0 n0 m0 w0 w1 hst hgl hgn hnl hnn
          cases ht : takeAt xs k c
          · go_wp2_with fail
            go_roundw
            case rel => exact ⟨k + 1, by omega, by go_num, (unhid HB2).congr (fun j hj => by simp [passN, hb1, hrk, ht]), unhid HG2⟩
            case measure => simp [intOf]; omega
          · go_wp2_with fail
            go_roundw
            case rel => exact ⟨k + 1, by omega, by go_num, ((unhid HB2).set (k + 1) (by omega) true).congr (fun j hj => by by_cases e : j = k + 1 <;> simp [passN, hb1, hrk, ht, e]), (unhid HG2).setCell (p := ⟨w.heap.size, k + 1, none⟩) (Nat.le_refl _) _⟩
            case measure => simp [intOf]; omega
        · rw [hb2] at w0 hrk
          go_wp2_with fail
          go_roundw
          case rel => exact ⟨k + 1, by omega, by go_num, (((unhid HB).set k (by omega) true).congr (fun j hj => by by_cases e : j = k <;> simp [passN, hb1, hrk, takeAt, runAt_iff.1 hrk, e])).alloc _, ((unhid HG).setCell (p := ⟨w.heap.size, k, none⟩) (Nat.le_refl _) _).alloc (by simp; exact (unhid HG).size) _⟩
          case measure => simp [intOf]; omega
    · have e : k = xs.length := by omega
      subst e
      have HR := hid hr
      have HB := hid hB
      have HG := hid hG
      clear hT hrow hr hB hG hh
      go_wp2_with fail
      refine (skipRunsB_any xs _ cs _ w.heap.size (xs.length + 1) wr hn ((unhid HV).kept (fun b hb => (unhid HG).block b hb)) (unhid HR) (unhid HB)).mono ?_
      rintro e w2 ⟨⟨x, rfl⟩, hB2, hG2⟩
      go_wp2_with fail
      go_ret
      exact ⟨w.heap.size, rfl, Nat.le_refl _, hB2, below_of_grown (unhid HG) hG2 (Nat.le_refl _)⟩
end Go.Proofs.YtoihhlkidlapmaaGreat

namespace Go.Proofs.YtoihhlkidlapmaaGreat
open Go.RowKit Go.Shelf
theorem index_at {l : List UInt8} {b : UInt8} {i : Nat} (h : Lib.indexByte l b = i) : l[i]? = some b ∧ ∀ j, j < i → l[j]? ≠ some b := by
  induction l generalizing i with
  | nil => simp [Lib.indexByte] at h
  | cons c l ih =>
    unfold Lib.indexByte at h
    have hg := Lib.indexByte_ge l b
    by_cases hc : (c == b) = true
    · simp [hc] at h
      obtain rfl : i = 0 := by omega
      have : c = b := by simpa using hc
      exact ⟨by simp [this], fun j hj => by omega⟩
    · simp [hc] at h
      split at h
      · omega
      · obtain ⟨j, rfl⟩ : ∃ j, i = j + 1 := ⟨i - 1, by omega⟩
        obtain ⟨h1, h2⟩ := ih (i := j) (by omega)
        refine ⟨by simpa using h1, fun k hk => ?_⟩
        cases k with
        | zero => simpa using hc
        | succ k => simpa using h2 k (by omega)
theorem index_of {l : List UInt8} {b : UInt8} {i : Nat} (h1 : l[i]? = some b) (h2 : ∀ j, j < i → l[j]? ≠ some b) : Lib.indexByte l b = i := by
  by_cases hn : Lib.indexByte l b < 0
  · exfalso
    have hc := cutB_none b l hn
    have : ∀ (l : List UInt8) (i : Nat), Lib.indexByte l b < 0 → l[i]? ≠ some b := by
      intro l
      induction l with
      | nil => intro i _; simp
      | cons c l ih =>
        intro i h
        unfold Lib.indexByte at h
        have hg := Lib.indexByte_ge l b
        by_cases hc : (c == b) = true
        · simp [hc] at h
        · simp [hc] at h
          have hl : Lib.indexByte l b < 0 := by split at h <;> omega
          cases i with
          | zero => simpa using hc
          | succ i => simpa using ih i hl
    exact this l i hn h1
  · obtain ⟨k, ek⟩ : ∃ k : Nat, Lib.indexByte l b = k := ⟨(Lib.indexByte l b).toNat, by omega⟩
    obtain ⟨g1, g2⟩ := index_at ek
    rw [ek]
    rcases Nat.lt_trichotomy k i with h | h | h
    · exact absurd g1 (h2 k h)
    · rw [h]
    · exact absurd h1 (g2 i h)
def clsFrom (l : List UInt8) : Nat := if l[1]? = some 33 then 2 else 1
theorem mid_data (s : ByteArray) (i : Nat) : (s.extract 1 i).data.toList = (s.data.toList.take i).drop 1 := by
  rw [Lib.extract_data, ← List.drop_take]
theorem mid_bang {s : ByteArray} {i : Nat} (hi : 1 < i) : hasA (s.extract 1 i) bang = decide (s.data.toList[1]? = some 33) := by
  unfold hasA Lib.hasPrefix
  rw [mid_data]
  have hb : bang.data.toList = [33] := rfl
  rw [hb]
  have h1 : ((s.data.toList.take i).drop 1)[0]? = s.data.toList[1]? := by
    rw [List.getElem?_drop, List.getElem?_take]; simp [hi]
  cases hm : (s.data.toList.take i).drop 1 with
  | nil =>
    rw [hm] at h1
    rw [← h1]; rfl
  | cons c t =>
    rw [hm] at h1
    rw [← h1]
    simp [List.isPrefixOf]
    rw [Bool.eq_iff_iff]
    simp
    exact eq_comm
theorem cls_data {s : ByteArray} {i : Nat} (hi : 1 < i) : (clsA s i).data.toList = (s.data.toList.take i).drop (clsFrom s.data.toList) := by
  unfold clsA cutA clsFrom
  rw [mid_bang hi]
  by_cases h : s.data.toList[1]? = some 33
  · rw [if_pos h, if_pos (decide_eq_true h), Lib.extract_data, mid_data]
    have hb : bang.size = 1 := rfl
    rw [hb, List.drop_drop, List.take_of_length_le]
    have hl : 1 < s.data.toList.length := (List.getElem?_eq_some_iff.1 h).1
    rw [Lib.size_eq, mid_data]; simp at hl ⊢; omega
  · rw [if_neg h, if_neg (by simpa using h), mid_data]
theorem class_some {s : ByteArray} {i : Nat} (h0 : s.data.toList[0]? = some 91) (hk : clsFrom s.data.toList < i) (hi : s.data.toList[i]? = some 93) (hall : ∀ j, clsFrom s.data.toList ≤ j → j < i → ∃ c, s.data.toList[j]? = some c ∧ nameB c.toNat = true) :
    classR s = some (.cls (clsA s i) (hasA (s.extract 1 i) bang), i + 1) := by
  have h1i : 1 < i := by unfold clsFrom at hk; split at hk <;> omega
  have hix : Lib.indexByte s.data.toList 93 = i := by
    refine index_of hi fun j hj => ?_
    by_cases hj0 : j = 0
    · subst hj0; rw [h0]; decide
    · by_cases hjk : clsFrom s.data.toList ≤ j
      · obtain ⟨c, hc, hn⟩ := hall j hjk hj
        rw [hc]
        intro e
        cases e
        revert hn; decide
      · have hj1 : j = 1 ∧ s.data.toList[1]? = some 33 := by
          unfold clsFrom at hjk
          split at hjk
          · exact ⟨by omega, by assumption⟩
          · omega
        rw [hj1.1, hj1.2]; decide
  have hil : i < s.data.toList.length := (List.getElem?_eq_some_iff.1 hi).1
  have he : (clsA s i).toList.isEmpty = false := by
    rw [Lib.toList_data, List.isEmpty_eq_false_iff, ← List.length_pos_iff, cls_data h1i, List.length_drop, List.length_take]; omega
  have ha : ((clsA s i).data.toList.all fun c => nameB c.toNat) = true := by
    rw [List.all_eq_true]
    intro c hc
    rw [cls_data h1i] at hc
    obtain ⟨m, hm⟩ := List.mem_iff_getElem?.1 hc
    rw [List.getElem?_drop, List.getElem?_take] at hm
    split at hm
    · rename_i hlt
      obtain ⟨d, hd, hn⟩ := hall _ (Nat.le_add_right _ m) hlt
      rw [hd] at hm
      cases hm
      exact hn
    · cases hm
  unfold classR
  rw [hix, if_neg (by omega)]
  show (if ((clsA s i).toList.isEmpty || _) = true then none else _) = _
  rw [he]
  simp only [Int.toNat_natCast]
  rw [ha]; rfl
theorem class_of {s : ByteArray} {p : W8 × Nat} (h0 : s.data.toList[0]? = some 91) (h : classR s = some p) : ∃ i, p.2 = i + 1 ∧ clsFrom s.data.toList < i ∧ s.data.toList[i]? = some 93 ∧ ∀ j, clsFrom s.data.toList ≤ j → j < i → ∃ c, s.data.toList[j]? = some c ∧ nameB c.toNat = true := by
  unfold classR at h
  split at h
  · cases h
  · split at h
    · cases h
    · rename_i hi hc
      obtain ⟨i, ei⟩ : ∃ i : Nat, Lib.indexByte s.data.toList 93 = i := ⟨(Lib.indexByte s.data.toList 93).toNat, by omega⟩
      obtain ⟨g1, g2⟩ := index_at ei
      rw [ei] at h hc
      simp only [Int.toNat_natCast] at h hc
      cases h
      simp only [Bool.or_eq_true, Bool.not_eq_true', not_or, Bool.not_eq_true, Bool.not_eq_false] at hc
      obtain ⟨hc1, hc2⟩ := hc
      have hil : i < s.data.toList.length := (List.getElem?_eq_some_iff.1 g1).1
      have h1i : 1 < i := by
        rcases (by omega : i = 0 ∨ i = 1 ∨ 1 < i) with rfl | rfl | h
        · rw [h0] at g1; cases g1
        · exfalso
          rw [Lib.toList_data, List.isEmpty_eq_false_iff, ← List.length_pos_iff] at hc1
          have hz : (clsA s 1).data.toList.length = 0 := by
            unfold clsA cutA
            split
            · rw [Lib.extract_data, mid_data]; simp
            · rw [mid_data]; simp
          omega
        · exact h
      refine ⟨i, rfl, ?_, g1, fun j h1 h2 => ?_⟩
      · rw [Lib.toList_data, List.isEmpty_eq_false_iff, ← List.length_pos_iff, cls_data h1i, List.length_drop, List.length_take] at hc1
        omega
      · obtain ⟨c, hcj⟩ : ∃ c, s.data.toList[j]? = some c := ⟨_, List.getElem?_eq_getElem (by omega)⟩
        refine ⟨c, hcj, ?_⟩
        rw [List.all_eq_true] at hc2
        refine hc2 c ?_
        rw [cls_data h1i, List.mem_iff_getElem?]
        refine ⟨j - clsFrom s.data.toList, ?_⟩
        rw [List.getElem?_drop, List.getElem?_take, show clsFrom s.data.toList + (j - clsFrom s.data.toList) = j by omega, if_pos h2, hcj]
end Go.Proofs.YtoihhlkidlapmaaGreat

namespace Go.Proofs.YtoihhlkidlapmaaGreat
open Go.RowKit Go.Shelf
def classN (s : ByteArray) : Int := match classR s with
  | some p => p.2
  | none => 0
theorem get_some {s : ByteArray} {j : Nat} (hj : j < s.size) : s.data.toList[j]? = some s[j] := getByte s j hj
theorem class_end {s : ByteArray} {k : Nat} (h0 : s.data.toList[0]? = some 91) (hk : k ≤ s.size) (hk0 : clsFrom s.data.toList ≤ k) (hall : ∀ j (hj : j < s.size), clsFrom s.data.toList ≤ j → j < k → nameB (s[j].toNat : Int) = true)
    (hend : ∀ h : k < s.size, nameB (s[k].toNat : Int) = false) : classN s = if k = clsFrom s.data.toList ∨ s.data.toList[k]? ≠ some 93 then 0 else (k : Int) + 1 := by
  have hl : s.data.toList.length = s.size := (Lib.size_eq s).symm
  split
  · rename_i hc
    unfold classN
    cases hr : classR s with
    | none => rfl
    | some p =>
      exfalso
      obtain ⟨i, _, h1, h2, h3⟩ := class_of h0 hr
      have his : i < s.size := by rw [← hl]; exact (List.getElem?_eq_some_iff.1 h2).1
      rcases Nat.lt_trichotomy i k with h | h | h
      · have := hall i his (Nat.le_of_lt h1) h
        rw [get_some his] at h2
        have e : s[i] = 93 := by simpa using h2
        rw [e] at this
        revert this; decide
      · subst h
        rcases hc with hc | hc
        · omega
        · exact hc h2
      · obtain ⟨c, hcc, hn⟩ := h3 k hk0 h
        have hks : k < s.size := by omega
        rw [get_some hks] at hcc
        cases hcc
        rw [hend hks] at hn
        cases hn
  · rename_i hc
    simp only [not_or, Decidable.not_not] at hc
    unfold classN
    rw [class_some h0 (by omega) hc.2 (fun j h1 h2 => ⟨_, get_some (by omega), hall j (by omega) h1 h2⟩)]
    simp
set_option maxRecDepth 100000 in
set_option maxHeartbeats 4000000 in
theorem l1Class_any (s : ByteArray) (hs : s.size ≤ 1048576) (h0 : s.data.toList[0]? = some 91) (w : World) :
    Calls Tryz.prog 272 #[.string s] w fun e w' => e = .returned (.int .i64 (classN s)) ∧ w' = w := by
  have hl : s.data.toList.length = s.size := (Lib.size_eq s).symm
  have hz : 0 < s.size := by rw [← hl]; exact (List.getElem?_eq_some_iff.1 h0).1
  have hcase : (¬ (1 : Int) < s.size ∧ clsFrom s.data.toList = 1) ∨ ∃ h : 1 < s.size, (((s[1]).toNat : Int) == 33) = true ∧ clsFrom s.data.toList = 2 ∨ (((s[1]).toNat : Int) == 33) = false ∧ clsFrom s.data.toList = 1 := by
    by_cases h : 1 < s.size
    · refine .inr ⟨h, ?_⟩
      by_cases e : s[1] = 33
      · left; exact ⟨by rw [e]; rfl, by unfold clsFrom; rw [get_some h, e]; rfl⟩
      · right; exact ⟨eq_no (n := 33) rfl e, by unfold clsFrom; rw [get_some h, if_neg (by simpa using e)]⟩
    · refine .inl ⟨by omega, ?_⟩
      unfold clsFrom
      rw [List.getElem?_eq_none (by omega)]; rfl
  have HC := hid (fun k => class_end (s := s) (k := k) h0)
  clear h0 hl
  rcases hcase with ⟨g1, g2⟩ | ⟨g1, ⟨g3, g2⟩ | ⟨g3, g2⟩⟩
  · rw [g2] at HC
    clear g2
    go_enter Tryz.func272, Tryz.ntmps272
    go_wp2_with fail
    go_loop [3] (fun i => ∃ k : Nat, k ≤ s.size ∧ 1 ≤ k ∧ i = .int .i64 k ∧ Hid (∀ j (hj : j < s.size), 1 ≤ j → j < k → nameB (s[j].toNat : Int) = true)) (fun i => s.size - (intOf i).toNat)
    case atStart => exact ⟨1, by omega, Nat.le_refl _, rfl, hid (fun j hj h1 h2 => by omega)⟩
    case round =>
      obtain ⟨k, hk, hkF, rfl, hc⟩ := hrel
      by_cases hlt : k < s.size
      · go_wp2_with fail
        refine (l1Small_any _ _).mono ?_
        rintro e w' ⟨rfl, rfl⟩
        cases hx : nameB (s[k].toNat : Int)
        · have E := hid (unhid HC k hk hkF (unhid hc) (fun _ => hx))
          by_cases hF : k = 1
          · subst hF
            go_wp2_with fail
            go_ret
            exact ⟨by rw [unhid E]; rfl, rfl⟩
          · have hF' : ((k : Int) == 1) = false := by rw [beq_eq_false_iff_ne]; omega
            have hS' : ((k : Int) == s.size) = false := by rw [beq_eq_false_iff_ne]; omega
            by_cases h93 : s[k] = 93
            · have b9 : (((s[k]).toNat : Int) != 93) = false := by rw [h93]; rfl
              have E2 := hid (show classN s = (k : Int) + 1 by rw [unhid E, if_neg (by rw [get_some hlt, h93]; simp [hF])])
              clear h93
              go_wp2_with fail
              go_ret
              exact ⟨by rw [unhid E2]; rfl, rfl⟩
            · have b9 : (((s[k]).toNat : Int) != 93) = true := by rw [bne_iff_ne]; intro e; exact h93 (UInt8.toNat_inj.1 (by have : (93 : UInt8).toNat = 93 := rfl; omega))
              have E2 := hid (show classN s = 0 by rw [unhid E, if_pos (.inr (by rw [get_some hlt]; simpa using h93))])
              clear h93
              go_wp2_with fail
              go_ret
              exact ⟨by rw [unhid E2]; rfl, rfl⟩
        · go_wp2_with fail
          refine ⟨⟨k + 1, by omega, by omega, by go_num, hid (fun j hj h1 h2 => ?_)⟩, by simp [intOf]; omega⟩
          by_cases hjk : j < k
          · exact unhid hc j hj h1 hjk
          · obtain rfl : j = k := by omega
            exact hx
      · have E := hid (unhid HC k hk hkF (unhid hc) (fun h => absurd h hlt))
        have E2 := hid (show classN s = 0 by rw [unhid E, if_pos (.inr (by rw [List.getElem?_eq_none (by simp; omega)]; simp))])
        have hS : ((k : Int) == s.size) = true := by rw [beq_iff_eq]; omega
        by_cases hF : k = 1
        · subst hF
          first | (exfalso; omega) | (go_wp2_with fail; go_ret; exact ⟨by rw [unhid E2]; rfl, rfl⟩)
        · have hF' : ((k : Int) == 1) = false := by rw [beq_eq_false_iff_ne]; omega
          go_wp2_with fail
          go_ret
          exact ⟨by rw [unhid E2]; rfl, rfl⟩
  · rw [g2] at HC
    clear g2
    go_enter Tryz.func272, Tryz.ntmps272
    go_wp2_with fail
    go_loop [3] (fun i => ∃ k : Nat, k ≤ s.size ∧ 2 ≤ k ∧ i = .int .i64 k ∧ Hid (∀ j (hj : j < s.size), 2 ≤ j → j < k → nameB (s[j].toNat : Int) = true)) (fun i => s.size - (intOf i).toNat)
    case atStart => exact ⟨2, by omega, Nat.le_refl _, rfl, hid (fun j hj h1 h2 => by omega)⟩
    case round =>
      obtain ⟨k, hk, hkF, rfl, hc⟩ := hrel
      by_cases hlt : k < s.size
      · go_wp2_with fail
        refine (l1Small_any _ _).mono ?_
        rintro e w' ⟨rfl, rfl⟩
        cases hx : nameB (s[k].toNat : Int)
        · have E := hid (unhid HC k hk hkF (unhid hc) (fun _ => hx))
          by_cases hF : k = 2
          · subst hF
            go_wp2_with fail
            go_ret
            exact ⟨by rw [unhid E]; rfl, rfl⟩
          · have hF' : ((k : Int) == 2) = false := by rw [beq_eq_false_iff_ne]; omega
            have hS' : ((k : Int) == s.size) = false := by rw [beq_eq_false_iff_ne]; omega
            by_cases h93 : s[k] = 93
            · have b9 : (((s[k]).toNat : Int) != 93) = false := by rw [h93]; rfl
              have E2 := hid (show classN s = (k : Int) + 1 by rw [unhid E, if_neg (by rw [get_some hlt, h93]; simp [hF])])
              clear h93
              go_wp2_with fail
              go_ret
              exact ⟨by rw [unhid E2]; rfl, rfl⟩
            · have b9 : (((s[k]).toNat : Int) != 93) = true := by rw [bne_iff_ne]; intro e; exact h93 (UInt8.toNat_inj.1 (by have : (93 : UInt8).toNat = 93 := rfl; omega))
              have E2 := hid (show classN s = 0 by rw [unhid E, if_pos (.inr (by rw [get_some hlt]; simpa using h93))])
              clear h93
              go_wp2_with fail
              go_ret
              exact ⟨by rw [unhid E2]; rfl, rfl⟩
        · go_wp2_with fail
          refine ⟨⟨k + 1, by omega, by omega, by go_num, hid (fun j hj h1 h2 => ?_)⟩, by simp [intOf]; omega⟩
          by_cases hjk : j < k
          · exact unhid hc j hj h1 hjk
          · obtain rfl : j = k := by omega
            exact hx
      · have E := hid (unhid HC k hk hkF (unhid hc) (fun h => absurd h hlt))
        have E2 := hid (show classN s = 0 by rw [unhid E, if_pos (.inr (by rw [List.getElem?_eq_none (by simp; omega)]; simp))])
        have hS : ((k : Int) == s.size) = true := by rw [beq_iff_eq]; omega
        by_cases hF : k = 2
        · subst hF
          first | (exfalso; omega) | (go_wp2_with fail; go_ret; exact ⟨by rw [unhid E2]; rfl, rfl⟩)
        · have hF' : ((k : Int) == 2) = false := by rw [beq_eq_false_iff_ne]; omega
          go_wp2_with fail
          go_ret
          exact ⟨by rw [unhid E2]; rfl, rfl⟩
  · rw [g2] at HC
    clear g2
    go_enter Tryz.func272, Tryz.ntmps272
    go_wp2_with fail
    go_loop [3] (fun i => ∃ k : Nat, k ≤ s.size ∧ 1 ≤ k ∧ i = .int .i64 k ∧ Hid (∀ j (hj : j < s.size), 1 ≤ j → j < k → nameB (s[j].toNat : Int) = true)) (fun i => s.size - (intOf i).toNat)
    case atStart => exact ⟨1, by omega, Nat.le_refl _, rfl, hid (fun j hj h1 h2 => by omega)⟩
    case round =>
      obtain ⟨k, hk, hkF, rfl, hc⟩ := hrel
      by_cases hlt : k < s.size
      · go_wp2_with fail
        refine (l1Small_any _ _).mono ?_
        rintro e w' ⟨rfl, rfl⟩
        cases hx : nameB (s[k].toNat : Int)
        · have E := hid (unhid HC k hk hkF (unhid hc) (fun _ => hx))
          by_cases hF : k = 1
          · subst hF
            go_wp2_with fail
            go_ret
            exact ⟨by rw [unhid E]; rfl, rfl⟩
          · have hF' : ((k : Int) == 1) = false := by rw [beq_eq_false_iff_ne]; omega
            have hS' : ((k : Int) == s.size) = false := by rw [beq_eq_false_iff_ne]; omega
            by_cases h93 : s[k] = 93
            · have b9 : (((s[k]).toNat : Int) != 93) = false := by rw [h93]; rfl
              have E2 := hid (show classN s = (k : Int) + 1 by rw [unhid E, if_neg (by rw [get_some hlt, h93]; simp [hF])])
              clear h93
              go_wp2_with fail
              go_ret
              exact ⟨by rw [unhid E2]; rfl, rfl⟩
            · have b9 : (((s[k]).toNat : Int) != 93) = true := by rw [bne_iff_ne]; intro e; exact h93 (UInt8.toNat_inj.1 (by have : (93 : UInt8).toNat = 93 := rfl; omega))
              have E2 := hid (show classN s = 0 by rw [unhid E, if_pos (.inr (by rw [get_some hlt]; simpa using h93))])
              clear h93
              go_wp2_with fail
              go_ret
              exact ⟨by rw [unhid E2]; rfl, rfl⟩
        · go_wp2_with fail
          refine ⟨⟨k + 1, by omega, by omega, by go_num, hid (fun j hj h1 h2 => ?_)⟩, by simp [intOf]; omega⟩
          by_cases hjk : j < k
          · exact unhid hc j hj h1 hjk
          · obtain rfl : j = k := by omega
            exact hx
      · have E := hid (unhid HC k hk hkF (unhid hc) (fun h => absurd h hlt))
        have E2 := hid (show classN s = 0 by rw [unhid E, if_pos (.inr (by rw [List.getElem?_eq_none (by simp; omega)]; simp))])
        have hS : ((k : Int) == s.size) = true := by rw [beq_iff_eq]; omega
        by_cases hF : k = 1
        · subst hF
          first | (exfalso; omega) | (go_wp2_with fail; go_ret; exact ⟨by rw [unhid E2]; rfl, rfl⟩)
        · have hF' : ((k : Int) == 1) = false := by rw [beq_eq_false_iff_ne]; omega
          go_wp2_with fail
          go_ret
          exact ⟨by rw [unhid E2]; rfl, rfl⟩
end Go.Proofs.YtoihhlkidlapmaaGreat

namespace Go.Proofs.YtoihhlkidlapmaaGreat
open Go.RowKit Go.Shelf
theorem ba_same {x y : ByteArray} (h : x.data.toList = y.data.toList) : x = y := by
  obtain ⟨⟨l⟩⟩ := x; obtain ⟨⟨m⟩⟩ := y; simp at h; subst h; rfl
theorem tail_data (s : ByteArray) (k : Nat) : (s.extract k s.size).data.toList = s.data.toList.drop k := by
  rw [Lib.extract_data, List.take_of_length_le (by simp)]
theorem tail_tail (s : ByteArray) (k n : Nat) : (s.extract k s.size).extract n (s.extract k s.size).size = s.extract (k + n) s.size :=
  ba_same (by rw [tail_data, tail_data, tail_data, List.drop_drop])
theorem tail_size (s : ByteArray) (k : Nat) : (s.extract k s.size).size = s.size - k := by rw [ByteArray.size_extract]; omega
theorem tail_head {s : ByteArray} {k : Nat} (hk : k < s.size) (h : 0 < (s.extract k s.size).size) : (s.extract k s.size)[0] = s[k] := by
  have h1 : (s.extract k s.size).data.toList[0]? = some (s.extract k s.size)[0] := getByte _ 0 h
  have h2 : s.data.toList[k]? = some s[k] := getByte s k hk
  rw [tail_data, List.getElem?_drop, Nat.add_zero, h2] at h1
  exact (Option.some.inj h1).symm
def globbedB (s : ByteArray) : Bool := (wants s).any fun l => !l.isEmpty
theorem globbed_size {s : ByteArray} (h : 0 < s.size) : globbedB s = (wants s).isSome := by
  unfold globbedB
  cases hr : firstR s s[0] with
  | none => rw [wants_none h hr]; rfl
  | some p =>
    obtain ⟨x, n⟩ := p
    rw [wants_some h hr]
    cases wants (s.extract n s.size) <;> rfl
theorem globbed_nil {s : ByteArray} (h : s.size = 0) : globbedB s = false := by unfold globbedB; rw [wants_nil h]; rfl
theorem tail_none {s : ByteArray} {k : Nat} (hk : k < s.size) (h : firstR (s.extract k s.size) s[k] = none) : (wants (s.extract k s.size)).isSome = false := by
  have hz : 0 < (s.extract k s.size).size := by rw [tail_size]; omega
  rw [wants_none hz (by rw [tail_head hk hz]; exact h)]; rfl
theorem tail_some {s : ByteArray} {k n : Nat} {x : W8} (hk : k < s.size) (h : firstR (s.extract k s.size) s[k] = some (x, n)) : (wants (s.extract k s.size)).isSome = (wants (s.extract (k + n) s.size)).isSome ∧ 1 ≤ n ∧ k + n ≤ s.size := by
  have hz : 0 < (s.extract k s.size).size := by rw [tail_size]; omega
  have hr : firstR (s.extract k s.size) (s.extract k s.size)[0] = some (x, n) := by rw [tail_head hk hz]; exact h
  have hn := firstR_le hz hr
  rw [tail_size] at hn
  rw [wants_some hz hr, tail_tail]
  exact ⟨by cases wants (s.extract (k + n) s.size) <;> rfl, by omega, by omega⟩
set_option maxRecDepth 100000 in
set_option maxHeartbeats 4000000 in
theorem l1Globbed_any (s : ByteArray) (hs : s.size ≤ 1048576) (w : World) :
    Calls Tryz.prog 236 #[.string s] w fun e w' => e = .returned (.bool (globbedB s)) ∧ w' = w := by
  go_enter Tryz.func236, Tryz.ntmps236
  go_wp2_with fail
  go_loop [3, 4] (fun i _ => ∃ k : Nat, k ≤ s.size ∧ i = .int .i64 k ∧ Hid ((wants s).isSome = (wants (s.extract k s.size)).isSome)) (fun i _ => s.size - (intOf i).toNat)
  case atStart => exact ⟨0, by omega, rfl, hid (by rw [show s.extract 0 s.size = s from ba_same (by rw [tail_data, List.drop_zero])])⟩
  case round =>
    obtain ⟨k, hk, rfl, hc⟩ := hrel
    by_cases hlt : k < s.size
    · have hz : 0 < s.size := by omega
      by_cases e1 : s[k] = 91
      · have b1 : (((s[k]).toNat : Int) == 91) = true := by rw [e1]; rfl
        have h0 : (s.extract k s.size).data.toList[0]? = some 91 := by rw [tail_data, List.getElem?_drop, Nat.add_zero, get_some hlt, e1]
        have hF : firstR (s.extract k s.size) s[k] = classR (s.extract k s.size) := by rw [e1]; rfl
        have H0 := hid h0
        have hrz : (s.extract k s.size).size ≤ 1048576 := by rw [tail_size]; omega
        have HF := hid hF
        clear e1 h0 hF
        go_wp2_with fail
        refine (l1Class_any _ hrz (unhid H0) _).mono ?_
        rintro e w' ⟨rfl, rfl⟩
        cases hr : classR (s.extract k s.size) with
        | none =>
          have hN : classN (s.extract k s.size) = 0 := by unfold classN; rw [hr]
          have E := hid (show globbedB s = false by rw [globbed_size hz, unhid hc]; exact tail_none hlt ((unhid HF).trans hr))
          clear hr
          rw [hN]
          go_wp2_with fail
          go_ret
          exact ⟨by rw [unhid E]; rfl, rfl⟩
        | some p =>
          obtain ⟨x, n⟩ := p
          have hN : classN (s.extract k s.size) = n := by unfold classN; rw [hr]
          obtain ⟨g1, g2, g3⟩ := tail_some hlt ((unhid HF).trans hr)
          have hn0 : ((n : Int) == 0) = false := by rw [beq_eq_false_iff_ne]; omega
          have G1 := hid g1
          clear hr g1
          rw [hN]
          go_wp2_with fail
          refine ⟨⟨k + n, by omega, by go_num, hid ((unhid hc).trans (unhid G1))⟩, by simp [intOf]; omega⟩
      · have b1 := eq_no (n := 91) rfl e1
        by_cases e2 : s[k] = 42
        · have b2 : (((s[k]).toNat : Int) == 42) = true := by rw [e2]; rfl
          obtain ⟨g1, g2, g3⟩ := tail_some (x := .star) (n := 1) hlt (by rw [e2]; rfl)
          have G1 := hid g1
          clear e1 e2 g1
          go_wp2_with fail
          refine ⟨⟨k + 1, by omega, by go_num, hid ((unhid hc).trans (unhid G1))⟩, by simp [intOf]; omega⟩
        · have b2 := eq_no (n := 42) rfl e2
          by_cases e3 : s[k] = 63
          · have b3 : (((s[k]).toNat : Int) == 63) = true := by rw [e3]; rfl
            obtain ⟨g1, g2, g3⟩ := tail_some (x := .any) (n := 1) hlt (by rw [e3]; rfl)
            have G1 := hid g1
            clear e1 e2 e3 g1
            go_wp2_with fail
            refine ⟨⟨k + 1, by omega, by go_num, hid ((unhid hc).trans (unhid G1))⟩, by simp [intOf]; omega⟩
          · have b3 := eq_no (n := 63) rfl e3
            cases hn : nameB ((s[k]).toNat : Int)
            · have E := hid (show globbedB s = false by
                rw [globbed_size hz, unhid hc]
                exact tail_none hlt (by unfold firstR; rw [if_neg e2, if_neg e3, if_neg e1, hn]; rfl))
              clear e1 e2 e3
              go_wp2_with fail
              refine (l1Small_any _ _).mono ?_
              rintro e w' ⟨rfl, rfl⟩
              rw [hn]
              go_wp2_with fail
              go_ret
              exact ⟨by rw [unhid E]; rfl, rfl⟩
            · obtain ⟨g1, g2, g3⟩ := tail_some (x := .byte s[k]) (n := 1) hlt (by unfold firstR; rw [if_neg e2, if_neg e3, if_neg e1, if_pos hn])
              have G1 := hid g1
              clear e1 e2 e3 g1
              go_wp2_with fail
              refine (l1Small_any _ _).mono ?_
              rintro e w' ⟨rfl, rfl⟩
              rw [hn]
              go_wp2_with fail
              refine ⟨⟨k + 1, by omega, by go_num, hid ((unhid hc).trans (unhid G1))⟩, by simp [intOf]; omega⟩
    · have hks : k = s.size := by omega
      have hsome : (wants s).isSome = true := by
        rw [unhid hc, wants_nil (by rw [tail_size]; omega)]; rfl
      by_cases hz : 0 < s.size
      · have E := hid (show globbedB s = true by rw [globbed_size hz]; exact hsome)
        have he : s.toList.isEmpty = false := by rw [Lib.toList_data, List.isEmpty_eq_false_iff, ← List.length_pos_iff, ← Lib.size_eq]; exact hz
        clear hks
        go_wp2_with fail
        go_ret
        exact ⟨by rw [unhid E]; rfl, rfl⟩
      · have E := hid (show globbedB s = false from globbed_nil (by omega))
        have he : s.toList.isEmpty = true := by rw [Lib.toList_data, List.isEmpty_iff, ← List.length_eq_zero_iff, ← Lib.size_eq]; omega
        clear hks
        go_wp2_with fail
        go_ret
        exact ⟨by rw [unhid E]; rfl, rfl⟩
end Go.Proofs.YtoihhlkidlapmaaGreat

namespace Go.Proofs.YtoihhlkidlapmaaGreat
open Go.RowKit Go.Shelf
def globbedL (l : List UInt8) : Bool := globbedB ⟨l.toArray⟩
theorem globbedL_eq (x : ByteArray) : globbedL x.data.toList = globbedB x := by
  unfold globbedL; exact congrArg globbedB (ba_same (by simp))
def globOkB (l : List UInt8) : Bool := decide ((cutB 47 l).length ≤ 5) && decide (l.length ≤ 40) && (cutB 47 l).all globbedL
set_option maxRecDepth 100000 in
set_option maxHeartbeats 2000000 in
theorem specGlobOk_any (s : ByteArray) (hs : s.size ≤ 1048576) (w : World) :
    Calls Tryz.prog 173 #[.string s] w fun e w' => e = .returned (.bool (globOkB s.data.toList)) ∧ Below w.heap.size w w' := by
  go_enter Tryz.func173, Tryz.ntmps173
  go_wp2_with fail
  refine (l1Cut_any s 47 _ hs (by omega) (by omega) _).mono ?_
  rintro e w1 ⟨v, xs, rfl, hxs, hown, hB⟩
  have hne : xs ≠ [] := by
    intro h; subst h; exact cutB_ne _ _ hxs.symm
  obtain ⟨n, hn⟩ : ∃ n, xs.length = n + 1 := ⟨xs.length - 1, by have := List.length_pos_iff.2 hne; omega⟩
  rw [hn] at hown
  obtain ⟨g, cap, rfl⟩ := ownsRow_succ hown
  have hcell : ∀ (k : Nat) x, xs[k]? = some x → w1.cell? ⟨g, k, none⟩ = some (.string x) := fun k x hx => by
    have hk : k < xs.length := (List.getElem?_eq_some_iff.1 hx).1
    rw [hown.cellAt k (by omega), List.getElem?_map, hx]; rfl
  have hlen : ∀ x ∈ xs, x.size ≤ 1048576 := fun x hx => by
    have h1 : x.data.toList ∈ cutB 47 s.data.toList := by rw [← hxs]; exact List.mem_map.2 ⟨x, hx, rfl⟩
    have h2 := cutB_le 47 _ _ h1
    rw [← Lib.size_eq, ← Lib.size_eq] at h2
    omega
  have Hcell := hid hcell
  have Hlen := hid hlen
  have Hxs := hid hxs
  have Hn := hid hn
  have hns : n ≤ 1048576 := by
    have := cutB_length 47 s.data.toList
    rw [← hxs, ← Lib.size_eq] at this
    simp [datas] at this
    omega
  clear hown hcell hlen hxs hn
  go_wp2_with fail
  go_loop [4] (fun i => ∃ k : Nat, k ≤ n + 1 ∧ i = .int .i64 k ∧ Hid (((datas xs).take k).all globbedL = true)) (fun i => n + 1 - (intOf i).toNat)
  case atStart => exact ⟨0, Nat.zero_le _, rfl, hid (by simp)⟩
  case round =>
    obtain ⟨k, hk, rfl, hall⟩ := hrel
    by_cases hlt : k < n + 1
    · obtain ⟨x, hx⟩ : ∃ x, xs[k]? = some x := ⟨xs[k]'(by rw [unhid Hn]; exact hlt), List.getElem?_eq_getElem _⟩
      have hck := unhid Hcell k x hx
      have hlk := unhid Hlen x (List.mem_of_getElem? hx)
      have Hx := hid hx
      clear hx
      cases hb : globbedL x.data.toList
      · go_wp2_with (go_at_call 236; refine (l1Globbed_any _ hlk _).mono ?_; rintro e w' ⟨rfl, rfl⟩; rw [← globbedL_eq, hb])
        go_ret
        refine ⟨?_, hB⟩
        have hf : globOkB s.data.toList = false := by
          unfold globOkB
          rw [← unhid Hxs, List.all_eq_false.2 ⟨x.data.toList, List.mem_map.2 ⟨x, List.mem_of_getElem? (unhid Hx), rfl⟩, by simp [hb]⟩]; simp
        rw [hf]; rfl
      · go_wp2_with (go_at_call 236; refine (l1Globbed_any _ hlk _).mono ?_; rintro e w' ⟨rfl, rfl⟩; rw [← globbedL_eq, hb])
        refine ⟨⟨k + 1, by omega, by go_num, hid ?_⟩, by simp [intOf]; omega⟩
        rw [List.take_add_one, List.getElem?_map, unhid Hx, List.all_append, unhid hall]
        simp [hb]
    · have hl : (datas xs).length = n + 1 := by rw [← unhid Hn]; simp [datas]
      have hall' : (datas xs).all globbedL = true := by have := unhid hall; rwa [List.take_of_length_le (by omega)] at this
      have hf : globOkB s.data.toList = (decide ((n : Int) + 1 ≤ 5) && decide ((s.size : Int) ≤ 40)) := by
        unfold globOkB
        rw [← unhid Hxs, hall', hl, Bool.and_true, ← Lib.size_eq]
        rw [show decide (n + 1 ≤ 5) = decide ((n : Int) + 1 ≤ 5) from decide_eq_decide.2 (by omega), show decide (s.size ≤ 40) = decide ((s.size : Int) ≤ 40) from decide_eq_decide.2 (by omega)]
      have HF := hid hf
      clear hf hall' hl
      by_cases h5 : (n : Int) + 1 ≤ 5
      · have E := hid (show globOkB s.data.toList = decide ((s.size : Int) ≤ 40) by rw [unhid HF, decide_eq_true h5, Bool.true_and])
        go_wp2
        go_ret
        exact ⟨by rw [unhid E]; rfl, hB⟩
      · have E := hid (show globOkB s.data.toList = false by rw [unhid HF, decide_eq_false h5, Bool.false_and])
        go_wp2
        go_ret
        exact ⟨by rw [unhid E]; rfl, hB⟩
end Go.Proofs.YtoihhlkidlapmaaGreat

namespace Go.Proofs.YtoihhlkidlapmaaGreat
open Go.RowKit Go.Shelf
attribute [local go_sem] Oper.semAt_some
end Go.Proofs.YtoihhlkidlapmaaGreat

namespace Go.Proofs.YtoihhlkidlapmaaGreat
open Go.RowKit Go.Shelf
attribute [local go_sem] Oper.semAt_some
theorem grown_of_below {W w1 : World} (h : Below W.heap.size W w1) (r : Option Nat) : W.grownBy w1 r := ⟨h.os, h.tape, h.output, h.size, fun k hk _ => h.block k hk⟩
theorem Boxed_below {W w1 : World} {B : Nat} {t : TypeId} {v : Value} (h : Boxed W B t v) (hb : Below W.heap.size W w1) : Boxed w1 B t v := h.kept (grown_of_below hb none) (by simp)
theorem nameW_globbed (x : ByteArray) : (nameW x).isSome = globbedL x.data.toList := by
  rw [globbedL_eq]
  unfold nameW globbedB
  split
  · rename_i h
    have hd : x.data.toList = [42, 42] := by rw [← Lib.toList_data]; simpa using h
    have hx : x = ⟨#[42, 42]⟩ := ba_same hd
    subst hx; decide
  · cases wants x with
    | none => rfl
    | some l => cases l <;> rfl
end Go.Proofs.YtoihhlkidlapmaaGreat

namespace Go.Proofs.YtoihhlkidlapmaaGreat
open Go.RowKit Go.Shelf
attribute [local go_sem] Oper.semAt_some
theorem cells_of {W : World} {b : Nat} {cur : Array Value} {e : TypeId} {f : Nat × Nat} (h : W.heap[b]? = some (.cells cur e f)) {r : Option Nat} (hr : ∀ x, r = some x → ∃ o : Obj, W.heap[x]? = some o ∧ o.isCells = false) : r ≠ some b := by
  intro e
  obtain ⟨o, h1, h2⟩ := hr b e
  rw [h] at h1; cases h1; cases h2
theorem TakesIs.below {α : Type} {enc : α → Value} {xs : Pat α} {cs : Nat → Bool × Value} {w W : World} (h : TakesIs enc xs cs w) (hb : Below w.heap.size w W) : TakesIs enc xs cs W := fun i hi hr => by
  obtain ⟨f, ca, h1, h2, h3⟩ := h i hi hr
  exact ⟨f, ca, h1, h2, fun c W' hb' => h3 c W' (hb.trans (hb'.mono hb.size))⟩
theorem Bools.own {W W' : World} {g m : Nat} {h : Nat → Bool} (x : Bools W g m h) {r : Option Nat} (hg : W.grownBy W' r) (hr : ∀ x, r = some x → ∃ o : Obj, W.heap[x]? = some o ∧ o.isCells = false) : Bools W' g m h := by
  obtain ⟨cur, h1, h2, h3⟩ := x
  exact ⟨cur, (hg.block g (Array.getElem?_eq_some_iff.1 h1).1 (fun e => cells_of h1 hr e.symm)).trans h1, h2, h3⟩
set_option maxRecDepth 100000 in
set_option maxHeartbeats 4000000 in
theorem takesAllB_any (xs : Pat UInt8) (v : Value) (cs : Nat → Bool × Value) (s : ByteArray) (Bn : Nat) (w : World) (hn : xs.length ≤ 1000) (hs : s.size ≤ maxLen) (hv : Row2 w 270 v xs.length cs) (hr : ∀ i, i < xs.length → runAt xs i = (cs i).1)
    (hT : TakesIs (fun c : UInt8 => .int .u8 c.toNat) xs cs w) (hBn : Bn < w.heap.size) (hc : w.cell? ⟨Bn, 0, none⟩ = some (.string s)) :
    Calls Tryz.prog 228 #[v, .func (.func 265) #[] #[.pointer (some ⟨Bn, 0, none⟩)]] w fun e W' => e = .returned (.bool (matchO xs s.data.toList)) ∧ Below w.heap.size w W' := by
  have HV := hid hv
  have HT := hid hT
  have HC := hid hc
  have hsh : ∃ a vc, v = .slice a xs.length vc := by obtain ⟨a, vc, rfl, -⟩ := hv; exact ⟨a, vc, rfl⟩
  obtain ⟨a, vc, rfl⟩ := hsh
  clear hv hT hc
  have hmk := mkBools (w.alloc (.cells #[.slice a xs.length vc] 245)) xs.length hn
  have hms : (madeCells #[.bool false] (xs.length + 1)).size = xs.length + 1 := by simp [madeCells]
  have hm : ∀ j, j < xs.length + 1 → (madeCells #[.bool false] (xs.length + 1))[j]? = some (.bool false) := fun j hj => by simp [madeCells, hj, Nat.mod_one]
  generalize madeCells #[.bool false] (xs.length + 1) = M at hmk hms hm
  have hm0 := hm 0 (Nat.succ_pos _)
  have HM := hid (And.intro hms hm)
  clear hms hm
  refine (callsIn_wide (n := 4)).1 ?_
  refine callsIn_of_wp_marks Tryz.func228 rfl trivial ?_ rfl
  simp only [Tryz.ntmps228, List.size_toArray, List.length_cons, List.length_nil, Nat.reduceAdd, Nat.reduceSub, Array.replicate_succ, Array.replicate_zero, List.push_toArray, List.append_toArray, List.nil_append, List.cons_append]
  gi_wp2
  clear hmk hm0
  obtain ⟨W1, hW1⟩ : ∃ W1, W1 = (((w.alloc (.cells #[.slice a xs.length vc] 245)).alloc (.cells (M.setIfInBounds 0 (.bool true)) 4)).alloc (.cells #[.slice (some ⟨w.heap.size + 1, 0, none⟩) (xs.length + 1) (xs.length + 1)] 95)) := ⟨_, rfl⟩
  rw [← hW1]
  have hz1 : W1.heap.size = w.heap.size + 3 := by rw [hW1]; simp
  have hB1 : Below w.heap.size w W1 := by rw [hW1]; exact (((Below.refl _ w).alloc (Nat.le_refl _) _).alloc (by simp) _).alloc (by simp; omega) _
  have k0 : Boxed W1 w.heap.size 245 (.slice a xs.length vc) := by
    rw [hW1]; exact ((Boxed.new w _ _).alloc _).alloc _
  have k2 : Boxed W1 (w.heap.size + 1 + 1) 95 (.slice (some ⟨w.heap.size + 1, 0, none⟩) (xs.length + 1) (xs.length + 1)) := by
    rw [hW1]; have := Boxed.new ((w.alloc (.cells #[.slice a xs.length vc] 245)).alloc (.cells (M.setIfInBounds 0 (.bool true)) 4)) 95 (.slice (some ⟨w.heap.size + 1, 0, none⟩) (xs.length + 1) (xs.length + 1)); simpa using this
  have k1 : Bools W1 (w.heap.size + 1) (xs.length + 1) (fun j => j == 0) := by
    obtain ⟨h1, h2⟩ := unhid HM
    rw [hW1]
    refine Bools.alloc (W := (w.alloc _).alloc _) ⟨M.setIfInBounds 0 (.bool true), ?_, by simpa using h1, fun j hj => ?_⟩ _
    · have := World.alloc_heap_new (w.alloc (.cells #[.slice a xs.length vc] 245)) (.cells (M.setIfInBounds 0 (.bool true)) 4); simpa using this
    · rw [Array.getElem?_setIfInBounds]
      by_cases e : 0 = j
      · subst e; rw [if_pos rfl, if_pos (by omega)]; rfl
      · rw [if_neg e, h2 j hj]
        have e' : (j == 0) = false := by simp; omega
        rw [e']
  clear hW1 HM
  refine ⟨trivial, (callsIn_wide.2 (skipRunsB_any xs _ cs _ (w.heap.size + 1) (xs.length + 1) W1 hn ((unhid HV).kept (fun b hb => hB1.block b hb)) hr k1)).mono ?_⟩
  rintro e W2 ⟨⟨x, rfl⟩, b1, g1⟩
  have q0 := k0.kept g1 (by simp)
  have q2 := k2.kept g1 (by simp)
  have hB2 := below_of_grown hB1 g1 (by omega)
  have hz2 : w.heap.size + 3 ≤ W2.heap.size := by have := g1.size; omega
  have hc0 := q0.cell
  have hc2 := q2.cell
  have HQ := hid (And.intro q0 (And.intro q2 (And.intro b1 hB2)))
  clear k0 k1 k2 hB1 hz1 g1 q0 q2 b1 hB2 W1
  gi_wp2
  refine wpIn_rangeFunc_ownF rfl (by omega) (gf := 265) (lb := #[.pointer (some ⟨Bn, 0, none⟩)]) rfl trivial (enters_of Tryz.func265 (by kernel_rfl) rfl)
    (bytes_stops Fence.wide _ trivial rfl (by omega) Bn s hs w hBn (unhid HC)) Keeps.t (Keeps.b) (unhid HQ).2.2.2 (fun _ => rfl)
    (fun pre W => ((∃ g, Boxed W (w.heap.size + 1 + 1) 95 (.slice (some ⟨g, 0, none⟩) (xs.length + 1) (xs.length + 1)) ∧ Bools W g (xs.length + 1) (placesP xs pre)) ∧ Boxed W w.heap.size 245 (.slice a xs.length vc)) ∧ Below w.heap.size w W)
    (fun c pre W => False)
    (OwnFrom.and (Own.from (fun s A B row hs hg hr => by
        obtain ⟨⟨g, h1, h2⟩, h3⟩ := hs
        exact ⟨⟨g, boxed_own _ _ (fun _ => _) s A B row h1 hg hr, h2.own hg hr⟩, boxed_own _ _ (fun _ => _) s A B row h3 hg hr⟩) _) (ownFrom_below (Nat.le_refl _) (by omega)))
    (fun c => Own.from (fun s A B row hs hg hr => hs) _)
    ⟨⟨⟨w.heap.size + 1, (unhid HQ).2.1, (unhid HQ).2.2.1⟩, (unhid HQ).1⟩, (unhid HQ).2.2.2⟩
    (fun y => { tmps := #[.slice a xs.length vc, .func (.func 265) #[] #[.pointer (some ⟨Bn, 0, none⟩)], .pointer (some ⟨w.heap.size, 0, none⟩), undef, .bool false, .pointer (some ⟨w.heap.size + 1 + 1, 0, none⟩), .int .u8 y.toNat, .slice a xs.length vc, .int .i64 xs.length, .int .i64 ((xs.length : Int) + 1), .slice (some ⟨w.heap.size + 1, 0, none⟩) (xs.length + 1) (xs.length + 1), .slice (some ⟨w.heap.size + 1, 0, none⟩) (xs.length + 1) (xs.length + 1), .pointer (some ⟨w.heap.size + 1, 0, none⟩), .slice a xs.length vc, .slice (some ⟨w.heap.size + 1, 0, none⟩) (xs.length + 1) (xs.length + 1), x, .func (.func 265) #[] #[.pointer (some ⟨Bn, 0, none⟩)], .int .u8 y.toNat, undef, undef, undef, undef, undef, undef, undef, undef, undef], defers := [] }) ?assign ?body ?done ?stop
  case assign =>
    intro l y W K hK
    gi_wp2
    exact hK
  case body =>
    clear HQ hc0 hc2
    rintro l pre y W ⟨⟨⟨g, k2, k1⟩, k0⟩, hB⟩ _
    have hc0 := k0.cell
    have hc2 := k2.cell
    have hf2 := k2.frozen
    have HK := hid (And.intro k2 (And.intro k1 (And.intro k0 hB)))
    have hT1 : TakesIs (fun c : UInt8 => .int .u8 c.toNat) xs cs W := (unhid HT).below hB
    have HT1 := hid hT1
    have HV1 := hid ((unhid HV).kept (fun b hb => hB.block b hb))
    clear k2 k1 k0 hB hT1
    gi_wp2
    refine ⟨trivial, (CallsIn.inRound l (callsIn_wide.2 (passItemB_any xs _ cs _ g (xs.length + 1) y W hn (unhid HV1) hr (unhid HK).2.1 (unhid HT1)))).mono ?_⟩
    rintro e W' ⟨g', rfl, hg', b1, hb⟩
    obtain ⟨k2, k1, k0, hB⟩ := unhid HK
    have q2 := Boxed_below k2 hb
    have q0 := Boxed_below k0 hb
    have hB' := hB.trans (hb.mono hB.size)
    have hc0 := q0.cell
    have hc2 := q2.cell
    have hf2 := q2.frozen
    have hO := KeepsOthers_of_below hb
    have hgne : g' ≠ w.heap.size + 1 + 1 := by have := k2.lt; omega
    have hKp : Keeps [Bn] W W' := Keeps.of_below hb (fun b hb => by simp at hb; subst hb; exact Nat.lt_of_lt_of_le hBn hB.size)
    have HF := hid (show KeepsOthers W (W'.setCell ⟨w.heap.size + 1 + 1, 0, none⟩ (.slice (some ⟨g', 0, none⟩) (xs.length + 1) (xs.length + 1))) ∧ Keeps [Bn] W (W'.setCell ⟨w.heap.size + 1 + 1, 0, none⟩ (.slice (some ⟨g', 0, none⟩) (xs.length + 1) (xs.length + 1))) ∧ _ from
      And.intro (hO.trans (KeepsOthers.setCell _ _ _)) (And.intro (hKp.t (Keeps.setCell _ _ _ (by simp; omega))) (And.intro (And.intro (show ∃ g, Boxed (W'.setCell ⟨w.heap.size + 1 + 1, 0, none⟩ (.slice (some ⟨g', 0, none⟩) (xs.length + 1) (xs.length + 1))) (w.heap.size + 1 + 1) 95 (.slice (some ⟨g, 0, none⟩) (xs.length + 1) (xs.length + 1)) ∧ Bools (W'.setCell ⟨w.heap.size + 1 + 1, 0, none⟩ (.slice (some ⟨g', 0, none⟩) (xs.length + 1) (xs.length + 1))) g (xs.length + 1) (placesP xs (pre ++ [y])) from ⟨g', q2.set _, by rw [placesP_snoc]; exact b1.other _ _ hgne⟩) (q0.other (show w.heap.size ≠ w.heap.size + 1 + 1 by omega) (.slice (some ⟨g', 0, none⟩) (xs.length + 1) (xs.length + 1)))) (hB'.setCell (p := ⟨w.heap.size + 1 + 1, 0, none⟩) (by simp; omega) (.slice (some ⟨g', 0, none⟩) (xs.length + 1) (xs.length + 1))))))
    clear HK HT1 HV1 k2 k1 k0 hB q2 q0 hB' hO hKp b1 hb
    gi_wp2
    exact unhid HF
  case done =>
    clear HQ hc0 hc2
    rintro D ys W hD rfl ⟨⟨⟨g, k2, k1⟩, k0⟩, hB⟩ hK
    have hc0 := k0.cell
    have hc2 := k2.cell
    obtain ⟨hcn, -⟩ := k1.cell xs.length (by omega)
    rw [places_match] at hcn
    have HB := hid hB
    clear k2 k1 k0 hB
    gi_wp2
    refine ⟨by simp, .inl ⟨_, _, rfl, run_takeDeferred hK, ?_⟩⟩
    refine ⟨.bool (matchO xs s.data.toList), ?_, rfl, (unhid HB).trans (belowK_b (w := w) (Nat.le_refl _) _ D _ _ (by omega) hK rfl rfl)⟩
    simp [results, Tryz.f228, go_sem]
  case stop =>
    rintro D c pre W hD hpre h hK
    exact h.elim
end Go.Proofs.YtoihhlkidlapmaaGreat

namespace Go.Proofs.YtoihhlkidlapmaaGreat
open Go.RowKit Go.Shelf
attribute [local go_sem] Oper.semAt_some
end Go.Proofs.YtoihhlkidlapmaaGreat

namespace Go.Proofs.YtoihhlkidlapmaaGreat
open Go.RowKit Go.Shelf
def opt8 : W8 → Option (UInt8 → Bool)
  | none => none
  | some x => some (takesB (some x))
def runOf (cells : List Value) (i : Nat) : Bool × Value := ((match cells[2 * i]? with
  | some (.bool r) => r
  | _ => false), cells[2 * i + 1]?.getD undef)
theorem runOf_eq {cells : List Value} {i : Nat} {r : Bool} {fv : Value} (h1 : cells[2 * i]? = some (.bool r)) (h2 : cells[2 * i + 1]? = some fv) : runOf cells i = (r, fv) := by
  unfold runOf; rw [h1, h2]; rfl
theorem row2_of {W : World} {base : Nat} {e : TypeId} {v : Value} {n : Nat} {cells : List Value} (h : W.ownsRow base e 2 v n cells) (hc : ∀ i, i < n → ∃ r fv, cells[2 * i]? = some (.bool r) ∧ cells[2 * i + 1]? = some fv ∧ fv.oneCell' = true) : Row2 W e v n (runOf cells) := by
  rcases h.2 with ⟨rfl, rfl⟩ | ⟨g, cap, cur, rfl, hb, hg, hcap, _, hsz, hcells⟩
  · exact ⟨none, 0, rfl, .inl rfl⟩
  · refine ⟨_, cap, rfl, .inr ⟨g, cur, rfl, hg, hcap, fun i hi => ?_⟩⟩
    obtain ⟨r, fv, h1, h2, h3⟩ := hc i hi
    rw [runOf_eq h1 h2]
    rw [← hcells] at h1 h2
    rw [List.getElem?_take_of_lt (by omega)] at h1 h2
    refine ⟨?_, ?_, h3⟩
    · rw [show i * 2 = 2 * i by omega, ← Array.getElem?_toList]; exact h1
    · rw [show i * 2 + 1 = 2 * i + 1 by omega, ← Array.getElem?_toList]; exact h2
theorem opt8_run (xs : List W8) (i : Nat) (x : W8) (h : xs[i]? = some x) : (xs.map opt8)[i]? = some (opt8 x) := by simp [h]
theorem eg63 : ∀ args w, (callFunc 280 args).run Tryz.prog w = .ok (.enter 280 args) w := enters_of Tryz.func280 (by kernel_rfl) rfl
theorem eg65 : ∀ args w, (callFunc 282 args).run Tryz.prog w = .ok (.enter 282 args) w := enters_of Tryz.func282 (by kernel_rfl) rfl
theorem eg67 : ∀ args w, (callFunc 287 args).run Tryz.prog w = .ok (.enter 287 args) w := enters_of Tryz.func287 (by kernel_rfl) rfl
theorem eg48 : ∀ args w, (callFunc 227 args).run Tryz.prog w = .ok (.enter 227 args) w := enters_of Tryz.func227 (by kernel_rfl) rfl
theorem below_drewN {B : Nat} (w : World) (m : Nat) : Below B w (w.drewN m) := ⟨rfl, rfl, rfl, Nat.le_refl _, fun _ _ => rfl⟩
theorem WantsP.row {W : World} {P : Nat → Prop} {v : Value} {xs : List W8} (h : WantsP W P v xs) : ∃ cs, Row2 W 270 v (xs.map opt8).length cs ∧ (∀ i, i < (xs.map opt8).length → runAt (xs.map opt8) i = (cs i).1) ∧ TakesIs (fun c : UInt8 => .int .u8 c.toNat) (xs.map opt8) cs W := by
  obtain ⟨base, cells, h1, _, h3⟩ := h
  have hx : ∀ i, i < (xs.map opt8).length → ∃ x, xs[i]? = some x := fun i hi => ⟨_, List.getElem?_eq_getElem (by simpa using hi)⟩
  refine ⟨runOf cells, row2_of (by simpa using h1) (fun i hi => ?_), fun i hi => ?_, fun i hi hr => ?_⟩
  · obtain ⟨x, hxi⟩ := hx i hi
    obtain ⟨r, fv, a, b, c⟩ := h3 i x hxi
    exact ⟨r, fv, a, b, by rcases c.form with rfl | ⟨f, ca, rfl⟩ <;> rfl⟩
  · obtain ⟨x, hxi⟩ := hx i hi
    obtain ⟨r, fv, a, b, c⟩ := h3 i x hxi
    rw [runOf_eq a b]
    unfold runAt
    rw [opt8_run xs i x hxi]
    rcases x with _ | _ | d | ⟨inner, others⟩
    · exact c.1.symm
    · exact c.1.symm
    · exact c.1.symm
    · exact c.1.symm
  · obtain ⟨x, hxi⟩ := hx i hi
    obtain ⟨r, fv, a, b, c⟩ := h3 i x hxi
    have ht : ∀ c, x ≠ .star → takeAt (xs.map opt8) i c = takesB x c := fun c hne => by
      unfold takeAt
      rw [opt8_run xs i x hxi]
      cases x <;> first | exact absurd rfl hne | rfl
    rw [runOf_eq a b]
    rcases x with _ | _ | d | ⟨inner, others⟩
    · unfold runAt at hr; rw [opt8_run xs i _ hxi] at hr; cases hr
    · refine ⟨_, _, c.2, eg63, fun ch W' hb => ?_⟩
      rw [ht ch (by simp)]
      exact (takes_any ch W').mono (by rintro e w' ⟨rfl, rfl⟩; exact ⟨rfl, Below.refl _ _⟩)
    · obtain ⟨_, bb, e1, _, e3, e4⟩ := c
      refine ⟨_, _, e1, eg65, fun ch W' hb => ?_⟩
      rw [ht ch (by simp)]
      exact (takes_byte ch d bb W' ((hb.cell (p := ⟨bb, 0, none⟩) e3).trans e4)).mono (by rintro e w' ⟨rfl, rfl⟩; exact ⟨rfl, Below.refl _ _⟩)
    · obtain ⟨_, bb, dd, e1, ⟨_, e3, e4⟩, _, e6, e7⟩ := c
      refine ⟨_, _, e1, eg67, fun ch W' hb => ?_⟩
      rw [ht ch (by simp)]
      exact (takes_cls ch inner others bb dd W' ((hb.cell (p := ⟨bb, 0, none⟩) e3).trans e4) ((hb.cell (p := ⟨dd, 0, none⟩) e6).trans e7)).mono (by rintro e w' ⟨rfl, m, rfl⟩; exact ⟨rfl, below_drewN _ _⟩)
theorem bytesOf_any (s : ByteArray) (w : World) : Calls Tryz.prog 229 #[.string s] w fun e w' => e = .returned (.func (.func 265) #[] #[.pointer (some ⟨w.heap.size, 0, none⟩)]) ∧ w' = w.alloc (.cells #[.string s] 9) :=
  (callsIn_wide (n := 1)).1 (bytesOf_in Fence.wide _ trivial rfl s w)
set_option maxRecDepth 100000 in
set_option maxHeartbeats 4000000 in
theorem nameTakes_any (s : Str) (xs : List W8) (b : Nat) (v : Value) (P : Nat → Prop) (w : World) (hc : w.cell? ⟨b, 0, none⟩ = some v) (hW : WantsP w P v xs) (hn : xs.length ≤ 1000) :
    Calls Tryz.prog 227 #[.string s.1, .pointer (some ⟨b, 0, none⟩)] w fun e W' => e = .returned (.bool (matchO (xs.map opt8) s.1.data.toList)) ∧ Below w.heap.size w W' := by
  obtain ⟨cs, h1, h2, h3⟩ := hW.row
  have hbl := below_lt hc
  have H1 := hid h1
  have H2 := hid h2
  have H3 := hid h3
  clear h1 h2 h3 hW
  go_enter Tryz.func227, Tryz.ntmps227
  go_wp2_with fail
  have hal : Below w.heap.size w (w.alloc (.cells #[.string s.1] 9)).drew := ((Below.refl _ w).alloc (Nat.le_refl _) _).drew
  have HA := hid hal
  have HN := hid (show (w.alloc (.cells #[.string s.1] 9)).drew.cell? ⟨w.heap.size, 0, none⟩ = some (.string s.1) ∧ w.heap.size < (w.alloc (.cells #[.string s.1] 9)).drew.heap.size from ⟨(cell_new_l w _ _).1, by show _ < (w.alloc _).heap.size; simp⟩)
  clear hal
  go_region_with (first | (go_at_call 229; refine (bytesOf_any _ _).mono ?_; rintro e w' ⟨rfl, rfl⟩) | (go_at_call 228; refine (takesAllB_any (xs.map opt8) _ cs s.1 w.heap.size _ (by simpa using hn) s.2 ((unhid H1).kept (fun b hb => (unhid HA).block b hb)) (unhid H2) ((unhid H3).below (unhid HA)) (unhid HN).2 (unhid HN).1).mono ?_; rintro e w2 ⟨rfl, hb⟩; have HB2 := hid ((unhid HA).trans (hb.mono (unhid HA).size)); clear hb))
  all_goals
    go_wp2_with fail
    go_ret
    exact ⟨rfl, unhid HB2⟩
def opt9 : W9 → Option (Str → Bool)
  | none => none
  | some xs => some fun s => matchO (xs.map opt8) s.1.data.toList
def NamesP (W : World) (P : Nat → Prop) (v : Value) (xs : List W9) : Prop :=
  ∃ base cells, W.ownsRow base 197 2 v xs.length cells ∧ (∀ g, v.ownBlock = some g → P g) ∧ ∀ i x, xs[i]? = some x → ∃ run fv, cells[2 * i]? = some (.bool run) ∧ cells[2 * i + 1]? = some fv ∧ NameIs W P x run fv
theorem NamesP.kept {W W' : World} {P P' : Nat → Prop} {v : Value} {xs : List W9} (h : NamesP W P v xs) (hs : W.heap.size ≤ W'.heap.size) (hk : ∀ b, P b → b < W.heap.size → W'.heap[b]? = W.heap[b]?) (hP : ∀ b, P b → b < W.heap.size → P' b) : NamesP W' P' v xs := by
  obtain ⟨base, cells, h1, h2, h3⟩ := h
  refine ⟨base, cells, ownsRow_keptG h1 (fun g e => hk g (h2 g e) (h1.lt g e).2), fun g e => hP g (h2 g e) (h1.lt g e).2, fun i x hi => ?_⟩
  obtain ⟨run, fv, g1, g2, g3⟩ := h3 i x hi
  exact ⟨run, fv, g1, g2, g3.kept hs hk hP⟩
theorem NameIs.form {W : World} {P : Nat → Prop} {x : W9} {run : Bool} {fv : Value} (h : NameIs W P x run fv) : fv = .nilFunc ∨ ∃ f ca, fv = .func (.func f) #[] ca := by
  rcases x with _ | xs
  · exact .inl h.2
  · obtain ⟨_, b, v, h1, _⟩ := h; exact .inr ⟨_, _, h1⟩
def small9 : W9 → Prop
  | none => True
  | some xs => xs.length ≤ 1000
theorem NamesP.row {W : World} {P : Nat → Prop} {v : Value} {xs : List W9} (h : NamesP W P v xs) (hm : ∀ x ∈ xs, small9 x) : ∃ cs, Row2 W 197 v (xs.map opt9).length cs ∧ (∀ i, i < (xs.map opt9).length → runAt (xs.map opt9) i = (cs i).1) ∧ TakesIs (fun c : Str => .string c.1) (xs.map opt9) cs W := by
  obtain ⟨base, cells, h1, _, h3⟩ := h
  have hx : ∀ i, i < (xs.map opt9).length → ∃ x, xs[i]? = some x := fun i hi => ⟨_, List.getElem?_eq_getElem (by simpa using hi)⟩
  have ho : ∀ (i : Nat) (x : W9), xs[i]? = some x → (xs.map opt9)[i]? = some (opt9 x) := fun i x h => by simp [h]
  refine ⟨runOf cells, row2_of (by simpa using h1) (fun i hi => ?_), fun i hi => ?_, fun i hi hr => ?_⟩
  · obtain ⟨x, hxi⟩ := hx i hi
    obtain ⟨r, fv, a, b, c⟩ := h3 i x hxi
    exact ⟨r, fv, a, b, by rcases c.form with rfl | ⟨f, ca, rfl⟩ <;> rfl⟩
  · obtain ⟨x, hxi⟩ := hx i hi
    obtain ⟨r, fv, a, b, c⟩ := h3 i x hxi
    rw [runOf_eq a b]
    unfold runAt
    rw [ho i x hxi]
    rcases x with _ | ys
    · exact c.1.symm
    · exact c.1.symm
  · obtain ⟨x, hxi⟩ := hx i hi
    obtain ⟨r, fv, a, b, c⟩ := h3 i x hxi
    rw [runOf_eq a b]
    rcases x with _ | ys
    · unfold runAt at hr; rw [ho i _ hxi] at hr; cases hr
    · obtain ⟨_, bb, vv, e1, _, e3, e4, e5⟩ := c
      refine ⟨_, _, e1, eg48, fun ch W' hb => ?_⟩
      have ht : takeAt (xs.map opt9) i ch = matchO (ys.map opt8) ch.1.data.toList := by unfold takeAt; rw [ho i _ hxi]; rfl
      rw [ht]
      exact nameTakes_any ch ys bb vv P W' ((hb.cell (p := ⟨bb, 0, none⟩) e3).trans e4) (e5.kept hb.size (fun b _ hl => hb.block b hl) (fun _ h _ => h)) (hm _ (List.mem_of_getElem? hxi))
end Go.Proofs.YtoihhlkidlapmaaGreat

namespace Go.Proofs.YtoihhlkidlapmaaGreat
open Go.RowKit Go.Shelf
attribute [local go_sem] Oper.semAt_some
def CellsAt (W : World) (b : Nat) : Prop := ∃ o : Obj, W.heap[b]? = some o ∧ o.isCells = true
theorem cellsAt_of_cell {W : World} {b : Nat} {v : Value} (h : W.cell? ⟨b, 0, none⟩ = some v) : CellsAt W b := by
  unfold World.cell? at h
  cases hh : W.heap[b]? with
  | none => simp [hh] at h
  | some o =>
    refine ⟨o, hh, ?_⟩
    cases o <;> first | rfl | (simp [hh] at h)
theorem WantIs.cells {W : World} {P : Nat → Prop} {x : W8} {run : Bool} {fv : Value} (h : WantIs W P x run fv) : WantIs W (fun b => P b ∧ CellsAt W b) x run fv := by
  rcases x with _ | _ | c | ⟨inner, others⟩
  · exact h
  · exact h
  · obtain ⟨h0, b, h1, h2, h3, h4⟩ := h
    exact ⟨h0, b, h1, ⟨h2, cellsAt_of_cell h4⟩, h3, h4⟩
  · obtain ⟨h0, b, d, h1, ⟨h2, h3, h4⟩, h5, h6, h7⟩ := h
    exact ⟨h0, b, d, h1, ⟨⟨h2, cellsAt_of_cell h4⟩, h3, h4⟩, ⟨h5, cellsAt_of_cell h7⟩, h6, h7⟩
theorem WantsP.cells {W : World} {P : Nat → Prop} {v : Value} {xs : List W8} (h : WantsP W P v xs) : WantsP W (fun b => P b ∧ CellsAt W b) v xs := by
  obtain ⟨base, cells, h1, h2, h3⟩ := h
  refine ⟨base, cells, h1, fun g e => ⟨h2 g e, ?_⟩, fun i x hi => ?_⟩
  · rcases h1.2 with ⟨rfl, _⟩ | ⟨g', cap, cur, rfl, _, hg, _⟩
    · cases e
    · cases e; exact ⟨_, hg, rfl⟩
  · obtain ⟨run, fv, g1, g2, g3⟩ := h3 i x hi
    exact ⟨run, fv, g1, g2, g3.cells⟩
theorem NameIs.cells {W : World} {P : Nat → Prop} {x : W9} {run : Bool} {fv : Value} (h : NameIs W P x run fv) : NameIs W (fun b => P b ∧ CellsAt W b) x run fv := by
  rcases x with _ | xs
  · exact h
  · obtain ⟨h0, b, v, h1, h2, h3, h4, h5⟩ := h
    exact ⟨h0, b, v, h1, ⟨h2, cellsAt_of_cell h4⟩, h3, h4, h5.cells⟩
def PB (N : Nat) (v : Value) (W : World) (b : Nat) : Prop := (N ≤ b ∧ v.ownBlock ≠ some b) ∧ CellsAt W b
def NamesIn (W : World) (N : Nat) (v : Value) (cells : List Value) (xs : List W9) : Prop :=
  ∀ (i : Nat) (x : W9), xs[i]? = some x → ∃ run fv, cells[2 * i]? = some (.bool run) ∧ cells[2 * i + 1]? = some fv ∧ NameIs W (PB N v W) x run fv
theorem NamesIn.own {A B : World} {N : Nat} {v : Value} {cells : List Value} {xs : List W9} (h : NamesIn A N v cells xs) {r : Option Nat} (hg : A.grownBy B r) (hr : ∀ x, r = some x → ∃ o : Obj, A.heap[x]? = some o ∧ o.isCells = false) : NamesIn B N v cells xs := by
  intro i x hi
  obtain ⟨run, fv, a, b, c⟩ := h i x hi
  have same : ∀ k, CellsAt A k → k < A.heap.size → B.heap[k]? = A.heap[k]? := fun k hk hl => hg.block k hl (fun e => by
    obtain ⟨o, h1, h2⟩ := hk
    obtain ⟨o', h3, h4⟩ := hr k e.symm
    rw [h1] at h3; cases h3; rw [h2] at h4; cases h4)
  exact ⟨run, fv, a, b, c.kept hg.size (fun k hk hl => same k hk.2 hl) (fun k hk hl => ⟨hk.1, by obtain ⟨o, h1, h2⟩ := hk.2; exact ⟨o, (same k hk.2 hl).trans h1, h2⟩⟩)⟩
theorem NamesIn.below {A B : World} {N : Nat} {v : Value} {cells : List Value} {xs : List W9} (h : NamesIn A N v cells xs) (hb : Below A.heap.size A B) : NamesIn B N v cells xs := by
  intro i x hi
  obtain ⟨run, fv, a, b, c⟩ := h i x hi
  exact ⟨run, fv, a, b, c.kept hb.size (fun k _ hl => hb.block k hl) (fun k hk hl => ⟨hk.1, by obtain ⟨o, h1, h2⟩ := hk.2; exact ⟨o, (hb.block k hl).trans h1, h2⟩⟩)⟩
theorem NamesIn.set {A : World} {N : Nat} {v : Value} {cells : List Value} {xs : List W9} (h : NamesIn A N v cells xs) (a : Addr) (ha : a.block < N) (u : Value) : NamesIn (A.setCell a u) N v cells xs := by
  intro i x hi
  obtain ⟨run, fv, p, q, c⟩ := h i x hi
  have same : ∀ k, N ≤ k → (A.setCell a u).heap[k]? = A.heap[k]? := fun k hk => Below.heap_setCell A a u k (by omega)
  exact ⟨run, fv, p, q, c.kept (by simp) (fun k hk _ => same k hk.1.1) (fun k hk _ => ⟨hk.1, by obtain ⟨o, h1, h2⟩ := hk.2; exact ⟨o, (same k hk.1.1).trans h1, h2⟩⟩)⟩
theorem NamesIn.p {W : World} {N base : Nat} {v : Value} {cells : List Value} {xs : List W9} (h : NamesIn W N v cells xs) (hr : W.ownsRow base 197 2 v xs.length cells) (hb : base ≤ N) : NamesP W (fun b => base ≤ b) v xs := by
  refine ⟨base, cells, hr, fun g e => (hr.lt g e).1, fun i x hi => ?_⟩
  obtain ⟨run, fv, a, b, c⟩ := h i x hi
  exact ⟨run, fv, a, b, c.kept (Nat.le_refl _) (fun _ _ _ => rfl) (fun k hk _ => Nat.le_trans hb hk.1.1)⟩
end Go.Proofs.YtoihhlkidlapmaaGreat

namespace Go.Proofs.YtoihhlkidlapmaaGreat
open Go.RowKit Go.Shelf
def isNot (s : ByteArray) : Bool := decide (s.data.toList[1]? = some 33)
def inC (s : ByteArray) (c : UInt8) : Bool := ((s.data.toList.take (s.size - 1)).drop (clsFrom s.data.toList)).contains c
theorem inC_yes {s : ByteArray} {c : UInt8} (k : Nat) (h1 : clsFrom s.data.toList ≤ k) (h2 : k < s.size - 1) (h3 : s.data.toList[k]? = some c) : inC s c = true := by
  unfold inC
  rw [List.contains_iff_mem, List.mem_iff_getElem?]
  exact ⟨k - clsFrom s.data.toList, by rw [List.getElem?_drop, List.getElem?_take, show clsFrom s.data.toList + (k - clsFrom s.data.toList) = k by omega, if_pos h2, h3]⟩
theorem inC_no {s : ByteArray} {c : UInt8} (h : ∀ k, clsFrom s.data.toList ≤ k → k < s.size - 1 → s.data.toList[k]? ≠ some c) : inC s c = false := by
  unfold inC
  rw [Bool.eq_false_iff]
  intro e
  rw [List.contains_iff_mem, List.mem_iff_getElem?] at e
  obtain ⟨m, hm⟩ := e
  rw [List.getElem?_drop, List.getElem?_take] at hm
  split at hm
  · rename_i hlt; exact h _ (Nat.le_add_right _ m) hlt hm
  · cases hm
set_option maxRecDepth 100000 in
set_option maxHeartbeats 2000000 in
theorem l1Of_any (s : ByteArray) (c : UInt8) (hs : s.size ≤ 1048576) (h3 : 3 ≤ s.size) (w : World) :
    Calls Tryz.prog 274 #[.string s, .int .u8 c.toNat] w fun e w' => e = .returned (.bool (inC s c != isNot s)) ∧ w' = w := by
  have g1 : s.data.toList[1]? = some s[1] := get_some (by omega)
  by_cases e1 : s[1] = 33
  · have b1 : (((s[1]).toNat : Int) == 33) = true := by rw [e1]; rfl
    have hd := hid (show isNot s = true by unfold isNot; rw [g1, e1]; rfl)
    have hf := hid (show clsFrom s.data.toList = 2 by unfold clsFrom; rw [g1, e1]; rfl)
    clear g1 e1
    go_enter Tryz.func274, Tryz.ntmps274
    go_wp2_with fail
    go_loop [6] (fun i => ∃ k : Nat, 1 ≤ k ∧ k ≤ s.size - 1 ∧ i = .int .i64 k ∧ Hid (∀ j, clsFrom s.data.toList ≤ j → j < k → s.data.toList[j]? ≠ some c)) (fun i => s.size - (intOf i).toNat)
    case atStart => exact ⟨1, by omega, by omega, rfl, hid (fun j a b => by rw [unhid hf] at a; omega)⟩
    case round =>
      obtain ⟨k, hk1, hk, rfl, hno⟩ := hrel
      by_cases hlt : k < s.size - 1
      · have hlt' : (k : Int) < (s.size : Int) - 1 := by omega
        have hks : k < s.size := by omega
        by_cases e2 : s[k] = c
        · have b2 : (((s[k]).toNat : Int) == (c.toNat : Int)) = true := by rw [e2]; simp
          by_cases hk2 : 1 < k
          · have E := hid (show inC s c = true from inC_yes k (by rw [unhid hf]; omega) hlt (by rw [get_some hks, e2]))
            clear e2
            go_wp2_with fail
            go_ret
            exact ⟨by rw [unhid E, unhid hd]; rfl, rfl⟩
          · have hk0 : k = 1 := by omega
            subst hk0
            clear e2
            go_wp2_with fail
            go_round
            case rel => exact ⟨2, by omega, by omega, rfl, hid (fun j a b => by rw [unhid hf] at a; omega)⟩
            case measure => simp [intOf]; omega
        · have b2 : (((s[k]).toNat : Int) == (c.toNat : Int)) = false := eq_no rfl e2
          have hno2 := hid (show ∀ j, clsFrom s.data.toList ≤ j → j < k + 1 → s.data.toList[j]? ≠ some c from fun j a b => by
            by_cases e : j = k
            · subst e; rw [get_some hks]; simpa using e2
            · exact unhid hno j a (by omega))
          clear e2
          go_wp2_with fail
          go_round
          case rel => exact ⟨k + 1, by omega, by omega, by go_num, hno2⟩
          case measure => simp [intOf]; omega
      · have E := hid (show inC s c = false from inC_no (fun j a b => unhid hno j a (by omega)))
        have hlt' : ¬ (k : Int) < (s.size : Int) - 1 := by omega
        go_wp2_with fail
        go_ret
        exact ⟨by rw [unhid E, unhid hd]; rfl, rfl⟩
  · have b1 := eq_no (n := 33) rfl e1
    have hd := hid (show isNot s = false by unfold isNot; rw [g1]; simpa using e1)
    have hf := hid (show clsFrom s.data.toList = 1 by unfold clsFrom; rw [g1, if_neg (by simpa using e1)])
    clear g1 e1
    go_enter Tryz.func274, Tryz.ntmps274
    go_wp2_with fail
    go_loop [6] (fun i => ∃ k : Nat, 1 ≤ k ∧ k ≤ s.size - 1 ∧ i = .int .i64 k ∧ Hid (∀ j, clsFrom s.data.toList ≤ j → j < k → s.data.toList[j]? ≠ some c)) (fun i => s.size - (intOf i).toNat)
    case atStart => exact ⟨1, by omega, by omega, rfl, hid (fun j a b => by rw [unhid hf] at a; omega)⟩
    case round =>
      obtain ⟨k, hk1, hk, rfl, hno⟩ := hrel
      by_cases hlt : k < s.size - 1
      · have hlt' : (k : Int) < (s.size : Int) - 1 := by omega
        have hks : k < s.size := by omega
        by_cases e2 : s[k] = c
        · have b2 : (((s[k]).toNat : Int) == (c.toNat : Int)) = true := by rw [e2]; simp
          have E := hid (show inC s c = true from inC_yes k (by rw [unhid hf]; omega) hlt (by rw [get_some hks, e2]))
          clear e2
          by_cases hk2 : (1 : Int) < k
          all_goals
            go_wp2_with fail
            go_ret
            exact ⟨by rw [unhid E, unhid hd]; rfl, rfl⟩
        · have b2 : (((s[k]).toNat : Int) == (c.toNat : Int)) = false := eq_no rfl e2
          have hno2 := hid (show ∀ j, clsFrom s.data.toList ≤ j → j < k + 1 → s.data.toList[j]? ≠ some c from fun j a b => by
            by_cases e : j = k
            · subst e; rw [get_some hks]; simpa using e2
            · exact unhid hno j a (by omega))
          clear e2
          go_wp2_with fail
          go_round
          case rel => exact ⟨k + 1, by omega, by omega, by go_num, hno2⟩
          case measure => simp [intOf]; omega
      · have E := hid (show inC s c = false from inC_no (fun j a b => unhid hno j a (by omega)))
        have hlt' : ¬ (k : Int) < (s.size : Int) - 1 := by omega
        go_wp2_with fail
        go_ret
        exact ⟨by rw [unhid E, unhid hd]; rfl, rfl⟩
theorem class_takes {g : ByteArray} {x : W8} {n : Nat} (h0 : g.data.toList[0]? = some 91) (h : classR g = some (x, n)) (c : UInt8) : (inC (g.extract 0 n) c != isNot (g.extract 0 n)) = takesB x c ∧ 3 ≤ (g.extract 0 n).size ∧ n ≤ g.size := by
  obtain ⟨i, hi, hf, h93, hall⟩ := class_of h0 h
  have hs := class_some h0 hf h93 hall
  rw [hs] at h
  cases h
  have hil : i < g.data.toList.length := (List.getElem?_eq_some_iff.1 h93).1
  have h1i : 1 < i := by unfold clsFrom at hf; split at hf <;> omega
  have hz : (g.extract 0 (i + 1)).size = i + 1 := by rw [ByteArray.size_extract, Lib.size_eq]; omega
  have hd : (g.extract 0 (i + 1)).data.toList = g.data.toList.take (i + 1) := by rw [Lib.extract_data]; simp
  have h1 : (g.extract 0 (i + 1)).data.toList[1]? = g.data.toList[1]? := by rw [hd, List.getElem?_take, if_pos (by omega)]
  have hn : isNot (g.extract 0 (i + 1)) = hasA (g.extract 1 i) bang := by rw [mid_bang h1i]; unfold isNot; rw [h1]
  have hc : clsFrom (g.extract 0 (i + 1)).data.toList = clsFrom g.data.toList := by unfold clsFrom; rw [h1]
  refine ⟨?_, by rw [hz]; omega, by rw [Lib.size_eq]; omega⟩
  rw [hn]
  show _ = ((clsA g i).data.toList.contains c != hasA (g.extract 1 i) bang)
  rw [cls_data h1i]
  unfold inC
  rw [hc, hz, hd, List.take_take]
  simp
theorem wants_cons {g : ByteArray} {xs : List W8} (h0 : 0 < g.size) (h : wants g = some xs) : ∃ x n ys, firstR g g[0] = some (x, n) ∧ wants (g.extract n g.size) = some ys ∧ xs = x :: ys := by
  cases hf : firstR g g[0] with
  | none => rw [wants_none h0 hf] at h; cases h
  | some p =>
    obtain ⟨x, n⟩ := p
    rw [wants_some h0 hf] at h
    cases hw : wants (g.extract n g.size) with
    | none => rw [hw] at h; cases h
    | some ys => rw [hw] at h; cases h; exact ⟨x, n, ys, rfl, hw, rfl⟩
theorem empty_false {s : ByteArray} (h : 0 < s.size) : s.toList.isEmpty = false := by
  rw [Lib.toList_data, List.isEmpty_eq_false_iff, ← List.length_pos_iff, ← Lib.size_eq]; exact h
theorem empty_true {s : ByteArray} (h : s.size = 0) : s.toList.isEmpty = true := by
  rw [Lib.toList_data, List.isEmpty_iff, ← List.length_eq_zero_iff, ← Lib.size_eq]; exact h
theorem head_tail {s : ByteArray} (h : 0 < s.size) : s.data.toList = s[0] :: (s.extract 1 s.size).data.toList := by
  rw [tail_data]
  have := get_some h
  cases hl : s.data.toList with
  | nil => rw [hl] at this; cases this
  | cons c t => rw [hl] at this; simp at this; subst this; rfl
def fitB (xs : List W8) (s : ByteArray) : Bool := matchO (xs.map opt8) s.data.toList
theorem fit_nil (s : ByteArray) : fitB [] s = s.toList.isEmpty := by rw [Lib.toList_data]; rfl
theorem fit_star_nil {xs : List W8} {s : ByteArray} (h : s.size = 0) : fitB (.star :: xs) s = fitB xs s := by
  have : s.data.toList = [] := by rw [← List.length_eq_zero_iff, ← Lib.size_eq]; exact h
  unfold fitB; rw [this]; rfl
theorem fit_star {xs : List W8} {s : ByteArray} (h : 0 < s.size) : fitB (.star :: xs) s = (fitB xs s || fitB (.star :: xs) (s.extract 1 s.size)) := by
  unfold fitB; rw [head_tail h]; rfl
theorem fit_no {x : W8} {xs : List W8} {s : ByteArray} (hx : x ≠ .star) (h : s.size = 0) : fitB (x :: xs) s = false := by
  have : s.data.toList = [] := by rw [← List.length_eq_zero_iff, ← Lib.size_eq]; exact h
  unfold fitB; rw [this]
  cases x <;> first | exact absurd rfl hx | rfl
theorem fit_one {x : W8} {xs : List W8} {s : ByteArray} (hx : x ≠ .star) (h : 0 < s.size) : fitB (x :: xs) s = (takesB x s[0] && fitB xs (s.extract 1 s.size)) := by
  unfold fitB; rw [head_tail h]
  cases x <;> first | exact absurd rfl hx | rfl
set_option maxRecDepth 100000 in
set_option maxHeartbeats 4000000 in
theorem l1Fits_any (m : Nat) : ∀ (g s : ByteArray) (xs : List W8) (w : World), g.size + s.size ≤ m → g.size ≤ 1048576 → s.size ≤ 1048576 → wants g = some xs →
    Calls Tryz.prog 238 #[.string g, .string s] w fun e w' => e = .returned (.bool (fitB xs s)) ∧ ∃ n, w' = w.drewN n := by
  induction m with
  | zero =>
    intro g s xs w hm hg hs hw
    have hg0 : g.size = 0 := by omega
    rw [wants_nil hg0] at hw
    cases hw
    have he := empty_true hg0
    have E := hid (fit_nil s)
    go_enter Tryz.func238, Tryz.ntmps238
    go_wp2_with fail
    go_ret
    exact ⟨by rw [unhid E]; rfl, 0, rfl⟩
  | succ m ih =>
    intro g s xs w hm hg hs hw
    have IH := hid ih
    clear ih
    by_cases hg0 : g.size = 0
    · rw [wants_nil hg0] at hw
      cases hw
      have he := empty_true hg0
      have E := hid (fit_nil s)
      go_enter Tryz.func238, Tryz.ntmps238
      go_wp2_with fail
      go_ret
      exact ⟨by rw [unhid E]; rfl, 0, rfl⟩
    have hgp : 0 < g.size := by omega
    have he := empty_false hgp
    obtain ⟨x, n, ys, hf, hy, rfl⟩ := wants_cons hgp hw
    have hn := firstR_le hgp hf
    have hnd := hid hf
    have HY := hid hy
    have hz : (g.extract n g.size).size = g.size - n := tail_size g n
    clear hf hy hw
    by_cases e1 : g[0] = 42
    · have b1 : (((g[0]).toNat : Int) == 42) = true := by rw [e1]; rfl
      have hx : x = .star ∧ n = 1 := by have := unhid hnd; rw [e1] at this; cases this; exact ⟨rfl, rfl⟩
      obtain ⟨rfl, rfl⟩ := hx
      clear e1
      have hg1 : (1 : Int) ≤ g.size := by omega
      cases h1 : fitB ys s
      · by_cases hs0 : s.size = 0
        · have hes := empty_true hs0
          have E := hid (fit_star_nil (xs := ys) hs0)
          go_enter Tryz.func238, Tryz.ntmps238
          go_wp2_with (go_at_call 238; refine (unhid IH _ _ _ _ (by rw [hz]; omega) (by rw [hz]; omega) hs (unhid HY)).mono ?_; rintro e w' ⟨rfl, nq, rfl⟩; rw [h1])
          go_ret
          exact ⟨by rw [unhid E, h1]; rfl, _, rfl⟩
        · have hsp : 0 < s.size := by omega
          have hes := empty_false hsp
          have hs1 : (1 : Int) ≤ s.size := by omega
          have hzs : (s.extract 1 s.size).size = s.size - 1 := tail_size s 1
          have E := hid (fit_star (xs := ys) hsp)
          have Hw := hid (show wants g = some (.star :: ys) by rw [wants_some hgp (unhid hnd), unhid HY]; rfl)
          go_enter Tryz.func238, Tryz.ntmps238
          go_wp2_with fail
          refine (unhid IH _ _ _ _ (by rw [hz]; omega) (by rw [hz]; omega) hs (unhid HY)).mono ?_
          rintro e w' ⟨rfl, nq, rfl⟩
          rw [h1]
          go_wp2_with fail
          refine (unhid IH _ _ _ _ (by rw [hzs]; omega) hg (by rw [hzs]; omega) (unhid Hw)).mono ?_
          rintro e w' ⟨rfl, nq2, rfl⟩
          go_wp2_with fail
          go_ret
          exact ⟨by rw [unhid E, h1]; rfl, nq + nq2, rfl⟩
      · have E := hid (show fitB (.star :: ys) s = true by
          by_cases hs0 : s.size = 0
          · rw [fit_star_nil hs0, h1]
          · rw [fit_star (by omega), h1]; rfl)
        go_enter Tryz.func238, Tryz.ntmps238
        go_wp2_with (go_at_call 238; refine (unhid IH _ _ _ _ (by rw [hz]; omega) (by rw [hz]; omega) hs (unhid HY)).mono ?_; rintro e w' ⟨rfl, nq, rfl⟩; rw [h1])
        go_ret
        exact ⟨by rw [unhid E]; rfl, _, rfl⟩
    have b1 := eq_no (n := 42) rfl e1
    have hx : x ≠ .star := by
      intro e
      have := unhid hnd
      subst e
      unfold firstR at this
      rw [if_neg e1] at this
      split at this
      · cases this
      · split at this
        · obtain ⟨i, _, hf, h93, hall⟩ := class_of (by rw [get_some hgp]; simp_all) this
          rw [class_some (by rw [get_some hgp]; simp_all) hf h93 hall] at this
          cases this
        · split at this <;> cases this
    by_cases hs0 : s.size = 0
    · have hes := empty_true hs0
      have E := hid (fit_no (xs := ys) hx hs0)
      clear e1 hx
      go_enter Tryz.func238, Tryz.ntmps238
      go_wp2_with fail
      go_ret
      exact ⟨by rw [unhid E]; rfl, 0, rfl⟩
    have hsp : 0 < s.size := by omega
    have hes := empty_false hsp
    have hs1 : (1 : Int) ≤ s.size := by omega
    have hg1 : (1 : Int) ≤ g.size := by omega
    have hzs : (s.extract 1 s.size).size = s.size - 1 := tail_size s 1
    have E := hid (fit_one (xs := ys) hx hsp)
    clear hx
    by_cases e2 : g[0] = 63
    · have b2 : (((g[0]).toNat : Int) == 63) = true := by rw [e2]; rfl
      have hx : x = .any ∧ n = 1 := by have := unhid hnd; rw [e2] at this; cases this; exact ⟨rfl, rfl⟩
      obtain ⟨rfl, rfl⟩ := hx
      clear e1 e2
      go_enter Tryz.func238, Tryz.ntmps238
      go_wp2_with fail
      go_quiet ((go_at_call 238; exact Calls.quiet_of (unhid IH _ _ _ _ (by rw [hz, hzs]; omega) (by rw [hz]; omega) (by rw [hzs]; omega) (unhid HY))))
      go_wp2_with fail
      go_ret
      exact ⟨by rw [unhid E]; rfl, _, rfl⟩
    have b2 := eq_no (n := 63) rfl e2
    by_cases e3 : g[0] = 91
    · have b3 : (((g[0]).toNat : Int) == 91) = true := by rw [e3]; rfl
      have h91 : g.data.toList[0]? = some 91 := by rw [get_some hgp, e3]
      have hcl : classR g = some (x, n) := by have := unhid hnd; unfold firstR at this; rw [if_neg e1, if_neg e2, if_pos e3] at this; exact this
      obtain ⟨t1, t2, t3⟩ := class_takes h91 hcl s[0]
      have T1 := hid t1
      have hcn : classN g = n := by unfold classN; rw [hcl]
      have HCN := hid hcn
      have hni : (n : Int) ≤ g.size := by omega
      have hn0 : (0 : Int) ≤ n := by omega
      clear e1 e2 e3 t1 hcl hcn
      cases ht : takesB x s[0]
      · go_enter Tryz.func238, Tryz.ntmps238
        go_wp2_with fail
        refine (l1Class_any g hg h91 _).mono ?_
        rintro e w' ⟨rfl, rfl⟩
        rw [unhid HCN]
        go_wp2_with fail
        go_quiet ((go_at_call 274; refine Calls.quiet_of_same (v := .bool false) ((l1Of_any _ _ (by rw [ByteArray.size_extract]; omega) t2 _).mono ?_); rintro e w' ⟨rfl, rfl⟩; exact ⟨by rw [unhid T1, ht], rfl⟩))
        go_wp2_with fail
        go_ret
        exact ⟨by rw [unhid E, ht]; rfl, _, rfl⟩
      · go_enter Tryz.func238, Tryz.ntmps238
        go_wp2_with fail
        refine (l1Class_any g hg h91 _).mono ?_
        rintro e w' ⟨rfl, rfl⟩
        rw [unhid HCN]
        go_wp2_with fail
        go_quiet (first | (go_at_call 274; refine Calls.quiet_of_same (v := .bool true) ((l1Of_any _ _ (by rw [ByteArray.size_extract]; omega) t2 _).mono ?_); rintro e w' ⟨rfl, rfl⟩; exact ⟨by rw [unhid T1, ht], rfl⟩) | (go_at_call 238; exact Calls.quiet_of (unhid IH _ _ _ _ (by rw [hz, hzs]; omega) (by rw [hz]; omega) (by rw [hzs]; omega) (unhid HY))))
        go_wp2_with fail
        go_ret
        exact ⟨by rw [unhid E, ht]; rfl, _, rfl⟩
    have b3 := eq_no (n := 91) rfl e3
    have hx : x = .byte g[0] ∧ n = 1 := by
      have := unhid hnd
      unfold firstR at this
      rw [if_neg e1, if_neg e2, if_neg e3] at this
      split at this
      · cases this; exact ⟨rfl, rfl⟩
      · cases this
    obtain ⟨rfl, rfl⟩ := hx
    by_cases e4 : s[0] = g[0]
    · have b4 : (((g[0]).toNat : Int) == ((s[0]).toNat : Int)) = true := by rw [e4]; simp
      have ht := hid (show takesB (.byte g[0]) s[0] = true by rw [e4]; simp [takesB])
      clear e1 e2 e3 e4
      go_enter Tryz.func238, Tryz.ntmps238
      go_wp2_with fail
      go_quiet ((go_at_call 238; exact Calls.quiet_of (unhid IH _ _ _ _ (by rw [hz, hzs]; omega) (by rw [hz]; omega) (by rw [hzs]; omega) (unhid HY))))
      go_wp2_with fail
      go_ret
      exact ⟨by rw [unhid E, unhid ht]; rfl, _, rfl⟩
    · have b4 : (((g[0]).toNat : Int) == ((s[0]).toNat : Int)) = false := eq_no rfl (fun e => e4 e.symm)
      have ht := hid (show takesB (.byte g[0]) s[0] = false by simpa [takesB] using e4)
      clear e1 e2 e3 e4
      go_enter Tryz.func238, Tryz.ntmps238
      go_wp2_with fail
      go_quiet (fail)
      go_wp2_with fail
      go_ret
      exact ⟨by rw [unhid E, unhid ht]; rfl, _, rfl⟩
end Go.Proofs.YtoihhlkidlapmaaGreat
