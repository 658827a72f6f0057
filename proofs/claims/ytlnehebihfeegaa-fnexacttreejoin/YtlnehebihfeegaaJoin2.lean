/- Texts of this proof, one behind the other; each says at its head what it shows. -/
import Derived.Test.YtlnehebihfeegaaProg
import Derived.WalkKit
import Derived.Deep.QuietTactic
import Derived.BigQuiet
import Derived.Test.YtlnehebihfeegaaJoin1
import Derived.Maps.AppendAt
import Derived.Shelf.Spec.SlicesInsertGrow
/- A region that draws its order, whose operations read what lay below a bound and whose callees leave that as it was: walked once. -/
namespace Go.Proofs.Ytlnehebihfeegaa
open Go.RowKit

/-- A world in which what lay below a bound is as it was. -/
structure BW (B : Nat) (W : World) where
  w : World
  h : Below B W w
theorem BW.all {B : Nat} {W : World} {p : Prop} : (BW B W → p) ↔ p := ⟨fun h => h ⟨W, Below.refl _ _⟩, fun h _ => h⟩
theorem BW.cell {B : Nat} {W : World} {b o : Nat} {v : Value} (hb : b < B) (h : W.cell? ⟨b, o, none⟩ = some v) (x : BW B W) : x.w.cell? ⟨b, o, none⟩ = some v := (x.h.cell (p := ⟨b, o, none⟩) hb).trans h
theorem Calls.bw {P : Program} {f : FuncId} {args : Array Value} {v : Value} {B : Nat} {W : World} {x : BW B W} (hB : B ≤ W.heap.size) (h : Calls P f args x.w fun e w' => e = .returned v ∧ Below x.w.heap.size x.w w') :
    Calls P f args x.w fun e w'' => e = .returned v ∧ ∃ y : BW B W, w'' = y.w :=
  h.mono fun _ w' ⟨he, hb⟩ => ⟨he, ⟨w', x.h.trans (hb.mono (Nat.le_trans hB x.h.size))⟩, rfl⟩
theorem calm_region {P : Program} {id : Nat} {Q : Exit → Act → World → Prop} {a : Act} {w : World} {l : List Oper} (B : Nat) (hm : P.follows .mixedOrders = true) (hB : Region.lexB .any l.toArray = true)
    (h : wpQuiet P l.toArray (fun w' => ∃ x : BW B w, w' = x.w) (fun a' => ∀ w', (∃ x : BW B w, w' = x.w) → Q .normal a' w') l a) : (Code.region id l.toArray true).wp P Q a w :=
  wp_region_quiet (C := fun w' => ∃ x : BW B w, w' = x.w) hm hB ⟨⟨w.drew, ⟨rfl, rfl, rfl, Nat.le_refl _, fun _ _ => rfl⟩⟩, rfl⟩ (by simpa using h)

/-- A world of a class. -/
structure CW (C : World → Prop) where
  w : World
  h : C w
theorem CW.all {C : World → Prop} {W : World} (h : C W) {p : Prop} : (CW C → p) ↔ p := ⟨fun f => f ⟨W, h⟩, fun h _ => h⟩
theorem Calls.cw {P : Program} {f : FuncId} {args : Array Value} {v : Value} {C : World → Prop} {x : CW C} (h : Calls P f args x.w fun e w' => e = .returned v ∧ C w') :
    Calls P f args x.w fun e w'' => e = .returned v ∧ ∃ y : CW C, w'' = y.w :=
  h.mono fun _ w' ⟨he, hc⟩ => ⟨he, ⟨w', hc⟩, rfl⟩
theorem class_region {P : Program} {id : Nat} {Q : Exit → Act → World → Prop} {a : Act} {w : World} {l : List Oper} (C : World → Prop) (hC : C w.drew) (hm : P.follows .mixedOrders = true) (hB : Region.lexB .any l.toArray = true)
    (h : wpQuiet P l.toArray (fun w' => ∃ x : CW C, w' = x.w) (fun a' => ∀ w', (∃ x : CW C, w' = x.w) → Q .normal a' w') l a) : (Code.region id l.toArray true).wp P Q a w :=
  wp_region_quiet (C := fun w' => ∃ x : CW C, w' = x.w) hm hB ⟨⟨w.drew, hC⟩, rfl⟩ (by simpa using h)
end Go.Proofs.Ytlnehebihfeegaa

/- Whether a place is a dir of entries, by the model. -/
namespace Go.Proofs.Ytlnehebihfeegaa
open Go.RowKit Go.Shelf

def dirE (es : List Ent) (q : ByteArray) : Bool := q.toList.isEmpty || (thereE es q && (entFn es (placeE es q)).kind == 1)
def sortAt (es : List Ent) (i : Nat) : Bool := entB (entFn es i) && (i == 0 || ltS (entFn es (i - 1)).path (entFn es i).path)
def treeB (es : List Ent) : Bool := (List.range es.length).all (sortAt es) && (List.range es.length).all (fun i => dirE es (upS (entFn es i).path)) && decide (es.length ≤ 16)

theorem EntsAt.drewN {W : World} {a : Option Addr} {es : List Ent} (h : EntsAt W a es) (n : Nat) : EntsAt (W.drewN n) a es := h.below (drewN_below _ _)
set_option maxRecDepth 100000 in
set_option maxHeartbeats 2000000 in
theorem l2Dir_any (es : List Ent) (a : Option Addr) (cap : Nat) (q : ByteArray) (w : World) (hlen : es.length ≤ 1048576) (h : EntsAt w a es) :
    Calls Try.prog 59 #[.slice a es.length cap, .string q] w fun x w' => x = .returned (.bool (dirE es q)) ∧ ∃ n, w' = w.drewN n := by
  have HH := hid h
  cases he : q.toList.isEmpty
  · cases ht : thereE es q
    · have E := hid (show dirE es q = false by unfold dirE; rw [he, ht]; rfl)
      clear h
      go_enter Try.func59, Try.ntmps59
      go_wp2_with fail
      refine (l2At_any es a cap q _ hlen (unhid HH)).mono ?_
      rintro x w' ⟨rfl, n, rfl⟩
      rw [ht]
      go_wp2_with fail
      go_ret
      exact ⟨by rw [unhid E]; rfl, _, rfl⟩
    · obtain ⟨e, hek, heq⟩ : ∃ e, es[placeE es q]? = some e ∧ eqS e.path q = true := by
        unfold thereE at ht
        cases hx : es[placeE es q]? with
        | none => rw [hx] at ht; cases ht
        | some e => rw [hx] at ht; exact ⟨e, rfl, ht⟩
      have hkl : placeE es q < es.length := (List.getElem?_eq_some_iff.1 hek).1
      obtain ⟨b, o, rfl, hbl, hc⟩ := h.get (by intro e; subst e; simp at hkl)
      obtain ⟨c0, c1, c2, c3⟩ := hc _ e hek
      have E := hid (show dirE es q = (e.kind == 1) by unfold dirE; rw [he, ht, entFn_get hek]; rfl)
      clear hc hek heq h
      go_enter Try.func59, Try.ntmps59
      go_wp2_with fail
      refine (l2At_any es _ cap q _ hlen (unhid HH)).mono ?_
      rintro x w' ⟨rfl, n, rfl⟩
      rw [ht]
      go_wp2_with fail
      go_ret
      exact ⟨by rw [unhid E]; rfl, _, rfl⟩
  · have E := hid (show dirE es q = true by unfold dirE; rw [he]; rfl)
    clear h
    go_enter Try.func59, Try.ntmps59
    go_wp2_with fail
    refine (l2At_any es a cap q _ hlen (unhid HH)).mono ?_
    rintro x w' ⟨rfl, n, rfl⟩
    go_wp2_with fail
    go_ret
    exact ⟨by rw [unhid E]; rfl, _, rfl⟩

end Go.Proofs.Ytlnehebihfeegaa

/- Whether entries are a tree, by the model. -/
namespace Go.Proofs.Ytlnehebihfeegaa
open Go.RowKit Go.Shelf

def smallE (es : List Ent) : Prop := es.length ≤ 1048576 ∧ ∀ e ∈ es, e.path.size ≤ 1048576 ∧ e.text.size ≤ 1048576
theorem all_range_no {n k : Nat} {f : Nat → Bool} (hk : k < n) (h : f k = false) : (List.range n).all f = false := List.all_eq_false.2 ⟨k, List.mem_range.2 hk, by simp [h]⟩
theorem all_range_snoc {k : Nat} {f : Nat → Bool} (ha : (List.range k).all f = true) (h : f k = true) : (List.range (k + 1)).all f = true := by rw [List.range_succ, List.all_append, ha]; simp [h]

set_option maxRecDepth 100000 in
set_option maxHeartbeats 8000000 in
theorem specTreeOk_any (es : List Ent) (a : Option Addr) (cap : Nat) (w : World) (hs : smallE es) (h : EntsAt w a es) :
    Calls Try.prog 21 #[.slice a es.length cap] w fun x w' => x = .returned (.bool (treeB es)) ∧ Below w.heap.size w w' := by
  obtain ⟨hlen, hz⟩ := hs
  have HH := hid h
  have HZ := hid hz
  clear h hz
  go_enter Try.func21, Try.ntmps21
  go_wp2_with fail
  go_loopw [3] (fun i wr => ∃ k : Nat, k ≤ es.length ∧ i = .int .i64 k ∧ Hid ((List.range k).all (sortAt es) = true) ∧ Below w.heap.size w wr) (fun i _ => es.length - (intOf i).toNat)
  case atStart => exact ⟨0, Nat.zero_le _, rfl, hid rfl, Below.refl _ _⟩
  case round =>
    obtain ⟨k, hk, rfl, hall, hB⟩ := hrel
    by_cases hlt : k < es.length
    · obtain ⟨e, he⟩ : ∃ e, es[k]? = some e := ⟨es[k], List.getElem?_eq_getElem hlt⟩
      obtain ⟨b, o, rfl, hbl, hc⟩ := (unhid HH).get (by intro e; subst e; simp at hlt)
      obtain ⟨c0, c1, c2, c3⟩ := (hc k e he).below hB hbl
      obtain ⟨z1, z2⟩ := unhid HZ e (List.mem_of_getElem? he)
      have hf := entFn_get he
      have HB := hid hB
      have hbw := Nat.lt_of_lt_of_le hbl hB.size
      have g0 := BW.cell (B := wr.heap.size) hbw c0
      have g1 := BW.cell (B := wr.heap.size) hbw c1
      have g2 := BW.cell (B := wr.heap.size) hbw c2
      have g3 := BW.cell (B := wr.heap.size) hbw c3
      cases he1 : entB e
      · have hno : sortAt es k = false := by unfold sortAt; rw [hf, he1]; rfl
        have E := hid (show treeB es = false by unfold treeB; rw [all_range_no hlt hno]; rfl)
        clear hc he hf hno hB c0 c1 c2 c3
        go_wp2_with fail
        have hba := @BW.all wr.heap.size wr
        refine calm_region wr.heap.size (by kernel_rfl) (by kernel_rfl) ?_
        repeat (go_big_quiet_step ((go_at_call 58; refine Calls.bw (v := .bool false) (Nat.le_refl _) ((l2Entry_any e z1 z2 _).mono ?_); rintro r w2 ⟨rfl, hb⟩; exact ⟨by rw [he1], hb⟩)))
        refine wpQuiet_nil ?_
        intro _ hw
        obtain ⟨⟨w2, hB2⟩, hw⟩ := hw
        subst hw
        have HB2 := hid ((unhid HB).trans (hB2.mono (unhid HB).size))
        clear hB2 hba g0 g1 g2 g3
        go_wp2_with fail
        go_ret
        exact ⟨by rw [unhid E]; rfl, unhid HB2⟩
      · rcases k with _ | j
        · have hyes : sortAt es 0 = true := by unfold sortAt; rw [hf, he1]; rfl
          have HY := hid (all_range_snoc (unhid hall) hyes)
          simp only [Nat.zero_mul, Nat.add_zero] at g0 g1 g2 g3
          clear hc he hf hyes hB c0 c1 c2 c3
          go_wp2_with fail
          have hba := @BW.all wr.heap.size wr
          refine calm_region wr.heap.size (by kernel_rfl) (by kernel_rfl) ?_
          repeat (go_big_quiet_step ((go_at_call 58; refine Calls.bw (v := .bool true) (Nat.le_refl _) ((l2Entry_any e z1 z2 _).mono ?_); rintro r w2 ⟨rfl, hb⟩; exact ⟨by rw [he1], hb⟩)))
          refine wpQuiet_nil ?_
          intro _ hw
          obtain ⟨⟨w2, hB2⟩, hw⟩ := hw
          subst hw
          have HB2 := hid ((unhid HB).trans (hB2.mono (unhid HB).size))
          clear hB2 hba g0 g1 g2 g3
          go_wp2_with fail
          go_roundw
          case rel => exact ⟨1, by omega, rfl, HY, unhid HB2⟩
          case measure => simp [intOf]; omega
        · obtain ⟨e0, he0⟩ : ∃ e, es[j]? = some e := ⟨es[j], List.getElem?_eq_getElem (by omega)⟩
          have hf0 := entFn_get he0
          have d0 := ((hc j e0 he0).below hB hbl).c0
          have y0 := BW.cell (B := wr.heap.size) hbw d0
          have hk0' : (0 : Int) < (j : Int) + 1 := by omega
          cases hq : Op.bytesLess e0.path.toList e.path.toList
          · have hno : sortAt es (j + 1) = false := by unfold sortAt ltS; rw [hf, Nat.add_sub_cancel, hf0, he1, hq]; rfl
            have E := hid (show treeB es = false by unfold treeB; rw [all_range_no hlt hno]; rfl)
            clear hc he hf hno hB c0 c1 c2 c3 he0 hf0 d0
            go_wp2_with fail
            have hba := @BW.all wr.heap.size wr
            refine calm_region wr.heap.size (by kernel_rfl) (by kernel_rfl) ?_
            repeat (go_big_quiet_step ((go_at_call 58; refine Calls.bw (v := .bool true) (Nat.le_refl _) ((l2Entry_any e z1 z2 _).mono ?_); rintro r w2 ⟨rfl, hb⟩; exact ⟨by rw [he1], hb⟩)))
            refine wpQuiet_nil ?_
            intro _ hw
            obtain ⟨⟨w2, hB2⟩, hw⟩ := hw
            subst hw
            have HB2 := hid ((unhid HB).trans (hB2.mono (unhid HB).size))
            clear hB2 hba g0 g1 g2 g3
            go_wp2_with fail
            go_ret
            exact ⟨by rw [unhid E]; rfl, unhid HB2⟩
          · have hyes : sortAt es (j + 1) = true := by unfold sortAt ltS; rw [hf, Nat.add_sub_cancel, hf0, he1, hq]; rfl
            have HY := hid (all_range_snoc (unhid hall) hyes)
            clear hc he hf hyes hB c0 c1 c2 c3 he0 hf0 d0
            go_wp2_with fail
            have hba := @BW.all wr.heap.size wr
            refine calm_region wr.heap.size (by kernel_rfl) (by kernel_rfl) ?_
            repeat (go_big_quiet_step ((go_at_call 58; refine Calls.bw (v := .bool true) (Nat.le_refl _) ((l2Entry_any e z1 z2 _).mono ?_); rintro r w2 ⟨rfl, hb⟩; exact ⟨by rw [he1], hb⟩)))
            refine wpQuiet_nil ?_
            intro _ hw
            obtain ⟨⟨w2, hB2⟩, hw⟩ := hw
            subst hw
            have HB2 := hid ((unhid HB).trans (hB2.mono (unhid HB).size))
            clear hB2 hba g0 g1 g2 g3
            go_wp2_with fail
            go_roundw
            case rel => exact ⟨j + 1 + 1, by omega, by go_num, HY, unhid HB2⟩
            case measure => simp [intOf]; omega
    · have hke : k = es.length := by omega
      have HSO := hid (show (List.range es.length).all (sortAt es) = true by rw [← hke]; exact unhid hall)
      have HB := hid hB
      have hlt' : ¬ (k : Int) < es.length := by omega
      clear hall hke hB
      go_wp2_with fail
      go_loopw [4] (fun i wr => ∃ k : Nat, k ≤ es.length ∧ i = .int .i64 k ∧ Hid ((List.range k).all (fun i => dirE es (upS (entFn es i).path)) = true) ∧ Below w.heap.size w wr) (fun i _ => es.length - (intOf i).toNat)
      case atStart => exact ⟨0, Nat.zero_le _, rfl, hid rfl, unhid HB⟩
      case round =>
        obtain ⟨k, hk, rfl, hall, hB⟩ := hrel
        clear HB
        by_cases hlt : k < es.length
        · obtain ⟨e, he⟩ : ∃ e, es[k]? = some e := ⟨es[k], List.getElem?_eq_getElem hlt⟩
          have hAt := (unhid HH).below (W' := wr) ⟨hB.os, hB.tape, hB.output, hB.size, hB.block⟩
          obtain ⟨b, o, rfl, hbl, hc⟩ := (unhid HH).get (by intro e; subst e; simp at hlt)
          obtain ⟨c0, c1, c2, c3⟩ := (hc k e he).below hB hbl
          obtain ⟨z1, z2⟩ := unhid HZ e (List.mem_of_getElem? he)
          have zm : e.path.size ≤ maxLen := by unfold maxLen; omega
          have HF := hid (entFn_get he)
          have HB := hid hB
          have HA := hid hAt
          clear hc he hB hAt
          cases hd : dirE es (upS e.path)
          · have E := hid (show treeB es = false by unfold treeB; rw [all_range_no (f := fun i => dirE es (upS (entFn es i).path)) hlt (by rw [unhid HF]; exact hd)]; simp)
            go_wp2_with (first | (go_at_call 60; refine (l1Up_any _ zm _).mono ?_; rintro r w2 ⟨rfl, rfl⟩) | (go_at_call 59; refine (l2Dir_any es _ cap _ _ hlen (unhid HA)).mono ?_; rintro r w2 ⟨rfl, n, rfl⟩; rw [hd]))
            go_ret
            exact ⟨by rw [unhid E]; rfl, (unhid HB).trans (drewN_below _ _)⟩
          · go_wp2_with (first | (go_at_call 60; refine (l1Up_any _ zm _).mono ?_; rintro r w2 ⟨rfl, rfl⟩) | (go_at_call 59; refine (l2Dir_any es _ cap _ _ hlen (unhid HA)).mono ?_; rintro r w2 ⟨rfl, n, rfl⟩; rw [hd]))
            go_roundw
            case rel => exact ⟨k + 1, by omega, by go_num, hid (all_range_snoc (unhid hall) (by rw [unhid HF]; exact hd)), (unhid HB).trans (drewN_below _ _)⟩
            case measure => simp [intOf]; omega
        · have hke : k = es.length := by omega
          have E := hid (show treeB es = decide ((es.length : Int) ≤ 16) by
            unfold treeB
            rw [unhid HSO, show (List.range es.length).all (fun i => dirE es (upS (entFn es i).path)) = true by rw [← hke]; exact unhid hall]
            exact decide_eq_decide.2 (by omega))
          have hlt' : ¬ (k : Int) < es.length := by omega
          clear hke
          go_wp2_with fail
          go_ret
          exact ⟨by rw [unhid E]; rfl, hB⟩
end Go.Proofs.Ytlnehebihfeegaa

/- What an entry is kept as: a value of an interface with a type for each kind. -/
namespace Go.Proofs.Ytlnehebihfeegaa
open Go.RowKit Go.Shelf

theorem isLineByte_any (c : Int) (w : World) :
    Calls Try.prog 170 #[.int .u8 c] w fun e w' => e = .returned (.bool (decide (32 ≤ c) && decide (c ≤ 126))) ∧ w' = w := by
  by_cases h1 : 32 ≤ c <;> by_cases h2 : c ≤ 126 <;>
  · go_enter Try.func170, Try.ntmps170
    go_wp2
    go_ret
    exact ⟨by simp [h1, h2], rfl⟩
theorem isTextByte_any (c : Int) (w : World) :
    Calls Try.prog 169 #[.int .u8 c] w fun e w' => e = .returned (.bool (txtB c)) ∧ w' = w := by
  cases h1 : (decide (32 ≤ c) && decide (c ≤ 126)) <;> cases h2 : (c == 10) <;>
  · have E := hid (show txtB c = ((c == 10) || (decide (32 ≤ c) && decide (c ≤ 126))) from rfl)
    go_enter Try.func169, Try.ntmps169
    go_wp2_with (go_at_call 170; refine (isLineByte_any _ _).mono ?_; rintro e w' ⟨rfl, rfl⟩; rw [h1])
    go_ret
    exact ⟨by rw [unhid E, h1, h2]; rfl, rfl⟩
theorem egText : ∀ args w, (callFunc 169 args).run Try.prog w = .ok (.enter 169 args) w := enters_of Try.func169 (by kernel_rfl) rfl
set_option maxRecDepth 100000 in
theorem textOk_any (s : ByteArray) (hs : s.size ≤ maxLen) (w : World) :
    Calls Try.prog 168 #[.string s] w fun e w' => e = .returned (.bool (textB s.data.toList)) ∧ Below w.heap.size w w' := by
  have hs' : s.size ≤ 9223372036854775807 := hs
  by_cases h : (s.size : Int) ≤ 80
  · have E := hid (show (s.data.toList.all fun c => txtB c.toNat) = textB s.data.toList by unfold textB; rw [← Lib.size_eq, decide_eq_true (by omega)]; rfl)
    go_enter Try.func168, Try.ntmps168
    go_wp2_with fail
    refine (allBytes_any 169 txtB egText isTextByte_any s hs _).mono ?_
    rintro e w2 ⟨rfl, hb⟩
    rw [unhid E]
    go_wp2_with fail
    go_ret
    exact ⟨rfl, hb⟩
  · have E := hid (show textB s.data.toList = false by unfold textB; rw [← Lib.size_eq, decide_eq_false (by omega)]; rfl)
    have h' : decide ((s.size : Int) ≤ 80) = false := decide_eq_false h
    go_enter Try.func168, Try.ntmps168
    go_wp2_with fail
    go_ret
    exact ⟨by rw [unhid E]; rfl, Below.refl _ _⟩
theorem modeOk_any (m : Int) (w : World) : Calls Try.prog 166 #[.int .i64 m] w fun e w' => e = .returned (.bool (modeB m)) ∧ w' = w := by
  have E := hid (show modeB m = (decide (0 ≤ m) && decide (m ≤ 7)) from rfl)
  by_cases h1 : 0 ≤ m <;> by_cases h2 : m ≤ 7 <;>
  · go_enter Try.func166, Try.ntmps166
    go_wp2
    go_ret
    exact ⟨by rw [unhid E]; simp [h1, h2], rfl⟩

theorem dirFine_any (m : Int) (w : World) : Calls Try.prog 165 #[.agg #[.int .i64 m]] w fun e w' => e = .returned (.bool (modeB m)) ∧ Below w.heap.size w w' := by
  go_enter Try.func165, Try.ntmps165
  go_wp2_with (go_at_call 166; refine (modeOk_any _ _).mono ?_; rintro e w' ⟨rfl, rfl⟩)
  go_ret
  exact ⟨rfl, (Below.refl _ _).alloc (Nat.le_refl _) _⟩
theorem linkFine_any (t : ByteArray) (ht : t.size ≤ maxLen) (w : World) : Calls Try.prog 164 #[.agg #[.string t]] w fun e w' => e = .returned (.bool (pathB t.data.toList)) ∧ Below w.heap.size w w' := by
  go_enter Try.func164, Try.ntmps164
  go_wp2_with fail
  refine (PathOk_any t ht _).mono ?_
  rintro e w2 ⟨rfl, hb⟩
  go_wp2_with fail
  go_ret
  exact ⟨rfl, ((Below.refl _ _).alloc (Nat.le_refl _) _).trans (hb.mono (by simp))⟩
set_option maxRecDepth 100000 in
theorem fileFine_any (m : Int) (t : ByteArray) (ht : t.size ≤ maxLen) (w : World) : Calls Try.prog 167 #[.agg #[.int .i64 m, .string t]] w fun e w' => e = .returned (.bool (modeB m && textB t.data.toList)) ∧ Below w.heap.size w w' := by
  cases hm : modeB m
  · go_enter Try.func167, Try.ntmps167
    go_wp2_with (go_at_call 166; refine (modeOk_any _ _).mono ?_; rintro e w' ⟨rfl, rfl⟩; rw [hm])
    go_ret
    exact ⟨rfl, (Below.refl _ _).alloc (Nat.le_refl _) _⟩
  · go_enter Try.func167, Try.ntmps167
    go_wp2_with (go_at_call 166; refine (modeOk_any _ _).mono ?_; rintro e w' ⟨rfl, rfl⟩; rw [hm])
    refine (textOk_any t ht _).mono ?_
    rintro e w2 ⟨rfl, hb⟩
    go_wp2_with fail
    go_ret
    exact ⟨rfl, ((Below.refl _ _).alloc (Nat.le_refl _) _).trans (hb.mono (by simp))⟩

theorem upon_run {P : Program} {o : Oper} {a : Act} {K : Act → World → Prop} {E : Exit → Act → World → Prop} {α : Type} {x y : Result α} {f : α → World → Result Next} (h : x = y) (g : Oper.upon P o a K E (y.andThen f)) : Oper.upon P o a K E (x.andThen f) := h ▸ g

def nodeV (e : Ent) : Value := if e.kind = 1 then .iface 105 (.agg #[.int .i64 e.mode]) else if e.kind = 2 then .iface 107 (.agg #[.int .i64 e.mode, .string e.text]) else .iface 102 (.agg #[.string e.text])

set_option maxRecDepth 100000 in
set_option maxHeartbeats 8000000 in
theorem nodeOf_any (e : Ent) (hp : e.path.size ≤ maxLen) (ht : e.text.size ≤ maxLen) (w : World) :
    Calls Try.prog 74 #[.agg e.vals] w fun x w' => (∃ v, x = .returned (.tuple #[v, .bool (entB e)]) ∧ (v = .nilIface ∨ v = nodeV e) ∧ (entB e = true → v = nodeV e)) ∧ Below w.heap.size w w' := by
  obtain ⟨p, k, m, t⟩ := e
  unfold Ent.vals
  dsimp only at hp ht ⊢
  have hB0 : Below w.heap.size w (w.alloc (.cells #[.string p, .int .i64 k, .int .i64 m, .string t] 27)) := (Below.refl _ w).alloc (Nat.le_refl _) _
  have HB0 := hid hB0
  have hz0 : w.heap.size ≤ (w.alloc (.cells #[.string p, .int .i64 k, .int .i64 m, .string t] 27)).heap.size := by simp
  clear hB0
  have hE : entB ⟨p, k, m, t⟩ = (pathB p.data.toList && (if k = 1 then modeB m && t.data.toList.isEmpty else if k = 2 then modeB m && textB t.data.toList else k == 3 && (m == 0 && pathB t.data.toList))) := rfl
  have E := hid hE
  clear hE
  by_cases k1 : k = 1
  · subst k1
    have hnv : nodeV ⟨p, 1, m, t⟩ = .iface 105 (.agg #[.int .i64 m]) := by unfold nodeV; rw [if_pos rfl]
    have HN := hid hnv
    clear hnv
    cases hte : t.toList.isEmpty
    · have hte' : t.data.toList.isEmpty = false := by rw [← Lib.toList_data]; exact hte
      have EE := hid (show entB ⟨p, 1, m, t⟩ = false by rw [unhid E, if_pos rfl, hte']; simp)
      clear hte'
      go_enter Try.func74, Try.ntmps74
      go_wp2_with fail
      go_ret2
      exact ⟨⟨_, by rw [unhid EE]; rfl, .inl rfl, fun h => by rw [unhid EE] at h; cases h⟩, unhid HB0⟩
    · have hte' : t.data.toList.isEmpty = true := by rw [← Lib.toList_data]; exact hte
      have E1 := hid (show entB ⟨p, 1, m, t⟩ = (pathB p.data.toList && modeB m) by rw [unhid E, if_pos rfl, hte', Bool.and_true])
      clear hte'
      cases hpp : pathB p.data.toList
      · have EE := hid (show entB ⟨p, 1, m, t⟩ = false by rw [unhid E1, hpp]; rfl)
        go_enter Try.func74, Try.ntmps74
        go_wp2_with fail
        refine (PathOk_any p hp _).mono ?_
        rintro x w2 ⟨rfl, hb⟩
        rw [hpp]
        have HB := hid ((unhid HB0).trans (hb.mono hz0))
        clear hb
        go_wp2_with fail
        go_ret2
        exact ⟨⟨_, by rw [unhid EE]; rfl, .inr (unhid HN).symm, fun h => by rw [unhid EE] at h; cases h⟩, unhid HB⟩
      · have EE := hid (show entB ⟨p, 1, m, t⟩ = (modeB m) by rw [unhid E1, hpp]; rfl)
        go_enter Try.func74, Try.ntmps74
        go_wp2_with fail
        refine (PathOk_any p hp _).mono ?_
        rintro x w2 ⟨rfl, hb⟩
        rw [hpp]
        have HB := hid ((unhid HB0).trans (hb.mono hz0))
        clear hb
        go_wp2_with fail
        refine upon_run (y := .ok (165, .agg #[.int .i64 m]) w2) (by kernel_rfl) ?_
        go_wp2_with fail
        refine (dirFine_any m w2).mono ?_
        rintro x w3 ⟨rfl, hb⟩
        have HB3 := hid ((unhid HB).trans (hb.mono (unhid HB).size))
        clear hb
        rw [← unhid EE]
        go_wp2_with fail
        go_ret2
        exact ⟨⟨_, rfl, .inr (unhid HN).symm, fun _ => (unhid HN).symm⟩, unhid HB3⟩
  · have k1' : (k == 1) = false := by simpa using k1
    by_cases k2 : k = 2
    · subst k2
      have hnv : nodeV ⟨p, 2, m, t⟩ = .iface 107 (.agg #[.int .i64 m, .string t]) := by unfold nodeV; rw [if_neg (by omega), if_pos rfl]
      have HN := hid hnv
      have E1 := hid (show entB ⟨p, 2, m, t⟩ = (pathB p.data.toList && (modeB m && textB t.data.toList)) by rw [unhid E, if_neg (by omega), if_pos rfl])
      clear hnv
      cases hpp : pathB p.data.toList
      · have EE := hid (show entB ⟨p, 2, m, t⟩ = false by rw [unhid E1, hpp]; rfl)
        go_enter Try.func74, Try.ntmps74
        go_wp2_with fail
        refine (PathOk_any p hp _).mono ?_
        rintro x w2 ⟨rfl, hb⟩
        rw [hpp]
        have HB := hid ((unhid HB0).trans (hb.mono hz0))
        clear hb
        go_wp2_with fail
        go_ret2
        exact ⟨⟨_, by rw [unhid EE]; rfl, .inr (unhid HN).symm, fun h => by rw [unhid EE] at h; cases h⟩, unhid HB⟩
      · have EE := hid (show entB ⟨p, 2, m, t⟩ = (modeB m && textB t.data.toList) by rw [unhid E1, hpp]; rfl)
        go_enter Try.func74, Try.ntmps74
        go_wp2_with fail
        refine (PathOk_any p hp _).mono ?_
        rintro x w2 ⟨rfl, hb⟩
        rw [hpp]
        have HB := hid ((unhid HB0).trans (hb.mono hz0))
        clear hb
        go_wp2_with fail
        refine upon_run (y := .ok (167, .agg #[.int .i64 m, .string t]) w2) (by kernel_rfl) ?_
        go_wp2_with fail
        refine (fileFine_any m t ht w2).mono ?_
        rintro x w3 ⟨rfl, hb⟩
        have HB3 := hid ((unhid HB).trans (hb.mono (unhid HB).size))
        clear hb
        rw [← unhid EE]
        go_wp2_with fail
        go_ret2
        exact ⟨⟨_, rfl, .inr (unhid HN).symm, fun _ => (unhid HN).symm⟩, unhid HB3⟩
    · have k2' : (k == 2) = false := by simpa using k2
      have hnv : nodeV ⟨p, k, m, t⟩ = .iface 102 (.agg #[.string t]) := by unfold nodeV; rw [if_neg k1, if_neg k2]
      have HN := hid hnv
      have E2 := hid (show entB ⟨p, k, m, t⟩ = (pathB p.data.toList && (k == 3 && (m == 0 && pathB t.data.toList))) by rw [unhid E, if_neg k1, if_neg k2])
      clear hnv
      cases k3 : (k == 3)
      · have EE := hid (show entB ⟨p, k, m, t⟩ = false by rw [unhid E2, k3]; simp)
        clear k1 k2
        go_enter Try.func74, Try.ntmps74
        go_wp2_with fail
        go_ret2
        exact ⟨⟨_, by rw [unhid EE]; rfl, .inl rfl, fun h => by rw [unhid EE] at h; cases h⟩, unhid HB0⟩
      · cases m0 : (m == 0)
        · have EE := hid (show entB ⟨p, k, m, t⟩ = false by rw [unhid E2, m0]; simp)
          clear k1 k2
          go_enter Try.func74, Try.ntmps74
          go_wp2_with fail
          go_ret2
          exact ⟨⟨_, by rw [unhid EE]; rfl, .inl rfl, fun h => by rw [unhid EE] at h; cases h⟩, unhid HB0⟩
        · have E1 := hid (show entB ⟨p, k, m, t⟩ = (pathB p.data.toList && pathB t.data.toList) by rw [unhid E2, k3, m0]; rfl)
          clear k1 k2
          cases hpp : pathB p.data.toList
          · have EE := hid (show entB ⟨p, k, m, t⟩ = false by rw [unhid E1, hpp]; rfl)
            go_enter Try.func74, Try.ntmps74
            go_wp2_with fail
            refine (PathOk_any p hp _).mono ?_
            rintro x w2 ⟨rfl, hb⟩
            rw [hpp]
            have HB := hid ((unhid HB0).trans (hb.mono hz0))
            clear hb
            go_wp2_with fail
            go_ret2
            exact ⟨⟨_, by rw [unhid EE]; rfl, .inr (unhid HN).symm, fun h => by rw [unhid EE] at h; cases h⟩, unhid HB⟩
          · have EE := hid (show entB ⟨p, k, m, t⟩ = (pathB t.data.toList) by rw [unhid E1, hpp]; rfl)
            go_enter Try.func74, Try.ntmps74
            go_wp2_with fail
            refine (PathOk_any p hp _).mono ?_
            rintro x w2 ⟨rfl, hb⟩
            rw [hpp]
            have HB := hid ((unhid HB0).trans (hb.mono hz0))
            clear hb
            go_wp2_with fail
            refine upon_run (y := .ok (164, .agg #[.string t]) w2) (by kernel_rfl) ?_
            go_wp2_with fail
            refine (linkFine_any t ht w2).mono ?_
            rintro x w3 ⟨rfl, hb⟩
            have HB3 := hid ((unhid HB).trans (hb.mono (unhid HB).size))
            clear hb
            rw [← unhid EE]
            go_wp2_with fail
            go_ret2
            exact ⟨⟨_, rfl, .inr (unhid HN).symm, fun _ => (unhid HN).symm⟩, unhid HB3⟩
end Go.Proofs.Ytlnehebihfeegaa

/- The library's search in texts that ascend. -/
namespace Go.Proofs.Ytlnehebihfeegaa
open Go.RowKit Go.Shelf

/-- A row of texts that is read. -/
def TextsAt (W : World) (a : Option Addr) (ps : List ByteArray) : Prop := ps = [] ∨ ∃ b o, a = some ⟨b, o, .none⟩ ∧ b < W.heap.size ∧ ∀ (i : Nat) x, ps[i]? = some x → W.cell? ⟨b, o + i, .none⟩ = some (.string x)
theorem TextsAt.get {W : World} {a : Option Addr} {ps : List ByteArray} (h : TextsAt W a ps) (hne : ps ≠ []) : ∃ b o, a = some ⟨b, o, .none⟩ ∧ b < W.heap.size ∧ ∀ (i : Nat) x, ps[i]? = some x → W.cell? ⟨b, o + i, .none⟩ = some (.string x) := h.resolve_left hne
/-- Texts that ascend. -/
def Asc (ps : List ByteArray) : Prop := ∀ (i j : Nat) x y, i < j → ps[i]? = some x → ps[j]? = some y → ltS x y = true
def placeP (ps : List ByteArray) (q : ByteArray) : Nat := (ps.takeWhile fun x => ltS x q).length
def thereP (ps : List ByteArray) (q : ByteArray) : Bool := (ps[placeP ps q]?).any fun x => eqS x q
theorem placeP_of : ∀ (ps : List ByteArray) (q : ByteArray) (k : Nat), k ≤ ps.length → (∀ (i : Nat) x, i < k → ps[i]? = some x → ltS x q = true) → (∀ x, ps[k]? = some x → ltS x q = false) → placeP ps q = k
  | [], _, k, hk, _, _ => by simp at hk; subst hk; rfl
  | e :: es, p, 0, _, _, h2 => by
    have := h2 e rfl
    unfold placeP; rw [List.takeWhile_cons]; simp [this]
  | e :: es, p, k + 1, hk, h1, h2 => by
    have h0 := h1 0 e (Nat.succ_pos _) rfl
    have ih := placeP_of es p k (by simpa using hk) (fun i x hi hx => h1 (i + 1) x (by omega) (by simpa using hx)) (fun x hx => h2 x (by simpa using hx))
    unfold placeP at ih ⊢
    rw [List.takeWhile_cons]; simp [h0, ih]

theorem isNaN1_any (s : ByteArray) (w : World) : Calls Try.prog 102 #[.string s] w fun e w' => e = .returned (.bool false) ∧ w' = w := by
  go_enter Try.func102, Try.ntmps102
  go_wp2
  go_ret
  exact ⟨by simp, rfl⟩
theorem isNaN2_any (s : ByteArray) (w : World) : Calls Try.prog 124 #[.string s] w fun e w' => e = .returned (.bool false) ∧ w' = w := by
  go_enter Try.func124, Try.ntmps124
  go_wp2
  go_ret
  exact ⟨by simp, rfl⟩
theorem Less_any (x y : ByteArray) (w : World) : Calls Try.prog 101 #[.string x, .string y] w fun e w' => e = .returned (.bool (ltS x y)) ∧ w' = w := by
  have E := hid (show ltS x y = Op.bytesLess x.toList y.toList from rfl)
  go_enter Try.func101, Try.ntmps101
  go_wp2_with (go_at_call 124; refine (isNaN2_any _ _).mono ?_; rintro e w' ⟨rfl, rfl⟩)
  go_ret
  exact ⟨by rw [unhid E]; rfl, rfl⟩

set_option maxRecDepth 100000 in
set_option maxHeartbeats 4000000 in
theorem BinarySearch_any (ps : List ByteArray) (a : Option Addr) (cap : Nat) (q : ByteArray) (w : World) (hlen : ps.length ≤ 1048576) (hs : Asc ps) (h : TextsAt w a ps) :
    Calls Try.prog 73 #[.slice a ps.length cap, .string q] w fun x w' => x = .returned (.tuple #[.int .i64 (placeP ps q), .bool (thereP ps q)]) ∧ w' = w := by
  have HS := hid hs
  clear hs
  go_enter Try.func73, Try.ntmps73
  go_wp2_with fail
  go_loop [7, 8, 9] (fun i j _ => ∃ (k m : Nat), k ≤ m ∧ m ≤ ps.length ∧ i = .int .i64 k ∧ j = .int .i64 m ∧ Hid (∀ (t : Nat) x, t < k → ps[t]? = some x → ltS x q = true) ∧ Hid (∀ (t : Nat) x, m ≤ t → ps[t]? = some x → ltS x q = false)) (fun i j _ => (intOf j).toNat - (intOf i).toNat)
  case atStart => exact ⟨0, ps.length, Nat.zero_le _, Nat.le_refl _, rfl, rfl, hid (fun t x ht => by omega), hid (fun t x ht hx => by have := (List.getElem?_eq_some_iff.1 hx).1; omega)⟩
  case round =>
    obtain ⟨k, m, hkm, hm, rfl, rfl, hlo, hhi⟩ := hrel
    by_cases hlt : k < m
    · obtain ⟨x, hx⟩ : ∃ x, ps[(k + m) / 2]? = some x := ⟨ps[(k + m) / 2], List.getElem?_eq_getElem (by omega)⟩
      obtain ⟨b, o, rfl, hbl, hc⟩ := h.get (by intro e; subst e; simp at hm; omega)
      have c0 := hc _ x hx
      have HX := hid hx
      have HC := hid hc
      have hlt' : (k : Int) < m := by omega
      have hsm : (k : Int) + m ≤ 4194304 := by omega
      have hall : ∀ (t : Nat) y, t ≤ (k + m) / 2 → ps[t]? = some y → ltS x q = true → ltS y q = true := fun t y ht hy hq => by
        by_cases e : t = (k + m) / 2
        · subst e; rw [hx] at hy; cases hy; exact hq
        · exact lt_tra _ _ _ (unhid HS t _ y x (by omega) hy hx) hq
      have hnone : ∀ (t : Nat) y, (k + m) / 2 ≤ t → ps[t]? = some y → ltS x q = false → ltS y q = false := fun t y ht hy hq => by
        by_cases e : t = (k + m) / 2
        · subst e; rw [hx] at hy; cases hy; exact hq
        · cases hyq : ltS y q
          · rfl
          · have := lt_tra _ _ _ (unhid HS _ t x y (by omega) hx hy) hyq
            unfold ltS at hq; rw [this] at hq; cases hq
      have HA := hid (And.intro hall hnone)
      clear hc hx h hall hnone
      go_wp2_with fail
      refine (Less_any x q _).mono ?_
      rintro r w' ⟨rfl, rfl⟩
      cases hq : ltS x q
      · go_wp2_with fail
        go_round
        case rel => exact ⟨k, (k + m) / 2, by omega, by omega, rfl, by go_num, hlo, hid (fun t y ht hy => (unhid HA).2 t y ht hy hq)⟩
        case measure => simp [intOf]; omega
      · go_wp2_with fail
        go_round
        case rel => exact ⟨(k + m) / 2 + 1, m, by omega, hm, by go_num, rfl, hid (fun t y ht hy => (unhid HA).1 t y (by omega) hy hq), hhi⟩
        case measure => simp [intOf]; omega
    · have hkm' : k = m := by omega
      subst hkm'
      have hlt' : ¬ (k : Int) < k := by omega
      have hpl : placeP ps q = k := placeP_of ps q k hm (unhid hlo) (fun x hx => unhid hhi k x (Nat.le_refl _) hx)
      by_cases hkl : k < ps.length
      · obtain ⟨x, hx⟩ : ∃ x, ps[k]? = some x := ⟨ps[k], List.getElem?_eq_getElem hkl⟩
        obtain ⟨b, o, rfl, hbl, hc⟩ := h.get (by intro e; subst e; simp at hkl)
        have c0 := hc _ x hx
        have hth : thereP ps q = (x.toList == q.toList) := by unfold thereP; rw [hpl, hx]; rfl
        have HP := hid (And.intro hpl hth)
        have hkl' : (k : Int) < ps.length := by omega
        clear hpl hth hx hc h
        cases he : (x.toList == q.toList)
        all_goals
          go_wp2_with (go_at_call 102; refine (isNaN1_any _ _).mono ?_; rintro e w' ⟨rfl, rfl⟩)
          go_ret2
          exact ⟨by rw [(unhid HP).1, (unhid HP).2, he]; rfl, rfl⟩
      · have hth : thereP ps q = false := by unfold thereP; rw [hpl, List.getElem?_eq_none (by omega)]; rfl
        have HP := hid (And.intro hpl hth)
        have hkl' : ¬ (k : Int) < ps.length := by omega
        clear hpl hth h
        go_wp2_with fail
        go_ret2
        exact ⟨by rw [(unhid HP).1, (unhid HP).2]; rfl, rfl⟩
end Go.Proofs.Ytlnehebihfeegaa

/- The library's Insert at a row's end. -/
namespace Go.Proofs.Ytlnehebihfeegaa
open Go.RowKit Go.Shelf

theorem infoNode : (Try.prog.info? 63).map (fun i => (i.zero, i.size, i.bytes)) = some (some .nilIface, 1, 16) := by kernel_rfl
theorem ownsRow_sh {W : World} {base : Nat} {e : TypeId} {size : Nat} {v : Value} {n : Nat} {xs : List Value} (h : W.ownsRow base e size v n xs) : (v = .slice .none 0 0 ∧ n = 0) ∨ ∃ g cap, v = .slice (some ⟨g, 0, .none⟩) n cap ∧ n ≤ cap := by
  rcases h.2 with h | ⟨g, cap, cur, rfl, _, _, hc, _⟩
  · exact .inl h
  · exact .inr ⟨_, _, rfl, hc⟩
theorem nodeV_one (e : Ent) : (nodeV e).oneCell' = true := by
  unfold nodeV; split
  · rfl
  · split <;> rfl

set_option maxRecDepth 100000 in
set_option maxHeartbeats 4000000 in
theorem InsertS_end (N : Nat) (v : Value) (n : Nat) (xs : List Value) (b : Nat) (p : ByteArray) (w : World) (hn : n ≤ 1000) (hN : N ≤ w.heap.size) (h : w.ownsRow N 9 1 v n xs) (hb : w.cell? ⟨b, 0, .none⟩ = some (.string p)) :
    Calls Try.prog 84 #[v, .int .i64 n, .slice (some ⟨b, 0, .none⟩) 1 1] w fun x w' => ∃ v', x = .returned v' ∧ w'.ownsRow N 9 1 v' (n + 1) (xs ++ [.string p]) ∧ w.grownBy w' v.ownBlock ∧ (v'.ownBlock = v.ownBlock ∨ v'.ownBlock = some w.heap.size) := by
  obtain ⟨i0, hi, hz0, hz1, hz2⟩ := info_parts info9
  have H := hid h
  have hnew : ∀ (j : Nat) u, [.string p][j]? = some u → w.cell? ((⟨b, 0, .none⟩ : Addr).add j) = some u := fun j u hj => by
    match j with
    | 0 => simp at hj; subst hj; exact hb
    | j + 1 => simp at hj
  have HN := hid hnew
  clear hnew
  rcases ownsRow_sh h with ⟨rfl, rfl⟩ | ⟨g, cap, rfl, hc⟩
  · clear h
    go_enter Try.func84, Try.ntmps84
    go_wp2_with (at_builtin; refine wpList_append_own_at _ rfl _ _ 54 rfl N 9 i0 (.string ⟨#[]⟩) 1 16 Try.underlying54 hi hz0 hz1 hz2 rfl (by decide) _ _ _ rfl (unhid H) ⟨b, 0, .none⟩ 1 1 [.string p] rfl rfl (unhid HN) ?c2 ?c3 ?c4 ?c5 ?_)
    case c2 => intro u hu; simp at hu; subst hu; rfl
    case c3 => unfold maxLen; omega
    case c4 => omega
    case c5 => exact hN
    intro v' w1 hown hgrow _ hat
    have HH := hid (And.intro hown (And.intro hgrow hat))
    clear hown hgrow hat
    go_wp2_with fail
    go_ret
    exact ⟨_, rfl, (unhid HH).1, (unhid HH).2⟩
  · clear h
    by_cases hcn : cap = n
    · subst hcn
      go_enter Try.func84, Try.ntmps84
      go_wp2_with (at_builtin; refine wpList_append_own_at _ rfl _ _ 54 rfl N 9 i0 (.string ⟨#[]⟩) 1 16 Try.underlying54 hi hz0 hz1 hz2 rfl (by decide) _ _ _ rfl (unhid H) ⟨b, 0, .none⟩ 1 1 [.string p] rfl rfl (unhid HN) ?c2 ?c3 ?c4 ?c5 ?_)
      case c2 => intro u hu; simp at hu; subst hu; rfl
      case c3 => unfold maxLen; omega
      case c4 => omega
      case c5 => exact hN
      intro v' w1 hown hgrow _ hat
      have HH := hid (And.intro hown (And.intro hgrow hat))
      clear hown hgrow hat
      go_wp2_with fail
      go_ret
      exact ⟨_, rfl, (unhid HH).1, (unhid HH).2⟩
    · have hcn' : ¬ n = cap := fun e => hcn e.symm
      go_enter Try.func84, Try.ntmps84
      go_wp2_with (at_builtin; refine wpList_append_own_at _ rfl _ _ 54 rfl N 9 i0 (.string ⟨#[]⟩) 1 16 Try.underlying54 hi hz0 hz1 hz2 rfl (by decide) _ _ _ rfl (unhid H) ⟨b, 0, .none⟩ 1 1 [.string p] rfl rfl (unhid HN) ?c2 ?c3 ?c4 ?c5 ?_)
      case c2 => intro u hu; simp at hu; subst hu; rfl
      case c3 => unfold maxLen; omega
      case c4 => omega
      case c5 => exact hN
      intro v' w1 hown hgrow _ hat
      have HH := hid (And.intro hown (And.intro hgrow hat))
      clear hown hgrow hat
      go_wp2_with fail
      go_ret
      exact ⟨_, rfl, (unhid HH).1, (unhid HH).2⟩

set_option maxRecDepth 100000 in
set_option maxHeartbeats 4000000 in
theorem InsertN_end (N : Nat) (v : Value) (n : Nat) (xs : List Value) (b : Nat) (e : Ent) (w : World) (hn : n ≤ 1000) (hN : N ≤ w.heap.size) (h : w.ownsRow N 63 1 v n xs) (hb : w.cell? ⟨b, 0, .none⟩ = some (nodeV e)) :
    Calls Try.prog 85 #[v, .int .i64 n, .slice (some ⟨b, 0, .none⟩) 1 1] w fun x w' => ∃ v', x = .returned v' ∧ w'.ownsRow N 63 1 v' (n + 1) (xs ++ [nodeV e]) ∧ w.grownBy w' v.ownBlock ∧ (v'.ownBlock = v.ownBlock ∨ v'.ownBlock = some w.heap.size) := by
  obtain ⟨i0, hi, hz0, hz1, hz2⟩ := info_parts infoNode
  have H := hid h
  have hnew : ∀ (j : Nat) u, [nodeV e][j]? = some u → w.cell? ((⟨b, 0, .none⟩ : Addr).add j) = some u := fun j u hj => by
    match j with
    | 0 => simp at hj; subst hj; exact hb
    | j + 1 => simp at hj
  have HN := hid hnew
  clear hnew
  rcases ownsRow_sh h with ⟨rfl, rfl⟩ | ⟨g, cap, rfl, hc⟩
  · clear h
    go_enter Try.func85, Try.ntmps85
    go_wp2_with (at_builtin; refine wpList_append_own_at _ rfl _ _ 55 rfl N 63 i0 (.nilIface) 1 16 Try.underlying55 hi hz0 hz1 hz2 rfl (by decide) _ _ _ rfl (unhid H) ⟨b, 0, .none⟩ 1 1 [nodeV e] rfl rfl (unhid HN) ?c2 ?c3 ?c4 ?c5 ?_)
    case c2 => intro u hu; simp at hu; subst hu; exact nodeV_one e
    case c3 => unfold maxLen; omega
    case c4 => omega
    case c5 => exact hN
    intro v' w1 hown hgrow _ hat
    have HH := hid (And.intro hown (And.intro hgrow hat))
    clear hown hgrow hat
    go_wp2_with fail
    go_ret
    exact ⟨_, rfl, (unhid HH).1, (unhid HH).2⟩
  · clear h
    by_cases hcn : cap = n
    · subst hcn
      go_enter Try.func85, Try.ntmps85
      go_wp2_with (at_builtin; refine wpList_append_own_at _ rfl _ _ 55 rfl N 63 i0 (.nilIface) 1 16 Try.underlying55 hi hz0 hz1 hz2 rfl (by decide) _ _ _ rfl (unhid H) ⟨b, 0, .none⟩ 1 1 [nodeV e] rfl rfl (unhid HN) ?c2 ?c3 ?c4 ?c5 ?_)
      case c2 => intro u hu; simp at hu; subst hu; exact nodeV_one e
      case c3 => unfold maxLen; omega
      case c4 => omega
      case c5 => exact hN
      intro v' w1 hown hgrow _ hat
      have HH := hid (And.intro hown (And.intro hgrow hat))
      clear hown hgrow hat
      go_wp2_with fail
      go_ret
      exact ⟨_, rfl, (unhid HH).1, (unhid HH).2⟩
    · have hcn' : ¬ n = cap := fun e => hcn e.symm
      go_enter Try.func85, Try.ntmps85
      go_wp2_with (at_builtin; refine wpList_append_own_at _ rfl _ _ 55 rfl N 63 i0 (.nilIface) 1 16 Try.underlying55 hi hz0 hz1 hz2 rfl (by decide) _ _ _ rfl (unhid H) ⟨b, 0, .none⟩ 1 1 [nodeV e] rfl rfl (unhid HN) ?c2 ?c3 ?c4 ?c5 ?_)
      case c2 => intro u hu; simp at hu; subst hu; exact nodeV_one e
      case c3 => unfold maxLen; omega
      case c4 => omega
      case c5 => exact hN
      intro v' w1 hown hgrow _ hat
      have HH := hid (And.intro hown (And.intro hgrow hat))
      clear hown hgrow hat
      go_wp2_with fail
      go_ret
      exact ⟨_, rfl, (unhid HH).1, (unhid HH).2⟩

end Go.Proofs.Ytlnehebihfeegaa

/- A tree as the program keeps it; what is at a path of it; whether a path has a place in it. -/
namespace Go.Proofs.Ytlnehebihfeegaa
open Go.RowKit Go.Shelf

def pathsOf (es : List Ent) : List ByteArray := es.map (·.path)
/-- The tree of entries at a block: two rows, of paths and of what stands there, from a bound on. -/
def TreeAt (W : World) (N bt : Nat) (es : List Ent) : Prop := ∃ vp vn, W.heap[bt]? = some (.cells #[vp, vn] 59 (0, 0)) ∧ W.ownsRow N 9 1 vp es.length (es.map fun e => .string e.path) ∧ W.ownsRow N 63 1 vn es.length (es.map nodeV)
theorem TreeAt.lt {W : World} {N bt : Nat} {es : List Ent} (h : TreeAt W N bt es) : bt < W.heap.size := by
  obtain ⟨vp, vn, h1, _⟩ := h; exact (Array.getElem?_eq_some_iff.1 h1).1
theorem ownsRow_kept {w w' : World} {base : Nat} {e : TypeId} {size : Nat} {v : Value} {n : Nat} {xs : List Value} (h : w.ownsRow base e size v n xs) (hk : ∀ g, v.ownBlock = some g → w'.heap[g]? = w.heap[g]?) : w'.ownsRow base e size v n xs := by
  refine ⟨h.1, ?_⟩
  rcases h.2 with h1 | ⟨g, cap, cur, rfl, h2, h3, h4⟩
  · exact .inl h1
  · exact .inr ⟨g, cap, cur, rfl, h2, by rw [hk g rfl]; exact h3, h4⟩
theorem TreeAt.below {W W' : World} {N bt : Nat} {es : List Ent} (h : TreeAt W N bt es) (hb : Below W.heap.size W W') : TreeAt W' N bt es := by
  obtain ⟨vp, vn, h1, h2, h3⟩ := h
  exact ⟨vp, vn, (hb.block bt (Array.getElem?_eq_some_iff.1 h1).1).trans h1, ownsRow_kept h2 (fun g e => hb.block g (h2.lt g e).2), ownsRow_kept h3 (fun g e => hb.block g (h3.lt g e).2)⟩
theorem texts_of {W : World} {N : Nat} {v : Value} {es : List Ent} (h : W.ownsRow N 9 1 v es.length (es.map fun e => .string e.path)) : ∃ a cap, v = .slice a (pathsOf es).length cap ∧ TextsAt W a (pathsOf es) := by
  have hl : (pathsOf es).length = es.length := by simp [pathsOf]
  rcases h.2 with ⟨rfl, h0⟩ | ⟨g, cap, cur, rfl, _, hg, hc, _, hsz, hcells⟩
  · exact ⟨.none, 0, by rw [hl, h0], .inl (by rw [← List.length_eq_zero_iff, hl, h0])⟩
  · refine ⟨_, cap, by rw [hl], .inr ⟨g, 0, rfl, (Array.getElem?_eq_some_iff.1 hg).1, fun i x hi => ?_⟩⟩
    have hil : i < es.length := by rw [← hl]; exact (List.getElem?_eq_some_iff.1 hi).1
    have h1 : (cur.toList.take (es.length * 1))[i]? = some (.string x) := by
      rw [hcells, List.getElem?_map]
      unfold pathsOf at hi
      rw [List.getElem?_map] at hi
      cases he : es[i]? with
      | none => rw [he] at hi; cases hi
      | some e => rw [he] at hi; cases hi; rfl
    rw [List.getElem?_take_of_lt (by omega), Array.getElem?_toList] at h1
    simp [World.cell?, hg, h1]
theorem node_of {W : World} {N : Nat} {v : Value} {es : List Ent} {i : Nat} {e : Ent} (h : W.ownsRow N 63 1 v es.length (es.map nodeV)) (he : es[i]? = some e) : ∃ g cap, v = .slice (some ⟨g, 0, .none⟩) es.length cap ∧ W.cell? ⟨g, i, .none⟩ = some (nodeV e) ∧ es.length ≤ cap := by
  have hil : i < es.length := (List.getElem?_eq_some_iff.1 he).1
  rcases h.2 with ⟨rfl, h0⟩ | ⟨g, cap, cur, rfl, _, hg, hc, _, hsz, hcells⟩
  · omega
  · refine ⟨g, cap, rfl, ?_, hc⟩
    have h1 : (cur.toList.take (es.length * 1))[i]? = some (nodeV e) := by rw [hcells, List.getElem?_map, he]; rfl
    rw [List.getElem?_take_of_lt (by omega), Array.getElem?_toList] at h1
    simp [World.cell?, hg, h1]
theorem placeP_E : ∀ (es : List Ent) (p : ByteArray), placeP (pathsOf es) p = placeE es p
  | [], _ => rfl
  | e :: es, p => by
    have ih := placeP_E es p
    unfold placeP placeE pathsOf at *
    rw [List.map_cons, List.takeWhile_cons, List.takeWhile_cons]
    cases ltS e.path p
    · rfl
    · simp only [if_true, List.length_cons, ih]
theorem thereP_E (es : List Ent) (p : ByteArray) : thereP (pathsOf es) p = thereE es p := by
  unfold thereP thereE
  rw [placeP_E]
  unfold pathsOf
  rw [List.getElem?_map]
  cases es[placeE es p]? <;> rfl
theorem there_get {es : List Ent} {p : ByteArray} (h : thereE es p = true) : ∃ e, es[placeE es p]? = some e ∧ e.path = p := by
  unfold thereE at h
  cases hx : es[placeE es p]? with
  | none => rw [hx] at h; cases h
  | some e => rw [hx] at h; exact ⟨e, rfl, (eqS_iff _ _).1 h⟩
def getV (es : List Ent) (p : ByteArray) : Value := if thereE es p then nodeV (entFn es (placeE es p)) else .nilIface

set_option maxRecDepth 100000 in
set_option maxHeartbeats 2000000 in
theorem mapGet_any (N bt : Nat) (es : List Ent) (p : ByteArray) (w : World) (hn : es.length ≤ 1000) (ha : Asc (pathsOf es)) (h : TreeAt w N bt es) :
    Calls Try.prog 42 #[.pointer (some ⟨bt, 0, .none⟩), .string p] w fun x w' => x = .returned (.tuple #[getV es p, .bool (thereE es p)]) ∧ w' = w := by
  obtain ⟨vp, vn, h1, h2, h3⟩ := h
  have c0 : w.cell? ⟨bt, 0, .none⟩ = some vp := by simp [World.cell?, h1]
  have c1 : w.cell? ⟨bt, 1, .none⟩ = some vn := by simp [World.cell?, h1]
  obtain ⟨a, cap, rfl, hT⟩ := texts_of h2
  have hl : (pathsOf es).length ≤ 1048576 := by simp [pathsOf]; omega
  have HT := hid (And.intro hl (And.intro ha hT))
  clear hT ha hl h2
  cases ht : thereE es p
  · have E := hid (show getV es p = .nilIface by unfold getV; rw [ht]; rfl)
    clear h1 h3
    go_enter Try.func42, Try.ntmps42
    go_wp2_with fail
    refine (BinarySearch_any (pathsOf es) a cap p _ (unhid HT).1 (unhid HT).2.1 (unhid HT).2.2).mono ?_
    rintro x w2 ⟨rfl, rfl⟩
    rw [thereP_E, ht]
    go_wp2_with fail
    go_ret2
    exact ⟨by rw [unhid E]; rfl, rfl⟩
  · obtain ⟨e, he, _⟩ := there_get ht
    obtain ⟨g, cap2, rfl, hc, hle⟩ := node_of h3 he
    have hpl : placeE es p < es.length := (List.getElem?_eq_some_iff.1 he).1
    have E := hid (show getV es p = nodeV e by unfold getV; rw [ht, entFn_get he]; rfl)
    clear h1 h3 he
    go_enter Try.func42, Try.ntmps42
    go_wp2_with fail
    refine (BinarySearch_any (pathsOf es) a cap p _ (unhid HT).1 (unhid HT).2.1 (unhid HT).2.2).mono ?_
    rintro x w2 ⟨rfl, rfl⟩
    rw [thereP_E, ht, placeP_E]
    go_wp2_with fail
    go_ret2
    exact ⟨by rw [unhid E]; rfl, rfl⟩
end Go.Proofs.Ytlnehebihfeegaa

/- Whether a path has a place in a tree; an entry put at its end. -/
namespace Go.Proofs.Ytlnehebihfeegaa
open Go.RowKit Go.Shelf

set_option maxRecDepth 100000 in
set_option maxHeartbeats 4000000 in
theorem isDir_no (w : World) : Calls Try.prog 91 #[.nilIface] w fun x w' => x = .returned (.bool false) ∧ Below w.heap.size w w' := by
  have hta : ∀ w, (Instr.typeAssert .nilIface 63 105 true).run Try.prog w = .ok (.tuple #[.agg #[.int .i64 0], .bool false]) w := fun _ => by kernel_rfl
  go_enter Try.func91, Try.ntmps91
  go_wp2_with fail
  go_ret
  exact ⟨rfl, (Below.refl _ _).alloc (Nat.le_refl _) _⟩
set_option maxRecDepth 100000 in
set_option maxHeartbeats 4000000 in
theorem isDir_node (e : Ent) (w : World) : Calls Try.prog 91 #[nodeV e] w fun x w' => x = .returned (.bool (e.kind == 1)) ∧ Below w.heap.size w w' := by
  by_cases k1 : e.kind = 1
  · rw [show nodeV e = .iface 105 (.agg #[.int .i64 e.mode]) by unfold nodeV; rw [if_pos k1]]
    have hta : ∀ w, (Instr.typeAssert (.iface 105 (.agg #[.int .i64 e.mode])) 63 105 true).run Try.prog w = .ok (.tuple #[.agg #[.int .i64 e.mode], .bool true]) w := fun _ => by kernel_rfl
    rw [k1]
    clear k1
    go_enter Try.func91, Try.ntmps91
    go_wp2_with fail
    go_ret
    exact ⟨rfl, (Below.refl _ _).alloc (Nat.le_refl _) _⟩
  · rw [show (e.kind == 1) = false by simpa using k1]
    by_cases k2 : e.kind = 2
    · rw [show nodeV e = .iface 107 (.agg #[.int .i64 e.mode, .string e.text]) by unfold nodeV; rw [if_neg k1, if_pos k2]]
      have hta : ∀ w, (Instr.typeAssert (.iface 107 (.agg #[.int .i64 e.mode, .string e.text])) 63 105 true).run Try.prog w = .ok (.tuple #[.agg #[.int .i64 0], .bool false]) w := fun _ => by kernel_rfl
      clear k1 k2
      go_enter Try.func91, Try.ntmps91
      go_wp2_with fail
      go_ret
      exact ⟨rfl, (Below.refl _ _).alloc (Nat.le_refl _) _⟩
    · rw [show nodeV e = .iface 102 (.agg #[.string e.text]) by unfold nodeV; rw [if_neg k1, if_neg k2]]
      have hta : ∀ w, (Instr.typeAssert (.iface 102 (.agg #[.string e.text])) 63 105 true).run Try.prog w = .ok (.tuple #[.agg #[.int .i64 0], .bool false]) w := fun _ => by kernel_rfl
      clear k1 k2
      go_enter Try.func91, Try.ntmps91
      go_wp2_with fail
      go_ret
      exact ⟨rfl, (Below.refl _ _).alloc (Nat.le_refl _) _⟩
theorem isDir_get (es : List Ent) (p : ByteArray) (he : p.toList.isEmpty = false) (w : World) : Calls Try.prog 91 #[getV es p] w fun x w' => x = .returned (.bool (dirE es p)) ∧ Below w.heap.size w w' := by
  cases ht : thereE es p
  · rw [show getV es p = .nilIface by unfold getV; rw [ht]; rfl, show dirE es p = false by unfold dirE; rw [he, ht]; rfl]
    exact isDir_no w
  · rw [show getV es p = nodeV (entFn es (placeE es p)) by unfold getV; rw [ht]; rfl, show dirE es p = ((entFn es (placeE es p)).kind == 1) by unfold dirE; rw [he, ht]; simp]
    exact isDir_node _ w

set_option maxRecDepth 100000 in
set_option maxHeartbeats 4000000 in
theorem hasPlace_any (N bt : Nat) (es : List Ent) (p : ByteArray) (w : World) (hp : p.size ≤ maxLen) (hn : es.length ≤ 1000) (ha : Asc (pathsOf es)) (h : TreeAt w N bt es) :
    Calls Try.prog 75 #[.pointer (some ⟨bt, 0, .none⟩), .string p] w fun x w' => x = .returned (.bool (dirE es (pathUpS p))) ∧ Below w.heap.size w w' := by
  have HH := hid h
  have HA := hid ha
  clear h ha
  cases he : (pathUpS p).toList.isEmpty
  · have HE := hid he
    go_enter Try.func75, Try.ntmps75
    go_wp2_with fail
    refine (PathUp_any p hp _).mono ?_
    rintro x w2 ⟨rfl, hb⟩
    have HB := hid hb
    clear hb
    go_wp2_with fail
    refine (mapGet_any N bt es (pathUpS p) w2 hn (unhid HA) ((unhid HH).below (unhid HB))).mono ?_
    rintro x w3 ⟨rfl, hw3⟩
    rw [hw3]
    clear hw3
    have ISD := hid (isDir_get es (pathUpS p) (unhid HE) w2)
    generalize getV es (pathUpS p) = gv at *
    generalize thereE es (pathUpS p) = gt at *
    go_wp2_with fail
    refine (unhid ISD).mono ?_
    rintro x w4 ⟨rfl, hb⟩
    go_wp2_with fail
    go_ret
    exact ⟨rfl, (unhid HB).trans (hb.mono (unhid HB).size)⟩
  · have E := hid (show dirE es (pathUpS p) = true by unfold dirE; rw [he]; rfl)
    go_enter Try.func75, Try.ntmps75
    go_wp2_with fail
    refine (PathUp_any p hp _).mono ?_
    rintro x w2 ⟨rfl, hb⟩
    have HB := hid hb
    clear hb
    go_wp2_with fail
    go_ret
    exact ⟨by rw [unhid E]; rfl, unhid HB⟩
end Go.Proofs.Ytlnehebihfeegaa

/- An entry put at a tree's end. -/
namespace Go.Proofs.Ytlnehebihfeegaa
open Go.RowKit Go.Shelf

theorem type_ne {W : World} {g b : Nat} {cur cur' : Array Value} {e e' : TypeId} {f f' : Nat × Nat} (h : W.heap[g]? = some (.cells cur e f)) (h' : W.heap[b]? = some (.cells cur' e' f')) (hne : e ≠ e') : g ≠ b := by
  rintro rfl; rw [h] at h'; cases h'; exact hne rfl
theorem row_ne {W : World} {N n b size : Nat} {v : Value} {e e' : TypeId} {xs : List Value} {cur' : Array Value} {f' : Nat × Nat} (h : W.ownsRow N e size v n xs) (h' : W.heap[b]? = some (.cells cur' e' f')) (hne : e ≠ e') : some b ≠ v.ownBlock := by
  intro eq
  rcases h.2 with ⟨rfl, _⟩ | ⟨g, cap, cur, rfl, _, hg, _⟩
  · cases eq
  · cases eq; exact type_ne hg h' hne rfl
/-- A block that is neither a row of texts nor one of what stands at paths. -/
def Apart (o : Obj) : Prop := ∀ cs t f, o = .cells cs t f → t ≠ 9 ∧ t ≠ 63
theorem two_cells {W : World} {bt : Nat} {u v : Value} {t : TypeId} (h : W.heap[bt]? = some (.cells #[u, v] t (0, 0))) : W.cell? ⟨bt, 0, .none⟩ = some u ∧ W.cell? ⟨bt, 1, .none⟩ = some v ∧ W.frozen? ⟨bt, 0, .none⟩ = false ∧ W.frozen? ⟨bt, 1, .none⟩ = false := by
  refine ⟨?_, ?_, ?_, ?_⟩ <;> simp [World.cell?, World.frozen?, h]

theorem nodeV_shape (e : Ent) : ∃ T nv, nodeV e = .iface T nv := by
  unfold nodeV; split
  · exact ⟨_, _, rfl⟩
  · split <;> exact ⟨_, _, rfl⟩
set_option maxRecDepth 100000 in
set_option maxHeartbeats 4000000 in
theorem mapPut_end (N bt : Nat) (es : List Ent) (e : Ent) (w : World) (hn : es.length ≤ 900) (ha : Asc (pathsOf es)) (hN : N ≤ bt) (hpl : placeE es e.path = es.length) (h : TreeAt w N bt es) :
    Calls Try.prog 56 #[.pointer (some ⟨bt, 0, .none⟩), .string e.path, nodeV e] w fun x w' => (∃ v, x = .returned v) ∧ TreeAt w' N bt (es ++ [e]) ∧ Below N w w' ∧ ∀ k o, k ≠ bt → w.heap[k]? = some o → Apart o → w'.heap[k]? = some o := by
  have hbl := h.lt
  obtain ⟨vp, vn, h1, h2, h3⟩ := h
  obtain ⟨a, cap, hva, hT⟩ := texts_of h2
  have hpn : (pathsOf es).length = es.length := by simp [pathsOf]
  have hl : (pathsOf es).length ≤ 1048576 := by omega
  have ht : thereP (pathsOf es) e.path = false := by rw [thereP_E]; unfold thereE; rw [hpl, List.getElem?_eq_none (Nat.le_refl _)]; rfl
  have hpp : placeP (pathsOf es) e.path = es.length := by rw [placeP_E, hpl]
  have hS := BinarySearch_any (pathsOf es) a cap e.path w hl ha hT
  rw [hpp, ht, hpn] at hS
  rw [hpn] at hva
  subst hva
  obtain ⟨T, nv, hV⟩ := nodeV_shape e
  have hIN := fun v n xs b w => InsertN_end N v n xs b e w
  simp only [hV] at hIN
  rw [hV]
  have HV := hid hV
  have HIN := hid hIN
  clear hV hIN
  have HS := hid hS
  obtain ⟨c0, c1, f0, f1⟩ := two_cells h1
  have H2 := hid h2
  have H3 := hid h3
  have H1 := hid h1
  clear hT ha hl ht hpp h1 h2 h3 hpn hpl hS
  go_enter Try.func56, Try.ntmps56
  go_wp2_with fail
  refine (unhid HS).mono ?_
  rintro x w1 ⟨rfl, hw1⟩
  rw [hw1]
  clear hw1
  go_wp2_with fail
  refine (InsertS_end N _ es.length _ w.heap.size e.path (w.alloc (.cells #[.string e.path] 9)) (by omega) (by simp; omega) ((unhid H2).alloc _) (cell_new_l w _ _).1).mono ?_
  rintro x w2 ⟨v2, rfl, hown2, hgrow2, -⟩
  obtain ⟨g2, cap2, rfl⟩ := ownsRow_succ hown2
  have h1a : (w.alloc (.cells #[.string e.path] 9)).heap[bt]? = some (.cells #[.slice a es.length cap, vn] 59 (0, 0)) := (Below.heap_alloc _ _ _ hbl).trans (unhid H1)
  have h12 : w2.heap[bt]? = some (.cells #[.slice a es.length cap, vn] 59 (0, 0)) := (hgrow2.block bt (by simp; omega) (row_ne ((unhid H2).alloc (.cells #[.string e.path] 9)) h1a (by decide))).trans h1a
  obtain ⟨c0, c1, f0, f1⟩ := two_cells h12
  have h32 : w2.ownsRow N 63 1 vn es.length (es.map nodeV) := by
    refine ownsRow_kept ((unhid H3).alloc (.cells #[.string e.path] 9)) (fun g hg => hgrow2.block g (((unhid H3).alloc (.cells #[.string e.path] 9)).lt g hg).2 ?_)
    rcases ((unhid H3).alloc (.cells #[.string e.path] 9)).2 with ⟨rfl, _⟩ | ⟨g', cap', cur', rfl, _, hgc, _⟩
    · cases hg
    · cases hg; exact row_ne ((unhid H2).alloc (.cells #[.string e.path] 9)) hgc (by decide)
  have hg2w : g2 ≠ bt := fun eq => by
    rcases hown2.2 with ⟨h, _⟩ | ⟨g', cap', cur', hv, _, hgc, _⟩
    · cases h
    · cases hv; exact type_ne hgc h12 (by decide) eq
  have HB2 := hid (And.intro hown2 (And.intro hgrow2 (And.intro h12 h32)))
  have hsz2 : w.heap.size + 1 ≤ w2.heap.size := by have := hgrow2.size; simpa using this
  clear hown2 hgrow2 h12 h32 h1a
  go_wp2_with fail
  obtain ⟨W3, hW3⟩ : ∃ W3, W3 = (w2.setCell ⟨bt, 0, .none⟩ (.slice (some ⟨g2, 0, .none⟩) (es.length + 1) cap2)).alloc (.cells #[.iface T nv] 63) := ⟨_, rfl⟩
  rw [← hW3]
  obtain ⟨hown2, hgrow2, h12, h32⟩ := unhid HB2
  have hbl2 : bt < w2.heap.size := by omega
  have h13 : W3.heap[bt]? = some (.cells #[.slice (some ⟨g2, 0, .none⟩) (es.length + 1) cap2, vn] 59 (0, 0)) := by
    rw [hW3, Below.heap_alloc _ _ _ (by simp; omega), heap_setCell_same _ bt 0 _ _ _ h12]; rfl
  have hk3 : ∀ g, g < w2.heap.size → g ≠ bt → W3.heap[g]? = w2.heap[g]? := fun g hg hne => by
    rw [hW3, Below.heap_alloc _ _ _ (by simpa using hg), Below.heap_setCell _ _ _ _ hne]
  have h33 : W3.ownsRow N 63 1 vn es.length (es.map nodeV) := ownsRow_kept h32 (fun g hg => hk3 g (h32.lt g hg).2 (fun eq => (row_ne h32 h12 (by decide)) (by rw [hg, eq])))
  have hown3 : W3.ownsRow N 9 1 (.slice (some ⟨g2, 0, .none⟩) (es.length + 1) cap2) (es.length + 1) (es.map (fun e => .string e.path) ++ [.string e.path]) := ownsRow_kept hown2 (fun g hg => hk3 g (hown2.lt g hg).2 (fun eq => by cases hg; exact hg2w eq))
  have hs3 : W3.heap.size = w2.heap.size + 1 := by rw [hW3]; simp
  have hc3 : W3.cell? ⟨w2.heap.size, 0, .none⟩ = some (.iface T nv) := by
    rw [hW3]; have := (cell_new_l (w2.setCell ⟨bt, 0, .none⟩ (.slice (some ⟨g2, 0, .none⟩) (es.length + 1) cap2)) (.iface T nv) 63).1; simpa using this
  refine (unhid HIN vn es.length _ w2.heap.size W3 (by omega) (by omega) h33 hc3).mono ?_
  rintro x w4 ⟨v4, rfl, hown4, hgrow4, -⟩
  obtain ⟨g4, cap4, rfl⟩ := ownsRow_succ hown4
  have h14 : w4.heap[bt]? = some (.cells #[.slice (some ⟨g2, 0, .none⟩) (es.length + 1) cap2, vn] 59 (0, 0)) := (hgrow4.block bt (by omega) (row_ne h33 h13 (by decide))).trans h13
  have hrow4 : w4.ownsRow N 9 1 (.slice (some ⟨g2, 0, .none⟩) (es.length + 1) cap2) (es.length + 1) (es.map (fun e => .string e.path) ++ [.string e.path]) := ownsRow_kept hown3 (fun g hg => hgrow4.block g (hown3.lt g hg).2 (by
    rcases hown3.2 with ⟨h, _⟩ | ⟨g', cap', cur', hv, _, hgc, _⟩
    · cases h
    · cases hv; cases hg; exact row_ne h33 hgc (by decide)))
  obtain ⟨c0, c1, f0, f1⟩ := two_cells h14
  have hg4w : g4 ≠ bt := fun eq => by
    rcases hown4.2 with ⟨h, _⟩ | ⟨g', cap', cur', hv, _, hgc, _⟩
    · cases h
    · cases hv; exact type_ne hgc h14 (by decide) eq
  have hF : TreeAt (w4.setCell ⟨bt, 1, .none⟩ (.slice (some ⟨g4, 0, .none⟩) (es.length + 1) cap4)) N bt (es ++ [e]) := by
    refine ⟨.slice (some ⟨g2, 0, .none⟩) (es.length + 1) cap2, .slice (some ⟨g4, 0, .none⟩) (es.length + 1) cap4, ?_, ?_, ?_⟩
    · rw [heap_setCell_same _ bt 1 _ _ _ h14]; rfl
    · rw [List.length_append, List.map_append]
      exact ownsRow_kept hrow4 (fun g hg => Below.heap_setCell _ _ _ _ (fun eq => by cases hg; exact hg2w eq))
    · rw [List.length_append, List.map_append]
      rw [← unhid HV] at hown4
      exact ownsRow_kept hown4 (fun g hg => Below.heap_setCell _ _ _ _ (fun eq => by cases hg; exact hg4w eq))
  have hB : Below N w (w4.setCell ⟨bt, 1, .none⟩ (.slice (some ⟨g4, 0, .none⟩) (es.length + 1) cap4)) := by
    have b1 : Below N w (w.alloc (.cells #[.string e.path] 9)) := (Below.refl _ _).alloc (by omega) _
    have b2 : Below N w w2 := b1.grown hgrow2 (by simp; omega) (fun g hg => (((unhid H2).alloc (.cells #[.string e.path] 9)).lt g hg).1)
    have b3 : Below N w W3 := by rw [hW3]; exact (b2.setCell hN _).alloc (by simp; omega) _
    have b4 : Below N w w4 := b3.grown hgrow4 (by omega) (fun g hg => (h33.lt g hg).1)
    exact b4.setCell hN _
  have hO : ∀ k o, k ≠ bt → w.heap[k]? = some o → Apart o → (w4.setCell ⟨bt, 1, .none⟩ (.slice (some ⟨g4, 0, .none⟩) (es.length + 1) cap4)).heap[k]? = some o := by
    intro k o hk ho hap
    have hkl : k < w.heap.size := (Array.getElem?_eq_some_iff.1 ho).1
    have a1 : (w.alloc (.cells #[.string e.path] 9)).heap[k]? = some o := (Below.heap_alloc _ _ _ hkl).trans ho
    have a2 : w2.heap[k]? = some o := (hgrow2.block k (by simp; omega) (fun eq => by
      rcases ((unhid H2).alloc (.cells #[.string e.path] 9)).2 with ⟨h, _⟩ | ⟨g', cap', cur', hv, _, hgc, _⟩
      · rw [h] at eq; cases eq
      · rw [hv] at eq; cases eq; rw [a1] at hgc; cases hgc; exact (hap _ _ _ rfl).1 rfl)).trans a1
    have a3 : W3.heap[k]? = some o := (hk3 k (by omega) hk).trans a2
    have a4 : w4.heap[k]? = some o := (hgrow4.block k (by omega) (fun eq => by
      rcases h33.2 with ⟨h, _⟩ | ⟨g', cap', cur', hv, _, hgc, _⟩
      · rw [h] at eq; cases eq
      · rw [hv] at eq; cases eq; rw [a3] at hgc; cases hgc; exact (hap _ _ _ rfl).2 rfl)).trans a3
    exact (Below.heap_setCell _ _ _ _ hk).trans a4
  have HF := hid (And.intro hF (And.intro hB hO))
  clear hF hB hO hown4 hgrow4 h14 hrow4 h13 hk3 h33 hown3 hc3 hW3 hown2 hgrow2 h12 h32 HB2
  go_wp2_with fail
  go_end0
  exact ⟨⟨_, rfl⟩, unhid HF⟩
end Go.Proofs.Ytlnehebihfeegaa

/- The library's Insert in the midst of a row: of texts, and of what stands at paths. -/
namespace Go.Proofs.Ytlnehebihfeegaa
open Go.RowKit Go.Shelf Go.Lib

theorem heap_cells_put (g : Nat) (t : TypeId) : ∀ (vs : List Value) (o : Nat) (w : World) (cs : Array Value), w.heap[g]? = some (.cells cs t (0, 0)) →
    ∃ cs' : Array Value, (w.setCells g o vs).heap[g]? = some (.cells cs' t (0, 0)) ∧ cs'.size = cs.size ∧ ∀ k, k < cs.size → cs'[k]? = if o ≤ k ∧ k < o + vs.length then vs[k - o]? else cs[k]?
  | [], o, w, cs, h => ⟨cs, h, rfl, fun k _ => by rw [if_neg (by rintro ⟨h1, h2⟩; simp at h2; omega)]⟩
  | v :: r, o, w, cs, h => by
    obtain ⟨cs', h1, h2, h3⟩ := heap_cells_put g t r (o + 1) (w.setCell ⟨g, o, none⟩ v) _ (heap_setCell_same w g o cs t v h)
    refine ⟨cs', h1, by rw [h2]; simp, fun k hk => ?_⟩
    rw [h3 k (by simpa using hk)]
    by_cases hin : o + 1 ≤ k ∧ k < o + 1 + r.length
    · rw [if_pos hin, if_pos ⟨by omega, by simp; omega⟩, show k - o = (k - (o + 1)) + 1 by omega, List.getElem?_cons_succ]
    · rw [if_neg hin]
      by_cases he : k = o
      · subst he
        rw [if_pos ⟨Nat.le_refl _, by simp⟩, Nat.sub_self]
        simp [hk]
      · rw [if_neg (by simp; omega)]
        rw [Array.getElem?_setIfInBounds_ne (fun e : o = k => he e.symm)]
theorem grown_cells_put (g : Nat) {w0 : World} {row : Option Nat} (hg : ∀ k, k < w0.heap.size → some k ≠ row → k ≠ g) : ∀ (vs : List Value) (o : Nat) (w : World), w0.grownBy w row → w0.grownBy (w.setCells g o vs) row
  | [], _, _, h => h
  | v :: r, o, w, h => grown_cells_put g hg r (o + 1) _ ⟨h.os, h.tape, h.output, by simpa using h.size, fun k hk hne => (heap_setCell_other w ⟨g, o, none⟩ k v (hg k hk hne)).trans (h.block k hk hne)⟩
theorem grown_drew {w0 w : World} {row : Option Nat} (h : w0.grownBy w row) : w0.grownBy w.drew row := ⟨h.os, h.tape, h.output, h.size, h.block⟩
theorem grown_refl (w : World) (row : Option Nat) : w.grownBy w row := ⟨rfl, rfl, rfl, Nat.le_refl _, fun _ _ _ => rfl⟩
theorem take_mid {cur : List Value} {xs : List Value} {n i : Nat} {p : Value} {cs : Array Value} (hx : cur.take n = xs) (hi : i ≤ n) (hl : n ≤ cur.length)
    (h : ∀ k, k < n + 1 → cs[k]? = if k < i then xs[k]? else if k = i then some p else xs[k - 1]?) : cs.toList.take (n + 1) = xs.take i ++ [p] ++ xs.drop i := by
  have hxl : xs.length = n := by rw [← hx, List.length_take]; omega
  apply List.ext_getElem?
  intro k
  rw [List.getElem?_take]
  by_cases hk : k < n + 1
  · rw [if_pos hk, Array.getElem?_toList, h k hk, List.append_assoc, List.getElem?_append, List.length_take, Nat.min_eq_left (by omega)]
    by_cases h1 : k < i
    · rw [if_pos h1, if_pos h1, List.getElem?_take_of_lt h1]
    · rw [if_neg h1, if_neg h1]
      by_cases h2 : k = i
      · rw [if_pos h2, h2, Nat.sub_self]; rfl
      · rw [if_neg h2, show k - i = (k - 1 - i) + 1 by omega, List.singleton_append, List.getElem?_cons_succ, List.getElem?_drop, show i + (k - 1 - i) = k - 1 by omega]
  · rw [if_neg hk, List.getElem?_eq_none]
    simp; omega

set_option maxHeartbeats 4000000 in
set_option maxRecDepth 100000 in
theorem InsertS_mid (N n c i g b : Nat) (cur : Array Value) (xs : List Value) (p : Value) (hp : p.oneCell' = true) (w : World) (hi : i < n) (hnc : n ≤ c) (hc63 : c ≤ maxLen) (hn : n ≤ 1000) (hN : N ≤ g) (hNw : N ≤ w.heap.size) (hg : w.heap[g]? = some (.cells cur 9 (0, 0))) (hsz : cur.size = c) (hxs : cur.toList.take n = xs) (hbg : b ≠ g) (hb : w.heap[b]? = some (.cells #[p] 9 (0, 0))) (h1 : ∀ v ∈ xs, v.oneCell' = true) :
    Calls Try.prog 84 #[.slice (some ⟨g, 0, .none⟩) n c, .int .i64 i, .slice (some ⟨b, 0, .none⟩) 1 1] w fun x w' => ∃ v', x = .returned v' ∧ w'.ownsRow N 9 1 v' (n + 1) (xs.take i ++ [p] ++ xs.drop i) ∧ w.grownBy w' (some g) ∧ (v'.ownBlock = some g ∨ v'.ownBlock = some w.heap.size) := by
  have hxl : xs.length = n := by rw [← hxs, List.length_take, Array.length_toList]; omega
  have hcs : ∀ j v, xs[j]? = some v → w.cell? ⟨g, 0 + j, none⟩ = some v := fun j v hj => by
    have hjn : j < n := by rw [← hxl]; exact (List.getElem?_eq_some_iff.1 hj).1
    rw [← hxs, List.getElem?_take_of_lt hjn, Array.getElem?_toList] at hj
    rw [Nat.zero_add]
    simp [World.cell?, hg, hj]
  have hvs : ∀ j v, [p][j]? = some v → w.cell? ⟨b, 0 + j, none⟩ = some v := fun j v hj => by
    match j with
    | 0 => simp at hj; subst hj; simp [World.cell?, hb]
    | j + 1 => simp at hj
  have h1v : ∀ v ∈ [p], v.oneCell' = true := fun v hv => by simp at hv; subst hv; exact hp
  have ht := Try.underlying54
  have ht3 := Try.underlying3
  obtain ⟨i0, hi0, hz0, hzs, hzb⟩ := info_parts info9
  have hzz : (Try.prog.info? 9).map (·.size) = some 1 := by rw [hi0]; simp [hzs]
  have hdl : (xs.drop i).length = n - i := by rw [List.length_drop, hxl]
  have hgl : g < w.heap.size := (Array.getElem?_eq_some_iff.1 hg).1
  have hbl : b < w.heap.size := (Array.getElem?_eq_some_iff.1 hb).1
  unfold maxLen at hc63
  have mixed : Try.prog.follows .mixedOrders = true := by kernel_rfl
  have hw1 : IntKind.i64.wrap ((i : Int) + 1) = (i : Int) + 1 := by rw [IntKind.wrap_i64]; omega
  have hw2 : IntKind.i64.wrap ((n : Int) + 1) = (n : Int) + 1 := by rw [IntKind.wrap_i64]; omega
  have hz2 : ¬ ((i : Int) = (n : Int)) := by omega
  have htn : ((i : Int) + 1).toNat = i + 1 := by omega
  have hin : i ≤ n := by omega
  have hb1 : (0 : Int) ≤ (i : Int) + 1 := by omega
  have hb3 : (i : Int) ≤ (n : Int) + 1 := by omega
  by_cases hroom : n + 1 ≤ c
  · have hsp : ∀ j, j < n + 1 → (w.cell? ⟨g, 0 + j, none⟩).isSome = true := fun j hj => by
      rw [Nat.zero_add]; simp [World.cell?, hg]; omega
    have hfz : ∀ j, w.frozen? ⟨g, j, none⟩ = false := fun j => by simp [World.frozen?, hg]
    have hov : ∀ lb cb, (callFunc 109 #[.slice (some ⟨b, 0, none⟩) 1 1, .slice (some ⟨g, i + 1, none⟩) lb cb]).run Try.prog w = .ok (.value (.bool false)) w := fun lb cb => by
      rw [run_callFunc_extern Try.func109 (by kernel_rfl) (by kernel_rfl) (by kernel_rfl) (e := Extern.SlicesOverlaps.overlaps #[54, 54] #[4]) (by kernel_rfl),
        Lib.run_overlaps_apart w 54 4 9 ht 1 (fun w => by kernel_rfl) ⟨b, 0, none⟩ ⟨g, i + 1, none⟩ 1 1 lb cb hbg 9 9 1 c (by simp [World.shape?, hb]) (by simp [World.shape?, hg, hsz]) (by omega) (by simp [World.frozen?, hb]) (by simp [World.frozen?, hb])]
      rfl
    have hcp1 : ∀ ty dc sc, (Builtin.copy_ #[54, 54] ty #[.slice (some ⟨g, i + 1, none⟩) (n - i) dc, .slice (some ⟨g, i, none⟩) (n + 1 - i) sc]).run Try.prog w.drew = .ok (goInt (xs.drop i).length) (w.drew.setCells g (i + 1) (xs.drop i)) := fun ty dc sc =>
      run_copy_cells w.drew _ _ ty 9 g (i + 1) (n - i) dc ⟨g, i, none⟩ (n + 1 - i) sc (xs.drop i) ht hzz (by rw [hdl]; simp only [Nat.min_def]; split <;> omega)
        (fun j v hj => by rw [Addr.add_lit]; have := hcs (i + j) v (by rwa [List.getElem?_drop] at hj); rwa [Nat.zero_add] at this)
        (fun j hj => by have := hsp (i + 1 + j) (by omega); rwa [Nat.zero_add] at this) (fun j hj => hfz _) (fun v hv => h1 v (List.mem_of_mem_drop hv))
    obtain ⟨W1, hW1⟩ : ∃ W1, W1 = w.drew.setCells g (i + 1) (xs.drop i) := ⟨_, rfl⟩
    have hsp1 : ∀ k, k < n + 1 → (W1.cell? ⟨g, k, none⟩).isSome = true := fun k hk => by
      rw [hW1]
      exact isSome_setCells g _ _ _ (fun j hj => by have := hsp (i + 1 + j) (by omega); rwa [Nat.zero_add] at this) _ (by have := hsp k hk; rwa [Nat.zero_add] at this)
    have hcp2 : ∀ (W : World), (∀ x, W.cell? x = W1.cell? x) → (∀ x, W.frozen? x = W1.frozen? x) → ∀ ty dc, (Builtin.copy_ #[54, 54] ty #[.slice (some ⟨g, i, none⟩) (n + 1 - i) dc, .slice (some ⟨b, 0, none⟩) 1 1]).run Try.prog W = .ok (goInt [p].length) (W.setCells g i [p]) := fun W hWc hWf ty dc =>
      run_copy_cells W _ _ ty 9 g i (n + 1 - i) dc ⟨b, 0, none⟩ 1 1 [p] ht hzz (by simp only [Nat.min_def, List.length_singleton]; split <;> omega)
        (fun j v hj => by
          rw [Addr.add_lit, hWc, hW1, World.cell?_setCells_out g _ _ _ _ (fun h _ => absurd h hbg)]
          exact hvs j v hj)
        (fun j hj => by rw [hWc]; exact hsp1 _ (by simp at hj; omega)) (fun j hj => by rw [hWf, hW1, World.frozen?_setCells]; exact hfz _) h1v
    rw [← hW1] at hcp1
    have FIN : ∃ v', (Ending.returned (.slice (some ⟨g, 0, none⟩) (n + 1) c)) = .returned v' ∧ (W1.setCells g i [p]).ownsRow N 9 1 v' (n + 1) (xs.take i ++ [p] ++ xs.drop i) ∧ w.grownBy (W1.setCells g i [p]) (some g) ∧ (v'.ownBlock = some g ∨ v'.ownBlock = some w.heap.size) := by
      refine ⟨_, rfl, ?_, ?_, .inl rfl⟩
      · obtain ⟨c1, q1, q2, q3⟩ := heap_cells_put g 9 (xs.drop i) (i + 1) w.drew cur hg
        rw [← hW1] at q1
        obtain ⟨c2, r1, r2, r3⟩ := heap_cells_put g 9 [p] i W1 c1 q1
        refine ⟨by simp [hxl]; omega, .inr ⟨g, c, c2, rfl, hN, r1, hroom, hc63, by rw [r2, q2, hsz]; omega, ?_⟩⟩
        rw [Nat.mul_one]
        refine take_mid (cur := cur.toList) (i := i) hxs (by omega) (by rw [Array.length_toList]; omega) (fun k hk => ?_)
        rw [r3 k (by omega)]
        by_cases k1 : k < i
        · rw [if_pos k1, if_neg (by omega), q3 k (by omega), if_neg (by omega), ← hxs, List.getElem?_take_of_lt (by omega), Array.getElem?_toList]
        · rw [if_neg k1]
          by_cases k2 : k = i
          · rw [if_pos k2, if_pos ⟨by omega, by simp; omega⟩, k2, Nat.sub_self]; rfl
          · rw [if_neg k2, if_neg (by simp; omega), q3 k (by omega), if_pos ⟨by omega, by rw [hdl]; omega⟩, List.getElem?_drop, show i + (k - (i + 1)) = k - 1 by omega]
      · rw [hW1]
        exact grown_cells_put g (fun k _ hk e => hk (by rw [e])) _ _ _ (grown_cells_put g (fun k _ hk e => hk (by rw [e])) _ _ _ (grown_drew (grown_refl _ _)))
    have HF := hid FIN
    have hz3 : ¬ ((c : Int) < (n : Int) + 1) := by omega
    have hb2 : ¬ (c = i + 1) := by omega
    have hb4 : ¬ (c = i) := by omega
    clear FIN hsz hxs hg hb hN hNw hcs hvs h1 h1v
    go_enter Try.func84, Try.ntmps84
    go_wp2_with (simp only [hov])
    go_region_law_o (refine step_copy_runI rfl _ _ 54 54 rfl _ _ (by simp [Act.eval, Act.put]) (by simp [Act.eval, Act.put]) (hcp1 _ _ _) ?_)
    go_wp2_with (at_builtin; refine wpList_copy_runI _ rfl _ _ 54 54 rfl _ _ rfl rfl (hcp2 _ (fun _ => rfl) (fun _ => rfl) _ _) ?_)
    go_ret
    obtain ⟨v', e1, e2, e3, e4⟩ := unhid HF
    cases e1
    rw [hW1] at e2 e3
    exact ⟨_, rfl, e2, e3, e4⟩
  · have hceq : c = n := by omega
    have hkk : (n : Int) + 1 - (i : Int) = ((n + 1 - i : Nat) : Int) := by omega
    have hik : i + (n + 1 - i) = n + 1 := by omega
    have hold : (Builtin.firstCells i0.size i (.slice (some ⟨g, 0, none⟩) i c)).run Try.prog w.drew = .ok (xs.take i).toArray w.drew := by
      rw [hzs]
      exact run_firstCells_some w.drew 1 i ⟨g, 0, none⟩ i c (xs.take i) (by rw [List.length_take]; omega) (fun j v hj => by
        rw [Addr.add_lit]
        rw [List.getElem?_take] at hj
        split at hj
        · exact hcs j v hj
        · cases hj)
    have hrz : ∀ ty, (Builtin.append_ #[54, 3] ty #[.slice (some ⟨g, 0, none⟩) i c, .int .i64 ((n : Int) + 1 - (i : Int))]).run Try.prog w =
        .ok (.slice (some ⟨w.heap.size, 0, none⟩) (n + 1) (grownCap w (n + 1) c 9)) (w.drew.alloc (.cells ((xs.take i).toArray ++ Builtin.zeroCells (Value.string ⟨#[]⟩).cells (n + 1 - i) ++ Builtin.zeroCells (Value.string ⟨#[]⟩).cells (grownCap w (n + 1) c 9 - (n + 1))) 9)) := fun ty => by
      have h := Lib.run_append_grow_zeros w 54 3 ty 9 i0 _ .i64 .i64 ht ht3 hi0 hz0 (some ⟨g, 0, none⟩) i c (xs.take i) hold (n + 1 - i) (by omega) (by omega) (by omega) (by omega) (by rw [hzb]; omega) (by rw [hzb, hik]; exact growslice_fits (by omega) (by omega))
      rw [hik] at h
      rw [hkk]
      exact h
    obtain ⟨G, hG⟩ : ∃ G, G = grownCap w (n + 1) c 9 := ⟨_, rfl⟩
    obtain ⟨ROW, hROW⟩ : ∃ ROW : Array Value, ROW = (xs.take i).toArray ++ Builtin.zeroCells (Value.string ⟨#[]⟩).cells (n + 1 - i) ++ Builtin.zeroCells (Value.string ⟨#[]⟩).cells (G - (n + 1)) := ⟨_, rfl⟩
    rw [← hG, ← hROW] at hrz
    have hGn : n + 1 ≤ G := by rw [hG]; exact grownCap_ge w _ _ _
    have hRs : ROW.size = G := by
      rw [hROW]
      simp [Builtin.zeroCells, Value.cells, hxl]
      omega
    have hRt : ∀ k, k < i → ROW[k]? = xs[k]? := fun k hk => by
      rw [hROW, Array.append_assoc, Array.getElem?_append_left (by simp [hxl]; omega)]
      simp [List.getElem?_take_of_lt hk]
    obtain ⟨W1, hW1⟩ : ∃ W1, W1 = w.drew.alloc (.cells ROW 9) := ⟨_, rfl⟩
    rw [← hW1] at hrz
    have hNew : W1.heap[w.heap.size]? = some (.cells ROW 9 (0, 0)) := by rw [hW1]; exact World.alloc_heap_new w.drew _
    have hNs : ∀ j, j < n + 1 → (W1.cell? ⟨w.heap.size, j, none⟩).isSome = true := fun j hj => by
      simp [World.cell?, hNew]; omega
    have hNf : ∀ j, W1.frozen? ⟨w.heap.size, j, none⟩ = false := fun j => by simp [World.frozen?, hNew]
    have hOb : ∀ j v, w.cell? ⟨g, j, none⟩ = some v → W1.cell? ⟨g, j, none⟩ = some v := fun j v h => by rw [hW1, World.cell?_alloc_past (w := w.drew) _ g j hgl]; exact h
    have hOv : ∀ j v, w.cell? ⟨b, j, none⟩ = some v → W1.cell? ⟨b, j, none⟩ = some v := fun j v h => by rw [hW1, World.cell?_alloc_past (w := w.drew) _ b j hbl]; exact h
    have hcpA : ∀ (W : World), (∀ x, W.cell? x = W1.cell? x) → (∀ x, W.frozen? x = W1.frozen? x) → ∀ ty dc, (Builtin.copy_ #[54, 54] ty #[.slice (some ⟨w.heap.size, i, none⟩) (n + 1 - i) dc, .slice (some ⟨b, 0, none⟩) 1 1]).run Try.prog W = .ok (goInt [p].length) (W.setCells w.heap.size i [p]) := fun W hWc hWf ty dc =>
      run_copy_cells W _ _ ty 9 w.heap.size i (n + 1 - i) dc ⟨b, 0, none⟩ 1 1 [p] ht hzz (by simp only [Nat.min_def, List.length_singleton]; split <;> omega)
        (fun j v hj => by rw [Addr.add_lit, hWc]; exact hOv _ v (hvs j v hj))
        (fun j hj => by rw [hWc]; exact hNs _ (by simp at hj; omega)) (fun j hj => by rw [hWf]; exact hNf _) h1v
    have hG63 : G ≤ 9223372036854775807 := by
      have := grownCap_le_maxLen w (n + 1) c 9 (by unfold maxLen; omega)
      rw [← hG] at this
      unfold maxLen at this
      omega
    have hgN : g ≠ w.heap.size := by omega
    have hcpB : ∀ (W : World), (∀ x, W.cell? x = (W1.setCells w.heap.size i [p]).cell? x) → (∀ x, W.frozen? x = (W1.setCells w.heap.size i [p]).frozen? x) → ∀ ty dc sc, (Builtin.copy_ #[54, 54] ty #[.slice (some ⟨w.heap.size, i + 1, none⟩) (n - i) dc, .slice (some ⟨g, i, none⟩) (n - i) sc]).run Try.prog W = .ok (goInt (xs.drop i).length) (W.setCells w.heap.size (i + 1) (xs.drop i)) := fun W hWc hWf ty dc sc =>
      run_copy_cells W _ _ ty 9 w.heap.size (i + 1) (n - i) dc ⟨g, i, none⟩ (n - i) sc (xs.drop i) ht hzz (by rw [hdl]; simp only [Nat.min_def]; split <;> omega)
        (fun j v hj => by
          rw [Addr.add_lit, hWc, World.cell?_setCells_out _ _ _ _ _ (fun h _ => absurd h hgN)]
          have := hcs (i + j) v (by rwa [List.getElem?_drop] at hj)
          rw [Nat.zero_add] at this
          exact hOb _ v this)
        (fun j hj => by rw [hWc]; exact isSome_setCells _ _ _ _ (fun t ht => hNs _ (by simp at ht; omega)) _ (hNs _ (by omega)))
        (fun j hj => by rw [hWf, World.frozen?_setCells]; exact hNf _) (fun v hv => h1 v (List.mem_of_mem_drop hv))
    have FIN : ∀ W2 : World, W2 = (((w.alloc (.cells ROW 9)).drew.setCells w.heap.size i [p]).drew).setCells w.heap.size (i + 1) (xs.drop i) → ∃ v', (Ending.returned (.slice (some ⟨w.heap.size, 0, none⟩) (n + 1) G)) = .returned v' ∧ W2.ownsRow N 9 1 v' (n + 1) (xs.take i ++ [p] ++ xs.drop i) ∧ w.grownBy W2 (some g) ∧ (v'.ownBlock = some g ∨ v'.ownBlock = some w.heap.size) := fun W2 hW2 => by
      refine ⟨_, rfl, ?_, ?_, .inr rfl⟩
      · obtain ⟨c1, q1, q2, q3⟩ := heap_cells_put w.heap.size 9 [p] i (w.alloc (.cells ROW 9)).drew ROW (World.alloc_heap_new w _)
        obtain ⟨c2, r1, r2, r3⟩ := heap_cells_put w.heap.size 9 (xs.drop i) (i + 1) ((w.alloc (.cells ROW 9)).drew.setCells w.heap.size i [p]).drew c1 q1
        rw [hW2]
        refine ⟨by simp [hxl]; omega, .inr ⟨w.heap.size, G, c2, rfl, hNw, r1, hGn, hG63, by rw [r2, q2, hRs]; omega, ?_⟩⟩
        rw [Nat.mul_one]
        refine take_mid (cur := cur.toList) (i := i) hxs (by omega) (by rw [Array.length_toList]; omega) (fun k hk => ?_)
        rw [r3 k (by omega)]
        by_cases k1 : k < i
        · rw [if_pos k1, if_neg (by omega), q3 k (by omega), if_neg (by omega), hRt k k1]
        · rw [if_neg k1]
          by_cases k2 : k = i
          · rw [if_pos k2, if_neg (by omega), q3 k (by omega), if_pos ⟨by omega, by simp; omega⟩, k2, Nat.sub_self]; rfl
          · rw [if_neg k2, if_pos ⟨by omega, by rw [hdl]; omega⟩, List.getElem?_drop, show i + (k - (i + 1)) = k - 1 by omega]
      · rw [hW2]
        exact grown_cells_put w.heap.size (fun k hk _ e => by omega) _ _ _ (grown_drew (grown_cells_put w.heap.size (fun k hk _ e => by omega) _ _ _ (grown_drew ⟨rfl, rfl, rfl, by simp, fun k hk _ => Below.heap_alloc _ _ _ hk⟩)))
    have HF := hid FIN
    have hGi : ¬ (G = i) := by omega
    have hGim : ¬ (G = i + 1) := by omega
    have hci : ¬ (c = i) := by omega
    have hz3 : (c : Int) < (n : Int) + 1 := by omega
    subst hW1
    have hE1 : ∀ x, ((w.alloc (.cells ROW 9)).drew).cell? x = (w.drew.alloc (.cells ROW 9)).cell? x := fun x => rfl
    have hE2 : ∀ x, ((w.alloc (.cells ROW 9)).drew).frozen? x = (w.drew.alloc (.cells ROW 9)).frozen? x := fun x => rfl
    have hF1 : ∀ x, (((w.alloc (.cells ROW 9)).drew.setCells w.heap.size i [p]).drew).cell? x = ((w.drew.alloc (.cells ROW 9)).setCells w.heap.size i [p]).cell? x := fun x => rfl
    have hF2 : ∀ x, (((w.alloc (.cells ROW 9)).drew.setCells w.heap.size i [p]).drew).frozen? x = ((w.drew.alloc (.cells ROW 9)).setCells w.heap.size i [p]).frozen? x := fun x => rfl
    have HRZ := hid hrz
    have HCA := hid (fun ty dc => hcpA _ hE1 hE2 ty dc)
    have HCB := hid (fun ty dc sc => hcpB _ hF1 hF2 ty dc sc)
    subst hceq
    clear FIN hkk hik hold hROW hG hRt hRs hNew hNs hNf hOb hOv hsz hxs hg hb hN hNw hcs hvs h1 h1v hE1 hE2 hF1 hF2 hcpA hcpB hrz hz3 hi0 hz0 hzs hzb hzz ht ht3 hroom hgl hbl hxl hdl
    go_enter Try.func84, Try.ntmps84
    go_wp2_with (at_builtin; refine Lib.wpList_append_run _ rfl _ _ _ _ rfl (.slice (some ⟨g, 0, none⟩) i c) (.int .i64 ((c : Int) + 1 - (i : Int))) rfl rfl _ _ (unhid HRZ _) ?_; clear HRZ; have hcA := unhid HCA; clear HCA; go_wp2_with (simp only [hcA]); clear hcA)
    have HCB1 := hid (unhid HCB 3 (G - (i + 1)) (c - i))
    clear HCB
    go_region_law_o (refine step_copy_runI rfl _ _ 54 54 rfl (.slice (some ⟨w.heap.size, i + 1, none⟩) (c - i) (G - (i + 1))) (.slice (some ⟨g, i, none⟩) (c - i) (c - i)) (by simp [Act.eval, Act.put]) (by simp [Act.eval, Act.put]) (unhid HCB1) ?_)
    go_wp2
    go_ret
    obtain ⟨v', e1, e2, e3, e4⟩ := unhid HF _ rfl
    cases e1
    exact ⟨_, rfl, e2, e3, e4⟩

set_option maxHeartbeats 4000000 in
set_option maxRecDepth 100000 in
theorem InsertN_mid (N n c i g b : Nat) (cur : Array Value) (xs : List Value) (p : Value) (hp : p.oneCell' = true) (w : World) (hi : i < n) (hnc : n ≤ c) (hc63 : c ≤ maxLen) (hn : n ≤ 1000) (hN : N ≤ g) (hNw : N ≤ w.heap.size) (hg : w.heap[g]? = some (.cells cur 63 (0, 0))) (hsz : cur.size = c) (hxs : cur.toList.take n = xs) (hbg : b ≠ g) (hb : w.heap[b]? = some (.cells #[p] 63 (0, 0))) (h1 : ∀ v ∈ xs, v.oneCell' = true) :
    Calls Try.prog 85 #[.slice (some ⟨g, 0, .none⟩) n c, .int .i64 i, .slice (some ⟨b, 0, .none⟩) 1 1] w fun x w' => ∃ v', x = .returned v' ∧ w'.ownsRow N 63 1 v' (n + 1) (xs.take i ++ [p] ++ xs.drop i) ∧ w.grownBy w' (some g) ∧ (v'.ownBlock = some g ∨ v'.ownBlock = some w.heap.size) := by
  have hxl : xs.length = n := by rw [← hxs, List.length_take, Array.length_toList]; omega
  have hcs : ∀ j v, xs[j]? = some v → w.cell? ⟨g, 0 + j, none⟩ = some v := fun j v hj => by
    have hjn : j < n := by rw [← hxl]; exact (List.getElem?_eq_some_iff.1 hj).1
    rw [← hxs, List.getElem?_take_of_lt hjn, Array.getElem?_toList] at hj
    rw [Nat.zero_add]
    simp [World.cell?, hg, hj]
  have hvs : ∀ j v, [p][j]? = some v → w.cell? ⟨b, 0 + j, none⟩ = some v := fun j v hj => by
    match j with
    | 0 => simp at hj; subst hj; simp [World.cell?, hb]
    | j + 1 => simp at hj
  have h1v : ∀ v ∈ [p], v.oneCell' = true := fun v hv => by simp at hv; subst hv; exact hp
  have ht := Try.underlying55
  have ht3 := Try.underlying3
  obtain ⟨i0, hi0, hz0, hzs, hzb⟩ := info_parts infoNode
  have hzz : (Try.prog.info? 63).map (·.size) = some 1 := by rw [hi0]; simp [hzs]
  have hdl : (xs.drop i).length = n - i := by rw [List.length_drop, hxl]
  have hgl : g < w.heap.size := (Array.getElem?_eq_some_iff.1 hg).1
  have hbl : b < w.heap.size := (Array.getElem?_eq_some_iff.1 hb).1
  unfold maxLen at hc63
  have mixed : Try.prog.follows .mixedOrders = true := by kernel_rfl
  have hw1 : IntKind.i64.wrap ((i : Int) + 1) = (i : Int) + 1 := by rw [IntKind.wrap_i64]; omega
  have hw2 : IntKind.i64.wrap ((n : Int) + 1) = (n : Int) + 1 := by rw [IntKind.wrap_i64]; omega
  have hz2 : ¬ ((i : Int) = (n : Int)) := by omega
  have htn : ((i : Int) + 1).toNat = i + 1 := by omega
  have hin : i ≤ n := by omega
  have hb1 : (0 : Int) ≤ (i : Int) + 1 := by omega
  have hb3 : (i : Int) ≤ (n : Int) + 1 := by omega
  by_cases hroom : n + 1 ≤ c
  · have hsp : ∀ j, j < n + 1 → (w.cell? ⟨g, 0 + j, none⟩).isSome = true := fun j hj => by
      rw [Nat.zero_add]; simp [World.cell?, hg]; omega
    have hfz : ∀ j, w.frozen? ⟨g, j, none⟩ = false := fun j => by simp [World.frozen?, hg]
    have hov : ∀ lb cb, (callFunc 111 #[.slice (some ⟨b, 0, none⟩) 1 1, .slice (some ⟨g, i + 1, none⟩) lb cb]).run Try.prog w = .ok (.value (.bool false)) w := fun lb cb => by
      rw [run_callFunc_extern Try.func111 (by kernel_rfl) (by kernel_rfl) (by kernel_rfl) (e := Extern.SlicesOverlaps.overlaps #[55, 55] #[4]) (by kernel_rfl),
        Lib.run_overlaps_apart w 55 4 63 ht 1 (fun w => by kernel_rfl) ⟨b, 0, none⟩ ⟨g, i + 1, none⟩ 1 1 lb cb hbg 63 63 1 c (by simp [World.shape?, hb]) (by simp [World.shape?, hg, hsz]) (by omega) (by simp [World.frozen?, hb]) (by simp [World.frozen?, hb])]
      rfl
    have hcp1 : ∀ ty dc sc, (Builtin.copy_ #[55, 55] ty #[.slice (some ⟨g, i + 1, none⟩) (n - i) dc, .slice (some ⟨g, i, none⟩) (n + 1 - i) sc]).run Try.prog w.drew = .ok (goInt (xs.drop i).length) (w.drew.setCells g (i + 1) (xs.drop i)) := fun ty dc sc =>
      run_copy_cells w.drew _ _ ty 63 g (i + 1) (n - i) dc ⟨g, i, none⟩ (n + 1 - i) sc (xs.drop i) ht hzz (by rw [hdl]; simp only [Nat.min_def]; split <;> omega)
        (fun j v hj => by rw [Addr.add_lit]; have := hcs (i + j) v (by rwa [List.getElem?_drop] at hj); rwa [Nat.zero_add] at this)
        (fun j hj => by have := hsp (i + 1 + j) (by omega); rwa [Nat.zero_add] at this) (fun j hj => hfz _) (fun v hv => h1 v (List.mem_of_mem_drop hv))
    obtain ⟨W1, hW1⟩ : ∃ W1, W1 = w.drew.setCells g (i + 1) (xs.drop i) := ⟨_, rfl⟩
    have hsp1 : ∀ k, k < n + 1 → (W1.cell? ⟨g, k, none⟩).isSome = true := fun k hk => by
      rw [hW1]
      exact isSome_setCells g _ _ _ (fun j hj => by have := hsp (i + 1 + j) (by omega); rwa [Nat.zero_add] at this) _ (by have := hsp k hk; rwa [Nat.zero_add] at this)
    have hcp2 : ∀ (W : World), (∀ x, W.cell? x = W1.cell? x) → (∀ x, W.frozen? x = W1.frozen? x) → ∀ ty dc, (Builtin.copy_ #[55, 55] ty #[.slice (some ⟨g, i, none⟩) (n + 1 - i) dc, .slice (some ⟨b, 0, none⟩) 1 1]).run Try.prog W = .ok (goInt [p].length) (W.setCells g i [p]) := fun W hWc hWf ty dc =>
      run_copy_cells W _ _ ty 63 g i (n + 1 - i) dc ⟨b, 0, none⟩ 1 1 [p] ht hzz (by simp only [Nat.min_def, List.length_singleton]; split <;> omega)
        (fun j v hj => by
          rw [Addr.add_lit, hWc, hW1, World.cell?_setCells_out g _ _ _ _ (fun h _ => absurd h hbg)]
          exact hvs j v hj)
        (fun j hj => by rw [hWc]; exact hsp1 _ (by simp at hj; omega)) (fun j hj => by rw [hWf, hW1, World.frozen?_setCells]; exact hfz _) h1v
    rw [← hW1] at hcp1
    have FIN : ∃ v', (Ending.returned (.slice (some ⟨g, 0, none⟩) (n + 1) c)) = .returned v' ∧ (W1.setCells g i [p]).ownsRow N 63 1 v' (n + 1) (xs.take i ++ [p] ++ xs.drop i) ∧ w.grownBy (W1.setCells g i [p]) (some g) ∧ (v'.ownBlock = some g ∨ v'.ownBlock = some w.heap.size) := by
      refine ⟨_, rfl, ?_, ?_, .inl rfl⟩
      · obtain ⟨c1, q1, q2, q3⟩ := heap_cells_put g 63 (xs.drop i) (i + 1) w.drew cur hg
        rw [← hW1] at q1
        obtain ⟨c2, r1, r2, r3⟩ := heap_cells_put g 63 [p] i W1 c1 q1
        refine ⟨by simp [hxl]; omega, .inr ⟨g, c, c2, rfl, hN, r1, hroom, hc63, by rw [r2, q2, hsz]; omega, ?_⟩⟩
        rw [Nat.mul_one]
        refine take_mid (cur := cur.toList) (i := i) hxs (by omega) (by rw [Array.length_toList]; omega) (fun k hk => ?_)
        rw [r3 k (by omega)]
        by_cases k1 : k < i
        · rw [if_pos k1, if_neg (by omega), q3 k (by omega), if_neg (by omega), ← hxs, List.getElem?_take_of_lt (by omega), Array.getElem?_toList]
        · rw [if_neg k1]
          by_cases k2 : k = i
          · rw [if_pos k2, if_pos ⟨by omega, by simp; omega⟩, k2, Nat.sub_self]; rfl
          · rw [if_neg k2, if_neg (by simp; omega), q3 k (by omega), if_pos ⟨by omega, by rw [hdl]; omega⟩, List.getElem?_drop, show i + (k - (i + 1)) = k - 1 by omega]
      · rw [hW1]
        exact grown_cells_put g (fun k _ hk e => hk (by rw [e])) _ _ _ (grown_cells_put g (fun k _ hk e => hk (by rw [e])) _ _ _ (grown_drew (grown_refl _ _)))
    have HF := hid FIN
    have hz3 : ¬ ((c : Int) < (n : Int) + 1) := by omega
    have hb2 : ¬ (c = i + 1) := by omega
    have hb4 : ¬ (c = i) := by omega
    clear FIN hsz hxs hg hb hN hNw hcs hvs h1 h1v
    go_enter Try.func85, Try.ntmps85
    go_wp2_with (simp only [hov])
    go_region_law_o (refine step_copy_runI rfl _ _ 55 55 rfl _ _ (by simp [Act.eval, Act.put]) (by simp [Act.eval, Act.put]) (hcp1 _ _ _) ?_)
    go_wp2_with (at_builtin; refine wpList_copy_runI _ rfl _ _ 55 55 rfl _ _ rfl rfl (hcp2 _ (fun _ => rfl) (fun _ => rfl) _ _) ?_)
    go_ret
    obtain ⟨v', e1, e2, e3, e4⟩ := unhid HF
    cases e1
    rw [hW1] at e2 e3
    exact ⟨_, rfl, e2, e3, e4⟩
  · have hceq : c = n := by omega
    have hkk : (n : Int) + 1 - (i : Int) = ((n + 1 - i : Nat) : Int) := by omega
    have hik : i + (n + 1 - i) = n + 1 := by omega
    have hold : (Builtin.firstCells i0.size i (.slice (some ⟨g, 0, none⟩) i c)).run Try.prog w.drew = .ok (xs.take i).toArray w.drew := by
      rw [hzs]
      exact run_firstCells_some w.drew 1 i ⟨g, 0, none⟩ i c (xs.take i) (by rw [List.length_take]; omega) (fun j v hj => by
        rw [Addr.add_lit]
        rw [List.getElem?_take] at hj
        split at hj
        · exact hcs j v hj
        · cases hj)
    have hrz : ∀ ty, (Builtin.append_ #[55, 3] ty #[.slice (some ⟨g, 0, none⟩) i c, .int .i64 ((n : Int) + 1 - (i : Int))]).run Try.prog w =
        .ok (.slice (some ⟨w.heap.size, 0, none⟩) (n + 1) (grownCap w (n + 1) c 63)) (w.drew.alloc (.cells ((xs.take i).toArray ++ Builtin.zeroCells (Value.nilIface).cells (n + 1 - i) ++ Builtin.zeroCells (Value.nilIface).cells (grownCap w (n + 1) c 63 - (n + 1))) 63)) := fun ty => by
      have h := Lib.run_append_grow_zeros w 55 3 ty 63 i0 _ .i64 .i64 ht ht3 hi0 hz0 (some ⟨g, 0, none⟩) i c (xs.take i) hold (n + 1 - i) (by omega) (by omega) (by omega) (by omega) (by rw [hzb]; omega) (by rw [hzb, hik]; exact growslice_fits (by omega) (by omega))
      rw [hik] at h
      rw [hkk]
      exact h
    obtain ⟨G, hG⟩ : ∃ G, G = grownCap w (n + 1) c 63 := ⟨_, rfl⟩
    obtain ⟨ROW, hROW⟩ : ∃ ROW : Array Value, ROW = (xs.take i).toArray ++ Builtin.zeroCells (Value.nilIface).cells (n + 1 - i) ++ Builtin.zeroCells (Value.nilIface).cells (G - (n + 1)) := ⟨_, rfl⟩
    rw [← hG, ← hROW] at hrz
    have hGn : n + 1 ≤ G := by rw [hG]; exact grownCap_ge w _ _ _
    have hRs : ROW.size = G := by
      rw [hROW]
      simp [Builtin.zeroCells, Value.cells, hxl]
      omega
    have hRt : ∀ k, k < i → ROW[k]? = xs[k]? := fun k hk => by
      rw [hROW, Array.append_assoc, Array.getElem?_append_left (by simp [hxl]; omega)]
      simp [List.getElem?_take_of_lt hk]
    obtain ⟨W1, hW1⟩ : ∃ W1, W1 = w.drew.alloc (.cells ROW 63) := ⟨_, rfl⟩
    rw [← hW1] at hrz
    have hNew : W1.heap[w.heap.size]? = some (.cells ROW 63 (0, 0)) := by rw [hW1]; exact World.alloc_heap_new w.drew _
    have hNs : ∀ j, j < n + 1 → (W1.cell? ⟨w.heap.size, j, none⟩).isSome = true := fun j hj => by
      simp [World.cell?, hNew]; omega
    have hNf : ∀ j, W1.frozen? ⟨w.heap.size, j, none⟩ = false := fun j => by simp [World.frozen?, hNew]
    have hOb : ∀ j v, w.cell? ⟨g, j, none⟩ = some v → W1.cell? ⟨g, j, none⟩ = some v := fun j v h => by rw [hW1, World.cell?_alloc_past (w := w.drew) _ g j hgl]; exact h
    have hOv : ∀ j v, w.cell? ⟨b, j, none⟩ = some v → W1.cell? ⟨b, j, none⟩ = some v := fun j v h => by rw [hW1, World.cell?_alloc_past (w := w.drew) _ b j hbl]; exact h
    have hcpA : ∀ (W : World), (∀ x, W.cell? x = W1.cell? x) → (∀ x, W.frozen? x = W1.frozen? x) → ∀ ty dc, (Builtin.copy_ #[55, 55] ty #[.slice (some ⟨w.heap.size, i, none⟩) (n + 1 - i) dc, .slice (some ⟨b, 0, none⟩) 1 1]).run Try.prog W = .ok (goInt [p].length) (W.setCells w.heap.size i [p]) := fun W hWc hWf ty dc =>
      run_copy_cells W _ _ ty 63 w.heap.size i (n + 1 - i) dc ⟨b, 0, none⟩ 1 1 [p] ht hzz (by simp only [Nat.min_def, List.length_singleton]; split <;> omega)
        (fun j v hj => by rw [Addr.add_lit, hWc]; exact hOv _ v (hvs j v hj))
        (fun j hj => by rw [hWc]; exact hNs _ (by simp at hj; omega)) (fun j hj => by rw [hWf]; exact hNf _) h1v
    have hG63 : G ≤ 9223372036854775807 := by
      have := grownCap_le_maxLen w (n + 1) c 63 (by unfold maxLen; omega)
      rw [← hG] at this
      unfold maxLen at this
      omega
    have hgN : g ≠ w.heap.size := by omega
    have hcpB : ∀ (W : World), (∀ x, W.cell? x = (W1.setCells w.heap.size i [p]).cell? x) → (∀ x, W.frozen? x = (W1.setCells w.heap.size i [p]).frozen? x) → ∀ ty dc sc, (Builtin.copy_ #[55, 55] ty #[.slice (some ⟨w.heap.size, i + 1, none⟩) (n - i) dc, .slice (some ⟨g, i, none⟩) (n - i) sc]).run Try.prog W = .ok (goInt (xs.drop i).length) (W.setCells w.heap.size (i + 1) (xs.drop i)) := fun W hWc hWf ty dc sc =>
      run_copy_cells W _ _ ty 63 w.heap.size (i + 1) (n - i) dc ⟨g, i, none⟩ (n - i) sc (xs.drop i) ht hzz (by rw [hdl]; simp only [Nat.min_def]; split <;> omega)
        (fun j v hj => by
          rw [Addr.add_lit, hWc, World.cell?_setCells_out _ _ _ _ _ (fun h _ => absurd h hgN)]
          have := hcs (i + j) v (by rwa [List.getElem?_drop] at hj)
          rw [Nat.zero_add] at this
          exact hOb _ v this)
        (fun j hj => by rw [hWc]; exact isSome_setCells _ _ _ _ (fun t ht => hNs _ (by simp at ht; omega)) _ (hNs _ (by omega)))
        (fun j hj => by rw [hWf, World.frozen?_setCells]; exact hNf _) (fun v hv => h1 v (List.mem_of_mem_drop hv))
    have FIN : ∀ W2 : World, W2 = (((w.alloc (.cells ROW 63)).drew.setCells w.heap.size i [p]).drew).setCells w.heap.size (i + 1) (xs.drop i) → ∃ v', (Ending.returned (.slice (some ⟨w.heap.size, 0, none⟩) (n + 1) G)) = .returned v' ∧ W2.ownsRow N 63 1 v' (n + 1) (xs.take i ++ [p] ++ xs.drop i) ∧ w.grownBy W2 (some g) ∧ (v'.ownBlock = some g ∨ v'.ownBlock = some w.heap.size) := fun W2 hW2 => by
      refine ⟨_, rfl, ?_, ?_, .inr rfl⟩
      · obtain ⟨c1, q1, q2, q3⟩ := heap_cells_put w.heap.size 63 [p] i (w.alloc (.cells ROW 63)).drew ROW (World.alloc_heap_new w _)
        obtain ⟨c2, r1, r2, r3⟩ := heap_cells_put w.heap.size 63 (xs.drop i) (i + 1) ((w.alloc (.cells ROW 63)).drew.setCells w.heap.size i [p]).drew c1 q1
        rw [hW2]
        refine ⟨by simp [hxl]; omega, .inr ⟨w.heap.size, G, c2, rfl, hNw, r1, hGn, hG63, by rw [r2, q2, hRs]; omega, ?_⟩⟩
        rw [Nat.mul_one]
        refine take_mid (cur := cur.toList) (i := i) hxs (by omega) (by rw [Array.length_toList]; omega) (fun k hk => ?_)
        rw [r3 k (by omega)]
        by_cases k1 : k < i
        · rw [if_pos k1, if_neg (by omega), q3 k (by omega), if_neg (by omega), hRt k k1]
        · rw [if_neg k1]
          by_cases k2 : k = i
          · rw [if_pos k2, if_neg (by omega), q3 k (by omega), if_pos ⟨by omega, by simp; omega⟩, k2, Nat.sub_self]; rfl
          · rw [if_neg k2, if_pos ⟨by omega, by rw [hdl]; omega⟩, List.getElem?_drop, show i + (k - (i + 1)) = k - 1 by omega]
      · rw [hW2]
        exact grown_cells_put w.heap.size (fun k hk _ e => by omega) _ _ _ (grown_drew (grown_cells_put w.heap.size (fun k hk _ e => by omega) _ _ _ (grown_drew ⟨rfl, rfl, rfl, by simp, fun k hk _ => Below.heap_alloc _ _ _ hk⟩)))
    have HF := hid FIN
    have hGi : ¬ (G = i) := by omega
    have hGim : ¬ (G = i + 1) := by omega
    have hci : ¬ (c = i) := by omega
    have hz3 : (c : Int) < (n : Int) + 1 := by omega
    subst hW1
    have hE1 : ∀ x, ((w.alloc (.cells ROW 63)).drew).cell? x = (w.drew.alloc (.cells ROW 63)).cell? x := fun x => rfl
    have hE2 : ∀ x, ((w.alloc (.cells ROW 63)).drew).frozen? x = (w.drew.alloc (.cells ROW 63)).frozen? x := fun x => rfl
    have hF1 : ∀ x, (((w.alloc (.cells ROW 63)).drew.setCells w.heap.size i [p]).drew).cell? x = ((w.drew.alloc (.cells ROW 63)).setCells w.heap.size i [p]).cell? x := fun x => rfl
    have hF2 : ∀ x, (((w.alloc (.cells ROW 63)).drew.setCells w.heap.size i [p]).drew).frozen? x = ((w.drew.alloc (.cells ROW 63)).setCells w.heap.size i [p]).frozen? x := fun x => rfl
    have HRZ := hid hrz
    have HCA := hid (fun ty dc => hcpA _ hE1 hE2 ty dc)
    have HCB := hid (fun ty dc sc => hcpB _ hF1 hF2 ty dc sc)
    subst hceq
    clear FIN hkk hik hold hROW hG hRt hRs hNew hNs hNf hOb hOv hsz hxs hg hb hN hNw hcs hvs h1 h1v hE1 hE2 hF1 hF2 hcpA hcpB hrz hz3 hi0 hz0 hzs hzb hzz ht ht3 hroom hgl hbl hxl hdl
    go_enter Try.func85, Try.ntmps85
    go_wp2_with (at_builtin; refine Lib.wpList_append_run _ rfl _ _ _ _ rfl (.slice (some ⟨g, 0, none⟩) i c) (.int .i64 ((c : Int) + 1 - (i : Int))) rfl rfl _ _ (unhid HRZ _) ?_; clear HRZ; have hcA := unhid HCA; clear HCA; go_wp2_with (simp only [hcA]); clear hcA)
    have HCB1 := hid (unhid HCB 3 (G - (i + 1)) (c - i))
    clear HCB
    go_region_law_o (refine step_copy_runI rfl _ _ 55 55 rfl (.slice (some ⟨w.heap.size, i + 1, none⟩) (c - i) (G - (i + 1))) (.slice (some ⟨g, i, none⟩) (c - i) (c - i)) (by simp [Act.eval, Act.put]) (by simp [Act.eval, Act.put]) (unhid HCB1) ?_)
    go_wp2
    go_ret
    obtain ⟨v', e1, e2, e3, e4⟩ := unhid HF _ rfl
    cases e1
    exact ⟨_, rfl, e2, e3, e4⟩

theorem InsertS_any (N n i b : Nat) (v : Value) (xs : List Value) (p : ByteArray) (w : World) (hi : i ≤ n) (hn : n ≤ 1000) (hNw : N ≤ w.heap.size) (h : w.ownsRow N 9 1 v n xs) (hbo : v.ownBlock ≠ some b) (hb : w.heap[b]? = some (.cells #[.string p] 9 (0, 0))) (h1 : ∀ v ∈ xs, v.oneCell' = true) :
    Calls Try.prog 84 #[v, .int .i64 i, .slice (some ⟨b, 0, .none⟩) 1 1] w fun x w' => ∃ v', x = .returned v' ∧ w'.ownsRow N 9 1 v' (n + 1) (xs.take i ++ [.string p] ++ xs.drop i) ∧ w.grownBy w' v.ownBlock ∧ (v'.ownBlock = v.ownBlock ∨ v'.ownBlock = some w.heap.size) := by
  by_cases hin : i = n
  · subst hin
    have hxl : xs.length = i := by have := h.1; omega
    rw [List.take_of_length_le (by omega), List.drop_of_length_le (by omega), List.append_nil]
    exact InsertS_end N v i xs b p w hn hNw h (by simp [World.cell?, hb])
  · rcases h.2 with ⟨rfl, h0⟩ | ⟨g, cap, cur, rfl, hg0, hg, hc, hm, hsz, hcells⟩
    · omega
    · exact InsertS_mid N n cap i g b cur xs (.string p) rfl w (by omega) hc hm hn hg0 hNw hg (by omega) (by rw [← hcells, Nat.mul_one]) (fun e => hbo (by rw [e]; rfl)) hb h1

theorem InsertN_any (N n i b : Nat) (v : Value) (xs : List Value) (e : Ent) (w : World) (hi : i ≤ n) (hn : n ≤ 1000) (hNw : N ≤ w.heap.size) (h : w.ownsRow N 63 1 v n xs) (hbo : v.ownBlock ≠ some b) (hb : w.heap[b]? = some (.cells #[nodeV e] 63 (0, 0))) (h1 : ∀ v ∈ xs, v.oneCell' = true) :
    Calls Try.prog 85 #[v, .int .i64 i, .slice (some ⟨b, 0, .none⟩) 1 1] w fun x w' => ∃ v', x = .returned v' ∧ w'.ownsRow N 63 1 v' (n + 1) (xs.take i ++ [nodeV e] ++ xs.drop i) ∧ w.grownBy w' v.ownBlock ∧ (v'.ownBlock = v.ownBlock ∨ v'.ownBlock = some w.heap.size) := by
  by_cases hin : i = n
  · subst hin
    have hxl : xs.length = i := by have := h.1; omega
    rw [List.take_of_length_le (by omega), List.drop_of_length_le (by omega), List.append_nil]
    exact InsertN_end N v i xs b e w hn hNw h (by simp [World.cell?, hb])
  · rcases h.2 with ⟨rfl, h0⟩ | ⟨g, cap, cur, rfl, hg0, hg, hc, hm, hsz, hcells⟩
    · omega
    · exact InsertN_mid N n cap i g b cur xs (nodeV e) (nodeV_one e) w (by omega) hc hm hn hg0 hNw hg (by omega) (by rw [← hcells, Nat.mul_one]) (fun e => hbo (by rw [e]; rfl)) hb h1
end Go.Proofs.Ytlnehebihfeegaa
