/- Texts of this proof, one behind the other; each says at its head what it shows. -/
import Derived.Test.YtoihhlkidlapmaaGreatProg
import Derived.WalkKit
import Derived.WalkLawsBesides
import Derived.Deep.QuietTactic
import Derived.BigQuiet
import Derived.Outline
import Derived.RangeFuncNested
import Derived.RangeFuncBound
import Derived.RangeFuncCalls
import Derived.RangeFuncLeaves
import Derived.Shelf.Abstract
import Derived.Shelf.RegionOpen
import Derived.OwnWalkIn
import Derived.TacticsInMore
import Derived.LoopNIn
import Derived.LoopIn
import Derived.Lib.Strings
import Derived.Lib.Bytealg
import Derived.Laws.Externs
import Derived.Maps.AppendAt
import Derived.WalkSpells
import Derived.Deep.OwnRows
import Derived.Maps.OwnIn
import Derived.Deep.RegionWith
import Derived.Laws.Cover1
/- What the byte tests of the program and of its model answer: the byte is a figure, a letter, may stand in a name. -/
namespace Go.Proofs.YtoihhlkidlapmaaGreat
open Go.RowKit

theorem hid {p : Prop} (h : p) : Hid p := h
theorem unhid {p : Prop} (h : Hid p) : p := h

def figB (c : Int) : Bool := decide (48 ≤ c) && decide (c ≤ 57)
def letB (c : Int) : Bool := decide (97 ≤ c) && decide (c ≤ 122)
def nameB (c : Int) : Bool := figB c || letB c || c == 46 || c == 95 || c == 45

set_option maxHeartbeats 400000 in
theorem isFigure_any (c : Int) (w : World) :
    Calls Tryz.prog 181 #[.int .u8 c] w fun e w' => e = .returned (.bool (figB c)) ∧ w' = w := by
  by_cases h1 : 48 ≤ c <;> by_cases h2 : c ≤ 57 <;>
  · go_enter Tryz.func181, Tryz.ntmps181
    go_wp2
    go_ret
    exact ⟨by simp [figB, h1, h2], rfl⟩

set_option maxHeartbeats 400000 in
theorem isLetter_any (c : Int) (w : World) :
    Calls Tryz.prog 240 #[.int .u8 c] w fun e w' => e = .returned (.bool (letB c)) ∧ w' = w := by
  by_cases h1 : 97 ≤ c <;> by_cases h2 : c ≤ 122 <;>
  · go_enter Tryz.func240, Tryz.ntmps240
    go_wp2
    go_ret
    exact ⟨by simp [letB, h1, h2], rfl⟩

set_option maxHeartbeats 1000000 in
theorem isNameByte_any (c : Int) (w : World) :
    Calls Tryz.prog 239 #[.int .u8 c] w fun e w' => e = .returned (.bool (nameB c)) ∧ w' = w := by
  cases h1 : figB c
  case' false => cases h2 : letB c
  case' false.false => cases h3 : (c == 46)
  case' false.false.false => cases h4 : (c == 95)
  case' false.false.false.false => cases h5 : (c == 45)
  all_goals
    go_enter Tryz.func239, Tryz.ntmps239
    go_wp2_with (first | (go_at_call 181; refine (isFigure_any _ _).mono ?_; rintro e w' ⟨rfl, rfl⟩) | (go_at_call 240; refine (isLetter_any _ _).mono ?_; rintro e w' ⟨rfl, rfl⟩))
    go_ret
    exact ⟨by simp_all [nameB], rfl⟩

set_option maxHeartbeats 1000000 in
theorem l1Small_any (c : Int) (w : World) :
    Calls Tryz.prog 273 #[.int .u8 c] w fun e w' => e = .returned (.bool (nameB c)) ∧ w' = w := by
  by_cases h1 : 97 ≤ c <;> by_cases h2 : c ≤ 122 <;> by_cases h6 : 48 ≤ c <;> by_cases h7 : c ≤ 57 <;> cases h3 : (c == 46) <;> cases h4 : (c == 95) <;> cases h5 : (c == 45)
  all_goals first | (exfalso; simp at *; omega) | skip
  all_goals
    go_enter Tryz.func273, Tryz.ntmps273
    go_wp2
    go_ret
    exact ⟨by simp_all [nameB, figB, letB], rfl⟩

set_option maxHeartbeats 400000 in
theorem l1In_any (n a b : Int) (w : World) :
    Calls Tryz.prog 178 #[.int .i64 n, .int .i64 a, .int .i64 b] w fun e w' => e = .returned (.bool (decide (a ≤ n) && decide (n ≤ b))) ∧ w' = w := by
  by_cases h1 : a ≤ n <;> by_cases h2 : n ≤ b <;>
  · go_enter Tryz.func178, Tryz.ntmps178
    go_wp2
    go_ret
    exact ⟨by simp [h1, h2], rfl⟩

end Go.Proofs.YtoihhlkidlapmaaGreat

/- What the program's iterator over the bytes of a text tells, and 'all bytes of a text are taken by a function'. -/
namespace Go.Proofs.YtoihhlkidlapmaaGreat
open Go.RowKit Go.Shelf

attribute [local go_sem] Oper.semAt_some



theorem cell_of_box_l {W : World} {B : Nat} {v : Value} {t : TypeId} (h : W.heap[B]? = some (.cells #[v] t (0, 0))) : W.cell? ⟨B, 0, none⟩ = some v ∧ W.frozen? ⟨B, 0, none⟩ = false := by
  constructor <;> simp [World.cell?, World.frozen?, h]
theorem cell_new_l (W : World) (v : Value) (t : TypeId) : (W.alloc (.cells #[v] t)).cell? ⟨W.heap.size, 0, none⟩ = some v ∧ (W.alloc (.cells #[v] t)).frozen? ⟨W.heap.size, 0, none⟩ = false :=
  cell_of_box_l (World.alloc_heap_new W _)
theorem cell_alloc_l {W : World} {a : Addr} {v : Value} (o : Obj) (h : W.cell? a = some v) : (W.alloc o).cell? a = some v := cell_kept h (World.grownBy_alloc W o none) (fun r e => by cases e)
theorem frozen_alloc_l {W : World} {a : Addr} {v : Value} (o : Obj) (h : W.cell? a = some v) (hf : W.frozen? a = false) : (W.alloc o).frozen? a = false := (frozen_kept h (World.grownBy_alloc W o none) (fun r e => by cases e)).trans hf

/-- What the cells at the blocks of A hold stays. -/
def Keeps (A : List Nat) (W W' : World) : Prop := ∀ b, b ∈ A → ∀ v, W.cell? ⟨b, 0, none⟩ = some v → W'.cell? ⟨b, 0, none⟩ = some v
theorem Keeps.refl (A : List Nat) (W : World) : Keeps A W W := fun _ _ _ h => h
theorem Keeps.t {A : List Nat} {X Y Z : World} (h : Keeps A X Y) (g : Keeps A Y Z) : Keeps A X Z := fun b hb v e => g b hb v (h b hb v e)
theorem Keeps.b {A : List Nat} {m : Nat} (W : World) (l : Nat) (o o' : Obj) (_ : m ≤ l) (h : W.heap[l]? = some o) (hc : o.isCells = false) (_ : o.isWalk = false) : Keeps A W (W.putObj l o') :=
  fun _ _ _ e => cell_kept e (grownBy_putObj' _ l o') (fun r e' => by cases e'; exact ⟨_, h, hc⟩)
theorem Keeps.of_below {A : List Nat} {B : Nat} {W W' : World} (h : Below B W W') (hA : ∀ b ∈ A, b < B) : Keeps A W W' := fun b hb _ e => (h.cell (p := ⟨b, 0, none⟩) (hA b hb)).trans e

theorem KeepsOthers_of_below {W W' : World} (h : Below W.heap.size W W') : KeepsOthers W W' := ⟨h.size, fun k _ hk _ => (h.block k (Array.getElem?_eq_some_iff.1 hk).1).trans hk⟩
theorem Keeps.setCell {A : List Nat} (W : World) (b : Nat) (v : Value) (h : b ∉ A) : Keeps A W (W.setCell ⟨b, 0, none⟩ v) := fun c hc u e => by
  rw [World.cell?_of_block (w := W) (Below.heap_setCell W ⟨b, 0, none⟩ v c (fun x => h (by cases x; exact hc)))]; exact e
theorem set_same {W : World} {a : Addr} {u v : Value} (h : W.cell? a = some u) : (W.setCell a v).cell? a = some v := World.cell?_setCell_same' _ _ _ (by rw [h]; rfl)
theorem set_far (W : World) (b c : Nat) (v : Value) (h : b ≠ c) : (W.setCell ⟨b, 0, none⟩ v).cell? ⟨c, 0, none⟩ = W.cell? ⟨c, 0, none⟩ := World.cell?_of_block (w := W) (Below.heap_setCell W ⟨b, 0, none⟩ v c (fun e => h e.symm))
theorem below_lt {W : World} {a : Nat} {v : Value} (h : W.cell? ⟨a, 0, none⟩ = some v) : a < W.heap.size := by
  unfold World.cell? at h
  cases hh : W.heap[a]? with
  | none => simp [hh] at h
  | some o => exact (Array.getElem?_eq_some_iff.1 hh).1

theorem take_snoc (s : ByteArray) (k : Nat) (h : k < s.size) : s.data.toList.take (k + 1) = s.data.toList.take k ++ [s[k]] := by
  rw [List.take_succ_eq_append_getElem (by simpa using h)]; rfl

set_option maxRecDepth 100000 in
set_option maxHeartbeats 1000000 in
theorem bytes1_in (F : Fence) (n : Nat) (hf : F.fn 265) (hro : F.round = none) (hn : 1 ≤ n) (l Bn : Nat) (s : ByteArray) (hs : s.size ≤ maxLen) (J Jx : List UInt8 → World → Prop)
    (hY : ∀ pre (x : UInt8) W, J pre W → pre.length < s.size → YieldAt F (n - 1) Tryz.prog l #[.int .u8 x.toNat] W fun e W' =>
      (e = .returned (.bool true) ∧ J (pre ++ [x]) W' ∧ Keeps [Bn] W W') ∨ (e = .returned (.bool false) ∧ Jx (pre ++ [x]) W'))
    (W : World) (hc : W.cell? ⟨Bn, 0, none⟩ = some (.string s)) (h0 : J [] W) :
    CallsIn F n Tryz.prog 265 #[.func (.yield l) #[] #[], .pointer (some ⟨Bn, 0, none⟩)] W fun e W' => (∃ v, e = .returned v) ∧
      ((∃ ys, ys = s.data.toList ∧ J ys W') ∨ (∃ pre, pre <+: s.data.toList ∧ Jx pre W')) := by
  unfold maxLen at hs
  refine callsIn_of_wp Tryz.func265 rfl hf ?_ hro
  simp only [Tryz.ntmps265, List.size_toArray, List.length_cons, List.length_nil, Nat.reduceAdd, Nat.reduceSub, Array.replicate_succ, Array.replicate_zero, List.push_toArray, List.append_toArray, List.nil_append, List.cons_append]
  gi_wp2
  gi_loopw [3] (fun p wr => ∃ k : Nat, k ≤ s.size ∧ p = .int .i64 k ∧ J (s.data.toList.take k) wr ∧ wr.cell? ⟨Bn, 0, none⟩ = some (.string s))
    (fun p _ => s.size - (intOf p).toNat)
  case atStart =>
    exact ⟨0, Nat.zero_le _, rfl, by simpa using h0, hc⟩
  case round =>
    obtain ⟨k, hk, rfl, hJ, hcr⟩ := hrel
    by_cases hlt : k < s.size
    · obtain ⟨fn, tmps, assign, body, hy, hR⟩ := hY _ s[k] wr hJ (by simp; omega)
      gi_wp2
      refine hR.mono ?_
      rintro e W3 (⟨rfl, hJ3, hk3⟩ | ⟨rfl, hJx3⟩)
      · have hc3 : W3.cell? ⟨Bn, 0, none⟩ = some (.string s) := hk3 Bn (by simp) _ hcr
        rw [← take_snoc s k hlt] at hJ3
        gi_wp2
        go_roundw
        case rel => exact ⟨k + 1, by omega, by go_num, hJ3, hc3⟩
        case measure => simp [intOf]; omega
      · gi_wp2
        refine bodyPost_ret (results_none rfl _ _ _) rfl ?_
        exact ⟨⟨_, rfl⟩, .inr ⟨_, by rw [← take_snoc s k hlt]; exact List.take_prefix _ _, hJx3⟩⟩
    · gi_wp2
      go_end0
      exact ⟨⟨_, rfl⟩, .inl ⟨_, by rw [List.take_of_length_le (by simp; omega)], hJ⟩⟩

set_option maxHeartbeats 1000000 in
theorem bytesOf_in (F : Fence) (n : Nat) (hf : F.fn 229) (hro : F.round = none) (s : ByteArray) (w : World) :
    CallsIn F n Tryz.prog 229 #[.string s] w fun e w' => e = .returned (.func (.func 265) #[] #[.pointer (some ⟨w.heap.size, 0, none⟩)]) ∧ w' = w.alloc (.cells #[.string s] 9) := by
  refine callsIn_of_wp Tryz.func229 rfl hf ?_ hro
  simp only [Tryz.ntmps229, List.size_toArray, List.length_cons, List.length_nil, Nat.reduceAdd, Nat.reduceSub, Array.replicate_succ, Array.replicate_zero, List.push_toArray, List.append_toArray, List.nil_append, List.cons_append]
  gi_wp2
  go_ret
  exact ⟨rfl, rfl⟩

theorem bytes_stops (F : Fence) (n : Nat) (hf : F.fn 265) (hro : F.round = none) (hn : 1 ≤ n) (Bn : Nat) (s : ByteArray) (hs : s.size ≤ maxLen) (w : World) (hBn : Bn < w.heap.size)
    (hc : w.cell? ⟨Bn, 0, none⟩ = some (.string s)) :
    SeqStopsK F n Tryz.prog 265 #[.pointer (some ⟨Bn, 0, none⟩)] (fun x : UInt8 => #[Value.int .u8 x.toNat]) (Keeps [Bn]) (fun ys => ys = s.data.toList) (fun pre => pre <+: s.data.toList) s.size w := fun l J Jx W hW _ _ hY h0 =>
  bytes1_in F n hf hro hn l Bn s hs J Jx hY W ((hW.cell (p := ⟨Bn, 0, none⟩) hBn).trans hc) h0

set_option maxRecDepth 100000 in
set_option maxHeartbeats 2000000 in
theorem allBytes_any (g : Nat) (T : Int → Bool) (eg : ∀ args w, (callFunc g args).run Tryz.prog w = .ok (.enter g args) w)
    (hT : ∀ (c : Int) (w : World), Calls Tryz.prog g #[.int .u8 c] w fun e w' => e = .returned (.bool (T c)) ∧ w' = w) (s : ByteArray) (hs : s.size ≤ maxLen) (w : World) :
    Calls Tryz.prog 182 #[.string s, .func (.func g) #[] #[]] w fun e W' => e = .returned (.bool (s.data.toList.all fun c => T c.toNat)) ∧ Below w.heap.size w W' := by
  refine (callsIn_wide (n := 3)).1 ?_
  refine callsIn_of_wp_marks Tryz.func182 rfl trivial ?_ rfl
  simp only [Tryz.ntmps182, List.size_toArray, List.length_cons, List.length_nil, Nat.reduceAdd, Nat.reduceSub, Array.replicate_succ, Array.replicate_zero, List.push_toArray, List.append_toArray, List.nil_append, List.cons_append]
  gi_wp2_with (refine ⟨trivial, ?_⟩; gi_at_call 229; refine (bytesOf_in Fence.wide _ trivial rfl _ _).mono ?_; rintro e w' ⟨rfl, rfl⟩)
  have c0 := cell_new_l w (.func (.func g) #[] #[]) 207
  have c1 := cell_new_l (w.alloc (.cells #[.func (.func g) #[] #[]] 207)) (.bool false) 4
  have c2 := cell_new_l ((w.alloc (.cells #[.func (.func g) #[] #[]] 207)).alloc (.cells #[.bool false] 4)) (.string s) 9
  simp only [World.size_alloc] at c1 c2
  have hB0 : Below w.heap.size w (((w.alloc (.cells #[.func (.func g) #[] #[]] 207)).alloc (.cells #[.bool false] 4)).alloc (.cells #[.string s] 9)) := (((Below.refl _ w).alloc (Nat.le_refl _) _).alloc (by simp) _).alloc (by simp; omega) _
  refine wpIn_rangeFunc_ownF rfl (by omega) (gf := 265) (lb := #[.pointer (some ⟨w.heap.size + 1 + 1, 0, none⟩)]) rfl trivial (enters_of Tryz.func265 (by kernel_rfl) rfl)
    (bytes_stops Fence.wide _ trivial rfl (by omega) (w.heap.size + 1 + 1) s hs _ (by simp) c2.1) Keeps.t (Keeps.b) (Below.refl _ _) (fun _ => rfl)
    (fun pre W => ((∀ y ∈ pre, T y.toNat = true) ∧ W.cell? ⟨w.heap.size, 0, none⟩ = some (.func (.func g) #[] #[]) ∧ W.cell? ⟨w.heap.size + 1, 0, none⟩ = some (.bool false) ∧ W.frozen? ⟨w.heap.size + 1, 0, none⟩ = false) ∧ Below w.heap.size w W)
    (fun c pre W => (c = .ret ∧ (∃ y ∈ pre, T y.toNat = false) ∧ W.cell? ⟨w.heap.size + 1, 0, none⟩ = some (.bool false)) ∧ Below w.heap.size w W)
    (OwnFrom.and (Own.from (fun s A B row hs hg hr => ⟨hs.1, cell_kept hs.2.1 hg hr, cell_kept hs.2.2.1 hg hr, (frozen_kept hs.2.2.1 hg hr).trans hs.2.2.2⟩) _) (ownFrom_below (Nat.le_refl _) (by simp; omega)))
    (fun c => OwnFrom.and (Own.from (fun s A B row hs hg hr => ⟨hs.1, hs.2.1, cell_kept hs.2.2 hg hr⟩) _) (ownFrom_below (Nat.le_refl _) (by simp; omega)))
    ⟨⟨by simp, cell_alloc_l _ (cell_alloc_l _ c0.1), cell_alloc_l _ c1.1, frozen_alloc_l _ c1.1 c1.2⟩, hB0⟩
    (fun x => { tmps := #[.string s, .func (.func g) #[] #[], undef, .pointer (some ⟨w.heap.size, 0, none⟩), .pointer (some ⟨w.heap.size + 1, 0, none⟩), .int .u8 x.toNat, .string s, .func (.func 265) #[] #[.pointer (some ⟨w.heap.size + 1 + 1, 0, none⟩)], .int .u8 x.toNat, undef, undef, undef, undef], defers := [] }) ?assign ?body ?done ?stop
  case assign =>
    intro l x W K hK
    gi_wp2
    exact hK
  case body =>
    rintro l pre x W ⟨⟨hp, hcw, hcr, hfr⟩, hB⟩ _
    cases hx : T x.toNat
    · gi_wp2
      refine ⟨trivial, (CallsIn.inRound l (callsIn_wide.2 (hT _ _))).mono ?_⟩
      rintro e w' ⟨rfl, rfl⟩
      gi_wp2
      exact ⟨KeepsOthers.setCell _ _ _, ⟨rfl, ⟨x, by simp, hx⟩, World.cell?_setCell_same' _ _ _ (by rw [hcr]; rfl)⟩, hB.setCell (p := ⟨w.heap.size + 1, 0, none⟩) (by simp) _⟩
    · gi_wp2
      refine ⟨trivial, (CallsIn.inRound l (callsIn_wide.2 (hT _ _))).mono ?_⟩
      rintro e w' ⟨rfl, rfl⟩
      gi_wp2
      exact ⟨KeepsOthers.refl _, Keeps.refl _ _, ⟨fun y hy => (List.mem_append.1 hy).elim (hp y) (fun e => by simp at e; subst e; exact hx), hcw, hcr, hfr⟩, hB⟩
  case done =>
    rintro D ys W hD rfl ⟨⟨hne, _, hcr, hfr⟩, hB⟩ hK
    gi_wp2
    have hK' := (KeepsOthers.setCell W ⟨w.heap.size + 1, 0, none⟩ (.bool true)).same D _ hK rfl
    refine ⟨by simp, .inl ⟨_, _, rfl, run_takeDeferred hK', ?_⟩⟩
    have hc5 := cell_kept (World.cell?_setCell_same' W ⟨w.heap.size + 1, 0, none⟩ (.bool true) (by rw [hcr]; rfl)) (grownBy_putObj' _ D (.deferred none)) (fun r e => by cases e; exact ⟨_, hK', rfl⟩)
    refine ⟨.bool true, ?_, by rw [List.all_eq_true.2 hne], (hB.setCell (p := ⟨w.heap.size + 1, 0, none⟩) (by simp) _).trans (belowK_b (w := w) (Nat.le_refl _) _ D _ _ (by simp at hD; omega) hK' rfl rfl)⟩
    simp [results, Tryz.f182, go_sem, hc5]
  case stop =>
    rintro D c pre W hD hpre ⟨⟨rfl, ⟨y, hy, hfy⟩, hcr⟩, hB⟩ hK
    gi_wp2
    refine ⟨by simp, .inl ⟨_, _, rfl, run_takeDeferred hK, ?_⟩⟩
    have hc5 := cell_kept hcr (grownBy_putObj' _ D (.deferred none)) (fun r e => by cases e; exact ⟨_, hK, rfl⟩)
    refine ⟨.bool false, ?_, by rw [List.all_eq_false.2 ⟨y, hpre.subset hy, by simp [hfy]⟩], hB.trans (belowK_b (w := w) (Nat.le_refl _) W D _ _ (by simp at hD; omega) hK rfl rfl)⟩
    simp [results, Tryz.f182, go_sem, hc5]
end Go.Proofs.YtoihhlkidlapmaaGreat

/- What the program's iterator over the parts of a text tells: what stands between marks. -/
namespace Go.Proofs.YtoihhlkidlapmaaGreat
open Go.RowKit Go.Shelf

attribute [local go_sem] Oper.semAt_some

/-- What stands between marks, one part more than marks. -/
def cutB (b : UInt8) : List UInt8 → List (List UInt8)
  | [] => [[]]
  | c :: l => if c == b then [] :: cutB b l else match cutB b l with
    | [] => [[c]]
    | h :: t => (c :: h) :: t

theorem cutB_ne (b : UInt8) (l : List UInt8) : cutB b l ≠ [] := by
  cases l with
  | nil => simp [cutB]
  | cons c l => unfold cutB; split <;> (try split) <;> simp

theorem cutB_none (b : UInt8) (l : List UInt8) (h : Lib.indexByte l b < 0) : cutB b l = [l] := by
  induction l with
  | nil => rfl
  | cons c l ih =>
    unfold Lib.indexByte at h
    have hg := Lib.indexByte_ge l b
    by_cases hc : (c == b) = true
    · simp [hc] at h
    · simp [hc] at h
      have : Lib.indexByte l b < 0 := by split at h <;> omega
      simp [cutB, hc, ih this]

theorem cutB_some (b : UInt8) (l : List UInt8) (i : Nat) (h : Lib.indexByte l b = i) : i < l.length ∧ cutB b l = l.take i :: cutB b (l.drop (i + 1)) := by
  induction l generalizing i with
  | nil => simp [Lib.indexByte] at h
  | cons c l ih =>
    unfold Lib.indexByte at h
    have hg := Lib.indexByte_ge l b
    by_cases hc : (c == b) = true
    · simp [hc] at h
      obtain rfl : i = 0 := by omega
      simp [cutB, hc]
    · simp [hc] at h
      split at h
      · omega
      · obtain ⟨j, rfl⟩ : ∃ j, i = j + 1 := ⟨i - 1, by omega⟩
        obtain ⟨h1, h2⟩ := ih j (by omega)
        refine ⟨by simp; omega, ?_⟩
        simp [cutB, hc, h2]

set_option maxHeartbeats 1000000 in
set_option maxRecDepth 100000 in
theorem slIndexByte_any (s : ByteArray) (c : Int) (w : World) :
    Calls Tryz.prog 232 #[.string s, .int .u8 c] w fun e w' => e = .returned (.int .i64 (Lib.indexByte s.data.toList c.toNat.toUInt8)) ∧ w' = w := by
  go_enter Tryz.func232, Tryz.ntmps232
  go_wp2
  rw [run_callFunc_extern Tryz.func266 (by kernel_rfl) (by kernel_rfl) (by kernel_rfl) (e := Extern.BytealgIndexByte.indexByte) (by kernel_rfl), Lib.run_indexByteString]
  simp only [Result.andThen]
  rw [Oper.upon_value]
  go_wp2
  go_ret
  exact ⟨rfl, rfl⟩

set_option maxHeartbeats 1000000 in
theorem IndexByte_any (s : ByteArray) (c : Int) (w : World) :
    Calls Tryz.prog 170 #[.string s, .int .u8 c] w fun e w' => e = .returned (.int .i64 (Lib.indexByte s.data.toList c.toNat.toUInt8)) ∧ w' = w := by
  go_enter Tryz.func170, Tryz.ntmps170
  go_wp2_with (go_at_call 232; refine (slIndexByte_any _ _ _).mono ?_; rintro e w' ⟨rfl, rfl⟩)
  go_ret
  exact ⟨rfl, rfl⟩

theorem IndexByteU_any (s : ByteArray) (c : UInt8) (w : World) :
    Calls Tryz.prog 170 #[.string s, .int .u8 c.toNat] w fun e w' => e = .returned (.int .i64 (Lib.indexByte s.data.toList c)) ∧ w' = w := by
  have h := IndexByte_any s c.toNat w
  have e : ((c.toNat : Nat) : Int).toNat.toUInt8 = c := by simp
  rwa [e] at h

/-- A text that a string may hold. -/
abbrev Str := { x : ByteArray // x.size ≤ maxLen }
abbrev vals (xs : List Str) : List (List UInt8) := xs.map fun x => x.1.data.toList
theorem vals_snoc (pre : List Str) (x : Str) : vals (pre ++ [x]) = vals pre ++ [x.1.data.toList] := by simp [vals]
def strSize : Value → Nat
  | .string x => x.size
  | _ => 0

set_option maxRecDepth 100000 in
set_option maxHeartbeats 1000000 in
theorem parts1_in (F : Fence) (n : Nat) (hf : F.fn 169) (hf2 : F.fn 170) (hro : F.round = none) (hn : 1 ≤ n) (hw : ∀ (s : ByteArray) (c : UInt8) (w : World), CallsIn F (n - 1) Tryz.prog 170 #[.string s, .int .u8 c.toNat] w fun e w' => e = .returned (.int .i64 (Lib.indexByte s.data.toList c)) ∧ w' = w)
    (l Bs Bm : Nat) (s : ByteArray) (m : UInt8) (hs : s.size ≤ maxLen) (J Jx : List Str → World → Prop)
    (hY : ∀ pre (x : Str) W, J pre W → pre.length < (cutB m s.data.toList).length → YieldAt F (n - 1) Tryz.prog l #[.string x.1] W fun e W' =>
      (e = .returned (.bool true) ∧ J (pre ++ [x]) W' ∧ Keeps [Bs, Bm] W W') ∨ (e = .returned (.bool false) ∧ Jx (pre ++ [x]) W'))
    (W : World) (hc : W.cell? ⟨Bs, 0, none⟩ = some (.string s)) (hm : W.cell? ⟨Bm, 0, none⟩ = some (.int .u8 m.toNat)) (h0 : J [] W) :
    CallsIn F n Tryz.prog 169 #[.func (.yield l) #[] #[], .pointer (some ⟨Bs, 0, none⟩), .pointer (some ⟨Bm, 0, none⟩)] W fun e W' => (∃ v, e = .returned v) ∧
      ((∃ ys, vals ys = cutB m s.data.toList ∧ J ys W') ∨ (∃ pre, vals pre <+: cutB m s.data.toList ∧ Jx pre W')) := by
  unfold maxLen at hs
  refine callsIn_of_wp Tryz.func169 rfl hf ?_ hro
  simp only [Tryz.ntmps169, List.size_toArray, List.length_cons, List.length_nil, Nat.reduceAdd, Nat.reduceSub, Array.replicate_succ, Array.replicate_zero, List.push_toArray, List.append_toArray, List.nil_append, List.cons_append]
  gi_wp2
  gi_loopw [4, 5] (fun p _ wr => ∃ (pre : List Str) (rest : ByteArray), rest.size ≤ s.size ∧ p = .string rest ∧ Hid (cutB m s.data.toList = vals pre ++ cutB m rest.data.toList) ∧ J pre wr ∧ wr.cell? ⟨Bm, 0, none⟩ = some (.int .u8 m.toNat))
    (fun p _ _ => strSize p)
  case atStart =>
    exact ⟨[], s, Nat.le_refl _, rfl, hid (by simp), h0, hm⟩
  case round =>
    obtain ⟨pre, rest, hle, rfl, hcut, hJ, hmr⟩ := hrel
    have hlen : pre.length < (cutB m s.data.toList).length := by
      rw [unhid hcut]; have := List.length_pos_iff.2 (cutB_ne m rest.data.toList); simp; omega
    by_cases hlt : Lib.indexByte rest.data.toList m < 0
    · obtain ⟨fn, tmps, assign, body, hy, hR⟩ := hY _ ⟨rest, by unfold maxLen; omega⟩ wr hJ hlen
      dsimp only at hy hR
      gi_wp2_with (gi_at_call 170; refine (hw _ _ _).mono ?_; rintro e w' ⟨rfl, rfl⟩)
      refine hR.mono ?_
      rintro e W3 (⟨rfl, hJ3, hk3⟩ | ⟨rfl, hJx3⟩)
      · gi_wp2
        refine bodyPost_ret (results_none rfl _ _ _) rfl ?_
        exact ⟨⟨_, rfl⟩, .inl ⟨_, by rw [unhid hcut, cutB_none m _ hlt]; simp, hJ3⟩⟩
      · gi_wp2
        refine bodyPost_ret (results_none rfl _ _ _) rfl ?_
        exact ⟨⟨_, rfl⟩, .inr ⟨_, by rw [unhid hcut, cutB_none m _ hlt]; simp, hJx3⟩⟩
    · obtain ⟨i, hi⟩ : ∃ i : Nat, Lib.indexByte rest.data.toList m = i := ⟨(Lib.indexByte rest.data.toList m).toNat, by omega⟩
      obtain ⟨hil, hcr⟩ := cutB_some m _ i hi
      have hil' : i < rest.size := by rw [Lib.size_eq]; exact hil
      have Hcr := hid hcr
      have hx1 : (rest.extract 0 i).data.toList = rest.data.toList.take i := by rw [Lib.extract_data]; simp
      have hx2 : (rest.extract (i + 1) rest.size).data.toList = rest.data.toList.drop (i + 1) := by rw [Lib.extract_data, List.take_of_length_le (by simp)]
      have Hx1 := hid hx1
      have Hx2 := hid hx2
      clear hcr hil hx1 hx2
      have hx0 : (rest.extract 0 i).size ≤ maxLen := by unfold maxLen; simp; omega
      obtain ⟨fn, tmps, assign, body, hy, hR⟩ := hY _ ⟨rest.extract 0 i, hx0⟩ wr hJ hlen
      dsimp only at hy hR
      gi_wp2_with (gi_at_call 170; refine (hw _ _ _).mono ?_; rintro e w' ⟨rfl, rfl⟩)
      refine hR.mono ?_
      rintro e W3 (⟨rfl, hJ3, hk3⟩ | ⟨rfl, hJx3⟩)
      · have hm3 : W3.cell? ⟨Bm, 0, none⟩ = some (.int .u8 m.toNat) := hk3 Bm (by simp) _ hmr
        gi_wp2
        go_roundw
        case rel => exact ⟨_, rest.extract (i + 1) rest.size, by simp; omega, rfl, hid (by rw [unhid hcut, unhid Hcr, unhid Hx2, vals_snoc]; simp), hJ3, hm3⟩
        case measure => simp [strSize]; omega
      · gi_wp2
        refine bodyPost_ret (results_none rfl _ _ _) rfl ?_
        exact ⟨⟨_, rfl⟩, .inr ⟨_, by rw [unhid hcut, unhid Hcr, vals_snoc]; simp, hJx3⟩⟩

set_option maxHeartbeats 1000000 in
theorem partsOf_in (F : Fence) (n : Nat) (hf : F.fn 102) (hro : F.round = none) (s : ByteArray) (m : Int) (w : World) :
    CallsIn F n Tryz.prog 102 #[.string s, .int .u8 m] w fun e w' => e = .returned (.func (.func 169) #[] #[.pointer (some ⟨w.heap.size, 0, none⟩), .pointer (some ⟨w.heap.size + 1, 0, none⟩)]) ∧ w' = (w.alloc (.cells #[.string s] 9)).alloc (.cells #[.int .u8 m] 5) := by
  refine callsIn_of_wp Tryz.func102 rfl hf ?_ hro
  simp only [Tryz.ntmps102, List.size_toArray, List.length_cons, List.length_nil, Nat.reduceAdd, Nat.reduceSub, Array.replicate_succ, Array.replicate_zero, List.push_toArray, List.append_toArray, List.nil_append, List.cons_append]
  gi_wp2
  go_ret
  exact ⟨rfl, rfl⟩

theorem parts_stops (F : Fence) (n : Nat) (hf : F.fn 169) (hf2 : F.fn 170) (hro : F.round = none) (hn : 1 ≤ n)
    (hw : ∀ (s : ByteArray) (c : UInt8) (w : World), CallsIn F (n - 1) Tryz.prog 170 #[.string s, .int .u8 c.toNat] w fun e w' => e = .returned (.int .i64 (Lib.indexByte s.data.toList c)) ∧ w' = w)
    (Bs Bm : Nat) (s : ByteArray) (m : UInt8) (hs : s.size ≤ maxLen) (w : World) (hBs : Bs < w.heap.size) (hBm : Bm < w.heap.size)
    (hc : w.cell? ⟨Bs, 0, none⟩ = some (.string s)) (hm : w.cell? ⟨Bm, 0, none⟩ = some (.int .u8 m.toNat)) :
    SeqStopsK F n Tryz.prog 169 #[.pointer (some ⟨Bs, 0, none⟩), .pointer (some ⟨Bm, 0, none⟩)] (fun x : Str => #[Value.string x.1]) (Keeps [Bs, Bm]) (fun ys => vals ys = cutB m s.data.toList) (fun pre => vals pre <+: cutB m s.data.toList) (cutB m s.data.toList).length w := fun l J Jx W hW _ _ hY h0 =>
  parts1_in F n hf hf2 hro hn hw l Bs Bm s m hs J Jx hY W ((hW.cell (p := ⟨Bs, 0, none⟩) hBs).trans hc) ((hW.cell (p := ⟨Bm, 0, none⟩) hBm).trans hm) h0
end Go.Proofs.YtoihhlkidlapmaaGreat

/- What the model's cut of a text makes: the parts between marks, and what the model calls a name and a path. -/
namespace Go.Proofs.YtoihhlkidlapmaaGreat
open Go.RowKit Go.Shelf

theorem cutB_at (b : UInt8) : ∀ (l : List UInt8) (j : Nat), l[j]? = some b → (∀ i, i < j → l[i]? ≠ some b) → cutB b l = l.take j :: cutB b (l.drop (j + 1))
  | [], j, h, _ => by simp at h
  | c :: l, 0, h, _ => by simp at h; subst h; simp [cutB]
  | c :: l, j + 1, h, hn => by
    have hc : (c == b) = false := by have := hn 0 (by omega); simpa using this
    have ih := cutB_at b l j (by simpa using h) (fun i hi => by have := hn (i + 1) (by omega); simpa using this)
    simp [cutB, hc, ih]
theorem cutB_no (b : UInt8) : ∀ (l : List UInt8), (∀ i : Nat, l[i]? ≠ some b) → cutB b l = [l]
  | [], _ => rfl
  | c :: l, hn => by
    have hc : (c == b) = false := by have := hn 0; simpa using this
    have ih := cutB_no b l (fun i => by have := hn (i + 1); simpa using this)
    simp [cutB, hc, ih]

theorem getByte (s : ByteArray) (k : Nat) (h : k < s.size) : s.data.toList[k]? = some s[k] := by
  rw [List.getElem?_eq_getElem (by simpa using h)]; rfl
theorem cut_step (s : ByteArray) (b : UInt8) (fr k : Nat) (hfk : fr ≤ k) (hlt : k < s.size) (hb : s[k] = b) (hno : ∀ j, fr ≤ j → j < k → s.data.toList[j]? ≠ some b) :
    cutB b (s.data.toList.drop fr) = (s.extract fr k).data.toList :: cutB b (s.data.toList.drop (k + 1)) := by
  have h := cutB_at b (s.data.toList.drop fr) (k - fr) (by rw [List.getElem?_drop, Nat.add_sub_cancel' hfk, getByte s k hlt, hb])
    (fun i hi => by rw [List.getElem?_drop]; exact hno _ (by omega) (by omega))
  rw [h, List.drop_drop, Lib.extract_data, show fr + (k - fr + 1) = k + 1 from by omega]
theorem cut_last (s : ByteArray) (b : UInt8) (fr k : Nat) (hk : s.size ≤ k) (hno : ∀ j, fr ≤ j → j < k → s.data.toList[j]? ≠ some b) :
    cutB b (s.data.toList.drop fr) = [(s.extract fr s.size).data.toList] := by
  have h := cutB_no b (s.data.toList.drop fr) (fun i => by
    rw [List.getElem?_drop]
    by_cases hi : fr + i < k
    · exact hno _ (by omega) hi
    · rw [List.getElem?_eq_none (by simp; omega)]; simp)
  rw [h, Lib.extract_data, List.take_of_length_le (by simp)]

theorem cutB_le (b : UInt8) : ∀ (l : List UInt8) (p : List UInt8), p ∈ cutB b l → p.length ≤ l.length
  | [], p, h => by simp [cutB] at h; subst h; simp
  | c :: l, p, h => by
    unfold cutB at h
    split at h
    · rcases List.mem_cons.1 h with h | h
      · subst h; simp
      · have := cutB_le b l p h; simp; omega
    · have ih := cutB_le b l
      split at h
      · simp at h; subst h; simp
      · rename_i hd tl e
        rw [e] at ih
        rcases List.mem_cons.1 h with h | h
        · subst h; have := ih hd (by simp); simp; omega
        · have := ih p (by simp [h]); simp; omega
theorem cutB_length (b : UInt8) : ∀ (l : List UInt8), (cutB b l).length ≤ l.length + 1
  | [] => by simp [cutB]
  | c :: l => by
    have ih := cutB_length b l
    unfold cutB
    split
    · simp; omega
    · split
      · simp
      · rename_i hd tl e
        rw [e] at ih
        simp at ih ⊢; omega

theorem all_take_succ (s : ByteArray) (k : Nat) (h : k < s.size) (p : UInt8 → Bool) : (s.data.toList.take (k + 1)).all p = ((s.data.toList.take k).all p && p s[k]) := by
  rw [take_snoc s k h]; simp

theorem info9 : (Tryz.prog.info? 9).map (fun i => (i.zero, i.size, i.bytes)) = some (some (.string ⟨#[]⟩), 1, 16) := by kernel_rfl

abbrev datas (xs : List ByteArray) : List (List UInt8) := xs.map fun x => x.data.toList

set_option maxRecDepth 100000 in
set_option maxHeartbeats 1000000 in
theorem l1Cut_any (s : ByteArray) (b : UInt8) (most : Int) (hs : s.size ≤ 1048576) (hm : (s.size : Int) < most) (hm2 : most < 4294967296) (w : World) :
    Calls Tryz.prog 176 #[.string s, .int .u8 b.toNat, .int .i64 most] w fun e w' => ∃ v xs, e = .returned v ∧ datas xs = cutB b s.data.toList ∧ w'.ownsRow w.heap.size 9 1 v xs.length (xs.map Value.string) ∧ Below w.heap.size w w' := by
  go_enter Tryz.func176, Tryz.ntmps176
  obtain ⟨i0, hi, hz0, hz1, hz2⟩ := info_parts info9
  go_wp2_with fail
  go_loopw [7, 8, 9] (fun o f i wr => ∃ (g cap k fr : Nat) (xs : List ByteArray), o = .slice (some ⟨g, 0, none⟩) xs.length cap ∧ f = .int .i64 fr ∧ i = .int .i64 k ∧ fr ≤ k ∧ k ≤ s.size ∧ xs.length ≤ fr ∧
      Hid (cutB b s.data.toList = datas xs ++ cutB b (s.data.toList.drop fr)) ∧ Hid (∀ j, fr ≤ j → j < k → s.data.toList[j]? ≠ some b) ∧
      wr.ownsRow w.heap.size 9 1 (.slice (some ⟨g, 0, none⟩) xs.length cap) xs.length (xs.map Value.string) ∧ Below w.heap.size w wr)
    (fun _ _ i _ => s.size - (intOf i).toNat)
  case atStart => exact ⟨w.heap.size, 0, 0, 0, [], rfl, rfl, rfl, by omega, by omega, by simp, hid (by simp), hid (fun j _ h => by omega), World.ownsRow_lit w #[] 0 (Nat.le_refl _) (by omega) (by simp), (Below.refl _ _).alloc (Nat.le_refl _) _⟩
  case round =>
    obtain ⟨g, cap, k, fr, xs, rfl, rfl, rfl, hfk, hk, hx, hcut, hno, hown, hB⟩ := hrel
    by_cases hlt : k < s.size
    · by_cases hb : s[k] = b
      · have hb' : (((s[k]).toNat : Int) == (b.toNat : Int)) = true := by simp [hb]
        go_wp2_with (at_builtin; refine wpList_append_own _ rfl _ _ 24 rfl w.heap.size 9 i0 (.string ⟨#[]⟩) 1 16 Tryz.underlying24 hi hz0 hz1 hz2 rfl (by decide) _ _ _ rfl (hown.alloc _) ⟨wr.heap.size, 0, none⟩ 1 1 [.string (s.extract fr k)] rfl rfl ?c1 ?c2 ?c3 ?c4 ?c5 ?_)
        case c1 => exact cell_one_new _ _ _
        case c2 => intro u hu; simp at hu; subst hu; rfl
        case c3 => unfold maxLen; omega
        case c4 => omega
        case c5 => have := hB.size; simp; omega
        intro v' w1 hown' hgrow _
        obtain ⟨g', cap', rfl⟩ := ownsRow_succ hown'
        have hB1 : Below w.heap.size w w1 := (hB.alloc hB.size _).grown hgrow (by have := hB.size; simp; omega) (fun j e => (hown.lt j e).1)
        clear hgrow hown
        go_wp2
        go_roundw
        case rel => exact ⟨g', cap', k + 1, k + 1, xs ++ [s.extract fr k], by simp, by go_num, by go_num, by omega, by omega, by simp; omega, hid (by rw [unhid hcut, cut_step s b fr k hfk hlt hb (unhid hno)]; simp [datas]), hid (fun j h1 h2 => by omega), by simpa using hown', hB1⟩
        case measure => simp [intOf]; omega
      · have hb' : (((s[k]).toNat : Int) == (b.toNat : Int)) = false := by
          rw [beq_eq_false_iff_ne]; intro h; exact hb (UInt8.toNat_inj.1 (by omega))
        go_wp2
        go_roundw
        case rel => exact ⟨g, cap, k + 1, fr, xs, rfl, rfl, by go_num, by omega, by omega, hx, hcut, hid (fun j h1 h2 => by
          by_cases hj : j < k
          · exact unhid hno j h1 hj
          · obtain rfl : j = k := by omega
            rw [getByte s j hlt]; simpa using hb), hown, hB⟩
        case measure => simp [intOf]; omega
    · go_wp2_with (at_builtin; refine wpList_append_own _ rfl _ _ 24 rfl w.heap.size 9 i0 (.string ⟨#[]⟩) 1 16 Tryz.underlying24 hi hz0 hz1 hz2 rfl (by decide) _ _ _ rfl (hown.alloc _) ⟨wr.heap.size, 0, none⟩ 1 1 [.string (s.extract fr s.size)] rfl rfl ?c1 ?c2 ?c3 ?c4 ?c5 ?_)
      case c1 => exact cell_one_new _ _ _
      case c2 => intro u hu; simp at hu; subst hu; rfl
      case c3 => unfold maxLen; omega
      case c4 => omega
      case c5 => have := hB.size; simp; omega
      intro v' w1 hown' hgrow _
      have hB1 : Below w.heap.size w w1 := (hB.alloc hB.size _).grown hgrow (by have := hB.size; simp; omega) (fun j e => (hown.lt j e).1)
      clear hgrow hown
      go_wp2
      go_ret
      exact ⟨v', xs ++ [s.extract fr s.size], rfl, by rw [unhid hcut, cut_last s b fr k (by omega) (unhid hno)]; simp [datas], by simpa using hown', hB1⟩
end Go.Proofs.YtoihhlkidlapmaaGreat

/- What is a name of a path, by the program and by its model. -/
namespace Go.Proofs.YtoihhlkidlapmaaGreat
open Go.RowKit Go.Shelf

def nameOkB (l : List UInt8) : Bool := !l.isEmpty && decide (l.length ≤ 10) && !(l == [46]) && !(l == [46, 46]) && l.all fun c => nameB c.toNat

theorem eg239 : ∀ args w, (callFunc 239 args).run Tryz.prog w = .ok (.enter 239 args) w := enters_of Tryz.func239 (by kernel_rfl) rfl

set_option maxRecDepth 100000 in
set_option maxHeartbeats 1000000 in
theorem nameOk_any (s : ByteArray) (hs : s.size ≤ maxLen) (w : World) :
    Calls Tryz.prog 180 #[.string s] w fun e w' => e = .returned (.bool (nameOkB s.data.toList)) ∧ Below w.heap.size w w' := by
  go_enter Tryz.func180, Tryz.ntmps180
  go_wp2_with (go_at_call 182; refine (allBytes_any 239 nameB eg239 isNameByte_any _ hs _).mono ?_; rintro e w' ⟨rfl, hb⟩)
  all_goals
    simp only [Lib.toList_data] at *
    go_ret
    refine ⟨?_, ?_⟩
    · have hl : s.data.toList.length = s.size := (Lib.size_eq s).symm
      have hd : decide (s.data.toList.length ≤ 10) = decide ((s.size : Int) ≤ 10) := by rw [hl]; simp; omega
      unfold nameOkB
      rw [hd]
      clear hd hl
      simp_all <;> (intro h; exfalso; omega)
    · first | exact Below.refl _ _ | assumption
end Go.Proofs.YtoihhlkidlapmaaGreat

/- What the program calls a path. -/
namespace Go.Proofs.YtoihhlkidlapmaaGreat
open Go.RowKit Go.Shelf

attribute [local go_sem] Oper.semAt_some

def pathB (l : List UInt8) : Bool := decide ((cutB 47 l).length ≤ 5) && (cutB 47 l).all nameOkB

set_option maxRecDepth 100000 in
set_option maxHeartbeats 4000000 in
theorem PathOk_any (s : ByteArray) (hs : s.size ≤ maxLen) (w : World) :
    Calls Tryz.prog 110 #[.string s] w fun e W' => e = .returned (.bool (pathB s.data.toList)) ∧ Below w.heap.size w W' := by
  refine (callsIn_wide (n := 3)).1 ?_
  refine callsIn_of_wp_marks Tryz.func110 rfl trivial ?_ rfl
  simp only [Tryz.ntmps110, List.size_toArray, List.length_cons, List.length_nil, Nat.reduceAdd, Nat.reduceSub, Array.replicate_succ, Array.replicate_zero, List.push_toArray, List.append_toArray, List.nil_append, List.cons_append]
  gi_wp2_with (refine ⟨trivial, ?_⟩; gi_at_call 102; refine (partsOf_in Fence.wide _ trivial rfl _ _ _).mono ?_; rintro e w' ⟨rfl, rfl⟩)
  have c0 := cell_new_l w (.bool false) 4
  have c1 := cell_new_l (w.alloc (.cells #[.bool false] 4)) (.int .i64 0) 3
  have c2 := cell_new_l ((w.alloc (.cells #[.bool false] 4)).alloc (.cells #[.int .i64 0] 3)) (.string s) 9
  have c3 := cell_new_l (((w.alloc (.cells #[.bool false] 4)).alloc (.cells #[.int .i64 0] 3)).alloc (.cells #[.string s] 9)) (.int .u8 47) 5
  simp only [World.size_alloc] at c1 c2 c3
  have hB0 : Below w.heap.size w ((((w.alloc (.cells #[.bool false] 4)).alloc (.cells #[.int .i64 0] 3)).alloc (.cells #[.string s] 9)).alloc (.cells #[.int .u8 47] 5)) := ((((Below.refl _ w).alloc (Nat.le_refl _) _).alloc (by simp) _).alloc (by simp; omega) _).alloc (by simp; omega) _
  refine wpIn_rangeFunc_ownF rfl (by omega) (gf := 169) (lb := #[.pointer (some ⟨w.heap.size + 1 + 1, 0, none⟩), .pointer (some ⟨w.heap.size + 1 + 1 + 1, 0, none⟩)]) rfl trivial (enters_of Tryz.func169 (by kernel_rfl) rfl)
    (parts_stops Fence.wide _ trivial trivial rfl (by omega) (fun s c w => callsIn_wide.2 (IndexByteU_any s c w)) (w.heap.size + 1 + 1) (w.heap.size + 1 + 1 + 1) s 47 hs _ (by simp) (by simp) (cell_alloc_l _ c2.1) c3.1) Keeps.t (Keeps.b) (Below.refl _ _) (fun _ => rfl)
    (fun pre W => (((vals pre).all nameOkB = true ∧ pre.length ≤ 5) ∧ W.cell? ⟨w.heap.size + 1, 0, none⟩ = some (.int .i64 pre.length) ∧ W.frozen? ⟨w.heap.size + 1, 0, none⟩ = false ∧ W.cell? ⟨w.heap.size, 0, none⟩ = some (.bool false) ∧ W.frozen? ⟨w.heap.size, 0, none⟩ = false) ∧ Below w.heap.size w W)
    (fun c pre W => (c = .ret ∧ (5 < pre.length ∨ ∃ y ∈ vals pre, nameOkB y = false) ∧ W.cell? ⟨w.heap.size, 0, none⟩ = some (.bool false)) ∧ Below w.heap.size w W)
    (OwnFrom.and (Own.from (fun s A B row hs hg hr => ⟨hs.1, cell_kept hs.2.1 hg hr, (frozen_kept hs.2.1 hg hr).trans hs.2.2.1, cell_kept hs.2.2.2.1 hg hr, (frozen_kept hs.2.2.2.1 hg hr).trans hs.2.2.2.2⟩) _) (ownFrom_below (Nat.le_refl _) (by simp; omega)))
    (fun c => OwnFrom.and (Own.from (fun s A B row hs hg hr => ⟨hs.1, hs.2.1, cell_kept hs.2.2 hg hr⟩) _) (ownFrom_below (Nat.le_refl _) (by simp; omega)))
    ⟨⟨by simp, cell_alloc_l _ (cell_alloc_l _ c1.1), frozen_alloc_l _ (cell_alloc_l _ c1.1) (frozen_alloc_l _ c1.1 c1.2), cell_alloc_l _ (cell_alloc_l _ (cell_alloc_l _ c0.1)), frozen_alloc_l _ (cell_alloc_l _ (cell_alloc_l _ c0.1)) (frozen_alloc_l _ (cell_alloc_l _ c0.1) (frozen_alloc_l _ c0.1 c0.2))⟩, hB0⟩
    (fun x => { tmps := #[.string s, undef, .pointer (some ⟨w.heap.size, 0, none⟩), .pointer (some ⟨w.heap.size + 1, 0, none⟩), .string x.1, .string s, .func (.func 169) #[] #[.pointer (some ⟨w.heap.size + 1 + 1, 0, none⟩), .pointer (some ⟨w.heap.size + 1 + 1 + 1, 0, none⟩)], .string x.1, undef, undef, undef, undef, undef, undef, undef, undef, undef], defers := [] }) ?assign ?body ?done ?stop
  case assign =>
    intro l x W K hK
    gi_wp2
    exact hK
  case body =>
    rintro l pre x W ⟨⟨⟨hp, hl5⟩, hcn, hfn, hcr, hfr⟩, hB⟩ _
    have hz : w.heap.size + 1 < W.heap.size := below_lt hcn
    have hB2 : Below w.heap.size w (W.setCell ⟨w.heap.size + 1, 0, none⟩ (.int .i64 (pre.length + 1))) := hB.setCell (p := ⟨w.heap.size + 1, 0, none⟩) (by simp) _
    have hcn2 : (W.setCell ⟨w.heap.size + 1, 0, none⟩ (.int .i64 (pre.length + 1))).cell? ⟨w.heap.size + 1, 0, none⟩ = some (.int .i64 (pre.length + 1)) := set_same hcn
    have hfn2 : (W.setCell ⟨w.heap.size + 1, 0, none⟩ (.int .i64 (pre.length + 1))).frozen? ⟨w.heap.size + 1, 0, none⟩ = false := by rw [World.frozen?_setCell]; exact hfn
    have hcr2 : (W.setCell ⟨w.heap.size + 1, 0, none⟩ (.int .i64 (pre.length + 1))).cell? ⟨w.heap.size, 0, none⟩ = some (.bool false) := (set_far W _ _ _ (by simp)).trans hcr
    have hfr2 : (W.setCell ⟨w.heap.size + 1, 0, none⟩ (.int .i64 (pre.length + 1))).frozen? ⟨w.heap.size, 0, none⟩ = false := by rw [World.frozen?_setCell]; exact hfr
    have hK2 : Keeps [w.heap.size + 1 + 1, w.heap.size + 1 + 1 + 1] W (W.setCell ⟨w.heap.size + 1, 0, none⟩ (.int .i64 (pre.length + 1))) := Keeps.setCell W _ _ (by simp)
    have hO2 : KeepsOthers W (W.setCell ⟨w.heap.size + 1, 0, none⟩ (.int .i64 (pre.length + 1))) := KeepsOthers.setCell _ _ _
    have hz2 : (W.setCell ⟨w.heap.size + 1, 0, none⟩ (.int .i64 (pre.length + 1))).heap.size = W.heap.size := by simp
    by_cases h5 : 5 < (pre.length : Int) + 1
    · gi_wp2
      refine ⟨trivial, ?_⟩
      gi_wp2
      exact ⟨hO2.trans (KeepsOthers.setCell _ _ _), ⟨rfl, .inl (by simp; omega), set_same hcr2⟩, hB2.setCell (p := ⟨w.heap.size, 0, none⟩) (by simp) _⟩
    · have hk1 : ∀ w1 : World, Below (W.setCell ⟨w.heap.size + 1, 0, none⟩ (.int .i64 (pre.length + 1))).heap.size (W.setCell ⟨w.heap.size + 1, 0, none⟩ (.int .i64 (pre.length + 1))) w1 →
          w1.cell? ⟨w.heap.size + 1, 0, none⟩ = some (.int .i64 (pre.length + 1)) ∧ w1.frozen? ⟨w.heap.size + 1, 0, none⟩ = false ∧ w1.cell? ⟨w.heap.size, 0, none⟩ = some (.bool false) ∧ w1.frozen? ⟨w.heap.size, 0, none⟩ = false ∧
          Below w.heap.size w w1 ∧ KeepsOthers W w1 ∧ Keeps [w.heap.size + 1 + 1, w.heap.size + 1 + 1 + 1] W w1 := fun w1 hb => by
        have e1 : w.heap.size + 1 < (W.setCell ⟨w.heap.size + 1, 0, none⟩ (.int .i64 (pre.length + 1))).heap.size := by rw [hz2]; exact hz
        have e0 : w.heap.size < (W.setCell ⟨w.heap.size + 1, 0, none⟩ (.int .i64 (pre.length + 1))).heap.size := by omega
        refine ⟨(hb.cell e1).trans hcn2, (hb.frozen e1).trans hfn2, (hb.cell e0).trans hcr2, (hb.frozen e0).trans hfr2, hB2.trans (hb.mono (by omega)), hO2.trans (KeepsOthers_of_below hb), hK2.t fun b _ v hv => ?_⟩
        exact (hb.cell (p := ⟨b, 0, none⟩) (below_lt hv)).trans hv
      have Hk1 := hid hk1
      have HB2 := hid hcr2
      clear hk1 hB2 hcn2 hfn2 hcr2 hfr2 hK2 hO2 hz2
      cases hx : nameOkB x.1.data.toList
      · gi_wp2
        refine ⟨trivial, (CallsIn.inRound l (callsIn_wide.2 (nameOk_any _ x.2 _))).mono ?_⟩
        rintro e w1 ⟨rfl, hb⟩
        obtain ⟨f1, f2, f3, f4, f5, f6, f7⟩ := unhid Hk1 w1 hb
        clear hb
        gi_wp2
        exact ⟨f6.trans (KeepsOthers.setCell _ _ _), ⟨rfl, .inr ⟨_, by rw [vals_snoc]; simp, hx⟩, set_same f3⟩, f5.setCell (p := ⟨w.heap.size, 0, none⟩) (by simp) _⟩
      · gi_wp2
        refine ⟨trivial, (CallsIn.inRound l (callsIn_wide.2 (nameOk_any _ x.2 _))).mono ?_⟩
        rintro e w1 ⟨rfl, hb⟩
        obtain ⟨f1, f2, f3, f4, f5, f6, f7⟩ := unhid Hk1 w1 hb
        clear hb
        gi_wp2
        exact ⟨f6, f7, ⟨⟨by rw [vals_snoc, List.all_append, hp]; simp [hx], by simp; omega⟩, by rw [f1]; simp, f2, f3, f4⟩, f5⟩
  case done =>
    rintro D ys W hD hys ⟨⟨⟨hp, hl5⟩, _, _, hcr, hfr⟩, hB⟩ hK
    gi_wp2
    have hK' := (KeepsOthers.setCell W ⟨w.heap.size, 0, none⟩ (.bool true)).same D _ hK rfl
    refine ⟨by simp, .inl ⟨_, _, rfl, run_takeDeferred hK', ?_⟩⟩
    have hc5 := cell_kept (World.cell?_setCell_same' W ⟨w.heap.size, 0, none⟩ (.bool true) (by rw [hcr]; rfl)) (grownBy_putObj' _ D (.deferred none)) (fun r e => by cases e; exact ⟨_, hK', rfl⟩)
    refine ⟨.bool true, ?_, ?_, (hB.setCell (p := ⟨w.heap.size, 0, none⟩) (by simp) _).trans (belowK_b (w := w) (Nat.le_refl _) _ D _ _ (by simp at hD; omega) hK' rfl rfl)⟩
    · simp [results, Tryz.f110, go_sem, hc5]
    · rw [pathB, ← hys, hp]; simp [vals]; exact hl5
  case stop =>
    rintro D c pre W hD hpre ⟨⟨rfl, hbad, hcr⟩, hB⟩ hK
    gi_wp2
    refine ⟨by simp, .inl ⟨_, _, rfl, run_takeDeferred hK, ?_⟩⟩
    have hc5 := cell_kept hcr (grownBy_putObj' _ D (.deferred none)) (fun r e => by cases e; exact ⟨_, hK, rfl⟩)
    refine ⟨.bool false, ?_, ?_, hB.trans (belowK_b (w := w) (Nat.le_refl _) W D _ _ (by simp at hD; omega) hK rfl rfl)⟩
    · simp [results, Tryz.f110, go_sem, hc5]
    · have hl := hpre.length_le
      have : pathB s.data.toList = false := by
        unfold pathB
        rcases hbad with h | ⟨y, hy, hn⟩
        · rw [decide_eq_false (by simp [vals] at hl; omega)]; rfl
        · rw [List.all_eq_false.2 ⟨y, hpre.subset hy, by simp [hn]⟩]; simp
      rw [this]
end Go.Proofs.YtoihhlkidlapmaaGreat

/- What the model calls a name, and a path: the same as the program. -/
namespace Go.Proofs.YtoihhlkidlapmaaGreat
open Go.RowKit Go.Shelf

theorem nameOk_len (s : ByteArray) : nameOkB s.data.toList = ((decide ((1 : Int) ≤ s.size) && decide ((s.size : Int) ≤ 10)) && !(s.data.toList == [46]) && !(s.data.toList == [46, 46]) && s.data.toList.all fun c => nameB c.toNat) := by
  have h : (!s.data.toList.isEmpty && decide (s.data.toList.length ≤ 10)) = (decide ((1 : Int) ≤ s.size) && decide ((s.size : Int) ≤ 10)) := by
    have hl : s.size = s.data.toList.length := Lib.size_eq s
    rw [hl]
    cases s.data.toList with
    | nil => simp
    | cons a l => rw [Bool.eq_iff_iff]; simp; omega
  unfold nameOkB
  rw [h]

set_option maxRecDepth 100000 in
set_option maxHeartbeats 1000000 in
theorem l1Name_any (s : ByteArray) (hs : s.size ≤ maxLen) (w : World) :
    Calls Tryz.prog 237 #[.string s] w fun e w' => e = .returned (.bool (nameOkB s.data.toList)) ∧ w' = w := by
  unfold maxLen at hs
  go_enter Tryz.func237, Tryz.ntmps237
  go_wp2
  go_loop [3] (fun i => ∃ k : Nat, k ≤ s.size ∧ i = .int .i64 k ∧ Hid ((s.data.toList.take k).all (fun c => nameB c.toNat) = true)) (fun i => s.size - (intOf i).toNat)
  case atStart => exact ⟨0, Nat.zero_le _, rfl, hid (by simp)⟩
  case round =>
    obtain ⟨k, hk, rfl, hall⟩ := hrel
    by_cases hlt : k < s.size
    · have hstep := hid (all_take_succ s k hlt (fun c => nameB c.toNat))
      cases hb : nameB ((s[k]).toNat : Int)
      · go_wp2_with (go_at_call 273; refine (l1Small_any _ _).mono ?_; rintro e w' ⟨rfl, rfl⟩)
        go_ret
        refine ⟨?_, rfl⟩
        have : (s.data.toList.all fun c => nameB c.toNat) = false := List.all_eq_false.2 ⟨s[k], by have := getByte s k hlt; exact List.mem_of_getElem? this, by simp [hb]⟩
        unfold nameOkB
        rw [this]; simp
      · go_wp2_with (go_at_call 273; refine (l1Small_any _ _).mono ?_; rintro e w' ⟨rfl, rfl⟩)
        go_round
        case rel => exact ⟨k + 1, by omega, by go_num, hid (by rw [unhid hstep, unhid hall, hb]; rfl)⟩
        case measure => simp [intOf]; omega
    · have hall' := hid (show (s.data.toList.all fun c => nameB c.toNat) = true by
        have := unhid hall; rwa [List.take_of_length_le (by simp; omega)] at this)
      have hl : s.data.toList.length = s.size := (Lib.size_eq s).symm
      have Hl := hid hl
      clear hl
      go_wp2_with (go_at_call 178; refine (l1In_any _ _ _ _).mono ?_; rintro e w' ⟨rfl, rfl⟩)
      all_goals
        try simp only [Lib.toList_data] at *
        go_ret
        refine ⟨?_, rfl⟩
        rw [nameOk_len s, unhid hall']
        simp_all <;> (intros; exfalso; omega)

set_option maxRecDepth 100000 in
set_option maxHeartbeats 1000000 in
theorem l1Path_any (s : ByteArray) (hs : s.size ≤ 1048576) (w : World) :
    Calls Tryz.prog 174 #[.string s] w fun e w' => e = .returned (.bool (pathB s.data.toList)) ∧ Below w.heap.size w w' := by
  go_enter Tryz.func174, Tryz.ntmps174
  go_wp2_with fail
  refine (l1Cut_any s 47 _ hs (by omega) (by omega) _).mono ?_
  rintro e w1 ⟨v, xs, rfl, hxs, hown, hB⟩
  have hne : xs ≠ [] := by
    intro h; subst h; exact cutB_ne _ _ hxs.symm
  obtain ⟨n, hn⟩ : ∃ n, xs.length = n + 1 := ⟨xs.length - 1, by have := List.length_pos_iff.2 hne; omega⟩
  rw [hn] at hown
  obtain ⟨g, cap, rfl⟩ := ownsRow_succ hown
  have hcell : ∀ (k : Nat) x, xs[k]? = some x → w1.cell? ⟨g, k, none⟩ = some (.string x) := fun k x hx => by
    have hk : k < xs.length := (List.getElem?_eq_some_iff.1 hx).1
    rw [hown.cellAt k (by omega), List.getElem?_map, hx]; rfl
  have hlen : ∀ x ∈ xs, x.size ≤ maxLen := fun x hx => by
    have h1 : x.data.toList ∈ cutB 47 s.data.toList := by rw [← hxs]; exact List.mem_map.2 ⟨x, hx, rfl⟩
    have h2 := cutB_le 47 _ _ h1
    rw [← Lib.size_eq, ← Lib.size_eq] at h2
    unfold maxLen; omega
  have Hcell := hid hcell
  have Hlen := hid hlen
  have Hxs := hid hxs
  have Hn := hid hn
  have hns : n ≤ 1048576 := by
    have := cutB_length 47 s.data.toList
    rw [← hxs, ← Lib.size_eq] at this
    simp [datas] at this
    omega
  clear hown hcell hlen hxs hn
  go_wp2_with fail
  go_loop [4] (fun i => ∃ k : Nat, k ≤ n + 1 ∧ i = .int .i64 k ∧ Hid (((datas xs).take k).all nameOkB = true)) (fun i => n + 1 - (intOf i).toNat)
  case atStart => exact ⟨0, Nat.zero_le _, rfl, hid (by simp)⟩
  case round =>
    obtain ⟨k, hk, rfl, hall⟩ := hrel
    by_cases hlt : k < n + 1
    · obtain ⟨x, hx⟩ : ∃ x, xs[k]? = some x := ⟨xs[k]'(by rw [unhid Hn]; exact hlt), List.getElem?_eq_getElem _⟩
      have hck := unhid Hcell k x hx
      have hlk := unhid Hlen x (List.mem_of_getElem? hx)
      have Hx := hid hx
      clear hx
      cases hb : nameOkB x.data.toList
      · go_wp2_with (go_at_call 237; refine (l1Name_any _ hlk _).mono ?_; rintro e w' ⟨rfl, rfl⟩)
        go_ret
        refine ⟨?_, hB⟩
        have hf : pathB s.data.toList = false := by
          unfold pathB
          rw [← unhid Hxs, List.all_eq_false.2 ⟨x.data.toList, List.mem_map.2 ⟨x, List.mem_of_getElem? (unhid Hx), rfl⟩, by simp [hb]⟩]; simp
        rw [hf]; rfl
      · go_wp2_with (go_at_call 237; refine (l1Name_any _ hlk _).mono ?_; rintro e w' ⟨rfl, rfl⟩)
        refine ⟨⟨k + 1, by omega, by go_num, hid ?_⟩, by simp [intOf]; omega⟩
        rw [List.take_add_one, List.getElem?_map, unhid Hx, List.all_append, unhid hall]
        simp [hb]
    · go_wp2
      go_ret
      refine ⟨?_, hB⟩
      have hl : (datas xs).length = n + 1 := by rw [← unhid Hn]; simp [datas]
      have hall' : (datas xs).all nameOkB = true := by have := unhid hall; rwa [List.take_of_length_le (by omega)] at this
      have hf : pathB s.data.toList = decide ((n : Int) + 1 ≤ 5) := by
        unfold pathB
        rw [← unhid Hxs, hall', hl, Bool.and_true]
        simp; omega
      rw [hf]; rfl

end Go.Proofs.YtoihhlkidlapmaaGreat

/- The last place of a byte in a text, and what stands ahead of it and behind it. -/
namespace Go.Proofs.YtoihhlkidlapmaaGreat
open Go.RowKit Go.Shelf

/-- The last place of a byte; -1 if it is nowhere. -/
def lastIx (b : UInt8) : List UInt8 → Int
  | [] => -1
  | c :: l => if 0 ≤ lastIx b l then lastIx b l + 1 else if c == b then 0 else -1

theorem lastIx_ge (b : UInt8) : ∀ l, -1 ≤ lastIx b l
  | [] => by simp [lastIx]
  | c :: l => by have := lastIx_ge b l; unfold lastIx; split <;> (try split) <;> omega
theorem lastIx_lt (b : UInt8) : ∀ l, lastIx b l < l.length
  | [] => by simp [lastIx]
  | c :: l => by have := lastIx_lt b l; unfold lastIx; split <;> (try split) <;> simp <;> omega
theorem lastIx_no (b : UInt8) : ∀ l : List UInt8, (∀ j : Nat, l[j]? ≠ some b) → lastIx b l = -1
  | [], _ => rfl
  | c :: l, h => by
    have ih := lastIx_no b l (fun j => by have := h (j + 1); simpa using this)
    have hc : (c == b) = false := by have := h 0; simpa using this
    simp [lastIx, ih, hc]
theorem lastIx_at (b : UInt8) : ∀ (l : List UInt8) (i : Nat), l[i]? = some b → (∀ j : Nat, i < j → l[j]? ≠ some b) → lastIx b l = i
  | [], i, h, _ => by simp at h
  | c :: l, 0, h, hn => by
    have ih := lastIx_no b l (fun j => by have := hn (j + 1) (by omega); simpa using this)
    simp at h
    simp [lastIx, ih, h]
  | c :: l, i + 1, h, hn => by
    have ih := lastIx_at b l i (by simpa using h) (fun j hj => by have := hn (j + 1) (by omega); simpa using this)
    simp [lastIx, ih]


theorem ba_ext {x y : ByteArray} (h : x.data.toList = y.data.toList) : x = y := by
  obtain ⟨⟨l⟩⟩ := x; obtain ⟨⟨m⟩⟩ := y; simp at h; subst h; rfl

/-- What stands ahead of the last slash; nothing without one. -/
def upS (s : ByteArray) : ByteArray := if lastIx 47 s.data.toList < 0 then ⟨#[]⟩ else s.extract 0 (lastIx 47 s.data.toList).toNat

set_option maxRecDepth 100000 in
set_option maxHeartbeats 1000000 in
theorem baLastIndexByte_any (s : ByteArray) (b : UInt8) (hs : s.size ≤ maxLen) (w : World) :
    Calls Tryz.prog 267 #[.string s, .int .u8 b.toNat] w fun e w' => e = .returned (.int .i64 (lastIx b s.data.toList)) ∧ w' = w := by
  unfold maxLen at hs
  go_enter Tryz.func267, Tryz.ntmps267
  go_wp2
  go_loop [5] (fun i => ∃ k : Nat, k ≤ s.size ∧ i = .int .i64 ((k : Int) - 1) ∧ Hid (∀ j : Nat, k ≤ j → s.data.toList[j]? ≠ some b)) (fun i => (intOf i + 1).toNat)
  case atStart => exact ⟨s.size, Nat.le_refl _, rfl, hid (fun j hj => by rw [List.getElem?_eq_none (by simp; omega)]; simp)⟩
  case round =>
    obtain ⟨k, hk, rfl, hno⟩ := hrel
    cases k with
    | zero =>
      go_wp2
      go_ret
      exact ⟨by rw [lastIx_no b _ (fun j => unhid hno j (by omega))]; rfl, rfl⟩
    | succ k =>
      by_cases hb : s[k] = b
      · have hb' : (((s[k]).toNat : Int) == (b.toNat : Int)) = true := by simp [hb]
        go_wp2
        go_ret
        exact ⟨by rw [lastIx_at b _ k (by rw [getByte s k (by omega), hb]) (fun j hj => unhid hno j (by omega))]; rfl, rfl⟩
      · have hb' : (((s[k]).toNat : Int) == (b.toNat : Int)) = false := by
          rw [beq_eq_false_iff_ne]; intro h; exact hb (UInt8.toNat_inj.1 (by omega))
        go_wp2
        refine ⟨⟨k, by omega, rfl, hid (fun j hj => ?_)⟩, by simp [intOf]⟩
        by_cases hj' : j = k
        · subst hj'; rw [getByte s j (by omega)]; simpa using hb
        · exact unhid hno j (by omega)

set_option maxHeartbeats 1000000 in
theorem LastIndexByte_any (s : ByteArray) (b : UInt8) (hs : s.size ≤ maxLen) (w : World) :
    Calls Tryz.prog 233 #[.string s, .int .u8 b.toNat] w fun e w' => e = .returned (.int .i64 (lastIx b s.data.toList)) ∧ w' = w := by
  go_enter Tryz.func233, Tryz.ntmps233
  go_wp2_with (go_at_call 267; refine (baLastIndexByte_any _ _ hs _).mono ?_; rintro e w' ⟨rfl, rfl⟩)
  go_ret
  exact ⟨rfl, rfl⟩

set_option maxRecDepth 100000 in
set_option maxHeartbeats 1000000 in
theorem l1Up_any (s : ByteArray) (hs : s.size ≤ maxLen) (w : World) :
    Calls Tryz.prog 109 #[.string s] w fun e w' => e = .returned (.string (upS s)) ∧ w' = w := by
  unfold maxLen at hs
  go_enter Tryz.func109, Tryz.ntmps109
  go_wp2
  go_loop [3] (fun i => ∃ k : Nat, k ≤ s.size ∧ i = .int .i64 ((k : Int) - 1) ∧ Hid (∀ j : Nat, k ≤ j → s.data.toList[j]? ≠ some 47)) (fun i => (intOf i + 1).toNat)
  case atStart => exact ⟨s.size, Nat.le_refl _, rfl, hid (fun j hj => by rw [List.getElem?_eq_none (by simp; omega)]; simp)⟩
  case round =>
    obtain ⟨k, hk, rfl, hno⟩ := hrel
    cases k with
    | zero =>
      go_wp2
      go_ret
      have e : upS s = ⟨#[]⟩ := by unfold upS; rw [lastIx_no 47 _ (fun j => unhid hno j (by omega))]; rfl
      exact ⟨by rw [e]; rfl, rfl⟩
    | succ k =>
      by_cases hb : s[k] = 47
      · have hb' : (((s[k]).toNat : Int) == 47) = true := by simp [hb]
        go_wp2
        go_ret
        have e : upS s = s.extract 0 k := by unfold upS; rw [lastIx_at 47 _ k (by rw [getByte s k (by omega), hb]) (fun j hj => unhid hno j (by omega)), if_neg (by omega)]; simp
        exact ⟨by rw [e]; rfl, rfl⟩
      · have hb' : (((s[k]).toNat : Int) == 47) = false := by
          rw [beq_eq_false_iff_ne]; intro h; exact hb (UInt8.toNat_inj.1 (by simp; omega))
        go_wp2
        refine ⟨⟨k, by omega, rfl, hid (fun j hj => ?_)⟩, by simp [intOf]⟩
        by_cases hj' : j = k
        · subst hj'; rw [getByte s j (by omega)]; simpa using hb
        · exact unhid hno j (by omega)

/-- What the model's PathUp and PathLast answer. -/
def pathUpS (s : ByteArray) : ByteArray := if pathB s.data.toList then upS s else ⟨#[]⟩

set_option maxHeartbeats 1000000 in
theorem PathUp_any (s : ByteArray) (hm : s.size ≤ maxLen) (w : World) :
    Calls Tryz.prog 171 #[.string s] w fun e w' => e = .returned (.string (pathUpS s)) ∧ Below w.heap.size w w' := by
  have hg := lastIx_ge 47 s.data.toList
  have hl := lastIx_lt 47 s.data.toList
  rw [← Lib.size_eq] at hl
  by_cases hi : lastIx 47 s.data.toList < 0
  · have e : pathUpS s = ⟨#[]⟩ := by simp [pathUpS, upS, hi]
    have E := hid e
    clear e
    go_enter Tryz.func171, Tryz.ntmps171
    go_wp2_with fail
    refine (LastIndexByte_any s 47 hm _).mono ?_
    rintro e w' ⟨rfl, rfl⟩
    go_wp2_with fail
    go_ret
    exact ⟨by rw [unhid E]; rfl, Below.refl _ _⟩
  · obtain ⟨i, ei⟩ : ∃ i : Nat, lastIx 47 s.data.toList = i := ⟨(lastIx 47 s.data.toList).toNat, by omega⟩
    have hm' : s.size ≤ 9223372036854775807 := hm
    cases hp : pathB s.data.toList
    · have E := hid (show pathUpS s = ⟨#[]⟩ by simp [pathUpS, hp])
      go_enter Tryz.func171, Tryz.ntmps171
      go_wp2_with fail
      refine (LastIndexByte_any s 47 hm _).mono ?_
      rintro e w' ⟨rfl, rfl⟩
      go_wp2_with (go_at_call 110; refine (PathOk_any _ hm _).mono ?_; rintro e w' ⟨rfl, hb⟩)
      go_ret
      exact ⟨by rw [unhid E]; rfl, hb⟩
    · have E := hid (show pathUpS s = s.extract 0 i by simp [pathUpS, upS, hp, ei]; omega)
      go_enter Tryz.func171, Tryz.ntmps171
      go_wp2_with fail
      refine (LastIndexByte_any s 47 hm _).mono ?_
      rintro e w' ⟨rfl, rfl⟩
      go_wp2_with (go_at_call 110; refine (PathOk_any _ hm _).mono ?_; rintro e w' ⟨rfl, hb⟩)
      go_ret
      exact ⟨by rw [unhid E]; rfl, hb⟩
end Go.Proofs.YtoihhlkidlapmaaGreat

/- Entries of trees as the program keeps them in rows; the laws' own copies of them, their sizes, whether two rows are the same. -/
namespace Go.Proofs.YtoihhlkidlapmaaGreat
open Go.RowKit Go.Shelf

structure Ent where
  path : ByteArray
  kind : Int
  mode : Int
  text : ByteArray
def Ent.vals (e : Ent) : Array Value := #[.string e.path, .int .i64 e.kind, .int .i64 e.mode, .string e.text]
def Ent.none : Ent := ⟨⟨#[]⟩, 0, 0, ⟨#[]⟩⟩

/-- The four cells of an entry. -/
structure EntAt (W : World) (b o : Nat) (e : Ent) : Prop where
  c0 : W.cell? ⟨b, o, .none⟩ = some (.string e.path)
  c1 : W.cell? ⟨b, o + 1, .none⟩ = some (.int .i64 e.kind)
  c2 : W.cell? ⟨b, o + 2, .none⟩ = some (.int .i64 e.mode)
  c3 : W.cell? ⟨b, o + 3, .none⟩ = some (.string e.text)



theorem EntAt.below {W W' : World} {B b o : Nat} {e : Ent} (h : EntAt W b o e) (hb : Below B W W') (hl : b < B) : EntAt W' b o e :=
  ⟨(hb.cell (p := ⟨b, o, .none⟩) hl).trans h.c0, (hb.cell (p := ⟨b, o + 1, .none⟩) hl).trans h.c1, (hb.cell (p := ⟨b, o + 2, .none⟩) hl).trans h.c2, (hb.cell (p := ⟨b, o + 3, .none⟩) hl).trans h.c3⟩
/-- A row of entries that is read. -/
def EntsAt (W : World) (a : Option Addr) (es : List Ent) : Prop := es = [] ∨ ∃ b o, a = some ⟨b, o, .none⟩ ∧ b < W.heap.size ∧ ∀ (i : Nat) e, es[i]? = some e → EntAt W b (o + i * 4) e
theorem EntsAt.below {W W' : World} {a : Option Addr} {es : List Ent} (h : EntsAt W a es) (hb : Below W.heap.size W W') : EntsAt W' a es := by
  rcases h with h | ⟨b, o, rfl, hl, hc⟩
  · exact .inl h
  · exact .inr ⟨b, o, rfl, Nat.lt_of_lt_of_le hl hb.size, fun i e hi => (hc i e hi).below hb hl⟩
theorem EntsAt.get {W : World} {a : Option Addr} {es : List Ent} (h : EntsAt W a es) (hne : es ≠ []) : ∃ b o, a = some ⟨b, o, .none⟩ ∧ b < W.heap.size ∧ ∀ (i : Nat) e, es[i]? = some e → EntAt W b (o + i * 4) e := h.resolve_left hne


/-- A block that is a row of n entries. -/
def EntRow (W : World) (g T n : Nat) (f : Nat → Ent) : Prop := ∃ cur : Array Value, W.heap[g]? = some (.cells cur T (0, 0)) ∧ cur.size = n * 4 ∧ ∀ i, i < n → cur[i * 4]? = some (.string (f i).path) ∧ cur[i * 4 + 1]? = some (.int .i64 (f i).kind) ∧ cur[i * 4 + 2]? = some (.int .i64 (f i).mode) ∧ cur[i * 4 + 3]? = some (.string (f i).text)
theorem EntRow.lt {W : World} {g T n : Nat} {f : Nat → Ent} (x : EntRow W g T n f) : g < W.heap.size := by
  obtain ⟨cur, h1, _⟩ := x; exact (Array.getElem?_eq_some_iff.1 h1).1
theorem EntRow.block {W W' : World} {g T n : Nat} {f : Nat → Ent} (x : EntRow W g T n f) (e : W'.heap[g]? = W.heap[g]?) : EntRow W' g T n f := by
  obtain ⟨cur, h1, h2, h3⟩ := x; exact ⟨cur, e.trans h1, h2, h3⟩
theorem EntRow.below {W W' : World} {B g T n : Nat} {f : Nat → Ent} (x : EntRow W g T n f) (hb : Below B W W') (hg : g < B) : EntRow W' g T n f := x.block (hb.block g hg)
theorem EntRow.congr {W : World} {g T n : Nat} {f f' : Nat → Ent} (x : EntRow W g T n f) (e : ∀ j, j < n → f j = f' j) : EntRow W g T n f' := by
  obtain ⟨cur, h1, h2, h3⟩ := x; exact ⟨cur, h1, h2, fun j hj => by rw [← e j hj]; exact h3 j hj⟩
theorem EntRow.cells {W : World} {g T n : Nat} {f : Nat → Ent} (x : EntRow W g T n f) (k : Nat) (hk : k < n) : EntAt W g (k * 4) (f k) ∧ (W.frozen? ⟨g, k * 4, .none⟩ = false ∧ W.frozen? ⟨g, k * 4 + 1, .none⟩ = false ∧ W.frozen? ⟨g, k * 4 + 2, .none⟩ = false ∧ W.frozen? ⟨g, k * 4 + 3, .none⟩ = false) := by
  obtain ⟨cur, h1, h2, h3⟩ := x
  obtain ⟨a, b, c, d⟩ := h3 k hk
  exact ⟨⟨by simp [World.cell?, h1, a], by simp [World.cell?, h1, b], by simp [World.cell?, h1, c], by simp [World.cell?, h1, d]⟩, by simp [World.frozen?, h1], by simp [World.frozen?, h1], by simp [World.frozen?, h1], by simp [World.frozen?, h1]⟩
def upd {α : Type} (f : Nat → α) (k : Nat) (e : α) : Nat → α := fun j => if j = k then e else f j
theorem EntRow.set {W : World} {g T n : Nat} {f : Nat → Ent} (x : EntRow W g T n f) (k : Nat) (hk : k < n) (e : Ent) :
    EntRow ((((W.setCell ⟨g, k * 4, .none⟩ (.string e.path)).setCell ⟨g, k * 4 + 1, .none⟩ (.int .i64 e.kind)).setCell ⟨g, k * 4 + 2, .none⟩ (.int .i64 e.mode)).setCell ⟨g, k * 4 + 3, .none⟩ (.string e.text)) g T n (upd f k e) := by
  obtain ⟨cur, h1, h2, h3⟩ := x
  refine ⟨(((cur.setIfInBounds (k * 4) (.string e.path)).setIfInBounds (k * 4 + 1) (.int .i64 e.kind)).setIfInBounds (k * 4 + 2) (.int .i64 e.mode)).setIfInBounds (k * 4 + 3) (.string e.text), ?_, by simpa using h2, fun i hi => ?_⟩
  · exact heap_setCell_same _ g _ _ T _ (heap_setCell_same _ g _ _ T _ (heap_setCell_same _ g _ _ T _ (heap_setCell_same _ g _ _ T _ h1)))
  · unfold upd
    simp only [Array.getElem?_setIfInBounds, Array.size_setIfInBounds]
    by_cases e1 : i = k
    · subst e1
      have eu : (if i = i then e else f i) = e := if_pos rfl
      rw [eu]
      refine ⟨?_, ?_, ?_, ?_⟩
      · rw [if_neg (by omega), if_neg (by omega), if_neg (by omega), if_pos rfl, if_pos (by omega)]
      · rw [if_neg (by omega), if_neg (by omega), if_pos rfl, if_pos (by omega)]
      · rw [if_neg (by omega), if_pos rfl, if_pos (by omega)]
      · rw [if_pos rfl, if_pos (by omega)]
    · rw [if_neg e1]
      obtain ⟨a, b, c, d⟩ := h3 i hi
      refine ⟨?_, ?_, ?_, ?_⟩
      · rw [if_neg (by omega), if_neg (by omega), if_neg (by omega), if_neg (by omega)]; exact a
      · rw [if_neg (by omega), if_neg (by omega), if_neg (by omega), if_neg (by omega)]; exact b
      · rw [if_neg (by omega), if_neg (by omega), if_neg (by omega), if_neg (by omega)]; exact c
      · rw [if_neg (by omega), if_neg (by omega), if_neg (by omega), if_neg (by omega)]; exact d
def entFn (es : List Ent) (i : Nat) : Ent := es.getD i Ent.none
theorem entFn_get {es : List Ent} {i : Nat} {e : Ent} (h : es[i]? = some e) : entFn es i = e := by unfold entFn; rw [List.getD_eq_getElem?_getD, h]; rfl
/-- Entries that a row owns, all of it. -/
theorem EntRow.at {W : World} {g T n : Nat} {es : List Ent} (x : EntRow W g T n (entFn es)) (hn : es.length ≤ n) : EntsAt W (some ⟨g, 0, .none⟩) es :=
  .inr ⟨g, 0, rfl, x.lt, fun i e hi => by
    have hl : i < es.length := (List.getElem?_eq_some_iff.1 hi).1
    have := (x.cells i (by omega)).1
    rw [entFn_get hi] at this
    rwa [Nat.zero_add]⟩



end Go.Proofs.YtoihhlkidlapmaaGreat

/- Whether two rows of entries are the same, by the laws. -/
namespace Go.Proofs.YtoihhlkidlapmaaGreat
open Go.RowKit Go.Shelf

theorem drewN_below {B : Nat} (w : World) (m : Nat) : Below B w (w.drewN m) := ⟨rfl, rfl, rfl, Nat.le_refl _, fun _ _ => rfl⟩
theorem drew_below {B : Nat} (w : World) : Below B w w.drew := ⟨rfl, rfl, rfl, Nat.le_refl _, fun _ _ => rfl⟩

end Go.Proofs.YtoihhlkidlapmaaGreat

/- What the model calls an entry that is ok, and the place of a path in entries. -/
namespace Go.Proofs.YtoihhlkidlapmaaGreat
open Go.RowKit Go.Shelf

def txtB (c : Int) : Bool := c == 10 || (decide (32 ≤ c) && decide (c ≤ 126))
def textB (l : List UInt8) : Bool := decide (l.length ≤ 80) && l.all fun c => txtB c.toNat
def modeB (m : Int) : Bool := decide (0 ≤ m) && decide (m ≤ 7)
def entB (e : Ent) : Bool := pathB e.path.data.toList && (if e.kind = 1 then modeB e.mode && e.text.data.toList.isEmpty else if e.kind = 2 then modeB e.mode && textB e.text.data.toList else e.kind == 3 && (e.mode == 0 && pathB e.text.data.toList))

set_option maxRecDepth 100000 in
set_option maxHeartbeats 1000000 in
theorem l2Text_any (s : ByteArray) (hs : s.size ≤ maxLen) (w : World) :
    Calls Tryz.prog 179 #[.string s] w fun e w' => e = .returned (.bool (textB s.data.toList)) ∧ w' = w := by
  unfold maxLen at hs
  go_enter Tryz.func179, Tryz.ntmps179
  go_wp2_with fail
  go_loop [3] (fun i => ∃ k : Nat, k ≤ s.size ∧ i = .int .i64 k ∧ Hid ((s.data.toList.take k).all (fun c => txtB c.toNat) = true)) (fun i => s.size - (intOf i).toNat)
  case atStart => exact ⟨0, Nat.zero_le _, rfl, hid (by simp)⟩
  case round =>
    obtain ⟨k, hk, rfl, hall⟩ := hrel
    by_cases hlt : k < s.size
    · have hstep := hid (all_take_succ s k hlt (fun c => txtB c.toNat))
      have h255 : ((s[k]).toNat : Int) ≤ 255 := by have := UInt8.toNat_lt s[k]; omega
      have h000 : (0 : Int) ≤ (s[k]).toNat := by omega
      cases h10 : (((s[k]).toNat : Int) == 10)
      · cases hb : (decide ((32 : Int) ≤ (s[k]).toNat) && decide (((s[k]).toNat : Int) ≤ 126))
        · have ht : txtB ((s[k]).toNat : Int) = false := by unfold txtB; rw [h10, hb]; rfl
          have h10' : (((s[k]).toNat : Int) != 10) = true := by simp [bne, h10]
          go_wp2_with (go_at_call 178; refine (l1In_any _ _ _ _).mono ?_; rintro e w' ⟨rfl, rfl⟩; rw [hb])
          go_ret
          refine ⟨?_, rfl⟩
          have : (s.data.toList.all fun c => txtB c.toNat) = false := List.all_eq_false.2 ⟨s[k], by have := getByte s k hlt; exact List.mem_of_getElem? this, by simp [ht]⟩
          unfold textB
          rw [this]; simp
        · have ht : txtB ((s[k]).toNat : Int) = true := by unfold txtB; rw [h10, hb]; rfl
          have h10' : (((s[k]).toNat : Int) != 10) = true := by simp [bne, h10]
          go_wp2_with (go_at_call 178; refine (l1In_any _ _ _ _).mono ?_; rintro e w' ⟨rfl, rfl⟩; rw [hb])
          go_round
          case rel => exact ⟨k + 1, by omega, by go_num, hid (by rw [unhid hstep, unhid hall, ht]; rfl)⟩
          case measure => simp [intOf]; omega
      · have ht : txtB ((s[k]).toNat : Int) = true := by unfold txtB; rw [h10]; rfl
        have h10' : (((s[k]).toNat : Int) != 10) = false := by simp [bne, h10]
        go_wp2_with (go_at_call 178; refine (l1In_any _ _ _ _).mono ?_; rintro e w' ⟨rfl, rfl⟩)
        go_round
        case rel => exact ⟨k + 1, by omega, by go_num, hid (by rw [unhid hstep, unhid hall, ht]; rfl)⟩
        case measure => simp [intOf]; omega
    · have E := hid (show textB s.data.toList = decide ((s.size : Int) ≤ 80) by
        have h1 : (s.data.toList.all fun c => txtB c.toNat) = true := by have := unhid hall; rwa [List.take_of_length_le (by simp; omega)] at this
        unfold textB
        rw [h1, Bool.and_true, ← Lib.size_eq]
        exact decide_eq_decide.2 (by omega))
      go_wp2_with fail
      go_ret
      exact ⟨by rw [unhid E]; rfl, rfl⟩

set_option maxRecDepth 100000 in
set_option maxHeartbeats 4000000 in
theorem l2Entry_any (e : Ent) (hp : e.path.size ≤ 1048576) (ht : e.text.size ≤ 1048576) (w : World) :
    Calls Tryz.prog 107 #[.agg e.vals] w fun x w' => x = .returned (.bool (entB e)) ∧ Below w.heap.size w w' := by
  obtain ⟨p, k, m, t⟩ := e
  unfold Ent.vals
  dsimp only at hp ht ⊢
  have tm : t.size ≤ maxLen := by unfold maxLen; omega
  have hE : entB ⟨p, k, m, t⟩ = (pathB p.data.toList && (if k = 1 then modeB m && t.data.toList.isEmpty else if k = 2 then modeB m && textB t.data.toList else k == 3 && (m == 0 && pathB t.data.toList))) := rfl
  have E := hid hE
  clear hE
  have hB0 : Below w.heap.size w (w.alloc (.cells #[.string p, .int .i64 k, .int .i64 m, .string t] 57)) := (Below.refl _ w).alloc (Nat.le_refl _) _
  have hbx : ∀ j v, (#[Value.string p, .int .i64 k, .int .i64 m, .string t])[j]? = some v → (w.alloc (.cells #[.string p, .int .i64 k, .int .i64 m, .string t] 57)).cell? ⟨w.heap.size, j, .none⟩ = some v := fun j v h => by
    have := World.alloc_heap_new w (.cells #[.string p, .int .i64 k, .int .i64 m, .string t] 57)
    unfold World.cell?; dsimp only; rw [this]; exact h
  have x1 := hid (hbx 1 _ rfl)
  have x2 := hid (hbx 2 _ rfl)
  have x3 := hid (hbx 3 _ rfl)
  have HB0 := hid hB0
  clear hB0 hbx
  have hz : w.heap.size < (w.alloc (.cells #[.string p, .int .i64 k, .int .i64 m, .string t] 57)).heap.size := by simp
  cases hpp : pathB p.data.toList
  · go_enter Tryz.func107, Tryz.ntmps107
    go_wp2_with fail
    refine (l1Path_any p hp _).mono ?_
    rintro x w1 ⟨rfl, hb⟩
    rw [hpp]
    have HB1 := hid ((unhid HB0).trans (hb.mono (unhid HB0).size))
    clear hb
    go_wp2_with fail
    go_ret
    exact ⟨by rw [unhid E, hpp]; rfl, unhid HB1⟩
  · have tail : ∀ (R : Bool), (if k = 1 then modeB m && t.data.toList.isEmpty else if k = 2 then modeB m && textB t.data.toList else k == 3 && (m == 0 && pathB t.data.toList)) = R → entB ⟨p, k, m, t⟩ = R := fun R h => by rw [unhid E, hpp, h]; rfl
    have TL := hid tail
    clear tail
    by_cases k1 : k = 1
    · subst k1
      cases hm : (decide ((0 : Int) ≤ m) && decide (m ≤ 7))
      · have EE := hid (unhid TL false (by rw [if_pos rfl]; unfold modeB; rw [hm]; rfl))
        go_enter Tryz.func107, Tryz.ntmps107
        go_wp2_with fail
        refine (l1Path_any p hp _).mono ?_
        rintro x w1 ⟨rfl, hb⟩
        rw [hpp]
        have c1 := (hb.cell (p := ⟨w.heap.size, 1, .none⟩) hz).trans (unhid x1)
        have c2 := (hb.cell (p := ⟨w.heap.size, 2, .none⟩) hz).trans (unhid x2)
        have c3 := (hb.cell (p := ⟨w.heap.size, 3, .none⟩) hz).trans (unhid x3)
        have HB1 := hid ((unhid HB0).trans (hb.mono (unhid HB0).size))
        clear hb
        go_wp2_with (go_at_call 178; refine (l1In_any _ _ _ _).mono ?_; rintro e w' ⟨rfl, rfl⟩; rw [hm])
        go_ret
        exact ⟨by rw [unhid EE]; rfl, unhid HB1⟩
      · have EE := hid (unhid TL t.toList.isEmpty (by rw [if_pos rfl]; unfold modeB; rw [hm, Lib.toList_data]; rfl))
        go_enter Tryz.func107, Tryz.ntmps107
        go_wp2_with fail
        refine (l1Path_any p hp _).mono ?_
        rintro x w1 ⟨rfl, hb⟩
        rw [hpp]
        have c1 := (hb.cell (p := ⟨w.heap.size, 1, .none⟩) hz).trans (unhid x1)
        have c2 := (hb.cell (p := ⟨w.heap.size, 2, .none⟩) hz).trans (unhid x2)
        have c3 := (hb.cell (p := ⟨w.heap.size, 3, .none⟩) hz).trans (unhid x3)
        have HB1 := hid ((unhid HB0).trans (hb.mono (unhid HB0).size))
        clear hb
        go_wp2_with (go_at_call 178; refine (l1In_any _ _ _ _).mono ?_; rintro e w' ⟨rfl, rfl⟩; rw [hm])
        go_ret
        exact ⟨by rw [unhid EE]; rfl, unhid HB1⟩
    · have k1' : (k == 1) = false := by simpa using k1
      by_cases k2 : k = 2
      · subst k2
        cases hm : (decide ((0 : Int) ≤ m) && decide (m ≤ 7))
        · have EE := hid (unhid TL false (by rw [if_neg (by omega), if_pos rfl]; unfold modeB; rw [hm]; rfl))
          go_enter Tryz.func107, Tryz.ntmps107
          go_wp2_with fail
          refine (l1Path_any p hp _).mono ?_
          rintro x w1 ⟨rfl, hb⟩
          rw [hpp]
          have c1 := (hb.cell (p := ⟨w.heap.size, 1, .none⟩) hz).trans (unhid x1)
          have c2 := (hb.cell (p := ⟨w.heap.size, 2, .none⟩) hz).trans (unhid x2)
          have c3 := (hb.cell (p := ⟨w.heap.size, 3, .none⟩) hz).trans (unhid x3)
          have HB1 := hid ((unhid HB0).trans (hb.mono (unhid HB0).size))
          clear hb
          go_wp2_with (go_at_call 178; refine (l1In_any _ _ _ _).mono ?_; rintro e w' ⟨rfl, rfl⟩; rw [hm])
          go_ret
          exact ⟨by rw [unhid EE]; rfl, unhid HB1⟩
        · have EE := hid (unhid TL (textB t.data.toList) (by rw [if_neg (by omega), if_pos rfl]; unfold modeB; rw [hm]; rfl))
          go_enter Tryz.func107, Tryz.ntmps107
          go_wp2_with fail
          refine (l1Path_any p hp _).mono ?_
          rintro x w1 ⟨rfl, hb⟩
          rw [hpp]
          have c1 := (hb.cell (p := ⟨w.heap.size, 1, .none⟩) hz).trans (unhid x1)
          have c2 := (hb.cell (p := ⟨w.heap.size, 2, .none⟩) hz).trans (unhid x2)
          have c3 := (hb.cell (p := ⟨w.heap.size, 3, .none⟩) hz).trans (unhid x3)
          have HB1 := hid ((unhid HB0).trans (hb.mono (unhid HB0).size))
          clear hb
          go_wp2_with (first | (go_at_call 178; refine (l1In_any _ _ _ _).mono ?_; rintro e w' ⟨rfl, rfl⟩; rw [hm]) | (go_at_call 179; refine (l2Text_any _ tm _).mono ?_; rintro e w' ⟨rfl, rfl⟩))
          go_ret
          exact ⟨by rw [unhid EE]; rfl, unhid HB1⟩
      · have k2' : (k == 2) = false := by simpa using k2
        cases k3 : (k == 3)
        · have EE := hid (unhid TL false (by rw [if_neg k1, if_neg k2, k3]; rfl))
          go_enter Tryz.func107, Tryz.ntmps107
          go_wp2_with fail
          refine (l1Path_any p hp _).mono ?_
          rintro x w1 ⟨rfl, hb⟩
          rw [hpp]
          have c1 := (hb.cell (p := ⟨w.heap.size, 1, .none⟩) hz).trans (unhid x1)
          have HB1 := hid ((unhid HB0).trans (hb.mono (unhid HB0).size))
          clear hb
          go_wp2_with fail
          go_ret
          exact ⟨by rw [unhid EE]; rfl, unhid HB1⟩
        · cases m0 : (m == 0)
          · have EE := hid (unhid TL false (by rw [if_neg k1, if_neg k2, k3, m0]; rfl))
            go_enter Tryz.func107, Tryz.ntmps107
            go_wp2_with fail
            refine (l1Path_any p hp _).mono ?_
            rintro x w1 ⟨rfl, hb⟩
            rw [hpp]
            have c1 := (hb.cell (p := ⟨w.heap.size, 1, .none⟩) hz).trans (unhid x1)
            have c2 := (hb.cell (p := ⟨w.heap.size, 2, .none⟩) hz).trans (unhid x2)
            have HB1 := hid ((unhid HB0).trans (hb.mono (unhid HB0).size))
            clear hb
            go_wp2_with fail
            go_ret
            exact ⟨by rw [unhid EE]; rfl, unhid HB1⟩
          · have EE := hid (unhid TL (pathB t.data.toList) (by rw [if_neg k1, if_neg k2, k3, m0]; rfl))
            go_enter Tryz.func107, Tryz.ntmps107
            go_wp2_with fail
            refine (l1Path_any p hp _).mono ?_
            rintro x w1 ⟨rfl, hb⟩
            rw [hpp]
            have c1 := (hb.cell (p := ⟨w.heap.size, 1, .none⟩) hz).trans (unhid x1)
            have c2 := (hb.cell (p := ⟨w.heap.size, 2, .none⟩) hz).trans (unhid x2)
            have c3 := (hb.cell (p := ⟨w.heap.size, 3, .none⟩) hz).trans (unhid x3)
            have HB1 := hid ((unhid HB0).trans (hb.mono (unhid HB0).size))
            clear hb
            go_wp2_with fail
            refine (l1Path_any t ht _).mono ?_
            rintro x w2 ⟨rfl, hb⟩
            have HB2 := hid ((unhid HB1).trans (hb.mono (unhid HB1).size))
            clear hb
            go_wp2_with fail
            go_ret
            exact ⟨by rw [unhid EE]; rfl, unhid HB2⟩
end Go.Proofs.YtoihhlkidlapmaaGreat

/- The place of a path in entries, by the model; the order of texts. -/
namespace Go.Proofs.YtoihhlkidlapmaaGreat
open Go.RowKit Go.Shelf

theorem lt_irr : ∀ x : List UInt8, Op.bytesLess x x = false
  | [] => rfl
  | a :: x => by
    have h : ¬ a < a := by rw [UInt8.lt_iff_toNat_lt]; omega
    simp [Op.bytesLess, lt_irr x, h]
theorem lt_tot : ∀ x y : List UInt8, Op.bytesLess x y = false → Op.bytesLess y x = false → x = y
  | [], [], _, _ => rfl
  | [], _ :: _, h, _ => by simp [Op.bytesLess] at h
  | _ :: _, [], _, h => by simp [Op.bytesLess] at h
  | a :: x, b :: y, h, g => by
    simp only [Op.bytesLess, Bool.or_eq_false_iff, decide_eq_false_iff_not, Bool.and_eq_false_iff, beq_eq_false_iff_ne] at h g
    have e : a = b := by
      apply UInt8.toNat_inj.1
      have h1 := h.1
      have g1 := g.1
      rw [UInt8.lt_iff_toNat_lt] at h1 g1
      omega
    subst e
    rw [lt_tot x y (h.2.resolve_left (fun h => h rfl)) (g.2.resolve_left (fun h => h rfl))]
theorem lt_tra : ∀ x y z : List UInt8, Op.bytesLess x y = true → Op.bytesLess y z = true → Op.bytesLess x z = true
  | _, [], _, h, _ => by simp [Op.bytesLess] at h
  | _, _ :: _, [], _, h => by simp [Op.bytesLess] at h
  | [], _ :: _, _ :: _, _, _ => rfl
  | a :: x, b :: y, c :: z, h, g => by
    simp only [Op.bytesLess, Bool.or_eq_true, decide_eq_true_eq, Bool.and_eq_true, beq_iff_eq] at h g ⊢
    rw [UInt8.lt_iff_toNat_lt] at *
    rcases h with h | ⟨rfl, h⟩ <;> rcases g with g | ⟨rfl, g⟩
    · exact .inl (by omega)
    · exact .inl h
    · exact .inl g
    · exact .inr ⟨rfl, lt_tra x y z h g⟩

def ltS (a b : ByteArray) : Bool := Op.bytesLess a.toList b.toList
def eqS (a b : ByteArray) : Bool := a.toList == b.toList
theorem eqS_iff (a b : ByteArray) : eqS a b = true ↔ a = b := by
  unfold eqS
  rw [beq_iff_eq, Lib.toList_data, Lib.toList_data]
  exact ⟨ba_ext, fun h => by rw [h]⟩
/-- Where a path is in entries, or would come; whether it is there. -/
def placeE (es : List Ent) (p : ByteArray) : Nat := (es.takeWhile fun e => ltS e.path p).length
def thereE (es : List Ent) (p : ByteArray) : Bool := (es[placeE es p]?).any fun e => eqS e.path p
theorem placeE_le (es : List Ent) (p : ByteArray) : placeE es p ≤ es.length := by
  unfold placeE; exact (List.takeWhile_prefix _).length_le
theorem place_of : ∀ (es : List Ent) (p : ByteArray) (k : Nat), k ≤ es.length → (∀ (i : Nat) e, i < k → es[i]? = some e → ltS e.path p = true) → (∀ e, es[k]? = some e → ltS e.path p = false) → placeE es p = k
  | [], _, k, hk, _, _ => by simp at hk; subst hk; rfl
  | e :: es, p, 0, _, _, h2 => by
    have := h2 e rfl
    unfold placeE; rw [List.takeWhile_cons]; simp [this]
  | e :: es, p, k + 1, hk, h1, h2 => by
    have h0 := h1 0 e (Nat.succ_pos _) rfl
    have ih := place_of es p k (by simpa using hk) (fun i x hi hx => h1 (i + 1) x (by omega) (by simpa using hx)) (fun x hx => h2 x (by simpa using hx))
    unfold placeE at ih ⊢
    rw [List.takeWhile_cons]; simp [h0, ih]
theorem place_lt {es : List Ent} {p : ByteArray} {i : Nat} {e : Ent} (hi : i < placeE es p) (he : es[i]? = some e) : ltS e.path p = true := by
  unfold placeE at hi
  have hp := List.takeWhile_prefix (l := es) (fun e => ltS e.path p)
  obtain ⟨t, ht⟩ := hp
  have : (es.takeWhile fun e => ltS e.path p)[i]? = some e := by
    rw [← ht, List.getElem?_append_left hi] at he; exact he
  have := List.mem_of_getElem? this
  exact List.all_eq_true.1 (List.all_takeWhile (p := fun e : Ent => ltS e.path p) (l := es)) e this

set_option maxRecDepth 100000 in
set_option maxHeartbeats 2000000 in
theorem l2At_any (es : List Ent) (a : Option Addr) (cap : Nat) (p : ByteArray) (w : World) (hlen : es.length ≤ 1048576) (h : EntsAt w a es) :
    Calls Tryz.prog 79 #[.slice a es.length cap, .string p] w fun x w' => x = .returned (.tuple #[.int .i64 (placeE es p), .bool (thereE es p)]) ∧ ∃ n, w' = w.drewN n := by
  go_enter Tryz.func79, Tryz.ntmps79
  go_wp2_with fail
  go_loop [6] (fun i => ∃ k : Nat, k ≤ es.length ∧ i = .int .i64 k ∧ Hid (∀ (i : Nat) e, i < k → es[i]? = some e → ltS e.path p = true)) (fun i => es.length - (intOf i).toNat)
  case atStart => exact ⟨0, Nat.zero_le _, rfl, hid (fun i e hi => by omega)⟩
  case round =>
    obtain ⟨k, hk, rfl, hall⟩ := hrel
    by_cases hlt : k < es.length
    · obtain ⟨e, he⟩ : ∃ e, es[k]? = some e := ⟨es[k], List.getElem?_eq_getElem hlt⟩
      obtain ⟨b, o, rfl, hbl, hc⟩ := h.get (by intro e; subst e; simp at hlt)
      obtain ⟨c0, c1, c2, c3⟩ := hc k e he
      have HE := hid he
      clear hc he h
      cases hq : Op.bytesLess e.path.toList p.toList
      · have hpl : placeE es p = k := place_of es p k hk (unhid hall) (fun x hx => by rw [unhid HE] at hx; cases hx; exact hq)
        have hth : thereE es p = (e.path.toList == p.toList) := by unfold thereE; rw [hpl, unhid HE]; rfl
        have HP := hid (And.intro hpl hth)
        clear hpl hth
        go_wp2_with fail
        go_quiet (fail)
        go_wp2_with fail
        go_ret2
        exact ⟨by rw [(unhid HP).1, (unhid HP).2]; rfl, _, rfl⟩
      · go_wp2_with fail
        go_round
        case rel => exact ⟨k + 1, by omega, by go_num, hid (fun i x hi hx => by
          by_cases ei : i = k
          · subst ei; rw [unhid HE] at hx; cases hx; exact hq
          · exact unhid hall i x (by omega) hx)⟩
        case measure => simp [intOf]; omega
    · have hpl : placeE es p = k := place_of es p k hk (unhid hall) (fun x hx => by have := (List.getElem?_eq_some_iff.1 hx).1; omega)
      have hth : thereE es p = false := by unfold thereE; rw [hpl, List.getElem?_eq_none (by omega)]; rfl
      have HP := hid (And.intro hpl hth)
      have hlt' : ¬ (k : Int) < es.length := by omega
      clear hpl hth h
      go_wp2_with fail
      go_quiet (fail)
      go_wp2_with fail
      go_ret2
      exact ⟨by rw [(unhid HP).1, (unhid HP).2]; rfl, _, rfl⟩
end Go.Proofs.YtoihhlkidlapmaaGreat

/- A region that draws its order, whose operations read what lay below a bound and whose callees leave that as it was: walked once. -/
namespace Go.Proofs.YtoihhlkidlapmaaGreat
open Go.RowKit

/-- A world in which what lay below a bound is as it was. -/
structure BW (B : Nat) (W : World) where
  w : World
  h : Below B W w
theorem BW.all {B : Nat} {W : World} {p : Prop} : (BW B W → p) ↔ p := ⟨fun h => h ⟨W, Below.refl _ _⟩, fun h _ => h⟩
theorem BW.cell {B : Nat} {W : World} {b o : Nat} {v : Value} (hb : b < B) (h : W.cell? ⟨b, o, none⟩ = some v) (x : BW B W) : x.w.cell? ⟨b, o, none⟩ = some v := (x.h.cell (p := ⟨b, o, none⟩) hb).trans h
theorem Calls.bw {P : Program} {f : FuncId} {args : Array Value} {v : Value} {B : Nat} {W : World} {x : BW B W} (hB : B ≤ W.heap.size) (h : Calls P f args x.w fun e w' => e = .returned v ∧ Below x.w.heap.size x.w w') :
    Calls P f args x.w fun e w'' => e = .returned v ∧ ∃ y : BW B W, w'' = y.w :=
  h.mono fun _ w' ⟨he, hb⟩ => ⟨he, ⟨w', x.h.trans (hb.mono (Nat.le_trans hB x.h.size))⟩, rfl⟩
theorem calm_region {P : Program} {id : Nat} {Q : Exit → Act → World → Prop} {a : Act} {w : World} {l : List Oper} (B : Nat) (hm : P.follows .mixedOrders = true) (hB : Region.lexB .any l.toArray = true)
    (h : wpQuiet P l.toArray (fun w' => ∃ x : BW B w, w' = x.w) (fun a' => ∀ w', (∃ x : BW B w, w' = x.w) → Q .normal a' w') l a) : (Code.region id l.toArray true).wp P Q a w :=
  wp_region_quiet (C := fun w' => ∃ x : BW B w, w' = x.w) hm hB ⟨⟨w.drew, ⟨rfl, rfl, rfl, Nat.le_refl _, fun _ _ => rfl⟩⟩, rfl⟩ (by simpa using h)

/-- A world of a class. -/
structure CW (C : World → Prop) where
  w : World
  h : C w
theorem CW.all {C : World → Prop} {W : World} (h : C W) {p : Prop} : (CW C → p) ↔ p := ⟨fun f => f ⟨W, h⟩, fun h _ => h⟩
theorem Calls.cw {P : Program} {f : FuncId} {args : Array Value} {v : Value} {C : World → Prop} {x : CW C} (h : Calls P f args x.w fun e w' => e = .returned v ∧ C w') :
    Calls P f args x.w fun e w'' => e = .returned v ∧ ∃ y : CW C, w'' = y.w :=
  h.mono fun _ w' ⟨he, hc⟩ => ⟨he, ⟨w', hc⟩, rfl⟩
theorem class_region {P : Program} {id : Nat} {Q : Exit → Act → World → Prop} {a : Act} {w : World} {l : List Oper} (C : World → Prop) (hC : C w.drew) (hm : P.follows .mixedOrders = true) (hB : Region.lexB .any l.toArray = true)
    (h : wpQuiet P l.toArray (fun w' => ∃ x : CW C, w' = x.w) (fun a' => ∀ w', (∃ x : CW C, w' = x.w) → Q .normal a' w') l a) : (Code.region id l.toArray true).wp P Q a w :=
  wp_region_quiet (C := fun w' => ∃ x : CW C, w' = x.w) hm hB ⟨⟨w.drew, hC⟩, rfl⟩ (by simpa using h)
end Go.Proofs.YtoihhlkidlapmaaGreat

/- Whether a place is a dir of entries, by the model. -/
namespace Go.Proofs.YtoihhlkidlapmaaGreat
open Go.RowKit Go.Shelf

def dirE (es : List Ent) (q : ByteArray) : Bool := q.toList.isEmpty || (thereE es q && (entFn es (placeE es q)).kind == 1)
def sortAt (es : List Ent) (i : Nat) : Bool := entB (entFn es i) && (i == 0 || ltS (entFn es (i - 1)).path (entFn es i).path)
def treeB (es : List Ent) : Bool := (List.range es.length).all (sortAt es) && (List.range es.length).all (fun i => dirE es (upS (entFn es i).path)) && decide (es.length ≤ 16)

theorem EntsAt.drewN {W : World} {a : Option Addr} {es : List Ent} (h : EntsAt W a es) (n : Nat) : EntsAt (W.drewN n) a es := h.below (drewN_below _ _)
set_option maxRecDepth 100000 in
set_option maxHeartbeats 2000000 in
theorem l2Dir_any (es : List Ent) (a : Option Addr) (cap : Nat) (q : ByteArray) (w : World) (hlen : es.length ≤ 1048576) (h : EntsAt w a es) :
    Calls Tryz.prog 108 #[.slice a es.length cap, .string q] w fun x w' => x = .returned (.bool (dirE es q)) ∧ ∃ n, w' = w.drewN n := by
  have HH := hid h
  cases he : q.toList.isEmpty
  · cases ht : thereE es q
    · have E := hid (show dirE es q = false by unfold dirE; rw [he, ht]; rfl)
      clear h
      go_enter Tryz.func108, Tryz.ntmps108
      go_wp2_with fail
      refine (l2At_any es a cap q _ hlen (unhid HH)).mono ?_
      rintro x w' ⟨rfl, n, rfl⟩
      rw [ht]
      go_wp2_with fail
      go_ret
      exact ⟨by rw [unhid E]; rfl, _, rfl⟩
    · obtain ⟨e, hek, heq⟩ : ∃ e, es[placeE es q]? = some e ∧ eqS e.path q = true := by
        unfold thereE at ht
        cases hx : es[placeE es q]? with
        | none => rw [hx] at ht; cases ht
        | some e => rw [hx] at ht; exact ⟨e, rfl, ht⟩
      have hkl : placeE es q < es.length := (List.getElem?_eq_some_iff.1 hek).1
      obtain ⟨b, o, rfl, hbl, hc⟩ := h.get (by intro e; subst e; simp at hkl)
      obtain ⟨c0, c1, c2, c3⟩ := hc _ e hek
      have E := hid (show dirE es q = (e.kind == 1) by unfold dirE; rw [he, ht, entFn_get hek]; rfl)
      clear hc hek heq h
      go_enter Tryz.func108, Tryz.ntmps108
      go_wp2_with fail
      refine (l2At_any es _ cap q _ hlen (unhid HH)).mono ?_
      rintro x w' ⟨rfl, n, rfl⟩
      rw [ht]
      go_wp2_with fail
      go_ret
      exact ⟨by rw [unhid E]; rfl, _, rfl⟩
  · have E := hid (show dirE es q = true by unfold dirE; rw [he]; rfl)
    clear h
    go_enter Tryz.func108, Tryz.ntmps108
    go_wp2_with fail
    refine (l2At_any es a cap q _ hlen (unhid HH)).mono ?_
    rintro x w' ⟨rfl, n, rfl⟩
    go_wp2_with fail
    go_ret
    exact ⟨by rw [unhid E]; rfl, _, rfl⟩

end Go.Proofs.YtoihhlkidlapmaaGreat

/- Whether entries are a tree, by the model. -/
namespace Go.Proofs.YtoihhlkidlapmaaGreat
open Go.RowKit Go.Shelf

def smallE (es : List Ent) : Prop := es.length ≤ 1048576 ∧ ∀ e ∈ es, e.path.size ≤ 1048576 ∧ e.text.size ≤ 1048576
theorem all_range_no {n k : Nat} {f : Nat → Bool} (hk : k < n) (h : f k = false) : (List.range n).all f = false := List.all_eq_false.2 ⟨k, List.mem_range.2 hk, by simp [h]⟩
theorem all_range_snoc {k : Nat} {f : Nat → Bool} (ha : (List.range k).all f = true) (h : f k = true) : (List.range (k + 1)).all f = true := by rw [List.range_succ, List.all_append, ha]; simp [h]

set_option maxRecDepth 100000 in
set_option maxHeartbeats 8000000 in
theorem specTreeOk_any (es : List Ent) (a : Option Addr) (cap : Nat) (w : World) (hs : smallE es) (h : EntsAt w a es) :
    Calls Tryz.prog 53 #[.slice a es.length cap] w fun x w' => x = .returned (.bool (treeB es)) ∧ Below w.heap.size w w' := by
  obtain ⟨hlen, hz⟩ := hs
  have HH := hid h
  have HZ := hid hz
  clear h hz
  go_enter Tryz.func53, Tryz.ntmps53
  go_wp2_with fail
  go_loopw [3] (fun i wr => ∃ k : Nat, k ≤ es.length ∧ i = .int .i64 k ∧ Hid ((List.range k).all (sortAt es) = true) ∧ Below w.heap.size w wr) (fun i _ => es.length - (intOf i).toNat)
  case atStart => exact ⟨0, Nat.zero_le _, rfl, hid rfl, Below.refl _ _⟩
  case round =>
    obtain ⟨k, hk, rfl, hall, hB⟩ := hrel
    by_cases hlt : k < es.length
    · obtain ⟨e, he⟩ : ∃ e, es[k]? = some e := ⟨es[k], List.getElem?_eq_getElem hlt⟩
      obtain ⟨b, o, rfl, hbl, hc⟩ := (unhid HH).get (by intro e; subst e; simp at hlt)
      obtain ⟨c0, c1, c2, c3⟩ := (hc k e he).below hB hbl
      obtain ⟨z1, z2⟩ := unhid HZ e (List.mem_of_getElem? he)
      have hf := entFn_get he
      have HB := hid hB
      have hbw := Nat.lt_of_lt_of_le hbl hB.size
      have g0 := BW.cell (B := wr.heap.size) hbw c0
      have g1 := BW.cell (B := wr.heap.size) hbw c1
      have g2 := BW.cell (B := wr.heap.size) hbw c2
      have g3 := BW.cell (B := wr.heap.size) hbw c3
      cases he1 : entB e
      · have hno : sortAt es k = false := by unfold sortAt; rw [hf, he1]; rfl
        have E := hid (show treeB es = false by unfold treeB; rw [all_range_no hlt hno]; rfl)
        clear hc he hf hno hB c0 c1 c2 c3
        go_wp2_with fail
        have hba := @BW.all wr.heap.size wr
        refine calm_region wr.heap.size (by kernel_rfl) (by kernel_rfl) ?_
        repeat (go_big_quiet_step ((go_at_call 107; refine Calls.bw (v := .bool false) (Nat.le_refl _) ((l2Entry_any e z1 z2 _).mono ?_); rintro r w2 ⟨rfl, hb⟩; exact ⟨by rw [he1], hb⟩)))
        refine wpQuiet_nil ?_
        intro _ hw
        obtain ⟨⟨w2, hB2⟩, hw⟩ := hw
        subst hw
        have HB2 := hid ((unhid HB).trans (hB2.mono (unhid HB).size))
        clear hB2 hba g0 g1 g2 g3
        go_wp2_with fail
        go_ret
        exact ⟨by rw [unhid E]; rfl, unhid HB2⟩
      · rcases k with _ | j
        · have hyes : sortAt es 0 = true := by unfold sortAt; rw [hf, he1]; rfl
          have HY := hid (all_range_snoc (unhid hall) hyes)
          simp only [Nat.zero_mul, Nat.add_zero] at g0 g1 g2 g3
          clear hc he hf hyes hB c0 c1 c2 c3
          go_wp2_with fail
          have hba := @BW.all wr.heap.size wr
          refine calm_region wr.heap.size (by kernel_rfl) (by kernel_rfl) ?_
          repeat (go_big_quiet_step ((go_at_call 107; refine Calls.bw (v := .bool true) (Nat.le_refl _) ((l2Entry_any e z1 z2 _).mono ?_); rintro r w2 ⟨rfl, hb⟩; exact ⟨by rw [he1], hb⟩)))
          refine wpQuiet_nil ?_
          intro _ hw
          obtain ⟨⟨w2, hB2⟩, hw⟩ := hw
          subst hw
          have HB2 := hid ((unhid HB).trans (hB2.mono (unhid HB).size))
          clear hB2 hba g0 g1 g2 g3
          go_wp2_with fail
          go_roundw
          case rel => exact ⟨1, by omega, rfl, HY, unhid HB2⟩
          case measure => simp [intOf]; omega
        · obtain ⟨e0, he0⟩ : ∃ e, es[j]? = some e := ⟨es[j], List.getElem?_eq_getElem (by omega)⟩
          have hf0 := entFn_get he0
          have d0 := ((hc j e0 he0).below hB hbl).c0
          have y0 := BW.cell (B := wr.heap.size) hbw d0
          have hk0' : (0 : Int) < (j : Int) + 1 := by omega
          cases hq : Op.bytesLess e0.path.toList e.path.toList
          · have hno : sortAt es (j + 1) = false := by unfold sortAt ltS; rw [hf, Nat.add_sub_cancel, hf0, he1, hq]; rfl
            have E := hid (show treeB es = false by unfold treeB; rw [all_range_no hlt hno]; rfl)
            clear hc he hf hno hB c0 c1 c2 c3 he0 hf0 d0
            go_wp2_with fail
            have hba := @BW.all wr.heap.size wr
            refine calm_region wr.heap.size (by kernel_rfl) (by kernel_rfl) ?_
            repeat (go_big_quiet_step ((go_at_call 107; refine Calls.bw (v := .bool true) (Nat.le_refl _) ((l2Entry_any e z1 z2 _).mono ?_); rintro r w2 ⟨rfl, hb⟩; exact ⟨by rw [he1], hb⟩)))
            refine wpQuiet_nil ?_
            intro _ hw
            obtain ⟨⟨w2, hB2⟩, hw⟩ := hw
            subst hw
            have HB2 := hid ((unhid HB).trans (hB2.mono (unhid HB).size))
            clear hB2 hba g0 g1 g2 g3
            go_wp2_with fail
            go_ret
            exact ⟨by rw [unhid E]; rfl, unhid HB2⟩
          · have hyes : sortAt es (j + 1) = true := by unfold sortAt ltS; rw [hf, Nat.add_sub_cancel, hf0, he1, hq]; rfl
            have HY := hid (all_range_snoc (unhid hall) hyes)
            clear hc he hf hyes hB c0 c1 c2 c3 he0 hf0 d0
            go_wp2_with fail
            have hba := @BW.all wr.heap.size wr
            refine calm_region wr.heap.size (by kernel_rfl) (by kernel_rfl) ?_
            repeat (go_big_quiet_step ((go_at_call 107; refine Calls.bw (v := .bool true) (Nat.le_refl _) ((l2Entry_any e z1 z2 _).mono ?_); rintro r w2 ⟨rfl, hb⟩; exact ⟨by rw [he1], hb⟩)))
            refine wpQuiet_nil ?_
            intro _ hw
            obtain ⟨⟨w2, hB2⟩, hw⟩ := hw
            subst hw
            have HB2 := hid ((unhid HB).trans (hB2.mono (unhid HB).size))
            clear hB2 hba g0 g1 g2 g3
            go_wp2_with fail
            go_roundw
            case rel => exact ⟨j + 1 + 1, by omega, by go_num, HY, unhid HB2⟩
            case measure => simp [intOf]; omega
    · have hke : k = es.length := by omega
      have HSO := hid (show (List.range es.length).all (sortAt es) = true by rw [← hke]; exact unhid hall)
      have HB := hid hB
      have hlt' : ¬ (k : Int) < es.length := by omega
      clear hall hke hB
      go_wp2_with fail
      go_loopw [4] (fun i wr => ∃ k : Nat, k ≤ es.length ∧ i = .int .i64 k ∧ Hid ((List.range k).all (fun i => dirE es (upS (entFn es i).path)) = true) ∧ Below w.heap.size w wr) (fun i _ => es.length - (intOf i).toNat)
      case atStart => exact ⟨0, Nat.zero_le _, rfl, hid rfl, unhid HB⟩
      case round =>
        obtain ⟨k, hk, rfl, hall, hB⟩ := hrel
        clear HB
        by_cases hlt : k < es.length
        · obtain ⟨e, he⟩ : ∃ e, es[k]? = some e := ⟨es[k], List.getElem?_eq_getElem hlt⟩
          have hAt := (unhid HH).below (W' := wr) ⟨hB.os, hB.tape, hB.output, hB.size, hB.block⟩
          obtain ⟨b, o, rfl, hbl, hc⟩ := (unhid HH).get (by intro e; subst e; simp at hlt)
          obtain ⟨c0, c1, c2, c3⟩ := (hc k e he).below hB hbl
          obtain ⟨z1, z2⟩ := unhid HZ e (List.mem_of_getElem? he)
          have zm : e.path.size ≤ maxLen := by unfold maxLen; omega
          have HF := hid (entFn_get he)
          have HB := hid hB
          have HA := hid hAt
          clear hc he hB hAt
          cases hd : dirE es (upS e.path)
          · have E := hid (show treeB es = false by unfold treeB; rw [all_range_no (f := fun i => dirE es (upS (entFn es i).path)) hlt (by rw [unhid HF]; exact hd)]; simp)
            go_wp2_with (first | (go_at_call 109; refine (l1Up_any _ zm _).mono ?_; rintro r w2 ⟨rfl, rfl⟩) | (go_at_call 108; refine (l2Dir_any es _ cap _ _ hlen (unhid HA)).mono ?_; rintro r w2 ⟨rfl, n, rfl⟩; rw [hd]))
            go_ret
            exact ⟨by rw [unhid E]; rfl, (unhid HB).trans (drewN_below _ _)⟩
          · go_wp2_with (first | (go_at_call 109; refine (l1Up_any _ zm _).mono ?_; rintro r w2 ⟨rfl, rfl⟩) | (go_at_call 108; refine (l2Dir_any es _ cap _ _ hlen (unhid HA)).mono ?_; rintro r w2 ⟨rfl, n, rfl⟩; rw [hd]))
            go_roundw
            case rel => exact ⟨k + 1, by omega, by go_num, hid (all_range_snoc (unhid hall) (by rw [unhid HF]; exact hd)), (unhid HB).trans (drewN_below _ _)⟩
            case measure => simp [intOf]; omega
        · have hke : k = es.length := by omega
          have E := hid (show treeB es = decide ((es.length : Int) ≤ 16) by
            unfold treeB
            rw [unhid HSO, show (List.range es.length).all (fun i => dirE es (upS (entFn es i).path)) = true by rw [← hke]; exact unhid hall]
            exact decide_eq_decide.2 (by omega))
          have hlt' : ¬ (k : Int) < es.length := by omega
          clear hke
          go_wp2_with fail
          go_ret
          exact ⟨by rw [unhid E]; rfl, hB⟩
end Go.Proofs.YtoihhlkidlapmaaGreat
