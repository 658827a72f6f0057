/- Texts of this proof, one behind the other; each says at its head what it shows. -/
import Derived.Test.YtoihhlkidlapmaaGreatProg
import Derived.WalkKit
import Derived.WalkLawsBesides
import Derived.Deep.QuietTactic
import Derived.BigQuiet
import Derived.Outline
import Derived.RangeFuncNested
import Derived.RangeFuncBound
import Derived.RangeFuncCalls
import Derived.RangeFuncLeaves
import Derived.Shelf.Abstract
import Derived.Shelf.RegionOpen
import Derived.OwnWalkIn
import Derived.TacticsInMore
import Derived.LoopNIn
import Derived.LoopIn
import Derived.Deep.OwnRows
import Derived.Maps.OwnIn
import Derived.Deep.RegionWith
import Derived.Lib.Strings
import Derived.Laws.IdiomStrings
import Derived.Deep.RegionHeld
import Derived.Maps.AppendAt
import Derived.Laws.OwnMore
import Derived.Laws.Cover3
import Derived.Test.YtoihhlkidlapmaaGreatRows
import Derived.ProofKit
import Derived.OpenShut
import Derived.Deep.Slices
import Derived.Lib.SmallJoins
import Derived.WalkSpells
/- What is needed, ahead of who needs it: a walk that goes down, as mathematics; the same walk with a list of those that wait; what comes of it. -/
namespace Go.Proofs.YtoihhlkidlapmaaGreat




/-- A list without a name twice, of names of another one, is no longer. -/
theorem nodup_len {α : Type} [DecidableEq α] : ∀ (xs ys : List α), xs.Nodup → (∀ x ∈ xs, x ∈ ys) → xs.length ≤ ys.length
  | [], _, _, _ => Nat.zero_le _
  | x :: xs, ys, h, hs => by
    rw [List.nodup_cons] at h
    have hx := hs x (by simp)
    have := nodup_len xs (ys.erase x) h.2 (fun y hy => (List.mem_erase_of_ne (fun e => by subst e; exact h.1 hy)).2 (hs y (List.mem_cons_of_mem _ hy)))
    rw [List.length_erase_of_mem hx] at this
    have := List.length_pos_of_mem hx
    simp only [List.length_cons]; omega


end Go.Proofs.YtoihhlkidlapmaaGreat

/- What the byte tests of the program and of its model answer: the byte is a figure, a letter, may stand in a name. -/
namespace Go.Proofs.YtoihhlkidlapmaaGreat
open Go.RowKit

theorem hid {p : Prop} (h : p) : Hid p := h
theorem unhid {p : Prop} (h : Hid p) : p := h

def figB (c : Int) : Bool := decide (48 ≤ c) && decide (c ≤ 57)
def letB (c : Int) : Bool := decide (97 ≤ c) && decide (c ≤ 122)
def nameB (c : Int) : Bool := figB c || letB c || c == 46 || c == 95 || c == 45

set_option maxHeartbeats 400000 in
theorem isFigure_any (c : Int) (w : World) :
    Calls Tryz.prog 181 #[.int .u8 c] w fun e w' => e = .returned (.bool (figB c)) ∧ w' = w := by
  by_cases h1 : 48 ≤ c <;> by_cases h2 : c ≤ 57 <;>
  · go_enter Tryz.func181, Tryz.ntmps181
    go_wp2
    go_ret
    exact ⟨by simp [figB, h1, h2], rfl⟩

set_option maxHeartbeats 400000 in
theorem isLetter_any (c : Int) (w : World) :
    Calls Tryz.prog 240 #[.int .u8 c] w fun e w' => e = .returned (.bool (letB c)) ∧ w' = w := by
  by_cases h1 : 97 ≤ c <;> by_cases h2 : c ≤ 122 <;>
  · go_enter Tryz.func240, Tryz.ntmps240
    go_wp2
    go_ret
    exact ⟨by simp [letB, h1, h2], rfl⟩

set_option maxHeartbeats 1000000 in
theorem isNameByte_any (c : Int) (w : World) :
    Calls Tryz.prog 239 #[.int .u8 c] w fun e w' => e = .returned (.bool (nameB c)) ∧ w' = w := by
  cases h1 : figB c
  case' false => cases h2 : letB c
  case' false.false => cases h3 : (c == 46)
  case' false.false.false => cases h4 : (c == 95)
  case' false.false.false.false => cases h5 : (c == 45)
  all_goals
    go_enter Tryz.func239, Tryz.ntmps239
    go_wp2_with (first | (go_at_call 181; refine (isFigure_any _ _).mono ?_; rintro e w' ⟨rfl, rfl⟩) | (go_at_call 240; refine (isLetter_any _ _).mono ?_; rintro e w' ⟨rfl, rfl⟩))
    go_ret
    exact ⟨by simp_all [nameB], rfl⟩

set_option maxHeartbeats 1000000 in
theorem l1Small_any (c : Int) (w : World) :
    Calls Tryz.prog 273 #[.int .u8 c] w fun e w' => e = .returned (.bool (nameB c)) ∧ w' = w := by
  by_cases h1 : 97 ≤ c <;> by_cases h2 : c ≤ 122 <;> by_cases h6 : 48 ≤ c <;> by_cases h7 : c ≤ 57 <;> cases h3 : (c == 46) <;> cases h4 : (c == 95) <;> cases h5 : (c == 45)
  all_goals first | (exfalso; simp at *; omega) | skip
  all_goals
    go_enter Tryz.func273, Tryz.ntmps273
    go_wp2
    go_ret
    exact ⟨by simp_all [nameB, figB, letB], rfl⟩

set_option maxHeartbeats 400000 in
theorem l1In_any (n a b : Int) (w : World) :
    Calls Tryz.prog 178 #[.int .i64 n, .int .i64 a, .int .i64 b] w fun e w' => e = .returned (.bool (decide (a ≤ n) && decide (n ≤ b))) ∧ w' = w := by
  by_cases h1 : a ≤ n <;> by_cases h2 : n ≤ b <;>
  · go_enter Tryz.func178, Tryz.ntmps178
    go_wp2
    go_ret
    exact ⟨by simp [h1, h2], rfl⟩

end Go.Proofs.YtoihhlkidlapmaaGreat

/- What the program's iterator over the bytes of a text tells, and 'all bytes of a text are taken by a function'. -/
namespace Go.Proofs.YtoihhlkidlapmaaGreat
open Go.RowKit Go.Shelf

attribute [local go_sem] Oper.semAt_some



theorem cell_of_box_l {W : World} {B : Nat} {v : Value} {t : TypeId} (h : W.heap[B]? = some (.cells #[v] t (0, 0))) : W.cell? ⟨B, 0, none⟩ = some v ∧ W.frozen? ⟨B, 0, none⟩ = false := by
  constructor <;> simp [World.cell?, World.frozen?, h]
theorem cell_new_l (W : World) (v : Value) (t : TypeId) : (W.alloc (.cells #[v] t)).cell? ⟨W.heap.size, 0, none⟩ = some v ∧ (W.alloc (.cells #[v] t)).frozen? ⟨W.heap.size, 0, none⟩ = false :=
  cell_of_box_l (World.alloc_heap_new W _)
theorem cell_alloc_l {W : World} {a : Addr} {v : Value} (o : Obj) (h : W.cell? a = some v) : (W.alloc o).cell? a = some v := cell_kept h (World.grownBy_alloc W o none) (fun r e => by cases e)
theorem frozen_alloc_l {W : World} {a : Addr} {v : Value} (o : Obj) (h : W.cell? a = some v) (hf : W.frozen? a = false) : (W.alloc o).frozen? a = false := (frozen_kept h (World.grownBy_alloc W o none) (fun r e => by cases e)).trans hf

/-- What the cells at the blocks of A hold stays. -/
def Keeps (A : List Nat) (W W' : World) : Prop := ∀ b, b ∈ A → ∀ v, W.cell? ⟨b, 0, none⟩ = some v → W'.cell? ⟨b, 0, none⟩ = some v
theorem Keeps.refl (A : List Nat) (W : World) : Keeps A W W := fun _ _ _ h => h
theorem Keeps.t {A : List Nat} {X Y Z : World} (h : Keeps A X Y) (g : Keeps A Y Z) : Keeps A X Z := fun b hb v e => g b hb v (h b hb v e)
theorem Keeps.b {A : List Nat} {m : Nat} (W : World) (l : Nat) (o o' : Obj) (_ : m ≤ l) (h : W.heap[l]? = some o) (hc : o.isCells = false) (_ : o.isWalk = false) : Keeps A W (W.putObj l o') :=
  fun _ _ _ e => cell_kept e (grownBy_putObj' _ l o') (fun r e' => by cases e'; exact ⟨_, h, hc⟩)
theorem Keeps.of_below {A : List Nat} {B : Nat} {W W' : World} (h : Below B W W') (hA : ∀ b ∈ A, b < B) : Keeps A W W' := fun b hb _ e => (h.cell (p := ⟨b, 0, none⟩) (hA b hb)).trans e

theorem KeepsOthers_of_below {W W' : World} (h : Below W.heap.size W W') : KeepsOthers W W' := ⟨h.size, fun k _ hk _ => (h.block k (Array.getElem?_eq_some_iff.1 hk).1).trans hk⟩
theorem Keeps.setCell {A : List Nat} (W : World) (b : Nat) (v : Value) (h : b ∉ A) : Keeps A W (W.setCell ⟨b, 0, none⟩ v) := fun c hc u e => by
  rw [World.cell?_of_block (w := W) (Below.heap_setCell W ⟨b, 0, none⟩ v c (fun x => h (by cases x; exact hc)))]; exact e
theorem set_same {W : World} {a : Addr} {u v : Value} (h : W.cell? a = some u) : (W.setCell a v).cell? a = some v := World.cell?_setCell_same' _ _ _ (by rw [h]; rfl)
theorem set_far (W : World) (b c : Nat) (v : Value) (h : b ≠ c) : (W.setCell ⟨b, 0, none⟩ v).cell? ⟨c, 0, none⟩ = W.cell? ⟨c, 0, none⟩ := World.cell?_of_block (w := W) (Below.heap_setCell W ⟨b, 0, none⟩ v c (fun e => h e.symm))
theorem below_lt {W : World} {a : Nat} {v : Value} (h : W.cell? ⟨a, 0, none⟩ = some v) : a < W.heap.size := by
  unfold World.cell? at h
  cases hh : W.heap[a]? with
  | none => simp [hh] at h
  | some o => exact (Array.getElem?_eq_some_iff.1 hh).1

theorem take_snoc (s : ByteArray) (k : Nat) (h : k < s.size) : s.data.toList.take (k + 1) = s.data.toList.take k ++ [s[k]] := by
  rw [List.take_succ_eq_append_getElem (by simpa using h)]; rfl

set_option maxRecDepth 100000 in
set_option maxHeartbeats 1000000 in
theorem bytes1_in (F : Fence) (n : Nat) (hf : F.fn 265) (hro : F.round = none) (hn : 1 ≤ n) (l Bn : Nat) (s : ByteArray) (hs : s.size ≤ maxLen) (J Jx : List UInt8 → World → Prop)
    (hY : ∀ pre (x : UInt8) W, J pre W → pre.length < s.size → YieldAt F (n - 1) Tryz.prog l #[.int .u8 x.toNat] W fun e W' =>
      (e = .returned (.bool true) ∧ J (pre ++ [x]) W' ∧ Keeps [Bn] W W') ∨ (e = .returned (.bool false) ∧ Jx (pre ++ [x]) W'))
    (W : World) (hc : W.cell? ⟨Bn, 0, none⟩ = some (.string s)) (h0 : J [] W) :
    CallsIn F n Tryz.prog 265 #[.func (.yield l) #[] #[], .pointer (some ⟨Bn, 0, none⟩)] W fun e W' => (∃ v, e = .returned v) ∧
      ((∃ ys, ys = s.data.toList ∧ J ys W') ∨ (∃ pre, pre <+: s.data.toList ∧ Jx pre W')) := by
  unfold maxLen at hs
  refine callsIn_of_wp Tryz.func265 rfl hf ?_ hro
  simp only [Tryz.ntmps265, List.size_toArray, List.length_cons, List.length_nil, Nat.reduceAdd, Nat.reduceSub, Array.replicate_succ, Array.replicate_zero, List.push_toArray, List.append_toArray, List.nil_append, List.cons_append]
  gi_wp2
  gi_loopw [3] (fun p wr => ∃ k : Nat, k ≤ s.size ∧ p = .int .i64 k ∧ J (s.data.toList.take k) wr ∧ wr.cell? ⟨Bn, 0, none⟩ = some (.string s))
    (fun p _ => s.size - (intOf p).toNat)
  case atStart =>
    exact ⟨0, Nat.zero_le _, rfl, by simpa using h0, hc⟩
  case round =>
    obtain ⟨k, hk, rfl, hJ, hcr⟩ := hrel
    by_cases hlt : k < s.size
    · obtain ⟨fn, tmps, assign, body, hy, hR⟩ := hY _ s[k] wr hJ (by simp; omega)
      gi_wp2
      refine hR.mono ?_
      rintro e W3 (⟨rfl, hJ3, hk3⟩ | ⟨rfl, hJx3⟩)
      · have hc3 : W3.cell? ⟨Bn, 0, none⟩ = some (.string s) := hk3 Bn (by simp) _ hcr
        rw [← take_snoc s k hlt] at hJ3
        gi_wp2
        go_roundw
        case rel => exact ⟨k + 1, by omega, by go_num, hJ3, hc3⟩
        case measure => simp [intOf]; omega
      · gi_wp2
        refine bodyPost_ret (results_none rfl _ _ _) rfl ?_
        exact ⟨⟨_, rfl⟩, .inr ⟨_, by rw [← take_snoc s k hlt]; exact List.take_prefix _ _, hJx3⟩⟩
    · gi_wp2
      go_end0
      exact ⟨⟨_, rfl⟩, .inl ⟨_, by rw [List.take_of_length_le (by simp; omega)], hJ⟩⟩

set_option maxHeartbeats 1000000 in
theorem bytesOf_in (F : Fence) (n : Nat) (hf : F.fn 229) (hro : F.round = none) (s : ByteArray) (w : World) :
    CallsIn F n Tryz.prog 229 #[.string s] w fun e w' => e = .returned (.func (.func 265) #[] #[.pointer (some ⟨w.heap.size, 0, none⟩)]) ∧ w' = w.alloc (.cells #[.string s] 9) := by
  refine callsIn_of_wp Tryz.func229 rfl hf ?_ hro
  simp only [Tryz.ntmps229, List.size_toArray, List.length_cons, List.length_nil, Nat.reduceAdd, Nat.reduceSub, Array.replicate_succ, Array.replicate_zero, List.push_toArray, List.append_toArray, List.nil_append, List.cons_append]
  gi_wp2
  go_ret
  exact ⟨rfl, rfl⟩

theorem bytes_stops (F : Fence) (n : Nat) (hf : F.fn 265) (hro : F.round = none) (hn : 1 ≤ n) (Bn : Nat) (s : ByteArray) (hs : s.size ≤ maxLen) (w : World) (hBn : Bn < w.heap.size)
    (hc : w.cell? ⟨Bn, 0, none⟩ = some (.string s)) :
    SeqStopsK F n Tryz.prog 265 #[.pointer (some ⟨Bn, 0, none⟩)] (fun x : UInt8 => #[Value.int .u8 x.toNat]) (Keeps [Bn]) (fun ys => ys = s.data.toList) (fun pre => pre <+: s.data.toList) s.size w := fun l J Jx W hW _ _ hY h0 =>
  bytes1_in F n hf hro hn l Bn s hs J Jx hY W ((hW.cell (p := ⟨Bn, 0, none⟩) hBn).trans hc) h0

set_option maxRecDepth 100000 in
set_option maxHeartbeats 2000000 in
theorem allBytes_any (g : Nat) (T : Int → Bool) (eg : ∀ args w, (callFunc g args).run Tryz.prog w = .ok (.enter g args) w)
    (hT : ∀ (c : Int) (w : World), Calls Tryz.prog g #[.int .u8 c] w fun e w' => e = .returned (.bool (T c)) ∧ w' = w) (s : ByteArray) (hs : s.size ≤ maxLen) (w : World) :
    Calls Tryz.prog 182 #[.string s, .func (.func g) #[] #[]] w fun e W' => e = .returned (.bool (s.data.toList.all fun c => T c.toNat)) ∧ Below w.heap.size w W' := by
  refine (callsIn_wide (n := 3)).1 ?_
  refine callsIn_of_wp_marks Tryz.func182 rfl trivial ?_ rfl
  simp only [Tryz.ntmps182, List.size_toArray, List.length_cons, List.length_nil, Nat.reduceAdd, Nat.reduceSub, Array.replicate_succ, Array.replicate_zero, List.push_toArray, List.append_toArray, List.nil_append, List.cons_append]
  gi_wp2_with (refine ⟨trivial, ?_⟩; gi_at_call 229; refine (bytesOf_in Fence.wide _ trivial rfl _ _).mono ?_; rintro e w' ⟨rfl, rfl⟩)
  have c0 := cell_new_l w (.func (.func g) #[] #[]) 207
  have c1 := cell_new_l (w.alloc (.cells #[.func (.func g) #[] #[]] 207)) (.bool false) 4
  have c2 := cell_new_l ((w.alloc (.cells #[.func (.func g) #[] #[]] 207)).alloc (.cells #[.bool false] 4)) (.string s) 9
  simp only [World.size_alloc] at c1 c2
  have hB0 : Below w.heap.size w (((w.alloc (.cells #[.func (.func g) #[] #[]] 207)).alloc (.cells #[.bool false] 4)).alloc (.cells #[.string s] 9)) := (((Below.refl _ w).alloc (Nat.le_refl _) _).alloc (by simp) _).alloc (by simp; omega) _
  refine wpIn_rangeFunc_ownF rfl (by omega) (gf := 265) (lb := #[.pointer (some ⟨w.heap.size + 1 + 1, 0, none⟩)]) rfl trivial (enters_of Tryz.func265 (by kernel_rfl) rfl)
    (bytes_stops Fence.wide _ trivial rfl (by omega) (w.heap.size + 1 + 1) s hs _ (by simp) c2.1) Keeps.t (Keeps.b) (Below.refl _ _) (fun _ => rfl)
    (fun pre W => ((∀ y ∈ pre, T y.toNat = true) ∧ W.cell? ⟨w.heap.size, 0, none⟩ = some (.func (.func g) #[] #[]) ∧ W.cell? ⟨w.heap.size + 1, 0, none⟩ = some (.bool false) ∧ W.frozen? ⟨w.heap.size + 1, 0, none⟩ = false) ∧ Below w.heap.size w W)
    (fun c pre W => (c = .ret ∧ (∃ y ∈ pre, T y.toNat = false) ∧ W.cell? ⟨w.heap.size + 1, 0, none⟩ = some (.bool false)) ∧ Below w.heap.size w W)
    (OwnFrom.and (Own.from (fun s A B row hs hg hr => ⟨hs.1, cell_kept hs.2.1 hg hr, cell_kept hs.2.2.1 hg hr, (frozen_kept hs.2.2.1 hg hr).trans hs.2.2.2⟩) _) (ownFrom_below (Nat.le_refl _) (by simp; omega)))
    (fun c => OwnFrom.and (Own.from (fun s A B row hs hg hr => ⟨hs.1, hs.2.1, cell_kept hs.2.2 hg hr⟩) _) (ownFrom_below (Nat.le_refl _) (by simp; omega)))
    ⟨⟨by simp, cell_alloc_l _ (cell_alloc_l _ c0.1), cell_alloc_l _ c1.1, frozen_alloc_l _ c1.1 c1.2⟩, hB0⟩
    (fun x => { tmps := #[.string s, .func (.func g) #[] #[], undef, .pointer (some ⟨w.heap.size, 0, none⟩), .pointer (some ⟨w.heap.size + 1, 0, none⟩), .int .u8 x.toNat, .string s, .func (.func 265) #[] #[.pointer (some ⟨w.heap.size + 1 + 1, 0, none⟩)], .int .u8 x.toNat, undef, undef, undef, undef], defers := [] }) ?assign ?body ?done ?stop
  case assign =>
    intro l x W K hK
    gi_wp2
    exact hK
  case body =>
    rintro l pre x W ⟨⟨hp, hcw, hcr, hfr⟩, hB⟩ _
    cases hx : T x.toNat
    · gi_wp2
      refine ⟨trivial, (CallsIn.inRound l (callsIn_wide.2 (hT _ _))).mono ?_⟩
      rintro e w' ⟨rfl, rfl⟩
      gi_wp2
      exact ⟨KeepsOthers.setCell _ _ _, ⟨rfl, ⟨x, by simp, hx⟩, World.cell?_setCell_same' _ _ _ (by rw [hcr]; rfl)⟩, hB.setCell (p := ⟨w.heap.size + 1, 0, none⟩) (by simp) _⟩
    · gi_wp2
      refine ⟨trivial, (CallsIn.inRound l (callsIn_wide.2 (hT _ _))).mono ?_⟩
      rintro e w' ⟨rfl, rfl⟩
      gi_wp2
      exact ⟨KeepsOthers.refl _, Keeps.refl _ _, ⟨fun y hy => (List.mem_append.1 hy).elim (hp y) (fun e => by simp at e; subst e; exact hx), hcw, hcr, hfr⟩, hB⟩
  case done =>
    rintro D ys W hD rfl ⟨⟨hne, _, hcr, hfr⟩, hB⟩ hK
    gi_wp2
    have hK' := (KeepsOthers.setCell W ⟨w.heap.size + 1, 0, none⟩ (.bool true)).same D _ hK rfl
    refine ⟨by simp, .inl ⟨_, _, rfl, run_takeDeferred hK', ?_⟩⟩
    have hc5 := cell_kept (World.cell?_setCell_same' W ⟨w.heap.size + 1, 0, none⟩ (.bool true) (by rw [hcr]; rfl)) (grownBy_putObj' _ D (.deferred none)) (fun r e => by cases e; exact ⟨_, hK', rfl⟩)
    refine ⟨.bool true, ?_, by rw [List.all_eq_true.2 hne], (hB.setCell (p := ⟨w.heap.size + 1, 0, none⟩) (by simp) _).trans (belowK_b (w := w) (Nat.le_refl _) _ D _ _ (by simp at hD; omega) hK' rfl rfl)⟩
    simp [results, Tryz.f182, go_sem, hc5]
  case stop =>
    rintro D c pre W hD hpre ⟨⟨rfl, ⟨y, hy, hfy⟩, hcr⟩, hB⟩ hK
    gi_wp2
    refine ⟨by simp, .inl ⟨_, _, rfl, run_takeDeferred hK, ?_⟩⟩
    have hc5 := cell_kept hcr (grownBy_putObj' _ D (.deferred none)) (fun r e => by cases e; exact ⟨_, hK, rfl⟩)
    refine ⟨.bool false, ?_, by rw [List.all_eq_false.2 ⟨y, hpre.subset hy, by simp [hfy]⟩], hB.trans (belowK_b (w := w) (Nat.le_refl _) W D _ _ (by simp at hD; omega) hK rfl rfl)⟩
    simp [results, Tryz.f182, go_sem, hc5]
end Go.Proofs.YtoihhlkidlapmaaGreat

/- Rows of texts: what they hold, the laws' own copies of them, their sizes; two rows of the same texts are the same. -/
namespace Go.Proofs.YtoihhlkidlapmaaGreat
open Go.RowKit Go.Shelf

/-- A row of texts that is read. -/
def TxtsAt (W : World) (a : Option Addr) (xs : List ByteArray) : Prop := xs = [] ∨ ∃ b o, a = some ⟨b, o, .none⟩ ∧ b < W.heap.size ∧ ∀ (i : Nat) x, xs[i]? = some x → W.cell? ⟨b, o + i, .none⟩ = some (.string x)
theorem TxtsAt.below {W W' : World} {a : Option Addr} {xs : List ByteArray} (h : TxtsAt W a xs) (hb : Below W.heap.size W W') : TxtsAt W' a xs := by
  rcases h with h | ⟨b, o, rfl, hl, hc⟩
  · exact .inl h
  · exact .inr ⟨b, o, rfl, Nat.lt_of_lt_of_le hl hb.size, fun i x hi => (hb.cell (p := ⟨b, o + i, .none⟩) hl).trans (hc i x hi)⟩
theorem TxtsAt.get {W : World} {a : Option Addr} {xs : List ByteArray} (h : TxtsAt W a xs) (hne : xs ≠ []) : ∃ b o, a = some ⟨b, o, .none⟩ ∧ b < W.heap.size ∧ ∀ (i : Nat) x, xs[i]? = some x → W.cell? ⟨b, o + i, .none⟩ = some (.string x) := h.resolve_left hne
theorem TxtsAt.block {W W' : World} {a : Option Addr} {xs : List ByteArray} (h : TxtsAt W a xs) (g : Nat) (hne : ∀ b o, a = some ⟨b, o, .none⟩ → b ≠ g) (hz : W.heap.size ≤ W'.heap.size) (hb : ∀ b, b < W.heap.size → b ≠ g → W'.heap[b]? = W.heap[b]?) : TxtsAt W' a xs := by
  rcases h with h | ⟨b, o, rfl, hl, hc⟩
  · exact .inl h
  · exact .inr ⟨b, o, rfl, Nat.lt_of_lt_of_le hl hz, fun i x hi => (World.cell?_of_block (w := W) (hb b hl (hne b o rfl))).trans (hc i x hi)⟩


/-- A block that is a row of n texts. -/
def TxtRow (W : World) (g T n : Nat) (f : Nat → ByteArray) : Prop := ∃ cur : Array Value, W.heap[g]? = some (.cells cur T (0, 0)) ∧ cur.size = n ∧ ∀ i, i < n → cur[i]? = some (.string (f i))
theorem TxtRow.lt {W : World} {g T n : Nat} {f : Nat → ByteArray} (x : TxtRow W g T n f) : g < W.heap.size := by
  obtain ⟨cur, h1, _⟩ := x; exact (Array.getElem?_eq_some_iff.1 h1).1
theorem TxtRow.block {W W' : World} {g T n : Nat} {f : Nat → ByteArray} (x : TxtRow W g T n f) (e : W'.heap[g]? = W.heap[g]?) : TxtRow W' g T n f := by
  obtain ⟨cur, h1, h2, h3⟩ := x; exact ⟨cur, e.trans h1, h2, h3⟩
theorem TxtRow.below {W W' : World} {B g T n : Nat} {f : Nat → ByteArray} (x : TxtRow W g T n f) (hb : Below B W W') (hg : g < B) : TxtRow W' g T n f := x.block (hb.block g hg)
theorem TxtRow.congr {W : World} {g T n : Nat} {f f' : Nat → ByteArray} (x : TxtRow W g T n f) (e : ∀ j, j < n → f j = f' j) : TxtRow W g T n f' := by
  obtain ⟨cur, h1, h2, h3⟩ := x; exact ⟨cur, h1, h2, fun j hj => by rw [← e j hj]; exact h3 j hj⟩
theorem TxtRow.cells {W : World} {g T n : Nat} {f : Nat → ByteArray} (x : TxtRow W g T n f) (k : Nat) (hk : k < n) : W.cell? ⟨g, k, .none⟩ = some (.string (f k)) ∧ W.frozen? ⟨g, k, .none⟩ = false := by
  obtain ⟨cur, h1, h2, h3⟩ := x
  exact ⟨by simp [World.cell?, h1, h3 k hk], by simp [World.frozen?, h1]⟩
def updX (f : Nat → ByteArray) (k : Nat) (e : ByteArray) : Nat → ByteArray := fun j => if j = k then e else f j
theorem TxtRow.set {W : World} {g T n : Nat} {f : Nat → ByteArray} (x : TxtRow W g T n f) (k : Nat) (hk : k < n) (e : ByteArray) : TxtRow (W.setCell ⟨g, k, .none⟩ (.string e)) g T n (updX f k e) := by
  obtain ⟨cur, h1, h2, h3⟩ := x
  refine ⟨cur.setIfInBounds k (.string e), heap_setCell_same _ g _ _ T _ h1, by simpa using h2, fun i hi => ?_⟩
  unfold updX
  simp only [Array.getElem?_setIfInBounds]
  by_cases e1 : i = k
  · subst e1
    rw [if_pos rfl, if_pos (by omega), if_pos rfl]
  · rw [if_neg (by omega), if_neg e1]
    exact h3 i hi
def txtFn (xs : List ByteArray) (i : Nat) : ByteArray := xs.getD i ⟨#[]⟩
theorem txtFn_get {xs : List ByteArray} {i : Nat} {x : ByteArray} (h : xs[i]? = some x) : txtFn xs i = x := by unfold txtFn; rw [List.getD_eq_getElem?_getD, h]; rfl
theorem TxtRow.at {W : World} {g T n : Nat} {xs : List ByteArray} (x : TxtRow W g T n (txtFn xs)) (hn : xs.length ≤ n) : TxtsAt W (some ⟨g, 0, .none⟩) xs :=
  .inr ⟨g, 0, rfl, x.lt, fun i e hi => by
    have hl : i < xs.length := (List.getElem?_eq_some_iff.1 hi).1
    have := (x.cells i (by omega)).1
    rw [txtFn_get hi] at this
    rwa [Nat.zero_add]⟩


set_option maxRecDepth 100000 in
set_option maxHeartbeats 4000000 in
theorem eqStringS_same (xs : List ByteArray) (a b : Option Addr) (cap cap2 : Nat) (w : World) (hx : xs.length ≤ maxLen) (h : TxtsAt w a xs) (h2 : TxtsAt w b xs) :
    Calls Tryz.prog 27 #[.slice a xs.length cap, .slice b xs.length cap2] w fun r w' => r = .returned (.bool true) ∧ Below w.heap.size w w' := by
  unfold maxLen at hx
  have hl' : ((xs.length : Int) != (xs.length : Int)) = false := by simp
  go_enter Tryz.func27, Tryz.ntmps27
  go_wp2_with fail
  go_loopw [5] (fun i wr => ∃ k : Nat, k ≤ xs.length ∧ i = .int .i64 k ∧ Below w.heap.size w wr) (fun i _ => xs.length - (intOf i).toNat)
  case atStart => exact ⟨0, Nat.zero_le _, rfl, Below.refl _ _⟩
  case round =>
    obtain ⟨k, hk, rfl, hB⟩ := hrel
    by_cases hlt : k < xs.length
    · obtain ⟨e, he⟩ : ∃ e, xs[k]? = some e := ⟨xs[k], List.getElem?_eq_getElem hlt⟩
      obtain ⟨bb, o, rfl, hbl, hc⟩ := h.get (by intro e; subst e; simp at hlt)
      obtain ⟨bb2, o2, rfl, hbl2, hc2⟩ := h2.get (by intro e; subst e; simp at hlt)
      have c0 := (hB.cell (p := ⟨bb, o + k, .none⟩) hbl).trans (hc k e he)
      have d0 := (hB.cell (p := ⟨bb2, o2 + k, .none⟩) hbl2).trans (hc2 k e he)
      have HB := hid hB
      have HH := hid (And.intro h (And.intro h2 (And.intro hc hc2)))
      have hq : (e.toList != e.toList) = false := by simp
      clear hc hc2 hB he h h2
      go_wp2_with fail
      go_quiet (fail)
      go_wp2_with fail
      go_roundw
      case rel => exact ⟨k + 1, by omega, by go_num, ⟨(unhid HB).os, (unhid HB).tape, (unhid HB).output, (unhid HB).size, (unhid HB).block⟩⟩
      case measure => simp [intOf]; omega
    · have e : k = xs.length := by omega
      subst e
      go_wp2_with fail
      go_ret
      exact ⟨rfl, hB⟩
end Go.Proofs.YtoihhlkidlapmaaGreat

/- Data in memory of its own: by the list of its blocks. What is written over other blocks leaves it as it was. -/
namespace Go.Proofs.YtoihhlkidlapmaaGreat
open Go.RowKit

/-- Nothing changes but blocks of a list. -/
structure Only (F : List Nat) (w w' : World) : Prop where
  os : w'.os = w.os
  tape : w'.tape = w.tape
  output : w'.output = w.output
  size : w.heap.size ≤ w'.heap.size
  block : ∀ k, k < w.heap.size → k ∉ F → w'.heap[k]? = w.heap[k]?
theorem Only.refl (F : List Nat) (w : World) : Only F w w := ⟨rfl, rfl, rfl, Nat.le_refl _, fun _ _ _ => rfl⟩
theorem Only.trans {F : List Nat} {a b c : World} (h : Only F a b) (k : Only F b c) : Only F a c :=
  ⟨k.os.trans h.os, k.tape.trans h.tape, k.output.trans h.output, Nat.le_trans h.size k.size, fun i hi hn => (k.block i (Nat.lt_of_lt_of_le hi h.size) hn).trans (h.block i hi hn)⟩
theorem Only.mono {F G : List Nat} {a b : World} (h : Only F a b) (hs : ∀ k ∈ F, k ∈ G) : Only G a b :=
  ⟨h.os, h.tape, h.output, h.size, fun i hi hn => h.block i hi (fun e => hn (hs i e))⟩
theorem Only.ofBelow {F : List Nat} {a b : World} (h : Below a.heap.size a b) : Only F a b := ⟨h.os, h.tape, h.output, h.size, fun i hi _ => h.block i hi⟩
theorem Only.setCell {F : List Nat} {a b : World} (h : Only F a b) {p : Addr} (hp : p.block ∈ F) (v : Value) : Only F a (b.setCell p v) :=
  ⟨h.os, h.tape, h.output, by simpa using h.size, fun i hi hn => (Below.heap_setCell _ _ _ _ (fun e => hn (by rw [e]; exact hp))).trans (h.block i hi hn)⟩
/-- Nothing changes but blocks from N on, ahead of M. -/
structure OnlyIn (N M : Nat) (w w' : World) : Prop where
  os : w'.os = w.os
  tape : w'.tape = w.tape
  output : w'.output = w.output
  size : w.heap.size ≤ w'.heap.size
  block : ∀ k, k < w.heap.size → (k < N ∨ M ≤ k) → w'.heap[k]? = w.heap[k]?
theorem Only.inside {F : List Nat} {N M : Nat} {a b : World} (h : Only F a b) (hF : ∀ k ∈ F, N ≤ k ∧ k < M) : OnlyIn N M a b :=
  ⟨h.os, h.tape, h.output, h.size, fun i hi hn => h.block i hi (fun e => by have := hF i e; omega)⟩
theorem OnlyIn.below {w0 w w' : World} {N M : Nat} (h : OnlyIn N M w w') (hb : Below w0.heap.size w0 w) (hN : w0.heap.size ≤ N) : Below w0.heap.size w0 w' :=
  ⟨h.os.trans hb.os, h.tape.trans hb.tape, h.output.trans hb.output, Nat.le_trans hb.size h.size, fun k hk => (h.block k (Nat.lt_of_lt_of_le hk hb.size) (by omega)).trans (hb.block k hk)⟩

/-- A kind of data in memory of its own. -/
structure Kind where
  D : Type
  own : World → Value → D → List Nat → Prop
  frame : ∀ {W W' : World} {v : Value} {d : D} {F : List Nat}, own W v d F → (∀ k ∈ F, W'.heap[k]? = W.heap[k]?) → own W' v d F
  lt : ∀ {W : World} {v : Value} {d : D} {F : List Nat}, own W v d F → ∀ k ∈ F, k < W.heap.size
def Kind.In (K : Kind) (W : World) (v : Value) (d : K.D) (N M : Nat) : Prop := ∃ F, K.own W v d F ∧ ∀ k ∈ F, N ≤ k ∧ k < M
theorem Kind.In.below {K : Kind} {W W' : World} {v : Value} {d : K.D} {N M : Nat} (h : K.In W v d N M) (hb : Below W.heap.size W W') : K.In W' v d N M := by
  obtain ⟨F, h1, h2⟩ := h
  exact ⟨F, K.frame h1 (fun k hk => hb.block k (K.lt h1 k hk)), h2⟩
theorem Kind.In.wide {K : Kind} {W : World} {v : Value} {d : K.D} {N M N2 M2 : Nat} (h : K.In W v d N M) (hN : N2 ≤ N) (hM : M ≤ M2) : K.In W v d N2 M2 := by
  obtain ⟨F, h1, h2⟩ := h
  exact ⟨F, h1, fun k hk => by have := h2 k hk; omega⟩
end Go.Proofs.YtoihhlkidlapmaaGreat

/- What the laws write over a text to see whose it is. -/
namespace Go.Proofs.YtoihhlkidlapmaaGreat
open Go.RowKit Go.Shelf

/-- The figures of a number, ahead of others. -/
def mdig : Nat → Nat → List UInt8 → List UInt8
  | 0, _, acc => acc
  | f + 1, k, acc => if k = 0 then acc else mdig f (k / 10) (UInt8.ofNat (48 + k % 10) :: acc)
def mtext (k : Nat) : ByteArray := ⟨(109 :: mdig 20 k []).toArray⟩
theorem mdig_step (f k : Nat) (acc : List UInt8) (hk : 0 < k) : mdig (f + 1) k acc = mdig f (k / 10) (UInt8.ofNat (48 + k % 10) :: acc) := by
  rw [mdig, if_neg (by omega)]
theorem mdig_zero (f : Nat) (acc : List UInt8) : mdig f 0 acc = acc := by cases f <;> simp [mdig]

theorem ba_cons (c : UInt8) (l : List UInt8) : (⟨#[c]⟩ : ByteArray) ++ ⟨l.toArray⟩ = ⟨(c :: l).toArray⟩ := by
  apply ByteArray.ext
  simp [ByteArray.data_append]
theorem conv_one (w : World) (q : Nat) : Sem.run Tryz.prog (convert 22 9 (.slice (some ⟨w.heap.size, 0, none⟩) 1 1)) (w.alloc (.cells #[.int .u8 (48 + (q : Int) % 10)] 5)) = .ok (.string ⟨#[UInt8.ofNat (48 + q % 10)]⟩) (w.alloc (.cells #[.int .u8 (48 + (q : Int) % 10)] 5)) := by
  refine run_convert_bytes_back (P := Tryz.prog) _ 22 9 5 ⟨w.heap.size, 0, none⟩ 1 [UInt8.ofNat (48 + q % 10)] (by kernel_rfl) (by kernel_rfl) (by kernel_rfl) (fun j hj => ?_)
  have : j = 0 := by simpa using hj
  subst this
  have h1 := (cell_new_l w (.int .u8 (48 + (q : Int) % 10)) 5).1
  have h2 : (UInt8.ofNat (48 + q % 10)).toNat = 48 + q % 10 := by simp; omega
  simp only [List.getElem_cons_zero, h2]
  have e : ((⟨w.heap.size, 0, none⟩ : Addr).add 0) = ⟨w.heap.size, 0, none⟩ := rfl
  rw [e, h1]; rfl

set_option maxRecDepth 100000 in
set_option maxHeartbeats 1000000 in
theorem markText_any (k : Nat) (w : World) (hk : 0 < k) (hk2 : k < 100000000) :
    Calls Tryz.prog 74 #[.int .i64 (k : Int)] w fun x w' => x = .returned (.string (mtext k)) ∧ Below w.heap.size w w' := by
  go_enter Tryz.func74, Tryz.ntmps74
  go_wp2_with fail
  go_loopw [0, 3] (fun c o wr => ∃ (f q : Nat) (l : List UInt8), Hid (q < 10 ^ f) ∧ q < 100000000 ∧ l.length + f ≤ 20 ∧ c = .int .i64 (q : Int) ∧ o = .string ⟨l.toArray⟩ ∧ Hid (mdig f q l = mdig 20 k []) ∧ Below w.heap.size w wr) (fun c _ _ => (intOf c).toNat)
  case atStart => exact ⟨20, k, [], hid (by omega), hk2, by simp, rfl, rfl, hid rfl, Below.refl _ _⟩
  case round =>
    obtain ⟨f, q, l, hq, hq2, hl, rfl, rfl, HD, hB⟩ := hrel
    by_cases h0 : 0 < q
    · obtain ⟨f, rfl⟩ : ∃ g, f = g + 1 := ⟨f - 1, by have : f ≠ 0 := (by rintro rfl; have := unhid hq; omega)
                                                     omega⟩
      have hcv := conv_one wr q
      have HS := hid (mdig_step f q l h0)
      have HB := hid ((hB.alloc hB.size (.cells #[.int .u8 (48 + (q : Int) % 10)] 5)))
      go_wp2_with fail
      go_roundw
      case rel =>
        refine ⟨f, q / 10, UInt8.ofNat (48 + q % 10) :: l, hid (by have := unhid hq; rw [Nat.pow_succ] at this; omega), by omega, by simp; omega, by go_num, ?_, hid (by rw [← unhid HS]; exact unhid HD), unhid HB⟩
        rw [ba_cons]
        simp
      case measure => simp [intOf]; omega
    · have e : q = 0 := by omega
      subst e
      go_wp2_with fail
      go_ret
      refine ⟨?_, hB⟩
      have := unhid HD
      rw [mdig_zero] at this
      unfold mtext
      rw [← this, ba_cons]
      rfl

theorem markText_at (c : Int) (k : Nat) (w : World) (hc : c = (k : Int)) (hk : 0 < k) (hk2 : k < 100000000) :
    Calls Tryz.prog 74 #[.int .i64 c] w fun x w' => x = .returned (.string (mtext k)) ∧ Below w.heap.size w w' := by subst hc; exact markText_any k w hk hk2
theorem ret_int {k : IntKind} {a b : Int} (h : a = b) : Ending.returned (.int k a) = .returned (.int k b) := by rw [h]
end Go.Proofs.YtoihhlkidlapmaaGreat

/- Data by its shape: texts, numbers, structs and rows of these, read, in memory of its own, and written over. -/
namespace Go.Proofs.YtoihhlkidlapmaaGreat
open Go.RowKit

/-- What lies in n cells, one behind the other. -/
structure CK where
  D : Type
  n : Nat
  own : World → List Value → D → List Nat → Prop
  at_ : World → List Value → D → Prop
  mark : Nat → D → D
  cnt : D → Nat
  sz : D → Nat
  big : D → Prop
  len : ∀ {W : World} {cs : List Value} {d : D} {F : List Nat}, own W cs d F → cs.length = n
  alen : ∀ {W : World} {cs : List Value} {d : D}, at_ W cs d → cs.length = n
  frame : ∀ {W W' : World} {cs : List Value} {d : D} {F : List Nat}, own W cs d F → (∀ k ∈ F, W'.heap[k]? = W.heap[k]?) → own W' cs d F
  lt : ∀ {W : World} {cs : List Value} {d : D} {F : List Nat}, own W cs d F → ∀ k ∈ F, k < W.heap.size
  nodup : ∀ {W : World} {cs : List Value} {d : D} {F : List Nat}, own W cs d F → F.Nodup
  below : ∀ {W W' : World} {cs : List Value} {d : D}, at_ W cs d → Below W.heap.size W W' → at_ W' cs d
  toAt : ∀ {W : World} {cs : List Value} {d : D} {F : List Nat}, own W cs d F → at_ W cs d

def txtC : CK where
  D := ByteArray
  n := 1
  own := fun _ cs x F => cs = [.string x] ∧ F = []
  at_ := fun _ cs x => cs = [.string x]
  mark := fun q _ => mtext q
  cnt := fun _ => 1
  sz := fun x => x.size
  big := fun x => x.size ≤ maxLen
  len := fun h => by rw [h.1]; rfl
  alen := fun h => by rw [h]; rfl
  frame := fun h _ => h
  lt := fun h k hk => by rw [h.2] at hk; cases hk
  nodup := fun h => by rw [h.2]; exact List.nodup_nil
  below := fun h _ => h
  toAt := fun h => h.1
def intC : CK where
  D := Int
  n := 1
  own := fun _ cs x F => cs = [.int .i64 x] ∧ F = []
  at_ := fun _ cs x => cs = [.int .i64 x]
  mark := fun q _ => (q : Int)
  cnt := fun _ => 1
  sz := fun _ => 0
  big := fun x => -9223372036854775808 ≤ x ∧ x ≤ 9223372036854775807
  len := fun h => by rw [h.1]; rfl
  alen := fun h => by rw [h]; rfl
  frame := fun h _ => h
  lt := fun h k hk => by rw [h.2] at hk; cases hk
  nodup := fun h => by rw [h.2]; exact List.nodup_nil
  below := fun h _ => h
  toAt := fun h => h.1
def pairC (a b : CK) : CK where
  D := a.D × b.D
  n := a.n + b.n
  own := fun W cs d F => ∃ c1 c2 F1 F2, cs = c1 ++ c2 ∧ F = F1 ++ F2 ∧ a.own W c1 d.1 F1 ∧ b.own W c2 d.2 F2 ∧ ∀ k ∈ F1, k ∉ F2
  at_ := fun W cs d => ∃ c1 c2, cs = c1 ++ c2 ∧ a.at_ W c1 d.1 ∧ b.at_ W c2 d.2
  mark := fun q d => (a.mark q d.1, b.mark (q + a.cnt d.1) d.2)
  cnt := fun d => a.cnt d.1 + b.cnt d.2
  sz := fun d => a.sz d.1 + b.sz d.2
  big := fun d => a.big d.1 ∧ b.big d.2
  len := fun h => by obtain ⟨c1, c2, F1, F2, rfl, rfl, h1, h2, _⟩ := h; rw [List.length_append, a.len h1, b.len h2]
  alen := fun h => by obtain ⟨c1, c2, rfl, h1, h2⟩ := h; rw [List.length_append, a.alen h1, b.alen h2]
  frame := fun h hf => by
    obtain ⟨c1, c2, F1, F2, rfl, rfl, h1, h2, hd⟩ := h
    exact ⟨c1, c2, F1, F2, rfl, rfl, a.frame h1 (fun k hk => hf k (List.mem_append.2 (.inl hk))), b.frame h2 (fun k hk => hf k (List.mem_append.2 (.inr hk))), hd⟩
  lt := fun h k hk => by
    obtain ⟨c1, c2, F1, F2, rfl, rfl, h1, h2, hd⟩ := h
    rcases List.mem_append.1 hk with hk | hk
    · exact a.lt h1 k hk
    · exact b.lt h2 k hk
  nodup := fun h => by
    obtain ⟨c1, c2, F1, F2, rfl, rfl, h1, h2, hd⟩ := h
    exact List.nodup_append.2 ⟨a.nodup h1, b.nodup h2, fun x hx y hy e => hd x hx (e ▸ hy)⟩
  below := fun h hb => by obtain ⟨c1, c2, e, h1, h2⟩ := h; exact ⟨c1, c2, e, a.below h1 hb, b.below h2 hb⟩
  toAt := fun h => by obtain ⟨c1, c2, F1, F2, e, _, h1, h2, _⟩ := h; exact ⟨c1, c2, e, a.toAt h1, b.toAt h2⟩
/-- The same by another name. -/
def isoC (K : CK) (T : Type) (f : T → K.D) (g : K.D → T) : CK where
  D := T
  n := K.n
  own := fun W cs t F => K.own W cs (f t) F
  at_ := fun W cs t => K.at_ W cs (f t)
  mark := fun q t => g (K.mark q (f t))
  cnt := fun t => K.cnt (f t)
  sz := fun t => K.sz (f t)
  big := fun t => K.big (f t)
  len := K.len
  alen := K.alen
  frame := K.frame
  lt := K.lt
  nodup := K.nodup
  below := K.below
  toAt := K.toAt

/-- A row that is read. -/
def rowAt (K : CK) (W : World) (v : Value) (ds : List K.D) : Prop := ∃ (a : Option Addr) (cap : Nat), v = .slice a ds.length cap ∧ (a = none → cap = 0) ∧ ds.length ≤ cap ∧
  (ds = [] ∨ ∃ b o, a = some ⟨b, o, none⟩ ∧ b < W.heap.size ∧ ∀ (i : Nat) d, ds[i]? = some d → ∃ cs, K.at_ W cs d ∧ ∀ j c, cs[j]? = some c → W.cell? ⟨b, o + i * K.n + j, none⟩ = some c)
theorem rowAt.below {K : CK} {W W' : World} {v : Value} {ds : List K.D} (h : rowAt K W v ds) (hb : Below W.heap.size W W') : rowAt K W' v ds := by
  obtain ⟨a, cap, hv, hn, hc, h⟩ := h
  refine ⟨a, cap, hv, hn, hc, ?_⟩
  rcases h with h | ⟨b, o, ha, hl, he⟩
  · exact .inl h
  · refine .inr ⟨b, o, ha, Nat.lt_of_lt_of_le hl hb.size, fun i d hi => ?_⟩
    obtain ⟨cs, h1, h2⟩ := he i d hi
    exact ⟨cs, K.below h1 hb, fun j c hj => (hb.cell (p := ⟨b, o + i * K.n + j, none⟩) hl).trans (h2 j c hj)⟩
/-- A row at block g, each of its items with its own blocks. -/
structure RowAll (K : CK) (ty : Nat) (W : World) (g : Nat) (ds : List K.D) (cur : Array Value) (Fs : List (List Nat)) : Prop where
  heap : W.heap[g]? = some (.cells cur ty (0, 0))
  size : ds.length * K.n ≤ cur.size
  len : Fs.length = ds.length
  each : ∀ (i : Nat) d, ds[i]? = some d → ∃ cs Fi, Fs[i]? = some Fi ∧ (∀ (j : Nat) c, cs[j]? = some c → cur[i * K.n + j]? = some c) ∧ K.own W cs d Fi
def rowOwn (K : CK) (ty : Nat) (W : World) (v : Value) (ds : List K.D) (F : List Nat) : Prop := (ds = [] ∧ F = [] ∧ ∃ a c, v = .slice a 0 c ∧ (a = none → c = 0)) ∨
  ∃ g cap cur Fs, v = .slice (some ⟨g, 0, none⟩) ds.length cap ∧ ds.length ≤ cap ∧ F = g :: Fs.flatten ∧ F.Nodup ∧ RowAll K ty W g ds cur Fs
theorem mem_flatS {Fs : List (List Nat)} {i : Nat} {Fi : List Nat} (h : Fs[i]? = some Fi) {k : Nat} (hk : k ∈ Fi) : k ∈ Fs.flatten := List.mem_flatten.2 ⟨Fi, List.mem_of_getElem? h, hk⟩
theorem RowAll.frame {K : CK} {ty : Nat} {W W' : World} {g : Nat} {ds : List K.D} {cur : Array Value} {Fs : List (List Nat)} (h : RowAll K ty W g ds cur Fs) (hf : ∀ k ∈ g :: Fs.flatten, W'.heap[k]? = W.heap[k]?) : RowAll K ty W' g ds cur Fs :=
  ⟨(hf g (by simp)).trans h.heap, h.size, h.len, fun i x hi => by
    obtain ⟨cs, Fi, h1, h2, h3⟩ := h.each i x hi
    exact ⟨cs, Fi, h1, h2, K.frame h3 (fun k hk => hf k (List.mem_cons_of_mem _ (mem_flatS h1 hk)))⟩⟩
theorem RowAll.lt {K : CK} {ty : Nat} {W : World} {g : Nat} {ds : List K.D} {cur : Array Value} {Fs : List (List Nat)} (h : RowAll K ty W g ds cur Fs) : ∀ k ∈ g :: Fs.flatten, k < W.heap.size := by
  intro k hk
  rcases List.mem_cons.1 hk with rfl | hk
  · exact (Array.getElem?_eq_some_iff.1 h.heap).1
  · obtain ⟨Fi, hF, hk⟩ := List.mem_flatten.1 hk
    obtain ⟨i, hi⟩ := List.getElem?_of_mem hF
    have hl : i < ds.length := by rw [← h.len]; exact (List.getElem?_eq_some_iff.1 hi).1
    obtain ⟨cs, Fi', h1, _, h3⟩ := h.each i ds[i] (List.getElem?_eq_getElem hl)
    rw [hi] at h1
    cases h1
    exact K.lt h3 k hk
theorem rowOwn.frame {K : CK} {ty : Nat} {W W' : World} {v : Value} {ds : List K.D} {F : List Nat} (h : rowOwn K ty W v ds F) (hf : ∀ k ∈ F, W'.heap[k]? = W.heap[k]?) : rowOwn K ty W' v ds F := by
  rcases h with h | ⟨g, cap, cur, Fs, hv, hc, rfl, hn, ha⟩
  · exact .inl h
  · exact .inr ⟨g, cap, cur, Fs, hv, hc, rfl, hn, ha.frame hf⟩
theorem rowOwn.lt {K : CK} {ty : Nat} {W : World} {v : Value} {ds : List K.D} {F : List Nat} (h : rowOwn K ty W v ds F) : ∀ k ∈ F, k < W.heap.size := by
  rcases h with ⟨_, rfl, _⟩ | ⟨g, cap, cur, Fs, hv, hc, rfl, hn, ha⟩
  · intro k hk; cases hk
  · exact ha.lt
theorem cell_arrS {W : World} {g T : Nat} {cur : Array Value} {fz : Nat × Nat} (hh : W.heap[g]? = some (.cells cur T fz)) (i : Nat) (v : Value) (hv : cur[i]? = some v) : W.cell? ⟨g, i, none⟩ = some v := by simp [World.cell?, hh, hv]
theorem rowOwn.toAt {K : CK} {ty : Nat} {W : World} {v : Value} {ds : List K.D} {F : List Nat} (h : rowOwn K ty W v ds F) : rowAt K W v ds := by
  rcases h with ⟨rfl, _, a, c, hv, hn⟩ | ⟨g, cap, cur, Fs, hv, hc, rfl, hn, ha⟩
  · exact ⟨a, c, hv, hn, Nat.zero_le _, .inl rfl⟩
  · refine ⟨_, cap, hv, fun e => (by cases e), hc, .inr ⟨g, 0, rfl, (Array.getElem?_eq_some_iff.1 ha.heap).1, fun i x hi => ?_⟩⟩
    obtain ⟨cs, Fi, h1, h2, h3⟩ := ha.each i x hi
    exact ⟨cs, K.toAt h3, fun j c hj => by rw [Nat.zero_add]; exact cell_arrS ha.heap _ _ (h2 j c hj)⟩
theorem rowOwn.nodup {K : CK} {ty : Nat} {W : World} {v : Value} {ds : List K.D} {F : List Nat} (h : rowOwn K ty W v ds F) : F.Nodup := by
  rcases h with ⟨_, rfl, _⟩ | ⟨g, cap, cur, Fs, hv, hc, rfl, hn, ha⟩
  · exact List.nodup_nil
  · exact hn
def markR (K : CK) : Nat → List K.D → List K.D
  | _, [] => []
  | q, d :: ds => K.mark q d :: markR K (q + K.cnt d) ds
def cntR (K : CK) : List K.D → Nat
  | [] => 0
  | d :: ds => K.cnt d + cntR K ds
def szR (K : CK) : List K.D → Nat
  | [] => 0
  | d :: ds => K.sz d + szR K ds
def rowC (K : CK) (ty : Nat) : CK where
  D := List K.D
  n := 1
  own := fun W cs ds F => ∃ v, cs = [v] ∧ rowOwn K ty W v ds F
  at_ := fun W cs ds => ∃ v, cs = [v] ∧ rowAt K W v ds
  mark := markR K
  cnt := cntR K
  sz := fun ds => ds.length + szR K ds
  big := fun ds => ds.length ≤ maxLen ∧ ∀ d ∈ ds, K.big d
  len := fun ⟨_, h, _⟩ => by rw [h]; rfl
  alen := fun ⟨_, h, _⟩ => by rw [h]; rfl
  frame := fun ⟨v, h, h2⟩ hf => ⟨v, h, h2.frame hf⟩
  lt := fun ⟨_, _, h2⟩ => h2.lt
  nodup := fun ⟨_, _, h2⟩ => h2.nodup
  below := fun ⟨v, h, h2⟩ hb => ⟨v, h, h2.below hb⟩
  toAt := fun ⟨v, h, h2⟩ => ⟨v, h, h2.toAt⟩
def rowK (K : CK) (ty : Nat) : Kind := ⟨List K.D, rowOwn K ty, rowOwn.frame, rowOwn.lt⟩
def aggAt (K : CK) (W : World) (v : Value) (d : K.D) : Prop := ∃ cs : List Value, v = .agg cs.toArray ∧ K.at_ W cs d

theorem markR_len (K : CK) : ∀ (q : Nat) (ds : List K.D), (markR K q ds).length = ds.length
  | _, [] => rfl
  | q, d :: ds => by simp [markR, markR_len K]
theorem cntR_take (K : CK) (ds : List K.D) (k : Nat) (d : K.D) (e : ds[k]? = some d) : cntR K (ds.take (k + 1)) = cntR K (ds.take k) + K.cnt d := by
  induction ds generalizing k with
  | nil => cases e
  | cons x ds ih =>
    cases k with
    | zero => simp at e; subst e; simp [cntR]
    | succ k => have := ih k e; simp [cntR, this]; omega
theorem cntR_le (K : CK) : ∀ (ds : List K.D) (k : Nat), cntR K (ds.take k) ≤ cntR K ds
  | [], _ => by simp
  | d :: ds, 0 => by simp [cntR]
  | d :: ds, k + 1 => by have := cntR_le K ds k; simp [cntR]; omega
theorem markR_get (K : CK) (q : Nat) (ds : List K.D) (k : Nat) (d : K.D) (e : ds[k]? = some d) : (markR K q ds)[k]? = some (K.mark (q + cntR K (ds.take k)) d) := by
  induction ds generalizing k q with
  | nil => cases e
  | cons x ds ih =>
    cases k with
    | zero => simp at e; subst e; simp [markR, cntR]
    | succ k =>
      have := ih (q + K.cnt x) k e
      simp only [markR, List.getElem?_cons_succ, this, List.take_succ_cons, cntR]
      congr 2; omega
theorem szR_take (K : CK) (ds : List K.D) (k : Nat) (d : K.D) (e : ds[k]? = some d) : szR K (ds.take (k + 1)) = szR K (ds.take k) + K.sz d := by
  induction ds generalizing k with
  | nil => cases e
  | cons x ds ih =>
    cases k with
    | zero => simp at e; subst e; simp [szR]
    | succ k => have := ih k e; simp [szR, this]; omega
theorem szR_mem {K : CK} {ds : List K.D} {d : K.D} (h : d ∈ ds) : K.sz d ≤ szR K ds := by
  induction ds with
  | nil => cases h
  | cons x ds ih =>
    rcases List.mem_cons.1 h with rfl | h
    · simp [szR]
    · have := ih h; simp [szR]; omega
/-- Items of which the first k are written over. -/
def markU (K : CK) (q : Nat) (ds : List K.D) (k : Nat) : List K.D := (markR K q ds).take k ++ ds.drop k
theorem markU_lt {K : CK} {q : Nat} {ds : List K.D} {k i : Nat} (h : i < k) (hl : k ≤ ds.length) : (markU K q ds k)[i]? = (markR K q ds)[i]? := by
  unfold markU
  rw [List.getElem?_append_left (by rw [List.length_take, markR_len]; omega), List.getElem?_take_of_lt h]
theorem markU_ge {K : CK} {q : Nat} {ds : List K.D} {k i : Nat} (h : k ≤ i) (hl : k ≤ ds.length) : (markU K q ds k)[i]? = ds[i]? := by
  unfold markU
  have e : ((markR K q ds).take k).length = k := by rw [List.length_take, markR_len]; omega
  rw [List.getElem?_append_right (by omega), e, List.getElem?_drop, show k + (i - k) = i by omega]
theorem markU_len {K : CK} {q : Nat} {ds : List K.D} {k : Nat} (hl : k ≤ ds.length) : (markU K q ds k).length = ds.length := by
  unfold markU
  rw [List.length_append, List.length_take, markR_len, List.length_drop]; omega
theorem markU_all {K : CK} {q : Nat} {ds : List K.D} : markU K q ds ds.length = markR K q ds := by
  unfold markU; rw [List.drop_length, List.append_nil, List.take_of_length_le (by rw [markR_len]; exact Nat.le_refl _)]
theorem apartS {g : Nat} {Fs : List (List Nat)} (h : (g :: Fs.flatten).Nodup) {i : Nat} {Fi : List Nat} (hi : Fs[i]? = some Fi) : g ∉ Fi ∧ ∀ j Fj, Fs[j]? = some Fj → j ≠ i → ∀ k ∈ Fj, k ∉ Fi := by
  rw [List.nodup_cons] at h
  refine ⟨fun e => h.1 (mem_flatS hi e), fun j Fj hj hne k hk hk' => ?_⟩
  have hp := (List.pairwise_flatten.1 h.2).2
  rw [List.pairwise_iff_getElem] at hp
  obtain ⟨li, ei⟩ := List.getElem?_eq_some_iff.1 hi
  obtain ⟨lj, ej⟩ := List.getElem?_eq_some_iff.1 hj
  rcases Nat.lt_or_ge i j with hij | hij
  · have := hp i j li lj hij
    rw [ei, ej] at this
    exact this k hk' k hk rfl
  · have := hp j i lj li (by omega)
    rw [ei, ej] at this
    exact this k hk k hk' rfl
/-- One item more is written over. -/
theorem mark_step {K : CK} {ty : Nat} {W W' : World} {g q k : Nat} {ds : List K.D} {cur cur' : Array Value} {Fs : List (List Nat)} {Fk : List Nat} {d : K.D} {cs : List Value} (h : RowAll K ty W g (markU K q ds k) cur Fs) (hnd : (g :: Fs.flatten).Nodup) (hk : ds[k]? = some d) (hF : Fs[k]? = some Fk)
    (hg : W'.heap[g]? = some (.cells cur' ty (0, 0))) (hsz : cur'.size = cur.size) (ho : ∀ j, j < k * K.n ∨ k * K.n + K.n ≤ j → cur'[j]? = cur[j]?) (hc : ∀ (j : Nat) c, cs[j]? = some c → cur'[k * K.n + j]? = some c) (hown : K.own W' cs (K.mark (q + cntR K (ds.take k)) d) Fk)
    (honly : ∀ j, j < W.heap.size → j ≠ g → j ∉ Fk → W'.heap[j]? = W.heap[j]?) : RowAll K ty W' g (markU K q ds (k + 1)) cur' Fs := by
  have hkl := (List.getElem?_eq_some_iff.1 hk).1
  have hlen := h.len
  rw [markU_len (by omega)] at hlen
  have hsz2 := h.size
  rw [markU_len (by omega)] at hsz2
  refine ⟨hg, by rw [markU_len (by omega), hsz]; exact hsz2, by rw [markU_len (by omega)]; exact hlen, fun i x hi => ?_⟩
  by_cases eik : i = k
  · subst eik
    rw [markU_lt (Nat.lt_succ_self _) (by omega), markR_get K q ds i d hk] at hi
    cases hi
    exact ⟨cs, Fk, hF, hc, hown⟩
  · have hi' : (markU K q ds k)[i]? = some x := by
      rcases Nat.lt_or_ge i k with hik | hik
      · rw [markU_lt hik (by omega)]; rwa [markU_lt (by omega) (by omega)] at hi
      · rw [markU_ge hik (by omega)]; rwa [markU_ge (by omega) (by omega)] at hi
    obtain ⟨cs', Fj, g1, g2, g3⟩ := h.each i x hi'
    have hdis := (apartS hnd hF).2 i Fj g1 eik
    have hgj : g ∉ Fj := (apartS hnd g1).1
    refine ⟨cs', Fj, g1, fun j c hj => ?_, K.frame g3 (fun j hj => honly j (K.lt g3 j hj) (fun e => by subst e; exact hgj hj) (hdis j hj))⟩
    have hjn : j < K.n := by rw [← K.len g3]; exact (List.getElem?_eq_some_iff.1 hj).1
    rw [ho _ ?_]
    · exact g2 j c hj
    · rcases Nat.lt_or_ge i k with hik | hik
      · left
        have : (i + 1) * K.n ≤ k * K.n := Nat.mul_le_mul_right _ (by omega)
        rw [Nat.add_mul, Nat.one_mul] at this
        omega
      · right
        have : (k + 1) * K.n ≤ i * K.n := Nat.mul_le_mul_right _ (by omega)
        rw [Nat.add_mul, Nat.one_mul] at this
        omega
/-- The first k items are copied into a row of n. -/
structure RowPart (K : CK) (ty : Nat) (W : World) (g n k : Nat) (ds : List K.D) (Fs : List (List Nat)) : Prop where
  all : ∃ cur : Array Value, RowAll K ty W g (ds.take k) cur Fs ∧ cur.size = n * K.n
  nodup : (g :: Fs.flatten).Nodup
/-- One item more is copied. -/
theorem copy_step {K : CK} {ty : Nat} {W W' : World} {g k N : Nat} {ds : List K.D} {cur' : Array Value} {Fs : List (List Nat)} {Fk : List Nat} {d : K.D} {cs : List Value} (cur : Array Value) (h : RowAll K ty W g (ds.take k) cur Fs) (hs0 : cur.size = ds.length * K.n) (hnd : (g :: Fs.flatten).Nodup) (hk : ds[k]? = some d)
    (hg : W'.heap[g]? = some (.cells cur' ty (0, 0))) (hsz : cur'.size = cur.size) (ho : ∀ j, j < k * K.n → cur'[j]? = cur[j]?) (hc : ∀ (j : Nat) c, cs[j]? = some c → cur'[k * K.n + j]? = some c) (hown : K.own W' cs d Fk) (hfr : ∀ j ∈ Fk, N ≤ j) (hN : ∀ j ∈ g :: Fs.flatten, j < N)
    (honly : ∀ j, j < N → j ≠ g → W'.heap[j]? = W.heap[j]?) : RowPart K ty W' g ds.length (k + 1) ds (Fs ++ [Fk]) := by
  have hkl := (List.getElem?_eq_some_iff.1 hk).1
  have hl0 : (ds.take k).length = k := by rw [List.length_take]; omega
  have hl1 : (ds.take (k + 1)).length = k + 1 := by rw [List.length_take]; omega
  have hFl : Fs.length = k := by rw [h.len, hl0]
  have hmul : (k + 1) * K.n ≤ ds.length * K.n := Nat.mul_le_mul_right _ (by omega)
  refine ⟨⟨cur', ⟨hg, by rw [hl1, hsz, hs0]; exact hmul, by rw [List.length_append, hFl, hl1]; rfl, fun i x hi => ?_⟩, by rw [hsz, hs0]⟩, ?_⟩
  · have hik : i < k + 1 := by have := (List.getElem?_eq_some_iff.1 hi).1; omega
    have hix : ds[i]? = some x := by rwa [List.getElem?_take_of_lt hik] at hi
    by_cases eik : i = k
    · subst eik
      rw [hk] at hix
      cases hix
      exact ⟨cs, Fk, by rw [List.getElem?_append_right (by omega), hFl, Nat.sub_self]; rfl, hc, hown⟩
    · obtain ⟨cs', Fj, g1, g2, g3⟩ := h.each i x (by rw [List.getElem?_take_of_lt (by omega)]; exact hix)
      refine ⟨cs', Fj, by rw [List.getElem?_append_left (by omega)]; exact g1, fun j c hj => ?_, K.frame g3 (fun j hj => honly j (hN j (List.mem_cons_of_mem _ (mem_flatS g1 hj))) (fun e => by subst e; exact (apartS hnd g1).1 hj))⟩
      have hjn : j < K.n := by rw [← K.len g3]; exact (List.getElem?_eq_some_iff.1 hj).1
      rw [ho _ ?_]
      · exact g2 j c hj
      · have : (i + 1) * K.n ≤ k * K.n := Nat.mul_le_mul_right _ (by omega)
        rw [Nat.add_mul, Nat.one_mul] at this
        omega
  · rw [List.flatten_append, List.nodup_cons] at *
    simp only [List.flatten_cons, List.flatten_nil, List.append_nil]
    rw [List.nodup_append]
    refine ⟨fun hm => ?_, hnd.2, K.nodup hown, fun x hx y hy e => ?_⟩
    · rcases List.mem_append.1 hm with hm | hm
      · exact hnd.1 hm
      · have := hfr g hm; have := hN g (by simp); omega
    · subst e
      have := hfr x hy; have := hN x (List.mem_cons_of_mem _ hx); omega
end Go.Proofs.YtoihhlkidlapmaaGreat

/- A region that draws its order, whose operations read what lay below a bound and whose callees leave that as it was: walked once. -/
namespace Go.Proofs.YtoihhlkidlapmaaGreat
open Go.RowKit

/-- A world in which what lay below a bound is as it was. -/
structure BW (B : Nat) (W : World) where
  w : World
  h : Below B W w
theorem BW.all {B : Nat} {W : World} {p : Prop} : (BW B W → p) ↔ p := ⟨fun h => h ⟨W, Below.refl _ _⟩, fun h _ => h⟩
theorem BW.cell {B : Nat} {W : World} {b o : Nat} {v : Value} (hb : b < B) (h : W.cell? ⟨b, o, none⟩ = some v) (x : BW B W) : x.w.cell? ⟨b, o, none⟩ = some v := (x.h.cell (p := ⟨b, o, none⟩) hb).trans h
theorem Calls.bw {P : Program} {f : FuncId} {args : Array Value} {v : Value} {B : Nat} {W : World} {x : BW B W} (hB : B ≤ W.heap.size) (h : Calls P f args x.w fun e w' => e = .returned v ∧ Below x.w.heap.size x.w w') :
    Calls P f args x.w fun e w'' => e = .returned v ∧ ∃ y : BW B W, w'' = y.w :=
  h.mono fun _ w' ⟨he, hb⟩ => ⟨he, ⟨w', x.h.trans (hb.mono (Nat.le_trans hB x.h.size))⟩, rfl⟩
theorem calm_region {P : Program} {id : Nat} {Q : Exit → Act → World → Prop} {a : Act} {w : World} {l : List Oper} (B : Nat) (hm : P.follows .mixedOrders = true) (hB : Region.lexB .any l.toArray = true)
    (h : wpQuiet P l.toArray (fun w' => ∃ x : BW B w, w' = x.w) (fun a' => ∀ w', (∃ x : BW B w, w' = x.w) → Q .normal a' w') l a) : (Code.region id l.toArray true).wp P Q a w :=
  wp_region_quiet (C := fun w' => ∃ x : BW B w, w' = x.w) hm hB ⟨⟨w.drew, ⟨rfl, rfl, rfl, Nat.le_refl _, fun _ _ => rfl⟩⟩, rfl⟩ (by simpa using h)

/-- A world of a class. -/
structure CW (C : World → Prop) where
  w : World
  h : C w
theorem CW.all {C : World → Prop} {W : World} (h : C W) {p : Prop} : (CW C → p) ↔ p := ⟨fun f => f ⟨W, h⟩, fun h _ => h⟩
theorem Calls.cw {P : Program} {f : FuncId} {args : Array Value} {v : Value} {C : World → Prop} {x : CW C} (h : Calls P f args x.w fun e w' => e = .returned v ∧ C w') :
    Calls P f args x.w fun e w'' => e = .returned v ∧ ∃ y : CW C, w'' = y.w :=
  h.mono fun _ w' ⟨he, hc⟩ => ⟨he, ⟨w', hc⟩, rfl⟩
theorem class_region {P : Program} {id : Nat} {Q : Exit → Act → World → Prop} {a : Act} {w : World} {l : List Oper} (C : World → Prop) (hC : C w.drew) (hm : P.follows .mixedOrders = true) (hB : Region.lexB .any l.toArray = true)
    (h : wpQuiet P l.toArray (fun w' => ∃ x : CW C, w' = x.w) (fun a' => ∀ w', (∃ x : CW C, w' = x.w) → Q .normal a' w') l a) : (Code.region id l.toArray true).wp P Q a w :=
  wp_region_quiet (C := fun w' => ∃ x : CW C, w' = x.w) hm hB ⟨⟨w.drew, hC⟩, rfl⟩ (by simpa using h)
end Go.Proofs.YtoihhlkidlapmaaGreat

/- Small laws for what mkshape.py writes. -/
namespace Go.Proofs.YtoihhlkidlapmaaGreat
open Go.RowKit

theorem three_boxes (w : World) (p r o : Obj) : (((w.alloc p).alloc r).alloc o).heap[w.heap.size]? = some p ∧ (((w.alloc p).alloc r).alloc o).heap[w.heap.size + 1]? = some r ∧ (((w.alloc p).alloc r).alloc o).heap[w.heap.size + 1 + 1]? = some o ∧ w.heap.size + 1 + 1 < (((w.alloc p).alloc r).alloc o).heap.size ∧ Below w.heap.size w (((w.alloc p).alloc r).alloc o) := by
  have s1 : (w.alloc p).heap.size = w.heap.size + 1 := by simp
  have s2 : ((w.alloc p).alloc r).heap.size = w.heap.size + 1 + 1 := by simp
  have b1 := (Below.refl (w.alloc p).heap.size (w.alloc p)).alloc (Nat.le_refl _) r
  have b2 := (Below.refl ((w.alloc p).alloc r).heap.size ((w.alloc p).alloc r)).alloc (Nat.le_refl _) o
  have n0 := World.alloc_heap_new w p
  have n1 := World.alloc_heap_new (w.alloc p) r
  have n2 := World.alloc_heap_new ((w.alloc p).alloc r) o
  rw [s1] at n1
  rw [s2] at n2
  refine ⟨?_, ?_, n2, by simp, (((Below.refl _ w).alloc (Nat.le_refl _) p).alloc (by simp) r).alloc (by simp; omega) o⟩
  · rw [b2.block _ (by omega), b1.block _ (by omega)]; exact n0
  · rw [b2.block _ (by omega)]; exact n1
theorem cell_fz {W : World} {g T : Nat} {cur : Array Value} (hh : W.heap[g]? = some (.cells cur T (0, 0))) (i : Nat) (v : Value) (hv : cur[i]? = some v) : W.cell? ⟨g, i, none⟩ = some v ∧ W.frozen? ⟨g, i, none⟩ = false := ⟨cell_arrS hh i v hv, by simp [World.frozen?, hh]⟩
theorem rowOwn.slice {K : CK} {ty : Nat} {W : World} {v : Value} {ds : List K.D} {F : List Nat} (h : rowOwn K ty W v ds F) : ∃ a c, v = .slice a ds.length c := by
  rcases h with ⟨rfl, _, a, c, hv, _⟩ | ⟨g, cap, cur, Fs, hv, _⟩
  · exact ⟨a, c, hv⟩
  · exact ⟨_, cap, hv⟩
/-- Cells of a row, one behind the other, set. -/
def setsA : Array Value → Nat → List Value → Array Value
  | cur, _, [] => cur
  | cur, o, v :: l => setsA (cur.setIfInBounds o v) (o + 1) l
def setsW : World → Nat → Nat → List Value → World
  | w, _, _, [] => w
  | w, g, o, v :: l => setsW (w.setCell ⟨g, o, none⟩ v) g (o + 1) l
theorem setsA_size : ∀ (l : List Value) (cur : Array Value) (o : Nat), (setsA cur o l).size = cur.size
  | [], _, _ => rfl
  | v :: l, cur, o => by rw [setsA, setsA_size l, Array.size_setIfInBounds]
theorem setsA_off : ∀ (l : List Value) (cur : Array Value) (o j : Nat), (j < o ∨ o + l.length ≤ j) → (setsA cur o l)[j]? = cur[j]?
  | [], _, _, _, _ => rfl
  | v :: l, cur, o, j, h => by
    simp only [List.length_cons] at h
    rw [setsA, setsA_off l _ _ _ (by omega), Array.getElem?_setIfInBounds, if_neg (by omega)]
theorem setsA_at : ∀ (l : List Value) (cur : Array Value) (o : Nat) (_ : o + l.length ≤ cur.size) (j : Nat) (c : Value), l[j]? = some c → (setsA cur o l)[o + j]? = some c
  | [], _, _, _, _, _, e => by cases e
  | v :: l, cur, o, h, 0, c, e => by
    simp only [List.length_cons] at h
    simp at e; subst e
    rw [setsA, setsA_off l _ _ _ (by omega), Array.getElem?_setIfInBounds, if_pos (by omega), if_pos (by omega)]
  | v :: l, cur, o, h, j + 1, c, e => by
    simp only [List.length_cons] at h
    have := setsA_at l (cur.setIfInBounds o v) (o + 1) (by rw [Array.size_setIfInBounds]; omega) j c (by simpa using e)
    rw [setsA, show o + (j + 1) = o + 1 + j by omega]
    exact this
theorem setsW_heap : ∀ (l : List Value) (w : World) (g o : Nat) (cur : Array Value) (ty : Nat), w.heap[g]? = some (.cells cur ty (0, 0)) → (setsW w g o l).heap[g]? = some (.cells (setsA cur o l) ty (0, 0))
  | [], _, _, _, _, _, h => h
  | v :: l, w, g, o, cur, ty, h => setsW_heap l _ g (o + 1) _ ty (heap_setCell_same w g o cur ty v h)
theorem setsW_off : ∀ (l : List Value) (w : World) (g o j : Nat), j ≠ g → (setsW w g o l).heap[j]? = w.heap[j]?
  | [], _, _, _, _, _ => rfl
  | _ :: l, _, g, o, j, h => (setsW_off l _ g (o + 1) j h).trans (Below.heap_setCell _ _ _ _ h)
theorem setsW_below : ∀ (l : List Value) (a w : World) (N g o : Nat), Below N a w → N ≤ g → Below N a (setsW w g o l)
  | [], _, _, _, _, _, h, _ => h
  | v :: l, a, _, N, g, o, h, hg => setsW_below l a _ N g (o + 1) (h.setCell hg v) hg
/-- A copied item is stored. -/
theorem copy_store {K : CK} {ty : Nat} {W w2 : World} {g k n N : Nat} {ds : List K.D} {Fs : List (List Nat)} {Fk : List Nat} {d : K.D} {cs : List Value} (hn : K.n = n) (hp : RowPart K ty W g ds.length k ds Fs) (hfl : ∀ j ∈ Fs.flatten, N < j) (hNg : N ≤ g) (hk : ds[k]? = some d) (hb : Below W.heap.size W w2)
    (hown : K.own w2 cs d Fk) (hfr : ∀ j ∈ Fk, W.heap.size ≤ j) : ∃ Fs', RowPart K ty (setsW w2 g (k * n) cs) g ds.length (k + 1) ds Fs' ∧ ∀ j ∈ Fs'.flatten, N < j := by
  subst hn
  obtain ⟨⟨cur, hA, hsz⟩, hnd⟩ := hp
  have hA2 := hA.frame (fun j hj => hb.block j (hA.lt j hj))
  have hkl := (List.getElem?_eq_some_iff.1 hk).1
  have hgl : g < W.heap.size := hA.lt g (by simp)
  have hmul : (k + 1) * K.n ≤ ds.length * K.n := Nat.mul_le_mul_right _ (by omega)
  rw [Nat.add_mul, Nat.one_mul] at hmul
  have hcl := K.len hown
  refine ⟨Fs ++ [Fk], copy_step (N := W.heap.size) cur hA2 hsz hnd hk (setsW_heap cs w2 g (k * K.n) cur ty hA2.heap) (setsA_size _ _ _) (fun j hj => setsA_off _ _ _ _ (.inl hj)) (fun j c hj => setsA_at _ _ _ (by rw [hcl, hsz]; exact hmul) _ _ hj) (K.frame hown (fun j hj => setsW_off _ _ _ _ _ (by have := hfr j hj; omega))) hfr hA.lt (fun j _ hj => setsW_off _ _ _ _ _ hj), fun j hj => ?_⟩
  rw [List.flatten_append] at hj
  rcases List.mem_append.1 hj with hj | hj
  · exact hfl j hj
  · have := hfr j (by simpa using hj); omega
/-- Before an item is copied: its cells are there. -/
theorem part_cell {K : CK} {ty : Nat} {W w2 : World} {g k n : Nat} {ds : List K.D} {Fs : List (List Nat)} (hn : K.n = n) (hp : RowPart K ty W g ds.length k ds Fs) (hb : Below W.heap.size W w2) (hk : k < ds.length) (j : Nat) (hj : j < n) :
    (∃ y, w2.cell? ⟨g, k * n + j, none⟩ = some y) ∧ w2.frozen? ⟨g, k * n + j, none⟩ = false := by
  subst hn
  obtain ⟨⟨cur, hA, hsz⟩, hnd⟩ := hp
  have hA2 := hA.frame (fun j hj => hb.block j (hA.lt j hj))
  have hmul : (k + 1) * K.n ≤ ds.length * K.n := Nat.mul_le_mul_right _ (by omega)
  rw [Nat.add_mul, Nat.one_mul] at hmul
  exact ⟨⟨cur[k * K.n + j]'(by omega), cell_arrS hA2.heap _ _ (Array.getElem?_eq_getElem (by omega))⟩, by simp [World.frozen?, hA2.heap]⟩
theorem drew_belowS {B : Nat} (w : World) : Below B w w.drew := ⟨rfl, rfl, rfl, Nat.le_refl _, fun _ _ => rfl⟩
theorem txt_selfS (x : ByteArray) : (x.toList != x.toList) = false := by simp
theorem int_selfS (x : Int) : (x != x) = false := by simp
theorem alloc2_below (w : World) (o o' : Obj) : Below w.heap.size w ((w.alloc o).alloc o') := ((Below.refl _ w).alloc (Nat.le_refl _) o).alloc (by simp) o'
theorem two_boxes (w : World) (p r : Obj) : ((w.alloc p).alloc r).heap[w.heap.size]? = some p ∧ ((w.alloc p).alloc r).heap[w.heap.size + 1]? = some r ∧ w.heap.size + 1 < ((w.alloc p).alloc r).heap.size := by
  have s1 : (w.alloc p).heap.size = w.heap.size + 1 := by simp
  have b1 := (Below.refl (w.alloc p).heap.size (w.alloc p)).alloc (Nat.le_refl _) r
  have n0 := World.alloc_heap_new w p
  have n1 := World.alloc_heap_new (w.alloc p) r
  rw [s1] at n1
  refine ⟨?_, n1, by simp⟩
  rw [b1.block _ (by omega)]; exact n0
/-- The cells of an item of a row, while they are set. -/
def ItemAt (W : World) (g ty o : Nat) (cur0 : Array Value) (cs : List Value) : Prop := ∃ cur : Array Value, W.heap[g]? = some (.cells cur ty (0, 0)) ∧ cur.size = cur0.size ∧ o + cs.length ≤ cur.size ∧ (∀ j, j < o ∨ o + cs.length ≤ j → cur[j]? = cur0[j]?) ∧ ∀ (j : Nat) c, cs[j]? = some c → cur[o + j]? = some c
theorem ItemAt.frame {W W' : World} {g ty o : Nat} {cur0 : Array Value} {cs : List Value} (h : ItemAt W g ty o cur0 cs) (e : W'.heap[g]? = W.heap[g]?) : ItemAt W' g ty o cur0 cs := by
  obtain ⟨cur, h1, h2⟩ := h; exact ⟨cur, e.trans h1, h2⟩
theorem ItemAt.lt {W : World} {g ty o : Nat} {cur0 : Array Value} {cs : List Value} (h : ItemAt W g ty o cur0 cs) : g < W.heap.size := by
  obtain ⟨cur, h1, h2⟩ := h; exact (Array.getElem?_eq_some_iff.1 h1).1
theorem ItemAt.cell {W : World} {g ty o : Nat} {cur0 : Array Value} {cs : List Value} (h : ItemAt W g ty o cur0 cs) (j : Nat) (c : Value) (e : cs[j]? = some c) : W.cell? ⟨g, o + j, none⟩ = some c ∧ W.frozen? ⟨g, o + j, none⟩ = false := by
  obtain ⟨cur, h1, h2, h3, h4, h5⟩ := h
  exact ⟨cell_arrS h1 _ _ (h5 j c e), by simp [World.frozen?, h1]⟩
theorem ItemAt.set {W : World} {g ty o : Nat} {cur0 : Array Value} {cs : List Value} (h : ItemAt W g ty o cur0 cs) (j : Nat) (v : Value) (hj : j < cs.length) : ItemAt (W.setCell ⟨g, o + j, none⟩ v) g ty o cur0 (cs.set j v) := by
  obtain ⟨cur, h1, h2, h3, h4, h5⟩ := h
  refine ⟨cur.setIfInBounds (o + j) v, heap_setCell_same W g (o + j) cur ty v h1, by rw [Array.size_setIfInBounds]; exact h2, by rw [Array.size_setIfInBounds, List.length_set]; exact h3, fun i hi => ?_, fun i c hi => ?_⟩
  · rw [List.length_set] at hi
    rw [Array.getElem?_setIfInBounds, if_neg (by omega)]; exact h4 i hi
  · rw [Array.getElem?_setIfInBounds]
    by_cases e : j = i
    · subst e
      rw [if_pos rfl, if_pos (by omega)]
      rw [List.getElem?_set_self hj] at hi
      exact hi
    · rw [if_neg (by omega)]
      rw [List.getElem?_set_ne e] at hi
      exact h5 i c hi
/-- An item of a row that is written over: its cells, and what holds of the others. -/
theorem item_open {K : CK} {ty : Nat} {W : World} {g q k : Nat} {ds : List K.D} {cur : Array Value} {Fs : List (List Nat)} {d : K.D} (h : RowAll K ty W g (markU K q ds k) cur Fs) (hnd : (g :: Fs.flatten).Nodup) (hk : ds[k]? = some d) :
    ∃ cs Fk, Fs[k]? = some Fk ∧ g ∉ Fk ∧ K.own W cs d Fk ∧ ItemAt W g ty (k * K.n) cur cs := by
  have hkl := (List.getElem?_eq_some_iff.1 hk).1
  obtain ⟨cs, Fk, h1, h2, h3⟩ := h.each k d (by rw [markU_ge (Nat.le_refl _) (by omega)]; exact hk)
  have hsz := h.size
  rw [markU_len (by omega)] at hsz
  have hmul : (k + 1) * K.n ≤ ds.length * K.n := Nat.mul_le_mul_right _ (by omega)
  rw [Nat.add_mul, Nat.one_mul] at hmul
  exact ⟨cs, Fk, h1, (apartS hnd h1).1, h3, cur, h.heap, rfl, by rw [K.len h3]; omega, fun _ _ => rfl, h2⟩
theorem item_close {K : CK} {ty : Nat} {W W' : World} {g q k : Nat} {ds : List K.D} {cur : Array Value} {Fs : List (List Nat)} {Fk : List Nat} {d : K.D} {cs : List Value} (h : RowAll K ty W g (markU K q ds k) cur Fs) (hnd : (g :: Fs.flatten).Nodup) (hk : ds[k]? = some d) (hF : Fs[k]? = some Fk)
    (hi : ItemAt W' g ty (k * K.n) cur cs) (hown : K.own W' cs (K.mark (q + cntR K (ds.take k)) d) Fk) (ho : Only (g :: Fk) W W') : ∃ cur', RowAll K ty W' g (markU K q ds (k + 1)) cur' Fs := by
  obtain ⟨cur', h1, h2, h3, h4, h5⟩ := hi
  exact ⟨cur', mark_step h hnd hk hF h1 h2 (fun j hj => h4 j (by rw [K.len hown]; exact hj)) h5 hown (fun j hj hg hf => ho.block j hj (fun e => (List.mem_cons.1 e).elim hg hf))⟩
theorem int_eqS {a b : Int} (h : a = b) : Value.int .i64 a = .int .i64 b := by rw [h]
theorem rowOwn.below {K : CK} {ty : Nat} {W W' : World} {v : Value} {ds : List K.D} {F : List Nat} (h : rowOwn K ty W v ds F) (hb : Below W.heap.size W W') : rowOwn K ty W' v ds F := h.frame (fun k hk => hb.block k (h.lt k hk))
theorem rowOwn.only {K : CK} {ty : Nat} {W W' : World} {v : Value} {ds : List K.D} {F G : List Nat} (h : rowOwn K ty W v ds F) (ho : Only G W W') (hd : ∀ k ∈ F, k ∉ G) : rowOwn K ty W' v ds F := h.frame (fun k hk => ho.block k (h.lt k hk) (hd k hk))
theorem rowOwn.setS {K : CK} {ty : Nat} {W : World} {v u : Value} {ds : List K.D} {F : List Nat} {g o : Nat} (h : rowOwn K ty W v ds F) (hg : g ∉ F) : rowOwn K ty (W.setCell ⟨g, o, none⟩ u) v ds F := h.frame (fun k hk => Below.heap_setCell _ _ _ _ (fun e => hg (by have e2 : k = g := e; rw [← e2]; exact hk)))
theorem ItemAt.below {W W' : World} {g ty o : Nat} {cur0 : Array Value} {cs : List Value} (h : ItemAt W g ty o cur0 cs) (hb : Below W.heap.size W W') : ItemAt W' g ty o cur0 cs := h.frame (hb.block g h.lt)
theorem ItemAt.only {W W' : World} {g ty o : Nat} {cur0 : Array Value} {cs : List Value} {G : List Nat} (h : ItemAt W g ty o cur0 cs) (ho : Only G W W') (hg : g ∉ G) : ItemAt W' g ty o cur0 cs := h.frame (ho.block g h.lt hg)
theorem cntR_bound {K : CK} {n : Nat} (hn : n ≤ 8) (h : ∀ d, K.cnt d ≤ n + 8 * K.sz d) : ∀ ds : List K.D, cntR K ds ≤ 8 * (ds.length + szR K ds)
  | [] => by simp [cntR]
  | d :: ds => by
    have h1 := h d; have h2 := cntR_bound hn h ds
    simp only [cntR, szR, List.length_cons]; omega
theorem len_cntR {K : CK} (h : ∀ d, 1 ≤ K.cnt d) : ∀ ds : List K.D, ds.length ≤ cntR K ds
  | [] => by simp [cntR]
  | d :: ds => by
    have h1 := h d; have h2 := len_cntR h ds
    simp only [cntR, List.length_cons]; omega
theorem rowAt.slice {K : CK} {W : World} {v : Value} {ds : List K.D} (h : rowAt K W v ds) : ∃ a c, v = .slice a ds.length c ∧ (a = none → c = 0) := by
  obtain ⟨a, c, hv, hn, _⟩ := h
  exact ⟨a, c, hv, hn⟩
end Go.Proofs.YtoihhlkidlapmaaGreat

/- A region that draws its order: what only reads is taken first, a list of operations at a time; what calls or makes comes up in its turn. -/
namespace Go.Proofs.YtoihhlkidlapmaaGreat
open Go.RowKit

/-- An operation that can yield nothing but a value. -/
def plainOp (o : Oper) : Bool := match o.op with
  | .move _ | .assign _ | .load .. | .binOp .. | .unOp .. | .convert .. | .fieldAddr .. | .field .. | .indexAddr .. | .index .. | .slice .. | .extract .. | .build .. | .makeInterface .. | .typeAssert .. | .pick .. | .nilCheck .. => true
  | .call c => match c.callee with
    | .builtin .len => true
    | .builtin .min => true
    | .builtin .max => true
    | _ => false
  | _ => false
theorem val_only {P : Program} {s : Sem Value} {w w' : World} {n : Next} (h : (do let x ← s; pure (Next.value x) : Sem Next).run P w = .ok n w') : ∃ u, n = .value u := by
  rw [Sem.run_bind] at h
  generalize s.run P w = r at h
  cases r with
  | ok a w1 => simp only [Result.andThen_ok, Sem.run_pure] at h; cases h; exact ⟨_, rfl⟩
  | halt x w1 => simp at h
theorem plain_value {P : Program} {o : Oper} {ρ : Operand → Value} {w w' : World} {n : Next} (hp : plainOp o = true) (h : (execOp ρ o).run P w = .ok n w') : ∃ u, n = .value u := by
  unfold plainOp at hp
  unfold execOp at h
  cases ho : o.op <;> rw [ho] at hp h <;> first | (cases hp; done) | skip
  case move x => simp only [Sem.run_pure] at h; cases h; exact ⟨_, rfl⟩
  case assign x => simp only [Sem.run_pure] at h; cases h; exact ⟨_, rfl⟩
  case pick c x y =>
    simp only [Sem.run_bind] at h
    generalize Sem.run P _ w = r at h
    cases r with
    | ok a w1 => simp only [Result.andThen_ok, Sem.run_pure] at h; cases h; exact ⟨_, rfl⟩
    | halt x w1 => simp at h
  case nilCheck x =>
    dsimp only at h
    split at h
    · simp [runtimePanic] at h
    · simp [runtimePanic] at h
    · simp [runtimePanic] at h
    · split at h
      · simp [runtimePanic] at h
      · simp only [Sem.run_bind] at h
        generalize Sem.run P program w = r at h
        cases r with
        | halt x w1 => simp at h
        | ok a w1 =>
          simp only [Result.andThen_ok] at h
          generalize Sem.run P (nilAhead _ _ _ _) w1 = r at h
          cases r with
          | halt x w1 => simp at h
          | ok a w1 =>
            simp only [Result.andThen_ok] at h
            split at h
            · simp [unsupported] at h
            · simp only [Sem.run_pure] at h; cases h; exact ⟨_, rfl⟩
      · simp only [Sem.run_pure] at h; cases h; exact ⟨_, rfl⟩
    · simp only [Sem.run_pure] at h; cases h; exact ⟨_, rfl⟩
  case call c =>
    obtain ⟨ce, ar, ty⟩ := c
    cases ce with
    | value f => cases hp
    | invoke r m => cases hp
    | builtin b =>
      cases b <;> first | (cases hp; done) | skip
      all_goals
        simp only [resolve, Sem.run_bind, Sem.run_pure, Result.andThen_ok, invoke, builtin] at h
        generalize Sem.run P _ w = r at h
        cases r with
        | ok a w1 => simp only [Result.andThen_ok] at h; cases h; exact ⟨_, rfl⟩
        | halt x w1 => simp at h
  all_goals exact val_only h


def pick : List Oper → List Bool → List Oper
  | o :: l, true :: bs => o :: pick l bs
  | _ :: l, false :: bs => pick l bs
  | _, _ => []
def maskIx : Nat → List Bool → List Nat
  | k, true :: bs => k :: maskIx (k + 1) bs
  | k, false :: bs => maskIx (k + 1) bs
  | _, [] => []
def markAll : List Nat → Array Bool → Array Bool
  | [], l => l
  | i :: is, l => markAll is (l.setIfInBounds i true)
/-- Whether the operations of a list may be taken first, one behind the other. -/
def heldB (md : Region.Mode) (ops : Array Oper) : List Nat → Array Bool → Bool
  | [], _ => true
  | i :: is, listed => (Region.ready md ops listed).contains i && Region.free md ops listed i && ((ops[i]?).map plainOp).getD false && heldB md ops is (listed.setIfInBounds i true)

theorem pick_ix (l : List Oper) : ∀ (l' : List Oper) (m : List Bool) (k : Nat), m.length ≤ l'.length → (∀ j, l'[j]? = l[k + j]?) → (maskIx k m).map (fun i => l.toArray[i]?) = (pick l' m).map some
  | _, [], _, _, _ => by cases ‹List Oper› <;> rfl
  | [], b :: m, _, h, _ => by simp at h
  | o :: l', true :: m, k, h, hl => by
    have h0 : l[k]? = some o := by simpa using (hl 0).symm
    simp only [maskIx, pick, List.map_cons]
    rw [pick_ix l l' m (k + 1) (by simpa using h) (fun j => by have := hl (j + 1); simpa [Nat.add_assoc, Nat.add_comm 1 j] using this)]
    simp [h0]
  | o :: l', false :: m, k, h, hl => by
    simp only [maskIx, pick]
    exact pick_ix l l' m (k + 1) (by simpa using h) (fun j => by have := hl (j + 1); simpa [Nat.add_assoc, Nat.add_comm 1 j] using this)

theorem yieldsIf_quiet {P : Program} {ops : Array Oper} {S : World → Prop} {o : Oper} {a : Act} {K : Act → Prop} (hp : plainOp o = true) (h : if Region.wanted o (yielded ops a.tmps) then o.quiet P a S K else K (a.put o.dst undef)) : ∃ v, YieldsIf P ops S o v a ∧ K (a.put o.dst v) := by
  split at h
  · rename_i hw
    obtain ⟨v, h1, h2⟩ := h
    refine ⟨v, .inl ⟨hw, fun w hS => ?_⟩, h2⟩
    have h3 := h1 w hS
    unfold Oper.quietAt at h3
    generalize hr : (execOp a.eval o).run P w = r at h3
    cases r with
    | ok n w' =>
      obtain ⟨u, rfl⟩ := plain_value hp hr
      simp only [Oper.quietUpon] at h3
      obtain ⟨rfl, rfl⟩ := h3
      rfl
    | halt x w' => simp only [Oper.quietUpon] at h3
  · rename_i hw
    exact ⟨undef, .inr ⟨by simpa using hw, rfl⟩, h⟩


theorem held_same {P : Program} {md : Region.Mode} {ops : Array Oper} {Q : Exit → Act → World → Prop} {S : World → Prop} (hs : Region.noSelect ops = true) (hQ : ∀ c a t v w, Q (.panic c) (Act.put a (some t) v) w → Q (.panic c) a w) (fuel : Nat) : ∀ (is : List Nat) (l : List Oper) (listed : Array Bool) (a : Act) (w : World), is.map (fun i => ops[i]?) = l.map some → heldB md ops is listed = true → S w →
    wpQuiet P ops S (fun a' => wpAnyH P md ops Q S fuel (markAll is listed) a' w) l a → wpAnyH P md ops Q S (is.length + fuel) listed a w
  | [], [], listed, a, w, _, _, _, h => by rw [List.length_nil, Nat.zero_add]; exact h
  | [], _ :: _, _, _, _, e, _, _, _ => by cases e
  | _ :: _, [], _, _, _, e, _, _, _ => by cases e
  | i :: is, o :: l, listed, a, w, e, hB, hS, h => by
    simp only [List.map_cons, List.cons.injEq] at e
    simp only [heldB, Bool.and_eq_true] at hB
    obtain ⟨⟨⟨h1, h2⟩, h3⟩, h4⟩ := hB
    rw [e.1] at h3
    obtain ⟨v, hy, hK⟩ := yieldsIf_quiet (by simpa using h3) h
    rw [show (i :: is).length + fuel = (is.length + fuel) + 1 by simp; omega]
    exact wpAnyH_take e.1 hs h2 h1 (fun c a w hq => by cases hd : o.dst with | none => rw [hd] at hq; exact hq | some t => rw [hd] at hq; exact hQ _ _ _ _ _ hq) hy hS (held_same hs hQ fuel is l _ _ w e.2 h4 hS hK)

/-- A world that meets S. -/
theorem held_begin {P : Program} {id : Nat} {Q : Exit → Act → World → Prop} {a : Act} {w : World} {l : List Oper} (C : World → Prop) (hm : P.follows .mixedOrders = true) (hC : C w.drew)
    (h : wpAnyH P .any l.toArray Q (fun w' => ∃ x : CW C, w' = x.w) l.length (Array.replicate l.length false) a w.drew) : (Code.region id l.toArray true).wp P Q a w :=
  wp_region_held_drew (S := fun w' => ∃ x : CW C, w' = x.w) hm ⟨⟨_, hC⟩, rfl⟩ (fun _ => by simpa using h)
/-- The same, in the very world. -/
theorem held_here {P : Program} {md : Region.Mode} {Q : Exit → Act → World → Prop} {C : World → Prop} {F : Nat} {listed : Array Bool} {a : Act} {w : World} {l : List Oper} (m : List Bool) (hs : Region.noSelect l.toArray = true) (hB : (decide (m.length ≤ l.length) && decide ((maskIx 0 m).length ≤ F) && heldB md l.toArray (maskIx 0 m) listed) = true) (hQ : ∀ c a t v w, Q (.panic c) (Act.put a (some t) v) w → Q (.panic c) a w) (hC : C w)
    (h : wpQuiet P l.toArray (fun w' => ∃ x : CW C, w' = x.w) (fun a' => wpAnyH P md l.toArray Q (fun w' => ∃ x : CW C, w' = x.w) (F - (maskIx 0 m).length) (markAll (maskIx 0 m) listed) a' w) (pick l m) a) :
    wpAnyH P md l.toArray Q (fun w' => ∃ x : CW C, w' = x.w) F listed a w := by
  simp only [Bool.and_eq_true, decide_eq_true_eq] at hB
  obtain ⟨⟨h1, h2⟩, h3⟩ := hB
  have := held_same (P := P) (md := md) (Q := Q) (S := fun w' => ∃ x : CW C, w' = x.w) hs hQ (F - (maskIx 0 m).length) (maskIx 0 m) (pick l m) listed a w (pick_ix l l m 0 h1 (by simp)) h3 ⟨⟨w, hC⟩, rfl⟩ h
  rwa [show (maskIx 0 m).length + (F - (maskIx 0 m).length) = F by omega] at this
/-- One operation comes up: behind it a world of the class. -/
theorem held_op {P : Program} {md : Region.Mode} {ops : Array Oper} {Q : Exit → Act → World → Prop} {C : World → Prop} {F : Nat} {listed : Array Bool} {a : Act} {w : World} {o : Oper} (k : Nat) (hr : Region.ready md ops listed = [k]) (hF : decide (0 < F) = true) (ho : ops[k]? = some o)
    (h : ∀ K' : Act → World → Prop, Shut (∀ a w, C w → wpAnyH P md ops Q (fun w' => ∃ x : CW C, w' = x.w) (F - 1) (listed.setIfInBounds k true) a w → K' a w) → if Region.wanted o (yielded ops a.tmps) = true then Oper.wp P o a w K' Q else K' (a.put o.dst undef) w) :
    wpAnyH P md ops Q (fun w' => ∃ x : CW C, w' = x.w) F listed a w := by
  have hF' : F = (F - 1) + 1 := by simp only [decide_eq_true_eq] at hF; omega
  rw [hF']
  refine wpAnyH_ready hr (by simp) (AllReadyH.cons ho (fun K' hK => h K' (fun a w hc hw => hK.out a w ⟨⟨w, hc⟩, rfl⟩ (fun _ => hw))) AllReadyH.nil)
/-- A function is called: behind it a world of the class. -/
theorem held_call {P : Program} {md : Region.Mode} {ops : Array Oper} {Q : Exit → Act → World → Prop} {C : World → Prop} {F : Nat} {listed : Array Bool} {a : Act} {w : World} {o : Oper} {args : Array Operand} {ty : Array TypeId} (k f d : Nat) (he : ∀ args w, (callFunc f args).run P w = .ok (.enter f args) w) (av : Array Value) (hr : Region.ready md ops listed = [k]) (hF : decide (0 < F) = true) (ho : ops[k]? = some o)
    (hop : o.op = .call ⟨.value (.func f), args, ty⟩) (hw : Region.wanted o (yielded ops a.tmps) = true) (hd : o.dst = some d) (hav : args.toList.map a.eval = av.toList)
    (h : Calls P f av w fun e w' => ∃ v, e = .returned v ∧ C w' ∧ wpAnyH P md ops Q (fun w' => ∃ x : CW C, w' = x.w) (F - 1) (listed.setIfInBounds k true) (a.put (some d) v) w') :
    wpAnyH P md ops Q (fun w' => ∃ x : CW C, w' = x.w) F listed a w := by
  refine held_op k hr hF ho (fun K hK => ?_)
  rw [if_pos hw]
  have hav : args.map a.eval = av := by apply Array.ext'; rw [Array.toList_map]; exact hav
  have hx : (execOp a.eval o).run P w = .ok (.enter f av) w := by
    unfold execOp
    rw [hop]
    simp [resolve, Deferred.ofValue, invoke, he, hav, Act.eval]
  unfold Oper.wp
  rw [hx]
  refine Calls.mono h ?_
  rintro e w' ⟨v, rfl, hc, hn⟩
  exact hK.out _ _ hc (by rw [hd]; exact hn)
/-- One of two operations comes up. -/
theorem held_op2 {P : Program} {md : Region.Mode} {ops : Array Oper} {Q : Exit → Act → World → Prop} {C : World → Prop} {F : Nat} {listed : Array Bool} {a : Act} {w : World} {o o2 : Oper} (k k2 : Nat) (hr : Region.ready md ops listed = [k, k2]) (hF : decide (0 < F) = true) (ho : ops[k]? = some o) (ho2 : ops[k2]? = some o2)
    (h : ∀ K' : Act → World → Prop, Shut (∀ a w, C w → wpAnyH P md ops Q (fun w' => ∃ x : CW C, w' = x.w) (F - 1) (listed.setIfInBounds k true) a w → K' a w) → if Region.wanted o (yielded ops a.tmps) = true then Oper.wp P o a w K' Q else K' (a.put o.dst undef) w)
    (h2 : ∀ K' : Act → World → Prop, Shut (∀ a w, C w → wpAnyH P md ops Q (fun w' => ∃ x : CW C, w' = x.w) (F - 1) (listed.setIfInBounds k2 true) a w → K' a w) → if Region.wanted o2 (yielded ops a.tmps) = true then Oper.wp P o2 a w K' Q else K' (a.put o2.dst undef) w) :
    wpAnyH P md ops Q (fun w' => ∃ x : CW C, w' = x.w) F listed a w := by
  have hF' : F = (F - 1) + 1 := by simp only [decide_eq_true_eq] at hF; omega
  rw [hF']
  exact wpAnyH_ready hr (by simp) (AllReadyH.cons ho (fun K' hK => h K' (fun a w hc hw => hK.out a w ⟨⟨w, hc⟩, rfl⟩ (fun _ => hw))) (AllReadyH.cons ho2 (fun K' hK => h2 K' (fun a w hc hw => hK.out a w ⟨⟨w, hc⟩, rfl⟩ (fun _ => hw))) AllReadyH.nil))
theorem held_done {P : Program} {md : Region.Mode} {ops : Array Oper} {Q : Exit → Act → World → Prop} {S : World → Prop} {F : Nat} {listed : Array Bool} {a : Act} {w : World} (hr : Region.ready md ops listed = []) (h : Q .normal a w) : wpAnyH P md ops Q S F listed a w := wpAnyH_done hr h F
end Go.Proofs.YtoihhlkidlapmaaGreat

/- A row of texts that one more is appended to; rows of names. -/
namespace Go.Proofs.YtoihhlkidlapmaaGreat
open Go.RowKit Go.Shelf

theorem infoStr : (Tryz.prog.info? 9).map (fun i => (i.zero, i.size, i.bytes)) = some (some (.string ⟨#[]⟩), 1, 16) := by kernel_rfl
theorem str_oneN (x : ByteArray) : ∀ u ∈ [Value.string x], u.oneCell' = true := fun u hu => by rw [List.mem_singleton.1 hu]; rfl
/-- A text appended to a row that is owned. -/
theorem app_name (w : World) (base ty : Nat) (v : Value) (xs : List ByteArray) (x : ByteArray) (g : Nat) (hown : w.ownsRow base 9 1 v xs.length (xs.map Value.string)) (h : w.cell? ⟨g, 0, none⟩ = some (.string x)) (hn : xs.length ≤ 4294967296) (hb : base ≤ w.heap.size) :
    ∃ v' w', (Builtin.append_ #[24, 24] ty #[v, .slice (some ⟨g, 0, none⟩) 1 1]).run Tryz.prog w = .ok v' w' ∧ w'.ownsRow base 9 1 v' (xs ++ [x]).length ((xs ++ [x]).map Value.string) ∧ w.grownBy w' v.ownBlock := by
  obtain ⟨i0, hi, hz0, hz1, hz2⟩ := info_parts infoStr
  obtain ⟨v', w', hr, h2, h3, _, h5⟩ := run_append_own_at (P := Tryz.prog) w base 24 ty 9 i0 (.string ⟨#[]⟩) 1 16 Tryz.underlying24 hi hz0 hz1 hz2 rfl (by decide) v xs.length _ hown ⟨g, 0, none⟩ 1 1 [.string x] (by simp) (by
    intro j u hj
    have : j = 0 := by
      have := (List.getElem?_eq_some_iff.1 hj).1
      simpa using this
    subst this
    simp at hj
    subst hj
    exact h) (str_oneN x) (by unfold maxLen; omega) (by omega) hb
  refine ⟨v', w', hr, ?_, h3⟩
  rw [List.map_append, List.length_append]
  exact h2
theorem wp_name {ops : Array Oper} {rest : List Oper} {o : Oper} {a : Act} {w : World} {Q : Exit → Act → World → Prop} (hgd : o.guard = none) (s y : Operand) (ho : o.op = .call { callee := .builtin .append, args := #[s, y], argTypes := #[24, 24] })
    (base : Nat) (v : Value) (xs : List ByteArray) (x : ByteArray) (g : Nat) (hs : a.eval s = v) (hx : a.eval y = .slice (some ⟨g, 0, none⟩) 1 1) (hown : w.ownsRow base 9 1 v xs.length (xs.map Value.string)) (h : w.cell? ⟨g, 0, none⟩ = some (.string x)) (hn : xs.length ≤ 4294967296) (hb : base ≤ w.heap.size)
    (hk : ∀ v' w', w'.ownsRow base 9 1 v' (xs ++ [x]).length ((xs ++ [x]).map Value.string) → w.grownBy w' v.ownBlock → wpList Tryz.prog ops Q rest (a.put o.dst v') w') : wpList Tryz.prog ops Q (o :: rest) a w := by
  refine wpList_plain hgd fun K hK => ?_
  obtain ⟨v', w', hr, h2, h3⟩ := app_name w base o.type v xs x g hown h hn hb
  unfold Oper.wp execOp
  simp only [ho, resolve, invoke, builtin, Sem.run_bind, Sem.run_pure, Result.andThen_ok, List.map_toArray, List.map_cons, List.map_nil, hs, hx, hr]
  exact hK _ _ (hk v' w' h2 h3)
theorem held_name {md : Region.Mode} {ops : Array Oper} {Q : Exit → Act → World → Prop} {C : World → Prop} {F : Nat} {listed : Array Bool} {a : Act} {w : World} {o : Oper} {s y : Operand} (k d : Nat) (base : Nat) (v : Value) (xs : List ByteArray) (x : ByteArray) (g : Nat) (hr : Region.ready md ops listed = [k]) (hF : decide (0 < F) = true) (ho : ops[k]? = some o)
    (hop : o.op = .call { callee := .builtin .append, args := #[s, y], argTypes := #[24, 24] }) (hw : Region.wanted o (yielded ops a.tmps) = true) (hd : o.dst = some d) (hs : a.eval s = v) (hx : a.eval y = .slice (some ⟨g, 0, none⟩) 1 1)
    (hown : w.ownsRow base 9 1 v xs.length (xs.map Value.string)) (h : w.cell? ⟨g, 0, none⟩ = some (.string x)) (hn : xs.length ≤ 4294967296) (hb : base ≤ w.heap.size)
    (hk : ∀ v' w', w'.ownsRow base 9 1 v' (xs ++ [x]).length ((xs ++ [x]).map Value.string) → w.grownBy w' v.ownBlock → C w' ∧ wpAnyH Tryz.prog md ops Q (fun w' => ∃ x : CW C, w' = x.w) (F - 1) (listed.setIfInBounds k true) (a.put (some d) v') w') :
    wpAnyH Tryz.prog md ops Q (fun w' => ∃ x : CW C, w' = x.w) F listed a w := by
  refine held_op k hr hF ho (fun K hK => ?_)
  rw [if_pos hw]
  obtain ⟨v', w', hr, h2, h3⟩ := app_name w base o.type v xs x g hown h hn hb
  unfold Oper.wp execOp
  simp only [hop, resolve, invoke, builtin, Sem.run_bind, Sem.run_pure, Result.andThen_ok, List.map_toArray, List.map_cons, List.map_nil, hs, hx, hr]
  obtain ⟨hc, hn⟩ := hk v' w' h2 h3
  show K (a.put o.dst v') w'
  rw [hd]
  exact hK.out _ _ hc hn
/-- A row of its own, read. -/
theorem ownsRow_txts {W : World} {N : Nat} {v : Value} {xs : List ByteArray} (h : W.ownsRow N 9 1 v xs.length (xs.map Value.string)) : ∃ a cap, v = .slice a xs.length cap ∧ TxtsAt W a xs ∧ (a = none → cap = 0) ∧ ∀ b o, a = some ⟨b, o, none⟩ → o = 0 ∧ N ≤ b ∧ b < W.heap.size := by
  rcases h.2 with ⟨rfl, h0⟩ | ⟨g, cap, cur, rfl, hg, hh, hc, hm, hsz, hcur⟩
  · exact ⟨none, 0, by rw [h0], .inl (List.length_eq_zero_iff.1 h0), fun _ => rfl, fun b o e => by cases e⟩
  · refine ⟨_, cap, rfl, .inr ⟨g, 0, rfl, (Array.getElem?_eq_some_iff.1 hh).1, fun i x hi => ?_⟩, (fun e => by cases e), fun b o e => by cases e; exact ⟨rfl, hg, (Array.getElem?_eq_some_iff.1 hh).1⟩⟩
    have hl : i < xs.length := (List.getElem?_eq_some_iff.1 hi).1
    have hx : cur[i]? = some (.string x) := by
      rw [← Array.getElem?_toList, ← List.getElem?_take_of_lt (l := cur.toList) (i := i) (j := xs.length * 1) (by omega), hcur, List.getElem?_map, hi]; rfl
    rw [Nat.zero_add]
    exact cell_arrS hh _ _ hx
theorem ownsRow_none (W : World) (N : Nat) : W.ownsRow N 9 1 (.slice none 0 0) ([] : List ByteArray).length (([] : List ByteArray).map Value.string) := ⟨rfl, .inl ⟨rfl, rfl⟩⟩
theorem ownsRow_lowerS {W : World} {N M e n size : Nat} {v : Value} {xs : List Value} (h : W.ownsRow M e size v n xs) (hN : N ≤ M) : W.ownsRow N e size v n xs := by
  refine ⟨h.1, ?_⟩
  rcases h.2 with h0 | ⟨g, cap, cur, hv, hg, h2⟩
  · exact .inl h0
  · exact .inr ⟨g, cap, cur, hv, Nat.le_trans hN hg, h2⟩
theorem ownsRow_belowS {W W' : World} {N e n size : Nat} {v : Value} {xs : List Value} (h : W.ownsRow N e size v n xs) (hb : Below W.heap.size W W') : W'.ownsRow N e size v n xs := by
  refine ⟨h.1, ?_⟩
  rcases h.2 with h0 | ⟨g, cap, cur, hv, hg, hh, h2⟩
  · exact .inl h0
  · exact .inr ⟨g, cap, cur, hv, hg, (hb.block g (Array.getElem?_eq_some_iff.1 hh).1).trans hh, h2⟩
def twiceB (xs : List ByteArray) : Bool := !decide xs.Nodup
end Go.Proofs.YtoihhlkidlapmaaGreat

/- The way from a walk to a row: what lay below is as it was. -/
namespace Go.Proofs.YtoihhlkidlapmaaGreat
open Go.ChangeShapes Go.WideShapes Go.ChangeAt Go.RowKit

theorem own : ownKnob Tryz.prog.godebug = none := by kernel_rfl
theorem laidOut : laidOutB Tryz.prog = true := by kernel_rfl

theorem post_below {H : Type} {enc : TypeId × Value → H} {P : Program} {f : Func} {s : ChangeSpec} {apart fresh handsOn : Bool} {W W' : World} {args : Array Value} {v : Value} {ds gs : List (DataW H)} {before pa pv : List MemPlace}
    (hW : DataW.Whole enc P f.params.toList s.vars apart W args.toList ds gs before)
    (hres : ∀ (b : Nat) (sp : Nat → Bool) (hd : Bool), DataW.TrodAll enc P W' b sp hd f.resultTypes.toList (v.resultList f.resultTypes.size) (s.fn H (ds ++ gs)).results [])
    (hargs : DataW.TrodAll enc P W' 0 (fun b => decide (b < W.heap.size)) true f.params.toList args.toList (s.fn H (ds ++ gs)).args pa)
    (hvars : DataW.TrodVars enc P W' (fun b => decide (b < W.heap.size)) s.vars (s.fn H (ds ++ gs)).vars pv)
    (hps : before = pa ++ pv) (hB : Below W.heap.size W W') :
    s.post enc P f apart fresh handsOn false W args v W' := by
  refine ⟨ds, gs, before, [], pa, pv, hW, hres _ _ _, hargs, hvars, World.keptBut_mono (fun p hp => ⟨hp, ?_⟩) (hB.frame (· ∈ before)), fun h => by cases h⟩
  rw [hps, List.mem_append] at hp
  exact Or.inr hp
end Go.Proofs.YtoihhlkidlapmaaGreat

/- What data that is handed over holds, by its shape. -/
namespace Go.Proofs.YtoihhlkidlapmaaGreat
open Go.ChangeShapes Go.WideShapes Go.ChangeAt Go.RowKit

def Opens (K : CK) (ty : Nat) : Prop := ∀ (H : Type) (enc : TypeId × Value → H) (W : World) (n : Nat) (cs : List Value) (x : DataW H × List MemPlace), DataW.trod enc Tryz.prog W 0 (fun _ => true) true n ty cs = some x → (∀ y ∈ x.2, y.block < W.heap.size) → ∃ d, K.at_ W cs d ∧ K.big d
theorem opens_txt : Opens txtC 9 := fun H enc W n cs x h _ => by
  obtain ⟨s, e, _, z⟩ := DataW.trod_string (by kernel_rfl) h
  exact ⟨s, e, z⟩
theorem opens_int : Opens intC 3 := fun H enc W n cs x h _ => by
  obtain ⟨k, e, _, hk⟩ := DataW.trod_int (k := .i64) (by kernel_rfl) h
  exact ⟨k, e, show -9223372036854775808 ≤ k ∧ k ≤ 9223372036854775807 by simpa [Lit.wf, IntKind.min, IntKind.max, IntKind.signed, IntKind.bits] using hk⟩
theorem list_ofS {α : Type} {p : Nat → α → Prop} : ∀ n, (∀ i, i < n → ∃ e, p i e) → ∃ es : List α, es.length = n ∧ ∀ (i : Nat) e, es[i]? = some e → p i e
  | 0, _ => ⟨[], rfl, fun i e h => by simp at h⟩
  | n + 1, h => by
    obtain ⟨es, hl, hp⟩ := list_ofS n (fun i hi => h i (by omega))
    obtain ⟨e, he⟩ := h n (by omega)
    refine ⟨es ++ [e], by simp [hl], fun i x hx => ?_⟩
    rcases Nat.lt_or_ge i es.length with hi | hi
    · rw [List.getElem?_append_left hi] at hx; exact hp i x hx
    · rw [List.getElem?_append_right hi] at hx
      have : i - es.length = 0 := by
        rcases Nat.eq_zero_or_pos (i - es.length) with h0 | h0
        · exact h0
        · rw [List.getElem?_eq_none (by simp; omega)] at hx; cases hx
      rw [this] at hx
      simp at hx
      subst hx
      have : i = n := by omega
      rw [this]; exact he
theorem add_plainS (b o n : Nat) : (⟨b, o, none⟩ : Addr).add n = ⟨b, o + n, none⟩ := by simp [Addr.add]
theorem opens_row {K : CK} {ety sty ty : Nat} (hs : Tryz.prog.underlying sty = some (.slice ety)) (hc : Tryz.prog.cellsOf ety = K.n) (hpos : 0 < K.n) (ho : Opens K ety) : Opens (rowC K ty) sty := by
  intro H enc W n cs x h hlt
  rcases Deep.open_slice hs h with ⟨rfl, rfl⟩ | ⟨a, len, cap, m, n', D, Pl, rfl, _, hl, hm, hmm, rfl, hcell⟩
  · exact ⟨[], ⟨_, rfl, none, 0, rfl, fun _ => rfl, Nat.le_refl _, .inl rfl⟩, Nat.zero_le _, fun d hd => by cases hd⟩
  · rw [hc] at hcell hlt
    simp only [if_true] at hmm
    by_cases hl0 : len = 0
    · subst hl0
      exact ⟨[], ⟨_, rfl, some a, cap, rfl, (fun e => by cases e), Nat.zero_le _, .inl rfl⟩, Nat.zero_le _, fun d hd => by cases hd⟩
    · obtain ⟨b, off, spot⟩ := a
      have hspot : spot = none := by
        obtain ⟨cs, h1, _⟩ := hcell 0 (by omega)
        obtain ⟨_, hlen, hc'⟩ := World.cells?_some h1
        have := hc' 0 (by omega)
        rw [List.getElem?_eq_getElem (by omega)] at this
        simpa [Addr.add] using World.cell?_spot this
      subst hspot
      have hbW : b < W.heap.size := hlt (.cell b off) (List.mem_append_left _ (MemPlace.mem_row.2 ⟨0, Nat.mul_pos (by omega) hpos, by simp⟩))
      obtain ⟨es, hes, hall⟩ := list_ofS (p := fun i (e : K.D) => (∃ cs, K.at_ W cs e ∧ ∀ j c, cs[j]? = some c → W.cell? ⟨b, off + i * K.n + j, none⟩ = some c) ∧ K.big e) len (fun i hi => by
        obtain ⟨cs', h1, h2⟩ := hcell i (by omega)
        rw [add_plainS] at h1
        obtain ⟨d, hd1, hd2⟩ := ho H enc W _ cs' _ h2 (fun y hy => hlt y (List.mem_append_right _ (List.mem_flatMap.2 ⟨i, List.mem_range.2 (by omega), hy⟩)))
        obtain ⟨_, hlen, hc'⟩ := World.cells?_some h1
        refine ⟨d, ⟨cs', hd1, fun j c hj => ?_⟩, hd2⟩
        have := hc' j (by have := (List.getElem?_eq_some_iff.1 hj).1; omega)
        rw [hj, add_plainS] at this
        exact this)
      subst hes
      refine ⟨es, ⟨_, rfl, _, cap, rfl, (fun e => by cases e), hl, .inr ⟨b, off, rfl, hbW, fun i e hi => (hall i e hi).1⟩⟩, by omega, fun d hd => ?_⟩
      obtain ⟨i, hi⟩ := List.getElem?_of_mem hd
      exact (hall i d hi).2
set_option maxRecDepth 100000 in
theorem rowv_of {H : Type} {enc : TypeId × Value → H} {K : CK} {ety sty base ty : Nat} {W : World} {v : Value} {d0 : DataW H} {p : List MemPlace} (hs : Tryz.prog.underlying sty = some (.slice ety)) (ho : Opens (rowC K ty) sty) (hv : Value.okWide Tryz.prog W .any base sty v) (h : DataW.Trod enc Tryz.prog W 0 (fun _ => true) true sty v d0 p) (hlt : ∀ x ∈ p, x.block < W.heap.size) :
    ∃ ds, rowAt K W v ds ∧ (ds.length ≤ maxLen ∧ ∀ d ∈ ds, K.big d) := by
  obtain ⟨a0, len, cap, rfl⟩ := okWide_slice hs hv
  obtain ⟨fuel, hf⟩ := h
  obtain ⟨ds, ⟨v', e, h1⟩, h2⟩ := ho H enc W fuel _ _ hf hlt
  have : v' = .slice a0 len cap := by simpa [Value.cells] using e.symm
  subst this
  exact ⟨ds, h1, h2⟩
theorem aggAt.below {K : CK} {W W' : World} {v : Value} {d : K.D} (h : aggAt K W v d) (hb : Below W.heap.size W W') : aggAt K W' v d := by
  obtain ⟨cs, h1, h2⟩ := h
  exact ⟨cs, h1, K.below h2 hb⟩
theorem vfresh {K : Kind} {W W' : World} {v : Value} {d : K.D} {F : List Nat} (h : K.own W v d F) (hb : Below W.heap.size W W') : K.own W' v d F := K.frame h (fun k hk => hb.block k (K.lt h k hk))
theorem vonly {K : Kind} {W W' : World} {v : Value} {d : K.D} {F G : List Nat} (h : K.own W v d F) (ho : Only G W W') (hd : ∀ k ∈ F, k ∉ G) : K.own W' v d F := K.frame h (fun k hk => ho.block k (K.lt h k hk) (hd k hk))
end Go.Proofs.YtoihhlkidlapmaaGreat

/- Rows of hunks: what they hold, the laws' own copies of them, their sizes; two rows of the same hunks are the same. -/
namespace Go.Proofs.YtoihhlkidlapmaaGreat
open Go.RowKit Go.Shelf

structure Hk where
  at_ : Int
  lines : List ByteArray
/-- The two cells of a hunk. -/
def HkAt (W : World) (b o : Nat) (h : Hk) : Prop := ∃ la cap, W.cell? ⟨b, o, .none⟩ = some (.int .i64 h.at_) ∧ W.cell? ⟨b, o + 1, .none⟩ = some (.slice la h.lines.length cap) ∧ TxtsAt W la h.lines
theorem HkAt.below {W W' : World} {b o : Nat} {h : Hk} (x : HkAt W b o h) (hb : Below W.heap.size W W') (hl : b < W.heap.size) : HkAt W' b o h := by
  obtain ⟨la, cap, c0, c1, ht⟩ := x
  exact ⟨la, cap, (hb.cell (p := ⟨b, o, .none⟩) hl).trans c0, (hb.cell (p := ⟨b, o + 1, .none⟩) hl).trans c1, ht.below hb⟩
/-- A row of hunks that is read. -/
def HksAt (W : World) (a : Option Addr) (hs : List Hk) : Prop := hs = [] ∨ ∃ b o, a = some ⟨b, o, .none⟩ ∧ b < W.heap.size ∧ ∀ (i : Nat) h, hs[i]? = some h → HkAt W b (o + i * 2) h
theorem HksAt.below {W W' : World} {a : Option Addr} {hs : List Hk} (h : HksAt W a hs) (hb : Below W.heap.size W W') : HksAt W' a hs := by
  rcases h with h | ⟨b, o, rfl, hl, hc⟩
  · exact .inl h
  · exact .inr ⟨b, o, rfl, Nat.lt_of_lt_of_le hl hb.size, fun i e hi => (hc i e hi).below hb hl⟩
theorem HksAt.get {W : World} {a : Option Addr} {hs : List Hk} (h : HksAt W a hs) (hne : hs ≠ []) : ∃ b o, a = some ⟨b, o, .none⟩ ∧ b < W.heap.size ∧ ∀ (i : Nat) h, hs[i]? = some h → HkAt W b (o + i * 2) h := h.resolve_left hne

/-- Two cells at the head of a block. -/
def TwoAt (W : World) (b : Nat) (x : Int) (v : Value) : Prop := (W.cell? ⟨b, 0, .none⟩ = some (.int .i64 x) ∧ W.frozen? ⟨b, 0, .none⟩ = false) ∧ W.cell? ⟨b, 1, .none⟩ = some v ∧ W.frozen? ⟨b, 1, .none⟩ = false
theorem TwoAt.below {W W' : World} {b B : Nat} {x : Int} {v : Value} (h : TwoAt W b x v) (hb : Below B W W') (hB : b < B) : TwoAt W' b x v :=
  ⟨⟨(hb.cell (p := ⟨b, 0, .none⟩) hB).trans h.1.1, (hb.frozen (p := ⟨b, 0, .none⟩) hB).trans h.1.2⟩, (hb.cell (p := ⟨b, 1, .none⟩) hB).trans h.2.1, (hb.frozen (p := ⟨b, 1, .none⟩) hB).trans h.2.2⟩
theorem TwoAt.far {W : World} {b : Nat} {x : Int} {v : Value} (h : TwoAt W b x v) {q : Addr} (hq : b ≠ q.block) (y : Value) : TwoAt (W.setCell q y) b x v := by
  have hb := Below.heap_setCell W q y b hq
  exact ⟨⟨(World.cell?_of_block (w := W) hb).trans h.1.1, (World.frozen?_of_block (w := W) hb).trans h.1.2⟩, (World.cell?_of_block (w := W) hb).trans h.2.1, (World.frozen?_of_block (w := W) hb).trans h.2.2⟩
end Go.Proofs.YtoihhlkidlapmaaGreat

/- The laws' own copies of hunks; two rows of the same hunks are the same. -/
namespace Go.Proofs.YtoihhlkidlapmaaGreat
open Go.RowKit Go.Shelf

/-- A block that is a row of n hunks. -/
def HkRow (W : World) (g T n : Nat) (f : Nat → Int × Value) : Prop := ∃ cur : Array Value, W.heap[g]? = some (.cells cur T (0, 0)) ∧ cur.size = n * 2 ∧ ∀ i, i < n → cur[i * 2]? = some (.int .i64 (f i).1) ∧ cur[i * 2 + 1]? = some (f i).2
theorem HkRow.lt {W : World} {g T n : Nat} {f : Nat → Int × Value} (x : HkRow W g T n f) : g < W.heap.size := by
  obtain ⟨cur, h1, _⟩ := x; exact (Array.getElem?_eq_some_iff.1 h1).1
theorem HkRow.block {W W' : World} {g T n : Nat} {f : Nat → Int × Value} (x : HkRow W g T n f) (e : W'.heap[g]? = W.heap[g]?) : HkRow W' g T n f := by
  obtain ⟨cur, h1, h2, h3⟩ := x; exact ⟨cur, e.trans h1, h2, h3⟩
theorem HkRow.below {W W' : World} {B g T n : Nat} {f : Nat → Int × Value} (x : HkRow W g T n f) (hb : Below B W W') (hg : g < B) : HkRow W' g T n f := x.block (hb.block g hg)
theorem HkRow.cells {W : World} {g T n : Nat} {f : Nat → Int × Value} (x : HkRow W g T n f) (k : Nat) (hk : k < n) : (W.cell? ⟨g, k * 2, .none⟩ = some (.int .i64 (f k).1) ∧ W.frozen? ⟨g, k * 2, .none⟩ = false) ∧ W.cell? ⟨g, k * 2 + 1, .none⟩ = some (f k).2 ∧ W.frozen? ⟨g, k * 2 + 1, .none⟩ = false := by
  obtain ⟨cur, h1, h2, h3⟩ := x
  obtain ⟨a, b⟩ := h3 k hk
  exact ⟨⟨by simp [World.cell?, h1, a], by simp [World.frozen?, h1]⟩, by simp [World.cell?, h1, b], by simp [World.frozen?, h1]⟩
def updH (f : Nat → Int × Value) (k : Nat) (e : Int × Value) : Nat → Int × Value := fun j => if j = k then e else f j
theorem HkRow.set {W : World} {g T n : Nat} {f : Nat → Int × Value} (x : HkRow W g T n f) (k : Nat) (hk : k < n) (e : Int × Value) :
    HkRow ((W.setCell ⟨g, k * 2, .none⟩ (.int .i64 e.1)).setCell ⟨g, k * 2 + 1, .none⟩ e.2) g T n (updH f k e) := by
  obtain ⟨cur, h1, h2, h3⟩ := x
  refine ⟨(cur.setIfInBounds (k * 2) (.int .i64 e.1)).setIfInBounds (k * 2 + 1) e.2, ?_, by simpa using h2, fun i hi => ?_⟩
  · exact heap_setCell_same _ g _ _ T _ (heap_setCell_same _ g _ _ T _ h1)
  · unfold updH
    simp only [Array.getElem?_setIfInBounds, Array.size_setIfInBounds]
    by_cases e1 : i = k
    · subst e1
      have eu : (if i = i then e else f i) = e := if_pos rfl
      rw [eu]
      refine ⟨?_, ?_⟩
      · rw [if_neg (by omega), if_pos rfl, if_pos (by omega)]
      · rw [if_pos rfl, if_pos (by omega)]
    · rw [if_neg e1]
      obtain ⟨a, b⟩ := h3 i hi
      refine ⟨?_, ?_⟩
      · rw [if_neg (by omega), if_neg (by omega)]; exact a
      · rw [if_neg (by omega), if_neg (by omega)]; exact b
/-- What a copy of the first k hunks is. -/
def HkDone (W : World) (g k : Nat) (hs : List Hk) (f : Nat → Int × Value) : Prop := ∀ (i : Nat) h, i < k → hs[i]? = some h → ∃ la, f i = (h.at_, .slice (some ⟨la, 0, .none⟩) h.lines.length h.lines.length) ∧ g < la ∧ TxtsAt W (some ⟨la, 0, .none⟩) h.lines
theorem HkDone.below {W W' : World} {g k : Nat} {hs : List Hk} {f : Nat → Int × Value} (x : HkDone W g k hs f) (hb : Below W.heap.size W W') : HkDone W' g k hs f := fun i h hi he => by
  obtain ⟨la, h1, h2, h3⟩ := x i h hi he
  exact ⟨la, h1, h2, h3.below hb⟩
theorem HkDone.set {W : World} {g k : Nat} {hs : List Hk} {f : Nat → Int × Value} (x : HkDone W g k hs f) (o : Nat) (v : Value) : HkDone (W.setCell ⟨g, o, .none⟩ v) g k hs f := fun i h hi he => by
  obtain ⟨la, h1, h2, h3⟩ := x i h hi he
  exact ⟨la, h1, h2, h3.block g (fun b o e => by cases e; omega) (by simp) (fun b _ hne => Below.heap_setCell W ⟨g, _, .none⟩ v b (by dsimp only; exact hne))⟩

end Go.Proofs.YtoihhlkidlapmaaGreat

/- Lines of texts and of hunks, by the program and by its model. -/
namespace Go.Proofs.YtoihhlkidlapmaaGreat
open Go.RowKit Go.Shelf



end Go.Proofs.YtoihhlkidlapmaaGreat

/- Rows of texts: whether two are the same, what they begin and end with alike, with signs ahead. -/
namespace Go.Proofs.YtoihhlkidlapmaaGreat
open Go.RowKit Go.Shelf

theorem txt_same (a b : ByteArray) : (a.toList == b.toList) = decide (a = b) := by
  rw [Bool.eq_iff_iff, beq_iff_eq, decide_eq_true_eq]
  refine ⟨fun h => ?_, fun h => by rw [h]⟩
  rw [Lib.toList_data, Lib.toList_data] at h
  exact ByteArray.ext (Array.ext' h)
theorem txt_diff (a b : ByteArray) : (a.toList != b.toList) = !decide (a = b) := by rw [bne, txt_same]
theorem txt_yes {a b : ByteArray} (h : a = b) : (a.toList == b.toList) = true ∧ (a.toList != b.toList) = false := by rw [txt_diff, txt_same, decide_eq_true h]; exact ⟨rfl, rfl⟩


end Go.Proofs.YtoihhlkidlapmaaGreat
