/- Texts of this proof, one behind the other; each says at its head what it shows. -/
import Derived.Test.YtoihhlkidlapmaaGreatProg
import Derived.WalkKit
import Derived.WalkLawsBesides
import Derived.Deep.QuietTactic
import Derived.BigQuiet
import Derived.Outline
import Derived.RangeFuncNested
import Derived.RangeFuncBound
import Derived.RangeFuncCalls
import Derived.RangeFuncLeaves
import Derived.Shelf.Abstract
import Derived.Shelf.RegionOpen
import Derived.OwnWalkIn
import Derived.TacticsInMore
import Derived.LoopNIn
import Derived.LoopIn
import Derived.Deep.OwnRows
import Derived.Maps.OwnIn
import Derived.Deep.RegionWith
import Derived.Lib.Strings
import Derived.Laws.IdiomStrings
import Derived.Deep.RegionHeld
import Derived.Maps.AppendAt
import Derived.Laws.OwnMore
import Derived.Laws.Cover3
import Derived.Test.YtoihhlkidlapmaaGreatRows
import Derived.ProofKit
import Derived.OpenShut
import Derived.Deep.Slices
import Derived.Lib.SmallJoins
import Derived.WalkSpells
import Derived.Shelf.Small.Strs
import Derived.Shelf.Strings.Search1
import Derived.Shelf.Sort.Plain
import Derived.Shelf.Slices.In.SortNone
import Derived.Sort.OwnSorted
import Derived.Sort.KeysCollected
namespace Go.Proofs.YtoihhlkidlapmaaGreat
def needsF {α : Type} (f : α → List α → List α × Int) : List (α × Bool) → List α → List α × Int
  | [], out => (out, 0)
  | n :: ns, out => if n.2 = false then (out, 3) else if (f n.1 out).2 = 0 then needsF f ns (f n.1 out).1 else f n.1 out
def clsF {α : Type} [DecidableEq α] (G : α → Option (List (α × Bool))) : Nat → α → List α → List α → List α × Int
  | 0, _, out, _ => (out, 4)
  | f + 1, x, out, op => if x ∈ out then (out, 0) else match G x with
    | none => (out, 3)
    | some ns => if x ∈ op then (out, 4) else
      if (needsF (fun y o => clsF G f y o (op ++ [x])) ns out).2 = 0 then ((needsF (fun y o => clsF G f y o (op ++ [x])) ns out).1 ++ [x], 0) else needsF (fun y o => clsF G f y o (op ++ [x])) ns out
def closeL {α : Type} (f : α → List α → List α × Int) : List α → List α → List α × Int
  | [], out => (out, 0)
  | x :: xs, out => if (f x out).2 = 0 then closeL f xs (f x out).1 else ([], (f x out).2)
def GoodL {α : Type} (G : α → Option (List (α × Bool))) (out : List α) : Prop := ∀ (k : Nat) x, out[k]? = some x → x ∉ out.take k ∧ ∃ ns, G x = some ns ∧ ∀ n ∈ ns, n.2 = true ∧ n.1 ∈ out.take k
theorem good_nil {α : Type} (G : α → Option (List (α × Bool))) : GoodL G [] := fun k x h => by simp at h
theorem good_snoc {α : Type} {G : α → Option (List (α × Bool))} {out : List α} {x : α} {ns : List (α × Bool)} (h : GoodL G out) (hx : x ∉ out) (hG : G x = some ns) (hn : ∀ n ∈ ns, n.2 = true ∧ n.1 ∈ out) : GoodL G (out ++ [x]) := by
  intro k y hy
  rcases Nat.lt_or_ge k out.length with hk | hk
  · rw [List.getElem?_append_left hk] at hy
    rw [List.take_append_of_le_length (Nat.le_of_lt hk)]
    exact h k y hy
  · rw [List.getElem?_append_right hk] at hy
    have h0 : k = out.length := by
      rcases Nat.eq_zero_or_pos (k - out.length) with e | e
      · omega
      · rw [List.getElem?_eq_none (by simp; omega)] at hy; cases hy
    subst h0
    rw [Nat.sub_self] at hy
    simp at hy
    subst hy
    rw [List.take_left' rfl]
    exact ⟨hx, ns, hG, hn⟩
theorem good_mem {α : Type} {G : α → Option (List (α × Bool))} {out : List α} (h : GoodL G out) {x : α} (hx : x ∈ out) : ∃ ns, G x = some ns ∧ ∀ n ∈ ns, n.2 = true ∧ n.1 ∈ out := by
  obtain ⟨k, hk⟩ := List.getElem?_of_mem hx
  obtain ⟨_, ns, h1, h2⟩ := h k x hk
  exact ⟨ns, h1, fun n hn => ⟨(h2 n hn).1, List.mem_of_mem_take (h2 n hn).2⟩⟩
theorem good_nodup {α : Type} {G : α → Option (List (α × Bool))} {out : List α} (h : GoodL G out) : out.Nodup := by
  rw [List.nodup_iff_pairwise_ne, List.pairwise_iff_getElem]
  intro i j hi hj hij e
  refine (h j out[j] (List.getElem?_eq_getElem hj)).1 ?_
  rw [← e, List.mem_take_iff_getElem]
  exact ⟨i, by omega, rfl⟩
def StepOk {α : Type} (G : α → Option (List (α × Bool))) (op : List α) (x : α) (out : List α) (r : List α × Int) : Prop := r.2 = 0 → GoodL G out → GoodL G r.1 ∧ (∃ t, r.1 = out ++ t) ∧ x ∈ r.1 ∧ ∀ y ∈ op, y ∈ r.1 → y ∈ out
theorem needs_ok {α : Type} {G : α → Option (List (α × Bool))} {f : α → List α → List α × Int} {op : List α} (hf : ∀ y o, StepOk G op y o (f y o)) : ∀ (ns : List (α × Bool)) (out : List α), (needsF f ns out).2 = 0 → GoodL G out → GoodL G (needsF f ns out).1 ∧ (∃ t, (needsF f ns out).1 = out ++ t) ∧ (∀ n ∈ ns, n.2 = true ∧ n.1 ∈ (needsF f ns out).1) ∧ ∀ y ∈ op, y ∈ (needsF f ns out).1 → y ∈ out
  | [], out, _, hg => ⟨hg, ⟨[], by simp [needsF]⟩, fun n hn => by (cases hn), fun _ _ h => h⟩
  | n :: ns, out, h, hg => by
    unfold needsF at h ⊢
    by_cases h1 : n.2 = false
    · rw [if_pos h1] at h; cases h
    · rw [if_neg h1] at h ⊢
      by_cases h2 : (f n.1 out).2 = 0
      · rw [if_pos h2] at h ⊢
        obtain ⟨g1, ⟨t, e⟩, m1, o1⟩ := hf n.1 out h2 hg
        obtain ⟨g2, ⟨t2, e2⟩, m2, o2⟩ := needs_ok hf ns _ h g1
        refine ⟨g2, ⟨t ++ t2, by rw [e2, e, List.append_assoc]⟩, fun m hm => ?_, fun y hy hm => o1 y hy (o2 y hy hm)⟩
        rcases List.mem_cons.1 hm with rfl | hm
        · exact ⟨by simpa using h1, by rw [e2]; exact List.mem_append_left _ m1⟩
        · exact m2 m hm
      · rw [if_neg h2] at h; exact absurd h h2
theorem cls_ok {α : Type} [DecidableEq α] (G : α → Option (List (α × Bool))) : ∀ (f : Nat) (x : α) (out op : List α), StepOk G op x out (clsF G f x out op)
  | 0, _, _, _, h, _ => by cases h
  | f + 1, x, out, op, h, hg => by
    unfold clsF at h ⊢
    by_cases h1 : x ∈ out
    · rw [if_pos h1] at h ⊢; exact ⟨hg, ⟨[], by simp⟩, h1, fun _ _ h => h⟩
    · rw [if_neg h1] at h ⊢
      cases hG : G x with
      | none => rw [hG] at h; cases h
      | some ns =>
        rw [hG] at h
        dsimp only at h ⊢
        by_cases h2 : x ∈ op
        · rw [if_pos h2] at h; cases h
        · rw [if_neg h2] at h ⊢
          by_cases h3 : (needsF (fun y o => clsF G f y o (op ++ [x])) ns out).2 = 0
          · rw [if_pos h3]
            obtain ⟨g1, ⟨t, e⟩, m1, o1⟩ := needs_ok (fun y o => cls_ok G f y o (op ++ [x])) ns out h3 hg
            have hx : x ∉ (needsF (fun y o => clsF G f y o (op ++ [x])) ns out).1 := fun hm => h1 (o1 x (by simp) hm)
            refine ⟨good_snoc g1 hx hG m1, ⟨t ++ [x], by rw [e, List.append_assoc]⟩, by simp, fun y hy hm => ?_⟩
            rcases List.mem_append.1 hm with hm | hm
            · exact o1 y (List.mem_append_left _ hy) hm
            · rw [List.mem_singleton.1 hm] at hy; exact absurd hy h2
          · rw [if_neg h3] at h; exact absurd h h3
theorem close_ok {α : Type} [DecidableEq α] {G : α → Option (List (α × Bool))} {N : Nat} : ∀ (xs out : List α), (closeL (fun x o => clsF G N x o []) xs out).2 = 0 → GoodL G out → GoodL G (closeL (fun x o => clsF G N x o []) xs out).1 ∧ (∃ t, (closeL (fun x o => clsF G N x o []) xs out).1 = out ++ t) ∧ ∀ x ∈ xs, x ∈ (closeL (fun x o => clsF G N x o []) xs out).1
  | [], out, _, hg => ⟨hg, ⟨[], by simp [closeL]⟩, fun n hn => by cases hn⟩
  | x :: xs, out, h, hg => by
    unfold closeL at h ⊢
    by_cases h2 : (clsF G N x out []).2 = 0
    · rw [if_pos h2] at h ⊢
      obtain ⟨g1, ⟨t, e⟩, m1, _⟩ := cls_ok G N x out [] h2 hg
      obtain ⟨g2, ⟨t2, e2⟩, m2⟩ := close_ok xs _ h g1
      refine ⟨g2, ⟨t ++ t2, by rw [e2, e, List.append_assoc]⟩, fun m hm => ?_⟩
      rcases List.mem_cons.1 hm with rfl | hm
      · rw [e2]; exact List.mem_append_left _ m1
      · exact m2 m hm
    · rw [if_neg h2] at h; exact absurd h h2
theorem nodup_len {α : Type} [DecidableEq α] : ∀ (xs ys : List α), xs.Nodup → (∀ x ∈ xs, x ∈ ys) → xs.length ≤ ys.length
  | [], _, _, _ => Nat.zero_le _
  | x :: xs, ys, h, hs => by
    rw [List.nodup_cons] at h
    have hx := hs x (by simp)
    have := nodup_len xs (ys.erase x) h.2 (fun y hy => (List.mem_erase_of_ne (fun e => by subst e; exact h.1 hy)).2 (hs y (List.mem_cons_of_mem _ hy)))
    rw [List.length_erase_of_mem hx] at this
    have := List.length_pos_of_mem hx
    simp only [List.length_cons]; omega
def finishF {α : Type} [DecidableEq α] (G : α → Option (List (α × Bool))) (N : Nat) : List (α × List (α × Bool)) → List α → List α × Int
  | [], out => (out, 0)
  | (x, ns) :: rest, out =>
    if (needsF (fun y o => clsF G (N - rest.length) y o ((rest.map Prod.fst).reverse ++ [x])) ns out).2 = 0 then finishF G N rest ((needsF (fun y o => clsF G (N - rest.length) y o ((rest.map Prod.fst).reverse ++ [x])) ns out).1 ++ [x])
    else needsF (fun y o => clsF G (N - rest.length) y o ((rest.map Prod.fst).reverse ++ [x])) ns out
theorem finish_out {α : Type} [DecidableEq α] (G : α → Option (List (α × Bool))) (N : Nat) (x : α) (rest : List (α × List (α × Bool))) (out : List α) : finishF G N ((x, []) :: rest) out = finishF G N rest (out ++ [x]) := by
  rw [finishF]
  simp [needsF]
theorem finish_enter {α : Type} [DecidableEq α] (G : α → Option (List (α × Bool))) (N : Nat) (x y : α) (ns : List (α × Bool)) (rest : List (α × List (α × Bool))) (out : List α) (hN : rest.length < N) :
    ((y ∈ out) → finishF G N ((x, (y, true) :: ns) :: rest) out = finishF G N ((x, ns) :: rest) out) ∧
    (∀ ms, y ∉ out → G y = some ms → y ∉ x :: rest.map Prod.fst → finishF G N ((x, (y, true) :: ns) :: rest) out = finishF G N ((y, ms) :: (x, ns) :: rest) out) ∧
    (y ∉ out → G y ≠ none → y ∈ x :: rest.map Prod.fst → (finishF G N ((x, (y, true) :: ns) :: rest) out).2 = 4) := by
  obtain ⟨k, hk⟩ : ∃ k, N - rest.length = k + 1 := ⟨N - rest.length - 1, by omega⟩
  have hk2 : N - (rest.length + 1) = k := by omega
  have hmem : ∀ z, z ∈ (rest.map Prod.fst).reverse ++ [x] ↔ z ∈ x :: rest.map Prod.fst := fun z => by simp [or_comm]
  refine ⟨fun h => ?_, fun ms h hG hno => ?_, fun h hG hy => ?_⟩
  · rw [finishF, finishF, hk, needsF]
    have : clsF G (k + 1) y out ((rest.map Prod.fst).reverse ++ [x]) = (out, 0) := by rw [clsF, if_pos h]
    simp only [this, Bool.true_eq_false, if_false, if_true]
  · rw [finishF, hk, needsF]
    rw [finishF, List.length_cons, hk2]
    have e : clsF G (k + 1) y out ((rest.map Prod.fst).reverse ++ [x]) = if (needsF (fun z o => clsF G k z o ((rest.map Prod.fst).reverse ++ [x] ++ [y])) ms out).2 = 0 then ((needsF (fun z o => clsF G k z o ((rest.map Prod.fst).reverse ++ [x] ++ [y])) ms out).1 ++ [y], 0) else needsF (fun z o => clsF G k z o ((rest.map Prod.fst).reverse ++ [x] ++ [y])) ms out := by
      rw [clsF, if_neg h, hG]
      dsimp only
      rw [if_neg (fun e => hno ((hmem y).1 e))]
    have e2 : (((x, ns) :: rest).map Prod.fst).reverse = (rest.map Prod.fst).reverse ++ [x] := by simp
    rw [e2]
    generalize hr : needsF (fun z o => clsF G k z o ((rest.map Prod.fst).reverse ++ [x] ++ [y])) ms out = r at *
    dsimp only at e ⊢
    rw [e]
    by_cases h0 : r.2 = 0
    · simp only [h0, if_true, Bool.true_eq_false, if_false]
      rw [finishF, hk]
    · simp only [h0, if_false, Bool.true_eq_false]
  · rw [finishF, hk, needsF]
    obtain ⟨ms, hm⟩ := Option.ne_none_iff_exists'.1 hG
    have e : clsF G (k + 1) y out ((rest.map Prod.fst).reverse ++ [x]) = (out, 4) := by
      rw [clsF, if_neg h, hm]
      dsimp only
      rw [if_pos ((hmem y).2 hy)]
    dsimp only
    rw [e]
    simp
theorem finish_none {α : Type} [DecidableEq α] (G : α → Option (List (α × Bool))) (N : Nat) (x y : α) (ns : List (α × Bool)) (rest : List (α × List (α × Bool))) (out : List α) : (finishF G N ((x, (y, false) :: ns) :: rest) out).2 = 3 := by
  rw [finishF, needsF]
  simp
theorem cls_top {α : Type} [DecidableEq α] (G : α → Option (List (α × Bool))) (N : Nat) (x : α) (out : List α) :
    ((x ∈ out) → clsF G (N + 1) x out [] = (out, 0)) ∧ (x ∉ out → G x = none → clsF G (N + 1) x out [] = (out, 3)) ∧
    ∀ ms, x ∉ out → G x = some ms → clsF G (N + 1) x out [] = finishF G N [(x, ms)] out := by
  refine ⟨fun h => by rw [clsF, if_pos h], fun h hG => by rw [clsF, if_neg h, hG], fun ms h hG => ?_⟩
  rw [clsF, if_neg h, hG]
  dsimp only
  rw [if_neg (by simp), finishF]
  simp only [List.length_nil, Nat.sub_zero, List.map_nil, List.reverse_nil]
  split <;> rfl
end Go.Proofs.YtoihhlkidlapmaaGreat

namespace Go.Proofs.YtoihhlkidlapmaaGreat
open Go.RowKit
theorem hid {p : Prop} (h : p) : Hid p := h
theorem unhid {p : Prop} (h : Hid p) : p := h
def figB (c : Int) : Bool := decide (48 ≤ c) && decide (c ≤ 57)
def letB (c : Int) : Bool := decide (97 ≤ c) && decide (c ≤ 122)
def nameB (c : Int) : Bool := figB c || letB c || c == 46 || c == 95 || c == 45
set_option maxHeartbeats 400000 in
theorem isFigure_any (c : Int) (w : World) :
    Calls Tryz.prog 181 #[.int .u8 c] w fun e w' => e = .returned (.bool (figB c)) ∧ w' = w := by
  by_cases h1 : 48 ≤ c <;> by_cases h2 : c ≤ 57 <;>
  · go_enter Tryz.func181, Tryz.ntmps181
    go_wp2
    go_ret
    exact ⟨by simp [figB, h1, h2], rfl⟩
set_option maxHeartbeats 400000 in
theorem isLetter_any (c : Int) (w : World) :
    Calls Tryz.prog 240 #[.int .u8 c] w fun e w' => e = .returned (.bool (letB c)) ∧ w' = w := by
  by_cases h1 : 97 ≤ c <;> by_cases h2 : c ≤ 122 <;>
  · go_enter Tryz.func240, Tryz.ntmps240
    go_wp2
    go_ret
    exact ⟨by simp [letB, h1, h2], rfl⟩
set_option maxHeartbeats 1000000 in
theorem isNameByte_any (c : Int) (w : World) :
    Calls Tryz.prog 239 #[.int .u8 c] w fun e w' => e = .returned (.bool (nameB c)) ∧ w' = w := by
  cases h1 : figB c
  case' false => cases h2 : letB c
  case' false.false => cases h3 : (c == 46)
  case' false.false.false => cases h4 : (c == 95)
  case' false.false.false.false => cases h5 : (c == 45)
  all_goals
    go_enter Tryz.func239, Tryz.ntmps239
    go_wp2_with (first | (go_at_call 181; refine (isFigure_any _ _).mono ?_; rintro e w' ⟨rfl, rfl⟩) | (go_at_call 240; refine (isLetter_any _ _).mono ?_; rintro e w' ⟨rfl, rfl⟩))
    go_ret
    exact ⟨by simp_all [nameB], rfl⟩
set_option maxHeartbeats 1000000 in
theorem l1Small_any (c : Int) (w : World) :
    Calls Tryz.prog 273 #[.int .u8 c] w fun e w' => e = .returned (.bool (nameB c)) ∧ w' = w := by
  by_cases h1 : 97 ≤ c <;> by_cases h2 : c ≤ 122 <;> by_cases h6 : 48 ≤ c <;> by_cases h7 : c ≤ 57 <;> cases h3 : (c == 46) <;> cases h4 : (c == 95) <;> cases h5 : (c == 45)
  all_goals first | (exfalso; simp at *; omega) | skip
  all_goals
    go_enter Tryz.func273, Tryz.ntmps273
    go_wp2
    go_ret
    exact ⟨by simp_all [nameB, figB, letB], rfl⟩
set_option maxHeartbeats 400000 in
theorem l1In_any (n a b : Int) (w : World) :
    Calls Tryz.prog 178 #[.int .i64 n, .int .i64 a, .int .i64 b] w fun e w' => e = .returned (.bool (decide (a ≤ n) && decide (n ≤ b))) ∧ w' = w := by
  by_cases h1 : a ≤ n <;> by_cases h2 : n ≤ b <;>
  · go_enter Tryz.func178, Tryz.ntmps178
    go_wp2
    go_ret
    exact ⟨by simp [h1, h2], rfl⟩
end Go.Proofs.YtoihhlkidlapmaaGreat

namespace Go.Proofs.YtoihhlkidlapmaaGreat
open Go.RowKit Go.Shelf
attribute [local go_sem] Oper.semAt_some
theorem cell_of_box_l {W : World} {B : Nat} {v : Value} {t : TypeId} (h : W.heap[B]? = some (.cells #[v] t (0, 0))) : W.cell? ⟨B, 0, none⟩ = some v ∧ W.frozen? ⟨B, 0, none⟩ = false := by
  constructor <;> simp [World.cell?, World.frozen?, h]
theorem cell_new_l (W : World) (v : Value) (t : TypeId) : (W.alloc (.cells #[v] t)).cell? ⟨W.heap.size, 0, none⟩ = some v ∧ (W.alloc (.cells #[v] t)).frozen? ⟨W.heap.size, 0, none⟩ = false :=
  cell_of_box_l (World.alloc_heap_new W _)
theorem cell_alloc_l {W : World} {a : Addr} {v : Value} (o : Obj) (h : W.cell? a = some v) : (W.alloc o).cell? a = some v := cell_kept h (World.grownBy_alloc W o none) (fun r e => by cases e)
theorem frozen_alloc_l {W : World} {a : Addr} {v : Value} (o : Obj) (h : W.cell? a = some v) (hf : W.frozen? a = false) : (W.alloc o).frozen? a = false := (frozen_kept h (World.grownBy_alloc W o none) (fun r e => by cases e)).trans hf
def Keeps (A : List Nat) (W W' : World) : Prop := ∀ b, b ∈ A → ∀ v, W.cell? ⟨b, 0, none⟩ = some v → W'.cell? ⟨b, 0, none⟩ = some v
theorem Keeps.refl (A : List Nat) (W : World) : Keeps A W W := fun _ _ _ h => h
theorem Keeps.t {A : List Nat} {X Y Z : World} (h : Keeps A X Y) (g : Keeps A Y Z) : Keeps A X Z := fun b hb v e => g b hb v (h b hb v e)
theorem Keeps.b {A : List Nat} {m : Nat} (W : World) (l : Nat) (o o' : Obj) (_ : m ≤ l) (h : W.heap[l]? = some o) (hc : o.isCells = false) (_ : o.isWalk = false) : Keeps A W (W.putObj l o') :=
  fun _ _ _ e => cell_kept e (grownBy_putObj' _ l o') (fun r e' => by cases e'; exact ⟨_, h, hc⟩)
theorem KeepsOthers_of_below {W W' : World} (h : Below W.heap.size W W') : KeepsOthers W W' := ⟨h.size, fun k _ hk _ => (h.block k (Array.getElem?_eq_some_iff.1 hk).1).trans hk⟩
theorem Keeps.setCell {A : List Nat} (W : World) (b : Nat) (v : Value) (h : b ∉ A) : Keeps A W (W.setCell ⟨b, 0, none⟩ v) := fun c hc u e => by
  rw [World.cell?_of_block (w := W) (Below.heap_setCell W ⟨b, 0, none⟩ v c (fun x => h (by cases x; exact hc)))]; exact e
theorem set_same {W : World} {a : Addr} {u v : Value} (h : W.cell? a = some u) : (W.setCell a v).cell? a = some v := World.cell?_setCell_same' _ _ _ (by rw [h]; rfl)
theorem set_far (W : World) (b c : Nat) (v : Value) (h : b ≠ c) : (W.setCell ⟨b, 0, none⟩ v).cell? ⟨c, 0, none⟩ = W.cell? ⟨c, 0, none⟩ := World.cell?_of_block (w := W) (Below.heap_setCell W ⟨b, 0, none⟩ v c (fun e => h e.symm))
theorem below_lt {W : World} {a : Nat} {v : Value} (h : W.cell? ⟨a, 0, none⟩ = some v) : a < W.heap.size := by
  unfold World.cell? at h
  cases hh : W.heap[a]? with
  | none => simp [hh] at h
  | some o => exact (Array.getElem?_eq_some_iff.1 hh).1
theorem take_snoc (s : ByteArray) (k : Nat) (h : k < s.size) : s.data.toList.take (k + 1) = s.data.toList.take k ++ [s[k]] := by
  rw [List.take_succ_eq_append_getElem (by simpa using h)]; rfl
set_option maxRecDepth 100000 in
set_option maxHeartbeats 1000000 in
theorem bytes1_in (F : Fence) (n : Nat) (hf : F.fn 265) (hro : F.round = none) (hn : 1 ≤ n) (l Bn : Nat) (s : ByteArray) (hs : s.size ≤ maxLen) (J Jx : List UInt8 → World → Prop)
    (hY : ∀ pre (x : UInt8) W, J pre W → pre.length < s.size → YieldAt F (n - 1) Tryz.prog l #[.int .u8 x.toNat] W fun e W' =>
      (e = .returned (.bool true) ∧ J (pre ++ [x]) W' ∧ Keeps [Bn] W W') ∨ (e = .returned (.bool false) ∧ Jx (pre ++ [x]) W'))
    (W : World) (hc : W.cell? ⟨Bn, 0, none⟩ = some (.string s)) (h0 : J [] W) :
    CallsIn F n Tryz.prog 265 #[.func (.yield l) #[] #[], .pointer (some ⟨Bn, 0, none⟩)] W fun e W' => (∃ v, e = .returned v) ∧
      ((∃ ys, ys = s.data.toList ∧ J ys W') ∨ (∃ pre, pre <+: s.data.toList ∧ Jx pre W')) := by
  unfold maxLen at hs
  refine callsIn_of_wp Tryz.func265 rfl hf ?_ hro
  simp only [Tryz.ntmps265, List.size_toArray, List.length_cons, List.length_nil, Nat.reduceAdd, Nat.reduceSub, Array.replicate_succ, Array.replicate_zero, List.push_toArray, List.append_toArray, List.nil_append, List.cons_append]
  gi_wp2
  gi_loopw [3] (fun p wr => ∃ k : Nat, k ≤ s.size ∧ p = .int .i64 k ∧ J (s.data.toList.take k) wr ∧ wr.cell? ⟨Bn, 0, none⟩ = some (.string s))
    (fun p _ => s.size - (intOf p).toNat)
  case atStart =>
    exact ⟨0, Nat.zero_le _, rfl, by simpa using h0, hc⟩
  case round =>
    obtain ⟨k, hk, rfl, hJ, hcr⟩ := hrel
    by_cases hlt : k < s.size
    · obtain ⟨fn, tmps, assign, body, hy, hR⟩ := hY _ s[k] wr hJ (by simp; omega)
      gi_wp2
      refine hR.mono ?_
      rintro e W3 (⟨rfl, hJ3, hk3⟩ | ⟨rfl, hJx3⟩)
      · have hc3 : W3.cell? ⟨Bn, 0, none⟩ = some (.string s) := hk3 Bn (by simp) _ hcr
        rw [← take_snoc s k hlt] at hJ3
        gi_wp2
        go_roundw
        case rel => exact ⟨k + 1, by omega, by go_num, hJ3, hc3⟩
        case measure => simp [intOf]; omega
      · gi_wp2
        refine bodyPost_ret (results_none rfl _ _ _) rfl ?_
        exact ⟨⟨_, rfl⟩, .inr ⟨_, by rw [← take_snoc s k hlt]; exact List.take_prefix _ _, hJx3⟩⟩
    · gi_wp2
      go_end0
      exact ⟨⟨_, rfl⟩, .inl ⟨_, by rw [List.take_of_length_le (by simp; omega)], hJ⟩⟩
set_option maxHeartbeats 1000000 in
theorem bytesOf_in (F : Fence) (n : Nat) (hf : F.fn 229) (hro : F.round = none) (s : ByteArray) (w : World) :
    CallsIn F n Tryz.prog 229 #[.string s] w fun e w' => e = .returned (.func (.func 265) #[] #[.pointer (some ⟨w.heap.size, 0, none⟩)]) ∧ w' = w.alloc (.cells #[.string s] 9) := by
  refine callsIn_of_wp Tryz.func229 rfl hf ?_ hro
  simp only [Tryz.ntmps229, List.size_toArray, List.length_cons, List.length_nil, Nat.reduceAdd, Nat.reduceSub, Array.replicate_succ, Array.replicate_zero, List.push_toArray, List.append_toArray, List.nil_append, List.cons_append]
  gi_wp2
  go_ret
  exact ⟨rfl, rfl⟩
theorem bytes_stops (F : Fence) (n : Nat) (hf : F.fn 265) (hro : F.round = none) (hn : 1 ≤ n) (Bn : Nat) (s : ByteArray) (hs : s.size ≤ maxLen) (w : World) (hBn : Bn < w.heap.size)
    (hc : w.cell? ⟨Bn, 0, none⟩ = some (.string s)) :
    SeqStopsK F n Tryz.prog 265 #[.pointer (some ⟨Bn, 0, none⟩)] (fun x : UInt8 => #[Value.int .u8 x.toNat]) (Keeps [Bn]) (fun ys => ys = s.data.toList) (fun pre => pre <+: s.data.toList) s.size w := fun l J Jx W hW _ _ hY h0 =>
  bytes1_in F n hf hro hn l Bn s hs J Jx hY W ((hW.cell (p := ⟨Bn, 0, none⟩) hBn).trans hc) h0
set_option maxRecDepth 100000 in
set_option maxHeartbeats 2000000 in
theorem allBytes_any (g : Nat) (T : Int → Bool) (eg : ∀ args w, (callFunc g args).run Tryz.prog w = .ok (.enter g args) w)
    (hT : ∀ (c : Int) (w : World), Calls Tryz.prog g #[.int .u8 c] w fun e w' => e = .returned (.bool (T c)) ∧ w' = w) (s : ByteArray) (hs : s.size ≤ maxLen) (w : World) :
    Calls Tryz.prog 182 #[.string s, .func (.func g) #[] #[]] w fun e W' => e = .returned (.bool (s.data.toList.all fun c => T c.toNat)) ∧ Below w.heap.size w W' := by
  refine (callsIn_wide (n := 3)).1 ?_
  refine callsIn_of_wp_marks Tryz.func182 rfl trivial ?_ rfl
  simp only [Tryz.ntmps182, List.size_toArray, List.length_cons, List.length_nil, Nat.reduceAdd, Nat.reduceSub, Array.replicate_succ, Array.replicate_zero, List.push_toArray, List.append_toArray, List.nil_append, List.cons_append]
  gi_wp2_with (refine ⟨trivial, ?_⟩; gi_at_call 229; refine (bytesOf_in Fence.wide _ trivial rfl _ _).mono ?_; rintro e w' ⟨rfl, rfl⟩)
  have c0 := cell_new_l w (.func (.func g) #[] #[]) 207
  have c1 := cell_new_l (w.alloc (.cells #[.func (.func g) #[] #[]] 207)) (.bool false) 4
  have c2 := cell_new_l ((w.alloc (.cells #[.func (.func g) #[] #[]] 207)).alloc (.cells #[.bool false] 4)) (.string s) 9
  simp only [World.size_alloc] at c1 c2
  have hB0 : Below w.heap.size w (((w.alloc (.cells #[.func (.func g) #[] #[]] 207)).alloc (.cells #[.bool false] 4)).alloc (.cells #[.string s] 9)) := (((Below.refl _ w).alloc (Nat.le_refl _) _).alloc (by simp) _).alloc (by simp; omega) _
  refine wpIn_rangeFunc_ownF rfl (by omega) (gf := 265) (lb := #[.pointer (some ⟨w.heap.size + 1 + 1, 0, none⟩)]) rfl trivial (enters_of Tryz.func265 (by kernel_rfl) rfl)
    (bytes_stops Fence.wide _ trivial rfl (by omega) (w.heap.size + 1 + 1) s hs _ (by simp) c2.1) Keeps.t (Keeps.b) (Below.refl _ _) (fun _ => rfl)
    (fun pre W => ((∀ y ∈ pre, T y.toNat = true) ∧ W.cell? ⟨w.heap.size, 0, none⟩ = some (.func (.func g) #[] #[]) ∧ W.cell? ⟨w.heap.size + 1, 0, none⟩ = some (.bool false) ∧ W.frozen? ⟨w.heap.size + 1, 0, none⟩ = false) ∧ Below w.heap.size w W)
    (fun c pre W => (c = .ret ∧ (∃ y ∈ pre, T y.toNat = false) ∧ W.cell? ⟨w.heap.size + 1, 0, none⟩ = some (.bool false)) ∧ Below w.heap.size w W)
    (OwnFrom.and (Own.from (fun s A B row hs hg hr => ⟨hs.1, cell_kept hs.2.1 hg hr, cell_kept hs.2.2.1 hg hr, (frozen_kept hs.2.2.1 hg hr).trans hs.2.2.2⟩) _) (ownFrom_below (Nat.le_refl _) (by simp; omega)))
    (fun c => OwnFrom.and (Own.from (fun s A B row hs hg hr => ⟨hs.1, hs.2.1, cell_kept hs.2.2 hg hr⟩) _) (ownFrom_below (Nat.le_refl _) (by simp; omega)))
    ⟨⟨by simp, cell_alloc_l _ (cell_alloc_l _ c0.1), cell_alloc_l _ c1.1, frozen_alloc_l _ c1.1 c1.2⟩, hB0⟩
    (fun x => { tmps := #[.string s, .func (.func g) #[] #[], undef, .pointer (some ⟨w.heap.size, 0, none⟩), .pointer (some ⟨w.heap.size + 1, 0, none⟩), .int .u8 x.toNat, .string s, .func (.func 265) #[] #[.pointer (some ⟨w.heap.size + 1 + 1, 0, none⟩)], .int .u8 x.toNat, undef, undef, undef, undef], defers := [] }) ?assign ?body ?done ?stop
  case assign =>
    intro l x W K hK
    gi_wp2
    exact hK
  case body =>
    rintro l pre x W ⟨⟨hp, hcw, hcr, hfr⟩, hB⟩ _
    cases hx : T x.toNat
    · gi_wp2
      refine ⟨trivial, (CallsIn.inRound l (callsIn_wide.2 (hT _ _))).mono ?_⟩
      rintro e w' ⟨rfl, rfl⟩
      gi_wp2
      exact ⟨KeepsOthers.setCell _ _ _, ⟨rfl, ⟨x, by simp, hx⟩, World.cell?_setCell_same' _ _ _ (by rw [hcr]; rfl)⟩, hB.setCell (p := ⟨w.heap.size + 1, 0, none⟩) (by simp) _⟩
    · gi_wp2
      refine ⟨trivial, (CallsIn.inRound l (callsIn_wide.2 (hT _ _))).mono ?_⟩
      rintro e w' ⟨rfl, rfl⟩
      gi_wp2
      exact ⟨KeepsOthers.refl _, Keeps.refl _ _, ⟨fun y hy => (List.mem_append.1 hy).elim (hp y) (fun e => by simp at e; subst e; exact hx), hcw, hcr, hfr⟩, hB⟩
  case done =>
    rintro D ys W hD rfl ⟨⟨hne, _, hcr, hfr⟩, hB⟩ hK
    gi_wp2
    have hK' := (KeepsOthers.setCell W ⟨w.heap.size + 1, 0, none⟩ (.bool true)).same D _ hK rfl
    refine ⟨by simp, .inl ⟨_, _, rfl, run_takeDeferred hK', ?_⟩⟩
    have hc5 := cell_kept (World.cell?_setCell_same' W ⟨w.heap.size + 1, 0, none⟩ (.bool true) (by rw [hcr]; rfl)) (grownBy_putObj' _ D (.deferred none)) (fun r e => by cases e; exact ⟨_, hK', rfl⟩)
    refine ⟨.bool true, ?_, by rw [List.all_eq_true.2 hne], (hB.setCell (p := ⟨w.heap.size + 1, 0, none⟩) (by simp) _).trans (belowK_b (w := w) (Nat.le_refl _) _ D _ _ (by simp at hD; omega) hK' rfl rfl)⟩
    simp [results, Tryz.f182, go_sem, hc5]
  case stop =>
    rintro D c pre W hD hpre ⟨⟨rfl, ⟨y, hy, hfy⟩, hcr⟩, hB⟩ hK
    gi_wp2
    refine ⟨by simp, .inl ⟨_, _, rfl, run_takeDeferred hK, ?_⟩⟩
    have hc5 := cell_kept hcr (grownBy_putObj' _ D (.deferred none)) (fun r e => by cases e; exact ⟨_, hK, rfl⟩)
    refine ⟨.bool false, ?_, by rw [List.all_eq_false.2 ⟨y, hpre.subset hy, by simp [hfy]⟩], hB.trans (belowK_b (w := w) (Nat.le_refl _) W D _ _ (by simp at hD; omega) hK rfl rfl)⟩
    simp [results, Tryz.f182, go_sem, hc5]
end Go.Proofs.YtoihhlkidlapmaaGreat

namespace Go.Proofs.YtoihhlkidlapmaaGreat
open Go.RowKit Go.Shelf
def TxtsAt (W : World) (a : Option Addr) (xs : List ByteArray) : Prop := xs = [] ∨ ∃ b o, a = some ⟨b, o, .none⟩ ∧ b < W.heap.size ∧ ∀ (i : Nat) x, xs[i]? = some x → W.cell? ⟨b, o + i, .none⟩ = some (.string x)
theorem TxtsAt.below {W W' : World} {a : Option Addr} {xs : List ByteArray} (h : TxtsAt W a xs) (hb : Below W.heap.size W W') : TxtsAt W' a xs := by
  rcases h with h | ⟨b, o, rfl, hl, hc⟩
  · exact .inl h
  · exact .inr ⟨b, o, rfl, Nat.lt_of_lt_of_le hl hb.size, fun i x hi => (hb.cell (p := ⟨b, o + i, .none⟩) hl).trans (hc i x hi)⟩
theorem TxtsAt.get {W : World} {a : Option Addr} {xs : List ByteArray} (h : TxtsAt W a xs) (hne : xs ≠ []) : ∃ b o, a = some ⟨b, o, .none⟩ ∧ b < W.heap.size ∧ ∀ (i : Nat) x, xs[i]? = some x → W.cell? ⟨b, o + i, .none⟩ = some (.string x) := h.resolve_left hne
end Go.Proofs.YtoihhlkidlapmaaGreat

namespace Go.Proofs.YtoihhlkidlapmaaGreat
open Go.RowKit
structure Kind where
  D : Type
  own : World → Value → D → List Nat → Prop
  frame : ∀ {W W' : World} {v : Value} {d : D} {F : List Nat}, own W v d F → (∀ k ∈ F, W'.heap[k]? = W.heap[k]?) → own W' v d F
  lt : ∀ {W : World} {v : Value} {d : D} {F : List Nat}, own W v d F → ∀ k ∈ F, k < W.heap.size
end Go.Proofs.YtoihhlkidlapmaaGreat

namespace Go.Proofs.YtoihhlkidlapmaaGreat
open Go.RowKit Go.Shelf
def mdig : Nat → Nat → List UInt8 → List UInt8
  | 0, _, acc => acc
  | f + 1, k, acc => if k = 0 then acc else mdig f (k / 10) (UInt8.ofNat (48 + k % 10) :: acc)
def mtext (k : Nat) : ByteArray := ⟨(109 :: mdig 20 k []).toArray⟩
end Go.Proofs.YtoihhlkidlapmaaGreat

namespace Go.Proofs.YtoihhlkidlapmaaGreat
open Go.RowKit
structure CK where
  D : Type
  n : Nat
  own : World → List Value → D → List Nat → Prop
  at_ : World → List Value → D → Prop
  mark : Nat → D → D
  cnt : D → Nat
  sz : D → Nat
  big : D → Prop
  len : ∀ {W : World} {cs : List Value} {d : D} {F : List Nat}, own W cs d F → cs.length = n
  alen : ∀ {W : World} {cs : List Value} {d : D}, at_ W cs d → cs.length = n
  frame : ∀ {W W' : World} {cs : List Value} {d : D} {F : List Nat}, own W cs d F → (∀ k ∈ F, W'.heap[k]? = W.heap[k]?) → own W' cs d F
  lt : ∀ {W : World} {cs : List Value} {d : D} {F : List Nat}, own W cs d F → ∀ k ∈ F, k < W.heap.size
  nodup : ∀ {W : World} {cs : List Value} {d : D} {F : List Nat}, own W cs d F → F.Nodup
  below : ∀ {W W' : World} {cs : List Value} {d : D}, at_ W cs d → Below W.heap.size W W' → at_ W' cs d
  toAt : ∀ {W : World} {cs : List Value} {d : D} {F : List Nat}, own W cs d F → at_ W cs d
def txtC : CK where
  D := ByteArray
  n := 1
  own := fun _ cs x F => cs = [.string x] ∧ F = []
  at_ := fun _ cs x => cs = [.string x]
  mark := fun q _ => mtext q
  cnt := fun _ => 1
  sz := fun x => x.size
  big := fun x => x.size ≤ maxLen
  len := fun h => by rw [h.1]; rfl
  alen := fun h => by rw [h]; rfl
  frame := fun h _ => h
  lt := fun h k hk => by rw [h.2] at hk; cases hk
  nodup := fun h => by rw [h.2]; exact List.nodup_nil
  below := fun h _ => h
  toAt := fun h => h.1
def intC : CK where
  D := Int
  n := 1
  own := fun _ cs x F => cs = [.int .i64 x] ∧ F = []
  at_ := fun _ cs x => cs = [.int .i64 x]
  mark := fun q _ => (q : Int)
  cnt := fun _ => 1
  sz := fun _ => 0
  big := fun x => -9223372036854775808 ≤ x ∧ x ≤ 9223372036854775807
  len := fun h => by rw [h.1]; rfl
  alen := fun h => by rw [h]; rfl
  frame := fun h _ => h
  lt := fun h k hk => by rw [h.2] at hk; cases hk
  nodup := fun h => by rw [h.2]; exact List.nodup_nil
  below := fun h _ => h
  toAt := fun h => h.1
def pairC (a b : CK) : CK where
  D := a.D × b.D
  n := a.n + b.n
  own := fun W cs d F => ∃ c1 c2 F1 F2, cs = c1 ++ c2 ∧ F = F1 ++ F2 ∧ a.own W c1 d.1 F1 ∧ b.own W c2 d.2 F2 ∧ ∀ k ∈ F1, k ∉ F2
  at_ := fun W cs d => ∃ c1 c2, cs = c1 ++ c2 ∧ a.at_ W c1 d.1 ∧ b.at_ W c2 d.2
  mark := fun q d => (a.mark q d.1, b.mark (q + a.cnt d.1) d.2)
  cnt := fun d => a.cnt d.1 + b.cnt d.2
  sz := fun d => a.sz d.1 + b.sz d.2
  big := fun d => a.big d.1 ∧ b.big d.2
  len := fun h => by obtain ⟨c1, c2, F1, F2, rfl, rfl, h1, h2, _⟩ := h; rw [List.length_append, a.len h1, b.len h2]
  alen := fun h => by obtain ⟨c1, c2, rfl, h1, h2⟩ := h; rw [List.length_append, a.alen h1, b.alen h2]
  frame := fun h hf => by
    obtain ⟨c1, c2, F1, F2, rfl, rfl, h1, h2, hd⟩ := h
    exact ⟨c1, c2, F1, F2, rfl, rfl, a.frame h1 (fun k hk => hf k (List.mem_append.2 (.inl hk))), b.frame h2 (fun k hk => hf k (List.mem_append.2 (.inr hk))), hd⟩
  lt := fun h k hk => by
    obtain ⟨c1, c2, F1, F2, rfl, rfl, h1, h2, hd⟩ := h
    rcases List.mem_append.1 hk with hk | hk
    · exact a.lt h1 k hk
    · exact b.lt h2 k hk
  nodup := fun h => by
    obtain ⟨c1, c2, F1, F2, rfl, rfl, h1, h2, hd⟩ := h
    exact List.nodup_append.2 ⟨a.nodup h1, b.nodup h2, fun x hx y hy e => hd x hx (e ▸ hy)⟩
  below := fun h hb => by obtain ⟨c1, c2, e, h1, h2⟩ := h; exact ⟨c1, c2, e, a.below h1 hb, b.below h2 hb⟩
  toAt := fun h => by obtain ⟨c1, c2, F1, F2, e, _, h1, h2, _⟩ := h; exact ⟨c1, c2, e, a.toAt h1, b.toAt h2⟩
def isoC (K : CK) (T : Type) (f : T → K.D) (g : K.D → T) : CK where
  D := T
  n := K.n
  own := fun W cs t F => K.own W cs (f t) F
  at_ := fun W cs t => K.at_ W cs (f t)
  mark := fun q t => g (K.mark q (f t))
  cnt := fun t => K.cnt (f t)
  sz := fun t => K.sz (f t)
  big := fun t => K.big (f t)
  len := K.len
  alen := K.alen
  frame := K.frame
  lt := K.lt
  nodup := K.nodup
  below := K.below
  toAt := K.toAt
def rowAt (K : CK) (W : World) (v : Value) (ds : List K.D) : Prop := ∃ (a : Option Addr) (cap : Nat), v = .slice a ds.length cap ∧ (a = none → cap = 0) ∧ ds.length ≤ cap ∧
  (ds = [] ∨ ∃ b o, a = some ⟨b, o, none⟩ ∧ b < W.heap.size ∧ ∀ (i : Nat) d, ds[i]? = some d → ∃ cs, K.at_ W cs d ∧ ∀ j c, cs[j]? = some c → W.cell? ⟨b, o + i * K.n + j, none⟩ = some c)
theorem rowAt.below {K : CK} {W W' : World} {v : Value} {ds : List K.D} (h : rowAt K W v ds) (hb : Below W.heap.size W W') : rowAt K W' v ds := by
  obtain ⟨a, cap, hv, hn, hc, h⟩ := h
  refine ⟨a, cap, hv, hn, hc, ?_⟩
  rcases h with h | ⟨b, o, ha, hl, he⟩
  · exact .inl h
  · refine .inr ⟨b, o, ha, Nat.lt_of_lt_of_le hl hb.size, fun i d hi => ?_⟩
    obtain ⟨cs, h1, h2⟩ := he i d hi
    exact ⟨cs, K.below h1 hb, fun j c hj => (hb.cell (p := ⟨b, o + i * K.n + j, none⟩) hl).trans (h2 j c hj)⟩
structure RowAll (K : CK) (ty : Nat) (W : World) (g : Nat) (ds : List K.D) (cur : Array Value) (Fs : List (List Nat)) : Prop where
  heap : W.heap[g]? = some (.cells cur ty (0, 0))
  size : ds.length * K.n ≤ cur.size
  len : Fs.length = ds.length
  each : ∀ (i : Nat) d, ds[i]? = some d → ∃ cs Fi, Fs[i]? = some Fi ∧ (∀ (j : Nat) c, cs[j]? = some c → cur[i * K.n + j]? = some c) ∧ K.own W cs d Fi
def rowOwn (K : CK) (ty : Nat) (W : World) (v : Value) (ds : List K.D) (F : List Nat) : Prop := (ds = [] ∧ F = [] ∧ ∃ a c, v = .slice a 0 c ∧ (a = none → c = 0)) ∨
  ∃ g cap cur Fs, v = .slice (some ⟨g, 0, none⟩) ds.length cap ∧ ds.length ≤ cap ∧ F = g :: Fs.flatten ∧ F.Nodup ∧ RowAll K ty W g ds cur Fs
theorem mem_flatS {Fs : List (List Nat)} {i : Nat} {Fi : List Nat} (h : Fs[i]? = some Fi) {k : Nat} (hk : k ∈ Fi) : k ∈ Fs.flatten := List.mem_flatten.2 ⟨Fi, List.mem_of_getElem? h, hk⟩
theorem RowAll.frame {K : CK} {ty : Nat} {W W' : World} {g : Nat} {ds : List K.D} {cur : Array Value} {Fs : List (List Nat)} (h : RowAll K ty W g ds cur Fs) (hf : ∀ k ∈ g :: Fs.flatten, W'.heap[k]? = W.heap[k]?) : RowAll K ty W' g ds cur Fs :=
  ⟨(hf g (by simp)).trans h.heap, h.size, h.len, fun i x hi => by
    obtain ⟨cs, Fi, h1, h2, h3⟩ := h.each i x hi
    exact ⟨cs, Fi, h1, h2, K.frame h3 (fun k hk => hf k (List.mem_cons_of_mem _ (mem_flatS h1 hk)))⟩⟩
theorem RowAll.lt {K : CK} {ty : Nat} {W : World} {g : Nat} {ds : List K.D} {cur : Array Value} {Fs : List (List Nat)} (h : RowAll K ty W g ds cur Fs) : ∀ k ∈ g :: Fs.flatten, k < W.heap.size := by
  intro k hk
  rcases List.mem_cons.1 hk with rfl | hk
  · exact (Array.getElem?_eq_some_iff.1 h.heap).1
  · obtain ⟨Fi, hF, hk⟩ := List.mem_flatten.1 hk
    obtain ⟨i, hi⟩ := List.getElem?_of_mem hF
    have hl : i < ds.length := by rw [← h.len]; exact (List.getElem?_eq_some_iff.1 hi).1
    obtain ⟨cs, Fi', h1, _, h3⟩ := h.each i ds[i] (List.getElem?_eq_getElem hl)
    rw [hi] at h1
    cases h1
    exact K.lt h3 k hk
theorem rowOwn.frame {K : CK} {ty : Nat} {W W' : World} {v : Value} {ds : List K.D} {F : List Nat} (h : rowOwn K ty W v ds F) (hf : ∀ k ∈ F, W'.heap[k]? = W.heap[k]?) : rowOwn K ty W' v ds F := by
  rcases h with h | ⟨g, cap, cur, Fs, hv, hc, rfl, hn, ha⟩
  · exact .inl h
  · exact .inr ⟨g, cap, cur, Fs, hv, hc, rfl, hn, ha.frame hf⟩
theorem rowOwn.lt {K : CK} {ty : Nat} {W : World} {v : Value} {ds : List K.D} {F : List Nat} (h : rowOwn K ty W v ds F) : ∀ k ∈ F, k < W.heap.size := by
  rcases h with ⟨_, rfl, _⟩ | ⟨g, cap, cur, Fs, hv, hc, rfl, hn, ha⟩
  · intro k hk; cases hk
  · exact ha.lt
theorem cell_arrS {W : World} {g T : Nat} {cur : Array Value} {fz : Nat × Nat} (hh : W.heap[g]? = some (.cells cur T fz)) (i : Nat) (v : Value) (hv : cur[i]? = some v) : W.cell? ⟨g, i, none⟩ = some v := by simp [World.cell?, hh, hv]
theorem rowOwn.toAt {K : CK} {ty : Nat} {W : World} {v : Value} {ds : List K.D} {F : List Nat} (h : rowOwn K ty W v ds F) : rowAt K W v ds := by
  rcases h with ⟨rfl, _, a, c, hv, hn⟩ | ⟨g, cap, cur, Fs, hv, hc, rfl, hn, ha⟩
  · exact ⟨a, c, hv, hn, Nat.zero_le _, .inl rfl⟩
  · refine ⟨_, cap, hv, fun e => (by cases e), hc, .inr ⟨g, 0, rfl, (Array.getElem?_eq_some_iff.1 ha.heap).1, fun i x hi => ?_⟩⟩
    obtain ⟨cs, Fi, h1, h2, h3⟩ := ha.each i x hi
    exact ⟨cs, K.toAt h3, fun j c hj => by rw [Nat.zero_add]; exact cell_arrS ha.heap _ _ (h2 j c hj)⟩
theorem rowOwn.nodup {K : CK} {ty : Nat} {W : World} {v : Value} {ds : List K.D} {F : List Nat} (h : rowOwn K ty W v ds F) : F.Nodup := by
  rcases h with ⟨_, rfl, _⟩ | ⟨g, cap, cur, Fs, hv, hc, rfl, hn, ha⟩
  · exact List.nodup_nil
  · exact hn
def markR (K : CK) : Nat → List K.D → List K.D
  | _, [] => []
  | q, d :: ds => K.mark q d :: markR K (q + K.cnt d) ds
def cntR (K : CK) : List K.D → Nat
  | [] => 0
  | d :: ds => K.cnt d + cntR K ds
def szR (K : CK) : List K.D → Nat
  | [] => 0
  | d :: ds => K.sz d + szR K ds
def rowC (K : CK) (ty : Nat) : CK where
  D := List K.D
  n := 1
  own := fun W cs ds F => ∃ v, cs = [v] ∧ rowOwn K ty W v ds F
  at_ := fun W cs ds => ∃ v, cs = [v] ∧ rowAt K W v ds
  mark := markR K
  cnt := cntR K
  sz := fun ds => ds.length + szR K ds
  big := fun ds => ds.length ≤ maxLen ∧ ∀ d ∈ ds, K.big d
  len := fun ⟨_, h, _⟩ => by rw [h]; rfl
  alen := fun ⟨_, h, _⟩ => by rw [h]; rfl
  frame := fun ⟨v, h, h2⟩ hf => ⟨v, h, h2.frame hf⟩
  lt := fun ⟨_, _, h2⟩ => h2.lt
  nodup := fun ⟨_, _, h2⟩ => h2.nodup
  below := fun ⟨v, h, h2⟩ hb => ⟨v, h, h2.below hb⟩
  toAt := fun ⟨v, h, h2⟩ => ⟨v, h, h2.toAt⟩
end Go.Proofs.YtoihhlkidlapmaaGreat

namespace Go.Proofs.YtoihhlkidlapmaaGreat
open Go.RowKit
structure BW (B : Nat) (W : World) where
  w : World
  h : Below B W w
theorem BW.all {B : Nat} {W : World} {p : Prop} : (BW B W → p) ↔ p := ⟨fun h => h ⟨W, Below.refl _ _⟩, fun h _ => h⟩
theorem BW.cell {B : Nat} {W : World} {b o : Nat} {v : Value} (hb : b < B) (h : W.cell? ⟨b, o, none⟩ = some v) (x : BW B W) : x.w.cell? ⟨b, o, none⟩ = some v := (x.h.cell (p := ⟨b, o, none⟩) hb).trans h
theorem Calls.bw {P : Program} {f : FuncId} {args : Array Value} {v : Value} {B : Nat} {W : World} {x : BW B W} (hB : B ≤ W.heap.size) (h : Calls P f args x.w fun e w' => e = .returned v ∧ Below x.w.heap.size x.w w') :
    Calls P f args x.w fun e w'' => e = .returned v ∧ ∃ y : BW B W, w'' = y.w :=
  h.mono fun _ w' ⟨he, hb⟩ => ⟨he, ⟨w', x.h.trans (hb.mono (Nat.le_trans hB x.h.size))⟩, rfl⟩
theorem calm_region {P : Program} {id : Nat} {Q : Exit → Act → World → Prop} {a : Act} {w : World} {l : List Oper} (B : Nat) (hm : P.follows .mixedOrders = true) (hB : Region.lexB .any l.toArray = true)
    (h : wpQuiet P l.toArray (fun w' => ∃ x : BW B w, w' = x.w) (fun a' => ∀ w', (∃ x : BW B w, w' = x.w) → Q .normal a' w') l a) : (Code.region id l.toArray true).wp P Q a w :=
  wp_region_quiet (C := fun w' => ∃ x : BW B w, w' = x.w) hm hB ⟨⟨w.drew, ⟨rfl, rfl, rfl, Nat.le_refl _, fun _ _ => rfl⟩⟩, rfl⟩ (by simpa using h)
structure CW (C : World → Prop) where
  w : World
  h : C w
theorem CW.all {C : World → Prop} {W : World} (h : C W) {p : Prop} : (CW C → p) ↔ p := ⟨fun f => f ⟨W, h⟩, fun h _ => h⟩
theorem Calls.cw {P : Program} {f : FuncId} {args : Array Value} {v : Value} {C : World → Prop} {x : CW C} (h : Calls P f args x.w fun e w' => e = .returned v ∧ C w') :
    Calls P f args x.w fun e w'' => e = .returned v ∧ ∃ y : CW C, w'' = y.w :=
  h.mono fun _ w' ⟨he, hc⟩ => ⟨he, ⟨w', hc⟩, rfl⟩
theorem class_region {P : Program} {id : Nat} {Q : Exit → Act → World → Prop} {a : Act} {w : World} {l : List Oper} (C : World → Prop) (hC : C w.drew) (hm : P.follows .mixedOrders = true) (hB : Region.lexB .any l.toArray = true)
    (h : wpQuiet P l.toArray (fun w' => ∃ x : CW C, w' = x.w) (fun a' => ∀ w', (∃ x : CW C, w' = x.w) → Q .normal a' w') l a) : (Code.region id l.toArray true).wp P Q a w :=
  wp_region_quiet (C := fun w' => ∃ x : CW C, w' = x.w) hm hB ⟨⟨w.drew, hC⟩, rfl⟩ (by simpa using h)
end Go.Proofs.YtoihhlkidlapmaaGreat

namespace Go.Proofs.YtoihhlkidlapmaaGreat
open Go.RowKit
theorem not_app {k : Nat} {F G : List Nat} (h : k ∉ F) (h2 : k ∉ G) : k ∉ F ++ G := fun e => by
  rcases List.mem_append.1 e with e | e
  · exact h e
  · exact h2 e
theorem three_boxes (w : World) (p r o : Obj) : (((w.alloc p).alloc r).alloc o).heap[w.heap.size]? = some p ∧ (((w.alloc p).alloc r).alloc o).heap[w.heap.size + 1]? = some r ∧ (((w.alloc p).alloc r).alloc o).heap[w.heap.size + 1 + 1]? = some o ∧ w.heap.size + 1 + 1 < (((w.alloc p).alloc r).alloc o).heap.size ∧ Below w.heap.size w (((w.alloc p).alloc r).alloc o) := by
  have s1 : (w.alloc p).heap.size = w.heap.size + 1 := by simp
  have s2 : ((w.alloc p).alloc r).heap.size = w.heap.size + 1 + 1 := by simp
  have b1 := (Below.refl (w.alloc p).heap.size (w.alloc p)).alloc (Nat.le_refl _) r
  have b2 := (Below.refl ((w.alloc p).alloc r).heap.size ((w.alloc p).alloc r)).alloc (Nat.le_refl _) o
  have n0 := World.alloc_heap_new w p
  have n1 := World.alloc_heap_new (w.alloc p) r
  have n2 := World.alloc_heap_new ((w.alloc p).alloc r) o
  rw [s1] at n1
  rw [s2] at n2
  refine ⟨?_, ?_, n2, by simp, (((Below.refl _ w).alloc (Nat.le_refl _) p).alloc (by simp) r).alloc (by simp; omega) o⟩
  · rw [b2.block _ (by omega), b1.block _ (by omega)]; exact n0
  · rw [b2.block _ (by omega)]; exact n1
theorem cell_fz {W : World} {g T : Nat} {cur : Array Value} (hh : W.heap[g]? = some (.cells cur T (0, 0))) (i : Nat) (v : Value) (hv : cur[i]? = some v) : W.cell? ⟨g, i, none⟩ = some v ∧ W.frozen? ⟨g, i, none⟩ = false := ⟨cell_arrS hh i v hv, by simp [World.frozen?, hh]⟩
theorem rowOwn.slice {K : CK} {ty : Nat} {W : World} {v : Value} {ds : List K.D} {F : List Nat} (h : rowOwn K ty W v ds F) : ∃ a c, v = .slice a ds.length c := by
  rcases h with ⟨rfl, _, a, c, hv, _⟩ | ⟨g, cap, cur, Fs, hv, _⟩
  · exact ⟨a, c, hv⟩
  · exact ⟨_, cap, hv⟩
def setsA : Array Value → Nat → List Value → Array Value
  | cur, _, [] => cur
  | cur, o, v :: l => setsA (cur.setIfInBounds o v) (o + 1) l
def setsW : World → Nat → Nat → List Value → World
  | w, _, _, [] => w
  | w, g, o, v :: l => setsW (w.setCell ⟨g, o, none⟩ v) g (o + 1) l
theorem setsA_size : ∀ (l : List Value) (cur : Array Value) (o : Nat), (setsA cur o l).size = cur.size
  | [], _, _ => rfl
  | v :: l, cur, o => by rw [setsA, setsA_size l, Array.size_setIfInBounds]
theorem setsA_off : ∀ (l : List Value) (cur : Array Value) (o j : Nat), (j < o ∨ o + l.length ≤ j) → (setsA cur o l)[j]? = cur[j]?
  | [], _, _, _, _ => rfl
  | v :: l, cur, o, j, h => by
    simp only [List.length_cons] at h
    rw [setsA, setsA_off l _ _ _ (by omega), Array.getElem?_setIfInBounds, if_neg (by omega)]
theorem setsA_at : ∀ (l : List Value) (cur : Array Value) (o : Nat) (_ : o + l.length ≤ cur.size) (j : Nat) (c : Value), l[j]? = some c → (setsA cur o l)[o + j]? = some c
  | [], _, _, _, _, _, e => by cases e
  | v :: l, cur, o, h, 0, c, e => by
    simp only [List.length_cons] at h
    simp at e; subst e
    rw [setsA, setsA_off l _ _ _ (by omega), Array.getElem?_setIfInBounds, if_pos (by omega), if_pos (by omega)]
  | v :: l, cur, o, h, j + 1, c, e => by
    simp only [List.length_cons] at h
    have := setsA_at l (cur.setIfInBounds o v) (o + 1) (by rw [Array.size_setIfInBounds]; omega) j c (by simpa using e)
    rw [setsA, show o + (j + 1) = o + 1 + j by omega]
    exact this
theorem setsW_heap : ∀ (l : List Value) (w : World) (g o : Nat) (cur : Array Value) (ty : Nat), w.heap[g]? = some (.cells cur ty (0, 0)) → (setsW w g o l).heap[g]? = some (.cells (setsA cur o l) ty (0, 0))
  | [], _, _, _, _, _, h => h
  | v :: l, w, g, o, cur, ty, h => setsW_heap l _ g (o + 1) _ ty (heap_setCell_same w g o cur ty v h)
theorem setsW_off : ∀ (l : List Value) (w : World) (g o j : Nat), j ≠ g → (setsW w g o l).heap[j]? = w.heap[j]?
  | [], _, _, _, _, _ => rfl
  | _ :: l, _, g, o, j, h => (setsW_off l _ g (o + 1) j h).trans (Below.heap_setCell _ _ _ _ h)
theorem setsW_below : ∀ (l : List Value) (a w : World) (N g o : Nat), Below N a w → N ≤ g → Below N a (setsW w g o l)
  | [], _, _, _, _, _, h, _ => h
  | v :: l, a, _, N, g, o, h, hg => setsW_below l a _ N g (o + 1) (h.setCell hg v) hg
theorem drew_belowS {B : Nat} (w : World) : Below B w w.drew := ⟨rfl, rfl, rfl, Nat.le_refl _, fun _ _ => rfl⟩
theorem two_boxes (w : World) (p r : Obj) : ((w.alloc p).alloc r).heap[w.heap.size]? = some p ∧ ((w.alloc p).alloc r).heap[w.heap.size + 1]? = some r ∧ w.heap.size + 1 < ((w.alloc p).alloc r).heap.size := by
  have s1 : (w.alloc p).heap.size = w.heap.size + 1 := by simp
  have b1 := (Below.refl (w.alloc p).heap.size (w.alloc p)).alloc (Nat.le_refl _) r
  have n0 := World.alloc_heap_new w p
  have n1 := World.alloc_heap_new (w.alloc p) r
  rw [s1] at n1
  refine ⟨?_, n1, by simp⟩
  rw [b1.block _ (by omega)]; exact n0
theorem rowAt.slice {K : CK} {W : World} {v : Value} {ds : List K.D} (h : rowAt K W v ds) : ∃ a c, v = .slice a ds.length c ∧ (a = none → c = 0) := by
  obtain ⟨a, c, hv, hn, _⟩ := h
  exact ⟨a, c, hv, hn⟩
end Go.Proofs.YtoihhlkidlapmaaGreat

namespace Go.Proofs.YtoihhlkidlapmaaGreat
open Go.RowKit
def plainOp (o : Oper) : Bool := match o.op with
  | .move _ | .assign _ | .load .. | .binOp .. | .unOp .. | .convert .. | .fieldAddr .. | .field .. | .indexAddr .. | .index .. | .slice .. | .extract .. | .build .. | .makeInterface .. | .typeAssert .. | .pick .. | .nilCheck .. => true
  | .call c => match c.callee with
    | .builtin .len => true
    | .builtin .min => true
    | .builtin .max => true
    | _ => false
  | _ => false
theorem val_only {P : Program} {s : Sem Value} {w w' : World} {n : Next} (h : (do let x ← s; pure (Next.value x) : Sem Next).run P w = .ok n w') : ∃ u, n = .value u := by
  rw [Sem.run_bind] at h
  generalize s.run P w = r at h
  cases r with
  | ok a w1 => simp only [Result.andThen_ok, Sem.run_pure] at h; cases h; exact ⟨_, rfl⟩
  | halt x w1 => simp at h
theorem plain_value {P : Program} {o : Oper} {ρ : Operand → Value} {w w' : World} {n : Next} (hp : plainOp o = true) (h : (execOp ρ o).run P w = .ok n w') : ∃ u, n = .value u := by
  unfold plainOp at hp
  unfold execOp at h
  cases ho : o.op <;> rw [ho] at hp h <;> first | (cases hp; done) | skip
  case move x => simp only [Sem.run_pure] at h; cases h; exact ⟨_, rfl⟩
  case assign x => simp only [Sem.run_pure] at h; cases h; exact ⟨_, rfl⟩
  case pick c x y =>
    simp only [Sem.run_bind] at h
    generalize Sem.run P _ w = r at h
    cases r with
    | ok a w1 => simp only [Result.andThen_ok, Sem.run_pure] at h; cases h; exact ⟨_, rfl⟩
    | halt x w1 => simp at h
  case nilCheck x =>
    dsimp only at h
    split at h
    · simp [runtimePanic] at h
    · simp [runtimePanic] at h
    · simp [runtimePanic] at h
    · split at h
      · simp [runtimePanic] at h
      · simp only [Sem.run_bind] at h
        generalize Sem.run P program w = r at h
        cases r with
        | halt x w1 => simp at h
        | ok a w1 =>
          simp only [Result.andThen_ok] at h
          generalize Sem.run P (nilAhead _ _ _ _) w1 = r at h
          cases r with
          | halt x w1 => simp at h
          | ok a w1 =>
            simp only [Result.andThen_ok] at h
            split at h
            · simp [unsupported] at h
            · simp only [Sem.run_pure] at h; cases h; exact ⟨_, rfl⟩
      · simp only [Sem.run_pure] at h; cases h; exact ⟨_, rfl⟩
    · simp only [Sem.run_pure] at h; cases h; exact ⟨_, rfl⟩
  case call c =>
    obtain ⟨ce, ar, ty⟩ := c
    cases ce with
    | value f => cases hp
    | invoke r m => cases hp
    | builtin b =>
      cases b <;> first | (cases hp; done) | skip
      all_goals
        simp only [resolve, Sem.run_bind, Sem.run_pure, Result.andThen_ok, invoke, builtin] at h
        generalize Sem.run P _ w = r at h
        cases r with
        | ok a w1 => simp only [Result.andThen_ok] at h; cases h; exact ⟨_, rfl⟩
        | halt x w1 => simp at h
  all_goals exact val_only h
def pick : List Oper → List Bool → List Oper
  | o :: l, true :: bs => o :: pick l bs
  | _ :: l, false :: bs => pick l bs
  | _, _ => []
def maskIx : Nat → List Bool → List Nat
  | k, true :: bs => k :: maskIx (k + 1) bs
  | k, false :: bs => maskIx (k + 1) bs
  | _, [] => []
def markAll : List Nat → Array Bool → Array Bool
  | [], l => l
  | i :: is, l => markAll is (l.setIfInBounds i true)
def heldB (md : Region.Mode) (ops : Array Oper) : List Nat → Array Bool → Bool
  | [], _ => true
  | i :: is, listed => (Region.ready md ops listed).contains i && Region.free md ops listed i && ((ops[i]?).map plainOp).getD false && heldB md ops is (listed.setIfInBounds i true)
theorem pick_ix (l : List Oper) : ∀ (l' : List Oper) (m : List Bool) (k : Nat), m.length ≤ l'.length → (∀ j, l'[j]? = l[k + j]?) → (maskIx k m).map (fun i => l.toArray[i]?) = (pick l' m).map some
  | _, [], _, _, _ => by cases ‹List Oper› <;> rfl
  | [], b :: m, _, h, _ => by simp at h
  | o :: l', true :: m, k, h, hl => by
    have h0 : l[k]? = some o := by simpa using (hl 0).symm
    simp only [maskIx, pick, List.map_cons]
    rw [pick_ix l l' m (k + 1) (by simpa using h) (fun j => by have := hl (j + 1); simpa [Nat.add_assoc, Nat.add_comm 1 j] using this)]
    simp [h0]
  | o :: l', false :: m, k, h, hl => by
    simp only [maskIx, pick]
    exact pick_ix l l' m (k + 1) (by simpa using h) (fun j => by have := hl (j + 1); simpa [Nat.add_assoc, Nat.add_comm 1 j] using this)
theorem yieldsIf_quiet {P : Program} {ops : Array Oper} {S : World → Prop} {o : Oper} {a : Act} {K : Act → Prop} (hp : plainOp o = true) (h : if Region.wanted o (yielded ops a.tmps) then o.quiet P a S K else K (a.put o.dst undef)) : ∃ v, YieldsIf P ops S o v a ∧ K (a.put o.dst v) := by
  split at h
  · rename_i hw
    obtain ⟨v, h1, h2⟩ := h
    refine ⟨v, .inl ⟨hw, fun w hS => ?_⟩, h2⟩
    have h3 := h1 w hS
    unfold Oper.quietAt at h3
    generalize hr : (execOp a.eval o).run P w = r at h3
    cases r with
    | ok n w' =>
      obtain ⟨u, rfl⟩ := plain_value hp hr
      simp only [Oper.quietUpon] at h3
      obtain ⟨rfl, rfl⟩ := h3
      rfl
    | halt x w' => simp only [Oper.quietUpon] at h3
  · rename_i hw
    exact ⟨undef, .inr ⟨by simpa using hw, rfl⟩, h⟩
theorem held_same {P : Program} {md : Region.Mode} {ops : Array Oper} {Q : Exit → Act → World → Prop} {S : World → Prop} (hs : Region.noSelect ops = true) (hQ : ∀ c a t v w, Q (.panic c) (Act.put a (some t) v) w → Q (.panic c) a w) (fuel : Nat) : ∀ (is : List Nat) (l : List Oper) (listed : Array Bool) (a : Act) (w : World), is.map (fun i => ops[i]?) = l.map some → heldB md ops is listed = true → S w →
    wpQuiet P ops S (fun a' => wpAnyH P md ops Q S fuel (markAll is listed) a' w) l a → wpAnyH P md ops Q S (is.length + fuel) listed a w
  | [], [], listed, a, w, _, _, _, h => by rw [List.length_nil, Nat.zero_add]; exact h
  | [], _ :: _, _, _, _, e, _, _, _ => by cases e
  | _ :: _, [], _, _, _, e, _, _, _ => by cases e
  | i :: is, o :: l, listed, a, w, e, hB, hS, h => by
    simp only [List.map_cons, List.cons.injEq] at e
    simp only [heldB, Bool.and_eq_true] at hB
    obtain ⟨⟨⟨h1, h2⟩, h3⟩, h4⟩ := hB
    rw [e.1] at h3
    obtain ⟨v, hy, hK⟩ := yieldsIf_quiet (by simpa using h3) h
    rw [show (i :: is).length + fuel = (is.length + fuel) + 1 by simp; omega]
    exact wpAnyH_take e.1 hs h2 h1 (fun c a w hq => by cases hd : o.dst with | none => rw [hd] at hq; exact hq | some t => rw [hd] at hq; exact hQ _ _ _ _ _ hq) hy hS (held_same hs hQ fuel is l _ _ w e.2 h4 hS hK)
theorem held_begin {P : Program} {id : Nat} {Q : Exit → Act → World → Prop} {a : Act} {w : World} {l : List Oper} (C : World → Prop) (hm : P.follows .mixedOrders = true) (hC : C w.drew)
    (h : wpAnyH P .any l.toArray Q (fun w' => ∃ x : CW C, w' = x.w) l.length (Array.replicate l.length false) a w.drew) : (Code.region id l.toArray true).wp P Q a w :=
  wp_region_held_drew (S := fun w' => ∃ x : CW C, w' = x.w) hm ⟨⟨_, hC⟩, rfl⟩ (fun _ => by simpa using h)
theorem held_here {P : Program} {md : Region.Mode} {Q : Exit → Act → World → Prop} {C : World → Prop} {F : Nat} {listed : Array Bool} {a : Act} {w : World} {l : List Oper} (m : List Bool) (hs : Region.noSelect l.toArray = true) (hB : (decide (m.length ≤ l.length) && decide ((maskIx 0 m).length ≤ F) && heldB md l.toArray (maskIx 0 m) listed) = true) (hQ : ∀ c a t v w, Q (.panic c) (Act.put a (some t) v) w → Q (.panic c) a w) (hC : C w)
    (h : wpQuiet P l.toArray (fun w' => ∃ x : CW C, w' = x.w) (fun a' => wpAnyH P md l.toArray Q (fun w' => ∃ x : CW C, w' = x.w) (F - (maskIx 0 m).length) (markAll (maskIx 0 m) listed) a' w) (pick l m) a) :
    wpAnyH P md l.toArray Q (fun w' => ∃ x : CW C, w' = x.w) F listed a w := by
  simp only [Bool.and_eq_true, decide_eq_true_eq] at hB
  obtain ⟨⟨h1, h2⟩, h3⟩ := hB
  have := held_same (P := P) (md := md) (Q := Q) (S := fun w' => ∃ x : CW C, w' = x.w) hs hQ (F - (maskIx 0 m).length) (maskIx 0 m) (pick l m) listed a w (pick_ix l l m 0 h1 (by simp)) h3 ⟨⟨w, hC⟩, rfl⟩ h
  rwa [show (maskIx 0 m).length + (F - (maskIx 0 m).length) = F by omega] at this
theorem held_op {P : Program} {md : Region.Mode} {ops : Array Oper} {Q : Exit → Act → World → Prop} {C : World → Prop} {F : Nat} {listed : Array Bool} {a : Act} {w : World} {o : Oper} (k : Nat) (hr : Region.ready md ops listed = [k]) (hF : decide (0 < F) = true) (ho : ops[k]? = some o)
    (h : ∀ K' : Act → World → Prop, Shut (∀ a w, C w → wpAnyH P md ops Q (fun w' => ∃ x : CW C, w' = x.w) (F - 1) (listed.setIfInBounds k true) a w → K' a w) → if Region.wanted o (yielded ops a.tmps) = true then Oper.wp P o a w K' Q else K' (a.put o.dst undef) w) :
    wpAnyH P md ops Q (fun w' => ∃ x : CW C, w' = x.w) F listed a w := by
  have hF' : F = (F - 1) + 1 := by simp only [decide_eq_true_eq] at hF; omega
  rw [hF']
  refine wpAnyH_ready hr (by simp) (AllReadyH.cons ho (fun K' hK => h K' (fun a w hc hw => hK.out a w ⟨⟨w, hc⟩, rfl⟩ (fun _ => hw))) AllReadyH.nil)
theorem held_call {P : Program} {md : Region.Mode} {ops : Array Oper} {Q : Exit → Act → World → Prop} {C : World → Prop} {F : Nat} {listed : Array Bool} {a : Act} {w : World} {o : Oper} {args : Array Operand} {ty : Array TypeId} (k f d : Nat) (he : ∀ args w, (callFunc f args).run P w = .ok (.enter f args) w) (av : Array Value) (hr : Region.ready md ops listed = [k]) (hF : decide (0 < F) = true) (ho : ops[k]? = some o)
    (hop : o.op = .call ⟨.value (.func f), args, ty⟩) (hw : Region.wanted o (yielded ops a.tmps) = true) (hd : o.dst = some d) (hav : args.toList.map a.eval = av.toList)
    (h : Calls P f av w fun e w' => ∃ v, e = .returned v ∧ C w' ∧ wpAnyH P md ops Q (fun w' => ∃ x : CW C, w' = x.w) (F - 1) (listed.setIfInBounds k true) (a.put (some d) v) w') :
    wpAnyH P md ops Q (fun w' => ∃ x : CW C, w' = x.w) F listed a w := by
  refine held_op k hr hF ho (fun K hK => ?_)
  rw [if_pos hw]
  have hav : args.map a.eval = av := by apply Array.ext'; rw [Array.toList_map]; exact hav
  have hx : (execOp a.eval o).run P w = .ok (.enter f av) w := by
    unfold execOp
    rw [hop]
    simp [resolve, Deferred.ofValue, invoke, he, hav, Act.eval]
  unfold Oper.wp
  rw [hx]
  refine Calls.mono h ?_
  rintro e w' ⟨v, rfl, hc, hn⟩
  exact hK.out _ _ hc (by rw [hd]; exact hn)
theorem held_op2 {P : Program} {md : Region.Mode} {ops : Array Oper} {Q : Exit → Act → World → Prop} {C : World → Prop} {F : Nat} {listed : Array Bool} {a : Act} {w : World} {o o2 : Oper} (k k2 : Nat) (hr : Region.ready md ops listed = [k, k2]) (hF : decide (0 < F) = true) (ho : ops[k]? = some o) (ho2 : ops[k2]? = some o2)
    (h : ∀ K' : Act → World → Prop, Shut (∀ a w, C w → wpAnyH P md ops Q (fun w' => ∃ x : CW C, w' = x.w) (F - 1) (listed.setIfInBounds k true) a w → K' a w) → if Region.wanted o (yielded ops a.tmps) = true then Oper.wp P o a w K' Q else K' (a.put o.dst undef) w)
    (h2 : ∀ K' : Act → World → Prop, Shut (∀ a w, C w → wpAnyH P md ops Q (fun w' => ∃ x : CW C, w' = x.w) (F - 1) (listed.setIfInBounds k2 true) a w → K' a w) → if Region.wanted o2 (yielded ops a.tmps) = true then Oper.wp P o2 a w K' Q else K' (a.put o2.dst undef) w) :
    wpAnyH P md ops Q (fun w' => ∃ x : CW C, w' = x.w) F listed a w := by
  have hF' : F = (F - 1) + 1 := by simp only [decide_eq_true_eq] at hF; omega
  rw [hF']
  exact wpAnyH_ready hr (by simp) (AllReadyH.cons ho (fun K' hK => h K' (fun a w hc hw => hK.out a w ⟨⟨w, hc⟩, rfl⟩ (fun _ => hw))) (AllReadyH.cons ho2 (fun K' hK => h2 K' (fun a w hc hw => hK.out a w ⟨⟨w, hc⟩, rfl⟩ (fun _ => hw))) AllReadyH.nil))
theorem held_done {P : Program} {md : Region.Mode} {ops : Array Oper} {Q : Exit → Act → World → Prop} {S : World → Prop} {F : Nat} {listed : Array Bool} {a : Act} {w : World} (hr : Region.ready md ops listed = []) (h : Q .normal a w) : wpAnyH P md ops Q S F listed a w := wpAnyH_done hr h F
end Go.Proofs.YtoihhlkidlapmaaGreat

namespace Go.Proofs.YtoihhlkidlapmaaGreat
open Go.RowKit Go.Shelf
theorem infoStr : (Tryz.prog.info? 9).map (fun i => (i.zero, i.size, i.bytes)) = some (some (.string ⟨#[]⟩), 1, 16) := by kernel_rfl
theorem str_oneN (x : ByteArray) : ∀ u ∈ [Value.string x], u.oneCell' = true := fun u hu => by rw [List.mem_singleton.1 hu]; rfl
theorem app_name (w : World) (base ty : Nat) (v : Value) (xs : List ByteArray) (x : ByteArray) (g : Nat) (hown : w.ownsRow base 9 1 v xs.length (xs.map Value.string)) (h : w.cell? ⟨g, 0, none⟩ = some (.string x)) (hn : xs.length ≤ 4294967296) (hb : base ≤ w.heap.size) :
    ∃ v' w', (Builtin.append_ #[24, 24] ty #[v, .slice (some ⟨g, 0, none⟩) 1 1]).run Tryz.prog w = .ok v' w' ∧ w'.ownsRow base 9 1 v' (xs ++ [x]).length ((xs ++ [x]).map Value.string) ∧ w.grownBy w' v.ownBlock := by
  obtain ⟨i0, hi, hz0, hz1, hz2⟩ := info_parts infoStr
  obtain ⟨v', w', hr, h2, h3, _, h5⟩ := run_append_own_at (P := Tryz.prog) w base 24 ty 9 i0 (.string ⟨#[]⟩) 1 16 Tryz.underlying24 hi hz0 hz1 hz2 rfl (by decide) v xs.length _ hown ⟨g, 0, none⟩ 1 1 [.string x] (by simp) (by
    intro j u hj
    have : j = 0 := by
      have := (List.getElem?_eq_some_iff.1 hj).1
      simpa using this
    subst this
    simp at hj
    subst hj
    exact h) (str_oneN x) (by unfold maxLen; omega) (by omega) hb
  refine ⟨v', w', hr, ?_, h3⟩
  rw [List.map_append, List.length_append]
  exact h2
theorem wp_name {ops : Array Oper} {rest : List Oper} {o : Oper} {a : Act} {w : World} {Q : Exit → Act → World → Prop} (hgd : o.guard = none) (s y : Operand) (ho : o.op = .call { callee := .builtin .append, args := #[s, y], argTypes := #[24, 24] })
    (base : Nat) (v : Value) (xs : List ByteArray) (x : ByteArray) (g : Nat) (hs : a.eval s = v) (hx : a.eval y = .slice (some ⟨g, 0, none⟩) 1 1) (hown : w.ownsRow base 9 1 v xs.length (xs.map Value.string)) (h : w.cell? ⟨g, 0, none⟩ = some (.string x)) (hn : xs.length ≤ 4294967296) (hb : base ≤ w.heap.size)
    (hk : ∀ v' w', w'.ownsRow base 9 1 v' (xs ++ [x]).length ((xs ++ [x]).map Value.string) → w.grownBy w' v.ownBlock → wpList Tryz.prog ops Q rest (a.put o.dst v') w') : wpList Tryz.prog ops Q (o :: rest) a w := by
  refine wpList_plain hgd fun K hK => ?_
  obtain ⟨v', w', hr, h2, h3⟩ := app_name w base o.type v xs x g hown h hn hb
  unfold Oper.wp execOp
  simp only [ho, resolve, invoke, builtin, Sem.run_bind, Sem.run_pure, Result.andThen_ok, List.map_toArray, List.map_cons, List.map_nil, hs, hx, hr]
  exact hK _ _ (hk v' w' h2 h3)
theorem held_name {md : Region.Mode} {ops : Array Oper} {Q : Exit → Act → World → Prop} {C : World → Prop} {F : Nat} {listed : Array Bool} {a : Act} {w : World} {o : Oper} {s y : Operand} (k d : Nat) (base : Nat) (v : Value) (xs : List ByteArray) (x : ByteArray) (g : Nat) (hr : Region.ready md ops listed = [k]) (hF : decide (0 < F) = true) (ho : ops[k]? = some o)
    (hop : o.op = .call { callee := .builtin .append, args := #[s, y], argTypes := #[24, 24] }) (hw : Region.wanted o (yielded ops a.tmps) = true) (hd : o.dst = some d) (hs : a.eval s = v) (hx : a.eval y = .slice (some ⟨g, 0, none⟩) 1 1)
    (hown : w.ownsRow base 9 1 v xs.length (xs.map Value.string)) (h : w.cell? ⟨g, 0, none⟩ = some (.string x)) (hn : xs.length ≤ 4294967296) (hb : base ≤ w.heap.size)
    (hk : ∀ v' w', w'.ownsRow base 9 1 v' (xs ++ [x]).length ((xs ++ [x]).map Value.string) → w.grownBy w' v.ownBlock → C w' ∧ wpAnyH Tryz.prog md ops Q (fun w' => ∃ x : CW C, w' = x.w) (F - 1) (listed.setIfInBounds k true) (a.put (some d) v') w') :
    wpAnyH Tryz.prog md ops Q (fun w' => ∃ x : CW C, w' = x.w) F listed a w := by
  refine held_op k hr hF ho (fun K hK => ?_)
  rw [if_pos hw]
  obtain ⟨v', w', hr, h2, h3⟩ := app_name w base o.type v xs x g hown h hn hb
  unfold Oper.wp execOp
  simp only [hop, resolve, invoke, builtin, Sem.run_bind, Sem.run_pure, Result.andThen_ok, List.map_toArray, List.map_cons, List.map_nil, hs, hx, hr]
  obtain ⟨hc, hn⟩ := hk v' w' h2 h3
  show K (a.put o.dst v') w'
  rw [hd]
  exact hK.out _ _ hc hn
theorem ownsRow_txts {W : World} {N : Nat} {v : Value} {xs : List ByteArray} (h : W.ownsRow N 9 1 v xs.length (xs.map Value.string)) : ∃ a cap, v = .slice a xs.length cap ∧ TxtsAt W a xs ∧ (a = none → cap = 0) ∧ ∀ b o, a = some ⟨b, o, none⟩ → o = 0 ∧ N ≤ b ∧ b < W.heap.size := by
  rcases h.2 with ⟨rfl, h0⟩ | ⟨g, cap, cur, rfl, hg, hh, hc, hm, hsz, hcur⟩
  · exact ⟨none, 0, by rw [h0], .inl (List.length_eq_zero_iff.1 h0), fun _ => rfl, fun b o e => by cases e⟩
  · refine ⟨_, cap, rfl, .inr ⟨g, 0, rfl, (Array.getElem?_eq_some_iff.1 hh).1, fun i x hi => ?_⟩, (fun e => by cases e), fun b o e => by cases e; exact ⟨rfl, hg, (Array.getElem?_eq_some_iff.1 hh).1⟩⟩
    have hl : i < xs.length := (List.getElem?_eq_some_iff.1 hi).1
    have hx : cur[i]? = some (.string x) := by
      rw [← Array.getElem?_toList, ← List.getElem?_take_of_lt (l := cur.toList) (i := i) (j := xs.length * 1) (by omega), hcur, List.getElem?_map, hi]; rfl
    rw [Nat.zero_add]
    exact cell_arrS hh _ _ hx
theorem ownsRow_none (W : World) (N : Nat) : W.ownsRow N 9 1 (.slice none 0 0) ([] : List ByteArray).length (([] : List ByteArray).map Value.string) := ⟨rfl, .inl ⟨rfl, rfl⟩⟩
theorem ownsRow_lowerS {W : World} {N M e n size : Nat} {v : Value} {xs : List Value} (h : W.ownsRow M e size v n xs) (hN : N ≤ M) : W.ownsRow N e size v n xs := by
  refine ⟨h.1, ?_⟩
  rcases h.2 with h0 | ⟨g, cap, cur, hv, hg, h2⟩
  · exact .inl h0
  · exact .inr ⟨g, cap, cur, hv, Nat.le_trans hN hg, h2⟩
theorem ownsRow_belowS {W W' : World} {N e n size : Nat} {v : Value} {xs : List Value} (h : W.ownsRow N e size v n xs) (hb : Below W.heap.size W W') : W'.ownsRow N e size v n xs := by
  refine ⟨h.1, ?_⟩
  rcases h.2 with h0 | ⟨g, cap, cur, hv, hg, hh, h2⟩
  · exact .inl h0
  · exact .inr ⟨g, cap, cur, hv, hg, (hb.block g (Array.getElem?_eq_some_iff.1 hh).1).trans hh, h2⟩
def twiceB (xs : List ByteArray) : Bool := !decide xs.Nodup
end Go.Proofs.YtoihhlkidlapmaaGreat

namespace Go.Proofs.YtoihhlkidlapmaaGreat
open Go.ChangeShapes Go.WideShapes Go.ChangeAt Go.RowKit
theorem own : ownKnob Tryz.prog.godebug = none := by kernel_rfl
theorem laidOut : laidOutB Tryz.prog = true := by kernel_rfl
theorem post_below {H : Type} {enc : TypeId × Value → H} {P : Program} {f : Func} {s : ChangeSpec} {apart fresh handsOn : Bool} {W W' : World} {args : Array Value} {v : Value} {ds gs : List (DataW H)} {before pa pv : List MemPlace}
    (hW : DataW.Whole enc P f.params.toList s.vars apart W args.toList ds gs before)
    (hres : ∀ (b : Nat) (sp : Nat → Bool) (hd : Bool), DataW.TrodAll enc P W' b sp hd f.resultTypes.toList (v.resultList f.resultTypes.size) (s.fn H (ds ++ gs)).results [])
    (hargs : DataW.TrodAll enc P W' 0 (fun b => decide (b < W.heap.size)) true f.params.toList args.toList (s.fn H (ds ++ gs)).args pa)
    (hvars : DataW.TrodVars enc P W' (fun b => decide (b < W.heap.size)) s.vars (s.fn H (ds ++ gs)).vars pv)
    (hps : before = pa ++ pv) (hB : Below W.heap.size W W') :
    s.post enc P f apart fresh handsOn false W args v W' := by
  refine ⟨ds, gs, before, [], pa, pv, hW, hres _ _ _, hargs, hvars, World.keptBut_mono (fun p hp => ⟨hp, ?_⟩) (hB.frame (· ∈ before)), fun h => by cases h⟩
  rw [hps, List.mem_append] at hp
  exact Or.inr hp
end Go.Proofs.YtoihhlkidlapmaaGreat

namespace Go.Proofs.YtoihhlkidlapmaaGreat
open Go.ChangeShapes Go.WideShapes Go.ChangeAt Go.RowKit
end Go.Proofs.YtoihhlkidlapmaaGreat

namespace Go.Proofs.YtoihhlkidlapmaaGreat
open Go.RowKit Go.Shelf
end Go.Proofs.YtoihhlkidlapmaaGreat

namespace Go.Proofs.YtoihhlkidlapmaaGreat
open Go.RowKit Go.Shelf
end Go.Proofs.YtoihhlkidlapmaaGreat

namespace Go.Proofs.YtoihhlkidlapmaaGreat
open Go.RowKit Go.Shelf
end Go.Proofs.YtoihhlkidlapmaaGreat

namespace Go.Proofs.YtoihhlkidlapmaaGreat
open Go.RowKit Go.Shelf
end Go.Proofs.YtoihhlkidlapmaaGreat

namespace Go.Proofs.YtoihhlkidlapmaaGreat
open Go.RowKit Go.Shelf
def TxtOwn (W : World) (v : Value) (xs : List ByteArray) (F : List Nat) : Prop := (xs = [] ∧ F = [] ∧ ∃ a c, v = .slice a 0 c ∧ (a = none → c = 0)) ∨
  ∃ g cap cur, F = [g] ∧ v = .slice (some ⟨g, 0, none⟩) xs.length cap ∧ W.heap[g]? = some (.cells cur 9 (0, 0)) ∧ xs.length ≤ cap ∧ xs.length ≤ cur.size ∧ ∀ (i : Nat) x, xs[i]? = some x → cur[i]? = some (.string x)
theorem TxtOwn.of_owns {W : World} {N n : Nat} {v : Value} {xs : List ByteArray} (h : W.ownsRow N 9 1 v n (xs.map Value.string)) : TxtOwn W v xs v.ownBlock.toList ∧ ∀ k ∈ v.ownBlock.toList, N ≤ k ∧ k < W.heap.size := by
  have hn : n = xs.length := by have := h.1; simpa using this.symm
  subst hn
  rcases h.2 with ⟨rfl, h0⟩ | ⟨g, cap, cur, rfl, hg, hh, hc, hm, hsz, hcur⟩
  · exact ⟨.inl ⟨List.length_eq_zero_iff.1 h0, rfl, none, 0, rfl, fun _ => rfl⟩, fun k hk => by cases hk⟩
  · refine ⟨.inr ⟨g, cap, cur, rfl, rfl, hh, hc, by omega, fun i x hi => ?_⟩, fun k hk => ?_⟩
    · have hl : i < xs.length := (List.getElem?_eq_some_iff.1 hi).1
      rw [← Array.getElem?_toList, ← List.getElem?_take_of_lt (l := cur.toList) (i := i) (j := xs.length * 1) (by omega), hcur, List.getElem?_map, hi]; rfl
    · rcases List.mem_singleton.1 hk with rfl
      exact ⟨hg, (Array.getElem?_eq_some_iff.1 hh).1⟩
end Go.Proofs.YtoihhlkidlapmaaGreat

namespace Go.Proofs.YtoihhlkidlapmaaGreat
open Go.ChangeShapes Go.WideShapes Go.ChangeAt Go.RowKit Go.Shelf
theorem rowAt_txts {W : World} {v : Value} {xs : List ByteArray} (h : rowAt txtC W v xs) : ∃ (a : Option Addr) (cap : Nat), v = .slice a xs.length cap ∧ TxtsAt W a xs ∧ (a = none → cap = 0) ∧ xs.length ≤ cap := by
  obtain ⟨a, cap, rfl, hn, hc, h⟩ := h
  refine ⟨a, cap, rfl, ?_, hn, hc⟩
  rcases h with h | ⟨b, o, rfl, hb, hall⟩
  · exact .inl h
  · refine .inr ⟨b, o, rfl, hb, fun i x hi => ?_⟩
    obtain ⟨cs, hcs, hcell⟩ := hall i x hi
    have e : cs = [.string x] := hcs
    subst e
    have := hcell 0 _ rfl
    rwa [show o + i * txtC.n + 0 = o + i from by show o + i * 1 + 0 = _; omega] at this
theorem flat_nils : ∀ Fs : List (List Nat), (∀ F ∈ Fs, F = []) → Fs.flatten = []
  | [], _ => rfl
  | F :: Fs, h => by rw [List.flatten_cons, h F (by simp), flat_nils Fs (fun G hG => h G (List.mem_cons_of_mem _ hG))]; rfl
theorem own_of_txt {W : World} {v : Value} {xs : List ByteArray} {F : List Nat} (h : TxtOwn W v xs F) : rowOwn txtC 9 W v xs F := by
  rcases h with h | ⟨g, cap, cur, rfl, hv, hh, h1, h2, h3⟩
  · exact .inl h
  · have hF : (List.replicate xs.length ([] : List Nat)).flatten = [] := flat_nils _ (fun G hG => (List.mem_replicate.1 hG).2)
    refine .inr ⟨g, cap, cur, List.replicate xs.length [], hv, h1, by rw [hF], by simp, ⟨hh, show List.length (α := ByteArray) xs * 1 ≤ cur.size by omega, List.length_replicate, fun i x hi => ⟨[.string x], [], ?_, fun j c hj => ?_, rfl, rfl⟩⟩⟩
    · rw [List.getElem?_replicate]; exact if_pos (List.getElem?_eq_some_iff.1 hi).1
    · cases j with
      | succ j => cases j <;> cases hj
      | zero =>
        cases hj
        rw [show i * txtC.n + 0 = i from by show i * 1 + 0 = _; omega]
        exact h3 i x hi
theorem ownsRow_at {W : World} {N n : Nat} {v : Value} {xs : List ByteArray} (h : W.ownsRow N 9 1 v n (xs.map Value.string)) : rowAt txtC W v xs := by
  obtain ⟨h1, _⟩ := TxtOwn.of_owns h
  exact (own_of_txt h1).toAt
end Go.Proofs.YtoihhlkidlapmaaGreat

namespace Go.Proofs.YtoihhlkidlapmaaGreat
open Go.RowKit Go.Shelf
theorem ownsRow_made0 (w : World) : (w.alloc (.cells #[] 9)).ownsRow w.heap.size 9 1 (.slice (some ⟨w.heap.size, 0, none⟩) 0 0) ([] : List ByteArray).length (([] : List ByteArray).map Value.string) :=
  ⟨rfl, .inr ⟨w.heap.size, 0, #[], rfl, Nat.le_refl _, World.alloc_heap_new _ _, Nat.le_refl _, by simp [maxLen], rfl, rfl⟩⟩
end Go.Proofs.YtoihhlkidlapmaaGreat

namespace Go.Proofs.YtoihhlkidlapmaaGreat
open Go.RowKit Go.Shelf
theorem txt_iff (x y : ByteArray) : (x.toList == y.toList) = decide (x = y) := by
  by_cases h : x = y
  · subst h; simp
  · rw [decide_eq_false h]
    rw [beq_eq_false_iff_ne]
    intro e
    apply h
    apply ByteArray.ext
    apply Array.ext'
    rw [← Lib.toList_data, ← Lib.toList_data]; exact e
theorem nodup_snoc {α : Type} {xs : List α} {x : α} (h : xs.Nodup) (hx : x ∉ xs) : (xs ++ [x]).Nodup := by
  rw [List.nodup_append]
  exact ⟨h, by simp, fun a ha b hb e => by rw [List.mem_singleton.1 hb] at e; exact hx (e ▸ ha)⟩
theorem twiceB_true {xs : List ByteArray} {k i : Nat} {x : ByteArray} (hk : xs[k]? = some x) (hi : xs[i]? = some x) (h : k < i) : twiceB xs = true := by
  unfold twiceB
  rw [decide_eq_false]
  · rfl
  · intro hn
    obtain ⟨l1, e1⟩ := List.getElem?_eq_some_iff.1 hk
    obtain ⟨l2, e2⟩ := List.getElem?_eq_some_iff.1 hi
    have := (List.pairwise_iff_getElem.1 hn) k i l1 l2 h
    exact this (e1.trans e2.symm)
set_option maxRecDepth 100000 in
set_option maxHeartbeats 4000000 in
theorem l4Twice_any (xs : List ByteArray) (a : Option Addr) (cap : Nat) (w : World) (hl : xs.length ≤ maxLen) (h : TxtsAt w a xs) :
    Calls Tryz.prog 123 #[.slice a xs.length cap] w fun x w' => x = .returned (.bool (twiceB xs)) ∧ Below w.heap.size w w' := by
  have hlen : xs.length ≤ 9223372036854775807 := hl
  have H := hid h
  clear h hl
  go_enter Tryz.func123, Tryz.ntmps123
  go_wp2_with fail
  go_loopw [3] (fun i wr => ∃ k : Nat, k ≤ xs.length ∧ i = .int .i64 (k : Int) ∧ Hid ((xs.take k).Nodup) ∧ Hid (Below w.heap.size w wr)) (fun i _ => xs.length - (intOf i).toNat)
  case atStart => exact ⟨0, Nat.zero_le _, rfl, hid (by simp), hid (Below.refl _ _)⟩
  case round =>
    obtain ⟨i, hi, rfl, HN, HB⟩ := hrel
    by_cases hlt : i < xs.length
    · obtain ⟨y, hy⟩ : ∃ y, xs[i]? = some y := ⟨xs[i], List.getElem?_eq_getElem hlt⟩
      have HY := hid hy
      clear hy
      go_wp2_with fail
      go_loopw [4] (fun j wq => ∃ k : Nat, k ≤ i ∧ j = .int .i64 (k : Int) ∧ Hid (y ∉ xs.take k) ∧ Hid (Below w.heap.size w wq)) (fun j _ => i - (intOf j).toNat)
      case atStart => exact ⟨0, Nat.zero_le _, rfl, hid (by simp), HB⟩
      case round =>
        clear HB
        obtain ⟨k, hk, rfl, HX, HB⟩ := hrel
        by_cases hlt2 : k < i
        · obtain ⟨x, hx⟩ : ∃ x, xs[k]? = some x := ⟨xs[k], List.getElem?_eq_getElem (by omega)⟩
          obtain ⟨b, o, rfl, hbl, hc⟩ := (unhid H).get (by intro e; subst e; simp at hlt)
          have c0 := ((unhid HB).cell (p := ⟨b, o + k, none⟩) hbl).trans (hc k x hx)
          have c1 := ((unhid HB).cell (p := ⟨b, o + i, none⟩) hbl).trans (hc i y (unhid HY))
          have HX2 := hid hx
          clear hc hx hbl
          have hq := txt_iff x y
          by_cases hxy : x = y
          · rw [decide_eq_true hxy] at hq
            have E := hid (twiceB_true (unhid HX2) (by rw [hxy]; exact unhid HY) hlt2)
            go_wp2_with fail
            go_region
            go_wp2_with fail
            go_ret
            exact ⟨by rw [unhid E]; rfl, (unhid HB).trans ((drew_belowS _).mono (unhid HB).size)⟩
          · rw [decide_eq_false hxy] at hq
            have HNE := hid hxy
            clear hxy
            go_wp2_with fail
            go_region
            go_wp2_with fail
            go_roundw
            case rel =>
              refine ⟨k + 1, by omega, by go_num, hid (fun hm => ?_), hid ((unhid HB).trans ((drew_belowS _).mono (unhid HB).size))⟩
              rw [List.take_add_one, unhid HX2] at hm
              rcases List.mem_append.1 hm with hm | hm
              · exact unhid HX hm
              · simp at hm; exact unhid HNE hm.symm
            case measure => simp [intOf]; omega
        · have e : k = i := by omega
          subst e
          go_wp2_with fail
          go_roundw
          case rel => exact ⟨k + 1, by omega, by go_num, hid (by rw [List.take_add_one, unhid HY]; exact nodup_snoc (unhid HN) (unhid HX)), HB⟩
          case measure => simp [intOf]; omega
    · have e : i = xs.length := by omega
      subst e
      go_wp2_with fail
      go_ret
      refine ⟨?_, unhid HB⟩
      have := unhid HN
      rw [List.take_of_length_le (Nat.le_refl _)] at this
      unfold twiceB
      rw [decide_eq_true this]; rfl
end Go.Proofs.YtoihhlkidlapmaaGreat

namespace Go.Proofs.YtoihhlkidlapmaaGreat
open Go.RowKit Go.Shelf
structure NeedD where
  name : ByteArray
  kind : Int
  version : ByteArray
def needC : CK := isoC (pairC txtC (pairC intC txtC)) NeedD (fun d => (d.name, (d.kind, d.version))) (fun p => ⟨p.1, p.2.1, p.2.2⟩)
theorem needC_at {W : World} {cs : List Value} {d : NeedD} (h : needC.at_ W cs d) : cs = [.string d.name, .int .i64 d.kind, .string d.version] := by
  obtain ⟨c0, e0, rfl, rfl, ⟨c1, e1, rfl, rfl, rfl⟩⟩ := h
  exact rfl
def needC_is (_W : World) (cs : List Value) (d : NeedD) (F : List Nat) : Prop := cs = [.string d.name, .int .i64 d.kind, .string d.version] ∧ F = []
theorem needC_own {W : World} {cs : List Value} {d : NeedD} {F : List Nat} (h : needC.own W cs d F) : needC_is W cs d F := by
  obtain ⟨c0, e0, F0, G0, rfl, rfl, ⟨rfl, rfl⟩, ⟨c1, e1, F1, G1, rfl, rfl, ⟨rfl, rfl⟩, ⟨rfl, rfl⟩, a1⟩, a0⟩ := h
  exact ⟨rfl, rfl⟩
theorem needC_mk {W : World} {cs : List Value} {d : NeedD} {F : List Nat} (h : needC_is W cs d F) : needC.own W cs d F := by
  obtain ⟨rfl, rfl⟩ := h
  exact ⟨[_], _, [], [], rfl, by simp, ⟨rfl, rfl⟩, ⟨[_], _, [], [], rfl, by simp, ⟨rfl, rfl⟩, ⟨rfl, rfl⟩, fun k hk => by cases hk⟩, fun k hk => by cases hk⟩
theorem vinfoNeed : (Tryz.prog.info? 36).map (fun i => (i.zero, i.size, i.bytes)) = some (some (.agg #[.string ⟨#[]⟩, .int .i64 0, .string ⟨#[]⟩]), 3, 40) := by kernel_rfl
end Go.Proofs.YtoihhlkidlapmaaGreat

namespace Go.Proofs.YtoihhlkidlapmaaGreat
open Go.RowKit Go.Shelf
def namesN (ds : List needC.D) : List ByteArray := List.map (α := needC.D) (fun d => NeedD.name d) ds
theorem namesN_len (ds : List needC.D) : (namesN ds).length = ds.length := by simp [namesN]
theorem namesN_get {ds : List needC.D} {k : Nat} {d : needC.D} (h : ds[k]? = some d) : (namesN ds)[k]? = some (NeedD.name d) := by unfold namesN; rw [List.getElem?_map, h]; rfl
theorem take_next {α : Type} {xs : List α} {k : Nat} {x : α} (h : xs[k]? = some x) : xs.take (k + 1) = xs.take k ++ [x] := by rw [List.take_add_one, h]; rfl
theorem ownsRow_take {W : World} {N : Nat} {v : Value} {xs : List ByteArray} {k : Nat} {x : ByteArray} (hx : xs[k]? = some x) (h : W.ownsRow N 9 1 v (xs.take k ++ [x]).length ((xs.take k ++ [x]).map Value.string)) : W.ownsRow N 9 1 v (xs.take (k + 1)).length ((xs.take (k + 1)).map Value.string) := by
  rw [take_next hx]; exact h
theorem grown_belowN {w W W' : World} {row : Option Nat} (hb : Below w.heap.size w W) (h : W.grownBy W' row) (hr : ∀ j, row = some j → w.heap.size ≤ j) : Below w.heap.size w W' :=
  ⟨h.os.trans hb.os, h.tape.trans hb.tape, h.output.trans hb.output, Nat.le_trans hb.size h.size, fun k hk => (h.block k (Nat.lt_of_lt_of_le hk hb.size) (fun e => by have := hr k e.symm; omega)).trans (hb.block k hk)⟩
theorem cell_newN (w : World) (x : Value) (t : Nat) : (w.alloc (.cells #[x] t)).cell? ⟨w.heap.size, 0, none⟩ = some x := cell_arrS (World.alloc_heap_new w _) 0 x rfl
set_option maxRecDepth 100000 in
set_option maxHeartbeats 1000000 in
theorem packName1_any (e : NeedD) (w : World) :
    Calls Tryz.prog 113 #[.agg #[.string e.name, .int .i64 e.kind, .string e.version]] w fun x w' => x = .returned (.string e.name) ∧ w' = w.alloc (.cells #[.string e.name, .int .i64 e.kind, .string e.version] 36) := by
  go_enter Tryz.func113, Tryz.ntmps113
  go_wp2_with fail
  go_ret
  exact ⟨rfl, rfl⟩
set_option maxRecDepth 100000 in
set_option maxHeartbeats 4000000 in
theorem namesOfNeed_any (ds : List needC.D) (v : Value) (w : World) (hl : ds.length ≤ 1048576) (h : rowAt needC w v ds) :
    Calls Tryz.prog 112 #[v, .func (.func 113) #[] #[]] w fun x w' => ∃ u, x = .returned u ∧ w'.ownsRow w.heap.size 9 1 u (namesN ds).length ((namesN ds).map Value.string) ∧ Below w.heap.size w w' := by
  obtain ⟨a, cap, rfl, -, -, h⟩ := h
  have H := hid h
  clear h
  go_enter Tryz.func112, Tryz.ntmps112
  go_wp2_with fail
  go_loopw [5, 10] (fun s i wr => ∃ (k : Nat) (oa : Option Addr) (oc : Nat), k ≤ ds.length ∧ i = .int .i64 (k : Int) ∧ s = .slice oa k oc ∧ Hid (wr.ownsRow w.heap.size 9 1 (.slice oa k oc) ((namesN ds).take k).length (((namesN ds).take k).map Value.string)) ∧ Hid (Below w.heap.size w wr)) (fun _ i _ => ds.length - (intOf i).toNat)
  case atStart => exact ⟨0, _, _, Nat.zero_le _, rfl, rfl, hid (ownsRow_none _ _), hid (Below.refl _ _)⟩
  case round =>
    obtain ⟨k, oa, oc, hk, rfl, rfl, HO, HB⟩ := hrel
    by_cases hlt : k < ds.length
    · obtain ⟨e, he⟩ : ∃ e, ds[k]? = some e := ⟨ds[k], List.getElem?_eq_getElem hlt⟩
      obtain ⟨b, o, rfl, hbl, hc⟩ := (unhid H).resolve_left (by intro e; subst e; simp at hlt)
      obtain ⟨cs, hat, hcell⟩ := hc k e he
      have hcs := needC_at hat
      obtain rfl := hcs
      have c0 : wr.cell? ⟨b, o + k * 3, none⟩ = some (.string e.name) := ((unhid HB).cell (p := ⟨b, o + k * 3 + 0, none⟩) hbl).trans (hcell 0 _ rfl)
      have c1 : wr.cell? ⟨b, o + k * 3 + 1, none⟩ = some (.int .i64 e.kind) := ((unhid HB).cell (p := ⟨b, o + k * 3 + 1, none⟩) hbl).trans (hcell 1 _ rfl)
      have c2 : wr.cell? ⟨b, o + k * 3 + 2, none⟩ = some (.string e.version) := ((unhid HB).cell (p := ⟨b, o + k * 3 + 2, none⟩) hbl).trans (hcell 2 _ rfl)
      have HX := hid (namesN_get he)
      clear hc hat hcell he
      go_wp2_with fail
      refine (packName1_any e _).mono ?_
      rintro x w2 ⟨rfl, hw2⟩
      have hb2 : Below wr.heap.size wr w2 := by rw [hw2]; exact ((Below.refl _ wr).alloc (Nat.le_refl _) _).alloc (by simp) _
      have ho2 : w2.ownsRow w.heap.size 9 1 (.slice oa k oc) ((namesN ds).take k).length (((namesN ds).take k).map Value.string) := by rw [hw2]; exact ((unhid HO).alloc _).alloc _
      have HO2 := hid (ho2.alloc (.cells #[.string e.name] 9))
      have HB2 := hid (((unhid HB).trans (hb2.mono (unhid HB).size)).alloc ((unhid HB).trans (hb2.mono (unhid HB).size)).size (.cells #[.string e.name] 9))
      have HC2 := hid (cell_newN w2 (.string e.name) 9)
      have hlo := hid (show ∀ j, (Value.slice oa k oc).ownBlock = some j → w.heap.size ≤ j from fun j ej => (ho2.lt j ej).1)
      have hkl : ((namesN ds).take k).length ≤ 1048576 := by rw [List.length_take]; omega
      have HKL := hid hkl
      have HSZ := hid (unhid HB2).size
      clear hw2 hb2 ho2 HO HB c0 c1 c2 hkl
      go_wp2_with (at_builtin; refine wp_name rfl _ _ rfl w.heap.size (.slice oa k oc) ((namesN ds).take k) e.name w2.heap.size rfl rfl (unhid HO2) (unhid HC2) (by have := unhid HKL; omega) (unhid HSZ) ?_)
      intro v' w4 hown hg
      have ho3 := ownsRow_take (unhid HX) (W := w4) (N := w.heap.size) (v := v') (by simpa using hown)
      have HB3 := hid (grown_belowN (unhid HB2) hg (unhid hlo))
      obtain ⟨oa2, oc2, hv, -⟩ := ownsRow_txts ho3
      have hk1 : ((namesN ds).take (k + 1)).length = k + 1 := by rw [List.length_take, namesN_len]; omega
      rw [hk1] at hv
      subst hv
      have HO3 := hid ho3
      clear hown hg hlo HC2 HB2 HO2 HSZ HKL ho3 hk1
      go_wp2_with fail
      go_roundw
      case rel => exact ⟨k + 1, oa2, oc2, by omega, by go_num, rfl, HO3, HB3⟩
      case measure => simp [intOf]; omega
    · have e : k = ds.length := by omega
      subst e
      go_wp2_with fail
      go_ret
      refine ⟨_, rfl, ?_, unhid HB⟩
      have := unhid HO
      rwa [List.take_of_length_le (by rw [namesN_len]; exact Nat.le_refl _)] at this
end Go.Proofs.YtoihhlkidlapmaaGreat

namespace Go.Proofs.YtoihhlkidlapmaaGreat
open Go.Shelf Go.RowKit Go.Sort
def sh_lays190_ren : Go.Shelf.Ren := ⟨fun | 190 => 68 | 125 => 128 | 258 => 127 | 128 => 200 | 129 => 201 | 302 => 191 | 303 => 192 | 304 => 193 | 305 => 194 | 306 => 195 | 307 => 196 | 308 => 197 | 309 => 198 | 310 => 199 | 333 => 252 | 329 => 253 | 330 => 254 | 334 => 255 | 335 => 256 | 336 => 257 | 344 => 278 | n => n, fun | 31 => 24 | 9 => 9 | 3 => 3 | 46 => 166 | 0 => 0 | 51 => 227 | 53 => 229 | 4 => 4 | 183 => 221 | 182 => 220 | 131 => 111 | 5 => 5 | 218 => 261 | 222 => 265 | 228 => 280 | 229 => 281 | n => n, fun | n => n⟩
theorem sh_lays190 : Go.Proofs.Lays.n190 Tryz.prog sh_lays190_ren := {
  mixed := by kernel_rfl
  f125 := Tryz.func128.trans (congrArg some (by kernel_rfl))
  f128 := Tryz.func200.trans (congrArg some (by kernel_rfl))
  f129 := Tryz.func201.trans (congrArg some (by kernel_rfl))
  f190 := Tryz.func68.trans (congrArg some (by kernel_rfl))
  f258 := Tryz.func127.trans (congrArg some (by kernel_rfl))
  f302 := Tryz.func191.trans (congrArg some (by kernel_rfl))
  f303 := Tryz.func192.trans (congrArg some (by kernel_rfl))
  f304 := Tryz.func193.trans (congrArg some (by kernel_rfl))
  f305 := Tryz.func194.trans (congrArg some (by kernel_rfl))
  f306 := Tryz.func195.trans (congrArg some (by kernel_rfl))
  f307 := Tryz.func196.trans (congrArg some (by kernel_rfl))
  f308 := Tryz.func197.trans (congrArg some (by kernel_rfl))
  f309 := Tryz.func198.trans (congrArg some (by kernel_rfl))
  f310 := Tryz.func199.trans (congrArg some (by kernel_rfl))
  f329 := Tryz.func253.trans (congrArg some (by kernel_rfl))
  f330 := Tryz.func254.trans (congrArg some (by kernel_rfl))
  f333 := Tryz.func252.trans (congrArg some (by kernel_rfl))
  f334 := Tryz.func255.trans (congrArg some (by kernel_rfl))
  f335 := Tryz.func256.trans (congrArg some (by kernel_rfl))
  f336 := Tryz.func257.trans (congrArg some (by kernel_rfl))
  f344 := Tryz.func278.trans (congrArg some (by kernel_rfl))
  t0 := Tryz.underlying0
  a0 := Tryz.isAgg0
  z0 := Tryz.sizeOf0
  v0 := Tryz.zeroValue0
  t3 := Tryz.underlying3
  a3 := Tryz.isAgg3
  z3 := Tryz.sizeOf3
  v3 := Tryz.zeroValue3
  t4 := Tryz.underlying4
  a4 := Tryz.isAgg4
  z4 := Tryz.sizeOf4
  v4 := Tryz.zeroValue4
  t5 := Tryz.underlying5
  a5 := Tryz.isAgg5
  z5 := Tryz.sizeOf5
  v5 := Tryz.zeroValue5
  t9 := Tryz.underlying9
  a9 := Tryz.isAgg9
  z9 := Tryz.sizeOf9
  v9 := Tryz.zeroValue9
  t31 := Tryz.underlying24
  a31 := Tryz.isAgg24
  z31 := Tryz.sizeOf24
  v31 := Tryz.zeroValue24
  t46 := Tryz.underlying166
  a46 := Tryz.isAgg166
  z46 := Tryz.sizeOf166
  v46 := Tryz.zeroValue166
  t51 := Tryz.underlying227
  a51 := Tryz.isAgg227
  z51 := Tryz.sizeOf227
  v51 := Tryz.zeroValue227
  t53 := Tryz.underlying229
  a53 := Tryz.isAgg229
  z53 := Tryz.sizeOf229
  v53 := Tryz.zeroValue229
  t131 := Tryz.underlying111
  a131 := Tryz.isAgg111
  z131 := Tryz.sizeOf111
  v131 := Tryz.zeroValue111
  t182 := Tryz.underlying220
  a182 := Tryz.isAgg220
  z182 := Tryz.sizeOf220
  v182 := Tryz.zeroValue220
  t183 := Tryz.underlying221
  a183 := Tryz.isAgg221
  z183 := Tryz.sizeOf221
  v183 := Tryz.zeroValue221
  t218 := Tryz.underlying261
  a218 := Tryz.isAgg261
  z218 := Tryz.sizeOf261
  v218 := Tryz.zeroValue261
  t222 := Tryz.underlying265
  a222 := Tryz.isAgg265
  z222 := Tryz.sizeOf265
  v222 := Tryz.zeroValue265
  t228 := Tryz.underlying280
  a228 := Tryz.isAgg280
  z228 := Tryz.sizeOf280
  v228 := Tryz.zeroValue280
  t229 := Tryz.underlying281
  a229 := Tryz.isAgg281
  z229 := Tryz.sizeOf281
  v229 := Tryz.zeroValue281 }
theorem sh_slices_Sort_string (blk off cap : Nat) (ss : List (List UInt8)) (w : World) (hH : Holds encStr w blk off ss.toArray) (hblk : blk < w.heap.size) (hsz : ss.length < 4611686018427387904) :
    Calls Tryz.prog 68 #[.slice (some ⟨blk, off, none⟩) ss.length cap] w fun e w' =>
      e = .returned (.tuple #[]) ∧ ∃ n os, w' = grow (putRow encStr (Sort.ahead w n) blk off (ss.mergeSort fun x y => decide (x ≤ y)).toArray) os := Any.slices_Sort_string sh_lays190 blk off cap ss w hH hblk hsz
theorem sh_slices_Sort_string_none (p : Option Addr) (cap : Nat) (w : World) :
    Calls Tryz.prog 68 #[.slice p 0 cap] w fun e w' => e = .returned (.tuple #[]) ∧ w' = w := Any.slices_Sort_string_none sh_lays190 p cap w
end Go.Proofs.YtoihhlkidlapmaaGreat

namespace Go.Proofs.YtoihhlkidlapmaaGreat
open Go.RowKit Go.Shelf Go.Sort
theorem leB_tr (a b c : List UInt8) (h1 : leB a b = true) (h2 : leB b c = true) : leB a c = true := by
  simp only [leB, decide_eq_true_eq] at *; exact List.le_trans h1 h2
theorem leB_to (a b : List UInt8) : (leB a b || leB b a) = true := by
  simp only [leB, Bool.or_eq_true, decide_eq_true_eq]; exact List.le_total a b
theorem leB_anti {a b : List UInt8} (h1 : leB a b = true) (h2 : leB b a = true) : a = b := by
  simp only [leB, decide_eq_true_eq] at h1 h2
  exact List.le_antisymm h1 h2
def sortT (xs : List ByteArray) : List ByteArray := ((xs.map fun x => x.data.toList).mergeSort leB).map fun l => ⟨l.toArray⟩
theorem back_txts (xs : List ByteArray) : ((xs.map fun x => x.data.toList).map fun l => (⟨l.toArray⟩ : ByteArray)) = xs := by
  rw [List.map_map]
  conv => rhs; rw [← List.map_id xs]
  exact List.map_congr_left fun x _ => by simp
theorem sortT_perm (xs : List ByteArray) : (sortT xs).Perm xs := by
  have := (List.mergeSort_perm (xs.map fun x => x.data.toList) leB).map (fun l => (⟨l.toArray⟩ : ByteArray))
  rw [back_txts] at this
  exact this
theorem sortT_len (xs : List ByteArray) : (sortT xs).length = xs.length := (sortT_perm xs).length_eq
theorem sortT_sorted (xs : List ByteArray) : (sortT xs).Pairwise fun a b => leB a.data.toList b.data.toList = true := by
  unfold sortT
  rw [List.pairwise_map]
  exact (List.pairwise_mergeSort leB_tr leB_to _).imp fun h => by simpa using h
theorem nodup_sorted {ys : List ByteArray} (hp : ys.Pairwise fun a b => leB a.data.toList b.data.toList = true) (ha : ∀ (j : Nat) x y, ys[j]? = some x → ys[j + 1]? = some y → x ≠ y) : ys.Nodup := by
  unfold List.Nodup
  rw [List.pairwise_iff_getElem] at hp ⊢
  intro i j hi hj hij e
  have h1 : i + 1 < ys.length := by omega
  have h2 := hp i (i + 1) hi h1 (by omega)
  have h3 : leB (ys[i + 1]).data.toList (ys[i]).data.toList = true := by
    rw [e]
    rcases Nat.lt_or_ge (i + 1) j with h | h
    · exact hp (i + 1) j h1 hj h
    · have : i + 1 = j := by omega
      subst this
      have := leB_to (ys[i + 1]).data.toList (ys[i + 1]).data.toList
      rwa [Bool.or_self] at this
  have h4 := leB_anti h2 h3
  exact ha i _ _ (List.getElem?_eq_getElem hi) (List.getElem?_eq_getElem h1) (ByteArray.ext (Array.ext' h4))
theorem twice_sort (xs : List ByteArray) : twiceB (sortT xs) = twiceB xs := by
  unfold twiceB
  rw [show decide (sortT xs).Nodup = decide xs.Nodup from decide_eq_decide.2 (sortT_perm xs).nodup_iff]
theorem encStr_map (xs : List ByteArray) : xs.map Value.string = (xs.map fun x => x.data.toList).map encStr := by
  rw [List.map_map]
  exact List.map_congr_left fun x _ => by simp [encStr]
theorem map_encStr (ls : List (List UInt8)) : ls.map encStr = (ls.map fun l => (⟨l.toArray⟩ : ByteArray)).map Value.string := by
  rw [List.map_map]; rfl
set_option maxRecDepth 100000 in
set_option maxHeartbeats 1000000 in
theorem sort_own (xs : List ByteArray) (v : Value) (N : Nat) (w : World) (hn : xs.length ≤ 4294967296) (h : w.ownsRow N 9 1 v xs.length (xs.map Value.string)) :
    Calls Tryz.prog 68 #[v] w fun x w' => x = .returned (.tuple #[]) ∧ w'.ownsRow N 9 1 v (sortT xs).length ((sortT xs).map Value.string) ∧ w.grownBy w' v.ownBlock := by
  rcases h.2 with ⟨rfl, h0⟩ | ⟨g, cap, cur, rfl, hg, hh, hc, hm, hsz, hcur⟩
  · have hx : xs = [] := List.length_eq_zero_iff.1 h0
    subst hx
    exact (sh_slices_Sort_string_none none 0 w).mono fun x w' ⟨h1, h2⟩ => ⟨h1, by rw [h2, show sortT [] = [] by simp [sortT]]; exact h, by rw [h2]; exact ⟨rfl, rfl, rfl, Nat.le_refl _, fun _ _ _ => rfl⟩⟩
  · have hl : (xs.map fun x => x.data.toList).length = xs.length := List.length_map _
    have hcur2 : cur.toList.take (xs.map fun x => x.data.toList).length = (xs.map fun x => x.data.toList).map encStr := by
      rw [hl, ← encStr_map, ← hcur, Nat.mul_one]
    have hH : Holds encStr w g 0 (xs.map fun x => x.data.toList).toArray := holds_of_block hh hcur2
    have := sh_slices_Sort_string g 0 cap (xs.map fun x => x.data.toList) w hH (Array.getElem?_eq_some_iff.1 hh).1 (by rw [hl]; omega)
    rw [hl] at this
    refine this.mono fun x w' ⟨h1, n, os, h2⟩ => ⟨h1, ?_, ?_⟩
    · rw [h2]
      have := ownsRow_sorted (n := n) (os := os) (ts := (xs.map fun x => x.data.toList).mergeSort leB) (List.length_mergeSort _) hg hh (by rw [hl]; exact hc) hm hsz
      rw [hl, map_encStr] at this
      rw [sortT_len]
      exact this
    · rw [h2]; exact grownBy_sorted _
theorem grown_drewS {w w' : World} {row : Option Nat} (h : w.grownBy w' row) : w.grownBy w'.drew row := ⟨h.os, h.tape, h.output, h.size, h.block⟩
set_option maxRecDepth 100000 in
set_option maxHeartbeats 4000000 in
theorem anyTwice_any (xs : List ByteArray) (v : Value) (N : Nat) (w : World) (hn : xs.length ≤ 4294967296) (h : w.ownsRow N 9 1 v xs.length (xs.map Value.string)) :
    Calls Tryz.prog 61 #[v] w fun x w' => x = .returned (.bool (twiceB xs)) ∧ w.grownBy w' v.ownBlock := by
  have H := hid h
  obtain ⟨a, cap, rfl, -, -, hblk⟩ := ownsRow_txts h
  clear h
  have HSL := hid (sortT_len xs)
  have HTW := hid (twice_sort xs)
  have HSO := hid (sortT_sorted xs)
  go_enter Tryz.func61, Tryz.ntmps61
  go_wp2_with fail
  refine (sort_own xs _ N w hn (unhid H)).mono ?_
  rintro x w1 ⟨rfl, ho, hg⟩
  obtain ⟨a1, c1, e1, hat, -, -⟩ := ownsRow_txts ho
  have e2 : a1 = a := by injection e1 with e1; exact e1.symm
  subst e2
  generalize hys : sortT xs = ys at *
  have HAT := hid hat
  have HG := hid hg
  have hyl : ys.length = xs.length := unhid HSL
  have HYL := hid hyl
  clear ho hat hg e1 hys hyl HSL H hblk
  go_wp2_with fail
  go_loopw [3] (fun i wr => ∃ k : Nat, k ≤ xs.length ∧ i = .int .i64 ((k : Int) + 1) ∧ Hid (∀ (j : Nat) x y, j < k → ys[j]? = some x → ys[j + 1]? = some y → x ≠ y) ∧ Hid (w.grownBy wr (Value.slice a1 xs.length cap).ownBlock) ∧ Hid (TxtsAt wr a1 ys)) (fun i _ => xs.length + 1 - (intOf i).toNat)
  case atStart => exact ⟨0, Nat.zero_le _, rfl, hid (fun j x y hj => absurd hj (Nat.not_lt_zero _)), HG, HAT⟩
  case round =>
    clear HAT HG
    obtain ⟨k, hk, rfl, HX, HG, HAT⟩ := hrel
    by_cases hlt : k + 1 < xs.length
    · have hl1 : k < ys.length := by have := unhid HYL; omega
      have hl2 : k + 1 < ys.length := by have := unhid HYL; omega
      obtain ⟨x, hx⟩ : ∃ x, ys[k]? = some x := ⟨ys[k], List.getElem?_eq_getElem hl1⟩
      obtain ⟨y, hy⟩ : ∃ y, ys[k + 1]? = some y := ⟨ys[k + 1], List.getElem?_eq_getElem hl2⟩
      obtain ⟨b, o, rfl, hbl, hc⟩ := (unhid HAT).get (by intro e; subst e; simp at hl1)
      have c0 := hc k x hx
      have c1 : wr.cell? ⟨b, o + (k + 1), none⟩ = some (.string y) := hc (k + 1) y hy
      have c2 : wr.cell? ⟨b, o + k + 1, none⟩ = some (.string y) := hc (k + 1) y hy
      have q0 : ((k : Int) + 1 - 1).toNat = k := by omega
      have HXY := hid (And.intro hx hy)
      have hq := txt_iff y x
      clear hc hx hy hbl hl1 hl2
      by_cases hxy : y = x
      · rw [decide_eq_true hxy] at hq
        have E := hid (twiceB_true (unhid HXY).1 (by rw [← hxy]; exact (unhid HXY).2) (Nat.lt_succ_self k))
        go_wp2_with fail
        go_region
        go_wp2_with fail
        go_ret
        exact ⟨by rw [← unhid HTW, unhid E]; rfl, grown_drewS (unhid HG)⟩
      · rw [decide_eq_false hxy] at hq
        have HNE := hid hxy
        clear hxy
        go_wp2_with fail
        go_region
        go_wp2_with fail
        go_roundw
        case rel =>
          refine ⟨k + 1, by omega, by go_num, hid (fun j x' y' hj hx' hy' => ?_), hid (grown_drewS (unhid HG)), hid ((unhid HAT).below (drew_belowS _))⟩
          by_cases ej : j = k
          · subst ej
            rw [(unhid HXY).1] at hx'
            rw [(unhid HXY).2] at hy'
            cases hx'
            cases hy'
            exact fun e => unhid HNE e.symm
          · exact unhid HX j x' y' (by omega) hx' hy'
        case measure => simp [intOf]; omega
    · go_wp2_with fail
      go_ret
      refine ⟨?_, unhid HG⟩
      have : ys.Nodup := nodup_sorted (unhid HSO) (fun j x y hx hy => unhid HX j x y (by have := (List.getElem?_eq_some_iff.1 hy).1; have := unhid HYL; omega) hx hy)
      have h2 : twiceB ys = false := by unfold twiceB; rw [decide_eq_true this]; rfl
      rw [← unhid HTW, h2]; rfl
end Go.Proofs.YtoihhlkidlapmaaGreat
