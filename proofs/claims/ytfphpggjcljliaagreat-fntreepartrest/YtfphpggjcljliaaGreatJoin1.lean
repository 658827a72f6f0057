/- Texts of this proof, one behind the other; each says at its head what it shows. -/
import Derived.Test.YtfphpggjcljliaaGreatProg
import Derived.WalkKit
import Derived.WalkLawsBesides
import Derived.Deep.QuietTactic
import Derived.BigQuiet
import Derived.Outline
import Derived.Deep.Draws
import Derived.Laws.AppendOwn
import Derived.RangeFuncBox
import Derived.RangeFuncNested
import Derived.RangeFuncBound
import Derived.RangeFuncCalls
import Derived.RangeFuncLeaves
import Derived.Shelf.Abstract
import Derived.Shelf.RegionOpen
import Derived.OwnWalkIn
import Derived.TacticsInMore
import Derived.LoopNIn
import Derived.LoopIn
import Derived.Lib.Strings
import Derived.Lib.Bytealg
import Derived.Laws.Externs
import Derived.Maps.AppendAt
import Derived.WalkSpells
import Derived.Deep.OwnRows
import Derived.Maps.OwnIn
import Derived.Deep.RegionWith
/- What the byte tests of the program and of its model answer: the byte is a figure, a letter, may stand in a name. -/
namespace Go.Proofs.YtfphpggjcljliaaGreat
open Go.RowKit

theorem hid {p : Prop} (h : p) : Hid p := h
theorem unhid {p : Prop} (h : Hid p) : p := h

def figB (c : Int) : Bool := decide (48 ≤ c) && decide (c ≤ 57)
def letB (c : Int) : Bool := decide (97 ≤ c) && decide (c ≤ 122)
def nameB (c : Int) : Bool := figB c || letB c || c == 46 || c == 95 || c == 45

set_option maxHeartbeats 400000 in
theorem isFigure_any (c : Int) (w : World) :
    Calls Tryz.prog 97 #[.int .u8 c] w fun e w' => e = .returned (.bool (figB c)) ∧ w' = w := by
  by_cases h1 : 48 ≤ c <;> by_cases h2 : c ≤ 57 <;>
  · go_enter Tryz.func97, Tryz.ntmps97
    go_wp2
    go_ret
    exact ⟨by simp [figB, h1, h2], rfl⟩

set_option maxHeartbeats 400000 in
theorem isLetter_any (c : Int) (w : World) :
    Calls Tryz.prog 98 #[.int .u8 c] w fun e w' => e = .returned (.bool (letB c)) ∧ w' = w := by
  by_cases h1 : 97 ≤ c <;> by_cases h2 : c ≤ 122 <;>
  · go_enter Tryz.func98, Tryz.ntmps98
    go_wp2
    go_ret
    exact ⟨by simp [letB, h1, h2], rfl⟩

set_option maxHeartbeats 1000000 in
theorem isNameByte_any (c : Int) (w : World) :
    Calls Tryz.prog 79 #[.int .u8 c] w fun e w' => e = .returned (.bool (nameB c)) ∧ w' = w := by
  cases h1 : figB c
  case' false => cases h2 : letB c
  case' false.false => cases h3 : (c == 46)
  case' false.false.false => cases h4 : (c == 95)
  case' false.false.false.false => cases h5 : (c == 45)
  all_goals
    go_enter Tryz.func79, Tryz.ntmps79
    go_wp2_with (first | (go_at_call 97; refine (isFigure_any _ _).mono ?_; rintro e w' ⟨rfl, rfl⟩) | (go_at_call 98; refine (isLetter_any _ _).mono ?_; rintro e w' ⟨rfl, rfl⟩))
    go_ret
    exact ⟨by simp_all [nameB], rfl⟩

set_option maxHeartbeats 1000000 in
theorem l1Small_any (c : Int) (w : World) :
    Calls Tryz.prog 94 #[.int .u8 c] w fun e w' => e = .returned (.bool (nameB c)) ∧ w' = w := by
  by_cases h1 : 97 ≤ c <;> by_cases h2 : c ≤ 122 <;> by_cases h6 : 48 ≤ c <;> by_cases h7 : c ≤ 57 <;> cases h3 : (c == 46) <;> cases h4 : (c == 95) <;> cases h5 : (c == 45)
  all_goals first | (exfalso; simp at *; omega) | skip
  all_goals
    go_enter Tryz.func94, Tryz.ntmps94
    go_wp2
    go_ret
    exact ⟨by simp_all [nameB, figB, letB], rfl⟩

set_option maxHeartbeats 400000 in
theorem l1In_any (n a b : Int) (w : World) :
    Calls Tryz.prog 51 #[.int .i64 n, .int .i64 a, .int .i64 b] w fun e w' => e = .returned (.bool (decide (a ≤ n) && decide (n ≤ b))) ∧ w' = w := by
  by_cases h1 : a ≤ n <;> by_cases h2 : n ≤ b <;>
  · go_enter Tryz.func51, Tryz.ntmps51
    go_wp2
    go_ret
    exact ⟨by simp [h1, h2], rfl⟩

end Go.Proofs.YtfphpggjcljliaaGreat

/- What the laws' draws give: numbers below a bound, texts that are short. -/
namespace Go.Proofs.YtfphpggjcljliaaGreat
open Go.RowKit

/-- The reader at block b: what it reads of, and where it stands. -/
structure Rd (w : World) (b : Nat) (a : Option Addr) (len cap p : Nat) : Prop where
  c0 : w.cell? ⟨b, 0, none⟩ = some (.slice a len cap)
  c1 : w.cell? ⟨b, 1, none⟩ = some (.int .i64 p)
  f1 : w.frozen? ⟨b, 1, none⟩ = false
  l : len ≤ 2000
  d : len = 0 ∨ ∃ blk off, a = some ⟨blk, off, none⟩ ∧ blk < b ∧ ∀ k, k < len → ∃ c : Nat, c < 256 ∧ w.cell? ⟨blk, off + k, none⟩ = some (.int .u8 c)

theorem wrap_in (x : Int) (h0 : 0 ≤ x) (h : x < 4611686018427387904) : IntKind.i64.wrap x = x := by
  rw [IntKind.wrap_i64]; omega
theorem xor_i64 (a b : Int) (ha0 : 0 ≤ a) (ha : a < 4611686018427387904) (hb0 : 0 ≤ b) (hb : b < 4611686018427387904) : 0 ≤ bits .xor .i64 a b := by
  obtain ⟨x, rfl⟩ := Int.eq_ofNat_of_zero_le ha0
  obtain ⟨y, rfl⟩ := Int.eq_ofNat_of_zero_le hb0
  have hx : x ^^^ y < 2 ^ 62 := Nat.xor_lt_two_pow (by omega) (by omega)
  have h1 : (BitVec.ofInt 64 (x : Int)).toNat = x := by
    rw [BitVec.ofInt_natCast, BitVec.toNat_ofNat]; exact Nat.mod_eq_of_lt (by omega)
  have h2 : (BitVec.ofInt 64 (y : Int)).toNat = y := by
    rw [BitVec.ofInt_natCast, BitVec.toNat_ofNat]; exact Nat.mod_eq_of_lt (by omega)
  show 0 ≤ IntKind.i64.wrap ((BitVec.ofInt 64 (x : Int) ^^^ BitVec.ofInt 64 (y : Int)).toNat : Int)
  rw [BitVec.toNat_xor, h1, h2, wrap_in _ (by omega) (by omega)]
  omega
theorem set1_grown (w : World) (b : Nat) (v : Value) : w.grownBy (w.setCell ⟨b, 1, none⟩ v) (some b) :=
  ⟨rfl, rfl, rfl, by simp, fun k _ hne => Below.heap_setCell w ⟨b, 1, none⟩ v k (fun e => hne (by rw [e]))⟩
theorem Rd.step {w : World} {b : Nat} {a : Option Addr} {len cap p : Nat} (h : Rd w b a len cap p) : Rd (w.setCell ⟨b, 1, none⟩ (.int .i64 ((p : Int) + 1))) b a len cap (p + 1) where
  c0 := by rw [World.cell?_setCell_other (h := by simp)]; exact h.c0
  c1 := by rw [World.cell?_setCell_same' _ _ _ (by rw [h.c1]; rfl)]; simp
  f1 := by rw [World.frozen?_setCell]; exact h.f1
  l := h.l
  d := by
    rcases h.d with h0 | ⟨blk, off, ha, hb, hc⟩
    · exact .inl h0
    · refine .inr ⟨blk, off, ha, hb, fun k hk => ?_⟩
      obtain ⟨c, h1, h2⟩ := hc k hk
      exact ⟨c, h1, (World.cell?_of_block (w := w) (Below.heap_setCell w ⟨b, 1, none⟩ _ blk (by simp; omega))).trans h2⟩
theorem Rd.drewN {w : World} {b : Nat} {a : Option Addr} {len cap p : Nat} (h : Rd w b a len cap p) (m : Nat) : Rd (w.drewN m) b a len cap p := ⟨h.c0, h.c1, h.f1, h.l, h.d⟩
theorem grown_drewN {w w' : World} {r : Option Nat} (h : w.grownBy w' r) (m : Nat) : w.grownBy (w'.drewN m) r := ⟨h.os, h.tape, h.output, h.size, h.block⟩

set_option maxRecDepth 100000 in
set_option maxHeartbeats 1000000 in
theorem pick_any (w : World) (b : Nat) (a : Option Addr) (len cap p : Nat) (h : Rd w b a len cap p) (hp : p ≤ 1048576) (n : Int) (h1 : 1 ≤ n) (h2 : n ≤ 1048576) :
    Calls Tryz.prog 32 #[.pointer (some ⟨b, 0, none⟩), .int .i64 n] w fun e w' => ∃ r : Nat, (r : Int) < n ∧ e = .returned (.int .i64 r) ∧ Rd w' b a len cap (p + 1) ∧ w.grownBy w' (some b) := by
  have hst := hid h.step
  have hgr := hid (set1_grown w b (.int .i64 ((p : Int) + 1)))
  obtain ⟨c0, c1, f1, l, d⟩ := h
  have D := hid d
  clear d
  by_cases hl : len = 0
  · subst hl
    go_enter Tryz.func32, Tryz.ntmps32
    go_wp2
    go_ret
    exact ⟨0, by omega, rfl, unhid hst, unhid hgr⟩
  · have hl0 : ((len : Int) == 0) = false := by rw [beq_eq_false_iff_ne]; omega
    obtain ⟨blk, off, rfl, hb, hc⟩ := (unhid D).resolve_left hl
    by_cases hk : p < len
    · obtain ⟨c, hc1, hc2⟩ := hc p hk
      have Hc := hid hc
      clear hc
      go_enter Tryz.func32, Tryz.ntmps32
      go_wp2
      go_ret
      refine ⟨((c : Int) % n).toNat, ?_, ?_, unhid hst, unhid hgr⟩
      · have := Int.emod_lt_of_pos (c : Int) (show 0 < n by omega); have := Int.emod_nonneg (c : Int) (show n ≠ 0 by omega); omega
      · rw [Int.toNat_of_nonneg (Int.emod_nonneg _ (by omega))]; rfl
    · obtain ⟨q, hq, hql⟩ : ∃ q : Nat, (p : Int).tmod len = q ∧ q < len := ⟨p % len, by rw [Int.tmod_eq_emod_of_nonneg (by omega)]; simp, Nat.mod_lt _ (by omega)⟩
      obtain ⟨q2, hq2, hql2⟩ : ∃ q2 : Nat, ((p : Int) * 7 + 3).tmod len = q2 ∧ q2 < len := ⟨(p * 7 + 3) % len, by rw [Int.tmod_eq_emod_of_nonneg (by omega)]; simp, Nat.mod_lt _ (by omega)⟩
      obtain ⟨d, hd, hdl⟩ : ∃ d : Nat, (p : Int).tdiv len = d ∧ d ≤ p := ⟨p / len, by rw [Int.tdiv_eq_ediv_of_nonneg (by omega)]; simp, Nat.div_le_self _ _⟩
      obtain ⟨x, hx1, hx2⟩ := hc _ hql
      obtain ⟨y, hy1, hy2⟩ := hc _ hql2
      have Hc := hid hc
      clear hc
      have w1 := wrap_in ((p : Int) * 7) (by omega) (by omega)
      have w2 := wrap_in ((p : Int) * 7 + 3) (by omega) (by omega)
      have e1 := wrap_in ((x : Int) * 131) (by omega) (by omega)
      have e2 := wrap_in ((y : Int) * 1117) (by omega) (by omega)
      have e3 := wrap_in ((x : Int) * 131 + (y : Int) * 1117) (by omega) (by omega)
      have e4 := wrap_in ((p : Int) * 29) (by omega) (by omega)
      have e5 := wrap_in ((x : Int) * 131 + (y : Int) * 1117 + (p : Int) * 29) (by omega) (by omega)
      have e6 := wrap_in ((d : Int) * 53) (by omega) (by omega)
      have e7 := wrap_in ((x : Int) * 131 + (y : Int) * 1117 + (p : Int) * 29 + (d : Int) * 53) (by omega) (by omega)
      go_enter Tryz.func32, Tryz.ntmps32
      go_wp2
      refine wp_region_quiet_lit (by kernel_rfl) (by kernel_rfl) ?_
      repeat (quiet_step (fail))
      refine wpQuiet_nil ?_
      intro _ hw'
      obtain ⟨nq, hw''⟩ := hw'
      subst hw''
      go_wp2
      go_ret
      have hx0 := xor_i64 ((x : Int) * 131 + (y : Int) * 1117 + (p : Int) * 29 + (d : Int) * 53) (((x : Int) * 131 + (y : Int) * 1117 + (p : Int) * 29 + (d : Int) * 53) / 64) (by omega) (by omega) (by omega) (by omega)
      generalize hX : bits .xor .i64 ((x : Int) * 131 + (y : Int) * 1117 + (p : Int) * 29 + (d : Int) * 53) (((x : Int) * 131 + (y : Int) * 1117 + (p : Int) * 29 + (d : Int) * 53) / 64) = X at hx0 ⊢
      have t0 : X.tmod n = X % n := Int.tmod_eq_emod_of_nonneg hx0
      have t1 := Int.emod_lt_of_pos X (show 0 < n by omega)
      have t2 := Int.emod_nonneg X (show n ≠ 0 by omega)
      refine ⟨(X % n).toNat, by omega, ?_, (unhid hst).drewN _, grown_drewN (unhid hgr) _⟩
      rw [Int.toNat_of_nonneg t2, ← t0]
      rfl
end Go.Proofs.YtfphpggjcljliaaGreat

/- What the laws' draws of paths give: texts of at most a hundred bytes. -/
namespace Go.Proofs.YtfphpggjcljliaaGreat
open Go.RowKit

theorem grown_trans {x y z : World} {b : Nat} (h : x.grownBy y (some b)) (g : y.grownBy z (some b)) : x.grownBy z (some b) :=
  ⟨g.os.trans h.os, g.tape.trans h.tape, g.output.trans h.output, Nat.le_trans h.size g.size, fun k hk hne => (g.block k (Nat.lt_of_lt_of_le hk h.size) hne).trans (h.block k hk hne)⟩
theorem grown_below {x y : World} {b B : Nat} (h : x.grownBy y (some b)) (hB : B ≤ b) (hs : B ≤ x.heap.size) : Below B x y :=
  ⟨h.os, h.tape, h.output, h.size, fun k hk => h.block k (by omega) (fun e => by cases e; omega)⟩
theorem Rd.lt {w : World} {b : Nat} {a : Option Addr} {len cap p : Nat} (h : Rd w b a len cap p) : b < w.heap.size := by
  have h0 := h.c0
  unfold World.cell? at h0
  cases hh : w.heap[b]? with
  | none => simp [hh] at h0
  | some o => exact (Array.getElem?_eq_some_iff.1 hh).1
theorem Rd.of_below {w w' : World} {b : Nat} {a : Option Addr} {len cap p : Nat} (h : Rd w b a len cap p) (hB : Below w.heap.size w w') : Rd w' b a len cap p where
  c0 := (hB.cell (p := ⟨b, 0, none⟩) h.lt).trans h.c0
  c1 := (hB.cell (p := ⟨b, 1, none⟩) h.lt).trans h.c1
  f1 := (hB.frozen (p := ⟨b, 1, none⟩) h.lt).trans h.f1
  l := h.l
  d := by
    rcases h.d with h0 | ⟨blk, off, ha, hb, hc⟩
    · exact .inl h0
    · refine .inr ⟨blk, off, ha, hb, fun k hk => ?_⟩
      obtain ⟨c, h1, h2⟩ := hc k hk
      exact ⟨c, h1, (hB.cell (p := ⟨blk, off + k, none⟩) (by have := h.lt; simp; omega)).trans h2⟩
theorem Rd.alloc {w : World} {b : Nat} {a : Option Addr} {len cap p : Nat} (h : Rd w b a len cap p) (o : Obj) : Rd (w.alloc o) b a len cap p :=
  h.of_below ((Below.refl _ w).alloc (Nat.le_refl _) o)

set_option maxRecDepth 100000 in
set_option maxHeartbeats 1000000 in
theorem of_any (P : ByteArray → Prop) (w : World) (b : Nat) (a : Option Addr) (len cap p : Nat) (h : Rd w b a len cap p) (hp : p ≤ 1048576) (g m c : Nat) (hg : g ≠ b) (h1 : 1 ≤ m) (h2 : m ≤ 1048576)
    (hl : ∀ k, k < m → ∃ x, P x ∧ w.cell? ⟨g, k, none⟩ = some (.string x)) :
    Calls Tryz.prog 34 #[.pointer (some ⟨b, 0, none⟩), .slice (some ⟨g, 0, none⟩) m c] w fun e w' => ∃ x, P x ∧ e = .returned (.string x) ∧ Rd w' b a len cap (p + 1) ∧ w.grownBy w' (some b) := by
  have H := hid h
  have Hl := hid hl
  have hlt : g < w.heap.size := by
    obtain ⟨x, _, hx⟩ := hl 0 (by omega)
    unfold World.cell? at hx
    cases hh : w.heap[g]? with
    | none => simp [hh] at hx
    | some o => exact (Array.getElem?_eq_some_iff.1 hh).1
  clear h hl
  go_enter Tryz.func34, Tryz.ntmps34
  go_wp2_with fail
  refine (pick_any w b a len cap p (unhid H) hp m (by omega) (by omega)).mono ?_
  rintro e w1 ⟨r, hr, rfl, hR, hG⟩
  have hr' : r < m := by omega
  obtain ⟨x, hP, hx⟩ := unhid Hl r hr'
  have hx1 : w1.cell? ⟨g, r, none⟩ = some (.string x) := (World.cell?_of_block (w := w) (hG.block g hlt (fun e => hg (by cases e; rfl)))).trans hx
  have HR := hid hR
  have HG := hid hG
  clear hR hG hx
  go_wp2_with fail
  go_ret
  exact ⟨x, hP, rfl, unhid HR, unhid HG⟩

/-- A text of at most a hundred bytes. -/
def short (x : ByteArray) : Prop := x.size ≤ 100
def shortV : Value → Bool
  | .string x => decide (x.size ≤ 100)
  | _ => false
theorem row_short (w : World) (cs : Array Value) (t : TypeId) (h : cs.toList.all shortV = true) (k : Nat) (hk : k < cs.size) : ∃ x, short x ∧ (w.alloc (.cells cs t)).cell? ⟨w.heap.size, k, none⟩ = some (.string x) := by
  have h1 : (w.alloc (.cells cs t)).cell? ⟨w.heap.size, k, none⟩ = cs[k]? := by
    have := World.alloc_heap_new w (.cells cs t)
    unfold World.cell?
    dsimp only
    rw [this]
    simp
  rw [List.all_eq_true] at h
  have h2 := h cs[k] (by simp)
  rw [h1, Array.getElem?_eq_getElem hk]
  revert h2
  cases cs[k] <;> simp [shortV, short]

set_option maxRecDepth 100000 in
set_option maxHeartbeats 1000000 in
theorem l11Path_any (w : World) (b : Nat) (a : Option Addr) (len cap p : Nat) (h : Rd w b a len cap p) (hp : p ≤ 1048576) :
    Calls Tryz.prog 80 #[.pointer (some ⟨b, 0, none⟩)] w fun e w' => ∃ x, short x ∧ e = .returned (.string x) ∧ Rd w' b a len cap (p + 1) ∧ w.grownBy w' (some b) := by
  have H := hid h
  clear h
  go_enter Tryz.func80, Tryz.ntmps80
  go_wp2_with fail
  have hb := (unhid H).lt
  refine (of_any short _ b a len cap p ?h1 hp w.heap.size 12 12 ?h2 (by omega) (by omega) ?h5).mono ?_
  case h1 => exact (unhid H).alloc _
  case h2 => omega
  case h5 => exact fun k hk => row_short w _ _ (by kernel_rfl) k hk
  rintro e w1 ⟨x, hx, rfl, hR, hG⟩
  have hG' := grown_trans (World.grownBy_alloc w _ (some b)) hG
  have HR := hid hR
  have HG := hid hG'
  clear hR hG hG'
  go_wp2_with fail
  go_ret
  exact ⟨x, hx, rfl, unhid HR, unhid HG⟩

set_option maxRecDepth 100000 in
set_option maxHeartbeats 1000000 in
theorem l11AnyPath_any (w : World) (b : Nat) (a : Option Addr) (len cap p : Nat) (h : Rd w b a len cap p) (hp : p ≤ 1000000) :
    Calls Tryz.prog 59 #[.pointer (some ⟨b, 0, none⟩)] w fun e w' => ∃ x, short x ∧ e = .returned (.string x) ∧ Rd w' b a len cap (p + 1 + 1) ∧ w.grownBy w' (some b) := by
  have H := hid h
  clear h
  go_enter Tryz.func59, Tryz.ntmps59
  go_wp2_with fail
  refine (pick_any w b a len cap p (unhid H) (by omega) 6 (by omega) (by omega)).mono ?_
  rintro e w1 ⟨r, hr, rfl, hR, hG⟩
  have HR := hid hR
  have HG := hid hG
  clear hR hG
  by_cases h0 : r = 0
  · have h0' : ((r : Int) == 0) = true := by simp [h0]
    go_wp2_with fail
    have hb := (unhid HR).lt
    refine (of_any short _ b a len cap (p + 1) ?h1 (by omega) w1.heap.size 12 12 ?h2 (by omega) (by omega) ?h5).mono ?_
    case h1 => exact (unhid HR).alloc _
    case h2 => omega
    case h5 => exact fun k hk => row_short w1 _ _ (by kernel_rfl) k hk
    rintro e w2 ⟨x, hx, rfl, hR, hG⟩
    have hG' := grown_trans (unhid HG) (grown_trans (World.grownBy_alloc w1 _ (some b)) hG)
    have HR2 := hid hR
    have HG2 := hid hG'
    clear hR hG hG'
    go_wp2_with fail
    go_ret
    exact ⟨x, hx, rfl, unhid HR2, unhid HG2⟩
  · have h0' : ((r : Int) == 0) = false := by rw [beq_eq_false_iff_ne]; omega
    go_wp2_with fail
    refine (l11Path_any w1 b a len cap (p + 1) (unhid HR) (by omega)).mono ?_
    rintro e w2 ⟨x, hx, rfl, hR, hG⟩
    have hG' := grown_trans (unhid HG) hG
    have HR2 := hid hR
    have HG2 := hid hG'
    clear hR hG hG'
    go_wp2_with fail
    go_ret
    exact ⟨x, hx, rfl, unhid HR2, unhid HG2⟩

/-- What a law is handed: bytes that can be read below a bound. -/
def Code (w : World) (B : Nat) (a : Option Addr) (len : Nat) : Prop :=
  len = 0 ∨ ∃ blk off, a = some ⟨blk, off, none⟩ ∧ blk < B ∧ ∀ k, k < len → ∃ c : Nat, c < 256 ∧ w.cell? ⟨blk, off + k, none⟩ = some (.int .u8 c)

theorem Code.less {w : World} {B : Nat} {a : Option Addr} {len m : Nat} (h : Code w B a len) (hm : m ≤ len) : Code w B a m := by
  rcases h with h | ⟨blk, off, ha, hb, hc⟩
  · exact .inl (by omega)
  · exact .inr ⟨blk, off, ha, hb, fun k hk => hc k (by omega)⟩
theorem rd_new (w : World) (a : Option Addr) (len cap : Nat) (t : TypeId) (h : Code w w.heap.size a len) (hl : len ≤ 2000) : Rd (w.alloc (.cells #[.slice a len cap, .int .i64 0] t)) w.heap.size a len cap 0 := by
  have hn := World.alloc_heap_new w (.cells #[.slice a len cap, .int .i64 0] t)
  refine ⟨?_, ?_, ?_, hl, ?_⟩
  · unfold World.cell?; dsimp only; rw [hn]; simp
  · unfold World.cell?; dsimp only; rw [hn]; simp
  · unfold World.frozen?; dsimp only; rw [hn]; simp
  · rcases h with h | ⟨blk, off, ha, hb, hc⟩
    · exact .inl h
    · refine .inr ⟨blk, off, ha, hb, fun k hk => ?_⟩
      obtain ⟨c, h1, h2⟩ := hc k hk
      exact ⟨c, h1, (((Below.refl w.heap.size w).alloc (Nat.le_refl _) _).cell (p := ⟨blk, off + k, none⟩) hb).trans h2⟩

set_option maxRecDepth 100000 in
set_option maxHeartbeats 1000000 in
theorem l1Open_any (w : World) (a : Option Addr) (len cap : Nat) (h : Code w w.heap.size a len) (hl : len ≤ 1048576) (hc : len ≤ cap) :
    Calls Tryz.prog 13 #[.slice a len cap] w fun e w' => e = .returned (.pointer (some ⟨w.heap.size, 0, none⟩)) ∧ (∃ l' c', Rd w' w.heap.size a l' c' 0) ∧ Below w.heap.size w w' := by
  have H := hid h
  clear h
  by_cases h2 : (2000 : Int) < len
  · go_enter Tryz.func13, Tryz.ntmps13
    go_wp2
    go_ret
    exact ⟨rfl, ⟨_, _, rd_new w a 2000 cap _ ((unhid H).less (by omega)) (Nat.le_refl _)⟩, (Below.refl _ _).alloc (Nat.le_refl _) _⟩
  · go_enter Tryz.func13, Tryz.ntmps13
    go_wp2
    go_ret
    exact ⟨rfl, ⟨_, _, rd_new w a len cap _ (unhid H) (by omega)⟩, (Below.refl _ _).alloc (Nat.le_refl _) _⟩



end Go.Proofs.YtfphpggjcljliaaGreat

/- Draws of paths, numbers and texts. A drawn path begins neither with fr nor with ne. -/
namespace Go.Proofs.YtfphpggjcljliaaGreat
open Go.RowKit

def niceB (l : List UInt8) : Bool := decide (l.length ≤ 100) && (l.take 2 != [102, 114] && l.take 2 != [110, 101])
def nice (x : ByteArray) : Prop := niceB x.data.toList = true
def niceV : Value → Bool
  | .string x => niceB x.data.toList
  | _ => false
theorem nice_short {x : ByteArray} (h : nice x) : x.size ≤ 100 := by
  unfold nice niceB at h
  simp only [Bool.and_eq_true, decide_eq_true_eq] at h
  have := h.1
  simpa using this
theorem row_nice (w : World) (cs : Array Value) (t : TypeId) (h : cs.toList.all niceV = true) (k : Nat) (hk : k < cs.size) : ∃ x, nice x ∧ (w.alloc (.cells cs t)).cell? ⟨w.heap.size, k, none⟩ = some (.string x) := by
  have h1 : (w.alloc (.cells cs t)).cell? ⟨w.heap.size, k, none⟩ = cs[k]? := by
    have := World.alloc_heap_new w (.cells cs t)
    unfold World.cell?
    dsimp only
    rw [this]
    simp
  rw [List.all_eq_true] at h
  have h2 := h cs[k] (by simp)
  rw [h1, Array.getElem?_eq_getElem hk]
  revert h2
  cases cs[k] <;> simp [niceV, nice]

set_option maxRecDepth 100000 in
set_option maxHeartbeats 1000000 in
theorem l11Path_nice (w : World) (b : Nat) (a : Option Addr) (len cap p : Nat) (h : Rd w b a len cap p) (hp : p ≤ 1048576) :
    Calls Tryz.prog 80 #[.pointer (some ⟨b, 0, none⟩)] w fun e w' => ∃ x, nice x ∧ e = .returned (.string x) ∧ Rd w' b a len cap (p + 1) ∧ w.grownBy w' (some b) := by
  have H := hid h
  clear h
  go_enter Tryz.func80, Tryz.ntmps80
  go_wp2_with fail
  have hb := (unhid H).lt
  refine (of_any nice _ b a len cap p ?h1 hp w.heap.size 12 12 ?h2 (by omega) (by omega) ?h5).mono ?_
  case h1 => exact (unhid H).alloc _
  case h2 => omega
  case h5 => exact fun k hk => row_nice w _ _ (by kernel_rfl) k hk
  rintro e w1 ⟨x, hx, rfl, hR, hG⟩
  have hG' := grown_trans (World.grownBy_alloc w _ (some b)) hG
  have HR := hid hR
  have HG := hid hG'
  clear hR hG hG'
  go_wp2_with fail
  go_ret
  exact ⟨x, hx, rfl, unhid HR, unhid HG⟩

set_option maxRecDepth 100000 in
set_option maxHeartbeats 1000000 in
theorem l11AnyPath_nice (w : World) (b : Nat) (a : Option Addr) (len cap p : Nat) (h : Rd w b a len cap p) (hp : p ≤ 1000000) :
    Calls Tryz.prog 59 #[.pointer (some ⟨b, 0, none⟩)] w fun e w' => ∃ x, nice x ∧ e = .returned (.string x) ∧ Rd w' b a len cap (p + 1 + 1) ∧ w.grownBy w' (some b) := by
  have H := hid h
  clear h
  go_enter Tryz.func59, Tryz.ntmps59
  go_wp2_with fail
  refine (pick_any w b a len cap p (unhid H) (by omega) 6 (by omega) (by omega)).mono ?_
  rintro e w1 ⟨r, hr, rfl, hR, hG⟩
  have HR := hid hR
  have HG := hid hG
  clear hR hG
  by_cases h0 : r = 0
  · have h0' : ((r : Int) == 0) = true := by simp [h0]
    go_wp2_with fail
    have hb := (unhid HR).lt
    refine (of_any nice _ b a len cap (p + 1) ?h1 (by omega) w1.heap.size 12 12 ?h2 (by omega) (by omega) ?h5).mono ?_
    case h1 => exact (unhid HR).alloc _
    case h2 => omega
    case h5 => exact fun k hk => row_nice w1 _ _ (by kernel_rfl) k hk
    rintro e w2 ⟨x, hx, rfl, hR, hG⟩
    have hG' := grown_trans (unhid HG) (grown_trans (World.grownBy_alloc w1 _ (some b)) hG)
    have HR2 := hid hR
    have HG2 := hid hG'
    clear hR hG hG'
    go_wp2_with fail
    go_ret
    exact ⟨x, hx, rfl, unhid HR2, unhid HG2⟩
  · have h0' : ((r : Int) == 0) = false := by rw [beq_eq_false_iff_ne]; omega
    go_wp2_with fail
    refine (l11Path_nice w1 b a len cap (p + 1) (unhid HR) (by omega)).mono ?_
    rintro e w2 ⟨x, hx, rfl, hR, hG⟩
    have hG' := grown_trans (unhid HG) hG
    have HR2 := hid hR
    have HG2 := hid hG'
    clear hR hG hG'
    go_wp2_with fail
    go_ret
    exact ⟨x, hx, rfl, unhid HR2, unhid HG2⟩

set_option maxRecDepth 100000 in
set_option maxHeartbeats 1000000 in
theorem one_any (P : Int → Prop) (w : World) (b : Nat) (a : Option Addr) (len cap p : Nat) (h : Rd w b a len cap p) (hp : p ≤ 1048576) (g m c : Nat) (hg : g ≠ b) (h1 : 1 ≤ m) (h2 : m ≤ 1048576)
    (hl : ∀ k, k < m → ∃ x, P x ∧ w.cell? ⟨g, k, none⟩ = some (.int .i64 x)) :
    Calls Tryz.prog 60 #[.pointer (some ⟨b, 0, none⟩), .slice (some ⟨g, 0, none⟩) m c] w fun e w' => ∃ x, P x ∧ e = .returned (.int .i64 x) ∧ Rd w' b a len cap (p + 1) ∧ w.grownBy w' (some b) := by
  have H := hid h
  have Hl := hid hl
  have hlt : g < w.heap.size := by
    obtain ⟨x, _, hx⟩ := hl 0 (by omega)
    unfold World.cell? at hx
    cases hh : w.heap[g]? with
    | none => simp [hh] at hx
    | some o => exact (Array.getElem?_eq_some_iff.1 hh).1
  clear h hl
  go_enter Tryz.func60, Tryz.ntmps60
  go_wp2_with fail
  refine (pick_any w b a len cap p (unhid H) hp m (by omega) (by omega)).mono ?_
  rintro e w1 ⟨r, hr, rfl, hR, hG⟩
  have hr' : r < m := by omega
  obtain ⟨x, hP, hx⟩ := unhid Hl r hr'
  have hx1 : w1.cell? ⟨g, r, none⟩ = some (.int .i64 x) := (World.cell?_of_block (w := w) (hG.block g hlt (fun e => hg (by cases e; rfl)))).trans hx
  have HR := hid hR
  have HG := hid hG
  clear hR hG hx
  go_wp2_with fail
  go_ret
  exact ⟨x, hP, rfl, unhid HR, unhid HG⟩

def intV (P : Int → Bool) : Value → Bool
  | .int .i64 x => P x
  | _ => false
theorem row_int (P : Int → Bool) (w : World) (cs : Array Value) (t : TypeId) (B : Nat) (hB : B = w.heap.size) (h : cs.toList.all (intV P) = true) (k : Nat) (hk : k < cs.size) : ∃ x, P x = true ∧ (w.alloc (.cells cs t)).cell? ⟨B, k, none⟩ = some (.int .i64 x) := by
  subst hB
  have h1 : (w.alloc (.cells cs t)).cell? ⟨w.heap.size, k, none⟩ = cs[k]? := by
    have := World.alloc_heap_new w (.cells cs t)
    unfold World.cell?
    dsimp only
    rw [this]
    simp
  rw [List.all_eq_true] at h
  have h2 := h cs[k] (by simp)
  rw [h1, Array.getElem?_eq_getElem hk]
  revert h2
  unfold intV
  split <;> simp_all

theorem ba_eq {x y : ByteArray} (h : x.data.toList = y.data.toList) : x = y := by
  obtain ⟨⟨l⟩⟩ := x; obtain ⟨⟨m⟩⟩ := y; simp at h; subst h; rfl
/-- A text many times. -/
def rep (s : ByteArray) (n : Nat) : ByteArray := ⟨⟨(List.replicate n s.data.toList).flatten⟩⟩
theorem rep_add (s : ByteArray) (a b : Nat) : rep s a ++ rep s b = rep s (a + b) := by
  apply ba_eq
  rw [ByteArray.data_append, Array.toList_append]
  show (List.replicate a s.data.toList).flatten ++ (List.replicate b s.data.toList).flatten = (List.replicate (a + b) s.data.toList).flatten
  rw [← List.flatten_append, List.replicate_append_replicate]
theorem rep_size (s : ByteArray) (a : Nat) : (rep s a).size = a * s.size := by
  show (List.replicate a s.data.toList).flatten.length = a * s.data.toList.length
  simp
theorem rep_one (s : ByteArray) : rep s 1 = s := by
  apply ba_eq
  show (List.replicate 1 s.data.toList).flatten = s.data.toList
  simp
theorem rep_nil (s : ByteArray) : rep s 0 = ⟨#[]⟩ := rfl
set_option maxRecDepth 100000 in
set_option maxHeartbeats 1000000 in
theorem many_rep (s : ByteArray) (N : Nat) (hs : s.size ≤ 10) (hN : N ≤ 100) (w : World) : Calls Tryz.prog 35 #[.string s, .int .i64 N] w fun e w' => e = .returned (.string (rep s N)) ∧ w' = w := by
  have R1 := hid (rep_one s)
  have z0 := rep_size s
  have hz : ∀ n, n ≤ 200 → (rep s n).size ≤ 2000 := fun n hn => by rw [rep_size]; exact Nat.le_trans (Nat.mul_le_mul hn hs) (by omega)
  have HZ := hid hz
  clear z0 hz
  go_enter Tryz.func35, Tryz.ntmps35
  go_wp2_with fail
  go_loop [0, 1, 5] (fun t n o => ∃ a b k : Nat, t = .string (rep s b) ∧ n = .int .i64 k ∧ o = .string (rep s a) ∧ a + b * k = N ∧ b ≤ 200 ∧ 1 ≤ b ∧ (0 < k → b ≤ N)) (fun _ n _ => (intOf n).toNat)
  case atStart => exact ⟨0, 1, N, by rw [unhid R1], rfl, rfl, by omega, by omega, by omega, fun h => h⟩
  case round =>
    obtain ⟨a, b, k, rfl, rfl, rfl, hs, hb, hb1, hbk⟩ := hrel
    have hkN : k ≤ N := by have := Nat.le_mul_of_pos_left k (show 0 < b by omega); omega
    have ea := hid (rep_add s a b)
    have eb := hid (rep_add s b b)
    by_cases hk : 0 < k
    · have hbN := hbk hk
      have haN : a ≤ N := by omega
      have za := unhid HZ a (by omega)
      have zb := unhid HZ b (by omega)
      have hk0 : (0 : Int) < k := by omega
      by_cases ho : k % 2 = 1
      · have ho' : ((k : Int) % 2 == 1) = true := by simp; omega
        obtain ⟨q, rfl⟩ : ∃ q, k = 2 * q + 1 := ⟨k / 2, by omega⟩
        have e1 : b * (2 * q + 1) = 2 * (b * q) + b := by rw [Nat.mul_add, Nat.mul_one, ← Nat.mul_assoc, Nat.mul_comm b 2, Nat.mul_assoc]
        have e2 : (b + b) * q = 2 * (b * q) := by rw [← Nat.two_mul, Nat.mul_assoc]
        have hq : 0 < q → b ≤ b * q := fun h => Nat.le_mul_of_pos_right b h
        have E := hid (And.intro e1 (And.intro e2 hq))
        clear e1 e2 hq
        go_wp2_with fail
        go_round
        case rel => obtain ⟨e1, e2, hq⟩ := unhid E; exact ⟨a + b, b + b, q, by rw [unhid eb], by congr 1 <;> omega, by rw [unhid ea], by omega, by omega, by omega, fun h => by have := hq h; omega⟩
        case measure => simp [intOf]; omega
      · have ho' : ((k : Int) % 2 == 1) = false := by simp; omega
        obtain ⟨q, rfl⟩ : ∃ q, k = 2 * q := ⟨k / 2, by omega⟩
        have e1 : b * (2 * q) = 2 * (b * q) := by rw [← Nat.mul_assoc, Nat.mul_comm b 2, Nat.mul_assoc]
        have e2 : (b + b) * q = 2 * (b * q) := by rw [← Nat.two_mul, Nat.mul_assoc]
        have hq : 0 < q → b ≤ b * q := fun h => Nat.le_mul_of_pos_right b h
        have E := hid (And.intro e1 (And.intro e2 hq))
        clear e1 e2 hq
        go_wp2_with fail
        go_round
        case rel => obtain ⟨e1, e2, hq⟩ := unhid E; exact ⟨a, b + b, q, by rw [unhid eb], by congr 1 <;> omega, rfl, by omega, by omega, by omega, fun h => by have := hq h; omega⟩
        case measure => simp [intOf]; omega
    · have hk0 : ¬ (0 : Int) < k := by omega
      have : k = 0 := by omega
      subst this
      have : a = N := by omega
      subst this
      go_wp2_with fail
      go_ret
      exact ⟨rfl, rfl⟩

theorem row_short2 (w : World) (cs : Array Value) (t : TypeId) (B : Nat) (hB : B = w.heap.size) (h : cs.toList.all shortV = true) (k : Nat) (hk : k < cs.size) : ∃ x, short x ∧ (w.alloc (.cells cs t)).cell? ⟨B, k, none⟩ = some (.string x) := by
  subst hB; exact row_short w cs t h k hk
theorem texts_short (y : ByteArray) (hy : y.size ≤ 100) : (#[Value.string ⟨#[]⟩, .string ⟨#[111, 110, 101, 10]⟩, .string ⟨#[111, 110, 101, 10, 116, 119, 111, 10, 116, 104, 114, 101, 101, 10]⟩, .string ⟨#[110, 111, 32, 101, 110, 100]⟩, .string ⟨#[97, 10, 98, 10, 99, 10, 100, 10, 101, 10, 102, 10, 103, 10]⟩, .string y] : Array Value).toList.all shortV = true := by
  have : decide (y.size ≤ 100) = true := decide_eq_true hy
  simp only [List.all_cons, List.all_nil, Bool.and_true, shortV, this]
  decide
set_option maxRecDepth 100000 in
set_option maxHeartbeats 1000000 in
theorem l11Text_any (w : World) (b : Nat) (a : Option Addr) (len cap p : Nat) (h : Rd w b a len cap p) (hp : p ≤ 1048576) :
    Calls Tryz.prog 81 #[.pointer (some ⟨b, 0, none⟩)] w fun e w' => ∃ x, short x ∧ e = .returned (.string x) ∧ Rd w' b a len cap (p + 1) ∧ w.grownBy w' (some b) := by
  have H := hid h
  clear h
  have hz : (rep ⟨#[116]⟩ 80).size ≤ 100 := by rw [rep_size]; decide
  go_enter Tryz.func81, Tryz.ntmps81
  go_wp2_with fail
  refine (many_rep ⟨#[116]⟩ 80 (by decide) (by omega) w).mono ?_
  rintro e w0 ⟨rfl, rfl⟩
  generalize rep ⟨#[116]⟩ 80 = y at hz
  go_wp2_with fail
  have hb := (unhid H).lt
  refine (of_any short _ b a len cap p ?h1 hp w0.heap.size 6 6 ?h2 (by omega) (by omega) ?h5).mono ?_
  case h1 => exact (unhid H).alloc _
  case h2 => omega
  case h5 => exact fun k hk => row_short w0 _ _ (texts_short y hz) k hk
  rintro e w1 ⟨x, hx, rfl, hR, hG⟩
  have hG' := grown_trans (World.grownBy_alloc w0 _ (some b)) hG
  have HR := hid hR
  have HG := hid hG'
  clear hR hG hG'
  go_wp2_with fail
  go_ret
  exact ⟨x, hx, rfl, unhid HR, unhid HG⟩
end Go.Proofs.YtfphpggjcljliaaGreat

/- What the program's iterator over the bytes of a text tells, and 'all bytes of a text are taken by a function'. -/
namespace Go.Proofs.YtfphpggjcljliaaGreat
open Go.RowKit Go.Shelf

attribute [local go_sem] Oper.semAt_some



theorem cell_of_box_l {W : World} {B : Nat} {v : Value} {t : TypeId} (h : W.heap[B]? = some (.cells #[v] t (0, 0))) : W.cell? ⟨B, 0, none⟩ = some v ∧ W.frozen? ⟨B, 0, none⟩ = false := by
  constructor <;> simp [World.cell?, World.frozen?, h]
theorem cell_new_l (W : World) (v : Value) (t : TypeId) : (W.alloc (.cells #[v] t)).cell? ⟨W.heap.size, 0, none⟩ = some v ∧ (W.alloc (.cells #[v] t)).frozen? ⟨W.heap.size, 0, none⟩ = false :=
  cell_of_box_l (World.alloc_heap_new W _)
theorem cell_alloc_l {W : World} {a : Addr} {v : Value} (o : Obj) (h : W.cell? a = some v) : (W.alloc o).cell? a = some v := cell_kept h (World.grownBy_alloc W o none) (fun r e => by cases e)
theorem frozen_alloc_l {W : World} {a : Addr} {v : Value} (o : Obj) (h : W.cell? a = some v) (hf : W.frozen? a = false) : (W.alloc o).frozen? a = false := (frozen_kept h (World.grownBy_alloc W o none) (fun r e => by cases e)).trans hf

/-- What the cells at the blocks of A hold stays. -/
def Keeps (A : List Nat) (W W' : World) : Prop := ∀ b, b ∈ A → ∀ v, W.cell? ⟨b, 0, none⟩ = some v → W'.cell? ⟨b, 0, none⟩ = some v
theorem Keeps.refl (A : List Nat) (W : World) : Keeps A W W := fun _ _ _ h => h
theorem Keeps.t {A : List Nat} {X Y Z : World} (h : Keeps A X Y) (g : Keeps A Y Z) : Keeps A X Z := fun b hb v e => g b hb v (h b hb v e)
theorem Keeps.b {A : List Nat} {m : Nat} (W : World) (l : Nat) (o o' : Obj) (_ : m ≤ l) (h : W.heap[l]? = some o) (hc : o.isCells = false) (_ : o.isWalk = false) : Keeps A W (W.putObj l o') :=
  fun _ _ _ e => cell_kept e (grownBy_putObj' _ l o') (fun r e' => by cases e'; exact ⟨_, h, hc⟩)
theorem Keeps.of_below {A : List Nat} {B : Nat} {W W' : World} (h : Below B W W') (hA : ∀ b ∈ A, b < B) : Keeps A W W' := fun b hb _ e => (h.cell (p := ⟨b, 0, none⟩) (hA b hb)).trans e

theorem KeepsOthers_of_below {W W' : World} (h : Below W.heap.size W W') : KeepsOthers W W' := ⟨h.size, fun k _ hk _ => (h.block k (Array.getElem?_eq_some_iff.1 hk).1).trans hk⟩
theorem Keeps.setCell {A : List Nat} (W : World) (b : Nat) (v : Value) (h : b ∉ A) : Keeps A W (W.setCell ⟨b, 0, none⟩ v) := fun c hc u e => by
  rw [World.cell?_of_block (w := W) (Below.heap_setCell W ⟨b, 0, none⟩ v c (fun x => h (by cases x; exact hc)))]; exact e
theorem set_same {W : World} {a : Addr} {u v : Value} (h : W.cell? a = some u) : (W.setCell a v).cell? a = some v := World.cell?_setCell_same' _ _ _ (by rw [h]; rfl)
theorem set_far (W : World) (b c : Nat) (v : Value) (h : b ≠ c) : (W.setCell ⟨b, 0, none⟩ v).cell? ⟨c, 0, none⟩ = W.cell? ⟨c, 0, none⟩ := World.cell?_of_block (w := W) (Below.heap_setCell W ⟨b, 0, none⟩ v c (fun e => h e.symm))
theorem below_lt {W : World} {a : Nat} {v : Value} (h : W.cell? ⟨a, 0, none⟩ = some v) : a < W.heap.size := by
  unfold World.cell? at h
  cases hh : W.heap[a]? with
  | none => simp [hh] at h
  | some o => exact (Array.getElem?_eq_some_iff.1 hh).1

theorem take_snoc (s : ByteArray) (k : Nat) (h : k < s.size) : s.data.toList.take (k + 1) = s.data.toList.take k ++ [s[k]] := by
  rw [List.take_succ_eq_append_getElem (by simpa using h)]; rfl

set_option maxRecDepth 100000 in
set_option maxHeartbeats 1000000 in
theorem bytes1_in (F : Fence) (n : Nat) (hf : F.fn 86) (hro : F.round = none) (hn : 1 ≤ n) (l Bn : Nat) (s : ByteArray) (hs : s.size ≤ maxLen) (J Jx : List UInt8 → World → Prop)
    (hY : ∀ pre (x : UInt8) W, J pre W → pre.length < s.size → YieldAt F (n - 1) Tryz.prog l #[.int .u8 x.toNat] W fun e W' =>
      (e = .returned (.bool true) ∧ J (pre ++ [x]) W' ∧ Keeps [Bn] W W') ∨ (e = .returned (.bool false) ∧ Jx (pre ++ [x]) W'))
    (W : World) (hc : W.cell? ⟨Bn, 0, none⟩ = some (.string s)) (h0 : J [] W) :
    CallsIn F n Tryz.prog 86 #[.func (.yield l) #[] #[], .pointer (some ⟨Bn, 0, none⟩)] W fun e W' => (∃ v, e = .returned v) ∧
      ((∃ ys, ys = s.data.toList ∧ J ys W') ∨ (∃ pre, pre <+: s.data.toList ∧ Jx pre W')) := by
  unfold maxLen at hs
  refine callsIn_of_wp Tryz.func86 rfl hf ?_ hro
  simp only [Tryz.ntmps86, List.size_toArray, List.length_cons, List.length_nil, Nat.reduceAdd, Nat.reduceSub, Array.replicate_succ, Array.replicate_zero, List.push_toArray, List.append_toArray, List.nil_append, List.cons_append]
  gi_wp2
  gi_loopw [3] (fun p wr => ∃ k : Nat, k ≤ s.size ∧ p = .int .i64 k ∧ J (s.data.toList.take k) wr ∧ wr.cell? ⟨Bn, 0, none⟩ = some (.string s))
    (fun p _ => s.size - (intOf p).toNat)
  case atStart =>
    exact ⟨0, Nat.zero_le _, rfl, by simpa using h0, hc⟩
  case round =>
    obtain ⟨k, hk, rfl, hJ, hcr⟩ := hrel
    by_cases hlt : k < s.size
    · obtain ⟨fn, tmps, assign, body, hy, hR⟩ := hY _ s[k] wr hJ (by simp; omega)
      gi_wp2
      refine hR.mono ?_
      rintro e W3 (⟨rfl, hJ3, hk3⟩ | ⟨rfl, hJx3⟩)
      · have hc3 : W3.cell? ⟨Bn, 0, none⟩ = some (.string s) := hk3 Bn (by simp) _ hcr
        rw [← take_snoc s k hlt] at hJ3
        gi_wp2
        go_roundw
        case rel => exact ⟨k + 1, by omega, by go_num, hJ3, hc3⟩
        case measure => simp [intOf]; omega
      · gi_wp2
        refine bodyPost_ret (results_none rfl _ _ _) rfl ?_
        exact ⟨⟨_, rfl⟩, .inr ⟨_, by rw [← take_snoc s k hlt]; exact List.take_prefix _ _, hJx3⟩⟩
    · gi_wp2
      go_end0
      exact ⟨⟨_, rfl⟩, .inl ⟨_, by rw [List.take_of_length_le (by simp; omega)], hJ⟩⟩

set_option maxHeartbeats 1000000 in
theorem bytesOf_in (F : Fence) (n : Nat) (hf : F.fn 66) (hro : F.round = none) (s : ByteArray) (w : World) :
    CallsIn F n Tryz.prog 66 #[.string s] w fun e w' => e = .returned (.func (.func 86) #[] #[.pointer (some ⟨w.heap.size, 0, none⟩)]) ∧ w' = w.alloc (.cells #[.string s] 9) := by
  refine callsIn_of_wp Tryz.func66 rfl hf ?_ hro
  simp only [Tryz.ntmps66, List.size_toArray, List.length_cons, List.length_nil, Nat.reduceAdd, Nat.reduceSub, Array.replicate_succ, Array.replicate_zero, List.push_toArray, List.append_toArray, List.nil_append, List.cons_append]
  gi_wp2
  go_ret
  exact ⟨rfl, rfl⟩

theorem bytes_stops (F : Fence) (n : Nat) (hf : F.fn 86) (hro : F.round = none) (hn : 1 ≤ n) (Bn : Nat) (s : ByteArray) (hs : s.size ≤ maxLen) (w : World) (hBn : Bn < w.heap.size)
    (hc : w.cell? ⟨Bn, 0, none⟩ = some (.string s)) :
    SeqStopsK F n Tryz.prog 86 #[.pointer (some ⟨Bn, 0, none⟩)] (fun x : UInt8 => #[Value.int .u8 x.toNat]) (Keeps [Bn]) (fun ys => ys = s.data.toList) (fun pre => pre <+: s.data.toList) s.size w := fun l J Jx W hW _ _ hY h0 =>
  bytes1_in F n hf hro hn l Bn s hs J Jx hY W ((hW.cell (p := ⟨Bn, 0, none⟩) hBn).trans hc) h0

set_option maxRecDepth 100000 in
set_option maxHeartbeats 2000000 in
theorem allBytes_any (g : Nat) (T : Int → Bool) (eg : ∀ args w, (callFunc g args).run Tryz.prog w = .ok (.enter g args) w)
    (hT : ∀ (c : Int) (w : World), Calls Tryz.prog g #[.int .u8 c] w fun e w' => e = .returned (.bool (T c)) ∧ w' = w) (s : ByteArray) (hs : s.size ≤ maxLen) (w : World) :
    Calls Tryz.prog 78 #[.string s, .func (.func g) #[] #[]] w fun e W' => e = .returned (.bool (s.data.toList.all fun c => T c.toNat)) ∧ Below w.heap.size w W' := by
  refine (callsIn_wide (n := 3)).1 ?_
  refine callsIn_of_wp_marks Tryz.func78 rfl trivial ?_ rfl
  simp only [Tryz.ntmps78, List.size_toArray, List.length_cons, List.length_nil, Nat.reduceAdd, Nat.reduceSub, Array.replicate_succ, Array.replicate_zero, List.push_toArray, List.append_toArray, List.nil_append, List.cons_append]
  gi_wp2_with (refine ⟨trivial, ?_⟩; gi_at_call 66; refine (bytesOf_in Fence.wide _ trivial rfl _ _).mono ?_; rintro e w' ⟨rfl, rfl⟩)
  have c0 := cell_new_l w (.func (.func g) #[] #[]) 119
  have c1 := cell_new_l (w.alloc (.cells #[.func (.func g) #[] #[]] 119)) (.bool false) 4
  have c2 := cell_new_l ((w.alloc (.cells #[.func (.func g) #[] #[]] 119)).alloc (.cells #[.bool false] 4)) (.string s) 9
  simp only [World.size_alloc] at c1 c2
  have hB0 : Below w.heap.size w (((w.alloc (.cells #[.func (.func g) #[] #[]] 119)).alloc (.cells #[.bool false] 4)).alloc (.cells #[.string s] 9)) := (((Below.refl _ w).alloc (Nat.le_refl _) _).alloc (by simp) _).alloc (by simp; omega) _
  refine wpIn_rangeFunc_ownF rfl (by omega) (gf := 86) (lb := #[.pointer (some ⟨w.heap.size + 1 + 1, 0, none⟩)]) rfl trivial (enters_of Tryz.func86 (by kernel_rfl) rfl)
    (bytes_stops Fence.wide _ trivial rfl (by omega) (w.heap.size + 1 + 1) s hs _ (by simp) c2.1) Keeps.t (Keeps.b) (Below.refl _ _) (fun _ => rfl)
    (fun pre W => ((∀ y ∈ pre, T y.toNat = true) ∧ W.cell? ⟨w.heap.size, 0, none⟩ = some (.func (.func g) #[] #[]) ∧ W.cell? ⟨w.heap.size + 1, 0, none⟩ = some (.bool false) ∧ W.frozen? ⟨w.heap.size + 1, 0, none⟩ = false) ∧ Below w.heap.size w W)
    (fun c pre W => (c = .ret ∧ (∃ y ∈ pre, T y.toNat = false) ∧ W.cell? ⟨w.heap.size + 1, 0, none⟩ = some (.bool false)) ∧ Below w.heap.size w W)
    (OwnFrom.and (Own.from (fun s A B row hs hg hr => ⟨hs.1, cell_kept hs.2.1 hg hr, cell_kept hs.2.2.1 hg hr, (frozen_kept hs.2.2.1 hg hr).trans hs.2.2.2⟩) _) (ownFrom_below (Nat.le_refl _) (by simp; omega)))
    (fun c => OwnFrom.and (Own.from (fun s A B row hs hg hr => ⟨hs.1, hs.2.1, cell_kept hs.2.2 hg hr⟩) _) (ownFrom_below (Nat.le_refl _) (by simp; omega)))
    ⟨⟨by simp, cell_alloc_l _ (cell_alloc_l _ c0.1), cell_alloc_l _ c1.1, frozen_alloc_l _ c1.1 c1.2⟩, hB0⟩
    (fun x => { tmps := #[.string s, .func (.func g) #[] #[], undef, .pointer (some ⟨w.heap.size, 0, none⟩), .pointer (some ⟨w.heap.size + 1, 0, none⟩), .int .u8 x.toNat, .string s, .func (.func 86) #[] #[.pointer (some ⟨w.heap.size + 1 + 1, 0, none⟩)], .int .u8 x.toNat, undef, undef, undef, undef], defers := [] }) ?assign ?body ?done ?stop
  case assign =>
    intro l x W K hK
    gi_wp2
    exact hK
  case body =>
    rintro l pre x W ⟨⟨hp, hcw, hcr, hfr⟩, hB⟩ _
    cases hx : T x.toNat
    · gi_wp2
      refine ⟨trivial, (CallsIn.inRound l (callsIn_wide.2 (hT _ _))).mono ?_⟩
      rintro e w' ⟨rfl, rfl⟩
      gi_wp2
      exact ⟨KeepsOthers.setCell _ _ _, ⟨rfl, ⟨x, by simp, hx⟩, World.cell?_setCell_same' _ _ _ (by rw [hcr]; rfl)⟩, hB.setCell (p := ⟨w.heap.size + 1, 0, none⟩) (by simp) _⟩
    · gi_wp2
      refine ⟨trivial, (CallsIn.inRound l (callsIn_wide.2 (hT _ _))).mono ?_⟩
      rintro e w' ⟨rfl, rfl⟩
      gi_wp2
      exact ⟨KeepsOthers.refl _, Keeps.refl _ _, ⟨fun y hy => (List.mem_append.1 hy).elim (hp y) (fun e => by simp at e; subst e; exact hx), hcw, hcr, hfr⟩, hB⟩
  case done =>
    rintro D ys W hD rfl ⟨⟨hne, _, hcr, hfr⟩, hB⟩ hK
    gi_wp2
    have hK' := (KeepsOthers.setCell W ⟨w.heap.size + 1, 0, none⟩ (.bool true)).same D _ hK rfl
    refine ⟨by simp, .inl ⟨_, _, rfl, run_takeDeferred hK', ?_⟩⟩
    have hc5 := cell_kept (World.cell?_setCell_same' W ⟨w.heap.size + 1, 0, none⟩ (.bool true) (by rw [hcr]; rfl)) (grownBy_putObj' _ D (.deferred none)) (fun r e => by cases e; exact ⟨_, hK', rfl⟩)
    refine ⟨.bool true, ?_, by rw [List.all_eq_true.2 hne], (hB.setCell (p := ⟨w.heap.size + 1, 0, none⟩) (by simp) _).trans (belowK_b (w := w) (Nat.le_refl _) _ D _ _ (by simp at hD; omega) hK' rfl rfl)⟩
    simp [results, Tryz.f78, go_sem, hc5]
  case stop =>
    rintro D c pre W hD hpre ⟨⟨rfl, ⟨y, hy, hfy⟩, hcr⟩, hB⟩ hK
    gi_wp2
    refine ⟨by simp, .inl ⟨_, _, rfl, run_takeDeferred hK, ?_⟩⟩
    have hc5 := cell_kept hcr (grownBy_putObj' _ D (.deferred none)) (fun r e => by cases e; exact ⟨_, hK, rfl⟩)
    refine ⟨.bool false, ?_, by rw [List.all_eq_false.2 ⟨y, hpre.subset hy, by simp [hfy]⟩], hB.trans (belowK_b (w := w) (Nat.le_refl _) W D _ _ (by simp at hD; omega) hK rfl rfl)⟩
    simp [results, Tryz.f78, go_sem, hc5]
end Go.Proofs.YtfphpggjcljliaaGreat

/- What the program's iterator over the parts of a text tells: what stands between marks. -/
namespace Go.Proofs.YtfphpggjcljliaaGreat
open Go.RowKit Go.Shelf

attribute [local go_sem] Oper.semAt_some

/-- What stands between marks, one part more than marks. -/
def cutB (b : UInt8) : List UInt8 → List (List UInt8)
  | [] => [[]]
  | c :: l => if c == b then [] :: cutB b l else match cutB b l with
    | [] => [[c]]
    | h :: t => (c :: h) :: t

theorem cutB_ne (b : UInt8) (l : List UInt8) : cutB b l ≠ [] := by
  cases l with
  | nil => simp [cutB]
  | cons c l => unfold cutB; split <;> (try split) <;> simp

theorem cutB_none (b : UInt8) (l : List UInt8) (h : Lib.indexByte l b < 0) : cutB b l = [l] := by
  induction l with
  | nil => rfl
  | cons c l ih =>
    unfold Lib.indexByte at h
    have hg := Lib.indexByte_ge l b
    by_cases hc : (c == b) = true
    · simp [hc] at h
    · simp [hc] at h
      have : Lib.indexByte l b < 0 := by split at h <;> omega
      simp [cutB, hc, ih this]

theorem cutB_some (b : UInt8) (l : List UInt8) (i : Nat) (h : Lib.indexByte l b = i) : i < l.length ∧ cutB b l = l.take i :: cutB b (l.drop (i + 1)) := by
  induction l generalizing i with
  | nil => simp [Lib.indexByte] at h
  | cons c l ih =>
    unfold Lib.indexByte at h
    have hg := Lib.indexByte_ge l b
    by_cases hc : (c == b) = true
    · simp [hc] at h
      obtain rfl : i = 0 := by omega
      simp [cutB, hc]
    · simp [hc] at h
      split at h
      · omega
      · obtain ⟨j, rfl⟩ : ∃ j, i = j + 1 := ⟨i - 1, by omega⟩
        obtain ⟨h1, h2⟩ := ih j (by omega)
        refine ⟨by simp; omega, ?_⟩
        simp [cutB, hc, h2]

set_option maxHeartbeats 1000000 in
set_option maxRecDepth 100000 in
theorem slIndexByte_any (s : ByteArray) (c : Int) (w : World) :
    Calls Tryz.prog 69 #[.string s, .int .u8 c] w fun e w' => e = .returned (.int .i64 (Lib.indexByte s.data.toList c.toNat.toUInt8)) ∧ w' = w := by
  go_enter Tryz.func69, Tryz.ntmps69
  go_wp2
  rw [run_callFunc_extern Tryz.func87 (by kernel_rfl) (by kernel_rfl) (by kernel_rfl) (e := Extern.BytealgIndexByte.indexByte) (by kernel_rfl), Lib.run_indexByteString]
  simp only [Result.andThen]
  rw [Oper.upon_value]
  go_wp2
  go_ret
  exact ⟨rfl, rfl⟩

set_option maxHeartbeats 1000000 in
theorem IndexByte_any (s : ByteArray) (c : Int) (w : World) :
    Calls Tryz.prog 43 #[.string s, .int .u8 c] w fun e w' => e = .returned (.int .i64 (Lib.indexByte s.data.toList c.toNat.toUInt8)) ∧ w' = w := by
  go_enter Tryz.func43, Tryz.ntmps43
  go_wp2_with (go_at_call 69; refine (slIndexByte_any _ _ _).mono ?_; rintro e w' ⟨rfl, rfl⟩)
  go_ret
  exact ⟨rfl, rfl⟩

theorem IndexByteU_any (s : ByteArray) (c : UInt8) (w : World) :
    Calls Tryz.prog 43 #[.string s, .int .u8 c.toNat] w fun e w' => e = .returned (.int .i64 (Lib.indexByte s.data.toList c)) ∧ w' = w := by
  have h := IndexByte_any s c.toNat w
  have e : ((c.toNat : Nat) : Int).toNat.toUInt8 = c := by simp
  rwa [e] at h

/-- A text that a string may hold. -/
abbrev Str := { x : ByteArray // x.size ≤ maxLen }
abbrev vals (xs : List Str) : List (List UInt8) := xs.map fun x => x.1.data.toList
theorem vals_snoc (pre : List Str) (x : Str) : vals (pre ++ [x]) = vals pre ++ [x.1.data.toList] := by simp [vals]
def strSize : Value → Nat
  | .string x => x.size
  | _ => 0

set_option maxRecDepth 100000 in
set_option maxHeartbeats 1000000 in
theorem parts1_in (F : Fence) (n : Nat) (hf : F.fn 42) (hf2 : F.fn 43) (hro : F.round = none) (hn : 1 ≤ n) (hw : ∀ (s : ByteArray) (c : UInt8) (w : World), CallsIn F (n - 1) Tryz.prog 43 #[.string s, .int .u8 c.toNat] w fun e w' => e = .returned (.int .i64 (Lib.indexByte s.data.toList c)) ∧ w' = w)
    (l Bs Bm : Nat) (s : ByteArray) (m : UInt8) (hs : s.size ≤ maxLen) (J Jx : List Str → World → Prop)
    (hY : ∀ pre (x : Str) W, J pre W → pre.length < (cutB m s.data.toList).length → YieldAt F (n - 1) Tryz.prog l #[.string x.1] W fun e W' =>
      (e = .returned (.bool true) ∧ J (pre ++ [x]) W' ∧ Keeps [Bs, Bm] W W') ∨ (e = .returned (.bool false) ∧ Jx (pre ++ [x]) W'))
    (W : World) (hc : W.cell? ⟨Bs, 0, none⟩ = some (.string s)) (hm : W.cell? ⟨Bm, 0, none⟩ = some (.int .u8 m.toNat)) (h0 : J [] W) :
    CallsIn F n Tryz.prog 42 #[.func (.yield l) #[] #[], .pointer (some ⟨Bs, 0, none⟩), .pointer (some ⟨Bm, 0, none⟩)] W fun e W' => (∃ v, e = .returned v) ∧
      ((∃ ys, vals ys = cutB m s.data.toList ∧ J ys W') ∨ (∃ pre, vals pre <+: cutB m s.data.toList ∧ Jx pre W')) := by
  unfold maxLen at hs
  refine callsIn_of_wp Tryz.func42 rfl hf ?_ hro
  simp only [Tryz.ntmps42, List.size_toArray, List.length_cons, List.length_nil, Nat.reduceAdd, Nat.reduceSub, Array.replicate_succ, Array.replicate_zero, List.push_toArray, List.append_toArray, List.nil_append, List.cons_append]
  gi_wp2
  gi_loopw [4, 5] (fun p _ wr => ∃ (pre : List Str) (rest : ByteArray), rest.size ≤ s.size ∧ p = .string rest ∧ Hid (cutB m s.data.toList = vals pre ++ cutB m rest.data.toList) ∧ J pre wr ∧ wr.cell? ⟨Bm, 0, none⟩ = some (.int .u8 m.toNat))
    (fun p _ _ => strSize p)
  case atStart =>
    exact ⟨[], s, Nat.le_refl _, rfl, hid (by simp), h0, hm⟩
  case round =>
    obtain ⟨pre, rest, hle, rfl, hcut, hJ, hmr⟩ := hrel
    have hlen : pre.length < (cutB m s.data.toList).length := by
      rw [unhid hcut]; have := List.length_pos_iff.2 (cutB_ne m rest.data.toList); simp; omega
    by_cases hlt : Lib.indexByte rest.data.toList m < 0
    · obtain ⟨fn, tmps, assign, body, hy, hR⟩ := hY _ ⟨rest, by unfold maxLen; omega⟩ wr hJ hlen
      dsimp only at hy hR
      gi_wp2_with (gi_at_call 43; refine (hw _ _ _).mono ?_; rintro e w' ⟨rfl, rfl⟩)
      refine hR.mono ?_
      rintro e W3 (⟨rfl, hJ3, hk3⟩ | ⟨rfl, hJx3⟩)
      · gi_wp2
        refine bodyPost_ret (results_none rfl _ _ _) rfl ?_
        exact ⟨⟨_, rfl⟩, .inl ⟨_, by rw [unhid hcut, cutB_none m _ hlt]; simp, hJ3⟩⟩
      · gi_wp2
        refine bodyPost_ret (results_none rfl _ _ _) rfl ?_
        exact ⟨⟨_, rfl⟩, .inr ⟨_, by rw [unhid hcut, cutB_none m _ hlt]; simp, hJx3⟩⟩
    · obtain ⟨i, hi⟩ : ∃ i : Nat, Lib.indexByte rest.data.toList m = i := ⟨(Lib.indexByte rest.data.toList m).toNat, by omega⟩
      obtain ⟨hil, hcr⟩ := cutB_some m _ i hi
      have hil' : i < rest.size := by rw [Lib.size_eq]; exact hil
      have Hcr := hid hcr
      have hx1 : (rest.extract 0 i).data.toList = rest.data.toList.take i := by rw [Lib.extract_data]; simp
      have hx2 : (rest.extract (i + 1) rest.size).data.toList = rest.data.toList.drop (i + 1) := by rw [Lib.extract_data, List.take_of_length_le (by simp)]
      have Hx1 := hid hx1
      have Hx2 := hid hx2
      clear hcr hil hx1 hx2
      have hx0 : (rest.extract 0 i).size ≤ maxLen := by unfold maxLen; simp; omega
      obtain ⟨fn, tmps, assign, body, hy, hR⟩ := hY _ ⟨rest.extract 0 i, hx0⟩ wr hJ hlen
      dsimp only at hy hR
      gi_wp2_with (gi_at_call 43; refine (hw _ _ _).mono ?_; rintro e w' ⟨rfl, rfl⟩)
      refine hR.mono ?_
      rintro e W3 (⟨rfl, hJ3, hk3⟩ | ⟨rfl, hJx3⟩)
      · have hm3 : W3.cell? ⟨Bm, 0, none⟩ = some (.int .u8 m.toNat) := hk3 Bm (by simp) _ hmr
        gi_wp2
        go_roundw
        case rel => exact ⟨_, rest.extract (i + 1) rest.size, by simp; omega, rfl, hid (by rw [unhid hcut, unhid Hcr, unhid Hx2, vals_snoc]; simp), hJ3, hm3⟩
        case measure => simp [strSize]; omega
      · gi_wp2
        refine bodyPost_ret (results_none rfl _ _ _) rfl ?_
        exact ⟨⟨_, rfl⟩, .inr ⟨_, by rw [unhid hcut, unhid Hcr, vals_snoc]; simp, hJx3⟩⟩

set_option maxHeartbeats 1000000 in
theorem partsOf_in (F : Fence) (n : Nat) (hf : F.fn 19) (hro : F.round = none) (s : ByteArray) (m : Int) (w : World) :
    CallsIn F n Tryz.prog 19 #[.string s, .int .u8 m] w fun e w' => e = .returned (.func (.func 42) #[] #[.pointer (some ⟨w.heap.size, 0, none⟩), .pointer (some ⟨w.heap.size + 1, 0, none⟩)]) ∧ w' = (w.alloc (.cells #[.string s] 9)).alloc (.cells #[.int .u8 m] 5) := by
  refine callsIn_of_wp Tryz.func19 rfl hf ?_ hro
  simp only [Tryz.ntmps19, List.size_toArray, List.length_cons, List.length_nil, Nat.reduceAdd, Nat.reduceSub, Array.replicate_succ, Array.replicate_zero, List.push_toArray, List.append_toArray, List.nil_append, List.cons_append]
  gi_wp2
  go_ret
  exact ⟨rfl, rfl⟩

theorem parts_stops (F : Fence) (n : Nat) (hf : F.fn 42) (hf2 : F.fn 43) (hro : F.round = none) (hn : 1 ≤ n)
    (hw : ∀ (s : ByteArray) (c : UInt8) (w : World), CallsIn F (n - 1) Tryz.prog 43 #[.string s, .int .u8 c.toNat] w fun e w' => e = .returned (.int .i64 (Lib.indexByte s.data.toList c)) ∧ w' = w)
    (Bs Bm : Nat) (s : ByteArray) (m : UInt8) (hs : s.size ≤ maxLen) (w : World) (hBs : Bs < w.heap.size) (hBm : Bm < w.heap.size)
    (hc : w.cell? ⟨Bs, 0, none⟩ = some (.string s)) (hm : w.cell? ⟨Bm, 0, none⟩ = some (.int .u8 m.toNat)) :
    SeqStopsK F n Tryz.prog 42 #[.pointer (some ⟨Bs, 0, none⟩), .pointer (some ⟨Bm, 0, none⟩)] (fun x : Str => #[Value.string x.1]) (Keeps [Bs, Bm]) (fun ys => vals ys = cutB m s.data.toList) (fun pre => vals pre <+: cutB m s.data.toList) (cutB m s.data.toList).length w := fun l J Jx W hW _ _ hY h0 =>
  parts1_in F n hf hf2 hro hn hw l Bs Bm s m hs J Jx hY W ((hW.cell (p := ⟨Bs, 0, none⟩) hBs).trans hc) ((hW.cell (p := ⟨Bm, 0, none⟩) hBm).trans hm) h0
end Go.Proofs.YtfphpggjcljliaaGreat

/- What the model's cut of a text makes: the parts between marks, and what the model calls a name and a path. -/
namespace Go.Proofs.YtfphpggjcljliaaGreat
open Go.RowKit Go.Shelf

theorem cutB_at (b : UInt8) : ∀ (l : List UInt8) (j : Nat), l[j]? = some b → (∀ i, i < j → l[i]? ≠ some b) → cutB b l = l.take j :: cutB b (l.drop (j + 1))
  | [], j, h, _ => by simp at h
  | c :: l, 0, h, _ => by simp at h; subst h; simp [cutB]
  | c :: l, j + 1, h, hn => by
    have hc : (c == b) = false := by have := hn 0 (by omega); simpa using this
    have ih := cutB_at b l j (by simpa using h) (fun i hi => by have := hn (i + 1) (by omega); simpa using this)
    simp [cutB, hc, ih]
theorem cutB_no (b : UInt8) : ∀ (l : List UInt8), (∀ i : Nat, l[i]? ≠ some b) → cutB b l = [l]
  | [], _ => rfl
  | c :: l, hn => by
    have hc : (c == b) = false := by have := hn 0; simpa using this
    have ih := cutB_no b l (fun i => by have := hn (i + 1); simpa using this)
    simp [cutB, hc, ih]

theorem getByte (s : ByteArray) (k : Nat) (h : k < s.size) : s.data.toList[k]? = some s[k] := by
  rw [List.getElem?_eq_getElem (by simpa using h)]; rfl
theorem cut_step (s : ByteArray) (b : UInt8) (fr k : Nat) (hfk : fr ≤ k) (hlt : k < s.size) (hb : s[k] = b) (hno : ∀ j, fr ≤ j → j < k → s.data.toList[j]? ≠ some b) :
    cutB b (s.data.toList.drop fr) = (s.extract fr k).data.toList :: cutB b (s.data.toList.drop (k + 1)) := by
  have h := cutB_at b (s.data.toList.drop fr) (k - fr) (by rw [List.getElem?_drop, Nat.add_sub_cancel' hfk, getByte s k hlt, hb])
    (fun i hi => by rw [List.getElem?_drop]; exact hno _ (by omega) (by omega))
  rw [h, List.drop_drop, Lib.extract_data, show fr + (k - fr + 1) = k + 1 from by omega]
theorem cut_last (s : ByteArray) (b : UInt8) (fr k : Nat) (hk : s.size ≤ k) (hno : ∀ j, fr ≤ j → j < k → s.data.toList[j]? ≠ some b) :
    cutB b (s.data.toList.drop fr) = [(s.extract fr s.size).data.toList] := by
  have h := cutB_no b (s.data.toList.drop fr) (fun i => by
    rw [List.getElem?_drop]
    by_cases hi : fr + i < k
    · exact hno _ (by omega) hi
    · rw [List.getElem?_eq_none (by simp; omega)]; simp)
  rw [h, Lib.extract_data, List.take_of_length_le (by simp)]

theorem cutB_le (b : UInt8) : ∀ (l : List UInt8) (p : List UInt8), p ∈ cutB b l → p.length ≤ l.length
  | [], p, h => by simp [cutB] at h; subst h; simp
  | c :: l, p, h => by
    unfold cutB at h
    split at h
    · rcases List.mem_cons.1 h with h | h
      · subst h; simp
      · have := cutB_le b l p h; simp; omega
    · have ih := cutB_le b l
      split at h
      · simp at h; subst h; simp
      · rename_i hd tl e
        rw [e] at ih
        rcases List.mem_cons.1 h with h | h
        · subst h; have := ih hd (by simp); simp; omega
        · have := ih p (by simp [h]); simp; omega
theorem cutB_length (b : UInt8) : ∀ (l : List UInt8), (cutB b l).length ≤ l.length + 1
  | [] => by simp [cutB]
  | c :: l => by
    have ih := cutB_length b l
    unfold cutB
    split
    · simp; omega
    · split
      · simp
      · rename_i hd tl e
        rw [e] at ih
        simp at ih ⊢; omega

theorem all_take_succ (s : ByteArray) (k : Nat) (h : k < s.size) (p : UInt8 → Bool) : (s.data.toList.take (k + 1)).all p = ((s.data.toList.take k).all p && p s[k]) := by
  rw [take_snoc s k h]; simp

theorem info9 : (Tryz.prog.info? 9).map (fun i => (i.zero, i.size, i.bytes)) = some (some (.string ⟨#[]⟩), 1, 16) := by kernel_rfl

abbrev datas (xs : List ByteArray) : List (List UInt8) := xs.map fun x => x.data.toList

set_option maxRecDepth 100000 in
set_option maxHeartbeats 1000000 in
theorem l1Cut_any (s : ByteArray) (b : UInt8) (most : Int) (hs : s.size ≤ 1048576) (hm : (s.size : Int) < most) (hm2 : most < 4294967296) (w : World) :
    Calls Tryz.prog 49 #[.string s, .int .u8 b.toNat, .int .i64 most] w fun e w' => ∃ v xs, e = .returned v ∧ datas xs = cutB b s.data.toList ∧ w'.ownsRow w.heap.size 9 1 v xs.length (xs.map Value.string) ∧ Below w.heap.size w w' := by
  go_enter Tryz.func49, Tryz.ntmps49
  obtain ⟨i0, hi, hz0, hz1, hz2⟩ := info_parts info9
  go_wp2_with fail
  go_loopw [7, 8, 9] (fun o f i wr => ∃ (g cap k fr : Nat) (xs : List ByteArray), o = .slice (some ⟨g, 0, none⟩) xs.length cap ∧ f = .int .i64 fr ∧ i = .int .i64 k ∧ fr ≤ k ∧ k ≤ s.size ∧ xs.length ≤ fr ∧
      Hid (cutB b s.data.toList = datas xs ++ cutB b (s.data.toList.drop fr)) ∧ Hid (∀ j, fr ≤ j → j < k → s.data.toList[j]? ≠ some b) ∧
      wr.ownsRow w.heap.size 9 1 (.slice (some ⟨g, 0, none⟩) xs.length cap) xs.length (xs.map Value.string) ∧ Below w.heap.size w wr)
    (fun _ _ i _ => s.size - (intOf i).toNat)
  case atStart => exact ⟨w.heap.size, 0, 0, 0, [], rfl, rfl, rfl, by omega, by omega, by simp, hid (by simp), hid (fun j _ h => by omega), World.ownsRow_lit w #[] 0 (Nat.le_refl _) (by omega) (by simp), (Below.refl _ _).alloc (Nat.le_refl _) _⟩
  case round =>
    obtain ⟨g, cap, k, fr, xs, rfl, rfl, rfl, hfk, hk, hx, hcut, hno, hown, hB⟩ := hrel
    by_cases hlt : k < s.size
    · by_cases hb : s[k] = b
      · have hb' : (((s[k]).toNat : Int) == (b.toNat : Int)) = true := by simp [hb]
        go_wp2_with (at_builtin; refine wpList_append_own _ rfl _ _ 39 rfl w.heap.size 9 i0 (.string ⟨#[]⟩) 1 16 Tryz.underlying39 hi hz0 hz1 hz2 rfl (by decide) _ _ _ rfl (hown.alloc _) ⟨wr.heap.size, 0, none⟩ 1 1 [.string (s.extract fr k)] rfl rfl ?c1 ?c2 ?c3 ?c4 ?c5 ?_)
        case c1 => exact cell_one_new _ _ _
        case c2 => intro u hu; simp at hu; subst hu; rfl
        case c3 => unfold maxLen; omega
        case c4 => omega
        case c5 => have := hB.size; simp; omega
        intro v' w1 hown' hgrow _
        obtain ⟨g', cap', rfl⟩ := ownsRow_succ hown'
        have hB1 : Below w.heap.size w w1 := (hB.alloc hB.size _).grown hgrow (by have := hB.size; simp; omega) (fun j e => (hown.lt j e).1)
        clear hgrow hown
        go_wp2
        go_roundw
        case rel => exact ⟨g', cap', k + 1, k + 1, xs ++ [s.extract fr k], by simp, by go_num, by go_num, by omega, by omega, by simp; omega, hid (by rw [unhid hcut, cut_step s b fr k hfk hlt hb (unhid hno)]; simp [datas]), hid (fun j h1 h2 => by omega), by simpa using hown', hB1⟩
        case measure => simp [intOf]; omega
      · have hb' : (((s[k]).toNat : Int) == (b.toNat : Int)) = false := by
          rw [beq_eq_false_iff_ne]; intro h; exact hb (UInt8.toNat_inj.1 (by omega))
        go_wp2
        go_roundw
        case rel => exact ⟨g, cap, k + 1, fr, xs, rfl, rfl, by go_num, by omega, by omega, hx, hcut, hid (fun j h1 h2 => by
          by_cases hj : j < k
          · exact unhid hno j h1 hj
          · obtain rfl : j = k := by omega
            rw [getByte s j hlt]; simpa using hb), hown, hB⟩
        case measure => simp [intOf]; omega
    · go_wp2_with (at_builtin; refine wpList_append_own _ rfl _ _ 39 rfl w.heap.size 9 i0 (.string ⟨#[]⟩) 1 16 Tryz.underlying39 hi hz0 hz1 hz2 rfl (by decide) _ _ _ rfl (hown.alloc _) ⟨wr.heap.size, 0, none⟩ 1 1 [.string (s.extract fr s.size)] rfl rfl ?c1 ?c2 ?c3 ?c4 ?c5 ?_)
      case c1 => exact cell_one_new _ _ _
      case c2 => intro u hu; simp at hu; subst hu; rfl
      case c3 => unfold maxLen; omega
      case c4 => omega
      case c5 => have := hB.size; simp; omega
      intro v' w1 hown' hgrow _
      have hB1 : Below w.heap.size w w1 := (hB.alloc hB.size _).grown hgrow (by have := hB.size; simp; omega) (fun j e => (hown.lt j e).1)
      clear hgrow hown
      go_wp2
      go_ret
      exact ⟨v', xs ++ [s.extract fr s.size], rfl, by rw [unhid hcut, cut_last s b fr k (by omega) (unhid hno)]; simp [datas], by simpa using hown', hB1⟩
end Go.Proofs.YtfphpggjcljliaaGreat

/- What is a name of a path, by the program and by its model. -/
namespace Go.Proofs.YtfphpggjcljliaaGreat
open Go.RowKit Go.Shelf

def nameOkB (l : List UInt8) : Bool := !l.isEmpty && decide (l.length ≤ 10) && !(l == [46]) && !(l == [46, 46]) && l.all fun c => nameB c.toNat

theorem eg79 : ∀ args w, (callFunc 79 args).run Tryz.prog w = .ok (.enter 79 args) w := enters_of Tryz.func79 (by kernel_rfl) rfl

set_option maxRecDepth 100000 in
set_option maxHeartbeats 1000000 in
theorem nameOk_any (s : ByteArray) (hs : s.size ≤ maxLen) (w : World) :
    Calls Tryz.prog 55 #[.string s] w fun e w' => e = .returned (.bool (nameOkB s.data.toList)) ∧ Below w.heap.size w w' := by
  go_enter Tryz.func55, Tryz.ntmps55
  go_wp2_with (go_at_call 78; refine (allBytes_any 79 nameB eg79 isNameByte_any _ hs _).mono ?_; rintro e w' ⟨rfl, hb⟩)
  all_goals
    simp only [Lib.toList_data] at *
    go_ret
    refine ⟨?_, ?_⟩
    · have hl : s.data.toList.length = s.size := (Lib.size_eq s).symm
      have hd : decide (s.data.toList.length ≤ 10) = decide ((s.size : Int) ≤ 10) := by rw [hl]; simp; omega
      unfold nameOkB
      rw [hd]
      clear hd hl
      simp_all <;> (intro h; exfalso; omega)
    · first | exact Below.refl _ _ | assumption
end Go.Proofs.YtfphpggjcljliaaGreat

/- What the program calls a path. -/
namespace Go.Proofs.YtfphpggjcljliaaGreat
open Go.RowKit Go.Shelf

attribute [local go_sem] Oper.semAt_some

def pathB (l : List UInt8) : Bool := decide ((cutB 47 l).length ≤ 5) && (cutB 47 l).all nameOkB

set_option maxRecDepth 100000 in
set_option maxHeartbeats 4000000 in
theorem PathOk_any (s : ByteArray) (hs : s.size ≤ maxLen) (w : World) :
    Calls Tryz.prog 29 #[.string s] w fun e W' => e = .returned (.bool (pathB s.data.toList)) ∧ Below w.heap.size w W' := by
  refine (callsIn_wide (n := 3)).1 ?_
  refine callsIn_of_wp_marks Tryz.func29 rfl trivial ?_ rfl
  simp only [Tryz.ntmps29, List.size_toArray, List.length_cons, List.length_nil, Nat.reduceAdd, Nat.reduceSub, Array.replicate_succ, Array.replicate_zero, List.push_toArray, List.append_toArray, List.nil_append, List.cons_append]
  gi_wp2_with (refine ⟨trivial, ?_⟩; gi_at_call 19; refine (partsOf_in Fence.wide _ trivial rfl _ _ _).mono ?_; rintro e w' ⟨rfl, rfl⟩)
  have c0 := cell_new_l w (.bool false) 4
  have c1 := cell_new_l (w.alloc (.cells #[.bool false] 4)) (.int .i64 0) 3
  have c2 := cell_new_l ((w.alloc (.cells #[.bool false] 4)).alloc (.cells #[.int .i64 0] 3)) (.string s) 9
  have c3 := cell_new_l (((w.alloc (.cells #[.bool false] 4)).alloc (.cells #[.int .i64 0] 3)).alloc (.cells #[.string s] 9)) (.int .u8 47) 5
  simp only [World.size_alloc] at c1 c2 c3
  have hB0 : Below w.heap.size w ((((w.alloc (.cells #[.bool false] 4)).alloc (.cells #[.int .i64 0] 3)).alloc (.cells #[.string s] 9)).alloc (.cells #[.int .u8 47] 5)) := ((((Below.refl _ w).alloc (Nat.le_refl _) _).alloc (by simp) _).alloc (by simp; omega) _).alloc (by simp; omega) _
  refine wpIn_rangeFunc_ownF rfl (by omega) (gf := 42) (lb := #[.pointer (some ⟨w.heap.size + 1 + 1, 0, none⟩), .pointer (some ⟨w.heap.size + 1 + 1 + 1, 0, none⟩)]) rfl trivial (enters_of Tryz.func42 (by kernel_rfl) rfl)
    (parts_stops Fence.wide _ trivial trivial rfl (by omega) (fun s c w => callsIn_wide.2 (IndexByteU_any s c w)) (w.heap.size + 1 + 1) (w.heap.size + 1 + 1 + 1) s 47 hs _ (by simp) (by simp) (cell_alloc_l _ c2.1) c3.1) Keeps.t (Keeps.b) (Below.refl _ _) (fun _ => rfl)
    (fun pre W => (((vals pre).all nameOkB = true ∧ pre.length ≤ 5) ∧ W.cell? ⟨w.heap.size + 1, 0, none⟩ = some (.int .i64 pre.length) ∧ W.frozen? ⟨w.heap.size + 1, 0, none⟩ = false ∧ W.cell? ⟨w.heap.size, 0, none⟩ = some (.bool false) ∧ W.frozen? ⟨w.heap.size, 0, none⟩ = false) ∧ Below w.heap.size w W)
    (fun c pre W => (c = .ret ∧ (5 < pre.length ∨ ∃ y ∈ vals pre, nameOkB y = false) ∧ W.cell? ⟨w.heap.size, 0, none⟩ = some (.bool false)) ∧ Below w.heap.size w W)
    (OwnFrom.and (Own.from (fun s A B row hs hg hr => ⟨hs.1, cell_kept hs.2.1 hg hr, (frozen_kept hs.2.1 hg hr).trans hs.2.2.1, cell_kept hs.2.2.2.1 hg hr, (frozen_kept hs.2.2.2.1 hg hr).trans hs.2.2.2.2⟩) _) (ownFrom_below (Nat.le_refl _) (by simp; omega)))
    (fun c => OwnFrom.and (Own.from (fun s A B row hs hg hr => ⟨hs.1, hs.2.1, cell_kept hs.2.2 hg hr⟩) _) (ownFrom_below (Nat.le_refl _) (by simp; omega)))
    ⟨⟨by simp, cell_alloc_l _ (cell_alloc_l _ c1.1), frozen_alloc_l _ (cell_alloc_l _ c1.1) (frozen_alloc_l _ c1.1 c1.2), cell_alloc_l _ (cell_alloc_l _ (cell_alloc_l _ c0.1)), frozen_alloc_l _ (cell_alloc_l _ (cell_alloc_l _ c0.1)) (frozen_alloc_l _ (cell_alloc_l _ c0.1) (frozen_alloc_l _ c0.1 c0.2))⟩, hB0⟩
    (fun x => { tmps := #[.string s, undef, .pointer (some ⟨w.heap.size, 0, none⟩), .pointer (some ⟨w.heap.size + 1, 0, none⟩), .string x.1, .string s, .func (.func 42) #[] #[.pointer (some ⟨w.heap.size + 1 + 1, 0, none⟩), .pointer (some ⟨w.heap.size + 1 + 1 + 1, 0, none⟩)], .string x.1, undef, undef, undef, undef, undef, undef, undef, undef, undef], defers := [] }) ?assign ?body ?done ?stop
  case assign =>
    intro l x W K hK
    gi_wp2
    exact hK
  case body =>
    rintro l pre x W ⟨⟨⟨hp, hl5⟩, hcn, hfn, hcr, hfr⟩, hB⟩ _
    have hz : w.heap.size + 1 < W.heap.size := below_lt hcn
    have hB2 : Below w.heap.size w (W.setCell ⟨w.heap.size + 1, 0, none⟩ (.int .i64 (pre.length + 1))) := hB.setCell (p := ⟨w.heap.size + 1, 0, none⟩) (by simp) _
    have hcn2 : (W.setCell ⟨w.heap.size + 1, 0, none⟩ (.int .i64 (pre.length + 1))).cell? ⟨w.heap.size + 1, 0, none⟩ = some (.int .i64 (pre.length + 1)) := set_same hcn
    have hfn2 : (W.setCell ⟨w.heap.size + 1, 0, none⟩ (.int .i64 (pre.length + 1))).frozen? ⟨w.heap.size + 1, 0, none⟩ = false := by rw [World.frozen?_setCell]; exact hfn
    have hcr2 : (W.setCell ⟨w.heap.size + 1, 0, none⟩ (.int .i64 (pre.length + 1))).cell? ⟨w.heap.size, 0, none⟩ = some (.bool false) := (set_far W _ _ _ (by simp)).trans hcr
    have hfr2 : (W.setCell ⟨w.heap.size + 1, 0, none⟩ (.int .i64 (pre.length + 1))).frozen? ⟨w.heap.size, 0, none⟩ = false := by rw [World.frozen?_setCell]; exact hfr
    have hK2 : Keeps [w.heap.size + 1 + 1, w.heap.size + 1 + 1 + 1] W (W.setCell ⟨w.heap.size + 1, 0, none⟩ (.int .i64 (pre.length + 1))) := Keeps.setCell W _ _ (by simp)
    have hO2 : KeepsOthers W (W.setCell ⟨w.heap.size + 1, 0, none⟩ (.int .i64 (pre.length + 1))) := KeepsOthers.setCell _ _ _
    have hz2 : (W.setCell ⟨w.heap.size + 1, 0, none⟩ (.int .i64 (pre.length + 1))).heap.size = W.heap.size := by simp
    by_cases h5 : 5 < (pre.length : Int) + 1
    · gi_wp2
      refine ⟨trivial, ?_⟩
      gi_wp2
      exact ⟨hO2.trans (KeepsOthers.setCell _ _ _), ⟨rfl, .inl (by simp; omega), set_same hcr2⟩, hB2.setCell (p := ⟨w.heap.size, 0, none⟩) (by simp) _⟩
    · have hk1 : ∀ w1 : World, Below (W.setCell ⟨w.heap.size + 1, 0, none⟩ (.int .i64 (pre.length + 1))).heap.size (W.setCell ⟨w.heap.size + 1, 0, none⟩ (.int .i64 (pre.length + 1))) w1 →
          w1.cell? ⟨w.heap.size + 1, 0, none⟩ = some (.int .i64 (pre.length + 1)) ∧ w1.frozen? ⟨w.heap.size + 1, 0, none⟩ = false ∧ w1.cell? ⟨w.heap.size, 0, none⟩ = some (.bool false) ∧ w1.frozen? ⟨w.heap.size, 0, none⟩ = false ∧
          Below w.heap.size w w1 ∧ KeepsOthers W w1 ∧ Keeps [w.heap.size + 1 + 1, w.heap.size + 1 + 1 + 1] W w1 := fun w1 hb => by
        have e1 : w.heap.size + 1 < (W.setCell ⟨w.heap.size + 1, 0, none⟩ (.int .i64 (pre.length + 1))).heap.size := by rw [hz2]; exact hz
        have e0 : w.heap.size < (W.setCell ⟨w.heap.size + 1, 0, none⟩ (.int .i64 (pre.length + 1))).heap.size := by omega
        refine ⟨(hb.cell e1).trans hcn2, (hb.frozen e1).trans hfn2, (hb.cell e0).trans hcr2, (hb.frozen e0).trans hfr2, hB2.trans (hb.mono (by omega)), hO2.trans (KeepsOthers_of_below hb), hK2.t fun b _ v hv => ?_⟩
        exact (hb.cell (p := ⟨b, 0, none⟩) (below_lt hv)).trans hv
      have Hk1 := hid hk1
      have HB2 := hid hcr2
      clear hk1 hB2 hcn2 hfn2 hcr2 hfr2 hK2 hO2 hz2
      cases hx : nameOkB x.1.data.toList
      · gi_wp2
        refine ⟨trivial, (CallsIn.inRound l (callsIn_wide.2 (nameOk_any _ x.2 _))).mono ?_⟩
        rintro e w1 ⟨rfl, hb⟩
        obtain ⟨f1, f2, f3, f4, f5, f6, f7⟩ := unhid Hk1 w1 hb
        clear hb
        gi_wp2
        exact ⟨f6.trans (KeepsOthers.setCell _ _ _), ⟨rfl, .inr ⟨_, by rw [vals_snoc]; simp, hx⟩, set_same f3⟩, f5.setCell (p := ⟨w.heap.size, 0, none⟩) (by simp) _⟩
      · gi_wp2
        refine ⟨trivial, (CallsIn.inRound l (callsIn_wide.2 (nameOk_any _ x.2 _))).mono ?_⟩
        rintro e w1 ⟨rfl, hb⟩
        obtain ⟨f1, f2, f3, f4, f5, f6, f7⟩ := unhid Hk1 w1 hb
        clear hb
        gi_wp2
        exact ⟨f6, f7, ⟨⟨by rw [vals_snoc, List.all_append, hp]; simp [hx], by simp; omega⟩, by rw [f1]; simp, f2, f3, f4⟩, f5⟩
  case done =>
    rintro D ys W hD hys ⟨⟨⟨hp, hl5⟩, _, _, hcr, hfr⟩, hB⟩ hK
    gi_wp2
    have hK' := (KeepsOthers.setCell W ⟨w.heap.size, 0, none⟩ (.bool true)).same D _ hK rfl
    refine ⟨by simp, .inl ⟨_, _, rfl, run_takeDeferred hK', ?_⟩⟩
    have hc5 := cell_kept (World.cell?_setCell_same' W ⟨w.heap.size, 0, none⟩ (.bool true) (by rw [hcr]; rfl)) (grownBy_putObj' _ D (.deferred none)) (fun r e => by cases e; exact ⟨_, hK', rfl⟩)
    refine ⟨.bool true, ?_, ?_, (hB.setCell (p := ⟨w.heap.size, 0, none⟩) (by simp) _).trans (belowK_b (w := w) (Nat.le_refl _) _ D _ _ (by simp at hD; omega) hK' rfl rfl)⟩
    · simp [results, Tryz.f29, go_sem, hc5]
    · rw [pathB, ← hys, hp]; simp [vals]; exact hl5
  case stop =>
    rintro D c pre W hD hpre ⟨⟨rfl, hbad, hcr⟩, hB⟩ hK
    gi_wp2
    refine ⟨by simp, .inl ⟨_, _, rfl, run_takeDeferred hK, ?_⟩⟩
    have hc5 := cell_kept hcr (grownBy_putObj' _ D (.deferred none)) (fun r e => by cases e; exact ⟨_, hK, rfl⟩)
    refine ⟨.bool false, ?_, ?_, hB.trans (belowK_b (w := w) (Nat.le_refl _) W D _ _ (by simp at hD; omega) hK rfl rfl)⟩
    · simp [results, Tryz.f29, go_sem, hc5]
    · have hl := hpre.length_le
      have : pathB s.data.toList = false := by
        unfold pathB
        rcases hbad with h | ⟨y, hy, hn⟩
        · rw [decide_eq_false (by simp [vals] at hl; omega)]; rfl
        · rw [List.all_eq_false.2 ⟨y, hpre.subset hy, by simp [hn]⟩]; simp
      rw [this]
end Go.Proofs.YtfphpggjcljliaaGreat

/- What the model calls a name, and a path: the same as the program. -/
namespace Go.Proofs.YtfphpggjcljliaaGreat
open Go.RowKit Go.Shelf

theorem nameOk_len (s : ByteArray) : nameOkB s.data.toList = ((decide ((1 : Int) ≤ s.size) && decide ((s.size : Int) ≤ 10)) && !(s.data.toList == [46]) && !(s.data.toList == [46, 46]) && s.data.toList.all fun c => nameB c.toNat) := by
  have h : (!s.data.toList.isEmpty && decide (s.data.toList.length ≤ 10)) = (decide ((1 : Int) ≤ s.size) && decide ((s.size : Int) ≤ 10)) := by
    have hl : s.size = s.data.toList.length := Lib.size_eq s
    rw [hl]
    cases s.data.toList with
    | nil => simp
    | cons a l => rw [Bool.eq_iff_iff]; simp; omega
  unfold nameOkB
  rw [h]

set_option maxRecDepth 100000 in
set_option maxHeartbeats 1000000 in
theorem l1Name_any (s : ByteArray) (hs : s.size ≤ maxLen) (w : World) :
    Calls Tryz.prog 74 #[.string s] w fun e w' => e = .returned (.bool (nameOkB s.data.toList)) ∧ w' = w := by
  unfold maxLen at hs
  go_enter Tryz.func74, Tryz.ntmps74
  go_wp2
  go_loop [3] (fun i => ∃ k : Nat, k ≤ s.size ∧ i = .int .i64 k ∧ Hid ((s.data.toList.take k).all (fun c => nameB c.toNat) = true)) (fun i => s.size - (intOf i).toNat)
  case atStart => exact ⟨0, Nat.zero_le _, rfl, hid (by simp)⟩
  case round =>
    obtain ⟨k, hk, rfl, hall⟩ := hrel
    by_cases hlt : k < s.size
    · have hstep := hid (all_take_succ s k hlt (fun c => nameB c.toNat))
      cases hb : nameB ((s[k]).toNat : Int)
      · go_wp2_with (go_at_call 94; refine (l1Small_any _ _).mono ?_; rintro e w' ⟨rfl, rfl⟩)
        go_ret
        refine ⟨?_, rfl⟩
        have : (s.data.toList.all fun c => nameB c.toNat) = false := List.all_eq_false.2 ⟨s[k], by have := getByte s k hlt; exact List.mem_of_getElem? this, by simp [hb]⟩
        unfold nameOkB
        rw [this]; simp
      · go_wp2_with (go_at_call 94; refine (l1Small_any _ _).mono ?_; rintro e w' ⟨rfl, rfl⟩)
        go_round
        case rel => exact ⟨k + 1, by omega, by go_num, hid (by rw [unhid hstep, unhid hall, hb]; rfl)⟩
        case measure => simp [intOf]; omega
    · have hall' := hid (show (s.data.toList.all fun c => nameB c.toNat) = true by
        have := unhid hall; rwa [List.take_of_length_le (by simp; omega)] at this)
      have hl : s.data.toList.length = s.size := (Lib.size_eq s).symm
      have Hl := hid hl
      clear hl
      go_wp2_with (go_at_call 51; refine (l1In_any _ _ _ _).mono ?_; rintro e w' ⟨rfl, rfl⟩)
      all_goals
        try simp only [Lib.toList_data] at *
        go_ret
        refine ⟨?_, rfl⟩
        rw [nameOk_len s, unhid hall']
        simp_all <;> (intros; exfalso; omega)

set_option maxRecDepth 100000 in
set_option maxHeartbeats 1000000 in
theorem l1Path_any (s : ByteArray) (hs : s.size ≤ 1048576) (w : World) :
    Calls Tryz.prog 47 #[.string s] w fun e w' => e = .returned (.bool (pathB s.data.toList)) ∧ Below w.heap.size w w' := by
  go_enter Tryz.func47, Tryz.ntmps47
  go_wp2_with fail
  refine (l1Cut_any s 47 _ hs (by omega) (by omega) _).mono ?_
  rintro e w1 ⟨v, xs, rfl, hxs, hown, hB⟩
  have hne : xs ≠ [] := by
    intro h; subst h; exact cutB_ne _ _ hxs.symm
  obtain ⟨n, hn⟩ : ∃ n, xs.length = n + 1 := ⟨xs.length - 1, by have := List.length_pos_iff.2 hne; omega⟩
  rw [hn] at hown
  obtain ⟨g, cap, rfl⟩ := ownsRow_succ hown
  have hcell : ∀ (k : Nat) x, xs[k]? = some x → w1.cell? ⟨g, k, none⟩ = some (.string x) := fun k x hx => by
    have hk : k < xs.length := (List.getElem?_eq_some_iff.1 hx).1
    rw [hown.cellAt k (by omega), List.getElem?_map, hx]; rfl
  have hlen : ∀ x ∈ xs, x.size ≤ maxLen := fun x hx => by
    have h1 : x.data.toList ∈ cutB 47 s.data.toList := by rw [← hxs]; exact List.mem_map.2 ⟨x, hx, rfl⟩
    have h2 := cutB_le 47 _ _ h1
    rw [← Lib.size_eq, ← Lib.size_eq] at h2
    unfold maxLen; omega
  have Hcell := hid hcell
  have Hlen := hid hlen
  have Hxs := hid hxs
  have Hn := hid hn
  have hns : n ≤ 1048576 := by
    have := cutB_length 47 s.data.toList
    rw [← hxs, ← Lib.size_eq] at this
    simp [datas] at this
    omega
  clear hown hcell hlen hxs hn
  go_wp2_with fail
  go_loop [4] (fun i => ∃ k : Nat, k ≤ n + 1 ∧ i = .int .i64 k ∧ Hid (((datas xs).take k).all nameOkB = true)) (fun i => n + 1 - (intOf i).toNat)
  case atStart => exact ⟨0, Nat.zero_le _, rfl, hid (by simp)⟩
  case round =>
    obtain ⟨k, hk, rfl, hall⟩ := hrel
    by_cases hlt : k < n + 1
    · obtain ⟨x, hx⟩ : ∃ x, xs[k]? = some x := ⟨xs[k]'(by rw [unhid Hn]; exact hlt), List.getElem?_eq_getElem _⟩
      have hck := unhid Hcell k x hx
      have hlk := unhid Hlen x (List.mem_of_getElem? hx)
      have Hx := hid hx
      clear hx
      cases hb : nameOkB x.data.toList
      · go_wp2_with (go_at_call 74; refine (l1Name_any _ hlk _).mono ?_; rintro e w' ⟨rfl, rfl⟩)
        go_ret
        refine ⟨?_, hB⟩
        have hf : pathB s.data.toList = false := by
          unfold pathB
          rw [← unhid Hxs, List.all_eq_false.2 ⟨x.data.toList, List.mem_map.2 ⟨x, List.mem_of_getElem? (unhid Hx), rfl⟩, by simp [hb]⟩]; simp
        rw [hf]; rfl
      · go_wp2_with (go_at_call 74; refine (l1Name_any _ hlk _).mono ?_; rintro e w' ⟨rfl, rfl⟩)
        refine ⟨⟨k + 1, by omega, by go_num, hid ?_⟩, by simp [intOf]; omega⟩
        rw [List.take_add_one, List.getElem?_map, unhid Hx, List.all_append, unhid hall]
        simp [hb]
    · go_wp2
      go_ret
      refine ⟨?_, hB⟩
      have hl : (datas xs).length = n + 1 := by rw [← unhid Hn]; simp [datas]
      have hall' : (datas xs).all nameOkB = true := by have := unhid hall; rwa [List.take_of_length_le (by omega)] at this
      have hf : pathB s.data.toList = decide ((n : Int) + 1 ≤ 5) := by
        unfold pathB
        rw [← unhid Hxs, hall', hl, Bool.and_true]
        simp; omega
      rw [hf]; rfl

end Go.Proofs.YtfphpggjcljliaaGreat

/- The last place of a byte in a text, and what stands ahead of it and behind it. -/
namespace Go.Proofs.YtfphpggjcljliaaGreat
open Go.RowKit Go.Shelf

/-- The last place of a byte; -1 if it is nowhere. -/
def lastIx (b : UInt8) : List UInt8 → Int
  | [] => -1
  | c :: l => if 0 ≤ lastIx b l then lastIx b l + 1 else if c == b then 0 else -1

theorem lastIx_ge (b : UInt8) : ∀ l, -1 ≤ lastIx b l
  | [] => by simp [lastIx]
  | c :: l => by have := lastIx_ge b l; unfold lastIx; split <;> (try split) <;> omega
theorem lastIx_lt (b : UInt8) : ∀ l, lastIx b l < l.length
  | [] => by simp [lastIx]
  | c :: l => by have := lastIx_lt b l; unfold lastIx; split <;> (try split) <;> simp <;> omega
theorem lastIx_no (b : UInt8) : ∀ l : List UInt8, (∀ j : Nat, l[j]? ≠ some b) → lastIx b l = -1
  | [], _ => rfl
  | c :: l, h => by
    have ih := lastIx_no b l (fun j => by have := h (j + 1); simpa using this)
    have hc : (c == b) = false := by have := h 0; simpa using this
    simp [lastIx, ih, hc]
theorem lastIx_at (b : UInt8) : ∀ (l : List UInt8) (i : Nat), l[i]? = some b → (∀ j : Nat, i < j → l[j]? ≠ some b) → lastIx b l = i
  | [], i, h, _ => by simp at h
  | c :: l, 0, h, hn => by
    have ih := lastIx_no b l (fun j => by have := hn (j + 1) (by omega); simpa using this)
    simp at h
    simp [lastIx, ih, h]
  | c :: l, i + 1, h, hn => by
    have ih := lastIx_at b l i (by simpa using h) (fun j hj => by have := hn (j + 1) (by omega); simpa using this)
    simp [lastIx, ih]

theorem cutB_lastIx (b : UInt8) : ∀ l : List UInt8, (lastIx b l < 0 → cutB b l = [l]) ∧ (0 ≤ lastIx b l → ∃ x y t, cutB b l = x :: y :: t) ∧ (cutB b l).getLast? = some (l.drop (lastIx b l + 1).toNat)
  | [] => by simp [lastIx, cutB]
  | c :: l => by
    obtain ⟨h1, h2, h3⟩ := cutB_lastIx b l
    have hg := lastIx_ge b l
    by_cases hc : (c == b) = true
    · by_cases hl : 0 ≤ lastIx b l
      · obtain ⟨x, y, t, e⟩ := h2 hl
        have el : lastIx b (c :: l) = lastIx b l + 1 := by simp [lastIx, hl]
        rw [el]
        refine ⟨by omega, fun _ => ⟨[], x, y :: t, by simp [cutB, hc, e]⟩, ?_⟩
        rw [show (lastIx b l + 1 + 1).toNat = (lastIx b l + 1).toNat + 1 from by omega, List.drop_succ_cons, ← h3]
        simp [cutB, hc, e]
      · have e : lastIx b l = -1 := by omega
        have el : lastIx b (c :: l) = 0 := by simp [lastIx, e, hc]
        have e1 := h1 (by omega)
        rw [el]
        refine ⟨by omega, fun _ => ⟨[], l, [], by simp [cutB, hc, e1]⟩, by simp [cutB, hc, e1]⟩
    · by_cases hl : 0 ≤ lastIx b l
      · obtain ⟨x, y, t, e⟩ := h2 hl
        have el : lastIx b (c :: l) = lastIx b l + 1 := by simp [lastIx, hl]
        rw [el]
        refine ⟨by omega, fun _ => ⟨c :: x, y, t, by simp [cutB, hc, e]⟩, ?_⟩
        rw [show (lastIx b l + 1 + 1).toNat = (lastIx b l + 1).toNat + 1 from by omega, List.drop_succ_cons, ← h3]
        simp [cutB, hc, e]
      · have e : lastIx b l = -1 := by omega
        have el : lastIx b (c :: l) = -1 := by simp [lastIx, e, hc]
        have e1 := h1 (by omega)
        rw [el]
        refine ⟨fun _ => by simp [cutB, hc, e1], by omega, by simp [cutB, hc, e1]⟩

theorem ba_ext {x y : ByteArray} (h : x.data.toList = y.data.toList) : x = y := by
  obtain ⟨⟨l⟩⟩ := x; obtain ⟨⟨m⟩⟩ := y; simp at h; subst h; rfl

/-- What stands ahead of the last slash; nothing without one. -/
def upS (s : ByteArray) : ByteArray := if lastIx 47 s.data.toList < 0 then ⟨#[]⟩ else s.extract 0 (lastIx 47 s.data.toList).toNat
/-- What stands behind the last slash. -/
def lastS (s : ByteArray) : ByteArray := s.extract (lastIx 47 s.data.toList + 1).toNat s.size

set_option maxRecDepth 100000 in
set_option maxHeartbeats 1000000 in
theorem baLastIndexByte_any (s : ByteArray) (b : UInt8) (hs : s.size ≤ maxLen) (w : World) :
    Calls Tryz.prog 88 #[.string s, .int .u8 b.toNat] w fun e w' => e = .returned (.int .i64 (lastIx b s.data.toList)) ∧ w' = w := by
  unfold maxLen at hs
  go_enter Tryz.func88, Tryz.ntmps88
  go_wp2
  go_loop [5] (fun i => ∃ k : Nat, k ≤ s.size ∧ i = .int .i64 ((k : Int) - 1) ∧ Hid (∀ j : Nat, k ≤ j → s.data.toList[j]? ≠ some b)) (fun i => (intOf i + 1).toNat)
  case atStart => exact ⟨s.size, Nat.le_refl _, rfl, hid (fun j hj => by rw [List.getElem?_eq_none (by simp; omega)]; simp)⟩
  case round =>
    obtain ⟨k, hk, rfl, hno⟩ := hrel
    cases k with
    | zero =>
      go_wp2
      go_ret
      exact ⟨by rw [lastIx_no b _ (fun j => unhid hno j (by omega))]; rfl, rfl⟩
    | succ k =>
      by_cases hb : s[k] = b
      · have hb' : (((s[k]).toNat : Int) == (b.toNat : Int)) = true := by simp [hb]
        go_wp2
        go_ret
        exact ⟨by rw [lastIx_at b _ k (by rw [getByte s k (by omega), hb]) (fun j hj => unhid hno j (by omega))]; rfl, rfl⟩
      · have hb' : (((s[k]).toNat : Int) == (b.toNat : Int)) = false := by
          rw [beq_eq_false_iff_ne]; intro h; exact hb (UInt8.toNat_inj.1 (by omega))
        go_wp2
        refine ⟨⟨k, by omega, rfl, hid (fun j hj => ?_)⟩, by simp [intOf]⟩
        by_cases hj' : j = k
        · subst hj'; rw [getByte s j (by omega)]; simpa using hb
        · exact unhid hno j (by omega)

set_option maxHeartbeats 1000000 in
theorem LastIndexByte_any (s : ByteArray) (b : UInt8) (hs : s.size ≤ maxLen) (w : World) :
    Calls Tryz.prog 70 #[.string s, .int .u8 b.toNat] w fun e w' => e = .returned (.int .i64 (lastIx b s.data.toList)) ∧ w' = w := by
  go_enter Tryz.func70, Tryz.ntmps70
  go_wp2_with (go_at_call 88; refine (baLastIndexByte_any _ _ hs _).mono ?_; rintro e w' ⟨rfl, rfl⟩)
  go_ret
  exact ⟨rfl, rfl⟩

set_option maxRecDepth 100000 in
set_option maxHeartbeats 1000000 in
theorem l1Up_any (s : ByteArray) (hs : s.size ≤ maxLen) (w : World) :
    Calls Tryz.prog 26 #[.string s] w fun e w' => e = .returned (.string (upS s)) ∧ w' = w := by
  unfold maxLen at hs
  go_enter Tryz.func26, Tryz.ntmps26
  go_wp2
  go_loop [3] (fun i => ∃ k : Nat, k ≤ s.size ∧ i = .int .i64 ((k : Int) - 1) ∧ Hid (∀ j : Nat, k ≤ j → s.data.toList[j]? ≠ some 47)) (fun i => (intOf i + 1).toNat)
  case atStart => exact ⟨s.size, Nat.le_refl _, rfl, hid (fun j hj => by rw [List.getElem?_eq_none (by simp; omega)]; simp)⟩
  case round =>
    obtain ⟨k, hk, rfl, hno⟩ := hrel
    cases k with
    | zero =>
      go_wp2
      go_ret
      have e : upS s = ⟨#[]⟩ := by unfold upS; rw [lastIx_no 47 _ (fun j => unhid hno j (by omega))]; rfl
      exact ⟨by rw [e]; rfl, rfl⟩
    | succ k =>
      by_cases hb : s[k] = 47
      · have hb' : (((s[k]).toNat : Int) == 47) = true := by simp [hb]
        go_wp2
        go_ret
        have e : upS s = s.extract 0 k := by unfold upS; rw [lastIx_at 47 _ k (by rw [getByte s k (by omega), hb]) (fun j hj => unhid hno j (by omega)), if_neg (by omega)]; simp
        exact ⟨by rw [e]; rfl, rfl⟩
      · have hb' : (((s[k]).toNat : Int) == 47) = false := by
          rw [beq_eq_false_iff_ne]; intro h; exact hb (UInt8.toNat_inj.1 (by simp; omega))
        go_wp2
        refine ⟨⟨k, by omega, rfl, hid (fun j hj => ?_)⟩, by simp [intOf]⟩
        by_cases hj' : j = k
        · subst hj'; rw [getByte s j (by omega)]; simpa using hb
        · exact unhid hno j (by omega)

/-- What the model's PathUp and PathLast answer. -/
def pathUpS (s : ByteArray) : ByteArray := if pathB s.data.toList then upS s else ⟨#[]⟩
def pathLastS (s : ByteArray) : ByteArray := if pathB s.data.toList then lastS s else ⟨#[]⟩

set_option maxHeartbeats 1000000 in
theorem PathUp_any (s : ByteArray) (hm : s.size ≤ maxLen) (w : World) :
    Calls Tryz.prog 44 #[.string s] w fun e w' => e = .returned (.string (pathUpS s)) ∧ Below w.heap.size w w' := by
  have hg := lastIx_ge 47 s.data.toList
  have hl := lastIx_lt 47 s.data.toList
  rw [← Lib.size_eq] at hl
  by_cases hi : lastIx 47 s.data.toList < 0
  · have e : pathUpS s = ⟨#[]⟩ := by simp [pathUpS, upS, hi]
    have E := hid e
    clear e
    go_enter Tryz.func44, Tryz.ntmps44
    go_wp2_with fail
    refine (LastIndexByte_any s 47 hm _).mono ?_
    rintro e w' ⟨rfl, rfl⟩
    go_wp2_with fail
    go_ret
    exact ⟨by rw [unhid E]; rfl, Below.refl _ _⟩
  · obtain ⟨i, ei⟩ : ∃ i : Nat, lastIx 47 s.data.toList = i := ⟨(lastIx 47 s.data.toList).toNat, by omega⟩
    have hm' : s.size ≤ 9223372036854775807 := hm
    cases hp : pathB s.data.toList
    · have E := hid (show pathUpS s = ⟨#[]⟩ by simp [pathUpS, hp])
      go_enter Tryz.func44, Tryz.ntmps44
      go_wp2_with fail
      refine (LastIndexByte_any s 47 hm _).mono ?_
      rintro e w' ⟨rfl, rfl⟩
      go_wp2_with (go_at_call 29; refine (PathOk_any _ hm _).mono ?_; rintro e w' ⟨rfl, hb⟩)
      go_ret
      exact ⟨by rw [unhid E]; rfl, hb⟩
    · have E := hid (show pathUpS s = s.extract 0 i by simp [pathUpS, upS, hp, ei]; omega)
      go_enter Tryz.func44, Tryz.ntmps44
      go_wp2_with fail
      refine (LastIndexByte_any s 47 hm _).mono ?_
      rintro e w' ⟨rfl, rfl⟩
      go_wp2_with (go_at_call 29; refine (PathOk_any _ hm _).mono ?_; rintro e w' ⟨rfl, hb⟩)
      go_ret
      exact ⟨by rw [unhid E]; rfl, hb⟩
end Go.Proofs.YtfphpggjcljliaaGreat

/- Entries of trees as the program keeps them in rows; the laws' own copies of them, their sizes, whether two rows are the same. -/
namespace Go.Proofs.YtfphpggjcljliaaGreat
open Go.RowKit Go.Shelf

structure Ent where
  path : ByteArray
  kind : Int
  mode : Int
  text : ByteArray
def Ent.vals (e : Ent) : Array Value := #[.string e.path, .int .i64 e.kind, .int .i64 e.mode, .string e.text]
def Ent.none : Ent := ⟨⟨#[]⟩, 0, 0, ⟨#[]⟩⟩

/-- The four cells of an entry. -/
structure EntAt (W : World) (b o : Nat) (e : Ent) : Prop where
  c0 : W.cell? ⟨b, o, .none⟩ = some (.string e.path)
  c1 : W.cell? ⟨b, o + 1, .none⟩ = some (.int .i64 e.kind)
  c2 : W.cell? ⟨b, o + 2, .none⟩ = some (.int .i64 e.mode)
  c3 : W.cell? ⟨b, o + 3, .none⟩ = some (.string e.text)

theorem EntAt.below {W W' : World} {B b o : Nat} {e : Ent} (h : EntAt W b o e) (hb : Below B W W') (hl : b < B) : EntAt W' b o e :=
  ⟨(hb.cell (p := ⟨b, o, .none⟩) hl).trans h.c0, (hb.cell (p := ⟨b, o + 1, .none⟩) hl).trans h.c1, (hb.cell (p := ⟨b, o + 2, .none⟩) hl).trans h.c2, (hb.cell (p := ⟨b, o + 3, .none⟩) hl).trans h.c3⟩
/-- A row of entries that is read. -/
def EntsAt (W : World) (a : Option Addr) (es : List Ent) : Prop := es = [] ∨ ∃ b o, a = some ⟨b, o, .none⟩ ∧ b < W.heap.size ∧ ∀ (i : Nat) e, es[i]? = some e → EntAt W b (o + i * 4) e
theorem EntsAt.below {W W' : World} {a : Option Addr} {es : List Ent} (h : EntsAt W a es) (hb : Below W.heap.size W W') : EntsAt W' a es := by
  rcases h with h | ⟨b, o, rfl, hl, hc⟩
  · exact .inl h
  · exact .inr ⟨b, o, rfl, Nat.lt_of_lt_of_le hl hb.size, fun i e hi => (hc i e hi).below hb hl⟩
theorem EntsAt.get {W : World} {a : Option Addr} {es : List Ent} (h : EntsAt W a es) (hne : es ≠ []) : ∃ b o, a = some ⟨b, o, .none⟩ ∧ b < W.heap.size ∧ ∀ (i : Nat) e, es[i]? = some e → EntAt W b (o + i * 4) e := h.resolve_left hne
def totE (es : List Ent) : Nat := (es.map fun e => e.path.size + e.text.size).sum
theorem totE_take (es : List Ent) (k : Nat) (e : Ent) (h : es[k]? = some e) : totE (es.take (k + 1)) = totE (es.take k) + e.path.size + e.text.size := by
  unfold totE
  rw [List.take_add_one, h]
  simp; omega
theorem totE_mem {es : List Ent} {e : Ent} (h : e ∈ es) : e.path.size + e.text.size ≤ totE es := by
  unfold totE
  induction es with
  | nil => cases h
  | cons x es ih =>
    rcases List.mem_cons.1 h with rfl | h
    · simp
    · have := ih h; simp; omega
def bigE (es : List Ent) : Prop := ∀ e ∈ es, e.path.size ≤ maxLen ∧ e.text.size ≤ maxLen

/-- A block that is a row of n entries. -/
def EntRow (W : World) (g T n : Nat) (f : Nat → Ent) : Prop := ∃ cur : Array Value, W.heap[g]? = some (.cells cur T (0, 0)) ∧ cur.size = n * 4 ∧ ∀ i, i < n → cur[i * 4]? = some (.string (f i).path) ∧ cur[i * 4 + 1]? = some (.int .i64 (f i).kind) ∧ cur[i * 4 + 2]? = some (.int .i64 (f i).mode) ∧ cur[i * 4 + 3]? = some (.string (f i).text)
theorem EntRow.lt {W : World} {g T n : Nat} {f : Nat → Ent} (x : EntRow W g T n f) : g < W.heap.size := by
  obtain ⟨cur, h1, _⟩ := x; exact (Array.getElem?_eq_some_iff.1 h1).1
theorem EntRow.block {W W' : World} {g T n : Nat} {f : Nat → Ent} (x : EntRow W g T n f) (e : W'.heap[g]? = W.heap[g]?) : EntRow W' g T n f := by
  obtain ⟨cur, h1, h2, h3⟩ := x; exact ⟨cur, e.trans h1, h2, h3⟩
theorem EntRow.below {W W' : World} {B g T n : Nat} {f : Nat → Ent} (x : EntRow W g T n f) (hb : Below B W W') (hg : g < B) : EntRow W' g T n f := x.block (hb.block g hg)
theorem EntRow.congr {W : World} {g T n : Nat} {f f' : Nat → Ent} (x : EntRow W g T n f) (e : ∀ j, j < n → f j = f' j) : EntRow W g T n f' := by
  obtain ⟨cur, h1, h2, h3⟩ := x; exact ⟨cur, h1, h2, fun j hj => by rw [← e j hj]; exact h3 j hj⟩
theorem EntRow.cells {W : World} {g T n : Nat} {f : Nat → Ent} (x : EntRow W g T n f) (k : Nat) (hk : k < n) : EntAt W g (k * 4) (f k) ∧ (W.frozen? ⟨g, k * 4, .none⟩ = false ∧ W.frozen? ⟨g, k * 4 + 1, .none⟩ = false ∧ W.frozen? ⟨g, k * 4 + 2, .none⟩ = false ∧ W.frozen? ⟨g, k * 4 + 3, .none⟩ = false) := by
  obtain ⟨cur, h1, h2, h3⟩ := x
  obtain ⟨a, b, c, d⟩ := h3 k hk
  exact ⟨⟨by simp [World.cell?, h1, a], by simp [World.cell?, h1, b], by simp [World.cell?, h1, c], by simp [World.cell?, h1, d]⟩, by simp [World.frozen?, h1], by simp [World.frozen?, h1], by simp [World.frozen?, h1], by simp [World.frozen?, h1]⟩
def upd {α : Type} (f : Nat → α) (k : Nat) (e : α) : Nat → α := fun j => if j = k then e else f j
theorem EntRow.set {W : World} {g T n : Nat} {f : Nat → Ent} (x : EntRow W g T n f) (k : Nat) (hk : k < n) (e : Ent) :
    EntRow ((((W.setCell ⟨g, k * 4, .none⟩ (.string e.path)).setCell ⟨g, k * 4 + 1, .none⟩ (.int .i64 e.kind)).setCell ⟨g, k * 4 + 2, .none⟩ (.int .i64 e.mode)).setCell ⟨g, k * 4 + 3, .none⟩ (.string e.text)) g T n (upd f k e) := by
  obtain ⟨cur, h1, h2, h3⟩ := x
  refine ⟨(((cur.setIfInBounds (k * 4) (.string e.path)).setIfInBounds (k * 4 + 1) (.int .i64 e.kind)).setIfInBounds (k * 4 + 2) (.int .i64 e.mode)).setIfInBounds (k * 4 + 3) (.string e.text), ?_, by simpa using h2, fun i hi => ?_⟩
  · exact heap_setCell_same _ g _ _ T _ (heap_setCell_same _ g _ _ T _ (heap_setCell_same _ g _ _ T _ (heap_setCell_same _ g _ _ T _ h1)))
  · unfold upd
    simp only [Array.getElem?_setIfInBounds, Array.size_setIfInBounds]
    by_cases e1 : i = k
    · subst e1
      have eu : (if i = i then e else f i) = e := if_pos rfl
      rw [eu]
      refine ⟨?_, ?_, ?_, ?_⟩
      · rw [if_neg (by omega), if_neg (by omega), if_neg (by omega), if_pos rfl, if_pos (by omega)]
      · rw [if_neg (by omega), if_neg (by omega), if_pos rfl, if_pos (by omega)]
      · rw [if_neg (by omega), if_pos rfl, if_pos (by omega)]
      · rw [if_pos rfl, if_pos (by omega)]
    · rw [if_neg e1]
      obtain ⟨a, b, c, d⟩ := h3 i hi
      refine ⟨?_, ?_, ?_, ?_⟩
      · rw [if_neg (by omega), if_neg (by omega), if_neg (by omega), if_neg (by omega)]; exact a
      · rw [if_neg (by omega), if_neg (by omega), if_neg (by omega), if_neg (by omega)]; exact b
      · rw [if_neg (by omega), if_neg (by omega), if_neg (by omega), if_neg (by omega)]; exact c
      · rw [if_neg (by omega), if_neg (by omega), if_neg (by omega), if_neg (by omega)]; exact d
def entFn (es : List Ent) (i : Nat) : Ent := es.getD i Ent.none
theorem entFn_get {es : List Ent} {i : Nat} {e : Ent} (h : es[i]? = some e) : entFn es i = e := by unfold entFn; rw [List.getD_eq_getElem?_getD, h]; rfl
/-- Entries that a row owns, all of it. -/
theorem EntRow.at {W : World} {g T n : Nat} {es : List Ent} (x : EntRow W g T n (entFn es)) (hn : es.length ≤ n) : EntsAt W (some ⟨g, 0, .none⟩) es :=
  .inr ⟨g, 0, rfl, x.lt, fun i e hi => by
    have hl : i < es.length := (List.getElem?_eq_some_iff.1 hi).1
    have := (x.cells i (by omega)).1
    rw [entFn_get hi] at this
    rwa [Nat.zero_add]⟩
theorem infoEnt : (Tryz.prog.info? 30).map (fun i => (i.zero, i.size, i.bytes)) = some (some (.agg #[.string ⟨#[]⟩, .int .i64 0, .int .i64 0, .string ⟨#[]⟩]), 4, 48) := by kernel_rfl
theorem mkEnts (W : World) (n : Nat) (hn : n ≤ 1048576) : ∃ M : Array Value, (Instr.makeSlice 23 (.int .i64 (n : Int)) (.int .i64 (n : Int))).run Tryz.prog W = .ok (.slice (some ⟨W.heap.size, 0, .none⟩) n n) (W.alloc (.cells M 30)) ∧ EntRow (W.alloc (.cells M 30)) W.heap.size 30 n (fun _ => Ent.none) := by
  obtain ⟨i, hi, hz0, hz1, hz2⟩ := info_parts infoEnt
  refine ⟨madeCells #[.string ⟨#[]⟩, .int .i64 0, .int .i64 0, .string ⟨#[]⟩] (n * 4), ?_, _, World.alloc_heap_new W _, by simp [madeCells], fun j hj => ?_⟩
  · have := run_make (P := Tryz.prog) W 23 30 i _ Tryz.underlying23 hi hz0 .i64 .i64 n n (by omega) (Int.le_refl _) (by rw [hz2]; omega) (by omega)
    simpa [hz1, Value.cells] using this
  · unfold madeCells
    simp only [Array.getElem?_map, Array.getElem?_range]
    have e0 : j * 4 % 4 = 0 := by omega
    have e1 : (j * 4 + 1) % 4 = 1 := by omega
    have e2 : (j * 4 + 2) % 4 = 2 := by omega
    have e3 : (j * 4 + 3) % 4 = 3 := by omega
    rw [if_pos (by omega), if_pos (by omega), if_pos (by omega), if_pos (by omega)]
    simp [e0, e1, e2, e3, Ent.none]

theorem gb_refl (w : World) (r : Option Nat) : w.grownBy w r := ⟨rfl, rfl, rfl, Nat.le_refl _, fun _ _ _ => rfl⟩
def eqE (x y : Ent) : Bool := (x.path.toList == y.path.toList) && (x.kind == y.kind) && (x.mode == y.mode) && (x.text.toList == y.text.toList)
theorem eqE_self (x : Ent) : eqE x x = true := by unfold eqE; simp
theorem eqE_iff (x y : Ent) : eqE x y = true ↔ x = y := by
  unfold eqE
  simp only [Bool.and_eq_true, beq_iff_eq]
  constructor
  · rintro ⟨⟨⟨a, b⟩, c⟩, d⟩
    obtain ⟨p, k, m, t⟩ := x
    obtain ⟨p2, k2, m2, t2⟩ := y
    dsimp only at a b c d
    rw [Lib.toList_data, Lib.toList_data] at a d
    rw [ba_ext a, b, c, ba_ext d]
  · rintro rfl; exact ⟨⟨⟨rfl, rfl⟩, rfl⟩, rfl⟩

end Go.Proofs.YtfphpggjcljliaaGreat

/- Whether two rows of entries are the same, by the laws. -/
namespace Go.Proofs.YtfphpggjcljliaaGreat
open Go.RowKit Go.Shelf

theorem drewN_below {B : Nat} (w : World) (m : Nat) : Below B w (w.drewN m) := ⟨rfl, rfl, rfl, Nat.le_refl _, fun _ _ => rfl⟩
theorem drew_below {B : Nat} (w : World) : Below B w w.drew := ⟨rfl, rfl, rfl, Nat.le_refl _, fun _ _ => rfl⟩
def eqEs (xs ys : List Ent) : Bool := decide (xs.length = ys.length) && (List.range xs.length).all fun i => eqE (entFn xs i) (entFn ys i)
theorem eqEs_self (xs : List Ent) : eqEs xs xs = true := by unfold eqEs; simp [eqE_self]

end Go.Proofs.YtfphpggjcljliaaGreat
