/- Texts of this proof, one behind the other; each says at its head what it shows. -/
import Derived.Test.YtedimkcnemhhpaaRows
import Derived.WalkKit
import Derived.ProofKit
import Derived.OpenShut
import Derived.Test.YtedimkcnemhhpaaProg
import Derived.WalkLawsBesides
import Derived.Deep.QuietTactic
import Derived.BigQuiet
import Derived.Outline
import Derived.Deep.Draws
import Derived.Laws.AppendOwn
import Derived.RangeFuncBox
import Derived.RangeFuncNested
import Derived.RangeFuncBound
import Derived.RangeFuncCalls
import Derived.RangeFuncLeaves
import Derived.Shelf.Abstract
import Derived.Shelf.RegionOpen
import Derived.OwnWalkIn
import Derived.TacticsInMore
import Derived.LoopNIn
import Derived.LoopIn
import Derived.Deep.OwnRows
import Derived.Maps.OwnIn
import Derived.Deep.RegionWith
import Derived.Lib.Strings
import Derived.WalkSpells
/- The way from a walk to a row: what lay below is as it was. -/
namespace Go.Proofs.Ytedimkcnemhhpaa
open Go.ChangeShapes Go.WideShapes Go.ChangeAt Go.RowKit

theorem own : ownKnob Try.prog.godebug = none := by kernel_rfl
theorem laidOut : laidOutB Try.prog = true := by kernel_rfl

theorem post_below {H : Type} {enc : TypeId × Value → H} {P : Program} {f : Func} {s : ChangeSpec} {apart fresh handsOn : Bool} {W W' : World} {args : Array Value} {v : Value} {ds gs : List (DataW H)} {before pa pv : List MemPlace}
    (hW : DataW.Whole enc P f.params.toList s.vars apart W args.toList ds gs before)
    (hres : ∀ (b : Nat) (sp : Nat → Bool) (hd : Bool), DataW.TrodAll enc P W' b sp hd f.resultTypes.toList (v.resultList f.resultTypes.size) (s.fn H (ds ++ gs)).results [])
    (hargs : DataW.TrodAll enc P W' 0 (fun b => decide (b < W.heap.size)) true f.params.toList args.toList (s.fn H (ds ++ gs)).args pa)
    (hvars : DataW.TrodVars enc P W' (fun b => decide (b < W.heap.size)) s.vars (s.fn H (ds ++ gs)).vars pv)
    (hps : before = pa ++ pv) (hB : Below W.heap.size W W') :
    s.post enc P f apart fresh handsOn false W args v W' := by
  refine ⟨ds, gs, before, [], pa, pv, hW, hres _ _ _, hargs, hvars, World.keptBut_mono (fun p hp => ⟨hp, ?_⟩) (hB.frame (· ∈ before)), fun h => by cases h⟩
  rw [hps, List.mem_append] at hp
  exact Or.inr hp
end Go.Proofs.Ytedimkcnemhhpaa

/- What the byte tests of the program and of its model answer: the byte is a figure, a letter, may stand in a name. -/
namespace Go.Proofs.Ytedimkcnemhhpaa
open Go.RowKit

theorem hid {p : Prop} (h : p) : Hid p := h
theorem unhid {p : Prop} (h : Hid p) : p := h

def figB (c : Int) : Bool := decide (48 ≤ c) && decide (c ≤ 57)
def letB (c : Int) : Bool := decide (97 ≤ c) && decide (c ≤ 122)
def nameB (c : Int) : Bool := figB c || letB c || c == 46 || c == 95 || c == 45

set_option maxHeartbeats 400000 in
theorem isFigure_any (c : Int) (w : World) :
    Calls Try.prog 113 #[.int .u8 c] w fun e w' => e = .returned (.bool (figB c)) ∧ w' = w := by
  by_cases h1 : 48 ≤ c <;> by_cases h2 : c ≤ 57 <;>
  · go_enter Try.func113, Try.ntmps113
    go_wp2
    go_ret
    exact ⟨by simp [figB, h1, h2], rfl⟩

set_option maxHeartbeats 400000 in
theorem isLetter_any (c : Int) (w : World) :
    Calls Try.prog 114 #[.int .u8 c] w fun e w' => e = .returned (.bool (letB c)) ∧ w' = w := by
  by_cases h1 : 97 ≤ c <;> by_cases h2 : c ≤ 122 <;>
  · go_enter Try.func114, Try.ntmps114
    go_wp2
    go_ret
    exact ⟨by simp [letB, h1, h2], rfl⟩

set_option maxHeartbeats 1000000 in
theorem isNameByte_any (c : Int) (w : World) :
    Calls Try.prog 108 #[.int .u8 c] w fun e w' => e = .returned (.bool (nameB c)) ∧ w' = w := by
  cases h1 : figB c
  case' false => cases h2 : letB c
  case' false.false => cases h3 : (c == 46)
  case' false.false.false => cases h4 : (c == 95)
  case' false.false.false.false => cases h5 : (c == 45)
  all_goals
    go_enter Try.func108, Try.ntmps108
    go_wp2_with (first | (go_at_call 113; refine (isFigure_any _ _).mono ?_; rintro e w' ⟨rfl, rfl⟩) | (go_at_call 114; refine (isLetter_any _ _).mono ?_; rintro e w' ⟨rfl, rfl⟩))
    go_ret
    exact ⟨by simp_all [nameB], rfl⟩

set_option maxHeartbeats 1000000 in
theorem l1Small_any (c : Int) (w : World) :
    Calls Try.prog 98 #[.int .u8 c] w fun e w' => e = .returned (.bool (nameB c)) ∧ w' = w := by
  by_cases h1 : 97 ≤ c <;> by_cases h2 : c ≤ 122 <;> by_cases h6 : 48 ≤ c <;> by_cases h7 : c ≤ 57 <;> cases h3 : (c == 46) <;> cases h4 : (c == 95) <;> cases h5 : (c == 45)
  all_goals first | (exfalso; simp at *; omega) | skip
  all_goals
    go_enter Try.func98, Try.ntmps98
    go_wp2
    go_ret
    exact ⟨by simp_all [nameB, figB, letB], rfl⟩

set_option maxHeartbeats 400000 in
theorem l1In_any (n a b : Int) (w : World) :
    Calls Try.prog 60 #[.int .i64 n, .int .i64 a, .int .i64 b] w fun e w' => e = .returned (.bool (decide (a ≤ n) && decide (n ≤ b))) ∧ w' = w := by
  by_cases h1 : a ≤ n <;> by_cases h2 : n ≤ b <;>
  · go_enter Try.func60, Try.ntmps60
    go_wp2
    go_ret
    exact ⟨by simp [h1, h2], rfl⟩

end Go.Proofs.Ytedimkcnemhhpaa

/- What the laws' draws give: numbers below a bound, texts that are short. -/
namespace Go.Proofs.Ytedimkcnemhhpaa
open Go.RowKit

/-- The reader at block b: what it reads of, and where it stands. -/
structure Rd (w : World) (b : Nat) (a : Option Addr) (len cap p : Nat) : Prop where
  c0 : w.cell? ⟨b, 0, none⟩ = some (.slice a len cap)
  c1 : w.cell? ⟨b, 1, none⟩ = some (.int .i64 p)
  f1 : w.frozen? ⟨b, 1, none⟩ = false
  l : len ≤ 2000
  d : len = 0 ∨ ∃ blk off, a = some ⟨blk, off, none⟩ ∧ blk < b ∧ ∀ k, k < len → ∃ c : Nat, c < 256 ∧ w.cell? ⟨blk, off + k, none⟩ = some (.int .u8 c)

theorem wrap_in (x : Int) (h0 : 0 ≤ x) (h : x < 4611686018427387904) : IntKind.i64.wrap x = x := by
  rw [IntKind.wrap_i64]; omega
theorem xor_i64 (a b : Int) (ha0 : 0 ≤ a) (ha : a < 4611686018427387904) (hb0 : 0 ≤ b) (hb : b < 4611686018427387904) : 0 ≤ bits .xor .i64 a b := by
  obtain ⟨x, rfl⟩ := Int.eq_ofNat_of_zero_le ha0
  obtain ⟨y, rfl⟩ := Int.eq_ofNat_of_zero_le hb0
  have hx : x ^^^ y < 2 ^ 62 := Nat.xor_lt_two_pow (by omega) (by omega)
  have h1 : (BitVec.ofInt 64 (x : Int)).toNat = x := by
    rw [BitVec.ofInt_natCast, BitVec.toNat_ofNat]; exact Nat.mod_eq_of_lt (by omega)
  have h2 : (BitVec.ofInt 64 (y : Int)).toNat = y := by
    rw [BitVec.ofInt_natCast, BitVec.toNat_ofNat]; exact Nat.mod_eq_of_lt (by omega)
  show 0 ≤ IntKind.i64.wrap ((BitVec.ofInt 64 (x : Int) ^^^ BitVec.ofInt 64 (y : Int)).toNat : Int)
  rw [BitVec.toNat_xor, h1, h2, wrap_in _ (by omega) (by omega)]
  omega
theorem set1_grown (w : World) (b : Nat) (v : Value) : w.grownBy (w.setCell ⟨b, 1, none⟩ v) (some b) :=
  ⟨rfl, rfl, rfl, by simp, fun k _ hne => Below.heap_setCell w ⟨b, 1, none⟩ v k (fun e => hne (by rw [e]))⟩
theorem Rd.step {w : World} {b : Nat} {a : Option Addr} {len cap p : Nat} (h : Rd w b a len cap p) : Rd (w.setCell ⟨b, 1, none⟩ (.int .i64 ((p : Int) + 1))) b a len cap (p + 1) where
  c0 := by rw [World.cell?_setCell_other (h := by simp)]; exact h.c0
  c1 := by rw [World.cell?_setCell_same' _ _ _ (by rw [h.c1]; rfl)]; simp
  f1 := by rw [World.frozen?_setCell]; exact h.f1
  l := h.l
  d := by
    rcases h.d with h0 | ⟨blk, off, ha, hb, hc⟩
    · exact .inl h0
    · refine .inr ⟨blk, off, ha, hb, fun k hk => ?_⟩
      obtain ⟨c, h1, h2⟩ := hc k hk
      exact ⟨c, h1, (World.cell?_of_block (w := w) (Below.heap_setCell w ⟨b, 1, none⟩ _ blk (by simp; omega))).trans h2⟩
theorem Rd.drewN {w : World} {b : Nat} {a : Option Addr} {len cap p : Nat} (h : Rd w b a len cap p) (m : Nat) : Rd (w.drewN m) b a len cap p := ⟨h.c0, h.c1, h.f1, h.l, h.d⟩
theorem grown_drewN {w w' : World} {r : Option Nat} (h : w.grownBy w' r) (m : Nat) : w.grownBy (w'.drewN m) r := ⟨h.os, h.tape, h.output, h.size, h.block⟩

set_option maxRecDepth 100000 in
set_option maxHeartbeats 1000000 in
theorem pick_any (w : World) (b : Nat) (a : Option Addr) (len cap p : Nat) (h : Rd w b a len cap p) (hp : p ≤ 1048576) (n : Int) (h1 : 1 ≤ n) (h2 : n ≤ 1048576) :
    Calls Try.prog 69 #[.pointer (some ⟨b, 0, none⟩), .int .i64 n] w fun e w' => ∃ r : Nat, (r : Int) < n ∧ e = .returned (.int .i64 r) ∧ Rd w' b a len cap (p + 1) ∧ w.grownBy w' (some b) := by
  have hst := hid h.step
  have hgr := hid (set1_grown w b (.int .i64 ((p : Int) + 1)))
  obtain ⟨c0, c1, f1, l, d⟩ := h
  have D := hid d
  clear d
  by_cases hl : len = 0
  · subst hl
    go_enter Try.func69, Try.ntmps69
    go_wp2
    go_ret
    exact ⟨0, by omega, rfl, unhid hst, unhid hgr⟩
  · have hl0 : ((len : Int) == 0) = false := by rw [beq_eq_false_iff_ne]; omega
    obtain ⟨blk, off, rfl, hb, hc⟩ := (unhid D).resolve_left hl
    by_cases hk : p < len
    · obtain ⟨c, hc1, hc2⟩ := hc p hk
      have Hc := hid hc
      clear hc
      go_enter Try.func69, Try.ntmps69
      go_wp2
      go_ret
      refine ⟨((c : Int) % n).toNat, ?_, ?_, unhid hst, unhid hgr⟩
      · have := Int.emod_lt_of_pos (c : Int) (show 0 < n by omega); have := Int.emod_nonneg (c : Int) (show n ≠ 0 by omega); omega
      · rw [Int.toNat_of_nonneg (Int.emod_nonneg _ (by omega))]; rfl
    · obtain ⟨q, hq, hql⟩ : ∃ q : Nat, (p : Int).tmod len = q ∧ q < len := ⟨p % len, by rw [Int.tmod_eq_emod_of_nonneg (by omega)]; simp, Nat.mod_lt _ (by omega)⟩
      obtain ⟨q2, hq2, hql2⟩ : ∃ q2 : Nat, ((p : Int) * 7 + 3).tmod len = q2 ∧ q2 < len := ⟨(p * 7 + 3) % len, by rw [Int.tmod_eq_emod_of_nonneg (by omega)]; simp, Nat.mod_lt _ (by omega)⟩
      obtain ⟨d, hd, hdl⟩ : ∃ d : Nat, (p : Int).tdiv len = d ∧ d ≤ p := ⟨p / len, by rw [Int.tdiv_eq_ediv_of_nonneg (by omega)]; simp, Nat.div_le_self _ _⟩
      obtain ⟨x, hx1, hx2⟩ := hc _ hql
      obtain ⟨y, hy1, hy2⟩ := hc _ hql2
      have Hc := hid hc
      clear hc
      have w1 := wrap_in ((p : Int) * 7) (by omega) (by omega)
      have w2 := wrap_in ((p : Int) * 7 + 3) (by omega) (by omega)
      have e1 := wrap_in ((x : Int) * 131) (by omega) (by omega)
      have e2 := wrap_in ((y : Int) * 1117) (by omega) (by omega)
      have e3 := wrap_in ((x : Int) * 131 + (y : Int) * 1117) (by omega) (by omega)
      have e4 := wrap_in ((p : Int) * 29) (by omega) (by omega)
      have e5 := wrap_in ((x : Int) * 131 + (y : Int) * 1117 + (p : Int) * 29) (by omega) (by omega)
      have e6 := wrap_in ((d : Int) * 53) (by omega) (by omega)
      have e7 := wrap_in ((x : Int) * 131 + (y : Int) * 1117 + (p : Int) * 29 + (d : Int) * 53) (by omega) (by omega)
      go_enter Try.func69, Try.ntmps69
      go_wp2
      refine wp_region_quiet_lit (by kernel_rfl) (by kernel_rfl) ?_
      repeat (quiet_step (fail))
      refine wpQuiet_nil ?_
      intro _ hw'
      obtain ⟨nq, hw''⟩ := hw'
      subst hw''
      go_wp2
      go_ret
      have hx0 := xor_i64 ((x : Int) * 131 + (y : Int) * 1117 + (p : Int) * 29 + (d : Int) * 53) (((x : Int) * 131 + (y : Int) * 1117 + (p : Int) * 29 + (d : Int) * 53) / 64) (by omega) (by omega) (by omega) (by omega)
      generalize hX : bits .xor .i64 ((x : Int) * 131 + (y : Int) * 1117 + (p : Int) * 29 + (d : Int) * 53) (((x : Int) * 131 + (y : Int) * 1117 + (p : Int) * 29 + (d : Int) * 53) / 64) = X at hx0 ⊢
      have t0 : X.tmod n = X % n := Int.tmod_eq_emod_of_nonneg hx0
      have t1 := Int.emod_lt_of_pos X (show 0 < n by omega)
      have t2 := Int.emod_nonneg X (show n ≠ 0 by omega)
      refine ⟨(X % n).toNat, by omega, ?_, (unhid hst).drewN _, grown_drewN (unhid hgr) _⟩
      rw [Int.toNat_of_nonneg t2, ← t0]
      rfl
end Go.Proofs.Ytedimkcnemhhpaa

/- What the laws' draws of paths give: texts of at most a hundred bytes. -/
namespace Go.Proofs.Ytedimkcnemhhpaa
open Go.RowKit

theorem grown_trans {x y z : World} {b : Nat} (h : x.grownBy y (some b)) (g : y.grownBy z (some b)) : x.grownBy z (some b) :=
  ⟨g.os.trans h.os, g.tape.trans h.tape, g.output.trans h.output, Nat.le_trans h.size g.size, fun k hk hne => (g.block k (Nat.lt_of_lt_of_le hk h.size) hne).trans (h.block k hk hne)⟩
theorem grown_below {x y : World} {b B : Nat} (h : x.grownBy y (some b)) (hB : B ≤ b) (hs : B ≤ x.heap.size) : Below B x y :=
  ⟨h.os, h.tape, h.output, h.size, fun k hk => h.block k (by omega) (fun e => by cases e; omega)⟩
theorem Rd.lt {w : World} {b : Nat} {a : Option Addr} {len cap p : Nat} (h : Rd w b a len cap p) : b < w.heap.size := by
  have h0 := h.c0
  unfold World.cell? at h0
  cases hh : w.heap[b]? with
  | none => simp [hh] at h0
  | some o => exact (Array.getElem?_eq_some_iff.1 hh).1
theorem Rd.of_below {w w' : World} {b : Nat} {a : Option Addr} {len cap p : Nat} (h : Rd w b a len cap p) (hB : Below w.heap.size w w') : Rd w' b a len cap p where
  c0 := (hB.cell (p := ⟨b, 0, none⟩) h.lt).trans h.c0
  c1 := (hB.cell (p := ⟨b, 1, none⟩) h.lt).trans h.c1
  f1 := (hB.frozen (p := ⟨b, 1, none⟩) h.lt).trans h.f1
  l := h.l
  d := by
    rcases h.d with h0 | ⟨blk, off, ha, hb, hc⟩
    · exact .inl h0
    · refine .inr ⟨blk, off, ha, hb, fun k hk => ?_⟩
      obtain ⟨c, h1, h2⟩ := hc k hk
      exact ⟨c, h1, (hB.cell (p := ⟨blk, off + k, none⟩) (by have := h.lt; simp; omega)).trans h2⟩
theorem Rd.alloc {w : World} {b : Nat} {a : Option Addr} {len cap p : Nat} (h : Rd w b a len cap p) (o : Obj) : Rd (w.alloc o) b a len cap p :=
  h.of_below ((Below.refl _ w).alloc (Nat.le_refl _) o)

set_option maxRecDepth 100000 in
set_option maxHeartbeats 1000000 in
theorem of_any (P : ByteArray → Prop) (w : World) (b : Nat) (a : Option Addr) (len cap p : Nat) (h : Rd w b a len cap p) (hp : p ≤ 1048576) (g m c : Nat) (hg : g ≠ b) (h1 : 1 ≤ m) (h2 : m ≤ 1048576)
    (hl : ∀ k, k < m → ∃ x, P x ∧ w.cell? ⟨g, k, none⟩ = some (.string x)) :
    Calls Try.prog 95 #[.pointer (some ⟨b, 0, none⟩), .slice (some ⟨g, 0, none⟩) m c] w fun e w' => ∃ x, P x ∧ e = .returned (.string x) ∧ Rd w' b a len cap (p + 1) ∧ w.grownBy w' (some b) := by
  have H := hid h
  have Hl := hid hl
  have hlt : g < w.heap.size := by
    obtain ⟨x, _, hx⟩ := hl 0 (by omega)
    unfold World.cell? at hx
    cases hh : w.heap[g]? with
    | none => simp [hh] at hx
    | some o => exact (Array.getElem?_eq_some_iff.1 hh).1
  clear h hl
  go_enter Try.func95, Try.ntmps95
  go_wp2_with fail
  refine (pick_any w b a len cap p (unhid H) hp m (by omega) (by omega)).mono ?_
  rintro e w1 ⟨r, hr, rfl, hR, hG⟩
  have hr' : r < m := by omega
  obtain ⟨x, hP, hx⟩ := unhid Hl r hr'
  have hx1 : w1.cell? ⟨g, r, none⟩ = some (.string x) := (World.cell?_of_block (w := w) (hG.block g hlt (fun e => hg (by cases e; rfl)))).trans hx
  have HR := hid hR
  have HG := hid hG
  clear hR hG hx
  go_wp2_with fail
  go_ret
  exact ⟨x, hP, rfl, unhid HR, unhid HG⟩

/-- A text of at most a hundred bytes. -/
def short (x : ByteArray) : Prop := x.size ≤ 100
def shortV : Value → Bool
  | .string x => decide (x.size ≤ 100)
  | _ => false
theorem row_short (w : World) (cs : Array Value) (t : TypeId) (h : cs.toList.all shortV = true) (k : Nat) (hk : k < cs.size) : ∃ x, short x ∧ (w.alloc (.cells cs t)).cell? ⟨w.heap.size, k, none⟩ = some (.string x) := by
  have h1 : (w.alloc (.cells cs t)).cell? ⟨w.heap.size, k, none⟩ = cs[k]? := by
    have := World.alloc_heap_new w (.cells cs t)
    unfold World.cell?
    dsimp only
    rw [this]
    simp
  rw [List.all_eq_true] at h
  have h2 := h cs[k] (by simp)
  rw [h1, Array.getElem?_eq_getElem hk]
  revert h2
  cases cs[k] <;> simp [shortV, short]


/-- What a law is handed: bytes that can be read below a bound. -/
def Code (w : World) (B : Nat) (a : Option Addr) (len : Nat) : Prop :=
  len = 0 ∨ ∃ blk off, a = some ⟨blk, off, none⟩ ∧ blk < B ∧ ∀ k, k < len → ∃ c : Nat, c < 256 ∧ w.cell? ⟨blk, off + k, none⟩ = some (.int .u8 c)

theorem Code.less {w : World} {B : Nat} {a : Option Addr} {len m : Nat} (h : Code w B a len) (hm : m ≤ len) : Code w B a m := by
  rcases h with h | ⟨blk, off, ha, hb, hc⟩
  · exact .inl (by omega)
  · exact .inr ⟨blk, off, ha, hb, fun k hk => hc k (by omega)⟩
theorem rd_new (w : World) (a : Option Addr) (len cap : Nat) (t : TypeId) (h : Code w w.heap.size a len) (hl : len ≤ 2000) : Rd (w.alloc (.cells #[.slice a len cap, .int .i64 0] t)) w.heap.size a len cap 0 := by
  have hn := World.alloc_heap_new w (.cells #[.slice a len cap, .int .i64 0] t)
  refine ⟨?_, ?_, ?_, hl, ?_⟩
  · unfold World.cell?; dsimp only; rw [hn]; simp
  · unfold World.cell?; dsimp only; rw [hn]; simp
  · unfold World.frozen?; dsimp only; rw [hn]; simp
  · rcases h with h | ⟨blk, off, ha, hb, hc⟩
    · exact .inl h
    · refine .inr ⟨blk, off, ha, hb, fun k hk => ?_⟩
      obtain ⟨c, h1, h2⟩ := hc k hk
      exact ⟨c, h1, (((Below.refl w.heap.size w).alloc (Nat.le_refl _) _).cell (p := ⟨blk, off + k, none⟩) hb).trans h2⟩

set_option maxRecDepth 100000 in
set_option maxHeartbeats 1000000 in
theorem l1Open_any (w : World) (a : Option Addr) (len cap : Nat) (h : Code w w.heap.size a len) (hl : len ≤ 1048576) (hc : len ≤ cap) :
    Calls Try.prog 67 #[.slice a len cap] w fun e w' => e = .returned (.pointer (some ⟨w.heap.size, 0, none⟩)) ∧ (∃ l' c', Rd w' w.heap.size a l' c' 0) ∧ Below w.heap.size w w' := by
  have H := hid h
  clear h
  by_cases h2 : (2000 : Int) < len
  · go_enter Try.func67, Try.ntmps67
    go_wp2
    go_ret
    exact ⟨rfl, ⟨_, _, rd_new w a 2000 cap _ ((unhid H).less (by omega)) (Nat.le_refl _)⟩, (Below.refl _ _).alloc (Nat.le_refl _) _⟩
  · go_enter Try.func67, Try.ntmps67
    go_wp2
    go_ret
    exact ⟨rfl, ⟨_, _, rd_new w a len cap _ (unhid H) (by omega)⟩, (Below.refl _ _).alloc (Nat.le_refl _) _⟩



end Go.Proofs.Ytedimkcnemhhpaa

/- The bytes that a law is handed, read. -/
namespace Go.Proofs.Ytedimkcnemhhpaa
open Go.ChangeShapes Go.WideShapes Go.ChangeAt Go.RowKit

theorem cells5 : Try.prog.cellsOf 5 = 1 := by kernel_rfl

theorem code_of {H : Type} {enc : TypeId × Value → H} {W : World} {a0 : Option Addr} {len cap : Nat} {d0 : DataW H} {p0 : List MemPlace}
    (h0 : DataW.Trod enc Try.prog W 0 (fun _ => true) true 41 (.slice a0 len cap) d0 p0) (hlt : ∀ x ∈ p0, x.block < W.heap.size) : Code W W.heap.size a0 len ∧ len ≤ cap := by
  obtain ⟨fuel, hf⟩ := h0
  rcases open_ints Try.underlying41 Try.underlying5 cells5 hf with ⟨hcs, hx⟩ | ⟨a, len', cap', zs, hcs, _, hl, hm, hz, hx, hcell, hwz⟩
  · simp [Value.cells] at hcs
    obtain ⟨rfl, rfl, rfl⟩ := hcs
    exact ⟨.inl rfl, Nat.le_refl _⟩
  · simp [Value.cells] at hcs
    obtain ⟨rfl, rfl, rfl⟩ := hcs
    simp only [Prod.mk.injEq] at hx
    obtain ⟨rfl, rfl⟩ := hx
    simp only [if_true] at hz
    refine ⟨?_, hl⟩
    by_cases hl0 : len = 0
    · exact .inl hl0
    · obtain ⟨b, off, spot⟩ := a
      have hspot : spot = none := by simpa [Addr.add] using World.cell?_spot (hcell 0 (by omega))
      subst hspot
      have hbW : b < W.heap.size := hlt (.cell b off) (MemPlace.mem_row.2 ⟨0, by omega, by simp⟩)
      refine .inr ⟨b, off, rfl, hbW, fun k hk => ?_⟩
      have hk' : k < zs.length := by omega
      have hw := hwz (zs.getD k 0) (by simp [List.getD, List.getElem?_eq_getElem hk'])
      have hc := hcell k hk'
      rw [add_plain] at hc
      generalize zs.getD k 0 = z at hw hc
      have hx : 0 ≤ z ∧ z ≤ 255 := by simpa [Lit.wf, IntKind.min, IntKind.max, IntKind.signed, IntKind.bits] using hw
      exact ⟨z.toNat, by omega, by rw [hc, Int.toNat_of_nonneg hx.1]⟩
end Go.Proofs.Ytedimkcnemhhpaa

/- What the program's iterator over the bytes of a text tells, and 'all bytes of a text are taken by a function'. -/
namespace Go.Proofs.Ytedimkcnemhhpaa
open Go.RowKit Go.Shelf

attribute [local go_sem] Oper.semAt_some



theorem cell_of_box_l {W : World} {B : Nat} {v : Value} {t : TypeId} (h : W.heap[B]? = some (.cells #[v] t (0, 0))) : W.cell? ⟨B, 0, none⟩ = some v ∧ W.frozen? ⟨B, 0, none⟩ = false := by
  constructor <;> simp [World.cell?, World.frozen?, h]
theorem cell_new_l (W : World) (v : Value) (t : TypeId) : (W.alloc (.cells #[v] t)).cell? ⟨W.heap.size, 0, none⟩ = some v ∧ (W.alloc (.cells #[v] t)).frozen? ⟨W.heap.size, 0, none⟩ = false :=
  cell_of_box_l (World.alloc_heap_new W _)
theorem cell_alloc_l {W : World} {a : Addr} {v : Value} (o : Obj) (h : W.cell? a = some v) : (W.alloc o).cell? a = some v := cell_kept h (World.grownBy_alloc W o none) (fun r e => by cases e)
theorem frozen_alloc_l {W : World} {a : Addr} {v : Value} (o : Obj) (h : W.cell? a = some v) (hf : W.frozen? a = false) : (W.alloc o).frozen? a = false := (frozen_kept h (World.grownBy_alloc W o none) (fun r e => by cases e)).trans hf

/-- What the cells at the blocks of A hold stays. -/
def Keeps (A : List Nat) (W W' : World) : Prop := ∀ b, b ∈ A → ∀ v, W.cell? ⟨b, 0, none⟩ = some v → W'.cell? ⟨b, 0, none⟩ = some v
theorem Keeps.refl (A : List Nat) (W : World) : Keeps A W W := fun _ _ _ h => h
theorem Keeps.t {A : List Nat} {X Y Z : World} (h : Keeps A X Y) (g : Keeps A Y Z) : Keeps A X Z := fun b hb v e => g b hb v (h b hb v e)
theorem Keeps.b {A : List Nat} {m : Nat} (W : World) (l : Nat) (o o' : Obj) (_ : m ≤ l) (h : W.heap[l]? = some o) (hc : o.isCells = false) (_ : o.isWalk = false) : Keeps A W (W.putObj l o') :=
  fun _ _ _ e => cell_kept e (grownBy_putObj' _ l o') (fun r e' => by cases e'; exact ⟨_, h, hc⟩)
theorem Keeps.of_below {A : List Nat} {B : Nat} {W W' : World} (h : Below B W W') (hA : ∀ b ∈ A, b < B) : Keeps A W W' := fun b hb _ e => (h.cell (p := ⟨b, 0, none⟩) (hA b hb)).trans e

theorem KeepsOthers_of_below {W W' : World} (h : Below W.heap.size W W') : KeepsOthers W W' := ⟨h.size, fun k _ hk _ => (h.block k (Array.getElem?_eq_some_iff.1 hk).1).trans hk⟩
theorem Keeps.setCell {A : List Nat} (W : World) (b : Nat) (v : Value) (h : b ∉ A) : Keeps A W (W.setCell ⟨b, 0, none⟩ v) := fun c hc u e => by
  rw [World.cell?_of_block (w := W) (Below.heap_setCell W ⟨b, 0, none⟩ v c (fun x => h (by cases x; exact hc)))]; exact e
theorem set_same {W : World} {a : Addr} {u v : Value} (h : W.cell? a = some u) : (W.setCell a v).cell? a = some v := World.cell?_setCell_same' _ _ _ (by rw [h]; rfl)
theorem set_far (W : World) (b c : Nat) (v : Value) (h : b ≠ c) : (W.setCell ⟨b, 0, none⟩ v).cell? ⟨c, 0, none⟩ = W.cell? ⟨c, 0, none⟩ := World.cell?_of_block (w := W) (Below.heap_setCell W ⟨b, 0, none⟩ v c (fun e => h e.symm))
theorem below_lt {W : World} {a : Nat} {v : Value} (h : W.cell? ⟨a, 0, none⟩ = some v) : a < W.heap.size := by
  unfold World.cell? at h
  cases hh : W.heap[a]? with
  | none => simp [hh] at h
  | some o => exact (Array.getElem?_eq_some_iff.1 hh).1

theorem take_snoc (s : ByteArray) (k : Nat) (h : k < s.size) : s.data.toList.take (k + 1) = s.data.toList.take k ++ [s[k]] := by
  rw [List.take_succ_eq_append_getElem (by simpa using h)]; rfl

set_option maxRecDepth 100000 in
set_option maxHeartbeats 1000000 in
theorem bytes1_in (F : Fence) (n : Nat) (hf : F.fn 126) (hro : F.round = none) (hn : 1 ≤ n) (l Bn : Nat) (s : ByteArray) (hs : s.size ≤ maxLen) (J Jx : List UInt8 → World → Prop)
    (hY : ∀ pre (x : UInt8) W, J pre W → pre.length < s.size → YieldAt F (n - 1) Try.prog l #[.int .u8 x.toNat] W fun e W' =>
      (e = .returned (.bool true) ∧ J (pre ++ [x]) W' ∧ Keeps [Bn] W W') ∨ (e = .returned (.bool false) ∧ Jx (pre ++ [x]) W'))
    (W : World) (hc : W.cell? ⟨Bn, 0, none⟩ = some (.string s)) (h0 : J [] W) :
    CallsIn F n Try.prog 126 #[.func (.yield l) #[] #[], .pointer (some ⟨Bn, 0, none⟩)] W fun e W' => (∃ v, e = .returned v) ∧
      ((∃ ys, ys = s.data.toList ∧ J ys W') ∨ (∃ pre, pre <+: s.data.toList ∧ Jx pre W')) := by
  unfold maxLen at hs
  refine callsIn_of_wp Try.func126 rfl hf ?_ hro
  simp only [Try.ntmps126, List.size_toArray, List.length_cons, List.length_nil, Nat.reduceAdd, Nat.reduceSub, Array.replicate_succ, Array.replicate_zero, List.push_toArray, List.append_toArray, List.nil_append, List.cons_append]
  gi_wp2
  gi_loopw [3] (fun p wr => ∃ k : Nat, k ≤ s.size ∧ p = .int .i64 k ∧ J (s.data.toList.take k) wr ∧ wr.cell? ⟨Bn, 0, none⟩ = some (.string s))
    (fun p _ => s.size - (intOf p).toNat)
  case atStart =>
    exact ⟨0, Nat.zero_le _, rfl, by simpa using h0, hc⟩
  case round =>
    obtain ⟨k, hk, rfl, hJ, hcr⟩ := hrel
    by_cases hlt : k < s.size
    · obtain ⟨fn, tmps, assign, body, hy, hR⟩ := hY _ s[k] wr hJ (by simp; omega)
      gi_wp2
      refine hR.mono ?_
      rintro e W3 (⟨rfl, hJ3, hk3⟩ | ⟨rfl, hJx3⟩)
      · have hc3 : W3.cell? ⟨Bn, 0, none⟩ = some (.string s) := hk3 Bn (by simp) _ hcr
        rw [← take_snoc s k hlt] at hJ3
        gi_wp2
        go_roundw
        case rel => exact ⟨k + 1, by omega, by go_num, hJ3, hc3⟩
        case measure => simp [intOf]; omega
      · gi_wp2
        refine bodyPost_ret (results_none rfl _ _ _) rfl ?_
        exact ⟨⟨_, rfl⟩, .inr ⟨_, by rw [← take_snoc s k hlt]; exact List.take_prefix _ _, hJx3⟩⟩
    · gi_wp2
      go_end0
      exact ⟨⟨_, rfl⟩, .inl ⟨_, by rw [List.take_of_length_le (by simp; omega)], hJ⟩⟩

set_option maxHeartbeats 1000000 in
theorem bytesOf_in (F : Fence) (n : Nat) (hf : F.fn 112) (hro : F.round = none) (s : ByteArray) (w : World) :
    CallsIn F n Try.prog 112 #[.string s] w fun e w' => e = .returned (.func (.func 126) #[] #[.pointer (some ⟨w.heap.size, 0, none⟩)]) ∧ w' = w.alloc (.cells #[.string s] 9) := by
  refine callsIn_of_wp Try.func112 rfl hf ?_ hro
  simp only [Try.ntmps112, List.size_toArray, List.length_cons, List.length_nil, Nat.reduceAdd, Nat.reduceSub, Array.replicate_succ, Array.replicate_zero, List.push_toArray, List.append_toArray, List.nil_append, List.cons_append]
  gi_wp2
  go_ret
  exact ⟨rfl, rfl⟩

theorem bytes_stops (F : Fence) (n : Nat) (hf : F.fn 126) (hro : F.round = none) (hn : 1 ≤ n) (Bn : Nat) (s : ByteArray) (hs : s.size ≤ maxLen) (w : World) (hBn : Bn < w.heap.size)
    (hc : w.cell? ⟨Bn, 0, none⟩ = some (.string s)) :
    SeqStopsK F n Try.prog 126 #[.pointer (some ⟨Bn, 0, none⟩)] (fun x : UInt8 => #[Value.int .u8 x.toNat]) (Keeps [Bn]) (fun ys => ys = s.data.toList) (fun pre => pre <+: s.data.toList) s.size w := fun l J Jx W hW _ _ hY h0 =>
  bytes1_in F n hf hro hn l Bn s hs J Jx hY W ((hW.cell (p := ⟨Bn, 0, none⟩) hBn).trans hc) h0

set_option maxRecDepth 100000 in
set_option maxHeartbeats 2000000 in
theorem allBytes_any (g : Nat) (T : Int → Bool) (eg : ∀ args w, (callFunc g args).run Try.prog w = .ok (.enter g args) w)
    (hT : ∀ (c : Int) (w : World), Calls Try.prog g #[.int .u8 c] w fun e w' => e = .returned (.bool (T c)) ∧ w' = w) (s : ByteArray) (hs : s.size ≤ maxLen) (w : World) :
    Calls Try.prog 103 #[.string s, .func (.func g) #[] #[]] w fun e W' => e = .returned (.bool (s.data.toList.all fun c => T c.toNat)) ∧ Below w.heap.size w W' := by
  refine (callsIn_wide (n := 3)).1 ?_
  refine callsIn_of_wp_marks Try.func103 rfl trivial ?_ rfl
  simp only [Try.ntmps103, List.size_toArray, List.length_cons, List.length_nil, Nat.reduceAdd, Nat.reduceSub, Array.replicate_succ, Array.replicate_zero, List.push_toArray, List.append_toArray, List.nil_append, List.cons_append]
  gi_wp2_with (refine ⟨trivial, ?_⟩; gi_at_call 112; refine (bytesOf_in Fence.wide _ trivial rfl _ _).mono ?_; rintro e w' ⟨rfl, rfl⟩)
  have c0 := cell_new_l w (.func (.func g) #[] #[]) 115
  have c1 := cell_new_l (w.alloc (.cells #[.func (.func g) #[] #[]] 115)) (.bool false) 4
  have c2 := cell_new_l ((w.alloc (.cells #[.func (.func g) #[] #[]] 115)).alloc (.cells #[.bool false] 4)) (.string s) 9
  simp only [World.size_alloc] at c1 c2
  have hB0 : Below w.heap.size w (((w.alloc (.cells #[.func (.func g) #[] #[]] 115)).alloc (.cells #[.bool false] 4)).alloc (.cells #[.string s] 9)) := (((Below.refl _ w).alloc (Nat.le_refl _) _).alloc (by simp) _).alloc (by simp; omega) _
  refine wpIn_rangeFunc_ownF rfl (by omega) (gf := 126) (lb := #[.pointer (some ⟨w.heap.size + 1 + 1, 0, none⟩)]) rfl trivial (enters_of Try.func126 (by kernel_rfl) rfl)
    (bytes_stops Fence.wide _ trivial rfl (by omega) (w.heap.size + 1 + 1) s hs _ (by simp) c2.1) Keeps.t (Keeps.b) (Below.refl _ _) (fun _ => rfl)
    (fun pre W => ((∀ y ∈ pre, T y.toNat = true) ∧ W.cell? ⟨w.heap.size, 0, none⟩ = some (.func (.func g) #[] #[]) ∧ W.cell? ⟨w.heap.size + 1, 0, none⟩ = some (.bool false) ∧ W.frozen? ⟨w.heap.size + 1, 0, none⟩ = false) ∧ Below w.heap.size w W)
    (fun c pre W => (c = .ret ∧ (∃ y ∈ pre, T y.toNat = false) ∧ W.cell? ⟨w.heap.size + 1, 0, none⟩ = some (.bool false)) ∧ Below w.heap.size w W)
    (OwnFrom.and (Own.from (fun s A B row hs hg hr => ⟨hs.1, cell_kept hs.2.1 hg hr, cell_kept hs.2.2.1 hg hr, (frozen_kept hs.2.2.1 hg hr).trans hs.2.2.2⟩) _) (ownFrom_below (Nat.le_refl _) (by simp; omega)))
    (fun c => OwnFrom.and (Own.from (fun s A B row hs hg hr => ⟨hs.1, hs.2.1, cell_kept hs.2.2 hg hr⟩) _) (ownFrom_below (Nat.le_refl _) (by simp; omega)))
    ⟨⟨by simp, cell_alloc_l _ (cell_alloc_l _ c0.1), cell_alloc_l _ c1.1, frozen_alloc_l _ c1.1 c1.2⟩, hB0⟩
    (fun x => { tmps := #[.string s, .func (.func g) #[] #[], undef, .pointer (some ⟨w.heap.size, 0, none⟩), .pointer (some ⟨w.heap.size + 1, 0, none⟩), .int .u8 x.toNat, .string s, .func (.func 126) #[] #[.pointer (some ⟨w.heap.size + 1 + 1, 0, none⟩)], .int .u8 x.toNat, undef, undef, undef, undef], defers := [] }) ?assign ?body ?done ?stop
  case assign =>
    intro l x W K hK
    gi_wp2
    exact hK
  case body =>
    rintro l pre x W ⟨⟨hp, hcw, hcr, hfr⟩, hB⟩ _
    cases hx : T x.toNat
    · gi_wp2
      refine ⟨trivial, (CallsIn.inRound l (callsIn_wide.2 (hT _ _))).mono ?_⟩
      rintro e w' ⟨rfl, rfl⟩
      gi_wp2
      exact ⟨KeepsOthers.setCell _ _ _, ⟨rfl, ⟨x, by simp, hx⟩, World.cell?_setCell_same' _ _ _ (by rw [hcr]; rfl)⟩, hB.setCell (p := ⟨w.heap.size + 1, 0, none⟩) (by simp) _⟩
    · gi_wp2
      refine ⟨trivial, (CallsIn.inRound l (callsIn_wide.2 (hT _ _))).mono ?_⟩
      rintro e w' ⟨rfl, rfl⟩
      gi_wp2
      exact ⟨KeepsOthers.refl _, Keeps.refl _ _, ⟨fun y hy => (List.mem_append.1 hy).elim (hp y) (fun e => by simp at e; subst e; exact hx), hcw, hcr, hfr⟩, hB⟩
  case done =>
    rintro D ys W hD rfl ⟨⟨hne, _, hcr, hfr⟩, hB⟩ hK
    gi_wp2
    have hK' := (KeepsOthers.setCell W ⟨w.heap.size + 1, 0, none⟩ (.bool true)).same D _ hK rfl
    refine ⟨by simp, .inl ⟨_, _, rfl, run_takeDeferred hK', ?_⟩⟩
    have hc5 := cell_kept (World.cell?_setCell_same' W ⟨w.heap.size + 1, 0, none⟩ (.bool true) (by rw [hcr]; rfl)) (grownBy_putObj' _ D (.deferred none)) (fun r e => by cases e; exact ⟨_, hK', rfl⟩)
    refine ⟨.bool true, ?_, by rw [List.all_eq_true.2 hne], (hB.setCell (p := ⟨w.heap.size + 1, 0, none⟩) (by simp) _).trans (belowK_b (w := w) (Nat.le_refl _) _ D _ _ (by simp at hD; omega) hK' rfl rfl)⟩
    simp [results, Try.f103, go_sem, hc5]
  case stop =>
    rintro D c pre W hD hpre ⟨⟨rfl, ⟨y, hy, hfy⟩, hcr⟩, hB⟩ hK
    gi_wp2
    refine ⟨by simp, .inl ⟨_, _, rfl, run_takeDeferred hK, ?_⟩⟩
    have hc5 := cell_kept hcr (grownBy_putObj' _ D (.deferred none)) (fun r e => by cases e; exact ⟨_, hK, rfl⟩)
    refine ⟨.bool false, ?_, by rw [List.all_eq_false.2 ⟨y, hpre.subset hy, by simp [hfy]⟩], hB.trans (belowK_b (w := w) (Nat.le_refl _) W D _ _ (by simp at hD; omega) hK rfl rfl)⟩
    simp [results, Try.f103, go_sem, hc5]
end Go.Proofs.Ytedimkcnemhhpaa

/- Rows of texts: what they hold, the laws' own copies of them, their sizes; two rows of the same texts are the same. -/
namespace Go.Proofs.Ytedimkcnemhhpaa
open Go.RowKit Go.Shelf

/-- A row of texts that is read. -/
def TxtsAt (W : World) (a : Option Addr) (xs : List ByteArray) : Prop := xs = [] ∨ ∃ b o, a = some ⟨b, o, .none⟩ ∧ b < W.heap.size ∧ ∀ (i : Nat) x, xs[i]? = some x → W.cell? ⟨b, o + i, .none⟩ = some (.string x)
theorem TxtsAt.below {W W' : World} {a : Option Addr} {xs : List ByteArray} (h : TxtsAt W a xs) (hb : Below W.heap.size W W') : TxtsAt W' a xs := by
  rcases h with h | ⟨b, o, rfl, hl, hc⟩
  · exact .inl h
  · exact .inr ⟨b, o, rfl, Nat.lt_of_lt_of_le hl hb.size, fun i x hi => (hb.cell (p := ⟨b, o + i, .none⟩) hl).trans (hc i x hi)⟩
theorem TxtsAt.get {W : World} {a : Option Addr} {xs : List ByteArray} (h : TxtsAt W a xs) (hne : xs ≠ []) : ∃ b o, a = some ⟨b, o, .none⟩ ∧ b < W.heap.size ∧ ∀ (i : Nat) x, xs[i]? = some x → W.cell? ⟨b, o + i, .none⟩ = some (.string x) := h.resolve_left hne
theorem TxtsAt.block {W W' : World} {a : Option Addr} {xs : List ByteArray} (h : TxtsAt W a xs) (g : Nat) (hne : ∀ b o, a = some ⟨b, o, .none⟩ → b ≠ g) (hz : W.heap.size ≤ W'.heap.size) (hb : ∀ b, b < W.heap.size → b ≠ g → W'.heap[b]? = W.heap[b]?) : TxtsAt W' a xs := by
  rcases h with h | ⟨b, o, rfl, hl, hc⟩
  · exact .inl h
  · exact .inr ⟨b, o, rfl, Nat.lt_of_lt_of_le hl hz, fun i x hi => (World.cell?_of_block (w := W) (hb b hl (hne b o rfl))).trans (hc i x hi)⟩
def totX (xs : List ByteArray) : Nat := (xs.map fun x => x.size).sum
theorem totX_take (xs : List ByteArray) (k : Nat) (x : ByteArray) (h : xs[k]? = some x) : totX (xs.take (k + 1)) = totX (xs.take k) + x.size := by
  unfold totX
  rw [List.take_add_one, h]
  simp
theorem totX_mem {xs : List ByteArray} {x : ByteArray} (h : x ∈ xs) : x.size ≤ totX xs := by
  unfold totX
  induction xs with
  | nil => cases h
  | cons y ys ih =>
    rcases List.mem_cons.1 h with rfl | h
    · simp
    · have := ih h; simp; omega
def bigX (xs : List ByteArray) : Prop := ∀ x ∈ xs, x.size ≤ maxLen

set_option maxRecDepth 100000 in
set_option maxHeartbeats 2000000 in
theorem szStringS_any (xs : List ByteArray) (a : Option Addr) (cap : Nat) (left : Int) (w : World) (hz : bigX xs) (hlen : xs.length ≤ maxLen) (hl : 0 ≤ left) (hl2 : left ≤ 1048576) (h : TxtsAt w a xs) :
    Calls Try.prog 20 #[.slice a xs.length cap, .int .i64 left] w fun x w' => (∃ r : Int, x = .returned (.int .i64 r) ∧ r ≤ left ∧ (r < 0 ∨ r + xs.length + totX xs = left)) ∧ w' = w := by
  unfold maxLen at hlen
  by_cases h0 : left - (xs.length : Int) < 0
  · go_enter Try.func20, Try.ntmps20
    go_wp2_with fail
    go_ret
    exact ⟨⟨-1, rfl, by omega, .inl (by omega)⟩, rfl⟩
  · go_enter Try.func20, Try.ntmps20
    go_wp2_with fail
    go_loop [1, 5] (fun l i => ∃ (k : Nat) (q : Int), k ≤ xs.length ∧ i = .int .i64 k ∧ l = .int .i64 q ∧ 0 ≤ q ∧ q + xs.length + totX (xs.take k) = left) (fun _ i => xs.length - (intOf i).toNat)
    case atStart => exact ⟨0, _, Nat.zero_le _, rfl, rfl, by omega, by simp [totX]⟩
    case round =>
      obtain ⟨k, q, hk, rfl, rfl, hq, hs⟩ := hrel
      by_cases hlt : k < xs.length
      · obtain ⟨x, he⟩ : ∃ x, xs[k]? = some x := ⟨xs[k], List.getElem?_eq_getElem hlt⟩
        obtain ⟨b, o, rfl, hbl, hc⟩ := h.get (by intro e; subst e; simp at hlt)
        have c0 := hc k x he
        have z1 : x.size ≤ 9223372036854775807 := hz x (List.mem_of_getElem? he)
        have HS := hid (totX_take xs k x he)
        have HE := hid (And.intro hz hc)
        clear hz hc he
        by_cases hr0 : q - (x.size : Int) < 0
        · go_wp2_with fail
          go_ret
          exact ⟨⟨-1, rfl, by omega, .inl (by omega)⟩, rfl⟩
        · go_wp2_with fail
          refine ⟨⟨k + 1, q - x.size, by omega, by go_num, rfl, by omega, by rw [unhid HS]; omega⟩, by simp [intOf]; omega⟩
      · have e : k = xs.length := by omega
        subst e
        rw [List.take_of_length_le (Nat.le_refl _)] at hs
        go_wp2_with fail
        go_ret
        exact ⟨⟨q, rfl, by omega, .inr hs⟩, rfl⟩

/-- A block that is a row of n texts. -/
def TxtRow (W : World) (g T n : Nat) (f : Nat → ByteArray) : Prop := ∃ cur : Array Value, W.heap[g]? = some (.cells cur T (0, 0)) ∧ cur.size = n ∧ ∀ i, i < n → cur[i]? = some (.string (f i))
theorem TxtRow.lt {W : World} {g T n : Nat} {f : Nat → ByteArray} (x : TxtRow W g T n f) : g < W.heap.size := by
  obtain ⟨cur, h1, _⟩ := x; exact (Array.getElem?_eq_some_iff.1 h1).1
theorem TxtRow.block {W W' : World} {g T n : Nat} {f : Nat → ByteArray} (x : TxtRow W g T n f) (e : W'.heap[g]? = W.heap[g]?) : TxtRow W' g T n f := by
  obtain ⟨cur, h1, h2, h3⟩ := x; exact ⟨cur, e.trans h1, h2, h3⟩
theorem TxtRow.below {W W' : World} {B g T n : Nat} {f : Nat → ByteArray} (x : TxtRow W g T n f) (hb : Below B W W') (hg : g < B) : TxtRow W' g T n f := x.block (hb.block g hg)
theorem TxtRow.congr {W : World} {g T n : Nat} {f f' : Nat → ByteArray} (x : TxtRow W g T n f) (e : ∀ j, j < n → f j = f' j) : TxtRow W g T n f' := by
  obtain ⟨cur, h1, h2, h3⟩ := x; exact ⟨cur, h1, h2, fun j hj => by rw [← e j hj]; exact h3 j hj⟩
theorem TxtRow.cells {W : World} {g T n : Nat} {f : Nat → ByteArray} (x : TxtRow W g T n f) (k : Nat) (hk : k < n) : W.cell? ⟨g, k, .none⟩ = some (.string (f k)) ∧ W.frozen? ⟨g, k, .none⟩ = false := by
  obtain ⟨cur, h1, h2, h3⟩ := x
  exact ⟨by simp [World.cell?, h1, h3 k hk], by simp [World.frozen?, h1]⟩
def updX (f : Nat → ByteArray) (k : Nat) (e : ByteArray) : Nat → ByteArray := fun j => if j = k then e else f j
theorem TxtRow.set {W : World} {g T n : Nat} {f : Nat → ByteArray} (x : TxtRow W g T n f) (k : Nat) (hk : k < n) (e : ByteArray) : TxtRow (W.setCell ⟨g, k, .none⟩ (.string e)) g T n (updX f k e) := by
  obtain ⟨cur, h1, h2, h3⟩ := x
  refine ⟨cur.setIfInBounds k (.string e), heap_setCell_same _ g _ _ T _ h1, by simpa using h2, fun i hi => ?_⟩
  unfold updX
  simp only [Array.getElem?_setIfInBounds]
  by_cases e1 : i = k
  · subst e1
    rw [if_pos rfl, if_pos (by omega), if_pos rfl]
  · rw [if_neg (by omega), if_neg e1]
    exact h3 i hi
def txtFn (xs : List ByteArray) (i : Nat) : ByteArray := xs.getD i ⟨#[]⟩
theorem txtFn_get {xs : List ByteArray} {i : Nat} {x : ByteArray} (h : xs[i]? = some x) : txtFn xs i = x := by unfold txtFn; rw [List.getD_eq_getElem?_getD, h]; rfl
theorem TxtRow.at {W : World} {g T n : Nat} {xs : List ByteArray} (x : TxtRow W g T n (txtFn xs)) (hn : xs.length ≤ n) : TxtsAt W (some ⟨g, 0, .none⟩) xs :=
  .inr ⟨g, 0, rfl, x.lt, fun i e hi => by
    have hl : i < xs.length := (List.getElem?_eq_some_iff.1 hi).1
    have := (x.cells i (by omega)).1
    rw [txtFn_get hi] at this
    rwa [Nat.zero_add]⟩
theorem infoTxt : (Try.prog.info? 9).map (fun i => (i.zero, i.size, i.bytes)) = some (some (.string ⟨#[]⟩), 1, 16) := by kernel_rfl
theorem mkTxts (W : World) (n : Nat) (hn : n ≤ 1048576) : ∃ M : Array Value, (Instr.makeSlice 29 (.int .i64 (n : Int)) (.int .i64 (n : Int))).run Try.prog W = .ok (.slice (some ⟨W.heap.size, 0, .none⟩) n n) (W.alloc (.cells M 9)) ∧ TxtRow (W.alloc (.cells M 9)) W.heap.size 9 n (fun _ => ⟨#[]⟩) := by
  obtain ⟨i, hi, hz0, hz1, hz2⟩ := info_parts infoTxt
  refine ⟨madeCells #[.string ⟨#[]⟩] n, ?_, _, World.alloc_heap_new W _, by simp [madeCells], fun j hj => ?_⟩
  · have := run_make (P := Try.prog) W 29 9 i _ Try.underlying29 hi hz0 .i64 .i64 n n (by omega) (Int.le_refl _) (by rw [hz2]; omega) (by omega)
    simpa [hz1, Value.cells] using this
  · unfold madeCells
    simp only [Array.getElem?_map, Array.getElem?_range]
    rw [if_pos (by omega)]
    simp [Nat.mod_one]

set_option maxRecDepth 100000 in
set_option maxHeartbeats 2000000 in
theorem toStringS_any (xs : List ByteArray) (a : Option Addr) (cap : Nat) (w : World) (hlen : xs.length ≤ 1048576) (h : TxtsAt w a xs) :
    Calls Try.prog 22 #[.slice a xs.length cap] w fun x w' => ∃ g, x = .returned (.slice (some ⟨g, 0, .none⟩) xs.length xs.length) ∧ w.heap.size ≤ g ∧ TxtRow w' g 9 xs.length (txtFn xs) ∧ Below w.heap.size w w' := by
  obtain ⟨M, hmk, hrow⟩ := mkTxts w xs.length hlen
  have HR := hid hrow
  clear hrow
  go_enter Try.func22, Try.ntmps22
  go_wp2_with fail
  clear hmk
  have hB0 : Below w.heap.size w (w.alloc (.cells M 9)) := (Below.refl _ _).alloc (Nat.le_refl _) _
  generalize w.alloc (.cells M 9) = wq at HR hB0 ⊢
  go_loopw [4] (fun i wr => ∃ k : Nat, k ≤ xs.length ∧ i = .int .i64 k ∧ TxtRow wr w.heap.size 9 xs.length (fun j => if j < k then txtFn xs j else ⟨#[]⟩) ∧ Below w.heap.size w wr) (fun i _ => xs.length - (intOf i).toNat)
  case atStart => exact ⟨0, Nat.zero_le _, rfl, (unhid HR).congr (fun j _ => by simp), hB0⟩
  case round =>
    clear HR hB0
    obtain ⟨k, hk, rfl, hR, hB⟩ := hrel
    by_cases hlt : k < xs.length
    · obtain ⟨e, he⟩ : ∃ e, xs[k]? = some e := ⟨xs[k], List.getElem?_eq_getElem hlt⟩
      obtain ⟨b, o, rfl, hbl, hc⟩ := h.get (by intro e; subst e; simp at hlt)
      have c0 := (hB.cell (p := ⟨b, o + k, .none⟩) hbl).trans (hc k e he)
      obtain ⟨d0, f0⟩ := hR.cells k hlt
      have HS := hid (show txtFn xs k = e from txtFn_get he)
      have HB := hid hB
      have HR := hid hR
      have HH := hid hc
      clear hc hB he hR h
      go_wp2_with fail
      go_roundw
      case rel =>
        refine ⟨k + 1, by omega, by go_num, ((unhid HR).set k hlt e).congr (fun j hj => ?_), (unhid HB).setCell (Nat.le_refl _) _⟩
        unfold updX
        by_cases ej : j = k
        · rw [if_pos ej, if_pos (by omega), ej, unhid HS]
        · rw [if_neg ej]
          show (if j < k then txtFn xs j else ⟨#[]⟩) = _
          by_cases hj2 : j < k
          · rw [if_pos hj2, if_pos (by omega)]
          · rw [if_neg hj2, if_neg (by omega)]
      case measure => simp [intOf]; omega
    · have e : k = xs.length := by omega
      subst e
      go_wp2_with fail
      go_ret
      exact ⟨w.heap.size, rfl, Nat.le_refl _, hR.congr (fun j hj => by rw [if_pos hj]), hB⟩

theorem drew_belowX {B : Nat} (w : World) : Below B w w.drew := ⟨rfl, rfl, rfl, Nat.le_refl _, fun _ _ => rfl⟩
set_option maxRecDepth 100000 in
set_option maxHeartbeats 4000000 in
theorem eqStringS_same (xs : List ByteArray) (a b : Option Addr) (cap cap2 : Nat) (w : World) (hx : xs.length ≤ maxLen) (h : TxtsAt w a xs) (h2 : TxtsAt w b xs) :
    Calls Try.prog 24 #[.slice a xs.length cap, .slice b xs.length cap2] w fun r w' => r = .returned (.bool true) ∧ Below w.heap.size w w' := by
  unfold maxLen at hx
  have hl' : ((xs.length : Int) != (xs.length : Int)) = false := by simp
  go_enter Try.func24, Try.ntmps24
  go_wp2_with fail
  go_loopw [5] (fun i wr => ∃ k : Nat, k ≤ xs.length ∧ i = .int .i64 k ∧ Below w.heap.size w wr) (fun i _ => xs.length - (intOf i).toNat)
  case atStart => exact ⟨0, Nat.zero_le _, rfl, Below.refl _ _⟩
  case round =>
    obtain ⟨k, hk, rfl, hB⟩ := hrel
    by_cases hlt : k < xs.length
    · obtain ⟨e, he⟩ : ∃ e, xs[k]? = some e := ⟨xs[k], List.getElem?_eq_getElem hlt⟩
      obtain ⟨bb, o, rfl, hbl, hc⟩ := h.get (by intro e; subst e; simp at hlt)
      obtain ⟨bb2, o2, rfl, hbl2, hc2⟩ := h2.get (by intro e; subst e; simp at hlt)
      have c0 := (hB.cell (p := ⟨bb, o + k, .none⟩) hbl).trans (hc k e he)
      have d0 := (hB.cell (p := ⟨bb2, o2 + k, .none⟩) hbl2).trans (hc2 k e he)
      have HB := hid hB
      have HH := hid (And.intro h (And.intro h2 (And.intro hc hc2)))
      have hq : (e.toList != e.toList) = false := by simp
      clear hc hc2 hB he h h2
      go_wp2_with fail
      go_quiet (fail)
      go_wp2_with fail
      go_roundw
      case rel => exact ⟨k + 1, by omega, by go_num, ⟨(unhid HB).os, (unhid HB).tape, (unhid HB).output, (unhid HB).size, (unhid HB).block⟩⟩
      case measure => simp [intOf]; omega
    · have e : k = xs.length := by omega
      subst e
      go_wp2_with fail
      go_ret
      exact ⟨rfl, hB⟩
end Go.Proofs.Ytedimkcnemhhpaa

/- Rows of hunks: what they hold, the laws' own copies of them, their sizes; two rows of the same hunks are the same. -/
namespace Go.Proofs.Ytedimkcnemhhpaa
open Go.RowKit Go.Shelf

structure Hk where
  at_ : Int
  lines : List ByteArray
def HkVal (W : World) (v : Value) (h : Hk) : Prop := ∃ la cap, v = .agg #[.int .i64 h.at_, .slice la h.lines.length cap] ∧ TxtsAt W la h.lines
/-- The two cells of a hunk. -/
def HkAt (W : World) (b o : Nat) (h : Hk) : Prop := ∃ la cap, W.cell? ⟨b, o, .none⟩ = some (.int .i64 h.at_) ∧ W.cell? ⟨b, o + 1, .none⟩ = some (.slice la h.lines.length cap) ∧ TxtsAt W la h.lines
theorem HkAt.below {W W' : World} {b o : Nat} {h : Hk} (x : HkAt W b o h) (hb : Below W.heap.size W W') (hl : b < W.heap.size) : HkAt W' b o h := by
  obtain ⟨la, cap, c0, c1, ht⟩ := x
  exact ⟨la, cap, (hb.cell (p := ⟨b, o, .none⟩) hl).trans c0, (hb.cell (p := ⟨b, o + 1, .none⟩) hl).trans c1, ht.below hb⟩
/-- A row of hunks that is read. -/
def HksAt (W : World) (a : Option Addr) (hs : List Hk) : Prop := hs = [] ∨ ∃ b o, a = some ⟨b, o, .none⟩ ∧ b < W.heap.size ∧ ∀ (i : Nat) h, hs[i]? = some h → HkAt W b (o + i * 2) h
theorem HksAt.below {W W' : World} {a : Option Addr} {hs : List Hk} (h : HksAt W a hs) (hb : Below W.heap.size W W') : HksAt W' a hs := by
  rcases h with h | ⟨b, o, rfl, hl, hc⟩
  · exact .inl h
  · exact .inr ⟨b, o, rfl, Nat.lt_of_lt_of_le hl hb.size, fun i e hi => (hc i e hi).below hb hl⟩
theorem HksAt.get {W : World} {a : Option Addr} {hs : List Hk} (h : HksAt W a hs) (hne : hs ≠ []) : ∃ b o, a = some ⟨b, o, .none⟩ ∧ b < W.heap.size ∧ ∀ (i : Nat) h, hs[i]? = some h → HkAt W b (o + i * 2) h := h.resolve_left hne
def totH (hs : List Hk) : Nat := (hs.map fun h => h.lines.length + totX h.lines).sum
theorem totH_take (hs : List Hk) (k : Nat) (h : Hk) (e : hs[k]? = some h) : totH (hs.take (k + 1)) = totH (hs.take k) + h.lines.length + totX h.lines := by
  unfold totH
  rw [List.take_add_one, e]
  simp; omega
theorem totH_mem {hs : List Hk} {h : Hk} (e : h ∈ hs) : h.lines.length + totX h.lines ≤ totH hs := by
  unfold totH
  induction hs with
  | nil => cases e
  | cons x hs ih =>
    rcases List.mem_cons.1 e with rfl | e
    · simp
    · have := ih e; simp; omega
def bigH (hs : List Hk) : Prop := ∀ h ∈ hs, bigX h.lines ∧ h.lines.length ≤ maxLen

set_option maxRecDepth 100000 in
set_option maxHeartbeats 1000000 in
theorem szHunk_any (h : Hk) (la : Option Addr) (cap : Nat) (left : Int) (w : World) (hz : bigX h.lines) (hlen : h.lines.length ≤ maxLen) (hl : 0 ≤ left) (hl2 : left ≤ 1048576) (ht : TxtsAt w la h.lines) :
    Calls Try.prog 44 #[.agg #[.int .i64 h.at_, .slice la h.lines.length cap], .int .i64 left] w fun x w' => (∃ r : Int, x = .returned (.int .i64 r) ∧ r ≤ left ∧ (r < 0 ∨ r + h.lines.length + totX h.lines = left)) ∧ Below w.heap.size w w' := by
  have hB : ∀ o, Below w.heap.size w (w.alloc o) := fun o => (Below.refl _ w).alloc (Nat.le_refl _) o
  have HB := hid hB
  have HT := hid ht
  clear hB ht
  go_enter Try.func44, Try.ntmps44
  go_wp2_with fail
  refine (szStringS_any h.lines la cap left _ hz hlen hl hl2 ((unhid HT).below (unhid HB _))).mono ?_
  rintro x w2 ⟨⟨r, rfl, hr1, hr2⟩, hw⟩
  subst hw
  have HR := hid hr2
  clear hr2
  by_cases hr0 : r < 0
  · go_wp2_with fail
    go_ret
    exact ⟨⟨-1, rfl, by omega, .inl (by omega)⟩, unhid HB _⟩
  · go_wp2_with fail
    go_ret
    exact ⟨⟨r, rfl, hr1, unhid HR⟩, unhid HB _⟩

set_option maxRecDepth 100000 in
set_option maxHeartbeats 2000000 in
theorem szHunkS_any (hs : List Hk) (a : Option Addr) (cap : Nat) (left : Int) (w : World) (hz : bigH hs) (hlen : hs.length ≤ maxLen) (hl : 0 ≤ left) (hl2 : left ≤ 1048576) (h : HksAt w a hs) :
    Calls Try.prog 15 #[.slice a hs.length cap, .int .i64 left] w fun x w' => (∃ r : Int, x = .returned (.int .i64 r) ∧ r ≤ left ∧ (r < 0 ∨ r + hs.length + totH hs = left)) ∧ Below w.heap.size w w' := by
  unfold maxLen at hlen
  by_cases h0 : left - (hs.length : Int) < 0
  · go_enter Try.func15, Try.ntmps15
    go_wp2_with fail
    go_ret
    exact ⟨⟨-1, rfl, by omega, .inl (by omega)⟩, Below.refl _ _⟩
  · go_enter Try.func15, Try.ntmps15
    go_wp2_with fail
    go_loopw [1, 5] (fun l i wr => ∃ (k : Nat) (q : Int), k ≤ hs.length ∧ i = .int .i64 k ∧ l = .int .i64 q ∧ 0 ≤ q ∧ q + hs.length + totH (hs.take k) = left ∧ Below w.heap.size w wr) (fun _ i _ => hs.length - (intOf i).toNat)
    case atStart => exact ⟨0, _, Nat.zero_le _, rfl, rfl, by omega, by simp [totH], Below.refl _ _⟩
    case round =>
      obtain ⟨k, q, hk, rfl, rfl, hq, hsum, hB⟩ := hrel
      by_cases hlt : k < hs.length
      · obtain ⟨e, he⟩ : ∃ e, hs[k]? = some e := ⟨hs[k], List.getElem?_eq_getElem hlt⟩
        obtain ⟨b, o, rfl, hbl, hc⟩ := h.get (by intro e; subst e; simp at hlt)
        obtain ⟨la, lc, c0, c1, ht⟩ := ((hc k e he).below hB hbl)
        obtain ⟨z1, z2⟩ := hz e (List.mem_of_getElem? he)
        have HS := hid (totH_take hs k e he)
        have HE := hid (And.intro hz hc)
        have HB := hid hB
        have HT := hid ht
        have Z1 := hid z1
        have Z2 := hid z2
        clear hz hc hB he ht z1 z2
        go_wp2_with fail
        refine (szHunk_any e la lc q _ (unhid Z1) (unhid Z2) hq (by omega) (unhid HT)).mono ?_
        rintro x w2 ⟨⟨r, rfl, hr1, hr2⟩, hb⟩
        have HB2 := hid ((unhid HB).trans (hb.mono (unhid HB).size))
        clear hb c0 c1
        by_cases hr0 : r < 0
        · go_wp2_with fail
          go_ret
          exact ⟨⟨-1, rfl, by omega, .inl (by omega)⟩, unhid HB2⟩
        · have HR3 := hid (hr2.resolve_left hr0)
          clear hr2
          go_wp2_with fail
          go_roundw
          case rel => exact ⟨k + 1, r, by omega, by go_num, rfl, by omega, by have := unhid HR3; rw [unhid HS]; omega, unhid HB2⟩
          case measure => simp [intOf]; omega
      · have e : k = hs.length := by omega
        subst e
        rw [List.take_of_length_le (Nat.le_refl _)] at hsum
        go_wp2_with fail
        go_ret
        exact ⟨⟨q, rfl, by omega, .inr hsum⟩, hB⟩

/-- Two cells at the head of a block. -/
def TwoAt (W : World) (b : Nat) (x : Int) (v : Value) : Prop := (W.cell? ⟨b, 0, .none⟩ = some (.int .i64 x) ∧ W.frozen? ⟨b, 0, .none⟩ = false) ∧ W.cell? ⟨b, 1, .none⟩ = some v ∧ W.frozen? ⟨b, 1, .none⟩ = false
theorem twoAt_new (W : World) (x : Int) (v : Value) (t : TypeId) : TwoAt (W.alloc (.cells #[.int .i64 x, v] t)) W.heap.size x v := by
  refine ⟨⟨?_, ?_⟩, ?_, ?_⟩ <;> simp [go_sem]
theorem TwoAt.below {W W' : World} {b B : Nat} {x : Int} {v : Value} (h : TwoAt W b x v) (hb : Below B W W') (hB : b < B) : TwoAt W' b x v :=
  ⟨⟨(hb.cell (p := ⟨b, 0, .none⟩) hB).trans h.1.1, (hb.frozen (p := ⟨b, 0, .none⟩) hB).trans h.1.2⟩, (hb.cell (p := ⟨b, 1, .none⟩) hB).trans h.2.1, (hb.frozen (p := ⟨b, 1, .none⟩) hB).trans h.2.2⟩
theorem TwoAt.set0 {W : World} {b : Nat} {x : Int} {v : Value} (h : TwoAt W b x v) (y : Int) : TwoAt (W.setCell ⟨b, 0, .none⟩ (.int .i64 y)) b y v := by
  obtain ⟨⟨c0, f0⟩, c1, f1⟩ := h
  refine ⟨⟨?_, ?_⟩, ?_, ?_⟩ <;> simp [go_sem, World.cell?_setCell_same', c0, c1, f0, f1]
theorem TwoAt.far {W : World} {b : Nat} {x : Int} {v : Value} (h : TwoAt W b x v) {q : Addr} (hq : b ≠ q.block) (y : Value) : TwoAt (W.setCell q y) b x v := by
  have hb := Below.heap_setCell W q y b hq
  exact ⟨⟨(World.cell?_of_block (w := W) hb).trans h.1.1, (World.frozen?_of_block (w := W) hb).trans h.1.2⟩, (World.cell?_of_block (w := W) hb).trans h.2.1, (World.frozen?_of_block (w := W) hb).trans h.2.2⟩
end Go.Proofs.Ytedimkcnemhhpaa

/- The laws' own copies of hunks; two rows of the same hunks are the same. -/
namespace Go.Proofs.Ytedimkcnemhhpaa
open Go.RowKit Go.Shelf

set_option maxRecDepth 100000 in
set_option maxHeartbeats 2000000 in
theorem toHunk_any (h : Hk) (la : Option Addr) (cap : Nat) (w : World) (hlen : h.lines.length ≤ 1048576) (ht : TxtsAt w la h.lines) :
    Calls Try.prog 47 #[.agg #[.int .i64 h.at_, .slice la h.lines.length cap]] w fun x w' => ∃ g, x = .returned (.agg #[.int .i64 h.at_, .slice (some ⟨g, 0, .none⟩) h.lines.length h.lines.length]) ∧ w.heap.size ≤ g ∧ TxtsAt w' (some ⟨g, 0, .none⟩) h.lines ∧ Below w.heap.size w w' := by
  have HT := hid ht
  clear ht
  obtain ⟨at_, lines⟩ := h
  dsimp only at HT hlen ⊢
  have hs1 : ∀ o, (w.alloc o).heap.size = w.heap.size + 1 := fun o => by simp
  have hs2 : ∀ o o', ((w.alloc o).alloc o').heap.size = w.heap.size + 1 + 1 := fun o o' => by simp
  have hs3 : ∀ o o' o'', (((w.alloc o).alloc o').alloc o'').heap.size = w.heap.size + 1 + 1 + 1 := fun o o' o'' => by simp
  have hB : ∀ o o' o'', Below w.heap.size w (((w.alloc o).alloc o').alloc o'') := fun o o' o'' => (((Below.refl _ w).alloc (Nat.le_refl _) o).alloc (by simp) o').alloc (by simp; omega) o''
  have hR : ∀ o o'', TwoAt (((w.alloc o).alloc (.cells #[.int .i64 0, .slice none 0 0] 46)).alloc o'') (w.heap.size + 1) 0 (.slice none 0 0) := fun o o'' => by
    have h1 := twoAt_new (w.alloc o) 0 (.slice none 0 0) 46
    have h2 := h1.below ((Below.refl _ _).alloc (Nat.le_refl _) o'') (by rw [hs1, hs2]; omega)
    rwa [hs1] at h2
  have hO : ∀ o o', TwoAt (((w.alloc o).alloc o').alloc (.cells #[.int .i64 at_, .slice none 0 0] 46)) (w.heap.size + 1 + 1) at_ (.slice none 0 0) := fun o o' => by
    have h1 := twoAt_new ((w.alloc o).alloc o') at_ (.slice none 0 0) 46
    rwa [hs2] at h1
  have HB := hid hB
  have HR := hid hR
  have HO := hid hO
  have HS3 := hid hs3
  clear hB hR hO hs1 hs2 hs3
  go_enter Try.func47, Try.ntmps47
  go_wp2_with fail
  refine (toStringS_any lines la cap _ hlen ((unhid HT).below (unhid HB _ _ _))).mono ?_
  rintro x w1 ⟨g, rfl, hg, hrow, hb⟩
  have B1 := hid ((unhid HB _ _ _).trans (hb.mono (unhid HB _ _ _).size))
  obtain ⟨⟨c0, f0⟩, c1, f1⟩ := (unhid HR _ _).below hb (by rw [unhid HS3]; omega)
  obtain ⟨⟨d0, g0⟩, d1, g1⟩ := (unhid HO _ _).below hb (by rw [unhid HS3]; omega)
  rw [unhid HS3] at hg
  have HRow := hid hrow
  clear hb HB HR HO HS3 hrow
  go_wp2_with fail
  refine bodyPost_ret (v := .agg #[.int .i64 at_, .slice (some ⟨g, 0, .none⟩) lines.length lines.length]) (by simp [results, Try.results47, go_sem, World.cell?_setCell_same', c0, c1]) rfl ⟨g, rfl, by omega, ?_, ?_⟩
  · refine ((unhid HRow).block ?_).at (Nat.le_refl _)
    rw [Below.heap_setCell _ _ _ _ (by dsimp only; omega), Below.heap_setCell _ _ _ _ (by dsimp only; omega), Below.heap_setCell _ _ _ _ (by dsimp only; omega)]
  · exact (((unhid B1).setCell (by dsimp only; omega) _).setCell (by dsimp only; omega) _).setCell (by dsimp only; omega) _

/-- A block that is a row of n hunks. -/
def HkRow (W : World) (g T n : Nat) (f : Nat → Int × Value) : Prop := ∃ cur : Array Value, W.heap[g]? = some (.cells cur T (0, 0)) ∧ cur.size = n * 2 ∧ ∀ i, i < n → cur[i * 2]? = some (.int .i64 (f i).1) ∧ cur[i * 2 + 1]? = some (f i).2
theorem HkRow.lt {W : World} {g T n : Nat} {f : Nat → Int × Value} (x : HkRow W g T n f) : g < W.heap.size := by
  obtain ⟨cur, h1, _⟩ := x; exact (Array.getElem?_eq_some_iff.1 h1).1
theorem HkRow.block {W W' : World} {g T n : Nat} {f : Nat → Int × Value} (x : HkRow W g T n f) (e : W'.heap[g]? = W.heap[g]?) : HkRow W' g T n f := by
  obtain ⟨cur, h1, h2, h3⟩ := x; exact ⟨cur, e.trans h1, h2, h3⟩
theorem HkRow.below {W W' : World} {B g T n : Nat} {f : Nat → Int × Value} (x : HkRow W g T n f) (hb : Below B W W') (hg : g < B) : HkRow W' g T n f := x.block (hb.block g hg)
theorem HkRow.cells {W : World} {g T n : Nat} {f : Nat → Int × Value} (x : HkRow W g T n f) (k : Nat) (hk : k < n) : (W.cell? ⟨g, k * 2, .none⟩ = some (.int .i64 (f k).1) ∧ W.frozen? ⟨g, k * 2, .none⟩ = false) ∧ W.cell? ⟨g, k * 2 + 1, .none⟩ = some (f k).2 ∧ W.frozen? ⟨g, k * 2 + 1, .none⟩ = false := by
  obtain ⟨cur, h1, h2, h3⟩ := x
  obtain ⟨a, b⟩ := h3 k hk
  exact ⟨⟨by simp [World.cell?, h1, a], by simp [World.frozen?, h1]⟩, by simp [World.cell?, h1, b], by simp [World.frozen?, h1]⟩
def updH (f : Nat → Int × Value) (k : Nat) (e : Int × Value) : Nat → Int × Value := fun j => if j = k then e else f j
theorem HkRow.set {W : World} {g T n : Nat} {f : Nat → Int × Value} (x : HkRow W g T n f) (k : Nat) (hk : k < n) (e : Int × Value) :
    HkRow ((W.setCell ⟨g, k * 2, .none⟩ (.int .i64 e.1)).setCell ⟨g, k * 2 + 1, .none⟩ e.2) g T n (updH f k e) := by
  obtain ⟨cur, h1, h2, h3⟩ := x
  refine ⟨(cur.setIfInBounds (k * 2) (.int .i64 e.1)).setIfInBounds (k * 2 + 1) e.2, ?_, by simpa using h2, fun i hi => ?_⟩
  · exact heap_setCell_same _ g _ _ T _ (heap_setCell_same _ g _ _ T _ h1)
  · unfold updH
    simp only [Array.getElem?_setIfInBounds, Array.size_setIfInBounds]
    by_cases e1 : i = k
    · subst e1
      have eu : (if i = i then e else f i) = e := if_pos rfl
      rw [eu]
      refine ⟨?_, ?_⟩
      · rw [if_neg (by omega), if_pos rfl, if_pos (by omega)]
      · rw [if_pos rfl, if_pos (by omega)]
    · rw [if_neg e1]
      obtain ⟨a, b⟩ := h3 i hi
      refine ⟨?_, ?_⟩
      · rw [if_neg (by omega), if_neg (by omega)]; exact a
      · rw [if_neg (by omega), if_neg (by omega)]; exact b
theorem infoHk : (Try.prog.info? 46).map (fun i => (i.zero, i.size, i.bytes)) = some (some (.agg #[.int .i64 0, .slice none 0 0]), 2, 32) := by kernel_rfl
theorem mkHunks (W : World) (n : Nat) (hn : n ≤ 1048576) : ∃ M : Array Value, (Instr.makeSlice 25 (.int .i64 (n : Int)) (.int .i64 (n : Int))).run Try.prog W = .ok (.slice (some ⟨W.heap.size, 0, .none⟩) n n) (W.alloc (.cells M 46)) ∧ HkRow (W.alloc (.cells M 46)) W.heap.size 46 n (fun _ => (0, .slice none 0 0)) := by
  obtain ⟨i, hi, hz0, hz1, hz2⟩ := info_parts infoHk
  refine ⟨madeCells #[.int .i64 0, .slice none 0 0] (n * 2), ?_, _, World.alloc_heap_new W _, by simp [madeCells], fun j hj => ?_⟩
  · have := run_make (P := Try.prog) W 25 46 i _ Try.underlying25 hi hz0 .i64 .i64 n n (by omega) (Int.le_refl _) (by rw [hz2]; omega) (by omega)
    simpa [hz1, Value.cells] using this
  · unfold madeCells
    simp only [Array.getElem?_map, Array.getElem?_range]
    have e0 : j * 2 % 2 = 0 := by omega
    have e1 : (j * 2 + 1) % 2 = 1 := by omega
    rw [if_pos (by omega), if_pos (by omega)]
    simp [e0, e1]

/-- What a copy of the first k hunks is. -/
def HkDone (W : World) (g k : Nat) (hs : List Hk) (f : Nat → Int × Value) : Prop := ∀ (i : Nat) h, i < k → hs[i]? = some h → ∃ la, f i = (h.at_, .slice (some ⟨la, 0, .none⟩) h.lines.length h.lines.length) ∧ g < la ∧ TxtsAt W (some ⟨la, 0, .none⟩) h.lines
theorem HkDone.below {W W' : World} {g k : Nat} {hs : List Hk} {f : Nat → Int × Value} (x : HkDone W g k hs f) (hb : Below W.heap.size W W') : HkDone W' g k hs f := fun i h hi he => by
  obtain ⟨la, h1, h2, h3⟩ := x i h hi he
  exact ⟨la, h1, h2, h3.below hb⟩
theorem HkDone.set {W : World} {g k : Nat} {hs : List Hk} {f : Nat → Int × Value} (x : HkDone W g k hs f) (o : Nat) (v : Value) : HkDone (W.setCell ⟨g, o, .none⟩ v) g k hs f := fun i h hi he => by
  obtain ⟨la, h1, h2, h3⟩ := x i h hi he
  exact ⟨la, h1, h2, h3.block g (fun b o e => by cases e; omega) (by simp) (fun b _ hne => Below.heap_setCell W ⟨g, _, .none⟩ v b (by dsimp only; exact hne))⟩

set_option maxRecDepth 100000 in
set_option maxHeartbeats 2000000 in
theorem toHunkS_any (hs : List Hk) (a : Option Addr) (cap : Nat) (w : World) (hlen : hs.length ≤ 1048576) (hz : ∀ h ∈ hs, h.lines.length ≤ 1048576) (h : HksAt w a hs) :
    Calls Try.prog 17 #[.slice a hs.length cap] w fun x w' => ∃ g, x = .returned (.slice (some ⟨g, 0, .none⟩) hs.length hs.length) ∧ w.heap.size ≤ g ∧ HksAt w' (some ⟨g, 0, .none⟩) hs ∧ Below w.heap.size w w' := by
  obtain ⟨M, hmk, hrow⟩ := mkHunks w hs.length hlen
  have HR := hid hrow
  have HZ := hid hz
  clear hrow hz
  go_enter Try.func17, Try.ntmps17
  go_wp2_with fail
  clear hmk
  have hB0 : Below w.heap.size w (w.alloc (.cells M 46)) := (Below.refl _ _).alloc (Nat.le_refl _) _
  generalize w.alloc (.cells M 46) = wq at HR hB0 ⊢
  go_loopw [4] (fun i wr => ∃ k : Nat, k ≤ hs.length ∧ i = .int .i64 k ∧ (∃ f, HkRow wr w.heap.size 46 hs.length f ∧ HkDone wr w.heap.size k hs f) ∧ Below w.heap.size w wr) (fun i _ => hs.length - (intOf i).toNat)
  case atStart => exact ⟨0, Nat.zero_le _, rfl, ⟨_, unhid HR, fun i _ hi => absurd hi (Nat.not_lt_zero _)⟩, hB0⟩
  case round =>
    clear HR hB0
    obtain ⟨k, hk, rfl, ⟨f, hR, hD⟩, hB⟩ := hrel
    by_cases hlt : k < hs.length
    · obtain ⟨e, he⟩ : ∃ e, hs[k]? = some e := ⟨hs[k], List.getElem?_eq_getElem hlt⟩
      obtain ⟨b, o, rfl, hbl, hc⟩ := h.get (by intro e; subst e; simp at hlt)
      obtain ⟨la, lc, c0, c1, ht⟩ := (hc k e he).below hB hbl
      have zl := unhid HZ e (List.mem_of_getElem? he)
      have HS := hid he
      have HB := hid hB
      have HR := hid hR
      have HD := hid hD
      have HH := hid hc
      have HT := hid ht
      have ZL := hid zl
      clear hc hB he hR h hD ht zl
      go_wp2_with fail
      refine (toHunk_any e la lc _ (unhid ZL) (unhid HT)).mono ?_
      rintro x w2 ⟨g2, rfl, hg2, ht2, hb⟩
      have hgl := (unhid HR).lt
      have hR2 := (unhid HR).below hb hgl
      obtain ⟨⟨d0, f0⟩, d1, f1⟩ := hR2.cells k hlt
      have HR2 := hid hR2
      have HD2 := hid ((unhid HD).below hb)
      have HT2 := hid ht2
      have HB2 := hid ((unhid HB).trans (hb.mono (unhid HB).size))
      have HG2 := hid (Nat.lt_of_lt_of_le hgl hg2)
      clear hb c0 c1 hR2 HR HD ht2 hg2 hgl
      go_wp2_with fail
      go_roundw
      case rel =>
        refine ⟨k + 1, by omega, by go_num, ⟨_, (unhid HR2).set k hlt (e.at_, .slice (some ⟨g2, 0, .none⟩) e.lines.length e.lines.length), fun i hh hi hg => ?_⟩, ((unhid HB2).setCell (Nat.le_refl _) _).setCell (Nat.le_refl _) _⟩
        unfold updH
        by_cases ei : i = k
        · subst ei
          rw [unhid HS] at hg
          cases hg
          refine ⟨g2, if_pos rfl, unhid HG2, ?_⟩
          refine ((unhid HT2).block w.heap.size (fun b o ee => by cases ee; have := unhid HG2; omega) (by simp) (fun b _ hne => Below.heap_setCell _ ⟨w.heap.size, _, .none⟩ _ b (by dsimp only; exact hne))).block w.heap.size (fun b o ee => by cases ee; have := unhid HG2; omega) (by simp) (fun b _ hne => Below.heap_setCell _ ⟨w.heap.size, _, .none⟩ _ b (by dsimp only; exact hne))
        · have := (((unhid HD2).set (k * 2) (.int .i64 e.at_)).set (k * 2 + 1) (.slice (some ⟨g2, 0, .none⟩) e.lines.length e.lines.length)) i hh (by omega) hg
          rw [if_neg ei]
          exact this
      case measure => simp [intOf]; omega
    · have e : k = hs.length := by omega
      subst e
      go_wp2_with fail
      go_ret
      refine ⟨w.heap.size, rfl, Nat.le_refl _, .inr ⟨w.heap.size, 0, rfl, hR.lt, fun i e hi => ?_⟩, hB⟩
      have hl : i < hs.length := (List.getElem?_eq_some_iff.1 hi).1
      obtain ⟨la, hf, hg, ht⟩ := hD i e hl hi
      obtain ⟨⟨c0, _⟩, c1, _⟩ := hR.cells i hl
      rw [hf] at c0 c1
      rw [Nat.zero_add]
      exact ⟨_, _, c0, c1, ht⟩

set_option maxRecDepth 100000 in
set_option maxHeartbeats 2000000 in
theorem eqHunk_same (h : Hk) (la lb : Option Addr) (cap cap2 : Nat) (w : World) (hlen : h.lines.length ≤ maxLen) (ha : TxtsAt w la h.lines) (hb : TxtsAt w lb h.lines) :
    Calls Try.prog 50 #[.agg #[.int .i64 h.at_, .slice la h.lines.length cap], .agg #[.int .i64 h.at_, .slice lb h.lines.length cap2]] w fun r w' => r = .returned (.bool true) ∧ Below w.heap.size w w' := by
  have HA := hid ha
  have HB := hid hb
  clear ha hb
  have hW : ∀ o o', Below w.heap.size w ((w.alloc o).alloc o') := fun o o' => ((Below.refl _ w).alloc (Nat.le_refl _) o).alloc (by simp) o'
  have HW := hid hW
  clear hW
  have hq : (h.at_ != h.at_) = false := by simp
  go_enter Try.func50, Try.ntmps50
  go_wp2_with fail
  refine (eqStringS_same h.lines la lb cap cap2 _ hlen ((unhid HA).below (unhid HW _ _)) ((unhid HB).below (unhid HW _ _))).mono ?_
  rintro x w1 ⟨rfl, hb⟩
  have B1 := hid ((unhid HW _ _).trans (hb.mono (unhid HW _ _).size))
  clear hb
  go_wp2_with fail
  go_ret
  exact ⟨rfl, unhid B1⟩

set_option maxRecDepth 100000 in
set_option maxHeartbeats 4000000 in
theorem eqHunkS_same (hs : List Hk) (a b : Option Addr) (cap cap2 : Nat) (w : World) (hx : hs.length ≤ maxLen) (hz : ∀ h ∈ hs, h.lines.length ≤ maxLen) (h : HksAt w a hs) (h2 : HksAt w b hs) :
    Calls Try.prog 19 #[.slice a hs.length cap, .slice b hs.length cap2] w fun r w' => r = .returned (.bool true) ∧ Below w.heap.size w w' := by
  unfold maxLen at hx
  have hl' : ((hs.length : Int) != (hs.length : Int)) = false := by simp
  have HZ := hid hz
  clear hz
  go_enter Try.func19, Try.ntmps19
  go_wp2_with fail
  go_loopw [5] (fun i wr => ∃ k : Nat, k ≤ hs.length ∧ i = .int .i64 k ∧ Below w.heap.size w wr) (fun i _ => hs.length - (intOf i).toNat)
  case atStart => exact ⟨0, Nat.zero_le _, rfl, Below.refl _ _⟩
  case round =>
    obtain ⟨k, hk, rfl, hB⟩ := hrel
    by_cases hlt : k < hs.length
    · obtain ⟨e, he⟩ : ∃ e, hs[k]? = some e := ⟨hs[k], List.getElem?_eq_getElem hlt⟩
      obtain ⟨bb, o, rfl, hbl, hc⟩ := h.get (by intro e; subst e; simp at hlt)
      obtain ⟨bb2, o2, rfl, hbl2, hc2⟩ := h2.get (by intro e; subst e; simp at hlt)
      obtain ⟨la, lc, c0, c1, ht⟩ := (hc k e he).below hB hbl
      obtain ⟨la2, lc2, d0, d1, ht2⟩ := (hc2 k e he).below hB hbl2
      have zl := hid (unhid HZ e (List.mem_of_getElem? he))
      have HB := hid hB
      have HT := hid ht
      have HT2 := hid ht2
      have HH := hid (And.intro h (And.intro h2 (And.intro hc hc2)))
      clear hc hc2 hB he h h2 ht ht2
      go_wp2_with fail
      go_region_with (go_at_call 50; refine (eqHunk_same e la la2 lc lc2 _ (unhid zl) ((unhid HT).below (drew_belowX _)) ((unhid HT2).below (drew_belowX _))).mono ?_; rintro r w2 ⟨rfl, hb⟩; have HB2 := hid (((unhid HB).trans (drew_belowX _)).trans (hb.mono (unhid HB).size)); clear hb)
      all_goals
        go_wp2_with fail
        go_roundw
        case rel => exact ⟨k + 1, by omega, by go_num, unhid HB2⟩
        case measure => simp [intOf]; omega
    · have e : k = hs.length := by omega
      subst e
      go_wp2_with fail
      go_ret
      exact ⟨rfl, hB⟩
end Go.Proofs.Ytedimkcnemhhpaa

/- Lines of texts and of hunks, by the program and by its model. -/
namespace Go.Proofs.Ytedimkcnemhhpaa
open Go.RowKit Go.Shelf

def lineC (c : Int) : Bool := decide (32 ≤ c) && decide (c ≤ 126)
def lineB (l : List UInt8) : Bool := decide (l.length ≤ 80) && l.all fun c => lineC c.toNat
def signB (c : Int) : Bool := c == 32 || c == 45 || c == 43
def hkLineB : List UInt8 → Bool
  | [] => false
  | c :: t => signB c.toNat && lineB t

set_option maxHeartbeats 1000000 in
theorem isLineByte_any (c : Int) (w : World) :
    Calls Try.prog 104 #[.int .u8 c] w fun e w' => e = .returned (.bool (lineC c)) ∧ w' = w := by
  by_cases h1 : 32 ≤ c <;> by_cases h2 : c ≤ 126
  all_goals
    go_enter Try.func104, Try.ntmps104
    go_wp2
    go_ret
    exact ⟨by simp [lineC, h1, h2], rfl⟩
theorem egL : ∀ args w, (callFunc 104 args).run Try.prog w = .ok (.enter 104 args) w := enters_of Try.func104 (by kernel_rfl) rfl
theorem egT : ∀ args w, (callFunc 87 args).run Try.prog w = .ok (.enter 87 args) w := enters_of Try.func87 (by kernel_rfl) rfl
theorem egK : ∀ args w, (callFunc 85 args).run Try.prog w = .ok (.enter 85 args) w := enters_of Try.func85 (by kernel_rfl) rfl

set_option maxRecDepth 100000 in
set_option maxHeartbeats 1000000 in
theorem textLineOk_any (s : ByteArray) (hs : s.size ≤ maxLen) (w : World) :
    Calls Try.prog 87 #[.string s] w fun e w' => e = .returned (.bool (lineB s.data.toList)) ∧ Below w.heap.size w w' := by
  have hl : s.data.toList.length = s.size := (Lib.size_eq s).symm
  by_cases h1 : (s.size : Int) ≤ 80
  · have E := hid (show lineB s.data.toList = s.data.toList.all fun c => lineC c.toNat by unfold lineB; rw [hl, decide_eq_true (by omega)]; rfl)
    clear hl
    go_enter Try.func87, Try.ntmps87
    go_wp2_with fail
    refine (allBytes_any 104 lineC egL isLineByte_any s hs _).mono ?_
    rintro e w' ⟨rfl, hb⟩
    have HB := hid hb
    clear hb
    rw [← unhid E]
    go_wp2_with fail
    go_ret
    exact ⟨rfl, unhid HB⟩
  · have E := hid (show lineB s.data.toList = false by unfold lineB; rw [hl, decide_eq_false (by omega)]; rfl)
    clear hl
    go_enter Try.func87, Try.ntmps87
    go_wp2_with fail
    go_ret
    exact ⟨by rw [unhid E]; rfl, Below.refl _ _⟩

set_option maxHeartbeats 1000000 in
theorem isSign_any (c : Int) (w : World) :
    Calls Try.prog 102 #[.int .u8 c] w fun e w' => e = .returned (.bool (signB c)) ∧ w' = w := by
  cases h1 : (c == 32)
  case' false => cases h2 : (c == 45)
  case' false.false => cases h3 : (c == 43)
  all_goals
    go_enter Try.func102, Try.ntmps102
    go_wp2
    go_ret
    exact ⟨by simp_all [signB], rfl⟩

theorem str_nil {s : ByteArray} (h : s.size = 0) : s = ⟨#[]⟩ := by
  have : s.data.toList = [] := List.length_eq_zero_iff.1 (by rw [← Lib.size_eq]; exact h)
  exact ByteArray.ext (Array.ext' this)
theorem str_cons {s : ByteArray} (h : 0 < s.size) : s.data.toList = s[0] :: (s.extract 1 s.size).data.toList := by
  have h0 : 0 < s.data.toList.length := by rw [← Lib.size_eq]; exact h
  rw [Lib.extract_data, List.take_of_length_le (by simp)]
  have := List.drop_eq_getElem_cons h0
  rw [List.drop_zero] at this
  exact this
theorem ne_empty {s : ByteArray} (h : 0 < s.size) : (s.toList == []) = false := by
  rw [Lib.toList_data, beq_eq_false_iff_ne, str_cons h]; simp
theorem empty_list : (⟨#[]⟩ : ByteArray).toList = [] := by rw [Lib.toList_data]

set_option maxRecDepth 100000 in
set_option maxHeartbeats 2000000 in
theorem hunkLineOk_any (s : ByteArray) (hs : s.size ≤ maxLen) (w : World) :
    Calls Try.prog 85 #[.string s] w fun e w' => e = .returned (.bool (hkLineB s.data.toList)) ∧ Below w.heap.size w w' := by
  by_cases h0 : s.size = 0
  · obtain rfl := str_nil h0
    go_enter Try.func85, Try.ntmps85
    go_wp2_with fail
    go_ret
    exact ⟨rfl, Below.refl _ _⟩
  · have hp : 0 < s.size := by omega
    have q1 := ne_empty hp
    have q0 := empty_list
    have q2 : (s.toList != []) = true := by simp only [bne, q1]; rfl
    have q3 : (s.toList == (⟨#[]⟩ : ByteArray).toList) = false := by rw [q0]; exact q1
    have q4 : (s.toList != (⟨#[]⟩ : ByteArray).toList) = true := by rw [q0]; exact q2
    have E := hid (show hkLineB s.data.toList = (signB s[0].toNat && lineB (s.extract 1 s.size).data.toList) by rw [str_cons hp]; rfl)
    have hs' : s.size ≤ 9223372036854775807 := hs
    have z1 : (s.extract 1 s.size).size ≤ maxLen := by rw [ByteArray.size_extract]; unfold maxLen; omega
    go_enter Try.func85, Try.ntmps85
    go_wp2_with fail
    refine (isSign_any _ _).mono ?_
    rintro e w' ⟨rfl, rfl⟩
    cases hx : signB s[0].toNat
    · have E2 := hid (show hkLineB s.data.toList = false by rw [unhid E, hx]; rfl)
      clear E hx
      go_wp2_with fail
      go_ret
      exact ⟨by rw [unhid E2]; rfl, Below.refl _ _⟩
    · have E2 := hid (show hkLineB s.data.toList = lineB (s.extract 1 s.size).data.toList by rw [unhid E, hx]; rfl)
      clear E hx
      go_wp2_with fail
      refine (textLineOk_any _ z1 _).mono ?_
      rintro e w' ⟨rfl, hb⟩
      have HB := hid hb
      clear hb
      rw [← unhid E2]
      go_wp2_with fail
      go_ret
      exact ⟨rfl, unhid HB⟩

set_option maxRecDepth 100000 in
set_option maxHeartbeats 2000000 in
theorem listOk_any (g : Nat) (T : List UInt8 → Bool) (eg : ∀ args w, (callFunc g args).run Try.prog w = .ok (.enter g args) w)
    (hT : ∀ (s : ByteArray) (w : World), s.size ≤ maxLen → Calls Try.prog g #[.string s] w fun e w' => e = .returned (.bool (T s.data.toList)) ∧ Below w.heap.size w w')
    (xs : List ByteArray) (a : Option Addr) (cap : Nat) (most : Int) (w : World) (hz : bigX xs) (hlen : xs.length ≤ maxLen) (h : TxtsAt w a xs) :
    Calls Try.prog 84 #[.slice a xs.length cap, .int .i64 most, .func (.func g) #[] #[]] w fun e w' => e = .returned (.bool (decide ((xs.length : Int) ≤ most) && xs.all fun x => T x.data.toList)) ∧ Below w.heap.size w w' := by
  unfold maxLen at hlen
  have HT := hid hT
  have HZ := hid hz
  clear hT hz
  by_cases h0 : (xs.length : Int) ≤ most
  · have E := hid (show (decide ((xs.length : Int) ≤ most) && xs.all fun x => T x.data.toList) = xs.all fun x => T x.data.toList by rw [decide_eq_true h0]; rfl)
    go_enter Try.func84, Try.ntmps84
    go_wp2_with fail
    go_loopw [15] (fun i wr => ∃ k : Nat, k ≤ xs.length ∧ i = .int .i64 k ∧ Hid ((xs.take k).all (fun x => T x.data.toList) = true) ∧ Below w.heap.size w wr) (fun i _ => xs.length - (intOf i).toNat)
    case atStart => exact ⟨0, Nat.zero_le _, rfl, hid (by simp), Below.refl _ _⟩
    case round =>
      obtain ⟨k, hk, rfl, hall, hB⟩ := hrel
      by_cases hlt : k < xs.length
      · obtain ⟨e, he⟩ : ∃ e, xs[k]? = some e := ⟨xs[k], List.getElem?_eq_getElem hlt⟩
        obtain ⟨b, o, rfl, hbl, hc⟩ := h.get (by intro e; subst e; simp at hlt)
        have c0 := (hB.cell (p := ⟨b, o + k, .none⟩) hbl).trans (hc k e he)
        have HS := hid (show xs.take (k + 1) = xs.take k ++ [e] by rw [List.take_add_one, he]; rfl)
        have HM := hid (List.mem_of_getElem? he)
        have HB := hid hB
        have HH := hid hc
        clear hc hB he h
        go_wp2_with fail
        refine (unhid HT e _ (unhid HZ e (unhid HM))).mono ?_
        rintro x w2 ⟨rfl, hb⟩
        have HB2 := hid ((unhid HB).trans (hb.mono (unhid HB).size))
        clear hb c0
        cases hx : T e.data.toList
        · go_wp2_with fail
          go_ret
          refine ⟨?_, unhid HB2⟩
          have : (xs.all fun x => T x.data.toList) = false := List.all_eq_false.2 ⟨e, unhid HM, by simp [hx]⟩
          rw [unhid E, this]; rfl
        · go_wp2_with fail
          go_roundw
          case rel => exact ⟨k + 1, by omega, by go_num, hid (by rw [unhid HS, List.all_append, unhid hall]; simp [hx]), unhid HB2⟩
          case measure => simp [intOf]; omega
      · have e : k = xs.length := by omega
        subst e
        go_wp2_with fail
        go_ret
        refine ⟨?_, hB⟩
        have := unhid hall
        rw [List.take_of_length_le (Nat.le_refl _)] at this
        rw [unhid E, this]; rfl
  · have E := hid (show (decide ((xs.length : Int) ≤ most) && xs.all fun x => T x.data.toList) = false by rw [decide_eq_false h0]; rfl)
    go_enter Try.func84, Try.ntmps84
    go_wp2_with fail
    go_ret
    exact ⟨by rw [unhid E]; rfl, Below.refl _ _⟩

theorem byte64 (c : UInt8) : wrap64 (c.toNat : Int) = (c.toNat : Int) := by
  have := c.toNat_lt
  unfold wrap64; omega
theorem byte_mem (s : ByteArray) (k : Nat) (h : k < s.size) : s[k] ∈ s.data.toList := by
  have : k < s.data.toList.length := by rw [← Lib.size_eq]; exact h
  exact List.getElem_mem this
set_option maxRecDepth 100000 in
set_option maxHeartbeats 2000000 in
theorem l5Seen_any (s : ByteArray) (hs : s.size ≤ maxLen) (w : World) :
    Calls Try.prog 83 #[.string s] w fun e w' => e = .returned (.bool (lineB s.data.toList)) ∧ w' = w := by
  unfold maxLen at hs
  have hl : s.data.toList.length = s.size := (Lib.size_eq s).symm
  have E := hid (show lineB s.data.toList = (decide ((s.size : Int) ≤ 80) && s.data.toList.all fun c => lineC c.toNat) by unfold lineB; rw [hl]; congr 1; simp; omega)
  clear hl
  go_enter Try.func83, Try.ntmps83
  go_wp2_with fail
  go_loop [3] (fun i => ∃ k : Nat, k ≤ s.size ∧ i = .int .i64 k ∧ Hid ((s.data.toList.take k).all (fun c => lineC c.toNat) = true)) (fun i => s.size - (intOf i).toNat)
  case atStart => exact ⟨0, by omega, rfl, hid (by simp)⟩
  case round =>
    obtain ⟨k, hk, rfl, hall⟩ := hrel
    by_cases hlt : k < s.size
    · have HS := hid (show s.data.toList.take (k + 1) = s.data.toList.take k ++ [s[k]] from take_snoc s k hlt)
      go_wp2_with fail
      refine (l1In_any _ _ _ _).mono ?_
      rintro e w' ⟨rfl, rfl⟩
      have hb : wrap64 (s[k].toNat : Int) = (s[k].toNat : Int) := byte64 s[k]
      rw [hb]
      cases hx : (decide ((32 : Int) ≤ s[k].toNat) && decide ((s[k].toNat : Int) ≤ 126))
      · have E2 := hid (show lineB s.data.toList = false by
          rw [unhid E, List.all_eq_false.2 ⟨s[k], byte_mem s k hlt, by unfold lineC; rw [hx]; simp⟩, Bool.and_false])
        clear hx hb
        go_wp2_with fail
        go_ret
        exact ⟨by rw [unhid E2]; rfl, rfl⟩
      · have HX := hid hx
        clear hx hb
        go_wp2_with fail
        refine ⟨⟨k + 1, by omega, by go_num, hid ?_⟩, by simp [intOf]; omega⟩
        rw [unhid HS, List.all_append, unhid hall]
        simp only [List.all_cons, List.all_nil, Bool.and_true, Bool.true_and]
        exact unhid HX
    · have e : k = s.size := by omega
      subst e
      have E2 := hid (show lineB s.data.toList = decide ((s.size : Int) ≤ 80) by
        have := unhid hall
        rw [List.take_of_length_le (by simp)] at this
        rw [unhid E, this, Bool.and_true])
      go_wp2_with fail
      go_ret
      exact ⟨by rw [unhid E2]; rfl, rfl⟩
end Go.Proofs.Ytedimkcnemhhpaa

/- A region that draws its order, whose operations read what lay below a bound and whose callees leave that as it was: walked once. -/
namespace Go.Proofs.Ytedimkcnemhhpaa
open Go.RowKit

/-- A world in which what lay below a bound is as it was. -/
structure BW (B : Nat) (W : World) where
  w : World
  h : Below B W w
theorem BW.all {B : Nat} {W : World} {p : Prop} : (BW B W → p) ↔ p := ⟨fun h => h ⟨W, Below.refl _ _⟩, fun h _ => h⟩
theorem BW.cell {B : Nat} {W : World} {b o : Nat} {v : Value} (hb : b < B) (h : W.cell? ⟨b, o, none⟩ = some v) (x : BW B W) : x.w.cell? ⟨b, o, none⟩ = some v := (x.h.cell (p := ⟨b, o, none⟩) hb).trans h
theorem Calls.bw {P : Program} {f : FuncId} {args : Array Value} {v : Value} {B : Nat} {W : World} {x : BW B W} (hB : B ≤ W.heap.size) (h : Calls P f args x.w fun e w' => e = .returned v ∧ Below x.w.heap.size x.w w') :
    Calls P f args x.w fun e w'' => e = .returned v ∧ ∃ y : BW B W, w'' = y.w :=
  h.mono fun _ w' ⟨he, hb⟩ => ⟨he, ⟨w', x.h.trans (hb.mono (Nat.le_trans hB x.h.size))⟩, rfl⟩
theorem calm_region {P : Program} {id : Nat} {Q : Exit → Act → World → Prop} {a : Act} {w : World} {l : List Oper} (B : Nat) (hm : P.follows .mixedOrders = true) (hB : Region.lexB .any l.toArray = true)
    (h : wpQuiet P l.toArray (fun w' => ∃ x : BW B w, w' = x.w) (fun a' => ∀ w', (∃ x : BW B w, w' = x.w) → Q .normal a' w') l a) : (Code.region id l.toArray true).wp P Q a w :=
  wp_region_quiet (C := fun w' => ∃ x : BW B w, w' = x.w) hm hB ⟨⟨w.drew, ⟨rfl, rfl, rfl, Nat.le_refl _, fun _ _ => rfl⟩⟩, rfl⟩ (by simpa using h)

/-- A world of a class. -/
structure CW (C : World → Prop) where
  w : World
  h : C w
theorem CW.all {C : World → Prop} {W : World} (h : C W) {p : Prop} : (CW C → p) ↔ p := ⟨fun f => f ⟨W, h⟩, fun h _ => h⟩
theorem Calls.cw {P : Program} {f : FuncId} {args : Array Value} {v : Value} {C : World → Prop} {x : CW C} (h : Calls P f args x.w fun e w' => e = .returned v ∧ C w') :
    Calls P f args x.w fun e w'' => e = .returned v ∧ ∃ y : CW C, w'' = y.w :=
  h.mono fun _ w' ⟨he, hc⟩ => ⟨he, ⟨w', hc⟩, rfl⟩
theorem class_region {P : Program} {id : Nat} {Q : Exit → Act → World → Prop} {a : Act} {w : World} {l : List Oper} (C : World → Prop) (hC : C w.drew) (hm : P.follows .mixedOrders = true) (hB : Region.lexB .any l.toArray = true)
    (h : wpQuiet P l.toArray (fun w' => ∃ x : CW C, w' = x.w) (fun a' => ∀ w', (∃ x : CW C, w' = x.w) → Q .normal a' w') l a) : (Code.region id l.toArray true).wp P Q a w :=
  wp_region_quiet (C := fun w' => ∃ x : CW C, w' = x.w) hm hB ⟨⟨w.drew, hC⟩, rfl⟩ (by simpa using h)
end Go.Proofs.Ytedimkcnemhhpaa
