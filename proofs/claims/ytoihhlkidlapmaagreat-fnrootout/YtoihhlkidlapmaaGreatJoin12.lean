/- Texts of this proof, one behind the other; each says at its head what it shows. -/
import Derived.Test.YtoihhlkidlapmaaGreatJoin11
import Derived.Test.YtoihhlkidlapmaaGreatJoin1
import Derived.Deep.Draws
import Derived.Laws.AppendOwn
import Derived.RangeFuncBox
import Derived.Test.YtoihhlkidlapmaaGreatJoin7
import Derived.Deep.RegionHeld
import Derived.Lib.Bytes
import Derived.Test.YtoihhlkidlapmaaGreatProg
import Derived.Test.YtoihhlkidlapmaaGreatJoin2
import Derived.Test.YtoihhlkidlapmaaGreatJoin3
import Derived.Laws.EntriesVeiled
import Derived.Maps.AppendAt
namespace Go.Proofs.YtoihhlkidlapmaaGreat
open Go.RowKit Go.Shelf
theorem rout_code {d : RootD} {q : ByteArray} (h : rootOk_0 d = true) : rootOutC d q = outCode q d.packs ∧ rootOutP d q = outP q d.packs := by
  unfold rootOutC rootOutP
  rw [if_pos h, if_pos h]; exact ⟨rfl, rfl⟩
theorem ok_0 {ps : List packC.D} : rootOk_0 ⟨ps⟩ = true ↔ rootCode ps = 0 := by unfold rootOk_0; rw [beq_iff_eq]
theorem tree_in_root {ps : List packC.D} {p : packC.D} (h : rootCode ps = 0) (hp : p ∈ ps) {x : Ent} (hx : x ∈ treeOfP p) : (treeB (rootTreeE ⟨ps⟩) && thereE (rootTreeE ⟨ps⟩) x.path) = true ∧ gotE (rootTreeE ⟨ps⟩) x.path = x := by
  obtain ⟨f1, -, -, -, m, u⟩ := (code_iff ps).1 h
  have hj := (joinS_iff f1).2 ⟨m, u⟩
  have e : rootTreeE ⟨ps⟩ = joinG ps := by unfold rootTreeE; rw [if_pos (ok_0.2 h)]
  have ht : treeB (joinG ps) = true := joinG_tree ps
  obtain ⟨a, b⟩ := there_mem' ht ((joinG_mem f1 hj x).2 ⟨p, hp, hx⟩)
  rw [e, ht, a]
  exact ⟨rfl, b⟩
theorem name_without {q : ByteArray} {ps : List packC.D} : q ∉ namesP (withoutP q ps) := fun e => by
  obtain ⟨x, hx, hn⟩ := name_mem.1 e
  exact ((without_mem q ps x).1 hx).2 hn
end Go.Proofs.YtoihhlkidlapmaaGreat

namespace Go.Proofs.YtoihhlkidlapmaaGreat
open Go.RowKit
structure Rd (w : World) (b : Nat) (a : Option Addr) (len cap p : Nat) : Prop where
  c0 : w.cell? ⟨b, 0, none⟩ = some (.slice a len cap)
  c1 : w.cell? ⟨b, 1, none⟩ = some (.int .i64 p)
  f1 : w.frozen? ⟨b, 1, none⟩ = false
  l : len ≤ 2000
  d : len = 0 ∨ ∃ blk off, a = some ⟨blk, off, none⟩ ∧ blk < b ∧ ∀ k, k < len → ∃ c : Nat, c < 256 ∧ w.cell? ⟨blk, off + k, none⟩ = some (.int .u8 c)
theorem wrap_in (x : Int) (h0 : 0 ≤ x) (h : x < 4611686018427387904) : IntKind.i64.wrap x = x := by
  rw [IntKind.wrap_i64]; omega
theorem xor_i64 (a b : Int) (ha0 : 0 ≤ a) (ha : a < 4611686018427387904) (hb0 : 0 ≤ b) (hb : b < 4611686018427387904) : 0 ≤ bits .xor .i64 a b := by
  obtain ⟨x, rfl⟩ := Int.eq_ofNat_of_zero_le ha0
  obtain ⟨y, rfl⟩ := Int.eq_ofNat_of_zero_le hb0
  have hx : x ^^^ y < 2 ^ 62 := Nat.xor_lt_two_pow (by omega) (by omega)
  have h1 : (BitVec.ofInt 64 (x : Int)).toNat = x := by
    rw [BitVec.ofInt_natCast, BitVec.toNat_ofNat]; exact Nat.mod_eq_of_lt (by omega)
  have h2 : (BitVec.ofInt 64 (y : Int)).toNat = y := by
    rw [BitVec.ofInt_natCast, BitVec.toNat_ofNat]; exact Nat.mod_eq_of_lt (by omega)
  show 0 ≤ IntKind.i64.wrap ((BitVec.ofInt 64 (x : Int) ^^^ BitVec.ofInt 64 (y : Int)).toNat : Int)
  rw [BitVec.toNat_xor, h1, h2, wrap_in _ (by omega) (by omega)]
  omega
theorem set1_grown (w : World) (b : Nat) (v : Value) : w.grownBy (w.setCell ⟨b, 1, none⟩ v) (some b) :=
  ⟨rfl, rfl, rfl, by simp, fun k _ hne => Below.heap_setCell w ⟨b, 1, none⟩ v k (fun e => hne (by rw [e]))⟩
theorem Rd.step {w : World} {b : Nat} {a : Option Addr} {len cap p : Nat} (h : Rd w b a len cap p) : Rd (w.setCell ⟨b, 1, none⟩ (.int .i64 ((p : Int) + 1))) b a len cap (p + 1) where
  c0 := by rw [World.cell?_setCell_other (h := by simp)]; exact h.c0
  c1 := by rw [World.cell?_setCell_same' _ _ _ (by rw [h.c1]; rfl)]; simp
  f1 := by rw [World.frozen?_setCell]; exact h.f1
  l := h.l
  d := by
    rcases h.d with h0 | ⟨blk, off, ha, hb, hc⟩
    · exact .inl h0
    · refine .inr ⟨blk, off, ha, hb, fun k hk => ?_⟩
      obtain ⟨c, h1, h2⟩ := hc k hk
      exact ⟨c, h1, (World.cell?_of_block (w := w) (Below.heap_setCell w ⟨b, 1, none⟩ _ blk (by simp; omega))).trans h2⟩
theorem Rd.drewN {w : World} {b : Nat} {a : Option Addr} {len cap p : Nat} (h : Rd w b a len cap p) (m : Nat) : Rd (w.drewN m) b a len cap p := ⟨h.c0, h.c1, h.f1, h.l, h.d⟩
theorem grown_drewN {w w' : World} {r : Option Nat} (h : w.grownBy w' r) (m : Nat) : w.grownBy (w'.drewN m) r := ⟨h.os, h.tape, h.output, h.size, h.block⟩
set_option maxRecDepth 100000 in
set_option maxHeartbeats 1000000 in
theorem pick_any (w : World) (b : Nat) (a : Option Addr) (len cap p : Nat) (h : Rd w b a len cap p) (hp : p ≤ 1048576) (n : Int) (h1 : 1 ≤ n) (h2 : n ≤ 1048576) :
    Calls Tryz.prog 56 #[.pointer (some ⟨b, 0, none⟩), .int .i64 n] w fun e w' => ∃ r : Nat, (r : Int) < n ∧ e = .returned (.int .i64 r) ∧ Rd w' b a len cap (p + 1) ∧ w.grownBy w' (some b) := by
  have hst := hid h.step
  have hgr := hid (set1_grown w b (.int .i64 ((p : Int) + 1)))
  obtain ⟨c0, c1, f1, l, d⟩ := h
  have D := hid d
  clear d
  by_cases hl : len = 0
  · subst hl
    go_enter Tryz.func56, Tryz.ntmps56
    go_wp2
    go_ret
    exact ⟨0, by omega, rfl, unhid hst, unhid hgr⟩
  · have hl0 : ((len : Int) == 0) = false := by rw [beq_eq_false_iff_ne]; omega
    obtain ⟨blk, off, rfl, hb, hc⟩ := (unhid D).resolve_left hl
    by_cases hk : p < len
    · obtain ⟨c, hc1, hc2⟩ := hc p hk
      have Hc := hid hc
      clear hc
      go_enter Tryz.func56, Tryz.ntmps56
      go_wp2
      go_ret
      refine ⟨((c : Int) % n).toNat, ?_, ?_, unhid hst, unhid hgr⟩
      · have := Int.emod_lt_of_pos (c : Int) (show 0 < n by omega); have := Int.emod_nonneg (c : Int) (show n ≠ 0 by omega); omega
      · rw [Int.toNat_of_nonneg (Int.emod_nonneg _ (by omega))]; rfl
    · obtain ⟨q, hq, hql⟩ : ∃ q : Nat, (p : Int).tmod len = q ∧ q < len := ⟨p % len, by rw [Int.tmod_eq_emod_of_nonneg (by omega)]; simp, Nat.mod_lt _ (by omega)⟩
      obtain ⟨q2, hq2, hql2⟩ : ∃ q2 : Nat, ((p : Int) * 7 + 3).tmod len = q2 ∧ q2 < len := ⟨(p * 7 + 3) % len, by rw [Int.tmod_eq_emod_of_nonneg (by omega)]; simp, Nat.mod_lt _ (by omega)⟩
      obtain ⟨d, hd, hdl⟩ : ∃ d : Nat, (p : Int).tdiv len = d ∧ d ≤ p := ⟨p / len, by rw [Int.tdiv_eq_ediv_of_nonneg (by omega)]; simp, Nat.div_le_self _ _⟩
      obtain ⟨x, hx1, hx2⟩ := hc _ hql
      obtain ⟨y, hy1, hy2⟩ := hc _ hql2
      have Hc := hid hc
      clear hc
      have w1 := wrap_in ((p : Int) * 7) (by omega) (by omega)
      have w2 := wrap_in ((p : Int) * 7 + 3) (by omega) (by omega)
      have e1 := wrap_in ((x : Int) * 131) (by omega) (by omega)
      have e2 := wrap_in ((y : Int) * 1117) (by omega) (by omega)
      have e3 := wrap_in ((x : Int) * 131 + (y : Int) * 1117) (by omega) (by omega)
      have e4 := wrap_in ((p : Int) * 29) (by omega) (by omega)
      have e5 := wrap_in ((x : Int) * 131 + (y : Int) * 1117 + (p : Int) * 29) (by omega) (by omega)
      have e6 := wrap_in ((d : Int) * 53) (by omega) (by omega)
      have e7 := wrap_in ((x : Int) * 131 + (y : Int) * 1117 + (p : Int) * 29 + (d : Int) * 53) (by omega) (by omega)
      go_enter Tryz.func56, Tryz.ntmps56
      go_wp2
      refine wp_region_quiet_lit (by kernel_rfl) (by kernel_rfl) ?_
      repeat (quiet_step (fail))
      refine wpQuiet_nil ?_
      intro _ hw'
      obtain ⟨nq, hw''⟩ := hw'
      subst hw''
      go_wp2
      go_ret
      have hx0 := xor_i64 ((x : Int) * 131 + (y : Int) * 1117 + (p : Int) * 29 + (d : Int) * 53) (((x : Int) * 131 + (y : Int) * 1117 + (p : Int) * 29 + (d : Int) * 53) / 64) (by omega) (by omega) (by omega) (by omega)
      generalize hX : bits .xor .i64 ((x : Int) * 131 + (y : Int) * 1117 + (p : Int) * 29 + (d : Int) * 53) (((x : Int) * 131 + (y : Int) * 1117 + (p : Int) * 29 + (d : Int) * 53) / 64) = X at hx0 ⊢
      have t0 : X.tmod n = X % n := Int.tmod_eq_emod_of_nonneg hx0
      have t1 := Int.emod_lt_of_pos X (show 0 < n by omega)
      have t2 := Int.emod_nonneg X (show n ≠ 0 by omega)
      refine ⟨(X % n).toNat, by omega, ?_, (unhid hst).drewN _, grown_drewN (unhid hgr) _⟩
      rw [Int.toNat_of_nonneg t2, ← t0]
      rfl
end Go.Proofs.YtoihhlkidlapmaaGreat

namespace Go.Proofs.YtoihhlkidlapmaaGreat
open Go.RowKit
theorem grown_trans {x y z : World} {b : Nat} (h : x.grownBy y (some b)) (g : y.grownBy z (some b)) : x.grownBy z (some b) :=
  ⟨g.os.trans h.os, g.tape.trans h.tape, g.output.trans h.output, Nat.le_trans h.size g.size, fun k hk hne => (g.block k (Nat.lt_of_lt_of_le hk h.size) hne).trans (h.block k hk hne)⟩
theorem grown_below {x y : World} {b B : Nat} (h : x.grownBy y (some b)) (hB : B ≤ b) (hs : B ≤ x.heap.size) : Below B x y :=
  ⟨h.os, h.tape, h.output, h.size, fun k hk => h.block k (by omega) (fun e => by cases e; omega)⟩
theorem Rd.lt {w : World} {b : Nat} {a : Option Addr} {len cap p : Nat} (h : Rd w b a len cap p) : b < w.heap.size := by
  have h0 := h.c0
  unfold World.cell? at h0
  cases hh : w.heap[b]? with
  | none => simp [hh] at h0
  | some o => exact (Array.getElem?_eq_some_iff.1 hh).1
theorem Rd.of_below {w w' : World} {b : Nat} {a : Option Addr} {len cap p : Nat} (h : Rd w b a len cap p) (hB : Below w.heap.size w w') : Rd w' b a len cap p where
  c0 := (hB.cell (p := ⟨b, 0, none⟩) h.lt).trans h.c0
  c1 := (hB.cell (p := ⟨b, 1, none⟩) h.lt).trans h.c1
  f1 := (hB.frozen (p := ⟨b, 1, none⟩) h.lt).trans h.f1
  l := h.l
  d := by
    rcases h.d with h0 | ⟨blk, off, ha, hb, hc⟩
    · exact .inl h0
    · refine .inr ⟨blk, off, ha, hb, fun k hk => ?_⟩
      obtain ⟨c, h1, h2⟩ := hc k hk
      exact ⟨c, h1, (hB.cell (p := ⟨blk, off + k, none⟩) (by have := h.lt; simp; omega)).trans h2⟩
theorem Rd.alloc {w : World} {b : Nat} {a : Option Addr} {len cap p : Nat} (h : Rd w b a len cap p) (o : Obj) : Rd (w.alloc o) b a len cap p :=
  h.of_below ((Below.refl _ w).alloc (Nat.le_refl _) o)
set_option maxRecDepth 100000 in
set_option maxHeartbeats 1000000 in
theorem of_any (P : ByteArray → Prop) (w : World) (b : Nat) (a : Option Addr) (len cap p : Nat) (h : Rd w b a len cap p) (hp : p ≤ 1048576) (g m c : Nat) (hg : g ≠ b) (h1 : 1 ≤ m) (h2 : m ≤ 1048576)
    (hl : ∀ k, k < m → ∃ x, P x ∧ w.cell? ⟨g, k, none⟩ = some (.string x)) :
    Calls Tryz.prog 57 #[.pointer (some ⟨b, 0, none⟩), .slice (some ⟨g, 0, none⟩) m c] w fun e w' => ∃ x, P x ∧ e = .returned (.string x) ∧ Rd w' b a len cap (p + 1) ∧ w.grownBy w' (some b) := by
  have H := hid h
  have Hl := hid hl
  have hlt : g < w.heap.size := by
    obtain ⟨x, _, hx⟩ := hl 0 (by omega)
    unfold World.cell? at hx
    cases hh : w.heap[g]? with
    | none => simp [hh] at hx
    | some o => exact (Array.getElem?_eq_some_iff.1 hh).1
  clear h hl
  go_enter Tryz.func57, Tryz.ntmps57
  go_wp2_with fail
  refine (pick_any w b a len cap p (unhid H) hp m (by omega) (by omega)).mono ?_
  rintro e w1 ⟨r, hr, rfl, hR, hG⟩
  have hr' : r < m := by omega
  obtain ⟨x, hP, hx⟩ := unhid Hl r hr'
  have hx1 : w1.cell? ⟨g, r, none⟩ = some (.string x) := (World.cell?_of_block (w := w) (hG.block g hlt (fun e => hg (by cases e; rfl)))).trans hx
  have HR := hid hR
  have HG := hid hG
  clear hR hG hx
  go_wp2_with fail
  go_ret
  exact ⟨x, hP, rfl, unhid HR, unhid HG⟩
def short (x : ByteArray) : Prop := x.size ≤ 100
def shortV : Value → Bool
  | .string x => decide (x.size ≤ 100)
  | _ => false
theorem row_short (w : World) (cs : Array Value) (t : TypeId) (h : cs.toList.all shortV = true) (k : Nat) (hk : k < cs.size) : ∃ x, short x ∧ (w.alloc (.cells cs t)).cell? ⟨w.heap.size, k, none⟩ = some (.string x) := by
  have h1 : (w.alloc (.cells cs t)).cell? ⟨w.heap.size, k, none⟩ = cs[k]? := by
    have := World.alloc_heap_new w (.cells cs t)
    unfold World.cell?
    dsimp only
    rw [this]
    simp
  rw [List.all_eq_true] at h
  have h2 := h cs[k] (by simp)
  rw [h1, Array.getElem?_eq_getElem hk]
  revert h2
  cases cs[k] <;> simp [shortV, short]
def Code (w : World) (B : Nat) (a : Option Addr) (len : Nat) : Prop :=
  len = 0 ∨ ∃ blk off, a = some ⟨blk, off, none⟩ ∧ blk < B ∧ ∀ k, k < len → ∃ c : Nat, c < 256 ∧ w.cell? ⟨blk, off + k, none⟩ = some (.int .u8 c)
theorem Code.less {w : World} {B : Nat} {a : Option Addr} {len m : Nat} (h : Code w B a len) (hm : m ≤ len) : Code w B a m := by
  rcases h with h | ⟨blk, off, ha, hb, hc⟩
  · exact .inl (by omega)
  · exact .inr ⟨blk, off, ha, hb, fun k hk => hc k (by omega)⟩
theorem rd_new (w : World) (a : Option Addr) (len cap : Nat) (t : TypeId) (h : Code w w.heap.size a len) (hl : len ≤ 2000) : Rd (w.alloc (.cells #[.slice a len cap, .int .i64 0] t)) w.heap.size a len cap 0 := by
  have hn := World.alloc_heap_new w (.cells #[.slice a len cap, .int .i64 0] t)
  refine ⟨?_, ?_, ?_, hl, ?_⟩
  · unfold World.cell?; dsimp only; rw [hn]; simp
  · unfold World.cell?; dsimp only; rw [hn]; simp
  · unfold World.frozen?; dsimp only; rw [hn]; simp
  · rcases h with h | ⟨blk, off, ha, hb, hc⟩
    · exact .inl h
    · refine .inr ⟨blk, off, ha, hb, fun k hk => ?_⟩
      obtain ⟨c, h1, h2⟩ := hc k hk
      exact ⟨c, h1, (((Below.refl w.heap.size w).alloc (Nat.le_refl _) _).cell (p := ⟨blk, off + k, none⟩) hb).trans h2⟩
set_option maxRecDepth 100000 in
set_option maxHeartbeats 1000000 in
theorem l1Open_any (w : World) (a : Option Addr) (len cap : Nat) (h : Code w w.heap.size a len) (hl : len ≤ 1048576) (hc : len ≤ cap) :
    Calls Tryz.prog 55 #[.slice a len cap] w fun e w' => e = .returned (.pointer (some ⟨w.heap.size, 0, none⟩)) ∧ (∃ l' c', Rd w' w.heap.size a l' c' 0) ∧ Below w.heap.size w w' := by
  have H := hid h
  clear h
  by_cases h2 : (2000 : Int) < len
  · go_enter Tryz.func55, Tryz.ntmps55
    go_wp2
    go_ret
    exact ⟨rfl, ⟨_, _, rd_new w a 2000 cap _ ((unhid H).less (by omega)) (Nat.le_refl _)⟩, (Below.refl _ _).alloc (Nat.le_refl _) _⟩
  · go_enter Tryz.func55, Tryz.ntmps55
    go_wp2
    go_ret
    exact ⟨rfl, ⟨_, _, rd_new w a len cap _ (unhid H) (by omega)⟩, (Below.refl _ _).alloc (Nat.le_refl _) _⟩
end Go.Proofs.YtoihhlkidlapmaaGreat

namespace Go.Proofs.YtoihhlkidlapmaaGreat
open Go.RowKit
def niceB (l : List UInt8) : Bool := decide (l.length ≤ 100) && (l.take 2 != [102, 114] && l.take 2 != [110, 101])
def nice (x : ByteArray) : Prop := niceB x.data.toList = true
def niceV : Value → Bool
  | .string x => niceB x.data.toList
  | _ => false
theorem nice_short {x : ByteArray} (h : nice x) : x.size ≤ 100 := by
  unfold nice niceB at h
  simp only [Bool.and_eq_true, decide_eq_true_eq] at h
  have := h.1
  simpa using this
theorem row_nice (w : World) (cs : Array Value) (t : TypeId) (h : cs.toList.all niceV = true) (k : Nat) (hk : k < cs.size) : ∃ x, nice x ∧ (w.alloc (.cells cs t)).cell? ⟨w.heap.size, k, none⟩ = some (.string x) := by
  have h1 : (w.alloc (.cells cs t)).cell? ⟨w.heap.size, k, none⟩ = cs[k]? := by
    have := World.alloc_heap_new w (.cells cs t)
    unfold World.cell?
    dsimp only
    rw [this]
    simp
  rw [List.all_eq_true] at h
  have h2 := h cs[k] (by simp)
  rw [h1, Array.getElem?_eq_getElem hk]
  revert h2
  cases cs[k] <;> simp [niceV, nice]
set_option maxRecDepth 100000 in
set_option maxHeartbeats 1000000 in
theorem l11Path_nice (w : World) (b : Nat) (a : Option Addr) (len cap p : Nat) (h : Rd w b a len cap p) (hp : p ≤ 1048576) :
    Calls Tryz.prog 208 #[.pointer (some ⟨b, 0, none⟩)] w fun e w' => ∃ x, nice x ∧ e = .returned (.string x) ∧ Rd w' b a len cap (p + 1) ∧ w.grownBy w' (some b) := by
  have H := hid h
  clear h
  go_enter Tryz.func208, Tryz.ntmps208
  go_wp2_with fail
  have hb := (unhid H).lt
  refine (of_any nice _ b a len cap p ?h1 hp w.heap.size 12 12 ?h2 (by omega) (by omega) ?h5).mono ?_
  case h1 => exact (unhid H).alloc _
  case h2 => omega
  case h5 => exact fun k hk => row_nice w _ _ (by kernel_rfl) k hk
  rintro e w1 ⟨x, hx, rfl, hR, hG⟩
  have hG' := grown_trans (World.grownBy_alloc w _ (some b)) hG
  have HR := hid hR
  have HG := hid hG'
  clear hR hG hG'
  go_wp2_with fail
  go_ret
  exact ⟨x, hx, rfl, unhid HR, unhid HG⟩
set_option maxRecDepth 100000 in
set_option maxHeartbeats 1000000 in
theorem l11AnyPath_nice (w : World) (b : Nat) (a : Option Addr) (len cap p : Nat) (h : Rd w b a len cap p) (hp : p ≤ 1000000) :
    Calls Tryz.prog 136 #[.pointer (some ⟨b, 0, none⟩)] w fun e w' => ∃ x, nice x ∧ e = .returned (.string x) ∧ Rd w' b a len cap (p + 1 + 1) ∧ w.grownBy w' (some b) := by
  have H := hid h
  clear h
  go_enter Tryz.func136, Tryz.ntmps136
  go_wp2_with fail
  refine (pick_any w b a len cap p (unhid H) (by omega) 6 (by omega) (by omega)).mono ?_
  rintro e w1 ⟨r, hr, rfl, hR, hG⟩
  have HR := hid hR
  have HG := hid hG
  clear hR hG
  by_cases h0 : r = 0
  · have h0' : ((r : Int) == 0) = true := by simp [h0]
    go_wp2_with fail
    have hb := (unhid HR).lt
    refine (of_any nice _ b a len cap (p + 1) ?h1 (by omega) w1.heap.size 12 12 ?h2 (by omega) (by omega) ?h5).mono ?_
    case h1 => exact (unhid HR).alloc _
    case h2 => omega
    case h5 => exact fun k hk => row_nice w1 _ _ (by kernel_rfl) k hk
    rintro e w2 ⟨x, hx, rfl, hR, hG⟩
    have hG' := grown_trans (unhid HG) (grown_trans (World.grownBy_alloc w1 _ (some b)) hG)
    have HR2 := hid hR
    have HG2 := hid hG'
    clear hR hG hG'
    go_wp2_with fail
    go_ret
    exact ⟨x, hx, rfl, unhid HR2, unhid HG2⟩
  · have h0' : ((r : Int) == 0) = false := by rw [beq_eq_false_iff_ne]; omega
    go_wp2_with fail
    refine (l11Path_nice w1 b a len cap (p + 1) (unhid HR) (by omega)).mono ?_
    rintro e w2 ⟨x, hx, rfl, hR, hG⟩
    have hG' := grown_trans (unhid HG) hG
    have HR2 := hid hR
    have HG2 := hid hG'
    clear hR hG hG'
    go_wp2_with fail
    go_ret
    exact ⟨x, hx, rfl, unhid HR2, unhid HG2⟩
set_option maxRecDepth 100000 in
set_option maxHeartbeats 1000000 in
theorem one_any (P : Int → Prop) (w : World) (b : Nat) (a : Option Addr) (len cap p : Nat) (h : Rd w b a len cap p) (hp : p ≤ 1048576) (g m c : Nat) (hg : g ≠ b) (h1 : 1 ≤ m) (h2 : m ≤ 1048576)
    (hl : ∀ k, k < m → ∃ x, P x ∧ w.cell? ⟨g, k, none⟩ = some (.int .i64 x)) :
    Calls Tryz.prog 225 #[.pointer (some ⟨b, 0, none⟩), .slice (some ⟨g, 0, none⟩) m c] w fun e w' => ∃ x, P x ∧ e = .returned (.int .i64 x) ∧ Rd w' b a len cap (p + 1) ∧ w.grownBy w' (some b) := by
  have H := hid h
  have Hl := hid hl
  have hlt : g < w.heap.size := by
    obtain ⟨x, _, hx⟩ := hl 0 (by omega)
    unfold World.cell? at hx
    cases hh : w.heap[g]? with
    | none => simp [hh] at hx
    | some o => exact (Array.getElem?_eq_some_iff.1 hh).1
  clear h hl
  go_enter Tryz.func225, Tryz.ntmps225
  go_wp2_with fail
  refine (pick_any w b a len cap p (unhid H) hp m (by omega) (by omega)).mono ?_
  rintro e w1 ⟨r, hr, rfl, hR, hG⟩
  have hr' : r < m := by omega
  obtain ⟨x, hP, hx⟩ := unhid Hl r hr'
  have hx1 : w1.cell? ⟨g, r, none⟩ = some (.int .i64 x) := (World.cell?_of_block (w := w) (hG.block g hlt (fun e => hg (by cases e; rfl)))).trans hx
  have HR := hid hR
  have HG := hid hG
  clear hR hG hx
  go_wp2_with fail
  go_ret
  exact ⟨x, hP, rfl, unhid HR, unhid HG⟩
def intV (P : Int → Bool) : Value → Bool
  | .int .i64 x => P x
  | _ => false
theorem row_int (P : Int → Bool) (w : World) (cs : Array Value) (t : TypeId) (B : Nat) (hB : B = w.heap.size) (h : cs.toList.all (intV P) = true) (k : Nat) (hk : k < cs.size) : ∃ x, P x = true ∧ (w.alloc (.cells cs t)).cell? ⟨B, k, none⟩ = some (.int .i64 x) := by
  subst hB
  have h1 : (w.alloc (.cells cs t)).cell? ⟨w.heap.size, k, none⟩ = cs[k]? := by
    have := World.alloc_heap_new w (.cells cs t)
    unfold World.cell?
    dsimp only
    rw [this]
    simp
  rw [List.all_eq_true] at h
  have h2 := h cs[k] (by simp)
  rw [h1, Array.getElem?_eq_getElem hk]
  revert h2
  unfold intV
  split <;> simp_all
theorem ba_eq {x y : ByteArray} (h : x.data.toList = y.data.toList) : x = y := by
  obtain ⟨⟨l⟩⟩ := x; obtain ⟨⟨m⟩⟩ := y; simp at h; subst h; rfl
def rep (s : ByteArray) (n : Nat) : ByteArray := ⟨⟨(List.replicate n s.data.toList).flatten⟩⟩
theorem rep_add (s : ByteArray) (a b : Nat) : rep s a ++ rep s b = rep s (a + b) := by
  apply ba_eq
  rw [ByteArray.data_append, Array.toList_append]
  show (List.replicate a s.data.toList).flatten ++ (List.replicate b s.data.toList).flatten = (List.replicate (a + b) s.data.toList).flatten
  rw [← List.flatten_append, List.replicate_append_replicate]
theorem rep_size (s : ByteArray) (a : Nat) : (rep s a).size = a * s.size := by
  show (List.replicate a s.data.toList).flatten.length = a * s.data.toList.length
  simp
theorem rep_one (s : ByteArray) : rep s 1 = s := by
  apply ba_eq
  show (List.replicate 1 s.data.toList).flatten = s.data.toList
  simp
set_option maxRecDepth 100000 in
set_option maxHeartbeats 1000000 in
theorem many_rep (s : ByteArray) (N : Nat) (hs : s.size ≤ 10) (hN : N ≤ 100) (w : World) : Calls Tryz.prog 163 #[.string s, .int .i64 N] w fun e w' => e = .returned (.string (rep s N)) ∧ w' = w := by
  have R1 := hid (rep_one s)
  have z0 := rep_size s
  have hz : ∀ n, n ≤ 200 → (rep s n).size ≤ 2000 := fun n hn => by rw [rep_size]; exact Nat.le_trans (Nat.mul_le_mul hn hs) (by omega)
  have HZ := hid hz
  clear z0 hz
  go_enter Tryz.func163, Tryz.ntmps163
  go_wp2_with fail
  go_loop [0, 1, 5] (fun t n o => ∃ a b k : Nat, t = .string (rep s b) ∧ n = .int .i64 k ∧ o = .string (rep s a) ∧ a + b * k = N ∧ b ≤ 200 ∧ 1 ≤ b ∧ (0 < k → b ≤ N)) (fun _ n _ => (intOf n).toNat)
  case atStart => exact ⟨0, 1, N, by rw [unhid R1], rfl, rfl, by omega, by omega, by omega, fun h => h⟩
  case round =>
    obtain ⟨a, b, k, rfl, rfl, rfl, hs, hb, hb1, hbk⟩ := hrel
    have hkN : k ≤ N := by have := Nat.le_mul_of_pos_left k (show 0 < b by omega); omega
    have ea := hid (rep_add s a b)
    have eb := hid (rep_add s b b)
    by_cases hk : 0 < k
    · have hbN := hbk hk
      have haN : a ≤ N := by omega
      have za := unhid HZ a (by omega)
      have zb := unhid HZ b (by omega)
      have hk0 : (0 : Int) < k := by omega
      by_cases ho : k % 2 = 1
      · have ho' : ((k : Int) % 2 == 1) = true := by simp; omega
        obtain ⟨q, rfl⟩ : ∃ q, k = 2 * q + 1 := ⟨k / 2, by omega⟩
        have e1 : b * (2 * q + 1) = 2 * (b * q) + b := by rw [Nat.mul_add, Nat.mul_one, ← Nat.mul_assoc, Nat.mul_comm b 2, Nat.mul_assoc]
        have e2 : (b + b) * q = 2 * (b * q) := by rw [← Nat.two_mul, Nat.mul_assoc]
        have hq : 0 < q → b ≤ b * q := fun h => Nat.le_mul_of_pos_right b h
        have E := hid (And.intro e1 (And.intro e2 hq))
        clear e1 e2 hq
        go_wp2_with fail
        go_round
        case rel => obtain ⟨e1, e2, hq⟩ := unhid E; exact ⟨a + b, b + b, q, by rw [unhid eb], by congr 1 <;> omega, by rw [unhid ea], by omega, by omega, by omega, fun h => by have := hq h; omega⟩
        case measure => simp [intOf]; omega
      · have ho' : ((k : Int) % 2 == 1) = false := by simp; omega
        obtain ⟨q, rfl⟩ : ∃ q, k = 2 * q := ⟨k / 2, by omega⟩
        have e1 : b * (2 * q) = 2 * (b * q) := by rw [← Nat.mul_assoc, Nat.mul_comm b 2, Nat.mul_assoc]
        have e2 : (b + b) * q = 2 * (b * q) := by rw [← Nat.two_mul, Nat.mul_assoc]
        have hq : 0 < q → b ≤ b * q := fun h => Nat.le_mul_of_pos_right b h
        have E := hid (And.intro e1 (And.intro e2 hq))
        clear e1 e2 hq
        go_wp2_with fail
        go_round
        case rel => obtain ⟨e1, e2, hq⟩ := unhid E; exact ⟨a, b + b, q, by rw [unhid eb], by congr 1 <;> omega, rfl, by omega, by omega, by omega, fun h => by have := hq h; omega⟩
        case measure => simp [intOf]; omega
    · have hk0 : ¬ (0 : Int) < k := by omega
      have : k = 0 := by omega
      subst this
      have : a = N := by omega
      subst this
      go_wp2_with fail
      go_ret
      exact ⟨rfl, rfl⟩
theorem row_short2 (w : World) (cs : Array Value) (t : TypeId) (B : Nat) (hB : B = w.heap.size) (h : cs.toList.all shortV = true) (k : Nat) (hk : k < cs.size) : ∃ x, short x ∧ (w.alloc (.cells cs t)).cell? ⟨B, k, none⟩ = some (.string x) := by
  subst hB; exact row_short w cs t h k hk
theorem texts_short (y : ByteArray) (hy : y.size ≤ 100) : (#[Value.string ⟨#[]⟩, .string ⟨#[111, 110, 101, 10]⟩, .string ⟨#[111, 110, 101, 10, 116, 119, 111, 10, 116, 104, 114, 101, 101, 10]⟩, .string ⟨#[110, 111, 32, 101, 110, 100]⟩, .string ⟨#[97, 10, 98, 10, 99, 10, 100, 10, 101, 10, 102, 10, 103, 10]⟩, .string y] : Array Value).toList.all shortV = true := by
  have : decide (y.size ≤ 100) = true := decide_eq_true hy
  simp only [List.all_cons, List.all_nil, Bool.and_true, shortV, this]
  decide
set_option maxRecDepth 100000 in
set_option maxHeartbeats 1000000 in
theorem l11Text_any (w : World) (b : Nat) (a : Option Addr) (len cap p : Nat) (h : Rd w b a len cap p) (hp : p ≤ 1048576) :
    Calls Tryz.prog 261 #[.pointer (some ⟨b, 0, none⟩)] w fun e w' => ∃ x, short x ∧ e = .returned (.string x) ∧ Rd w' b a len cap (p + 1) ∧ w.grownBy w' (some b) := by
  have H := hid h
  clear h
  have hz : (rep ⟨#[116]⟩ 80).size ≤ 100 := by rw [rep_size]; decide
  go_enter Tryz.func261, Tryz.ntmps261
  go_wp2_with fail
  refine (many_rep ⟨#[116]⟩ 80 (by decide) (by omega) w).mono ?_
  rintro e w0 ⟨rfl, rfl⟩
  generalize rep ⟨#[116]⟩ 80 = y at hz
  go_wp2_with fail
  have hb := (unhid H).lt
  refine (of_any short _ b a len cap p ?h1 hp w0.heap.size 6 6 ?h2 (by omega) (by omega) ?h5).mono ?_
  case h1 => exact (unhid H).alloc _
  case h2 => omega
  case h5 => exact fun k hk => row_short w0 _ _ (texts_short y hz) k hk
  rintro e w1 ⟨x, hx, rfl, hR, hG⟩
  have hG' := grown_trans (World.grownBy_alloc w0 _ (some b)) hG
  have HR := hid hR
  have HG := hid hG'
  clear hR hG hG'
  go_wp2_with fail
  go_ret
  exact ⟨x, hx, rfl, unhid HR, unhid HG⟩
end Go.Proofs.YtoihhlkidlapmaaGreat

namespace Go.Proofs.YtoihhlkidlapmaaGreat
open Go.RowKit
def niceE (e : Ent) : Prop := nice e.path ∧ short e.text
theorem grown_set' {x y : World} {b : Nat} (h : x.grownBy y (some b)) {p : Addr} (hp : x.heap.size ≤ p.block) (v : Value) : x.grownBy (y.setCell p v) (some b) :=
  ⟨h.os, h.tape, h.output, by simpa using h.size, fun k hk hne => (Below.heap_setCell y p v k (by omega)).trans (h.block k hk hne)⟩
theorem Rd.set' {w : World} {b : Nat} {a : Option Addr} {len cap p : Nat} (h : Rd w b a len cap p) {q : Addr} (hq : b < q.block) (v : Value) : Rd (w.setCell q v) b a len cap p where
  c0 := (World.cell?_of_block (w := w) (Below.heap_setCell w q v b (by omega))).trans h.c0
  c1 := (World.cell?_of_block (w := w) (Below.heap_setCell w q v b (by omega))).trans h.c1
  f1 := (World.frozen?_of_block (w := w) (Below.heap_setCell w q v b (by omega))).trans h.f1
  l := h.l
  d := by
    rcases h.d with h0 | ⟨blk, off, ha, hb, hc⟩
    · exact .inl h0
    · refine .inr ⟨blk, off, ha, hb, fun k hk => ?_⟩
      obtain ⟨c, h1, h2⟩ := hc k hk
      exact ⟨c, h1, (World.cell?_of_block (w := w) (Below.heap_setCell w q v blk (by omega))).trans h2⟩
set_option maxRecDepth 100000 in
set_option maxHeartbeats 4000000 in
theorem l11Entry_any (w : World) (b : Nat) (a : Option Addr) (len cap p : Nat) (h : Rd w b a len cap p) (hp : p ≤ 900000) :
    Calls Tryz.prog 223 #[.pointer (some ⟨b, 0, none⟩)] w fun x w' => ∃ e : Ent, niceE e ∧ x = .returned (.agg e.vals) ∧ (∃ p', p' ≤ p + 4 ∧ Rd w' b a len cap p') ∧ w.grownBy w' (some b) := by
  have H := hid (h.alloc (.cells #[.string ⟨#[]⟩, .int .i64 0, .int .i64 0, .string ⟨#[]⟩] 57))
  have hbl := h.lt
  clear h
  go_enter Tryz.func223, Tryz.ntmps223
  go_wp2_with fail
  refine (l11Path_nice _ b a len cap p (unhid H) (by omega)).mono ?_
  rintro e w1 ⟨x, hx, rfl, hR, hG⟩
  have O0 : OneAt (w.alloc (.cells #[.string ⟨#[]⟩, .int .i64 0, .int .i64 0, .string ⟨#[]⟩] 57)) w.heap.size Ent.none := World.alloc_heap_new _ _
  have O1 := hid (O0.grown hG (by intro e; injection e; omega))
  have G1 := hid (grown_trans (World.grownBy_alloc w _ (some b)) hG)
  have R1 := hid hR
  have hz1 : w.heap.size + 1 ≤ w1.heap.size := by have := hG.size; simpa using this
  clear hR hG O0 H
  go_wp2_with fail
  refine (one_any (fun k => (decide (1 ≤ k) && decide (k ≤ 3)) = true) _ b a len cap (p + 1) ((unhid R1).alloc _) (by omega) w1.heap.size 5 5 (by have := (unhid R1).lt; omega) (by omega) (by omega) ?h5).mono ?_
  case h5 => exact fun k hk => row_int (fun k => decide (1 ≤ k) && decide (k ≤ 3)) _ _ _ _ rfl (by kernel_rfl) k hk
  rintro e w2 ⟨kd, hkd, rfl, hR, hG0⟩
  have hG := grown_trans (World.grownBy_alloc w1 _ (some b)) hG0
  have O2 := hid ((unhid O1).grown hG (by intro e; injection e; omega))
  have G2 := hid (grown_trans (unhid G1) hG)
  have R2 := hid hR
  have hz2 : w.heap.size + 2 ≤ w2.heap.size := by have := hG0.size; simp at this; omega
  clear hR hG hG0 O1 G1 R1
  go_wp2_with fail
  refine (pick_any w2 b a len cap _ (unhid R2) (by omega) 8 (by omega) (by omega)).mono ?_
  rintro e w3 ⟨md, hmd, rfl, hR, hG⟩
  have O3 := hid (((unhid O2).grown hG (by intro e; injection e; omega)).alloc (.cells #[.string x, .int .i64 kd, .int .i64 md, .string ⟨#[]⟩] 57))
  have N3 := hid (show OneAt (w3.alloc (.cells #[.string x, .int .i64 kd, .int .i64 md, .string ⟨#[]⟩] 57)) w3.heap.size ⟨x, kd, md, ⟨#[]⟩⟩ from World.alloc_heap_new _ _)
  have G3 := hid (grown_trans (grown_trans (unhid G2) hG) (World.grownBy_alloc w3 (.cells #[.string x, .int .i64 kd, .int .i64 md, .string ⟨#[]⟩] 57) (some b)))
  have R3 := hid (hR.alloc (.cells #[.string x, .int .i64 kd, .int .i64 md, .string ⟨#[]⟩] 57))
  have hz3 : w.heap.size + 2 ≤ w3.heap.size := Nat.le_trans hz2 hG.size
  have P3 := hid (And.intro ((unhid O2).grown hG (by intro e; injection e; omega)) (And.intro (grown_trans (unhid G2) hG) hR))
  clear hR hG O2 G2 R2
  have hne' : ¬ w3.heap.size = w.heap.size := by omega
  have hne2 : ¬ w.heap.size = w3.heap.size := by omega
  have hk3 : kd = 1 ∨ kd = 2 ∨ kd = 3 := by simp only [Bool.and_eq_true, decide_eq_true_eq] at hkd; omega
  clear hkd
  obtain ⟨⟨d0, d1, d2, d3⟩, g0, g1, g2, g3⟩ := four_cells (unhid N3)
  obtain ⟨⟨c0, c1, c2, c3⟩, f0, f1, f2, f3⟩ := four_cells (unhid O3)
  rcases hk3 with rfl | rfl | rfl
  · go_wp2_with fail
    refine bodyPost_ret (v := .agg #[.string x, .int .i64 1, .int .i64 md, .string ⟨#[]⟩]) (by simp [results, Tryz.results223, go_sem, World.cell?_setCell_same', c0, c1, c2, c3]) rfl ⟨⟨x, 1, md, ⟨#[]⟩⟩, ⟨hx, (by unfold short; decide : short ⟨#[]⟩)⟩, rfl, ⟨_, ?_, (((((unhid R3).set' ?_ _).set' ?_ _).set' ?_ _).set' ?_ _)⟩, grown_set' (grown_set' (grown_set' (grown_set' (unhid G3) ?_ _) ?_ _) ?_ _) ?_ _⟩
    all_goals (try dsimp only); omega
  · go_wp2_with fail
    clear c0 c1 c2 c3 f0 f1 f2 f3 d0 d1 d2 d3 g0 g1 g2 g3
    refine (l11Text_any _ b a len cap _ (unhid R3) (by omega)).mono ?_
    rintro e w4 ⟨y, hy, rfl, hR, hG⟩
    have hz4 := hG.size
    simp only [World.size_alloc] at hz4
    have O4 := hid ((unhid O3).grown hG (by intro e; injection e; omega))
    have N4 := hid ((unhid N3).grown hG (by intro e; injection e; omega))
    have G4 := hid (grown_trans (unhid G3) hG)
    have R4 := hid hR
    clear hR hG O3 N3 G3 R3
    obtain ⟨⟨d0, d1, d2, d3⟩, g0, g1, g2, g3⟩ := four_cells (unhid N4)
    obtain ⟨⟨c0, c1, c2, c3⟩, f0, f1, f2, f3⟩ := four_cells (unhid O4)
    go_wp2_with fail
    refine bodyPost_ret (v := .agg #[.string x, .int .i64 2, .int .i64 md, .string y]) (by simp [results, Tryz.results223, go_sem, World.cell?_setCell_same', c0, c1, c2, c3]) rfl ⟨⟨x, 2, md, y⟩, ⟨hx, hy⟩, rfl, ⟨_, ?_, (((((unhid R4).set' ?_ _).set' ?_ _).set' ?_ _).set' ?_ _).set' ?_ _⟩, grown_set' (grown_set' (grown_set' (grown_set' (grown_set' (unhid G4) ?_ _) ?_ _) ?_ _) ?_ _) ?_ _⟩
    all_goals (try dsimp only); omega
  · go_wp2_with fail
    clear c0 c1 c2 c3 f0 f1 f2 f3 d0 d1 d2 d3 g0 g1 g2 g3
    refine (l11Path_nice _ b a len cap _ ((unhid P3).2.2.alloc _) (by omega)).mono ?_
    rintro e w4 ⟨y, hy, rfl, hR, hG⟩
    have hz4 := hG.size
    simp only [World.size_alloc] at hz4
    have O4 := hid (((unhid P3).1.alloc _).grown hG (by intro e; injection e; omega))
    have N4 := hid ((show OneAt (w3.alloc (.cells #[.string x, .int .i64 3, .int .i64 0, .string ⟨#[]⟩] 57)) w3.heap.size ⟨x, 3, 0, ⟨#[]⟩⟩ from World.alloc_heap_new _ _).grown hG (by intro e; injection e; omega))
    have G4 := hid (grown_trans (grown_trans (unhid P3).2.1 (World.grownBy_alloc w3 _ (some b))) hG)
    have R4 := hid hR
    clear hR hG O3 N3 G3 R3
    obtain ⟨⟨d0, d1, d2, d3⟩, g0, g1, g2, g3⟩ := four_cells (unhid N4)
    obtain ⟨⟨c0, c1, c2, c3⟩, f0, f1, f2, f3⟩ := four_cells (unhid O4)
    go_wp2_with fail
    refine bodyPost_ret (v := .agg #[.string x, .int .i64 3, .int .i64 0, .string y]) (by simp [results, Tryz.results223, go_sem, World.cell?_setCell_same', c0, c1, c2, c3]) rfl ⟨⟨x, 3, 0, y⟩, ⟨hx, nice_short hy⟩, rfl, ⟨_, ?_, (((((unhid R4).set' ?_ _).set' ?_ _).set' ?_ _).set' ?_ _).set' ?_ _⟩, grown_set' (grown_set' (grown_set' (grown_set' (grown_set' (unhid G4) ?_ _) ?_ _) ?_ _) ?_ _) ?_ _⟩
    all_goals (try dsimp only); omega
end Go.Proofs.YtoihhlkidlapmaaGreat

namespace Go.Proofs.YtoihhlkidlapmaaGreat
open Go.RowKit
theorem odd_short (y : ByteArray) (hy : y.size ≤ 100) : (#[Value.string ⟨#[1]⟩, .string y, .string ⟨#[120]⟩, .string ⟨#[]⟩] : Array Value).toList.all shortV = true := by
  have : decide (y.size ≤ 100) = true := decide_eq_true hy
  simp only [List.all_cons, List.all_nil, Bool.and_true, shortV, this]
  decide
set_option maxRecDepth 100000 in
set_option maxHeartbeats 4000000 in
theorem l11AnyEntry_any (w : World) (b : Nat) (a : Option Addr) (len cap p : Nat) (h : Rd w b a len cap p) (hp : p ≤ 900000) :
    Calls Tryz.prog 162 #[.pointer (some ⟨b, 0, none⟩)] w fun x w' => ∃ e : Ent, niceE e ∧ x = .returned (.agg e.vals) ∧ (∃ p', p' ≤ p + 8 ∧ Rd w' b a len cap p') ∧ w.grownBy w' (some b) := by
  have H := hid (h.alloc (.cells #[.string ⟨#[]⟩, .int .i64 0, .int .i64 0, .string ⟨#[]⟩] 57))
  have hbl := h.lt
  clear h
  go_enter Tryz.func162, Tryz.ntmps162
  go_wp2_with fail
  refine (l11Entry_any _ b a len cap p (unhid H) (by omega)).mono ?_
  rintro e w1 ⟨⟨x, k, m, t⟩, hx, rfl, ⟨p1, hp1, hR⟩, hG⟩
  unfold Ent.vals
  dsimp only
  have hz1 : w.heap.size + 1 ≤ w1.heap.size := by have := hG.size; simpa using this
  have O0 : OneAt (w.alloc (.cells #[.string ⟨#[]⟩, .int .i64 0, .int .i64 0, .string ⟨#[]⟩] 57)) w.heap.size Ent.none := World.alloc_heap_new _ _
  have O1 := hid ((O0.grown hG (by intro e; injection e; omega)).alloc (.cells #[.string x, .int .i64 k, .int .i64 m, .string t] 57))
  have N1 := hid (show OneAt (w1.alloc (.cells #[.string x, .int .i64 k, .int .i64 m, .string t] 57)) w1.heap.size ⟨x, k, m, t⟩ from World.alloc_heap_new _ _)
  have G1 := hid (grown_trans (grown_trans (World.grownBy_alloc w _ (some b)) hG) (World.grownBy_alloc w1 (.cells #[.string x, .int .i64 k, .int .i64 m, .string t] 57) (some b)))
  have R1 := hid (hR.alloc (.cells #[.string x, .int .i64 k, .int .i64 m, .string t] 57))
  clear hR hG O0 H
  have hne' : ¬ w1.heap.size = w.heap.size := by omega
  have hne2 : ¬ w.heap.size = w1.heap.size := by omega
  have hzW : (w1.alloc (.cells #[.string x, .int .i64 k, .int .i64 m, .string t] 57)).heap.size = w1.heap.size + 1 := by simp
  go_wp2_with fail
  generalize w1.alloc (.cells #[.string x, .int .i64 k, .int .i64 m, .string t] 57) = W at *
  refine (pick_any W b a len cap p1 (unhid R1) (by omega) 14 (by omega) (by omega)).mono ?_
  rintro e w2 ⟨r, hr, rfl, hR, hG⟩
  have O2 := hid ((unhid O1).grown hG (by intro e; injection e; omega))
  have N2 := hid ((unhid N1).grown hG (by intro e; injection e; omega))
  have G2 := hid (grown_trans (unhid G1) hG)
  have R2 := hid hR
  have hz2 : w1.heap.size + 1 ≤ w2.heap.size := by have := hG.size; omega
  clear hR hG O1 N1 G1 R1 hzW
  have hr5 : r = 0 ∨ r = 1 ∨ r = 2 ∨ r = 3 ∨ 4 ≤ r := by omega
  rcases hr5 with rfl | rfl | rfl | rfl | hr4
  · go_wp2_with fail
    refine (l11AnyPath_nice _ b a len cap _ (unhid R2) (by omega)).mono ?_
    rintro e w3 ⟨y, hy, rfl, hR, hG0⟩
    have hG : w2.grownBy w3 (some b) := hG0
    clear hG0
    have O3 := hid ((unhid O2).grown hG (by intro e; injection e; omega))
    have N3 := hid ((unhid N2).grown hG (by intro e; injection e; omega))
    have G3 := hid (grown_trans (unhid G2) hG)
    have R3 := hid hR
    have hz3 := hG.size
    clear hR hG O2 N2 G2 R2
    obtain ⟨⟨d0, d1, d2, d3⟩, g0, g1, g2, g3⟩ := four_cells (unhid N3)
    obtain ⟨⟨c0, c1, c2, c3⟩, f0, f1, f2, f3⟩ := four_cells (unhid O3)
    dsimp only at d0 d1 d2 d3
    go_wp2_with fail
    refine bodyPost_ret (v := .agg #[.string y, .int .i64 k, .int .i64 m, .string t]) (by simp [results, Tryz.results162, go_sem, World.cell?_setCell_same', c0, c1, c2, c3]) rfl ⟨⟨y, k, m, t⟩, ⟨hy, hx.2⟩, rfl, ⟨_, ?_, (((((unhid R3).set' ?_ _).set' ?_ _).set' ?_ _).set' ?_ _).set' ?_ _⟩, grown_set' (grown_set' (grown_set' (grown_set' (grown_set' (unhid G3) ?_ _) ?_ _) ?_ _) ?_ _) ?_ _⟩
    all_goals (try dsimp only); omega
  · go_wp2_with fail
    refine (pick_any _ b a len cap _ (unhid R2) (by omega) 5 (by omega) (by omega)).mono ?_
    rintro e w3 ⟨y, hy, rfl, hR, hG0⟩
    have hG : w2.grownBy w3 (some b) := hG0
    clear hG0
    have O3 := hid ((unhid O2).grown hG (by intro e; injection e; omega))
    have N3 := hid ((unhid N2).grown hG (by intro e; injection e; omega))
    have G3 := hid (grown_trans (unhid G2) hG)
    have R3 := hid hR
    have hz3 := hG.size
    clear hR hG O2 N2 G2 R2
    obtain ⟨⟨d0, d1, d2, d3⟩, g0, g1, g2, g3⟩ := four_cells (unhid N3)
    obtain ⟨⟨c0, c1, c2, c3⟩, f0, f1, f2, f3⟩ := four_cells (unhid O3)
    dsimp only at d0 d1 d2 d3
    go_wp2_with fail
    refine bodyPost_ret (v := .agg #[.string x, .int .i64 y, .int .i64 m, .string t]) (by simp [results, Tryz.results162, go_sem, World.cell?_setCell_same', c0, c1, c2, c3]) rfl ⟨⟨x, y, m, t⟩, hx, rfl, ⟨_, ?_, (((((unhid R3).set' ?_ _).set' ?_ _).set' ?_ _).set' ?_ _).set' ?_ _⟩, grown_set' (grown_set' (grown_set' (grown_set' (grown_set' (unhid G3) ?_ _) ?_ _) ?_ _) ?_ _) ?_ _⟩
    all_goals (try dsimp only); omega
  · go_wp2_with fail
    refine (one_any (fun k => (decide (-1 ≤ k) && decide (k ≤ 8)) = true) _ b a len cap _ ((unhid R2).alloc _) (by omega) w2.heap.size 3 3 (by have := (unhid R2).lt; omega) (by omega) (by omega) ?h5).mono ?_
    case h5 => exact fun k hk => row_int (fun k => decide (-1 ≤ k) && decide (k ≤ 8)) _ _ _ _ rfl (by kernel_rfl) k hk
    rintro e w3 ⟨y, hy, rfl, hR, hG0⟩
    have hG : w2.grownBy w3 (some b) := grown_trans (World.grownBy_alloc w2 _ (some b)) hG0
    clear hG0
    have O3 := hid ((unhid O2).grown hG (by intro e; injection e; omega))
    have N3 := hid ((unhid N2).grown hG (by intro e; injection e; omega))
    have G3 := hid (grown_trans (unhid G2) hG)
    have R3 := hid hR
    have hz3 := hG.size
    clear hR hG O2 N2 G2 R2
    obtain ⟨⟨d0, d1, d2, d3⟩, g0, g1, g2, g3⟩ := four_cells (unhid N3)
    obtain ⟨⟨c0, c1, c2, c3⟩, f0, f1, f2, f3⟩ := four_cells (unhid O3)
    dsimp only at d0 d1 d2 d3
    go_wp2_with fail
    refine bodyPost_ret (v := .agg #[.string x, .int .i64 k, .int .i64 y, .string t]) (by simp [results, Tryz.results162, go_sem, World.cell?_setCell_same', c0, c1, c2, c3]) rfl ⟨⟨x, k, y, t⟩, hx, rfl, ⟨_, ?_, (((((unhid R3).set' ?_ _).set' ?_ _).set' ?_ _).set' ?_ _).set' ?_ _⟩, grown_set' (grown_set' (grown_set' (grown_set' (grown_set' (unhid G3) ?_ _) ?_ _) ?_ _) ?_ _) ?_ _⟩
    all_goals (try dsimp only); omega
  · go_wp2_with fail
    have hzz : (rep ⟨#[117]⟩ 81).size ≤ 100 := by rw [rep_size]; decide
    refine (many_rep ⟨#[117]⟩ 81 (by decide) (by omega) w2).mono ?_
    rintro e w2' ⟨rfl, e2⟩
    rw [e2]
    clear e2 w2'
    generalize rep ⟨#[117]⟩ 81 = yy at hzz
    go_wp2_with fail
    refine (of_any short _ b a len cap _ ((unhid R2).alloc _) (by omega) w2.heap.size 4 4 (by have := (unhid R2).lt; omega) (by omega) (by omega) ?h5).mono ?_
    case h5 => exact fun k hk => row_short2 _ _ _ _ rfl (odd_short yy hzz) k hk
    rintro e w3 ⟨y, hy, rfl, hR, hG0⟩
    have hG : w2.grownBy w3 (some b) := grown_trans (World.grownBy_alloc w2 _ (some b)) hG0
    clear hG0
    have O3 := hid ((unhid O2).grown hG (by intro e; injection e; omega))
    have N3 := hid ((unhid N2).grown hG (by intro e; injection e; omega))
    have G3 := hid (grown_trans (unhid G2) hG)
    have R3 := hid hR
    have hz3 := hG.size
    clear hR hG O2 N2 G2 R2
    obtain ⟨⟨d0, d1, d2, d3⟩, g0, g1, g2, g3⟩ := four_cells (unhid N3)
    obtain ⟨⟨c0, c1, c2, c3⟩, f0, f1, f2, f3⟩ := four_cells (unhid O3)
    dsimp only at d0 d1 d2 d3
    go_wp2_with fail
    refine bodyPost_ret (v := .agg #[.string x, .int .i64 k, .int .i64 m, .string y]) (by simp [results, Tryz.results162, go_sem, World.cell?_setCell_same', c0, c1, c2, c3]) rfl ⟨⟨x, k, m, y⟩, ⟨hx.1, hy⟩, rfl, ⟨_, ?_, (((((unhid R3).set' ?_ _).set' ?_ _).set' ?_ _).set' ?_ _).set' ?_ _⟩, grown_set' (grown_set' (grown_set' (grown_set' (grown_set' (unhid G3) ?_ _) ?_ _) ?_ _) ?_ _) ?_ _⟩
    all_goals (try dsimp only); omega
  · have b0 : ((r : Int) == 0) = false := by rw [beq_eq_false_iff_ne]; omega
    have b1 : ((r : Int) == 1) = false := by rw [beq_eq_false_iff_ne]; omega
    have b2 : ((r : Int) == 2) = false := by rw [beq_eq_false_iff_ne]; omega
    have b3 : ((r : Int) == 3) = false := by rw [beq_eq_false_iff_ne]; omega
    obtain ⟨⟨d0, d1, d2, d3⟩, g0, g1, g2, g3⟩ := four_cells (unhid N2)
    obtain ⟨⟨c0, c1, c2, c3⟩, f0, f1, f2, f3⟩ := four_cells (unhid O2)
    dsimp only at d0 d1 d2 d3
    go_wp2_with fail
    refine bodyPost_ret (v := .agg #[.string x, .int .i64 k, .int .i64 m, .string t]) (by simp [results, Tryz.results162, go_sem, World.cell?_setCell_same', c0, c1, c2, c3]) rfl ⟨⟨x, k, m, t⟩, hx, rfl, ⟨_, ?_, ((((unhid R2).set' ?_ _).set' ?_ _).set' ?_ _).set' ?_ _⟩, grown_set' (grown_set' (grown_set' (grown_set' (unhid G2) ?_ _) ?_ _) ?_ _) ?_ _⟩
    all_goals (try dsimp only); omega
end Go.Proofs.YtoihhlkidlapmaaGreat

namespace Go.Proofs.YtoihhlkidlapmaaGreat
open Go.RowKit
def fig (n : Nat) : UInt8 := UInt8.ofNat (48 + n)
def decL (n : Nat) : List UInt8 := if n < 10 then [fig n] else decL (n / 10) ++ [fig (n % 10)]
termination_by n
decreasing_by omega
def decA (n : Nat) : ByteArray := ⟨(decL n).toArray⟩
theorem decL_small {n : Nat} (h : n < 10) : decL n = [fig n] := by rw [decL, if_pos h]
theorem decL_more {n : Nat} (h : ¬ n < 10) : decL n = decL (n / 10) ++ [fig (n % 10)] := by rw [decL, if_neg h]
theorem decA_small {n : Nat} (h : n < 10) : decA n = ⟨#[fig n]⟩ := by unfold decA; rw [decL_small h]
theorem decA_more {n : Nat} (h : ¬ n < 10) : decA n = decA (n / 10) ++ ⟨#[fig (n % 10)]⟩ := by
  unfold decA; rw [decL_more h]
  apply ByteArray.ext
  simp [ByteArray.data_append]
theorem decL_len : ∀ (f n : Nat), n < 10 ^ f → (decL n).length ≤ f + 1
  | 0, n, h => by rw [decL_small (by omega)]; simp
  | f + 1, n, h => by
    by_cases hn : n < 10
    · rw [decL_small hn]; simp
    · rw [decL_more hn]
      have := decL_len f (n / 10) (by rw [Nat.pow_succ] at h; omega)
      simp; omega
theorem decA_size {n : Nat} (h : n < 10 ^ 18) : (decA n).size ≤ 19 := by
  have := decL_len 18 n h
  simpa [decA, ByteArray.size] using this
theorem drew_below0 {B : Nat} (w : World) : Below B w w.drew := ⟨rfl, rfl, rfl, Nat.le_refl _, fun _ _ => rfl⟩
theorem conv_byte (W : World) (g n : Nat) (hn : n < 10) (h : W.cell? ⟨g, 0, none⟩ = some (.int .u8 (48 + (n : Int)))) : Sem.run Tryz.prog (convert 22 9 (.slice (some ⟨g, 0, none⟩) 1 1)) W = .ok (.string ⟨#[fig n]⟩) W := by
  refine run_convert_bytes_back (P := Tryz.prog) _ 22 9 5 ⟨g, 0, none⟩ 1 [fig n] (by kernel_rfl) (by kernel_rfl) (by kernel_rfl) (fun j hj => ?_)
  have : j = 0 := by simpa using hj
  subst this
  simp [Addr.add, h, fig, UInt8.toNat_ofNat']
  omega
set_option maxRecDepth 100000 in
set_option maxHeartbeats 2000000 in
theorem l1Dec_any : ∀ (f n : Nat) (w : World), n < 10 ^ f → f ≤ 18 →
    Calls Tryz.prog 224 #[.int .i64 (n : Int)] w fun x w' => x = .returned (.string (decA n)) ∧ Below w.heap.size w w' := by
  intro f
  induction f with
  | zero =>
    intro n w hn _
    have : n = 0 := by omega
    subst this
    have hcv := conv_byte (w.alloc (.cells #[.int .u8 48] 5)) w.heap.size 0 (by omega) (by simp [go_sem])
    have E := hid (decA_small (n := 0) (by omega))
    go_enter Tryz.func224, Tryz.ntmps224
    go_wp2_with fail
    go_ret
    exact ⟨by rw [unhid E]; rfl, (Below.refl _ w).alloc (Nat.le_refl _) _⟩
  | succ f ih =>
    intro n w hn hf
    have hbig : n < 1000000000000000000 := Nat.lt_of_lt_of_le hn (Nat.pow_le_pow_right (by omega) hf)
    by_cases h10 : n < 10
    · have hcv := conv_byte (w.alloc (.cells #[.int .u8 (48 + (n : Int))] 5)) w.heap.size n h10 (by simp [go_sem])
      have E := hid (decA_small h10)
      go_enter Tryz.func224, Tryz.ntmps224
      go_wp2_with fail
      go_ret
      exact ⟨by rw [unhid E]; rfl, (Below.refl _ w).alloc (Nat.le_refl _) _⟩
    · have E := hid (decA_more h10)
      have IH := hid (fun W => ih (n / 10) W (by rw [Nat.pow_succ] at hn; omega) (by omega))
      have hsz : (decA (n / 10)).size ≤ 19 := decA_size (by omega)
      have q1 : ((n : Int) / 10) = ((n / 10 : Nat) : Int) := by omega
      have q2 : ((n : Int) % 10) = ((n % 10 : Nat) : Int) := by omega
      have hd : n % 10 < 10 := by omega
      have hm : n / 10 < 1000000000000000000 := by omega
      generalize decA (n / 10) = y at *
      generalize n / 10 = m at *
      generalize n % 10 = d at *
      clear ih hn
      go_enter Tryz.func224, Tryz.ntmps224
      go_wp2_with fail
      have t1 : ((n : Int)).tmod 10 = (d : Int) := by rw [Int.tmod_eq_emod_of_nonneg (by omega)]; exact q2
      have v1 : IntKind.i64.wrap (m : Int) = (m : Int) := by simp [IntKind.wrap, IntKind.signed, IntKind.bits]; omega
      have v2 : IntKind.i64.wrap (48 + (d : Int)) = 48 + (d : Int) := by simp [IntKind.wrap, IntKind.signed, IntKind.bits]; omega
      have v3 : IntKind.u8.wrap (48 + (d : Int)) = 48 + (d : Int) := by simp [IntKind.wrap, IntKind.signed, IntKind.bits]; omega
      have hsz2 : y.size ≤ 9223372036854775806 := by omega
      have hz1 : (⟨#[fig d]⟩ : ByteArray).size = 1 := rfl
      refine wp_region_held_drew (S := fun w' => Below w.heap.size w w') (by kernel_rfl) (drew_below0 _) (fun hS => ?_)
      refine wpAnyH_take (i := 0) (v := .int .i64 (n : Int)) rfl (by kernel_rfl) (by kernel_rfl) (by kernel_rfl) (fun _ _ _ h => h) (Or.inl ⟨by rfl, fun w hw => by go_simp⟩) hS ?_
      refine wpAnyH_take (i := 1) (v := .int .i64 (m : Int)) rfl (by kernel_rfl) (by kernel_rfl) (by kernel_rfl) (fun _ _ _ h => h) (Or.inl ⟨by rfl, fun w hw => by go_simp⟩) hS ?_
      refine wpAnyH_take (i := 3) (v := .int .i64 (n : Int)) rfl (by kernel_rfl) (by kernel_rfl) (by kernel_rfl) (fun _ _ _ h => h) (Or.inl ⟨by rfl, fun w hw => by go_simp⟩) hS ?_
      refine wpAnyH_take (i := 4) (v := .int .i64 (d : Int)) rfl (by kernel_rfl) (by kernel_rfl) (by kernel_rfl) (fun _ _ _ h => h) (Or.inl ⟨by rfl, fun w hw => by go_simp⟩) hS ?_
      refine wpAnyH_take (i := 5) (v := .int .i64 (48 + (d : Int))) rfl (by kernel_rfl) (by kernel_rfl) (by kernel_rfl) (fun _ _ _ h => h) (Or.inl ⟨by rfl, fun w hw => by go_simp⟩) hS ?_
      refine wpAnyH_take (i := 6) (v := .int .u8 (48 + (d : Int))) rfl (by kernel_rfl) (by kernel_rfl) (by kernel_rfl) (fun _ _ _ h => h) (Or.inl ⟨by rfl, fun w hw => by go_simp⟩) hS ?_
      generalize w.drew = W at hS ⊢
      refine wpAnyH_ready (rs := [2, 7]) (by kernel_rfl) (by simp) ?_
      refine AllReadyH.cons rfl (fun K hK => ?_) (AllReadyH.cons rfl (fun K hK => ?_) AllReadyH.nil)
      · go_simp
        refine (unhid IH W).mono ?_
        rintro x W1 ⟨rfl, hB⟩
        have hS1 := hS.trans (hB.mono hS.size)
        refine hK.out _ _ hS1 (fun _ => ?_)
        clear hK K hS hB
        have hS := hS1
        clear hS1
        refine wpAnyH_ready (rs := [7]) (by kernel_rfl) (by simp) ?_
        refine AllReadyH.cons rfl (fun K hK => ?_) AllReadyH.nil
        go_simp
        have hcell : (W1.alloc (.cells #[.int .u8 (48 + (d : Int))] 5)).cell? ⟨W1.heap.size, 0, none⟩ = some (.int .u8 (48 + (d : Int))) := by simp [go_sem]
        have hg : W1.heap.size < (W1.alloc (.cells #[.int .u8 (48 + (d : Int))] 5)).heap.size := by simp
        have hS1 := hS.alloc hS.size (.cells #[.int .u8 (48 + (d : Int))] 5)
        refine hK.out _ _ hS1 (fun _ => ?_)
        clear hK K hS
        generalize W1.alloc (.cells #[.int .u8 (48 + (d : Int))] 5) = W2 at hS1 hcell hg ⊢
        generalize W1.heap.size = g at hcell hg ⊢
        have hS := hS1
        clear hS1
        refine wpAnyH_ready (rs := [8]) (by kernel_rfl) (by simp) ?_
        refine AllReadyH.cons rfl (fun K hK => ?_) AllReadyH.nil
        have hcv := conv_byte W2 g d hd hcell
        go_simp
        refine hK.out _ _ hS (fun _ => ?_)
        clear hK K hcv
        refine wpAnyH_take (i := 9) (v := .string (y ++ ⟨#[fig d]⟩)) rfl (by kernel_rfl) (by kernel_rfl) (by kernel_rfl) (fun _ _ _ h => h) (Or.inl ⟨by rfl, fun w hw => by go_simp⟩) hS ?_
        refine wpAnyH_take (i := 10) (v := .string (y ++ ⟨#[fig d]⟩)) rfl (by kernel_rfl) (by kernel_rfl) (by kernel_rfl) (fun _ _ _ h => h) (Or.inl ⟨by rfl, fun w hw => by go_simp⟩) hS ?_
        refine wpAnyH_done (by kernel_rfl) ?_ _
        go_wp2_with fail
        go_ret
        exact ⟨by rw [unhid E]; rfl, hS⟩
      · go_simp
        have hcell : (W.alloc (.cells #[.int .u8 (48 + (d : Int))] 5)).cell? ⟨W.heap.size, 0, none⟩ = some (.int .u8 (48 + (d : Int))) := by simp [go_sem]
        have hg : W.heap.size < (W.alloc (.cells #[.int .u8 (48 + (d : Int))] 5)).heap.size := by simp
        have hS1 := hS.alloc hS.size (.cells #[.int .u8 (48 + (d : Int))] 5)
        refine hK.out _ _ hS1 (fun _ => ?_)
        clear hK K hS
        generalize W.alloc (.cells #[.int .u8 (48 + (d : Int))] 5) = W1 at hS1 hcell hg ⊢
        generalize W.heap.size = g at hcell hg ⊢
        have hS := hS1
        clear hS1
        refine wpAnyH_ready (rs := [2, 8]) (by kernel_rfl) (by simp) ?_
        refine AllReadyH.cons rfl (fun K hK => ?_) (AllReadyH.cons rfl (fun K hK => ?_) AllReadyH.nil)
        · go_simp
          refine (unhid IH W1).mono ?_
          rintro x W2 ⟨rfl, hB⟩
          have hS1 := hS.trans (hB.mono hS.size)
          have hcell1 := (hB.cell (p := ⟨g, 0, none⟩) hg).trans hcell
          have hg1 := Nat.lt_of_lt_of_le hg hB.size
          refine hK.out _ _ hS1 (fun _ => ?_)
          clear hK K hS hB
          have hS := hS1
          clear hS1
          clear hcell hg
          have hcell := hcell1
          have hg := hg1
          clear hcell1 hg1
          refine wpAnyH_ready (rs := [8]) (by kernel_rfl) (by simp) ?_
          refine AllReadyH.cons rfl (fun K hK => ?_) AllReadyH.nil
          have hcv := conv_byte W2 g d hd hcell
          go_simp
          refine hK.out _ _ hS (fun _ => ?_)
          clear hK K hcv
          refine wpAnyH_take (i := 9) (v := .string (y ++ ⟨#[fig d]⟩)) rfl (by kernel_rfl) (by kernel_rfl) (by kernel_rfl) (fun _ _ _ h => h) (Or.inl ⟨by rfl, fun w hw => by go_simp⟩) hS ?_
          refine wpAnyH_take (i := 10) (v := .string (y ++ ⟨#[fig d]⟩)) rfl (by kernel_rfl) (by kernel_rfl) (by kernel_rfl) (fun _ _ _ h => h) (Or.inl ⟨by rfl, fun w hw => by go_simp⟩) hS ?_
          refine wpAnyH_done (by kernel_rfl) ?_ _
          go_wp2_with fail
          go_ret
          exact ⟨by rw [unhid E]; rfl, hS⟩
        · have hcv := conv_byte W1 g d hd hcell
          go_simp
          refine hK.out _ _ hS (fun _ => ?_)
          clear hK K hcv
          refine wpAnyH_ready (rs := [2]) (by kernel_rfl) (by simp) ?_
          refine AllReadyH.cons rfl (fun K hK => ?_) AllReadyH.nil
          go_simp
          refine (unhid IH W1).mono ?_
          rintro x W2 ⟨rfl, hB⟩
          have hS1 := hS.trans (hB.mono hS.size)
          refine hK.out _ _ hS1 (fun _ => ?_)
          clear hK K hS hB
          have hS := hS1
          clear hS1
          refine wpAnyH_take (i := 9) (v := .string (y ++ ⟨#[fig d]⟩)) rfl (by kernel_rfl) (by kernel_rfl) (by kernel_rfl) (fun _ _ _ h => h) (Or.inl ⟨by rfl, fun w hw => by go_simp⟩) hS ?_
          refine wpAnyH_take (i := 10) (v := .string (y ++ ⟨#[fig d]⟩)) rfl (by kernel_rfl) (by kernel_rfl) (by kernel_rfl) (fun _ _ _ h => h) (Or.inl ⟨by rfl, fun w hw => by go_simp⟩) hS ?_
          refine wpAnyH_done (by kernel_rfl) ?_ _
          go_wp2_with fail
          go_ret
          exact ⟨by rw [unhid E]; rfl, hS⟩
end Go.Proofs.YtoihhlkidlapmaaGreat

namespace Go.Proofs.YtoihhlkidlapmaaGreat
open Go.RowKit
def TreeV (W : World) (N : Nat) (v : Value) (es : List Ent) : Prop := ∃ g c, v = .slice (some ⟨g, 0, none⟩) es.length c ∧ W.ownsRow N 57 4 v es.length (valsOf es)
theorem treeV_of {W : World} {N : Nat} {v : Value} {es : List Ent} (h : W.ownsRow N 57 4 v es.length (valsOf es)) (hs : SomeV v) : TreeV W N v es := by
  rcases h.2 with ⟨rfl, h0⟩ | ⟨g, cap, cur, rfl, _⟩
  · obtain ⟨ad, n, c, hc⟩ := hs; cases hc
  · exact ⟨g, cap, rfl, h⟩
theorem TreeV.ents {W : World} {N g c : Nat} {es : List Ent} (h : W.ownsRow N 57 4 (.slice (some ⟨g, 0, none⟩) es.length c) es.length (valsOf es)) : (∀ (i : Nat) e, es[i]? = some e → EntAt W g (0 + i * 4) e) ∧ g < W.heap.size ∧ N ≤ g ∧ es.length ≤ c := by
  have hl := h.lt g rfl
  have hc : es.length ≤ c := by
    rcases h.2 with ⟨hv, _⟩ | ⟨g', cap, cur, hv, _, _, hc, _⟩
    · cases hv
    · cases hv; exact hc
  obtain ⟨a, cap, hv, hr⟩ := rowIn_of_owns h
  cases hv
  refine ⟨fun i e hi => ?_, hl.2, hl.1, hc⟩
  rcases hr with rfl | ⟨g', hg, _, _, hR⟩
  · simp at hi
  · cases hg
    have := (hR.cells i (List.getElem?_eq_some_iff.1 hi).1).1
    rw [entFn_get hi] at this
    rwa [Nat.zero_add]
theorem TreeV.kept {W W' : World} {N : Nat} {v : Value} {es : List Ent} (h : TreeV W N v es) (hk : ∀ k, N ≤ k → k < W.heap.size → W'.heap[k]? = W.heap[k]?) : TreeV W' N v es := by
  obtain ⟨g, c, hv, ho⟩ := h
  exact ⟨g, c, hv, ownsRow_kept ho (fun g eg => hk g (ho.lt g eg).1 (ho.lt g eg).2)⟩
theorem TreeV.below {W W' : World} {N : Nat} {v : Value} {es : List Ent} (h : TreeV W N v es) (hb : Below W.heap.size W W') : TreeV W' N v es := h.kept (fun k _ hk => hb.block k hk)
theorem TreeV.grown {W W' : World} {N b : Nat} {v : Value} {es : List Ent} (h : TreeV W N v es) (hb : W.grownBy W' (some b)) (hlt : b < N) : TreeV W' N v es := h.kept (fun k h1 hk => hb.block k hk (fun e => by injection e; omega))
theorem TreeV.base {W : World} {N N' : Nat} {v : Value} {es : List Ent} (h : TreeV W N v es) (hN : N' ≤ N) : TreeV W N' v es := by
  obtain ⟨g, c, hv, ho⟩ := h
  exact ⟨g, c, hv, ownsRow_base ho hN⟩
theorem putL_16 {es : List Ent} {e : Ent} (h : es.length ≤ 16) : (putL es e).length ≤ 16 := by
  cases hk : okPut es e
  · rw [putL_no hk]; exact h
  · cases ht : thereE es e.path
    · rw [putL_ins hk ht]
      unfold okPut at hk
      rw [ht] at hk
      simp only [Bool.and_eq_true] at hk
      have h1 := hk.2.2
      simp at h1
      have h2 := placeE_le es e.path
      unfold insAt
      simp; omega
    · rw [putL_set hk ht]; simpa using h
theorem putL_mem {es : List Ent} {e x : Ent} (hx : x ∈ putL es e) : x ∈ es ∨ x = e := by
  unfold putL at hx
  split at hx
  · exact putT_mem hx
  · exact .inl hx
theorem grown_of_below' {W w1 : World} (h : Below W.heap.size W w1) (r : Option Nat) : W.grownBy w1 r := ⟨h.os, h.tape, h.output, h.size, fun k hk _ => h.block k hk⟩
theorem grown_lift {x y z : World} {b : Nat} (h : x.grownBy y (some b)) (hb : Below y.heap.size y z) : x.grownBy z (some b) := grown_trans h (grown_of_below' hb _)
structure TS (w : World) (b : Nat) (a : Option Addr) (len cap p : Nat) (W : World) (v : Value) (es : List Ent) : Prop where
  v : TreeV W w.heap.size v es
  nice : ∀ e ∈ es, niceE e
  few : es.length ≤ 16
  rd : ∃ p', p' ≤ p ∧ Rd W b a len cap p'
  grown : w.grownBy W (some b)
theorem TS.put {w : World} {b : Nat} {a : Option Addr} {len cap p : Nat} {W W' : World} {v v' : Value} {es : List Ent} {e : Ent} (h : TS w b a len cap p W v es) (he : niceE e) (ho : W'.ownsRow W.heap.size 57 4 v' (putL es e).length (valsOf (putL es e))) (hb : Below W.heap.size W W') (hs : SomeV v') : TS w b a len cap p W' v' (putL es e) := by
  refine ⟨treeV_of (ownsRow_base ho h.grown.size) hs, fun x hx => ?_, putL_16 h.few, ?_, grown_lift h.grown hb⟩
  · rcases putL_mem hx with hx | rfl
    · exact h.nice x hx
    · exact he
  · obtain ⟨p', h1, h2⟩ := h.rd
    exact ⟨p', h1, h2.of_below hb⟩
theorem TS.read {w : World} {b : Nat} {a : Option Addr} {len cap p q : Nat} {W W' : World} {v : Value} {es : List Ent} (h : TS w b a len cap p W v es) (hlt : b < w.heap.size) (hg : W.grownBy W' (some b)) (hr : ∃ p', p' ≤ q ∧ Rd W' b a len cap p') : TS w b a len cap q W' v es :=
  ⟨h.v.grown hg hlt, h.nice, h.few, hr, grown_trans h.grown hg⟩
theorem TS.more {w : World} {b : Nat} {a : Option Addr} {len cap p q : Nat} {W : World} {v : Value} {es : List Ent} (h : TS w b a len cap p W v es) (hq : p ≤ q) : TS w b a len cap q W v es :=
  ⟨h.v, h.nice, h.few, by obtain ⟨p', h1, h2⟩ := h.rd; exact ⟨p', by omega, h2⟩, h.grown⟩
theorem TS.below {w : World} {b : Nat} {a : Option Addr} {len cap p : Nat} {W W' : World} {v : Value} {es : List Ent} (h : TS w b a len cap p W v es) (hb : Below W.heap.size W W') : TS w b a len cap p W' v es :=
  ⟨h.v.below hb, h.nice, h.few, by obtain ⟨p', h1, h2⟩ := h.rd; exact ⟨p', h1, h2.of_below hb⟩, grown_lift h.grown hb⟩
def dirsC : Array Value := #[.string ⟨#[97]⟩, .string ⟨#[108, 105, 98]⟩, .string ⟨#[98, 105, 110]⟩, .string ⟨#[100, 111, 99]⟩, .string ⟨#[97, 47, 98]⟩]
def DirsAt (W : World) (D : Nat) : Prop := W.heap[D]? = some (.cells dirsC 9 (0, 0))
theorem DirsAt.cell {W : World} {D : Nat} (h : DirsAt W D) (k : Nat) (hk : k < 5) : ∃ x, nice x ∧ W.cell? ⟨D, k, none⟩ = some (.string x) := by
  have h1 : W.cell? ⟨D, k, none⟩ = dirsC[k]? := by unfold World.cell?; rw [h]; simp
  rw [h1]
  rcases (by omega : k = 0 ∨ k = 1 ∨ k = 2 ∨ k = 3 ∨ k = 4) with rfl | rfl | rfl | rfl | rfl
  · exact ⟨⟨#[97]⟩, by unfold nice; decide, rfl⟩
  · exact ⟨⟨#[108, 105, 98]⟩, by unfold nice; decide, rfl⟩
  · exact ⟨⟨#[98, 105, 110]⟩, by unfold nice; decide, rfl⟩
  · exact ⟨⟨#[100, 111, 99]⟩, by unfold nice; decide, rfl⟩
  · exact ⟨⟨#[97, 47, 98]⟩, by unfold nice; decide, rfl⟩
theorem fdec_nice {n : Nat} (h : n < 1000) : nice (⟨#[102]⟩ ++ decA n) := by
  have hd : (⟨#[102]⟩ ++ decA n : ByteArray).data.toList = 102 :: decL n := by rw [ByteArray.data_append]; simp [decA]
  have hl := decL_len 3 n (by omega)
  have hh : ∀ c, (decL n).head? = some c → c ≠ 114 := by
    clear hd hl
    intro c hc
    have : ∀ m, m < 1000 → ∀ c, (decL m).head? = some c → c.toNat ≤ 57 := by
      intro m
      induction m using Nat.strongRecOn with
      | ind m ih =>
        intro hm c hc
        by_cases h10 : m < 10
        · rw [decL_small h10] at hc
          simp at hc
          subst hc
          unfold fig
          simp
          omega
        · rw [decL_more h10] at hc
          have hne : decL (m / 10) ≠ [] := by
            intro e
            by_cases h2 : m / 10 < 10
            · rw [decL_small h2] at e; cases e
            · rw [decL_more h2] at e; simp at e
          obtain ⟨y, ys, hy⟩ := List.exists_cons_of_ne_nil hne
          rw [hy] at hc
          exact ih (m / 10) (by omega) (by omega) c (by rw [hy]; simpa using hc)
    intro e
    have := this n h c hc
    rw [e] at this
    revert this
    decide
  unfold nice niceB
  rw [hd]
  have h3 : ((102 :: decL n).take 2 != [102, 114]) = true := by
    rw [bne_iff_ne]
    intro e
    cases hx : decL n with
    | nil => rw [hx] at e; simp at e
    | cons y ys => rw [hx] at e; simp at e; exact hh y (by rw [hx]; rfl) e
  have h4 : ((102 :: decL n).take 2 != [110, 101]) = true := by
    rw [bne_iff_ne]
    intro e
    cases hx : decL n with
    | nil => rw [hx] at e; simp at e
    | cons y ys => rw [hx] at e; simp at e
  rw [h3, h4]
  simp; omega
set_option maxRecDepth 100000 in
set_option maxHeartbeats 8000000 in
theorem l11Tree_any (w : World) (b : Nat) (a : Option Addr) (len cap p : Nat) (h : Rd w b a len cap p) (hp : p ≤ 800000) :
    Calls Tryz.prog 161 #[.pointer (some ⟨b, 0, none⟩)] w fun x w' => ∃ v, x = .returned v ∧ ∃ es, TS w b a len cap (p + 50) w' v es := by
  have hbl := h.lt
  have T0 : TS w b a len cap p (w.alloc (.cells #[] 57)) (.slice (some ⟨w.heap.size, 0, none⟩) 0 0) [] :=
    ⟨⟨w.heap.size, 0, rfl, owns_empty w _ (Nat.le_refl _) _⟩, (fun e he => by cases he), (by simp), ⟨p, Nat.le_refl _, h.alloc _⟩, World.grownBy_alloc w _ _⟩
  have T1 := T0.below ((Below.refl _ _).alloc (Nat.le_refl _) (.cells dirsC 9))
  have D1 : DirsAt ((w.alloc (.cells #[] 57)).alloc (.cells dirsC 9)) (w.heap.size + 1) := by
    have := World.alloc_heap_new (w.alloc (.cells #[] 57)) (.cells dirsC 9)
    rw [World.size_alloc] at this
    exact this
  have hT := hid (And.intro T1 D1)
  clear T0 T1 D1 h
  unfold dirsC at hT
  go_enter Tryz.func161, Tryz.ntmps161
  go_wp2_with fail
  go_loopw [3, 5] (fun v' i wr => ∃ (k : Nat) (es : List Ent) (v : Value), v = v' ∧ k ≤ 5 ∧ i = .int .i64 k ∧ Hid (TS w b a len cap (p + k) wr v es ∧ DirsAt wr (w.heap.size + 1) ∧ w.heap.size + 1 < wr.heap.size)) (fun _ i _ => 5 - (intOf i).toNat)
  case atStart => exact ⟨0, [], _, rfl, by omega, rfl, hid ⟨(unhid hT).1, (unhid hT).2, by simp⟩⟩
  case round =>
    obtain ⟨k, es, v, rfl, hk, rfl, HT⟩ := hrel
    clear hT
    by_cases hlt : (k : Int) < 5
    · go_wp2_with fail
      obtain ⟨q, hq, hR⟩ := (unhid HT).1.rd
      refine (pick_any wr b a len cap q hR (by omega) 2 (by omega) (by omega)).mono ?_
      rintro e w1 ⟨r, hr, rfl, hR1, hG1⟩
      have D1 := (hG1.block (w.heap.size + 1) (unhid HT).2.2 (by intro e; injection e; omega)).trans (unhid HT).2.1
      have HT1 := hid (show TS w b a len cap (p + (k + 1)) w1 v es ∧ DirsAt w1 (w.heap.size + 1) ∧ w.heap.size + 1 < w1.heap.size from ⟨(unhid HT).1.read hbl hG1 ⟨q + 1, by omega, hR1⟩, D1, Nat.lt_of_lt_of_le (unhid HT).2.2 hG1.size⟩)
      clear hR hR1 hG1 HT D1 hq
      by_cases h0 : r = 0
      · subst h0
        obtain ⟨x, hx, hcx⟩ := (unhid HT1).2.1.cell k (by omega)
        obtain ⟨g, c, rfl, ho⟩ := (unhid HT1).1.v
        obtain ⟨e1, e2, e3, e4⟩ := TreeV.ents ho
        have PUT := hid (l2Put_full es ⟨x, 1, 7, ⟨#[]⟩⟩ g 0 c w1 (unhid HT1).1.few e4 (by have := nice_short hx; dsimp only; omega) (by show (0 : Nat) ≤ 1048576; omega) e1 e2)
        clear ho e1 e2 e3 e4
        go_wp2_with fail
        refine (unhid PUT).mono ?_
        rintro x2 w2 ⟨v2, rfl, ho2, hb2, hs2⟩
        have HT2 := hid (show TS w b a len cap (p + (k + 1)) w2 v2 (putL es ⟨x, 1, 7, ⟨#[]⟩⟩) ∧ DirsAt w2 (w.heap.size + 1) ∧ w.heap.size + 1 < w2.heap.size from ⟨(unhid HT1).1.put ⟨hx, (by unfold short; decide : short ⟨#[]⟩)⟩ ho2 hb2 hs2, (hb2.block _ (unhid HT1).2.2).trans (unhid HT1).2.1, Nat.lt_of_lt_of_le (unhid HT1).2.2 hb2.size⟩)
        clear PUT ho2 hb2 hs2 HT1
        go_wp2_with fail
        go_roundw
        case rel => exact ⟨k + 1, _, _, rfl, by omega, by go_num, HT2⟩
        case measure => simp [intOf]; omega
      · have h0' : ((r : Int) == 0) = false := by rw [beq_eq_false_iff_ne]; omega
        go_wp2_with fail
        go_roundw
        case rel => exact ⟨k + 1, _, _, rfl, by omega, by go_num, HT1⟩
        case measure => simp [intOf]; omega
    · have k5 : k = 5 := by omega
      subst k5
      have HT0 := hid (unhid HT).1
      clear HT
      go_wp2_with fail
      obtain ⟨q, hq, hR⟩ := (unhid HT0).rd
      refine (pick_any wr b a len cap q hR (by omega) 7 (by omega) (by omega)).mono ?_
      rintro e w1 ⟨r, hr, rfl, hR1, hG1⟩
      have HT1 := hid (show TS w b a len cap (p + 6 + 4 * (7 - r)) w1 v es from (unhid HT0).read hbl hG1 ⟨q + 1, by omega, hR1⟩)
      clear hR hR1 hG1 HT0 hq q
      go_wp2_with fail
      go_loopw [3, 6] (fun v' i wr => ∃ (k : Nat) (es : List Ent) (v : Value), v = v' ∧ k ≤ 7 ∧ i = .int .i64 k ∧ Hid (TS w b a len cap (p + 6 + 4 * (7 - k)) wr v es)) (fun _ i _ => (intOf i).toNat)
      case atStart => exact ⟨r, es, _, rfl, by omega, rfl, HT1⟩
      case round =>
        obtain ⟨k, es, v, rfl, hk, rfl, HT⟩ := hrel
        clear HT1
        by_cases hlt : (0 : Int) < (k : Int)
        · go_wp2_with fail
          obtain ⟨q, hq, hR⟩ := (unhid HT).rd
          refine (l11Entry_any wr b a len cap q hR (by omega)).mono ?_
          rintro e w1 ⟨en, hen, rfl, ⟨q2, hq2, hR1⟩, hG1⟩
          have HT1 := hid ((unhid HT).read (q := p + 6 + 4 * (7 - (k - 1))) hbl hG1 ⟨q2, by omega, hR1⟩)
          clear hR hR1 hG1 HT hq hq2 q q2
          obtain ⟨g, c, rfl, ho⟩ := (unhid HT1).v
          obtain ⟨e1, e2, e3, e4⟩ := TreeV.ents ho
          have PUT := hid (l2Put_full es en g 0 c w1 (unhid HT1).few e4 (by have := nice_short hen.1; omega) (by have : en.text.size ≤ 100 := hen.2; omega) e1 e2)
          clear ho e1 e2 e3 e4
          unfold Ent.vals at PUT ⊢
          go_wp2_with fail
          refine (unhid PUT).mono ?_
          rintro x2 w2 ⟨v2, rfl, ho2, hb2, hs2⟩
          have HT2 := hid ((unhid HT1).put hen ho2 hb2 hs2)
          clear PUT ho2 hb2 hs2 HT1
          go_wp2_with fail
          go_roundw
          case rel => exact ⟨k - 1, _, _, rfl, by omega, by go_num, HT2⟩
          case measure => simp [intOf]; omega
        · have k0 : k = 0 := by omega
          subst k0
          have HT0 := HT
          clear HT
          go_wp2_with fail
          obtain ⟨q, hq, hR⟩ := (unhid HT0).rd
          refine (pick_any wr b a len cap q hR (by omega) 30 (by omega) (by omega)).mono ?_
          rintro e w1 ⟨r, hr, rfl, hR1, hG1⟩
          have HT1 := hid (show TS w b a len cap (p + 50) w1 v es from (unhid HT0).read hbl hG1 ⟨q + 1, by omega, hR1⟩)
          clear hR hR1 hG1 HT0 hq q
          by_cases h0 : r = 0
          · subst h0
            go_wp2_with fail
            go_loopw [3, 7] (fun v' i wr => ∃ (k : Nat) (es : List Ent) (v : Value), v = v' ∧ k ≤ 16 ∧ i = .int .i64 k ∧ Hid (TS w b a len cap (p + 50) wr v es)) (fun _ i _ => 16 - (intOf i).toNat)
            case atStart => exact ⟨0, es, _, rfl, by omega, rfl, HT1⟩
            case round =>
              obtain ⟨k, es, v, rfl, hk, rfl, HT⟩ := hrel
              clear HT1
              by_cases hlt : (k : Int) < 16
              · go_wp2_with fail
                refine (l1Dec_any 2 k wr (by omega) (by omega)).mono ?_
                rintro e w1 ⟨rfl, hb1⟩
                have HT1 := hid ((unhid HT).below hb1)
                clear hb1 HT
                have hnc : nice (⟨#[102]⟩ ++ decA k) := fdec_nice (by omega)
                have hsz := decA_size (n := k) (by omega)
                have hz2 := nice_short hnc
                obtain ⟨g, c, rfl, ho⟩ := (unhid HT1).v
                obtain ⟨e1, e2, e3, e4⟩ := TreeV.ents ho
                have PUT := hid (l2Put_full es ⟨⟨#[102]⟩ ++ decA k, 2, 0, ⟨#[]⟩⟩ g 0 c w1 (unhid HT1).few e4 (by dsimp only; omega) (by show (0 : Nat) ≤ 1048576; omega) e1 e2)
                clear ho e1 e2 e3 e4
                generalize decA k = y at *
                go_wp2_with fail
                refine (unhid PUT).mono ?_
                rintro x2 w2 ⟨v2, rfl, ho2, hb2, hs2⟩
                have HT2 := hid ((unhid HT1).put ⟨hnc, (by unfold short; decide : short ⟨#[]⟩)⟩ ho2 hb2 hs2)
                clear PUT ho2 hb2 hs2 HT1
                go_wp2_with fail
                go_roundw
                case rel => exact ⟨k + 1, _, _, rfl, by omega, by go_num, HT2⟩
                case measure => simp [intOf]; omega
              · go_wp2_with fail
                go_ret
                exact ⟨_, rfl, _, unhid HT⟩
          · have h0' : ((r : Int) == 0) = false := by rw [beq_eq_false_iff_ne]; omega
            go_wp2_with fail
            go_ret
            exact ⟨_, rfl, _, unhid HT1⟩
end Go.Proofs.YtoihhlkidlapmaaGreat

namespace Go.Proofs.YtoihhlkidlapmaaGreat
open Go.RowKit
structure TA (w : World) (b : Nat) (a : Option Addr) (len cap p : Nat) (W : World) (v : Value) (es : List Ent) : Prop where
  v : TreeV W w.heap.size v es
  nice : ∀ e ∈ es, niceE e
  few : es.length ≤ 17
  rd : ∃ p', p' ≤ p ∧ Rd W b a len cap p'
  grown : w.grownBy W (some b)
theorem TA.read {w : World} {b : Nat} {a : Option Addr} {len cap p q : Nat} {W W' : World} {v : Value} {es : List Ent} (h : TA w b a len cap p W v es) (hlt : b < w.heap.size) (hg : W.grownBy W' (some b)) (hr : ∃ p', p' ≤ q ∧ Rd W' b a len cap p') : TA w b a len cap q W' v es :=
  ⟨h.v.grown hg hlt, h.nice, h.few, hr, grown_trans h.grown hg⟩
theorem TA.small {w : World} {b : Nat} {a : Option Addr} {len cap p : Nat} {W : World} {v : Value} {es : List Ent} (h : TA w b a len cap p W v es) : smallE es :=
  ⟨by have := h.few; omega, fun e he => ⟨by have := nice_short (h.nice e he).1; omega, by have : e.text.size ≤ 100 := (h.nice e he).2; omega⟩⟩
theorem Rd.low {w w' : World} {b B : Nat} {a : Option Addr} {len cap p : Nat} (h : Rd w b a len cap p) (hB : Below B w w') (hb : b < B) : Rd w' b a len cap p where
  c0 := (hB.cell (p := ⟨b, 0, none⟩) hb).trans h.c0
  c1 := (hB.cell (p := ⟨b, 1, none⟩) hb).trans h.c1
  f1 := (hB.frozen (p := ⟨b, 1, none⟩) hb).trans h.f1
  l := h.l
  d := by
    rcases h.d with h0 | ⟨blk, off, ha, hbk, hc⟩
    · exact .inl h0
    · refine .inr ⟨blk, off, ha, hbk, fun k hk => ?_⟩
      obtain ⟨c, h1, h2⟩ := hc k hk
      exact ⟨c, h1, (hB.cell (p := ⟨blk, off + k, none⟩) (Nat.lt_trans hbk hb)).trans h2⟩
theorem grown_low {w X Y : World} {b : Nat} (h : w.grownBy X (some b)) (hB : Below w.heap.size X Y) : w.grownBy Y (some b) :=
  ⟨hB.os.trans h.os, hB.tape.trans h.tape, hB.output.trans h.output, Nat.le_trans h.size hB.size, fun k hk hne => (hB.block k hk).trans (h.block k hk hne)⟩
set_option maxRecDepth 100000 in
set_option maxHeartbeats 8000000 in
theorem l11AnyTree_any (w : World) (b : Nat) (a : Option Addr) (len cap p : Nat) (h : Rd w b a len cap p) (hp : p ≤ 700000) :
    Calls Tryz.prog 98 #[.pointer (some ⟨b, 0, none⟩)] w fun x w' => ∃ v, x = .returned v ∧ ∃ es, TA w b a len cap (p + 70) w' v es := by
  obtain ⟨i0, hi0, hz0, hzs, hzb⟩ := info_parts infoEntry
  have HI := hid (And.intro hi0 (And.intro hz0 (And.intro hzs hzb)))
  clear hi0 hz0 hzs hzb
  have hbl := h.lt
  have H := hid h
  clear h
  go_enter Tryz.func98, Tryz.ntmps98
  go_wp2_with fail
  refine (l11Tree_any w b a len cap p (unhid H) (by omega)).mono ?_
  rintro x w1 ⟨v, rfl, es, hT⟩
  have HT := hid hT
  obtain ⟨g, c, rfl, ho⟩ := hT.v
  obtain ⟨e1, e2, e3, e4⟩ := TreeV.ents ho
  have CP := hid (l2Copy_some es g 0 c w1 (by have := hT.few; omega) e1 (.inr e2))
  clear ho e1 e2 e3 e4 hT H
  go_wp2_with fail
  refine (unhid CP).mono ?_
  rintro x w2 ⟨g2, c2, rfl, ho2, hB2⟩
  have hg1 := (unhid HT).grown
  have T2 : TA w b a len cap (p + 50) w2 (.slice (some ⟨g2, 0, none⟩) es.length c2) es := ⟨⟨g2, c2, rfl, ownsRow_base ho2 hg1.size⟩, (unhid HT).nice, by have := (unhid HT).few; omega, by obtain ⟨p', h1, h2⟩ := (unhid HT).rd; exact ⟨p', h1, h2.of_below hB2⟩, grown_lift hg1 hB2⟩
  have HT2 := hid (And.intro T2 (unhid HT).few)
  clear T2 hg1 ho2 hB2 HT CP
  go_wp2_with fail
  obtain ⟨q, hq, hR⟩ := (unhid HT2).1.rd
  refine (pick_any w2 b a len cap q hR (by omega) 14 (by omega) (by omega)).mono ?_
  rintro e w3 ⟨r, hr, rfl, hR3, hG3⟩
  have HT3 := hid (And.intro ((unhid HT2).1.read hbl hG3 ⟨q + 1, Nat.le_refl _, hR3⟩) (unhid HT2).2)
  clear hR hR3 hG3 HT2
  have hr5 : r = 0 ∨ r = 1 ∨ 2 ≤ r := by omega
  rcases hr5 with rfl | rfl | hr2
  · go_wp2_with fail
    obtain ⟨q2, hq2, hR⟩ := (unhid HT3).1.rd
    refine (l11AnyEntry_any w3 b a len cap q2 hR (by omega)).mono ?_
    rintro x w4 ⟨⟨x, k, m, t⟩, he, rfl, ⟨q3, hq3, hR4⟩, hG4⟩
    have HT4 := hid (And.intro ((unhid HT3).1.read hbl hG4 ⟨q3, Nat.le_refl _, hR4⟩) (unhid HT3).2)
    clear hR hR4 hG4 HT3
    unfold Ent.vals
    dsimp only
    have T5 : TA w b a len cap q3 (w4.alloc (.cells #[.string x, .int .i64 k, .int .i64 m, .string t] 57)) (.slice (some ⟨g2, 0, none⟩) es.length c2) es :=
      (unhid HT4).1.read hbl (World.grownBy_alloc w4 _ _) (by obtain ⟨p', h1, h2⟩ := (unhid HT4).1.rd; exact ⟨p', h1, h2.alloc _⟩)
    obtain ⟨_, _, hv, ho⟩ := T5.v
    cases hv
    have HO := hid ho
    have HT5 := hid (And.intro T5 (unhid HT4).2)
    have hsz : w.heap.size ≤ w4.heap.size := (unhid HT4).1.grown.size
    have hfew := (unhid HT4).2
    clear T5 ho HT4
    go_wp2_with (at_builtin; refine wpList_append_own _ rfl _ _ 32 rfl w.heap.size 57 i0 _ 4 48 Tryz.underlying32 (unhid HI).1 (unhid HI).2.1 (unhid HI).2.2.1 (unhid HI).2.2.2 rfl (by decide) _ es.length (valsOf es) rfl (unhid HO) ⟨w4.heap.size, 0, none⟩ 1 1 [.string x, .int .i64 k, .int .i64 m, .string t] rfl rfl (lit_cells w4 _ _ _ _ _) ?c2 ?c3 ?c4 ?c5 ?_)
    case c2 => intro u hu; simp at hu; rcases hu with rfl | rfl | rfl | rfl <;> rfl
    case c3 => unfold maxLen; omega
    case c4 => omega
    case c5 => simp; omega
    intro v' w5 hown hg hnil
    have hown2 : w5.ownsRow w.heap.size 57 4 v' (es ++ [(⟨x, k, m, t⟩ : Ent)]).length (valsOf (es ++ [(⟨x, k, m, t⟩ : Ent)])) := by
      rw [List.length_append, valsOf_snoc]; exact hown
    have hlow := (Below.refl w.heap.size (w4.alloc (.cells #[.string x, .int .i64 k, .int .i64 m, .string t] 57))).grown hg (by simp; omega) (fun k e => ((unhid HO).lt k e).1)
    have HF := hid (show TA w b a len cap (p + 70) w5 v' (es ++ [⟨x, k, m, t⟩]) from ⟨treeV_of hown2 (owns_some hown2 (by simp)), fun y hy => by
      rcases List.mem_append.1 hy with hy | hy
      · exact (unhid HT5).1.nice y hy
      · rw [List.mem_singleton.1 hy]; exact he, by simp; omega, by obtain ⟨p', h1, h2⟩ := (unhid HT5).1.rd; exact ⟨p', by omega, h2.low hlow hbl⟩, grown_low (unhid HT5).1.grown hlow⟩)
    clear hown hg hown2 hlow
    go_wp2_with fail
    go_ret
    exact ⟨_, rfl, _, unhid HF⟩
  · by_cases h0 : es = []
    · subst h0
      go_wp2_with fail
      go_ret
      exact ⟨_, rfl, [], (unhid HT3).1.v, (unhid HT3).1.nice, (unhid HT3).1.few, by obtain ⟨p', h1, h2⟩ := (unhid HT3).1.rd; exact ⟨p', by omega, h2⟩, (unhid HT3).1.grown⟩
    · have hl0 : (0 : Int) < (es.length : Int) := by have := List.length_pos_iff.2 h0; omega
      have hfew := (unhid HT3).2
      go_wp2_with fail
      obtain ⟨q2, hq2, hR⟩ := (unhid HT3).1.rd
      refine (pick_any w3 b a len cap q2 hR (by omega) es.length (by omega) (by omega)).mono ?_
      rintro e w4 ⟨j, hj, rfl, hR4, hG4⟩
      have HT4 := hid (And.intro ((unhid HT3).1.read hbl hG4 ⟨q2 + 1, Nat.le_refl _, hR4⟩) (unhid HT3).2)
      clear hR hR4 hG4 HT3
      go_wp2_with fail
      obtain ⟨q3, hq3, hR⟩ := (unhid HT4).1.rd
      refine (l11AnyEntry_any w4 b a len cap q3 hR (by omega)).mono ?_
      rintro x w5 ⟨⟨x, k, m, t⟩, he, rfl, ⟨q4, hq4, hR4⟩, hG4⟩
      have HT5 := hid (And.intro ((unhid HT4).1.read hbl hG4 ⟨q4, Nat.le_refl _, hR4⟩) (unhid HT4).2)
      clear hR hR4 hG4 HT4
      unfold Ent.vals
      dsimp only
      obtain ⟨_, _, hv, ho⟩ := (unhid HT5).1.v
      cases hv
      have hjl : j < es.length := by omega
      have hjl' : (j : Int) < (es.length : Int) := hj
      have HO := hid (ownsRow_set4 ho hjl rfl ⟨x, k, m, t⟩)
      have hlow := below_set4 (Below.refl w.heap.size w5) (ho.lt _ rfl).1 j ⟨x, k, m, t⟩
      have HL := hid hlow
      obtain ⟨a1, cap1, ev, hRr⟩ := rowIn_of_owns ho
      cases ev
      rcases hRr with hnil | ⟨g', hg', _, _, hRr⟩
      · rw [hnil] at hjl; simp at hjl
      cases hg'
      obtain ⟨⟨cc0, cc1, cc2, cc3⟩, f0, f1, f2, f3⟩ := hRr.cells j hjl
      clear hlow hRr ho h0
      go_wp2_with fail
      go_ret
      refine ⟨_, rfl, es.set j ⟨x, k, m, t⟩, ⟨g2, c2, by rw [List.length_set]; rfl, by rw [List.length_set]; exact unhid HO⟩, fun y hy => ?_, by rw [List.length_set]; omega, ?_, grown_low (unhid HT5).1.grown (unhid HL)⟩
      · rcases List.mem_or_eq_of_mem_set hy with hy | rfl
        · exact (unhid HT5).1.nice y hy
        · exact he
      · obtain ⟨p', h1, h2⟩ := (unhid HT5).1.rd
        exact ⟨p', by omega, h2.low (unhid HL) hbl⟩
  · have b0 : ((r : Int) == 0) = false := by rw [beq_eq_false_iff_ne]; omega
    have b1 : ((r : Int) == 1) = false := by rw [beq_eq_false_iff_ne]; omega
    go_wp2_with fail
    go_ret
    exact ⟨_, rfl, es, (unhid HT3).1.v, (unhid HT3).1.nice, (unhid HT3).1.few, by obtain ⟨p', h1, h2⟩ := (unhid HT3).1.rd; exact ⟨p', by omega, h2⟩, (unhid HT3).1.grown⟩
end Go.Proofs.YtoihhlkidlapmaaGreat

namespace Go.Proofs.YtoihhlkidlapmaaGreat
abbrev Pat (α : Type) := List (Option (α → Bool))
def starO {α : Type} (f : List α → Bool) : List α → Bool
  | [] => f []
  | c :: t => f (c :: t) || starO f t
def matchO {α : Type} : Pat α → List α → Bool
  | [], s => s.isEmpty
  | none :: g, s => starO (matchO g) s
  | some f :: g, s => match s with
    | [] => false
    | c :: t => f c && matchO g t
def runAt {α : Type} (xs : Pat α) (i : Nat) : Bool := match xs[i]? with
  | some none => true
  | _ => false
def takeAt {α : Type} (xs : Pat α) (i : Nat) (c : α) : Bool := match xs[i]? with
  | some (some f) => f c
  | _ => false
def skipN {α : Type} (xs : Pat α) (h : Nat → Bool) : Nat → Nat → Bool
  | 0 => h
  | k + 1 => fun j => skipN xs h k j || (j == k + 1 && (skipN xs h k k && runAt xs k))
def passN {α : Type} (xs : Pat α) (h : Nat → Bool) (c : α) : Nat → Nat → Bool
  | 0 => fun _ => false
  | k + 1 => fun j => passN xs h c k j || (h k && ((runAt xs k && j == k) || (takeAt xs k c && j == k + 1)))
def nextP {α : Type} (xs : Pat α) (h : Nat → Bool) (c : α) : Nat → Bool := skipN xs (passN xs h c xs.length) xs.length
def startP {α : Type} (xs : Pat α) : Nat → Bool := skipN xs (fun j => j == 0) xs.length
def placesP {α : Type} (xs : Pat α) (items : List α) : Nat → Bool := items.foldl (nextP xs) (startP xs)
theorem placesP_snoc {α : Type} (xs : Pat α) (items : List α) (c : α) : placesP xs (items ++ [c]) = nextP xs (placesP xs items) c := by simp [placesP]
theorem skipN_iff {α : Type} (xs : Pat α) (h : Nat → Bool) (k j : Nat) : skipN xs h k j = true ↔ ∃ i, i ≤ j ∧ h i = true ∧ (∀ t, i ≤ t → t < j → runAt xs t = true) ∧ (i = j ∨ j ≤ k) := by
  induction k generalizing j with
  | zero =>
    constructor
    · intro e; exact ⟨j, Nat.le_refl _, e, fun t h1 h2 => by omega, .inl rfl⟩
    · rintro ⟨i, h1, h2, _, h4⟩
      have : i = j := by omega
      subst this; exact h2
  | succ k ih =>
    unfold skipN
    rw [Bool.or_eq_true, Bool.and_eq_true, Bool.and_eq_true, ih j, ih k]
    constructor
    · rintro (⟨i, h1, h2, h3, h4⟩ | ⟨hj, ⟨i, h1, h2, h3, _⟩, hr⟩)
      · exact ⟨i, h1, h2, h3, by omega⟩
      · have hj' : j = k + 1 := by simpa using hj
        subst hj'
        refine ⟨i, by omega, h2, fun t a b => ?_, .inr (Nat.le_refl _)⟩
        by_cases e : t = k
        · subst e; exact hr
        · exact h3 t a (by omega)
    · rintro ⟨i, h1, h2, h3, h4⟩
      by_cases e : i = j ∨ j ≤ k
      · exact .inl ⟨i, h1, h2, h3, e⟩
      · have hj : j = k + 1 := by omega
        subst hj
        exact .inr ⟨by simp, ⟨i, by omega, h2, fun t a b => h3 t a (by omega), .inr (Nat.le_refl _)⟩, h3 k (by omega) (by omega)⟩
theorem passN_iff {α : Type} (xs : Pat α) (h : Nat → Bool) (c : α) (k j : Nat) : passN xs h c k j = true ↔ (j < k ∧ h j = true ∧ runAt xs j = true) ∨ ∃ i, i < k ∧ j = i + 1 ∧ h i = true ∧ takeAt xs i c = true := by
  induction k with
  | zero => simp [passN]
  | succ k ih =>
    unfold passN
    rw [Bool.or_eq_true, ih, Bool.and_eq_true, Bool.or_eq_true, Bool.and_eq_true, Bool.and_eq_true]
    simp only [beq_iff_eq]
    constructor
    · rintro ((⟨a, b, d⟩ | ⟨i, a, b, d, e⟩) | ⟨hk, ⟨a, rfl⟩ | ⟨a, rfl⟩⟩)
      · exact .inl ⟨by omega, b, d⟩
      · exact .inr ⟨i, by omega, b, d, e⟩
      · exact .inl ⟨by omega, hk, a⟩
      · exact .inr ⟨k, by omega, rfl, hk, a⟩
    · rintro (⟨a, b, d⟩ | ⟨i, a, b, d, e⟩)
      · by_cases ek : j = k
        · subst ek; exact .inr ⟨b, .inl ⟨d, rfl⟩⟩
        · exact .inl (.inl ⟨by omega, b, d⟩)
      · by_cases ek : i = k
        · subst ek; exact .inr ⟨d, .inr ⟨e, b⟩⟩
        · exact .inl (.inr ⟨i, by omega, b, d, e⟩)
theorem drop_at {α : Type} (xs : Pat α) (i : Nat) (x : Option (α → Bool)) (h : xs[i]? = some x) : xs.drop i = x :: xs.drop (i + 1) := by
  obtain ⟨hi, rfl⟩ := List.getElem?_eq_some_iff.1 h
  exact List.drop_eq_getElem_cons hi
theorem runAt_iff {α : Type} {xs : Pat α} {i : Nat} : runAt xs i = true ↔ xs[i]? = some none := by
  unfold runAt
  split <;> simp_all
theorem starO_of {α : Type} (f : List α → Bool) (s : List α) (h : f s = true) : starO f s = true := by
  cases s with
  | nil => exact h
  | cons c t => simp [starO, h]
theorem match_skip {α : Type} {xs : Pat α} {i : Nat} {r : List α} (hr : runAt xs i = true) (h : matchO (xs.drop (i + 1)) r = true) : matchO (xs.drop i) r = true := by
  rw [drop_at xs i none (runAt_iff.1 hr)]
  exact starO_of _ _ h
theorem match_skips {α : Type} {xs : Pat α} {r : List α} (i d : Nat) (hr : ∀ t, i ≤ t → t < i + d → runAt xs t = true) (h : matchO (xs.drop (i + d)) r = true) : matchO (xs.drop i) r = true := by
  induction d with
  | zero => exact h
  | succ d ih => exact ih (fun t a b => hr t a (by omega)) (match_skip (hr (i + d) (by omega) (by omega)) h)
def OkPl {α : Type} (xs : Pat α) (h : Nat → Bool) (pre : List α) : Prop :=
  (∀ rest, matchO xs (pre ++ rest) = true ↔ ∃ i, i ≤ xs.length ∧ h i = true ∧ matchO (xs.drop i) rest = true) ∧ ∀ i, i < xs.length → h i = true → runAt xs i = true → h (i + 1) = true
theorem okPl_start {α : Type} (xs : Pat α) : OkPl xs (startP xs) [] := by
  refine ⟨fun rest => ⟨fun h => ⟨0, Nat.zero_le _, ?_, h⟩, ?_⟩, fun i hi h hr => ?_⟩
  · exact (skipN_iff _ _ _ _).2 ⟨0, Nat.le_refl _, rfl, fun t _ b => by omega, .inl rfl⟩
  · rintro ⟨i, hi, h1, h2⟩
    obtain ⟨j, hj, hj0, hall, _⟩ := (skipN_iff _ _ _ _).1 h1
    have hj0' : j = 0 := by simpa using hj0
    subst hj0'
    exact match_skips (xs := xs) 0 i (fun t a b => hall t a (by omega)) (by simpa using h2)
  · obtain ⟨j, hj, hj0, hall, _⟩ := (skipN_iff _ _ _ _).1 h
    refine (skipN_iff _ _ _ _).2 ⟨j, by omega, hj0, fun t a b => ?_, .inr (by omega)⟩
    by_cases e : t = i
    · subst e; exact hr
    · exact hall t a (by omega)
theorem okPl_next {α : Type} {xs : Pat α} {h : Nat → Bool} {pre : List α} (c : α) (ok : OkPl xs h pre) : OkPl xs (nextP xs h c) (pre ++ [c]) := by
  obtain ⟨h1, h2⟩ := ok
  have hpass : ∀ i, i ≤ xs.length → passN xs h c xs.length i = true → nextP xs h c i = true := fun i _ hp =>
    (skipN_iff _ _ _ _).2 ⟨i, Nat.le_refl _, hp, fun t a b => by omega, .inl rfl⟩
  refine ⟨fun rest => ?_, fun i hi hn hr => ?_⟩
  · rw [List.append_assoc, List.singleton_append, h1]
    constructor
    · rintro ⟨i, hi, a, b⟩
      obtain ⟨d, hd⟩ : ∃ d, xs.length - i = d := ⟨_, rfl⟩
      induction d generalizing i with
      | zero =>
        rw [List.drop_of_length_le (by omega)] at b
        simp [matchO] at b
      | succ d ih =>
        have hlt : i < xs.length := by omega
        cases hx : xs[i] with
        | none =>
          have hxs : xs[i]? = some none := by rw [List.getElem?_eq_getElem hlt, hx]
          rw [drop_at xs i none hxs] at b
          simp only [matchO, starO, Bool.or_eq_true] at b
          rcases b with b | b
          · exact ih (i + 1) (by omega) (h2 i hlt a (runAt_iff.2 hxs)) b (by omega)
          · refine ⟨i, hi, hpass i hi ((passN_iff _ _ _ _ _).2 (.inl ⟨hlt, a, runAt_iff.2 hxs⟩)), ?_⟩
            rw [drop_at xs i none hxs]; exact b
        | some f =>
          have hxs : xs[i]? = some (some f) := by rw [List.getElem?_eq_getElem hlt, hx]
          rw [drop_at xs i _ hxs] at b
          simp only [matchO, Bool.and_eq_true] at b
          exact ⟨i + 1, by omega, hpass _ (by omega) ((passN_iff _ _ _ _ _).2 (.inr ⟨i, hlt, rfl, a, by unfold takeAt; rw [hxs]; exact b.1⟩)), b.2⟩
    · rintro ⟨j, hj, a, b⟩
      obtain ⟨i, hij, hp, hall, _⟩ := (skipN_iff _ _ _ _).1 a
      have b' : matchO (xs.drop i) rest = true := match_skips (xs := xs) i (j - i) (fun t p q => hall t p (by omega)) (by rw [show i + (j - i) = j by omega]; exact b)
      rcases (passN_iff _ _ _ _ _).1 hp with ⟨hi, hh, hr⟩ | ⟨k, hk, rfl, hh, ht⟩
      · refine ⟨i, by omega, hh, ?_⟩
        rw [drop_at xs i none (runAt_iff.1 hr)] at b' ⊢
        simp only [matchO, starO, Bool.or_eq_true] at b' ⊢
        exact .inr b'
      · refine ⟨k, by omega, hh, ?_⟩
        unfold takeAt at ht
        split at ht
        · rename_i f hxs
          rw [drop_at xs k _ hxs]
          simp only [matchO, Bool.and_eq_true]
          exact ⟨ht, b'⟩
        · cases ht
  · obtain ⟨k, hk, hp, hall, _⟩ := (skipN_iff _ _ _ _).1 hn
    refine (skipN_iff _ _ _ _).2 ⟨k, by omega, hp, fun t a b => ?_, .inr (by omega)⟩
    by_cases e : t = i
    · subst e; exact hr
    · exact hall t a (by omega)
theorem okPl_places {α : Type} (xs : Pat α) (items : List α) : OkPl xs (placesP xs items) items := by
  suffices ∀ (l : List α) (pre : List α), OkPl xs (placesP xs pre) pre → OkPl xs (placesP xs (pre ++ l)) (pre ++ l) by
    simpa using this items [] (okPl_start xs)
  intro l
  induction l with
  | nil => intro pre h; simpa using h
  | cons c l ih =>
    intro pre h
    have := ih (pre ++ [c]) (by rw [placesP_snoc]; exact okPl_next c h)
    simpa using this
theorem match_end {α : Type} {xs : Pat α} {h : Nat → Bool} {pre : List α} (ok : OkPl xs h pre) : h xs.length = matchO xs pre := by
  obtain ⟨h1, h2⟩ := ok
  rw [Bool.eq_iff_iff]
  have h1' := h1 []
  rw [List.append_nil] at h1'
  rw [h1']
  constructor
  · intro hn
    exact ⟨xs.length, Nat.le_refl _, hn, by simp [matchO]⟩
  · rintro ⟨i, hi, a, b⟩
    obtain ⟨d, hd⟩ : ∃ d, xs.length - i = d := ⟨_, rfl⟩
    induction d generalizing i with
    | zero => have : i = xs.length := by omega
              subst this; exact a
    | succ d ih =>
      have hlt : i < xs.length := by omega
      cases hx : xs[i] with
      | none =>
        have hxs : xs[i]? = some none := by rw [List.getElem?_eq_getElem hlt, hx]
        rw [drop_at xs i none hxs] at b
        exact ih (i + 1) (by omega) (h2 i hlt a (runAt_iff.2 hxs)) b (by omega)
      | some f =>
        have hxs : xs[i]? = some (some f) := by rw [List.getElem?_eq_getElem hlt, hx]
        rw [drop_at xs i _ hxs] at b
        simp [matchO] at b
theorem places_match {α : Type} (xs : Pat α) (items : List α) : placesP xs items xs.length = matchO xs items := match_end (okPl_places xs items)
end Go.Proofs.YtoihhlkidlapmaaGreat

namespace Go.Proofs.YtoihhlkidlapmaaGreat
open Go.RowKit Go.Shelf
def hasA (s p : ByteArray) : Bool := Lib.hasPrefix s.data.toList p.data.toList
def cutA (s p : ByteArray) : ByteArray := if hasA s p then s.extract p.size s.size else s
end Go.Proofs.YtoihhlkidlapmaaGreat

namespace Go.Proofs.YtoihhlkidlapmaaGreat
open Go.RowKit Go.Shelf
abbrev W8 := Option (Option (UInt8 ⊕ ByteArray × Bool))
abbrev W8.star : W8 := none
abbrev W8.any : W8 := some none
abbrev W8.byte (c : UInt8) : W8 := some (some (.inl c))
abbrev W8.cls (inner : ByteArray) (others : Bool) : W8 := some (some (.inr (inner, others)))
def WantIs (W : World) (P : Nat → Prop) : W8 → Bool → Value → Prop
  | none, run, fv => run = true ∧ fv = .nilFunc
  | some none, run, fv => run = false ∧ fv = .func (.func 280) #[] #[]
  | some (some (.inl c)), run, fv => run = false ∧ ∃ b, fv = .func (.func 282) #[] #[.pointer (some ⟨b, 0, none⟩)] ∧ P b ∧ b < W.heap.size ∧ W.cell? ⟨b, 0, none⟩ = some (.int .u8 c.toNat)
  | some (some (.inr (inner, others))), run, fv => run = false ∧ ∃ b d, fv = .func (.func 287) #[] #[.pointer (some ⟨b, 0, none⟩), .pointer (some ⟨d, 0, none⟩)] ∧ (P b ∧ b < W.heap.size ∧ W.cell? ⟨b, 0, none⟩ = some (.string inner)) ∧ P d ∧ d < W.heap.size ∧ W.cell? ⟨d, 0, none⟩ = some (.bool others)
def WantR (W : World) (P : Nat → Prop) (r : Option (W8 × Nat)) (run : Bool) (fv : Value) (sz : Int) (ok : Bool) : Prop :=
  match r with
  | none => run = false ∧ fv = .nilFunc ∧ sz = 0 ∧ ok = false
  | some (x, n) => ok = true ∧ sz = n ∧ WantIs W P x run fv
theorem WantIs.kept {W W' : World} {P P' : Nat → Prop} {x : W8} {run : Bool} {fv : Value} (h : WantIs W P x run fv) (hs : W.heap.size ≤ W'.heap.size) (hk : ∀ b, P b → b < W.heap.size → W'.heap[b]? = W.heap[b]?) (hP : ∀ b, P b → b < W.heap.size → P' b) : WantIs W' P' x run fv := by
  rcases x with _ | _ | c | ⟨inner, others⟩
  · exact h
  · exact h
  · obtain ⟨h0, b, h1, h2, h3, h4⟩ := h
    exact ⟨h0, b, h1, hP b h2 h3, Nat.lt_of_lt_of_le h3 hs, (World.cell?_of_block (w := W) (hk b h2 h3)).trans h4⟩
  · obtain ⟨h0, b, d, h1, ⟨h2, h3, h4⟩, h5, h6, h7⟩ := h
    exact ⟨h0, b, d, h1, ⟨hP b h2 h3, Nat.lt_of_lt_of_le h3 hs, (World.cell?_of_block (w := W) (hk b h2 h3)).trans h4⟩, hP d h5 h6, Nat.lt_of_lt_of_le h6 hs, (World.cell?_of_block (w := W) (hk d h5 h6)).trans h7⟩
theorem WantR.kept {W W' : World} {P P' : Nat → Prop} {r : Option (W8 × Nat)} {run : Bool} {fv : Value} {sz : Int} {ok : Bool} (h : WantR W P r run fv sz ok) (hs : W.heap.size ≤ W'.heap.size) (hk : ∀ b, P b → b < W.heap.size → W'.heap[b]? = W.heap[b]?) (hP : ∀ b, P b → b < W.heap.size → P' b) : WantR W' P' r run fv sz ok := by
  cases r with
  | none => exact h
  | some p => obtain ⟨x, n⟩ := p; exact ⟨h.1, h.2.1, h.2.2.kept hs hk hP⟩
theorem WantIs.form {W : World} {P : Nat → Prop} {x : W8} {run : Bool} {fv : Value} (h : WantIs W P x run fv) : fv = .nilFunc ∨ ∃ f ca, fv = .func (.func f) #[] ca := by
  rcases x with _ | _ | c | ⟨inner, others⟩
  · exact .inl h.2
  · exact .inr ⟨_, _, h.2⟩
  · obtain ⟨_, b, g1, _⟩ := h; exact .inr ⟨_, _, g1⟩
  · obtain ⟨_, b, d, g1, _⟩ := h; exact .inr ⟨_, _, g1⟩
def bang : ByteArray := ⟨#[33]⟩
def clsA (s : ByteArray) (i : Nat) : ByteArray := cutA (s.extract 1 i) bang
def classR (s : ByteArray) : Option (W8 × Nat) :=
  if Lib.indexByte s.data.toList 93 < 0 then none
  else if (clsA s (Lib.indexByte s.data.toList 93).toNat).toList.isEmpty || !((clsA s (Lib.indexByte s.data.toList 93).toNat).data.toList.all fun c => nameB c.toNat) then none
  else some (.cls (clsA s (Lib.indexByte s.data.toList 93).toNat) (hasA (s.extract 1 (Lib.indexByte s.data.toList 93).toNat) bang), (Lib.indexByte s.data.toList 93).toNat + 1)
def firstR (s : ByteArray) (c : UInt8) : Option (W8 × Nat) :=
  if c = 42 then some (.star, 1) else if c = 63 then some (.any, 1) else if c = 91 then classR s else if nameB c.toNat then some (.byte c, 1) else none
theorem eq_no {c b : UInt8} {n : Int} (hn : (b.toNat : Int) = n) (h : c ≠ b) : (((c.toNat : Nat) : Int) == n) = false := by
  rw [beq_eq_false_iff_ne]
  intro e
  exact h (UInt8.toNat_inj.1 (by omega))
end Go.Proofs.YtoihhlkidlapmaaGreat

namespace Go.Proofs.YtoihhlkidlapmaaGreat
open Go.RowKit Go.Shelf
theorem firstR_le {s : ByteArray} {x : W8} {n : Nat} (h0 : 0 < s.size) (h : firstR s s[0] = some (x, n)) : 1 ≤ n ∧ n ≤ s.size := by
  unfold firstR at h
  split at h
  · cases h; omega
  · split at h
    · cases h; omega
    · split at h
      · unfold classR at h
        split at h
        · cases h
        · split at h
          · cases h
          · rename_i hi _
            cases h
            obtain ⟨i, ei⟩ : ∃ i : Nat, Lib.indexByte s.data.toList 93 = i := ⟨(Lib.indexByte s.data.toList 93).toNat, by omega⟩
            have hil : i < s.size := by rw [Lib.size_eq]; exact (cutB_some 93 _ i ei).1
            rw [ei]; simp; omega
      · split at h
        · cases h; omega
        · cases h
def wantsF : Nat → ByteArray → Option (List W8)
  | 0, s => if s.size = 0 then some [] else none
  | f + 1, s => if h : 0 < s.size then
      match firstR s s[0] with
      | none => none
      | some (x, n) => (wantsF f (s.extract n s.size)).map (x :: ·)
    else some []
def wants (s : ByteArray) : Option (List W8) := wantsF s.size s
theorem wantsF_any : ∀ (f g : Nat) (s : ByteArray), s.size ≤ f → s.size ≤ g → wantsF f s = wantsF g s := by
  intro f
  induction f with
  | zero =>
    intro g s hf _
    have h0 : s.size = 0 := by omega
    cases g with
    | zero => rfl
    | succ g => unfold wantsF; rw [if_pos h0, dif_neg (by omega)]
  | succ f ih =>
    intro g s hf hg
    by_cases h0 : 0 < s.size
    · cases g with
      | zero => omega
      | succ g =>
        unfold wantsF
        rw [dif_pos h0, dif_pos h0]
        cases hr : firstR s s[0] with
        | none => rfl
        | some p =>
          obtain ⟨x, n⟩ := p
          have hn := firstR_le h0 hr
          show (wantsF f (s.extract n s.size)).map _ = (wantsF g (s.extract n s.size)).map _
          rw [ih g _ (by rw [ByteArray.size_extract]; omega) (by rw [ByteArray.size_extract]; omega)]
    · cases g with
      | zero => unfold wantsF; rw [dif_neg h0, if_pos (by omega)]
      | succ g => unfold wantsF; rw [dif_neg h0, dif_neg h0]
theorem wants_nil {s : ByteArray} (h : s.size = 0) : wants s = some [] := by
  unfold wants; rw [h]; unfold wantsF; rw [if_pos h]
theorem wants_none {s : ByteArray} (h0 : 0 < s.size) (h : firstR s s[0] = none) : wants s = none := by
  unfold wants
  rw [wantsF_any s.size (s.size + 1) s (Nat.le_refl _) (Nat.le_succ _)]
  unfold wantsF
  rw [dif_pos h0, h]
theorem wants_some {s : ByteArray} {x : W8} {n : Nat} (h0 : 0 < s.size) (h : firstR s s[0] = some (x, n)) : wants s = (wants (s.extract n s.size)).map (x :: ·) := by
  have hn := firstR_le h0 h
  unfold wants
  rw [wantsF_any s.size (s.size + 1) s (Nat.le_refl _) (Nat.le_succ _)]
  show wantsF (s.size + 1) s = _
  rw [wantsF, dif_pos h0, h]
  show (wantsF s.size (s.extract n s.size)).map _ = _
  rw [wantsF_any s.size (s.extract n s.size).size _ (by rw [ByteArray.size_extract]; omega) (Nat.le_refl _)]
def Wants (W : World) (base : Nat) (v : Value) (xs : List W8) : Prop :=
  ∃ cells, W.ownsRow base 270 2 v xs.length cells ∧ ∀ i x, xs[i]? = some x → ∃ run fv, cells[2 * i]? = some (.bool run) ∧ cells[2 * i + 1]? = some fv ∧ WantIs W (fun b => base ≤ b ∧ v.ownBlock ≠ some b) x run fv
end Go.Proofs.YtoihhlkidlapmaaGreat

namespace Go.Proofs.YtoihhlkidlapmaaGreat
open Go.RowKit Go.Shelf
def WantsP (W : World) (P : Nat → Prop) (v : Value) (xs : List W8) : Prop :=
  ∃ base cells, W.ownsRow base 270 2 v xs.length cells ∧ (∀ g, v.ownBlock = some g → P g) ∧ ∀ i x, xs[i]? = some x → ∃ run fv, cells[2 * i]? = some (.bool run) ∧ cells[2 * i + 1]? = some fv ∧ WantIs W P x run fv
theorem Wants.p {W : World} {base : Nat} {v : Value} {xs : List W8} (h : Wants W base v xs) : WantsP W (fun b => base ≤ b) v xs := by
  obtain ⟨cells, h1, h2⟩ := h
  refine ⟨base, cells, h1, fun g e => (h1.lt g e).1, fun i x hi => ?_⟩
  obtain ⟨run, fv, g1, g2, g3⟩ := h2 i x hi
  exact ⟨run, fv, g1, g2, g3.kept (Nat.le_refl _) (fun _ _ _ => rfl) (fun b hb _ => hb.1)⟩
theorem ownsRow_keptG {w w' : World} {base : Nat} {e : TypeId} {size : Nat} {v : Value} {n : Nat} {xs : List Value} (h : w.ownsRow base e size v n xs) (hk : ∀ g, v.ownBlock = some g → w'.heap[g]? = w.heap[g]?) : w'.ownsRow base e size v n xs := by
  refine ⟨h.1, ?_⟩
  rcases h.2 with h1 | ⟨g, cap, cur, rfl, h2, h3, h4⟩
  · exact .inl h1
  · exact .inr ⟨g, cap, cur, rfl, h2, by rw [hk g rfl]; exact h3, h4⟩
theorem WantsP.kept {W W' : World} {P P' : Nat → Prop} {v : Value} {xs : List W8} (h : WantsP W P v xs) (hs : W.heap.size ≤ W'.heap.size) (hk : ∀ b, P b → b < W.heap.size → W'.heap[b]? = W.heap[b]?) (hP : ∀ b, P b → b < W.heap.size → P' b) : WantsP W' P' v xs := by
  obtain ⟨base, cells, h1, h2, h3⟩ := h
  refine ⟨base, cells, ownsRow_keptG h1 (fun g e => hk g (h2 g e) (h1.lt g e).2), fun g e => hP g (h2 g e) (h1.lt g e).2, fun i x hi => ?_⟩
  obtain ⟨run, fv, g1, g2, g3⟩ := h3 i x hi
  exact ⟨run, fv, g1, g2, g3.kept hs hk hP⟩
abbrev W9 := Option (List W8)
abbrev W9.deep : W9 := none
abbrev W9.name (xs : List W8) : W9 := some xs
def nameW (s : ByteArray) : Option W9 := if (s.toList == [42, 42]) = true then some .deep else match wants s with
  | some (x :: xs) => some (.name (x :: xs))
  | _ => none
def NameIs (W : World) (P : Nat → Prop) : W9 → Bool → Value → Prop
  | none, run, fv => run = true ∧ fv = .nilFunc
  | some xs, run, fv => run = false ∧ ∃ b v, fv = .func (.func 227) #[] #[.pointer (some ⟨b, 0, none⟩)] ∧ P b ∧ b < W.heap.size ∧ W.cell? ⟨b, 0, none⟩ = some v ∧ WantsP W P v xs
theorem NameIs.kept {W W' : World} {P P' : Nat → Prop} {x : W9} {run : Bool} {fv : Value} (h : NameIs W P x run fv) (hs : W.heap.size ≤ W'.heap.size) (hk : ∀ b, P b → b < W.heap.size → W'.heap[b]? = W.heap[b]?) (hP : ∀ b, P b → b < W.heap.size → P' b) : NameIs W' P' x run fv := by
  rcases x with _ | xs
  · exact h
  · obtain ⟨h0, b, v, h1, h2, h3, h4, h5⟩ := h
    exact ⟨h0, b, v, h1, hP b h2 h3, Nat.lt_of_lt_of_le h3 hs, (World.cell?_of_block (w := W) (hk b h2 h3)).trans h4, h5.kept hs hk hP⟩
end Go.Proofs.YtoihhlkidlapmaaGreat
