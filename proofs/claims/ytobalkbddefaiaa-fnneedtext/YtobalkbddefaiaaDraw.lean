/- What the laws' draws give: numbers below a bound, texts that are short. -/
import Derived.Test.YtobalkbddefaiaaBytes
import Derived.Deep.Draws
import Derived.Laws.AppendOwn
import Derived.RangeFuncBox
namespace Go.Proofs.Ytobalkbddefaiaa
open Go.RowKit

/-- The reader at block b: what it reads of, and where it stands. -/
structure Rd (w : World) (b : Nat) (a : Option Addr) (len cap p : Nat) : Prop where
  c0 : w.cell? ⟨b, 0, none⟩ = some (.slice a len cap)
  c1 : w.cell? ⟨b, 1, none⟩ = some (.int .i64 p)
  f1 : w.frozen? ⟨b, 1, none⟩ = false
  l : len ≤ 2000
  d : len = 0 ∨ ∃ blk off, a = some ⟨blk, off, none⟩ ∧ blk < b ∧ ∀ k, k < len → ∃ c : Nat, c < 256 ∧ w.cell? ⟨blk, off + k, none⟩ = some (.int .u8 c)

theorem wrap_in (x : Int) (h0 : 0 ≤ x) (h : x < 4611686018427387904) : IntKind.i64.wrap x = x := by
  rw [IntKind.wrap_i64]; omega
theorem xor_i64 (a b : Int) (ha0 : 0 ≤ a) (ha : a < 4611686018427387904) (hb0 : 0 ≤ b) (hb : b < 4611686018427387904) : 0 ≤ bits .xor .i64 a b := by
  obtain ⟨x, rfl⟩ := Int.eq_ofNat_of_zero_le ha0
  obtain ⟨y, rfl⟩ := Int.eq_ofNat_of_zero_le hb0
  have hx : x ^^^ y < 2 ^ 62 := Nat.xor_lt_two_pow (by omega) (by omega)
  have h1 : (BitVec.ofInt 64 (x : Int)).toNat = x := by
    rw [BitVec.ofInt_natCast, BitVec.toNat_ofNat]; exact Nat.mod_eq_of_lt (by omega)
  have h2 : (BitVec.ofInt 64 (y : Int)).toNat = y := by
    rw [BitVec.ofInt_natCast, BitVec.toNat_ofNat]; exact Nat.mod_eq_of_lt (by omega)
  show 0 ≤ IntKind.i64.wrap ((BitVec.ofInt 64 (x : Int) ^^^ BitVec.ofInt 64 (y : Int)).toNat : Int)
  rw [BitVec.toNat_xor, h1, h2, wrap_in _ (by omega) (by omega)]
  omega
theorem set1_grown (w : World) (b : Nat) (v : Value) : w.grownBy (w.setCell ⟨b, 1, none⟩ v) (some b) :=
  ⟨rfl, rfl, rfl, by simp, fun k _ hne => Below.heap_setCell w ⟨b, 1, none⟩ v k (fun e => hne (by rw [e]))⟩
theorem Rd.step {w : World} {b : Nat} {a : Option Addr} {len cap p : Nat} (h : Rd w b a len cap p) : Rd (w.setCell ⟨b, 1, none⟩ (.int .i64 ((p : Int) + 1))) b a len cap (p + 1) where
  c0 := by rw [World.cell?_setCell_other (h := by simp)]; exact h.c0
  c1 := by rw [World.cell?_setCell_same' _ _ _ (by rw [h.c1]; rfl)]; simp
  f1 := by rw [World.frozen?_setCell]; exact h.f1
  l := h.l
  d := by
    rcases h.d with h0 | ⟨blk, off, ha, hb, hc⟩
    · exact .inl h0
    · refine .inr ⟨blk, off, ha, hb, fun k hk => ?_⟩
      obtain ⟨c, h1, h2⟩ := hc k hk
      exact ⟨c, h1, (World.cell?_of_block (w := w) (Below.heap_setCell w ⟨b, 1, none⟩ _ blk (by simp; omega))).trans h2⟩
theorem Rd.drewN {w : World} {b : Nat} {a : Option Addr} {len cap p : Nat} (h : Rd w b a len cap p) (m : Nat) : Rd (w.drewN m) b a len cap p := ⟨h.c0, h.c1, h.f1, h.l, h.d⟩
theorem grown_drewN {w w' : World} {r : Option Nat} (h : w.grownBy w' r) (m : Nat) : w.grownBy (w'.drewN m) r := ⟨h.os, h.tape, h.output, h.size, h.block⟩

set_option maxRecDepth 100000 in
set_option maxHeartbeats 1000000 in
theorem pick_any (w : World) (b : Nat) (a : Option Addr) (len cap p : Nat) (h : Rd w b a len cap p) (hp : p ≤ 1048576) (n : Int) (h1 : 1 ≤ n) (h2 : n ≤ 1048576) :
    Calls Try.prog 43 #[.pointer (some ⟨b, 0, none⟩), .int .i64 n] w fun e w' => ∃ r : Nat, (r : Int) < n ∧ e = .returned (.int .i64 r) ∧ Rd w' b a len cap (p + 1) ∧ w.grownBy w' (some b) := by
  have hst := hid h.step
  have hgr := hid (set1_grown w b (.int .i64 ((p : Int) + 1)))
  obtain ⟨c0, c1, f1, l, d⟩ := h
  have D := hid d
  clear d
  by_cases hl : len = 0
  · subst hl
    go_enter Try.func43, Try.ntmps43
    go_wp2
    go_ret
    exact ⟨0, by omega, rfl, unhid hst, unhid hgr⟩
  · have hl0 : ((len : Int) == 0) = false := by rw [beq_eq_false_iff_ne]; omega
    obtain ⟨blk, off, rfl, hb, hc⟩ := (unhid D).resolve_left hl
    by_cases hk : p < len
    · obtain ⟨c, hc1, hc2⟩ := hc p hk
      have Hc := hid hc
      clear hc
      go_enter Try.func43, Try.ntmps43
      go_wp2
      go_ret
      refine ⟨((c : Int) % n).toNat, ?_, ?_, unhid hst, unhid hgr⟩
      · have := Int.emod_lt_of_pos (c : Int) (show 0 < n by omega); have := Int.emod_nonneg (c : Int) (show n ≠ 0 by omega); omega
      · rw [Int.toNat_of_nonneg (Int.emod_nonneg _ (by omega))]; rfl
    · obtain ⟨q, hq, hql⟩ : ∃ q : Nat, (p : Int).tmod len = q ∧ q < len := ⟨p % len, by rw [Int.tmod_eq_emod_of_nonneg (by omega)]; simp, Nat.mod_lt _ (by omega)⟩
      obtain ⟨q2, hq2, hql2⟩ : ∃ q2 : Nat, ((p : Int) * 7 + 3).tmod len = q2 ∧ q2 < len := ⟨(p * 7 + 3) % len, by rw [Int.tmod_eq_emod_of_nonneg (by omega)]; simp, Nat.mod_lt _ (by omega)⟩
      obtain ⟨d, hd, hdl⟩ : ∃ d : Nat, (p : Int).tdiv len = d ∧ d ≤ p := ⟨p / len, by rw [Int.tdiv_eq_ediv_of_nonneg (by omega)]; simp, Nat.div_le_self _ _⟩
      obtain ⟨x, hx1, hx2⟩ := hc _ hql
      obtain ⟨y, hy1, hy2⟩ := hc _ hql2
      have Hc := hid hc
      clear hc
      have w1 := wrap_in ((p : Int) * 7) (by omega) (by omega)
      have w2 := wrap_in ((p : Int) * 7 + 3) (by omega) (by omega)
      have e1 := wrap_in ((x : Int) * 131) (by omega) (by omega)
      have e2 := wrap_in ((y : Int) * 1117) (by omega) (by omega)
      have e3 := wrap_in ((x : Int) * 131 + (y : Int) * 1117) (by omega) (by omega)
      have e4 := wrap_in ((p : Int) * 29) (by omega) (by omega)
      have e5 := wrap_in ((x : Int) * 131 + (y : Int) * 1117 + (p : Int) * 29) (by omega) (by omega)
      have e6 := wrap_in ((d : Int) * 53) (by omega) (by omega)
      have e7 := wrap_in ((x : Int) * 131 + (y : Int) * 1117 + (p : Int) * 29 + (d : Int) * 53) (by omega) (by omega)
      go_enter Try.func43, Try.ntmps43
      go_wp2
      refine wp_region_quiet_lit (by kernel_rfl) (by kernel_rfl) ?_
      repeat (quiet_step (fail))
      refine wpQuiet_nil ?_
      intro _ hw'
      obtain ⟨nq, hw''⟩ := hw'
      subst hw''
      go_wp2
      go_ret
      have hx0 := xor_i64 ((x : Int) * 131 + (y : Int) * 1117 + (p : Int) * 29 + (d : Int) * 53) (((x : Int) * 131 + (y : Int) * 1117 + (p : Int) * 29 + (d : Int) * 53) / 64) (by omega) (by omega) (by omega) (by omega)
      generalize hX : bits .xor .i64 ((x : Int) * 131 + (y : Int) * 1117 + (p : Int) * 29 + (d : Int) * 53) (((x : Int) * 131 + (y : Int) * 1117 + (p : Int) * 29 + (d : Int) * 53) / 64) = X at hx0 ⊢
      have t0 : X.tmod n = X % n := Int.tmod_eq_emod_of_nonneg hx0
      have t1 := Int.emod_lt_of_pos X (show 0 < n by omega)
      have t2 := Int.emod_nonneg X (show n ≠ 0 by omega)
      refine ⟨(X % n).toNat, by omega, ?_, (unhid hst).drewN _, grown_drewN (unhid hgr) _⟩
      rw [Int.toNat_of_nonneg t2, ← t0]
      rfl
end Go.Proofs.Ytobalkbddefaiaa
