/- Rows of entries between two bounds; what is written over them is there, and nothing else changes. -/
import Derived.Test.YtlnehebihfeegaaMark
import Derived.Test.YtlnehebihfeegaaCalm
namespace Go.Proofs.Ytlnehebihfeegaa
open Go.RowKit Go.Shelf

/-- Entries in a row of their own, whose block is from N on, ahead of M. -/
def RowIn (W : World) (a : Option Addr) (N M : Nat) (es : List Ent) : Prop := es = [] ∨ ∃ g, a = some ⟨g, 0, .none⟩ ∧ N ≤ g ∧ g < M ∧ RowE W g es.length (entFn es)
theorem RowIn.at {W : World} {a : Option Addr} {N M : Nat} {es : List Ent} (h : RowIn W a N M es) : EntsAt W a es := by
  rcases h with h | ⟨g, rfl, _, _, hR⟩
  · exact .inl h
  · refine .inr ⟨g, 0, rfl, hR.lt, fun i e hi => ?_⟩
    have := (hR.cells i (List.getElem?_eq_some_iff.1 hi).1).1
    rw [entFn_get hi] at this
    rwa [Nat.zero_add]
/-- Nothing changes but blocks from N on, ahead of M. -/
structure Spares (N M : Nat) (w w' : World) : Prop where
  os : w'.os = w.os
  tape : w'.tape = w.tape
  output : w'.output = w.output
  size : w.heap.size ≤ w'.heap.size
  block : ∀ k, k < w.heap.size → (k < N ∨ M ≤ k) → w'.heap[k]? = w.heap[k]?
theorem Spares.row {w w' : World} {N M N2 M2 : Nat} {a : Option Addr} {es : List Ent} (h : Spares N M w w') (x : RowIn w a N2 M2 es) (hd : M2 ≤ N ∨ M ≤ N2) : RowIn w' a N2 M2 es := by
  rcases x with x | ⟨g, rfl, h1, h2, hR⟩
  · exact .inl x
  · exact .inr ⟨g, rfl, h1, h2, hR.block (h.block g hR.lt (by omega))⟩
theorem Spares.below {w0 w w' : World} {N M : Nat} (h : Spares N M w w') (hb : Below w0.heap.size w0 w) (hN : w0.heap.size ≤ N) : Below w0.heap.size w0 w' :=
  ⟨h.os.trans hb.os, h.tape.trans hb.tape, h.output.trans hb.output, Nat.le_trans hb.size h.size, fun k hk => (h.block k (Nat.lt_of_lt_of_le hk hb.size) (by omega)).trans (hb.block k hk)⟩
theorem RowIn.below {w w' : World} {N M : Nat} {a : Option Addr} {es : List Ent} (x : RowIn w a N M es) (h : Below w.heap.size w w') : RowIn w' a N M es := by
  rcases x with x | ⟨g, rfl, h1, h2, hR⟩
  · exact .inl x
  · exact .inr ⟨g, rfl, h1, h2, hR.block (h.block g hR.lt)⟩
theorem RowIn.wide {w : World} {N M N2 M2 : Nat} {a : Option Addr} {es : List Ent} (x : RowIn w a N M es) (hN : N2 ≤ N) (hM : M ≤ M2) : RowIn w a N2 M2 es := by
  rcases x with x | ⟨g, rfl, h1, h2, hR⟩
  · exact .inl x
  · exact .inr ⟨g, rfl, by omega, by omega, hR⟩
def marks (q n : Nat) : List Ent := (List.range n).map (markE q)
theorem marks_len (q n : Nat) : (marks q n).length = n := by simp [marks]
theorem marks_get {q n i : Nat} (h : i < n) : entFn (marks q n) i = markE q i := entFn_get (by simp [marks, h])

set_option maxRecDepth 100000 in
set_option maxHeartbeats 1000000 in
theorem markEntryS_any (es : List Ent) (a : Option Addr) (cap q N M : Nat) (w : World) (hn : es.length ≤ 1048576) (hq : 0 < q) (hq2 : q ≤ 20000000) (h : RowIn w a N M es) :
    Calls Try.prog 32 #[.slice a es.length cap, .int .i64 (q : Int)] w fun x w' => x = .returned (.int .i64 ((q + es.length * 4 : Nat) : Int)) ∧ RowIn w' a N M (marks q es.length) ∧ Spares N M w w' := by
  rcases h with rfl | ⟨g, rfl, h1, h2, hR⟩
  · go_enter Try.func32, Try.ntmps32
    go_wp2_with fail
    go_loopw [1, 5] (fun c i wr => i = .int .i64 0 ∧ c = .int .i64 (q : Int) ∧ wr = w) (fun _ i _ => 0)
    case atStart => exact ⟨rfl, rfl, rfl⟩
    case round =>
      obtain ⟨rfl, rfl, rfl⟩ := hrel
      go_wp2_with fail
      go_ret
      exact ⟨ret_int (by simp), .inl (by simp [marks]), ⟨rfl, rfl, rfl, Nat.le_refl _, fun _ _ _ => rfl⟩⟩
  · refine (markEntryS_row g es.length cap q _ w hn hq hq2 hR).mono ?_
    rintro x w' ⟨rfl, hR', hG⟩
    refine ⟨rfl, .inr ⟨g, rfl, h1, h2, ?_⟩, ⟨hG.os, hG.tape, hG.output, hG.size, fun k hk hor => hG.block k hk (fun e => by cases e; omega)⟩⟩
    rw [marks_len]
    exact hR'.congr (fun j hj => (marks_get hj).symm)

set_option maxRecDepth 100000 in
set_option maxHeartbeats 4000000 in
theorem heldEntryS_any (n : Nat) (a : Option Addr) (cap q : Nat) (w : World) (hn : n ≤ 1048576) (hq : 0 < q) (hq2 : q ≤ 20000000) (h : EntsAt w a (marks q n)) :
    Calls Try.prog 33 #[.slice a n cap, .int .i64 (q : Int)] w fun x w' => x = .returned (.int .i64 ((q + n * 4 : Nat) : Int)) ∧ Below w.heap.size w w' := by
  go_enter Try.func33, Try.ntmps33
  go_wp2_with fail
  go_loopw [1, 5] (fun c i wr => ∃ k : Nat, k ≤ n ∧ i = .int .i64 (k : Int) ∧ c = .int .i64 ((q + k * 4 : Nat) : Int) ∧ Below w.heap.size w wr) (fun _ i _ => n - (intOf i).toNat)
  case atStart => exact ⟨0, Nat.zero_le _, rfl, by go_num, Below.refl _ _⟩
  case round =>
    obtain ⟨k, hk, rfl, rfl, hB⟩ := hrel
    by_cases hlt : k < n
    · have he : (marks q n)[k]? = some (markE q k) := by simp [marks, hlt]
      obtain ⟨b, o, rfl, hbl, hc⟩ := h.get (by intro e; rw [e] at he; cases he)
      obtain ⟨c0, c1, c2, c3⟩ := ((hc k _ he).below hB hbl)
      have HH := hid (And.intro hc hB)
      have hbw : b < wr.heap.size := Nat.lt_of_lt_of_le hbl hB.size
      have HC := hid (And.intro c0 (And.intro c1 (And.intro c2 c3)))
      have g0 := BW.cell (B := wr.heap.size) hbw (show wr.cell? ⟨b, o + k * 4, none⟩ = some (.string (mtext (q + k * 4))) from c0)
      clear hc hB he h c0 c1 c2 c3
      go_wp2_with fail
      have hba := @BW.all wr.heap.size wr
      refine calm_region wr.heap.size (by kernel_rfl) (by kernel_rfl) ?_
      repeat (go_big_quiet_step ((go_at_call 63; exact Calls.bw (v := .string (mtext (q + k * 4))) (Nat.le_refl _) (markText_at _ (q + k * 4) _ (by omega) (by omega) (by omega)))))
      refine wpQuiet_nil ?_
      intro w4 hw
      obtain ⟨x, hx⟩ := hw
      have hB4 : Below wr.heap.size wr w4 := by rw [hx]; exact x.h
      clear hx x g0 hba
      obtain ⟨c0, c1, c2, c3⟩ := unhid HC
      have d1 : w4.cell? ⟨b, o + k * 4 + 1, none⟩ = some (.int .i64 ((q : Int) + (k : Int) * 4 + 1)) := ((hB4.cell (p := ⟨b, o + k * 4 + 1, none⟩) hbw).trans c1).trans (by simp [markE])
      have d2 : w4.cell? ⟨b, o + k * 4 + 2, none⟩ = some (.int .i64 ((q : Int) + (k : Int) * 4 + 1 + 1)) := ((hB4.cell (p := ⟨b, o + k * 4 + 2, none⟩) hbw).trans c2).trans (by simp [markE]; omega)
      have d3 : w4.cell? ⟨b, o + k * 4 + 3, none⟩ = some (.string (mtext (q + k * 4 + 3))) := (hB4.cell (p := ⟨b, o + k * 4 + 3, none⟩) hbw).trans c3
      have HB4 := hid ((unhid HH).2.trans (hB4.mono (unhid HH).2.size))
      have hbw4 : b < w4.heap.size := Nat.lt_of_lt_of_le hbw hB4.size
      have g3 := BW.cell (B := w4.heap.size) hbw4 d3
      clear c0 c1 c2 c3 HC hB4 HH d3
      go_wp2_with fail
      have hba := @BW.all w4.heap.size w4
      refine calm_region w4.heap.size (by kernel_rfl) (by kernel_rfl) ?_
      repeat (go_big_quiet_step ((go_at_call 63; exact Calls.bw (v := .string (mtext (q + k * 4 + 3))) (Nat.le_refl _) (markText_at _ (q + k * 4 + 3) _ (by omega) (by omega) (by omega)))))
      refine wpQuiet_nil ?_
      intro w5 hw
      obtain ⟨x, hx⟩ := hw
      have hB5 : Below w4.heap.size w4 w5 := by rw [hx]; exact x.h
      have HB5 := hid ((unhid HB4).trans (hB5.mono (unhid HB4).size))
      clear hx x g3 hba hB5 HB4 d1 d2
      go_wp2_with fail
      go_roundw
      case rel => exact ⟨k + 1, by omega, by go_num, by go_num, unhid HB5⟩
      case measure => simp [intOf]; omega
    · have e : k = n := by omega
      subst e
      go_wp2_with fail
      go_ret
      exact ⟨ret_int (by go_num), hB⟩
end Go.Proofs.Ytlnehebihfeegaa
