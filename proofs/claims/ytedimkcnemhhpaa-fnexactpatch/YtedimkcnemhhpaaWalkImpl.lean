/- Lines that hunks are being done to, by the program: read, kept, looked for. -/
import Derived.Test.YtedimkcnemhhpaaTrimImpl
import Derived.Test.YtedimkcnemhhpaaDiff
namespace Go.Proofs.Ytedimkcnemhhpaa
open Go.RowKit Go.Shelf

/-- Four cells at the head of a block. -/
structure FourAt (W : World) (g : Nat) (a b c d : Value) : Prop where
  c0 : W.cell? ⟨g, 0, none⟩ = some a
  f0 : W.frozen? ⟨g, 0, none⟩ = false
  c1 : W.cell? ⟨g, 1, none⟩ = some b
  f1 : W.frozen? ⟨g, 1, none⟩ = false
  c2 : W.cell? ⟨g, 2, none⟩ = some c
  f2 : W.frozen? ⟨g, 2, none⟩ = false
  c3 : W.cell? ⟨g, 3, none⟩ = some d
  f3 : W.frozen? ⟨g, 3, none⟩ = false
theorem fourAt_new (W : World) (a b c d : Value) (t : TypeId) : FourAt (W.alloc (.cells #[a, b, c, d] t)) W.heap.size a b c d := by
  constructor <;> simp [go_sem]
theorem FourAt.block {W W' : World} {g : Nat} {a b c d : Value} (h : FourAt W g a b c d) (hb : W'.heap[g]? = W.heap[g]?) : FourAt W' g a b c d :=
  ⟨(World.cell?_of_block (w := W) hb).trans h.c0, (World.frozen?_of_block (w := W) hb).trans h.f0, (World.cell?_of_block (w := W) hb).trans h.c1, (World.frozen?_of_block (w := W) hb).trans h.f1,
   (World.cell?_of_block (w := W) hb).trans h.c2, (World.frozen?_of_block (w := W) hb).trans h.f2, (World.cell?_of_block (w := W) hb).trans h.c3, (World.frozen?_of_block (w := W) hb).trans h.f3⟩
theorem FourAt.set0 {W : World} {g : Nat} {a b c d : Value} (h : FourAt W g a b c d) (x : Value) : FourAt (W.setCell ⟨g, 0, none⟩ x) g x b c d := by
  obtain ⟨c0, f0, c1, f1, c2, f2, c3, f3⟩ := h
  constructor <;> simp [go_sem, World.cell?_setCell_same', *]
theorem FourAt.set1 {W : World} {g : Nat} {a b c d : Value} (h : FourAt W g a b c d) (x : Value) : FourAt (W.setCell ⟨g, 1, none⟩ x) g a x c d := by
  obtain ⟨c0, f0, c1, f1, c2, f2, c3, f3⟩ := h
  constructor <;> simp [go_sem, World.cell?_setCell_same', *]
theorem FourAt.set2 {W : World} {g : Nat} {a b c d : Value} (h : FourAt W g a b c d) (x : Value) : FourAt (W.setCell ⟨g, 2, none⟩ x) g a b x d := by
  obtain ⟨c0, f0, c1, f1, c2, f2, c3, f3⟩ := h
  constructor <;> simp [go_sem, World.cell?_setCell_same', *]
theorem FourAt.set3 {W : World} {g : Nat} {a b c d : Value} (h : FourAt W g a b c d) (x : Value) : FourAt (W.setCell ⟨g, 3, none⟩ x) g a b c x := by
  obtain ⟨c0, f0, c1, f1, c2, f2, c3, f3⟩ := h
  constructor <;> simp [go_sem, World.cell?_setCell_same', *]
theorem owns_set {W : World} {N n size e : Nat} {v : Value} {xs : List Value} (h : W.ownsRow N e size v n xs) {p : Addr} (hne : v.ownBlock ≠ some p.block) (y : Value) : (W.setCell p y).ownsRow N e size v n xs :=
  ⟨h.1, h.2.imp id (fun ⟨g, cap, cur, a, b, c, d⟩ => ⟨g, cap, cur, a, b, (Below.heap_setCell _ _ _ _ (fun ee => hne (by rw [a, ← ee]; rfl))).trans c, d⟩)⟩
theorem owns_grown {W W' : World} {N n size e : Nat} {v : Value} {xs : List Value} {row : Option Nat} (h : W.ownsRow N e size v n xs) (hg : W.grownBy W' row) (hne : v.ownBlock = none ∨ v.ownBlock ≠ row) : W'.ownsRow N e size v n xs := h.kept hg hne

/-- The walker at block g: what is still to be read, what is done, how far each hunk was, how much later. -/
structure Wk (w W : World) (g : Nat) (s : PSt) (ra : Option Addr) (rc : Nat) (dv fv : Value) : Prop where
  lo : w.heap.size ≤ g
  lt : g < W.heap.size
  four : FourAt W g (.slice ra s.rest.length rc) dv fv (.int .i64 s.later)
  down : W.ownsRow w.heap.size 9 1 dv s.done.length (s.done.map Value.string)
  fown : W.ownsRow w.heap.size 3 1 fv s.far.length (s.far.map (Value.int .i64))
  dg : dv.ownBlock ≠ some g
  fg : fv.ownBlock ≠ some g
  df : dv.ownBlock = none ∨ dv.ownBlock ≠ fv.ownBlock
  rest : TxtsAt w ra s.rest
  rnil : ra = none → rc = 0
  rcap : s.rest.length ≤ rc
  below : Below w.heap.size w W
theorem Wk.step {w W W' : World} {g : Nat} {s : PSt} {ra : Option Addr} {rc : Nat} {dv fv : Value} (h : Wk w W g s ra rc dv fv) (hb : Below W.heap.size W W') : Wk w W' g s ra rc dv fv :=
  ⟨h.lo, Nat.lt_of_lt_of_le h.lt hb.size, h.four.block (hb.block g h.lt), owns_belowX h.down hb, owns_belowX h.fown hb, h.dg, h.fg, h.df, h.rest, h.rnil, h.rcap, h.below.trans (hb.mono h.below.size)⟩

set_option maxRecDepth 100000 in
set_option maxHeartbeats 1000000 in
theorem left_any (g : Nat) (a : Option Addr) (n cap : Nat) (W : World) (hc : W.cell? ⟨g, 0, none⟩ = some (.slice a n cap)) :
    Calls Try.prog 66 #[.pointer (some ⟨g, 0, none⟩)] W fun e W' => e = .returned (.int .i64 (n : Int)) ∧ W' = W := by
  go_enter Try.func66, Try.ntmps66
  go_wp2_with fail
  go_ret
  exact ⟨rfl, rfl⟩

set_option maxRecDepth 100000 in
set_option maxHeartbeats 2000000 in
theorem take_any (w W : World) (g k : Nat) (s : PSt) (ra : Option Addr) (rc : Nat) (dv fv : Value) (h : Wk w W g s ra rc dv fv) (hk : k ≤ s.rest.length) :
    Calls Try.prog 94 #[.pointer (some ⟨g, 0, none⟩), .int .i64 (k : Int)] W fun e W' => e = .returned (.slice ra k rc) ∧ W' = W.setCell ⟨g, 0, none⟩ (.slice (subA ra rc k) (s.rest.length - k) (rc - k)) := by
  have HH := hid h
  have c0 := h.four.c0
  have f0 := h.four.f0
  have s1 := fun w => sub_h ra s.rest.length rc k (Nat.le_trans hk h.rcap) w
  have s2 := fun w => sub_l ra s.rest.length rc k hk w
  clear h
  go_enter Try.func94, Try.ntmps94
  go_wp2_with fail
  go_ret
  exact ⟨rfl, rfl⟩
theorem Wk.took {w W : World} {g k : Nat} {s : PSt} {ra : Option Addr} {rc : Nat} {dv fv : Value} (h : Wk w W g s ra rc dv fv) (hk : k ≤ s.rest.length) :
    Wk w (W.setCell ⟨g, 0, none⟩ (.slice (subA ra rc k) (s.rest.length - k) (rc - k))) g ⟨s.done, s.rest.drop k, s.far, s.later⟩ (subA ra rc k) (rc - k) dv fv := by
  have hc := h.rcap
  refine ⟨h.lo, by simpa using h.lt, ?_, owns_set h.down h.dg _, owns_set h.fown h.fg _, h.dg, h.fg, h.df, h.rest.rest h.rcap k, subA_none (by omega) h.rnil, by simp only [List.length_drop]; omega, h.below.setCell (p := ⟨g, 0, none⟩) h.lo _⟩
  have := h.four.set0 (.slice (subA ra rc k) (s.rest.length - k) (rc - k))
  rwa [show (s.rest.drop k).length = s.rest.length - k from List.length_drop]
/-- What is appended to what is done. -/
theorem Wk.app {w W W' : World} {g : Nat} {s : PSt} {ra : Option Addr} {rc : Nat} {dv fv dv' : Value} {ys : List ByteArray} (h : Wk w W g s ra rc dv fv) (hown : W'.ownsRow w.heap.size 9 1 dv' (s.done ++ ys).length ((s.done ++ ys).map Value.string)) (hg : W.grownBy W' dv.ownBlock) (hat : dv'.ownBlock = dv.ownBlock ∨ dv'.ownBlock = some W.heap.size) :
    FourAt W' g (.slice ra s.rest.length rc) dv fv (.int .i64 s.later) ∧ Below w.heap.size w W' ∧ Wk w (W'.setCell ⟨g, 1, none⟩ dv') g ⟨s.done ++ ys, s.rest, s.far, s.later⟩ ra rc dv' fv := by
  have h4 : FourAt W' g (.slice ra s.rest.length rc) dv fv (.int .i64 s.later) := h.four.block (hg.block g h.lt (fun e => h.dg e.symm))
  have hne : dv'.ownBlock ≠ some g := by
    rcases hat with e | e <;> rw [e]
    · exact h.dg
    · intro e; cases e; exact Nat.lt_irrefl _ h.lt
  have hB : Below w.heap.size w W' := h.below.grown hg h.below.size (fun k e => (h.down.lt k e).1)
  have hf : fv.ownBlock = none ∨ fv.ownBlock ≠ dv.ownBlock := by
    cases hfv : fv.ownBlock with
    | none => exact .inl rfl
    | some b =>
      refine .inr (fun e => ?_)
      rcases h.df with e2 | e2
      · rw [e2] at e; cases e
      · exact e2 (by rw [hfv]; exact e.symm)
  refine ⟨h4, hB, h.lo, by have := hg.size; have := h.lt; simp; omega, h4.set1 dv', owns_set hown hne _, owns_set (owns_grown h.fown hg hf) h.fg _, hne, h.fg, ?_, h.rest, h.rnil, h.rcap, hB.setCell (p := ⟨g, 1, none⟩) h.lo _⟩
  cases hdv' : dv'.ownBlock with
  | none => exact .inl rfl
  | some b =>
    refine .inr (fun e => ?_)
    rcases hat with e2 | e2
    · rcases hf with e3 | e3
      · rw [e3] at e; cases e
      · exact e3 (by rw [← e, ← hdv', e2])
    · rw [hdv'] at e2
      cases e2
      exact Nat.lt_irrefl _ (h.fown.lt _ e.symm).2

set_option maxRecDepth 100000 in
set_option maxHeartbeats 2000000 in
theorem lookedFor_any (w W : World) (g : Nat) (s : PSt) (ra : Option Addr) (rc : Nat) (dv fv : Value) (h : Hk) (lv : Value) (hw : Wk w W g s ra rc dv fv) (hat : -1000000 ≤ h.at_ ∧ h.at_ ≤ 1000000) (hl : -1000000 ≤ s.later ∧ s.later ≤ 1000000) (hd : s.done.length ≤ 1000000) :
    Calls Try.prog 105 #[.pointer (some ⟨g, 0, none⟩), .agg #[.int .i64 h.at_, lv]] W fun e W' => e = .returned (.int .i64 (onM s h)) ∧ Below W.heap.size W W' := by
  obtain ⟨hat1, hat2⟩ := hat
  obtain ⟨hl1, hl2⟩ := hl
  obtain ⟨da, dc, hdv⟩ := ownsRow_sliceX hw.down
  subst hdv
  have hN : Below W.heap.size W (W.alloc (.cells #[.int .i64 h.at_, lv] 46)) := (Below.refl _ _).alloc (Nat.le_refl _) _
  have hw2 := hw.step hN
  have c1 := hw2.four.c1
  have c3 := hw2.four.c3
  have TN := twoAt_new W h.at_ lv 46
  obtain ⟨⟨t0, _⟩, _⟩ := TN
  have HN := hid hN
  have HE := hid (show onM s h = h.at_ - 1 + s.later - (s.done.length : Int) from rfl)
  rw [unhid HE]
  clear hw hw2 hN
  go_enter Try.func105, Try.ntmps105
  go_wp2_with fail
  generalize W.alloc (.cells #[.int .i64 h.at_, lv] 46) = W1 at *
  go_quiet (fail)
  go_wp2_with fail
  go_ret
  exact ⟨rfl, ⟨(unhid HN).os, (unhid HN).tape, (unhid HN).output, (unhid HN).size, (unhid HN).block⟩⟩

set_option maxRecDepth 100000 in
set_option maxHeartbeats 4000000 in
theorem stand_any (g : Nat) (ls old : List ByteArray) (a b : Option Addr) (cap cap2 : Nat) (on : Int) (W : World) (hc : W.cell? ⟨g, 0, none⟩ = some (.slice a ls.length cap)) (hx : ls.length ≤ 1000000) (hcap : ls.length ≤ cap) (hy : old.length ≤ 1000000) (ho : -1000000 ≤ on ∧ on ≤ 1000000) (h : TxtsAt W a ls) (h2 : TxtsAt W b old) :
    Calls Try.prog 106 #[.pointer (some ⟨g, 0, none⟩), .int .i64 on, .slice b old.length cap2] W fun e W' => e = .returned (.bool (standB ls on old)) ∧ Below W.heap.size W W' := by
  obtain ⟨ho1, ho2⟩ := ho
  by_cases h0 : on < 0
  · have E := hid (show standB ls on old = false by unfold standB; rw [decide_eq_false (by omega)]; rfl)
    go_enter Try.func106, Try.ntmps106
    go_wp2_with fail
    go_ret
    exact ⟨by rw [unhid E]; rfl, Below.refl _ _⟩
  by_cases h1 : (ls.length : Int) < on + (old.length : Int)
  · have E := hid (show standB ls on old = false by unfold standB; rw [decide_eq_false (show ¬ (on + (old.length : Int) ≤ (ls.length : Int)) by omega)]; simp)
    go_enter Try.func106, Try.ntmps106
    go_wp2_with fail
    go_ret
    exact ⟨by rw [unhid E]; rfl, Below.refl _ _⟩
  obtain ⟨k, rfl⟩ : ∃ k : Nat, on = (k : Int) := ⟨on.toNat, by omega⟩
  have hl : k + old.length ≤ ls.length := by omega
  have E := hid (show standB ls (k : Int) old = decide ((ls.drop k).take old.length = old) by unfold standB; rw [decide_eq_true (show (0 : Int) ≤ (k : Int) by omega), decide_eq_true (show (k : Int) + (old.length : Int) ≤ (ls.length : Int) by omega)]; rfl)
  have s1 := fun w => sub_lh a ls.length cap k (k + old.length) (by omega) (by omega) w
  have SE := slicesEqual_any ((ls.drop k).take old.length) old (subA a cap k) b (cap - k) cap2 W (by rw [part_len _ _ _ hl]; unfold maxLen; omega) (by unfold maxLen; omega) (h.part hcap k old.length) h2
  rw [part_len _ _ _ hl] at SE
  have HSE := hid SE
  have e1 : (((k + old.length : Nat)) : Int) = (k : Int) + (old.length : Int) := by omega
  rw [e1, show k + old.length - k = old.length by omega] at s1
  clear SE h h2 h0 e1
  go_enter Try.func106, Try.ntmps106
  go_wp2_with fail
  refine (unhid HSE).mono ?_
  rintro r W1 ⟨rfl, hb⟩
  rw [← unhid E]
  have HB := hid hb
  clear hb HSE
  go_wp2_with fail
  go_ret
  exact ⟨rfl, unhid HB⟩
end Go.Proofs.Ytedimkcnemhhpaa
