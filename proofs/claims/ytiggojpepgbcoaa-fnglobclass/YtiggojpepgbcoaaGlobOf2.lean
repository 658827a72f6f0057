/- What the program reads a pattern as: its function value, and what that captured. -/
import Derived.Test.YtiggojpepgbcoaaGlobIs
import Derived.Test.YtiggojpepgbcoaaGlobOf
namespace Go.Proofs.Ytiggojpepgbcoaa
open Go.RowKit Go.Shelf

attribute [local go_sem] Oper.semAt_some

def CellsAt (W : World) (b : Nat) : Prop := ∃ o : Obj, W.heap[b]? = some o ∧ o.isCells = true
theorem cellsAt_of_cell {W : World} {b : Nat} {v : Value} (h : W.cell? ⟨b, 0, none⟩ = some v) : CellsAt W b := by
  unfold World.cell? at h
  cases hh : W.heap[b]? with
  | none => simp [hh] at h
  | some o =>
    refine ⟨o, hh, ?_⟩
    cases o <;> first | rfl | (simp [hh] at h)
theorem WantIs.cells {W : World} {P : Nat → Prop} {x : W8} {run : Bool} {fv : Value} (h : WantIs W P x run fv) : WantIs W (fun b => P b ∧ CellsAt W b) x run fv := by
  rcases x with _ | _ | c | ⟨inner, others⟩
  · exact h
  · exact h
  · obtain ⟨h0, b, h1, h2, h3, h4⟩ := h
    exact ⟨h0, b, h1, ⟨h2, cellsAt_of_cell h4⟩, h3, h4⟩
  · obtain ⟨h0, b, d, h1, ⟨h2, h3, h4⟩, h5, h6, h7⟩ := h
    exact ⟨h0, b, d, h1, ⟨⟨h2, cellsAt_of_cell h4⟩, h3, h4⟩, ⟨h5, cellsAt_of_cell h7⟩, h6, h7⟩
theorem WantsP.cells {W : World} {P : Nat → Prop} {v : Value} {xs : List W8} (h : WantsP W P v xs) : WantsP W (fun b => P b ∧ CellsAt W b) v xs := by
  obtain ⟨base, cells, h1, h2, h3⟩ := h
  refine ⟨base, cells, h1, fun g e => ⟨h2 g e, ?_⟩, fun i x hi => ?_⟩
  · rcases h1.2 with ⟨rfl, _⟩ | ⟨g', cap, cur, rfl, _, hg, _⟩
    · cases e
    · cases e; exact ⟨_, hg, rfl⟩
  · obtain ⟨run, fv, g1, g2, g3⟩ := h3 i x hi
    exact ⟨run, fv, g1, g2, g3.cells⟩
theorem NameIs.cells {W : World} {P : Nat → Prop} {x : W9} {run : Bool} {fv : Value} (h : NameIs W P x run fv) : NameIs W (fun b => P b ∧ CellsAt W b) x run fv := by
  rcases x with _ | xs
  · exact h
  · obtain ⟨h0, b, v, h1, h2, h3, h4, h5⟩ := h
    exact ⟨h0, b, v, h1, ⟨h2, cellsAt_of_cell h4⟩, h3, h4, h5.cells⟩
/-- Blocks of cells from N on, but for the row's own. -/
def PB (N : Nat) (v : Value) (W : World) (b : Nat) : Prop := (N ≤ b ∧ v.ownBlock ≠ some b) ∧ CellsAt W b
def NamesIn (W : World) (N : Nat) (v : Value) (cells : List Value) (xs : List W9) : Prop :=
  ∀ (i : Nat) (x : W9), xs[i]? = some x → ∃ run fv, cells[2 * i]? = some (.bool run) ∧ cells[2 * i + 1]? = some fv ∧ NameIs W (PB N v W) x run fv
theorem NamesIn.own {A B : World} {N : Nat} {v : Value} {cells : List Value} {xs : List W9} (h : NamesIn A N v cells xs) {r : Option Nat} (hg : A.grownBy B r) (hr : ∀ x, r = some x → ∃ o : Obj, A.heap[x]? = some o ∧ o.isCells = false) : NamesIn B N v cells xs := by
  intro i x hi
  obtain ⟨run, fv, a, b, c⟩ := h i x hi
  have same : ∀ k, CellsAt A k → k < A.heap.size → B.heap[k]? = A.heap[k]? := fun k hk hl => hg.block k hl (fun e => by
    obtain ⟨o, h1, h2⟩ := hk
    obtain ⟨o', h3, h4⟩ := hr k e.symm
    rw [h1] at h3; cases h3; rw [h2] at h4; cases h4)
  exact ⟨run, fv, a, b, c.kept hg.size (fun k hk hl => same k hk.2 hl) (fun k hk hl => ⟨hk.1, by obtain ⟨o, h1, h2⟩ := hk.2; exact ⟨o, (same k hk.2 hl).trans h1, h2⟩⟩)⟩
theorem NamesIn.below {A B : World} {N : Nat} {v : Value} {cells : List Value} {xs : List W9} (h : NamesIn A N v cells xs) (hb : Below A.heap.size A B) : NamesIn B N v cells xs := by
  intro i x hi
  obtain ⟨run, fv, a, b, c⟩ := h i x hi
  exact ⟨run, fv, a, b, c.kept hb.size (fun k _ hl => hb.block k hl) (fun k hk hl => ⟨hk.1, by obtain ⟨o, h1, h2⟩ := hk.2; exact ⟨o, (hb.block k hl).trans h1, h2⟩⟩)⟩
theorem NamesIn.set {A : World} {N : Nat} {v : Value} {cells : List Value} {xs : List W9} (h : NamesIn A N v cells xs) (a : Addr) (ha : a.block < N) (u : Value) : NamesIn (A.setCell a u) N v cells xs := by
  intro i x hi
  obtain ⟨run, fv, p, q, c⟩ := h i x hi
  have same : ∀ k, N ≤ k → (A.setCell a u).heap[k]? = A.heap[k]? := fun k hk => Below.heap_setCell A a u k (by omega)
  exact ⟨run, fv, p, q, c.kept (by simp) (fun k hk _ => same k hk.1.1) (fun k hk _ => ⟨hk.1, by obtain ⟨o, h1, h2⟩ := hk.2; exact ⟨o, (same k hk.1.1).trans h1, h2⟩⟩)⟩
theorem NamesIn.push {wr w1 w2 : World} {o o' : Obj} {N : Nat} {v v' : Value} {xs : List W9} {cells : List Value} {x : W9} {run : Bool} {fv : Value}
    (h : NamesIn wr N v cells xs) (hl : cells.length = xs.length * 2) (hN : N ≤ wr.heap.size) (hv : ∀ g, v.ownBlock = some g → g < wr.heap.size) (hB1 : Below wr.heap.size wr w1) (hx : NameIs w1 (fun b => wr.heap.size ≤ b) x run fv)
    (hgrow : ((w1.alloc o).alloc o').grownBy w2 v.ownBlock) (hat : v'.ownBlock = v.ownBlock ∨ ∃ g, v'.ownBlock = some g ∧ w1.heap.size ≤ g) : NamesIn w2 N v' (cells ++ [.bool run, fv]) (xs ++ [x]) := by
  have hW : Below w1.heap.size w1 ((w1.alloc o).alloc o') := ((Below.refl _ w1).alloc (Nat.le_refl _) _).alloc (by simp) _
  have hs1 := hB1.size
  have hs2 := hW.size
  have hs3 := hgrow.size
  have far : ∀ b, b < w1.heap.size → v.ownBlock ≠ some b → w2.heap[b]? = w1.heap[b]? := fun b hb hne => (hgrow.block b (by omega) (by intro e; first | exact hne e | exact hne e.symm)).trans (hW.block b hb)
  intro i y hi
  by_cases hlt : i < xs.length
  · rw [List.getElem?_append_left hlt] at hi
    obtain ⟨r, f, h1, h2, h3⟩ := h i y hi
    refine ⟨r, f, by rw [List.getElem?_append_left (by omega)]; exact h1, by rw [List.getElem?_append_left (by omega)]; exact h2, ?_⟩
    have same : ∀ b, PB N v wr b → b < wr.heap.size → w2.heap[b]? = wr.heap[b]? := fun b hb hlb => (far b (by omega) hb.1.2).trans (hB1.block b hlb)
    refine h3.kept (by omega) same (fun b hb hlb => ⟨⟨hb.1.1, ?_⟩, by obtain ⟨o, p, q⟩ := hb.2; exact ⟨o, (same b hb hlb).trans p, q⟩⟩)
    rcases hat with e | ⟨g, e, hg⟩
    · rw [e]; exact hb.1.2
    · rw [e]; intro e'; cases e'; omega
  · rw [List.getElem?_append_right (by omega)] at hi
    have hi0 : i = xs.length := by
      have := (List.getElem?_eq_some_iff.1 hi).1
      simp at this; omega
    subst hi0
    simp at hi
    subst hi
    refine ⟨run, fv, by rw [List.getElem?_append_right (by omega), show 2 * xs.length - cells.length = 0 by omega]; rfl, by rw [List.getElem?_append_right (by omega), show 2 * xs.length + 1 - cells.length = 1 by omega]; rfl, ?_⟩
    have same : ∀ b, wr.heap.size ≤ b → b < w1.heap.size → w2.heap[b]? = w1.heap[b]? := fun b hb hlb => far b hlb (fun e => by have := hv b e; omega)
    refine hx.cells.kept (by omega) (fun b hb hlb => same b hb.1 hlb) (fun b hb hlb => ⟨⟨by have := hb.1; omega, ?_⟩, by obtain ⟨o, p, q⟩ := hb.2; exact ⟨o, (same b hb.1 hlb).trans p, q⟩⟩)
    rcases hat with e | ⟨g, e, hg⟩
    · rw [e]; intro e'; have := hv b e'; have := hb.1; omega
    · rw [e]; intro e'; cases e'; omega
theorem NamesIn.p {W : World} {N base : Nat} {v : Value} {cells : List Value} {xs : List W9} (h : NamesIn W N v cells xs) (hr : W.ownsRow base 51 2 v xs.length cells) (hb : base ≤ N) : NamesP W (fun b => base ≤ b) v xs := by
  refine ⟨base, cells, hr, fun g e => (hr.lt g e).1, fun i x hi => ?_⟩
  obtain ⟨run, fv, a, b, c⟩ := h i x hi
  exact ⟨run, fv, a, b, c.kept (Nat.le_refl _) (fun _ _ _ => rfl) (fun k hk _ => Nat.le_trans hb hk.1.1)⟩
theorem ba_eta (x : ByteArray) : (⟨⟨x.data.toList⟩⟩ : ByteArray) = x := rfl

set_option maxRecDepth 100000 in
set_option maxHeartbeats 4000000 in
theorem globOf_any (s : ByteArray) (hs : s.size ≤ maxLen) (w : World) :
    Calls Try.prog 22 #[.string s] w fun e W' => ∃ fv, e = .returned (.tuple #[fv, .bool (globOkB s.data.toList)]) ∧ (globOkB s.data.toList = true → ∃ b v xs, fv = .func (.func 36) #[] #[.pointer (some ⟨b, 0, none⟩)] ∧ b < W'.heap.size ∧ W'.cell? ⟨b, 0, none⟩ = some v ∧ NamesP W' (fun b => w.heap.size ≤ b) v xs ∧ (cutB 47 s.data.toList).map (fun p => nameW ⟨⟨p⟩⟩) = xs.map some) ∧ Below w.heap.size w W' := by
  obtain ⟨i0, hi, hz0, hz1, hz2⟩ := info_parts infoName
  have hs' : s.size ≤ 9223372036854775807 := hs
  refine (callsIn_wide (n := 4)).1 ?_
  refine callsIn_of_wp_marks Try.func22 rfl trivial ?_ rfl
  simp only [Try.ntmps22, List.size_toArray, List.length_cons, List.length_nil, Nat.reduceAdd, Nat.reduceSub, Array.replicate_succ, Array.replicate_zero, List.push_toArray, List.append_toArray, List.nil_append, List.cons_append]
  by_cases h40 : (40 : Int) < s.size
  · have E := hid (show globOkB s.data.toList = false by
      unfold globOkB
      rw [← Lib.size_eq, show decide (s.size ≤ 40) = false from decide_eq_false (by omega)]; simp)
    gi_wp2
    refine ⟨.tuple #[.nilFunc, .bool false], by simp [results, Try.f22, go_sem], .nilFunc, by rw [unhid E], (fun h => by rw [unhid E] at h; cases h), ((Below.refl _ w).alloc (Nat.le_refl _) _).alloc (by simp) _⟩
  have hs40 : s.size ≤ 40 := by omega
  gi_wp2_with (refine ⟨trivial, ?_⟩; gi_at_call 23; refine (partsOf_in Fence.wide _ trivial rfl _ _ _).mono ?_; rintro e w' ⟨rfl, rfl⟩)
  have b0 := Boxed.new w 34 .nilFunc
  have b1 := Boxed.new (w.alloc (.cells #[.nilFunc] 34)) 4 (.bool false)
  have b2 := Boxed.new ((w.alloc (.cells #[.nilFunc] 34)).alloc (.cells #[.bool false] 4)) 49 (.slice none 0 0)
  have b3 := Boxed.new (((w.alloc (.cells #[.nilFunc] 34)).alloc (.cells #[.bool false] 4)).alloc (.cells #[.slice none 0 0] 49)) 9 (.string s)
  have b4 := Boxed.new ((((w.alloc (.cells #[.nilFunc] 34)).alloc (.cells #[.bool false] 4)).alloc (.cells #[.slice none 0 0] 49)).alloc (.cells #[.string s] 9)) 5 (.int .u8 47)
  simp only [World.size_alloc] at b1 b2 b3 b4
  have hB0 : Below w.heap.size w (((((w.alloc (.cells #[.nilFunc] 34)).alloc (.cells #[.bool false] 4)).alloc (.cells #[.slice none 0 0] 49)).alloc (.cells #[.string s] 9)).alloc (.cells #[.int .u8 47] 5)) := (((((Below.refl _ w).alloc (Nat.le_refl _) _).alloc (by simp) _).alloc (by simp; omega) _).alloc (by simp; omega) _).alloc (by simp; omega) _
  refine wpIn_rangeFunc_ownF rfl (by omega) (gf := 38) (lb := #[.pointer (some ⟨w.heap.size + 1 + 1 + 1, 0, none⟩), .pointer (some ⟨w.heap.size + 1 + 1 + 1 + 1, 0, none⟩)]) rfl trivial (enters_of Try.func38 (by kernel_rfl) rfl)
    (partsM_stops Fence.wide _ trivial trivial rfl (by omega) (fun s c w => callsIn_wide.2 (IndexByteU_any s c w)) (w.heap.size + 1 + 1 + 1) (w.heap.size + 1 + 1 + 1 + 1) s 47 40 hs40 hs _ (by simp) (by simp) (b3.alloc _).cell b4.cell) Keeps.t (Keeps.b) (Below.refl _ _) (fun _ => rfl)
    (fun (pre : List (StrM 40)) W => ((∃ cells v xs, (xs.map some = pre.map (fun x => nameW x.1) ∧ NamesIn W (w.heap.size + 5) v cells xs) ∧ Boxed W (w.heap.size + 1 + 1) 49 v ∧ W.ownsRow w.heap.size 51 2 v pre.length cells ∧ (pre.length ≤ 5 ∧ ((valsM pre).all globbedL) = true)) ∧ (Boxed W (w.heap.size) 34 .nilFunc ∧ Boxed W (w.heap.size + 1) 4 (.bool false) ∧ Boxed W (w.heap.size + 1 + 1 + 1) 9 (.string s) ∧ Boxed W (w.heap.size + 1 + 1 + 1 + 1) 5 (.int .u8 47))) ∧ Below w.heap.size w W)
    (fun c pre W => (c = .ret ∧ (5 < pre.length ∨ ∃ y ∈ valsM pre, globbedL y = false) ∧ Boxed W w.heap.size 34 .nilFunc ∧ Boxed W (w.heap.size + 1) 4 (.bool false)) ∧ Below w.heap.size w W)
    (OwnFrom.and (OwnFrom.and (Own.from (fun pre X Y rw hx hg hr => by
        obtain ⟨cells, v, xs, hn, hh⟩ := hx
        refine ⟨cells, v, xs, ⟨hn.1, hn.2.own hg hr⟩, boxed_own _ _ (fun _ => _) pre X Y rw hh.1 hg hr, ownsRow_kept hh.2.1 (fun g e => ?_), hh.2.2⟩
        rcases hh.2.1.2 with ⟨rfl, _⟩ | ⟨g', cap, cur, rfl, _, hgc, _⟩
        · cases e
        · cases e; exact hg.block g' (Array.getElem?_eq_some_iff.1 hgc).1 (fun e => cells_of hgc hr e.symm)) _)
      (Own.from (fun s X Y row hs hg hr => ⟨boxed_own _ _ (fun _ => _) s X Y row hs.1 hg hr, boxed_own _ _ (fun _ => _) s X Y row hs.2.1 hg hr, boxed_own _ _ (fun _ => _) s X Y row hs.2.2.1 hg hr, boxed_own _ _ (fun _ => _) s X Y row hs.2.2.2 hg hr⟩) _)) (ownFrom_below (Nat.le_refl _) (by simp; omega)))
    (fun c => OwnFrom.and (Own.from (fun s X Y row hs hg hr => ⟨hs.1, hs.2.1, boxed_own _ _ (fun _ => _) s X Y row hs.2.2.1 hg hr, boxed_own _ _ (fun _ => _) s X Y row hs.2.2.2 hg hr⟩) _) (ownFrom_below (Nat.le_refl _) (by simp; omega)))
    ⟨⟨⟨[], _, [], ⟨rfl, fun i x h => by simp at h⟩, (b2.alloc _).alloc _, World.ownsRow_nil _ _ _ _, by simp, by simp⟩, (((b0.alloc _).alloc _).alloc _).alloc _, ((b1.alloc _).alloc _).alloc _, b3.alloc _, b4⟩, hB0⟩
    (fun x => { tmps := #[.string s, undef, .pointer (some ⟨w.heap.size, 0, none⟩), .pointer (some ⟨w.heap.size + 1, 0, none⟩), .pointer (some ⟨w.heap.size + 1 + 1, 0, none⟩), .string x.1, undef, undef, .string s, .int .i64 s.size, .bool false, .string s, .func (.func 38) #[] #[.pointer (some ⟨w.heap.size + 1 + 1 + 1, 0, none⟩), .pointer (some ⟨w.heap.size + 1 + 1 + 1 + 1, 0, none⟩)], .string x.1, undef, undef, undef, undef, undef, undef, undef, undef, undef, undef, undef, undef, undef, undef, undef, undef, undef], defers := [] }) ?assign ?body ?done ?stop
  case assign =>
    intro l x W K hK
    gi_wp2
    exact hK
  case body =>
    clear b0 b1 b2 b3 b4 hB0
    rintro l pre x W ⟨⟨⟨cells, v, xs, ⟨hxs, hni⟩, hv, hrow, h5, hall⟩, k0, k1, k3, k4⟩, hB⟩ hpre
    obtain ⟨va, vcap, rfl⟩ := ownsRow_shape hrow
    have HI := hid (And.intro hv (And.intro hrow (And.intro k0 (And.intro k1 (And.intro k3 (And.intro k4 hB))))))
    have HNI := hid (And.intro hxs hni)
    clear hv hrow k0 k1 k3 k4 hB hxs hni
    gi_wp2
    refine ⟨trivial, (CallsIn.inRound l (callsIn_wide.2 (nameWant_any x.1 (by have := x.2; omega) _))).mono ?_⟩
    rintro e w0 ⟨run, fv, rfl, hform, hname, hb0⟩
    have HNA := hid (And.intro hname hb0)
    clear hname
    have hrow00 := hid (unhid HI).2.1
    have hsz5 : w.heap.size + 5 ≤ W.heap.size := by have := (unhid HI).2.2.2.2.2.1.lt; omega
    rw [nameW_globbed]
    obtain ⟨w1, hw1⟩ : ∃ w1, w1 = w0.alloc (.cells #[.bool run, fv] 51) := ⟨_, rfl⟩
    have hb : Below W.heap.size W w1 := by rw [hw1]; exact hb0.alloc hb0.size _
    obtain ⟨hv0, hrow0, k00, k10, k30, k40, hB0⟩ := unhid HI
    have hv := Boxed_below hv0 hb
    have hrow := ownsRow_below hrow0 hb
    have k0 := Boxed_below k00 hb
    have k1 := Boxed_below k10 hb
    have k3 := Boxed_below k30 hb
    have k4 := Boxed_below k40 hb
    have hB := hB0.trans (hb.mono hB0.size)
    have hO := KeepsOthers_of_below hb
    have hK := keeps_two k30 k3 k40 k4
    clear hv0 hrow0 k00 k10 k30 k40 hB0 HI hb hb0
    have hc := hv.cell
    have hf := hv.frozen
    have c0 := k0.cell
    have f0 := k0.frozen
    have c1 := k1.cell
    have f1 := k1.frozen
    have HW1 := hid hw1
    rcases hform with rfl | ⟨ff, ca, rfl⟩
    all_goals
      cases hx : globbedL x.1.data.toList
      · have HH := hid (And.intro k0 (And.intro k1 (And.intro hB hO)))
        rw [hw1] at c0 f0 c1 f1 hc hf
        clear hv hrow k0 k1 k3 k4 hB hO hK hw1
        gi_wp2
        rw [← unhid HW1]
        obtain ⟨k0, k1, hB, hO⟩ := unhid HH
        exact ⟨hO.trans ((KeepsOthers.setCell _ _ _).trans (KeepsOthers.setCell _ _ _)), ⟨rfl, .inr ⟨_, by rw [valsM_snoc]; simp, hx⟩, (k0.set _).other (by omega) _, (k1.other (by omega) _).set _⟩, (hB.setCell (p := ⟨w.heap.size, 0, none⟩) (Nat.le_refl _) _).setCell (p := ⟨w.heap.size + 1, 0, none⟩) (by simp) _⟩
      · by_cases h55 : pre.length = 5
        · have h55' : ((pre.length : Int) == 5) = true := by simp [h55]
          have HH := hid (And.intro k0 (And.intro k1 (And.intro hB hO)))
          rw [hw1] at c0 f0 c1 f1 hc hf
          clear hv hrow k0 k1 k3 k4 hB hO hK hw1
          gi_wp2
          rw [← unhid HW1]
          obtain ⟨k0, k1, hB, hO⟩ := unhid HH
          exact ⟨hO.trans ((KeepsOthers.setCell _ _ _).trans (KeepsOthers.setCell _ _ _)), ⟨rfl, .inl (by simp; omega), (k0.set _).other (by omega) _, (k1.other (by omega) _).set _⟩, (hB.setCell (p := ⟨w.heap.size, 0, none⟩) (Nat.le_refl _) _).setCell (p := ⟨w.heap.size + 1, 0, none⟩) (by simp) _⟩
        · have h55' : ((pre.length : Int) == 5) = false := by rw [beq_eq_false_iff_ne]; omega
          have HH := hid (And.intro hv (And.intro hrow (And.intro k0 (And.intro k1 (And.intro k3 (And.intro k4 (And.intro hB (And.intro hO hK))))))))
          have hrow' := hid hrow
          rw [hw1] at hrow'
          have hBs := hB.size
          rw [hw1] at hc hf
          have hzw : w1.heap.size = w0.heap.size + 1 := by rw [hw1]; simp
          clear hv hrow k0 k1 k3 k4 hB hO hK c0 f0 c1 f1
          gi_wp2_with (gi_at_builtin; refine wpListIn_append_own_at _ rfl _ _ 49 rfl w.heap.size 51 i0 (.agg #[.bool false, .nilFunc]) 2 16 Try.underlying49 hi hz0 hz1 hz2 rfl (by decide) _ _ _ rfl ((unhid hrow').alloc _) ⟨w0.heap.size + 1, 0, none⟩ 1 1 [.bool run, _] rfl rfl (cells_two_new _ _ _ _ _ (by simp)) ?c2 ?c3 ?c4 ?c5 ?_)
          case c2 => intro u hu; simp at hu; rcases hu with rfl | rfl <;> rfl
          case c3 => unfold maxLen; omega
          case c4 => omega
          case c5 => simp; omega
          intro v' w2 hown' hgrow _ hat
          have hgrow0 := hid hgrow
          rw [← hw1] at hgrow
          obtain ⟨g', cap', rfl⟩ := ownsRow_succ hown'
          obtain ⟨nx, hnx⟩ : ∃ nx, nameW x.1 = some nx := by
            cases hq : nameW x.1 with
            | none => have := nameW_globbed x.1; rw [hq, hx] at this; cases this
            | some nx => exact ⟨nx, rfl⟩
          have hxl : xs.length = pre.length := by have := congrArg List.length (unhid HNI).1; simpa using this
          have HP := hid (((unhid HNI).2.push (by have := (unhid hrow00).1; omega) hsz5 (fun g e => ((unhid hrow00).lt g e).2) (unhid HNA).2 ((unhid HNA).1 nx hnx) (unhid hgrow0) (hat.imp id fun e => ⟨_, e, by omega⟩)).set ⟨w.heap.size + 1 + 1, 0, none⟩ (by simp) (.slice (some ⟨g', 0, none⟩) (pre.length + 1) cap'))
          have HXS := hid (show (xs ++ [nx]).map some = (pre ++ [x]).map (fun x => nameW x.1) by rw [List.map_append, List.map_append, (unhid HNI).1]; simp [hnx])
          clear hat
          obtain ⟨hv, hrow, k0, k1, k3, k4, hB, hO, hK⟩ := unhid HH
          obtain ⟨hv1, hv2, hr2, hk2, hb2⟩ := hv.appended (by decide) hrow hB.size (by omega) hown' hgrow
          have q0 := box_past k0 (by decide) hrow hgrow (show w.heap.size ≠ w.heap.size + 1 + 1 by omega) (.slice (some ⟨g', 0, none⟩) (pre.length + 1) cap')
          have q1 := box_past k1 (by decide) hrow hgrow (show w.heap.size + 1 ≠ w.heap.size + 1 + 1 by omega) (.slice (some ⟨g', 0, none⟩) (pre.length + 1) cap')
          have q3 := box_past k3 (by decide) hrow hgrow (show w.heap.size + 1 + 1 + 1 ≠ w.heap.size + 1 + 1 by omega) (.slice (some ⟨g', 0, none⟩) (pre.length + 1) cap')
          have q4 := box_past k4 (by decide) hrow hgrow (show w.heap.size + 1 + 1 + 1 + 1 ≠ w.heap.size + 1 + 1 by omega) (.slice (some ⟨g', 0, none⟩) (pre.length + 1) cap')
          have hc1 := hv1.cell
          have hf1 := hv1.frozen
          have HF := hid (show KeepsOthers W (w2.setCell ⟨w.heap.size + 1 + 1, 0, none⟩ (.slice (some ⟨g', 0, none⟩) (pre.length + 1) cap')) ∧ Keeps [w.heap.size + 1 + 1 + 1, w.heap.size + 1 + 1 + 1 + 1] W (w2.setCell ⟨w.heap.size + 1 + 1, 0, none⟩ (.slice (some ⟨g', 0, none⟩) (pre.length + 1) cap')) ∧ ((∃ cells v xs, (xs.map some = (pre ++ [x]).map (fun x => nameW x.1) ∧ NamesIn (w2.setCell ⟨w.heap.size + 1 + 1, 0, none⟩ (.slice (some ⟨g', 0, none⟩) (pre.length + 1) cap')) (w.heap.size + 5) v cells xs) ∧ Boxed (w2.setCell ⟨w.heap.size + 1 + 1, 0, none⟩ (.slice (some ⟨g', 0, none⟩) (pre.length + 1) cap')) (w.heap.size + 1 + 1) 49 v ∧ (w2.setCell ⟨w.heap.size + 1 + 1, 0, none⟩ (.slice (some ⟨g', 0, none⟩) (pre.length + 1) cap')).ownsRow w.heap.size 51 2 v (pre ++ [x]).length cells ∧ ((pre ++ [x]).length ≤ 5 ∧ ((valsM (pre ++ [x])).all globbedL) = true)) ∧ (Boxed (w2.setCell ⟨w.heap.size + 1 + 1, 0, none⟩ (.slice (some ⟨g', 0, none⟩) (pre.length + 1) cap')) (w.heap.size) 34 .nilFunc ∧ Boxed (w2.setCell ⟨w.heap.size + 1 + 1, 0, none⟩ (.slice (some ⟨g', 0, none⟩) (pre.length + 1) cap')) (w.heap.size + 1) 4 (.bool false) ∧ Boxed (w2.setCell ⟨w.heap.size + 1 + 1, 0, none⟩ (.slice (some ⟨g', 0, none⟩) (pre.length + 1) cap')) (w.heap.size + 1 + 1 + 1) 9 (.string s) ∧ Boxed (w2.setCell ⟨w.heap.size + 1 + 1, 0, none⟩ (.slice (some ⟨g', 0, none⟩) (pre.length + 1) cap')) (w.heap.size + 1 + 1 + 1 + 1) 5 (.int .u8 47))) ∧ Below w.heap.size w (w2.setCell ⟨w.heap.size + 1 + 1, 0, none⟩ (.slice (some ⟨g', 0, none⟩) (pre.length + 1) cap')) from
            ⟨hO.trans hk2, hK.t (keeps_two k3 q3 k4 q4), ⟨⟨_, _, _, ⟨unhid HXS, unhid HP⟩, hv2, by rw [List.length_append]; exact hr2, by simp; omega, by rw [valsM_snoc, List.all_append, hall]; simp [hx]⟩, q0, q1, q3, q4⟩, hB.trans hb2⟩)
          clear hv hrow k0 k1 k3 k4 hB hO hK hv1 hv2 hr2 hk2 hb2 q0 q1 q3 q4 hown' hgrow HH hrow' hw1 HW1
          gi_wp2
          exact unhid HF
  case done =>
    clear b0 b1 b2 b3 b4 hB0
    rintro D ys W hD hys ⟨⟨⟨cells, v, xs, ⟨hxs, hni⟩, hv, hrow, h5, hall⟩, k0, k1, k3, k4⟩, hB⟩ hK
    have hlen : (cutB 47 s.data.toList).length = ys.length := by rw [← hys]; simp [valsM]
    have hok : globOkB s.data.toList = true := by
      unfold globOkB
      rw [hlen, ← hys, hall, ← Lib.size_eq]; simp [h5, hs40]
    have c0 := k0.cell
    have f0 := k0.frozen
    have c1 := k1.cell
    have f1 := k1.frozen
    have hK' := ((KeepsOthers.setCell W ⟨w.heap.size, 0, none⟩ (.func (.func 36) #[] #[.pointer (some ⟨w.heap.size + 1 + 1, 0, none⟩)])).trans (KeepsOthers.setCell _ ⟨w.heap.size + 1, 0, none⟩ (.bool true))).same D _ hK rfl
    have r0 := ((k0.set (.func (.func 36) #[] #[.pointer (some ⟨w.heap.size + 1 + 1, 0, none⟩)])).other (show w.heap.size ≠ w.heap.size + 1 by omega) (.bool true))
    have r1 := ((k1.other (show w.heap.size + 1 ≠ w.heap.size by omega) (.func (.func 36) #[] #[.pointer (some ⟨w.heap.size + 1 + 1, 0, none⟩)])).set (.bool true))
    have hB2 := (hB.setCell (p := ⟨w.heap.size, 0, none⟩) (Nat.le_refl _) (.func (.func 36) #[] #[.pointer (some ⟨w.heap.size + 1 + 1, 0, none⟩)])).setCell (p := ⟨w.heap.size + 1, 0, none⟩) (by simp) (.bool true)
    have s0 := cell_kept r0.cell (grownBy_putObj' _ D (.deferred none)) (fun r e => by cases e; exact ⟨_, hK', rfl⟩)
    have s1 := cell_kept r1.cell (grownBy_putObj' _ D (.deferred none)) (fun r e => by cases e; exact ⟨_, hK', rfl⟩)
    have hfin : ∃ v xs, (((W.setCell ⟨w.heap.size, 0, none⟩ (.func (.func 36) #[] #[.pointer (some ⟨w.heap.size + 1 + 1, 0, none⟩)])).setCell ⟨w.heap.size + 1, 0, none⟩ (.bool true)).putObj D (.deferred none)).cell? ⟨w.heap.size + 1 + 1, 0, none⟩ = some v ∧ NamesP (((W.setCell ⟨w.heap.size, 0, none⟩ (.func (.func 36) #[] #[.pointer (some ⟨w.heap.size + 1 + 1, 0, none⟩)])).setCell ⟨w.heap.size + 1, 0, none⟩ (.bool true)).putObj D (.deferred none)) (fun b => w.heap.size ≤ b) v xs ∧ (cutB 47 s.data.toList).map (fun p => nameW ⟨⟨p⟩⟩) = xs.map some := by
      have hne1 : ∀ g, v.ownBlock = some g → g ≠ w.heap.size ∧ g ≠ w.heap.size + 1 := fun g e => by
        rcases hrow.2 with ⟨rfl, _⟩ | ⟨g', cap, cur, rfl, _, hgc, _⟩
        · cases e
        · cases e; exact ⟨type_ne hgc k0 (by decide), type_ne hgc k1 (by decide)⟩
      have hrow2 := ownsRow_kept hrow (w' := (W.setCell ⟨w.heap.size, 0, none⟩ (.func (.func 36) #[] #[.pointer (some ⟨w.heap.size + 1 + 1, 0, none⟩)])).setCell ⟨w.heap.size + 1, 0, none⟩ (.bool true)) (fun g e => by
        rw [Below.heap_setCell _ _ _ _ (hne1 g e).2, Below.heap_setCell _ _ _ _ (hne1 g e).1])
      have hni2 := (hni.set ⟨w.heap.size, 0, none⟩ (by simp) (.func (.func 36) #[] #[.pointer (some ⟨w.heap.size + 1 + 1, 0, none⟩)])).set ⟨w.heap.size + 1, 0, none⟩ (by simp) (.bool true)
      have hbx := (hv.other (show w.heap.size + 1 + 1 ≠ w.heap.size by omega) (.func (.func 36) #[] #[.pointer (some ⟨w.heap.size + 1 + 1, 0, none⟩)])).other (show w.heap.size + 1 + 1 ≠ w.heap.size + 1 by omega) (.bool true)
      have hgr := grownBy_putObj' ((W.setCell ⟨w.heap.size, 0, none⟩ (.func (.func 36) #[] #[.pointer (some ⟨w.heap.size + 1 + 1, 0, none⟩)])).setCell ⟨w.heap.size + 1, 0, none⟩ (.bool true)) D (.deferred none)
      have hro : ∀ x, some D = some x → ∃ o : Obj, ((W.setCell ⟨w.heap.size, 0, none⟩ (.func (.func 36) #[] #[.pointer (some ⟨w.heap.size + 1 + 1, 0, none⟩)])).setCell ⟨w.heap.size + 1, 0, none⟩ (.bool true)).heap[x]? = some o ∧ o.isCells = false := fun x e => by cases e; exact ⟨_, hK', rfl⟩
      have hxl : xs.length = ys.length := by have := congrArg List.length hxs; simpa using this
      refine ⟨v, xs, cell_kept hbx.cell hgr hro, (hni2.own hgr hro).p (hxl ▸ ownsRow_kept hrow2 (fun g e => ?_)) (by omega), ?_⟩
      · rcases hrow2.2 with ⟨rfl, _⟩ | ⟨g', cap, cur, rfl, _, hgc, _⟩
        · cases e
        · cases e; exact hgr.block g' (Array.getElem?_eq_some_iff.1 hgc).1 (fun e => cells_of hgc hro e.symm)
      · rw [hxs, ← hys]; simp [valsM, Function.comp_def]
    have hszD : w.heap.size + 1 + 1 < (((W.setCell ⟨w.heap.size, 0, none⟩ (.func (.func 36) #[] #[.pointer (some ⟨w.heap.size + 1 + 1, 0, none⟩)])).setCell ⟨w.heap.size + 1, 0, none⟩ (.bool true)).putObj D (.deferred none)).heap.size := by have := (grownBy_putObj' ((W.setCell ⟨w.heap.size, 0, none⟩ (.func (.func 36) #[] #[.pointer (some ⟨w.heap.size + 1 + 1, 0, none⟩)])).setCell ⟨w.heap.size + 1, 0, none⟩ (.bool true)) D (.deferred none)).size; have := hv.lt; simp at *; omega
    have HFIN := hid (And.intro hszD hfin)
    clear hszD hfin hni hxs
    have HA := hid (And.intro s0 (And.intro s1 (And.intro hB2 (And.intro hK' hok))))
    clear hv hrow k0 k1 k3 k4 hB hK' r0 r1 hB2 s0 s1 hok hlen hys
    gi_wp2
    obtain ⟨s0, s1, hB2, hK', hok⟩ := unhid HA
    refine ⟨by simp, .inl ⟨_, _, rfl, run_takeDeferred hK', ?_⟩⟩
    refine ⟨.tuple #[.func (.func 36) #[] #[.pointer (some ⟨w.heap.size + 1 + 1, 0, none⟩)], .bool true], ?_, _, by rw [hok], (fun _ => by obtain ⟨hsD, v, xs, p1, p2, p3⟩ := unhid HFIN; exact ⟨_, v, xs, rfl, hsD, p1, p2, p3⟩), hB2.trans (belowK_b (w := w) (Nat.le_refl _) _ D _ _ (by simp at hD; omega) hK' rfl rfl)⟩
    simp [results, Try.f22, go_sem, s0, s1]
  case stop =>
    clear b0 b1 b2 b3 b4 hB0
    rintro D c pre W hD hpre ⟨⟨rfl, hbad, k0, k1⟩, hB⟩ hK
    have hno : globOkB s.data.toList = false := by
      have hl := hpre.length_le
      unfold globOkB
      rcases hbad with h | ⟨y, hy, hn⟩
      · rw [decide_eq_false (by simp [valsM] at hl; omega)]; rfl
      · rw [List.all_eq_false.2 ⟨y, hpre.subset hy, by simp [hn]⟩]; simp
    have s0 := cell_kept k0.cell (grownBy_putObj' _ D (.deferred none)) (fun r e => by cases e; exact ⟨_, hK, rfl⟩)
    have s1 := cell_kept k1.cell (grownBy_putObj' _ D (.deferred none)) (fun r e => by cases e; exact ⟨_, hK, rfl⟩)
    have Hno := hid hno
    clear hno
    gi_wp2
    refine ⟨by simp, .inl ⟨_, _, rfl, run_takeDeferred hK, ?_⟩⟩
    refine ⟨.tuple #[.nilFunc, .bool false], ?_, .nilFunc, by rw [unhid Hno], (fun h => by rw [unhid Hno] at h; cases h), hB.trans (belowK_b (w := w) (Nat.le_refl _) W D _ _ (by simp at hD; omega) hK rfl rfl)⟩
    simp [results, Try.f22, go_sem, s0, s1]
end Go.Proofs.Ytiggojpepgbcoaa
