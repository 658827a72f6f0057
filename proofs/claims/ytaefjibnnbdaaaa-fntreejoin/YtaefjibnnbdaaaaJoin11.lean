/- Texts of this proof, one behind the other; each says at its head what it shows. -/
import Derived.Test.YtaefjibnnbdaaaaJoin10
import Derived.Test.YtaefjibnnbdaaaaJoin8
/- What the program reads a pattern as: its function value, and what that captured. -/
namespace Go.Proofs.Ytaefjibnnbdaaaa
open Go.RowKit Go.Shelf

attribute [local go_sem] Oper.semAt_some

def CellsAt (W : World) (b : Nat) : Prop := ∃ o : Obj, W.heap[b]? = some o ∧ o.isCells = true
theorem cellsAt_of_cell {W : World} {b : Nat} {v : Value} (h : W.cell? ⟨b, 0, none⟩ = some v) : CellsAt W b := by
  unfold World.cell? at h
  cases hh : W.heap[b]? with
  | none => simp [hh] at h
  | some o =>
    refine ⟨o, hh, ?_⟩
    cases o <;> first | rfl | (simp [hh] at h)
theorem WantIs.cells {W : World} {P : Nat → Prop} {x : W8} {run : Bool} {fv : Value} (h : WantIs W P x run fv) : WantIs W (fun b => P b ∧ CellsAt W b) x run fv := by
  rcases x with _ | _ | c | ⟨inner, others⟩
  · exact h
  · exact h
  · obtain ⟨h0, b, h1, h2, h3, h4⟩ := h
    exact ⟨h0, b, h1, ⟨h2, cellsAt_of_cell h4⟩, h3, h4⟩
  · obtain ⟨h0, b, d, h1, ⟨h2, h3, h4⟩, h5, h6, h7⟩ := h
    exact ⟨h0, b, d, h1, ⟨⟨h2, cellsAt_of_cell h4⟩, h3, h4⟩, ⟨h5, cellsAt_of_cell h7⟩, h6, h7⟩
theorem WantsP.cells {W : World} {P : Nat → Prop} {v : Value} {xs : List W8} (h : WantsP W P v xs) : WantsP W (fun b => P b ∧ CellsAt W b) v xs := by
  obtain ⟨base, cells, h1, h2, h3⟩ := h
  refine ⟨base, cells, h1, fun g e => ⟨h2 g e, ?_⟩, fun i x hi => ?_⟩
  · rcases h1.2 with ⟨rfl, _⟩ | ⟨g', cap, cur, rfl, _, hg, _⟩
    · cases e
    · cases e; exact ⟨_, hg, rfl⟩
  · obtain ⟨run, fv, g1, g2, g3⟩ := h3 i x hi
    exact ⟨run, fv, g1, g2, g3.cells⟩
theorem NameIs.cells {W : World} {P : Nat → Prop} {x : W9} {run : Bool} {fv : Value} (h : NameIs W P x run fv) : NameIs W (fun b => P b ∧ CellsAt W b) x run fv := by
  rcases x with _ | xs
  · exact h
  · obtain ⟨h0, b, v, h1, h2, h3, h4, h5⟩ := h
    exact ⟨h0, b, v, h1, ⟨h2, cellsAt_of_cell h4⟩, h3, h4, h5.cells⟩
/-- Blocks of cells from N on, but for the row's own. -/
def PB (N : Nat) (v : Value) (W : World) (b : Nat) : Prop := (N ≤ b ∧ v.ownBlock ≠ some b) ∧ CellsAt W b
def NamesIn (W : World) (N : Nat) (v : Value) (cells : List Value) (xs : List W9) : Prop :=
  ∀ (i : Nat) (x : W9), xs[i]? = some x → ∃ run fv, cells[2 * i]? = some (.bool run) ∧ cells[2 * i + 1]? = some fv ∧ NameIs W (PB N v W) x run fv
theorem NamesIn.own {A B : World} {N : Nat} {v : Value} {cells : List Value} {xs : List W9} (h : NamesIn A N v cells xs) {r : Option Nat} (hg : A.grownBy B r) (hr : ∀ x, r = some x → ∃ o : Obj, A.heap[x]? = some o ∧ o.isCells = false) : NamesIn B N v cells xs := by
  intro i x hi
  obtain ⟨run, fv, a, b, c⟩ := h i x hi
  have same : ∀ k, CellsAt A k → k < A.heap.size → B.heap[k]? = A.heap[k]? := fun k hk hl => hg.block k hl (fun e => by
    obtain ⟨o, h1, h2⟩ := hk
    obtain ⟨o', h3, h4⟩ := hr k e.symm
    rw [h1] at h3; cases h3; rw [h2] at h4; cases h4)
  exact ⟨run, fv, a, b, c.kept hg.size (fun k hk hl => same k hk.2 hl) (fun k hk hl => ⟨hk.1, by obtain ⟨o, h1, h2⟩ := hk.2; exact ⟨o, (same k hk.2 hl).trans h1, h2⟩⟩)⟩
theorem NamesIn.below {A B : World} {N : Nat} {v : Value} {cells : List Value} {xs : List W9} (h : NamesIn A N v cells xs) (hb : Below A.heap.size A B) : NamesIn B N v cells xs := by
  intro i x hi
  obtain ⟨run, fv, a, b, c⟩ := h i x hi
  exact ⟨run, fv, a, b, c.kept hb.size (fun k _ hl => hb.block k hl) (fun k hk hl => ⟨hk.1, by obtain ⟨o, h1, h2⟩ := hk.2; exact ⟨o, (hb.block k hl).trans h1, h2⟩⟩)⟩
theorem NamesIn.set {A : World} {N : Nat} {v : Value} {cells : List Value} {xs : List W9} (h : NamesIn A N v cells xs) (a : Addr) (ha : a.block < N) (u : Value) : NamesIn (A.setCell a u) N v cells xs := by
  intro i x hi
  obtain ⟨run, fv, p, q, c⟩ := h i x hi
  have same : ∀ k, N ≤ k → (A.setCell a u).heap[k]? = A.heap[k]? := fun k hk => Below.heap_setCell A a u k (by omega)
  exact ⟨run, fv, p, q, c.kept (by simp) (fun k hk _ => same k hk.1.1) (fun k hk _ => ⟨hk.1, by obtain ⟨o, h1, h2⟩ := hk.2; exact ⟨o, (same k hk.1.1).trans h1, h2⟩⟩)⟩
theorem NamesIn.push {wr w1 w2 : World} {o o' : Obj} {N : Nat} {v v' : Value} {xs : List W9} {cells : List Value} {x : W9} {run : Bool} {fv : Value}
    (h : NamesIn wr N v cells xs) (hl : cells.length = xs.length * 2) (hN : N ≤ wr.heap.size) (hv : ∀ g, v.ownBlock = some g → g < wr.heap.size) (hB1 : Below wr.heap.size wr w1) (hx : NameIs w1 (fun b => wr.heap.size ≤ b) x run fv)
    (hgrow : ((w1.alloc o).alloc o').grownBy w2 v.ownBlock) (hat : v'.ownBlock = v.ownBlock ∨ ∃ g, v'.ownBlock = some g ∧ w1.heap.size ≤ g) : NamesIn w2 N v' (cells ++ [.bool run, fv]) (xs ++ [x]) := by
  have hW : Below w1.heap.size w1 ((w1.alloc o).alloc o') := ((Below.refl _ w1).alloc (Nat.le_refl _) _).alloc (by simp) _
  have hs1 := hB1.size
  have hs2 := hW.size
  have hs3 := hgrow.size
  have far : ∀ b, b < w1.heap.size → v.ownBlock ≠ some b → w2.heap[b]? = w1.heap[b]? := fun b hb hne => (hgrow.block b (by omega) (by intro e; first | exact hne e | exact hne e.symm)).trans (hW.block b hb)
  intro i y hi
  by_cases hlt : i < xs.length
  · rw [List.getElem?_append_left hlt] at hi
    obtain ⟨r, f, h1, h2, h3⟩ := h i y hi
    refine ⟨r, f, by rw [List.getElem?_append_left (by omega)]; exact h1, by rw [List.getElem?_append_left (by omega)]; exact h2, ?_⟩
    have same : ∀ b, PB N v wr b → b < wr.heap.size → w2.heap[b]? = wr.heap[b]? := fun b hb hlb => (far b (by omega) hb.1.2).trans (hB1.block b hlb)
    refine h3.kept (by omega) same (fun b hb hlb => ⟨⟨hb.1.1, ?_⟩, by obtain ⟨o, p, q⟩ := hb.2; exact ⟨o, (same b hb hlb).trans p, q⟩⟩)
    rcases hat with e | ⟨g, e, hg⟩
    · rw [e]; exact hb.1.2
    · rw [e]; intro e'; cases e'; omega
  · rw [List.getElem?_append_right (by omega)] at hi
    have hi0 : i = xs.length := by
      have := (List.getElem?_eq_some_iff.1 hi).1
      simp at this; omega
    subst hi0
    simp at hi
    subst hi
    refine ⟨run, fv, by rw [List.getElem?_append_right (by omega), show 2 * xs.length - cells.length = 0 by omega]; rfl, by rw [List.getElem?_append_right (by omega), show 2 * xs.length + 1 - cells.length = 1 by omega]; rfl, ?_⟩
    have same : ∀ b, wr.heap.size ≤ b → b < w1.heap.size → w2.heap[b]? = w1.heap[b]? := fun b hb hlb => far b hlb (fun e => by have := hv b e; omega)
    refine hx.cells.kept (by omega) (fun b hb hlb => same b hb.1 hlb) (fun b hb hlb => ⟨⟨by have := hb.1; omega, ?_⟩, by obtain ⟨o, p, q⟩ := hb.2; exact ⟨o, (same b hb.1 hlb).trans p, q⟩⟩)
    rcases hat with e | ⟨g, e, hg⟩
    · rw [e]; intro e'; have := hv b e'; have := hb.1; omega
    · rw [e]; intro e'; cases e'; omega
theorem NamesIn.p {W : World} {N base : Nat} {v : Value} {cells : List Value} {xs : List W9} (h : NamesIn W N v cells xs) (hr : W.ownsRow base 129 2 v xs.length cells) (hb : base ≤ N) : NamesP W (fun b => base ≤ b) v xs := by
  refine ⟨base, cells, hr, fun g e => (hr.lt g e).1, fun i x hi => ?_⟩
  obtain ⟨run, fv, a, b, c⟩ := h i x hi
  exact ⟨run, fv, a, b, c.kept (Nat.le_refl _) (fun _ _ _ => rfl) (fun k hk _ => Nat.le_trans hb hk.1.1)⟩
theorem ba_eta (x : ByteArray) : (⟨⟨x.data.toList⟩⟩ : ByteArray) = x := rfl

set_option maxRecDepth 100000 in
set_option maxHeartbeats 4000000 in
theorem globOf_full (s : ByteArray) (hs : s.size ≤ maxLen) (w : World) :
    Calls Try.prog 78 #[.string s] w fun e W' => ∃ fv, e = .returned (.tuple #[fv, .bool (globOkB s.data.toList)]) ∧ (globOkB s.data.toList = true → ∃ b v xs, fv = .func (.func 106) #[] #[.pointer (some ⟨b, 0, none⟩)] ∧ b < W'.heap.size ∧ W'.cell? ⟨b, 0, none⟩ = some v ∧ NamesP W' (fun b => w.heap.size ≤ b) v xs ∧ (cutB 47 s.data.toList).map (fun p => nameW ⟨⟨p⟩⟩) = xs.map some) ∧ (globOkB s.data.toList = false → fv = .nilFunc) ∧ Below w.heap.size w W' := by
  obtain ⟨i0, hi, hz0, hz1, hz2⟩ := info_parts infoName
  have hs' : s.size ≤ 9223372036854775807 := hs
  refine (callsIn_wide (n := 4)).1 ?_
  refine callsIn_of_wp_marks Try.func78 rfl trivial ?_ rfl
  simp only [Try.ntmps78, List.size_toArray, List.length_cons, List.length_nil, Nat.reduceAdd, Nat.reduceSub, Array.replicate_succ, Array.replicate_zero, List.push_toArray, List.append_toArray, List.nil_append, List.cons_append]
  by_cases h40 : (40 : Int) < s.size
  · have E := hid (show globOkB s.data.toList = false by
      unfold globOkB
      rw [← Lib.size_eq, show decide (s.size ≤ 40) = false from decide_eq_false (by omega)]; simp)
    gi_wp2
    refine ⟨.tuple #[.nilFunc, .bool false], by simp [results, Try.f78, go_sem], .nilFunc, by rw [unhid E], (fun h => by rw [unhid E] at h; cases h), (fun _ => rfl), ((Below.refl _ w).alloc (Nat.le_refl _) _).alloc (by simp) _⟩
  have hs40 : s.size ≤ 40 := by omega
  gi_wp2_with (refine ⟨trivial, ?_⟩; gi_at_call 79; refine (partsOf_in Fence.wide _ trivial rfl _ _ _).mono ?_; rintro e w' ⟨rfl, rfl⟩)
  have b0 := Boxed.new w 95 .nilFunc
  have b1 := Boxed.new (w.alloc (.cells #[.nilFunc] 95)) 4 (.bool false)
  have b2 := Boxed.new ((w.alloc (.cells #[.nilFunc] 95)).alloc (.cells #[.bool false] 4)) 127 (.slice none 0 0)
  have b3 := Boxed.new (((w.alloc (.cells #[.nilFunc] 95)).alloc (.cells #[.bool false] 4)).alloc (.cells #[.slice none 0 0] 127)) 9 (.string s)
  have b4 := Boxed.new ((((w.alloc (.cells #[.nilFunc] 95)).alloc (.cells #[.bool false] 4)).alloc (.cells #[.slice none 0 0] 127)).alloc (.cells #[.string s] 9)) 5 (.int .u8 47)
  simp only [World.size_alloc] at b1 b2 b3 b4
  have hB0 : Below w.heap.size w (((((w.alloc (.cells #[.nilFunc] 95)).alloc (.cells #[.bool false] 4)).alloc (.cells #[.slice none 0 0] 127)).alloc (.cells #[.string s] 9)).alloc (.cells #[.int .u8 47] 5)) := (((((Below.refl _ w).alloc (Nat.le_refl _) _).alloc (by simp) _).alloc (by simp; omega) _).alloc (by simp; omega) _).alloc (by simp; omega) _
  refine wpIn_rangeFunc_ownF rfl (by omega) (gf := 108) (lb := #[.pointer (some ⟨w.heap.size + 1 + 1 + 1, 0, none⟩), .pointer (some ⟨w.heap.size + 1 + 1 + 1 + 1, 0, none⟩)]) rfl trivial (enters_of Try.func108 (by kernel_rfl) rfl)
    (partsM_stops Fence.wide _ trivial trivial rfl (by omega) (fun s c w => callsIn_wide.2 (IndexByteU_any s c w)) (w.heap.size + 1 + 1 + 1) (w.heap.size + 1 + 1 + 1 + 1) s 47 40 hs40 hs _ (by simp) (by simp) (b3.alloc _).cell b4.cell) Keeps.t (Keeps.b) (Below.refl _ _) (fun _ => rfl)
    (fun (pre : List (StrM 40)) W => ((∃ cells v xs, (xs.map some = pre.map (fun x => nameW x.1) ∧ NamesIn W (w.heap.size + 5) v cells xs) ∧ Boxed W (w.heap.size + 1 + 1) 127 v ∧ W.ownsRow w.heap.size 129 2 v pre.length cells ∧ (pre.length ≤ 5 ∧ ((valsM pre).all globbedL) = true)) ∧ (Boxed W (w.heap.size) 95 .nilFunc ∧ Boxed W (w.heap.size + 1) 4 (.bool false) ∧ Boxed W (w.heap.size + 1 + 1 + 1) 9 (.string s) ∧ Boxed W (w.heap.size + 1 + 1 + 1 + 1) 5 (.int .u8 47))) ∧ Below w.heap.size w W)
    (fun c pre W => (c = .ret ∧ (5 < pre.length ∨ ∃ y ∈ valsM pre, globbedL y = false) ∧ Boxed W w.heap.size 95 .nilFunc ∧ Boxed W (w.heap.size + 1) 4 (.bool false)) ∧ Below w.heap.size w W)
    (OwnFrom.and (OwnFrom.and (Own.from (fun pre X Y rw hx hg hr => by
        obtain ⟨cells, v, xs, hn, hh⟩ := hx
        refine ⟨cells, v, xs, ⟨hn.1, hn.2.own hg hr⟩, boxed_own _ _ (fun _ => _) pre X Y rw hh.1 hg hr, ownsRow_keptG hh.2.1 (fun g e => ?_), hh.2.2⟩
        rcases hh.2.1.2 with ⟨rfl, _⟩ | ⟨g', cap, cur, rfl, _, hgc, _⟩
        · cases e
        · cases e; exact hg.block g' (Array.getElem?_eq_some_iff.1 hgc).1 (fun e => cells_of hgc hr e.symm)) _)
      (Own.from (fun s X Y row hs hg hr => ⟨boxed_own _ _ (fun _ => _) s X Y row hs.1 hg hr, boxed_own _ _ (fun _ => _) s X Y row hs.2.1 hg hr, boxed_own _ _ (fun _ => _) s X Y row hs.2.2.1 hg hr, boxed_own _ _ (fun _ => _) s X Y row hs.2.2.2 hg hr⟩) _)) (ownFrom_below (Nat.le_refl _) (by simp; omega)))
    (fun c => OwnFrom.and (Own.from (fun s X Y row hs hg hr => ⟨hs.1, hs.2.1, boxed_own _ _ (fun _ => _) s X Y row hs.2.2.1 hg hr, boxed_own _ _ (fun _ => _) s X Y row hs.2.2.2 hg hr⟩) _) (ownFrom_below (Nat.le_refl _) (by simp; omega)))
    ⟨⟨⟨[], _, [], ⟨rfl, fun i x h => by simp at h⟩, (b2.alloc _).alloc _, World.ownsRow_nil _ _ _ _, by simp, by simp⟩, (((b0.alloc _).alloc _).alloc _).alloc _, ((b1.alloc _).alloc _).alloc _, b3.alloc _, b4⟩, hB0⟩
    (fun x => { tmps := #[.string s, undef, .pointer (some ⟨w.heap.size, 0, none⟩), .pointer (some ⟨w.heap.size + 1, 0, none⟩), .pointer (some ⟨w.heap.size + 1 + 1, 0, none⟩), .string x.1, undef, undef, .string s, .int .i64 s.size, .bool false, .string s, .func (.func 108) #[] #[.pointer (some ⟨w.heap.size + 1 + 1 + 1, 0, none⟩), .pointer (some ⟨w.heap.size + 1 + 1 + 1 + 1, 0, none⟩)], .string x.1, undef, undef, undef, undef, undef, undef, undef, undef, undef, undef, undef, undef, undef, undef, undef, undef, undef], defers := [] }) ?assign ?body ?done ?stop
  case assign =>
    intro l x W K hK
    gi_wp2
    exact hK
  case body =>
    clear b0 b1 b2 b3 b4 hB0
    rintro l pre x W ⟨⟨⟨cells, v, xs, ⟨hxs, hni⟩, hv, hrow, h5, hall⟩, k0, k1, k3, k4⟩, hB⟩ hpre
    obtain ⟨va, vcap, rfl⟩ := ownsRow_shape hrow
    have HI := hid (And.intro hv (And.intro hrow (And.intro k0 (And.intro k1 (And.intro k3 (And.intro k4 hB))))))
    have HNI := hid (And.intro hxs hni)
    clear hv hrow k0 k1 k3 k4 hB hxs hni
    gi_wp2
    refine ⟨trivial, (CallsIn.inRound l (callsIn_wide.2 (nameWant_any x.1 (by have := x.2; omega) _))).mono ?_⟩
    rintro e w0 ⟨run, fv, rfl, hform, hname, hb0⟩
    have HNA := hid (And.intro hname hb0)
    clear hname
    have hrow00 := hid (unhid HI).2.1
    have hsz5 : w.heap.size + 5 ≤ W.heap.size := by have := (unhid HI).2.2.2.2.2.1.lt; omega
    rw [nameW_globbed]
    obtain ⟨w1, hw1⟩ : ∃ w1, w1 = w0.alloc (.cells #[.bool run, fv] 129) := ⟨_, rfl⟩
    have hb : Below W.heap.size W w1 := by rw [hw1]; exact hb0.alloc hb0.size _
    obtain ⟨hv0, hrow0, k00, k10, k30, k40, hB0⟩ := unhid HI
    have hv := Boxed_below hv0 hb
    have hrow := ownsRow_below hrow0 hb
    have k0 := Boxed_below k00 hb
    have k1 := Boxed_below k10 hb
    have k3 := Boxed_below k30 hb
    have k4 := Boxed_below k40 hb
    have hB := hB0.trans (hb.mono hB0.size)
    have hO := KeepsOthers_of_below hb
    have hK := keeps_two k30 k3 k40 k4
    clear hv0 hrow0 k00 k10 k30 k40 hB0 HI hb hb0
    have hc := hv.cell
    have hf := hv.frozen
    have c0 := k0.cell
    have f0 := k0.frozen
    have c1 := k1.cell
    have f1 := k1.frozen
    have HW1 := hid hw1
    rcases hform with rfl | ⟨ff, ca, rfl⟩
    all_goals
      cases hx : globbedL x.1.data.toList
      · have HH := hid (And.intro k0 (And.intro k1 (And.intro hB hO)))
        rw [hw1] at c0 f0 c1 f1 hc hf
        clear hv hrow k0 k1 k3 k4 hB hO hK hw1
        gi_wp2
        rw [← unhid HW1]
        obtain ⟨k0, k1, hB, hO⟩ := unhid HH
        exact ⟨hO.trans ((KeepsOthers.setCell _ _ _).trans (KeepsOthers.setCell _ _ _)), ⟨rfl, .inr ⟨_, by rw [valsM_snoc]; simp, hx⟩, (k0.set _).other (by omega) _, (k1.other (by omega) _).set _⟩, (hB.setCell (p := ⟨w.heap.size, 0, none⟩) (Nat.le_refl _) _).setCell (p := ⟨w.heap.size + 1, 0, none⟩) (by simp) _⟩
      · by_cases h55 : pre.length = 5
        · have h55' : ((pre.length : Int) == 5) = true := by simp [h55]
          have HH := hid (And.intro k0 (And.intro k1 (And.intro hB hO)))
          rw [hw1] at c0 f0 c1 f1 hc hf
          clear hv hrow k0 k1 k3 k4 hB hO hK hw1
          gi_wp2
          rw [← unhid HW1]
          obtain ⟨k0, k1, hB, hO⟩ := unhid HH
          exact ⟨hO.trans ((KeepsOthers.setCell _ _ _).trans (KeepsOthers.setCell _ _ _)), ⟨rfl, .inl (by simp; omega), (k0.set _).other (by omega) _, (k1.other (by omega) _).set _⟩, (hB.setCell (p := ⟨w.heap.size, 0, none⟩) (Nat.le_refl _) _).setCell (p := ⟨w.heap.size + 1, 0, none⟩) (by simp) _⟩
        · have h55' : ((pre.length : Int) == 5) = false := by rw [beq_eq_false_iff_ne]; omega
          have HH := hid (And.intro hv (And.intro hrow (And.intro k0 (And.intro k1 (And.intro k3 (And.intro k4 (And.intro hB (And.intro hO hK))))))))
          have hrow' := hid hrow
          rw [hw1] at hrow'
          have hBs := hB.size
          rw [hw1] at hc hf
          have hzw : w1.heap.size = w0.heap.size + 1 := by rw [hw1]; simp
          clear hv hrow k0 k1 k3 k4 hB hO hK c0 f0 c1 f1
          gi_wp2_with (gi_at_builtin; refine wpListIn_append_own_at _ rfl _ _ 127 rfl w.heap.size 129 i0 (.agg #[.bool false, .nilFunc]) 2 16 Try.underlying127 hi hz0 hz1 hz2 rfl (by decide) _ _ _ rfl ((unhid hrow').alloc _) ⟨w0.heap.size + 1, 0, none⟩ 1 1 [.bool run, _] rfl rfl (cells_two_new _ _ _ _ _ (by simp)) ?c2 ?c3 ?c4 ?c5 ?_)
          case c2 => intro u hu; simp at hu; rcases hu with rfl | rfl <;> rfl
          case c3 => unfold maxLen; omega
          case c4 => omega
          case c5 => simp; omega
          intro v' w2 hown' hgrow _ hat
          have hgrow0 := hid hgrow
          rw [← hw1] at hgrow
          obtain ⟨g', cap', rfl⟩ := ownsRow_succ hown'
          obtain ⟨nx, hnx⟩ : ∃ nx, nameW x.1 = some nx := by
            cases hq : nameW x.1 with
            | none => have := nameW_globbed x.1; rw [hq, hx] at this; cases this
            | some nx => exact ⟨nx, rfl⟩
          have hxl : xs.length = pre.length := by have := congrArg List.length (unhid HNI).1; simpa using this
          have HP := hid (((unhid HNI).2.push (by have := (unhid hrow00).1; omega) hsz5 (fun g e => ((unhid hrow00).lt g e).2) (unhid HNA).2 ((unhid HNA).1 nx hnx) (unhid hgrow0) (hat.imp id fun e => ⟨_, e, by omega⟩)).set ⟨w.heap.size + 1 + 1, 0, none⟩ (by simp) (.slice (some ⟨g', 0, none⟩) (pre.length + 1) cap'))
          have HXS := hid (show (xs ++ [nx]).map some = (pre ++ [x]).map (fun x => nameW x.1) by rw [List.map_append, List.map_append, (unhid HNI).1]; simp [hnx])
          clear hat
          obtain ⟨hv, hrow, k0, k1, k3, k4, hB, hO, hK⟩ := unhid HH
          obtain ⟨hv1, hv2, hr2, hk2, hb2⟩ := hv.appended (by decide) hrow hB.size (by omega) hown' hgrow
          have q0 := box_past k0 (by decide) hrow hgrow (show w.heap.size ≠ w.heap.size + 1 + 1 by omega) (.slice (some ⟨g', 0, none⟩) (pre.length + 1) cap')
          have q1 := box_past k1 (by decide) hrow hgrow (show w.heap.size + 1 ≠ w.heap.size + 1 + 1 by omega) (.slice (some ⟨g', 0, none⟩) (pre.length + 1) cap')
          have q3 := box_past k3 (by decide) hrow hgrow (show w.heap.size + 1 + 1 + 1 ≠ w.heap.size + 1 + 1 by omega) (.slice (some ⟨g', 0, none⟩) (pre.length + 1) cap')
          have q4 := box_past k4 (by decide) hrow hgrow (show w.heap.size + 1 + 1 + 1 + 1 ≠ w.heap.size + 1 + 1 by omega) (.slice (some ⟨g', 0, none⟩) (pre.length + 1) cap')
          have hc1 := hv1.cell
          have hf1 := hv1.frozen
          have HF := hid (show KeepsOthers W (w2.setCell ⟨w.heap.size + 1 + 1, 0, none⟩ (.slice (some ⟨g', 0, none⟩) (pre.length + 1) cap')) ∧ Keeps [w.heap.size + 1 + 1 + 1, w.heap.size + 1 + 1 + 1 + 1] W (w2.setCell ⟨w.heap.size + 1 + 1, 0, none⟩ (.slice (some ⟨g', 0, none⟩) (pre.length + 1) cap')) ∧ ((∃ cells v xs, (xs.map some = (pre ++ [x]).map (fun x => nameW x.1) ∧ NamesIn (w2.setCell ⟨w.heap.size + 1 + 1, 0, none⟩ (.slice (some ⟨g', 0, none⟩) (pre.length + 1) cap')) (w.heap.size + 5) v cells xs) ∧ Boxed (w2.setCell ⟨w.heap.size + 1 + 1, 0, none⟩ (.slice (some ⟨g', 0, none⟩) (pre.length + 1) cap')) (w.heap.size + 1 + 1) 127 v ∧ (w2.setCell ⟨w.heap.size + 1 + 1, 0, none⟩ (.slice (some ⟨g', 0, none⟩) (pre.length + 1) cap')).ownsRow w.heap.size 129 2 v (pre ++ [x]).length cells ∧ ((pre ++ [x]).length ≤ 5 ∧ ((valsM (pre ++ [x])).all globbedL) = true)) ∧ (Boxed (w2.setCell ⟨w.heap.size + 1 + 1, 0, none⟩ (.slice (some ⟨g', 0, none⟩) (pre.length + 1) cap')) (w.heap.size) 95 .nilFunc ∧ Boxed (w2.setCell ⟨w.heap.size + 1 + 1, 0, none⟩ (.slice (some ⟨g', 0, none⟩) (pre.length + 1) cap')) (w.heap.size + 1) 4 (.bool false) ∧ Boxed (w2.setCell ⟨w.heap.size + 1 + 1, 0, none⟩ (.slice (some ⟨g', 0, none⟩) (pre.length + 1) cap')) (w.heap.size + 1 + 1 + 1) 9 (.string s) ∧ Boxed (w2.setCell ⟨w.heap.size + 1 + 1, 0, none⟩ (.slice (some ⟨g', 0, none⟩) (pre.length + 1) cap')) (w.heap.size + 1 + 1 + 1 + 1) 5 (.int .u8 47))) ∧ Below w.heap.size w (w2.setCell ⟨w.heap.size + 1 + 1, 0, none⟩ (.slice (some ⟨g', 0, none⟩) (pre.length + 1) cap')) from
            ⟨hO.trans hk2, hK.t (keeps_two k3 q3 k4 q4), ⟨⟨_, _, _, ⟨unhid HXS, unhid HP⟩, hv2, by rw [List.length_append]; exact hr2, by simp; omega, by rw [valsM_snoc, List.all_append, hall]; simp [hx]⟩, q0, q1, q3, q4⟩, hB.trans hb2⟩)
          clear hv hrow k0 k1 k3 k4 hB hO hK hv1 hv2 hr2 hk2 hb2 q0 q1 q3 q4 hown' hgrow HH hrow' hw1 HW1
          gi_wp2
          exact unhid HF
  case done =>
    clear b0 b1 b2 b3 b4 hB0
    rintro D ys W hD hys ⟨⟨⟨cells, v, xs, ⟨hxs, hni⟩, hv, hrow, h5, hall⟩, k0, k1, k3, k4⟩, hB⟩ hK
    have hlen : (cutB 47 s.data.toList).length = ys.length := by rw [← hys]; simp [valsM]
    have hok : globOkB s.data.toList = true := by
      unfold globOkB
      rw [hlen, ← hys, hall, ← Lib.size_eq]; simp [h5, hs40]
    have c0 := k0.cell
    have f0 := k0.frozen
    have c1 := k1.cell
    have f1 := k1.frozen
    have hK' := ((KeepsOthers.setCell W ⟨w.heap.size, 0, none⟩ (.func (.func 106) #[] #[.pointer (some ⟨w.heap.size + 1 + 1, 0, none⟩)])).trans (KeepsOthers.setCell _ ⟨w.heap.size + 1, 0, none⟩ (.bool true))).same D _ hK rfl
    have r0 := ((k0.set (.func (.func 106) #[] #[.pointer (some ⟨w.heap.size + 1 + 1, 0, none⟩)])).other (show w.heap.size ≠ w.heap.size + 1 by omega) (.bool true))
    have r1 := ((k1.other (show w.heap.size + 1 ≠ w.heap.size by omega) (.func (.func 106) #[] #[.pointer (some ⟨w.heap.size + 1 + 1, 0, none⟩)])).set (.bool true))
    have hB2 := (hB.setCell (p := ⟨w.heap.size, 0, none⟩) (Nat.le_refl _) (.func (.func 106) #[] #[.pointer (some ⟨w.heap.size + 1 + 1, 0, none⟩)])).setCell (p := ⟨w.heap.size + 1, 0, none⟩) (by simp) (.bool true)
    have s0 := cell_kept r0.cell (grownBy_putObj' _ D (.deferred none)) (fun r e => by cases e; exact ⟨_, hK', rfl⟩)
    have s1 := cell_kept r1.cell (grownBy_putObj' _ D (.deferred none)) (fun r e => by cases e; exact ⟨_, hK', rfl⟩)
    have hfin : ∃ v xs, (((W.setCell ⟨w.heap.size, 0, none⟩ (.func (.func 106) #[] #[.pointer (some ⟨w.heap.size + 1 + 1, 0, none⟩)])).setCell ⟨w.heap.size + 1, 0, none⟩ (.bool true)).putObj D (.deferred none)).cell? ⟨w.heap.size + 1 + 1, 0, none⟩ = some v ∧ NamesP (((W.setCell ⟨w.heap.size, 0, none⟩ (.func (.func 106) #[] #[.pointer (some ⟨w.heap.size + 1 + 1, 0, none⟩)])).setCell ⟨w.heap.size + 1, 0, none⟩ (.bool true)).putObj D (.deferred none)) (fun b => w.heap.size ≤ b) v xs ∧ (cutB 47 s.data.toList).map (fun p => nameW ⟨⟨p⟩⟩) = xs.map some := by
      have hne1 : ∀ g, v.ownBlock = some g → g ≠ w.heap.size ∧ g ≠ w.heap.size + 1 := fun g e => by
        rcases hrow.2 with ⟨rfl, _⟩ | ⟨g', cap, cur, rfl, _, hgc, _⟩
        · cases e
        · cases e; exact ⟨type_neG hgc k0 (by decide), type_neG hgc k1 (by decide)⟩
      have hrow2 := ownsRow_keptG hrow (w' := (W.setCell ⟨w.heap.size, 0, none⟩ (.func (.func 106) #[] #[.pointer (some ⟨w.heap.size + 1 + 1, 0, none⟩)])).setCell ⟨w.heap.size + 1, 0, none⟩ (.bool true)) (fun g e => by
        rw [Below.heap_setCell _ _ _ _ (hne1 g e).2, Below.heap_setCell _ _ _ _ (hne1 g e).1])
      have hni2 := (hni.set ⟨w.heap.size, 0, none⟩ (by simp) (.func (.func 106) #[] #[.pointer (some ⟨w.heap.size + 1 + 1, 0, none⟩)])).set ⟨w.heap.size + 1, 0, none⟩ (by simp) (.bool true)
      have hbx := (hv.other (show w.heap.size + 1 + 1 ≠ w.heap.size by omega) (.func (.func 106) #[] #[.pointer (some ⟨w.heap.size + 1 + 1, 0, none⟩)])).other (show w.heap.size + 1 + 1 ≠ w.heap.size + 1 by omega) (.bool true)
      have hgr := grownBy_putObj' ((W.setCell ⟨w.heap.size, 0, none⟩ (.func (.func 106) #[] #[.pointer (some ⟨w.heap.size + 1 + 1, 0, none⟩)])).setCell ⟨w.heap.size + 1, 0, none⟩ (.bool true)) D (.deferred none)
      have hro : ∀ x, some D = some x → ∃ o : Obj, ((W.setCell ⟨w.heap.size, 0, none⟩ (.func (.func 106) #[] #[.pointer (some ⟨w.heap.size + 1 + 1, 0, none⟩)])).setCell ⟨w.heap.size + 1, 0, none⟩ (.bool true)).heap[x]? = some o ∧ o.isCells = false := fun x e => by cases e; exact ⟨_, hK', rfl⟩
      have hxl : xs.length = ys.length := by have := congrArg List.length hxs; simpa using this
      refine ⟨v, xs, cell_kept hbx.cell hgr hro, (hni2.own hgr hro).p (hxl ▸ ownsRow_keptG hrow2 (fun g e => ?_)) (by omega), ?_⟩
      · rcases hrow2.2 with ⟨rfl, _⟩ | ⟨g', cap, cur, rfl, _, hgc, _⟩
        · cases e
        · cases e; exact hgr.block g' (Array.getElem?_eq_some_iff.1 hgc).1 (fun e => cells_of hgc hro e.symm)
      · rw [hxs, ← hys]; simp [valsM, Function.comp_def]
    have hszD : w.heap.size + 1 + 1 < (((W.setCell ⟨w.heap.size, 0, none⟩ (.func (.func 106) #[] #[.pointer (some ⟨w.heap.size + 1 + 1, 0, none⟩)])).setCell ⟨w.heap.size + 1, 0, none⟩ (.bool true)).putObj D (.deferred none)).heap.size := by have := (grownBy_putObj' ((W.setCell ⟨w.heap.size, 0, none⟩ (.func (.func 106) #[] #[.pointer (some ⟨w.heap.size + 1 + 1, 0, none⟩)])).setCell ⟨w.heap.size + 1, 0, none⟩ (.bool true)) D (.deferred none)).size; have := hv.lt; simp at *; omega
    have HFIN := hid (And.intro hszD hfin)
    clear hszD hfin hni hxs
    have HA := hid (And.intro s0 (And.intro s1 (And.intro hB2 (And.intro hK' hok))))
    clear hv hrow k0 k1 k3 k4 hB hK' r0 r1 hB2 s0 s1 hok hlen hys
    gi_wp2
    obtain ⟨s0, s1, hB2, hK', hok⟩ := unhid HA
    refine ⟨by simp, .inl ⟨_, _, rfl, run_takeDeferred hK', ?_⟩⟩
    refine ⟨.tuple #[.func (.func 106) #[] #[.pointer (some ⟨w.heap.size + 1 + 1, 0, none⟩)], .bool true], ?_, _, by rw [hok], (fun _ => by obtain ⟨hsD, v, xs, p1, p2, p3⟩ := unhid HFIN; exact ⟨_, v, xs, rfl, hsD, p1, p2, p3⟩), (fun h => by rw [hok] at h; cases h), hB2.trans (belowK_b (w := w) (Nat.le_refl _) _ D _ _ (by simp at hD; omega) hK' rfl rfl)⟩
    simp [results, Try.f78, go_sem, s0, s1]
  case stop =>
    clear b0 b1 b2 b3 b4 hB0
    rintro D c pre W hD hpre ⟨⟨rfl, hbad, k0, k1⟩, hB⟩ hK
    have hno : globOkB s.data.toList = false := by
      have hl := hpre.length_le
      unfold globOkB
      rcases hbad with h | ⟨y, hy, hn⟩
      · rw [decide_eq_false (by simp [valsM] at hl; omega)]; rfl
      · rw [List.all_eq_false.2 ⟨y, hpre.subset hy, by simp [hn]⟩]; simp
    have s0 := cell_kept k0.cell (grownBy_putObj' _ D (.deferred none)) (fun r e => by cases e; exact ⟨_, hK, rfl⟩)
    have s1 := cell_kept k1.cell (grownBy_putObj' _ D (.deferred none)) (fun r e => by cases e; exact ⟨_, hK, rfl⟩)
    have Hno := hid hno
    clear hno
    gi_wp2
    refine ⟨by simp, .inl ⟨_, _, rfl, run_takeDeferred hK, ?_⟩⟩
    refine ⟨.tuple #[.nilFunc, .bool false], ?_, .nilFunc, by rw [unhid Hno], (fun h => by rw [unhid Hno] at h; cases h), (fun _ => rfl), hB.trans (belowK_b (w := w) (Nat.le_refl _) W D _ _ (by simp at hD; omega) hK rfl rfl)⟩
    simp [results, Try.f78, go_sem, s0, s1]
theorem globOf_any (s : ByteArray) (hs : s.size ≤ maxLen) (w : World) :
    Calls Try.prog 78 #[.string s] w fun e W' => ∃ fv, e = .returned (.tuple #[fv, .bool (globOkB s.data.toList)]) ∧ (globOkB s.data.toList = true → ∃ b v xs, fv = .func (.func 106) #[] #[.pointer (some ⟨b, 0, none⟩)] ∧ b < W'.heap.size ∧ W'.cell? ⟨b, 0, none⟩ = some v ∧ NamesP W' (fun b => w.heap.size ≤ b) v xs ∧ (cutB 47 s.data.toList).map (fun p => nameW ⟨⟨p⟩⟩) = xs.map some) ∧ Below w.heap.size w W' :=
  (globOf_full s hs w).mono (fun _ _ ⟨fv, h1, h2, _, h3⟩ => ⟨fv, h1, h2, h3⟩)
end Go.Proofs.Ytaefjibnnbdaaaa

/- Whether a name is one of a pattern's name, by the model: as the places tell it. -/
namespace Go.Proofs.Ytaefjibnnbdaaaa
open Go.RowKit Go.Shelf

def isNot (s : ByteArray) : Bool := decide (s.data.toList[1]? = some 33)
def inC (s : ByteArray) (c : UInt8) : Bool := ((s.data.toList.take (s.size - 1)).drop (clsFrom s.data.toList)).contains c
theorem inC_yes {s : ByteArray} {c : UInt8} (k : Nat) (h1 : clsFrom s.data.toList ≤ k) (h2 : k < s.size - 1) (h3 : s.data.toList[k]? = some c) : inC s c = true := by
  unfold inC
  rw [List.contains_iff_mem, List.mem_iff_getElem?]
  exact ⟨k - clsFrom s.data.toList, by rw [List.getElem?_drop, List.getElem?_take, show clsFrom s.data.toList + (k - clsFrom s.data.toList) = k by omega, if_pos h2, h3]⟩
theorem inC_no {s : ByteArray} {c : UInt8} (h : ∀ k, clsFrom s.data.toList ≤ k → k < s.size - 1 → s.data.toList[k]? ≠ some c) : inC s c = false := by
  unfold inC
  rw [Bool.eq_false_iff]
  intro e
  rw [List.contains_iff_mem, List.mem_iff_getElem?] at e
  obtain ⟨m, hm⟩ := e
  rw [List.getElem?_drop, List.getElem?_take] at hm
  split at hm
  · rename_i hlt; exact h _ (Nat.le_add_right _ m) hlt hm
  · cases hm

set_option maxRecDepth 100000 in
set_option maxHeartbeats 2000000 in
theorem l1Of_any (s : ByteArray) (c : UInt8) (hs : s.size ≤ 1048576) (h3 : 3 ≤ s.size) (w : World) :
    Calls Try.prog 138 #[.string s, .int .u8 c.toNat] w fun e w' => e = .returned (.bool (inC s c != isNot s)) ∧ w' = w := by
  have g1 : s.data.toList[1]? = some s[1] := get_some (by omega)
  by_cases e1 : s[1] = 33
  · have b1 : (((s[1]).toNat : Int) == 33) = true := by rw [e1]; rfl
    have hd := hid (show isNot s = true by unfold isNot; rw [g1, e1]; rfl)
    have hf := hid (show clsFrom s.data.toList = 2 by unfold clsFrom; rw [g1, e1]; rfl)
    clear g1 e1
    go_enter Try.func138, Try.ntmps138
    go_wp2_with fail
    go_loop [6] (fun i => ∃ k : Nat, 1 ≤ k ∧ k ≤ s.size - 1 ∧ i = .int .i64 k ∧ Hid (∀ j, clsFrom s.data.toList ≤ j → j < k → s.data.toList[j]? ≠ some c)) (fun i => s.size - (intOf i).toNat)
    case atStart => exact ⟨1, by omega, by omega, rfl, hid (fun j a b => by rw [unhid hf] at a; omega)⟩
    case round =>
      obtain ⟨k, hk1, hk, rfl, hno⟩ := hrel
      by_cases hlt : k < s.size - 1
      · have hlt' : (k : Int) < (s.size : Int) - 1 := by omega
        have hks : k < s.size := by omega
        by_cases e2 : s[k] = c
        · have b2 : (((s[k]).toNat : Int) == (c.toNat : Int)) = true := by rw [e2]; simp
          by_cases hk2 : 1 < k
          · have E := hid (show inC s c = true from inC_yes k (by rw [unhid hf]; omega) hlt (by rw [get_some hks, e2]))
            clear e2
            go_wp2_with fail
            go_ret
            exact ⟨by rw [unhid E, unhid hd]; rfl, rfl⟩
          · have hk0 : k = 1 := by omega
            subst hk0
            clear e2
            go_wp2_with fail
            go_round
            case rel => exact ⟨2, by omega, by omega, rfl, hid (fun j a b => by rw [unhid hf] at a; omega)⟩
            case measure => simp [intOf]; omega
        · have b2 : (((s[k]).toNat : Int) == (c.toNat : Int)) = false := eq_no rfl e2
          have hno2 := hid (show ∀ j, clsFrom s.data.toList ≤ j → j < k + 1 → s.data.toList[j]? ≠ some c from fun j a b => by
            by_cases e : j = k
            · subst e; rw [get_some hks]; simpa using e2
            · exact unhid hno j a (by omega))
          clear e2
          go_wp2_with fail
          go_round
          case rel => exact ⟨k + 1, by omega, by omega, by go_num, hno2⟩
          case measure => simp [intOf]; omega
      · have E := hid (show inC s c = false from inC_no (fun j a b => unhid hno j a (by omega)))
        have hlt' : ¬ (k : Int) < (s.size : Int) - 1 := by omega
        go_wp2_with fail
        go_ret
        exact ⟨by rw [unhid E, unhid hd]; rfl, rfl⟩
  · have b1 := eq_no (n := 33) rfl e1
    have hd := hid (show isNot s = false by unfold isNot; rw [g1]; simpa using e1)
    have hf := hid (show clsFrom s.data.toList = 1 by unfold clsFrom; rw [g1, if_neg (by simpa using e1)])
    clear g1 e1
    go_enter Try.func138, Try.ntmps138
    go_wp2_with fail
    go_loop [6] (fun i => ∃ k : Nat, 1 ≤ k ∧ k ≤ s.size - 1 ∧ i = .int .i64 k ∧ Hid (∀ j, clsFrom s.data.toList ≤ j → j < k → s.data.toList[j]? ≠ some c)) (fun i => s.size - (intOf i).toNat)
    case atStart => exact ⟨1, by omega, by omega, rfl, hid (fun j a b => by rw [unhid hf] at a; omega)⟩
    case round =>
      obtain ⟨k, hk1, hk, rfl, hno⟩ := hrel
      by_cases hlt : k < s.size - 1
      · have hlt' : (k : Int) < (s.size : Int) - 1 := by omega
        have hks : k < s.size := by omega
        by_cases e2 : s[k] = c
        · have b2 : (((s[k]).toNat : Int) == (c.toNat : Int)) = true := by rw [e2]; simp
          have E := hid (show inC s c = true from inC_yes k (by rw [unhid hf]; omega) hlt (by rw [get_some hks, e2]))
          clear e2
          by_cases hk2 : (1 : Int) < k
          all_goals
            go_wp2_with fail
            go_ret
            exact ⟨by rw [unhid E, unhid hd]; rfl, rfl⟩
        · have b2 : (((s[k]).toNat : Int) == (c.toNat : Int)) = false := eq_no rfl e2
          have hno2 := hid (show ∀ j, clsFrom s.data.toList ≤ j → j < k + 1 → s.data.toList[j]? ≠ some c from fun j a b => by
            by_cases e : j = k
            · subst e; rw [get_some hks]; simpa using e2
            · exact unhid hno j a (by omega))
          clear e2
          go_wp2_with fail
          go_round
          case rel => exact ⟨k + 1, by omega, by omega, by go_num, hno2⟩
          case measure => simp [intOf]; omega
      · have E := hid (show inC s c = false from inC_no (fun j a b => unhid hno j a (by omega)))
        have hlt' : ¬ (k : Int) < (s.size : Int) - 1 := by omega
        go_wp2_with fail
        go_ret
        exact ⟨by rw [unhid E, unhid hd]; rfl, rfl⟩

theorem class_takes {g : ByteArray} {x : W8} {n : Nat} (h0 : g.data.toList[0]? = some 91) (h : classR g = some (x, n)) (c : UInt8) : (inC (g.extract 0 n) c != isNot (g.extract 0 n)) = takesB x c ∧ 3 ≤ (g.extract 0 n).size ∧ n ≤ g.size := by
  obtain ⟨i, hi, hf, h93, hall⟩ := class_of h0 h
  have hs := class_some h0 hf h93 hall
  rw [hs] at h
  cases h
  have hil : i < g.data.toList.length := (List.getElem?_eq_some_iff.1 h93).1
  have h1i : 1 < i := by unfold clsFrom at hf; split at hf <;> omega
  have hz : (g.extract 0 (i + 1)).size = i + 1 := by rw [ByteArray.size_extract, Lib.size_eq]; omega
  have hd : (g.extract 0 (i + 1)).data.toList = g.data.toList.take (i + 1) := by rw [Lib.extract_data]; simp
  have h1 : (g.extract 0 (i + 1)).data.toList[1]? = g.data.toList[1]? := by rw [hd, List.getElem?_take, if_pos (by omega)]
  have hn : isNot (g.extract 0 (i + 1)) = hasA (g.extract 1 i) bang := by rw [mid_bang h1i]; unfold isNot; rw [h1]
  have hc : clsFrom (g.extract 0 (i + 1)).data.toList = clsFrom g.data.toList := by unfold clsFrom; rw [h1]
  refine ⟨?_, by rw [hz]; omega, by rw [Lib.size_eq]; omega⟩
  rw [hn]
  show _ = ((clsA g i).data.toList.contains c != hasA (g.extract 1 i) bang)
  rw [cls_data h1i]
  unfold inC
  rw [hc, hz, hd, List.take_take]
  simp
theorem wants_cons {g : ByteArray} {xs : List W8} (h0 : 0 < g.size) (h : wants g = some xs) : ∃ x n ys, firstR g g[0] = some (x, n) ∧ wants (g.extract n g.size) = some ys ∧ xs = x :: ys := by
  cases hf : firstR g g[0] with
  | none => rw [wants_none h0 hf] at h; cases h
  | some p =>
    obtain ⟨x, n⟩ := p
    rw [wants_some h0 hf] at h
    cases hw : wants (g.extract n g.size) with
    | none => rw [hw] at h; cases h
    | some ys => rw [hw] at h; cases h; exact ⟨x, n, ys, rfl, hw, rfl⟩
theorem empty_false {s : ByteArray} (h : 0 < s.size) : s.toList.isEmpty = false := by
  rw [Lib.toList_data, List.isEmpty_eq_false_iff, ← List.length_pos_iff, ← Lib.size_eq]; exact h
theorem empty_true {s : ByteArray} (h : s.size = 0) : s.toList.isEmpty = true := by
  rw [Lib.toList_data, List.isEmpty_iff, ← List.length_eq_zero_iff, ← Lib.size_eq]; exact h
theorem head_tail {s : ByteArray} (h : 0 < s.size) : s.data.toList = s[0] :: (s.extract 1 s.size).data.toList := by
  rw [tail_data]
  have := get_some h
  cases hl : s.data.toList with
  | nil => rw [hl] at this; cases this
  | cons c t => rw [hl] at this; simp at this; subst this; rfl
def fitB (xs : List W8) (s : ByteArray) : Bool := matchO (xs.map opt8) s.data.toList
theorem fit_nil (s : ByteArray) : fitB [] s = s.toList.isEmpty := by rw [Lib.toList_data]; rfl
theorem fit_star_nil {xs : List W8} {s : ByteArray} (h : s.size = 0) : fitB (.star :: xs) s = fitB xs s := by
  have : s.data.toList = [] := by rw [← List.length_eq_zero_iff, ← Lib.size_eq]; exact h
  unfold fitB; rw [this]; rfl
theorem fit_star {xs : List W8} {s : ByteArray} (h : 0 < s.size) : fitB (.star :: xs) s = (fitB xs s || fitB (.star :: xs) (s.extract 1 s.size)) := by
  unfold fitB; rw [head_tail h]; rfl
theorem fit_no {x : W8} {xs : List W8} {s : ByteArray} (hx : x ≠ .star) (h : s.size = 0) : fitB (x :: xs) s = false := by
  have : s.data.toList = [] := by rw [← List.length_eq_zero_iff, ← Lib.size_eq]; exact h
  unfold fitB; rw [this]
  cases x <;> first | exact absurd rfl hx | rfl
theorem fit_one {x : W8} {xs : List W8} {s : ByteArray} (hx : x ≠ .star) (h : 0 < s.size) : fitB (x :: xs) s = (takesB x s[0] && fitB xs (s.extract 1 s.size)) := by
  unfold fitB; rw [head_tail h]
  cases x <;> first | exact absurd rfl hx | rfl

set_option maxRecDepth 100000 in
set_option maxHeartbeats 4000000 in
theorem l1Fits_any (m : Nat) : ∀ (g s : ByteArray) (xs : List W8) (w : World), g.size + s.size ≤ m → g.size ≤ 1048576 → s.size ≤ 1048576 → wants g = some xs →
    Calls Try.prog 122 #[.string g, .string s] w fun e w' => e = .returned (.bool (fitB xs s)) ∧ ∃ n, w' = w.drewN n := by
  induction m with
  | zero =>
    intro g s xs w hm hg hs hw
    have hg0 : g.size = 0 := by omega
    rw [wants_nil hg0] at hw
    cases hw
    have he := empty_true hg0
    have E := hid (fit_nil s)
    go_enter Try.func122, Try.ntmps122
    go_wp2_with fail
    go_ret
    exact ⟨by rw [unhid E]; rfl, 0, rfl⟩
  | succ m ih =>
    intro g s xs w hm hg hs hw
    have IH := hid ih
    clear ih
    by_cases hg0 : g.size = 0
    · rw [wants_nil hg0] at hw
      cases hw
      have he := empty_true hg0
      have E := hid (fit_nil s)
      go_enter Try.func122, Try.ntmps122
      go_wp2_with fail
      go_ret
      exact ⟨by rw [unhid E]; rfl, 0, rfl⟩
    have hgp : 0 < g.size := by omega
    have he := empty_false hgp
    obtain ⟨x, n, ys, hf, hy, rfl⟩ := wants_cons hgp hw
    have hn := firstR_le hgp hf
    have hnd := hid hf
    have HY := hid hy
    have hz : (g.extract n g.size).size = g.size - n := tail_size g n
    clear hf hy hw
    by_cases e1 : g[0] = 42
    · have b1 : (((g[0]).toNat : Int) == 42) = true := by rw [e1]; rfl
      have hx : x = .star ∧ n = 1 := by have := unhid hnd; rw [e1] at this; cases this; exact ⟨rfl, rfl⟩
      obtain ⟨rfl, rfl⟩ := hx
      clear e1
      have hg1 : (1 : Int) ≤ g.size := by omega
      cases h1 : fitB ys s
      · by_cases hs0 : s.size = 0
        · have hes := empty_true hs0
          have E := hid (fit_star_nil (xs := ys) hs0)
          go_enter Try.func122, Try.ntmps122
          go_wp2_with (go_at_call 122; refine (unhid IH _ _ _ _ (by rw [hz]; omega) (by rw [hz]; omega) hs (unhid HY)).mono ?_; rintro e w' ⟨rfl, nq, rfl⟩; rw [h1])
          go_ret
          exact ⟨by rw [unhid E, h1]; rfl, _, rfl⟩
        · have hsp : 0 < s.size := by omega
          have hes := empty_false hsp
          have hs1 : (1 : Int) ≤ s.size := by omega
          have hzs : (s.extract 1 s.size).size = s.size - 1 := tail_size s 1
          have E := hid (fit_star (xs := ys) hsp)
          have Hw := hid (show wants g = some (.star :: ys) by rw [wants_some hgp (unhid hnd), unhid HY]; rfl)
          go_enter Try.func122, Try.ntmps122
          go_wp2_with fail
          refine (unhid IH _ _ _ _ (by rw [hz]; omega) (by rw [hz]; omega) hs (unhid HY)).mono ?_
          rintro e w' ⟨rfl, nq, rfl⟩
          rw [h1]
          go_wp2_with fail
          refine (unhid IH _ _ _ _ (by rw [hzs]; omega) hg (by rw [hzs]; omega) (unhid Hw)).mono ?_
          rintro e w' ⟨rfl, nq2, rfl⟩
          go_wp2_with fail
          go_ret
          exact ⟨by rw [unhid E, h1]; rfl, nq + nq2, rfl⟩
      · have E := hid (show fitB (.star :: ys) s = true by
          by_cases hs0 : s.size = 0
          · rw [fit_star_nil hs0, h1]
          · rw [fit_star (by omega), h1]; rfl)
        go_enter Try.func122, Try.ntmps122
        go_wp2_with (go_at_call 122; refine (unhid IH _ _ _ _ (by rw [hz]; omega) (by rw [hz]; omega) hs (unhid HY)).mono ?_; rintro e w' ⟨rfl, nq, rfl⟩; rw [h1])
        go_ret
        exact ⟨by rw [unhid E]; rfl, _, rfl⟩
    have b1 := eq_no (n := 42) rfl e1
    have hx : x ≠ .star := by
      intro e
      have := unhid hnd
      subst e
      unfold firstR at this
      rw [if_neg e1] at this
      split at this
      · cases this
      · split at this
        · obtain ⟨i, _, hf, h93, hall⟩ := class_of (by rw [get_some hgp]; simp_all) this
          rw [class_some (by rw [get_some hgp]; simp_all) hf h93 hall] at this
          cases this
        · split at this <;> cases this
    by_cases hs0 : s.size = 0
    · have hes := empty_true hs0
      have E := hid (fit_no (xs := ys) hx hs0)
      clear e1 hx
      go_enter Try.func122, Try.ntmps122
      go_wp2_with fail
      go_ret
      exact ⟨by rw [unhid E]; rfl, 0, rfl⟩
    have hsp : 0 < s.size := by omega
    have hes := empty_false hsp
    have hs1 : (1 : Int) ≤ s.size := by omega
    have hg1 : (1 : Int) ≤ g.size := by omega
    have hzs : (s.extract 1 s.size).size = s.size - 1 := tail_size s 1
    have E := hid (fit_one (xs := ys) hx hsp)
    clear hx
    by_cases e2 : g[0] = 63
    · have b2 : (((g[0]).toNat : Int) == 63) = true := by rw [e2]; rfl
      have hx : x = .any ∧ n = 1 := by have := unhid hnd; rw [e2] at this; cases this; exact ⟨rfl, rfl⟩
      obtain ⟨rfl, rfl⟩ := hx
      clear e1 e2
      go_enter Try.func122, Try.ntmps122
      go_wp2_with fail
      go_quiet ((go_at_call 122; exact Calls.quiet_of (unhid IH _ _ _ _ (by rw [hz, hzs]; omega) (by rw [hz]; omega) (by rw [hzs]; omega) (unhid HY))))
      go_wp2_with fail
      go_ret
      exact ⟨by rw [unhid E]; rfl, _, rfl⟩
    have b2 := eq_no (n := 63) rfl e2
    by_cases e3 : g[0] = 91
    · have b3 : (((g[0]).toNat : Int) == 91) = true := by rw [e3]; rfl
      have h91 : g.data.toList[0]? = some 91 := by rw [get_some hgp, e3]
      have hcl : classR g = some (x, n) := by have := unhid hnd; unfold firstR at this; rw [if_neg e1, if_neg e2, if_pos e3] at this; exact this
      obtain ⟨t1, t2, t3⟩ := class_takes h91 hcl s[0]
      have T1 := hid t1
      have hcn : classN g = n := by unfold classN; rw [hcl]
      have HCN := hid hcn
      have hni : (n : Int) ≤ g.size := by omega
      have hn0 : (0 : Int) ≤ n := by omega
      clear e1 e2 e3 t1 hcl hcn
      cases ht : takesB x s[0]
      · go_enter Try.func122, Try.ntmps122
        go_wp2_with fail
        refine (l1Class_any g hg h91 _).mono ?_
        rintro e w' ⟨rfl, rfl⟩
        rw [unhid HCN]
        go_wp2_with fail
        go_quiet ((go_at_call 138; refine Calls.quiet_of_same (v := .bool false) ((l1Of_any _ _ (by rw [ByteArray.size_extract]; omega) t2 _).mono ?_); rintro e w' ⟨rfl, rfl⟩; exact ⟨by rw [unhid T1, ht], rfl⟩))
        go_wp2_with fail
        go_ret
        exact ⟨by rw [unhid E, ht]; rfl, _, rfl⟩
      · go_enter Try.func122, Try.ntmps122
        go_wp2_with fail
        refine (l1Class_any g hg h91 _).mono ?_
        rintro e w' ⟨rfl, rfl⟩
        rw [unhid HCN]
        go_wp2_with fail
        go_quiet (first | (go_at_call 138; refine Calls.quiet_of_same (v := .bool true) ((l1Of_any _ _ (by rw [ByteArray.size_extract]; omega) t2 _).mono ?_); rintro e w' ⟨rfl, rfl⟩; exact ⟨by rw [unhid T1, ht], rfl⟩) | (go_at_call 122; exact Calls.quiet_of (unhid IH _ _ _ _ (by rw [hz, hzs]; omega) (by rw [hz]; omega) (by rw [hzs]; omega) (unhid HY))))
        go_wp2_with fail
        go_ret
        exact ⟨by rw [unhid E, ht]; rfl, _, rfl⟩
    have b3 := eq_no (n := 91) rfl e3
    have hx : x = .byte g[0] ∧ n = 1 := by
      have := unhid hnd
      unfold firstR at this
      rw [if_neg e1, if_neg e2, if_neg e3] at this
      split at this
      · cases this; exact ⟨rfl, rfl⟩
      · cases this
    obtain ⟨rfl, rfl⟩ := hx
    by_cases e4 : s[0] = g[0]
    · have b4 : (((g[0]).toNat : Int) == ((s[0]).toNat : Int)) = true := by rw [e4]; simp
      have ht := hid (show takesB (.byte g[0]) s[0] = true by rw [e4]; simp [takesB])
      clear e1 e2 e3 e4
      go_enter Try.func122, Try.ntmps122
      go_wp2_with fail
      go_quiet ((go_at_call 122; exact Calls.quiet_of (unhid IH _ _ _ _ (by rw [hz, hzs]; omega) (by rw [hz]; omega) (by rw [hzs]; omega) (unhid HY))))
      go_wp2_with fail
      go_ret
      exact ⟨by rw [unhid E, unhid ht]; rfl, _, rfl⟩
    · have b4 : (((g[0]).toNat : Int) == ((s[0]).toNat : Int)) = false := eq_no rfl (fun e => e4 e.symm)
      have ht := hid (show takesB (.byte g[0]) s[0] = false by simpa [takesB] using e4)
      clear e1 e2 e3 e4
      go_enter Try.func122, Try.ntmps122
      go_wp2_with fail
      go_quiet (fail)
      go_wp2_with fail
      go_ret
      exact ⟨by rw [unhid E, unhid ht]; rfl, _, rfl⟩
end Go.Proofs.Ytaefjibnnbdaaaa

/- Whether names are those of a pattern's names, by the model. -/
namespace Go.Proofs.Ytaefjibnnbdaaaa
open Go.RowKit Go.Shelf

def opt9B : W9 → Option (ByteArray → Bool)
  | none => none
  | some xs => some (fitB xs)
def mat9 (xs : List W9) (ss : List ByteArray) : Bool := matchO (xs.map opt9B) ss
theorem mat_nil (ss : List ByteArray) : mat9 [] ss = ss.isEmpty := rfl
theorem mat_deep_nil (xs : List W9) : mat9 (.deep :: xs) [] = mat9 xs [] := rfl
theorem mat_deep (xs : List W9) (s : ByteArray) (ss : List ByteArray) : mat9 (.deep :: xs) (s :: ss) = (mat9 xs (s :: ss) || mat9 (.deep :: xs) ss) := rfl
theorem mat_no (ys : List W8) (xs : List W9) : mat9 (.name ys :: xs) [] = false := rfl
theorem mat_one (ys : List W8) (xs : List W9) (s : ByteArray) (ss : List ByteArray) : mat9 (.name ys :: xs) (s :: ss) = (fitB ys s && mat9 xs ss) := rfl

/-- A row of texts that is read. -/
def StrsAt (W : World) (v : Value) (ps : List ByteArray) : Prop := ∃ b o cap, v = .slice (some ⟨b, o, none⟩) ps.length cap ∧ ps.length ≤ cap ∧ ∀ (i : Nat) x, ps[i]? = some x → W.cell? ⟨b, o + i, none⟩ = some (.string x)
theorem StrsAt.drew {W : World} {v : Value} {ps : List ByteArray} (h : StrsAt W v ps) (n : Nat) : StrsAt (W.drewN n) v ps := h
theorem nameW_deep {g : ByteArray} (h : nameW g = some .deep) : (g.toList == [42, 42]) = true := by
  unfold nameW at h
  split at h
  · assumption
  · split at h <;> cases h
theorem nameW_name {g : ByteArray} {ys : List W8} (h : nameW g = some (.name ys)) : (g.toList == [42, 42]) = false ∧ wants g = some ys := by
  unfold nameW at h
  split at h
  · cases h
  · rename_i hn
    refine ⟨by simpa using hn, ?_⟩
    split at h
    · rename_i x xs hw; cases h; exact hw
    · cases h

set_option maxRecDepth 100000 in
set_option maxHeartbeats 4000000 in
theorem l1Match_any (m : Nat) : ∀ (gs ss : List ByteArray) (xs : List W9) (vg vs : Value) (w : World), gs.length + ss.length ≤ m → m ≤ 3000000 → (∀ g ∈ gs, g.size ≤ 1048576) → (∀ s ∈ ss, s.size ≤ 1048576) → gs.map nameW = xs.map some → StrsAt w vg gs → StrsAt w vs ss →
    Calls Try.prog 103 #[vg, vs] w fun e w' => e = .returned (.bool (mat9 xs ss)) ∧ ∃ n, w' = w.drewN n := by
  induction m with
  | zero =>
    intro gs ss xs vg vs w hm hmm hg hs hw hvg hvs
    obtain ⟨b, o, cap, rfl, hc, hcell⟩ := hvg
    obtain ⟨b2, o2, cap2, rfl, hc2, hcell2⟩ := hvs
    have : gs = [] := List.length_eq_zero_iff.1 (by omega)
    subst this
    have : ss = [] := List.length_eq_zero_iff.1 (by omega)
    subst this
    have : xs = [] := by cases xs; rfl; cases hw
    subst this
    have E := hid (mat_nil [])
    go_enter Try.func103, Try.ntmps103
    go_wp2_with fail
    go_ret
    exact ⟨by rw [unhid E]; rfl, 0, rfl⟩
  | succ m ih =>
    intro gs ss xs vg vs w hm hmm hg hs hw hvg hvs
    have IH := hid ih
    clear ih
    have HVG := hid hvg
    have HVS := hid hvs
    obtain ⟨b, o, cap, rfl, hc, hcell⟩ := hvg
    obtain ⟨b2, o2, cap2, rfl, hc2, hcell2⟩ := hvs
    cases gs with
    | nil =>
      have : xs = [] := by cases xs; rfl; cases hw
      subst this
      have E := hid (mat_nil ss)
      have hl : ((ss.length : Int) == 0) = ss.isEmpty := by cases ss <;> simp; omega
      go_enter Try.func103, Try.ntmps103
      go_wp2_with fail
      go_ret
      exact ⟨by rw [unhid E]; rfl, 0, rfl⟩
    | cons g gs =>
      cases xs with
      | nil => cases hw
      | cons x xs =>
        have hw1 : nameW g = some x := by simp at hw; exact hw.1
        have hw2 := hid (show gs.map nameW = xs.map some by simp at hw; simpa using hw.2)
        have hw0 := hid hw
        have c0 := hcell 0 g rfl
        have HG := hid hg
        have HS := hid hs
        have HT := hid (show StrsAt w (.slice (some ⟨b, o + 1, none⟩) gs.length (cap - 1)) gs from ⟨b, o + 1, cap - 1, rfl, by simp at hc; omega, fun i x hi => by rw [show o + 1 + i = o + (i + 1) by omega]; exact hcell (i + 1) x (by simpa using hi)⟩)
        have HT1 := hid (show cap = 1 → StrsAt w (.slice (some ⟨b, o, none⟩) 0 0) gs from fun e => by
          have : gs = [] := List.length_eq_zero_iff.1 (by simp at hc; omega)
          subst this; exact ⟨b, o, 0, rfl, Nat.le_refl _, fun i x hi => by simp at hi⟩)
        simp only [List.length_cons] at hc hm HVG ⊢
        simp only [Nat.add_zero] at c0
        clear hw hcell hg hs
        have hne : ¬ ((gs.length : Int) + 1 = 0) := by omega
        have hne' : ((gs.length : Int) + 1 == 0) = false := by simpa using hne
        have HGG := hid (show ∀ g ∈ gs, g.size ≤ 1048576 from fun a ha => unhid HG a (List.mem_cons_of_mem _ ha))
        rcases x with _ | ys
        · have hd0 := nameW_deep hw1
          clear hw1
          cases h1 : mat9 xs ss
          · cases ss with
            | nil =>
              have E := hid (mat_deep_nil xs)
              simp only [List.length_nil] at hc2 hm HVS ⊢
              by_cases hcap : cap = 1
              · subst hcap
                have HTa := hid (unhid HT1 rfl); clear HT1
                go_enter Try.func103, Try.ntmps103
                go_wp2_with fail
                refine (unhid IH gs [] xs _ _ w (by simp; omega) (by omega) (unhid HGG) (unhid HS) (unhid hw2) (unhid HTa) (unhid HVS)).mono ?_
                rintro e w' ⟨rfl, nq, rfl⟩
                rw [h1]
                go_wp2_with fail
                go_ret
                exact ⟨by rw [unhid E, h1]; rfl, _, rfl⟩
              · go_enter Try.func103, Try.ntmps103
                go_wp2_with fail
                refine (unhid IH gs [] xs _ _ w (by simp; omega) (by omega) (unhid HGG) (unhid HS) (unhid hw2) (unhid HT) (unhid HVS)).mono ?_
                rintro e w' ⟨rfl, nq, rfl⟩
                rw [h1]
                go_wp2_with fail
                go_ret
                exact ⟨by rw [unhid E, h1]; rfl, _, rfl⟩
            | cons s ss =>
              have E := hid (mat_deep xs s ss)
              have HS2 := hid (show ∀ s ∈ ss, s.size ≤ 1048576 from fun a ha => unhid HS a (List.mem_cons_of_mem _ ha))
              have HU := hid (show StrsAt w (.slice (some ⟨b2, o2 + 1, none⟩) ss.length (cap2 - 1)) ss from ⟨b2, o2 + 1, cap2 - 1, rfl, by simp at hc2; omega, fun i x hi => by rw [show o2 + 1 + i = o2 + (i + 1) by omega]; exact hcell2 (i + 1) x (by simpa using hi)⟩)
              have HU1 := hid (show cap2 = 1 → StrsAt w (.slice (some ⟨b2, o2, none⟩) 0 0) ss from fun e => by
                have : ss = [] := List.length_eq_zero_iff.1 (by simp at hc2; omega)
                subst this; exact ⟨b2, o2, 0, rfl, Nat.le_refl _, fun i x hi => by simp at hi⟩)
              simp only [List.length_cons] at hc2 hm HVS ⊢
              clear hcell2
              have hpos : (0 : Int) < (ss.length : Int) + 1 := by omega
              by_cases hcap : cap = 1 <;> by_cases hcap2 : cap2 = 1
              · subst hcap
                have HTa := hid (unhid HT1 rfl); clear HT1
                subst hcap2
                have HUa := hid (unhid HU1 rfl); clear HU1
                go_enter Try.func103, Try.ntmps103
                go_wp2_with fail
                refine (unhid IH gs (s :: ss) xs _ _ w (by simp; omega) (by omega) (unhid HGG) (unhid HS) (unhid hw2) (unhid HTa) (unhid HVS)).mono ?_
                rintro e w' ⟨rfl, nq, rfl⟩
                rw [h1]
                go_wp2_with fail
                refine (unhid IH (g :: gs) ss (.deep :: xs) _ _ (w.drewN nq) (by simp; omega) (by omega) (unhid HG) (unhid HS2) (unhid hw0) (unhid HVG) (unhid HUa)).mono ?_
                rintro e w' ⟨rfl, nq2, rfl⟩
                go_wp2_with fail
                go_ret
                exact ⟨by rw [unhid E, h1]; rfl, _, rfl⟩
              · subst hcap
                have HTa := hid (unhid HT1 rfl); clear HT1
                go_enter Try.func103, Try.ntmps103
                go_wp2_with fail
                refine (unhid IH gs (s :: ss) xs _ _ w (by simp; omega) (by omega) (unhid HGG) (unhid HS) (unhid hw2) (unhid HTa) (unhid HVS)).mono ?_
                rintro e w' ⟨rfl, nq, rfl⟩
                rw [h1]
                go_wp2_with fail
                refine (unhid IH (g :: gs) ss (.deep :: xs) _ _ (w.drewN nq) (by simp; omega) (by omega) (unhid HG) (unhid HS2) (unhid hw0) (unhid HVG) (unhid HU)).mono ?_
                rintro e w' ⟨rfl, nq2, rfl⟩
                go_wp2_with fail
                go_ret
                exact ⟨by rw [unhid E, h1]; rfl, _, rfl⟩
              · subst hcap2
                have HUa := hid (unhid HU1 rfl); clear HU1
                go_enter Try.func103, Try.ntmps103
                go_wp2_with fail
                refine (unhid IH gs (s :: ss) xs _ _ w (by simp; omega) (by omega) (unhid HGG) (unhid HS) (unhid hw2) (unhid HT) (unhid HVS)).mono ?_
                rintro e w' ⟨rfl, nq, rfl⟩
                rw [h1]
                go_wp2_with fail
                refine (unhid IH (g :: gs) ss (.deep :: xs) _ _ (w.drewN nq) (by simp; omega) (by omega) (unhid HG) (unhid HS2) (unhid hw0) (unhid HVG) (unhid HUa)).mono ?_
                rintro e w' ⟨rfl, nq2, rfl⟩
                go_wp2_with fail
                go_ret
                exact ⟨by rw [unhid E, h1]; rfl, _, rfl⟩
              · go_enter Try.func103, Try.ntmps103
                go_wp2_with fail
                refine (unhid IH gs (s :: ss) xs _ _ w (by simp; omega) (by omega) (unhid HGG) (unhid HS) (unhid hw2) (unhid HT) (unhid HVS)).mono ?_
                rintro e w' ⟨rfl, nq, rfl⟩
                rw [h1]
                go_wp2_with fail
                refine (unhid IH (g :: gs) ss (.deep :: xs) _ _ (w.drewN nq) (by simp; omega) (by omega) (unhid HG) (unhid HS2) (unhid hw0) (unhid HVG) (unhid HU)).mono ?_
                rintro e w' ⟨rfl, nq2, rfl⟩
                go_wp2_with fail
                go_ret
                exact ⟨by rw [unhid E, h1]; rfl, _, rfl⟩
          · have E := hid (show mat9 (.deep :: xs) ss = true by
              cases ss with
              | nil => rw [mat_deep_nil, h1]
              | cons s ss => rw [mat_deep, h1]; rfl)
            by_cases hcap : cap = 1
            · subst hcap
              have HTa := hid (unhid HT1 rfl); clear HT1
              go_enter Try.func103, Try.ntmps103
              go_wp2_with fail
              refine (unhid IH gs ss xs _ _ w (by omega) (by omega) (unhid HGG) (unhid HS) (unhid hw2) (unhid HTa) (unhid HVS)).mono ?_
              rintro e w' ⟨rfl, nq, rfl⟩
              rw [h1]
              go_wp2_with fail
              go_ret
              exact ⟨by rw [unhid E]; rfl, _, rfl⟩
            · go_enter Try.func103, Try.ntmps103
              go_wp2_with fail
              refine (unhid IH gs ss xs _ _ w (by omega) (by omega) (unhid HGG) (unhid HS) (unhid hw2) (unhid HT) (unhid HVS)).mono ?_
              rintro e w' ⟨rfl, nq, rfl⟩
              rw [h1]
              go_wp2_with fail
              go_ret
              exact ⟨by rw [unhid E]; rfl, _, rfl⟩
        · obtain ⟨hd0, hwy⟩ := nameW_name hw1
          have HWY := hid hwy
          clear hw1 hwy
          cases ss with
          | nil =>
            have E := hid (mat_no ys xs)
            simp only [List.length_nil] at hc2 hm HVS ⊢
            have hz0 : ¬ (0 : Int) < 0 := by omega
            go_enter Try.func103, Try.ntmps103
            go_wp2_with fail
            go_quiet (fail)
            go_wp2_with fail
            go_ret
            exact ⟨by rw [unhid E]; rfl, _, rfl⟩
          | cons s ss =>
            have E := hid (mat_one ys xs s ss)
            have HS2 := hid (show ∀ s ∈ ss, s.size ≤ 1048576 from fun a ha => unhid HS a (List.mem_cons_of_mem _ ha))
            have HU := hid (show StrsAt w (.slice (some ⟨b2, o2 + 1, none⟩) ss.length (cap2 - 1)) ss from ⟨b2, o2 + 1, cap2 - 1, rfl, by simp at hc2; omega, fun i x hi => by rw [show o2 + 1 + i = o2 + (i + 1) by omega]; exact hcell2 (i + 1) x (by simpa using hi)⟩)
            have HU1 := hid (show cap2 = 1 → StrsAt w (.slice (some ⟨b2, o2, none⟩) 0 0) ss from fun e => by
              have : ss = [] := List.length_eq_zero_iff.1 (by simp at hc2; omega)
              subst this; exact ⟨b2, o2, 0, rfl, Nat.le_refl _, fun i x hi => by simp at hi⟩)
            have d0 := hcell2 0 s rfl
            simp only [Nat.add_zero] at d0
            simp only [List.length_cons] at hc2 hm HVS ⊢
            clear hcell2
            have hpos : (0 : Int) < (ss.length : Int) + 1 := by omega
            have hgz := unhid HG g (List.mem_cons_self ..)
            have hsz := unhid HS s (List.mem_cons_self ..)
            cases h1 : fitB ys s
            · go_enter Try.func103, Try.ntmps103
              go_wp2_with fail
              go_quiet ((go_at_call 122; refine Calls.quiet_of (v := .bool false) ((l1Fits_any _ g s ys _ (Nat.le_refl _) hgz hsz (unhid HWY)).mono ?_); rintro e w' ⟨rfl, nq, rfl⟩; exact ⟨by rw [h1], nq, rfl⟩))
              go_wp2_with fail
              go_ret
              exact ⟨by rw [unhid E, h1]; rfl, _, rfl⟩
            · by_cases hcap : cap = 1 <;> by_cases hcap2 : cap2 = 1
              · subst hcap
                have HTa := hid (unhid HT1 rfl); clear HT1
                subst hcap2
                have HUa := hid (unhid HU1 rfl); clear HU1
                go_enter Try.func103, Try.ntmps103
                go_wp2_with fail
                go_quiet (first | (go_at_call 122; refine Calls.quiet_of (v := .bool true) ((l1Fits_any _ g s ys _ (Nat.le_refl _) hgz hsz (unhid HWY)).mono ?_); rintro e w' ⟨rfl, nq, rfl⟩; exact ⟨by rw [h1], nq, rfl⟩) | (go_at_call 103; exact Calls.quiet_of (unhid IH gs ss xs _ _ _ (by omega) (by omega) (unhid HGG) (unhid HS2) (unhid hw2) (unhid HTa) (unhid HUa))))
                go_wp2_with fail
                go_ret
                exact ⟨by rw [unhid E, h1]; rfl, _, rfl⟩
              · subst hcap
                have HTa := hid (unhid HT1 rfl); clear HT1
                go_enter Try.func103, Try.ntmps103
                go_wp2_with fail
                go_quiet (first | (go_at_call 122; refine Calls.quiet_of (v := .bool true) ((l1Fits_any _ g s ys _ (Nat.le_refl _) hgz hsz (unhid HWY)).mono ?_); rintro e w' ⟨rfl, nq, rfl⟩; exact ⟨by rw [h1], nq, rfl⟩) | (go_at_call 103; exact Calls.quiet_of (unhid IH gs ss xs _ _ _ (by omega) (by omega) (unhid HGG) (unhid HS2) (unhid hw2) (unhid HTa) (unhid HU))))
                go_wp2_with fail
                go_ret
                exact ⟨by rw [unhid E, h1]; rfl, _, rfl⟩
              · subst hcap2
                have HUa := hid (unhid HU1 rfl); clear HU1
                go_enter Try.func103, Try.ntmps103
                go_wp2_with fail
                go_quiet (first | (go_at_call 122; refine Calls.quiet_of (v := .bool true) ((l1Fits_any _ g s ys _ (Nat.le_refl _) hgz hsz (unhid HWY)).mono ?_); rintro e w' ⟨rfl, nq, rfl⟩; exact ⟨by rw [h1], nq, rfl⟩) | (go_at_call 103; exact Calls.quiet_of (unhid IH gs ss xs _ _ _ (by omega) (by omega) (unhid HGG) (unhid HS2) (unhid hw2) (unhid HT) (unhid HUa))))
                go_wp2_with fail
                go_ret
                exact ⟨by rw [unhid E, h1]; rfl, _, rfl⟩
              · go_enter Try.func103, Try.ntmps103
                go_wp2_with fail
                go_quiet (first | (go_at_call 122; refine Calls.quiet_of (v := .bool true) ((l1Fits_any _ g s ys _ (Nat.le_refl _) hgz hsz (unhid HWY)).mono ?_); rintro e w' ⟨rfl, nq, rfl⟩; exact ⟨by rw [h1], nq, rfl⟩) | (go_at_call 103; exact Calls.quiet_of (unhid IH gs ss xs _ _ _ (by omega) (by omega) (unhid HGG) (unhid HS2) (unhid hw2) (unhid HT) (unhid HU))))
                go_wp2_with fail
                go_ret
                exact ⟨by rw [unhid E, h1]; rfl, _, rfl⟩
end Go.Proofs.Ytaefjibnnbdaaaa

/- GlobHas, by the program and by its model. -/
namespace Go.Proofs.Ytaefjibnnbdaaaa
open Go.RowKit Go.Shelf

def namesW (l : List UInt8) : List W9 := (cutB 47 l).filterMap fun p => nameW ⟨⟨p⟩⟩
def partsB (l : List UInt8) : List ByteArray := (cutB 47 l).map fun p => ⟨⟨p⟩⟩
def hasB (g s : List UInt8) : Bool := globOkB g && (pathB s && mat9 (namesW g) (partsB s))
theorem filter_some {α β : Type} (l : List α) (f : α → Option β) (xs : List β) (h : l.map f = xs.map some) : l.filterMap f = xs := by
  rw [show l.filterMap f = (l.map f).filterMap id by simp [List.filterMap_map], h]
  simp [List.filterMap_map]
theorem namesW_ok {l : List UInt8} (h : globOkB l = true) : (cutB 47 l).map (fun p => nameW ⟨⟨p⟩⟩) = (namesW l).map some := by
  unfold globOkB at h
  rw [Bool.and_eq_true] at h
  have hall := List.all_eq_true.1 h.2
  unfold namesW
  generalize cutB 47 l = ps at hall
  induction ps with
  | nil => rfl
  | cons p ps ih =>
    have hp := hall p (List.mem_cons_self ..)
    have : (nameW ⟨⟨p⟩⟩).isSome = true := by rw [nameW_globbed]; exact hp
    obtain ⟨x, hx⟩ := Option.isSome_iff_exists.1 this
    rw [List.map_cons, List.filterMap_cons, hx, ih (fun q hq => hall q (List.mem_cons_of_mem _ hq))]
    rfl
theorem wantsF_length : ∀ (f : Nat) (s : ByteArray) (xs : List W8), wantsF f s = some xs → xs.length ≤ s.size := by
  intro f
  induction f with
  | zero => intro s xs h; unfold wantsF at h; split at h <;> cases h; simp
  | succ f ih =>
    intro s xs h
    unfold wantsF at h
    split at h
    · rename_i h0
      cases hf : firstR s s[0] with
      | none => rw [hf] at h; cases h
      | some p =>
        obtain ⟨x, n⟩ := p
        rw [hf] at h
        have hn := firstR_le h0 hf
        simp only [Option.map_eq_some_iff] at h
        obtain ⟨ys, hy, rfl⟩ := h
        have := ih _ _ hy
        rw [ByteArray.size_extract] at this
        simp; omega
    · cases h; simp
theorem nameW_small {g : ByteArray} {x : W9} (h : nameW g = some x) (hg : g.size ≤ 1000) : small9 x := by
  rcases x with _ | ys
  · trivial
  · exact Nat.le_trans (wantsF_length _ _ _ (nameW_name h).2) hg
theorem mat_vals : ∀ (xs : List W9) (ys : List Str), matchO (xs.map opt9) ys = mat9 xs (ys.map (·.1)) := by
  intro xs
  induction xs with
  | nil => intro ys; cases ys <;> rfl
  | cons x xs ih =>
    intro ys
    rcases x with _ | zs
    · induction ys with
      | nil => exact ih []
      | cons y ys ih2 =>
        have h1 := ih (y :: ys)
        show (matchO (xs.map opt9) (y :: ys) || matchO ((W9.deep :: xs).map opt9) ys) = (mat9 xs (y.1 :: ys.map (·.1)) || mat9 (.deep :: xs) (ys.map (·.1)))
        rw [h1, ih2]; rfl
    · cases ys with
      | nil => rfl
      | cons y ys =>
        show (matchO (zs.map opt8) y.1.data.toList && matchO (xs.map opt9) ys) = (fitB zs y.1 && mat9 xs (ys.map (·.1)))
        rw [ih]; rfl
theorem parts_vals {l : List UInt8} {ys : List Str} (h : vals ys = cutB 47 l) : ys.map (·.1) = partsB l := by
  unfold partsB
  rw [← h]
  simp [vals, Function.comp_def]
theorem parts_datas {l : List UInt8} {ys : List ByteArray} (h : datas ys = cutB 47 l) : ys = partsB l := by
  unfold partsB
  rw [← h]
  simp [datas, Function.comp_def]

theorem partsOf_any (s : ByteArray) (m : Int) (w : World) : Calls Try.prog 79 #[.string s, .int .u8 m] w fun e w' => e = .returned (.func (.func 108) #[] #[.pointer (some ⟨w.heap.size, 0, none⟩), .pointer (some ⟨w.heap.size + 1, 0, none⟩)]) ∧ w' = (w.alloc (.cells #[.string s] 9)).alloc (.cells #[.int .u8 m] 5) :=
  (callsIn_wide (n := 1)).1 (partsOf_in Fence.wide _ trivial rfl s m w)
theorem eg36 : ∀ args w, (callFunc 106 args).run Try.prog w = .ok (.enter 106 args) w := enters_of Try.func106 (by kernel_rfl) rfl

theorem strsAt_of {W W' : World} {base : Nat} {v : Value} {xs : List ByteArray} (h : W.ownsRow base 9 1 v xs.length (xs.map Value.string)) (hne : xs ≠ []) (hb : Below W.heap.size W W') : StrsAt W' v xs := by
  rcases h.2 with ⟨rfl, h0⟩ | ⟨g, cap, cur, rfl, _, hg, hc, _, hsz, hcells⟩
  · exact absurd (List.length_eq_zero_iff.1 h0) hne
  · refine ⟨g, 0, cap, rfl, hc, fun i x hi => ?_⟩
    have hil : i < xs.length := (List.getElem?_eq_some_iff.1 hi).1
    have h1 : (cur.toList.take (xs.length * 1))[i]? = some (.string x) := by rw [hcells, List.getElem?_map, hi]; rfl
    rw [List.getElem?_take_of_lt (by omega), Array.getElem?_toList] at h1
    simp only [Nat.zero_add]
    refine (hb.cell (p := ⟨g, i, none⟩) (Array.getElem?_eq_some_iff.1 hg).1).trans ?_
    simp [World.cell?, hg, h1]

set_option maxRecDepth 100000 in
set_option maxHeartbeats 4000000 in
theorem specGlobHas_any (g s : ByteArray) (hg : g.size ≤ 1048576) (hs : s.size ≤ 1048576) (w : World) :
    Calls Try.prog 75 #[.string g, .string s] w fun e w' => e = .returned (.bool (hasB g.data.toList s.data.toList)) ∧ Below w.heap.size w w' := by
  cases ho : globOkB g.data.toList
  · have E := hid (show hasB g.data.toList s.data.toList = false by unfold hasB; rw [ho]; rfl)
    go_enter Try.func75, Try.ntmps75
    go_wp2_with fail
    refine (specGlobOk_any g hg _).mono ?_
    rintro e w1 ⟨rfl, hb⟩
    have HB := hid hb
    clear hb
    rw [ho]
    go_wp2_with fail
    go_ret
    exact ⟨by rw [unhid E]; rfl, unhid HB⟩
  · cases hp : pathB s.data.toList
    · have E := hid (show hasB g.data.toList s.data.toList = false by unfold hasB; rw [ho, hp]; rfl)
      go_enter Try.func75, Try.ntmps75
      go_wp2_with fail
      refine (specGlobOk_any g hg _).mono ?_
      rintro e w1 ⟨rfl, hb⟩
      have HB := hid hb
      clear hb
      rw [ho]
      go_wp2_with fail
      refine (l1Path_any s hs _).mono ?_
      rintro e w2 ⟨rfl, hb⟩
      have HB2 := hid ((unhid HB).trans (hb.mono (unhid HB).size))
      clear hb
      rw [hp]
      go_wp2_with fail
      go_ret
      exact ⟨by rw [unhid E]; rfl, unhid HB2⟩
    · have E := hid (show hasB g.data.toList s.data.toList = mat9 (namesW g.data.toList) (partsB s.data.toList) by unfold hasB; rw [ho, hp]; rfl)
      have HW := hid (namesW_ok ho)
      go_enter Try.func75, Try.ntmps75
      go_wp2_with fail
      refine (specGlobOk_any g hg _).mono ?_
      rintro e w1 ⟨rfl, hb⟩
      have HB := hid hb
      clear hb
      rw [ho]
      go_wp2_with fail
      refine (l1Path_any s hs _).mono ?_
      rintro e w2 ⟨rfl, hb⟩
      have HB2 := hid ((unhid HB).trans (hb.mono (unhid HB).size))
      clear hb
      rw [hp]
      go_wp2_with fail
      refine (l1Cut_any g 47 _ hg (by omega) (by omega) _).mono ?_
      rintro e w3 ⟨v, xs, rfl, hxs, hown, hb⟩
      have HB3 := hid ((unhid HB2).trans (hb.mono (unhid HB2).size))
      have HO := hid (And.intro hxs hown)
      clear hb hxs hown
      go_wp2_with fail
      refine (l1Cut_any s 47 _ hs (by omega) (by omega) _).mono ?_
      rintro e w4 ⟨v2, xs2, rfl, hxs2, hown2, hb⟩
      have HB34 := hid hb
      have HB4 := hid ((unhid HB3).trans (hb.mono (unhid HB3).size))
      have HO2 := hid (And.intro hxs2 hown2)
      clear hb hxs2 hown2
      go_wp2_with fail
      obtain ⟨hxs, hown⟩ := unhid HO
      obtain ⟨hxs2, hown2⟩ := unhid HO2
      have hne : xs ≠ [] := by rintro rfl; exact cutB_ne _ _ hxs.symm
      have hne2 : xs2 ≠ [] := by rintro rfl; exact cutB_ne _ _ hxs2.symm
      have small : ∀ (l : ByteArray) (zs : List ByteArray), l.size ≤ 1048576 → datas zs = cutB 47 l.data.toList → (∀ x ∈ zs, x.size ≤ 1048576) ∧ zs.length ≤ 1048577 := fun l zs hl hz => by
        constructor
        · intro x hx
          have h1 : x.data.toList ∈ cutB 47 l.data.toList := by rw [← hz]; exact List.mem_map.2 ⟨x, hx, rfl⟩
          have h2 := cutB_le 47 _ _ h1
          rw [← Lib.size_eq, ← Lib.size_eq] at h2
          omega
        · have := cutB_length 47 l.data.toList
          rw [← hz, ← Lib.size_eq] at this
          simp [datas] at this
          omega
      obtain ⟨s1, s2⟩ := small g xs hg hxs
      obtain ⟨s3, s4⟩ := small s xs2 hs hxs2
      refine (l1Match_any (xs.length + xs2.length) xs xs2 (namesW g.data.toList) v v2 w4 (Nat.le_refl _) (by omega) s1 s3 ?_ (strsAt_of hown hne (unhid HB34)) (strsAt_of hown2 hne2 (Below.refl _ _))).mono ?_
      · rw [← unhid HW, ← hxs]; simp [datas, Function.comp_def]
      rintro e w5 ⟨rfl, n, rfl⟩
      have EM := hid (show mat9 (namesW g.data.toList) xs2 = hasB g.data.toList s.data.toList by rw [unhid E, parts_datas hxs2])
      clear hxs hown hxs2 hown2 hne hne2 small s1 s2 s3 s4
      rw [unhid EM]
      go_wp2_with fail
      go_ret
      exact ⟨rfl, (unhid HB4).trans (below_drewN _ _)⟩
end Go.Proofs.Ytaefjibnnbdaaaa

/- Entries that are moved: no two come to one place. -/
namespace Go.Proofs.Ytaefjibnnbdaaaa
open Go.RowKit Go.Shelf

def movedP (p q s : ByteArray) : ByteArray := q ++ s.extract p.size s.size
def mvS (p q : ByteArray) (e : Ent) : Ent := if belowB p.data.toList e.path.data.toList then { e with path := movedP p q e.path } else e
def mvAllS (p q : ByteArray) (es : List Ent) : Bool := es.all fun e => pathB (mvS p q e).path.data.toList
theorem sort_put : ∀ xs : List Ent, (xs.map (·.path)).Nodup → sortL xs = putAll xs := snoc_ind (fun _ => rfl) (fun xs x ih h => by
  rw [List.map_append, List.nodup_append] at h
  rw [sortL_snoc, putAll_snoc, ih h.1]
  have ht : thereE (putAll xs) x.path = false := by
    cases ht : thereE (putAll xs) x.path
    · rfl
    · obtain ⟨e, he, hp⟩ := there_get ht
      have hm := putAll_mem xs e (List.mem_of_getElem? he)
      exact absurd hp (h.2.2 e.path (List.mem_map.2 ⟨e, hm, rfl⟩) x.path (by simp))
  unfold putT; rw [ht]; rfl)
theorem bytes_ext {a b : ByteArray} (h : a.data.toList = b.data.toList) : a = b := by apply ByteArray.ext; exact Array.ext' h
theorem movedP_list (p q s : ByteArray) : (movedP p q s).data.toList = q.data.toList ++ s.data.toList.drop p.data.toList.length := by
  unfold movedP; rw [data_app, drop_size]
theorem below_drop {p s : List UInt8} (h : belowB p s = true) : s = p ++ s.drop p.length ∧ (s.drop p.length = [] ∨ ∃ t, s.drop p.length = 47 :: t) := by
  rcases belowB_cases h with rfl | ⟨t, rfl⟩
  · simp
  · simp
theorem movedP_inj {p q s s' : ByteArray} (h : belowB p.data.toList s.data.toList = true) (h' : belowB p.data.toList s'.data.toList = true) (he : movedP p q s = movedP p q s') : s = s' := by
  apply bytes_ext
  have h1 := congrArg (fun x => x.data.toList) he
  simp only [movedP_list] at h1
  have h2 := List.append_cancel_left h1
  rw [(below_drop h).1, (below_drop h').1, h2]
theorem movedP_below {p q s : ByteArray} (h : belowB p.data.toList s.data.toList = true) : belowB q.data.toList (movedP p q s).data.toList = true := by
  rw [movedP_list]
  rcases (below_drop h).2 with h1 | ⟨t, h1⟩
  · rw [h1, List.append_nil]; exact belowB_refl _
  · rw [h1]; exact belowB_app _ _
theorem moved_nodup {es : List Ent} {p q : ByteArray} (ht : treeB es = true) (hq : pathB q.data.toList = true) (hno : thereE es q = false) : ((es.map (mvS p q)).map (·.path)).Nodup := by
  have hup := asc_up (tree_asc ht)
  have hnot : ∀ e ∈ es, ∀ s : ByteArray, belowB p.data.toList s.data.toList = true → e.path ≠ movedP p q s := fun e he s hs heq => by
    have h1 : inB q.data.toList e.path.data.toList = true := by
      unfold inB; rw [hq, ent_pathB (tree_all ht e he), heq, movedP_below hs]; rfl
    rw [in_there ht _ e he (Nat.le_refl _) h1] at hno; cases hno
  rw [List.map_map, List.Nodup, List.pairwise_map]
  refine List.Pairwise.imp_of_mem (fun {x y} hx hy hxy => ?_) hup
  have hne : x.path ≠ y.path := fun e => by rw [e] at hxy; rw [show ltS y.path y.path = false from lt_irr _] at hxy; cases hxy
  show (mvS p q x).path ≠ (mvS p q y).path
  unfold mvS
  cases h1 : belowB p.data.toList x.path.data.toList <;> cases h2 : belowB p.data.toList y.path.data.toList
  · exact hne
  · exact hnot x hx y.path h2
  · exact fun e => hnot y hy x.path h1 e.symm
  · exact fun e => hne (movedP_inj h1 h2 e)
/-- What the model asks of a move. -/
def mayS (es : List Ent) (p q : ByteArray) : Bool := thereE es p && (!thereE es q && (pathB q.data.toList && (!belowB p.data.toList q.data.toList && dirE es (upS q))))
theorem may_eq {es : List Ent} {p q : ByteArray} (ht : treeB es = true) : mayB es p q = mayS es p q := by
  unfold mayB mayS
  cases h1 : thereE es p
  · rfl
  · obtain ⟨x, hx, hxp⟩ := there_get h1
    have hp : pathB p.data.toList = true := by rw [← hxp]; exact ent_pathB (tree_ent ht hx)
    cases h2 : thereE es q
    · cases h3 : pathB q.data.toList
      · rfl
      · unfold inB pathUpS; rw [hp, h3]; rfl
    · rfl
theorem place_eq {es : List Ent} {p q : ByteArray} (ht : treeB es = true) (hp : pathB p.data.toList = true) (hq : pathB q.data.toList = true) {e : Ent} (he : e ∈ es) : (!(placeM p q e).toList.isEmpty) = pathB (mvS p q e).path.data.toList ∧ (pathB (mvS p q e).path.data.toList = true → mvE p q e = mvS p q e) := by
  have hpe := ent_pathB (tree_all ht e he)
  have hib : inB p.data.toList e.path.data.toList = belowB p.data.toList e.path.data.toList := by unfold inB; rw [hp, hpe]; rfl
  unfold mvE placeM mvS
  rw [hib]
  cases h1 : belowB p.data.toList e.path.data.toList
  · refine ⟨?_, fun _ => rfl⟩
    have := pathB_ne _ hpe
    simp only [Bool.false_eq_true, if_false]
    rw [hpe, Lib.toList_data]
    simpa using this
  · simp only [if_true]
    have hm : moveS e.path p q = if pathB (movedP p q e.path).data.toList then movedP p q e.path else ⟨#[]⟩ := by
      unfold moveS; rw [hib, h1, hq]; rfl
    rw [hm]
    cases h2 : pathB (movedP p q e.path).data.toList
    · refine ⟨by simp [Lib.toList_data], fun h => by cases h⟩
    · refine ⟨?_, fun _ => rfl⟩
      have := pathB_ne _ h2
      simp only [if_true]
      rw [Lib.toList_data]
      simpa using this
theorem move_spec {es : List Ent} {p q : ByteArray} (ht : treeB es = true) : moveOk p q es = (mayS es p q && mvAllS p q es) ∧ moveR p q es = if (mayS es p q && mvAllS p q es) then sortL (es.map (mvS p q)) else es := by
  unfold moveR moveOk
  rw [keptE_yes ht, may_eq ht]
  cases hm : mayS es p q
  · exact ⟨rfl, rfl⟩
  · unfold mayS at hm
    simp only [Bool.and_eq_true, Bool.not_eq_true'] at hm
    obtain ⟨h1, h2, hq, _⟩ := hm
    obtain ⟨x, hx, hxp⟩ := there_get h1
    have hp : pathB p.data.toList = true := by rw [← hxp]; exact ent_pathB (tree_ent ht hx)
    have hall : moveAll p q es = mvAllS p q es := by
      unfold moveAll mvAllS
      rw [Bool.eq_iff_iff, List.all_eq_true, List.all_eq_true]
      exact ⟨fun h e he => by rw [← (place_eq ht hp hq he).1]; exact h e he, fun h e he => by rw [(place_eq ht hp hq he).1]; exact h e he⟩
    rw [hall]
    refine ⟨rfl, ?_⟩
    cases h3 : mvAllS p q es
    · rfl
    · have hmap : es.map (mvE p q) = es.map (mvS p q) := List.map_congr_left (fun e he => (place_eq ht hp hq he).2 (List.all_eq_true.1 h3 e he))
      simp only [Bool.and_self, if_true]
      rw [hmap, sort_put _ (moved_nodup ht hq h2)]
end Go.Proofs.Ytaefjibnnbdaaaa
