/- Whether wants, one behind the other, take just the items of a text (byte). -/
import Derived.Test.YtiggojpepgbcoaaGlobPassB
import Derived.RangeFuncFrom
import Derived.RangeFuncBox
import Derived.Test.YtiggojpepgbcoaaGlobOf
namespace Go.Proofs.Ytiggojpepgbcoaa
open Go.RowKit Go.Shelf

attribute [local go_sem] Oper.semAt_some

theorem cells_of {W : World} {b : Nat} {cur : Array Value} {e : TypeId} {f : Nat × Nat} (h : W.heap[b]? = some (.cells cur e f)) {r : Option Nat} (hr : ∀ x, r = some x → ∃ o : Obj, W.heap[x]? = some o ∧ o.isCells = false) : r ≠ some b := by
  intro e
  obtain ⟨o, h1, h2⟩ := hr b e
  rw [h] at h1; cases h1; cases h2
theorem TakesIs.below {α : Type} {enc : α → Value} {xs : Pat α} {cs : Nat → Bool × Value} {w W : World} (h : TakesIs enc xs cs w) (hb : Below w.heap.size w W) : TakesIs enc xs cs W := fun i hi hr => by
  obtain ⟨f, ca, h1, h2, h3⟩ := h i hi hr
  exact ⟨f, ca, h1, h2, fun c W' hb' => h3 c W' (hb.trans (hb'.mono hb.size))⟩
theorem Bools.own {W W' : World} {g m : Nat} {h : Nat → Bool} (x : Bools W g m h) {r : Option Nat} (hg : W.grownBy W' r) (hr : ∀ x, r = some x → ∃ o : Obj, W.heap[x]? = some o ∧ o.isCells = false) : Bools W' g m h := by
  obtain ⟨cur, h1, h2, h3⟩ := x
  exact ⟨cur, (hg.block g (Array.getElem?_eq_some_iff.1 h1).1 (fun e => cells_of h1 hr e.symm)).trans h1, h2, h3⟩

set_option maxRecDepth 100000 in
set_option maxHeartbeats 4000000 in
theorem takesAllB_any (xs : Pat UInt8) (v : Value) (cs : Nat → Bool × Value) (s : ByteArray) (Bn : Nat) (w : World) (hn : xs.length ≤ 1000) (hs : s.size ≤ maxLen) (hv : Row2 w 71 v xs.length cs) (hr : ∀ i, i < xs.length → runAt xs i = (cs i).1)
    (hT : TakesIs (fun c : UInt8 => .int .u8 c.toNat) xs cs w) (hBn : Bn < w.heap.size) (hc : w.cell? ⟨Bn, 0, none⟩ = some (.string s)) :
    Calls Try.prog 49 #[v, .func (.func 61) #[] #[.pointer (some ⟨Bn, 0, none⟩)]] w fun e W' => e = .returned (.bool (matchO xs s.data.toList)) ∧ Below w.heap.size w W' := by
  have HV := hid hv
  have HT := hid hT
  have HC := hid hc
  have hsh : ∃ a vc, v = .slice a xs.length vc := by obtain ⟨a, vc, rfl, -⟩ := hv; exact ⟨a, vc, rfl⟩
  obtain ⟨a, vc, rfl⟩ := hsh
  clear hv hT hc
  have hmk := mkBools (w.alloc (.cells #[.slice a xs.length vc] 58)) xs.length hn
  have hms : (madeCells #[.bool false] (xs.length + 1)).size = xs.length + 1 := by simp [madeCells]
  have hm : ∀ j, j < xs.length + 1 → (madeCells #[.bool false] (xs.length + 1))[j]? = some (.bool false) := fun j hj => by simp [madeCells, hj, Nat.mod_one]
  generalize madeCells #[.bool false] (xs.length + 1) = M at hmk hms hm
  have hm0 := hm 0 (Nat.succ_pos _)
  have HM := hid (And.intro hms hm)
  clear hms hm
  refine (callsIn_wide (n := 4)).1 ?_
  refine callsIn_of_wp_marks Try.func49 rfl trivial ?_ rfl
  simp only [Try.ntmps49, List.size_toArray, List.length_cons, List.length_nil, Nat.reduceAdd, Nat.reduceSub, Array.replicate_succ, Array.replicate_zero, List.push_toArray, List.append_toArray, List.nil_append, List.cons_append]
  gi_wp2
  clear hmk hm0
  obtain ⟨W1, hW1⟩ : ∃ W1, W1 = (((w.alloc (.cells #[.slice a xs.length vc] 58)).alloc (.cells (M.setIfInBounds 0 (.bool true)) 4)).alloc (.cells #[.slice (some ⟨w.heap.size + 1, 0, none⟩) (xs.length + 1) (xs.length + 1)] 65)) := ⟨_, rfl⟩
  rw [← hW1]
  have hz1 : W1.heap.size = w.heap.size + 3 := by rw [hW1]; simp
  have hB1 : Below w.heap.size w W1 := by rw [hW1]; exact (((Below.refl _ w).alloc (Nat.le_refl _) _).alloc (by simp) _).alloc (by simp; omega) _
  have k0 : Boxed W1 w.heap.size 58 (.slice a xs.length vc) := by
    rw [hW1]; exact ((Boxed.new w _ _).alloc _).alloc _
  have k2 : Boxed W1 (w.heap.size + 1 + 1) 65 (.slice (some ⟨w.heap.size + 1, 0, none⟩) (xs.length + 1) (xs.length + 1)) := by
    rw [hW1]; have := Boxed.new ((w.alloc (.cells #[.slice a xs.length vc] 58)).alloc (.cells (M.setIfInBounds 0 (.bool true)) 4)) 65 (.slice (some ⟨w.heap.size + 1, 0, none⟩) (xs.length + 1) (xs.length + 1)); simpa using this
  have k1 : Bools W1 (w.heap.size + 1) (xs.length + 1) (fun j => j == 0) := by
    obtain ⟨h1, h2⟩ := unhid HM
    rw [hW1]
    refine Bools.alloc (W := (w.alloc _).alloc _) ⟨M.setIfInBounds 0 (.bool true), ?_, by simpa using h1, fun j hj => ?_⟩ _
    · have := World.alloc_heap_new (w.alloc (.cells #[.slice a xs.length vc] 58)) (.cells (M.setIfInBounds 0 (.bool true)) 4); simpa using this
    · rw [Array.getElem?_setIfInBounds]
      by_cases e : 0 = j
      · subst e; rw [if_pos rfl, if_pos (by omega)]; rfl
      · rw [if_neg e, h2 j hj]
        have e' : (j == 0) = false := by simp; omega
        rw [e']
  clear hW1 HM
  refine ⟨trivial, (callsIn_wide.2 (skipRunsB_any xs _ cs _ (w.heap.size + 1) (xs.length + 1) W1 hn ((unhid HV).kept (fun b hb => hB1.block b hb)) hr k1)).mono ?_⟩
  rintro e W2 ⟨⟨x, rfl⟩, b1, g1⟩
  have q0 := k0.kept g1 (by simp)
  have q2 := k2.kept g1 (by simp)
  have hB2 := below_of_grown hB1 g1 (by omega)
  have hz2 : w.heap.size + 3 ≤ W2.heap.size := by have := g1.size; omega
  have hc0 := q0.cell
  have hc2 := q2.cell
  have HQ := hid (And.intro q0 (And.intro q2 (And.intro b1 hB2)))
  clear k0 k1 k2 hB1 hz1 g1 q0 q2 b1 hB2 W1
  gi_wp2
  refine wpIn_rangeFunc_ownF rfl (by omega) (gf := 61) (lb := #[.pointer (some ⟨Bn, 0, none⟩)]) rfl trivial (enters_of Try.func61 (by kernel_rfl) rfl)
    (bytes_stops Fence.wide _ trivial rfl (by omega) Bn s hs w hBn (unhid HC)) Keeps.t (Keeps.b) (unhid HQ).2.2.2 (fun _ => rfl)
    (fun pre W => ((∃ g, Boxed W (w.heap.size + 1 + 1) 65 (.slice (some ⟨g, 0, none⟩) (xs.length + 1) (xs.length + 1)) ∧ Bools W g (xs.length + 1) (placesP xs pre)) ∧ Boxed W w.heap.size 58 (.slice a xs.length vc)) ∧ Below w.heap.size w W)
    (fun c pre W => False)
    (OwnFrom.and (Own.from (fun s A B row hs hg hr => by
        obtain ⟨⟨g, h1, h2⟩, h3⟩ := hs
        exact ⟨⟨g, boxed_own _ _ (fun _ => _) s A B row h1 hg hr, h2.own hg hr⟩, boxed_own _ _ (fun _ => _) s A B row h3 hg hr⟩) _) (ownFrom_below (Nat.le_refl _) (by omega)))
    (fun c => Own.from (fun s A B row hs hg hr => hs) _)
    ⟨⟨⟨w.heap.size + 1, (unhid HQ).2.1, (unhid HQ).2.2.1⟩, (unhid HQ).1⟩, (unhid HQ).2.2.2⟩
    (fun y => { tmps := #[.slice a xs.length vc, .func (.func 61) #[] #[.pointer (some ⟨Bn, 0, none⟩)], .pointer (some ⟨w.heap.size, 0, none⟩), undef, .bool false, .pointer (some ⟨w.heap.size + 1 + 1, 0, none⟩), .int .u8 y.toNat, .slice a xs.length vc, .int .i64 xs.length, .int .i64 ((xs.length : Int) + 1), .slice (some ⟨w.heap.size + 1, 0, none⟩) (xs.length + 1) (xs.length + 1), .slice (some ⟨w.heap.size + 1, 0, none⟩) (xs.length + 1) (xs.length + 1), .pointer (some ⟨w.heap.size + 1, 0, none⟩), .slice a xs.length vc, .slice (some ⟨w.heap.size + 1, 0, none⟩) (xs.length + 1) (xs.length + 1), x, .func (.func 61) #[] #[.pointer (some ⟨Bn, 0, none⟩)], .int .u8 y.toNat, undef, undef, undef, undef, undef, undef, undef, undef, undef], defers := [] }) ?assign ?body ?done ?stop
  case assign =>
    intro l y W K hK
    gi_wp2
    exact hK
  case body =>
    clear HQ hc0 hc2
    rintro l pre y W ⟨⟨⟨g, k2, k1⟩, k0⟩, hB⟩ _
    have hc0 := k0.cell
    have hc2 := k2.cell
    have hf2 := k2.frozen
    have HK := hid (And.intro k2 (And.intro k1 (And.intro k0 hB)))
    have hT1 : TakesIs (fun c : UInt8 => .int .u8 c.toNat) xs cs W := (unhid HT).below hB
    have HT1 := hid hT1
    have HV1 := hid ((unhid HV).kept (fun b hb => hB.block b hb))
    clear k2 k1 k0 hB hT1
    gi_wp2
    refine ⟨trivial, (CallsIn.inRound l (callsIn_wide.2 (passItemB_any xs _ cs _ g (xs.length + 1) y W hn (unhid HV1) hr (unhid HK).2.1 (unhid HT1)))).mono ?_⟩
    rintro e W' ⟨g', rfl, hg', b1, hb⟩
    obtain ⟨k2, k1, k0, hB⟩ := unhid HK
    have q2 := Boxed_below k2 hb
    have q0 := Boxed_below k0 hb
    have hB' := hB.trans (hb.mono hB.size)
    have hc0 := q0.cell
    have hc2 := q2.cell
    have hf2 := q2.frozen
    have hO := KeepsOthers_of_below hb
    have hgne : g' ≠ w.heap.size + 1 + 1 := by have := k2.lt; omega
    have hKp : Keeps [Bn] W W' := Keeps.of_below hb (fun b hb => by simp at hb; subst hb; exact Nat.lt_of_lt_of_le hBn hB.size)
    have HF := hid (show KeepsOthers W (W'.setCell ⟨w.heap.size + 1 + 1, 0, none⟩ (.slice (some ⟨g', 0, none⟩) (xs.length + 1) (xs.length + 1))) ∧ Keeps [Bn] W (W'.setCell ⟨w.heap.size + 1 + 1, 0, none⟩ (.slice (some ⟨g', 0, none⟩) (xs.length + 1) (xs.length + 1))) ∧ _ from
      And.intro (hO.trans (KeepsOthers.setCell _ _ _)) (And.intro (hKp.t (Keeps.setCell _ _ _ (by simp; omega))) (And.intro (And.intro (show ∃ g, Boxed (W'.setCell ⟨w.heap.size + 1 + 1, 0, none⟩ (.slice (some ⟨g', 0, none⟩) (xs.length + 1) (xs.length + 1))) (w.heap.size + 1 + 1) 65 (.slice (some ⟨g, 0, none⟩) (xs.length + 1) (xs.length + 1)) ∧ Bools (W'.setCell ⟨w.heap.size + 1 + 1, 0, none⟩ (.slice (some ⟨g', 0, none⟩) (xs.length + 1) (xs.length + 1))) g (xs.length + 1) (placesP xs (pre ++ [y])) from ⟨g', q2.set _, by rw [placesP_snoc]; exact b1.other _ _ hgne⟩) (q0.other (show w.heap.size ≠ w.heap.size + 1 + 1 by omega) (.slice (some ⟨g', 0, none⟩) (xs.length + 1) (xs.length + 1)))) (hB'.setCell (p := ⟨w.heap.size + 1 + 1, 0, none⟩) (by simp; omega) (.slice (some ⟨g', 0, none⟩) (xs.length + 1) (xs.length + 1))))))
    clear HK HT1 HV1 k2 k1 k0 hB q2 q0 hB' hO hKp b1 hb
    gi_wp2
    exact unhid HF
  case done =>
    clear HQ hc0 hc2
    rintro D ys W hD rfl ⟨⟨⟨g, k2, k1⟩, k0⟩, hB⟩ hK
    have hc0 := k0.cell
    have hc2 := k2.cell
    obtain ⟨hcn, -⟩ := k1.cell xs.length (by omega)
    rw [places_match] at hcn
    have HB := hid hB
    clear k2 k1 k0 hB
    gi_wp2
    refine ⟨by simp, .inl ⟨_, _, rfl, run_takeDeferred hK, ?_⟩⟩
    refine ⟨.bool (matchO xs s.data.toList), ?_, rfl, (unhid HB).trans (belowK_b (w := w) (Nat.le_refl _) _ D _ _ (by omega) hK rfl rfl)⟩
    simp [results, Try.f49, go_sem]
  case stop =>
    rintro D c pre W hD hpre h hK
    exact h.elim
end Go.Proofs.Ytiggojpepgbcoaa
