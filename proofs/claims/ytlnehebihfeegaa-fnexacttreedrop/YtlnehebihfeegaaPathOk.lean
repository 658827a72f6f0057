/- What the program calls a path. -/
import Derived.Test.YtlnehebihfeegaaParts
import Derived.Test.YtlnehebihfeegaaName
namespace Go.Proofs.Ytlnehebihfeegaa
open Go.RowKit Go.Shelf

attribute [local go_sem] Oper.semAt_some

def pathB (l : List UInt8) : Bool := decide ((cutB 47 l).length ≤ 5) && (cutB 47 l).all nameOkB

set_option maxRecDepth 100000 in
set_option maxHeartbeats 4000000 in
theorem PathOk_any (s : ByteArray) (hs : s.size ≤ maxLen) (w : World) :
    Calls Try.prog 81 #[.string s] w fun e W' => e = .returned (.bool (pathB s.data.toList)) ∧ Below w.heap.size w W' := by
  refine (callsIn_wide (n := 3)).1 ?_
  refine callsIn_of_wp_marks Try.func81 rfl trivial ?_ rfl
  simp only [Try.ntmps81, List.size_toArray, List.length_cons, List.length_nil, Nat.reduceAdd, Nat.reduceSub, Array.replicate_succ, Array.replicate_zero, List.push_toArray, List.append_toArray, List.nil_append, List.cons_append]
  gi_wp2_with (refine ⟨trivial, ?_⟩; gi_at_call 71; refine (partsOf_in Fence.wide _ trivial rfl _ _ _).mono ?_; rintro e w' ⟨rfl, rfl⟩)
  have c0 := cell_new_l w (.bool false) 4
  have c1 := cell_new_l (w.alloc (.cells #[.bool false] 4)) (.int .i64 0) 3
  have c2 := cell_new_l ((w.alloc (.cells #[.bool false] 4)).alloc (.cells #[.int .i64 0] 3)) (.string s) 9
  have c3 := cell_new_l (((w.alloc (.cells #[.bool false] 4)).alloc (.cells #[.int .i64 0] 3)).alloc (.cells #[.string s] 9)) (.int .u8 47) 5
  simp only [World.size_alloc] at c1 c2 c3
  have hB0 : Below w.heap.size w ((((w.alloc (.cells #[.bool false] 4)).alloc (.cells #[.int .i64 0] 3)).alloc (.cells #[.string s] 9)).alloc (.cells #[.int .u8 47] 5)) := ((((Below.refl _ w).alloc (Nat.le_refl _) _).alloc (by simp) _).alloc (by simp; omega) _).alloc (by simp; omega) _
  refine wpIn_rangeFunc_ownF rfl (by omega) (gf := 98) (lb := #[.pointer (some ⟨w.heap.size + 1 + 1, 0, none⟩), .pointer (some ⟨w.heap.size + 1 + 1 + 1, 0, none⟩)]) rfl trivial (enters_of Try.func98 (by kernel_rfl) rfl)
    (parts_stops Fence.wide _ trivial trivial rfl (by omega) (fun s c w => callsIn_wide.2 (IndexByteU_any s c w)) (w.heap.size + 1 + 1) (w.heap.size + 1 + 1 + 1) s 47 hs _ (by simp) (by simp) (cell_alloc_l _ c2.1) c3.1) Keeps.t (Keeps.b) (Below.refl _ _) (fun _ => rfl)
    (fun pre W => (((vals pre).all nameOkB = true ∧ pre.length ≤ 5) ∧ W.cell? ⟨w.heap.size + 1, 0, none⟩ = some (.int .i64 pre.length) ∧ W.frozen? ⟨w.heap.size + 1, 0, none⟩ = false ∧ W.cell? ⟨w.heap.size, 0, none⟩ = some (.bool false) ∧ W.frozen? ⟨w.heap.size, 0, none⟩ = false) ∧ Below w.heap.size w W)
    (fun c pre W => (c = .ret ∧ (5 < pre.length ∨ ∃ y ∈ vals pre, nameOkB y = false) ∧ W.cell? ⟨w.heap.size, 0, none⟩ = some (.bool false)) ∧ Below w.heap.size w W)
    (OwnFrom.and (Own.from (fun s A B row hs hg hr => ⟨hs.1, cell_kept hs.2.1 hg hr, (frozen_kept hs.2.1 hg hr).trans hs.2.2.1, cell_kept hs.2.2.2.1 hg hr, (frozen_kept hs.2.2.2.1 hg hr).trans hs.2.2.2.2⟩) _) (ownFrom_below (Nat.le_refl _) (by simp; omega)))
    (fun c => OwnFrom.and (Own.from (fun s A B row hs hg hr => ⟨hs.1, hs.2.1, cell_kept hs.2.2 hg hr⟩) _) (ownFrom_below (Nat.le_refl _) (by simp; omega)))
    ⟨⟨by simp, cell_alloc_l _ (cell_alloc_l _ c1.1), frozen_alloc_l _ (cell_alloc_l _ c1.1) (frozen_alloc_l _ c1.1 c1.2), cell_alloc_l _ (cell_alloc_l _ (cell_alloc_l _ c0.1)), frozen_alloc_l _ (cell_alloc_l _ (cell_alloc_l _ c0.1)) (frozen_alloc_l _ (cell_alloc_l _ c0.1) (frozen_alloc_l _ c0.1 c0.2))⟩, hB0⟩
    (fun x => { tmps := #[.string s, undef, .pointer (some ⟨w.heap.size, 0, none⟩), .pointer (some ⟨w.heap.size + 1, 0, none⟩), .string x.1, .string s, .func (.func 98) #[] #[.pointer (some ⟨w.heap.size + 1 + 1, 0, none⟩), .pointer (some ⟨w.heap.size + 1 + 1 + 1, 0, none⟩)], .string x.1, undef, undef, undef, undef, undef, undef, undef, undef, undef], defers := [] }) ?assign ?body ?done ?stop
  case assign =>
    intro l x W K hK
    gi_wp2
    exact hK
  case body =>
    rintro l pre x W ⟨⟨⟨hp, hl5⟩, hcn, hfn, hcr, hfr⟩, hB⟩ _
    have hz : w.heap.size + 1 < W.heap.size := below_lt hcn
    have hB2 : Below w.heap.size w (W.setCell ⟨w.heap.size + 1, 0, none⟩ (.int .i64 (pre.length + 1))) := hB.setCell (p := ⟨w.heap.size + 1, 0, none⟩) (by simp) _
    have hcn2 : (W.setCell ⟨w.heap.size + 1, 0, none⟩ (.int .i64 (pre.length + 1))).cell? ⟨w.heap.size + 1, 0, none⟩ = some (.int .i64 (pre.length + 1)) := set_same hcn
    have hfn2 : (W.setCell ⟨w.heap.size + 1, 0, none⟩ (.int .i64 (pre.length + 1))).frozen? ⟨w.heap.size + 1, 0, none⟩ = false := by rw [World.frozen?_setCell]; exact hfn
    have hcr2 : (W.setCell ⟨w.heap.size + 1, 0, none⟩ (.int .i64 (pre.length + 1))).cell? ⟨w.heap.size, 0, none⟩ = some (.bool false) := (set_far W _ _ _ (by simp)).trans hcr
    have hfr2 : (W.setCell ⟨w.heap.size + 1, 0, none⟩ (.int .i64 (pre.length + 1))).frozen? ⟨w.heap.size, 0, none⟩ = false := by rw [World.frozen?_setCell]; exact hfr
    have hK2 : Keeps [w.heap.size + 1 + 1, w.heap.size + 1 + 1 + 1] W (W.setCell ⟨w.heap.size + 1, 0, none⟩ (.int .i64 (pre.length + 1))) := Keeps.setCell W _ _ (by simp)
    have hO2 : KeepsOthers W (W.setCell ⟨w.heap.size + 1, 0, none⟩ (.int .i64 (pre.length + 1))) := KeepsOthers.setCell _ _ _
    have hz2 : (W.setCell ⟨w.heap.size + 1, 0, none⟩ (.int .i64 (pre.length + 1))).heap.size = W.heap.size := by simp
    by_cases h5 : 5 < (pre.length : Int) + 1
    · gi_wp2
      refine ⟨trivial, ?_⟩
      gi_wp2
      exact ⟨hO2.trans (KeepsOthers.setCell _ _ _), ⟨rfl, .inl (by simp; omega), set_same hcr2⟩, hB2.setCell (p := ⟨w.heap.size, 0, none⟩) (by simp) _⟩
    · have hk1 : ∀ w1 : World, Below (W.setCell ⟨w.heap.size + 1, 0, none⟩ (.int .i64 (pre.length + 1))).heap.size (W.setCell ⟨w.heap.size + 1, 0, none⟩ (.int .i64 (pre.length + 1))) w1 →
          w1.cell? ⟨w.heap.size + 1, 0, none⟩ = some (.int .i64 (pre.length + 1)) ∧ w1.frozen? ⟨w.heap.size + 1, 0, none⟩ = false ∧ w1.cell? ⟨w.heap.size, 0, none⟩ = some (.bool false) ∧ w1.frozen? ⟨w.heap.size, 0, none⟩ = false ∧
          Below w.heap.size w w1 ∧ KeepsOthers W w1 ∧ Keeps [w.heap.size + 1 + 1, w.heap.size + 1 + 1 + 1] W w1 := fun w1 hb => by
        have e1 : w.heap.size + 1 < (W.setCell ⟨w.heap.size + 1, 0, none⟩ (.int .i64 (pre.length + 1))).heap.size := by rw [hz2]; exact hz
        have e0 : w.heap.size < (W.setCell ⟨w.heap.size + 1, 0, none⟩ (.int .i64 (pre.length + 1))).heap.size := by omega
        refine ⟨(hb.cell e1).trans hcn2, (hb.frozen e1).trans hfn2, (hb.cell e0).trans hcr2, (hb.frozen e0).trans hfr2, hB2.trans (hb.mono (by omega)), hO2.trans (KeepsOthers_of_below hb), hK2.t fun b _ v hv => ?_⟩
        exact (hb.cell (p := ⟨b, 0, none⟩) (below_lt hv)).trans hv
      have Hk1 := hid hk1
      have HB2 := hid hcr2
      clear hk1 hB2 hcn2 hfn2 hcr2 hfr2 hK2 hO2 hz2
      cases hx : nameOkB x.1.data.toList
      · gi_wp2
        refine ⟨trivial, (CallsIn.inRound l (callsIn_wide.2 (nameOk_any _ x.2 _))).mono ?_⟩
        rintro e w1 ⟨rfl, hb⟩
        obtain ⟨f1, f2, f3, f4, f5, f6, f7⟩ := unhid Hk1 w1 hb
        clear hb
        gi_wp2
        exact ⟨f6.trans (KeepsOthers.setCell _ _ _), ⟨rfl, .inr ⟨_, by rw [vals_snoc]; simp, hx⟩, set_same f3⟩, f5.setCell (p := ⟨w.heap.size, 0, none⟩) (by simp) _⟩
      · gi_wp2
        refine ⟨trivial, (CallsIn.inRound l (callsIn_wide.2 (nameOk_any _ x.2 _))).mono ?_⟩
        rintro e w1 ⟨rfl, hb⟩
        obtain ⟨f1, f2, f3, f4, f5, f6, f7⟩ := unhid Hk1 w1 hb
        clear hb
        gi_wp2
        exact ⟨f6, f7, ⟨⟨by rw [vals_snoc, List.all_append, hp]; simp [hx], by simp; omega⟩, by rw [f1]; simp, f2, f3, f4⟩, f5⟩
  case done =>
    rintro D ys W hD hys ⟨⟨⟨hp, hl5⟩, _, _, hcr, hfr⟩, hB⟩ hK
    gi_wp2
    have hK' := (KeepsOthers.setCell W ⟨w.heap.size, 0, none⟩ (.bool true)).same D _ hK rfl
    refine ⟨by simp, .inl ⟨_, _, rfl, run_takeDeferred hK', ?_⟩⟩
    have hc5 := cell_kept (World.cell?_setCell_same' W ⟨w.heap.size, 0, none⟩ (.bool true) (by rw [hcr]; rfl)) (grownBy_putObj' _ D (.deferred none)) (fun r e => by cases e; exact ⟨_, hK', rfl⟩)
    refine ⟨.bool true, ?_, ?_, (hB.setCell (p := ⟨w.heap.size, 0, none⟩) (by simp) _).trans (belowK_b (w := w) (Nat.le_refl _) _ D _ _ (by simp at hD; omega) hK' rfl rfl)⟩
    · simp [results, Try.f81, go_sem, hc5]
    · rw [pathB, ← hys, hp]; simp [vals]; exact hl5
  case stop =>
    rintro D c pre W hD hpre ⟨⟨rfl, hbad, hcr⟩, hB⟩ hK
    gi_wp2
    refine ⟨by simp, .inl ⟨_, _, rfl, run_takeDeferred hK, ?_⟩⟩
    have hc5 := cell_kept hcr (grownBy_putObj' _ D (.deferred none)) (fun r e => by cases e; exact ⟨_, hK, rfl⟩)
    refine ⟨.bool false, ?_, ?_, hB.trans (belowK_b (w := w) (Nat.le_refl _) W D _ _ (by simp at hD; omega) hK rfl rfl)⟩
    · simp [results, Try.f81, go_sem, hc5]
    · have hl := hpre.length_le
      have : pathB s.data.toList = false := by
        unfold pathB
        rcases hbad with h | ⟨y, hy, hn⟩
        · rw [decide_eq_false (by simp [vals] at hl; omega)]; rfl
        · rw [List.all_eq_false.2 ⟨y, hpre.subset hy, by simp [hn]⟩]; simp
      rw [this]
end Go.Proofs.Ytlnehebihfeegaa
