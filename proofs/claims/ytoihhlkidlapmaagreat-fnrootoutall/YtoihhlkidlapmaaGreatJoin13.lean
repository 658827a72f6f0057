/- Texts of this proof, one behind the other; each says at its head what it shows. -/
import Derived.Test.YtoihhlkidlapmaaGreatJoin12
import Derived.RangeFuncFrom
import Derived.RangeFuncBox
import Derived.Deep.RegionWith
import Derived.Test.YtoihhlkidlapmaaGreatJoin8
import Derived.Test.YtoihhlkidlapmaaGreatJoin7
import Derived.Test.YtoihhlkidlapmaaGreatJoin5
import Derived.Deep.QuietTactic
import Derived.BigQuiet
namespace Go.Proofs.YtoihhlkidlapmaaGreat
open Go.RowKit Go.Shelf
attribute [local go_sem] Oper.semAt_some
theorem cells_of {W : World} {b : Nat} {cur : Array Value} {e : TypeId} {f : Nat × Nat} (h : W.heap[b]? = some (.cells cur e f)) {r : Option Nat} (hr : ∀ x, r = some x → ∃ o : Obj, W.heap[x]? = some o ∧ o.isCells = false) : r ≠ some b := by
  intro e
  obtain ⟨o, h1, h2⟩ := hr b e
  rw [h] at h1; cases h1; cases h2
theorem TakesIs.below {α : Type} {enc : α → Value} {xs : Pat α} {cs : Nat → Bool × Value} {w W : World} (h : TakesIs enc xs cs w) (hb : Below w.heap.size w W) : TakesIs enc xs cs W := fun i hi hr => by
  obtain ⟨f, ca, h1, h2, h3⟩ := h i hi hr
  exact ⟨f, ca, h1, h2, fun c W' hb' => h3 c W' (hb.trans (hb'.mono hb.size))⟩
theorem Bools.own {W W' : World} {g m : Nat} {h : Nat → Bool} (x : Bools W g m h) {r : Option Nat} (hg : W.grownBy W' r) (hr : ∀ x, r = some x → ∃ o : Obj, W.heap[x]? = some o ∧ o.isCells = false) : Bools W' g m h := by
  obtain ⟨cur, h1, h2, h3⟩ := x
  exact ⟨cur, (hg.block g (Array.getElem?_eq_some_iff.1 h1).1 (fun e => cells_of h1 hr e.symm)).trans h1, h2, h3⟩
set_option maxRecDepth 100000 in
set_option maxHeartbeats 4000000 in
theorem takesAllB_any (xs : Pat UInt8) (v : Value) (cs : Nat → Bool × Value) (s : ByteArray) (Bn : Nat) (w : World) (hn : xs.length ≤ 1000) (hs : s.size ≤ maxLen) (hv : Row2 w 270 v xs.length cs) (hr : ∀ i, i < xs.length → runAt xs i = (cs i).1)
    (hT : TakesIs (fun c : UInt8 => .int .u8 c.toNat) xs cs w) (hBn : Bn < w.heap.size) (hc : w.cell? ⟨Bn, 0, none⟩ = some (.string s)) :
    Calls Tryz.prog 228 #[v, .func (.func 265) #[] #[.pointer (some ⟨Bn, 0, none⟩)]] w fun e W' => e = .returned (.bool (matchO xs s.data.toList)) ∧ Below w.heap.size w W' := by
  have HV := hid hv
  have HT := hid hT
  have HC := hid hc
  have hsh : ∃ a vc, v = .slice a xs.length vc := by obtain ⟨a, vc, rfl, -⟩ := hv; exact ⟨a, vc, rfl⟩
  obtain ⟨a, vc, rfl⟩ := hsh
  clear hv hT hc
  have hmk := mkBools (w.alloc (.cells #[.slice a xs.length vc] 245)) xs.length hn
  have hms : (madeCells #[.bool false] (xs.length + 1)).size = xs.length + 1 := by simp [madeCells]
  have hm : ∀ j, j < xs.length + 1 → (madeCells #[.bool false] (xs.length + 1))[j]? = some (.bool false) := fun j hj => by simp [madeCells, hj, Nat.mod_one]
  generalize madeCells #[.bool false] (xs.length + 1) = M at hmk hms hm
  have hm0 := hm 0 (Nat.succ_pos _)
  have HM := hid (And.intro hms hm)
  clear hms hm
  refine (callsIn_wide (n := 4)).1 ?_
  refine callsIn_of_wp_marks Tryz.func228 rfl trivial ?_ rfl
  simp only [Tryz.ntmps228, List.size_toArray, List.length_cons, List.length_nil, Nat.reduceAdd, Nat.reduceSub, Array.replicate_succ, Array.replicate_zero, List.push_toArray, List.append_toArray, List.nil_append, List.cons_append]
  gi_wp2
  clear hmk hm0
  obtain ⟨W1, hW1⟩ : ∃ W1, W1 = (((w.alloc (.cells #[.slice a xs.length vc] 245)).alloc (.cells (M.setIfInBounds 0 (.bool true)) 4)).alloc (.cells #[.slice (some ⟨w.heap.size + 1, 0, none⟩) (xs.length + 1) (xs.length + 1)] 95)) := ⟨_, rfl⟩
  rw [← hW1]
  have hz1 : W1.heap.size = w.heap.size + 3 := by rw [hW1]; simp
  have hB1 : Below w.heap.size w W1 := by rw [hW1]; exact (((Below.refl _ w).alloc (Nat.le_refl _) _).alloc (by simp) _).alloc (by simp; omega) _
  have k0 : Boxed W1 w.heap.size 245 (.slice a xs.length vc) := by
    rw [hW1]; exact ((Boxed.new w _ _).alloc _).alloc _
  have k2 : Boxed W1 (w.heap.size + 1 + 1) 95 (.slice (some ⟨w.heap.size + 1, 0, none⟩) (xs.length + 1) (xs.length + 1)) := by
    rw [hW1]; have := Boxed.new ((w.alloc (.cells #[.slice a xs.length vc] 245)).alloc (.cells (M.setIfInBounds 0 (.bool true)) 4)) 95 (.slice (some ⟨w.heap.size + 1, 0, none⟩) (xs.length + 1) (xs.length + 1)); simpa using this
  have k1 : Bools W1 (w.heap.size + 1) (xs.length + 1) (fun j => j == 0) := by
    obtain ⟨h1, h2⟩ := unhid HM
    rw [hW1]
    refine Bools.alloc (W := (w.alloc _).alloc _) ⟨M.setIfInBounds 0 (.bool true), ?_, by simpa using h1, fun j hj => ?_⟩ _
    · have := World.alloc_heap_new (w.alloc (.cells #[.slice a xs.length vc] 245)) (.cells (M.setIfInBounds 0 (.bool true)) 4); simpa using this
    · rw [Array.getElem?_setIfInBounds]
      by_cases e : 0 = j
      · subst e; rw [if_pos rfl, if_pos (by omega)]; rfl
      · rw [if_neg e, h2 j hj]
        have e' : (j == 0) = false := by simp; omega
        rw [e']
  clear hW1 HM
  refine ⟨trivial, (callsIn_wide.2 (skipRunsB_any xs _ cs _ (w.heap.size + 1) (xs.length + 1) W1 hn ((unhid HV).kept (fun b hb => hB1.block b hb)) hr k1)).mono ?_⟩
  rintro e W2 ⟨⟨x, rfl⟩, b1, g1⟩
  have q0 := k0.kept g1 (by simp)
  have q2 := k2.kept g1 (by simp)
  have hB2 := below_of_grown hB1 g1 (by omega)
  have hz2 : w.heap.size + 3 ≤ W2.heap.size := by have := g1.size; omega
  have hc0 := q0.cell
  have hc2 := q2.cell
  have HQ := hid (And.intro q0 (And.intro q2 (And.intro b1 hB2)))
  clear k0 k1 k2 hB1 hz1 g1 q0 q2 b1 hB2 W1
  gi_wp2
  refine wpIn_rangeFunc_ownF rfl (by omega) (gf := 265) (lb := #[.pointer (some ⟨Bn, 0, none⟩)]) rfl trivial (enters_of Tryz.func265 (by kernel_rfl) rfl)
    (bytes_stops Fence.wide _ trivial rfl (by omega) Bn s hs w hBn (unhid HC)) Keeps.t (Keeps.b) (unhid HQ).2.2.2 (fun _ => rfl)
    (fun pre W => ((∃ g, Boxed W (w.heap.size + 1 + 1) 95 (.slice (some ⟨g, 0, none⟩) (xs.length + 1) (xs.length + 1)) ∧ Bools W g (xs.length + 1) (placesP xs pre)) ∧ Boxed W w.heap.size 245 (.slice a xs.length vc)) ∧ Below w.heap.size w W)
    (fun c pre W => False)
    (OwnFrom.and (Own.from (fun s A B row hs hg hr => by
        obtain ⟨⟨g, h1, h2⟩, h3⟩ := hs
        exact ⟨⟨g, boxed_own _ _ (fun _ => _) s A B row h1 hg hr, h2.own hg hr⟩, boxed_own _ _ (fun _ => _) s A B row h3 hg hr⟩) _) (ownFrom_below (Nat.le_refl _) (by omega)))
    (fun c => Own.from (fun s A B row hs hg hr => hs) _)
    ⟨⟨⟨w.heap.size + 1, (unhid HQ).2.1, (unhid HQ).2.2.1⟩, (unhid HQ).1⟩, (unhid HQ).2.2.2⟩
    (fun y => { tmps := #[.slice a xs.length vc, .func (.func 265) #[] #[.pointer (some ⟨Bn, 0, none⟩)], .pointer (some ⟨w.heap.size, 0, none⟩), undef, .bool false, .pointer (some ⟨w.heap.size + 1 + 1, 0, none⟩), .int .u8 y.toNat, .slice a xs.length vc, .int .i64 xs.length, .int .i64 ((xs.length : Int) + 1), .slice (some ⟨w.heap.size + 1, 0, none⟩) (xs.length + 1) (xs.length + 1), .slice (some ⟨w.heap.size + 1, 0, none⟩) (xs.length + 1) (xs.length + 1), .pointer (some ⟨w.heap.size + 1, 0, none⟩), .slice a xs.length vc, .slice (some ⟨w.heap.size + 1, 0, none⟩) (xs.length + 1) (xs.length + 1), x, .func (.func 265) #[] #[.pointer (some ⟨Bn, 0, none⟩)], .int .u8 y.toNat, undef, undef, undef, undef, undef, undef, undef, undef, undef], defers := [] }) ?assign ?body ?done ?stop
  case assign =>
    intro l y W K hK
    gi_wp2
    exact hK
  case body =>
    clear HQ hc0 hc2
    rintro l pre y W ⟨⟨⟨g, k2, k1⟩, k0⟩, hB⟩ _
    have hc0 := k0.cell
    have hc2 := k2.cell
    have hf2 := k2.frozen
    have HK := hid (And.intro k2 (And.intro k1 (And.intro k0 hB)))
    have hT1 : TakesIs (fun c : UInt8 => .int .u8 c.toNat) xs cs W := (unhid HT).below hB
    have HT1 := hid hT1
    have HV1 := hid ((unhid HV).kept (fun b hb => hB.block b hb))
    clear k2 k1 k0 hB hT1
    gi_wp2
    refine ⟨trivial, (CallsIn.inRound l (callsIn_wide.2 (passItemB_any xs _ cs _ g (xs.length + 1) y W hn (unhid HV1) hr (unhid HK).2.1 (unhid HT1)))).mono ?_⟩
    rintro e W' ⟨g', rfl, hg', b1, hb⟩
    obtain ⟨k2, k1, k0, hB⟩ := unhid HK
    have q2 := Boxed_below k2 hb
    have q0 := Boxed_below k0 hb
    have hB' := hB.trans (hb.mono hB.size)
    have hc0 := q0.cell
    have hc2 := q2.cell
    have hf2 := q2.frozen
    have hO := KeepsOthers_of_below hb
    have hgne : g' ≠ w.heap.size + 1 + 1 := by have := k2.lt; omega
    have hKp : Keeps [Bn] W W' := Keeps.of_below hb (fun b hb => by simp at hb; subst hb; exact Nat.lt_of_lt_of_le hBn hB.size)
    have HF := hid (show KeepsOthers W (W'.setCell ⟨w.heap.size + 1 + 1, 0, none⟩ (.slice (some ⟨g', 0, none⟩) (xs.length + 1) (xs.length + 1))) ∧ Keeps [Bn] W (W'.setCell ⟨w.heap.size + 1 + 1, 0, none⟩ (.slice (some ⟨g', 0, none⟩) (xs.length + 1) (xs.length + 1))) ∧ _ from
      And.intro (hO.trans (KeepsOthers.setCell _ _ _)) (And.intro (hKp.t (Keeps.setCell _ _ _ (by simp; omega))) (And.intro (And.intro (show ∃ g, Boxed (W'.setCell ⟨w.heap.size + 1 + 1, 0, none⟩ (.slice (some ⟨g', 0, none⟩) (xs.length + 1) (xs.length + 1))) (w.heap.size + 1 + 1) 95 (.slice (some ⟨g, 0, none⟩) (xs.length + 1) (xs.length + 1)) ∧ Bools (W'.setCell ⟨w.heap.size + 1 + 1, 0, none⟩ (.slice (some ⟨g', 0, none⟩) (xs.length + 1) (xs.length + 1))) g (xs.length + 1) (placesP xs (pre ++ [y])) from ⟨g', q2.set _, by rw [placesP_snoc]; exact b1.other _ _ hgne⟩) (q0.other (show w.heap.size ≠ w.heap.size + 1 + 1 by omega) (.slice (some ⟨g', 0, none⟩) (xs.length + 1) (xs.length + 1)))) (hB'.setCell (p := ⟨w.heap.size + 1 + 1, 0, none⟩) (by simp; omega) (.slice (some ⟨g', 0, none⟩) (xs.length + 1) (xs.length + 1))))))
    clear HK HT1 HV1 k2 k1 k0 hB q2 q0 hB' hO hKp b1 hb
    gi_wp2
    exact unhid HF
  case done =>
    clear HQ hc0 hc2
    rintro D ys W hD rfl ⟨⟨⟨g, k2, k1⟩, k0⟩, hB⟩ hK
    have hc0 := k0.cell
    have hc2 := k2.cell
    obtain ⟨hcn, -⟩ := k1.cell xs.length (by omega)
    rw [places_match] at hcn
    have HB := hid hB
    clear k2 k1 k0 hB
    gi_wp2
    refine ⟨by simp, .inl ⟨_, _, rfl, run_takeDeferred hK, ?_⟩⟩
    refine ⟨.bool (matchO xs s.data.toList), ?_, rfl, (unhid HB).trans (belowK_b (w := w) (Nat.le_refl _) _ D _ _ (by omega) hK rfl rfl)⟩
    simp [results, Tryz.f228, go_sem]
  case stop =>
    rintro D c pre W hD hpre h hK
    exact h.elim
end Go.Proofs.YtoihhlkidlapmaaGreat

namespace Go.Proofs.YtoihhlkidlapmaaGreat
open Go.RowKit Go.Shelf
attribute [local go_sem] Oper.semAt_some
end Go.Proofs.YtoihhlkidlapmaaGreat

namespace Go.Proofs.YtoihhlkidlapmaaGreat
open Go.RowKit Go.Shelf
def opt8 : W8 → Option (UInt8 → Bool)
  | none => none
  | some x => some (takesB (some x))
def runOf (cells : List Value) (i : Nat) : Bool × Value := ((match cells[2 * i]? with
  | some (.bool r) => r
  | _ => false), cells[2 * i + 1]?.getD undef)
theorem runOf_eq {cells : List Value} {i : Nat} {r : Bool} {fv : Value} (h1 : cells[2 * i]? = some (.bool r)) (h2 : cells[2 * i + 1]? = some fv) : runOf cells i = (r, fv) := by
  unfold runOf; rw [h1, h2]; rfl
theorem row2_of {W : World} {base : Nat} {e : TypeId} {v : Value} {n : Nat} {cells : List Value} (h : W.ownsRow base e 2 v n cells) (hc : ∀ i, i < n → ∃ r fv, cells[2 * i]? = some (.bool r) ∧ cells[2 * i + 1]? = some fv ∧ fv.oneCell' = true) : Row2 W e v n (runOf cells) := by
  rcases h.2 with ⟨rfl, rfl⟩ | ⟨g, cap, cur, rfl, hb, hg, hcap, _, hsz, hcells⟩
  · exact ⟨none, 0, rfl, .inl rfl⟩
  · refine ⟨_, cap, rfl, .inr ⟨g, cur, rfl, hg, hcap, fun i hi => ?_⟩⟩
    obtain ⟨r, fv, h1, h2, h3⟩ := hc i hi
    rw [runOf_eq h1 h2]
    rw [← hcells] at h1 h2
    rw [List.getElem?_take_of_lt (by omega)] at h1 h2
    refine ⟨?_, ?_, h3⟩
    · rw [show i * 2 = 2 * i by omega, ← Array.getElem?_toList]; exact h1
    · rw [show i * 2 + 1 = 2 * i + 1 by omega, ← Array.getElem?_toList]; exact h2
theorem opt8_run (xs : List W8) (i : Nat) (x : W8) (h : xs[i]? = some x) : (xs.map opt8)[i]? = some (opt8 x) := by simp [h]
theorem eg63 : ∀ args w, (callFunc 280 args).run Tryz.prog w = .ok (.enter 280 args) w := enters_of Tryz.func280 (by kernel_rfl) rfl
theorem eg65 : ∀ args w, (callFunc 282 args).run Tryz.prog w = .ok (.enter 282 args) w := enters_of Tryz.func282 (by kernel_rfl) rfl
theorem eg67 : ∀ args w, (callFunc 287 args).run Tryz.prog w = .ok (.enter 287 args) w := enters_of Tryz.func287 (by kernel_rfl) rfl
theorem eg48 : ∀ args w, (callFunc 227 args).run Tryz.prog w = .ok (.enter 227 args) w := enters_of Tryz.func227 (by kernel_rfl) rfl
theorem below_drewN {B : Nat} (w : World) (m : Nat) : Below B w (w.drewN m) := ⟨rfl, rfl, rfl, Nat.le_refl _, fun _ _ => rfl⟩
theorem WantsP.row {W : World} {P : Nat → Prop} {v : Value} {xs : List W8} (h : WantsP W P v xs) : ∃ cs, Row2 W 270 v (xs.map opt8).length cs ∧ (∀ i, i < (xs.map opt8).length → runAt (xs.map opt8) i = (cs i).1) ∧ TakesIs (fun c : UInt8 => .int .u8 c.toNat) (xs.map opt8) cs W := by
  obtain ⟨base, cells, h1, _, h3⟩ := h
  have hx : ∀ i, i < (xs.map opt8).length → ∃ x, xs[i]? = some x := fun i hi => ⟨_, List.getElem?_eq_getElem (by simpa using hi)⟩
  refine ⟨runOf cells, row2_of (by simpa using h1) (fun i hi => ?_), fun i hi => ?_, fun i hi hr => ?_⟩
  · obtain ⟨x, hxi⟩ := hx i hi
    obtain ⟨r, fv, a, b, c⟩ := h3 i x hxi
    exact ⟨r, fv, a, b, by rcases c.form with rfl | ⟨f, ca, rfl⟩ <;> rfl⟩
  · obtain ⟨x, hxi⟩ := hx i hi
    obtain ⟨r, fv, a, b, c⟩ := h3 i x hxi
    rw [runOf_eq a b]
    unfold runAt
    rw [opt8_run xs i x hxi]
    rcases x with _ | _ | d | ⟨inner, others⟩
    · exact c.1.symm
    · exact c.1.symm
    · exact c.1.symm
    · exact c.1.symm
  · obtain ⟨x, hxi⟩ := hx i hi
    obtain ⟨r, fv, a, b, c⟩ := h3 i x hxi
    have ht : ∀ c, x ≠ .star → takeAt (xs.map opt8) i c = takesB x c := fun c hne => by
      unfold takeAt
      rw [opt8_run xs i x hxi]
      cases x <;> first | exact absurd rfl hne | rfl
    rw [runOf_eq a b]
    rcases x with _ | _ | d | ⟨inner, others⟩
    · unfold runAt at hr; rw [opt8_run xs i _ hxi] at hr; cases hr
    · refine ⟨_, _, c.2, eg63, fun ch W' hb => ?_⟩
      rw [ht ch (by simp)]
      exact (takes_any ch W').mono (by rintro e w' ⟨rfl, rfl⟩; exact ⟨rfl, Below.refl _ _⟩)
    · obtain ⟨_, bb, e1, _, e3, e4⟩ := c
      refine ⟨_, _, e1, eg65, fun ch W' hb => ?_⟩
      rw [ht ch (by simp)]
      exact (takes_byte ch d bb W' ((hb.cell (p := ⟨bb, 0, none⟩) e3).trans e4)).mono (by rintro e w' ⟨rfl, rfl⟩; exact ⟨rfl, Below.refl _ _⟩)
    · obtain ⟨_, bb, dd, e1, ⟨_, e3, e4⟩, _, e6, e7⟩ := c
      refine ⟨_, _, e1, eg67, fun ch W' hb => ?_⟩
      rw [ht ch (by simp)]
      exact (takes_cls ch inner others bb dd W' ((hb.cell (p := ⟨bb, 0, none⟩) e3).trans e4) ((hb.cell (p := ⟨dd, 0, none⟩) e6).trans e7)).mono (by rintro e w' ⟨rfl, m, rfl⟩; exact ⟨rfl, below_drewN _ _⟩)
theorem bytesOf_any (s : ByteArray) (w : World) : Calls Tryz.prog 229 #[.string s] w fun e w' => e = .returned (.func (.func 265) #[] #[.pointer (some ⟨w.heap.size, 0, none⟩)]) ∧ w' = w.alloc (.cells #[.string s] 9) :=
  (callsIn_wide (n := 1)).1 (bytesOf_in Fence.wide _ trivial rfl s w)
set_option maxRecDepth 100000 in
set_option maxHeartbeats 4000000 in
theorem nameTakes_any (s : Str) (xs : List W8) (b : Nat) (v : Value) (P : Nat → Prop) (w : World) (hc : w.cell? ⟨b, 0, none⟩ = some v) (hW : WantsP w P v xs) (hn : xs.length ≤ 1000) :
    Calls Tryz.prog 227 #[.string s.1, .pointer (some ⟨b, 0, none⟩)] w fun e W' => e = .returned (.bool (matchO (xs.map opt8) s.1.data.toList)) ∧ Below w.heap.size w W' := by
  obtain ⟨cs, h1, h2, h3⟩ := hW.row
  have hbl := below_lt hc
  have H1 := hid h1
  have H2 := hid h2
  have H3 := hid h3
  clear h1 h2 h3 hW
  go_enter Tryz.func227, Tryz.ntmps227
  go_wp2_with fail
  have hal : Below w.heap.size w (w.alloc (.cells #[.string s.1] 9)).drew := ((Below.refl _ w).alloc (Nat.le_refl _) _).drew
  have HA := hid hal
  have HN := hid (show (w.alloc (.cells #[.string s.1] 9)).drew.cell? ⟨w.heap.size, 0, none⟩ = some (.string s.1) ∧ w.heap.size < (w.alloc (.cells #[.string s.1] 9)).drew.heap.size from ⟨(cell_new_l w _ _).1, by show _ < (w.alloc _).heap.size; simp⟩)
  clear hal
  go_region_with (first | (go_at_call 229; refine (bytesOf_any _ _).mono ?_; rintro e w' ⟨rfl, rfl⟩) | (go_at_call 228; refine (takesAllB_any (xs.map opt8) _ cs s.1 w.heap.size _ (by simpa using hn) s.2 ((unhid H1).kept (fun b hb => (unhid HA).block b hb)) (unhid H2) ((unhid H3).below (unhid HA)) (unhid HN).2 (unhid HN).1).mono ?_; rintro e w2 ⟨rfl, hb⟩; have HB2 := hid ((unhid HA).trans (hb.mono (unhid HA).size)); clear hb))
  all_goals
    go_wp2_with fail
    go_ret
    exact ⟨rfl, unhid HB2⟩
def opt9 : W9 → Option (Str → Bool)
  | none => none
  | some xs => some fun s => matchO (xs.map opt8) s.1.data.toList
def NamesP (W : World) (P : Nat → Prop) (v : Value) (xs : List W9) : Prop :=
  ∃ base cells, W.ownsRow base 197 2 v xs.length cells ∧ (∀ g, v.ownBlock = some g → P g) ∧ ∀ i x, xs[i]? = some x → ∃ run fv, cells[2 * i]? = some (.bool run) ∧ cells[2 * i + 1]? = some fv ∧ NameIs W P x run fv
theorem NamesP.kept {W W' : World} {P P' : Nat → Prop} {v : Value} {xs : List W9} (h : NamesP W P v xs) (hs : W.heap.size ≤ W'.heap.size) (hk : ∀ b, P b → b < W.heap.size → W'.heap[b]? = W.heap[b]?) (hP : ∀ b, P b → b < W.heap.size → P' b) : NamesP W' P' v xs := by
  obtain ⟨base, cells, h1, h2, h3⟩ := h
  refine ⟨base, cells, ownsRow_keptG h1 (fun g e => hk g (h2 g e) (h1.lt g e).2), fun g e => hP g (h2 g e) (h1.lt g e).2, fun i x hi => ?_⟩
  obtain ⟨run, fv, g1, g2, g3⟩ := h3 i x hi
  exact ⟨run, fv, g1, g2, g3.kept hs hk hP⟩
theorem NameIs.form {W : World} {P : Nat → Prop} {x : W9} {run : Bool} {fv : Value} (h : NameIs W P x run fv) : fv = .nilFunc ∨ ∃ f ca, fv = .func (.func f) #[] ca := by
  rcases x with _ | xs
  · exact .inl h.2
  · obtain ⟨_, b, v, h1, _⟩ := h; exact .inr ⟨_, _, h1⟩
def small9 : W9 → Prop
  | none => True
  | some xs => xs.length ≤ 1000
theorem NamesP.row {W : World} {P : Nat → Prop} {v : Value} {xs : List W9} (h : NamesP W P v xs) (hm : ∀ x ∈ xs, small9 x) : ∃ cs, Row2 W 197 v (xs.map opt9).length cs ∧ (∀ i, i < (xs.map opt9).length → runAt (xs.map opt9) i = (cs i).1) ∧ TakesIs (fun c : Str => .string c.1) (xs.map opt9) cs W := by
  obtain ⟨base, cells, h1, _, h3⟩ := h
  have hx : ∀ i, i < (xs.map opt9).length → ∃ x, xs[i]? = some x := fun i hi => ⟨_, List.getElem?_eq_getElem (by simpa using hi)⟩
  have ho : ∀ (i : Nat) (x : W9), xs[i]? = some x → (xs.map opt9)[i]? = some (opt9 x) := fun i x h => by simp [h]
  refine ⟨runOf cells, row2_of (by simpa using h1) (fun i hi => ?_), fun i hi => ?_, fun i hi hr => ?_⟩
  · obtain ⟨x, hxi⟩ := hx i hi
    obtain ⟨r, fv, a, b, c⟩ := h3 i x hxi
    exact ⟨r, fv, a, b, by rcases c.form with rfl | ⟨f, ca, rfl⟩ <;> rfl⟩
  · obtain ⟨x, hxi⟩ := hx i hi
    obtain ⟨r, fv, a, b, c⟩ := h3 i x hxi
    rw [runOf_eq a b]
    unfold runAt
    rw [ho i x hxi]
    rcases x with _ | ys
    · exact c.1.symm
    · exact c.1.symm
  · obtain ⟨x, hxi⟩ := hx i hi
    obtain ⟨r, fv, a, b, c⟩ := h3 i x hxi
    rw [runOf_eq a b]
    rcases x with _ | ys
    · unfold runAt at hr; rw [ho i _ hxi] at hr; cases hr
    · obtain ⟨_, bb, vv, e1, _, e3, e4, e5⟩ := c
      refine ⟨_, _, e1, eg48, fun ch W' hb => ?_⟩
      have ht : takeAt (xs.map opt9) i ch = matchO (ys.map opt8) ch.1.data.toList := by unfold takeAt; rw [ho i _ hxi]; rfl
      rw [ht]
      exact nameTakes_any ch ys bb vv P W' ((hb.cell (p := ⟨bb, 0, none⟩) e3).trans e4) (e5.kept hb.size (fun b _ hl => hb.block b hl) (fun _ h _ => h)) (hm _ (List.mem_of_getElem? hxi))
end Go.Proofs.YtoihhlkidlapmaaGreat

namespace Go.Proofs.YtoihhlkidlapmaaGreat
open Go.RowKit Go.Shelf
attribute [local go_sem] Oper.semAt_some
def CellsAt (W : World) (b : Nat) : Prop := ∃ o : Obj, W.heap[b]? = some o ∧ o.isCells = true
theorem cellsAt_of_cell {W : World} {b : Nat} {v : Value} (h : W.cell? ⟨b, 0, none⟩ = some v) : CellsAt W b := by
  unfold World.cell? at h
  cases hh : W.heap[b]? with
  | none => simp [hh] at h
  | some o =>
    refine ⟨o, hh, ?_⟩
    cases o <;> first | rfl | (simp [hh] at h)
theorem WantIs.cells {W : World} {P : Nat → Prop} {x : W8} {run : Bool} {fv : Value} (h : WantIs W P x run fv) : WantIs W (fun b => P b ∧ CellsAt W b) x run fv := by
  rcases x with _ | _ | c | ⟨inner, others⟩
  · exact h
  · exact h
  · obtain ⟨h0, b, h1, h2, h3, h4⟩ := h
    exact ⟨h0, b, h1, ⟨h2, cellsAt_of_cell h4⟩, h3, h4⟩
  · obtain ⟨h0, b, d, h1, ⟨h2, h3, h4⟩, h5, h6, h7⟩ := h
    exact ⟨h0, b, d, h1, ⟨⟨h2, cellsAt_of_cell h4⟩, h3, h4⟩, ⟨h5, cellsAt_of_cell h7⟩, h6, h7⟩
theorem WantsP.cells {W : World} {P : Nat → Prop} {v : Value} {xs : List W8} (h : WantsP W P v xs) : WantsP W (fun b => P b ∧ CellsAt W b) v xs := by
  obtain ⟨base, cells, h1, h2, h3⟩ := h
  refine ⟨base, cells, h1, fun g e => ⟨h2 g e, ?_⟩, fun i x hi => ?_⟩
  · rcases h1.2 with ⟨rfl, _⟩ | ⟨g', cap, cur, rfl, _, hg, _⟩
    · cases e
    · cases e; exact ⟨_, hg, rfl⟩
  · obtain ⟨run, fv, g1, g2, g3⟩ := h3 i x hi
    exact ⟨run, fv, g1, g2, g3.cells⟩
theorem NameIs.cells {W : World} {P : Nat → Prop} {x : W9} {run : Bool} {fv : Value} (h : NameIs W P x run fv) : NameIs W (fun b => P b ∧ CellsAt W b) x run fv := by
  rcases x with _ | xs
  · exact h
  · obtain ⟨h0, b, v, h1, h2, h3, h4, h5⟩ := h
    exact ⟨h0, b, v, h1, ⟨h2, cellsAt_of_cell h4⟩, h3, h4, h5.cells⟩
def PB (N : Nat) (v : Value) (W : World) (b : Nat) : Prop := (N ≤ b ∧ v.ownBlock ≠ some b) ∧ CellsAt W b
def NamesIn (W : World) (N : Nat) (v : Value) (cells : List Value) (xs : List W9) : Prop :=
  ∀ (i : Nat) (x : W9), xs[i]? = some x → ∃ run fv, cells[2 * i]? = some (.bool run) ∧ cells[2 * i + 1]? = some fv ∧ NameIs W (PB N v W) x run fv
theorem NamesIn.own {A B : World} {N : Nat} {v : Value} {cells : List Value} {xs : List W9} (h : NamesIn A N v cells xs) {r : Option Nat} (hg : A.grownBy B r) (hr : ∀ x, r = some x → ∃ o : Obj, A.heap[x]? = some o ∧ o.isCells = false) : NamesIn B N v cells xs := by
  intro i x hi
  obtain ⟨run, fv, a, b, c⟩ := h i x hi
  have same : ∀ k, CellsAt A k → k < A.heap.size → B.heap[k]? = A.heap[k]? := fun k hk hl => hg.block k hl (fun e => by
    obtain ⟨o, h1, h2⟩ := hk
    obtain ⟨o', h3, h4⟩ := hr k e.symm
    rw [h1] at h3; cases h3; rw [h2] at h4; cases h4)
  exact ⟨run, fv, a, b, c.kept hg.size (fun k hk hl => same k hk.2 hl) (fun k hk hl => ⟨hk.1, by obtain ⟨o, h1, h2⟩ := hk.2; exact ⟨o, (same k hk.2 hl).trans h1, h2⟩⟩)⟩
theorem NamesIn.below {A B : World} {N : Nat} {v : Value} {cells : List Value} {xs : List W9} (h : NamesIn A N v cells xs) (hb : Below A.heap.size A B) : NamesIn B N v cells xs := by
  intro i x hi
  obtain ⟨run, fv, a, b, c⟩ := h i x hi
  exact ⟨run, fv, a, b, c.kept hb.size (fun k _ hl => hb.block k hl) (fun k hk hl => ⟨hk.1, by obtain ⟨o, h1, h2⟩ := hk.2; exact ⟨o, (hb.block k hl).trans h1, h2⟩⟩)⟩
theorem NamesIn.set {A : World} {N : Nat} {v : Value} {cells : List Value} {xs : List W9} (h : NamesIn A N v cells xs) (a : Addr) (ha : a.block < N) (u : Value) : NamesIn (A.setCell a u) N v cells xs := by
  intro i x hi
  obtain ⟨run, fv, p, q, c⟩ := h i x hi
  have same : ∀ k, N ≤ k → (A.setCell a u).heap[k]? = A.heap[k]? := fun k hk => Below.heap_setCell A a u k (by omega)
  exact ⟨run, fv, p, q, c.kept (by simp) (fun k hk _ => same k hk.1.1) (fun k hk _ => ⟨hk.1, by obtain ⟨o, h1, h2⟩ := hk.2; exact ⟨o, (same k hk.1.1).trans h1, h2⟩⟩)⟩
theorem NamesIn.push {wr w1 w2 : World} {o o' : Obj} {N : Nat} {v v' : Value} {xs : List W9} {cells : List Value} {x : W9} {run : Bool} {fv : Value}
    (h : NamesIn wr N v cells xs) (hl : cells.length = xs.length * 2) (hN : N ≤ wr.heap.size) (hv : ∀ g, v.ownBlock = some g → g < wr.heap.size) (hB1 : Below wr.heap.size wr w1) (hx : NameIs w1 (fun b => wr.heap.size ≤ b) x run fv)
    (hgrow : ((w1.alloc o).alloc o').grownBy w2 v.ownBlock) (hat : v'.ownBlock = v.ownBlock ∨ ∃ g, v'.ownBlock = some g ∧ w1.heap.size ≤ g) : NamesIn w2 N v' (cells ++ [.bool run, fv]) (xs ++ [x]) := by
  have hW : Below w1.heap.size w1 ((w1.alloc o).alloc o') := ((Below.refl _ w1).alloc (Nat.le_refl _) _).alloc (by simp) _
  have hs1 := hB1.size
  have hs2 := hW.size
  have hs3 := hgrow.size
  have far : ∀ b, b < w1.heap.size → v.ownBlock ≠ some b → w2.heap[b]? = w1.heap[b]? := fun b hb hne => (hgrow.block b (by omega) (by intro e; first | exact hne e | exact hne e.symm)).trans (hW.block b hb)
  intro i y hi
  by_cases hlt : i < xs.length
  · rw [List.getElem?_append_left hlt] at hi
    obtain ⟨r, f, h1, h2, h3⟩ := h i y hi
    refine ⟨r, f, by rw [List.getElem?_append_left (by omega)]; exact h1, by rw [List.getElem?_append_left (by omega)]; exact h2, ?_⟩
    have same : ∀ b, PB N v wr b → b < wr.heap.size → w2.heap[b]? = wr.heap[b]? := fun b hb hlb => (far b (by omega) hb.1.2).trans (hB1.block b hlb)
    refine h3.kept (by omega) same (fun b hb hlb => ⟨⟨hb.1.1, ?_⟩, by obtain ⟨o, p, q⟩ := hb.2; exact ⟨o, (same b hb hlb).trans p, q⟩⟩)
    rcases hat with e | ⟨g, e, hg⟩
    · rw [e]; exact hb.1.2
    · rw [e]; intro e'; cases e'; omega
  · rw [List.getElem?_append_right (by omega)] at hi
    have hi0 : i = xs.length := by
      have := (List.getElem?_eq_some_iff.1 hi).1
      simp at this; omega
    subst hi0
    simp at hi
    subst hi
    refine ⟨run, fv, by rw [List.getElem?_append_right (by omega), show 2 * xs.length - cells.length = 0 by omega]; rfl, by rw [List.getElem?_append_right (by omega), show 2 * xs.length + 1 - cells.length = 1 by omega]; rfl, ?_⟩
    have same : ∀ b, wr.heap.size ≤ b → b < w1.heap.size → w2.heap[b]? = w1.heap[b]? := fun b hb hlb => far b hlb (fun e => by have := hv b e; omega)
    refine hx.cells.kept (by omega) (fun b hb hlb => same b hb.1 hlb) (fun b hb hlb => ⟨⟨by have := hb.1; omega, ?_⟩, by obtain ⟨o, p, q⟩ := hb.2; exact ⟨o, (same b hb.1 hlb).trans p, q⟩⟩)
    rcases hat with e | ⟨g, e, hg⟩
    · rw [e]; intro e'; have := hv b e'; have := hb.1; omega
    · rw [e]; intro e'; cases e'; omega
theorem NamesIn.p {W : World} {N base : Nat} {v : Value} {cells : List Value} {xs : List W9} (h : NamesIn W N v cells xs) (hr : W.ownsRow base 197 2 v xs.length cells) (hb : base ≤ N) : NamesP W (fun b => base ≤ b) v xs := by
  refine ⟨base, cells, hr, fun g e => (hr.lt g e).1, fun i x hi => ?_⟩
  obtain ⟨run, fv, a, b, c⟩ := h i x hi
  exact ⟨run, fv, a, b, c.kept (Nat.le_refl _) (fun _ _ _ => rfl) (fun k hk _ => Nat.le_trans hb hk.1.1)⟩
end Go.Proofs.YtoihhlkidlapmaaGreat

namespace Go.Proofs.YtoihhlkidlapmaaGreat
open Go.RowKit Go.Shelf
def isNot (s : ByteArray) : Bool := decide (s.data.toList[1]? = some 33)
def inC (s : ByteArray) (c : UInt8) : Bool := ((s.data.toList.take (s.size - 1)).drop (clsFrom s.data.toList)).contains c
theorem inC_yes {s : ByteArray} {c : UInt8} (k : Nat) (h1 : clsFrom s.data.toList ≤ k) (h2 : k < s.size - 1) (h3 : s.data.toList[k]? = some c) : inC s c = true := by
  unfold inC
  rw [List.contains_iff_mem, List.mem_iff_getElem?]
  exact ⟨k - clsFrom s.data.toList, by rw [List.getElem?_drop, List.getElem?_take, show clsFrom s.data.toList + (k - clsFrom s.data.toList) = k by omega, if_pos h2, h3]⟩
theorem inC_no {s : ByteArray} {c : UInt8} (h : ∀ k, clsFrom s.data.toList ≤ k → k < s.size - 1 → s.data.toList[k]? ≠ some c) : inC s c = false := by
  unfold inC
  rw [Bool.eq_false_iff]
  intro e
  rw [List.contains_iff_mem, List.mem_iff_getElem?] at e
  obtain ⟨m, hm⟩ := e
  rw [List.getElem?_drop, List.getElem?_take] at hm
  split at hm
  · rename_i hlt; exact h _ (Nat.le_add_right _ m) hlt hm
  · cases hm
set_option maxRecDepth 100000 in
set_option maxHeartbeats 2000000 in
theorem l1Of_any (s : ByteArray) (c : UInt8) (hs : s.size ≤ 1048576) (h3 : 3 ≤ s.size) (w : World) :
    Calls Tryz.prog 274 #[.string s, .int .u8 c.toNat] w fun e w' => e = .returned (.bool (inC s c != isNot s)) ∧ w' = w := by
  have g1 : s.data.toList[1]? = some s[1] := get_some (by omega)
  by_cases e1 : s[1] = 33
  · have b1 : (((s[1]).toNat : Int) == 33) = true := by rw [e1]; rfl
    have hd := hid (show isNot s = true by unfold isNot; rw [g1, e1]; rfl)
    have hf := hid (show clsFrom s.data.toList = 2 by unfold clsFrom; rw [g1, e1]; rfl)
    clear g1 e1
    go_enter Tryz.func274, Tryz.ntmps274
    go_wp2_with fail
    go_loop [6] (fun i => ∃ k : Nat, 1 ≤ k ∧ k ≤ s.size - 1 ∧ i = .int .i64 k ∧ Hid (∀ j, clsFrom s.data.toList ≤ j → j < k → s.data.toList[j]? ≠ some c)) (fun i => s.size - (intOf i).toNat)
    case atStart => exact ⟨1, by omega, by omega, rfl, hid (fun j a b => by rw [unhid hf] at a; omega)⟩
    case round =>
      obtain ⟨k, hk1, hk, rfl, hno⟩ := hrel
      by_cases hlt : k < s.size - 1
      · have hlt' : (k : Int) < (s.size : Int) - 1 := by omega
        have hks : k < s.size := by omega
        by_cases e2 : s[k] = c
        · have b2 : (((s[k]).toNat : Int) == (c.toNat : Int)) = true := by rw [e2]; simp
          by_cases hk2 : 1 < k
          · have E := hid (show inC s c = true from inC_yes k (by rw [unhid hf]; omega) hlt (by rw [get_some hks, e2]))
            clear e2
            go_wp2_with fail
            go_ret
            exact ⟨by rw [unhid E, unhid hd]; rfl, rfl⟩
          · have hk0 : k = 1 := by omega
            subst hk0
            clear e2
            go_wp2_with fail
            go_round
            case rel => exact ⟨2, by omega, by omega, rfl, hid (fun j a b => by rw [unhid hf] at a; omega)⟩
            case measure => simp [intOf]; omega
        · have b2 : (((s[k]).toNat : Int) == (c.toNat : Int)) = false := eq_no rfl e2
          have hno2 := hid (show ∀ j, clsFrom s.data.toList ≤ j → j < k + 1 → s.data.toList[j]? ≠ some c from fun j a b => by
            by_cases e : j = k
            · subst e; rw [get_some hks]; simpa using e2
            · exact unhid hno j a (by omega))
          clear e2
          go_wp2_with fail
          go_round
          case rel => exact ⟨k + 1, by omega, by omega, by go_num, hno2⟩
          case measure => simp [intOf]; omega
      · have E := hid (show inC s c = false from inC_no (fun j a b => unhid hno j a (by omega)))
        have hlt' : ¬ (k : Int) < (s.size : Int) - 1 := by omega
        go_wp2_with fail
        go_ret
        exact ⟨by rw [unhid E, unhid hd]; rfl, rfl⟩
  · have b1 := eq_no (n := 33) rfl e1
    have hd := hid (show isNot s = false by unfold isNot; rw [g1]; simpa using e1)
    have hf := hid (show clsFrom s.data.toList = 1 by unfold clsFrom; rw [g1, if_neg (by simpa using e1)])
    clear g1 e1
    go_enter Tryz.func274, Tryz.ntmps274
    go_wp2_with fail
    go_loop [6] (fun i => ∃ k : Nat, 1 ≤ k ∧ k ≤ s.size - 1 ∧ i = .int .i64 k ∧ Hid (∀ j, clsFrom s.data.toList ≤ j → j < k → s.data.toList[j]? ≠ some c)) (fun i => s.size - (intOf i).toNat)
    case atStart => exact ⟨1, by omega, by omega, rfl, hid (fun j a b => by rw [unhid hf] at a; omega)⟩
    case round =>
      obtain ⟨k, hk1, hk, rfl, hno⟩ := hrel
      by_cases hlt : k < s.size - 1
      · have hlt' : (k : Int) < (s.size : Int) - 1 := by omega
        have hks : k < s.size := by omega
        by_cases e2 : s[k] = c
        · have b2 : (((s[k]).toNat : Int) == (c.toNat : Int)) = true := by rw [e2]; simp
          have E := hid (show inC s c = true from inC_yes k (by rw [unhid hf]; omega) hlt (by rw [get_some hks, e2]))
          clear e2
          by_cases hk2 : (1 : Int) < k
          all_goals
            go_wp2_with fail
            go_ret
            exact ⟨by rw [unhid E, unhid hd]; rfl, rfl⟩
        · have b2 : (((s[k]).toNat : Int) == (c.toNat : Int)) = false := eq_no rfl e2
          have hno2 := hid (show ∀ j, clsFrom s.data.toList ≤ j → j < k + 1 → s.data.toList[j]? ≠ some c from fun j a b => by
            by_cases e : j = k
            · subst e; rw [get_some hks]; simpa using e2
            · exact unhid hno j a (by omega))
          clear e2
          go_wp2_with fail
          go_round
          case rel => exact ⟨k + 1, by omega, by omega, by go_num, hno2⟩
          case measure => simp [intOf]; omega
      · have E := hid (show inC s c = false from inC_no (fun j a b => unhid hno j a (by omega)))
        have hlt' : ¬ (k : Int) < (s.size : Int) - 1 := by omega
        go_wp2_with fail
        go_ret
        exact ⟨by rw [unhid E, unhid hd]; rfl, rfl⟩
theorem class_takes {g : ByteArray} {x : W8} {n : Nat} (h0 : g.data.toList[0]? = some 91) (h : classR g = some (x, n)) (c : UInt8) : (inC (g.extract 0 n) c != isNot (g.extract 0 n)) = takesB x c ∧ 3 ≤ (g.extract 0 n).size ∧ n ≤ g.size := by
  obtain ⟨i, hi, hf, h93, hall⟩ := class_of h0 h
  have hs := class_some h0 hf h93 hall
  rw [hs] at h
  cases h
  have hil : i < g.data.toList.length := (List.getElem?_eq_some_iff.1 h93).1
  have h1i : 1 < i := by unfold clsFrom at hf; split at hf <;> omega
  have hz : (g.extract 0 (i + 1)).size = i + 1 := by rw [ByteArray.size_extract, Lib.size_eq]; omega
  have hd : (g.extract 0 (i + 1)).data.toList = g.data.toList.take (i + 1) := by rw [Lib.extract_data]; simp
  have h1 : (g.extract 0 (i + 1)).data.toList[1]? = g.data.toList[1]? := by rw [hd, List.getElem?_take, if_pos (by omega)]
  have hn : isNot (g.extract 0 (i + 1)) = hasA (g.extract 1 i) bang := by rw [mid_bang h1i]; unfold isNot; rw [h1]
  have hc : clsFrom (g.extract 0 (i + 1)).data.toList = clsFrom g.data.toList := by unfold clsFrom; rw [h1]
  refine ⟨?_, by rw [hz]; omega, by rw [Lib.size_eq]; omega⟩
  rw [hn]
  show _ = ((clsA g i).data.toList.contains c != hasA (g.extract 1 i) bang)
  rw [cls_data h1i]
  unfold inC
  rw [hc, hz, hd, List.take_take]
  simp
theorem wants_cons {g : ByteArray} {xs : List W8} (h0 : 0 < g.size) (h : wants g = some xs) : ∃ x n ys, firstR g g[0] = some (x, n) ∧ wants (g.extract n g.size) = some ys ∧ xs = x :: ys := by
  cases hf : firstR g g[0] with
  | none => rw [wants_none h0 hf] at h; cases h
  | some p =>
    obtain ⟨x, n⟩ := p
    rw [wants_some h0 hf] at h
    cases hw : wants (g.extract n g.size) with
    | none => rw [hw] at h; cases h
    | some ys => rw [hw] at h; cases h; exact ⟨x, n, ys, rfl, hw, rfl⟩
theorem empty_false {s : ByteArray} (h : 0 < s.size) : s.toList.isEmpty = false := by
  rw [Lib.toList_data, List.isEmpty_eq_false_iff, ← List.length_pos_iff, ← Lib.size_eq]; exact h
theorem empty_true {s : ByteArray} (h : s.size = 0) : s.toList.isEmpty = true := by
  rw [Lib.toList_data, List.isEmpty_iff, ← List.length_eq_zero_iff, ← Lib.size_eq]; exact h
theorem head_tail {s : ByteArray} (h : 0 < s.size) : s.data.toList = s[0] :: (s.extract 1 s.size).data.toList := by
  rw [tail_data]
  have := get_some h
  cases hl : s.data.toList with
  | nil => rw [hl] at this; cases this
  | cons c t => rw [hl] at this; simp at this; subst this; rfl
def fitB (xs : List W8) (s : ByteArray) : Bool := matchO (xs.map opt8) s.data.toList
theorem fit_nil (s : ByteArray) : fitB [] s = s.toList.isEmpty := by rw [Lib.toList_data]; rfl
theorem fit_star_nil {xs : List W8} {s : ByteArray} (h : s.size = 0) : fitB (.star :: xs) s = fitB xs s := by
  have : s.data.toList = [] := by rw [← List.length_eq_zero_iff, ← Lib.size_eq]; exact h
  unfold fitB; rw [this]; rfl
theorem fit_star {xs : List W8} {s : ByteArray} (h : 0 < s.size) : fitB (.star :: xs) s = (fitB xs s || fitB (.star :: xs) (s.extract 1 s.size)) := by
  unfold fitB; rw [head_tail h]; rfl
theorem fit_no {x : W8} {xs : List W8} {s : ByteArray} (hx : x ≠ .star) (h : s.size = 0) : fitB (x :: xs) s = false := by
  have : s.data.toList = [] := by rw [← List.length_eq_zero_iff, ← Lib.size_eq]; exact h
  unfold fitB; rw [this]
  cases x <;> first | exact absurd rfl hx | rfl
theorem fit_one {x : W8} {xs : List W8} {s : ByteArray} (hx : x ≠ .star) (h : 0 < s.size) : fitB (x :: xs) s = (takesB x s[0] && fitB xs (s.extract 1 s.size)) := by
  unfold fitB; rw [head_tail h]
  cases x <;> first | exact absurd rfl hx | rfl
set_option maxRecDepth 100000 in
set_option maxHeartbeats 4000000 in
theorem l1Fits_any (m : Nat) : ∀ (g s : ByteArray) (xs : List W8) (w : World), g.size + s.size ≤ m → g.size ≤ 1048576 → s.size ≤ 1048576 → wants g = some xs →
    Calls Tryz.prog 238 #[.string g, .string s] w fun e w' => e = .returned (.bool (fitB xs s)) ∧ ∃ n, w' = w.drewN n := by
  induction m with
  | zero =>
    intro g s xs w hm hg hs hw
    have hg0 : g.size = 0 := by omega
    rw [wants_nil hg0] at hw
    cases hw
    have he := empty_true hg0
    have E := hid (fit_nil s)
    go_enter Tryz.func238, Tryz.ntmps238
    go_wp2_with fail
    go_ret
    exact ⟨by rw [unhid E]; rfl, 0, rfl⟩
  | succ m ih =>
    intro g s xs w hm hg hs hw
    have IH := hid ih
    clear ih
    by_cases hg0 : g.size = 0
    · rw [wants_nil hg0] at hw
      cases hw
      have he := empty_true hg0
      have E := hid (fit_nil s)
      go_enter Tryz.func238, Tryz.ntmps238
      go_wp2_with fail
      go_ret
      exact ⟨by rw [unhid E]; rfl, 0, rfl⟩
    have hgp : 0 < g.size := by omega
    have he := empty_false hgp
    obtain ⟨x, n, ys, hf, hy, rfl⟩ := wants_cons hgp hw
    have hn := firstR_le hgp hf
    have hnd := hid hf
    have HY := hid hy
    have hz : (g.extract n g.size).size = g.size - n := tail_size g n
    clear hf hy hw
    by_cases e1 : g[0] = 42
    · have b1 : (((g[0]).toNat : Int) == 42) = true := by rw [e1]; rfl
      have hx : x = .star ∧ n = 1 := by have := unhid hnd; rw [e1] at this; cases this; exact ⟨rfl, rfl⟩
      obtain ⟨rfl, rfl⟩ := hx
      clear e1
      have hg1 : (1 : Int) ≤ g.size := by omega
      cases h1 : fitB ys s
      · by_cases hs0 : s.size = 0
        · have hes := empty_true hs0
          have E := hid (fit_star_nil (xs := ys) hs0)
          go_enter Tryz.func238, Tryz.ntmps238
          go_wp2_with (go_at_call 238; refine (unhid IH _ _ _ _ (by rw [hz]; omega) (by rw [hz]; omega) hs (unhid HY)).mono ?_; rintro e w' ⟨rfl, nq, rfl⟩; rw [h1])
          go_ret
          exact ⟨by rw [unhid E, h1]; rfl, _, rfl⟩
        · have hsp : 0 < s.size := by omega
          have hes := empty_false hsp
          have hs1 : (1 : Int) ≤ s.size := by omega
          have hzs : (s.extract 1 s.size).size = s.size - 1 := tail_size s 1
          have E := hid (fit_star (xs := ys) hsp)
          have Hw := hid (show wants g = some (.star :: ys) by rw [wants_some hgp (unhid hnd), unhid HY]; rfl)
          go_enter Tryz.func238, Tryz.ntmps238
          go_wp2_with fail
          refine (unhid IH _ _ _ _ (by rw [hz]; omega) (by rw [hz]; omega) hs (unhid HY)).mono ?_
          rintro e w' ⟨rfl, nq, rfl⟩
          rw [h1]
          go_wp2_with fail
          refine (unhid IH _ _ _ _ (by rw [hzs]; omega) hg (by rw [hzs]; omega) (unhid Hw)).mono ?_
          rintro e w' ⟨rfl, nq2, rfl⟩
          go_wp2_with fail
          go_ret
          exact ⟨by rw [unhid E, h1]; rfl, nq + nq2, rfl⟩
      · have E := hid (show fitB (.star :: ys) s = true by
          by_cases hs0 : s.size = 0
          · rw [fit_star_nil hs0, h1]
          · rw [fit_star (by omega), h1]; rfl)
        go_enter Tryz.func238, Tryz.ntmps238
        go_wp2_with (go_at_call 238; refine (unhid IH _ _ _ _ (by rw [hz]; omega) (by rw [hz]; omega) hs (unhid HY)).mono ?_; rintro e w' ⟨rfl, nq, rfl⟩; rw [h1])
        go_ret
        exact ⟨by rw [unhid E]; rfl, _, rfl⟩
    have b1 := eq_no (n := 42) rfl e1
    have hx : x ≠ .star := by
      intro e
      have := unhid hnd
      subst e
      unfold firstR at this
      rw [if_neg e1] at this
      split at this
      · cases this
      · split at this
        · obtain ⟨i, _, hf, h93, hall⟩ := class_of (by rw [get_some hgp]; simp_all) this
          rw [class_some (by rw [get_some hgp]; simp_all) hf h93 hall] at this
          cases this
        · split at this <;> cases this
    by_cases hs0 : s.size = 0
    · have hes := empty_true hs0
      have E := hid (fit_no (xs := ys) hx hs0)
      clear e1 hx
      go_enter Tryz.func238, Tryz.ntmps238
      go_wp2_with fail
      go_ret
      exact ⟨by rw [unhid E]; rfl, 0, rfl⟩
    have hsp : 0 < s.size := by omega
    have hes := empty_false hsp
    have hs1 : (1 : Int) ≤ s.size := by omega
    have hg1 : (1 : Int) ≤ g.size := by omega
    have hzs : (s.extract 1 s.size).size = s.size - 1 := tail_size s 1
    have E := hid (fit_one (xs := ys) hx hsp)
    clear hx
    by_cases e2 : g[0] = 63
    · have b2 : (((g[0]).toNat : Int) == 63) = true := by rw [e2]; rfl
      have hx : x = .any ∧ n = 1 := by have := unhid hnd; rw [e2] at this; cases this; exact ⟨rfl, rfl⟩
      obtain ⟨rfl, rfl⟩ := hx
      clear e1 e2
      go_enter Tryz.func238, Tryz.ntmps238
      go_wp2_with fail
      go_quiet ((go_at_call 238; exact Calls.quiet_of (unhid IH _ _ _ _ (by rw [hz, hzs]; omega) (by rw [hz]; omega) (by rw [hzs]; omega) (unhid HY))))
      go_wp2_with fail
      go_ret
      exact ⟨by rw [unhid E]; rfl, _, rfl⟩
    have b2 := eq_no (n := 63) rfl e2
    by_cases e3 : g[0] = 91
    · have b3 : (((g[0]).toNat : Int) == 91) = true := by rw [e3]; rfl
      have h91 : g.data.toList[0]? = some 91 := by rw [get_some hgp, e3]
      have hcl : classR g = some (x, n) := by have := unhid hnd; unfold firstR at this; rw [if_neg e1, if_neg e2, if_pos e3] at this; exact this
      obtain ⟨t1, t2, t3⟩ := class_takes h91 hcl s[0]
      have T1 := hid t1
      have hcn : classN g = n := by unfold classN; rw [hcl]
      have HCN := hid hcn
      have hni : (n : Int) ≤ g.size := by omega
      have hn0 : (0 : Int) ≤ n := by omega
      clear e1 e2 e3 t1 hcl hcn
      cases ht : takesB x s[0]
      · go_enter Tryz.func238, Tryz.ntmps238
        go_wp2_with fail
        refine (l1Class_any g hg h91 _).mono ?_
        rintro e w' ⟨rfl, rfl⟩
        rw [unhid HCN]
        go_wp2_with fail
        go_quiet ((go_at_call 274; refine Calls.quiet_of_same (v := .bool false) ((l1Of_any _ _ (by rw [ByteArray.size_extract]; omega) t2 _).mono ?_); rintro e w' ⟨rfl, rfl⟩; exact ⟨by rw [unhid T1, ht], rfl⟩))
        go_wp2_with fail
        go_ret
        exact ⟨by rw [unhid E, ht]; rfl, _, rfl⟩
      · go_enter Tryz.func238, Tryz.ntmps238
        go_wp2_with fail
        refine (l1Class_any g hg h91 _).mono ?_
        rintro e w' ⟨rfl, rfl⟩
        rw [unhid HCN]
        go_wp2_with fail
        go_quiet (first | (go_at_call 274; refine Calls.quiet_of_same (v := .bool true) ((l1Of_any _ _ (by rw [ByteArray.size_extract]; omega) t2 _).mono ?_); rintro e w' ⟨rfl, rfl⟩; exact ⟨by rw [unhid T1, ht], rfl⟩) | (go_at_call 238; exact Calls.quiet_of (unhid IH _ _ _ _ (by rw [hz, hzs]; omega) (by rw [hz]; omega) (by rw [hzs]; omega) (unhid HY))))
        go_wp2_with fail
        go_ret
        exact ⟨by rw [unhid E, ht]; rfl, _, rfl⟩
    have b3 := eq_no (n := 91) rfl e3
    have hx : x = .byte g[0] ∧ n = 1 := by
      have := unhid hnd
      unfold firstR at this
      rw [if_neg e1, if_neg e2, if_neg e3] at this
      split at this
      · cases this; exact ⟨rfl, rfl⟩
      · cases this
    obtain ⟨rfl, rfl⟩ := hx
    by_cases e4 : s[0] = g[0]
    · have b4 : (((g[0]).toNat : Int) == ((s[0]).toNat : Int)) = true := by rw [e4]; simp
      have ht := hid (show takesB (.byte g[0]) s[0] = true by rw [e4]; simp [takesB])
      clear e1 e2 e3 e4
      go_enter Tryz.func238, Tryz.ntmps238
      go_wp2_with fail
      go_quiet ((go_at_call 238; exact Calls.quiet_of (unhid IH _ _ _ _ (by rw [hz, hzs]; omega) (by rw [hz]; omega) (by rw [hzs]; omega) (unhid HY))))
      go_wp2_with fail
      go_ret
      exact ⟨by rw [unhid E, unhid ht]; rfl, _, rfl⟩
    · have b4 : (((g[0]).toNat : Int) == ((s[0]).toNat : Int)) = false := eq_no rfl (fun e => e4 e.symm)
      have ht := hid (show takesB (.byte g[0]) s[0] = false by simpa [takesB] using e4)
      clear e1 e2 e3 e4
      go_enter Tryz.func238, Tryz.ntmps238
      go_wp2_with fail
      go_quiet (fail)
      go_wp2_with fail
      go_ret
      exact ⟨by rw [unhid E, unhid ht]; rfl, _, rfl⟩
end Go.Proofs.YtoihhlkidlapmaaGreat

namespace Go.Proofs.YtoihhlkidlapmaaGreat
open Go.RowKit Go.Shelf
def opt9B : W9 → Option (ByteArray → Bool)
  | none => none
  | some xs => some (fitB xs)
def mat9 (xs : List W9) (ss : List ByteArray) : Bool := matchO (xs.map opt9B) ss
theorem mat_nil (ss : List ByteArray) : mat9 [] ss = ss.isEmpty := rfl
theorem mat_deep_nil (xs : List W9) : mat9 (.deep :: xs) [] = mat9 xs [] := rfl
theorem mat_deep (xs : List W9) (s : ByteArray) (ss : List ByteArray) : mat9 (.deep :: xs) (s :: ss) = (mat9 xs (s :: ss) || mat9 (.deep :: xs) ss) := rfl
theorem mat_no (ys : List W8) (xs : List W9) : mat9 (.name ys :: xs) [] = false := rfl
theorem mat_one (ys : List W8) (xs : List W9) (s : ByteArray) (ss : List ByteArray) : mat9 (.name ys :: xs) (s :: ss) = (fitB ys s && mat9 xs ss) := rfl
def StrsAt (W : World) (v : Value) (ps : List ByteArray) : Prop := ∃ b o cap, v = .slice (some ⟨b, o, none⟩) ps.length cap ∧ ps.length ≤ cap ∧ ∀ (i : Nat) x, ps[i]? = some x → W.cell? ⟨b, o + i, none⟩ = some (.string x)
theorem StrsAt.drew {W : World} {v : Value} {ps : List ByteArray} (h : StrsAt W v ps) (n : Nat) : StrsAt (W.drewN n) v ps := h
theorem nameW_deep {g : ByteArray} (h : nameW g = some .deep) : (g.toList == [42, 42]) = true := by
  unfold nameW at h
  split at h
  · assumption
  · split at h <;> cases h
theorem nameW_name {g : ByteArray} {ys : List W8} (h : nameW g = some (.name ys)) : (g.toList == [42, 42]) = false ∧ wants g = some ys := by
  unfold nameW at h
  split at h
  · cases h
  · rename_i hn
    refine ⟨by simpa using hn, ?_⟩
    split at h
    · rename_i x xs hw; cases h; exact hw
    · cases h
set_option maxRecDepth 100000 in
set_option maxHeartbeats 4000000 in
theorem l1Match_any (m : Nat) : ∀ (gs ss : List ByteArray) (xs : List W9) (vg vs : Value) (w : World), gs.length + ss.length ≤ m → m ≤ 3000000 → (∀ g ∈ gs, g.size ≤ 1048576) → (∀ s ∈ ss, s.size ≤ 1048576) → gs.map nameW = xs.map some → StrsAt w vg gs → StrsAt w vs ss →
    Calls Tryz.prog 175 #[vg, vs] w fun e w' => e = .returned (.bool (mat9 xs ss)) ∧ ∃ n, w' = w.drewN n := by
  induction m with
  | zero =>
    intro gs ss xs vg vs w hm hmm hg hs hw hvg hvs
    obtain ⟨b, o, cap, rfl, hc, hcell⟩ := hvg
    obtain ⟨b2, o2, cap2, rfl, hc2, hcell2⟩ := hvs
    have : gs = [] := List.length_eq_zero_iff.1 (by omega)
    subst this
    have : ss = [] := List.length_eq_zero_iff.1 (by omega)
    subst this
    have : xs = [] := by cases xs; rfl; cases hw
    subst this
    have E := hid (mat_nil [])
    go_enter Tryz.func175, Tryz.ntmps175
    go_wp2_with fail
    go_ret
    exact ⟨by rw [unhid E]; rfl, 0, rfl⟩
  | succ m ih =>
    intro gs ss xs vg vs w hm hmm hg hs hw hvg hvs
    have IH := hid ih
    clear ih
    have HVG := hid hvg
    have HVS := hid hvs
    obtain ⟨b, o, cap, rfl, hc, hcell⟩ := hvg
    obtain ⟨b2, o2, cap2, rfl, hc2, hcell2⟩ := hvs
    cases gs with
    | nil =>
      have : xs = [] := by cases xs; rfl; cases hw
      subst this
      have E := hid (mat_nil ss)
      have hl : ((ss.length : Int) == 0) = ss.isEmpty := by cases ss <;> simp; omega
      go_enter Tryz.func175, Tryz.ntmps175
      go_wp2_with fail
      go_ret
      exact ⟨by rw [unhid E]; rfl, 0, rfl⟩
    | cons g gs =>
      cases xs with
      | nil => cases hw
      | cons x xs =>
        have hw1 : nameW g = some x := by simp at hw; exact hw.1
        have hw2 := hid (show gs.map nameW = xs.map some by simp at hw; simpa using hw.2)
        have hw0 := hid hw
        have c0 := hcell 0 g rfl
        have HG := hid hg
        have HS := hid hs
        have HT := hid (show StrsAt w (.slice (some ⟨b, o + 1, none⟩) gs.length (cap - 1)) gs from ⟨b, o + 1, cap - 1, rfl, by simp at hc; omega, fun i x hi => by rw [show o + 1 + i = o + (i + 1) by omega]; exact hcell (i + 1) x (by simpa using hi)⟩)
        have HT1 := hid (show cap = 1 → StrsAt w (.slice (some ⟨b, o, none⟩) 0 0) gs from fun e => by
          have : gs = [] := List.length_eq_zero_iff.1 (by simp at hc; omega)
          subst this; exact ⟨b, o, 0, rfl, Nat.le_refl _, fun i x hi => by simp at hi⟩)
        simp only [List.length_cons] at hc hm HVG ⊢
        simp only [Nat.add_zero] at c0
        clear hw hcell hg hs
        have hne : ¬ ((gs.length : Int) + 1 = 0) := by omega
        have hne' : ((gs.length : Int) + 1 == 0) = false := by simpa using hne
        have HGG := hid (show ∀ g ∈ gs, g.size ≤ 1048576 from fun a ha => unhid HG a (List.mem_cons_of_mem _ ha))
        rcases x with _ | ys
        · have hd0 := nameW_deep hw1
          clear hw1
          cases h1 : mat9 xs ss
          · cases ss with
            | nil =>
              have E := hid (mat_deep_nil xs)
              simp only [List.length_nil] at hc2 hm HVS ⊢
              by_cases hcap : cap = 1
              · subst hcap
                have HTa := hid (unhid HT1 rfl); clear HT1
                go_enter Tryz.func175, Tryz.ntmps175
                go_wp2_with fail
                refine (unhid IH gs [] xs _ _ w (by simp; omega) (by omega) (unhid HGG) (unhid HS) (unhid hw2) (unhid HTa) (unhid HVS)).mono ?_
                rintro e w' ⟨rfl, nq, rfl⟩
                rw [h1]
                go_wp2_with fail
                go_ret
                exact ⟨by rw [unhid E, h1]; rfl, _, rfl⟩
              · go_enter Tryz.func175, Tryz.ntmps175
                go_wp2_with fail
                refine (unhid IH gs [] xs _ _ w (by simp; omega) (by omega) (unhid HGG) (unhid HS) (unhid hw2) (unhid HT) (unhid HVS)).mono ?_
                rintro e w' ⟨rfl, nq, rfl⟩
                rw [h1]
                go_wp2_with fail
                go_ret
                exact ⟨by rw [unhid E, h1]; rfl, _, rfl⟩
            | cons s ss =>
              have E := hid (mat_deep xs s ss)
              have HS2 := hid (show ∀ s ∈ ss, s.size ≤ 1048576 from fun a ha => unhid HS a (List.mem_cons_of_mem _ ha))
              have HU := hid (show StrsAt w (.slice (some ⟨b2, o2 + 1, none⟩) ss.length (cap2 - 1)) ss from ⟨b2, o2 + 1, cap2 - 1, rfl, by simp at hc2; omega, fun i x hi => by rw [show o2 + 1 + i = o2 + (i + 1) by omega]; exact hcell2 (i + 1) x (by simpa using hi)⟩)
              have HU1 := hid (show cap2 = 1 → StrsAt w (.slice (some ⟨b2, o2, none⟩) 0 0) ss from fun e => by
                have : ss = [] := List.length_eq_zero_iff.1 (by simp at hc2; omega)
                subst this; exact ⟨b2, o2, 0, rfl, Nat.le_refl _, fun i x hi => by simp at hi⟩)
              simp only [List.length_cons] at hc2 hm HVS ⊢
              clear hcell2
              have hpos : (0 : Int) < (ss.length : Int) + 1 := by omega
              by_cases hcap : cap = 1 <;> by_cases hcap2 : cap2 = 1
              · subst hcap
                have HTa := hid (unhid HT1 rfl); clear HT1
                subst hcap2
                have HUa := hid (unhid HU1 rfl); clear HU1
                go_enter Tryz.func175, Tryz.ntmps175
                go_wp2_with fail
                refine (unhid IH gs (s :: ss) xs _ _ w (by simp; omega) (by omega) (unhid HGG) (unhid HS) (unhid hw2) (unhid HTa) (unhid HVS)).mono ?_
                rintro e w' ⟨rfl, nq, rfl⟩
                rw [h1]
                go_wp2_with fail
                refine (unhid IH (g :: gs) ss (.deep :: xs) _ _ (w.drewN nq) (by simp; omega) (by omega) (unhid HG) (unhid HS2) (unhid hw0) (unhid HVG) (unhid HUa)).mono ?_
                rintro e w' ⟨rfl, nq2, rfl⟩
                go_wp2_with fail
                go_ret
                exact ⟨by rw [unhid E, h1]; rfl, _, rfl⟩
              · subst hcap
                have HTa := hid (unhid HT1 rfl); clear HT1
                go_enter Tryz.func175, Tryz.ntmps175
                go_wp2_with fail
                refine (unhid IH gs (s :: ss) xs _ _ w (by simp; omega) (by omega) (unhid HGG) (unhid HS) (unhid hw2) (unhid HTa) (unhid HVS)).mono ?_
                rintro e w' ⟨rfl, nq, rfl⟩
                rw [h1]
                go_wp2_with fail
                refine (unhid IH (g :: gs) ss (.deep :: xs) _ _ (w.drewN nq) (by simp; omega) (by omega) (unhid HG) (unhid HS2) (unhid hw0) (unhid HVG) (unhid HU)).mono ?_
                rintro e w' ⟨rfl, nq2, rfl⟩
                go_wp2_with fail
                go_ret
                exact ⟨by rw [unhid E, h1]; rfl, _, rfl⟩
              · subst hcap2
                have HUa := hid (unhid HU1 rfl); clear HU1
                go_enter Tryz.func175, Tryz.ntmps175
                go_wp2_with fail
                refine (unhid IH gs (s :: ss) xs _ _ w (by simp; omega) (by omega) (unhid HGG) (unhid HS) (unhid hw2) (unhid HT) (unhid HVS)).mono ?_
                rintro e w' ⟨rfl, nq, rfl⟩
                rw [h1]
                go_wp2_with fail
                refine (unhid IH (g :: gs) ss (.deep :: xs) _ _ (w.drewN nq) (by simp; omega) (by omega) (unhid HG) (unhid HS2) (unhid hw0) (unhid HVG) (unhid HUa)).mono ?_
                rintro e w' ⟨rfl, nq2, rfl⟩
                go_wp2_with fail
                go_ret
                exact ⟨by rw [unhid E, h1]; rfl, _, rfl⟩
              · go_enter Tryz.func175, Tryz.ntmps175
                go_wp2_with fail
                refine (unhid IH gs (s :: ss) xs _ _ w (by simp; omega) (by omega) (unhid HGG) (unhid HS) (unhid hw2) (unhid HT) (unhid HVS)).mono ?_
                rintro e w' ⟨rfl, nq, rfl⟩
                rw [h1]
                go_wp2_with fail
                refine (unhid IH (g :: gs) ss (.deep :: xs) _ _ (w.drewN nq) (by simp; omega) (by omega) (unhid HG) (unhid HS2) (unhid hw0) (unhid HVG) (unhid HU)).mono ?_
                rintro e w' ⟨rfl, nq2, rfl⟩
                go_wp2_with fail
                go_ret
                exact ⟨by rw [unhid E, h1]; rfl, _, rfl⟩
          · have E := hid (show mat9 (.deep :: xs) ss = true by
              cases ss with
              | nil => rw [mat_deep_nil, h1]
              | cons s ss => rw [mat_deep, h1]; rfl)
            by_cases hcap : cap = 1
            · subst hcap
              have HTa := hid (unhid HT1 rfl); clear HT1
              go_enter Tryz.func175, Tryz.ntmps175
              go_wp2_with fail
              refine (unhid IH gs ss xs _ _ w (by omega) (by omega) (unhid HGG) (unhid HS) (unhid hw2) (unhid HTa) (unhid HVS)).mono ?_
              rintro e w' ⟨rfl, nq, rfl⟩
              rw [h1]
              go_wp2_with fail
              go_ret
              exact ⟨by rw [unhid E]; rfl, _, rfl⟩
            · go_enter Tryz.func175, Tryz.ntmps175
              go_wp2_with fail
              refine (unhid IH gs ss xs _ _ w (by omega) (by omega) (unhid HGG) (unhid HS) (unhid hw2) (unhid HT) (unhid HVS)).mono ?_
              rintro e w' ⟨rfl, nq, rfl⟩
              rw [h1]
              go_wp2_with fail
              go_ret
              exact ⟨by rw [unhid E]; rfl, _, rfl⟩
        · obtain ⟨hd0, hwy⟩ := nameW_name hw1
          have HWY := hid hwy
          clear hw1 hwy
          cases ss with
          | nil =>
            have E := hid (mat_no ys xs)
            simp only [List.length_nil] at hc2 hm HVS ⊢
            have hz0 : ¬ (0 : Int) < 0 := by omega
            go_enter Tryz.func175, Tryz.ntmps175
            go_wp2_with fail
            go_quiet (fail)
            go_wp2_with fail
            go_ret
            exact ⟨by rw [unhid E]; rfl, _, rfl⟩
          | cons s ss =>
            have E := hid (mat_one ys xs s ss)
            have HS2 := hid (show ∀ s ∈ ss, s.size ≤ 1048576 from fun a ha => unhid HS a (List.mem_cons_of_mem _ ha))
            have HU := hid (show StrsAt w (.slice (some ⟨b2, o2 + 1, none⟩) ss.length (cap2 - 1)) ss from ⟨b2, o2 + 1, cap2 - 1, rfl, by simp at hc2; omega, fun i x hi => by rw [show o2 + 1 + i = o2 + (i + 1) by omega]; exact hcell2 (i + 1) x (by simpa using hi)⟩)
            have HU1 := hid (show cap2 = 1 → StrsAt w (.slice (some ⟨b2, o2, none⟩) 0 0) ss from fun e => by
              have : ss = [] := List.length_eq_zero_iff.1 (by simp at hc2; omega)
              subst this; exact ⟨b2, o2, 0, rfl, Nat.le_refl _, fun i x hi => by simp at hi⟩)
            have d0 := hcell2 0 s rfl
            simp only [Nat.add_zero] at d0
            simp only [List.length_cons] at hc2 hm HVS ⊢
            clear hcell2
            have hpos : (0 : Int) < (ss.length : Int) + 1 := by omega
            have hgz := unhid HG g (List.mem_cons_self ..)
            have hsz := unhid HS s (List.mem_cons_self ..)
            cases h1 : fitB ys s
            · go_enter Tryz.func175, Tryz.ntmps175
              go_wp2_with fail
              go_quiet ((go_at_call 238; refine Calls.quiet_of (v := .bool false) ((l1Fits_any _ g s ys _ (Nat.le_refl _) hgz hsz (unhid HWY)).mono ?_); rintro e w' ⟨rfl, nq, rfl⟩; exact ⟨by rw [h1], nq, rfl⟩))
              go_wp2_with fail
              go_ret
              exact ⟨by rw [unhid E, h1]; rfl, _, rfl⟩
            · by_cases hcap : cap = 1 <;> by_cases hcap2 : cap2 = 1
              · subst hcap
                have HTa := hid (unhid HT1 rfl); clear HT1
                subst hcap2
                have HUa := hid (unhid HU1 rfl); clear HU1
                go_enter Tryz.func175, Tryz.ntmps175
                go_wp2_with fail
                go_quiet (first | (go_at_call 238; refine Calls.quiet_of (v := .bool true) ((l1Fits_any _ g s ys _ (Nat.le_refl _) hgz hsz (unhid HWY)).mono ?_); rintro e w' ⟨rfl, nq, rfl⟩; exact ⟨by rw [h1], nq, rfl⟩) | (go_at_call 175; exact Calls.quiet_of (unhid IH gs ss xs _ _ _ (by omega) (by omega) (unhid HGG) (unhid HS2) (unhid hw2) (unhid HTa) (unhid HUa))))
                go_wp2_with fail
                go_ret
                exact ⟨by rw [unhid E, h1]; rfl, _, rfl⟩
              · subst hcap
                have HTa := hid (unhid HT1 rfl); clear HT1
                go_enter Tryz.func175, Tryz.ntmps175
                go_wp2_with fail
                go_quiet (first | (go_at_call 238; refine Calls.quiet_of (v := .bool true) ((l1Fits_any _ g s ys _ (Nat.le_refl _) hgz hsz (unhid HWY)).mono ?_); rintro e w' ⟨rfl, nq, rfl⟩; exact ⟨by rw [h1], nq, rfl⟩) | (go_at_call 175; exact Calls.quiet_of (unhid IH gs ss xs _ _ _ (by omega) (by omega) (unhid HGG) (unhid HS2) (unhid hw2) (unhid HTa) (unhid HU))))
                go_wp2_with fail
                go_ret
                exact ⟨by rw [unhid E, h1]; rfl, _, rfl⟩
              · subst hcap2
                have HUa := hid (unhid HU1 rfl); clear HU1
                go_enter Tryz.func175, Tryz.ntmps175
                go_wp2_with fail
                go_quiet (first | (go_at_call 238; refine Calls.quiet_of (v := .bool true) ((l1Fits_any _ g s ys _ (Nat.le_refl _) hgz hsz (unhid HWY)).mono ?_); rintro e w' ⟨rfl, nq, rfl⟩; exact ⟨by rw [h1], nq, rfl⟩) | (go_at_call 175; exact Calls.quiet_of (unhid IH gs ss xs _ _ _ (by omega) (by omega) (unhid HGG) (unhid HS2) (unhid hw2) (unhid HT) (unhid HUa))))
                go_wp2_with fail
                go_ret
                exact ⟨by rw [unhid E, h1]; rfl, _, rfl⟩
              · go_enter Tryz.func175, Tryz.ntmps175
                go_wp2_with fail
                go_quiet (first | (go_at_call 238; refine Calls.quiet_of (v := .bool true) ((l1Fits_any _ g s ys _ (Nat.le_refl _) hgz hsz (unhid HWY)).mono ?_); rintro e w' ⟨rfl, nq, rfl⟩; exact ⟨by rw [h1], nq, rfl⟩) | (go_at_call 175; exact Calls.quiet_of (unhid IH gs ss xs _ _ _ (by omega) (by omega) (unhid HGG) (unhid HS2) (unhid hw2) (unhid HT) (unhid HU))))
                go_wp2_with fail
                go_ret
                exact ⟨by rw [unhid E, h1]; rfl, _, rfl⟩
end Go.Proofs.YtoihhlkidlapmaaGreat

namespace Go.Proofs.YtoihhlkidlapmaaGreat
open Go.RowKit Go.Shelf
def namesW (l : List UInt8) : List W9 := (cutB 47 l).filterMap fun p => nameW ⟨⟨p⟩⟩
def partsB (l : List UInt8) : List ByteArray := (cutB 47 l).map fun p => ⟨⟨p⟩⟩
def hasB (g s : List UInt8) : Bool := globOkB g && (pathB s && mat9 (namesW g) (partsB s))
theorem namesW_ok {l : List UInt8} (h : globOkB l = true) : (cutB 47 l).map (fun p => nameW ⟨⟨p⟩⟩) = (namesW l).map some := by
  unfold globOkB at h
  rw [Bool.and_eq_true] at h
  have hall := List.all_eq_true.1 h.2
  unfold namesW
  generalize cutB 47 l = ps at hall
  induction ps with
  | nil => rfl
  | cons p ps ih =>
    have hp := hall p (List.mem_cons_self ..)
    have : (nameW ⟨⟨p⟩⟩).isSome = true := by rw [nameW_globbed]; exact hp
    obtain ⟨x, hx⟩ := Option.isSome_iff_exists.1 this
    rw [List.map_cons, List.filterMap_cons, hx, ih (fun q hq => hall q (List.mem_cons_of_mem _ hq))]
    rfl
theorem parts_datas {l : List UInt8} {ys : List ByteArray} (h : datas ys = cutB 47 l) : ys = partsB l := by
  unfold partsB
  rw [← h]
  simp [datas, Function.comp_def]
theorem strsAt_of {W W' : World} {base : Nat} {v : Value} {xs : List ByteArray} (h : W.ownsRow base 9 1 v xs.length (xs.map Value.string)) (hne : xs ≠ []) (hb : Below W.heap.size W W') : StrsAt W' v xs := by
  rcases h.2 with ⟨rfl, h0⟩ | ⟨g, cap, cur, rfl, _, hg, hc, _, hsz, hcells⟩
  · exact absurd (List.length_eq_zero_iff.1 h0) hne
  · refine ⟨g, 0, cap, rfl, hc, fun i x hi => ?_⟩
    have hil : i < xs.length := (List.getElem?_eq_some_iff.1 hi).1
    have h1 : (cur.toList.take (xs.length * 1))[i]? = some (.string x) := by rw [hcells, List.getElem?_map, hi]; rfl
    rw [List.getElem?_take_of_lt (by omega), Array.getElem?_toList] at h1
    simp only [Nat.zero_add]
    refine (hb.cell (p := ⟨g, i, none⟩) (Array.getElem?_eq_some_iff.1 hg).1).trans ?_
    simp [World.cell?, hg, h1]
set_option maxRecDepth 100000 in
set_option maxHeartbeats 4000000 in
theorem specGlobHas_any (g s : ByteArray) (hg : g.size ≤ 1048576) (hs : s.size ≤ 1048576) (w : World) :
    Calls Tryz.prog 105 #[.string g, .string s] w fun e w' => e = .returned (.bool (hasB g.data.toList s.data.toList)) ∧ Below w.heap.size w w' := by
  cases ho : globOkB g.data.toList
  · have E := hid (show hasB g.data.toList s.data.toList = false by unfold hasB; rw [ho]; rfl)
    go_enter Tryz.func105, Tryz.ntmps105
    go_wp2_with fail
    refine (specGlobOk_any g hg _).mono ?_
    rintro e w1 ⟨rfl, hb⟩
    have HB := hid hb
    clear hb
    rw [ho]
    go_wp2_with fail
    go_ret
    exact ⟨by rw [unhid E]; rfl, unhid HB⟩
  · cases hp : pathB s.data.toList
    · have E := hid (show hasB g.data.toList s.data.toList = false by unfold hasB; rw [ho, hp]; rfl)
      go_enter Tryz.func105, Tryz.ntmps105
      go_wp2_with fail
      refine (specGlobOk_any g hg _).mono ?_
      rintro e w1 ⟨rfl, hb⟩
      have HB := hid hb
      clear hb
      rw [ho]
      go_wp2_with fail
      refine (l1Path_any s hs _).mono ?_
      rintro e w2 ⟨rfl, hb⟩
      have HB2 := hid ((unhid HB).trans (hb.mono (unhid HB).size))
      clear hb
      rw [hp]
      go_wp2_with fail
      go_ret
      exact ⟨by rw [unhid E]; rfl, unhid HB2⟩
    · have E := hid (show hasB g.data.toList s.data.toList = mat9 (namesW g.data.toList) (partsB s.data.toList) by unfold hasB; rw [ho, hp]; rfl)
      have HW := hid (namesW_ok ho)
      go_enter Tryz.func105, Tryz.ntmps105
      go_wp2_with fail
      refine (specGlobOk_any g hg _).mono ?_
      rintro e w1 ⟨rfl, hb⟩
      have HB := hid hb
      clear hb
      rw [ho]
      go_wp2_with fail
      refine (l1Path_any s hs _).mono ?_
      rintro e w2 ⟨rfl, hb⟩
      have HB2 := hid ((unhid HB).trans (hb.mono (unhid HB).size))
      clear hb
      rw [hp]
      go_wp2_with fail
      refine (l1Cut_any g 47 _ hg (by omega) (by omega) _).mono ?_
      rintro e w3 ⟨v, xs, rfl, hxs, hown, hb⟩
      have HB3 := hid ((unhid HB2).trans (hb.mono (unhid HB2).size))
      have HO := hid (And.intro hxs hown)
      clear hb hxs hown
      go_wp2_with fail
      refine (l1Cut_any s 47 _ hs (by omega) (by omega) _).mono ?_
      rintro e w4 ⟨v2, xs2, rfl, hxs2, hown2, hb⟩
      have HB34 := hid hb
      have HB4 := hid ((unhid HB3).trans (hb.mono (unhid HB3).size))
      have HO2 := hid (And.intro hxs2 hown2)
      clear hb hxs2 hown2
      go_wp2_with fail
      obtain ⟨hxs, hown⟩ := unhid HO
      obtain ⟨hxs2, hown2⟩ := unhid HO2
      have hne : xs ≠ [] := by rintro rfl; exact cutB_ne _ _ hxs.symm
      have hne2 : xs2 ≠ [] := by rintro rfl; exact cutB_ne _ _ hxs2.symm
      have small : ∀ (l : ByteArray) (zs : List ByteArray), l.size ≤ 1048576 → datas zs = cutB 47 l.data.toList → (∀ x ∈ zs, x.size ≤ 1048576) ∧ zs.length ≤ 1048577 := fun l zs hl hz => by
        constructor
        · intro x hx
          have h1 : x.data.toList ∈ cutB 47 l.data.toList := by rw [← hz]; exact List.mem_map.2 ⟨x, hx, rfl⟩
          have h2 := cutB_le 47 _ _ h1
          rw [← Lib.size_eq, ← Lib.size_eq] at h2
          omega
        · have := cutB_length 47 l.data.toList
          rw [← hz, ← Lib.size_eq] at this
          simp [datas] at this
          omega
      obtain ⟨s1, s2⟩ := small g xs hg hxs
      obtain ⟨s3, s4⟩ := small s xs2 hs hxs2
      refine (l1Match_any (xs.length + xs2.length) xs xs2 (namesW g.data.toList) v v2 w4 (Nat.le_refl _) (by omega) s1 s3 ?_ (strsAt_of hown hne (unhid HB34)) (strsAt_of hown2 hne2 (Below.refl _ _))).mono ?_
      · rw [← unhid HW, ← hxs]; simp [datas, Function.comp_def]
      rintro e w5 ⟨rfl, n, rfl⟩
      have EM := hid (show mat9 (namesW g.data.toList) xs2 = hasB g.data.toList s.data.toList by rw [unhid E, parts_datas hxs2])
      clear hxs hown hxs2 hown2 hne hne2 small s1 s2 s3 s4
      rw [unhid EM]
      go_wp2_with fail
      go_ret
      exact ⟨rfl, (unhid HB4).trans (below_drewN _ _)⟩
end Go.Proofs.YtoihhlkidlapmaaGreat

namespace Go.Proofs.YtoihhlkidlapmaaGreat
open Go.RowKit Go.Shelf
end Go.Proofs.YtoihhlkidlapmaaGreat

namespace Go.Proofs.YtoihhlkidlapmaaGreat
open Go.RowKit Go.Shelf
end Go.Proofs.YtoihhlkidlapmaaGreat

namespace Go.Proofs.YtoihhlkidlapmaaGreat
open Go.RowKit Go.Shelf
end Go.Proofs.YtoihhlkidlapmaaGreat

namespace Go.Proofs.YtoihhlkidlapmaaGreat
open Go.RowKit Go.Shelf
end Go.Proofs.YtoihhlkidlapmaaGreat

namespace Go.Proofs.YtoihhlkidlapmaaGreat
open Go.RowKit Go.Shelf
def takenB (g : ByteArray) (e : Ent) : Bool := hasB g.data.toList e.path.data.toList
def neededB (g : ByteArray) (ks : List Ent) (d : ByteArray) : Bool := ks.any fun e => belowB d.data.toList e.path.data.toList && takenB g e
def partL (g : ByteArray) (ks : List Ent) : List Ent := ks.filter fun e => takenB g e || (e.kind == 1 && neededB g ks e.path)
end Go.Proofs.YtoihhlkidlapmaaGreat

namespace Go.Proofs.YtoihhlkidlapmaaGreat
open Go.RowKit Go.Shelf
end Go.Proofs.YtoihhlkidlapmaaGreat

namespace Go.Proofs.YtoihhlkidlapmaaGreat
open Go.RowKit Go.Shelf
attribute [local go_sem] Oper.semAt_some
def partR (g : ByteArray) (es : List Ent) : List Ent := partL g (keptE es)
end Go.Proofs.YtoihhlkidlapmaaGreat

namespace Go.Proofs.YtoihhlkidlapmaaGreat
open Go.RowKit Go.Shelf
set_option maxRecDepth 100000 in
set_option maxHeartbeats 4000000 in
theorem l2Needed_any (es : List Ent) (g d : ByteArray) (a : Option Addr) (cap : Nat) (w : World) (hs : smallE es) (hg : g.size ≤ 1048576) (hd : d.size ≤ 1048576) (h : EntsAt w a es) :
    Calls Tryz.prog 106 #[.slice a es.length cap, .string g, .string d] w fun x w' => x = .returned (.bool (neededB g es d)) ∧ Below w.heap.size w w' := by
  have hn := hs.1
  have HS := hid hs
  have HH := hid h
  clear hs h
  go_enter Tryz.func106, Tryz.ntmps106
  go_wp2_with fail
  go_loopw [7] (fun i wr => ∃ k : Nat, k ≤ es.length ∧ i = .int .i64 (k : Int) ∧ Hid (neededB g (es.take k) d = false) ∧ Hid (Below w.heap.size w wr)) (fun i _ => es.length - (intOf i).toNat)
  case atStart => exact ⟨0, Nat.zero_le _, rfl, hid rfl, hid (Below.refl _ _)⟩
  case round =>
    obtain ⟨k, hk, rfl, HNO, HB⟩ := hrel
    by_cases hlt : k < es.length
    · obtain ⟨e, he⟩ : ∃ e, es[k]? = some e := ⟨es[k], List.getElem?_eq_getElem hlt⟩
      obtain ⟨bb, o, rfl, hbl, hc⟩ := (unhid HH).get (by intro e0; subst e0; simp at hlt)
      have c0 := ((hc k e he).below (unhid HB) hbl).c0
      have hpe := ((unhid HS).2 e (List.mem_of_getElem? he)).1
      have HST := hid (show neededB g (es.take (k + 1)) d = (neededB g (es.take k) d || (belowB d.data.toList e.path.data.toList && takenB g e)) by unfold neededB; rw [List.take_add_one, he, List.any_append]; simp)
      have HY := hid (show (belowB d.data.toList e.path.data.toList && takenB g e) = true → neededB g es d = true from fun h => List.any_eq_true.2 ⟨e, List.mem_of_getElem? he, h⟩)
      clear he hc
      cases hb : belowB d.data.toList e.path.data.toList
      · rw [hb] at HST
        go_wp2_with fail
        refine (l1Below_any d e.path (by unfold maxLen; omega) (by unfold maxLen; omega) _).mono ?_
        rintro x w2 ⟨rfl, e2⟩
        subst e2
        rw [hb]
        go_wp2_with fail
        go_roundw
        case rel => exact ⟨k + 1, by omega, by go_num, hid (by rw [unhid HST, unhid HNO]; rfl), HB⟩
        case measure => simp [intOf]; omega
      · rw [hb] at HST HY
        go_wp2_with fail
        refine (l1Below_any d e.path (by unfold maxLen; omega) (by unfold maxLen; omega) _).mono ?_
        rintro x w2 ⟨rfl, e2⟩
        subst e2
        rw [hb]
        go_wp2_with fail
        refine (specGlobHas_any g e.path hg hpe _).mono ?_
        rintro x w3 ⟨rfl, hb3⟩
        have HB3 := hid ((unhid HB).trans (hb3.mono (unhid HB).size))
        clear hb3 HB
        rw [show hasB g.data.toList e.path.data.toList = takenB g e from rfl]
        cases ht : takenB g e
        · rw [ht] at HST
          go_wp2_with fail
          go_roundw
          case rel => exact ⟨k + 1, by omega, by go_num, hid (by rw [unhid HST, unhid HNO]; rfl), HB3⟩
          case measure => simp [intOf]; omega
        · have E := hid (unhid HY (by rw [ht]; rfl))
          go_wp2_with fail
          go_ret
          exact ⟨by rw [unhid E]; rfl, unhid HB3⟩
    · have e : k = es.length := by omega
      subst e
      rw [List.take_of_length_le (Nat.le_refl _)] at HNO
      go_wp2_with fail
      go_ret
      exact ⟨by rw [unhid HNO]; rfl, unhid HB⟩
def keepB (g : ByteArray) (ks : List Ent) (e : Ent) : Bool := takenB g e || (e.kind == 1 && neededB g ks e.path)
def keptP (g : ByteArray) (ks : List Ent) (xs : List Ent) : List Ent := xs.filter (keepB g ks)
theorem keptP_yes {g : ByteArray} {ks es : List Ent} {k : Nat} {e : Ent} (he : es[k]? = some e) (h : keepB g ks e = true) : keptP g ks (es.take (k + 1)) = keptP g ks (es.take k) ++ [e] := by
  unfold keptP; rw [List.take_add_one, he, List.filter_append]; simp [h]
theorem keptP_no {g : ByteArray} {ks es : List Ent} {k : Nat} {e : Ent} (he : es[k]? = some e) (h : keepB g ks e = false) : keptP g ks (es.take (k + 1)) = keptP g ks (es.take k) := by
  unfold keptP; rw [List.take_add_one, he, List.filter_append]; simp [h]
set_option maxRecDepth 100000 in
set_option maxHeartbeats 4000000 in
theorem specTreePart_full (es : List Ent) (g : ByteArray) (b o cap : Nat) (w : World) (hs : smallE es) (hg : g.size ≤ 1048576) (h : ∀ (i : Nat) e, es[i]? = some e → EntAt w b (o + i * 4) e) (hb : b < w.heap.size) :
    Calls Tryz.prog 52 #[.slice (some ⟨b, o, none⟩) es.length cap, .string g] w fun x w' => ∃ v, x = .returned v ∧ w'.ownsRow w.heap.size 57 4 v (partR g es).length (valsOf (partR g es)) ∧ Below w.heap.size w w' ∧ SomeV v := by
  obtain ⟨i0, hi0, hz0, hzs, hzb⟩ := info_parts infoEntry
  have HI := hid (And.intro hi0 (And.intro hz0 (And.intro hzs hzb)))
  have hn := hs.1
  have HS := hid hs
  have HH := hid h
  have HF0 := hid (And.intro (owns_empty w w.heap.size (Nat.le_refl _) 57) ((Below.refl w.heap.size w).alloc (Nat.le_refl _) (.cells #[] 57)))
  clear hi0 hz0 hzs hzb hs h
  have atW : ∀ W, Below w.heap.size w W → EntsAt W (some ⟨b, o, none⟩) es := fun W hW => .inr ⟨b, o, rfl, Nat.lt_of_lt_of_le hb hW.size, entAt_below (unhid HH) (.inr hb) hW⟩
  have ATW := hid atW
  clear atW
  cases hT : treeB es
  · have E := hid (show partR g es = [] by unfold partR; rw [keptE_no hT]; rfl)
    by_cases h0 : es = []
    · subst h0
      go_enter Tryz.func52, Tryz.ntmps52
      go_wp2_with fail
      go_loopw [5, 6] (fun v i wr => i = .int .i64 0 ∧ v = .slice (some ⟨w.heap.size, 0, none⟩) 0 0 ∧ wr = w.alloc (.cells #[] 57)) (fun _ _ _ => 0)
      case atStart => exact ⟨rfl, rfl, rfl⟩
      case round =>
        obtain ⟨rfl, rfl, rfl⟩ := hrel
        go_wp2_with fail
        go_ret
        exact ⟨_, rfl, by rw [unhid E]; exact (unhid HF0).1, (unhid HF0).2, ⟨_, _, _, rfl⟩⟩
    · have hl0 : (0 : Int) < (es.length : Int) := by have := List.length_pos_iff.2 h0; omega
      clear h0
      go_enter Tryz.func52, Tryz.ntmps52
      go_wp2_with fail
      go_loopw [5, 6] (fun v i wr => i = .int .i64 0 ∧ v = .slice (some ⟨w.heap.size, 0, none⟩) 0 0 ∧ wr = w.alloc (.cells #[] 57)) (fun _ _ _ => 0)
      case atStart => exact ⟨rfl, rfl, rfl⟩
      case round =>
        obtain ⟨rfl, rfl, rfl⟩ := hrel
        go_wp2_with fail
        refine (specTreeOk_any es _ cap _ (unhid HS) (unhid ATW _ (unhid HF0).2)).mono ?_
        rintro x w2 ⟨rfl, hb2⟩
        rw [hT]
        have HF := hid (And.intro (ownsRow_kept (unhid HF0).1 (fun g e => hb2.block g ((unhid HF0).1.lt g e).2)) ((unhid HF0).2.trans (hb2.mono (unhid HF0).2.size)))
        clear hb2
        go_wp2_with fail
        go_ret
        exact ⟨_, rfl, by rw [unhid E]; exact (unhid HF).1, (unhid HF).2, ⟨_, _, _, rfl⟩⟩
  · have E := hid (show partR g es = keptP g es es by unfold partR; rw [keptE_yes hT]; rfl)
    have HT := hid hT
    clear hT
    go_enter Tryz.func52, Tryz.ntmps52
    go_wp2_with fail
    go_loopw [5, 6] (fun v i wr => ∃ k : Nat, k ≤ es.length ∧ i = .int .i64 (k : Int) ∧ Hid (wr.ownsRow w.heap.size 57 4 v (keptP g es (es.take k)).length (valsOf (keptP g es (es.take k)))) ∧ Hid (Below w.heap.size w wr) ∧ SomeV v) (fun _ i _ => es.length - (intOf i).toNat)
    case atStart => exact ⟨0, Nat.zero_le _, rfl, hid (by simp [keptP, valsOf]; exact (unhid HF0).1), hid (unhid HF0).2, ⟨_, _, _, rfl⟩⟩
    case round =>
      obtain ⟨k, hk, rfl, HO, HB, hsv⟩ := hrel
      obtain ⟨va, vc, rfl⟩ := ownsRow_slice (unhid HO)
      have HSV := hid hsv
      clear hsv
      by_cases hlt : k < es.length
      · obtain ⟨e, he⟩ : ∃ e, es[k]? = some e := ⟨es[k], List.getElem?_eq_getElem hlt⟩
        have hpe := ((unhid HS).2 e (List.mem_of_getElem? he)).1
        have hdl : (keptP g es (es.take k)).length ≤ es.length := Nat.le_trans (List.length_filter_le _ _) (by simp; omega)
        have HE := hid he
        have HY := hid (fun h => keptP_yes (g := g) (ks := es) he h)
        have HNO := hid (fun h => keptP_no (g := g) (ks := es) he h)
        clear he
        go_wp2_with fail
        refine (specTreeOk_any es _ cap _ (unhid HS) (unhid ATW _ (unhid HB))).mono ?_
        rintro x w2 ⟨rfl, hb2⟩
        rw [unhid HT]
        have HO2 := hid (ownsRow_kept (unhid HO) (fun g e => hb2.block g ((unhid HO).lt g e).2))
        have HB2 := hid ((unhid HB).trans (hb2.mono (unhid HB).size))
        clear hb2 HO HB
        obtain ⟨c0, c1, c2, c3⟩ := ((unhid HH) k e (unhid HE)).below (unhid HB2) hb
        go_wp2_with fail
        refine (specGlobHas_any g e.path hg hpe _).mono ?_
        rintro x w3 ⟨rfl, hb3⟩
        have HO3 := hid (ownsRow_kept (unhid HO2) (fun g e => hb3.block g ((unhid HO2).lt g e).2))
        have HB3 := hid ((unhid HB2).trans (hb3.mono (unhid HB2).size))
        clear hb3 HO2 HB2 c0 c1 c2 c3
        rw [show hasB g.data.toList e.path.data.toList = takenB g e from rfl]
        cases htk : takenB g e
        · cases hkb : (e.kind == 1)
          case true =>
            obtain ⟨c0, c1, c2, c3⟩ := ((unhid HH) k e (unhid HE)).below (unhid HB3) hb
            go_wp2_with fail
            refine (l2Needed_any es g e.path _ cap _ (unhid HS) hg hpe (unhid ATW _ (unhid HB3))).mono ?_
            rintro x w4 ⟨rfl, hb4⟩
            have HO4 := hid (ownsRow_kept (unhid HO3) (fun g e => hb4.block g ((unhid HO3).lt g e).2))
            have HB4 := hid ((unhid HB3).trans (hb4.mono (unhid HB3).size))
            clear hb4 HO3 HB3 c0 c1 c2 c3
            cases hnd : neededB g es e.path
            · have HYE := hid (unhid HNO (by unfold keepB; rw [htk, hkb, hnd]; rfl))
              obtain ⟨c0, c1, c2, c3⟩ := ((unhid HH) k e (unhid HE)).below (unhid HB4) hb
              go_wp2_with fail
              go_roundw
              case rel => exact ⟨k + 1, by omega, by go_num, hid (by rw [unhid HYE]; exact unhid HO4), HB4, unhid HSV⟩
              case measure => simp [intOf]; omega
            · have HYE := hid (unhid HY (by unfold keepB; rw [htk, hkb, hnd]; rfl))
              obtain ⟨c0, c1, c2, c3⟩ := ((unhid HH) k e (unhid HE)).below (unhid HB4) hb
              have hsz := (unhid HB4).size
              have HOa := hid ((unhid HO4).alloc (.cells #[.string e.path, .int .i64 e.kind, .int .i64 e.mode, .string e.text] 57))
              have HBa := hid ((unhid HB4).alloc hsz (.cells #[.string e.path, .int .i64 e.kind, .int .i64 e.mode, .string e.text] 57))
              go_wp2_with (at_builtin; refine wpList_append_own _ rfl _ _ 32 rfl w.heap.size 57 i0 _ 4 48 Tryz.underlying32 (unhid HI).1 (unhid HI).2.1 (unhid HI).2.2.1 (unhid HI).2.2.2 rfl (by decide) _ (keptP g es (es.take k)).length (valsOf (keptP g es (es.take k))) rfl (unhid HOa) ⟨w4.heap.size, 0, none⟩ 1 1 [.string e.path, .int .i64 e.kind, .int .i64 e.mode, .string e.text] rfl rfl (lit_cells w4 _ _ _ _ _) ?c2 ?c3 ?c4 ?c5 ?_)
              case c2 => intro u hu; simp at hu; rcases hu with rfl | rfl | rfl | rfl <;> rfl
              case c3 => unfold maxLen; omega
              case c4 => omega
              case c5 => simp; omega
              intro v' w9 hown hgr _
              obtain ⟨a2, cap2, rfl⟩ := ownsRow_slice hown
              have HF := hid (show w9.ownsRow w.heap.size 57 4 (.slice a2 ((keptP g es (es.take k)).length + 1) cap2) (keptP g es (es.take (k + 1))).length (valsOf (keptP g es (es.take (k + 1)))) ∧ Below w.heap.size w w9 from
                ⟨by rw [unhid HYE, List.length_append, valsOf_snoc]; exact hown, (unhid HBa).grown hgr (unhid HBa).size (fun k e => ((unhid HOa).lt k e).1)⟩)
              clear hown hgr
              go_wp2_with fail
              go_roundw
              case rel => exact ⟨k + 1, by omega, by go_num, hid (unhid HF).1, hid (unhid HF).2, owns_some (unhid HF).1 (by rw [unhid HYE]; simp)⟩
              case measure => simp [intOf]; omega
          case false =>
            have HYE := hid (unhid HNO (by unfold keepB; rw [htk, hkb]; rfl))
            obtain ⟨c0, c1, c2, c3⟩ := ((unhid HH) k e (unhid HE)).below (unhid HB3) hb
            go_wp2_with fail
            go_roundw
            case rel => exact ⟨k + 1, by omega, by go_num, hid (by rw [unhid HYE]; exact unhid HO3), HB3, unhid HSV⟩
            case measure => simp [intOf]; omega
        · have HYE := hid (unhid HY (by unfold keepB; rw [htk]; rfl))
          obtain ⟨c0, c1, c2, c3⟩ := ((unhid HH) k e (unhid HE)).below (unhid HB3) hb
          have hsz := (unhid HB3).size
          have HOa := hid ((unhid HO3).alloc (.cells #[.string e.path, .int .i64 e.kind, .int .i64 e.mode, .string e.text] 57))
          have HBa := hid ((unhid HB3).alloc hsz (.cells #[.string e.path, .int .i64 e.kind, .int .i64 e.mode, .string e.text] 57))
          go_wp2_with (at_builtin; refine wpList_append_own _ rfl _ _ 32 rfl w.heap.size 57 i0 _ 4 48 Tryz.underlying32 (unhid HI).1 (unhid HI).2.1 (unhid HI).2.2.1 (unhid HI).2.2.2 rfl (by decide) _ (keptP g es (es.take k)).length (valsOf (keptP g es (es.take k))) rfl (unhid HOa) ⟨w3.heap.size, 0, none⟩ 1 1 [.string e.path, .int .i64 e.kind, .int .i64 e.mode, .string e.text] rfl rfl (lit_cells w3 _ _ _ _ _) ?c2 ?c3 ?c4 ?c5 ?_)
          case c2 => intro u hu; simp at hu; rcases hu with rfl | rfl | rfl | rfl <;> rfl
          case c3 => unfold maxLen; omega
          case c4 => omega
          case c5 => simp; omega
          intro v' w9 hown hgr _
          obtain ⟨a2, cap2, rfl⟩ := ownsRow_slice hown
          have HF := hid (show w9.ownsRow w.heap.size 57 4 (.slice a2 ((keptP g es (es.take k)).length + 1) cap2) (keptP g es (es.take (k + 1))).length (valsOf (keptP g es (es.take (k + 1)))) ∧ Below w.heap.size w w9 from
            ⟨by rw [unhid HYE, List.length_append, valsOf_snoc]; exact hown, (unhid HBa).grown hgr (unhid HBa).size (fun k e => ((unhid HOa).lt k e).1)⟩)
          clear hown hgr
          go_wp2_with fail
          go_roundw
          case rel => exact ⟨k + 1, by omega, by go_num, hid (unhid HF).1, hid (unhid HF).2, owns_some (unhid HF).1 (by rw [unhid HYE]; simp)⟩
          case measure => simp [intOf]; omega
      · have e : k = es.length := by omega
        subst e
        rw [List.take_of_length_le (Nat.le_refl _)] at HO HSV ⊢
        go_wp2_with fail
        go_ret
        exact ⟨_, rfl, by rw [unhid E]; exact unhid HO, unhid HB, unhid HSV⟩
theorem specTreePart_any (es : List Ent) (g : ByteArray) (b o cap : Nat) (w : World) (hs : smallE es) (hg : g.size ≤ 1048576) (h : ∀ (i : Nat) e, es[i]? = some e → EntAt w b (o + i * 4) e) (hb : b < w.heap.size) :
    Calls Tryz.prog 52 #[.slice (some ⟨b, o, none⟩) es.length cap, .string g] w fun x w' => ∃ v, x = .returned v ∧ w'.ownsRow w.heap.size 57 4 v (partR g es).length (valsOf (partR g es)) ∧ Below w.heap.size w w' :=
  (specTreePart_full es g b o cap w hs hg h hb).mono (fun _ _ ⟨v, h1, h2, h3, _⟩ => ⟨v, h1, h2, h3⟩)
end Go.Proofs.YtoihhlkidlapmaaGreat

namespace Go.Proofs.YtoihhlkidlapmaaGreat
theorem part_sub {g : ByteArray} {es : List Ent} {e : Ent} (h : e ∈ partR g es) : e ∈ es := by
  unfold partR partL keptE at h
  have := (List.mem_filter.1 h).1
  split at this
  · exact this
  · cases this
theorem part_le (g : ByteArray) (es : List Ent) : (partR g es).length ≤ es.length := by
  unfold partR partL keptE
  refine Nat.le_trans (List.length_filter_le _ _) ?_
  split
  · exact Nat.le_refl _
  · exact Nat.zero_le _
end Go.Proofs.YtoihhlkidlapmaaGreat

namespace Go.Proofs.YtoihhlkidlapmaaGreat
open Go.RowKit
end Go.Proofs.YtoihhlkidlapmaaGreat

namespace Go.Proofs.YtoihhlkidlapmaaGreat
open Go.RowKit Go.Shelf
def NeedAt (W : World) (b : Nat) (n : ByteArray) (k : Int) (v : ByteArray) : Prop :=
  (W.cell? ⟨b, 0, none⟩ = some (.string n) ∧ W.frozen? ⟨b, 0, none⟩ = false) ∧ (W.cell? ⟨b, 1, none⟩ = some (.int .i64 k) ∧ W.frozen? ⟨b, 1, none⟩ = false) ∧ W.cell? ⟨b, 2, none⟩ = some (.string v) ∧ W.frozen? ⟨b, 2, none⟩ = false
theorem needAt_new (W : World) (n : ByteArray) (k : Int) (v : ByteArray) (t : TypeId) : NeedAt (W.alloc (.cells #[.string n, .int .i64 k, .string v] t)) W.heap.size n k v := by
  refine ⟨⟨?_, ?_⟩, ⟨?_, ?_⟩, ?_, ?_⟩ <;> simp [go_sem]
theorem NeedAt.below {W W' : World} {b B : Nat} {n : ByteArray} {k : Int} {v : ByteArray} (h : NeedAt W b n k v) (hb : Below B W W') (hB : b < B) : NeedAt W' b n k v :=
  ⟨⟨(hb.cell (p := ⟨b, 0, none⟩) hB).trans h.1.1, (hb.frozen (p := ⟨b, 0, none⟩) hB).trans h.1.2⟩, ⟨(hb.cell (p := ⟨b, 1, none⟩) hB).trans h.2.1.1, (hb.frozen (p := ⟨b, 1, none⟩) hB).trans h.2.1.2⟩, (hb.cell (p := ⟨b, 2, none⟩) hB).trans h.2.2.1, (hb.frozen (p := ⟨b, 2, none⟩) hB).trans h.2.2.2⟩
end Go.Proofs.YtoihhlkidlapmaaGreat
