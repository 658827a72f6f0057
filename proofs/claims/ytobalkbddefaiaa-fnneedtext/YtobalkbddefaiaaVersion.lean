/- Versions, as the program reads them. -/
import Derived.Test.YtobalkbddefaiaaNum
namespace Go.Proofs.Ytobalkbddefaiaa
open Go.RowKit Go.Shelf

attribute [local go_sem] Oper.semAt_some

def versOk (l : List UInt8) : Bool := decide ((cutB 46 l).length ≤ 4) && (cutB 46 l).all fun p => numOk p 999
def versL (l : List UInt8) : List Int := (cutB 46 l).map valI

def numsOf (pre : List Str) : List Value := ((vals pre).map valI).map (Value.int .i64)
theorem numsOf_snoc (pre : List Str) (x : Str) : numsOf (pre ++ [x]) = numsOf pre ++ [.int .i64 (valI x.1.data.toList)] := by
  unfold numsOf
  rw [vals_snoc, List.map_append, List.map_append]; rfl

theorem info3 : (Try.prog.info? 3).map (fun i => (i.zero, i.size, i.bytes)) = some (some (.int .i64 0), 1, 8) := by kernel_rfl

theorem grown_of_below {W w1 : World} (h : Below W.heap.size W w1) (r : Option Nat) : W.grownBy w1 r := ⟨h.os, h.tape, h.output, h.size, fun k hk _ => h.block k hk⟩
theorem Boxed_below {W w1 : World} {B : Nat} {t : TypeId} {v : Value} (h : Boxed W B t v) (hb : Below W.heap.size W w1) : Boxed w1 B t v := h.kept (grown_of_below hb none) (by simp)
theorem ownsRow_below {W w1 : World} {base : Nat} {e : TypeId} {size : Nat} {v : Value} {n : Nat} {xs : List Value} (h : W.ownsRow base e size v n xs) (hb : Below W.heap.size W w1) : w1.ownsRow base e size v n xs :=
  h.kept (grown_of_below hb none) (by cases v.ownBlock <;> simp)
theorem ownsRow_shape {W : World} {base : Nat} {e : TypeId} {size : Nat} {v : Value} {n : Nat} {xs : List Value} (h : W.ownsRow base e size v n xs) : ∃ a cap, v = .slice a n cap := by
  rcases h.2 with ⟨rfl, rfl⟩ | ⟨g, cap, cur, rfl, _⟩
  · exact ⟨none, 0, rfl⟩
  · exact ⟨_, _, rfl⟩
theorem box_past {W w1 : World} {B B' : Nat} {t e : TypeId} {u v : Value} {n₀ size k : Nat} {xs : List Value} {tmp : Obj} (h : Boxed W B t u) (hte : t ≠ e) (hrow : W.ownsRow n₀ e size v k xs) (hgrow : (W.alloc tmp).grownBy w1 v.ownBlock) (hne : B ≠ B') (v' : Value) :
    Boxed (w1.setCell ⟨B', 0, none⟩ v') B t u := ((h.alloc tmp).kept hgrow (h.not_row hte hrow)).other hne v'
theorem keeps_two {W W' : World} {b c : Nat} {t u : TypeId} {x y : Value} (h1 : Boxed W b t x) (h2 : Boxed W' b t x) (g1 : Boxed W c u y) (g2 : Boxed W' c u y) : Keeps [b, c] W W' := by
  intro k hk v hv
  simp at hk
  rcases hk with rfl | rfl
  · rw [h1.cell] at hv; rw [h2.cell]; exact hv
  · rw [g1.cell] at hv; rw [g2.cell]; exact hv

set_option maxRecDepth 100000 in
set_option maxHeartbeats 4000000 in
theorem versionOf_any (s : ByteArray) (hs : s.size ≤ maxLen) (w : World) :
    Calls Try.prog 25 #[.string s] w fun e W' => ∃ v, e = .returned (.tuple #[v, .bool (versOk s.data.toList)]) ∧ (versOk s.data.toList = true → W'.ownsRow w.heap.size 3 1 v (versL s.data.toList).length ((versL s.data.toList).map (Value.int .i64))) ∧ (versOk s.data.toList = false → v = .slice none 0 0) ∧ Below w.heap.size w W' := by
  obtain ⟨i0, hi, hz0, hz1, hz2⟩ := info_parts info3
  refine (callsIn_wide (n := 4)).1 ?_
  refine callsIn_of_wp_marks Try.func25 rfl trivial ?_ rfl
  simp only [Try.ntmps25, List.size_toArray, List.length_cons, List.length_nil, Nat.reduceAdd, Nat.reduceSub, Array.replicate_succ, Array.replicate_zero, List.push_toArray, List.append_toArray, List.nil_append, List.cons_append]
  gi_wp2_with (refine ⟨trivial, ?_⟩; gi_at_call 45; refine (partsOf_in Fence.wide _ trivial rfl _ _ _).mono ?_; rintro e w' ⟨rfl, rfl⟩)
  have b0 := Boxed.new w 44 (.slice none 0 0)
  have b1 := Boxed.new (w.alloc (.cells #[.slice none 0 0] 44)) 4 (.bool false)
  have b2 := Boxed.new ((w.alloc (.cells #[.slice none 0 0] 44)).alloc (.cells #[.bool false] 4)) 44 (.slice none 0 0)
  have b3 := Boxed.new (((w.alloc (.cells #[.slice none 0 0] 44)).alloc (.cells #[.bool false] 4)).alloc (.cells #[.slice none 0 0] 44)) 9 (.string s)
  have b4 := Boxed.new ((((w.alloc (.cells #[.slice none 0 0] 44)).alloc (.cells #[.bool false] 4)).alloc (.cells #[.slice none 0 0] 44)).alloc (.cells #[.string s] 9)) 5 (.int .u8 46)
  simp only [World.size_alloc] at b1 b2 b3 b4
  have hB0 : Below w.heap.size w (((((w.alloc (.cells #[.slice none 0 0] 44)).alloc (.cells #[.bool false] 4)).alloc (.cells #[.slice none 0 0] 44)).alloc (.cells #[.string s] 9)).alloc (.cells #[.int .u8 46] 5)) := (((((Below.refl _ w).alloc (Nat.le_refl _) _).alloc (by simp) _).alloc (by simp; omega) _).alloc (by simp; omega) _).alloc (by simp; omega) _
  refine wpIn_rangeFunc_ownF rfl (by omega) (gf := 61) (lb := #[.pointer (some ⟨w.heap.size + 1 + 1 + 1, 0, none⟩), .pointer (some ⟨w.heap.size + 1 + 1 + 1 + 1, 0, none⟩)]) rfl trivial (enters_of Try.func61 (by kernel_rfl) rfl)
    (parts_stops Fence.wide _ trivial trivial rfl (by omega) (fun s c w => callsIn_wide.2 (IndexByteU_any s c w)) (w.heap.size + 1 + 1 + 1) (w.heap.size + 1 + 1 + 1 + 1) s 46 hs _ (by simp) (by simp) (b3.alloc _).cell b4.cell) Keeps.t (Keeps.b) (Below.refl _ _) (fun _ => rfl)
    (fun pre W => ((∃ v, Boxed W (w.heap.size + 1 + 1) 44 v ∧ W.ownsRow w.heap.size 3 1 v pre.length (numsOf pre) ∧ (pre.length ≤ 4 ∧ ((vals pre).all fun p => numOk p 999) = true)) ∧ (Boxed W w.heap.size 44 (.slice none 0 0) ∧ Boxed W (w.heap.size + 1) 4 (.bool false) ∧ Boxed W (w.heap.size + 1 + 1 + 1) 9 (.string s) ∧ Boxed W (w.heap.size + 1 + 1 + 1 + 1) 5 (.int .u8 46))) ∧ Below w.heap.size w W)
    (fun c pre W => (c = .ret ∧ (4 < pre.length ∨ ∃ y ∈ vals pre, numOk y 999 = false) ∧ Boxed W w.heap.size 44 (.slice none 0 0) ∧ Boxed W (w.heap.size + 1) 4 (.bool false)) ∧ Below w.heap.size w W)
    (OwnFrom.and (OwnFrom.and (Own.from (holdsRow_own w.heap.size (w.heap.size + 1 + 1) 44 3 1 (fun pre => pre.length) (fun pre => numsOf pre) (fun pre _ => pre.length ≤ 4 ∧ ((vals pre).all fun p => numOk p 999) = true)) _)
      (Own.from (fun s X Y row hs hg hr => ⟨boxed_own _ _ (fun _ => _) s X Y row hs.1 hg hr, boxed_own _ _ (fun _ => _) s X Y row hs.2.1 hg hr, boxed_own _ _ (fun _ => _) s X Y row hs.2.2.1 hg hr, boxed_own _ _ (fun _ => _) s X Y row hs.2.2.2 hg hr⟩) _)) (ownFrom_below (Nat.le_refl _) (by simp; omega)))
    (fun c => OwnFrom.and (Own.from (fun s X Y row hs hg hr => ⟨hs.1, hs.2.1, boxed_own _ _ (fun _ => _) s X Y row hs.2.2.1 hg hr, boxed_own _ _ (fun _ => _) s X Y row hs.2.2.2 hg hr⟩) _) (ownFrom_below (Nat.le_refl _) (by simp; omega)))
    ⟨⟨⟨_, (b2.alloc _).alloc _, World.ownsRow_nil _ _ _ _, by simp, by simp⟩, (((b0.alloc _).alloc _).alloc _).alloc _, ((b1.alloc _).alloc _).alloc _, b3.alloc _, b4⟩, hB0⟩
    (fun x => { tmps := #[.string s, undef, .pointer (some ⟨w.heap.size, 0, none⟩), .pointer (some ⟨w.heap.size + 1, 0, none⟩), .pointer (some ⟨w.heap.size + 1 + 1, 0, none⟩), .string x.1, undef, undef, .string s, .func (.func 61) #[] #[.pointer (some ⟨w.heap.size + 1 + 1 + 1, 0, none⟩), .pointer (some ⟨w.heap.size + 1 + 1 + 1 + 1, 0, none⟩)], .string x.1, undef, undef, undef, undef, undef, undef, undef, undef, undef, undef, undef, undef, undef, undef, undef, undef, undef], defers := [] }) ?assign ?body ?done ?stop
  case assign =>
    intro l x W K hK
    gi_wp2
    exact hK
  case body =>
    clear b0 b1 b2 b3 b4 hB0
    rintro l pre x W ⟨⟨⟨v, hv, hrow, h4, hall⟩, k0, k1, k3, k4⟩, hB⟩ _
    obtain ⟨va, vcap, rfl⟩ := ownsRow_shape hrow
    have HI := hid (And.intro hv (And.intro hrow (And.intro k0 (And.intro k1 (And.intro k3 (And.intro k4 hB))))))
    clear hv hrow k0 k1 k3 k4 hB
    gi_wp2
    refine ⟨trivial, (CallsIn.inRound l (callsIn_wide.2 (numberOf_any x.1 x.2 999 (by omega) (by omega) _))).mono ?_⟩
    rintro e w1 ⟨rfl, hb⟩
    obtain ⟨hv0, hrow0, k00, k10, k30, k40, hB0⟩ := unhid HI
    have hv := Boxed_below hv0 hb
    have hrow := ownsRow_below hrow0 hb
    have k0 := Boxed_below k00 hb
    have k1 := Boxed_below k10 hb
    have k3 := Boxed_below k30 hb
    have k4 := Boxed_below k40 hb
    have hB := hB0.trans (hb.mono hB0.size)
    have hO := KeepsOthers_of_below hb
    have hK := keeps_two k30 k3 k40 k4
    clear hv0 hrow0 k00 k10 k30 k40 hB0 HI hb
    have hc := hv.cell
    have hf := hv.frozen
    have c0 := k0.cell
    have f0 := k0.frozen
    have c1 := k1.cell
    have f1 := k1.frozen
    cases hx : numOk x.1.data.toList 999
    · have HH := hid (And.intro k0 (And.intro k1 (And.intro hB hO)))
      clear hv hrow k0 k1 k3 k4 hB hO hK
      gi_wp2
      obtain ⟨k0, k1, hB, hO⟩ := unhid HH
      exact ⟨hO.trans ((KeepsOthers.setCell _ _ _).trans (KeepsOthers.setCell _ _ _)), ⟨rfl, .inr ⟨_, by rw [vals_snoc]; simp, hx⟩, (k0.set _).other (by omega) _, (k1.other (by omega) _).set _⟩, (hB.setCell (p := ⟨w.heap.size, 0, none⟩) (Nat.le_refl _) _).setCell (p := ⟨w.heap.size + 1, 0, none⟩) (by simp) _⟩
    · by_cases h44 : pre.length = 4
      · have h44' : ((pre.length : Int) == 4) = true := by simp [h44]
        have HH := hid (And.intro k0 (And.intro k1 (And.intro hB hO)))
        clear hv hrow k0 k1 k3 k4 hB hO hK
        gi_wp2
        obtain ⟨k0, k1, hB, hO⟩ := unhid HH
        exact ⟨hO.trans ((KeepsOthers.setCell _ _ _).trans (KeepsOthers.setCell _ _ _)), ⟨rfl, .inl (by simp; omega), (k0.set _).other (by omega) _, (k1.other (by omega) _).set _⟩, (hB.setCell (p := ⟨w.heap.size, 0, none⟩) (Nat.le_refl _) _).setCell (p := ⟨w.heap.size + 1, 0, none⟩) (by simp) _⟩
      · have h44' : ((pre.length : Int) == 4) = false := by rw [beq_eq_false_iff_ne]; omega
        have hnv : numVal x.1.data.toList 999 = valI x.1.data.toList := by simp [numVal, hx]
        have Hnv := hid hnv
        have HH := hid (And.intro hv (And.intro hrow (And.intro k0 (And.intro k1 (And.intro k3 (And.intro k4 (And.intro hB (And.intro hO hK))))))))
        have hrow' := hid hrow
        have hBs := hB.size
        clear hnv hv hrow k0 k1 k3 k4 hB hO hK c0 f0 c1 f1
        rw [unhid Hnv]
        gi_wp2_with (gi_at_builtin; refine wpListIn_append_own _ rfl _ _ 44 rfl w.heap.size 3 i0 (.int .i64 0) 1 8 Try.underlying44 hi hz0 hz1 hz2 rfl (by decide) _ _ _ rfl ((unhid hrow').alloc _) ⟨w1.heap.size, 0, none⟩ 1 1 [.int .i64 (valI x.1.data.toList)] rfl rfl ?c1 ?c2 ?c3 ?c4 ?c5 ?_)
        case c1 => exact cell_one_new _ _ _
        case c2 => intro u hu; simp at hu; subst hu; rfl
        case c3 => unfold maxLen; omega
        case c4 => omega
        case c5 => simp; omega
        intro v' w2 hown' hgrow _
        obtain ⟨g', cap', rfl⟩ := ownsRow_succ hown'
        obtain ⟨hv, hrow, k0, k1, k3, k4, hB, hO, hK⟩ := unhid HH
        obtain ⟨hv1, hv2, hr2, hk2, hb2⟩ := hv.appended (by decide) hrow hB.size (by omega) hown' hgrow
        have q0 := box_past k0 (by decide) hrow hgrow (show w.heap.size ≠ w.heap.size + 1 + 1 by omega) (.slice (some ⟨g', 0, none⟩) (pre.length + 1) cap')
        have q1 := box_past k1 (by decide) hrow hgrow (show w.heap.size + 1 ≠ w.heap.size + 1 + 1 by omega) (.slice (some ⟨g', 0, none⟩) (pre.length + 1) cap')
        have q3 := box_past k3 (by decide) hrow hgrow (show w.heap.size + 1 + 1 + 1 ≠ w.heap.size + 1 + 1 by omega) (.slice (some ⟨g', 0, none⟩) (pre.length + 1) cap')
        have q4 := box_past k4 (by decide) hrow hgrow (show w.heap.size + 1 + 1 + 1 + 1 ≠ w.heap.size + 1 + 1 by omega) (.slice (some ⟨g', 0, none⟩) (pre.length + 1) cap')
        have hc1 := hv1.cell
        have hf1 := hv1.frozen
        have HF := hid (show KeepsOthers W (w2.setCell ⟨w.heap.size + 1 + 1, 0, none⟩ (.slice (some ⟨g', 0, none⟩) (pre.length + 1) cap')) ∧ Keeps [w.heap.size + 1 + 1 + 1, w.heap.size + 1 + 1 + 1 + 1] W (w2.setCell ⟨w.heap.size + 1 + 1, 0, none⟩ (.slice (some ⟨g', 0, none⟩) (pre.length + 1) cap')) ∧
          ((∃ v, Boxed (w2.setCell ⟨w.heap.size + 1 + 1, 0, none⟩ (.slice (some ⟨g', 0, none⟩) (pre.length + 1) cap')) (w.heap.size + 1 + 1) 44 v ∧ (w2.setCell ⟨w.heap.size + 1 + 1, 0, none⟩ (.slice (some ⟨g', 0, none⟩) (pre.length + 1) cap')).ownsRow w.heap.size 3 1 v (pre ++ [x]).length (numsOf (pre ++ [x])) ∧ ((pre ++ [x]).length ≤ 4 ∧ ((vals (pre ++ [x])).all fun p => numOk p 999) = true)) ∧ (Boxed (w2.setCell ⟨w.heap.size + 1 + 1, 0, none⟩ (.slice (some ⟨g', 0, none⟩) (pre.length + 1) cap')) w.heap.size 44 (.slice none 0 0) ∧ Boxed (w2.setCell ⟨w.heap.size + 1 + 1, 0, none⟩ (.slice (some ⟨g', 0, none⟩) (pre.length + 1) cap')) (w.heap.size + 1) 4 (.bool false) ∧ Boxed (w2.setCell ⟨w.heap.size + 1 + 1, 0, none⟩ (.slice (some ⟨g', 0, none⟩) (pre.length + 1) cap')) (w.heap.size + 1 + 1 + 1) 9 (.string s) ∧ Boxed (w2.setCell ⟨w.heap.size + 1 + 1, 0, none⟩ (.slice (some ⟨g', 0, none⟩) (pre.length + 1) cap')) (w.heap.size + 1 + 1 + 1 + 1) 5 (.int .u8 46))) ∧ Below w.heap.size w (w2.setCell ⟨w.heap.size + 1 + 1, 0, none⟩ (.slice (some ⟨g', 0, none⟩) (pre.length + 1) cap')) from
          ⟨hO.trans hk2, hK.t (keeps_two k3 q3 k4 q4), ⟨⟨_, hv2, by rw [numsOf_snoc, List.length_append]; exact hr2, by simp; omega, by rw [vals_snoc, List.all_append, hall]; simp [hx]⟩, q0, q1, q3, q4⟩, hB.trans hb2⟩)
        clear hv hrow k0 k1 k3 k4 hB hO hK hv1 hv2 hr2 hk2 hb2 q0 q1 q3 q4 hown' hgrow HH hrow'
        gi_wp2
        exact unhid HF
  case done =>
    clear b0 b1 b2 b3 b4 hB0
    rintro D ys W hD hys ⟨⟨⟨v, hv, hrow, h4, hall⟩, k0, k1, k3, k4⟩, hB⟩ hK
    obtain ⟨va, vcap, rfl⟩ := ownsRow_shape hrow
    have hlen : (cutB 46 s.data.toList).length = ys.length := by rw [← hys]; simp [vals]
    have hok : versOk s.data.toList = true := by
      unfold versOk
      rw [hlen, ← hys, hall]; simp [h4]
    have hL : (versL s.data.toList).map (Value.int .i64) = numsOf ys := by rw [versL, numsOf, hys]
    have hLl : (versL s.data.toList).length = ys.length := by rw [versL, List.length_map, hlen]
    have hc := hv.cell
    have hf := hv.frozen
    have c0 := k0.cell
    have f0 := k0.frozen
    have c1 := k1.cell
    have f1 := k1.frozen
    have hK' := ((KeepsOthers.setCell W ⟨w.heap.size, 0, none⟩ (.slice va ys.length vcap)).trans (KeepsOthers.setCell _ ⟨w.heap.size + 1, 0, none⟩ (.bool true))).same D _ hK rfl
    have r0 := ((k0.set (.slice va ys.length vcap)).other (show w.heap.size ≠ w.heap.size + 1 by omega) (.bool true))
    have r1 := ((k1.other (show w.heap.size + 1 ≠ w.heap.size by omega) (.slice va ys.length vcap)).set (.bool true))
    have rr := (hrow.kept (grownBy_setCell' W w.heap.size (.slice va ys.length vcap)) (.inr (k0.not_row (by decide) hrow).symm))
    have rr2 := rr.kept (grownBy_setCell' _ (w.heap.size + 1) (.bool true)) (.inr ((k1.other (show w.heap.size + 1 ≠ w.heap.size by omega) (.slice va ys.length vcap)).not_row (by decide) rr).symm)
    have hB2 := (hB.setCell (p := ⟨w.heap.size, 0, none⟩) (Nat.le_refl _) (.slice va ys.length vcap)).setCell (p := ⟨w.heap.size + 1, 0, none⟩) (by simp) (.bool true)
    have s0 := cell_kept r0.cell (grownBy_putObj' _ D (.deferred none)) (fun r e => by cases e; exact ⟨_, hK', rfl⟩)
    have s1 := cell_kept r1.cell (grownBy_putObj' _ D (.deferred none)) (fun r e => by cases e; exact ⟨_, hK', rfl⟩)
    have HA := hid (And.intro s0 (And.intro s1 (And.intro (ownsRow_putObj rr2 (.deferred none) hK' rfl) (And.intro hB2 (And.intro hK' (And.intro hok (And.intro hL hLl)))))))
    clear hv hrow k0 k1 k3 k4 hB hK' r0 r1 rr rr2 hB2 s0 s1 hok hL hLl hlen hys
    gi_wp2
    obtain ⟨s0, s1, ho, hB2, hK', hok, hL, hLl⟩ := unhid HA
    refine ⟨by simp, .inl ⟨_, _, rfl, run_takeDeferred hK', ?_⟩⟩
    refine ⟨.tuple #[.slice va ys.length vcap, .bool true], ?_, .slice va ys.length vcap, by rw [hok], fun _ => ?_, (fun h => by rw [hok] at h; cases h), hB2.trans (belowK_b (w := w) (Nat.le_refl _) _ D _ _ (by simp at hD; omega) hK' rfl rfl)⟩
    · simp [results, Try.f25, go_sem, s0, s1]
    · rw [hLl, hL]; exact ho
  case stop =>
    clear b0 b1 b2 b3 b4 hB0
    rintro D c pre W hD hpre ⟨⟨rfl, hbad, k0, k1⟩, hB⟩ hK
    have hno : versOk s.data.toList = false := by
      have hl := hpre.length_le
      unfold versOk
      rcases hbad with h | ⟨y, hy, hn⟩
      · rw [decide_eq_false (by simp [vals] at hl; omega)]; rfl
      · rw [List.all_eq_false.2 ⟨y, hpre.subset hy, by simp [hn]⟩]; simp
    have s0 := cell_kept k0.cell (grownBy_putObj' _ D (.deferred none)) (fun r e => by cases e; exact ⟨_, hK, rfl⟩)
    have s1 := cell_kept k1.cell (grownBy_putObj' _ D (.deferred none)) (fun r e => by cases e; exact ⟨_, hK, rfl⟩)
    have Hno := hid hno
    clear hno
    gi_wp2
    refine ⟨by simp, .inl ⟨_, _, rfl, run_takeDeferred hK, ?_⟩⟩
    refine ⟨.tuple #[.slice none 0 0, .bool false], ?_, .slice none 0 0, by rw [unhid Hno], (fun h => by rw [unhid Hno] at h; cases h), fun _ => rfl, hB.trans (belowK_b (w := w) (Nat.le_refl _) W D _ _ (by simp at hD; omega) hK rfl rfl)⟩
    simp [results, Try.f25, go_sem, s0, s1]
end Go.Proofs.Ytobalkbddefaiaa
