/- Texts of this proof, one behind the other; each says at its head what it shows. -/
import Derived.Test.YtfphpggjcljliaaGreatJoin1
import Derived.Test.YtfphpggjcljliaaGreatJoin7
import Derived.RangeFuncFrom
import Derived.RangeFuncBox
import Derived.Deep.RegionWith
/- As Parts: the parts of a text, with a bound on each. -/
namespace Go.Proofs.YtfphpggjcljliaaGreat
open Go.RowKit Go.Shelf

attribute [local go_sem] Oper.semAt_some

abbrev StrM (M : Nat) := { x : ByteArray // x.size ≤ M }
abbrev valsM {M : Nat} (xs : List (StrM M)) : List (List UInt8) := xs.map fun x => x.1.data.toList
theorem valsM_snoc {M : Nat} (pre : List (StrM M)) (x : StrM M) : valsM (pre ++ [x]) = valsM pre ++ [x.1.data.toList] := by simp [valsM]

set_option maxRecDepth 100000 in
set_option maxHeartbeats 1000000 in
theorem partsM1_in (F : Fence) (n : Nat) (hf : F.fn 42) (hf2 : F.fn 43) (hro : F.round = none) (hn : 1 ≤ n) (hw : ∀ (s : ByteArray) (c : UInt8) (w : World), CallsIn F (n - 1) Tryz.prog 43 #[.string s, .int .u8 c.toNat] w fun e w' => e = .returned (.int .i64 (Lib.indexByte s.data.toList c)) ∧ w' = w)
    (l Bs Bm : Nat) (s : ByteArray) (m : UInt8) (M : Nat) (hM : s.size ≤ M) (hs : s.size ≤ maxLen) (J Jx : List (StrM M) → World → Prop)
    (hY : ∀ pre (x : StrM M) W, J pre W → pre.length < (cutB m s.data.toList).length → YieldAt F (n - 1) Tryz.prog l #[.string x.1] W fun e W' =>
      (e = .returned (.bool true) ∧ J (pre ++ [x]) W' ∧ Keeps [Bs, Bm] W W') ∨ (e = .returned (.bool false) ∧ Jx (pre ++ [x]) W'))
    (W : World) (hc : W.cell? ⟨Bs, 0, none⟩ = some (.string s)) (hm : W.cell? ⟨Bm, 0, none⟩ = some (.int .u8 m.toNat)) (h0 : J [] W) :
    CallsIn F n Tryz.prog 42 #[.func (.yield l) #[] #[], .pointer (some ⟨Bs, 0, none⟩), .pointer (some ⟨Bm, 0, none⟩)] W fun e W' => (∃ v, e = .returned v) ∧
      ((∃ ys, valsM ys = cutB m s.data.toList ∧ J ys W') ∨ (∃ pre, valsM pre <+: cutB m s.data.toList ∧ Jx pre W')) := by
  unfold maxLen at hs
  refine callsIn_of_wp Tryz.func42 rfl hf ?_ hro
  simp only [Tryz.ntmps42, List.size_toArray, List.length_cons, List.length_nil, Nat.reduceAdd, Nat.reduceSub, Array.replicate_succ, Array.replicate_zero, List.push_toArray, List.append_toArray, List.nil_append, List.cons_append]
  gi_wp2
  gi_loopw [4, 5] (fun p _ wr => ∃ (pre : List (StrM M)) (rest : ByteArray), rest.size ≤ s.size ∧ p = .string rest ∧ Hid (cutB m s.data.toList = valsM pre ++ cutB m rest.data.toList) ∧ J pre wr ∧ wr.cell? ⟨Bm, 0, none⟩ = some (.int .u8 m.toNat))
    (fun p _ _ => strSize p)
  case atStart =>
    exact ⟨[], s, Nat.le_refl _, rfl, hid (by simp), h0, hm⟩
  case round =>
    obtain ⟨pre, rest, hle, rfl, hcut, hJ, hmr⟩ := hrel
    have hlen : pre.length < (cutB m s.data.toList).length := by
      rw [unhid hcut]; have := List.length_pos_iff.2 (cutB_ne m rest.data.toList); simp; omega
    by_cases hlt : Lib.indexByte rest.data.toList m < 0
    · obtain ⟨fn, tmps, assign, body, hy, hR⟩ := hY _ ⟨rest, by omega⟩ wr hJ hlen
      dsimp only at hy hR
      gi_wp2_with (gi_at_call 43; refine (hw _ _ _).mono ?_; rintro e w' ⟨rfl, rfl⟩)
      refine hR.mono ?_
      rintro e W3 (⟨rfl, hJ3, hk3⟩ | ⟨rfl, hJx3⟩)
      · gi_wp2
        refine bodyPost_ret (results_none rfl _ _ _) rfl ?_
        exact ⟨⟨_, rfl⟩, .inl ⟨_, by rw [unhid hcut, cutB_none m _ hlt]; simp, hJ3⟩⟩
      · gi_wp2
        refine bodyPost_ret (results_none rfl _ _ _) rfl ?_
        exact ⟨⟨_, rfl⟩, .inr ⟨_, by rw [unhid hcut, cutB_none m _ hlt]; simp, hJx3⟩⟩
    · obtain ⟨i, hi⟩ : ∃ i : Nat, Lib.indexByte rest.data.toList m = i := ⟨(Lib.indexByte rest.data.toList m).toNat, by omega⟩
      obtain ⟨hil, hcr⟩ := cutB_some m _ i hi
      have hil' : i < rest.size := by rw [Lib.size_eq]; exact hil
      have Hcr := hid hcr
      have hx1 : (rest.extract 0 i).data.toList = rest.data.toList.take i := by rw [Lib.extract_data]; simp
      have hx2 : (rest.extract (i + 1) rest.size).data.toList = rest.data.toList.drop (i + 1) := by rw [Lib.extract_data, List.take_of_length_le (by simp)]
      have Hx1 := hid hx1
      have Hx2 := hid hx2
      clear hcr hil hx1 hx2
      have hx0 : (rest.extract 0 i).size ≤ M := by simp; omega
      obtain ⟨fn, tmps, assign, body, hy, hR⟩ := hY _ ⟨rest.extract 0 i, hx0⟩ wr hJ hlen
      dsimp only at hy hR
      gi_wp2_with (gi_at_call 43; refine (hw _ _ _).mono ?_; rintro e w' ⟨rfl, rfl⟩)
      refine hR.mono ?_
      rintro e W3 (⟨rfl, hJ3, hk3⟩ | ⟨rfl, hJx3⟩)
      · have hm3 : W3.cell? ⟨Bm, 0, none⟩ = some (.int .u8 m.toNat) := hk3 Bm (by simp) _ hmr
        gi_wp2
        go_roundw
        case rel => exact ⟨_, rest.extract (i + 1) rest.size, by simp; omega, rfl, hid (by rw [unhid hcut, unhid Hcr, unhid Hx2, valsM_snoc]; simp), hJ3, hm3⟩
        case measure => simp [strSize]; omega
      · gi_wp2
        refine bodyPost_ret (results_none rfl _ _ _) rfl ?_
        exact ⟨⟨_, rfl⟩, .inr ⟨_, by rw [unhid hcut, unhid Hcr, valsM_snoc]; simp, hJx3⟩⟩

theorem partsM_stops (F : Fence) (n : Nat) (hf : F.fn 42) (hf2 : F.fn 43) (hro : F.round = none) (hn : 1 ≤ n)
    (hw : ∀ (s : ByteArray) (c : UInt8) (w : World), CallsIn F (n - 1) Tryz.prog 43 #[.string s, .int .u8 c.toNat] w fun e w' => e = .returned (.int .i64 (Lib.indexByte s.data.toList c)) ∧ w' = w)
    (Bs Bm : Nat) (s : ByteArray) (m : UInt8) (M : Nat) (hM : s.size ≤ M) (hs : s.size ≤ maxLen) (w : World) (hBs : Bs < w.heap.size) (hBm : Bm < w.heap.size)
    (hc : w.cell? ⟨Bs, 0, none⟩ = some (.string s)) (hm : w.cell? ⟨Bm, 0, none⟩ = some (.int .u8 m.toNat)) :
    SeqStopsK F n Tryz.prog 42 #[.pointer (some ⟨Bs, 0, none⟩), .pointer (some ⟨Bm, 0, none⟩)] (fun x : StrM M => #[Value.string x.1]) (Keeps [Bs, Bm]) (fun ys => valsM ys = cutB m s.data.toList) (fun pre => valsM pre <+: cutB m s.data.toList) (cutB m s.data.toList).length w := fun l J Jx W hW _ _ hY h0 =>
  partsM1_in F n hf hf2 hro hn hw l Bs Bm s m M hM hs J Jx hY W ((hW.cell (p := ⟨Bs, 0, none⟩) hBs).trans hc) ((hW.cell (p := ⟨Bm, 0, none⟩) hBm).trans hm) h0
end Go.Proofs.YtfphpggjcljliaaGreat

/- Whether a text is a pattern, by the program. -/
namespace Go.Proofs.YtfphpggjcljliaaGreat
open Go.RowKit Go.Shelf

attribute [local go_sem] Oper.semAt_some

theorem grown_of_below {W w1 : World} (h : Below W.heap.size W w1) (r : Option Nat) : W.grownBy w1 r := ⟨h.os, h.tape, h.output, h.size, fun k hk _ => h.block k hk⟩
theorem Boxed_below {W w1 : World} {B : Nat} {t : TypeId} {v : Value} (h : Boxed W B t v) (hb : Below W.heap.size W w1) : Boxed w1 B t v := h.kept (grown_of_below hb none) (by simp)
theorem ownsRow_shape {W : World} {base : Nat} {e : TypeId} {size : Nat} {v : Value} {n : Nat} {xs : List Value} (h : W.ownsRow base e size v n xs) : ∃ a cap, v = .slice a n cap := by
  rcases h.2 with ⟨rfl, rfl⟩ | ⟨g, cap, cur, rfl, _⟩
  · exact ⟨none, 0, rfl⟩
  · exact ⟨_, _, rfl⟩
theorem box_past {W w1 : World} {B B' : Nat} {t e : TypeId} {u v : Value} {n₀ size k : Nat} {xs : List Value} {tmp : Obj} (h : Boxed W B t u) (hte : t ≠ e) (hrow : W.ownsRow n₀ e size v k xs) (hgrow : (W.alloc tmp).grownBy w1 v.ownBlock) (hne : B ≠ B') (v' : Value) :
    Boxed (w1.setCell ⟨B', 0, none⟩ v') B t u := ((h.alloc tmp).kept hgrow (h.not_row hte hrow)).other hne v'
theorem keeps_two {W W' : World} {b c : Nat} {t u : TypeId} {x y : Value} (h1 : Boxed W b t x) (h2 : Boxed W' b t x) (g1 : Boxed W c u y) (g2 : Boxed W' c u y) : Keeps [b, c] W W' := by
  intro k hk v hv
  simp at hk
  rcases hk with rfl | rfl
  · rw [h1.cell] at hv; rw [h2.cell]; exact hv
  · rw [g1.cell] at hv; rw [g2.cell]; exact hv

theorem infoName : (Tryz.prog.info? 78).map (fun i => (i.zero, i.size, i.bytes)) = some (some (.agg #[.bool false, .nilFunc]), 2, 16) := by kernel_rfl
theorem nameW_globbed (x : ByteArray) : (nameW x).isSome = globbedL x.data.toList := by
  rw [globbedL_eq]
  unfold nameW globbedB
  split
  · rename_i h
    have hd : x.data.toList = [42, 42] := by rw [← Lib.toList_data]; simpa using h
    have hx : x = ⟨#[42, 42]⟩ := ba_same hd
    subst hx; decide
  · cases wants x with
    | none => rfl
    | some l => cases l <;> rfl

set_option maxRecDepth 100000 in
set_option maxHeartbeats 4000000 in
theorem globOf_ok (s : ByteArray) (hs : s.size ≤ maxLen) (w : World) :
    Calls Tryz.prog 17 #[.string s] w fun e W' => ∃ fv, e = .returned (.tuple #[fv, .bool (globOkB s.data.toList)]) ∧ Below w.heap.size w W' := by
  obtain ⟨i0, hi, hz0, hz1, hz2⟩ := info_parts infoName
  have hs' : s.size ≤ 9223372036854775807 := hs
  refine (callsIn_wide (n := 4)).1 ?_
  refine callsIn_of_wp_marks Tryz.func17 rfl trivial ?_ rfl
  simp only [Tryz.ntmps17, List.size_toArray, List.length_cons, List.length_nil, Nat.reduceAdd, Nat.reduceSub, Array.replicate_succ, Array.replicate_zero, List.push_toArray, List.append_toArray, List.nil_append, List.cons_append]
  by_cases h40 : (40 : Int) < s.size
  · have E := hid (show globOkB s.data.toList = false by
      unfold globOkB
      rw [← Lib.size_eq, show decide (s.size ≤ 40) = false from decide_eq_false (by omega)]; simp)
    gi_wp2
    refine ⟨.tuple #[.nilFunc, .bool false], by simp [results, Tryz.f17, go_sem], .nilFunc, by rw [unhid E], ((Below.refl _ w).alloc (Nat.le_refl _) _).alloc (by simp) _⟩
  have hs40 : s.size ≤ 40 := by omega
  gi_wp2_with (refine ⟨trivial, ?_⟩; gi_at_call 19; refine (partsOf_in Fence.wide _ trivial rfl _ _ _).mono ?_; rintro e w' ⟨rfl, rfl⟩)
  have b0 := Boxed.new w 48 .nilFunc
  have b1 := Boxed.new (w.alloc (.cells #[.nilFunc] 48)) 4 (.bool false)
  have b2 := Boxed.new ((w.alloc (.cells #[.nilFunc] 48)).alloc (.cells #[.bool false] 4)) 76 (.slice none 0 0)
  have b3 := Boxed.new (((w.alloc (.cells #[.nilFunc] 48)).alloc (.cells #[.bool false] 4)).alloc (.cells #[.slice none 0 0] 76)) 9 (.string s)
  have b4 := Boxed.new ((((w.alloc (.cells #[.nilFunc] 48)).alloc (.cells #[.bool false] 4)).alloc (.cells #[.slice none 0 0] 76)).alloc (.cells #[.string s] 9)) 5 (.int .u8 47)
  simp only [World.size_alloc] at b1 b2 b3 b4
  have hB0 : Below w.heap.size w (((((w.alloc (.cells #[.nilFunc] 48)).alloc (.cells #[.bool false] 4)).alloc (.cells #[.slice none 0 0] 76)).alloc (.cells #[.string s] 9)).alloc (.cells #[.int .u8 47] 5)) := (((((Below.refl _ w).alloc (Nat.le_refl _) _).alloc (by simp) _).alloc (by simp; omega) _).alloc (by simp; omega) _).alloc (by simp; omega) _
  refine wpIn_rangeFunc_ownF rfl (by omega) (gf := 42) (lb := #[.pointer (some ⟨w.heap.size + 1 + 1 + 1, 0, none⟩), .pointer (some ⟨w.heap.size + 1 + 1 + 1 + 1, 0, none⟩)]) rfl trivial (enters_of Tryz.func42 (by kernel_rfl) rfl)
    (partsM_stops Fence.wide _ trivial trivial rfl (by omega) (fun s c w => callsIn_wide.2 (IndexByteU_any s c w)) (w.heap.size + 1 + 1 + 1) (w.heap.size + 1 + 1 + 1 + 1) s 47 40 hs40 hs _ (by simp) (by simp) (b3.alloc _).cell b4.cell) Keeps.t (Keeps.b) (Below.refl _ _) (fun _ => rfl)
    (fun (pre : List (StrM 40)) W => ((∃ cells v, Boxed W (w.heap.size + 1 + 1) 76 v ∧ W.ownsRow w.heap.size 78 2 v pre.length cells ∧ (pre.length ≤ 5 ∧ ((valsM pre).all globbedL) = true)) ∧ (Boxed W (w.heap.size) 48 .nilFunc ∧ Boxed W (w.heap.size + 1) 4 (.bool false) ∧ Boxed W (w.heap.size + 1 + 1 + 1) 9 (.string s) ∧ Boxed W (w.heap.size + 1 + 1 + 1 + 1) 5 (.int .u8 47))) ∧ Below w.heap.size w W)
    (fun c pre W => (c = .ret ∧ (5 < pre.length ∨ ∃ y ∈ valsM pre, globbedL y = false) ∧ Boxed W w.heap.size 48 .nilFunc ∧ Boxed W (w.heap.size + 1) 4 (.bool false)) ∧ Below w.heap.size w W)
    (OwnFrom.and (OwnFrom.and (Own.from (fun pre X Y rw hx hg hr => by
        obtain ⟨cells, hh⟩ := hx
        exact ⟨cells, holdsRow_own w.heap.size (w.heap.size + 1 + 1) 76 78 2 (fun pre => pre.length) (fun _ => cells) (fun pre _ => pre.length ≤ 5 ∧ ((valsM pre).all globbedL) = true) pre X Y rw hh hg hr⟩) _)
      (Own.from (fun s X Y row hs hg hr => ⟨boxed_own _ _ (fun _ => _) s X Y row hs.1 hg hr, boxed_own _ _ (fun _ => _) s X Y row hs.2.1 hg hr, boxed_own _ _ (fun _ => _) s X Y row hs.2.2.1 hg hr, boxed_own _ _ (fun _ => _) s X Y row hs.2.2.2 hg hr⟩) _)) (ownFrom_below (Nat.le_refl _) (by simp; omega)))
    (fun c => OwnFrom.and (Own.from (fun s X Y row hs hg hr => ⟨hs.1, hs.2.1, boxed_own _ _ (fun _ => _) s X Y row hs.2.2.1 hg hr, boxed_own _ _ (fun _ => _) s X Y row hs.2.2.2 hg hr⟩) _) (ownFrom_below (Nat.le_refl _) (by simp; omega)))
    ⟨⟨⟨[], _, (b2.alloc _).alloc _, World.ownsRow_nil _ _ _ _, by simp, by simp⟩, (((b0.alloc _).alloc _).alloc _).alloc _, ((b1.alloc _).alloc _).alloc _, b3.alloc _, b4⟩, hB0⟩
    (fun x => { tmps := #[.string s, undef, .pointer (some ⟨w.heap.size, 0, none⟩), .pointer (some ⟨w.heap.size + 1, 0, none⟩), .pointer (some ⟨w.heap.size + 1 + 1, 0, none⟩), .string x.1, undef, undef, .string s, .int .i64 s.size, .bool false, .string s, .func (.func 42) #[] #[.pointer (some ⟨w.heap.size + 1 + 1 + 1, 0, none⟩), .pointer (some ⟨w.heap.size + 1 + 1 + 1 + 1, 0, none⟩)], .string x.1, undef, undef, undef, undef, undef, undef, undef, undef, undef, undef, undef, undef, undef, undef, undef, undef, undef], defers := [] }) ?assign ?body ?done ?stop
  case assign =>
    intro l x W K hK
    gi_wp2
    exact hK
  case body =>
    clear b0 b1 b2 b3 b4 hB0
    rintro l pre x W ⟨⟨⟨cells, v, hv, hrow, h5, hall⟩, k0, k1, k3, k4⟩, hB⟩ hpre
    obtain ⟨va, vcap, rfl⟩ := ownsRow_shape hrow
    have HI := hid (And.intro hv (And.intro hrow (And.intro k0 (And.intro k1 (And.intro k3 (And.intro k4 hB))))))
    clear hv hrow k0 k1 k3 k4 hB
    gi_wp2
    refine ⟨trivial, (CallsIn.inRound l (callsIn_wide.2 (nameWant_any x.1 (by have := x.2; omega) _))).mono ?_⟩
    rintro e w0 ⟨run, fv, rfl, hform, -, hb0⟩
    rw [nameW_globbed]
    obtain ⟨w1, hw1⟩ : ∃ w1, w1 = w0.alloc (.cells #[.bool run, fv] 78) := ⟨_, rfl⟩
    have hb : Below W.heap.size W w1 := by rw [hw1]; exact hb0.alloc hb0.size _
    obtain ⟨hv0, hrow0, k00, k10, k30, k40, hB0⟩ := unhid HI
    have hv := Boxed_below hv0 hb
    have hrow := ownsRow_below hrow0 hb
    have k0 := Boxed_below k00 hb
    have k1 := Boxed_below k10 hb
    have k3 := Boxed_below k30 hb
    have k4 := Boxed_below k40 hb
    have hB := hB0.trans (hb.mono hB0.size)
    have hO := KeepsOthers_of_below hb
    have hK := keeps_two k30 k3 k40 k4
    clear hv0 hrow0 k00 k10 k30 k40 hB0 HI hb hb0
    have hc := hv.cell
    have hf := hv.frozen
    have c0 := k0.cell
    have f0 := k0.frozen
    have c1 := k1.cell
    have f1 := k1.frozen
    have HW1 := hid hw1
    rcases hform with rfl | ⟨ff, ca, rfl⟩
    all_goals
      cases hx : globbedL x.1.data.toList
      · have HH := hid (And.intro k0 (And.intro k1 (And.intro hB hO)))
        rw [hw1] at c0 f0 c1 f1 hc hf
        clear hv hrow k0 k1 k3 k4 hB hO hK hw1
        gi_wp2
        rw [← unhid HW1]
        obtain ⟨k0, k1, hB, hO⟩ := unhid HH
        exact ⟨hO.trans ((KeepsOthers.setCell _ _ _).trans (KeepsOthers.setCell _ _ _)), ⟨rfl, .inr ⟨_, by rw [valsM_snoc]; simp, hx⟩, (k0.set _).other (by omega) _, (k1.other (by omega) _).set _⟩, (hB.setCell (p := ⟨w.heap.size, 0, none⟩) (Nat.le_refl _) _).setCell (p := ⟨w.heap.size + 1, 0, none⟩) (by simp) _⟩
      · by_cases h55 : pre.length = 5
        · have h55' : ((pre.length : Int) == 5) = true := by simp [h55]
          have HH := hid (And.intro k0 (And.intro k1 (And.intro hB hO)))
          rw [hw1] at c0 f0 c1 f1 hc hf
          clear hv hrow k0 k1 k3 k4 hB hO hK hw1
          gi_wp2
          rw [← unhid HW1]
          obtain ⟨k0, k1, hB, hO⟩ := unhid HH
          exact ⟨hO.trans ((KeepsOthers.setCell _ _ _).trans (KeepsOthers.setCell _ _ _)), ⟨rfl, .inl (by simp; omega), (k0.set _).other (by omega) _, (k1.other (by omega) _).set _⟩, (hB.setCell (p := ⟨w.heap.size, 0, none⟩) (Nat.le_refl _) _).setCell (p := ⟨w.heap.size + 1, 0, none⟩) (by simp) _⟩
        · have h55' : ((pre.length : Int) == 5) = false := by rw [beq_eq_false_iff_ne]; omega
          have HH := hid (And.intro hv (And.intro hrow (And.intro k0 (And.intro k1 (And.intro k3 (And.intro k4 (And.intro hB (And.intro hO hK))))))))
          have hrow' := hid hrow
          rw [hw1] at hrow'
          have hBs := hB.size
          rw [hw1] at hc hf
          have hzw : w1.heap.size = w0.heap.size + 1 := by rw [hw1]; simp
          clear hv hrow k0 k1 k3 k4 hB hO hK c0 f0 c1 f1
          gi_wp2_with (gi_at_builtin; refine wpListIn_append_own _ rfl _ _ 76 rfl w.heap.size 78 i0 (.agg #[.bool false, .nilFunc]) 2 16 Tryz.underlying76 hi hz0 hz1 hz2 rfl (by decide) _ _ _ rfl ((unhid hrow').alloc _) ⟨w0.heap.size + 1, 0, none⟩ 1 1 [.bool run, _] rfl rfl (cells_two_new _ _ _ _ _ (by simp)) ?c2 ?c3 ?c4 ?c5 ?_)
          case c2 => intro u hu; simp at hu; rcases hu with rfl | rfl <;> rfl
          case c3 => unfold maxLen; omega
          case c4 => omega
          case c5 => simp; omega
          intro v' w2 hown' hgrow _
          rw [← hw1] at hgrow
          obtain ⟨g', cap', rfl⟩ := ownsRow_succ hown'
          obtain ⟨hv, hrow, k0, k1, k3, k4, hB, hO, hK⟩ := unhid HH
          obtain ⟨hv1, hv2, hr2, hk2, hb2⟩ := hv.appended (by decide) hrow hB.size (by omega) hown' hgrow
          have q0 := box_past k0 (by decide) hrow hgrow (show w.heap.size ≠ w.heap.size + 1 + 1 by omega) (.slice (some ⟨g', 0, none⟩) (pre.length + 1) cap')
          have q1 := box_past k1 (by decide) hrow hgrow (show w.heap.size + 1 ≠ w.heap.size + 1 + 1 by omega) (.slice (some ⟨g', 0, none⟩) (pre.length + 1) cap')
          have q3 := box_past k3 (by decide) hrow hgrow (show w.heap.size + 1 + 1 + 1 ≠ w.heap.size + 1 + 1 by omega) (.slice (some ⟨g', 0, none⟩) (pre.length + 1) cap')
          have q4 := box_past k4 (by decide) hrow hgrow (show w.heap.size + 1 + 1 + 1 + 1 ≠ w.heap.size + 1 + 1 by omega) (.slice (some ⟨g', 0, none⟩) (pre.length + 1) cap')
          have hc1 := hv1.cell
          have hf1 := hv1.frozen
          have HF := hid (show KeepsOthers W (w2.setCell ⟨w.heap.size + 1 + 1, 0, none⟩ (.slice (some ⟨g', 0, none⟩) (pre.length + 1) cap')) ∧ Keeps [w.heap.size + 1 + 1 + 1, w.heap.size + 1 + 1 + 1 + 1] W (w2.setCell ⟨w.heap.size + 1 + 1, 0, none⟩ (.slice (some ⟨g', 0, none⟩) (pre.length + 1) cap')) ∧ ((∃ cells v, Boxed (w2.setCell ⟨w.heap.size + 1 + 1, 0, none⟩ (.slice (some ⟨g', 0, none⟩) (pre.length + 1) cap')) (w.heap.size + 1 + 1) 76 v ∧ (w2.setCell ⟨w.heap.size + 1 + 1, 0, none⟩ (.slice (some ⟨g', 0, none⟩) (pre.length + 1) cap')).ownsRow w.heap.size 78 2 v (pre ++ [x]).length cells ∧ ((pre ++ [x]).length ≤ 5 ∧ ((valsM (pre ++ [x])).all globbedL) = true)) ∧ (Boxed (w2.setCell ⟨w.heap.size + 1 + 1, 0, none⟩ (.slice (some ⟨g', 0, none⟩) (pre.length + 1) cap')) (w.heap.size) 48 .nilFunc ∧ Boxed (w2.setCell ⟨w.heap.size + 1 + 1, 0, none⟩ (.slice (some ⟨g', 0, none⟩) (pre.length + 1) cap')) (w.heap.size + 1) 4 (.bool false) ∧ Boxed (w2.setCell ⟨w.heap.size + 1 + 1, 0, none⟩ (.slice (some ⟨g', 0, none⟩) (pre.length + 1) cap')) (w.heap.size + 1 + 1 + 1) 9 (.string s) ∧ Boxed (w2.setCell ⟨w.heap.size + 1 + 1, 0, none⟩ (.slice (some ⟨g', 0, none⟩) (pre.length + 1) cap')) (w.heap.size + 1 + 1 + 1 + 1) 5 (.int .u8 47))) ∧ Below w.heap.size w (w2.setCell ⟨w.heap.size + 1 + 1, 0, none⟩ (.slice (some ⟨g', 0, none⟩) (pre.length + 1) cap')) from
            ⟨hO.trans hk2, hK.t (keeps_two k3 q3 k4 q4), ⟨⟨_, _, hv2, by rw [List.length_append]; exact hr2, by simp; omega, by rw [valsM_snoc, List.all_append, hall]; simp [hx]⟩, q0, q1, q3, q4⟩, hB.trans hb2⟩)
          clear hv hrow k0 k1 k3 k4 hB hO hK hv1 hv2 hr2 hk2 hb2 q0 q1 q3 q4 hown' hgrow HH hrow' hw1 HW1
          gi_wp2
          exact unhid HF
  case done =>
    clear b0 b1 b2 b3 b4 hB0
    rintro D ys W hD hys ⟨⟨⟨cells, v, hv, hrow, h5, hall⟩, k0, k1, k3, k4⟩, hB⟩ hK
    have hlen : (cutB 47 s.data.toList).length = ys.length := by rw [← hys]; simp [valsM]
    have hok : globOkB s.data.toList = true := by
      unfold globOkB
      rw [hlen, ← hys, hall, ← Lib.size_eq]; simp [h5, hs40]
    have c0 := k0.cell
    have f0 := k0.frozen
    have c1 := k1.cell
    have f1 := k1.frozen
    have hK' := ((KeepsOthers.setCell W ⟨w.heap.size, 0, none⟩ (.func (.func 39) #[] #[.pointer (some ⟨w.heap.size + 1 + 1, 0, none⟩)])).trans (KeepsOthers.setCell _ ⟨w.heap.size + 1, 0, none⟩ (.bool true))).same D _ hK rfl
    have r0 := ((k0.set (.func (.func 39) #[] #[.pointer (some ⟨w.heap.size + 1 + 1, 0, none⟩)])).other (show w.heap.size ≠ w.heap.size + 1 by omega) (.bool true))
    have r1 := ((k1.other (show w.heap.size + 1 ≠ w.heap.size by omega) (.func (.func 39) #[] #[.pointer (some ⟨w.heap.size + 1 + 1, 0, none⟩)])).set (.bool true))
    have hB2 := (hB.setCell (p := ⟨w.heap.size, 0, none⟩) (Nat.le_refl _) (.func (.func 39) #[] #[.pointer (some ⟨w.heap.size + 1 + 1, 0, none⟩)])).setCell (p := ⟨w.heap.size + 1, 0, none⟩) (by simp) (.bool true)
    have s0 := cell_kept r0.cell (grownBy_putObj' _ D (.deferred none)) (fun r e => by cases e; exact ⟨_, hK', rfl⟩)
    have s1 := cell_kept r1.cell (grownBy_putObj' _ D (.deferred none)) (fun r e => by cases e; exact ⟨_, hK', rfl⟩)
    have HA := hid (And.intro s0 (And.intro s1 (And.intro hB2 (And.intro hK' hok))))
    clear hv hrow k0 k1 k3 k4 hB hK' r0 r1 hB2 s0 s1 hok hlen hys
    gi_wp2
    obtain ⟨s0, s1, hB2, hK', hok⟩ := unhid HA
    refine ⟨by simp, .inl ⟨_, _, rfl, run_takeDeferred hK', ?_⟩⟩
    refine ⟨.tuple #[.func (.func 39) #[] #[.pointer (some ⟨w.heap.size + 1 + 1, 0, none⟩)], .bool true], ?_, _, by rw [hok], hB2.trans (belowK_b (w := w) (Nat.le_refl _) _ D _ _ (by simp at hD; omega) hK' rfl rfl)⟩
    simp [results, Tryz.f17, go_sem, s0, s1]
  case stop =>
    clear b0 b1 b2 b3 b4 hB0
    rintro D c pre W hD hpre ⟨⟨rfl, hbad, k0, k1⟩, hB⟩ hK
    have hno : globOkB s.data.toList = false := by
      have hl := hpre.length_le
      unfold globOkB
      rcases hbad with h | ⟨y, hy, hn⟩
      · rw [decide_eq_false (by simp [valsM] at hl; omega)]; rfl
      · rw [List.all_eq_false.2 ⟨y, hpre.subset hy, by simp [hn]⟩]; simp
    have s0 := cell_kept k0.cell (grownBy_putObj' _ D (.deferred none)) (fun r e => by cases e; exact ⟨_, hK, rfl⟩)
    have s1 := cell_kept k1.cell (grownBy_putObj' _ D (.deferred none)) (fun r e => by cases e; exact ⟨_, hK, rfl⟩)
    have Hno := hid hno
    clear hno
    gi_wp2
    refine ⟨by simp, .inl ⟨_, _, rfl, run_takeDeferred hK, ?_⟩⟩
    refine ⟨.tuple #[.nilFunc, .bool false], ?_, .nilFunc, by rw [unhid Hno], hB.trans (belowK_b (w := w) (Nat.le_refl _) W D _ _ (by simp at hD; omega) hK rfl rfl)⟩
    simp [results, Tryz.f17, go_sem, s0, s1]
end Go.Proofs.YtfphpggjcljliaaGreat

/- Whether wants, one behind the other, take just the items of a text (byte). -/
namespace Go.Proofs.YtfphpggjcljliaaGreat
open Go.RowKit Go.Shelf

attribute [local go_sem] Oper.semAt_some

theorem cells_of {W : World} {b : Nat} {cur : Array Value} {e : TypeId} {f : Nat × Nat} (h : W.heap[b]? = some (.cells cur e f)) {r : Option Nat} (hr : ∀ x, r = some x → ∃ o : Obj, W.heap[x]? = some o ∧ o.isCells = false) : r ≠ some b := by
  intro e
  obtain ⟨o, h1, h2⟩ := hr b e
  rw [h] at h1; cases h1; cases h2
theorem TakesIs.below {α : Type} {enc : α → Value} {xs : Pat α} {cs : Nat → Bool × Value} {w W : World} (h : TakesIs enc xs cs w) (hb : Below w.heap.size w W) : TakesIs enc xs cs W := fun i hi hr => by
  obtain ⟨f, ca, h1, h2, h3⟩ := h i hi hr
  exact ⟨f, ca, h1, h2, fun c W' hb' => h3 c W' (hb.trans (hb'.mono hb.size))⟩
theorem Bools.own {W W' : World} {g m : Nat} {h : Nat → Bool} (x : Bools W g m h) {r : Option Nat} (hg : W.grownBy W' r) (hr : ∀ x, r = some x → ∃ o : Obj, W.heap[x]? = some o ∧ o.isCells = false) : Bools W' g m h := by
  obtain ⟨cur, h1, h2, h3⟩ := x
  exact ⟨cur, (hg.block g (Array.getElem?_eq_some_iff.1 h1).1 (fun e => cells_of h1 hr e.symm)).trans h1, h2, h3⟩

set_option maxRecDepth 100000 in
set_option maxHeartbeats 4000000 in
theorem takesAllB_any (xs : Pat UInt8) (v : Value) (cs : Nat → Bool × Value) (s : ByteArray) (Bn : Nat) (w : World) (hn : xs.length ≤ 1000) (hs : s.size ≤ maxLen) (hv : Row2 w 123 v xs.length cs) (hr : ∀ i, i < xs.length → runAt xs i = (cs i).1)
    (hT : TakesIs (fun c : UInt8 => .int .u8 c.toNat) xs cs w) (hBn : Bn < w.heap.size) (hc : w.cell? ⟨Bn, 0, none⟩ = some (.string s)) :
    Calls Tryz.prog 65 #[v, .func (.func 86) #[] #[.pointer (some ⟨Bn, 0, none⟩)]] w fun e W' => e = .returned (.bool (matchO xs s.data.toList)) ∧ Below w.heap.size w W' := by
  have HV := hid hv
  have HT := hid hT
  have HC := hid hc
  have hsh : ∃ a vc, v = .slice a xs.length vc := by obtain ⟨a, vc, rfl, -⟩ := hv; exact ⟨a, vc, rfl⟩
  obtain ⟨a, vc, rfl⟩ := hsh
  clear hv hT hc
  have hmk := mkBools (w.alloc (.cells #[.slice a xs.length vc] 105)) xs.length hn
  have hms : (madeCells #[.bool false] (xs.length + 1)).size = xs.length + 1 := by simp [madeCells]
  have hm : ∀ j, j < xs.length + 1 → (madeCells #[.bool false] (xs.length + 1))[j]? = some (.bool false) := fun j hj => by simp [madeCells, hj, Nat.mod_one]
  generalize madeCells #[.bool false] (xs.length + 1) = M at hmk hms hm
  have hm0 := hm 0 (Nat.succ_pos _)
  have HM := hid (And.intro hms hm)
  clear hms hm
  refine (callsIn_wide (n := 4)).1 ?_
  refine callsIn_of_wp_marks Tryz.func65 rfl trivial ?_ rfl
  simp only [Tryz.ntmps65, List.size_toArray, List.length_cons, List.length_nil, Nat.reduceAdd, Nat.reduceSub, Array.replicate_succ, Array.replicate_zero, List.push_toArray, List.append_toArray, List.nil_append, List.cons_append]
  gi_wp2
  clear hmk hm0
  obtain ⟨W1, hW1⟩ : ∃ W1, W1 = (((w.alloc (.cells #[.slice a xs.length vc] 105)).alloc (.cells (M.setIfInBounds 0 (.bool true)) 4)).alloc (.cells #[.slice (some ⟨w.heap.size + 1, 0, none⟩) (xs.length + 1) (xs.length + 1)] 112)) := ⟨_, rfl⟩
  rw [← hW1]
  have hz1 : W1.heap.size = w.heap.size + 3 := by rw [hW1]; simp
  have hB1 : Below w.heap.size w W1 := by rw [hW1]; exact (((Below.refl _ w).alloc (Nat.le_refl _) _).alloc (by simp) _).alloc (by simp; omega) _
  have k0 : Boxed W1 w.heap.size 105 (.slice a xs.length vc) := by
    rw [hW1]; exact ((Boxed.new w _ _).alloc _).alloc _
  have k2 : Boxed W1 (w.heap.size + 1 + 1) 112 (.slice (some ⟨w.heap.size + 1, 0, none⟩) (xs.length + 1) (xs.length + 1)) := by
    rw [hW1]; have := Boxed.new ((w.alloc (.cells #[.slice a xs.length vc] 105)).alloc (.cells (M.setIfInBounds 0 (.bool true)) 4)) 112 (.slice (some ⟨w.heap.size + 1, 0, none⟩) (xs.length + 1) (xs.length + 1)); simpa using this
  have k1 : Bools W1 (w.heap.size + 1) (xs.length + 1) (fun j => j == 0) := by
    obtain ⟨h1, h2⟩ := unhid HM
    rw [hW1]
    refine Bools.alloc (W := (w.alloc _).alloc _) ⟨M.setIfInBounds 0 (.bool true), ?_, by simpa using h1, fun j hj => ?_⟩ _
    · have := World.alloc_heap_new (w.alloc (.cells #[.slice a xs.length vc] 105)) (.cells (M.setIfInBounds 0 (.bool true)) 4); simpa using this
    · rw [Array.getElem?_setIfInBounds]
      by_cases e : 0 = j
      · subst e; rw [if_pos rfl, if_pos (by omega)]; rfl
      · rw [if_neg e, h2 j hj]
        have e' : (j == 0) = false := by simp; omega
        rw [e']
  clear hW1 HM
  refine ⟨trivial, (callsIn_wide.2 (skipRunsB_any xs _ cs _ (w.heap.size + 1) (xs.length + 1) W1 hn ((unhid HV).kept (fun b hb => hB1.block b hb)) hr k1)).mono ?_⟩
  rintro e W2 ⟨⟨x, rfl⟩, b1, g1⟩
  have q0 := k0.kept g1 (by simp)
  have q2 := k2.kept g1 (by simp)
  have hB2 := below_of_grown hB1 g1 (by omega)
  have hz2 : w.heap.size + 3 ≤ W2.heap.size := by have := g1.size; omega
  have hc0 := q0.cell
  have hc2 := q2.cell
  have HQ := hid (And.intro q0 (And.intro q2 (And.intro b1 hB2)))
  clear k0 k1 k2 hB1 hz1 g1 q0 q2 b1 hB2 W1
  gi_wp2
  refine wpIn_rangeFunc_ownF rfl (by omega) (gf := 86) (lb := #[.pointer (some ⟨Bn, 0, none⟩)]) rfl trivial (enters_of Tryz.func86 (by kernel_rfl) rfl)
    (bytes_stops Fence.wide _ trivial rfl (by omega) Bn s hs w hBn (unhid HC)) Keeps.t (Keeps.b) (unhid HQ).2.2.2 (fun _ => rfl)
    (fun pre W => ((∃ g, Boxed W (w.heap.size + 1 + 1) 112 (.slice (some ⟨g, 0, none⟩) (xs.length + 1) (xs.length + 1)) ∧ Bools W g (xs.length + 1) (placesP xs pre)) ∧ Boxed W w.heap.size 105 (.slice a xs.length vc)) ∧ Below w.heap.size w W)
    (fun c pre W => False)
    (OwnFrom.and (Own.from (fun s A B row hs hg hr => by
        obtain ⟨⟨g, h1, h2⟩, h3⟩ := hs
        exact ⟨⟨g, boxed_own _ _ (fun _ => _) s A B row h1 hg hr, h2.own hg hr⟩, boxed_own _ _ (fun _ => _) s A B row h3 hg hr⟩) _) (ownFrom_below (Nat.le_refl _) (by omega)))
    (fun c => Own.from (fun s A B row hs hg hr => hs) _)
    ⟨⟨⟨w.heap.size + 1, (unhid HQ).2.1, (unhid HQ).2.2.1⟩, (unhid HQ).1⟩, (unhid HQ).2.2.2⟩
    (fun y => { tmps := #[.slice a xs.length vc, .func (.func 86) #[] #[.pointer (some ⟨Bn, 0, none⟩)], .pointer (some ⟨w.heap.size, 0, none⟩), undef, .bool false, .pointer (some ⟨w.heap.size + 1 + 1, 0, none⟩), .int .u8 y.toNat, .slice a xs.length vc, .int .i64 xs.length, .int .i64 ((xs.length : Int) + 1), .slice (some ⟨w.heap.size + 1, 0, none⟩) (xs.length + 1) (xs.length + 1), .slice (some ⟨w.heap.size + 1, 0, none⟩) (xs.length + 1) (xs.length + 1), .pointer (some ⟨w.heap.size + 1, 0, none⟩), .slice a xs.length vc, .slice (some ⟨w.heap.size + 1, 0, none⟩) (xs.length + 1) (xs.length + 1), x, .func (.func 86) #[] #[.pointer (some ⟨Bn, 0, none⟩)], .int .u8 y.toNat, undef, undef, undef, undef, undef, undef, undef, undef, undef], defers := [] }) ?assign ?body ?done ?stop
  case assign =>
    intro l y W K hK
    gi_wp2
    exact hK
  case body =>
    clear HQ hc0 hc2
    rintro l pre y W ⟨⟨⟨g, k2, k1⟩, k0⟩, hB⟩ _
    have hc0 := k0.cell
    have hc2 := k2.cell
    have hf2 := k2.frozen
    have HK := hid (And.intro k2 (And.intro k1 (And.intro k0 hB)))
    have hT1 : TakesIs (fun c : UInt8 => .int .u8 c.toNat) xs cs W := (unhid HT).below hB
    have HT1 := hid hT1
    have HV1 := hid ((unhid HV).kept (fun b hb => hB.block b hb))
    clear k2 k1 k0 hB hT1
    gi_wp2
    refine ⟨trivial, (CallsIn.inRound l (callsIn_wide.2 (passItemB_any xs _ cs _ g (xs.length + 1) y W hn (unhid HV1) hr (unhid HK).2.1 (unhid HT1)))).mono ?_⟩
    rintro e W' ⟨g', rfl, hg', b1, hb⟩
    obtain ⟨k2, k1, k0, hB⟩ := unhid HK
    have q2 := Boxed_below k2 hb
    have q0 := Boxed_below k0 hb
    have hB' := hB.trans (hb.mono hB.size)
    have hc0 := q0.cell
    have hc2 := q2.cell
    have hf2 := q2.frozen
    have hO := KeepsOthers_of_below hb
    have hgne : g' ≠ w.heap.size + 1 + 1 := by have := k2.lt; omega
    have hKp : Keeps [Bn] W W' := Keeps.of_below hb (fun b hb => by simp at hb; subst hb; exact Nat.lt_of_lt_of_le hBn hB.size)
    have HF := hid (show KeepsOthers W (W'.setCell ⟨w.heap.size + 1 + 1, 0, none⟩ (.slice (some ⟨g', 0, none⟩) (xs.length + 1) (xs.length + 1))) ∧ Keeps [Bn] W (W'.setCell ⟨w.heap.size + 1 + 1, 0, none⟩ (.slice (some ⟨g', 0, none⟩) (xs.length + 1) (xs.length + 1))) ∧ _ from
      And.intro (hO.trans (KeepsOthers.setCell _ _ _)) (And.intro (hKp.t (Keeps.setCell _ _ _ (by simp; omega))) (And.intro (And.intro (show ∃ g, Boxed (W'.setCell ⟨w.heap.size + 1 + 1, 0, none⟩ (.slice (some ⟨g', 0, none⟩) (xs.length + 1) (xs.length + 1))) (w.heap.size + 1 + 1) 112 (.slice (some ⟨g, 0, none⟩) (xs.length + 1) (xs.length + 1)) ∧ Bools (W'.setCell ⟨w.heap.size + 1 + 1, 0, none⟩ (.slice (some ⟨g', 0, none⟩) (xs.length + 1) (xs.length + 1))) g (xs.length + 1) (placesP xs (pre ++ [y])) from ⟨g', q2.set _, by rw [placesP_snoc]; exact b1.other _ _ hgne⟩) (q0.other (show w.heap.size ≠ w.heap.size + 1 + 1 by omega) (.slice (some ⟨g', 0, none⟩) (xs.length + 1) (xs.length + 1)))) (hB'.setCell (p := ⟨w.heap.size + 1 + 1, 0, none⟩) (by simp; omega) (.slice (some ⟨g', 0, none⟩) (xs.length + 1) (xs.length + 1))))))
    clear HK HT1 HV1 k2 k1 k0 hB q2 q0 hB' hO hKp b1 hb
    gi_wp2
    exact unhid HF
  case done =>
    clear HQ hc0 hc2
    rintro D ys W hD rfl ⟨⟨⟨g, k2, k1⟩, k0⟩, hB⟩ hK
    have hc0 := k0.cell
    have hc2 := k2.cell
    obtain ⟨hcn, -⟩ := k1.cell xs.length (by omega)
    rw [places_match] at hcn
    have HB := hid hB
    clear k2 k1 k0 hB
    gi_wp2
    refine ⟨by simp, .inl ⟨_, _, rfl, run_takeDeferred hK, ?_⟩⟩
    refine ⟨.bool (matchO xs s.data.toList), ?_, rfl, (unhid HB).trans (belowK_b (w := w) (Nat.le_refl _) _ D _ _ (by omega) hK rfl rfl)⟩
    simp [results, Tryz.f65, go_sem]
  case stop =>
    rintro D c pre W hD hpre h hK
    exact h.elim
end Go.Proofs.YtfphpggjcljliaaGreat

/- Whether wants, one behind the other, take just the items of a text (string). -/
namespace Go.Proofs.YtfphpggjcljliaaGreat
open Go.RowKit Go.Shelf

attribute [local go_sem] Oper.semAt_some

set_option maxRecDepth 100000 in
set_option maxHeartbeats 4000000 in
theorem takesAllS_any (xs : Pat Str) (v : Value) (cs : Nat → Bool × Value) (s : ByteArray) (Bn Bm : Nat) (w : World) (hn : xs.length ≤ 1000) (hs : s.size ≤ maxLen) (hv : Row2 w 78 v xs.length cs) (hr : ∀ i, i < xs.length → runAt xs i = (cs i).1)
    (hT : TakesIs (fun c : Str => .string c.1) xs cs w) (hBn : Bn < w.heap.size) (hBm : Bm < w.heap.size) (hc0 : w.cell? ⟨Bn, 0, none⟩ = some (.string s)) (hcm : w.cell? ⟨Bm, 0, none⟩ = some (.int .u8 47)) :
    Calls Tryz.prog 40 #[v, .func (.func 42) #[] #[.pointer (some ⟨Bn, 0, none⟩), .pointer (some ⟨Bm, 0, none⟩)]] w fun e W' => (∃ ys : List Str, vals ys = cutB 47 s.data.toList ∧ e = .returned (.bool (matchO xs ys))) ∧ Below w.heap.size w W' := by
  have HV := hid hv
  have HT := hid hT
  have HC := hid (And.intro hc0 hcm)
  have hsh : ∃ a vc, v = .slice a xs.length vc := by obtain ⟨a, vc, rfl, -⟩ := hv; exact ⟨a, vc, rfl⟩
  obtain ⟨a, vc, rfl⟩ := hsh
  clear hv hT hc0 hcm
  have hmk := mkBools (w.alloc (.cells #[.slice a xs.length vc] 76)) xs.length hn
  have hms : (madeCells #[.bool false] (xs.length + 1)).size = xs.length + 1 := by simp [madeCells]
  have hm : ∀ j, j < xs.length + 1 → (madeCells #[.bool false] (xs.length + 1))[j]? = some (.bool false) := fun j hj => by simp [madeCells, hj, Nat.mod_one]
  generalize madeCells #[.bool false] (xs.length + 1) = M at hmk hms hm
  have hm0 := hm 0 (Nat.succ_pos _)
  have HM := hid (And.intro hms hm)
  clear hms hm
  refine (callsIn_wide (n := 4)).1 ?_
  refine callsIn_of_wp_marks Tryz.func40 rfl trivial ?_ rfl
  simp only [Tryz.ntmps40, List.size_toArray, List.length_cons, List.length_nil, Nat.reduceAdd, Nat.reduceSub, Array.replicate_succ, Array.replicate_zero, List.push_toArray, List.append_toArray, List.nil_append, List.cons_append]
  gi_wp2
  clear hmk hm0
  obtain ⟨W1, hW1⟩ : ∃ W1, W1 = (((w.alloc (.cells #[.slice a xs.length vc] 76)).alloc (.cells (M.setIfInBounds 0 (.bool true)) 4)).alloc (.cells #[.slice (some ⟨w.heap.size + 1, 0, none⟩) (xs.length + 1) (xs.length + 1)] 112)) := ⟨_, rfl⟩
  rw [← hW1]
  have hz1 : W1.heap.size = w.heap.size + 3 := by rw [hW1]; simp
  have hB1 : Below w.heap.size w W1 := by rw [hW1]; exact (((Below.refl _ w).alloc (Nat.le_refl _) _).alloc (by simp) _).alloc (by simp; omega) _
  have k0 : Boxed W1 w.heap.size 76 (.slice a xs.length vc) := by
    rw [hW1]; exact ((Boxed.new w _ _).alloc _).alloc _
  have k2 : Boxed W1 (w.heap.size + 1 + 1) 112 (.slice (some ⟨w.heap.size + 1, 0, none⟩) (xs.length + 1) (xs.length + 1)) := by
    rw [hW1]; have := Boxed.new ((w.alloc (.cells #[.slice a xs.length vc] 76)).alloc (.cells (M.setIfInBounds 0 (.bool true)) 4)) 112 (.slice (some ⟨w.heap.size + 1, 0, none⟩) (xs.length + 1) (xs.length + 1)); simpa using this
  have k1 : Bools W1 (w.heap.size + 1) (xs.length + 1) (fun j => j == 0) := by
    obtain ⟨h1, h2⟩ := unhid HM
    rw [hW1]
    refine Bools.alloc (W := (w.alloc _).alloc _) ⟨M.setIfInBounds 0 (.bool true), ?_, by simpa using h1, fun j hj => ?_⟩ _
    · have := World.alloc_heap_new (w.alloc (.cells #[.slice a xs.length vc] 76)) (.cells (M.setIfInBounds 0 (.bool true)) 4); simpa using this
    · rw [Array.getElem?_setIfInBounds]
      by_cases e : 0 = j
      · subst e; rw [if_pos rfl, if_pos (by omega)]; rfl
      · rw [if_neg e, h2 j hj]
        have e' : (j == 0) = false := by simp; omega
        rw [e']
  clear hW1 HM
  refine ⟨trivial, (callsIn_wide.2 (skipRunsS_any xs _ cs _ (w.heap.size + 1) (xs.length + 1) W1 hn ((unhid HV).kept (fun b hb => hB1.block b hb)) hr k1)).mono ?_⟩
  rintro e W2 ⟨⟨x, rfl⟩, b1, g1⟩
  have q0 := k0.kept g1 (by simp)
  have q2 := k2.kept g1 (by simp)
  have hB2 := below_of_grown hB1 g1 (by omega)
  have hz2 : w.heap.size + 3 ≤ W2.heap.size := by have := g1.size; omega
  have hc0 := q0.cell
  have hc2 := q2.cell
  have HQ := hid (And.intro q0 (And.intro q2 (And.intro b1 hB2)))
  clear k0 k1 k2 hB1 hz1 g1 q0 q2 b1 hB2 W1
  gi_wp2
  refine wpIn_rangeFunc_ownF rfl (by omega) (gf := 42) (lb := #[.pointer (some ⟨Bn, 0, none⟩), .pointer (some ⟨Bm, 0, none⟩)]) rfl trivial (enters_of Tryz.func42 (by kernel_rfl) rfl)
    (parts_stops Fence.wide _ trivial trivial rfl (by omega) (fun s c w => callsIn_wide.2 (IndexByteU_any s c w)) Bn Bm s 47 hs w hBn hBm (unhid HC).1 (unhid HC).2) Keeps.t (Keeps.b) (unhid HQ).2.2.2 (fun _ => rfl)
    (fun pre W => ((∃ g, Boxed W (w.heap.size + 1 + 1) 112 (.slice (some ⟨g, 0, none⟩) (xs.length + 1) (xs.length + 1)) ∧ Bools W g (xs.length + 1) (placesP xs pre)) ∧ Boxed W w.heap.size 76 (.slice a xs.length vc)) ∧ Below w.heap.size w W)
    (fun c pre W => False)
    (OwnFrom.and (Own.from (fun s A B row hs hg hr => by
        obtain ⟨⟨g, h1, h2⟩, h3⟩ := hs
        exact ⟨⟨g, boxed_own _ _ (fun _ => _) s A B row h1 hg hr, h2.own hg hr⟩, boxed_own _ _ (fun _ => _) s A B row h3 hg hr⟩) _) (ownFrom_below (Nat.le_refl _) (by omega)))
    (fun c => Own.from (fun s A B row hs hg hr => hs) _)
    ⟨⟨⟨w.heap.size + 1, (unhid HQ).2.1, (unhid HQ).2.2.1⟩, (unhid HQ).1⟩, (unhid HQ).2.2.2⟩
    (fun y => { tmps := #[.slice a xs.length vc, .func (.func 42) #[] #[.pointer (some ⟨Bn, 0, none⟩), .pointer (some ⟨Bm, 0, none⟩)], .pointer (some ⟨w.heap.size, 0, none⟩), undef, .bool false, .pointer (some ⟨w.heap.size + 1 + 1, 0, none⟩), .string y.1, .slice a xs.length vc, .int .i64 xs.length, .int .i64 ((xs.length : Int) + 1), .slice (some ⟨w.heap.size + 1, 0, none⟩) (xs.length + 1) (xs.length + 1), .slice (some ⟨w.heap.size + 1, 0, none⟩) (xs.length + 1) (xs.length + 1), .pointer (some ⟨w.heap.size + 1, 0, none⟩), .slice a xs.length vc, .slice (some ⟨w.heap.size + 1, 0, none⟩) (xs.length + 1) (xs.length + 1), x, .func (.func 42) #[] #[.pointer (some ⟨Bn, 0, none⟩), .pointer (some ⟨Bm, 0, none⟩)], .string y.1, undef, undef, undef, undef, undef, undef, undef, undef, undef], defers := [] }) ?assign ?body ?done ?stop
  case assign =>
    intro l y W K hK
    gi_wp2
    exact hK
  case body =>
    clear HQ hc0 hc2
    rintro l pre y W ⟨⟨⟨g, k2, k1⟩, k0⟩, hB⟩ _
    have hc0 := k0.cell
    have hc2 := k2.cell
    have hf2 := k2.frozen
    have HK := hid (And.intro k2 (And.intro k1 (And.intro k0 hB)))
    have hT1 : TakesIs (fun c : Str => .string c.1) xs cs W := (unhid HT).below hB
    have HT1 := hid hT1
    have HV1 := hid ((unhid HV).kept (fun b hb => hB.block b hb))
    clear k2 k1 k0 hB hT1
    gi_wp2
    refine ⟨trivial, (CallsIn.inRound l (callsIn_wide.2 (passItemS_any xs _ cs _ g (xs.length + 1) y W hn (unhid HV1) hr (unhid HK).2.1 (unhid HT1)))).mono ?_⟩
    rintro e W' ⟨g', rfl, hg', b1, hb⟩
    obtain ⟨k2, k1, k0, hB⟩ := unhid HK
    have q2 := Boxed_below k2 hb
    have q0 := Boxed_below k0 hb
    have hB' := hB.trans (hb.mono hB.size)
    have hc0 := q0.cell
    have hc2 := q2.cell
    have hf2 := q2.frozen
    have hO := KeepsOthers_of_below hb
    have hgne : g' ≠ w.heap.size + 1 + 1 := by have := k2.lt; omega
    have hKp : Keeps [Bn, Bm] W W' := Keeps.of_below hb (fun b hb => by simp at hb; rcases hb with rfl | rfl; exact Nat.lt_of_lt_of_le hBn hB.size; exact Nat.lt_of_lt_of_le hBm hB.size)
    have HF := hid (show KeepsOthers W (W'.setCell ⟨w.heap.size + 1 + 1, 0, none⟩ (.slice (some ⟨g', 0, none⟩) (xs.length + 1) (xs.length + 1))) ∧ Keeps [Bn, Bm] W (W'.setCell ⟨w.heap.size + 1 + 1, 0, none⟩ (.slice (some ⟨g', 0, none⟩) (xs.length + 1) (xs.length + 1))) ∧ _ from
      And.intro (hO.trans (KeepsOthers.setCell _ _ _)) (And.intro (hKp.t (Keeps.setCell _ _ _ (by simp; omega))) (And.intro (And.intro (show ∃ g, Boxed (W'.setCell ⟨w.heap.size + 1 + 1, 0, none⟩ (.slice (some ⟨g', 0, none⟩) (xs.length + 1) (xs.length + 1))) (w.heap.size + 1 + 1) 112 (.slice (some ⟨g, 0, none⟩) (xs.length + 1) (xs.length + 1)) ∧ Bools (W'.setCell ⟨w.heap.size + 1 + 1, 0, none⟩ (.slice (some ⟨g', 0, none⟩) (xs.length + 1) (xs.length + 1))) g (xs.length + 1) (placesP xs (pre ++ [y])) from ⟨g', q2.set _, by rw [placesP_snoc]; exact b1.other _ _ hgne⟩) (q0.other (show w.heap.size ≠ w.heap.size + 1 + 1 by omega) (.slice (some ⟨g', 0, none⟩) (xs.length + 1) (xs.length + 1)))) (hB'.setCell (p := ⟨w.heap.size + 1 + 1, 0, none⟩) (by simp; omega) (.slice (some ⟨g', 0, none⟩) (xs.length + 1) (xs.length + 1))))))
    clear HK HT1 HV1 k2 k1 k0 hB q2 q0 hB' hO hKp b1 hb
    gi_wp2
    exact unhid HF
  case done =>
    clear HQ hc0 hc2
    rintro D ys W hD hys ⟨⟨⟨g, k2, k1⟩, k0⟩, hB⟩ hK
    have hc0 := k0.cell
    have hc2 := k2.cell
    obtain ⟨hcn, -⟩ := k1.cell xs.length (by omega)
    rw [places_match] at hcn
    have HB := hid hB
    clear k2 k1 k0 hB
    gi_wp2
    refine ⟨by simp, .inl ⟨_, _, rfl, run_takeDeferred hK, ?_⟩⟩
    refine ⟨.bool (matchO xs ys), ?_, ⟨ys, hys, rfl⟩, (unhid HB).trans (belowK_b (w := w) (Nat.le_refl _) _ D _ _ (by omega) hK rfl rfl)⟩
    simp [results, Tryz.f40, go_sem]
  case stop =>
    rintro D c pre W hD hpre h hK
    exact h.elim
end Go.Proofs.YtfphpggjcljliaaGreat

/- What a name of a pattern takes, by the program's function value for it. -/
namespace Go.Proofs.YtfphpggjcljliaaGreat
open Go.RowKit Go.Shelf

def opt8 : W8 → Option (UInt8 → Bool)
  | none => none
  | some x => some (takesB (some x))
def runOf (cells : List Value) (i : Nat) : Bool × Value := ((match cells[2 * i]? with
  | some (.bool r) => r
  | _ => false), cells[2 * i + 1]?.getD undef)
theorem runOf_eq {cells : List Value} {i : Nat} {r : Bool} {fv : Value} (h1 : cells[2 * i]? = some (.bool r)) (h2 : cells[2 * i + 1]? = some fv) : runOf cells i = (r, fv) := by
  unfold runOf; rw [h1, h2]; rfl
theorem row2_of {W : World} {base : Nat} {e : TypeId} {v : Value} {n : Nat} {cells : List Value} (h : W.ownsRow base e 2 v n cells) (hc : ∀ i, i < n → ∃ r fv, cells[2 * i]? = some (.bool r) ∧ cells[2 * i + 1]? = some fv ∧ fv.oneCell' = true) : Row2 W e v n (runOf cells) := by
  rcases h.2 with ⟨rfl, rfl⟩ | ⟨g, cap, cur, rfl, hb, hg, hcap, _, hsz, hcells⟩
  · exact ⟨none, 0, rfl, .inl rfl⟩
  · refine ⟨_, cap, rfl, .inr ⟨g, cur, rfl, hg, hcap, fun i hi => ?_⟩⟩
    obtain ⟨r, fv, h1, h2, h3⟩ := hc i hi
    rw [runOf_eq h1 h2]
    rw [← hcells] at h1 h2
    rw [List.getElem?_take_of_lt (by omega)] at h1 h2
    refine ⟨?_, ?_, h3⟩
    · rw [show i * 2 = 2 * i by omega, ← Array.getElem?_toList]; exact h1
    · rw [show i * 2 + 1 = 2 * i + 1 by omega, ← Array.getElem?_toList]; exact h2
theorem opt8_run (xs : List W8) (i : Nat) (x : W8) (h : xs[i]? = some x) : (xs.map opt8)[i]? = some (opt8 x) := by simp [h]
theorem eg63 : ∀ args w, (callFunc 99 args).run Tryz.prog w = .ok (.enter 99 args) w := enters_of Tryz.func99 (by kernel_rfl) rfl
theorem eg65 : ∀ args w, (callFunc 101 args).run Tryz.prog w = .ok (.enter 101 args) w := enters_of Tryz.func101 (by kernel_rfl) rfl
theorem eg67 : ∀ args w, (callFunc 105 args).run Tryz.prog w = .ok (.enter 105 args) w := enters_of Tryz.func105 (by kernel_rfl) rfl
theorem eg48 : ∀ args w, (callFunc 64 args).run Tryz.prog w = .ok (.enter 64 args) w := enters_of Tryz.func64 (by kernel_rfl) rfl
theorem below_drewN {B : Nat} (w : World) (m : Nat) : Below B w (w.drewN m) := ⟨rfl, rfl, rfl, Nat.le_refl _, fun _ _ => rfl⟩

theorem WantsP.row {W : World} {P : Nat → Prop} {v : Value} {xs : List W8} (h : WantsP W P v xs) : ∃ cs, Row2 W 123 v (xs.map opt8).length cs ∧ (∀ i, i < (xs.map opt8).length → runAt (xs.map opt8) i = (cs i).1) ∧ TakesIs (fun c : UInt8 => .int .u8 c.toNat) (xs.map opt8) cs W := by
  obtain ⟨base, cells, h1, _, h3⟩ := h
  have hx : ∀ i, i < (xs.map opt8).length → ∃ x, xs[i]? = some x := fun i hi => ⟨_, List.getElem?_eq_getElem (by simpa using hi)⟩
  refine ⟨runOf cells, row2_of (by simpa using h1) (fun i hi => ?_), fun i hi => ?_, fun i hi hr => ?_⟩
  · obtain ⟨x, hxi⟩ := hx i hi
    obtain ⟨r, fv, a, b, c⟩ := h3 i x hxi
    exact ⟨r, fv, a, b, by rcases c.form with rfl | ⟨f, ca, rfl⟩ <;> rfl⟩
  · obtain ⟨x, hxi⟩ := hx i hi
    obtain ⟨r, fv, a, b, c⟩ := h3 i x hxi
    rw [runOf_eq a b]
    unfold runAt
    rw [opt8_run xs i x hxi]
    rcases x with _ | _ | d | ⟨inner, others⟩
    · exact c.1.symm
    · exact c.1.symm
    · exact c.1.symm
    · exact c.1.symm
  · obtain ⟨x, hxi⟩ := hx i hi
    obtain ⟨r, fv, a, b, c⟩ := h3 i x hxi
    have ht : ∀ c, x ≠ .star → takeAt (xs.map opt8) i c = takesB x c := fun c hne => by
      unfold takeAt
      rw [opt8_run xs i x hxi]
      cases x <;> first | exact absurd rfl hne | rfl
    rw [runOf_eq a b]
    rcases x with _ | _ | d | ⟨inner, others⟩
    · unfold runAt at hr; rw [opt8_run xs i _ hxi] at hr; cases hr
    · refine ⟨_, _, c.2, eg63, fun ch W' hb => ?_⟩
      rw [ht ch (by simp)]
      exact (takes_any ch W').mono (by rintro e w' ⟨rfl, rfl⟩; exact ⟨rfl, Below.refl _ _⟩)
    · obtain ⟨_, bb, e1, _, e3, e4⟩ := c
      refine ⟨_, _, e1, eg65, fun ch W' hb => ?_⟩
      rw [ht ch (by simp)]
      exact (takes_byte ch d bb W' ((hb.cell (p := ⟨bb, 0, none⟩) e3).trans e4)).mono (by rintro e w' ⟨rfl, rfl⟩; exact ⟨rfl, Below.refl _ _⟩)
    · obtain ⟨_, bb, dd, e1, ⟨_, e3, e4⟩, _, e6, e7⟩ := c
      refine ⟨_, _, e1, eg67, fun ch W' hb => ?_⟩
      rw [ht ch (by simp)]
      exact (takes_cls ch inner others bb dd W' ((hb.cell (p := ⟨bb, 0, none⟩) e3).trans e4) ((hb.cell (p := ⟨dd, 0, none⟩) e6).trans e7)).mono (by rintro e w' ⟨rfl, m, rfl⟩; exact ⟨rfl, below_drewN _ _⟩)

theorem bytesOf_any (s : ByteArray) (w : World) : Calls Tryz.prog 66 #[.string s] w fun e w' => e = .returned (.func (.func 86) #[] #[.pointer (some ⟨w.heap.size, 0, none⟩)]) ∧ w' = w.alloc (.cells #[.string s] 9) :=
  (callsIn_wide (n := 1)).1 (bytesOf_in Fence.wide _ trivial rfl s w)

set_option maxRecDepth 100000 in
set_option maxHeartbeats 4000000 in
theorem nameTakes_any (s : Str) (xs : List W8) (b : Nat) (v : Value) (P : Nat → Prop) (w : World) (hc : w.cell? ⟨b, 0, none⟩ = some v) (hW : WantsP w P v xs) (hn : xs.length ≤ 1000) :
    Calls Tryz.prog 64 #[.string s.1, .pointer (some ⟨b, 0, none⟩)] w fun e W' => e = .returned (.bool (matchO (xs.map opt8) s.1.data.toList)) ∧ Below w.heap.size w W' := by
  obtain ⟨cs, h1, h2, h3⟩ := hW.row
  have hbl := below_lt hc
  have H1 := hid h1
  have H2 := hid h2
  have H3 := hid h3
  clear h1 h2 h3 hW
  go_enter Tryz.func64, Tryz.ntmps64
  go_wp2_with fail
  have hal : Below w.heap.size w (w.alloc (.cells #[.string s.1] 9)).drew := ((Below.refl _ w).alloc (Nat.le_refl _) _).drew
  have HA := hid hal
  have HN := hid (show (w.alloc (.cells #[.string s.1] 9)).drew.cell? ⟨w.heap.size, 0, none⟩ = some (.string s.1) ∧ w.heap.size < (w.alloc (.cells #[.string s.1] 9)).drew.heap.size from ⟨(cell_new_l w _ _).1, by show _ < (w.alloc _).heap.size; simp⟩)
  clear hal
  go_region_with (first | (go_at_call 66; refine (bytesOf_any _ _).mono ?_; rintro e w' ⟨rfl, rfl⟩) | (go_at_call 65; refine (takesAllB_any (xs.map opt8) _ cs s.1 w.heap.size _ (by simpa using hn) s.2 ((unhid H1).kept (fun b hb => (unhid HA).block b hb)) (unhid H2) ((unhid H3).below (unhid HA)) (unhid HN).2 (unhid HN).1).mono ?_; rintro e w2 ⟨rfl, hb⟩; have HB2 := hid ((unhid HA).trans (hb.mono (unhid HA).size)); clear hb))
  all_goals
    go_wp2_with fail
    go_ret
    exact ⟨rfl, unhid HB2⟩

def opt9 : W9 → Option (Str → Bool)
  | none => none
  | some xs => some fun s => matchO (xs.map opt8) s.1.data.toList
/-- Wants of names in a row whose blocks are of a kind. -/
def NamesP (W : World) (P : Nat → Prop) (v : Value) (xs : List W9) : Prop :=
  ∃ base cells, W.ownsRow base 78 2 v xs.length cells ∧ (∀ g, v.ownBlock = some g → P g) ∧ ∀ i x, xs[i]? = some x → ∃ run fv, cells[2 * i]? = some (.bool run) ∧ cells[2 * i + 1]? = some fv ∧ NameIs W P x run fv
theorem NamesP.kept {W W' : World} {P P' : Nat → Prop} {v : Value} {xs : List W9} (h : NamesP W P v xs) (hs : W.heap.size ≤ W'.heap.size) (hk : ∀ b, P b → b < W.heap.size → W'.heap[b]? = W.heap[b]?) (hP : ∀ b, P b → b < W.heap.size → P' b) : NamesP W' P' v xs := by
  obtain ⟨base, cells, h1, h2, h3⟩ := h
  refine ⟨base, cells, ownsRow_keptG h1 (fun g e => hk g (h2 g e) (h1.lt g e).2), fun g e => hP g (h2 g e) (h1.lt g e).2, fun i x hi => ?_⟩
  obtain ⟨run, fv, g1, g2, g3⟩ := h3 i x hi
  exact ⟨run, fv, g1, g2, g3.kept hs hk hP⟩
theorem NameIs.form {W : World} {P : Nat → Prop} {x : W9} {run : Bool} {fv : Value} (h : NameIs W P x run fv) : fv = .nilFunc ∨ ∃ f ca, fv = .func (.func f) #[] ca := by
  rcases x with _ | xs
  · exact .inl h.2
  · obtain ⟨_, b, v, h1, _⟩ := h; exact .inr ⟨_, _, h1⟩
def small9 : W9 → Prop
  | none => True
  | some xs => xs.length ≤ 1000
theorem NamesP.row {W : World} {P : Nat → Prop} {v : Value} {xs : List W9} (h : NamesP W P v xs) (hm : ∀ x ∈ xs, small9 x) : ∃ cs, Row2 W 78 v (xs.map opt9).length cs ∧ (∀ i, i < (xs.map opt9).length → runAt (xs.map opt9) i = (cs i).1) ∧ TakesIs (fun c : Str => .string c.1) (xs.map opt9) cs W := by
  obtain ⟨base, cells, h1, _, h3⟩ := h
  have hx : ∀ i, i < (xs.map opt9).length → ∃ x, xs[i]? = some x := fun i hi => ⟨_, List.getElem?_eq_getElem (by simpa using hi)⟩
  have ho : ∀ (i : Nat) (x : W9), xs[i]? = some x → (xs.map opt9)[i]? = some (opt9 x) := fun i x h => by simp [h]
  refine ⟨runOf cells, row2_of (by simpa using h1) (fun i hi => ?_), fun i hi => ?_, fun i hi hr => ?_⟩
  · obtain ⟨x, hxi⟩ := hx i hi
    obtain ⟨r, fv, a, b, c⟩ := h3 i x hxi
    exact ⟨r, fv, a, b, by rcases c.form with rfl | ⟨f, ca, rfl⟩ <;> rfl⟩
  · obtain ⟨x, hxi⟩ := hx i hi
    obtain ⟨r, fv, a, b, c⟩ := h3 i x hxi
    rw [runOf_eq a b]
    unfold runAt
    rw [ho i x hxi]
    rcases x with _ | ys
    · exact c.1.symm
    · exact c.1.symm
  · obtain ⟨x, hxi⟩ := hx i hi
    obtain ⟨r, fv, a, b, c⟩ := h3 i x hxi
    rw [runOf_eq a b]
    rcases x with _ | ys
    · unfold runAt at hr; rw [ho i _ hxi] at hr; cases hr
    · obtain ⟨_, bb, vv, e1, _, e3, e4, e5⟩ := c
      refine ⟨_, _, e1, eg48, fun ch W' hb => ?_⟩
      have ht : takeAt (xs.map opt9) i ch = matchO (ys.map opt8) ch.1.data.toList := by unfold takeAt; rw [ho i _ hxi]; rfl
      rw [ht]
      exact nameTakes_any ch ys bb vv P W' ((hb.cell (p := ⟨bb, 0, none⟩) e3).trans e4) (e5.kept hb.size (fun b _ hl => hb.block b hl) (fun _ h _ => h)) (hm _ (List.mem_of_getElem? hxi))

set_option maxRecDepth 100000 in
set_option maxHeartbeats 4000000 in
theorem globTakes_any (s : ByteArray) (hs : s.size ≤ maxLen) (xs : List W9) (b Bn Bm : Nat) (v : Value) (P : Nat → Prop) (w : World) (hc : w.cell? ⟨b, 0, none⟩ = some v) (hW : NamesP w P v xs) (hm : ∀ x ∈ xs, small9 x) (hn : xs.length ≤ 1000)
    (hc0 : w.cell? ⟨Bn, 0, none⟩ = some (.string s)) (hcm : w.cell? ⟨Bm, 0, none⟩ = some (.int .u8 47)) :
    Calls Tryz.prog 39 #[.func (.func 42) #[] #[.pointer (some ⟨Bn, 0, none⟩), .pointer (some ⟨Bm, 0, none⟩)], .pointer (some ⟨b, 0, none⟩)] w fun e W' => (∃ ys : List Str, vals ys = cutB 47 s.data.toList ∧ e = .returned (.bool (matchO (xs.map opt9) ys))) ∧ Below w.heap.size w W' := by
  obtain ⟨cs, h1, h2, h3⟩ := hW.row hm
  have H1 := hid h1
  have H2 := hid h2
  have H3 := hid h3
  clear h1 h2 h3 hW
  go_enter Tryz.func39, Tryz.ntmps39
  go_wp2_with fail
  refine (takesAllS_any (xs.map opt9) _ cs s Bn Bm _ (by simpa using hn) hs (unhid H1) (unhid H2) (unhid H3) (below_lt hc0) (below_lt hcm) hc0 hcm).mono ?_
  rintro e w2 ⟨⟨ys, hys, rfl⟩, hb⟩
  go_wp2_with fail
  go_ret
  exact ⟨⟨ys, hys, rfl⟩, hb⟩
end Go.Proofs.YtfphpggjcljliaaGreat

/- What the program reads a pattern as: its function value, and what that captured. -/
namespace Go.Proofs.YtfphpggjcljliaaGreat
open Go.RowKit Go.Shelf

attribute [local go_sem] Oper.semAt_some

def CellsAt (W : World) (b : Nat) : Prop := ∃ o : Obj, W.heap[b]? = some o ∧ o.isCells = true
theorem cellsAt_of_cell {W : World} {b : Nat} {v : Value} (h : W.cell? ⟨b, 0, none⟩ = some v) : CellsAt W b := by
  unfold World.cell? at h
  cases hh : W.heap[b]? with
  | none => simp [hh] at h
  | some o =>
    refine ⟨o, hh, ?_⟩
    cases o <;> first | rfl | (simp [hh] at h)
theorem WantIs.cells {W : World} {P : Nat → Prop} {x : W8} {run : Bool} {fv : Value} (h : WantIs W P x run fv) : WantIs W (fun b => P b ∧ CellsAt W b) x run fv := by
  rcases x with _ | _ | c | ⟨inner, others⟩
  · exact h
  · exact h
  · obtain ⟨h0, b, h1, h2, h3, h4⟩ := h
    exact ⟨h0, b, h1, ⟨h2, cellsAt_of_cell h4⟩, h3, h4⟩
  · obtain ⟨h0, b, d, h1, ⟨h2, h3, h4⟩, h5, h6, h7⟩ := h
    exact ⟨h0, b, d, h1, ⟨⟨h2, cellsAt_of_cell h4⟩, h3, h4⟩, ⟨h5, cellsAt_of_cell h7⟩, h6, h7⟩
theorem WantsP.cells {W : World} {P : Nat → Prop} {v : Value} {xs : List W8} (h : WantsP W P v xs) : WantsP W (fun b => P b ∧ CellsAt W b) v xs := by
  obtain ⟨base, cells, h1, h2, h3⟩ := h
  refine ⟨base, cells, h1, fun g e => ⟨h2 g e, ?_⟩, fun i x hi => ?_⟩
  · rcases h1.2 with ⟨rfl, _⟩ | ⟨g', cap, cur, rfl, _, hg, _⟩
    · cases e
    · cases e; exact ⟨_, hg, rfl⟩
  · obtain ⟨run, fv, g1, g2, g3⟩ := h3 i x hi
    exact ⟨run, fv, g1, g2, g3.cells⟩
theorem NameIs.cells {W : World} {P : Nat → Prop} {x : W9} {run : Bool} {fv : Value} (h : NameIs W P x run fv) : NameIs W (fun b => P b ∧ CellsAt W b) x run fv := by
  rcases x with _ | xs
  · exact h
  · obtain ⟨h0, b, v, h1, h2, h3, h4, h5⟩ := h
    exact ⟨h0, b, v, h1, ⟨h2, cellsAt_of_cell h4⟩, h3, h4, h5.cells⟩
/-- Blocks of cells from N on, but for the row's own. -/
def PB (N : Nat) (v : Value) (W : World) (b : Nat) : Prop := (N ≤ b ∧ v.ownBlock ≠ some b) ∧ CellsAt W b
def NamesIn (W : World) (N : Nat) (v : Value) (cells : List Value) (xs : List W9) : Prop :=
  ∀ (i : Nat) (x : W9), xs[i]? = some x → ∃ run fv, cells[2 * i]? = some (.bool run) ∧ cells[2 * i + 1]? = some fv ∧ NameIs W (PB N v W) x run fv
theorem NamesIn.own {A B : World} {N : Nat} {v : Value} {cells : List Value} {xs : List W9} (h : NamesIn A N v cells xs) {r : Option Nat} (hg : A.grownBy B r) (hr : ∀ x, r = some x → ∃ o : Obj, A.heap[x]? = some o ∧ o.isCells = false) : NamesIn B N v cells xs := by
  intro i x hi
  obtain ⟨run, fv, a, b, c⟩ := h i x hi
  have same : ∀ k, CellsAt A k → k < A.heap.size → B.heap[k]? = A.heap[k]? := fun k hk hl => hg.block k hl (fun e => by
    obtain ⟨o, h1, h2⟩ := hk
    obtain ⟨o', h3, h4⟩ := hr k e.symm
    rw [h1] at h3; cases h3; rw [h2] at h4; cases h4)
  exact ⟨run, fv, a, b, c.kept hg.size (fun k hk hl => same k hk.2 hl) (fun k hk hl => ⟨hk.1, by obtain ⟨o, h1, h2⟩ := hk.2; exact ⟨o, (same k hk.2 hl).trans h1, h2⟩⟩)⟩
theorem NamesIn.below {A B : World} {N : Nat} {v : Value} {cells : List Value} {xs : List W9} (h : NamesIn A N v cells xs) (hb : Below A.heap.size A B) : NamesIn B N v cells xs := by
  intro i x hi
  obtain ⟨run, fv, a, b, c⟩ := h i x hi
  exact ⟨run, fv, a, b, c.kept hb.size (fun k _ hl => hb.block k hl) (fun k hk hl => ⟨hk.1, by obtain ⟨o, h1, h2⟩ := hk.2; exact ⟨o, (hb.block k hl).trans h1, h2⟩⟩)⟩
theorem NamesIn.set {A : World} {N : Nat} {v : Value} {cells : List Value} {xs : List W9} (h : NamesIn A N v cells xs) (a : Addr) (ha : a.block < N) (u : Value) : NamesIn (A.setCell a u) N v cells xs := by
  intro i x hi
  obtain ⟨run, fv, p, q, c⟩ := h i x hi
  have same : ∀ k, N ≤ k → (A.setCell a u).heap[k]? = A.heap[k]? := fun k hk => Below.heap_setCell A a u k (by omega)
  exact ⟨run, fv, p, q, c.kept (by simp) (fun k hk _ => same k hk.1.1) (fun k hk _ => ⟨hk.1, by obtain ⟨o, h1, h2⟩ := hk.2; exact ⟨o, (same k hk.1.1).trans h1, h2⟩⟩)⟩
theorem NamesIn.push {wr w1 w2 : World} {o o' : Obj} {N : Nat} {v v' : Value} {xs : List W9} {cells : List Value} {x : W9} {run : Bool} {fv : Value}
    (h : NamesIn wr N v cells xs) (hl : cells.length = xs.length * 2) (hN : N ≤ wr.heap.size) (hv : ∀ g, v.ownBlock = some g → g < wr.heap.size) (hB1 : Below wr.heap.size wr w1) (hx : NameIs w1 (fun b => wr.heap.size ≤ b) x run fv)
    (hgrow : ((w1.alloc o).alloc o').grownBy w2 v.ownBlock) (hat : v'.ownBlock = v.ownBlock ∨ ∃ g, v'.ownBlock = some g ∧ w1.heap.size ≤ g) : NamesIn w2 N v' (cells ++ [.bool run, fv]) (xs ++ [x]) := by
  have hW : Below w1.heap.size w1 ((w1.alloc o).alloc o') := ((Below.refl _ w1).alloc (Nat.le_refl _) _).alloc (by simp) _
  have hs1 := hB1.size
  have hs2 := hW.size
  have hs3 := hgrow.size
  have far : ∀ b, b < w1.heap.size → v.ownBlock ≠ some b → w2.heap[b]? = w1.heap[b]? := fun b hb hne => (hgrow.block b (by omega) (by intro e; first | exact hne e | exact hne e.symm)).trans (hW.block b hb)
  intro i y hi
  by_cases hlt : i < xs.length
  · rw [List.getElem?_append_left hlt] at hi
    obtain ⟨r, f, h1, h2, h3⟩ := h i y hi
    refine ⟨r, f, by rw [List.getElem?_append_left (by omega)]; exact h1, by rw [List.getElem?_append_left (by omega)]; exact h2, ?_⟩
    have same : ∀ b, PB N v wr b → b < wr.heap.size → w2.heap[b]? = wr.heap[b]? := fun b hb hlb => (far b (by omega) hb.1.2).trans (hB1.block b hlb)
    refine h3.kept (by omega) same (fun b hb hlb => ⟨⟨hb.1.1, ?_⟩, by obtain ⟨o, p, q⟩ := hb.2; exact ⟨o, (same b hb hlb).trans p, q⟩⟩)
    rcases hat with e | ⟨g, e, hg⟩
    · rw [e]; exact hb.1.2
    · rw [e]; intro e'; cases e'; omega
  · rw [List.getElem?_append_right (by omega)] at hi
    have hi0 : i = xs.length := by
      have := (List.getElem?_eq_some_iff.1 hi).1
      simp at this; omega
    subst hi0
    simp at hi
    subst hi
    refine ⟨run, fv, by rw [List.getElem?_append_right (by omega), show 2 * xs.length - cells.length = 0 by omega]; rfl, by rw [List.getElem?_append_right (by omega), show 2 * xs.length + 1 - cells.length = 1 by omega]; rfl, ?_⟩
    have same : ∀ b, wr.heap.size ≤ b → b < w1.heap.size → w2.heap[b]? = w1.heap[b]? := fun b hb hlb => far b hlb (fun e => by have := hv b e; omega)
    refine hx.cells.kept (by omega) (fun b hb hlb => same b hb.1 hlb) (fun b hb hlb => ⟨⟨by have := hb.1; omega, ?_⟩, by obtain ⟨o, p, q⟩ := hb.2; exact ⟨o, (same b hb.1 hlb).trans p, q⟩⟩)
    rcases hat with e | ⟨g, e, hg⟩
    · rw [e]; intro e'; have := hv b e'; have := hb.1; omega
    · rw [e]; intro e'; cases e'; omega
theorem NamesIn.p {W : World} {N base : Nat} {v : Value} {cells : List Value} {xs : List W9} (h : NamesIn W N v cells xs) (hr : W.ownsRow base 78 2 v xs.length cells) (hb : base ≤ N) : NamesP W (fun b => base ≤ b) v xs := by
  refine ⟨base, cells, hr, fun g e => (hr.lt g e).1, fun i x hi => ?_⟩
  obtain ⟨run, fv, a, b, c⟩ := h i x hi
  exact ⟨run, fv, a, b, c.kept (Nat.le_refl _) (fun _ _ _ => rfl) (fun k hk _ => Nat.le_trans hb hk.1.1)⟩
theorem ba_eta (x : ByteArray) : (⟨⟨x.data.toList⟩⟩ : ByteArray) = x := rfl

set_option maxRecDepth 100000 in
set_option maxHeartbeats 4000000 in
theorem globOf_full (s : ByteArray) (hs : s.size ≤ maxLen) (w : World) :
    Calls Tryz.prog 17 #[.string s] w fun e W' => ∃ fv, e = .returned (.tuple #[fv, .bool (globOkB s.data.toList)]) ∧ (globOkB s.data.toList = true → ∃ b v xs, fv = .func (.func 39) #[] #[.pointer (some ⟨b, 0, none⟩)] ∧ b < W'.heap.size ∧ W'.cell? ⟨b, 0, none⟩ = some v ∧ NamesP W' (fun b => w.heap.size ≤ b) v xs ∧ (cutB 47 s.data.toList).map (fun p => nameW ⟨⟨p⟩⟩) = xs.map some) ∧ (globOkB s.data.toList = false → fv = .nilFunc) ∧ Below w.heap.size w W' := by
  obtain ⟨i0, hi, hz0, hz1, hz2⟩ := info_parts infoName
  have hs' : s.size ≤ 9223372036854775807 := hs
  refine (callsIn_wide (n := 4)).1 ?_
  refine callsIn_of_wp_marks Tryz.func17 rfl trivial ?_ rfl
  simp only [Tryz.ntmps17, List.size_toArray, List.length_cons, List.length_nil, Nat.reduceAdd, Nat.reduceSub, Array.replicate_succ, Array.replicate_zero, List.push_toArray, List.append_toArray, List.nil_append, List.cons_append]
  by_cases h40 : (40 : Int) < s.size
  · have E := hid (show globOkB s.data.toList = false by
      unfold globOkB
      rw [← Lib.size_eq, show decide (s.size ≤ 40) = false from decide_eq_false (by omega)]; simp)
    gi_wp2
    refine ⟨.tuple #[.nilFunc, .bool false], by simp [results, Tryz.f17, go_sem], .nilFunc, by rw [unhid E], (fun h => by rw [unhid E] at h; cases h), (fun _ => rfl), ((Below.refl _ w).alloc (Nat.le_refl _) _).alloc (by simp) _⟩
  have hs40 : s.size ≤ 40 := by omega
  gi_wp2_with (refine ⟨trivial, ?_⟩; gi_at_call 19; refine (partsOf_in Fence.wide _ trivial rfl _ _ _).mono ?_; rintro e w' ⟨rfl, rfl⟩)
  have b0 := Boxed.new w 48 .nilFunc
  have b1 := Boxed.new (w.alloc (.cells #[.nilFunc] 48)) 4 (.bool false)
  have b2 := Boxed.new ((w.alloc (.cells #[.nilFunc] 48)).alloc (.cells #[.bool false] 4)) 76 (.slice none 0 0)
  have b3 := Boxed.new (((w.alloc (.cells #[.nilFunc] 48)).alloc (.cells #[.bool false] 4)).alloc (.cells #[.slice none 0 0] 76)) 9 (.string s)
  have b4 := Boxed.new ((((w.alloc (.cells #[.nilFunc] 48)).alloc (.cells #[.bool false] 4)).alloc (.cells #[.slice none 0 0] 76)).alloc (.cells #[.string s] 9)) 5 (.int .u8 47)
  simp only [World.size_alloc] at b1 b2 b3 b4
  have hB0 : Below w.heap.size w (((((w.alloc (.cells #[.nilFunc] 48)).alloc (.cells #[.bool false] 4)).alloc (.cells #[.slice none 0 0] 76)).alloc (.cells #[.string s] 9)).alloc (.cells #[.int .u8 47] 5)) := (((((Below.refl _ w).alloc (Nat.le_refl _) _).alloc (by simp) _).alloc (by simp; omega) _).alloc (by simp; omega) _).alloc (by simp; omega) _
  refine wpIn_rangeFunc_ownF rfl (by omega) (gf := 42) (lb := #[.pointer (some ⟨w.heap.size + 1 + 1 + 1, 0, none⟩), .pointer (some ⟨w.heap.size + 1 + 1 + 1 + 1, 0, none⟩)]) rfl trivial (enters_of Tryz.func42 (by kernel_rfl) rfl)
    (partsM_stops Fence.wide _ trivial trivial rfl (by omega) (fun s c w => callsIn_wide.2 (IndexByteU_any s c w)) (w.heap.size + 1 + 1 + 1) (w.heap.size + 1 + 1 + 1 + 1) s 47 40 hs40 hs _ (by simp) (by simp) (b3.alloc _).cell b4.cell) Keeps.t (Keeps.b) (Below.refl _ _) (fun _ => rfl)
    (fun (pre : List (StrM 40)) W => ((∃ cells v xs, (xs.map some = pre.map (fun x => nameW x.1) ∧ NamesIn W (w.heap.size + 5) v cells xs) ∧ Boxed W (w.heap.size + 1 + 1) 76 v ∧ W.ownsRow w.heap.size 78 2 v pre.length cells ∧ (pre.length ≤ 5 ∧ ((valsM pre).all globbedL) = true)) ∧ (Boxed W (w.heap.size) 48 .nilFunc ∧ Boxed W (w.heap.size + 1) 4 (.bool false) ∧ Boxed W (w.heap.size + 1 + 1 + 1) 9 (.string s) ∧ Boxed W (w.heap.size + 1 + 1 + 1 + 1) 5 (.int .u8 47))) ∧ Below w.heap.size w W)
    (fun c pre W => (c = .ret ∧ (5 < pre.length ∨ ∃ y ∈ valsM pre, globbedL y = false) ∧ Boxed W w.heap.size 48 .nilFunc ∧ Boxed W (w.heap.size + 1) 4 (.bool false)) ∧ Below w.heap.size w W)
    (OwnFrom.and (OwnFrom.and (Own.from (fun pre X Y rw hx hg hr => by
        obtain ⟨cells, v, xs, hn, hh⟩ := hx
        refine ⟨cells, v, xs, ⟨hn.1, hn.2.own hg hr⟩, boxed_own _ _ (fun _ => _) pre X Y rw hh.1 hg hr, ownsRow_keptG hh.2.1 (fun g e => ?_), hh.2.2⟩
        rcases hh.2.1.2 with ⟨rfl, _⟩ | ⟨g', cap, cur, rfl, _, hgc, _⟩
        · cases e
        · cases e; exact hg.block g' (Array.getElem?_eq_some_iff.1 hgc).1 (fun e => cells_of hgc hr e.symm)) _)
      (Own.from (fun s X Y row hs hg hr => ⟨boxed_own _ _ (fun _ => _) s X Y row hs.1 hg hr, boxed_own _ _ (fun _ => _) s X Y row hs.2.1 hg hr, boxed_own _ _ (fun _ => _) s X Y row hs.2.2.1 hg hr, boxed_own _ _ (fun _ => _) s X Y row hs.2.2.2 hg hr⟩) _)) (ownFrom_below (Nat.le_refl _) (by simp; omega)))
    (fun c => OwnFrom.and (Own.from (fun s X Y row hs hg hr => ⟨hs.1, hs.2.1, boxed_own _ _ (fun _ => _) s X Y row hs.2.2.1 hg hr, boxed_own _ _ (fun _ => _) s X Y row hs.2.2.2 hg hr⟩) _) (ownFrom_below (Nat.le_refl _) (by simp; omega)))
    ⟨⟨⟨[], _, [], ⟨rfl, fun i x h => by simp at h⟩, (b2.alloc _).alloc _, World.ownsRow_nil _ _ _ _, by simp, by simp⟩, (((b0.alloc _).alloc _).alloc _).alloc _, ((b1.alloc _).alloc _).alloc _, b3.alloc _, b4⟩, hB0⟩
    (fun x => { tmps := #[.string s, undef, .pointer (some ⟨w.heap.size, 0, none⟩), .pointer (some ⟨w.heap.size + 1, 0, none⟩), .pointer (some ⟨w.heap.size + 1 + 1, 0, none⟩), .string x.1, undef, undef, .string s, .int .i64 s.size, .bool false, .string s, .func (.func 42) #[] #[.pointer (some ⟨w.heap.size + 1 + 1 + 1, 0, none⟩), .pointer (some ⟨w.heap.size + 1 + 1 + 1 + 1, 0, none⟩)], .string x.1, undef, undef, undef, undef, undef, undef, undef, undef, undef, undef, undef, undef, undef, undef, undef, undef, undef], defers := [] }) ?assign ?body ?done ?stop
  case assign =>
    intro l x W K hK
    gi_wp2
    exact hK
  case body =>
    clear b0 b1 b2 b3 b4 hB0
    rintro l pre x W ⟨⟨⟨cells, v, xs, ⟨hxs, hni⟩, hv, hrow, h5, hall⟩, k0, k1, k3, k4⟩, hB⟩ hpre
    obtain ⟨va, vcap, rfl⟩ := ownsRow_shape hrow
    have HI := hid (And.intro hv (And.intro hrow (And.intro k0 (And.intro k1 (And.intro k3 (And.intro k4 hB))))))
    have HNI := hid (And.intro hxs hni)
    clear hv hrow k0 k1 k3 k4 hB hxs hni
    gi_wp2
    refine ⟨trivial, (CallsIn.inRound l (callsIn_wide.2 (nameWant_any x.1 (by have := x.2; omega) _))).mono ?_⟩
    rintro e w0 ⟨run, fv, rfl, hform, hname, hb0⟩
    have HNA := hid (And.intro hname hb0)
    clear hname
    have hrow00 := hid (unhid HI).2.1
    have hsz5 : w.heap.size + 5 ≤ W.heap.size := by have := (unhid HI).2.2.2.2.2.1.lt; omega
    rw [nameW_globbed]
    obtain ⟨w1, hw1⟩ : ∃ w1, w1 = w0.alloc (.cells #[.bool run, fv] 78) := ⟨_, rfl⟩
    have hb : Below W.heap.size W w1 := by rw [hw1]; exact hb0.alloc hb0.size _
    obtain ⟨hv0, hrow0, k00, k10, k30, k40, hB0⟩ := unhid HI
    have hv := Boxed_below hv0 hb
    have hrow := ownsRow_below hrow0 hb
    have k0 := Boxed_below k00 hb
    have k1 := Boxed_below k10 hb
    have k3 := Boxed_below k30 hb
    have k4 := Boxed_below k40 hb
    have hB := hB0.trans (hb.mono hB0.size)
    have hO := KeepsOthers_of_below hb
    have hK := keeps_two k30 k3 k40 k4
    clear hv0 hrow0 k00 k10 k30 k40 hB0 HI hb hb0
    have hc := hv.cell
    have hf := hv.frozen
    have c0 := k0.cell
    have f0 := k0.frozen
    have c1 := k1.cell
    have f1 := k1.frozen
    have HW1 := hid hw1
    rcases hform with rfl | ⟨ff, ca, rfl⟩
    all_goals
      cases hx : globbedL x.1.data.toList
      · have HH := hid (And.intro k0 (And.intro k1 (And.intro hB hO)))
        rw [hw1] at c0 f0 c1 f1 hc hf
        clear hv hrow k0 k1 k3 k4 hB hO hK hw1
        gi_wp2
        rw [← unhid HW1]
        obtain ⟨k0, k1, hB, hO⟩ := unhid HH
        exact ⟨hO.trans ((KeepsOthers.setCell _ _ _).trans (KeepsOthers.setCell _ _ _)), ⟨rfl, .inr ⟨_, by rw [valsM_snoc]; simp, hx⟩, (k0.set _).other (by omega) _, (k1.other (by omega) _).set _⟩, (hB.setCell (p := ⟨w.heap.size, 0, none⟩) (Nat.le_refl _) _).setCell (p := ⟨w.heap.size + 1, 0, none⟩) (by simp) _⟩
      · by_cases h55 : pre.length = 5
        · have h55' : ((pre.length : Int) == 5) = true := by simp [h55]
          have HH := hid (And.intro k0 (And.intro k1 (And.intro hB hO)))
          rw [hw1] at c0 f0 c1 f1 hc hf
          clear hv hrow k0 k1 k3 k4 hB hO hK hw1
          gi_wp2
          rw [← unhid HW1]
          obtain ⟨k0, k1, hB, hO⟩ := unhid HH
          exact ⟨hO.trans ((KeepsOthers.setCell _ _ _).trans (KeepsOthers.setCell _ _ _)), ⟨rfl, .inl (by simp; omega), (k0.set _).other (by omega) _, (k1.other (by omega) _).set _⟩, (hB.setCell (p := ⟨w.heap.size, 0, none⟩) (Nat.le_refl _) _).setCell (p := ⟨w.heap.size + 1, 0, none⟩) (by simp) _⟩
        · have h55' : ((pre.length : Int) == 5) = false := by rw [beq_eq_false_iff_ne]; omega
          have HH := hid (And.intro hv (And.intro hrow (And.intro k0 (And.intro k1 (And.intro k3 (And.intro k4 (And.intro hB (And.intro hO hK))))))))
          have hrow' := hid hrow
          rw [hw1] at hrow'
          have hBs := hB.size
          rw [hw1] at hc hf
          have hzw : w1.heap.size = w0.heap.size + 1 := by rw [hw1]; simp
          clear hv hrow k0 k1 k3 k4 hB hO hK c0 f0 c1 f1
          gi_wp2_with (gi_at_builtin; refine wpListIn_append_own_at _ rfl _ _ 76 rfl w.heap.size 78 i0 (.agg #[.bool false, .nilFunc]) 2 16 Tryz.underlying76 hi hz0 hz1 hz2 rfl (by decide) _ _ _ rfl ((unhid hrow').alloc _) ⟨w0.heap.size + 1, 0, none⟩ 1 1 [.bool run, _] rfl rfl (cells_two_new _ _ _ _ _ (by simp)) ?c2 ?c3 ?c4 ?c5 ?_)
          case c2 => intro u hu; simp at hu; rcases hu with rfl | rfl <;> rfl
          case c3 => unfold maxLen; omega
          case c4 => omega
          case c5 => simp; omega
          intro v' w2 hown' hgrow _ hat
          have hgrow0 := hid hgrow
          rw [← hw1] at hgrow
          obtain ⟨g', cap', rfl⟩ := ownsRow_succ hown'
          obtain ⟨nx, hnx⟩ : ∃ nx, nameW x.1 = some nx := by
            cases hq : nameW x.1 with
            | none => have := nameW_globbed x.1; rw [hq, hx] at this; cases this
            | some nx => exact ⟨nx, rfl⟩
          have hxl : xs.length = pre.length := by have := congrArg List.length (unhid HNI).1; simpa using this
          have HP := hid (((unhid HNI).2.push (by have := (unhid hrow00).1; omega) hsz5 (fun g e => ((unhid hrow00).lt g e).2) (unhid HNA).2 ((unhid HNA).1 nx hnx) (unhid hgrow0) (hat.imp id fun e => ⟨_, e, by omega⟩)).set ⟨w.heap.size + 1 + 1, 0, none⟩ (by simp) (.slice (some ⟨g', 0, none⟩) (pre.length + 1) cap'))
          have HXS := hid (show (xs ++ [nx]).map some = (pre ++ [x]).map (fun x => nameW x.1) by rw [List.map_append, List.map_append, (unhid HNI).1]; simp [hnx])
          clear hat
          obtain ⟨hv, hrow, k0, k1, k3, k4, hB, hO, hK⟩ := unhid HH
          obtain ⟨hv1, hv2, hr2, hk2, hb2⟩ := hv.appended (by decide) hrow hB.size (by omega) hown' hgrow
          have q0 := box_past k0 (by decide) hrow hgrow (show w.heap.size ≠ w.heap.size + 1 + 1 by omega) (.slice (some ⟨g', 0, none⟩) (pre.length + 1) cap')
          have q1 := box_past k1 (by decide) hrow hgrow (show w.heap.size + 1 ≠ w.heap.size + 1 + 1 by omega) (.slice (some ⟨g', 0, none⟩) (pre.length + 1) cap')
          have q3 := box_past k3 (by decide) hrow hgrow (show w.heap.size + 1 + 1 + 1 ≠ w.heap.size + 1 + 1 by omega) (.slice (some ⟨g', 0, none⟩) (pre.length + 1) cap')
          have q4 := box_past k4 (by decide) hrow hgrow (show w.heap.size + 1 + 1 + 1 + 1 ≠ w.heap.size + 1 + 1 by omega) (.slice (some ⟨g', 0, none⟩) (pre.length + 1) cap')
          have hc1 := hv1.cell
          have hf1 := hv1.frozen
          have HF := hid (show KeepsOthers W (w2.setCell ⟨w.heap.size + 1 + 1, 0, none⟩ (.slice (some ⟨g', 0, none⟩) (pre.length + 1) cap')) ∧ Keeps [w.heap.size + 1 + 1 + 1, w.heap.size + 1 + 1 + 1 + 1] W (w2.setCell ⟨w.heap.size + 1 + 1, 0, none⟩ (.slice (some ⟨g', 0, none⟩) (pre.length + 1) cap')) ∧ ((∃ cells v xs, (xs.map some = (pre ++ [x]).map (fun x => nameW x.1) ∧ NamesIn (w2.setCell ⟨w.heap.size + 1 + 1, 0, none⟩ (.slice (some ⟨g', 0, none⟩) (pre.length + 1) cap')) (w.heap.size + 5) v cells xs) ∧ Boxed (w2.setCell ⟨w.heap.size + 1 + 1, 0, none⟩ (.slice (some ⟨g', 0, none⟩) (pre.length + 1) cap')) (w.heap.size + 1 + 1) 76 v ∧ (w2.setCell ⟨w.heap.size + 1 + 1, 0, none⟩ (.slice (some ⟨g', 0, none⟩) (pre.length + 1) cap')).ownsRow w.heap.size 78 2 v (pre ++ [x]).length cells ∧ ((pre ++ [x]).length ≤ 5 ∧ ((valsM (pre ++ [x])).all globbedL) = true)) ∧ (Boxed (w2.setCell ⟨w.heap.size + 1 + 1, 0, none⟩ (.slice (some ⟨g', 0, none⟩) (pre.length + 1) cap')) (w.heap.size) 48 .nilFunc ∧ Boxed (w2.setCell ⟨w.heap.size + 1 + 1, 0, none⟩ (.slice (some ⟨g', 0, none⟩) (pre.length + 1) cap')) (w.heap.size + 1) 4 (.bool false) ∧ Boxed (w2.setCell ⟨w.heap.size + 1 + 1, 0, none⟩ (.slice (some ⟨g', 0, none⟩) (pre.length + 1) cap')) (w.heap.size + 1 + 1 + 1) 9 (.string s) ∧ Boxed (w2.setCell ⟨w.heap.size + 1 + 1, 0, none⟩ (.slice (some ⟨g', 0, none⟩) (pre.length + 1) cap')) (w.heap.size + 1 + 1 + 1 + 1) 5 (.int .u8 47))) ∧ Below w.heap.size w (w2.setCell ⟨w.heap.size + 1 + 1, 0, none⟩ (.slice (some ⟨g', 0, none⟩) (pre.length + 1) cap')) from
            ⟨hO.trans hk2, hK.t (keeps_two k3 q3 k4 q4), ⟨⟨_, _, _, ⟨unhid HXS, unhid HP⟩, hv2, by rw [List.length_append]; exact hr2, by simp; omega, by rw [valsM_snoc, List.all_append, hall]; simp [hx]⟩, q0, q1, q3, q4⟩, hB.trans hb2⟩)
          clear hv hrow k0 k1 k3 k4 hB hO hK hv1 hv2 hr2 hk2 hb2 q0 q1 q3 q4 hown' hgrow HH hrow' hw1 HW1
          gi_wp2
          exact unhid HF
  case done =>
    clear b0 b1 b2 b3 b4 hB0
    rintro D ys W hD hys ⟨⟨⟨cells, v, xs, ⟨hxs, hni⟩, hv, hrow, h5, hall⟩, k0, k1, k3, k4⟩, hB⟩ hK
    have hlen : (cutB 47 s.data.toList).length = ys.length := by rw [← hys]; simp [valsM]
    have hok : globOkB s.data.toList = true := by
      unfold globOkB
      rw [hlen, ← hys, hall, ← Lib.size_eq]; simp [h5, hs40]
    have c0 := k0.cell
    have f0 := k0.frozen
    have c1 := k1.cell
    have f1 := k1.frozen
    have hK' := ((KeepsOthers.setCell W ⟨w.heap.size, 0, none⟩ (.func (.func 39) #[] #[.pointer (some ⟨w.heap.size + 1 + 1, 0, none⟩)])).trans (KeepsOthers.setCell _ ⟨w.heap.size + 1, 0, none⟩ (.bool true))).same D _ hK rfl
    have r0 := ((k0.set (.func (.func 39) #[] #[.pointer (some ⟨w.heap.size + 1 + 1, 0, none⟩)])).other (show w.heap.size ≠ w.heap.size + 1 by omega) (.bool true))
    have r1 := ((k1.other (show w.heap.size + 1 ≠ w.heap.size by omega) (.func (.func 39) #[] #[.pointer (some ⟨w.heap.size + 1 + 1, 0, none⟩)])).set (.bool true))
    have hB2 := (hB.setCell (p := ⟨w.heap.size, 0, none⟩) (Nat.le_refl _) (.func (.func 39) #[] #[.pointer (some ⟨w.heap.size + 1 + 1, 0, none⟩)])).setCell (p := ⟨w.heap.size + 1, 0, none⟩) (by simp) (.bool true)
    have s0 := cell_kept r0.cell (grownBy_putObj' _ D (.deferred none)) (fun r e => by cases e; exact ⟨_, hK', rfl⟩)
    have s1 := cell_kept r1.cell (grownBy_putObj' _ D (.deferred none)) (fun r e => by cases e; exact ⟨_, hK', rfl⟩)
    have hfin : ∃ v xs, (((W.setCell ⟨w.heap.size, 0, none⟩ (.func (.func 39) #[] #[.pointer (some ⟨w.heap.size + 1 + 1, 0, none⟩)])).setCell ⟨w.heap.size + 1, 0, none⟩ (.bool true)).putObj D (.deferred none)).cell? ⟨w.heap.size + 1 + 1, 0, none⟩ = some v ∧ NamesP (((W.setCell ⟨w.heap.size, 0, none⟩ (.func (.func 39) #[] #[.pointer (some ⟨w.heap.size + 1 + 1, 0, none⟩)])).setCell ⟨w.heap.size + 1, 0, none⟩ (.bool true)).putObj D (.deferred none)) (fun b => w.heap.size ≤ b) v xs ∧ (cutB 47 s.data.toList).map (fun p => nameW ⟨⟨p⟩⟩) = xs.map some := by
      have hne1 : ∀ g, v.ownBlock = some g → g ≠ w.heap.size ∧ g ≠ w.heap.size + 1 := fun g e => by
        rcases hrow.2 with ⟨rfl, _⟩ | ⟨g', cap, cur, rfl, _, hgc, _⟩
        · cases e
        · cases e; exact ⟨type_neG hgc k0 (by decide), type_neG hgc k1 (by decide)⟩
      have hrow2 := ownsRow_keptG hrow (w' := (W.setCell ⟨w.heap.size, 0, none⟩ (.func (.func 39) #[] #[.pointer (some ⟨w.heap.size + 1 + 1, 0, none⟩)])).setCell ⟨w.heap.size + 1, 0, none⟩ (.bool true)) (fun g e => by
        rw [Below.heap_setCell _ _ _ _ (hne1 g e).2, Below.heap_setCell _ _ _ _ (hne1 g e).1])
      have hni2 := (hni.set ⟨w.heap.size, 0, none⟩ (by simp) (.func (.func 39) #[] #[.pointer (some ⟨w.heap.size + 1 + 1, 0, none⟩)])).set ⟨w.heap.size + 1, 0, none⟩ (by simp) (.bool true)
      have hbx := (hv.other (show w.heap.size + 1 + 1 ≠ w.heap.size by omega) (.func (.func 39) #[] #[.pointer (some ⟨w.heap.size + 1 + 1, 0, none⟩)])).other (show w.heap.size + 1 + 1 ≠ w.heap.size + 1 by omega) (.bool true)
      have hgr := grownBy_putObj' ((W.setCell ⟨w.heap.size, 0, none⟩ (.func (.func 39) #[] #[.pointer (some ⟨w.heap.size + 1 + 1, 0, none⟩)])).setCell ⟨w.heap.size + 1, 0, none⟩ (.bool true)) D (.deferred none)
      have hro : ∀ x, some D = some x → ∃ o : Obj, ((W.setCell ⟨w.heap.size, 0, none⟩ (.func (.func 39) #[] #[.pointer (some ⟨w.heap.size + 1 + 1, 0, none⟩)])).setCell ⟨w.heap.size + 1, 0, none⟩ (.bool true)).heap[x]? = some o ∧ o.isCells = false := fun x e => by cases e; exact ⟨_, hK', rfl⟩
      have hxl : xs.length = ys.length := by have := congrArg List.length hxs; simpa using this
      refine ⟨v, xs, cell_kept hbx.cell hgr hro, (hni2.own hgr hro).p (hxl ▸ ownsRow_keptG hrow2 (fun g e => ?_)) (by omega), ?_⟩
      · rcases hrow2.2 with ⟨rfl, _⟩ | ⟨g', cap, cur, rfl, _, hgc, _⟩
        · cases e
        · cases e; exact hgr.block g' (Array.getElem?_eq_some_iff.1 hgc).1 (fun e => cells_of hgc hro e.symm)
      · rw [hxs, ← hys]; simp [valsM, Function.comp_def]
    have hszD : w.heap.size + 1 + 1 < (((W.setCell ⟨w.heap.size, 0, none⟩ (.func (.func 39) #[] #[.pointer (some ⟨w.heap.size + 1 + 1, 0, none⟩)])).setCell ⟨w.heap.size + 1, 0, none⟩ (.bool true)).putObj D (.deferred none)).heap.size := by have := (grownBy_putObj' ((W.setCell ⟨w.heap.size, 0, none⟩ (.func (.func 39) #[] #[.pointer (some ⟨w.heap.size + 1 + 1, 0, none⟩)])).setCell ⟨w.heap.size + 1, 0, none⟩ (.bool true)) D (.deferred none)).size; have := hv.lt; simp at *; omega
    have HFIN := hid (And.intro hszD hfin)
    clear hszD hfin hni hxs
    have HA := hid (And.intro s0 (And.intro s1 (And.intro hB2 (And.intro hK' hok))))
    clear hv hrow k0 k1 k3 k4 hB hK' r0 r1 hB2 s0 s1 hok hlen hys
    gi_wp2
    obtain ⟨s0, s1, hB2, hK', hok⟩ := unhid HA
    refine ⟨by simp, .inl ⟨_, _, rfl, run_takeDeferred hK', ?_⟩⟩
    refine ⟨.tuple #[.func (.func 39) #[] #[.pointer (some ⟨w.heap.size + 1 + 1, 0, none⟩)], .bool true], ?_, _, by rw [hok], (fun _ => by obtain ⟨hsD, v, xs, p1, p2, p3⟩ := unhid HFIN; exact ⟨_, v, xs, rfl, hsD, p1, p2, p3⟩), (fun h => by rw [hok] at h; cases h), hB2.trans (belowK_b (w := w) (Nat.le_refl _) _ D _ _ (by simp at hD; omega) hK' rfl rfl)⟩
    simp [results, Tryz.f17, go_sem, s0, s1]
  case stop =>
    clear b0 b1 b2 b3 b4 hB0
    rintro D c pre W hD hpre ⟨⟨rfl, hbad, k0, k1⟩, hB⟩ hK
    have hno : globOkB s.data.toList = false := by
      have hl := hpre.length_le
      unfold globOkB
      rcases hbad with h | ⟨y, hy, hn⟩
      · rw [decide_eq_false (by simp [valsM] at hl; omega)]; rfl
      · rw [List.all_eq_false.2 ⟨y, hpre.subset hy, by simp [hn]⟩]; simp
    have s0 := cell_kept k0.cell (grownBy_putObj' _ D (.deferred none)) (fun r e => by cases e; exact ⟨_, hK, rfl⟩)
    have s1 := cell_kept k1.cell (grownBy_putObj' _ D (.deferred none)) (fun r e => by cases e; exact ⟨_, hK, rfl⟩)
    have Hno := hid hno
    clear hno
    gi_wp2
    refine ⟨by simp, .inl ⟨_, _, rfl, run_takeDeferred hK, ?_⟩⟩
    refine ⟨.tuple #[.nilFunc, .bool false], ?_, .nilFunc, by rw [unhid Hno], (fun h => by rw [unhid Hno] at h; cases h), (fun _ => rfl), hB.trans (belowK_b (w := w) (Nat.le_refl _) W D _ _ (by simp at hD; omega) hK rfl rfl)⟩
    simp [results, Tryz.f17, go_sem, s0, s1]
theorem globOf_any (s : ByteArray) (hs : s.size ≤ maxLen) (w : World) :
    Calls Tryz.prog 17 #[.string s] w fun e W' => ∃ fv, e = .returned (.tuple #[fv, .bool (globOkB s.data.toList)]) ∧ (globOkB s.data.toList = true → ∃ b v xs, fv = .func (.func 39) #[] #[.pointer (some ⟨b, 0, none⟩)] ∧ b < W'.heap.size ∧ W'.cell? ⟨b, 0, none⟩ = some v ∧ NamesP W' (fun b => w.heap.size ≤ b) v xs ∧ (cutB 47 s.data.toList).map (fun p => nameW ⟨⟨p⟩⟩) = xs.map some) ∧ Below w.heap.size w W' :=
  (globOf_full s hs w).mono (fun _ _ ⟨fv, h1, h2, _, h3⟩ => ⟨fv, h1, h2, h3⟩)
end Go.Proofs.YtfphpggjcljliaaGreat

/- Whether a name is one of a pattern's name, by the model: as the places tell it. -/
namespace Go.Proofs.YtfphpggjcljliaaGreat
open Go.RowKit Go.Shelf

def isNot (s : ByteArray) : Bool := decide (s.data.toList[1]? = some 33)
def inC (s : ByteArray) (c : UInt8) : Bool := ((s.data.toList.take (s.size - 1)).drop (clsFrom s.data.toList)).contains c
theorem inC_yes {s : ByteArray} {c : UInt8} (k : Nat) (h1 : clsFrom s.data.toList ≤ k) (h2 : k < s.size - 1) (h3 : s.data.toList[k]? = some c) : inC s c = true := by
  unfold inC
  rw [List.contains_iff_mem, List.mem_iff_getElem?]
  exact ⟨k - clsFrom s.data.toList, by rw [List.getElem?_drop, List.getElem?_take, show clsFrom s.data.toList + (k - clsFrom s.data.toList) = k by omega, if_pos h2, h3]⟩
theorem inC_no {s : ByteArray} {c : UInt8} (h : ∀ k, clsFrom s.data.toList ≤ k → k < s.size - 1 → s.data.toList[k]? ≠ some c) : inC s c = false := by
  unfold inC
  rw [Bool.eq_false_iff]
  intro e
  rw [List.contains_iff_mem, List.mem_iff_getElem?] at e
  obtain ⟨m, hm⟩ := e
  rw [List.getElem?_drop, List.getElem?_take] at hm
  split at hm
  · rename_i hlt; exact h _ (Nat.le_add_right _ m) hlt hm
  · cases hm

set_option maxRecDepth 100000 in
set_option maxHeartbeats 2000000 in
theorem l1Of_any (s : ByteArray) (c : UInt8) (hs : s.size ≤ 1048576) (h3 : 3 ≤ s.size) (w : World) :
    Calls Tryz.prog 95 #[.string s, .int .u8 c.toNat] w fun e w' => e = .returned (.bool (inC s c != isNot s)) ∧ w' = w := by
  have g1 : s.data.toList[1]? = some s[1] := get_some (by omega)
  by_cases e1 : s[1] = 33
  · have b1 : (((s[1]).toNat : Int) == 33) = true := by rw [e1]; rfl
    have hd := hid (show isNot s = true by unfold isNot; rw [g1, e1]; rfl)
    have hf := hid (show clsFrom s.data.toList = 2 by unfold clsFrom; rw [g1, e1]; rfl)
    clear g1 e1
    go_enter Tryz.func95, Tryz.ntmps95
    go_wp2_with fail
    go_loop [6] (fun i => ∃ k : Nat, 1 ≤ k ∧ k ≤ s.size - 1 ∧ i = .int .i64 k ∧ Hid (∀ j, clsFrom s.data.toList ≤ j → j < k → s.data.toList[j]? ≠ some c)) (fun i => s.size - (intOf i).toNat)
    case atStart => exact ⟨1, by omega, by omega, rfl, hid (fun j a b => by rw [unhid hf] at a; omega)⟩
    case round =>
      obtain ⟨k, hk1, hk, rfl, hno⟩ := hrel
      by_cases hlt : k < s.size - 1
      · have hlt' : (k : Int) < (s.size : Int) - 1 := by omega
        have hks : k < s.size := by omega
        by_cases e2 : s[k] = c
        · have b2 : (((s[k]).toNat : Int) == (c.toNat : Int)) = true := by rw [e2]; simp
          by_cases hk2 : 1 < k
          · have E := hid (show inC s c = true from inC_yes k (by rw [unhid hf]; omega) hlt (by rw [get_some hks, e2]))
            clear e2
            go_wp2_with fail
            go_ret
            exact ⟨by rw [unhid E, unhid hd]; rfl, rfl⟩
          · have hk0 : k = 1 := by omega
            subst hk0
            clear e2
            go_wp2_with fail
            go_round
            case rel => exact ⟨2, by omega, by omega, rfl, hid (fun j a b => by rw [unhid hf] at a; omega)⟩
            case measure => simp [intOf]; omega
        · have b2 : (((s[k]).toNat : Int) == (c.toNat : Int)) = false := eq_no rfl e2
          have hno2 := hid (show ∀ j, clsFrom s.data.toList ≤ j → j < k + 1 → s.data.toList[j]? ≠ some c from fun j a b => by
            by_cases e : j = k
            · subst e; rw [get_some hks]; simpa using e2
            · exact unhid hno j a (by omega))
          clear e2
          go_wp2_with fail
          go_round
          case rel => exact ⟨k + 1, by omega, by omega, by go_num, hno2⟩
          case measure => simp [intOf]; omega
      · have E := hid (show inC s c = false from inC_no (fun j a b => unhid hno j a (by omega)))
        have hlt' : ¬ (k : Int) < (s.size : Int) - 1 := by omega
        go_wp2_with fail
        go_ret
        exact ⟨by rw [unhid E, unhid hd]; rfl, rfl⟩
  · have b1 := eq_no (n := 33) rfl e1
    have hd := hid (show isNot s = false by unfold isNot; rw [g1]; simpa using e1)
    have hf := hid (show clsFrom s.data.toList = 1 by unfold clsFrom; rw [g1, if_neg (by simpa using e1)])
    clear g1 e1
    go_enter Tryz.func95, Tryz.ntmps95
    go_wp2_with fail
    go_loop [6] (fun i => ∃ k : Nat, 1 ≤ k ∧ k ≤ s.size - 1 ∧ i = .int .i64 k ∧ Hid (∀ j, clsFrom s.data.toList ≤ j → j < k → s.data.toList[j]? ≠ some c)) (fun i => s.size - (intOf i).toNat)
    case atStart => exact ⟨1, by omega, by omega, rfl, hid (fun j a b => by rw [unhid hf] at a; omega)⟩
    case round =>
      obtain ⟨k, hk1, hk, rfl, hno⟩ := hrel
      by_cases hlt : k < s.size - 1
      · have hlt' : (k : Int) < (s.size : Int) - 1 := by omega
        have hks : k < s.size := by omega
        by_cases e2 : s[k] = c
        · have b2 : (((s[k]).toNat : Int) == (c.toNat : Int)) = true := by rw [e2]; simp
          have E := hid (show inC s c = true from inC_yes k (by rw [unhid hf]; omega) hlt (by rw [get_some hks, e2]))
          clear e2
          by_cases hk2 : (1 : Int) < k
          all_goals
            go_wp2_with fail
            go_ret
            exact ⟨by rw [unhid E, unhid hd]; rfl, rfl⟩
        · have b2 : (((s[k]).toNat : Int) == (c.toNat : Int)) = false := eq_no rfl e2
          have hno2 := hid (show ∀ j, clsFrom s.data.toList ≤ j → j < k + 1 → s.data.toList[j]? ≠ some c from fun j a b => by
            by_cases e : j = k
            · subst e; rw [get_some hks]; simpa using e2
            · exact unhid hno j a (by omega))
          clear e2
          go_wp2_with fail
          go_round
          case rel => exact ⟨k + 1, by omega, by omega, by go_num, hno2⟩
          case measure => simp [intOf]; omega
      · have E := hid (show inC s c = false from inC_no (fun j a b => unhid hno j a (by omega)))
        have hlt' : ¬ (k : Int) < (s.size : Int) - 1 := by omega
        go_wp2_with fail
        go_ret
        exact ⟨by rw [unhid E, unhid hd]; rfl, rfl⟩

theorem class_takes {g : ByteArray} {x : W8} {n : Nat} (h0 : g.data.toList[0]? = some 91) (h : classR g = some (x, n)) (c : UInt8) : (inC (g.extract 0 n) c != isNot (g.extract 0 n)) = takesB x c ∧ 3 ≤ (g.extract 0 n).size ∧ n ≤ g.size := by
  obtain ⟨i, hi, hf, h93, hall⟩ := class_of h0 h
  have hs := class_some h0 hf h93 hall
  rw [hs] at h
  cases h
  have hil : i < g.data.toList.length := (List.getElem?_eq_some_iff.1 h93).1
  have h1i : 1 < i := by unfold clsFrom at hf; split at hf <;> omega
  have hz : (g.extract 0 (i + 1)).size = i + 1 := by rw [ByteArray.size_extract, Lib.size_eq]; omega
  have hd : (g.extract 0 (i + 1)).data.toList = g.data.toList.take (i + 1) := by rw [Lib.extract_data]; simp
  have h1 : (g.extract 0 (i + 1)).data.toList[1]? = g.data.toList[1]? := by rw [hd, List.getElem?_take, if_pos (by omega)]
  have hn : isNot (g.extract 0 (i + 1)) = hasA (g.extract 1 i) bang := by rw [mid_bang h1i]; unfold isNot; rw [h1]
  have hc : clsFrom (g.extract 0 (i + 1)).data.toList = clsFrom g.data.toList := by unfold clsFrom; rw [h1]
  refine ⟨?_, by rw [hz]; omega, by rw [Lib.size_eq]; omega⟩
  rw [hn]
  show _ = ((clsA g i).data.toList.contains c != hasA (g.extract 1 i) bang)
  rw [cls_data h1i]
  unfold inC
  rw [hc, hz, hd, List.take_take]
  simp
theorem wants_cons {g : ByteArray} {xs : List W8} (h0 : 0 < g.size) (h : wants g = some xs) : ∃ x n ys, firstR g g[0] = some (x, n) ∧ wants (g.extract n g.size) = some ys ∧ xs = x :: ys := by
  cases hf : firstR g g[0] with
  | none => rw [wants_none h0 hf] at h; cases h
  | some p =>
    obtain ⟨x, n⟩ := p
    rw [wants_some h0 hf] at h
    cases hw : wants (g.extract n g.size) with
    | none => rw [hw] at h; cases h
    | some ys => rw [hw] at h; cases h; exact ⟨x, n, ys, rfl, hw, rfl⟩
theorem empty_false {s : ByteArray} (h : 0 < s.size) : s.toList.isEmpty = false := by
  rw [Lib.toList_data, List.isEmpty_eq_false_iff, ← List.length_pos_iff, ← Lib.size_eq]; exact h
theorem empty_true {s : ByteArray} (h : s.size = 0) : s.toList.isEmpty = true := by
  rw [Lib.toList_data, List.isEmpty_iff, ← List.length_eq_zero_iff, ← Lib.size_eq]; exact h
theorem head_tail {s : ByteArray} (h : 0 < s.size) : s.data.toList = s[0] :: (s.extract 1 s.size).data.toList := by
  rw [tail_data]
  have := get_some h
  cases hl : s.data.toList with
  | nil => rw [hl] at this; cases this
  | cons c t => rw [hl] at this; simp at this; subst this; rfl
def fitB (xs : List W8) (s : ByteArray) : Bool := matchO (xs.map opt8) s.data.toList
theorem fit_nil (s : ByteArray) : fitB [] s = s.toList.isEmpty := by rw [Lib.toList_data]; rfl
theorem fit_star_nil {xs : List W8} {s : ByteArray} (h : s.size = 0) : fitB (.star :: xs) s = fitB xs s := by
  have : s.data.toList = [] := by rw [← List.length_eq_zero_iff, ← Lib.size_eq]; exact h
  unfold fitB; rw [this]; rfl
theorem fit_star {xs : List W8} {s : ByteArray} (h : 0 < s.size) : fitB (.star :: xs) s = (fitB xs s || fitB (.star :: xs) (s.extract 1 s.size)) := by
  unfold fitB; rw [head_tail h]; rfl
theorem fit_no {x : W8} {xs : List W8} {s : ByteArray} (hx : x ≠ .star) (h : s.size = 0) : fitB (x :: xs) s = false := by
  have : s.data.toList = [] := by rw [← List.length_eq_zero_iff, ← Lib.size_eq]; exact h
  unfold fitB; rw [this]
  cases x <;> first | exact absurd rfl hx | rfl
theorem fit_one {x : W8} {xs : List W8} {s : ByteArray} (hx : x ≠ .star) (h : 0 < s.size) : fitB (x :: xs) s = (takesB x s[0] && fitB xs (s.extract 1 s.size)) := by
  unfold fitB; rw [head_tail h]
  cases x <;> first | exact absurd rfl hx | rfl

set_option maxRecDepth 100000 in
set_option maxHeartbeats 4000000 in
theorem l1Fits_any (m : Nat) : ∀ (g s : ByteArray) (xs : List W8) (w : World), g.size + s.size ≤ m → g.size ≤ 1048576 → s.size ≤ 1048576 → wants g = some xs →
    Calls Tryz.prog 75 #[.string g, .string s] w fun e w' => e = .returned (.bool (fitB xs s)) ∧ ∃ n, w' = w.drewN n := by
  induction m with
  | zero =>
    intro g s xs w hm hg hs hw
    have hg0 : g.size = 0 := by omega
    rw [wants_nil hg0] at hw
    cases hw
    have he := empty_true hg0
    have E := hid (fit_nil s)
    go_enter Tryz.func75, Tryz.ntmps75
    go_wp2_with fail
    go_ret
    exact ⟨by rw [unhid E]; rfl, 0, rfl⟩
  | succ m ih =>
    intro g s xs w hm hg hs hw
    have IH := hid ih
    clear ih
    by_cases hg0 : g.size = 0
    · rw [wants_nil hg0] at hw
      cases hw
      have he := empty_true hg0
      have E := hid (fit_nil s)
      go_enter Tryz.func75, Tryz.ntmps75
      go_wp2_with fail
      go_ret
      exact ⟨by rw [unhid E]; rfl, 0, rfl⟩
    have hgp : 0 < g.size := by omega
    have he := empty_false hgp
    obtain ⟨x, n, ys, hf, hy, rfl⟩ := wants_cons hgp hw
    have hn := firstR_le hgp hf
    have hnd := hid hf
    have HY := hid hy
    have hz : (g.extract n g.size).size = g.size - n := tail_size g n
    clear hf hy hw
    by_cases e1 : g[0] = 42
    · have b1 : (((g[0]).toNat : Int) == 42) = true := by rw [e1]; rfl
      have hx : x = .star ∧ n = 1 := by have := unhid hnd; rw [e1] at this; cases this; exact ⟨rfl, rfl⟩
      obtain ⟨rfl, rfl⟩ := hx
      clear e1
      have hg1 : (1 : Int) ≤ g.size := by omega
      cases h1 : fitB ys s
      · by_cases hs0 : s.size = 0
        · have hes := empty_true hs0
          have E := hid (fit_star_nil (xs := ys) hs0)
          go_enter Tryz.func75, Tryz.ntmps75
          go_wp2_with (go_at_call 75; refine (unhid IH _ _ _ _ (by rw [hz]; omega) (by rw [hz]; omega) hs (unhid HY)).mono ?_; rintro e w' ⟨rfl, nq, rfl⟩; rw [h1])
          go_ret
          exact ⟨by rw [unhid E, h1]; rfl, _, rfl⟩
        · have hsp : 0 < s.size := by omega
          have hes := empty_false hsp
          have hs1 : (1 : Int) ≤ s.size := by omega
          have hzs : (s.extract 1 s.size).size = s.size - 1 := tail_size s 1
          have E := hid (fit_star (xs := ys) hsp)
          have Hw := hid (show wants g = some (.star :: ys) by rw [wants_some hgp (unhid hnd), unhid HY]; rfl)
          go_enter Tryz.func75, Tryz.ntmps75
          go_wp2_with fail
          refine (unhid IH _ _ _ _ (by rw [hz]; omega) (by rw [hz]; omega) hs (unhid HY)).mono ?_
          rintro e w' ⟨rfl, nq, rfl⟩
          rw [h1]
          go_wp2_with fail
          refine (unhid IH _ _ _ _ (by rw [hzs]; omega) hg (by rw [hzs]; omega) (unhid Hw)).mono ?_
          rintro e w' ⟨rfl, nq2, rfl⟩
          go_wp2_with fail
          go_ret
          exact ⟨by rw [unhid E, h1]; rfl, nq + nq2, rfl⟩
      · have E := hid (show fitB (.star :: ys) s = true by
          by_cases hs0 : s.size = 0
          · rw [fit_star_nil hs0, h1]
          · rw [fit_star (by omega), h1]; rfl)
        go_enter Tryz.func75, Tryz.ntmps75
        go_wp2_with (go_at_call 75; refine (unhid IH _ _ _ _ (by rw [hz]; omega) (by rw [hz]; omega) hs (unhid HY)).mono ?_; rintro e w' ⟨rfl, nq, rfl⟩; rw [h1])
        go_ret
        exact ⟨by rw [unhid E]; rfl, _, rfl⟩
    have b1 := eq_no (n := 42) rfl e1
    have hx : x ≠ .star := by
      intro e
      have := unhid hnd
      subst e
      unfold firstR at this
      rw [if_neg e1] at this
      split at this
      · cases this
      · split at this
        · obtain ⟨i, _, hf, h93, hall⟩ := class_of (by rw [get_some hgp]; simp_all) this
          rw [class_some (by rw [get_some hgp]; simp_all) hf h93 hall] at this
          cases this
        · split at this <;> cases this
    by_cases hs0 : s.size = 0
    · have hes := empty_true hs0
      have E := hid (fit_no (xs := ys) hx hs0)
      clear e1 hx
      go_enter Tryz.func75, Tryz.ntmps75
      go_wp2_with fail
      go_ret
      exact ⟨by rw [unhid E]; rfl, 0, rfl⟩
    have hsp : 0 < s.size := by omega
    have hes := empty_false hsp
    have hs1 : (1 : Int) ≤ s.size := by omega
    have hg1 : (1 : Int) ≤ g.size := by omega
    have hzs : (s.extract 1 s.size).size = s.size - 1 := tail_size s 1
    have E := hid (fit_one (xs := ys) hx hsp)
    clear hx
    by_cases e2 : g[0] = 63
    · have b2 : (((g[0]).toNat : Int) == 63) = true := by rw [e2]; rfl
      have hx : x = .any ∧ n = 1 := by have := unhid hnd; rw [e2] at this; cases this; exact ⟨rfl, rfl⟩
      obtain ⟨rfl, rfl⟩ := hx
      clear e1 e2
      go_enter Tryz.func75, Tryz.ntmps75
      go_wp2_with fail
      go_quiet ((go_at_call 75; exact Calls.quiet_of (unhid IH _ _ _ _ (by rw [hz, hzs]; omega) (by rw [hz]; omega) (by rw [hzs]; omega) (unhid HY))))
      go_wp2_with fail
      go_ret
      exact ⟨by rw [unhid E]; rfl, _, rfl⟩
    have b2 := eq_no (n := 63) rfl e2
    by_cases e3 : g[0] = 91
    · have b3 : (((g[0]).toNat : Int) == 91) = true := by rw [e3]; rfl
      have h91 : g.data.toList[0]? = some 91 := by rw [get_some hgp, e3]
      have hcl : classR g = some (x, n) := by have := unhid hnd; unfold firstR at this; rw [if_neg e1, if_neg e2, if_pos e3] at this; exact this
      obtain ⟨t1, t2, t3⟩ := class_takes h91 hcl s[0]
      have T1 := hid t1
      have hcn : classN g = n := by unfold classN; rw [hcl]
      have HCN := hid hcn
      have hni : (n : Int) ≤ g.size := by omega
      have hn0 : (0 : Int) ≤ n := by omega
      clear e1 e2 e3 t1 hcl hcn
      cases ht : takesB x s[0]
      · go_enter Tryz.func75, Tryz.ntmps75
        go_wp2_with fail
        refine (l1Class_any g hg h91 _).mono ?_
        rintro e w' ⟨rfl, rfl⟩
        rw [unhid HCN]
        go_wp2_with fail
        go_quiet ((go_at_call 95; refine Calls.quiet_of_same (v := .bool false) ((l1Of_any _ _ (by rw [ByteArray.size_extract]; omega) t2 _).mono ?_); rintro e w' ⟨rfl, rfl⟩; exact ⟨by rw [unhid T1, ht], rfl⟩))
        go_wp2_with fail
        go_ret
        exact ⟨by rw [unhid E, ht]; rfl, _, rfl⟩
      · go_enter Tryz.func75, Tryz.ntmps75
        go_wp2_with fail
        refine (l1Class_any g hg h91 _).mono ?_
        rintro e w' ⟨rfl, rfl⟩
        rw [unhid HCN]
        go_wp2_with fail
        go_quiet (first | (go_at_call 95; refine Calls.quiet_of_same (v := .bool true) ((l1Of_any _ _ (by rw [ByteArray.size_extract]; omega) t2 _).mono ?_); rintro e w' ⟨rfl, rfl⟩; exact ⟨by rw [unhid T1, ht], rfl⟩) | (go_at_call 75; exact Calls.quiet_of (unhid IH _ _ _ _ (by rw [hz, hzs]; omega) (by rw [hz]; omega) (by rw [hzs]; omega) (unhid HY))))
        go_wp2_with fail
        go_ret
        exact ⟨by rw [unhid E, ht]; rfl, _, rfl⟩
    have b3 := eq_no (n := 91) rfl e3
    have hx : x = .byte g[0] ∧ n = 1 := by
      have := unhid hnd
      unfold firstR at this
      rw [if_neg e1, if_neg e2, if_neg e3] at this
      split at this
      · cases this; exact ⟨rfl, rfl⟩
      · cases this
    obtain ⟨rfl, rfl⟩ := hx
    by_cases e4 : s[0] = g[0]
    · have b4 : (((g[0]).toNat : Int) == ((s[0]).toNat : Int)) = true := by rw [e4]; simp
      have ht := hid (show takesB (.byte g[0]) s[0] = true by rw [e4]; simp [takesB])
      clear e1 e2 e3 e4
      go_enter Tryz.func75, Tryz.ntmps75
      go_wp2_with fail
      go_quiet ((go_at_call 75; exact Calls.quiet_of (unhid IH _ _ _ _ (by rw [hz, hzs]; omega) (by rw [hz]; omega) (by rw [hzs]; omega) (unhid HY))))
      go_wp2_with fail
      go_ret
      exact ⟨by rw [unhid E, unhid ht]; rfl, _, rfl⟩
    · have b4 : (((g[0]).toNat : Int) == ((s[0]).toNat : Int)) = false := eq_no rfl (fun e => e4 e.symm)
      have ht := hid (show takesB (.byte g[0]) s[0] = false by simpa [takesB] using e4)
      clear e1 e2 e3 e4
      go_enter Tryz.func75, Tryz.ntmps75
      go_wp2_with fail
      go_quiet (fail)
      go_wp2_with fail
      go_ret
      exact ⟨by rw [unhid E, unhid ht]; rfl, _, rfl⟩
end Go.Proofs.YtfphpggjcljliaaGreat
