/- A hunk that makes lines of others, by the program. -/
import Derived.Test.YtedimkcnemhhpaaTxtCat
namespace Go.Proofs.Ytedimkcnemhhpaa
open Go.RowKit Go.Shelf

def dTail (a b : List ByteArray) : Nat := behindN (a.drop (aheadN a b)) (b.drop (aheadN a b))
def dFirst (a b : List ByteArray) : Nat := aheadN a b - min (aheadN a b) 2
def dLast (a b : List ByteArray) : Nat := a.length - dTail a b + min (dTail a b) 2
def dLines (a b : List ByteArray) : List ByteArray :=
  signX 32 ((a.drop (dFirst a b)).take (aheadN a b - dFirst a b)) ++ (signX 45 ((a.drop (aheadN a b)).take (a.length - dTail a b - aheadN a b)) ++
    (signX 43 ((b.drop (aheadN a b)).take (b.length - dTail a b - aheadN a b)) ++ signX 32 ((a.drop (a.length - dTail a b)).take (dLast a b - (a.length - dTail a b)))))
def dHunk (a b : List ByteArray) : Hk := ⟨(dFirst a b : Int) + 1, dLines a b⟩
def diffB (a b : List ByteArray) : Bool := textB a && (textB b && (!decide (a = b) && hunksB [dHunk a b]))
def diffL (a b : List ByteArray) : List Hk := if diffB a b then [dHunk a b] else []
theorem ahead_le (a b : List ByteArray) : aheadN a b ≤ a.length ∧ aheadN a b ≤ b.length := by
  have := runP_le (p := sameA a b) (min a.length b.length) 0
  unfold aheadN; omega
theorem tail_le (a b : List ByteArray) : dTail a b ≤ a.length - aheadN a b ∧ dTail a b ≤ b.length - aheadN a b := by
  have := runP_le (p := sameZ (a.drop (aheadN a b)) (b.drop (aheadN a b))) (min (a.drop (aheadN a b)).length (b.drop (aheadN a b)).length) 0
  unfold dTail behindN
  simp only [List.length_drop] at *; omega
theorem textB_parts {xs : List ByteArray} (h : textB xs = true) : xs.length ≤ 30 ∧ ∀ x ∈ xs, x.size ≤ 80 := by
  unfold textB at h
  simp only [Bool.and_eq_true, decide_eq_true_eq, List.all_eq_true] at h
  refine ⟨by omega, fun x hx => ?_⟩
  have := h.2 x hx
  unfold lineB at this
  simp only [Bool.and_eq_true, decide_eq_true_eq] at this
  rw [Lib.size_eq]; exact this.1
theorem part_len (xs : List ByteArray) (l m : Nat) (h : l + m ≤ xs.length) : ((xs.drop l).take m).length = m := by rw [List.length_take, List.length_drop]; omega
theorem part_mem {xs : List ByteArray} {l m : Nat} {x : ByteArray} (h : x ∈ (xs.drop l).take m) : x ∈ xs := List.mem_of_mem_drop (List.mem_of_mem_take h)

/-- Hunks in a row of their own, and their lines. -/
def OneHk (W : World) (N : Nat) (v : Value) (h : Hk) : Prop := ∃ g lv, v = .slice (some ⟨g, 0, none⟩) 1 1 ∧ N ≤ g ∧ W.heap[g]? = some (.cells #[.int .i64 h.at_, lv] 46 (0, 0)) ∧ W.ownsRow N 9 1 lv h.lines.length (h.lines.map Value.string) ∧ lv.ownBlock ≠ some g
def HksOwn (W : World) (N : Nat) (v : Value) : List Hk → Prop
  | [] => v = .slice none 0 0 ∨ ∃ g, v = .slice (some ⟨g, 0, none⟩) 0 0 ∧ N ≤ g ∧ W.heap[g]? = some (.cells #[] 46 (0, 0))
  | [h] => OneHk W N v h
  | _ => False

theorem signX_mem {c : UInt8} {xs : List ByteArray} {x : ByteArray} (h : x ∈ signX c xs) : ∃ y ∈ xs, x.size = y.size + 1 := by
  obtain ⟨y, hy, rfl⟩ := List.mem_map.1 h
  exact ⟨y, hy, by rw [ByteArray.size_append]; show 1 + y.size = _; omega⟩
theorem dLines_small {xs ys : List ByteArray} (hx : textB xs = true) (hy : textB ys = true) : (dLines xs ys).length ≤ 120 ∧ ∀ x ∈ dLines xs ys, 0 < x.size ∧ x.size ≤ 81 := by
  obtain ⟨a1, a2⟩ := textB_parts hx
  obtain ⟨b1, b2⟩ := textB_parts hy
  refine ⟨?_, fun x h => ?_⟩
  · unfold dLines
    simp only [List.length_append, signX_len, List.length_take, List.length_drop]
    omega
  · unfold dLines at h
    simp only [List.mem_append] at h
    rcases h with h | h | h | h
    all_goals
      obtain ⟨y, hy, e⟩ := signX_mem h
      first | (have := a2 y (part_mem hy); omega) | (have := b2 y (part_mem hy); omega)
theorem owns_belowX {W W' : World} {N n size : Nat} {v : Value} {e : TypeId} {xs : List Value} (h : W.ownsRow N e size v n xs) (hb : Below W.heap.size W W') : W'.ownsRow N e size v n xs := by
  refine ⟨h.1, h.2.imp id (fun ⟨g, cap, cur, a, b, c, d⟩ => ⟨g, cap, cur, a, b, (hb.block g (Array.getElem?_eq_some_iff.1 c).1).trans c, d⟩)⟩
theorem cell_in {W : World} {g T : Nat} {vs : Array Value} {fz : Nat × Nat} (hh : W.heap[g]? = some (.cells vs T fz)) (i : Nat) (v : Value) (hv : vs[i]? = some v) : W.cell? ⟨g, i, none⟩ = some v := by simp [World.cell?, hh, hv]
theorem owns_slc {W : World} {N : Nat} {v : Value} {xs : List ByteArray} (h : W.ownsRow N 9 1 v xs.length (xs.map Value.string)) : ∃ s : Slc, s.xs = xs ∧ v = s.val ∧ s.Ok W := by
  rcases h.2 with ⟨hv, h0⟩ | ⟨g, cap, cur, hv, _⟩
  · obtain rfl := List.length_eq_zero_iff.1 h0
    exact ⟨⟨none, 0, []⟩, rfl, hv, .inl rfl, fun _ => rfl⟩
  · obtain ⟨_, a, c, hv2, ht, _⟩ := txts_owns h
    rw [hv] at hv2
    injection hv2 with e1 e2 e3
    subst e1
    exact ⟨⟨some ⟨g, 0, none⟩, cap, xs⟩, rfl, by rw [hv]; rfl, ht, fun e => by cases e⟩
theorem hunksB_one {h : Hk} (hb : hunksB [h] = true) : hkB h = true ∧ 1 ≤ h.at_ := by
  unfold hunksB at hb
  simp only [List.length_cons, List.length_nil, Nat.zero_add, List.range_succ, List.range_zero, List.nil_append, List.all_cons, List.all_nil, Bool.and_true, Bool.and_eq_true] at hb
  have := hb.1
  unfold okAt at this
  simp only [Bool.and_eq_true, decide_eq_true_eq] at this
  exact ⟨this.1, this.2⟩

set_option maxRecDepth 100000 in
set_option maxHeartbeats 4000000 in
theorem DiffOf_any (xs ys : List ByteArray) (a b : Option Addr) (cap cap2 : Nat) (w : World) (hx : xs.length ≤ maxLen) (hy : ys.length ≤ maxLen) (hz : bigX xs) (hz2 : bigX ys) (hc : xs.length ≤ cap) (hc2 : ys.length ≤ cap2) (h : TxtsAt w a xs) (h2 : TxtsAt w b ys) :
    Calls Try.prog 23 #[.slice a xs.length cap, .slice b ys.length cap2] w fun r w' => ∃ v, r = .returned v ∧ HksOwn w' w.heap.size v (diffL xs ys) ∧ Below w.heap.size w w' := by
  have HA := hid h
  have HB := hid h2
  have HX := hid hx
  have HY := hid hy
  have HZ := hid hz
  have HZ2 := hid hz2
  have TA := hid (textLinesOk_any xs a cap w hz hx h)
  clear h h2 hz hz2 hx hy
  have HD : Hid (diffB xs ys = (textB xs && (textB ys && (!decide (xs = ys) && hunksB [dHunk xs ys])))) := hid rfl
  go_enter Try.func23, Try.ntmps23
  go_wp2_with fail
  refine (unhid TA).mono ?_
  rintro r w1 ⟨rfl, hb⟩
  have HB1 := hid hb
  have HA1 := hid ((unhid HA).below hb)
  have HBB1 := hid ((unhid HB).below hb)
  clear hb TA
  cases ta : textB xs
  · have E := hid (show diffL xs ys = [] by unfold diffL; rw [unhid HD, ta]; rfl)
    clear ta HD
    go_wp2_with fail
    go_ret
    exact ⟨_, rfl, by rw [unhid E]; exact .inl rfl, unhid HB1⟩
  have TAA := hid ta
  have la := (textB_parts ta).1
  go_wp2_with fail
  refine (textLinesOk_any ys b cap2 w1 (unhid HZ2) (unhid HY) (unhid HBB1)).mono ?_
  rintro r w2 ⟨rfl, hb⟩
  have HB2 := hid ((unhid HB1).trans (hb.mono (unhid HB1).size))
  clear hb HA1 HBB1 HB1
  have HA2 := hid ((unhid HA).below (unhid HB2))
  have HBB2 := hid ((unhid HB).below (unhid HB2))
  cases tb : textB ys
  · have E := hid (show diffL xs ys = [] by unfold diffL; rw [unhid HD, tb, Bool.false_and, Bool.and_false]; rfl)
    clear ta tb HD
    go_wp2_with fail
    go_ret
    exact ⟨_, rfl, by rw [unhid E]; exact .inl rfl, unhid HB2⟩
  have TBB := hid tb
  have lb := (textB_parts tb).1
  clear ta
  go_wp2_with fail
  refine (slicesEqual_any xs ys a b cap cap2 w2 (unhid HX) (unhid HY) (unhid HA2) (unhid HBB2)).mono ?_
  rintro r w3 ⟨rfl, hb⟩
  have HB3 := hid ((unhid HB2).trans (hb.mono (unhid HB2).size))
  clear hb HA2 HBB2 HB2
  have HA3 := hid ((unhid HA).below (unhid HB3))
  have HBB3 := hid ((unhid HB).below (unhid HB3))
  cases te : decide (xs = ys)
  case true =>
    have E := hid (show diffL xs ys = [] by unfold diffL; rw [unhid HD, te, Bool.not_true, Bool.false_and, Bool.and_false, Bool.and_false]; rfl)
    clear te tb HD
    go_wp2_with fail
    go_ret
    exact ⟨_, rfl, by rw [unhid E]; exact .inl rfl, unhid HB3⟩
  have HD2 := hid (show diffB xs ys = hunksB [dHunk xs ys] by rw [unhid HD, unhid TAA, unhid TBB, te]; rfl)
  clear te tb HD
  go_wp2_with fail
  refine (sameAhead_any xs ys a b cap cap2 w3 (by omega) (by omega) (unhid HA3) (unhid HBB3)).mono ?_
  rintro r w4 ⟨rfl, hb⟩
  have HB4 := hid ((unhid HB3).trans (hb.mono (unhid HB3).size))
  clear hb HA3 HBB3 HB3
  have HA4 := hid ((unhid HA).below (unhid HB4))
  have HBB4 := hid ((unhid HB).below (unhid HB4))
  obtain ⟨l1, l2⟩ := ahead_le xs ys
  obtain ⟨l3, l4⟩ := tail_le xs ys
  have s1 := fun w => sub_l a xs.length cap (aheadN xs ys) l1 w
  have s2 := fun w => sub_l b ys.length cap2 (aheadN xs ys) l2 w
  have HE := hid (show dTail xs ys = behindN (xs.drop (aheadN xs ys)) (ys.drop (aheadN xs ys)) from rfl)
  have HFF0 := hid (show (dFirst xs ys : Int) + 1 = ((dHunk xs ys).at_) from rfl)
  have HF1 := hid (show dFirst xs ys = aheadN xs ys - min (aheadN xs ys) 2 from rfl)
  have HF2 := hid (show dLast xs ys = xs.length - dTail xs ys + min (dTail xs ys) 2 from rfl)
  have HL := hid (show dLines xs ys = signX 32 ((xs.drop (dFirst xs ys)).take (aheadN xs ys - dFirst xs ys)) ++ (signX 45 ((xs.drop (aheadN xs ys)).take (xs.length - dTail xs ys - aheadN xs ys)) ++
    (signX 43 ((ys.drop (aheadN xs ys)).take (ys.length - dTail xs ys - aheadN xs ys)) ++ signX 32 ((xs.drop (xs.length - dTail xs ys)).take (dLast xs ys - (xs.length - dTail xs ys))))) from rfl)
  generalize dFirst xs ys = f at *
  generalize dLast xs ys = l at *
  generalize dTail xs ys = t at *
  generalize aheadN xs ys = h at *
  go_wp2_with fail
  refine held_begin (fun w' => Below w4.heap.size w4 w') (by kernel_rfl) (drew_belowX _) ?_
  have hba : ∀ {q : Prop}, (CW (fun w' => Below w4.heap.size w4 w') → q) ↔ q := CW.all (Below.refl _ w4)
  refine held_take [true, true, true, true, true, true] (by kernel_rfl) (by kernel_rfl) (fun _ _ _ _ _ h => h) (drew_belowX _) ?_
  dsimp only [pick]
  repeat (go_big_quiet_step (fail))
  refine wpQuiet_nil ?_
  intro x1
  refine held_call 6 56 32 (enters_of Try.func56 (by kernel_rfl) rfl) #[.slice (subA a cap h) (xs.length - h) (cap - h), .slice (subA b cap2 h) (ys.length - h) (cap2 - h)] (by kernel_rfl) (by kernel_rfl) rfl rfl rfl rfl rfl ?_
  have SB := sameBehind_any (xs.drop h) (ys.drop h) (subA a cap h) (subA b cap2 h) (cap - h) (cap2 - h) x1.w (by rw [List.length_drop]; omega) (by rw [List.length_drop]; omega) (((unhid HA4).rest hc h).below x1.h) (((unhid HBB4).rest hc2 h).below x1.h)
  rw [List.length_drop, List.length_drop, ← unhid HE] at SB
  refine SB.mono ?_
  rintro r w5 ⟨rfl, hb⟩
  refine ⟨_, rfl, x1.h.trans (hb.mono x1.h.size), ?_⟩
  have HB5 := hid ((unhid HB4).trans ((x1.h.trans (hb.mono x1.h.size)).mono (unhid HB4).size))
  clear SB
  simp only [Act.put, List.setIfInBounds_toArray, List.set_cons_zero, List.set_cons_succ]
  refine held_take [false, false, false, false, false, false, false, true] (by kernel_rfl) (by kernel_rfl) (fun _ _ _ _ _ h => h) (x1.h.trans (hb.mono x1.h.size)) ?_
  dsimp only [pick]
  repeat (go_big_quiet_step (fail))
  refine wpQuiet_nil ?_
  intro x2
  refine held_done (by kernel_rfl) ?_
  have HB5 := hid ((unhid HB4).trans (x2.h.mono (unhid HB4).size))
  generalize x2.w = w6 at HB5 ⊢
  clear hba hb x1 x2 HA4 HBB4 HB4
  have HA6 := hid ((unhid HA).below (unhid HB5))
  have HBB6 := hid ((unhid HB).below (unhid HB5))
  have hmin1 : ∀ w ts t, (Builtin.min_ ts t #[.int .i64 (h : Int), .int .i64 2]).run Try.prog w = .ok (.int .i64 ((min h 2 : Nat) : Int)) w := fun w ts t => by
    rw [run_min_int2]; congr 2; omega
  have hmin2 : ∀ w ts tt, (Builtin.min_ ts tt #[.int .i64 (t : Int), .int .i64 2]).run Try.prog w = .ok (.int .i64 ((min t 2 : Nat) : Int)) w := fun w ts tt => by
    rw [run_min_int2]; congr 2; omega
  go_wp2_with fail
  have e1 : (h : Int) - ((min h 2 : Nat) : Int) = (f : Int) := by have := unhid HF1; omega
  have e2 : (xs.length : Int) - (t : Int) + ((min t 2 : Nat) : Int) = (l : Int) := by have := unhid HF2; omega
  have e3 : (xs.length : Int) - (t : Int) = ((xs.length - t : Nat) : Int) := by omega
  have e4 : (ys.length : Int) - (t : Int) = ((ys.length - t : Nat) : Int) := by omega
  have m1 : f ≤ h := by have := unhid HF1; omega
  have m2 : l ≤ xs.length := by have := unhid HF2; omega
  have m3 : xs.length - t ≤ l := by have := unhid HF2; omega
  have s3 := fun w => sub_lh a xs.length cap f h m1 (by omega) w
  have s4 := fun w => sub_lh a xs.length cap h (xs.length - t) (by omega) (by omega) w
  have s5 := fun w => sub_lh b ys.length cap2 h (ys.length - t) (by omega) (by omega) w
  have s6 := fun w => sub_lh a xs.length cap (xs.length - t) l m3 (by omega) w
  rw [← e3] at s4 s6
  rw [← e4] at s5
  simp only [e1, e2]
  clear e1 e2 e3 e4 hmin1 hmin2 s1 s2
  refine held_begin (fun w' => Below w6.heap.size w6 w') (by kernel_rfl) (drew_belowX _) ?_
  have hba : ∀ {q : Prop}, (CW (fun w' => Below w6.heap.size w6 w') → q) ↔ q := CW.all (Below.refl _ w6)
  refine held_take [true, true, true, true, true, true, false, true, true, true, true, true, true, true, false, true, true, true, true, true, true, true, false, true, true, true, true, true, true, true] (by kernel_rfl) (by kernel_rfl) (fun _ _ _ _ _ h => h) (drew_belowX _) ?_
  dsimp only [pick]
  repeat (go_big_quiet_step (fail))
  refine wpQuiet_nil ?_
  intro x1
  refine held_call 6 58 50 (enters_of Try.func58 (by kernel_rfl) rfl) #[.string ⟨#[32]⟩, .slice (subA a cap f) (h - f) (cap - f)] (by kernel_rfl) (by kernel_rfl) rfl rfl rfl rfl rfl ?_
  have SG := signed_any 32 ((xs.drop f).take (h - f)) (subA a cap f) (cap - f) x1.w (by rw [part_len _ _ _ (by omega)]; omega) (fun x hx => Nat.le_trans ((textB_parts (unhid TAA)).2 x (part_mem hx)) (by omega)) (((unhid HA6).part hc f (h - f)).below x1.h)
  rw [part_len _ _ _ (by omega)] at SG
  refine SG.mono ?_
  rintro r W1 ⟨v1, rfl, o1, hb⟩
  have hW1 : Below w6.heap.size w6 W1 := x1.h.trans (hb.mono x1.h.size)
  refine ⟨_, rfl, hW1, ?_⟩
  have O1 := hid (ownsRow_baseX o1 x1.h.size)
  clear SG o1 hb
  simp only [Act.put, List.setIfInBounds_toArray, List.set_cons_zero, List.set_cons_succ]
  refine held_call 14 58 58 (enters_of Try.func58 (by kernel_rfl) rfl) #[.string ⟨#[45]⟩, .slice (subA a cap h) (xs.length - t - h) (cap - h)] (by kernel_rfl) (by kernel_rfl) rfl rfl rfl rfl rfl ?_
  have SG := signed_any 45 ((xs.drop h).take (xs.length - t - h)) (subA a cap h) (cap - h) W1 (by rw [part_len _ _ _ (by omega)]; omega) (fun x hx => Nat.le_trans ((textB_parts (unhid TAA)).2 x (part_mem hx)) (by omega)) (((unhid HA6).part hc h (xs.length - t - h)).below hW1)
  rw [part_len _ _ _ (by omega)] at SG
  refine SG.mono ?_
  rintro r W2 ⟨v2, rfl, o2, hb⟩
  have hW2 : Below w6.heap.size w6 W2 := hW1.trans (hb.mono hW1.size)
  refine ⟨_, rfl, hW2, ?_⟩
  have O2 := hid (ownsRow_baseX o2 hW1.size)
  have O1 := hid (owns_belowX (unhid O1) hb)
  clear SG o2 hb
  simp only [Act.put, List.setIfInBounds_toArray, List.set_cons_zero, List.set_cons_succ]
  refine held_call 22 58 66 (enters_of Try.func58 (by kernel_rfl) rfl) #[.string ⟨#[43]⟩, .slice (subA b cap2 h) (ys.length - t - h) (cap2 - h)] (by kernel_rfl) (by kernel_rfl) rfl rfl rfl rfl rfl ?_
  have SG := signed_any 43 ((ys.drop h).take (ys.length - t - h)) (subA b cap2 h) (cap2 - h) W2 (by rw [part_len _ _ _ (by omega)]; omega) (fun x hx => Nat.le_trans ((textB_parts (unhid TBB)).2 x (part_mem hx)) (by omega)) (((unhid HBB6).part hc2 h (ys.length - t - h)).below hW2)
  rw [part_len _ _ _ (by omega)] at SG
  refine SG.mono ?_
  rintro r W3 ⟨v3, rfl, o3, hb⟩
  have hW3 : Below w6.heap.size w6 W3 := hW2.trans (hb.mono hW2.size)
  refine ⟨_, rfl, hW3, ?_⟩
  have O3 := hid (ownsRow_baseX o3 hW2.size)
  have O1 := hid (owns_belowX (unhid O1) hb)
  have O2 := hid (owns_belowX (unhid O2) hb)
  clear SG o3 hb
  simp only [Act.put, List.setIfInBounds_toArray, List.set_cons_zero, List.set_cons_succ]
  refine held_call 30 58 74 (enters_of Try.func58 (by kernel_rfl) rfl) #[.string ⟨#[32]⟩, .slice (subA a cap (xs.length - t)) (l - (xs.length - t)) (cap - (xs.length - t))] (by kernel_rfl) (by kernel_rfl) rfl rfl rfl rfl rfl ?_
  have SG := signed_any 32 ((xs.drop (xs.length - t)).take (l - (xs.length - t))) (subA a cap (xs.length - t)) (cap - (xs.length - t)) W3 (by rw [part_len _ _ _ (by omega)]; omega) (fun x hx => Nat.le_trans ((textB_parts (unhid TAA)).2 x (part_mem hx)) (by omega)) (((unhid HA6).part hc (xs.length - t) (l - (xs.length - t))).below hW3)
  rw [part_len _ _ _ (by omega)] at SG
  refine SG.mono ?_
  rintro r W4 ⟨v4, rfl, o4, hb⟩
  have hW4 : Below w6.heap.size w6 W4 := hW3.trans (hb.mono hW3.size)
  refine ⟨_, rfl, hW4, ?_⟩
  have O4 := hid (ownsRow_baseX o4 hW3.size)
  have O1 := hid (owns_belowX (unhid O1) hb)
  have O2 := hid (owns_belowX (unhid O2) hb)
  have O3 := hid (owns_belowX (unhid O3) hb)
  clear SG o4 hb
  simp only [Act.put, List.setIfInBounds_toArray, List.set_cons_zero, List.set_cons_succ]
  obtain ⟨s1, hs1, rfl, k1⟩ := owns_slc (unhid O1)
  obtain ⟨s2, hs2, rfl, k2⟩ := owns_slc (unhid O2)
  obtain ⟨s3, hs3, rfl, k3⟩ := owns_slc (unhid O3)
  obtain ⟨s4, hs4, rfl, k4⟩ := owns_slc (unhid O4)
  have HLN := hid (show allX [s1, s2, s3, s4] = dLines xs ys by
    rw [unhid HL, ← hs1, ← hs2, ← hs3, ← hs4]; simp [allX])
  have hll : (allX [s1, s2, s3, s4]).length ≤ 120 := by
    show (s1.xs ++ (s2.xs ++ (s3.xs ++ (s4.xs ++ [])))).length ≤ 120
    rw [hs1, hs2, hs3, hs4]
    simp only [List.length_append, signX_len, List.length_take, List.length_drop, List.length_nil]
    omega
  have KS := hid (And.intro k1 (And.intro k2 (And.intro k3 k4)))
  clear O1 O2 O3 O4 k1 k2 k3 k4 hs1 hs2 hs3 hs4 HL
  simp only [Slc.val]
  refine held_op 31 (by kernel_rfl) (by kernel_rfl) rfl (fun K hK => ?_)
  go_simp
  have hW5 : Below w6.heap.size w6 (W4.alloc (.cells #[.slice s1.a s1.xs.length s1.cap, .slice s2.a s2.xs.length s2.cap, .slice s3.a s3.xs.length s3.cap, .slice s4.a s4.xs.length s4.cap] 29)) := hW4.alloc hW4.size _
  have hN5 : Below W4.heap.size W4 (W4.alloc (.cells #[.slice s1.a s1.xs.length s1.cap, .slice s2.a s2.xs.length s2.cap, .slice s3.a s3.xs.length s3.cap, .slice s4.a s4.xs.length s4.cap] 29)) := (Below.refl _ _).alloc (Nat.le_refl _) _
  refine hK.out _ _ hW5 ?_
  clear hK K
  have HSL := hid (show SlcsAt (W4.alloc (.cells #[.slice s1.a s1.xs.length s1.cap, .slice s2.a s2.xs.length s2.cap, .slice s3.a s3.xs.length s3.cap, .slice s4.a s4.xs.length s4.cap] 29)) W4.heap.size [s1, s2, s3, s4] by
    obtain ⟨k1, k2, k3, k4⟩ := unhid KS
    have hh := World.alloc_heap_new W4 (.cells #[.slice s1.a s1.xs.length s1.cap, .slice s2.a s2.xs.length s2.cap, .slice s3.a s3.xs.length s3.cap, .slice s4.a s4.xs.length s4.cap] 29)
    refine ⟨(Array.getElem?_eq_some_iff.1 hh).1, fun i s hi => ?_⟩
    match i, hi with
    | 0, hi => cases hi; exact ⟨cell_in hh 0 _ rfl, k1.below hN5⟩
    | 1, hi => cases hi; exact ⟨cell_in hh 1 _ rfl, k2.below hN5⟩
    | 2, hi => cases hi; exact ⟨cell_in hh 2 _ rfl, k3.below hN5⟩
    | 3, hi => cases hi; exact ⟨cell_in hh 3 _ rfl, k4.below hN5⟩
    | i + 4, hi => simp at hi)
  generalize W4.alloc (.cells #[.slice s1.a s1.xs.length s1.cap, .slice s2.a s2.xs.length s2.cap, .slice s3.a s3.xs.length s3.cap, .slice s4.a s4.xs.length s4.cap] 29) = W5 at hW5 HSL hN5 ⊢
  refine held_call 32 57 76 (enters_of Try.func57 (by kernel_rfl) rfl) #[.slice (some ⟨W4.heap.size, 0, none⟩) 4 4] (by kernel_rfl) (by kernel_rfl) rfl rfl rfl rfl rfl ?_
  refine (slicesConcat_any [s1, s2, s3, s4] W4.heap.size 4 W5 (by simp) (by omega) (unhid HSL)).mono ?_
  rintro r W6 ⟨lv, rfl, o6, hb⟩
  have hW6 : Below w6.heap.size w6 W6 := hW5.trans (hb.mono hW5.size)
  refine ⟨_, rfl, hW6, ?_⟩
  rw [unhid HLN] at o6
  have O6 := hid (ownsRow_baseX o6 (Nat.le_trans (unhid HB5).size hW5.size))
  obtain ⟨la, lc, hlv⟩ := ownsRow_sliceX o6
  subst hlv
  clear o6 hb HSL hN5 HLN hll
  simp only [Act.put, List.setIfInBounds_toArray, List.set_cons_zero, List.set_cons_succ]
  refine held_more (fun w' => Below W6.heap.size W6 w') (fun w' h => hW6.trans (h.mono hW6.size)) ?_
  have hba : ∀ {q : Prop}, (CW (fun w' => Below W6.heap.size W6 w') → q) ↔ q := CW.all (Below.refl _ W6)
  refine held_take [false, false, false, false, false, false, false, false, false, false, false, false, false, false, false, false, false, false, false, false, false, false, false, false, false, false, false, false, false, false, false, false, false, true] (by kernel_rfl) (by kernel_rfl) (fun _ _ _ _ _ h => h) (Below.refl _ _) ?_
  dsimp only [pick]
  repeat (go_big_quiet_step (fail))
  refine wpQuiet_nil ?_
  intro x7
  refine held_op 34 (by kernel_rfl) (by kernel_rfl) rfl (fun K hK => ?_)
  go_simp
  have hW8 : Below W6.heap.size W6 (x7.w.alloc (.cells #[.int .i64 ((f : Int) + 1), .slice la (dLines xs ys).length lc] 46)) := x7.h.alloc x7.h.size _
  refine hK.out _ _ hW8 ?_
  clear hK K
  have hh := World.alloc_heap_new x7.w (.cells #[.int .i64 ((f : Int) + 1), .slice la (dLines xs ys).length lc] 46)
  have hlt7 : x7.w.heap.size < (x7.w.alloc (.cells #[.int .i64 ((f : Int) + 1), .slice la (dLines xs ys).length lc] 46)).heap.size := (Array.getElem?_eq_some_iff.1 hh).1
  have hge7 := x7.h.size
  generalize x7.w.alloc (.cells #[.int .i64 ((f : Int) + 1), .slice la (dLines xs ys).length lc] 46) = W8 at hW8 hh hlt7 ⊢
  generalize x7.w.heap.size = g at hh hlt7 hge7 ⊢
  refine held_more (fun w' => Below W8.heap.size W8 w') (fun w' h => hW8.trans (h.mono hW8.size)) ?_
  have hba : ∀ {q : Prop}, (CW (fun w' => Below W8.heap.size W8 w') → q) ↔ q := CW.all (Below.refl _ W8)
  refine held_take [false, false, false, false, false, false, false, false, false, false, false, false, false, false, false, false, false, false, false, false, false, false, false, false, false, false, false, false, false, false, false, false, false, false, false, true] (by kernel_rfl) (by kernel_rfl) (fun _ _ _ _ _ h => h) (Below.refl _ _) ?_
  dsimp only [pick]
  repeat (go_big_quiet_step (fail))
  refine wpQuiet_nil ?_
  intro x9
  refine held_done (by kernel_rfl) ?_
  have HOL := hid (owns_belowX (owns_belowX (unhid O6) hW8) x9.h)
  have HH := hid ((x9.h.block g hlt7).trans hh)
  have HB9 := hid ((unhid HB5).trans ((hW6.trans ((hW8.trans (x9.h.mono hW8.size)).mono hW6.size)).mono (unhid HB5).size))
  have HG := hid (show w.heap.size ≤ g from Nat.le_trans (unhid HB5).size (Nat.le_trans hW6.size hge7))
  have hOB := hid (show (Value.slice la (dLines xs ys).length lc).ownBlock ≠ some g from fun e => by have := ((unhid O6).lt g e).2; omega)
  have HDH := hid (show dHunk xs ys = ⟨(f : Int) + 1, dLines xs ys⟩ by rw [unhid HFF0]; rfl)
  have hg9 : g < x9.w.heap.size := Nat.lt_of_lt_of_le hlt7 x9.h.size
  generalize x9.w = w9 at *
  clear hba hW8 hh hlt7 hge7 x7 x9 hW6 O6
  have HKS := hid (show HksAt w9 (some ⟨g, 0, none⟩) [dHunk xs ys] from .inr ⟨g, 0, rfl, hg9, fun i e hi => by
    match i, hi with
    | 0, hi =>
      cases hi
      rw [unhid HDH]
      obtain ⟨_, a', c', hv, ht, _⟩ := txts_owns (unhid HOL)
      injection hv with e1 e2 e3
      subst e1 e3
      exact ⟨la, lc, cell_in (unhid HH) 0 _ rfl, cell_in (unhid HH) 1 _ rfl, ht⟩
    | i + 1, hi => simp at hi⟩)
  have HBG := hid (show bigH [dHunk xs ys] from fun h hh => by
    rcases List.mem_singleton.1 hh with rfl
    rw [unhid HDH]
    obtain ⟨q1, q2⟩ := dLines_small (unhid TAA) (unhid TBB)
    exact ⟨fun x hx => Nat.le_trans (q2 x hx).2 (by simp [maxLen]), Nat.le_trans q1 (by simp [maxLen])⟩)
  have HOK := hid (HunksOk_any [dHunk xs ys] (some ⟨g, 0, none⟩) 1 w9 (by simp [maxLen]) (unhid HBG) (unhid HKS))
  clear HKS HBG
  go_wp2_with fail
  refine (unhid HOK).mono ?_
  rintro r w10 ⟨rfl, hb⟩
  have HB10 := hid ((unhid HB9).trans (hb.mono (unhid HB9).size))
  have HR := hid (show OneHk w10 w.heap.size (.slice (some ⟨g, 0, none⟩) 1 1) (dHunk xs ys) from ⟨g, _, rfl, unhid HG, by rw [unhid HDH]; exact (hb.block g hg9).trans (unhid HH), by rw [unhid HDH]; exact owns_belowX (unhid HOL) hb, unhid hOB⟩)
  clear hb HOK HOL HH
  cases hk : hunksB [dHunk xs ys]
  · have E := hid (show diffL xs ys = [] by unfold diffL; rw [unhid HD2, hk]; rfl)
    clear hk
    go_wp2_with fail
    go_ret
    exact ⟨_, rfl, by rw [unhid E]; exact .inl rfl, unhid HB10⟩
  · have E := hid (show diffL xs ys = [dHunk xs ys] by unfold diffL; rw [unhid HD2, hk]; rfl)
    clear hk
    go_wp2_with fail
    go_ret
    exact ⟨_, rfl, by rw [unhid E]; exact unhid HR, unhid HB10⟩
end Go.Proofs.Ytedimkcnemhhpaa
