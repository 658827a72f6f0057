/- Texts of this proof, one behind the other; each says at its head what it shows. -/
import Derived.Test.YtedimkcnemhhpaaJoin2
import Derived.Deep.CutBlock
/- A hunk that makes lines of others, by the program. -/
namespace Go.Proofs.Ytedimkcnemhhpaa
open Go.RowKit Go.Shelf

def dTail (a b : List ByteArray) : Nat := behindN (a.drop (aheadN a b)) (b.drop (aheadN a b))
def dFirst (a b : List ByteArray) : Nat := aheadN a b - min (aheadN a b) 2
def dLast (a b : List ByteArray) : Nat := a.length - dTail a b + min (dTail a b) 2
def dLines (a b : List ByteArray) : List ByteArray :=
  signX 32 ((a.drop (dFirst a b)).take (aheadN a b - dFirst a b)) ++ (signX 45 ((a.drop (aheadN a b)).take (a.length - dTail a b - aheadN a b)) ++
    (signX 43 ((b.drop (aheadN a b)).take (b.length - dTail a b - aheadN a b)) ++ signX 32 ((a.drop (a.length - dTail a b)).take (dLast a b - (a.length - dTail a b)))))
def dHunk (a b : List ByteArray) : Hk := ⟨(dFirst a b : Int) + 1, dLines a b⟩
def diffB (a b : List ByteArray) : Bool := textB a && (textB b && (!decide (a = b) && hunksB [dHunk a b]))
def diffL (a b : List ByteArray) : List Hk := if diffB a b then [dHunk a b] else []
theorem ahead_le (a b : List ByteArray) : aheadN a b ≤ a.length ∧ aheadN a b ≤ b.length := by
  have := runP_le (p := sameA a b) (min a.length b.length) 0
  unfold aheadN; omega
theorem tail_le (a b : List ByteArray) : dTail a b ≤ a.length - aheadN a b ∧ dTail a b ≤ b.length - aheadN a b := by
  have := runP_le (p := sameZ (a.drop (aheadN a b)) (b.drop (aheadN a b))) (min (a.drop (aheadN a b)).length (b.drop (aheadN a b)).length) 0
  unfold dTail behindN
  simp only [List.length_drop] at *; omega
theorem textB_parts {xs : List ByteArray} (h : textB xs = true) : xs.length ≤ 30 ∧ ∀ x ∈ xs, x.size ≤ 80 := by
  unfold textB at h
  simp only [Bool.and_eq_true, decide_eq_true_eq, List.all_eq_true] at h
  refine ⟨by omega, fun x hx => ?_⟩
  have := h.2 x hx
  unfold lineB at this
  simp only [Bool.and_eq_true, decide_eq_true_eq] at this
  rw [Lib.size_eq]; exact this.1
theorem part_len (xs : List ByteArray) (l m : Nat) (h : l + m ≤ xs.length) : ((xs.drop l).take m).length = m := by rw [List.length_take, List.length_drop]; omega
theorem part_mem {xs : List ByteArray} {l m : Nat} {x : ByteArray} (h : x ∈ (xs.drop l).take m) : x ∈ xs := List.mem_of_mem_drop (List.mem_of_mem_take h)

/-- Hunks in a row of their own, and their lines. -/
def OneHk (W : World) (N : Nat) (v : Value) (h : Hk) : Prop := ∃ g lv, v = .slice (some ⟨g, 0, none⟩) 1 1 ∧ N ≤ g ∧ W.heap[g]? = some (.cells #[.int .i64 h.at_, lv] 46 (0, 0)) ∧ W.ownsRow N 9 1 lv h.lines.length (h.lines.map Value.string) ∧ lv.ownBlock ≠ some g
def HksOwn (W : World) (N : Nat) (v : Value) : List Hk → Prop
  | [] => v = .slice none 0 0 ∨ ∃ g, v = .slice (some ⟨g, 0, none⟩) 0 0 ∧ N ≤ g ∧ W.heap[g]? = some (.cells #[] 46 (0, 0))
  | [h] => OneHk W N v h
  | _ => False

theorem signX_mem {c : UInt8} {xs : List ByteArray} {x : ByteArray} (h : x ∈ signX c xs) : ∃ y ∈ xs, x.size = y.size + 1 := by
  obtain ⟨y, hy, rfl⟩ := List.mem_map.1 h
  exact ⟨y, hy, by rw [ByteArray.size_append]; show 1 + y.size = _; omega⟩
theorem dLines_small {xs ys : List ByteArray} (hx : textB xs = true) (hy : textB ys = true) : (dLines xs ys).length ≤ 120 ∧ ∀ x ∈ dLines xs ys, 0 < x.size ∧ x.size ≤ 81 := by
  obtain ⟨a1, a2⟩ := textB_parts hx
  obtain ⟨b1, b2⟩ := textB_parts hy
  refine ⟨?_, fun x h => ?_⟩
  · unfold dLines
    simp only [List.length_append, signX_len, List.length_take, List.length_drop]
    omega
  · unfold dLines at h
    simp only [List.mem_append] at h
    rcases h with h | h | h | h
    all_goals
      obtain ⟨y, hy, e⟩ := signX_mem h
      first | (have := a2 y (part_mem hy); omega) | (have := b2 y (part_mem hy); omega)
theorem owns_belowX {W W' : World} {N n size : Nat} {v : Value} {e : TypeId} {xs : List Value} (h : W.ownsRow N e size v n xs) (hb : Below W.heap.size W W') : W'.ownsRow N e size v n xs := by
  refine ⟨h.1, h.2.imp id (fun ⟨g, cap, cur, a, b, c, d⟩ => ⟨g, cap, cur, a, b, (hb.block g (Array.getElem?_eq_some_iff.1 c).1).trans c, d⟩)⟩
theorem cell_in {W : World} {g T : Nat} {vs : Array Value} {fz : Nat × Nat} (hh : W.heap[g]? = some (.cells vs T fz)) (i : Nat) (v : Value) (hv : vs[i]? = some v) : W.cell? ⟨g, i, none⟩ = some v := by simp [World.cell?, hh, hv]
theorem owns_slc {W : World} {N : Nat} {v : Value} {xs : List ByteArray} (h : W.ownsRow N 9 1 v xs.length (xs.map Value.string)) : ∃ s : Slc, s.xs = xs ∧ v = s.val ∧ s.Ok W := by
  rcases h.2 with ⟨hv, h0⟩ | ⟨g, cap, cur, hv, _⟩
  · obtain rfl := List.length_eq_zero_iff.1 h0
    exact ⟨⟨none, 0, []⟩, rfl, hv, .inl rfl, fun _ => rfl⟩
  · obtain ⟨_, a, c, hv2, ht, _⟩ := txts_owns h
    rw [hv] at hv2
    injection hv2 with e1 e2 e3
    subst e1
    exact ⟨⟨some ⟨g, 0, none⟩, cap, xs⟩, rfl, by rw [hv]; rfl, ht, fun e => by cases e⟩
theorem hunksB_one {h : Hk} (hb : hunksB [h] = true) : hkB h = true ∧ 1 ≤ h.at_ := by
  unfold hunksB at hb
  simp only [List.length_cons, List.length_nil, Nat.zero_add, List.range_succ, List.range_zero, List.nil_append, List.all_cons, List.all_nil, Bool.and_true, Bool.and_eq_true] at hb
  have := hb.1
  unfold okAt at this
  simp only [Bool.and_eq_true, decide_eq_true_eq] at this
  exact ⟨this.1, this.2⟩

set_option maxRecDepth 100000 in
set_option maxHeartbeats 4000000 in
theorem DiffOf_any (xs ys : List ByteArray) (a b : Option Addr) (cap cap2 : Nat) (w : World) (hx : xs.length ≤ maxLen) (hy : ys.length ≤ maxLen) (hz : bigX xs) (hz2 : bigX ys) (hc : xs.length ≤ cap) (hc2 : ys.length ≤ cap2) (h : TxtsAt w a xs) (h2 : TxtsAt w b ys) :
    Calls Try.prog 23 #[.slice a xs.length cap, .slice b ys.length cap2] w fun r w' => ∃ v, r = .returned v ∧ HksOwn w' w.heap.size v (diffL xs ys) ∧ Below w.heap.size w w' := by
  have HA := hid h
  have HB := hid h2
  have HX := hid hx
  have HY := hid hy
  have HZ := hid hz
  have HZ2 := hid hz2
  have TA := hid (textLinesOk_any xs a cap w hz hx h)
  clear h h2 hz hz2 hx hy
  have HD : Hid (diffB xs ys = (textB xs && (textB ys && (!decide (xs = ys) && hunksB [dHunk xs ys])))) := hid rfl
  go_enter Try.func23, Try.ntmps23
  go_wp2_with fail
  refine (unhid TA).mono ?_
  rintro r w1 ⟨rfl, hb⟩
  have HB1 := hid hb
  have HA1 := hid ((unhid HA).below hb)
  have HBB1 := hid ((unhid HB).below hb)
  clear hb TA
  cases ta : textB xs
  · have E := hid (show diffL xs ys = [] by unfold diffL; rw [unhid HD, ta]; rfl)
    clear ta HD
    go_wp2_with fail
    go_ret
    exact ⟨_, rfl, by rw [unhid E]; exact .inl rfl, unhid HB1⟩
  have TAA := hid ta
  have la := (textB_parts ta).1
  go_wp2_with fail
  refine (textLinesOk_any ys b cap2 w1 (unhid HZ2) (unhid HY) (unhid HBB1)).mono ?_
  rintro r w2 ⟨rfl, hb⟩
  have HB2 := hid ((unhid HB1).trans (hb.mono (unhid HB1).size))
  clear hb HA1 HBB1 HB1
  have HA2 := hid ((unhid HA).below (unhid HB2))
  have HBB2 := hid ((unhid HB).below (unhid HB2))
  cases tb : textB ys
  · have E := hid (show diffL xs ys = [] by unfold diffL; rw [unhid HD, tb, Bool.false_and, Bool.and_false]; rfl)
    clear ta tb HD
    go_wp2_with fail
    go_ret
    exact ⟨_, rfl, by rw [unhid E]; exact .inl rfl, unhid HB2⟩
  have TBB := hid tb
  have lb := (textB_parts tb).1
  clear ta
  go_wp2_with fail
  refine (slicesEqual_any xs ys a b cap cap2 w2 (unhid HX) (unhid HY) (unhid HA2) (unhid HBB2)).mono ?_
  rintro r w3 ⟨rfl, hb⟩
  have HB3 := hid ((unhid HB2).trans (hb.mono (unhid HB2).size))
  clear hb HA2 HBB2 HB2
  have HA3 := hid ((unhid HA).below (unhid HB3))
  have HBB3 := hid ((unhid HB).below (unhid HB3))
  cases te : decide (xs = ys)
  case true =>
    have E := hid (show diffL xs ys = [] by unfold diffL; rw [unhid HD, te, Bool.not_true, Bool.false_and, Bool.and_false, Bool.and_false]; rfl)
    clear te tb HD
    go_wp2_with fail
    go_ret
    exact ⟨_, rfl, by rw [unhid E]; exact .inl rfl, unhid HB3⟩
  have HD2 := hid (show diffB xs ys = hunksB [dHunk xs ys] by rw [unhid HD, unhid TAA, unhid TBB, te]; rfl)
  clear te tb HD
  go_wp2_with fail
  refine (sameAhead_any xs ys a b cap cap2 w3 (by omega) (by omega) (unhid HA3) (unhid HBB3)).mono ?_
  rintro r w4 ⟨rfl, hb⟩
  have HB4 := hid ((unhid HB3).trans (hb.mono (unhid HB3).size))
  clear hb HA3 HBB3 HB3
  have HA4 := hid ((unhid HA).below (unhid HB4))
  have HBB4 := hid ((unhid HB).below (unhid HB4))
  obtain ⟨l1, l2⟩ := ahead_le xs ys
  obtain ⟨l3, l4⟩ := tail_le xs ys
  have s1 := fun w => sub_l a xs.length cap (aheadN xs ys) l1 w
  have s2 := fun w => sub_l b ys.length cap2 (aheadN xs ys) l2 w
  have HE := hid (show dTail xs ys = behindN (xs.drop (aheadN xs ys)) (ys.drop (aheadN xs ys)) from rfl)
  have HFF0 := hid (show (dFirst xs ys : Int) + 1 = ((dHunk xs ys).at_) from rfl)
  have HF1 := hid (show dFirst xs ys = aheadN xs ys - min (aheadN xs ys) 2 from rfl)
  have HF2 := hid (show dLast xs ys = xs.length - dTail xs ys + min (dTail xs ys) 2 from rfl)
  have HL := hid (show dLines xs ys = signX 32 ((xs.drop (dFirst xs ys)).take (aheadN xs ys - dFirst xs ys)) ++ (signX 45 ((xs.drop (aheadN xs ys)).take (xs.length - dTail xs ys - aheadN xs ys)) ++
    (signX 43 ((ys.drop (aheadN xs ys)).take (ys.length - dTail xs ys - aheadN xs ys)) ++ signX 32 ((xs.drop (xs.length - dTail xs ys)).take (dLast xs ys - (xs.length - dTail xs ys))))) from rfl)
  generalize dFirst xs ys = f at *
  generalize dLast xs ys = l at *
  generalize dTail xs ys = t at *
  generalize aheadN xs ys = h at *
  go_wp2_with fail
  refine held_begin (fun w' => Below w4.heap.size w4 w') (by kernel_rfl) (drew_belowX _) ?_
  have hba : ∀ {q : Prop}, (CW (fun w' => Below w4.heap.size w4 w') → q) ↔ q := CW.all (Below.refl _ w4)
  refine held_take [true, true, true, true, true, true] (by kernel_rfl) (by kernel_rfl) (fun _ _ _ _ _ h => h) (drew_belowX _) ?_
  dsimp only [pick]
  repeat (go_big_quiet_step (fail))
  refine wpQuiet_nil ?_
  intro x1
  refine held_call 6 56 32 (enters_of Try.func56 (by kernel_rfl) rfl) #[.slice (subA a cap h) (xs.length - h) (cap - h), .slice (subA b cap2 h) (ys.length - h) (cap2 - h)] (by kernel_rfl) (by kernel_rfl) rfl rfl rfl rfl rfl ?_
  have SB := sameBehind_any (xs.drop h) (ys.drop h) (subA a cap h) (subA b cap2 h) (cap - h) (cap2 - h) x1.w (by rw [List.length_drop]; omega) (by rw [List.length_drop]; omega) (((unhid HA4).rest hc h).below x1.h) (((unhid HBB4).rest hc2 h).below x1.h)
  rw [List.length_drop, List.length_drop, ← unhid HE] at SB
  refine SB.mono ?_
  rintro r w5 ⟨rfl, hb⟩
  refine ⟨_, rfl, x1.h.trans (hb.mono x1.h.size), ?_⟩
  have HB5 := hid ((unhid HB4).trans ((x1.h.trans (hb.mono x1.h.size)).mono (unhid HB4).size))
  clear SB
  simp only [Act.put, List.setIfInBounds_toArray, List.set_cons_zero, List.set_cons_succ]
  refine held_take [false, false, false, false, false, false, false, true] (by kernel_rfl) (by kernel_rfl) (fun _ _ _ _ _ h => h) (x1.h.trans (hb.mono x1.h.size)) ?_
  dsimp only [pick]
  repeat (go_big_quiet_step (fail))
  refine wpQuiet_nil ?_
  intro x2
  refine held_done (by kernel_rfl) ?_
  have HB5 := hid ((unhid HB4).trans (x2.h.mono (unhid HB4).size))
  generalize x2.w = w6 at HB5 ⊢
  clear hba hb x1 x2 HA4 HBB4 HB4
  have HA6 := hid ((unhid HA).below (unhid HB5))
  have HBB6 := hid ((unhid HB).below (unhid HB5))
  have hmin1 : ∀ w ts t, (Builtin.min_ ts t #[.int .i64 (h : Int), .int .i64 2]).run Try.prog w = .ok (.int .i64 ((min h 2 : Nat) : Int)) w := fun w ts t => by
    rw [run_min_int2]; congr 2; omega
  have hmin2 : ∀ w ts tt, (Builtin.min_ ts tt #[.int .i64 (t : Int), .int .i64 2]).run Try.prog w = .ok (.int .i64 ((min t 2 : Nat) : Int)) w := fun w ts tt => by
    rw [run_min_int2]; congr 2; omega
  go_wp2_with fail
  have e1 : (h : Int) - ((min h 2 : Nat) : Int) = (f : Int) := by have := unhid HF1; omega
  have e2 : (xs.length : Int) - (t : Int) + ((min t 2 : Nat) : Int) = (l : Int) := by have := unhid HF2; omega
  have e3 : (xs.length : Int) - (t : Int) = ((xs.length - t : Nat) : Int) := by omega
  have e4 : (ys.length : Int) - (t : Int) = ((ys.length - t : Nat) : Int) := by omega
  have m1 : f ≤ h := by have := unhid HF1; omega
  have m2 : l ≤ xs.length := by have := unhid HF2; omega
  have m3 : xs.length - t ≤ l := by have := unhid HF2; omega
  have s3 := fun w => sub_lh a xs.length cap f h m1 (by omega) w
  have s4 := fun w => sub_lh a xs.length cap h (xs.length - t) (by omega) (by omega) w
  have s5 := fun w => sub_lh b ys.length cap2 h (ys.length - t) (by omega) (by omega) w
  have s6 := fun w => sub_lh a xs.length cap (xs.length - t) l m3 (by omega) w
  rw [← e3] at s4 s6
  rw [← e4] at s5
  simp only [e1, e2]
  clear e1 e2 e3 e4 hmin1 hmin2 s1 s2
  refine held_begin (fun w' => Below w6.heap.size w6 w') (by kernel_rfl) (drew_belowX _) ?_
  have hba : ∀ {q : Prop}, (CW (fun w' => Below w6.heap.size w6 w') → q) ↔ q := CW.all (Below.refl _ w6)
  refine held_take [true, true, true, true, true, true, false, true, true, true, true, true, true, true, false, true, true, true, true, true, true, true, false, true, true, true, true, true, true, true] (by kernel_rfl) (by kernel_rfl) (fun _ _ _ _ _ h => h) (drew_belowX _) ?_
  dsimp only [pick]
  repeat (go_big_quiet_step (fail))
  refine wpQuiet_nil ?_
  intro x1
  refine held_call 6 58 50 (enters_of Try.func58 (by kernel_rfl) rfl) #[.string ⟨#[32]⟩, .slice (subA a cap f) (h - f) (cap - f)] (by kernel_rfl) (by kernel_rfl) rfl rfl rfl rfl rfl ?_
  have SG := signed_any 32 ((xs.drop f).take (h - f)) (subA a cap f) (cap - f) x1.w (by rw [part_len _ _ _ (by omega)]; omega) (fun x hx => Nat.le_trans ((textB_parts (unhid TAA)).2 x (part_mem hx)) (by omega)) (((unhid HA6).part hc f (h - f)).below x1.h)
  rw [part_len _ _ _ (by omega)] at SG
  refine SG.mono ?_
  rintro r W1 ⟨v1, rfl, o1, hb⟩
  have hW1 : Below w6.heap.size w6 W1 := x1.h.trans (hb.mono x1.h.size)
  refine ⟨_, rfl, hW1, ?_⟩
  have O1 := hid (ownsRow_baseX o1 x1.h.size)
  clear SG o1 hb
  simp only [Act.put, List.setIfInBounds_toArray, List.set_cons_zero, List.set_cons_succ]
  refine held_call 14 58 58 (enters_of Try.func58 (by kernel_rfl) rfl) #[.string ⟨#[45]⟩, .slice (subA a cap h) (xs.length - t - h) (cap - h)] (by kernel_rfl) (by kernel_rfl) rfl rfl rfl rfl rfl ?_
  have SG := signed_any 45 ((xs.drop h).take (xs.length - t - h)) (subA a cap h) (cap - h) W1 (by rw [part_len _ _ _ (by omega)]; omega) (fun x hx => Nat.le_trans ((textB_parts (unhid TAA)).2 x (part_mem hx)) (by omega)) (((unhid HA6).part hc h (xs.length - t - h)).below hW1)
  rw [part_len _ _ _ (by omega)] at SG
  refine SG.mono ?_
  rintro r W2 ⟨v2, rfl, o2, hb⟩
  have hW2 : Below w6.heap.size w6 W2 := hW1.trans (hb.mono hW1.size)
  refine ⟨_, rfl, hW2, ?_⟩
  have O2 := hid (ownsRow_baseX o2 hW1.size)
  have O1 := hid (owns_belowX (unhid O1) hb)
  clear SG o2 hb
  simp only [Act.put, List.setIfInBounds_toArray, List.set_cons_zero, List.set_cons_succ]
  refine held_call 22 58 66 (enters_of Try.func58 (by kernel_rfl) rfl) #[.string ⟨#[43]⟩, .slice (subA b cap2 h) (ys.length - t - h) (cap2 - h)] (by kernel_rfl) (by kernel_rfl) rfl rfl rfl rfl rfl ?_
  have SG := signed_any 43 ((ys.drop h).take (ys.length - t - h)) (subA b cap2 h) (cap2 - h) W2 (by rw [part_len _ _ _ (by omega)]; omega) (fun x hx => Nat.le_trans ((textB_parts (unhid TBB)).2 x (part_mem hx)) (by omega)) (((unhid HBB6).part hc2 h (ys.length - t - h)).below hW2)
  rw [part_len _ _ _ (by omega)] at SG
  refine SG.mono ?_
  rintro r W3 ⟨v3, rfl, o3, hb⟩
  have hW3 : Below w6.heap.size w6 W3 := hW2.trans (hb.mono hW2.size)
  refine ⟨_, rfl, hW3, ?_⟩
  have O3 := hid (ownsRow_baseX o3 hW2.size)
  have O1 := hid (owns_belowX (unhid O1) hb)
  have O2 := hid (owns_belowX (unhid O2) hb)
  clear SG o3 hb
  simp only [Act.put, List.setIfInBounds_toArray, List.set_cons_zero, List.set_cons_succ]
  refine held_call 30 58 74 (enters_of Try.func58 (by kernel_rfl) rfl) #[.string ⟨#[32]⟩, .slice (subA a cap (xs.length - t)) (l - (xs.length - t)) (cap - (xs.length - t))] (by kernel_rfl) (by kernel_rfl) rfl rfl rfl rfl rfl ?_
  have SG := signed_any 32 ((xs.drop (xs.length - t)).take (l - (xs.length - t))) (subA a cap (xs.length - t)) (cap - (xs.length - t)) W3 (by rw [part_len _ _ _ (by omega)]; omega) (fun x hx => Nat.le_trans ((textB_parts (unhid TAA)).2 x (part_mem hx)) (by omega)) (((unhid HA6).part hc (xs.length - t) (l - (xs.length - t))).below hW3)
  rw [part_len _ _ _ (by omega)] at SG
  refine SG.mono ?_
  rintro r W4 ⟨v4, rfl, o4, hb⟩
  have hW4 : Below w6.heap.size w6 W4 := hW3.trans (hb.mono hW3.size)
  refine ⟨_, rfl, hW4, ?_⟩
  have O4 := hid (ownsRow_baseX o4 hW3.size)
  have O1 := hid (owns_belowX (unhid O1) hb)
  have O2 := hid (owns_belowX (unhid O2) hb)
  have O3 := hid (owns_belowX (unhid O3) hb)
  clear SG o4 hb
  simp only [Act.put, List.setIfInBounds_toArray, List.set_cons_zero, List.set_cons_succ]
  obtain ⟨s1, hs1, rfl, k1⟩ := owns_slc (unhid O1)
  obtain ⟨s2, hs2, rfl, k2⟩ := owns_slc (unhid O2)
  obtain ⟨s3, hs3, rfl, k3⟩ := owns_slc (unhid O3)
  obtain ⟨s4, hs4, rfl, k4⟩ := owns_slc (unhid O4)
  have HLN := hid (show allX [s1, s2, s3, s4] = dLines xs ys by
    rw [unhid HL, ← hs1, ← hs2, ← hs3, ← hs4]; simp [allX])
  have hll : (allX [s1, s2, s3, s4]).length ≤ 120 := by
    show (s1.xs ++ (s2.xs ++ (s3.xs ++ (s4.xs ++ [])))).length ≤ 120
    rw [hs1, hs2, hs3, hs4]
    simp only [List.length_append, signX_len, List.length_take, List.length_drop, List.length_nil]
    omega
  have KS := hid (And.intro k1 (And.intro k2 (And.intro k3 k4)))
  clear O1 O2 O3 O4 k1 k2 k3 k4 hs1 hs2 hs3 hs4 HL
  simp only [Slc.val]
  refine held_op 31 (by kernel_rfl) (by kernel_rfl) rfl (fun K hK => ?_)
  go_simp
  have hW5 : Below w6.heap.size w6 (W4.alloc (.cells #[.slice s1.a s1.xs.length s1.cap, .slice s2.a s2.xs.length s2.cap, .slice s3.a s3.xs.length s3.cap, .slice s4.a s4.xs.length s4.cap] 29)) := hW4.alloc hW4.size _
  have hN5 : Below W4.heap.size W4 (W4.alloc (.cells #[.slice s1.a s1.xs.length s1.cap, .slice s2.a s2.xs.length s2.cap, .slice s3.a s3.xs.length s3.cap, .slice s4.a s4.xs.length s4.cap] 29)) := (Below.refl _ _).alloc (Nat.le_refl _) _
  refine hK.out _ _ hW5 ?_
  clear hK K
  have HSL := hid (show SlcsAt (W4.alloc (.cells #[.slice s1.a s1.xs.length s1.cap, .slice s2.a s2.xs.length s2.cap, .slice s3.a s3.xs.length s3.cap, .slice s4.a s4.xs.length s4.cap] 29)) W4.heap.size [s1, s2, s3, s4] by
    obtain ⟨k1, k2, k3, k4⟩ := unhid KS
    have hh := World.alloc_heap_new W4 (.cells #[.slice s1.a s1.xs.length s1.cap, .slice s2.a s2.xs.length s2.cap, .slice s3.a s3.xs.length s3.cap, .slice s4.a s4.xs.length s4.cap] 29)
    refine ⟨(Array.getElem?_eq_some_iff.1 hh).1, fun i s hi => ?_⟩
    match i, hi with
    | 0, hi => cases hi; exact ⟨cell_in hh 0 _ rfl, k1.below hN5⟩
    | 1, hi => cases hi; exact ⟨cell_in hh 1 _ rfl, k2.below hN5⟩
    | 2, hi => cases hi; exact ⟨cell_in hh 2 _ rfl, k3.below hN5⟩
    | 3, hi => cases hi; exact ⟨cell_in hh 3 _ rfl, k4.below hN5⟩
    | i + 4, hi => simp at hi)
  generalize W4.alloc (.cells #[.slice s1.a s1.xs.length s1.cap, .slice s2.a s2.xs.length s2.cap, .slice s3.a s3.xs.length s3.cap, .slice s4.a s4.xs.length s4.cap] 29) = W5 at hW5 HSL hN5 ⊢
  refine held_call 32 57 76 (enters_of Try.func57 (by kernel_rfl) rfl) #[.slice (some ⟨W4.heap.size, 0, none⟩) 4 4] (by kernel_rfl) (by kernel_rfl) rfl rfl rfl rfl rfl ?_
  refine (slicesConcat_any [s1, s2, s3, s4] W4.heap.size 4 W5 (by simp) (by omega) (unhid HSL)).mono ?_
  rintro r W6 ⟨lv, rfl, o6, hb⟩
  have hW6 : Below w6.heap.size w6 W6 := hW5.trans (hb.mono hW5.size)
  refine ⟨_, rfl, hW6, ?_⟩
  rw [unhid HLN] at o6
  have O6 := hid (ownsRow_baseX o6 (Nat.le_trans (unhid HB5).size hW5.size))
  obtain ⟨la, lc, hlv⟩ := ownsRow_sliceX o6
  subst hlv
  clear o6 hb HSL hN5 HLN hll
  simp only [Act.put, List.setIfInBounds_toArray, List.set_cons_zero, List.set_cons_succ]
  refine held_more (fun w' => Below W6.heap.size W6 w') (fun w' h => hW6.trans (h.mono hW6.size)) ?_
  have hba : ∀ {q : Prop}, (CW (fun w' => Below W6.heap.size W6 w') → q) ↔ q := CW.all (Below.refl _ W6)
  refine held_take [false, false, false, false, false, false, false, false, false, false, false, false, false, false, false, false, false, false, false, false, false, false, false, false, false, false, false, false, false, false, false, false, false, true] (by kernel_rfl) (by kernel_rfl) (fun _ _ _ _ _ h => h) (Below.refl _ _) ?_
  dsimp only [pick]
  repeat (go_big_quiet_step (fail))
  refine wpQuiet_nil ?_
  intro x7
  refine held_op 34 (by kernel_rfl) (by kernel_rfl) rfl (fun K hK => ?_)
  go_simp
  have hW8 : Below W6.heap.size W6 (x7.w.alloc (.cells #[.int .i64 ((f : Int) + 1), .slice la (dLines xs ys).length lc] 46)) := x7.h.alloc x7.h.size _
  refine hK.out _ _ hW8 ?_
  clear hK K
  have hh := World.alloc_heap_new x7.w (.cells #[.int .i64 ((f : Int) + 1), .slice la (dLines xs ys).length lc] 46)
  have hlt7 : x7.w.heap.size < (x7.w.alloc (.cells #[.int .i64 ((f : Int) + 1), .slice la (dLines xs ys).length lc] 46)).heap.size := (Array.getElem?_eq_some_iff.1 hh).1
  have hge7 := x7.h.size
  generalize x7.w.alloc (.cells #[.int .i64 ((f : Int) + 1), .slice la (dLines xs ys).length lc] 46) = W8 at hW8 hh hlt7 ⊢
  generalize x7.w.heap.size = g at hh hlt7 hge7 ⊢
  refine held_more (fun w' => Below W8.heap.size W8 w') (fun w' h => hW8.trans (h.mono hW8.size)) ?_
  have hba : ∀ {q : Prop}, (CW (fun w' => Below W8.heap.size W8 w') → q) ↔ q := CW.all (Below.refl _ W8)
  refine held_take [false, false, false, false, false, false, false, false, false, false, false, false, false, false, false, false, false, false, false, false, false, false, false, false, false, false, false, false, false, false, false, false, false, false, false, true] (by kernel_rfl) (by kernel_rfl) (fun _ _ _ _ _ h => h) (Below.refl _ _) ?_
  dsimp only [pick]
  repeat (go_big_quiet_step (fail))
  refine wpQuiet_nil ?_
  intro x9
  refine held_done (by kernel_rfl) ?_
  have HOL := hid (owns_belowX (owns_belowX (unhid O6) hW8) x9.h)
  have HH := hid ((x9.h.block g hlt7).trans hh)
  have HB9 := hid ((unhid HB5).trans ((hW6.trans ((hW8.trans (x9.h.mono hW8.size)).mono hW6.size)).mono (unhid HB5).size))
  have HG := hid (show w.heap.size ≤ g from Nat.le_trans (unhid HB5).size (Nat.le_trans hW6.size hge7))
  have hOB := hid (show (Value.slice la (dLines xs ys).length lc).ownBlock ≠ some g from fun e => by have := ((unhid O6).lt g e).2; omega)
  have HDH := hid (show dHunk xs ys = ⟨(f : Int) + 1, dLines xs ys⟩ by rw [unhid HFF0]; rfl)
  have hg9 : g < x9.w.heap.size := Nat.lt_of_lt_of_le hlt7 x9.h.size
  generalize x9.w = w9 at *
  clear hba hW8 hh hlt7 hge7 x7 x9 hW6 O6
  have HKS := hid (show HksAt w9 (some ⟨g, 0, none⟩) [dHunk xs ys] from .inr ⟨g, 0, rfl, hg9, fun i e hi => by
    match i, hi with
    | 0, hi =>
      cases hi
      rw [unhid HDH]
      obtain ⟨_, a', c', hv, ht, _⟩ := txts_owns (unhid HOL)
      injection hv with e1 e2 e3
      subst e1 e3
      exact ⟨la, lc, cell_in (unhid HH) 0 _ rfl, cell_in (unhid HH) 1 _ rfl, ht⟩
    | i + 1, hi => simp at hi⟩)
  have HBG := hid (show bigH [dHunk xs ys] from fun h hh => by
    rcases List.mem_singleton.1 hh with rfl
    rw [unhid HDH]
    obtain ⟨q1, q2⟩ := dLines_small (unhid TAA) (unhid TBB)
    exact ⟨fun x hx => Nat.le_trans (q2 x hx).2 (by simp [maxLen]), Nat.le_trans q1 (by simp [maxLen])⟩)
  have HOK := hid (HunksOk_any [dHunk xs ys] (some ⟨g, 0, none⟩) 1 w9 (by simp [maxLen]) (unhid HBG) (unhid HKS))
  clear HKS HBG
  go_wp2_with fail
  refine (unhid HOK).mono ?_
  rintro r w10 ⟨rfl, hb⟩
  have HB10 := hid ((unhid HB9).trans (hb.mono (unhid HB9).size))
  have HR := hid (show OneHk w10 w.heap.size (.slice (some ⟨g, 0, none⟩) 1 1) (dHunk xs ys) from ⟨g, _, rfl, unhid HG, by rw [unhid HDH]; exact (hb.block g hg9).trans (unhid HH), by rw [unhid HDH]; exact owns_belowX (unhid HOL) hb, unhid hOB⟩)
  clear hb HOK HOL HH
  cases hk : hunksB [dHunk xs ys]
  · have E := hid (show diffL xs ys = [] by unfold diffL; rw [unhid HD2, hk]; rfl)
    clear hk
    go_wp2_with fail
    go_ret
    exact ⟨_, rfl, by rw [unhid E]; exact .inl rfl, unhid HB10⟩
  · have E := hid (show diffL xs ys = [dHunk xs ys] by unfold diffL; rw [unhid HD2, hk]; rfl)
    clear hk
    go_wp2_with fail
    go_ret
    exact ⟨_, rfl, by rw [unhid E]; exact unhid HR, unhid HB10⟩
end Go.Proofs.Ytedimkcnemhhpaa

/- Whether hunks are ok, by the model. -/
namespace Go.Proofs.Ytedimkcnemhhpaa
open Go.RowKit Go.Shelf

set_option maxRecDepth 100000 in
set_option maxHeartbeats 8000000 in
theorem specHunksOk_any (hs : List Hk) (a : Option Addr) (cap : Nat) (w : World) (hlen : hs.length ≤ maxLen) (hz : bigH hs) (h : HksAt w a hs) :
    Calls Try.prog 16 #[.slice a hs.length cap] w fun e w' => e = .returned (.bool (hunksB hs)) ∧ Below w.heap.size w w' := by
  unfold maxLen at hlen
  have HZ := hid hz
  have HH := hid h
  clear hz h
  go_enter Try.func16, Try.ntmps16
  go_wp2_with fail
  go_loopw [3] (fun i wr => ∃ k : Nat, k ≤ hs.length ∧ i = .int .i64 k ∧ Hid ((List.range k).all (okAt hs) = true) ∧ Below w.heap.size w wr) (fun i _ => hs.length - (intOf i).toNat)
  case atStart => exact ⟨0, Nat.zero_le _, rfl, hid rfl, Below.refl _ _⟩
  case round =>
    obtain ⟨k, hk, rfl, hall, hB⟩ := hrel
    by_cases hlt : k < hs.length
    · obtain ⟨e, he⟩ : ∃ e, hs[k]? = some e := ⟨hs[k], List.getElem?_eq_getElem hlt⟩
      obtain ⟨b, o, rfl, hbl, hc⟩ := (unhid HH).get (by intro e; subst e; simp at hlt)
      obtain ⟨la, lc, c0, c1, ht⟩ := hc k e he
      obtain ⟨z1, z2⟩ := unhid HZ e (List.mem_of_getElem? he)
      have HCK := hid (fun (X : World) (hX : Below w.heap.size w X) => And.intro ((hX.cell (p := ⟨b, o + k * 2, .none⟩) hbl).trans c0) ((hX.cell (p := ⟨b, o + k * 2 + 1, .none⟩) hbl).trans c1))
      have HF := hid (hkFn_get he)
      have HP := hid (lst_pos hs k (unhid hall))
      have HB := hid hB
      have HT := hid ht
      have Z1 := hid z1
      have Z2 := hid z2
      have HN := hid (fun x => no_hunks (hs := hs) hlt x)
      have HOk := hid (show okAt hs k = (hkB e && decide (lst hs k ≤ e.at_)) by unfold okAt; rw [unhid HF])
      have HC := hid hc
      clear hc hB he ht z1 z2 c0 c1
      cases hx : (hkB e && decide (1 ≤ e.at_))
      · have E := hid (unhid HN (by
          rw [unhid HOk]
          cases h1 : hkB e
          · rfl
          · rw [h1, Bool.true_and, decide_eq_false_iff_not] at hx
            have := unhid HP
            rw [decide_eq_false (by omega)]; rfl))
        have HX := hid hx
        clear hx
        obtain ⟨c0, c1⟩ := unhid HCK wr (unhid HB)
        have hbw := Nat.lt_of_lt_of_le hbl (unhid HB).size
        have g0 := BW.cell (B := wr.heap.size) hbw c0
        have g1 := BW.cell (B := wr.heap.size) hbw c1
        clear c0 c1
        go_wp2_with fail
        have hba := @BW.all wr.heap.size wr
        refine calm_region wr.heap.size (by kernel_rfl) (by kernel_rfl) ?_
        repeat (go_big_quiet_step ((go_at_call 45; refine Calls.bw (v := .bool false) (Nat.le_refl _) ((l5Hunk_any e la lc _ (unhid Z2) (unhid Z1) ((unhid HT).below ((unhid HB).trans ((BW.h _).mono (unhid HB).size)))).mono ?_); rintro r w2 ⟨rfl, hb⟩; exact ⟨by rw [unhid HX], hb⟩)))
        refine wpQuiet_nil ?_
        intro _ hw
        obtain ⟨⟨w2, hB2⟩, hw⟩ := hw
        subst hw
        have HB2 := hid ((unhid HB).trans (hB2.mono (unhid HB).size))
        clear hB2 hba g0 g1
        all_goals
          go_wp2_with fail
          go_ret
          exact ⟨by rw [unhid E]; rfl, unhid HB2⟩
      · have HX := hid hx
        rw [Bool.and_eq_true, decide_eq_true_eq] at hx
        obtain ⟨x1, x2⟩ := hx
        have y1 := (hkB_parts x1).1
        rcases k with _ | j
        · have hall2 := hid (all_snocH (unhid hall) (by rw [unhid HOk, x1, decide_eq_true (show lst hs 0 ≤ e.at_ from x2)]; rfl))
          have X1 := hid x1
          clear x1
          obtain ⟨c0, c1⟩ := unhid HCK wr (unhid HB)
          simp only [Nat.zero_mul, Nat.add_zero] at c0 c1
          have hbw := Nat.lt_of_lt_of_le hbl (unhid HB).size
          have g0 := BW.cell (B := wr.heap.size) hbw c0
          have g1 := BW.cell (B := wr.heap.size) hbw c1
          clear c0 c1
          go_wp2_with fail
          have hba := @BW.all wr.heap.size wr
          refine calm_region wr.heap.size (by kernel_rfl) (by kernel_rfl) ?_
          repeat (go_big_quiet_step ((go_at_call 45; refine Calls.bw (v := .bool true) (Nat.le_refl _) ((l5Hunk_any e la lc _ (unhid Z2) (unhid Z1) ((unhid HT).below ((unhid HB).trans ((BW.h _).mono (unhid HB).size)))).mono ?_); rintro r w2 ⟨rfl, hb⟩; exact ⟨by rw [unhid HX], hb⟩)))
          refine wpQuiet_nil ?_
          intro _ hw
          obtain ⟨⟨w2, hB2⟩, hw⟩ := hw
          subst hw
          have HB2 := hid ((unhid HB).trans (hB2.mono (unhid HB).size))
          clear hB2 hba g0 g1
          all_goals
            go_wp2_with fail
            go_roundw
            case rel => exact ⟨1, by omega, by go_num, hall2, unhid HB2⟩
            case measure => simp [intOf]; omega
        · obtain ⟨p, hpj⟩ : ∃ p, hs[j]? = some p := ⟨hs[j], List.getElem?_eq_getElem (by omega)⟩
          obtain ⟨la2, lc2, p0, p1, ht2⟩ := unhid HC j p hpj
          obtain ⟨y1', y2'⟩ := unhid HZ p (List.mem_of_getElem? hpj)
          have HCJ := hid (fun (X : World) (hX : Below w.heap.size w X) => And.intro ((hX.cell (p := ⟨b, o + j * 2, .none⟩) hbl).trans p0) ((hX.cell (p := ⟨b, o + j * 2 + 1, .none⟩) hbl).trans p1))
          have hokp : hkB p = true := by
            have := unhid hall
            rw [List.range_succ, List.all_append, Bool.and_eq_true] at this
            have h2 := this.2
            simp only [List.all_cons, List.all_nil, Bool.and_true, okAt, Bool.and_eq_true, hkFn_get hpj] at h2
            exact h2.1
          have hlj : lst hs (j + 1) = p.at_ + (withX 45 p.lines).length := by show endH (hkFn hs j) = _; rw [hkFn_get hpj]; rfl
          obtain ⟨r1, r2, r3⟩ := hkB_parts hokp
          have hold : (oldX 43 p.lines).length = (withX 45 p.lines).length := by rw [old_with (fun x hx => List.all_eq_true.1 r3 x hx)]
          have HT2 := hid ht2
          have HY2 := hid (fun x hx => And.intro (linesB_pos r3 x hx) (y1' x hx))
          have HOLD := hid hold
          have HLJ := hid hlj
          have X1 := hid x1
          have hp1 := unhid HP
          rw [hlj] at hp1
          have hwn : (withX 45 p.lines).length ≤ 30 := Nat.le_trans (withX_len _ _) r2
          have hpl : p.lines.length ≤ 1048576 := by omega
          clear x1 p0 p1 ht2 y1' y2' hokp hlj r3 hold hpj r2
          obtain ⟨c0, c1⟩ := unhid HCK wr (unhid HB)
          obtain ⟨e0, e1⟩ := unhid HCJ wr (unhid HB)
          generalize hn : (withX 45 p.lines).length = n at *
          have HN2 := hid hn
          clear hn
          have hbw := Nat.lt_of_lt_of_le hbl (unhid HB).size
          have g0 : ∀ x : CW (fun w' => Below wr.heap.size wr w'), x.w.cell? ⟨b, o + (j + 1) * 2, none⟩ = some (.int .i64 e.at_) := fun x => (x.h.cell (p := ⟨b, o + (j + 1) * 2, .none⟩) hbw).trans c0
          have g1 : ∀ x : CW (fun w' => Below wr.heap.size wr w'), x.w.cell? ⟨b, o + (j + 1) * 2 + 1, none⟩ = some (.slice la e.lines.length lc) := fun x => (x.h.cell (p := ⟨b, o + (j + 1) * 2 + 1, .none⟩) hbw).trans c1
          have g2 : ∀ x : CW (fun w' => Below wr.heap.size wr w'), x.w.cell? ⟨b, o + j * 2, none⟩ = some (.int .i64 p.at_) := fun x => (x.h.cell (p := ⟨b, o + j * 2, .none⟩) hbw).trans e0
          have g3 : ∀ x : CW (fun w' => Below wr.heap.size wr w'), x.w.cell? ⟨b, o + j * 2 + 1, none⟩ = some (.slice la2 p.lines.length lc2) := fun x => (x.h.cell (p := ⟨b, o + j * 2 + 1, .none⟩) hbw).trans e1
          clear c0 c1 e0 e1
          go_wp2_with fail
          have hba : ∀ {q : Prop}, (CW (fun w' => Below wr.heap.size wr w') → q) ↔ q := CW.all (Below.refl _ wr)
          refine held_begin (fun w' => Below wr.heap.size wr w') (by kernel_rfl) (drew_belowX _) ?_
          refine held_take [true, true, true, true] (by kernel_rfl) (by kernel_rfl) (fun _ _ _ _ _ h => h) (drew_belowX _) ?_
          dsimp only [pick]
          repeat (go_big_quiet_step (fail))
          refine wpQuiet_nil ?_
          intro x1
          refine held_call 4 45 14 (enters_of Try.func45 (by kernel_rfl) rfl) #[.agg #[.int .i64 e.at_, .slice la e.lines.length lc]] (by kernel_rfl) (by kernel_rfl) rfl rfl rfl rfl rfl ?_
          refine (l5Hunk_any e la lc _ (unhid Z2) (unhid Z1) ((unhid HT).below ((unhid HB).trans (x1.h.mono (unhid HB).size)))).mono ?_
          rintro r w2 ⟨rfl, hb⟩
          rw [unhid HX]
          refine ⟨_, rfl, x1.h.trans (hb.mono x1.h.size), ?_⟩
          simp only [Act.put, List.setIfInBounds_toArray, List.set_cons_zero, List.set_cons_succ]
          have hB2 := x1.h.trans (hb.mono x1.h.size)
          clear hb
          have hjj : ((j + 1 : Nat) : Int) - 1 = (j : Int) := by omega
          by_cases hlt2 : e.at_ < p.at_ + n
          · have E := hid (unhid HN (by rw [unhid HOk, unhid HLJ, decide_eq_false (by omega), Bool.and_false]))
            refine held_take [false, false, false, false, false, true, true, true, true, true, true, true, true, true, true, true, true, true, true, true, true, true, true, true, true, true] (by kernel_rfl) (by kernel_rfl) (fun _ _ _ _ _ h => h) hB2 ?_
            dsimp only [pick]
            repeat (go_big_quiet_step (fail))
            refine wpQuiet_nil ?_
            intro x2
            refine held_call 26 46 36 (enters_of Try.func46 (by kernel_rfl) rfl) #[.agg #[.int .i64 p.at_, .slice la2 p.lines.length lc2]] (by kernel_rfl) (by kernel_rfl) rfl rfl rfl rfl rfl ?_
            refine (l5Old_any p la2 lc2 _ hpl (unhid HY2) ((unhid HT2).below ((unhid HB).trans (x2.h.mono (unhid HB).size)))).mono ?_
            rintro r w3 ⟨v, rfl, ho, hb⟩
            obtain ⟨va, vc, rfl⟩ := ownsRow_sliceX ho
            rw [unhid HOLD]
            refine ⟨_, rfl, x2.h.trans (hb.mono x2.h.size), ?_⟩
            simp only [Act.put, List.setIfInBounds_toArray, List.set_cons_zero, List.set_cons_succ]
            have hB3 := x2.h.trans (hb.mono x2.h.size)
            clear hb ho
            refine held_take [false, false, false, false, false, false, false, false, false, false, false, false, false, false, false, false, false, false, false, false, false, false, false, false, false, false, false, true, true, true, true, true] (by kernel_rfl) (by kernel_rfl) (fun _ _ _ _ _ h => h) hB3 ?_
            dsimp only [pick]
            repeat (go_big_quiet_step (fail))
            refine wpQuiet_nil ?_
            intro x3
            refine held_done (by kernel_rfl) ?_
            have HB2 := hid ((unhid HB).trans (x3.h.mono (unhid HB).size))
            generalize x3.w = w9 at HB2 ⊢
            clear hba g0 g1 g2 g3
            go_wp2_with fail
            go_ret
            exact ⟨by rw [unhid E]; rfl, unhid HB2⟩
          · have hall2 := hid (all_snocH (unhid hall) (by rw [unhid HOk, unhid HLJ, unhid X1, decide_eq_true (by omega)]; rfl))
            refine held_take [false, false, false, false, false, true, true, true, true, true, true, true, true, true, true, true, true, true, true, true, true, true, true, true, true, true] (by kernel_rfl) (by kernel_rfl) (fun _ _ _ _ _ h => h) hB2 ?_
            dsimp only [pick]
            repeat (go_big_quiet_step (fail))
            refine wpQuiet_nil ?_
            intro x2
            refine held_call 26 46 36 (enters_of Try.func46 (by kernel_rfl) rfl) #[.agg #[.int .i64 p.at_, .slice la2 p.lines.length lc2]] (by kernel_rfl) (by kernel_rfl) rfl rfl rfl rfl rfl ?_
            refine (l5Old_any p la2 lc2 _ hpl (unhid HY2) ((unhid HT2).below ((unhid HB).trans (x2.h.mono (unhid HB).size)))).mono ?_
            rintro r w3 ⟨v, rfl, ho, hb⟩
            obtain ⟨va, vc, rfl⟩ := ownsRow_sliceX ho
            rw [unhid HOLD]
            refine ⟨_, rfl, x2.h.trans (hb.mono x2.h.size), ?_⟩
            simp only [Act.put, List.setIfInBounds_toArray, List.set_cons_zero, List.set_cons_succ]
            have hB3 := x2.h.trans (hb.mono x2.h.size)
            clear hb ho
            refine held_take [false, false, false, false, false, false, false, false, false, false, false, false, false, false, false, false, false, false, false, false, false, false, false, false, false, false, false, true, true, true, true, true] (by kernel_rfl) (by kernel_rfl) (fun _ _ _ _ _ h => h) hB3 ?_
            dsimp only [pick]
            repeat (go_big_quiet_step (fail))
            refine wpQuiet_nil ?_
            intro x3
            refine held_done (by kernel_rfl) ?_
            have HB2 := hid ((unhid HB).trans (x3.h.mono (unhid HB).size))
            generalize x3.w = w9 at HB2 ⊢
            clear hba g0 g1 g2 g3
            go_wp2_with fail
            go_roundw
            case rel => exact ⟨j + 1 + 1, by omega, by go_num, hall2, unhid HB2⟩
            case measure => simp [intOf]; omega
    · have e : k = hs.length := by omega
      subst e
      have E := hid (show hunksB hs = decide ((hs.length : Int) ≤ 4) by unfold hunksB; rw [unhid hall, Bool.true_and])
      go_wp2_with fail
      go_ret
      exact ⟨by rw [unhid E]; rfl, hB⟩
end Go.Proofs.Ytedimkcnemhhpaa

/- A hunk that makes lines of others, by the model. -/
namespace Go.Proofs.Ytedimkcnemhhpaa
open Go.RowKit Go.Shelf

/-- Whether lines stand in others, so many lines on. -/
def standB (ls : List ByteArray) (at_ : Int) (old : List ByteArray) : Bool := decide (0 ≤ at_) && (decide (at_ + (old.length : Int) ≤ (ls.length : Int)) && decide ((ls.drop at_.toNat).take old.length = old))
theorem part_same {ls old : List ByteArray} {k : Nat} (hl : k + old.length ≤ ls.length) : (ls.drop k).take old.length = old ↔ ∀ i, i < old.length → txtFn ls (k + i) = txtFn old i := by
  have hp : ∀ i, i < old.length → txtFn ((ls.drop k).take old.length) i = txtFn ls (k + i) := fun i hi => by
    refine txtFn_get ?_
    rw [List.getElem?_take_of_lt hi, List.getElem?_drop]
    exact txtFn_some (by omega)
  refine ⟨fun h i hi => by rw [← hp i hi, h], fun h => txts_ext (part_len _ _ _ hl) (fun i hi => ?_)⟩
  rw [part_len _ _ _ hl] at hi
  rw [hp i hi, h i hi]

set_option maxRecDepth 100000 in
set_option maxHeartbeats 2000000 in
theorem l5Same_any (ls old : List ByteArray) (a b : Option Addr) (cap cap2 : Nat) (at_ : Int) (w : World) (hx : ls.length ≤ 1048576) (hy : old.length ≤ 1048576) (ha : -1048576 ≤ at_ ∧ at_ ≤ 1048576) (h : TxtsAt w a ls) (h2 : TxtsAt w b old) :
    Calls Try.prog 52 #[.slice a ls.length cap, .int .i64 at_, .slice b old.length cap2] w fun r w' => r = .returned (.bool (standB ls at_ old)) ∧ Below w.heap.size w w' := by
  obtain ⟨ha1, ha2⟩ := ha
  by_cases h0 : at_ < 0
  · have E := hid (show standB ls at_ old = false by unfold standB; rw [decide_eq_false (by omega)]; rfl)
    go_enter Try.func52, Try.ntmps52
    go_wp2_with fail
    go_ret
    exact ⟨by rw [unhid E]; rfl, Below.refl _ _⟩
  by_cases h1 : (ls.length : Int) < at_ + (old.length : Int)
  · have E := hid (show standB ls at_ old = false by unfold standB; rw [decide_eq_false (show ¬ (at_ + (old.length : Int) ≤ (ls.length : Int)) by omega)]; simp)
    go_enter Try.func52, Try.ntmps52
    go_wp2_with fail
    go_ret
    exact ⟨by rw [unhid E]; rfl, Below.refl _ _⟩
  obtain ⟨k, rfl⟩ : ∃ k : Nat, at_ = (k : Int) := ⟨at_.toNat, by omega⟩
  have hl : k + old.length ≤ ls.length := by omega
  have E := hid (show standB ls (k : Int) old = decide ((ls.drop k).take old.length = old) by unfold standB; rw [decide_eq_true (show (0 : Int) ≤ (k : Int) by omega), decide_eq_true (show (k : Int) + (old.length : Int) ≤ (ls.length : Int) by omega)]; rfl)
  have HP := hid (part_same (old := old) hl)
  clear h0 h1 ha1 ha2
  go_enter Try.func52, Try.ntmps52
  go_wp2_with fail
  go_loopw [7] (fun i wr => ∃ j : Nat, j ≤ old.length ∧ i = .int .i64 j ∧ Hid (∀ i, i < j → txtFn ls (k + i) = txtFn old i) ∧ Below w.heap.size w wr) (fun i _ => old.length - (intOf i).toNat)
  case atStart => exact ⟨0, Nat.zero_le _, rfl, hid (fun i hi => absurd hi (Nat.not_lt_zero _)), Below.refl _ _⟩
  case round =>
    obtain ⟨j, hj, rfl, hall, hB⟩ := hrel
    by_cases hlt : j < old.length
    · have hxk := txtFn_some (xs := ls) (i := k + j) (by omega)
      have hyk := txtFn_some (xs := old) (i := j) hlt
      obtain ⟨bb, o, rfl, hbl, hc⟩ := h.get (by intro e; subst e; simp at hxk)
      obtain ⟨bb2, o2, rfl, hbl2, hc2⟩ := h2.get (by intro e; subst e; simp at hyk)
      have c0 := (hB.cell (p := ⟨bb, o + (k + j), .none⟩) hbl).trans (hc _ _ hxk)
      have d0 := (hB.cell (p := ⟨bb2, o2 + j, .none⟩) hbl2).trans (hc2 _ _ hyk)
      have HB := hid hB
      have HH := hid (And.intro h (And.intro h2 (And.intro hc hc2)))
      have n1 : ((k : Int) + (j : Int)).toNat = k + j := by omega
      have n2 : k + j < ls.length := by omega
      clear hc hc2 hB h h2 hxk hyk
      by_cases he : txtFn ls (k + j) = txtFn old j
      · obtain ⟨q1, q2⟩ := txt_yes he
        have HE := hid he
        clear he
        generalize hgx : txtFn ls (k + j) = x at *
        generalize hgy : txtFn old j = y at *
        have HG := hid (And.intro hgx hgy)
        clear hgx hgy
        go_wp2_with fail
        go_quiet (fail)
        go_wp2_with fail
        go_roundw
        case rel => exact ⟨j + 1, by omega, by go_num, hid (fun i hi => (Nat.lt_succ_iff_lt_or_eq.1 hi).elim (fun h => unhid hall i h) (fun h => by subst h; rw [(unhid HG).1, (unhid HG).2, unhid HE])), ⟨(unhid HB).os, (unhid HB).tape, (unhid HB).output, (unhid HB).size, (unhid HB).block⟩⟩
        case measure => simp [intOf]; omega
      · obtain ⟨q1, q2⟩ := txt_no he
        have E2 := hid (show standB ls (k : Int) old = false by rw [unhid E, decide_eq_false_iff_not, unhid HP]; exact fun h => he (h j hlt))
        clear he
        generalize txtFn ls (k + j) = x at *
        generalize txtFn old j = y at *
        go_wp2_with fail
        go_quiet (fail)
        go_wp2_with fail
        go_ret
        exact ⟨by rw [unhid E2]; rfl, ⟨(unhid HB).os, (unhid HB).tape, (unhid HB).output, (unhid HB).size, (unhid HB).block⟩⟩
    · have e : j = old.length := by omega
      subst e
      have E2 := hid (show standB ls (k : Int) old = true by rw [unhid E, decide_eq_true_eq, unhid HP]; exact unhid hall)
      go_wp2_with fail
      go_ret
      exact ⟨by rw [unhid E2]; rfl, hB⟩
end Go.Proofs.Ytedimkcnemhhpaa

/- A hunk that makes lines of others, by the model. -/
namespace Go.Proofs.Ytedimkcnemhhpaa
open Go.RowKit Go.Shelf

theorem TwoAt.block {W W' : World} {b : Nat} {x : Int} {v : Value} (h : TwoAt W b x v) (hb : W'.heap[b]? = W.heap[b]?) : TwoAt W' b x v :=
  ⟨⟨(World.cell?_of_block (w := W) hb).trans h.1.1, (World.frozen?_of_block (w := W) hb).trans h.1.2⟩, (World.cell?_of_block (w := W) hb).trans h.2.1, (World.frozen?_of_block (w := W) hb).trans h.2.2⟩
theorem TwoAt.set1 {W : World} {b : Nat} {x : Int} {v : Value} (h : TwoAt W b x v) (y : Value) : TwoAt (W.setCell ⟨b, 1, .none⟩ y) b x y := by
  obtain ⟨⟨c0, f0⟩, c1, f1⟩ := h
  refine ⟨⟨?_, ?_⟩, ?_, ?_⟩ <;> simp [go_sem, World.cell?_setCell_same', c0, c1, f0, f1]
/-- A hunk in the making: its two cells, and the row of its lines. -/
structure DiffSt (w W : World) (g : Nat) (at_ : Int) (L : List ByteArray) (v : Value) : Prop where
  lo : w.heap.size ≤ g
  lt : g < W.heap.size
  two : TwoAt W g at_ v
  own : W.ownsRow w.heap.size 9 1 v L.length (L.map Value.string)
  ne : v.ownBlock ≠ some g
  below : Below w.heap.size w W
theorem DiffSt.step {w W W' : World} {g : Nat} {at_ : Int} {L : List ByteArray} {v : Value} (h : DiffSt w W g at_ L v) (hb : Below W.heap.size W W') : DiffSt w W' g at_ L v :=
  ⟨h.lo, Nat.lt_of_lt_of_le h.lt hb.size, h.two.block (hb.block g h.lt), owns_belowX h.own hb, h.ne, h.below.trans (hb.mono h.below.size)⟩
theorem DiffSt.app {w W W' : World} {g : Nat} {at_ : Int} {L ys : List ByteArray} {v v' : Value} (h : DiffSt w W g at_ L v) (hown : W'.ownsRow w.heap.size 9 1 v' (L ++ ys).length ((L ++ ys).map Value.string)) (hg : W.grownBy W' v.ownBlock) (hat : v'.ownBlock = v.ownBlock ∨ v'.ownBlock = some W.heap.size) :
    TwoAt W' g at_ v ∧ Below w.heap.size w W' ∧ DiffSt w (W'.setCell ⟨g, 1, none⟩ v') g at_ (L ++ ys) v' := by
  have hlt' : g < W'.heap.size := Nat.lt_of_lt_of_le h.lt hg.size
  have h2 : TwoAt W' g at_ v := h.two.block (hg.block g h.lt (fun e => h.ne e.symm))
  have hne : v'.ownBlock ≠ some g := by
    rcases hat with e | e <;> rw [e]
    · exact h.ne
    · intro e; cases e; exact Nat.lt_irrefl _ h.lt
  have hB : Below w.heap.size w W' := h.below.grown hg h.below.size (fun k e => (h.own.lt k e).1)
  refine ⟨h2, hB, h.lo, by simpa using hlt', h2.set1 v', ?_, hne, hB.setCell (p := ⟨g, 1, none⟩) h.lo _⟩
  refine ⟨hown.1, hown.2.imp id (fun ⟨g2, cap, cur, a, b, c, d⟩ => ⟨g2, cap, cur, a, b, ?_, d⟩)⟩
  rw [Below.heap_setCell _ _ _ _ (by dsimp only; intro e; subst e; subst a; exact hne rfl)]
  exact c
theorem signX_snoc (c : UInt8) (xs : List ByteArray) (l m : Nat) (x : ByteArray) (h : xs[l + m]? = some x) : signX c ((xs.drop l).take (m + 1)) = signX c ((xs.drop l).take m) ++ [(⟨#[c]⟩ : ByteArray) ++ x] := by
  unfold signX
  rw [List.take_add_one, List.getElem?_drop, h, List.map_append]; rfl
theorem one_new (W : World) (x : ByteArray) : TxtsAt (W.alloc (.cells #[.string x] 9)) (some ⟨W.heap.size, 0, none⟩) [x] := by
  have hh := World.alloc_heap_new W (.cells #[.string x] 9)
  refine .inr ⟨W.heap.size, 0, rfl, (Array.getElem?_eq_some_iff.1 hh).1, fun i y hi => ?_⟩
  match i, hi with
  | 0, hi => cases hi; exact cell_in hh 0 _ rfl
  | i + 1, hi => simp at hi
theorem emptyHks (W : World) (N : Nat) (hN : N ≤ W.heap.size) : HksOwn (W.alloc (.cells #[] 46)) N (.slice (some ⟨W.heap.size, 0, none⟩) 0 0) [] :=
  .inr ⟨W.heap.size, rfl, hN, World.alloc_heap_new _ _⟩

theorem hunksB_is (h : Hk) : hunksB [h] = (hkB h && decide (1 ≤ h.at_)) := by
  unfold hunksB
  simp only [List.length_cons, List.length_nil, Nat.zero_add, List.range_succ, List.range_zero, List.nil_append, List.all_cons, List.all_nil, Bool.and_true]
  show (okAt [h] 0 && true) = _
  rw [Bool.and_true]; rfl
theorem tail_eq (xs ys : List ByteArray) : dTail xs ys = runP (sameZ xs ys) 0 (min (xs.length - aheadN xs ys) (ys.length - aheadN xs ys)) := by
  unfold dTail behindN
  rw [List.length_drop, List.length_drop]
  refine runP_congr _ _ (fun i _ hi => ?_)
  unfold sameZ
  have e : ∀ zs : List ByteArray, i < zs.length - aheadN xs ys → txtFn (zs.drop (aheadN xs ys)) ((zs.drop (aheadN xs ys)).length - 1 - i) = txtFn zs (zs.length - 1 - i) := fun zs hz => by
    refine txtFn_get ?_
    rw [List.getElem?_drop, List.length_drop, show aheadN xs ys + (zs.length - aheadN xs ys - 1 - i) = zs.length - 1 - i by omega]
    exact txtFn_some (by omega)
  rw [e xs (by omega), e ys (by omega)]

set_option maxRecDepth 100000 in
set_option maxHeartbeats 16000000 in
theorem specDiffOf_any (xs ys : List ByteArray) (a b : Option Addr) (cap cap2 : Nat) (w : World) (hx : xs.length ≤ maxLen) (hy : ys.length ≤ maxLen) (hz : bigX xs) (hz2 : bigX ys) (h : TxtsAt w a xs) (h2 : TxtsAt w b ys) :
    Calls Try.prog 21 #[.slice a xs.length cap, .slice b ys.length cap2] w fun r w' => ∃ v, r = .returned v ∧ HksOwn w' w.heap.size v (diffL xs ys) ∧ Below w.heap.size w w' := by
  have HA := hid h
  have HB := hid h2
  have HX := hid hx
  have HY := hid hy
  have HZ := hid hz
  have HZ2 := hid hz2
  have TA := hid (l5Lines_any xs a cap w hz hx h)
  have HA0 : Hid (Below w.heap.size w (w.alloc (.cells #[] 46))) := hid ((Below.refl _ w).alloc (Nat.le_refl _) _)
  clear h h2 hz hz2 hx hy
  have HD : Hid (diffB xs ys = (textB xs && (textB ys && (!decide (xs = ys) && hunksB [dHunk xs ys])))) := hid rfl
  go_enter Try.func21, Try.ntmps21
  go_upto_region 1 with fail
  go_cut [32] from 13 (fun s wx => s = .bool (!(textB xs && (textB ys && !decide (xs = ys)))) ∧ Hid (Below w.heap.size w wx))
  case first =>
    as_aux_lemma =>
      go_wp2_with fail
      refine (unhid TA).mono ?_
      rintro r w1 ⟨rfl, hw1⟩
      subst hw1
      clear TA
      cases ta : textB xs
      · have T1 := hid ta
        clear ta
        go_wp2_with fail
        go_meet
        case rel => exact ⟨by rw [unhid T1]; rfl, hid (Below.refl _ _)⟩
      have lx := (textB_parts ta).1
      have T1 := hid ta
      clear ta
      go_wp2_with fail
      refine (l5Lines_any ys b cap2 w1 (unhid HZ2) (unhid HY) (unhid HB)).mono ?_
      rintro r w2 ⟨rfl, hw2⟩
      subst hw2
      cases tb : textB ys
      · have T2 := hid tb
        clear tb
        go_wp2_with fail
        go_meet
        case rel => exact ⟨by rw [unhid T1, unhid T2]; rfl, hid (Below.refl _ _)⟩
      have ly := (textB_parts tb).1
      have T2 := hid tb
      clear tb
      by_cases hle : xs.length = ys.length
      · have q1 : ((xs.length : Int) == (ys.length : Int)) = true := by rw [beq_iff_eq]; omega
        have LS := hid (l5Same_any xs ys a b cap cap2 0 w2 (by omega) (by omega) (by omega) (unhid HA) (unhid HB))
        have HSM := hid (show standB xs 0 ys = decide (xs = ys) by
          rw [Bool.eq_iff_iff]
          simp only [Bool.and_eq_true, decide_eq_true_eq, standB]
          constructor
          · rintro ⟨_, e2, e3⟩
            rw [show (0 : Int).toNat = 0 from rfl, List.drop_zero, List.take_of_length_le (by omega)] at e3
            exact e3
          · rintro rfl
            refine ⟨by omega, by omega, ?_⟩
            rw [show (0 : Int).toNat = 0 from rfl, List.drop_zero, List.take_of_length_le (Nat.le_refl _)])
        clear hle
        go_wp2_with fail
        refine (unhid LS).mono ?_
        rintro r w3 ⟨rfl, hb⟩
        rw [unhid HSM]
        have HBB := hid hb
        clear hb LS HSM
        cases hq : decide (xs = ys)
        all_goals
          have T3 := hid hq
          clear hq
          go_wp2_with fail
          go_meet
          case rel => exact ⟨by rw [unhid T1, unhid T2, unhid T3]; rfl, HBB⟩
      · have q1 : ((xs.length : Int) == (ys.length : Int)) = false := by rw [beq_eq_false_iff_ne]; omega
        have te : decide (xs = ys) = false := by rw [decide_eq_false_iff_not]; intro e; exact hle (by rw [e])
        have T3 := hid te
        clear te hle
        go_wp2_with fail
        go_meet
        case rel => exact ⟨by rw [unhid T1, unhid T2, unhid T3]; rfl, hid (Below.refl _ _)⟩
  case rest =>
    obtain ⟨rfl, HBC⟩ := hcut
    clear TA HA0
    cases hcond : (textB xs && (textB ys && !decide (xs = ys)))
    · have E := hid (show diffL xs ys = [] by
        have : diffB xs ys = ((textB xs && (textB ys && !decide (xs = ys))) && hunksB [dHunk xs ys]) := by rw [unhid HD]; simp only [Bool.and_assoc]
        unfold diffL; rw [this, hcond]; rfl)
      have HE := hid (emptyHks wc w.heap.size (unhid HBC).size)
      have HB2 := hid ((unhid HBC).alloc (unhid HBC).size (.cells #[] 46))
      clear hcond HD
      go_wp2_with fail
      go_ret
      exact ⟨_, rfl, by rw [unhid E]; exact unhid HE, unhid HB2⟩
    have hc3 := hcond
    simp only [Bool.and_eq_true, Bool.not_eq_true', decide_eq_false_iff_not] at hc3
    obtain ⟨ta, tb, hne⟩ := hc3
    have TAA := hid ta
    have TBB := hid tb
    have lx := (textB_parts ta).1
    have ly := (textB_parts tb).1
    have HD2 := hid (show diffB xs ys = hunksB [dHunk xs ys] by rw [unhid HD, ta, tb, decide_eq_false hne]; rfl)
    clear hcond HD ta tb hne
    have HA1 := hid ((unhid HA).below (unhid HBC))
    have HB1 := hid ((unhid HB).below (unhid HBC))
    obtain ⟨l1, l2⟩ := ahead_le xs ys
    obtain ⟨l3, l4⟩ := tail_le xs ys
    go_upto_block 0 with fail
    go_cut [5] from 13 (fun s wx => s = .int .i64 ((aheadN xs ys : Nat) : Int) ∧ Hid (Below w.heap.size w wx))
    case first =>
      as_aux_lemma =>
        clear l3 l4 l1 l2
        go_wp2_with fail
        go_loopw [5] (fun i wr => ∃ k : Nat, k ≤ min xs.length ys.length ∧ i = .int .i64 k ∧ Hid (∀ i, i < k → sameA xs ys i = true) ∧ Hid (Below w.heap.size w wr)) (fun i _ => min xs.length ys.length - (intOf i).toNat)
        case atStart => exact ⟨0, Nat.zero_le _, rfl, hid (fun i hi => absurd hi (Nat.not_lt_zero _)), HBC⟩
        case round =>
          obtain ⟨k, hk, rfl, hall, HB0⟩ := hrel
          have HR := hid (show ∀ n, Below w.heap.size w (wr.drewN n) from fun n => ⟨(unhid HB0).os, (unhid HB0).tape, (unhid HB0).output, (unhid HB0).size, (unhid HB0).block⟩)
          by_cases hlt : k < min xs.length ys.length
          · have hxk := txtFn_some (xs := xs) (i := k) (by omega)
            have hyk := txtFn_some (xs := ys) (i := k) (by omega)
            obtain ⟨bb, o, rfl, hbl, hc⟩ := (unhid HA).get (by intro e; subst e; simp at hxk)
            obtain ⟨bb2, o2, rfl, hbl2, hc2⟩ := (unhid HB).get (by intro e; subst e; simp at hyk)
            have c0 := ((unhid HB0).cell (p := ⟨bb, o + k, .none⟩) hbl).trans (hc k _ hxk)
            have d0 := ((unhid HB0).cell (p := ⟨bb2, o2 + k, .none⟩) hbl2).trans (hc2 k _ hyk)
            have p1 : k < xs.length := by omega
            have p2 : k < ys.length := by omega
            clear hc hc2 hxk hyk
            by_cases he : txtFn xs k = txtFn ys k
            · obtain ⟨q1, q2⟩ := txt_yes he
              have HE := hid (show sameA xs ys k = true from decide_eq_true he)
              clear he
              generalize txtFn xs k = x at *
              generalize txtFn ys k = y at *
              go_wp2_with fail
              go_quiet (fail)
              go_wp2_with fail
              go_roundw
              case rel => exact ⟨k + 1, by omega, by go_num, hid (fun i hi => (Nat.lt_succ_iff_lt_or_eq.1 hi).elim (fun h => unhid hall i h) (fun h => by subst h; exact unhid HE)), hid (unhid HR _)⟩
              case measure => simp [intOf]; omega
            · obtain ⟨q1, q2⟩ := txt_no he
              have E := hid (show aheadN xs ys = k from runP_eq _ 0 k (Nat.le_of_lt hlt) (fun i hi => by rw [Nat.zero_add]; exact unhid hall i hi) (.inr (by rw [Nat.zero_add]; exact decide_eq_false he)))
              clear he
              generalize txtFn xs k = x at *
              generalize txtFn ys k = y at *
              go_wp2_with fail
              go_quiet (fail)
              go_wp2_with fail
              go_meet
              case rel => exact ⟨by rw [unhid E], hid (unhid HR _)⟩
          · have e : k = min xs.length ys.length := by omega
            have E := hid (show aheadN xs ys = k from runP_eq _ 0 k hk (fun i hi => by rw [Nat.zero_add]; exact unhid hall i hi) (.inl e))
            by_cases dx : k < xs.length
            · have dy : ¬ k < ys.length := by omega
              clear e
              go_wp2_with fail
              go_quiet (fail)
              go_wp2_with fail
              go_meet
              case rel => exact ⟨by rw [unhid E], hid (unhid HR _)⟩
            · clear e
              go_wp2_with fail
              go_quiet (fail)
              go_wp2_with fail
              go_meet
              case rel => exact ⟨by rw [unhid E], hid (unhid HR _)⟩
    case rest =>
      rename_i wc0
      clear HBC HA1 HB1
      obtain ⟨rfl, HBC⟩ := hcut
      have HTE := hid (tail_eq xs ys)
      have HF1 := hid (show dFirst xs ys = aheadN xs ys - min (aheadN xs ys) 2 from rfl)
      have HF2 := hid (show dLast xs ys = xs.length - dTail xs ys + min (dTail xs ys) 2 from rfl)
      have HDH := hid (show dHunk xs ys = ⟨(dFirst xs ys : Int) + 1, dLines xs ys⟩ from rfl)
      have HL := hid (show dLines xs ys = signX 32 ((xs.drop (dFirst xs ys)).take (aheadN xs ys - dFirst xs ys)) ++ (signX 45 ((xs.drop (aheadN xs ys)).take (xs.length - dTail xs ys - aheadN xs ys)) ++
        (signX 43 ((ys.drop (aheadN xs ys)).take (ys.length - dTail xs ys - aheadN xs ys)) ++ signX 32 ((xs.drop (xs.length - dTail xs ys)).take (dLast xs ys - (xs.length - dTail xs ys))))) from rfl)
      generalize dFirst xs ys = f at *
      generalize dLast xs ys = l at *
      generalize dTail xs ys = t at *
      generalize aheadN xs ys = h at *
      go_upto_block 2 with fail
      go_cut [6] from 13 (fun s wx => s = .int .i64 ((t : Nat) : Int) ∧ Hid (Below w.heap.size w wx))
      case first =>
        as_aux_lemma =>
          clear l3 l4
          go_wp2_with fail
          go_loopw [6] (fun i wr => ∃ k : Nat, k ≤ min (xs.length - h) (ys.length - h) ∧ i = .int .i64 k ∧ Hid (∀ i, i < k → sameZ xs ys i = true) ∧ Hid (Below w.heap.size w wr)) (fun i _ => min (xs.length - h) (ys.length - h) - (intOf i).toNat)
          case atStart => exact ⟨0, Nat.zero_le _, rfl, hid (fun i hi => absurd hi (Nat.not_lt_zero _)), HBC⟩
          case round =>
            obtain ⟨k, hk, rfl, hall, HB0⟩ := hrel
            have HR := hid (show ∀ n, Below w.heap.size w (wr.drewN n) from fun n => ⟨(unhid HB0).os, (unhid HB0).tape, (unhid HB0).output, (unhid HB0).size, (unhid HB0).block⟩)
            by_cases hlt : k < min (xs.length - h) (ys.length - h)
            · have hxk := txtFn_some (xs := xs) (i := xs.length - 1 - k) (by omega)
              have hyk := txtFn_some (xs := ys) (i := ys.length - 1 - k) (by omega)
              obtain ⟨bb, o, rfl, hbl, hc⟩ := (unhid HA).get (by intro e; subst e; simp at hxk)
              obtain ⟨bb2, o2, rfl, hbl2, hc2⟩ := (unhid HB).get (by intro e; subst e; simp at hyk)
              have c0 := ((unhid HB0).cell (p := ⟨bb, o + (xs.length - 1 - k), .none⟩) hbl).trans (hc _ _ hxk)
              have d0 := ((unhid HB0).cell (p := ⟨bb2, o2 + (ys.length - 1 - k), .none⟩) hbl2).trans (hc2 _ _ hyk)
              have p1 : (k : Int) < (xs.length : Int) - (h : Int) := by omega
              have p2 : (k : Int) < (ys.length : Int) - (h : Int) := by omega
              have n1 : ((xs.length : Int) - 1 - (k : Int)).toNat = xs.length - 1 - k := by omega
              have n2 : ((ys.length : Int) - 1 - (k : Int)).toNat = ys.length - 1 - k := by omega
              clear hc hc2 hxk hyk
              by_cases he : txtFn xs (xs.length - 1 - k) = txtFn ys (ys.length - 1 - k)
              · obtain ⟨q1, q2⟩ := txt_yes he
                have HE := hid (show sameZ xs ys k = true from decide_eq_true he)
                clear he
                generalize txtFn xs (xs.length - 1 - k) = x at *
                generalize txtFn ys (ys.length - 1 - k) = y at *
                go_wp2_with fail
                go_quiet (fail)
                go_wp2_with fail
                go_roundw
                case rel => exact ⟨k + 1, by omega, by go_num, hid (fun i hi => (Nat.lt_succ_iff_lt_or_eq.1 hi).elim (fun h => unhid hall i h) (fun h => by subst h; exact unhid HE)), hid (unhid HR _)⟩
                case measure => simp [intOf]; omega
              · obtain ⟨q1, q2⟩ := txt_no he
                have E := hid (show t = k by rw [unhid HTE]; exact runP_eq _ 0 k (Nat.le_of_lt hlt) (fun i hi => by rw [Nat.zero_add]; exact unhid hall i hi) (.inr (by rw [Nat.zero_add]; exact decide_eq_false he)))
                clear he
                generalize txtFn xs (xs.length - 1 - k) = x at *
                generalize txtFn ys (ys.length - 1 - k) = y at *
                go_wp2_with fail
                go_quiet (fail)
                go_wp2_with fail
                go_meet
                case rel => exact ⟨by rw [unhid E], hid (unhid HR _)⟩
            · have e : k = min (xs.length - h) (ys.length - h) := by omega
              have E := hid (show t = k by rw [unhid HTE]; exact runP_eq _ 0 k hk (fun i hi => by rw [Nat.zero_add]; exact unhid hall i hi) (.inl e))
              by_cases dx : (k : Int) < (xs.length : Int) - (h : Int)
              · have dy : decide ((k : Int) < (ys.length : Int) - (h : Int)) = false := by rw [decide_eq_false_iff_not]; omega
                clear e
                go_wp2_with fail
                go_quiet (fail)
                go_wp2_with fail
                go_meet
                case rel => exact ⟨by rw [unhid E], hid (unhid HR _)⟩
              · have dy : decide ((k : Int) < (xs.length : Int) - (h : Int)) = false := by rw [decide_eq_false_iff_not]; exact dx
                clear e dx
                go_wp2_with fail
                go_quiet (fail)
                go_wp2_with fail
                go_meet
                case rel => exact ⟨by rw [unhid E], hid (unhid HR _)⟩
      case rest =>
        clear HBC HTE
        obtain ⟨rfl, HBC⟩ := hcut
        have m1 : f ≤ h := by have := unhid HF1; omega
        have m2 : l ≤ xs.length := by have := unhid HF2; omega
        have m3 : xs.length - t ≤ l := by have := unhid HF2; omega
        go_upto_if 95 with fail
        go_cut [7] from 13 (fun s wx => s = .int .i64 ((f : Nat) : Int) ∧ Hid (Below w.heap.size w wx))
        case first =>
          as_aux_lemma =>
            have ef := unhid HF1
            rcases Nat.lt_or_ge h 2 with hh | hh
            · have E := hid (show (0 : Int) = (f : Int) by omega)
              clear ef
              go_wp2_with fail
              go_meet
              case rel => exact ⟨by rw [← unhid E], HBC⟩
            · have E := hid (show (h : Int) - 2 = (f : Int) by omega)
              clear ef
              go_wp2_with fail
              go_meet
              case rel => exact ⟨by rw [unhid E], HBC⟩
        case rest =>
          clear HBC
          obtain ⟨rfl, HBC⟩ := hcut
          go_wp2_with fail
          have DS0 := hid (show DiffSt w (wc.alloc (.cells #[.int .i64 ((f : Int) + 1), .slice none 0 0] 46)) wc.heap.size ((f : Int) + 1) [] (.slice none 0 0) from ⟨(unhid HBC).size, by simp, twoAt_new _ _ _ _, World.ownsRow_nil _ _ _ _, (fun e => by cases e), (unhid HBC).alloc (unhid HBC).size _⟩)
          have HV0 := hid (show ∃ ad cp, Value.slice none 0 0 = .slice ad ([] : List ByteArray).length cp from ⟨none, 0, rfl⟩)
          generalize wc.alloc (.cells #[.int .i64 ((f : Int) + 1), .slice none 0 0] 46) = W0 at DS0 ⊢
          generalize hgg : wc.heap.size = g at DS0 ⊢
          clear hgg HBC
          generalize hv0 : Value.slice none 0 0 = v0 at DS0 HV0
          clear hv0
          generalize hL0 : ([] : List ByteArray) = L0 at DS0 HV0
          have HL0 := hid hL0
          have hl0 : L0.length ≤ 200 := by rw [← hL0]; simp
          clear hL0
          go_loopw [9] (fun i wr => ∃ (k : Nat) (v : Value), f ≤ k ∧ k ≤ h ∧ i = .int .i64 (k : Int) ∧ Hid (∃ ad cp, v = .slice ad (L0 ++ signX 32 ((xs.drop f).take (k - f))).length cp) ∧ Hid (DiffSt w wr g ((f : Int) + 1) (L0 ++ signX 32 ((xs.drop f).take (k - f))) v)) (fun i _ => h - (intOf i).toNat)
          case atStart => exact ⟨f, v0, Nat.le_refl _, by omega, by go_num, hid (by rw [Nat.sub_self, List.take_zero]; simpa [signX] using unhid HV0), hid (by rw [Nat.sub_self, List.take_zero]; simpa [signX] using unhid DS0)⟩
          case round =>
            clear DS0 HV0
            obtain ⟨k, v, hk1, hk2, rfl, HV, HS⟩ := hrel
            by_cases hlt : k < h
            · have hxk := txtFn_some (xs := xs) (i := k) (by omega)
              generalize txtFn xs k = x at hxk
              obtain ⟨bs, o, rfl, hbl, hc⟩ := (unhid HA).get (by intro e; subst e; simp at hxk)
              have E := hid (show L0 ++ signX 32 ((xs.drop f).take (k + 1 - f)) = (L0 ++ signX 32 ((xs.drop f).take (k - f))) ++ [(⟨#[32]⟩ : ByteArray) ++ x] by rw [show k + 1 - f = (k - f) + 1 by omega, signX_snoc 32 xs f (k - f) x (by rw [show f + (k - f) = k by omega]; exact hxk), List.append_assoc])
              have hlen : (L0 ++ signX 32 ((xs.drop f).take (k - f))).length ≤ 1000 := by simp only [List.length_append, signX_len, List.length_take, List.length_drop]; omega
              have hx80 : x.size ≤ 1048576 := Nat.le_trans ((textB_parts (unhid TAA)).2 x (List.mem_of_getElem? hxk)) (by omega)
              have hcx := hid (hc k x hxk)
              have hkh : k < h := hlt
              clear hc hxk
              generalize (L0 ++ signX 32 ((xs.drop f).take (k - f))) = L at *
              obtain ⟨ad, cp, rfl⟩ := unhid HV
              go_wp2_with fail
              have g0 : ∀ y : CW (fun w' => Below w.heap.size w w'), y.w.cell? ⟨bs, o + k, none⟩ = some (.string x) := fun y => (y.h.cell (p := ⟨bs, o + k, none⟩) hbl).trans (unhid hcx)
              have hba : ∀ {q : Prop}, (CW (fun w' => Below w.heap.size w w') → q) ↔ q := CW.all (Below.refl _ w)
              have DS := hid ((unhid HS).step (drew_belowX wr))
              refine held_begin (fun w' => Below w.heap.size w w') (by kernel_rfl) (unhid DS).below ?_
              refine held_here [true, false, true, true, true, true, true] (by kernel_rfl) (by kernel_rfl) (fun _ _ _ _ _ h => h) (unhid DS).below ?_
              dsimp only [pick]
              repeat (go_big_quiet_step (fail))
              refine wpQuiet_nil ?_
              clear g0 hba HS HV
              generalize wr.drew = W at DS ⊢
              have TN0 := one_new W ((⟨#[32]⟩ : ByteArray) ++ x)
              have hb0 : Below W.heap.size W (W.alloc (.cells #[.string ((⟨#[32]⟩ : ByteArray) ++ x)] 9)) := (Below.refl _ _).alloc (Nat.le_refl _) _
              have DSN := hid ((unhid DS).step hb0)
              have f2 := (unhid DS).two.2.1
              have f4 := (unhid DSN).two.2.1
              refine held_both 1 7 106 112 (.slice ad L.length cp) (.slice (some ⟨W.heap.size, 0, none⟩) 1 1) (W.alloc (.cells #[.string ((⟨#[32]⟩ : ByteArray) ++ x)] 9)) (by kernel_rfl) (by kernel_rfl) (by kernel_rfl) (by kernel_rfl) rfl rfl (by kernel_rfl) (by kernel_rfl) rfl rfl rfl rfl (unhid DS).below (unhid DSN).below (by go_simp) (by go_simp) (by go_simp) ?_
              simp only [Act.put, List.setIfInBounds_toArray, List.set_cons_zero, List.set_cons_succ]
              have TN := hid TN0
              clear DS hb0 TN0 f2 f4
              generalize W.alloc (.cells #[.string ((⟨#[32]⟩ : ByteArray) ++ x)] 9) = WN at DSN TN ⊢
              generalize W.heap.size = GN at TN ⊢
              have hwl := (unhid DSN).below.size
              refine held_app 8 113 w.heap.size (.slice ad L.length cp) L [(⟨#[32]⟩ : ByteArray) ++ x] (some ⟨GN, 0, none⟩) 1 (by kernel_rfl) (by kernel_rfl) rfl rfl rfl rfl rfl rfl (unhid DSN).own (unhid TN) (fun e => by cases e) (by simp only [List.length_cons, List.length_nil]; omega) hwl ?_
              intro v' W' hown hg hat
              obtain ⟨t2, hB', DS'⟩ := (unhid DSN).app hown hg hat
              refine ⟨hB', ?_⟩
              simp only [Act.put, List.setIfInBounds_toArray, List.set_cons_zero, List.set_cons_succ]
              obtain ⟨va, vc, hv⟩ := ownsRow_sliceX hown
              subst hv
              obtain ⟨⟨f0, f1⟩, f2, f3⟩ := t2
              have DS2 := hid DS'
              clear hown hg hat DS'
              have hba : ∀ {q : Prop}, (CW (fun w' => Below w.heap.size w w') → q) ↔ q := CW.all (Below.refl _ w)
              refine held_here [false, false, false, false, false, false, false, false, false, true] (by kernel_rfl) (by kernel_rfl) (fun _ _ _ _ _ h => h) hB' ?_
              dsimp only [pick]
              repeat (go_big_quiet_step (fail))
              refine wpQuiet_nil ?_
              clear hba
              refine held_op 10 (by kernel_rfl) (by kernel_rfl) rfl (fun K hK => ?_)
              go_simp
              have DS3 := hid (show DiffSt w (W'.setCell ⟨g, 1, none⟩ (.slice va (L ++ [(⟨#[32]⟩ : ByteArray) ++ x]).length vc)) g ((f : Int) + 1) (L ++ [(⟨#[32]⟩ : ByteArray) ++ x]) (.slice va (L ++ [(⟨#[32]⟩ : ByteArray) ++ x]).length vc) from unhid DS2)
              simp only [List.length_append, List.length_cons, List.length_nil, Nat.zero_add] at DS3 ⊢
              refine hK.out _ _ (unhid DS3).below ?_
              clear hK K f0 f1 f2 f3 hB' DS2
              generalize W'.setCell ⟨g, 1, none⟩ (.slice va (L.length + 1) vc) = W2 at DS3 ⊢
              refine held_done (by kernel_rfl) ?_
              go_wp2_with fail
              go_roundw
              case rel => exact ⟨k + 1, .slice va (L.length + 1) vc, by omega, by omega, by go_num, hid ⟨va, vc, by rw [unhid E, List.length_append]; rfl⟩, hid (by rw [unhid E]; exact unhid DS3)⟩
              case measure => simp [intOf]; omega
            · have ek : k = h := by omega
              have HL1 := hid (show (L0 ++ signX 32 ((xs.drop f).take (k - f))) = L0 ++ signX 32 ((xs.drop f).take (h - f)) by rw [ek])
              clear ek
              have hln : (L0 ++ signX 32 ((xs.drop f).take (k - f))).length ≤ 230 := by simp only [List.length_append, signX_len, List.length_take, List.length_drop]; omega
              generalize (L0 ++ signX 32 ((xs.drop f).take (k - f))) = L1 at *
              have hl1 : L1.length ≤ 230 := hln
              clear hln
              have HV1 := HV
              have DS1 := HS
              generalize v = v1 at *
              clear HV HS
              go_wp2_with fail
              clear hlt
              go_loopw [10] (fun i wr => ∃ (k : Nat) (v : Value), h ≤ k ∧ k ≤ (xs.length - t) ∧ i = .int .i64 (k : Int) ∧ Hid (∃ ad cp, v = .slice ad (L1 ++ signX 45 ((xs.drop h).take (k - h))).length cp) ∧ Hid (DiffSt w wr g ((f : Int) + 1) (L1 ++ signX 45 ((xs.drop h).take (k - h))) v)) (fun i _ => (xs.length - t) - (intOf i).toNat)
              case atStart => exact ⟨h, v1, Nat.le_refl _, by omega, by go_num, hid (by rw [Nat.sub_self, List.take_zero]; simpa [signX] using unhid HV1), hid (by rw [Nat.sub_self, List.take_zero]; simpa [signX] using unhid DS1)⟩
              case round =>
                clear DS1 HV1
                obtain ⟨k, v, hk1, hk2, rfl, HV, HS⟩ := hrel
                by_cases hlt : k < (xs.length - t)
                · have hxk := txtFn_some (xs := xs) (i := k) (by omega)
                  generalize txtFn xs k = x at hxk
                  obtain ⟨bs, o, rfl, hbl, hc⟩ := (unhid HA).get (by intro e; subst e; simp at hxk)
                  have E := hid (show L1 ++ signX 45 ((xs.drop h).take (k + 1 - h)) = (L1 ++ signX 45 ((xs.drop h).take (k - h))) ++ [(⟨#[45]⟩ : ByteArray) ++ x] by rw [show k + 1 - h = (k - h) + 1 by omega, signX_snoc 45 xs h (k - h) x (by rw [show h + (k - h) = k by omega]; exact hxk), List.append_assoc])
                  have hlen : (L1 ++ signX 45 ((xs.drop h).take (k - h))).length ≤ 1000 := by simp only [List.length_append, signX_len, List.length_take, List.length_drop]; omega
                  have hx80 : x.size ≤ 1048576 := Nat.le_trans ((textB_parts (unhid TAA)).2 x (List.mem_of_getElem? hxk)) (by omega)
                  have hcx := hid (hc k x hxk)
                  have hkt : (k : Int) < (xs.length : Int) - (t : Int) := by omega
                  clear hc hxk
                  generalize (L1 ++ signX 45 ((xs.drop h).take (k - h))) = L at *
                  obtain ⟨ad, cp, rfl⟩ := unhid HV
                  go_wp2_with fail
                  have g0 : ∀ y : CW (fun w' => Below w.heap.size w w'), y.w.cell? ⟨bs, o + k, none⟩ = some (.string x) := fun y => (y.h.cell (p := ⟨bs, o + k, none⟩) hbl).trans (unhid hcx)
                  have hba : ∀ {q : Prop}, (CW (fun w' => Below w.heap.size w w') → q) ↔ q := CW.all (Below.refl _ w)
                  have DS := hid ((unhid HS).step (drew_belowX wr))
                  refine held_begin (fun w' => Below w.heap.size w w') (by kernel_rfl) (unhid DS).below ?_
                  refine held_here [true, false, true, true, true, true, true] (by kernel_rfl) (by kernel_rfl) (fun _ _ _ _ _ h => h) (unhid DS).below ?_
                  dsimp only [pick]
                  repeat (go_big_quiet_step (fail))
                  refine wpQuiet_nil ?_
                  clear g0 hba HS HV
                  generalize wr.drew = W at DS ⊢
                  have TN0 := one_new W ((⟨#[45]⟩ : ByteArray) ++ x)
                  have hb0 : Below W.heap.size W (W.alloc (.cells #[.string ((⟨#[45]⟩ : ByteArray) ++ x)] 9)) := (Below.refl _ _).alloc (Nat.le_refl _) _
                  have DSN := hid ((unhid DS).step hb0)
                  have f2 := (unhid DS).two.2.1
                  have f4 := (unhid DSN).two.2.1
                  refine held_both 1 7 125 131 (.slice ad L.length cp) (.slice (some ⟨W.heap.size, 0, none⟩) 1 1) (W.alloc (.cells #[.string ((⟨#[45]⟩ : ByteArray) ++ x)] 9)) (by kernel_rfl) (by kernel_rfl) (by kernel_rfl) (by kernel_rfl) rfl rfl (by kernel_rfl) (by kernel_rfl) rfl rfl rfl rfl (unhid DS).below (unhid DSN).below (by go_simp) (by go_simp) (by go_simp) ?_
                  simp only [Act.put, List.setIfInBounds_toArray, List.set_cons_zero, List.set_cons_succ]
                  have TN := hid TN0
                  clear DS hb0 TN0 f2 f4
                  generalize W.alloc (.cells #[.string ((⟨#[45]⟩ : ByteArray) ++ x)] 9) = WN at DSN TN ⊢
                  generalize W.heap.size = GN at TN ⊢
                  have hwl := (unhid DSN).below.size
                  refine held_app 8 132 w.heap.size (.slice ad L.length cp) L [(⟨#[45]⟩ : ByteArray) ++ x] (some ⟨GN, 0, none⟩) 1 (by kernel_rfl) (by kernel_rfl) rfl rfl rfl rfl rfl rfl (unhid DSN).own (unhid TN) (fun e => by cases e) (by simp only [List.length_cons, List.length_nil]; omega) hwl ?_
                  intro v' W' hown hg hat
                  obtain ⟨t2, hB', DS'⟩ := (unhid DSN).app hown hg hat
                  refine ⟨hB', ?_⟩
                  simp only [Act.put, List.setIfInBounds_toArray, List.set_cons_zero, List.set_cons_succ]
                  obtain ⟨va, vc, hv⟩ := ownsRow_sliceX hown
                  subst hv
                  obtain ⟨⟨f0, f1⟩, f2, f3⟩ := t2
                  have DS2 := hid DS'
                  clear hown hg hat DS'
                  have hba : ∀ {q : Prop}, (CW (fun w' => Below w.heap.size w w') → q) ↔ q := CW.all (Below.refl _ w)
                  refine held_here [false, false, false, false, false, false, false, false, false, true] (by kernel_rfl) (by kernel_rfl) (fun _ _ _ _ _ h => h) hB' ?_
                  dsimp only [pick]
                  repeat (go_big_quiet_step (fail))
                  refine wpQuiet_nil ?_
                  clear hba
                  refine held_op 10 (by kernel_rfl) (by kernel_rfl) rfl (fun K hK => ?_)
                  go_simp
                  have DS3 := hid (show DiffSt w (W'.setCell ⟨g, 1, none⟩ (.slice va (L ++ [(⟨#[45]⟩ : ByteArray) ++ x]).length vc)) g ((f : Int) + 1) (L ++ [(⟨#[45]⟩ : ByteArray) ++ x]) (.slice va (L ++ [(⟨#[45]⟩ : ByteArray) ++ x]).length vc) from unhid DS2)
                  simp only [List.length_append, List.length_cons, List.length_nil, Nat.zero_add] at DS3 ⊢
                  refine hK.out _ _ (unhid DS3).below ?_
                  clear hK K f0 f1 f2 f3 hB' DS2
                  generalize W'.setCell ⟨g, 1, none⟩ (.slice va (L.length + 1) vc) = W2 at DS3 ⊢
                  refine held_done (by kernel_rfl) ?_
                  go_wp2_with fail
                  go_roundw
                  case rel => exact ⟨k + 1, .slice va (L.length + 1) vc, by omega, by omega, by go_num, hid ⟨va, vc, by rw [unhid E, List.length_append]; rfl⟩, hid (by rw [unhid E]; exact unhid DS3)⟩
                  case measure => simp [intOf]; omega
                · have ek : k = (xs.length - t) := by omega
                  have HL2 := hid (show (L1 ++ signX 45 ((xs.drop h).take (k - h))) = L1 ++ signX 45 ((xs.drop h).take ((xs.length - t) - h)) by rw [ek])
                  have dk : decide ((k : Int) < (xs.length : Int) - (t : Int)) = false := by rw [decide_eq_false_iff_not]; omega
                  clear ek
                  have hln : (L1 ++ signX 45 ((xs.drop h).take (k - h))).length ≤ 260 := by simp only [List.length_append, signX_len, List.length_take, List.length_drop]; omega
                  generalize (L1 ++ signX 45 ((xs.drop h).take (k - h))) = L2 at *
                  have hl2 : L2.length ≤ 260 := hln
                  clear hln
                  have HV2 := HV
                  have DS2 := HS
                  generalize v = v2 at *
                  clear HV HS
                  go_wp2_with fail
                  clear hlt
                  clear dk
                  go_loopw [11] (fun i wr => ∃ (k : Nat) (v : Value), h ≤ k ∧ k ≤ (ys.length - t) ∧ i = .int .i64 (k : Int) ∧ Hid (∃ ad cp, v = .slice ad (L2 ++ signX 43 ((ys.drop h).take (k - h))).length cp) ∧ Hid (DiffSt w wr g ((f : Int) + 1) (L2 ++ signX 43 ((ys.drop h).take (k - h))) v)) (fun i _ => (ys.length - t) - (intOf i).toNat)
                  case atStart => exact ⟨h, v2, Nat.le_refl _, by omega, by go_num, hid (by rw [Nat.sub_self, List.take_zero]; simpa [signX] using unhid HV2), hid (by rw [Nat.sub_self, List.take_zero]; simpa [signX] using unhid DS2)⟩
                  case round =>
                    clear DS2 HV2
                    obtain ⟨k, v, hk1, hk2, rfl, HV, HS⟩ := hrel
                    by_cases hlt : k < (ys.length - t)
                    · have hxk := txtFn_some (xs := ys) (i := k) (by omega)
                      generalize txtFn ys k = x at hxk
                      obtain ⟨bs, o, rfl, hbl, hc⟩ := (unhid HB).get (by intro e; subst e; simp at hxk)
                      have E := hid (show L2 ++ signX 43 ((ys.drop h).take (k + 1 - h)) = (L2 ++ signX 43 ((ys.drop h).take (k - h))) ++ [(⟨#[43]⟩ : ByteArray) ++ x] by rw [show k + 1 - h = (k - h) + 1 by omega, signX_snoc 43 ys h (k - h) x (by rw [show h + (k - h) = k by omega]; exact hxk), List.append_assoc])
                      have hlen : (L2 ++ signX 43 ((ys.drop h).take (k - h))).length ≤ 1000 := by simp only [List.length_append, signX_len, List.length_take, List.length_drop]; omega
                      have hx80 : x.size ≤ 1048576 := Nat.le_trans ((textB_parts (unhid TBB)).2 x (List.mem_of_getElem? hxk)) (by omega)
                      have hcx := hid (hc k x hxk)
                      have hkt : (k : Int) < (ys.length : Int) - (t : Int) := by omega
                      clear hc hxk
                      generalize (L2 ++ signX 43 ((ys.drop h).take (k - h))) = L at *
                      obtain ⟨ad, cp, rfl⟩ := unhid HV
                      go_wp2_with fail
                      have g0 : ∀ y : CW (fun w' => Below w.heap.size w w'), y.w.cell? ⟨bs, o + k, none⟩ = some (.string x) := fun y => (y.h.cell (p := ⟨bs, o + k, none⟩) hbl).trans (unhid hcx)
                      have hba : ∀ {q : Prop}, (CW (fun w' => Below w.heap.size w w') → q) ↔ q := CW.all (Below.refl _ w)
                      have DS := hid ((unhid HS).step (drew_belowX wr))
                      refine held_begin (fun w' => Below w.heap.size w w') (by kernel_rfl) (unhid DS).below ?_
                      refine held_here [true, false, true, true, true, true, true] (by kernel_rfl) (by kernel_rfl) (fun _ _ _ _ _ h => h) (unhid DS).below ?_
                      dsimp only [pick]
                      repeat (go_big_quiet_step (fail))
                      refine wpQuiet_nil ?_
                      clear g0 hba HS HV
                      generalize wr.drew = W at DS ⊢
                      have TN0 := one_new W ((⟨#[43]⟩ : ByteArray) ++ x)
                      have hb0 : Below W.heap.size W (W.alloc (.cells #[.string ((⟨#[43]⟩ : ByteArray) ++ x)] 9)) := (Below.refl _ _).alloc (Nat.le_refl _) _
                      have DSN := hid ((unhid DS).step hb0)
                      have f2 := (unhid DS).two.2.1
                      have f4 := (unhid DSN).two.2.1
                      refine held_both 1 7 144 150 (.slice ad L.length cp) (.slice (some ⟨W.heap.size, 0, none⟩) 1 1) (W.alloc (.cells #[.string ((⟨#[43]⟩ : ByteArray) ++ x)] 9)) (by kernel_rfl) (by kernel_rfl) (by kernel_rfl) (by kernel_rfl) rfl rfl (by kernel_rfl) (by kernel_rfl) rfl rfl rfl rfl (unhid DS).below (unhid DSN).below (by go_simp) (by go_simp) (by go_simp) ?_
                      simp only [Act.put, List.setIfInBounds_toArray, List.set_cons_zero, List.set_cons_succ]
                      have TN := hid TN0
                      clear DS hb0 TN0 f2 f4
                      generalize W.alloc (.cells #[.string ((⟨#[43]⟩ : ByteArray) ++ x)] 9) = WN at DSN TN ⊢
                      generalize W.heap.size = GN at TN ⊢
                      have hwl := (unhid DSN).below.size
                      refine held_app 8 151 w.heap.size (.slice ad L.length cp) L [(⟨#[43]⟩ : ByteArray) ++ x] (some ⟨GN, 0, none⟩) 1 (by kernel_rfl) (by kernel_rfl) rfl rfl rfl rfl rfl rfl (unhid DSN).own (unhid TN) (fun e => by cases e) (by simp only [List.length_cons, List.length_nil]; omega) hwl ?_
                      intro v' W' hown hg hat
                      obtain ⟨t2, hB', DS'⟩ := (unhid DSN).app hown hg hat
                      refine ⟨hB', ?_⟩
                      simp only [Act.put, List.setIfInBounds_toArray, List.set_cons_zero, List.set_cons_succ]
                      obtain ⟨va, vc, hv⟩ := ownsRow_sliceX hown
                      subst hv
                      obtain ⟨⟨f0, f1⟩, f2, f3⟩ := t2
                      have DS2 := hid DS'
                      clear hown hg hat DS'
                      have hba : ∀ {q : Prop}, (CW (fun w' => Below w.heap.size w w') → q) ↔ q := CW.all (Below.refl _ w)
                      refine held_here [false, false, false, false, false, false, false, false, false, true] (by kernel_rfl) (by kernel_rfl) (fun _ _ _ _ _ h => h) hB' ?_
                      dsimp only [pick]
                      repeat (go_big_quiet_step (fail))
                      refine wpQuiet_nil ?_
                      clear hba
                      refine held_op 10 (by kernel_rfl) (by kernel_rfl) rfl (fun K hK => ?_)
                      go_simp
                      have DS3 := hid (show DiffSt w (W'.setCell ⟨g, 1, none⟩ (.slice va (L ++ [(⟨#[43]⟩ : ByteArray) ++ x]).length vc)) g ((f : Int) + 1) (L ++ [(⟨#[43]⟩ : ByteArray) ++ x]) (.slice va (L ++ [(⟨#[43]⟩ : ByteArray) ++ x]).length vc) from unhid DS2)
                      simp only [List.length_append, List.length_cons, List.length_nil, Nat.zero_add] at DS3 ⊢
                      refine hK.out _ _ (unhid DS3).below ?_
                      clear hK K f0 f1 f2 f3 hB' DS2
                      generalize W'.setCell ⟨g, 1, none⟩ (.slice va (L.length + 1) vc) = W2 at DS3 ⊢
                      refine held_done (by kernel_rfl) ?_
                      go_wp2_with fail
                      go_roundw
                      case rel => exact ⟨k + 1, .slice va (L.length + 1) vc, by omega, by omega, by go_num, hid ⟨va, vc, by rw [unhid E, List.length_append]; rfl⟩, hid (by rw [unhid E]; exact unhid DS3)⟩
                      case measure => simp [intOf]; omega
                    · have ek : k = (ys.length - t) := by omega
                      have HL3 := hid (show (L2 ++ signX 43 ((ys.drop h).take (k - h))) = L2 ++ signX 43 ((ys.drop h).take ((ys.length - t) - h)) by rw [ek])
                      have dk : decide ((k : Int) < (ys.length : Int) - (t : Int)) = false := by rw [decide_eq_false_iff_not]; omega
                      clear ek
                      have hln : (L2 ++ signX 43 ((ys.drop h).take (k - h))).length ≤ 290 := by simp only [List.length_append, signX_len, List.length_take, List.length_drop]; omega
                      generalize (L2 ++ signX 43 ((ys.drop h).take (k - h))) = L3 at *
                      have hl3 : L3.length ≤ 290 := hln
                      clear hln
                      have HV3 := HV
                      have DS3 := HS
                      generalize v = v3 at *
                      clear HV HS
                      go_wp2_with fail
                      clear hlt
                      clear dk
                      go_loopw [12] (fun i wr => ∃ (k : Nat) (v : Value), (xs.length - t) ≤ k ∧ k ≤ l ∧ i = .int .i64 (k : Int) ∧ Hid (∃ ad cp, v = .slice ad (L3 ++ signX 32 ((xs.drop (xs.length - t)).take (k - (xs.length - t)))).length cp) ∧ Hid (DiffSt w wr g ((f : Int) + 1) (L3 ++ signX 32 ((xs.drop (xs.length - t)).take (k - (xs.length - t)))) v)) (fun i _ => l - (intOf i).toNat)
                      case atStart => exact ⟨(xs.length - t), v3, Nat.le_refl _, by omega, by go_num, hid (by rw [Nat.sub_self, List.take_zero]; simpa [signX] using unhid HV3), hid (by rw [Nat.sub_self, List.take_zero]; simpa [signX] using unhid DS3)⟩
                      case round =>
                        clear DS3 HV3
                        obtain ⟨k, v, hk1, hk2, rfl, HV, HS⟩ := hrel
                        by_cases hlt : k < l
                        · have hxk := txtFn_some (xs := xs) (i := k) (by omega)
                          generalize txtFn xs k = x at hxk
                          obtain ⟨bs, o, rfl, hbl, hc⟩ := (unhid HA).get (by intro e; subst e; simp at hxk)
                          have E := hid (show L3 ++ signX 32 ((xs.drop (xs.length - t)).take (k + 1 - (xs.length - t))) = (L3 ++ signX 32 ((xs.drop (xs.length - t)).take (k - (xs.length - t)))) ++ [(⟨#[32]⟩ : ByteArray) ++ x] by rw [show k + 1 - (xs.length - t) = (k - (xs.length - t)) + 1 by omega, signX_snoc 32 xs (xs.length - t) (k - (xs.length - t)) x (by rw [show (xs.length - t) + (k - (xs.length - t)) = k by omega]; exact hxk), List.append_assoc])
                          have hlen : (L3 ++ signX 32 ((xs.drop (xs.length - t)).take (k - (xs.length - t)))).length ≤ 1000 := by simp only [List.length_append, signX_len, List.length_take, List.length_drop]; omega
                          have hx80 : x.size ≤ 1048576 := Nat.le_trans ((textB_parts (unhid TAA)).2 x (List.mem_of_getElem? hxk)) (by omega)
                          have hcx := hid (hc k x hxk)
                          have hkt : (k : Int) < (xs.length : Int) - (t : Int) + 2 := by have := unhid HF2; omega
                          have hkx : k < xs.length := by omega
                          clear hc hxk
                          generalize (L3 ++ signX 32 ((xs.drop (xs.length - t)).take (k - (xs.length - t)))) = L at *
                          obtain ⟨ad, cp, rfl⟩ := unhid HV
                          go_wp2_with fail
                          have g0 : ∀ y : CW (fun w' => Below w.heap.size w w'), y.w.cell? ⟨bs, o + k, none⟩ = some (.string x) := fun y => (y.h.cell (p := ⟨bs, o + k, none⟩) hbl).trans (unhid hcx)
                          have hba : ∀ {q : Prop}, (CW (fun w' => Below w.heap.size w w') → q) ↔ q := CW.all (Below.refl _ w)
                          have DS := hid ((unhid HS).step (drew_belowX wr))
                          refine held_begin (fun w' => Below w.heap.size w w') (by kernel_rfl) (unhid DS).below ?_
                          refine held_here [true, false, true, true, true, true, true] (by kernel_rfl) (by kernel_rfl) (fun _ _ _ _ _ h => h) (unhid DS).below ?_
                          dsimp only [pick]
                          repeat (go_big_quiet_step (fail))
                          refine wpQuiet_nil ?_
                          clear g0 hba HS HV
                          generalize wr.drew = W at DS ⊢
                          have TN0 := one_new W ((⟨#[32]⟩ : ByteArray) ++ x)
                          have hb0 : Below W.heap.size W (W.alloc (.cells #[.string ((⟨#[32]⟩ : ByteArray) ++ x)] 9)) := (Below.refl _ _).alloc (Nat.le_refl _) _
                          have DSN := hid ((unhid DS).step hb0)
                          have f2 := (unhid DS).two.2.1
                          have f4 := (unhid DSN).two.2.1
                          refine held_both 1 7 173 179 (.slice ad L.length cp) (.slice (some ⟨W.heap.size, 0, none⟩) 1 1) (W.alloc (.cells #[.string ((⟨#[32]⟩ : ByteArray) ++ x)] 9)) (by kernel_rfl) (by kernel_rfl) (by kernel_rfl) (by kernel_rfl) rfl rfl (by kernel_rfl) (by kernel_rfl) rfl rfl rfl rfl (unhid DS).below (unhid DSN).below (by go_simp) (by go_simp) (by go_simp) ?_
                          simp only [Act.put, List.setIfInBounds_toArray, List.set_cons_zero, List.set_cons_succ]
                          have TN := hid TN0
                          clear DS hb0 TN0 f2 f4
                          generalize W.alloc (.cells #[.string ((⟨#[32]⟩ : ByteArray) ++ x)] 9) = WN at DSN TN ⊢
                          generalize W.heap.size = GN at TN ⊢
                          have hwl := (unhid DSN).below.size
                          refine held_app 8 180 w.heap.size (.slice ad L.length cp) L [(⟨#[32]⟩ : ByteArray) ++ x] (some ⟨GN, 0, none⟩) 1 (by kernel_rfl) (by kernel_rfl) rfl rfl rfl rfl rfl rfl (unhid DSN).own (unhid TN) (fun e => by cases e) (by simp only [List.length_cons, List.length_nil]; omega) hwl ?_
                          intro v' W' hown hg hat
                          obtain ⟨t2, hB', DS'⟩ := (unhid DSN).app hown hg hat
                          refine ⟨hB', ?_⟩
                          simp only [Act.put, List.setIfInBounds_toArray, List.set_cons_zero, List.set_cons_succ]
                          obtain ⟨va, vc, hv⟩ := ownsRow_sliceX hown
                          subst hv
                          obtain ⟨⟨f0, f1⟩, f2, f3⟩ := t2
                          have DS2 := hid DS'
                          clear hown hg hat DS'
                          have hba : ∀ {q : Prop}, (CW (fun w' => Below w.heap.size w w') → q) ↔ q := CW.all (Below.refl _ w)
                          refine held_here [false, false, false, false, false, false, false, false, false, true] (by kernel_rfl) (by kernel_rfl) (fun _ _ _ _ _ h => h) hB' ?_
                          dsimp only [pick]
                          repeat (go_big_quiet_step (fail))
                          refine wpQuiet_nil ?_
                          clear hba
                          refine held_op 10 (by kernel_rfl) (by kernel_rfl) rfl (fun K hK => ?_)
                          go_simp
                          have DS3 := hid (show DiffSt w (W'.setCell ⟨g, 1, none⟩ (.slice va (L ++ [(⟨#[32]⟩ : ByteArray) ++ x]).length vc)) g ((f : Int) + 1) (L ++ [(⟨#[32]⟩ : ByteArray) ++ x]) (.slice va (L ++ [(⟨#[32]⟩ : ByteArray) ++ x]).length vc) from unhid DS2)
                          simp only [List.length_append, List.length_cons, List.length_nil, Nat.zero_add] at DS3 ⊢
                          refine hK.out _ _ (unhid DS3).below ?_
                          clear hK K f0 f1 f2 f3 hB' DS2
                          generalize W'.setCell ⟨g, 1, none⟩ (.slice va (L.length + 1) vc) = W2 at DS3 ⊢
                          refine held_done (by kernel_rfl) ?_
                          go_wp2_with fail
                          go_roundw
                          case rel => exact ⟨k + 1, .slice va (L.length + 1) vc, by omega, by omega, by go_num, hid ⟨va, vc, by rw [unhid E, List.length_append]; rfl⟩, hid (by rw [unhid E]; exact unhid DS3)⟩
                          case measure => simp [intOf]; omega
                        · have ek : k = l := by omega
                          have HL4 := hid (show (L3 ++ signX 32 ((xs.drop (xs.length - t)).take (k - (xs.length - t)))) = L3 ++ signX 32 ((xs.drop (xs.length - t)).take (l - (xs.length - t))) by rw [ek])
                          have hor : ¬ k < xs.length ∨ (k < xs.length ∧ ¬ (k : Int) < (xs.length : Int) - (t : Int) + 2) := by have := unhid HF2; omega
                          clear ek
                          have hln : (L3 ++ signX 32 ((xs.drop (xs.length - t)).take (k - (xs.length - t)))).length ≤ 320 := by simp only [List.length_append, signX_len, List.length_take, List.length_drop]; omega
                          generalize (L3 ++ signX 32 ((xs.drop (xs.length - t)).take (k - (xs.length - t)))) = L4 at *
                          have hl4 : L4.length ≤ 320 := hln
                          clear hln
                          have HV4 := HV
                          have DS4 := HS
                          generalize v = v4 at *
                          clear HV HS
                          have HLL := hid (show L4 = dLines xs ys by rw [unhid HL4, unhid HL3, unhid HL2, unhid HL1, ← unhid HL0, unhid HL]; simp only [List.nil_append, List.append_assoc])
                          have HHB := hid (hunksB_is (dHunk xs ys))
                          obtain ⟨ad, cp, hv4⟩ := unhid HV4
                          subst hv4
                          have HTL := hid (txts_owns (unhid DS4).own)
                          obtain ⟨⟨f0, f1⟩, f2, f3⟩ := (unhid DS4).two
                          have LH := hid (l5Hunk_any ⟨(f : Int) + 1, L4⟩ ad cp wr (by show L4.length ≤ maxLen; have := hl4; unfold maxLen; omega) (fun x hx => by rw [unhid HLL] at hx; exact Nat.le_trans ((dLines_small (unhid TAA) (unhid TBB)).2 x hx).2 (by simp [maxLen])) (by
                            obtain ⟨_, a', c', hv, ht, _⟩ := unhid HTL
                            injection hv with e1 e2 e3
                            subst e1
                            exact ht))
                          have HEQ := hid (show hunksB [dHunk xs ys] = (hkB ⟨(f : Int) + 1, L4⟩ && decide (1 ≤ (f : Int) + 1)) by rw [unhid HHB, unhid HDH, unhid HLL])
                          rcases hor with d1 | ⟨d1, d2⟩
                          case' inr => have d3 : decide ((k : Int) < (xs.length : Int) - (t : Int) + 2) = false := by rw [decide_eq_false_iff_not]; exact d2
                          case' inr => clear d2
                          all_goals
                            go_wp2_with fail
                            refine (unhid LH).mono ?_
                            rintro r w9 ⟨rfl, hb⟩
                            rw [← unhid HEQ]
                            have DS9 := hid ((unhid DS4).step hb)
                            have hb9 := (unhid DS9).below.size
                            cases hk : hunksB [dHunk xs ys]
                            · have E := hid (show diffL xs ys = [] by unfold diffL; rw [unhid HD2, hk]; rfl)
                              have HE := hid (emptyHks w9 w.heap.size hb9)
                              have HB9 := hid ((unhid DS9).below.alloc hb9 (.cells #[] 46))
                              clear hk hb
                              go_wp2_with fail
                              go_ret
                              exact ⟨_, rfl, by rw [unhid E]; exact unhid HE, unhid HB9⟩
                            · have E := hid (show diffL xs ys = [dHunk xs ys] by unfold diffL; rw [unhid HD2, hk]; rfl)
                              obtain ⟨⟨m0, m1⟩, m2, m3⟩ := (unhid DS9).two
                              have HB9 := hid ((unhid DS9).below.alloc hb9 (.cells #[.int .i64 ((f : Int) + 1), .slice ad L4.length cp] 46))
                              have HON := hid (owns_belowX (unhid DS9).own ((Below.refl _ w9).alloc (Nat.le_refl _) (.cells #[.int .i64 ((f : Int) + 1), .slice ad L4.length cp] 46)))
                              have HNW := hid (World.alloc_heap_new w9 (.cells #[.int .i64 ((f : Int) + 1), .slice ad L4.length cp] 46))
                              have HNB := hid (show (Value.slice ad L4.length cp).ownBlock ≠ some w9.heap.size from fun e => by have := ((unhid DS9).own.lt _ e).2; omega)
                              clear hk hb f0 f1 f2 f3
                              go_wp2_with fail
                              go_ret
                              exact ⟨_, rfl, by rw [unhid E]; exact ⟨w9.heap.size, .slice ad L4.length cp, rfl, hb9, by rw [unhid HDH]; exact unhid HNW, by rw [unhid HDH, ← unhid HLL]; exact unhid HON, unhid HNB⟩, unhid HB9⟩
end Go.Proofs.Ytedimkcnemhhpaa
