/- Texts of this proof, one behind the other; each says at its head what it shows. -/
import Derived.Test.YtoihhlkidlapmaaGreatJoin9
import Derived.Test.YtoihhlkidlapmaaGreatJoin2
import Derived.Test.YtoihhlkidlapmaaGreatJoin6
import Derived.Test.YtoihhlkidlapmaaGreatJoin7
/- The model of Needers. -/
namespace Go.Proofs.YtoihhlkidlapmaaGreat
open Go.RowKit Go.Shelf Go.Maps Go.ChangeShapes

theorem row_op {ops : Array Oper} {Q : Exit → Act → World → Prop} {K : Act → World → Prop} {a : Act} {w : World} {o : Oper} {s x : Operand} (d base : Nat) (v : Value) (xs ys : List ByteArray) (V : Value)
    (hop : o.op = .call { callee := .builtin .append, args := #[s, x], argTypes := #[24, 24] }) (hw : Region.wanted o (yielded ops a.tmps) = true) (hd : o.dst = some d) (hs : a.eval s = v) (hx : a.eval x = V)
    (hown : w.ownsRow base 9 1 v xs.length (xs.map Value.string)) (h : rowAt txtC w V ys) (hn : xs.length + ys.length ≤ 4294967296) (hb : base ≤ w.heap.size)
    (hk : ∀ v' w', w'.ownsRow base 9 1 v' (xs ++ ys).length ((xs ++ ys).map Value.string) → w.grownBy w' v.ownBlock → K (a.put (some d) v') w') : if Region.wanted o (yielded ops a.tmps) = true then Oper.wp Tryz.prog o a w K Q else K (a.put o.dst undef) w := by
  rw [if_pos hw]
  obtain ⟨v', w', hr, h2, h3⟩ := app_row w base o.type v xs ys V hown h hn hb
  unfold Oper.wp execOp
  simp only [hop, resolve, invoke, builtin, Sem.run_bind, Sem.run_pure, Result.andThen_ok, List.map_toArray, List.map_cons, List.map_nil, hs, hx, hr]
  show K (a.put o.dst v') w'
  rw [hd]
  exact hk v' w' h2 h3
theorem own_geN {W : World} {N e size n : Nat} {v : Value} {xs : List Value} (h : W.ownsRow N e size v n xs) : ∀ k, v.ownBlock = some k → N ≤ k ∧ k < W.heap.size := fun k hk => h.lt k hk
theorem own_some {W : World} {N : Nat} {v : Value} {xs : List ByteArray} (h : W.ownsRow N 9 1 v xs.length (xs.map Value.string)) (hx : xs ≠ []) : ∃ g c, v = .slice (some ⟨g, 0, none⟩) xs.length c := by
  rcases h.2 with ⟨rfl, h0⟩ | ⟨g, cap, cur, rfl, _⟩
  · exact absurd (List.length_eq_zero_iff.1 h0) hx
  · exact ⟨g, cap, rfl⟩
theorem rowAt_part {W : World} {b o c : Nat} {xs : List ByteArray} (h : rowAt txtC W (.slice (some ⟨b, o, none⟩) xs.length c) xs) (i : Nat) (hi : i ≤ xs.length) : rowAt txtC W (.slice (some ⟨b, o, none⟩) i c) (xs.take i) ∧ (c ≠ i → rowAt txtC W (.slice (some ⟨b, o + i, none⟩) (xs.length - i) (c - i)) (xs.drop i)) ∧ (c = i → xs.drop i = []) := by
  obtain ⟨a', c', e, h1, -, h3⟩ := rowAt_txts h
  injection e with e1 _ e3
  subst e1 e3
  have hc : b < W.heap.size ∨ xs = [] := by
    rcases h1 with h1 | ⟨b', o', e, hb, _⟩
    · exact .inr h1
    · cases e; exact .inl hb
  have hcell : ∀ (i : Nat) x, xs[i]? = some x → W.cell? ⟨b, o + i, none⟩ = some (.string x) := fun i x hx => by
    rcases h1 with h1 | ⟨b', o', e, _, hc⟩
    · rw [h1] at hx; simp at hx
    · cases e; exact hc i x hx
  have hlt : (xs.take i).length = i := by rw [List.length_take]; omega
  have hld : (xs.drop i).length = xs.length - i := List.length_drop
  refine ⟨?_, fun _ => ?_, fun e => List.drop_eq_nil_iff.2 (by omega)⟩
  · have := rowAt_of_txts (W := W) (a := some ⟨b, o, none⟩) (cap := c) (xs := xs.take i) (by
      rcases hc with hc | hc
      · exact .inr ⟨b, o, rfl, hc, fun j x hj => by
          have hl := (List.getElem?_eq_some_iff.1 hj).1
          rw [hlt] at hl
          rw [List.getElem?_take_of_lt hl] at hj
          exact hcell j x hj⟩
      · exact .inl (by rw [hc, List.take_nil])) (fun e => by cases e) (by omega)
    rwa [hlt] at this
  · have := rowAt_of_txts (W := W) (a := some ⟨b, o + i, none⟩) (cap := c - i) (xs := xs.drop i) (by
      rcases hc with hc | hc
      · exact .inr ⟨b, o + i, rfl, hc, fun j x hj => by
          rw [List.getElem?_drop] at hj
          rw [Nat.add_assoc]
          exact hcell (i + j) x hj⟩
      · exact .inl (by rw [hc, List.drop_nil])) (fun e => by cases e) (by omega)
    rwa [hld] at this
theorem less_lt (x s : ByteArray) : Op.bytesLess x.toList s.toList = ltT x s := by
  unfold ltT leB
  rw [Go.Proofs.bytesLess_eq, Lib.toList_data, Lib.toList_data, ← decide_not]
  exact decide_eq_decide.2 List.not_le.symm
theorem ins_at {s : ByteArray} : ∀ {out : List ByteArray} {i : Nat}, i ≤ out.length → (∀ j x, j < i → out[j]? = some x → ltT x s = true) → (∀ x, out[i]? = some x → ltT x s = false) → insT s out = out.take i ++ [s] ++ out.drop i
  | [], i, hi, _, _ => by
    have : i = 0 := by simpa using hi
    subst this; rfl
  | y :: ys, 0, _, _, h => by
    rw [insT, h y rfl]; rfl
  | y :: ys, i + 1, hi, h1, h2 => by
    rw [insT, h1 0 y (by omega) rfl, if_pos rfl, ins_at (by simpa using hi) (fun j x hj hx => h1 (j + 1) x (by omega) hx) (fun x hx => h2 x hx)]
    rfl
theorem add_at {s : ByteArray} {out : List ByteArray} {i : Nat} (ha : AscT out) (hi : i ≤ out.length) (h1 : ∀ j x, j < i → out[j]? = some x → ltT x s = true) (h2 : ∀ x, out[i]? = some x → ltT x s = false) :
    (out[i]? = some s → addT out s = out) ∧ (out[i]? ≠ some s → addT out s = out.take i ++ [s] ++ out.drop i) := by
  refine ⟨fun h => ?_, fun h => ?_⟩
  · unfold addT; rw [if_pos (memB_yes (List.mem_of_getElem? h))]
  · have hno : s ∉ out := fun hm => by
      obtain ⟨j, hj⟩ := List.getElem?_of_mem hm
      rcases Nat.lt_trichotomy j i with hl | hl | hl
      · exact lt_ne (h1 j s hl hj) rfl
      · subst hl; exact h hj
      · have hil : i < out.length := by have := (List.getElem?_eq_some_iff.1 hj).1; omega
        have h3 := h2 out[i] (List.getElem?_eq_getElem hil)
        have hjl := (List.getElem?_eq_some_iff.1 hj).1
        have h4 : ltT out[i] out[j] = true := (List.pairwise_iff_getElem.1 ha) i j hil hjl hl
        have h5 : out[j] = s := (List.getElem?_eq_some_iff.1 hj).2
        rw [h5, h3] at h4
        cases h4
    unfold addT
    rw [if_neg (fun e => hno (memB_iff.1 e)), ins_at hi h1 h2]
set_option maxRecDepth 100000 in
set_option maxHeartbeats 16000000 in
theorem l8Add_any (out : List ByteArray) (s : ByteArray) (N ob oc : Nat) (w : World) (hn : out.length ≤ 1048576) (ha : AscT out) (hN : N ≤ w.heap.size) (h : w.ownsRow N 9 1 (.slice (some ⟨ob, 0, none⟩) out.length oc) out.length (out.map Value.string)) :
    Calls Tryz.prog 70 #[.slice (some ⟨ob, 0, none⟩) out.length oc, .string s] w fun x w' => ∃ g c, x = .returned (.slice (some ⟨g, 0, none⟩) (addT out s).length c) ∧ w'.ownsRow N 9 1 (.slice (some ⟨g, 0, none⟩) (addT out s).length c) (addT out s).length ((addT out s).map Value.string) ∧ Below w.heap.size w w' := by
  have H := hid h
  have hat := ownsRow_at h
  obtain ⟨-, -, -, ht, -, -⟩ := ownsRow_txts h
  obtain ⟨a', c', e, ht, -, hcap⟩ := rowAt_txts hat
  injection e with e1 _ e3
  subst e1 e3
  have HAT := hid hat
  have HA := hid ha
  clear h ha hat
  go_enter Tryz.func70, Tryz.ntmps70
  go_wp2_with fail
  go_loopw [5] (fun i wr => ∃ k : Nat, k ≤ out.length ∧ i = .int .i64 (k : Int) ∧ Hid (∀ j x, j < k → out[j]? = some x → ltT x s = true) ∧ wr = w) (fun i _ => out.length - (intOf i).toNat)
  case atStart => exact ⟨0, Nat.zero_le _, rfl, hid (fun j x hj => absurd hj (Nat.not_lt_zero _)), (by first | rfl | trivial)⟩
  case round =>
    obtain ⟨k, hk, rfl, HL, rfl⟩ := hrel
    by_cases hlt : k < out.length
    · obtain ⟨x, hx⟩ : ∃ x, out[k]? = some x := ⟨out[k], List.getElem?_eq_getElem hlt⟩
      obtain ⟨b', o', e, hbl, hc⟩ := ht.get (by intro e; subst e; simp at hlt)
      cases e
      have c0 := hc k x hx
      rw [Nat.zero_add] at c0
      have HX := hid hx
      have hll := less_lt x s
      have hxq := txt_iff x s
      clear hc hx
      cases hl : ltT x s with
      | true =>
        rw [hl] at hll
        have HL2 := hid (show ∀ j y, j < k + 1 → out[j]? = some y → ltT y s = true from fun j y hj hy => by
          by_cases e : j = k
          · subst e; rw [unhid HX] at hy; cases hy; exact hl
          · exact unhid HL j y (by omega) hy)
        clear hl
        go_wp2_with fail
        go_roundw
        case rel => exact ⟨k + 1, by omega, by go_num, HL2, (by first | rfl | trivial)⟩
        case measure => simp [intOf]; omega
      | false =>
        rw [hl] at hll
        obtain ⟨a1, a2⟩ := add_at (unhid HA) hk (unhid HL) (fun y hy => by rw [unhid HX] at hy; cases hy; exact hl)
        by_cases hxs : x = s
        · rw [decide_eq_true hxs] at hxq
          have e0 := a1 (by rw [unhid HX, hxs])
          have HE := hid e0
          clear hl a1 a2 hxs e0
          go_wp2_with fail
          go_ret
          refine ⟨ob, oc, by rw [unhid HE]; rfl, ?_, Below.refl _ _⟩
          rw [unhid HE]
          exact unhid H
        · rw [decide_eq_false hxs] at hxq
          have e0 := a2 (by rw [unhid HX]; intro e; injection e with e; exact hxs e)
          have HE := hid e0
          clear hl a1 a2 hxs e0
          go_wp2_with fail
          by_cases hck : oc = k
          · have hck0 : oc - k = 0 := by omega
            have hC := drew_belowS (B := wr.heap.size) wr
            refine held_begin (fun w' => Below wr.heap.size wr w') (by kernel_rfl) hC ?_
            have hba : ∀ {q : Prop}, (CW (fun w' => Below wr.heap.size wr w') → q) ↔ q := CW.all hC
            refine held_here [false, true, true, true, false, true, false, false, true, true, true] (by kernel_rfl) (by kernel_rfl) (fun _ _ _ _ _ h => h) hC ?_
            dsimp only [pick]
            repeat (go_big_quiet_step (fail))
            refine wpQuiet_nil ?_
            clear hba
            generalize wr.drew = w0 at hC ⊢
            refine held_op2 0 6 (by kernel_rfl) (by kernel_rfl) rfl rfl (fun KK hK => ?_) (fun KK hK => ?_)
            · go_simp
              have hx := World.alloc_heap_new w0 (.cells #[] 9)
              have hb : Below w0.heap.size w0 (w0.alloc (.cells #[] 9)) := (Below.refl _ w0).alloc (Nat.le_refl _) _
              have hz : w0.heap.size < (w0.alloc (.cells #[] 9)).heap.size := by simp
              have hA0 := ownsRow_lowerS (ownsRow_made0 w0) (N := wr.heap.size) (hC.size)
              have hC := hC.trans (hb.mono hC.size)
              refine hK.out _ _ hC ?_
              clear hK KK
              generalize w0.alloc (.cells #[] 9) = w1 at hx hb hz hC hA0 ⊢
              have hA := hA0
              clear hx hA0
              refine held_op2 4 6 (by kernel_rfl) (by kernel_rfl) rfl rfl (fun KK hK => ?_) (fun KK hK => ?_)
              · refine row_op 37 wr.heap.size (.slice (some ⟨w0.heap.size, 0, none⟩) 0 0) [] (out.take k) (.slice (some ⟨ob, 0, none⟩) k k) rfl (by kernel_rfl) rfl rfl rfl hA (by have h := (rowAt_part ((unhid HAT).below hC) k hk).1; rwa [hck] at h) (by rw [List.length_take]; simp; omega) hC.size (fun v4 w2 hV hg => ?_)
                rw [List.nil_append] at hV
                have hC4 : Below wr.heap.size wr w2 := hC.grown hg hC.size (fun j hj => (own_geN hA j hj).1)
                refine hK.out _ _ hC4 ?_
                simp only [Act.put, List.setIfInBounds_toArray, List.set_cons_zero, List.set_cons_succ]
                clear hK KK hA
                have hC := hC4
                clear hC4
                have hzz := hg.size
                refine held_op 6 (by kernel_rfl) (by kernel_rfl) rfl (fun KK hK => ?_)
                go_simp
                have hx := World.alloc_heap_new w2 (.cells #[.string s] 9)
                have hb : Below w2.heap.size w2 (w2.alloc (.cells #[.string s] 9)) := (Below.refl _ w2).alloc (Nat.le_refl _) _
                have hz : w2.heap.size < (w2.alloc (.cells #[.string s] 9)).heap.size := by simp
                have hC := hC.trans (hb.mono hC.size)
                refine hK.out _ _ hC ?_
                clear hK KK
                generalize w2.alloc (.cells #[.string s] 9) = w3 at hx hb hz hC ⊢
                have hS := hx
                have hV := ownsRow_belowS hV hb
                refine held_op 7 (by kernel_rfl) (by kernel_rfl) rfl (fun KK hK => ?_)
                refine name_op 40 wr.heap.size v4 (out.take k) s (w2.heap.size) rfl (by kernel_rfl) rfl rfl rfl hV (cell_arrS hS 0 _ rfl) (by rw [List.length_take]; omega) hC.size (fun v7 w7 hV7 hg7 _ => ?_)
                have hC7 : Below wr.heap.size wr w7 := hC.grown hg7 hC.size (fun j hj => (own_geN hV j hj).1)
                refine hK.out _ _ hC7 ?_
                simp only [Act.put, List.setIfInBounds_toArray, List.set_cons_zero, List.set_cons_succ]
                clear hK KK
                refine held_op 11 (by kernel_rfl) (by kernel_rfl) rfl (fun KK hK => ?_)
                refine row_op 44 wr.heap.size v7 (out.take k ++ [s]) (out.drop k) (.slice (some ⟨ob, 0, none⟩) (out.length - k) 0) rfl (by kernel_rfl) rfl rfl rfl hV7 (by rw [(rowAt_part ((unhid HAT).below hC7) k hk).2.2 hck, show out.length - k = 0 by omega]; exact rowAt_of_txts (xs := []) (.inl rfl) (fun e => by cases e) (Nat.zero_le _)) (by rw [List.length_append, List.length_take, List.length_drop, List.length_singleton]; omega) hC7.size (fun v11 w11 hV11 hg11 => ?_)
                have hC11 : Below wr.heap.size wr w11 := hC7.grown hg11 hC7.size (fun j hj => (own_geN hV7 j hj).1)
                refine hK.out _ _ hC11 ?_
                simp only [Act.put, List.setIfInBounds_toArray, List.set_cons_zero, List.set_cons_succ]
                clear hK KK
                rw [← unhid HE] at hV11
                obtain ⟨g11, c11, rfl⟩ := own_some hV11 (by rw [unhid HE]; simp)
                have HV := hid (ownsRow_lowerS hV11 hN)
                have HC := hid hC11
                clear hV11 hg11 hV7 hg7 hC7 hV hS
                have hba : ∀ {q : Prop}, (CW (fun w' => Below wr.heap.size wr w') → q) ↔ q := CW.all hC11
                refine held_here [false, false, false, false, false, false, false, false, false, false, false, false, true] (by kernel_rfl) (by kernel_rfl) (fun _ _ _ _ _ h => h) hC11 ?_
                dsimp only [pick]
                repeat (go_big_quiet_step (fail))
                refine wpQuiet_nil ?_
                clear hba
                refine held_done (by kernel_rfl) ?_
                clear hC11
                go_wp2_with fail
                go_ret
                exact ⟨g11, c11, rfl, unhid HV, unhid HC⟩
              · go_simp
                have hx := World.alloc_heap_new w1 (.cells #[.string s] 9)
                have hb : Below w1.heap.size w1 (w1.alloc (.cells #[.string s] 9)) := (Below.refl _ w1).alloc (Nat.le_refl _) _
                have hz : w1.heap.size < (w1.alloc (.cells #[.string s] 9)).heap.size := by simp
                have hC := hC.trans (hb.mono hC.size)
                refine hK.out _ _ hC ?_
                clear hK KK
                generalize w1.alloc (.cells #[.string s] 9) = w2 at hx hb hz hC ⊢
                have hS := hx
                have hA := ownsRow_belowS hA hb
                refine held_op 4 (by kernel_rfl) (by kernel_rfl) rfl (fun KK hK => ?_)
                refine row_op 37 wr.heap.size (.slice (some ⟨w0.heap.size, 0, none⟩) 0 0) [] (out.take k) (.slice (some ⟨ob, 0, none⟩) k k) rfl (by kernel_rfl) rfl rfl rfl hA (by have h := (rowAt_part ((unhid HAT).below hC) k hk).1; rwa [hck] at h) (by rw [List.length_take]; simp; omega) hC.size (fun v4 w3 hV hg => ?_)
                rw [List.nil_append] at hV
                have hC4 : Below wr.heap.size wr w3 := hC.grown hg hC.size (fun j hj => (own_geN hA j hj).1)
                have hS := (hg.block _ (Array.getElem?_eq_some_iff.1 hS).1 (by intro e; simp [Value.ownBlock] at e; omega)).trans hS
                refine hK.out _ _ hC4 ?_
                simp only [Act.put, List.setIfInBounds_toArray, List.set_cons_zero, List.set_cons_succ]
                clear hK KK hA
                have hC := hC4
                clear hC4
                have hzz := hg.size
                refine held_op 7 (by kernel_rfl) (by kernel_rfl) rfl (fun KK hK => ?_)
                refine name_op 40 wr.heap.size v4 (out.take k) s (w1.heap.size) rfl (by kernel_rfl) rfl rfl rfl hV (cell_arrS hS 0 _ rfl) (by rw [List.length_take]; omega) hC.size (fun v7 w7 hV7 hg7 _ => ?_)
                have hC7 : Below wr.heap.size wr w7 := hC.grown hg7 hC.size (fun j hj => (own_geN hV j hj).1)
                refine hK.out _ _ hC7 ?_
                simp only [Act.put, List.setIfInBounds_toArray, List.set_cons_zero, List.set_cons_succ]
                clear hK KK
                refine held_op 11 (by kernel_rfl) (by kernel_rfl) rfl (fun KK hK => ?_)
                refine row_op 44 wr.heap.size v7 (out.take k ++ [s]) (out.drop k) (.slice (some ⟨ob, 0, none⟩) (out.length - k) 0) rfl (by kernel_rfl) rfl rfl rfl hV7 (by rw [(rowAt_part ((unhid HAT).below hC7) k hk).2.2 hck, show out.length - k = 0 by omega]; exact rowAt_of_txts (xs := []) (.inl rfl) (fun e => by cases e) (Nat.zero_le _)) (by rw [List.length_append, List.length_take, List.length_drop, List.length_singleton]; omega) hC7.size (fun v11 w11 hV11 hg11 => ?_)
                have hC11 : Below wr.heap.size wr w11 := hC7.grown hg11 hC7.size (fun j hj => (own_geN hV7 j hj).1)
                refine hK.out _ _ hC11 ?_
                simp only [Act.put, List.setIfInBounds_toArray, List.set_cons_zero, List.set_cons_succ]
                clear hK KK
                rw [← unhid HE] at hV11
                obtain ⟨g11, c11, rfl⟩ := own_some hV11 (by rw [unhid HE]; simp)
                have HV := hid (ownsRow_lowerS hV11 hN)
                have HC := hid hC11
                clear hV11 hg11 hV7 hg7 hC7 hV hS
                have hba : ∀ {q : Prop}, (CW (fun w' => Below wr.heap.size wr w') → q) ↔ q := CW.all hC11
                refine held_here [false, false, false, false, false, false, false, false, false, false, false, false, true] (by kernel_rfl) (by kernel_rfl) (fun _ _ _ _ _ h => h) hC11 ?_
                dsimp only [pick]
                repeat (go_big_quiet_step (fail))
                refine wpQuiet_nil ?_
                clear hba
                refine held_done (by kernel_rfl) ?_
                clear hC11
                go_wp2_with fail
                go_ret
                exact ⟨g11, c11, rfl, unhid HV, unhid HC⟩
            · go_simp
              have hx := World.alloc_heap_new w0 (.cells #[.string s] 9)
              have hb : Below w0.heap.size w0 (w0.alloc (.cells #[.string s] 9)) := (Below.refl _ w0).alloc (Nat.le_refl _) _
              have hz : w0.heap.size < (w0.alloc (.cells #[.string s] 9)).heap.size := by simp
              have hC := hC.trans (hb.mono hC.size)
              refine hK.out _ _ hC ?_
              clear hK KK
              generalize w0.alloc (.cells #[.string s] 9) = w1 at hx hb hz hC ⊢
              have hS := hx
              clear hx
              refine held_op 0 (by kernel_rfl) (by kernel_rfl) rfl (fun KK hK => ?_)
              go_simp
              have hx := World.alloc_heap_new w1 (.cells #[] 9)
              have hb : Below w1.heap.size w1 (w1.alloc (.cells #[] 9)) := (Below.refl _ w1).alloc (Nat.le_refl _) _
              have hz : w1.heap.size < (w1.alloc (.cells #[] 9)).heap.size := by simp
              have hA0 := ownsRow_lowerS (ownsRow_made0 w1) (N := wr.heap.size) (hC.size)
              have hC := hC.trans (hb.mono hC.size)
              refine hK.out _ _ hC ?_
              clear hK KK
              generalize w1.alloc (.cells #[] 9) = w2 at hx hb hz hC hA0 ⊢
              have hA := hA0
              have hS := (hb.block _ (Array.getElem?_eq_some_iff.1 hS).1).trans hS
              refine held_op 4 (by kernel_rfl) (by kernel_rfl) rfl (fun KK hK => ?_)
              refine row_op 37 wr.heap.size (.slice (some ⟨w1.heap.size, 0, none⟩) 0 0) [] (out.take k) (.slice (some ⟨ob, 0, none⟩) k k) rfl (by kernel_rfl) rfl rfl rfl hA (by have h := (rowAt_part ((unhid HAT).below hC) k hk).1; rwa [hck] at h) (by rw [List.length_take]; simp; omega) hC.size (fun v4 w3 hV hg => ?_)
              rw [List.nil_append] at hV
              have hC4 : Below wr.heap.size wr w3 := hC.grown hg hC.size (fun j hj => (own_geN hA j hj).1)
              have hS := (hg.block _ (Array.getElem?_eq_some_iff.1 hS).1 (by intro e; simp [Value.ownBlock] at e; omega)).trans hS
              refine hK.out _ _ hC4 ?_
              simp only [Act.put, List.setIfInBounds_toArray, List.set_cons_zero, List.set_cons_succ]
              clear hK KK hA
              have hC := hC4
              clear hC4
              have hzz := hg.size
              refine held_op 7 (by kernel_rfl) (by kernel_rfl) rfl (fun KK hK => ?_)
              refine name_op 40 wr.heap.size v4 (out.take k) s (w0.heap.size) rfl (by kernel_rfl) rfl rfl rfl hV (cell_arrS hS 0 _ rfl) (by rw [List.length_take]; omega) hC.size (fun v7 w7 hV7 hg7 _ => ?_)
              have hC7 : Below wr.heap.size wr w7 := hC.grown hg7 hC.size (fun j hj => (own_geN hV j hj).1)
              refine hK.out _ _ hC7 ?_
              simp only [Act.put, List.setIfInBounds_toArray, List.set_cons_zero, List.set_cons_succ]
              clear hK KK
              refine held_op 11 (by kernel_rfl) (by kernel_rfl) rfl (fun KK hK => ?_)
              refine row_op 44 wr.heap.size v7 (out.take k ++ [s]) (out.drop k) (.slice (some ⟨ob, 0, none⟩) (out.length - k) 0) rfl (by kernel_rfl) rfl rfl rfl hV7 (by rw [(rowAt_part ((unhid HAT).below hC7) k hk).2.2 hck, show out.length - k = 0 by omega]; exact rowAt_of_txts (xs := []) (.inl rfl) (fun e => by cases e) (Nat.zero_le _)) (by rw [List.length_append, List.length_take, List.length_drop, List.length_singleton]; omega) hC7.size (fun v11 w11 hV11 hg11 => ?_)
              have hC11 : Below wr.heap.size wr w11 := hC7.grown hg11 hC7.size (fun j hj => (own_geN hV7 j hj).1)
              refine hK.out _ _ hC11 ?_
              simp only [Act.put, List.setIfInBounds_toArray, List.set_cons_zero, List.set_cons_succ]
              clear hK KK
              rw [← unhid HE] at hV11
              obtain ⟨g11, c11, rfl⟩ := own_some hV11 (by rw [unhid HE]; simp)
              have HV := hid (ownsRow_lowerS hV11 hN)
              have HC := hid hC11
              clear hV11 hg11 hV7 hg7 hC7 hV hS
              have hba : ∀ {q : Prop}, (CW (fun w' => Below wr.heap.size wr w') → q) ↔ q := CW.all hC11
              refine held_here [false, false, false, false, false, false, false, false, false, false, false, false, true] (by kernel_rfl) (by kernel_rfl) (fun _ _ _ _ _ h => h) hC11 ?_
              dsimp only [pick]
              repeat (go_big_quiet_step (fail))
              refine wpQuiet_nil ?_
              clear hba
              refine held_done (by kernel_rfl) ?_
              clear hC11
              go_wp2_with fail
              go_ret
              exact ⟨g11, c11, rfl, unhid HV, unhid HC⟩
          · have hck0 : ¬ oc - k = 0 := by omega
            have hC := drew_belowS (B := wr.heap.size) wr
            refine held_begin (fun w' => Below wr.heap.size wr w') (by kernel_rfl) hC ?_
            have hba : ∀ {q : Prop}, (CW (fun w' => Below wr.heap.size wr w') → q) ↔ q := CW.all hC
            refine held_here [false, true, true, true, false, true, false, false, true, true, true] (by kernel_rfl) (by kernel_rfl) (fun _ _ _ _ _ h => h) hC ?_
            dsimp only [pick]
            repeat (go_big_quiet_step (fail))
            refine wpQuiet_nil ?_
            clear hba
            generalize wr.drew = w0 at hC ⊢
            refine held_op2 0 6 (by kernel_rfl) (by kernel_rfl) rfl rfl (fun KK hK => ?_) (fun KK hK => ?_)
            · go_simp
              have hx := World.alloc_heap_new w0 (.cells #[] 9)
              have hb : Below w0.heap.size w0 (w0.alloc (.cells #[] 9)) := (Below.refl _ w0).alloc (Nat.le_refl _) _
              have hz : w0.heap.size < (w0.alloc (.cells #[] 9)).heap.size := by simp
              have hA0 := ownsRow_lowerS (ownsRow_made0 w0) (N := wr.heap.size) (hC.size)
              have hC := hC.trans (hb.mono hC.size)
              refine hK.out _ _ hC ?_
              clear hK KK
              generalize w0.alloc (.cells #[] 9) = w1 at hx hb hz hC hA0 ⊢
              have hA := hA0
              clear hx hA0
              refine held_op2 4 6 (by kernel_rfl) (by kernel_rfl) rfl rfl (fun KK hK => ?_) (fun KK hK => ?_)
              · refine row_op 37 wr.heap.size (.slice (some ⟨w0.heap.size, 0, none⟩) 0 0) [] (out.take k) (.slice (some ⟨ob, 0, none⟩) k oc) rfl (by kernel_rfl) rfl rfl rfl hA (rowAt_part ((unhid HAT).below hC) k hk |>.1) (by rw [List.length_take]; simp; omega) hC.size (fun v4 w2 hV hg => ?_)
                rw [List.nil_append] at hV
                have hC4 : Below wr.heap.size wr w2 := hC.grown hg hC.size (fun j hj => (own_geN hA j hj).1)
                refine hK.out _ _ hC4 ?_
                simp only [Act.put, List.setIfInBounds_toArray, List.set_cons_zero, List.set_cons_succ]
                clear hK KK hA
                have hC := hC4
                clear hC4
                have hzz := hg.size
                refine held_op 6 (by kernel_rfl) (by kernel_rfl) rfl (fun KK hK => ?_)
                go_simp
                have hx := World.alloc_heap_new w2 (.cells #[.string s] 9)
                have hb : Below w2.heap.size w2 (w2.alloc (.cells #[.string s] 9)) := (Below.refl _ w2).alloc (Nat.le_refl _) _
                have hz : w2.heap.size < (w2.alloc (.cells #[.string s] 9)).heap.size := by simp
                have hC := hC.trans (hb.mono hC.size)
                refine hK.out _ _ hC ?_
                clear hK KK
                generalize w2.alloc (.cells #[.string s] 9) = w3 at hx hb hz hC ⊢
                have hS := hx
                have hV := ownsRow_belowS hV hb
                refine held_op 7 (by kernel_rfl) (by kernel_rfl) rfl (fun KK hK => ?_)
                refine name_op 40 wr.heap.size v4 (out.take k) s (w2.heap.size) rfl (by kernel_rfl) rfl rfl rfl hV (cell_arrS hS 0 _ rfl) (by rw [List.length_take]; omega) hC.size (fun v7 w7 hV7 hg7 _ => ?_)
                have hC7 : Below wr.heap.size wr w7 := hC.grown hg7 hC.size (fun j hj => (own_geN hV j hj).1)
                refine hK.out _ _ hC7 ?_
                simp only [Act.put, List.setIfInBounds_toArray, List.set_cons_zero, List.set_cons_succ]
                clear hK KK
                refine held_op 11 (by kernel_rfl) (by kernel_rfl) rfl (fun KK hK => ?_)
                refine row_op 44 wr.heap.size v7 (out.take k ++ [s]) (out.drop k) (.slice (some ⟨ob, k, none⟩) (out.length - k) (oc - k)) rfl (by kernel_rfl) rfl rfl rfl hV7 (by have := (rowAt_part ((unhid HAT).below hC7) k hk).2.1 hck; rwa [Nat.zero_add] at this) (by rw [List.length_append, List.length_take, List.length_drop, List.length_singleton]; omega) hC7.size (fun v11 w11 hV11 hg11 => ?_)
                have hC11 : Below wr.heap.size wr w11 := hC7.grown hg11 hC7.size (fun j hj => (own_geN hV7 j hj).1)
                refine hK.out _ _ hC11 ?_
                simp only [Act.put, List.setIfInBounds_toArray, List.set_cons_zero, List.set_cons_succ]
                clear hK KK
                rw [← unhid HE] at hV11
                obtain ⟨g11, c11, rfl⟩ := own_some hV11 (by rw [unhid HE]; simp)
                have HV := hid (ownsRow_lowerS hV11 hN)
                have HC := hid hC11
                clear hV11 hg11 hV7 hg7 hC7 hV hS
                have hba : ∀ {q : Prop}, (CW (fun w' => Below wr.heap.size wr w') → q) ↔ q := CW.all hC11
                refine held_here [false, false, false, false, false, false, false, false, false, false, false, false, true] (by kernel_rfl) (by kernel_rfl) (fun _ _ _ _ _ h => h) hC11 ?_
                dsimp only [pick]
                repeat (go_big_quiet_step (fail))
                refine wpQuiet_nil ?_
                clear hba
                refine held_done (by kernel_rfl) ?_
                clear hC11
                go_wp2_with fail
                go_ret
                exact ⟨g11, c11, rfl, unhid HV, unhid HC⟩
              · go_simp
                have hx := World.alloc_heap_new w1 (.cells #[.string s] 9)
                have hb : Below w1.heap.size w1 (w1.alloc (.cells #[.string s] 9)) := (Below.refl _ w1).alloc (Nat.le_refl _) _
                have hz : w1.heap.size < (w1.alloc (.cells #[.string s] 9)).heap.size := by simp
                have hC := hC.trans (hb.mono hC.size)
                refine hK.out _ _ hC ?_
                clear hK KK
                generalize w1.alloc (.cells #[.string s] 9) = w2 at hx hb hz hC ⊢
                have hS := hx
                have hA := ownsRow_belowS hA hb
                refine held_op 4 (by kernel_rfl) (by kernel_rfl) rfl (fun KK hK => ?_)
                refine row_op 37 wr.heap.size (.slice (some ⟨w0.heap.size, 0, none⟩) 0 0) [] (out.take k) (.slice (some ⟨ob, 0, none⟩) k oc) rfl (by kernel_rfl) rfl rfl rfl hA (rowAt_part ((unhid HAT).below hC) k hk |>.1) (by rw [List.length_take]; simp; omega) hC.size (fun v4 w3 hV hg => ?_)
                rw [List.nil_append] at hV
                have hC4 : Below wr.heap.size wr w3 := hC.grown hg hC.size (fun j hj => (own_geN hA j hj).1)
                have hS := (hg.block _ (Array.getElem?_eq_some_iff.1 hS).1 (by intro e; simp [Value.ownBlock] at e; omega)).trans hS
                refine hK.out _ _ hC4 ?_
                simp only [Act.put, List.setIfInBounds_toArray, List.set_cons_zero, List.set_cons_succ]
                clear hK KK hA
                have hC := hC4
                clear hC4
                have hzz := hg.size
                refine held_op 7 (by kernel_rfl) (by kernel_rfl) rfl (fun KK hK => ?_)
                refine name_op 40 wr.heap.size v4 (out.take k) s (w1.heap.size) rfl (by kernel_rfl) rfl rfl rfl hV (cell_arrS hS 0 _ rfl) (by rw [List.length_take]; omega) hC.size (fun v7 w7 hV7 hg7 _ => ?_)
                have hC7 : Below wr.heap.size wr w7 := hC.grown hg7 hC.size (fun j hj => (own_geN hV j hj).1)
                refine hK.out _ _ hC7 ?_
                simp only [Act.put, List.setIfInBounds_toArray, List.set_cons_zero, List.set_cons_succ]
                clear hK KK
                refine held_op 11 (by kernel_rfl) (by kernel_rfl) rfl (fun KK hK => ?_)
                refine row_op 44 wr.heap.size v7 (out.take k ++ [s]) (out.drop k) (.slice (some ⟨ob, k, none⟩) (out.length - k) (oc - k)) rfl (by kernel_rfl) rfl rfl rfl hV7 (by have := (rowAt_part ((unhid HAT).below hC7) k hk).2.1 hck; rwa [Nat.zero_add] at this) (by rw [List.length_append, List.length_take, List.length_drop, List.length_singleton]; omega) hC7.size (fun v11 w11 hV11 hg11 => ?_)
                have hC11 : Below wr.heap.size wr w11 := hC7.grown hg11 hC7.size (fun j hj => (own_geN hV7 j hj).1)
                refine hK.out _ _ hC11 ?_
                simp only [Act.put, List.setIfInBounds_toArray, List.set_cons_zero, List.set_cons_succ]
                clear hK KK
                rw [← unhid HE] at hV11
                obtain ⟨g11, c11, rfl⟩ := own_some hV11 (by rw [unhid HE]; simp)
                have HV := hid (ownsRow_lowerS hV11 hN)
                have HC := hid hC11
                clear hV11 hg11 hV7 hg7 hC7 hV hS
                have hba : ∀ {q : Prop}, (CW (fun w' => Below wr.heap.size wr w') → q) ↔ q := CW.all hC11
                refine held_here [false, false, false, false, false, false, false, false, false, false, false, false, true] (by kernel_rfl) (by kernel_rfl) (fun _ _ _ _ _ h => h) hC11 ?_
                dsimp only [pick]
                repeat (go_big_quiet_step (fail))
                refine wpQuiet_nil ?_
                clear hba
                refine held_done (by kernel_rfl) ?_
                clear hC11
                go_wp2_with fail
                go_ret
                exact ⟨g11, c11, rfl, unhid HV, unhid HC⟩
            · go_simp
              have hx := World.alloc_heap_new w0 (.cells #[.string s] 9)
              have hb : Below w0.heap.size w0 (w0.alloc (.cells #[.string s] 9)) := (Below.refl _ w0).alloc (Nat.le_refl _) _
              have hz : w0.heap.size < (w0.alloc (.cells #[.string s] 9)).heap.size := by simp
              have hC := hC.trans (hb.mono hC.size)
              refine hK.out _ _ hC ?_
              clear hK KK
              generalize w0.alloc (.cells #[.string s] 9) = w1 at hx hb hz hC ⊢
              have hS := hx
              clear hx
              refine held_op 0 (by kernel_rfl) (by kernel_rfl) rfl (fun KK hK => ?_)
              go_simp
              have hx := World.alloc_heap_new w1 (.cells #[] 9)
              have hb : Below w1.heap.size w1 (w1.alloc (.cells #[] 9)) := (Below.refl _ w1).alloc (Nat.le_refl _) _
              have hz : w1.heap.size < (w1.alloc (.cells #[] 9)).heap.size := by simp
              have hA0 := ownsRow_lowerS (ownsRow_made0 w1) (N := wr.heap.size) (hC.size)
              have hC := hC.trans (hb.mono hC.size)
              refine hK.out _ _ hC ?_
              clear hK KK
              generalize w1.alloc (.cells #[] 9) = w2 at hx hb hz hC hA0 ⊢
              have hA := hA0
              have hS := (hb.block _ (Array.getElem?_eq_some_iff.1 hS).1).trans hS
              refine held_op 4 (by kernel_rfl) (by kernel_rfl) rfl (fun KK hK => ?_)
              refine row_op 37 wr.heap.size (.slice (some ⟨w1.heap.size, 0, none⟩) 0 0) [] (out.take k) (.slice (some ⟨ob, 0, none⟩) k oc) rfl (by kernel_rfl) rfl rfl rfl hA (rowAt_part ((unhid HAT).below hC) k hk |>.1) (by rw [List.length_take]; simp; omega) hC.size (fun v4 w3 hV hg => ?_)
              rw [List.nil_append] at hV
              have hC4 : Below wr.heap.size wr w3 := hC.grown hg hC.size (fun j hj => (own_geN hA j hj).1)
              have hS := (hg.block _ (Array.getElem?_eq_some_iff.1 hS).1 (by intro e; simp [Value.ownBlock] at e; omega)).trans hS
              refine hK.out _ _ hC4 ?_
              simp only [Act.put, List.setIfInBounds_toArray, List.set_cons_zero, List.set_cons_succ]
              clear hK KK hA
              have hC := hC4
              clear hC4
              have hzz := hg.size
              refine held_op 7 (by kernel_rfl) (by kernel_rfl) rfl (fun KK hK => ?_)
              refine name_op 40 wr.heap.size v4 (out.take k) s (w0.heap.size) rfl (by kernel_rfl) rfl rfl rfl hV (cell_arrS hS 0 _ rfl) (by rw [List.length_take]; omega) hC.size (fun v7 w7 hV7 hg7 _ => ?_)
              have hC7 : Below wr.heap.size wr w7 := hC.grown hg7 hC.size (fun j hj => (own_geN hV j hj).1)
              refine hK.out _ _ hC7 ?_
              simp only [Act.put, List.setIfInBounds_toArray, List.set_cons_zero, List.set_cons_succ]
              clear hK KK
              refine held_op 11 (by kernel_rfl) (by kernel_rfl) rfl (fun KK hK => ?_)
              refine row_op 44 wr.heap.size v7 (out.take k ++ [s]) (out.drop k) (.slice (some ⟨ob, k, none⟩) (out.length - k) (oc - k)) rfl (by kernel_rfl) rfl rfl rfl hV7 (by have := (rowAt_part ((unhid HAT).below hC7) k hk).2.1 hck; rwa [Nat.zero_add] at this) (by rw [List.length_append, List.length_take, List.length_drop, List.length_singleton]; omega) hC7.size (fun v11 w11 hV11 hg11 => ?_)
              have hC11 : Below wr.heap.size wr w11 := hC7.grown hg11 hC7.size (fun j hj => (own_geN hV7 j hj).1)
              refine hK.out _ _ hC11 ?_
              simp only [Act.put, List.setIfInBounds_toArray, List.set_cons_zero, List.set_cons_succ]
              clear hK KK
              rw [← unhid HE] at hV11
              obtain ⟨g11, c11, rfl⟩ := own_some hV11 (by rw [unhid HE]; simp)
              have HV := hid (ownsRow_lowerS hV11 hN)
              have HC := hid hC11
              clear hV11 hg11 hV7 hg7 hC7 hV hS
              have hba : ∀ {q : Prop}, (CW (fun w' => Below wr.heap.size wr w') → q) ↔ q := CW.all hC11
              refine held_here [false, false, false, false, false, false, false, false, false, false, false, false, true] (by kernel_rfl) (by kernel_rfl) (fun _ _ _ _ _ h => h) hC11 ?_
              dsimp only [pick]
              repeat (go_big_quiet_step (fail))
              refine wpQuiet_nil ?_
              clear hba
              refine held_done (by kernel_rfl) ?_
              clear hC11
              go_wp2_with fail
              go_ret
              exact ⟨g11, c11, rfl, unhid HV, unhid HC⟩
    · have e : k = out.length := by omega
      have HE := hid ((add_at (unhid HA) hk (unhid HL) (fun y hy => by rw [List.getElem?_eq_none (by omega)] at hy; cases hy)).2 (by rw [List.getElem?_eq_none (by omega)]; simp))
      have hnl : ¬ (k : Int) < (out.length : Int) := by omega
      clear ht e
      go_wp2_with fail
      by_cases hck : oc = k
      · have hck0 : oc - k = 0 := by omega
        have hC := drew_belowS (B := wr.heap.size) wr
        refine held_begin (fun w' => Below wr.heap.size wr w') (by kernel_rfl) hC ?_
        have hba : ∀ {q : Prop}, (CW (fun w' => Below wr.heap.size wr w') → q) ↔ q := CW.all hC
        refine held_here [false, true, true, true, false, true, false, false, true, true, true] (by kernel_rfl) (by kernel_rfl) (fun _ _ _ _ _ h => h) hC ?_
        dsimp only [pick]
        repeat (go_big_quiet_step (fail))
        refine wpQuiet_nil ?_
        clear hba
        generalize wr.drew = w0 at hC ⊢
        refine held_op2 0 6 (by kernel_rfl) (by kernel_rfl) rfl rfl (fun KK hK => ?_) (fun KK hK => ?_)
        · go_simp
          have hx := World.alloc_heap_new w0 (.cells #[] 9)
          have hb : Below w0.heap.size w0 (w0.alloc (.cells #[] 9)) := (Below.refl _ w0).alloc (Nat.le_refl _) _
          have hz : w0.heap.size < (w0.alloc (.cells #[] 9)).heap.size := by simp
          have hA0 := ownsRow_lowerS (ownsRow_made0 w0) (N := wr.heap.size) (hC.size)
          have hC := hC.trans (hb.mono hC.size)
          refine hK.out _ _ hC ?_
          clear hK KK
          generalize w0.alloc (.cells #[] 9) = w1 at hx hb hz hC hA0 ⊢
          have hA := hA0
          clear hx hA0
          refine held_op2 4 6 (by kernel_rfl) (by kernel_rfl) rfl rfl (fun KK hK => ?_) (fun KK hK => ?_)
          · refine row_op 37 wr.heap.size (.slice (some ⟨w0.heap.size, 0, none⟩) 0 0) [] (out.take k) (.slice (some ⟨ob, 0, none⟩) k k) rfl (by kernel_rfl) rfl rfl rfl hA (by have h := (rowAt_part ((unhid HAT).below hC) k hk).1; rwa [hck] at h) (by rw [List.length_take]; simp; omega) hC.size (fun v4 w2 hV hg => ?_)
            rw [List.nil_append] at hV
            have hC4 : Below wr.heap.size wr w2 := hC.grown hg hC.size (fun j hj => (own_geN hA j hj).1)
            refine hK.out _ _ hC4 ?_
            simp only [Act.put, List.setIfInBounds_toArray, List.set_cons_zero, List.set_cons_succ]
            clear hK KK hA
            have hC := hC4
            clear hC4
            have hzz := hg.size
            refine held_op 6 (by kernel_rfl) (by kernel_rfl) rfl (fun KK hK => ?_)
            go_simp
            have hx := World.alloc_heap_new w2 (.cells #[.string s] 9)
            have hb : Below w2.heap.size w2 (w2.alloc (.cells #[.string s] 9)) := (Below.refl _ w2).alloc (Nat.le_refl _) _
            have hz : w2.heap.size < (w2.alloc (.cells #[.string s] 9)).heap.size := by simp
            have hC := hC.trans (hb.mono hC.size)
            refine hK.out _ _ hC ?_
            clear hK KK
            generalize w2.alloc (.cells #[.string s] 9) = w3 at hx hb hz hC ⊢
            have hS := hx
            have hV := ownsRow_belowS hV hb
            refine held_op 7 (by kernel_rfl) (by kernel_rfl) rfl (fun KK hK => ?_)
            refine name_op 40 wr.heap.size v4 (out.take k) s (w2.heap.size) rfl (by kernel_rfl) rfl rfl rfl hV (cell_arrS hS 0 _ rfl) (by rw [List.length_take]; omega) hC.size (fun v7 w7 hV7 hg7 _ => ?_)
            have hC7 : Below wr.heap.size wr w7 := hC.grown hg7 hC.size (fun j hj => (own_geN hV j hj).1)
            refine hK.out _ _ hC7 ?_
            simp only [Act.put, List.setIfInBounds_toArray, List.set_cons_zero, List.set_cons_succ]
            clear hK KK
            refine held_op 11 (by kernel_rfl) (by kernel_rfl) rfl (fun KK hK => ?_)
            refine row_op 44 wr.heap.size v7 (out.take k ++ [s]) (out.drop k) (.slice (some ⟨ob, 0, none⟩) (out.length - k) 0) rfl (by kernel_rfl) rfl rfl rfl hV7 (by rw [(rowAt_part ((unhid HAT).below hC7) k hk).2.2 hck, show out.length - k = 0 by omega]; exact rowAt_of_txts (xs := []) (.inl rfl) (fun e => by cases e) (Nat.zero_le _)) (by rw [List.length_append, List.length_take, List.length_drop, List.length_singleton]; omega) hC7.size (fun v11 w11 hV11 hg11 => ?_)
            have hC11 : Below wr.heap.size wr w11 := hC7.grown hg11 hC7.size (fun j hj => (own_geN hV7 j hj).1)
            refine hK.out _ _ hC11 ?_
            simp only [Act.put, List.setIfInBounds_toArray, List.set_cons_zero, List.set_cons_succ]
            clear hK KK
            rw [← unhid HE] at hV11
            obtain ⟨g11, c11, rfl⟩ := own_some hV11 (by rw [unhid HE]; simp)
            have HV := hid (ownsRow_lowerS hV11 hN)
            have HC := hid hC11
            clear hV11 hg11 hV7 hg7 hC7 hV hS
            have hba : ∀ {q : Prop}, (CW (fun w' => Below wr.heap.size wr w') → q) ↔ q := CW.all hC11
            refine held_here [false, false, false, false, false, false, false, false, false, false, false, false, true] (by kernel_rfl) (by kernel_rfl) (fun _ _ _ _ _ h => h) hC11 ?_
            dsimp only [pick]
            repeat (go_big_quiet_step (fail))
            refine wpQuiet_nil ?_
            clear hba
            refine held_done (by kernel_rfl) ?_
            clear hC11
            go_wp2_with fail
            go_ret
            exact ⟨g11, c11, rfl, unhid HV, unhid HC⟩
          · go_simp
            have hx := World.alloc_heap_new w1 (.cells #[.string s] 9)
            have hb : Below w1.heap.size w1 (w1.alloc (.cells #[.string s] 9)) := (Below.refl _ w1).alloc (Nat.le_refl _) _
            have hz : w1.heap.size < (w1.alloc (.cells #[.string s] 9)).heap.size := by simp
            have hC := hC.trans (hb.mono hC.size)
            refine hK.out _ _ hC ?_
            clear hK KK
            generalize w1.alloc (.cells #[.string s] 9) = w2 at hx hb hz hC ⊢
            have hS := hx
            have hA := ownsRow_belowS hA hb
            refine held_op 4 (by kernel_rfl) (by kernel_rfl) rfl (fun KK hK => ?_)
            refine row_op 37 wr.heap.size (.slice (some ⟨w0.heap.size, 0, none⟩) 0 0) [] (out.take k) (.slice (some ⟨ob, 0, none⟩) k k) rfl (by kernel_rfl) rfl rfl rfl hA (by have h := (rowAt_part ((unhid HAT).below hC) k hk).1; rwa [hck] at h) (by rw [List.length_take]; simp; omega) hC.size (fun v4 w3 hV hg => ?_)
            rw [List.nil_append] at hV
            have hC4 : Below wr.heap.size wr w3 := hC.grown hg hC.size (fun j hj => (own_geN hA j hj).1)
            have hS := (hg.block _ (Array.getElem?_eq_some_iff.1 hS).1 (by intro e; simp [Value.ownBlock] at e; omega)).trans hS
            refine hK.out _ _ hC4 ?_
            simp only [Act.put, List.setIfInBounds_toArray, List.set_cons_zero, List.set_cons_succ]
            clear hK KK hA
            have hC := hC4
            clear hC4
            have hzz := hg.size
            refine held_op 7 (by kernel_rfl) (by kernel_rfl) rfl (fun KK hK => ?_)
            refine name_op 40 wr.heap.size v4 (out.take k) s (w1.heap.size) rfl (by kernel_rfl) rfl rfl rfl hV (cell_arrS hS 0 _ rfl) (by rw [List.length_take]; omega) hC.size (fun v7 w7 hV7 hg7 _ => ?_)
            have hC7 : Below wr.heap.size wr w7 := hC.grown hg7 hC.size (fun j hj => (own_geN hV j hj).1)
            refine hK.out _ _ hC7 ?_
            simp only [Act.put, List.setIfInBounds_toArray, List.set_cons_zero, List.set_cons_succ]
            clear hK KK
            refine held_op 11 (by kernel_rfl) (by kernel_rfl) rfl (fun KK hK => ?_)
            refine row_op 44 wr.heap.size v7 (out.take k ++ [s]) (out.drop k) (.slice (some ⟨ob, 0, none⟩) (out.length - k) 0) rfl (by kernel_rfl) rfl rfl rfl hV7 (by rw [(rowAt_part ((unhid HAT).below hC7) k hk).2.2 hck, show out.length - k = 0 by omega]; exact rowAt_of_txts (xs := []) (.inl rfl) (fun e => by cases e) (Nat.zero_le _)) (by rw [List.length_append, List.length_take, List.length_drop, List.length_singleton]; omega) hC7.size (fun v11 w11 hV11 hg11 => ?_)
            have hC11 : Below wr.heap.size wr w11 := hC7.grown hg11 hC7.size (fun j hj => (own_geN hV7 j hj).1)
            refine hK.out _ _ hC11 ?_
            simp only [Act.put, List.setIfInBounds_toArray, List.set_cons_zero, List.set_cons_succ]
            clear hK KK
            rw [← unhid HE] at hV11
            obtain ⟨g11, c11, rfl⟩ := own_some hV11 (by rw [unhid HE]; simp)
            have HV := hid (ownsRow_lowerS hV11 hN)
            have HC := hid hC11
            clear hV11 hg11 hV7 hg7 hC7 hV hS
            have hba : ∀ {q : Prop}, (CW (fun w' => Below wr.heap.size wr w') → q) ↔ q := CW.all hC11
            refine held_here [false, false, false, false, false, false, false, false, false, false, false, false, true] (by kernel_rfl) (by kernel_rfl) (fun _ _ _ _ _ h => h) hC11 ?_
            dsimp only [pick]
            repeat (go_big_quiet_step (fail))
            refine wpQuiet_nil ?_
            clear hba
            refine held_done (by kernel_rfl) ?_
            clear hC11
            go_wp2_with fail
            go_ret
            exact ⟨g11, c11, rfl, unhid HV, unhid HC⟩
        · go_simp
          have hx := World.alloc_heap_new w0 (.cells #[.string s] 9)
          have hb : Below w0.heap.size w0 (w0.alloc (.cells #[.string s] 9)) := (Below.refl _ w0).alloc (Nat.le_refl _) _
          have hz : w0.heap.size < (w0.alloc (.cells #[.string s] 9)).heap.size := by simp
          have hC := hC.trans (hb.mono hC.size)
          refine hK.out _ _ hC ?_
          clear hK KK
          generalize w0.alloc (.cells #[.string s] 9) = w1 at hx hb hz hC ⊢
          have hS := hx
          clear hx
          refine held_op 0 (by kernel_rfl) (by kernel_rfl) rfl (fun KK hK => ?_)
          go_simp
          have hx := World.alloc_heap_new w1 (.cells #[] 9)
          have hb : Below w1.heap.size w1 (w1.alloc (.cells #[] 9)) := (Below.refl _ w1).alloc (Nat.le_refl _) _
          have hz : w1.heap.size < (w1.alloc (.cells #[] 9)).heap.size := by simp
          have hA0 := ownsRow_lowerS (ownsRow_made0 w1) (N := wr.heap.size) (hC.size)
          have hC := hC.trans (hb.mono hC.size)
          refine hK.out _ _ hC ?_
          clear hK KK
          generalize w1.alloc (.cells #[] 9) = w2 at hx hb hz hC hA0 ⊢
          have hA := hA0
          have hS := (hb.block _ (Array.getElem?_eq_some_iff.1 hS).1).trans hS
          refine held_op 4 (by kernel_rfl) (by kernel_rfl) rfl (fun KK hK => ?_)
          refine row_op 37 wr.heap.size (.slice (some ⟨w1.heap.size, 0, none⟩) 0 0) [] (out.take k) (.slice (some ⟨ob, 0, none⟩) k k) rfl (by kernel_rfl) rfl rfl rfl hA (by have h := (rowAt_part ((unhid HAT).below hC) k hk).1; rwa [hck] at h) (by rw [List.length_take]; simp; omega) hC.size (fun v4 w3 hV hg => ?_)
          rw [List.nil_append] at hV
          have hC4 : Below wr.heap.size wr w3 := hC.grown hg hC.size (fun j hj => (own_geN hA j hj).1)
          have hS := (hg.block _ (Array.getElem?_eq_some_iff.1 hS).1 (by intro e; simp [Value.ownBlock] at e; omega)).trans hS
          refine hK.out _ _ hC4 ?_
          simp only [Act.put, List.setIfInBounds_toArray, List.set_cons_zero, List.set_cons_succ]
          clear hK KK hA
          have hC := hC4
          clear hC4
          have hzz := hg.size
          refine held_op 7 (by kernel_rfl) (by kernel_rfl) rfl (fun KK hK => ?_)
          refine name_op 40 wr.heap.size v4 (out.take k) s (w0.heap.size) rfl (by kernel_rfl) rfl rfl rfl hV (cell_arrS hS 0 _ rfl) (by rw [List.length_take]; omega) hC.size (fun v7 w7 hV7 hg7 _ => ?_)
          have hC7 : Below wr.heap.size wr w7 := hC.grown hg7 hC.size (fun j hj => (own_geN hV j hj).1)
          refine hK.out _ _ hC7 ?_
          simp only [Act.put, List.setIfInBounds_toArray, List.set_cons_zero, List.set_cons_succ]
          clear hK KK
          refine held_op 11 (by kernel_rfl) (by kernel_rfl) rfl (fun KK hK => ?_)
          refine row_op 44 wr.heap.size v7 (out.take k ++ [s]) (out.drop k) (.slice (some ⟨ob, 0, none⟩) (out.length - k) 0) rfl (by kernel_rfl) rfl rfl rfl hV7 (by rw [(rowAt_part ((unhid HAT).below hC7) k hk).2.2 hck, show out.length - k = 0 by omega]; exact rowAt_of_txts (xs := []) (.inl rfl) (fun e => by cases e) (Nat.zero_le _)) (by rw [List.length_append, List.length_take, List.length_drop, List.length_singleton]; omega) hC7.size (fun v11 w11 hV11 hg11 => ?_)
          have hC11 : Below wr.heap.size wr w11 := hC7.grown hg11 hC7.size (fun j hj => (own_geN hV7 j hj).1)
          refine hK.out _ _ hC11 ?_
          simp only [Act.put, List.setIfInBounds_toArray, List.set_cons_zero, List.set_cons_succ]
          clear hK KK
          rw [← unhid HE] at hV11
          obtain ⟨g11, c11, rfl⟩ := own_some hV11 (by rw [unhid HE]; simp)
          have HV := hid (ownsRow_lowerS hV11 hN)
          have HC := hid hC11
          clear hV11 hg11 hV7 hg7 hC7 hV hS
          have hba : ∀ {q : Prop}, (CW (fun w' => Below wr.heap.size wr w') → q) ↔ q := CW.all hC11
          refine held_here [false, false, false, false, false, false, false, false, false, false, false, false, true] (by kernel_rfl) (by kernel_rfl) (fun _ _ _ _ _ h => h) hC11 ?_
          dsimp only [pick]
          repeat (go_big_quiet_step (fail))
          refine wpQuiet_nil ?_
          clear hba
          refine held_done (by kernel_rfl) ?_
          clear hC11
          go_wp2_with fail
          go_ret
          exact ⟨g11, c11, rfl, unhid HV, unhid HC⟩
      · have hck0 : ¬ oc - k = 0 := by omega
        have hC := drew_belowS (B := wr.heap.size) wr
        refine held_begin (fun w' => Below wr.heap.size wr w') (by kernel_rfl) hC ?_
        have hba : ∀ {q : Prop}, (CW (fun w' => Below wr.heap.size wr w') → q) ↔ q := CW.all hC
        refine held_here [false, true, true, true, false, true, false, false, true, true, true] (by kernel_rfl) (by kernel_rfl) (fun _ _ _ _ _ h => h) hC ?_
        dsimp only [pick]
        repeat (go_big_quiet_step (fail))
        refine wpQuiet_nil ?_
        clear hba
        generalize wr.drew = w0 at hC ⊢
        refine held_op2 0 6 (by kernel_rfl) (by kernel_rfl) rfl rfl (fun KK hK => ?_) (fun KK hK => ?_)
        · go_simp
          have hx := World.alloc_heap_new w0 (.cells #[] 9)
          have hb : Below w0.heap.size w0 (w0.alloc (.cells #[] 9)) := (Below.refl _ w0).alloc (Nat.le_refl _) _
          have hz : w0.heap.size < (w0.alloc (.cells #[] 9)).heap.size := by simp
          have hA0 := ownsRow_lowerS (ownsRow_made0 w0) (N := wr.heap.size) (hC.size)
          have hC := hC.trans (hb.mono hC.size)
          refine hK.out _ _ hC ?_
          clear hK KK
          generalize w0.alloc (.cells #[] 9) = w1 at hx hb hz hC hA0 ⊢
          have hA := hA0
          clear hx hA0
          refine held_op2 4 6 (by kernel_rfl) (by kernel_rfl) rfl rfl (fun KK hK => ?_) (fun KK hK => ?_)
          · refine row_op 37 wr.heap.size (.slice (some ⟨w0.heap.size, 0, none⟩) 0 0) [] (out.take k) (.slice (some ⟨ob, 0, none⟩) k oc) rfl (by kernel_rfl) rfl rfl rfl hA (rowAt_part ((unhid HAT).below hC) k hk |>.1) (by rw [List.length_take]; simp; omega) hC.size (fun v4 w2 hV hg => ?_)
            rw [List.nil_append] at hV
            have hC4 : Below wr.heap.size wr w2 := hC.grown hg hC.size (fun j hj => (own_geN hA j hj).1)
            refine hK.out _ _ hC4 ?_
            simp only [Act.put, List.setIfInBounds_toArray, List.set_cons_zero, List.set_cons_succ]
            clear hK KK hA
            have hC := hC4
            clear hC4
            have hzz := hg.size
            refine held_op 6 (by kernel_rfl) (by kernel_rfl) rfl (fun KK hK => ?_)
            go_simp
            have hx := World.alloc_heap_new w2 (.cells #[.string s] 9)
            have hb : Below w2.heap.size w2 (w2.alloc (.cells #[.string s] 9)) := (Below.refl _ w2).alloc (Nat.le_refl _) _
            have hz : w2.heap.size < (w2.alloc (.cells #[.string s] 9)).heap.size := by simp
            have hC := hC.trans (hb.mono hC.size)
            refine hK.out _ _ hC ?_
            clear hK KK
            generalize w2.alloc (.cells #[.string s] 9) = w3 at hx hb hz hC ⊢
            have hS := hx
            have hV := ownsRow_belowS hV hb
            refine held_op 7 (by kernel_rfl) (by kernel_rfl) rfl (fun KK hK => ?_)
            refine name_op 40 wr.heap.size v4 (out.take k) s (w2.heap.size) rfl (by kernel_rfl) rfl rfl rfl hV (cell_arrS hS 0 _ rfl) (by rw [List.length_take]; omega) hC.size (fun v7 w7 hV7 hg7 _ => ?_)
            have hC7 : Below wr.heap.size wr w7 := hC.grown hg7 hC.size (fun j hj => (own_geN hV j hj).1)
            refine hK.out _ _ hC7 ?_
            simp only [Act.put, List.setIfInBounds_toArray, List.set_cons_zero, List.set_cons_succ]
            clear hK KK
            refine held_op 11 (by kernel_rfl) (by kernel_rfl) rfl (fun KK hK => ?_)
            refine row_op 44 wr.heap.size v7 (out.take k ++ [s]) (out.drop k) (.slice (some ⟨ob, k, none⟩) (out.length - k) (oc - k)) rfl (by kernel_rfl) rfl rfl rfl hV7 (by have := (rowAt_part ((unhid HAT).below hC7) k hk).2.1 hck; rwa [Nat.zero_add] at this) (by rw [List.length_append, List.length_take, List.length_drop, List.length_singleton]; omega) hC7.size (fun v11 w11 hV11 hg11 => ?_)
            have hC11 : Below wr.heap.size wr w11 := hC7.grown hg11 hC7.size (fun j hj => (own_geN hV7 j hj).1)
            refine hK.out _ _ hC11 ?_
            simp only [Act.put, List.setIfInBounds_toArray, List.set_cons_zero, List.set_cons_succ]
            clear hK KK
            rw [← unhid HE] at hV11
            obtain ⟨g11, c11, rfl⟩ := own_some hV11 (by rw [unhid HE]; simp)
            have HV := hid (ownsRow_lowerS hV11 hN)
            have HC := hid hC11
            clear hV11 hg11 hV7 hg7 hC7 hV hS
            have hba : ∀ {q : Prop}, (CW (fun w' => Below wr.heap.size wr w') → q) ↔ q := CW.all hC11
            refine held_here [false, false, false, false, false, false, false, false, false, false, false, false, true] (by kernel_rfl) (by kernel_rfl) (fun _ _ _ _ _ h => h) hC11 ?_
            dsimp only [pick]
            repeat (go_big_quiet_step (fail))
            refine wpQuiet_nil ?_
            clear hba
            refine held_done (by kernel_rfl) ?_
            clear hC11
            go_wp2_with fail
            go_ret
            exact ⟨g11, c11, rfl, unhid HV, unhid HC⟩
          · go_simp
            have hx := World.alloc_heap_new w1 (.cells #[.string s] 9)
            have hb : Below w1.heap.size w1 (w1.alloc (.cells #[.string s] 9)) := (Below.refl _ w1).alloc (Nat.le_refl _) _
            have hz : w1.heap.size < (w1.alloc (.cells #[.string s] 9)).heap.size := by simp
            have hC := hC.trans (hb.mono hC.size)
            refine hK.out _ _ hC ?_
            clear hK KK
            generalize w1.alloc (.cells #[.string s] 9) = w2 at hx hb hz hC ⊢
            have hS := hx
            have hA := ownsRow_belowS hA hb
            refine held_op 4 (by kernel_rfl) (by kernel_rfl) rfl (fun KK hK => ?_)
            refine row_op 37 wr.heap.size (.slice (some ⟨w0.heap.size, 0, none⟩) 0 0) [] (out.take k) (.slice (some ⟨ob, 0, none⟩) k oc) rfl (by kernel_rfl) rfl rfl rfl hA (rowAt_part ((unhid HAT).below hC) k hk |>.1) (by rw [List.length_take]; simp; omega) hC.size (fun v4 w3 hV hg => ?_)
            rw [List.nil_append] at hV
            have hC4 : Below wr.heap.size wr w3 := hC.grown hg hC.size (fun j hj => (own_geN hA j hj).1)
            have hS := (hg.block _ (Array.getElem?_eq_some_iff.1 hS).1 (by intro e; simp [Value.ownBlock] at e; omega)).trans hS
            refine hK.out _ _ hC4 ?_
            simp only [Act.put, List.setIfInBounds_toArray, List.set_cons_zero, List.set_cons_succ]
            clear hK KK hA
            have hC := hC4
            clear hC4
            have hzz := hg.size
            refine held_op 7 (by kernel_rfl) (by kernel_rfl) rfl (fun KK hK => ?_)
            refine name_op 40 wr.heap.size v4 (out.take k) s (w1.heap.size) rfl (by kernel_rfl) rfl rfl rfl hV (cell_arrS hS 0 _ rfl) (by rw [List.length_take]; omega) hC.size (fun v7 w7 hV7 hg7 _ => ?_)
            have hC7 : Below wr.heap.size wr w7 := hC.grown hg7 hC.size (fun j hj => (own_geN hV j hj).1)
            refine hK.out _ _ hC7 ?_
            simp only [Act.put, List.setIfInBounds_toArray, List.set_cons_zero, List.set_cons_succ]
            clear hK KK
            refine held_op 11 (by kernel_rfl) (by kernel_rfl) rfl (fun KK hK => ?_)
            refine row_op 44 wr.heap.size v7 (out.take k ++ [s]) (out.drop k) (.slice (some ⟨ob, k, none⟩) (out.length - k) (oc - k)) rfl (by kernel_rfl) rfl rfl rfl hV7 (by have := (rowAt_part ((unhid HAT).below hC7) k hk).2.1 hck; rwa [Nat.zero_add] at this) (by rw [List.length_append, List.length_take, List.length_drop, List.length_singleton]; omega) hC7.size (fun v11 w11 hV11 hg11 => ?_)
            have hC11 : Below wr.heap.size wr w11 := hC7.grown hg11 hC7.size (fun j hj => (own_geN hV7 j hj).1)
            refine hK.out _ _ hC11 ?_
            simp only [Act.put, List.setIfInBounds_toArray, List.set_cons_zero, List.set_cons_succ]
            clear hK KK
            rw [← unhid HE] at hV11
            obtain ⟨g11, c11, rfl⟩ := own_some hV11 (by rw [unhid HE]; simp)
            have HV := hid (ownsRow_lowerS hV11 hN)
            have HC := hid hC11
            clear hV11 hg11 hV7 hg7 hC7 hV hS
            have hba : ∀ {q : Prop}, (CW (fun w' => Below wr.heap.size wr w') → q) ↔ q := CW.all hC11
            refine held_here [false, false, false, false, false, false, false, false, false, false, false, false, true] (by kernel_rfl) (by kernel_rfl) (fun _ _ _ _ _ h => h) hC11 ?_
            dsimp only [pick]
            repeat (go_big_quiet_step (fail))
            refine wpQuiet_nil ?_
            clear hba
            refine held_done (by kernel_rfl) ?_
            clear hC11
            go_wp2_with fail
            go_ret
            exact ⟨g11, c11, rfl, unhid HV, unhid HC⟩
        · go_simp
          have hx := World.alloc_heap_new w0 (.cells #[.string s] 9)
          have hb : Below w0.heap.size w0 (w0.alloc (.cells #[.string s] 9)) := (Below.refl _ w0).alloc (Nat.le_refl _) _
          have hz : w0.heap.size < (w0.alloc (.cells #[.string s] 9)).heap.size := by simp
          have hC := hC.trans (hb.mono hC.size)
          refine hK.out _ _ hC ?_
          clear hK KK
          generalize w0.alloc (.cells #[.string s] 9) = w1 at hx hb hz hC ⊢
          have hS := hx
          clear hx
          refine held_op 0 (by kernel_rfl) (by kernel_rfl) rfl (fun KK hK => ?_)
          go_simp
          have hx := World.alloc_heap_new w1 (.cells #[] 9)
          have hb : Below w1.heap.size w1 (w1.alloc (.cells #[] 9)) := (Below.refl _ w1).alloc (Nat.le_refl _) _
          have hz : w1.heap.size < (w1.alloc (.cells #[] 9)).heap.size := by simp
          have hA0 := ownsRow_lowerS (ownsRow_made0 w1) (N := wr.heap.size) (hC.size)
          have hC := hC.trans (hb.mono hC.size)
          refine hK.out _ _ hC ?_
          clear hK KK
          generalize w1.alloc (.cells #[] 9) = w2 at hx hb hz hC hA0 ⊢
          have hA := hA0
          have hS := (hb.block _ (Array.getElem?_eq_some_iff.1 hS).1).trans hS
          refine held_op 4 (by kernel_rfl) (by kernel_rfl) rfl (fun KK hK => ?_)
          refine row_op 37 wr.heap.size (.slice (some ⟨w1.heap.size, 0, none⟩) 0 0) [] (out.take k) (.slice (some ⟨ob, 0, none⟩) k oc) rfl (by kernel_rfl) rfl rfl rfl hA (rowAt_part ((unhid HAT).below hC) k hk |>.1) (by rw [List.length_take]; simp; omega) hC.size (fun v4 w3 hV hg => ?_)
          rw [List.nil_append] at hV
          have hC4 : Below wr.heap.size wr w3 := hC.grown hg hC.size (fun j hj => (own_geN hA j hj).1)
          have hS := (hg.block _ (Array.getElem?_eq_some_iff.1 hS).1 (by intro e; simp [Value.ownBlock] at e; omega)).trans hS
          refine hK.out _ _ hC4 ?_
          simp only [Act.put, List.setIfInBounds_toArray, List.set_cons_zero, List.set_cons_succ]
          clear hK KK hA
          have hC := hC4
          clear hC4
          have hzz := hg.size
          refine held_op 7 (by kernel_rfl) (by kernel_rfl) rfl (fun KK hK => ?_)
          refine name_op 40 wr.heap.size v4 (out.take k) s (w0.heap.size) rfl (by kernel_rfl) rfl rfl rfl hV (cell_arrS hS 0 _ rfl) (by rw [List.length_take]; omega) hC.size (fun v7 w7 hV7 hg7 _ => ?_)
          have hC7 : Below wr.heap.size wr w7 := hC.grown hg7 hC.size (fun j hj => (own_geN hV j hj).1)
          refine hK.out _ _ hC7 ?_
          simp only [Act.put, List.setIfInBounds_toArray, List.set_cons_zero, List.set_cons_succ]
          clear hK KK
          refine held_op 11 (by kernel_rfl) (by kernel_rfl) rfl (fun KK hK => ?_)
          refine row_op 44 wr.heap.size v7 (out.take k ++ [s]) (out.drop k) (.slice (some ⟨ob, k, none⟩) (out.length - k) (oc - k)) rfl (by kernel_rfl) rfl rfl rfl hV7 (by have := (rowAt_part ((unhid HAT).below hC7) k hk).2.1 hck; rwa [Nat.zero_add] at this) (by rw [List.length_append, List.length_take, List.length_drop, List.length_singleton]; omega) hC7.size (fun v11 w11 hV11 hg11 => ?_)
          have hC11 : Below wr.heap.size wr w11 := hC7.grown hg11 hC7.size (fun j hj => (own_geN hV7 j hj).1)
          refine hK.out _ _ hC11 ?_
          simp only [Act.put, List.setIfInBounds_toArray, List.set_cons_zero, List.set_cons_succ]
          clear hK KK
          rw [← unhid HE] at hV11
          obtain ⟨g11, c11, rfl⟩ := own_some hV11 (by rw [unhid HE]; simp)
          have HV := hid (ownsRow_lowerS hV11 hN)
          have HC := hid hC11
          clear hV11 hg11 hV7 hg7 hC7 hV hS
          have hba : ∀ {q : Prop}, (CW (fun w' => Below wr.heap.size wr w') → q) ↔ q := CW.all hC11
          refine held_here [false, false, false, false, false, false, false, false, false, false, false, false, true] (by kernel_rfl) (by kernel_rfl) (fun _ _ _ _ _ h => h) hC11 ?_
          dsimp only [pick]
          repeat (go_big_quiet_step (fail))
          refine wpQuiet_nil ?_
          clear hba
          refine held_done (by kernel_rfl) ?_
          clear hC11
          go_wp2_with fail
          go_ret
          exact ⟨g11, c11, rfl, unhid HV, unhid HC⟩
end Go.Proofs.YtoihhlkidlapmaaGreat

/- The model of Needers: the rounds. -/
namespace Go.Proofs.YtoihhlkidlapmaaGreat
open Go.RowKit Go.Shelf Go.Maps Go.ChangeShapes

def asksB (p : packC.D) (xs : List ByteArray) : Bool := List.any (α := needC.D) (needsOf p) (fun n => memB (NeedD.name n) xs)
theorem asksB_no {p : packC.D} {xs : List ByteArray} {k : Nat} : (∀ j : Nat, j < k → ∀ n : needC.D, (needsOf p)[j]? = some n → memB (NeedD.name n) xs = false) → (needsOf p).length ≤ k → asksB p xs = false := fun h hk => by
  unfold asksB
  rw [List.any_eq_false]
  intro n hn
  obtain ⟨j, hj⟩ := List.getElem?_of_mem hn
  have hl := (List.getElem?_eq_some_iff.1 hj).1
  rw [h j (by omega) n hj]; simp
theorem asksB_yes {p : packC.D} {xs : List ByteArray} {n : needC.D} (hn : n ∈ needsOf p) (h : memB (NeedD.name n) xs = true) : asksB p xs = true := List.any_eq_true.2 ⟨n, hn, h⟩
theorem asks_same (p : packC.D) (nm : ByteArray) (out : List ByteArray) : asksN nm out (PackD.name p, List.map (α := needC.D) (fun n => NeedD.name n) (needsOf p)) = (!decide (PackD.name p = nm) && asksB p (nm :: out)) := by
  rw [Bool.eq_iff_iff, asksN_iff, Bool.and_eq_true]
  refine and_congr (by simp) ?_
  unfold asksB
  rw [List.any_eq_true]
  constructor
  · rintro ⟨x, hx, h⟩
    obtain ⟨n, hn, rfl⟩ := List.mem_map.1 hx
    exact ⟨n, hn, memB_yes (List.mem_cons.2 h)⟩
  · rintro ⟨n, hn, h⟩
    exact ⟨NeedD.name n, List.mem_map.2 ⟨n, hn, rfl⟩, List.mem_cons.1 (memB_iff.1 h)⟩
/-- The row under way. -/
def outI (ps : List packC.D) (nm : ByteArray) (n i : Nat) : List ByteArray := ((edgesP ps).take i).foldl (stepN addT nm) (roundsN addT (edgesP ps) nm n)
theorem outI_0 (ps : List packC.D) (nm : ByteArray) (n : Nat) : outI ps nm n 0 = roundsN addT (edgesP ps) nm n := rfl
theorem outI_all (ps : List packC.D) (nm : ByteArray) (n : Nat) : outI ps nm n ps.length = roundsN addT (edgesP ps) nm (n + 1) := by
  unfold outI
  rw [List.take_of_length_le (by rw [edges_len]; exact Nat.le_refl _)]
  rfl
theorem outI_next {ps : List packC.D} {i : Nat} {p : packC.D} (nm : ByteArray) (n : Nat) (hp : ps[i]? = some p) : outI ps nm n (i + 1) = if (!decide (PackD.name p = nm) && asksB p (nm :: outI ps nm n i)) = true then addT (outI ps nm n i) (PackD.name p) else outI ps nm n i := by
  unfold outI
  rw [List.take_add_one, edges_at hp, List.foldl_append]
  show stepN addT nm _ _ = _
  unfold stepN
  rw [asks_same]
theorem outI_facts (ps : List packC.D) (nm : ByteArray) (n i : Nat) : AscT (outI ps nm n i) ∧ (outI ps nm n i).length ≤ ps.length := by
  have h1 : AscT (outI ps nm n i) := asc_fold nm _ _ (asc_rounds _ _ _)
  obtain ⟨-, h2⟩ := rounds_facts addsT (edgesP ps) nm n
  have h3 := fold_in addsT (V := (edgesP ps).map Prod.fst) (nm := nm) ((edgesP ps).take i) (roundsN addT (edgesP ps) nm n) (fun p hp => List.mem_map.2 ⟨p, List.mem_of_mem_take hp, rfl⟩) h2
  have h4 := nodup_len (outI ps nm n i) (namesP ps) (asc_nodup h1) (fun x hx => by rw [← edges_names]; exact (h3 x hx).1)
  rw [namesP_len] at h4
  exact ⟨h1, h4⟩
set_option maxRecDepth 100000 in
set_option maxHeartbeats 4000000 in
theorem l8Has2_any (xs : List ByteArray) (V : Value) (q : ByteArray) (w : World) (hs : xs.length ≤ 2097152) (h : rowAt txtC w V xs) :
    Calls Tryz.prog 125 #[V, .string q] w fun x w' => x = .returned (.bool (memB q xs)) ∧ w' = w := by
  obtain ⟨a, cap, rfl, ht, -, -⟩ := rowAt_txts h
  have H := hid ht
  clear h ht
  go_enter Tryz.func125, Tryz.ntmps125
  go_wp2_with fail
  go_loopw [5] (fun i wr => ∃ k : Nat, k ≤ xs.length ∧ i = .int .i64 (k : Int) ∧ Hid (∀ j, j < k → xs[j]? ≠ some q) ∧ wr = w) (fun i _ => xs.length - (intOf i).toNat)
  case atStart => exact ⟨0, Nat.zero_le _, rfl, hid (fun j hj => absurd hj (Nat.not_lt_zero _)), (by first | rfl | trivial)⟩
  case round =>
    obtain ⟨k, hk, rfl, HX, rfl⟩ := hrel
    by_cases hlt : k < xs.length
    · obtain ⟨e, he⟩ : ∃ e, xs[k]? = some e := ⟨xs[k], List.getElem?_eq_getElem hlt⟩
      obtain ⟨b, o, rfl, hbl, hc⟩ := (unhid H).get (by intro e; subst e; simp at hlt)
      have c0 := hc k e he
      have HE := hid he
      have hq := txt_iff e q
      clear hc he hbl
      by_cases hxy : e = q
      · rw [decide_eq_true hxy] at hq
        have HXY := hid hxy
        clear hxy
        go_wp2_with fail
        go_ret
        exact ⟨by rw [memB_yes (by rw [← unhid HXY]; exact List.mem_of_getElem? (unhid HE))]; rfl, rfl⟩
      · rw [decide_eq_false hxy] at hq
        have HXY := hid hxy
        clear hxy
        go_wp2_with fail
        go_roundw
        case rel =>
          refine ⟨k + 1, by omega, by go_num, hid (fun j hj => ?_), (by first | rfl | trivial)⟩
          by_cases ej : j = k
          · subst ej
            rw [unhid HE]
            exact fun e => unhid HXY (Option.some.inj e)
          · exact unhid HX j (by omega)
        case measure => simp [intOf]; omega
    · have e : k = xs.length := by omega
      subst e
      go_wp2_with fail
      go_ret
      refine ⟨?_, rfl⟩
      rw [memB_no (fun hm => by
        obtain ⟨j, hj⟩ := List.getElem?_of_mem hm
        exact unhid HX j (List.getElem?_eq_some_iff.1 hj).1 hj)]
      rfl

set_option maxRecDepth 100000 in
set_option maxHeartbeats 4000000 in
theorem l8Needs_any (p : packC.D) (na ta : Option Addr) (nc tc : Nat) (xs : List ByteArray) (V : Value) (w : World) (hs : smallP p) (hat : packC.at_ w [.string (PackD.name p), .string (PackD.version p), .slice na (PackD.needs p).length nc, .slice ta (PackD.tree p).length tc] p) (hx : xs.length ≤ 2097152) (h : rowAt txtC w V xs) :
    Calls Tryz.prog 69 #[.agg #[.string (PackD.name p), .string (PackD.version p), .slice na (PackD.needs p).length nc, .slice ta (PackD.tree p).length tc], V] w fun x w' => x = .returned (.bool (asksB p xs)) ∧ Below w.heap.size w w' := by
  obtain ⟨xa, xc, rfl, -, -, -⟩ := rowAt_txts h
  have hX := World.alloc_heap_new w (.cells #[.string (PackD.name p), .string (PackD.version p), .slice na (PackD.needs p).length nc, .slice ta (PackD.tree p).length tc] 34)
  have hB : Below w.heap.size w (w.alloc (.cells #[.string (PackD.name p), .string (PackD.version p), .slice na (PackD.needs p).length nc, .slice ta (PackD.tree p).length tc] 34)) := (Below.refl _ w).alloc (Nat.le_refl _) _
  have HAT := hid (packC.below hat hB)
  have H := hid (h.below hB)
  have HX := hid hX
  have HB := hid hB
  have hnl := hs.needs.1
  clear h hat hX hB hs
  go_enter Tryz.func69, Tryz.ntmps69
  go_wp2_with fail
  generalize w.alloc (.cells #[.string (PackD.name p), .string (PackD.version p), .slice na (PackD.needs p).length nc, .slice ta (PackD.tree p).length tc] 34) = w0 at HAT H HX HB ⊢
  have c2 := cell_arrS (unhid HX) 2 _ rfl
  go_loopw [5] (fun i wr => ∃ k : Nat, k ≤ (PackD.needs p).length ∧ i = .int .i64 (k : Int) ∧ Hid (∀ j : Nat, j < k → ∀ n : needC.D, (needsOf p)[j]? = some n → memB (NeedD.name n) xs = false) ∧ wr = w0) (fun i _ => (PackD.needs p).length - (intOf i).toNat)
  case atStart => exact ⟨0, Nat.zero_le _, rfl, hid (fun j hj => absurd hj (Nat.not_lt_zero _)), (by first | rfl | trivial)⟩
  case round =>
    obtain ⟨k, hk, rfl, HL, rfl⟩ := hrel
    by_cases hlt : k < (PackD.needs p).length
    · obtain ⟨n, hn⟩ : ∃ n, (needsOf p)[k]? = some n := ⟨(needsOf p)[k]'hlt, List.getElem?_eq_getElem hlt⟩
      obtain ⟨nb, no, rfl, hnb, e0, -, -⟩ := need_in (unhid HAT) hn
      have HN := hid hn
      clear hn hnb
      go_wp2_with fail
      refine (l8Has2_any xs _ (NeedD.name n) wr hx (unhid H)).mono ?_
      rintro x w2 ⟨rfl, rfl⟩
      cases hm : memB (NeedD.name n) xs with
      | true =>
        have E := hid (asksB_yes (List.mem_of_getElem? (unhid HN)) hm)
        go_wp2_with fail
        go_ret
        exact ⟨by rw [unhid E]; rfl, unhid HB⟩
      | false =>
        have HL2 := hid (show ∀ j : Nat, j < k + 1 → ∀ n : needC.D, (needsOf p)[j]? = some n → memB (NeedD.name n) xs = false from fun j hj n2 h2 => by
          by_cases e : j = k
          · subst e; rw [unhid HN] at h2; cases h2; exact hm
          · exact unhid HL j (by omega) n2 h2)
        go_wp2_with fail
        go_roundw
        case rel => exact ⟨k + 1, by omega, by go_num, HL2, (by first | rfl | trivial)⟩
        case measure => simp [intOf]; omega
    · have e : k = (PackD.needs p).length := by omega
      subst e
      have E := hid (asksB_no (unhid HL) (Nat.le_refl _))
      go_wp2_with fail
      go_ret
      exact ⟨by rw [unhid E]; rfl, unhid HB⟩
set_option maxRecDepth 100000 in
set_option maxHeartbeats 16000000 in
theorem specNeeders_any (ps : List packC.D) (pa : Option Addr) (pc : Nat) (nm : ByteArray) (w : World) (hs : smallPs ps) (hp : rowAt packC w (.slice pa ps.length pc) ps) :
    Calls Tryz.prog 22 #[.slice pa ps.length pc, .string nm] w fun e w' => (∃ v, e = .returned v ∧ w'.ownsRow w.heap.size 9 1 v (needers_0 ps nm).length ((needers_0 ps nm).map Value.string)) ∧ Below w.heap.size w w' := by
  have HP := hid hp
  have HSM := hid hs
  have hlen := hs.1
  have hO := ownsRow_made0 w
  have hB : Below w.heap.size w (w.alloc (.cells #[] 9)) := (Below.refl _ w).alloc (Nat.le_refl _) _
  have HL := hid (l8Packs_any ps _ (w.alloc (.cells #[] 9)) hs (hp.below hB))
  have HO := hid hO
  have HB := hid hB
  clear hp hs hO hB
  go_enter Tryz.func22, Tryz.ntmps22
  go_wp2_with fail
  generalize w.alloc (.cells #[] 9) = w0 at HL HO HB ⊢
  refine (unhid HL).mono ?_
  rintro e w1 ⟨rfl, hb⟩
  have HO1 := hid (ownsRow_belowS (unhid HO) hb)
  have HB1 := hid ((unhid HB).trans (hb.mono (unhid HB).size))
  clear hb HL HO HB
  by_cases hc : packsCode ps = 0
  · have E := hid hc
    rw [hc]
    clear hc
    go_wp2_with fail
    go_loopw [5, 6, 7] (fun s n _ wr => ∃ (k ob oc : Nat), k ≤ ps.length ∧ n = .int .i64 (k : Int) ∧ s = .slice (some ⟨ob, 0, none⟩) (outI ps nm k 0).length oc ∧ Hid (wr.ownsRow w.heap.size 9 1 (.slice (some ⟨ob, 0, none⟩) (outI ps nm k 0).length oc) (outI ps nm k 0).length ((outI ps nm k 0).map Value.string)) ∧ Hid (Below w.heap.size w wr)) (fun _ n _ _ => ps.length - (intOf n).toNat)
    case atStart => exact ⟨0, _, _, Nat.zero_le _, rfl, rfl, HO1, HB1⟩
    case round =>
      clear HO1 HB1
      obtain ⟨k, ob, oc, hk, rfl, rfl, HO, HB⟩ := hrel
      by_cases hlt : k < ps.length
      · go_wp2_with fail
        go_loopw [5, 7] (fun s i wx => ∃ (m ob oc : Nat), m ≤ ps.length ∧ i = .int .i64 (m : Int) ∧ s = .slice (some ⟨ob, 0, none⟩) (outI ps nm k m).length oc ∧ Hid (wx.ownsRow w.heap.size 9 1 (.slice (some ⟨ob, 0, none⟩) (outI ps nm k m).length oc) (outI ps nm k m).length ((outI ps nm k m).map Value.string)) ∧ Hid (Below w.heap.size w wx)) (fun _ i _ => ps.length - (intOf i).toNat)
        case atStart => exact ⟨0, _, _, Nat.zero_le _, rfl, rfl, HO, HB⟩
        case round =>
          clear HO HB
          obtain ⟨m, ob, oc, hm, rfl, rfl, HO, HB⟩ := hrel
          by_cases hlm : m < ps.length
          · obtain ⟨p, hpk⟩ : ∃ p, ps[m]? = some p := ⟨ps[m], List.getElem?_eq_getElem hlm⟩
            obtain ⟨a', c', ev, -, -, hrow⟩ := unhid HP
            injection ev with ea _ ec
            subst ea ec
            obtain ⟨b, o, rfl, hbl, hc⟩ := hrow.resolve_left (by intro e; subst e; simp at hlm)
            obtain ⟨na, nc, ta, tc, ⟨c0, c1, c2, c3⟩, hat⟩ := pack_cells (unhid HB) hbl hc hpk
            have hbw : b < wr.heap.size := Nat.lt_of_lt_of_le hbl (unhid HB).size
            have g0 : ∀ x : CW (fun w' => Below wr.heap.size wr w'), x.w.cell? ⟨b, o + m * 4, none⟩ = some (.string (PackD.name p)) := fun x => (x.h.cell (p := ⟨b, o + m * 4, none⟩) hbw).trans c0
            have g1 : ∀ x : CW (fun w' => Below wr.heap.size wr w'), x.w.cell? ⟨b, o + m * 4 + 1, none⟩ = some (.string (PackD.version p)) := fun x => (x.h.cell (p := ⟨b, o + m * 4 + 1, none⟩) hbw).trans c1
            have g2 : ∀ x : CW (fun w' => Below wr.heap.size wr w'), x.w.cell? ⟨b, o + m * 4 + 2, none⟩ = some (.slice na (PackD.needs p).length nc) := fun x => (x.h.cell (p := ⟨b, o + m * 4 + 2, none⟩) hbw).trans c2
            have g3 : ∀ x : CW (fun w' => Below wr.heap.size wr w'), x.w.cell? ⟨b, o + m * 4 + 3, none⟩ = some (.slice ta (PackD.tree p).length tc) := fun x => (x.h.cell (p := ⟨b, o + m * 4 + 3, none⟩) hbw).trans c3
            have HAT := hid hat
            have HPK := hid hpk
            have HC0 := hid c0
            have HSP := hid ((unhid HSM).2 p (List.mem_of_getElem? hpk))
            have hF := outI_facts ps nm k m
            have HN := hid (outI_next nm k hpk)
            have hq := txt_iff (PackD.name p) nm
            have hC := drew_belowS (B := wr.heap.size) wr
            have hba : ∀ {q : Prop}, (CW (fun w' => Below wr.heap.size wr w') → q) ↔ q := CW.all (Below.refl _ wr)
            clear hrow hc c0 c1 c2 c3 hat hpk hbl
            by_cases hpn : PackD.name p = nm
            · rw [decide_eq_true hpn] at hq
              have HE := hid (show outI ps nm k (m + 1) = outI ps nm k m by rw [unhid HN, decide_eq_true hpn]; rfl)
              clear hpn
              go_wp2_with fail
              refine held_begin (fun w' => Below wr.heap.size wr w') (by kernel_rfl) hC ?_
              refine held_here [true, true, true, true, true, true, true, true, true, true, true, true, true, false, true] (by kernel_rfl) (by kernel_rfl) (fun _ _ _ _ _ h => h) hC ?_
              dsimp only [pick]
              repeat (go_big_quiet_step (fail))
              refine wpQuiet_nil ?_
              clear g0 g1 g2 g3
              generalize wr.drew = w2 at hC ⊢
              refine held_skip 13 38 (by kernel_rfl) (by kernel_rfl) rfl rfl rfl hC ?_
              simp only [Act.put, List.setIfInBounds_toArray, List.set_cons_zero, List.set_cons_succ]
              refine held_skip 15 40 (by kernel_rfl) (by kernel_rfl) rfl rfl rfl hC ?_
              simp only [Act.put, List.setIfInBounds_toArray, List.set_cons_zero, List.set_cons_succ]
              refine held_skip 16 41 (by kernel_rfl) (by kernel_rfl) rfl rfl rfl hC ?_
              simp only [Act.put, List.setIfInBounds_toArray, List.set_cons_zero, List.set_cons_succ]
              clear hba
              have hba : ∀ {q : Prop}, (CW (fun w' => Below wr.heap.size wr w') → q) ↔ q := CW.all (Below.refl _ wr)
              refine held_here [false, false, false, false, false, false, false, false, false, false, false, false, false, false, false, false, false, true] (by kernel_rfl) (by kernel_rfl) (fun _ _ _ _ _ h => h) hC ?_
              dsimp only [pick]
              repeat (go_big_quiet_step (fail))
              refine wpQuiet_nil ?_
              clear hba
              refine held_done (by kernel_rfl) ?_
              have HB2 := hid ((unhid HB).trans (hC.mono (unhid HB).size))
              have HO2 := hid (show w2.ownsRow w.heap.size 9 1 (.slice (some ⟨ob, 0, none⟩) (outI ps nm k (m + 1)).length oc) (outI ps nm k (m + 1)).length ((outI ps nm k (m + 1)).map Value.string) by rw [unhid HE]; exact ownsRow_belowS (unhid HO) hC)
              have HV := hid (show Value.slice (some ⟨ob, 0, none⟩) (outI ps nm k m).length oc = .slice (some ⟨ob, 0, none⟩) (outI ps nm k (m + 1)).length oc by rw [unhid HE])
              clear hC hF
              go_wp2_with fail
              go_roundw
              case rel => exact ⟨m + 1, ob, oc, by omega, by go_num, unhid HV, HO2, HB2⟩
              case measure => simp [intOf]; omega
            · rw [decide_eq_false hpn] at hq
              have HN2 := hid (show outI ps nm k (m + 1) = if asksB p (nm :: outI ps nm k m) = true then addT (outI ps nm k m) (PackD.name p) else outI ps nm k m by have h := unhid HN; rw [decide_eq_false hpn, Bool.not_false, Bool.true_and] at h; exact h)
              clear hpn HN
              go_wp2_with fail
              refine held_begin (fun w' => Below wr.heap.size wr w') (by kernel_rfl) hC ?_
              refine held_here [true, true, true, true, true, true, true, true, true, true, true, true, true, false, true] (by kernel_rfl) (by kernel_rfl) (fun _ _ _ _ _ h => h) hC ?_
              dsimp only [pick]
              repeat (go_big_quiet_step (fail))
              refine wpQuiet_nil ?_
              clear g0 g1 g2 g3 hba
              generalize wr.drew = w2 at hC ⊢
              refine held_op 13 (by kernel_rfl) (by kernel_rfl) rfl (fun KK hK => ?_)
              go_simp
              have hx3 := World.alloc_heap_new w2 (.cells #[.string nm] 9)
              have hb3 : Below w2.heap.size w2 (w2.alloc (.cells #[.string nm] 9)) := (Below.refl _ w2).alloc (Nat.le_refl _) _
              have hC3 := hC.trans (hb3.mono hC.size)
              refine hK.out _ _ hC3 ?_
              clear hK KK
              generalize w2.alloc (.cells #[.string nm] 9) = w3 at hx3 hb3 hC3 ⊢
              have hO3 : w3.ownsRow w2.heap.size 9 1 (.slice (some ⟨w2.heap.size, 0, none⟩) 1 1) [nm].length ([nm].map Value.string) := ⟨rfl, .inr ⟨w2.heap.size, 1, _, rfl, Nat.le_refl _, hx3, Nat.le_refl _, by decide, rfl, rfl⟩⟩
              refine held_op 15 (by kernel_rfl) (by kernel_rfl) rfl (fun KK hK => ?_)
              refine row_op 40 w2.heap.size (.slice (some ⟨w2.heap.size, 0, none⟩) 1 1) [nm] (outI ps nm k m) (.slice (some ⟨ob, 0, none⟩) (outI ps nm k m).length oc) rfl (by kernel_rfl) rfl rfl rfl hO3 (ownsRow_at (ownsRow_belowS (unhid HO) hC3)) (by rw [List.length_singleton]; omega) hb3.size (fun v4 w4 hV hg => ?_)
              have hC4 : Below wr.heap.size wr w4 := hC3.grown hg hC3.size (fun j hj => Nat.le_trans hC.size (own_geN hO3 j hj).1)
              refine hK.out _ _ hC4 ?_
              simp only [Act.put, List.setIfInBounds_toArray, List.set_cons_zero, List.set_cons_succ]
              clear hK KK
              have hV4 := ownsRow_at hV
              obtain ⟨va, vc, rfl, -, -, -⟩ := ownsRow_txts hV
              refine held_call 16 69 41 (enters_of Tryz.func69 (by kernel_rfl) rfl) #[.agg #[.string (PackD.name p), .string (PackD.version p), .slice na (PackD.needs p).length nc, .slice ta (PackD.tree p).length tc], .slice va ([nm] ++ outI ps nm k m).length vc] (by kernel_rfl) (by kernel_rfl) rfl rfl rfl rfl rfl ?_
              refine (l8Needs_any p na ta nc tc ([nm] ++ outI ps nm k m) _ w4 (unhid HSP) (packC.below (unhid HAT) hC4) (by rw [List.length_append, List.length_singleton]; omega) hV4).mono ?_
              rintro x w5 ⟨rfl, hb5⟩
              have hC5 := hC4.trans (hb5.mono hC4.size)
              rw [List.singleton_append]
              refine ⟨_, rfl, hC5, ?_⟩
              simp only [Act.put, List.setIfInBounds_toArray, List.set_cons_zero, List.set_cons_succ]
              clear hC hx3 hb3 hC3 hO3 hV hg hC4 hV4 hb5
              have hba : ∀ {q : Prop}, (CW (fun w' => Below wr.heap.size wr w') → q) ↔ q := CW.all (Below.refl _ wr)
              refine held_here [false, false, false, false, false, false, false, false, false, false, false, false, false, false, false, false, false, true] (by kernel_rfl) (by kernel_rfl) (fun _ _ _ _ _ h => h) hC5 ?_
              dsimp only [pick]
              repeat (go_big_quiet_step (fail))
              refine wpQuiet_nil ?_
              clear hba
              refine held_done (by kernel_rfl) ?_
              cases hask : asksB p (nm :: outI ps nm k m) with
              | false =>
                have HE := hid (show outI ps nm k (m + 1) = outI ps nm k m by rw [unhid HN2, hask]; rfl)
                clear hask
                have HB2 := hid ((unhid HB).trans (hC5.mono (unhid HB).size))
                have HO2 := hid (show w5.ownsRow w.heap.size 9 1 (.slice (some ⟨ob, 0, none⟩) (outI ps nm k (m + 1)).length oc) (outI ps nm k (m + 1)).length ((outI ps nm k (m + 1)).map Value.string) by rw [unhid HE]; exact ownsRow_belowS (unhid HO) hC5)
                have HV := hid (show Value.slice (some ⟨ob, 0, none⟩) (outI ps nm k m).length oc = .slice (some ⟨ob, 0, none⟩) (outI ps nm k (m + 1)).length oc by rw [unhid HE])
                clear hC5 hF
                go_wp2_with fail
                go_roundw
                case rel => exact ⟨m + 1, ob, oc, by omega, by go_num, unhid HV, HO2, HB2⟩
                case measure => simp [intOf]; omega
              | true =>
                have HE := hid (show outI ps nm k (m + 1) = addT (outI ps nm k m) (PackD.name p) by rw [unhid HN2, hask]; rfl)
                have c0 := (hC5.cell (p := ⟨b, o + m * 4, none⟩) hbw).trans (unhid HC0)
                clear hask
                go_wp2_with fail
                refine (l8Add_any (outI ps nm k m) (PackD.name p) w.heap.size ob oc w5 (by omega) hF.1 (Nat.le_trans (unhid HB).size hC5.size) (ownsRow_belowS (unhid HO) hC5)).mono ?_
                rintro x w6 ⟨g, c, rfl, hO6, hb6⟩
                have HB6 := hid (((unhid HB).trans (hC5.mono (unhid HB).size)).trans (hb6.mono (Nat.le_trans (unhid HB).size hC5.size)))
                have HO6 := hid hO6
                rw [← unhid HE] at HO6 ⊢
                clear hO6 hb6 hC5 c0 hF
                go_wp2_with fail
                go_roundw
                case rel => exact ⟨m + 1, g, c, by omega, by go_num, rfl, HO6, HB6⟩
                case measure => simp [intOf]; omega
          · have e : m = ps.length := by omega
            subst e
            have HE := hid (show outI ps nm (k + 1) 0 = outI ps nm k ps.length by rw [outI_0, outI_all])
            have HO2 := hid (show wr.ownsRow w.heap.size 9 1 (.slice (some ⟨ob, 0, none⟩) (outI ps nm (k + 1) 0).length oc) (outI ps nm (k + 1) 0).length ((outI ps nm (k + 1) 0).map Value.string) by rw [unhid HE]; exact unhid HO)
            have HV := hid (show Value.slice (some ⟨ob, 0, none⟩) (outI ps nm k ps.length).length oc = .slice (some ⟨ob, 0, none⟩) (outI ps nm (k + 1) 0).length oc by rw [unhid HE])
            go_wp2_with fail
            go_roundw
            case rel => exact ⟨k + 1, ob, oc, by omega, by go_num, unhid HV, HO2, HB⟩
            case measure => simp [intOf]; omega
      · have e : k = ps.length := by omega
        subst e
        have HE := hid (show needers_0 ps nm = outI ps nm ps.length 0 by unfold needers_0; rw [if_pos (unhid E)]; rfl)
        go_wp2_with fail
        go_ret
        refine ⟨⟨_, rfl, ?_⟩, unhid HB⟩
        rw [unhid HE]
        exact unhid HO
  · have E := hid hc
    have hcc : (packsCode ps != 0) = true := by rw [bne_iff_ne]; exact hc
    have hcb : ¬ (packsCode ps = 0) := hc
    go_wp2_with fail
    go_ret
    refine ⟨⟨_, rfl, ?_⟩, unhid HB1⟩
    unfold needers_0
    rw [if_neg (unhid E)]
    exact unhid HO1
end Go.Proofs.YtoihhlkidlapmaaGreat

/- PackOk of copies in memory of their own. -/
namespace Go.Proofs.YtoihhlkidlapmaaGreat
open Go.RowKit Go.Shelf

end Go.Proofs.YtoihhlkidlapmaaGreat

/- Needers, over data in memory of its own; rows of texts that lie within a block of their own. -/
namespace Go.Proofs.YtoihhlkidlapmaaGreat
open Go.RowKit Go.Shelf Go.Maps Go.ChangeShapes

/-- A row of texts within a block. -/
def offOwn (W : World) (v : Value) (xs : List ByteArray) (F : List Nat) : Prop := (xs = [] ∧ F = [] ∧ ∃ a c, v = .slice a 0 c ∧ (a = none → c = 0)) ∨
  ∃ g o cap cur, F = [g] ∧ v = .slice (some ⟨g, o, none⟩) xs.length cap ∧ W.heap[g]? = some (.cells cur 9 (0, 0)) ∧ xs.length ≤ cap ∧ o + xs.length ≤ cur.size ∧ ∀ (i : Nat) x, xs[i]? = some x → cur[o + i]? = some (.string x)
theorem offOwn.frame {W W' : World} {v : Value} {xs : List ByteArray} {F : List Nat} (h : offOwn W v xs F) (hf : ∀ k ∈ F, W'.heap[k]? = W.heap[k]?) : offOwn W' v xs F := by
  rcases h with h | ⟨g, o, cap, cur, rfl, hv, hh, h1, h2, h3⟩
  · exact .inl h
  · exact .inr ⟨g, o, cap, cur, rfl, hv, (hf g (by simp)).trans hh, h1, h2, h3⟩
theorem offOwn.lt {W : World} {v : Value} {xs : List ByteArray} {F : List Nat} (h : offOwn W v xs F) : ∀ k ∈ F, k < W.heap.size := by
  rcases h with ⟨_, rfl, _⟩ | ⟨g, o, cap, cur, rfl, hv, hh, _⟩
  · exact fun k hk => by cases hk
  · exact fun k hk => by rw [List.mem_singleton.1 hk]; exact (Array.getElem?_eq_some_iff.1 hh).1
def offK : Kind := ⟨List txtC.D, offOwn, offOwn.frame, offOwn.lt⟩
theorem offOwn.read {W : World} {v : Value} {xs : List ByteArray} {F : List Nat} (h : offOwn W v xs F) : ∃ a cap, v = .slice a xs.length cap ∧ TxtsAt W a xs := by
  rcases h with ⟨rfl, _, a, c, rfl, _⟩ | ⟨g, o, cap, cur, rfl, rfl, hh, h1, h2, h3⟩
  · exact ⟨a, c, rfl, .inl rfl⟩
  · exact ⟨_, cap, rfl, .inr ⟨g, o, rfl, (Array.getElem?_eq_some_iff.1 hh).1, fun i x hi => cell_arrS hh _ _ (h3 i x hi)⟩⟩
theorem off_mk {W : World} {N : Nat} {v : Value} {xs : List ByteArray} (h : OffOwn W N v xs) : ∃ F, offOwn W v xs F ∧ ∀ k ∈ F, N ≤ k ∧ k < W.heap.size := by
  rcases h with ⟨rfl, a, c, rfl, h⟩ | ⟨g, o, cap, cur, rfl, hN, hh, h1, h2, h3⟩
  · exact ⟨[], .inl ⟨rfl, rfl, a, c, rfl, h⟩, fun k hk => by cases hk⟩
  · exact ⟨[g], .inr ⟨g, o, cap, cur, rfl, rfl, hh, h1, h2, h3⟩, fun k hk => by rw [List.mem_singleton.1 hk]; exact ⟨hN, (Array.getElem?_eq_some_iff.1 hh).1⟩⟩
set_option maxRecDepth 100000 in
set_option maxHeartbeats 4000000 in
theorem markStringS_off (xs : List ByteArray) (v : Value) (F : List Nat) (q : Nat) (w : World) (hn : xs.length ≤ 20000000) (hq : 0 < q) (hq2 : q ≤ 20000000) (h : offOwn w v xs F) :
    Calls Tryz.prog 30 #[v, .int .i64 (q : Int)] w fun x w' => x = .returned (.int .i64 ((q + xs.length : Nat) : Int)) ∧ offOwn w' v (mtexts q xs.length) F ∧ Only F w w' := by
  rcases h with ⟨rfl, rfl, a, c, rfl, hnil⟩ | ⟨g, o, cap, cur, rfl, rfl, hh, h1, h2, h3⟩
  · go_enter Tryz.func30, Tryz.ntmps30
    go_wp2_with fail
    go_loopw [1, 5] (fun c i wr => i = .int .i64 0 ∧ c = .int .i64 (q : Int) ∧ wr = w) (fun _ i _ => 0)
    case atStart => exact ⟨rfl, rfl, rfl⟩
    case round =>
      obtain ⟨rfl, rfl, rfl⟩ := hrel
      go_wp2_with fail
      go_ret
      exact ⟨ret_int (by simp), .inl ⟨by simp [mtexts], rfl, a, c, rfl, hnil⟩, Only.refl _ _⟩
  · have HH := hid (And.intro hh (And.intro h2 h3))
    clear hh h2 h3
    go_enter Tryz.func30, Tryz.ntmps30
    go_wp2_with fail
    go_loopw [1, 5] (fun c i wr => ∃ k : Nat, k ≤ xs.length ∧ i = .int .i64 (k : Int) ∧ c = .int .i64 ((q + k : Nat) : Int) ∧ Hid (∃ cur2 : Array Value, wr.heap[g]? = some (.cells cur2 9 (0, 0)) ∧ o + xs.length ≤ cur2.size ∧ ∀ i, i < k → cur2[o + i]? = some (.string (mtext (q + i)))) ∧ Hid (Only [g] w wr)) (fun _ i _ => xs.length - (intOf i).toNat)
    case atStart => exact ⟨0, Nat.zero_le _, rfl, by go_num, hid ⟨cur, (unhid HH).1, (unhid HH).2.1, fun i hi => absurd hi (Nat.not_lt_zero _)⟩, hid (Only.refl _ _)⟩
    case round =>
      obtain ⟨k, hk, rfl, rfl, HC, HO⟩ := hrel
      by_cases hlt : k < xs.length
      · go_wp2_with fail
        refine (markText_at _ (q + k) wr (by omega) (by omega) (by omega)).mono ?_
        rintro x w2 ⟨rfl, hb⟩
        obtain ⟨cur2, e1, e2, e3⟩ := unhid HC
        have hgl := (Array.getElem?_eq_some_iff.1 e1).1
        have e4 := (hb.block g hgl).trans e1
        obtain ⟨y, hy⟩ : ∃ y, cur2[o + k]? = some y := ⟨cur2[o + k], Array.getElem?_eq_getElem (by omega)⟩
        have c0 : w2.cell? ⟨g, o + k, none⟩ = some y := by simp [World.cell?, e4, hy]
        have f0 : w2.frozen? ⟨g, o + k, none⟩ = false := by simp [World.frozen?, e4]
        have HN := hid (heap_setCell_same w2 g (o + k) cur2 9 (.string (mtext (q + k))) e4)
        have HO2 := hid (((unhid HO).trans (Only.ofBelow hb)).setCell (p := ⟨g, o + k, none⟩) (by simp) (.string (mtext (q + k))))
        have HE := hid (And.intro e2 e3)
        clear hb e1 e2 e3 e4 hy hgl HC HO
        go_wp2_with fail
        go_roundw
        case rel =>
          refine ⟨k + 1, by omega, by go_num, by go_num, hid ⟨_, unhid HN, by simpa using (unhid HE).1, fun i hi => ?_⟩, HO2⟩
          simp only [Array.getElem?_setIfInBounds]
          have := (unhid HE).1
          by_cases ei : i = k
          · subst ei; rw [if_pos rfl, if_pos (by omega)]
          · rw [if_neg (by omega)]; exact (unhid HE).2 i (by omega)
        case measure => simp [intOf]; omega
      · have e : k = xs.length := by omega
        subst e
        go_wp2_with fail
        go_ret
        refine ⟨ret_int (by go_num), ?_, unhid HO⟩
        obtain ⟨cur2, e1, e2, e3⟩ := unhid HC
        refine .inr ⟨g, o, cap, cur2, rfl, by rw [mtexts_len], e1, by rw [mtexts_len]; exact h1, by rw [mtexts_len]; exact e2, fun i x hi => ?_⟩
        have hl : i < xs.length := by have := (List.getElem?_eq_some_iff.1 hi).1; rwa [mtexts_len] at this
        rw [mtexts_get hl] at hi
        cases hi
        exact e3 i hl
set_option maxRecDepth 100000 in
theorem veqStringS_o (ds : List txtC.D) (v v' : Value) (F F' : List Nat) (w : World) (hb : ds.length ≤ maxLen ∧ ∀ d ∈ ds, txtC.big d) (h : offK.own w v ds F) (h' : (rowK txtC 9).own w v' ds F') : Calls Tryz.prog 27 #[v, v'] w fun x w' => x = .returned (.bool true) ∧ Below w.heap.size w w' := by
  obtain ⟨a, cap, rfl, h1⟩ := offOwn.read h
  obtain ⟨a', cap', rfl, h2, _⟩ := TxtOwn.read (txt_of_own h')
  exact eqStringS_same ds a a' cap cap' w hb.1 h1 h2
set_option maxRecDepth 100000 in
theorem vmarkStringS_o (ds : List txtC.D) (v : Value) (F : List Nat) (q : Nat) (c : Int) (hcq : c = (q : Int)) (w : World) (hq : 0 < q) (hq2 : q + cntR txtC ds ≤ 20000000) (h : offK.own w v ds F) : Calls Tryz.prog 30 #[v, .int .i64 c] w fun x w' => (∃ r : Int, x = .returned (.int .i64 r) ∧ r ≤ ((q + cntR txtC ds : Nat) : Int) ∧ ((q + cntR txtC ds : Nat) : Int) ≤ r) ∧ offK.own w' v (markR txtC q ds) F ∧ Only F w w' := by
  subst hcq
  have e := cntR_txt ds
  have em := markR_txt q ds
  refine (markStringS_off ds v F q w (by omega) hq (by omega) h).mono ?_
  rintro x w' ⟨rfl, h1, h2⟩
  exact ⟨⟨_, rfl, by rw [e]; exact Int.le_refl _, by rw [e]; exact Int.le_refl _⟩, by rw [← em] at h1; exact h1, h2⟩
set_option maxRecDepth 100000 in
theorem vheldStringS_o (ds : List txtC.D) (v : Value) (F : List Nat) (q : Nat) (c : Int) (hcq : c = (q : Int)) (w : World) (hq : 0 < q) (hq2 : q + cntR txtC ds ≤ 20000000) (h : offK.own w v (markR txtC q ds) F) : Calls Tryz.prog 31 #[v, .int .i64 c] w fun x w' => (∃ r : Int, x = .returned (.int .i64 r) ∧ r ≤ ((q + cntR txtC ds : Nat) : Int) ∧ ((q + cntR txtC ds : Nat) : Int) ≤ r) ∧ Below w.heap.size w w' := by
  subst hcq
  have e := cntR_txt ds
  have em := markR_txt q ds
  have h : offOwn w v (markR txtC q ds) F := h
  rw [em] at h
  obtain ⟨a, cap, hv, h1⟩ := offOwn.read h
  rw [mtexts_len] at hv
  subst hv
  refine (heldStringS_big _ a cap q w (by omega) hq (by omega) h1).mono ?_
  rintro x w' ⟨rfl, h2⟩
  exact ⟨⟨_, rfl, by rw [e]; exact Int.le_refl _, by rw [e]; exact Int.le_refl _⟩, h2⟩
theorem needers_spec (d0 : List packC.D) (d1 : ByteArray) (v0 : Value) (F0 : List Nat) (W : World) (h0 : d0.length + szR packC d0 ≤ 1048576 ∧ (d0.length ≤ maxLen ∧ ∀ d ∈ d0, packC.big d)) (_h1 : d1.size ≤ 1048576) (o0 : (rowK packC 34).own W v0 d0 F0) :
    Calls Tryz.prog 22 #[v0, .string d1] W fun r W' => ∃ v F, r = .returned v ∧ (rowK txtC 9).own W' v (needers_0 d0 d1) F ∧ (∀ k ∈ F, W.heap.size ≤ k ∧ k < W'.heap.size) ∧ Below W.heap.size W W' := by
  have hr := rowOwn.toAt o0
  obtain ⟨a, c, rfl, -⟩ := rowAt.slice hr
  refine (specNeeders_any d0 a c d1 W (smallPs_of h0.1) hr).mono ?_
  rintro r W' ⟨⟨v, rfl, ho⟩, hb⟩
  obtain ⟨F, h2, h3⟩ := ownsRow_own ho
  exact ⟨v, F, rfl, h2, h3, hb⟩
theorem needers_impl (d0 : List packC.D) (d1 : ByteArray) (v0 : Value) (F0 : List Nat) (W : World) (h0 : d0.length + szR packC d0 ≤ 1048576 ∧ (d0.length ≤ maxLen ∧ ∀ d ∈ d0, packC.big d)) (h1 : d1.size ≤ 1048576) (o0 : (rowK packC 34).own W v0 d0 F0) :
    Calls Tryz.prog 21 #[v0, .string d1] W fun r W' => ∃ v F, r = .returned v ∧ offK.own W' v (needers_0 d0 d1) F ∧ (∀ k ∈ F, W.heap.size ≤ k ∧ k < W'.heap.size) ∧ Below W.heap.size W W' := by
  have hr := rowOwn.toAt o0
  obtain ⟨a, c, rfl, -⟩ := rowAt.slice hr
  refine (implNeeders_any d0 a c d1 W (smallPs_of h0.1) (le_maxLen h1) hr).mono ?_
  rintro r W' ⟨v, rfl, ho, hb⟩
  obtain ⟨F, h2, h3⟩ := off_mk ho
  exact ⟨v, F, rfl, h2, h3, hb⟩
theorem needers_small (d0 : List packC.D) (d1 : ByteArray) (h0 : d0.length + szR packC d0 ≤ 1048576 ∧ (d0.length ≤ maxLen ∧ ∀ d ∈ d0, packC.big d)) (_h1 : d1.size ≤ 1048576) (_ht : d0.length + szR packC d0 ≤ 1048576) :
    (List.length (α := txtC.D) (needers_0 d0 d1) ≤ maxLen ∧ ∀ d ∈ (needers_0 d0 d1 : List txtC.D), txtC.big d) ∧ cntR txtC (needers_0 d0 d1) ≤ 9000000 := by
  have hs := smallPs_of h0.1
  have hf : (needers_0 d0 d1).length ≤ d0.length ∧ ∀ x ∈ needers_0 d0 d1, x ∈ namesP d0 := by
    unfold needers_0
    split
    · obtain ⟨h1, -, -, h4⟩ := needers_facts d0 d1
      have := nodup_len (needersT d0 d1) (namesP d0) (asc_nodup h1) (fun x hx => (h4 x hx).1)
      rw [namesP_len] at this
      exact ⟨this, fun x hx => (h4 x hx).1⟩
    · exact ⟨Nat.zero_le _, fun x hx => by cases hx⟩
  have hl : List.length (α := ByteArray) (needers_0 d0 d1) ≤ 1048576 := Nat.le_trans hf.1 hs.1
  refine ⟨⟨by show List.length (α := ByteArray) (needers_0 d0 d1) ≤ maxLen; unfold maxLen; omega, fun d hd => ?_⟩, ?_⟩
  · exact le_maxLen (names_smallN hs d (hf.2 d hd))
  · rw [cntR_txt]; omega
end Go.Proofs.YtoihhlkidlapmaaGreat
