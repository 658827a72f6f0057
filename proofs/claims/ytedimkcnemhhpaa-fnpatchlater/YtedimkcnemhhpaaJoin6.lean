/- Texts of this proof, one behind the other; each says at its head what it shows. -/
import Derived.Test.YtedimkcnemhhpaaJoin5
import Derived.Test.YtedimkcnemhhpaaJoin3
import Derived.Test.YtedimkcnemhhpaaJoin1
/- What the laws' draws of lines near others give. Under way: the three arms. -/
namespace Go.Proofs.Ytedimkcnemhhpaa
open Go.RowKit Go.Shelf

/-- A text written into a row of one's own. -/
theorem owns_put {W : World} {N k : Nat} {v : Value} {xs : List ByteArray} (h : W.ownsRow N 9 1 v xs.length (xs.map Value.string)) (hk : k < xs.length) : ∃ g cap, v = .slice (some ⟨g, 0, none⟩) xs.length cap ∧ N ≤ g ∧ xs.length ≤ cap ∧ (∃ z, W.cell? ⟨g, k, none⟩ = some (.string z)) ∧ W.frozen? ⟨g, k, none⟩ = false ∧ ∀ y : ByteArray, (W.setCell ⟨g, k, none⟩ (.string y)).ownsRow N 9 1 v (xs.set k y).length ((xs.set k y).map Value.string) := by
  obtain ⟨hlen, h⟩ := h
  rcases h with ⟨_, h0⟩ | ⟨g, cap, cur, hv, hb, hh, hc1, hc2, hsz, htk⟩
  · omega
  · have hcz : cur[k]? = some (.string xs[k]) := by
      have h1 : (cur.toList.take (xs.length * 1))[k]? = (xs.map Value.string)[k]? := by rw [htk]
      rw [List.getElem?_take, if_pos (by omega)] at h1
      simpa [hk] using h1
    refine ⟨g, cap, hv, hb, hc1, ⟨xs[k], cell_arr hh _ _ hcz⟩, ?_, fun y => ⟨by simp, .inr ⟨g, cap, cur.setIfInBounds k (.string y), by rw [hv]; simp, hb, heap_setCell_same _ g k _ _ _ hh, by simpa using hc1, hc2, by simpa using hsz, ?_⟩⟩⟩
    · unfold World.frozen?; dsimp only; rw [hh]; simp
    · rw [Array.toList_setIfInBounds, List.length_set, List.take_set, htk, List.map_set]

/-- Steps of a region with a call that draws. -/
theorem grown_drew (w : World) (row : Option Nat) : w.grownBy w.drew row := ⟨rfl, rfl, rfl, Nat.le_refl _, fun _ _ _ => rfl⟩
theorem TxtsAt.grownX {W W' : World} {a : Option Addr} {xs : List ByteArray} {b : Nat} (h : TxtsAt W a xs) (hne : ∀ b' o, a = some ⟨b', o, none⟩ → b' ≠ b) (hg : W.grownBy W' (some b)) : TxtsAt W' a xs := by
  rcases h with h | ⟨b', o, rfl, hb, hc⟩
  · exact .inl h
  · refine .inr ⟨b', o, rfl, Nat.lt_of_lt_of_le hb hg.size, fun i x hi => ?_⟩
    exact (World.cell?_of_block (w := W) (hg.block b' hb (fun e => hne b' o rfl (by injection e)))).trans (hc i x hi)
/-- A row of two texts that were just laid. -/
def Arr2 (B : Nat) (W : World) (g : Nat) : Prop := B ≤ g ∧ g < W.heap.size ∧ ∀ k, k < 2 → ∃ x, short x ∧ W.cell? ⟨g, k, none⟩ = some (.string x)
theorem arr2 (B : Nat) (W : World) (hB : B ≤ W.heap.size) : Arr2 B (W.alloc (.cells #[.string ⟨#[110, 101, 119]⟩, .string ⟨#[97]⟩] 9)) W.heap.size :=
  ⟨hB, by simp, fun k hk => row_short W _ _ (by kernel_rfl) k hk⟩
theorem Arr2.alloc {B g : Nat} {W : World} (h : Arr2 B W g) (o : Obj) : Arr2 B (W.alloc o) g :=
  ⟨h.1, by have := h.2.1; simp; omega, fun k hk => by
    obtain ⟨x, h1, h2⟩ := h.2.2 k hk
    exact ⟨x, h1, (((Below.refl W.heap.size W).alloc (Nat.le_refl _) o).cell (p := ⟨g, k, none⟩) h.2.1).trans h2⟩⟩
theorem Arr2.grown {B g : Nat} {W W' : World} {row : Option Nat} (h : Arr2 B W g) (hg : W.grownBy W' row) (hn : row ≠ some g) : Arr2 B W' g :=
  ⟨h.1, Nat.lt_of_lt_of_le h.2.1 hg.size, fun k hk => by
    obtain ⟨x, h1, h2⟩ := h.2.2 k hk
    exact ⟨x, h1, (World.cell?_of_block (w := W) (hg.block g h.2.1 (fun e => hn e.symm))).trans h2⟩⟩
theorem app_op {ops : Array Oper} {Q : Exit → Act → World → Prop} {K : Act → World → Prop} {a : Act} {w : World} {o : Oper} {s x : Operand} (d base : Nat) (v : Value) (xs ys : List ByteArray) (ad : Option Addr) (c : Nat)
    (hop : o.op = .call { callee := .builtin .append, args := #[s, x], argTypes := #[29, 29] }) (hw : Region.wanted o (yielded ops a.tmps) = true) (hd : o.dst = some d) (hs : a.eval s = v) (hx : a.eval x = .slice ad ys.length c)
    (hown : w.ownsRow base 9 1 v xs.length (xs.map Value.string)) (h : TxtsAt w ad ys) (ha : ad = none → c = 0) (hn : xs.length + ys.length ≤ 4294967296) (hb : base ≤ w.heap.size)
    (hk : ∀ v' w', w'.ownsRow base 9 1 v' (xs ++ ys).length ((xs ++ ys).map Value.string) → w.grownBy w' v.ownBlock → (v'.ownBlock = v.ownBlock ∨ v'.ownBlock = some w.heap.size) → K (a.put (some d) v') w') :
    if Region.wanted o (yielded ops a.tmps) = true then Oper.wp Try.prog o a w K Q else K (a.put o.dst undef) w := by
  rw [if_pos hw]
  obtain ⟨v', w', hr, h2, h3, h5⟩ := app_txts w base o.type v xs ys ad c hown h ha hn hb
  unfold Oper.wp execOp
  simp only [hop, resolve, invoke, builtin, Sem.run_bind, Sem.run_pure, Result.andThen_ok, List.map_toArray, List.map_cons, List.map_nil, hs, hx, hr]
  show K (a.put o.dst v') w'
  rw [hd]
  exact hk v' w' h2 h3 h5

set_option maxRecDepth 100000 in
set_option maxHeartbeats 4000000 in
theorem l11Near_any (w : World) (b : Nat) (a : Option Addr) (len cap p : Nat) (h : Rd w b a len cap p) (hp : p ≤ 100000) (ls : List ByteArray) (la : Option Addr) (lc : Nat) (ht : TxtsAt w la ls) (hn : la = none → lc = 0) (hl : ls.length ≤ 1000) (hx : shortX ls) :
    Calls Try.prog 70 #[.pointer (some ⟨b, 0, none⟩), .slice la ls.length lc] w fun e w' => ∃ v, e = .returned v ∧ ∃ xs, xs.length ≤ ls.length + 2 ∧ DrawX w' w.heap.size b v xs ∧ (∃ q, q ≤ p + 7 ∧ Rd w' b a len cap q) ∧ w.grownBy w' (some b) := by
  have hbl := h.lt
  have HX := hid hx
  have HN := hid hn
  have r0 := hid (emptyRow w w.heap.size 9 (Nat.le_refl _))
  have hb0 : Below w.heap.size w (w.alloc (.cells #[] 9)) := (Below.refl _ _).alloc (Nat.le_refl _) _
  have HT0 := hid (ht.below hb0)
  have HG0 := hid (World.grownBy_alloc w (.cells #[] 9) (some b))
  have HR0 := hid (h.alloc (.cells #[] 9))
  have hs0 := hb0.size
  clear h ht hx hn hb0
  go_enter Try.func70, Try.ntmps70
  go_wp2_with (at_builtin; refine wp_app rfl _ _ rfl w.heap.size _ [] ls la lc rfl rfl (unhid r0) (unhid HT0) (unhid HN) ?c1 hs0 ?_)
  case c1 => simp only [List.length_nil]; omega
  intro v1 W1 hown hg hat
  have hlo : ∀ j, (Value.slice (some ⟨w.heap.size, 0, none⟩) 0 0).ownBlock = some j → w.heap.size ≤ j := fun j e => ((unhid r0).lt j e).1
  have HG1 := hid (grown_own (unhid HG0) hg hlo)
  have HR1 := hid ((unhid HR0).grown hg (fun j e => Nat.lt_of_lt_of_le hbl (hlo j e)))
  obtain ⟨oa, oc, hv⟩ := ownsRow_sliceX hown
  subst hv
  have HO1 := hid hown
  clear hown hg hat hlo r0 HT0 HG0 HR0 hs0
  go_wp2_with fail
  refine (pick_any W1 b a len cap p (unhid HR1) (by omega) 3 (by omega) (by omega)).mono ?_
  rintro e W2 ⟨r, hr, rfl, hR, hG⟩
  have HR2 := hid hR
  have HG2 := hid (grown_trans (unhid HG1) hG)
  have HO2 := hid (owns_grown (unhid HO1) hG (.inr (fun e => by have := ((unhid HO1).lt b e).1; omega)))
  clear hR hG HR1 HO1 HG1
  go_wp2_with fail
  go_loopw [5, 6] (fun o n wr => ∃ (m q : Nat) (xs : List ByteArray) (oa : Option Addr) (oc : Nat), n = .int .i64 (m : Int) ∧ xs.length + m ≤ ls.length + 2 ∧ q + 3 * m ≤ p + 7 ∧ o = .slice oa xs.length oc ∧ Hid (wr.ownsRow w.heap.size 9 1 (.slice oa xs.length oc) xs.length (xs.map Value.string)) ∧ Hid (shortX xs) ∧ Hid (Rd wr b a len cap q) ∧ Hid (w.grownBy wr (some b))) (fun _ n _ => (intOf n).toNat)
  case atStart => exact ⟨r, p + 1, ls, _, _, rfl, by omega, by omega, rfl, HO2, HX, HR2, HG2⟩
  case round =>
    clear HO2 HR2 HG2 HX
    obtain ⟨m, q, xs, oa, oc, rfl, hm, hq, rfl, HO, HX, HR, HG⟩ := hrel
    by_cases hpos : 0 < m
    · go_wp2_with fail
      refine (pick_any wr b a len cap q (unhid HR) (by omega) ((xs.length : Int) + 1) (by omega) (by omega)).mono ?_
      rintro e W3 ⟨k, hk, rfl, hR, hG⟩
      have HR3 := hid hR
      have HG3 := hid (grown_trans (unhid HG) hG)
      have HO3 := hid (owns_grown (unhid HO) hG (.inr (fun e => by have := ((unhid HO).lt b e).1; omega)))
      clear hR hG HR HO HG
      go_wp2_with fail
      refine (pick_any W3 b a len cap (q + 1) (unhid HR3) (by omega) 3 (by omega) (by omega)).mono ?_
      rintro e W4 ⟨t, ht, rfl, hR, hG⟩
      have HR4 := hid hR
      have HG4 := hid (grown_trans (unhid HG3) hG)
      have HO4 := hid (owns_grown (unhid HO3) hG (.inr (fun e => by have := ((unhid HO3).lt b e).1; omega)))
      clear hR hG HR3 HO3 HG3
      obtain rfl | rfl | rfl : t = 0 ∨ t = 1 ∨ t = 2 := by omega
      --[t0
      · have htk : (xs.take k).length = k := by rw [List.length_take]; omega
        obtain ⟨oa', oc', hov, hot, hon, hocap⟩ := owns_cap (unhid HO4)
        injection hov with e1 e2 e3
        subst e1
        subst e3
        clear e2
        have hne : ∀ b' o, oa = some ⟨b', o, none⟩ → b' ≠ b := fun b' o e1 e2 => by subst e1; subst e2; have := ((unhid HO4).lt b' rfl).1; omega
        have HOT := hid (fun W (hW : W4.grownBy W (some b)) => hot.grownX hne hW)
        have HON := hid hon
        clear hot hon hne
        have s1 := fun w => sub_h oa xs.length oc k (by omega) w
        have s2 := fun w => sub_l oa xs.length oc k (by omega) w
        go_wp2_with fail
        have hD := hid (show W4.grownBy W4.drew (some b) from grown_drew W4 (some b))
        have hba : ∀ {q : Prop}, (CW (fun w' => W4.grownBy w' (some b)) → q) ↔ q := CW.all (grown_self W4 (some b))
        refine held_begin (fun w' => W4.grownBy w' (some b)) (by kernel_rfl) (unhid hD) ?_
        refine held_here [false, true, true, true, false, true, false, false, false, false, true, true, true] (by kernel_rfl) (by kernel_rfl) (fun _ _ _ _ _ h => h) (unhid hD) ?_
        dsimp only [pick]
        repeat (go_big_quiet_step (fail))
        refine wpQuiet_nil ?_
        clear hba s1 s2
        have HRa := hid ((unhid HR4).grown (grown_drew W4 none) (fun j e => by cases e))
        generalize W4.drew = W6 at hD HRa ⊢
        have hS := (unhid hD).size
        refine held_op2 0 6 (by kernel_rfl) (by kernel_rfl) rfl rfl (fun K hK => ?_) (fun K hK => ?_)
        · go_simp
          have hD' := hid (grown_own (unhid hD) (World.grownBy_alloc W6 (.cells #[] 9) none) (fun j e => by cases e))
          refine hK.out _ _ (unhid hD') ?_
          clear hK K
          have r0 := hid (World.ownsRow_lit (base := W4.heap.size) (e := 9) (size := 1) W6 #[] 0 hS (by simp [maxLen]) rfl)
          have HRa' := hid ((unhid HRa).alloc (.cells #[] 9))
          have hS' : W4.heap.size ≤ (W6.alloc (.cells #[] 9)).heap.size := (unhid hD').size
          generalize W6.alloc (.cells #[] 9) = W7 at hD' r0 HRa' hS' ⊢
          generalize W6.heap.size = g0 at r0 ⊢
          clear hD hS HRa
          have hD := hD'
          have hS := hS'
          have HRa := HRa'
          clear hD' hS' HRa'
          refine held_op2 4 6 (by kernel_rfl) (by kernel_rfl) rfl rfl (fun K hK => ?_) (fun K hK => ?_)
          · refine app_op 30 W4.heap.size (.slice (some ⟨g0, 0, none⟩) 0 0) [] (xs.take k) oa oc rfl rfl rfl rfl (by rw [htk]; rfl) (unhid r0) ((unhid HOT _ (unhid hD)).head k) (unhid HON) (by rw [htk]; simp only [List.length_nil]; omega) hS ?_
            intro v1 W7b r1' hg1 hat1
            have hlo : ∀ j, (Value.slice (some ⟨g0, 0, none⟩) 0 0).ownBlock = some j → W4.heap.size ≤ j := fun j e => ((unhid r0).lt j e).1
            have hD' := hid (grown_own (unhid hD) hg1 hlo)
            have HRa' := hid ((unhid HRa).grown hg1 (fun j e => Nat.lt_of_lt_of_le (unhid HR4).lt (hlo j e)))
            refine hK.out _ _ (unhid hD') ?_
            clear hK K
            simp only [Act.put, List.setIfInBounds_toArray, List.set_cons_zero, List.set_cons_succ]
            rw [List.nil_append] at r1'
            have r1 := hid r1'
            have hS' := (unhid hD').size
            clear hg1 hat1 hlo r0 hD HRa hS r1'
            have hD := hD'
            have hS := hS'
            have HRa := HRa'
            clear hD' hS' HRa'
            refine held_op 6 (by kernel_rfl) (by kernel_rfl) rfl (fun K hK => ?_)
            go_simp
            have hD' := hid (grown_own (unhid hD) (World.grownBy_alloc W7b (.cells #[.string ⟨#[110, 101, 119]⟩, .string ⟨#[97]⟩] 9) none) (fun j e => by cases e))
            refine hK.out _ _ (unhid hD') ?_
            clear hK K
            have q2 := hid (arr2 W4.heap.size W7b hS)
            have HRa' := hid ((unhid HRa).alloc (.cells #[.string ⟨#[110, 101, 119]⟩, .string ⟨#[97]⟩] 9))
            have n2 : (v1).ownBlock ≠ some W7b.heap.size := fun e => Nat.lt_irrefl _ ((unhid r1).lt _ e).2
            have r1' := hid ((unhid r1).alloc (.cells #[.string ⟨#[110, 101, 119]⟩, .string ⟨#[97]⟩] 9))
            clear r1
            have hS' : W4.heap.size ≤ (W7b.alloc (.cells #[.string ⟨#[110, 101, 119]⟩, .string ⟨#[97]⟩] 9)).heap.size := (unhid hD').size
            generalize W7b.alloc (.cells #[.string ⟨#[110, 101, 119]⟩, .string ⟨#[97]⟩] 9) = W7c at hD' q2 HRa' hS' r1' ⊢
            generalize W7b.heap.size = g6 at q2 n2 ⊢
            clear hD hS HRa
            have hD := hD'
            have hS := hS'
            have HRa := HRa'
            clear hD' hS' HRa'
            have r1 := r1'
            clear r1'
            have HRc := HRa
            refine held_call 7 95 33 (enters_of Try.func95 (by kernel_rfl) rfl) #[.pointer (some ⟨b, 0, none⟩), .slice (some ⟨g6, 0, none⟩) 2 2] (by kernel_rfl) (by kernel_rfl) rfl rfl rfl rfl rfl ?_
            refine (of_any short W7c b a len cap (q + 1 + 1) (unhid HRc) (by omega) g6 2 2 (by have := (unhid q2).1; have := (unhid HR4).lt; omega) (by omega) (by omega) (unhid q2).2.2).mono ?_
            rintro e W8 ⟨x, hx, rfl, hR, hG⟩
            have HX8 := hid hx
            have HR8 := hid hR
            have hD8 := hid (grown_trans (unhid hD) hG)
            have r8 := hid (owns_grown (unhid r1) hG (.inr (fun e => by have := ((unhid r1).lt b e).1; have := (unhid HR4).lt; omega)))
            clear hR hG hx HRa HRc r1 hD q2 n2 hS
            refine ⟨_, rfl, unhid hD8, ?_⟩
            simp only [Act.put, List.setIfInBounds_toArray, List.set_cons_zero, List.set_cons_succ]
            have hS := (unhid hD8).size
            refine held_op 8 (by kernel_rfl) (by kernel_rfl) rfl (fun K hK => ?_)
            go_simp
            have TN := hid (one_new W8 x)
            have hD9 := hid (grown_own (unhid hD8) (World.grownBy_alloc W8 (.cells #[.string x] 9) none) (fun j e => by cases e))
            have r9 := hid ((unhid r8).alloc (.cells #[.string x] 9))
            have HR9 := hid ((unhid HR8).alloc (.cells #[.string x] 9))
            refine hK.out _ _ (unhid hD9) ?_
            clear hK K r8 HR8 hD8 hS
            have hS := (unhid hD9).size
            generalize W8.alloc (.cells #[.string x] 9) = W9 at TN hD9 r9 HR9 hS ⊢
            generalize W8.heap.size = g8 at TN ⊢
            refine held_app 9 35 W4.heap.size v1 (xs.take k) [x] (some ⟨g8, 0, none⟩) 1 (by kernel_rfl) (by kernel_rfl) rfl rfl rfl rfl rfl rfl (unhid r9) (unhid TN) (fun e => by cases e) (by rw [htk]; simp only [List.length_cons, List.length_nil]; omega) hS ?_
            intro v2 W10 r10 hg hat
            have hlo : ∀ j, v1.ownBlock = some j → W4.heap.size ≤ j := fun j e => ((unhid r9).lt j e).1
            have hD10 := hid (grown_own (unhid hD9) hg hlo)
            have HR10 := hid ((unhid HR9).grown hg (fun j e => Nat.lt_of_lt_of_le (unhid HR4).lt (hlo j e)))
            refine ⟨unhid hD10, ?_⟩
            simp only [Act.put, List.setIfInBounds_toArray, List.set_cons_zero, List.set_cons_succ]
            clear hg hat hlo r9 HR9 hD9 TN hS
            have hS := (unhid hD10).size
            have hdr : (xs.drop k).length = xs.length - k := List.length_drop
            refine held_app 13 39 W4.heap.size v2 (xs.take k ++ [x]) (xs.drop k) (subA oa oc k) (oc - k) (by kernel_rfl) (by kernel_rfl) rfl rfl rfl rfl rfl (by rw [hdr]; rfl) r10 ((unhid HOT _ (unhid hD10)).rest hocap _) (subA_none (by omega) (unhid HON)) (by rw [hdr, List.length_append, htk]; simp only [List.length_cons, List.length_nil]; omega) hS ?_
            intro v3 W11 r11 hg hat
            have hlo : ∀ j, v2.ownBlock = some j → W4.heap.size ≤ j := fun j e => (r10.lt j e).1
            have hD11 := hid (grown_own (unhid hD10) hg hlo)
            have HR11 := hid ((unhid HR10).grown hg (fun j e => Nat.lt_of_lt_of_le (unhid HR4).lt (hlo j e)))
            refine ⟨unhid hD11, ?_⟩
            simp only [Act.put, List.setIfInBounds_toArray, List.set_cons_zero, List.set_cons_succ]
            obtain ⟨va, vc, hv3⟩ := ownsRow_sliceX r11
            subst hv3
            clear hg hat hlo r10 HR10 hD10 hS
            have hba : ∀ {q : Prop}, (CW (fun w' => W4.grownBy w' (some b)) → q) ↔ q := CW.all (grown_self W4 (some b))
            refine held_here [false, false, false, false, false, false, false, false, false, false, false, false, false, false, true] (by kernel_rfl) (by kernel_rfl) (fun _ _ _ _ _ h => h) (unhid hD11) ?_
            dsimp only [pick]
            repeat (go_big_quiet_step (fail))
            refine wpQuiet_nil ?_
            clear hba
            refine held_done (by kernel_rfl) ?_
            have HO11 := hid (ownsRow_baseX (N' := w.heap.size) r11 (unhid HG4).size)
            have HG11 := hid (grown_trans (unhid HG4) (unhid hD11))
            have HX11 := hid (show shortX (xs.take k ++ [x] ++ xs.drop k) from fun y hy => by
              rcases List.mem_append.1 hy with hy | hy
              · rcases List.mem_append.1 hy with hy | hy
                · exact unhid HX y (List.mem_of_mem_take hy)
                · rw [List.mem_singleton.1 hy]; exact unhid HX8
              · exact unhid HX y (List.mem_of_mem_drop hy))
            have hyl : (xs.take k ++ [x] ++ xs.drop k).length = xs.length + 1 := by rw [List.length_append, List.length_append, htk, hdr]; simp only [List.length_cons, List.length_nil]; omega
            have hyl2 : (xs.take k ++ [x] ++ xs.drop k).length ≤ xs.length + 1 := Nat.le_of_eq hyl
            clear hyl
            clear r11 hD11 htk hdr HOT HON hocap HX8
            generalize xs.take k ++ [x] ++ xs.drop k = ys at *
            go_wp2_with fail
            go_roundw
            case rel => exact ⟨m - 1, q + 3, ys, va, vc, by go_num, by omega, by omega, rfl, HO11, HX11, HR11, HG11⟩
            case measure => simp [intOf]; omega
          · go_simp
            have hD' := hid (grown_own (unhid hD) (World.grownBy_alloc W7 (.cells #[.string ⟨#[110, 101, 119]⟩, .string ⟨#[97]⟩] 9) none) (fun j e => by cases e))
            refine hK.out _ _ (unhid hD') ?_
            clear hK K
            have q2 := hid (arr2 W4.heap.size W7 hS)
            have HRa' := hid ((unhid HRa).alloc (.cells #[.string ⟨#[110, 101, 119]⟩, .string ⟨#[97]⟩] 9))
            have n2 : (Value.slice (some ⟨g0, 0, none⟩) 0 0).ownBlock ≠ some W7.heap.size := fun e => Nat.lt_irrefl _ ((unhid r0).lt _ e).2
            have r0' := hid ((unhid r0).alloc (.cells #[.string ⟨#[110, 101, 119]⟩, .string ⟨#[97]⟩] 9))
            clear r0
            have hS' : W4.heap.size ≤ (W7.alloc (.cells #[.string ⟨#[110, 101, 119]⟩, .string ⟨#[97]⟩] 9)).heap.size := (unhid hD').size
            generalize W7.alloc (.cells #[.string ⟨#[110, 101, 119]⟩, .string ⟨#[97]⟩] 9) = W7b at hD' q2 HRa' hS' r0' ⊢
            generalize W7.heap.size = g6 at q2 n2 ⊢
            clear hD hS HRa
            have hD := hD'
            have hS := hS'
            have HRa := HRa'
            clear hD' hS' HRa'
            have r0 := r0'
            clear r0'
            refine held_app 4 30 W4.heap.size (.slice (some ⟨g0, 0, none⟩) 0 0) [] (xs.take k) oa oc (by kernel_rfl) (by kernel_rfl) rfl rfl rfl rfl rfl (by rw [htk]; rfl) (unhid r0) ((unhid HOT _ (unhid hD)).head k) (unhid HON) (by rw [htk]; simp only [List.length_nil]; omega) hS ?_
            intro v1 W7c r1' hg1 hat1
            have hlo : ∀ j, (Value.slice (some ⟨g0, 0, none⟩) 0 0).ownBlock = some j → W4.heap.size ≤ j := fun j e => ((unhid r0).lt j e).1
            have hD' := hid (grown_own (unhid hD) hg1 hlo)
            have HRa' := hid ((unhid HRa).grown hg1 (fun j e => Nat.lt_of_lt_of_le (unhid HR4).lt (hlo j e)))
            have q2' := hid ((unhid q2).grown hg1 n2)
            have n2' : v1.ownBlock ≠ some g6 := fun e => by
              rcases hat1 with h | h
              · exact n2 (h ▸ e)
              · have := (unhid q2).2.1; rw [h] at e; injection e with e; omega
            refine ⟨unhid hD', ?_⟩
            simp only [Act.put, List.setIfInBounds_toArray, List.set_cons_zero, List.set_cons_succ]
            rw [List.nil_append] at r1'
            have r1 := hid r1'
            have hS' := (unhid hD').size
            clear hg1 hat1 hlo r0 hD HRa hS r1'
            have hD := hD'
            have hS := hS'
            have HRa := HRa'
            clear hD' hS' HRa'
            clear q2 n2
            have q2 := q2'
            have n2 := n2'
            clear q2' n2'
            have HRc := HRa
            refine held_call 7 95 33 (enters_of Try.func95 (by kernel_rfl) rfl) #[.pointer (some ⟨b, 0, none⟩), .slice (some ⟨g6, 0, none⟩) 2 2] (by kernel_rfl) (by kernel_rfl) rfl rfl rfl rfl rfl ?_
            refine (of_any short W7c b a len cap (q + 1 + 1) (unhid HRc) (by omega) g6 2 2 (by have := (unhid q2).1; have := (unhid HR4).lt; omega) (by omega) (by omega) (unhid q2).2.2).mono ?_
            rintro e W8 ⟨x, hx, rfl, hR, hG⟩
            have HX8 := hid hx
            have HR8 := hid hR
            have hD8 := hid (grown_trans (unhid hD) hG)
            have r8 := hid (owns_grown (unhid r1) hG (.inr (fun e => by have := ((unhid r1).lt b e).1; have := (unhid HR4).lt; omega)))
            clear hR hG hx HRa HRc r1 hD q2 n2 hS
            refine ⟨_, rfl, unhid hD8, ?_⟩
            simp only [Act.put, List.setIfInBounds_toArray, List.set_cons_zero, List.set_cons_succ]
            have hS := (unhid hD8).size
            refine held_op 8 (by kernel_rfl) (by kernel_rfl) rfl (fun K hK => ?_)
            go_simp
            have TN := hid (one_new W8 x)
            have hD9 := hid (grown_own (unhid hD8) (World.grownBy_alloc W8 (.cells #[.string x] 9) none) (fun j e => by cases e))
            have r9 := hid ((unhid r8).alloc (.cells #[.string x] 9))
            have HR9 := hid ((unhid HR8).alloc (.cells #[.string x] 9))
            refine hK.out _ _ (unhid hD9) ?_
            clear hK K r8 HR8 hD8 hS
            have hS := (unhid hD9).size
            generalize W8.alloc (.cells #[.string x] 9) = W9 at TN hD9 r9 HR9 hS ⊢
            generalize W8.heap.size = g8 at TN ⊢
            refine held_app 9 35 W4.heap.size v1 (xs.take k) [x] (some ⟨g8, 0, none⟩) 1 (by kernel_rfl) (by kernel_rfl) rfl rfl rfl rfl rfl rfl (unhid r9) (unhid TN) (fun e => by cases e) (by rw [htk]; simp only [List.length_cons, List.length_nil]; omega) hS ?_
            intro v2 W10 r10 hg hat
            have hlo : ∀ j, v1.ownBlock = some j → W4.heap.size ≤ j := fun j e => ((unhid r9).lt j e).1
            have hD10 := hid (grown_own (unhid hD9) hg hlo)
            have HR10 := hid ((unhid HR9).grown hg (fun j e => Nat.lt_of_lt_of_le (unhid HR4).lt (hlo j e)))
            refine ⟨unhid hD10, ?_⟩
            simp only [Act.put, List.setIfInBounds_toArray, List.set_cons_zero, List.set_cons_succ]
            clear hg hat hlo r9 HR9 hD9 TN hS
            have hS := (unhid hD10).size
            have hdr : (xs.drop k).length = xs.length - k := List.length_drop
            refine held_app 13 39 W4.heap.size v2 (xs.take k ++ [x]) (xs.drop k) (subA oa oc k) (oc - k) (by kernel_rfl) (by kernel_rfl) rfl rfl rfl rfl rfl (by rw [hdr]; rfl) r10 ((unhid HOT _ (unhid hD10)).rest hocap _) (subA_none (by omega) (unhid HON)) (by rw [hdr, List.length_append, htk]; simp only [List.length_cons, List.length_nil]; omega) hS ?_
            intro v3 W11 r11 hg hat
            have hlo : ∀ j, v2.ownBlock = some j → W4.heap.size ≤ j := fun j e => (r10.lt j e).1
            have hD11 := hid (grown_own (unhid hD10) hg hlo)
            have HR11 := hid ((unhid HR10).grown hg (fun j e => Nat.lt_of_lt_of_le (unhid HR4).lt (hlo j e)))
            refine ⟨unhid hD11, ?_⟩
            simp only [Act.put, List.setIfInBounds_toArray, List.set_cons_zero, List.set_cons_succ]
            obtain ⟨va, vc, hv3⟩ := ownsRow_sliceX r11
            subst hv3
            clear hg hat hlo r10 HR10 hD10 hS
            have hba : ∀ {q : Prop}, (CW (fun w' => W4.grownBy w' (some b)) → q) ↔ q := CW.all (grown_self W4 (some b))
            refine held_here [false, false, false, false, false, false, false, false, false, false, false, false, false, false, true] (by kernel_rfl) (by kernel_rfl) (fun _ _ _ _ _ h => h) (unhid hD11) ?_
            dsimp only [pick]
            repeat (go_big_quiet_step (fail))
            refine wpQuiet_nil ?_
            clear hba
            refine held_done (by kernel_rfl) ?_
            have HO11 := hid (ownsRow_baseX (N' := w.heap.size) r11 (unhid HG4).size)
            have HG11 := hid (grown_trans (unhid HG4) (unhid hD11))
            have HX11 := hid (show shortX (xs.take k ++ [x] ++ xs.drop k) from fun y hy => by
              rcases List.mem_append.1 hy with hy | hy
              · rcases List.mem_append.1 hy with hy | hy
                · exact unhid HX y (List.mem_of_mem_take hy)
                · rw [List.mem_singleton.1 hy]; exact unhid HX8
              · exact unhid HX y (List.mem_of_mem_drop hy))
            have hyl : (xs.take k ++ [x] ++ xs.drop k).length = xs.length + 1 := by rw [List.length_append, List.length_append, htk, hdr]; simp only [List.length_cons, List.length_nil]; omega
            have hyl2 : (xs.take k ++ [x] ++ xs.drop k).length ≤ xs.length + 1 := Nat.le_of_eq hyl
            clear hyl
            clear r11 hD11 htk hdr HOT HON hocap HX8
            generalize xs.take k ++ [x] ++ xs.drop k = ys at *
            go_wp2_with fail
            go_roundw
            case rel => exact ⟨m - 1, q + 3, ys, va, vc, by go_num, by omega, by omega, rfl, HO11, HX11, HR11, HG11⟩
            case measure => simp [intOf]; omega
        · go_simp
          have hD' := hid (grown_own (unhid hD) (World.grownBy_alloc W6 (.cells #[.string ⟨#[110, 101, 119]⟩, .string ⟨#[97]⟩] 9) none) (fun j e => by cases e))
          refine hK.out _ _ (unhid hD') ?_
          clear hK K
          have q2 := hid (arr2 W4.heap.size W6 hS)
          have HRa' := hid ((unhid HRa).alloc (.cells #[.string ⟨#[110, 101, 119]⟩, .string ⟨#[97]⟩] 9))
          have hS' : W4.heap.size ≤ (W6.alloc (.cells #[.string ⟨#[110, 101, 119]⟩, .string ⟨#[97]⟩] 9)).heap.size := (unhid hD').size
          generalize W6.alloc (.cells #[.string ⟨#[110, 101, 119]⟩, .string ⟨#[97]⟩] 9) = W7 at hD' q2 HRa' hS' ⊢
          generalize W6.heap.size = g6 at q2 ⊢
          clear hD hS HRa
          have hD := hD'
          have hS := hS'
          have HRa := HRa'
          clear hD' hS' HRa'
          refine held_op 0 (by kernel_rfl) (by kernel_rfl) rfl (fun K hK => ?_)
          go_simp
          have hD' := hid (grown_own (unhid hD) (World.grownBy_alloc W7 (.cells #[] 9) none) (fun j e => by cases e))
          refine hK.out _ _ (unhid hD') ?_
          clear hK K
          have r0 := hid (World.ownsRow_lit (base := W4.heap.size) (e := 9) (size := 1) W7 #[] 0 hS (by simp [maxLen]) rfl)
          have HRa' := hid ((unhid HRa).alloc (.cells #[] 9))
          have q2' := hid ((unhid q2).alloc (.cells #[] 9))
          have n2 : (Value.slice (some ⟨W7.heap.size, 0, none⟩) 0 0).ownBlock ≠ some g6 := fun e => by have := (unhid q2).2.1; injection e with e; have e2 : W7.heap.size = g6 := e; omega
          clear q2
          have hS' : W4.heap.size ≤ (W7.alloc (.cells #[] 9)).heap.size := (unhid hD').size
          generalize W7.alloc (.cells #[] 9) = W7b at hD' r0 HRa' hS' q2' ⊢
          generalize W7.heap.size = g0 at r0 n2 ⊢
          clear hD hS HRa
          have hD := hD'
          have hS := hS'
          have HRa := HRa'
          clear hD' hS' HRa'
          have q2 := q2'
          clear q2'
          refine held_app 4 30 W4.heap.size (.slice (some ⟨g0, 0, none⟩) 0 0) [] (xs.take k) oa oc (by kernel_rfl) (by kernel_rfl) rfl rfl rfl rfl rfl (by rw [htk]; rfl) (unhid r0) ((unhid HOT _ (unhid hD)).head k) (unhid HON) (by rw [htk]; simp only [List.length_nil]; omega) hS ?_
          intro v1 W7c r1' hg1 hat1
          have hlo : ∀ j, (Value.slice (some ⟨g0, 0, none⟩) 0 0).ownBlock = some j → W4.heap.size ≤ j := fun j e => ((unhid r0).lt j e).1
          have hD' := hid (grown_own (unhid hD) hg1 hlo)
          have HRa' := hid ((unhid HRa).grown hg1 (fun j e => Nat.lt_of_lt_of_le (unhid HR4).lt (hlo j e)))
          have q2' := hid ((unhid q2).grown hg1 n2)
          have n2' : v1.ownBlock ≠ some g6 := fun e => by
            rcases hat1 with h | h
            · exact n2 (h ▸ e)
            · have := (unhid q2).2.1; rw [h] at e; injection e with e; omega
          refine ⟨unhid hD', ?_⟩
          simp only [Act.put, List.setIfInBounds_toArray, List.set_cons_zero, List.set_cons_succ]
          rw [List.nil_append] at r1'
          have r1 := hid r1'
          have hS' := (unhid hD').size
          clear hg1 hat1 hlo r0 hD HRa hS r1'
          have hD := hD'
          have hS := hS'
          have HRa := HRa'
          clear hD' hS' HRa'
          clear q2 n2
          have q2 := q2'
          have n2 := n2'
          clear q2' n2'
          have HRc := HRa
          refine held_call 7 95 33 (enters_of Try.func95 (by kernel_rfl) rfl) #[.pointer (some ⟨b, 0, none⟩), .slice (some ⟨g6, 0, none⟩) 2 2] (by kernel_rfl) (by kernel_rfl) rfl rfl rfl rfl rfl ?_
          refine (of_any short W7c b a len cap (q + 1 + 1) (unhid HRc) (by omega) g6 2 2 (by have := (unhid q2).1; have := (unhid HR4).lt; omega) (by omega) (by omega) (unhid q2).2.2).mono ?_
          rintro e W8 ⟨x, hx, rfl, hR, hG⟩
          have HX8 := hid hx
          have HR8 := hid hR
          have hD8 := hid (grown_trans (unhid hD) hG)
          have r8 := hid (owns_grown (unhid r1) hG (.inr (fun e => by have := ((unhid r1).lt b e).1; have := (unhid HR4).lt; omega)))
          clear hR hG hx HRa HRc r1 hD q2 n2 hS
          refine ⟨_, rfl, unhid hD8, ?_⟩
          simp only [Act.put, List.setIfInBounds_toArray, List.set_cons_zero, List.set_cons_succ]
          have hS := (unhid hD8).size
          refine held_op 8 (by kernel_rfl) (by kernel_rfl) rfl (fun K hK => ?_)
          go_simp
          have TN := hid (one_new W8 x)
          have hD9 := hid (grown_own (unhid hD8) (World.grownBy_alloc W8 (.cells #[.string x] 9) none) (fun j e => by cases e))
          have r9 := hid ((unhid r8).alloc (.cells #[.string x] 9))
          have HR9 := hid ((unhid HR8).alloc (.cells #[.string x] 9))
          refine hK.out _ _ (unhid hD9) ?_
          clear hK K r8 HR8 hD8 hS
          have hS := (unhid hD9).size
          generalize W8.alloc (.cells #[.string x] 9) = W9 at TN hD9 r9 HR9 hS ⊢
          generalize W8.heap.size = g8 at TN ⊢
          refine held_app 9 35 W4.heap.size v1 (xs.take k) [x] (some ⟨g8, 0, none⟩) 1 (by kernel_rfl) (by kernel_rfl) rfl rfl rfl rfl rfl rfl (unhid r9) (unhid TN) (fun e => by cases e) (by rw [htk]; simp only [List.length_cons, List.length_nil]; omega) hS ?_
          intro v2 W10 r10 hg hat
          have hlo : ∀ j, v1.ownBlock = some j → W4.heap.size ≤ j := fun j e => ((unhid r9).lt j e).1
          have hD10 := hid (grown_own (unhid hD9) hg hlo)
          have HR10 := hid ((unhid HR9).grown hg (fun j e => Nat.lt_of_lt_of_le (unhid HR4).lt (hlo j e)))
          refine ⟨unhid hD10, ?_⟩
          simp only [Act.put, List.setIfInBounds_toArray, List.set_cons_zero, List.set_cons_succ]
          clear hg hat hlo r9 HR9 hD9 TN hS
          have hS := (unhid hD10).size
          have hdr : (xs.drop k).length = xs.length - k := List.length_drop
          refine held_app 13 39 W4.heap.size v2 (xs.take k ++ [x]) (xs.drop k) (subA oa oc k) (oc - k) (by kernel_rfl) (by kernel_rfl) rfl rfl rfl rfl rfl (by rw [hdr]; rfl) r10 ((unhid HOT _ (unhid hD10)).rest hocap _) (subA_none (by omega) (unhid HON)) (by rw [hdr, List.length_append, htk]; simp only [List.length_cons, List.length_nil]; omega) hS ?_
          intro v3 W11 r11 hg hat
          have hlo : ∀ j, v2.ownBlock = some j → W4.heap.size ≤ j := fun j e => (r10.lt j e).1
          have hD11 := hid (grown_own (unhid hD10) hg hlo)
          have HR11 := hid ((unhid HR10).grown hg (fun j e => Nat.lt_of_lt_of_le (unhid HR4).lt (hlo j e)))
          refine ⟨unhid hD11, ?_⟩
          simp only [Act.put, List.setIfInBounds_toArray, List.set_cons_zero, List.set_cons_succ]
          obtain ⟨va, vc, hv3⟩ := ownsRow_sliceX r11
          subst hv3
          clear hg hat hlo r10 HR10 hD10 hS
          have hba : ∀ {q : Prop}, (CW (fun w' => W4.grownBy w' (some b)) → q) ↔ q := CW.all (grown_self W4 (some b))
          refine held_here [false, false, false, false, false, false, false, false, false, false, false, false, false, false, true] (by kernel_rfl) (by kernel_rfl) (fun _ _ _ _ _ h => h) (unhid hD11) ?_
          dsimp only [pick]
          repeat (go_big_quiet_step (fail))
          refine wpQuiet_nil ?_
          clear hba
          refine held_done (by kernel_rfl) ?_
          have HO11 := hid (ownsRow_baseX (N' := w.heap.size) r11 (unhid HG4).size)
          have HG11 := hid (grown_trans (unhid HG4) (unhid hD11))
          have HX11 := hid (show shortX (xs.take k ++ [x] ++ xs.drop k) from fun y hy => by
            rcases List.mem_append.1 hy with hy | hy
            · rcases List.mem_append.1 hy with hy | hy
              · exact unhid HX y (List.mem_of_mem_take hy)
              · rw [List.mem_singleton.1 hy]; exact unhid HX8
            · exact unhid HX y (List.mem_of_mem_drop hy))
          have hyl : (xs.take k ++ [x] ++ xs.drop k).length = xs.length + 1 := by rw [List.length_append, List.length_append, htk, hdr]; simp only [List.length_cons, List.length_nil]; omega
          have hyl2 : (xs.take k ++ [x] ++ xs.drop k).length ≤ xs.length + 1 := Nat.le_of_eq hyl
          clear hyl
          clear r11 hD11 htk hdr HOT HON hocap HX8
          generalize xs.take k ++ [x] ++ xs.drop k = ys at *
          go_wp2_with fail
          go_roundw
          case rel => exact ⟨m - 1, q + 3, ys, va, vc, by go_num, by omega, by omega, rfl, HO11, HX11, HR11, HG11⟩
          case measure => simp [intOf]; omega
      --t0]
      · by_cases hkl : (k : Int) < (xs.length : Int)
        · obtain ⟨oa', oc', hov, hot, hon, hocap⟩ := owns_cap (unhid HO4)
          injection hov with e1 e2 e3
          subst e1
          subst e3
          clear e2
          have HOT := hid hot
          have HON := hid hon
          clear hot hon
          have s1 := fun w => sub_h oa xs.length oc k (by omega) w
          have s2 := fun w => sub_l oa xs.length oc (k + 1) (by omega) w
          rw [show ((k + 1 : Nat) : Int) = (k : Int) + 1 by omega] at s2
          go_wp2_with fail
          have hba : ∀ {q : Prop}, (CW (fun w' => Below W4.heap.size W4 w') → q) ↔ q := CW.all (Below.refl _ W4)
          refine held_begin (fun w' => Below W4.heap.size W4 w') (by kernel_rfl) (drew_belowX _) ?_
          refine held_here [false, true, true, true, false, true, true, true, true] (by kernel_rfl) (by kernel_rfl) (fun _ _ _ _ _ h => h) (drew_belowX _) ?_
          dsimp only [pick]
          repeat (go_big_quiet_step (fail))
          refine wpQuiet_nil ?_
          clear hba s1 s2
          have hD := drew_belowX (B := W4.heap.size) W4
          generalize W4.drew = W6 at hD ⊢
          refine held_op 0 (by kernel_rfl) (by kernel_rfl) rfl (fun K hK => ?_)
          go_simp
          have hD2 : Below W4.heap.size W4 (W6.alloc (.cells #[] 9)) := hD.alloc hD.size _
          refine hK.out _ _ hD2 ?_
          clear hK K
          have r0 := World.ownsRow_lit (base := W4.heap.size) (e := 9) (size := 1) W6 #[] 0 hD.size (by simp [maxLen]) rfl
          generalize W6.alloc (.cells #[] 9) = W7 at hD2 r0 ⊢
          generalize W6.heap.size = g0 at r0 ⊢
          clear hD
          have htk : (xs.take k).length = k := by rw [List.length_take]; omega
          refine held_app 4 50 W4.heap.size (.slice (some ⟨g0, 0, none⟩) 0 0) [] (xs.take k) oa oc (by kernel_rfl) (by kernel_rfl) rfl rfl rfl rfl rfl (by rw [htk]; rfl) r0 (((unhid HOT).head k).below hD2) (unhid HON) (by rw [htk]; simp only [List.length_nil]; omega) hD2.size ?_
          intro v1 W8 r1 hg1 _
          have hD3 : Below W4.heap.size W4 W8 := hD2.grown hg1 hD2.size (fun j e => (r0.lt j e).1)
          refine ⟨hD3, ?_⟩
          simp only [Act.put, List.setIfInBounds_toArray, List.set_cons_zero, List.set_cons_succ]
          rw [List.nil_append] at r1
          clear hg1 r0 hD2
          have hdr : (xs.drop (k + 1)).length = xs.length - (k + 1) := List.length_drop
          refine held_app 9 55 W4.heap.size v1 (xs.take k) (xs.drop (k + 1)) (subA oa oc (k + 1)) (oc - (k + 1)) (by kernel_rfl) (by kernel_rfl) rfl rfl rfl rfl rfl (by rw [hdr]; rfl) r1 (((unhid HOT).rest hocap _).below hD3) (subA_none (by omega) (unhid HON)) (by rw [hdr, htk]; omega) hD3.size ?_
          intro v3 W10 r3 hg3 _
          have hD5 : Below W4.heap.size W4 W10 := hD3.grown hg3 hD3.size (fun j e => (r1.lt j e).1)
          refine ⟨hD5, ?_⟩
          simp only [Act.put, List.setIfInBounds_toArray, List.set_cons_zero, List.set_cons_succ]
          obtain ⟨va, vc, hv3⟩ := ownsRow_sliceX r3
          subst hv3
          clear hg3 r1 hD3
          have hba : ∀ {q : Prop}, (CW (fun w' => Below W4.heap.size W4 w') → q) ↔ q := CW.all (Below.refl _ W4)
          refine held_here [false, false, false, false, false, false, false, false, false, false, true] (by kernel_rfl) (by kernel_rfl) (fun _ _ _ _ _ h => h) hD5 ?_
          dsimp only [pick]
          repeat (go_big_quiet_step (fail))
          refine wpQuiet_nil ?_
          clear hba
          refine held_done (by kernel_rfl) ?_
          have HO9 := hid (ownsRow_baseX (N' := w.heap.size) r3 (unhid HG4).size)
          have HG9 := hid (grown_trans (unhid HG4) (show W4.grownBy W10 (some b) from ⟨hD5.os, hD5.tape, hD5.output, hD5.size, fun k hk _ => hD5.block k hk⟩))
          have HR9 := hid ((unhid HR4).of_below hD5)
          have HX9 := hid (show shortX (xs.take k ++ xs.drop (k + 1)) from fun y hy => by
            rcases List.mem_append.1 hy with hy | hy
            · exact unhid HX y (List.mem_of_mem_take hy)
            · exact unhid HX y (List.mem_of_mem_drop hy))
          have hyl : (xs.take k ++ xs.drop (k + 1)).length ≤ xs.length := by rw [List.length_append, htk, hdr]; omega
          clear r3 hD5 htk hdr HOT HON hocap
          generalize xs.take k ++ xs.drop (k + 1) = ys at *
          go_wp2_with fail
          go_roundw
          case rel => exact ⟨m - 1, q + 2, ys, va, vc, by go_num, by omega, by omega, rfl, HO9, HX9, HR9, HG9⟩
          case measure => simp [intOf]; omega
        · go_wp2_with fail
          go_roundw
          case rel => exact ⟨m - 1, q + 2, xs, oa, oc, by go_num, by omega, by omega, rfl, HO4, HX, HR4, HG4⟩
          case measure => simp [intOf]; omega
      · by_cases hkl : (k : Int) < (xs.length : Int)
        · obtain ⟨g, oc', hov, hgN, hocap, ⟨z, hc⟩, hf, hput⟩ := owns_put (unhid HO4) (k := k) (by omega)
          injection hov with e1 e2 e3
          subst e1
          subst e3
          clear e2
          have HP := hid (hput ⟨#[116, 117, 114, 110, 101, 100]⟩)
          clear hput
          have hgs : W4.grownBy (W4.setCell ⟨g, k, none⟩ (.string ⟨#[116, 117, 114, 110, 101, 100]⟩)) (some g) := ⟨rfl, rfl, rfl, by simp, fun k' _ hne => Below.heap_setCell W4 ⟨g, k, none⟩ _ k' (fun e => hne (by rw [e]))⟩
          have HG9 := hid (grown_own (unhid HG4) hgs (fun j e => by cases e; exact hgN))
          have HR9 := hid ((unhid HR4).grown hgs (fun j e => by cases e; omega))
          have HX9 := hid (show shortX (xs.set k ⟨#[116, 117, 114, 110, 101, 100]⟩) from fun y hy => by
            rcases List.mem_or_eq_of_mem_set hy with hy | hy
            · exact unhid HX y hy
            · rw [hy]; unfold short; decide)
          clear hgs
          go_wp2_with fail
          go_roundw
          case rel => exact ⟨m - 1, q + 2, xs.set k ⟨#[116, 117, 114, 110, 101, 100]⟩, some ⟨g, 0, none⟩, oc, by go_num, by rw [List.length_set]; omega, by omega, by rw [List.length_set], hid (by have := unhid HP; rw [List.length_set] at this ⊢; exact this), HX9, HR9, HG9⟩
          case measure => simp [intOf]; omega
        · go_wp2_with fail
          go_roundw
          case rel => exact ⟨m - 1, q + 2, xs, oa, oc, by go_num, by omega, by omega, rfl, HO4, HX, HR4, HG4⟩
          case measure => simp [intOf]; omega
    · have e : m = 0 := by omega
      subst e
      go_wp2_with fail
      go_ret
      exact ⟨_, rfl, xs, by omega, ⟨unhid HO, unhid HX, fun e => by have := ((unhid HO).lt b e).1; omega⟩, ⟨q, by omega, unhid HR⟩, unhid HG⟩
end Go.Proofs.Ytedimkcnemhhpaa

/- Rows of numbers: what they hold, in memory of their own, what is written over them. -/
namespace Go.Proofs.Ytedimkcnemhhpaa
open Go.RowKit Go.Shelf

def IntsAt (W : World) (a : Option Addr) (zs : List Int) : Prop := zs = [] ∨ ∃ b o, a = some ⟨b, o, none⟩ ∧ b < W.heap.size ∧ ∀ (i : Nat) z, zs[i]? = some z → W.cell? ⟨b, o + i, none⟩ = some (.int .i64 z)
theorem IntsAt.below {W W' : World} {a : Option Addr} {zs : List Int} (h : IntsAt W a zs) (hb : Below W.heap.size W W') : IntsAt W' a zs := by
  rcases h with h | ⟨b, o, rfl, hl, hc⟩
  · exact .inl h
  · exact .inr ⟨b, o, rfl, Nat.lt_of_lt_of_le hl hb.size, fun i x hi => (hb.cell (p := ⟨b, o + i, none⟩) hl).trans (hc i x hi)⟩
theorem IntsAt.get {W : World} {a : Option Addr} {zs : List Int} (h : IntsAt W a zs) (hne : zs ≠ []) : ∃ b o, a = some ⟨b, o, none⟩ ∧ b < W.heap.size ∧ ∀ (i : Nat) z, zs[i]? = some z → W.cell? ⟨b, o + i, none⟩ = some (.int .i64 z) := h.resolve_left hne
def IntOwn (W : World) (v : Value) (zs : List Int) (F : List Nat) : Prop := (zs = [] ∧ F = [] ∧ ∃ a c, v = .slice a 0 c ∧ (a = none → c = 0)) ∨
  ∃ g cap cur, F = [g] ∧ v = .slice (some ⟨g, 0, none⟩) zs.length cap ∧ W.heap[g]? = some (.cells cur 3 (0, 0)) ∧ zs.length ≤ cap ∧ zs.length ≤ cur.size ∧ ∀ (i : Nat) z, zs[i]? = some z → cur[i]? = some (.int .i64 z)
theorem IntOwn.frame {W W' : World} {v : Value} {zs : List Int} {F : List Nat} (h : IntOwn W v zs F) (hf : ∀ k ∈ F, W'.heap[k]? = W.heap[k]?) : IntOwn W' v zs F := by
  rcases h with h | ⟨g, cap, cur, rfl, hv, hh, h1, h2, h3⟩
  · exact .inl h
  · exact .inr ⟨g, cap, cur, rfl, hv, (hf g (by simp)).trans hh, h1, h2, h3⟩
theorem IntOwn.lt {W : World} {v : Value} {zs : List Int} {F : List Nat} (h : IntOwn W v zs F) : ∀ k ∈ F, k < W.heap.size := by
  rcases h with ⟨_, rfl, _⟩ | ⟨g, cap, cur, rfl, hv, hh, _⟩
  · intro k hk; cases hk
  · intro k hk; rcases List.mem_singleton.1 hk with rfl; exact (Array.getElem?_eq_some_iff.1 hh).1
theorem IntOwn.read {W : World} {v : Value} {zs : List Int} {F : List Nat} (h : IntOwn W v zs F) : ∃ a cap, v = .slice a zs.length cap ∧ IntsAt W a zs := by
  rcases h with ⟨rfl, _, a, c, hv, hn⟩ | ⟨g, cap, cur, rfl, hv, hh, h1, h2, h3⟩
  · exact ⟨a, c, hv, .inl rfl⟩
  · refine ⟨_, cap, hv, .inr ⟨g, 0, rfl, (Array.getElem?_eq_some_iff.1 hh).1, fun i x hi => ?_⟩⟩
    have := h3 i x hi
    simp [World.cell?, hh, this]
theorem IntOwn.of_owns {W : World} {N n : Nat} {v : Value} {zs : List Int} (h : W.ownsRow N 3 1 v n (zs.map (Value.int .i64))) : IntOwn W v zs v.ownBlock.toList ∧ ∀ k ∈ v.ownBlock.toList, N ≤ k ∧ k < W.heap.size := by
  have hn : n = zs.length := by have := h.1; simpa using this.symm
  subst hn
  rcases h.2 with ⟨rfl, h0⟩ | ⟨g, cap, cur, rfl, hg, hh, hc, hm, hsz, hcur⟩
  · exact ⟨.inl ⟨List.length_eq_zero_iff.1 h0, rfl, none, 0, rfl, fun _ => rfl⟩, fun k hk => by cases hk⟩
  · refine ⟨.inr ⟨g, cap, cur, rfl, rfl, hh, hc, by omega, fun i x hi => ?_⟩, fun k hk => ?_⟩
    · have hl : i < zs.length := (List.getElem?_eq_some_iff.1 hi).1
      rw [← Array.getElem?_toList, ← List.getElem?_take_of_lt (l := cur.toList) (i := i) (j := zs.length * 1) (by omega), hcur, List.getElem?_map, hi]; rfl
    · rcases List.mem_singleton.1 hk with rfl
      exact ⟨hg, (Array.getElem?_eq_some_iff.1 hh).1⟩
def intK : Kind := ⟨List Int, IntOwn, IntOwn.frame, IntOwn.lt⟩
def mints (q n : Nat) : List Int := (List.range n).map fun i => ((q + i : Nat) : Int)
theorem mints_len (q n : Nat) : (mints q n).length = n := by simp [mints]
theorem mints_get {q n i : Nat} (h : i < n) : (mints q n)[i]? = some ((q + i : Nat) : Int) := by simp [mints, h]
def intFn (zs : List Int) (i : Nat) : Int := zs.getD i 0
theorem intFn_get {zs : List Int} {i : Nat} {z : Int} (h : zs[i]? = some z) : intFn zs i = z := by unfold intFn; rw [List.getD_eq_getElem?_getD, h]; rfl
theorem intFn_some {zs : List Int} {i : Nat} (h : i < zs.length) : zs[i]? = some (intFn zs i) := by rw [intFn_get (List.getElem?_eq_getElem h)]; exact List.getElem?_eq_getElem h

set_option maxRecDepth 100000 in
set_option maxHeartbeats 2000000 in
theorem markIntS_own (zs : List Int) (v : Value) (F : List Nat) (q : Nat) (w : World) (hn : zs.length ≤ 1048576) (hq2 : q ≤ 20000000) (h : IntOwn w v zs F) :
    Calls Try.prog 31 #[v, .int .i64 (q : Int)] w fun x w' => x = .returned (.int .i64 ((q + zs.length : Nat) : Int)) ∧ IntOwn w' v (mints q zs.length) F ∧ Only F w w' := by
  rcases h with ⟨rfl, rfl, a, c, rfl, hnil⟩ | ⟨g, cap, cur, rfl, rfl, hh, h1, h2, h3⟩
  · go_enter Try.func31, Try.ntmps31
    go_wp2_with fail
    go_loopw [1, 5] (fun c i wr => i = .int .i64 0 ∧ c = .int .i64 (q : Int) ∧ wr = w) (fun _ i _ => 0)
    case atStart => exact ⟨rfl, rfl, rfl⟩
    case round =>
      obtain ⟨rfl, rfl, rfl⟩ := hrel
      go_wp2_with fail
      go_ret
      exact ⟨ret_int (by simp), .inl ⟨by simp [mints], rfl, a, c, rfl, hnil⟩, Only.refl _ _⟩
  · have HH := hid (And.intro hh (And.intro h2 h3))
    clear hh h2 h3
    go_enter Try.func31, Try.ntmps31
    go_wp2_with fail
    go_loopw [1, 5] (fun c i wr => ∃ k : Nat, k ≤ zs.length ∧ i = .int .i64 (k : Int) ∧ c = .int .i64 ((q + k : Nat) : Int) ∧ Hid (∃ cur2 : Array Value, wr.heap[g]? = some (.cells cur2 3 (0, 0)) ∧ zs.length ≤ cur2.size ∧ (∀ i, i < k → cur2[i]? = some (.int .i64 ((q + i : Nat) : Int)))) ∧ Hid (Only [g] w wr)) (fun _ i _ => zs.length - (intOf i).toNat)
    case atStart => exact ⟨0, Nat.zero_le _, rfl, by go_num, hid ⟨cur, (unhid HH).1, (unhid HH).2.1, fun i hi => absurd hi (Nat.not_lt_zero _)⟩, hid (Only.refl _ _)⟩
    case round =>
      obtain ⟨k, hk, rfl, rfl, HC, HO⟩ := hrel
      by_cases hlt : k < zs.length
      · obtain ⟨cur2, e1, e2, e3⟩ := unhid HC
        obtain ⟨y, hy⟩ : ∃ y, cur2[k]? = some y := ⟨cur2[k], Array.getElem?_eq_getElem (by omega)⟩
        have c0 : wr.cell? ⟨g, k, none⟩ = some y := by simp [World.cell?, e1, hy]
        have f0 : wr.frozen? ⟨g, k, none⟩ = false := by simp [World.frozen?, e1]
        have HN := hid (heap_setCell_same wr g k cur2 3 (.int .i64 ((q : Int) + (k : Int))) e1)
        have HO2 := hid ((unhid HO).setCell (p := ⟨g, k, none⟩) (by simp) (.int .i64 ((q : Int) + (k : Int))))
        have HE := hid (And.intro e2 e3)
        clear e1 e2 e3 hy HC HO
        go_wp2_with fail
        go_roundw
        case rel =>
          refine ⟨k + 1, by omega, by go_num, by go_num, hid ⟨_, unhid HN, by simpa using (unhid HE).1, fun i hi => ?_⟩, HO2⟩
          simp only [Array.getElem?_setIfInBounds]
          have := (unhid HE).1
          by_cases ei : i = k
          · subst ei; rw [if_pos rfl, if_pos (by omega)]; rfl
          · rw [if_neg (by omega)]; exact (unhid HE).2 i (by omega)
        case measure => simp [intOf]; omega
      · have e : k = zs.length := by omega
        subst e
        go_wp2_with fail
        go_ret
        refine ⟨ret_int (by go_num), ?_, unhid HO⟩
        obtain ⟨cur2, e1, e2, e3⟩ := unhid HC
        refine .inr ⟨g, cap, cur2, rfl, by rw [mints_len], e1, by rw [mints_len]; exact h1, by rw [mints_len]; exact e2, fun i x hi => ?_⟩
        have hl : i < zs.length := by have := (List.getElem?_eq_some_iff.1 hi).1; rwa [mints_len] at this
        rw [mints_get hl] at hi
        cases hi
        exact e3 i hl

set_option maxRecDepth 100000 in
set_option maxHeartbeats 2000000 in
theorem heldIntS_at (n : Nat) (a : Option Addr) (cap q : Nat) (w : World) (hn : n ≤ 1048576) (hq2 : q ≤ 20000000) (h : IntsAt w a (mints q n)) :
    Calls Try.prog 33 #[.slice a n cap, .int .i64 (q : Int)] w fun x w' => x = .returned (.int .i64 ((q + n : Nat) : Int)) ∧ Below w.heap.size w w' := by
  go_enter Try.func33, Try.ntmps33
  go_wp2_with fail
  go_loop [1, 5] (fun c i => ∃ k : Nat, k ≤ n ∧ i = .int .i64 (k : Int) ∧ c = .int .i64 ((q + k : Nat) : Int)) (fun _ i => n - (intOf i).toNat)
  case atStart => exact ⟨0, Nat.zero_le _, rfl, by go_num⟩
  case round =>
    obtain ⟨k, hk, rfl, rfl⟩ := hrel
    by_cases hlt : k < n
    · have he := mints_get (q := q) hlt
      obtain ⟨b, o, rfl, hbl, hc⟩ := h.get (by intro e; rw [e] at he; cases he)
      have c0 : w.cell? ⟨b, o + k, none⟩ = some (.int .i64 ((q : Int) + (k : Int))) := by rw [hc k _ he]; rfl
      have HH := hid hc
      have hq : (((q : Int) + (k : Int)) != ((q : Int) + (k : Int))) = false := by simp
      clear hc he h
      go_wp2_with fail
      exact ⟨⟨k + 1, by omega, by go_num, by go_num⟩, by simp [intOf]; omega⟩
    · have e : k = n := by omega
      subst e
      go_wp2_with fail
      go_ret
      exact ⟨ret_int (by go_num), Below.refl _ _⟩

set_option maxRecDepth 100000 in
set_option maxHeartbeats 2000000 in
theorem eqIntS_same (zs : List Int) (a b : Option Addr) (cap cap2 : Nat) (w : World) (hx : zs.length ≤ maxLen) (h : IntsAt w a zs) (h2 : IntsAt w b zs) :
    Calls Try.prog 30 #[.slice a zs.length cap, .slice b zs.length cap2] w fun r w' => r = .returned (.bool true) ∧ Below w.heap.size w w' := by
  unfold maxLen at hx
  have hl' : ((zs.length : Int) != (zs.length : Int)) = false := by simp
  go_enter Try.func30, Try.ntmps30
  go_wp2_with fail
  go_loopw [5] (fun i wr => ∃ k : Nat, k ≤ zs.length ∧ i = .int .i64 k ∧ Below w.heap.size w wr) (fun i _ => zs.length - (intOf i).toNat)
  case atStart => exact ⟨0, Nat.zero_le _, rfl, Below.refl _ _⟩
  case round =>
    obtain ⟨k, hk, rfl, hB⟩ := hrel
    by_cases hlt : k < zs.length
    · have he := intFn_some hlt
      generalize intFn zs k = z at he
      obtain ⟨bb, o, rfl, hbl, hc⟩ := h.get (by intro e; subst e; simp at hlt)
      obtain ⟨bb2, o2, rfl, hbl2, hc2⟩ := h2.get (by intro e; subst e; simp at hlt)
      have c0 := (hB.cell (p := ⟨bb, o + k, .none⟩) hbl).trans (hc k z he)
      have d0 := (hB.cell (p := ⟨bb2, o2 + k, .none⟩) hbl2).trans (hc2 k z he)
      have HB := hid hB
      have HH := hid (And.intro h (And.intro h2 (And.intro hc hc2)))
      have hq : (z != z) = false := by simp
      clear hc hc2 hB he h h2
      go_wp2_with fail
      go_quiet (fail)
      go_wp2_with fail
      go_roundw
      case rel => exact ⟨k + 1, by omega, by go_num, ⟨(unhid HB).os, (unhid HB).tape, (unhid HB).output, (unhid HB).size, (unhid HB).block⟩⟩
      case measure => simp [intOf]; omega
    · have e : k = zs.length := by omega
      subst e
      go_wp2_with fail
      go_ret
      exact ⟨rfl, hB⟩
end Go.Proofs.Ytedimkcnemhhpaa

/- The laws' own copies of rows, in memory of their own. -/
namespace Go.Proofs.Ytedimkcnemhhpaa
open Go.RowKit Go.Shelf

theorem toStringS_own (xs : List ByteArray) (a : Option Addr) (cap : Nat) (w : World) (hlen : xs.length ≤ 1048576) (h : TxtsAt w a xs) :
    Calls Try.prog 22 #[.slice a xs.length cap] w fun x w' => ∃ g, x = .returned (.slice (some ⟨g, 0, .none⟩) xs.length xs.length) ∧ txtK.In w' (.slice (some ⟨g, 0, .none⟩) xs.length xs.length) xs w.heap.size w'.heap.size ∧ Below w.heap.size w w' :=
  (toStringS_any xs a cap w hlen h).mono fun _ _ ⟨g, h1, h2, h3, h4⟩ => ⟨g, h1, ⟨[g], TxtOwn.of_row h3 rfl, fun k hk => by rcases List.mem_singleton.1 hk with rfl; exact ⟨h2, h3.lt⟩⟩, h4⟩

set_option maxRecDepth 100000 in
set_option maxHeartbeats 2000000 in
theorem toHunk_row (h : Hk) (la : Option Addr) (cap : Nat) (w : World) (hlen : h.lines.length ≤ 1048576) (ht : TxtsAt w la h.lines) :
    Calls Try.prog 47 #[.agg #[.int .i64 h.at_, .slice la h.lines.length cap]] w fun x w' => ∃ g, x = .returned (.agg #[.int .i64 h.at_, .slice (some ⟨g, 0, .none⟩) h.lines.length h.lines.length]) ∧ w.heap.size ≤ g ∧ TxtRow w' g 9 h.lines.length (txtFn h.lines) ∧ Below w.heap.size w w' := by
  have HT := hid ht
  clear ht
  obtain ⟨at_, lines⟩ := h
  dsimp only at HT hlen ⊢
  have hs1 : ∀ o, (w.alloc o).heap.size = w.heap.size + 1 := fun o => by simp
  have hs2 : ∀ o o', ((w.alloc o).alloc o').heap.size = w.heap.size + 1 + 1 := fun o o' => by simp
  have hs3 : ∀ o o' o'', (((w.alloc o).alloc o').alloc o'').heap.size = w.heap.size + 1 + 1 + 1 := fun o o' o'' => by simp
  have hB : ∀ o o' o'', Below w.heap.size w (((w.alloc o).alloc o').alloc o'') := fun o o' o'' => (((Below.refl _ w).alloc (Nat.le_refl _) o).alloc (by simp) o').alloc (by simp; omega) o''
  have hR : ∀ o o'', TwoAt (((w.alloc o).alloc (.cells #[.int .i64 0, .slice none 0 0] 46)).alloc o'') (w.heap.size + 1) 0 (.slice none 0 0) := fun o o'' => by
    have h1 := twoAt_new (w.alloc o) 0 (.slice none 0 0) 46
    have h2 := h1.below ((Below.refl _ _).alloc (Nat.le_refl _) o'') (by rw [hs1, hs2]; omega)
    rwa [hs1] at h2
  have hO : ∀ o o', TwoAt (((w.alloc o).alloc o').alloc (.cells #[.int .i64 at_, .slice none 0 0] 46)) (w.heap.size + 1 + 1) at_ (.slice none 0 0) := fun o o' => by
    have h1 := twoAt_new ((w.alloc o).alloc o') at_ (.slice none 0 0) 46
    rwa [hs2] at h1
  have HB := hid hB
  have HR := hid hR
  have HO := hid hO
  have HS3 := hid hs3
  clear hB hR hO hs1 hs2 hs3
  go_enter Try.func47, Try.ntmps47
  go_wp2_with fail
  refine (toStringS_any lines la cap _ hlen ((unhid HT).below (unhid HB _ _ _))).mono ?_
  rintro x w1 ⟨g, rfl, hg, hrow, hb⟩
  have B1 := hid ((unhid HB _ _ _).trans (hb.mono (unhid HB _ _ _).size))
  obtain ⟨⟨c0, f0⟩, c1, f1⟩ := (unhid HR _ _).below hb (by rw [unhid HS3]; omega)
  obtain ⟨⟨d0, g0⟩, d1, g1⟩ := (unhid HO _ _).below hb (by rw [unhid HS3]; omega)
  rw [unhid HS3] at hg
  have HRow := hid hrow
  clear hb HB HR HO HS3 hrow
  go_wp2_with fail
  refine bodyPost_ret (v := .agg #[.int .i64 at_, .slice (some ⟨g, 0, .none⟩) lines.length lines.length]) (by simp [results, Try.results47, go_sem, World.cell?_setCell_same', c0, c1]) rfl ⟨g, rfl, by omega, ?_, ?_⟩
  · refine (unhid HRow).block ?_
    rw [Below.heap_setCell _ _ _ _ (by dsimp only; omega), Below.heap_setCell _ _ _ _ (by dsimp only; omega), Below.heap_setCell _ _ _ _ (by dsimp only; omega)]
  · exact (((unhid B1).setCell (by dsimp only; omega) _).setCell (by dsimp only; omega) _).setCell (by dsimp only; omega) _

/-- The first k hunks are copied. -/
structure HkPart (W : World) (g n k : Nat) (hs : List Hk) (Fs : List (List Nat)) : Prop where
  all : ∃ cur : Array Value, HkAll W g (hs.take k) cur Fs ∧ cur.size = n * 2
  nodup : (g :: Fs.flatten).Nodup
theorem take_get {hs : List Hk} {k i : Nat} {h : Hk} (e : (hs.take k)[i]? = some h) : i < k ∧ hs[i]? = some h := by
  rw [List.getElem?_take] at e
  split at e
  · exact ⟨by assumption, e⟩
  · cases e

set_option maxRecDepth 100000 in
set_option maxHeartbeats 2000000 in
theorem toHunkS_own (hs : List Hk) (a : Option Addr) (cap : Nat) (w : World) (hlen : hs.length ≤ 1048576) (hz : ∀ h ∈ hs, h.lines.length ≤ 1048576) (h : HksAt w a hs) :
    Calls Try.prog 17 #[.slice a hs.length cap] w fun x w' => ∃ g, x = .returned (.slice (some ⟨g, 0, .none⟩) hs.length hs.length) ∧ hkK.In w' (.slice (some ⟨g, 0, .none⟩) hs.length hs.length) hs w.heap.size w'.heap.size ∧ Below w.heap.size w w' := by
  obtain ⟨M, hmk, hrow⟩ := mkHunks w hs.length hlen
  have HR := hid hrow
  have HZ := hid hz
  clear hrow hz
  go_enter Try.func17, Try.ntmps17
  go_wp2_with fail
  clear hmk
  have hB0 : Below w.heap.size w (w.alloc (.cells M 46)) := (Below.refl _ _).alloc (Nat.le_refl _) _
  generalize w.alloc (.cells M 46) = wq at HR hB0 ⊢
  go_loopw [4] (fun i wr => ∃ k : Nat, k ≤ hs.length ∧ i = .int .i64 k ∧ Hid (∃ Fs, HkPart wr w.heap.size hs.length k hs Fs ∧ ∀ j ∈ Fs.flatten, w.heap.size < j) ∧ Below w.heap.size w wr) (fun i _ => hs.length - (intOf i).toNat)
  case atStart =>
    obtain ⟨cur, h1, h2, h3⟩ := unhid HR
    exact ⟨0, Nat.zero_le _, rfl, hid ⟨[], ⟨⟨cur, ⟨h1, by simp, by simp, fun i x hi => by simp at hi⟩, h2⟩, by simp⟩, fun j hj => by simp at hj⟩, hB0⟩
  case round =>
    clear HR hB0
    obtain ⟨k, hk, rfl, HD, hB⟩ := hrel
    by_cases hlt : k < hs.length
    · obtain ⟨e, he⟩ : ∃ e, hs[k]? = some e := ⟨hs[k], List.getElem?_eq_getElem hlt⟩
      obtain ⟨b, o, rfl, hbl, hc⟩ := h.get (by intro e; subst e; simp at hlt)
      obtain ⟨la, lc, c0, c1, ht⟩ := (hc k e he).below hB hbl
      have zl := unhid HZ e (List.mem_of_getElem? he)
      have HS := hid he
      have HB := hid hB
      have HH := hid hc
      have HT := hid ht
      have ZL := hid zl
      clear hc hB he h ht zl
      go_wp2_with fail
      refine (toHunk_row e la lc _ (unhid ZL) (unhid HT)).mono ?_
      rintro x w2 ⟨g2, rfl, hg2, hrow2, hb⟩
      obtain ⟨Fs, ⟨⟨cur, hA, hsz⟩, hnd⟩, hFs⟩ := unhid HD
      have hA2 := hA.frame (fun j hj => hb.block j (hA.lt j hj))
      have d0' : ∃ y, cur[k * 2]? = some y := ⟨cur[k * 2]'(by omega), Array.getElem?_eq_getElem (by omega)⟩
      have d1' : ∃ y, cur[k * 2 + 1]? = some y := ⟨cur[k * 2 + 1]'(by omega), Array.getElem?_eq_getElem (by omega)⟩
      obtain ⟨y0, e0⟩ := d0'
      obtain ⟨y1, e1⟩ := d1'
      have d0 := cell_arr hA2.heap _ _ e0
      have d1 := cell_arr hA2.heap _ _ e1
      have f0 : w2.frozen? ⟨w.heap.size, k * 2, none⟩ = false := by simp [World.frozen?, hA2.heap]
      have f1 : w2.frozen? ⟨w.heap.size, k * 2 + 1, none⟩ = false := by simp [World.frozen?, hA2.heap]
      have hgl : w.heap.size < wr.heap.size := (Array.getElem?_eq_some_iff.1 hA.heap).1
      have HF := hid (show ∃ Fs', HkPart ((w2.setCell ⟨w.heap.size, k * 2, none⟩ (.int .i64 e.at_)).setCell ⟨w.heap.size, k * 2 + 1, none⟩ (.slice (some ⟨g2, 0, none⟩) e.lines.length e.lines.length)) w.heap.size hs.length (k + 1) hs Fs' ∧ ∀ j ∈ Fs'.flatten, w.heap.size < j by
        have hoth : ∀ j, j ≠ w.heap.size → ((w2.setCell ⟨w.heap.size, k * 2, none⟩ (.int .i64 e.at_)).setCell ⟨w.heap.size, k * 2 + 1, none⟩ (.slice (some ⟨g2, 0, none⟩) e.lines.length e.lines.length)).heap[j]? = w2.heap[j]? := fun j hj => (Below.heap_setCell _ _ _ _ hj).trans (Below.heap_setCell _ _ _ _ hj)
        have hfl : ∀ j ∈ Fs.flatten, j < wr.heap.size := fun j hj => hA.lt j (List.mem_cons_of_mem _ hj)
        have hl1 : (hs.take (k + 1)).length = k + 1 := by rw [List.length_take]; omega
        have hl0 : (hs.take k).length = k := by rw [List.length_take]; omega
        have hFl : Fs.length = k := by rw [hA.len, hl0]
        refine ⟨Fs ++ [[g2]], ⟨⟨(cur.setIfInBounds (k * 2) (.int .i64 e.at_)).setIfInBounds (k * 2 + 1) (.slice (some ⟨g2, 0, none⟩) e.lines.length e.lines.length), ⟨heap_setCell_same _ _ _ _ _ _ (heap_setCell_same _ _ _ _ _ _ hA2.heap), by rw [hl1, Array.size_setIfInBounds, Array.size_setIfInBounds]; omega, by rw [List.length_append, hFl, hl1]; rfl, fun i x hi => ?_⟩, by rw [Array.size_setIfInBounds, Array.size_setIfInBounds]; exact hsz⟩, ?_⟩, fun j hj => ?_⟩
        · obtain ⟨hik, hix⟩ := take_get hi
          by_cases eik : i = k
          · subst eik
            rw [unhid HS] at hix
            cases hix
            refine ⟨.slice (some ⟨g2, 0, none⟩) e.lines.length e.lines.length, [g2], by rw [List.getElem?_append_right (by omega), hFl, Nat.sub_self]; rfl, ?_, ?_, ?_⟩
            · rw [Array.getElem?_setIfInBounds, if_neg (by omega), Array.getElem?_setIfInBounds, if_pos rfl, if_pos (by omega)]
            · rw [Array.getElem?_setIfInBounds, if_pos rfl, if_pos (by rw [Array.size_setIfInBounds]; omega)]
            · exact (TxtOwn.of_row hrow2 rfl).frame (fun j hj => by rcases List.mem_singleton.1 hj with rfl; exact hoth _ (by omega))
          · obtain ⟨lv, Fj, g1, q2, q3, q4⟩ := hA2.each i x (by rw [List.getElem?_take_of_lt (by omega)]; exact hix)
            refine ⟨lv, Fj, by rw [List.getElem?_append_left (by omega)]; exact g1, ?_, ?_, ?_⟩
            · rw [Array.getElem?_setIfInBounds, if_neg (by omega), Array.getElem?_setIfInBounds, if_neg (by omega)]; exact q2
            · rw [Array.getElem?_setIfInBounds, if_neg (by omega), Array.getElem?_setIfInBounds, if_neg (by omega)]; exact q3
            · exact q4.frame (fun j hj => hoth j (by have := hFs j (mem_flat g1 hj); omega))
        · rw [List.flatten_append, List.nodup_cons] at *
          simp only [List.flatten_cons, List.flatten_nil, List.append_nil]
          rw [List.nodup_append]
          refine ⟨fun hm => ?_, hnd.2, by simp, fun x hx y hy => ?_⟩
          · rcases List.mem_append.1 hm with hm | hm
            · exact hnd.1 hm
            · have := List.mem_singleton.1 hm; omega
          · have := hfl x hx; have := List.mem_singleton.1 hy; omega
        · rw [List.flatten_append] at hj
          rcases List.mem_append.1 hj with hj | hj
          · exact hFs j hj
          · simp at hj; omega)
      have HB2 := hid ((unhid HB).trans (hb.mono (unhid HB).size))
      clear hb c0 c1 hA hA2 hrow2 HD hsz e0 e1 hFs hnd
      go_wp2_with fail
      go_roundw
      case rel => exact ⟨k + 1, by omega, by go_num, HF, ((unhid HB2).setCell (Nat.le_refl _) _).setCell (Nat.le_refl _) _⟩
      case measure => simp [intOf]; omega
    · have e : k = hs.length := by omega
      subst e
      go_wp2_with fail
      go_ret
      obtain ⟨Fs, ⟨⟨cur, hA, hsz⟩, hnd⟩, hFs⟩ := unhid HD
      rw [List.take_of_length_le (Nat.le_refl _)] at hA
      refine ⟨w.heap.size, rfl, ⟨w.heap.size :: Fs.flatten, .inr ⟨w.heap.size, hs.length, cur, Fs, rfl, Nat.le_refl _, rfl, hnd, hA⟩, fun j hj => ⟨?_, hA.lt j hj⟩⟩, hB⟩
      rcases List.mem_cons.1 hj with rfl | hj
      · exact Nat.le_refl _
      · exact Nat.le_of_lt (hFs j hj)
end Go.Proofs.Ytedimkcnemhhpaa

/- Rows of texts, of numbers and of hunks, each in memory of its own, in one form: copied, held against each other, written over, and held against what was written. -/
namespace Go.Proofs.Ytedimkcnemhhpaa
open Go.RowKit Go.Shelf

theorem fresh_frame {K : Kind} {W W' : World} {v : Value} {d : K.D} {F : List Nat} (h : K.own W v d F) (hb : Below W.heap.size W W') : K.own W' v d F := K.frame h (fun k hk => hb.block k (K.lt h k hk))
theorem only_frame {K : Kind} {W W' : World} {v : Value} {d : K.D} {F G : List Nat} (h : K.own W v d F) (ho : Only G W W') (hd : ∀ k ∈ F, k ∉ G) : K.own W' v d F := K.frame h (fun k hk => ho.block k (K.lt h k hk) (hd k hk))
def smallX (xs : List ByteArray) : Prop := xs.length ≤ 1048576 ∧ ∀ x ∈ xs, x.size ≤ 1048576
theorem smallX_of {xs : List ByteArray} (h : xs.length + totX xs ≤ 1048576) : smallX xs := ⟨by omega, fun x hx => by have := totX_mem hx; omega⟩
theorem smallX_big {xs : List ByteArray} (h : smallX xs) : bigX xs := fun x hx => Nat.le_trans (h.2 x hx) (by simp [maxLen])
theorem smallX_len {xs : List ByteArray} (h : smallX xs) : xs.length ≤ maxLen := Nat.le_trans h.1 (by simp [maxLen])
def cnt_x (xs : List ByteArray) : Nat := xs.length
def mk_x (q : Nat) (xs : List ByteArray) : List ByteArray := mtexts q xs.length
theorem to_x (xs : List ByteArray) (a : Option Addr) (cap : Nat) (W : World) (hs : smallX xs) (h : TxtsAt W a xs) :
    Calls Try.prog 22 #[.slice a xs.length cap] W fun r W' => ∃ v F, r = .returned v ∧ txtK.own W' v xs F ∧ (∀ k ∈ F, W.heap.size ≤ k ∧ k < W'.heap.size) ∧ Below W.heap.size W W' :=
  (toStringS_own xs a cap W hs.1 h).mono fun _ _ ⟨_, h1, ⟨F, h2, h3⟩, h4⟩ => ⟨_, F, h1, h2, h3, h4⟩
theorem eq_x (xs : List ByteArray) (v v' : Value) (F F' : List Nat) (W : World) (hs : smallX xs) (h : txtK.own W v xs F) (h' : txtK.own W v' xs F') :
    Calls Try.prog 24 #[v, v'] W fun r W' => r = .returned (.bool true) ∧ Below W.heap.size W W' := by
  obtain ⟨a, cap, rfl, h1, _⟩ := TxtOwn.read h
  obtain ⟨a', cap', rfl, h2, _⟩ := TxtOwn.read h'
  exact eqStringS_same xs a a' cap cap' W (smallX_len hs) h1 h2
theorem mark_x (xs : List ByteArray) (v : Value) (F : List Nat) (q : Nat) (c : Int) (hcq : c = (q : Int)) (W : World) (hs : smallX xs) (hq : 0 < q) (hq2 : q ≤ 10000000) (h : txtK.own W v xs F) :
    Calls Try.prog 25 #[v, .int .i64 c] W fun r W' => r = .returned (.int .i64 ((q + cnt_x xs : Nat) : Int)) ∧ txtK.own W' v (mk_x q xs) F ∧ Only F W W' := by
  subst hcq
  exact markStringS_own xs v F q W hs.1 hq (by omega) h
theorem held_x (xs : List ByteArray) (v : Value) (F : List Nat) (q : Nat) (c : Int) (hcq : c = (q : Int)) (W : World) (hs : smallX xs) (hq : 0 < q) (hq2 : q ≤ 10000000) (h : txtK.own W v (mk_x q xs) F) :
    Calls Try.prog 32 #[v, .int .i64 c] W fun r W' => r = .returned (.int .i64 ((q + cnt_x xs : Nat) : Int)) ∧ Below W.heap.size W W' := by
  subst hcq
  obtain ⟨a, cap, rfl, h1, _⟩ := TxtOwn.read h
  have := heldStringS_at xs.length a cap q W hs.1 hq (by omega) h1
  have e : (mk_x q xs).length = xs.length := mtexts_len _ _
  rw [e]; exact this

def smallZ (zs : List Int) : Prop := zs.length ≤ 1048576
def cnt_z (zs : List Int) : Nat := zs.length
def mk_z (q : Nat) (zs : List Int) : List Int := mints q zs.length
theorem eq_z (zs : List Int) (v v' : Value) (F F' : List Nat) (W : World) (hs : smallZ zs) (h : intK.own W v zs F) (h' : intK.own W v' zs F') :
    Calls Try.prog 30 #[v, v'] W fun r W' => r = .returned (.bool true) ∧ Below W.heap.size W W' := by
  obtain ⟨a, cap, rfl, h1⟩ := IntOwn.read h
  obtain ⟨a', cap', rfl, h2⟩ := IntOwn.read h'
  exact eqIntS_same zs a a' cap cap' W (Nat.le_trans hs (by simp [maxLen])) h1 h2
theorem mark_z (zs : List Int) (v : Value) (F : List Nat) (q : Nat) (c : Int) (hcq : c = (q : Int)) (W : World) (hs : smallZ zs) (_hq : 0 < q) (hq2 : q ≤ 10000000) (h : intK.own W v zs F) :
    Calls Try.prog 31 #[v, .int .i64 c] W fun r W' => r = .returned (.int .i64 ((q + cnt_z zs : Nat) : Int)) ∧ intK.own W' v (mk_z q zs) F ∧ Only F W W' := by
  subst hcq
  exact markIntS_own zs v F q W hs (by omega) h
theorem held_z (zs : List Int) (v : Value) (F : List Nat) (q : Nat) (c : Int) (hcq : c = (q : Int)) (W : World) (hs : smallZ zs) (_hq : 0 < q) (hq2 : q ≤ 10000000) (h : intK.own W v (mk_z q zs) F) :
    Calls Try.prog 33 #[v, .int .i64 c] W fun r W' => r = .returned (.int .i64 ((q + cnt_z zs : Nat) : Int)) ∧ Below W.heap.size W W' := by
  subst hcq
  obtain ⟨a, cap, rfl, h1⟩ := IntOwn.read h
  have := heldIntS_at zs.length a cap q W hs (by omega) h1
  have e : (mk_z q zs).length = zs.length := mints_len _ _
  rw [e]; exact this

def smallK (hs : List Hk) : Prop := hs.length ≤ 1048576 ∧ cntH hs ≤ 2097152 ∧ ∀ h ∈ hs, smallX h.lines
theorem smallK_of {hs : List Hk} (h : hs.length + totH hs ≤ 1048576) : smallK hs := by
  have := totH_cnt hs
  refine ⟨by omega, by omega, fun x hx => smallX_of (by have := totH_mem hx; omega)⟩
theorem smallK_lines {hs : List Hk} (h : smallK hs) : ∀ x ∈ hs, x.lines.length ≤ 1048576 := fun x hx => (h.2.2 x hx).1
theorem smallK_big {hs : List Hk} (h : smallK hs) : bigH hs := fun x hx => ⟨smallX_big (h.2.2 x hx), smallX_len (h.2.2 x hx)⟩
def cnt_h (hs : List Hk) : Nat := cntH hs
def mk_h (q : Nat) (hs : List Hk) : List Hk := markH q hs
theorem to_h (hs : List Hk) (a : Option Addr) (cap : Nat) (W : World) (hsm : smallK hs) (h : HksAt W a hs) :
    Calls Try.prog 17 #[.slice a hs.length cap] W fun r W' => ∃ v F, r = .returned v ∧ hkK.own W' v hs F ∧ (∀ k ∈ F, W.heap.size ≤ k ∧ k < W'.heap.size) ∧ Below W.heap.size W W' :=
  (toHunkS_own hs a cap W hsm.1 (smallK_lines hsm) h).mono fun _ _ ⟨_, h1, ⟨F, h2, h3⟩, h4⟩ => ⟨_, F, h1, h2, h3, h4⟩
theorem eq_h (hs : List Hk) (v v' : Value) (F F' : List Nat) (W : World) (hsm : smallK hs) (h : hkK.own W v hs F) (h' : hkK.own W v' hs F') :
    Calls Try.prog 19 #[v, v'] W fun r W' => r = .returned (.bool true) ∧ Below W.heap.size W W' := by
  obtain ⟨a, cap, rfl, h1⟩ := HkOwn.read h
  obtain ⟨a', cap', rfl, h2⟩ := HkOwn.read h'
  exact eqHunkS_same hs a a' cap cap' W (Nat.le_trans hsm.1 (by simp [maxLen])) (fun x hx => smallX_len (hsm.2.2 x hx)) h1 h2
theorem mark_h (hs : List Hk) (v : Value) (F : List Nat) (q : Nat) (c : Int) (hcq : c = (q : Int)) (W : World) (hsm : smallK hs) (hq : 0 < q) (hq2 : q ≤ 10000000) (h : hkK.own W v hs F) :
    Calls Try.prog 26 #[v, .int .i64 c] W fun r W' => r = .returned (.int .i64 ((q + cnt_h hs : Nat) : Int)) ∧ hkK.own W' v (mk_h q hs) F ∧ Only F W W' := by
  subst hcq
  exact markHunkS_own hs v F q W hsm.1 hsm.2.1 (smallK_lines hsm) hq hq2 h
theorem held_h (hs : List Hk) (v : Value) (F : List Nat) (q : Nat) (c : Int) (hcq : c = (q : Int)) (W : World) (hsm : smallK hs) (hq : 0 < q) (hq2 : q ≤ 10000000) (h : hkK.own W v (mk_h q hs) F) :
    Calls Try.prog 27 #[v, .int .i64 c] W fun r W' => r = .returned (.int .i64 ((q + cnt_h hs : Nat) : Int)) ∧ Below W.heap.size W W' := by
  subst hcq
  obtain ⟨a, cap, rfl, h1⟩ := HkOwn.read h
  have := heldHunkS_at hs a cap q W hsm.1 hsm.2.1 (smallK_lines hsm) hq hq2 h1
  have e : (mk_h q hs).length = hs.length := markH_len _ _
  rw [e]; exact this
end Go.Proofs.Ytedimkcnemhhpaa

/- DiffOf of copies in memory of their own. -/
namespace Go.Proofs.Ytedimkcnemhhpaa
open Go.RowKit Go.Shelf

theorem hksOwn_own {W : World} {N : Nat} {v : Value} {hs : List Hk} (h : HksOwn W N v hs) : ∃ F, hkK.own W v hs F ∧ ∀ k ∈ F, N ≤ k ∧ k < W.heap.size := by
  match hs, h with
  | [], h =>
    refine ⟨[], .inl ⟨rfl, rfl, ?_⟩, fun k hk => by cases hk⟩
    rcases h with rfl | ⟨g, rfl, _⟩
    · exact ⟨none, 0, rfl, fun _ => rfl⟩
    · exact ⟨_, 0, rfl, fun e => by cases e⟩
  | [h], ⟨g, lv, hv, hg, hh, hown, hne⟩ =>
    obtain ⟨ht, hf⟩ := TxtOwn.of_owns hown
    refine ⟨g :: [lv.ownBlock.toList].flatten, .inr ⟨g, 1, _, [lv.ownBlock.toList], hv, Nat.le_refl _, rfl, ?_, ⟨hh, by simp, rfl, fun i x hi => ?_⟩⟩, fun k hk => ?_⟩
    · simp only [List.flatten_cons, List.flatten_nil, List.append_nil, List.nodup_cons]
      refine ⟨fun e => hne (by cases ho : lv.ownBlock with | none => rw [ho] at e; cases e | some b => rw [ho] at e; rw [List.mem_singleton.1 e]), ?_⟩
      cases lv.ownBlock <;> simp
    · match i, hi with
      | 0, hi => cases hi; exact ⟨lv, _, rfl, rfl, rfl, ht⟩
      | i + 1, hi => simp at hi
    · simp only [List.flatten_cons, List.flatten_nil, List.append_nil, List.mem_cons] at hk
      rcases hk with rfl | hk
      · exact ⟨hg, (Array.getElem?_eq_some_iff.1 hh).1⟩
      · exact hf k hk
def diffOf_0 (xs ys : List ByteArray) : List Hk := diffL xs ys
theorem diffOf_small (xs ys : List ByteArray) (_ : smallX xs) (_ : smallX ys) : smallK (diffOf_0 xs ys) := by
  unfold diffOf_0 diffL
  split
  · rename_i h
    unfold diffB at h
    simp only [Bool.and_eq_true] at h
    obtain ⟨q1, q2⟩ := dLines_small h.1 h.2.1
    refine ⟨by simp, ?_, fun x hx => ?_⟩
    · show 1 + (dLines xs ys).length + 0 ≤ _; omega
    · rcases List.mem_singleton.1 hx with rfl
      exact ⟨by show (dLines xs ys).length ≤ _; omega, fun y hy => by have := (q2 y hy).2; omega⟩
  · exact ⟨by simp, by simp [cntH], fun x hx => by cases hx⟩
theorem diffOf_spec (xs ys : List ByteArray) (v : Value) (F : List Nat) (v' : Value) (F' : List Nat) (W : World) (hx : smallX xs) (hy : smallX ys) (h : txtK.own W v xs F) (h' : txtK.own W v' ys F') :
    Calls Try.prog 21 #[v, v'] W fun r W' => ∃ g G, r = .returned g ∧ hkK.own W' g (diffOf_0 xs ys) G ∧ (∀ k ∈ G, W.heap.size ≤ k ∧ k < W'.heap.size) ∧ Below W.heap.size W W' := by
  obtain ⟨a, cap, rfl, h1, _⟩ := TxtOwn.read h
  obtain ⟨a', cap', rfl, h2, _⟩ := TxtOwn.read h'
  refine (specDiffOf_any xs ys a a' cap cap' W (smallX_len hx) (smallX_len hy) (smallX_big hx) (smallX_big hy) h1 h2).mono ?_
  rintro r W' ⟨g, rfl, ho, hb⟩
  obtain ⟨G, g1, g2⟩ := hksOwn_own ho
  exact ⟨g, G, rfl, g1, g2, hb⟩
theorem TxtOwn.cap {W : World} {v : Value} {xs : List ByteArray} {F : List Nat} (h : TxtOwn W v xs F) : ∃ a cap, v = .slice a xs.length cap ∧ TxtsAt W a xs ∧ (a = none → cap = 0) ∧ xs.length ≤ cap := by
  obtain ⟨a, cap, ⟨h1, h2, h3, h4⟩ | ⟨h1, rfl, h3⟩⟩ := h.at
  · exact ⟨a, cap, h1, h2, h3, h4⟩
  · exact ⟨a, cap, h1, .inl rfl, h3, Nat.zero_le _⟩
theorem diffOf_impl (xs ys : List ByteArray) (v : Value) (F : List Nat) (v' : Value) (F' : List Nat) (W : World) (hx : smallX xs) (hy : smallX ys) (h : txtK.own W v xs F) (h' : txtK.own W v' ys F') :
    Calls Try.prog 23 #[v, v'] W fun r W' => ∃ g G, r = .returned g ∧ hkK.own W' g (diffOf_0 xs ys) G ∧ (∀ k ∈ G, W.heap.size ≤ k ∧ k < W'.heap.size) ∧ Below W.heap.size W W' := by
  obtain ⟨a, cap, rfl, h1, _, hc⟩ := TxtOwn.cap h
  obtain ⟨a', cap', rfl, h2, _, hc'⟩ := TxtOwn.cap h'
  refine (DiffOf_any xs ys a a' cap cap' W (smallX_len hx) (smallX_len hy) (smallX_big hx) (smallX_big hy) hc hc' h1 h2).mono ?_
  rintro r W' ⟨g, rfl, ho, hb⟩
  obtain ⟨G, g1, g2⟩ := hksOwn_own ho
  exact ⟨g, G, rfl, g1, g2, hb⟩
end Go.Proofs.Ytedimkcnemhhpaa

/- Patch of copies in memory of their own. -/
namespace Go.Proofs.Ytedimkcnemhhpaa
open Go.RowKit Go.Shelf

theorem HkOwn.readC {W : World} {v : Value} {hs : List Hk} {F : List Nat} (h : HkOwn W v hs F) : ∃ a cap, v = .slice a hs.length cap ∧ HksC W a hs := by
  rcases h with ⟨rfl, _, a, c, hv, hn⟩ | ⟨g, cap, cur, Fs, hv, hc, rfl, hn, ha⟩
  · exact ⟨a, c, hv, .inl rfl⟩
  · refine ⟨_, cap, hv, .inr ⟨g, 0, rfl, (Array.getElem?_eq_some_iff.1 ha.heap).1, fun i x hi => ?_⟩⟩
    obtain ⟨lv, Fi, h1, h2, h3, h4⟩ := ha.each i x hi
    obtain ⟨la, lc, rfl, ht, _, hlc⟩ := h4.cap
    rw [Nat.zero_add]
    exact ⟨la, lc, cell_arr ha.heap _ _ h2, cell_arr ha.heap _ _ h3, ht, hlc⟩
theorem patchOut_own {w W : World} {e : Ending} {ls : List ByteArray} {hs : List Hk} {fz : Int} (h : PatchOut w W e ls hs fz) :
    ∃ g G g1 G1, e = .returned (.tuple #[g, g1, .bool (patch_2 ls hs fz)]) ∧ txtK.own W g (patch_0 ls hs fz) G ∧ (∀ k ∈ G, w.heap.size ≤ k ∧ k < W.heap.size) ∧ intK.own W g1 (patch_1 ls hs fz) G1 ∧ (∀ k ∈ G1, w.heap.size ≤ k ∧ k < W.heap.size) ∧ (∀ k ∈ G, k ∉ G1) ∧ Below w.heap.size w W := by
  obtain ⟨v0, v1, rfl, h0, h1, hne, hb⟩ := h
  obtain ⟨a1, a2⟩ := TxtOwn.of_owns h0
  obtain ⟨b1, b2⟩ := IntOwn.of_owns h1
  refine ⟨v0, _, v1, _, rfl, a1, a2, b1, b2, fun k hk hk1 => ?_, hb⟩
  have e0 : v0.ownBlock = some k := by simpa using hk
  have e1 : v1.ownBlock = some k := by simpa using hk1
  rcases hne with e | e
  · rw [e] at e0; cases e0
  · exact e (e0.trans e1.symm)
theorem patch_small (ls : List ByteArray) (hs : List Hk) (fz : Int) (h1 : smallX ls) (_ : smallK hs) : smallX (patch_0 ls hs fz) ∧ smallZ (patch_1 ls hs fz) := by
  have hnil : smallX [] ∧ smallZ [] := ⟨⟨by simp, fun x hx => by cases hx⟩, by simp [smallZ]⟩
  cases hok : okM ls hs fz with
  | false =>
    obtain ⟨e0, e1, _⟩ := patch_no hok
    rw [e0, e1]; exact hnil
  | true =>
    cases ho : outM ls hs fz with
    | none =>
      obtain ⟨e0, e1, _⟩ := patch_none hok ho
      rw [e0, e1]; exact ⟨h1, hnil.2⟩
    | some x =>
      obtain ⟨e0, e1, _⟩ := patch_some hok ho
      rw [e0, e1]
      unfold okM at hok
      simp only [Bool.and_eq_true, decide_eq_true_eq] at hok
      obtain ⟨_, ths, _, _⟩ := hok
      obtain ⟨hh4, hmem⟩ := hunksB_mem ths
      unfold outM at ho
      obtain ⟨s, hs1, hs2⟩ := Option.bind_eq_some_iff.1 ho
      split at hs2
      · rename_i ht
        cases hs2
        obtain ⟨t1, t2⟩ := textB_parts ht
        have hb := runM_bound hs _ _ 0 (fun x hx => (hkB_parts (hmem x hx).1).2.1) (start_bound ls) hs1
        refine ⟨⟨by show (s.done ++ s.rest).length ≤ _; omega, fun y hy => by have := t2 y hy; omega⟩, ?_⟩
        have := hb.far
        show s.far.length ≤ 1048576
        omega
      · cases hs2
theorem patch_spec (ls : List ByteArray) (hs : List Hk) (fz : Int) (v : Value) (F : List Nat) (v' : Value) (F' : List Nat) (W : World) (hx : smallX ls) (hy : smallK hs) (h : txtK.own W v ls F) (h' : hkK.own W v' hs F') :
    Calls Try.prog 28 #[v, v', .int .i64 fz] W fun r W' => ∃ g G g1 G1, r = .returned (.tuple #[g, g1, .bool (patch_2 ls hs fz)]) ∧ txtK.own W' g (patch_0 ls hs fz) G ∧ (∀ k ∈ G, W.heap.size ≤ k ∧ k < W'.heap.size) ∧ intK.own W' g1 (patch_1 ls hs fz) G1 ∧ (∀ k ∈ G1, W.heap.size ≤ k ∧ k < W'.heap.size) ∧ (∀ k ∈ G, k ∉ G1) ∧ Below W.heap.size W W' := by
  obtain ⟨a, cap, rfl, h1, hn⟩ := TxtOwn.read h
  obtain ⟨a', cap', rfl, h2⟩ := HkOwn.readC h'
  exact (specPatch_any ls hs fz a a' cap cap' W (smallX_len hx) (smallX_big hx) hn (Nat.le_trans hy.1 (by simp [maxLen])) (smallK_big hy) h1 h2).mono (fun r W' h => patchOut_own h)
theorem patch_impl (ls : List ByteArray) (hs : List Hk) (fz : Int) (v : Value) (F : List Nat) (v' : Value) (F' : List Nat) (W : World) (hx : smallX ls) (hy : smallK hs) (h : txtK.own W v ls F) (h' : hkK.own W v' hs F') :
    Calls Try.prog 29 #[v, v', .int .i64 fz] W fun r W' => ∃ g G g1 G1, r = .returned (.tuple #[g, g1, .bool (patch_2 ls hs fz)]) ∧ txtK.own W' g (patch_0 ls hs fz) G ∧ (∀ k ∈ G, W.heap.size ≤ k ∧ k < W'.heap.size) ∧ intK.own W' g1 (patch_1 ls hs fz) G1 ∧ (∀ k ∈ G1, W.heap.size ≤ k ∧ k < W'.heap.size) ∧ (∀ k ∈ G, k ∉ G1) ∧ Below W.heap.size W W' := by
  obtain ⟨a, cap, rfl, h1, hn, hc⟩ := TxtOwn.cap h
  obtain ⟨a', cap', rfl, h2⟩ := HkOwn.readC h'
  exact (Patch_any ls hs fz a a' cap cap' W (smallX_len hx) (smallX_big hx) hc hn (Nat.le_trans hy.1 (by simp [maxLen])) (smallK_big hy) h1 h2).mono (fun r W' h => patchOut_own h)
end Go.Proofs.Ytedimkcnemhhpaa

/- Rows of hunks that are appended to: what the laws' draws make. -/
namespace Go.Proofs.Ytedimkcnemhhpaa
open Go.RowKit Go.Shelf

/-- The cells of hunks, their lines in own memory and apart from the row's own. -/
def HkVs (W : World) (B : Nat) (row : Option Nat) (hs : List Hk) (vs : List Value) : Prop :=
  vs.length = hs.length * 2 ∧ ∀ (i : Nat) h, hs[i]? = some h → ∃ la cap, vs[i * 2]? = some (.int .i64 h.at_) ∧ vs[i * 2 + 1]? = some (.slice la h.lines.length cap) ∧ TxtsAt W la h.lines ∧ h.lines.length ≤ cap ∧ (h.lines ≠ [] → ∀ blk o, la = some ⟨blk, o, none⟩ → B ≤ blk ∧ row ≠ some blk)
/-- A row of hunks of one's own. -/
def DrawH (W : World) (B : Nat) (v : Value) (hs : List Hk) : Prop := ∃ vs, W.ownsRow B 46 2 v hs.length vs ∧ HkVs W B v.ownBlock hs vs
def smallD (hs : List Hk) : Prop := ∀ h ∈ hs, h.lines.length ≤ 120 ∧ ∀ x ∈ h.lines, x.size ≤ 300
theorem HkVs.grown {W W' : World} {B b : Nat} {row : Option Nat} {hs : List Hk} {vs : List Value} (h : HkVs W B row hs vs) (hb : b < B) (hg : W.grownBy W' (some b)) : HkVs W' B row hs vs :=
  ⟨h.1, fun i x hi => by
    obtain ⟨la, cap, h1, h2, h3, h4, h5⟩ := h.2 i x hi
    refine ⟨la, cap, h1, h2, ?_, h4, h5⟩
    by_cases h0 : x.lines = []
    · exact .inl h0
    · exact h3.grownX (fun b' o e => by have := (h5 h0 b' o e).1; omega) hg⟩
theorem own_ne {W : World} {B b e size n : Nat} {v : Value} {vs : List Value} (h : W.ownsRow B e size v n vs) (hb : b < B) : v.ownBlock ≠ some b := fun e => by have := (h.lt b e).1; omega
theorem DrawH.grown {W W' : World} {B b : Nat} {v : Value} {hs : List Hk} (h : DrawH W B v hs) (hb : b < B) (hg : W.grownBy W' (some b)) : DrawH W' B v hs := by
  obtain ⟨vs, h1, h2⟩ := h
  exact ⟨vs, owns_grown h1 hg (.inr (own_ne h1 hb)), h2.grown hb hg⟩
theorem HkVs.low {W : World} {B B' : Nat} {row : Option Nat} {hs : List Hk} {vs : List Value} (h : HkVs W B row hs vs) (hB : B' ≤ B) : HkVs W B' row hs vs :=
  ⟨h.1, fun i x hi => by
    obtain ⟨la, cap, h1, h2, h3, h4, h5⟩ := h.2 i x hi
    exact ⟨la, cap, h1, h2, h3, h4, fun h0 blk o e => ⟨Nat.le_trans hB (h5 h0 blk o e).1, (h5 h0 blk o e).2⟩⟩⟩
theorem DrawH.low {W : World} {B B' : Nat} {v : Value} {hs : List Hk} (h : DrawH W B v hs) (hB : B' ≤ B) : DrawH W B' v hs := by
  obtain ⟨vs, h1, h2⟩ := h
  exact ⟨vs, ownsRow_baseX h1 hB, h2.low hB⟩
theorem HkVs.wide {W : World} {B : Nat} {row : Option Nat} {hs : List Hk} {vs : List Value} (h : HkVs W B row hs vs) {W' : World} (hb : Below W.heap.size W W') : HkVs W' B row hs vs :=
  ⟨h.1, fun i x hi => by
    obtain ⟨la, cap, h1, h2, h3, h4, h5⟩ := h.2 i x hi
    exact ⟨la, cap, h1, h2, h3.below hb, h4, h5⟩⟩
theorem DrawH.later {W W' : World} {B : Nat} {v : Value} {hs : List Hk} (h : DrawH W B v hs) (hb : Below W.heap.size W W') : DrawH W' B v hs := by
  obtain ⟨vs, h1, h2⟩ := h
  exact ⟨vs, owns_belowX h1 hb, h2.wide hb⟩
theorem emptyHs (W : World) (N : Nat) (hN : N ≤ W.heap.size) : DrawH (W.alloc (.cells #[] 46)) N (.slice (some ⟨W.heap.size, 0, none⟩) 0 0) [] :=
  ⟨[], World.ownsRow_lit (base := N) (e := 46) (size := 2) W #[] 0 hN (by simp [maxLen]) rfl, rfl, fun i x hi => by cases hi⟩
theorem smallD_app {hs gs : List Hk} (h : smallD hs) (k : smallD gs) : smallD (hs ++ gs) := fun x hx => by
  rcases List.mem_append.1 hx with hx | hx
  · exact h x hx
  · exact k x hx
theorem HkVs.apart {W : World} {B : Nat} {row row' : Option Nat} {hs : List Hk} {vs : List Value} (h : HkVs W B row hs vs) (hr : ∀ g, row' = some g → g < B) : HkVs W B row' hs vs :=
  ⟨h.1, fun i x hi => by
    obtain ⟨la, cap, h1, h2, h3, h4, h5⟩ := h.2 i x hi
    exact ⟨la, cap, h1, h2, h3, h4, fun h0 blk o e => ⟨(h5 h0 blk o e).1, fun e2 => by have := hr blk e2; have := (h5 h0 blk o e).1; omega⟩⟩⟩
/-- One hunk, just laid. -/
theorem oneHk (W : World) (B : Nat) (row : Option Nat) (h : Hk) (la : Option Addr) (lc : Nat) (ht : TxtsAt W la h.lines) (hc : h.lines.length ≤ lc) (hl : h.lines ≠ [] → ∀ blk o, la = some ⟨blk, o, none⟩ → B ≤ blk ∧ row ≠ some blk) :
    HkVs W B row [h] [.int .i64 h.at_, .slice la h.lines.length lc] := by
  refine ⟨rfl, fun i x hi => ?_⟩
  have hi0 : i = 0 := by have := (List.getElem?_eq_some_iff.1 hi).1; simp at this; exact this
  subst hi0
  simp only [List.getElem?_cons_zero, Option.some.injEq] at hi
  subst hi
  exact ⟨la, lc, rfl, rfl, ht, hc, hl⟩
theorem ownAt {W : World} {B e size n : Nat} {v : Value} {vs : List Value} (h : W.ownsRow B e size v n vs) : ∃ (ad : Option Addr) (cap : Nat), v = .slice ad n cap ∧ (ad = none → n = 0 ∧ cap = 0) ∧ n ≤ cap ∧ ∀ (j : Nat) u, vs[j]? = some u → ∃ x, ad = some x ∧ W.cell? (x.add j) = some u := by
  obtain ⟨hlen, h⟩ := h
  rcases h with ⟨hv, hn⟩ | ⟨g, cap, cur, hv, hb, hh, hc1, hc2, hsz, htk⟩
  · subst hn
    refine ⟨none, 0, hv, fun _ => ⟨rfl, rfl⟩, Nat.le_refl _, fun j u hj => ?_⟩
    have : vs = [] := List.length_eq_zero_iff.1 (by rw [hlen, Nat.zero_mul])
    subst this
    cases hj
  · refine ⟨_, cap, hv, fun e => (by cases e), hc1, fun j u hj => ⟨_, rfl, ?_⟩⟩
    rw [add_plainT, Nat.zero_add]
    refine cell_arr hh _ _ ?_
    rw [← htk, List.getElem?_take] at hj
    split at hj
    · simpa using hj
    · cases hj
theorem DrawH.read {W : World} {B : Nat} {v : Value} {hs : List Hk} (h : DrawH W B v hs) : ∃ a cap, v = .slice a hs.length cap ∧ HksC W a hs ∧ hs.length ≤ cap := by
  obtain ⟨vs, h1, h2⟩ := h
  by_cases h0 : hs = []
  · subst h0
    obtain ⟨a, cap, hv⟩ := ownsRow_sliceX h1
    exact ⟨a, cap, hv, .inl rfl, Nat.zero_le _⟩
  · have hl : 0 < hs.length := List.length_pos_iff.2 h0
    obtain ⟨ad, cap, hv, _, hc, hcell⟩ := ownAt h1
    have hg : ∃ g, ad = some ⟨g, 0, none⟩ ∧ g < W.heap.size := by
      rcases h1.2 with ⟨_, hn⟩ | ⟨g, cap, cur, hv2, hb, hh, _⟩
      · omega
      · rw [hv] at hv2; injection hv2 with e1 e2 e3; exact ⟨g, e1, (Array.getElem?_eq_some_iff.1 hh).1⟩
    obtain ⟨g, rfl, hb⟩ := hg
    refine ⟨_, cap, hv, .inr ⟨g, 0, rfl, hb, fun i x hi => ?_⟩, hc⟩
    obtain ⟨la, lc, e1, e2, e3, e4, _⟩ := h2.2 i x hi
    rw [Nat.zero_add]
    have q : ∀ j u, vs[j]? = some u → W.cell? ⟨g, j, none⟩ = some u := fun j u hj => by
      obtain ⟨x, e, h⟩ := hcell j u hj
      cases e
      rwa [add_plainT, Nat.zero_add] at h
    exact ⟨la, lc, q _ _ e1, q _ _ e2, e3, e4⟩
theorem infoHkP : ∃ i, Try.prog.info? 46 = some i ∧ i.zero = some (.agg #[.int .i64 0, .slice none 0 0]) ∧ i.size = 2 ∧ i.bytes = 32 := by
  have := infoHk
  cases h : Try.prog.info? 46 with
  | none => rw [h] at this; cases this
  | some i =>
    rw [h] at this
    simp only [Option.map_some, Option.some.injEq, Prod.mk.injEq] at this
    exact ⟨i, rfl, this.1, this.2.1, this.2.2⟩
/-- Hunks appended to a row that is owned. -/
theorem app_hks (w : World) (base ty n m : Nat) (v : Value) (vs us : List Value) (ad : Option Addr) (c : Nat) (hown : w.ownsRow base 46 2 v n vs) (hl : us.length = m * 2) (hz : ad = none → m = 0 ∧ c = 0) (hu : ∀ j u, us[j]? = some u → ∃ x, ad = some x ∧ w.cell? (x.add j) = some u) (h1 : ∀ u ∈ us, u.oneCell' = true) (hn : n + m ≤ 1000000) (hb : base ≤ w.heap.size) :
    ∃ v' w', (Builtin.append_ #[25, 25] ty #[v, .slice ad m c]).run Try.prog w = .ok v' w' ∧ w'.ownsRow base 46 2 v' (n + m) (vs ++ us) ∧ w.grownBy w' v.ownBlock ∧ (v'.ownBlock = v.ownBlock ∨ v'.ownBlock = some w.heap.size) := by
  obtain ⟨i0, hi, hz0, hz1, hz2⟩ := infoHkP
  cases ad with
  | none =>
    obtain ⟨rfl, rfl⟩ := hz rfl
    have : us = [] := List.length_eq_zero_iff.1 (by rw [hl, Nat.zero_mul])
    subst this
    exact ⟨v, w, run_append_owned_none (P := Try.prog) w base 25 ty 46 i0 2 Try.underlying25 hi v n _ hown, by simpa using hown, grown_self _ _, .inl rfl⟩
  | some x =>
    obtain ⟨v', w', hr, h2, h3, _, h5⟩ := run_append_own_at (P := Try.prog) w base 25 ty 46 i0 (.agg #[.int .i64 0, .slice none 0 0]) 2 32 Try.underlying25 hi hz0 hz1 hz2 rfl (by decide) v n _ hown x m c us hl (fun j u hj => by obtain ⟨y, e, h⟩ := hu j u hj; cases e; exact h) h1 (by unfold maxLen; omega) (by omega) hb
    exact ⟨v', w', hr, h2, h3, h5⟩
theorem wp_apph {ops : Array Oper} {rest : List Oper} {o : Oper} {a : Act} {w : World} {Q : Exit → Act → World → Prop} (hgd : o.guard = none) (s x : Operand) (ho : o.op = .call { callee := .builtin .append, args := #[s, x], argTypes := #[25, 25] })
    (base n m : Nat) (v : Value) (vs us : List Value) (ad : Option Addr) (c : Nat) (hs : a.eval s = v) (hx : a.eval x = .slice ad m c) (hown : w.ownsRow base 46 2 v n vs) (hl : us.length = m * 2) (hz : ad = none → m = 0 ∧ c = 0) (hu : ∀ j u, us[j]? = some u → ∃ x, ad = some x ∧ w.cell? (x.add j) = some u) (h1 : ∀ u ∈ us, u.oneCell' = true) (hn : n + m ≤ 1000000) (hb : base ≤ w.heap.size)
    (hk : ∀ v' w', w'.ownsRow base 46 2 v' (n + m) (vs ++ us) → w.grownBy w' v.ownBlock → (v'.ownBlock = v.ownBlock ∨ v'.ownBlock = some w.heap.size) → wpList Try.prog ops Q rest (a.put o.dst v') w') : wpList Try.prog ops Q (o :: rest) a w := by
  refine wpList_plain hgd fun K hK => ?_
  obtain ⟨v', w', hr, h2, h3, h5⟩ := app_hks w base o.type n m v vs us ad c hown hl hz hu h1 hn hb
  unfold Oper.wp execOp
  simp only [ho, resolve, invoke, builtin, Sem.run_bind, Sem.run_pure, Result.andThen_ok, List.map_toArray, List.map_cons, List.map_nil, hs, hx, hr]
  exact hK _ _ (hk v' w' h2 h3 h5)
theorem HkVs.app {W : World} {B : Nat} {row : Option Nat} {hs gs : List Hk} {vs us : List Value} (h : HkVs W B row hs vs) (k : HkVs W B row gs us) : HkVs W B row (hs ++ gs) (vs ++ us) := by
  refine ⟨by rw [List.length_append, List.length_append, h.1, k.1]; omega, fun i x hi => ?_⟩
  by_cases hl : i < hs.length
  · rw [List.getElem?_append_left hl] at hi
    obtain ⟨la, cap, h1, h2, h3⟩ := h.2 i x hi
    have e := h.1
    exact ⟨la, cap, by rw [List.getElem?_append_left (by omega)]; exact h1, by rw [List.getElem?_append_left (by omega)]; exact h2, h3⟩
  · rw [List.getElem?_append_right (by omega)] at hi
    obtain ⟨la, cap, h1, h2, h3⟩ := k.2 (i - hs.length) x hi
    have e := h.1
    exact ⟨la, cap, by rw [List.getElem?_append_right (by omega), show i * 2 - vs.length = (i - hs.length) * 2 by omega]; exact h1, by rw [List.getElem?_append_right (by omega), show i * 2 + 1 - vs.length = (i - hs.length) * 2 + 1 by omega]; exact h2, h3⟩
theorem HkVs.one_cells {W : World} {B : Nat} {row : Option Nat} {hs : List Hk} {vs : List Value} (h : HkVs W B row hs vs) : ∀ u ∈ vs, u.oneCell' = true := by
  intro u hu
  obtain ⟨j, hj⟩ := List.getElem?_of_mem hu
  have hl := (List.getElem?_eq_some_iff.1 hj).1
  have e := h.1
  have hi : j / 2 < hs.length := by omega
  obtain ⟨la, cap, h1, h2, _⟩ := h.2 (j / 2) hs[j / 2] (List.getElem?_eq_getElem hi)
  rcases Nat.mod_two_eq_zero_or_one j with hm | hm
  · rw [show j / 2 * 2 = j by omega, hj] at h1; cases h1; rfl
  · rw [show j / 2 * 2 + 1 = j by omega, hj] at h2; cases h2; rfl
/-- The lines of hunks stand where they stood when a row was appended to. -/
theorem HkVs.row {W W' : World} {B : Nat} {row row' : Option Nat} {hs : List Hk} {vs : List Value} (h : HkVs W B row hs vs) (hg : W.grownBy W' row) (hn : row' = row ∨ row' = some W.heap.size) : HkVs W' B row' hs vs :=
  ⟨h.1, fun i x hi => by
    obtain ⟨la, cap, h1, h2, h3, h4, h5⟩ := h.2 i x hi
    by_cases h0 : x.lines = []
    · exact ⟨la, cap, h1, h2, .inl h0, h4, fun h => absurd h0 h⟩
    obtain ⟨b', o, e, hb, hc⟩ := h3.get h0
    subst e
    have hne := h5 h0 b' o rfl
    refine ⟨_, cap, h1, h2, .inr ⟨b', o, rfl, Nat.lt_of_lt_of_le hb hg.size, fun i y hy => (World.cell?_of_block (w := W) (hg.block b' hb (fun e2 => hne.2 e2.symm))).trans (hc i y hy)⟩, h4, fun _ blk o' e => ?_⟩
    injection e with e
    cases e
    refine ⟨hne.1, ?_⟩
    rcases hn with rfl | rfl
    · exact hne.2
    · intro e2; injection e2 with e2; omega⟩
/-- Drawn hunks that others are appended to. -/
theorem wp_drawh {ops : Array Oper} {rest : List Oper} {o : Oper} {a : Act} {w : World} {Q : Exit → Act → World → Prop} (hgd : o.guard = none) (s x : Operand) (ho : o.op = .call { callee := .builtin .append, args := #[s, x], argTypes := #[25, 25] })
    (B : Nat) (v : Value) (hs gs : List Hk) (vs us : List Value) (ad : Option Addr) (c : Nat) (hsv : a.eval s = v) (hx : a.eval x = .slice ad gs.length c) (hown : w.ownsRow B 46 2 v hs.length vs) (hv : HkVs w B v.ownBlock hs vs) (ku : HkVs w B v.ownBlock gs us) (hz : ad = none → gs.length = 0 ∧ c = 0) (hu : ∀ j u, us[j]? = some u → ∃ x, ad = some x ∧ w.cell? (x.add j) = some u) (hn : hs.length + gs.length ≤ 1000000) (hb : B ≤ w.heap.size)
    (hk : ∀ v' w', DrawH w' B v' (hs ++ gs) → w.grownBy w' v.ownBlock → wpList Try.prog ops Q rest (a.put o.dst v') w') : wpList Try.prog ops Q (o :: rest) a w := by
  refine wp_apph hgd s x ho B hs.length gs.length v vs us ad c hsv hx hown ku.1 hz hu ku.one_cells hn hb (fun v' w' h1 h2 h3 => ?_)
  exact hk v' w' ⟨vs ++ us, by rw [List.length_append]; exact h1, (hv.row h2 h3).app (ku.row h2 h3)⟩ h2
end Go.Proofs.Ytedimkcnemhhpaa

/- Draws of paths, numbers and texts. A drawn path begins neither with fr nor with ne. -/
namespace Go.Proofs.Ytedimkcnemhhpaa
open Go.RowKit

def niceB (l : List UInt8) : Bool := decide (l.length ≤ 100) && (l.take 2 != [102, 114] && l.take 2 != [110, 101])
def nice (x : ByteArray) : Prop := niceB x.data.toList = true
def niceV : Value → Bool
  | .string x => niceB x.data.toList
  | _ => false
theorem nice_short {x : ByteArray} (h : nice x) : x.size ≤ 100 := by
  unfold nice niceB at h
  simp only [Bool.and_eq_true, decide_eq_true_eq] at h
  have := h.1
  simpa using this
theorem row_nice (w : World) (cs : Array Value) (t : TypeId) (h : cs.toList.all niceV = true) (k : Nat) (hk : k < cs.size) : ∃ x, nice x ∧ (w.alloc (.cells cs t)).cell? ⟨w.heap.size, k, none⟩ = some (.string x) := by
  have h1 : (w.alloc (.cells cs t)).cell? ⟨w.heap.size, k, none⟩ = cs[k]? := by
    have := World.alloc_heap_new w (.cells cs t)
    unfold World.cell?
    dsimp only
    rw [this]
    simp
  rw [List.all_eq_true] at h
  have h2 := h cs[k] (by simp)
  rw [h1, Array.getElem?_eq_getElem hk]
  revert h2
  cases cs[k] <;> simp [niceV, nice]

set_option maxRecDepth 100000 in
set_option maxHeartbeats 1000000 in
theorem one_any (P : Int → Prop) (w : World) (b : Nat) (a : Option Addr) (len cap p : Nat) (h : Rd w b a len cap p) (hp : p ≤ 1048576) (g m c : Nat) (hg : g ≠ b) (h1 : 1 ≤ m) (h2 : m ≤ 1048576)
    (hl : ∀ k, k < m → ∃ x, P x ∧ w.cell? ⟨g, k, none⟩ = some (.int .i64 x)) :
    Calls Try.prog 97 #[.pointer (some ⟨b, 0, none⟩), .slice (some ⟨g, 0, none⟩) m c] w fun e w' => ∃ x, P x ∧ e = .returned (.int .i64 x) ∧ Rd w' b a len cap (p + 1) ∧ w.grownBy w' (some b) := by
  have H := hid h
  have Hl := hid hl
  have hlt : g < w.heap.size := by
    obtain ⟨x, _, hx⟩ := hl 0 (by omega)
    unfold World.cell? at hx
    cases hh : w.heap[g]? with
    | none => simp [hh] at hx
    | some o => exact (Array.getElem?_eq_some_iff.1 hh).1
  clear h hl
  go_enter Try.func97, Try.ntmps97
  go_wp2_with fail
  refine (pick_any w b a len cap p (unhid H) hp m (by omega) (by omega)).mono ?_
  rintro e w1 ⟨r, hr, rfl, hR, hG⟩
  have hr' : r < m := by omega
  obtain ⟨x, hP, hx⟩ := unhid Hl r hr'
  have hx1 : w1.cell? ⟨g, r, none⟩ = some (.int .i64 x) := (World.cell?_of_block (w := w) (hG.block g hlt (fun e => hg (by cases e; rfl)))).trans hx
  have HR := hid hR
  have HG := hid hG
  clear hR hG hx
  go_wp2_with fail
  go_ret
  exact ⟨x, hP, rfl, unhid HR, unhid HG⟩

def intV (P : Int → Bool) : Value → Bool
  | .int .i64 x => P x
  | _ => false
theorem row_int (P : Int → Bool) (w : World) (cs : Array Value) (t : TypeId) (B : Nat) (hB : B = w.heap.size) (h : cs.toList.all (intV P) = true) (k : Nat) (hk : k < cs.size) : ∃ x, P x = true ∧ (w.alloc (.cells cs t)).cell? ⟨B, k, none⟩ = some (.int .i64 x) := by
  subst hB
  have h1 : (w.alloc (.cells cs t)).cell? ⟨w.heap.size, k, none⟩ = cs[k]? := by
    have := World.alloc_heap_new w (.cells cs t)
    unfold World.cell?
    dsimp only
    rw [this]
    simp
  rw [List.all_eq_true] at h
  have h2 := h cs[k] (by simp)
  rw [h1, Array.getElem?_eq_getElem hk]
  revert h2
  unfold intV
  split <;> simp_all

theorem ba_eq {x y : ByteArray} (h : x.data.toList = y.data.toList) : x = y := by
  obtain ⟨⟨l⟩⟩ := x; obtain ⟨⟨m⟩⟩ := y; simp at h; subst h; rfl
/-- A text many times. -/
def rep (s : ByteArray) (n : Nat) : ByteArray := ⟨⟨(List.replicate n s.data.toList).flatten⟩⟩
theorem rep_add (s : ByteArray) (a b : Nat) : rep s a ++ rep s b = rep s (a + b) := by
  apply ba_eq
  rw [ByteArray.data_append, Array.toList_append]
  show (List.replicate a s.data.toList).flatten ++ (List.replicate b s.data.toList).flatten = (List.replicate (a + b) s.data.toList).flatten
  rw [← List.flatten_append, List.replicate_append_replicate]
theorem rep_size (s : ByteArray) (a : Nat) : (rep s a).size = a * s.size := by
  show (List.replicate a s.data.toList).flatten.length = a * s.data.toList.length
  simp
theorem rep_one (s : ByteArray) : rep s 1 = s := by
  apply ba_eq
  show (List.replicate 1 s.data.toList).flatten = s.data.toList
  simp
theorem rep_nil (s : ByteArray) : rep s 0 = ⟨#[]⟩ := rfl
theorem row_short2 (w : World) (cs : Array Value) (t : TypeId) (B : Nat) (hB : B = w.heap.size) (h : cs.toList.all shortV = true) (k : Nat) (hk : k < cs.size) : ∃ x, short x ∧ (w.alloc (.cells cs t)).cell? ⟨B, k, none⟩ = some (.string x) := by
  subst hB; exact row_short w cs t h k hk
end Go.Proofs.Ytedimkcnemhhpaa
