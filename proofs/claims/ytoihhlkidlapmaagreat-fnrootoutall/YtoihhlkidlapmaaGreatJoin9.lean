/- Texts of this proof, one behind the other; each says at its head what it shows. -/
import Derived.Test.YtoihhlkidlapmaaGreatJoin8
import Derived.Lib.SliceRun
import Derived.Deep.RegionLaw
import Derived.Shelf.Spec.SlicesInsertGrow
import Derived.Test.YtoihhlkidlapmaaGreatJoin5
import Derived.Shelf.Small.Strs
import Derived.Test.YtoihhlkidlapmaaGreatProg
namespace Go.Proofs.YtoihhlkidlapmaaGreat
open Go.RowKit Go.Shelf
theorem setCells_sets : ∀ (vs : List Value) (w : World) (g o : Nat), w.setCells g o vs = setsW w g o vs
  | [], _, _, _ => rfl
  | _ :: vs, _, g, o => setCells_sets vs _ g (o + 1)
def zeroP : List Value := [.string ⟨#[]⟩, .string ⟨#[]⟩, .slice none 0 0, .slice none 0 0]
theorem run_clear_pack (w : World) (ty b o c : Nat) (hc : ∀ j, j < 4 → (w.cell? ⟨b, o + j, none⟩).isSome = true) (hf : ∀ j, j < 4 → w.frozen? ⟨b, o + j, none⟩ = false) :
    (Builtin.clear_ #[23] ty #[.slice (some ⟨b, o, none⟩) 1 c]).run Tryz.prog w = .ok (.tuple #[]) (w.setCells b o zeroP) := by
  have hzc : (Builtin.zeroCells (Value.agg #[.string ⟨#[]⟩, .string ⟨#[]⟩, .slice none 0 0, .slice none 0 0]).cells 1).toList = zeroP := by kernel_rfl
  have hst := run_storeCells_cells (P := Tryz.prog) b o zeroP 0 w (by simpa [zeroP] using hc) (by simpa [zeroP] using hf) (by intro v hv'; simp [zeroP] at hv'; rcases hv' with rfl | rfl <;> rfl)
  simp only [Nat.add_zero] at hst
  simp [Builtin.clear_, run_underlying Tryz.underlying23, hzc, hst]
theorem sets_grown : ∀ (l : List Value) (w : World) (g o : Nat), w.grownBy (setsW w g o l) (some g)
  | [], w, g, o => ⟨rfl, rfl, rfl, Nat.le_refl _, fun _ _ _ => rfl⟩
  | v :: l, w, g, o => by
    have h1 := (Below.refl g w).setCell (p := ⟨g, o, none⟩) (Nat.le_refl _) v
    have h2 := sets_grown l (w.setCell ⟨g, o, none⟩ v) g (o + 1)
    exact ⟨h2.os.trans h1.os, h2.tape.trans h1.tape, h2.output.trans h1.output, Nat.le_trans h1.size h2.size, fun k hk hne => (h2.block k (Nat.lt_of_lt_of_le hk h1.size) hne).trans (Below.heap_setCell _ _ _ _ (by intro e; exact hne (by rw [e])))⟩
theorem itCells_split {W : World} {N : Nat} {L : List (It packC)} (h : Items packC W N L) (i : Nat) (hi : i ≤ L.length) : (itCells (L.take i)).length = i * 4 ∧ (itCells (L.drop i)).length = (L.length - i) * 4 ∧ itCells L = itCells (L.take i) ++ itCells (L.drop i) := by
  have h1 := itCells_len (h.sub (List.take_sublist i L))
  have h2 := itCells_len (h.sub (List.drop_sublist i L))
  rw [List.length_take, Nat.min_eq_left hi] at h1
  rw [List.length_drop] at h2
  exact ⟨h1, h2, by rw [← itCells_app, List.take_append_drop]⟩
set_option maxRecDepth 100000 in
set_option maxHeartbeats 4000000 in
theorem Delete_any (L : List (It packC)) (v : Value) (i : Nat) (w : World) (N : Nat) (hi : i < L.length) (h : NRow packC 34 w N v L) :
    Calls Tryz.prog 88 #[v, .int .i64 (i : Int), .int .i64 ((i + 1 : Nat) : Int)] w fun x w' => ∃ u, x = .returned u ∧ NRow packC 34 w' N u (L.take i ++ L.drop (i + 1)) ∧ w.grownBy w' v.ownBlock ∧ u.ownBlock = v.ownBlock := by
  obtain ⟨i0, hi0, hz0, hz1, hz2⟩ := info_parts vinfoPack
  have hrow := h.row.2
  rcases hrow with ⟨_, h0⟩ | ⟨g, cap, cur, rfl, hN, hg, hc, hcm, hsz, hcells⟩
  · omega
  have hcm2 : cap ≤ 9223372036854775807 := by simp only [maxLen] at hcm; omega
  obtain ⟨j, hj⟩ : ∃ j, j = i + 1 := ⟨_, rfl⟩
  rw [← hj]
  have hij : i < j := by omega
  have hjn : j ≤ L.length := by omega
  have hic : i ≤ cap := by omega
  have hjc : j ≤ cap := by omega
  have hne : ¬ i = j := by omega
  generalize hn : L.length = n at *
  have hL := h.items
  obtain ⟨lt1, ld1, es1⟩ := itCells_split hL i (by omega)
  obtain ⟨lt2, ld2, es2⟩ := itCells_split hL j (by omega)
  rw [hn] at ld1 ld2
  have en : packC.n = 4 := rfl
  rw [en] at hsz hcells
  have hcl : ∀ t u, (itCells L)[t]? = some u → cur[t]? = some u := fun t u ht => by
    rw [← hcells] at ht
    have : t < n * 4 := by
      have := (List.getElem?_eq_some_iff.1 ht).1
      rw [List.length_take] at this
      omega
    rwa [List.getElem?_take_of_lt this, Array.getElem?_toList] at ht
  obtain ⟨news, hnews⟩ : ∃ news, news = itCells (L.drop j) := ⟨_, rfl⟩
  rw [← hnews] at ld2
  have hdrew : w.drew.heap[g]? = some (.cells cur 34 (0, 0)) := hg
  obtain ⟨A, hA, hsrc⟩ : ∃ A : Addr, (if cap = j then some (⟨g, 0, none⟩ : Addr) else some ⟨g, j * 4, none⟩) = some A ∧ Hid (∀ t u, news[t]? = some u → w.drew.cell? (A.add t) = some u) := by
    by_cases h : cap = j
    · refine ⟨⟨g, 0, none⟩, by simp [h], fun t u hu => ?_⟩
      have h0 : news.length = 0 := by rw [ld2]; omega
      rw [List.length_eq_zero_iff.1 h0] at hu
      simp at hu
    · refine ⟨⟨g, j * 4, none⟩, by simp [h], fun t u hu => ?_⟩
      rw [add_plainR]
      refine cell_arrS hdrew _ _ (hcl _ _ ?_)
      rw [es2, List.getElem?_append_right (by omega), lt2, ← hnews, show j * 4 + t - j * 4 = t by omega]
      exact hu
  have s1 : Hid (news.length = (n - j) * 4) := ld2
  have s2 : Hid (∀ u ∈ news, u.oneCell' = true) := by
    rw [hnews]
    exact itCells_one onePack (hL.sub (List.drop_sublist j L))
  have hspot : ∀ (W : World) (cu : Array Value), W.heap[g]? = some (.cells cu 34 (0, 0)) → cu.size = cap * 4 → ∀ t, t < cap * 4 → (W.cell? ⟨g, t, none⟩).isSome = true ∧ W.frozen? ⟨g, t, none⟩ = false := fun W cu hW hcu t ht => by
    obtain ⟨x, hx⟩ : ∃ x, cu[t]? = some x := ⟨cu[t]'(by omega), by rw [Array.getElem?_eq_getElem]⟩
    obtain ⟨o1, p1⟩ := cell_fz hW t x hx
    exact ⟨by rw [o1]; rfl, p1⟩
  have s3 : Hid (∀ t, t < news.length → (w.drew.cell? ⟨g, 0 + i * 4 + t, none⟩).isSome = true ∧ w.drew.frozen? ⟨g, 0 + i * 4 + t, none⟩ = false) := fun t ht => by
    rw [ld2] at ht
    rw [Nat.zero_add]
    exact hspot w.drew cur hdrew hsz _ (by omega)
  obtain ⟨W1, hW1⟩ : ∃ W1, W1 = w.drew.setCells g (0 + i * 4) news := ⟨_, rfl⟩
  have hW1s : W1 = setsW w.drew g (i * 4) news := by rw [hW1, setCells_sets, Nat.zero_add]
  have hH1 : W1.heap[g]? = some (.cells (setsA cur (i * 4) news) 34 (0, 0)) := by rw [hW1s]; exact setsW_heap _ _ _ _ _ _ hdrew
  have hcle : ∀ ty, (Builtin.clear_ #[23] ty #[.slice (some ⟨g, (i + (n - j)) * 4, none⟩) (n - (i + (n - j))) (cap - (i + (n - j)))]).run Tryz.prog W1 = .ok (.tuple #[]) (W1.setCells g ((i + (n - j)) * 4) zeroP) := fun ty => by
    rw [show n - (i + (n - j)) = 1 by omega]
    exact run_clear_pack W1 ty g _ _ (fun t ht => (hspot W1 _ hH1 (by rw [setsA_size]; exact hsz) _ (by omega)).1) (fun t ht => (hspot W1 _ hH1 (by rw [setsA_size]; exact hsz) _ (by omega)).2)
  have hpost : NRow packC 34 (W1.setCells g ((i + (n - j)) * 4) zeroP) N (.slice (some ⟨g, 0, none⟩) (i + (n - j)) cap) (L.take i ++ L.drop j) ∧ w.grownBy (W1.setCells g ((i + (n - j)) * 4) zeroP) (some g) := by
    rw [setCells_sets]
    have hg2 : w.grownBy (setsW W1 g ((i + (n - j)) * 4) zeroP) (some g) := by
      have h1 : w.grownBy w.drew (some g) := ⟨rfl, rfl, rfl, Nat.le_refl _, fun _ _ _ => rfl⟩
      have h2 := sets_grown news w.drew g (i * 4)
      rw [← hW1s] at h2
      have h3 := sets_grown zeroP W1 g ((i + (n - j)) * 4)
      exact ⟨h3.os.trans (h2.os.trans h1.os), h3.tape.trans (h2.tape.trans h1.tape), h3.output.trans (h2.output.trans h1.output), Nat.le_trans h1.size (Nat.le_trans h2.size h3.size), fun k hk hne => (h3.block k (Nat.lt_of_lt_of_le hk (Nat.le_trans h1.size h2.size)) hne).trans ((h2.block k (Nat.lt_of_lt_of_le hk h1.size) hne).trans (h1.block k hk hne))⟩
    have hsub : (L.take i ++ L.drop j).Sublist L := by
      have : (L.take i ++ L.drop i) = L := List.take_append_drop i L
      refine List.Sublist.trans (List.Sublist.append (List.Sublist.refl _) ?_) (by rw [this]; exact List.Sublist.refl _)
      rw [hj, ← List.drop_drop]
      exact List.drop_sublist _ _
    have hap : g ∉ itF L := h.apart g rfl
    have hlen : (L.take i ++ L.drop j).length = i + (n - j) := by rw [List.length_append, List.length_take, List.length_drop]; omega
    have hIt := (hL.sub hsub)
    refine ⟨⟨⟨?_, .inr ⟨g, cap, _, by rw [hlen], hN, setsW_heap _ _ _ _ _ _ hH1, by rw [hlen]; omega, hcm, by rw [setsA_size, setsA_size]; exact hsz, ?_⟩⟩, hIt.frame (fun k hk => hg2.block k (hIt.lt k hk) (fun e => hap ((itF_sub hsub).subset (by cases e; exact hk)))), fun g' hg' hm => by
      have : g = g' := by simpa [Value.ownBlock] using hg'
      subst this
      exact hap ((itF_sub hsub).subset hm)⟩, hg2⟩
    · exact itCells_len hIt
    · rw [itCells_app, ← hnews, hlen, en]
      apply List.ext_getElem?
      intro t
      by_cases ht : t < (i + (n - j)) * 4
      · rw [List.getElem?_take_of_lt ht, Array.getElem?_toList, setsA_off _ _ _ _ (.inl ht)]
        by_cases hti : t < i * 4
        · rw [setsA_off _ _ _ _ (.inl hti), List.getElem?_append_left (by omega)]
          have : (itCells (L.take i))[t]? = (itCells L)[t]? := by rw [es1, List.getElem?_append_left (by omega)]
          rw [this]
          cases hq : (itCells L)[t]? with
          | none =>
            have := List.getElem?_eq_none_iff.1 hq
            rw [itCells_len hL, hn, en] at this
            omega
          | some u => exact hcl t u hq
        · rw [List.getElem?_append_right (by omega), lt1]
          have e1 : t = i * 4 + (t - i * 4) := by omega
          have hlt : t - i * 4 < news.length := by rw [ld2]; omega
          have := setsA_at news cur (i * 4) (by rw [ld2, hsz]; omega) (t - i * 4) news[t - i * 4] (List.getElem?_eq_getElem hlt)
          rw [← e1] at this
          rw [this, List.getElem?_eq_getElem hlt]
      · rw [List.getElem?_eq_none (by rw [List.length_take]; omega), List.getElem?_eq_none (by rw [List.length_append, lt1, ld2]; omega)]
  have HP := hid hpost
  have hW : Hid (W1 = w.drew.setCells g (0 + i * 4) news) := hW1
  have HJ := hid hj
  clear hpost h hj hL hcl hdrew hspot hW1 hW1s hH1 es1 es2 lt1 lt2 ld1 ld2 hcells hg hsz hnews
  have mixed : Tryz.prog.follows .mixedOrders = true := by kernel_rfl
  go_enter Tryz.func88, Tryz.ntmps88
  go_wp2_with fail
  go_region_law_o (refine step_append_room rfl (.tmp 22) (.tmp 25) 23 rfl 34 i0 4 Tryz.underlying23 hi0 hz1 g 0 i cap (by simp [Act.eval, Act.put]) A (n - j) (cap - j) news (by simp [Act.eval, Act.put]) s1.out hsrc.out s2.out (by omega) s3.out ?_; rw [← hW.out])
  go_wp2_with fail
  go_ret
  exact ⟨_, rfl, (unhid HP).1, (unhid HP).2, rfl⟩
end Go.Proofs.YtoihhlkidlapmaaGreat

namespace Go.Proofs.YtoihhlkidlapmaaGreat
open Go.RowKit Go.Shelf Go.Lib
end Go.Proofs.YtoihhlkidlapmaaGreat

namespace Go.Proofs.YtoihhlkidlapmaaGreat
open Go.RowKit Go.Shelf
set_option maxRecDepth 100000 in
set_option maxHeartbeats 4000000 in
theorem packsByName_any (ps : List packC.D) (v : Value) (w : World) (hs : smallPs ps) (h : rowAt packC w v ps) :
    Calls Tryz.prog 217 #[v] w fun x w' => x = .returned (.bool (formB ps)) ∧ Below w.heap.size w w' := by
  obtain ⟨a, cap, rfl, -, -, h⟩ := h
  obtain ⟨hlen, hz⟩ := hs
  have HZ := hid hz
  have H := hid h
  clear hz h
  go_enter Tryz.func217, Tryz.ntmps217
  go_wp2_with fail
  go_loopw [7] (fun i wr => ∃ k : Nat, k ≤ ps.length ∧ i = .int .i64 (k : Int) ∧ Hid ((List.range k).all (okAt ps) = true) ∧ Hid (Below w.heap.size w wr)) (fun i _ => ps.length - (intOf i).toNat)
  case atStart => exact ⟨0, Nat.zero_le _, rfl, hid rfl, hid (Below.refl _ _)⟩
  case round =>
    obtain ⟨k, hk, rfl, HA, HB⟩ := hrel
    by_cases hlt : k < ps.length
    · obtain ⟨e, he⟩ : ∃ e, ps[k]? = some e := ⟨ps[k], List.getElem?_eq_getElem hlt⟩
      obtain ⟨b, o, rfl, hbl, hc⟩ := (unhid H).resolve_left (by intro e; subst e; simp at hlt)
      obtain ⟨na, nc, ta, tc, ⟨c0, c1, c2, c3⟩, hat⟩ := pack_cells (unhid HB) hbl hc he
      have HAT := hid hat
      have HE := hid he
      have SP := hid (unhid HZ e (List.mem_of_getElem? he))
      have HC := hid hc
      have HBL := hid hbl
      have HB0 := hid (show ∀ x, Below w.heap.size w (wr.alloc x) from fun x => (unhid HB).alloc (unhid HB).size x)
      have HB1 := hid (show ∀ x, Below wr.heap.size wr (wr.alloc x) from fun x => (Below.refl _ wr).alloc (Nat.le_refl _) x)
      clear hc he hbl hat
      go_wp2_with fail
      have hbox := World.alloc_heap_new wr (.cells #[.string (PackD.name e), .string (PackD.version e), .slice na (PackD.needs e).length nc, .slice ta (PackD.tree e).length tc] 34)
      have hB1 := unhid HB1 (.cells #[.string (PackD.name e), .string (PackD.version e), .slice na (PackD.needs e).length nc, .slice ta (PackD.tree e).length tc] 34)
      have hB0 := unhid HB0 (.cells #[.string (PackD.name e), .string (PackD.version e), .slice na (PackD.needs e).length nc, .slice ta (PackD.tree e).length tc] 34)
      have hlw : wr.heap.size < (wr.alloc (.cells #[.string (PackD.name e), .string (PackD.version e), .slice na (PackD.needs e).length nc, .slice ta (PackD.tree e).length tc] 34)).heap.size := by simp
      generalize wr.alloc (.cells #[.string (PackD.name e), .string (PackD.version e), .slice na (PackD.needs e).length nc, .slice ta (PackD.tree e).length tc] 34) = W0 at hbox hB1 hB0 hlw ⊢
      have BX := hid hbox
      have HB2 := hid hB0
      have HB3 := hid hB1
      have HLW := hid hlw
      clear hbox hB0 hB1 hlw HB0 HB1 c0 c1 c2 c3
      have g0 : ∀ x : CW (fun w' => Below W0.heap.size W0 w'), x.w.cell? ⟨wr.heap.size, 0, none⟩ = some (.string (PackD.name e)) := fun x => cell_arrS ((x.h.block _ (unhid HLW)).trans (unhid BX)) 0 _ rfl
      have g1 : ∀ x : CW (fun w' => Below W0.heap.size W0 w'), x.w.cell? ⟨wr.heap.size, 1, none⟩ = some (.string (PackD.version e)) := fun x => cell_arrS ((x.h.block _ (unhid HLW)).trans (unhid BX)) 1 _ rfl
      have g2 : ∀ x : CW (fun w' => Below W0.heap.size W0 w'), x.w.cell? ⟨wr.heap.size, 2, none⟩ = some (.slice na (PackD.needs e).length nc) := fun x => cell_arrS ((x.h.block _ (unhid HLW)).trans (unhid BX)) 2 _ rfl
      have g3 : ∀ x : CW (fun w' => Below W0.heap.size W0 w'), x.w.cell? ⟨wr.heap.size, 3, none⟩ = some (.slice ta (PackD.tree e).length tc) := fun x => cell_arrS ((x.h.block _ (unhid HLW)).trans (unhid BX)) 3 _ rfl
      have hba : ∀ {q : Prop}, (CW (fun w' => Below W0.heap.size W0 w') → q) ↔ q := CW.all (Below.refl _ W0)
      have HAT0 := hid (packC.below (unhid HAT) (unhid HB3))
      -- behind a name that is not behind the one ahead of it nothing is asked
      by_cases hk0 : k = 0
      · subst hk0
        have EK := hid (okAt_0 (unhid HE))
        refine held_begin (fun w' => Below W0.heap.size W0 w') (by kernel_rfl) (drew_belowS _) ?_
        refine held_here [true, true, true, true, true, true, true, true, true, true, true, true, true, true, true] (by kernel_rfl) (by kernel_rfl) (fun _ _ _ _ _ h => h) (drew_belowS _) ?_
        dsimp only [pick]
        repeat (go_big_quiet_step (fail))
        refine wpQuiet_nil ?_
        have hD := drew_belowS (B := W0.heap.size) W0
        generalize W0.drew = W1 at hD ⊢
        clear g0 g1 g2 g3
        refine held_call 15 60 27 (enters_of Tryz.func60 (by kernel_rfl) rfl) #[.agg #[.string (PackD.name e), .string (PackD.version e), .slice na (PackD.needs e).length nc, .slice ta (PackD.tree e).length tc]] (by kernel_rfl) (by kernel_rfl) rfl rfl rfl rfl rfl ?_
        refine (packOk_any e _ W1 (unhid SP) (packC.below (unhid HAT0) hD)).mono ?_
        rintro r w2 ⟨rfl, hb⟩
        have hD2 := hD.trans (hb.mono hD.size)
        have HB4 := hid ((unhid HB2).trans (hD2.mono (unhid HB2).size))
        refine ⟨_, rfl, hD2, ?_⟩
        simp only [Act.put, List.setIfInBounds_toArray, List.set_cons_zero, List.set_cons_succ]
        clear hb
        cases hq : pkOk e with
        | false =>
          refine held_here [false, false, false, false, false, false, false, false, false, false, false, false, false, false, false, false, true, true] (by kernel_rfl) (by kernel_rfl) (fun _ _ _ _ _ h => h) hD2 ?_
          dsimp only [pick]
          repeat (go_big_quiet_step (fail))
          refine wpQuiet_nil ?_
          refine held_done (by kernel_rfl) ?_
          clear hba hD hD2
          go_wp2_with fail
          go_ret
          exact ⟨by unfold formB; rw [all_range_no hlt (by rw [unhid EK, hq])]; rfl, unhid HB4⟩
        | true =>
          have HQ := hid hq
          clear hq
          refine held_here [false, false, false, false, false, false, false, false, false, false, false, false, false, false, false, false, true, true] (by kernel_rfl) (by kernel_rfl) (fun _ _ _ _ _ h => h) hD2 ?_
          dsimp only [pick]
          repeat (go_big_quiet_step (fail))
          refine wpQuiet_nil ?_
          refine held_done (by kernel_rfl) ?_
          clear hba hD hD2
          go_wp2_with fail
          go_roundw
          case rel => exact ⟨1, by omega, by go_num, hid (all_range_snoc rfl (by rw [unhid EK, unhid HQ])), HB4⟩
          case measure => simp [intOf]; omega
      · obtain ⟨j, rfl⟩ : ∃ j, k = j + 1 := ⟨k - 1, by omega⟩
        obtain ⟨d, hd⟩ : ∃ d, ps[j]? = some d := ⟨ps[j], List.getElem?_eq_getElem (by omega)⟩
        obtain ⟨-, -, -, -, ⟨d0, -, -, -⟩, -⟩ := pack_cells (unhid HB) (unhid HBL) (unhid HC) hd
        have EK := hid (okAt_s (unhid HE) hd)
        have hbw : b < wr.heap.size := Nat.lt_of_lt_of_le (unhid HBL) (unhid HB).size
        have g4 : ∀ x : CW (fun w' => Below W0.heap.size W0 w'), x.w.cell? ⟨b, o + j * 4, none⟩ = some (.string (PackD.name d)) := fun x => (x.h.cell (p := ⟨b, o + j * 4, none⟩) (Nat.lt_of_lt_of_le hbw (unhid HB3).size)).trans (((unhid HB3).cell (p := ⟨b, o + j * 4, none⟩) hbw).trans d0)
        have hjj : ((j + 1 : Nat) : Int) - 1 = (j : Int) := by omega
        have HD := hid hd
        clear hd d0
        have hle := le_not_lt (PackD.name e) (PackD.name d)
        cases hls : ltS (PackD.name d) (PackD.name e) with
        | false =>
          rw [hls] at hle
          have hle2 : (Op.bytesLess (PackD.name e).toList (PackD.name d).toList || (PackD.name e).toList == (PackD.name d).toList) = true := hle
          clear hle
          refine held_begin (fun w' => Below W0.heap.size W0 w') (by kernel_rfl) (drew_belowS _) ?_
          refine held_here [true, true, true, true, true, true, true, true, true, true, true, true, true, true, true] (by kernel_rfl) (by kernel_rfl) (fun _ _ _ _ _ h => h) (drew_belowS _) ?_
          dsimp only [pick]
          repeat (go_big_quiet_step (fail))
          refine wpQuiet_nil ?_
          have hD := drew_belowS (B := W0.heap.size) W0
          generalize W0.drew = W1 at hD ⊢
          clear g0 g1 g2 g3 g4
          refine held_skip 15 27 (by kernel_rfl) (by kernel_rfl) rfl rfl rfl hD ?_
          have hD2 := hD
          have HB4 := hid ((unhid HB2).trans (hD2.mono (unhid HB2).size))
          simp only [Act.put, List.setIfInBounds_toArray, List.set_cons_zero, List.set_cons_succ]
          refine held_here [false, false, false, false, false, false, false, false, false, false, false, false, false, false, false, false, true, true] (by kernel_rfl) (by kernel_rfl) (fun _ _ _ _ _ h => h) hD2 ?_
          dsimp only [pick]
          repeat (go_big_quiet_step (fail))
          refine wpQuiet_nil ?_
          refine held_done (by kernel_rfl) ?_
          clear hba hD hD2
          go_wp2_with fail
          go_ret
          exact ⟨by unfold formB; rw [all_range_no hlt (by rw [unhid EK, hls, Bool.and_false])]; rfl, unhid HB4⟩
        | true =>
          rw [hls] at hle
          have hle2 : (Op.bytesLess (PackD.name e).toList (PackD.name d).toList || (PackD.name e).toList == (PackD.name d).toList) = false := hle
          have HLS := hid hls
          clear hle hls
          refine held_begin (fun w' => Below W0.heap.size W0 w') (by kernel_rfl) (drew_belowS _) ?_
          refine held_here [true, true, true, true, true, true, true, true, true, true, true, true, true, true, true] (by kernel_rfl) (by kernel_rfl) (fun _ _ _ _ _ h => h) (drew_belowS _) ?_
          dsimp only [pick]
          repeat (go_big_quiet_step (fail))
          refine wpQuiet_nil ?_
          have hD := drew_belowS (B := W0.heap.size) W0
          generalize W0.drew = W1 at hD ⊢
          clear g0 g1 g2 g3 g4
          refine held_call 15 60 27 (enters_of Tryz.func60 (by kernel_rfl) rfl) #[.agg #[.string (PackD.name e), .string (PackD.version e), .slice na (PackD.needs e).length nc, .slice ta (PackD.tree e).length tc]] (by kernel_rfl) (by kernel_rfl) rfl rfl rfl rfl rfl ?_
          refine (packOk_any e _ W1 (unhid SP) (packC.below (unhid HAT0) hD)).mono ?_
          rintro r w2 ⟨rfl, hb⟩
          have hD2 := hD.trans (hb.mono hD.size)
          have HB4 := hid ((unhid HB2).trans (hD2.mono (unhid HB2).size))
          refine ⟨_, rfl, hD2, ?_⟩
          simp only [Act.put, List.setIfInBounds_toArray, List.set_cons_zero, List.set_cons_succ]
          clear hb
          cases hq : pkOk e with
          | false =>
            refine held_here [false, false, false, false, false, false, false, false, false, false, false, false, false, false, false, false, true, true] (by kernel_rfl) (by kernel_rfl) (fun _ _ _ _ _ h => h) hD2 ?_
            dsimp only [pick]
            repeat (go_big_quiet_step (fail))
            refine wpQuiet_nil ?_
            refine held_done (by kernel_rfl) ?_
            clear hba hD hD2
            go_wp2_with fail
            go_ret
            exact ⟨by unfold formB; rw [all_range_no hlt (by rw [unhid EK, hq]; rfl)]; rfl, unhid HB4⟩
          | true =>
            have HQ := hid hq
            clear hq
            refine held_here [false, false, false, false, false, false, false, false, false, false, false, false, false, false, false, false, true, true] (by kernel_rfl) (by kernel_rfl) (fun _ _ _ _ _ h => h) hD2 ?_
            dsimp only [pick]
            repeat (go_big_quiet_step (fail))
            refine wpQuiet_nil ?_
            refine held_done (by kernel_rfl) ?_
            clear hba hD hD2
            go_wp2_with fail
            go_roundw
            case rel => exact ⟨j + 1 + 1, by omega, by go_num, hid (all_range_snoc (unhid HA) (by rw [unhid EK, unhid HQ, unhid HLS]; rfl)), HB4⟩
            case measure => simp [intOf]; omega
    · have e : k = ps.length := by omega
      subst e
      go_wp2_with fail
      go_ret
      exact ⟨by unfold formB; rw [unhid HA]; rfl, unhid HB⟩
end Go.Proofs.YtoihhlkidlapmaaGreat

namespace Go.Proofs.YtoihhlkidlapmaaGreat
open Go.RowKit Go.Shelf
def withoutP (q : ByteArray) (ps : List packC.D) : List packC.D := List.filter (α := packC.D) (fun p => !decide (PackD.name p = q)) ps
theorem item_cells {w W : World} {N : Nat} {v : Value} {L : List (It packC)} {k : Nat} {t : It packC} (h : NRow packC 34 w N v L) (ht : L[k]? = some t) (hb : Below w.heap.size w W) : ∃ (g cap : Nat) (na : Option Addr) (nc : Nat) (ta : Option Addr) (tc : Nat), v = .slice (some ⟨g, 0, none⟩) L.length cap ∧ g < w.heap.size ∧
    t.1 = [.string (PackD.name t.2.1), .string (PackD.version t.2.1), .slice na (PackD.needs t.2.1).length nc, .slice ta (PackD.tree t.2.1).length tc] ∧
    W.cell? ⟨g, k * 4, none⟩ = some (.string (PackD.name t.2.1)) ∧ W.cell? ⟨g, k * 4 + 1, none⟩ = some (.string (PackD.version t.2.1)) ∧ W.cell? ⟨g, k * 4 + 2, none⟩ = some (.slice na (PackD.needs t.2.1).length nc) ∧ W.cell? ⟨g, k * 4 + 3, none⟩ = some (.slice ta (PackD.tree t.2.1).length tc) := by
  have hkl := (List.getElem?_eq_some_iff.1 ht).1
  rcases h.row.2 with ⟨_, h0⟩ | ⟨g, cap, cur, hv, hN, hg, hc, _, hsz, hcells⟩
  · omega
  · have hown := h.items.each t (List.mem_of_getElem? ht)
    have hgl := (Array.getElem?_eq_some_iff.1 hg).1
    obtain ⟨v2, v3, F2, F3, e, _, h2, h3, _⟩ := packC_own hown
    obtain ⟨na, nc, rfl⟩ := rowOwn.slice h2
    obtain ⟨ta, tc, rfl⟩ := rowOwn.slice h3
    have key : ∀ j u, t.1[j]? = some u → W.cell? ⟨g, k * 4 + j, none⟩ = some u := fun j u hj => by
      have hj4 : j < packC.n := by rw [← packC.len hown]; exact (List.getElem?_eq_some_iff.1 hj).1
      have h1 := itCells_get (fun t ht => packC.len (h.items.each t ht)) k t ht j hj4
      have en : packC.n = 4 := rfl
      rw [en] at h1 hj4 hcells
      rw [hj, ← hcells, List.getElem?_take_of_lt (by omega), Array.getElem?_toList] at h1
      exact (hb.cell (p := ⟨g, k * 4 + j, none⟩) hgl).trans (cell_arrS hg _ _ h1)
    rw [e] at key
    exact ⟨g, cap, na, nc, ta, tc, hv, hgl, e, key 0 _ rfl, key 1 _ rfl, key 2 _ rfl, key 3 _ rfl⟩
end Go.Proofs.YtoihhlkidlapmaaGreat

namespace Go.Proofs.YtoihhlkidlapmaaGreat
open Go.RowKit Go.Shelf
theorem op_items {K : CK} {t e : Nat} (hET : ET K t e) (h1 : OneC K) {ops : Array Oper} {o : Oper} {a : Act} (w : World) {Q : Exit → Act → World → Prop} {K' : Act → World → Prop} (d : Nat) (s x : Operand) (ho : o.op = .call { callee := .builtin .append, args := #[s, x], argTypes := #[t, t] }) (hw : Region.wanted o (yielded ops a.tmps) = true) (hd : o.dst = some d)
    (N : Nat) (v : Value) (L M : List (It K)) (b of c : Nat) (h : NRow K e w N v L) (hM : Items K w N (L ++ M)) (hap : ∀ g, v.ownBlock = some g → g ∉ itF M) (hcell : ∀ j u, (itCells M)[j]? = some u → w.cell? ⟨b, of + j, none⟩ = some u) (hn : L.length + M.length ≤ 4194304) (hN : N ≤ w.heap.size) (hs : a.eval s = v) (hx : a.eval x = .slice (some ⟨b, of, none⟩) M.length c)
    (hk : ∀ v' w', RowGrew K e w N v (L ++ M) v' w' → K' (a.put (some d) v') w') : if Region.wanted o (yielded ops a.tmps) = true then Oper.wp Tryz.prog o a w K' Q else K' (a.put o.dst undef) w := by
  rw [if_pos hw]
  obtain ⟨v', w', hr, h2, h3, h4, h5⟩ := app_items hET h1 w o.type N v L M b of c h hM hap hcell hn hN
  unfold Oper.wp execOp
  simp only [ho, resolve, invoke, builtin, Sem.run_bind, Sem.run_pure, Result.andThen_ok, List.map_toArray, List.map_cons, List.map_nil, hs, hx, hr]
  show K' (a.put o.dst v') w'
  rw [hd]
  refine hk v' w' ⟨h2, h3, h4, ?_⟩
  rw [h5, List.length_append]
  constructor
  · rintro ⟨rfl, h0⟩
    refine ⟨rfl, ?_⟩
    rcases h.row.2 with ⟨_, hl⟩ | ⟨g, cap, cur, hv, _⟩
    · omega
    · cases hv
  · rintro ⟨h0, h1⟩
    exact ⟨h0, by omega⟩
theorem NRow.lower {K : CK} {e : Nat} {W : World} {N M : Nat} {v : Value} {L : List (It K)} (h : NRow K e W N v L) (hM : M ≤ N) : NRow K e W M v L := by
  refine ⟨⟨h.row.1, ?_⟩, ⟨h.items.each, h.items.nodup, fun k hk => Nat.le_trans hM (h.items.base k hk)⟩, h.apart⟩
  rcases h.row.2 with h1 | ⟨g, cap, cur, hv, hN, hr⟩
  · exact .inl h1
  · exact .inr ⟨g, cap, cur, hv, by omega, hr⟩
structure CopyW (w wr : World) (g : Nat) (v u : Value) : Prop where
  box : wr.heap[g]? = some (.cells #[v] 51 (0, 0))
  res : wr.heap[g + 1]? = some (.cells #[.slice none 0 0] 51 (0, 0))
  out : wr.heap[g + 1 + 1]? = some (.cells #[u] 51 (0, 0))
  size : g + 1 + 1 < wr.heap.size
  below : Below g w wr
theorem grown_transR {a b c : World} {r : Option Nat} (h : a.grownBy b r) (h2 : b.grownBy c r) : a.grownBy c r := ⟨h2.os.trans h.os, h2.tape.trans h.tape, h2.output.trans h.output, Nat.le_trans h.size h2.size, fun k hk hne => (h2.block k (Nat.lt_of_lt_of_le hk h.size) hne).trans (h.block k hk hne)⟩
theorem below_grown {a b : World} (r : Option Nat) (h : Below a.heap.size a b) : a.grownBy b r := ⟨h.os, h.tape, h.output, h.size, fun k hk _ => h.block k hk⟩
theorem CopyW.grown {w wr W : World} {g : Nat} {v u : Value} {r : Option Nat} (h : CopyW w wr g v u) (hg : wr.grownBy W r) (hr : ∀ k, r = some k → g + 1 + 1 < k) : CopyW w W g v u := by
  have hs := h.size
  have hb : ∀ k, k ≤ g + 1 + 1 → W.heap[k]? = wr.heap[k]? := fun k hk => hg.block k (by omega) (fun e => by have := hr k e.symm; omega)
  exact ⟨(hb _ (by omega)).trans h.box, (hb _ (by omega)).trans h.res, (hb _ (by omega)).trans h.out, Nat.lt_of_lt_of_le hs hg.size, h.below.grown hg (by omega) (fun k e => by have := hr k e; omega)⟩
theorem CopyW.store {w W : World} {g : Nat} {v u : Value} (h : CopyW w W g v u) (u' : Value) : CopyW w (W.setCell ⟨g + 1 + 1, 0, none⟩ u') g v u' :=
  ⟨(Below.heap_setCell _ _ _ _ (by dsimp only; omega)).trans h.box, (Below.heap_setCell _ _ _ _ (by dsimp only; omega)).trans h.res, heap_setCell_same W (g + 1 + 1) 0 _ _ u' h.out, by simpa using h.size, h.below.setCell (by dsimp only; omega) _⟩
set_option maxRecDepth 100000 in
set_option maxHeartbeats 8000000 in
theorem l9Copy_any (ps : List packC.D) (v : Value) (w : World) (hs : smallPs ps) (h : rowAt packC w v ps) :
    Calls Tryz.prog 91 #[.agg #[v]] w fun x w' => ∃ (u : Value) (L : List (It packC)), x = .returned (.agg #[u]) ∧ NRow packC 34 w' w.heap.size u L ∧ itD L = ps ∧ Below w.heap.size w w' := by
  obtain ⟨a, cap, rfl, -, -, h⟩ := h
  have hlen := hs.1
  have HSM := hid hs
  have H := hid h
  clear h hs
  go_enter Tryz.func91, Tryz.ntmps91
  go_wp2_with fail
  obtain ⟨hP, hR, hO, hS, hB⟩ := three_boxes w (.cells #[.slice a ps.length cap] 51) (.cells #[.slice none 0 0] 51) (.cells #[.slice none 0 0] 51)
  generalize ((w.alloc (.cells #[.slice a ps.length cap] 51)).alloc (.cells #[.slice none 0 0] 51)).alloc (.cells #[.slice none 0 0] 51) = W0 at hP hR hO hS hB ⊢
  have HC0 := hid (CopyW.mk hP hR hO hS hB)
  clear hP hR hO hS hB
  go_loopw [4] (fun i wr => ∃ (k : Nat) (L : List (It packC)) (ga : Option Addr) (c : Nat), k ≤ ps.length ∧ i = .int .i64 (k : Int) ∧ Hid (L.length = k) ∧ Hid (itD L = ps.take k) ∧ Hid (NRow packC 34 wr (w.heap.size + 1 + 1 + 1) (.slice ga k c) L) ∧ Hid (CopyW w wr w.heap.size (.slice a ps.length cap) (.slice ga k c))) (fun i _ => ps.length - (intOf i).toNat)
  case atStart => exact ⟨0, [], none, 0, Nat.zero_le _, rfl, hid rfl, hid (by simp [itD]), hid (NRow.none _ _), HC0⟩
  case round =>
    clear HC0
    obtain ⟨k, L, ga, c, hk, rfl, HK, HL, HR, HC⟩ := hrel
    have o0 := cell_arrS (unhid HC).box 0 _ rfl
    by_cases hlt : k < ps.length
    · obtain ⟨e, he⟩ : ∃ e, ps[k]? = some e := ⟨ps[k], List.getElem?_eq_getElem hlt⟩
      obtain ⟨b, o, rfl, hbl, hc⟩ := (unhid H).resolve_left (by intro e; subst e; simp at hlt)
      obtain ⟨na, nc, ta, tc, ⟨c0, c1, c2, c3⟩, hat⟩ := pack_cells (unhid HC).below hbl hc he
      have hsp := (unhid HSM).2 e (List.mem_of_getElem? he)
      have hsz : (PackD.needs e).length ≤ 4194304 ∧ (PackD.tree e).length ≤ 4194304 := ⟨by have := hsp.needs.1; omega, by have := hsp.tree.1; rw [entsD_len] at this; omega⟩
      have HE := hid he
      have hrb : ∀ k', (Value.slice ga k c).ownBlock = some k' → w.heap.size + 1 + 1 < k' := fun k' hk' => by have := ((unhid HR).base k' (.inl hk')).1; omega
      have cellx : ∀ (x : CW (fun w' => wr.grownBy w' (Value.slice ga k c).ownBlock)) (p : Addr) (u : Value), p.block ≤ w.heap.size + 1 + 1 → wr.cell? p = some u → x.w.cell? p = some u := fun x p u hp hu => x.h.cell hu (fun e => by have := hrb _ e.symm; omega)
      have gq0 : ∀ x : CW (fun w' => wr.grownBy w' (Value.slice ga k c).ownBlock), x.w.cell? ⟨w.heap.size, 0, none⟩ = some (.slice (some ⟨b, o, none⟩) ps.length cap) := fun x => cellx x _ _ (by dsimp only; omega) o0
      have gq1 : ∀ x : CW (fun w' => wr.grownBy w' (Value.slice ga k c).ownBlock), x.w.cell? ⟨w.heap.size + 1 + 1, 0, none⟩ = some (.slice ga k c) := fun x => cellx x _ _ (by dsimp only; omega) (cell_arrS (unhid HC).out 0 _ rfl)
      have gc0 : ∀ x : CW (fun w' => wr.grownBy w' (Value.slice ga k c).ownBlock), x.w.cell? ⟨b, o + k * 4, none⟩ = some (.string (PackD.name e)) := fun x => cellx x _ _ (by dsimp only; omega) c0
      have gc1 : ∀ x : CW (fun w' => wr.grownBy w' (Value.slice ga k c).ownBlock), x.w.cell? ⟨b, o + k * 4 + 1, none⟩ = some (.string (PackD.version e)) := fun x => cellx x _ _ (by dsimp only; omega) c1
      have gc2 : ∀ x : CW (fun w' => wr.grownBy w' (Value.slice ga k c).ownBlock), x.w.cell? ⟨b, o + k * 4 + 2, none⟩ = some (.slice na (PackD.needs e).length nc) := fun x => cellx x _ _ (by dsimp only; omega) c2
      have gc3 : ∀ x : CW (fun w' => wr.grownBy w' (Value.slice ga k c).ownBlock), x.w.cell? ⟨b, o + k * 4 + 3, none⟩ = some (.slice ta (PackD.tree e).length tc) := fun x => cellx x _ _ (by dsimp only; omega) c3
      have hd0 : wr.grownBy wr.drew (Value.slice ga k c).ownBlock := ⟨rfl, rfl, rfl, Nat.le_refl _, fun _ _ _ => rfl⟩
      have HD0 := hid hd0
      have hbd : Below wr.heap.size wr wr.drew := ⟨rfl, rfl, rfl, Nat.le_refl _, fun _ _ => rfl⟩
      have JN := hid (l9Pack_any e _ wr.drew hsz (packC.below hat hbd))
      have HBD := hid hbd
      clear hat hc he hbl hsp hsz hrb cellx c0 c1 c2 c3 hbd
      go_wp2_with fail
      clear o0
      have hba : ∀ {q : Prop}, (CW (fun w' => wr.grownBy w' (Value.slice ga k c).ownBlock) → q) ↔ q := CW.all hd0
      refine heldE_begin 11 (fun w' => wr.grownBy w' (Value.slice ga k c).ownBlock) (by kernel_rfl) ?_
      refine heldE_here [true, true, true, true, true, true, true] (by kernel_rfl) (by kernel_rfl) (fun _ _ _ _ _ h => h) hd0 ?_
      dsimp only [pick]
      repeat (go_big_quiet_step (fail))
      refine wpQuiet_nil ?_
      clear hba hd0 gq0 gq1 gc0 gc1 gc2 gc3
      refine heldE_op 7 (by kernel_rfl) (by kernel_rfl) rfl (fun K hK => ?_)
      refine call_op 147 20 (enters_of Tryz.func147 (by kernel_rfl) rfl) #[.agg #[.string (PackD.name e), .string (PackD.version e), .slice na (PackD.needs e).length nc, .slice ta (PackD.tree e).length tc]] rfl rfl rfl rfl ?_
      refine (unhid JN).mono ?_
      rintro x w2 ⟨cs, F, rfl, hown, hF, hb⟩
      obtain ⟨v2, v3, F2, F3, rfl, -, -, -, -⟩ := packC_own hown
      have hbb : Below wr.heap.size wr w2 := (unhid HBD).trans hb
      have hg2 := below_grown (Value.slice ga k c).ownBlock hbb
      have HX := hid (And.intro hbb (And.intro hown hF))
      refine ⟨_, rfl, hK.out _ _ hg2 ?_⟩
      clear hK K hown hF hb hbb JN HBD HD0
      simp only [Act.put, List.setIfInBounds_toArray, List.set_cons_zero, List.set_cons_succ]
      refine heldE_op 8 (by kernel_rfl) (by kernel_rfl) rfl (fun K hK => ?_)
      go_simp
      obtain ⟨hbb, hown, hF⟩ := unhid HX
      have hnew := World.alloc_heap_new w2 (.cells #[.string (PackD.name e), .string (PackD.version e), v2, v3] 34)
      have hb2 := (Below.refl w2.heap.size w2).alloc (Nat.le_refl _) (.cells #[.string (PackD.name e), .string (PackD.version e), v2, v3] 34)
      have hNs : w.heap.size + 1 + 1 + 1 ≤ wr.heap.size := (unhid HC).size
      obtain ⟨q1, q2, q3⟩ := items_new (unhid HR) hNs hbb hown (fun k hk => (hF k hk).1) hb2
      have hb3 := hbb.trans (hb2.mono hbb.size)
      have hg3 := below_grown (Value.slice ga k c).ownBlock hb3
      have hcl : ∀ j u, (itCells [(([.string (PackD.name e), .string (PackD.version e), v2, v3], e, F) : It packC)])[j]? = some u → (w2.alloc (.cells #[.string (PackD.name e), .string (PackD.version e), v2, v3] 34)).cell? ⟨w2.heap.size, 0 + j, none⟩ = some u := fun j u hj => by
        rw [Nat.zero_add]
        refine cell_arrS hnew j u ?_
        have hj' : [.string (PackD.name e), .string (PackD.version e), v2, v3][j]? = some u := by simpa [itCells] using hj
        simpa using hj'
      have hNs3 : w.heap.size + 1 + 1 + 1 ≤ (w2.alloc (.cells #[.string (PackD.name e), .string (PackD.version e), v2, v3] 34)).heap.size := Nat.le_trans hNs hb3.size
      refine hK.out _ _ hg3 ?_
      clear hK K hg2 hbb hown hF HX hnew hb2 hb3
      generalize w2.alloc (.cells #[.string (PackD.name e), .string (PackD.version e), v2, v3] 34) = w3 at *
      generalize w2.heap.size = gs at *
      refine heldE_op 9 (by kernel_rfl) (by kernel_rfl) rfl (fun K hK => ?_)
      refine op_items etPack onePack w3 22 _ _ rfl rfl rfl (w.heap.size + 1 + 1 + 1) (.slice ga k c) L [(([.string (PackD.name e), .string (PackD.version e), v2, v3], e, F) : It packC)] gs 0 1 q1 q2 q3 hcl (by rw [unhid HK]; simp only [List.length_singleton]; omega) hNs3 rfl rfl ?_
      intro v' w4 hg
      obtain ⟨ga', c', hv'⟩ := grew_slice hg
      have hl2 : (L ++ [(([.string (PackD.name e), .string (PackD.version e), v2, v3], e, F) : It packC)]).length = k + 1 := by rw [List.length_append, unhid HK]; rfl
      rw [hl2] at hv'
      subst hv'
      have hg4 := grown_transR hg3 hg.by_
      have HC4 := hid ((unhid HC).grown hg4 (fun k' hk' => by have := ((unhid HR).base k' (.inl hk')).1; omega))
      have HN := hid hg.row
      have HL2 := hid (show itD (L ++ [(([.string (PackD.name e), .string (PackD.version e), v2, v3], e, F) : It packC)]) = ps.take (k + 1) by
        rw [itD_app, unhid HL, List.take_add_one, unhid HE]; rfl)
      have HK2 := hid hl2
      generalize L ++ [(([.string (PackD.name e), .string (PackD.version e), v2, v3], e, F) : It packC)] = L2 at *
      refine hK.out _ _ hg4 ?_
      clear hK K hg hg3 hl2 q1 q2 q3 hcl hNs3
      simp only [Act.put, List.setIfInBounds_toArray, List.set_cons_zero, List.set_cons_succ]
      have hba : ∀ {q : Prop}, (CW (fun w' => wr.grownBy w' (Value.slice ga k c).ownBlock) → q) ↔ q := CW.all hg4
      refine heldE_here [false, false, false, false, false, false, false, false, false, false, true] (by kernel_rfl) (by kernel_rfl) (fun _ _ _ _ _ h => h) hg4 ?_
      dsimp only [pick]
      repeat (go_big_quiet_step (fail))
      refine wpQuiet_nil ?_
      clear hba hg4
      obtain ⟨o2, p2⟩ := cell_fz (unhid HC4).out 0 _ rfl
      refine heldE_last (by kernel_rfl) (by kernel_rfl) rfl (fun K hK => ?_)
      go_simp
      refine hK.out _ _ ?_
      clear hK K o2 p2
      refine heldE_done (by kernel_rfl) ?_
      have HC5 := hid ((unhid HC4).store (.slice ga' ((k + 1 : Nat)) c'))
      have HN5 := hid ((unhid HN).frame (W' := w4.setCell ⟨w.heap.size + 1 + 1, 0, none⟩ (.slice ga' ((k + 1 : Nat)) c')) (fun k' hk' => Below.heap_setCell _ _ _ _ (by have := ((unhid HN).base k' hk').1; dsimp only; omega)))
      clear HC4 HN HC HR
      go_wp2_with fail
      go_roundw
      case rel => exact ⟨k + 1, L2, ga', c', by omega, by go_num, HK2, HL2, HN5, HC5⟩
      case measure => simp [intOf]; omega
    · have e : k = ps.length := by omega
      subst e
      have HL2 := hid (show itD L = ps by have := unhid HL; rwa [List.take_length] at this)
      obtain ⟨o2, p2⟩ := cell_fz (unhid HC).out 0 _ rfl
      obtain ⟨o1, p1⟩ := cell_fz (unhid HC).res 0 _ rfl
      go_wp2_with fail
      refine bodyPost_ret (v := .agg #[.slice ga ps.length c]) (by simp [results, Tryz.results91, go_sem, World.cell?_setCell_same', o1]) rfl ⟨_, L, rfl, ((unhid HR).frame (fun k' hk' => Below.heap_setCell _ _ _ _ (by have := ((unhid HR).base k' hk').1; dsimp only; omega))).lower (by omega), unhid HL2, (unhid HC).below.setCell (by dsimp only; omega) _⟩
end Go.Proofs.YtoihhlkidlapmaaGreat

namespace Go.Proofs.YtoihhlkidlapmaaGreat
open Go.Shelf Go.RowKit
def sh_lays106_ren : Go.Shelf.Ren := ⟨fun | 106 => 143 | 213 => 213 | 265 => 259 | n => n, fun | 9 => 9 | 3 => 3 | n => n, fun | n => n⟩
theorem sh_lays106 : Go.Proofs.Lays.n106 Tryz.prog sh_lays106_ren := {
  mixed := by kernel_rfl
  f106 := Tryz.func143.trans (congrArg some (by kernel_rfl))
  f213 := Tryz.func213.trans (congrArg some (by kernel_rfl))
  f265 := Tryz.func259.trans (congrArg some (by kernel_rfl))
  t3 := Tryz.underlying3
  a3 := Tryz.isAgg3
  z3 := Tryz.sizeOf3
  v3 := Tryz.zeroValue3
  t9 := Tryz.underlying9
  a9 := Tryz.isAgg9
  z9 := Tryz.sizeOf9
  v9 := Tryz.zeroValue9 }
theorem sh_strings_Compare (a b : ByteArray) (w : World) :
    Calls Tryz.prog 143 #[.string a, .string b] w fun e w' => e = .returned (.int .i64 (Lib.compareBytes a.data.toList b.data.toList)) ∧ w' = w := Any.strings_Compare sh_lays106 a b w
end Go.Proofs.YtoihhlkidlapmaaGreat

namespace Go.Proofs.YtoihhlkidlapmaaGreat
open Go.RowKit Go.Shelf
theorem cmp_bytes : ∀ (a b : List UInt8), (Lib.compareBytes a b < 0 ↔ Op.bytesLess a b = true) ∧ (Lib.compareBytes a b = 0 ↔ a = b)
  | [], [] => by simp [Lib.compareBytes, Op.bytesLess]
  | [], _ :: _ => by simp [Lib.compareBytes, Op.bytesLess]
  | _ :: _, [] => by simp [Lib.compareBytes, Op.bytesLess]
  | x :: a, y :: b => by
    obtain ⟨i1, i2⟩ := cmp_bytes a b
    unfold Lib.compareBytes Op.bytesLess
    by_cases h1 : x < y
    · simp only [h1, if_true]
      have hne : x ≠ y := fun e => by subst e; exact UInt8.lt_irrefl _ h1
      simp [hne]
    · by_cases h2 : y < x
      · have hne : x ≠ y := fun e => by subst e; exact UInt8.lt_irrefl _ h2
        simp [h1, h2, hne]
      · have : x = y := UInt8.le_antisymm (UInt8.not_lt.1 h2) (UInt8.not_lt.1 h1)
        subst this
        simp only [h1, if_false, i1, i2]
        simp
theorem cmp_lt (x q : ByteArray) : decide (Lib.compareBytes x.data.toList q.data.toList < 0) = ltS x q := by
  unfold ltS
  rw [Lib.toList_data, Lib.toList_data]
  cases h : Op.bytesLess x.data.toList q.data.toList with
  | true => exact decide_eq_true ((cmp_bytes _ _).1.2 h)
  | false => exact decide_eq_false (fun e => by rw [(cmp_bytes _ _).1.1 e] at h; cases h)
theorem cmp_eq0 (x q : ByteArray) : (Lib.compareBytes x.data.toList q.data.toList == 0) = eqS x q := by
  unfold eqS
  rw [Lib.toList_data, Lib.toList_data]
  by_cases h : x.data.toList = q.data.toList
  · rw [(cmp_bytes _ _).2.2 h, h]; simp
  · have h1 : Lib.compareBytes x.data.toList q.data.toList ≠ 0 := fun e => h ((cmp_bytes _ _).2.1 e)
    rw [beq_eq_false_iff_ne.2 h1, beq_eq_false_iff_ne.2 h]
set_option maxRecDepth 100000 in
set_option maxHeartbeats 1000000 in
theorem place1_any (e : packC.D) (na : Option Addr) (nc : Nat) (ta : Option Addr) (tc : Nat) (q : ByteArray) (w : World) :
    Calls Tryz.prog 142 #[.agg #[.string (PackD.name e), .string (PackD.version e), .slice na (PackD.needs e).length nc, .slice ta (PackD.tree e).length tc], .string q] w fun x w' => (∃ r : Int, x = .returned (.int .i64 r) ∧ Hid (decide (r < 0) = ltS (PackD.name e) q ∧ (r == 0) = eqS (PackD.name e) q)) ∧ Below w.heap.size w w' := by
  have HB := hid (show ∀ x, Below w.heap.size w (w.alloc x) from fun x => (Below.refl _ w).alloc (Nat.le_refl _) x)
  go_enter Tryz.func142, Tryz.ntmps142
  go_wp2_with (go_at_call 143; refine (sh_strings_Compare _ _ _).mono ?_; rintro e w' ⟨rfl, rfl⟩)
  go_ret
  exact ⟨⟨_, rfl, hid ⟨cmp_lt _ _, cmp_eq0 _ _⟩⟩, unhid HB _⟩
set_option maxRecDepth 100000 in
set_option maxHeartbeats 4000000 in
theorem searchPack_any (ps : List packC.D) (v : Value) (q : ByteArray) (w : World) (hlen : ps.length ≤ 1048576) (hs : Asc (namesP ps)) (h : rowAt packC w v ps) :
    Calls Tryz.prog 141 #[v, .string q, .func (.func 142) #[] #[]] w fun x w' => x = .returned (.tuple #[.int .i64 (placeP (namesP ps) q), .bool (thereP (namesP ps) q)]) ∧ Below w.heap.size w w' := by
  obtain ⟨a, cap, rfl, -, -, h⟩ := h
  have HS := hid hs
  have H := hid h
  clear hs h
  go_enter Tryz.func141, Tryz.ntmps141
  go_wp2_with fail
  go_loopw [9, 10, 11] (fun i j _ wr => ∃ (k m : Nat), k ≤ m ∧ m ≤ ps.length ∧ i = .int .i64 k ∧ j = .int .i64 m ∧ Hid (∀ (t : Nat) x, t < k → (namesP ps)[t]? = some x → ltS x q = true) ∧ Hid (∀ (t : Nat) x, m ≤ t → (namesP ps)[t]? = some x → ltS x q = false) ∧ Hid (Below w.heap.size w wr)) (fun i j _ _ => (intOf j).toNat - (intOf i).toNat)
  case atStart => exact ⟨0, ps.length, Nat.zero_le _, Nat.le_refl _, rfl, rfl, hid (fun t x ht => by omega), hid (fun t x ht hx => by have := (List.getElem?_eq_some_iff.1 hx).1; rw [namesP_len] at this; omega), hid (Below.refl _ _)⟩
  case round =>
    obtain ⟨k, m, hkm, hm, rfl, rfl, hlo, hhi, HB⟩ := hrel
    by_cases hlt : k < m
    · obtain ⟨e, he⟩ : ∃ e, ps[(k + m) / 2]? = some e := ⟨ps[(k + m) / 2], List.getElem?_eq_getElem (by omega)⟩
      obtain ⟨b, o, rfl, hbl, hc⟩ := (unhid H).resolve_left (by intro e; subst e; simp at hm; omega)
      obtain ⟨na, nc, ta, tc, ⟨c0, c1, c2, c3⟩, -⟩ := pack_cells (unhid HB) hbl hc he
      have hx := namesP_get he
      have hlt' : (k : Int) < m := by omega
      have hsm : (k : Int) + m ≤ 4194304 := by omega
      have hall : ∀ (t : Nat) y, t ≤ (k + m) / 2 → (namesP ps)[t]? = some y → ltS (PackD.name e) q = true → ltS y q = true := fun t y ht hy hq => by
        by_cases e : t = (k + m) / 2
        · subst e; rw [hx] at hy; cases hy; exact hq
        · exact lt_tra _ _ _ (unhid HS t _ y _ (by omega) hy hx) hq
      have hnone : ∀ (t : Nat) y, (k + m) / 2 ≤ t → (namesP ps)[t]? = some y → ltS (PackD.name e) q = false → ltS y q = false := fun t y ht hy hq => by
        by_cases e : t = (k + m) / 2
        · subst e; rw [hx] at hy; cases hy; exact hq
        · cases hyq : ltS y q
          · rfl
          · have := lt_tra _ _ _ (unhid HS _ t _ y (by omega) hx hy) hyq
            unfold ltS at hq; rw [this] at hq; cases hq
      have HA := hid (And.intro hall hnone)
      clear hc hx he hall hnone
      go_wp2_with fail
      refine (place1_any e na nc ta tc q _).mono ?_
      rintro r w2 ⟨⟨r, rfl, HR⟩, hb⟩
      have HB2 := hid ((unhid HB).trans (hb.mono (unhid HB).size))
      clear hb c0 c1 c2 c3
      by_cases hr : r < 0
      · have HQ := hid (show ltS (PackD.name e) q = true by rw [← (unhid HR).1]; exact decide_eq_true hr)
        go_wp2_with fail
        go_roundw
        case rel => exact ⟨(k + m) / 2 + 1, m, by omega, hm, by go_num, rfl, hid (fun t y ht hy => (unhid HA).1 t y (by omega) hy (unhid HQ)), hhi, HB2⟩
        case measure => simp [intOf]; omega
      · have HQ := hid (show ltS (PackD.name e) q = false by rw [← (unhid HR).1]; exact decide_eq_false hr)
        go_wp2_with fail
        go_roundw
        case rel => exact ⟨k, (k + m) / 2, by omega, by omega, rfl, by go_num, hlo, hid (fun t y ht hy => (unhid HA).2 t y ht hy (unhid HQ)), HB2⟩
        case measure => simp [intOf]; omega
    · have hkm' : k = m := by omega
      subst hkm'
      have hlt' : ¬ (k : Int) < k := by omega
      have hpl : placeP (namesP ps) q = k := placeP_of (namesP ps) q k (by rw [namesP_len]; exact hm) (unhid hlo) (fun x hx => unhid hhi k x (Nat.le_refl _) hx)
      by_cases hkl : k < ps.length
      · obtain ⟨e, he⟩ : ∃ e, ps[k]? = some e := ⟨ps[k], List.getElem?_eq_getElem hkl⟩
        obtain ⟨b, o, rfl, hbl, hc⟩ := (unhid H).resolve_left (by intro e; subst e; simp at hkl)
        obtain ⟨na, nc, ta, tc, ⟨c0, c1, c2, c3⟩, -⟩ := pack_cells (unhid HB) hbl hc he
        have hth : thereP (namesP ps) q = eqS (PackD.name e) q := by unfold thereP; rw [hpl, namesP_get he]; rfl
        have HP := hid (And.intro hpl hth)
        have hkl' : (k : Int) < ps.length := by omega
        clear hpl hth he hc
        go_wp2_with fail
        refine (place1_any e na nc ta tc q _).mono ?_
        rintro r w2 ⟨⟨r, rfl, HR⟩, hb⟩
        have HB2 := hid ((unhid HB).trans (hb.mono (unhid HB).size))
        clear hb c0 c1 c2 c3
        go_wp2_with fail
        go_ret2
        exact ⟨by rw [(unhid HP).1, (unhid HP).2, ← (unhid HR).2]; rfl, unhid HB2⟩
      · have hth : thereP (namesP ps) q = false := by unfold thereP; rw [hpl, List.getElem?_eq_none (by rw [namesP_len]; omega)]; rfl
        have HP := hid (And.intro hpl hth)
        have hkl' : ¬ (k : Int) < ps.length := by omega
        clear hpl hth
        go_wp2_with fail
        go_ret2
        exact ⟨by rw [(unhid HP).1, (unhid HP).2]; rfl, unhid HB⟩
set_option maxRecDepth 100000 in
set_option maxHeartbeats 1000000 in
theorem packPlace_any (ps : List packC.D) (v : Value) (q : ByteArray) (w : World) (hlen : ps.length ≤ 1048576) (hs : Asc (namesP ps)) (h : rowAt packC w v ps) :
    Calls Tryz.prog 85 #[v, .string q] w fun x w' => x = .returned (.tuple #[.int .i64 (placeP (namesP ps) q), .bool (thereP (namesP ps) q)]) ∧ Below w.heap.size w w' := by
  have H := hid (searchPack_any ps v q w hlen hs h)
  clear hs h
  go_enter Tryz.func85, Tryz.ntmps85
  go_wp2_with fail
  refine (unhid H).mono ?_
  rintro x w2 ⟨rfl, hb⟩
  have HB := hid hb
  clear hb
  go_wp2_with fail
  go_ret2
  exact ⟨rfl, unhid HB⟩
end Go.Proofs.YtoihhlkidlapmaaGreat

namespace Go.Proofs.YtoihhlkidlapmaaGreat
open Go.RowKit Go.Shelf
theorem thereT_mem {xs : List ByteArray} {q : ByteArray} (h : thereP xs q = true) : xs[placeP xs q]? = some q := by
  unfold thereP at h
  cases hx : xs[placeP xs q]? with
  | none => rw [hx] at h; cases h
  | some x =>
    rw [hx] at h
    have : eqS x q = true := h
    rw [(eqS_iff x q).1 this]
theorem place_mem {xs : List ByteArray} {q : ByteArray} (ha : Asc xs) {j : Nat} (hj : xs[j]? = some q) : placeP xs q = j ∧ thereP xs q = true := by
  have hp : placeP xs q = j := placeP_of xs q j (Nat.le_of_lt (List.getElem?_eq_some_iff.1 hj).1) (fun i x hi hx => ha i j x q hi hx hj) (fun x hx => by
    rw [hj] at hx
    cases hx
    exact lt_irr _)
  refine ⟨hp, ?_⟩
  unfold thereP
  rw [hp, hj]
  exact (eqS_iff q q).2 rfl
theorem there_no {xs : List ByteArray} {q : ByteArray} (ha : Asc xs) (h : thereP xs q = false) : q ∉ xs := fun hm => by
  obtain ⟨j, hj⟩ := List.getElem?_of_mem hm
  rw [(place_mem ha hj).2] at h
  cases h
set_option maxRecDepth 100000 in
set_option maxHeartbeats 4000000 in
theorem needThere_any (ps : List packC.D) (v : Value) (n : needC.D) (w : World) (hs : smallPs ps) (hf : formB ps = true) (hn : needOkD n = true) (hsn : (NeedD.name n).size ≤ 1048576 ∧ (NeedD.version n).size ≤ 1048576) (h : rowAt packC w v ps) :
    Calls Tryz.prog 219 #[v, .agg #[.string (NeedD.name n), .int .i64 (NeedD.kind n), .string (NeedD.version n)]] w fun x w' => x = .returned (.bool (hasNeed ps n)) ∧ Below w.heap.size w w' := by
  have HR := hid h
  obtain ⟨a, cap, rfl, -, -, h⟩ := h
  have hlen := hs.1
  have HSM := hid hs
  have HF := hid hf
  have HN := hid hn
  have SN := hid hsn
  have H := hid h
  clear h hs hf hn hsn
  go_enter Tryz.func219, Tryz.ntmps219
  go_wp2_with fail
  have hbox := World.alloc_heap_new w (.cells #[.string (NeedD.name n), .int .i64 (NeedD.kind n), .string (NeedD.version n)] 36)
  have hB0 : Below w.heap.size w (w.alloc (.cells #[.string (NeedD.name n), .int .i64 (NeedD.kind n), .string (NeedD.version n)] 36)) := (Below.refl _ w).alloc (Nat.le_refl _) _
  have hlw : w.heap.size < (w.alloc (.cells #[.string (NeedD.name n), .int .i64 (NeedD.kind n), .string (NeedD.version n)] 36)).heap.size := by simp
  generalize w.alloc (.cells #[.string (NeedD.name n), .int .i64 (NeedD.kind n), .string (NeedD.version n)] 36) = W0 at hbox hB0 hlw ⊢
  have BX := hid hbox
  have HB := hid hB0
  have HLW := hid hlw
  clear hbox hB0 hlw
  have hpb : placeP (namesP ps) (NeedD.name n) ≤ ps.length := by
    rw [← namesP_len]
    exact (List.takeWhile_prefix _).length_le
  refine (packPlace_any ps _ (NeedD.name n) W0 hlen (form_asc (unhid HF)) ((unhid HR).below (unhid HB))).mono ?_
  rintro x W1 ⟨rfl, hb⟩
  have HB3 := hid ((unhid HB).trans (hb.mono (unhid HB).size))
  have BX1 := hid ((hb.block _ (unhid HLW)).trans (unhid BX))
  have HLW1 := hid (Nat.lt_of_lt_of_le (unhid HLW) hb.size)
  clear hb BX HLW HB
  have g0 : ∀ x : CW (fun w' => Below W1.heap.size W1 w'), x.w.cell? ⟨w.heap.size, 0, none⟩ = some (.string (NeedD.name n)) := fun x => cell_arrS ((x.h.block _ (unhid HLW1)).trans (unhid BX1)) 0 _ rfl
  have g1 : ∀ x : CW (fun w' => Below W1.heap.size W1 w'), x.w.cell? ⟨w.heap.size, 1, none⟩ = some (.int .i64 (NeedD.kind n)) := fun x => cell_arrS ((x.h.block _ (unhid HLW1)).trans (unhid BX1)) 1 _ rfl
  have g2 : ∀ x : CW (fun w' => Below W1.heap.size W1 w'), x.w.cell? ⟨w.heap.size, 2, none⟩ = some (.string (NeedD.version n)) := fun x => cell_arrS ((x.h.block _ (unhid HLW1)).trans (unhid BX1)) 2 _ rfl
  have hba : ∀ {q : Prop}, (CW (fun w' => Below W1.heap.size W1 w') → q) ↔ q := CW.all (Below.refl _ W1)
  cases hth : thereP (namesP ps) (NeedD.name n) with
  | false =>
    have EH := hid (has_none (there_no (form_asc (unhid HF)) hth))
    generalize placeP (namesP ps) (NeedD.name n) = pl at *
    clear hth
    go_wp2_with fail
    refine held_begin (fun w' => Below W1.heap.size W1 w') (by kernel_rfl) (drew_belowS _) ?_
    refine held_here [true, true, true, true, true, true, true, true, true, true] (by kernel_rfl) (by kernel_rfl) (fun _ _ _ _ _ h => h) (drew_belowS _) ?_
    dsimp only [pick]
    repeat (go_big_quiet_step (fail))
    refine wpQuiet_nil ?_
    have hD := drew_belowS (B := W1.heap.size) W1
    generalize W1.drew = W2 at hD ⊢
    clear g0 g1 g2
    refine held_skip 10 24 (by kernel_rfl) (by kernel_rfl) rfl rfl rfl hD ?_
    simp only [Act.put, List.setIfInBounds_toArray, List.set_cons_zero, List.set_cons_succ]
    refine held_here [false, false, false, false, false, false, false, false, false, false, false, true, true] (by kernel_rfl) (by kernel_rfl) (fun _ _ _ _ _ h => h) hD ?_
    dsimp only [pick]
    repeat (go_big_quiet_step (fail))
    refine wpQuiet_nil ?_
    refine held_done (by kernel_rfl) ?_
    have HB4 := hid ((unhid HB3).trans (hD.mono (unhid HB3).size))
    clear hba hD
    go_wp2_with fail
    go_ret
    exact ⟨by rw [unhid EH]; rfl, unhid HB4⟩
  | true =>
    have hi := thereT_mem hth
    generalize placeP (namesP ps) (NeedD.name n) = i at *
    clear hth
    obtain ⟨q, hq, hqn⟩ := namesP_some hi
    have hil : i < ps.length := (List.getElem?_eq_some_iff.1 hq).1
    have hne : ps ≠ [] := by intro e; subst e; simp at hil
    obtain ⟨b, o, rfl, hbl, hc⟩ := (unhid H).resolve_left hne
    have SQ := hid ((unhid HSM).2 q (List.mem_of_getElem? hq))
    have EH := hid (show fitsB (NeedD.name n).data.toList (NeedD.kind n) (NeedD.version n).data.toList (NeedD.name n).data.toList (PackD.version q).data.toList = hasNeed ps n by
      rw [has_at (form_asc (unhid HF)) hq hqn]
      have h1 : pkOk q = true := form_ok (unhid HF) hq
      have h2 : versOk (PackD.version q).data.toList = true := by
        unfold pkOk at h1
        simp only [Bool.and_eq_true] at h1
        exact h1.1.1.2
      have h3 : needB (NeedD.name n).data.toList (NeedD.kind n) (NeedD.version n).data.toList = true := unhid HN
      unfold fitsB
      rw [h2, h3]
      simp)
    obtain ⟨-, -, -, -, ⟨-, d1, -, -⟩, -⟩ := pack_cells (unhid HB3) hbl hc hq
    have hbw : b < W1.heap.size := Nat.lt_of_lt_of_le hbl (unhid HB3).size
    have g3 : ∀ x : CW (fun w' => Below W1.heap.size W1 w'), x.w.cell? ⟨b, o + i * 4 + 1, none⟩ = some (.string (PackD.version q)) := fun x => (x.h.cell (p := ⟨b, o + i * 4 + 1, none⟩) hbw).trans d1
    clear hi hq hqn d1 hc hne hbl
    go_wp2_with fail
    refine held_begin (fun w' => Below W1.heap.size W1 w') (by kernel_rfl) (drew_belowS _) ?_
    refine held_here [true, true, true, true, true, true, true, true, true, true] (by kernel_rfl) (by kernel_rfl) (fun _ _ _ _ _ h => h) (drew_belowS _) ?_
    dsimp only [pick]
    repeat (go_big_quiet_step (fail))
    refine wpQuiet_nil ?_
    have hD := drew_belowS (B := W1.heap.size) W1
    generalize W1.drew = W2 at hD ⊢
    clear g0 g1 g2 g3
    refine held_call 10 248 24 (enters_of Tryz.func248 (by kernel_rfl) rfl) #[.agg #[.string (NeedD.name n), .int .i64 (NeedD.kind n), .string (NeedD.version n)], .string (NeedD.name n), .string (PackD.version q)] (by kernel_rfl) (by kernel_rfl) rfl rfl rfl rfl rfl ?_
    refine (NeedFits_any (NeedD.name n) (NeedD.version n) (NeedD.name n) (PackD.version q) (NeedD.kind n) (le_maxLen (unhid SN).1) (le_maxLen (unhid SN).2) (le_maxLen (unhid SQ).version) W2).mono ?_
    rintro x W3 ⟨rfl, hb⟩
    have hD2 := hD.trans (hb.mono hD.size)
    have HB4 := hid ((unhid HB3).trans (hD2.mono (unhid HB3).size))
    refine ⟨_, rfl, hD2, ?_⟩
    simp only [Act.put, List.setIfInBounds_toArray, List.set_cons_zero, List.set_cons_succ]
    rw [unhid EH]
    clear hb
    refine held_here [false, false, false, false, false, false, false, false, false, false, false, true, true] (by kernel_rfl) (by kernel_rfl) (fun _ _ _ _ _ h => h) hD2 ?_
    dsimp only [pick]
    repeat (go_big_quiet_step (fail))
    refine wpQuiet_nil ?_
    refine held_done (by kernel_rfl) ?_
    clear hba hD hD2
    go_wp2_with fail
    go_ret
    exact ⟨rfl, unhid HB4⟩
set_option maxRecDepth 100000 in
set_option maxHeartbeats 1000000 in
theorem askNeeds1_any (ps : List packC.D) (v : Value) (n : needC.D) (g : Nat) (w : World) (hs : smallPs ps) (hf : formB ps = true) (hn : needOkD n = true) (hsn : (NeedD.name n).size ≤ 1048576 ∧ (NeedD.version n).size ≤ 1048576) (hg : w.cell? ⟨g, 0, none⟩ = some v) (hgl : g < w.heap.size) (h : rowAt packC w v ps) :
    Calls Tryz.prog 218 #[.agg #[.string (NeedD.name n), .int .i64 (NeedD.kind n), .string (NeedD.version n)], .pointer (some ⟨g, 0, none⟩)] w fun x w' => x = .returned (.bool (hasNeed ps n)) ∧ Below w.heap.size w w' := by
  have HB := hid (show ∀ x, Below w.heap.size w (w.alloc x) from fun x => (Below.refl _ w).alloc (Nat.le_refl _) x)
  have HT := hid (fun W (hb : Below w.heap.size w W) => needThere_any ps v n W hs hf hn hsn (h.below hb))
  obtain ⟨va, vc, hv, -⟩ := rowAt.slice h
  subst hv
  have HG := hid (fun x => ((unhid HB x).cell (p := ⟨g, 0, none⟩) hgl).trans hg)
  have c0 := unhid HG (.cells #[.string (NeedD.name n), .int .i64 (NeedD.kind n), .string (NeedD.version n)] 36)
  clear hs hf hn hsn h hgl
  go_enter Tryz.func218, Tryz.ntmps218
  go_wp2_with fail
  refine (unhid HT _ (unhid HB _)).mono ?_
  rintro x w2 ⟨rfl, hb⟩
  have HB2 := hid ((unhid HB _).trans (hb.mono (unhid HB _).size))
  clear hb c0 hg
  go_wp2_with fail
  go_ret
  exact ⟨rfl, unhid HB2⟩
set_option maxRecDepth 100000 in
set_option maxHeartbeats 4000000 in
theorem listOkThere_any (ps : List packC.D) (vp : Value) (g : Nat) (ds : List needC.D) (v : Value) (w : World) (hsp : smallPs ps) (hf : formB ps = true) (hn : ds.all needOkD = true) (hl6 : ds.length ≤ 6) (hs : smallN ds) (hg : w.cell? ⟨g, 0, none⟩ = some vp) (hgl : g < w.heap.size) (hp : rowAt packC w vp ps) (h : rowAt needC w v ds) :
    Calls Tryz.prog 116 #[v, .int .i64 6, .func (.func 218) #[] #[.pointer (some ⟨g, 0, none⟩)]] w fun x w' => x = .returned (.bool (ds.all (hasNeed ps))) ∧ Below w.heap.size w w' := by
  obtain ⟨a, cap, rfl, -, -, h⟩ := h
  obtain ⟨hlen, hz⟩ := hs
  have HZ := hid hz
  have H := hid h
  have HT := hid (fun W (hb : Below w.heap.size w W) n hn hsn => askNeeds1_any ps vp n g W hsp hf hn hsn ((hb.cell (p := ⟨g, 0, none⟩) hgl).trans hg) (Nat.lt_of_lt_of_le hgl hb.size) (hp.below hb))
  have HN := hid hn
  clear hz h hsp hf hn hg hp
  go_enter Tryz.func116, Tryz.ntmps116
  go_wp2_with fail
  go_loopw [15] (fun i wr => ∃ k : Nat, k ≤ ds.length ∧ i = .int .i64 (k : Int) ∧ Hid ((ds.take k).all (hasNeed ps) = true) ∧ Hid (Below w.heap.size w wr)) (fun i _ => ds.length - (intOf i).toNat)
  case atStart => exact ⟨0, Nat.zero_le _, rfl, hid (by simp), hid (Below.refl _ _)⟩
  case round =>
    obtain ⟨k, hk, rfl, HA, HB⟩ := hrel
    by_cases hlt : k < ds.length
    · obtain ⟨e, he⟩ : ∃ e, ds[k]? = some e := ⟨ds[k], List.getElem?_eq_getElem hlt⟩
      obtain ⟨b, o, rfl, hbl, hc⟩ := (unhid H).resolve_left (by intro e; subst e; simp at hlt)
      obtain ⟨c0, c1, c2⟩ := need_cells (unhid HB) hbl hc he
      have HS := hid (unhid HZ e (List.mem_of_getElem? he))
      have HE := hid he
      have HNE := hid (List.all_eq_true.1 (unhid HN) e (List.mem_of_getElem? he))
      have HBA := hid (show ∀ x, Below w.heap.size w (wr.alloc x) from fun x => (unhid HB).alloc (unhid HB).size x)
      clear hc he hbl HB
      go_wp2_with fail
      refine (unhid HT _ (unhid HBA _) e (unhid HNE) (unhid HS)).mono ?_
      rintro x w2 ⟨rfl, hb⟩
      have HB2 := hid ((unhid HBA _).trans (hb.mono (unhid HBA _).size))
      clear hb c0 c1 c2 HBA
      cases hq : hasNeed ps e with
      | false =>
        go_wp2_with fail
        go_ret
        exact ⟨by rw [all_no (unhid HE) hq]; rfl, unhid HB2⟩
      | true =>
        have HQ := hid hq
        clear hq
        go_wp2_with fail
        go_roundw
        case rel => exact ⟨k + 1, by omega, by go_num, hid (all_take_next (unhid HE) (unhid HA) (unhid HQ)), HB2⟩
        case measure => simp [intOf]; omega
    · have e : k = ds.length := by omega
      subst e
      go_wp2_with fail
      go_ret
      refine ⟨?_, unhid HB⟩
      have := unhid HA
      rw [List.take_of_length_le (Nat.le_refl _)] at this
      rw [this]
      rfl
def needCode (ps : List packC.D) : Int := if needsB ps then 0 else 4
set_option maxRecDepth 100000 in
set_option maxHeartbeats 4000000 in
theorem askNeeds_any (ps : List packC.D) (v : Value) (w : World) (hs : smallPs ps) (hf : formB ps = true) (h : rowAt packC w v ps) :
    Calls Tryz.prog 151 #[v] w fun x w' => x = .returned (.int .i64 (needCode ps)) ∧ Below w.heap.size w w' := by
  have HR := hid h
  obtain ⟨a, cap, rfl, -, -, h⟩ := h
  have hlen := hs.1
  have HSM := hid hs
  have HF := hid hf
  have H := hid h
  clear h hs hf
  go_enter Tryz.func151, Tryz.ntmps151
  go_wp2_with fail
  have hbox := World.alloc_heap_new w (.cells #[.slice a ps.length cap] 23)
  have hB0 : Below w.heap.size w (w.alloc (.cells #[.slice a ps.length cap] 23)) := (Below.refl _ w).alloc (Nat.le_refl _) _
  have hlw : w.heap.size < (w.alloc (.cells #[.slice a ps.length cap] 23)).heap.size := by simp
  generalize w.alloc (.cells #[.slice a ps.length cap] 23) = W0 at hbox hB0 hlw ⊢
  have BX := hid hbox
  have HB00 := hid hB0
  have HLW := hid hlw
  clear hbox hB0 hlw
  go_loopw [7] (fun i wr => ∃ k : Nat, k ≤ ps.length ∧ i = .int .i64 (k : Int) ∧ Hid ((ps.take k).all (fun p => (needsOf p).all (hasNeed ps)) = true) ∧ Hid (Below W0.heap.size W0 wr)) (fun i _ => ps.length - (intOf i).toNat)
  case atStart => exact ⟨0, Nat.zero_le _, rfl, hid (by simp), hid (Below.refl _ _)⟩
  case round =>
    obtain ⟨k, hk, rfl, HA, HB⟩ := hrel
    by_cases hlt : k < ps.length
    · obtain ⟨e, he⟩ : ∃ e, ps[k]? = some e := ⟨ps[k], List.getElem?_eq_getElem hlt⟩
      obtain ⟨b, o, rfl, hbl, hc⟩ := (unhid H).resolve_left (by intro e; subst e; simp at hlt)
      have HBW := hid ((unhid HB00).trans ((unhid HB).mono (unhid HB00).size))
      obtain ⟨na, nc, ta, tc, ⟨c0, c1, c2, c3⟩, hat⟩ := pack_cells (unhid HBW) hbl hc he
      have HAT := hid hat
      have HE := hid he
      have SP := hid ((unhid HSM).2 e (List.mem_of_getElem? he))
      have POK := hid (form_ok (unhid HF) he)
      have HBA := hid (show ∀ x, Below W0.heap.size W0 (wr.alloc x) from fun x => (unhid HB).alloc (unhid HB).size x)
      have HBR := hid (show ∀ x, Below wr.heap.size wr (wr.alloc x) from fun x => (Below.refl _ wr).alloc (Nat.le_refl _) x)
      clear hc he hbl hat HB
      go_wp2_with fail
      have hgc := ((unhid HBA (.cells #[.string (PackD.name e), .string (PackD.version e), .slice na (PackD.needs e).length nc, .slice ta (PackD.tree e).length tc] 34)).block _ (unhid HLW)).trans (unhid BX)
      have hba := unhid HBA (.cells #[.string (PackD.name e), .string (PackD.version e), .slice na (PackD.needs e).length nc, .slice ta (PackD.tree e).length tc] 34)
      have hbr := unhid HBR (.cells #[.string (PackD.name e), .string (PackD.version e), .slice na (PackD.needs e).length nc, .slice ta (PackD.tree e).length tc] 34)
      generalize wr.alloc (.cells #[.string (PackD.name e), .string (PackD.version e), .slice na (PackD.needs e).length nc, .slice ta (PackD.tree e).length tc] 34) = W1 at hgc hba hbr ⊢
      have hnn : (needsOf e).all needOkD = true ∧ (needsOf e).length ≤ 6 := by
        have h1 := unhid POK
        unfold pkOk at h1
        simp only [Bool.and_eq_true, decide_eq_true_eq] at h1
        exact h1.1.2.1
      have hrow : rowAt needC W1 (.slice na (PackD.needs e).length nc) (needsOf e) := by
        obtain ⟨v2, v3, e1, h2, h3⟩ := packC_at (unhid HAT)
        injection e1 with _ e1
        injection e1 with _ e1
        injection e1 with e2 _
        rw [e2]
        exact h2.below hbr
      have HBS := hid ((unhid HB00).trans (hba.mono (unhid HB00).size))
      have HBA1 := hid hba
      have HG := hid (cell_arrS hgc 0 _ rfl)
      have HROW := hid hrow
      have HNN := hid hnn
      have HLT := hid (Nat.lt_of_lt_of_le (unhid HLW) hba.size)
      clear hgc hba hbr hnn hrow HBA HBR c0 c1 c2 c3
      refine (listOkThere_any ps _ w.heap.size (needsOf e) _ W1 (unhid HSM) (unhid HF) (unhid HNN).1 (unhid HNN).2 (unhid SP).needs (unhid HG) (unhid HLT) ((unhid HR).below (unhid HBS)) (unhid HROW)).mono ?_
      rintro x w2 ⟨rfl, hb⟩
      have HB2 := hid ((unhid HBA1).trans (hb.mono (unhid HBA1).size))
      have HBZ := hid ((unhid HB00).trans ((unhid HB2).mono (unhid HB00).size))
      clear hb
      cases hq : (needsOf e).all (hasNeed ps) with
      | false =>
        have E := hid (show needsB ps = false from all_no (p := fun p => (needsOf p).all (hasNeed ps)) (unhid HE) hq)
        go_wp2_with fail
        go_ret
        exact ⟨by unfold needCode; rw [unhid E]; rfl, unhid HBZ⟩
      | true =>
        have HQ := hid hq
        clear hq
        go_wp2_with fail
        go_roundw
        case rel => exact ⟨k + 1, by omega, by go_num, hid (all_take_next (p := fun p => (needsOf p).all (hasNeed ps)) (unhid HE) (unhid HA) (unhid HQ)), HB2⟩
        case measure => simp [intOf]; omega
    · have e : k = ps.length := by omega
      subst e
      have E := hid (show needsB ps = true by
        have := unhid HA
        rwa [List.take_of_length_le (Nat.le_refl _)] at this)
      have HBZ := hid ((unhid HB00).trans ((unhid HB).mono (unhid HB00).size))
      go_wp2_with fail
      go_ret
      exact ⟨by unfold needCode; rw [unhid E]; rfl, unhid HBZ⟩
end Go.Proofs.YtoihhlkidlapmaaGreat

namespace Go.Proofs.YtoihhlkidlapmaaGreat
open Go.RowKit Go.Shelf
set_option maxRecDepth 100000 in
set_option maxHeartbeats 8000000 in
theorem l2Join_N (es fs : List Ent) (b o cap : Nat) (a2 : Option Addr) (cap2 : Nat) (w : World) (hte : treeB es = true) (htf : treeB fs = true) (h : ∀ (i : Nat) e, es[i]? = some e → EntAt w b (o + i * 4) e) (hb : b < w.heap.size) (hf : EntsAt w a2 fs) :
    Calls Tryz.prog 153 #[.slice (some ⟨b, o, none⟩) es.length cap, .slice a2 fs.length cap2] w fun x w' => ∃ v, x = .returned (.tuple #[v, .bool (okJ es fs && treeB (joinTo es fs))]) ∧ (∃ g c, v = .slice (some ⟨g, 0, none⟩) (joinL es fs).length c) ∧ w'.ownsRow w.heap.size 57 4 v (joinL es fs).length (valsOf (joinL es fs)) ∧ Below w.heap.size w w' := by
  obtain ⟨i0, hi0, hz0, hzs, hzb⟩ := info_parts infoEntry
  have HI := hid (And.intro hi0 (And.intro hz0 (And.intro hzs hzb)))
  have hle := tree_16 hte
  have hlf := tree_16 htf
  have hae := tree_all hte
  have haf := tree_all htf
  have HH := hid hf
  have HC := hid (l2Copy_some es b o cap w (by omega) h (.inr hb))
  clear hi0 hz0 hzs hzb h hf hb
  go_enter Tryz.func153, Tryz.ntmps153
  go_wp2_with fail
  refine (unhid HC).mono ?_
  rintro x w1 ⟨g1, c1, rfl, hown, hB1⟩
  have HF0 := hid (And.intro hown hB1)
  clear hown hB1 HC
  go_wp2_with fail
  go_loopw [6, 7] (fun v i wr => ∃ j : Nat, j ≤ fs.length ∧ i = .int .i64 (j : Int) ∧ (∃ g c, v = .slice (some ⟨g, 0, none⟩) (joinTo es (fs.take j)).length c) ∧ Hid (wr.ownsRow w.heap.size 57 4 v (joinTo es (fs.take j)).length (valsOf (joinTo es (fs.take j)))) ∧ Hid (okJ es (fs.take j) = true) ∧ Hid (Below w.heap.size w wr)) (fun _ i _ => fs.length - (intOf i).toNat)
  case atStart => exact ⟨0, Nat.zero_le _, rfl, ⟨g1, c1, rfl⟩, hid (unhid HF0).1, hid rfl, hid (unhid HF0).2⟩
  case round =>
    obtain ⟨j, hj, rfl, ⟨g, c, rfl⟩, HO, HA, HB⟩ := hrel
    by_cases hlt : j < fs.length
    · obtain ⟨e, he⟩ : ∃ e, fs[j]? = some e := ⟨fs[j], List.getElem?_eq_getElem hlt⟩
      obtain ⟨b2, o2, rfl, hb2, hcc⟩ := (unhid HH).get (by intro e; subst e; simp at hlt)
      have HCC := hid hcc
      clear hcc HH
      have hsn : joinTo es (fs.take (j + 1)) = putT (joinTo es (fs.take j)) e := by rw [List.take_add_one, he]; exact joinTo_snoc _ _ _
      have hon : okJ es (fs.take (j + 1)) = (okJ es (fs.take j) && stepJ (joinTo es (fs.take j)) e) := by rw [List.take_add_one, he]; exact okJ_snoc _ _ _
      have hl9 : (joinTo es (fs.take j)).length ≤ 900 := by have := joinTo_len es (fs.take j); rw [List.length_take] at this; omega
      have hall : ∀ x ∈ joinTo es (fs.take j), entB x = true := fun x hx => by
        rcases joinTo_mem es _ x hx with h | h
        · exact hae x h
        · exact haf x (List.mem_of_mem_take h)
      have hxe := haf e (List.mem_of_getElem? he)
      have hpr : okJ es (fs.take (j + 1)) = false → okJ es fs = false := okJ_prefix (List.take_prefix _ _)
      obtain ⟨c0, c1', c2, c3⟩ := ((unhid HCC) j e he).below (unhid HB) hb2
      have HE := hid ((unhid HCC) j e he)
      obtain ⟨a1, cap1, ev, hRI⟩ := rowIn_of_owns (unhid HO)
      injection ev with ev1 ev2 ev3
      subst ev1
      have HAT := hid hRI.at
      have hcl : (joinTo es (fs.take j)).length ≤ c := by
        rcases (unhid HO).2 with ⟨hv, h0⟩ | ⟨g', cap', cur', hv, _, _, hcc, _⟩
        · cases hv
        · cases hv; exact hcc
      have hgl : g < wr.heap.size := by
        rcases (unhid HO).2 with ⟨hv, h0⟩ | ⟨g', cap', cur', hv, _, hh, _⟩
        · cases hv
        · cases hv; exact (Array.getElem?_eq_some_iff.1 hh).1
      have HGE := hid (show ∀ (i : Nat) x, (joinTo es (fs.take j))[i]? = some x → EntAt wr g (0 + i * 4) x by
        rcases unhid HAT with h0 | ⟨b', o', eb, _, hcc⟩
        · intro i x hi; rw [h0] at hi; simp at hi
        · cases eb; exact hcc)
      have AT := hid (l2At_any (joinTo es (fs.take j)) (some ⟨g, 0, none⟩) c e.path wr (by omega) (unhid HAT))
      have HSN0 := hid (And.intro hsn (And.intro hon hpr))
      have HXE := hid (And.intro hxe hall)
      clear hRI he hsn hon hpr hall hxe ev2 ev3
      generalize joinTo es (fs.take j) = L at *
      go_wp2_with fail
      refine (unhid AT).mono ?_
      rintro x w3 ⟨rfl, n3, e3⟩
      have hB3 : Below wr.heap.size wr w3 := by rw [e3]; exact drewN_below _ _
      have hkn : placeE L e.path ≤ L.length := placeE_le _ _
      have HB2 := hid ((unhid HB).trans (hB3.mono (unhid HB).size))
      have HG3 := hid (entAt_below (unhid HGE) (.inr hgl) hB3)
      have HE3 := hid ((unhid HE).below (unhid HB2) hb2)
      have HO3 := hid (ownsRow_kept (unhid HO) (fun g eg => hB3.block g ((unhid HO).lt g eg).2))
      have hwl : w.heap.size ≤ w3.heap.size := (unhid HB2).size
      have hgl3 : g < w3.heap.size := Nat.lt_of_lt_of_le hgl hB3.size
      have hbl3 : b2 < w3.heap.size := Nat.lt_of_lt_of_le hb2 hwl
      clear hB3 e3 AT HGE HE c0 c1' c2 c3 HAT HB HO n3 hgl
      cases hth : thereE L e.path
      · have HSN := hid (show (joinTo es (fs.take (j + 1))).length = placeE L e.path + 1 + (L.length - placeE L e.path) ∧ valsOf (joinTo es (fs.take (j + 1))) = valsOf (L.take (placeE L e.path)) ++ valsOf [e] ++ valsOf (L.drop (placeE L e.path)) by
          rw [(unhid HSN0).1, put_new hth]; refine ⟨by rw [insAt_len]; omega, ?_⟩; unfold insAt; rw [valsOf_app, valsOf_app])
        have HOK := hid (show okJ es (fs.take (j + 1)) = true by rw [(unhid HSN0).2.1, unhid HA]; unfold stepJ; rw [hth]; rfl)
        clear hth HSN0 HXE HO3
        generalize placeE L e.path = k at hkn HSN ⊢
        generalize hnl : L.length = n at *
        have HNL := hid hnl
        clear hnl
        go_wp2_with fail
        go_quiet (fail)
        have hBq : Below w3.heap.size w3 (w3.drewN nq) := drewN_below _ _
        have HB2' := hid ((unhid HB2).trans (hBq.mono hwl))
        have HG3' := hid (entAt_below (unhid HG3) (.inr hgl3) hBq)
        have HE3' := hid ((unhid HE3).below hBq hbl3)
        have hwl' : w.heap.size ≤ (w3.drewN nq).heap.size := hwl
        have hgl3' : g < (w3.drewN nq).heap.size := hgl3
        have hbl3' : b2 < (w3.drewN nq).heap.size := hbl3
        clear hBq HB2 HG3 HE3 hwl hgl3 hbl3
        have HB2 := HB2'; have HG3 := HG3'; have HE3 := HE3'; have hwl := hwl'; have hgl3 := hgl3'; have hbl3 := hbl3'
        clear HB2' HG3' HE3' hwl' hgl3' hbl3'
        generalize w3.drewN nq = w3 at *
        go_wp2_with fail
        have hi1 : (0 : Int) ≤ (k : Int) := by omega
        have hi2 : (k : Int) ≤ (n : Int) := by omega
        have hi3 : (k : Int) ≤ (c : Int) := by omega
        have hi4 : (n : Int) ≤ (c : Int) := by omega
        have hi5 : (0 : Int) ≤ (j : Int) := by omega
        have hi6 : (j : Int) < (fs.length : Int) := by omega
        have HC1 := hid (show ∀ W, Below w3.heap.size w3 W → ∀ j u, (valsOf (L.take k))[j]? = some u → W.cell? ((⟨g, 0, none⟩ : Addr).add j) = some u from fun W hW => ents_cells (ents_take (entAt_below (unhid HG3) (.inr hgl3) hW)))
        have HC2 := hid (show ∀ W, Below w3.heap.size w3 W → ∀ j u, (valsOf (L.drop k))[j]? = some u → W.cell? ((⟨g, offD c k, none⟩ : Addr).add j) = some u from fun W hW => ents_cells (fun i x hi => by have := ents_dropD (entAt_below (unhid HG3) (.inr hgl3) hW) (show L.length ≤ c by rw [unhid HNL]; omega) i x hi; rwa [Nat.zero_add] at this))
        have ht1 : (L.take k).length = k := by rw [List.length_take, unhid HNL]; omega
        have ht2 : (L.drop k).length = n - k := by rw [List.length_drop, unhid HNL]
        refine wp_region_held_drew (S := fun w' => Below w3.heap.size w3 w') (by kernel_rfl) (drew_below _) (fun hS => ?_)
        refine wpAnyH_take (i := 1) (v := .slice (some ⟨g, 0, none⟩) n c) rfl (by kernel_rfl) (by kernel_rfl) (by kernel_rfl) (fun _ _ _ h => h) (Or.inl ⟨by rfl, fun w' hw => by go_simp⟩) hS ?_
        refine wpAnyH_take (i := 2) (v := .int .i64 (k : Int)) rfl (by kernel_rfl) (by kernel_rfl) (by kernel_rfl) (fun _ _ _ h => h) (Or.inl ⟨by rfl, fun w' hw => by go_simp⟩) hS ?_
        refine wpAnyH_take (i := 3) (v := .slice (some ⟨g, 0, none⟩) k c) rfl (by kernel_rfl) (by kernel_rfl) (by kernel_rfl) (fun _ _ _ h => h) (Or.inl ⟨by rfl, fun w' hw => by go_simp⟩) hS ?_
        refine wpAnyH_take (i := 5) (v := .slice (some ⟨b2, o2, none⟩) fs.length cap2) rfl (by kernel_rfl) (by kernel_rfl) (by kernel_rfl) (fun _ _ _ h => h) (Or.inl ⟨by rfl, fun w' hw => by go_simp⟩) hS ?_
        refine wpAnyH_take (i := 6) (v := .int .i64 (j : Int)) rfl (by kernel_rfl) (by kernel_rfl) (by kernel_rfl) (fun _ _ _ h => h) (Or.inl ⟨by rfl, fun w' hw => by go_simp⟩) hS ?_
        refine wpAnyH_take (i := 7) (v := .pointer (some ⟨b2, o2 + j * 4, none⟩)) rfl (by kernel_rfl) (by kernel_rfl) (by kernel_rfl) (fun _ _ _ h => h) (Or.inl ⟨by rfl, fun w' hw => by go_simp⟩) hS ?_
        refine wpAnyH_take (i := 8) (v := .agg #[.string e.path, .int .i64 e.kind, .int .i64 e.mode, .string e.text]) rfl (by kernel_rfl) (by kernel_rfl) (by kernel_rfl) (fun _ _ _ h => h) (Or.inl ⟨by rfl, fun w' hw => by obtain ⟨k0, k1, k2, k3⟩ := (unhid HE3).below hw hbl3; go_simp⟩) hS ?_
        refine wpAnyH_take (i := 11) (v := .slice (some ⟨g, 0, none⟩) n c) rfl (by kernel_rfl) (by kernel_rfl) (by kernel_rfl) (fun _ _ _ h => h) (Or.inl ⟨by rfl, fun w' hw => by go_simp⟩) hS ?_
        refine wpAnyH_take (i := 12) (v := .int .i64 (k : Int)) rfl (by kernel_rfl) (by kernel_rfl) (by kernel_rfl) (fun _ _ _ h => h) (Or.inl ⟨by rfl, fun w' hw => by go_simp⟩) hS ?_
        refine wpAnyH_take (i := 13) (v := .slice (some ⟨g, offD c k, none⟩) (n - k) (c - k)) rfl (by kernel_rfl) (by kernel_rfl) (by kernel_rfl) (fun _ _ _ h => h) (Or.inl ⟨by rfl, fun w' hw => by 
          unfold offD
          by_cases hck : c = k
          · rw [if_pos hck]; go_simp
          · rw [if_neg hck]; go_simp⟩) hS ?_
        generalize w3.drew = W at hS ⊢
        refine wpAnyH_ready (rs := [0, 9]) (by kernel_rfl) (by simp) ?_
        refine AllReadyH.cons rfl (fun K hK => ?_) (AllReadyH.cons rfl (fun K hK => ?_) AllReadyH.nil)
        · go_simp
          have r0 := owns_empty W w3.heap.size hS.size 57
          have hS1 := hS.alloc hS.size (.cells #[] 57)
          refine hK.out _ _ hS1 (fun _ => ?_)
          clear hK K hS
          generalize W.alloc (.cells #[] 57) = W2 at hS1 r0 ⊢
          generalize W.heap.size = g0 at r0 ⊢
          have hS := hS1
          clear hS1
          refine wpAnyH_ready (rs := [4, 9]) (by kernel_rfl) (by simp) ?_
          refine AllReadyH.cons rfl (fun K hK => ?_) (AllReadyH.cons rfl (fun K hK => ?_) AllReadyH.nil)
          · refine step_append_at (by rfl) _ _ 32 (by rfl) w3.heap.size 57 i0 _ 4 48 Tryz.underlying32 (unhid HI).1 (unhid HI).2.1 (unhid HI).2.2.1 (unhid HI).2.2.2 rfl (by decide) (Value.slice (some ⟨g0, 0, none⟩) 0 0) (0) ([]) (by rfl) r0 ⟨g, 0, none⟩ (k) (c) (valsOf (L.take k)) (by rfl) (by rw [valsOf_len, ht1]) (unhid HC1 _ hS) (valsOf_one _) (by unfold maxLen; omega) (by omega) hS.size ?_
            intro v1 W3 r1 hg1 hat1
            rw [Nat.zero_add, List.nil_append] at r1
            obtain ⟨a1, c1, rfl⟩ := ownsRow_slice r1
            have hS1 := hS.grown hg1 hS.size (fun g eg => (r0.lt g eg).1)
            refine hK.out _ _ hS1 (fun _ => ?_)
            clear hK K hS r0 hg1 hat1
            have hS := hS1
            clear hS1
            refine wpAnyH_ready (rs := [9]) (by kernel_rfl) (by simp) ?_
            refine AllReadyH.cons rfl (fun K hK => ?_) AllReadyH.nil
            go_simp
            have o2 : OneAt (W3.alloc (.cells #[.string e.path, .int .i64 e.kind, .int .i64 e.mode, .string e.text] 57)) W3.heap.size e := World.alloc_heap_new _ _
            have hS1 := hS.alloc hS.size (.cells #[.string e.path, .int .i64 e.kind, .int .i64 e.mode, .string e.text] 57)
            have m2 : (Value.slice a1 k c1).ownBlock ≠ some W3.heap.size := fun eq => Nat.lt_irrefl _ (r1.lt _ eq).2
            have r1' := r1.alloc (.cells #[.string e.path, .int .i64 e.kind, .int .i64 e.mode, .string e.text] 57)
            clear r1
            have r1 := r1'
            clear r1'
            refine hK.out _ _ hS1 (fun _ => ?_)
            clear hK K hS
            generalize W3.alloc (.cells #[.string e.path, .int .i64 e.kind, .int .i64 e.mode, .string e.text] 57) = W4 at hS1 o2 r1 ⊢
            generalize W3.heap.size = g2 at o2 m2 ⊢
            have hS := hS1
            clear hS1
            refine wpAnyH_ready (rs := [10]) (by kernel_rfl) (by simp) ?_
            refine AllReadyH.cons rfl (fun K hK => ?_) AllReadyH.nil
            refine step_append_at (by rfl) _ _ 32 (by rfl) w3.heap.size 57 i0 _ 4 48 Tryz.underlying32 (unhid HI).1 (unhid HI).2.1 (unhid HI).2.2.1 (unhid HI).2.2.2 rfl (by decide) (Value.slice a1 k c1) (k) (valsOf (L.take k)) (by rfl) r1 ⟨g2, 0, none⟩ (1) (1) (valsOf [e]) (by rfl) (by rw [valsOf_len]; rfl) (o2.cells) (valsOf_one _) (by unfold maxLen; omega) (by omega) hS.size ?_
            intro v2 W5 r2 hg1 hat1
            obtain ⟨a2, c2, rfl⟩ := ownsRow_slice r2
            have hS1 := hS.grown hg1 hS.size (fun g eg => (r1.lt g eg).1)
            refine hK.out _ _ hS1 (fun _ => ?_)
            clear hK K hS r1 hg1 hat1 o2 m2
            have hS := hS1
            clear hS1
            refine wpAnyH_ready (rs := [14]) (by kernel_rfl) (by simp) ?_
            refine AllReadyH.cons rfl (fun K hK => ?_) AllReadyH.nil
            refine step_append_at (by rfl) _ _ 32 (by rfl) w3.heap.size 57 i0 _ 4 48 Tryz.underlying32 (unhid HI).1 (unhid HI).2.1 (unhid HI).2.2.1 (unhid HI).2.2.2 rfl (by decide) (Value.slice a2 (k + 1) c2) (k + 1) (valsOf (L.take k) ++ valsOf [e]) (by rfl) r2 ⟨g, offD c k, none⟩ ((n - k)) ((c - k)) (valsOf (L.drop k)) (by rfl) (by rw [valsOf_len, ht2]) (unhid HC2 _ hS) (valsOf_one _) (by unfold maxLen; omega) (by omega) hS.size ?_
            intro v3 W6 r3 hg1 hat1
            obtain ⟨a3, c3, rfl⟩ := ownsRow_slice r3
            have hS1 := hS.grown hg1 hS.size (fun g eg => (r2.lt g eg).1)
            refine hK.out _ _ hS1 (fun _ => ?_)
            clear hK K hS r2 hg1 hat1
            have hS := hS1
            clear hS1
            refine wpAnyH_take (i := 15) (v := .slice a3 (k + 1 + (n - k)) c3) rfl (by kernel_rfl) (by kernel_rfl) (by kernel_rfl) (fun _ _ _ h => h) (Or.inl ⟨by rfl, fun w' hw => by go_simp⟩) hS ?_
            refine wpAnyH_done (by kernel_rfl) ?_ _
            have HF := hid (show W6.ownsRow w.heap.size 57 4 (.slice a3 (k + 1 + (n - k)) c3) (joinTo es (fs.take (j + 1))).length (valsOf (joinTo es (fs.take (j + 1)))) ∧ Below w.heap.size w W6 from ⟨by rw [(unhid HSN).1, (unhid HSN).2]; exact ownsRow_base r3 (by omega), (unhid HB2).trans (hS.mono (by omega))⟩)
            obtain ⟨g3, cc3, hv3⟩ := ownsRow_some (unhid HF).1 (by rw [(unhid HSN).1]; omega)
            have HV3 := hid hv3
            clear r3 hS hv3
            go_wp2_with fail
            go_roundw
            case rel => exact ⟨j + 1, by omega, by go_num, ⟨g3, cc3, unhid HV3⟩, hid (unhid HF).1, HOK, hid (unhid HF).2⟩
            case measure => simp [intOf]; omega
          · go_simp
            have o2 : OneAt (W2.alloc (.cells #[.string e.path, .int .i64 e.kind, .int .i64 e.mode, .string e.text] 57)) W2.heap.size e := World.alloc_heap_new _ _
            have hS1 := hS.alloc hS.size (.cells #[.string e.path, .int .i64 e.kind, .int .i64 e.mode, .string e.text] 57)
            have m2 : (Value.slice (some ⟨g0, 0, none⟩) 0 0).ownBlock ≠ some W2.heap.size := fun eq => Nat.lt_irrefl _ (r0.lt _ eq).2
            have r0' := r0.alloc (.cells #[.string e.path, .int .i64 e.kind, .int .i64 e.mode, .string e.text] 57)
            clear r0
            have r0 := r0'
            clear r0'
            refine hK.out _ _ hS1 (fun _ => ?_)
            clear hK K hS
            generalize W2.alloc (.cells #[.string e.path, .int .i64 e.kind, .int .i64 e.mode, .string e.text] 57) = W3 at hS1 o2 r0 ⊢
            generalize W2.heap.size = g2 at o2 m2 ⊢
            have hS := hS1
            clear hS1
            refine wpAnyH_ready (rs := [4]) (by kernel_rfl) (by simp) ?_
            refine AllReadyH.cons rfl (fun K hK => ?_) AllReadyH.nil
            refine step_append_at (by rfl) _ _ 32 (by rfl) w3.heap.size 57 i0 _ 4 48 Tryz.underlying32 (unhid HI).1 (unhid HI).2.1 (unhid HI).2.2.1 (unhid HI).2.2.2 rfl (by decide) (Value.slice (some ⟨g0, 0, none⟩) 0 0) (0) ([]) (by rfl) r0 ⟨g, 0, none⟩ (k) (c) (valsOf (L.take k)) (by rfl) (by rw [valsOf_len, ht1]) (unhid HC1 _ hS) (valsOf_one _) (by unfold maxLen; omega) (by omega) hS.size ?_
            intro v1 W4 r1 hg1 hat1
            rw [Nat.zero_add, List.nil_append] at r1
            obtain ⟨a1, c1, rfl⟩ := ownsRow_slice r1
            have hS1 := hS.grown hg1 hS.size (fun g eg => (r0.lt g eg).1)
            have o2' := o2.grown hg1 (fun eq => m2 eq.symm)
            have m2' : (Value.slice a1 k c1).ownBlock ≠ some g2 := by
              rcases hat1 with h | h <;> rw [h]
              · exact m2
              · intro eq; injection eq with eq; have := o2.lt; omega
            clear o2 m2
            have o2 := o2'
            clear o2'
            have m2 := m2'
            clear m2'
            refine hK.out _ _ hS1 (fun _ => ?_)
            clear hK K hS r0 hg1 hat1
            have hS := hS1
            clear hS1
            refine wpAnyH_ready (rs := [10]) (by kernel_rfl) (by simp) ?_
            refine AllReadyH.cons rfl (fun K hK => ?_) AllReadyH.nil
            refine step_append_at (by rfl) _ _ 32 (by rfl) w3.heap.size 57 i0 _ 4 48 Tryz.underlying32 (unhid HI).1 (unhid HI).2.1 (unhid HI).2.2.1 (unhid HI).2.2.2 rfl (by decide) (Value.slice a1 k c1) (k) (valsOf (L.take k)) (by rfl) r1 ⟨g2, 0, none⟩ (1) (1) (valsOf [e]) (by rfl) (by rw [valsOf_len]; rfl) (o2.cells) (valsOf_one _) (by unfold maxLen; omega) (by omega) hS.size ?_
            intro v2 W5 r2 hg1 hat1
            obtain ⟨a2, c2, rfl⟩ := ownsRow_slice r2
            have hS1 := hS.grown hg1 hS.size (fun g eg => (r1.lt g eg).1)
            refine hK.out _ _ hS1 (fun _ => ?_)
            clear hK K hS r1 hg1 hat1 o2 m2
            have hS := hS1
            clear hS1
            refine wpAnyH_ready (rs := [14]) (by kernel_rfl) (by simp) ?_
            refine AllReadyH.cons rfl (fun K hK => ?_) AllReadyH.nil
            refine step_append_at (by rfl) _ _ 32 (by rfl) w3.heap.size 57 i0 _ 4 48 Tryz.underlying32 (unhid HI).1 (unhid HI).2.1 (unhid HI).2.2.1 (unhid HI).2.2.2 rfl (by decide) (Value.slice a2 (k + 1) c2) (k + 1) (valsOf (L.take k) ++ valsOf [e]) (by rfl) r2 ⟨g, offD c k, none⟩ ((n - k)) ((c - k)) (valsOf (L.drop k)) (by rfl) (by rw [valsOf_len, ht2]) (unhid HC2 _ hS) (valsOf_one _) (by unfold maxLen; omega) (by omega) hS.size ?_
            intro v3 W6 r3 hg1 hat1
            obtain ⟨a3, c3, rfl⟩ := ownsRow_slice r3
            have hS1 := hS.grown hg1 hS.size (fun g eg => (r2.lt g eg).1)
            refine hK.out _ _ hS1 (fun _ => ?_)
            clear hK K hS r2 hg1 hat1
            have hS := hS1
            clear hS1
            refine wpAnyH_take (i := 15) (v := .slice a3 (k + 1 + (n - k)) c3) rfl (by kernel_rfl) (by kernel_rfl) (by kernel_rfl) (fun _ _ _ h => h) (Or.inl ⟨by rfl, fun w' hw => by go_simp⟩) hS ?_
            refine wpAnyH_done (by kernel_rfl) ?_ _
            have HF := hid (show W6.ownsRow w.heap.size 57 4 (.slice a3 (k + 1 + (n - k)) c3) (joinTo es (fs.take (j + 1))).length (valsOf (joinTo es (fs.take (j + 1)))) ∧ Below w.heap.size w W6 from ⟨by rw [(unhid HSN).1, (unhid HSN).2]; exact ownsRow_base r3 (by omega), (unhid HB2).trans (hS.mono (by omega))⟩)
            obtain ⟨g3, cc3, hv3⟩ := ownsRow_some (unhid HF).1 (by rw [(unhid HSN).1]; omega)
            have HV3 := hid hv3
            clear r3 hS hv3
            go_wp2_with fail
            go_roundw
            case rel => exact ⟨j + 1, by omega, by go_num, ⟨g3, cc3, unhid HV3⟩, hid (unhid HF).1, HOK, hid (unhid HF).2⟩
            case measure => simp [intOf]; omega
        · go_simp
          have o2 : OneAt (W.alloc (.cells #[.string e.path, .int .i64 e.kind, .int .i64 e.mode, .string e.text] 57)) W.heap.size e := World.alloc_heap_new _ _
          have hS1 := hS.alloc hS.size (.cells #[.string e.path, .int .i64 e.kind, .int .i64 e.mode, .string e.text] 57)
          refine hK.out _ _ hS1 (fun _ => ?_)
          clear hK K hS
          generalize W.alloc (.cells #[.string e.path, .int .i64 e.kind, .int .i64 e.mode, .string e.text] 57) = W2 at hS1 o2 ⊢
          generalize W.heap.size = g2 at o2 ⊢
          have hS := hS1
          clear hS1
          refine wpAnyH_ready (rs := [0]) (by kernel_rfl) (by simp) ?_
          refine AllReadyH.cons rfl (fun K hK => ?_) AllReadyH.nil
          go_simp
          have r0 := owns_empty W2 w3.heap.size hS.size 57
          have hS1 := hS.alloc hS.size (.cells #[] 57)
          have o2' := o2.alloc (.cells #[] 57)
          have m2 : (Value.slice (some ⟨W2.heap.size, 0, none⟩) 0 0).ownBlock ≠ some g2 := fun eq => by injection eq with eq; have eq2 : W2.heap.size = g2 := eq; have := o2.lt; omega
          clear o2
          have o2 := o2'
          clear o2'
          refine hK.out _ _ hS1 (fun _ => ?_)
          clear hK K hS
          generalize W2.alloc (.cells #[] 57) = W3 at hS1 r0 o2 ⊢
          generalize W2.heap.size = g0 at r0 m2 ⊢
          have hS := hS1
          clear hS1
          refine wpAnyH_ready (rs := [4]) (by kernel_rfl) (by simp) ?_
          refine AllReadyH.cons rfl (fun K hK => ?_) AllReadyH.nil
          refine step_append_at (by rfl) _ _ 32 (by rfl) w3.heap.size 57 i0 _ 4 48 Tryz.underlying32 (unhid HI).1 (unhid HI).2.1 (unhid HI).2.2.1 (unhid HI).2.2.2 rfl (by decide) (Value.slice (some ⟨g0, 0, none⟩) 0 0) (0) ([]) (by rfl) r0 ⟨g, 0, none⟩ (k) (c) (valsOf (L.take k)) (by rfl) (by rw [valsOf_len, ht1]) (unhid HC1 _ hS) (valsOf_one _) (by unfold maxLen; omega) (by omega) hS.size ?_
          intro v1 W4 r1 hg1 hat1
          rw [Nat.zero_add, List.nil_append] at r1
          obtain ⟨a1, c1, rfl⟩ := ownsRow_slice r1
          have hS1 := hS.grown hg1 hS.size (fun g eg => (r0.lt g eg).1)
          have o2' := o2.grown hg1 (fun eq => m2 eq.symm)
          have m2' : (Value.slice a1 k c1).ownBlock ≠ some g2 := by
            rcases hat1 with h | h <;> rw [h]
            · exact m2
            · intro eq; injection eq with eq; have := o2.lt; omega
          clear o2 m2
          have o2 := o2'
          clear o2'
          have m2 := m2'
          clear m2'
          refine hK.out _ _ hS1 (fun _ => ?_)
          clear hK K hS r0 hg1 hat1
          have hS := hS1
          clear hS1
          refine wpAnyH_ready (rs := [10]) (by kernel_rfl) (by simp) ?_
          refine AllReadyH.cons rfl (fun K hK => ?_) AllReadyH.nil
          refine step_append_at (by rfl) _ _ 32 (by rfl) w3.heap.size 57 i0 _ 4 48 Tryz.underlying32 (unhid HI).1 (unhid HI).2.1 (unhid HI).2.2.1 (unhid HI).2.2.2 rfl (by decide) (Value.slice a1 k c1) (k) (valsOf (L.take k)) (by rfl) r1 ⟨g2, 0, none⟩ (1) (1) (valsOf [e]) (by rfl) (by rw [valsOf_len]; rfl) (o2.cells) (valsOf_one _) (by unfold maxLen; omega) (by omega) hS.size ?_
          intro v2 W5 r2 hg1 hat1
          obtain ⟨a2, c2, rfl⟩ := ownsRow_slice r2
          have hS1 := hS.grown hg1 hS.size (fun g eg => (r1.lt g eg).1)
          refine hK.out _ _ hS1 (fun _ => ?_)
          clear hK K hS r1 hg1 hat1 o2 m2
          have hS := hS1
          clear hS1
          refine wpAnyH_ready (rs := [14]) (by kernel_rfl) (by simp) ?_
          refine AllReadyH.cons rfl (fun K hK => ?_) AllReadyH.nil
          refine step_append_at (by rfl) _ _ 32 (by rfl) w3.heap.size 57 i0 _ 4 48 Tryz.underlying32 (unhid HI).1 (unhid HI).2.1 (unhid HI).2.2.1 (unhid HI).2.2.2 rfl (by decide) (Value.slice a2 (k + 1) c2) (k + 1) (valsOf (L.take k) ++ valsOf [e]) (by rfl) r2 ⟨g, offD c k, none⟩ ((n - k)) ((c - k)) (valsOf (L.drop k)) (by rfl) (by rw [valsOf_len, ht2]) (unhid HC2 _ hS) (valsOf_one _) (by unfold maxLen; omega) (by omega) hS.size ?_
          intro v3 W6 r3 hg1 hat1
          obtain ⟨a3, c3, rfl⟩ := ownsRow_slice r3
          have hS1 := hS.grown hg1 hS.size (fun g eg => (r2.lt g eg).1)
          refine hK.out _ _ hS1 (fun _ => ?_)
          clear hK K hS r2 hg1 hat1
          have hS := hS1
          clear hS1
          refine wpAnyH_take (i := 15) (v := .slice a3 (k + 1 + (n - k)) c3) rfl (by kernel_rfl) (by kernel_rfl) (by kernel_rfl) (fun _ _ _ h => h) (Or.inl ⟨by rfl, fun w' hw => by go_simp⟩) hS ?_
          refine wpAnyH_done (by kernel_rfl) ?_ _
          have HF := hid (show W6.ownsRow w.heap.size 57 4 (.slice a3 (k + 1 + (n - k)) c3) (joinTo es (fs.take (j + 1))).length (valsOf (joinTo es (fs.take (j + 1)))) ∧ Below w.heap.size w W6 from ⟨by rw [(unhid HSN).1, (unhid HSN).2]; exact ownsRow_base r3 (by omega), (unhid HB2).trans (hS.mono (by omega))⟩)
          obtain ⟨g3, cc3, hv3⟩ := ownsRow_some (unhid HF).1 (by rw [(unhid HSN).1]; omega)
          have HV3 := hid hv3
          clear r3 hS hv3
          go_wp2_with fail
          go_roundw
          case rel => exact ⟨j + 1, by omega, by go_num, ⟨g3, cc3, unhid HV3⟩, hid (unhid HF).1, HOK, hid (unhid HF).2⟩
          case measure => simp [intOf]; omega
      · obtain ⟨old, hold, hop⟩ := there_get hth
        have hfo := entFn_get hold
        have hkl : placeE L e.path < L.length := (List.getElem?_eq_some_iff.1 hold).1
        obtain ⟨k0, k1, k2, k3⟩ := (unhid HG3) _ old hold
        simp only [Nat.zero_add] at k0 k1 k2 k3
        obtain ⟨m0, m1, m2, m3⟩ := unhid HE3
        have hse := same_eq (unhid HXE).1 ((unhid HXE).2 old (List.mem_of_getElem? hold)) hop
        cases hk1 : (old.kind == 1)
        · have hno : okJ es fs = false := (unhid HSN0).2.2 (by rw [(unhid HSN0).2.1]; unfold stepJ; rw [hth, hfo, hse, hk1]; simp)
          have E := hid (show (okJ es fs && treeB (joinTo es fs)) = false ∧ joinL es fs = [] by unfold joinL; rw [hno]; exact ⟨rfl, rfl⟩)
          have hkb : (old.kind != 1) = true := by rw [bne, hk1]; rfl
          clear hold hfo hse hop hno hk1
          go_wp2_with fail
          go_quiet (fail)
          have HF := hid (And.intro (owns_empty (w3.drewN nq) w.heap.size hwl 57) (((unhid HB2).trans (drewN_below w3 nq)).alloc (w := w3.drewN nq) hwl (.cells #[] 57)))
          generalize w3.drewN nq = w4 at HF ⊢
          go_wp2_with fail
          go_ret2
          exact ⟨_, by rw [(unhid E).1]; rfl, by rw [(unhid E).2]; exact ⟨_, _, rfl⟩, by rw [(unhid E).2]; exact (unhid HF).1, (unhid HF).2⟩
        · have hne := fun w => ne_ents e old w
          unfold Ent.vals at hne
          have hkb : (old.kind != 1) = false := by rw [bne, hk1]; rfl
          cases hev : eqV e old
          · have hno : okJ es fs = false := (unhid HSN0).2.2 (by rw [(unhid HSN0).2.1]; unfold stepJ; rw [hth, hfo, hse, hev]; simp)
            have E := hid (show (okJ es fs && treeB (joinTo es fs)) = false ∧ joinL es fs = [] by unfold joinL; rw [hno]; exact ⟨rfl, rfl⟩)
            rw [hev] at hne
            clear hold hfo hse hop hno hk1
            go_wp2_with fail
            go_quiet (fail)
            have HF := hid (And.intro (owns_empty (w3.drewN nq) w.heap.size hwl 57) (((unhid HB2).trans (drewN_below w3 nq)).alloc (w := w3.drewN nq) hwl (.cells #[] 57)))
            generalize w3.drewN nq = w4 at HF ⊢
            go_wp2_with fail
            go_ret2
            exact ⟨_, by rw [(unhid E).1]; rfl, by rw [(unhid E).2]; exact ⟨_, _, rfl⟩, by rw [(unhid E).2]; exact (unhid HF).1, (unhid HF).2⟩
          · have heo := eqV_eq hev
            have HSN := hid (show joinTo es (fs.take (j + 1)) = L by rw [(unhid HSN0).1]; exact put_same hth (by rw [hfo, heo]))
            have HOK := hid (show okJ es (fs.take (j + 1)) = true by rw [(unhid HSN0).2.1, unhid HA]; unfold stepJ; rw [hfo, hse, hk1, hev]; simp)
            rw [hev] at hne
            clear hold hfo hse hop hk1 heo
            go_wp2_with fail
            go_quiet (fail)
            have hBq : Below w3.heap.size w3 (w3.drewN nq) := drewN_below _ _
            have HF := hid (And.intro (ownsRow_kept (unhid HO3) (fun g eg => hBq.block g ((unhid HO3).lt g eg).2)) ((unhid HB2).trans (drewN_below w3 nq)))
            generalize w3.drewN nq = w4 at HF ⊢
            go_wp2_with fail
            go_roundw
            case rel => exact ⟨j + 1, by omega, by go_num, ⟨g, c, by rw [unhid HSN]⟩, hid (by rw [unhid HSN]; exact (unhid HF).1), HOK, hid (unhid HF).2⟩
            case measure => simp [intOf]; omega
    · have e : j = fs.length := by omega
      subst e
      rw [List.take_of_length_le (Nat.le_refl _)] at HO HA ⊢
      obtain ⟨a1, cap1, ev, hRI⟩ := rowIn_of_owns (unhid HO)
      have hsm : smallE (joinTo es fs) := small_all (by have := joinTo_len es fs; omega) (fun x hx => by
        rcases joinTo_mem es _ x hx with h | h
        · exact hae x h
        · exact haf x h)
      injection ev with ev1 ev2 ev3
      subst ev1
      have TOK := hid (specTreeOk_any (joinTo es fs) (some ⟨g, 0, none⟩) c wr hsm hRI.at)
      have E := hid (show (okJ es fs && treeB (joinTo es fs)) = treeB (joinTo es fs) ∧ joinL es fs = joinTo es fs by unfold joinL; rw [unhid HA]; exact ⟨rfl, rfl⟩)
      clear hRI hsm ev2 ev3
      go_wp2_with fail
      refine (unhid TOK).mono ?_
      rintro x w9 ⟨rfl, hB9⟩
      have HF := hid (And.intro (ownsRow_kept (unhid HO) (fun g eg => hB9.block g ((unhid HO).lt g eg).2)) ((unhid HB).trans (hB9.mono (unhid HB).size)))
      clear hB9 TOK
      go_wp2_with fail
      go_ret2
      exact ⟨_, by rw [(unhid E).1]; rfl, by rw [(unhid E).2]; exact ⟨_, _, rfl⟩, by rw [(unhid E).2]; exact (unhid HF).1, (unhid HF).2⟩
end Go.Proofs.YtoihhlkidlapmaaGreat
