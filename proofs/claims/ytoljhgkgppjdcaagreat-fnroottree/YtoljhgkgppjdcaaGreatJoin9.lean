/- Texts of this proof, one behind the other; each says at its head what it shows. -/
import Derived.Test.YtoljhgkgppjdcaaGreatJoin8
import Derived.Shelf.Spec.SlicesInsertGrow
import Derived.Shelf.Small.Strs
import Derived.Test.YtoljhgkgppjdcaaGreatProg
/- slices.Insert of one pack. -/
namespace Go.Proofs.YtoljhgkgppjdcaaGreat
open Go.RowKit Go.Shelf Go.Lib

/-- Copying items of several cells. -/
theorem run_copy_K (K : Nat) (w : World) (dT sT ty elem : TypeId) (b o dLen dCap : Nat) (a : Addr) (sLen sCap : Nat) (cs : List Value) (hu : Tryz.prog.underlying dT = some (.slice elem)) (hs : (Tryz.prog.info? elem).map (·.size) = some K) (m : Nat) (hm : Nat.min sLen dLen = m) (hn : cs.length = m * K)
    (hsrc : ∀ j v, cs[j]? = some v → w.cell? (a.add j) = some v) (hc : ∀ j, j < cs.length → (w.cell? ⟨b, o + j, none⟩).isSome = true) (hf : ∀ j, j < cs.length → w.frozen? ⟨b, o + j, none⟩ = false) (h1 : ∀ v ∈ cs, v.oneCell' = true) :
    (Builtin.copy_ #[dT, sT] ty #[.slice (some ⟨b, o, none⟩) dLen dCap, .slice (some a) sLen sCap]).run Tryz.prog w = .ok (goInt m) (w.setCells b o cs) := by
  have hl := run_loadCells_list (P := Tryz.prog) w a cs hsrc
  have hst := run_storeCells_cells (P := Tryz.prog) b o cs 0 w (by simpa using hc) (by simpa using hf) h1
  cases hq : Tryz.prog.info? elem with
  | none => simp [hq] at hs
  | some i =>
    have hi : i.size = K := by simpa [hq] using hs
    simp [Builtin.copy_, run_underlying hu, Builtin.lenOf, Builtin.firstCells, sizeOf, typeInfo, hq, hi, hm, ← hn, hl, hst]
theorem ins_cells {A D P : List Value} {i n : Nat} {c1 : Array Value} (hA : A.length = i * 4) (hD : D.length = (n - i) * 4) (hP : P.length = 4) (hi : i ≤ n) (_ : (n + 1) * 4 ≤ c1.size) (h1 : ∀ k, k < i * 4 → c1[k]? = A[k]?) (h2 : ∀ k, k < 4 → c1[i * 4 + k]? = P[k]?) (h3 : ∀ k, k < (n - i) * 4 → c1[(i + 1) * 4 + k]? = D[k]?) : c1.toList.take ((n + 1) * 4) = A ++ P ++ D := by
  apply List.ext_getElem?
  intro k
  rw [List.getElem?_take]
  by_cases hk : k < (n + 1) * 4
  · rw [if_pos hk, Array.getElem?_toList, List.append_assoc, List.getElem?_append, hA]
    by_cases k1 : k < i * 4
    · rw [if_pos k1, h1 k k1]
    · rw [if_neg k1, List.getElem?_append, hP]
      by_cases k2 : k - i * 4 < 4
      · rw [if_pos k2, ← h2 _ k2, show i * 4 + (k - i * 4) = k by omega]
      · rw [if_neg k2, ← h3 _ (by omega), show (i + 1) * 4 + (k - i * 4 - 4) = k by omega]
  · rw [if_neg hk, List.getElem?_eq_none]
    simp only [List.length_append]
    omega
theorem mem_mid {K : CK} {L : List (It K)} {t : It K} {i : Nat} {k : Nat} (hk : k ∈ itF (L.take i ++ [t] ++ L.drop i)) : k ∈ itF L ∨ k ∈ t.2.2 := by
  rw [itF_app, itF_app] at hk
  simp only [List.mem_append] at hk
  rcases hk with (hk | hk) | hk
  · exact .inl ((itF_sub (List.take_sublist i L)).subset hk)
  · exact .inr (by simpa [itF] using hk)
  · exact .inl ((itF_sub (List.drop_sublist i L)).subset hk)
theorem zeroCells_size (z : Array Value) (n : Nat) : (Builtin.zeroCells z n).size = n * z.size := by simp [Builtin.zeroCells]
theorem grown_sets (g : Nat) {w0 : World} {row : Option Nat} (hg : ∀ k, k < w0.heap.size → some k ≠ row → k ≠ g) (vs : List Value) (o : Nat) (w : World) (h : w0.grownBy w row) : w0.grownBy (setsW w g o vs) row := by
  have h2 := sets_grown vs w g o
  exact ⟨h2.os.trans h.os, h2.tape.trans h.tape, h2.output.trans h.output, Nat.le_trans h.size h2.size, fun k hk hne => (h2.block k (Nat.lt_of_lt_of_le hk h.size) (fun e => hg k hk hne (by cases e; rfl))).trans (h.block k hk hne)⟩
def InsOut (L : List (It packC)) (t : It packC) (i N : Nat) (row : Option Nat) (w : World) (x : Ending) (w' : World) : Prop := ∃ u, x = .returned u ∧ NRow packC 37 w' N u (L.take i ++ [t] ++ L.drop i) ∧ w.grownBy w' row

set_option maxRecDepth 100000 in
set_option maxHeartbeats 8000000 in
theorem Insert_mid (L : List (It packC)) (t : It packC) (g cap i b N : Nat) (w : World) (hi : i < L.length) (hn : L.length ≤ 1000000) (hNw : N ≤ w.heap.size) (h : NRow packC 37 w N (.slice (some ⟨g, 0, none⟩) L.length cap) L) (hM : Items packC w N (L.take i ++ [t] ++ L.drop i)) (hvt : g ∉ t.2.2) (hbg : b ≠ g) (hb : w.heap[b]? = some (.cells t.1.toArray 37 (0, 0))) :
    Calls Tryz.prog 113 #[.slice (some ⟨g, 0, none⟩) L.length cap, .int .i64 (i : Int), .slice (some ⟨b, 0, none⟩) 1 1] w (InsOut L t i N (some g) w) := by
  obtain ⟨i0, hi0, hz0, hzs, hzb⟩ := info_parts vinfoPack
  have hrow := h.row.2
  rcases hrow with ⟨h0, _⟩ | ⟨g', cap', cur, he, hN, hg, hc, hcm, hsz, hcells⟩
  · cases h0
  obtain ⟨rfl, rfl⟩ : g = g' ∧ cap = cap' := by injection he with e1 _ e2; injection e1 with e1; injection e1 with e1; exact ⟨e1, e2⟩
  clear he
  have hgF : g ∉ itF L := h.apart g rfl
  have hgM : g ∉ itF (L.take i ++ [t] ++ L.drop i) := fun hk => by rcases mem_mid hk with hk | hk; exact hgF hk; exact hvt hk
  have hlM : (L.take i ++ [t] ++ L.drop i).length = L.length + 1 := by rw [List.length_append, List.length_append, List.length_take, List.length_drop]; simp; omega
  have hcM : itCells (L.take i ++ [t] ++ L.drop i) = itCells (L.take i) ++ t.1 ++ itCells (L.drop i) := by rw [itCells_app, itCells_app]; simp [itCells]
  have hcl : (itCells (L.take i ++ [t] ++ L.drop i)).length = (L.length + 1) * 4 := by rw [itCells_len hM, hlM]; rfl
  have hL := h.items
  obtain ⟨lt1, ld1, es1⟩ := itCells_split hL i (by omega)
  have hbl : b < w.heap.size := (Array.getElem?_eq_some_iff.1 hb).1
  have hgl : g < w.heap.size := (Array.getElem?_eq_some_iff.1 hg).1
  have ht4 : t.1.length = 4 := packC.len (hM.each t (by simp))
  have ht1 : ∀ u ∈ t.1, u.oneCell' = true := onePack _ _ _ _ (hM.each t (by simp))
  have hd1 : ∀ u ∈ itCells (L.drop i), u.oneCell' = true := itCells_one onePack (hL.sub (List.drop_sublist i L))
  generalize hnn : L.length = n at *
  have en : packC.n = 4 := rfl
  rw [en] at hsz hcells
  have hcl0 : ∀ t u, (itCells L)[t]? = some u → cur[t]? = some u := fun t u ht => by
    rw [← hcells] at ht
    have : t < n * 4 := by
      have := (List.getElem?_eq_some_iff.1 ht).1
      rw [List.length_take] at this
      omega
    rwa [List.getElem?_take_of_lt this, Array.getElem?_toList] at ht
  have hcur1 : ∀ k, k < i * 4 → cur[k]? = (itCells (L.take i))[k]? := fun k hk => by
    have : (itCells (L.take i))[k]? = (itCells L)[k]? := by rw [es1, List.getElem?_append_left (by omega)]
    rw [this]
    cases hq : (itCells L)[k]? with
    | none => have := List.getElem?_eq_none_iff.1 hq; rw [es1, List.length_append] at this; omega
    | some u => exact hcl0 k u hq
  obtain ⟨D, hD⟩ : ∃ D, D = itCells (L.drop i) := ⟨_, rfl⟩
  rw [← hD] at hd1 ld1 hcM es1
  have hcurD : ∀ k u, D[k]? = some u → cur[i * 4 + k]? = some u := fun k u hk => hcl0 _ _ (by rw [es1, List.getElem?_append_right (by omega), lt1, show i * 4 + k - i * 4 = k by omega]; exact hk)
  have hsD : ∀ (W : World), W.heap[g]? = some (.cells cur 37 (0, 0)) → ∀ j v, D[j]? = some v → W.cell? ((⟨g, i * 4, none⟩ : Addr).add j) = some v := fun W hW j v hj => by
    rw [add_plainR]; exact cell_arrS hW _ _ (hcurD j v hj)
  have hst : ∀ (W : World), W.heap[b]? = some (.cells t.1.toArray 37 (0, 0)) → ∀ j v, t.1[j]? = some v → W.cell? ((⟨b, 0, none⟩ : Addr).add j) = some v := fun W hW j v hj => by
    rw [add_plainR, Nat.zero_add]; exact cell_arrS hW _ _ (by simpa using hj)
  have hspot : ∀ (g : Nat) (W : World) (cu : Array Value) (m : Nat), W.heap[g]? = some (.cells cu 37 (0, 0)) → cu.size = m → ∀ t, t < m → (W.cell? ⟨g, t, none⟩).isSome = true ∧ W.frozen? ⟨g, t, none⟩ = false := fun g W cu m hW hcu t ht => by
    obtain ⟨x, hx⟩ : ∃ x, cu[t]? = some x := ⟨cu[t]'(by omega), by rw [Array.getElem?_eq_getElem]⟩
    obtain ⟨o1, p1⟩ := cell_fz hW t x hx
    exact ⟨by rw [o1]; rfl, p1⟩
  have hzz : (Tryz.prog.info? 37).map (·.size) = some 4 := by rw [hi0]; simp [hzs]
  have ht := Tryz.underlying23
  have ht3 := Tryz.underlying3
  have hw1 : IntKind.i64.wrap ((i : Int) + 1) = (i : Int) + 1 := by rw [IntKind.wrap_i64]; omega
  have hw2 : IntKind.i64.wrap ((n : Int) + 1) = (n : Int) + 1 := by rw [IntKind.wrap_i64]; omega
  have hz2 : ¬ ((i : Int) = (n : Int)) := by omega
  have htn : ((i : Int) + 1).toNat = i + 1 := by omega
  have hin : i ≤ n := by omega
  have hb1 : (0 : Int) ≤ (i : Int) + 1 := by omega
  have hb3 : (i : Int) ≤ (n : Int) + 1 := by omega
  have hcm2 : cap ≤ 9223372036854775807 := by simp only [maxLen] at hcm; omega
  have mixed : Tryz.prog.follows .mixedOrders = true := by kernel_rfl
  by_cases hroom : n + 1 ≤ cap
  · have hdrew : w.drew.heap[g]? = some (.cells cur 37 (0, 0)) := hg
    have hov : ∀ lb cb, (callFunc 171 #[.slice (some ⟨b, 0, none⟩) 1 1, .slice (some ⟨g, (i + 1) * 4, none⟩) lb cb]).run Tryz.prog w = .ok (.value (.bool false)) w := fun lb cb => by
      rw [run_callFunc_extern Tryz.func171 (by kernel_rfl) (by kernel_rfl) (by kernel_rfl) (e := Extern.SlicesOverlaps.overlaps #[23, 23] #[4]) (by kernel_rfl),
        Lib.run_overlaps_apart w 23 4 37 ht 4 (fun w => by kernel_rfl) ⟨b, 0, none⟩ ⟨g, (i + 1) * 4, none⟩ 1 1 lb cb hbg 37 37 4 (cap * 4) (by simp [World.shape?, hb, ht4]) (by simp [World.shape?, hg, hsz]) (by omega) (by simp [World.frozen?, hb]) (by simp [World.frozen?, hb])]
      rfl
    obtain ⟨W1, hW1⟩ : ∃ W1, W1 = w.drew.setCells g ((i + 1) * 4) D := ⟨_, rfl⟩
    have hW1s : W1 = setsW w.drew g ((i + 1) * 4) D := by rw [hW1, setCells_sets]
    have hH1 : W1.heap[g]? = some (.cells (setsA cur ((i + 1) * 4) D) 37 (0, 0)) := by rw [hW1s]; exact setsW_heap _ _ _ _ _ _ hdrew
    have hb1' : W1.heap[b]? = some (.cells t.1.toArray 37 (0, 0)) := by rw [hW1s, setsW_off _ _ _ _ _ hbg]; exact hb
    have hcp1 : ∀ ty dc sc, (Builtin.copy_ #[23, 23] ty #[.slice (some ⟨g, (i + 1) * 4, none⟩) (n - i) dc, .slice (some ⟨g, i * 4, none⟩) (n + 1 - i) sc]).run Tryz.prog w.drew = .ok (goInt (n - i : Nat)) W1 := fun ty dc sc => by
      rw [hW1]
      exact run_copy_K 4 w.drew _ _ ty 37 g ((i + 1) * 4) (n - i) dc ⟨g, i * 4, none⟩ (n + 1 - i) sc D ht hzz (n - i) (by simp only [Nat.min_def]; split <;> omega) ld1 (hsD _ hdrew)
        (fun j hj => (hspot g w.drew cur _ hdrew hsz _ (by omega)).1) (fun j hj => (hspot g w.drew cur _ hdrew hsz _ (by omega)).2) hd1
    have hcp2 : ∀ ty dc, (Builtin.copy_ #[23, 23] ty #[.slice (some ⟨g, i * 4, none⟩) (n + 1 - i) dc, .slice (some ⟨b, 0, none⟩) 1 1]).run Tryz.prog W1 = .ok (goInt (1 : Nat)) (W1.setCells g (i * 4) t.1) := fun ty dc =>
      run_copy_K 4 W1 _ _ ty 37 g (i * 4) (n + 1 - i) dc ⟨b, 0, none⟩ 1 1 t.1 ht hzz 1 (by simp only [Nat.min_def]; split <;> omega) (by omega) (hst W1 hb1')
        (fun j hj => (hspot g W1 _ (cap * 4) hH1 (by rw [setsA_size]; exact hsz) _ (by omega)).1) (fun j hj => (hspot g W1 _ (cap * 4) hH1 (by rw [setsA_size]; exact hsz) _ (by omega)).2) ht1
    have FIN : InsOut L t i N (some g) w (.returned (.slice (some ⟨g, 0, none⟩) (n + 1) cap)) (W1.setCells g (i * 4) t.1) := by
      rw [setCells_sets]
      have hg2 : w.grownBy (setsW W1 g (i * 4) t.1) (some g) := by
        refine grown_sets g (fun k _ hk e => hk (by rw [e])) _ _ _ ?_
        rw [hW1s]
        exact grown_sets g (fun k _ hk e => hk (by rw [e])) _ _ _ ⟨rfl, rfl, rfl, Nat.le_refl _, fun _ _ _ => rfl⟩
      refine ⟨_, rfl, ⟨⟨by rw [hcl, hlM, en], .inr ⟨g, cap, _, by rw [hlM], hN, setsW_heap _ _ _ _ _ _ hH1, by rw [hlM]; exact hroom, hcm, by rw [setsA_size, setsA_size]; exact hsz, ?_⟩⟩, hM.frame (fun k hk => hg2.block k (hM.lt k hk) (fun e => hgM (by cases e; exact hk))), fun g' hg' hm => by
        have : g = g' := by simpa [Value.ownBlock] using hg'
        subst this
        exact hgM hm⟩, hg2⟩
      rw [hlM, hcM, en]
      refine ins_cells lt1 ld1 ht4 hin (by rw [setsA_size, setsA_size, hsz]; omega) (fun k hk => ?_) (fun k hk => ?_) (fun k hk => ?_)
      · rw [setsA_off _ _ _ _ (.inl hk), setsA_off _ _ _ _ (.inl (by omega)), hcur1 k hk]
      · rw [setsA_at t.1 _ (i * 4) (by rw [setsA_size, hsz]; omega) k t.1[k] (List.getElem?_eq_getElem (by omega)), List.getElem?_eq_getElem (by omega)]
      · rw [setsA_off _ _ _ _ (.inr (by omega)), setsA_at D _ ((i + 1) * 4) (by rw [hsz]; omega) k D[k] (List.getElem?_eq_getElem (by omega)), List.getElem?_eq_getElem (by omega)]
    have HF := hid FIN
    have hz3 : ¬ ((cap : Int) < (n : Int) + 1) := by omega
    have hb2 : ¬ (cap = i + 1) := by omega
    have hb4 : ¬ (cap = i) := by omega
    clear FIN hsz hcells hg hb hN hNw h hM hvt hgF hgM hlM hcM hcl hL lt1 ld1 es1 ht4 ht1 hd1 hcl0 hcur1 hcurD hsD hst hspot hD hnn hdrew hW1 hW1s hH1 hb1'
    go_enter Tryz.func113, Tryz.ntmps113
    go_wp2_with (simp only [hov])
    go_region_law_o (refine step_copy_runI rfl _ _ 23 23 rfl _ _ (by simp [Act.eval, Act.put]) (by simp [Act.eval, Act.put]) (hcp1 _ _ _) ?_)
    go_wp2_with (at_builtin; refine wpList_copy_runI _ rfl _ _ 23 23 rfl _ _ rfl rfl (hcp2 _ _) ?_)
    go_ret
    exact unhid HF
  · have hceq : cap = n := by omega
    subst hceq
    have hkk : (cap : Int) + 1 - (i : Int) = ((cap + 1 - i : Nat) : Int) := by omega
    have hik : i + (cap + 1 - i) = cap + 1 := by omega
    have hold : (Builtin.firstCells i0.size i (.slice (some ⟨g, 0, none⟩) i cap)).run Tryz.prog w.drew = .ok (itCells (L.take i)).toArray w.drew := by
      rw [hzs]
      exact run_firstCells_some w.drew 4 i ⟨g, 0, none⟩ i cap _ lt1 (fun j v hj => by
        rw [add_plainR, Nat.zero_add]
        have hjl : j < i * 4 := by rw [← lt1]; exact (List.getElem?_eq_some_iff.1 hj).1
        exact cell_arrS (W := w.drew) hg _ _ ((hcur1 j hjl).trans hj))
    have hzv : ((Value.agg #[.string ⟨#[]⟩, .string ⟨#[]⟩, .slice none 0 0, .slice none 0 0]).cells).size = 4 := by decide
    generalize hZ : (Value.agg #[.string ⟨#[]⟩, .string ⟨#[]⟩, .slice none 0 0, .slice none 0 0]) = Z at hz0 hzv
    have hrz : ∀ ty, (Builtin.append_ #[23, 3] ty #[.slice (some ⟨g, 0, none⟩) i cap, .int .i64 ((cap : Int) + 1 - (i : Int))]).run Tryz.prog w =
        .ok (.slice (some ⟨w.heap.size, 0, none⟩) (cap + 1) (grownCap w (cap + 1) cap 37)) (w.drew.alloc (.cells ((itCells (L.take i)).toArray ++ Builtin.zeroCells Z.cells (cap + 1 - i) ++ Builtin.zeroCells Z.cells (grownCap w (cap + 1) cap 37 - (cap + 1))) 37)) := fun ty => by
      have h := Lib.run_append_grow_zeros w 23 3 ty 37 i0 _ .i64 .i64 ht ht3 hi0 hz0 (some ⟨g, 0, none⟩) i cap _ hold (cap + 1 - i) (by omega) (by omega) (by omega) (by omega) (by rw [hzb]; omega) (by rw [hzb, hik]; exact growslice_fits (by omega) (by omega))
      rw [hik] at h
      rw [hkk]
      exact h
    obtain ⟨G, hG⟩ : ∃ G, G = grownCap w (cap + 1) cap 37 := ⟨_, rfl⟩
    obtain ⟨ROW, hROW⟩ : ∃ ROW : Array Value, ROW = (itCells (L.take i)).toArray ++ Builtin.zeroCells Z.cells (cap + 1 - i) ++ Builtin.zeroCells Z.cells (G - (cap + 1)) := ⟨_, rfl⟩
    rw [← hG, ← hROW] at hrz
    have hGn : cap + 1 ≤ G := by rw [hG]; exact grownCap_ge w _ _ _
    have hRs : ROW.size = G * 4 := by
      rw [hROW, Array.size_append, Array.size_append, zeroCells_size, zeroCells_size, hzv, List.size_toArray, lt1]
      omega
    have hRt : ∀ k, k < i * 4 → ROW[k]? = (itCells (L.take i))[k]? := fun k hk => by
      rw [hROW, Array.append_assoc, Array.getElem?_append_left (by rw [List.size_toArray, lt1]; exact hk)]
      simp
    obtain ⟨W1, hW1⟩ : ∃ W1, W1 = w.drew.alloc (.cells ROW 37) := ⟨_, rfl⟩
    rw [← hW1] at hrz
    have hNew : W1.heap[w.heap.size]? = some (.cells ROW 37 (0, 0)) := by rw [hW1]; exact World.alloc_heap_new w.drew _
    have hOg : W1.heap[g]? = some (.cells cur 37 (0, 0)) := by rw [hW1]; exact (Below.heap_alloc w.drew _ _ hgl).trans hg
    have hOb : W1.heap[b]? = some (.cells t.1.toArray 37 (0, 0)) := by rw [hW1]; exact (Below.heap_alloc w.drew _ _ hbl).trans hb
    have hgN : g ≠ w.heap.size := by omega
    have hbN : b ≠ w.heap.size := by omega
    have hG63 : G ≤ 9223372036854775807 := by
      have := grownCap_le_maxLen w (cap + 1) cap 37 (by unfold maxLen; omega)
      rw [← hG] at this
      unfold maxLen at this
      omega
    have hcpA : ∀ ty dc, (Builtin.copy_ #[23, 23] ty #[.slice (some ⟨w.heap.size, i * 4, none⟩) (cap + 1 - i) dc, .slice (some ⟨b, 0, none⟩) 1 1]).run Tryz.prog W1 = .ok (goInt (1 : Nat)) (W1.setCells w.heap.size (i * 4) t.1) := fun ty dc =>
      run_copy_K 4 W1 _ _ ty 37 w.heap.size (i * 4) (cap + 1 - i) dc ⟨b, 0, none⟩ 1 1 t.1 ht hzz 1 (by simp only [Nat.min_def]; split <;> omega) (by omega) (hst W1 hOb)
        (fun j hj => (hspot _ W1 _ _ hNew hRs _ (by omega)).1) (fun j hj => (hspot _ W1 _ _ hNew hRs _ (by omega)).2) ht1
    obtain ⟨W2, hW2⟩ : ∃ W2, W2 = W1.setCells w.heap.size (i * 4) t.1 := ⟨_, rfl⟩
    rw [← hW2] at hcpA
    have hW2s : W2 = setsW W1 w.heap.size (i * 4) t.1 := by rw [hW2, setCells_sets]
    have hNew2 : W2.heap[w.heap.size]? = some (.cells (setsA ROW (i * 4) t.1) 37 (0, 0)) := by rw [hW2s]; exact setsW_heap _ _ _ _ _ _ hNew
    have hOg2 : W2.heap[g]? = some (.cells cur 37 (0, 0)) := by rw [hW2s, setsW_off _ _ _ _ _ hgN]; exact hOg
    have hcpB : ∀ ty dc sc, (Builtin.copy_ #[23, 23] ty #[.slice (some ⟨w.heap.size, (i + 1) * 4, none⟩) (cap - i) dc, .slice (some ⟨g, i * 4, none⟩) (cap - i) sc]).run Tryz.prog W2.drew = .ok (goInt (cap - i : Nat)) (W2.drew.setCells w.heap.size ((i + 1) * 4) D) := fun ty dc sc =>
      run_copy_K 4 W2.drew _ _ ty 37 w.heap.size ((i + 1) * 4) (cap - i) dc ⟨g, i * 4, none⟩ (cap - i) sc D ht hzz (cap - i) (Nat.min_self _) ld1 (hsD W2.drew hOg2)
        (fun j hj => (hspot _ W2.drew _ (G * 4) hNew2 (by rw [setsA_size]; exact hRs) _ (by omega)).1) (fun j hj => (hspot _ W2.drew _ (G * 4) hNew2 (by rw [setsA_size]; exact hRs) _ (by omega)).2) hd1
    have FIN : InsOut L t i N (some g) w (.returned (.slice (some ⟨w.heap.size, 0, none⟩) (cap + 1) G)) (W2.drew.setCells w.heap.size ((i + 1) * 4) D) := by
      rw [setCells_sets]
      have hg2 : w.grownBy (setsW W2.drew w.heap.size ((i + 1) * 4) D) (some g) := by
        refine grown_sets _ (fun k hk _ e => by omega) _ _ _ ?_
        have : w.grownBy W2 (some g) := by
          rw [hW2s]
          refine grown_sets _ (fun k hk _ e => by omega) _ _ _ ?_
          rw [hW1]
          exact ⟨rfl, rfl, rfl, by simp, fun k hk _ => Below.heap_alloc _ _ _ hk⟩
        exact ⟨this.os, this.tape, this.output, this.size, this.block⟩
      refine ⟨_, rfl, ⟨⟨by rw [hcl, hlM, en], .inr ⟨w.heap.size, G, _, by rw [hlM], hNw, setsW_heap _ _ _ _ _ _ (show W2.drew.heap[w.heap.size]? = _ from hNew2), by rw [hlM]; exact hGn, hG63, by rw [setsA_size, setsA_size]; exact hRs, ?_⟩⟩, hM.frame (fun k hk => hg2.block k (hM.lt k hk) (fun e => hgM (by cases e; exact hk))), fun g' hg' hm => by
        have : w.heap.size = g' := by simpa [Value.ownBlock] using hg'
        subst this
        have := hM.lt _ hm
        omega⟩, hg2⟩
      rw [hlM, hcM, en]
      refine ins_cells lt1 ld1 ht4 hin (by rw [setsA_size, setsA_size, hRs]; omega) (fun k hk => ?_) (fun k hk => ?_) (fun k hk => ?_)
      · rw [setsA_off _ _ _ _ (.inl (by omega)), setsA_off _ _ _ _ (.inl hk), hRt k hk]
      · rw [setsA_off _ _ _ _ (.inl (by omega)), setsA_at t.1 _ (i * 4) (by rw [hRs]; omega) k t.1[k] (List.getElem?_eq_getElem (by omega)), List.getElem?_eq_getElem (by omega)]
      · rw [setsA_at D _ ((i + 1) * 4) (by rw [setsA_size, hRs]; omega) k D[k] (List.getElem?_eq_getElem (by omega)), List.getElem?_eq_getElem (by omega)]
    have HF := hid FIN
    have hGi : ¬ (G = i) := by omega
    have hGim : ¬ (G = i + 1) := by omega
    have hci : ¬ (cap = i) := by omega
    have hz3 : (cap : Int) < (cap : Int) + 1 := by omega
    have HRZ := hid hrz
    have HCA := hid hcpA
    have HCB := hid hcpB
    clear FIN hsz hcells hg hb hN hNw h hM hvt hgF hgM hlM hcM hcl hL lt1 ld1 es1 ht4 ht1 hd1 hcl0 hcur1 hcurD hsD hst hspot hD hnn hkk hik hold hzv hZ hROW hG hRt hRs hNew hOg hOb hW1 hW2 hW2s hNew2 hOg2 hrz hcpA hcpB hz3 hi0 hz0 hzs hzb hzz ht ht3 hroom hgl hbl
    go_enter Tryz.func113, Tryz.ntmps113
    go_wp2_with (at_builtin; refine Lib.wpList_append_run _ rfl _ _ _ _ rfl (.slice (some ⟨g, 0, none⟩) i cap) (.int .i64 ((cap : Int) + 1 - (i : Int))) rfl rfl _ _ (unhid HRZ _) ?_; clear HRZ; have hcA := unhid HCA; clear HCA; go_wp2_with (at_builtin; refine wpList_copy_runI _ rfl _ _ 23 23 rfl _ _ rfl rfl (hcA _ _) ?_); clear hcA)
    have HCB1 := hid (unhid HCB 3 (G - (i + 1)) (cap - i))
    clear HCB
    go_region_law_o (refine step_copy_runI rfl _ _ 23 23 rfl (.slice (some ⟨w.heap.size, (i + 1) * 4, none⟩) (cap - i) (G - (i + 1))) (.slice (some ⟨g, i * 4, none⟩) (cap - i) (cap - i)) (by simp [Act.eval, Act.put]) (by simp [Act.eval, Act.put]) (unhid HCB1) ?_)
    go_wp2
    go_ret
    exact unhid HF

set_option maxRecDepth 100000 in
set_option maxHeartbeats 4000000 in
theorem Insert_end (L : List (It packC)) (t : It packC) (v : Value) (b N : Nat) (w : World) (hn : L.length ≤ 1000000) (hNw : N ≤ w.heap.size) (h : NRow packC 37 w N v L) (hM : Items packC w N (L ++ [t])) (hvt : ∀ g, v.ownBlock = some g → g ∉ t.2.2) (hb : w.heap[b]? = some (.cells t.1.toArray 37 (0, 0))) :
    Calls Tryz.prog 113 #[v, .int .i64 (L.length : Int), .slice (some ⟨b, 0, none⟩) 1 1] w fun x w' => ∃ u, x = .returned u ∧ NRow packC 37 w' N u (L ++ [t]) ∧ w.grownBy w' v.ownBlock := by
  have hcell : ∀ j u, (itCells [t])[j]? = some u → w.cell? ⟨b, 0 + j, none⟩ = some u := fun j u hj => by
    rw [Nat.zero_add]; exact cell_arrS hb _ _ (by simpa [itCells] using hj)
  have hsing : itF [t] = t.2.2 := by simp [itF]
  have hap : ∀ g, v.ownBlock = some g → g ∉ itF [t] := fun g hg => by rw [hsing]; exact hvt g hg
  have HC := hid hcell
  have H := hid h
  have HM := hid hM
  have HAP := hid hap
  clear hcell hM hap hvt hb hsing
  obtain ⟨a, c, rfl⟩ := nrow_slice h
  have hcase : (a = none ∧ c = 0) ∨ ∃ g, a = some ⟨g, 0, none⟩ ∧ L.length ≤ c := by
    rcases h.row.2 with ⟨h1, h2⟩ | ⟨g, cap, cur, he, _, _, hc, _⟩
    · injection h1 with e1 _ e3; exact .inl ⟨e1, e3⟩
    · injection he with e1 _ e3; exact .inr ⟨g, e1, by rw [e3]; exact hc⟩
  have h0 : a = none → L.length = 0 := fun e => by
    subst e
    rcases h.row.2 with ⟨_, h2⟩ | ⟨g, cap, cur, he, _⟩
    · exact h2
    · cases he
  clear h
  have hl63 : (L.length : Int) ≤ 1000000 := by omega
  rcases hcase with ⟨rfl, rfl⟩ | ⟨g, rfl, hc⟩
  · obtain rfl : L = [] := List.length_eq_zero_iff.1 (h0 rfl)
    clear h0
    go_enter Tryz.func113, Tryz.ntmps113
    go_wp2_with (at_builtin; refine wp_items etPack onePack _ rfl _ _ rfl N _ [] [t] b 0 1 (unhid H) (unhid HM) (unhid HAP) (unhid HC) ?c1 hNw rfl rfl ?_)
    case c1 => simp
    intro v' w' hg
    have HG := hid hg
    obtain ⟨ua, um, uc, rfl⟩ : ∃ a m c, v' = .slice a m c := by obtain ⟨a, c, e⟩ := grew_slice hg; exact ⟨_, _, _, e⟩
    clear hg
    go_wp2_with fail
    go_ret
    exact ⟨_, rfl, (unhid HG).row, (unhid HG).by_⟩
  · clear h0
    by_cases hcn : c = L.length
    · subst hcn
      go_enter Tryz.func113, Tryz.ntmps113
      go_wp2_with (at_builtin; refine wp_items etPack onePack _ rfl _ _ rfl N _ L [t] b 0 1 (unhid H) (unhid HM) (unhid HAP) (unhid HC) ?c1 hNw rfl rfl ?_)
      case c1 => simp; omega
      intro v' w' hg
      have HG := hid hg
      obtain ⟨ua, um, uc, rfl⟩ : ∃ a m c, v' = .slice a m c := by obtain ⟨a, c, e⟩ := grew_slice hg; exact ⟨_, _, _, e⟩
      clear hg
      go_wp2_with fail
      go_ret
      exact ⟨_, rfl, (unhid HG).row, (unhid HG).by_⟩
    · have hcn' : ¬ L.length = c := fun e => hcn e.symm
      go_enter Tryz.func113, Tryz.ntmps113
      go_wp2_with (at_builtin; refine wp_items etPack onePack _ rfl _ _ rfl N _ L [t] b 0 1 (unhid H) (unhid HM) (unhid HAP) (unhid HC) ?c1 hNw rfl rfl ?_)
      case c1 => simp; omega
      intro v' w' hg
      have HG := hid hg
      obtain ⟨ua, um, uc, rfl⟩ : ∃ a m c, v' = .slice a m c := by obtain ⟨a, c, e⟩ := grew_slice hg; exact ⟨_, _, _, e⟩
      clear hg
      go_wp2_with fail
      go_ret
      exact ⟨_, rfl, (unhid HG).row, (unhid HG).by_⟩
theorem Insert_any (L : List (It packC)) (v : Value) (i : Nat) (t : It packC) (b N : Nat) (w : World) (hi : i ≤ L.length) (hn : L.length ≤ 1000000) (hNw : N ≤ w.heap.size) (h : NRow packC 37 w N v L) (hM : Items packC w N (L.take i ++ [t] ++ L.drop i)) (hvt : ∀ g, v.ownBlock = some g → g ∉ t.2.2) (hvb : v.ownBlock ≠ some b) (hb : w.heap[b]? = some (.cells t.1.toArray 37 (0, 0))) :
    Calls Tryz.prog 113 #[v, .int .i64 (i : Int), .slice (some ⟨b, 0, none⟩) 1 1] w (InsOut L t i N v.ownBlock w) := by
  by_cases hin : i = L.length
  · subst hin
    have e : L.take L.length ++ [t] ++ L.drop L.length = L ++ [t] := by simp
    rw [e] at hM
    refine (Insert_end L t v b N w hn hNw h hM hvt hb).mono ?_
    rintro x w' ⟨u, rfl, h1, h2⟩
    exact ⟨u, rfl, by rw [e]; exact h1, h2⟩
  · rcases h.row.2 with ⟨_, h0⟩ | ⟨g, cap, cur, rfl, _⟩
    · omega
    · exact Insert_mid L t g cap i b N w (by omega) hn hNw h hM (hvt g rfl) (fun e => hvb (by rw [e]; rfl)) hb
end Go.Proofs.YtoljhgkgppjdcaaGreat

/- Whether packs are by name, by the program. -/
namespace Go.Proofs.YtoljhgkgppjdcaaGreat
open Go.RowKit Go.Shelf

set_option maxRecDepth 100000 in
set_option maxHeartbeats 4000000 in
theorem packsByName_any (ps : List packC.D) (v : Value) (w : World) (hs : smallPs ps) (h : rowAt packC w v ps) :
    Calls Tryz.prog 151 #[v] w fun x w' => x = .returned (.bool (formB ps)) ∧ Below w.heap.size w w' := by
  obtain ⟨a, cap, rfl, -, -, h⟩ := h
  obtain ⟨hlen, hz⟩ := hs
  have HZ := hid hz
  have H := hid h
  clear hz h
  go_enter Tryz.func151, Tryz.ntmps151
  go_wp2_with fail
  go_loopw [7] (fun i wr => ∃ k : Nat, k ≤ ps.length ∧ i = .int .i64 (k : Int) ∧ Hid ((List.range k).all (okAt ps) = true) ∧ Hid (Below w.heap.size w wr)) (fun i _ => ps.length - (intOf i).toNat)
  case atStart => exact ⟨0, Nat.zero_le _, rfl, hid rfl, hid (Below.refl _ _)⟩
  case round =>
    obtain ⟨k, hk, rfl, HA, HB⟩ := hrel
    by_cases hlt : k < ps.length
    · obtain ⟨e, he⟩ : ∃ e, ps[k]? = some e := ⟨ps[k], List.getElem?_eq_getElem hlt⟩
      obtain ⟨b, o, rfl, hbl, hc⟩ := (unhid H).resolve_left (by intro e; subst e; simp at hlt)
      obtain ⟨na, nc, ta, tc, ⟨c0, c1, c2, c3⟩, hat⟩ := pack_cells (unhid HB) hbl hc he
      have HAT := hid hat
      have HE := hid he
      have SP := hid (unhid HZ e (List.mem_of_getElem? he))
      have HC := hid hc
      have HBL := hid hbl
      have HB0 := hid (show ∀ x, Below w.heap.size w (wr.alloc x) from fun x => (unhid HB).alloc (unhid HB).size x)
      have HB1 := hid (show ∀ x, Below wr.heap.size wr (wr.alloc x) from fun x => (Below.refl _ wr).alloc (Nat.le_refl _) x)
      clear hc he hbl hat
      go_wp2_with fail
      have hbox := World.alloc_heap_new wr (.cells #[.string (PackD.name e), .string (PackD.version e), .slice na (PackD.needs e).length nc, .slice ta (PackD.tree e).length tc] 37)
      have hB1 := unhid HB1 (.cells #[.string (PackD.name e), .string (PackD.version e), .slice na (PackD.needs e).length nc, .slice ta (PackD.tree e).length tc] 37)
      have hB0 := unhid HB0 (.cells #[.string (PackD.name e), .string (PackD.version e), .slice na (PackD.needs e).length nc, .slice ta (PackD.tree e).length tc] 37)
      have hlw : wr.heap.size < (wr.alloc (.cells #[.string (PackD.name e), .string (PackD.version e), .slice na (PackD.needs e).length nc, .slice ta (PackD.tree e).length tc] 37)).heap.size := by simp
      generalize wr.alloc (.cells #[.string (PackD.name e), .string (PackD.version e), .slice na (PackD.needs e).length nc, .slice ta (PackD.tree e).length tc] 37) = W0 at hbox hB1 hB0 hlw ⊢
      have BX := hid hbox
      have HB2 := hid hB0
      have HB3 := hid hB1
      have HLW := hid hlw
      clear hbox hB0 hB1 hlw HB0 HB1 c0 c1 c2 c3
      have g0 : ∀ x : CW (fun w' => Below W0.heap.size W0 w'), x.w.cell? ⟨wr.heap.size, 0, none⟩ = some (.string (PackD.name e)) := fun x => cell_arrS ((x.h.block _ (unhid HLW)).trans (unhid BX)) 0 _ rfl
      have g1 : ∀ x : CW (fun w' => Below W0.heap.size W0 w'), x.w.cell? ⟨wr.heap.size, 1, none⟩ = some (.string (PackD.version e)) := fun x => cell_arrS ((x.h.block _ (unhid HLW)).trans (unhid BX)) 1 _ rfl
      have g2 : ∀ x : CW (fun w' => Below W0.heap.size W0 w'), x.w.cell? ⟨wr.heap.size, 2, none⟩ = some (.slice na (PackD.needs e).length nc) := fun x => cell_arrS ((x.h.block _ (unhid HLW)).trans (unhid BX)) 2 _ rfl
      have g3 : ∀ x : CW (fun w' => Below W0.heap.size W0 w'), x.w.cell? ⟨wr.heap.size, 3, none⟩ = some (.slice ta (PackD.tree e).length tc) := fun x => cell_arrS ((x.h.block _ (unhid HLW)).trans (unhid BX)) 3 _ rfl
      have hba : ∀ {q : Prop}, (CW (fun w' => Below W0.heap.size W0 w') → q) ↔ q := CW.all (Below.refl _ W0)
      have HAT0 := hid (packC.below (unhid HAT) (unhid HB3))
      -- behind a name that is not behind the one ahead of it nothing is asked
      by_cases hk0 : k = 0
      · subst hk0
        have EK := hid (okAt_0 (unhid HE))
        refine held_begin (fun w' => Below W0.heap.size W0 w') (by kernel_rfl) (drew_belowS _) ?_
        refine held_here [true, true, true, true, true, true, true, true, true, true, true, true, true, true, true] (by kernel_rfl) (by kernel_rfl) (fun _ _ _ _ _ h => h) (drew_belowS _) ?_
        dsimp only [pick]
        repeat (go_big_quiet_step (fail))
        refine wpQuiet_nil ?_
        have hD := drew_belowS (B := W0.heap.size) W0
        generalize W0.drew = W1 at hD ⊢
        clear g0 g1 g2 g3
        refine held_call 15 52 27 (enters_of Tryz.func52 (by kernel_rfl) rfl) #[.agg #[.string (PackD.name e), .string (PackD.version e), .slice na (PackD.needs e).length nc, .slice ta (PackD.tree e).length tc]] (by kernel_rfl) (by kernel_rfl) rfl rfl rfl rfl rfl ?_
        refine (packOk_any e _ W1 (unhid SP) (packC.below (unhid HAT0) hD)).mono ?_
        rintro r w2 ⟨rfl, hb⟩
        have hD2 := hD.trans (hb.mono hD.size)
        have HB4 := hid ((unhid HB2).trans (hD2.mono (unhid HB2).size))
        refine ⟨_, rfl, hD2, ?_⟩
        simp only [Act.put, List.setIfInBounds_toArray, List.set_cons_zero, List.set_cons_succ]
        clear hb
        cases hq : pkOk e with
        | false =>
          refine held_here [false, false, false, false, false, false, false, false, false, false, false, false, false, false, false, false, true, true] (by kernel_rfl) (by kernel_rfl) (fun _ _ _ _ _ h => h) hD2 ?_
          dsimp only [pick]
          repeat (go_big_quiet_step (fail))
          refine wpQuiet_nil ?_
          refine held_done (by kernel_rfl) ?_
          clear hba hD hD2
          go_wp2_with fail
          go_ret
          exact ⟨by unfold formB; rw [all_range_no hlt (by rw [unhid EK, hq])]; rfl, unhid HB4⟩
        | true =>
          have HQ := hid hq
          clear hq
          refine held_here [false, false, false, false, false, false, false, false, false, false, false, false, false, false, false, false, true, true] (by kernel_rfl) (by kernel_rfl) (fun _ _ _ _ _ h => h) hD2 ?_
          dsimp only [pick]
          repeat (go_big_quiet_step (fail))
          refine wpQuiet_nil ?_
          refine held_done (by kernel_rfl) ?_
          clear hba hD hD2
          go_wp2_with fail
          go_roundw
          case rel => exact ⟨1, by omega, by go_num, hid (all_range_snoc rfl (by rw [unhid EK, unhid HQ])), HB4⟩
          case measure => simp [intOf]; omega
      · obtain ⟨j, rfl⟩ : ∃ j, k = j + 1 := ⟨k - 1, by omega⟩
        obtain ⟨d, hd⟩ : ∃ d, ps[j]? = some d := ⟨ps[j], List.getElem?_eq_getElem (by omega)⟩
        obtain ⟨-, -, -, -, ⟨d0, -, -, -⟩, -⟩ := pack_cells (unhid HB) (unhid HBL) (unhid HC) hd
        have EK := hid (okAt_s (unhid HE) hd)
        have hbw : b < wr.heap.size := Nat.lt_of_lt_of_le (unhid HBL) (unhid HB).size
        have g4 : ∀ x : CW (fun w' => Below W0.heap.size W0 w'), x.w.cell? ⟨b, o + j * 4, none⟩ = some (.string (PackD.name d)) := fun x => (x.h.cell (p := ⟨b, o + j * 4, none⟩) (Nat.lt_of_lt_of_le hbw (unhid HB3).size)).trans (((unhid HB3).cell (p := ⟨b, o + j * 4, none⟩) hbw).trans d0)
        have hjj : ((j + 1 : Nat) : Int) - 1 = (j : Int) := by omega
        have HD := hid hd
        clear hd d0
        have hle := le_not_lt (PackD.name e) (PackD.name d)
        cases hls : ltS (PackD.name d) (PackD.name e) with
        | false =>
          rw [hls] at hle
          have hle2 : (Op.bytesLess (PackD.name e).toList (PackD.name d).toList || (PackD.name e).toList == (PackD.name d).toList) = true := hle
          clear hle
          refine held_begin (fun w' => Below W0.heap.size W0 w') (by kernel_rfl) (drew_belowS _) ?_
          refine held_here [true, true, true, true, true, true, true, true, true, true, true, true, true, true, true] (by kernel_rfl) (by kernel_rfl) (fun _ _ _ _ _ h => h) (drew_belowS _) ?_
          dsimp only [pick]
          repeat (go_big_quiet_step (fail))
          refine wpQuiet_nil ?_
          have hD := drew_belowS (B := W0.heap.size) W0
          generalize W0.drew = W1 at hD ⊢
          clear g0 g1 g2 g3 g4
          refine held_skip 15 27 (by kernel_rfl) (by kernel_rfl) rfl rfl rfl hD ?_
          have hD2 := hD
          have HB4 := hid ((unhid HB2).trans (hD2.mono (unhid HB2).size))
          simp only [Act.put, List.setIfInBounds_toArray, List.set_cons_zero, List.set_cons_succ]
          refine held_here [false, false, false, false, false, false, false, false, false, false, false, false, false, false, false, false, true, true] (by kernel_rfl) (by kernel_rfl) (fun _ _ _ _ _ h => h) hD2 ?_
          dsimp only [pick]
          repeat (go_big_quiet_step (fail))
          refine wpQuiet_nil ?_
          refine held_done (by kernel_rfl) ?_
          clear hba hD hD2
          go_wp2_with fail
          go_ret
          exact ⟨by unfold formB; rw [all_range_no hlt (by rw [unhid EK, hls, Bool.and_false])]; rfl, unhid HB4⟩
        | true =>
          rw [hls] at hle
          have hle2 : (Op.bytesLess (PackD.name e).toList (PackD.name d).toList || (PackD.name e).toList == (PackD.name d).toList) = false := hle
          have HLS := hid hls
          clear hle hls
          refine held_begin (fun w' => Below W0.heap.size W0 w') (by kernel_rfl) (drew_belowS _) ?_
          refine held_here [true, true, true, true, true, true, true, true, true, true, true, true, true, true, true] (by kernel_rfl) (by kernel_rfl) (fun _ _ _ _ _ h => h) (drew_belowS _) ?_
          dsimp only [pick]
          repeat (go_big_quiet_step (fail))
          refine wpQuiet_nil ?_
          have hD := drew_belowS (B := W0.heap.size) W0
          generalize W0.drew = W1 at hD ⊢
          clear g0 g1 g2 g3 g4
          refine held_call 15 52 27 (enters_of Tryz.func52 (by kernel_rfl) rfl) #[.agg #[.string (PackD.name e), .string (PackD.version e), .slice na (PackD.needs e).length nc, .slice ta (PackD.tree e).length tc]] (by kernel_rfl) (by kernel_rfl) rfl rfl rfl rfl rfl ?_
          refine (packOk_any e _ W1 (unhid SP) (packC.below (unhid HAT0) hD)).mono ?_
          rintro r w2 ⟨rfl, hb⟩
          have hD2 := hD.trans (hb.mono hD.size)
          have HB4 := hid ((unhid HB2).trans (hD2.mono (unhid HB2).size))
          refine ⟨_, rfl, hD2, ?_⟩
          simp only [Act.put, List.setIfInBounds_toArray, List.set_cons_zero, List.set_cons_succ]
          clear hb
          cases hq : pkOk e with
          | false =>
            refine held_here [false, false, false, false, false, false, false, false, false, false, false, false, false, false, false, false, true, true] (by kernel_rfl) (by kernel_rfl) (fun _ _ _ _ _ h => h) hD2 ?_
            dsimp only [pick]
            repeat (go_big_quiet_step (fail))
            refine wpQuiet_nil ?_
            refine held_done (by kernel_rfl) ?_
            clear hba hD hD2
            go_wp2_with fail
            go_ret
            exact ⟨by unfold formB; rw [all_range_no hlt (by rw [unhid EK, hq]; rfl)]; rfl, unhid HB4⟩
          | true =>
            have HQ := hid hq
            clear hq
            refine held_here [false, false, false, false, false, false, false, false, false, false, false, false, false, false, false, false, true, true] (by kernel_rfl) (by kernel_rfl) (fun _ _ _ _ _ h => h) hD2 ?_
            dsimp only [pick]
            repeat (go_big_quiet_step (fail))
            refine wpQuiet_nil ?_
            refine held_done (by kernel_rfl) ?_
            clear hba hD hD2
            go_wp2_with fail
            go_roundw
            case rel => exact ⟨j + 1 + 1, by omega, by go_num, hid (all_range_snoc (unhid HA) (by rw [unhid EK, unhid HQ, unhid HLS]; rfl)), HB4⟩
            case measure => simp [intOf]; omega
    · have e : k = ps.length := by omega
      subst e
      go_wp2_with fail
      go_ret
      exact ⟨by unfold formB; rw [unhid HA]; rfl, unhid HB⟩
end Go.Proofs.YtoljhgkgppjdcaaGreat

/- Packs without one of a name, by the model: the row is new, its items are those that were there. -/
namespace Go.Proofs.YtoljhgkgppjdcaaGreat
open Go.RowKit Go.Shelf

def withoutP (q : ByteArray) (ps : List packC.D) : List packC.D := List.filter (α := packC.D) (fun p => !decide (PackD.name p = q)) ps
/-- The cells of an item of a row, one by one. -/
theorem item_cells {w W : World} {N : Nat} {v : Value} {L : List (It packC)} {k : Nat} {t : It packC} (h : NRow packC 37 w N v L) (ht : L[k]? = some t) (hb : Below w.heap.size w W) : ∃ (g cap : Nat) (na : Option Addr) (nc : Nat) (ta : Option Addr) (tc : Nat), v = .slice (some ⟨g, 0, none⟩) L.length cap ∧ g < w.heap.size ∧
    t.1 = [.string (PackD.name t.2.1), .string (PackD.version t.2.1), .slice na (PackD.needs t.2.1).length nc, .slice ta (PackD.tree t.2.1).length tc] ∧
    W.cell? ⟨g, k * 4, none⟩ = some (.string (PackD.name t.2.1)) ∧ W.cell? ⟨g, k * 4 + 1, none⟩ = some (.string (PackD.version t.2.1)) ∧ W.cell? ⟨g, k * 4 + 2, none⟩ = some (.slice na (PackD.needs t.2.1).length nc) ∧ W.cell? ⟨g, k * 4 + 3, none⟩ = some (.slice ta (PackD.tree t.2.1).length tc) := by
  have hkl := (List.getElem?_eq_some_iff.1 ht).1
  rcases h.row.2 with ⟨_, h0⟩ | ⟨g, cap, cur, hv, hN, hg, hc, _, hsz, hcells⟩
  · omega
  · have hown := h.items.each t (List.mem_of_getElem? ht)
    have hgl := (Array.getElem?_eq_some_iff.1 hg).1
    obtain ⟨v2, v3, F2, F3, e, _, h2, h3, _⟩ := packC_own hown
    obtain ⟨na, nc, rfl⟩ := rowOwn.slice h2
    obtain ⟨ta, tc, rfl⟩ := rowOwn.slice h3
    have key : ∀ j u, t.1[j]? = some u → W.cell? ⟨g, k * 4 + j, none⟩ = some u := fun j u hj => by
      have hj4 : j < packC.n := by rw [← packC.len hown]; exact (List.getElem?_eq_some_iff.1 hj).1
      have h1 := itCells_get (fun t ht => packC.len (h.items.each t ht)) k t ht j hj4
      have en : packC.n = 4 := rfl
      rw [en] at h1 hj4 hcells
      rw [hj, ← hcells, List.getElem?_take_of_lt (by omega), Array.getElem?_toList] at h1
      exact (hb.cell (p := ⟨g, k * 4 + j, none⟩) hgl).trans (cell_arrS hg _ _ h1)
    rw [e] at key
    exact ⟨g, cap, na, nc, ta, tc, hv, hgl, e, key 0 _ rfl, key 1 _ rfl, key 2 _ rfl, key 3 _ rfl⟩

end Go.Proofs.YtoljhgkgppjdcaaGreat

/- Packs copied, by the model. -/
namespace Go.Proofs.YtoljhgkgppjdcaaGreat
open Go.RowKit Go.Shelf

/-- Items appended, in a region that draws its order. -/
theorem op_items {K : CK} {t e : Nat} (hET : ET K t e) (h1 : OneC K) {ops : Array Oper} {o : Oper} {a : Act} (w : World) {Q : Exit → Act → World → Prop} {K' : Act → World → Prop} (d : Nat) (s x : Operand) (ho : o.op = .call { callee := .builtin .append, args := #[s, x], argTypes := #[t, t] }) (hw : Region.wanted o (yielded ops a.tmps) = true) (hd : o.dst = some d)
    (N : Nat) (v : Value) (L M : List (It K)) (b of c : Nat) (h : NRow K e w N v L) (hM : Items K w N (L ++ M)) (hap : ∀ g, v.ownBlock = some g → g ∉ itF M) (hcell : ∀ j u, (itCells M)[j]? = some u → w.cell? ⟨b, of + j, none⟩ = some u) (hn : L.length + M.length ≤ 4194304) (hN : N ≤ w.heap.size) (hs : a.eval s = v) (hx : a.eval x = .slice (some ⟨b, of, none⟩) M.length c)
    (hk : ∀ v' w', RowGrew K e w N v (L ++ M) v' w' → K' (a.put (some d) v') w') : if Region.wanted o (yielded ops a.tmps) = true then Oper.wp Tryz.prog o a w K' Q else K' (a.put o.dst undef) w := by
  rw [if_pos hw]
  obtain ⟨v', w', hr, h2, h3, h4, h5⟩ := app_items hET h1 w o.type N v L M b of c h hM hap hcell hn hN
  unfold Oper.wp execOp
  simp only [ho, resolve, invoke, builtin, Sem.run_bind, Sem.run_pure, Result.andThen_ok, List.map_toArray, List.map_cons, List.map_nil, hs, hx, hr]
  show K' (a.put o.dst v') w'
  rw [hd]
  refine hk v' w' ⟨h2, h3, h4, ?_⟩
  rw [h5, List.length_append]
  constructor
  · rintro ⟨rfl, h0⟩
    refine ⟨rfl, ?_⟩
    rcases h.row.2 with ⟨_, hl⟩ | ⟨g, cap, cur, hv, _⟩
    · omega
    · cases hv
  · rintro ⟨h0, h1⟩
    exact ⟨h0, by omega⟩
theorem NRow.lower {K : CK} {e : Nat} {W : World} {N M : Nat} {v : Value} {L : List (It K)} (h : NRow K e W N v L) (hM : M ≤ N) : NRow K e W M v L := by
  refine ⟨⟨h.row.1, ?_⟩, ⟨h.items.each, h.items.nodup, fun k hk => Nat.le_trans hM (h.items.base k hk)⟩, h.apart⟩
  rcases h.row.2 with h1 | ⟨g, cap, cur, hv, hN, hr⟩
  · exact .inl h1
  · exact .inr ⟨g, cap, cur, hv, by omega, hr⟩
/-- The boxes of a copy under way. -/
structure CopyW (w wr : World) (g : Nat) (v u : Value) : Prop where
  box : wr.heap[g]? = some (.cells #[v] 25 (0, 0))
  res : wr.heap[g + 1]? = some (.cells #[.slice none 0 0] 25 (0, 0))
  out : wr.heap[g + 1 + 1]? = some (.cells #[u] 25 (0, 0))
  size : g + 1 + 1 < wr.heap.size
  below : Below g w wr
theorem grown_transR {a b c : World} {r : Option Nat} (h : a.grownBy b r) (h2 : b.grownBy c r) : a.grownBy c r := ⟨h2.os.trans h.os, h2.tape.trans h.tape, h2.output.trans h.output, Nat.le_trans h.size h2.size, fun k hk hne => (h2.block k (Nat.lt_of_lt_of_le hk h.size) hne).trans (h.block k hk hne)⟩
theorem below_grown {a b : World} (r : Option Nat) (h : Below a.heap.size a b) : a.grownBy b r := ⟨h.os, h.tape, h.output, h.size, fun k hk _ => h.block k hk⟩
theorem CopyW.grown {w wr W : World} {g : Nat} {v u : Value} {r : Option Nat} (h : CopyW w wr g v u) (hg : wr.grownBy W r) (hr : ∀ k, r = some k → g + 1 + 1 < k) : CopyW w W g v u := by
  have hs := h.size
  have hb : ∀ k, k ≤ g + 1 + 1 → W.heap[k]? = wr.heap[k]? := fun k hk => hg.block k (by omega) (fun e => by have := hr k e.symm; omega)
  exact ⟨(hb _ (by omega)).trans h.box, (hb _ (by omega)).trans h.res, (hb _ (by omega)).trans h.out, Nat.lt_of_lt_of_le hs hg.size, h.below.grown hg (by omega) (fun k e => by have := hr k e; omega)⟩
theorem CopyW.store {w W : World} {g : Nat} {v u : Value} (h : CopyW w W g v u) (u' : Value) : CopyW w (W.setCell ⟨g + 1 + 1, 0, none⟩ u') g v u' :=
  ⟨(Below.heap_setCell _ _ _ _ (by dsimp only; omega)).trans h.box, (Below.heap_setCell _ _ _ _ (by dsimp only; omega)).trans h.res, heap_setCell_same W (g + 1 + 1) 0 _ _ u' h.out, by simpa using h.size, h.below.setCell (by dsimp only; omega) _⟩

set_option maxRecDepth 100000 in
set_option maxHeartbeats 8000000 in
theorem l9Copy_any (ps : List packC.D) (v : Value) (w : World) (hs : smallPs ps) (h : rowAt packC w v ps) :
    Calls Tryz.prog 57 #[.agg #[v]] w fun x w' => ∃ (u : Value) (L : List (It packC)), x = .returned (.agg #[u]) ∧ NRow packC 37 w' w.heap.size u L ∧ itD L = ps ∧ Below w.heap.size w w' := by
  obtain ⟨a, cap, rfl, -, -, h⟩ := h
  have hlen := hs.1
  have HSM := hid hs
  have H := hid h
  clear h hs
  go_enter Tryz.func57, Tryz.ntmps57
  go_wp2_with fail
  obtain ⟨hP, hR, hO, hS, hB⟩ := three_boxes w (.cells #[.slice a ps.length cap] 25) (.cells #[.slice none 0 0] 25) (.cells #[.slice none 0 0] 25)
  generalize ((w.alloc (.cells #[.slice a ps.length cap] 25)).alloc (.cells #[.slice none 0 0] 25)).alloc (.cells #[.slice none 0 0] 25) = W0 at hP hR hO hS hB ⊢
  have HC0 := hid (CopyW.mk hP hR hO hS hB)
  clear hP hR hO hS hB
  go_loopw [4] (fun i wr => ∃ (k : Nat) (L : List (It packC)) (ga : Option Addr) (c : Nat), k ≤ ps.length ∧ i = .int .i64 (k : Int) ∧ Hid (L.length = k) ∧ Hid (itD L = ps.take k) ∧ Hid (NRow packC 37 wr (w.heap.size + 1 + 1 + 1) (.slice ga k c) L) ∧ Hid (CopyW w wr w.heap.size (.slice a ps.length cap) (.slice ga k c))) (fun i _ => ps.length - (intOf i).toNat)
  case atStart => exact ⟨0, [], none, 0, Nat.zero_le _, rfl, hid rfl, hid (by simp [itD]), hid (NRow.none _ _), HC0⟩
  case round =>
    clear HC0
    obtain ⟨k, L, ga, c, hk, rfl, HK, HL, HR, HC⟩ := hrel
    have o0 := cell_arrS (unhid HC).box 0 _ rfl
    by_cases hlt : k < ps.length
    · obtain ⟨e, he⟩ : ∃ e, ps[k]? = some e := ⟨ps[k], List.getElem?_eq_getElem hlt⟩
      obtain ⟨b, o, rfl, hbl, hc⟩ := (unhid H).resolve_left (by intro e; subst e; simp at hlt)
      obtain ⟨na, nc, ta, tc, ⟨c0, c1, c2, c3⟩, hat⟩ := pack_cells (unhid HC).below hbl hc he
      have hsp := (unhid HSM).2 e (List.mem_of_getElem? he)
      have hsz : (PackD.needs e).length ≤ 4194304 ∧ (PackD.tree e).length ≤ 4194304 := ⟨by have := hsp.needs.1; omega, by have := hsp.tree.1; rw [entsD_len] at this; omega⟩
      have HE := hid he
      have hrb : ∀ k', (Value.slice ga k c).ownBlock = some k' → w.heap.size + 1 + 1 < k' := fun k' hk' => by have := ((unhid HR).base k' (.inl hk')).1; omega
      have cellx : ∀ (x : CW (fun w' => wr.grownBy w' (Value.slice ga k c).ownBlock)) (p : Addr) (u : Value), p.block ≤ w.heap.size + 1 + 1 → wr.cell? p = some u → x.w.cell? p = some u := fun x p u hp hu => x.h.cell hu (fun e => by have := hrb _ e.symm; omega)
      have gq0 : ∀ x : CW (fun w' => wr.grownBy w' (Value.slice ga k c).ownBlock), x.w.cell? ⟨w.heap.size, 0, none⟩ = some (.slice (some ⟨b, o, none⟩) ps.length cap) := fun x => cellx x _ _ (by dsimp only; omega) o0
      have gq1 : ∀ x : CW (fun w' => wr.grownBy w' (Value.slice ga k c).ownBlock), x.w.cell? ⟨w.heap.size + 1 + 1, 0, none⟩ = some (.slice ga k c) := fun x => cellx x _ _ (by dsimp only; omega) (cell_arrS (unhid HC).out 0 _ rfl)
      have gc0 : ∀ x : CW (fun w' => wr.grownBy w' (Value.slice ga k c).ownBlock), x.w.cell? ⟨b, o + k * 4, none⟩ = some (.string (PackD.name e)) := fun x => cellx x _ _ (by dsimp only; omega) c0
      have gc1 : ∀ x : CW (fun w' => wr.grownBy w' (Value.slice ga k c).ownBlock), x.w.cell? ⟨b, o + k * 4 + 1, none⟩ = some (.string (PackD.version e)) := fun x => cellx x _ _ (by dsimp only; omega) c1
      have gc2 : ∀ x : CW (fun w' => wr.grownBy w' (Value.slice ga k c).ownBlock), x.w.cell? ⟨b, o + k * 4 + 2, none⟩ = some (.slice na (PackD.needs e).length nc) := fun x => cellx x _ _ (by dsimp only; omega) c2
      have gc3 : ∀ x : CW (fun w' => wr.grownBy w' (Value.slice ga k c).ownBlock), x.w.cell? ⟨b, o + k * 4 + 3, none⟩ = some (.slice ta (PackD.tree e).length tc) := fun x => cellx x _ _ (by dsimp only; omega) c3
      have hd0 : wr.grownBy wr.drew (Value.slice ga k c).ownBlock := ⟨rfl, rfl, rfl, Nat.le_refl _, fun _ _ _ => rfl⟩
      have HD0 := hid hd0
      have hbd : Below wr.heap.size wr wr.drew := ⟨rfl, rfl, rfl, Nat.le_refl _, fun _ _ => rfl⟩
      have JN := hid (l9Pack_any e _ wr.drew hsz (packC.below hat hbd))
      have HBD := hid hbd
      clear hat hc he hbl hsp hsz hrb cellx c0 c1 c2 c3 hbd
      go_wp2_with fail
      clear o0
      have hba : ∀ {q : Prop}, (CW (fun w' => wr.grownBy w' (Value.slice ga k c).ownBlock) → q) ↔ q := CW.all hd0
      refine heldE_begin 11 (fun w' => wr.grownBy w' (Value.slice ga k c).ownBlock) (by kernel_rfl) ?_
      refine heldE_here [true, true, true, true, true, true, true] (by kernel_rfl) (by kernel_rfl) (fun _ _ _ _ _ h => h) hd0 ?_
      dsimp only [pick]
      repeat (go_big_quiet_step (fail))
      refine wpQuiet_nil ?_
      clear hba hd0 gq0 gq1 gc0 gc1 gc2 gc3
      refine heldE_op 7 (by kernel_rfl) (by kernel_rfl) rfl (fun K hK => ?_)
      refine call_op 117 20 (enters_of Tryz.func117 (by kernel_rfl) rfl) #[.agg #[.string (PackD.name e), .string (PackD.version e), .slice na (PackD.needs e).length nc, .slice ta (PackD.tree e).length tc]] rfl rfl rfl rfl ?_
      refine (unhid JN).mono ?_
      rintro x w2 ⟨cs, F, rfl, hown, hF, hb⟩
      obtain ⟨v2, v3, F2, F3, rfl, -, -, -, -⟩ := packC_own hown
      have hbb : Below wr.heap.size wr w2 := (unhid HBD).trans hb
      have hg2 := below_grown (Value.slice ga k c).ownBlock hbb
      have HX := hid (And.intro hbb (And.intro hown hF))
      refine ⟨_, rfl, hK.out _ _ hg2 ?_⟩
      clear hK K hown hF hb hbb JN HBD HD0
      simp only [Act.put, List.setIfInBounds_toArray, List.set_cons_zero, List.set_cons_succ]
      refine heldE_op 8 (by kernel_rfl) (by kernel_rfl) rfl (fun K hK => ?_)
      go_simp
      obtain ⟨hbb, hown, hF⟩ := unhid HX
      have hnew := World.alloc_heap_new w2 (.cells #[.string (PackD.name e), .string (PackD.version e), v2, v3] 37)
      have hb2 := (Below.refl w2.heap.size w2).alloc (Nat.le_refl _) (.cells #[.string (PackD.name e), .string (PackD.version e), v2, v3] 37)
      have hNs : w.heap.size + 1 + 1 + 1 ≤ wr.heap.size := (unhid HC).size
      obtain ⟨q1, q2, q3⟩ := items_new (unhid HR) hNs hbb hown (fun k hk => (hF k hk).1) hb2
      have hb3 := hbb.trans (hb2.mono hbb.size)
      have hg3 := below_grown (Value.slice ga k c).ownBlock hb3
      have hcl : ∀ j u, (itCells [(([.string (PackD.name e), .string (PackD.version e), v2, v3], e, F) : It packC)])[j]? = some u → (w2.alloc (.cells #[.string (PackD.name e), .string (PackD.version e), v2, v3] 37)).cell? ⟨w2.heap.size, 0 + j, none⟩ = some u := fun j u hj => by
        rw [Nat.zero_add]
        refine cell_arrS hnew j u ?_
        have hj' : [.string (PackD.name e), .string (PackD.version e), v2, v3][j]? = some u := by simpa [itCells] using hj
        simpa using hj'
      have hNs3 : w.heap.size + 1 + 1 + 1 ≤ (w2.alloc (.cells #[.string (PackD.name e), .string (PackD.version e), v2, v3] 37)).heap.size := Nat.le_trans hNs hb3.size
      refine hK.out _ _ hg3 ?_
      clear hK K hg2 hbb hown hF HX hnew hb2 hb3
      generalize w2.alloc (.cells #[.string (PackD.name e), .string (PackD.version e), v2, v3] 37) = w3 at *
      generalize w2.heap.size = gs at *
      refine heldE_op 9 (by kernel_rfl) (by kernel_rfl) rfl (fun K hK => ?_)
      refine op_items etPack onePack w3 22 _ _ rfl rfl rfl (w.heap.size + 1 + 1 + 1) (.slice ga k c) L [(([.string (PackD.name e), .string (PackD.version e), v2, v3], e, F) : It packC)] gs 0 1 q1 q2 q3 hcl (by rw [unhid HK]; simp only [List.length_singleton]; omega) hNs3 rfl rfl ?_
      intro v' w4 hg
      obtain ⟨ga', c', hv'⟩ := grew_slice hg
      have hl2 : (L ++ [(([.string (PackD.name e), .string (PackD.version e), v2, v3], e, F) : It packC)]).length = k + 1 := by rw [List.length_append, unhid HK]; rfl
      rw [hl2] at hv'
      subst hv'
      have hg4 := grown_transR hg3 hg.by_
      have HC4 := hid ((unhid HC).grown hg4 (fun k' hk' => by have := ((unhid HR).base k' (.inl hk')).1; omega))
      have HN := hid hg.row
      have HL2 := hid (show itD (L ++ [(([.string (PackD.name e), .string (PackD.version e), v2, v3], e, F) : It packC)]) = ps.take (k + 1) by
        rw [itD_app, unhid HL, List.take_add_one, unhid HE]; rfl)
      have HK2 := hid hl2
      generalize L ++ [(([.string (PackD.name e), .string (PackD.version e), v2, v3], e, F) : It packC)] = L2 at *
      refine hK.out _ _ hg4 ?_
      clear hK K hg hg3 hl2 q1 q2 q3 hcl hNs3
      simp only [Act.put, List.setIfInBounds_toArray, List.set_cons_zero, List.set_cons_succ]
      have hba : ∀ {q : Prop}, (CW (fun w' => wr.grownBy w' (Value.slice ga k c).ownBlock) → q) ↔ q := CW.all hg4
      refine heldE_here [false, false, false, false, false, false, false, false, false, false, true] (by kernel_rfl) (by kernel_rfl) (fun _ _ _ _ _ h => h) hg4 ?_
      dsimp only [pick]
      repeat (go_big_quiet_step (fail))
      refine wpQuiet_nil ?_
      clear hba hg4
      obtain ⟨o2, p2⟩ := cell_fz (unhid HC4).out 0 _ rfl
      refine heldE_last (by kernel_rfl) (by kernel_rfl) rfl (fun K hK => ?_)
      go_simp
      refine hK.out _ _ ?_
      clear hK K o2 p2
      refine heldE_done (by kernel_rfl) ?_
      have HC5 := hid ((unhid HC4).store (.slice ga' ((k + 1 : Nat)) c'))
      have HN5 := hid ((unhid HN).frame (W' := w4.setCell ⟨w.heap.size + 1 + 1, 0, none⟩ (.slice ga' ((k + 1 : Nat)) c')) (fun k' hk' => Below.heap_setCell _ _ _ _ (by have := ((unhid HN).base k' hk').1; dsimp only; omega)))
      clear HC4 HN HC HR
      go_wp2_with fail
      go_roundw
      case rel => exact ⟨k + 1, L2, ga', c', by omega, by go_num, HK2, HL2, HN5, HC5⟩
      case measure => simp [intOf]; omega
    · have e : k = ps.length := by omega
      subst e
      have HL2 := hid (show itD L = ps by have := unhid HL; rwa [List.take_length] at this)
      obtain ⟨o2, p2⟩ := cell_fz (unhid HC).out 0 _ rfl
      obtain ⟨o1, p1⟩ := cell_fz (unhid HC).res 0 _ rfl
      go_wp2_with fail
      refine bodyPost_ret (v := .agg #[.slice ga ps.length c]) (by simp [results, Tryz.results57, go_sem, World.cell?_setCell_same', o1]) rfl ⟨_, L, rfl, ((unhid HR).frame (fun k' hk' => Below.heap_setCell _ _ _ _ (by have := ((unhid HR).base k' hk').1; dsimp only; omega))).lower (by omega), unhid HL2, (unhid HC).below.setCell (by dsimp only; omega) _⟩
end Go.Proofs.YtoljhgkgppjdcaaGreat

/- What the laws hand over of a need. -/
namespace Go.Proofs.YtoljhgkgppjdcaaGreat
open Go.RowKit

end Go.Proofs.YtoljhgkgppjdcaaGreat

/- Whether a pack is what is needed: by the program and by its model. -/
namespace Go.Proofs.YtoljhgkgppjdcaaGreat
open Go.RowKit

/-- What a kind asks of the order of two versions. -/
def kindB (k o : Int) : Bool := if k = 1 then o == 0 else if k = 2 then decide (0 ≤ o) else if k = 3 then decide (o < 0) else true
def fitsB (n : List UInt8) (k : Int) (v name ver : List UInt8) : Bool := needB n k v && versOk ver && (n == name) && kindB k (ordI ver v)

set_option maxRecDepth 100000 in
set_option maxHeartbeats 1000000 in
theorem same_any (g h n m c d : Nat) (xs ys : List Int) (hn : xs.length = n) (hm : ys.length = m) (bn : n ≤ 1000000) (bm : m ≤ 1000000) (w : World) (hx : Nums w g xs) (hy : Nums w h ys) :
    Calls Tryz.prog 217 #[.slice (some ⟨g, 0, none⟩) n c, .slice (some ⟨h, 0, none⟩) m d] w fun e w' => e = .returned (.bool (cmpL xs ys == 0)) ∧ w' = w := by
  have H := hid (order_any g h n m c d xs ys hn hm bn bm w hx hy)
  clear hx hy hn hm
  go_enter Tryz.func217, Tryz.ntmps217
  go_wp2_with fail
  refine (unhid H).mono ?_
  rintro e w1 ⟨rfl, rfl⟩
  go_wp2_with fail
  go_ret
  exact ⟨rfl, rfl⟩

set_option maxRecDepth 100000 in
set_option maxHeartbeats 1000000 in
theorem elder_any (g h n m c d : Nat) (xs ys : List Int) (hn : xs.length = n) (hm : ys.length = m) (bn : n ≤ 1000000) (bm : m ≤ 1000000) (w : World) (hx : Nums w g xs) (hy : Nums w h ys) :
    Calls Tryz.prog 219 #[.slice (some ⟨g, 0, none⟩) n c, .slice (some ⟨h, 0, none⟩) m d] w fun e w' => e = .returned (.bool (decide (cmpL xs ys < 0))) ∧ w' = w := by
  have H := hid (order_any g h n m c d xs ys hn hm bn bm w hx hy)
  clear hx hy hn hm
  go_enter Tryz.func219, Tryz.ntmps219
  go_wp2_with fail
  refine (unhid H).mono ?_
  rintro e w1 ⟨rfl, rfl⟩
  go_wp2_with fail
  go_ret
  exact ⟨rfl, rfl⟩

set_option maxRecDepth 100000 in
set_option maxHeartbeats 1000000 in
theorem ask2_any (b g h n m c d : Nat) (xs ys : List Int) (hn : xs.length = n) (hm : ys.length = m) (bn : n ≤ 1000000) (bm : m ≤ 1000000) (w : World) (hc : w.cell? ⟨b, 0, none⟩ = some (.slice (some ⟨h, 0, none⟩) m d)) (hx : Nums w g xs) (hy : Nums w h ys) :
    Calls Tryz.prog 216 #[.slice (some ⟨g, 0, none⟩) n c, .pointer (some ⟨b, 0, none⟩)] w fun e w' => e = .returned (.bool (kindB 1 (cmpL xs ys))) ∧ w' = w := by
  have H := hid (same_any g h n m c d xs ys hn hm bn bm w hx hy)
  clear hx hy hn hm
  go_enter Tryz.func216, Tryz.ntmps216
  go_wp2_with fail
  refine (unhid H).mono ?_
  rintro e w1 ⟨rfl, rfl⟩
  go_wp2_with fail
  go_ret
  exact ⟨rfl, rfl⟩

set_option maxRecDepth 100000 in
set_option maxHeartbeats 1000000 in
theorem ask3_any (b g h n m c d : Nat) (xs ys : List Int) (hn : xs.length = n) (hm : ys.length = m) (bn : n ≤ 1000000) (bm : m ≤ 1000000) (w : World) (hc : w.cell? ⟨b, 0, none⟩ = some (.slice (some ⟨h, 0, none⟩) m d)) (hx : Nums w g xs) (hy : Nums w h ys) :
    Calls Tryz.prog 218 #[.slice (some ⟨g, 0, none⟩) n c, .pointer (some ⟨b, 0, none⟩)] w fun e w' => e = .returned (.bool (kindB 2 (cmpL xs ys))) ∧ w' = w := by
  have H := hid (elder_any g h n m c d xs ys hn hm bn bm w hx hy)
  have E := hid (show kindB 2 (cmpL xs ys) = !decide (cmpL xs ys < 0) by rw [← decide_not]; exact decide_eq_decide.2 (by omega))
  clear hx hy hn hm
  go_enter Tryz.func218, Tryz.ntmps218
  go_wp2_with fail
  refine (unhid H).mono ?_
  rintro e w1 ⟨rfl, rfl⟩
  go_wp2_with fail
  go_ret
  exact ⟨by rw [unhid E]; first | rfl | simp, rfl⟩

set_option maxRecDepth 100000 in
set_option maxHeartbeats 1000000 in
theorem ask4_any (b g h n m c d : Nat) (xs ys : List Int) (hn : xs.length = n) (hm : ys.length = m) (bn : n ≤ 1000000) (bm : m ≤ 1000000) (w : World) (hc : w.cell? ⟨b, 0, none⟩ = some (.slice (some ⟨h, 0, none⟩) m d)) (hx : Nums w g xs) (hy : Nums w h ys) :
    Calls Tryz.prog 220 #[.slice (some ⟨g, 0, none⟩) n c, .pointer (some ⟨b, 0, none⟩)] w fun e w' => e = .returned (.bool (kindB 3 (cmpL xs ys))) ∧ w' = w := by
  have H := hid (elder_any g h n m c d xs ys hn hm bn bm w hx hy)
  clear hx hy hn hm
  go_enter Tryz.func220, Tryz.ntmps220
  go_wp2_with fail
  refine (unhid H).mono ?_
  rintro e w1 ⟨rfl, rfl⟩
  go_wp2_with fail
  go_ret
  exact ⟨rfl, rfl⟩

set_option maxRecDepth 100000 in
set_option maxHeartbeats 1000000 in
theorem ask1_any (v : Value) (w : World) :
    Calls Tryz.prog 215 #[v] w fun e w' => e = .returned (.bool true) ∧ w' = w := by
  go_enter Tryz.func215, Tryz.ntmps215
  go_wp2_with fail
  go_ret
  exact ⟨rfl, rfl⟩

set_option maxRecDepth 100000 in
set_option maxHeartbeats 2000000 in
theorem l3Fits_any (n v name ver : ByteArray) (k : Int) (hv : v.size ≤ 1048576) (hr : ver.size ≤ 1048576) (w : World) :
    Calls Tryz.prog 157 #[.agg #[.string n, .int .i64 k, .string v], .string name, .string ver] w fun e W' => e = .returned (.bool ((n.data.toList == name.data.toList) && kindB k (ordI ver.data.toList v.data.toList))) ∧ Below w.heap.size w W' := by
  have HB0 := hid (show Below w.heap.size w (w.alloc (.cells #[.string n, .int .i64 k, .string v] 51)) from (Below.refl _ w).alloc (Nat.le_refl _) _)
  have fcell : ∀ w1 : World, Below (w.alloc (.cells #[.string n, .int .i64 k, .string v] 51)).heap.size (w.alloc (.cells #[.string n, .int .i64 k, .string v] 51)) w1 → w1.cell? ⟨w.heap.size, 1, none⟩ = some (.int .i64 k) := fun w1 hb =>
    (hb.cell (p := ⟨w.heap.size, 1, none⟩) (by simp)).trans (by simp [go_sem])
  have Hf := hid fcell
  clear fcell
  cases hne : (n.toList == name.toList)
  · have E := hid (show ((n.data.toList == name.data.toList) && kindB k (ordI ver.data.toList v.data.toList)) = false by rw [← Lib.toList_data, ← Lib.toList_data, hne]; rfl)
    go_enter Tryz.func157, Tryz.ntmps157
    go_wp2_with fail
    go_ret
    exact ⟨by rw [unhid E]; rfl, unhid HB0⟩
  · have E : ((n.data.toList == name.data.toList) && kindB k (ordI ver.data.toList v.data.toList)) = kindB k (ordI ver.data.toList v.data.toList) := by rw [← Lib.toList_data, ← Lib.toList_data, hne]; rfl
    rw [E]
    clear E
    have C := specVersionOrder_any ver v hr hv
    generalize ordI ver.data.toList v.data.toList = o at C ⊢
    have C' := hid C
    clear C
    go_enter Tryz.func157, Tryz.ntmps157
    go_wp2_with fail
    refine (unhid C' _).mono ?_
    rintro e w1 ⟨rfl, hb⟩
    have f1 := unhid Hf w1 hb
    have HB1 := hid ((unhid HB0).trans (hb.mono (unhid HB0).size))
    clear hb Hf C'
    by_cases k1 : k = 1
    · subst k1
      go_wp2_with fail
      go_ret
      exact ⟨rfl, unhid HB1⟩
    · by_cases k2 : k = 2
      · subst k2
        go_wp2_with fail
        go_ret
        exact ⟨by simp [kindB], unhid HB1⟩
      · by_cases k3 : k = 3
        · subst k3
          go_wp2_with fail
          go_ret
          exact ⟨rfl, unhid HB1⟩
        · have E := hid (show kindB k o = true by simp [kindB, k1, k2, k3])
          have h1 : (k == 1) = false := by rw [beq_eq_false_iff_ne]; exact k1
          have h2 : (k == 2) = false := by rw [beq_eq_false_iff_ne]; exact k2
          have h3 : (k == 3) = false := by rw [beq_eq_false_iff_ne]; exact k3
          go_wp2_with fail
          go_ret
          exact ⟨by rw [unhid E]; rfl, unhid HB1⟩

theorem fitsB_0 {n v name ver : List UInt8} (h1 : needB n 0 v = true) (h2 : versOk ver = true) (h3 : (n == name) = true) : fitsB n 0 v name ver = true := by simp [fitsB, h1, h2, h3, kindB]
theorem fitsB_k {n v name ver : List UInt8} {k : Int} (h1 : needB n k v = true) (h2 : versOk ver = true) (h4 : versOk v = true) (h3 : (n == name) = true) : fitsB n k v name ver = kindB k (cmpL (versL ver) (versL v)) := by simp [fitsB, h1, h2, h3, ordI, h4]

set_option maxRecDepth 100000 in
set_option maxHeartbeats 4000000 in
theorem NeedFits_any (n v name ver : ByteArray) (k : Int) (hn : n.size ≤ maxLen) (hv : v.size ≤ maxLen) (hr : ver.size ≤ maxLen) (w : World) :
    Calls Tryz.prog 208 #[.agg #[.string n, .int .i64 k, .string v], .string name, .string ver] w fun e W' => e = .returned (.bool (fitsB n.data.toList k v.data.toList name.data.toList ver.data.toList)) ∧ Below w.heap.size w W' := by
  have HB0 := hid (show Below w.heap.size w (w.alloc (.cells #[.string n, .int .i64 k, .string v] 51)) from (Below.refl _ w).alloc (Nat.le_refl _) _)
  have fcell : ∀ w1 : World, Below (w.alloc (.cells #[.string n, .int .i64 k, .string v] 51)).heap.size (w.alloc (.cells #[.string n, .int .i64 k, .string v] 51)) w1 → w1.cell? ⟨w.heap.size, 0, none⟩ = some (.string n) ∧ w1.cell? ⟨w.heap.size, 1, none⟩ = some (.int .i64 k) ∧ w1.cell? ⟨w.heap.size, 2, none⟩ = some (.string v) := fun w1 hb =>
    ⟨(hb.cell (p := ⟨w.heap.size, 0, none⟩) (by simp)).trans (by simp [go_sem]), (hb.cell (p := ⟨w.heap.size, 1, none⟩) (by simp)).trans (by simp [go_sem]), (hb.cell (p := ⟨w.heap.size, 2, none⟩) (by simp)).trans (by simp [go_sem])⟩
  have Hf := hid fcell
  clear fcell
  go_enter Tryz.func208, Tryz.ntmps208
  go_wp2_with fail
  refine (versionOf_any ver hr _).mono ?_
  rintro e w1 ⟨va, rfl, oa, -, b1⟩
  have OA := hid oa
  have B1 := hid b1
  obtain ⟨f1, f2, f3⟩ := unhid Hf w1 b1
  clear oa b1
  go_wp2_with fail
  refine (askOf_any n v k hv _).mono ?_
  rintro e w2 ⟨fv, rfl, hfv, b2⟩
  have FV := hid hfv
  have B2 := hid b2
  have B12 := hid ((unhid B1).trans (b2.mono (unhid B1).size))
  obtain ⟨g1, g2, g3⟩ := unhid Hf w2 (unhid B12)
  clear hfv b2 f1 f2 f3
  cases hy : versOk ver.data.toList
  · have E := hid (show fitsB n.data.toList k v.data.toList name.data.toList ver.data.toList = false by simp [fitsB, hy])
    go_wp2_with fail
    go_ret
    exact ⟨by rw [unhid E]; rfl, (unhid HB0).trans ((unhid B12).mono (unhid HB0).size)⟩
  · cases ha : askB k v.data.toList
    · have E := hid (show fitsB n.data.toList k v.data.toList name.data.toList ver.data.toList = false by simp [fitsB, needB, ha])
      go_wp2_with fail
      go_ret
      exact ⟨by rw [unhid E]; rfl, (unhid HB0).trans ((unhid B12).mono (unhid HB0).size)⟩
    · go_wp2_with fail
      refine (packNameOk_any n hn _).mono ?_
      rintro e w3 ⟨rfl, hb⟩
      have B3 := hid hb
      have B123 := hid ((unhid B12).trans (hb.mono (unhid B12).size))
      clear hb g1 g2 g3
      obtain ⟨g1, g2, g3⟩ := unhid Hf w3 (unhid B123)
      cases hp : packB n.data.toList
      · have E := hid (show fitsB n.data.toList k v.data.toList name.data.toList ver.data.toList = false by simp [fitsB, needB, hp])
        go_wp2_with fail
        go_ret
        exact ⟨by rw [unhid E]; rfl, (unhid HB0).trans ((unhid B123).mono (unhid HB0).size)⟩
      · have hN : needB n.data.toList k v.data.toList = true := by simp [needB, hp, ha]
        cases hne : (name.toList == n.toList)
        · have hne' : (n.data.toList == name.data.toList) = false := by rw [← Lib.toList_data, ← Lib.toList_data]; rw [beq_eq_false_iff_ne] at hne ⊢; exact hne.symm
          have E := hid (show fitsB n.data.toList k v.data.toList name.data.toList ver.data.toList = false by simp only [fitsB, hne', Bool.and_false, Bool.false_and])
          clear hne'
          go_wp2_with fail
          go_ret
          exact ⟨by rw [unhid E]; rfl, (unhid HB0).trans ((unhid B123).mono (unhid HB0).size)⟩
        · have hne' : (n.data.toList == name.data.toList) = true := by rw [← Lib.toList_data, ← Lib.toList_data]; rw [beq_iff_eq] at hne ⊢; exact hne.symm
          have HN := hid hN
          have HNE := hid hne'
          clear hN hne'
          rcases unhid FV ha with ⟨rfl, rfl⟩ | ⟨id, b, vv, hk, rfl, hb1, hb2, hc, hV⟩
          · have E := hid (fitsB_0 (unhid HN) hy (unhid HNE))
            go_wp2_with fail
            refine (ask1_any _ _).mono ?_
            rintro e w4 ⟨rfl, rfl⟩
            go_wp2_with fail
            go_ret
            exact ⟨by rw [unhid E]; rfl, (unhid HB0).trans ((unhid B123).mono (unhid HB0).size)⟩
          · have hva : versOk v.data.toList = true := by rcases hk with ⟨rfl, -⟩ | ⟨rfl, -⟩ | ⟨rfl, -⟩ <;> simpa [askB] using ha
            have E := hid (fitsB_k (unhid HN) hy hva (unhid HNE))
            have la := versL_len _ hy
            have lb := versL_len _ hva
            obtain ⟨g, c, rfl, _, hgl, ng⟩ := ((vers_of (versL_ne _) (unhid OA hy)).below (unhid B2)).below (unhid B3)
            obtain ⟨h, d, rfl, _, _, nh⟩ := hV.below (unhid B3)
            have hc3 : w3.cell? ⟨b, 0, none⟩ = some (.slice (some ⟨h, 0, none⟩) (versL v.data.toList).length d) := ((unhid B3).cell (p := ⟨b, 0, none⟩) hb2).trans hc
            have NG := hid ng
            have NH := hid nh
            have HC := hid hc3
            clear ng nh OA FV hc3 hc hV
            generalize hx : versL ver.data.toList = xs at *
            generalize hy : versL v.data.toList = ys at *
            clear hx hy
            rcases hk with ⟨rfl, rfl⟩ | ⟨rfl, rfl⟩ | ⟨rfl, rfl⟩
            · go_wp2_with fail
              refine (ask2_any b g h _ _ c d xs ys rfl rfl (by omega) (by omega) _ (unhid HC) (unhid NG) (unhid NH)).mono ?_
              rintro e w4 ⟨rfl, rfl⟩
              go_wp2_with fail
              go_ret
              exact ⟨by rw [unhid E]; rfl, (unhid HB0).trans ((unhid B123).mono (unhid HB0).size)⟩
            · go_wp2_with fail
              refine (ask3_any b g h _ _ c d xs ys rfl rfl (by omega) (by omega) _ (unhid HC) (unhid NG) (unhid NH)).mono ?_
              rintro e w4 ⟨rfl, rfl⟩
              go_wp2_with fail
              go_ret
              exact ⟨by rw [unhid E]; rfl, (unhid HB0).trans ((unhid B123).mono (unhid HB0).size)⟩
            · go_wp2_with fail
              refine (ask4_any b g h _ _ c d xs ys rfl rfl (by omega) (by omega) _ (unhid HC) (unhid NG) (unhid NH)).mono ?_
              rintro e w4 ⟨rfl, rfl⟩
              go_wp2_with fail
              go_ret
              exact ⟨by rw [unhid E]; rfl, (unhid HB0).trans ((unhid B123).mono (unhid HB0).size)⟩
end Go.Proofs.YtoljhgkgppjdcaaGreat

/- Whether all that packs need is there, by the model. -/
namespace Go.Proofs.YtoljhgkgppjdcaaGreat
open Go.RowKit Go.Shelf

def fitOne (n : needC.D) (q : packC.D) : Bool := decide (PackD.name q = NeedD.name n) && kindB (NeedD.kind n) (ordI (PackD.version q).data.toList (NeedD.version n).data.toList)
def hasNeed (ps : List packC.D) (n : needC.D) : Bool := List.any (α := packC.D) ps (fitOne n)
def needsOf (p : packC.D) : List needC.D := PackD.needs p
def needsB (ps : List packC.D) : Bool := List.all (α := packC.D) ps fun p => (needsOf p).all (hasNeed ps)
theorem has_none {ps : List packC.D} {n : needC.D} (h : NeedD.name n ∉ namesP ps) : hasNeed ps n = false := by
  unfold hasNeed
  rw [List.any_eq_false]
  intro q hq
  obtain ⟨i, hi⟩ := List.getElem?_of_mem hq
  have : PackD.name q ≠ NeedD.name n := fun e => h (by rw [← e]; exact List.mem_of_getElem? (namesP_get hi))
  unfold fitOne
  rw [decide_eq_false this]
  simp
theorem has_at {ps : List packC.D} {n : needC.D} {i : Nat} {q : packC.D} (ha : Asc (namesP ps)) (hq : ps[i]? = some q) (hn : PackD.name q = NeedD.name n) : hasNeed ps n = kindB (NeedD.kind n) (ordI (PackD.version q).data.toList (NeedD.version n).data.toList) := by
  cases hk : kindB (NeedD.kind n) (ordI (PackD.version q).data.toList (NeedD.version n).data.toList) with
  | true =>
    unfold hasNeed
    rw [List.any_eq_true]
    exact ⟨q, List.mem_of_getElem? hq, by unfold fitOne; rw [decide_eq_true hn, hk]; rfl⟩
  | false =>
    unfold hasNeed
    rw [List.any_eq_false]
    intro p hp
    obtain ⟨j, hj⟩ := List.getElem?_of_mem hp
    unfold fitOne
    by_cases hpn : PackD.name p = NeedD.name n
    · have e : i = j := asc_inj ha (namesP_get hq) (by rw [namesP_get hj, hpn, hn])
      subst e
      rw [hq] at hj
      cases hj
      rw [hk]; simp
    · rw [decide_eq_false hpn]; simp
theorem need_in {W : World} {e : packC.D} {na ta : Option Addr} {nc tc : Nat} (h : packC.at_ W [.string (PackD.name e), .string (PackD.version e), .slice na (PackD.needs e).length nc, .slice ta (PackD.tree e).length tc] e) {j : Nat} {n : needC.D} (hn : (needsOf e)[j]? = some n) :
    ∃ b o, na = some ⟨b, o, none⟩ ∧ b < W.heap.size ∧ (W.cell? ⟨b, o + j * 3, none⟩ = some (.string (NeedD.name n)) ∧ W.cell? ⟨b, o + j * 3 + 1, none⟩ = some (.int .i64 (NeedD.kind n)) ∧ W.cell? ⟨b, o + j * 3 + 2, none⟩ = some (.string (NeedD.version n))) := by
  obtain ⟨v2, v3, e1, h2, h3⟩ := packC_at h
  injection e1 with _ e1
  injection e1 with _ e1
  injection e1 with e2 _
  subst e2
  obtain ⟨a, cap, ev, -, -, hr⟩ := h2
  injection ev with ea _ _
  subst ea
  rcases hr with hr | ⟨b, o, ha, hl, hc⟩
  · have : needsOf e = [] := hr
    rw [this] at hn; cases hn
  · exact ⟨b, o, ha, hl, need_cells (Below.refl _ W) hl hc hn⟩

set_option maxRecDepth 100000 in
set_option maxHeartbeats 8000000 in
theorem l9Needs_any (ps : List packC.D) (v : Value) (w : World) (hs : smallPs ps) (hf : formB ps = true) (h : rowAt packC w v ps) :
    Calls Tryz.prog 96 #[v] w fun x w' => x = .returned (.bool (needsB ps)) ∧ Below w.heap.size w w' := by
  have HR := hid h
  obtain ⟨a, cap, rfl, -, -, h⟩ := h
  have hlen := hs.1
  have HSM := hid hs
  have HF := hid hf
  have H := hid h
  clear h hs hf
  go_enter Tryz.func96, Tryz.ntmps96
  go_wp2_with fail
  go_loopw [3] (fun i wr => ∃ k : Nat, k ≤ ps.length ∧ i = .int .i64 (k : Int) ∧ Hid ((ps.take k).all (fun p => (needsOf p).all (hasNeed ps)) = true) ∧ Hid (Below w.heap.size w wr)) (fun i _ => ps.length - (intOf i).toNat)
  case atStart => exact ⟨0, Nat.zero_le _, rfl, hid (by simp), hid (Below.refl _ _)⟩
  case round =>
    obtain ⟨k, hk, rfl, HA, HB⟩ := hrel
    by_cases hlt : k < ps.length
    · obtain ⟨e, he⟩ : ∃ e, ps[k]? = some e := ⟨ps[k], List.getElem?_eq_getElem hlt⟩
      obtain ⟨b, o, rfl, hbl, hc⟩ := (unhid H).resolve_left (by intro e; subst e; simp at hlt)
      have HBL := hid hbl
      have HC := hid hc
      have HE := hid he
      have SP := hid ((unhid HSM).2 e (List.mem_of_getElem? he))
      have hnl : (PackD.needs e).length ≤ 1048576 := (unhid SP).needs.1
      clear hbl hc he
      go_wp2_with fail
      go_loopw [4] (fun j wq => ∃ m : Nat, m ≤ (PackD.needs e).length ∧ j = .int .i64 (m : Int) ∧ Hid (((needsOf e).take m).all (hasNeed ps) = true) ∧ Hid (Below w.heap.size w wq)) (fun j _ => (PackD.needs e).length - (intOf j).toNat)
      case atStart => exact ⟨0, Nat.zero_le _, rfl, hid (by simp), HB⟩
      case round =>
        clear HB
        obtain ⟨m, hm, rfl, HX, HB⟩ := hrel
        obtain ⟨na, nc, ta, tc, ⟨c0, c1, c2, c3⟩, hat⟩ := pack_cells (unhid HB) (unhid HBL) (unhid HC) (unhid HE)
        clear c0 c1 c3
        by_cases hlt2 : m < (PackD.needs e).length
        · obtain ⟨n, hn⟩ : ∃ n, (needsOf e)[m]? = some n := ⟨(needsOf e)[m]'hlt2, List.getElem?_eq_getElem hlt2⟩
          obtain ⟨b2, o2, rfl, hbl2, n0, n1, n2⟩ := need_in hat hn
          have HNN := hid hn
          have SN := hid ((unhid SP).needs.2 n (List.mem_of_getElem? hn))
          have HB0 := hid (show ∀ x, Below w.heap.size w (wr.alloc x) from fun x => (unhid HB).alloc (unhid HB).size x)
          have HB1 := hid (show ∀ x, Below wr.heap.size wr (wr.alloc x) from fun x => (Below.refl _ wr).alloc (Nat.le_refl _) x)
          clear hn hat hbl2
          go_wp2_with fail
          have hbox := World.alloc_heap_new wr (.cells #[.string (NeedD.name n), .int .i64 (NeedD.kind n), .string (NeedD.version n)] 51)
          have hB1 := unhid HB1 (.cells #[.string (NeedD.name n), .int .i64 (NeedD.kind n), .string (NeedD.version n)] 51)
          have hB0 := unhid HB0 (.cells #[.string (NeedD.name n), .int .i64 (NeedD.kind n), .string (NeedD.version n)] 51)
          have hlw : wr.heap.size < (wr.alloc (.cells #[.string (NeedD.name n), .int .i64 (NeedD.kind n), .string (NeedD.version n)] 51)).heap.size := by simp
          generalize wr.alloc (.cells #[.string (NeedD.name n), .int .i64 (NeedD.kind n), .string (NeedD.version n)] 51) = W0 at hbox hB1 hB0 hlw ⊢
          have BX := hid hbox
          have HB2 := hid hB0
          have HLW := hid hlw
          clear hbox hB0 hB1 hlw HB0 HB1 c2 n0 n1 n2
          refine (l8Pack_any ps _ (NeedD.name n) W0 hlen ((unhid HR).below (unhid HB2))).mono ?_
          rintro x W1 ⟨⟨r, rfl, hr⟩, hb⟩
          have HB3 := hid ((unhid HB2).trans (hb.mono (unhid HB2).size))
          have BX1 := hid ((hb.block _ (unhid HLW)).trans (unhid BX))
          have HLW1 := hid (Nat.lt_of_lt_of_le (unhid HLW) hb.size)
          clear hb BX HLW HB2
          have g0 : ∀ x : CW (fun w' => Below W1.heap.size W1 w'), x.w.cell? ⟨wr.heap.size, 0, none⟩ = some (.string (NeedD.name n)) := fun x => cell_arrS ((x.h.block _ (unhid HLW1)).trans (unhid BX1)) 0 _ rfl
          have g1 : ∀ x : CW (fun w' => Below W1.heap.size W1 w'), x.w.cell? ⟨wr.heap.size, 1, none⟩ = some (.int .i64 (NeedD.kind n)) := fun x => cell_arrS ((x.h.block _ (unhid HLW1)).trans (unhid BX1)) 1 _ rfl
          have g2 : ∀ x : CW (fun w' => Below W1.heap.size W1 w'), x.w.cell? ⟨wr.heap.size, 2, none⟩ = some (.string (NeedD.version n)) := fun x => cell_arrS ((x.h.block _ (unhid HLW1)).trans (unhid BX1)) 2 _ rfl
          have hba : ∀ {q : Prop}, (CW (fun w' => Below W1.heap.size W1 w') → q) ↔ q := CW.all (Below.refl _ W1)
          rcases hr with ⟨rfl, hno⟩ | ⟨i, rfl, hi⟩
          · have EH := hid (has_none hno)
            clear hno
            go_wp2_with fail
            refine held_begin (fun w' => Below W1.heap.size W1 w') (by kernel_rfl) (drew_belowS _) ?_
            refine held_here [true, true, true, true, true, true, true, true, true, true, true] (by kernel_rfl) (by kernel_rfl) (fun _ _ _ _ _ h => h) (drew_belowS _) ?_
            dsimp only [pick]
            repeat (go_big_quiet_step (fail))
            refine wpQuiet_nil ?_
            have hD := drew_belowS (B := W1.heap.size) W1
            generalize W1.drew = W2 at hD ⊢
            clear g0 g1 g2
            refine held_skip 11 46 (by kernel_rfl) (by kernel_rfl) rfl rfl rfl hD ?_
            simp only [Act.put, List.setIfInBounds_toArray, List.set_cons_zero, List.set_cons_succ]
            refine held_here [false, false, false, false, false, false, false, false, false, false, false, false, true, true] (by kernel_rfl) (by kernel_rfl) (fun _ _ _ _ _ h => h) hD ?_
            dsimp only [pick]
            repeat (go_big_quiet_step (fail))
            refine wpQuiet_nil ?_
            refine held_done (by kernel_rfl) ?_
            have HB4 := hid ((unhid HB3).trans (hD.mono (unhid HB3).size))
            clear hba hD
            go_wp2_with fail
            go_ret
            exact ⟨by unfold needsB; rw [all_no (unhid HE) (all_no (unhid HNN) (unhid EH))]; rfl, unhid HB4⟩
          · obtain ⟨q, hq, hqn⟩ := namesP_some hi
            have hil : i < ps.length := (List.getElem?_eq_some_iff.1 hq).1
            have hi0 : decide ((i : Int) < 0) = false := decide_eq_false (by omega)
            have EH := hid (has_at (form_asc (unhid HF)) hq hqn)
            have SQ := hid ((unhid HSM).2 q (List.mem_of_getElem? hq))
            obtain ⟨-, -, -, -, ⟨-, d1, -, -⟩, -⟩ := pack_cells (unhid HB3) (unhid HBL) (unhid HC) hq
            have hbw : b < W1.heap.size := Nat.lt_of_lt_of_le (unhid HBL) (unhid HB3).size
            have g3 : ∀ x : CW (fun w' => Below W1.heap.size W1 w'), x.w.cell? ⟨b, o + i * 4 + 1, none⟩ = some (.string (PackD.version q)) := fun x => (x.h.cell (p := ⟨b, o + i * 4 + 1, none⟩) hbw).trans d1
            clear hi hq hqn d1
            go_wp2_with fail
            refine held_begin (fun w' => Below W1.heap.size W1 w') (by kernel_rfl) (drew_belowS _) ?_
            refine held_here [true, true, true, true, true, true, true, true, true, true, true] (by kernel_rfl) (by kernel_rfl) (fun _ _ _ _ _ h => h) (drew_belowS _) ?_
            dsimp only [pick]
            repeat (go_big_quiet_step (fail))
            refine wpQuiet_nil ?_
            have hD := drew_belowS (B := W1.heap.size) W1
            generalize W1.drew = W2 at hD ⊢
            clear g0 g1 g2 g3
            refine held_call 11 157 46 (enters_of Tryz.func157 (by kernel_rfl) rfl) #[.agg #[.string (NeedD.name n), .int .i64 (NeedD.kind n), .string (NeedD.version n)], .string (NeedD.name n), .string (PackD.version q)] (by kernel_rfl) (by kernel_rfl) rfl rfl rfl rfl rfl ?_
            refine (l3Fits_any (NeedD.name n) (NeedD.version n) (NeedD.name n) (PackD.version q) (NeedD.kind n) (unhid SN).2 (unhid SQ).version W2).mono ?_
            rintro x W3 ⟨rfl, hb⟩
            have hD2 := hD.trans (hb.mono hD.size)
            have HB4 := hid ((unhid HB3).trans (hD2.mono (unhid HB3).size))
            refine ⟨_, rfl, hD2, ?_⟩
            simp only [Act.put, List.setIfInBounds_toArray, List.set_cons_zero, List.set_cons_succ]
            clear hb
            rw [show ((NeedD.name n).data.toList == (NeedD.name n).data.toList) = true by simp, Bool.true_and, ← unhid EH]
            cases hh : hasNeed ps n with
            | false =>
              refine held_here [false, false, false, false, false, false, false, false, false, false, false, false, true, true] (by kernel_rfl) (by kernel_rfl) (fun _ _ _ _ _ h => h) hD2 ?_
              dsimp only [pick]
              repeat (go_big_quiet_step (fail))
              refine wpQuiet_nil ?_
              refine held_done (by kernel_rfl) ?_
              clear hba hD hD2
              go_wp2_with fail
              go_ret
              exact ⟨by unfold needsB; rw [all_no (unhid HE) (all_no (unhid HNN) hh)]; rfl, unhid HB4⟩
            | true =>
              have HH := hid hh
              clear hh
              refine held_here [false, false, false, false, false, false, false, false, false, false, false, false, true, true] (by kernel_rfl) (by kernel_rfl) (fun _ _ _ _ _ h => h) hD2 ?_
              dsimp only [pick]
              repeat (go_big_quiet_step (fail))
              refine wpQuiet_nil ?_
              refine held_done (by kernel_rfl) ?_
              clear hba hD hD2
              go_wp2_with fail
              go_roundw
              case rel => exact ⟨m + 1, by omega, by go_num, hid (all_take_next (unhid HNN) (unhid HX) (unhid HH)), HB4⟩
              case measure => simp [intOf]; omega
        · have e2 : m = (PackD.needs e).length := by omega
          have HAL := hid (show (needsOf e).all (hasNeed ps) = true by
            have := unhid HX
            rwa [e2, List.take_of_length_le (by exact Nat.le_refl _)] at this)
          clear hat
          go_wp2_with fail
          go_roundw
          case rel => exact ⟨k + 1, by omega, by go_num, hid (all_take_next (p := fun p => (needsOf p).all (hasNeed ps)) (unhid HE) (unhid HA) (unhid HAL)), HB⟩
          case measure => simp [intOf]; omega
    · have e : k = ps.length := by omega
      subst e
      go_wp2_with fail
      go_ret
      refine ⟨?_, unhid HB⟩
      have := unhid HA
      rw [List.take_of_length_le (Nat.le_refl _)] at this
      unfold needsB
      rw [this]; rfl
end Go.Proofs.YtoljhgkgppjdcaaGreat

/- Contracts of the library that are laid at the program. -/
namespace Go.Proofs.YtoljhgkgppjdcaaGreat
open Go.Shelf Go.RowKit
def sh_lays106_ren : Go.Shelf.Ren := ⟨fun | 106 => 105 | 213 => 163 | 265 => 212 | n => n, fun | 9 => 9 | 3 => 3 | n => n, fun | n => n⟩
theorem sh_lays106 : Go.Proofs.Lays.n106 Tryz.prog sh_lays106_ren := {
  mixed := by kernel_rfl
  f106 := Tryz.func105.trans (congrArg some (by kernel_rfl))
  f213 := Tryz.func163.trans (congrArg some (by kernel_rfl))
  f265 := Tryz.func212.trans (congrArg some (by kernel_rfl))
  t3 := Tryz.underlying3
  a3 := Tryz.isAgg3
  z3 := Tryz.sizeOf3
  v3 := Tryz.zeroValue3
  t9 := Tryz.underlying9
  a9 := Tryz.isAgg9
  z9 := Tryz.sizeOf9
  v9 := Tryz.zeroValue9 }
theorem sh_strings_Compare (a b : ByteArray) (w : World) :
    Calls Tryz.prog 105 #[.string a, .string b] w fun e w' => e = .returned (.int .i64 (Lib.compareBytes a.data.toList b.data.toList)) ∧ w' = w := Any.strings_Compare sh_lays106 a b w
end Go.Proofs.YtoljhgkgppjdcaaGreat

/- Where a pack is among packs by name, by the program. -/
namespace Go.Proofs.YtoljhgkgppjdcaaGreat
open Go.RowKit Go.Shelf

theorem cmp_bytes : ∀ (a b : List UInt8), (Lib.compareBytes a b < 0 ↔ Op.bytesLess a b = true) ∧ (Lib.compareBytes a b = 0 ↔ a = b)
  | [], [] => by simp [Lib.compareBytes, Op.bytesLess]
  | [], _ :: _ => by simp [Lib.compareBytes, Op.bytesLess]
  | _ :: _, [] => by simp [Lib.compareBytes, Op.bytesLess]
  | x :: a, y :: b => by
    obtain ⟨i1, i2⟩ := cmp_bytes a b
    unfold Lib.compareBytes Op.bytesLess
    by_cases h1 : x < y
    · simp only [h1, if_true]
      have hne : x ≠ y := fun e => by subst e; exact UInt8.lt_irrefl _ h1
      simp [hne]
    · by_cases h2 : y < x
      · have hne : x ≠ y := fun e => by subst e; exact UInt8.lt_irrefl _ h2
        simp [h1, h2, hne]
      · have : x = y := UInt8.le_antisymm (UInt8.not_lt.1 h2) (UInt8.not_lt.1 h1)
        subst this
        simp only [h1, if_false, i1, i2]
        simp
theorem cmp_lt (x q : ByteArray) : decide (Lib.compareBytes x.data.toList q.data.toList < 0) = ltS x q := by
  unfold ltS
  rw [Lib.toList_data, Lib.toList_data]
  cases h : Op.bytesLess x.data.toList q.data.toList with
  | true => exact decide_eq_true ((cmp_bytes _ _).1.2 h)
  | false => exact decide_eq_false (fun e => by rw [(cmp_bytes _ _).1.1 e] at h; cases h)
theorem cmp_eq0 (x q : ByteArray) : (Lib.compareBytes x.data.toList q.data.toList == 0) = eqS x q := by
  unfold eqS
  rw [Lib.toList_data, Lib.toList_data]
  by_cases h : x.data.toList = q.data.toList
  · rw [(cmp_bytes _ _).2.2 h, h]; simp
  · have h1 : Lib.compareBytes x.data.toList q.data.toList ≠ 0 := fun e => h ((cmp_bytes _ _).2.1 e)
    rw [beq_eq_false_iff_ne.2 h1, beq_eq_false_iff_ne.2 h]

set_option maxRecDepth 100000 in
set_option maxHeartbeats 1000000 in
theorem place1_any (e : packC.D) (na : Option Addr) (nc : Nat) (ta : Option Addr) (tc : Nat) (q : ByteArray) (w : World) :
    Calls Tryz.prog 104 #[.agg #[.string (PackD.name e), .string (PackD.version e), .slice na (PackD.needs e).length nc, .slice ta (PackD.tree e).length tc], .string q] w fun x w' => (∃ r : Int, x = .returned (.int .i64 r) ∧ Hid (decide (r < 0) = ltS (PackD.name e) q ∧ (r == 0) = eqS (PackD.name e) q)) ∧ Below w.heap.size w w' := by
  have HB := hid (show ∀ x, Below w.heap.size w (w.alloc x) from fun x => (Below.refl _ w).alloc (Nat.le_refl _) x)
  go_enter Tryz.func104, Tryz.ntmps104
  go_wp2_with (go_at_call 105; refine (sh_strings_Compare _ _ _).mono ?_; rintro e w' ⟨rfl, rfl⟩)
  go_ret
  exact ⟨⟨_, rfl, hid ⟨cmp_lt _ _, cmp_eq0 _ _⟩⟩, unhid HB _⟩

set_option maxRecDepth 100000 in
set_option maxHeartbeats 4000000 in
theorem searchPack_any (ps : List packC.D) (v : Value) (q : ByteArray) (w : World) (hlen : ps.length ≤ 1048576) (hs : Asc (namesP ps)) (h : rowAt packC w v ps) :
    Calls Tryz.prog 103 #[v, .string q, .func (.func 104) #[] #[]] w fun x w' => x = .returned (.tuple #[.int .i64 (placeP (namesP ps) q), .bool (thereP (namesP ps) q)]) ∧ Below w.heap.size w w' := by
  obtain ⟨a, cap, rfl, -, -, h⟩ := h
  have HS := hid hs
  have H := hid h
  clear hs h
  go_enter Tryz.func103, Tryz.ntmps103
  go_wp2_with fail
  go_loopw [9, 10, 11] (fun i j _ wr => ∃ (k m : Nat), k ≤ m ∧ m ≤ ps.length ∧ i = .int .i64 k ∧ j = .int .i64 m ∧ Hid (∀ (t : Nat) x, t < k → (namesP ps)[t]? = some x → ltS x q = true) ∧ Hid (∀ (t : Nat) x, m ≤ t → (namesP ps)[t]? = some x → ltS x q = false) ∧ Hid (Below w.heap.size w wr)) (fun i j _ _ => (intOf j).toNat - (intOf i).toNat)
  case atStart => exact ⟨0, ps.length, Nat.zero_le _, Nat.le_refl _, rfl, rfl, hid (fun t x ht => by omega), hid (fun t x ht hx => by have := (List.getElem?_eq_some_iff.1 hx).1; rw [namesP_len] at this; omega), hid (Below.refl _ _)⟩
  case round =>
    obtain ⟨k, m, hkm, hm, rfl, rfl, hlo, hhi, HB⟩ := hrel
    by_cases hlt : k < m
    · obtain ⟨e, he⟩ : ∃ e, ps[(k + m) / 2]? = some e := ⟨ps[(k + m) / 2], List.getElem?_eq_getElem (by omega)⟩
      obtain ⟨b, o, rfl, hbl, hc⟩ := (unhid H).resolve_left (by intro e; subst e; simp at hm; omega)
      obtain ⟨na, nc, ta, tc, ⟨c0, c1, c2, c3⟩, -⟩ := pack_cells (unhid HB) hbl hc he
      have hx := namesP_get he
      have hlt' : (k : Int) < m := by omega
      have hsm : (k : Int) + m ≤ 4194304 := by omega
      have hall : ∀ (t : Nat) y, t ≤ (k + m) / 2 → (namesP ps)[t]? = some y → ltS (PackD.name e) q = true → ltS y q = true := fun t y ht hy hq => by
        by_cases e : t = (k + m) / 2
        · subst e; rw [hx] at hy; cases hy; exact hq
        · exact lt_tra _ _ _ (unhid HS t _ y _ (by omega) hy hx) hq
      have hnone : ∀ (t : Nat) y, (k + m) / 2 ≤ t → (namesP ps)[t]? = some y → ltS (PackD.name e) q = false → ltS y q = false := fun t y ht hy hq => by
        by_cases e : t = (k + m) / 2
        · subst e; rw [hx] at hy; cases hy; exact hq
        · cases hyq : ltS y q
          · rfl
          · have := lt_tra _ _ _ (unhid HS _ t _ y (by omega) hx hy) hyq
            unfold ltS at hq; rw [this] at hq; cases hq
      have HA := hid (And.intro hall hnone)
      clear hc hx he hall hnone
      go_wp2_with fail
      refine (place1_any e na nc ta tc q _).mono ?_
      rintro r w2 ⟨⟨r, rfl, HR⟩, hb⟩
      have HB2 := hid ((unhid HB).trans (hb.mono (unhid HB).size))
      clear hb c0 c1 c2 c3
      by_cases hr : r < 0
      · have HQ := hid (show ltS (PackD.name e) q = true by rw [← (unhid HR).1]; exact decide_eq_true hr)
        go_wp2_with fail
        go_roundw
        case rel => exact ⟨(k + m) / 2 + 1, m, by omega, hm, by go_num, rfl, hid (fun t y ht hy => (unhid HA).1 t y (by omega) hy (unhid HQ)), hhi, HB2⟩
        case measure => simp [intOf]; omega
      · have HQ := hid (show ltS (PackD.name e) q = false by rw [← (unhid HR).1]; exact decide_eq_false hr)
        go_wp2_with fail
        go_roundw
        case rel => exact ⟨k, (k + m) / 2, by omega, by omega, rfl, by go_num, hlo, hid (fun t y ht hy => (unhid HA).2 t y ht hy (unhid HQ)), HB2⟩
        case measure => simp [intOf]; omega
    · have hkm' : k = m := by omega
      subst hkm'
      have hlt' : ¬ (k : Int) < k := by omega
      have hpl : placeP (namesP ps) q = k := placeP_of (namesP ps) q k (by rw [namesP_len]; exact hm) (unhid hlo) (fun x hx => unhid hhi k x (Nat.le_refl _) hx)
      by_cases hkl : k < ps.length
      · obtain ⟨e, he⟩ : ∃ e, ps[k]? = some e := ⟨ps[k], List.getElem?_eq_getElem hkl⟩
        obtain ⟨b, o, rfl, hbl, hc⟩ := (unhid H).resolve_left (by intro e; subst e; simp at hkl)
        obtain ⟨na, nc, ta, tc, ⟨c0, c1, c2, c3⟩, -⟩ := pack_cells (unhid HB) hbl hc he
        have hth : thereP (namesP ps) q = eqS (PackD.name e) q := by unfold thereP; rw [hpl, namesP_get he]; rfl
        have HP := hid (And.intro hpl hth)
        have hkl' : (k : Int) < ps.length := by omega
        clear hpl hth he hc
        go_wp2_with fail
        refine (place1_any e na nc ta tc q _).mono ?_
        rintro r w2 ⟨⟨r, rfl, HR⟩, hb⟩
        have HB2 := hid ((unhid HB).trans (hb.mono (unhid HB).size))
        clear hb c0 c1 c2 c3
        go_wp2_with fail
        go_ret2
        exact ⟨by rw [(unhid HP).1, (unhid HP).2, ← (unhid HR).2]; rfl, unhid HB2⟩
      · have hth : thereP (namesP ps) q = false := by unfold thereP; rw [hpl, List.getElem?_eq_none (by rw [namesP_len]; omega)]; rfl
        have HP := hid (And.intro hpl hth)
        have hkl' : ¬ (k : Int) < ps.length := by omega
        clear hpl hth
        go_wp2_with fail
        go_ret2
        exact ⟨by rw [(unhid HP).1, (unhid HP).2]; rfl, unhid HB⟩

set_option maxRecDepth 100000 in
set_option maxHeartbeats 1000000 in
theorem packPlace_any (ps : List packC.D) (v : Value) (q : ByteArray) (w : World) (hlen : ps.length ≤ 1048576) (hs : Asc (namesP ps)) (h : rowAt packC w v ps) :
    Calls Tryz.prog 51 #[v, .string q] w fun x w' => x = .returned (.tuple #[.int .i64 (placeP (namesP ps) q), .bool (thereP (namesP ps) q)]) ∧ Below w.heap.size w w' := by
  have H := hid (searchPack_any ps v q w hlen hs h)
  clear hs h
  go_enter Tryz.func51, Tryz.ntmps51
  go_wp2_with fail
  refine (unhid H).mono ?_
  rintro x w2 ⟨rfl, hb⟩
  have HB := hid hb
  clear hb
  go_wp2_with fail
  go_ret2
  exact ⟨rfl, unhid HB⟩
end Go.Proofs.YtoljhgkgppjdcaaGreat
