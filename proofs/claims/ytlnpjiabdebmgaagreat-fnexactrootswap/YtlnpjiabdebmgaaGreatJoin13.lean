/- Texts of this proof, one behind the other; each says at its head what it shows. -/
import Derived.Test.YtlnpjiabdebmgaaGreatJoin12
import Derived.Shelf.Spec.SlicesInsertGrow
import Derived.Test.YtlnpjiabdebmgaaGreatJoin11
import Derived.Test.YtlnpjiabdebmgaaGreatJoin7
/- slices.Insert of one pack. -/
namespace Go.Proofs.YtlnpjiabdebmgaaGreat
open Go.RowKit Go.Shelf Go.Lib

/-- Copying items of several cells. -/
theorem run_copy_K (K : Nat) (w : World) (dT sT ty elem : TypeId) (b o dLen dCap : Nat) (a : Addr) (sLen sCap : Nat) (cs : List Value) (hu : Tryz.prog.underlying dT = some (.slice elem)) (hs : (Tryz.prog.info? elem).map (·.size) = some K) (m : Nat) (hm : Nat.min sLen dLen = m) (hn : cs.length = m * K)
    (hsrc : ∀ j v, cs[j]? = some v → w.cell? (a.add j) = some v) (hc : ∀ j, j < cs.length → (w.cell? ⟨b, o + j, none⟩).isSome = true) (hf : ∀ j, j < cs.length → w.frozen? ⟨b, o + j, none⟩ = false) (h1 : ∀ v ∈ cs, v.oneCell' = true) :
    (Builtin.copy_ #[dT, sT] ty #[.slice (some ⟨b, o, none⟩) dLen dCap, .slice (some a) sLen sCap]).run Tryz.prog w = .ok (goInt m) (w.setCells b o cs) := by
  have hl := run_loadCells_list (P := Tryz.prog) w a cs hsrc
  have hst := run_storeCells_cells (P := Tryz.prog) b o cs 0 w (by simpa using hc) (by simpa using hf) h1
  cases hq : Tryz.prog.info? elem with
  | none => simp [hq] at hs
  | some i =>
    have hi : i.size = K := by simpa [hq] using hs
    simp [Builtin.copy_, run_underlying hu, Builtin.lenOf, Builtin.firstCells, sizeOf, typeInfo, hq, hi, hm, ← hn, hl, hst]
theorem ins_cells {A D P : List Value} {i n : Nat} {c1 : Array Value} (hA : A.length = i * 4) (hD : D.length = (n - i) * 4) (hP : P.length = 4) (hi : i ≤ n) (_ : (n + 1) * 4 ≤ c1.size) (h1 : ∀ k, k < i * 4 → c1[k]? = A[k]?) (h2 : ∀ k, k < 4 → c1[i * 4 + k]? = P[k]?) (h3 : ∀ k, k < (n - i) * 4 → c1[(i + 1) * 4 + k]? = D[k]?) : c1.toList.take ((n + 1) * 4) = A ++ P ++ D := by
  apply List.ext_getElem?
  intro k
  rw [List.getElem?_take]
  by_cases hk : k < (n + 1) * 4
  · rw [if_pos hk, Array.getElem?_toList, List.append_assoc, List.getElem?_append, hA]
    by_cases k1 : k < i * 4
    · rw [if_pos k1, h1 k k1]
    · rw [if_neg k1, List.getElem?_append, hP]
      by_cases k2 : k - i * 4 < 4
      · rw [if_pos k2, ← h2 _ k2, show i * 4 + (k - i * 4) = k by omega]
      · rw [if_neg k2, ← h3 _ (by omega), show (i + 1) * 4 + (k - i * 4 - 4) = k by omega]
  · rw [if_neg hk, List.getElem?_eq_none]
    simp only [List.length_append]
    omega
theorem mem_mid {K : CK} {L : List (It K)} {t : It K} {i : Nat} {k : Nat} (hk : k ∈ itF (L.take i ++ [t] ++ L.drop i)) : k ∈ itF L ∨ k ∈ t.2.2 := by
  rw [itF_app, itF_app] at hk
  simp only [List.mem_append] at hk
  rcases hk with (hk | hk) | hk
  · exact .inl ((itF_sub (List.take_sublist i L)).subset hk)
  · exact .inr (by simpa [itF] using hk)
  · exact .inl ((itF_sub (List.drop_sublist i L)).subset hk)
theorem zeroCells_size (z : Array Value) (n : Nat) : (Builtin.zeroCells z n).size = n * z.size := by simp [Builtin.zeroCells]
theorem grown_sets (g : Nat) {w0 : World} {row : Option Nat} (hg : ∀ k, k < w0.heap.size → some k ≠ row → k ≠ g) (vs : List Value) (o : Nat) (w : World) (h : w0.grownBy w row) : w0.grownBy (setsW w g o vs) row := by
  have h2 := sets_grown vs w g o
  exact ⟨h2.os.trans h.os, h2.tape.trans h.tape, h2.output.trans h.output, Nat.le_trans h.size h2.size, fun k hk hne => (h2.block k (Nat.lt_of_lt_of_le hk h.size) (fun e => hg k hk hne (by cases e; rfl))).trans (h.block k hk hne)⟩
def InsOut (L : List (It packC)) (t : It packC) (i N : Nat) (row : Option Nat) (w : World) (x : Ending) (w' : World) : Prop := ∃ u, x = .returned u ∧ NRow packC 31 w' N u (L.take i ++ [t] ++ L.drop i) ∧ w.grownBy w' row

set_option maxRecDepth 100000 in
set_option maxHeartbeats 8000000 in
theorem Insert_mid (L : List (It packC)) (t : It packC) (g cap i b N : Nat) (w : World) (hi : i < L.length) (hn : L.length ≤ 1000000) (hNw : N ≤ w.heap.size) (h : NRow packC 31 w N (.slice (some ⟨g, 0, none⟩) L.length cap) L) (hM : Items packC w N (L.take i ++ [t] ++ L.drop i)) (hvt : g ∉ t.2.2) (hbg : b ≠ g) (hb : w.heap[b]? = some (.cells t.1.toArray 31 (0, 0))) :
    Calls Tryz.prog 132 #[.slice (some ⟨g, 0, none⟩) L.length cap, .int .i64 (i : Int), .slice (some ⟨b, 0, none⟩) 1 1] w (InsOut L t i N (some g) w) := by
  obtain ⟨i0, hi0, hz0, hzs, hzb⟩ := info_parts vinfoPack
  have hrow := h.row.2
  rcases hrow with ⟨h0, _⟩ | ⟨g', cap', cur, he, hN, hg, hc, hcm, hsz, hcells⟩
  · cases h0
  obtain ⟨rfl, rfl⟩ : g = g' ∧ cap = cap' := by injection he with e1 _ e2; injection e1 with e1; injection e1 with e1; exact ⟨e1, e2⟩
  clear he
  have hgF : g ∉ itF L := h.apart g rfl
  have hgM : g ∉ itF (L.take i ++ [t] ++ L.drop i) := fun hk => by rcases mem_mid hk with hk | hk; exact hgF hk; exact hvt hk
  have hlM : (L.take i ++ [t] ++ L.drop i).length = L.length + 1 := by rw [List.length_append, List.length_append, List.length_take, List.length_drop]; simp; omega
  have hcM : itCells (L.take i ++ [t] ++ L.drop i) = itCells (L.take i) ++ t.1 ++ itCells (L.drop i) := by rw [itCells_app, itCells_app]; simp [itCells]
  have hcl : (itCells (L.take i ++ [t] ++ L.drop i)).length = (L.length + 1) * 4 := by rw [itCells_len hM, hlM]; rfl
  have hL := h.items
  obtain ⟨lt1, ld1, es1⟩ := itCells_split hL i (by omega)
  have hbl : b < w.heap.size := (Array.getElem?_eq_some_iff.1 hb).1
  have hgl : g < w.heap.size := (Array.getElem?_eq_some_iff.1 hg).1
  have ht4 : t.1.length = 4 := packC.len (hM.each t (by simp))
  have ht1 : ∀ u ∈ t.1, u.oneCell' = true := onePack _ _ _ _ (hM.each t (by simp))
  have hd1 : ∀ u ∈ itCells (L.drop i), u.oneCell' = true := itCells_one onePack (hL.sub (List.drop_sublist i L))
  generalize hnn : L.length = n at *
  have en : packC.n = 4 := rfl
  rw [en] at hsz hcells
  have hcl0 : ∀ t u, (itCells L)[t]? = some u → cur[t]? = some u := fun t u ht => by
    rw [← hcells] at ht
    have : t < n * 4 := by
      have := (List.getElem?_eq_some_iff.1 ht).1
      rw [List.length_take] at this
      omega
    rwa [List.getElem?_take_of_lt this, Array.getElem?_toList] at ht
  have hcur1 : ∀ k, k < i * 4 → cur[k]? = (itCells (L.take i))[k]? := fun k hk => by
    have : (itCells (L.take i))[k]? = (itCells L)[k]? := by rw [es1, List.getElem?_append_left (by omega)]
    rw [this]
    cases hq : (itCells L)[k]? with
    | none => have := List.getElem?_eq_none_iff.1 hq; rw [es1, List.length_append] at this; omega
    | some u => exact hcl0 k u hq
  obtain ⟨D, hD⟩ : ∃ D, D = itCells (L.drop i) := ⟨_, rfl⟩
  rw [← hD] at hd1 ld1 hcM es1
  have hcurD : ∀ k u, D[k]? = some u → cur[i * 4 + k]? = some u := fun k u hk => hcl0 _ _ (by rw [es1, List.getElem?_append_right (by omega), lt1, show i * 4 + k - i * 4 = k by omega]; exact hk)
  have hsD : ∀ (W : World), W.heap[g]? = some (.cells cur 31 (0, 0)) → ∀ j v, D[j]? = some v → W.cell? ((⟨g, i * 4, none⟩ : Addr).add j) = some v := fun W hW j v hj => by
    rw [add_plainR]; exact cell_arrS hW _ _ (hcurD j v hj)
  have hst : ∀ (W : World), W.heap[b]? = some (.cells t.1.toArray 31 (0, 0)) → ∀ j v, t.1[j]? = some v → W.cell? ((⟨b, 0, none⟩ : Addr).add j) = some v := fun W hW j v hj => by
    rw [add_plainR, Nat.zero_add]; exact cell_arrS hW _ _ (by simpa using hj)
  have hspot : ∀ (g : Nat) (W : World) (cu : Array Value) (m : Nat), W.heap[g]? = some (.cells cu 31 (0, 0)) → cu.size = m → ∀ t, t < m → (W.cell? ⟨g, t, none⟩).isSome = true ∧ W.frozen? ⟨g, t, none⟩ = false := fun g W cu m hW hcu t ht => by
    obtain ⟨x, hx⟩ : ∃ x, cu[t]? = some x := ⟨cu[t]'(by omega), by rw [Array.getElem?_eq_getElem]⟩
    obtain ⟨o1, p1⟩ := cell_fz hW t x hx
    exact ⟨by rw [o1]; rfl, p1⟩
  have hzz : (Tryz.prog.info? 31).map (·.size) = some 4 := by rw [hi0]; simp [hzs]
  have ht := Tryz.underlying40
  have ht3 := Tryz.underlying3
  have hw1 : IntKind.i64.wrap ((i : Int) + 1) = (i : Int) + 1 := by rw [IntKind.wrap_i64]; omega
  have hw2 : IntKind.i64.wrap ((n : Int) + 1) = (n : Int) + 1 := by rw [IntKind.wrap_i64]; omega
  have hz2 : ¬ ((i : Int) = (n : Int)) := by omega
  have htn : ((i : Int) + 1).toNat = i + 1 := by omega
  have hin : i ≤ n := by omega
  have hb1 : (0 : Int) ≤ (i : Int) + 1 := by omega
  have hb3 : (i : Int) ≤ (n : Int) + 1 := by omega
  have hcm2 : cap ≤ 9223372036854775807 := by simp only [maxLen] at hcm; omega
  have mixed : Tryz.prog.follows .mixedOrders = true := by kernel_rfl
  by_cases hroom : n + 1 ≤ cap
  · have hdrew : w.drew.heap[g]? = some (.cells cur 31 (0, 0)) := hg
    have hov : ∀ lb cb, (callFunc 174 #[.slice (some ⟨b, 0, none⟩) 1 1, .slice (some ⟨g, (i + 1) * 4, none⟩) lb cb]).run Tryz.prog w = .ok (.value (.bool false)) w := fun lb cb => by
      rw [run_callFunc_extern Tryz.func174 (by kernel_rfl) (by kernel_rfl) (by kernel_rfl) (e := Extern.SlicesOverlaps.overlaps #[40, 40] #[4]) (by kernel_rfl),
        Lib.run_overlaps_apart w 40 4 31 ht 4 (fun w => by kernel_rfl) ⟨b, 0, none⟩ ⟨g, (i + 1) * 4, none⟩ 1 1 lb cb hbg 31 31 4 (cap * 4) (by simp [World.shape?, hb, ht4]) (by simp [World.shape?, hg, hsz]) (by omega) (by simp [World.frozen?, hb]) (by simp [World.frozen?, hb])]
      rfl
    obtain ⟨W1, hW1⟩ : ∃ W1, W1 = w.drew.setCells g ((i + 1) * 4) D := ⟨_, rfl⟩
    have hW1s : W1 = setsW w.drew g ((i + 1) * 4) D := by rw [hW1, setCells_sets]
    have hH1 : W1.heap[g]? = some (.cells (setsA cur ((i + 1) * 4) D) 31 (0, 0)) := by rw [hW1s]; exact setsW_heap _ _ _ _ _ _ hdrew
    have hb1' : W1.heap[b]? = some (.cells t.1.toArray 31 (0, 0)) := by rw [hW1s, setsW_off _ _ _ _ _ hbg]; exact hb
    have hcp1 : ∀ ty dc sc, (Builtin.copy_ #[40, 40] ty #[.slice (some ⟨g, (i + 1) * 4, none⟩) (n - i) dc, .slice (some ⟨g, i * 4, none⟩) (n + 1 - i) sc]).run Tryz.prog w.drew = .ok (goInt (n - i : Nat)) W1 := fun ty dc sc => by
      rw [hW1]
      exact run_copy_K 4 w.drew _ _ ty 31 g ((i + 1) * 4) (n - i) dc ⟨g, i * 4, none⟩ (n + 1 - i) sc D ht hzz (n - i) (by simp only [Nat.min_def]; split <;> omega) ld1 (hsD _ hdrew)
        (fun j hj => (hspot g w.drew cur _ hdrew hsz _ (by omega)).1) (fun j hj => (hspot g w.drew cur _ hdrew hsz _ (by omega)).2) hd1
    have hcp2 : ∀ ty dc, (Builtin.copy_ #[40, 40] ty #[.slice (some ⟨g, i * 4, none⟩) (n + 1 - i) dc, .slice (some ⟨b, 0, none⟩) 1 1]).run Tryz.prog W1 = .ok (goInt (1 : Nat)) (W1.setCells g (i * 4) t.1) := fun ty dc =>
      run_copy_K 4 W1 _ _ ty 31 g (i * 4) (n + 1 - i) dc ⟨b, 0, none⟩ 1 1 t.1 ht hzz 1 (by simp only [Nat.min_def]; split <;> omega) (by omega) (hst W1 hb1')
        (fun j hj => (hspot g W1 _ (cap * 4) hH1 (by rw [setsA_size]; exact hsz) _ (by omega)).1) (fun j hj => (hspot g W1 _ (cap * 4) hH1 (by rw [setsA_size]; exact hsz) _ (by omega)).2) ht1
    have FIN : InsOut L t i N (some g) w (.returned (.slice (some ⟨g, 0, none⟩) (n + 1) cap)) (W1.setCells g (i * 4) t.1) := by
      rw [setCells_sets]
      have hg2 : w.grownBy (setsW W1 g (i * 4) t.1) (some g) := by
        refine grown_sets g (fun k _ hk e => hk (by rw [e])) _ _ _ ?_
        rw [hW1s]
        exact grown_sets g (fun k _ hk e => hk (by rw [e])) _ _ _ ⟨rfl, rfl, rfl, Nat.le_refl _, fun _ _ _ => rfl⟩
      refine ⟨_, rfl, ⟨⟨by rw [hcl, hlM, en], .inr ⟨g, cap, _, by rw [hlM], hN, setsW_heap _ _ _ _ _ _ hH1, by rw [hlM]; exact hroom, hcm, by rw [setsA_size, setsA_size]; exact hsz, ?_⟩⟩, hM.frame (fun k hk => hg2.block k (hM.lt k hk) (fun e => hgM (by cases e; exact hk))), fun g' hg' hm => by
        have : g = g' := by simpa [Value.ownBlock] using hg'
        subst this
        exact hgM hm⟩, hg2⟩
      rw [hlM, hcM, en]
      refine ins_cells lt1 ld1 ht4 hin (by rw [setsA_size, setsA_size, hsz]; omega) (fun k hk => ?_) (fun k hk => ?_) (fun k hk => ?_)
      · rw [setsA_off _ _ _ _ (.inl hk), setsA_off _ _ _ _ (.inl (by omega)), hcur1 k hk]
      · rw [setsA_at t.1 _ (i * 4) (by rw [setsA_size, hsz]; omega) k t.1[k] (List.getElem?_eq_getElem (by omega)), List.getElem?_eq_getElem (by omega)]
      · rw [setsA_off _ _ _ _ (.inr (by omega)), setsA_at D _ ((i + 1) * 4) (by rw [hsz]; omega) k D[k] (List.getElem?_eq_getElem (by omega)), List.getElem?_eq_getElem (by omega)]
    have HF := hid FIN
    have hz3 : ¬ ((cap : Int) < (n : Int) + 1) := by omega
    have hb2 : ¬ (cap = i + 1) := by omega
    have hb4 : ¬ (cap = i) := by omega
    clear FIN hsz hcells hg hb hN hNw h hM hvt hgF hgM hlM hcM hcl hL lt1 ld1 es1 ht4 ht1 hd1 hcl0 hcur1 hcurD hsD hst hspot hD hnn hdrew hW1 hW1s hH1 hb1'
    go_enter Tryz.func132, Tryz.ntmps132
    go_wp2_with (simp only [hov])
    go_region_law_o (refine step_copy_runI rfl _ _ 40 40 rfl _ _ (by simp [Act.eval, Act.put]) (by simp [Act.eval, Act.put]) (hcp1 _ _ _) ?_)
    go_wp2_with (at_builtin; refine wpList_copy_runI _ rfl _ _ 40 40 rfl _ _ rfl rfl (hcp2 _ _) ?_)
    go_ret
    exact unhid HF
  · have hceq : cap = n := by omega
    subst hceq
    have hkk : (cap : Int) + 1 - (i : Int) = ((cap + 1 - i : Nat) : Int) := by omega
    have hik : i + (cap + 1 - i) = cap + 1 := by omega
    have hold : (Builtin.firstCells i0.size i (.slice (some ⟨g, 0, none⟩) i cap)).run Tryz.prog w.drew = .ok (itCells (L.take i)).toArray w.drew := by
      rw [hzs]
      exact run_firstCells_some w.drew 4 i ⟨g, 0, none⟩ i cap _ lt1 (fun j v hj => by
        rw [add_plainR, Nat.zero_add]
        have hjl : j < i * 4 := by rw [← lt1]; exact (List.getElem?_eq_some_iff.1 hj).1
        exact cell_arrS (W := w.drew) hg _ _ ((hcur1 j hjl).trans hj))
    have hzv : ((Value.agg #[.string ⟨#[]⟩, .string ⟨#[]⟩, .slice none 0 0, .slice none 0 0]).cells).size = 4 := by decide
    generalize hZ : (Value.agg #[.string ⟨#[]⟩, .string ⟨#[]⟩, .slice none 0 0, .slice none 0 0]) = Z at hz0 hzv
    have hrz : ∀ ty, (Builtin.append_ #[40, 3] ty #[.slice (some ⟨g, 0, none⟩) i cap, .int .i64 ((cap : Int) + 1 - (i : Int))]).run Tryz.prog w =
        .ok (.slice (some ⟨w.heap.size, 0, none⟩) (cap + 1) (grownCap w (cap + 1) cap 31)) (w.drew.alloc (.cells ((itCells (L.take i)).toArray ++ Builtin.zeroCells Z.cells (cap + 1 - i) ++ Builtin.zeroCells Z.cells (grownCap w (cap + 1) cap 31 - (cap + 1))) 31)) := fun ty => by
      have h := Lib.run_append_grow_zeros w 40 3 ty 31 i0 _ .i64 .i64 ht ht3 hi0 hz0 (some ⟨g, 0, none⟩) i cap _ hold (cap + 1 - i) (by omega) (by omega) (by omega) (by omega) (by rw [hzb]; omega) (by rw [hzb, hik]; exact growslice_fits (by omega) (by omega))
      rw [hik] at h
      rw [hkk]
      exact h
    obtain ⟨G, hG⟩ : ∃ G, G = grownCap w (cap + 1) cap 31 := ⟨_, rfl⟩
    obtain ⟨ROW, hROW⟩ : ∃ ROW : Array Value, ROW = (itCells (L.take i)).toArray ++ Builtin.zeroCells Z.cells (cap + 1 - i) ++ Builtin.zeroCells Z.cells (G - (cap + 1)) := ⟨_, rfl⟩
    rw [← hG, ← hROW] at hrz
    have hGn : cap + 1 ≤ G := by rw [hG]; exact grownCap_ge w _ _ _
    have hRs : ROW.size = G * 4 := by
      rw [hROW, Array.size_append, Array.size_append, zeroCells_size, zeroCells_size, hzv, List.size_toArray, lt1]
      omega
    have hRt : ∀ k, k < i * 4 → ROW[k]? = (itCells (L.take i))[k]? := fun k hk => by
      rw [hROW, Array.append_assoc, Array.getElem?_append_left (by rw [List.size_toArray, lt1]; exact hk)]
      simp
    obtain ⟨W1, hW1⟩ : ∃ W1, W1 = w.drew.alloc (.cells ROW 31) := ⟨_, rfl⟩
    rw [← hW1] at hrz
    have hNew : W1.heap[w.heap.size]? = some (.cells ROW 31 (0, 0)) := by rw [hW1]; exact World.alloc_heap_new w.drew _
    have hOg : W1.heap[g]? = some (.cells cur 31 (0, 0)) := by rw [hW1]; exact (Below.heap_alloc w.drew _ _ hgl).trans hg
    have hOb : W1.heap[b]? = some (.cells t.1.toArray 31 (0, 0)) := by rw [hW1]; exact (Below.heap_alloc w.drew _ _ hbl).trans hb
    have hgN : g ≠ w.heap.size := by omega
    have hbN : b ≠ w.heap.size := by omega
    have hG63 : G ≤ 9223372036854775807 := by
      have := grownCap_le_maxLen w (cap + 1) cap 31 (by unfold maxLen; omega)
      rw [← hG] at this
      unfold maxLen at this
      omega
    have hcpA : ∀ ty dc, (Builtin.copy_ #[40, 40] ty #[.slice (some ⟨w.heap.size, i * 4, none⟩) (cap + 1 - i) dc, .slice (some ⟨b, 0, none⟩) 1 1]).run Tryz.prog W1 = .ok (goInt (1 : Nat)) (W1.setCells w.heap.size (i * 4) t.1) := fun ty dc =>
      run_copy_K 4 W1 _ _ ty 31 w.heap.size (i * 4) (cap + 1 - i) dc ⟨b, 0, none⟩ 1 1 t.1 ht hzz 1 (by simp only [Nat.min_def]; split <;> omega) (by omega) (hst W1 hOb)
        (fun j hj => (hspot _ W1 _ _ hNew hRs _ (by omega)).1) (fun j hj => (hspot _ W1 _ _ hNew hRs _ (by omega)).2) ht1
    obtain ⟨W2, hW2⟩ : ∃ W2, W2 = W1.setCells w.heap.size (i * 4) t.1 := ⟨_, rfl⟩
    rw [← hW2] at hcpA
    have hW2s : W2 = setsW W1 w.heap.size (i * 4) t.1 := by rw [hW2, setCells_sets]
    have hNew2 : W2.heap[w.heap.size]? = some (.cells (setsA ROW (i * 4) t.1) 31 (0, 0)) := by rw [hW2s]; exact setsW_heap _ _ _ _ _ _ hNew
    have hOg2 : W2.heap[g]? = some (.cells cur 31 (0, 0)) := by rw [hW2s, setsW_off _ _ _ _ _ hgN]; exact hOg
    have hcpB : ∀ ty dc sc, (Builtin.copy_ #[40, 40] ty #[.slice (some ⟨w.heap.size, (i + 1) * 4, none⟩) (cap - i) dc, .slice (some ⟨g, i * 4, none⟩) (cap - i) sc]).run Tryz.prog W2.drew = .ok (goInt (cap - i : Nat)) (W2.drew.setCells w.heap.size ((i + 1) * 4) D) := fun ty dc sc =>
      run_copy_K 4 W2.drew _ _ ty 31 w.heap.size ((i + 1) * 4) (cap - i) dc ⟨g, i * 4, none⟩ (cap - i) sc D ht hzz (cap - i) (Nat.min_self _) ld1 (hsD W2.drew hOg2)
        (fun j hj => (hspot _ W2.drew _ (G * 4) hNew2 (by rw [setsA_size]; exact hRs) _ (by omega)).1) (fun j hj => (hspot _ W2.drew _ (G * 4) hNew2 (by rw [setsA_size]; exact hRs) _ (by omega)).2) hd1
    have FIN : InsOut L t i N (some g) w (.returned (.slice (some ⟨w.heap.size, 0, none⟩) (cap + 1) G)) (W2.drew.setCells w.heap.size ((i + 1) * 4) D) := by
      rw [setCells_sets]
      have hg2 : w.grownBy (setsW W2.drew w.heap.size ((i + 1) * 4) D) (some g) := by
        refine grown_sets _ (fun k hk _ e => by omega) _ _ _ ?_
        have : w.grownBy W2 (some g) := by
          rw [hW2s]
          refine grown_sets _ (fun k hk _ e => by omega) _ _ _ ?_
          rw [hW1]
          exact ⟨rfl, rfl, rfl, by simp, fun k hk _ => Below.heap_alloc _ _ _ hk⟩
        exact ⟨this.os, this.tape, this.output, this.size, this.block⟩
      refine ⟨_, rfl, ⟨⟨by rw [hcl, hlM, en], .inr ⟨w.heap.size, G, _, by rw [hlM], hNw, setsW_heap _ _ _ _ _ _ (show W2.drew.heap[w.heap.size]? = _ from hNew2), by rw [hlM]; exact hGn, hG63, by rw [setsA_size, setsA_size]; exact hRs, ?_⟩⟩, hM.frame (fun k hk => hg2.block k (hM.lt k hk) (fun e => hgM (by cases e; exact hk))), fun g' hg' hm => by
        have : w.heap.size = g' := by simpa [Value.ownBlock] using hg'
        subst this
        have := hM.lt _ hm
        omega⟩, hg2⟩
      rw [hlM, hcM, en]
      refine ins_cells lt1 ld1 ht4 hin (by rw [setsA_size, setsA_size, hRs]; omega) (fun k hk => ?_) (fun k hk => ?_) (fun k hk => ?_)
      · rw [setsA_off _ _ _ _ (.inl (by omega)), setsA_off _ _ _ _ (.inl hk), hRt k hk]
      · rw [setsA_off _ _ _ _ (.inl (by omega)), setsA_at t.1 _ (i * 4) (by rw [hRs]; omega) k t.1[k] (List.getElem?_eq_getElem (by omega)), List.getElem?_eq_getElem (by omega)]
      · rw [setsA_at D _ ((i + 1) * 4) (by rw [setsA_size, hRs]; omega) k D[k] (List.getElem?_eq_getElem (by omega)), List.getElem?_eq_getElem (by omega)]
    have HF := hid FIN
    have hGi : ¬ (G = i) := by omega
    have hGim : ¬ (G = i + 1) := by omega
    have hci : ¬ (cap = i) := by omega
    have hz3 : (cap : Int) < (cap : Int) + 1 := by omega
    have HRZ := hid hrz
    have HCA := hid hcpA
    have HCB := hid hcpB
    clear FIN hsz hcells hg hb hN hNw h hM hvt hgF hgM hlM hcM hcl hL lt1 ld1 es1 ht4 ht1 hd1 hcl0 hcur1 hcurD hsD hst hspot hD hnn hkk hik hold hzv hZ hROW hG hRt hRs hNew hOg hOb hW1 hW2 hW2s hNew2 hOg2 hrz hcpA hcpB hz3 hi0 hz0 hzs hzb hzz ht ht3 hroom hgl hbl
    go_enter Tryz.func132, Tryz.ntmps132
    go_wp2_with (at_builtin; refine Lib.wpList_append_run _ rfl _ _ _ _ rfl (.slice (some ⟨g, 0, none⟩) i cap) (.int .i64 ((cap : Int) + 1 - (i : Int))) rfl rfl _ _ (unhid HRZ _) ?_; clear HRZ; have hcA := unhid HCA; clear HCA; go_wp2_with (at_builtin; refine wpList_copy_runI _ rfl _ _ 40 40 rfl _ _ rfl rfl (hcA _ _) ?_); clear hcA)
    have HCB1 := hid (unhid HCB 3 (G - (i + 1)) (cap - i))
    clear HCB
    go_region_law_o (refine step_copy_runI rfl _ _ 40 40 rfl (.slice (some ⟨w.heap.size, (i + 1) * 4, none⟩) (cap - i) (G - (i + 1))) (.slice (some ⟨g, i * 4, none⟩) (cap - i) (cap - i)) (by simp [Act.eval, Act.put]) (by simp [Act.eval, Act.put]) (unhid HCB1) ?_)
    go_wp2
    go_ret
    exact unhid HF

set_option maxRecDepth 100000 in
set_option maxHeartbeats 4000000 in
theorem Insert_end (L : List (It packC)) (t : It packC) (v : Value) (b N : Nat) (w : World) (hn : L.length ≤ 1000000) (hNw : N ≤ w.heap.size) (h : NRow packC 31 w N v L) (hM : Items packC w N (L ++ [t])) (hvt : ∀ g, v.ownBlock = some g → g ∉ t.2.2) (hb : w.heap[b]? = some (.cells t.1.toArray 31 (0, 0))) :
    Calls Tryz.prog 132 #[v, .int .i64 (L.length : Int), .slice (some ⟨b, 0, none⟩) 1 1] w fun x w' => ∃ u, x = .returned u ∧ NRow packC 31 w' N u (L ++ [t]) ∧ w.grownBy w' v.ownBlock := by
  have hcell : ∀ j u, (itCells [t])[j]? = some u → w.cell? ⟨b, 0 + j, none⟩ = some u := fun j u hj => by
    rw [Nat.zero_add]; exact cell_arrS hb _ _ (by simpa [itCells] using hj)
  have hsing : itF [t] = t.2.2 := by simp [itF]
  have hap : ∀ g, v.ownBlock = some g → g ∉ itF [t] := fun g hg => by rw [hsing]; exact hvt g hg
  have HC := hid hcell
  have H := hid h
  have HM := hid hM
  have HAP := hid hap
  clear hcell hM hap hvt hb hsing
  obtain ⟨a, c, rfl⟩ := nrow_slice h
  have hcase : (a = none ∧ c = 0) ∨ ∃ g, a = some ⟨g, 0, none⟩ ∧ L.length ≤ c := by
    rcases h.row.2 with ⟨h1, h2⟩ | ⟨g, cap, cur, he, _, _, hc, _⟩
    · injection h1 with e1 _ e3; exact .inl ⟨e1, e3⟩
    · injection he with e1 _ e3; exact .inr ⟨g, e1, by rw [e3]; exact hc⟩
  have h0 : a = none → L.length = 0 := fun e => by
    subst e
    rcases h.row.2 with ⟨_, h2⟩ | ⟨g, cap, cur, he, _⟩
    · exact h2
    · cases he
  clear h
  have hl63 : (L.length : Int) ≤ 1000000 := by omega
  rcases hcase with ⟨rfl, rfl⟩ | ⟨g, rfl, hc⟩
  · obtain rfl : L = [] := List.length_eq_zero_iff.1 (h0 rfl)
    clear h0
    go_enter Tryz.func132, Tryz.ntmps132
    go_wp2_with (at_builtin; refine wp_items etPack onePack _ rfl _ _ rfl N _ [] [t] b 0 1 (unhid H) (unhid HM) (unhid HAP) (unhid HC) ?c1 hNw rfl rfl ?_)
    case c1 => simp
    intro v' w' hg
    have HG := hid hg
    obtain ⟨ua, um, uc, rfl⟩ : ∃ a m c, v' = .slice a m c := by obtain ⟨a, c, e⟩ := grew_slice hg; exact ⟨_, _, _, e⟩
    clear hg
    go_wp2_with fail
    go_ret
    exact ⟨_, rfl, (unhid HG).row, (unhid HG).by_⟩
  · clear h0
    by_cases hcn : c = L.length
    · subst hcn
      go_enter Tryz.func132, Tryz.ntmps132
      go_wp2_with (at_builtin; refine wp_items etPack onePack _ rfl _ _ rfl N _ L [t] b 0 1 (unhid H) (unhid HM) (unhid HAP) (unhid HC) ?c1 hNw rfl rfl ?_)
      case c1 => simp; omega
      intro v' w' hg
      have HG := hid hg
      obtain ⟨ua, um, uc, rfl⟩ : ∃ a m c, v' = .slice a m c := by obtain ⟨a, c, e⟩ := grew_slice hg; exact ⟨_, _, _, e⟩
      clear hg
      go_wp2_with fail
      go_ret
      exact ⟨_, rfl, (unhid HG).row, (unhid HG).by_⟩
    · have hcn' : ¬ L.length = c := fun e => hcn e.symm
      go_enter Tryz.func132, Tryz.ntmps132
      go_wp2_with (at_builtin; refine wp_items etPack onePack _ rfl _ _ rfl N _ L [t] b 0 1 (unhid H) (unhid HM) (unhid HAP) (unhid HC) ?c1 hNw rfl rfl ?_)
      case c1 => simp; omega
      intro v' w' hg
      have HG := hid hg
      obtain ⟨ua, um, uc, rfl⟩ : ∃ a m c, v' = .slice a m c := by obtain ⟨a, c, e⟩ := grew_slice hg; exact ⟨_, _, _, e⟩
      clear hg
      go_wp2_with fail
      go_ret
      exact ⟨_, rfl, (unhid HG).row, (unhid HG).by_⟩
theorem Insert_any (L : List (It packC)) (v : Value) (i : Nat) (t : It packC) (b N : Nat) (w : World) (hi : i ≤ L.length) (hn : L.length ≤ 1000000) (hNw : N ≤ w.heap.size) (h : NRow packC 31 w N v L) (hM : Items packC w N (L.take i ++ [t] ++ L.drop i)) (hvt : ∀ g, v.ownBlock = some g → g ∉ t.2.2) (hvb : v.ownBlock ≠ some b) (hb : w.heap[b]? = some (.cells t.1.toArray 31 (0, 0))) :
    Calls Tryz.prog 132 #[v, .int .i64 (i : Int), .slice (some ⟨b, 0, none⟩) 1 1] w (InsOut L t i N v.ownBlock w) := by
  by_cases hin : i = L.length
  · subst hin
    have e : L.take L.length ++ [t] ++ L.drop L.length = L ++ [t] := by simp
    rw [e] at hM
    refine (Insert_end L t v b N w hn hNw h hM hvt hb).mono ?_
    rintro x w' ⟨u, rfl, h1, h2⟩
    exact ⟨u, rfl, by rw [e]; exact h1, h2⟩
  · rcases h.row.2 with ⟨_, h0⟩ | ⟨g, cap, cur, rfl, _⟩
    · omega
    · exact Insert_mid L t g cap i b N w (by omega) hn hNw h hM (hvt g rfl) (fun e => hvb (by rw [e]; rfl)) hb
end Go.Proofs.YtlnpjiabdebmgaaGreat

/- Packs without one of a name, by the model: the row is new, its items are those that were there. -/
namespace Go.Proofs.YtlnpjiabdebmgaaGreat
open Go.RowKit Go.Shelf

def withoutP (q : ByteArray) (ps : List packC.D) : List packC.D := List.filter (α := packC.D) (fun p => !decide (PackD.name p = q)) ps
def withoutI (q : ByteArray) (L : List (It packC)) : List (It packC) := L.filter (fun t => !decide (PackD.name t.2.1 = q))
theorem withoutI_D (q : ByteArray) (L : List (It packC)) : itD (withoutI q L) = withoutP q (itD L) := by
  unfold itD withoutI withoutP
  rw [List.filter_map]
  rfl
theorem withoutI_sub (q : ByteArray) (L : List (It packC)) : (withoutI q L).Sublist L := List.filter_sublist
/-- The cells of an item of a row, one by one. -/
theorem item_cells {w W : World} {N : Nat} {v : Value} {L : List (It packC)} {k : Nat} {t : It packC} (h : NRow packC 31 w N v L) (ht : L[k]? = some t) (hb : Below w.heap.size w W) : ∃ (g cap : Nat) (na : Option Addr) (nc : Nat) (ta : Option Addr) (tc : Nat), v = .slice (some ⟨g, 0, none⟩) L.length cap ∧ g < w.heap.size ∧
    t.1 = [.string (PackD.name t.2.1), .string (PackD.version t.2.1), .slice na (PackD.needs t.2.1).length nc, .slice ta (PackD.tree t.2.1).length tc] ∧
    W.cell? ⟨g, k * 4, none⟩ = some (.string (PackD.name t.2.1)) ∧ W.cell? ⟨g, k * 4 + 1, none⟩ = some (.string (PackD.version t.2.1)) ∧ W.cell? ⟨g, k * 4 + 2, none⟩ = some (.slice na (PackD.needs t.2.1).length nc) ∧ W.cell? ⟨g, k * 4 + 3, none⟩ = some (.slice ta (PackD.tree t.2.1).length tc) := by
  have hkl := (List.getElem?_eq_some_iff.1 ht).1
  rcases h.row.2 with ⟨_, h0⟩ | ⟨g, cap, cur, hv, hN, hg, hc, _, hsz, hcells⟩
  · omega
  · have hown := h.items.each t (List.mem_of_getElem? ht)
    have hgl := (Array.getElem?_eq_some_iff.1 hg).1
    obtain ⟨v2, v3, F2, F3, e, _, h2, h3, _⟩ := packC_own hown
    obtain ⟨na, nc, rfl⟩ := rowOwn.slice h2
    obtain ⟨ta, tc, rfl⟩ := rowOwn.slice h3
    have key : ∀ j u, t.1[j]? = some u → W.cell? ⟨g, k * 4 + j, none⟩ = some u := fun j u hj => by
      have hj4 : j < packC.n := by rw [← packC.len hown]; exact (List.getElem?_eq_some_iff.1 hj).1
      have h1 := itCells_get (fun t ht => packC.len (h.items.each t ht)) k t ht j hj4
      have en : packC.n = 4 := rfl
      rw [en] at h1 hj4 hcells
      rw [hj, ← hcells, List.getElem?_take_of_lt (by omega), Array.getElem?_toList] at h1
      exact (hb.cell (p := ⟨g, k * 4 + j, none⟩) hgl).trans (cell_arrS hg _ _ h1)
    rw [e] at key
    exact ⟨g, cap, na, nc, ta, tc, hv, hgl, e, key 0 _ rfl, key 1 _ rfl, key 2 _ rfl, key 3 _ rfl⟩

set_option maxRecDepth 100000 in
set_option maxHeartbeats 4000000 in
theorem l9Without_any (L : List (It packC)) (v : Value) (q : ByteArray) (w : World) (N : Nat) (hN : N ≤ w.heap.size) (hs : L.length ≤ 1048576) (h : NRow packC 31 w N v L) :
    Calls Tryz.prog 134 #[v, .string q] w fun x w' => ∃ u, x = .returned u ∧ NRow packC 31 w' N u (withoutI q L) ∧ (∀ k, u.ownBlock = some k → w.heap.size ≤ k) ∧ Below w.heap.size w w' := by
  obtain ⟨a, cap, rfl⟩ := nrow_slice h
  have H := hid h
  clear h
  have HE0 := hid (NRow.empty (K := packC) (e := 31) w N hN)
  have HB0 := hid ((Below.refl w.heap.size w).alloc (Nat.le_refl _) (.cells #[] 31))
  go_enter Tryz.func134, Tryz.ntmps134
  go_wp2_with fail
  go_loopw [5, 6] (fun s i wr => ∃ (k : Nat) (ga : Option Addr) (n c : Nat), k ≤ L.length ∧ i = .int .i64 (k : Int) ∧ s = .slice ga n c ∧ Hid ((withoutI q (L.take k)).length = n ∧ n ≤ k) ∧ Hid (NRow packC 31 wr N (.slice ga n c) (withoutI q (L.take k))) ∧ Hid (∀ k, (Value.slice ga n c).ownBlock = some k → w.heap.size ≤ k) ∧ Hid (Below w.heap.size w wr)) (fun _ i _ => L.length - (intOf i).toNat)
  case atStart => exact ⟨0, _, 0, 0, Nat.zero_le _, rfl, rfl, hid ⟨by simp [withoutI], Nat.le_refl _⟩, hid (by simpa [withoutI] using unhid HE0), hid (fun k hk => by simp [Value.ownBlock] at hk; omega), HB0⟩
  case round =>
    clear HE0 HB0
    obtain ⟨k, ga, n, c, hk, rfl, rfl, HK, HR, HW, HB⟩ := hrel
    by_cases hlt : k < L.length
    · obtain ⟨t, ht⟩ : ∃ t, L[k]? = some t := ⟨L[k], List.getElem?_eq_getElem hlt⟩
      obtain ⟨g, cap', na, nc, ta, tc, hv, hgl, hcs, c0, c1, c2, c3⟩ := item_cells (unhid H) ht (unhid HB)
      obtain ⟨rfl, rfl⟩ : a = some ⟨g, 0, none⟩ ∧ cap = cap' := by injection hv with e1 _ e2; exact ⟨e1, e2⟩
      obtain ⟨cs, d, F⟩ := t
      dsimp only at hcs c0 c1 c2 c3
      subst hcs
      have hsn : withoutI q (L.take (k + 1)) = withoutI q (L.take k) ++ withoutI q [(([.string (PackD.name d), .string (PackD.version d), .slice na (PackD.needs d).length nc, .slice ta (PackD.tree d).length tc], d, F) : It packC)] := by rw [List.take_add_one, ht]; exact List.filter_append _ _
      have HE := hid hsn
      have HT := hid ht
      have hq := txt_iff (PackD.name d) q
      clear hv hgl hsn ht
      by_cases hxy : PackD.name d = q
      · rw [decide_eq_true hxy] at hq
        have HXY := hid hxy
        clear hxy
        go_wp2_with fail
        go_roundw
        case rel =>
          have e1 : withoutI q (L.take (k + 1)) = withoutI q (L.take k) := by rw [unhid HE, show withoutI q [(([.string (PackD.name d), .string (PackD.version d), .slice na (PackD.needs d).length nc, .slice ta (PackD.tree d).length tc], d, F) : It packC)] = [] by simp [withoutI, unhid HXY], List.append_nil]
          exact ⟨k + 1, ga, n, c, by omega, by go_num, rfl, hid ⟨by rw [e1]; exact (unhid HK).1, by have := (unhid HK).2; omega⟩, hid (by rw [e1]; exact unhid HR), HW, HB⟩
        case measure => simp [intOf]; omega
      · rw [decide_eq_false hxy] at hq
        have HXY := hid hxy
        clear hxy
        have e1 : withoutI q (L.take (k + 1)) = withoutI q (L.take k) ++ [(([.string (PackD.name d), .string (PackD.version d), .slice na (PackD.needs d).length nc, .slice ta (PackD.tree d).length tc], d, F) : It packC)] := by rw [unhid HE, show withoutI q [(([.string (PackD.name d), .string (PackD.version d), .slice na (PackD.needs d).length nc, .slice ta (PackD.tree d).length tc], d, F) : It packC)] = [(([.string (PackD.name d), .string (PackD.version d), .slice na (PackD.needs d).length nc, .slice ta (PackD.tree d).length tc], d, F) : It packC)] by simp [withoutI, unhid HXY]]
        have E1 := hid e1
        have hnew := World.alloc_heap_new wr (.cells #[.string (PackD.name d), .string (PackD.version d), .slice na (PackD.needs d).length nc, .slice ta (PackD.tree d).length tc] 31)
        have hba := (Below.refl wr.heap.size wr).alloc (Nat.le_refl _) (.cells #[.string (PackD.name d), .string (PackD.version d), .slice na (PackD.needs d).length nc, .slice ta (PackD.tree d).length tc] 31)
        have HC := hid (show ∀ j u, (itCells [(([.string (PackD.name d), .string (PackD.version d), .slice na (PackD.needs d).length nc, .slice ta (PackD.tree d).length tc], d, F) : It packC)])[j]? = some u → (wr.alloc (.cells #[.string (PackD.name d), .string (PackD.version d), .slice na (PackD.needs d).length nc, .slice ta (PackD.tree d).length tc] 31)).cell? ⟨wr.heap.size, 0 + j, none⟩ = some u from fun j u hj => by
          rw [Nat.zero_add]
          refine cell_arrS hnew j u ?_
          have hj' : [.string (PackD.name d), .string (PackD.version d), .slice na (PackD.needs d).length nc, .slice ta (PackD.tree d).length tc][j]? = some u := by simpa [itCells] using hj
          simpa using hj')
        have HRa := hid ((unhid HR).frame (W' := wr.alloc (.cells #[.string (PackD.name d), .string (PackD.version d), .slice na (PackD.needs d).length nc, .slice ta (PackD.tree d).length tc] 31)) (fun k' hk' => hba.block k' ((unhid HR).base k' hk').2))
        have HBa := hid ((unhid HB).alloc (unhid HB).size (.cells #[.string (PackD.name d), .string (PackD.version d), .slice na (PackD.needs d).length nc, .slice ta (PackD.tree d).length tc] 31))
        have hsub : (withoutI q (L.take (k + 1))).Sublist L := (withoutI_sub q _).trans (List.take_sublist _ _)
        have HM := hid (show Items packC (wr.alloc (.cells #[.string (PackD.name d), .string (PackD.version d), .slice na (PackD.needs d).length nc, .slice ta (PackD.tree d).length tc] 31)) N (withoutI q (L.take k) ++ [(([.string (PackD.name d), .string (PackD.version d), .slice na (PackD.needs d).length nc, .slice ta (PackD.tree d).length tc], d, F) : It packC)]) from by
          rw [← e1]
          exact ((unhid H).items.sub hsub).frame (fun k' hk' => (unhid HBa).block k' ((unhid H).items.lt k' ((itF_sub hsub).subset hk'))))
        have HA := hid (show ∀ g', (Value.slice ga n c).ownBlock = some g' → g' ∉ itF [(([.string (PackD.name d), .string (PackD.version d), .slice na (PackD.needs d).length nc, .slice ta (PackD.tree d).length tc], d, F) : It packC)] from fun g' hg' hm => by
          have h1 := unhid HW g' hg'
          have h2 := (unhid H).items.lt g' (mem_itF (List.mem_of_getElem? (unhid HT)) (by simpa [itF] using hm))
          omega)
        have HNS := hid (show N ≤ (wr.alloc (.cells #[.string (PackD.name d), .string (PackD.version d), .slice na (PackD.needs d).length nc, .slice ta (PackD.tree d).length tc] 31)).heap.size from Nat.le_trans hN (unhid HBa).size)
        clear hnew hba hsub e1
        go_wp2_with (at_builtin; refine wp_items etPack onePack _ rfl _ _ rfl N _ (withoutI q (L.take k)) [(([.string (PackD.name d), .string (PackD.version d), .slice na (PackD.needs d).length nc, .slice ta (PackD.tree d).length tc], d, F) : It packC)] wr.heap.size 0 1 (unhid HRa) (unhid HM) (unhid HA) (unhid HC) ?d1 (unhid HNS) rfl rfl ?_)
        case d1 => rw [(unhid HK).1]; simp only [List.length_singleton]; have := (unhid HK).2; omega
        intro v' w3 hg
        obtain ⟨ga', c', hv'⟩ := grew_slice hg
        have hl2 : (withoutI q (L.take k) ++ [(([.string (PackD.name d), .string (PackD.version d), .slice na (PackD.needs d).length nc, .slice ta (PackD.tree d).length tc], d, F) : It packC)]).length = n + 1 := by rw [List.length_append, (unhid HK).1]; rfl
        rw [hl2] at hv'
        subst hv'
        have HN := hid (show NRow packC 31 w3 N (.slice ga' (n + 1) c') (withoutI q (L.take (k + 1))) from by rw [unhid E1]; exact hg.row)
        have HW2 := hid (show ∀ k', (Value.slice ga' (n + 1) c').ownBlock = some k' → w.heap.size ≤ k' from fun k' hk' => by
          rcases hg.block with e | e
          · exact unhid HW k' (by rw [← e]; exact hk')
          · rw [e] at hk'
            have h1 := (unhid HBa).size
            simp only [Option.some.injEq] at hk'
            omega)
        have HB3 := hid ((unhid HBa).grown hg.by_ (unhid HBa).size (fun k hk => unhid HW k hk))
        have HK2 := hid (show (withoutI q (L.take (k + 1))).length = n + 1 ∧ n + 1 ≤ k + 1 from ⟨by rw [unhid E1]; exact hl2, by have := (unhid HK).2; omega⟩)
        clear hg HC HRa HBa HM hl2 HA HNS
        go_wp2_with fail
        go_roundw
        case rel => exact ⟨k + 1, ga', n + 1, c', by omega, by go_num, rfl, HK2, HN, HW2, HB3⟩
        case measure => simp [intOf]; omega
    · have e : k = L.length := by omega
      subst e
      go_wp2_with fail
      go_ret
      exact ⟨_, rfl, by have := unhid HR; rwa [List.take_length] at this, unhid HW, unhid HB⟩
end Go.Proofs.YtlnpjiabdebmgaaGreat

/- Packs copied, by the model. -/
namespace Go.Proofs.YtlnpjiabdebmgaaGreat
open Go.RowKit Go.Shelf

/-- Items appended, in a region that draws its order. -/
theorem op_items {K : CK} {t e : Nat} (hET : ET K t e) (h1 : OneC K) {ops : Array Oper} {o : Oper} {a : Act} (w : World) {Q : Exit → Act → World → Prop} {K' : Act → World → Prop} (d : Nat) (s x : Operand) (ho : o.op = .call { callee := .builtin .append, args := #[s, x], argTypes := #[t, t] }) (hw : Region.wanted o (yielded ops a.tmps) = true) (hd : o.dst = some d)
    (N : Nat) (v : Value) (L M : List (It K)) (b of c : Nat) (h : NRow K e w N v L) (hM : Items K w N (L ++ M)) (hap : ∀ g, v.ownBlock = some g → g ∉ itF M) (hcell : ∀ j u, (itCells M)[j]? = some u → w.cell? ⟨b, of + j, none⟩ = some u) (hn : L.length + M.length ≤ 4194304) (hN : N ≤ w.heap.size) (hs : a.eval s = v) (hx : a.eval x = .slice (some ⟨b, of, none⟩) M.length c)
    (hk : ∀ v' w', RowGrew K e w N v (L ++ M) v' w' → K' (a.put (some d) v') w') : if Region.wanted o (yielded ops a.tmps) = true then Oper.wp Tryz.prog o a w K' Q else K' (a.put o.dst undef) w := by
  rw [if_pos hw]
  obtain ⟨v', w', hr, h2, h3, h4, h5⟩ := app_items hET h1 w o.type N v L M b of c h hM hap hcell hn hN
  unfold Oper.wp execOp
  simp only [ho, resolve, invoke, builtin, Sem.run_bind, Sem.run_pure, Result.andThen_ok, List.map_toArray, List.map_cons, List.map_nil, hs, hx, hr]
  show K' (a.put o.dst v') w'
  rw [hd]
  refine hk v' w' ⟨h2, h3, h4, ?_⟩
  rw [h5, List.length_append]
  constructor
  · rintro ⟨rfl, h0⟩
    refine ⟨rfl, ?_⟩
    rcases h.row.2 with ⟨_, hl⟩ | ⟨g, cap, cur, hv, _⟩
    · omega
    · cases hv
  · rintro ⟨h0, h1⟩
    exact ⟨h0, by omega⟩
theorem NRow.lower {K : CK} {e : Nat} {W : World} {N M : Nat} {v : Value} {L : List (It K)} (h : NRow K e W N v L) (hM : M ≤ N) : NRow K e W M v L := by
  refine ⟨⟨h.row.1, ?_⟩, ⟨h.items.each, h.items.nodup, fun k hk => Nat.le_trans hM (h.items.base k hk)⟩, h.apart⟩
  rcases h.row.2 with h1 | ⟨g, cap, cur, hv, hN, hr⟩
  · exact .inl h1
  · exact .inr ⟨g, cap, cur, hv, by omega, hr⟩
/-- The boxes of a copy under way. -/
structure CopyW (w wr : World) (g : Nat) (v u : Value) : Prop where
  box : wr.heap[g]? = some (.cells #[v] 42 (0, 0))
  res : wr.heap[g + 1]? = some (.cells #[.slice none 0 0] 42 (0, 0))
  out : wr.heap[g + 1 + 1]? = some (.cells #[u] 42 (0, 0))
  size : g + 1 + 1 < wr.heap.size
  below : Below g w wr
theorem grown_trans {a b c : World} {r : Option Nat} (h : a.grownBy b r) (h2 : b.grownBy c r) : a.grownBy c r := ⟨h2.os.trans h.os, h2.tape.trans h.tape, h2.output.trans h.output, Nat.le_trans h.size h2.size, fun k hk hne => (h2.block k (Nat.lt_of_lt_of_le hk h.size) hne).trans (h.block k hk hne)⟩
theorem below_grown {a b : World} (r : Option Nat) (h : Below a.heap.size a b) : a.grownBy b r := ⟨h.os, h.tape, h.output, h.size, fun k hk _ => h.block k hk⟩
theorem CopyW.grown {w wr W : World} {g : Nat} {v u : Value} {r : Option Nat} (h : CopyW w wr g v u) (hg : wr.grownBy W r) (hr : ∀ k, r = some k → g + 1 + 1 < k) : CopyW w W g v u := by
  have hs := h.size
  have hb : ∀ k, k ≤ g + 1 + 1 → W.heap[k]? = wr.heap[k]? := fun k hk => hg.block k (by omega) (fun e => by have := hr k e.symm; omega)
  exact ⟨(hb _ (by omega)).trans h.box, (hb _ (by omega)).trans h.res, (hb _ (by omega)).trans h.out, Nat.lt_of_lt_of_le hs hg.size, h.below.grown hg (by omega) (fun k e => by have := hr k e; omega)⟩
theorem CopyW.store {w W : World} {g : Nat} {v u : Value} (h : CopyW w W g v u) (u' : Value) : CopyW w (W.setCell ⟨g + 1 + 1, 0, none⟩ u') g v u' :=
  ⟨(Below.heap_setCell _ _ _ _ (by dsimp only; omega)).trans h.box, (Below.heap_setCell _ _ _ _ (by dsimp only; omega)).trans h.res, heap_setCell_same W (g + 1 + 1) 0 _ _ u' h.out, by simpa using h.size, h.below.setCell (by dsimp only; omega) _⟩

set_option maxRecDepth 100000 in
set_option maxHeartbeats 8000000 in
theorem l9Copy_any (ps : List packC.D) (v : Value) (w : World) (hs : smallPs ps) (h : rowAt packC w v ps) :
    Calls Tryz.prog 75 #[.agg #[v]] w fun x w' => ∃ (u : Value) (L : List (It packC)), x = .returned (.agg #[u]) ∧ NRow packC 31 w' w.heap.size u L ∧ itD L = ps ∧ Below w.heap.size w w' := by
  obtain ⟨a, cap, rfl, -, -, h⟩ := h
  have hlen := hs.1
  have HSM := hid hs
  have H := hid h
  clear h hs
  go_enter Tryz.func75, Tryz.ntmps75
  go_wp2_with fail
  obtain ⟨hP, hR, hO, hS, hB⟩ := three_boxes w (.cells #[.slice a ps.length cap] 42) (.cells #[.slice none 0 0] 42) (.cells #[.slice none 0 0] 42)
  generalize ((w.alloc (.cells #[.slice a ps.length cap] 42)).alloc (.cells #[.slice none 0 0] 42)).alloc (.cells #[.slice none 0 0] 42) = W0 at hP hR hO hS hB ⊢
  have HC0 := hid (CopyW.mk hP hR hO hS hB)
  clear hP hR hO hS hB
  go_loopw [4] (fun i wr => ∃ (k : Nat) (L : List (It packC)) (ga : Option Addr) (c : Nat), k ≤ ps.length ∧ i = .int .i64 (k : Int) ∧ Hid (L.length = k) ∧ Hid (itD L = ps.take k) ∧ Hid (NRow packC 31 wr (w.heap.size + 1 + 1 + 1) (.slice ga k c) L) ∧ Hid (CopyW w wr w.heap.size (.slice a ps.length cap) (.slice ga k c))) (fun i _ => ps.length - (intOf i).toNat)
  case atStart => exact ⟨0, [], none, 0, Nat.zero_le _, rfl, hid rfl, hid (by simp [itD]), hid (NRow.none _ _), HC0⟩
  case round =>
    clear HC0
    obtain ⟨k, L, ga, c, hk, rfl, HK, HL, HR, HC⟩ := hrel
    have o0 := cell_arrS (unhid HC).box 0 _ rfl
    by_cases hlt : k < ps.length
    · obtain ⟨e, he⟩ : ∃ e, ps[k]? = some e := ⟨ps[k], List.getElem?_eq_getElem hlt⟩
      obtain ⟨b, o, rfl, hbl, hc⟩ := (unhid H).resolve_left (by intro e; subst e; simp at hlt)
      obtain ⟨na, nc, ta, tc, ⟨c0, c1, c2, c3⟩, hat⟩ := pack_cells (unhid HC).below hbl hc he
      have hsp := (unhid HSM).2 e (List.mem_of_getElem? he)
      have hsz : (PackD.needs e).length ≤ 4194304 ∧ (PackD.tree e).length ≤ 4194304 := ⟨by have := hsp.needs.1; omega, by have := hsp.tree.1; rw [entsD_len] at this; omega⟩
      have HE := hid he
      have hrb : ∀ k', (Value.slice ga k c).ownBlock = some k' → w.heap.size + 1 + 1 < k' := fun k' hk' => by have := ((unhid HR).base k' (.inl hk')).1; omega
      have cellx : ∀ (x : CW (fun w' => wr.grownBy w' (Value.slice ga k c).ownBlock)) (p : Addr) (u : Value), p.block ≤ w.heap.size + 1 + 1 → wr.cell? p = some u → x.w.cell? p = some u := fun x p u hp hu => x.h.cell hu (fun e => by have := hrb _ e.symm; omega)
      have gq0 : ∀ x : CW (fun w' => wr.grownBy w' (Value.slice ga k c).ownBlock), x.w.cell? ⟨w.heap.size, 0, none⟩ = some (.slice (some ⟨b, o, none⟩) ps.length cap) := fun x => cellx x _ _ (by dsimp only; omega) o0
      have gq1 : ∀ x : CW (fun w' => wr.grownBy w' (Value.slice ga k c).ownBlock), x.w.cell? ⟨w.heap.size + 1 + 1, 0, none⟩ = some (.slice ga k c) := fun x => cellx x _ _ (by dsimp only; omega) (cell_arrS (unhid HC).out 0 _ rfl)
      have gc0 : ∀ x : CW (fun w' => wr.grownBy w' (Value.slice ga k c).ownBlock), x.w.cell? ⟨b, o + k * 4, none⟩ = some (.string (PackD.name e)) := fun x => cellx x _ _ (by dsimp only; omega) c0
      have gc1 : ∀ x : CW (fun w' => wr.grownBy w' (Value.slice ga k c).ownBlock), x.w.cell? ⟨b, o + k * 4 + 1, none⟩ = some (.string (PackD.version e)) := fun x => cellx x _ _ (by dsimp only; omega) c1
      have gc2 : ∀ x : CW (fun w' => wr.grownBy w' (Value.slice ga k c).ownBlock), x.w.cell? ⟨b, o + k * 4 + 2, none⟩ = some (.slice na (PackD.needs e).length nc) := fun x => cellx x _ _ (by dsimp only; omega) c2
      have gc3 : ∀ x : CW (fun w' => wr.grownBy w' (Value.slice ga k c).ownBlock), x.w.cell? ⟨b, o + k * 4 + 3, none⟩ = some (.slice ta (PackD.tree e).length tc) := fun x => cellx x _ _ (by dsimp only; omega) c3
      have hd0 : wr.grownBy wr.drew (Value.slice ga k c).ownBlock := ⟨rfl, rfl, rfl, Nat.le_refl _, fun _ _ _ => rfl⟩
      have HD0 := hid hd0
      have hbd : Below wr.heap.size wr wr.drew := ⟨rfl, rfl, rfl, Nat.le_refl _, fun _ _ => rfl⟩
      have JN := hid (l9Pack_any e _ wr.drew hsz (packC.below hat hbd))
      have HBD := hid hbd
      clear hat hc he hbl hsp hsz hrb cellx c0 c1 c2 c3 hbd
      go_wp2_with fail
      clear o0
      have hba : ∀ {q : Prop}, (CW (fun w' => wr.grownBy w' (Value.slice ga k c).ownBlock) → q) ↔ q := CW.all hd0
      refine heldE_begin 11 (fun w' => wr.grownBy w' (Value.slice ga k c).ownBlock) (by kernel_rfl) ?_
      refine heldE_here [true, true, true, true, true, true, true] (by kernel_rfl) (by kernel_rfl) (fun _ _ _ _ _ h => h) hd0 ?_
      dsimp only [pick]
      repeat (go_big_quiet_step (fail))
      refine wpQuiet_nil ?_
      clear hba hd0 gq0 gq1 gc0 gc1 gc2 gc3
      refine heldE_op 7 (by kernel_rfl) (by kernel_rfl) rfl (fun K hK => ?_)
      refine call_op 127 20 (enters_of Tryz.func127 (by kernel_rfl) rfl) #[.agg #[.string (PackD.name e), .string (PackD.version e), .slice na (PackD.needs e).length nc, .slice ta (PackD.tree e).length tc]] rfl rfl rfl rfl ?_
      refine (unhid JN).mono ?_
      rintro x w2 ⟨cs, F, rfl, hown, hF, hb⟩
      obtain ⟨v2, v3, F2, F3, rfl, -, -, -, -⟩ := packC_own hown
      have hbb : Below wr.heap.size wr w2 := (unhid HBD).trans hb
      have hg2 := below_grown (Value.slice ga k c).ownBlock hbb
      have HX := hid (And.intro hbb (And.intro hown hF))
      refine ⟨_, rfl, hK.out _ _ hg2 ?_⟩
      clear hK K hown hF hb hbb JN HBD HD0
      simp only [Act.put, List.setIfInBounds_toArray, List.set_cons_zero, List.set_cons_succ]
      refine heldE_op 8 (by kernel_rfl) (by kernel_rfl) rfl (fun K hK => ?_)
      go_simp
      obtain ⟨hbb, hown, hF⟩ := unhid HX
      have hnew := World.alloc_heap_new w2 (.cells #[.string (PackD.name e), .string (PackD.version e), v2, v3] 31)
      have hb2 := (Below.refl w2.heap.size w2).alloc (Nat.le_refl _) (.cells #[.string (PackD.name e), .string (PackD.version e), v2, v3] 31)
      have hNs : w.heap.size + 1 + 1 + 1 ≤ wr.heap.size := (unhid HC).size
      obtain ⟨q1, q2, q3⟩ := items_new (unhid HR) hNs hbb hown (fun k hk => (hF k hk).1) hb2
      have hb3 := hbb.trans (hb2.mono hbb.size)
      have hg3 := below_grown (Value.slice ga k c).ownBlock hb3
      have hcl : ∀ j u, (itCells [(([.string (PackD.name e), .string (PackD.version e), v2, v3], e, F) : It packC)])[j]? = some u → (w2.alloc (.cells #[.string (PackD.name e), .string (PackD.version e), v2, v3] 31)).cell? ⟨w2.heap.size, 0 + j, none⟩ = some u := fun j u hj => by
        rw [Nat.zero_add]
        refine cell_arrS hnew j u ?_
        have hj' : [.string (PackD.name e), .string (PackD.version e), v2, v3][j]? = some u := by simpa [itCells] using hj
        simpa using hj'
      have hNs3 : w.heap.size + 1 + 1 + 1 ≤ (w2.alloc (.cells #[.string (PackD.name e), .string (PackD.version e), v2, v3] 31)).heap.size := Nat.le_trans hNs hb3.size
      refine hK.out _ _ hg3 ?_
      clear hK K hg2 hbb hown hF HX hnew hb2 hb3
      generalize w2.alloc (.cells #[.string (PackD.name e), .string (PackD.version e), v2, v3] 31) = w3 at *
      generalize w2.heap.size = gs at *
      refine heldE_op 9 (by kernel_rfl) (by kernel_rfl) rfl (fun K hK => ?_)
      refine op_items etPack onePack w3 22 _ _ rfl rfl rfl (w.heap.size + 1 + 1 + 1) (.slice ga k c) L [(([.string (PackD.name e), .string (PackD.version e), v2, v3], e, F) : It packC)] gs 0 1 q1 q2 q3 hcl (by rw [unhid HK]; simp only [List.length_singleton]; omega) hNs3 rfl rfl ?_
      intro v' w4 hg
      obtain ⟨ga', c', hv'⟩ := grew_slice hg
      have hl2 : (L ++ [(([.string (PackD.name e), .string (PackD.version e), v2, v3], e, F) : It packC)]).length = k + 1 := by rw [List.length_append, unhid HK]; rfl
      rw [hl2] at hv'
      subst hv'
      have hg4 := grown_trans hg3 hg.by_
      have HC4 := hid ((unhid HC).grown hg4 (fun k' hk' => by have := ((unhid HR).base k' (.inl hk')).1; omega))
      have HN := hid hg.row
      have HL2 := hid (show itD (L ++ [(([.string (PackD.name e), .string (PackD.version e), v2, v3], e, F) : It packC)]) = ps.take (k + 1) by
        rw [itD_app, unhid HL, List.take_add_one, unhid HE]; rfl)
      have HK2 := hid hl2
      generalize L ++ [(([.string (PackD.name e), .string (PackD.version e), v2, v3], e, F) : It packC)] = L2 at *
      refine hK.out _ _ hg4 ?_
      clear hK K hg hg3 hl2 q1 q2 q3 hcl hNs3
      simp only [Act.put, List.setIfInBounds_toArray, List.set_cons_zero, List.set_cons_succ]
      have hba : ∀ {q : Prop}, (CW (fun w' => wr.grownBy w' (Value.slice ga k c).ownBlock) → q) ↔ q := CW.all hg4
      refine heldE_here [false, false, false, false, false, false, false, false, false, false, true] (by kernel_rfl) (by kernel_rfl) (fun _ _ _ _ _ h => h) hg4 ?_
      dsimp only [pick]
      repeat (go_big_quiet_step (fail))
      refine wpQuiet_nil ?_
      clear hba hg4
      obtain ⟨o2, p2⟩ := cell_fz (unhid HC4).out 0 _ rfl
      refine heldE_last (by kernel_rfl) (by kernel_rfl) rfl (fun K hK => ?_)
      go_simp
      refine hK.out _ _ ?_
      clear hK K o2 p2
      refine heldE_done (by kernel_rfl) ?_
      have HC5 := hid ((unhid HC4).store (.slice ga' ((k + 1 : Nat)) c'))
      have HN5 := hid ((unhid HN).frame (W' := w4.setCell ⟨w.heap.size + 1 + 1, 0, none⟩ (.slice ga' ((k + 1 : Nat)) c')) (fun k' hk' => Below.heap_setCell _ _ _ _ (by have := ((unhid HN).base k' hk').1; dsimp only; omega)))
      clear HC4 HN HC HR
      go_wp2_with fail
      go_roundw
      case rel => exact ⟨k + 1, L2, ga', c', by omega, by go_num, HK2, HL2, HN5, HC5⟩
      case measure => simp [intOf]; omega
    · have e : k = ps.length := by omega
      subst e
      have HL2 := hid (show itD L = ps by have := unhid HL; rwa [List.take_length] at this)
      obtain ⟨o2, p2⟩ := cell_fz (unhid HC).out 0 _ rfl
      obtain ⟨o1, p1⟩ := cell_fz (unhid HC).res 0 _ rfl
      go_wp2_with fail
      refine bodyPost_ret (v := .agg #[.slice ga ps.length c]) (by simp [results, Tryz.results75, go_sem, World.cell?_setCell_same', o1]) rfl ⟨_, L, rfl, ((unhid HR).frame (fun k' hk' => Below.heap_setCell _ _ _ _ (by have := ((unhid HR).base k' hk').1; dsimp only; omega))).lower (by omega), unhid HL2, (unhid HC).below.setCell (by dsimp only; omega) _⟩
end Go.Proofs.YtlnpjiabdebmgaaGreat

/- A root of other packs, or the one that was, by the model. -/
namespace Go.Proofs.YtlnpjiabdebmgaaGreat
open Go.RowKit Go.Shelf

set_option maxRecDepth 100000 in
set_option maxHeartbeats 4000000 in
theorem l9Try_any (qs : List packC.D) (a1 : Option Addr) (n1 c1 : Nat) (v : Value) (w : World) (hs : smallPs qs) (hq : rowAt packC w v qs) :
    Calls Tryz.prog 125 #[.agg #[.slice a1 n1 c1], v] w fun x w' => ∃ r, x = .returned (.tuple #[.agg #[r], .int .i64 (rootCode qs)]) ∧ ((rootCode qs = 0 ∧ r = v) ∨ (rootCode qs ≠ 0 ∧ r = .slice a1 n1 c1)) ∧ Below w.heap.size w w' := by
  obtain ⟨a2, c2, rfl, -⟩ := rowAt.slice hq
  have HQ := hid hq
  clear hq
  go_enter Tryz.func125, Tryz.ntmps125
  go_wp2_with fail
  obtain ⟨hP, hR, hS, hB⟩ := two_boxesP w (.cells #[.slice a1 n1 c1] 42) (.cells #[.slice none 0 0] 42)
  generalize (w.alloc (.cells #[.slice a1 n1 c1] 42)).alloc (.cells #[.slice none 0 0] 42) = W0 at hP hR hS hB ⊢
  refine (l9Check_any qs _ W0 hs ((unhid HQ).below hB)).mono ?_
  rintro x w2 ⟨rfl, hb⟩
  obtain ⟨o0, p0⟩ := cell_fz ((hb.block _ (by omega)).trans hP) 0 _ rfl
  obtain ⟨o1, p1⟩ := cell_fz ((hb.block _ hS).trans hR) 0 _ rfl
  have HB := hid (hB.trans (hb.mono hB.size))
  clear hb hP hR hB
  by_cases h0 : rootCode qs = 0
  · have HE := hid h0
    rw [h0]
    go_wp2_with fail
    exact bodyPost_ret (v := .tuple #[.agg #[.slice a2 qs.length c2], .int .i64 0]) (by simp [results, Tryz.results125, go_sem, World.cell?_setCell_same', o1]) rfl ⟨_, by rw [unhid HE], .inl ⟨unhid HE, rfl⟩, (unhid HB).setCell (by dsimp only; omega) _⟩
  · have HE := hid h0
    go_wp2_with fail
    exact bodyPost_ret (v := .tuple #[.agg #[.slice a1 n1 c1], .int .i64 (rootCode qs)]) (by simp [results, Tryz.results125, go_sem, World.cell?_setCell_same', o1]) rfl ⟨_, rfl, .inr ⟨unhid HE, rfl⟩, (unhid HB).setCell (by dsimp only; omega) _⟩
def tryP (ps qs : List packC.D) : List packC.D := if rootCode qs = 0 then qs else ps
def hasB (q : ByteArray) (ps : List packC.D) : Bool := (namesP ps).any fun x => decide (x = q)
theorem hasB_iff (q : ByteArray) (ps : List packC.D) : hasB q ps = true ↔ q ∈ namesP ps := by simp [hasB]
def outCode (q : ByteArray) (ps : List packC.D) : Int := if hasB q ps then rootCode (withoutP q ps) else 3
def outP (q : ByteArray) (ps : List packC.D) : List packC.D := if hasB q ps then tryP ps (withoutP q ps) else ps
theorem without_small {q : ByteArray} {ps : List packC.D} (h : smallPs ps) : smallPs (withoutP q ps) := by
  refine ⟨Nat.le_trans (List.length_filter_le _ _) h.1, fun p hp => h.2 p ?_⟩
  unfold withoutP at hp
  exact (List.mem_filter.1 hp).1
/-- What a region with calls and a store at its end keeps. -/
def OutW (w : World) (g : Nat) (w' : World) : Prop := Below (g + 1) w w' ∧ ∃ z, w'.heap[g + 1]? = some (.cells #[z] 42 (0, 0))
theorem OutW.next {w w1 w2 : World} {g : Nat} (h : OutW w g w1) (hg : g + 1 < w1.heap.size) (hb : Below w1.heap.size w1 w2) : OutW w g w2 := by
  obtain ⟨h1, z, hz⟩ := h
  exact ⟨h1.trans (hb.mono (by omega)), z, (hb.block _ hg).trans hz⟩
theorem OutW.store {w w1 : World} {g : Nat} (h : OutW w g w1) (u : Value) : OutW w g (w1.setCell ⟨g + 1, 0, none⟩ u) := by
  obtain ⟨h1, z, hz⟩ := h
  exact ⟨h1.setCell (by dsimp only; omega) _, u, heap_setCell_same w1 (g + 1) 0 _ _ u hz⟩

set_option maxRecDepth 100000 in
set_option maxHeartbeats 4000000 in
theorem l9Out_any (L : List (It packC)) (u : Value) (q : ByteArray) (w : World) (N : Nat) (hN : N ≤ w.heap.size) (hs : smallPs (itD L)) (hp : NRow packC 31 w N u L) :
    Calls Tryz.prog 82 #[.agg #[u], .string q] w fun x w' => ∃ (r : Value) (L' : List (It packC)), x = .returned (.tuple #[.agg #[r], .int .i64 (outCode q (itD L))]) ∧ NRow packC 31 w' N r L' ∧ itD L' = outP q (itD L) ∧ Below w.heap.size w w' := by
  obtain ⟨a1, c1, rfl⟩ := nrow_slice hp
  have HP := hid hp
  have HA := hid (show rowAt packC w (.slice a1 L.length c1) (itD L) from by obtain ⟨F, h1, _⟩ := hp.own; exact h1.toAt)
  have HS := hid hs
  have hln := itD_len L
  generalize hps : itD L = ps at *
  have HPS := hid hps
  clear hp hps
  go_enter Tryz.func82, Tryz.ntmps82
  go_wp2_with fail
  obtain ⟨hP, hR, hS, hB⟩ := two_boxesP w (.cells #[.slice a1 L.length c1] 42) (.cells #[.slice none 0 0] 42)
  generalize (w.alloc (.cells #[.slice a1 L.length c1] 42)).alloc (.cells #[.slice none 0 0] 42) = W0 at hP hR hS hB ⊢
  have o0 := cell_arrS hP 0 _ rfl
  go_wp2_with fail
  refine (l8Pack_any ps _ q W0 hs.1 ((unhid HA).below hB)).mono ?_
  rintro x w2 ⟨⟨r, rfl, hr⟩, hb⟩
  clear o0
  have hP2 := (hb.block _ (by omega)).trans hP
  have hR2 := (hb.block _ hS).trans hR
  have hS2 : w.heap.size + 1 < w2.heap.size := Nat.lt_of_lt_of_le hS hb.size
  have hB2 := hB.trans (hb.mono hB.size)
  clear hb hP hR hB hS hs
  obtain ⟨o0, p0⟩ := cell_fz hP2 0 _ rfl
  obtain ⟨o1, p1⟩ := cell_fz hR2 0 _ rfl
  rcases hr with ⟨rfl, hno⟩ | ⟨k, rfl, hyes⟩
  · have hno2 : ¬ hasB q ps = true := fun e => hno ((hasB_iff q ps).1 e)
    have HE := hid (show 3 = outCode q ps ∧ ps = outP q ps from ⟨by unfold outCode; rw [if_neg hno2], by unfold outP; rw [if_neg hno2]⟩)
    have HB := hid hB2
    clear hno hno2 hP2 hR2 hB2
    go_wp2_with fail
    refine bodyPost_ret (v := .tuple #[.agg #[.slice a1 L.length c1], .int .i64 3]) (by simp [results, Tryz.results82, go_sem, World.cell?_setCell_same', o1]) rfl ⟨_, L, by rw [← (unhid HE).1], ?_, by rw [unhid HPS]; exact (unhid HE).2, (unhid HB).setCell (by dsimp only; omega) _⟩
    refine (unhid HP).frame (fun k hk => ?_)
    have h1 := ((unhid HP).base k hk).2
    rw [Below.heap_setCell _ _ _ _ (by dsimp only; omega), (unhid HB).block k h1]
  · have hm : hasB q ps = true := (hasB_iff q ps).2 (List.mem_of_getElem? hyes)
    have HE := hid (show rootCode (withoutP q ps) = outCode q ps ∧ tryP ps (withoutP q ps) = outP q ps from ⟨by unfold outCode; rw [if_pos hm], by unfold outP; rw [if_pos hm]⟩)
    have HB := hid hB2
    have hC0 : OutW w2 w.heap.size w2.drew := ⟨⟨rfl, rfl, rfl, Nat.le_refl _, fun _ _ => rfl⟩, _, hR2⟩
    have HC0 := hid hC0
    have HS2 := hid hS2
    clear hyes hm hR2 hB2 o1 p1 hP2
    go_wp2_with fail
    have gq0 : ∀ x : CW (OutW w2 w.heap.size), x.w.cell? ⟨w.heap.size, 0, none⟩ = some (.slice a1 L.length c1) := fun x => (x.h.1.cell (p := ⟨w.heap.size, 0, none⟩) (by dsimp only; omega)).trans o0
    have hba : ∀ {q : Prop}, (CW (OutW w2 w.heap.size) → q) ↔ q := CW.all hC0
    refine held_begin (OutW w2 w.heap.size) (by kernel_rfl) hC0 ?_
    refine held_here [true, true, true, true] (by kernel_rfl) (by kernel_rfl) (fun _ _ _ _ _ h => h) hC0 ?_
    dsimp only [pick]
    repeat (go_big_quiet_step (fail))
    refine wpQuiet_nil ?_
    clear hba gq0 hC0 o0 p0
    have hs0 : w.heap.size + 1 < w2.drew.heap.size := unhid HS2
    have hbd : Below w.heap.size w w2.drew := (unhid HB).trans ⟨rfl, rfl, rfl, Nat.le_refl _, fun _ _ => rfl⟩
    have HBD := hid hbd
    generalize w2.drew = w3 at *
    have hsL : L.length ≤ 1048576 := by have := (unhid HS).1; omega
    have hPd : NRow packC 31 w3 N (.slice a1 L.length c1) L := (unhid HP).frame (fun k hk => hbd.block k ((unhid HP).base k hk).2)
    refine held_call 4 134 16 (enters_of Tryz.func134 (by kernel_rfl) rfl) #[.slice a1 L.length c1, .string q] (by kernel_rfl) (by kernel_rfl) rfl rfl rfl rfl rfl ?_
    refine (l9Without_any L _ q w3 N (Nat.le_trans hN hbd.size) hsL hPd).mono ?_
    rintro x w4 ⟨v4, rfl, hN4, hW4, hb⟩
    have hC4 := (unhid HC0).next hs0 hb
    have hs4 := Nat.lt_of_lt_of_le hs0 hb.size
    have hb4 := hbd.trans (hb.mono hbd.size)
    have hat : rowAt packC w4 v4 (withoutP q ps) := by
      obtain ⟨F, h1, _⟩ := hN4.own
      have := h1.toAt
      rwa [withoutI_D, unhid HPS] at this
    refine ⟨_, rfl, hC4, ?_⟩
    simp only [Act.put, List.setIfInBounds_toArray, List.set_cons_zero, List.set_cons_succ]
    refine held_call 5 125 17 (enters_of Tryz.func125 (by kernel_rfl) rfl) #[.agg #[.slice a1 L.length c1], v4] (by kernel_rfl) (by kernel_rfl) rfl rfl rfl rfl rfl ?_
    refine (l9Try_any (withoutP q ps) a1 L.length c1 v4 w4 (without_small (unhid HS)) hat).mono ?_
    rintro x w5 ⟨r5, rfl, hat5, hb5⟩
    obtain ⟨ra, rn, rc, hr5⟩ : ∃ ra rn rc, r5 = .slice ra rn rc := by
      rcases hat5 with ⟨_, rfl⟩ | ⟨_, rfl⟩
      · obtain ⟨x, y, rfl⟩ := nrow_slice hN4
        exact ⟨_, _, _, rfl⟩
      · exact ⟨_, _, _, rfl⟩
    have hfin : ∃ L', itD L' = tryP ps (withoutP q ps) ∧ ∀ z, NRow packC 31 (w5.setCell ⟨w.heap.size + 1, 0, none⟩ z) N r5 L' := by
      rcases hat5 with ⟨h0, rfl⟩ | ⟨h0, rfl⟩
      · refine ⟨withoutI q L, by rw [withoutI_D, unhid HPS]; unfold tryP; rw [if_pos h0], fun z => hN4.frame (fun k hk => ?_)⟩
        have hl := (hN4.base k hk).2
        rw [Below.heap_setCell _ _ _ _ ?_, hb5.block k hl]
        dsimp only
        rcases hk with hk | hk
        · have := hW4 k hk; omega
        · have h2 := (unhid HP).items.lt k ((itF_sub (withoutI_sub q L)).subset hk)
          omega
      · refine ⟨L, by rw [unhid HPS]; unfold tryP; rw [if_neg h0], fun z => (unhid HP).frame (fun k hk => ?_)⟩
        have hl := ((unhid HP).base k hk).2
        rw [Below.heap_setCell _ _ _ _ (by dsimp only; omega), hb5.block k (Nat.lt_of_lt_of_le hl hb4.size), hb4.block k hl]
    subst hr5
    have HFIN := hid hfin
    clear hfin
    have hC5 := hC4.next hs4 hb5
    have hB5 := hb4.trans (hb5.mono hb4.size)
    refine ⟨_, rfl, hC5, ?_⟩
    simp only [Act.put, List.setIfInBounds_toArray, List.set_cons_zero, List.set_cons_succ]
    have HB5 := hid hB5
    clear hs0 hbd HBD HC0 hat hb hC4 hs4 hb4 hat5 hb5 hB5 HB hPd hN4 hW4
    have hba : ∀ {q : Prop}, (CW (OutW w2 w.heap.size) → q) ↔ q := CW.all hC5
    refine held_here [false, false, false, false, false, false, true, true] (by kernel_rfl) (by kernel_rfl) (fun _ _ _ _ _ h => h) hC5 ?_
    dsimp only [pick]
    repeat (go_big_quiet_step (fail))
    refine wpQuiet_nil ?_
    obtain ⟨z, hz⟩ := hC5.2
    obtain ⟨o1, p1⟩ := cell_fz hz 0 _ rfl
    have hC6 := hC5.store (.slice ra rn rc)
    clear hba
    refine held_op 8 (by kernel_rfl) (by kernel_rfl) rfl (fun K hK => ?_)
    go_simp
    refine hK.out _ _ hC6 ?_
    clear hK K
    have hba : ∀ {q : Prop}, (CW (OutW w2 w.heap.size) → q) ↔ q := CW.all hC6
    refine held_here [false, false, false, false, false, false, false, false, false, true] (by kernel_rfl) (by kernel_rfl) (fun _ _ _ _ _ h => h) hC6 ?_
    dsimp only [pick]
    repeat (go_big_quiet_step (fail))
    refine wpQuiet_nil ?_
    clear hba
    refine held_done (by kernel_rfl) ?_
    go_wp2_with fail
    obtain ⟨L', h1, h2⟩ := unhid HFIN
    exact bodyPost_ret (v := .tuple #[.agg #[.slice ra rn rc], .int .i64 (rootCode (withoutP q ps))]) (by simp [results, Tryz.results82, go_sem, World.cell?_setCell_same', o1]) rfl ⟨_, L', by rw [← (unhid HE).1], h2 _, by rw [h1]; exact (unhid HE).2, (unhid HB5).setCell (by dsimp only; omega) _⟩
end Go.Proofs.YtlnpjiabdebmgaaGreat
