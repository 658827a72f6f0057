/- The library's Insert in the midst of a row: of texts, and of what stands at paths. -/
import Derived.Test.YtlnehebihfeegaaTreeIns
import Derived.Shelf.Spec.SlicesInsertGrow
namespace Go.Proofs.Ytlnehebihfeegaa
open Go.RowKit Go.Shelf Go.Lib

theorem heap_cells_put (g : Nat) (t : TypeId) : ∀ (vs : List Value) (o : Nat) (w : World) (cs : Array Value), w.heap[g]? = some (.cells cs t (0, 0)) →
    ∃ cs' : Array Value, (w.setCells g o vs).heap[g]? = some (.cells cs' t (0, 0)) ∧ cs'.size = cs.size ∧ ∀ k, k < cs.size → cs'[k]? = if o ≤ k ∧ k < o + vs.length then vs[k - o]? else cs[k]?
  | [], o, w, cs, h => ⟨cs, h, rfl, fun k _ => by rw [if_neg (by rintro ⟨h1, h2⟩; simp at h2; omega)]⟩
  | v :: r, o, w, cs, h => by
    obtain ⟨cs', h1, h2, h3⟩ := heap_cells_put g t r (o + 1) (w.setCell ⟨g, o, none⟩ v) _ (heap_setCell_same w g o cs t v h)
    refine ⟨cs', h1, by rw [h2]; simp, fun k hk => ?_⟩
    rw [h3 k (by simpa using hk)]
    by_cases hin : o + 1 ≤ k ∧ k < o + 1 + r.length
    · rw [if_pos hin, if_pos ⟨by omega, by simp; omega⟩, show k - o = (k - (o + 1)) + 1 by omega, List.getElem?_cons_succ]
    · rw [if_neg hin]
      by_cases he : k = o
      · subst he
        rw [if_pos ⟨Nat.le_refl _, by simp⟩, Nat.sub_self]
        simp [hk]
      · rw [if_neg (by simp; omega)]
        rw [Array.getElem?_setIfInBounds_ne (fun e : o = k => he e.symm)]
theorem grown_cells_put (g : Nat) {w0 : World} {row : Option Nat} (hg : ∀ k, k < w0.heap.size → some k ≠ row → k ≠ g) : ∀ (vs : List Value) (o : Nat) (w : World), w0.grownBy w row → w0.grownBy (w.setCells g o vs) row
  | [], _, _, h => h
  | v :: r, o, w, h => grown_cells_put g hg r (o + 1) _ ⟨h.os, h.tape, h.output, by simpa using h.size, fun k hk hne => (heap_setCell_other w ⟨g, o, none⟩ k v (hg k hk hne)).trans (h.block k hk hne)⟩
theorem grown_drew {w0 w : World} {row : Option Nat} (h : w0.grownBy w row) : w0.grownBy w.drew row := ⟨h.os, h.tape, h.output, h.size, h.block⟩
theorem grown_refl (w : World) (row : Option Nat) : w.grownBy w row := ⟨rfl, rfl, rfl, Nat.le_refl _, fun _ _ _ => rfl⟩
theorem take_mid {cur : List Value} {xs : List Value} {n i : Nat} {p : Value} {cs : Array Value} (hx : cur.take n = xs) (hi : i ≤ n) (hl : n ≤ cur.length)
    (h : ∀ k, k < n + 1 → cs[k]? = if k < i then xs[k]? else if k = i then some p else xs[k - 1]?) : cs.toList.take (n + 1) = xs.take i ++ [p] ++ xs.drop i := by
  have hxl : xs.length = n := by rw [← hx, List.length_take]; omega
  apply List.ext_getElem?
  intro k
  rw [List.getElem?_take]
  by_cases hk : k < n + 1
  · rw [if_pos hk, Array.getElem?_toList, h k hk, List.append_assoc, List.getElem?_append, List.length_take, Nat.min_eq_left (by omega)]
    by_cases h1 : k < i
    · rw [if_pos h1, if_pos h1, List.getElem?_take_of_lt h1]
    · rw [if_neg h1, if_neg h1]
      by_cases h2 : k = i
      · rw [if_pos h2, h2, Nat.sub_self]; rfl
      · rw [if_neg h2, show k - i = (k - 1 - i) + 1 by omega, List.singleton_append, List.getElem?_cons_succ, List.getElem?_drop, show i + (k - 1 - i) = k - 1 by omega]
  · rw [if_neg hk, List.getElem?_eq_none]
    simp; omega

set_option maxHeartbeats 4000000 in
set_option maxRecDepth 100000 in
theorem InsertS_mid (N n c i g b : Nat) (cur : Array Value) (xs : List Value) (p : Value) (hp : p.oneCell' = true) (w : World) (hi : i < n) (hnc : n ≤ c) (hc63 : c ≤ maxLen) (hn : n ≤ 1000) (hN : N ≤ g) (hNw : N ≤ w.heap.size) (hg : w.heap[g]? = some (.cells cur 9 (0, 0))) (hsz : cur.size = c) (hxs : cur.toList.take n = xs) (hbg : b ≠ g) (hb : w.heap[b]? = some (.cells #[p] 9 (0, 0))) (h1 : ∀ v ∈ xs, v.oneCell' = true) :
    Calls Try.prog 84 #[.slice (some ⟨g, 0, .none⟩) n c, .int .i64 i, .slice (some ⟨b, 0, .none⟩) 1 1] w fun x w' => ∃ v', x = .returned v' ∧ w'.ownsRow N 9 1 v' (n + 1) (xs.take i ++ [p] ++ xs.drop i) ∧ w.grownBy w' (some g) := by
  have hxl : xs.length = n := by rw [← hxs, List.length_take, Array.length_toList]; omega
  have hcs : ∀ j v, xs[j]? = some v → w.cell? ⟨g, 0 + j, none⟩ = some v := fun j v hj => by
    have hjn : j < n := by rw [← hxl]; exact (List.getElem?_eq_some_iff.1 hj).1
    rw [← hxs, List.getElem?_take_of_lt hjn, Array.getElem?_toList] at hj
    rw [Nat.zero_add]
    simp [World.cell?, hg, hj]
  have hvs : ∀ j v, [p][j]? = some v → w.cell? ⟨b, 0 + j, none⟩ = some v := fun j v hj => by
    match j with
    | 0 => simp at hj; subst hj; simp [World.cell?, hb]
    | j + 1 => simp at hj
  have h1v : ∀ v ∈ [p], v.oneCell' = true := fun v hv => by simp at hv; subst hv; exact hp
  have ht := Try.underlying54
  have ht3 := Try.underlying3
  obtain ⟨i0, hi0, hz0, hzs, hzb⟩ := info_parts info9
  have hzz : (Try.prog.info? 9).map (·.size) = some 1 := by rw [hi0]; simp [hzs]
  have hdl : (xs.drop i).length = n - i := by rw [List.length_drop, hxl]
  have hgl : g < w.heap.size := (Array.getElem?_eq_some_iff.1 hg).1
  have hbl : b < w.heap.size := (Array.getElem?_eq_some_iff.1 hb).1
  unfold maxLen at hc63
  have mixed : Try.prog.follows .mixedOrders = true := by kernel_rfl
  have hw1 : IntKind.i64.wrap ((i : Int) + 1) = (i : Int) + 1 := by rw [IntKind.wrap_i64]; omega
  have hw2 : IntKind.i64.wrap ((n : Int) + 1) = (n : Int) + 1 := by rw [IntKind.wrap_i64]; omega
  have hz2 : ¬ ((i : Int) = (n : Int)) := by omega
  have htn : ((i : Int) + 1).toNat = i + 1 := by omega
  have hin : i ≤ n := by omega
  have hb1 : (0 : Int) ≤ (i : Int) + 1 := by omega
  have hb3 : (i : Int) ≤ (n : Int) + 1 := by omega
  by_cases hroom : n + 1 ≤ c
  · have hsp : ∀ j, j < n + 1 → (w.cell? ⟨g, 0 + j, none⟩).isSome = true := fun j hj => by
      rw [Nat.zero_add]; simp [World.cell?, hg]; omega
    have hfz : ∀ j, w.frozen? ⟨g, j, none⟩ = false := fun j => by simp [World.frozen?, hg]
    have hov : ∀ lb cb, (callFunc 109 #[.slice (some ⟨b, 0, none⟩) 1 1, .slice (some ⟨g, i + 1, none⟩) lb cb]).run Try.prog w = .ok (.value (.bool false)) w := fun lb cb => by
      rw [run_callFunc_extern Try.func109 (by kernel_rfl) (by kernel_rfl) (by kernel_rfl) (e := Extern.SlicesOverlaps.overlaps #[54, 54] #[4]) (by kernel_rfl),
        Lib.run_overlaps_apart w 54 4 9 ht 1 (fun w => by kernel_rfl) ⟨b, 0, none⟩ ⟨g, i + 1, none⟩ 1 1 lb cb hbg 9 9 1 c (by simp [World.shape?, hb]) (by simp [World.shape?, hg, hsz]) (by omega) (by simp [World.frozen?, hb]) (by simp [World.frozen?, hb])]
      rfl
    have hcp1 : ∀ ty dc sc, (Builtin.copy_ #[54, 54] ty #[.slice (some ⟨g, i + 1, none⟩) (n - i) dc, .slice (some ⟨g, i, none⟩) (n + 1 - i) sc]).run Try.prog w.drew = .ok (goInt (xs.drop i).length) (w.drew.setCells g (i + 1) (xs.drop i)) := fun ty dc sc =>
      run_copy_cells w.drew _ _ ty 9 g (i + 1) (n - i) dc ⟨g, i, none⟩ (n + 1 - i) sc (xs.drop i) ht hzz (by rw [hdl]; simp only [Nat.min_def]; split <;> omega)
        (fun j v hj => by rw [Addr.add_lit]; have := hcs (i + j) v (by rwa [List.getElem?_drop] at hj); rwa [Nat.zero_add] at this)
        (fun j hj => by have := hsp (i + 1 + j) (by omega); rwa [Nat.zero_add] at this) (fun j hj => hfz _) (fun v hv => h1 v (List.mem_of_mem_drop hv))
    obtain ⟨W1, hW1⟩ : ∃ W1, W1 = w.drew.setCells g (i + 1) (xs.drop i) := ⟨_, rfl⟩
    have hsp1 : ∀ k, k < n + 1 → (W1.cell? ⟨g, k, none⟩).isSome = true := fun k hk => by
      rw [hW1]
      exact isSome_setCells g _ _ _ (fun j hj => by have := hsp (i + 1 + j) (by omega); rwa [Nat.zero_add] at this) _ (by have := hsp k hk; rwa [Nat.zero_add] at this)
    have hcp2 : ∀ (W : World), (∀ x, W.cell? x = W1.cell? x) → (∀ x, W.frozen? x = W1.frozen? x) → ∀ ty dc, (Builtin.copy_ #[54, 54] ty #[.slice (some ⟨g, i, none⟩) (n + 1 - i) dc, .slice (some ⟨b, 0, none⟩) 1 1]).run Try.prog W = .ok (goInt [p].length) (W.setCells g i [p]) := fun W hWc hWf ty dc =>
      run_copy_cells W _ _ ty 9 g i (n + 1 - i) dc ⟨b, 0, none⟩ 1 1 [p] ht hzz (by simp only [Nat.min_def, List.length_singleton]; split <;> omega)
        (fun j v hj => by
          rw [Addr.add_lit, hWc, hW1, World.cell?_setCells_out g _ _ _ _ (fun h _ => absurd h hbg)]
          exact hvs j v hj)
        (fun j hj => by rw [hWc]; exact hsp1 _ (by simp at hj; omega)) (fun j hj => by rw [hWf, hW1, World.frozen?_setCells]; exact hfz _) h1v
    rw [← hW1] at hcp1
    have FIN : ∃ v', (Ending.returned (.slice (some ⟨g, 0, none⟩) (n + 1) c)) = .returned v' ∧ (W1.setCells g i [p]).ownsRow N 9 1 v' (n + 1) (xs.take i ++ [p] ++ xs.drop i) ∧ w.grownBy (W1.setCells g i [p]) (some g) := by
      refine ⟨_, rfl, ?_, ?_⟩
      · obtain ⟨c1, q1, q2, q3⟩ := heap_cells_put g 9 (xs.drop i) (i + 1) w.drew cur hg
        rw [← hW1] at q1
        obtain ⟨c2, r1, r2, r3⟩ := heap_cells_put g 9 [p] i W1 c1 q1
        refine ⟨by simp [hxl]; omega, .inr ⟨g, c, c2, rfl, hN, r1, hroom, hc63, by rw [r2, q2, hsz]; omega, ?_⟩⟩
        rw [Nat.mul_one]
        refine take_mid (cur := cur.toList) (i := i) hxs (by omega) (by rw [Array.length_toList]; omega) (fun k hk => ?_)
        rw [r3 k (by omega)]
        by_cases k1 : k < i
        · rw [if_pos k1, if_neg (by omega), q3 k (by omega), if_neg (by omega), ← hxs, List.getElem?_take_of_lt (by omega), Array.getElem?_toList]
        · rw [if_neg k1]
          by_cases k2 : k = i
          · rw [if_pos k2, if_pos ⟨by omega, by simp; omega⟩, k2, Nat.sub_self]; rfl
          · rw [if_neg k2, if_neg (by simp; omega), q3 k (by omega), if_pos ⟨by omega, by rw [hdl]; omega⟩, List.getElem?_drop, show i + (k - (i + 1)) = k - 1 by omega]
      · rw [hW1]
        exact grown_cells_put g (fun k _ hk e => hk (by rw [e])) _ _ _ (grown_cells_put g (fun k _ hk e => hk (by rw [e])) _ _ _ (grown_drew (grown_refl _ _)))
    have HF := hid FIN
    have hz3 : ¬ ((c : Int) < (n : Int) + 1) := by omega
    have hb2 : ¬ (c = i + 1) := by omega
    have hb4 : ¬ (c = i) := by omega
    clear FIN hsz hxs hg hb hN hNw hcs hvs h1 h1v
    go_enter Try.func84, Try.ntmps84
    go_wp2_with (simp only [hov])
    go_region_law_o (refine step_copy_runI rfl _ _ 54 54 rfl _ _ (by simp [Act.eval, Act.put]) (by simp [Act.eval, Act.put]) (hcp1 _ _ _) ?_)
    go_wp2_with (at_builtin; refine wpList_copy_runI _ rfl _ _ 54 54 rfl _ _ rfl rfl (hcp2 _ (fun _ => rfl) (fun _ => rfl) _ _) ?_)
    go_ret
    obtain ⟨v', e1, e2, e3⟩ := unhid HF
    cases e1
    rw [hW1] at e2 e3
    exact ⟨_, rfl, e2, e3⟩
  · have hceq : c = n := by omega
    have hkk : (n : Int) + 1 - (i : Int) = ((n + 1 - i : Nat) : Int) := by omega
    have hik : i + (n + 1 - i) = n + 1 := by omega
    have hold : (Builtin.firstCells i0.size i (.slice (some ⟨g, 0, none⟩) i c)).run Try.prog w.drew = .ok (xs.take i).toArray w.drew := by
      rw [hzs]
      exact run_firstCells_some w.drew 1 i ⟨g, 0, none⟩ i c (xs.take i) (by rw [List.length_take]; omega) (fun j v hj => by
        rw [Addr.add_lit]
        rw [List.getElem?_take] at hj
        split at hj
        · exact hcs j v hj
        · cases hj)
    have hrz : ∀ ty, (Builtin.append_ #[54, 3] ty #[.slice (some ⟨g, 0, none⟩) i c, .int .i64 ((n : Int) + 1 - (i : Int))]).run Try.prog w =
        .ok (.slice (some ⟨w.heap.size, 0, none⟩) (n + 1) (grownCap w (n + 1) c 9)) (w.drew.alloc (.cells ((xs.take i).toArray ++ Builtin.zeroCells (Value.string ⟨#[]⟩).cells (n + 1 - i) ++ Builtin.zeroCells (Value.string ⟨#[]⟩).cells (grownCap w (n + 1) c 9 - (n + 1))) 9)) := fun ty => by
      have h := Lib.run_append_grow_zeros w 54 3 ty 9 i0 _ .i64 .i64 ht ht3 hi0 hz0 (some ⟨g, 0, none⟩) i c (xs.take i) hold (n + 1 - i) (by omega) (by omega) (by omega) (by omega) (by rw [hzb]; omega) (by rw [hzb, hik]; exact growslice_fits (by omega) (by omega))
      rw [hik] at h
      rw [hkk]
      exact h
    obtain ⟨G, hG⟩ : ∃ G, G = grownCap w (n + 1) c 9 := ⟨_, rfl⟩
    obtain ⟨ROW, hROW⟩ : ∃ ROW : Array Value, ROW = (xs.take i).toArray ++ Builtin.zeroCells (Value.string ⟨#[]⟩).cells (n + 1 - i) ++ Builtin.zeroCells (Value.string ⟨#[]⟩).cells (G - (n + 1)) := ⟨_, rfl⟩
    rw [← hG, ← hROW] at hrz
    have hGn : n + 1 ≤ G := by rw [hG]; exact grownCap_ge w _ _ _
    have hRs : ROW.size = G := by
      rw [hROW]
      simp [Builtin.zeroCells, Value.cells, hxl]
      omega
    have hRt : ∀ k, k < i → ROW[k]? = xs[k]? := fun k hk => by
      rw [hROW, Array.append_assoc, Array.getElem?_append_left (by simp [hxl]; omega)]
      simp [List.getElem?_take_of_lt hk]
    obtain ⟨W1, hW1⟩ : ∃ W1, W1 = w.drew.alloc (.cells ROW 9) := ⟨_, rfl⟩
    rw [← hW1] at hrz
    have hNew : W1.heap[w.heap.size]? = some (.cells ROW 9 (0, 0)) := by rw [hW1]; exact World.alloc_heap_new w.drew _
    have hNs : ∀ j, j < n + 1 → (W1.cell? ⟨w.heap.size, j, none⟩).isSome = true := fun j hj => by
      simp [World.cell?, hNew]; omega
    have hNf : ∀ j, W1.frozen? ⟨w.heap.size, j, none⟩ = false := fun j => by simp [World.frozen?, hNew]
    have hOb : ∀ j v, w.cell? ⟨g, j, none⟩ = some v → W1.cell? ⟨g, j, none⟩ = some v := fun j v h => by rw [hW1, World.cell?_alloc_past (w := w.drew) _ g j hgl]; exact h
    have hOv : ∀ j v, w.cell? ⟨b, j, none⟩ = some v → W1.cell? ⟨b, j, none⟩ = some v := fun j v h => by rw [hW1, World.cell?_alloc_past (w := w.drew) _ b j hbl]; exact h
    have hcpA : ∀ (W : World), (∀ x, W.cell? x = W1.cell? x) → (∀ x, W.frozen? x = W1.frozen? x) → ∀ ty dc, (Builtin.copy_ #[54, 54] ty #[.slice (some ⟨w.heap.size, i, none⟩) (n + 1 - i) dc, .slice (some ⟨b, 0, none⟩) 1 1]).run Try.prog W = .ok (goInt [p].length) (W.setCells w.heap.size i [p]) := fun W hWc hWf ty dc =>
      run_copy_cells W _ _ ty 9 w.heap.size i (n + 1 - i) dc ⟨b, 0, none⟩ 1 1 [p] ht hzz (by simp only [Nat.min_def, List.length_singleton]; split <;> omega)
        (fun j v hj => by rw [Addr.add_lit, hWc]; exact hOv _ v (hvs j v hj))
        (fun j hj => by rw [hWc]; exact hNs _ (by simp at hj; omega)) (fun j hj => by rw [hWf]; exact hNf _) h1v
    have hG63 : G ≤ 9223372036854775807 := by
      have := grownCap_le_maxLen w (n + 1) c 9 (by unfold maxLen; omega)
      rw [← hG] at this
      unfold maxLen at this
      omega
    have hgN : g ≠ w.heap.size := by omega
    have hcpB : ∀ (W : World), (∀ x, W.cell? x = (W1.setCells w.heap.size i [p]).cell? x) → (∀ x, W.frozen? x = (W1.setCells w.heap.size i [p]).frozen? x) → ∀ ty dc sc, (Builtin.copy_ #[54, 54] ty #[.slice (some ⟨w.heap.size, i + 1, none⟩) (n - i) dc, .slice (some ⟨g, i, none⟩) (n - i) sc]).run Try.prog W = .ok (goInt (xs.drop i).length) (W.setCells w.heap.size (i + 1) (xs.drop i)) := fun W hWc hWf ty dc sc =>
      run_copy_cells W _ _ ty 9 w.heap.size (i + 1) (n - i) dc ⟨g, i, none⟩ (n - i) sc (xs.drop i) ht hzz (by rw [hdl]; simp only [Nat.min_def]; split <;> omega)
        (fun j v hj => by
          rw [Addr.add_lit, hWc, World.cell?_setCells_out _ _ _ _ _ (fun h _ => absurd h hgN)]
          have := hcs (i + j) v (by rwa [List.getElem?_drop] at hj)
          rw [Nat.zero_add] at this
          exact hOb _ v this)
        (fun j hj => by rw [hWc]; exact isSome_setCells _ _ _ _ (fun t ht => hNs _ (by simp at ht; omega)) _ (hNs _ (by omega)))
        (fun j hj => by rw [hWf, World.frozen?_setCells]; exact hNf _) (fun v hv => h1 v (List.mem_of_mem_drop hv))
    have FIN : ∀ W2 : World, W2 = (((w.alloc (.cells ROW 9)).drew.setCells w.heap.size i [p]).drew).setCells w.heap.size (i + 1) (xs.drop i) → ∃ v', (Ending.returned (.slice (some ⟨w.heap.size, 0, none⟩) (n + 1) G)) = .returned v' ∧ W2.ownsRow N 9 1 v' (n + 1) (xs.take i ++ [p] ++ xs.drop i) ∧ w.grownBy W2 (some g) := fun W2 hW2 => by
      refine ⟨_, rfl, ?_, ?_⟩
      · obtain ⟨c1, q1, q2, q3⟩ := heap_cells_put w.heap.size 9 [p] i (w.alloc (.cells ROW 9)).drew ROW (World.alloc_heap_new w _)
        obtain ⟨c2, r1, r2, r3⟩ := heap_cells_put w.heap.size 9 (xs.drop i) (i + 1) ((w.alloc (.cells ROW 9)).drew.setCells w.heap.size i [p]).drew c1 q1
        rw [hW2]
        refine ⟨by simp [hxl]; omega, .inr ⟨w.heap.size, G, c2, rfl, hNw, r1, hGn, hG63, by rw [r2, q2, hRs]; omega, ?_⟩⟩
        rw [Nat.mul_one]
        refine take_mid (cur := cur.toList) (i := i) hxs (by omega) (by rw [Array.length_toList]; omega) (fun k hk => ?_)
        rw [r3 k (by omega)]
        by_cases k1 : k < i
        · rw [if_pos k1, if_neg (by omega), q3 k (by omega), if_neg (by omega), hRt k k1]
        · rw [if_neg k1]
          by_cases k2 : k = i
          · rw [if_pos k2, if_neg (by omega), q3 k (by omega), if_pos ⟨by omega, by simp; omega⟩, k2, Nat.sub_self]; rfl
          · rw [if_neg k2, if_pos ⟨by omega, by rw [hdl]; omega⟩, List.getElem?_drop, show i + (k - (i + 1)) = k - 1 by omega]
      · rw [hW2]
        exact grown_cells_put w.heap.size (fun k hk _ e => by omega) _ _ _ (grown_drew (grown_cells_put w.heap.size (fun k hk _ e => by omega) _ _ _ (grown_drew ⟨rfl, rfl, rfl, by simp, fun k hk _ => Below.heap_alloc _ _ _ hk⟩)))
    have HF := hid FIN
    have hGi : ¬ (G = i) := by omega
    have hGim : ¬ (G = i + 1) := by omega
    have hci : ¬ (c = i) := by omega
    have hz3 : (c : Int) < (n : Int) + 1 := by omega
    subst hW1
    have hE1 : ∀ x, ((w.alloc (.cells ROW 9)).drew).cell? x = (w.drew.alloc (.cells ROW 9)).cell? x := fun x => rfl
    have hE2 : ∀ x, ((w.alloc (.cells ROW 9)).drew).frozen? x = (w.drew.alloc (.cells ROW 9)).frozen? x := fun x => rfl
    have hF1 : ∀ x, (((w.alloc (.cells ROW 9)).drew.setCells w.heap.size i [p]).drew).cell? x = ((w.drew.alloc (.cells ROW 9)).setCells w.heap.size i [p]).cell? x := fun x => rfl
    have hF2 : ∀ x, (((w.alloc (.cells ROW 9)).drew.setCells w.heap.size i [p]).drew).frozen? x = ((w.drew.alloc (.cells ROW 9)).setCells w.heap.size i [p]).frozen? x := fun x => rfl
    have HRZ := hid hrz
    have HCA := hid (fun ty dc => hcpA _ hE1 hE2 ty dc)
    have HCB := hid (fun ty dc sc => hcpB _ hF1 hF2 ty dc sc)
    subst hceq
    clear FIN hkk hik hold hROW hG hRt hRs hNew hNs hNf hOb hOv hsz hxs hg hb hN hNw hcs hvs h1 h1v hE1 hE2 hF1 hF2 hcpA hcpB hrz hz3 hi0 hz0 hzs hzb hzz ht ht3 hroom hgl hbl hxl hdl
    go_enter Try.func84, Try.ntmps84
    go_wp2_with (at_builtin; refine Lib.wpList_append_run _ rfl _ _ _ _ rfl (.slice (some ⟨g, 0, none⟩) i c) (.int .i64 ((c : Int) + 1 - (i : Int))) rfl rfl _ _ (unhid HRZ _) ?_; clear HRZ; have hcA := unhid HCA; clear HCA; go_wp2_with (simp only [hcA]); clear hcA)
    have HCB1 := hid (unhid HCB 3 (G - (i + 1)) (c - i))
    clear HCB
    go_region_law_o (refine step_copy_runI rfl _ _ 54 54 rfl (.slice (some ⟨w.heap.size, i + 1, none⟩) (c - i) (G - (i + 1))) (.slice (some ⟨g, i, none⟩) (c - i) (c - i)) (by simp [Act.eval, Act.put]) (by simp [Act.eval, Act.put]) (unhid HCB1) ?_)
    go_wp2
    go_ret
    obtain ⟨v', e1, e2, e3⟩ := unhid HF _ rfl
    cases e1
    exact ⟨_, rfl, e2, e3⟩

set_option maxHeartbeats 4000000 in
set_option maxRecDepth 100000 in
theorem InsertN_mid (N n c i g b : Nat) (cur : Array Value) (xs : List Value) (p : Value) (hp : p.oneCell' = true) (w : World) (hi : i < n) (hnc : n ≤ c) (hc63 : c ≤ maxLen) (hn : n ≤ 1000) (hN : N ≤ g) (hNw : N ≤ w.heap.size) (hg : w.heap[g]? = some (.cells cur 63 (0, 0))) (hsz : cur.size = c) (hxs : cur.toList.take n = xs) (hbg : b ≠ g) (hb : w.heap[b]? = some (.cells #[p] 63 (0, 0))) (h1 : ∀ v ∈ xs, v.oneCell' = true) :
    Calls Try.prog 85 #[.slice (some ⟨g, 0, .none⟩) n c, .int .i64 i, .slice (some ⟨b, 0, .none⟩) 1 1] w fun x w' => ∃ v', x = .returned v' ∧ w'.ownsRow N 63 1 v' (n + 1) (xs.take i ++ [p] ++ xs.drop i) ∧ w.grownBy w' (some g) := by
  have hxl : xs.length = n := by rw [← hxs, List.length_take, Array.length_toList]; omega
  have hcs : ∀ j v, xs[j]? = some v → w.cell? ⟨g, 0 + j, none⟩ = some v := fun j v hj => by
    have hjn : j < n := by rw [← hxl]; exact (List.getElem?_eq_some_iff.1 hj).1
    rw [← hxs, List.getElem?_take_of_lt hjn, Array.getElem?_toList] at hj
    rw [Nat.zero_add]
    simp [World.cell?, hg, hj]
  have hvs : ∀ j v, [p][j]? = some v → w.cell? ⟨b, 0 + j, none⟩ = some v := fun j v hj => by
    match j with
    | 0 => simp at hj; subst hj; simp [World.cell?, hb]
    | j + 1 => simp at hj
  have h1v : ∀ v ∈ [p], v.oneCell' = true := fun v hv => by simp at hv; subst hv; exact hp
  have ht := Try.underlying55
  have ht3 := Try.underlying3
  obtain ⟨i0, hi0, hz0, hzs, hzb⟩ := info_parts infoNode
  have hzz : (Try.prog.info? 63).map (·.size) = some 1 := by rw [hi0]; simp [hzs]
  have hdl : (xs.drop i).length = n - i := by rw [List.length_drop, hxl]
  have hgl : g < w.heap.size := (Array.getElem?_eq_some_iff.1 hg).1
  have hbl : b < w.heap.size := (Array.getElem?_eq_some_iff.1 hb).1
  unfold maxLen at hc63
  have mixed : Try.prog.follows .mixedOrders = true := by kernel_rfl
  have hw1 : IntKind.i64.wrap ((i : Int) + 1) = (i : Int) + 1 := by rw [IntKind.wrap_i64]; omega
  have hw2 : IntKind.i64.wrap ((n : Int) + 1) = (n : Int) + 1 := by rw [IntKind.wrap_i64]; omega
  have hz2 : ¬ ((i : Int) = (n : Int)) := by omega
  have htn : ((i : Int) + 1).toNat = i + 1 := by omega
  have hin : i ≤ n := by omega
  have hb1 : (0 : Int) ≤ (i : Int) + 1 := by omega
  have hb3 : (i : Int) ≤ (n : Int) + 1 := by omega
  by_cases hroom : n + 1 ≤ c
  · have hsp : ∀ j, j < n + 1 → (w.cell? ⟨g, 0 + j, none⟩).isSome = true := fun j hj => by
      rw [Nat.zero_add]; simp [World.cell?, hg]; omega
    have hfz : ∀ j, w.frozen? ⟨g, j, none⟩ = false := fun j => by simp [World.frozen?, hg]
    have hov : ∀ lb cb, (callFunc 111 #[.slice (some ⟨b, 0, none⟩) 1 1, .slice (some ⟨g, i + 1, none⟩) lb cb]).run Try.prog w = .ok (.value (.bool false)) w := fun lb cb => by
      rw [run_callFunc_extern Try.func111 (by kernel_rfl) (by kernel_rfl) (by kernel_rfl) (e := Extern.SlicesOverlaps.overlaps #[55, 55] #[4]) (by kernel_rfl),
        Lib.run_overlaps_apart w 55 4 63 ht 1 (fun w => by kernel_rfl) ⟨b, 0, none⟩ ⟨g, i + 1, none⟩ 1 1 lb cb hbg 63 63 1 c (by simp [World.shape?, hb]) (by simp [World.shape?, hg, hsz]) (by omega) (by simp [World.frozen?, hb]) (by simp [World.frozen?, hb])]
      rfl
    have hcp1 : ∀ ty dc sc, (Builtin.copy_ #[55, 55] ty #[.slice (some ⟨g, i + 1, none⟩) (n - i) dc, .slice (some ⟨g, i, none⟩) (n + 1 - i) sc]).run Try.prog w.drew = .ok (goInt (xs.drop i).length) (w.drew.setCells g (i + 1) (xs.drop i)) := fun ty dc sc =>
      run_copy_cells w.drew _ _ ty 63 g (i + 1) (n - i) dc ⟨g, i, none⟩ (n + 1 - i) sc (xs.drop i) ht hzz (by rw [hdl]; simp only [Nat.min_def]; split <;> omega)
        (fun j v hj => by rw [Addr.add_lit]; have := hcs (i + j) v (by rwa [List.getElem?_drop] at hj); rwa [Nat.zero_add] at this)
        (fun j hj => by have := hsp (i + 1 + j) (by omega); rwa [Nat.zero_add] at this) (fun j hj => hfz _) (fun v hv => h1 v (List.mem_of_mem_drop hv))
    obtain ⟨W1, hW1⟩ : ∃ W1, W1 = w.drew.setCells g (i + 1) (xs.drop i) := ⟨_, rfl⟩
    have hsp1 : ∀ k, k < n + 1 → (W1.cell? ⟨g, k, none⟩).isSome = true := fun k hk => by
      rw [hW1]
      exact isSome_setCells g _ _ _ (fun j hj => by have := hsp (i + 1 + j) (by omega); rwa [Nat.zero_add] at this) _ (by have := hsp k hk; rwa [Nat.zero_add] at this)
    have hcp2 : ∀ (W : World), (∀ x, W.cell? x = W1.cell? x) → (∀ x, W.frozen? x = W1.frozen? x) → ∀ ty dc, (Builtin.copy_ #[55, 55] ty #[.slice (some ⟨g, i, none⟩) (n + 1 - i) dc, .slice (some ⟨b, 0, none⟩) 1 1]).run Try.prog W = .ok (goInt [p].length) (W.setCells g i [p]) := fun W hWc hWf ty dc =>
      run_copy_cells W _ _ ty 63 g i (n + 1 - i) dc ⟨b, 0, none⟩ 1 1 [p] ht hzz (by simp only [Nat.min_def, List.length_singleton]; split <;> omega)
        (fun j v hj => by
          rw [Addr.add_lit, hWc, hW1, World.cell?_setCells_out g _ _ _ _ (fun h _ => absurd h hbg)]
          exact hvs j v hj)
        (fun j hj => by rw [hWc]; exact hsp1 _ (by simp at hj; omega)) (fun j hj => by rw [hWf, hW1, World.frozen?_setCells]; exact hfz _) h1v
    rw [← hW1] at hcp1
    have FIN : ∃ v', (Ending.returned (.slice (some ⟨g, 0, none⟩) (n + 1) c)) = .returned v' ∧ (W1.setCells g i [p]).ownsRow N 63 1 v' (n + 1) (xs.take i ++ [p] ++ xs.drop i) ∧ w.grownBy (W1.setCells g i [p]) (some g) := by
      refine ⟨_, rfl, ?_, ?_⟩
      · obtain ⟨c1, q1, q2, q3⟩ := heap_cells_put g 63 (xs.drop i) (i + 1) w.drew cur hg
        rw [← hW1] at q1
        obtain ⟨c2, r1, r2, r3⟩ := heap_cells_put g 63 [p] i W1 c1 q1
        refine ⟨by simp [hxl]; omega, .inr ⟨g, c, c2, rfl, hN, r1, hroom, hc63, by rw [r2, q2, hsz]; omega, ?_⟩⟩
        rw [Nat.mul_one]
        refine take_mid (cur := cur.toList) (i := i) hxs (by omega) (by rw [Array.length_toList]; omega) (fun k hk => ?_)
        rw [r3 k (by omega)]
        by_cases k1 : k < i
        · rw [if_pos k1, if_neg (by omega), q3 k (by omega), if_neg (by omega), ← hxs, List.getElem?_take_of_lt (by omega), Array.getElem?_toList]
        · rw [if_neg k1]
          by_cases k2 : k = i
          · rw [if_pos k2, if_pos ⟨by omega, by simp; omega⟩, k2, Nat.sub_self]; rfl
          · rw [if_neg k2, if_neg (by simp; omega), q3 k (by omega), if_pos ⟨by omega, by rw [hdl]; omega⟩, List.getElem?_drop, show i + (k - (i + 1)) = k - 1 by omega]
      · rw [hW1]
        exact grown_cells_put g (fun k _ hk e => hk (by rw [e])) _ _ _ (grown_cells_put g (fun k _ hk e => hk (by rw [e])) _ _ _ (grown_drew (grown_refl _ _)))
    have HF := hid FIN
    have hz3 : ¬ ((c : Int) < (n : Int) + 1) := by omega
    have hb2 : ¬ (c = i + 1) := by omega
    have hb4 : ¬ (c = i) := by omega
    clear FIN hsz hxs hg hb hN hNw hcs hvs h1 h1v
    go_enter Try.func85, Try.ntmps85
    go_wp2_with (simp only [hov])
    go_region_law_o (refine step_copy_runI rfl _ _ 55 55 rfl _ _ (by simp [Act.eval, Act.put]) (by simp [Act.eval, Act.put]) (hcp1 _ _ _) ?_)
    go_wp2_with (at_builtin; refine wpList_copy_runI _ rfl _ _ 55 55 rfl _ _ rfl rfl (hcp2 _ (fun _ => rfl) (fun _ => rfl) _ _) ?_)
    go_ret
    obtain ⟨v', e1, e2, e3⟩ := unhid HF
    cases e1
    rw [hW1] at e2 e3
    exact ⟨_, rfl, e2, e3⟩
  · have hceq : c = n := by omega
    have hkk : (n : Int) + 1 - (i : Int) = ((n + 1 - i : Nat) : Int) := by omega
    have hik : i + (n + 1 - i) = n + 1 := by omega
    have hold : (Builtin.firstCells i0.size i (.slice (some ⟨g, 0, none⟩) i c)).run Try.prog w.drew = .ok (xs.take i).toArray w.drew := by
      rw [hzs]
      exact run_firstCells_some w.drew 1 i ⟨g, 0, none⟩ i c (xs.take i) (by rw [List.length_take]; omega) (fun j v hj => by
        rw [Addr.add_lit]
        rw [List.getElem?_take] at hj
        split at hj
        · exact hcs j v hj
        · cases hj)
    have hrz : ∀ ty, (Builtin.append_ #[55, 3] ty #[.slice (some ⟨g, 0, none⟩) i c, .int .i64 ((n : Int) + 1 - (i : Int))]).run Try.prog w =
        .ok (.slice (some ⟨w.heap.size, 0, none⟩) (n + 1) (grownCap w (n + 1) c 63)) (w.drew.alloc (.cells ((xs.take i).toArray ++ Builtin.zeroCells (Value.nilIface).cells (n + 1 - i) ++ Builtin.zeroCells (Value.nilIface).cells (grownCap w (n + 1) c 63 - (n + 1))) 63)) := fun ty => by
      have h := Lib.run_append_grow_zeros w 55 3 ty 63 i0 _ .i64 .i64 ht ht3 hi0 hz0 (some ⟨g, 0, none⟩) i c (xs.take i) hold (n + 1 - i) (by omega) (by omega) (by omega) (by omega) (by rw [hzb]; omega) (by rw [hzb, hik]; exact growslice_fits (by omega) (by omega))
      rw [hik] at h
      rw [hkk]
      exact h
    obtain ⟨G, hG⟩ : ∃ G, G = grownCap w (n + 1) c 63 := ⟨_, rfl⟩
    obtain ⟨ROW, hROW⟩ : ∃ ROW : Array Value, ROW = (xs.take i).toArray ++ Builtin.zeroCells (Value.nilIface).cells (n + 1 - i) ++ Builtin.zeroCells (Value.nilIface).cells (G - (n + 1)) := ⟨_, rfl⟩
    rw [← hG, ← hROW] at hrz
    have hGn : n + 1 ≤ G := by rw [hG]; exact grownCap_ge w _ _ _
    have hRs : ROW.size = G := by
      rw [hROW]
      simp [Builtin.zeroCells, Value.cells, hxl]
      omega
    have hRt : ∀ k, k < i → ROW[k]? = xs[k]? := fun k hk => by
      rw [hROW, Array.append_assoc, Array.getElem?_append_left (by simp [hxl]; omega)]
      simp [List.getElem?_take_of_lt hk]
    obtain ⟨W1, hW1⟩ : ∃ W1, W1 = w.drew.alloc (.cells ROW 63) := ⟨_, rfl⟩
    rw [← hW1] at hrz
    have hNew : W1.heap[w.heap.size]? = some (.cells ROW 63 (0, 0)) := by rw [hW1]; exact World.alloc_heap_new w.drew _
    have hNs : ∀ j, j < n + 1 → (W1.cell? ⟨w.heap.size, j, none⟩).isSome = true := fun j hj => by
      simp [World.cell?, hNew]; omega
    have hNf : ∀ j, W1.frozen? ⟨w.heap.size, j, none⟩ = false := fun j => by simp [World.frozen?, hNew]
    have hOb : ∀ j v, w.cell? ⟨g, j, none⟩ = some v → W1.cell? ⟨g, j, none⟩ = some v := fun j v h => by rw [hW1, World.cell?_alloc_past (w := w.drew) _ g j hgl]; exact h
    have hOv : ∀ j v, w.cell? ⟨b, j, none⟩ = some v → W1.cell? ⟨b, j, none⟩ = some v := fun j v h => by rw [hW1, World.cell?_alloc_past (w := w.drew) _ b j hbl]; exact h
    have hcpA : ∀ (W : World), (∀ x, W.cell? x = W1.cell? x) → (∀ x, W.frozen? x = W1.frozen? x) → ∀ ty dc, (Builtin.copy_ #[55, 55] ty #[.slice (some ⟨w.heap.size, i, none⟩) (n + 1 - i) dc, .slice (some ⟨b, 0, none⟩) 1 1]).run Try.prog W = .ok (goInt [p].length) (W.setCells w.heap.size i [p]) := fun W hWc hWf ty dc =>
      run_copy_cells W _ _ ty 63 w.heap.size i (n + 1 - i) dc ⟨b, 0, none⟩ 1 1 [p] ht hzz (by simp only [Nat.min_def, List.length_singleton]; split <;> omega)
        (fun j v hj => by rw [Addr.add_lit, hWc]; exact hOv _ v (hvs j v hj))
        (fun j hj => by rw [hWc]; exact hNs _ (by simp at hj; omega)) (fun j hj => by rw [hWf]; exact hNf _) h1v
    have hG63 : G ≤ 9223372036854775807 := by
      have := grownCap_le_maxLen w (n + 1) c 63 (by unfold maxLen; omega)
      rw [← hG] at this
      unfold maxLen at this
      omega
    have hgN : g ≠ w.heap.size := by omega
    have hcpB : ∀ (W : World), (∀ x, W.cell? x = (W1.setCells w.heap.size i [p]).cell? x) → (∀ x, W.frozen? x = (W1.setCells w.heap.size i [p]).frozen? x) → ∀ ty dc sc, (Builtin.copy_ #[55, 55] ty #[.slice (some ⟨w.heap.size, i + 1, none⟩) (n - i) dc, .slice (some ⟨g, i, none⟩) (n - i) sc]).run Try.prog W = .ok (goInt (xs.drop i).length) (W.setCells w.heap.size (i + 1) (xs.drop i)) := fun W hWc hWf ty dc sc =>
      run_copy_cells W _ _ ty 63 w.heap.size (i + 1) (n - i) dc ⟨g, i, none⟩ (n - i) sc (xs.drop i) ht hzz (by rw [hdl]; simp only [Nat.min_def]; split <;> omega)
        (fun j v hj => by
          rw [Addr.add_lit, hWc, World.cell?_setCells_out _ _ _ _ _ (fun h _ => absurd h hgN)]
          have := hcs (i + j) v (by rwa [List.getElem?_drop] at hj)
          rw [Nat.zero_add] at this
          exact hOb _ v this)
        (fun j hj => by rw [hWc]; exact isSome_setCells _ _ _ _ (fun t ht => hNs _ (by simp at ht; omega)) _ (hNs _ (by omega)))
        (fun j hj => by rw [hWf, World.frozen?_setCells]; exact hNf _) (fun v hv => h1 v (List.mem_of_mem_drop hv))
    have FIN : ∀ W2 : World, W2 = (((w.alloc (.cells ROW 63)).drew.setCells w.heap.size i [p]).drew).setCells w.heap.size (i + 1) (xs.drop i) → ∃ v', (Ending.returned (.slice (some ⟨w.heap.size, 0, none⟩) (n + 1) G)) = .returned v' ∧ W2.ownsRow N 63 1 v' (n + 1) (xs.take i ++ [p] ++ xs.drop i) ∧ w.grownBy W2 (some g) := fun W2 hW2 => by
      refine ⟨_, rfl, ?_, ?_⟩
      · obtain ⟨c1, q1, q2, q3⟩ := heap_cells_put w.heap.size 63 [p] i (w.alloc (.cells ROW 63)).drew ROW (World.alloc_heap_new w _)
        obtain ⟨c2, r1, r2, r3⟩ := heap_cells_put w.heap.size 63 (xs.drop i) (i + 1) ((w.alloc (.cells ROW 63)).drew.setCells w.heap.size i [p]).drew c1 q1
        rw [hW2]
        refine ⟨by simp [hxl]; omega, .inr ⟨w.heap.size, G, c2, rfl, hNw, r1, hGn, hG63, by rw [r2, q2, hRs]; omega, ?_⟩⟩
        rw [Nat.mul_one]
        refine take_mid (cur := cur.toList) (i := i) hxs (by omega) (by rw [Array.length_toList]; omega) (fun k hk => ?_)
        rw [r3 k (by omega)]
        by_cases k1 : k < i
        · rw [if_pos k1, if_neg (by omega), q3 k (by omega), if_neg (by omega), hRt k k1]
        · rw [if_neg k1]
          by_cases k2 : k = i
          · rw [if_pos k2, if_neg (by omega), q3 k (by omega), if_pos ⟨by omega, by simp; omega⟩, k2, Nat.sub_self]; rfl
          · rw [if_neg k2, if_pos ⟨by omega, by rw [hdl]; omega⟩, List.getElem?_drop, show i + (k - (i + 1)) = k - 1 by omega]
      · rw [hW2]
        exact grown_cells_put w.heap.size (fun k hk _ e => by omega) _ _ _ (grown_drew (grown_cells_put w.heap.size (fun k hk _ e => by omega) _ _ _ (grown_drew ⟨rfl, rfl, rfl, by simp, fun k hk _ => Below.heap_alloc _ _ _ hk⟩)))
    have HF := hid FIN
    have hGi : ¬ (G = i) := by omega
    have hGim : ¬ (G = i + 1) := by omega
    have hci : ¬ (c = i) := by omega
    have hz3 : (c : Int) < (n : Int) + 1 := by omega
    subst hW1
    have hE1 : ∀ x, ((w.alloc (.cells ROW 63)).drew).cell? x = (w.drew.alloc (.cells ROW 63)).cell? x := fun x => rfl
    have hE2 : ∀ x, ((w.alloc (.cells ROW 63)).drew).frozen? x = (w.drew.alloc (.cells ROW 63)).frozen? x := fun x => rfl
    have hF1 : ∀ x, (((w.alloc (.cells ROW 63)).drew.setCells w.heap.size i [p]).drew).cell? x = ((w.drew.alloc (.cells ROW 63)).setCells w.heap.size i [p]).cell? x := fun x => rfl
    have hF2 : ∀ x, (((w.alloc (.cells ROW 63)).drew.setCells w.heap.size i [p]).drew).frozen? x = ((w.drew.alloc (.cells ROW 63)).setCells w.heap.size i [p]).frozen? x := fun x => rfl
    have HRZ := hid hrz
    have HCA := hid (fun ty dc => hcpA _ hE1 hE2 ty dc)
    have HCB := hid (fun ty dc sc => hcpB _ hF1 hF2 ty dc sc)
    subst hceq
    clear FIN hkk hik hold hROW hG hRt hRs hNew hNs hNf hOb hOv hsz hxs hg hb hN hNw hcs hvs h1 h1v hE1 hE2 hF1 hF2 hcpA hcpB hrz hz3 hi0 hz0 hzs hzb hzz ht ht3 hroom hgl hbl hxl hdl
    go_enter Try.func85, Try.ntmps85
    go_wp2_with (at_builtin; refine Lib.wpList_append_run _ rfl _ _ _ _ rfl (.slice (some ⟨g, 0, none⟩) i c) (.int .i64 ((c : Int) + 1 - (i : Int))) rfl rfl _ _ (unhid HRZ _) ?_; clear HRZ; have hcA := unhid HCA; clear HCA; go_wp2_with (simp only [hcA]); clear hcA)
    have HCB1 := hid (unhid HCB 3 (G - (i + 1)) (c - i))
    clear HCB
    go_region_law_o (refine step_copy_runI rfl _ _ 55 55 rfl (.slice (some ⟨w.heap.size, i + 1, none⟩) (c - i) (G - (i + 1))) (.slice (some ⟨g, i, none⟩) (c - i) (c - i)) (by simp [Act.eval, Act.put]) (by simp [Act.eval, Act.put]) (unhid HCB1) ?_)
    go_wp2
    go_ret
    obtain ⟨v', e1, e2, e3⟩ := unhid HF _ rfl
    cases e1
    exact ⟨_, rfl, e2, e3⟩

theorem InsertS_any (N n i b : Nat) (v : Value) (xs : List Value) (p : ByteArray) (w : World) (hi : i ≤ n) (hn : n ≤ 1000) (hNw : N ≤ w.heap.size) (h : w.ownsRow N 9 1 v n xs) (hbo : v.ownBlock ≠ some b) (hb : w.heap[b]? = some (.cells #[.string p] 9 (0, 0))) (h1 : ∀ v ∈ xs, v.oneCell' = true) :
    Calls Try.prog 84 #[v, .int .i64 i, .slice (some ⟨b, 0, .none⟩) 1 1] w fun x w' => ∃ v', x = .returned v' ∧ w'.ownsRow N 9 1 v' (n + 1) (xs.take i ++ [.string p] ++ xs.drop i) ∧ w.grownBy w' v.ownBlock := by
  by_cases hin : i = n
  · subst hin
    have hxl : xs.length = i := by have := h.1; omega
    rw [List.take_of_length_le (by omega), List.drop_of_length_le (by omega), List.append_nil]
    exact InsertS_end N v i xs b p w hn hNw h (by simp [World.cell?, hb])
  · rcases h.2 with ⟨rfl, h0⟩ | ⟨g, cap, cur, rfl, hg0, hg, hc, hm, hsz, hcells⟩
    · omega
    · exact InsertS_mid N n cap i g b cur xs (.string p) rfl w (by omega) hc hm hn hg0 hNw hg (by omega) (by rw [← hcells, Nat.mul_one]) (fun e => hbo (by rw [e]; rfl)) hb h1

theorem InsertN_any (N n i b : Nat) (v : Value) (xs : List Value) (e : Ent) (w : World) (hi : i ≤ n) (hn : n ≤ 1000) (hNw : N ≤ w.heap.size) (h : w.ownsRow N 63 1 v n xs) (hbo : v.ownBlock ≠ some b) (hb : w.heap[b]? = some (.cells #[nodeV e] 63 (0, 0))) (h1 : ∀ v ∈ xs, v.oneCell' = true) :
    Calls Try.prog 85 #[v, .int .i64 i, .slice (some ⟨b, 0, .none⟩) 1 1] w fun x w' => ∃ v', x = .returned v' ∧ w'.ownsRow N 63 1 v' (n + 1) (xs.take i ++ [nodeV e] ++ xs.drop i) ∧ w.grownBy w' v.ownBlock := by
  by_cases hin : i = n
  · subst hin
    have hxl : xs.length = i := by have := h.1; omega
    rw [List.take_of_length_le (by omega), List.drop_of_length_le (by omega), List.append_nil]
    exact InsertN_end N v i xs b e w hn hNw h (by simp [World.cell?, hb])
  · rcases h.2 with ⟨rfl, h0⟩ | ⟨g, cap, cur, rfl, hg0, hg, hc, hm, hsz, hcells⟩
    · omega
    · exact InsertN_mid N n cap i g b cur xs (nodeV e) (nodeV_one e) w (by omega) hc hm hn hg0 hNw hg (by omega) (by rw [← hcells, Nat.mul_one]) (fun e => hbo (by rw [e]; rfl)) hb h1
end Go.Proofs.Ytlnehebihfeegaa
