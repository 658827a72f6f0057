/- Texts of this proof, one behind the other; each says at its head what it shows. -/
import Derived.Test.YtoihhlkidlapmaaGreatJoin2
import Derived.Shelf.Spec.SlicesInsertGrow
import Derived.Test.YtoihhlkidlapmaaGreatJoin3
import Derived.Deep.RegionHeld
import Derived.Maps.AppendAt
import Derived.Test.YtoihhlkidlapmaaGreatJoin1
/- The library's Insert in the midst of a row: of texts, and of what stands at paths. -/
namespace Go.Proofs.YtoihhlkidlapmaaGreat
open Go.RowKit Go.Shelf Go.Lib

theorem heap_cells_put (g : Nat) (t : TypeId) : ∀ (vs : List Value) (o : Nat) (w : World) (cs : Array Value), w.heap[g]? = some (.cells cs t (0, 0)) →
    ∃ cs' : Array Value, (w.setCells g o vs).heap[g]? = some (.cells cs' t (0, 0)) ∧ cs'.size = cs.size ∧ ∀ k, k < cs.size → cs'[k]? = if o ≤ k ∧ k < o + vs.length then vs[k - o]? else cs[k]?
  | [], o, w, cs, h => ⟨cs, h, rfl, fun k _ => by rw [if_neg (by rintro ⟨h1, h2⟩; simp at h2; omega)]⟩
  | v :: r, o, w, cs, h => by
    obtain ⟨cs', h1, h2, h3⟩ := heap_cells_put g t r (o + 1) (w.setCell ⟨g, o, none⟩ v) _ (heap_setCell_same w g o cs t v h)
    refine ⟨cs', h1, by rw [h2]; simp, fun k hk => ?_⟩
    rw [h3 k (by simpa using hk)]
    by_cases hin : o + 1 ≤ k ∧ k < o + 1 + r.length
    · rw [if_pos hin, if_pos ⟨by omega, by simp; omega⟩, show k - o = (k - (o + 1)) + 1 by omega, List.getElem?_cons_succ]
    · rw [if_neg hin]
      by_cases he : k = o
      · subst he
        rw [if_pos ⟨Nat.le_refl _, by simp⟩, Nat.sub_self]
        simp [hk]
      · rw [if_neg (by simp; omega)]
        rw [Array.getElem?_setIfInBounds_ne (fun e : o = k => he e.symm)]
theorem grown_cells_put (g : Nat) {w0 : World} {row : Option Nat} (hg : ∀ k, k < w0.heap.size → some k ≠ row → k ≠ g) : ∀ (vs : List Value) (o : Nat) (w : World), w0.grownBy w row → w0.grownBy (w.setCells g o vs) row
  | [], _, _, h => h
  | v :: r, o, w, h => grown_cells_put g hg r (o + 1) _ ⟨h.os, h.tape, h.output, by simpa using h.size, fun k hk hne => (heap_setCell_other w ⟨g, o, none⟩ k v (hg k hk hne)).trans (h.block k hk hne)⟩
theorem grown_drew {w0 w : World} {row : Option Nat} (h : w0.grownBy w row) : w0.grownBy w.drew row := ⟨h.os, h.tape, h.output, h.size, h.block⟩
theorem grown_refl (w : World) (row : Option Nat) : w.grownBy w row := ⟨rfl, rfl, rfl, Nat.le_refl _, fun _ _ _ => rfl⟩
theorem take_mid {cur : List Value} {xs : List Value} {n i : Nat} {p : Value} {cs : Array Value} (hx : cur.take n = xs) (hi : i ≤ n) (hl : n ≤ cur.length)
    (h : ∀ k, k < n + 1 → cs[k]? = if k < i then xs[k]? else if k = i then some p else xs[k - 1]?) : cs.toList.take (n + 1) = xs.take i ++ [p] ++ xs.drop i := by
  have hxl : xs.length = n := by rw [← hx, List.length_take]; omega
  apply List.ext_getElem?
  intro k
  rw [List.getElem?_take]
  by_cases hk : k < n + 1
  · rw [if_pos hk, Array.getElem?_toList, h k hk, List.append_assoc, List.getElem?_append, List.length_take, Nat.min_eq_left (by omega)]
    by_cases h1 : k < i
    · rw [if_pos h1, if_pos h1, List.getElem?_take_of_lt h1]
    · rw [if_neg h1, if_neg h1]
      by_cases h2 : k = i
      · rw [if_pos h2, h2, Nat.sub_self]; rfl
      · rw [if_neg h2, show k - i = (k - 1 - i) + 1 by omega, List.singleton_append, List.getElem?_cons_succ, List.getElem?_drop, show i + (k - 1 - i) = k - 1 by omega]
  · rw [if_neg hk, List.getElem?_eq_none]
    simp; omega

set_option maxHeartbeats 4000000 in
set_option maxRecDepth 100000 in
theorem InsertS_mid (N n c i g b : Nat) (cur : Array Value) (xs : List Value) (p : Value) (hp : p.oneCell' = true) (w : World) (hi : i < n) (hnc : n ≤ c) (hc63 : c ≤ maxLen) (hn : n ≤ 1000) (hN : N ≤ g) (hNw : N ≤ w.heap.size) (hg : w.heap[g]? = some (.cells cur 9 (0, 0))) (hsz : cur.size = c) (hxs : cur.toList.take n = xs) (hbg : b ≠ g) (hb : w.heap[b]? = some (.cells #[p] 9 (0, 0))) (h1 : ∀ v ∈ xs, v.oneCell' = true) :
    Calls Tryz.prog 234 #[.slice (some ⟨g, 0, .none⟩) n c, .int .i64 i, .slice (some ⟨b, 0, .none⟩) 1 1] w fun x w' => ∃ v', x = .returned v' ∧ w'.ownsRow N 9 1 v' (n + 1) (xs.take i ++ [p] ++ xs.drop i) ∧ w.grownBy w' (some g) ∧ (v'.ownBlock = some g ∨ v'.ownBlock = some w.heap.size) := by
  have hxl : xs.length = n := by rw [← hxs, List.length_take, Array.length_toList]; omega
  have hcs : ∀ j v, xs[j]? = some v → w.cell? ⟨g, 0 + j, none⟩ = some v := fun j v hj => by
    have hjn : j < n := by rw [← hxl]; exact (List.getElem?_eq_some_iff.1 hj).1
    rw [← hxs, List.getElem?_take_of_lt hjn, Array.getElem?_toList] at hj
    rw [Nat.zero_add]
    simp [World.cell?, hg, hj]
  have hvs : ∀ j v, [p][j]? = some v → w.cell? ⟨b, 0 + j, none⟩ = some v := fun j v hj => by
    match j with
    | 0 => simp at hj; subst hj; simp [World.cell?, hb]
    | j + 1 => simp at hj
  have h1v : ∀ v ∈ [p], v.oneCell' = true := fun v hv => by simp at hv; subst hv; exact hp
  have ht := Tryz.underlying24
  have ht3 := Tryz.underlying3
  obtain ⟨i0, hi0, hz0, hzs, hzb⟩ := info_parts info9
  have hzz : (Tryz.prog.info? 9).map (·.size) = some 1 := by rw [hi0]; simp [hzs]
  have hdl : (xs.drop i).length = n - i := by rw [List.length_drop, hxl]
  have hgl : g < w.heap.size := (Array.getElem?_eq_some_iff.1 hg).1
  have hbl : b < w.heap.size := (Array.getElem?_eq_some_iff.1 hb).1
  unfold maxLen at hc63
  have mixed : Tryz.prog.follows .mixedOrders = true := by kernel_rfl
  have hw1 : IntKind.i64.wrap ((i : Int) + 1) = (i : Int) + 1 := by rw [IntKind.wrap_i64]; omega
  have hw2 : IntKind.i64.wrap ((n : Int) + 1) = (n : Int) + 1 := by rw [IntKind.wrap_i64]; omega
  have hz2 : ¬ ((i : Int) = (n : Int)) := by omega
  have htn : ((i : Int) + 1).toNat = i + 1 := by omega
  have hin : i ≤ n := by omega
  have hb1 : (0 : Int) ≤ (i : Int) + 1 := by omega
  have hb3 : (i : Int) ≤ (n : Int) + 1 := by omega
  by_cases hroom : n + 1 ≤ c
  · have hsp : ∀ j, j < n + 1 → (w.cell? ⟨g, 0 + j, none⟩).isSome = true := fun j hj => by
      rw [Nat.zero_add]; simp [World.cell?, hg]; omega
    have hfz : ∀ j, w.frozen? ⟨g, j, none⟩ = false := fun j => by simp [World.frozen?, hg]
    have hov : ∀ lb cb, (callFunc 268 #[.slice (some ⟨b, 0, none⟩) 1 1, .slice (some ⟨g, i + 1, none⟩) lb cb]).run Tryz.prog w = .ok (.value (.bool false)) w := fun lb cb => by
      rw [run_callFunc_extern Tryz.func268 (by kernel_rfl) (by kernel_rfl) (by kernel_rfl) (e := Extern.SlicesOverlaps.overlaps #[24, 24] #[4]) (by kernel_rfl),
        Lib.run_overlaps_apart w 24 4 9 ht 1 (fun w => by kernel_rfl) ⟨b, 0, none⟩ ⟨g, i + 1, none⟩ 1 1 lb cb hbg 9 9 1 c (by simp [World.shape?, hb]) (by simp [World.shape?, hg, hsz]) (by omega) (by simp [World.frozen?, hb]) (by simp [World.frozen?, hb])]
      rfl
    have hcp1 : ∀ ty dc sc, (Builtin.copy_ #[24, 24] ty #[.slice (some ⟨g, i + 1, none⟩) (n - i) dc, .slice (some ⟨g, i, none⟩) (n + 1 - i) sc]).run Tryz.prog w.drew = .ok (goInt (xs.drop i).length) (w.drew.setCells g (i + 1) (xs.drop i)) := fun ty dc sc =>
      run_copy_cells w.drew _ _ ty 9 g (i + 1) (n - i) dc ⟨g, i, none⟩ (n + 1 - i) sc (xs.drop i) ht hzz (by rw [hdl]; simp only [Nat.min_def]; split <;> omega)
        (fun j v hj => by rw [Addr.add_lit]; have := hcs (i + j) v (by rwa [List.getElem?_drop] at hj); rwa [Nat.zero_add] at this)
        (fun j hj => by have := hsp (i + 1 + j) (by omega); rwa [Nat.zero_add] at this) (fun j hj => hfz _) (fun v hv => h1 v (List.mem_of_mem_drop hv))
    obtain ⟨W1, hW1⟩ : ∃ W1, W1 = w.drew.setCells g (i + 1) (xs.drop i) := ⟨_, rfl⟩
    have hsp1 : ∀ k, k < n + 1 → (W1.cell? ⟨g, k, none⟩).isSome = true := fun k hk => by
      rw [hW1]
      exact isSome_setCells g _ _ _ (fun j hj => by have := hsp (i + 1 + j) (by omega); rwa [Nat.zero_add] at this) _ (by have := hsp k hk; rwa [Nat.zero_add] at this)
    have hcp2 : ∀ (W : World), (∀ x, W.cell? x = W1.cell? x) → (∀ x, W.frozen? x = W1.frozen? x) → ∀ ty dc, (Builtin.copy_ #[24, 24] ty #[.slice (some ⟨g, i, none⟩) (n + 1 - i) dc, .slice (some ⟨b, 0, none⟩) 1 1]).run Tryz.prog W = .ok (goInt [p].length) (W.setCells g i [p]) := fun W hWc hWf ty dc =>
      run_copy_cells W _ _ ty 9 g i (n + 1 - i) dc ⟨b, 0, none⟩ 1 1 [p] ht hzz (by simp only [Nat.min_def, List.length_singleton]; split <;> omega)
        (fun j v hj => by
          rw [Addr.add_lit, hWc, hW1, World.cell?_setCells_out g _ _ _ _ (fun h _ => absurd h hbg)]
          exact hvs j v hj)
        (fun j hj => by rw [hWc]; exact hsp1 _ (by simp at hj; omega)) (fun j hj => by rw [hWf, hW1, World.frozen?_setCells]; exact hfz _) h1v
    rw [← hW1] at hcp1
    have FIN : ∃ v', (Ending.returned (.slice (some ⟨g, 0, none⟩) (n + 1) c)) = .returned v' ∧ (W1.setCells g i [p]).ownsRow N 9 1 v' (n + 1) (xs.take i ++ [p] ++ xs.drop i) ∧ w.grownBy (W1.setCells g i [p]) (some g) ∧ (v'.ownBlock = some g ∨ v'.ownBlock = some w.heap.size) := by
      refine ⟨_, rfl, ?_, ?_, .inl rfl⟩
      · obtain ⟨c1, q1, q2, q3⟩ := heap_cells_put g 9 (xs.drop i) (i + 1) w.drew cur hg
        rw [← hW1] at q1
        obtain ⟨c2, r1, r2, r3⟩ := heap_cells_put g 9 [p] i W1 c1 q1
        refine ⟨by simp [hxl]; omega, .inr ⟨g, c, c2, rfl, hN, r1, hroom, hc63, by rw [r2, q2, hsz]; omega, ?_⟩⟩
        rw [Nat.mul_one]
        refine take_mid (cur := cur.toList) (i := i) hxs (by omega) (by rw [Array.length_toList]; omega) (fun k hk => ?_)
        rw [r3 k (by omega)]
        by_cases k1 : k < i
        · rw [if_pos k1, if_neg (by omega), q3 k (by omega), if_neg (by omega), ← hxs, List.getElem?_take_of_lt (by omega), Array.getElem?_toList]
        · rw [if_neg k1]
          by_cases k2 : k = i
          · rw [if_pos k2, if_pos ⟨by omega, by simp; omega⟩, k2, Nat.sub_self]; rfl
          · rw [if_neg k2, if_neg (by simp; omega), q3 k (by omega), if_pos ⟨by omega, by rw [hdl]; omega⟩, List.getElem?_drop, show i + (k - (i + 1)) = k - 1 by omega]
      · rw [hW1]
        exact grown_cells_put g (fun k _ hk e => hk (by rw [e])) _ _ _ (grown_cells_put g (fun k _ hk e => hk (by rw [e])) _ _ _ (grown_drew (grown_refl _ _)))
    have HF := hid FIN
    have hz3 : ¬ ((c : Int) < (n : Int) + 1) := by omega
    have hb2 : ¬ (c = i + 1) := by omega
    have hb4 : ¬ (c = i) := by omega
    clear FIN hsz hxs hg hb hN hNw hcs hvs h1 h1v
    go_enter Tryz.func234, Tryz.ntmps234
    go_wp2_with (simp only [hov])
    go_region_law_o (refine step_copy_runI rfl _ _ 24 24 rfl _ _ (by simp [Act.eval, Act.put]) (by simp [Act.eval, Act.put]) (hcp1 _ _ _) ?_)
    go_wp2_with (at_builtin; refine wpList_copy_runI _ rfl _ _ 24 24 rfl _ _ rfl rfl (hcp2 _ (fun _ => rfl) (fun _ => rfl) _ _) ?_)
    go_ret
    obtain ⟨v', e1, e2, e3, e4⟩ := unhid HF
    cases e1
    rw [hW1] at e2 e3
    exact ⟨_, rfl, e2, e3, e4⟩
  · have hceq : c = n := by omega
    have hkk : (n : Int) + 1 - (i : Int) = ((n + 1 - i : Nat) : Int) := by omega
    have hik : i + (n + 1 - i) = n + 1 := by omega
    have hold : (Builtin.firstCells i0.size i (.slice (some ⟨g, 0, none⟩) i c)).run Tryz.prog w.drew = .ok (xs.take i).toArray w.drew := by
      rw [hzs]
      exact run_firstCells_some w.drew 1 i ⟨g, 0, none⟩ i c (xs.take i) (by rw [List.length_take]; omega) (fun j v hj => by
        rw [Addr.add_lit]
        rw [List.getElem?_take] at hj
        split at hj
        · exact hcs j v hj
        · cases hj)
    have hrz : ∀ ty, (Builtin.append_ #[24, 3] ty #[.slice (some ⟨g, 0, none⟩) i c, .int .i64 ((n : Int) + 1 - (i : Int))]).run Tryz.prog w =
        .ok (.slice (some ⟨w.heap.size, 0, none⟩) (n + 1) (grownCap w (n + 1) c 9)) (w.drew.alloc (.cells ((xs.take i).toArray ++ Builtin.zeroCells (Value.string ⟨#[]⟩).cells (n + 1 - i) ++ Builtin.zeroCells (Value.string ⟨#[]⟩).cells (grownCap w (n + 1) c 9 - (n + 1))) 9)) := fun ty => by
      have h := Lib.run_append_grow_zeros w 24 3 ty 9 i0 _ .i64 .i64 ht ht3 hi0 hz0 (some ⟨g, 0, none⟩) i c (xs.take i) hold (n + 1 - i) (by omega) (by omega) (by omega) (by omega) (by rw [hzb]; omega) (by rw [hzb, hik]; exact growslice_fits (by omega) (by omega))
      rw [hik] at h
      rw [hkk]
      exact h
    obtain ⟨G, hG⟩ : ∃ G, G = grownCap w (n + 1) c 9 := ⟨_, rfl⟩
    obtain ⟨ROW, hROW⟩ : ∃ ROW : Array Value, ROW = (xs.take i).toArray ++ Builtin.zeroCells (Value.string ⟨#[]⟩).cells (n + 1 - i) ++ Builtin.zeroCells (Value.string ⟨#[]⟩).cells (G - (n + 1)) := ⟨_, rfl⟩
    rw [← hG, ← hROW] at hrz
    have hGn : n + 1 ≤ G := by rw [hG]; exact grownCap_ge w _ _ _
    have hRs : ROW.size = G := by
      rw [hROW]
      simp [Builtin.zeroCells, Value.cells, hxl]
      omega
    have hRt : ∀ k, k < i → ROW[k]? = xs[k]? := fun k hk => by
      rw [hROW, Array.append_assoc, Array.getElem?_append_left (by simp [hxl]; omega)]
      simp [List.getElem?_take_of_lt hk]
    obtain ⟨W1, hW1⟩ : ∃ W1, W1 = w.drew.alloc (.cells ROW 9) := ⟨_, rfl⟩
    rw [← hW1] at hrz
    have hNew : W1.heap[w.heap.size]? = some (.cells ROW 9 (0, 0)) := by rw [hW1]; exact World.alloc_heap_new w.drew _
    have hNs : ∀ j, j < n + 1 → (W1.cell? ⟨w.heap.size, j, none⟩).isSome = true := fun j hj => by
      simp [World.cell?, hNew]; omega
    have hNf : ∀ j, W1.frozen? ⟨w.heap.size, j, none⟩ = false := fun j => by simp [World.frozen?, hNew]
    have hOb : ∀ j v, w.cell? ⟨g, j, none⟩ = some v → W1.cell? ⟨g, j, none⟩ = some v := fun j v h => by rw [hW1, World.cell?_alloc_past (w := w.drew) _ g j hgl]; exact h
    have hOv : ∀ j v, w.cell? ⟨b, j, none⟩ = some v → W1.cell? ⟨b, j, none⟩ = some v := fun j v h => by rw [hW1, World.cell?_alloc_past (w := w.drew) _ b j hbl]; exact h
    have hcpA : ∀ (W : World), (∀ x, W.cell? x = W1.cell? x) → (∀ x, W.frozen? x = W1.frozen? x) → ∀ ty dc, (Builtin.copy_ #[24, 24] ty #[.slice (some ⟨w.heap.size, i, none⟩) (n + 1 - i) dc, .slice (some ⟨b, 0, none⟩) 1 1]).run Tryz.prog W = .ok (goInt [p].length) (W.setCells w.heap.size i [p]) := fun W hWc hWf ty dc =>
      run_copy_cells W _ _ ty 9 w.heap.size i (n + 1 - i) dc ⟨b, 0, none⟩ 1 1 [p] ht hzz (by simp only [Nat.min_def, List.length_singleton]; split <;> omega)
        (fun j v hj => by rw [Addr.add_lit, hWc]; exact hOv _ v (hvs j v hj))
        (fun j hj => by rw [hWc]; exact hNs _ (by simp at hj; omega)) (fun j hj => by rw [hWf]; exact hNf _) h1v
    have hG63 : G ≤ 9223372036854775807 := by
      have := grownCap_le_maxLen w (n + 1) c 9 (by unfold maxLen; omega)
      rw [← hG] at this
      unfold maxLen at this
      omega
    have hgN : g ≠ w.heap.size := by omega
    have hcpB : ∀ (W : World), (∀ x, W.cell? x = (W1.setCells w.heap.size i [p]).cell? x) → (∀ x, W.frozen? x = (W1.setCells w.heap.size i [p]).frozen? x) → ∀ ty dc sc, (Builtin.copy_ #[24, 24] ty #[.slice (some ⟨w.heap.size, i + 1, none⟩) (n - i) dc, .slice (some ⟨g, i, none⟩) (n - i) sc]).run Tryz.prog W = .ok (goInt (xs.drop i).length) (W.setCells w.heap.size (i + 1) (xs.drop i)) := fun W hWc hWf ty dc sc =>
      run_copy_cells W _ _ ty 9 w.heap.size (i + 1) (n - i) dc ⟨g, i, none⟩ (n - i) sc (xs.drop i) ht hzz (by rw [hdl]; simp only [Nat.min_def]; split <;> omega)
        (fun j v hj => by
          rw [Addr.add_lit, hWc, World.cell?_setCells_out _ _ _ _ _ (fun h _ => absurd h hgN)]
          have := hcs (i + j) v (by rwa [List.getElem?_drop] at hj)
          rw [Nat.zero_add] at this
          exact hOb _ v this)
        (fun j hj => by rw [hWc]; exact isSome_setCells _ _ _ _ (fun t ht => hNs _ (by simp at ht; omega)) _ (hNs _ (by omega)))
        (fun j hj => by rw [hWf, World.frozen?_setCells]; exact hNf _) (fun v hv => h1 v (List.mem_of_mem_drop hv))
    have FIN : ∀ W2 : World, W2 = (((w.alloc (.cells ROW 9)).drew.setCells w.heap.size i [p]).drew).setCells w.heap.size (i + 1) (xs.drop i) → ∃ v', (Ending.returned (.slice (some ⟨w.heap.size, 0, none⟩) (n + 1) G)) = .returned v' ∧ W2.ownsRow N 9 1 v' (n + 1) (xs.take i ++ [p] ++ xs.drop i) ∧ w.grownBy W2 (some g) ∧ (v'.ownBlock = some g ∨ v'.ownBlock = some w.heap.size) := fun W2 hW2 => by
      refine ⟨_, rfl, ?_, ?_, .inr rfl⟩
      · obtain ⟨c1, q1, q2, q3⟩ := heap_cells_put w.heap.size 9 [p] i (w.alloc (.cells ROW 9)).drew ROW (World.alloc_heap_new w _)
        obtain ⟨c2, r1, r2, r3⟩ := heap_cells_put w.heap.size 9 (xs.drop i) (i + 1) ((w.alloc (.cells ROW 9)).drew.setCells w.heap.size i [p]).drew c1 q1
        rw [hW2]
        refine ⟨by simp [hxl]; omega, .inr ⟨w.heap.size, G, c2, rfl, hNw, r1, hGn, hG63, by rw [r2, q2, hRs]; omega, ?_⟩⟩
        rw [Nat.mul_one]
        refine take_mid (cur := cur.toList) (i := i) hxs (by omega) (by rw [Array.length_toList]; omega) (fun k hk => ?_)
        rw [r3 k (by omega)]
        by_cases k1 : k < i
        · rw [if_pos k1, if_neg (by omega), q3 k (by omega), if_neg (by omega), hRt k k1]
        · rw [if_neg k1]
          by_cases k2 : k = i
          · rw [if_pos k2, if_neg (by omega), q3 k (by omega), if_pos ⟨by omega, by simp; omega⟩, k2, Nat.sub_self]; rfl
          · rw [if_neg k2, if_pos ⟨by omega, by rw [hdl]; omega⟩, List.getElem?_drop, show i + (k - (i + 1)) = k - 1 by omega]
      · rw [hW2]
        exact grown_cells_put w.heap.size (fun k hk _ e => by omega) _ _ _ (grown_drew (grown_cells_put w.heap.size (fun k hk _ e => by omega) _ _ _ (grown_drew ⟨rfl, rfl, rfl, by simp, fun k hk _ => Below.heap_alloc _ _ _ hk⟩)))
    have HF := hid FIN
    have hGi : ¬ (G = i) := by omega
    have hGim : ¬ (G = i + 1) := by omega
    have hci : ¬ (c = i) := by omega
    have hz3 : (c : Int) < (n : Int) + 1 := by omega
    subst hW1
    have hE1 : ∀ x, ((w.alloc (.cells ROW 9)).drew).cell? x = (w.drew.alloc (.cells ROW 9)).cell? x := fun x => rfl
    have hE2 : ∀ x, ((w.alloc (.cells ROW 9)).drew).frozen? x = (w.drew.alloc (.cells ROW 9)).frozen? x := fun x => rfl
    have hF1 : ∀ x, (((w.alloc (.cells ROW 9)).drew.setCells w.heap.size i [p]).drew).cell? x = ((w.drew.alloc (.cells ROW 9)).setCells w.heap.size i [p]).cell? x := fun x => rfl
    have hF2 : ∀ x, (((w.alloc (.cells ROW 9)).drew.setCells w.heap.size i [p]).drew).frozen? x = ((w.drew.alloc (.cells ROW 9)).setCells w.heap.size i [p]).frozen? x := fun x => rfl
    have HRZ := hid hrz
    have HCA := hid (fun ty dc => hcpA _ hE1 hE2 ty dc)
    have HCB := hid (fun ty dc sc => hcpB _ hF1 hF2 ty dc sc)
    subst hceq
    clear FIN hkk hik hold hROW hG hRt hRs hNew hNs hNf hOb hOv hsz hxs hg hb hN hNw hcs hvs h1 h1v hE1 hE2 hF1 hF2 hcpA hcpB hrz hz3 hi0 hz0 hzs hzb hzz ht ht3 hroom hgl hbl hxl hdl
    go_enter Tryz.func234, Tryz.ntmps234
    go_wp2_with (at_builtin; refine Lib.wpList_append_run _ rfl _ _ _ _ rfl (.slice (some ⟨g, 0, none⟩) i c) (.int .i64 ((c : Int) + 1 - (i : Int))) rfl rfl _ _ (unhid HRZ _) ?_; clear HRZ; have hcA := unhid HCA; clear HCA; go_wp2_with (simp only [hcA]); clear hcA)
    have HCB1 := hid (unhid HCB 3 (G - (i + 1)) (c - i))
    clear HCB
    go_region_law_o (refine step_copy_runI rfl _ _ 24 24 rfl (.slice (some ⟨w.heap.size, i + 1, none⟩) (c - i) (G - (i + 1))) (.slice (some ⟨g, i, none⟩) (c - i) (c - i)) (by simp [Act.eval, Act.put]) (by simp [Act.eval, Act.put]) (unhid HCB1) ?_)
    go_wp2
    go_ret
    obtain ⟨v', e1, e2, e3, e4⟩ := unhid HF _ rfl
    cases e1
    exact ⟨_, rfl, e2, e3, e4⟩

set_option maxHeartbeats 4000000 in
set_option maxRecDepth 100000 in
theorem InsertN_mid (N n c i g b : Nat) (cur : Array Value) (xs : List Value) (p : Value) (hp : p.oneCell' = true) (w : World) (hi : i < n) (hnc : n ≤ c) (hc63 : c ≤ maxLen) (hn : n ≤ 1000) (hN : N ≤ g) (hNw : N ≤ w.heap.size) (hg : w.heap[g]? = some (.cells cur 121 (0, 0))) (hsz : cur.size = c) (hxs : cur.toList.take n = xs) (hbg : b ≠ g) (hb : w.heap[b]? = some (.cells #[p] 121 (0, 0))) (h1 : ∀ v ∈ xs, v.oneCell' = true) :
    Calls Tryz.prog 235 #[.slice (some ⟨g, 0, .none⟩) n c, .int .i64 i, .slice (some ⟨b, 0, .none⟩) 1 1] w fun x w' => ∃ v', x = .returned v' ∧ w'.ownsRow N 121 1 v' (n + 1) (xs.take i ++ [p] ++ xs.drop i) ∧ w.grownBy w' (some g) ∧ (v'.ownBlock = some g ∨ v'.ownBlock = some w.heap.size) := by
  have hxl : xs.length = n := by rw [← hxs, List.length_take, Array.length_toList]; omega
  have hcs : ∀ j v, xs[j]? = some v → w.cell? ⟨g, 0 + j, none⟩ = some v := fun j v hj => by
    have hjn : j < n := by rw [← hxl]; exact (List.getElem?_eq_some_iff.1 hj).1
    rw [← hxs, List.getElem?_take_of_lt hjn, Array.getElem?_toList] at hj
    rw [Nat.zero_add]
    simp [World.cell?, hg, hj]
  have hvs : ∀ j v, [p][j]? = some v → w.cell? ⟨b, 0 + j, none⟩ = some v := fun j v hj => by
    match j with
    | 0 => simp at hj; subst hj; simp [World.cell?, hb]
    | j + 1 => simp at hj
  have h1v : ∀ v ∈ [p], v.oneCell' = true := fun v hv => by simp at hv; subst hv; exact hp
  have ht := Tryz.underlying113
  have ht3 := Tryz.underlying3
  obtain ⟨i0, hi0, hz0, hzs, hzb⟩ := info_parts infoNode
  have hzz : (Tryz.prog.info? 121).map (·.size) = some 1 := by rw [hi0]; simp [hzs]
  have hdl : (xs.drop i).length = n - i := by rw [List.length_drop, hxl]
  have hgl : g < w.heap.size := (Array.getElem?_eq_some_iff.1 hg).1
  have hbl : b < w.heap.size := (Array.getElem?_eq_some_iff.1 hb).1
  unfold maxLen at hc63
  have mixed : Tryz.prog.follows .mixedOrders = true := by kernel_rfl
  have hw1 : IntKind.i64.wrap ((i : Int) + 1) = (i : Int) + 1 := by rw [IntKind.wrap_i64]; omega
  have hw2 : IntKind.i64.wrap ((n : Int) + 1) = (n : Int) + 1 := by rw [IntKind.wrap_i64]; omega
  have hz2 : ¬ ((i : Int) = (n : Int)) := by omega
  have htn : ((i : Int) + 1).toNat = i + 1 := by omega
  have hin : i ≤ n := by omega
  have hb1 : (0 : Int) ≤ (i : Int) + 1 := by omega
  have hb3 : (i : Int) ≤ (n : Int) + 1 := by omega
  by_cases hroom : n + 1 ≤ c
  · have hsp : ∀ j, j < n + 1 → (w.cell? ⟨g, 0 + j, none⟩).isSome = true := fun j hj => by
      rw [Nat.zero_add]; simp [World.cell?, hg]; omega
    have hfz : ∀ j, w.frozen? ⟨g, j, none⟩ = false := fun j => by simp [World.frozen?, hg]
    have hov : ∀ lb cb, (callFunc 270 #[.slice (some ⟨b, 0, none⟩) 1 1, .slice (some ⟨g, i + 1, none⟩) lb cb]).run Tryz.prog w = .ok (.value (.bool false)) w := fun lb cb => by
      rw [run_callFunc_extern Tryz.func270 (by kernel_rfl) (by kernel_rfl) (by kernel_rfl) (e := Extern.SlicesOverlaps.overlaps #[113, 113] #[4]) (by kernel_rfl),
        Lib.run_overlaps_apart w 113 4 121 ht 1 (fun w => by kernel_rfl) ⟨b, 0, none⟩ ⟨g, i + 1, none⟩ 1 1 lb cb hbg 121 121 1 c (by simp [World.shape?, hb]) (by simp [World.shape?, hg, hsz]) (by omega) (by simp [World.frozen?, hb]) (by simp [World.frozen?, hb])]
      rfl
    have hcp1 : ∀ ty dc sc, (Builtin.copy_ #[113, 113] ty #[.slice (some ⟨g, i + 1, none⟩) (n - i) dc, .slice (some ⟨g, i, none⟩) (n + 1 - i) sc]).run Tryz.prog w.drew = .ok (goInt (xs.drop i).length) (w.drew.setCells g (i + 1) (xs.drop i)) := fun ty dc sc =>
      run_copy_cells w.drew _ _ ty 121 g (i + 1) (n - i) dc ⟨g, i, none⟩ (n + 1 - i) sc (xs.drop i) ht hzz (by rw [hdl]; simp only [Nat.min_def]; split <;> omega)
        (fun j v hj => by rw [Addr.add_lit]; have := hcs (i + j) v (by rwa [List.getElem?_drop] at hj); rwa [Nat.zero_add] at this)
        (fun j hj => by have := hsp (i + 1 + j) (by omega); rwa [Nat.zero_add] at this) (fun j hj => hfz _) (fun v hv => h1 v (List.mem_of_mem_drop hv))
    obtain ⟨W1, hW1⟩ : ∃ W1, W1 = w.drew.setCells g (i + 1) (xs.drop i) := ⟨_, rfl⟩
    have hsp1 : ∀ k, k < n + 1 → (W1.cell? ⟨g, k, none⟩).isSome = true := fun k hk => by
      rw [hW1]
      exact isSome_setCells g _ _ _ (fun j hj => by have := hsp (i + 1 + j) (by omega); rwa [Nat.zero_add] at this) _ (by have := hsp k hk; rwa [Nat.zero_add] at this)
    have hcp2 : ∀ (W : World), (∀ x, W.cell? x = W1.cell? x) → (∀ x, W.frozen? x = W1.frozen? x) → ∀ ty dc, (Builtin.copy_ #[113, 113] ty #[.slice (some ⟨g, i, none⟩) (n + 1 - i) dc, .slice (some ⟨b, 0, none⟩) 1 1]).run Tryz.prog W = .ok (goInt [p].length) (W.setCells g i [p]) := fun W hWc hWf ty dc =>
      run_copy_cells W _ _ ty 121 g i (n + 1 - i) dc ⟨b, 0, none⟩ 1 1 [p] ht hzz (by simp only [Nat.min_def, List.length_singleton]; split <;> omega)
        (fun j v hj => by
          rw [Addr.add_lit, hWc, hW1, World.cell?_setCells_out g _ _ _ _ (fun h _ => absurd h hbg)]
          exact hvs j v hj)
        (fun j hj => by rw [hWc]; exact hsp1 _ (by simp at hj; omega)) (fun j hj => by rw [hWf, hW1, World.frozen?_setCells]; exact hfz _) h1v
    rw [← hW1] at hcp1
    have FIN : ∃ v', (Ending.returned (.slice (some ⟨g, 0, none⟩) (n + 1) c)) = .returned v' ∧ (W1.setCells g i [p]).ownsRow N 121 1 v' (n + 1) (xs.take i ++ [p] ++ xs.drop i) ∧ w.grownBy (W1.setCells g i [p]) (some g) ∧ (v'.ownBlock = some g ∨ v'.ownBlock = some w.heap.size) := by
      refine ⟨_, rfl, ?_, ?_, .inl rfl⟩
      · obtain ⟨c1, q1, q2, q3⟩ := heap_cells_put g 121 (xs.drop i) (i + 1) w.drew cur hg
        rw [← hW1] at q1
        obtain ⟨c2, r1, r2, r3⟩ := heap_cells_put g 121 [p] i W1 c1 q1
        refine ⟨by simp [hxl]; omega, .inr ⟨g, c, c2, rfl, hN, r1, hroom, hc63, by rw [r2, q2, hsz]; omega, ?_⟩⟩
        rw [Nat.mul_one]
        refine take_mid (cur := cur.toList) (i := i) hxs (by omega) (by rw [Array.length_toList]; omega) (fun k hk => ?_)
        rw [r3 k (by omega)]
        by_cases k1 : k < i
        · rw [if_pos k1, if_neg (by omega), q3 k (by omega), if_neg (by omega), ← hxs, List.getElem?_take_of_lt (by omega), Array.getElem?_toList]
        · rw [if_neg k1]
          by_cases k2 : k = i
          · rw [if_pos k2, if_pos ⟨by omega, by simp; omega⟩, k2, Nat.sub_self]; rfl
          · rw [if_neg k2, if_neg (by simp; omega), q3 k (by omega), if_pos ⟨by omega, by rw [hdl]; omega⟩, List.getElem?_drop, show i + (k - (i + 1)) = k - 1 by omega]
      · rw [hW1]
        exact grown_cells_put g (fun k _ hk e => hk (by rw [e])) _ _ _ (grown_cells_put g (fun k _ hk e => hk (by rw [e])) _ _ _ (grown_drew (grown_refl _ _)))
    have HF := hid FIN
    have hz3 : ¬ ((c : Int) < (n : Int) + 1) := by omega
    have hb2 : ¬ (c = i + 1) := by omega
    have hb4 : ¬ (c = i) := by omega
    clear FIN hsz hxs hg hb hN hNw hcs hvs h1 h1v
    go_enter Tryz.func235, Tryz.ntmps235
    go_wp2_with (simp only [hov])
    go_region_law_o (refine step_copy_runI rfl _ _ 113 113 rfl _ _ (by simp [Act.eval, Act.put]) (by simp [Act.eval, Act.put]) (hcp1 _ _ _) ?_)
    go_wp2_with (at_builtin; refine wpList_copy_runI _ rfl _ _ 113 113 rfl _ _ rfl rfl (hcp2 _ (fun _ => rfl) (fun _ => rfl) _ _) ?_)
    go_ret
    obtain ⟨v', e1, e2, e3, e4⟩ := unhid HF
    cases e1
    rw [hW1] at e2 e3
    exact ⟨_, rfl, e2, e3, e4⟩
  · have hceq : c = n := by omega
    have hkk : (n : Int) + 1 - (i : Int) = ((n + 1 - i : Nat) : Int) := by omega
    have hik : i + (n + 1 - i) = n + 1 := by omega
    have hold : (Builtin.firstCells i0.size i (.slice (some ⟨g, 0, none⟩) i c)).run Tryz.prog w.drew = .ok (xs.take i).toArray w.drew := by
      rw [hzs]
      exact run_firstCells_some w.drew 1 i ⟨g, 0, none⟩ i c (xs.take i) (by rw [List.length_take]; omega) (fun j v hj => by
        rw [Addr.add_lit]
        rw [List.getElem?_take] at hj
        split at hj
        · exact hcs j v hj
        · cases hj)
    have hrz : ∀ ty, (Builtin.append_ #[113, 3] ty #[.slice (some ⟨g, 0, none⟩) i c, .int .i64 ((n : Int) + 1 - (i : Int))]).run Tryz.prog w =
        .ok (.slice (some ⟨w.heap.size, 0, none⟩) (n + 1) (grownCap w (n + 1) c 121)) (w.drew.alloc (.cells ((xs.take i).toArray ++ Builtin.zeroCells (Value.nilIface).cells (n + 1 - i) ++ Builtin.zeroCells (Value.nilIface).cells (grownCap w (n + 1) c 121 - (n + 1))) 121)) := fun ty => by
      have h := Lib.run_append_grow_zeros w 113 3 ty 121 i0 _ .i64 .i64 ht ht3 hi0 hz0 (some ⟨g, 0, none⟩) i c (xs.take i) hold (n + 1 - i) (by omega) (by omega) (by omega) (by omega) (by rw [hzb]; omega) (by rw [hzb, hik]; exact growslice_fits (by omega) (by omega))
      rw [hik] at h
      rw [hkk]
      exact h
    obtain ⟨G, hG⟩ : ∃ G, G = grownCap w (n + 1) c 121 := ⟨_, rfl⟩
    obtain ⟨ROW, hROW⟩ : ∃ ROW : Array Value, ROW = (xs.take i).toArray ++ Builtin.zeroCells (Value.nilIface).cells (n + 1 - i) ++ Builtin.zeroCells (Value.nilIface).cells (G - (n + 1)) := ⟨_, rfl⟩
    rw [← hG, ← hROW] at hrz
    have hGn : n + 1 ≤ G := by rw [hG]; exact grownCap_ge w _ _ _
    have hRs : ROW.size = G := by
      rw [hROW]
      simp [Builtin.zeroCells, Value.cells, hxl]
      omega
    have hRt : ∀ k, k < i → ROW[k]? = xs[k]? := fun k hk => by
      rw [hROW, Array.append_assoc, Array.getElem?_append_left (by simp [hxl]; omega)]
      simp [List.getElem?_take_of_lt hk]
    obtain ⟨W1, hW1⟩ : ∃ W1, W1 = w.drew.alloc (.cells ROW 121) := ⟨_, rfl⟩
    rw [← hW1] at hrz
    have hNew : W1.heap[w.heap.size]? = some (.cells ROW 121 (0, 0)) := by rw [hW1]; exact World.alloc_heap_new w.drew _
    have hNs : ∀ j, j < n + 1 → (W1.cell? ⟨w.heap.size, j, none⟩).isSome = true := fun j hj => by
      simp [World.cell?, hNew]; omega
    have hNf : ∀ j, W1.frozen? ⟨w.heap.size, j, none⟩ = false := fun j => by simp [World.frozen?, hNew]
    have hOb : ∀ j v, w.cell? ⟨g, j, none⟩ = some v → W1.cell? ⟨g, j, none⟩ = some v := fun j v h => by rw [hW1, World.cell?_alloc_past (w := w.drew) _ g j hgl]; exact h
    have hOv : ∀ j v, w.cell? ⟨b, j, none⟩ = some v → W1.cell? ⟨b, j, none⟩ = some v := fun j v h => by rw [hW1, World.cell?_alloc_past (w := w.drew) _ b j hbl]; exact h
    have hcpA : ∀ (W : World), (∀ x, W.cell? x = W1.cell? x) → (∀ x, W.frozen? x = W1.frozen? x) → ∀ ty dc, (Builtin.copy_ #[113, 113] ty #[.slice (some ⟨w.heap.size, i, none⟩) (n + 1 - i) dc, .slice (some ⟨b, 0, none⟩) 1 1]).run Tryz.prog W = .ok (goInt [p].length) (W.setCells w.heap.size i [p]) := fun W hWc hWf ty dc =>
      run_copy_cells W _ _ ty 121 w.heap.size i (n + 1 - i) dc ⟨b, 0, none⟩ 1 1 [p] ht hzz (by simp only [Nat.min_def, List.length_singleton]; split <;> omega)
        (fun j v hj => by rw [Addr.add_lit, hWc]; exact hOv _ v (hvs j v hj))
        (fun j hj => by rw [hWc]; exact hNs _ (by simp at hj; omega)) (fun j hj => by rw [hWf]; exact hNf _) h1v
    have hG63 : G ≤ 9223372036854775807 := by
      have := grownCap_le_maxLen w (n + 1) c 121 (by unfold maxLen; omega)
      rw [← hG] at this
      unfold maxLen at this
      omega
    have hgN : g ≠ w.heap.size := by omega
    have hcpB : ∀ (W : World), (∀ x, W.cell? x = (W1.setCells w.heap.size i [p]).cell? x) → (∀ x, W.frozen? x = (W1.setCells w.heap.size i [p]).frozen? x) → ∀ ty dc sc, (Builtin.copy_ #[113, 113] ty #[.slice (some ⟨w.heap.size, i + 1, none⟩) (n - i) dc, .slice (some ⟨g, i, none⟩) (n - i) sc]).run Tryz.prog W = .ok (goInt (xs.drop i).length) (W.setCells w.heap.size (i + 1) (xs.drop i)) := fun W hWc hWf ty dc sc =>
      run_copy_cells W _ _ ty 121 w.heap.size (i + 1) (n - i) dc ⟨g, i, none⟩ (n - i) sc (xs.drop i) ht hzz (by rw [hdl]; simp only [Nat.min_def]; split <;> omega)
        (fun j v hj => by
          rw [Addr.add_lit, hWc, World.cell?_setCells_out _ _ _ _ _ (fun h _ => absurd h hgN)]
          have := hcs (i + j) v (by rwa [List.getElem?_drop] at hj)
          rw [Nat.zero_add] at this
          exact hOb _ v this)
        (fun j hj => by rw [hWc]; exact isSome_setCells _ _ _ _ (fun t ht => hNs _ (by simp at ht; omega)) _ (hNs _ (by omega)))
        (fun j hj => by rw [hWf, World.frozen?_setCells]; exact hNf _) (fun v hv => h1 v (List.mem_of_mem_drop hv))
    have FIN : ∀ W2 : World, W2 = (((w.alloc (.cells ROW 121)).drew.setCells w.heap.size i [p]).drew).setCells w.heap.size (i + 1) (xs.drop i) → ∃ v', (Ending.returned (.slice (some ⟨w.heap.size, 0, none⟩) (n + 1) G)) = .returned v' ∧ W2.ownsRow N 121 1 v' (n + 1) (xs.take i ++ [p] ++ xs.drop i) ∧ w.grownBy W2 (some g) ∧ (v'.ownBlock = some g ∨ v'.ownBlock = some w.heap.size) := fun W2 hW2 => by
      refine ⟨_, rfl, ?_, ?_, .inr rfl⟩
      · obtain ⟨c1, q1, q2, q3⟩ := heap_cells_put w.heap.size 121 [p] i (w.alloc (.cells ROW 121)).drew ROW (World.alloc_heap_new w _)
        obtain ⟨c2, r1, r2, r3⟩ := heap_cells_put w.heap.size 121 (xs.drop i) (i + 1) ((w.alloc (.cells ROW 121)).drew.setCells w.heap.size i [p]).drew c1 q1
        rw [hW2]
        refine ⟨by simp [hxl]; omega, .inr ⟨w.heap.size, G, c2, rfl, hNw, r1, hGn, hG63, by rw [r2, q2, hRs]; omega, ?_⟩⟩
        rw [Nat.mul_one]
        refine take_mid (cur := cur.toList) (i := i) hxs (by omega) (by rw [Array.length_toList]; omega) (fun k hk => ?_)
        rw [r3 k (by omega)]
        by_cases k1 : k < i
        · rw [if_pos k1, if_neg (by omega), q3 k (by omega), if_neg (by omega), hRt k k1]
        · rw [if_neg k1]
          by_cases k2 : k = i
          · rw [if_pos k2, if_neg (by omega), q3 k (by omega), if_pos ⟨by omega, by simp; omega⟩, k2, Nat.sub_self]; rfl
          · rw [if_neg k2, if_pos ⟨by omega, by rw [hdl]; omega⟩, List.getElem?_drop, show i + (k - (i + 1)) = k - 1 by omega]
      · rw [hW2]
        exact grown_cells_put w.heap.size (fun k hk _ e => by omega) _ _ _ (grown_drew (grown_cells_put w.heap.size (fun k hk _ e => by omega) _ _ _ (grown_drew ⟨rfl, rfl, rfl, by simp, fun k hk _ => Below.heap_alloc _ _ _ hk⟩)))
    have HF := hid FIN
    have hGi : ¬ (G = i) := by omega
    have hGim : ¬ (G = i + 1) := by omega
    have hci : ¬ (c = i) := by omega
    have hz3 : (c : Int) < (n : Int) + 1 := by omega
    subst hW1
    have hE1 : ∀ x, ((w.alloc (.cells ROW 121)).drew).cell? x = (w.drew.alloc (.cells ROW 121)).cell? x := fun x => rfl
    have hE2 : ∀ x, ((w.alloc (.cells ROW 121)).drew).frozen? x = (w.drew.alloc (.cells ROW 121)).frozen? x := fun x => rfl
    have hF1 : ∀ x, (((w.alloc (.cells ROW 121)).drew.setCells w.heap.size i [p]).drew).cell? x = ((w.drew.alloc (.cells ROW 121)).setCells w.heap.size i [p]).cell? x := fun x => rfl
    have hF2 : ∀ x, (((w.alloc (.cells ROW 121)).drew.setCells w.heap.size i [p]).drew).frozen? x = ((w.drew.alloc (.cells ROW 121)).setCells w.heap.size i [p]).frozen? x := fun x => rfl
    have HRZ := hid hrz
    have HCA := hid (fun ty dc => hcpA _ hE1 hE2 ty dc)
    have HCB := hid (fun ty dc sc => hcpB _ hF1 hF2 ty dc sc)
    subst hceq
    clear FIN hkk hik hold hROW hG hRt hRs hNew hNs hNf hOb hOv hsz hxs hg hb hN hNw hcs hvs h1 h1v hE1 hE2 hF1 hF2 hcpA hcpB hrz hz3 hi0 hz0 hzs hzb hzz ht ht3 hroom hgl hbl hxl hdl
    go_enter Tryz.func235, Tryz.ntmps235
    go_wp2_with (at_builtin; refine Lib.wpList_append_run _ rfl _ _ _ _ rfl (.slice (some ⟨g, 0, none⟩) i c) (.int .i64 ((c : Int) + 1 - (i : Int))) rfl rfl _ _ (unhid HRZ _) ?_; clear HRZ; have hcA := unhid HCA; clear HCA; go_wp2_with (simp only [hcA]); clear hcA)
    have HCB1 := hid (unhid HCB 3 (G - (i + 1)) (c - i))
    clear HCB
    go_region_law_o (refine step_copy_runI rfl _ _ 113 113 rfl (.slice (some ⟨w.heap.size, i + 1, none⟩) (c - i) (G - (i + 1))) (.slice (some ⟨g, i, none⟩) (c - i) (c - i)) (by simp [Act.eval, Act.put]) (by simp [Act.eval, Act.put]) (unhid HCB1) ?_)
    go_wp2
    go_ret
    obtain ⟨v', e1, e2, e3, e4⟩ := unhid HF _ rfl
    cases e1
    exact ⟨_, rfl, e2, e3, e4⟩

theorem InsertS_any (N n i b : Nat) (v : Value) (xs : List Value) (p : ByteArray) (w : World) (hi : i ≤ n) (hn : n ≤ 1000) (hNw : N ≤ w.heap.size) (h : w.ownsRow N 9 1 v n xs) (hbo : v.ownBlock ≠ some b) (hb : w.heap[b]? = some (.cells #[.string p] 9 (0, 0))) (h1 : ∀ v ∈ xs, v.oneCell' = true) :
    Calls Tryz.prog 234 #[v, .int .i64 i, .slice (some ⟨b, 0, .none⟩) 1 1] w fun x w' => ∃ v', x = .returned v' ∧ w'.ownsRow N 9 1 v' (n + 1) (xs.take i ++ [.string p] ++ xs.drop i) ∧ w.grownBy w' v.ownBlock ∧ (v'.ownBlock = v.ownBlock ∨ v'.ownBlock = some w.heap.size) := by
  by_cases hin : i = n
  · subst hin
    have hxl : xs.length = i := by have := h.1; omega
    rw [List.take_of_length_le (by omega), List.drop_of_length_le (by omega), List.append_nil]
    exact InsertS_end N v i xs b p w hn hNw h (by simp [World.cell?, hb])
  · rcases h.2 with ⟨rfl, h0⟩ | ⟨g, cap, cur, rfl, hg0, hg, hc, hm, hsz, hcells⟩
    · omega
    · exact InsertS_mid N n cap i g b cur xs (.string p) rfl w (by omega) hc hm hn hg0 hNw hg (by omega) (by rw [← hcells, Nat.mul_one]) (fun e => hbo (by rw [e]; rfl)) hb h1

theorem InsertN_any (N n i b : Nat) (v : Value) (xs : List Value) (e : Ent) (w : World) (hi : i ≤ n) (hn : n ≤ 1000) (hNw : N ≤ w.heap.size) (h : w.ownsRow N 121 1 v n xs) (hbo : v.ownBlock ≠ some b) (hb : w.heap[b]? = some (.cells #[nodeV e] 121 (0, 0))) (h1 : ∀ v ∈ xs, v.oneCell' = true) :
    Calls Tryz.prog 235 #[v, .int .i64 i, .slice (some ⟨b, 0, .none⟩) 1 1] w fun x w' => ∃ v', x = .returned v' ∧ w'.ownsRow N 121 1 v' (n + 1) (xs.take i ++ [nodeV e] ++ xs.drop i) ∧ w.grownBy w' v.ownBlock ∧ (v'.ownBlock = v.ownBlock ∨ v'.ownBlock = some w.heap.size) := by
  by_cases hin : i = n
  · subst hin
    have hxl : xs.length = i := by have := h.1; omega
    rw [List.take_of_length_le (by omega), List.drop_of_length_le (by omega), List.append_nil]
    exact InsertN_end N v i xs b e w hn hNw h (by simp [World.cell?, hb])
  · rcases h.2 with ⟨rfl, h0⟩ | ⟨g, cap, cur, rfl, hg0, hg, hc, hm, hsz, hcells⟩
    · omega
    · exact InsertN_mid N n cap i g b cur xs (nodeV e) (nodeV_one e) w (by omega) hc hm hn hg0 hNw hg (by omega) (by rw [← hcells, Nat.mul_one]) (fun e => hbo (by rw [e]; rfl)) hb h1
end Go.Proofs.YtoihhlkidlapmaaGreat

/- An entry put into a tree, wherever its place is. -/
namespace Go.Proofs.YtoihhlkidlapmaaGreat
open Go.RowKit Go.Shelf

/-- Entries with one more in its place. -/
def insAt (es : List Ent) (e : Ent) : List Ent := es.take (placeE es e.path) ++ [e] ++ es.drop (placeE es e.path)

end Go.Proofs.YtoihhlkidlapmaaGreat

/- An entry put into a tree, if it can be, wherever its place is. -/
namespace Go.Proofs.YtoihhlkidlapmaaGreat
open Go.RowKit Go.Shelf

theorem ownsRow_set {W : World} {N n j g : Nat} {v u : Value} {e : TypeId} {xs : List Value} (h : W.ownsRow N e 1 v n xs) (hj : j < n) (hg : v.ownBlock = some g) : (W.setCell ⟨g, j, .none⟩ u).ownsRow N e 1 v n (xs.set j u) := by
  refine ⟨by simpa using h.1, ?_⟩
  rcases h.2 with ⟨rfl, h0⟩ | ⟨g', cap, cur, rfl, hN, hh, hc, hm, hsz, hcells⟩
  · omega
  · cases hg
    refine .inr ⟨g', cap, cur.setIfInBounds j u, rfl, hN, heap_setCell_same _ g' j _ _ _ hh, hc, hm, by simpa using hsz, ?_⟩
    rw [Array.toList_setIfInBounds, List.take_set, hcells]


/-- Entries with one put in. -/
def putT (es : List Ent) (e : Ent) : List Ent := if thereE es e.path then es.set (placeE es e.path) e else insAt es e

/-- Whether an entry can be put. -/
def okPut (es : List Ent) (e : Ent) : Bool := entB e && (dirE es (pathUpS e.path) && (if thereE es e.path then (entFn es (placeE es e.path)).kind == e.kind else decide (es.length ≠ 16)))
def putL (es : List Ent) (e : Ent) : List Ent := if okPut es e then putT es e else es
theorem putL_no {es : List Ent} {e : Ent} (h : okPut es e = false) : putL es e = es := by unfold putL; rw [h]; rfl
theorem putL_ins {es : List Ent} {e : Ent} (h : okPut es e = true) (ht : thereE es e.path = false) : putL es e = insAt es e := by unfold putL putT; rw [h, ht]; rfl
theorem putL_set {es : List Ent} {e : Ent} (h : okPut es e = true) (ht : thereE es e.path = true) : putL es e = es.set (placeE es e.path) e := by unfold putL putT; rw [h, ht]; rfl

end Go.Proofs.YtoihhlkidlapmaaGreat

/- An entry put into a tree, by the model. -/
namespace Go.Proofs.YtoihhlkidlapmaaGreat
open Go.RowKit Go.Shelf

theorem below_set4 {B : Nat} {a w : World} (h : Below B a w) {g : Nat} (hg : B ≤ g) (j : Nat) (e : Ent) : Below B a ((((w.setCell ⟨g, j * 4, none⟩ (.string e.path)).setCell ⟨g, j * 4 + 1, none⟩ (.int .i64 e.kind)).setCell ⟨g, j * 4 + 2, none⟩ (.int .i64 e.mode)).setCell ⟨g, j * 4 + 3, none⟩ (.string e.text)) :=
  (((h.setCell (p := ⟨g, j * 4, none⟩) hg _).setCell (p := ⟨g, j * 4 + 1, none⟩) hg _).setCell (p := ⟨g, j * 4 + 2, none⟩) hg _).setCell (p := ⟨g, j * 4 + 3, none⟩) hg _
/-- An append at a step of a region, and where the new row lies. -/
theorem step_append_at {P : Program} {w : World} {ops : Array Oper} {o : Oper} {a : Act} {K : Act → World → Prop} {Q : Exit → Act → World → Prop} {E : Prop} (hgd : o.guard = none) (s x : Operand) (t : TypeId)
    (ho : o.op = .call { callee := .builtin .append, args := #[s, x], argTypes := #[t, t] })
    (base : Nat) (e : TypeId) (i : TypeInfo) (z : Value) (size bytes : Nat) (ht : P.underlying t = some (.slice e)) (hi : P.info? e = some i) (hz : i.zero = some z)
    (hsize : i.size = size) (hby : i.bytes = bytes) (hzs : z.cells.size = size) (hsz : 0 < size)
    (v : Value) (n : Nat) (xs : List Value) (hs : a.eval s = v) (hown : w.ownsRow base e size v n xs)
    (ad : Addr) (m c : Nat) (news : List Value) (hx : a.eval x = .slice (some ad) m c) (hl : news.length = m * size) (hnews : ∀ j u, news[j]? = some u → w.cell? (ad.add j) = some u) (h1 : ∀ u ∈ news, u.oneCell' = true)
    (h63 : n + m ≤ maxLen) (hbytes : (n + m) * bytes ≤ 140737488355328) (hbase : base ≤ w.heap.size)
    (h : ∀ v' w', w'.ownsRow base e size v' (n + m) (xs ++ news) → w.grownBy w' v.ownBlock → (v'.ownBlock = v.ownBlock ∨ v'.ownBlock = some w.heap.size) → K (a.put o.dst v') w') :
    if Region.wanted o (yielded ops a.tmps) = true then Oper.wp P o a w K Q else E := by
  have hw : Region.wanted o (yielded ops a.tmps) = true := by simp [Region.wanted, hgd]
  rw [if_pos hw]
  obtain ⟨v', w', hr, h2, h3, _, h5⟩ := run_append_own_at (P := P) w base t o.type e i z size bytes ht hi hz hsize hby hzs hsz v n xs hown ad m c news hl hnews h1 h63 hbytes hbase
  unfold Oper.wp execOp
  simp only [ho, resolve, invoke, builtin, Sem.run_bind, Sem.run_pure, Result.andThen_ok, List.map_toArray, List.map_cons, List.map_nil, hs, hx, hr]
  exact h v' w' h2 h3 h5
/-- How far on a row's rest begins: where nothing is left it stays where the row began. -/
def offD (cap k : Nat) : Nat := if cap = k then 0 else k * 4
theorem ents_dropD {W : World} {b o k cap : Nat} {es : List Ent} (h : ∀ (i : Nat) e, es[i]? = some e → EntAt W b (o + i * 4) e) (hc : es.length ≤ cap) : ∀ (i : Nat) e, (es.drop k)[i]? = some e → EntAt W b (o + offD cap k + i * 4) e := fun i e hi => by
  by_cases hck : cap = k
  · have : es.drop k = [] := List.drop_eq_nil_of_le (by omega)
    rw [this] at hi; simp at hi
  · unfold offD; rw [if_neg hck]; exact ents_drop h i e hi
/-- A row of one entry. -/
def OneAt (W : World) (g : Nat) (e : Ent) : Prop := W.heap[g]? = some (.cells e.vals 57 (0, 0))
theorem OneAt.lt {W : World} {g : Nat} {e : Ent} (h : OneAt W g e) : g < W.heap.size := (Array.getElem?_eq_some_iff.1 h).1
theorem OneAt.alloc {W : World} {g : Nat} {e : Ent} (h : OneAt W g e) (o : Obj) : OneAt (W.alloc o) g e := (Below.heap_alloc _ _ _ h.lt).trans h
theorem OneAt.grown {W W' : World} {g : Nat} {e : Ent} {row : Option Nat} (h : OneAt W g e) (hg : W.grownBy W' row) (hr : some g ≠ row) : OneAt W' g e := (hg.block g h.lt hr).trans h
theorem OneAt.cells {W : World} {g : Nat} {e : Ent} (h : OneAt W g e) : ∀ j u, (valsOf [e])[j]? = some u → W.cell? ((⟨g, 0, none⟩ : Addr).add j) = some u := by
  intro j u hj
  rw [add_plain4, Nat.zero_add]
  have hj' : e.vals[j]? = some u := by
    have : (valsOf [e]) = e.vals.toList := by simp [valsOf]
    rw [this, Array.getElem?_toList] at hj; exact hj
  show W.cell? ⟨g, j, none⟩ = some u
  unfold OneAt at h
  simp only [World.cell?, h]
  exact hj'
theorem valsOf_app (xs ys : List Ent) : valsOf (xs ++ ys) = valsOf xs ++ valsOf ys := by simp [valsOf]
theorem valsOf_set (es : List Ent) (j : Nat) (e : Ent) (hj : j < es.length) : valsOf (es.set j e) = ((((valsOf es).set (j * 4) (.string e.path)).set (j * 4 + 1) (.int .i64 e.kind)).set (j * 4 + 2) (.int .i64 e.mode)).set (j * 4 + 3) (.string e.text) := by
  have hl := valsOf_len es
  apply List.ext_getElem?
  intro i
  have e1 : i = i / 4 * 4 + i % 4 := by omega
  have hr : i % 4 < 4 := Nat.mod_lt _ (by omega)
  generalize i / 4 = m at e1
  generalize i % 4 = r at e1 hr
  subst e1
  rw [valsOf_get _ _ _ hr, List.getElem?_set, List.getElem?_set, List.getElem?_set, List.getElem?_set, List.getElem?_set, valsOf_get _ _ _ hr]
  simp only [List.length_set]
  by_cases ej : j = m
  · subst ej
    rw [if_pos rfl, if_pos hj]
    match r, hr with
    | 0, _ => rw [if_neg (by omega), if_neg (by omega), if_neg (by omega), if_pos (by omega), if_pos (by omega)]; rfl
    | 1, _ => rw [if_neg (by omega), if_neg (by omega), if_pos (by omega), if_pos (by omega)]; rfl
    | 2, _ => rw [if_neg (by omega), if_pos (by omega), if_pos (by omega)]; rfl
    | 3, _ => rw [if_pos (by omega), if_pos (by omega)]; rfl
  · rw [if_neg ej, if_neg (by omega), if_neg (by omega), if_neg (by omega), if_neg (by omega)]
theorem ownsRow_set4 {W : World} {N j g : Nat} {v : Value} {es : List Ent} (h : W.ownsRow N 57 4 v es.length (valsOf es)) (hj : j < es.length) (hg : v.ownBlock = some g) (e : Ent) :
    ((((W.setCell ⟨g, j * 4, none⟩ (.string e.path)).setCell ⟨g, j * 4 + 1, none⟩ (.int .i64 e.kind)).setCell ⟨g, j * 4 + 2, none⟩ (.int .i64 e.mode)).setCell ⟨g, j * 4 + 3, none⟩ (.string e.text)).ownsRow N 57 4 v es.length (valsOf (es.set j e)) := by
  refine ⟨by rw [valsOf_len, List.length_set], ?_⟩
  rcases h.2 with ⟨rfl, h0⟩ | ⟨g', cap, cur, rfl, hN, hh, hc, hm, hsz, hcells⟩
  · cases hg
  · cases hg
    refine .inr ⟨g', cap, (((cur.setIfInBounds (j * 4) (.string e.path)).setIfInBounds (j * 4 + 1) (.int .i64 e.kind)).setIfInBounds (j * 4 + 2) (.int .i64 e.mode)).setIfInBounds (j * 4 + 3) (.string e.text), rfl, hN, ?_, hc, hm, by simpa using hsz, ?_⟩
    · exact heap_setCell_same _ g' _ _ _ _ (heap_setCell_same _ g' _ _ _ _ (heap_setCell_same _ g' _ _ _ _ (heap_setCell_same _ g' _ _ _ _ hh)))
    · rw [valsOf_set es j e hj, ← hcells]
      simp only [Array.toList_setIfInBounds, List.take_set]

/-- A slice that is not nil. -/
def SomeV (v : Value) : Prop := ∃ ad n c, v = .slice (some ad) n c
theorem owns_some {W : World} {N n size : Nat} {v : Value} {e : TypeId} {xs : List Value} (h : W.ownsRow N e size v n xs) (hn : 0 < n) : SomeV v := by
  rcases h.2 with ⟨rfl, h0⟩ | ⟨g, cap, cur, rfl, _⟩
  · omega
  · exact ⟨_, _, _, rfl⟩
set_option maxRecDepth 100000 in
set_option maxHeartbeats 4000000 in
theorem l2Put_full (es : List Ent) (e : Ent) (b o cap : Nat) (w : World) (hn : es.length ≤ 16) (hc : es.length ≤ cap) (hp : e.path.size ≤ 1048576) (ht : e.text.size ≤ 1048576) (h : ∀ (i : Nat) e, es[i]? = some e → EntAt w b (o + i * 4) e) (hb : b < w.heap.size) :
    Calls Tryz.prog 222 #[.slice (some ⟨b, o, none⟩) es.length cap, .agg e.vals] w fun x w' => ∃ v, x = .returned (.tuple #[v, .bool (okPut es e)]) ∧ w'.ownsRow w.heap.size 57 4 v (putL es e).length (valsOf (putL es e)) ∧ Below w.heap.size w w' ∧ SomeV v := by
  obtain ⟨w1, hw1⟩ : ∃ w1, w1 = w.alloc (.cells #[.string e.path, .int .i64 e.kind, .int .i64 e.mode, .string e.text] 57) := ⟨_, rfl⟩
  have hB1 : Below w.heap.size w w1 := by rw [hw1]; exact (Below.refl _ w).alloc (Nat.le_refl _) _
  have hbx1 : w1.heap[w.heap.size]? = some (.cells #[.string e.path, .int .i64 e.kind, .int .i64 e.mode, .string e.text] 57 (0, 0)) := by rw [hw1]; exact World.alloc_heap_new _ _
  have hE1 := entAt_below h (.inr hb) hB1
  have hb1 : b < w1.heap.size := Nat.lt_of_lt_of_le hb hB1.size
  have hat1 : EntsAt w1 (some ⟨b, o, none⟩) es := .inr ⟨b, o, rfl, hb1, hE1⟩
  have AT := hid (l2At_any es (some ⟨b, o, none⟩) cap e.path w1 (by omega) hat1)
  have H1 := hid (And.intro hB1 (And.intro hbx1 hE1))
  have HW1 := hid hw1
  obtain ⟨⟨d0, d1, d2, d3⟩, -⟩ := four_cells hbx1
  rw [hw1] at d0
  clear hB1 hbx1 hE1 hat1 hw1 h d1 d2 d3
  go_enter Tryz.func222, Tryz.ntmps222
  unfold Ent.vals
  go_wp2_with fail
  rw [← unhid HW1]
  refine (unhid AT).mono ?_
  rintro x w2 ⟨rfl, n2, e2⟩
  have hB2 : Below w1.heap.size w1 w2 := by rw [e2]; exact drewN_below _ _
  have hl1 : w.heap.size < w1.heap.size := (Array.getElem?_eq_some_iff.1 (unhid H1).2.1).1
  have H2 := hid (show Below w.heap.size w w2 ∧ w2.heap[w.heap.size]? = some (.cells #[.string e.path, .int .i64 e.kind, .int .i64 e.mode, .string e.text] 57 (0, 0)) ∧ ∀ (i : Nat) e, es[i]? = some e → EntAt w2 b (o + i * 4) e from ⟨(unhid H1).1.trans (hB2.mono (unhid H1).1.size), (hB2.block _ hl1).trans (unhid H1).2.1, entAt_below (unhid H1).2.2 (.inr hb1) hB2⟩)
  have hb2 : b < w2.heap.size := Nat.lt_of_lt_of_le hb1 hB2.size
  clear hB2 e2 H1 AT HW1 d0 hl1 hb1 n2
  go_wp2_with fail
  refine (l2Copy_some es b o cap w2 (by omega) (unhid H2).2.2 (.inr hb2)).mono ?_
  rintro x w3 ⟨vg, vc, rfl, hown3, hB3⟩
  obtain ⟨va, hva⟩ : ∃ va, va = some (⟨vg, 0, none⟩ : Addr) := ⟨_, rfl⟩
  rw [← hva] at hown3 ⊢
  have HVA := hid (show SomeV (.slice va es.length vc) from ⟨_, _, _, by rw [hva]⟩)
  clear hva
  have hl2 : w.heap.size < w2.heap.size := (Array.getElem?_eq_some_iff.1 (unhid H2).2.1).1
  have hB3' := (unhid H2).1.trans (hB3.mono (Nat.le_of_lt hl2))
  have hbx3 := (hB3.block _ hl2).trans (unhid H2).2.1
  obtain ⟨⟨d0, d1, d2, d3⟩, -⟩ := four_cells hbx3
  have H3 := hid (And.intro hB3' (And.intro hbx3 (And.intro (entAt_below (unhid H2).2.2 (.inr hb2) hB3) (ownsRow_base hown3 (Nat.le_of_lt hl2)))))
  have HV3 := hid (show ∀ g, (Value.slice va es.length vc).ownBlock = some g → w.heap.size < g from fun g eg => Nat.lt_of_lt_of_le hl2 (hown3.lt g eg).1)
  have hb3 : b < w3.heap.size := Nat.lt_of_lt_of_le hb2 hB3.size
  clear hB3 hB3' hbx3 hown3 H2 hb2 hl2
  go_wp2_with fail
  refine (l2Entry_any e hp ht w3).mono ?_
  rintro x w4 ⟨rfl, hB4⟩
  have hl3 : w.heap.size < w3.heap.size := (Array.getElem?_eq_some_iff.1 (unhid H3).2.1).1
  have H4 := hid (show Below w.heap.size w w4 ∧ w4.heap[w.heap.size]? = some (.cells #[.string e.path, .int .i64 e.kind, .int .i64 e.mode, .string e.text] 57 (0, 0)) ∧ (∀ (i : Nat) e, es[i]? = some e → EntAt w4 b (o + i * 4) e) ∧ w4.ownsRow w.heap.size 57 4 (.slice va es.length vc) es.length (valsOf es) from
    ⟨(unhid H3).1.trans (hB4.mono (Nat.le_of_lt hl3)), (hB4.block _ hl3).trans (unhid H3).2.1, entAt_below (unhid H3).2.2.1 (.inr hb3) hB4, ownsRow_kept (unhid H3).2.2.2 (fun g eg => hB4.block g ((unhid H3).2.2.2.lt g eg).2)⟩)
  have hb4 : b < w4.heap.size := Nat.lt_of_lt_of_le hb3 hB4.size
  clear hB4 H3 hl3 hb3 d0 d1 d2 d3
  cases he : entB e
  · have E := hid (show okPut es e = false by unfold okPut; rw [he]; rfl)
    go_wp2_with fail
    go_ret2
    exact ⟨_, by rw [unhid E]; rfl, by rw [putL_no (unhid E)]; exact (unhid H4).2.2.2, (unhid H4).1, unhid HVA⟩
  · have hbx4 := (unhid H4).2.1
    obtain ⟨⟨d0, d1, d2, d3⟩, -⟩ := four_cells hbx4
    clear hbx4
    go_wp2_with fail
    refine (l1Up_any e.path (by unfold maxLen; omega) w4).mono ?_
    rintro x w5 ⟨rfl, e5⟩
    subst e5
    rw [← ent_path he]
    go_wp2_with fail
    refine (l2Dir_any es _ cap (pathUpS e.path) _ (by omega) (.inr ⟨b, o, rfl, hb4, (unhid H4).2.2.1⟩)).mono ?_
    rintro x w6 ⟨rfl, n6, e6⟩
    have hB6 : Below w5.heap.size w5 w6 := by rw [e6]; exact drewN_below _ _
    have hl5 : w.heap.size < w5.heap.size := (Array.getElem?_eq_some_iff.1 (unhid H4).2.1).1
    have H6 := hid (show Below w.heap.size w w6 ∧ w6.heap[w.heap.size]? = some (.cells #[.string e.path, .int .i64 e.kind, .int .i64 e.mode, .string e.text] 57 (0, 0)) ∧ (∀ (i : Nat) e, es[i]? = some e → EntAt w6 b (o + i * 4) e) ∧ w6.ownsRow w.heap.size 57 4 (.slice va es.length vc) es.length (valsOf es) from
      ⟨(unhid H4).1.trans (hB6.mono (Nat.le_of_lt hl5)), (hB6.block _ hl5).trans (unhid H4).2.1, entAt_below (unhid H4).2.2.1 (.inr hb4) hB6, ownsRow_kept (unhid H4).2.2.2 (fun g eg => hB6.block g ((unhid H4).2.2.2.lt g eg).2)⟩)
    have hb6 : b < w6.heap.size := Nat.lt_of_lt_of_le hb4 hB6.size
    clear hB6 H4 hl5 hb4 d0 d1 d2 d3 e6 n6
    cases hd : dirE es (pathUpS e.path)
    · have E := hid (show okPut es e = false by unfold okPut; rw [hd]; simp)
      go_wp2_with fail
      go_ret2
      exact ⟨_, by rw [unhid E]; rfl, by rw [putL_no (unhid E)]; exact (unhid H6).2.2.2, (unhid H6).1, unhid HVA⟩
    · have hbx6 := (unhid H6).2.1
      obtain ⟨⟨d0, d1, d2, d3⟩, -⟩ := four_cells hbx6
      clear hbx6
      cases hth : thereE es e.path
      · by_cases h16 : es.length = 16
        · have E := hid (show okPut es e = false by unfold okPut; rw [hth, h16]; simp)
          have HH := hid hth
          have h16' : (16 : Int) ≤ (es.length : Int) := by omega
          clear hth h16
          go_wp2_with fail
          go_quiet (fail)
          go_wp2_with fail
          go_ret2
          have hB7 : Below w6.heap.size w6 (w6.drewN nq) := drewN_below _ _
          exact ⟨_, by rw [unhid E]; rfl, by rw [putL_no (unhid E)]; exact ownsRow_kept (unhid H6).2.2.2 (fun g eg => hB7.block g ((unhid H6).2.2.2.lt g eg).2), (unhid H6).1.trans (drewN_below _ _), unhid HVA⟩
        · have E := hid (show okPut es e = true by unfold okPut; rw [he, hd, hth]; simpa using h16)
          have HH := hid hth
          have h16' : ¬ (16 : Int) ≤ (es.length : Int) := by omega
          clear hth h16
          go_wp2_with fail
          go_quiet (fail)
          have hB7 : Below w6.heap.size w6 (w6.drewN nq) := drewN_below _ _
          have H7 := hid (show Below w.heap.size w (w6.drewN nq) ∧ (w6.drewN nq).heap[w.heap.size]? = some (.cells #[.string e.path, .int .i64 e.kind, .int .i64 e.mode, .string e.text] 57 (0, 0)) ∧ (∀ (i : Nat) e, es[i]? = some e → EntAt (w6.drewN nq) b (o + i * 4) e) ∧ (w6.drewN nq).ownsRow w.heap.size 57 4 (.slice va es.length vc) es.length (valsOf es) from
            ⟨(unhid H6).1.trans (drewN_below _ _), (unhid H6).2.1, entAt_below (unhid H6).2.2.1 (.inr hb6) hB7, ownsRow_kept (unhid H6).2.2.2 (fun g eg => hB7.block g ((unhid H6).2.2.2.lt g eg).2)⟩)
          have hb7 : b < (w6.drewN nq).heap.size := hb6
          clear hB7 H6 hb6 d0 d1 d2 d3
          generalize w6.drewN nq = w7 at H7 hb7 ⊢
          obtain ⟨⟨d0, d1, d2, d3⟩, -⟩ := four_cells (unhid H7).2.1
          obtain ⟨i0, hi0, hz0, hzs, hzb⟩ := info_parts infoEntry
          have hkn : placeE es e.path ≤ es.length := placeE_le _ _
          have E2 := hid (show putL es e = es.take (placeE es e.path) ++ [e] ++ es.drop (placeE es e.path) by rw [putL_ins (unhid E) (unhid HH)]; rfl)
          generalize placeE es e.path = k at hkn E2 ⊢
          go_wp2_with fail
          have hi1 : (0 : Int) ≤ (k : Int) := by omega
          have hi2 : (k : Int) ≤ (es.length : Int) := by omega
          have hi3 : (k : Int) ≤ (cap : Int) := by omega
          have hi4 : (es.length : Int) ≤ (cap : Int) := by omega
          refine wp_region_held_drew (S := fun w' => Below w7.heap.size w7 w') (by kernel_rfl) (drew_below _) (fun hS => ?_)
          refine wpAnyH_take (i := 1) (v := .slice (some ⟨b, o, none⟩) es.length cap) rfl (by kernel_rfl) (by kernel_rfl) (by kernel_rfl) (fun _ _ _ h => h) (Or.inl ⟨by rfl, fun w hw => by go_simp⟩) hS ?_
          refine wpAnyH_take (i := 2) (v := .int .i64 (k : Int)) rfl (by kernel_rfl) (by kernel_rfl) (by kernel_rfl) (fun _ _ _ h => h) (Or.inl ⟨by rfl, fun w hw => by go_simp⟩) hS ?_
          refine wpAnyH_take (i := 3) (v := .slice (some ⟨b, o, none⟩) k cap) rfl (by kernel_rfl) (by kernel_rfl) (by kernel_rfl) (fun _ _ _ h => h) (Or.inl ⟨by rfl, fun w hw => by go_simp⟩) hS ?_
          refine wpAnyH_take (i := 5) (v := .agg #[.string e.path, .int .i64 e.kind, .int .i64 e.mode, .string e.text]) rfl (by kernel_rfl) (by kernel_rfl) (by kernel_rfl) (fun _ _ _ h => h) (Or.inl ⟨by rfl, fun w' hw => by
            have hl7 : w.heap.size < w7.heap.size := (Array.getElem?_eq_some_iff.1 (unhid H7).2.1).1
            obtain ⟨⟨k0, k1, k2, k3⟩, -⟩ := four_cells ((Below.block hw _ hl7).trans (unhid H7).2.1)
            go_simp⟩) hS ?_
          refine wpAnyH_take (i := 8) (v := .slice (some ⟨b, o, none⟩) es.length cap) rfl (by kernel_rfl) (by kernel_rfl) (by kernel_rfl) (fun _ _ _ h => h) (Or.inl ⟨by rfl, fun w hw => by go_simp⟩) hS ?_
          refine wpAnyH_take (i := 9) (v := .int .i64 (k : Int)) rfl (by kernel_rfl) (by kernel_rfl) (by kernel_rfl) (fun _ _ _ h => h) (Or.inl ⟨by rfl, fun w hw => by go_simp⟩) hS ?_
          refine wpAnyH_take (i := 10) (v := .slice (some ⟨b, o + offD cap k, none⟩) (es.length - k) (cap - k)) rfl (by kernel_rfl) (by kernel_rfl) (by kernel_rfl) (fun _ _ _ h => h) (Or.inl ⟨by rfl, fun w hw => by
            unfold offD
            by_cases hck : cap = k
            · rw [if_pos hck]; go_simp
            · rw [if_neg hck]; go_simp⟩) hS ?_
          have HI := hid (And.intro hi0 (And.intro hz0 (And.intro hzs hzb)))
          have HC1 := hid (show ∀ W, Below w7.heap.size w7 W → ∀ j u, (valsOf (es.take k))[j]? = some u → W.cell? ((⟨b, o, none⟩ : Addr).add j) = some u from fun W hW => ents_cells (ents_take (entAt_below (unhid H7).2.2.1 (.inr hb7) hW)))
          have HC2 := hid (show ∀ W, Below w7.heap.size w7 W → ∀ j u, (valsOf (es.drop k))[j]? = some u → W.cell? ((⟨b, o + offD cap k, none⟩ : Addr).add j) = some u from fun W hW => ents_cells (ents_dropD (entAt_below (unhid H7).2.2.1 (.inr hb7) hW) hc))
          have ht1 : (es.take k).length = k := by simp; omega
          have ht2 : (es.drop k).length = es.length - k := by simp
          clear hi0 hz0 hzs hzb
          generalize w7.drew = W at hS ⊢
          refine wpAnyH_ready (rs := [0, 6]) (by kernel_rfl) (by simp) ?_
          refine AllReadyH.cons rfl (fun K hK => ?_) (AllReadyH.cons rfl (fun K hK => ?_) AllReadyH.nil)
          · go_simp
            have r0 := owns_empty W w7.heap.size hS.size 57
            have hS1 := hS.alloc hS.size (.cells #[] 57)
            refine hK.out _ _ hS1 (fun _ => ?_)
            clear hK K hS
            generalize W.alloc (.cells #[] 57) = W2 at hS1 r0 ⊢
            generalize W.heap.size = g0 at r0 ⊢
            have hS := hS1
            clear hS1
            refine wpAnyH_ready (rs := [4, 6]) (by kernel_rfl) (by simp) ?_
            refine AllReadyH.cons rfl (fun K hK => ?_) (AllReadyH.cons rfl (fun K hK => ?_) AllReadyH.nil)
            · refine step_append_at (by rfl) _ _ 32 (by rfl) w7.heap.size 57 i0 _ 4 48 Tryz.underlying32 (unhid HI).1 (unhid HI).2.1 (unhid HI).2.2.1 (unhid HI).2.2.2 rfl (by decide) (Value.slice (some ⟨g0, 0, none⟩) 0 0) (0) ([]) (by rfl) r0 ⟨b, o, none⟩ (k) (cap) (valsOf (es.take k)) (by rfl) (by rw [valsOf_len, ht1]) (unhid HC1 _ hS) (valsOf_one _) (by unfold maxLen; omega) (by omega) hS.size ?_
              intro v1 W3 r1 hg1 hat1
              rw [Nat.zero_add, List.nil_append] at r1
              obtain ⟨a1, c1, rfl⟩ := ownsRow_slice r1
              have hS1 := hS.grown hg1 hS.size (fun g eg => (r0.lt g eg).1)
              refine hK.out _ _ hS1 (fun _ => ?_)
              clear hK K hS r0 hg1 hat1
              have hS := hS1
              clear hS1
              refine wpAnyH_ready (rs := [6]) (by kernel_rfl) (by simp) ?_
              refine AllReadyH.cons rfl (fun K hK => ?_) AllReadyH.nil
              go_simp
              have o2 : OneAt (W3.alloc (.cells #[.string e.path, .int .i64 e.kind, .int .i64 e.mode, .string e.text] 57)) W3.heap.size e := World.alloc_heap_new _ _
              have hS1 := hS.alloc hS.size (.cells #[.string e.path, .int .i64 e.kind, .int .i64 e.mode, .string e.text] 57)
              have m2 : (Value.slice a1 k c1).ownBlock ≠ some W3.heap.size := fun eq => Nat.lt_irrefl _ (r1.lt _ eq).2
              have r1' := r1.alloc (.cells #[.string e.path, .int .i64 e.kind, .int .i64 e.mode, .string e.text] 57)
              clear r1
              have r1 := r1'
              clear r1'
              refine hK.out _ _ hS1 (fun _ => ?_)
              clear hK K hS
              generalize W3.alloc (.cells #[.string e.path, .int .i64 e.kind, .int .i64 e.mode, .string e.text] 57) = W4 at hS1 o2 r1 ⊢
              generalize W3.heap.size = g2 at o2 m2 ⊢
              have hS := hS1
              clear hS1
              refine wpAnyH_ready (rs := [7]) (by kernel_rfl) (by simp) ?_
              refine AllReadyH.cons rfl (fun K hK => ?_) AllReadyH.nil
              refine step_append_at (by rfl) _ _ 32 (by rfl) w7.heap.size 57 i0 _ 4 48 Tryz.underlying32 (unhid HI).1 (unhid HI).2.1 (unhid HI).2.2.1 (unhid HI).2.2.2 rfl (by decide) (Value.slice a1 k c1) (k) (valsOf (es.take k)) (by rfl) r1 ⟨g2, 0, none⟩ (1) (1) (valsOf [e]) (by rfl) (by rw [valsOf_len]; rfl) (o2.cells) (valsOf_one _) (by unfold maxLen; omega) (by omega) hS.size ?_
              intro v2 W5 r2 hg1 hat1
              obtain ⟨a2, c2, rfl⟩ := ownsRow_slice r2
              have hS1 := hS.grown hg1 hS.size (fun g eg => (r1.lt g eg).1)
              refine hK.out _ _ hS1 (fun _ => ?_)
              clear hK K hS r1 hg1 hat1 o2 m2
              have hS := hS1
              clear hS1
              refine wpAnyH_ready (rs := [11]) (by kernel_rfl) (by simp) ?_
              refine AllReadyH.cons rfl (fun K hK => ?_) AllReadyH.nil
              refine step_append_at (by rfl) _ _ 32 (by rfl) w7.heap.size 57 i0 _ 4 48 Tryz.underlying32 (unhid HI).1 (unhid HI).2.1 (unhid HI).2.2.1 (unhid HI).2.2.2 rfl (by decide) (Value.slice a2 (k + 1) c2) (k + 1) (valsOf (es.take k) ++ valsOf [e]) (by rfl) r2 ⟨b, o + offD cap k, none⟩ ((es.length - k)) ((cap - k)) (valsOf (es.drop k)) (by rfl) (by rw [valsOf_len, ht2]) (unhid HC2 _ hS) (valsOf_one _) (by unfold maxLen; omega) (by omega) hS.size ?_
              intro v3 W6 r3 hg1 hat1
              obtain ⟨a3, c3, rfl⟩ := ownsRow_slice r3
              have hS1 := hS.grown hg1 hS.size (fun g eg => (r2.lt g eg).1)
              refine hK.out _ _ hS1 (fun _ => ?_)
              clear hK K hS r2 hg1 hat1
              have hS := hS1
              clear hS1
              refine wpAnyH_take (i := 12) (v := .slice a3 (k + 1 + (es.length - k)) c3) rfl (by kernel_rfl) (by kernel_rfl) (by kernel_rfl) (fun _ _ _ h => h) (Or.inl ⟨by rfl, fun w hw => by go_simp⟩) hS ?_
              refine wpAnyH_take (i := 13) (v := .bool true) rfl (by kernel_rfl) (by kernel_rfl) (by kernel_rfl) (fun _ _ _ h => h) (Or.inl ⟨by rfl, fun w hw => by go_simp⟩) hS ?_
              refine wpAnyH_done (by kernel_rfl) ?_ _
              have hlen : (putL es e).length = k + 1 + (es.length - k) := by rw [unhid E2]; simp; omega
              have hval : valsOf (putL es e) = valsOf (es.take k) ++ valsOf [e] ++ valsOf (es.drop k) := by rw [unhid E2, valsOf_app, valsOf_app]
              have hl7 : w.heap.size < w7.heap.size := (Array.getElem?_eq_some_iff.1 (unhid H7).2.1).1
              have HF := hid (And.intro (ownsRow_base r3 (Nat.le_of_lt hl7)) ((unhid H7).1.trans (hS.mono (Nat.le_of_lt hl7))))
              have HL := hid (And.intro hlen hval)
              clear hlen hval r3 hS
              go_wp2_with fail
              go_ret2
              exact ⟨_, by rw [unhid E]; rfl, by rw [(unhid HL).1, (unhid HL).2]; exact (unhid HF).1, (unhid HF).2, owns_some (unhid HF).1 (by omega)⟩
            · go_simp
              have o2 : OneAt (W2.alloc (.cells #[.string e.path, .int .i64 e.kind, .int .i64 e.mode, .string e.text] 57)) W2.heap.size e := World.alloc_heap_new _ _
              have hS1 := hS.alloc hS.size (.cells #[.string e.path, .int .i64 e.kind, .int .i64 e.mode, .string e.text] 57)
              have m2 : (Value.slice (some ⟨g0, 0, none⟩) 0 0).ownBlock ≠ some W2.heap.size := fun eq => Nat.lt_irrefl _ (r0.lt _ eq).2
              have r0' := r0.alloc (.cells #[.string e.path, .int .i64 e.kind, .int .i64 e.mode, .string e.text] 57)
              clear r0
              have r0 := r0'
              clear r0'
              refine hK.out _ _ hS1 (fun _ => ?_)
              clear hK K hS
              generalize W2.alloc (.cells #[.string e.path, .int .i64 e.kind, .int .i64 e.mode, .string e.text] 57) = W3 at hS1 o2 r0 ⊢
              generalize W2.heap.size = g2 at o2 m2 ⊢
              have hS := hS1
              clear hS1
              refine wpAnyH_ready (rs := [4]) (by kernel_rfl) (by simp) ?_
              refine AllReadyH.cons rfl (fun K hK => ?_) AllReadyH.nil
              refine step_append_at (by rfl) _ _ 32 (by rfl) w7.heap.size 57 i0 _ 4 48 Tryz.underlying32 (unhid HI).1 (unhid HI).2.1 (unhid HI).2.2.1 (unhid HI).2.2.2 rfl (by decide) (Value.slice (some ⟨g0, 0, none⟩) 0 0) (0) ([]) (by rfl) r0 ⟨b, o, none⟩ (k) (cap) (valsOf (es.take k)) (by rfl) (by rw [valsOf_len, ht1]) (unhid HC1 _ hS) (valsOf_one _) (by unfold maxLen; omega) (by omega) hS.size ?_
              intro v1 W4 r1 hg1 hat1
              rw [Nat.zero_add, List.nil_append] at r1
              obtain ⟨a1, c1, rfl⟩ := ownsRow_slice r1
              have hS1 := hS.grown hg1 hS.size (fun g eg => (r0.lt g eg).1)
              have o2' := o2.grown hg1 (fun eq => m2 eq.symm)
              have m2' : (Value.slice a1 k c1).ownBlock ≠ some g2 := by
                rcases hat1 with h | h <;> rw [h]
                · exact m2
                · intro eq; injection eq with eq; have := o2.lt; omega
              clear o2 m2
              have o2 := o2'
              clear o2'
              have m2 := m2'
              clear m2'
              refine hK.out _ _ hS1 (fun _ => ?_)
              clear hK K hS r0 hg1 hat1
              have hS := hS1
              clear hS1
              refine wpAnyH_ready (rs := [7]) (by kernel_rfl) (by simp) ?_
              refine AllReadyH.cons rfl (fun K hK => ?_) AllReadyH.nil
              refine step_append_at (by rfl) _ _ 32 (by rfl) w7.heap.size 57 i0 _ 4 48 Tryz.underlying32 (unhid HI).1 (unhid HI).2.1 (unhid HI).2.2.1 (unhid HI).2.2.2 rfl (by decide) (Value.slice a1 k c1) (k) (valsOf (es.take k)) (by rfl) r1 ⟨g2, 0, none⟩ (1) (1) (valsOf [e]) (by rfl) (by rw [valsOf_len]; rfl) (o2.cells) (valsOf_one _) (by unfold maxLen; omega) (by omega) hS.size ?_
              intro v2 W5 r2 hg1 hat1
              obtain ⟨a2, c2, rfl⟩ := ownsRow_slice r2
              have hS1 := hS.grown hg1 hS.size (fun g eg => (r1.lt g eg).1)
              refine hK.out _ _ hS1 (fun _ => ?_)
              clear hK K hS r1 hg1 hat1 o2 m2
              have hS := hS1
              clear hS1
              refine wpAnyH_ready (rs := [11]) (by kernel_rfl) (by simp) ?_
              refine AllReadyH.cons rfl (fun K hK => ?_) AllReadyH.nil
              refine step_append_at (by rfl) _ _ 32 (by rfl) w7.heap.size 57 i0 _ 4 48 Tryz.underlying32 (unhid HI).1 (unhid HI).2.1 (unhid HI).2.2.1 (unhid HI).2.2.2 rfl (by decide) (Value.slice a2 (k + 1) c2) (k + 1) (valsOf (es.take k) ++ valsOf [e]) (by rfl) r2 ⟨b, o + offD cap k, none⟩ ((es.length - k)) ((cap - k)) (valsOf (es.drop k)) (by rfl) (by rw [valsOf_len, ht2]) (unhid HC2 _ hS) (valsOf_one _) (by unfold maxLen; omega) (by omega) hS.size ?_
              intro v3 W6 r3 hg1 hat1
              obtain ⟨a3, c3, rfl⟩ := ownsRow_slice r3
              have hS1 := hS.grown hg1 hS.size (fun g eg => (r2.lt g eg).1)
              refine hK.out _ _ hS1 (fun _ => ?_)
              clear hK K hS r2 hg1 hat1
              have hS := hS1
              clear hS1
              refine wpAnyH_take (i := 12) (v := .slice a3 (k + 1 + (es.length - k)) c3) rfl (by kernel_rfl) (by kernel_rfl) (by kernel_rfl) (fun _ _ _ h => h) (Or.inl ⟨by rfl, fun w hw => by go_simp⟩) hS ?_
              refine wpAnyH_take (i := 13) (v := .bool true) rfl (by kernel_rfl) (by kernel_rfl) (by kernel_rfl) (fun _ _ _ h => h) (Or.inl ⟨by rfl, fun w hw => by go_simp⟩) hS ?_
              refine wpAnyH_done (by kernel_rfl) ?_ _
              have hlen : (putL es e).length = k + 1 + (es.length - k) := by rw [unhid E2]; simp; omega
              have hval : valsOf (putL es e) = valsOf (es.take k) ++ valsOf [e] ++ valsOf (es.drop k) := by rw [unhid E2, valsOf_app, valsOf_app]
              have hl7 : w.heap.size < w7.heap.size := (Array.getElem?_eq_some_iff.1 (unhid H7).2.1).1
              have HF := hid (And.intro (ownsRow_base r3 (Nat.le_of_lt hl7)) ((unhid H7).1.trans (hS.mono (Nat.le_of_lt hl7))))
              have HL := hid (And.intro hlen hval)
              clear hlen hval r3 hS
              go_wp2_with fail
              go_ret2
              exact ⟨_, by rw [unhid E]; rfl, by rw [(unhid HL).1, (unhid HL).2]; exact (unhid HF).1, (unhid HF).2, owns_some (unhid HF).1 (by omega)⟩
          · go_simp
            have o2 : OneAt (W.alloc (.cells #[.string e.path, .int .i64 e.kind, .int .i64 e.mode, .string e.text] 57)) W.heap.size e := World.alloc_heap_new _ _
            have hS1 := hS.alloc hS.size (.cells #[.string e.path, .int .i64 e.kind, .int .i64 e.mode, .string e.text] 57)
            refine hK.out _ _ hS1 (fun _ => ?_)
            clear hK K hS
            generalize W.alloc (.cells #[.string e.path, .int .i64 e.kind, .int .i64 e.mode, .string e.text] 57) = W2 at hS1 o2 ⊢
            generalize W.heap.size = g2 at o2 ⊢
            have hS := hS1
            clear hS1
            refine wpAnyH_ready (rs := [0]) (by kernel_rfl) (by simp) ?_
            refine AllReadyH.cons rfl (fun K hK => ?_) AllReadyH.nil
            go_simp
            have r0 := owns_empty W2 w7.heap.size hS.size 57
            have hS1 := hS.alloc hS.size (.cells #[] 57)
            have o2' := o2.alloc (.cells #[] 57)
            have m2 : (Value.slice (some ⟨W2.heap.size, 0, none⟩) 0 0).ownBlock ≠ some g2 := fun eq => by injection eq with eq; have eq2 : W2.heap.size = g2 := eq; have := o2.lt; omega
            clear o2
            have o2 := o2'
            clear o2'
            refine hK.out _ _ hS1 (fun _ => ?_)
            clear hK K hS
            generalize W2.alloc (.cells #[] 57) = W3 at hS1 r0 o2 ⊢
            generalize W2.heap.size = g0 at r0 m2 ⊢
            have hS := hS1
            clear hS1
            refine wpAnyH_ready (rs := [4]) (by kernel_rfl) (by simp) ?_
            refine AllReadyH.cons rfl (fun K hK => ?_) AllReadyH.nil
            refine step_append_at (by rfl) _ _ 32 (by rfl) w7.heap.size 57 i0 _ 4 48 Tryz.underlying32 (unhid HI).1 (unhid HI).2.1 (unhid HI).2.2.1 (unhid HI).2.2.2 rfl (by decide) (Value.slice (some ⟨g0, 0, none⟩) 0 0) (0) ([]) (by rfl) r0 ⟨b, o, none⟩ (k) (cap) (valsOf (es.take k)) (by rfl) (by rw [valsOf_len, ht1]) (unhid HC1 _ hS) (valsOf_one _) (by unfold maxLen; omega) (by omega) hS.size ?_
            intro v1 W4 r1 hg1 hat1
            rw [Nat.zero_add, List.nil_append] at r1
            obtain ⟨a1, c1, rfl⟩ := ownsRow_slice r1
            have hS1 := hS.grown hg1 hS.size (fun g eg => (r0.lt g eg).1)
            have o2' := o2.grown hg1 (fun eq => m2 eq.symm)
            have m2' : (Value.slice a1 k c1).ownBlock ≠ some g2 := by
              rcases hat1 with h | h <;> rw [h]
              · exact m2
              · intro eq; injection eq with eq; have := o2.lt; omega
            clear o2 m2
            have o2 := o2'
            clear o2'
            have m2 := m2'
            clear m2'
            refine hK.out _ _ hS1 (fun _ => ?_)
            clear hK K hS r0 hg1 hat1
            have hS := hS1
            clear hS1
            refine wpAnyH_ready (rs := [7]) (by kernel_rfl) (by simp) ?_
            refine AllReadyH.cons rfl (fun K hK => ?_) AllReadyH.nil
            refine step_append_at (by rfl) _ _ 32 (by rfl) w7.heap.size 57 i0 _ 4 48 Tryz.underlying32 (unhid HI).1 (unhid HI).2.1 (unhid HI).2.2.1 (unhid HI).2.2.2 rfl (by decide) (Value.slice a1 k c1) (k) (valsOf (es.take k)) (by rfl) r1 ⟨g2, 0, none⟩ (1) (1) (valsOf [e]) (by rfl) (by rw [valsOf_len]; rfl) (o2.cells) (valsOf_one _) (by unfold maxLen; omega) (by omega) hS.size ?_
            intro v2 W5 r2 hg1 hat1
            obtain ⟨a2, c2, rfl⟩ := ownsRow_slice r2
            have hS1 := hS.grown hg1 hS.size (fun g eg => (r1.lt g eg).1)
            refine hK.out _ _ hS1 (fun _ => ?_)
            clear hK K hS r1 hg1 hat1 o2 m2
            have hS := hS1
            clear hS1
            refine wpAnyH_ready (rs := [11]) (by kernel_rfl) (by simp) ?_
            refine AllReadyH.cons rfl (fun K hK => ?_) AllReadyH.nil
            refine step_append_at (by rfl) _ _ 32 (by rfl) w7.heap.size 57 i0 _ 4 48 Tryz.underlying32 (unhid HI).1 (unhid HI).2.1 (unhid HI).2.2.1 (unhid HI).2.2.2 rfl (by decide) (Value.slice a2 (k + 1) c2) (k + 1) (valsOf (es.take k) ++ valsOf [e]) (by rfl) r2 ⟨b, o + offD cap k, none⟩ ((es.length - k)) ((cap - k)) (valsOf (es.drop k)) (by rfl) (by rw [valsOf_len, ht2]) (unhid HC2 _ hS) (valsOf_one _) (by unfold maxLen; omega) (by omega) hS.size ?_
            intro v3 W6 r3 hg1 hat1
            obtain ⟨a3, c3, rfl⟩ := ownsRow_slice r3
            have hS1 := hS.grown hg1 hS.size (fun g eg => (r2.lt g eg).1)
            refine hK.out _ _ hS1 (fun _ => ?_)
            clear hK K hS r2 hg1 hat1
            have hS := hS1
            clear hS1
            refine wpAnyH_take (i := 12) (v := .slice a3 (k + 1 + (es.length - k)) c3) rfl (by kernel_rfl) (by kernel_rfl) (by kernel_rfl) (fun _ _ _ h => h) (Or.inl ⟨by rfl, fun w hw => by go_simp⟩) hS ?_
            refine wpAnyH_take (i := 13) (v := .bool true) rfl (by kernel_rfl) (by kernel_rfl) (by kernel_rfl) (fun _ _ _ h => h) (Or.inl ⟨by rfl, fun w hw => by go_simp⟩) hS ?_
            refine wpAnyH_done (by kernel_rfl) ?_ _
            have hlen : (putL es e).length = k + 1 + (es.length - k) := by rw [unhid E2]; simp; omega
            have hval : valsOf (putL es e) = valsOf (es.take k) ++ valsOf [e] ++ valsOf (es.drop k) := by rw [unhid E2, valsOf_app, valsOf_app]
            have hl7 : w.heap.size < w7.heap.size := (Array.getElem?_eq_some_iff.1 (unhid H7).2.1).1
            have HF := hid (And.intro (ownsRow_base r3 (Nat.le_of_lt hl7)) ((unhid H7).1.trans (hS.mono (Nat.le_of_lt hl7))))
            have HL := hid (And.intro hlen hval)
            clear hlen hval r3 hS
            go_wp2_with fail
            go_ret2
            exact ⟨_, by rw [unhid E]; rfl, by rw [(unhid HL).1, (unhid HL).2]; exact (unhid HF).1, (unhid HF).2, owns_some (unhid HF).1 (by omega)⟩
      · obtain ⟨old, hold, hop⟩ := there_get hth
        have hfo := entFn_get hold
        have hkl : placeE es e.path < es.length := (List.getElem?_eq_some_iff.1 hold).1
        obtain ⟨c0, c1, c2, c3⟩ := (unhid H6).2.2.1 _ old hold
        cases hkk : (old.kind != e.kind)
        · have E := hid (show okPut es e = true by unfold okPut; rw [he, hd, hth, hfo]; simp at hkk; simp [hkk])
          have HH := hid hth
          clear hth hold hop hfo
          go_wp2_with fail
          go_quiet (fail)
          clear c0 c1 c2 c3
          have hB7 : Below w6.heap.size w6 (w6.drewN nq) := drewN_below _ _
          have H7 := hid (show Below w.heap.size w (w6.drewN nq) ∧ (w6.drewN nq).heap[w.heap.size]? = some (.cells #[.string e.path, .int .i64 e.kind, .int .i64 e.mode, .string e.text] 57 (0, 0)) ∧ (∀ (i : Nat) e, es[i]? = some e → EntAt (w6.drewN nq) b (o + i * 4) e) ∧ (w6.drewN nq).ownsRow w.heap.size 57 4 (.slice va es.length vc) es.length (valsOf es) from
            ⟨(unhid H6).1.trans (drewN_below _ _), (unhid H6).2.1, entAt_below (unhid H6).2.2.1 (.inr hb6) hB7, ownsRow_kept (unhid H6).2.2.2 (fun g eg => hB7.block g ((unhid H6).2.2.2.lt g eg).2)⟩)
          have hb7 : b < (w6.drewN nq).heap.size := hb6
          clear hB7 H6 hb6 d0 d1 d2 d3
          generalize w6.drewN nq = w7 at H7 hb7 ⊢
          obtain ⟨⟨d0, d1, d2, d3⟩, -⟩ := four_cells (unhid H7).2.1
          obtain ⟨gv, rfl⟩ : ∃ gv, va = some ⟨gv, 0, none⟩ := by
            rcases (unhid H7).2.2.2.2 with ⟨hv, h0⟩ | ⟨g', _, _, hv, _⟩
            · omega
            · cases hv; exact ⟨_, rfl⟩
          have HX := hid (And.intro (ownsRow_set4 (unhid H7).2.2.2 hkl rfl e) (below_set4 (unhid H7).1 (Nat.le_of_lt (unhid HV3 gv rfl)) (placeE es e.path) e))
          obtain ⟨a1, cap1, ev, hR⟩ := rowIn_of_owns (unhid H7).2.2.2
          cases ev
          obtain ⟨g', ea, -, -, hR⟩ := hR.resolve_left (fun h0 => by rw [h0] at hkl; simp at hkl)
          cases ea
          obtain ⟨⟨k0, k1, k2, k3⟩, f0, f1, f2, f3⟩ := hR.cells _ hkl
          clear hR
          have E2 := hid (putL_set (unhid E) (unhid HH))
          go_wp2_with fail
          go_ret2
          exact ⟨_, by rw [unhid E]; rfl, by rw [unhid E2, List.length_set]; exact (unhid HX).1, (unhid HX).2, unhid HVA⟩
        · have E := hid (show okPut es e = false by unfold okPut; rw [he, hd, hth, hfo]; simp at hkk; simp [hkk])
          clear hth hold hop hfo
          go_wp2_with fail
          go_quiet (fail)
          go_wp2_with fail
          go_ret2
          have hB7 : Below w6.heap.size w6 (w6.drewN nq) := drewN_below _ _
          exact ⟨_, by rw [unhid E]; rfl, by rw [putL_no (unhid E)]; exact ownsRow_kept (unhid H6).2.2.2 (fun g eg => hB7.block g ((unhid H6).2.2.2.lt g eg).2), (unhid H6).1.trans (drewN_below _ _), unhid HVA⟩
end Go.Proofs.YtoihhlkidlapmaaGreat

/- Entries put into a tree one behind the other: in order, each path once. -/
namespace Go.Proofs.YtoihhlkidlapmaaGreat
open Go.RowKit Go.Shelf

def Up (es : List Ent) : Prop := es.Pairwise fun x y => ltS x.path y.path = true
theorem up_asc {es : List Ent} (h : Up es) : Asc (pathsOf es) := by
  intro i j x y hij hi hj
  unfold pathsOf at hi hj
  rw [List.getElem?_map] at hi hj
  obtain ⟨a, ha, rfl⟩ := Option.map_eq_some_iff.1 hi
  obtain ⟨b, hb, rfl⟩ := Option.map_eq_some_iff.1 hj
  obtain ⟨hia, rfl⟩ := List.getElem?_eq_some_iff.1 ha
  obtain ⟨hjb, rfl⟩ := List.getElem?_eq_some_iff.1 hb
  exact List.pairwise_iff_getElem.1 h i j hia hjb hij
theorem asc_up {es : List Ent} (h : Asc (pathsOf es)) : Up es := by
  refine List.pairwise_iff_getElem.2 (fun i j hi hj hij => ?_)
  exact h i j _ _ hij (by simp [pathsOf, hi]) (by simp [pathsOf, hj])
theorem place_split (es : List Ent) (p : ByteArray) : (∀ x ∈ es.take (placeE es p), ltS x.path p = true) ∧ (∀ x, es[placeE es p]? = some x → ltS x.path p = false) := by
  refine ⟨fun x hx => ?_, fun x hx => ?_⟩
  · obtain ⟨i, hi⟩ := List.getElem?_of_mem hx
    rw [List.getElem?_take] at hi
    split at hi
    · rename_i hlt; exact place_lt hlt hi
    · cases hi
  · unfold placeE at hx
    induction es with
    | nil => simp at hx
    | cons e es ih =>
      rw [List.takeWhile_cons] at hx
      cases he : ltS e.path p
      · rw [he] at hx; simp at hx; subst hx; exact he
      · rw [he] at hx; simp at hx; exact ih hx
theorem lt_trans' {a b c : ByteArray} (h1 : ltS a b = true) (h2 : ltS b c = true) : ltS a c = true := lt_tra _ _ _ h1 h2
theorem lt_tot' {a b : ByteArray} (h1 : ltS a b = false) (h2 : eqS a b = false) : ltS b a = true := by
  cases h : ltS b a
  · have e := lt_tot _ _ h1 h
    rw [show eqS a b = true by unfold eqS; rw [e]; simp] at h2; cases h2
  · rfl
theorem insAt_up {es : List Ent} {e : Ent} (h : Up es) (ht : thereE es e.path = false) : Up (insAt es e) := by
  obtain ⟨h1, h2⟩ := place_split es e.path
  have hd : ∀ x ∈ es.drop (placeE es e.path), ltS e.path x.path = true := by
    unfold thereE at ht
    intro x hx
    cases hf : es[placeE es e.path]? with
    | none =>
      rw [List.drop_eq_nil_of_le (by simpa using hf)] at hx; simp at hx
    | some y =>
      rw [hf] at ht
      have hy : ltS e.path y.path = true := lt_tot' (h2 y hf) (by simpa using ht)
      obtain ⟨hk, rfl⟩ := List.getElem?_eq_some_iff.1 hf
      rw [List.drop_eq_getElem_cons hk] at hx
      rcases List.mem_cons.1 hx with rfl | hx
      · exact hy
      · refine lt_trans' hy ?_
        obtain ⟨j, hj⟩ := List.getElem?_of_mem hx
        rw [List.getElem?_drop] at hj
        obtain ⟨hjl, rfl⟩ := List.getElem?_eq_some_iff.1 hj
        exact List.pairwise_iff_getElem.1 h _ _ hk hjl (by omega)
  have hs : Up (es.take (placeE es e.path) ++ es.drop (placeE es e.path)) := by rw [List.take_append_drop]; exact h
  unfold Up at hs
  rw [List.pairwise_append] at hs
  unfold insAt Up
  rw [List.append_assoc, List.pairwise_append]
  refine ⟨hs.1, ?_, ?_⟩
  · rw [List.singleton_append, List.pairwise_cons]
    exact ⟨hd, hs.2.1⟩
  · intro x hx y hy
    rw [List.singleton_append, List.mem_cons] at hy
    rcases hy with rfl | hy
    · exact h1 x hx
    · exact hs.2.2 x hx y hy
theorem set_paths {es : List Ent} {e : Ent} (ht : thereE es e.path = true) : pathsOf (es.set (placeE es e.path) e) = pathsOf es := by
  obtain ⟨old, hj, hpo⟩ := there_get ht
  unfold pathsOf
  rw [List.map_set]
  apply List.ext_getElem?
  intro i
  rw [List.getElem?_set]
  split
  · rename_i hi
    subst hi
    rw [if_pos (by simpa using (List.getElem?_eq_some_iff.1 hj).1), List.getElem?_map, hj, Option.map_some, hpo]
  · rfl
theorem putT_up {es : List Ent} {e : Ent} (h : Up es) : Up (putT es e) := by
  unfold putT
  cases ht : thereE es e.path
  · exact insAt_up h ht
  · refine asc_up ?_
    rw [if_pos rfl, set_paths ht]
    exact up_asc h
theorem snoc_ind {α : Type} {P : List α → Prop} (h0 : P []) (h1 : ∀ xs x, P xs → P (xs ++ [x])) : ∀ xs, P xs := fun xs => by
  have : ∀ ys : List α, P ys.reverse := fun ys => by
    induction ys with
    | nil => exact h0
    | cons y ys ih => rw [List.reverse_cons]; exact h1 _ _ ih
  have h := this xs.reverse
  rwa [List.reverse_reverse] at h
theorem putT_len (es : List Ent) (e : Ent) : (putT es e).length ≤ es.length + 1 := by
  unfold putT insAt
  split
  · simp
  · have := placeE_le es e.path; simp; omega
theorem putT_mem {es : List Ent} {e x : Ent} (hx : x ∈ putT es e) : x ∈ es ∨ x = e := by
  unfold putT insAt at hx
  split at hx
  · exact List.mem_or_eq_of_mem_set hx
  · simp only [List.mem_append, List.mem_singleton] at hx
    rcases hx with (h | h) | h
    · exact .inl (List.mem_of_mem_take h)
    · exact .inr h
    · exact .inl (List.mem_of_mem_drop h)
end Go.Proofs.YtoihhlkidlapmaaGreat

/- An entry put into a tree: what the program answers, and its model. -/
namespace Go.Proofs.YtoihhlkidlapmaaGreat
open Go.RowKit Go.Shelf

theorem tree_16 {es : List Ent} (h : treeB es = true) : es.length ≤ 16 := by
  have := (kept_asc es).2; rwa [keptE_yes h] at this
theorem tree_asc {es : List Ent} (h : treeB es = true) : Asc (pathsOf es) := by
  have := (kept_asc es).1; rwa [keptE_yes h] at this
theorem tree_all {es : List Ent} (h : treeB es = true) : ∀ x ∈ es, entB x = true := fun x hx => by
  obtain ⟨i, hi⟩ := List.getElem?_of_mem hx
  exact tree_ent h hi


end Go.Proofs.YtoihhlkidlapmaaGreat

/- The last name of a path; a path in a place; by the program and by its model. -/
namespace Go.Proofs.YtoihhlkidlapmaaGreat
open Go.RowKit Go.Shelf

end Go.Proofs.YtoihhlkidlapmaaGreat

/- A path in a place, and a path that is moved, by the program and by its model. -/
namespace Go.Proofs.YtoihhlkidlapmaaGreat
open Go.RowKit Go.Shelf

theorem cutB_sum (b : UInt8) : ∀ l : List UInt8, ((cutB b l).map fun p => p.length + 1).sum = l.length + 1
  | [] => by simp [cutB]
  | c :: l => by
    have ih := cutB_sum b l
    unfold cutB
    split
    · simp [ih]; omega
    · split
      · rename_i e; exact absurd e (cutB_ne b l)
      · rename_i h t e
        rw [e] at ih
        simp at ih ⊢; omega
theorem sum_le (l : List (List UInt8)) (h : ∀ p ∈ l, p.length ≤ 10) : (l.map fun p => p.length + 1).sum ≤ 11 * l.length := by
  induction l with
  | nil => simp
  | cons a l ih =>
    have h1 := h a (by simp)
    have h2 := ih (fun p hp => h p (by simp [hp]))
    simp; omega
theorem pathB_size (l : List UInt8) (h : pathB l = true) : l.length ≤ 54 := by
  simp only [pathB, Bool.and_eq_true, decide_eq_true_eq, List.all_eq_true] at h
  have h1 := cutB_sum 47 l
  have h2 := sum_le (cutB 47 l) (fun p hp => by
    have := h.2 p hp
    simp only [nameOkB, Bool.and_eq_true, decide_eq_true_eq] at this
    exact this.1.1.1.2)
  omega

/-- A text is a place, or begins with it and a slash. -/
def belowB (p s : List UInt8) : Bool := (s == p) || Lib.hasPrefix s (p ++ [47])

theorem belowB_eq (p s : List UInt8) : belowB p s = ((s == p) || (decide (p.length < s.length) && (s.take p.length == p) && (s[p.length]? == some 47))) := by
  unfold belowB Lib.hasPrefix
  congr 1
  rw [Bool.eq_iff_iff]
  simp only [List.isPrefixOf_iff_prefix, Bool.and_eq_true, decide_eq_true_eq, beq_iff_eq]
  constructor
  · rintro ⟨t, rfl⟩
    simp
  · rintro ⟨⟨h1, h2⟩, h3⟩
    refine ⟨s.drop (p.length + 1), ?_⟩
    have h4 : s = s.take p.length ++ s.drop p.length := (List.take_append_drop _ _).symm
    have h5 : s.drop p.length = s[p.length] :: s.drop (p.length + 1) := List.drop_eq_getElem_cons h1
    rw [List.getElem?_eq_getElem h1] at h3
    simp at h3
    rw [h5, h2, h3] at h4
    rw [List.append_assoc]; exact h4.symm

theorem ret_bool {a b : Bool} (h : a = b) : Ending.returned (.bool a) = .returned (.bool b) := by rw [h]
theorem byte_47 (c : UInt8) : (some c == some 47) = ((c.toNat : Int) == 47) := by
  rw [Bool.eq_iff_iff]
  simp only [beq_iff_eq, Option.some.injEq]
  constructor
  · rintro rfl; rfl
  · intro h; exact UInt8.toNat_inj.1 (by simp; omega)

set_option maxRecDepth 100000 in
set_option maxHeartbeats 1000000 in
theorem l1Below_any (p s : ByteArray) (hp : p.size ≤ maxLen) (_hs : s.size ≤ maxLen) (w : World) :
    Calls Tryz.prog 177 #[.string p, .string s] w fun e w' => e = .returned (.bool (belowB p.data.toList s.data.toList)) ∧ w' = w := by
  unfold maxLen at _hs hp
  rw [belowB_eq, ← Lib.size_eq, ← Lib.size_eq]
  go_enter Tryz.func177, Tryz.ntmps177
  go_wp2
  · rename_i h1
    go_ret
    refine ⟨ret_bool ?_, rfl⟩
    rw [Lib.toList_data, Lib.toList_data] at h1
    simp [h1]
  · rename_i h1 h2 h3
    go_ret
    refine ⟨ret_bool ?_, rfl⟩
    rw [Lib.toList_data, Lib.toList_data] at h1 ⊢
    rw [Lib.extract_toList, Lib.toList_data] at h3
    rw [getByte s p.size h2, byte_47]
    simp at h3
    simp [h2, h3]
  · rename_i h1 h2 h3
    go_ret
    refine ⟨ret_bool ?_, rfl⟩
    rw [Lib.toList_data, Lib.toList_data] at h1 ⊢
    rw [Lib.extract_toList, Lib.toList_data] at h3
    simp at h3
    simp [h3]
  · rename_i h1 h2
    go_ret
    refine ⟨ret_bool ?_, rfl⟩
    rw [Lib.toList_data, Lib.toList_data] at h1 ⊢
    simp [h2]



end Go.Proofs.YtoihhlkidlapmaaGreat

/- What is left of a tree without a place, by the program. -/
namespace Go.Proofs.YtoihhlkidlapmaaGreat
open Go.RowKit Go.Shelf

attribute [local go_sem] Oper.semAt_some


theorem ent_path_len {e : Ent} (h : entB e = true) : e.path.size ≤ 54 := by
  unfold entB at h
  simp only [Bool.and_eq_true] at h
  have := pathB_size _ h.1
  rwa [Lib.size_eq]
end Go.Proofs.YtoihhlkidlapmaaGreat

/- What is left of a tree without a place, by the model. -/
namespace Go.Proofs.YtoihhlkidlapmaaGreat
open Go.RowKit Go.Shelf


end Go.Proofs.YtoihhlkidlapmaaGreat

/- What holds of paths as lists of bytes: what a path is in is a path; it is in that; moved, and back. -/
namespace Go.Proofs.YtoihhlkidlapmaaGreat



end Go.Proofs.YtoihhlkidlapmaaGreat

/- What holds of a path in a place, and of one that is moved. -/
namespace Go.Proofs.YtoihhlkidlapmaaGreat




end Go.Proofs.YtoihhlkidlapmaaGreat

/- What is in a place of a tree is there only if the place is. -/
namespace Go.Proofs.YtoihhlkidlapmaaGreat
open Go.RowKit Go.Shelf

theorem there_mem {es : List Ent} {x : Ent} (h : Up es) (hx : x ∈ es) : thereE es x.path = true ∧ entFn es (placeE es x.path) = x := by
  obtain ⟨i, hi⟩ := List.getElem?_of_mem hx
  obtain ⟨hil, he⟩ := List.getElem?_eq_some_iff.1 hi
  have hp : placeE es x.path = i := place_of es x.path i (Nat.le_of_lt hil) (fun j y hj hy => by
      obtain ⟨hjl, hyj⟩ := List.getElem?_eq_some_iff.1 hy
      have := List.pairwise_iff_getElem.1 h j i hjl hil hj
      rw [hyj, he] at this; exact this) (fun y hy => by rw [hi] at hy; cases hy; exact lt_irr _)
  refine ⟨?_, ?_⟩
  · unfold thereE; rw [hp, hi]; exact (eqS_iff _ _).2 rfl
  · rw [hp]; exact entFn_get hi
theorem tree_dir {es : List Ent} {x : Ent} (h : treeB es = true) (hx : x ∈ es) : dirE es (upS x.path) = true := by
  unfold treeB at h
  simp only [Bool.and_eq_true] at h
  obtain ⟨i, hi⟩ := List.getElem?_of_mem hx
  have := List.all_eq_true.1 h.1.2 i (List.mem_range.2 (List.getElem?_eq_some_iff.1 hi).1)
  rwa [entFn_get hi] at this


end Go.Proofs.YtoihhlkidlapmaaGreat
