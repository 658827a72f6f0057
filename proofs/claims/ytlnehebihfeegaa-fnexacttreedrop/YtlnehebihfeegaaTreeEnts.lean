/- The entries of a tree, in a row of their own. -/
import Derived.Test.YtlnehebihfeegaaRegionIn
import Derived.Test.YtlnehebihfeegaaTreeGet
namespace Go.Proofs.Ytlnehebihfeegaa
open Go.RowKit Go.Shelf

attribute [local go_sem] Oper.semAt_some

def valsOf (es : List Ent) : List Value := es.flatMap fun e => e.vals.toList

theorem cells_grown {W W' : World} {row : Option Nat} (hg : W.grownBy W' row) (hr : ∀ r, row = some r → ∃ o : Obj, W.heap[r]? = some o ∧ o.isCells = false) {b : Nat} {cs : Array Value} {t : TypeId} {f : Nat × Nat} (hb : W.heap[b]? = some (.cells cs t f)) : W'.heap[b]? = some (.cells cs t f) :=
  (hg.block b (Array.getElem?_eq_some_iff.1 hb).1 (fun e => by obtain ⟨o, ho, hc⟩ := hr b e.symm; rw [hb] at ho; cases ho; cases hc)).trans hb
theorem row_grown {W W' : World} {row : Option Nat} (hg : W.grownBy W' row) (hr : ∀ r, row = some r → ∃ o : Obj, W.heap[r]? = some o ∧ o.isCells = false) {N n size : Nat} {v : Value} {e : TypeId} {xs : List Value} (h : W.ownsRow N e size v n xs) : W'.ownsRow N e size v n xs :=
  ownsRow_kept h (fun g eg => by obtain ⟨cur, hc⟩ := row_cells h eg; rw [cells_grown hg hr hc, hc])
theorem valsOf_snoc (es : List Ent) (e : Ent) : valsOf (es ++ [e]) = valsOf es ++ e.vals.toList := by simp [valsOf]
theorem keepsOthers_of_grown {W W' : World} {row : Option Nat} (h : W.grownBy W' row) (hr : ∀ r, row = some r → ∃ cs t f, W.heap[r]? = some (.cells cs t f)) : KeepsOthers W W' :=
  ⟨h.size, fun k o hk hc => (h.block k (Array.getElem?_eq_some_iff.1 hk).1 (fun e => by obtain ⟨cs, t, f, hh⟩ := hr k e.symm; rw [hk] at hh; cases hh; cases hc)).trans hk⟩

theorem treeIn_kept {Bn bt N : Nat} {vp vn : Value} {es : List Ent} {W W' : World} (h : TreeIn Bn bt N vp vn es W) (hk : ∀ k, (k = Bn ∨ k = bt ∨ vp.ownBlock = some k ∨ vn.ownBlock = some k) → W'.heap[k]? = W.heap[k]?) : TreeIn Bn bt N vp vn es W' :=
  ⟨(World.cell?_of_block (a := ⟨Bn, 0, none⟩) (hk Bn (.inl rfl))).trans h.1, (hk bt (.inr (.inl rfl))).trans h.2.1, ownsRow_kept h.2.2.1 (fun g e => hk g (.inr (.inr (.inl e)))), ownsRow_kept h.2.2.2 (fun g e => hk g (.inr (.inr (.inr e))))⟩
theorem infoEntry : (Try.prog.info? 27).map (fun i => (i.zero, i.size, i.bytes)) = some (some (.agg #[.string ⟨#[]⟩, .int .i64 0, .int .i64 0, .string ⟨#[]⟩]), 4, 48) := by kernel_rfl
theorem ownsRow_base {W : World} {N N' n size : Nat} {v : Value} {e : TypeId} {xs : List Value} (h : W.ownsRow N e size v n xs) (hN : N' ≤ N) : W.ownsRow N' e size v n xs :=
  ⟨h.1, h.2.imp id (fun ⟨g, cap, cur, a, b, c⟩ => ⟨g, cap, cur, a, Nat.le_trans hN b, c⟩)⟩
theorem lit_cells (w1 : World) (a b c d : Value) (t : TypeId) : ∀ (j : Nat) (u : Value), [a, b, c, d][j]? = some u → (w1.alloc (.cells #[a, b, c, d] t)).cell? ((⟨w1.heap.size, 0, none⟩ : Addr).add j) = some u := by
  intro j u hj
  rw [Addr.add_lit, World.cell?_alloc_at _ _ _ _ rfl, Nat.zero_add]
  simpa using hj
/-- Behind one append to the list of a walk. -/
theorem inEnts_step {w W W3 w2 : World} {bt N : Nat} {vp vn v v' : Value} {es : List Ent} {pre : List { e : Ent // entB e = true }} {x : { e : Ent // entB e = true }} (hbt : bt < w.heap.size) (hrp : ∀ g, vp.ownBlock = some g → g < w.heap.size) (hrn : ∀ g, vn.ownBlock = some g → g < w.heap.size)
    (hv1 : W.heap[w.heap.size]? = some (.cells #[v] 23 (0, 0))) (hv2 : W.ownsRow (w.heap.size + 2) 27 4 v pre.length (valsOf (pre.map (·.1)))) (hT : TreeIn (w.heap.size + 1) bt N vp vn es W) (hB : Below w.heap.size w W)
    (hb3 : Below W.heap.size W W3) (hown : w2.ownsRow (w.heap.size + 2) 27 4 v' (pre.length + 1) (valsOf (pre.map (·.1)) ++ x.1.vals.toList)) (hg : W3.grownBy w2 v.ownBlock) :
    KeepsOthers W (w2.setCell ⟨w.heap.size, 0, none⟩ v') ∧ (TreeIn (w.heap.size + 1) bt N vp vn es W → TreeIn (w.heap.size + 1) bt N vp vn es (w2.setCell ⟨w.heap.size, 0, none⟩ v')) ∧ ((∃ v, (w2.setCell ⟨w.heap.size, 0, none⟩ v').heap[w.heap.size]? = some (.cells #[v] 23 (0, 0)) ∧ (w2.setCell ⟨w.heap.size, 0, none⟩ v').ownsRow (w.heap.size + 2) 27 4 v (pre ++ [x]).length (valsOf ((pre ++ [x]).map (·.1)))) ∧ TreeIn (w.heap.size + 1) bt N vp vn es (w2.setCell ⟨w.heap.size, 0, none⟩ v')) ∧ Below w.heap.size w (w2.setCell ⟨w.heap.size, 0, none⟩ v') := by
  have hBn := below_lt hT.1
  have hgo : ∀ g, v.ownBlock = some g → w.heap.size + 2 ≤ g := fun g e => (hv2.lt g e).1
  have hk2 : ∀ k, k < w.heap.size + 2 → w2.heap[k]? = W.heap[k]? := fun k hk => (hg.block k (Nat.lt_of_lt_of_le (by omega) hb3.size) (fun e => by have := hgo k e.symm; omega)).trans (hb3.block k (by omega))
  have hbox2 : w2.heap[w.heap.size]? = some (.cells #[v] 23 (0, 0)) := (hk2 _ (by omega)).trans hv1
  have hT2 : TreeIn (w.heap.size + 1) bt N vp vn es (w2.setCell ⟨w.heap.size, 0, none⟩ v') := treeIn_kept hT (fun k hk => by
    have hkl : k < w.heap.size + 2 ∧ k ≠ w.heap.size := by
      rcases hk with rfl | rfl | h | h
      · omega
      · omega
      · have := hrp k h; omega
      · have := hrn k h; omega
    exact (Below.heap_setCell _ _ _ _ hkl.2).trans (hk2 k hkl.1))
  refine ⟨((KeepsOthers_of_below hb3).trans (keepsOthers_of_grown hg (fun r e => ?_))).trans (KeepsOthers.setCell _ _ _), fun _ => hT2, ⟨⟨v', by rw [heap_setCell_same _ _ 0 _ _ _ hbox2]; rfl, ?_⟩, hT2⟩, ?_⟩
  · obtain ⟨cur, hc⟩ := row_cells hv2 e
    exact ⟨_, _, _, (hb3.block r (hv2.lt r e).2).trans hc⟩
  · rw [List.length_append, List.map_append, List.map_singleton, valsOf_snoc]
    exact ownsRow_kept hown (fun g e => Below.heap_setCell _ _ _ _ (fun eq => by have := (hown.lt g e).1; have eq' : g = w.heap.size := eq; omega))
  · exact (((hB.trans (hb3.mono hB.size)).grown hg (Nat.le_trans hB.size hb3.size) (fun k e => by have := hgo k e; omega))).setCell (Nat.le_refl _) _
/-- What the rounds of a tree's walk keep: the box of the list, the list, the tree. -/
def InEnts (w : World) (bt N : Nat) (vp vn : Value) (es : List Ent) (pre : List { e : Ent // entB e = true }) (W : World) : Prop :=
  (∃ v, W.heap[w.heap.size]? = some (.cells #[v] 23 (0, 0)) ∧ W.ownsRow (w.heap.size + 2) 27 4 v pre.length (valsOf (pre.map (·.1)))) ∧ TreeIn (w.heap.size + 1) bt N vp vn es W

set_option maxRecDepth 100000 in
set_option maxHeartbeats 4000000 in
theorem entries_any (N bt : Nat) (es : List Ent) (w : World) (hn : es.length ≤ 1000) (he : ∀ e ∈ es, entB e = true) (h : TreeAt w N bt es) :
    Calls Try.prog 47 #[.pointer (some ⟨bt, 0, .none⟩)] w fun x w' => ∃ v, x = .returned v ∧ w'.ownsRow w.heap.size 27 4 v es.length (valsOf es) ∧ Below w.heap.size w w' := by
  obtain ⟨vp, vn, h1, h2, h3⟩ := h
  refine (callsIn_wide (n := 3)).1 ?_
  refine callsIn_of_wp_marks Try.func47 rfl trivial ?_ rfl
  simp only [Try.ntmps47, List.size_toArray, List.length_cons, List.length_nil, Nat.reduceAdd, Nat.reduceSub, Array.replicate_succ, Array.replicate_zero, List.push_toArray, List.append_toArray, List.nil_append, List.cons_append]
  gi_wp2_with (refine ⟨trivial, ?_⟩; gi_at_call 53; refine (all_in Fence.wide _ trivial rfl _ _).mono ?_; rintro e w' ⟨rfl, rfl⟩)
  have hBw : Below w.heap.size w ((w.alloc (.cells #[.slice none 0 0] 23)).alloc (.cells #[.pointer (some ⟨bt, 0, none⟩)] 99)) := ((Below.refl _ w).alloc (Nat.le_refl _) _).alloc (by simp) _
  have hTI : TreeIn (w.heap.size + 1) bt N vp vn es ((w.alloc (.cells #[.slice none 0 0] 23)).alloc (.cells #[.pointer (some ⟨bt, 0, none⟩)] 99)) :=
    ⟨by have := (cell_new_l (w.alloc (.cells #[.slice none 0 0] 23)) (.pointer (some ⟨bt, 0, none⟩)) 99).1; rwa [World.size_alloc] at this,
     (hBw.block bt (Array.getElem?_eq_some_iff.1 h1).1).trans h1, ownsRow_kept h2 (fun g e => hBw.block g (h2.lt g e).2), ownsRow_kept h3 (fun g e => hBw.block g (h3.lt g e).2)⟩
  refine wpIn_rangeFunc_ownF rfl (by omega) (gf := 82) (lb := #[.pointer (some ⟨w.heap.size + 1, 0, none⟩)]) rfl trivial (enters_of Try.func82 (by kernel_rfl) rfl)
    (all_stops Fence.wide _ trivial rfl (by omega) (w.heap.size + 1) bt N vp vn es hn (fun e => entB e = true) he _ hTI) (fun h g x => g (h x)) (fun W l o o' _ hl hc _ h => treeIn_grown h (grownBy_putObj' _ l o') (fun r e => by cases e; exact ⟨_, hl, hc⟩)) (Below.refl _ _) (fun _ => rfl)
    (fun pre W => InEnts w bt N vp vn es pre W ∧ Below w.heap.size w W)
    (fun _ _ _ => False)
    (OwnFrom.and (Own.from (fun s A B row hs hg hr => ⟨by obtain ⟨v, hv1, hv2⟩ := hs.1; exact ⟨v, cells_grown hg hr hv1, row_grown hg hr hv2⟩, treeIn_grown hs.2 hg hr⟩) _) (ownFrom_below (Nat.le_refl _) (by simp; omega)))
    (fun c => fun _ _ _ _ h _ _ => h)
    ⟨⟨⟨.slice none 0 0, (Below.heap_alloc _ _ _ (by simp)).trans (World.alloc_heap_new w _), World.ownsRow_nil _ _ _ _⟩, hTI⟩, hBw⟩
    (fun x => { tmps := #[.pointer (some ⟨bt, 0, none⟩), undef, .slice none 0 0, .pointer (some ⟨w.heap.size, 0, none⟩), .string x.1.path, nodeV x.1, .pointer (some ⟨bt, 0, none⟩), .pointer (some ⟨bt, 0, none⟩), .pointer (some ⟨bt, 0, none⟩), .func (.func 82) #[] #[.pointer (some ⟨w.heap.size + 1, 0, none⟩)], .string x.1.path, nodeV x.1, undef, undef, undef, undef, undef, undef, undef], defers := [] }) ?assign ?body ?done ?stop
  case assign =>
    intro l x W K hK
    gi_wp2
    exact hK
  case stop => intro D c pre W _ _ h _; exact h.elim
  case body =>
    rintro l pre ⟨e, hx⟩ W ⟨⟨⟨v, hv1, hv2⟩, hTI2⟩, hB⟩ hpl
    dsimp only
    obtain ⟨av, capv, rfl⟩ := ownsRow_slice hv2
    have ENT := hid (fun W => entryOf_any e hx W)
    obtain ⟨T0, nv, hnv⟩ := nodeV_shape e
    rw [hnv] at ENT ⊢
    obtain ⟨i0, hi0, hz0, hzs, hzb⟩ := info_parts infoEntry
    refine wpIn_block ?_
    refine region_in (by kernel_rfl) (by kernel_rfl) (by rintro ⟨_, _, h⟩; exact h) ?_
    refine wpAny_take (i := 1) (v := .string e.path) rfl (by kernel_rfl) (by kernel_rfl) (by kernel_rfl) (fun _ _ _ h => h) (Or.inl ⟨by rfl, fun w => by go_simp⟩) ?_
    refine wpAny_take (i := 2) (v := .iface T0 nv) rfl (by kernel_rfl) (by kernel_rfl) (by kernel_rfl) (fun _ _ _ h => h) (Or.inl ⟨by rfl, fun w => by go_simp⟩) ?_
    refine wpAny_ready (rs := [0, 3]) (by kernel_rfl) (by simp) ?_
    refine AllReady.cons rfl (fun K hK => ?_) (AllReady.cons rfl (fun K hK => ?_) AllReady.nil)
    · have c0 := (cell_of_box_l hv1).1
      go_simp
      refine hK _ _ ?_
      clear hK K
      refine wpAny_ready (rs := [3]) (by kernel_rfl) (by simp) ?_
      refine AllReady.cons rfl (fun K hK => ?_) AllReady.nil
      go_simp
      refine (unhid ENT _).mono ?_
      rintro r w1 ⟨rfl, hB1⟩
      refine hK _ _ ?_
      clear hK K
      have hb1 : Below W.heap.size W w1 := ((Below.refl _ W).drew).trans hB1
      have hlw := (Array.getElem?_eq_some_iff.1 hv1).1
      have c1 : w1.cell? ⟨w.heap.size, 0, none⟩ = some (.slice av pre.length capv) := (cell_of_box_l ((hb1.block _ hlw).trans hv1)).1
      unfold Ent.vals
      refine wpAny_ready (rs := [4]) (by kernel_rfl) (by simp) ?_
      refine AllReady.cons rfl (fun K hK => ?_) AllReady.nil
      go_simp
      refine hK _ _ ?_
      clear hK K
      have hb3 : Below W.heap.size W (w1.alloc (.cells #[.string e.path, .int .i64 e.kind, .int .i64 e.mode, .string e.text] 27)) := hb1.trans ((Below.refl _ w1).alloc hb1.size _)
      have hv3 := ownsRow_kept hv2 (fun g e => hb3.block g (hv2.lt g e).2)
      have hbx3 := (hb3.block _ hlw).trans hv1
      refine wpAny_ready (rs := [5]) (by kernel_rfl) (by simp) ?_
      refine AllReady.cons rfl (fun K hK => ?_) AllReady.nil
      rw [if_pos (by kernel_rfl)]
      refine wp_append_own _ _ _ 23 rfl (w.heap.size + 2) 27 i0 _ 4 48 Try.underlying23 hi0 hz0 hzs hzb rfl (by decide) _ pre.length _ rfl hv3 ⟨w1.heap.size, 0, none⟩ 1 1 [.string e.path, .int .i64 e.kind, .int .i64 e.mode, .string e.text] rfl rfl ?_ ?_ ?_ ?_ ?_ ?_
      · exact lit_cells w1 _ _ _ _ _
      · intro u hu; simp at hu; rcases hu with rfl | rfl | rfl | rfl <;> rfl
      · unfold maxLen; omega
      · omega
      · have := below_lt hTI2.1; have := hb3.size; omega
      · intro v' w2 hown hg _
        obtain ⟨a2, cap2, rfl⟩ := ownsRow_slice hown
        refine hK _ _ ?_
        clear hK K
        have FIN := inEnts_step (x := ⟨e, hx⟩) (Array.getElem?_eq_some_iff.1 h1).1 (fun g eg => (h2.lt g eg).2) (fun g eg => (h3.lt g eg).2) hv1 hv2 hTI2 hB hb3 hown hg
        have hbx2 : w2.heap[w.heap.size]? = some (.cells #[.slice av pre.length capv] 23 (0, 0)) := (hg.block _ (by simp; have := hb1.size; omega) (fun eg => by have := (hv2.lt _ eg.symm).1; omega)).trans hbx3
        obtain ⟨k0, k1⟩ := cell_of_box_l hbx2
        have HF := hid FIN
        clear FIN hown hg
        refine wpAny_ready (rs := [6]) (by kernel_rfl) (by simp) ?_
        refine AllReady.cons rfl (fun K hK => ?_) AllReady.nil
        go_simp
        refine hK _ _ ?_
        clear hK K
        refine wpAny_done (by kernel_rfl) ?_ _
        have HFF := unhid HF
        exact HFF
    · go_simp
      refine (unhid ENT _).mono ?_
      rintro r w1 ⟨rfl, hB1⟩
      refine hK _ _ ?_
      clear hK K
      have hb1 : Below W.heap.size W w1 := ((Below.refl _ W).drew).trans hB1
      have hlw := (Array.getElem?_eq_some_iff.1 hv1).1
      have c1 : w1.cell? ⟨w.heap.size, 0, none⟩ = some (.slice av pre.length capv) := (cell_of_box_l ((hb1.block _ hlw).trans hv1)).1
      unfold Ent.vals
      refine wpAny_ready (rs := [0, 4]) (by kernel_rfl) (by simp) ?_
      refine AllReady.cons rfl (fun K hK => ?_) (AllReady.cons rfl (fun K hK => ?_) AllReady.nil)
      · go_simp
        refine hK _ _ ?_
        clear hK K
        refine wpAny_ready (rs := [4]) (by kernel_rfl) (by simp) ?_
        refine AllReady.cons rfl (fun K hK => ?_) AllReady.nil
        go_simp
        refine hK _ _ ?_
        clear hK K
        have hb3 : Below W.heap.size W (w1.alloc (.cells #[.string e.path, .int .i64 e.kind, .int .i64 e.mode, .string e.text] 27)) := hb1.trans ((Below.refl _ w1).alloc hb1.size _)
        have hv3 := ownsRow_kept hv2 (fun g e => hb3.block g (hv2.lt g e).2)
        have hbx3 := (hb3.block _ hlw).trans hv1
        refine wpAny_ready (rs := [5]) (by kernel_rfl) (by simp) ?_
        refine AllReady.cons rfl (fun K hK => ?_) AllReady.nil
        rw [if_pos (by kernel_rfl)]
        refine wp_append_own _ _ _ 23 rfl (w.heap.size + 2) 27 i0 _ 4 48 Try.underlying23 hi0 hz0 hzs hzb rfl (by decide) _ pre.length _ rfl hv3 ⟨w1.heap.size, 0, none⟩ 1 1 [.string e.path, .int .i64 e.kind, .int .i64 e.mode, .string e.text] rfl rfl ?_ ?_ ?_ ?_ ?_ ?_
        · exact lit_cells w1 _ _ _ _ _
        · intro u hu; simp at hu; rcases hu with rfl | rfl | rfl | rfl <;> rfl
        · unfold maxLen; omega
        · omega
        · have := below_lt hTI2.1; have := hb3.size; omega
        · intro v' w2 hown hg _
          obtain ⟨a2, cap2, rfl⟩ := ownsRow_slice hown
          refine hK _ _ ?_
          clear hK K
          have FIN := inEnts_step (x := ⟨e, hx⟩) (Array.getElem?_eq_some_iff.1 h1).1 (fun g eg => (h2.lt g eg).2) (fun g eg => (h3.lt g eg).2) hv1 hv2 hTI2 hB hb3 hown hg
          have hbx2 : w2.heap[w.heap.size]? = some (.cells #[.slice av pre.length capv] 23 (0, 0)) := (hg.block _ (by simp; have := hb1.size; omega) (fun eg => by have := (hv2.lt _ eg.symm).1; omega)).trans hbx3
          obtain ⟨k0, k1⟩ := cell_of_box_l hbx2
          have HF := hid FIN
          clear FIN hown hg
          refine wpAny_ready (rs := [6]) (by kernel_rfl) (by simp) ?_
          refine AllReady.cons rfl (fun K hK => ?_) AllReady.nil
          go_simp
          refine hK _ _ ?_
          clear hK K
          refine wpAny_done (by kernel_rfl) ?_ _
          have HFF := unhid HF
          exact HFF
      · go_simp
        refine hK _ _ ?_
        clear hK K
        have c3 : (w1.alloc (.cells #[.string e.path, .int .i64 e.kind, .int .i64 e.mode, .string e.text] 27)).cell? ⟨w.heap.size, 0, none⟩ = some (.slice av pre.length capv) := cell_alloc_l _ c1
        refine wpAny_ready (rs := [0]) (by kernel_rfl) (by simp) ?_
        refine AllReady.cons rfl (fun K hK => ?_) AllReady.nil
        go_simp
        refine hK _ _ ?_
        clear hK K
        have hb3 : Below W.heap.size W (w1.alloc (.cells #[.string e.path, .int .i64 e.kind, .int .i64 e.mode, .string e.text] 27)) := hb1.trans ((Below.refl _ w1).alloc hb1.size _)
        have hv3 := ownsRow_kept hv2 (fun g e => hb3.block g (hv2.lt g e).2)
        have hbx3 := (hb3.block _ hlw).trans hv1
        refine wpAny_ready (rs := [5]) (by kernel_rfl) (by simp) ?_
        refine AllReady.cons rfl (fun K hK => ?_) AllReady.nil
        rw [if_pos (by kernel_rfl)]
        refine wp_append_own _ _ _ 23 rfl (w.heap.size + 2) 27 i0 _ 4 48 Try.underlying23 hi0 hz0 hzs hzb rfl (by decide) _ pre.length _ rfl hv3 ⟨w1.heap.size, 0, none⟩ 1 1 [.string e.path, .int .i64 e.kind, .int .i64 e.mode, .string e.text] rfl rfl ?_ ?_ ?_ ?_ ?_ ?_
        · exact lit_cells w1 _ _ _ _ _
        · intro u hu; simp at hu; rcases hu with rfl | rfl | rfl | rfl <;> rfl
        · unfold maxLen; omega
        · omega
        · have := below_lt hTI2.1; have := hb3.size; omega
        · intro v' w2 hown hg _
          obtain ⟨a2, cap2, rfl⟩ := ownsRow_slice hown
          refine hK _ _ ?_
          clear hK K
          have FIN := inEnts_step (x := ⟨e, hx⟩) (Array.getElem?_eq_some_iff.1 h1).1 (fun g eg => (h2.lt g eg).2) (fun g eg => (h3.lt g eg).2) hv1 hv2 hTI2 hB hb3 hown hg
          have hbx2 : w2.heap[w.heap.size]? = some (.cells #[.slice av pre.length capv] 23 (0, 0)) := (hg.block _ (by simp; have := hb1.size; omega) (fun eg => by have := (hv2.lt _ eg.symm).1; omega)).trans hbx3
          obtain ⟨k0, k1⟩ := cell_of_box_l hbx2
          have HF := hid FIN
          clear FIN hown hg
          refine wpAny_ready (rs := [6]) (by kernel_rfl) (by simp) ?_
          refine AllReady.cons rfl (fun K hK => ?_) AllReady.nil
          go_simp
          refine hK _ _ ?_
          clear hK K
          refine wpAny_done (by kernel_rfl) ?_ _
          have HFF := unhid HF
          exact HFF
  case done =>
    rintro D ys W hD hys ⟨⟨⟨v, hv1, hv2⟩, hTI2⟩, hB⟩ hK
    have c0 := (cell_of_box_l hv1).1
    gi_wp2
    refine ⟨by simp, .inl ⟨_, _, rfl, run_takeDeferred hK, ?_⟩⟩
    have hg := grownBy_putObj' W D (.deferred none)
    have hr : ∀ r, some D = some r → ∃ o : Obj, W.heap[r]? = some o ∧ o.isCells = false := fun r e => by cases e; exact ⟨_, hK, rfl⟩
    have hyl : ys.length = es.length := by rw [← hys, List.length_map]
    rw [hys, hyl] at hv2
    refine ⟨v, ?_, v, rfl, ownsRow_base (row_grown hg hr hv2) (by omega), hB.trans (belowK_b (w := w) (Nat.le_refl _) _ D _ _ (by simp at hD; omega) hK rfl rfl)⟩
    simp [results, Try.f47, go_sem]
end Go.Proofs.Ytlnehebihfeegaa
