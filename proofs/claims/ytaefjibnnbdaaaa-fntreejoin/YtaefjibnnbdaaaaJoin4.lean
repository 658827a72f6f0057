/- Texts of this proof, one behind the other; each says at its head what it shows. -/
import Derived.Test.YtaefjibnnbdaaaaJoin3
import Derived.Test.YtaefjibnnbdaaaaJoin2
import Derived.Laws.IdiomStrings
import Derived.Shelf.Spec.SlicesInsertGrow
/- The entries of a tree, in a row of their own. -/
namespace Go.Proofs.Ytaefjibnnbdaaaa
open Go.RowKit Go.Shelf

attribute [local go_sem] Oper.semAt_some

def valsOf (es : List Ent) : List Value := es.flatMap fun e => e.vals.toList

theorem cells_grown {W W' : World} {row : Option Nat} (hg : W.grownBy W' row) (hr : ∀ r, row = some r → ∃ o : Obj, W.heap[r]? = some o ∧ o.isCells = false) {b : Nat} {cs : Array Value} {t : TypeId} {f : Nat × Nat} (hb : W.heap[b]? = some (.cells cs t f)) : W'.heap[b]? = some (.cells cs t f) :=
  (hg.block b (Array.getElem?_eq_some_iff.1 hb).1 (fun e => by obtain ⟨o, ho, hc⟩ := hr b e.symm; rw [hb] at ho; cases ho; cases hc)).trans hb
theorem row_grown {W W' : World} {row : Option Nat} (hg : W.grownBy W' row) (hr : ∀ r, row = some r → ∃ o : Obj, W.heap[r]? = some o ∧ o.isCells = false) {N n size : Nat} {v : Value} {e : TypeId} {xs : List Value} (h : W.ownsRow N e size v n xs) : W'.ownsRow N e size v n xs :=
  ownsRow_kept h (fun g eg => by obtain ⟨cur, hc⟩ := row_cells h eg; rw [cells_grown hg hr hc, hc])
theorem valsOf_snoc (es : List Ent) (e : Ent) : valsOf (es ++ [e]) = valsOf es ++ e.vals.toList := by simp [valsOf]
theorem keepsOthers_of_grown {W W' : World} {row : Option Nat} (h : W.grownBy W' row) (hr : ∀ r, row = some r → ∃ cs t f, W.heap[r]? = some (.cells cs t f)) : KeepsOthers W W' :=
  ⟨h.size, fun k o hk hc => (h.block k (Array.getElem?_eq_some_iff.1 hk).1 (fun e => by obtain ⟨cs, t, f, hh⟩ := hr k e.symm; rw [hk] at hh; cases hh; cases hc)).trans hk⟩

theorem treeIn_kept {Bn bt N : Nat} {vp vn : Value} {es : List Ent} {W W' : World} (h : TreeIn Bn bt N vp vn es W) (hk : ∀ k, (k = Bn ∨ k = bt ∨ vp.ownBlock = some k ∨ vn.ownBlock = some k) → W'.heap[k]? = W.heap[k]?) : TreeIn Bn bt N vp vn es W' :=
  ⟨(World.cell?_of_block (a := ⟨Bn, 0, none⟩) (hk Bn (.inl rfl))).trans h.1, (hk bt (.inr (.inl rfl))).trans h.2.1, ownsRow_kept h.2.2.1 (fun g e => hk g (.inr (.inr (.inl e)))), ownsRow_kept h.2.2.2 (fun g e => hk g (.inr (.inr (.inr e))))⟩
theorem infoEntry : (Try.prog.info? 27).map (fun i => (i.zero, i.size, i.bytes)) = some (some (.agg #[.string ⟨#[]⟩, .int .i64 0, .int .i64 0, .string ⟨#[]⟩]), 4, 48) := by kernel_rfl
theorem ownsRow_base {W : World} {N N' n size : Nat} {v : Value} {e : TypeId} {xs : List Value} (h : W.ownsRow N e size v n xs) (hN : N' ≤ N) : W.ownsRow N' e size v n xs :=
  ⟨h.1, h.2.imp id (fun ⟨g, cap, cur, a, b, c⟩ => ⟨g, cap, cur, a, Nat.le_trans hN b, c⟩)⟩
theorem lit_cells (w1 : World) (a b c d : Value) (t : TypeId) : ∀ (j : Nat) (u : Value), [a, b, c, d][j]? = some u → (w1.alloc (.cells #[a, b, c, d] t)).cell? ((⟨w1.heap.size, 0, none⟩ : Addr).add j) = some u := by
  intro j u hj
  rw [Addr.add_lit, World.cell?_alloc_at _ _ _ _ rfl, Nat.zero_add]
  simpa using hj
/-- Behind one append to the list of a walk. -/
theorem inEnts_step {w W W3 w2 : World} {bt N : Nat} {vp vn v v' : Value} {es : List Ent} {pre : List { e : Ent // entB e = true }} {x : { e : Ent // entB e = true }} (hbt : bt < w.heap.size) (hrp : ∀ g, vp.ownBlock = some g → g < w.heap.size) (hrn : ∀ g, vn.ownBlock = some g → g < w.heap.size)
    (hv1 : W.heap[w.heap.size]? = some (.cells #[v] 23 (0, 0))) (hv2 : W.ownsRow (w.heap.size + 2) 27 4 v pre.length (valsOf (pre.map (·.1)))) (hT : TreeIn (w.heap.size + 1) bt N vp vn es W) (hB : Below w.heap.size w W)
    (hb3 : Below W.heap.size W W3) (hown : w2.ownsRow (w.heap.size + 2) 27 4 v' (pre.length + 1) (valsOf (pre.map (·.1)) ++ x.1.vals.toList)) (hg : W3.grownBy w2 v.ownBlock) :
    KeepsOthers W (w2.setCell ⟨w.heap.size, 0, none⟩ v') ∧ (TreeIn (w.heap.size + 1) bt N vp vn es W → TreeIn (w.heap.size + 1) bt N vp vn es (w2.setCell ⟨w.heap.size, 0, none⟩ v')) ∧ ((∃ v, (w2.setCell ⟨w.heap.size, 0, none⟩ v').heap[w.heap.size]? = some (.cells #[v] 23 (0, 0)) ∧ (w2.setCell ⟨w.heap.size, 0, none⟩ v').ownsRow (w.heap.size + 2) 27 4 v (pre ++ [x]).length (valsOf ((pre ++ [x]).map (·.1)))) ∧ TreeIn (w.heap.size + 1) bt N vp vn es (w2.setCell ⟨w.heap.size, 0, none⟩ v')) ∧ Below w.heap.size w (w2.setCell ⟨w.heap.size, 0, none⟩ v') := by
  have hBn := below_lt hT.1
  have hgo : ∀ g, v.ownBlock = some g → w.heap.size + 2 ≤ g := fun g e => (hv2.lt g e).1
  have hk2 : ∀ k, k < w.heap.size + 2 → w2.heap[k]? = W.heap[k]? := fun k hk => (hg.block k (Nat.lt_of_lt_of_le (by omega) hb3.size) (fun e => by have := hgo k e.symm; omega)).trans (hb3.block k (by omega))
  have hbox2 : w2.heap[w.heap.size]? = some (.cells #[v] 23 (0, 0)) := (hk2 _ (by omega)).trans hv1
  have hT2 : TreeIn (w.heap.size + 1) bt N vp vn es (w2.setCell ⟨w.heap.size, 0, none⟩ v') := treeIn_kept hT (fun k hk => by
    have hkl : k < w.heap.size + 2 ∧ k ≠ w.heap.size := by
      rcases hk with rfl | rfl | h | h
      · omega
      · omega
      · have := hrp k h; omega
      · have := hrn k h; omega
    exact (Below.heap_setCell _ _ _ _ hkl.2).trans (hk2 k hkl.1))
  refine ⟨((KeepsOthers_of_below hb3).trans (keepsOthers_of_grown hg (fun r e => ?_))).trans (KeepsOthers.setCell _ _ _), fun _ => hT2, ⟨⟨v', by rw [heap_setCell_same _ _ 0 _ _ _ hbox2]; rfl, ?_⟩, hT2⟩, ?_⟩
  · obtain ⟨cur, hc⟩ := row_cells hv2 e
    exact ⟨_, _, _, (hb3.block r (hv2.lt r e).2).trans hc⟩
  · rw [List.length_append, List.map_append, List.map_singleton, valsOf_snoc]
    exact ownsRow_kept hown (fun g e => Below.heap_setCell _ _ _ _ (fun eq => by have := (hown.lt g e).1; have eq' : g = w.heap.size := eq; omega))
  · exact (((hB.trans (hb3.mono hB.size)).grown hg (Nat.le_trans hB.size hb3.size) (fun k e => by have := hgo k e; omega))).setCell (Nat.le_refl _) _
/-- What the rounds of a tree's walk keep: the box of the list, the list, the tree. -/
def InEnts (w : World) (bt N : Nat) (vp vn : Value) (es : List Ent) (pre : List { e : Ent // entB e = true }) (W : World) : Prop :=
  (∃ v, W.heap[w.heap.size]? = some (.cells #[v] 23 (0, 0)) ∧ W.ownsRow (w.heap.size + 2) 27 4 v pre.length (valsOf (pre.map (·.1)))) ∧ TreeIn (w.heap.size + 1) bt N vp vn es W

set_option maxRecDepth 100000 in
set_option maxHeartbeats 4000000 in
theorem entries_any (N bt : Nat) (es : List Ent) (w : World) (hn : es.length ≤ 1000) (he : ∀ e ∈ es, entB e = true) (h : TreeAt w N bt es) :
    Calls Try.prog 50 #[.pointer (some ⟨bt, 0, .none⟩)] w fun x w' => ∃ v, x = .returned v ∧ w'.ownsRow w.heap.size 27 4 v es.length (valsOf es) ∧ Below w.heap.size w w' := by
  obtain ⟨vp, vn, h1, h2, h3⟩ := h
  refine (callsIn_wide (n := 3)).1 ?_
  refine callsIn_of_wp_marks Try.func50 rfl trivial ?_ rfl
  simp only [Try.ntmps50, List.size_toArray, List.length_cons, List.length_nil, Nat.reduceAdd, Nat.reduceSub, Array.replicate_succ, Array.replicate_zero, List.push_toArray, List.append_toArray, List.nil_append, List.cons_append]
  gi_wp2_with (refine ⟨trivial, ?_⟩; gi_at_call 56; refine (all_in Fence.wide _ trivial rfl _ _).mono ?_; rintro e w' ⟨rfl, rfl⟩)
  have hBw : Below w.heap.size w ((w.alloc (.cells #[.slice none 0 0] 23)).alloc (.cells #[.pointer (some ⟨bt, 0, none⟩)] 104)) := ((Below.refl _ w).alloc (Nat.le_refl _) _).alloc (by simp) _
  have hTI : TreeIn (w.heap.size + 1) bt N vp vn es ((w.alloc (.cells #[.slice none 0 0] 23)).alloc (.cells #[.pointer (some ⟨bt, 0, none⟩)] 104)) :=
    ⟨by have := (cell_new_l (w.alloc (.cells #[.slice none 0 0] 23)) (.pointer (some ⟨bt, 0, none⟩)) 104).1; rwa [World.size_alloc] at this,
     (hBw.block bt (Array.getElem?_eq_some_iff.1 h1).1).trans h1, ownsRow_kept h2 (fun g e => hBw.block g (h2.lt g e).2), ownsRow_kept h3 (fun g e => hBw.block g (h3.lt g e).2)⟩
  refine wpIn_rangeFunc_ownF rfl (by omega) (gf := 87) (lb := #[.pointer (some ⟨w.heap.size + 1, 0, none⟩)]) rfl trivial (enters_of Try.func87 (by kernel_rfl) rfl)
    (all_stops Fence.wide _ trivial rfl (by omega) (w.heap.size + 1) bt N vp vn es hn (fun e => entB e = true) he _ hTI) (fun h g x => g (h x)) (fun W l o o' _ hl hc _ h => treeIn_grown h (grownBy_putObj' _ l o') (fun r e => by cases e; exact ⟨_, hl, hc⟩)) (Below.refl _ _) (fun _ => rfl)
    (fun pre W => InEnts w bt N vp vn es pre W ∧ Below w.heap.size w W)
    (fun _ _ _ => False)
    (OwnFrom.and (Own.from (fun s A B row hs hg hr => ⟨by obtain ⟨v, hv1, hv2⟩ := hs.1; exact ⟨v, cells_grown hg hr hv1, row_grown hg hr hv2⟩, treeIn_grown hs.2 hg hr⟩) _) (ownFrom_below (Nat.le_refl _) (by simp; omega)))
    (fun c => fun _ _ _ _ h _ _ => h)
    ⟨⟨⟨.slice none 0 0, (Below.heap_alloc _ _ _ (by simp)).trans (World.alloc_heap_new w _), World.ownsRow_nil _ _ _ _⟩, hTI⟩, hBw⟩
    (fun x => { tmps := #[.pointer (some ⟨bt, 0, none⟩), undef, .slice none 0 0, .pointer (some ⟨w.heap.size, 0, none⟩), .string x.1.path, nodeV x.1, .pointer (some ⟨bt, 0, none⟩), .pointer (some ⟨bt, 0, none⟩), .pointer (some ⟨bt, 0, none⟩), .func (.func 87) #[] #[.pointer (some ⟨w.heap.size + 1, 0, none⟩)], .string x.1.path, nodeV x.1, undef, undef, undef, undef, undef, undef, undef], defers := [] }) ?assign ?body ?done ?stop
  case assign =>
    intro l x W K hK
    gi_wp2
    exact hK
  case stop => intro D c pre W _ _ h _; exact h.elim
  case body =>
    rintro l pre ⟨e, hx⟩ W ⟨⟨⟨v, hv1, hv2⟩, hTI2⟩, hB⟩ hpl
    dsimp only
    obtain ⟨av, capv, rfl⟩ := ownsRow_slice hv2
    have ENT := hid (fun W => entryOf_any e hx W)
    obtain ⟨T0, nv, hnv⟩ := nodeV_shape e
    rw [hnv] at ENT ⊢
    obtain ⟨i0, hi0, hz0, hzs, hzb⟩ := info_parts infoEntry
    refine wpIn_block ?_
    refine region_in (by kernel_rfl) (by kernel_rfl) (by rintro ⟨_, _, h⟩; exact h) ?_
    refine wpAny_take (i := 1) (v := .string e.path) rfl (by kernel_rfl) (by kernel_rfl) (by kernel_rfl) (fun _ _ _ h => h) (Or.inl ⟨by rfl, fun w => by go_simp⟩) ?_
    refine wpAny_take (i := 2) (v := .iface T0 nv) rfl (by kernel_rfl) (by kernel_rfl) (by kernel_rfl) (fun _ _ _ h => h) (Or.inl ⟨by rfl, fun w => by go_simp⟩) ?_
    refine wpAny_ready (rs := [0, 3]) (by kernel_rfl) (by simp) ?_
    refine AllReady.cons rfl (fun K hK => ?_) (AllReady.cons rfl (fun K hK => ?_) AllReady.nil)
    · have c0 := (cell_of_box_l hv1).1
      go_simp
      refine hK _ _ ?_
      clear hK K
      refine wpAny_ready (rs := [3]) (by kernel_rfl) (by simp) ?_
      refine AllReady.cons rfl (fun K hK => ?_) AllReady.nil
      go_simp
      refine (unhid ENT _).mono ?_
      rintro r w1 ⟨rfl, hB1⟩
      refine hK _ _ ?_
      clear hK K
      have hb1 : Below W.heap.size W w1 := ((Below.refl _ W).drew).trans hB1
      have hlw := (Array.getElem?_eq_some_iff.1 hv1).1
      have c1 : w1.cell? ⟨w.heap.size, 0, none⟩ = some (.slice av pre.length capv) := (cell_of_box_l ((hb1.block _ hlw).trans hv1)).1
      unfold Ent.vals
      refine wpAny_ready (rs := [4]) (by kernel_rfl) (by simp) ?_
      refine AllReady.cons rfl (fun K hK => ?_) AllReady.nil
      go_simp
      refine hK _ _ ?_
      clear hK K
      have hb3 : Below W.heap.size W (w1.alloc (.cells #[.string e.path, .int .i64 e.kind, .int .i64 e.mode, .string e.text] 27)) := hb1.trans ((Below.refl _ w1).alloc hb1.size _)
      have hv3 := ownsRow_kept hv2 (fun g e => hb3.block g (hv2.lt g e).2)
      have hbx3 := (hb3.block _ hlw).trans hv1
      refine wpAny_ready (rs := [5]) (by kernel_rfl) (by simp) ?_
      refine AllReady.cons rfl (fun K hK => ?_) AllReady.nil
      rw [if_pos (by kernel_rfl)]
      refine wp_append_own _ _ _ 23 rfl (w.heap.size + 2) 27 i0 _ 4 48 Try.underlying23 hi0 hz0 hzs hzb rfl (by decide) _ pre.length _ rfl hv3 ⟨w1.heap.size, 0, none⟩ 1 1 [.string e.path, .int .i64 e.kind, .int .i64 e.mode, .string e.text] rfl rfl ?_ ?_ ?_ ?_ ?_ ?_
      · exact lit_cells w1 _ _ _ _ _
      · intro u hu; simp at hu; rcases hu with rfl | rfl | rfl | rfl <;> rfl
      · unfold maxLen; omega
      · omega
      · have := below_lt hTI2.1; have := hb3.size; omega
      · intro v' w2 hown hg _
        obtain ⟨a2, cap2, rfl⟩ := ownsRow_slice hown
        refine hK _ _ ?_
        clear hK K
        have FIN := inEnts_step (x := ⟨e, hx⟩) (Array.getElem?_eq_some_iff.1 h1).1 (fun g eg => (h2.lt g eg).2) (fun g eg => (h3.lt g eg).2) hv1 hv2 hTI2 hB hb3 hown hg
        have hbx2 : w2.heap[w.heap.size]? = some (.cells #[.slice av pre.length capv] 23 (0, 0)) := (hg.block _ (by simp; have := hb1.size; omega) (fun eg => by have := (hv2.lt _ eg.symm).1; omega)).trans hbx3
        obtain ⟨k0, k1⟩ := cell_of_box_l hbx2
        have HF := hid FIN
        clear FIN hown hg
        refine wpAny_ready (rs := [6]) (by kernel_rfl) (by simp) ?_
        refine AllReady.cons rfl (fun K hK => ?_) AllReady.nil
        go_simp
        refine hK _ _ ?_
        clear hK K
        refine wpAny_done (by kernel_rfl) ?_ _
        have HFF := unhid HF
        exact HFF
    · go_simp
      refine (unhid ENT _).mono ?_
      rintro r w1 ⟨rfl, hB1⟩
      refine hK _ _ ?_
      clear hK K
      have hb1 : Below W.heap.size W w1 := ((Below.refl _ W).drew).trans hB1
      have hlw := (Array.getElem?_eq_some_iff.1 hv1).1
      have c1 : w1.cell? ⟨w.heap.size, 0, none⟩ = some (.slice av pre.length capv) := (cell_of_box_l ((hb1.block _ hlw).trans hv1)).1
      unfold Ent.vals
      refine wpAny_ready (rs := [0, 4]) (by kernel_rfl) (by simp) ?_
      refine AllReady.cons rfl (fun K hK => ?_) (AllReady.cons rfl (fun K hK => ?_) AllReady.nil)
      · go_simp
        refine hK _ _ ?_
        clear hK K
        refine wpAny_ready (rs := [4]) (by kernel_rfl) (by simp) ?_
        refine AllReady.cons rfl (fun K hK => ?_) AllReady.nil
        go_simp
        refine hK _ _ ?_
        clear hK K
        have hb3 : Below W.heap.size W (w1.alloc (.cells #[.string e.path, .int .i64 e.kind, .int .i64 e.mode, .string e.text] 27)) := hb1.trans ((Below.refl _ w1).alloc hb1.size _)
        have hv3 := ownsRow_kept hv2 (fun g e => hb3.block g (hv2.lt g e).2)
        have hbx3 := (hb3.block _ hlw).trans hv1
        refine wpAny_ready (rs := [5]) (by kernel_rfl) (by simp) ?_
        refine AllReady.cons rfl (fun K hK => ?_) AllReady.nil
        rw [if_pos (by kernel_rfl)]
        refine wp_append_own _ _ _ 23 rfl (w.heap.size + 2) 27 i0 _ 4 48 Try.underlying23 hi0 hz0 hzs hzb rfl (by decide) _ pre.length _ rfl hv3 ⟨w1.heap.size, 0, none⟩ 1 1 [.string e.path, .int .i64 e.kind, .int .i64 e.mode, .string e.text] rfl rfl ?_ ?_ ?_ ?_ ?_ ?_
        · exact lit_cells w1 _ _ _ _ _
        · intro u hu; simp at hu; rcases hu with rfl | rfl | rfl | rfl <;> rfl
        · unfold maxLen; omega
        · omega
        · have := below_lt hTI2.1; have := hb3.size; omega
        · intro v' w2 hown hg _
          obtain ⟨a2, cap2, rfl⟩ := ownsRow_slice hown
          refine hK _ _ ?_
          clear hK K
          have FIN := inEnts_step (x := ⟨e, hx⟩) (Array.getElem?_eq_some_iff.1 h1).1 (fun g eg => (h2.lt g eg).2) (fun g eg => (h3.lt g eg).2) hv1 hv2 hTI2 hB hb3 hown hg
          have hbx2 : w2.heap[w.heap.size]? = some (.cells #[.slice av pre.length capv] 23 (0, 0)) := (hg.block _ (by simp; have := hb1.size; omega) (fun eg => by have := (hv2.lt _ eg.symm).1; omega)).trans hbx3
          obtain ⟨k0, k1⟩ := cell_of_box_l hbx2
          have HF := hid FIN
          clear FIN hown hg
          refine wpAny_ready (rs := [6]) (by kernel_rfl) (by simp) ?_
          refine AllReady.cons rfl (fun K hK => ?_) AllReady.nil
          go_simp
          refine hK _ _ ?_
          clear hK K
          refine wpAny_done (by kernel_rfl) ?_ _
          have HFF := unhid HF
          exact HFF
      · go_simp
        refine hK _ _ ?_
        clear hK K
        have c3 : (w1.alloc (.cells #[.string e.path, .int .i64 e.kind, .int .i64 e.mode, .string e.text] 27)).cell? ⟨w.heap.size, 0, none⟩ = some (.slice av pre.length capv) := cell_alloc_l _ c1
        refine wpAny_ready (rs := [0]) (by kernel_rfl) (by simp) ?_
        refine AllReady.cons rfl (fun K hK => ?_) AllReady.nil
        go_simp
        refine hK _ _ ?_
        clear hK K
        have hb3 : Below W.heap.size W (w1.alloc (.cells #[.string e.path, .int .i64 e.kind, .int .i64 e.mode, .string e.text] 27)) := hb1.trans ((Below.refl _ w1).alloc hb1.size _)
        have hv3 := ownsRow_kept hv2 (fun g e => hb3.block g (hv2.lt g e).2)
        have hbx3 := (hb3.block _ hlw).trans hv1
        refine wpAny_ready (rs := [5]) (by kernel_rfl) (by simp) ?_
        refine AllReady.cons rfl (fun K hK => ?_) AllReady.nil
        rw [if_pos (by kernel_rfl)]
        refine wp_append_own _ _ _ 23 rfl (w.heap.size + 2) 27 i0 _ 4 48 Try.underlying23 hi0 hz0 hzs hzb rfl (by decide) _ pre.length _ rfl hv3 ⟨w1.heap.size, 0, none⟩ 1 1 [.string e.path, .int .i64 e.kind, .int .i64 e.mode, .string e.text] rfl rfl ?_ ?_ ?_ ?_ ?_ ?_
        · exact lit_cells w1 _ _ _ _ _
        · intro u hu; simp at hu; rcases hu with rfl | rfl | rfl | rfl <;> rfl
        · unfold maxLen; omega
        · omega
        · have := below_lt hTI2.1; have := hb3.size; omega
        · intro v' w2 hown hg _
          obtain ⟨a2, cap2, rfl⟩ := ownsRow_slice hown
          refine hK _ _ ?_
          clear hK K
          have FIN := inEnts_step (x := ⟨e, hx⟩) (Array.getElem?_eq_some_iff.1 h1).1 (fun g eg => (h2.lt g eg).2) (fun g eg => (h3.lt g eg).2) hv1 hv2 hTI2 hB hb3 hown hg
          have hbx2 : w2.heap[w.heap.size]? = some (.cells #[.slice av pre.length capv] 23 (0, 0)) := (hg.block _ (by simp; have := hb1.size; omega) (fun eg => by have := (hv2.lt _ eg.symm).1; omega)).trans hbx3
          obtain ⟨k0, k1⟩ := cell_of_box_l hbx2
          have HF := hid FIN
          clear FIN hown hg
          refine wpAny_ready (rs := [6]) (by kernel_rfl) (by simp) ?_
          refine AllReady.cons rfl (fun K hK => ?_) AllReady.nil
          go_simp
          refine hK _ _ ?_
          clear hK K
          refine wpAny_done (by kernel_rfl) ?_ _
          have HFF := unhid HF
          exact HFF
  case done =>
    rintro D ys W hD hys ⟨⟨⟨v, hv1, hv2⟩, hTI2⟩, hB⟩ hK
    have c0 := (cell_of_box_l hv1).1
    gi_wp2
    refine ⟨by simp, .inl ⟨_, _, rfl, run_takeDeferred hK, ?_⟩⟩
    have hg := grownBy_putObj' W D (.deferred none)
    have hr : ∀ r, some D = some r → ∃ o : Obj, W.heap[r]? = some o ∧ o.isCells = false := fun r e => by cases e; exact ⟨_, hK, rfl⟩
    have hyl : ys.length = es.length := by rw [← hys, List.length_map]
    rw [hys, hyl] at hv2
    refine ⟨v, ?_, v, rfl, ownsRow_base (row_grown hg hr hv2) (by omega), hB.trans (belowK_b (w := w) (Nat.le_refl _) _ D _ _ (by simp at hD; omega) hK rfl rfl)⟩
    simp [results, Try.f50, go_sem]
end Go.Proofs.Ytaefjibnnbdaaaa

/- What the laws write over a row to see whose it is. -/
namespace Go.Proofs.Ytaefjibnnbdaaaa
open Go.RowKit Go.Shelf

/-- The figures of a number, ahead of others. -/
def mdig : Nat → Nat → List UInt8 → List UInt8
  | 0, _, acc => acc
  | f + 1, k, acc => if k = 0 then acc else mdig f (k / 10) (UInt8.ofNat (48 + k % 10) :: acc)
def mtext (k : Nat) : ByteArray := ⟨(109 :: mdig 20 k []).toArray⟩
theorem mdig_step (f k : Nat) (acc : List UInt8) (hk : 0 < k) : mdig (f + 1) k acc = mdig f (k / 10) (UInt8.ofNat (48 + k % 10) :: acc) := by
  rw [mdig, if_neg (by omega)]
theorem mdig_zero (f : Nat) (acc : List UInt8) : mdig f 0 acc = acc := by cases f <;> simp [mdig]

theorem ba_cons (c : UInt8) (l : List UInt8) : (⟨#[c]⟩ : ByteArray) ++ ⟨l.toArray⟩ = ⟨(c :: l).toArray⟩ := by
  apply ByteArray.ext
  simp [ByteArray.data_append]
theorem conv_one (w : World) (q : Nat) : Sem.run Try.prog (convert 22 9 (.slice (some ⟨w.heap.size, 0, none⟩) 1 1)) (w.alloc (.cells #[.int .u8 (48 + (q : Int) % 10)] 5)) = .ok (.string ⟨#[UInt8.ofNat (48 + q % 10)]⟩) (w.alloc (.cells #[.int .u8 (48 + (q : Int) % 10)] 5)) := by
  refine run_convert_bytes_back (P := Try.prog) _ 22 9 5 ⟨w.heap.size, 0, none⟩ 1 [UInt8.ofNat (48 + q % 10)] (by kernel_rfl) (by kernel_rfl) (by kernel_rfl) (fun j hj => ?_)
  have : j = 0 := by simpa using hj
  subst this
  have h1 := (cell_new_l w (.int .u8 (48 + (q : Int) % 10)) 5).1
  have h2 : (UInt8.ofNat (48 + q % 10)).toNat = 48 + q % 10 := by simp; omega
  simp only [List.getElem_cons_zero, h2]
  have e : ((⟨w.heap.size, 0, none⟩ : Addr).add 0) = ⟨w.heap.size, 0, none⟩ := rfl
  rw [e, h1]; rfl

set_option maxRecDepth 100000 in
set_option maxHeartbeats 1000000 in
theorem markText_any (k : Nat) (w : World) (hk : 0 < k) (hk2 : k < 100000000) :
    Calls Try.prog 82 #[.int .i64 (k : Int)] w fun x w' => x = .returned (.string (mtext k)) ∧ Below w.heap.size w w' := by
  go_enter Try.func82, Try.ntmps82
  go_wp2_with fail
  go_loopw [0, 3] (fun c o wr => ∃ (f q : Nat) (l : List UInt8), Hid (q < 10 ^ f) ∧ q < 100000000 ∧ l.length + f ≤ 20 ∧ c = .int .i64 (q : Int) ∧ o = .string ⟨l.toArray⟩ ∧ Hid (mdig f q l = mdig 20 k []) ∧ Below w.heap.size w wr) (fun c _ _ => (intOf c).toNat)
  case atStart => exact ⟨20, k, [], hid (by omega), hk2, by simp, rfl, rfl, hid rfl, Below.refl _ _⟩
  case round =>
    obtain ⟨f, q, l, hq, hq2, hl, rfl, rfl, HD, hB⟩ := hrel
    by_cases h0 : 0 < q
    · obtain ⟨f, rfl⟩ : ∃ g, f = g + 1 := ⟨f - 1, by have : f ≠ 0 := (by rintro rfl; have := unhid hq; omega)
                                                     omega⟩
      have hcv := conv_one wr q
      have HS := hid (mdig_step f q l h0)
      have HB := hid ((hB.alloc hB.size (.cells #[.int .u8 (48 + (q : Int) % 10)] 5)))
      go_wp2_with fail
      go_roundw
      case rel =>
        refine ⟨f, q / 10, UInt8.ofNat (48 + q % 10) :: l, hid (by have := unhid hq; rw [Nat.pow_succ] at this; omega), by omega, by simp; omega, by go_num, ?_, hid (by rw [← unhid HS]; exact unhid HD), unhid HB⟩
        rw [ba_cons]
        simp
      case measure => simp [intOf]; omega
    · have e : q = 0 := by omega
      subst e
      go_wp2_with fail
      go_ret
      refine ⟨?_, hB⟩
      have := unhid HD
      rw [mdig_zero] at this
      unfold mtext
      rw [← this, ba_cons]
      rfl

theorem markText_at (c : Int) (k : Nat) (w : World) (hc : c = (k : Int)) (hk : 0 < k) (hk2 : k < 100000000) :
    Calls Try.prog 82 #[.int .i64 c] w fun x w' => x = .returned (.string (mtext k)) ∧ Below w.heap.size w w' := by subst hc; exact markText_any k w hk hk2
theorem grownBy_below {w w' w'' : World} {row : Option Nat} (h : w.grownBy w' row) (hb : Below w'.heap.size w' w'') : w.grownBy w'' row :=
  ⟨hb.os.trans h.os, hb.tape.trans h.tape, hb.output.trans h.output, Nat.le_trans h.size hb.size, fun k hk hr => (hb.block k (Nat.lt_of_lt_of_le hk h.size)).trans (h.block k hk hr)⟩
theorem grown_setCell {w w' : World} {g : Nat} (h : w.grownBy w' (some g)) (o : Nat) (v : Value) : w.grownBy (w'.setCell ⟨g, o, .none⟩ v) (some g) :=
  ⟨h.os, h.tape, h.output, by simpa using h.size, fun k hk hr => (Below.heap_setCell _ _ _ _ (fun e => hr (by have e' : k = g := e; rw [e']))).trans (h.block k hk hr)⟩
theorem ret_int {k : IntKind} {a b : Int} (h : a = b) : Ending.returned (.int k a) = .returned (.int k b) := by rw [h]
/-- A block whose first cells are n entries. -/
def RowE (W : World) (g n : Nat) (f : Nat → Ent) : Prop := ∃ cur : Array Value, W.heap[g]? = some (.cells cur 27 (0, 0)) ∧ n * 4 ≤ cur.size ∧ ∀ i, i < n → cur[i * 4]? = some (.string (f i).path) ∧ cur[i * 4 + 1]? = some (.int .i64 (f i).kind) ∧ cur[i * 4 + 2]? = some (.int .i64 (f i).mode) ∧ cur[i * 4 + 3]? = some (.string (f i).text)
theorem RowE.lt {W : World} {g n : Nat} {f : Nat → Ent} (x : RowE W g n f) : g < W.heap.size := by
  obtain ⟨cur, h1, _⟩ := x; exact (Array.getElem?_eq_some_iff.1 h1).1
theorem RowE.block {W W' : World} {g n : Nat} {f : Nat → Ent} (x : RowE W g n f) (e : W'.heap[g]? = W.heap[g]?) : RowE W' g n f := by
  obtain ⟨cur, h1, h2, h3⟩ := x; exact ⟨cur, e.trans h1, h2, h3⟩
theorem RowE.below {W W' : World} {B g n : Nat} {f : Nat → Ent} (x : RowE W g n f) (hb : Below B W W') (hg : g < B) : RowE W' g n f := x.block (hb.block g hg)
theorem RowE.congr {W : World} {g n : Nat} {f f' : Nat → Ent} (x : RowE W g n f) (e : ∀ j, j < n → f j = f' j) : RowE W g n f' := by
  obtain ⟨cur, h1, h2, h3⟩ := x; exact ⟨cur, h1, h2, fun j hj => by rw [← e j hj]; exact h3 j hj⟩
theorem RowE.cells {W : World} {g n : Nat} {f : Nat → Ent} (x : RowE W g n f) (k : Nat) (hk : k < n) : EntAt W g (k * 4) (f k) ∧ (W.frozen? ⟨g, k * 4, .none⟩ = false ∧ W.frozen? ⟨g, k * 4 + 1, .none⟩ = false ∧ W.frozen? ⟨g, k * 4 + 2, .none⟩ = false ∧ W.frozen? ⟨g, k * 4 + 3, .none⟩ = false) := by
  obtain ⟨cur, h1, h2, h3⟩ := x
  obtain ⟨a, b, c, d⟩ := h3 k hk
  exact ⟨⟨by simp [World.cell?, h1, a], by simp [World.cell?, h1, b], by simp [World.cell?, h1, c], by simp [World.cell?, h1, d]⟩, by simp [World.frozen?, h1], by simp [World.frozen?, h1], by simp [World.frozen?, h1], by simp [World.frozen?, h1]⟩
theorem RowE.set0 {W : World} {g n : Nat} {f : Nat → Ent} (x : RowE W g n f) (k : Nat) (hk : k < n) (p : ByteArray) : RowE (W.setCell ⟨g, k * 4, .none⟩ (.string p)) g n (upd f k { f k with path := p }) := by
  obtain ⟨cur, h1, h2, h3⟩ := x
  refine ⟨cur.setIfInBounds (k * 4) (.string p), heap_setCell_same _ g _ _ _ _ h1, by simpa using h2, fun i hi => ?_⟩
  obtain ⟨a, b, c, d⟩ := h3 i hi
  unfold upd
  simp only [Array.getElem?_setIfInBounds]
  by_cases e1 : i = k
  · subst e1
    rw [if_pos rfl, if_pos rfl, if_pos (by omega), if_neg (by omega), if_neg (by omega), if_neg (by omega)]
    exact ⟨rfl, b, c, d⟩
  · rw [if_neg e1, if_neg (by omega), if_neg (by omega), if_neg (by omega), if_neg (by omega)]
    exact ⟨a, b, c, d⟩
theorem RowE.set1 {W : World} {g n : Nat} {f : Nat → Ent} (x : RowE W g n f) (k : Nat) (hk : k < n) (p : Int) : RowE (W.setCell ⟨g, k * 4 + 1, .none⟩ (.int .i64 p)) g n (upd f k { f k with kind := p }) := by
  obtain ⟨cur, h1, h2, h3⟩ := x
  refine ⟨cur.setIfInBounds (k * 4 + 1) (.int .i64 p), heap_setCell_same _ g _ _ _ _ h1, by simpa using h2, fun i hi => ?_⟩
  obtain ⟨a, b, c, d⟩ := h3 i hi
  unfold upd
  simp only [Array.getElem?_setIfInBounds]
  by_cases e1 : i = k
  · subst e1
    rw [if_pos rfl, if_pos rfl, if_neg (by omega), if_pos (by omega), if_neg (by omega), if_neg (by omega)]
    exact ⟨a, rfl, c, d⟩
  · rw [if_neg e1, if_neg (by omega), if_neg (by omega), if_neg (by omega), if_neg (by omega)]
    exact ⟨a, b, c, d⟩
theorem RowE.set2 {W : World} {g n : Nat} {f : Nat → Ent} (x : RowE W g n f) (k : Nat) (hk : k < n) (p : Int) : RowE (W.setCell ⟨g, k * 4 + 2, .none⟩ (.int .i64 p)) g n (upd f k { f k with mode := p }) := by
  obtain ⟨cur, h1, h2, h3⟩ := x
  refine ⟨cur.setIfInBounds (k * 4 + 2) (.int .i64 p), heap_setCell_same _ g _ _ _ _ h1, by simpa using h2, fun i hi => ?_⟩
  obtain ⟨a, b, c, d⟩ := h3 i hi
  unfold upd
  simp only [Array.getElem?_setIfInBounds]
  by_cases e1 : i = k
  · subst e1
    rw [if_pos rfl, if_neg (by omega), if_neg (by omega), if_pos rfl, if_pos (by omega), if_neg (by omega)]
    exact ⟨a, b, rfl, d⟩
  · rw [if_neg e1, if_neg (by omega), if_neg (by omega), if_neg (by omega), if_neg (by omega)]
    exact ⟨a, b, c, d⟩
theorem RowE.set3 {W : World} {g n : Nat} {f : Nat → Ent} (x : RowE W g n f) (k : Nat) (hk : k < n) (p : ByteArray) : RowE (W.setCell ⟨g, k * 4 + 3, .none⟩ (.string p)) g n (upd f k { f k with text := p }) := by
  obtain ⟨cur, h1, h2, h3⟩ := x
  refine ⟨cur.setIfInBounds (k * 4 + 3) (.string p), heap_setCell_same _ g _ _ _ _ h1, by simpa using h2, fun i hi => ?_⟩
  obtain ⟨a, b, c, d⟩ := h3 i hi
  unfold upd
  simp only [Array.getElem?_setIfInBounds]
  by_cases e1 : i = k
  · subst e1
    rw [if_pos rfl, if_neg (by omega), if_neg (by omega), if_neg (by omega), if_pos rfl, if_pos (by omega)]
    exact ⟨a, b, c, rfl⟩
  · rw [if_neg e1, if_neg (by omega), if_neg (by omega), if_neg (by omega), if_neg (by omega)]
    exact ⟨a, b, c, d⟩

/-- The entry that the laws write at a place. -/
def markE (q i : Nat) : Ent := ⟨mtext (q + i * 4), ((q + i * 4 + 1 : Nat) : Int), ((q + i * 4 + 2 : Nat) : Int), mtext (q + i * 4 + 3)⟩

set_option maxRecDepth 100000 in
set_option maxHeartbeats 4000000 in
theorem markEntryS_row (g n cap q : Nat) (f : Nat → Ent) (w : World) (hn : n ≤ 1048576) (hq : 0 < q) (hq2 : q ≤ 20000000) (h : RowE w g n f) :
    Calls Try.prog 41 #[.slice (some ⟨g, 0, .none⟩) n cap, .int .i64 (q : Int)] w fun x w' => x = .returned (.int .i64 ((q + n * 4 : Nat) : Int)) ∧ RowE w' g n (markE q) ∧ w.grownBy w' (some g) := by
  have hgl := h.lt
  go_enter Try.func41, Try.ntmps41
  go_wp2_with fail
  go_loopw [1, 5] (fun c i wr => ∃ k : Nat, k ≤ n ∧ i = .int .i64 (k : Int) ∧ c = .int .i64 ((q + k * 4 : Nat) : Int) ∧ RowE wr g n (fun j => if j < k then markE q j else f j) ∧ w.grownBy wr (some g)) (fun _ i _ => n - (intOf i).toNat)
  case atStart => exact ⟨0, Nat.zero_le _, rfl, by go_num, h.congr (fun j _ => by simp), gb_refl _ _⟩
  case round =>
    obtain ⟨k, hk, rfl, rfl, hR, hG⟩ := hrel
    by_cases hlt : k < n
    · obtain ⟨⟨d0, d1, d2, d3⟩, f0, f1, f2, f3⟩ := hR.cells k hlt
      have HR := hid hR
      have HG := hid hG
      clear hR hG h
      go_wp2_with fail
      refine (markText_at _ (q + k * 4) _ (by omega) (by omega) (by omega)).mono ?_
      rintro x w1 ⟨rfl, hb1⟩
      have hgr : g < wr.heap.size := (unhid HR).lt
      have hR1 := (unhid HR).below hb1 hgr
      have HG1 := hid (grownBy_below (unhid HG) hb1)
      obtain ⟨⟨d0, d1, d2, d3⟩, f0, f1, f2, f3⟩ := hR1.cells k hlt
      have hR2 := ((hR1.set0 k hlt (mtext (q + k * 4))).set1 k hlt ((q : Int) + (k : Int) * 4 + 1)).set2 k hlt ((q : Int) + (k : Int) * 4 + 1 + 1)
      have hg1 : w.grownBy (((w1.setCell ⟨g, k * 4, .none⟩ (.string (mtext (q + k * 4)))).setCell ⟨g, k * 4 + 1, .none⟩ (.int .i64 ((q : Int) + (k : Int) * 4 + 1))).setCell ⟨g, k * 4 + 2, .none⟩ (.int .i64 ((q : Int) + (k : Int) * 4 + 1 + 1))) (some g) := grown_setCell (grown_setCell (grown_setCell (unhid HG1) _ _) _ _) _ _
      obtain ⟨W3, hW3⟩ : ∃ W3, W3 = (((w1.setCell ⟨g, k * 4, .none⟩ (.string (mtext (q + k * 4)))).setCell ⟨g, k * 4 + 1, .none⟩ (.int .i64 ((q : Int) + (k : Int) * 4 + 1))).setCell ⟨g, k * 4 + 2, .none⟩ (.int .i64 ((q : Int) + (k : Int) * 4 + 1 + 1))) := ⟨_, rfl⟩
      rw [← hW3] at hR2 hg1
      have HR2 := hid (And.intro hR2 hg1)
      have HW3 := hid hW3
      clear hR1 hb1 HR HG hR2 hg1 HG1 hW3
      go_wp2_with fail
      rw [← unhid HW3]
      refine (markText_at _ (q + k * 4 + 3) _ (by omega) (by omega) (by omega)).mono ?_
      rintro x w4 ⟨rfl, hb4⟩
      have hR4 := (unhid HR2).1.below hb4 (unhid HR2).1.lt
      have hG4 := grownBy_below (unhid HR2).2 hb4
      have hR5 := hR4.set3 k hlt (mtext (q + k * 4 + 3))
      obtain ⟨⟨-, -, -, d3⟩, -, -, -, f3⟩ := hR4.cells k hlt
      have HF := hid (And.intro hR5 (grown_setCell hG4 (k * 4 + 3) (.string (mtext (q + k * 4 + 3)))))
      clear hR4 hG4 hR5 HR2 HW3 hb4 d0 d1 d2 f0 f1 f2
      go_wp2_with fail
      go_roundw
      case rel =>
        refine ⟨k + 1, by omega, by go_num, by go_num, (unhid HF).1.congr (fun j hj => ?_), (unhid HF).2⟩
        unfold upd
        by_cases ej : j = k
        · subst ej
          simp [markE]
          omega
        · simp only [if_neg ej]
          by_cases hj2 : j < k
          · rw [if_pos hj2, if_pos (by omega)]
          · rw [if_neg hj2, if_neg (by omega)]
      case measure => simp [intOf]; omega
    · have e : k = n := by omega
      subst e
      go_wp2_with fail
      go_ret
      exact ⟨ret_int (by go_num), hR.congr (fun j hj => by rw [if_pos hj]), hG⟩
end Go.Proofs.Ytaefjibnnbdaaaa

/- Rows of entries between two bounds; what is written over them is there, and nothing else changes. -/
namespace Go.Proofs.Ytaefjibnnbdaaaa
open Go.RowKit Go.Shelf

/-- Entries in a row of their own, whose block is from N on, ahead of M. -/
def RowIn (W : World) (a : Option Addr) (N M : Nat) (es : List Ent) : Prop := es = [] ∨ ∃ g, a = some ⟨g, 0, .none⟩ ∧ N ≤ g ∧ g < M ∧ RowE W g es.length (entFn es)
theorem RowIn.at {W : World} {a : Option Addr} {N M : Nat} {es : List Ent} (h : RowIn W a N M es) : EntsAt W a es := by
  rcases h with h | ⟨g, rfl, _, _, hR⟩
  · exact .inl h
  · refine .inr ⟨g, 0, rfl, hR.lt, fun i e hi => ?_⟩
    have := (hR.cells i (List.getElem?_eq_some_iff.1 hi).1).1
    rw [entFn_get hi] at this
    rwa [Nat.zero_add]
/-- Nothing changes but blocks from N on, ahead of M. -/
structure Spares (N M : Nat) (w w' : World) : Prop where
  os : w'.os = w.os
  tape : w'.tape = w.tape
  output : w'.output = w.output
  size : w.heap.size ≤ w'.heap.size
  block : ∀ k, k < w.heap.size → (k < N ∨ M ≤ k) → w'.heap[k]? = w.heap[k]?
theorem Spares.row {w w' : World} {N M N2 M2 : Nat} {a : Option Addr} {es : List Ent} (h : Spares N M w w') (x : RowIn w a N2 M2 es) (hd : M2 ≤ N ∨ M ≤ N2) : RowIn w' a N2 M2 es := by
  rcases x with x | ⟨g, rfl, h1, h2, hR⟩
  · exact .inl x
  · exact .inr ⟨g, rfl, h1, h2, hR.block (h.block g hR.lt (by omega))⟩
theorem Spares.below {w0 w w' : World} {N M : Nat} (h : Spares N M w w') (hb : Below w0.heap.size w0 w) (hN : w0.heap.size ≤ N) : Below w0.heap.size w0 w' :=
  ⟨h.os.trans hb.os, h.tape.trans hb.tape, h.output.trans hb.output, Nat.le_trans hb.size h.size, fun k hk => (h.block k (Nat.lt_of_lt_of_le hk hb.size) (by omega)).trans (hb.block k hk)⟩
theorem RowIn.below {w w' : World} {N M : Nat} {a : Option Addr} {es : List Ent} (x : RowIn w a N M es) (h : Below w.heap.size w w') : RowIn w' a N M es := by
  rcases x with x | ⟨g, rfl, h1, h2, hR⟩
  · exact .inl x
  · exact .inr ⟨g, rfl, h1, h2, hR.block (h.block g hR.lt)⟩
theorem RowIn.wide {w : World} {N M N2 M2 : Nat} {a : Option Addr} {es : List Ent} (x : RowIn w a N M es) (hN : N2 ≤ N) (hM : M ≤ M2) : RowIn w a N2 M2 es := by
  rcases x with x | ⟨g, rfl, h1, h2, hR⟩
  · exact .inl x
  · exact .inr ⟨g, rfl, by omega, by omega, hR⟩
def marks (q n : Nat) : List Ent := (List.range n).map (markE q)
theorem marks_len (q n : Nat) : (marks q n).length = n := by simp [marks]
theorem marks_get {q n i : Nat} (h : i < n) : entFn (marks q n) i = markE q i := entFn_get (by simp [marks, h])

set_option maxRecDepth 100000 in
set_option maxHeartbeats 1000000 in
theorem markEntryS_any (es : List Ent) (a : Option Addr) (cap q N M : Nat) (w : World) (hn : es.length ≤ 1048576) (hq : 0 < q) (hq2 : q ≤ 20000000) (h : RowIn w a N M es) :
    Calls Try.prog 41 #[.slice a es.length cap, .int .i64 (q : Int)] w fun x w' => x = .returned (.int .i64 ((q + es.length * 4 : Nat) : Int)) ∧ RowIn w' a N M (marks q es.length) ∧ Spares N M w w' := by
  rcases h with rfl | ⟨g, rfl, h1, h2, hR⟩
  · go_enter Try.func41, Try.ntmps41
    go_wp2_with fail
    go_loopw [1, 5] (fun c i wr => i = .int .i64 0 ∧ c = .int .i64 (q : Int) ∧ wr = w) (fun _ i _ => 0)
    case atStart => exact ⟨rfl, rfl, rfl⟩
    case round =>
      obtain ⟨rfl, rfl, rfl⟩ := hrel
      go_wp2_with fail
      go_ret
      exact ⟨ret_int (by simp), .inl (by simp [marks]), ⟨rfl, rfl, rfl, Nat.le_refl _, fun _ _ _ => rfl⟩⟩
  · refine (markEntryS_row g es.length cap q _ w hn hq hq2 hR).mono ?_
    rintro x w' ⟨rfl, hR', hG⟩
    refine ⟨rfl, .inr ⟨g, rfl, h1, h2, ?_⟩, ⟨hG.os, hG.tape, hG.output, hG.size, fun k hk hor => hG.block k hk (fun e => by cases e; omega)⟩⟩
    rw [marks_len]
    exact hR'.congr (fun j hj => (marks_get hj).symm)

set_option maxRecDepth 100000 in
set_option maxHeartbeats 4000000 in
theorem heldEntryS_any (n : Nat) (a : Option Addr) (cap q : Nat) (w : World) (hn : n ≤ 1048576) (hq : 0 < q) (hq2 : q ≤ 20000000) (h : EntsAt w a (marks q n)) :
    Calls Try.prog 42 #[.slice a n cap, .int .i64 (q : Int)] w fun x w' => x = .returned (.int .i64 ((q + n * 4 : Nat) : Int)) ∧ Below w.heap.size w w' := by
  go_enter Try.func42, Try.ntmps42
  go_wp2_with fail
  go_loopw [1, 5] (fun c i wr => ∃ k : Nat, k ≤ n ∧ i = .int .i64 (k : Int) ∧ c = .int .i64 ((q + k * 4 : Nat) : Int) ∧ Below w.heap.size w wr) (fun _ i _ => n - (intOf i).toNat)
  case atStart => exact ⟨0, Nat.zero_le _, rfl, by go_num, Below.refl _ _⟩
  case round =>
    obtain ⟨k, hk, rfl, rfl, hB⟩ := hrel
    by_cases hlt : k < n
    · have he : (marks q n)[k]? = some (markE q k) := by simp [marks, hlt]
      obtain ⟨b, o, rfl, hbl, hc⟩ := h.get (by intro e; rw [e] at he; cases he)
      obtain ⟨c0, c1, c2, c3⟩ := ((hc k _ he).below hB hbl)
      have HH := hid (And.intro hc hB)
      have hbw : b < wr.heap.size := Nat.lt_of_lt_of_le hbl hB.size
      have HC := hid (And.intro c0 (And.intro c1 (And.intro c2 c3)))
      have g0 := BW.cell (B := wr.heap.size) hbw (show wr.cell? ⟨b, o + k * 4, none⟩ = some (.string (mtext (q + k * 4))) from c0)
      clear hc hB he h c0 c1 c2 c3
      go_wp2_with fail
      have hba := @BW.all wr.heap.size wr
      refine calm_region wr.heap.size (by kernel_rfl) (by kernel_rfl) ?_
      repeat (go_big_quiet_step ((go_at_call 82; exact Calls.bw (v := .string (mtext (q + k * 4))) (Nat.le_refl _) (markText_at _ (q + k * 4) _ (by omega) (by omega) (by omega)))))
      refine wpQuiet_nil ?_
      intro w4 hw
      obtain ⟨x, hx⟩ := hw
      have hB4 : Below wr.heap.size wr w4 := by rw [hx]; exact x.h
      clear hx x g0 hba
      obtain ⟨c0, c1, c2, c3⟩ := unhid HC
      have d1 : w4.cell? ⟨b, o + k * 4 + 1, none⟩ = some (.int .i64 ((q : Int) + (k : Int) * 4 + 1)) := ((hB4.cell (p := ⟨b, o + k * 4 + 1, none⟩) hbw).trans c1).trans (by simp [markE])
      have d2 : w4.cell? ⟨b, o + k * 4 + 2, none⟩ = some (.int .i64 ((q : Int) + (k : Int) * 4 + 1 + 1)) := ((hB4.cell (p := ⟨b, o + k * 4 + 2, none⟩) hbw).trans c2).trans (by simp [markE]; omega)
      have d3 : w4.cell? ⟨b, o + k * 4 + 3, none⟩ = some (.string (mtext (q + k * 4 + 3))) := (hB4.cell (p := ⟨b, o + k * 4 + 3, none⟩) hbw).trans c3
      have HB4 := hid ((unhid HH).2.trans (hB4.mono (unhid HH).2.size))
      have hbw4 : b < w4.heap.size := Nat.lt_of_lt_of_le hbw hB4.size
      have g3 := BW.cell (B := w4.heap.size) hbw4 d3
      clear c0 c1 c2 c3 HC hB4 HH d3
      go_wp2_with fail
      have hba := @BW.all w4.heap.size w4
      refine calm_region w4.heap.size (by kernel_rfl) (by kernel_rfl) ?_
      repeat (go_big_quiet_step ((go_at_call 82; exact Calls.bw (v := .string (mtext (q + k * 4 + 3))) (Nat.le_refl _) (markText_at _ (q + k * 4 + 3) _ (by omega) (by omega) (by omega)))))
      refine wpQuiet_nil ?_
      intro w5 hw
      obtain ⟨x, hx⟩ := hw
      have hB5 : Below w4.heap.size w4 w5 := by rw [hx]; exact x.h
      have HB5 := hid ((unhid HB4).trans (hB5.mono (unhid HB4).size))
      clear hx x g3 hba hB5 HB4 d1 d2
      go_wp2_with fail
      go_roundw
      case rel => exact ⟨k + 1, by omega, by go_num, by go_num, unhid HB5⟩
      case measure => simp [intOf]; omega
    · have e : k = n := by omega
      subst e
      go_wp2_with fail
      go_ret
      exact ⟨ret_int (by go_num), hB⟩
end Go.Proofs.Ytaefjibnnbdaaaa

/- A row of entries copied, by the model. -/
namespace Go.Proofs.Ytaefjibnnbdaaaa
open Go.RowKit Go.Shelf

theorem valsOf_len (es : List Ent) : (valsOf es).length = es.length * 4 := by
  induction es with
  | nil => rfl
  | cons e es ih => simp only [valsOf, List.flatMap_cons, List.length_append, List.length_cons] at *; rw [ih]; simp [Ent.vals]; omega
theorem valsOf_get : ∀ (es : List Ent) (i r : Nat), r < 4 → (valsOf es)[i * 4 + r]? = (es[i]?).bind fun e => e.vals.toList[r]?
  | [], i, r, h => by simp [valsOf]
  | e :: es, 0, r, h => by
    show (e.vals.toList ++ valsOf es)[0 * 4 + r]? = _
    rw [Nat.zero_mul, Nat.zero_add, List.getElem?_append_left (by simp [Ent.vals]; omega)]
    rfl
  | e :: es, i + 1, r, h => by
    show (e.vals.toList ++ valsOf es)[(i + 1) * 4 + r]? = _
    rw [List.getElem?_append_right (by simp [Ent.vals]; omega)]
    have : (i + 1) * 4 + r - e.vals.toList.length = i * 4 + r := by simp [Ent.vals]; omega
    rw [this, valsOf_get es i r h, List.getElem?_cons_succ]
theorem valsOf_one (es : List Ent) : ∀ u ∈ valsOf es, u.oneCell' = true := by
  intro u hu
  simp only [valsOf, List.mem_flatMap] at hu
  obtain ⟨e, _, hu⟩ := hu
  simp [Ent.vals] at hu
  rcases hu with rfl | rfl | rfl | rfl <;> rfl
theorem add_plain4 (b o n : Nat) : (⟨b, o, none⟩ : Addr).add n = ⟨b, o + n, none⟩ := by simp [Addr.add]
theorem ents_cells {W : World} {b o : Nat} {es : List Ent} (h : ∀ (i : Nat) e, es[i]? = some e → EntAt W b (o + i * 4) e) : ∀ j u, (valsOf es)[j]? = some u → W.cell? ((⟨b, o, none⟩ : Addr).add j) = some u := by
  intro j u hj
  have e1 : j = j / 4 * 4 + j % 4 := by omega
  rw [e1, valsOf_get es _ _ (Nat.mod_lt _ (by omega))] at hj
  cases he : es[j / 4]? with
  | none => rw [he] at hj; cases hj
  | some e =>
    rw [he] at hj
    obtain ⟨c0, c1, c2, c3⟩ := h _ e he
    rw [add_plain4]
    have hr : j % 4 < 4 := Nat.mod_lt _ (by omega)
    have e2 : o + j = o + j / 4 * 4 + j % 4 := by omega
    rw [e2]
    have hb : e.vals.toList[j % 4]? = some u := hj
    generalize j % 4 = r at hr hb
    match r, hr with
    | 0, _ => simp [Ent.vals] at hb; rw [← hb]; exact c0
    | 1, _ => simp [Ent.vals] at hb; rw [← hb]; exact c1
    | 2, _ => simp [Ent.vals] at hb; rw [← hb]; exact c2
    | 3, _ => simp [Ent.vals] at hb; rw [← hb]; exact c3
/-- A row that is owned holds its entries. -/
theorem rowIn_of_owns {W : World} {N : Nat} {v : Value} {es : List Ent} (h : W.ownsRow N 27 4 v es.length (valsOf es)) : ∃ a cap, v = .slice a es.length cap ∧ RowIn W a N W.heap.size es := by
  rcases h.2 with ⟨rfl, h0⟩ | ⟨g, cap, cur, rfl, hN, hg, hc, _, hsz, hcells⟩
  · exact ⟨none, 0, by rw [h0], .inl (List.length_eq_zero_iff.1 h0)⟩
  · refine ⟨_, cap, rfl, .inr ⟨g, rfl, hN, (Array.getElem?_eq_some_iff.1 hg).1, cur, hg, by omega, fun i hi => ?_⟩⟩
    have he : es[i]? = some es[i] := List.getElem?_eq_getElem hi
    rw [entFn_get he]
    have hget : ∀ r, r < 4 → cur[i * 4 + r]? = es[i].vals.toList[r]? := fun r hr => by
      have h1 := valsOf_get es i r hr
      rw [he, ← hcells, List.getElem?_take_of_lt (by omega), Array.getElem?_toList] at h1
      exact h1
    exact ⟨hget 0 (by omega), hget 1 (by omega), hget 2 (by omega), hget 3 (by omega)⟩
theorem ents_take {W : World} {b o k : Nat} {es : List Ent} (h : ∀ (i : Nat) e, es[i]? = some e → EntAt W b (o + i * 4) e) : ∀ (i : Nat) e, (es.take k)[i]? = some e → EntAt W b (o + i * 4) e := fun i e hi => h i e (by
  rw [List.getElem?_take] at hi
  split at hi
  · exact hi
  · cases hi)
theorem ents_drop {W : World} {b o k : Nat} {es : List Ent} (h : ∀ (i : Nat) e, es[i]? = some e → EntAt W b (o + i * 4) e) : ∀ (i : Nat) e, (es.drop k)[i]? = some e → EntAt W b (o + k * 4 + i * 4) e := fun i e hi => by
  have := h (k + i) e (by rw [List.getElem?_drop] at hi; exact hi)
  rwa [Nat.add_mul, ← Nat.add_assoc] at this
theorem owns_empty (w : World) (N : Nat) (hN : N ≤ w.heap.size) (T : TypeId) : (w.alloc (.cells #[] T)).ownsRow N T 4 (.slice (some ⟨w.heap.size, 0, none⟩) 0 0) 0 [] :=
  ⟨rfl, .inr ⟨w.heap.size, 0, #[], rfl, hN, World.alloc_heap_new _ _, Nat.le_refl _, Nat.zero_le _, rfl, rfl⟩⟩
theorem entAt_below {W W' : World} {b o : Nat} {es : List Ent} (h : ∀ (i : Nat) e, es[i]? = some e → EntAt W b (o + i * 4) e) (hb : es = [] ∨ b < W.heap.size) (hB : Below W.heap.size W W') : ∀ (i : Nat) e, es[i]? = some e → EntAt W' b (o + i * 4) e := fun i e hi => by
  rcases hb with rfl | hb
  · simp at hi
  · exact (h i e hi).below hB hb

set_option maxRecDepth 100000 in
set_option maxHeartbeats 1000000 in
theorem l2Copy_some (es : List Ent) (b o cap : Nat) (w : World) (hn : es.length ≤ 1048576) (h : ∀ (i : Nat) e, es[i]? = some e → EntAt w b (o + i * 4) e) (hb : es = [] ∨ b < w.heap.size) :
    Calls Try.prog 65 #[.slice (some ⟨b, o, none⟩) es.length cap] w fun x w' => ∃ g c, x = .returned (.slice (some ⟨g, 0, none⟩) es.length c) ∧ w'.ownsRow w.heap.size 27 4 (.slice (some ⟨g, 0, none⟩) es.length c) es.length (valsOf es) ∧ Below w.heap.size w w' := by
  obtain ⟨i0, hi0, hz0, hzs, hzb⟩ := info_parts infoEntry
  go_enter Try.func65, Try.ntmps65
  have hB1 : Below w.heap.size w (w.alloc (.cells #[] 27)) := (Below.refl _ w).alloc (Nat.le_refl _) _
  have hcs := ents_cells (entAt_below h hb hB1)
  have HV := hid (And.intro (valsOf_len es) (And.intro hcs (valsOf_one es)))
  have HB := hid hB1
  clear h hcs hB1
  go_wp2_with (at_builtin; refine wpList_append_own _ rfl _ _ 23 rfl w.heap.size 27 i0 _ 4 48 Try.underlying23 hi0 hz0 hzs hzb rfl (by decide) _ 0 [] rfl (owns_empty w _ (Nat.le_refl _) _) ⟨b, o, none⟩ es.length cap (valsOf es) rfl (unhid HV).1 (unhid HV).2.1 (unhid HV).2.2 ?c3 ?c4 ?c5 ?_)
  case c3 => unfold maxLen; omega
  case c4 => omega
  case c5 => simp
  intro v' w2 hown hg hnil
  obtain ⟨g2, cap2, rfl⟩ : ∃ g2 cap2, v' = .slice (some ⟨g2, 0, none⟩) es.length cap2 := by
    rcases hown.2 with ⟨hv, _⟩ | ⟨g, cap, cur, hv, _⟩
    · exact absurd hv hnil
    · exact ⟨g, cap, hv⟩
  have HF := hid (And.intro hown ((unhid HB).grown hg (unhid HB).size (fun k e => by cases e; exact Nat.le_refl _)))
  clear hown hg HV HB
  go_wp2_with fail
  go_ret
  exact ⟨g2, cap2, rfl, unhid HF⟩
theorem l2Copy_any (es : List Ent) (b o cap : Nat) (w : World) (hn : es.length ≤ 1048576) (h : ∀ (i : Nat) e, es[i]? = some e → EntAt w b (o + i * 4) e) (hb : es = [] ∨ b < w.heap.size) :
    Calls Try.prog 65 #[.slice (some ⟨b, o, none⟩) es.length cap] w fun x w' => ∃ v, x = .returned v ∧ w'.ownsRow w.heap.size 27 4 v es.length (valsOf es) ∧ Below w.heap.size w w' :=
  (l2Copy_some es b o cap w hn h hb).mono (fun _ _ ⟨_, _, h1, h2, h3⟩ => ⟨_, h1, h2, h3⟩)
end Go.Proofs.Ytaefjibnnbdaaaa

/- The library's Insert in the midst of a row: of texts, and of what stands at paths. -/
namespace Go.Proofs.Ytaefjibnnbdaaaa
open Go.RowKit Go.Shelf Go.Lib

theorem heap_cells_put (g : Nat) (t : TypeId) : ∀ (vs : List Value) (o : Nat) (w : World) (cs : Array Value), w.heap[g]? = some (.cells cs t (0, 0)) →
    ∃ cs' : Array Value, (w.setCells g o vs).heap[g]? = some (.cells cs' t (0, 0)) ∧ cs'.size = cs.size ∧ ∀ k, k < cs.size → cs'[k]? = if o ≤ k ∧ k < o + vs.length then vs[k - o]? else cs[k]?
  | [], o, w, cs, h => ⟨cs, h, rfl, fun k _ => by rw [if_neg (by rintro ⟨h1, h2⟩; simp at h2; omega)]⟩
  | v :: r, o, w, cs, h => by
    obtain ⟨cs', h1, h2, h3⟩ := heap_cells_put g t r (o + 1) (w.setCell ⟨g, o, none⟩ v) _ (heap_setCell_same w g o cs t v h)
    refine ⟨cs', h1, by rw [h2]; simp, fun k hk => ?_⟩
    rw [h3 k (by simpa using hk)]
    by_cases hin : o + 1 ≤ k ∧ k < o + 1 + r.length
    · rw [if_pos hin, if_pos ⟨by omega, by simp; omega⟩, show k - o = (k - (o + 1)) + 1 by omega, List.getElem?_cons_succ]
    · rw [if_neg hin]
      by_cases he : k = o
      · subst he
        rw [if_pos ⟨Nat.le_refl _, by simp⟩, Nat.sub_self]
        simp [hk]
      · rw [if_neg (by simp; omega)]
        rw [Array.getElem?_setIfInBounds_ne (fun e : o = k => he e.symm)]
theorem grown_cells_put (g : Nat) {w0 : World} {row : Option Nat} (hg : ∀ k, k < w0.heap.size → some k ≠ row → k ≠ g) : ∀ (vs : List Value) (o : Nat) (w : World), w0.grownBy w row → w0.grownBy (w.setCells g o vs) row
  | [], _, _, h => h
  | v :: r, o, w, h => grown_cells_put g hg r (o + 1) _ ⟨h.os, h.tape, h.output, by simpa using h.size, fun k hk hne => (heap_setCell_other w ⟨g, o, none⟩ k v (hg k hk hne)).trans (h.block k hk hne)⟩
theorem grown_drew {w0 w : World} {row : Option Nat} (h : w0.grownBy w row) : w0.grownBy w.drew row := ⟨h.os, h.tape, h.output, h.size, h.block⟩
theorem grown_refl (w : World) (row : Option Nat) : w.grownBy w row := ⟨rfl, rfl, rfl, Nat.le_refl _, fun _ _ _ => rfl⟩
theorem take_mid {cur : List Value} {xs : List Value} {n i : Nat} {p : Value} {cs : Array Value} (hx : cur.take n = xs) (hi : i ≤ n) (hl : n ≤ cur.length)
    (h : ∀ k, k < n + 1 → cs[k]? = if k < i then xs[k]? else if k = i then some p else xs[k - 1]?) : cs.toList.take (n + 1) = xs.take i ++ [p] ++ xs.drop i := by
  have hxl : xs.length = n := by rw [← hx, List.length_take]; omega
  apply List.ext_getElem?
  intro k
  rw [List.getElem?_take]
  by_cases hk : k < n + 1
  · rw [if_pos hk, Array.getElem?_toList, h k hk, List.append_assoc, List.getElem?_append, List.length_take, Nat.min_eq_left (by omega)]
    by_cases h1 : k < i
    · rw [if_pos h1, if_pos h1, List.getElem?_take_of_lt h1]
    · rw [if_neg h1, if_neg h1]
      by_cases h2 : k = i
      · rw [if_pos h2, h2, Nat.sub_self]; rfl
      · rw [if_neg h2, show k - i = (k - 1 - i) + 1 by omega, List.singleton_append, List.getElem?_cons_succ, List.getElem?_drop, show i + (k - 1 - i) = k - 1 by omega]
  · rw [if_neg hk, List.getElem?_eq_none]
    simp; omega

set_option maxHeartbeats 4000000 in
set_option maxRecDepth 100000 in
theorem InsertS_mid (N n c i g b : Nat) (cur : Array Value) (xs : List Value) (p : Value) (hp : p.oneCell' = true) (w : World) (hi : i < n) (hnc : n ≤ c) (hc63 : c ≤ maxLen) (hn : n ≤ 1000) (hN : N ≤ g) (hNw : N ≤ w.heap.size) (hg : w.heap[g]? = some (.cells cur 9 (0, 0))) (hsz : cur.size = c) (hxs : cur.toList.take n = xs) (hbg : b ≠ g) (hb : w.heap[b]? = some (.cells #[p] 9 (0, 0))) (h1 : ∀ v ∈ xs, v.oneCell' = true) :
    Calls Try.prog 88 #[.slice (some ⟨g, 0, .none⟩) n c, .int .i64 i, .slice (some ⟨b, 0, .none⟩) 1 1] w fun x w' => ∃ v', x = .returned v' ∧ w'.ownsRow N 9 1 v' (n + 1) (xs.take i ++ [p] ++ xs.drop i) ∧ w.grownBy w' (some g) ∧ (v'.ownBlock = some g ∨ v'.ownBlock = some w.heap.size) := by
  have hxl : xs.length = n := by rw [← hxs, List.length_take, Array.length_toList]; omega
  have hcs : ∀ j v, xs[j]? = some v → w.cell? ⟨g, 0 + j, none⟩ = some v := fun j v hj => by
    have hjn : j < n := by rw [← hxl]; exact (List.getElem?_eq_some_iff.1 hj).1
    rw [← hxs, List.getElem?_take_of_lt hjn, Array.getElem?_toList] at hj
    rw [Nat.zero_add]
    simp [World.cell?, hg, hj]
  have hvs : ∀ j v, [p][j]? = some v → w.cell? ⟨b, 0 + j, none⟩ = some v := fun j v hj => by
    match j with
    | 0 => simp at hj; subst hj; simp [World.cell?, hb]
    | j + 1 => simp at hj
  have h1v : ∀ v ∈ [p], v.oneCell' = true := fun v hv => by simp at hv; subst hv; exact hp
  have ht := Try.underlying53
  have ht3 := Try.underlying3
  obtain ⟨i0, hi0, hz0, hzs, hzb⟩ := info_parts info9
  have hzz : (Try.prog.info? 9).map (·.size) = some 1 := by rw [hi0]; simp [hzs]
  have hdl : (xs.drop i).length = n - i := by rw [List.length_drop, hxl]
  have hgl : g < w.heap.size := (Array.getElem?_eq_some_iff.1 hg).1
  have hbl : b < w.heap.size := (Array.getElem?_eq_some_iff.1 hb).1
  unfold maxLen at hc63
  have mixed : Try.prog.follows .mixedOrders = true := by kernel_rfl
  have hw1 : IntKind.i64.wrap ((i : Int) + 1) = (i : Int) + 1 := by rw [IntKind.wrap_i64]; omega
  have hw2 : IntKind.i64.wrap ((n : Int) + 1) = (n : Int) + 1 := by rw [IntKind.wrap_i64]; omega
  have hz2 : ¬ ((i : Int) = (n : Int)) := by omega
  have htn : ((i : Int) + 1).toNat = i + 1 := by omega
  have hin : i ≤ n := by omega
  have hb1 : (0 : Int) ≤ (i : Int) + 1 := by omega
  have hb3 : (i : Int) ≤ (n : Int) + 1 := by omega
  by_cases hroom : n + 1 ≤ c
  · have hsp : ∀ j, j < n + 1 → (w.cell? ⟨g, 0 + j, none⟩).isSome = true := fun j hj => by
      rw [Nat.zero_add]; simp [World.cell?, hg]; omega
    have hfz : ∀ j, w.frozen? ⟨g, j, none⟩ = false := fun j => by simp [World.frozen?, hg]
    have hov : ∀ lb cb, (callFunc 113 #[.slice (some ⟨b, 0, none⟩) 1 1, .slice (some ⟨g, i + 1, none⟩) lb cb]).run Try.prog w = .ok (.value (.bool false)) w := fun lb cb => by
      rw [run_callFunc_extern Try.func113 (by kernel_rfl) (by kernel_rfl) (by kernel_rfl) (e := Extern.SlicesOverlaps.overlaps #[53, 53] #[4]) (by kernel_rfl),
        Lib.run_overlaps_apart w 53 4 9 ht 1 (fun w => by kernel_rfl) ⟨b, 0, none⟩ ⟨g, i + 1, none⟩ 1 1 lb cb hbg 9 9 1 c (by simp [World.shape?, hb]) (by simp [World.shape?, hg, hsz]) (by omega) (by simp [World.frozen?, hb]) (by simp [World.frozen?, hb])]
      rfl
    have hcp1 : ∀ ty dc sc, (Builtin.copy_ #[53, 53] ty #[.slice (some ⟨g, i + 1, none⟩) (n - i) dc, .slice (some ⟨g, i, none⟩) (n + 1 - i) sc]).run Try.prog w.drew = .ok (goInt (xs.drop i).length) (w.drew.setCells g (i + 1) (xs.drop i)) := fun ty dc sc =>
      run_copy_cells w.drew _ _ ty 9 g (i + 1) (n - i) dc ⟨g, i, none⟩ (n + 1 - i) sc (xs.drop i) ht hzz (by rw [hdl]; simp only [Nat.min_def]; split <;> omega)
        (fun j v hj => by rw [Addr.add_lit]; have := hcs (i + j) v (by rwa [List.getElem?_drop] at hj); rwa [Nat.zero_add] at this)
        (fun j hj => by have := hsp (i + 1 + j) (by omega); rwa [Nat.zero_add] at this) (fun j hj => hfz _) (fun v hv => h1 v (List.mem_of_mem_drop hv))
    obtain ⟨W1, hW1⟩ : ∃ W1, W1 = w.drew.setCells g (i + 1) (xs.drop i) := ⟨_, rfl⟩
    have hsp1 : ∀ k, k < n + 1 → (W1.cell? ⟨g, k, none⟩).isSome = true := fun k hk => by
      rw [hW1]
      exact isSome_setCells g _ _ _ (fun j hj => by have := hsp (i + 1 + j) (by omega); rwa [Nat.zero_add] at this) _ (by have := hsp k hk; rwa [Nat.zero_add] at this)
    have hcp2 : ∀ (W : World), (∀ x, W.cell? x = W1.cell? x) → (∀ x, W.frozen? x = W1.frozen? x) → ∀ ty dc, (Builtin.copy_ #[53, 53] ty #[.slice (some ⟨g, i, none⟩) (n + 1 - i) dc, .slice (some ⟨b, 0, none⟩) 1 1]).run Try.prog W = .ok (goInt [p].length) (W.setCells g i [p]) := fun W hWc hWf ty dc =>
      run_copy_cells W _ _ ty 9 g i (n + 1 - i) dc ⟨b, 0, none⟩ 1 1 [p] ht hzz (by simp only [Nat.min_def, List.length_singleton]; split <;> omega)
        (fun j v hj => by
          rw [Addr.add_lit, hWc, hW1, World.cell?_setCells_out g _ _ _ _ (fun h _ => absurd h hbg)]
          exact hvs j v hj)
        (fun j hj => by rw [hWc]; exact hsp1 _ (by simp at hj; omega)) (fun j hj => by rw [hWf, hW1, World.frozen?_setCells]; exact hfz _) h1v
    rw [← hW1] at hcp1
    have FIN : ∃ v', (Ending.returned (.slice (some ⟨g, 0, none⟩) (n + 1) c)) = .returned v' ∧ (W1.setCells g i [p]).ownsRow N 9 1 v' (n + 1) (xs.take i ++ [p] ++ xs.drop i) ∧ w.grownBy (W1.setCells g i [p]) (some g) ∧ (v'.ownBlock = some g ∨ v'.ownBlock = some w.heap.size) := by
      refine ⟨_, rfl, ?_, ?_, .inl rfl⟩
      · obtain ⟨c1, q1, q2, q3⟩ := heap_cells_put g 9 (xs.drop i) (i + 1) w.drew cur hg
        rw [← hW1] at q1
        obtain ⟨c2, r1, r2, r3⟩ := heap_cells_put g 9 [p] i W1 c1 q1
        refine ⟨by simp [hxl]; omega, .inr ⟨g, c, c2, rfl, hN, r1, hroom, hc63, by rw [r2, q2, hsz]; omega, ?_⟩⟩
        rw [Nat.mul_one]
        refine take_mid (cur := cur.toList) (i := i) hxs (by omega) (by rw [Array.length_toList]; omega) (fun k hk => ?_)
        rw [r3 k (by omega)]
        by_cases k1 : k < i
        · rw [if_pos k1, if_neg (by omega), q3 k (by omega), if_neg (by omega), ← hxs, List.getElem?_take_of_lt (by omega), Array.getElem?_toList]
        · rw [if_neg k1]
          by_cases k2 : k = i
          · rw [if_pos k2, if_pos ⟨by omega, by simp; omega⟩, k2, Nat.sub_self]; rfl
          · rw [if_neg k2, if_neg (by simp; omega), q3 k (by omega), if_pos ⟨by omega, by rw [hdl]; omega⟩, List.getElem?_drop, show i + (k - (i + 1)) = k - 1 by omega]
      · rw [hW1]
        exact grown_cells_put g (fun k _ hk e => hk (by rw [e])) _ _ _ (grown_cells_put g (fun k _ hk e => hk (by rw [e])) _ _ _ (grown_drew (grown_refl _ _)))
    have HF := hid FIN
    have hz3 : ¬ ((c : Int) < (n : Int) + 1) := by omega
    have hb2 : ¬ (c = i + 1) := by omega
    have hb4 : ¬ (c = i) := by omega
    clear FIN hsz hxs hg hb hN hNw hcs hvs h1 h1v
    go_enter Try.func88, Try.ntmps88
    go_wp2_with (simp only [hov])
    go_region_law_o (refine step_copy_runI rfl _ _ 53 53 rfl _ _ (by simp [Act.eval, Act.put]) (by simp [Act.eval, Act.put]) (hcp1 _ _ _) ?_)
    go_wp2_with (at_builtin; refine wpList_copy_runI _ rfl _ _ 53 53 rfl _ _ rfl rfl (hcp2 _ (fun _ => rfl) (fun _ => rfl) _ _) ?_)
    go_ret
    obtain ⟨v', e1, e2, e3, e4⟩ := unhid HF
    cases e1
    rw [hW1] at e2 e3
    exact ⟨_, rfl, e2, e3, e4⟩
  · have hceq : c = n := by omega
    have hkk : (n : Int) + 1 - (i : Int) = ((n + 1 - i : Nat) : Int) := by omega
    have hik : i + (n + 1 - i) = n + 1 := by omega
    have hold : (Builtin.firstCells i0.size i (.slice (some ⟨g, 0, none⟩) i c)).run Try.prog w.drew = .ok (xs.take i).toArray w.drew := by
      rw [hzs]
      exact run_firstCells_some w.drew 1 i ⟨g, 0, none⟩ i c (xs.take i) (by rw [List.length_take]; omega) (fun j v hj => by
        rw [Addr.add_lit]
        rw [List.getElem?_take] at hj
        split at hj
        · exact hcs j v hj
        · cases hj)
    have hrz : ∀ ty, (Builtin.append_ #[53, 3] ty #[.slice (some ⟨g, 0, none⟩) i c, .int .i64 ((n : Int) + 1 - (i : Int))]).run Try.prog w =
        .ok (.slice (some ⟨w.heap.size, 0, none⟩) (n + 1) (grownCap w (n + 1) c 9)) (w.drew.alloc (.cells ((xs.take i).toArray ++ Builtin.zeroCells (Value.string ⟨#[]⟩).cells (n + 1 - i) ++ Builtin.zeroCells (Value.string ⟨#[]⟩).cells (grownCap w (n + 1) c 9 - (n + 1))) 9)) := fun ty => by
      have h := Lib.run_append_grow_zeros w 53 3 ty 9 i0 _ .i64 .i64 ht ht3 hi0 hz0 (some ⟨g, 0, none⟩) i c (xs.take i) hold (n + 1 - i) (by omega) (by omega) (by omega) (by omega) (by rw [hzb]; omega) (by rw [hzb, hik]; exact growslice_fits (by omega) (by omega))
      rw [hik] at h
      rw [hkk]
      exact h
    obtain ⟨G, hG⟩ : ∃ G, G = grownCap w (n + 1) c 9 := ⟨_, rfl⟩
    obtain ⟨ROW, hROW⟩ : ∃ ROW : Array Value, ROW = (xs.take i).toArray ++ Builtin.zeroCells (Value.string ⟨#[]⟩).cells (n + 1 - i) ++ Builtin.zeroCells (Value.string ⟨#[]⟩).cells (G - (n + 1)) := ⟨_, rfl⟩
    rw [← hG, ← hROW] at hrz
    have hGn : n + 1 ≤ G := by rw [hG]; exact grownCap_ge w _ _ _
    have hRs : ROW.size = G := by
      rw [hROW]
      simp [Builtin.zeroCells, Value.cells, hxl]
      omega
    have hRt : ∀ k, k < i → ROW[k]? = xs[k]? := fun k hk => by
      rw [hROW, Array.append_assoc, Array.getElem?_append_left (by simp [hxl]; omega)]
      simp [List.getElem?_take_of_lt hk]
    obtain ⟨W1, hW1⟩ : ∃ W1, W1 = w.drew.alloc (.cells ROW 9) := ⟨_, rfl⟩
    rw [← hW1] at hrz
    have hNew : W1.heap[w.heap.size]? = some (.cells ROW 9 (0, 0)) := by rw [hW1]; exact World.alloc_heap_new w.drew _
    have hNs : ∀ j, j < n + 1 → (W1.cell? ⟨w.heap.size, j, none⟩).isSome = true := fun j hj => by
      simp [World.cell?, hNew]; omega
    have hNf : ∀ j, W1.frozen? ⟨w.heap.size, j, none⟩ = false := fun j => by simp [World.frozen?, hNew]
    have hOb : ∀ j v, w.cell? ⟨g, j, none⟩ = some v → W1.cell? ⟨g, j, none⟩ = some v := fun j v h => by rw [hW1, World.cell?_alloc_past (w := w.drew) _ g j hgl]; exact h
    have hOv : ∀ j v, w.cell? ⟨b, j, none⟩ = some v → W1.cell? ⟨b, j, none⟩ = some v := fun j v h => by rw [hW1, World.cell?_alloc_past (w := w.drew) _ b j hbl]; exact h
    have hcpA : ∀ (W : World), (∀ x, W.cell? x = W1.cell? x) → (∀ x, W.frozen? x = W1.frozen? x) → ∀ ty dc, (Builtin.copy_ #[53, 53] ty #[.slice (some ⟨w.heap.size, i, none⟩) (n + 1 - i) dc, .slice (some ⟨b, 0, none⟩) 1 1]).run Try.prog W = .ok (goInt [p].length) (W.setCells w.heap.size i [p]) := fun W hWc hWf ty dc =>
      run_copy_cells W _ _ ty 9 w.heap.size i (n + 1 - i) dc ⟨b, 0, none⟩ 1 1 [p] ht hzz (by simp only [Nat.min_def, List.length_singleton]; split <;> omega)
        (fun j v hj => by rw [Addr.add_lit, hWc]; exact hOv _ v (hvs j v hj))
        (fun j hj => by rw [hWc]; exact hNs _ (by simp at hj; omega)) (fun j hj => by rw [hWf]; exact hNf _) h1v
    have hG63 : G ≤ 9223372036854775807 := by
      have := grownCap_le_maxLen w (n + 1) c 9 (by unfold maxLen; omega)
      rw [← hG] at this
      unfold maxLen at this
      omega
    have hgN : g ≠ w.heap.size := by omega
    have hcpB : ∀ (W : World), (∀ x, W.cell? x = (W1.setCells w.heap.size i [p]).cell? x) → (∀ x, W.frozen? x = (W1.setCells w.heap.size i [p]).frozen? x) → ∀ ty dc sc, (Builtin.copy_ #[53, 53] ty #[.slice (some ⟨w.heap.size, i + 1, none⟩) (n - i) dc, .slice (some ⟨g, i, none⟩) (n - i) sc]).run Try.prog W = .ok (goInt (xs.drop i).length) (W.setCells w.heap.size (i + 1) (xs.drop i)) := fun W hWc hWf ty dc sc =>
      run_copy_cells W _ _ ty 9 w.heap.size (i + 1) (n - i) dc ⟨g, i, none⟩ (n - i) sc (xs.drop i) ht hzz (by rw [hdl]; simp only [Nat.min_def]; split <;> omega)
        (fun j v hj => by
          rw [Addr.add_lit, hWc, World.cell?_setCells_out _ _ _ _ _ (fun h _ => absurd h hgN)]
          have := hcs (i + j) v (by rwa [List.getElem?_drop] at hj)
          rw [Nat.zero_add] at this
          exact hOb _ v this)
        (fun j hj => by rw [hWc]; exact isSome_setCells _ _ _ _ (fun t ht => hNs _ (by simp at ht; omega)) _ (hNs _ (by omega)))
        (fun j hj => by rw [hWf, World.frozen?_setCells]; exact hNf _) (fun v hv => h1 v (List.mem_of_mem_drop hv))
    have FIN : ∀ W2 : World, W2 = (((w.alloc (.cells ROW 9)).drew.setCells w.heap.size i [p]).drew).setCells w.heap.size (i + 1) (xs.drop i) → ∃ v', (Ending.returned (.slice (some ⟨w.heap.size, 0, none⟩) (n + 1) G)) = .returned v' ∧ W2.ownsRow N 9 1 v' (n + 1) (xs.take i ++ [p] ++ xs.drop i) ∧ w.grownBy W2 (some g) ∧ (v'.ownBlock = some g ∨ v'.ownBlock = some w.heap.size) := fun W2 hW2 => by
      refine ⟨_, rfl, ?_, ?_, .inr rfl⟩
      · obtain ⟨c1, q1, q2, q3⟩ := heap_cells_put w.heap.size 9 [p] i (w.alloc (.cells ROW 9)).drew ROW (World.alloc_heap_new w _)
        obtain ⟨c2, r1, r2, r3⟩ := heap_cells_put w.heap.size 9 (xs.drop i) (i + 1) ((w.alloc (.cells ROW 9)).drew.setCells w.heap.size i [p]).drew c1 q1
        rw [hW2]
        refine ⟨by simp [hxl]; omega, .inr ⟨w.heap.size, G, c2, rfl, hNw, r1, hGn, hG63, by rw [r2, q2, hRs]; omega, ?_⟩⟩
        rw [Nat.mul_one]
        refine take_mid (cur := cur.toList) (i := i) hxs (by omega) (by rw [Array.length_toList]; omega) (fun k hk => ?_)
        rw [r3 k (by omega)]
        by_cases k1 : k < i
        · rw [if_pos k1, if_neg (by omega), q3 k (by omega), if_neg (by omega), hRt k k1]
        · rw [if_neg k1]
          by_cases k2 : k = i
          · rw [if_pos k2, if_neg (by omega), q3 k (by omega), if_pos ⟨by omega, by simp; omega⟩, k2, Nat.sub_self]; rfl
          · rw [if_neg k2, if_pos ⟨by omega, by rw [hdl]; omega⟩, List.getElem?_drop, show i + (k - (i + 1)) = k - 1 by omega]
      · rw [hW2]
        exact grown_cells_put w.heap.size (fun k hk _ e => by omega) _ _ _ (grown_drew (grown_cells_put w.heap.size (fun k hk _ e => by omega) _ _ _ (grown_drew ⟨rfl, rfl, rfl, by simp, fun k hk _ => Below.heap_alloc _ _ _ hk⟩)))
    have HF := hid FIN
    have hGi : ¬ (G = i) := by omega
    have hGim : ¬ (G = i + 1) := by omega
    have hci : ¬ (c = i) := by omega
    have hz3 : (c : Int) < (n : Int) + 1 := by omega
    subst hW1
    have hE1 : ∀ x, ((w.alloc (.cells ROW 9)).drew).cell? x = (w.drew.alloc (.cells ROW 9)).cell? x := fun x => rfl
    have hE2 : ∀ x, ((w.alloc (.cells ROW 9)).drew).frozen? x = (w.drew.alloc (.cells ROW 9)).frozen? x := fun x => rfl
    have hF1 : ∀ x, (((w.alloc (.cells ROW 9)).drew.setCells w.heap.size i [p]).drew).cell? x = ((w.drew.alloc (.cells ROW 9)).setCells w.heap.size i [p]).cell? x := fun x => rfl
    have hF2 : ∀ x, (((w.alloc (.cells ROW 9)).drew.setCells w.heap.size i [p]).drew).frozen? x = ((w.drew.alloc (.cells ROW 9)).setCells w.heap.size i [p]).frozen? x := fun x => rfl
    have HRZ := hid hrz
    have HCA := hid (fun ty dc => hcpA _ hE1 hE2 ty dc)
    have HCB := hid (fun ty dc sc => hcpB _ hF1 hF2 ty dc sc)
    subst hceq
    clear FIN hkk hik hold hROW hG hRt hRs hNew hNs hNf hOb hOv hsz hxs hg hb hN hNw hcs hvs h1 h1v hE1 hE2 hF1 hF2 hcpA hcpB hrz hz3 hi0 hz0 hzs hzb hzz ht ht3 hroom hgl hbl hxl hdl
    go_enter Try.func88, Try.ntmps88
    go_wp2_with (at_builtin; refine Lib.wpList_append_run _ rfl _ _ _ _ rfl (.slice (some ⟨g, 0, none⟩) i c) (.int .i64 ((c : Int) + 1 - (i : Int))) rfl rfl _ _ (unhid HRZ _) ?_; clear HRZ; have hcA := unhid HCA; clear HCA; go_wp2_with (simp only [hcA]); clear hcA)
    have HCB1 := hid (unhid HCB 3 (G - (i + 1)) (c - i))
    clear HCB
    go_region_law_o (refine step_copy_runI rfl _ _ 53 53 rfl (.slice (some ⟨w.heap.size, i + 1, none⟩) (c - i) (G - (i + 1))) (.slice (some ⟨g, i, none⟩) (c - i) (c - i)) (by simp [Act.eval, Act.put]) (by simp [Act.eval, Act.put]) (unhid HCB1) ?_)
    go_wp2
    go_ret
    obtain ⟨v', e1, e2, e3, e4⟩ := unhid HF _ rfl
    cases e1
    exact ⟨_, rfl, e2, e3, e4⟩

set_option maxHeartbeats 4000000 in
set_option maxRecDepth 100000 in
theorem InsertN_mid (N n c i g b : Nat) (cur : Array Value) (xs : List Value) (p : Value) (hp : p.oneCell' = true) (w : World) (hi : i < n) (hnc : n ≤ c) (hc63 : c ≤ maxLen) (hn : n ≤ 1000) (hN : N ≤ g) (hNw : N ≤ w.heap.size) (hg : w.heap[g]? = some (.cells cur 62 (0, 0))) (hsz : cur.size = c) (hxs : cur.toList.take n = xs) (hbg : b ≠ g) (hb : w.heap[b]? = some (.cells #[p] 62 (0, 0))) (h1 : ∀ v ∈ xs, v.oneCell' = true) :
    Calls Try.prog 89 #[.slice (some ⟨g, 0, .none⟩) n c, .int .i64 i, .slice (some ⟨b, 0, .none⟩) 1 1] w fun x w' => ∃ v', x = .returned v' ∧ w'.ownsRow N 62 1 v' (n + 1) (xs.take i ++ [p] ++ xs.drop i) ∧ w.grownBy w' (some g) ∧ (v'.ownBlock = some g ∨ v'.ownBlock = some w.heap.size) := by
  have hxl : xs.length = n := by rw [← hxs, List.length_take, Array.length_toList]; omega
  have hcs : ∀ j v, xs[j]? = some v → w.cell? ⟨g, 0 + j, none⟩ = some v := fun j v hj => by
    have hjn : j < n := by rw [← hxl]; exact (List.getElem?_eq_some_iff.1 hj).1
    rw [← hxs, List.getElem?_take_of_lt hjn, Array.getElem?_toList] at hj
    rw [Nat.zero_add]
    simp [World.cell?, hg, hj]
  have hvs : ∀ j v, [p][j]? = some v → w.cell? ⟨b, 0 + j, none⟩ = some v := fun j v hj => by
    match j with
    | 0 => simp at hj; subst hj; simp [World.cell?, hb]
    | j + 1 => simp at hj
  have h1v : ∀ v ∈ [p], v.oneCell' = true := fun v hv => by simp at hv; subst hv; exact hp
  have ht := Try.underlying54
  have ht3 := Try.underlying3
  obtain ⟨i0, hi0, hz0, hzs, hzb⟩ := info_parts infoNode
  have hzz : (Try.prog.info? 62).map (·.size) = some 1 := by rw [hi0]; simp [hzs]
  have hdl : (xs.drop i).length = n - i := by rw [List.length_drop, hxl]
  have hgl : g < w.heap.size := (Array.getElem?_eq_some_iff.1 hg).1
  have hbl : b < w.heap.size := (Array.getElem?_eq_some_iff.1 hb).1
  unfold maxLen at hc63
  have mixed : Try.prog.follows .mixedOrders = true := by kernel_rfl
  have hw1 : IntKind.i64.wrap ((i : Int) + 1) = (i : Int) + 1 := by rw [IntKind.wrap_i64]; omega
  have hw2 : IntKind.i64.wrap ((n : Int) + 1) = (n : Int) + 1 := by rw [IntKind.wrap_i64]; omega
  have hz2 : ¬ ((i : Int) = (n : Int)) := by omega
  have htn : ((i : Int) + 1).toNat = i + 1 := by omega
  have hin : i ≤ n := by omega
  have hb1 : (0 : Int) ≤ (i : Int) + 1 := by omega
  have hb3 : (i : Int) ≤ (n : Int) + 1 := by omega
  by_cases hroom : n + 1 ≤ c
  · have hsp : ∀ j, j < n + 1 → (w.cell? ⟨g, 0 + j, none⟩).isSome = true := fun j hj => by
      rw [Nat.zero_add]; simp [World.cell?, hg]; omega
    have hfz : ∀ j, w.frozen? ⟨g, j, none⟩ = false := fun j => by simp [World.frozen?, hg]
    have hov : ∀ lb cb, (callFunc 115 #[.slice (some ⟨b, 0, none⟩) 1 1, .slice (some ⟨g, i + 1, none⟩) lb cb]).run Try.prog w = .ok (.value (.bool false)) w := fun lb cb => by
      rw [run_callFunc_extern Try.func115 (by kernel_rfl) (by kernel_rfl) (by kernel_rfl) (e := Extern.SlicesOverlaps.overlaps #[54, 54] #[4]) (by kernel_rfl),
        Lib.run_overlaps_apart w 54 4 62 ht 1 (fun w => by kernel_rfl) ⟨b, 0, none⟩ ⟨g, i + 1, none⟩ 1 1 lb cb hbg 62 62 1 c (by simp [World.shape?, hb]) (by simp [World.shape?, hg, hsz]) (by omega) (by simp [World.frozen?, hb]) (by simp [World.frozen?, hb])]
      rfl
    have hcp1 : ∀ ty dc sc, (Builtin.copy_ #[54, 54] ty #[.slice (some ⟨g, i + 1, none⟩) (n - i) dc, .slice (some ⟨g, i, none⟩) (n + 1 - i) sc]).run Try.prog w.drew = .ok (goInt (xs.drop i).length) (w.drew.setCells g (i + 1) (xs.drop i)) := fun ty dc sc =>
      run_copy_cells w.drew _ _ ty 62 g (i + 1) (n - i) dc ⟨g, i, none⟩ (n + 1 - i) sc (xs.drop i) ht hzz (by rw [hdl]; simp only [Nat.min_def]; split <;> omega)
        (fun j v hj => by rw [Addr.add_lit]; have := hcs (i + j) v (by rwa [List.getElem?_drop] at hj); rwa [Nat.zero_add] at this)
        (fun j hj => by have := hsp (i + 1 + j) (by omega); rwa [Nat.zero_add] at this) (fun j hj => hfz _) (fun v hv => h1 v (List.mem_of_mem_drop hv))
    obtain ⟨W1, hW1⟩ : ∃ W1, W1 = w.drew.setCells g (i + 1) (xs.drop i) := ⟨_, rfl⟩
    have hsp1 : ∀ k, k < n + 1 → (W1.cell? ⟨g, k, none⟩).isSome = true := fun k hk => by
      rw [hW1]
      exact isSome_setCells g _ _ _ (fun j hj => by have := hsp (i + 1 + j) (by omega); rwa [Nat.zero_add] at this) _ (by have := hsp k hk; rwa [Nat.zero_add] at this)
    have hcp2 : ∀ (W : World), (∀ x, W.cell? x = W1.cell? x) → (∀ x, W.frozen? x = W1.frozen? x) → ∀ ty dc, (Builtin.copy_ #[54, 54] ty #[.slice (some ⟨g, i, none⟩) (n + 1 - i) dc, .slice (some ⟨b, 0, none⟩) 1 1]).run Try.prog W = .ok (goInt [p].length) (W.setCells g i [p]) := fun W hWc hWf ty dc =>
      run_copy_cells W _ _ ty 62 g i (n + 1 - i) dc ⟨b, 0, none⟩ 1 1 [p] ht hzz (by simp only [Nat.min_def, List.length_singleton]; split <;> omega)
        (fun j v hj => by
          rw [Addr.add_lit, hWc, hW1, World.cell?_setCells_out g _ _ _ _ (fun h _ => absurd h hbg)]
          exact hvs j v hj)
        (fun j hj => by rw [hWc]; exact hsp1 _ (by simp at hj; omega)) (fun j hj => by rw [hWf, hW1, World.frozen?_setCells]; exact hfz _) h1v
    rw [← hW1] at hcp1
    have FIN : ∃ v', (Ending.returned (.slice (some ⟨g, 0, none⟩) (n + 1) c)) = .returned v' ∧ (W1.setCells g i [p]).ownsRow N 62 1 v' (n + 1) (xs.take i ++ [p] ++ xs.drop i) ∧ w.grownBy (W1.setCells g i [p]) (some g) ∧ (v'.ownBlock = some g ∨ v'.ownBlock = some w.heap.size) := by
      refine ⟨_, rfl, ?_, ?_, .inl rfl⟩
      · obtain ⟨c1, q1, q2, q3⟩ := heap_cells_put g 62 (xs.drop i) (i + 1) w.drew cur hg
        rw [← hW1] at q1
        obtain ⟨c2, r1, r2, r3⟩ := heap_cells_put g 62 [p] i W1 c1 q1
        refine ⟨by simp [hxl]; omega, .inr ⟨g, c, c2, rfl, hN, r1, hroom, hc63, by rw [r2, q2, hsz]; omega, ?_⟩⟩
        rw [Nat.mul_one]
        refine take_mid (cur := cur.toList) (i := i) hxs (by omega) (by rw [Array.length_toList]; omega) (fun k hk => ?_)
        rw [r3 k (by omega)]
        by_cases k1 : k < i
        · rw [if_pos k1, if_neg (by omega), q3 k (by omega), if_neg (by omega), ← hxs, List.getElem?_take_of_lt (by omega), Array.getElem?_toList]
        · rw [if_neg k1]
          by_cases k2 : k = i
          · rw [if_pos k2, if_pos ⟨by omega, by simp; omega⟩, k2, Nat.sub_self]; rfl
          · rw [if_neg k2, if_neg (by simp; omega), q3 k (by omega), if_pos ⟨by omega, by rw [hdl]; omega⟩, List.getElem?_drop, show i + (k - (i + 1)) = k - 1 by omega]
      · rw [hW1]
        exact grown_cells_put g (fun k _ hk e => hk (by rw [e])) _ _ _ (grown_cells_put g (fun k _ hk e => hk (by rw [e])) _ _ _ (grown_drew (grown_refl _ _)))
    have HF := hid FIN
    have hz3 : ¬ ((c : Int) < (n : Int) + 1) := by omega
    have hb2 : ¬ (c = i + 1) := by omega
    have hb4 : ¬ (c = i) := by omega
    clear FIN hsz hxs hg hb hN hNw hcs hvs h1 h1v
    go_enter Try.func89, Try.ntmps89
    go_wp2_with (simp only [hov])
    go_region_law_o (refine step_copy_runI rfl _ _ 54 54 rfl _ _ (by simp [Act.eval, Act.put]) (by simp [Act.eval, Act.put]) (hcp1 _ _ _) ?_)
    go_wp2_with (at_builtin; refine wpList_copy_runI _ rfl _ _ 54 54 rfl _ _ rfl rfl (hcp2 _ (fun _ => rfl) (fun _ => rfl) _ _) ?_)
    go_ret
    obtain ⟨v', e1, e2, e3, e4⟩ := unhid HF
    cases e1
    rw [hW1] at e2 e3
    exact ⟨_, rfl, e2, e3, e4⟩
  · have hceq : c = n := by omega
    have hkk : (n : Int) + 1 - (i : Int) = ((n + 1 - i : Nat) : Int) := by omega
    have hik : i + (n + 1 - i) = n + 1 := by omega
    have hold : (Builtin.firstCells i0.size i (.slice (some ⟨g, 0, none⟩) i c)).run Try.prog w.drew = .ok (xs.take i).toArray w.drew := by
      rw [hzs]
      exact run_firstCells_some w.drew 1 i ⟨g, 0, none⟩ i c (xs.take i) (by rw [List.length_take]; omega) (fun j v hj => by
        rw [Addr.add_lit]
        rw [List.getElem?_take] at hj
        split at hj
        · exact hcs j v hj
        · cases hj)
    have hrz : ∀ ty, (Builtin.append_ #[54, 3] ty #[.slice (some ⟨g, 0, none⟩) i c, .int .i64 ((n : Int) + 1 - (i : Int))]).run Try.prog w =
        .ok (.slice (some ⟨w.heap.size, 0, none⟩) (n + 1) (grownCap w (n + 1) c 62)) (w.drew.alloc (.cells ((xs.take i).toArray ++ Builtin.zeroCells (Value.nilIface).cells (n + 1 - i) ++ Builtin.zeroCells (Value.nilIface).cells (grownCap w (n + 1) c 62 - (n + 1))) 62)) := fun ty => by
      have h := Lib.run_append_grow_zeros w 54 3 ty 62 i0 _ .i64 .i64 ht ht3 hi0 hz0 (some ⟨g, 0, none⟩) i c (xs.take i) hold (n + 1 - i) (by omega) (by omega) (by omega) (by omega) (by rw [hzb]; omega) (by rw [hzb, hik]; exact growslice_fits (by omega) (by omega))
      rw [hik] at h
      rw [hkk]
      exact h
    obtain ⟨G, hG⟩ : ∃ G, G = grownCap w (n + 1) c 62 := ⟨_, rfl⟩
    obtain ⟨ROW, hROW⟩ : ∃ ROW : Array Value, ROW = (xs.take i).toArray ++ Builtin.zeroCells (Value.nilIface).cells (n + 1 - i) ++ Builtin.zeroCells (Value.nilIface).cells (G - (n + 1)) := ⟨_, rfl⟩
    rw [← hG, ← hROW] at hrz
    have hGn : n + 1 ≤ G := by rw [hG]; exact grownCap_ge w _ _ _
    have hRs : ROW.size = G := by
      rw [hROW]
      simp [Builtin.zeroCells, Value.cells, hxl]
      omega
    have hRt : ∀ k, k < i → ROW[k]? = xs[k]? := fun k hk => by
      rw [hROW, Array.append_assoc, Array.getElem?_append_left (by simp [hxl]; omega)]
      simp [List.getElem?_take_of_lt hk]
    obtain ⟨W1, hW1⟩ : ∃ W1, W1 = w.drew.alloc (.cells ROW 62) := ⟨_, rfl⟩
    rw [← hW1] at hrz
    have hNew : W1.heap[w.heap.size]? = some (.cells ROW 62 (0, 0)) := by rw [hW1]; exact World.alloc_heap_new w.drew _
    have hNs : ∀ j, j < n + 1 → (W1.cell? ⟨w.heap.size, j, none⟩).isSome = true := fun j hj => by
      simp [World.cell?, hNew]; omega
    have hNf : ∀ j, W1.frozen? ⟨w.heap.size, j, none⟩ = false := fun j => by simp [World.frozen?, hNew]
    have hOb : ∀ j v, w.cell? ⟨g, j, none⟩ = some v → W1.cell? ⟨g, j, none⟩ = some v := fun j v h => by rw [hW1, World.cell?_alloc_past (w := w.drew) _ g j hgl]; exact h
    have hOv : ∀ j v, w.cell? ⟨b, j, none⟩ = some v → W1.cell? ⟨b, j, none⟩ = some v := fun j v h => by rw [hW1, World.cell?_alloc_past (w := w.drew) _ b j hbl]; exact h
    have hcpA : ∀ (W : World), (∀ x, W.cell? x = W1.cell? x) → (∀ x, W.frozen? x = W1.frozen? x) → ∀ ty dc, (Builtin.copy_ #[54, 54] ty #[.slice (some ⟨w.heap.size, i, none⟩) (n + 1 - i) dc, .slice (some ⟨b, 0, none⟩) 1 1]).run Try.prog W = .ok (goInt [p].length) (W.setCells w.heap.size i [p]) := fun W hWc hWf ty dc =>
      run_copy_cells W _ _ ty 62 w.heap.size i (n + 1 - i) dc ⟨b, 0, none⟩ 1 1 [p] ht hzz (by simp only [Nat.min_def, List.length_singleton]; split <;> omega)
        (fun j v hj => by rw [Addr.add_lit, hWc]; exact hOv _ v (hvs j v hj))
        (fun j hj => by rw [hWc]; exact hNs _ (by simp at hj; omega)) (fun j hj => by rw [hWf]; exact hNf _) h1v
    have hG63 : G ≤ 9223372036854775807 := by
      have := grownCap_le_maxLen w (n + 1) c 62 (by unfold maxLen; omega)
      rw [← hG] at this
      unfold maxLen at this
      omega
    have hgN : g ≠ w.heap.size := by omega
    have hcpB : ∀ (W : World), (∀ x, W.cell? x = (W1.setCells w.heap.size i [p]).cell? x) → (∀ x, W.frozen? x = (W1.setCells w.heap.size i [p]).frozen? x) → ∀ ty dc sc, (Builtin.copy_ #[54, 54] ty #[.slice (some ⟨w.heap.size, i + 1, none⟩) (n - i) dc, .slice (some ⟨g, i, none⟩) (n - i) sc]).run Try.prog W = .ok (goInt (xs.drop i).length) (W.setCells w.heap.size (i + 1) (xs.drop i)) := fun W hWc hWf ty dc sc =>
      run_copy_cells W _ _ ty 62 w.heap.size (i + 1) (n - i) dc ⟨g, i, none⟩ (n - i) sc (xs.drop i) ht hzz (by rw [hdl]; simp only [Nat.min_def]; split <;> omega)
        (fun j v hj => by
          rw [Addr.add_lit, hWc, World.cell?_setCells_out _ _ _ _ _ (fun h _ => absurd h hgN)]
          have := hcs (i + j) v (by rwa [List.getElem?_drop] at hj)
          rw [Nat.zero_add] at this
          exact hOb _ v this)
        (fun j hj => by rw [hWc]; exact isSome_setCells _ _ _ _ (fun t ht => hNs _ (by simp at ht; omega)) _ (hNs _ (by omega)))
        (fun j hj => by rw [hWf, World.frozen?_setCells]; exact hNf _) (fun v hv => h1 v (List.mem_of_mem_drop hv))
    have FIN : ∀ W2 : World, W2 = (((w.alloc (.cells ROW 62)).drew.setCells w.heap.size i [p]).drew).setCells w.heap.size (i + 1) (xs.drop i) → ∃ v', (Ending.returned (.slice (some ⟨w.heap.size, 0, none⟩) (n + 1) G)) = .returned v' ∧ W2.ownsRow N 62 1 v' (n + 1) (xs.take i ++ [p] ++ xs.drop i) ∧ w.grownBy W2 (some g) ∧ (v'.ownBlock = some g ∨ v'.ownBlock = some w.heap.size) := fun W2 hW2 => by
      refine ⟨_, rfl, ?_, ?_, .inr rfl⟩
      · obtain ⟨c1, q1, q2, q3⟩ := heap_cells_put w.heap.size 62 [p] i (w.alloc (.cells ROW 62)).drew ROW (World.alloc_heap_new w _)
        obtain ⟨c2, r1, r2, r3⟩ := heap_cells_put w.heap.size 62 (xs.drop i) (i + 1) ((w.alloc (.cells ROW 62)).drew.setCells w.heap.size i [p]).drew c1 q1
        rw [hW2]
        refine ⟨by simp [hxl]; omega, .inr ⟨w.heap.size, G, c2, rfl, hNw, r1, hGn, hG63, by rw [r2, q2, hRs]; omega, ?_⟩⟩
        rw [Nat.mul_one]
        refine take_mid (cur := cur.toList) (i := i) hxs (by omega) (by rw [Array.length_toList]; omega) (fun k hk => ?_)
        rw [r3 k (by omega)]
        by_cases k1 : k < i
        · rw [if_pos k1, if_neg (by omega), q3 k (by omega), if_neg (by omega), hRt k k1]
        · rw [if_neg k1]
          by_cases k2 : k = i
          · rw [if_pos k2, if_neg (by omega), q3 k (by omega), if_pos ⟨by omega, by simp; omega⟩, k2, Nat.sub_self]; rfl
          · rw [if_neg k2, if_pos ⟨by omega, by rw [hdl]; omega⟩, List.getElem?_drop, show i + (k - (i + 1)) = k - 1 by omega]
      · rw [hW2]
        exact grown_cells_put w.heap.size (fun k hk _ e => by omega) _ _ _ (grown_drew (grown_cells_put w.heap.size (fun k hk _ e => by omega) _ _ _ (grown_drew ⟨rfl, rfl, rfl, by simp, fun k hk _ => Below.heap_alloc _ _ _ hk⟩)))
    have HF := hid FIN
    have hGi : ¬ (G = i) := by omega
    have hGim : ¬ (G = i + 1) := by omega
    have hci : ¬ (c = i) := by omega
    have hz3 : (c : Int) < (n : Int) + 1 := by omega
    subst hW1
    have hE1 : ∀ x, ((w.alloc (.cells ROW 62)).drew).cell? x = (w.drew.alloc (.cells ROW 62)).cell? x := fun x => rfl
    have hE2 : ∀ x, ((w.alloc (.cells ROW 62)).drew).frozen? x = (w.drew.alloc (.cells ROW 62)).frozen? x := fun x => rfl
    have hF1 : ∀ x, (((w.alloc (.cells ROW 62)).drew.setCells w.heap.size i [p]).drew).cell? x = ((w.drew.alloc (.cells ROW 62)).setCells w.heap.size i [p]).cell? x := fun x => rfl
    have hF2 : ∀ x, (((w.alloc (.cells ROW 62)).drew.setCells w.heap.size i [p]).drew).frozen? x = ((w.drew.alloc (.cells ROW 62)).setCells w.heap.size i [p]).frozen? x := fun x => rfl
    have HRZ := hid hrz
    have HCA := hid (fun ty dc => hcpA _ hE1 hE2 ty dc)
    have HCB := hid (fun ty dc sc => hcpB _ hF1 hF2 ty dc sc)
    subst hceq
    clear FIN hkk hik hold hROW hG hRt hRs hNew hNs hNf hOb hOv hsz hxs hg hb hN hNw hcs hvs h1 h1v hE1 hE2 hF1 hF2 hcpA hcpB hrz hz3 hi0 hz0 hzs hzb hzz ht ht3 hroom hgl hbl hxl hdl
    go_enter Try.func89, Try.ntmps89
    go_wp2_with (at_builtin; refine Lib.wpList_append_run _ rfl _ _ _ _ rfl (.slice (some ⟨g, 0, none⟩) i c) (.int .i64 ((c : Int) + 1 - (i : Int))) rfl rfl _ _ (unhid HRZ _) ?_; clear HRZ; have hcA := unhid HCA; clear HCA; go_wp2_with (simp only [hcA]); clear hcA)
    have HCB1 := hid (unhid HCB 3 (G - (i + 1)) (c - i))
    clear HCB
    go_region_law_o (refine step_copy_runI rfl _ _ 54 54 rfl (.slice (some ⟨w.heap.size, i + 1, none⟩) (c - i) (G - (i + 1))) (.slice (some ⟨g, i, none⟩) (c - i) (c - i)) (by simp [Act.eval, Act.put]) (by simp [Act.eval, Act.put]) (unhid HCB1) ?_)
    go_wp2
    go_ret
    obtain ⟨v', e1, e2, e3, e4⟩ := unhid HF _ rfl
    cases e1
    exact ⟨_, rfl, e2, e3, e4⟩

theorem InsertS_any (N n i b : Nat) (v : Value) (xs : List Value) (p : ByteArray) (w : World) (hi : i ≤ n) (hn : n ≤ 1000) (hNw : N ≤ w.heap.size) (h : w.ownsRow N 9 1 v n xs) (hbo : v.ownBlock ≠ some b) (hb : w.heap[b]? = some (.cells #[.string p] 9 (0, 0))) (h1 : ∀ v ∈ xs, v.oneCell' = true) :
    Calls Try.prog 88 #[v, .int .i64 i, .slice (some ⟨b, 0, .none⟩) 1 1] w fun x w' => ∃ v', x = .returned v' ∧ w'.ownsRow N 9 1 v' (n + 1) (xs.take i ++ [.string p] ++ xs.drop i) ∧ w.grownBy w' v.ownBlock ∧ (v'.ownBlock = v.ownBlock ∨ v'.ownBlock = some w.heap.size) := by
  by_cases hin : i = n
  · subst hin
    have hxl : xs.length = i := by have := h.1; omega
    rw [List.take_of_length_le (by omega), List.drop_of_length_le (by omega), List.append_nil]
    exact InsertS_end N v i xs b p w hn hNw h (by simp [World.cell?, hb])
  · rcases h.2 with ⟨rfl, h0⟩ | ⟨g, cap, cur, rfl, hg0, hg, hc, hm, hsz, hcells⟩
    · omega
    · exact InsertS_mid N n cap i g b cur xs (.string p) rfl w (by omega) hc hm hn hg0 hNw hg (by omega) (by rw [← hcells, Nat.mul_one]) (fun e => hbo (by rw [e]; rfl)) hb h1

theorem InsertN_any (N n i b : Nat) (v : Value) (xs : List Value) (e : Ent) (w : World) (hi : i ≤ n) (hn : n ≤ 1000) (hNw : N ≤ w.heap.size) (h : w.ownsRow N 62 1 v n xs) (hbo : v.ownBlock ≠ some b) (hb : w.heap[b]? = some (.cells #[nodeV e] 62 (0, 0))) (h1 : ∀ v ∈ xs, v.oneCell' = true) :
    Calls Try.prog 89 #[v, .int .i64 i, .slice (some ⟨b, 0, .none⟩) 1 1] w fun x w' => ∃ v', x = .returned v' ∧ w'.ownsRow N 62 1 v' (n + 1) (xs.take i ++ [nodeV e] ++ xs.drop i) ∧ w.grownBy w' v.ownBlock ∧ (v'.ownBlock = v.ownBlock ∨ v'.ownBlock = some w.heap.size) := by
  by_cases hin : i = n
  · subst hin
    have hxl : xs.length = i := by have := h.1; omega
    rw [List.take_of_length_le (by omega), List.drop_of_length_le (by omega), List.append_nil]
    exact InsertN_end N v i xs b e w hn hNw h (by simp [World.cell?, hb])
  · rcases h.2 with ⟨rfl, h0⟩ | ⟨g, cap, cur, rfl, hg0, hg, hc, hm, hsz, hcells⟩
    · omega
    · exact InsertN_mid N n cap i g b cur xs (nodeV e) (nodeV_one e) w (by omega) hc hm hn hg0 hNw hg (by omega) (by rw [← hcells, Nat.mul_one]) (fun e => hbo (by rw [e]; rfl)) hb h1
end Go.Proofs.Ytaefjibnnbdaaaa

/- An entry put into a tree, wherever its place is. -/
namespace Go.Proofs.Ytaefjibnnbdaaaa
open Go.RowKit Go.Shelf

/-- Entries with one more in its place. -/
def insAt (es : List Ent) (e : Ent) : List Ent := es.take (placeE es e.path) ++ [e] ++ es.drop (placeE es e.path)

set_option maxRecDepth 100000 in
set_option maxHeartbeats 4000000 in
theorem mapPut_ins (N bt : Nat) (es : List Ent) (e : Ent) (w : World) (hn : es.length ≤ 900) (ha : Asc (pathsOf es)) (hN : N ≤ bt) (ht0 : thereE es e.path = false) (h : TreeAt w N bt es) :
    Calls Try.prog 57 #[.pointer (some ⟨bt, 0, .none⟩), .string e.path, nodeV e] w fun x w' => (∃ v, x = .returned v) ∧ TreeAt w' N bt (insAt es e) ∧ Below N w w' ∧ ∀ k o, k ≠ bt → w.heap[k]? = some o → Apart o → w'.heap[k]? = some o := by
  have hbl := h.lt
  obtain ⟨vp, vn, h1, h2, h3⟩ := h
  obtain ⟨a, cap, hva, hT⟩ := texts_of h2
  have hpn : (pathsOf es).length = es.length := by simp [pathsOf]
  have hl : (pathsOf es).length ≤ 1048576 := by omega
  have ht : thereP (pathsOf es) e.path = false := by rw [thereP_E, ht0]
  have hpp : placeP (pathsOf es) e.path = placeE es e.path := placeP_E _ _
  have hkl : placeE es e.path ≤ es.length := placeE_le es e.path
  have hins : insAt es e = es.take (placeE es e.path) ++ [e] ++ es.drop (placeE es e.path) := rfl
  have hT1 : ∀ v ∈ es.map (fun e => Value.string e.path), v.oneCell' = true := fun v hv => by obtain ⟨x, -, rfl⟩ := List.mem_map.1 hv; rfl
  have hN1 : ∀ v ∈ es.map nodeV, v.oneCell' = true := fun v hv => by obtain ⟨x, -, rfl⟩ := List.mem_map.1 hv; exact nodeV_one x
  obtain ⟨k, hk⟩ : ∃ k, placeE es e.path = k := ⟨_, rfl⟩
  rw [hk] at hpp hkl hins
  rw [hins]
  have hS := BinarySearch_any (pathsOf es) a cap e.path w hl ha hT
  rw [hpp, ht, hpn] at hS
  rw [hpn] at hva
  subst hva
  obtain ⟨T, nv, hV⟩ := nodeV_shape e
  have hIN := fun n i b v xs w => InsertN_any N n i b v xs e w
  simp only [hV] at hIN
  rw [hV]
  have HV := hid hV
  have HIN := hid hIN
  clear hV hIN
  have HS := hid hS
  obtain ⟨c0, c1, f0, f1⟩ := two_cells h1
  have H2 := hid h2
  have H3 := hid h3
  have H1 := hid h1
  have HT1 := hid hT1
  have HN1 := hid hN1
  clear hT ha hl ht hpp h1 h2 h3 hpn hS hins hk ht0 hT1 hN1
  go_enter Try.func57, Try.ntmps57
  go_wp2_with fail
  refine (unhid HS).mono ?_
  rintro x w1 ⟨rfl, hw1⟩
  rw [hw1]
  clear hw1
  go_wp2_with fail
  refine (InsertS_any N es.length k w.heap.size _ _ e.path (w.alloc (.cells #[.string e.path] 9)) hkl (by omega) (by simp; omega) ((unhid H2).alloc _) (fun eq => by have := ((unhid H2).lt _ eq).2; omega) (World.alloc_heap_new w _) (unhid HT1)).mono ?_
  rintro x w2 ⟨v2, rfl, hown2, hgrow2, -⟩
  obtain ⟨g2, cap2, rfl⟩ := ownsRow_succ hown2
  have h1a : (w.alloc (.cells #[.string e.path] 9)).heap[bt]? = some (.cells #[.slice a es.length cap, vn] 58 (0, 0)) := (Below.heap_alloc _ _ _ hbl).trans (unhid H1)
  have h12 : w2.heap[bt]? = some (.cells #[.slice a es.length cap, vn] 58 (0, 0)) := (hgrow2.block bt (by simp; omega) (row_ne ((unhid H2).alloc (.cells #[.string e.path] 9)) h1a (by decide))).trans h1a
  obtain ⟨c0, c1, f0, f1⟩ := two_cells h12
  have h32 : w2.ownsRow N 62 1 vn es.length (es.map nodeV) := by
    refine ownsRow_kept ((unhid H3).alloc (.cells #[.string e.path] 9)) (fun g hg => hgrow2.block g (((unhid H3).alloc (.cells #[.string e.path] 9)).lt g hg).2 ?_)
    rcases ((unhid H3).alloc (.cells #[.string e.path] 9)).2 with ⟨rfl, _⟩ | ⟨g', cap', cur', rfl, _, hgc, _⟩
    · cases hg
    · cases hg; exact row_ne ((unhid H2).alloc (.cells #[.string e.path] 9)) hgc (by decide)
  have hg2w : g2 ≠ bt := fun eq => by
    rcases hown2.2 with ⟨h, _⟩ | ⟨g', cap', cur', hv, _, hgc, _⟩
    · cases h
    · cases hv; exact type_ne hgc h12 (by decide) eq
  have HB2 := hid (And.intro hown2 (And.intro hgrow2 (And.intro h12 h32)))
  have hsz2 : w.heap.size + 1 ≤ w2.heap.size := by have := hgrow2.size; simpa using this
  clear hown2 hgrow2 h12 h32 h1a
  go_wp2_with fail
  obtain ⟨W3, hW3⟩ : ∃ W3, W3 = (w2.setCell ⟨bt, 0, .none⟩ (.slice (some ⟨g2, 0, .none⟩) (es.length + 1) cap2)).alloc (.cells #[.iface T nv] 62) := ⟨_, rfl⟩
  rw [← hW3]
  obtain ⟨hown2, hgrow2, h12, h32⟩ := unhid HB2
  have hbl2 : bt < w2.heap.size := by omega
  have h13 : W3.heap[bt]? = some (.cells #[.slice (some ⟨g2, 0, .none⟩) (es.length + 1) cap2, vn] 58 (0, 0)) := by
    rw [hW3, Below.heap_alloc _ _ _ (by simp; omega), heap_setCell_same _ bt 0 _ _ _ h12]; rfl
  have hk3 : ∀ g, g < w2.heap.size → g ≠ bt → W3.heap[g]? = w2.heap[g]? := fun g hg hne => by
    rw [hW3, Below.heap_alloc _ _ _ (by simpa using hg), Below.heap_setCell _ _ _ _ hne]
  have h33 : W3.ownsRow N 62 1 vn es.length (es.map nodeV) := ownsRow_kept h32 (fun g hg => hk3 g (h32.lt g hg).2 (fun eq => (row_ne h32 h12 (by decide)) (by rw [hg, eq])))
  have hown3 : W3.ownsRow N 9 1 (.slice (some ⟨g2, 0, .none⟩) (es.length + 1) cap2) (es.length + 1) ((es.map fun e => .string e.path).take k ++ [.string e.path] ++ (es.map fun e => .string e.path).drop k) := ownsRow_kept hown2 (fun g hg => hk3 g (hown2.lt g hg).2 (fun eq => by cases hg; exact hg2w eq))
  have hs3 : W3.heap.size = w2.heap.size + 1 := by rw [hW3]; simp
  have hc3 : W3.heap[w2.heap.size]? = some (.cells #[.iface T nv] 62 (0, 0)) := by
    rw [hW3]; have := World.alloc_heap_new (w2.setCell ⟨bt, 0, .none⟩ (.slice (some ⟨g2, 0, .none⟩) (es.length + 1) cap2)) (.cells #[.iface T nv] 62); simpa using this
  refine (unhid HIN es.length k w2.heap.size vn _ W3 hkl (by omega) (by omega) h33 (fun eq => by have := (h32.lt _ eq).2; omega) hc3 (unhid HN1)).mono ?_
  rintro x w4 ⟨v4, rfl, hown4, hgrow4, -⟩
  obtain ⟨g4, cap4, rfl⟩ := ownsRow_succ hown4
  have h14 : w4.heap[bt]? = some (.cells #[.slice (some ⟨g2, 0, .none⟩) (es.length + 1) cap2, vn] 58 (0, 0)) := (hgrow4.block bt (by omega) (row_ne h33 h13 (by decide))).trans h13
  have hrow4 : w4.ownsRow N 9 1 (.slice (some ⟨g2, 0, .none⟩) (es.length + 1) cap2) (es.length + 1) ((es.map fun e => .string e.path).take k ++ [.string e.path] ++ (es.map fun e => .string e.path).drop k) := ownsRow_kept hown3 (fun g hg => hgrow4.block g (hown3.lt g hg).2 (by
    rcases hown3.2 with ⟨h, _⟩ | ⟨g', cap', cur', hv, _, hgc, _⟩
    · cases h
    · cases hv; cases hg; exact row_ne h33 hgc (by decide)))
  obtain ⟨c0, c1, f0, f1⟩ := two_cells h14
  have hg4w : g4 ≠ bt := fun eq => by
    rcases hown4.2 with ⟨h, _⟩ | ⟨g', cap', cur', hv, _, hgc, _⟩
    · cases h
    · cases hv; exact type_ne hgc h14 (by decide) eq
  have hF : TreeAt (w4.setCell ⟨bt, 1, .none⟩ (.slice (some ⟨g4, 0, .none⟩) (es.length + 1) cap4)) N bt (es.take k ++ [e] ++ es.drop k) := by
    refine ⟨.slice (some ⟨g2, 0, .none⟩) (es.length + 1) cap2, .slice (some ⟨g4, 0, .none⟩) (es.length + 1) cap4, ?_, ?_, ?_⟩
    · rw [heap_setCell_same _ bt 1 _ _ _ h14]; rfl
    · rw [show (es.take k ++ [e] ++ es.drop k).length = es.length + 1 by simp; omega, List.map_append, List.map_append, List.map_take, List.map_drop]
      exact ownsRow_kept hrow4 (fun g hg => Below.heap_setCell _ _ _ _ (fun eq => by cases hg; exact hg2w eq))
    · rw [show (es.take k ++ [e] ++ es.drop k).length = es.length + 1 by simp; omega, List.map_append, List.map_append, List.map_take, List.map_drop]
      rw [← unhid HV] at hown4
      exact ownsRow_kept hown4 (fun g hg => Below.heap_setCell _ _ _ _ (fun eq => by cases hg; exact hg4w eq))
  have hB : Below N w (w4.setCell ⟨bt, 1, .none⟩ (.slice (some ⟨g4, 0, .none⟩) (es.length + 1) cap4)) := by
    have b1 : Below N w (w.alloc (.cells #[.string e.path] 9)) := (Below.refl _ _).alloc (by omega) _
    have b2 : Below N w w2 := b1.grown hgrow2 (by simp; omega) (fun g hg => (((unhid H2).alloc (.cells #[.string e.path] 9)).lt g hg).1)
    have b3 : Below N w W3 := by rw [hW3]; exact (b2.setCell hN _).alloc (by simp; omega) _
    have b4 : Below N w w4 := b3.grown hgrow4 (by omega) (fun g hg => (h33.lt g hg).1)
    exact b4.setCell hN _
  have hO : ∀ k o, k ≠ bt → w.heap[k]? = some o → Apart o → (w4.setCell ⟨bt, 1, .none⟩ (.slice (some ⟨g4, 0, .none⟩) (es.length + 1) cap4)).heap[k]? = some o := by
    intro k o hk ho hap
    have hkl : k < w.heap.size := (Array.getElem?_eq_some_iff.1 ho).1
    have a1 : (w.alloc (.cells #[.string e.path] 9)).heap[k]? = some o := (Below.heap_alloc _ _ _ hkl).trans ho
    have a2 : w2.heap[k]? = some o := (hgrow2.block k (by simp; omega) (fun eq => by
      rcases ((unhid H2).alloc (.cells #[.string e.path] 9)).2 with ⟨h, _⟩ | ⟨g', cap', cur', hv, _, hgc, _⟩
      · rw [h] at eq; cases eq
      · rw [hv] at eq; cases eq; rw [a1] at hgc; cases hgc; exact (hap _ _ _ rfl).1 rfl)).trans a1
    have a3 : W3.heap[k]? = some o := (hk3 k (by omega) hk).trans a2
    have a4 : w4.heap[k]? = some o := (hgrow4.block k (by omega) (fun eq => by
      rcases h33.2 with ⟨h, _⟩ | ⟨g', cap', cur', hv, _, hgc, _⟩
      · rw [h] at eq; cases eq
      · rw [hv] at eq; cases eq; rw [a3] at hgc; cases hgc; exact (hap _ _ _ rfl).2 rfl)).trans a3
    exact (Below.heap_setCell _ _ _ _ hk).trans a4
  have HF := hid (And.intro hF (And.intro hB hO))
  clear hF hB hO hown4 hgrow4 h14 hrow4 h13 hk3 h33 hown3 hc3 hW3 hown2 hgrow2 h12 h32 HB2
  go_wp2_with fail
  go_end0
  exact ⟨⟨_, rfl⟩, unhid HF⟩
end Go.Proofs.Ytaefjibnnbdaaaa
