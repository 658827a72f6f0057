/- Texts of this proof, one behind the other; each says at its head what it shows. -/
import Derived.Test.YtfphpggjcljliaaGreatJoin3
import Derived.Test.YtfphpggjcljliaaGreatJoin4
import Derived.Deep.RegionHeld
import Derived.Maps.AppendAt
import Derived.Test.YtfphpggjcljliaaGreatJoin1
import Derived.Lib.Bytes
/- An entry put into a tree, by the model. -/
namespace Go.Proofs.YtfphpggjcljliaaGreat
open Go.RowKit Go.Shelf

theorem below_set4 {B : Nat} {a w : World} (h : Below B a w) {g : Nat} (hg : B ≤ g) (j : Nat) (e : Ent) : Below B a ((((w.setCell ⟨g, j * 4, none⟩ (.string e.path)).setCell ⟨g, j * 4 + 1, none⟩ (.int .i64 e.kind)).setCell ⟨g, j * 4 + 2, none⟩ (.int .i64 e.mode)).setCell ⟨g, j * 4 + 3, none⟩ (.string e.text)) :=
  (((h.setCell (p := ⟨g, j * 4, none⟩) hg _).setCell (p := ⟨g, j * 4 + 1, none⟩) hg _).setCell (p := ⟨g, j * 4 + 2, none⟩) hg _).setCell (p := ⟨g, j * 4 + 3, none⟩) hg _
/-- An append at a step of a region, and where the new row lies. -/
theorem step_append_at {P : Program} {w : World} {ops : Array Oper} {o : Oper} {a : Act} {K : Act → World → Prop} {Q : Exit → Act → World → Prop} {E : Prop} (hgd : o.guard = none) (s x : Operand) (t : TypeId)
    (ho : o.op = .call { callee := .builtin .append, args := #[s, x], argTypes := #[t, t] })
    (base : Nat) (e : TypeId) (i : TypeInfo) (z : Value) (size bytes : Nat) (ht : P.underlying t = some (.slice e)) (hi : P.info? e = some i) (hz : i.zero = some z)
    (hsize : i.size = size) (hby : i.bytes = bytes) (hzs : z.cells.size = size) (hsz : 0 < size)
    (v : Value) (n : Nat) (xs : List Value) (hs : a.eval s = v) (hown : w.ownsRow base e size v n xs)
    (ad : Addr) (m c : Nat) (news : List Value) (hx : a.eval x = .slice (some ad) m c) (hl : news.length = m * size) (hnews : ∀ j u, news[j]? = some u → w.cell? (ad.add j) = some u) (h1 : ∀ u ∈ news, u.oneCell' = true)
    (h63 : n + m ≤ maxLen) (hbytes : (n + m) * bytes ≤ 140737488355328) (hbase : base ≤ w.heap.size)
    (h : ∀ v' w', w'.ownsRow base e size v' (n + m) (xs ++ news) → w.grownBy w' v.ownBlock → (v'.ownBlock = v.ownBlock ∨ v'.ownBlock = some w.heap.size) → K (a.put o.dst v') w') :
    if Region.wanted o (yielded ops a.tmps) = true then Oper.wp P o a w K Q else E := by
  have hw : Region.wanted o (yielded ops a.tmps) = true := by simp [Region.wanted, hgd]
  rw [if_pos hw]
  obtain ⟨v', w', hr, h2, h3, _, h5⟩ := run_append_own_at (P := P) w base t o.type e i z size bytes ht hi hz hsize hby hzs hsz v n xs hown ad m c news hl hnews h1 h63 hbytes hbase
  unfold Oper.wp execOp
  simp only [ho, resolve, invoke, builtin, Sem.run_bind, Sem.run_pure, Result.andThen_ok, List.map_toArray, List.map_cons, List.map_nil, hs, hx, hr]
  exact h v' w' h2 h3 h5
/-- How far on a row's rest begins: where nothing is left it stays where the row began. -/
def offD (cap k : Nat) : Nat := if cap = k then 0 else k * 4
theorem ents_dropD {W : World} {b o k cap : Nat} {es : List Ent} (h : ∀ (i : Nat) e, es[i]? = some e → EntAt W b (o + i * 4) e) (hc : es.length ≤ cap) : ∀ (i : Nat) e, (es.drop k)[i]? = some e → EntAt W b (o + offD cap k + i * 4) e := fun i e hi => by
  by_cases hck : cap = k
  · have : es.drop k = [] := List.drop_eq_nil_of_le (by omega)
    rw [this] at hi; simp at hi
  · unfold offD; rw [if_neg hck]; exact ents_drop h i e hi
/-- A row of one entry. -/
def OneAt (W : World) (g : Nat) (e : Ent) : Prop := W.heap[g]? = some (.cells e.vals 30 (0, 0))
theorem OneAt.lt {W : World} {g : Nat} {e : Ent} (h : OneAt W g e) : g < W.heap.size := (Array.getElem?_eq_some_iff.1 h).1
theorem OneAt.alloc {W : World} {g : Nat} {e : Ent} (h : OneAt W g e) (o : Obj) : OneAt (W.alloc o) g e := (Below.heap_alloc _ _ _ h.lt).trans h
theorem OneAt.grown {W W' : World} {g : Nat} {e : Ent} {row : Option Nat} (h : OneAt W g e) (hg : W.grownBy W' row) (hr : some g ≠ row) : OneAt W' g e := (hg.block g h.lt hr).trans h
theorem OneAt.cells {W : World} {g : Nat} {e : Ent} (h : OneAt W g e) : ∀ j u, (valsOf [e])[j]? = some u → W.cell? ((⟨g, 0, none⟩ : Addr).add j) = some u := by
  intro j u hj
  rw [add_plain4, Nat.zero_add]
  have hj' : e.vals[j]? = some u := by
    have : (valsOf [e]) = e.vals.toList := by simp [valsOf]
    rw [this, Array.getElem?_toList] at hj; exact hj
  show W.cell? ⟨g, j, none⟩ = some u
  unfold OneAt at h
  simp only [World.cell?, h]
  exact hj'
theorem valsOf_app (xs ys : List Ent) : valsOf (xs ++ ys) = valsOf xs ++ valsOf ys := by simp [valsOf]
theorem valsOf_set (es : List Ent) (j : Nat) (e : Ent) (hj : j < es.length) : valsOf (es.set j e) = ((((valsOf es).set (j * 4) (.string e.path)).set (j * 4 + 1) (.int .i64 e.kind)).set (j * 4 + 2) (.int .i64 e.mode)).set (j * 4 + 3) (.string e.text) := by
  have hl := valsOf_len es
  apply List.ext_getElem?
  intro i
  have e1 : i = i / 4 * 4 + i % 4 := by omega
  have hr : i % 4 < 4 := Nat.mod_lt _ (by omega)
  generalize i / 4 = m at e1
  generalize i % 4 = r at e1 hr
  subst e1
  rw [valsOf_get _ _ _ hr, List.getElem?_set, List.getElem?_set, List.getElem?_set, List.getElem?_set, List.getElem?_set, valsOf_get _ _ _ hr]
  simp only [List.length_set]
  by_cases ej : j = m
  · subst ej
    rw [if_pos rfl, if_pos hj]
    match r, hr with
    | 0, _ => rw [if_neg (by omega), if_neg (by omega), if_neg (by omega), if_pos (by omega), if_pos (by omega)]; rfl
    | 1, _ => rw [if_neg (by omega), if_neg (by omega), if_pos (by omega), if_pos (by omega)]; rfl
    | 2, _ => rw [if_neg (by omega), if_pos (by omega), if_pos (by omega)]; rfl
    | 3, _ => rw [if_pos (by omega), if_pos (by omega)]; rfl
  · rw [if_neg ej, if_neg (by omega), if_neg (by omega), if_neg (by omega), if_neg (by omega)]
theorem ownsRow_set4 {W : World} {N j g : Nat} {v : Value} {es : List Ent} (h : W.ownsRow N 30 4 v es.length (valsOf es)) (hj : j < es.length) (hg : v.ownBlock = some g) (e : Ent) :
    ((((W.setCell ⟨g, j * 4, none⟩ (.string e.path)).setCell ⟨g, j * 4 + 1, none⟩ (.int .i64 e.kind)).setCell ⟨g, j * 4 + 2, none⟩ (.int .i64 e.mode)).setCell ⟨g, j * 4 + 3, none⟩ (.string e.text)).ownsRow N 30 4 v es.length (valsOf (es.set j e)) := by
  refine ⟨by rw [valsOf_len, List.length_set], ?_⟩
  rcases h.2 with ⟨rfl, h0⟩ | ⟨g', cap, cur, rfl, hN, hh, hc, hm, hsz, hcells⟩
  · cases hg
  · cases hg
    refine .inr ⟨g', cap, (((cur.setIfInBounds (j * 4) (.string e.path)).setIfInBounds (j * 4 + 1) (.int .i64 e.kind)).setIfInBounds (j * 4 + 2) (.int .i64 e.mode)).setIfInBounds (j * 4 + 3) (.string e.text), rfl, hN, ?_, hc, hm, by simpa using hsz, ?_⟩
    · exact heap_setCell_same _ g' _ _ _ _ (heap_setCell_same _ g' _ _ _ _ (heap_setCell_same _ g' _ _ _ _ (heap_setCell_same _ g' _ _ _ _ hh)))
    · rw [valsOf_set es j e hj, ← hcells]
      simp only [Array.toList_setIfInBounds, List.take_set]

/-- A slice that is not nil. -/
def SomeV (v : Value) : Prop := ∃ ad n c, v = .slice (some ad) n c
theorem owns_some {W : World} {N n size : Nat} {v : Value} {e : TypeId} {xs : List Value} (h : W.ownsRow N e size v n xs) (hn : 0 < n) : SomeV v := by
  rcases h.2 with ⟨rfl, h0⟩ | ⟨g, cap, cur, rfl, _⟩
  · omega
  · exact ⟨_, _, _, rfl⟩
set_option maxRecDepth 100000 in
set_option maxHeartbeats 4000000 in
theorem l2Put_full (es : List Ent) (e : Ent) (b o cap : Nat) (w : World) (hn : es.length ≤ 16) (hc : es.length ≤ cap) (hp : e.path.size ≤ 1048576) (ht : e.text.size ≤ 1048576) (h : ∀ (i : Nat) e, es[i]? = some e → EntAt w b (o + i * 4) e) (hb : b < w.heap.size) :
    Calls Tryz.prog 56 #[.slice (some ⟨b, o, none⟩) es.length cap, .agg e.vals] w fun x w' => ∃ v, x = .returned (.tuple #[v, .bool (okPut es e)]) ∧ w'.ownsRow w.heap.size 30 4 v (putL es e).length (valsOf (putL es e)) ∧ Below w.heap.size w w' ∧ SomeV v := by
  obtain ⟨w1, hw1⟩ : ∃ w1, w1 = w.alloc (.cells #[.string e.path, .int .i64 e.kind, .int .i64 e.mode, .string e.text] 30) := ⟨_, rfl⟩
  have hB1 : Below w.heap.size w w1 := by rw [hw1]; exact (Below.refl _ w).alloc (Nat.le_refl _) _
  have hbx1 : w1.heap[w.heap.size]? = some (.cells #[.string e.path, .int .i64 e.kind, .int .i64 e.mode, .string e.text] 30 (0, 0)) := by rw [hw1]; exact World.alloc_heap_new _ _
  have hE1 := entAt_below h (.inr hb) hB1
  have hb1 : b < w1.heap.size := Nat.lt_of_lt_of_le hb hB1.size
  have hat1 : EntsAt w1 (some ⟨b, o, none⟩) es := .inr ⟨b, o, rfl, hb1, hE1⟩
  have AT := hid (l2At_any es (some ⟨b, o, none⟩) cap e.path w1 (by omega) hat1)
  have H1 := hid (And.intro hB1 (And.intro hbx1 hE1))
  have HW1 := hid hw1
  obtain ⟨⟨d0, d1, d2, d3⟩, -⟩ := four_cells hbx1
  rw [hw1] at d0
  clear hB1 hbx1 hE1 hat1 hw1 h d1 d2 d3
  go_enter Tryz.func56, Tryz.ntmps56
  unfold Ent.vals
  go_wp2_with fail
  rw [← unhid HW1]
  refine (unhid AT).mono ?_
  rintro x w2 ⟨rfl, n2, e2⟩
  have hB2 : Below w1.heap.size w1 w2 := by rw [e2]; exact drewN_below _ _
  have hl1 : w.heap.size < w1.heap.size := (Array.getElem?_eq_some_iff.1 (unhid H1).2.1).1
  have H2 := hid (show Below w.heap.size w w2 ∧ w2.heap[w.heap.size]? = some (.cells #[.string e.path, .int .i64 e.kind, .int .i64 e.mode, .string e.text] 30 (0, 0)) ∧ ∀ (i : Nat) e, es[i]? = some e → EntAt w2 b (o + i * 4) e from ⟨(unhid H1).1.trans (hB2.mono (unhid H1).1.size), (hB2.block _ hl1).trans (unhid H1).2.1, entAt_below (unhid H1).2.2 (.inr hb1) hB2⟩)
  have hb2 : b < w2.heap.size := Nat.lt_of_lt_of_le hb1 hB2.size
  clear hB2 e2 H1 AT HW1 d0 hl1 hb1 n2
  go_wp2_with fail
  refine (l2Copy_some es b o cap w2 (by omega) (unhid H2).2.2 (.inr hb2)).mono ?_
  rintro x w3 ⟨vg, vc, rfl, hown3, hB3⟩
  obtain ⟨va, hva⟩ : ∃ va, va = some (⟨vg, 0, none⟩ : Addr) := ⟨_, rfl⟩
  rw [← hva] at hown3 ⊢
  have HVA := hid (show SomeV (.slice va es.length vc) from ⟨_, _, _, by rw [hva]⟩)
  clear hva
  have hl2 : w.heap.size < w2.heap.size := (Array.getElem?_eq_some_iff.1 (unhid H2).2.1).1
  have hB3' := (unhid H2).1.trans (hB3.mono (Nat.le_of_lt hl2))
  have hbx3 := (hB3.block _ hl2).trans (unhid H2).2.1
  obtain ⟨⟨d0, d1, d2, d3⟩, -⟩ := four_cells hbx3
  have H3 := hid (And.intro hB3' (And.intro hbx3 (And.intro (entAt_below (unhid H2).2.2 (.inr hb2) hB3) (ownsRow_base hown3 (Nat.le_of_lt hl2)))))
  have HV3 := hid (show ∀ g, (Value.slice va es.length vc).ownBlock = some g → w.heap.size < g from fun g eg => Nat.lt_of_lt_of_le hl2 (hown3.lt g eg).1)
  have hb3 : b < w3.heap.size := Nat.lt_of_lt_of_le hb2 hB3.size
  clear hB3 hB3' hbx3 hown3 H2 hb2 hl2
  go_wp2_with fail
  refine (l2Entry_any e hp ht w3).mono ?_
  rintro x w4 ⟨rfl, hB4⟩
  have hl3 : w.heap.size < w3.heap.size := (Array.getElem?_eq_some_iff.1 (unhid H3).2.1).1
  have H4 := hid (show Below w.heap.size w w4 ∧ w4.heap[w.heap.size]? = some (.cells #[.string e.path, .int .i64 e.kind, .int .i64 e.mode, .string e.text] 30 (0, 0)) ∧ (∀ (i : Nat) e, es[i]? = some e → EntAt w4 b (o + i * 4) e) ∧ w4.ownsRow w.heap.size 30 4 (.slice va es.length vc) es.length (valsOf es) from
    ⟨(unhid H3).1.trans (hB4.mono (Nat.le_of_lt hl3)), (hB4.block _ hl3).trans (unhid H3).2.1, entAt_below (unhid H3).2.2.1 (.inr hb3) hB4, ownsRow_kept (unhid H3).2.2.2 (fun g eg => hB4.block g ((unhid H3).2.2.2.lt g eg).2)⟩)
  have hb4 : b < w4.heap.size := Nat.lt_of_lt_of_le hb3 hB4.size
  clear hB4 H3 hl3 hb3 d0 d1 d2 d3
  cases he : entB e
  · have E := hid (show okPut es e = false by unfold okPut; rw [he]; rfl)
    go_wp2_with fail
    go_ret2
    exact ⟨_, by rw [unhid E]; rfl, by rw [putL_no (unhid E)]; exact (unhid H4).2.2.2, (unhid H4).1, unhid HVA⟩
  · have hbx4 := (unhid H4).2.1
    obtain ⟨⟨d0, d1, d2, d3⟩, -⟩ := four_cells hbx4
    clear hbx4
    go_wp2_with fail
    refine (l1Up_any e.path (by unfold maxLen; omega) w4).mono ?_
    rintro x w5 ⟨rfl, e5⟩
    subst e5
    rw [← ent_path he]
    go_wp2_with fail
    refine (l2Dir_any es _ cap (pathUpS e.path) _ (by omega) (.inr ⟨b, o, rfl, hb4, (unhid H4).2.2.1⟩)).mono ?_
    rintro x w6 ⟨rfl, n6, e6⟩
    have hB6 : Below w5.heap.size w5 w6 := by rw [e6]; exact drewN_below _ _
    have hl5 : w.heap.size < w5.heap.size := (Array.getElem?_eq_some_iff.1 (unhid H4).2.1).1
    have H6 := hid (show Below w.heap.size w w6 ∧ w6.heap[w.heap.size]? = some (.cells #[.string e.path, .int .i64 e.kind, .int .i64 e.mode, .string e.text] 30 (0, 0)) ∧ (∀ (i : Nat) e, es[i]? = some e → EntAt w6 b (o + i * 4) e) ∧ w6.ownsRow w.heap.size 30 4 (.slice va es.length vc) es.length (valsOf es) from
      ⟨(unhid H4).1.trans (hB6.mono (Nat.le_of_lt hl5)), (hB6.block _ hl5).trans (unhid H4).2.1, entAt_below (unhid H4).2.2.1 (.inr hb4) hB6, ownsRow_kept (unhid H4).2.2.2 (fun g eg => hB6.block g ((unhid H4).2.2.2.lt g eg).2)⟩)
    have hb6 : b < w6.heap.size := Nat.lt_of_lt_of_le hb4 hB6.size
    clear hB6 H4 hl5 hb4 d0 d1 d2 d3 e6 n6
    cases hd : dirE es (pathUpS e.path)
    · have E := hid (show okPut es e = false by unfold okPut; rw [hd]; simp)
      go_wp2_with fail
      go_ret2
      exact ⟨_, by rw [unhid E]; rfl, by rw [putL_no (unhid E)]; exact (unhid H6).2.2.2, (unhid H6).1, unhid HVA⟩
    · have hbx6 := (unhid H6).2.1
      obtain ⟨⟨d0, d1, d2, d3⟩, -⟩ := four_cells hbx6
      clear hbx6
      cases hth : thereE es e.path
      · by_cases h16 : es.length = 16
        · have E := hid (show okPut es e = false by unfold okPut; rw [hth, h16]; simp)
          have HH := hid hth
          have h16' : (16 : Int) ≤ (es.length : Int) := by omega
          clear hth h16
          go_wp2_with fail
          go_quiet (fail)
          go_wp2_with fail
          go_ret2
          have hB7 : Below w6.heap.size w6 (w6.drewN nq) := drewN_below _ _
          exact ⟨_, by rw [unhid E]; rfl, by rw [putL_no (unhid E)]; exact ownsRow_kept (unhid H6).2.2.2 (fun g eg => hB7.block g ((unhid H6).2.2.2.lt g eg).2), (unhid H6).1.trans (drewN_below _ _), unhid HVA⟩
        · have E := hid (show okPut es e = true by unfold okPut; rw [he, hd, hth]; simpa using h16)
          have HH := hid hth
          have h16' : ¬ (16 : Int) ≤ (es.length : Int) := by omega
          clear hth h16
          go_wp2_with fail
          go_quiet (fail)
          have hB7 : Below w6.heap.size w6 (w6.drewN nq) := drewN_below _ _
          have H7 := hid (show Below w.heap.size w (w6.drewN nq) ∧ (w6.drewN nq).heap[w.heap.size]? = some (.cells #[.string e.path, .int .i64 e.kind, .int .i64 e.mode, .string e.text] 30 (0, 0)) ∧ (∀ (i : Nat) e, es[i]? = some e → EntAt (w6.drewN nq) b (o + i * 4) e) ∧ (w6.drewN nq).ownsRow w.heap.size 30 4 (.slice va es.length vc) es.length (valsOf es) from
            ⟨(unhid H6).1.trans (drewN_below _ _), (unhid H6).2.1, entAt_below (unhid H6).2.2.1 (.inr hb6) hB7, ownsRow_kept (unhid H6).2.2.2 (fun g eg => hB7.block g ((unhid H6).2.2.2.lt g eg).2)⟩)
          have hb7 : b < (w6.drewN nq).heap.size := hb6
          clear hB7 H6 hb6 d0 d1 d2 d3
          generalize w6.drewN nq = w7 at H7 hb7 ⊢
          obtain ⟨⟨d0, d1, d2, d3⟩, -⟩ := four_cells (unhid H7).2.1
          obtain ⟨i0, hi0, hz0, hzs, hzb⟩ := info_parts infoEntry
          have hkn : placeE es e.path ≤ es.length := placeE_le _ _
          have E2 := hid (show putL es e = es.take (placeE es e.path) ++ [e] ++ es.drop (placeE es e.path) by rw [putL_ins (unhid E) (unhid HH)]; rfl)
          generalize placeE es e.path = k at hkn E2 ⊢
          go_wp2_with fail
          have hi1 : (0 : Int) ≤ (k : Int) := by omega
          have hi2 : (k : Int) ≤ (es.length : Int) := by omega
          have hi3 : (k : Int) ≤ (cap : Int) := by omega
          have hi4 : (es.length : Int) ≤ (cap : Int) := by omega
          refine wp_region_held_drew (S := fun w' => Below w7.heap.size w7 w') (by kernel_rfl) (drew_below _) (fun hS => ?_)
          refine wpAnyH_take (i := 1) (v := .slice (some ⟨b, o, none⟩) es.length cap) rfl (by kernel_rfl) (by kernel_rfl) (by kernel_rfl) (fun _ _ _ h => h) (Or.inl ⟨by rfl, fun w hw => by go_simp⟩) hS ?_
          refine wpAnyH_take (i := 2) (v := .int .i64 (k : Int)) rfl (by kernel_rfl) (by kernel_rfl) (by kernel_rfl) (fun _ _ _ h => h) (Or.inl ⟨by rfl, fun w hw => by go_simp⟩) hS ?_
          refine wpAnyH_take (i := 3) (v := .slice (some ⟨b, o, none⟩) k cap) rfl (by kernel_rfl) (by kernel_rfl) (by kernel_rfl) (fun _ _ _ h => h) (Or.inl ⟨by rfl, fun w hw => by go_simp⟩) hS ?_
          refine wpAnyH_take (i := 5) (v := .agg #[.string e.path, .int .i64 e.kind, .int .i64 e.mode, .string e.text]) rfl (by kernel_rfl) (by kernel_rfl) (by kernel_rfl) (fun _ _ _ h => h) (Or.inl ⟨by rfl, fun w' hw => by
            have hl7 : w.heap.size < w7.heap.size := (Array.getElem?_eq_some_iff.1 (unhid H7).2.1).1
            obtain ⟨⟨k0, k1, k2, k3⟩, -⟩ := four_cells ((Below.block hw _ hl7).trans (unhid H7).2.1)
            go_simp⟩) hS ?_
          refine wpAnyH_take (i := 8) (v := .slice (some ⟨b, o, none⟩) es.length cap) rfl (by kernel_rfl) (by kernel_rfl) (by kernel_rfl) (fun _ _ _ h => h) (Or.inl ⟨by rfl, fun w hw => by go_simp⟩) hS ?_
          refine wpAnyH_take (i := 9) (v := .int .i64 (k : Int)) rfl (by kernel_rfl) (by kernel_rfl) (by kernel_rfl) (fun _ _ _ h => h) (Or.inl ⟨by rfl, fun w hw => by go_simp⟩) hS ?_
          refine wpAnyH_take (i := 10) (v := .slice (some ⟨b, o + offD cap k, none⟩) (es.length - k) (cap - k)) rfl (by kernel_rfl) (by kernel_rfl) (by kernel_rfl) (fun _ _ _ h => h) (Or.inl ⟨by rfl, fun w hw => by
            unfold offD
            by_cases hck : cap = k
            · rw [if_pos hck]; go_simp
            · rw [if_neg hck]; go_simp⟩) hS ?_
          have HI := hid (And.intro hi0 (And.intro hz0 (And.intro hzs hzb)))
          have HC1 := hid (show ∀ W, Below w7.heap.size w7 W → ∀ j u, (valsOf (es.take k))[j]? = some u → W.cell? ((⟨b, o, none⟩ : Addr).add j) = some u from fun W hW => ents_cells (ents_take (entAt_below (unhid H7).2.2.1 (.inr hb7) hW)))
          have HC2 := hid (show ∀ W, Below w7.heap.size w7 W → ∀ j u, (valsOf (es.drop k))[j]? = some u → W.cell? ((⟨b, o + offD cap k, none⟩ : Addr).add j) = some u from fun W hW => ents_cells (ents_dropD (entAt_below (unhid H7).2.2.1 (.inr hb7) hW) hc))
          have ht1 : (es.take k).length = k := by simp; omega
          have ht2 : (es.drop k).length = es.length - k := by simp
          clear hi0 hz0 hzs hzb
          generalize w7.drew = W at hS ⊢
          refine wpAnyH_ready (rs := [0, 6]) (by kernel_rfl) (by simp) ?_
          refine AllReadyH.cons rfl (fun K hK => ?_) (AllReadyH.cons rfl (fun K hK => ?_) AllReadyH.nil)
          · go_simp
            have r0 := owns_empty W w7.heap.size hS.size 30
            have hS1 := hS.alloc hS.size (.cells #[] 30)
            refine hK.out _ _ hS1 (fun _ => ?_)
            clear hK K hS
            generalize W.alloc (.cells #[] 30) = W2 at hS1 r0 ⊢
            generalize W.heap.size = g0 at r0 ⊢
            have hS := hS1
            clear hS1
            refine wpAnyH_ready (rs := [4, 6]) (by kernel_rfl) (by simp) ?_
            refine AllReadyH.cons rfl (fun K hK => ?_) (AllReadyH.cons rfl (fun K hK => ?_) AllReadyH.nil)
            · refine step_append_at (by rfl) _ _ 23 (by rfl) w7.heap.size 30 i0 _ 4 48 Tryz.underlying23 (unhid HI).1 (unhid HI).2.1 (unhid HI).2.2.1 (unhid HI).2.2.2 rfl (by decide) (Value.slice (some ⟨g0, 0, none⟩) 0 0) (0) ([]) (by rfl) r0 ⟨b, o, none⟩ (k) (cap) (valsOf (es.take k)) (by rfl) (by rw [valsOf_len, ht1]) (unhid HC1 _ hS) (valsOf_one _) (by unfold maxLen; omega) (by omega) hS.size ?_
              intro v1 W3 r1 hg1 hat1
              rw [Nat.zero_add, List.nil_append] at r1
              obtain ⟨a1, c1, rfl⟩ := ownsRow_slice r1
              have hS1 := hS.grown hg1 hS.size (fun g eg => (r0.lt g eg).1)
              refine hK.out _ _ hS1 (fun _ => ?_)
              clear hK K hS r0 hg1 hat1
              have hS := hS1
              clear hS1
              refine wpAnyH_ready (rs := [6]) (by kernel_rfl) (by simp) ?_
              refine AllReadyH.cons rfl (fun K hK => ?_) AllReadyH.nil
              go_simp
              have o2 : OneAt (W3.alloc (.cells #[.string e.path, .int .i64 e.kind, .int .i64 e.mode, .string e.text] 30)) W3.heap.size e := World.alloc_heap_new _ _
              have hS1 := hS.alloc hS.size (.cells #[.string e.path, .int .i64 e.kind, .int .i64 e.mode, .string e.text] 30)
              have m2 : (Value.slice a1 k c1).ownBlock ≠ some W3.heap.size := fun eq => Nat.lt_irrefl _ (r1.lt _ eq).2
              have r1' := r1.alloc (.cells #[.string e.path, .int .i64 e.kind, .int .i64 e.mode, .string e.text] 30)
              clear r1
              have r1 := r1'
              clear r1'
              refine hK.out _ _ hS1 (fun _ => ?_)
              clear hK K hS
              generalize W3.alloc (.cells #[.string e.path, .int .i64 e.kind, .int .i64 e.mode, .string e.text] 30) = W4 at hS1 o2 r1 ⊢
              generalize W3.heap.size = g2 at o2 m2 ⊢
              have hS := hS1
              clear hS1
              refine wpAnyH_ready (rs := [7]) (by kernel_rfl) (by simp) ?_
              refine AllReadyH.cons rfl (fun K hK => ?_) AllReadyH.nil
              refine step_append_at (by rfl) _ _ 23 (by rfl) w7.heap.size 30 i0 _ 4 48 Tryz.underlying23 (unhid HI).1 (unhid HI).2.1 (unhid HI).2.2.1 (unhid HI).2.2.2 rfl (by decide) (Value.slice a1 k c1) (k) (valsOf (es.take k)) (by rfl) r1 ⟨g2, 0, none⟩ (1) (1) (valsOf [e]) (by rfl) (by rw [valsOf_len]; rfl) (o2.cells) (valsOf_one _) (by unfold maxLen; omega) (by omega) hS.size ?_
              intro v2 W5 r2 hg1 hat1
              obtain ⟨a2, c2, rfl⟩ := ownsRow_slice r2
              have hS1 := hS.grown hg1 hS.size (fun g eg => (r1.lt g eg).1)
              refine hK.out _ _ hS1 (fun _ => ?_)
              clear hK K hS r1 hg1 hat1 o2 m2
              have hS := hS1
              clear hS1
              refine wpAnyH_ready (rs := [11]) (by kernel_rfl) (by simp) ?_
              refine AllReadyH.cons rfl (fun K hK => ?_) AllReadyH.nil
              refine step_append_at (by rfl) _ _ 23 (by rfl) w7.heap.size 30 i0 _ 4 48 Tryz.underlying23 (unhid HI).1 (unhid HI).2.1 (unhid HI).2.2.1 (unhid HI).2.2.2 rfl (by decide) (Value.slice a2 (k + 1) c2) (k + 1) (valsOf (es.take k) ++ valsOf [e]) (by rfl) r2 ⟨b, o + offD cap k, none⟩ ((es.length - k)) ((cap - k)) (valsOf (es.drop k)) (by rfl) (by rw [valsOf_len, ht2]) (unhid HC2 _ hS) (valsOf_one _) (by unfold maxLen; omega) (by omega) hS.size ?_
              intro v3 W6 r3 hg1 hat1
              obtain ⟨a3, c3, rfl⟩ := ownsRow_slice r3
              have hS1 := hS.grown hg1 hS.size (fun g eg => (r2.lt g eg).1)
              refine hK.out _ _ hS1 (fun _ => ?_)
              clear hK K hS r2 hg1 hat1
              have hS := hS1
              clear hS1
              refine wpAnyH_take (i := 12) (v := .slice a3 (k + 1 + (es.length - k)) c3) rfl (by kernel_rfl) (by kernel_rfl) (by kernel_rfl) (fun _ _ _ h => h) (Or.inl ⟨by rfl, fun w hw => by go_simp⟩) hS ?_
              refine wpAnyH_take (i := 13) (v := .bool true) rfl (by kernel_rfl) (by kernel_rfl) (by kernel_rfl) (fun _ _ _ h => h) (Or.inl ⟨by rfl, fun w hw => by go_simp⟩) hS ?_
              refine wpAnyH_done (by kernel_rfl) ?_ _
              have hlen : (putL es e).length = k + 1 + (es.length - k) := by rw [unhid E2]; simp; omega
              have hval : valsOf (putL es e) = valsOf (es.take k) ++ valsOf [e] ++ valsOf (es.drop k) := by rw [unhid E2, valsOf_app, valsOf_app]
              have hl7 : w.heap.size < w7.heap.size := (Array.getElem?_eq_some_iff.1 (unhid H7).2.1).1
              have HF := hid (And.intro (ownsRow_base r3 (Nat.le_of_lt hl7)) ((unhid H7).1.trans (hS.mono (Nat.le_of_lt hl7))))
              have HL := hid (And.intro hlen hval)
              clear hlen hval r3 hS
              go_wp2_with fail
              go_ret2
              exact ⟨_, by rw [unhid E]; rfl, by rw [(unhid HL).1, (unhid HL).2]; exact (unhid HF).1, (unhid HF).2, owns_some (unhid HF).1 (by omega)⟩
            · go_simp
              have o2 : OneAt (W2.alloc (.cells #[.string e.path, .int .i64 e.kind, .int .i64 e.mode, .string e.text] 30)) W2.heap.size e := World.alloc_heap_new _ _
              have hS1 := hS.alloc hS.size (.cells #[.string e.path, .int .i64 e.kind, .int .i64 e.mode, .string e.text] 30)
              have m2 : (Value.slice (some ⟨g0, 0, none⟩) 0 0).ownBlock ≠ some W2.heap.size := fun eq => Nat.lt_irrefl _ (r0.lt _ eq).2
              have r0' := r0.alloc (.cells #[.string e.path, .int .i64 e.kind, .int .i64 e.mode, .string e.text] 30)
              clear r0
              have r0 := r0'
              clear r0'
              refine hK.out _ _ hS1 (fun _ => ?_)
              clear hK K hS
              generalize W2.alloc (.cells #[.string e.path, .int .i64 e.kind, .int .i64 e.mode, .string e.text] 30) = W3 at hS1 o2 r0 ⊢
              generalize W2.heap.size = g2 at o2 m2 ⊢
              have hS := hS1
              clear hS1
              refine wpAnyH_ready (rs := [4]) (by kernel_rfl) (by simp) ?_
              refine AllReadyH.cons rfl (fun K hK => ?_) AllReadyH.nil
              refine step_append_at (by rfl) _ _ 23 (by rfl) w7.heap.size 30 i0 _ 4 48 Tryz.underlying23 (unhid HI).1 (unhid HI).2.1 (unhid HI).2.2.1 (unhid HI).2.2.2 rfl (by decide) (Value.slice (some ⟨g0, 0, none⟩) 0 0) (0) ([]) (by rfl) r0 ⟨b, o, none⟩ (k) (cap) (valsOf (es.take k)) (by rfl) (by rw [valsOf_len, ht1]) (unhid HC1 _ hS) (valsOf_one _) (by unfold maxLen; omega) (by omega) hS.size ?_
              intro v1 W4 r1 hg1 hat1
              rw [Nat.zero_add, List.nil_append] at r1
              obtain ⟨a1, c1, rfl⟩ := ownsRow_slice r1
              have hS1 := hS.grown hg1 hS.size (fun g eg => (r0.lt g eg).1)
              have o2' := o2.grown hg1 (fun eq => m2 eq.symm)
              have m2' : (Value.slice a1 k c1).ownBlock ≠ some g2 := by
                rcases hat1 with h | h <;> rw [h]
                · exact m2
                · intro eq; injection eq with eq; have := o2.lt; omega
              clear o2 m2
              have o2 := o2'
              clear o2'
              have m2 := m2'
              clear m2'
              refine hK.out _ _ hS1 (fun _ => ?_)
              clear hK K hS r0 hg1 hat1
              have hS := hS1
              clear hS1
              refine wpAnyH_ready (rs := [7]) (by kernel_rfl) (by simp) ?_
              refine AllReadyH.cons rfl (fun K hK => ?_) AllReadyH.nil
              refine step_append_at (by rfl) _ _ 23 (by rfl) w7.heap.size 30 i0 _ 4 48 Tryz.underlying23 (unhid HI).1 (unhid HI).2.1 (unhid HI).2.2.1 (unhid HI).2.2.2 rfl (by decide) (Value.slice a1 k c1) (k) (valsOf (es.take k)) (by rfl) r1 ⟨g2, 0, none⟩ (1) (1) (valsOf [e]) (by rfl) (by rw [valsOf_len]; rfl) (o2.cells) (valsOf_one _) (by unfold maxLen; omega) (by omega) hS.size ?_
              intro v2 W5 r2 hg1 hat1
              obtain ⟨a2, c2, rfl⟩ := ownsRow_slice r2
              have hS1 := hS.grown hg1 hS.size (fun g eg => (r1.lt g eg).1)
              refine hK.out _ _ hS1 (fun _ => ?_)
              clear hK K hS r1 hg1 hat1 o2 m2
              have hS := hS1
              clear hS1
              refine wpAnyH_ready (rs := [11]) (by kernel_rfl) (by simp) ?_
              refine AllReadyH.cons rfl (fun K hK => ?_) AllReadyH.nil
              refine step_append_at (by rfl) _ _ 23 (by rfl) w7.heap.size 30 i0 _ 4 48 Tryz.underlying23 (unhid HI).1 (unhid HI).2.1 (unhid HI).2.2.1 (unhid HI).2.2.2 rfl (by decide) (Value.slice a2 (k + 1) c2) (k + 1) (valsOf (es.take k) ++ valsOf [e]) (by rfl) r2 ⟨b, o + offD cap k, none⟩ ((es.length - k)) ((cap - k)) (valsOf (es.drop k)) (by rfl) (by rw [valsOf_len, ht2]) (unhid HC2 _ hS) (valsOf_one _) (by unfold maxLen; omega) (by omega) hS.size ?_
              intro v3 W6 r3 hg1 hat1
              obtain ⟨a3, c3, rfl⟩ := ownsRow_slice r3
              have hS1 := hS.grown hg1 hS.size (fun g eg => (r2.lt g eg).1)
              refine hK.out _ _ hS1 (fun _ => ?_)
              clear hK K hS r2 hg1 hat1
              have hS := hS1
              clear hS1
              refine wpAnyH_take (i := 12) (v := .slice a3 (k + 1 + (es.length - k)) c3) rfl (by kernel_rfl) (by kernel_rfl) (by kernel_rfl) (fun _ _ _ h => h) (Or.inl ⟨by rfl, fun w hw => by go_simp⟩) hS ?_
              refine wpAnyH_take (i := 13) (v := .bool true) rfl (by kernel_rfl) (by kernel_rfl) (by kernel_rfl) (fun _ _ _ h => h) (Or.inl ⟨by rfl, fun w hw => by go_simp⟩) hS ?_
              refine wpAnyH_done (by kernel_rfl) ?_ _
              have hlen : (putL es e).length = k + 1 + (es.length - k) := by rw [unhid E2]; simp; omega
              have hval : valsOf (putL es e) = valsOf (es.take k) ++ valsOf [e] ++ valsOf (es.drop k) := by rw [unhid E2, valsOf_app, valsOf_app]
              have hl7 : w.heap.size < w7.heap.size := (Array.getElem?_eq_some_iff.1 (unhid H7).2.1).1
              have HF := hid (And.intro (ownsRow_base r3 (Nat.le_of_lt hl7)) ((unhid H7).1.trans (hS.mono (Nat.le_of_lt hl7))))
              have HL := hid (And.intro hlen hval)
              clear hlen hval r3 hS
              go_wp2_with fail
              go_ret2
              exact ⟨_, by rw [unhid E]; rfl, by rw [(unhid HL).1, (unhid HL).2]; exact (unhid HF).1, (unhid HF).2, owns_some (unhid HF).1 (by omega)⟩
          · go_simp
            have o2 : OneAt (W.alloc (.cells #[.string e.path, .int .i64 e.kind, .int .i64 e.mode, .string e.text] 30)) W.heap.size e := World.alloc_heap_new _ _
            have hS1 := hS.alloc hS.size (.cells #[.string e.path, .int .i64 e.kind, .int .i64 e.mode, .string e.text] 30)
            refine hK.out _ _ hS1 (fun _ => ?_)
            clear hK K hS
            generalize W.alloc (.cells #[.string e.path, .int .i64 e.kind, .int .i64 e.mode, .string e.text] 30) = W2 at hS1 o2 ⊢
            generalize W.heap.size = g2 at o2 ⊢
            have hS := hS1
            clear hS1
            refine wpAnyH_ready (rs := [0]) (by kernel_rfl) (by simp) ?_
            refine AllReadyH.cons rfl (fun K hK => ?_) AllReadyH.nil
            go_simp
            have r0 := owns_empty W2 w7.heap.size hS.size 30
            have hS1 := hS.alloc hS.size (.cells #[] 30)
            have o2' := o2.alloc (.cells #[] 30)
            have m2 : (Value.slice (some ⟨W2.heap.size, 0, none⟩) 0 0).ownBlock ≠ some g2 := fun eq => by injection eq with eq; have eq2 : W2.heap.size = g2 := eq; have := o2.lt; omega
            clear o2
            have o2 := o2'
            clear o2'
            refine hK.out _ _ hS1 (fun _ => ?_)
            clear hK K hS
            generalize W2.alloc (.cells #[] 30) = W3 at hS1 r0 o2 ⊢
            generalize W2.heap.size = g0 at r0 m2 ⊢
            have hS := hS1
            clear hS1
            refine wpAnyH_ready (rs := [4]) (by kernel_rfl) (by simp) ?_
            refine AllReadyH.cons rfl (fun K hK => ?_) AllReadyH.nil
            refine step_append_at (by rfl) _ _ 23 (by rfl) w7.heap.size 30 i0 _ 4 48 Tryz.underlying23 (unhid HI).1 (unhid HI).2.1 (unhid HI).2.2.1 (unhid HI).2.2.2 rfl (by decide) (Value.slice (some ⟨g0, 0, none⟩) 0 0) (0) ([]) (by rfl) r0 ⟨b, o, none⟩ (k) (cap) (valsOf (es.take k)) (by rfl) (by rw [valsOf_len, ht1]) (unhid HC1 _ hS) (valsOf_one _) (by unfold maxLen; omega) (by omega) hS.size ?_
            intro v1 W4 r1 hg1 hat1
            rw [Nat.zero_add, List.nil_append] at r1
            obtain ⟨a1, c1, rfl⟩ := ownsRow_slice r1
            have hS1 := hS.grown hg1 hS.size (fun g eg => (r0.lt g eg).1)
            have o2' := o2.grown hg1 (fun eq => m2 eq.symm)
            have m2' : (Value.slice a1 k c1).ownBlock ≠ some g2 := by
              rcases hat1 with h | h <;> rw [h]
              · exact m2
              · intro eq; injection eq with eq; have := o2.lt; omega
            clear o2 m2
            have o2 := o2'
            clear o2'
            have m2 := m2'
            clear m2'
            refine hK.out _ _ hS1 (fun _ => ?_)
            clear hK K hS r0 hg1 hat1
            have hS := hS1
            clear hS1
            refine wpAnyH_ready (rs := [7]) (by kernel_rfl) (by simp) ?_
            refine AllReadyH.cons rfl (fun K hK => ?_) AllReadyH.nil
            refine step_append_at (by rfl) _ _ 23 (by rfl) w7.heap.size 30 i0 _ 4 48 Tryz.underlying23 (unhid HI).1 (unhid HI).2.1 (unhid HI).2.2.1 (unhid HI).2.2.2 rfl (by decide) (Value.slice a1 k c1) (k) (valsOf (es.take k)) (by rfl) r1 ⟨g2, 0, none⟩ (1) (1) (valsOf [e]) (by rfl) (by rw [valsOf_len]; rfl) (o2.cells) (valsOf_one _) (by unfold maxLen; omega) (by omega) hS.size ?_
            intro v2 W5 r2 hg1 hat1
            obtain ⟨a2, c2, rfl⟩ := ownsRow_slice r2
            have hS1 := hS.grown hg1 hS.size (fun g eg => (r1.lt g eg).1)
            refine hK.out _ _ hS1 (fun _ => ?_)
            clear hK K hS r1 hg1 hat1 o2 m2
            have hS := hS1
            clear hS1
            refine wpAnyH_ready (rs := [11]) (by kernel_rfl) (by simp) ?_
            refine AllReadyH.cons rfl (fun K hK => ?_) AllReadyH.nil
            refine step_append_at (by rfl) _ _ 23 (by rfl) w7.heap.size 30 i0 _ 4 48 Tryz.underlying23 (unhid HI).1 (unhid HI).2.1 (unhid HI).2.2.1 (unhid HI).2.2.2 rfl (by decide) (Value.slice a2 (k + 1) c2) (k + 1) (valsOf (es.take k) ++ valsOf [e]) (by rfl) r2 ⟨b, o + offD cap k, none⟩ ((es.length - k)) ((cap - k)) (valsOf (es.drop k)) (by rfl) (by rw [valsOf_len, ht2]) (unhid HC2 _ hS) (valsOf_one _) (by unfold maxLen; omega) (by omega) hS.size ?_
            intro v3 W6 r3 hg1 hat1
            obtain ⟨a3, c3, rfl⟩ := ownsRow_slice r3
            have hS1 := hS.grown hg1 hS.size (fun g eg => (r2.lt g eg).1)
            refine hK.out _ _ hS1 (fun _ => ?_)
            clear hK K hS r2 hg1 hat1
            have hS := hS1
            clear hS1
            refine wpAnyH_take (i := 12) (v := .slice a3 (k + 1 + (es.length - k)) c3) rfl (by kernel_rfl) (by kernel_rfl) (by kernel_rfl) (fun _ _ _ h => h) (Or.inl ⟨by rfl, fun w hw => by go_simp⟩) hS ?_
            refine wpAnyH_take (i := 13) (v := .bool true) rfl (by kernel_rfl) (by kernel_rfl) (by kernel_rfl) (fun _ _ _ h => h) (Or.inl ⟨by rfl, fun w hw => by go_simp⟩) hS ?_
            refine wpAnyH_done (by kernel_rfl) ?_ _
            have hlen : (putL es e).length = k + 1 + (es.length - k) := by rw [unhid E2]; simp; omega
            have hval : valsOf (putL es e) = valsOf (es.take k) ++ valsOf [e] ++ valsOf (es.drop k) := by rw [unhid E2, valsOf_app, valsOf_app]
            have hl7 : w.heap.size < w7.heap.size := (Array.getElem?_eq_some_iff.1 (unhid H7).2.1).1
            have HF := hid (And.intro (ownsRow_base r3 (Nat.le_of_lt hl7)) ((unhid H7).1.trans (hS.mono (Nat.le_of_lt hl7))))
            have HL := hid (And.intro hlen hval)
            clear hlen hval r3 hS
            go_wp2_with fail
            go_ret2
            exact ⟨_, by rw [unhid E]; rfl, by rw [(unhid HL).1, (unhid HL).2]; exact (unhid HF).1, (unhid HF).2, owns_some (unhid HF).1 (by omega)⟩
      · obtain ⟨old, hold, hop⟩ := there_get hth
        have hfo := entFn_get hold
        have hkl : placeE es e.path < es.length := (List.getElem?_eq_some_iff.1 hold).1
        obtain ⟨c0, c1, c2, c3⟩ := (unhid H6).2.2.1 _ old hold
        cases hkk : (old.kind != e.kind)
        · have E := hid (show okPut es e = true by unfold okPut; rw [he, hd, hth, hfo]; simp at hkk; simp [hkk])
          have HH := hid hth
          clear hth hold hop hfo
          go_wp2_with fail
          go_quiet (fail)
          clear c0 c1 c2 c3
          have hB7 : Below w6.heap.size w6 (w6.drewN nq) := drewN_below _ _
          have H7 := hid (show Below w.heap.size w (w6.drewN nq) ∧ (w6.drewN nq).heap[w.heap.size]? = some (.cells #[.string e.path, .int .i64 e.kind, .int .i64 e.mode, .string e.text] 30 (0, 0)) ∧ (∀ (i : Nat) e, es[i]? = some e → EntAt (w6.drewN nq) b (o + i * 4) e) ∧ (w6.drewN nq).ownsRow w.heap.size 30 4 (.slice va es.length vc) es.length (valsOf es) from
            ⟨(unhid H6).1.trans (drewN_below _ _), (unhid H6).2.1, entAt_below (unhid H6).2.2.1 (.inr hb6) hB7, ownsRow_kept (unhid H6).2.2.2 (fun g eg => hB7.block g ((unhid H6).2.2.2.lt g eg).2)⟩)
          have hb7 : b < (w6.drewN nq).heap.size := hb6
          clear hB7 H6 hb6 d0 d1 d2 d3
          generalize w6.drewN nq = w7 at H7 hb7 ⊢
          obtain ⟨⟨d0, d1, d2, d3⟩, -⟩ := four_cells (unhid H7).2.1
          obtain ⟨gv, rfl⟩ : ∃ gv, va = some ⟨gv, 0, none⟩ := by
            rcases (unhid H7).2.2.2.2 with ⟨hv, h0⟩ | ⟨g', _, _, hv, _⟩
            · omega
            · cases hv; exact ⟨_, rfl⟩
          have HX := hid (And.intro (ownsRow_set4 (unhid H7).2.2.2 hkl rfl e) (below_set4 (unhid H7).1 (Nat.le_of_lt (unhid HV3 gv rfl)) (placeE es e.path) e))
          obtain ⟨a1, cap1, ev, hR⟩ := rowIn_of_owns (unhid H7).2.2.2
          cases ev
          obtain ⟨g', ea, -, -, hR⟩ := hR.resolve_left (fun h0 => by rw [h0] at hkl; simp at hkl)
          cases ea
          obtain ⟨⟨k0, k1, k2, k3⟩, f0, f1, f2, f3⟩ := hR.cells _ hkl
          clear hR
          have E2 := hid (putL_set (unhid E) (unhid HH))
          go_wp2_with fail
          go_ret2
          exact ⟨_, by rw [unhid E]; rfl, by rw [unhid E2, List.length_set]; exact (unhid HX).1, (unhid HX).2, unhid HVA⟩
        · have E := hid (show okPut es e = false by unfold okPut; rw [he, hd, hth, hfo]; simp at hkk; simp [hkk])
          clear hth hold hop hfo
          go_wp2_with fail
          go_quiet (fail)
          go_wp2_with fail
          go_ret2
          have hB7 : Below w6.heap.size w6 (w6.drewN nq) := drewN_below _ _
          exact ⟨_, by rw [unhid E]; rfl, by rw [putL_no (unhid E)]; exact ownsRow_kept (unhid H6).2.2.2 (fun g eg => hB7.block g ((unhid H6).2.2.2.lt g eg).2), (unhid H6).1.trans (drewN_below _ _), unhid HVA⟩
theorem l2Put_any (es : List Ent) (e : Ent) (b o cap : Nat) (w : World) (hn : es.length ≤ 16) (hc : es.length ≤ cap) (hp : e.path.size ≤ 1048576) (ht : e.text.size ≤ 1048576) (h : ∀ (i : Nat) e, es[i]? = some e → EntAt w b (o + i * 4) e) (hb : b < w.heap.size) :
    Calls Tryz.prog 56 #[.slice (some ⟨b, o, none⟩) es.length cap, .agg e.vals] w fun x w' => ∃ v, x = .returned (.tuple #[v, .bool (okPut es e)]) ∧ w'.ownsRow w.heap.size 30 4 v (putL es e).length (valsOf (putL es e)) ∧ Below w.heap.size w w' :=
  (l2Put_full es e b o cap w hn hc hp ht h hb).mono (fun _ _ ⟨v, h1, h2, h3, _⟩ => ⟨v, h1, h2, h3⟩)
end Go.Proofs.YtfphpggjcljliaaGreat

/- What the draw of an entry gives: a path that no law puts anew, a short text. -/
namespace Go.Proofs.YtfphpggjcljliaaGreat
open Go.RowKit

def niceE (e : Ent) : Prop := nice e.path ∧ short e.text
theorem grown_set' {x y : World} {b : Nat} (h : x.grownBy y (some b)) {p : Addr} (hp : x.heap.size ≤ p.block) (v : Value) : x.grownBy (y.setCell p v) (some b) :=
  ⟨h.os, h.tape, h.output, by simpa using h.size, fun k hk hne => (Below.heap_setCell y p v k (by omega)).trans (h.block k hk hne)⟩
theorem Rd.set' {w : World} {b : Nat} {a : Option Addr} {len cap p : Nat} (h : Rd w b a len cap p) {q : Addr} (hq : b < q.block) (v : Value) : Rd (w.setCell q v) b a len cap p where
  c0 := (World.cell?_of_block (w := w) (Below.heap_setCell w q v b (by omega))).trans h.c0
  c1 := (World.cell?_of_block (w := w) (Below.heap_setCell w q v b (by omega))).trans h.c1
  f1 := (World.frozen?_of_block (w := w) (Below.heap_setCell w q v b (by omega))).trans h.f1
  l := h.l
  d := by
    rcases h.d with h0 | ⟨blk, off, ha, hb, hc⟩
    · exact .inl h0
    · refine .inr ⟨blk, off, ha, hb, fun k hk => ?_⟩
      obtain ⟨c, h1, h2⟩ := hc k hk
      exact ⟨c, h1, (World.cell?_of_block (w := w) (Below.heap_setCell w q v blk (by omega))).trans h2⟩

theorem oneAt_far {W : World} {g : Nat} {e : Ent} (h : OneAt W g e) {q : Addr} (hq : g ≠ q.block) {v : Value} : OneAt (W.setCell q v) g e := (Below.heap_setCell W q v g hq).trans h
theorem oneAt_set0 {W : World} {g : Nat} {e : Ent} (h : OneAt W g e) (p : ByteArray) : OneAt (W.setCell ⟨g, 0, none⟩ (.string p)) g { e with path := p } := heap_setCell_same _ g _ _ _ _ h
theorem oneAt_set1 {W : World} {g : Nat} {e : Ent} (h : OneAt W g e) (p : Int) : OneAt (W.setCell ⟨g, 1, none⟩ (.int .i64 p)) g { e with kind := p } := heap_setCell_same _ g _ _ _ _ h
theorem oneAt_set2 {W : World} {g : Nat} {e : Ent} (h : OneAt W g e) (p : Int) : OneAt (W.setCell ⟨g, 2, none⟩ (.int .i64 p)) g { e with mode := p } := heap_setCell_same _ g _ _ _ _ h
theorem oneAt_set3 {W : World} {g : Nat} {e : Ent} (h : OneAt W g e) (p : ByteArray) : OneAt (W.setCell ⟨g, 3, none⟩ (.string p)) g { e with text := p } := heap_setCell_same _ g _ _ _ _ h

set_option maxRecDepth 100000 in
set_option maxHeartbeats 4000000 in
theorem l11Entry_any (w : World) (b : Nat) (a : Option Addr) (len cap p : Nat) (h : Rd w b a len cap p) (hp : p ≤ 900000) :
    Calls Tryz.prog 57 #[.pointer (some ⟨b, 0, none⟩)] w fun x w' => ∃ e : Ent, niceE e ∧ x = .returned (.agg e.vals) ∧ (∃ p', p' ≤ p + 4 ∧ Rd w' b a len cap p') ∧ w.grownBy w' (some b) := by
  have H := hid (h.alloc (.cells #[.string ⟨#[]⟩, .int .i64 0, .int .i64 0, .string ⟨#[]⟩] 30))
  have hbl := h.lt
  clear h
  go_enter Tryz.func57, Tryz.ntmps57
  go_wp2_with fail
  refine (l11Path_nice _ b a len cap p (unhid H) (by omega)).mono ?_
  rintro e w1 ⟨x, hx, rfl, hR, hG⟩
  have O0 : OneAt (w.alloc (.cells #[.string ⟨#[]⟩, .int .i64 0, .int .i64 0, .string ⟨#[]⟩] 30)) w.heap.size Ent.none := World.alloc_heap_new _ _
  have O1 := hid (O0.grown hG (by intro e; injection e; omega))
  have G1 := hid (grown_trans (World.grownBy_alloc w _ (some b)) hG)
  have R1 := hid hR
  have hz1 : w.heap.size + 1 ≤ w1.heap.size := by have := hG.size; simpa using this
  clear hR hG O0 H
  go_wp2_with fail
  refine (one_any (fun k => (decide (1 ≤ k) && decide (k ≤ 3)) = true) _ b a len cap (p + 1) ((unhid R1).alloc _) (by omega) w1.heap.size 5 5 (by have := (unhid R1).lt; omega) (by omega) (by omega) ?h5).mono ?_
  case h5 => exact fun k hk => row_int (fun k => decide (1 ≤ k) && decide (k ≤ 3)) _ _ _ _ rfl (by kernel_rfl) k hk
  rintro e w2 ⟨kd, hkd, rfl, hR, hG0⟩
  have hG := grown_trans (World.grownBy_alloc w1 _ (some b)) hG0
  have O2 := hid ((unhid O1).grown hG (by intro e; injection e; omega))
  have G2 := hid (grown_trans (unhid G1) hG)
  have R2 := hid hR
  have hz2 : w.heap.size + 2 ≤ w2.heap.size := by have := hG0.size; simp at this; omega
  clear hR hG hG0 O1 G1 R1
  go_wp2_with fail
  refine (pick_any w2 b a len cap _ (unhid R2) (by omega) 8 (by omega) (by omega)).mono ?_
  rintro e w3 ⟨md, hmd, rfl, hR, hG⟩
  have O3 := hid (((unhid O2).grown hG (by intro e; injection e; omega)).alloc (.cells #[.string x, .int .i64 kd, .int .i64 md, .string ⟨#[]⟩] 30))
  have N3 := hid (show OneAt (w3.alloc (.cells #[.string x, .int .i64 kd, .int .i64 md, .string ⟨#[]⟩] 30)) w3.heap.size ⟨x, kd, md, ⟨#[]⟩⟩ from World.alloc_heap_new _ _)
  have G3 := hid (grown_trans (grown_trans (unhid G2) hG) (World.grownBy_alloc w3 (.cells #[.string x, .int .i64 kd, .int .i64 md, .string ⟨#[]⟩] 30) (some b)))
  have R3 := hid (hR.alloc (.cells #[.string x, .int .i64 kd, .int .i64 md, .string ⟨#[]⟩] 30))
  have hz3 : w.heap.size + 2 ≤ w3.heap.size := Nat.le_trans hz2 hG.size
  have P3 := hid (And.intro ((unhid O2).grown hG (by intro e; injection e; omega)) (And.intro (grown_trans (unhid G2) hG) hR))
  clear hR hG O2 G2 R2
  have hne' : ¬ w3.heap.size = w.heap.size := by omega
  have hne2 : ¬ w.heap.size = w3.heap.size := by omega
  have hk3 : kd = 1 ∨ kd = 2 ∨ kd = 3 := by simp only [Bool.and_eq_true, decide_eq_true_eq] at hkd; omega
  clear hkd
  obtain ⟨⟨d0, d1, d2, d3⟩, g0, g1, g2, g3⟩ := four_cells (unhid N3)
  obtain ⟨⟨c0, c1, c2, c3⟩, f0, f1, f2, f3⟩ := four_cells (unhid O3)
  rcases hk3 with rfl | rfl | rfl
  · go_wp2_with fail
    refine bodyPost_ret (v := .agg #[.string x, .int .i64 1, .int .i64 md, .string ⟨#[]⟩]) (by simp [results, Tryz.results57, go_sem, World.cell?_setCell_same', c0, c1, c2, c3]) rfl ⟨⟨x, 1, md, ⟨#[]⟩⟩, ⟨hx, (by unfold short; decide : short ⟨#[]⟩)⟩, rfl, ⟨_, ?_, (((((unhid R3).set' ?_ _).set' ?_ _).set' ?_ _).set' ?_ _)⟩, grown_set' (grown_set' (grown_set' (grown_set' (unhid G3) ?_ _) ?_ _) ?_ _) ?_ _⟩
    all_goals (try dsimp only); omega
  · go_wp2_with fail
    clear c0 c1 c2 c3 f0 f1 f2 f3 d0 d1 d2 d3 g0 g1 g2 g3
    refine (l11Text_any _ b a len cap _ (unhid R3) (by omega)).mono ?_
    rintro e w4 ⟨y, hy, rfl, hR, hG⟩
    have hz4 := hG.size
    simp only [World.size_alloc] at hz4
    have O4 := hid ((unhid O3).grown hG (by intro e; injection e; omega))
    have N4 := hid ((unhid N3).grown hG (by intro e; injection e; omega))
    have G4 := hid (grown_trans (unhid G3) hG)
    have R4 := hid hR
    clear hR hG O3 N3 G3 R3
    obtain ⟨⟨d0, d1, d2, d3⟩, g0, g1, g2, g3⟩ := four_cells (unhid N4)
    obtain ⟨⟨c0, c1, c2, c3⟩, f0, f1, f2, f3⟩ := four_cells (unhid O4)
    go_wp2_with fail
    refine bodyPost_ret (v := .agg #[.string x, .int .i64 2, .int .i64 md, .string y]) (by simp [results, Tryz.results57, go_sem, World.cell?_setCell_same', c0, c1, c2, c3]) rfl ⟨⟨x, 2, md, y⟩, ⟨hx, hy⟩, rfl, ⟨_, ?_, (((((unhid R4).set' ?_ _).set' ?_ _).set' ?_ _).set' ?_ _).set' ?_ _⟩, grown_set' (grown_set' (grown_set' (grown_set' (grown_set' (unhid G4) ?_ _) ?_ _) ?_ _) ?_ _) ?_ _⟩
    all_goals (try dsimp only); omega
  · go_wp2_with fail
    clear c0 c1 c2 c3 f0 f1 f2 f3 d0 d1 d2 d3 g0 g1 g2 g3
    refine (l11Path_nice _ b a len cap _ ((unhid P3).2.2.alloc _) (by omega)).mono ?_
    rintro e w4 ⟨y, hy, rfl, hR, hG⟩
    have hz4 := hG.size
    simp only [World.size_alloc] at hz4
    have O4 := hid (((unhid P3).1.alloc _).grown hG (by intro e; injection e; omega))
    have N4 := hid ((show OneAt (w3.alloc (.cells #[.string x, .int .i64 3, .int .i64 0, .string ⟨#[]⟩] 30)) w3.heap.size ⟨x, 3, 0, ⟨#[]⟩⟩ from World.alloc_heap_new _ _).grown hG (by intro e; injection e; omega))
    have G4 := hid (grown_trans (grown_trans (unhid P3).2.1 (World.grownBy_alloc w3 _ (some b))) hG)
    have R4 := hid hR
    clear hR hG O3 N3 G3 R3
    obtain ⟨⟨d0, d1, d2, d3⟩, g0, g1, g2, g3⟩ := four_cells (unhid N4)
    obtain ⟨⟨c0, c1, c2, c3⟩, f0, f1, f2, f3⟩ := four_cells (unhid O4)
    go_wp2_with fail
    refine bodyPost_ret (v := .agg #[.string x, .int .i64 3, .int .i64 0, .string y]) (by simp [results, Tryz.results57, go_sem, World.cell?_setCell_same', c0, c1, c2, c3]) rfl ⟨⟨x, 3, 0, y⟩, ⟨hx, nice_short hy⟩, rfl, ⟨_, ?_, (((((unhid R4).set' ?_ _).set' ?_ _).set' ?_ _).set' ?_ _).set' ?_ _⟩, grown_set' (grown_set' (grown_set' (grown_set' (grown_set' (unhid G4) ?_ _) ?_ _) ?_ _) ?_ _) ?_ _⟩
    all_goals (try dsimp only); omega
end Go.Proofs.YtfphpggjcljliaaGreat

/- What the draw of any entry gives. -/
namespace Go.Proofs.YtfphpggjcljliaaGreat
open Go.RowKit

theorem odd_short (y : ByteArray) (hy : y.size ≤ 100) : (#[Value.string ⟨#[1]⟩, .string y, .string ⟨#[120]⟩, .string ⟨#[]⟩] : Array Value).toList.all shortV = true := by
  have : decide (y.size ≤ 100) = true := decide_eq_true hy
  simp only [List.all_cons, List.all_nil, Bool.and_true, shortV, this]
  decide

set_option maxRecDepth 100000 in
set_option maxHeartbeats 4000000 in
theorem l11AnyEntry_any (w : World) (b : Nat) (a : Option Addr) (len cap p : Nat) (h : Rd w b a len cap p) (hp : p ≤ 900000) :
    Calls Tryz.prog 33 #[.pointer (some ⟨b, 0, none⟩)] w fun x w' => ∃ e : Ent, niceE e ∧ x = .returned (.agg e.vals) ∧ (∃ p', p' ≤ p + 8 ∧ Rd w' b a len cap p') ∧ w.grownBy w' (some b) := by
  have H := hid (h.alloc (.cells #[.string ⟨#[]⟩, .int .i64 0, .int .i64 0, .string ⟨#[]⟩] 30))
  have hbl := h.lt
  clear h
  go_enter Tryz.func33, Tryz.ntmps33
  go_wp2_with fail
  refine (l11Entry_any _ b a len cap p (unhid H) (by omega)).mono ?_
  rintro e w1 ⟨⟨x, k, m, t⟩, hx, rfl, ⟨p1, hp1, hR⟩, hG⟩
  unfold Ent.vals
  dsimp only
  have hz1 : w.heap.size + 1 ≤ w1.heap.size := by have := hG.size; simpa using this
  have O0 : OneAt (w.alloc (.cells #[.string ⟨#[]⟩, .int .i64 0, .int .i64 0, .string ⟨#[]⟩] 30)) w.heap.size Ent.none := World.alloc_heap_new _ _
  have O1 := hid ((O0.grown hG (by intro e; injection e; omega)).alloc (.cells #[.string x, .int .i64 k, .int .i64 m, .string t] 30))
  have N1 := hid (show OneAt (w1.alloc (.cells #[.string x, .int .i64 k, .int .i64 m, .string t] 30)) w1.heap.size ⟨x, k, m, t⟩ from World.alloc_heap_new _ _)
  have G1 := hid (grown_trans (grown_trans (World.grownBy_alloc w _ (some b)) hG) (World.grownBy_alloc w1 (.cells #[.string x, .int .i64 k, .int .i64 m, .string t] 30) (some b)))
  have R1 := hid (hR.alloc (.cells #[.string x, .int .i64 k, .int .i64 m, .string t] 30))
  clear hR hG O0 H
  have hne' : ¬ w1.heap.size = w.heap.size := by omega
  have hne2 : ¬ w.heap.size = w1.heap.size := by omega
  have hzW : (w1.alloc (.cells #[.string x, .int .i64 k, .int .i64 m, .string t] 30)).heap.size = w1.heap.size + 1 := by simp
  go_wp2_with fail
  generalize w1.alloc (.cells #[.string x, .int .i64 k, .int .i64 m, .string t] 30) = W at *
  refine (pick_any W b a len cap p1 (unhid R1) (by omega) 14 (by omega) (by omega)).mono ?_
  rintro e w2 ⟨r, hr, rfl, hR, hG⟩
  have O2 := hid ((unhid O1).grown hG (by intro e; injection e; omega))
  have N2 := hid ((unhid N1).grown hG (by intro e; injection e; omega))
  have G2 := hid (grown_trans (unhid G1) hG)
  have R2 := hid hR
  have hz2 : w1.heap.size + 1 ≤ w2.heap.size := by have := hG.size; omega
  clear hR hG O1 N1 G1 R1 hzW
  have hr5 : r = 0 ∨ r = 1 ∨ r = 2 ∨ r = 3 ∨ 4 ≤ r := by omega
  rcases hr5 with rfl | rfl | rfl | rfl | hr4
  · go_wp2_with fail
    refine (l11AnyPath_nice _ b a len cap _ (unhid R2) (by omega)).mono ?_
    rintro e w3 ⟨y, hy, rfl, hR, hG0⟩
    have hG : w2.grownBy w3 (some b) := hG0
    clear hG0
    have O3 := hid ((unhid O2).grown hG (by intro e; injection e; omega))
    have N3 := hid ((unhid N2).grown hG (by intro e; injection e; omega))
    have G3 := hid (grown_trans (unhid G2) hG)
    have R3 := hid hR
    have hz3 := hG.size
    clear hR hG O2 N2 G2 R2
    obtain ⟨⟨d0, d1, d2, d3⟩, g0, g1, g2, g3⟩ := four_cells (unhid N3)
    obtain ⟨⟨c0, c1, c2, c3⟩, f0, f1, f2, f3⟩ := four_cells (unhid O3)
    dsimp only at d0 d1 d2 d3
    go_wp2_with fail
    refine bodyPost_ret (v := .agg #[.string y, .int .i64 k, .int .i64 m, .string t]) (by simp [results, Tryz.results33, go_sem, World.cell?_setCell_same', c0, c1, c2, c3]) rfl ⟨⟨y, k, m, t⟩, ⟨hy, hx.2⟩, rfl, ⟨_, ?_, (((((unhid R3).set' ?_ _).set' ?_ _).set' ?_ _).set' ?_ _).set' ?_ _⟩, grown_set' (grown_set' (grown_set' (grown_set' (grown_set' (unhid G3) ?_ _) ?_ _) ?_ _) ?_ _) ?_ _⟩
    all_goals (try dsimp only); omega
  · go_wp2_with fail
    refine (pick_any _ b a len cap _ (unhid R2) (by omega) 5 (by omega) (by omega)).mono ?_
    rintro e w3 ⟨y, hy, rfl, hR, hG0⟩
    have hG : w2.grownBy w3 (some b) := hG0
    clear hG0
    have O3 := hid ((unhid O2).grown hG (by intro e; injection e; omega))
    have N3 := hid ((unhid N2).grown hG (by intro e; injection e; omega))
    have G3 := hid (grown_trans (unhid G2) hG)
    have R3 := hid hR
    have hz3 := hG.size
    clear hR hG O2 N2 G2 R2
    obtain ⟨⟨d0, d1, d2, d3⟩, g0, g1, g2, g3⟩ := four_cells (unhid N3)
    obtain ⟨⟨c0, c1, c2, c3⟩, f0, f1, f2, f3⟩ := four_cells (unhid O3)
    dsimp only at d0 d1 d2 d3
    go_wp2_with fail
    refine bodyPost_ret (v := .agg #[.string x, .int .i64 y, .int .i64 m, .string t]) (by simp [results, Tryz.results33, go_sem, World.cell?_setCell_same', c0, c1, c2, c3]) rfl ⟨⟨x, y, m, t⟩, hx, rfl, ⟨_, ?_, (((((unhid R3).set' ?_ _).set' ?_ _).set' ?_ _).set' ?_ _).set' ?_ _⟩, grown_set' (grown_set' (grown_set' (grown_set' (grown_set' (unhid G3) ?_ _) ?_ _) ?_ _) ?_ _) ?_ _⟩
    all_goals (try dsimp only); omega
  · go_wp2_with fail
    refine (one_any (fun k => (decide (-1 ≤ k) && decide (k ≤ 8)) = true) _ b a len cap _ ((unhid R2).alloc _) (by omega) w2.heap.size 3 3 (by have := (unhid R2).lt; omega) (by omega) (by omega) ?h5).mono ?_
    case h5 => exact fun k hk => row_int (fun k => decide (-1 ≤ k) && decide (k ≤ 8)) _ _ _ _ rfl (by kernel_rfl) k hk
    rintro e w3 ⟨y, hy, rfl, hR, hG0⟩
    have hG : w2.grownBy w3 (some b) := grown_trans (World.grownBy_alloc w2 _ (some b)) hG0
    clear hG0
    have O3 := hid ((unhid O2).grown hG (by intro e; injection e; omega))
    have N3 := hid ((unhid N2).grown hG (by intro e; injection e; omega))
    have G3 := hid (grown_trans (unhid G2) hG)
    have R3 := hid hR
    have hz3 := hG.size
    clear hR hG O2 N2 G2 R2
    obtain ⟨⟨d0, d1, d2, d3⟩, g0, g1, g2, g3⟩ := four_cells (unhid N3)
    obtain ⟨⟨c0, c1, c2, c3⟩, f0, f1, f2, f3⟩ := four_cells (unhid O3)
    dsimp only at d0 d1 d2 d3
    go_wp2_with fail
    refine bodyPost_ret (v := .agg #[.string x, .int .i64 k, .int .i64 y, .string t]) (by simp [results, Tryz.results33, go_sem, World.cell?_setCell_same', c0, c1, c2, c3]) rfl ⟨⟨x, k, y, t⟩, hx, rfl, ⟨_, ?_, (((((unhid R3).set' ?_ _).set' ?_ _).set' ?_ _).set' ?_ _).set' ?_ _⟩, grown_set' (grown_set' (grown_set' (grown_set' (grown_set' (unhid G3) ?_ _) ?_ _) ?_ _) ?_ _) ?_ _⟩
    all_goals (try dsimp only); omega
  · go_wp2_with fail
    have hzz : (rep ⟨#[117]⟩ 81).size ≤ 100 := by rw [rep_size]; decide
    refine (many_rep ⟨#[117]⟩ 81 (by decide) (by omega) w2).mono ?_
    rintro e w2' ⟨rfl, e2⟩
    rw [e2]
    clear e2 w2'
    generalize rep ⟨#[117]⟩ 81 = yy at hzz
    go_wp2_with fail
    refine (of_any short _ b a len cap _ ((unhid R2).alloc _) (by omega) w2.heap.size 4 4 (by have := (unhid R2).lt; omega) (by omega) (by omega) ?h5).mono ?_
    case h5 => exact fun k hk => row_short2 _ _ _ _ rfl (odd_short yy hzz) k hk
    rintro e w3 ⟨y, hy, rfl, hR, hG0⟩
    have hG : w2.grownBy w3 (some b) := grown_trans (World.grownBy_alloc w2 _ (some b)) hG0
    clear hG0
    have O3 := hid ((unhid O2).grown hG (by intro e; injection e; omega))
    have N3 := hid ((unhid N2).grown hG (by intro e; injection e; omega))
    have G3 := hid (grown_trans (unhid G2) hG)
    have R3 := hid hR
    have hz3 := hG.size
    clear hR hG O2 N2 G2 R2
    obtain ⟨⟨d0, d1, d2, d3⟩, g0, g1, g2, g3⟩ := four_cells (unhid N3)
    obtain ⟨⟨c0, c1, c2, c3⟩, f0, f1, f2, f3⟩ := four_cells (unhid O3)
    dsimp only at d0 d1 d2 d3
    go_wp2_with fail
    refine bodyPost_ret (v := .agg #[.string x, .int .i64 k, .int .i64 m, .string y]) (by simp [results, Tryz.results33, go_sem, World.cell?_setCell_same', c0, c1, c2, c3]) rfl ⟨⟨x, k, m, y⟩, ⟨hx.1, hy⟩, rfl, ⟨_, ?_, (((((unhid R3).set' ?_ _).set' ?_ _).set' ?_ _).set' ?_ _).set' ?_ _⟩, grown_set' (grown_set' (grown_set' (grown_set' (grown_set' (unhid G3) ?_ _) ?_ _) ?_ _) ?_ _) ?_ _⟩
    all_goals (try dsimp only); omega
  · have b0 : ((r : Int) == 0) = false := by rw [beq_eq_false_iff_ne]; omega
    have b1 : ((r : Int) == 1) = false := by rw [beq_eq_false_iff_ne]; omega
    have b2 : ((r : Int) == 2) = false := by rw [beq_eq_false_iff_ne]; omega
    have b3 : ((r : Int) == 3) = false := by rw [beq_eq_false_iff_ne]; omega
    obtain ⟨⟨d0, d1, d2, d3⟩, g0, g1, g2, g3⟩ := four_cells (unhid N2)
    obtain ⟨⟨c0, c1, c2, c3⟩, f0, f1, f2, f3⟩ := four_cells (unhid O2)
    dsimp only at d0 d1 d2 d3
    go_wp2_with fail
    refine bodyPost_ret (v := .agg #[.string x, .int .i64 k, .int .i64 m, .string t]) (by simp [results, Tryz.results33, go_sem, World.cell?_setCell_same', c0, c1, c2, c3]) rfl ⟨⟨x, k, m, t⟩, hx, rfl, ⟨_, ?_, ((((unhid R2).set' ?_ _).set' ?_ _).set' ?_ _).set' ?_ _⟩, grown_set' (grown_set' (grown_set' (grown_set' (unhid G2) ?_ _) ?_ _) ?_ _) ?_ _⟩
    all_goals (try dsimp only); omega
end Go.Proofs.YtfphpggjcljliaaGreat

/- A number in figures, by the model. -/
namespace Go.Proofs.YtfphpggjcljliaaGreat
open Go.RowKit

/-- The sign of a figure. -/
def fig (n : Nat) : UInt8 := UInt8.ofNat (48 + n)
def decL (n : Nat) : List UInt8 := if n < 10 then [fig n] else decL (n / 10) ++ [fig (n % 10)]
termination_by n
decreasing_by omega
def decA (n : Nat) : ByteArray := ⟨(decL n).toArray⟩
theorem decL_small {n : Nat} (h : n < 10) : decL n = [fig n] := by rw [decL, if_pos h]
theorem decL_more {n : Nat} (h : ¬ n < 10) : decL n = decL (n / 10) ++ [fig (n % 10)] := by rw [decL, if_neg h]
theorem decA_small {n : Nat} (h : n < 10) : decA n = ⟨#[fig n]⟩ := by unfold decA; rw [decL_small h]
theorem decA_more {n : Nat} (h : ¬ n < 10) : decA n = decA (n / 10) ++ ⟨#[fig (n % 10)]⟩ := by
  unfold decA; rw [decL_more h]
  apply ByteArray.ext
  simp [ByteArray.data_append]
theorem decL_len : ∀ (f n : Nat), n < 10 ^ f → (decL n).length ≤ f + 1
  | 0, n, h => by rw [decL_small (by omega)]; simp
  | f + 1, n, h => by
    by_cases hn : n < 10
    · rw [decL_small hn]; simp
    · rw [decL_more hn]
      have := decL_len f (n / 10) (by rw [Nat.pow_succ] at h; omega)
      simp; omega
theorem decA_size {n : Nat} (h : n < 10 ^ 18) : (decA n).size ≤ 19 := by
  have := decL_len 18 n h
  simpa [decA, ByteArray.size] using this

theorem drew_below0 {B : Nat} (w : World) : Below B w w.drew := ⟨rfl, rfl, rfl, Nat.le_refl _, fun _ _ => rfl⟩
theorem conv_byte (W : World) (g n : Nat) (hn : n < 10) (h : W.cell? ⟨g, 0, none⟩ = some (.int .u8 (48 + (n : Int)))) : Sem.run Tryz.prog (convert 22 9 (.slice (some ⟨g, 0, none⟩) 1 1)) W = .ok (.string ⟨#[fig n]⟩) W := by
  refine run_convert_bytes_back (P := Tryz.prog) _ 22 9 5 ⟨g, 0, none⟩ 1 [fig n] (by kernel_rfl) (by kernel_rfl) (by kernel_rfl) (fun j hj => ?_)
  have : j = 0 := by simpa using hj
  subst this
  simp [Addr.add, h, fig, UInt8.toNat_ofNat']
  omega

set_option maxRecDepth 100000 in
set_option maxHeartbeats 2000000 in
theorem l1Dec_any : ∀ (f n : Nat) (w : World), n < 10 ^ f → f ≤ 18 →
    Calls Tryz.prog 58 #[.int .i64 (n : Int)] w fun x w' => x = .returned (.string (decA n)) ∧ Below w.heap.size w w' := by
  intro f
  induction f with
  | zero =>
    intro n w hn _
    have : n = 0 := by omega
    subst this
    have hcv := conv_byte (w.alloc (.cells #[.int .u8 48] 5)) w.heap.size 0 (by omega) (by simp [go_sem])
    have E := hid (decA_small (n := 0) (by omega))
    go_enter Tryz.func58, Tryz.ntmps58
    go_wp2_with fail
    go_ret
    exact ⟨by rw [unhid E]; rfl, (Below.refl _ w).alloc (Nat.le_refl _) _⟩
  | succ f ih =>
    intro n w hn hf
    have hbig : n < 1000000000000000000 := Nat.lt_of_lt_of_le hn (Nat.pow_le_pow_right (by omega) hf)
    by_cases h10 : n < 10
    · have hcv := conv_byte (w.alloc (.cells #[.int .u8 (48 + (n : Int))] 5)) w.heap.size n h10 (by simp [go_sem])
      have E := hid (decA_small h10)
      go_enter Tryz.func58, Tryz.ntmps58
      go_wp2_with fail
      go_ret
      exact ⟨by rw [unhid E]; rfl, (Below.refl _ w).alloc (Nat.le_refl _) _⟩
    · have E := hid (decA_more h10)
      have IH := hid (fun W => ih (n / 10) W (by rw [Nat.pow_succ] at hn; omega) (by omega))
      have hsz : (decA (n / 10)).size ≤ 19 := decA_size (by omega)
      have q1 : ((n : Int) / 10) = ((n / 10 : Nat) : Int) := by omega
      have q2 : ((n : Int) % 10) = ((n % 10 : Nat) : Int) := by omega
      have hd : n % 10 < 10 := by omega
      have hm : n / 10 < 1000000000000000000 := by omega
      generalize decA (n / 10) = y at *
      generalize n / 10 = m at *
      generalize n % 10 = d at *
      clear ih hn
      go_enter Tryz.func58, Tryz.ntmps58
      go_wp2_with fail
      have t1 : ((n : Int)).tmod 10 = (d : Int) := by rw [Int.tmod_eq_emod_of_nonneg (by omega)]; exact q2
      have v1 : IntKind.i64.wrap (m : Int) = (m : Int) := by simp [IntKind.wrap, IntKind.signed, IntKind.bits]; omega
      have v2 : IntKind.i64.wrap (48 + (d : Int)) = 48 + (d : Int) := by simp [IntKind.wrap, IntKind.signed, IntKind.bits]; omega
      have v3 : IntKind.u8.wrap (48 + (d : Int)) = 48 + (d : Int) := by simp [IntKind.wrap, IntKind.signed, IntKind.bits]; omega
      have hsz2 : y.size ≤ 9223372036854775806 := by omega
      have hz1 : (⟨#[fig d]⟩ : ByteArray).size = 1 := rfl
      refine wp_region_held_drew (S := fun w' => Below w.heap.size w w') (by kernel_rfl) (drew_below0 _) (fun hS => ?_)
      refine wpAnyH_take (i := 0) (v := .int .i64 (n : Int)) rfl (by kernel_rfl) (by kernel_rfl) (by kernel_rfl) (fun _ _ _ h => h) (Or.inl ⟨by rfl, fun w hw => by go_simp⟩) hS ?_
      refine wpAnyH_take (i := 1) (v := .int .i64 (m : Int)) rfl (by kernel_rfl) (by kernel_rfl) (by kernel_rfl) (fun _ _ _ h => h) (Or.inl ⟨by rfl, fun w hw => by go_simp⟩) hS ?_
      refine wpAnyH_take (i := 3) (v := .int .i64 (n : Int)) rfl (by kernel_rfl) (by kernel_rfl) (by kernel_rfl) (fun _ _ _ h => h) (Or.inl ⟨by rfl, fun w hw => by go_simp⟩) hS ?_
      refine wpAnyH_take (i := 4) (v := .int .i64 (d : Int)) rfl (by kernel_rfl) (by kernel_rfl) (by kernel_rfl) (fun _ _ _ h => h) (Or.inl ⟨by rfl, fun w hw => by go_simp⟩) hS ?_
      refine wpAnyH_take (i := 5) (v := .int .i64 (48 + (d : Int))) rfl (by kernel_rfl) (by kernel_rfl) (by kernel_rfl) (fun _ _ _ h => h) (Or.inl ⟨by rfl, fun w hw => by go_simp⟩) hS ?_
      refine wpAnyH_take (i := 6) (v := .int .u8 (48 + (d : Int))) rfl (by kernel_rfl) (by kernel_rfl) (by kernel_rfl) (fun _ _ _ h => h) (Or.inl ⟨by rfl, fun w hw => by go_simp⟩) hS ?_
      generalize w.drew = W at hS ⊢
      refine wpAnyH_ready (rs := [2, 7]) (by kernel_rfl) (by simp) ?_
      refine AllReadyH.cons rfl (fun K hK => ?_) (AllReadyH.cons rfl (fun K hK => ?_) AllReadyH.nil)
      · go_simp
        refine (unhid IH W).mono ?_
        rintro x W1 ⟨rfl, hB⟩
        have hS1 := hS.trans (hB.mono hS.size)
        refine hK.out _ _ hS1 (fun _ => ?_)
        clear hK K hS hB
        have hS := hS1
        clear hS1
        refine wpAnyH_ready (rs := [7]) (by kernel_rfl) (by simp) ?_
        refine AllReadyH.cons rfl (fun K hK => ?_) AllReadyH.nil
        go_simp
        have hcell : (W1.alloc (.cells #[.int .u8 (48 + (d : Int))] 5)).cell? ⟨W1.heap.size, 0, none⟩ = some (.int .u8 (48 + (d : Int))) := by simp [go_sem]
        have hg : W1.heap.size < (W1.alloc (.cells #[.int .u8 (48 + (d : Int))] 5)).heap.size := by simp
        have hS1 := hS.alloc hS.size (.cells #[.int .u8 (48 + (d : Int))] 5)
        refine hK.out _ _ hS1 (fun _ => ?_)
        clear hK K hS
        generalize W1.alloc (.cells #[.int .u8 (48 + (d : Int))] 5) = W2 at hS1 hcell hg ⊢
        generalize W1.heap.size = g at hcell hg ⊢
        have hS := hS1
        clear hS1
        refine wpAnyH_ready (rs := [8]) (by kernel_rfl) (by simp) ?_
        refine AllReadyH.cons rfl (fun K hK => ?_) AllReadyH.nil
        have hcv := conv_byte W2 g d hd hcell
        go_simp
        refine hK.out _ _ hS (fun _ => ?_)
        clear hK K hcv
        refine wpAnyH_take (i := 9) (v := .string (y ++ ⟨#[fig d]⟩)) rfl (by kernel_rfl) (by kernel_rfl) (by kernel_rfl) (fun _ _ _ h => h) (Or.inl ⟨by rfl, fun w hw => by go_simp⟩) hS ?_
        refine wpAnyH_take (i := 10) (v := .string (y ++ ⟨#[fig d]⟩)) rfl (by kernel_rfl) (by kernel_rfl) (by kernel_rfl) (fun _ _ _ h => h) (Or.inl ⟨by rfl, fun w hw => by go_simp⟩) hS ?_
        refine wpAnyH_done (by kernel_rfl) ?_ _
        go_wp2_with fail
        go_ret
        exact ⟨by rw [unhid E]; rfl, hS⟩
      · go_simp
        have hcell : (W.alloc (.cells #[.int .u8 (48 + (d : Int))] 5)).cell? ⟨W.heap.size, 0, none⟩ = some (.int .u8 (48 + (d : Int))) := by simp [go_sem]
        have hg : W.heap.size < (W.alloc (.cells #[.int .u8 (48 + (d : Int))] 5)).heap.size := by simp
        have hS1 := hS.alloc hS.size (.cells #[.int .u8 (48 + (d : Int))] 5)
        refine hK.out _ _ hS1 (fun _ => ?_)
        clear hK K hS
        generalize W.alloc (.cells #[.int .u8 (48 + (d : Int))] 5) = W1 at hS1 hcell hg ⊢
        generalize W.heap.size = g at hcell hg ⊢
        have hS := hS1
        clear hS1
        refine wpAnyH_ready (rs := [2, 8]) (by kernel_rfl) (by simp) ?_
        refine AllReadyH.cons rfl (fun K hK => ?_) (AllReadyH.cons rfl (fun K hK => ?_) AllReadyH.nil)
        · go_simp
          refine (unhid IH W1).mono ?_
          rintro x W2 ⟨rfl, hB⟩
          have hS1 := hS.trans (hB.mono hS.size)
          have hcell1 := (hB.cell (p := ⟨g, 0, none⟩) hg).trans hcell
          have hg1 := Nat.lt_of_lt_of_le hg hB.size
          refine hK.out _ _ hS1 (fun _ => ?_)
          clear hK K hS hB
          have hS := hS1
          clear hS1
          clear hcell hg
          have hcell := hcell1
          have hg := hg1
          clear hcell1 hg1
          refine wpAnyH_ready (rs := [8]) (by kernel_rfl) (by simp) ?_
          refine AllReadyH.cons rfl (fun K hK => ?_) AllReadyH.nil
          have hcv := conv_byte W2 g d hd hcell
          go_simp
          refine hK.out _ _ hS (fun _ => ?_)
          clear hK K hcv
          refine wpAnyH_take (i := 9) (v := .string (y ++ ⟨#[fig d]⟩)) rfl (by kernel_rfl) (by kernel_rfl) (by kernel_rfl) (fun _ _ _ h => h) (Or.inl ⟨by rfl, fun w hw => by go_simp⟩) hS ?_
          refine wpAnyH_take (i := 10) (v := .string (y ++ ⟨#[fig d]⟩)) rfl (by kernel_rfl) (by kernel_rfl) (by kernel_rfl) (fun _ _ _ h => h) (Or.inl ⟨by rfl, fun w hw => by go_simp⟩) hS ?_
          refine wpAnyH_done (by kernel_rfl) ?_ _
          go_wp2_with fail
          go_ret
          exact ⟨by rw [unhid E]; rfl, hS⟩
        · have hcv := conv_byte W1 g d hd hcell
          go_simp
          refine hK.out _ _ hS (fun _ => ?_)
          clear hK K hcv
          refine wpAnyH_ready (rs := [2]) (by kernel_rfl) (by simp) ?_
          refine AllReadyH.cons rfl (fun K hK => ?_) AllReadyH.nil
          go_simp
          refine (unhid IH W1).mono ?_
          rintro x W2 ⟨rfl, hB⟩
          have hS1 := hS.trans (hB.mono hS.size)
          refine hK.out _ _ hS1 (fun _ => ?_)
          clear hK K hS hB
          have hS := hS1
          clear hS1
          refine wpAnyH_take (i := 9) (v := .string (y ++ ⟨#[fig d]⟩)) rfl (by kernel_rfl) (by kernel_rfl) (by kernel_rfl) (fun _ _ _ h => h) (Or.inl ⟨by rfl, fun w hw => by go_simp⟩) hS ?_
          refine wpAnyH_take (i := 10) (v := .string (y ++ ⟨#[fig d]⟩)) rfl (by kernel_rfl) (by kernel_rfl) (by kernel_rfl) (fun _ _ _ h => h) (Or.inl ⟨by rfl, fun w hw => by go_simp⟩) hS ?_
          refine wpAnyH_done (by kernel_rfl) ?_ _
          go_wp2_with fail
          go_ret
          exact ⟨by rw [unhid E]; rfl, hS⟩
end Go.Proofs.YtfphpggjcljliaaGreat

/- Entries put into a tree one behind the other: in order, each path once. -/
namespace Go.Proofs.YtfphpggjcljliaaGreat
open Go.RowKit Go.Shelf

def Up (es : List Ent) : Prop := es.Pairwise fun x y => ltS x.path y.path = true
theorem up_asc {es : List Ent} (h : Up es) : Asc (pathsOf es) := by
  intro i j x y hij hi hj
  unfold pathsOf at hi hj
  rw [List.getElem?_map] at hi hj
  obtain ⟨a, ha, rfl⟩ := Option.map_eq_some_iff.1 hi
  obtain ⟨b, hb, rfl⟩ := Option.map_eq_some_iff.1 hj
  obtain ⟨hia, rfl⟩ := List.getElem?_eq_some_iff.1 ha
  obtain ⟨hjb, rfl⟩ := List.getElem?_eq_some_iff.1 hb
  exact List.pairwise_iff_getElem.1 h i j hia hjb hij
theorem asc_up {es : List Ent} (h : Asc (pathsOf es)) : Up es := by
  refine List.pairwise_iff_getElem.2 (fun i j hi hj hij => ?_)
  exact h i j _ _ hij (by simp [pathsOf, hi]) (by simp [pathsOf, hj])
theorem place_split (es : List Ent) (p : ByteArray) : (∀ x ∈ es.take (placeE es p), ltS x.path p = true) ∧ (∀ x, es[placeE es p]? = some x → ltS x.path p = false) := by
  refine ⟨fun x hx => ?_, fun x hx => ?_⟩
  · obtain ⟨i, hi⟩ := List.getElem?_of_mem hx
    rw [List.getElem?_take] at hi
    split at hi
    · rename_i hlt; exact place_lt hlt hi
    · cases hi
  · unfold placeE at hx
    induction es with
    | nil => simp at hx
    | cons e es ih =>
      rw [List.takeWhile_cons] at hx
      cases he : ltS e.path p
      · rw [he] at hx; simp at hx; subst hx; exact he
      · rw [he] at hx; simp at hx; exact ih hx
theorem lt_trans' {a b c : ByteArray} (h1 : ltS a b = true) (h2 : ltS b c = true) : ltS a c = true := lt_tra _ _ _ h1 h2
theorem lt_tot' {a b : ByteArray} (h1 : ltS a b = false) (h2 : eqS a b = false) : ltS b a = true := by
  cases h : ltS b a
  · have e := lt_tot _ _ h1 h
    rw [show eqS a b = true by unfold eqS; rw [e]; simp] at h2; cases h2
  · rfl
theorem insAt_up {es : List Ent} {e : Ent} (h : Up es) (ht : thereE es e.path = false) : Up (insAt es e) := by
  obtain ⟨h1, h2⟩ := place_split es e.path
  have hd : ∀ x ∈ es.drop (placeE es e.path), ltS e.path x.path = true := by
    unfold thereE at ht
    intro x hx
    cases hf : es[placeE es e.path]? with
    | none =>
      rw [List.drop_eq_nil_of_le (by simpa using hf)] at hx; simp at hx
    | some y =>
      rw [hf] at ht
      have hy : ltS e.path y.path = true := lt_tot' (h2 y hf) (by simpa using ht)
      obtain ⟨hk, rfl⟩ := List.getElem?_eq_some_iff.1 hf
      rw [List.drop_eq_getElem_cons hk] at hx
      rcases List.mem_cons.1 hx with rfl | hx
      · exact hy
      · refine lt_trans' hy ?_
        obtain ⟨j, hj⟩ := List.getElem?_of_mem hx
        rw [List.getElem?_drop] at hj
        obtain ⟨hjl, rfl⟩ := List.getElem?_eq_some_iff.1 hj
        exact List.pairwise_iff_getElem.1 h _ _ hk hjl (by omega)
  have hs : Up (es.take (placeE es e.path) ++ es.drop (placeE es e.path)) := by rw [List.take_append_drop]; exact h
  unfold Up at hs
  rw [List.pairwise_append] at hs
  unfold insAt Up
  rw [List.append_assoc, List.pairwise_append]
  refine ⟨hs.1, ?_, ?_⟩
  · rw [List.singleton_append, List.pairwise_cons]
    exact ⟨hd, hs.2.1⟩
  · intro x hx y hy
    rw [List.singleton_append, List.mem_cons] at hy
    rcases hy with rfl | hy
    · exact h1 x hx
    · exact hs.2.2 x hx y hy
theorem set_paths {es : List Ent} {e : Ent} (ht : thereE es e.path = true) : pathsOf (es.set (placeE es e.path) e) = pathsOf es := by
  obtain ⟨old, hj, hpo⟩ := there_get ht
  unfold pathsOf
  rw [List.map_set]
  apply List.ext_getElem?
  intro i
  rw [List.getElem?_set]
  split
  · rename_i hi
    subst hi
    rw [if_pos (by simpa using (List.getElem?_eq_some_iff.1 hj).1), List.getElem?_map, hj, Option.map_some, hpo]
  · rfl
theorem putT_up {es : List Ent} {e : Ent} (h : Up es) : Up (putT es e) := by
  unfold putT
  cases ht : thereE es e.path
  · exact insAt_up h ht
  · refine asc_up ?_
    rw [if_pos rfl, set_paths ht]
    exact up_asc h
theorem putT_end {es : List Ent} {e : Ent} (h : ∀ x ∈ es, ltS x.path e.path = true) : putT es e = es ++ [e] := by
  have hp : placeE es e.path = es.length := by
    refine place_of es e.path es.length (Nat.le_refl _) (fun i x _ hi => h x (List.mem_of_getElem? hi)) (fun x hx => ?_)
    rw [List.getElem?_eq_none (Nat.le_refl _)] at hx; cases hx
  unfold putT insAt thereE
  rw [hp, List.getElem?_eq_none (Nat.le_refl _)]
  simp
def putAll (xs : List Ent) : List Ent := xs.foldl putT []
theorem putAll_snoc (xs : List Ent) (x : Ent) : putAll (xs ++ [x]) = putT (putAll xs) x := by unfold putAll; rw [List.foldl_append]; rfl
theorem snoc_ind {α : Type} {P : List α → Prop} (h0 : P []) (h1 : ∀ xs x, P xs → P (xs ++ [x])) : ∀ xs, P xs := fun xs => by
  have : ∀ ys : List α, P ys.reverse := fun ys => by
    induction ys with
    | nil => exact h0
    | cons y ys ih => rw [List.reverse_cons]; exact h1 _ _ ih
  have h := this xs.reverse
  rwa [List.reverse_reverse] at h
theorem putAll_up : ∀ xs, Up (putAll xs) := snoc_ind List.Pairwise.nil (fun xs x ih => by rw [putAll_snoc]; exact putT_up ih)
theorem putT_len (es : List Ent) (e : Ent) : (putT es e).length ≤ es.length + 1 := by
  unfold putT insAt
  split
  · simp
  · have := placeE_le es e.path; simp; omega
theorem putT_mem {es : List Ent} {e x : Ent} (hx : x ∈ putT es e) : x ∈ es ∨ x = e := by
  unfold putT insAt at hx
  split at hx
  · exact List.mem_or_eq_of_mem_set hx
  · simp only [List.mem_append, List.mem_singleton] at hx
    rcases hx with (h | h) | h
    · exact .inl (List.mem_of_mem_take h)
    · exact .inr h
    · exact .inl (List.mem_of_mem_drop h)
theorem putAll_len : ∀ xs, (putAll xs).length ≤ xs.length := snoc_ind (Nat.le_refl _) (fun xs x ih => by
  rw [putAll_snoc]
  have := putT_len (putAll xs) x
  simp; omega)
theorem putAll_mem : ∀ xs x, x ∈ putAll xs → x ∈ xs := snoc_ind (fun x h => h) (fun xs x ih y hy => by
  rw [putAll_snoc] at hy
  rcases putT_mem hy with h | h
  · exact List.mem_append_left _ (ih y h)
  · subst h; simp)
theorem putAll_self : ∀ xs, Up xs → putAll xs = xs := snoc_ind (fun _ => rfl) (fun xs x ih h => by
  unfold Up at h
  rw [List.pairwise_append] at h
  rw [putAll_snoc, ih h.1]
  exact putT_end (fun y hy => h.2.2 y hy x (by simp)))
end Go.Proofs.YtfphpggjcljliaaGreat

/- What the draw of a tree gives: at most sixteen entries of drawn paths and short texts, in a row of their own. -/
namespace Go.Proofs.YtfphpggjcljliaaGreat
open Go.RowKit

/-- A row of entries that is not nil, behind a bound. -/
def TreeV (W : World) (N : Nat) (v : Value) (es : List Ent) : Prop := ∃ g c, v = .slice (some ⟨g, 0, none⟩) es.length c ∧ W.ownsRow N 30 4 v es.length (valsOf es)
theorem treeV_of {W : World} {N : Nat} {v : Value} {es : List Ent} (h : W.ownsRow N 30 4 v es.length (valsOf es)) (hs : SomeV v) : TreeV W N v es := by
  rcases h.2 with ⟨rfl, h0⟩ | ⟨g, cap, cur, rfl, _⟩
  · obtain ⟨ad, n, c, hc⟩ := hs; cases hc
  · exact ⟨g, cap, rfl, h⟩
theorem TreeV.ents {W : World} {N g c : Nat} {es : List Ent} (h : W.ownsRow N 30 4 (.slice (some ⟨g, 0, none⟩) es.length c) es.length (valsOf es)) : (∀ (i : Nat) e, es[i]? = some e → EntAt W g (0 + i * 4) e) ∧ g < W.heap.size ∧ N ≤ g ∧ es.length ≤ c := by
  have hl := h.lt g rfl
  have hc : es.length ≤ c := by
    rcases h.2 with ⟨hv, _⟩ | ⟨g', cap, cur, hv, _, _, hc, _⟩
    · cases hv
    · cases hv; exact hc
  obtain ⟨a, cap, hv, hr⟩ := rowIn_of_owns h
  cases hv
  refine ⟨fun i e hi => ?_, hl.2, hl.1, hc⟩
  rcases hr with rfl | ⟨g', hg, _, _, hR⟩
  · simp at hi
  · cases hg
    have := (hR.cells i (List.getElem?_eq_some_iff.1 hi).1).1
    rw [entFn_get hi] at this
    rwa [Nat.zero_add]
theorem TreeV.kept {W W' : World} {N : Nat} {v : Value} {es : List Ent} (h : TreeV W N v es) (hk : ∀ k, N ≤ k → k < W.heap.size → W'.heap[k]? = W.heap[k]?) : TreeV W' N v es := by
  obtain ⟨g, c, hv, ho⟩ := h
  exact ⟨g, c, hv, ownsRow_kept ho (fun g eg => hk g (ho.lt g eg).1 (ho.lt g eg).2)⟩
theorem TreeV.below {W W' : World} {N : Nat} {v : Value} {es : List Ent} (h : TreeV W N v es) (hb : Below W.heap.size W W') : TreeV W' N v es := h.kept (fun k _ hk => hb.block k hk)
theorem TreeV.grown {W W' : World} {N b : Nat} {v : Value} {es : List Ent} (h : TreeV W N v es) (hb : W.grownBy W' (some b)) (hlt : b < N) : TreeV W' N v es := h.kept (fun k h1 hk => hb.block k hk (fun e => by injection e; omega))
theorem TreeV.base {W : World} {N N' : Nat} {v : Value} {es : List Ent} (h : TreeV W N v es) (hN : N' ≤ N) : TreeV W N' v es := by
  obtain ⟨g, c, hv, ho⟩ := h
  exact ⟨g, c, hv, ownsRow_base ho hN⟩
theorem putL_16 {es : List Ent} {e : Ent} (h : es.length ≤ 16) : (putL es e).length ≤ 16 := by
  cases hk : okPut es e
  · rw [putL_no hk]; exact h
  · cases ht : thereE es e.path
    · rw [putL_ins hk ht]
      unfold okPut at hk
      rw [ht] at hk
      simp only [Bool.and_eq_true] at hk
      have h1 := hk.2.2
      simp at h1
      have h2 := placeE_le es e.path
      unfold insAt
      simp; omega
    · rw [putL_set hk ht]; simpa using h
theorem putL_mem {es : List Ent} {e x : Ent} (hx : x ∈ putL es e) : x ∈ es ∨ x = e := by
  unfold putL at hx
  split at hx
  · exact putT_mem hx
  · exact .inl hx
theorem grown_of_below' {W w1 : World} (h : Below W.heap.size W w1) (r : Option Nat) : W.grownBy w1 r := ⟨h.os, h.tape, h.output, h.size, fun k hk _ => h.block k hk⟩
theorem grown_lift {x y z : World} {b : Nat} (h : x.grownBy y (some b)) (hb : Below y.heap.size y z) : x.grownBy z (some b) := grown_trans h (grown_of_below' hb _)

/-- What holds while a tree is drawn. -/
structure TS (w : World) (b : Nat) (a : Option Addr) (len cap p : Nat) (W : World) (v : Value) (es : List Ent) : Prop where
  v : TreeV W w.heap.size v es
  nice : ∀ e ∈ es, niceE e
  few : es.length ≤ 16
  rd : ∃ p', p' ≤ p ∧ Rd W b a len cap p'
  grown : w.grownBy W (some b)
theorem TS.put {w : World} {b : Nat} {a : Option Addr} {len cap p : Nat} {W W' : World} {v v' : Value} {es : List Ent} {e : Ent} (h : TS w b a len cap p W v es) (he : niceE e) (ho : W'.ownsRow W.heap.size 30 4 v' (putL es e).length (valsOf (putL es e))) (hb : Below W.heap.size W W') (hs : SomeV v') : TS w b a len cap p W' v' (putL es e) := by
  refine ⟨treeV_of (ownsRow_base ho h.grown.size) hs, fun x hx => ?_, putL_16 h.few, ?_, grown_lift h.grown hb⟩
  · rcases putL_mem hx with hx | rfl
    · exact h.nice x hx
    · exact he
  · obtain ⟨p', h1, h2⟩ := h.rd
    exact ⟨p', h1, h2.of_below hb⟩
theorem TS.read {w : World} {b : Nat} {a : Option Addr} {len cap p q : Nat} {W W' : World} {v : Value} {es : List Ent} (h : TS w b a len cap p W v es) (hlt : b < w.heap.size) (hg : W.grownBy W' (some b)) (hr : ∃ p', p' ≤ q ∧ Rd W' b a len cap p') : TS w b a len cap q W' v es :=
  ⟨h.v.grown hg hlt, h.nice, h.few, hr, grown_trans h.grown hg⟩
theorem TS.more {w : World} {b : Nat} {a : Option Addr} {len cap p q : Nat} {W : World} {v : Value} {es : List Ent} (h : TS w b a len cap p W v es) (hq : p ≤ q) : TS w b a len cap q W v es :=
  ⟨h.v, h.nice, h.few, by obtain ⟨p', h1, h2⟩ := h.rd; exact ⟨p', by omega, h2⟩, h.grown⟩
theorem TS.below {w : World} {b : Nat} {a : Option Addr} {len cap p : Nat} {W W' : World} {v : Value} {es : List Ent} (h : TS w b a len cap p W v es) (hb : Below W.heap.size W W') : TS w b a len cap p W' v es :=
  ⟨h.v.below hb, h.nice, h.few, by obtain ⟨p', h1, h2⟩ := h.rd; exact ⟨p', h1, h2.of_below hb⟩, grown_lift h.grown hb⟩
/-- The dirs that are tried. -/
def dirsC : Array Value := #[.string ⟨#[97]⟩, .string ⟨#[108, 105, 98]⟩, .string ⟨#[98, 105, 110]⟩, .string ⟨#[100, 111, 99]⟩, .string ⟨#[97, 47, 98]⟩]
def DirsAt (W : World) (D : Nat) : Prop := W.heap[D]? = some (.cells dirsC 9 (0, 0))
theorem DirsAt.cell {W : World} {D : Nat} (h : DirsAt W D) (k : Nat) (hk : k < 5) : ∃ x, nice x ∧ W.cell? ⟨D, k, none⟩ = some (.string x) := by
  have h1 : W.cell? ⟨D, k, none⟩ = dirsC[k]? := by unfold World.cell?; rw [h]; simp
  rw [h1]
  rcases (by omega : k = 0 ∨ k = 1 ∨ k = 2 ∨ k = 3 ∨ k = 4) with rfl | rfl | rfl | rfl | rfl
  · exact ⟨⟨#[97]⟩, by unfold nice; decide, rfl⟩
  · exact ⟨⟨#[108, 105, 98]⟩, by unfold nice; decide, rfl⟩
  · exact ⟨⟨#[98, 105, 110]⟩, by unfold nice; decide, rfl⟩
  · exact ⟨⟨#[100, 111, 99]⟩, by unfold nice; decide, rfl⟩
  · exact ⟨⟨#[97, 47, 98]⟩, by unfold nice; decide, rfl⟩
theorem fdec_nice {n : Nat} (h : n < 1000) : nice (⟨#[102]⟩ ++ decA n) := by
  have hd : (⟨#[102]⟩ ++ decA n : ByteArray).data.toList = 102 :: decL n := by rw [ByteArray.data_append]; simp [decA]
  have hl := decL_len 3 n (by omega)
  have hh : ∀ c, (decL n).head? = some c → c ≠ 114 := by
    clear hd hl
    intro c hc
    have : ∀ m, m < 1000 → ∀ c, (decL m).head? = some c → c.toNat ≤ 57 := by
      intro m
      induction m using Nat.strongRecOn with
      | ind m ih =>
        intro hm c hc
        by_cases h10 : m < 10
        · rw [decL_small h10] at hc
          simp at hc
          subst hc
          unfold fig
          simp
          omega
        · rw [decL_more h10] at hc
          have hne : decL (m / 10) ≠ [] := by
            intro e
            by_cases h2 : m / 10 < 10
            · rw [decL_small h2] at e; cases e
            · rw [decL_more h2] at e; simp at e
          obtain ⟨y, ys, hy⟩ := List.exists_cons_of_ne_nil hne
          rw [hy] at hc
          exact ih (m / 10) (by omega) (by omega) c (by rw [hy]; simpa using hc)
    intro e
    have := this n h c hc
    rw [e] at this
    revert this
    decide
  unfold nice niceB
  rw [hd]
  have h3 : ((102 :: decL n).take 2 != [102, 114]) = true := by
    rw [bne_iff_ne]
    intro e
    cases hx : decL n with
    | nil => rw [hx] at e; simp at e
    | cons y ys => rw [hx] at e; simp at e; exact hh y (by rw [hx]; rfl) e
  have h4 : ((102 :: decL n).take 2 != [110, 101]) = true := by
    rw [bne_iff_ne]
    intro e
    cases hx : decL n with
    | nil => rw [hx] at e; simp at e
    | cons y ys => rw [hx] at e; simp at e
  rw [h3, h4]
  simp; omega

set_option maxRecDepth 100000 in
set_option maxHeartbeats 8000000 in
theorem l11Tree_any (w : World) (b : Nat) (a : Option Addr) (len cap p : Nat) (h : Rd w b a len cap p) (hp : p ≤ 800000) :
    Calls Tryz.prog 31 #[.pointer (some ⟨b, 0, none⟩)] w fun x w' => ∃ v, x = .returned v ∧ ∃ es, TS w b a len cap (p + 50) w' v es := by
  have hbl := h.lt
  have T0 : TS w b a len cap p (w.alloc (.cells #[] 30)) (.slice (some ⟨w.heap.size, 0, none⟩) 0 0) [] :=
    ⟨⟨w.heap.size, 0, rfl, owns_empty w _ (Nat.le_refl _) _⟩, (fun e he => by cases he), (by simp), ⟨p, Nat.le_refl _, h.alloc _⟩, World.grownBy_alloc w _ _⟩
  have T1 := T0.below ((Below.refl _ _).alloc (Nat.le_refl _) (.cells dirsC 9))
  have D1 : DirsAt ((w.alloc (.cells #[] 30)).alloc (.cells dirsC 9)) (w.heap.size + 1) := by
    have := World.alloc_heap_new (w.alloc (.cells #[] 30)) (.cells dirsC 9)
    rw [World.size_alloc] at this
    exact this
  have hT := hid (And.intro T1 D1)
  clear T0 T1 D1 h
  unfold dirsC at hT
  go_enter Tryz.func31, Tryz.ntmps31
  go_wp2_with fail
  go_loopw [3, 5] (fun v' i wr => ∃ (k : Nat) (es : List Ent) (v : Value), v = v' ∧ k ≤ 5 ∧ i = .int .i64 k ∧ Hid (TS w b a len cap (p + k) wr v es ∧ DirsAt wr (w.heap.size + 1) ∧ w.heap.size + 1 < wr.heap.size)) (fun _ i _ => 5 - (intOf i).toNat)
  case atStart => exact ⟨0, [], _, rfl, by omega, rfl, hid ⟨(unhid hT).1, (unhid hT).2, by simp⟩⟩
  case round =>
    obtain ⟨k, es, v, rfl, hk, rfl, HT⟩ := hrel
    clear hT
    by_cases hlt : (k : Int) < 5
    · go_wp2_with fail
      obtain ⟨q, hq, hR⟩ := (unhid HT).1.rd
      refine (pick_any wr b a len cap q hR (by omega) 2 (by omega) (by omega)).mono ?_
      rintro e w1 ⟨r, hr, rfl, hR1, hG1⟩
      have D1 := (hG1.block (w.heap.size + 1) (unhid HT).2.2 (by intro e; injection e; omega)).trans (unhid HT).2.1
      have HT1 := hid (show TS w b a len cap (p + (k + 1)) w1 v es ∧ DirsAt w1 (w.heap.size + 1) ∧ w.heap.size + 1 < w1.heap.size from ⟨(unhid HT).1.read hbl hG1 ⟨q + 1, by omega, hR1⟩, D1, Nat.lt_of_lt_of_le (unhid HT).2.2 hG1.size⟩)
      clear hR hR1 hG1 HT D1 hq
      by_cases h0 : r = 0
      · subst h0
        obtain ⟨x, hx, hcx⟩ := (unhid HT1).2.1.cell k (by omega)
        obtain ⟨g, c, rfl, ho⟩ := (unhid HT1).1.v
        obtain ⟨e1, e2, e3, e4⟩ := TreeV.ents ho
        have PUT := hid (l2Put_full es ⟨x, 1, 7, ⟨#[]⟩⟩ g 0 c w1 (unhid HT1).1.few e4 (by have := nice_short hx; dsimp only; omega) (by show (0 : Nat) ≤ 1048576; omega) e1 e2)
        clear ho e1 e2 e3 e4
        go_wp2_with fail
        refine (unhid PUT).mono ?_
        rintro x2 w2 ⟨v2, rfl, ho2, hb2, hs2⟩
        have HT2 := hid (show TS w b a len cap (p + (k + 1)) w2 v2 (putL es ⟨x, 1, 7, ⟨#[]⟩⟩) ∧ DirsAt w2 (w.heap.size + 1) ∧ w.heap.size + 1 < w2.heap.size from ⟨(unhid HT1).1.put ⟨hx, (by unfold short; decide : short ⟨#[]⟩)⟩ ho2 hb2 hs2, (hb2.block _ (unhid HT1).2.2).trans (unhid HT1).2.1, Nat.lt_of_lt_of_le (unhid HT1).2.2 hb2.size⟩)
        clear PUT ho2 hb2 hs2 HT1
        go_wp2_with fail
        go_roundw
        case rel => exact ⟨k + 1, _, _, rfl, by omega, by go_num, HT2⟩
        case measure => simp [intOf]; omega
      · have h0' : ((r : Int) == 0) = false := by rw [beq_eq_false_iff_ne]; omega
        go_wp2_with fail
        go_roundw
        case rel => exact ⟨k + 1, _, _, rfl, by omega, by go_num, HT1⟩
        case measure => simp [intOf]; omega
    · have k5 : k = 5 := by omega
      subst k5
      have HT0 := hid (unhid HT).1
      clear HT
      go_wp2_with fail
      obtain ⟨q, hq, hR⟩ := (unhid HT0).rd
      refine (pick_any wr b a len cap q hR (by omega) 7 (by omega) (by omega)).mono ?_
      rintro e w1 ⟨r, hr, rfl, hR1, hG1⟩
      have HT1 := hid (show TS w b a len cap (p + 6 + 4 * (7 - r)) w1 v es from (unhid HT0).read hbl hG1 ⟨q + 1, by omega, hR1⟩)
      clear hR hR1 hG1 HT0 hq q
      go_wp2_with fail
      go_loopw [3, 6] (fun v' i wr => ∃ (k : Nat) (es : List Ent) (v : Value), v = v' ∧ k ≤ 7 ∧ i = .int .i64 k ∧ Hid (TS w b a len cap (p + 6 + 4 * (7 - k)) wr v es)) (fun _ i _ => (intOf i).toNat)
      case atStart => exact ⟨r, es, _, rfl, by omega, rfl, HT1⟩
      case round =>
        obtain ⟨k, es, v, rfl, hk, rfl, HT⟩ := hrel
        clear HT1
        by_cases hlt : (0 : Int) < (k : Int)
        · go_wp2_with fail
          obtain ⟨q, hq, hR⟩ := (unhid HT).rd
          refine (l11Entry_any wr b a len cap q hR (by omega)).mono ?_
          rintro e w1 ⟨en, hen, rfl, ⟨q2, hq2, hR1⟩, hG1⟩
          have HT1 := hid ((unhid HT).read (q := p + 6 + 4 * (7 - (k - 1))) hbl hG1 ⟨q2, by omega, hR1⟩)
          clear hR hR1 hG1 HT hq hq2 q q2
          obtain ⟨g, c, rfl, ho⟩ := (unhid HT1).v
          obtain ⟨e1, e2, e3, e4⟩ := TreeV.ents ho
          have PUT := hid (l2Put_full es en g 0 c w1 (unhid HT1).few e4 (by have := nice_short hen.1; omega) (by have : en.text.size ≤ 100 := hen.2; omega) e1 e2)
          clear ho e1 e2 e3 e4
          unfold Ent.vals at PUT ⊢
          go_wp2_with fail
          refine (unhid PUT).mono ?_
          rintro x2 w2 ⟨v2, rfl, ho2, hb2, hs2⟩
          have HT2 := hid ((unhid HT1).put hen ho2 hb2 hs2)
          clear PUT ho2 hb2 hs2 HT1
          go_wp2_with fail
          go_roundw
          case rel => exact ⟨k - 1, _, _, rfl, by omega, by go_num, HT2⟩
          case measure => simp [intOf]; omega
        · have k0 : k = 0 := by omega
          subst k0
          have HT0 := HT
          clear HT
          go_wp2_with fail
          obtain ⟨q, hq, hR⟩ := (unhid HT0).rd
          refine (pick_any wr b a len cap q hR (by omega) 30 (by omega) (by omega)).mono ?_
          rintro e w1 ⟨r, hr, rfl, hR1, hG1⟩
          have HT1 := hid (show TS w b a len cap (p + 50) w1 v es from (unhid HT0).read hbl hG1 ⟨q + 1, by omega, hR1⟩)
          clear hR hR1 hG1 HT0 hq q
          by_cases h0 : r = 0
          · subst h0
            go_wp2_with fail
            go_loopw [3, 7] (fun v' i wr => ∃ (k : Nat) (es : List Ent) (v : Value), v = v' ∧ k ≤ 16 ∧ i = .int .i64 k ∧ Hid (TS w b a len cap (p + 50) wr v es)) (fun _ i _ => 16 - (intOf i).toNat)
            case atStart => exact ⟨0, es, _, rfl, by omega, rfl, HT1⟩
            case round =>
              obtain ⟨k, es, v, rfl, hk, rfl, HT⟩ := hrel
              clear HT1
              by_cases hlt : (k : Int) < 16
              · go_wp2_with fail
                refine (l1Dec_any 2 k wr (by omega) (by omega)).mono ?_
                rintro e w1 ⟨rfl, hb1⟩
                have HT1 := hid ((unhid HT).below hb1)
                clear hb1 HT
                have hnc : nice (⟨#[102]⟩ ++ decA k) := fdec_nice (by omega)
                have hsz := decA_size (n := k) (by omega)
                have hz2 := nice_short hnc
                obtain ⟨g, c, rfl, ho⟩ := (unhid HT1).v
                obtain ⟨e1, e2, e3, e4⟩ := TreeV.ents ho
                have PUT := hid (l2Put_full es ⟨⟨#[102]⟩ ++ decA k, 2, 0, ⟨#[]⟩⟩ g 0 c w1 (unhid HT1).few e4 (by dsimp only; omega) (by show (0 : Nat) ≤ 1048576; omega) e1 e2)
                clear ho e1 e2 e3 e4
                generalize decA k = y at *
                go_wp2_with fail
                refine (unhid PUT).mono ?_
                rintro x2 w2 ⟨v2, rfl, ho2, hb2, hs2⟩
                have HT2 := hid ((unhid HT1).put ⟨hnc, (by unfold short; decide : short ⟨#[]⟩)⟩ ho2 hb2 hs2)
                clear PUT ho2 hb2 hs2 HT1
                go_wp2_with fail
                go_roundw
                case rel => exact ⟨k + 1, _, _, rfl, by omega, by go_num, HT2⟩
                case measure => simp [intOf]; omega
              · go_wp2_with fail
                go_ret
                exact ⟨_, rfl, _, unhid HT⟩
          · have h0' : ((r : Int) == 0) = false := by rw [beq_eq_false_iff_ne]; omega
            go_wp2_with fail
            go_ret
            exact ⟨_, rfl, _, unhid HT1⟩
end Go.Proofs.YtfphpggjcljliaaGreat

/- An entry put into a tree: what the program answers, and its model. -/
namespace Go.Proofs.YtfphpggjcljliaaGreat
open Go.RowKit Go.Shelf

def putR (es : List Ent) (e : Ent) : List Ent := if treeB es then putL es e else []
def putOk (es : List Ent) (e : Ent) : Bool := treeB es && okPut es e
theorem tree_16 {es : List Ent} (h : treeB es = true) : es.length ≤ 16 := by
  have := (kept_asc es).2; rwa [keptE_yes h] at this
theorem tree_asc {es : List Ent} (h : treeB es = true) : Asc (pathsOf es) := by
  have := (kept_asc es).1; rwa [keptE_yes h] at this
theorem tree_all {es : List Ent} (h : treeB es = true) : ∀ x ∈ es, entB x = true := fun x hx => by
  obtain ⟨i, hi⟩ := List.getElem?_of_mem hx
  exact tree_ent h hi

theorem putL_len (es : List Ent) (e : Ent) : (putL es e).length ≤ es.length + 1 := by
  unfold putL
  split
  · exact putT_len es e
  · omega
theorem putL_all {es : List Ent} {e : Ent} (h : ∀ x ∈ es, entB x = true) : ∀ x ∈ putL es e, entB x = true := fun x hx => by
  unfold putL at hx
  cases hk : okPut es e
  · rw [hk] at hx; exact h x hx
  · rw [hk] at hx
    rcases putT_mem hx with h1 | h1
    · exact h x h1
    · subst h1; unfold okPut at hk; simp only [Bool.and_eq_true] at hk; exact hk.1

end Go.Proofs.YtfphpggjcljliaaGreat

/- The last name of a path; a path in a place; by the program and by its model. -/
namespace Go.Proofs.YtfphpggjcljliaaGreat
open Go.RowKit Go.Shelf

end Go.Proofs.YtfphpggjcljliaaGreat

/- A path in a place, and a path that is moved, by the program and by its model. -/
namespace Go.Proofs.YtfphpggjcljliaaGreat
open Go.RowKit Go.Shelf

theorem cutB_sum (b : UInt8) : ∀ l : List UInt8, ((cutB b l).map fun p => p.length + 1).sum = l.length + 1
  | [] => by simp [cutB]
  | c :: l => by
    have ih := cutB_sum b l
    unfold cutB
    split
    · simp [ih]; omega
    · split
      · rename_i e; exact absurd e (cutB_ne b l)
      · rename_i h t e
        rw [e] at ih
        simp at ih ⊢; omega
theorem sum_le (l : List (List UInt8)) (h : ∀ p ∈ l, p.length ≤ 10) : (l.map fun p => p.length + 1).sum ≤ 11 * l.length := by
  induction l with
  | nil => simp
  | cons a l ih =>
    have h1 := h a (by simp)
    have h2 := ih (fun p hp => h p (by simp [hp]))
    simp; omega
theorem pathB_size (l : List UInt8) (h : pathB l = true) : l.length ≤ 54 := by
  simp only [pathB, Bool.and_eq_true, decide_eq_true_eq, List.all_eq_true] at h
  have h1 := cutB_sum 47 l
  have h2 := sum_le (cutB 47 l) (fun p hp => by
    have := h.2 p hp
    simp only [nameOkB, Bool.and_eq_true, decide_eq_true_eq] at this
    exact this.1.1.1.2)
  omega

/-- A text is a place, or begins with it and a slash. -/
def belowB (p s : List UInt8) : Bool := (s == p) || Lib.hasPrefix s (p ++ [47])
def inB (p s : List UInt8) : Bool := pathB p && pathB s && belowB p s

theorem belowB_eq (p s : List UInt8) : belowB p s = ((s == p) || (decide (p.length < s.length) && (s.take p.length == p) && (s[p.length]? == some 47))) := by
  unfold belowB Lib.hasPrefix
  congr 1
  rw [Bool.eq_iff_iff]
  simp only [List.isPrefixOf_iff_prefix, Bool.and_eq_true, decide_eq_true_eq, beq_iff_eq]
  constructor
  · rintro ⟨t, rfl⟩
    simp
  · rintro ⟨⟨h1, h2⟩, h3⟩
    refine ⟨s.drop (p.length + 1), ?_⟩
    have h4 : s = s.take p.length ++ s.drop p.length := (List.take_append_drop _ _).symm
    have h5 : s.drop p.length = s[p.length] :: s.drop (p.length + 1) := List.drop_eq_getElem_cons h1
    rw [List.getElem?_eq_getElem h1] at h3
    simp at h3
    rw [h5, h2, h3] at h4
    rw [List.append_assoc]; exact h4.symm

theorem ret_bool {a b : Bool} (h : a = b) : Ending.returned (.bool a) = .returned (.bool b) := by rw [h]
theorem byte_47 (c : UInt8) : (some c == some 47) = ((c.toNat : Int) == 47) := by
  rw [Bool.eq_iff_iff]
  simp only [beq_iff_eq, Option.some.injEq]
  constructor
  · rintro rfl; rfl
  · intro h; exact UInt8.toNat_inj.1 (by simp; omega)

set_option maxRecDepth 100000 in
set_option maxHeartbeats 1000000 in
theorem l1Below_any (p s : ByteArray) (hp : p.size ≤ maxLen) (_hs : s.size ≤ maxLen) (w : World) :
    Calls Tryz.prog 50 #[.string p, .string s] w fun e w' => e = .returned (.bool (belowB p.data.toList s.data.toList)) ∧ w' = w := by
  unfold maxLen at _hs hp
  rw [belowB_eq, ← Lib.size_eq, ← Lib.size_eq]
  go_enter Tryz.func50, Tryz.ntmps50
  go_wp2
  · rename_i h1
    go_ret
    refine ⟨ret_bool ?_, rfl⟩
    rw [Lib.toList_data, Lib.toList_data] at h1
    simp [h1]
  · rename_i h1 h2 h3
    go_ret
    refine ⟨ret_bool ?_, rfl⟩
    rw [Lib.toList_data, Lib.toList_data] at h1 ⊢
    rw [Lib.extract_toList, Lib.toList_data] at h3
    rw [getByte s p.size h2, byte_47]
    simp at h3
    simp [h2, h3]
  · rename_i h1 h2 h3
    go_ret
    refine ⟨ret_bool ?_, rfl⟩
    rw [Lib.toList_data, Lib.toList_data] at h1 ⊢
    rw [Lib.extract_toList, Lib.toList_data] at h3
    simp at h3
    simp [h3]
  · rename_i h1 h2
    go_ret
    refine ⟨ret_bool ?_, rfl⟩
    rw [Lib.toList_data, Lib.toList_data] at h1 ⊢
    simp [h2]

/-- What the model's PathMove answers. -/
def moveS (s f t : ByteArray) : ByteArray := if inB f.data.toList s.data.toList && pathB t.data.toList && pathB (t ++ s.extract f.size s.size).data.toList then t ++ s.extract f.size s.size else ⟨#[]⟩

theorem inB_size {p s : ByteArray} (h : inB p.data.toList s.data.toList = true) : p.size ≤ s.size ∧ s.size ≤ 54 := by
  simp only [inB, Bool.and_eq_true] at h
  have h1 := pathB_size _ h.1.2
  have h2 := h.2
  rw [belowB_eq] at h2
  simp only [Bool.or_eq_true, Bool.and_eq_true, decide_eq_true_eq, beq_iff_eq] at h2
  rw [← Lib.size_eq] at h1
  rcases h2 with h2 | h2
  · have := congrArg List.length h2
    rw [← Lib.size_eq, ← Lib.size_eq] at this
    omega
  · have := h2.1.1
    rw [← Lib.size_eq, ← Lib.size_eq] at this
    omega

end Go.Proofs.YtfphpggjcljliaaGreat

/- What is left of a tree without a place, by the program. -/
namespace Go.Proofs.YtfphpggjcljliaaGreat
open Go.RowKit Go.Shelf

attribute [local go_sem] Oper.semAt_some

def leftE (p : ByteArray) (es : List Ent) : List Ent := es.filter fun e => !inB p.data.toList e.path.data.toList

theorem ent_path_len {e : Ent} (h : entB e = true) : e.path.size ≤ 54 := by
  unfold entB at h
  simp only [Bool.and_eq_true] at h
  have := pathB_size _ h.1
  rwa [Lib.size_eq]
/-- A tree that is gone over stays, where only what is behind a bound changes, and its own box does not. -/
theorem treeIn_kept2 {Bl bt N : Nat} {vp vn : Value} {es : List Ent} {W W' : World} (h : TreeIn (Bl + 1) bt N vp vn es W) (hk : ∀ k, k < Bl → W'.heap[k]? = W.heap[k]?) (hbt : bt < Bl) (hp : ∀ g, vp.ownBlock = some g → g < Bl) (hn : ∀ g, vn.ownBlock = some g → g < Bl)
    (ho : ∀ o, W.heap[Bl + 1]? = some o → Apart o → W'.heap[Bl + 1]? = some o) (hbx : ∃ cs t f, W.heap[Bl + 1]? = some (.cells cs t f) ∧ t ≠ 9 ∧ t ≠ 55) : TreeIn (Bl + 1) bt N vp vn es W' :=
  treeIn_kept h (fun k hkk => by
    rcases hkk with rfl | rfl | h1 | h1
    · obtain ⟨cs, t, f, hw, ht⟩ := hbx
      exact (ho _ hw (fun _ _ _ e => by cases e; exact ht)).trans hw.symm
    · exact hk _ hbt
    · exact hk _ (hp k h1)
    · exact hk _ (hn k h1))
theorem treeAt_grown {W W' : World} {row : Option Nat} {N bt : Nat} {es : List Ent} (h : TreeAt W N bt es) (hg : W.grownBy W' row) (hr : ∀ r, row = some r → ∃ o : Obj, W.heap[r]? = some o ∧ o.isCells = false) : TreeAt W' N bt es := by
  obtain ⟨vp, vn, h1, h2, h3⟩ := h
  exact ⟨vp, vn, cells_grown hg hr h1, row_grown hg hr h2, row_grown hg hr h3⟩
end Go.Proofs.YtfphpggjcljliaaGreat

/- What is left of a tree without a place, by the model. -/
namespace Go.Proofs.YtfphpggjcljliaaGreat
open Go.RowKit Go.Shelf

def dropB (p : ByteArray) (es : List Ent) : List Ent := es.filter fun e => !belowB p.data.toList e.path.data.toList
theorem dropB_snoc_yes {p : ByteArray} {es : List Ent} {k : Nat} {e : Ent} (he : es[k]? = some e) (h : belowB p.data.toList e.path.data.toList = false) : dropB p (es.take (k + 1)) = dropB p (es.take k) ++ [e] := by
  unfold dropB; rw [List.take_add_one, he, List.filter_append]; simp [h]
theorem dropB_snoc_no {p : ByteArray} {es : List Ent} {k : Nat} {e : Ent} (he : es[k]? = some e) (h : belowB p.data.toList e.path.data.toList = true) : dropB p (es.take (k + 1)) = dropB p (es.take k) := by
  unfold dropB; rw [List.take_add_one, he, List.filter_append]; simp [h]

end Go.Proofs.YtfphpggjcljliaaGreat
