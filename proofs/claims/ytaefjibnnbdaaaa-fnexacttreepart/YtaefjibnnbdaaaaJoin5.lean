/- Texts of this proof, one behind the other; each says at its head what it shows. -/
import Derived.Test.YtaefjibnnbdaaaaJoin3
import Derived.Test.YtaefjibnnbdaaaaJoin4
import Derived.Deep.RegionHeld
import Derived.Maps.AppendAt
import Derived.Test.YtaefjibnnbdaaaaJoin1
/- An entry put into a tree, by the model. -/
namespace Go.Proofs.Ytaefjibnnbdaaaa
open Go.RowKit Go.Shelf

theorem below_set4 {B : Nat} {a w : World} (h : Below B a w) {g : Nat} (hg : B ≤ g) (j : Nat) (e : Ent) : Below B a ((((w.setCell ⟨g, j * 4, none⟩ (.string e.path)).setCell ⟨g, j * 4 + 1, none⟩ (.int .i64 e.kind)).setCell ⟨g, j * 4 + 2, none⟩ (.int .i64 e.mode)).setCell ⟨g, j * 4 + 3, none⟩ (.string e.text)) :=
  (((h.setCell (p := ⟨g, j * 4, none⟩) hg _).setCell (p := ⟨g, j * 4 + 1, none⟩) hg _).setCell (p := ⟨g, j * 4 + 2, none⟩) hg _).setCell (p := ⟨g, j * 4 + 3, none⟩) hg _
/-- An append at a step of a region, and where the new row lies. -/
theorem step_append_at {P : Program} {w : World} {ops : Array Oper} {o : Oper} {a : Act} {K : Act → World → Prop} {Q : Exit → Act → World → Prop} {E : Prop} (hgd : o.guard = none) (s x : Operand) (t : TypeId)
    (ho : o.op = .call { callee := .builtin .append, args := #[s, x], argTypes := #[t, t] })
    (base : Nat) (e : TypeId) (i : TypeInfo) (z : Value) (size bytes : Nat) (ht : P.underlying t = some (.slice e)) (hi : P.info? e = some i) (hz : i.zero = some z)
    (hsize : i.size = size) (hby : i.bytes = bytes) (hzs : z.cells.size = size) (hsz : 0 < size)
    (v : Value) (n : Nat) (xs : List Value) (hs : a.eval s = v) (hown : w.ownsRow base e size v n xs)
    (ad : Addr) (m c : Nat) (news : List Value) (hx : a.eval x = .slice (some ad) m c) (hl : news.length = m * size) (hnews : ∀ j u, news[j]? = some u → w.cell? (ad.add j) = some u) (h1 : ∀ u ∈ news, u.oneCell' = true)
    (h63 : n + m ≤ maxLen) (hbytes : (n + m) * bytes ≤ 140737488355328) (hbase : base ≤ w.heap.size)
    (h : ∀ v' w', w'.ownsRow base e size v' (n + m) (xs ++ news) → w.grownBy w' v.ownBlock → (v'.ownBlock = v.ownBlock ∨ v'.ownBlock = some w.heap.size) → K (a.put o.dst v') w') :
    if Region.wanted o (yielded ops a.tmps) = true then Oper.wp P o a w K Q else E := by
  have hw : Region.wanted o (yielded ops a.tmps) = true := by simp [Region.wanted, hgd]
  rw [if_pos hw]
  obtain ⟨v', w', hr, h2, h3, _, h5⟩ := run_append_own_at (P := P) w base t o.type e i z size bytes ht hi hz hsize hby hzs hsz v n xs hown ad m c news hl hnews h1 h63 hbytes hbase
  unfold Oper.wp execOp
  simp only [ho, resolve, invoke, builtin, Sem.run_bind, Sem.run_pure, Result.andThen_ok, List.map_toArray, List.map_cons, List.map_nil, hs, hx, hr]
  exact h v' w' h2 h3 h5
/-- How far on a row's rest begins: where nothing is left it stays where the row began. -/
def offD (cap k : Nat) : Nat := if cap = k then 0 else k * 4
theorem ents_dropD {W : World} {b o k cap : Nat} {es : List Ent} (h : ∀ (i : Nat) e, es[i]? = some e → EntAt W b (o + i * 4) e) (hc : es.length ≤ cap) : ∀ (i : Nat) e, (es.drop k)[i]? = some e → EntAt W b (o + offD cap k + i * 4) e := fun i e hi => by
  by_cases hck : cap = k
  · have : es.drop k = [] := List.drop_eq_nil_of_le (by omega)
    rw [this] at hi; simp at hi
  · unfold offD; rw [if_neg hck]; exact ents_drop h i e hi
/-- A row of one entry. -/
def OneAt (W : World) (g : Nat) (e : Ent) : Prop := W.heap[g]? = some (.cells e.vals 27 (0, 0))
theorem OneAt.lt {W : World} {g : Nat} {e : Ent} (h : OneAt W g e) : g < W.heap.size := (Array.getElem?_eq_some_iff.1 h).1
theorem OneAt.alloc {W : World} {g : Nat} {e : Ent} (h : OneAt W g e) (o : Obj) : OneAt (W.alloc o) g e := (Below.heap_alloc _ _ _ h.lt).trans h
theorem OneAt.grown {W W' : World} {g : Nat} {e : Ent} {row : Option Nat} (h : OneAt W g e) (hg : W.grownBy W' row) (hr : some g ≠ row) : OneAt W' g e := (hg.block g h.lt hr).trans h
theorem OneAt.cells {W : World} {g : Nat} {e : Ent} (h : OneAt W g e) : ∀ j u, (valsOf [e])[j]? = some u → W.cell? ((⟨g, 0, none⟩ : Addr).add j) = some u := by
  intro j u hj
  rw [add_plain4, Nat.zero_add]
  have hj' : e.vals[j]? = some u := by
    have : (valsOf [e]) = e.vals.toList := by simp [valsOf]
    rw [this, Array.getElem?_toList] at hj; exact hj
  show W.cell? ⟨g, j, none⟩ = some u
  unfold OneAt at h
  simp only [World.cell?, h]
  exact hj'
theorem valsOf_app (xs ys : List Ent) : valsOf (xs ++ ys) = valsOf xs ++ valsOf ys := by simp [valsOf]
theorem valsOf_set (es : List Ent) (j : Nat) (e : Ent) (hj : j < es.length) : valsOf (es.set j e) = ((((valsOf es).set (j * 4) (.string e.path)).set (j * 4 + 1) (.int .i64 e.kind)).set (j * 4 + 2) (.int .i64 e.mode)).set (j * 4 + 3) (.string e.text) := by
  have hl := valsOf_len es
  apply List.ext_getElem?
  intro i
  have e1 : i = i / 4 * 4 + i % 4 := by omega
  have hr : i % 4 < 4 := Nat.mod_lt _ (by omega)
  generalize i / 4 = m at e1
  generalize i % 4 = r at e1 hr
  subst e1
  rw [valsOf_get _ _ _ hr, List.getElem?_set, List.getElem?_set, List.getElem?_set, List.getElem?_set, List.getElem?_set, valsOf_get _ _ _ hr]
  simp only [List.length_set]
  by_cases ej : j = m
  · subst ej
    rw [if_pos rfl, if_pos hj]
    match r, hr with
    | 0, _ => rw [if_neg (by omega), if_neg (by omega), if_neg (by omega), if_pos (by omega), if_pos (by omega)]; rfl
    | 1, _ => rw [if_neg (by omega), if_neg (by omega), if_pos (by omega), if_pos (by omega)]; rfl
    | 2, _ => rw [if_neg (by omega), if_pos (by omega), if_pos (by omega)]; rfl
    | 3, _ => rw [if_pos (by omega), if_pos (by omega)]; rfl
  · rw [if_neg ej, if_neg (by omega), if_neg (by omega), if_neg (by omega), if_neg (by omega)]
theorem ownsRow_set4 {W : World} {N j g : Nat} {v : Value} {es : List Ent} (h : W.ownsRow N 27 4 v es.length (valsOf es)) (hj : j < es.length) (hg : v.ownBlock = some g) (e : Ent) :
    ((((W.setCell ⟨g, j * 4, none⟩ (.string e.path)).setCell ⟨g, j * 4 + 1, none⟩ (.int .i64 e.kind)).setCell ⟨g, j * 4 + 2, none⟩ (.int .i64 e.mode)).setCell ⟨g, j * 4 + 3, none⟩ (.string e.text)).ownsRow N 27 4 v es.length (valsOf (es.set j e)) := by
  refine ⟨by rw [valsOf_len, List.length_set], ?_⟩
  rcases h.2 with ⟨rfl, h0⟩ | ⟨g', cap, cur, rfl, hN, hh, hc, hm, hsz, hcells⟩
  · cases hg
  · cases hg
    refine .inr ⟨g', cap, (((cur.setIfInBounds (j * 4) (.string e.path)).setIfInBounds (j * 4 + 1) (.int .i64 e.kind)).setIfInBounds (j * 4 + 2) (.int .i64 e.mode)).setIfInBounds (j * 4 + 3) (.string e.text), rfl, hN, ?_, hc, hm, by simpa using hsz, ?_⟩
    · exact heap_setCell_same _ g' _ _ _ _ (heap_setCell_same _ g' _ _ _ _ (heap_setCell_same _ g' _ _ _ _ (heap_setCell_same _ g' _ _ _ _ hh)))
    · rw [valsOf_set es j e hj, ← hcells]
      simp only [Array.toList_setIfInBounds, List.take_set]

/-- A slice that is not nil. -/
def SomeV (v : Value) : Prop := ∃ ad n c, v = .slice (some ad) n c
theorem owns_some {W : World} {N n size : Nat} {v : Value} {e : TypeId} {xs : List Value} (h : W.ownsRow N e size v n xs) (hn : 0 < n) : SomeV v := by
  rcases h.2 with ⟨rfl, h0⟩ | ⟨g, cap, cur, rfl, _⟩
  · omega
  · exact ⟨_, _, _, rfl⟩
set_option maxRecDepth 100000 in
set_option maxHeartbeats 4000000 in
theorem l2Put_full (es : List Ent) (e : Ent) (b o cap : Nat) (w : World) (hn : es.length ≤ 16) (hc : es.length ≤ cap) (hp : e.path.size ≤ 1048576) (ht : e.text.size ≤ 1048576) (h : ∀ (i : Nat) e, es[i]? = some e → EntAt w b (o + i * 4) e) (hb : b < w.heap.size) :
    Calls Try.prog 63 #[.slice (some ⟨b, o, none⟩) es.length cap, .agg e.vals] w fun x w' => ∃ v, x = .returned (.tuple #[v, .bool (okPut es e)]) ∧ w'.ownsRow w.heap.size 27 4 v (putL es e).length (valsOf (putL es e)) ∧ Below w.heap.size w w' ∧ SomeV v := by
  obtain ⟨w1, hw1⟩ : ∃ w1, w1 = w.alloc (.cells #[.string e.path, .int .i64 e.kind, .int .i64 e.mode, .string e.text] 27) := ⟨_, rfl⟩
  have hB1 : Below w.heap.size w w1 := by rw [hw1]; exact (Below.refl _ w).alloc (Nat.le_refl _) _
  have hbx1 : w1.heap[w.heap.size]? = some (.cells #[.string e.path, .int .i64 e.kind, .int .i64 e.mode, .string e.text] 27 (0, 0)) := by rw [hw1]; exact World.alloc_heap_new _ _
  have hE1 := entAt_below h (.inr hb) hB1
  have hb1 : b < w1.heap.size := Nat.lt_of_lt_of_le hb hB1.size
  have hat1 : EntsAt w1 (some ⟨b, o, none⟩) es := .inr ⟨b, o, rfl, hb1, hE1⟩
  have AT := hid (l2At_any es (some ⟨b, o, none⟩) cap e.path w1 (by omega) hat1)
  have H1 := hid (And.intro hB1 (And.intro hbx1 hE1))
  have HW1 := hid hw1
  obtain ⟨⟨d0, d1, d2, d3⟩, -⟩ := four_cells hbx1
  rw [hw1] at d0
  clear hB1 hbx1 hE1 hat1 hw1 h d1 d2 d3
  go_enter Try.func63, Try.ntmps63
  unfold Ent.vals
  go_wp2_with fail
  rw [← unhid HW1]
  refine (unhid AT).mono ?_
  rintro x w2 ⟨rfl, n2, e2⟩
  have hB2 : Below w1.heap.size w1 w2 := by rw [e2]; exact drewN_below _ _
  have hl1 : w.heap.size < w1.heap.size := (Array.getElem?_eq_some_iff.1 (unhid H1).2.1).1
  have H2 := hid (show Below w.heap.size w w2 ∧ w2.heap[w.heap.size]? = some (.cells #[.string e.path, .int .i64 e.kind, .int .i64 e.mode, .string e.text] 27 (0, 0)) ∧ ∀ (i : Nat) e, es[i]? = some e → EntAt w2 b (o + i * 4) e from ⟨(unhid H1).1.trans (hB2.mono (unhid H1).1.size), (hB2.block _ hl1).trans (unhid H1).2.1, entAt_below (unhid H1).2.2 (.inr hb1) hB2⟩)
  have hb2 : b < w2.heap.size := Nat.lt_of_lt_of_le hb1 hB2.size
  clear hB2 e2 H1 AT HW1 d0 hl1 hb1 n2
  go_wp2_with fail
  refine (l2Copy_some es b o cap w2 (by omega) (unhid H2).2.2 (.inr hb2)).mono ?_
  rintro x w3 ⟨vg, vc, rfl, hown3, hB3⟩
  obtain ⟨va, hva⟩ : ∃ va, va = some (⟨vg, 0, none⟩ : Addr) := ⟨_, rfl⟩
  rw [← hva] at hown3 ⊢
  have HVA := hid (show SomeV (.slice va es.length vc) from ⟨_, _, _, by rw [hva]⟩)
  clear hva
  have hl2 : w.heap.size < w2.heap.size := (Array.getElem?_eq_some_iff.1 (unhid H2).2.1).1
  have hB3' := (unhid H2).1.trans (hB3.mono (Nat.le_of_lt hl2))
  have hbx3 := (hB3.block _ hl2).trans (unhid H2).2.1
  obtain ⟨⟨d0, d1, d2, d3⟩, -⟩ := four_cells hbx3
  have H3 := hid (And.intro hB3' (And.intro hbx3 (And.intro (entAt_below (unhid H2).2.2 (.inr hb2) hB3) (ownsRow_base hown3 (Nat.le_of_lt hl2)))))
  have HV3 := hid (show ∀ g, (Value.slice va es.length vc).ownBlock = some g → w.heap.size < g from fun g eg => Nat.lt_of_lt_of_le hl2 (hown3.lt g eg).1)
  have hb3 : b < w3.heap.size := Nat.lt_of_lt_of_le hb2 hB3.size
  clear hB3 hB3' hbx3 hown3 H2 hb2 hl2
  go_wp2_with fail
  refine (l2Entry_any e hp ht w3).mono ?_
  rintro x w4 ⟨rfl, hB4⟩
  have hl3 : w.heap.size < w3.heap.size := (Array.getElem?_eq_some_iff.1 (unhid H3).2.1).1
  have H4 := hid (show Below w.heap.size w w4 ∧ w4.heap[w.heap.size]? = some (.cells #[.string e.path, .int .i64 e.kind, .int .i64 e.mode, .string e.text] 27 (0, 0)) ∧ (∀ (i : Nat) e, es[i]? = some e → EntAt w4 b (o + i * 4) e) ∧ w4.ownsRow w.heap.size 27 4 (.slice va es.length vc) es.length (valsOf es) from
    ⟨(unhid H3).1.trans (hB4.mono (Nat.le_of_lt hl3)), (hB4.block _ hl3).trans (unhid H3).2.1, entAt_below (unhid H3).2.2.1 (.inr hb3) hB4, ownsRow_kept (unhid H3).2.2.2 (fun g eg => hB4.block g ((unhid H3).2.2.2.lt g eg).2)⟩)
  have hb4 : b < w4.heap.size := Nat.lt_of_lt_of_le hb3 hB4.size
  clear hB4 H3 hl3 hb3 d0 d1 d2 d3
  cases he : entB e
  · have E := hid (show okPut es e = false by unfold okPut; rw [he]; rfl)
    go_wp2_with fail
    go_ret2
    exact ⟨_, by rw [unhid E]; rfl, by rw [putL_no (unhid E)]; exact (unhid H4).2.2.2, (unhid H4).1, unhid HVA⟩
  · have hbx4 := (unhid H4).2.1
    obtain ⟨⟨d0, d1, d2, d3⟩, -⟩ := four_cells hbx4
    clear hbx4
    go_wp2_with fail
    refine (l1Up_any e.path (by unfold maxLen; omega) w4).mono ?_
    rintro x w5 ⟨rfl, e5⟩
    subst e5
    rw [← ent_path he]
    go_wp2_with fail
    refine (l2Dir_any es _ cap (pathUpS e.path) _ (by omega) (.inr ⟨b, o, rfl, hb4, (unhid H4).2.2.1⟩)).mono ?_
    rintro x w6 ⟨rfl, n6, e6⟩
    have hB6 : Below w5.heap.size w5 w6 := by rw [e6]; exact drewN_below _ _
    have hl5 : w.heap.size < w5.heap.size := (Array.getElem?_eq_some_iff.1 (unhid H4).2.1).1
    have H6 := hid (show Below w.heap.size w w6 ∧ w6.heap[w.heap.size]? = some (.cells #[.string e.path, .int .i64 e.kind, .int .i64 e.mode, .string e.text] 27 (0, 0)) ∧ (∀ (i : Nat) e, es[i]? = some e → EntAt w6 b (o + i * 4) e) ∧ w6.ownsRow w.heap.size 27 4 (.slice va es.length vc) es.length (valsOf es) from
      ⟨(unhid H4).1.trans (hB6.mono (Nat.le_of_lt hl5)), (hB6.block _ hl5).trans (unhid H4).2.1, entAt_below (unhid H4).2.2.1 (.inr hb4) hB6, ownsRow_kept (unhid H4).2.2.2 (fun g eg => hB6.block g ((unhid H4).2.2.2.lt g eg).2)⟩)
    have hb6 : b < w6.heap.size := Nat.lt_of_lt_of_le hb4 hB6.size
    clear hB6 H4 hl5 hb4 d0 d1 d2 d3 e6 n6
    cases hd : dirE es (pathUpS e.path)
    · have E := hid (show okPut es e = false by unfold okPut; rw [hd]; simp)
      go_wp2_with fail
      go_ret2
      exact ⟨_, by rw [unhid E]; rfl, by rw [putL_no (unhid E)]; exact (unhid H6).2.2.2, (unhid H6).1, unhid HVA⟩
    · have hbx6 := (unhid H6).2.1
      obtain ⟨⟨d0, d1, d2, d3⟩, -⟩ := four_cells hbx6
      clear hbx6
      cases hth : thereE es e.path
      · by_cases h16 : es.length = 16
        · have E := hid (show okPut es e = false by unfold okPut; rw [hth, h16]; simp)
          have HH := hid hth
          have h16' : (16 : Int) ≤ (es.length : Int) := by omega
          clear hth h16
          go_wp2_with fail
          go_quiet (fail)
          go_wp2_with fail
          go_ret2
          have hB7 : Below w6.heap.size w6 (w6.drewN nq) := drewN_below _ _
          exact ⟨_, by rw [unhid E]; rfl, by rw [putL_no (unhid E)]; exact ownsRow_kept (unhid H6).2.2.2 (fun g eg => hB7.block g ((unhid H6).2.2.2.lt g eg).2), (unhid H6).1.trans (drewN_below _ _), unhid HVA⟩
        · have E := hid (show okPut es e = true by unfold okPut; rw [he, hd, hth]; simpa using h16)
          have HH := hid hth
          have h16' : ¬ (16 : Int) ≤ (es.length : Int) := by omega
          clear hth h16
          go_wp2_with fail
          go_quiet (fail)
          have hB7 : Below w6.heap.size w6 (w6.drewN nq) := drewN_below _ _
          have H7 := hid (show Below w.heap.size w (w6.drewN nq) ∧ (w6.drewN nq).heap[w.heap.size]? = some (.cells #[.string e.path, .int .i64 e.kind, .int .i64 e.mode, .string e.text] 27 (0, 0)) ∧ (∀ (i : Nat) e, es[i]? = some e → EntAt (w6.drewN nq) b (o + i * 4) e) ∧ (w6.drewN nq).ownsRow w.heap.size 27 4 (.slice va es.length vc) es.length (valsOf es) from
            ⟨(unhid H6).1.trans (drewN_below _ _), (unhid H6).2.1, entAt_below (unhid H6).2.2.1 (.inr hb6) hB7, ownsRow_kept (unhid H6).2.2.2 (fun g eg => hB7.block g ((unhid H6).2.2.2.lt g eg).2)⟩)
          have hb7 : b < (w6.drewN nq).heap.size := hb6
          clear hB7 H6 hb6 d0 d1 d2 d3
          generalize w6.drewN nq = w7 at H7 hb7 ⊢
          obtain ⟨⟨d0, d1, d2, d3⟩, -⟩ := four_cells (unhid H7).2.1
          obtain ⟨i0, hi0, hz0, hzs, hzb⟩ := info_parts infoEntry
          have hkn : placeE es e.path ≤ es.length := placeE_le _ _
          have E2 := hid (show putL es e = es.take (placeE es e.path) ++ [e] ++ es.drop (placeE es e.path) by rw [putL_ins (unhid E) (unhid HH)]; rfl)
          generalize placeE es e.path = k at hkn E2 ⊢
          go_wp2_with fail
          have hi1 : (0 : Int) ≤ (k : Int) := by omega
          have hi2 : (k : Int) ≤ (es.length : Int) := by omega
          have hi3 : (k : Int) ≤ (cap : Int) := by omega
          have hi4 : (es.length : Int) ≤ (cap : Int) := by omega
          refine wp_region_held_drew (S := fun w' => Below w7.heap.size w7 w') (by kernel_rfl) (drew_below _) (fun hS => ?_)
          refine wpAnyH_take (i := 1) (v := .slice (some ⟨b, o, none⟩) es.length cap) rfl (by kernel_rfl) (by kernel_rfl) (by kernel_rfl) (fun _ _ _ h => h) (Or.inl ⟨by rfl, fun w hw => by go_simp⟩) hS ?_
          refine wpAnyH_take (i := 2) (v := .int .i64 (k : Int)) rfl (by kernel_rfl) (by kernel_rfl) (by kernel_rfl) (fun _ _ _ h => h) (Or.inl ⟨by rfl, fun w hw => by go_simp⟩) hS ?_
          refine wpAnyH_take (i := 3) (v := .slice (some ⟨b, o, none⟩) k cap) rfl (by kernel_rfl) (by kernel_rfl) (by kernel_rfl) (fun _ _ _ h => h) (Or.inl ⟨by rfl, fun w hw => by go_simp⟩) hS ?_
          refine wpAnyH_take (i := 5) (v := .agg #[.string e.path, .int .i64 e.kind, .int .i64 e.mode, .string e.text]) rfl (by kernel_rfl) (by kernel_rfl) (by kernel_rfl) (fun _ _ _ h => h) (Or.inl ⟨by rfl, fun w' hw => by
            have hl7 : w.heap.size < w7.heap.size := (Array.getElem?_eq_some_iff.1 (unhid H7).2.1).1
            obtain ⟨⟨k0, k1, k2, k3⟩, -⟩ := four_cells ((Below.block hw _ hl7).trans (unhid H7).2.1)
            go_simp⟩) hS ?_
          refine wpAnyH_take (i := 8) (v := .slice (some ⟨b, o, none⟩) es.length cap) rfl (by kernel_rfl) (by kernel_rfl) (by kernel_rfl) (fun _ _ _ h => h) (Or.inl ⟨by rfl, fun w hw => by go_simp⟩) hS ?_
          refine wpAnyH_take (i := 9) (v := .int .i64 (k : Int)) rfl (by kernel_rfl) (by kernel_rfl) (by kernel_rfl) (fun _ _ _ h => h) (Or.inl ⟨by rfl, fun w hw => by go_simp⟩) hS ?_
          refine wpAnyH_take (i := 10) (v := .slice (some ⟨b, o + offD cap k, none⟩) (es.length - k) (cap - k)) rfl (by kernel_rfl) (by kernel_rfl) (by kernel_rfl) (fun _ _ _ h => h) (Or.inl ⟨by rfl, fun w hw => by
            unfold offD
            by_cases hck : cap = k
            · rw [if_pos hck]; go_simp
            · rw [if_neg hck]; go_simp⟩) hS ?_
          have HI := hid (And.intro hi0 (And.intro hz0 (And.intro hzs hzb)))
          have HC1 := hid (show ∀ W, Below w7.heap.size w7 W → ∀ j u, (valsOf (es.take k))[j]? = some u → W.cell? ((⟨b, o, none⟩ : Addr).add j) = some u from fun W hW => ents_cells (ents_take (entAt_below (unhid H7).2.2.1 (.inr hb7) hW)))
          have HC2 := hid (show ∀ W, Below w7.heap.size w7 W → ∀ j u, (valsOf (es.drop k))[j]? = some u → W.cell? ((⟨b, o + offD cap k, none⟩ : Addr).add j) = some u from fun W hW => ents_cells (ents_dropD (entAt_below (unhid H7).2.2.1 (.inr hb7) hW) hc))
          have ht1 : (es.take k).length = k := by simp; omega
          have ht2 : (es.drop k).length = es.length - k := by simp
          clear hi0 hz0 hzs hzb
          generalize w7.drew = W at hS ⊢
          refine wpAnyH_ready (rs := [0, 6]) (by kernel_rfl) (by simp) ?_
          refine AllReadyH.cons rfl (fun K hK => ?_) (AllReadyH.cons rfl (fun K hK => ?_) AllReadyH.nil)
          · go_simp
            have r0 := owns_empty W w7.heap.size hS.size 27
            have hS1 := hS.alloc hS.size (.cells #[] 27)
            refine hK.out _ _ hS1 (fun _ => ?_)
            clear hK K hS
            generalize W.alloc (.cells #[] 27) = W2 at hS1 r0 ⊢
            generalize W.heap.size = g0 at r0 ⊢
            have hS := hS1
            clear hS1
            refine wpAnyH_ready (rs := [4, 6]) (by kernel_rfl) (by simp) ?_
            refine AllReadyH.cons rfl (fun K hK => ?_) (AllReadyH.cons rfl (fun K hK => ?_) AllReadyH.nil)
            · refine step_append_at (by rfl) _ _ 23 (by rfl) w7.heap.size 27 i0 _ 4 48 Try.underlying23 (unhid HI).1 (unhid HI).2.1 (unhid HI).2.2.1 (unhid HI).2.2.2 rfl (by decide) (Value.slice (some ⟨g0, 0, none⟩) 0 0) (0) ([]) (by rfl) r0 ⟨b, o, none⟩ (k) (cap) (valsOf (es.take k)) (by rfl) (by rw [valsOf_len, ht1]) (unhid HC1 _ hS) (valsOf_one _) (by unfold maxLen; omega) (by omega) hS.size ?_
              intro v1 W3 r1 hg1 hat1
              rw [Nat.zero_add, List.nil_append] at r1
              obtain ⟨a1, c1, rfl⟩ := ownsRow_slice r1
              have hS1 := hS.grown hg1 hS.size (fun g eg => (r0.lt g eg).1)
              refine hK.out _ _ hS1 (fun _ => ?_)
              clear hK K hS r0 hg1 hat1
              have hS := hS1
              clear hS1
              refine wpAnyH_ready (rs := [6]) (by kernel_rfl) (by simp) ?_
              refine AllReadyH.cons rfl (fun K hK => ?_) AllReadyH.nil
              go_simp
              have o2 : OneAt (W3.alloc (.cells #[.string e.path, .int .i64 e.kind, .int .i64 e.mode, .string e.text] 27)) W3.heap.size e := World.alloc_heap_new _ _
              have hS1 := hS.alloc hS.size (.cells #[.string e.path, .int .i64 e.kind, .int .i64 e.mode, .string e.text] 27)
              have m2 : (Value.slice a1 k c1).ownBlock ≠ some W3.heap.size := fun eq => Nat.lt_irrefl _ (r1.lt _ eq).2
              have r1' := r1.alloc (.cells #[.string e.path, .int .i64 e.kind, .int .i64 e.mode, .string e.text] 27)
              clear r1
              have r1 := r1'
              clear r1'
              refine hK.out _ _ hS1 (fun _ => ?_)
              clear hK K hS
              generalize W3.alloc (.cells #[.string e.path, .int .i64 e.kind, .int .i64 e.mode, .string e.text] 27) = W4 at hS1 o2 r1 ⊢
              generalize W3.heap.size = g2 at o2 m2 ⊢
              have hS := hS1
              clear hS1
              refine wpAnyH_ready (rs := [7]) (by kernel_rfl) (by simp) ?_
              refine AllReadyH.cons rfl (fun K hK => ?_) AllReadyH.nil
              refine step_append_at (by rfl) _ _ 23 (by rfl) w7.heap.size 27 i0 _ 4 48 Try.underlying23 (unhid HI).1 (unhid HI).2.1 (unhid HI).2.2.1 (unhid HI).2.2.2 rfl (by decide) (Value.slice a1 k c1) (k) (valsOf (es.take k)) (by rfl) r1 ⟨g2, 0, none⟩ (1) (1) (valsOf [e]) (by rfl) (by rw [valsOf_len]; rfl) (o2.cells) (valsOf_one _) (by unfold maxLen; omega) (by omega) hS.size ?_
              intro v2 W5 r2 hg1 hat1
              obtain ⟨a2, c2, rfl⟩ := ownsRow_slice r2
              have hS1 := hS.grown hg1 hS.size (fun g eg => (r1.lt g eg).1)
              refine hK.out _ _ hS1 (fun _ => ?_)
              clear hK K hS r1 hg1 hat1 o2 m2
              have hS := hS1
              clear hS1
              refine wpAnyH_ready (rs := [11]) (by kernel_rfl) (by simp) ?_
              refine AllReadyH.cons rfl (fun K hK => ?_) AllReadyH.nil
              refine step_append_at (by rfl) _ _ 23 (by rfl) w7.heap.size 27 i0 _ 4 48 Try.underlying23 (unhid HI).1 (unhid HI).2.1 (unhid HI).2.2.1 (unhid HI).2.2.2 rfl (by decide) (Value.slice a2 (k + 1) c2) (k + 1) (valsOf (es.take k) ++ valsOf [e]) (by rfl) r2 ⟨b, o + offD cap k, none⟩ ((es.length - k)) ((cap - k)) (valsOf (es.drop k)) (by rfl) (by rw [valsOf_len, ht2]) (unhid HC2 _ hS) (valsOf_one _) (by unfold maxLen; omega) (by omega) hS.size ?_
              intro v3 W6 r3 hg1 hat1
              obtain ⟨a3, c3, rfl⟩ := ownsRow_slice r3
              have hS1 := hS.grown hg1 hS.size (fun g eg => (r2.lt g eg).1)
              refine hK.out _ _ hS1 (fun _ => ?_)
              clear hK K hS r2 hg1 hat1
              have hS := hS1
              clear hS1
              refine wpAnyH_take (i := 12) (v := .slice a3 (k + 1 + (es.length - k)) c3) rfl (by kernel_rfl) (by kernel_rfl) (by kernel_rfl) (fun _ _ _ h => h) (Or.inl ⟨by rfl, fun w hw => by go_simp⟩) hS ?_
              refine wpAnyH_take (i := 13) (v := .bool true) rfl (by kernel_rfl) (by kernel_rfl) (by kernel_rfl) (fun _ _ _ h => h) (Or.inl ⟨by rfl, fun w hw => by go_simp⟩) hS ?_
              refine wpAnyH_done (by kernel_rfl) ?_ _
              have hlen : (putL es e).length = k + 1 + (es.length - k) := by rw [unhid E2]; simp; omega
              have hval : valsOf (putL es e) = valsOf (es.take k) ++ valsOf [e] ++ valsOf (es.drop k) := by rw [unhid E2, valsOf_app, valsOf_app]
              have hl7 : w.heap.size < w7.heap.size := (Array.getElem?_eq_some_iff.1 (unhid H7).2.1).1
              have HF := hid (And.intro (ownsRow_base r3 (Nat.le_of_lt hl7)) ((unhid H7).1.trans (hS.mono (Nat.le_of_lt hl7))))
              have HL := hid (And.intro hlen hval)
              clear hlen hval r3 hS
              go_wp2_with fail
              go_ret2
              exact ⟨_, by rw [unhid E]; rfl, by rw [(unhid HL).1, (unhid HL).2]; exact (unhid HF).1, (unhid HF).2, owns_some (unhid HF).1 (by omega)⟩
            · go_simp
              have o2 : OneAt (W2.alloc (.cells #[.string e.path, .int .i64 e.kind, .int .i64 e.mode, .string e.text] 27)) W2.heap.size e := World.alloc_heap_new _ _
              have hS1 := hS.alloc hS.size (.cells #[.string e.path, .int .i64 e.kind, .int .i64 e.mode, .string e.text] 27)
              have m2 : (Value.slice (some ⟨g0, 0, none⟩) 0 0).ownBlock ≠ some W2.heap.size := fun eq => Nat.lt_irrefl _ (r0.lt _ eq).2
              have r0' := r0.alloc (.cells #[.string e.path, .int .i64 e.kind, .int .i64 e.mode, .string e.text] 27)
              clear r0
              have r0 := r0'
              clear r0'
              refine hK.out _ _ hS1 (fun _ => ?_)
              clear hK K hS
              generalize W2.alloc (.cells #[.string e.path, .int .i64 e.kind, .int .i64 e.mode, .string e.text] 27) = W3 at hS1 o2 r0 ⊢
              generalize W2.heap.size = g2 at o2 m2 ⊢
              have hS := hS1
              clear hS1
              refine wpAnyH_ready (rs := [4]) (by kernel_rfl) (by simp) ?_
              refine AllReadyH.cons rfl (fun K hK => ?_) AllReadyH.nil
              refine step_append_at (by rfl) _ _ 23 (by rfl) w7.heap.size 27 i0 _ 4 48 Try.underlying23 (unhid HI).1 (unhid HI).2.1 (unhid HI).2.2.1 (unhid HI).2.2.2 rfl (by decide) (Value.slice (some ⟨g0, 0, none⟩) 0 0) (0) ([]) (by rfl) r0 ⟨b, o, none⟩ (k) (cap) (valsOf (es.take k)) (by rfl) (by rw [valsOf_len, ht1]) (unhid HC1 _ hS) (valsOf_one _) (by unfold maxLen; omega) (by omega) hS.size ?_
              intro v1 W4 r1 hg1 hat1
              rw [Nat.zero_add, List.nil_append] at r1
              obtain ⟨a1, c1, rfl⟩ := ownsRow_slice r1
              have hS1 := hS.grown hg1 hS.size (fun g eg => (r0.lt g eg).1)
              have o2' := o2.grown hg1 (fun eq => m2 eq.symm)
              have m2' : (Value.slice a1 k c1).ownBlock ≠ some g2 := by
                rcases hat1 with h | h <;> rw [h]
                · exact m2
                · intro eq; injection eq with eq; have := o2.lt; omega
              clear o2 m2
              have o2 := o2'
              clear o2'
              have m2 := m2'
              clear m2'
              refine hK.out _ _ hS1 (fun _ => ?_)
              clear hK K hS r0 hg1 hat1
              have hS := hS1
              clear hS1
              refine wpAnyH_ready (rs := [7]) (by kernel_rfl) (by simp) ?_
              refine AllReadyH.cons rfl (fun K hK => ?_) AllReadyH.nil
              refine step_append_at (by rfl) _ _ 23 (by rfl) w7.heap.size 27 i0 _ 4 48 Try.underlying23 (unhid HI).1 (unhid HI).2.1 (unhid HI).2.2.1 (unhid HI).2.2.2 rfl (by decide) (Value.slice a1 k c1) (k) (valsOf (es.take k)) (by rfl) r1 ⟨g2, 0, none⟩ (1) (1) (valsOf [e]) (by rfl) (by rw [valsOf_len]; rfl) (o2.cells) (valsOf_one _) (by unfold maxLen; omega) (by omega) hS.size ?_
              intro v2 W5 r2 hg1 hat1
              obtain ⟨a2, c2, rfl⟩ := ownsRow_slice r2
              have hS1 := hS.grown hg1 hS.size (fun g eg => (r1.lt g eg).1)
              refine hK.out _ _ hS1 (fun _ => ?_)
              clear hK K hS r1 hg1 hat1 o2 m2
              have hS := hS1
              clear hS1
              refine wpAnyH_ready (rs := [11]) (by kernel_rfl) (by simp) ?_
              refine AllReadyH.cons rfl (fun K hK => ?_) AllReadyH.nil
              refine step_append_at (by rfl) _ _ 23 (by rfl) w7.heap.size 27 i0 _ 4 48 Try.underlying23 (unhid HI).1 (unhid HI).2.1 (unhid HI).2.2.1 (unhid HI).2.2.2 rfl (by decide) (Value.slice a2 (k + 1) c2) (k + 1) (valsOf (es.take k) ++ valsOf [e]) (by rfl) r2 ⟨b, o + offD cap k, none⟩ ((es.length - k)) ((cap - k)) (valsOf (es.drop k)) (by rfl) (by rw [valsOf_len, ht2]) (unhid HC2 _ hS) (valsOf_one _) (by unfold maxLen; omega) (by omega) hS.size ?_
              intro v3 W6 r3 hg1 hat1
              obtain ⟨a3, c3, rfl⟩ := ownsRow_slice r3
              have hS1 := hS.grown hg1 hS.size (fun g eg => (r2.lt g eg).1)
              refine hK.out _ _ hS1 (fun _ => ?_)
              clear hK K hS r2 hg1 hat1
              have hS := hS1
              clear hS1
              refine wpAnyH_take (i := 12) (v := .slice a3 (k + 1 + (es.length - k)) c3) rfl (by kernel_rfl) (by kernel_rfl) (by kernel_rfl) (fun _ _ _ h => h) (Or.inl ⟨by rfl, fun w hw => by go_simp⟩) hS ?_
              refine wpAnyH_take (i := 13) (v := .bool true) rfl (by kernel_rfl) (by kernel_rfl) (by kernel_rfl) (fun _ _ _ h => h) (Or.inl ⟨by rfl, fun w hw => by go_simp⟩) hS ?_
              refine wpAnyH_done (by kernel_rfl) ?_ _
              have hlen : (putL es e).length = k + 1 + (es.length - k) := by rw [unhid E2]; simp; omega
              have hval : valsOf (putL es e) = valsOf (es.take k) ++ valsOf [e] ++ valsOf (es.drop k) := by rw [unhid E2, valsOf_app, valsOf_app]
              have hl7 : w.heap.size < w7.heap.size := (Array.getElem?_eq_some_iff.1 (unhid H7).2.1).1
              have HF := hid (And.intro (ownsRow_base r3 (Nat.le_of_lt hl7)) ((unhid H7).1.trans (hS.mono (Nat.le_of_lt hl7))))
              have HL := hid (And.intro hlen hval)
              clear hlen hval r3 hS
              go_wp2_with fail
              go_ret2
              exact ⟨_, by rw [unhid E]; rfl, by rw [(unhid HL).1, (unhid HL).2]; exact (unhid HF).1, (unhid HF).2, owns_some (unhid HF).1 (by omega)⟩
          · go_simp
            have o2 : OneAt (W.alloc (.cells #[.string e.path, .int .i64 e.kind, .int .i64 e.mode, .string e.text] 27)) W.heap.size e := World.alloc_heap_new _ _
            have hS1 := hS.alloc hS.size (.cells #[.string e.path, .int .i64 e.kind, .int .i64 e.mode, .string e.text] 27)
            refine hK.out _ _ hS1 (fun _ => ?_)
            clear hK K hS
            generalize W.alloc (.cells #[.string e.path, .int .i64 e.kind, .int .i64 e.mode, .string e.text] 27) = W2 at hS1 o2 ⊢
            generalize W.heap.size = g2 at o2 ⊢
            have hS := hS1
            clear hS1
            refine wpAnyH_ready (rs := [0]) (by kernel_rfl) (by simp) ?_
            refine AllReadyH.cons rfl (fun K hK => ?_) AllReadyH.nil
            go_simp
            have r0 := owns_empty W2 w7.heap.size hS.size 27
            have hS1 := hS.alloc hS.size (.cells #[] 27)
            have o2' := o2.alloc (.cells #[] 27)
            have m2 : (Value.slice (some ⟨W2.heap.size, 0, none⟩) 0 0).ownBlock ≠ some g2 := fun eq => by injection eq with eq; have eq2 : W2.heap.size = g2 := eq; have := o2.lt; omega
            clear o2
            have o2 := o2'
            clear o2'
            refine hK.out _ _ hS1 (fun _ => ?_)
            clear hK K hS
            generalize W2.alloc (.cells #[] 27) = W3 at hS1 r0 o2 ⊢
            generalize W2.heap.size = g0 at r0 m2 ⊢
            have hS := hS1
            clear hS1
            refine wpAnyH_ready (rs := [4]) (by kernel_rfl) (by simp) ?_
            refine AllReadyH.cons rfl (fun K hK => ?_) AllReadyH.nil
            refine step_append_at (by rfl) _ _ 23 (by rfl) w7.heap.size 27 i0 _ 4 48 Try.underlying23 (unhid HI).1 (unhid HI).2.1 (unhid HI).2.2.1 (unhid HI).2.2.2 rfl (by decide) (Value.slice (some ⟨g0, 0, none⟩) 0 0) (0) ([]) (by rfl) r0 ⟨b, o, none⟩ (k) (cap) (valsOf (es.take k)) (by rfl) (by rw [valsOf_len, ht1]) (unhid HC1 _ hS) (valsOf_one _) (by unfold maxLen; omega) (by omega) hS.size ?_
            intro v1 W4 r1 hg1 hat1
            rw [Nat.zero_add, List.nil_append] at r1
            obtain ⟨a1, c1, rfl⟩ := ownsRow_slice r1
            have hS1 := hS.grown hg1 hS.size (fun g eg => (r0.lt g eg).1)
            have o2' := o2.grown hg1 (fun eq => m2 eq.symm)
            have m2' : (Value.slice a1 k c1).ownBlock ≠ some g2 := by
              rcases hat1 with h | h <;> rw [h]
              · exact m2
              · intro eq; injection eq with eq; have := o2.lt; omega
            clear o2 m2
            have o2 := o2'
            clear o2'
            have m2 := m2'
            clear m2'
            refine hK.out _ _ hS1 (fun _ => ?_)
            clear hK K hS r0 hg1 hat1
            have hS := hS1
            clear hS1
            refine wpAnyH_ready (rs := [7]) (by kernel_rfl) (by simp) ?_
            refine AllReadyH.cons rfl (fun K hK => ?_) AllReadyH.nil
            refine step_append_at (by rfl) _ _ 23 (by rfl) w7.heap.size 27 i0 _ 4 48 Try.underlying23 (unhid HI).1 (unhid HI).2.1 (unhid HI).2.2.1 (unhid HI).2.2.2 rfl (by decide) (Value.slice a1 k c1) (k) (valsOf (es.take k)) (by rfl) r1 ⟨g2, 0, none⟩ (1) (1) (valsOf [e]) (by rfl) (by rw [valsOf_len]; rfl) (o2.cells) (valsOf_one _) (by unfold maxLen; omega) (by omega) hS.size ?_
            intro v2 W5 r2 hg1 hat1
            obtain ⟨a2, c2, rfl⟩ := ownsRow_slice r2
            have hS1 := hS.grown hg1 hS.size (fun g eg => (r1.lt g eg).1)
            refine hK.out _ _ hS1 (fun _ => ?_)
            clear hK K hS r1 hg1 hat1 o2 m2
            have hS := hS1
            clear hS1
            refine wpAnyH_ready (rs := [11]) (by kernel_rfl) (by simp) ?_
            refine AllReadyH.cons rfl (fun K hK => ?_) AllReadyH.nil
            refine step_append_at (by rfl) _ _ 23 (by rfl) w7.heap.size 27 i0 _ 4 48 Try.underlying23 (unhid HI).1 (unhid HI).2.1 (unhid HI).2.2.1 (unhid HI).2.2.2 rfl (by decide) (Value.slice a2 (k + 1) c2) (k + 1) (valsOf (es.take k) ++ valsOf [e]) (by rfl) r2 ⟨b, o + offD cap k, none⟩ ((es.length - k)) ((cap - k)) (valsOf (es.drop k)) (by rfl) (by rw [valsOf_len, ht2]) (unhid HC2 _ hS) (valsOf_one _) (by unfold maxLen; omega) (by omega) hS.size ?_
            intro v3 W6 r3 hg1 hat1
            obtain ⟨a3, c3, rfl⟩ := ownsRow_slice r3
            have hS1 := hS.grown hg1 hS.size (fun g eg => (r2.lt g eg).1)
            refine hK.out _ _ hS1 (fun _ => ?_)
            clear hK K hS r2 hg1 hat1
            have hS := hS1
            clear hS1
            refine wpAnyH_take (i := 12) (v := .slice a3 (k + 1 + (es.length - k)) c3) rfl (by kernel_rfl) (by kernel_rfl) (by kernel_rfl) (fun _ _ _ h => h) (Or.inl ⟨by rfl, fun w hw => by go_simp⟩) hS ?_
            refine wpAnyH_take (i := 13) (v := .bool true) rfl (by kernel_rfl) (by kernel_rfl) (by kernel_rfl) (fun _ _ _ h => h) (Or.inl ⟨by rfl, fun w hw => by go_simp⟩) hS ?_
            refine wpAnyH_done (by kernel_rfl) ?_ _
            have hlen : (putL es e).length = k + 1 + (es.length - k) := by rw [unhid E2]; simp; omega
            have hval : valsOf (putL es e) = valsOf (es.take k) ++ valsOf [e] ++ valsOf (es.drop k) := by rw [unhid E2, valsOf_app, valsOf_app]
            have hl7 : w.heap.size < w7.heap.size := (Array.getElem?_eq_some_iff.1 (unhid H7).2.1).1
            have HF := hid (And.intro (ownsRow_base r3 (Nat.le_of_lt hl7)) ((unhid H7).1.trans (hS.mono (Nat.le_of_lt hl7))))
            have HL := hid (And.intro hlen hval)
            clear hlen hval r3 hS
            go_wp2_with fail
            go_ret2
            exact ⟨_, by rw [unhid E]; rfl, by rw [(unhid HL).1, (unhid HL).2]; exact (unhid HF).1, (unhid HF).2, owns_some (unhid HF).1 (by omega)⟩
      · obtain ⟨old, hold, hop⟩ := there_get hth
        have hfo := entFn_get hold
        have hkl : placeE es e.path < es.length := (List.getElem?_eq_some_iff.1 hold).1
        obtain ⟨c0, c1, c2, c3⟩ := (unhid H6).2.2.1 _ old hold
        cases hkk : (old.kind != e.kind)
        · have E := hid (show okPut es e = true by unfold okPut; rw [he, hd, hth, hfo]; simp at hkk; simp [hkk])
          have HH := hid hth
          clear hth hold hop hfo
          go_wp2_with fail
          go_quiet (fail)
          clear c0 c1 c2 c3
          have hB7 : Below w6.heap.size w6 (w6.drewN nq) := drewN_below _ _
          have H7 := hid (show Below w.heap.size w (w6.drewN nq) ∧ (w6.drewN nq).heap[w.heap.size]? = some (.cells #[.string e.path, .int .i64 e.kind, .int .i64 e.mode, .string e.text] 27 (0, 0)) ∧ (∀ (i : Nat) e, es[i]? = some e → EntAt (w6.drewN nq) b (o + i * 4) e) ∧ (w6.drewN nq).ownsRow w.heap.size 27 4 (.slice va es.length vc) es.length (valsOf es) from
            ⟨(unhid H6).1.trans (drewN_below _ _), (unhid H6).2.1, entAt_below (unhid H6).2.2.1 (.inr hb6) hB7, ownsRow_kept (unhid H6).2.2.2 (fun g eg => hB7.block g ((unhid H6).2.2.2.lt g eg).2)⟩)
          have hb7 : b < (w6.drewN nq).heap.size := hb6
          clear hB7 H6 hb6 d0 d1 d2 d3
          generalize w6.drewN nq = w7 at H7 hb7 ⊢
          obtain ⟨⟨d0, d1, d2, d3⟩, -⟩ := four_cells (unhid H7).2.1
          obtain ⟨gv, rfl⟩ : ∃ gv, va = some ⟨gv, 0, none⟩ := by
            rcases (unhid H7).2.2.2.2 with ⟨hv, h0⟩ | ⟨g', _, _, hv, _⟩
            · omega
            · cases hv; exact ⟨_, rfl⟩
          have HX := hid (And.intro (ownsRow_set4 (unhid H7).2.2.2 hkl rfl e) (below_set4 (unhid H7).1 (Nat.le_of_lt (unhid HV3 gv rfl)) (placeE es e.path) e))
          obtain ⟨a1, cap1, ev, hR⟩ := rowIn_of_owns (unhid H7).2.2.2
          cases ev
          obtain ⟨g', ea, -, -, hR⟩ := hR.resolve_left (fun h0 => by rw [h0] at hkl; simp at hkl)
          cases ea
          obtain ⟨⟨k0, k1, k2, k3⟩, f0, f1, f2, f3⟩ := hR.cells _ hkl
          clear hR
          have E2 := hid (putL_set (unhid E) (unhid HH))
          go_wp2_with fail
          go_ret2
          exact ⟨_, by rw [unhid E]; rfl, by rw [unhid E2, List.length_set]; exact (unhid HX).1, (unhid HX).2, unhid HVA⟩
        · have E := hid (show okPut es e = false by unfold okPut; rw [he, hd, hth, hfo]; simp at hkk; simp [hkk])
          clear hth hold hop hfo
          go_wp2_with fail
          go_quiet (fail)
          go_wp2_with fail
          go_ret2
          have hB7 : Below w6.heap.size w6 (w6.drewN nq) := drewN_below _ _
          exact ⟨_, by rw [unhid E]; rfl, by rw [putL_no (unhid E)]; exact ownsRow_kept (unhid H6).2.2.2 (fun g eg => hB7.block g ((unhid H6).2.2.2.lt g eg).2), (unhid H6).1.trans (drewN_below _ _), unhid HVA⟩
theorem l2Put_any (es : List Ent) (e : Ent) (b o cap : Nat) (w : World) (hn : es.length ≤ 16) (hc : es.length ≤ cap) (hp : e.path.size ≤ 1048576) (ht : e.text.size ≤ 1048576) (h : ∀ (i : Nat) e, es[i]? = some e → EntAt w b (o + i * 4) e) (hb : b < w.heap.size) :
    Calls Try.prog 63 #[.slice (some ⟨b, o, none⟩) es.length cap, .agg e.vals] w fun x w' => ∃ v, x = .returned (.tuple #[v, .bool (okPut es e)]) ∧ w'.ownsRow w.heap.size 27 4 v (putL es e).length (valsOf (putL es e)) ∧ Below w.heap.size w w' :=
  (l2Put_full es e b o cap w hn hc hp ht h hb).mono (fun _ _ ⟨v, h1, h2, h3, _⟩ => ⟨v, h1, h2, h3⟩)
end Go.Proofs.Ytaefjibnnbdaaaa

/- Entries put into a tree one behind the other: in order, each path once. -/
namespace Go.Proofs.Ytaefjibnnbdaaaa
open Go.RowKit Go.Shelf

def Up (es : List Ent) : Prop := es.Pairwise fun x y => ltS x.path y.path = true
theorem up_asc {es : List Ent} (h : Up es) : Asc (pathsOf es) := by
  intro i j x y hij hi hj
  unfold pathsOf at hi hj
  rw [List.getElem?_map] at hi hj
  obtain ⟨a, ha, rfl⟩ := Option.map_eq_some_iff.1 hi
  obtain ⟨b, hb, rfl⟩ := Option.map_eq_some_iff.1 hj
  obtain ⟨hia, rfl⟩ := List.getElem?_eq_some_iff.1 ha
  obtain ⟨hjb, rfl⟩ := List.getElem?_eq_some_iff.1 hb
  exact List.pairwise_iff_getElem.1 h i j hia hjb hij
theorem asc_up {es : List Ent} (h : Asc (pathsOf es)) : Up es := by
  refine List.pairwise_iff_getElem.2 (fun i j hi hj hij => ?_)
  exact h i j _ _ hij (by simp [pathsOf, hi]) (by simp [pathsOf, hj])
theorem place_split (es : List Ent) (p : ByteArray) : (∀ x ∈ es.take (placeE es p), ltS x.path p = true) ∧ (∀ x, es[placeE es p]? = some x → ltS x.path p = false) := by
  refine ⟨fun x hx => ?_, fun x hx => ?_⟩
  · obtain ⟨i, hi⟩ := List.getElem?_of_mem hx
    rw [List.getElem?_take] at hi
    split at hi
    · rename_i hlt; exact place_lt hlt hi
    · cases hi
  · unfold placeE at hx
    induction es with
    | nil => simp at hx
    | cons e es ih =>
      rw [List.takeWhile_cons] at hx
      cases he : ltS e.path p
      · rw [he] at hx; simp at hx; subst hx; exact he
      · rw [he] at hx; simp at hx; exact ih hx
theorem lt_trans' {a b c : ByteArray} (h1 : ltS a b = true) (h2 : ltS b c = true) : ltS a c = true := lt_tra _ _ _ h1 h2
theorem lt_tot' {a b : ByteArray} (h1 : ltS a b = false) (h2 : eqS a b = false) : ltS b a = true := by
  cases h : ltS b a
  · have e := lt_tot _ _ h1 h
    rw [show eqS a b = true by unfold eqS; rw [e]; simp] at h2; cases h2
  · rfl
theorem insAt_up {es : List Ent} {e : Ent} (h : Up es) (ht : thereE es e.path = false) : Up (insAt es e) := by
  obtain ⟨h1, h2⟩ := place_split es e.path
  have hd : ∀ x ∈ es.drop (placeE es e.path), ltS e.path x.path = true := by
    unfold thereE at ht
    intro x hx
    cases hf : es[placeE es e.path]? with
    | none =>
      rw [List.drop_eq_nil_of_le (by simpa using hf)] at hx; simp at hx
    | some y =>
      rw [hf] at ht
      have hy : ltS e.path y.path = true := lt_tot' (h2 y hf) (by simpa using ht)
      obtain ⟨hk, rfl⟩ := List.getElem?_eq_some_iff.1 hf
      rw [List.drop_eq_getElem_cons hk] at hx
      rcases List.mem_cons.1 hx with rfl | hx
      · exact hy
      · refine lt_trans' hy ?_
        obtain ⟨j, hj⟩ := List.getElem?_of_mem hx
        rw [List.getElem?_drop] at hj
        obtain ⟨hjl, rfl⟩ := List.getElem?_eq_some_iff.1 hj
        exact List.pairwise_iff_getElem.1 h _ _ hk hjl (by omega)
  have hs : Up (es.take (placeE es e.path) ++ es.drop (placeE es e.path)) := by rw [List.take_append_drop]; exact h
  unfold Up at hs
  rw [List.pairwise_append] at hs
  unfold insAt Up
  rw [List.append_assoc, List.pairwise_append]
  refine ⟨hs.1, ?_, ?_⟩
  · rw [List.singleton_append, List.pairwise_cons]
    exact ⟨hd, hs.2.1⟩
  · intro x hx y hy
    rw [List.singleton_append, List.mem_cons] at hy
    rcases hy with rfl | hy
    · exact h1 x hx
    · exact hs.2.2 x hx y hy
theorem set_paths {es : List Ent} {e : Ent} (ht : thereE es e.path = true) : pathsOf (es.set (placeE es e.path) e) = pathsOf es := by
  obtain ⟨old, hj, hpo⟩ := there_get ht
  unfold pathsOf
  rw [List.map_set]
  apply List.ext_getElem?
  intro i
  rw [List.getElem?_set]
  split
  · rename_i hi
    subst hi
    rw [if_pos (by simpa using (List.getElem?_eq_some_iff.1 hj).1), List.getElem?_map, hj, Option.map_some, hpo]
  · rfl
theorem putT_up {es : List Ent} {e : Ent} (h : Up es) : Up (putT es e) := by
  unfold putT
  cases ht : thereE es e.path
  · exact insAt_up h ht
  · refine asc_up ?_
    rw [if_pos rfl, set_paths ht]
    exact up_asc h
theorem putT_end {es : List Ent} {e : Ent} (h : ∀ x ∈ es, ltS x.path e.path = true) : putT es e = es ++ [e] := by
  have hp : placeE es e.path = es.length := by
    refine place_of es e.path es.length (Nat.le_refl _) (fun i x _ hi => h x (List.mem_of_getElem? hi)) (fun x hx => ?_)
    rw [List.getElem?_eq_none (Nat.le_refl _)] at hx; cases hx
  unfold putT insAt thereE
  rw [hp, List.getElem?_eq_none (Nat.le_refl _)]
  simp
def putAll (xs : List Ent) : List Ent := xs.foldl putT []
theorem putAll_snoc (xs : List Ent) (x : Ent) : putAll (xs ++ [x]) = putT (putAll xs) x := by unfold putAll; rw [List.foldl_append]; rfl
theorem snoc_ind {α : Type} {P : List α → Prop} (h0 : P []) (h1 : ∀ xs x, P xs → P (xs ++ [x])) : ∀ xs, P xs := fun xs => by
  have : ∀ ys : List α, P ys.reverse := fun ys => by
    induction ys with
    | nil => exact h0
    | cons y ys ih => rw [List.reverse_cons]; exact h1 _ _ ih
  have h := this xs.reverse
  rwa [List.reverse_reverse] at h
theorem putAll_up : ∀ xs, Up (putAll xs) := snoc_ind List.Pairwise.nil (fun xs x ih => by rw [putAll_snoc]; exact putT_up ih)
theorem putT_len (es : List Ent) (e : Ent) : (putT es e).length ≤ es.length + 1 := by
  unfold putT insAt
  split
  · simp
  · have := placeE_le es e.path; simp; omega
theorem putT_mem {es : List Ent} {e x : Ent} (hx : x ∈ putT es e) : x ∈ es ∨ x = e := by
  unfold putT insAt at hx
  split at hx
  · exact List.mem_or_eq_of_mem_set hx
  · simp only [List.mem_append, List.mem_singleton] at hx
    rcases hx with (h | h) | h
    · exact .inl (List.mem_of_mem_take h)
    · exact .inr h
    · exact .inl (List.mem_of_mem_drop h)
theorem putAll_len : ∀ xs, (putAll xs).length ≤ xs.length := snoc_ind (Nat.le_refl _) (fun xs x ih => by
  rw [putAll_snoc]
  have := putT_len (putAll xs) x
  simp; omega)
theorem putAll_mem : ∀ xs x, x ∈ putAll xs → x ∈ xs := snoc_ind (fun x h => h) (fun xs x ih y hy => by
  rw [putAll_snoc] at hy
  rcases putT_mem hy with h | h
  · exact List.mem_append_left _ (ih y h)
  · subst h; simp)
theorem putAll_self : ∀ xs, Up xs → putAll xs = xs := snoc_ind (fun _ => rfl) (fun xs x ih h => by
  unfold Up at h
  rw [List.pairwise_append] at h
  rw [putAll_snoc, ih h.1]
  exact putT_end (fun y hy => h.2.2 y hy x (by simp)))
end Go.Proofs.Ytaefjibnnbdaaaa

/- An entry put into a tree: what the program answers, and its model. -/
namespace Go.Proofs.Ytaefjibnnbdaaaa
open Go.RowKit Go.Shelf

def putR (es : List Ent) (e : Ent) : List Ent := if treeB es then putL es e else []
def putOk (es : List Ent) (e : Ent) : Bool := treeB es && okPut es e
theorem tree_16 {es : List Ent} (h : treeB es = true) : es.length ≤ 16 := by
  have := (kept_asc es).2; rwa [keptE_yes h] at this
theorem tree_asc {es : List Ent} (h : treeB es = true) : Asc (pathsOf es) := by
  have := (kept_asc es).1; rwa [keptE_yes h] at this
theorem tree_all {es : List Ent} (h : treeB es = true) : ∀ x ∈ es, entB x = true := fun x hx => by
  obtain ⟨i, hi⟩ := List.getElem?_of_mem hx
  exact tree_ent h hi

theorem putL_len (es : List Ent) (e : Ent) : (putL es e).length ≤ es.length + 1 := by
  unfold putL
  split
  · exact putT_len es e
  · omega
theorem putL_all {es : List Ent} {e : Ent} (h : ∀ x ∈ es, entB x = true) : ∀ x ∈ putL es e, entB x = true := fun x hx => by
  unfold putL at hx
  cases hk : okPut es e
  · rw [hk] at hx; exact h x hx
  · rw [hk] at hx
    rcases putT_mem hx with h1 | h1
    · exact h x h1
    · subst h1; unfold okPut at hk; simp only [Bool.and_eq_true] at hk; exact hk.1

set_option maxRecDepth 100000 in
set_option maxHeartbeats 2000000 in
theorem specTreePut_any (es : List Ent) (e : Ent) (b o cap : Nat) (w : World) (hs : smallE es) (hc : es.length ≤ cap) (hp : e.path.size ≤ 1048576) (ht : e.text.size ≤ 1048576) (h : ∀ (i : Nat) e, es[i]? = some e → EntAt w b (o + i * 4) e) (hb : b < w.heap.size) :
    Calls Try.prog 24 #[.slice (some ⟨b, o, none⟩) es.length cap, .agg e.vals] w fun x w' => ∃ v, x = .returned (.tuple #[v, .bool (putOk es e)]) ∧ w'.ownsRow w.heap.size 27 4 v (putR es e).length (valsOf (putR es e)) ∧ Below w.heap.size w w' := by
  obtain ⟨w1, hw1⟩ : ∃ w1, w1 = w.alloc (.cells #[.string e.path, .int .i64 e.kind, .int .i64 e.mode, .string e.text] 27) := ⟨_, rfl⟩
  have hB1 : Below w.heap.size w w1 := by rw [hw1]; exact (Below.refl _ w).alloc (Nat.le_refl _) _
  have hbx1 : w1.heap[w.heap.size]? = some (.cells #[.string e.path, .int .i64 e.kind, .int .i64 e.mode, .string e.text] 27 (0, 0)) := by rw [hw1]; exact World.alloc_heap_new _ _
  have hE1 := entAt_below h (.inr hb) hB1
  have hb1 : b < w1.heap.size := Nat.lt_of_lt_of_le hb hB1.size
  have hat1 : EntsAt w1 (some ⟨b, o, none⟩) es := .inr ⟨b, o, rfl, hb1, hE1⟩
  have OK := hid (specTreeOk_any es (some ⟨b, o, none⟩) cap w1 hs hat1)
  have H1 := hid (And.intro hB1 (And.intro hbx1 hE1))
  have HW1 := hid hw1
  have HS := hid hs
  clear hB1 hbx1 hE1 hat1 hw1 h hs
  go_enter Try.func24, Try.ntmps24
  unfold Ent.vals
  go_wp2_with fail
  rw [← unhid HW1]
  refine (unhid OK).mono ?_
  rintro x w2 ⟨rfl, hB2⟩
  have hl1 : w.heap.size < w1.heap.size := (Array.getElem?_eq_some_iff.1 (unhid H1).2.1).1
  have H2 := hid (show Below w.heap.size w w2 ∧ w2.heap[w.heap.size]? = some (.cells #[.string e.path, .int .i64 e.kind, .int .i64 e.mode, .string e.text] 27 (0, 0)) ∧ ∀ (i : Nat) e, es[i]? = some e → EntAt w2 b (o + i * 4) e from ⟨(unhid H1).1.trans (hB2.mono (unhid H1).1.size), (hB2.block _ hl1).trans (unhid H1).2.1, entAt_below (unhid H1).2.2 (.inr hb1) hB2⟩)
  have hb2 : b < w2.heap.size := Nat.lt_of_lt_of_le hb1 hB2.size
  clear hB2 H1 OK HW1 hl1 hb1
  cases htb : treeB es
  · have E := hid (show putR es e = [] ∧ putOk es e = false by unfold putR putOk; rw [htb]; exact ⟨rfl, rfl⟩)
    have HF := hid (And.intro (owns_empty w2 w.heap.size (unhid H2).1.size 27) ((unhid H2).1.alloc (unhid H2).1.size (.cells #[] 27)))
    go_wp2_with fail
    go_ret2
    exact ⟨_, by rw [(unhid E).2]; rfl, by rw [(unhid E).1]; exact (unhid HF).1, (unhid HF).2⟩
  · have E := hid (show putR es e = putL es e ∧ putOk es e = okPut es e by unfold putR putOk; rw [htb]; exact ⟨rfl, rfl⟩)
    obtain ⟨⟨d0, d1, d2, d3⟩, -⟩ := four_cells (unhid H2).2.1
    go_wp2_with fail
    refine (l2Put_any es e b o cap w2 (tree_16 htb) hc hp ht (unhid H2).2.2 hb2).mono ?_
    rintro x w3 ⟨v, rfl, hown, hB3⟩
    obtain ⟨va, vc, rfl⟩ := ownsRow_slice hown
    have HF := hid (And.intro (ownsRow_base hown (unhid H2).1.size) ((unhid H2).1.trans (hB3.mono (unhid H2).1.size)))
    clear hown hB3
    go_wp2_with fail
    go_ret2
    exact ⟨_, by rw [(unhid E).2]; rfl, by rw [(unhid E).1]; exact (unhid HF).1, (unhid HF).2⟩

set_option maxRecDepth 100000 in
set_option maxHeartbeats 2000000 in
theorem treePut_any (es : List Ent) (e : Ent) (a : Option Addr) (cap : Nat) (w : World) (hs : smallE es) (hp : e.path.size ≤ 1048576) (ht : e.text.size ≤ 1048576) (h : EntsAt w a es) :
    Calls Try.prog 17 #[.slice a es.length cap, .agg e.vals] w fun x w' => ∃ v, x = .returned (.tuple #[v, .bool (putOk es e)]) ∧ w'.ownsRow w.heap.size 27 4 v (putR es e).length (valsOf (putR es e)) ∧ Below w.heap.size w w' := by
  obtain ⟨wA, hwA⟩ : ∃ wA, wA = w.alloc (.cells #[.string e.path, .int .i64 e.kind, .int .i64 e.mode, .string e.text] 27) := ⟨_, rfl⟩
  have hsz : wA.heap.size = w.heap.size + 1 := by rw [hwA]; simp
  have hBA : Below w.heap.size w wA := by rw [hwA]; exact (Below.refl _ w).alloc (Nat.le_refl _) _
  have hbox : wA.heap[w.heap.size]? = some (.cells #[.string e.path, .int .i64 e.kind, .int .i64 e.mode, .string e.text] 27 (0, 0)) := by rw [hwA]; exact World.alloc_heap_new _ _
  have H := hid (treeOf_any es a cap wA hs (h.below (by rw [hwA]; exact (Below.refl _ w).alloc (Nat.le_refl _) _)))
  have HA := hid (And.intro hsz (And.intro hBA hbox))
  have HWA := hid hwA
  clear hs h hwA hsz hBA hbox
  go_enter Try.func17, Try.ntmps17
  unfold Ent.vals
  go_wp2_with fail
  rw [← unhid HWA]
  refine (unhid H).mono ?_
  rintro x w1 ⟨vp, vn, rfl, ⟨t2, t3⟩, hB⟩
  obtain ⟨ap, cp, rfl⟩ := ownsRow_slice t2
  obtain ⟨an, cn, rfl⟩ := ownsRow_slice t3
  obtain ⟨hsz, hBA, hbox⟩ := unhid HA
  obtain ⟨wt, hwt⟩ : ∃ wt, wt = w1.alloc (.cells #[.slice ap (keptE es).length cp, .slice an (keptE es).length cn] 58) := ⟨_, rfl⟩
  have hB1 : Below w.heap.size w w1 := hBA.trans (hB.mono (by omega))
  have hBt : Below w1.heap.size w1 wt := by rw [hwt]; exact (Below.refl _ w1).alloc (Nat.le_refl _) _
  have hBT : Below w.heap.size w wt := hB1.trans (hBt.mono hB1.size)
  have hT : TreeAt wt wA.heap.size w1.heap.size (keptE es) := ⟨_, _, by rw [hwt]; exact World.alloc_heap_new _ _, ownsRow_kept t2 (fun g e => hBt.block g (t2.lt g e).2), ownsRow_kept t3 (fun g e => hBt.block g (t3.lt g e).2)⟩
  have hw1 : wA.heap.size ≤ w1.heap.size := hB.size
  have hbt : wt.heap[w.heap.size]? = some (.cells #[.string e.path, .int .i64 e.kind, .int .i64 e.mode, .string e.text] 27 (0, 0)) := (hBt.block _ (by omega)).trans ((hB.block _ (by omega)).trans hbox)
  have HT := hid (And.intro hBT (And.intro hbt hT))
  have HWT := hid hwt
  clear hT hBT hBt hB1 hB t2 t3 hbox hBA HA HWA H
  cases htb : treeB es
  · have E := hid (show putR es e = [] ∧ putOk es e = false by unfold putR putOk; rw [htb]; exact ⟨rfl, rfl⟩)
    have HK := hid (keptE_no htb)
    clear hbt hwt
    go_wp2_with fail
    rw [← unhid HWT]
    refine (entries_any wA.heap.size w1.heap.size (keptE es) wt (by rw [unhid HK]; simp) (by rw [unhid HK]; simp) (unhid HT).2.2).mono ?_
    rintro x w2 ⟨v, rfl, hown, hB2⟩
    obtain ⟨va, vc, rfl⟩ := ownsRow_slice hown
    have HF := hid (And.intro (ownsRow_base hown (unhid HT).1.size) ((unhid HT).1.trans (hB2.mono (unhid HT).1.size)))
    clear hown hB2
    go_wp2_with fail
    go_ret2
    exact ⟨_, by rw [(unhid E).2]; rfl, by rw [(unhid E).1, ← unhid HK]; exact (unhid HF).1, (unhid HF).2⟩
  · have E := hid (show putR es e = putL es e ∧ putOk es e = okPut es e by unfold putR putOk; rw [htb]; exact ⟨rfl, rfl⟩)
    rw [keptE_yes htb] at HT HWT ⊢
    have hl16 := tree_16 htb
    have PUT := hid (putEntry_any wA.heap.size w1.heap.size es e wt (by unfold maxLen; omega) (by unfold maxLen; omega) hl16 (tree_asc htb) (tree_all htb) hw1 (unhid HT).2.2)
    obtain ⟨⟨d0, d1, d2, d3⟩, -⟩ := four_cells (unhid HT).2.1
    rw [unhid HWT] at d0 d1 d2 d3
    clear hbt hwt
    go_wp2_with fail
    rw [← unhid HWT]
    refine (unhid PUT).mono ?_
    rintro x w2 ⟨rfl, hT2, hK2⟩
    have hB2 : Below w.heap.size w w2 := (unhid HT).1.trans (hK2.1.mono (by omega))
    have ENT := hid (entries_any wA.heap.size w1.heap.size (putL es e) w2 (by have := putL_len es e; omega) (putL_all (tree_all htb)) hT2)
    have HB2 := hid hB2
    clear hT2 hK2 hB2 PUT HT d0 d1 d2 d3
    go_wp2_with fail
    refine (unhid ENT).mono ?_
    rintro x w3 ⟨v, rfl, hown, hB3⟩
    obtain ⟨va, vc, rfl⟩ := ownsRow_slice hown
    have HF := hid (And.intro (ownsRow_base hown (unhid HB2).size) ((unhid HB2).trans (hB3.mono (unhid HB2).size)))
    clear hown hB3
    go_wp2_with fail
    go_ret2
    exact ⟨_, by rw [(unhid E).2]; rfl, by rw [(unhid E).1]; exact (unhid HF).1, (unhid HF).2⟩
end Go.Proofs.Ytaefjibnnbdaaaa

/- The last name of a path; a path in a place; by the program and by its model. -/
namespace Go.Proofs.Ytaefjibnnbdaaaa
open Go.RowKit Go.Shelf

set_option maxHeartbeats 1000000 in
theorem slHasPrefix_any (s p : ByteArray) (w : World) :
    Calls Try.prog 99 #[.string s, .string p] w fun e w' => e = .returned (.bool (Lib.hasPrefix s.data.toList p.data.toList)) ∧ w' = w := by
  rw [← Lib.hasPrefix_of_take, ← Lib.size_eq, ← Lib.size_eq]
  go_enter Try.func99, Try.ntmps99
  go_wp2
  · rename_i h
    go_ret
    refine ⟨?_, rfl⟩
    show Ending.returned (Value.bool ((s.extract 0 p.size).toList == p.toList)) = _
    rw [Lib.extract_toList, Lib.toList_data]
    simp [h]
  · rename_i h
    go_ret
    refine ⟨?_, rfl⟩
    show Ending.returned (Value.bool false) = _
    simp [h]

set_option maxHeartbeats 1000000 in
theorem HasPrefix_any (s p : ByteArray) (w : World) :
    Calls Try.prog 68 #[.string s, .string p] w fun e w' => e = .returned (.bool (Lib.hasPrefix s.data.toList p.data.toList)) ∧ w' = w := by
  go_enter Try.func68, Try.ntmps68
  go_wp2_with (go_at_call 99; refine (slHasPrefix_any _ _ _).mono ?_; rintro e w' ⟨rfl, rfl⟩)
  go_ret
  exact ⟨rfl, rfl⟩
end Go.Proofs.Ytaefjibnnbdaaaa

/- A path in a place, and a path that is moved, by the program and by its model. -/
namespace Go.Proofs.Ytaefjibnnbdaaaa
open Go.RowKit Go.Shelf

theorem cutB_sum (b : UInt8) : ∀ l : List UInt8, ((cutB b l).map fun p => p.length + 1).sum = l.length + 1
  | [] => by simp [cutB]
  | c :: l => by
    have ih := cutB_sum b l
    unfold cutB
    split
    · simp [ih]; omega
    · split
      · rename_i e; exact absurd e (cutB_ne b l)
      · rename_i h t e
        rw [e] at ih
        simp at ih ⊢; omega
theorem sum_le (l : List (List UInt8)) (h : ∀ p ∈ l, p.length ≤ 10) : (l.map fun p => p.length + 1).sum ≤ 11 * l.length := by
  induction l with
  | nil => simp
  | cons a l ih =>
    have h1 := h a (by simp)
    have h2 := ih (fun p hp => h p (by simp [hp]))
    simp; omega
theorem pathB_size (l : List UInt8) (h : pathB l = true) : l.length ≤ 54 := by
  simp only [pathB, Bool.and_eq_true, decide_eq_true_eq, List.all_eq_true] at h
  have h1 := cutB_sum 47 l
  have h2 := sum_le (cutB 47 l) (fun p hp => by
    have := h.2 p hp
    simp only [nameOkB, Bool.and_eq_true, decide_eq_true_eq] at this
    exact this.1.1.1.2)
  omega

/-- A text is a place, or begins with it and a slash. -/
def belowB (p s : List UInt8) : Bool := (s == p) || Lib.hasPrefix s (p ++ [47])
def inB (p s : List UInt8) : Bool := pathB p && pathB s && belowB p s

theorem belowB_eq (p s : List UInt8) : belowB p s = ((s == p) || (decide (p.length < s.length) && (s.take p.length == p) && (s[p.length]? == some 47))) := by
  unfold belowB Lib.hasPrefix
  congr 1
  rw [Bool.eq_iff_iff]
  simp only [List.isPrefixOf_iff_prefix, Bool.and_eq_true, decide_eq_true_eq, beq_iff_eq]
  constructor
  · rintro ⟨t, rfl⟩
    simp
  · rintro ⟨⟨h1, h2⟩, h3⟩
    refine ⟨s.drop (p.length + 1), ?_⟩
    have h4 : s = s.take p.length ++ s.drop p.length := (List.take_append_drop _ _).symm
    have h5 : s.drop p.length = s[p.length] :: s.drop (p.length + 1) := List.drop_eq_getElem_cons h1
    rw [List.getElem?_eq_getElem h1] at h3
    simp at h3
    rw [h5, h2, h3] at h4
    rw [List.append_assoc]; exact h4.symm

theorem ret_bool {a b : Bool} (h : a = b) : Ending.returned (.bool a) = .returned (.bool b) := by rw [h]
theorem byte_47 (c : UInt8) : (some c == some 47) = ((c.toNat : Int) == 47) := by
  rw [Bool.eq_iff_iff]
  simp only [beq_iff_eq, Option.some.injEq]
  constructor
  · rintro rfl; rfl
  · intro h; exact UInt8.toNat_inj.1 (by simp; omega)

set_option maxRecDepth 100000 in
set_option maxHeartbeats 1000000 in
theorem l1Below_any (p s : ByteArray) (hp : p.size ≤ maxLen) (_hs : s.size ≤ maxLen) (w : World) :
    Calls Try.prog 91 #[.string p, .string s] w fun e w' => e = .returned (.bool (belowB p.data.toList s.data.toList)) ∧ w' = w := by
  unfold maxLen at _hs hp
  rw [belowB_eq, ← Lib.size_eq, ← Lib.size_eq]
  go_enter Try.func91, Try.ntmps91
  go_wp2
  · rename_i h1
    go_ret
    refine ⟨ret_bool ?_, rfl⟩
    rw [Lib.toList_data, Lib.toList_data] at h1
    simp [h1]
  · rename_i h1 h2 h3
    go_ret
    refine ⟨ret_bool ?_, rfl⟩
    rw [Lib.toList_data, Lib.toList_data] at h1 ⊢
    rw [Lib.extract_toList, Lib.toList_data] at h3
    rw [getByte s p.size h2, byte_47]
    simp at h3
    simp [h2, h3]
  · rename_i h1 h2 h3
    go_ret
    refine ⟨ret_bool ?_, rfl⟩
    rw [Lib.toList_data, Lib.toList_data] at h1 ⊢
    rw [Lib.extract_toList, Lib.toList_data] at h3
    simp at h3
    simp [h3]
  · rename_i h1 h2
    go_ret
    refine ⟨ret_bool ?_, rfl⟩
    rw [Lib.toList_data, Lib.toList_data] at h1 ⊢
    simp [h2]

set_option maxRecDepth 100000 in
set_option maxHeartbeats 1000000 in
theorem PathIn_any (p s : ByteArray) (hp : p.size ≤ maxLen) (hs : s.size ≤ maxLen) (w : World) :
    Calls Try.prog 30 #[.string p, .string s] w fun e w' => e = .returned (.bool (inB p.data.toList s.data.toList)) ∧ Below w.heap.size w w' := by
  cases h1 : pathB p.data.toList
  · have E := hid (show inB p.data.toList s.data.toList = false by simp [inB, h1])
    go_enter Try.func30, Try.ntmps30
    go_wp2_with fail
    refine (PathOk_any p hp _).mono ?_
    rintro e w1 ⟨rfl, hb1⟩
    rw [h1]
    go_wp2_with fail
    go_ret
    exact ⟨by rw [unhid E]; rfl, hb1⟩
  · cases h2 : pathB s.data.toList
    · have E := hid (show inB p.data.toList s.data.toList = false by simp [inB, h2])
      go_enter Try.func30, Try.ntmps30
      go_wp2_with fail
      refine (PathOk_any p hp _).mono ?_
      rintro e w1 ⟨rfl, hb1⟩
      rw [h1]
      go_wp2_with fail
      refine (PathOk_any s hs _).mono ?_
      rintro e w2 ⟨rfl, hb2⟩
      rw [h2]
      go_wp2_with fail
      go_ret
      exact ⟨by rw [unhid E]; rfl, hb1.trans (hb2.mono hb1.size)⟩
    · have E := hid (show inB p.data.toList s.data.toList = belowB p.data.toList s.data.toList by simp [inB, h1, h2])
      have hz := pathB_size _ h1
      rw [← Lib.size_eq] at hz
      go_enter Try.func30, Try.ntmps30
      go_wp2_with fail
      refine (PathOk_any p hp _).mono ?_
      rintro e w1 ⟨rfl, hb1⟩
      rw [h1]
      go_wp2_with fail
      refine (PathOk_any s hs _).mono ?_
      rintro e w2 ⟨rfl, hb2⟩
      rw [h2]
      go_wp2_with fail
      · rename_i h3
        rw [Lib.toList_data, Lib.toList_data] at h3
        go_ret
        refine ⟨ret_bool ?_, hb1.trans (hb2.mono hb1.size)⟩
        rw [unhid E, belowB]
        simp [h3]
      · have h3 : ¬ s.toList = p.toList := by assumption
        rw [Lib.toList_data, Lib.toList_data] at h3
        refine (HasPrefix_any s _ _).mono ?_
        rintro e w3 ⟨rfl, rfl⟩
        go_wp2_with fail
        go_ret
        refine ⟨ret_bool ?_, hb1.trans (hb2.mono hb1.size)⟩
        rw [unhid E, belowB, Lib.toList_data, Lib.toList_data]

/-- What the model's PathMove answers. -/
def moveS (s f t : ByteArray) : ByteArray := if inB f.data.toList s.data.toList && pathB t.data.toList && pathB (t ++ s.extract f.size s.size).data.toList then t ++ s.extract f.size s.size else ⟨#[]⟩

theorem inB_size {p s : ByteArray} (h : inB p.data.toList s.data.toList = true) : p.size ≤ s.size ∧ s.size ≤ 54 := by
  simp only [inB, Bool.and_eq_true] at h
  have h1 := pathB_size _ h.1.2
  have h2 := h.2
  rw [belowB_eq] at h2
  simp only [Bool.or_eq_true, Bool.and_eq_true, decide_eq_true_eq, beq_iff_eq] at h2
  rw [← Lib.size_eq] at h1
  rcases h2 with h2 | h2
  · have := congrArg List.length h2
    rw [← Lib.size_eq, ← Lib.size_eq] at this
    omega
  · have := h2.1.1
    rw [← Lib.size_eq, ← Lib.size_eq] at this
    omega

set_option maxRecDepth 100000 in
set_option maxHeartbeats 1000000 in
theorem PathMove_any (s f t : ByteArray) (hs : s.size ≤ maxLen) (hf : f.size ≤ maxLen) (ht : t.size ≤ maxLen) (w : World) :
    Calls Try.prog 31 #[.string s, .string f, .string t] w fun e w' => e = .returned (.string (moveS s f t)) ∧ Below w.heap.size w w' := by
  cases h1 : inB f.data.toList s.data.toList
  · have E := hid (show moveS s f t = ⟨#[]⟩ by simp [moveS, h1])
    go_enter Try.func31, Try.ntmps31
    go_wp2_with fail
    refine (PathIn_any f s hf hs _).mono ?_
    rintro e w1 ⟨rfl, hb1⟩
    rw [h1]
    go_wp2_with fail
    go_ret
    exact ⟨by rw [unhid E]; rfl, hb1⟩
  · obtain ⟨z1, z2⟩ := inB_size h1
    cases h2 : pathB t.data.toList
    · have E := hid (show moveS s f t = ⟨#[]⟩ by simp [moveS, h2])
      go_enter Try.func31, Try.ntmps31
      go_wp2_with fail
      refine (PathIn_any f s hf hs _).mono ?_
      rintro e w1 ⟨rfl, hb1⟩
      rw [h1]
      go_wp2_with fail
      refine (PathOk_any t ht _).mono ?_
      rintro e w2 ⟨rfl, hb2⟩
      rw [h2]
      go_wp2_with fail
      go_ret
      exact ⟨by rw [unhid E]; rfl, hb1.trans (hb2.mono hb1.size)⟩
    · have z3 := pathB_size _ h2
      rw [← Lib.size_eq] at z3
      have zz : (t ++ s.extract f.size s.size).size ≤ maxLen := by unfold maxLen; simp; omega
      have Zz := hid zz
      cases h3 : pathB (t ++ s.extract f.size s.size).data.toList
      · have E := hid (show moveS s f t = ⟨#[]⟩ by rw [moveS, h3]; simp)
        have H3 := hid h3
        clear zz h3
        go_enter Try.func31, Try.ntmps31
        go_wp2_with fail
        refine (PathIn_any f s hf hs _).mono ?_
        rintro e w1 ⟨rfl, hb1⟩
        rw [h1]
        go_wp2_with fail
        refine (PathOk_any t ht _).mono ?_
        rintro e w2 ⟨rfl, hb2⟩
        rw [h2]
        go_wp2_with fail
        refine (PathOk_any _ (unhid Zz) _).mono ?_
        rintro e w3 ⟨rfl, hb3⟩
        rw [unhid H3]
        go_wp2_with fail
        go_ret
        exact ⟨by rw [unhid E]; rfl, hb1.trans ((hb2.trans (hb3.mono hb2.size)).mono hb1.size)⟩
      · have E := hid (show moveS s f t = t ++ s.extract f.size s.size by rw [moveS, h1, h2, h3]; simp)
        have H3 := hid h3
        clear zz h3
        go_enter Try.func31, Try.ntmps31
        go_wp2_with fail
        refine (PathIn_any f s hf hs _).mono ?_
        rintro e w1 ⟨rfl, hb1⟩
        rw [h1]
        go_wp2_with fail
        refine (PathOk_any t ht _).mono ?_
        rintro e w2 ⟨rfl, hb2⟩
        rw [h2]
        go_wp2_with fail
        refine (PathOk_any _ (unhid Zz) _).mono ?_
        rintro e w3 ⟨rfl, hb3⟩
        rw [unhid H3]
        go_wp2_with fail
        go_ret
        exact ⟨by rw [unhid E]; rfl, hb1.trans ((hb2.trans (hb3.mono hb2.size)).mono hb1.size)⟩

end Go.Proofs.Ytaefjibnnbdaaaa

/- What is left of a tree without a place, by the program. -/
namespace Go.Proofs.Ytaefjibnnbdaaaa
open Go.RowKit Go.Shelf

attribute [local go_sem] Oper.semAt_some

def leftE (p : ByteArray) (es : List Ent) : List Ent := es.filter fun e => !inB p.data.toList e.path.data.toList

theorem ent_path_len {e : Ent} (h : entB e = true) : e.path.size ≤ 54 := by
  unfold entB at h
  simp only [Bool.and_eq_true] at h
  have := pathB_size _ h.1
  rwa [Lib.size_eq]
/-- A tree that is gone over stays, where only what is behind a bound changes, and its own box does not. -/
theorem treeIn_kept2 {Bl bt N : Nat} {vp vn : Value} {es : List Ent} {W W' : World} (h : TreeIn (Bl + 1) bt N vp vn es W) (hk : ∀ k, k < Bl → W'.heap[k]? = W.heap[k]?) (hbt : bt < Bl) (hp : ∀ g, vp.ownBlock = some g → g < Bl) (hn : ∀ g, vn.ownBlock = some g → g < Bl)
    (ho : ∀ o, W.heap[Bl + 1]? = some o → Apart o → W'.heap[Bl + 1]? = some o) (hbx : ∃ cs t f, W.heap[Bl + 1]? = some (.cells cs t f) ∧ t ≠ 9 ∧ t ≠ 62) : TreeIn (Bl + 1) bt N vp vn es W' :=
  treeIn_kept h (fun k hkk => by
    rcases hkk with rfl | rfl | h1 | h1
    · obtain ⟨cs, t, f, hw, ht⟩ := hbx
      exact (ho _ hw (fun _ _ _ e => by cases e; exact ht)).trans hw.symm
    · exact hk _ hbt
    · exact hk _ (hp k h1)
    · exact hk _ (hn k h1))
theorem treeAt_grown {W W' : World} {row : Option Nat} {N bt : Nat} {es : List Ent} (h : TreeAt W N bt es) (hg : W.grownBy W' row) (hr : ∀ r, row = some r → ∃ o : Obj, W.heap[r]? = some o ∧ o.isCells = false) : TreeAt W' N bt es := by
  obtain ⟨vp, vn, h1, h2, h3⟩ := h
  exact ⟨vp, vn, cells_grown hg hr h1, row_grown hg hr h2, row_grown hg hr h3⟩
set_option maxRecDepth 100000 in
set_option maxHeartbeats 4000000 in
theorem treeDrop_any (es : List Ent) (a : Option Addr) (cap : Nat) (p : ByteArray) (w : World) (hs : smallE es) (hp : p.size ≤ 1048576) (h : EntsAt w a es) :
    Calls Try.prog 28 #[.slice a es.length cap, .string p] w fun x w' => ∃ v, x = .returned (.tuple #[v, .bool (treeB es && thereE es p)]) ∧ w'.ownsRow w.heap.size 27 4 v (leftE p (keptE es)).length (valsOf (leftE p (keptE es))) ∧ Below w.heap.size w w' := by
  obtain ⟨wA, hwA⟩ : ∃ wA, wA = w.alloc (.cells #[.string p] 9) := ⟨_, rfl⟩
  have hsz : wA.heap.size = w.heap.size + 1 := by rw [hwA]; simp
  have hBA : Below w.heap.size w wA := by rw [hwA]; exact (Below.refl _ w).alloc (Nat.le_refl _) _
  have hbox : wA.heap[w.heap.size]? = some (.cells #[.string p] 9 (0, 0)) := by rw [hwA]; exact World.alloc_heap_new _ _
  have H := hid (treeOf_any es a cap wA hs (h.below (by rw [hwA]; exact (Below.refl _ w).alloc (Nat.le_refl _) _)))
  have HA := hid (And.intro hsz (And.intro hBA hbox))
  have HWA := hid hwA
  clear hs h hwA hsz hBA hbox
  refine (callsIn_wide (n := 3)).1 ?_
  refine callsIn_of_wp_marks Try.func28 rfl trivial ?_ rfl
  simp only [Try.ntmps28, List.size_toArray, List.length_cons, List.length_nil, Nat.reduceAdd, Nat.reduceSub, Array.replicate_succ, Array.replicate_zero, List.push_toArray, List.append_toArray, List.nil_append, List.cons_append]
  gi_wp2
  rw [← unhid HWA]
  refine ⟨trivial, (callsIn_wide.2 (unhid H)).mono ?_⟩
  rintro x w1 ⟨vp, vn, rfl, ⟨t2, t3⟩, hB⟩
  obtain ⟨ap, cp, rfl⟩ := ownsRow_slice t2
  obtain ⟨an, cn, rfl⟩ := ownsRow_slice t3
  obtain ⟨hsz, hBA, hbox⟩ := unhid HA
  obtain ⟨wt, hwt⟩ : ∃ wt, wt = w1.alloc (.cells #[.slice ap (keptE es).length cp, .slice an (keptE es).length cn] 58) := ⟨_, rfl⟩
  have hB1 : Below w.heap.size w w1 := hBA.trans (hB.mono (by omega))
  have hBt : Below w1.heap.size w1 wt := by rw [hwt]; exact (Below.refl _ w1).alloc (Nat.le_refl _) _
  have hBT : Below w.heap.size w wt := hB1.trans (hBt.mono hB1.size)
  have hT : TreeAt wt wA.heap.size w1.heap.size (keptE es) := ⟨_, _, by rw [hwt]; exact World.alloc_heap_new _ _, ownsRow_kept t2 (fun g e => hBt.block g (t2.lt g e).2), ownsRow_kept t3 (fun g e => hBt.block g (t3.lt g e).2)⟩
  have hw1 : wA.heap.size ≤ w1.heap.size := hB.size
  have hbt : wt.heap[w.heap.size]? = some (.cells #[.string p] 9 (0, 0)) := (hBt.block _ (by omega)).trans ((hB.block _ (by omega)).trans hbox)
  have hk := kept_asc es
  have GET := hid (mapGet_any _ _ (keptE es) p wt (by omega) hk.1 hT)
  have d0 := (cell_of_box_l hbt).1
  rw [hwt] at d0
  have HT := hid (And.intro hBT (And.intro hbt hT))
  have HWT := hid hwt
  have KT := hid (kept_there es p)
  clear hT hBT hBt hB1 hB t2 t3 hbox hBA HA HWA H hbt hk hwt
  gi_wp2
  rw [← unhid HWT]
  refine ⟨trivial, (callsIn_wide.2 (unhid GET)).mono ?_⟩
  rintro x w2 ⟨rfl, e2⟩
  subst e2
  rw [unhid KT]
  have hgv : ∃ gv, getV (keptE es) p = gv := ⟨_, rfl⟩
  obtain ⟨gv, hgv⟩ := hgv
  rw [hgv]
  clear hgv d0
  gi_wp2
  have hkl := (kept_asc es).2
  have hka := (kept_asc es).1
  have hkb : ∀ e ∈ keptE es, entB e = true := fun x hx => by
    cases htb : treeB es
    · rw [keptE_no htb] at hx; simp at hx
    · rw [keptE_yes htb] at hx; exact tree_all htb x hx
  generalize hks : keptE es = ks at *
  have HKS := hid hks
  clear hks GET KT
  generalize hth : (treeB es && thereE es p) = th
  have HTH := hid hth
  clear hth
  obtain ⟨w3, hw3⟩ : ∃ w3, w3 = w2.alloc (.cells #[.slice none 0 0, .slice none 0 0] 58) := ⟨_, rfl⟩
  obtain ⟨w4, hw4⟩ : ∃ w4, w4 = w3.alloc (.cells #[.pointer (some ⟨w1.heap.size, 0, none⟩)] 104) := ⟨_, rfl⟩
  have hz3 : w3.heap.size = w2.heap.size + 1 := by rw [hw3]; simp
  have hz4 : w4.heap.size = w2.heap.size + 1 + 1 := by rw [hw4]; simp [hz3]
  have hB3 : Below w2.heap.size w2 w3 := by rw [hw3]; exact (Below.refl _ w2).alloc (Nat.le_refl _) _
  have hB34 : Below w3.heap.size w3 w4 := by rw [hw4]; exact (Below.refl _ w3).alloc (Nat.le_refl _) _
  have hB4 : Below w2.heap.size w2 w4 := hB3.trans (hB34.mono hB3.size)
  obtain ⟨hBT, hbx, vp, vn, t1, t2, t3⟩ := unhid HT
  have hl2 : w.heap.size < w2.heap.size := (Array.getElem?_eq_some_iff.1 hbx).1
  have hbl : w1.heap.size < w2.heap.size := (Array.getElem?_eq_some_iff.1 t1).1
  have hBw : Below w.heap.size w w4 := hBT.trans (hB4.mono (Nat.le_of_lt hl2))
  have hbx4 : w4.heap[w.heap.size]? = some (.cells #[.string p] 9 (0, 0)) := (hB4.block _ hl2).trans hbx
  have hTI : TreeIn (w2.heap.size + 1) w1.heap.size wA.heap.size vp vn ks w4 :=
    ⟨by have := (cell_new_l w3 (.pointer (some ⟨w1.heap.size, 0, none⟩)) 104).1; rw [hz3] at this; rw [hw4]; exact this,
     (hB4.block _ hbl).trans t1, ownsRow_kept t2 (fun g e => hB4.block g (t2.lt g e).2), ownsRow_kept t3 (fun g e => hB4.block g (t3.lt g e).2)⟩
  have hLT : TreeAt w4 w2.heap.size w2.heap.size (putAll (leftE p [])) := ⟨.slice none 0 0, .slice none 0 0, (hB34.block _ (by omega)).trans (by rw [hw3]; exact World.alloc_heap_new _ _), World.ownsRow_nil _ _ _ _, World.ownsRow_nil _ _ _ _⟩
  have hbn4 : w4.heap[w2.heap.size + 1]? = some (.cells #[.pointer (some ⟨w1.heap.size, 0, none⟩)] 104 (0, 0)) := by have := World.alloc_heap_new w3 (.cells #[.pointer (some ⟨w1.heap.size, 0, none⟩)] 104); rw [hz3] at this; rw [hw4]; exact this
  have HAL := hid (all_in Fence.wide 2 trivial rfl w1.heap.size w3)
  rw [hz3, ← hw4] at HAL
  have HRW := hid (And.intro (fun g (eg : vp.ownBlock = some g) => (t2.lt g eg).2) (fun g (eg : vn.ownBlock = some g) => (t3.lt g eg).2))
  rw [← hw3]
  clear hw3 hw4 t1 t2 t3 hB34 hB3 hbx hBT HWT
  refine ⟨trivial, (unhid HAL).mono ?_⟩
  rintro x w5 ⟨rfl, e5⟩
  subst e5
  gi_wp2
  refine wpIn_rangeFunc_ownF rfl (by omega) (gf := 87) (lb := #[.pointer (some ⟨w2.heap.size + 1, 0, none⟩)]) rfl trivial (enters_of Try.func87 (by kernel_rfl) rfl)
    (all_stops Fence.wide _ trivial rfl (by omega) (w2.heap.size + 1) w1.heap.size wA.heap.size vp vn ks (by omega) (fun e => entB e = true) hkb _ hTI) (fun h g x => g (h x)) (fun W l o o' _ hl hc _ h => treeIn_grown h (grownBy_putObj' _ l o') (fun r e => by cases e; exact ⟨_, hl, hc⟩)) (Below.refl _ _) (fun _ => rfl)
    (fun pre W => (TreeAt W w2.heap.size w2.heap.size (putAll (leftE p (pre.map (·.1)))) ∧ TreeIn (w2.heap.size + 1) w1.heap.size wA.heap.size vp vn ks W ∧ W.heap[w.heap.size]? = some (.cells #[.string p] 9 (0, 0)) ∧ W.heap[w2.heap.size + 1]? = some (.cells #[.pointer (some ⟨w1.heap.size, 0, none⟩)] 104 (0, 0))) ∧ Below w.heap.size w W)
    (fun _ _ _ => False)
    (OwnFrom.and (Own.from (fun s A B row hs hg hr => ⟨treeAt_grown hs.1 hg hr, treeIn_grown hs.2.1 hg hr, cells_grown hg hr hs.2.2.1, cells_grown hg hr hs.2.2.2⟩) _) (ownFrom_below (Nat.le_refl _) (by omega)))
    (fun c => fun _ _ _ _ h _ _ => h)
    ⟨⟨hLT, hTI, hbx4, hbn4⟩, hBw⟩
    (fun x => { tmps := #[.slice a es.length cap, .string p, undef, .pointer (some ⟨w.heap.size, 0, none⟩), .slice none 0 0, .bool false, .pointer (some ⟨w1.heap.size, 0, none⟩), .bool (treeB es), gv, .bool th, .pointer (some ⟨w2.heap.size, 0, none⟩), .string x.1.path, nodeV x.1,
      .tuple #[.agg #[.slice ap ks.length cp, .slice an ks.length cn], .bool (treeB es)], .slice a es.length cap, .tuple #[.agg #[.slice ap ks.length cp, .slice an ks.length cn], .bool (treeB es)], .agg #[.slice ap ks.length cp, .slice an ks.length cn], .bool (treeB es), .tuple #[gv, .bool th],
      .pointer (some ⟨w1.heap.size, 0, none⟩), .string p, .tuple #[gv, .bool th], gv, .bool th, .agg #[.slice none 0 0, .slice none 0 0], .pointer (some ⟨w1.heap.size, 0, none⟩), .func (.func 87) #[] #[.pointer (some ⟨w2.heap.size + 1, 0, none⟩)], .string x.1.path, nodeV x.1, undef, undef, undef, undef, undef, undef, undef, undef, undef, undef], defers := [] }) ?assign ?body ?done ?stop
  case assign =>
    intro l x W K hK
    gi_wp2
    exact hK
  case stop => intro D c pre W _ _ h _; exact h.elim
  case body =>
    rintro l pre ⟨e, hx⟩ W ⟨⟨hL, hTI2, hbW, hbn⟩, hB⟩ hpl
    dsimp only
    have hpx : e.path.size ≤ maxLen := by have := ent_path_len hx; unfold maxLen; omega
    have d0 := (cell_of_box_l hbW).1
    obtain ⟨T0, nv, hnv⟩ := nodeV_shape e
    have hpre : (pre.map (·.1)).length = pre.length := List.length_map _
    have hwl : w.heap.size < W.heap.size := (Array.getElem?_eq_some_iff.1 hbW).1
    gi_wp2
    refine ⟨trivial, (CallsIn.inRound l (callsIn_wide.2 (PathIn_any p e.path (by unfold maxLen; omega) hpx _))).mono ?_⟩
    rintro x W2 ⟨rfl, hb⟩
    have hO := KeepsOthers_of_below hb
    have hL2 := hL.below hb
    have HL0 := hid hL2
    have hT2 := treeIn_below hTI2 hb
    have hb2 := (hb.block _ hwl).trans hbW
    have hbn2 := (hb.block _ (Array.getElem?_eq_some_iff.1 hbn).1).trans hbn
    have hB2 := hB.trans (hb.mono hB.size)
    clear hb d0
    cases hin : inB p.data.toList e.path.data.toList
    · have hle : leftE p ((pre ++ [(⟨e, hx⟩ : { e : Ent // entB e = true })]).map (·.1)) = leftE p (pre.map (·.1)) ++ [e] := by unfold leftE; rw [List.map_append, List.filter_append]; simp [hin]
      have hlen : (putAll (leftE p (pre.map (·.1)))).length ≤ 900 := by
        have h1 := putAll_len (leftE p (pre.map (·.1)))
        have h2 : (leftE p (pre.map (·.1))).length ≤ (pre.map (·.1)).length := List.length_filter_le _ _
        omega
      have hput := mapPut_any w2.heap.size w2.heap.size (putAll (leftE p (pre.map (·.1)))) e W2 hlen (up_asc (putAll_up _)) (Nat.le_refl _) hL2
      rw [← putAll_snoc, ← hle] at hput
      rw [hnv] at hput ⊢
      have HP := hid hput
      have HI := hid (And.intro hO (And.intro hT2 (And.intro hb2 (And.intro hbn2 hB2))))
      clear hput hO hL2 hT2 hb2 hB2 hle hlen hL hTI2 hbW hB hbn hbn2
      gi_wp2
      refine ⟨trivial, (CallsIn.inRound l (callsIn_wide.2 (unhid HP))).mono ?_⟩
      rintro x W3 ⟨⟨v, rfl⟩, hT3, hB3, hO3⟩
      obtain ⟨hO, hT2, hb2, hbn2, hB2⟩ := unhid HI
      have hap2 : Apart (.cells #[.pointer (some ⟨w1.heap.size, 0, none⟩)] 104 (0, 0)) := apart_of (by decide)
      have HF := hid (show KeepsOthers W W3 ∧ (TreeIn (w2.heap.size + 1) w1.heap.size wA.heap.size vp vn ks W → TreeIn (w2.heap.size + 1) w1.heap.size wA.heap.size vp vn ks W3) ∧ (TreeAt W3 w2.heap.size w2.heap.size (putAll (leftE p ((pre ++ [(⟨e, hx⟩ : { e : Ent // entB e = true })]).map (·.1)))) ∧ TreeIn (w2.heap.size + 1) w1.heap.size wA.heap.size vp vn ks W3 ∧ W3.heap[w.heap.size]? = some (.cells #[.string p] 9 (0, 0)) ∧ W3.heap[w2.heap.size + 1]? = some (.cells #[.pointer (some ⟨w1.heap.size, 0, none⟩)] 104 (0, 0))) ∧ Below w.heap.size w W3 by
        have hTF : TreeIn (w2.heap.size + 1) w1.heap.size wA.heap.size vp vn ks W3 := treeIn_kept2 hT2 (fun k hk => hB3.block k hk) hbl (unhid HRW).1 (unhid HRW).2 (fun o ho hap => hO3 _ o (by omega) ho hap) ⟨_, _, _, hbn2, by decide⟩
        exact ⟨hO.trans ⟨hB3.size, fun k o hk hc => by
            by_cases hkb : k = w2.heap.size
            · subst hkb; obtain ⟨_, _, q1, _⟩ := (unhid HL0); rw [hk] at q1; cases q1; cases hc
            · exact hO3 k o hkb hk (fun cs t f e => by subst e; cases hc)⟩, fun _ => hTF, ⟨hT3, hTF, (hB3.block _ hl2).trans hb2, hO3 _ _ (by omega) hbn2 hap2⟩, hB2.trans (hB3.mono (Nat.le_of_lt hl2))⟩)
      clear hT3 hB3 hO3 hO hT2 hb2 hB2 hbn2 hap2
      gi_wp2
      exact unhid HF
    · have hle : leftE p ((pre ++ [(⟨e, hx⟩ : { e : Ent // entB e = true })]).map (·.1)) = leftE p (pre.map (·.1)) := by unfold leftE; rw [List.map_append, List.filter_append]; simp [hin]
      have HF := hid (And.intro hO (And.intro hT2 (And.intro hL2 (And.intro hb2 (And.intro hbn2 hB2)))))
      have HE := hid hle
      clear hO hT2 hL2 hb2 hB2 hle hbn2
      gi_wp2
      obtain ⟨hO, hT2, hL2, hb2, hbn2, hB2⟩ := unhid HF
      exact ⟨hO, fun _ => hT2, ⟨by rw [unhid HE]; exact hL2, hT2, hb2, hbn2⟩, hB2⟩
  case done =>
    rintro D ys W hD hys ⟨⟨hL, hTI2, hbW, hbn⟩, hB⟩ hK
    rw [hys, putAll_self (leftE p ks) (List.Pairwise.filter _ (asc_up hka))] at hL
    have hlen : (leftE p ks).length ≤ 1000 := by have : (leftE p ks).length ≤ ks.length := List.length_filter_le _ _; omega
    have ENT := hid (entries_any w2.heap.size w2.heap.size (leftE p ks) W hlen (fun e he => hkb e (List.mem_filter.1 he).1) hL)
    have HI := hid (And.intro hB hK)
    have hDl := (Array.getElem?_eq_some_iff.1 hK).1
    clear hL hTI2 hbW hbn hB hK hlen
    gi_wp2
    refine ⟨trivial, (callsIn_wide.2 (unhid ENT)).mono ?_⟩
    rintro x W3 ⟨v, rfl, hown, hb3⟩
    obtain ⟨va, vc, rfl⟩ := ownsRow_slice hown
    obtain ⟨hB, hK⟩ := unhid HI
    have hK3 := (hb3.block _ hDl).trans hK
    have hB3 := hB.trans (hb3.mono hB.size)
    have HF := hid (And.intro hown (And.intro hB3 (And.intro hK3 hB.size)))
    clear hown hb3 hB hK hK3 hB3
    gi_wp2
    refine ⟨by simp, .inl ⟨_, _, rfl, run_takeDeferred (unhid HF).2.2.1, ?_⟩⟩
    obtain ⟨hown, hB3, hK3, hszW⟩ := unhid HF
    have hg := grownBy_putObj' W3 D (.deferred none)
    have hr : ∀ r, some D = some r → ∃ o : Obj, W3.heap[r]? = some o ∧ o.isCells = false := fun r e => by cases e; exact ⟨_, hK3, rfl⟩
    refine ⟨.tuple #[.slice va (leftE p ks).length vc, .bool th], ?_, _, by rw [unhid HTH], by rw [unhid HKS]; exact ownsRow_base (row_grown hg hr hown) hszW, hB3.trans (belowK_b (w := w) (Nat.le_refl _) _ D _ _ (by omega) hK3 rfl rfl)⟩
    simp [results, Try.f28, go_sem]
end Go.Proofs.Ytaefjibnnbdaaaa

/- What is left of a tree without a place, by the model. -/
namespace Go.Proofs.Ytaefjibnnbdaaaa
open Go.RowKit Go.Shelf

def dropB (p : ByteArray) (es : List Ent) : List Ent := es.filter fun e => !belowB p.data.toList e.path.data.toList
theorem dropB_snoc_yes {p : ByteArray} {es : List Ent} {k : Nat} {e : Ent} (he : es[k]? = some e) (h : belowB p.data.toList e.path.data.toList = false) : dropB p (es.take (k + 1)) = dropB p (es.take k) ++ [e] := by
  unfold dropB; rw [List.take_add_one, he, List.filter_append]; simp [h]
theorem dropB_snoc_no {p : ByteArray} {es : List Ent} {k : Nat} {e : Ent} (he : es[k]? = some e) (h : belowB p.data.toList e.path.data.toList = true) : dropB p (es.take (k + 1)) = dropB p (es.take k) := by
  unfold dropB; rw [List.take_add_one, he, List.filter_append]; simp [h]

set_option maxRecDepth 100000 in
set_option maxHeartbeats 4000000 in
theorem l2Drop_any (es : List Ent) (p : ByteArray) (b o cap : Nat) (w : World) (hs : smallE es) (hp : p.size ≤ 1048576) (h : ∀ (i : Nat) e, es[i]? = some e → EntAt w b (o + i * 4) e) (hb : b < w.heap.size) :
    Calls Try.prog 66 #[.slice (some ⟨b, o, none⟩) es.length cap, .string p] w fun x w' => ∃ v, x = .returned v ∧ w'.ownsRow w.heap.size 27 4 v (dropB p es).length (valsOf (dropB p es)) ∧ Below w.heap.size w w' := by
  obtain ⟨i0, hi0, hz0, hzs, hzb⟩ := info_parts infoEntry
  have HI := hid (And.intro hi0 (And.intro hz0 (And.intro hzs hzb)))
  have hn := hs.1
  have HS := hid hs
  have HH := hid h
  have HF0 := hid (And.intro (owns_empty w w.heap.size (Nat.le_refl _) 27) ((Below.refl w.heap.size w).alloc (Nat.le_refl _) (.cells #[] 27)))
  clear hi0 hz0 hzs hzb hs h
  go_enter Try.func66, Try.ntmps66
  go_wp2_with fail
  go_loopw [5, 6] (fun v i wr => ∃ k : Nat, k ≤ es.length ∧ i = .int .i64 (k : Int) ∧ Hid (wr.ownsRow w.heap.size 27 4 v (dropB p (es.take k)).length (valsOf (dropB p (es.take k)))) ∧ Hid (Below w.heap.size w wr)) (fun _ i _ => es.length - (intOf i).toNat)
  case atStart => exact ⟨0, Nat.zero_le _, rfl, hid (by simp [dropB, valsOf]; exact (unhid HF0).1), hid (unhid HF0).2⟩
  case round =>
    obtain ⟨k, hk, rfl, HO, HB⟩ := hrel
    obtain ⟨va, vc, rfl⟩ := ownsRow_slice (unhid HO)
    by_cases hlt : k < es.length
    · obtain ⟨e, he⟩ : ∃ e, es[k]? = some e := ⟨es[k], List.getElem?_eq_getElem hlt⟩
      obtain ⟨c0, c1, c2, c3⟩ := ((unhid HH) k e he).below (unhid HB) hb
      have hpe := ((unhid HS).2 e (List.mem_of_getElem? he)).1
      have hdl : (dropB p (es.take k)).length ≤ es.length := Nat.le_trans (List.length_filter_le _ _) (by simp; omega)
      cases hbl : belowB p.data.toList e.path.data.toList
      · have HE := hid (dropB_snoc_yes he hbl)
        clear he
        go_wp2_with fail
        refine (l1Below_any p e.path (by unfold maxLen; omega) (by unfold maxLen; omega) _).mono ?_
        rintro x w2 ⟨rfl, e2⟩
        subst e2
        rw [hbl]
        have hsz := (unhid HB).size
        have HO2 := hid ((unhid HO).alloc (.cells #[.string e.path, .int .i64 e.kind, .int .i64 e.mode, .string e.text] 27))
        have HB2 := hid ((unhid HB).alloc hsz (.cells #[.string e.path, .int .i64 e.kind, .int .i64 e.mode, .string e.text] 27))
        go_wp2_with (at_builtin; refine wpList_append_own _ rfl _ _ 23 rfl w.heap.size 27 i0 _ 4 48 Try.underlying23 (unhid HI).1 (unhid HI).2.1 (unhid HI).2.2.1 (unhid HI).2.2.2 rfl (by decide) _ (dropB p (es.take k)).length (valsOf (dropB p (es.take k))) rfl (unhid HO2) ⟨w2.heap.size, 0, none⟩ 1 1 [.string e.path, .int .i64 e.kind, .int .i64 e.mode, .string e.text] rfl rfl (lit_cells w2 _ _ _ _ _) ?c2 ?c3 ?c4 ?c5 ?_)
        case c2 => intro u hu; simp at hu; rcases hu with rfl | rfl | rfl | rfl <;> rfl
        case c3 => unfold maxLen; omega
        case c4 => omega
        case c5 => simp; omega
        intro v' w3 hown hg _
        obtain ⟨a2, cap2, rfl⟩ := ownsRow_slice hown
        have HF := hid (show w3.ownsRow w.heap.size 27 4 (.slice a2 ((dropB p (es.take k)).length + 1) cap2) (dropB p (es.take (k + 1))).length (valsOf (dropB p (es.take (k + 1)))) ∧ Below w.heap.size w w3 from
          ⟨by rw [unhid HE, List.length_append, valsOf_snoc]; exact hown, (unhid HB2).grown hg (unhid HB2).size (fun k e => ((unhid HO2).lt k e).1)⟩)
        clear hown hg
        go_wp2_with fail
        go_roundw
        case rel => exact ⟨k + 1, by omega, by go_num, hid (unhid HF).1, hid (unhid HF).2⟩
        case measure => simp [intOf]; omega
      · have HE := hid (dropB_snoc_no he hbl)
        clear he
        go_wp2_with fail
        refine (l1Below_any p e.path (by unfold maxLen; omega) (by unfold maxLen; omega) _).mono ?_
        rintro x w2 ⟨rfl, e2⟩
        subst e2
        rw [hbl]
        go_wp2_with fail
        go_roundw
        case rel => exact ⟨k + 1, by omega, by go_num, hid (by rw [unhid HE]; exact unhid HO), HB⟩
        case measure => simp [intOf]; omega
    · have e : k = es.length := by omega
      subst e
      rw [List.take_of_length_le (Nat.le_refl _)] at HO ⊢
      go_wp2_with fail
      go_ret
      exact ⟨_, rfl, unhid HO, unhid HB⟩
end Go.Proofs.Ytaefjibnnbdaaaa

/- What holds of paths as lists of bytes: what a path is in is a path; it is in that; moved, and back. -/
namespace Go.Proofs.Ytaefjibnnbdaaaa

theorem lastIx_get (b : UInt8) : ∀ l : List UInt8, 0 ≤ lastIx b l → l[(lastIx b l).toNat]? = some b
  | [], h => by simp [lastIx] at h
  | c :: l, h => by
    by_cases hl : 0 ≤ lastIx b l
    · have ih := lastIx_get b l hl
      have e : lastIx b (c :: l) = lastIx b l + 1 := by simp [lastIx, hl]
      rw [e, show (lastIx b l + 1).toNat = (lastIx b l).toNat + 1 from by omega]
      simpa using ih
    · by_cases hc : (c == b) = true
      · have e : lastIx b (c :: l) = 0 := by simp [lastIx, hl, hc]
        rw [e]; simpa using hc
      · have e : lastIx b (c :: l) = -1 := by simp [lastIx, hl, hc]
        omega
theorem lastIx_after (b : UInt8) : ∀ (l : List UInt8) (j : Nat), lastIx b l < j → l[j]? ≠ some b
  | [], j, _ => by simp
  | c :: l, j, h => by
    have hg := lastIx_ge b l
    by_cases hl : 0 ≤ lastIx b l
    · have e : lastIx b (c :: l) = lastIx b l + 1 := by simp [lastIx, hl]
      cases j with
      | zero => omega
      | succ j => simpa using lastIx_after b l j (by omega)
    · cases j with
      | zero =>
        by_cases hc : (c == b) = true
        · have e : lastIx b (c :: l) = 0 := by simp [lastIx, hl, hc]
          omega
        · simpa using hc
      | succ j => simpa using lastIx_after b l j (by omega)
theorem split_last (b : UInt8) (l : List UInt8) (h : 0 ≤ lastIx b l) : l.take (lastIx b l).toNat ++ b :: l.drop (lastIx b l + 1).toNat = l := by
  have hg := lastIx_get b l h
  have hlt := (List.getElem?_eq_some_iff.1 hg).1
  have h2 := (List.getElem?_eq_some_iff.1 hg).2
  rw [show (lastIx b l + 1).toNat = (lastIx b l).toNat + 1 from by omega]
  conv => rhs; rw [← List.take_append_drop (lastIx b l).toNat l, List.drop_eq_getElem_cons hlt, h2]
theorem cutB_take (b : UInt8) : ∀ l : List UInt8, 0 ≤ lastIx b l → cutB b (l.take (lastIx b l).toNat) = (cutB b l).dropLast
  | [], h => by simp [lastIx] at h
  | c :: l, h => by
    by_cases hl : 0 ≤ lastIx b l
    · have ih := cutB_take b l hl
      obtain ⟨x, y, t, e⟩ := (cutB_lastIx b l).2.1 hl
      have el : lastIx b (c :: l) = lastIx b l + 1 := by simp [lastIx, hl]
      rw [el, show (lastIx b l + 1).toNat = (lastIx b l).toNat + 1 from by omega, List.take_succ_cons]
      by_cases hc : (c == b) = true
      · simp [cutB, hc, ih, e]
      · simp [cutB, hc, ih, e]
    · by_cases hc : (c == b) = true
      · have el : lastIx b (c :: l) = 0 := by simp [lastIx, hl, hc]
        have e1 := (cutB_lastIx b l).1 (by omega)
        rw [el]
        simp [cutB, hc, e1]
      · have el : lastIx b (c :: l) = -1 := by simp [lastIx, hl, hc]
        omega
theorem pathB_up (l : List UInt8) (h : pathB l = true) (hi : 0 ≤ lastIx 47 l) : pathB (l.take (lastIx 47 l).toNat) = true := by
  simp only [pathB, Bool.and_eq_true, decide_eq_true_eq, List.all_eq_true] at h ⊢
  rw [cutB_take 47 l hi]
  exact ⟨by simp; omega, fun x hx => h.2 x ((List.dropLast_prefix _).subset hx)⟩
theorem pathB_ne (l : List UInt8) (h : pathB l = true) : l ≠ [] := by
  rintro rfl
  simp [pathB, cutB, nameOkB] at h
theorem belowB_refl (l : List UInt8) : belowB l l = true := by simp [belowB]
theorem belowB_app (l t : List UInt8) : belowB l (l ++ 47 :: t) = true := by
  simp only [belowB, Lib.hasPrefix, Bool.or_eq_true]
  exact .inr (List.isPrefixOf_iff_prefix.2 ⟨t, by simp⟩)
theorem belowB_cases {p s : List UInt8} (h : belowB p s = true) : s = p ∨ ∃ t, s = p ++ 47 :: t := by
  simp only [belowB, Lib.hasPrefix, Bool.or_eq_true, beq_iff_eq] at h
  rcases h with h | h
  · exact .inl h
  · obtain ⟨t, rfl⟩ := List.isPrefixOf_iff_prefix.1 h
    exact .inr ⟨t, by simp⟩
theorem belowB_long {p s : List UInt8} (h : s.length < p.length) : belowB p s = false := by
  cases hb : belowB p s with
  | false => rfl
  | true =>
    rcases belowB_cases hb with rfl | ⟨t, rfl⟩
    · omega
    · simp at h; omega
theorem inB_refl (l : List UInt8) (h : pathB l = true) : inB l l = true := by simp [inB, h, belowB_refl]
theorem inB_up (l : List UInt8) (h : pathB l = true) (hi : 0 ≤ lastIx 47 l) : inB (l.take (lastIx 47 l).toNat) l = true := by
  simp only [inB, pathB_up l h hi, h, Bool.and_self, Bool.true_and]
  conv => lhs; rw [← split_last 47 l hi]
  have e : (l.take (lastIx 47 l).toNat ++ 47 :: l.drop (lastIx 47 l + 1).toNat).take (lastIx 47 (l.take (lastIx 47 l).toNat ++ 47 :: l.drop (lastIx 47 l + 1).toNat)).toNat = l.take (lastIx 47 l).toNat := by rw [split_last 47 l hi]
  rw [e]
  exact belowB_app _ _
theorem inB_trans {a b c : List UInt8} (h : inB a b = true) (g : inB b c = true) : inB a c = true := by
  simp only [inB, Bool.and_eq_true] at h g ⊢
  refine ⟨⟨h.1.1, g.1.2⟩, ?_⟩
  rcases belowB_cases g.2 with rfl | ⟨t, rfl⟩
  · exact h.2
  · rcases belowB_cases h.2 with rfl | ⟨u, rfl⟩
    · exact belowB_app _ _
    · rw [List.append_assoc]; exact belowB_app _ _

theorem up_none {s : ByteArray} (hi : lastIx 47 s.data.toList < 0) : pathUpS s = ⟨#[]⟩ := by simp [pathUpS, upS, hi]
theorem last_none {s : ByteArray} (h : pathB s.data.toList = true) (hi : lastIx 47 s.data.toList < 0) : pathLastS s = s := by
  have hg := lastIx_ge 47 s.data.toList
  apply ba_ext
  rw [pathLastS, h, if_pos rfl, lastS, Lib.extract_data, show (lastIx 47 s.data.toList + 1).toNat = 0 from by omega]
  rw [List.take_of_length_le (by simp)]; rfl
theorem up_some {s : ByteArray} (h : pathB s.data.toList = true) (hi : 0 ≤ lastIx 47 s.data.toList) : (pathUpS s).data.toList = s.data.toList.take (lastIx 47 s.data.toList).toNat := by
  rw [pathUpS, h, if_pos rfl, upS, if_neg (by omega), Lib.extract_data]; simp
theorem last_some {s : ByteArray} (h : pathB s.data.toList = true) : (pathLastS s).data.toList = s.data.toList.drop (lastIx 47 s.data.toList + 1).toNat := by
  rw [pathLastS, h, if_pos rfl, lastS, Lib.extract_data, List.take_of_length_le (by simp)]
theorem size_app (x y : ByteArray) : (x ++ y).size = x.size + y.size := by simp
theorem data_app (x y : ByteArray) : (x ++ y).data.toList = x.data.toList ++ y.data.toList := by simp
theorem size_up (s : ByteArray) : (pathUpS s).size ≤ s.size := by
  unfold pathUpS upS
  split
  · split
    · exact Nat.zero_le _
    · simp; omega
  · exact Nat.zero_le _
theorem size_last (s : ByteArray) : (pathLastS s).size ≤ s.size := by
  unfold pathLastS lastS
  split
  · simp
  · exact Nat.zero_le _

/-- What FnPath asks, of a path with a slash. -/
theorem fnPath_facts {s : ByteArray} (h : pathB s.data.toList = true) (hi : 0 ≤ lastIx 47 s.data.toList) :
    ¬ (pathUpS s).toList = [] ∧ (pathUpS s ++ ⟨#[47]⟩ ++ pathLastS s).toList = s.toList ∧ pathB (pathUpS s).data.toList = true ∧ inB (pathUpS s).data.toList s.data.toList = true ∧ inB s.data.toList (pathUpS s).data.toList = false := by
  have hp : pathB (pathUpS s).data.toList = true := by rw [up_some h hi]; exact pathB_up _ h hi
  refine ⟨?_, ?_, hp, ?_, ?_⟩
  · rw [Lib.toList_data]; exact pathB_ne _ hp
  · rw [Lib.toList_data, Lib.toList_data, data_app, data_app, up_some h hi, last_some h]
    have := split_last 47 s.data.toList hi
    rw [List.append_assoc]
    exact this
  · rw [up_some h hi]; exact inB_up _ h hi
  · have hl := (List.getElem?_eq_some_iff.1 (lastIx_get 47 s.data.toList hi)).1
    have : belowB s.data.toList (pathUpS s).data.toList = false := belowB_long (by rw [up_some h hi, List.length_take]; omega)
    simp [inB, this]
end Go.Proofs.Ytaefjibnnbdaaaa

/- What holds of a path in a place, and of one that is moved. -/
namespace Go.Proofs.Ytaefjibnnbdaaaa

theorem empty_toList : (ByteArray.mk #[]).toList = [] := by rw [Lib.toList_data]
theorem inB_parts {p s : List UInt8} (h : inB p s = true) : pathB p = true ∧ pathB s = true ∧ belowB p s = true := by
  simp only [inB, Bool.and_eq_true] at h
  exact ⟨h.1.1, h.1.2, h.2⟩
theorem inB_mk {p s : List UInt8} (h1 : pathB p = true) (h2 : pathB s = true) (h3 : belowB p s = true) : inB p s = true := by simp [inB, h1, h2, h3]

theorem in_up {p s : List UInt8} (h : inB p s = true) (hne : s ≠ p) : 0 ≤ lastIx 47 s ∧ inB p (s.take (lastIx 47 s).toNat) = true ∧ inB s p = false := by
  obtain ⟨h1, h2, h3⟩ := inB_parts h
  rcases belowB_cases h3 with rfl | ⟨t, rfl⟩
  · exact absurd rfl hne
  · have hat : (p ++ 47 :: t)[p.length]? = some 47 := by simp
    have hle : (p.length : Int) ≤ lastIx 47 (p ++ 47 :: t) := by
      rcases Int.lt_or_le (lastIx 47 (p ++ 47 :: t)) p.length with hlt | hge
      · exact absurd hat (lastIx_after 47 _ _ hlt)
      · exact hge
    refine ⟨by omega, inB_mk h1 (pathB_up _ h2 (by omega)) ?_, ?_⟩
    · obtain ⟨k, hk⟩ : ∃ k, (lastIx 47 (p ++ 47 :: t)).toNat = p.length + k := ⟨(lastIx 47 (p ++ 47 :: t)).toNat - p.length, by omega⟩
      rw [hk, List.take_length_add_append]
      cases k with
      | zero => simp [belowB_refl]
      | succ k => rw [List.take_succ_cons]; exact belowB_app _ _
    · have := belowB_long (p := p ++ 47 :: t) (s := p) (by simp)
      simp [inB, this]

/-- What FnPathIn asks of a path in a place, and not the place. -/
theorem fnPathIn_facts {p s : ByteArray} (h : inB p.data.toList s.data.toList = true) (hne : ¬ p.toList = s.toList) :
    inB p.data.toList (pathUpS s).data.toList = true ∧ inB s.data.toList p.data.toList = false := by
  rw [Lib.toList_data, Lib.toList_data] at hne
  obtain ⟨h1, h2, h3⟩ := in_up h (fun e => hne e.symm)
  exact ⟨by rw [up_some (inB_parts h).2.1 h1]; exact h2, h3⟩
theorem fnPathIn_up {p s : ByteArray} (h : inB p.data.toList s.data.toList = true) (hu : ¬ (pathUpS p).toList = []) : inB (pathUpS p).data.toList s.data.toList = true := by
  by_cases hi : lastIx 47 p.data.toList < 0
  · rw [up_none hi] at hu; exact absurd empty_toList hu
  · refine inB_trans ?_ h
    rw [up_some (inB_parts h).1 (by omega)]
    exact inB_up _ (inB_parts h).1 (by omega)

theorem drop_size (f s : ByteArray) : (s.extract f.size s.size).data.toList = s.data.toList.drop f.data.toList.length := by
  rw [Lib.extract_data, List.take_of_length_le (by simp), ← Lib.size_eq]
theorem move_back {s f t : ByteArray} (h : inB f.data.toList s.data.toList = true) (ht : pathB t.data.toList = true) (hx : pathB (t ++ s.extract f.size s.size).data.toList = true) :
    inB t.data.toList (t ++ s.extract f.size s.size).data.toList = true ∧ moveS (t ++ s.extract f.size s.size) t f = s := by
  obtain ⟨h1, h2, h3⟩ := inB_parts h
  have hd : (t ++ s.extract f.size s.size).data.toList = t.data.toList ++ s.data.toList.drop f.data.toList.length := by rw [data_app, drop_size]
  have hin : inB t.data.toList (t ++ s.extract f.size s.size).data.toList = true := by
    refine inB_mk ht hx ?_
    rw [hd]
    rcases belowB_cases h3 with e | ⟨r, e⟩
    · rw [e, List.drop_length, List.append_nil]; exact belowB_refl _
    · rw [e, List.drop_left]; exact belowB_app _ _
  refine ⟨hin, ?_⟩
  have he : f ++ (t ++ s.extract f.size s.size).extract t.size (t ++ s.extract f.size s.size).size = s := by
    apply ba_ext
    rw [data_app, drop_size, hd, List.drop_left]
    rcases belowB_cases h3 with e | ⟨r, e⟩
    · rw [e, List.drop_length, List.append_nil]
    · rw [e, List.drop_left]
  unfold moveS
  rw [hin, h1, he, h2]
  rfl
theorem move_same {s f : ByteArray} (h : inB f.data.toList s.data.toList = true) : moveS s f f = s := by
  obtain ⟨h1, h2, h3⟩ := inB_parts h
  have he : f ++ s.extract f.size s.size = s := by
    apply ba_ext
    rw [data_app, drop_size]
    rcases belowB_cases h3 with e | ⟨r, e⟩
    · rw [e, List.drop_length, List.append_nil]
    · rw [e, List.drop_left]
  unfold moveS
  rw [h, h1, he, h2]
  rfl
theorem size_move (s f t : ByteArray) : (moveS s f t).size ≤ s.size + t.size := by
  unfold moveS
  split
  · simp; omega
  · exact Nat.zero_le _
/-- What FnPathMove asks of what was moved. -/
theorem fnPathMove_facts {s f t : ByteArray} (hne : ¬ (moveS s f t).toList = []) :
    pathB (moveS s f t).data.toList = true ∧ inB t.data.toList (moveS s f t).data.toList = true ∧ moveS (moveS s f t) t f = s ∧ moveS s f f = s := by
  by_cases hc : (inB f.data.toList s.data.toList && pathB t.data.toList && pathB (t ++ s.extract f.size s.size).data.toList) = true
  · have e : moveS s f t = t ++ s.extract f.size s.size := by unfold moveS; rw [if_pos hc]
    simp only [Bool.and_eq_true] at hc
    obtain ⟨m1, m2⟩ := move_back hc.1.1 hc.1.2 hc.2
    rw [e]
    exact ⟨hc.2, m1, m2, move_same hc.1.1⟩
  · have e : moveS s f t = ⟨#[]⟩ := by unfold moveS; rw [if_neg hc]
    rw [e] at hne
    exact absurd empty_toList hne
end Go.Proofs.Ytaefjibnnbdaaaa
