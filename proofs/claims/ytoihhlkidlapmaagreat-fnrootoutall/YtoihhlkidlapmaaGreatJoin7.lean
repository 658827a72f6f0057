/- Texts of this proof, one behind the other; each says at its head what it shows. -/
import Derived.Test.YtoihhlkidlapmaaGreatJoin6
import Derived.Deep.RegionHeld
import Derived.Maps.AppendAt
import Derived.Test.YtoihhlkidlapmaaGreatJoin3
import Derived.Laws.Entries
import Derived.Test.YtoihhlkidlapmaaGreatJoin1
import Derived.Deep.Slices
import Derived.Lib.SmallJoins
import Derived.Test.YtoihhlkidlapmaaGreatJoin4
namespace Go.Proofs.YtoihhlkidlapmaaGreat
open Go.RowKit Go.Shelf
theorem below_set4 {B : Nat} {a w : World} (h : Below B a w) {g : Nat} (hg : B ≤ g) (j : Nat) (e : Ent) : Below B a ((((w.setCell ⟨g, j * 4, none⟩ (.string e.path)).setCell ⟨g, j * 4 + 1, none⟩ (.int .i64 e.kind)).setCell ⟨g, j * 4 + 2, none⟩ (.int .i64 e.mode)).setCell ⟨g, j * 4 + 3, none⟩ (.string e.text)) :=
  (((h.setCell (p := ⟨g, j * 4, none⟩) hg _).setCell (p := ⟨g, j * 4 + 1, none⟩) hg _).setCell (p := ⟨g, j * 4 + 2, none⟩) hg _).setCell (p := ⟨g, j * 4 + 3, none⟩) hg _
theorem step_append_at {P : Program} {w : World} {ops : Array Oper} {o : Oper} {a : Act} {K : Act → World → Prop} {Q : Exit → Act → World → Prop} {E : Prop} (hgd : o.guard = none) (s x : Operand) (t : TypeId)
    (ho : o.op = .call { callee := .builtin .append, args := #[s, x], argTypes := #[t, t] })
    (base : Nat) (e : TypeId) (i : TypeInfo) (z : Value) (size bytes : Nat) (ht : P.underlying t = some (.slice e)) (hi : P.info? e = some i) (hz : i.zero = some z)
    (hsize : i.size = size) (hby : i.bytes = bytes) (hzs : z.cells.size = size) (hsz : 0 < size)
    (v : Value) (n : Nat) (xs : List Value) (hs : a.eval s = v) (hown : w.ownsRow base e size v n xs)
    (ad : Addr) (m c : Nat) (news : List Value) (hx : a.eval x = .slice (some ad) m c) (hl : news.length = m * size) (hnews : ∀ j u, news[j]? = some u → w.cell? (ad.add j) = some u) (h1 : ∀ u ∈ news, u.oneCell' = true)
    (h63 : n + m ≤ maxLen) (hbytes : (n + m) * bytes ≤ 140737488355328) (hbase : base ≤ w.heap.size)
    (h : ∀ v' w', w'.ownsRow base e size v' (n + m) (xs ++ news) → w.grownBy w' v.ownBlock → (v'.ownBlock = v.ownBlock ∨ v'.ownBlock = some w.heap.size) → K (a.put o.dst v') w') :
    if Region.wanted o (yielded ops a.tmps) = true then Oper.wp P o a w K Q else E := by
  have hw : Region.wanted o (yielded ops a.tmps) = true := by simp [Region.wanted, hgd]
  rw [if_pos hw]
  obtain ⟨v', w', hr, h2, h3, _, h5⟩ := run_append_own_at (P := P) w base t o.type e i z size bytes ht hi hz hsize hby hzs hsz v n xs hown ad m c news hl hnews h1 h63 hbytes hbase
  unfold Oper.wp execOp
  simp only [ho, resolve, invoke, builtin, Sem.run_bind, Sem.run_pure, Result.andThen_ok, List.map_toArray, List.map_cons, List.map_nil, hs, hx, hr]
  exact h v' w' h2 h3 h5
def offD (cap k : Nat) : Nat := if cap = k then 0 else k * 4
theorem ents_dropD {W : World} {b o k cap : Nat} {es : List Ent} (h : ∀ (i : Nat) e, es[i]? = some e → EntAt W b (o + i * 4) e) (hc : es.length ≤ cap) : ∀ (i : Nat) e, (es.drop k)[i]? = some e → EntAt W b (o + offD cap k + i * 4) e := fun i e hi => by
  by_cases hck : cap = k
  · have : es.drop k = [] := List.drop_eq_nil_of_le (by omega)
    rw [this] at hi; simp at hi
  · unfold offD; rw [if_neg hck]; exact ents_drop h i e hi
def OneAt (W : World) (g : Nat) (e : Ent) : Prop := W.heap[g]? = some (.cells e.vals 57 (0, 0))
theorem OneAt.lt {W : World} {g : Nat} {e : Ent} (h : OneAt W g e) : g < W.heap.size := (Array.getElem?_eq_some_iff.1 h).1
theorem OneAt.alloc {W : World} {g : Nat} {e : Ent} (h : OneAt W g e) (o : Obj) : OneAt (W.alloc o) g e := (Below.heap_alloc _ _ _ h.lt).trans h
theorem OneAt.grown {W W' : World} {g : Nat} {e : Ent} {row : Option Nat} (h : OneAt W g e) (hg : W.grownBy W' row) (hr : some g ≠ row) : OneAt W' g e := (hg.block g h.lt hr).trans h
theorem OneAt.cells {W : World} {g : Nat} {e : Ent} (h : OneAt W g e) : ∀ j u, (valsOf [e])[j]? = some u → W.cell? ((⟨g, 0, none⟩ : Addr).add j) = some u := by
  intro j u hj
  rw [add_plain4, Nat.zero_add]
  have hj' : e.vals[j]? = some u := by
    have : (valsOf [e]) = e.vals.toList := by simp [valsOf]
    rw [this, Array.getElem?_toList] at hj; exact hj
  show W.cell? ⟨g, j, none⟩ = some u
  unfold OneAt at h
  simp only [World.cell?, h]
  exact hj'
theorem valsOf_app (xs ys : List Ent) : valsOf (xs ++ ys) = valsOf xs ++ valsOf ys := by simp [valsOf]
theorem valsOf_set (es : List Ent) (j : Nat) (e : Ent) (hj : j < es.length) : valsOf (es.set j e) = ((((valsOf es).set (j * 4) (.string e.path)).set (j * 4 + 1) (.int .i64 e.kind)).set (j * 4 + 2) (.int .i64 e.mode)).set (j * 4 + 3) (.string e.text) := by
  have hl := valsOf_len es
  apply List.ext_getElem?
  intro i
  have e1 : i = i / 4 * 4 + i % 4 := by omega
  have hr : i % 4 < 4 := Nat.mod_lt _ (by omega)
  generalize i / 4 = m at e1
  generalize i % 4 = r at e1 hr
  subst e1
  rw [valsOf_get _ _ _ hr, List.getElem?_set, List.getElem?_set, List.getElem?_set, List.getElem?_set, List.getElem?_set, valsOf_get _ _ _ hr]
  simp only [List.length_set]
  by_cases ej : j = m
  · subst ej
    rw [if_pos rfl, if_pos hj]
    match r, hr with
    | 0, _ => rw [if_neg (by omega), if_neg (by omega), if_neg (by omega), if_pos (by omega), if_pos (by omega)]; rfl
    | 1, _ => rw [if_neg (by omega), if_neg (by omega), if_pos (by omega), if_pos (by omega)]; rfl
    | 2, _ => rw [if_neg (by omega), if_pos (by omega), if_pos (by omega)]; rfl
    | 3, _ => rw [if_pos (by omega), if_pos (by omega)]; rfl
  · rw [if_neg ej, if_neg (by omega), if_neg (by omega), if_neg (by omega), if_neg (by omega)]
theorem ownsRow_set4 {W : World} {N j g : Nat} {v : Value} {es : List Ent} (h : W.ownsRow N 57 4 v es.length (valsOf es)) (hj : j < es.length) (hg : v.ownBlock = some g) (e : Ent) :
    ((((W.setCell ⟨g, j * 4, none⟩ (.string e.path)).setCell ⟨g, j * 4 + 1, none⟩ (.int .i64 e.kind)).setCell ⟨g, j * 4 + 2, none⟩ (.int .i64 e.mode)).setCell ⟨g, j * 4 + 3, none⟩ (.string e.text)).ownsRow N 57 4 v es.length (valsOf (es.set j e)) := by
  refine ⟨by rw [valsOf_len, List.length_set], ?_⟩
  rcases h.2 with ⟨rfl, h0⟩ | ⟨g', cap, cur, rfl, hN, hh, hc, hm, hsz, hcells⟩
  · cases hg
  · cases hg
    refine .inr ⟨g', cap, (((cur.setIfInBounds (j * 4) (.string e.path)).setIfInBounds (j * 4 + 1) (.int .i64 e.kind)).setIfInBounds (j * 4 + 2) (.int .i64 e.mode)).setIfInBounds (j * 4 + 3) (.string e.text), rfl, hN, ?_, hc, hm, by simpa using hsz, ?_⟩
    · exact heap_setCell_same _ g' _ _ _ _ (heap_setCell_same _ g' _ _ _ _ (heap_setCell_same _ g' _ _ _ _ (heap_setCell_same _ g' _ _ _ _ hh)))
    · rw [valsOf_set es j e hj, ← hcells]
      simp only [Array.toList_setIfInBounds, List.take_set]
def SomeV (v : Value) : Prop := ∃ ad n c, v = .slice (some ad) n c
theorem owns_some {W : World} {N n size : Nat} {v : Value} {e : TypeId} {xs : List Value} (h : W.ownsRow N e size v n xs) (hn : 0 < n) : SomeV v := by
  rcases h.2 with ⟨rfl, h0⟩ | ⟨g, cap, cur, rfl, _⟩
  · omega
  · exact ⟨_, _, _, rfl⟩
set_option maxRecDepth 100000 in
set_option maxHeartbeats 4000000 in
theorem l2Put_full (es : List Ent) (e : Ent) (b o cap : Nat) (w : World) (hn : es.length ≤ 16) (hc : es.length ≤ cap) (hp : e.path.size ≤ 1048576) (ht : e.text.size ≤ 1048576) (h : ∀ (i : Nat) e, es[i]? = some e → EntAt w b (o + i * 4) e) (hb : b < w.heap.size) :
    Calls Tryz.prog 222 #[.slice (some ⟨b, o, none⟩) es.length cap, .agg e.vals] w fun x w' => ∃ v, x = .returned (.tuple #[v, .bool (okPut es e)]) ∧ w'.ownsRow w.heap.size 57 4 v (putL es e).length (valsOf (putL es e)) ∧ Below w.heap.size w w' ∧ SomeV v := by
  obtain ⟨w1, hw1⟩ : ∃ w1, w1 = w.alloc (.cells #[.string e.path, .int .i64 e.kind, .int .i64 e.mode, .string e.text] 57) := ⟨_, rfl⟩
  have hB1 : Below w.heap.size w w1 := by rw [hw1]; exact (Below.refl _ w).alloc (Nat.le_refl _) _
  have hbx1 : w1.heap[w.heap.size]? = some (.cells #[.string e.path, .int .i64 e.kind, .int .i64 e.mode, .string e.text] 57 (0, 0)) := by rw [hw1]; exact World.alloc_heap_new _ _
  have hE1 := entAt_below h (.inr hb) hB1
  have hb1 : b < w1.heap.size := Nat.lt_of_lt_of_le hb hB1.size
  have hat1 : EntsAt w1 (some ⟨b, o, none⟩) es := .inr ⟨b, o, rfl, hb1, hE1⟩
  have AT := hid (l2At_any es (some ⟨b, o, none⟩) cap e.path w1 (by omega) hat1)
  have H1 := hid (And.intro hB1 (And.intro hbx1 hE1))
  have HW1 := hid hw1
  obtain ⟨⟨d0, d1, d2, d3⟩, -⟩ := four_cells hbx1
  rw [hw1] at d0
  clear hB1 hbx1 hE1 hat1 hw1 h d1 d2 d3
  go_enter Tryz.func222, Tryz.ntmps222
  unfold Ent.vals
  go_wp2_with fail
  rw [← unhid HW1]
  refine (unhid AT).mono ?_
  rintro x w2 ⟨rfl, n2, e2⟩
  have hB2 : Below w1.heap.size w1 w2 := by rw [e2]; exact drewN_below _ _
  have hl1 : w.heap.size < w1.heap.size := (Array.getElem?_eq_some_iff.1 (unhid H1).2.1).1
  have H2 := hid (show Below w.heap.size w w2 ∧ w2.heap[w.heap.size]? = some (.cells #[.string e.path, .int .i64 e.kind, .int .i64 e.mode, .string e.text] 57 (0, 0)) ∧ ∀ (i : Nat) e, es[i]? = some e → EntAt w2 b (o + i * 4) e from ⟨(unhid H1).1.trans (hB2.mono (unhid H1).1.size), (hB2.block _ hl1).trans (unhid H1).2.1, entAt_below (unhid H1).2.2 (.inr hb1) hB2⟩)
  have hb2 : b < w2.heap.size := Nat.lt_of_lt_of_le hb1 hB2.size
  clear hB2 e2 H1 AT HW1 d0 hl1 hb1 n2
  go_wp2_with fail
  refine (l2Copy_some es b o cap w2 (by omega) (unhid H2).2.2 (.inr hb2)).mono ?_
  rintro x w3 ⟨vg, vc, rfl, hown3, hB3⟩
  obtain ⟨va, hva⟩ : ∃ va, va = some (⟨vg, 0, none⟩ : Addr) := ⟨_, rfl⟩
  rw [← hva] at hown3 ⊢
  have HVA := hid (show SomeV (.slice va es.length vc) from ⟨_, _, _, by rw [hva]⟩)
  clear hva
  have hl2 : w.heap.size < w2.heap.size := (Array.getElem?_eq_some_iff.1 (unhid H2).2.1).1
  have hB3' := (unhid H2).1.trans (hB3.mono (Nat.le_of_lt hl2))
  have hbx3 := (hB3.block _ hl2).trans (unhid H2).2.1
  obtain ⟨⟨d0, d1, d2, d3⟩, -⟩ := four_cells hbx3
  have H3 := hid (And.intro hB3' (And.intro hbx3 (And.intro (entAt_below (unhid H2).2.2 (.inr hb2) hB3) (ownsRow_base hown3 (Nat.le_of_lt hl2)))))
  have HV3 := hid (show ∀ g, (Value.slice va es.length vc).ownBlock = some g → w.heap.size < g from fun g eg => Nat.lt_of_lt_of_le hl2 (hown3.lt g eg).1)
  have hb3 : b < w3.heap.size := Nat.lt_of_lt_of_le hb2 hB3.size
  clear hB3 hB3' hbx3 hown3 H2 hb2 hl2
  go_wp2_with fail
  refine (l2Entry_any e hp ht w3).mono ?_
  rintro x w4 ⟨rfl, hB4⟩
  have hl3 : w.heap.size < w3.heap.size := (Array.getElem?_eq_some_iff.1 (unhid H3).2.1).1
  have H4 := hid (show Below w.heap.size w w4 ∧ w4.heap[w.heap.size]? = some (.cells #[.string e.path, .int .i64 e.kind, .int .i64 e.mode, .string e.text] 57 (0, 0)) ∧ (∀ (i : Nat) e, es[i]? = some e → EntAt w4 b (o + i * 4) e) ∧ w4.ownsRow w.heap.size 57 4 (.slice va es.length vc) es.length (valsOf es) from
    ⟨(unhid H3).1.trans (hB4.mono (Nat.le_of_lt hl3)), (hB4.block _ hl3).trans (unhid H3).2.1, entAt_below (unhid H3).2.2.1 (.inr hb3) hB4, ownsRow_kept (unhid H3).2.2.2 (fun g eg => hB4.block g ((unhid H3).2.2.2.lt g eg).2)⟩)
  have hb4 : b < w4.heap.size := Nat.lt_of_lt_of_le hb3 hB4.size
  clear hB4 H3 hl3 hb3 d0 d1 d2 d3
  cases he : entB e
  · have E := hid (show okPut es e = false by unfold okPut; rw [he]; rfl)
    go_wp2_with fail
    go_ret2
    exact ⟨_, by rw [unhid E]; rfl, by rw [putL_no (unhid E)]; exact (unhid H4).2.2.2, (unhid H4).1, unhid HVA⟩
  · have hbx4 := (unhid H4).2.1
    obtain ⟨⟨d0, d1, d2, d3⟩, -⟩ := four_cells hbx4
    clear hbx4
    go_wp2_with fail
    refine (l1Up_any e.path (by unfold maxLen; omega) w4).mono ?_
    rintro x w5 ⟨rfl, e5⟩
    subst e5
    rw [← ent_path he]
    go_wp2_with fail
    refine (l2Dir_any es _ cap (pathUpS e.path) _ (by omega) (.inr ⟨b, o, rfl, hb4, (unhid H4).2.2.1⟩)).mono ?_
    rintro x w6 ⟨rfl, n6, e6⟩
    have hB6 : Below w5.heap.size w5 w6 := by rw [e6]; exact drewN_below _ _
    have hl5 : w.heap.size < w5.heap.size := (Array.getElem?_eq_some_iff.1 (unhid H4).2.1).1
    have H6 := hid (show Below w.heap.size w w6 ∧ w6.heap[w.heap.size]? = some (.cells #[.string e.path, .int .i64 e.kind, .int .i64 e.mode, .string e.text] 57 (0, 0)) ∧ (∀ (i : Nat) e, es[i]? = some e → EntAt w6 b (o + i * 4) e) ∧ w6.ownsRow w.heap.size 57 4 (.slice va es.length vc) es.length (valsOf es) from
      ⟨(unhid H4).1.trans (hB6.mono (Nat.le_of_lt hl5)), (hB6.block _ hl5).trans (unhid H4).2.1, entAt_below (unhid H4).2.2.1 (.inr hb4) hB6, ownsRow_kept (unhid H4).2.2.2 (fun g eg => hB6.block g ((unhid H4).2.2.2.lt g eg).2)⟩)
    have hb6 : b < w6.heap.size := Nat.lt_of_lt_of_le hb4 hB6.size
    clear hB6 H4 hl5 hb4 d0 d1 d2 d3 e6 n6
    cases hd : dirE es (pathUpS e.path)
    · have E := hid (show okPut es e = false by unfold okPut; rw [hd]; simp)
      go_wp2_with fail
      go_ret2
      exact ⟨_, by rw [unhid E]; rfl, by rw [putL_no (unhid E)]; exact (unhid H6).2.2.2, (unhid H6).1, unhid HVA⟩
    · have hbx6 := (unhid H6).2.1
      obtain ⟨⟨d0, d1, d2, d3⟩, -⟩ := four_cells hbx6
      clear hbx6
      cases hth : thereE es e.path
      · by_cases h16 : es.length = 16
        · have E := hid (show okPut es e = false by unfold okPut; rw [hth, h16]; simp)
          have HH := hid hth
          have h16' : (16 : Int) ≤ (es.length : Int) := by omega
          clear hth h16
          go_wp2_with fail
          go_quiet (fail)
          go_wp2_with fail
          go_ret2
          have hB7 : Below w6.heap.size w6 (w6.drewN nq) := drewN_below _ _
          exact ⟨_, by rw [unhid E]; rfl, by rw [putL_no (unhid E)]; exact ownsRow_kept (unhid H6).2.2.2 (fun g eg => hB7.block g ((unhid H6).2.2.2.lt g eg).2), (unhid H6).1.trans (drewN_below _ _), unhid HVA⟩
        · have E := hid (show okPut es e = true by unfold okPut; rw [he, hd, hth]; simpa using h16)
          have HH := hid hth
          have h16' : ¬ (16 : Int) ≤ (es.length : Int) := by omega
          clear hth h16
          go_wp2_with fail
          go_quiet (fail)
          have hB7 : Below w6.heap.size w6 (w6.drewN nq) := drewN_below _ _
          have H7 := hid (show Below w.heap.size w (w6.drewN nq) ∧ (w6.drewN nq).heap[w.heap.size]? = some (.cells #[.string e.path, .int .i64 e.kind, .int .i64 e.mode, .string e.text] 57 (0, 0)) ∧ (∀ (i : Nat) e, es[i]? = some e → EntAt (w6.drewN nq) b (o + i * 4) e) ∧ (w6.drewN nq).ownsRow w.heap.size 57 4 (.slice va es.length vc) es.length (valsOf es) from
            ⟨(unhid H6).1.trans (drewN_below _ _), (unhid H6).2.1, entAt_below (unhid H6).2.2.1 (.inr hb6) hB7, ownsRow_kept (unhid H6).2.2.2 (fun g eg => hB7.block g ((unhid H6).2.2.2.lt g eg).2)⟩)
          have hb7 : b < (w6.drewN nq).heap.size := hb6
          clear hB7 H6 hb6 d0 d1 d2 d3
          generalize w6.drewN nq = w7 at H7 hb7 ⊢
          obtain ⟨⟨d0, d1, d2, d3⟩, -⟩ := four_cells (unhid H7).2.1
          obtain ⟨i0, hi0, hz0, hzs, hzb⟩ := info_parts infoEntry
          have hkn : placeE es e.path ≤ es.length := placeE_le _ _
          have E2 := hid (show putL es e = es.take (placeE es e.path) ++ [e] ++ es.drop (placeE es e.path) by rw [putL_ins (unhid E) (unhid HH)]; rfl)
          generalize placeE es e.path = k at hkn E2 ⊢
          go_wp2_with fail
          have hi1 : (0 : Int) ≤ (k : Int) := by omega
          have hi2 : (k : Int) ≤ (es.length : Int) := by omega
          have hi3 : (k : Int) ≤ (cap : Int) := by omega
          have hi4 : (es.length : Int) ≤ (cap : Int) := by omega
          refine wp_region_held_drew (S := fun w' => Below w7.heap.size w7 w') (by kernel_rfl) (drew_below _) (fun hS => ?_)
          refine wpAnyH_take (i := 1) (v := .slice (some ⟨b, o, none⟩) es.length cap) rfl (by kernel_rfl) (by kernel_rfl) (by kernel_rfl) (fun _ _ _ h => h) (Or.inl ⟨by rfl, fun w hw => by go_simp⟩) hS ?_
          refine wpAnyH_take (i := 2) (v := .int .i64 (k : Int)) rfl (by kernel_rfl) (by kernel_rfl) (by kernel_rfl) (fun _ _ _ h => h) (Or.inl ⟨by rfl, fun w hw => by go_simp⟩) hS ?_
          refine wpAnyH_take (i := 3) (v := .slice (some ⟨b, o, none⟩) k cap) rfl (by kernel_rfl) (by kernel_rfl) (by kernel_rfl) (fun _ _ _ h => h) (Or.inl ⟨by rfl, fun w hw => by go_simp⟩) hS ?_
          refine wpAnyH_take (i := 5) (v := .agg #[.string e.path, .int .i64 e.kind, .int .i64 e.mode, .string e.text]) rfl (by kernel_rfl) (by kernel_rfl) (by kernel_rfl) (fun _ _ _ h => h) (Or.inl ⟨by rfl, fun w' hw => by
            have hl7 : w.heap.size < w7.heap.size := (Array.getElem?_eq_some_iff.1 (unhid H7).2.1).1
            obtain ⟨⟨k0, k1, k2, k3⟩, -⟩ := four_cells ((Below.block hw _ hl7).trans (unhid H7).2.1)
            go_simp⟩) hS ?_
          refine wpAnyH_take (i := 8) (v := .slice (some ⟨b, o, none⟩) es.length cap) rfl (by kernel_rfl) (by kernel_rfl) (by kernel_rfl) (fun _ _ _ h => h) (Or.inl ⟨by rfl, fun w hw => by go_simp⟩) hS ?_
          refine wpAnyH_take (i := 9) (v := .int .i64 (k : Int)) rfl (by kernel_rfl) (by kernel_rfl) (by kernel_rfl) (fun _ _ _ h => h) (Or.inl ⟨by rfl, fun w hw => by go_simp⟩) hS ?_
          refine wpAnyH_take (i := 10) (v := .slice (some ⟨b, o + offD cap k, none⟩) (es.length - k) (cap - k)) rfl (by kernel_rfl) (by kernel_rfl) (by kernel_rfl) (fun _ _ _ h => h) (Or.inl ⟨by rfl, fun w hw => by
            unfold offD
            by_cases hck : cap = k
            · rw [if_pos hck]; go_simp
            · rw [if_neg hck]; go_simp⟩) hS ?_
          have HI := hid (And.intro hi0 (And.intro hz0 (And.intro hzs hzb)))
          have HC1 := hid (show ∀ W, Below w7.heap.size w7 W → ∀ j u, (valsOf (es.take k))[j]? = some u → W.cell? ((⟨b, o, none⟩ : Addr).add j) = some u from fun W hW => ents_cells (ents_take (entAt_below (unhid H7).2.2.1 (.inr hb7) hW)))
          have HC2 := hid (show ∀ W, Below w7.heap.size w7 W → ∀ j u, (valsOf (es.drop k))[j]? = some u → W.cell? ((⟨b, o + offD cap k, none⟩ : Addr).add j) = some u from fun W hW => ents_cells (ents_dropD (entAt_below (unhid H7).2.2.1 (.inr hb7) hW) hc))
          have ht1 : (es.take k).length = k := by simp; omega
          have ht2 : (es.drop k).length = es.length - k := by simp
          clear hi0 hz0 hzs hzb
          generalize w7.drew = W at hS ⊢
          refine wpAnyH_ready (rs := [0, 6]) (by kernel_rfl) (by simp) ?_
          refine AllReadyH.cons rfl (fun K hK => ?_) (AllReadyH.cons rfl (fun K hK => ?_) AllReadyH.nil)
          · go_simp
            have r0 := owns_empty W w7.heap.size hS.size 57
            have hS1 := hS.alloc hS.size (.cells #[] 57)
            refine hK.out _ _ hS1 (fun _ => ?_)
            clear hK K hS
            generalize W.alloc (.cells #[] 57) = W2 at hS1 r0 ⊢
            generalize W.heap.size = g0 at r0 ⊢
            have hS := hS1
            clear hS1
            refine wpAnyH_ready (rs := [4, 6]) (by kernel_rfl) (by simp) ?_
            refine AllReadyH.cons rfl (fun K hK => ?_) (AllReadyH.cons rfl (fun K hK => ?_) AllReadyH.nil)
            · refine step_append_at (by rfl) _ _ 32 (by rfl) w7.heap.size 57 i0 _ 4 48 Tryz.underlying32 (unhid HI).1 (unhid HI).2.1 (unhid HI).2.2.1 (unhid HI).2.2.2 rfl (by decide) (Value.slice (some ⟨g0, 0, none⟩) 0 0) (0) ([]) (by rfl) r0 ⟨b, o, none⟩ (k) (cap) (valsOf (es.take k)) (by rfl) (by rw [valsOf_len, ht1]) (unhid HC1 _ hS) (valsOf_one _) (by unfold maxLen; omega) (by omega) hS.size ?_
              intro v1 W3 r1 hg1 hat1
              rw [Nat.zero_add, List.nil_append] at r1
              obtain ⟨a1, c1, rfl⟩ := ownsRow_slice r1
              have hS1 := hS.grown hg1 hS.size (fun g eg => (r0.lt g eg).1)
              refine hK.out _ _ hS1 (fun _ => ?_)
              clear hK K hS r0 hg1 hat1
              have hS := hS1
              clear hS1
              refine wpAnyH_ready (rs := [6]) (by kernel_rfl) (by simp) ?_
              refine AllReadyH.cons rfl (fun K hK => ?_) AllReadyH.nil
              go_simp
              have o2 : OneAt (W3.alloc (.cells #[.string e.path, .int .i64 e.kind, .int .i64 e.mode, .string e.text] 57)) W3.heap.size e := World.alloc_heap_new _ _
              have hS1 := hS.alloc hS.size (.cells #[.string e.path, .int .i64 e.kind, .int .i64 e.mode, .string e.text] 57)
              have m2 : (Value.slice a1 k c1).ownBlock ≠ some W3.heap.size := fun eq => Nat.lt_irrefl _ (r1.lt _ eq).2
              have r1' := r1.alloc (.cells #[.string e.path, .int .i64 e.kind, .int .i64 e.mode, .string e.text] 57)
              clear r1
              have r1 := r1'
              clear r1'
              refine hK.out _ _ hS1 (fun _ => ?_)
              clear hK K hS
              generalize W3.alloc (.cells #[.string e.path, .int .i64 e.kind, .int .i64 e.mode, .string e.text] 57) = W4 at hS1 o2 r1 ⊢
              generalize W3.heap.size = g2 at o2 m2 ⊢
              have hS := hS1
              clear hS1
              refine wpAnyH_ready (rs := [7]) (by kernel_rfl) (by simp) ?_
              refine AllReadyH.cons rfl (fun K hK => ?_) AllReadyH.nil
              refine step_append_at (by rfl) _ _ 32 (by rfl) w7.heap.size 57 i0 _ 4 48 Tryz.underlying32 (unhid HI).1 (unhid HI).2.1 (unhid HI).2.2.1 (unhid HI).2.2.2 rfl (by decide) (Value.slice a1 k c1) (k) (valsOf (es.take k)) (by rfl) r1 ⟨g2, 0, none⟩ (1) (1) (valsOf [e]) (by rfl) (by rw [valsOf_len]; rfl) (o2.cells) (valsOf_one _) (by unfold maxLen; omega) (by omega) hS.size ?_
              intro v2 W5 r2 hg1 hat1
              obtain ⟨a2, c2, rfl⟩ := ownsRow_slice r2
              have hS1 := hS.grown hg1 hS.size (fun g eg => (r1.lt g eg).1)
              refine hK.out _ _ hS1 (fun _ => ?_)
              clear hK K hS r1 hg1 hat1 o2 m2
              have hS := hS1
              clear hS1
              refine wpAnyH_ready (rs := [11]) (by kernel_rfl) (by simp) ?_
              refine AllReadyH.cons rfl (fun K hK => ?_) AllReadyH.nil
              refine step_append_at (by rfl) _ _ 32 (by rfl) w7.heap.size 57 i0 _ 4 48 Tryz.underlying32 (unhid HI).1 (unhid HI).2.1 (unhid HI).2.2.1 (unhid HI).2.2.2 rfl (by decide) (Value.slice a2 (k + 1) c2) (k + 1) (valsOf (es.take k) ++ valsOf [e]) (by rfl) r2 ⟨b, o + offD cap k, none⟩ ((es.length - k)) ((cap - k)) (valsOf (es.drop k)) (by rfl) (by rw [valsOf_len, ht2]) (unhid HC2 _ hS) (valsOf_one _) (by unfold maxLen; omega) (by omega) hS.size ?_
              intro v3 W6 r3 hg1 hat1
              obtain ⟨a3, c3, rfl⟩ := ownsRow_slice r3
              have hS1 := hS.grown hg1 hS.size (fun g eg => (r2.lt g eg).1)
              refine hK.out _ _ hS1 (fun _ => ?_)
              clear hK K hS r2 hg1 hat1
              have hS := hS1
              clear hS1
              refine wpAnyH_take (i := 12) (v := .slice a3 (k + 1 + (es.length - k)) c3) rfl (by kernel_rfl) (by kernel_rfl) (by kernel_rfl) (fun _ _ _ h => h) (Or.inl ⟨by rfl, fun w hw => by go_simp⟩) hS ?_
              refine wpAnyH_take (i := 13) (v := .bool true) rfl (by kernel_rfl) (by kernel_rfl) (by kernel_rfl) (fun _ _ _ h => h) (Or.inl ⟨by rfl, fun w hw => by go_simp⟩) hS ?_
              refine wpAnyH_done (by kernel_rfl) ?_ _
              have hlen : (putL es e).length = k + 1 + (es.length - k) := by rw [unhid E2]; simp; omega
              have hval : valsOf (putL es e) = valsOf (es.take k) ++ valsOf [e] ++ valsOf (es.drop k) := by rw [unhid E2, valsOf_app, valsOf_app]
              have hl7 : w.heap.size < w7.heap.size := (Array.getElem?_eq_some_iff.1 (unhid H7).2.1).1
              have HF := hid (And.intro (ownsRow_base r3 (Nat.le_of_lt hl7)) ((unhid H7).1.trans (hS.mono (Nat.le_of_lt hl7))))
              have HL := hid (And.intro hlen hval)
              clear hlen hval r3 hS
              go_wp2_with fail
              go_ret2
              exact ⟨_, by rw [unhid E]; rfl, by rw [(unhid HL).1, (unhid HL).2]; exact (unhid HF).1, (unhid HF).2, owns_some (unhid HF).1 (by omega)⟩
            · go_simp
              have o2 : OneAt (W2.alloc (.cells #[.string e.path, .int .i64 e.kind, .int .i64 e.mode, .string e.text] 57)) W2.heap.size e := World.alloc_heap_new _ _
              have hS1 := hS.alloc hS.size (.cells #[.string e.path, .int .i64 e.kind, .int .i64 e.mode, .string e.text] 57)
              have m2 : (Value.slice (some ⟨g0, 0, none⟩) 0 0).ownBlock ≠ some W2.heap.size := fun eq => Nat.lt_irrefl _ (r0.lt _ eq).2
              have r0' := r0.alloc (.cells #[.string e.path, .int .i64 e.kind, .int .i64 e.mode, .string e.text] 57)
              clear r0
              have r0 := r0'
              clear r0'
              refine hK.out _ _ hS1 (fun _ => ?_)
              clear hK K hS
              generalize W2.alloc (.cells #[.string e.path, .int .i64 e.kind, .int .i64 e.mode, .string e.text] 57) = W3 at hS1 o2 r0 ⊢
              generalize W2.heap.size = g2 at o2 m2 ⊢
              have hS := hS1
              clear hS1
              refine wpAnyH_ready (rs := [4]) (by kernel_rfl) (by simp) ?_
              refine AllReadyH.cons rfl (fun K hK => ?_) AllReadyH.nil
              refine step_append_at (by rfl) _ _ 32 (by rfl) w7.heap.size 57 i0 _ 4 48 Tryz.underlying32 (unhid HI).1 (unhid HI).2.1 (unhid HI).2.2.1 (unhid HI).2.2.2 rfl (by decide) (Value.slice (some ⟨g0, 0, none⟩) 0 0) (0) ([]) (by rfl) r0 ⟨b, o, none⟩ (k) (cap) (valsOf (es.take k)) (by rfl) (by rw [valsOf_len, ht1]) (unhid HC1 _ hS) (valsOf_one _) (by unfold maxLen; omega) (by omega) hS.size ?_
              intro v1 W4 r1 hg1 hat1
              rw [Nat.zero_add, List.nil_append] at r1
              obtain ⟨a1, c1, rfl⟩ := ownsRow_slice r1
              have hS1 := hS.grown hg1 hS.size (fun g eg => (r0.lt g eg).1)
              have o2' := o2.grown hg1 (fun eq => m2 eq.symm)
              have m2' : (Value.slice a1 k c1).ownBlock ≠ some g2 := by
                rcases hat1 with h | h <;> rw [h]
                · exact m2
                · intro eq; injection eq with eq; have := o2.lt; omega
              clear o2 m2
              have o2 := o2'
              clear o2'
              have m2 := m2'
              clear m2'
              refine hK.out _ _ hS1 (fun _ => ?_)
              clear hK K hS r0 hg1 hat1
              have hS := hS1
              clear hS1
              refine wpAnyH_ready (rs := [7]) (by kernel_rfl) (by simp) ?_
              refine AllReadyH.cons rfl (fun K hK => ?_) AllReadyH.nil
              refine step_append_at (by rfl) _ _ 32 (by rfl) w7.heap.size 57 i0 _ 4 48 Tryz.underlying32 (unhid HI).1 (unhid HI).2.1 (unhid HI).2.2.1 (unhid HI).2.2.2 rfl (by decide) (Value.slice a1 k c1) (k) (valsOf (es.take k)) (by rfl) r1 ⟨g2, 0, none⟩ (1) (1) (valsOf [e]) (by rfl) (by rw [valsOf_len]; rfl) (o2.cells) (valsOf_one _) (by unfold maxLen; omega) (by omega) hS.size ?_
              intro v2 W5 r2 hg1 hat1
              obtain ⟨a2, c2, rfl⟩ := ownsRow_slice r2
              have hS1 := hS.grown hg1 hS.size (fun g eg => (r1.lt g eg).1)
              refine hK.out _ _ hS1 (fun _ => ?_)
              clear hK K hS r1 hg1 hat1 o2 m2
              have hS := hS1
              clear hS1
              refine wpAnyH_ready (rs := [11]) (by kernel_rfl) (by simp) ?_
              refine AllReadyH.cons rfl (fun K hK => ?_) AllReadyH.nil
              refine step_append_at (by rfl) _ _ 32 (by rfl) w7.heap.size 57 i0 _ 4 48 Tryz.underlying32 (unhid HI).1 (unhid HI).2.1 (unhid HI).2.2.1 (unhid HI).2.2.2 rfl (by decide) (Value.slice a2 (k + 1) c2) (k + 1) (valsOf (es.take k) ++ valsOf [e]) (by rfl) r2 ⟨b, o + offD cap k, none⟩ ((es.length - k)) ((cap - k)) (valsOf (es.drop k)) (by rfl) (by rw [valsOf_len, ht2]) (unhid HC2 _ hS) (valsOf_one _) (by unfold maxLen; omega) (by omega) hS.size ?_
              intro v3 W6 r3 hg1 hat1
              obtain ⟨a3, c3, rfl⟩ := ownsRow_slice r3
              have hS1 := hS.grown hg1 hS.size (fun g eg => (r2.lt g eg).1)
              refine hK.out _ _ hS1 (fun _ => ?_)
              clear hK K hS r2 hg1 hat1
              have hS := hS1
              clear hS1
              refine wpAnyH_take (i := 12) (v := .slice a3 (k + 1 + (es.length - k)) c3) rfl (by kernel_rfl) (by kernel_rfl) (by kernel_rfl) (fun _ _ _ h => h) (Or.inl ⟨by rfl, fun w hw => by go_simp⟩) hS ?_
              refine wpAnyH_take (i := 13) (v := .bool true) rfl (by kernel_rfl) (by kernel_rfl) (by kernel_rfl) (fun _ _ _ h => h) (Or.inl ⟨by rfl, fun w hw => by go_simp⟩) hS ?_
              refine wpAnyH_done (by kernel_rfl) ?_ _
              have hlen : (putL es e).length = k + 1 + (es.length - k) := by rw [unhid E2]; simp; omega
              have hval : valsOf (putL es e) = valsOf (es.take k) ++ valsOf [e] ++ valsOf (es.drop k) := by rw [unhid E2, valsOf_app, valsOf_app]
              have hl7 : w.heap.size < w7.heap.size := (Array.getElem?_eq_some_iff.1 (unhid H7).2.1).1
              have HF := hid (And.intro (ownsRow_base r3 (Nat.le_of_lt hl7)) ((unhid H7).1.trans (hS.mono (Nat.le_of_lt hl7))))
              have HL := hid (And.intro hlen hval)
              clear hlen hval r3 hS
              go_wp2_with fail
              go_ret2
              exact ⟨_, by rw [unhid E]; rfl, by rw [(unhid HL).1, (unhid HL).2]; exact (unhid HF).1, (unhid HF).2, owns_some (unhid HF).1 (by omega)⟩
          · go_simp
            have o2 : OneAt (W.alloc (.cells #[.string e.path, .int .i64 e.kind, .int .i64 e.mode, .string e.text] 57)) W.heap.size e := World.alloc_heap_new _ _
            have hS1 := hS.alloc hS.size (.cells #[.string e.path, .int .i64 e.kind, .int .i64 e.mode, .string e.text] 57)
            refine hK.out _ _ hS1 (fun _ => ?_)
            clear hK K hS
            generalize W.alloc (.cells #[.string e.path, .int .i64 e.kind, .int .i64 e.mode, .string e.text] 57) = W2 at hS1 o2 ⊢
            generalize W.heap.size = g2 at o2 ⊢
            have hS := hS1
            clear hS1
            refine wpAnyH_ready (rs := [0]) (by kernel_rfl) (by simp) ?_
            refine AllReadyH.cons rfl (fun K hK => ?_) AllReadyH.nil
            go_simp
            have r0 := owns_empty W2 w7.heap.size hS.size 57
            have hS1 := hS.alloc hS.size (.cells #[] 57)
            have o2' := o2.alloc (.cells #[] 57)
            have m2 : (Value.slice (some ⟨W2.heap.size, 0, none⟩) 0 0).ownBlock ≠ some g2 := fun eq => by injection eq with eq; have eq2 : W2.heap.size = g2 := eq; have := o2.lt; omega
            clear o2
            have o2 := o2'
            clear o2'
            refine hK.out _ _ hS1 (fun _ => ?_)
            clear hK K hS
            generalize W2.alloc (.cells #[] 57) = W3 at hS1 r0 o2 ⊢
            generalize W2.heap.size = g0 at r0 m2 ⊢
            have hS := hS1
            clear hS1
            refine wpAnyH_ready (rs := [4]) (by kernel_rfl) (by simp) ?_
            refine AllReadyH.cons rfl (fun K hK => ?_) AllReadyH.nil
            refine step_append_at (by rfl) _ _ 32 (by rfl) w7.heap.size 57 i0 _ 4 48 Tryz.underlying32 (unhid HI).1 (unhid HI).2.1 (unhid HI).2.2.1 (unhid HI).2.2.2 rfl (by decide) (Value.slice (some ⟨g0, 0, none⟩) 0 0) (0) ([]) (by rfl) r0 ⟨b, o, none⟩ (k) (cap) (valsOf (es.take k)) (by rfl) (by rw [valsOf_len, ht1]) (unhid HC1 _ hS) (valsOf_one _) (by unfold maxLen; omega) (by omega) hS.size ?_
            intro v1 W4 r1 hg1 hat1
            rw [Nat.zero_add, List.nil_append] at r1
            obtain ⟨a1, c1, rfl⟩ := ownsRow_slice r1
            have hS1 := hS.grown hg1 hS.size (fun g eg => (r0.lt g eg).1)
            have o2' := o2.grown hg1 (fun eq => m2 eq.symm)
            have m2' : (Value.slice a1 k c1).ownBlock ≠ some g2 := by
              rcases hat1 with h | h <;> rw [h]
              · exact m2
              · intro eq; injection eq with eq; have := o2.lt; omega
            clear o2 m2
            have o2 := o2'
            clear o2'
            have m2 := m2'
            clear m2'
            refine hK.out _ _ hS1 (fun _ => ?_)
            clear hK K hS r0 hg1 hat1
            have hS := hS1
            clear hS1
            refine wpAnyH_ready (rs := [7]) (by kernel_rfl) (by simp) ?_
            refine AllReadyH.cons rfl (fun K hK => ?_) AllReadyH.nil
            refine step_append_at (by rfl) _ _ 32 (by rfl) w7.heap.size 57 i0 _ 4 48 Tryz.underlying32 (unhid HI).1 (unhid HI).2.1 (unhid HI).2.2.1 (unhid HI).2.2.2 rfl (by decide) (Value.slice a1 k c1) (k) (valsOf (es.take k)) (by rfl) r1 ⟨g2, 0, none⟩ (1) (1) (valsOf [e]) (by rfl) (by rw [valsOf_len]; rfl) (o2.cells) (valsOf_one _) (by unfold maxLen; omega) (by omega) hS.size ?_
            intro v2 W5 r2 hg1 hat1
            obtain ⟨a2, c2, rfl⟩ := ownsRow_slice r2
            have hS1 := hS.grown hg1 hS.size (fun g eg => (r1.lt g eg).1)
            refine hK.out _ _ hS1 (fun _ => ?_)
            clear hK K hS r1 hg1 hat1 o2 m2
            have hS := hS1
            clear hS1
            refine wpAnyH_ready (rs := [11]) (by kernel_rfl) (by simp) ?_
            refine AllReadyH.cons rfl (fun K hK => ?_) AllReadyH.nil
            refine step_append_at (by rfl) _ _ 32 (by rfl) w7.heap.size 57 i0 _ 4 48 Tryz.underlying32 (unhid HI).1 (unhid HI).2.1 (unhid HI).2.2.1 (unhid HI).2.2.2 rfl (by decide) (Value.slice a2 (k + 1) c2) (k + 1) (valsOf (es.take k) ++ valsOf [e]) (by rfl) r2 ⟨b, o + offD cap k, none⟩ ((es.length - k)) ((cap - k)) (valsOf (es.drop k)) (by rfl) (by rw [valsOf_len, ht2]) (unhid HC2 _ hS) (valsOf_one _) (by unfold maxLen; omega) (by omega) hS.size ?_
            intro v3 W6 r3 hg1 hat1
            obtain ⟨a3, c3, rfl⟩ := ownsRow_slice r3
            have hS1 := hS.grown hg1 hS.size (fun g eg => (r2.lt g eg).1)
            refine hK.out _ _ hS1 (fun _ => ?_)
            clear hK K hS r2 hg1 hat1
            have hS := hS1
            clear hS1
            refine wpAnyH_take (i := 12) (v := .slice a3 (k + 1 + (es.length - k)) c3) rfl (by kernel_rfl) (by kernel_rfl) (by kernel_rfl) (fun _ _ _ h => h) (Or.inl ⟨by rfl, fun w hw => by go_simp⟩) hS ?_
            refine wpAnyH_take (i := 13) (v := .bool true) rfl (by kernel_rfl) (by kernel_rfl) (by kernel_rfl) (fun _ _ _ h => h) (Or.inl ⟨by rfl, fun w hw => by go_simp⟩) hS ?_
            refine wpAnyH_done (by kernel_rfl) ?_ _
            have hlen : (putL es e).length = k + 1 + (es.length - k) := by rw [unhid E2]; simp; omega
            have hval : valsOf (putL es e) = valsOf (es.take k) ++ valsOf [e] ++ valsOf (es.drop k) := by rw [unhid E2, valsOf_app, valsOf_app]
            have hl7 : w.heap.size < w7.heap.size := (Array.getElem?_eq_some_iff.1 (unhid H7).2.1).1
            have HF := hid (And.intro (ownsRow_base r3 (Nat.le_of_lt hl7)) ((unhid H7).1.trans (hS.mono (Nat.le_of_lt hl7))))
            have HL := hid (And.intro hlen hval)
            clear hlen hval r3 hS
            go_wp2_with fail
            go_ret2
            exact ⟨_, by rw [unhid E]; rfl, by rw [(unhid HL).1, (unhid HL).2]; exact (unhid HF).1, (unhid HF).2, owns_some (unhid HF).1 (by omega)⟩
      · obtain ⟨old, hold, hop⟩ := there_get hth
        have hfo := entFn_get hold
        have hkl : placeE es e.path < es.length := (List.getElem?_eq_some_iff.1 hold).1
        obtain ⟨c0, c1, c2, c3⟩ := (unhid H6).2.2.1 _ old hold
        cases hkk : (old.kind != e.kind)
        · have E := hid (show okPut es e = true by unfold okPut; rw [he, hd, hth, hfo]; simp at hkk; simp [hkk])
          have HH := hid hth
          clear hth hold hop hfo
          go_wp2_with fail
          go_quiet (fail)
          clear c0 c1 c2 c3
          have hB7 : Below w6.heap.size w6 (w6.drewN nq) := drewN_below _ _
          have H7 := hid (show Below w.heap.size w (w6.drewN nq) ∧ (w6.drewN nq).heap[w.heap.size]? = some (.cells #[.string e.path, .int .i64 e.kind, .int .i64 e.mode, .string e.text] 57 (0, 0)) ∧ (∀ (i : Nat) e, es[i]? = some e → EntAt (w6.drewN nq) b (o + i * 4) e) ∧ (w6.drewN nq).ownsRow w.heap.size 57 4 (.slice va es.length vc) es.length (valsOf es) from
            ⟨(unhid H6).1.trans (drewN_below _ _), (unhid H6).2.1, entAt_below (unhid H6).2.2.1 (.inr hb6) hB7, ownsRow_kept (unhid H6).2.2.2 (fun g eg => hB7.block g ((unhid H6).2.2.2.lt g eg).2)⟩)
          have hb7 : b < (w6.drewN nq).heap.size := hb6
          clear hB7 H6 hb6 d0 d1 d2 d3
          generalize w6.drewN nq = w7 at H7 hb7 ⊢
          obtain ⟨⟨d0, d1, d2, d3⟩, -⟩ := four_cells (unhid H7).2.1
          obtain ⟨gv, rfl⟩ : ∃ gv, va = some ⟨gv, 0, none⟩ := by
            rcases (unhid H7).2.2.2.2 with ⟨hv, h0⟩ | ⟨g', _, _, hv, _⟩
            · omega
            · cases hv; exact ⟨_, rfl⟩
          have HX := hid (And.intro (ownsRow_set4 (unhid H7).2.2.2 hkl rfl e) (below_set4 (unhid H7).1 (Nat.le_of_lt (unhid HV3 gv rfl)) (placeE es e.path) e))
          obtain ⟨a1, cap1, ev, hR⟩ := rowIn_of_owns (unhid H7).2.2.2
          cases ev
          obtain ⟨g', ea, -, -, hR⟩ := hR.resolve_left (fun h0 => by rw [h0] at hkl; simp at hkl)
          cases ea
          obtain ⟨⟨k0, k1, k2, k3⟩, f0, f1, f2, f3⟩ := hR.cells _ hkl
          clear hR
          have E2 := hid (putL_set (unhid E) (unhid HH))
          go_wp2_with fail
          go_ret2
          exact ⟨_, by rw [unhid E]; rfl, by rw [unhid E2, List.length_set]; exact (unhid HX).1, (unhid HX).2, unhid HVA⟩
        · have E := hid (show okPut es e = false by unfold okPut; rw [he, hd, hth, hfo]; simp at hkk; simp [hkk])
          clear hth hold hop hfo
          go_wp2_with fail
          go_quiet (fail)
          go_wp2_with fail
          go_ret2
          have hB7 : Below w6.heap.size w6 (w6.drewN nq) := drewN_below _ _
          exact ⟨_, by rw [unhid E]; rfl, by rw [putL_no (unhid E)]; exact ownsRow_kept (unhid H6).2.2.2 (fun g eg => hB7.block g ((unhid H6).2.2.2.lt g eg).2), (unhid H6).1.trans (drewN_below _ _), unhid HVA⟩
end Go.Proofs.YtoihhlkidlapmaaGreat

namespace Go.Proofs.YtoihhlkidlapmaaGreat
open Go.RowKit Go.Shelf
def Up (es : List Ent) : Prop := es.Pairwise fun x y => ltS x.path y.path = true
theorem up_asc {es : List Ent} (h : Up es) : Asc (pathsOf es) := by
  intro i j x y hij hi hj
  unfold pathsOf at hi hj
  rw [List.getElem?_map] at hi hj
  obtain ⟨a, ha, rfl⟩ := Option.map_eq_some_iff.1 hi
  obtain ⟨b, hb, rfl⟩ := Option.map_eq_some_iff.1 hj
  obtain ⟨hia, rfl⟩ := List.getElem?_eq_some_iff.1 ha
  obtain ⟨hjb, rfl⟩ := List.getElem?_eq_some_iff.1 hb
  exact List.pairwise_iff_getElem.1 h i j hia hjb hij
theorem asc_up {es : List Ent} (h : Asc (pathsOf es)) : Up es := by
  refine List.pairwise_iff_getElem.2 (fun i j hi hj hij => ?_)
  exact h i j _ _ hij (by simp [pathsOf, hi]) (by simp [pathsOf, hj])
theorem place_split (es : List Ent) (p : ByteArray) : (∀ x ∈ es.take (placeE es p), ltS x.path p = true) ∧ (∀ x, es[placeE es p]? = some x → ltS x.path p = false) := by
  refine ⟨fun x hx => ?_, fun x hx => ?_⟩
  · obtain ⟨i, hi⟩ := List.getElem?_of_mem hx
    rw [List.getElem?_take] at hi
    split at hi
    · rename_i hlt; exact place_lt hlt hi
    · cases hi
  · unfold placeE at hx
    induction es with
    | nil => simp at hx
    | cons e es ih =>
      rw [List.takeWhile_cons] at hx
      cases he : ltS e.path p
      · rw [he] at hx; simp at hx; subst hx; exact he
      · rw [he] at hx; simp at hx; exact ih hx
theorem lt_trans' {a b c : ByteArray} (h1 : ltS a b = true) (h2 : ltS b c = true) : ltS a c = true := lt_tra _ _ _ h1 h2
theorem lt_tot' {a b : ByteArray} (h1 : ltS a b = false) (h2 : eqS a b = false) : ltS b a = true := by
  cases h : ltS b a
  · have e := lt_tot _ _ h1 h
    rw [show eqS a b = true by unfold eqS; rw [e]; simp] at h2; cases h2
  · rfl
theorem insAt_up {es : List Ent} {e : Ent} (h : Up es) (ht : thereE es e.path = false) : Up (insAt es e) := by
  obtain ⟨h1, h2⟩ := place_split es e.path
  have hd : ∀ x ∈ es.drop (placeE es e.path), ltS e.path x.path = true := by
    unfold thereE at ht
    intro x hx
    cases hf : es[placeE es e.path]? with
    | none =>
      rw [List.drop_eq_nil_of_le (by simpa using hf)] at hx; simp at hx
    | some y =>
      rw [hf] at ht
      have hy : ltS e.path y.path = true := lt_tot' (h2 y hf) (by simpa using ht)
      obtain ⟨hk, rfl⟩ := List.getElem?_eq_some_iff.1 hf
      rw [List.drop_eq_getElem_cons hk] at hx
      rcases List.mem_cons.1 hx with rfl | hx
      · exact hy
      · refine lt_trans' hy ?_
        obtain ⟨j, hj⟩ := List.getElem?_of_mem hx
        rw [List.getElem?_drop] at hj
        obtain ⟨hjl, rfl⟩ := List.getElem?_eq_some_iff.1 hj
        exact List.pairwise_iff_getElem.1 h _ _ hk hjl (by omega)
  have hs : Up (es.take (placeE es e.path) ++ es.drop (placeE es e.path)) := by rw [List.take_append_drop]; exact h
  unfold Up at hs
  rw [List.pairwise_append] at hs
  unfold insAt Up
  rw [List.append_assoc, List.pairwise_append]
  refine ⟨hs.1, ?_, ?_⟩
  · rw [List.singleton_append, List.pairwise_cons]
    exact ⟨hd, hs.2.1⟩
  · intro x hx y hy
    rw [List.singleton_append, List.mem_cons] at hy
    rcases hy with rfl | hy
    · exact h1 x hx
    · exact hs.2.2 x hx y hy
theorem set_paths {es : List Ent} {e : Ent} (ht : thereE es e.path = true) : pathsOf (es.set (placeE es e.path) e) = pathsOf es := by
  obtain ⟨old, hj, hpo⟩ := there_get ht
  unfold pathsOf
  rw [List.map_set]
  apply List.ext_getElem?
  intro i
  rw [List.getElem?_set]
  split
  · rename_i hi
    subst hi
    rw [if_pos (by simpa using (List.getElem?_eq_some_iff.1 hj).1), List.getElem?_map, hj, Option.map_some, hpo]
  · rfl
theorem putT_up {es : List Ent} {e : Ent} (h : Up es) : Up (putT es e) := by
  unfold putT
  cases ht : thereE es e.path
  · exact insAt_up h ht
  · refine asc_up ?_
    rw [if_pos rfl, set_paths ht]
    exact up_asc h
theorem snoc_ind {α : Type} {P : List α → Prop} (h0 : P []) (h1 : ∀ xs x, P xs → P (xs ++ [x])) : ∀ xs, P xs := fun xs => by
  have : ∀ ys : List α, P ys.reverse := fun ys => by
    induction ys with
    | nil => exact h0
    | cons y ys ih => rw [List.reverse_cons]; exact h1 _ _ ih
  have h := this xs.reverse
  rwa [List.reverse_reverse] at h
theorem putT_len (es : List Ent) (e : Ent) : (putT es e).length ≤ es.length + 1 := by
  unfold putT insAt
  split
  · simp
  · have := placeE_le es e.path; simp; omega
theorem putT_mem {es : List Ent} {e x : Ent} (hx : x ∈ putT es e) : x ∈ es ∨ x = e := by
  unfold putT insAt at hx
  split at hx
  · exact List.mem_or_eq_of_mem_set hx
  · simp only [List.mem_append, List.mem_singleton] at hx
    rcases hx with (h | h) | h
    · exact .inl (List.mem_of_mem_take h)
    · exact .inr h
    · exact .inl (List.mem_of_mem_drop h)
end Go.Proofs.YtoihhlkidlapmaaGreat

namespace Go.Proofs.YtoihhlkidlapmaaGreat
open Go.RowKit Go.Shelf
theorem tree_16 {es : List Ent} (h : treeB es = true) : es.length ≤ 16 := by
  have := (kept_asc es).2; rwa [keptE_yes h] at this
theorem tree_asc {es : List Ent} (h : treeB es = true) : Asc (pathsOf es) := by
  have := (kept_asc es).1; rwa [keptE_yes h] at this
theorem tree_all {es : List Ent} (h : treeB es = true) : ∀ x ∈ es, entB x = true := fun x hx => by
  obtain ⟨i, hi⟩ := List.getElem?_of_mem hx
  exact tree_ent h hi
end Go.Proofs.YtoihhlkidlapmaaGreat

namespace Go.Proofs.YtoihhlkidlapmaaGreat
open Go.RowKit Go.Shelf
end Go.Proofs.YtoihhlkidlapmaaGreat

namespace Go.Proofs.YtoihhlkidlapmaaGreat
open Go.RowKit Go.Shelf
theorem cutB_sum (b : UInt8) : ∀ l : List UInt8, ((cutB b l).map fun p => p.length + 1).sum = l.length + 1
  | [] => by simp [cutB]
  | c :: l => by
    have ih := cutB_sum b l
    unfold cutB
    split
    · simp [ih]; omega
    · split
      · rename_i e; exact absurd e (cutB_ne b l)
      · rename_i h t e
        rw [e] at ih
        simp at ih ⊢; omega
theorem sum_le (l : List (List UInt8)) (h : ∀ p ∈ l, p.length ≤ 10) : (l.map fun p => p.length + 1).sum ≤ 11 * l.length := by
  induction l with
  | nil => simp
  | cons a l ih =>
    have h1 := h a (by simp)
    have h2 := ih (fun p hp => h p (by simp [hp]))
    simp; omega
theorem pathB_size (l : List UInt8) (h : pathB l = true) : l.length ≤ 54 := by
  simp only [pathB, Bool.and_eq_true, decide_eq_true_eq, List.all_eq_true] at h
  have h1 := cutB_sum 47 l
  have h2 := sum_le (cutB 47 l) (fun p hp => by
    have := h.2 p hp
    simp only [nameOkB, Bool.and_eq_true, decide_eq_true_eq] at this
    exact this.1.1.1.2)
  omega
def belowB (p s : List UInt8) : Bool := (s == p) || Lib.hasPrefix s (p ++ [47])
theorem belowB_eq (p s : List UInt8) : belowB p s = ((s == p) || (decide (p.length < s.length) && (s.take p.length == p) && (s[p.length]? == some 47))) := by
  unfold belowB Lib.hasPrefix
  congr 1
  rw [Bool.eq_iff_iff]
  simp only [List.isPrefixOf_iff_prefix, Bool.and_eq_true, decide_eq_true_eq, beq_iff_eq]
  constructor
  · rintro ⟨t, rfl⟩
    simp
  · rintro ⟨⟨h1, h2⟩, h3⟩
    refine ⟨s.drop (p.length + 1), ?_⟩
    have h4 : s = s.take p.length ++ s.drop p.length := (List.take_append_drop _ _).symm
    have h5 : s.drop p.length = s[p.length] :: s.drop (p.length + 1) := List.drop_eq_getElem_cons h1
    rw [List.getElem?_eq_getElem h1] at h3
    simp at h3
    rw [h5, h2, h3] at h4
    rw [List.append_assoc]; exact h4.symm
theorem ret_bool {a b : Bool} (h : a = b) : Ending.returned (.bool a) = .returned (.bool b) := by rw [h]
theorem byte_47 (c : UInt8) : (some c == some 47) = ((c.toNat : Int) == 47) := by
  rw [Bool.eq_iff_iff]
  simp only [beq_iff_eq, Option.some.injEq]
  constructor
  · rintro rfl; rfl
  · intro h; exact UInt8.toNat_inj.1 (by simp; omega)
set_option maxRecDepth 100000 in
set_option maxHeartbeats 1000000 in
theorem l1Below_any (p s : ByteArray) (hp : p.size ≤ maxLen) (_hs : s.size ≤ maxLen) (w : World) :
    Calls Tryz.prog 177 #[.string p, .string s] w fun e w' => e = .returned (.bool (belowB p.data.toList s.data.toList)) ∧ w' = w := by
  unfold maxLen at _hs hp
  rw [belowB_eq, ← Lib.size_eq, ← Lib.size_eq]
  go_enter Tryz.func177, Tryz.ntmps177
  go_wp2
  · rename_i h1
    go_ret
    refine ⟨ret_bool ?_, rfl⟩
    rw [Lib.toList_data, Lib.toList_data] at h1
    simp [h1]
  · rename_i h1 h2 h3
    go_ret
    refine ⟨ret_bool ?_, rfl⟩
    rw [Lib.toList_data, Lib.toList_data] at h1 ⊢
    rw [Lib.extract_toList, Lib.toList_data] at h3
    rw [getByte s p.size h2, byte_47]
    simp at h3
    simp [h2, h3]
  · rename_i h1 h2 h3
    go_ret
    refine ⟨ret_bool ?_, rfl⟩
    rw [Lib.toList_data, Lib.toList_data] at h1 ⊢
    rw [Lib.extract_toList, Lib.toList_data] at h3
    simp at h3
    simp [h3]
  · rename_i h1 h2
    go_ret
    refine ⟨ret_bool ?_, rfl⟩
    rw [Lib.toList_data, Lib.toList_data] at h1 ⊢
    simp [h2]
end Go.Proofs.YtoihhlkidlapmaaGreat

namespace Go.Proofs.YtoihhlkidlapmaaGreat
open Go.RowKit Go.Shelf
attribute [local go_sem] Oper.semAt_some
theorem ent_path_len {e : Ent} (h : entB e = true) : e.path.size ≤ 54 := by
  unfold entB at h
  simp only [Bool.and_eq_true] at h
  have := pathB_size _ h.1
  rwa [Lib.size_eq]
end Go.Proofs.YtoihhlkidlapmaaGreat

namespace Go.Proofs.YtoihhlkidlapmaaGreat
open Go.RowKit Go.Shelf
end Go.Proofs.YtoihhlkidlapmaaGreat

namespace Go.Proofs.YtoihhlkidlapmaaGreat
end Go.Proofs.YtoihhlkidlapmaaGreat

namespace Go.Proofs.YtoihhlkidlapmaaGreat
end Go.Proofs.YtoihhlkidlapmaaGreat

namespace Go.Proofs.YtoihhlkidlapmaaGreat
open Go.RowKit Go.Shelf
theorem there_mem {es : List Ent} {x : Ent} (h : Up es) (hx : x ∈ es) : thereE es x.path = true ∧ entFn es (placeE es x.path) = x := by
  obtain ⟨i, hi⟩ := List.getElem?_of_mem hx
  obtain ⟨hil, he⟩ := List.getElem?_eq_some_iff.1 hi
  have hp : placeE es x.path = i := place_of es x.path i (Nat.le_of_lt hil) (fun j y hj hy => by
      obtain ⟨hjl, hyj⟩ := List.getElem?_eq_some_iff.1 hy
      have := List.pairwise_iff_getElem.1 h j i hjl hil hj
      rw [hyj, he] at this; exact this) (fun y hy => by rw [hi] at hy; cases hy; exact lt_irr _)
  refine ⟨?_, ?_⟩
  · unfold thereE; rw [hp, hi]; exact (eqS_iff _ _).2 rfl
  · rw [hp]; exact entFn_get hi
theorem tree_dir {es : List Ent} {x : Ent} (h : treeB es = true) (hx : x ∈ es) : dirE es (upS x.path) = true := by
  unfold treeB at h
  simp only [Bool.and_eq_true] at h
  obtain ⟨i, hi⟩ := List.getElem?_of_mem hx
  have := List.all_eq_true.1 h.1.2 i (List.mem_range.2 (List.getElem?_eq_some_iff.1 hi).1)
  rwa [entFn_get hi] at this
end Go.Proofs.YtoihhlkidlapmaaGreat

namespace Go.Proofs.YtoihhlkidlapmaaGreat
open Go.RowKit Go.Shelf
def RowsV (W : World) (N bt : Nat) (vp vn : Value) (es : List Ent) : Prop := W.heap[bt]? = some (.cells #[vp, vn] 117 (0, 0)) ∧ W.ownsRow N 9 1 vp es.length (es.map fun e => .string e.path) ∧ W.ownsRow N 121 1 vn es.length (es.map nodeV)
def FreshV (w : World) (v v' : Value) : Prop := ∀ k, v'.ownBlock = some k → v.ownBlock = some k ∨ w.heap.size ≤ k
def PutV (w w' : World) (N bt : Nat) (vp vn : Value) (es : List Ent) : Prop := (∃ vp' vn', RowsV w' N bt vp' vn' es ∧ FreshV w vp vp' ∧ FreshV w vn vn') ∧ Below N w w' ∧ (∀ k o, k ≠ bt → w.heap[k]? = some o → Apart o → w'.heap[k]? = some o) ∧ ∀ k, k < w.heap.size → k ≠ bt → vp.ownBlock ≠ some k → vn.ownBlock ≠ some k → w'.heap[k]? = w.heap[k]?
set_option maxRecDepth 100000 in
set_option maxHeartbeats 4000000 in
theorem mapPut_insV (N bt : Nat) (vp vn : Value) (es : List Ent) (e : Ent) (w : World) (hn : es.length ≤ 900) (ha : Asc (pathsOf es)) (hN : N ≤ bt) (ht0 : thereE es e.path = false) (h : RowsV w N bt vp vn es) :
    Calls Tryz.prog 172 #[.pointer (some ⟨bt, 0, .none⟩), .string e.path, nodeV e] w fun x w' => (∃ v, x = .returned v) ∧ PutV w w' N bt vp vn (insAt es e) := by
  obtain ⟨h1, h2, h3⟩ := h
  have hbl : bt < w.heap.size := (Array.getElem?_eq_some_iff.1 h1).1
  obtain ⟨a, cap, hva, hT⟩ := texts_of h2
  have hpn : (pathsOf es).length = es.length := by simp [pathsOf]
  have hl : (pathsOf es).length ≤ 1048576 := by omega
  have ht : thereP (pathsOf es) e.path = false := by rw [thereP_E, ht0]
  have hpp : placeP (pathsOf es) e.path = placeE es e.path := placeP_E _ _
  have hkl : placeE es e.path ≤ es.length := placeE_le es e.path
  have hins : insAt es e = es.take (placeE es e.path) ++ [e] ++ es.drop (placeE es e.path) := rfl
  have hT1 : ∀ v ∈ es.map (fun e => Value.string e.path), v.oneCell' = true := fun v hv => by obtain ⟨x, -, rfl⟩ := List.mem_map.1 hv; rfl
  have hN1 : ∀ v ∈ es.map nodeV, v.oneCell' = true := fun v hv => by obtain ⟨x, -, rfl⟩ := List.mem_map.1 hv; exact nodeV_one x
  obtain ⟨k, hk⟩ : ∃ k, placeE es e.path = k := ⟨_, rfl⟩
  rw [hk] at hpp hkl hins
  rw [hins]
  have hS := BinarySearch_any (pathsOf es) a cap e.path w hl ha hT
  rw [hpp, ht, hpn] at hS
  rw [hpn] at hva
  subst hva
  obtain ⟨T, nv, hV⟩ := nodeV_shape e
  have hIN := fun n i b v xs w => InsertN_any N n i b v xs e w
  simp only [hV] at hIN
  rw [hV]
  have HV := hid hV
  have HIN := hid hIN
  clear hV hIN
  have HS := hid hS
  obtain ⟨c0, c1, f0, f1⟩ := two_cells h1
  have H2 := hid h2
  have H3 := hid h3
  have H1 := hid h1
  have HT1 := hid hT1
  have HN1 := hid hN1
  clear hT ha hl ht hpp h1 h2 h3 hpn hS hins hk ht0 hT1 hN1
  go_enter Tryz.func172, Tryz.ntmps172
  go_wp2_with fail
  refine (unhid HS).mono ?_
  rintro x w1 ⟨rfl, hw1⟩
  rw [hw1]
  clear hw1
  go_wp2_with fail
  refine (InsertS_any N es.length k w.heap.size _ _ e.path (w.alloc (.cells #[.string e.path] 9)) hkl (by omega) (by simp; omega) ((unhid H2).alloc _) (fun eq => by have := ((unhid H2).lt _ eq).2; omega) (World.alloc_heap_new w _) (unhid HT1)).mono ?_
  rintro x w2 ⟨v2, rfl, hown2, hgrow2, hat2⟩
  obtain ⟨g2, cap2, rfl⟩ := ownsRow_succ hown2
  have h1a : (w.alloc (.cells #[.string e.path] 9)).heap[bt]? = some (.cells #[.slice a es.length cap, vn] 117 (0, 0)) := (Below.heap_alloc _ _ _ hbl).trans (unhid H1)
  have h12 : w2.heap[bt]? = some (.cells #[.slice a es.length cap, vn] 117 (0, 0)) := (hgrow2.block bt (by simp; omega) (row_ne ((unhid H2).alloc (.cells #[.string e.path] 9)) h1a (by decide))).trans h1a
  obtain ⟨c0, c1, f0, f1⟩ := two_cells h12
  have h32 : w2.ownsRow N 121 1 vn es.length (es.map nodeV) := by
    refine ownsRow_kept ((unhid H3).alloc (.cells #[.string e.path] 9)) (fun g hg => hgrow2.block g (((unhid H3).alloc (.cells #[.string e.path] 9)).lt g hg).2 ?_)
    rcases ((unhid H3).alloc (.cells #[.string e.path] 9)).2 with ⟨rfl, _⟩ | ⟨g', cap', cur', rfl, _, hgc, _⟩
    · cases hg
    · cases hg; exact row_ne ((unhid H2).alloc (.cells #[.string e.path] 9)) hgc (by decide)
  have hg2w : g2 ≠ bt := fun eq => by
    rcases hown2.2 with ⟨h, _⟩ | ⟨g', cap', cur', hv, _, hgc, _⟩
    · cases h
    · cases hv; exact type_ne hgc h12 (by decide) eq
  have HB2 := hid (And.intro hown2 (And.intro hgrow2 (And.intro h12 h32)))
  have HAT2 := hid hat2
  have hsz2 : w.heap.size + 1 ≤ w2.heap.size := by have := hgrow2.size; simpa using this
  clear hown2 hgrow2 h12 h32 h1a hat2
  go_wp2_with fail
  obtain ⟨W3, hW3⟩ : ∃ W3, W3 = (w2.setCell ⟨bt, 0, .none⟩ (.slice (some ⟨g2, 0, .none⟩) (es.length + 1) cap2)).alloc (.cells #[.iface T nv] 121) := ⟨_, rfl⟩
  rw [← hW3]
  obtain ⟨hown2, hgrow2, h12, h32⟩ := unhid HB2
  have hbl2 : bt < w2.heap.size := by omega
  have h13 : W3.heap[bt]? = some (.cells #[.slice (some ⟨g2, 0, .none⟩) (es.length + 1) cap2, vn] 117 (0, 0)) := by
    rw [hW3, Below.heap_alloc _ _ _ (by simp; omega), heap_setCell_same _ bt 0 _ _ _ h12]; rfl
  have hk3 : ∀ g, g < w2.heap.size → g ≠ bt → W3.heap[g]? = w2.heap[g]? := fun g hg hne => by
    rw [hW3, Below.heap_alloc _ _ _ (by simpa using hg), Below.heap_setCell _ _ _ _ hne]
  have h33 : W3.ownsRow N 121 1 vn es.length (es.map nodeV) := ownsRow_kept h32 (fun g hg => hk3 g (h32.lt g hg).2 (fun eq => (row_ne h32 h12 (by decide)) (by rw [hg, eq])))
  have hown3 : W3.ownsRow N 9 1 (.slice (some ⟨g2, 0, .none⟩) (es.length + 1) cap2) (es.length + 1) ((es.map fun e => .string e.path).take k ++ [.string e.path] ++ (es.map fun e => .string e.path).drop k) := ownsRow_kept hown2 (fun g hg => hk3 g (hown2.lt g hg).2 (fun eq => by cases hg; exact hg2w eq))
  have hs3 : W3.heap.size = w2.heap.size + 1 := by rw [hW3]; simp
  have hc3 : W3.heap[w2.heap.size]? = some (.cells #[.iface T nv] 121 (0, 0)) := by
    rw [hW3]; have := World.alloc_heap_new (w2.setCell ⟨bt, 0, .none⟩ (.slice (some ⟨g2, 0, .none⟩) (es.length + 1) cap2)) (.cells #[.iface T nv] 121); simpa using this
  refine (unhid HIN es.length k w2.heap.size vn _ W3 hkl (by omega) (by omega) h33 (fun eq => by have := (h32.lt _ eq).2; omega) hc3 (unhid HN1)).mono ?_
  rintro x w4 ⟨v4, rfl, hown4, hgrow4, hat4⟩
  obtain ⟨g4, cap4, rfl⟩ := ownsRow_succ hown4
  have h14 : w4.heap[bt]? = some (.cells #[.slice (some ⟨g2, 0, .none⟩) (es.length + 1) cap2, vn] 117 (0, 0)) := (hgrow4.block bt (by omega) (row_ne h33 h13 (by decide))).trans h13
  have hrow4 : w4.ownsRow N 9 1 (.slice (some ⟨g2, 0, .none⟩) (es.length + 1) cap2) (es.length + 1) ((es.map fun e => .string e.path).take k ++ [.string e.path] ++ (es.map fun e => .string e.path).drop k) := ownsRow_kept hown3 (fun g hg => hgrow4.block g (hown3.lt g hg).2 (by
    rcases hown3.2 with ⟨h, _⟩ | ⟨g', cap', cur', hv, _, hgc, _⟩
    · cases h
    · cases hv; cases hg; exact row_ne h33 hgc (by decide)))
  obtain ⟨c0, c1, f0, f1⟩ := two_cells h14
  have hg4w : g4 ≠ bt := fun eq => by
    rcases hown4.2 with ⟨h, _⟩ | ⟨g', cap', cur', hv, _, hgc, _⟩
    · cases h
    · cases hv; exact type_ne hgc h14 (by decide) eq
  have hF : RowsV (w4.setCell ⟨bt, 1, .none⟩ (.slice (some ⟨g4, 0, .none⟩) (es.length + 1) cap4)) N bt (.slice (some ⟨g2, 0, .none⟩) (es.length + 1) cap2) (.slice (some ⟨g4, 0, .none⟩) (es.length + 1) cap4) (es.take k ++ [e] ++ es.drop k) := by
    refine ⟨?_, ?_, ?_⟩
    · rw [heap_setCell_same _ bt 1 _ _ _ h14]; rfl
    · rw [show (es.take k ++ [e] ++ es.drop k).length = es.length + 1 by simp; omega, List.map_append, List.map_append, List.map_take, List.map_drop]
      exact ownsRow_kept hrow4 (fun g hg => Below.heap_setCell _ _ _ _ (fun eq => by cases hg; exact hg2w eq))
    · rw [show (es.take k ++ [e] ++ es.drop k).length = es.length + 1 by simp; omega, List.map_append, List.map_append, List.map_take, List.map_drop]
      rw [← unhid HV] at hown4
      exact ownsRow_kept hown4 (fun g hg => Below.heap_setCell _ _ _ _ (fun eq => by cases hg; exact hg4w eq))
  have hB : Below N w (w4.setCell ⟨bt, 1, .none⟩ (.slice (some ⟨g4, 0, .none⟩) (es.length + 1) cap4)) := by
    have b1 : Below N w (w.alloc (.cells #[.string e.path] 9)) := (Below.refl _ _).alloc (by omega) _
    have b2 : Below N w w2 := b1.grown hgrow2 (by simp; omega) (fun g hg => (((unhid H2).alloc (.cells #[.string e.path] 9)).lt g hg).1)
    have b3 : Below N w W3 := by rw [hW3]; exact (b2.setCell hN _).alloc (by simp; omega) _
    have b4 : Below N w w4 := b3.grown hgrow4 (by omega) (fun g hg => (h33.lt g hg).1)
    exact b4.setCell hN _
  have hO : ∀ k o, k ≠ bt → w.heap[k]? = some o → Apart o → (w4.setCell ⟨bt, 1, .none⟩ (.slice (some ⟨g4, 0, .none⟩) (es.length + 1) cap4)).heap[k]? = some o := by
    intro k o hk ho hap
    have hkl : k < w.heap.size := (Array.getElem?_eq_some_iff.1 ho).1
    have a1 : (w.alloc (.cells #[.string e.path] 9)).heap[k]? = some o := (Below.heap_alloc _ _ _ hkl).trans ho
    have a2 : w2.heap[k]? = some o := (hgrow2.block k (by simp; omega) (fun eq => by
      rcases ((unhid H2).alloc (.cells #[.string e.path] 9)).2 with ⟨h, _⟩ | ⟨g', cap', cur', hv, _, hgc, _⟩
      · rw [h] at eq; cases eq
      · rw [hv] at eq; cases eq; rw [a1] at hgc; cases hgc; exact (hap _ _ _ rfl).1 rfl)).trans a1
    have a3 : W3.heap[k]? = some o := (hk3 k (by omega) hk).trans a2
    have a4 : w4.heap[k]? = some o := (hgrow4.block k (by omega) (fun eq => by
      rcases h33.2 with ⟨h, _⟩ | ⟨g', cap', cur', hv, _, hgc, _⟩
      · rw [h] at eq; cases eq
      · rw [hv] at eq; cases eq; rw [a3] at hgc; cases hgc; exact (hap _ _ _ rfl).2 rfl)).trans a3
    exact (Below.heap_setCell _ _ _ _ hk).trans a4
  have hS : ∀ k, k < w.heap.size → k ≠ bt → (Value.slice a es.length cap).ownBlock ≠ some k → vn.ownBlock ≠ some k → (w4.setCell ⟨bt, 1, .none⟩ (.slice (some ⟨g4, 0, .none⟩) (es.length + 1) cap4)).heap[k]? = w.heap[k]? := by
    intro k hk hkb hkp hkn
    have a1 : (w.alloc (.cells #[.string e.path] 9)).heap[k]? = w.heap[k]? := Below.heap_alloc _ _ _ hk
    have a2 : w2.heap[k]? = w.heap[k]? := (hgrow2.block k (by simp; omega) (fun eq => hkp eq.symm)).trans a1
    have a3 : W3.heap[k]? = w.heap[k]? := (hk3 k (by omega) hkb).trans a2
    have a4 : w4.heap[k]? = w.heap[k]? := (hgrow4.block k (by omega) (fun eq => hkn eq.symm)).trans a3
    exact (Below.heap_setCell _ _ _ _ hkb).trans a4
  have hf2 : FreshV w (.slice a es.length cap) (.slice (some ⟨g2, 0, .none⟩) (es.length + 1) cap2) := fun k hk => by
    rcases unhid HAT2 with h | h
    · exact .inl (h ▸ hk)
    · rw [h] at hk; injection hk with hk; right; rw [World.size_alloc] at hk; omega
  have hf4 : FreshV w vn (.slice (some ⟨g4, 0, .none⟩) (es.length + 1) cap4) := fun k hk => by
    rcases hat4 with h | h
    · exact .inl (h ▸ hk)
    · rw [h] at hk; injection hk with hk; right; omega
  have HF := hid (show PutV w (w4.setCell ⟨bt, 1, .none⟩ (.slice (some ⟨g4, 0, .none⟩) (es.length + 1) cap4)) N bt (.slice a es.length cap) vn (es.take k ++ [e] ++ es.drop k) from ⟨⟨_, _, hF, hf2, hf4⟩, hB, hO, hS⟩)
  clear hF hB hO hS hf2 hf4 hat4 HAT2 hown4 hgrow4 h14 hrow4 h13 hk3 h33 hown3 hc3 hW3 hown2 hgrow2 h12 h32 HB2
  go_wp2_with fail
  go_end0
  exact ⟨⟨_, rfl⟩, unhid HF⟩
set_option maxRecDepth 100000 in
set_option maxHeartbeats 4000000 in
theorem mapPut_overV (N bt : Nat) (vp vn : Value) (es : List Ent) (e : Ent) (w : World) (hn : es.length ≤ 900) (ha : Asc (pathsOf es)) (ht0 : thereE es e.path = true) (h : RowsV w N bt vp vn es) :
    Calls Tryz.prog 172 #[.pointer (some ⟨bt, 0, .none⟩), .string e.path, nodeV e] w fun x w' => (∃ v, x = .returned v) ∧ PutV w w' N bt vp vn (es.set (placeE es e.path) e) := by
  obtain ⟨h1, h2, h3⟩ := h
  have hbl : bt < w.heap.size := (Array.getElem?_eq_some_iff.1 h1).1
  obtain ⟨a, cap, hva, hT⟩ := texts_of h2
  have hpn : (pathsOf es).length = es.length := by simp [pathsOf]
  have hl : (pathsOf es).length ≤ 1048576 := by omega
  have ht : thereP (pathsOf es) e.path = true := by rw [thereP_E, ht0]
  obtain ⟨old, hj, hpo⟩ := there_get ht0
  have hjl : placeE es e.path < es.length := (List.getElem?_eq_some_iff.1 hj).1
  have hS := BinarySearch_any (pathsOf es) a cap e.path w hl ha hT
  rw [placeP_E, ht, hpn] at hS
  rw [hpn] at hva
  subst hva
  obtain ⟨T, nv, hV⟩ := nodeV_shape e
  have hse : (es.set (placeE es e.path) e).map nodeV = (es.map nodeV).set (placeE es e.path) (nodeV e) := by rw [List.map_set]
  have hsp : (es.set (placeE es e.path) e).map (fun e => Value.string e.path) = es.map (fun e => .string e.path) := by
    rw [List.map_set]
    apply List.ext_getElem?
    intro i
    rw [List.getElem?_set]
    split
    · rename_i hi
      subst hi
      rw [if_pos (by simpa using hjl), List.getElem?_map, hj, Option.map_some, hpo]
    · rfl
  obtain ⟨g, cap2, cur, rfl, hgN, hg, hszc⟩ : ∃ g cap2 cur, vn = .slice (some ⟨g, 0, .none⟩) es.length cap2 ∧ N ≤ g ∧ w.heap[g]? = some (.cells cur 121 (0, 0)) ∧ placeE es e.path < cur.size ∧ es.length ≤ cap2 := by
    rcases h3.2 with ⟨rfl, h0⟩ | ⟨g, cap, cur, rfl, hN', hg, hc, _, hsz, hcells⟩
    · omega
    · exact ⟨g, cap, cur, rfl, hN', hg, by omega, hc⟩
  have hFT : RowsV (w.setCell ⟨g, placeE es e.path, .none⟩ (nodeV e)) N bt (.slice a es.length cap) (.slice (some ⟨g, 0, .none⟩) es.length cap2) (es.set (placeE es e.path) e) := by
    refine ⟨?_, ?_, ?_⟩
    · rw [Below.heap_setCell _ _ _ _ (type_ne hg h1 (by decide)).symm]; exact h1
    · rw [List.length_set, hsp]
      refine ownsRow_kept h2 (fun g' eg => Below.heap_setCell _ _ _ _ (fun eq => ?_))
      obtain ⟨cur', hc'⟩ := (show ∃ cur', w.heap[g']? = some (.cells cur' 9 (0, 0)) by
        rcases h2.2 with ⟨hh, _⟩ | ⟨g'', cap'', cur'', hv, _, hh, _⟩
        · rw [hh] at eg; cases eg
        · rw [hv] at eg; cases eg; exact ⟨_, hh⟩)
      exact type_ne hg hc' (by decide) eq.symm
    · rw [List.length_set, hse]
      exact ownsRow_set h3 hjl rfl
  have hFB : Below N w (w.setCell ⟨g, placeE es e.path, .none⟩ (nodeV e)) := (Below.refl _ _).setCell hgN _
  have hFO : ∀ k o, k ≠ bt → w.heap[k]? = some o → Apart o → (w.setCell ⟨g, placeE es e.path, .none⟩ (nodeV e)).heap[k]? = some o := fun k o _ ho hap =>
    (Below.heap_setCell _ _ _ _ (fun eq => by
      have eq' : k = g := eq
      subst eq'
      rw [ho] at hg; cases hg; exact (hap _ _ _ rfl).2 rfl)).trans ho
  have HF := hid (show PutV w (w.setCell ⟨g, placeE es e.path, .none⟩ (nodeV e)) N bt (.slice a es.length cap) (.slice (some ⟨g, 0, .none⟩) es.length cap2) (es.set (placeE es e.path) e) from ⟨⟨_, _, hFT, fun k hk => .inl hk, fun k hk => .inl hk⟩, hFB, hFO, fun k _ _ _ hkn => Below.heap_setCell _ _ _ _ (fun eq => hkn (by have eq' : k = g := eq; rw [eq']; rfl))⟩)
  clear hFT hFB hFO hse hsp
  rw [hV] at HF ⊢
  obtain ⟨hsz1, hle⟩ := hszc
  have n0 : ∃ u, w.cell? ⟨g, placeE es e.path, .none⟩ = some u := ⟨cur[placeE es e.path], by simp [World.cell?, hg, hsz1]⟩
  obtain ⟨u, n0⟩ := n0
  have m0 : w.frozen? ⟨g, placeE es e.path, .none⟩ = false := by simp [World.frozen?, hg]
  have HS := hid hS
  obtain ⟨c0, c1, f0, f1⟩ := two_cells h1
  clear hT ha hl ht h1 h2 h3 hpn hj hS hV hg ht0 hpo hsz1
  generalize placeE es e.path = j at HS HF hjl n0 m0 ⊢
  go_enter Tryz.func172, Tryz.ntmps172
  go_wp2_with fail
  refine (unhid HS).mono ?_
  rintro x w1 ⟨rfl, hw1⟩
  rw [hw1]
  clear hw1
  go_wp2_with fail
  first | go_end0 | refine bodyPost_ret (results_none rfl _ _ _) rfl ?_
  exact ⟨⟨_, rfl⟩, unhid HF⟩
theorem mapPut_V (N bt : Nat) (vp vn : Value) (es : List Ent) (e : Ent) (w : World) (hn : es.length ≤ 900) (ha : Asc (pathsOf es)) (hN : N ≤ bt) (h : RowsV w N bt vp vn es) :
    Calls Tryz.prog 172 #[.pointer (some ⟨bt, 0, .none⟩), .string e.path, nodeV e] w fun x w' => (∃ v, x = .returned v) ∧ PutV w w' N bt vp vn (putT es e) := by
  cases ht : thereE es e.path
  · have : putT es e = insAt es e := by unfold putT; rw [ht]; rfl
    rw [this]
    exact mapPut_insV N bt vp vn es e w hn ha hN ht h
  · have : putT es e = es.set (placeE es e.path) e := by unfold putT; rw [ht]; rfl
    rw [this]
    exact mapPut_overV N bt vp vn es e w hn ha ht h
end Go.Proofs.YtoihhlkidlapmaaGreat

namespace Go.Proofs.YtoihhlkidlapmaaGreat
open Go.RowKit Go.Shelf
theorem in_int (d : Nat) (a b : Int) (w : World) : (Op.equalIn (d + 1) 3 (.int .i64 a) (.int .i64 b)).run Tryz.prog w = .ok (a == b) w := by
  simp [Op.equalIn, run_underlying Tryz.underlying3]
theorem in_dir (d : Nat) (a b : Int) (w : World) : (Op.equalIn (d + 1 + 1) 176 (.agg #[.int .i64 a]) (.agg #[.int .i64 b])).run Tryz.prog w = .ok (a == b) w := by
  have h0 : (program).run Tryz.prog w = .ok Tryz.prog w := by kernel_rfl
  have h1 : Tryz.prog.stoodInHeld 176 = false := by kernel_rfl
  have h2 : ∀ a, (part 3 #[.int .i64 a] 0).run Tryz.prog w = .ok (.int .i64 a) w := fun a => by kernel_rfl
  unfold Op.equalIn
  simp only [Sem.run_bind, run_underlying Tryz.underlying176, Result.andThen_ok, h0, h1, Bool.false_eq_true, if_false, List.forIn_toArray, List.forIn_cons, List.forIn_nil]
  rw [if_pos (by decide)]
  simp only [Sem.run_bind, h2, in_int, Result.andThen_ok]
  cases (a == b) <;> simp [Sem.run_pure]
theorem eq_dirs (a b : Int) (w : World) : (binOp .eql 121 (.iface 176 (.agg #[.int .i64 a])) (.iface 176 (.agg #[.int .i64 b]))).run Tryz.prog w = .ok (.bool (a == b)) w := by
  have hc : (Tryz.prog.info? 176).map (·.comparable) = some true := by kernel_rfl
  cases hi : Tryz.prog.info? 176 with
  | none => simp [hi] at hc
  | some i =>
    have hcc : i.comparable = true := by simpa [hi] using hc
    have h : ∀ d : Nat, (Op.equalIn (d + 1 + 1 + 1) 121 (.iface 176 (.agg #[.int .i64 a])) (.iface 176 (.agg #[.int .i64 b]))).run Tryz.prog w = .ok (a == b) w := fun d => by
      have := in_dir d a b w
      unfold Op.equalIn
      simp only [Sem.run_bind, run_underlying Tryz.underlying121, Result.andThen_ok]
      simp [typeInfo, hi, hcc, this]
    simp only [binOp]
    simp [Op.equal, Op.maxDepth, h 9997]
theorem eq_dirf (a b : Int) (s : ByteArray) (w : World) : (binOp .eql 121 (.iface 176 (.agg #[.int .i64 a])) (.iface 178 (.agg #[.int .i64 b, .string s]))).run Tryz.prog w = .ok (.bool false) w := by kernel_rfl
theorem eq_dirl (a : Int) (s : ByteArray) (w : World) : (binOp .eql 121 (.iface 176 (.agg #[.int .i64 a])) (.iface 180 (.agg #[.string s]))).run Tryz.prog w = .ok (.bool false) w := by kernel_rfl
def sameB (x y : Ent) : Bool := x.kind == 1 && (y.kind == 1 && x.mode == y.mode)
set_option maxRecDepth 100000 in
set_option maxHeartbeats 2000000 in
theorem sameDir_any (x y : Ent) (w : World) :
    Calls Tryz.prog 212 #[nodeV x, nodeV y] w fun r w' => r = .returned (.bool (sameB x y)) ∧ Below w.heap.size w w' := by
  have DIR := hid (isDir_node x w)
  cases hk : (x.kind == 1)
  · obtain ⟨T0, nv, hnv⟩ := nodeV_shape x
    obtain ⟨T1, nv1, hnv1⟩ := nodeV_shape y
    rw [hnv] at DIR ⊢
    rw [hnv1]
    have E := hid (show sameB x y = false by unfold sameB; rw [hk]; rfl)
    go_enter Tryz.func212, Tryz.ntmps212
    go_wp2_with fail
    refine (unhid DIR).mono ?_
    rintro r w1 ⟨rfl, hB⟩
    rw [hk]
    have HB := hid hB
    clear hB
    go_wp2_with fail
    go_ret
    exact ⟨by rw [unhid E]; rfl, unhid HB⟩
  · have hk1 : x.kind = 1 := by simpa using hk
    have hnv : nodeV x = .iface 176 (.agg #[.int .i64 x.mode]) := by unfold nodeV; rw [if_pos hk1]
    rw [hnv] at DIR ⊢
    by_cases hy1 : y.kind = 1
    · have hnv1 : nodeV y = .iface 176 (.agg #[.int .i64 y.mode]) := by unfold nodeV; rw [if_pos hy1]
      rw [hnv1]
      go_enter Tryz.func212, Tryz.ntmps212
      go_wp2_with fail
      refine (unhid DIR).mono ?_
      rintro r w1 ⟨rfl, hB⟩
      rw [hk]
      have HB := hid hB
      clear hB
      have E := hid (show sameB x y = (x.mode == y.mode) by unfold sameB; rw [hk, hy1]; rfl)
      have heq := eq_dirs x.mode y.mode w1
      clear hnv hnv1
      go_wp2_with fail
      go_ret
      exact ⟨by rw [unhid E]; rfl, unhid HB⟩
    · have E := hid (show sameB x y = false by unfold sameB; simp [hy1])
      by_cases hy2 : y.kind = 2
      · have hnv1 : nodeV y = .iface 178 (.agg #[.int .i64 y.mode, .string y.text]) := by unfold nodeV; rw [if_neg hy1, if_pos hy2]
        rw [hnv1]
        go_enter Tryz.func212, Tryz.ntmps212
        go_wp2_with fail
        refine (unhid DIR).mono ?_
        rintro r w1 ⟨rfl, hB⟩
        rw [hk]
        have HB := hid hB
        have heq := eq_dirf x.mode y.mode y.text w1
        clear hB hnv hnv1
        go_wp2_with fail
        go_ret
        exact ⟨by rw [unhid E]; rfl, unhid HB⟩
      · have hnv1 : nodeV y = .iface 180 (.agg #[.string y.text]) := by unfold nodeV; rw [if_neg hy1, if_neg hy2]
        rw [hnv1]
        go_enter Tryz.func212, Tryz.ntmps212
        go_wp2_with fail
        refine (unhid DIR).mono ?_
        rintro r w1 ⟨rfl, hB⟩
        rw [hk]
        have HB := hid hB
        have heq := eq_dirl x.mode y.text w1
        clear hB hnv hnv1
        go_wp2_with fail
        go_ret
        exact ⟨by rw [unhid E]; rfl, unhid HB⟩
end Go.Proofs.YtoihhlkidlapmaaGreat

namespace Go.Proofs.YtoihhlkidlapmaaGreat
open Go.ChangeShapes Go.WideShapes Go.ChangeAt Go.RowKit
end Go.Proofs.YtoihhlkidlapmaaGreat

namespace Go.Proofs.YtoihhlkidlapmaaGreat
open Go.ChangeShapes Go.WideShapes Go.ChangeAt Go.RowKit Go.Shelf
set_option maxRecDepth 100000 in
set_option maxHeartbeats 2000000 in
theorem treeOk_any (es : List Ent) (a : Option Addr) (cap : Nat) (w : World) (hs : smallE es) (h : EntsAt w a es) :
    Calls Tryz.prog 46 #[.slice a es.length cap] w fun x w' => x = .returned (.bool (treeB es)) ∧ Below w.heap.size w w' := by
  have H := hid (treeOf_any es a cap w hs h)
  clear hs h
  go_enter Tryz.func46, Tryz.ntmps46
  go_wp2_with (go_at_call 81; refine (unhid H).mono ?_; rintro x w1 ⟨vp, vn, rfl, ⟨t2, t3⟩, hB⟩; obtain ⟨ap, cp, rfl⟩ := ownsRow_slice t2; obtain ⟨an, cn, rfl⟩ := ownsRow_slice t3; clear t2 t3)
  go_ret
  exact ⟨rfl, hB.alloc hB.size _⟩
end Go.Proofs.YtoihhlkidlapmaaGreat
