/- What is left of a tree without a place, by the program. -/
import Derived.Test.YtlnehebihfeegaaTreePut
import Derived.Test.YtlnehebihfeegaaPathIn2
namespace Go.Proofs.Ytlnehebihfeegaa
open Go.RowKit Go.Shelf

attribute [local go_sem] Oper.semAt_some

def leftE (p : ByteArray) (es : List Ent) : List Ent := es.filter fun e => !inB p.data.toList e.path.data.toList

theorem ent_path_len {e : Ent} (h : entB e = true) : e.path.size ≤ 54 := by
  unfold entB at h
  simp only [Bool.and_eq_true] at h
  have := pathB_size _ h.1
  rwa [Lib.size_eq]
/-- A tree that is gone over stays, where only what is behind a bound changes, and its own box does not. -/
theorem treeIn_kept2 {Bl bt N : Nat} {vp vn : Value} {es : List Ent} {W W' : World} (h : TreeIn (Bl + 1) bt N vp vn es W) (hk : ∀ k, k < Bl → W'.heap[k]? = W.heap[k]?) (hbt : bt < Bl) (hp : ∀ g, vp.ownBlock = some g → g < Bl) (hn : ∀ g, vn.ownBlock = some g → g < Bl)
    (ho : ∀ o, W.heap[Bl + 1]? = some o → Apart o → W'.heap[Bl + 1]? = some o) (hbx : ∃ cs t f, W.heap[Bl + 1]? = some (.cells cs t f) ∧ t ≠ 9 ∧ t ≠ 63) : TreeIn (Bl + 1) bt N vp vn es W' :=
  treeIn_kept h (fun k hkk => by
    rcases hkk with rfl | rfl | h1 | h1
    · obtain ⟨cs, t, f, hw, ht⟩ := hbx
      exact (ho _ hw (fun _ _ _ e => by cases e; exact ht)).trans hw.symm
    · exact hk _ hbt
    · exact hk _ (hp k h1)
    · exact hk _ (hn k h1))
theorem treeAt_grown {W W' : World} {row : Option Nat} {N bt : Nat} {es : List Ent} (h : TreeAt W N bt es) (hg : W.grownBy W' row) (hr : ∀ r, row = some r → ∃ o : Obj, W.heap[r]? = some o ∧ o.isCells = false) : TreeAt W' N bt es := by
  obtain ⟨vp, vn, h1, h2, h3⟩ := h
  exact ⟨vp, vn, cells_grown hg hr h1, row_grown hg hr h2, row_grown hg hr h3⟩
set_option maxRecDepth 100000 in
set_option maxHeartbeats 4000000 in
theorem treeDrop_any (es : List Ent) (a : Option Addr) (cap : Nat) (p : ByteArray) (w : World) (hs : smallE es) (hp : p.size ≤ 1048576) (h : EntsAt w a es) :
    Calls Try.prog 35 #[.slice a es.length cap, .string p] w fun x w' => ∃ v, x = .returned (.tuple #[v, .bool (treeB es && thereE es p)]) ∧ w'.ownsRow w.heap.size 27 4 v (leftE p (keptE es)).length (valsOf (leftE p (keptE es))) ∧ Below w.heap.size w w' := by
  obtain ⟨wA, hwA⟩ : ∃ wA, wA = w.alloc (.cells #[.string p] 9) := ⟨_, rfl⟩
  have hsz : wA.heap.size = w.heap.size + 1 := by rw [hwA]; simp
  have hBA : Below w.heap.size w wA := by rw [hwA]; exact (Below.refl _ w).alloc (Nat.le_refl _) _
  have hbox : wA.heap[w.heap.size]? = some (.cells #[.string p] 9 (0, 0)) := by rw [hwA]; exact World.alloc_heap_new _ _
  have H := hid (treeOf_any es a cap wA hs (h.below (by rw [hwA]; exact (Below.refl _ w).alloc (Nat.le_refl _) _)))
  have HA := hid (And.intro hsz (And.intro hBA hbox))
  have HWA := hid hwA
  clear hs h hwA hsz hBA hbox
  refine (callsIn_wide (n := 3)).1 ?_
  refine callsIn_of_wp_marks Try.func35 rfl trivial ?_ rfl
  simp only [Try.ntmps35, List.size_toArray, List.length_cons, List.length_nil, Nat.reduceAdd, Nat.reduceSub, Array.replicate_succ, Array.replicate_zero, List.push_toArray, List.append_toArray, List.nil_append, List.cons_append]
  gi_wp2
  rw [← unhid HWA]
  refine ⟨trivial, (callsIn_wide.2 (unhid H)).mono ?_⟩
  rintro x w1 ⟨vp, vn, rfl, ⟨t2, t3⟩, hB⟩
  obtain ⟨ap, cp, rfl⟩ := ownsRow_slice t2
  obtain ⟨an, cn, rfl⟩ := ownsRow_slice t3
  obtain ⟨hsz, hBA, hbox⟩ := unhid HA
  obtain ⟨wt, hwt⟩ : ∃ wt, wt = w1.alloc (.cells #[.slice ap (keptE es).length cp, .slice an (keptE es).length cn] 59) := ⟨_, rfl⟩
  have hB1 : Below w.heap.size w w1 := hBA.trans (hB.mono (by omega))
  have hBt : Below w1.heap.size w1 wt := by rw [hwt]; exact (Below.refl _ w1).alloc (Nat.le_refl _) _
  have hBT : Below w.heap.size w wt := hB1.trans (hBt.mono hB1.size)
  have hT : TreeAt wt wA.heap.size w1.heap.size (keptE es) := ⟨_, _, by rw [hwt]; exact World.alloc_heap_new _ _, ownsRow_kept t2 (fun g e => hBt.block g (t2.lt g e).2), ownsRow_kept t3 (fun g e => hBt.block g (t3.lt g e).2)⟩
  have hw1 : wA.heap.size ≤ w1.heap.size := hB.size
  have hbt : wt.heap[w.heap.size]? = some (.cells #[.string p] 9 (0, 0)) := (hBt.block _ (by omega)).trans ((hB.block _ (by omega)).trans hbox)
  have hk := kept_asc es
  have GET := hid (mapGet_any _ _ (keptE es) p wt (by omega) hk.1 hT)
  have d0 := (cell_of_box_l hbt).1
  rw [hwt] at d0
  have HT := hid (And.intro hBT (And.intro hbt hT))
  have HWT := hid hwt
  have KT := hid (kept_there es p)
  clear hT hBT hBt hB1 hB t2 t3 hbox hBA HA HWA H hbt hk hwt
  gi_wp2
  rw [← unhid HWT]
  refine ⟨trivial, (callsIn_wide.2 (unhid GET)).mono ?_⟩
  rintro x w2 ⟨rfl, e2⟩
  subst e2
  rw [unhid KT]
  have hgv : ∃ gv, getV (keptE es) p = gv := ⟨_, rfl⟩
  obtain ⟨gv, hgv⟩ := hgv
  rw [hgv]
  clear hgv d0
  gi_wp2
  have hkl := (kept_asc es).2
  have hka := (kept_asc es).1
  have hkb : ∀ e ∈ keptE es, entB e = true := fun x hx => by
    cases htb : treeB es
    · rw [keptE_no htb] at hx; simp at hx
    · rw [keptE_yes htb] at hx; exact tree_all htb x hx
  generalize hks : keptE es = ks at *
  have HKS := hid hks
  clear hks GET KT
  generalize hth : (treeB es && thereE es p) = th
  have HTH := hid hth
  clear hth
  obtain ⟨w3, hw3⟩ : ∃ w3, w3 = w2.alloc (.cells #[.slice none 0 0, .slice none 0 0] 59) := ⟨_, rfl⟩
  obtain ⟨w4, hw4⟩ : ∃ w4, w4 = w3.alloc (.cells #[.pointer (some ⟨w1.heap.size, 0, none⟩)] 99) := ⟨_, rfl⟩
  have hz3 : w3.heap.size = w2.heap.size + 1 := by rw [hw3]; simp
  have hz4 : w4.heap.size = w2.heap.size + 1 + 1 := by rw [hw4]; simp [hz3]
  have hB3 : Below w2.heap.size w2 w3 := by rw [hw3]; exact (Below.refl _ w2).alloc (Nat.le_refl _) _
  have hB34 : Below w3.heap.size w3 w4 := by rw [hw4]; exact (Below.refl _ w3).alloc (Nat.le_refl _) _
  have hB4 : Below w2.heap.size w2 w4 := hB3.trans (hB34.mono hB3.size)
  obtain ⟨hBT, hbx, vp, vn, t1, t2, t3⟩ := unhid HT
  have hl2 : w.heap.size < w2.heap.size := (Array.getElem?_eq_some_iff.1 hbx).1
  have hbl : w1.heap.size < w2.heap.size := (Array.getElem?_eq_some_iff.1 t1).1
  have hBw : Below w.heap.size w w4 := hBT.trans (hB4.mono (Nat.le_of_lt hl2))
  have hbx4 : w4.heap[w.heap.size]? = some (.cells #[.string p] 9 (0, 0)) := (hB4.block _ hl2).trans hbx
  have hTI : TreeIn (w2.heap.size + 1) w1.heap.size wA.heap.size vp vn ks w4 :=
    ⟨by have := (cell_new_l w3 (.pointer (some ⟨w1.heap.size, 0, none⟩)) 99).1; rw [hz3] at this; rw [hw4]; exact this,
     (hB4.block _ hbl).trans t1, ownsRow_kept t2 (fun g e => hB4.block g (t2.lt g e).2), ownsRow_kept t3 (fun g e => hB4.block g (t3.lt g e).2)⟩
  have hLT : TreeAt w4 w2.heap.size w2.heap.size (putAll (leftE p [])) := ⟨.slice none 0 0, .slice none 0 0, (hB34.block _ (by omega)).trans (by rw [hw3]; exact World.alloc_heap_new _ _), World.ownsRow_nil _ _ _ _, World.ownsRow_nil _ _ _ _⟩
  have hbn4 : w4.heap[w2.heap.size + 1]? = some (.cells #[.pointer (some ⟨w1.heap.size, 0, none⟩)] 99 (0, 0)) := by have := World.alloc_heap_new w3 (.cells #[.pointer (some ⟨w1.heap.size, 0, none⟩)] 99); rw [hz3] at this; rw [hw4]; exact this
  have HAL := hid (all_in Fence.wide 2 trivial rfl w1.heap.size w3)
  rw [hz3, ← hw4] at HAL
  have HRW := hid (And.intro (fun g (eg : vp.ownBlock = some g) => (t2.lt g eg).2) (fun g (eg : vn.ownBlock = some g) => (t3.lt g eg).2))
  rw [← hw3]
  clear hw3 hw4 t1 t2 t3 hB34 hB3 hbx hBT HWT
  refine ⟨trivial, (unhid HAL).mono ?_⟩
  rintro x w5 ⟨rfl, e5⟩
  subst e5
  gi_wp2
  refine wpIn_rangeFunc_ownF rfl (by omega) (gf := 82) (lb := #[.pointer (some ⟨w2.heap.size + 1, 0, none⟩)]) rfl trivial (enters_of Try.func82 (by kernel_rfl) rfl)
    (all_stops Fence.wide _ trivial rfl (by omega) (w2.heap.size + 1) w1.heap.size wA.heap.size vp vn ks (by omega) (fun e => entB e = true) hkb _ hTI) (fun h g x => g (h x)) (fun W l o o' _ hl hc _ h => treeIn_grown h (grownBy_putObj' _ l o') (fun r e => by cases e; exact ⟨_, hl, hc⟩)) (Below.refl _ _) (fun _ => rfl)
    (fun pre W => (TreeAt W w2.heap.size w2.heap.size (putAll (leftE p (pre.map (·.1)))) ∧ TreeIn (w2.heap.size + 1) w1.heap.size wA.heap.size vp vn ks W ∧ W.heap[w.heap.size]? = some (.cells #[.string p] 9 (0, 0)) ∧ W.heap[w2.heap.size + 1]? = some (.cells #[.pointer (some ⟨w1.heap.size, 0, none⟩)] 99 (0, 0))) ∧ Below w.heap.size w W)
    (fun _ _ _ => False)
    (OwnFrom.and (Own.from (fun s A B row hs hg hr => ⟨treeAt_grown hs.1 hg hr, treeIn_grown hs.2.1 hg hr, cells_grown hg hr hs.2.2.1, cells_grown hg hr hs.2.2.2⟩) _) (ownFrom_below (Nat.le_refl _) (by omega)))
    (fun c => fun _ _ _ _ h _ _ => h)
    ⟨⟨hLT, hTI, hbx4, hbn4⟩, hBw⟩
    (fun x => { tmps := #[.slice a es.length cap, .string p, undef, .pointer (some ⟨w.heap.size, 0, none⟩), .slice none 0 0, .bool false, .pointer (some ⟨w1.heap.size, 0, none⟩), .bool (treeB es), gv, .bool th, .pointer (some ⟨w2.heap.size, 0, none⟩), .string x.1.path, nodeV x.1,
      .tuple #[.agg #[.slice ap ks.length cp, .slice an ks.length cn], .bool (treeB es)], .slice a es.length cap, .tuple #[.agg #[.slice ap ks.length cp, .slice an ks.length cn], .bool (treeB es)], .agg #[.slice ap ks.length cp, .slice an ks.length cn], .bool (treeB es), .tuple #[gv, .bool th],
      .pointer (some ⟨w1.heap.size, 0, none⟩), .string p, .tuple #[gv, .bool th], gv, .bool th, .agg #[.slice none 0 0, .slice none 0 0], .pointer (some ⟨w1.heap.size, 0, none⟩), .func (.func 82) #[] #[.pointer (some ⟨w2.heap.size + 1, 0, none⟩)], .string x.1.path, nodeV x.1, undef, undef, undef, undef, undef, undef, undef, undef, undef, undef], defers := [] }) ?assign ?body ?done ?stop
  case assign =>
    intro l x W K hK
    gi_wp2
    exact hK
  case stop => intro D c pre W _ _ h _; exact h.elim
  case body =>
    rintro l pre ⟨e, hx⟩ W ⟨⟨hL, hTI2, hbW, hbn⟩, hB⟩ hpl
    dsimp only
    have hpx : e.path.size ≤ maxLen := by have := ent_path_len hx; unfold maxLen; omega
    have d0 := (cell_of_box_l hbW).1
    obtain ⟨T0, nv, hnv⟩ := nodeV_shape e
    have hpre : (pre.map (·.1)).length = pre.length := List.length_map _
    have hwl : w.heap.size < W.heap.size := (Array.getElem?_eq_some_iff.1 hbW).1
    gi_wp2
    refine ⟨trivial, (CallsIn.inRound l (callsIn_wide.2 (PathIn_any p e.path (by unfold maxLen; omega) hpx _))).mono ?_⟩
    rintro x W2 ⟨rfl, hb⟩
    have hO := KeepsOthers_of_below hb
    have hL2 := hL.below hb
    have HL0 := hid hL2
    have hT2 := treeIn_below hTI2 hb
    have hb2 := (hb.block _ hwl).trans hbW
    have hbn2 := (hb.block _ (Array.getElem?_eq_some_iff.1 hbn).1).trans hbn
    have hB2 := hB.trans (hb.mono hB.size)
    clear hb d0
    cases hin : inB p.data.toList e.path.data.toList
    · have hle : leftE p ((pre ++ [(⟨e, hx⟩ : { e : Ent // entB e = true })]).map (·.1)) = leftE p (pre.map (·.1)) ++ [e] := by unfold leftE; rw [List.map_append, List.filter_append]; simp [hin]
      have hlen : (putAll (leftE p (pre.map (·.1)))).length ≤ 900 := by
        have h1 := putAll_len (leftE p (pre.map (·.1)))
        have h2 : (leftE p (pre.map (·.1))).length ≤ (pre.map (·.1)).length := List.length_filter_le _ _
        omega
      have hput := mapPut_any w2.heap.size w2.heap.size (putAll (leftE p (pre.map (·.1)))) e W2 hlen (up_asc (putAll_up _)) (Nat.le_refl _) hL2
      rw [← putAll_snoc, ← hle] at hput
      rw [hnv] at hput ⊢
      have HP := hid hput
      have HI := hid (And.intro hO (And.intro hT2 (And.intro hb2 (And.intro hbn2 hB2))))
      clear hput hO hL2 hT2 hb2 hB2 hle hlen hL hTI2 hbW hB hbn hbn2
      gi_wp2
      refine ⟨trivial, (CallsIn.inRound l (callsIn_wide.2 (unhid HP))).mono ?_⟩
      rintro x W3 ⟨⟨v, rfl⟩, hT3, hB3, hO3⟩
      obtain ⟨hO, hT2, hb2, hbn2, hB2⟩ := unhid HI
      have hap2 : Apart (.cells #[.pointer (some ⟨w1.heap.size, 0, none⟩)] 99 (0, 0)) := apart_of (by decide)
      have HF := hid (show KeepsOthers W W3 ∧ (TreeIn (w2.heap.size + 1) w1.heap.size wA.heap.size vp vn ks W → TreeIn (w2.heap.size + 1) w1.heap.size wA.heap.size vp vn ks W3) ∧ (TreeAt W3 w2.heap.size w2.heap.size (putAll (leftE p ((pre ++ [(⟨e, hx⟩ : { e : Ent // entB e = true })]).map (·.1)))) ∧ TreeIn (w2.heap.size + 1) w1.heap.size wA.heap.size vp vn ks W3 ∧ W3.heap[w.heap.size]? = some (.cells #[.string p] 9 (0, 0)) ∧ W3.heap[w2.heap.size + 1]? = some (.cells #[.pointer (some ⟨w1.heap.size, 0, none⟩)] 99 (0, 0))) ∧ Below w.heap.size w W3 by
        have hTF : TreeIn (w2.heap.size + 1) w1.heap.size wA.heap.size vp vn ks W3 := treeIn_kept2 hT2 (fun k hk => hB3.block k hk) hbl (unhid HRW).1 (unhid HRW).2 (fun o ho hap => hO3 _ o (by omega) ho hap) ⟨_, _, _, hbn2, by decide⟩
        exact ⟨hO.trans ⟨hB3.size, fun k o hk hc => by
            by_cases hkb : k = w2.heap.size
            · subst hkb; obtain ⟨_, _, q1, _⟩ := (unhid HL0); rw [hk] at q1; cases q1; cases hc
            · exact hO3 k o hkb hk (fun cs t f e => by subst e; cases hc)⟩, fun _ => hTF, ⟨hT3, hTF, (hB3.block _ hl2).trans hb2, hO3 _ _ (by omega) hbn2 hap2⟩, hB2.trans (hB3.mono (Nat.le_of_lt hl2))⟩)
      clear hT3 hB3 hO3 hO hT2 hb2 hB2 hbn2 hap2
      gi_wp2
      exact unhid HF
    · have hle : leftE p ((pre ++ [(⟨e, hx⟩ : { e : Ent // entB e = true })]).map (·.1)) = leftE p (pre.map (·.1)) := by unfold leftE; rw [List.map_append, List.filter_append]; simp [hin]
      have HF := hid (And.intro hO (And.intro hT2 (And.intro hL2 (And.intro hb2 (And.intro hbn2 hB2)))))
      have HE := hid hle
      clear hO hT2 hL2 hb2 hB2 hle hbn2
      gi_wp2
      obtain ⟨hO, hT2, hL2, hb2, hbn2, hB2⟩ := unhid HF
      exact ⟨hO, fun _ => hT2, ⟨by rw [unhid HE]; exact hL2, hT2, hb2, hbn2⟩, hB2⟩
  case done =>
    rintro D ys W hD hys ⟨⟨hL, hTI2, hbW, hbn⟩, hB⟩ hK
    rw [hys, putAll_self (leftE p ks) (List.Pairwise.filter _ (asc_up hka))] at hL
    have hlen : (leftE p ks).length ≤ 1000 := by have : (leftE p ks).length ≤ ks.length := List.length_filter_le _ _; omega
    have ENT := hid (entries_any w2.heap.size w2.heap.size (leftE p ks) W hlen (fun e he => hkb e (List.mem_filter.1 he).1) hL)
    have HI := hid (And.intro hB hK)
    have hDl := (Array.getElem?_eq_some_iff.1 hK).1
    clear hL hTI2 hbW hbn hB hK hlen
    gi_wp2
    refine ⟨trivial, (callsIn_wide.2 (unhid ENT)).mono ?_⟩
    rintro x W3 ⟨v, rfl, hown, hb3⟩
    obtain ⟨va, vc, rfl⟩ := ownsRow_slice hown
    obtain ⟨hB, hK⟩ := unhid HI
    have hK3 := (hb3.block _ hDl).trans hK
    have hB3 := hB.trans (hb3.mono hB.size)
    have HF := hid (And.intro hown (And.intro hB3 (And.intro hK3 hB.size)))
    clear hown hb3 hB hK hK3 hB3
    gi_wp2
    refine ⟨by simp, .inl ⟨_, _, rfl, run_takeDeferred (unhid HF).2.2.1, ?_⟩⟩
    obtain ⟨hown, hB3, hK3, hszW⟩ := unhid HF
    have hg := grownBy_putObj' W3 D (.deferred none)
    have hr : ∀ r, some D = some r → ∃ o : Obj, W3.heap[r]? = some o ∧ o.isCells = false := fun r e => by cases e; exact ⟨_, hK3, rfl⟩
    refine ⟨.tuple #[.slice va (leftE p ks).length vc, .bool th], ?_, _, by rw [unhid HTH], by rw [unhid HKS]; exact ownsRow_base (row_grown hg hr hown) hszW, hB3.trans (belowK_b (w := w) (Nat.le_refl _) _ D _ _ (by omega) hK3 rfl rfl)⟩
    simp [results, Try.f35, go_sem]
end Go.Proofs.Ytlnehebihfeegaa
