/- Texts of this proof, one behind the other; each says at its head what it shows. -/
import Derived.Test.YtaefjibnnbdaaaaJoin7
import Derived.Laws.StructEq
import Derived.Test.YtaefjibnnbdaaaaJoin1
/- What is moved in a tree, by the program. -/
namespace Go.Proofs.Ytaefjibnnbdaaaa
open Go.RowKit Go.Shelf

attribute [local go_sem] Oper.semAt_some

def placeM (p q : ByteArray) (e : Ent) : ByteArray := if inB p.data.toList e.path.data.toList then moveS e.path p q else e.path
def mvE (p q : ByteArray) (e : Ent) : Ent := { e with path := placeM p q e }
def moveAll (p q : ByteArray) (es : List Ent) : Bool := es.all fun e => !(placeM p q e).toList.isEmpty
def moveOk (p q : ByteArray) (es : List Ent) : Bool := mayB (keptE es) p q && moveAll p q (keptE es)
def moveR (p q : ByteArray) (es : List Ent) : List Ent := if moveOk p q es then putAll ((keptE es).map (mvE p q)) else keptE es
theorem mv_nodeV (p q : ByteArray) (e : Ent) : nodeV (mvE p q e) = nodeV e := rfl
theorem empty_of {s : ByteArray} (h : s.toList.isEmpty = true) : s = ⟨#[]⟩ := by
  rw [Lib.toList_data] at h
  apply ByteArray.ext
  exact Array.ext' (by simpa using h)
theorem move_pathB {s f t : ByteArray} (h : (moveS s f t).toList.isEmpty = false) : pathB (moveS s f t).data.toList = true := by
  unfold moveS at h ⊢
  split at h
  · rename_i hc
    rw [if_pos hc]
    simp only [Bool.and_eq_true] at hc
    exact hc.2
  · simp [Lib.toList_data] at h
theorem mv_ok {p q : ByteArray} {e : Ent} (he : entB e = true) (hm : (placeM p q e).toList.isEmpty = false) : entB (mvE p q e) = true := by
  have hp : pathB (placeM p q e).data.toList = true := by
    unfold placeM at hm ⊢
    cases hi : inB p.data.toList e.path.data.toList
    · exact ent_pathB he
    · rw [hi] at hm; exact move_pathB hm
  unfold entB at he ⊢
  simp only [Bool.and_eq_true] at he ⊢
  exact ⟨hp, he.2⟩
/-- The boxes of a move: from, to, what is answered. -/
def BxM (W : World) (N : Nat) (p q : ByteArray) : Prop := W.heap[N]? = some (.cells #[.string p] 9 (0, 0)) ∧ W.heap[N + 1]? = some (.cells #[.string q] 9 (0, 0)) ∧ W.heap[N + 1 + 1]? = some (.cells #[.slice none 0 0] 23 (0, 0)) ∧ W.heap[N + 1 + 1 + 1]? = some (.cells #[.bool false] 4 (0, 0))
theorem BxM.keep {W W' : World} {N : Nat} {p q : ByteArray} (h : BxM W N p q) (hk : ∀ k, k < N + 4 → W'.heap[k]? = W.heap[k]?) : BxM W' N p q :=
  ⟨(hk _ (by omega)).trans h.1, (hk _ (by omega)).trans h.2.1, (hk _ (by omega)).trans h.2.2.1, (hk _ (by omega)).trans h.2.2.2⟩
theorem BxM.grown {W W' : World} {row : Option Nat} {N : Nat} {p q : ByteArray} (h : BxM W N p q) (hg : W.grownBy W' row) (hr : ∀ r, row = some r → ∃ o : Obj, W.heap[r]? = some o ∧ o.isCells = false) : BxM W' N p q :=
  ⟨cells_grown hg hr h.1, cells_grown hg hr h.2.1, cells_grown hg hr h.2.2.1, cells_grown hg hr h.2.2.2⟩

set_option maxRecDepth 100000 in
set_option maxHeartbeats 8000000 in
theorem treeMove_any (es : List Ent) (a : Option Addr) (cap : Nat) (p q : ByteArray) (w : World) (hs : smallE es) (hp : p.size ≤ 1048576) (hq : q.size ≤ 1048576) (h : EntsAt w a es) :
    Calls Try.prog 19 #[.slice a es.length cap, .string p, .string q] w fun x w' => ∃ v, x = .returned (.tuple #[v, .bool (moveOk p q es)]) ∧ w'.ownsRow w.heap.size 27 4 v (moveR p q es).length (valsOf (moveR p q es)) ∧ Below w.heap.size w w' := by
  obtain ⟨wA, hwA⟩ : ∃ wA, wA = (((w.alloc (.cells #[.string p] 9)).alloc (.cells #[.string q] 9)).alloc (.cells #[.slice none 0 0] 23)).alloc (.cells #[.bool false] 4) := ⟨_, rfl⟩
  have hsz : wA.heap.size = w.heap.size + 4 := by rw [hwA]; simp
  have hBA : Below w.heap.size w wA := by rw [hwA]; exact ((((Below.refl _ w).alloc (Nat.le_refl _) _).alloc (by simp) _).alloc (by simp; omega) _).alloc (by simp; omega) _
  have hbox : BxM wA w.heap.size p q := by
    rw [hwA]
    refine ⟨?_, ?_, ?_, ?_⟩
    · exact (Below.heap_alloc _ _ _ (by simp; omega)).trans ((Below.heap_alloc _ _ _ (by simp; omega)).trans ((Below.heap_alloc _ _ _ (by simp)).trans (World.alloc_heap_new w _)))
    · have := World.alloc_heap_new (w.alloc (.cells #[.string p] 9)) (.cells #[.string q] 9)
      rw [World.size_alloc] at this
      exact (Below.heap_alloc _ _ _ (by simp)).trans ((Below.heap_alloc _ _ _ (by simp)).trans this)
    · have := World.alloc_heap_new ((w.alloc (.cells #[.string p] 9)).alloc (.cells #[.string q] 9)) (.cells #[.slice none 0 0] 23)
      rw [World.size_alloc, World.size_alloc] at this
      exact (Below.heap_alloc _ _ _ (by simp)).trans this
    · have := World.alloc_heap_new (((w.alloc (.cells #[.string p] 9)).alloc (.cells #[.string q] 9)).alloc (.cells #[.slice none 0 0] 23)) (.cells #[.bool false] 4)
      rw [World.size_alloc, World.size_alloc, World.size_alloc] at this
      exact this
  have H := hid (treeOf_any es a cap wA hs (h.below hBA))
  have HA := hid (And.intro hsz (And.intro hBA hbox))
  have HWA := hid hwA
  clear hs h hwA hsz hBA hbox
  refine (callsIn_wide (n := 3)).1 ?_
  refine callsIn_of_wp_marks Try.func19 rfl trivial ?_ rfl
  simp only [Try.ntmps19, List.size_toArray, List.length_cons, List.length_nil, Nat.reduceAdd, Nat.reduceSub, Array.replicate_succ, Array.replicate_zero, List.push_toArray, List.append_toArray, List.nil_append, List.cons_append]
  gi_wp2
  rw [← unhid HWA]
  refine ⟨trivial, (callsIn_wide.2 (unhid H)).mono ?_⟩
  rintro x w1 ⟨vp, vn, rfl, ⟨t2, t3⟩, hB⟩
  obtain ⟨ap, cp, rfl⟩ := ownsRow_slice t2
  obtain ⟨an, cn, rfl⟩ := ownsRow_slice t3
  obtain ⟨hsz, hBA, hbox⟩ := unhid HA
  obtain ⟨wt, hwt⟩ : ∃ wt, wt = w1.alloc (.cells #[.slice ap (keptE es).length cp, .slice an (keptE es).length cn] 58) := ⟨_, rfl⟩
  have hB1 : Below w.heap.size w w1 := hBA.trans (hB.mono (by omega))
  have hBt : Below w1.heap.size w1 wt := by rw [hwt]; exact (Below.refl _ w1).alloc (Nat.le_refl _) _
  have hBT : Below w.heap.size w wt := hB1.trans (hBt.mono hB1.size)
  have hT : TreeAt wt wA.heap.size w1.heap.size (keptE es) := ⟨_, _, by rw [hwt]; exact World.alloc_heap_new _ _, ownsRow_kept t2 (fun g e => hBt.block g (t2.lt g e).2), ownsRow_kept t3 (fun g e => hBt.block g (t3.lt g e).2)⟩
  have hw1 : wA.heap.size ≤ w1.heap.size := hB.size
  have hbt : BxM wt w.heap.size p q := hbox.keep (fun k hk => (hBt.block _ (by omega)).trans (hB.block _ (by omega)))
  have hkl := (kept_asc es).2
  have hka := (kept_asc es).1
  have hkb : ∀ e ∈ keptE es, entB e = true := fun x hx => by
    cases htb : treeB es
    · rw [keptE_no htb] at hx; simp at hx
    · rw [keptE_yes htb] at hx; exact tree_all htb x hx
  have MAY := hid (mayMove_any _ _ (keptE es) p q wt hp hq (by omega) hka hT)
  have d0 := (cell_of_box_l hbt.1).1
  have d1 := (cell_of_box_l hbt.2.1).1
  rw [hwt] at d0 d1
  have HT := hid (And.intro hBT (And.intro hbt hT))
  have HWT := hid hwt
  have HEQ := hid (show moveOk p q es = (mayB (keptE es) p q && moveAll p q (keptE es)) ∧ moveR p q es = if (mayB (keptE es) p q && moveAll p q (keptE es)) then putAll ((keptE es).map (mvE p q)) else keptE es from ⟨rfl, rfl⟩)
  clear hT hBT hBt hB1 hB t2 t3 hbox hBA HA HWA H hbt hwt
  gi_wp2
  rw [← unhid HWT]
  refine ⟨trivial, (callsIn_wide.2 (unhid MAY)).mono ?_⟩
  rintro x w2 ⟨rfl, hb⟩
  have hlt : w.heap.size + 4 ≤ wt.heap.size := by have := (unhid HT).2.2.lt; omega
  have HT2 := hid (show Below w.heap.size w w2 ∧ BxM w2 w.heap.size p q ∧ TreeAt w2 wA.heap.size w1.heap.size (keptE es) from ⟨(unhid HT).1.trans (hb.mono (by omega)), (unhid HT).2.1.keep (fun k hk => hb.block _ (by omega)), (unhid HT).2.2.below hb⟩)
  have hlt2 : w.heap.size + 4 ≤ w2.heap.size := Nat.le_trans hlt hb.size
  generalize hks : keptE es = ks at *
  clear hb HT HWT MAY d0 d1 hks hlt
  cases hmay : mayB ks p q
  · have E := hid (show moveOk p q es = false ∧ moveR p q es = ks by rw [(unhid HEQ).1, (unhid HEQ).2, hmay]; exact ⟨rfl, rfl⟩)
    gi_wp2
    refine ⟨trivial, (callsIn_wide.2 (entries_any wA.heap.size w1.heap.size ks w2 (by omega) hkb (unhid HT2).2.2)).mono ?_⟩
    rintro x w3 ⟨v, rfl, hown, hb⟩
    obtain ⟨va, vc, rfl⟩ := ownsRow_slice hown
    obtain ⟨hBw, hbx, hT⟩ := unhid HT2
    have hbx3 := hbx.keep (fun k hk => hb.block k (by omega))
    have hB3 := hBw.trans (hb.mono (by omega))
    obtain ⟨k2, f2⟩ := cell_of_box_l hbx3.2.2.1
    obtain ⟨k3, f3⟩ := cell_of_box_l hbx3.2.2.2
    have HF := hid (And.intro hown (And.intro hB3 hbx3))
    clear hown hb hBw hbx hT hbx3 hB3 HT2
    gi_wp2
    obtain ⟨hown, hB3, -⟩ := unhid HF
    refine ⟨.tuple #[.slice va ks.length vc, .bool false], ?_, _, by rw [(unhid E).1], by rw [(unhid E).2]; exact ownsRow_base (ownsRow_setCell_below (ownsRow_setCell_below hown (a := ⟨w.heap.size + 1 + 1, 0, none⟩) (show w.heap.size + 1 + 1 < w2.heap.size by omega) _) (a := ⟨w.heap.size + 1 + 1 + 1, 0, none⟩) (show w.heap.size + 1 + 1 + 1 < w2.heap.size by omega) _) (by omega), (hB3.setCell (p := ⟨w.heap.size + 1 + 1, 0, none⟩) (show w.heap.size ≤ w.heap.size + 1 + 1 by omega) _).setCell (p := ⟨w.heap.size + 1 + 1 + 1, 0, none⟩) (show w.heap.size ≤ w.heap.size + 1 + 1 + 1 by omega) _⟩
    simp [results, Try.f19, go_sem, World.cell?_setCell_same', k2, k3]
  · have E := hid (show moveOk p q es = moveAll p q ks ∧ moveR p q es = (if moveAll p q ks then putAll (ks.map (mvE p q)) else ks) by rw [(unhid HEQ).1, (unhid HEQ).2, hmay]; exact ⟨rfl, rfl⟩)
    obtain ⟨w3, hw3⟩ : ∃ w3, w3 = w2.alloc (.cells #[.slice none 0 0, .slice none 0 0] 58) := ⟨_, rfl⟩
    obtain ⟨w4, hw4⟩ : ∃ w4, w4 = w3.alloc (.cells #[.pointer (some ⟨w1.heap.size, 0, none⟩)] 104) := ⟨_, rfl⟩
    have hz3 : w3.heap.size = w2.heap.size + 1 := by rw [hw3]; simp
    have hz4 : w4.heap.size = w2.heap.size + 1 + 1 := by rw [hw4]; simp [hz3]
    have hB3 : Below w2.heap.size w2 w3 := by rw [hw3]; exact (Below.refl _ w2).alloc (Nat.le_refl _) _
    have hB34 : Below w3.heap.size w3 w4 := by rw [hw4]; exact (Below.refl _ w3).alloc (Nat.le_refl _) _
    have hB4 : Below w2.heap.size w2 w4 := hB3.trans (hB34.mono hB3.size)
    obtain ⟨hBT, hbx, vp, vn, t1, t2, t3⟩ := unhid HT2
    have hbl : w1.heap.size < w2.heap.size := (Array.getElem?_eq_some_iff.1 t1).1
    have hBw : Below w.heap.size w w4 := hBT.trans (hB4.mono (by omega))
    have hbx4 : BxM w4 w.heap.size p q := hbx.keep (fun k hk => hB4.block k (by omega))
    have hTI : TreeIn (w2.heap.size + 1) w1.heap.size wA.heap.size vp vn ks w4 :=
      ⟨by have := (cell_new_l w3 (.pointer (some ⟨w1.heap.size, 0, none⟩)) 104).1; rw [hz3] at this; rw [hw4]; exact this,
       (hB4.block _ hbl).trans t1, ownsRow_kept t2 (fun g e => hB4.block g (t2.lt g e).2), ownsRow_kept t3 (fun g e => hB4.block g (t3.lt g e).2)⟩
    have hLT : TreeAt w4 w2.heap.size w2.heap.size (putAll []) := ⟨.slice none 0 0, .slice none 0 0, (hB34.block _ (by omega)).trans (by rw [hw3]; exact World.alloc_heap_new _ _), World.ownsRow_nil _ _ _ _, World.ownsRow_nil _ _ _ _⟩
    have hbn4 : w4.heap[w2.heap.size + 1]? = some (.cells #[.pointer (some ⟨w1.heap.size, 0, none⟩)] 104 (0, 0)) := by have := World.alloc_heap_new w3 (.cells #[.pointer (some ⟨w1.heap.size, 0, none⟩)] 104); rw [hz3] at this; rw [hw4]; exact this
    have HAL := hid (all_in Fence.wide 2 trivial rfl w1.heap.size w3)
    rw [hz3, ← hw4] at HAL
    have HRW := hid (And.intro (fun g (eg : vp.ownBlock = some g) => (t2.lt g eg).2) (fun g (eg : vn.ownBlock = some g) => (t3.lt g eg).2))
    have HW3 := hid hw3
    clear hw4 t1 t2 t3 hB34 hB3 hbx hBT hw3
    gi_wp2
    rw [← unhid HW3]
    refine ⟨trivial, (unhid HAL).mono ?_⟩
    rintro x w5 ⟨rfl, e5⟩
    subst e5
    gi_wp2
    refine wpIn_rangeFunc_ownF rfl (by omega) (gf := 87) (lb := #[.pointer (some ⟨w2.heap.size + 1, 0, none⟩)]) rfl trivial (enters_of Try.func87 (by kernel_rfl) rfl)
      (all_stops Fence.wide _ trivial rfl (by omega) (w2.heap.size + 1) w1.heap.size wA.heap.size vp vn ks (by omega) (fun e => entB e = true) hkb _ hTI) (fun h g x => g (h x)) (fun W l o o' _ hl hc _ h => treeIn_grown h (grownBy_putObj' _ l o') (fun r e => by cases e; exact ⟨_, hl, hc⟩)) (Below.refl _ _) (fun _ => rfl)
      (fun pre W => (TreeAt W w2.heap.size w2.heap.size (putAll ((pre.map (·.1)).map (mvE p q))) ∧ TreeIn (w2.heap.size + 1) w1.heap.size wA.heap.size vp vn ks W ∧ BxM W w.heap.size p q ∧ W.heap[w2.heap.size + 1]? = some (.cells #[.pointer (some ⟨w1.heap.size, 0, none⟩)] 104 (0, 0)) ∧ Hid (∀ x ∈ pre.map (·.1), (placeM p q x).toList.isEmpty = false)) ∧ Below w.heap.size w W)
      (fun c pre W => (c = .ret ∧ (∃ x ∈ pre.map (·.1), (placeM p q x).toList.isEmpty = true) ∧ (∃ v, W.heap[w.heap.size + 1 + 1]? = some (.cells #[v] 23 (0, 0)) ∧ W.ownsRow w.heap.size 27 4 v ks.length (valsOf ks)) ∧ W.heap[w.heap.size + 1 + 1 + 1]? = some (.cells #[.bool false] 4 (0, 0))) ∧ Below w.heap.size w W)
      (OwnFrom.and (Own.from (fun s A B row hs hg hr => ⟨treeAt_grown hs.1 hg hr, treeIn_grown hs.2.1 hg hr, hs.2.2.1.grown hg hr, cells_grown hg hr hs.2.2.2.1, hs.2.2.2.2⟩) _) (ownFrom_below (Nat.le_refl _) (by omega)))
      (fun c => OwnFrom.and (Own.from (fun s A B row hs hg hr => ⟨hs.1, hs.2.1, by obtain ⟨v, h1, h2⟩ := hs.2.2.1; exact ⟨v, cells_grown hg hr h1, row_grown hg hr h2⟩, cells_grown hg hr hs.2.2.2⟩) _) (ownFrom_below (Nat.le_refl _) (by omega)))
      ⟨⟨hLT, hTI, hbx4, hbn4, hid (fun x hx => by simp at hx)⟩, hBw⟩
      (fun x => { tmps := #[.slice a es.length cap, .string p, .string q, undef, .pointer (some ⟨w.heap.size, 0, none⟩), .pointer (some ⟨w.heap.size + 1, 0, none⟩), .pointer (some ⟨w.heap.size + 1 + 1, 0, none⟩), .pointer (some ⟨w.heap.size + 1 + 1 + 1, 0, none⟩), .pointer (some ⟨w1.heap.size, 0, none⟩), .bool (treeB es), .pointer (some ⟨w2.heap.size, 0, none⟩), .string x.1.path, nodeV x.1, undef, .tuple #[.agg #[.slice ap ks.length cp, .slice an ks.length cn], .bool (treeB es)], .slice a es.length cap, .tuple #[.agg #[.slice ap ks.length cp, .slice an ks.length cn], .bool (treeB es)], .agg #[.slice ap ks.length cp, .slice an ks.length cn], .bool (treeB es), .string p, .string q, .bool true, .bool false, undef, .agg #[.slice none 0 0, .slice none 0 0], .pointer (some ⟨w1.heap.size, 0, none⟩), .func (.func 87) #[] #[.pointer (some ⟨w2.heap.size + 1, 0, none⟩)], .string x.1.path, nodeV x.1, undef, undef, undef, undef, undef, undef, undef, undef, undef, undef, undef, undef, undef, undef, undef, undef], defers := [] }) ?assign ?body ?done ?stop
    case assign =>
      intro l x W K hK
      gi_wp2
      exact hK
    case body =>
      rintro l pre ⟨e, hx⟩ W ⟨⟨hL, hTI2, hbW, hbn, hall⟩, hB⟩ hpl
      dsimp only
      have hpx : e.path.size ≤ maxLen := by have := ent_path_len hx; unfold maxLen; omega
      obtain ⟨d0, -⟩ := cell_of_box_l hbW.1
      obtain ⟨T0, nv, hnv⟩ := nodeV_shape e
      have hpre : (pre.map (·.1)).length = pre.length := List.length_map _
      have hwl : w.heap.size + 4 ≤ W.heap.size := by have := (Array.getElem?_eq_some_iff.1 hbW.2.2.2).1; omega
      gi_wp2
      refine ⟨trivial, (CallsIn.inRound l (callsIn_wide.2 (PathIn_any p e.path (by unfold maxLen; omega) hpx _))).mono ?_⟩
      rintro x W2 ⟨rfl, hb⟩
      have hO := KeepsOthers_of_below hb
      have hL2 := hL.below hb
      have hT2 := treeIn_below hTI2 hb
      have hbx2 := hbW.keep (fun k hk => hb.block k (by omega))
      have hbn2 := (hb.block _ (Array.getElem?_eq_some_iff.1 hbn).1).trans hbn
      have hB2 := hB.trans (hb.mono hB.size)
      have hwl2 := Nat.le_trans hwl hb.size
      clear hb d0 hL hTI2 hbW hbn hB
      cases hin : inB p.data.toList e.path.data.toList
      · have hpl2 : placeM p q e = e.path := by unfold placeM; rw [hin]; rfl
        have hem : e.path.toList.isEmpty = false := by rw [Lib.toList_data]; have := pathB_ne _ (ent_pathB hx); simpa using this
        have hmk : ((pre ++ [(⟨e, hx⟩ : { e : Ent // entB e = true })]).map (·.1)).map (mvE p q) = (pre.map (·.1)).map (mvE p q) ++ [mvE p q e] := by rw [List.map_append, List.map_append]; rfl
        have hlen : (putAll ((pre.map (·.1)).map (mvE p q))).length ≤ 900 := by
          have h1 := putAll_len ((pre.map (·.1)).map (mvE p q))
          rw [List.length_map, List.length_map] at h1
          omega
        have hput := mapPut_any w2.heap.size w2.heap.size (putAll ((pre.map (·.1)).map (mvE p q))) (mvE p q e) W2 hlen (up_asc (putAll_up _)) (Nat.le_refl _) hL2
        rw [← putAll_snoc, ← hmk, mv_nodeV, show (mvE p q e).path = e.path from hpl2] at hput
        rw [hnv] at hput
        try rw [hnv]
        have hne : ∀ x ∈ (pre ++ [(⟨e, hx⟩ : { e : Ent // entB e = true })]).map (·.1), (placeM p q x).toList.isEmpty = false := by
          intro x hxm
          rw [List.map_append, List.mem_append] at hxm
          rcases hxm with h | h
          · exact unhid hall x h
          · simp at h; subst h; rw [hpl2]; exact hem
        have HP := hid hput
        have HI := hid (And.intro hO (And.intro hT2 (And.intro hbx2 (And.intro hbn2 (And.intro hB2 hne)))))
        have HL0 := hid hL2
        clear hput hO hL2 hT2 hbx2 hB2 hmk hlen hbn2 hne hpl2
        gi_wp2
        refine ⟨trivial, (CallsIn.inRound l (callsIn_wide.2 (unhid HP))).mono ?_⟩
        rintro x W9 ⟨⟨v, rfl⟩, hT9, hB9, hO9⟩
        obtain ⟨hO, hT2, hbx2, hbn2, hB2, hne⟩ := unhid HI
        have hap2 : Apart (.cells #[.pointer (some ⟨w1.heap.size, 0, none⟩)] 104 (0, 0)) := apart_of (by decide)
        have HF := hid (show KeepsOthers W W9 ∧ (TreeIn (w2.heap.size + 1) w1.heap.size wA.heap.size vp vn ks W → TreeIn (w2.heap.size + 1) w1.heap.size wA.heap.size vp vn ks W9) ∧ (TreeAt W9 w2.heap.size w2.heap.size (putAll (((pre ++ [(⟨e, hx⟩ : { e : Ent // entB e = true })]).map (·.1)).map (mvE p q))) ∧ TreeIn (w2.heap.size + 1) w1.heap.size wA.heap.size vp vn ks W9 ∧ BxM W9 w.heap.size p q ∧ W9.heap[w2.heap.size + 1]? = some (.cells #[.pointer (some ⟨w1.heap.size, 0, none⟩)] 104 (0, 0)) ∧ Hid (∀ x ∈ (pre ++ [(⟨e, hx⟩ : { e : Ent // entB e = true })]).map (·.1), (placeM p q x).toList.isEmpty = false)) ∧ Below w.heap.size w W9 by
          have hTF : TreeIn (w2.heap.size + 1) w1.heap.size wA.heap.size vp vn ks W9 := treeIn_kept2 hT2 (fun k hk => hB9.block k hk) hbl (unhid HRW).1 (unhid HRW).2 (fun o ho hap => hO9 _ o (by omega) ho hap) ⟨_, _, _, hbn2, by decide⟩
          exact ⟨hO.trans ⟨hB9.size, fun k o hk hc => by
              by_cases hkb : k = w2.heap.size
              · subst hkb; obtain ⟨_, _, q1, _⟩ := (unhid HL0); rw [hk] at q1; cases q1; cases hc
              · exact hO9 k o hkb hk (fun cs t f e => by subst e; cases hc)⟩, fun _ => hTF, ⟨hT9, hTF, hbx2.keep (fun k hk => hB9.block k (by omega)), hO9 _ _ (by omega) hbn2 hap2, hid hne⟩, hB2.trans (hB9.mono (by omega))⟩)
        clear hT9 hB9 hO9 hO hT2 hbx2 hB2 hbn2 hap2 hne
        gi_wp2
        exact unhid HF
      · have hpl2 : placeM p q e = moveS e.path p q := by unfold placeM; rw [hin]; rfl
        obtain ⟨d0, -⟩ := cell_of_box_l hbx2.1
        obtain ⟨d1, -⟩ := cell_of_box_l hbx2.2.1
        have HI0 := hid (And.intro hO (And.intro hL2 (And.intro hT2 (And.intro hbx2 (And.intro hbn2 hB2)))))
        clear hO hL2 hT2 hbx2 hbn2 hB2
        gi_wp2
        refine ⟨trivial, (CallsIn.inRound l (callsIn_wide.2 (PathMove_any e.path p q hpx (by unfold maxLen; omega) (by unfold maxLen; omega) _))).mono ?_⟩
        rintro x W3 ⟨rfl, hb⟩
        obtain ⟨hO0, hL0, hT0, hbx0, hbn0, hB0⟩ := unhid HI0
        have hO := hO0.trans (KeepsOthers_of_below hb)
        have hL2 := hL0.below hb
        have hT2 := treeIn_below hT0 hb
        have hbx2 := hbx0.keep (fun k hk => hb.block k (by omega))
        have hbn2 := (hb.block _ (Array.getElem?_eq_some_iff.1 hbn0).1).trans hbn0
        have hB2 := hB0.trans (hb.mono hB0.size)
        have hwl3 := Nat.le_trans hwl2 hb.size
        clear hb d0 d1 hO0 hL0 hT0 hbx0 hbn0 hB0 HI0
        cases hem : (moveS e.path p q).toList.isEmpty
        · skip
          have hmk : ((pre ++ [(⟨e, hx⟩ : { e : Ent // entB e = true })]).map (·.1)).map (mvE p q) = (pre.map (·.1)).map (mvE p q) ++ [mvE p q e] := by rw [List.map_append, List.map_append]; rfl
          have hlen : (putAll ((pre.map (·.1)).map (mvE p q))).length ≤ 900 := by
            have h1 := putAll_len ((pre.map (·.1)).map (mvE p q))
            rw [List.length_map, List.length_map] at h1
            omega
          have hput := mapPut_any w2.heap.size w2.heap.size (putAll ((pre.map (·.1)).map (mvE p q))) (mvE p q e) W3 hlen (up_asc (putAll_up _)) (Nat.le_refl _) hL2
          rw [← putAll_snoc, ← hmk, mv_nodeV, show (mvE p q e).path = moveS e.path p q from hpl2] at hput
          rw [hnv] at hput
          try rw [hnv]
          have hne : ∀ x ∈ (pre ++ [(⟨e, hx⟩ : { e : Ent // entB e = true })]).map (·.1), (placeM p q x).toList.isEmpty = false := by
            intro x hxm
            rw [List.map_append, List.mem_append] at hxm
            rcases hxm with h | h
            · exact unhid hall x h
            · simp at h; subst h; rw [hpl2]; exact hem
          have HP := hid hput
          have HI := hid (And.intro hO (And.intro hT2 (And.intro hbx2 (And.intro hbn2 (And.intro hB2 hne)))))
          have HL0 := hid hL2
          clear hput hO hL2 hT2 hbx2 hB2 hmk hlen hbn2 hne hpl2
          gi_wp2
          refine ⟨trivial, (CallsIn.inRound l (callsIn_wide.2 (unhid HP))).mono ?_⟩
          rintro x W9 ⟨⟨v, rfl⟩, hT9, hB9, hO9⟩
          obtain ⟨hO, hT2, hbx2, hbn2, hB2, hne⟩ := unhid HI
          have hap2 : Apart (.cells #[.pointer (some ⟨w1.heap.size, 0, none⟩)] 104 (0, 0)) := apart_of (by decide)
          have HF := hid (show KeepsOthers W W9 ∧ (TreeIn (w2.heap.size + 1) w1.heap.size wA.heap.size vp vn ks W → TreeIn (w2.heap.size + 1) w1.heap.size wA.heap.size vp vn ks W9) ∧ (TreeAt W9 w2.heap.size w2.heap.size (putAll (((pre ++ [(⟨e, hx⟩ : { e : Ent // entB e = true })]).map (·.1)).map (mvE p q))) ∧ TreeIn (w2.heap.size + 1) w1.heap.size wA.heap.size vp vn ks W9 ∧ BxM W9 w.heap.size p q ∧ W9.heap[w2.heap.size + 1]? = some (.cells #[.pointer (some ⟨w1.heap.size, 0, none⟩)] 104 (0, 0)) ∧ Hid (∀ x ∈ (pre ++ [(⟨e, hx⟩ : { e : Ent // entB e = true })]).map (·.1), (placeM p q x).toList.isEmpty = false)) ∧ Below w.heap.size w W9 by
            have hTF : TreeIn (w2.heap.size + 1) w1.heap.size wA.heap.size vp vn ks W9 := treeIn_kept2 hT2 (fun k hk => hB9.block k hk) hbl (unhid HRW).1 (unhid HRW).2 (fun o ho hap => hO9 _ o (by omega) ho hap) ⟨_, _, _, hbn2, by decide⟩
            exact ⟨hO.trans ⟨hB9.size, fun k o hk hc => by
                by_cases hkb : k = w2.heap.size
                · subst hkb; obtain ⟨_, _, q1, _⟩ := (unhid HL0); rw [hk] at q1; cases q1; cases hc
                · exact hO9 k o hkb hk (fun cs t f e => by subst e; cases hc)⟩, fun _ => hTF, ⟨hT9, hTF, hbx2.keep (fun k hk => hB9.block k (by omega)), hO9 _ _ (by omega) hbn2 hap2, hid hne⟩, hB2.trans (hB9.mono (by omega))⟩)
          clear hT9 hB9 hO9 hO hT2 hbx2 hB2 hbn2 hap2 hne
          gi_wp2
          exact unhid HF
        · have hbad : ∃ x ∈ (pre ++ [(⟨e, hx⟩ : { e : Ent // entB e = true })]).map (·.1), (placeM p q x).toList.isEmpty = true := ⟨e, by simp, by rw [hpl2]; exact hem⟩
          have hTm : TreeAt W3 wA.heap.size w1.heap.size ks := ⟨vp, vn, hT2.2.1, hT2.2.2⟩
          have ENT := hid (entries_any wA.heap.size w1.heap.size ks W3 (by omega) hkb hTm)
          have HI := hid (And.intro hO (And.intro hbx2 (And.intro hB2 hbad)))
          clear hO hL2 hT2 hbx2 hbn2 hB2 hbad hTm hpl2
          gi_wp2
          refine ⟨trivial, (CallsIn.inRound l (callsIn_wide.2 (unhid ENT))).mono ?_⟩
          rintro x W9 ⟨v, rfl, hown, hb⟩
          obtain ⟨va, vc, rfl⟩ := ownsRow_slice hown
          obtain ⟨hO, hbx2, hB2, hbad⟩ := unhid HI
          have hbx9 := hbx2.keep (fun k hk => hb.block k (by omega))
          have hB9 := hB2.trans (hb.mono hB2.size)
          have hO9 := hO.trans (KeepsOthers_of_below hb)
          obtain ⟨k2, f2⟩ := cell_of_box_l hbx9.2.2.1
          obtain ⟨k3, f3⟩ := cell_of_box_l hbx9.2.2.2
          have HF := hid (And.intro hown (And.intro hbx9 (And.intro hB9 (And.intro hO9 hbad))))
          clear hown hb hO hbx2 hB2 hbad hbx9 hB9 hO9 HI
          gi_wp2
          obtain ⟨hown, hbx9, hB9, hO9, hbad⟩ := unhid HF
          have hne23 : w.heap.size + 1 + 1 ≠ w.heap.size + 1 + 1 + 1 := by omega
          exact ⟨hO9.trans ((KeepsOthers.setCell _ _ _).trans (KeepsOthers.setCell _ _ _)), ⟨rfl, hbad, ⟨.slice va ks.length vc, (Below.heap_setCell _ _ _ _ hne23).trans (by rw [heap_setCell_same _ _ 0 _ _ _ hbx9.2.2.1]; rfl), ownsRow_base (ownsRow_setCell_below (ownsRow_setCell_below hown (a := ⟨w.heap.size + 1 + 1, 0, none⟩) (show w.heap.size + 1 + 1 < W3.heap.size by omega) _) (a := ⟨w.heap.size + 1 + 1 + 1, 0, none⟩) (show w.heap.size + 1 + 1 + 1 < W3.heap.size by omega) _) (by omega)⟩,
            by rw [heap_setCell_same _ _ 0 _ _ _ ((Below.heap_setCell _ _ _ _ hne23.symm).trans hbx9.2.2.2)]; rfl⟩, (hB9.setCell (p := ⟨w.heap.size + 1 + 1, 0, none⟩) (show w.heap.size ≤ w.heap.size + 1 + 1 by omega) _).setCell (p := ⟨w.heap.size + 1 + 1 + 1, 0, none⟩) (show w.heap.size ≤ w.heap.size + 1 + 1 + 1 by omega) _⟩
    case stop =>
      rintro D c pre W hD hpr ⟨⟨rfl, hbad, ⟨v, hv1, hv2⟩, hb7⟩, hB⟩ hK
      have hno : moveAll p q ks = false := by
        obtain ⟨x, hxm, hxe⟩ := hbad
        exact List.all_eq_false.2 ⟨x, hpr.subset hxm, by rw [hxe]; simp⟩
      have hg := grownBy_putObj' W D (.deferred none)
      have hr : ∀ r, some D = some r → ∃ o : Obj, W.heap[r]? = some o ∧ o.isCells = false := fun r e => by cases e; exact ⟨_, hK, rfl⟩
      have s2 := (cell_of_box_l (cells_grown hg hr hv1)).1
      have s3 := (cell_of_box_l (cells_grown hg hr hb7)).1
      have HF := hid (And.intro (row_grown hg hr hv2) (And.intro (hB.trans (belowK_b (w := w) (Nat.le_refl _) _ D (.deferred (some [])) (.deferred none) (by omega) hK rfl rfl)) (And.intro hno hK)))
      clear hno hg hr hv1 hv2 hb7 hB hbad hK
      gi_wp2
      refine ⟨by simp, .inl ⟨_, _, rfl, run_takeDeferred (unhid HF).2.2.2, ?_⟩⟩
      obtain ⟨hown, hB, hno, -⟩ := unhid HF
      refine ⟨.tuple #[v, .bool false], ?_, _, by rw [(unhid E).1, hno], by rw [(unhid E).2, hno]; exact hown, hB⟩
      simp [results, Try.f19, go_sem, s2, s3]
    case done =>
      rintro D ys W hD hys ⟨⟨hL, hTI2, hbW, hbn, hall⟩, hB⟩ hK
      rw [hys] at hL hall
      have hyes : moveAll p q ks = true := List.all_eq_true.2 (fun x hx => by rw [unhid hall x hx]; rfl)
      have hlen : (putAll (ks.map (mvE p q))).length ≤ 1000 := by have := putAll_len (ks.map (mvE p q)); rw [List.length_map] at this; omega
      have hen : ∀ e ∈ putAll (ks.map (mvE p q)), entB e = true := fun e he => by
        obtain ⟨x, hx, rfl⟩ := List.mem_map.1 (putAll_mem _ _ he)
        exact mv_ok (hkb x hx) (unhid hall x hx)
      have ENT := hid (entries_any w2.heap.size w2.heap.size (putAll (ks.map (mvE p q))) W hlen hen hL)
      have HI := hid (And.intro hB (And.intro hK (And.intro hbW hyes)))
      have hDl := (Array.getElem?_eq_some_iff.1 hK).1
      have hwl : w.heap.size + 4 ≤ W.heap.size := by have := (Array.getElem?_eq_some_iff.1 hbW.2.2.2).1; omega
      clear hL hTI2 hbW hbn hB hK hlen hen hall hyes
      gi_wp2
      refine ⟨trivial, (callsIn_wide.2 (unhid ENT)).mono ?_⟩
      rintro x W3 ⟨v, rfl, hown, hb3⟩
      obtain ⟨va, vc, rfl⟩ := ownsRow_slice hown
      obtain ⟨hB, hK, hbW, hyes⟩ := unhid HI
      have hbx3 := hbW.keep (fun k hk => hb3.block k (by omega))
      obtain ⟨k2, f2⟩ := cell_of_box_l hbx3.2.2.1
      obtain ⟨k3, f3⟩ := cell_of_box_l hbx3.2.2.2
      have HF := hid (And.intro hown (And.intro (hB.trans (hb3.mono hB.size)) (And.intro ((hb3.block _ hDl).trans hK) (And.intro hbx3 hyes))))
      have hw3 := hb3.size
      clear hown hb3 hB hK hbW hyes hbx3 HI
      gi_wp2
      obtain ⟨hown, hB, hK, hbx3, hyes⟩ := unhid HF
      have hne23 : w.heap.size + 1 + 1 ≠ w.heap.size + 1 + 1 + 1 := by omega
      obtain ⟨WF, hWF⟩ : ∃ WF, WF = ((W3.setCell ⟨w.heap.size + 1 + 1, 0, none⟩ (.slice va (putAll (ks.map (mvE p q))).length vc)).setCell ⟨w.heap.size + 1 + 1 + 1, 0, none⟩ (.bool true)) := ⟨_, rfl⟩
      have hKF : WF.heap[D]? = some (.deferred (some [])) := by rw [hWF]; exact (Below.heap_setCell _ _ _ _ (show D ≠ w.heap.size + 1 + 1 + 1 by omega)).trans ((Below.heap_setCell _ _ _ _ (show D ≠ w.heap.size + 1 + 1 by omega)).trans hK)
      have hv1 : WF.heap[w.heap.size + 1 + 1]? = some (.cells #[.slice va (putAll (ks.map (mvE p q))).length vc] 23 (0, 0)) := by rw [hWF]; exact (Below.heap_setCell _ _ _ _ hne23).trans (by rw [heap_setCell_same _ _ 0 _ _ _ hbx3.2.2.1]; rfl)
      have hb7 : WF.heap[w.heap.size + 1 + 1 + 1]? = some (.cells #[.bool true] 4 (0, 0)) := by rw [hWF, heap_setCell_same _ _ 0 _ _ _ ((Below.heap_setCell _ _ _ _ hne23.symm).trans hbx3.2.2.2)]; rfl
      have hownF : WF.ownsRow W.heap.size 27 4 (.slice va (putAll (ks.map (mvE p q))).length vc) (putAll (ks.map (mvE p q))).length (valsOf (putAll (ks.map (mvE p q)))) := by rw [hWF]; exact ownsRow_setCell_below (ownsRow_setCell_below hown (a := ⟨w.heap.size + 1 + 1, 0, none⟩) (show w.heap.size + 1 + 1 < W.heap.size by omega) _) (a := ⟨w.heap.size + 1 + 1 + 1, 0, none⟩) (show w.heap.size + 1 + 1 + 1 < W.heap.size by omega) _
      have hBF : Below w.heap.size w WF := by rw [hWF]; exact (hB.setCell (p := ⟨w.heap.size + 1 + 1, 0, none⟩) (show w.heap.size ≤ w.heap.size + 1 + 1 by omega) _).setCell (p := ⟨w.heap.size + 1 + 1 + 1, 0, none⟩) (show w.heap.size ≤ w.heap.size + 1 + 1 + 1 by omega) _
      rw [← hWF]
      refine ⟨by simp, .inl ⟨_, _, rfl, run_takeDeferred hKF, ?_⟩⟩
      have hg := grownBy_putObj' WF D (.deferred none)
      have hr : ∀ r, some D = some r → ∃ o : Obj, WF.heap[r]? = some o ∧ o.isCells = false := fun r e => by cases e; exact ⟨_, hKF, rfl⟩
      have s2 := (cell_of_box_l (cells_grown hg hr hv1)).1
      have s3 := (cell_of_box_l (cells_grown hg hr hb7)).1
      refine ⟨.tuple #[.slice va (putAll (ks.map (mvE p q))).length vc, .bool true], ?_, _, by rw [(unhid E).1, hyes], by rw [(unhid E).2, hyes]; exact ownsRow_base (row_grown hg hr hownF) (by omega), hBF.trans (belowK_b (w := w) (Nat.le_refl _) _ D (.deferred (some [])) (.deferred none) (by omega) hKF rfl rfl)⟩
      simp [results, Try.f19, go_sem, s2, s3]
end Go.Proofs.Ytaefjibnnbdaaaa

/- Entries put by path, by the model. -/
namespace Go.Proofs.Ytaefjibnnbdaaaa
open Go.RowKit Go.Shelf

theorem ownsRow_some {W : World} {N n size : Nat} {v : Value} {e : TypeId} {xs : List Value} (h : W.ownsRow N e size v n xs) (hn : 0 < n) : ∃ g cap, v = .slice (some ⟨g, 0, none⟩) n cap := by
  rcases h.2 with ⟨rfl, h0⟩ | ⟨g, cap, cur, rfl, _⟩
  · omega
  · exact ⟨g, cap, rfl⟩
def sortL (xs : List Ent) : List Ent := xs.foldl insAt []
theorem sortL_snoc (xs : List Ent) (x : Ent) : sortL (xs ++ [x]) = insAt (sortL xs) x := by unfold sortL; rw [List.foldl_append]; rfl
theorem insAt_len (es : List Ent) (e : Ent) : (insAt es e).length = es.length + 1 := by unfold insAt; have := placeE_le es e.path; simp; omega
theorem sortL_len : ∀ xs, (sortL xs).length = xs.length := snoc_ind rfl (fun xs x ih => by rw [sortL_snoc, insAt_len, ih]; simp)

set_option maxRecDepth 100000 in
set_option maxHeartbeats 8000000 in
theorem l2Sorted_any (xs : List Ent) (b o cap : Nat) (w : World) (hn : xs.length ≤ 900) (h : ∀ (i : Nat) e, xs[i]? = some e → EntAt w b (o + i * 4) e) (hb : b < w.heap.size) :
    Calls Try.prog 92 #[.slice (some ⟨b, o, none⟩) xs.length cap] w fun x w' => ∃ v, x = .returned v ∧ w'.ownsRow w.heap.size 27 4 v (sortL xs).length (valsOf (sortL xs)) ∧ Below w.heap.size w w' := by
  obtain ⟨i0, hi0, hz0, hzs, hzb⟩ := info_parts infoEntry
  have HI := hid (And.intro hi0 (And.intro hz0 (And.intro hzs hzb)))
  have HH := hid h
  have HF0 := hid (And.intro (owns_empty w w.heap.size (Nat.le_refl _) 27) ((Below.refl w.heap.size w).alloc (Nat.le_refl _) (.cells #[] 27)))
  clear hi0 hz0 hzs hzb h
  go_enter Try.func92, Try.ntmps92
  go_wp2_with fail
  go_loopw [3, 4] (fun v i wr => ∃ j : Nat, j ≤ xs.length ∧ i = .int .i64 (j : Int) ∧ (∃ g c, v = .slice (some ⟨g, 0, none⟩) (sortL (xs.take j)).length c) ∧ Hid (wr.ownsRow w.heap.size 27 4 v (sortL (xs.take j)).length (valsOf (sortL (xs.take j)))) ∧ Hid (Below w.heap.size w wr)) (fun _ i _ => xs.length - (intOf i).toNat)
  case atStart => exact ⟨0, Nat.zero_le _, rfl, ⟨_, 0, rfl⟩, hid (by simp [sortL, valsOf]; exact (unhid HF0).1), hid (unhid HF0).2⟩
  case round =>
    obtain ⟨j, hj, rfl, ⟨g, c, rfl⟩, HO, HB⟩ := hrel
    by_cases hlt : j < xs.length
    · obtain ⟨e, he⟩ : ∃ e, xs[j]? = some e := ⟨xs[j], List.getElem?_eq_getElem hlt⟩
      have hsn : sortL (xs.take (j + 1)) = insAt (sortL (xs.take j)) e := by rw [List.take_add_one, he]; exact sortL_snoc _ _
      have hll := sortL_len (xs.take j)
      rw [List.length_take, Nat.min_eq_left (by omega)] at hll
      have hl9 : (sortL (xs.take j)).length ≤ 900 := by omega
      clear hll
      obtain ⟨c0, c1, c2, c3⟩ := ((unhid HH) j e he).below (unhid HB) hb
      have HE := hid ((unhid HH) j e he)
      obtain ⟨a1, cap1, ev, hRI⟩ := rowIn_of_owns (unhid HO)
      injection ev with ev1 ev2 ev3
      subst ev1
      have HAT := hid hRI.at
      have hcl : (sortL (xs.take j)).length ≤ c := by
        rcases (unhid HO).2 with ⟨hv, h0⟩ | ⟨g', cap', cur', hv, _, _, hcc, _⟩
        · cases hv
        · cases hv; exact hcc
      have hgl : g < wr.heap.size := by
        rcases (unhid HO).2 with ⟨hv, h0⟩ | ⟨g', cap', cur', hv, _, hh, _⟩
        · cases hv
        · cases hv; exact (Array.getElem?_eq_some_iff.1 hh).1
      have HGE := hid (show ∀ (i : Nat) x, (sortL (xs.take j))[i]? = some x → EntAt wr g (0 + i * 4) x by
        rcases unhid HAT with h0 | ⟨b', o', eb, _, hcc⟩
        · intro i x hi; rw [h0] at hi; simp at hi
        · cases eb; exact hcc)
      have AT := hid (l2At_any (sortL (xs.take j)) (some ⟨g, 0, none⟩) c e.path wr (by omega) (unhid HAT))
      have HSN0 := hid hsn
      clear hRI he hsn ev2 ev3
      generalize sortL (xs.take j) = L at *
      go_wp2_with fail
      refine (unhid AT).mono ?_
      rintro x w3 ⟨rfl, n3, e3⟩
      have hB3 : Below wr.heap.size wr w3 := by rw [e3]; exact drewN_below _ _
      have hkn : placeE L e.path ≤ L.length := placeE_le _ _
      have HSN := hid (show (sortL (xs.take (j + 1))).length = placeE L e.path + 1 + (L.length - placeE L e.path) ∧ valsOf (sortL (xs.take (j + 1))) = valsOf (L.take (placeE L e.path)) ++ valsOf [e] ++ valsOf (L.drop (placeE L e.path)) by
        rw [unhid HSN0]; refine ⟨by rw [insAt_len]; omega, ?_⟩; unfold insAt; rw [valsOf_app, valsOf_app])
      have HB2 := hid ((unhid HB).trans (hB3.mono (unhid HB).size))
      have HG3 := hid (entAt_below (unhid HGE) (.inr hgl) hB3)
      have HE3 := hid ((unhid HE).below (unhid HB2) hb)
      have hwl : w.heap.size ≤ w3.heap.size := (unhid HB2).size
      have hgl3 : g < w3.heap.size := Nat.lt_of_lt_of_le hgl hB3.size
      have hbl3 : b < w3.heap.size := Nat.lt_of_lt_of_le hb hwl
      generalize hth : thereE L e.path = th
      clear hth
      generalize placeE L e.path = k at hkn HSN ⊢
      clear hB3 e3 AT HGE HE c0 c1 c2 c3 HAT HSN0 HB HO n3 hgl
      generalize hnl : L.length = n at *
      have HNL := hid hnl
      clear hnl
      go_wp2_with fail
      have hi1 : (0 : Int) ≤ (k : Int) := by omega
      have hi2 : (k : Int) ≤ (n : Int) := by omega
      have hi3 : (k : Int) ≤ (c : Int) := by omega
      have hi4 : (n : Int) ≤ (c : Int) := by omega
      have hi5 : (0 : Int) ≤ (j : Int) := by omega
      have hi6 : (j : Int) < (xs.length : Int) := by omega
      have HC1 := hid (show ∀ W, Below w3.heap.size w3 W → ∀ j u, (valsOf (L.take k))[j]? = some u → W.cell? ((⟨g, 0, none⟩ : Addr).add j) = some u from fun W hW => ents_cells (ents_take (entAt_below (unhid HG3) (.inr hgl3) hW)))
      have HC2 := hid (show ∀ W, Below w3.heap.size w3 W → ∀ j u, (valsOf (L.drop k))[j]? = some u → W.cell? ((⟨g, offD c k, none⟩ : Addr).add j) = some u from fun W hW => ents_cells (fun i x hi => by have := ents_dropD (entAt_below (unhid HG3) (.inr hgl3) hW) (show L.length ≤ c by rw [unhid HNL]; omega) i x hi; rwa [Nat.zero_add] at this))
      have ht1 : (L.take k).length = k := by rw [List.length_take, unhid HNL]; omega
      have ht2 : (L.drop k).length = n - k := by rw [List.length_drop, unhid HNL]
      refine wp_region_held_drew (S := fun w' => Below w3.heap.size w3 w') (by kernel_rfl) (drew_below _) (fun hS => ?_)
      refine wpAnyH_take (i := 1) (v := .slice (some ⟨g, 0, none⟩) n c) rfl (by kernel_rfl) (by kernel_rfl) (by kernel_rfl) (fun _ _ _ h => h) (Or.inl ⟨by rfl, fun w' hw => by go_simp⟩) hS ?_
      refine wpAnyH_take (i := 2) (v := .int .i64 (k : Int)) rfl (by kernel_rfl) (by kernel_rfl) (by kernel_rfl) (fun _ _ _ h => h) (Or.inl ⟨by rfl, fun w' hw => by go_simp⟩) hS ?_
      refine wpAnyH_take (i := 3) (v := .slice (some ⟨g, 0, none⟩) k c) rfl (by kernel_rfl) (by kernel_rfl) (by kernel_rfl) (fun _ _ _ h => h) (Or.inl ⟨by rfl, fun w' hw => by go_simp⟩) hS ?_
      refine wpAnyH_take (i := 5) (v := .slice (some ⟨b, o, none⟩) xs.length cap) rfl (by kernel_rfl) (by kernel_rfl) (by kernel_rfl) (fun _ _ _ h => h) (Or.inl ⟨by rfl, fun w' hw => by go_simp⟩) hS ?_
      refine wpAnyH_take (i := 6) (v := .int .i64 (j : Int)) rfl (by kernel_rfl) (by kernel_rfl) (by kernel_rfl) (fun _ _ _ h => h) (Or.inl ⟨by rfl, fun w' hw => by go_simp⟩) hS ?_
      refine wpAnyH_take (i := 7) (v := .pointer (some ⟨b, o + j * 4, none⟩)) rfl (by kernel_rfl) (by kernel_rfl) (by kernel_rfl) (fun _ _ _ h => h) (Or.inl ⟨by rfl, fun w' hw => by go_simp⟩) hS ?_
      refine wpAnyH_take (i := 8) (v := .agg #[.string e.path, .int .i64 e.kind, .int .i64 e.mode, .string e.text]) rfl (by kernel_rfl) (by kernel_rfl) (by kernel_rfl) (fun _ _ _ h => h) (Or.inl ⟨by rfl, fun w' hw => by obtain ⟨k0, k1, k2, k3⟩ := (unhid HE3).below hw hbl3; go_simp⟩) hS ?_
      refine wpAnyH_take (i := 11) (v := .slice (some ⟨g, 0, none⟩) n c) rfl (by kernel_rfl) (by kernel_rfl) (by kernel_rfl) (fun _ _ _ h => h) (Or.inl ⟨by rfl, fun w' hw => by go_simp⟩) hS ?_
      refine wpAnyH_take (i := 12) (v := .int .i64 (k : Int)) rfl (by kernel_rfl) (by kernel_rfl) (by kernel_rfl) (fun _ _ _ h => h) (Or.inl ⟨by rfl, fun w' hw => by go_simp⟩) hS ?_
      refine wpAnyH_take (i := 13) (v := .slice (some ⟨g, offD c k, none⟩) (n - k) (c - k)) rfl (by kernel_rfl) (by kernel_rfl) (by kernel_rfl) (fun _ _ _ h => h) (Or.inl ⟨by rfl, fun w' hw => by 
        unfold offD
        by_cases hck : c = k
        · rw [if_pos hck]; go_simp
        · rw [if_neg hck]; go_simp⟩) hS ?_
      generalize w3.drew = W at hS ⊢
      refine wpAnyH_ready (rs := [0, 9]) (by kernel_rfl) (by simp) ?_
      refine AllReadyH.cons rfl (fun K hK => ?_) (AllReadyH.cons rfl (fun K hK => ?_) AllReadyH.nil)
      · go_simp
        have r0 := owns_empty W w3.heap.size hS.size 27
        have hS1 := hS.alloc hS.size (.cells #[] 27)
        refine hK.out _ _ hS1 (fun _ => ?_)
        clear hK K hS
        generalize W.alloc (.cells #[] 27) = W2 at hS1 r0 ⊢
        generalize W.heap.size = g0 at r0 ⊢
        have hS := hS1
        clear hS1
        refine wpAnyH_ready (rs := [4, 9]) (by kernel_rfl) (by simp) ?_
        refine AllReadyH.cons rfl (fun K hK => ?_) (AllReadyH.cons rfl (fun K hK => ?_) AllReadyH.nil)
        · refine step_append_at (by rfl) _ _ 23 (by rfl) w3.heap.size 27 i0 _ 4 48 Try.underlying23 (unhid HI).1 (unhid HI).2.1 (unhid HI).2.2.1 (unhid HI).2.2.2 rfl (by decide) (Value.slice (some ⟨g0, 0, none⟩) 0 0) (0) ([]) (by rfl) r0 ⟨g, 0, none⟩ (k) (c) (valsOf (L.take k)) (by rfl) (by rw [valsOf_len, ht1]) (unhid HC1 _ hS) (valsOf_one _) (by unfold maxLen; omega) (by omega) hS.size ?_
          intro v1 W3 r1 hg1 hat1
          rw [Nat.zero_add, List.nil_append] at r1
          obtain ⟨a1, c1, rfl⟩ := ownsRow_slice r1
          have hS1 := hS.grown hg1 hS.size (fun g eg => (r0.lt g eg).1)
          refine hK.out _ _ hS1 (fun _ => ?_)
          clear hK K hS r0 hg1 hat1
          have hS := hS1
          clear hS1
          refine wpAnyH_ready (rs := [9]) (by kernel_rfl) (by simp) ?_
          refine AllReadyH.cons rfl (fun K hK => ?_) AllReadyH.nil
          go_simp
          have o2 : OneAt (W3.alloc (.cells #[.string e.path, .int .i64 e.kind, .int .i64 e.mode, .string e.text] 27)) W3.heap.size e := World.alloc_heap_new _ _
          have hS1 := hS.alloc hS.size (.cells #[.string e.path, .int .i64 e.kind, .int .i64 e.mode, .string e.text] 27)
          have m2 : (Value.slice a1 k c1).ownBlock ≠ some W3.heap.size := fun eq => Nat.lt_irrefl _ (r1.lt _ eq).2
          have r1' := r1.alloc (.cells #[.string e.path, .int .i64 e.kind, .int .i64 e.mode, .string e.text] 27)
          clear r1
          have r1 := r1'
          clear r1'
          refine hK.out _ _ hS1 (fun _ => ?_)
          clear hK K hS
          generalize W3.alloc (.cells #[.string e.path, .int .i64 e.kind, .int .i64 e.mode, .string e.text] 27) = W4 at hS1 o2 r1 ⊢
          generalize W3.heap.size = g2 at o2 m2 ⊢
          have hS := hS1
          clear hS1
          refine wpAnyH_ready (rs := [10]) (by kernel_rfl) (by simp) ?_
          refine AllReadyH.cons rfl (fun K hK => ?_) AllReadyH.nil
          refine step_append_at (by rfl) _ _ 23 (by rfl) w3.heap.size 27 i0 _ 4 48 Try.underlying23 (unhid HI).1 (unhid HI).2.1 (unhid HI).2.2.1 (unhid HI).2.2.2 rfl (by decide) (Value.slice a1 k c1) (k) (valsOf (L.take k)) (by rfl) r1 ⟨g2, 0, none⟩ (1) (1) (valsOf [e]) (by rfl) (by rw [valsOf_len]; rfl) (o2.cells) (valsOf_one _) (by unfold maxLen; omega) (by omega) hS.size ?_
          intro v2 W5 r2 hg1 hat1
          obtain ⟨a2, c2, rfl⟩ := ownsRow_slice r2
          have hS1 := hS.grown hg1 hS.size (fun g eg => (r1.lt g eg).1)
          refine hK.out _ _ hS1 (fun _ => ?_)
          clear hK K hS r1 hg1 hat1 o2 m2
          have hS := hS1
          clear hS1
          refine wpAnyH_ready (rs := [14]) (by kernel_rfl) (by simp) ?_
          refine AllReadyH.cons rfl (fun K hK => ?_) AllReadyH.nil
          refine step_append_at (by rfl) _ _ 23 (by rfl) w3.heap.size 27 i0 _ 4 48 Try.underlying23 (unhid HI).1 (unhid HI).2.1 (unhid HI).2.2.1 (unhid HI).2.2.2 rfl (by decide) (Value.slice a2 (k + 1) c2) (k + 1) (valsOf (L.take k) ++ valsOf [e]) (by rfl) r2 ⟨g, offD c k, none⟩ ((n - k)) ((c - k)) (valsOf (L.drop k)) (by rfl) (by rw [valsOf_len, ht2]) (unhid HC2 _ hS) (valsOf_one _) (by unfold maxLen; omega) (by omega) hS.size ?_
          intro v3 W6 r3 hg1 hat1
          obtain ⟨a3, c3, rfl⟩ := ownsRow_slice r3
          have hS1 := hS.grown hg1 hS.size (fun g eg => (r2.lt g eg).1)
          refine hK.out _ _ hS1 (fun _ => ?_)
          clear hK K hS r2 hg1 hat1
          have hS := hS1
          clear hS1
          refine wpAnyH_take (i := 15) (v := .slice a3 (k + 1 + (n - k)) c3) rfl (by kernel_rfl) (by kernel_rfl) (by kernel_rfl) (fun _ _ _ h => h) (Or.inl ⟨by rfl, fun w' hw => by go_simp⟩) hS ?_
          refine wpAnyH_done (by kernel_rfl) ?_ _
          have HF := hid (show W6.ownsRow w.heap.size 27 4 (.slice a3 (k + 1 + (n - k)) c3) (sortL (xs.take (j + 1))).length (valsOf (sortL (xs.take (j + 1)))) ∧ Below w.heap.size w W6 from ⟨by rw [(unhid HSN).1, (unhid HSN).2]; exact ownsRow_base r3 (by omega), (unhid HB2).trans (hS.mono (by omega))⟩)
          obtain ⟨g3, cc3, hv3⟩ := ownsRow_some (unhid HF).1 (by rw [(unhid HSN).1]; omega)
          have HV3 := hid hv3
          clear r3 hS hv3
          go_wp2_with fail
          go_roundw
          case rel => exact ⟨j + 1, by omega, by go_num, ⟨g3, cc3, unhid HV3⟩, hid (unhid HF).1, hid (unhid HF).2⟩
          case measure => simp [intOf]; omega
        · go_simp
          have o2 : OneAt (W2.alloc (.cells #[.string e.path, .int .i64 e.kind, .int .i64 e.mode, .string e.text] 27)) W2.heap.size e := World.alloc_heap_new _ _
          have hS1 := hS.alloc hS.size (.cells #[.string e.path, .int .i64 e.kind, .int .i64 e.mode, .string e.text] 27)
          have m2 : (Value.slice (some ⟨g0, 0, none⟩) 0 0).ownBlock ≠ some W2.heap.size := fun eq => Nat.lt_irrefl _ (r0.lt _ eq).2
          have r0' := r0.alloc (.cells #[.string e.path, .int .i64 e.kind, .int .i64 e.mode, .string e.text] 27)
          clear r0
          have r0 := r0'
          clear r0'
          refine hK.out _ _ hS1 (fun _ => ?_)
          clear hK K hS
          generalize W2.alloc (.cells #[.string e.path, .int .i64 e.kind, .int .i64 e.mode, .string e.text] 27) = W3 at hS1 o2 r0 ⊢
          generalize W2.heap.size = g2 at o2 m2 ⊢
          have hS := hS1
          clear hS1
          refine wpAnyH_ready (rs := [4]) (by kernel_rfl) (by simp) ?_
          refine AllReadyH.cons rfl (fun K hK => ?_) AllReadyH.nil
          refine step_append_at (by rfl) _ _ 23 (by rfl) w3.heap.size 27 i0 _ 4 48 Try.underlying23 (unhid HI).1 (unhid HI).2.1 (unhid HI).2.2.1 (unhid HI).2.2.2 rfl (by decide) (Value.slice (some ⟨g0, 0, none⟩) 0 0) (0) ([]) (by rfl) r0 ⟨g, 0, none⟩ (k) (c) (valsOf (L.take k)) (by rfl) (by rw [valsOf_len, ht1]) (unhid HC1 _ hS) (valsOf_one _) (by unfold maxLen; omega) (by omega) hS.size ?_
          intro v1 W4 r1 hg1 hat1
          rw [Nat.zero_add, List.nil_append] at r1
          obtain ⟨a1, c1, rfl⟩ := ownsRow_slice r1
          have hS1 := hS.grown hg1 hS.size (fun g eg => (r0.lt g eg).1)
          have o2' := o2.grown hg1 (fun eq => m2 eq.symm)
          have m2' : (Value.slice a1 k c1).ownBlock ≠ some g2 := by
            rcases hat1 with h | h <;> rw [h]
            · exact m2
            · intro eq; injection eq with eq; have := o2.lt; omega
          clear o2 m2
          have o2 := o2'
          clear o2'
          have m2 := m2'
          clear m2'
          refine hK.out _ _ hS1 (fun _ => ?_)
          clear hK K hS r0 hg1 hat1
          have hS := hS1
          clear hS1
          refine wpAnyH_ready (rs := [10]) (by kernel_rfl) (by simp) ?_
          refine AllReadyH.cons rfl (fun K hK => ?_) AllReadyH.nil
          refine step_append_at (by rfl) _ _ 23 (by rfl) w3.heap.size 27 i0 _ 4 48 Try.underlying23 (unhid HI).1 (unhid HI).2.1 (unhid HI).2.2.1 (unhid HI).2.2.2 rfl (by decide) (Value.slice a1 k c1) (k) (valsOf (L.take k)) (by rfl) r1 ⟨g2, 0, none⟩ (1) (1) (valsOf [e]) (by rfl) (by rw [valsOf_len]; rfl) (o2.cells) (valsOf_one _) (by unfold maxLen; omega) (by omega) hS.size ?_
          intro v2 W5 r2 hg1 hat1
          obtain ⟨a2, c2, rfl⟩ := ownsRow_slice r2
          have hS1 := hS.grown hg1 hS.size (fun g eg => (r1.lt g eg).1)
          refine hK.out _ _ hS1 (fun _ => ?_)
          clear hK K hS r1 hg1 hat1 o2 m2
          have hS := hS1
          clear hS1
          refine wpAnyH_ready (rs := [14]) (by kernel_rfl) (by simp) ?_
          refine AllReadyH.cons rfl (fun K hK => ?_) AllReadyH.nil
          refine step_append_at (by rfl) _ _ 23 (by rfl) w3.heap.size 27 i0 _ 4 48 Try.underlying23 (unhid HI).1 (unhid HI).2.1 (unhid HI).2.2.1 (unhid HI).2.2.2 rfl (by decide) (Value.slice a2 (k + 1) c2) (k + 1) (valsOf (L.take k) ++ valsOf [e]) (by rfl) r2 ⟨g, offD c k, none⟩ ((n - k)) ((c - k)) (valsOf (L.drop k)) (by rfl) (by rw [valsOf_len, ht2]) (unhid HC2 _ hS) (valsOf_one _) (by unfold maxLen; omega) (by omega) hS.size ?_
          intro v3 W6 r3 hg1 hat1
          obtain ⟨a3, c3, rfl⟩ := ownsRow_slice r3
          have hS1 := hS.grown hg1 hS.size (fun g eg => (r2.lt g eg).1)
          refine hK.out _ _ hS1 (fun _ => ?_)
          clear hK K hS r2 hg1 hat1
          have hS := hS1
          clear hS1
          refine wpAnyH_take (i := 15) (v := .slice a3 (k + 1 + (n - k)) c3) rfl (by kernel_rfl) (by kernel_rfl) (by kernel_rfl) (fun _ _ _ h => h) (Or.inl ⟨by rfl, fun w' hw => by go_simp⟩) hS ?_
          refine wpAnyH_done (by kernel_rfl) ?_ _
          have HF := hid (show W6.ownsRow w.heap.size 27 4 (.slice a3 (k + 1 + (n - k)) c3) (sortL (xs.take (j + 1))).length (valsOf (sortL (xs.take (j + 1)))) ∧ Below w.heap.size w W6 from ⟨by rw [(unhid HSN).1, (unhid HSN).2]; exact ownsRow_base r3 (by omega), (unhid HB2).trans (hS.mono (by omega))⟩)
          obtain ⟨g3, cc3, hv3⟩ := ownsRow_some (unhid HF).1 (by rw [(unhid HSN).1]; omega)
          have HV3 := hid hv3
          clear r3 hS hv3
          go_wp2_with fail
          go_roundw
          case rel => exact ⟨j + 1, by omega, by go_num, ⟨g3, cc3, unhid HV3⟩, hid (unhid HF).1, hid (unhid HF).2⟩
          case measure => simp [intOf]; omega
      · go_simp
        have o2 : OneAt (W.alloc (.cells #[.string e.path, .int .i64 e.kind, .int .i64 e.mode, .string e.text] 27)) W.heap.size e := World.alloc_heap_new _ _
        have hS1 := hS.alloc hS.size (.cells #[.string e.path, .int .i64 e.kind, .int .i64 e.mode, .string e.text] 27)
        refine hK.out _ _ hS1 (fun _ => ?_)
        clear hK K hS
        generalize W.alloc (.cells #[.string e.path, .int .i64 e.kind, .int .i64 e.mode, .string e.text] 27) = W2 at hS1 o2 ⊢
        generalize W.heap.size = g2 at o2 ⊢
        have hS := hS1
        clear hS1
        refine wpAnyH_ready (rs := [0]) (by kernel_rfl) (by simp) ?_
        refine AllReadyH.cons rfl (fun K hK => ?_) AllReadyH.nil
        go_simp
        have r0 := owns_empty W2 w3.heap.size hS.size 27
        have hS1 := hS.alloc hS.size (.cells #[] 27)
        have o2' := o2.alloc (.cells #[] 27)
        have m2 : (Value.slice (some ⟨W2.heap.size, 0, none⟩) 0 0).ownBlock ≠ some g2 := fun eq => by injection eq with eq; have eq2 : W2.heap.size = g2 := eq; have := o2.lt; omega
        clear o2
        have o2 := o2'
        clear o2'
        refine hK.out _ _ hS1 (fun _ => ?_)
        clear hK K hS
        generalize W2.alloc (.cells #[] 27) = W3 at hS1 r0 o2 ⊢
        generalize W2.heap.size = g0 at r0 m2 ⊢
        have hS := hS1
        clear hS1
        refine wpAnyH_ready (rs := [4]) (by kernel_rfl) (by simp) ?_
        refine AllReadyH.cons rfl (fun K hK => ?_) AllReadyH.nil
        refine step_append_at (by rfl) _ _ 23 (by rfl) w3.heap.size 27 i0 _ 4 48 Try.underlying23 (unhid HI).1 (unhid HI).2.1 (unhid HI).2.2.1 (unhid HI).2.2.2 rfl (by decide) (Value.slice (some ⟨g0, 0, none⟩) 0 0) (0) ([]) (by rfl) r0 ⟨g, 0, none⟩ (k) (c) (valsOf (L.take k)) (by rfl) (by rw [valsOf_len, ht1]) (unhid HC1 _ hS) (valsOf_one _) (by unfold maxLen; omega) (by omega) hS.size ?_
        intro v1 W4 r1 hg1 hat1
        rw [Nat.zero_add, List.nil_append] at r1
        obtain ⟨a1, c1, rfl⟩ := ownsRow_slice r1
        have hS1 := hS.grown hg1 hS.size (fun g eg => (r0.lt g eg).1)
        have o2' := o2.grown hg1 (fun eq => m2 eq.symm)
        have m2' : (Value.slice a1 k c1).ownBlock ≠ some g2 := by
          rcases hat1 with h | h <;> rw [h]
          · exact m2
          · intro eq; injection eq with eq; have := o2.lt; omega
        clear o2 m2
        have o2 := o2'
        clear o2'
        have m2 := m2'
        clear m2'
        refine hK.out _ _ hS1 (fun _ => ?_)
        clear hK K hS r0 hg1 hat1
        have hS := hS1
        clear hS1
        refine wpAnyH_ready (rs := [10]) (by kernel_rfl) (by simp) ?_
        refine AllReadyH.cons rfl (fun K hK => ?_) AllReadyH.nil
        refine step_append_at (by rfl) _ _ 23 (by rfl) w3.heap.size 27 i0 _ 4 48 Try.underlying23 (unhid HI).1 (unhid HI).2.1 (unhid HI).2.2.1 (unhid HI).2.2.2 rfl (by decide) (Value.slice a1 k c1) (k) (valsOf (L.take k)) (by rfl) r1 ⟨g2, 0, none⟩ (1) (1) (valsOf [e]) (by rfl) (by rw [valsOf_len]; rfl) (o2.cells) (valsOf_one _) (by unfold maxLen; omega) (by omega) hS.size ?_
        intro v2 W5 r2 hg1 hat1
        obtain ⟨a2, c2, rfl⟩ := ownsRow_slice r2
        have hS1 := hS.grown hg1 hS.size (fun g eg => (r1.lt g eg).1)
        refine hK.out _ _ hS1 (fun _ => ?_)
        clear hK K hS r1 hg1 hat1 o2 m2
        have hS := hS1
        clear hS1
        refine wpAnyH_ready (rs := [14]) (by kernel_rfl) (by simp) ?_
        refine AllReadyH.cons rfl (fun K hK => ?_) AllReadyH.nil
        refine step_append_at (by rfl) _ _ 23 (by rfl) w3.heap.size 27 i0 _ 4 48 Try.underlying23 (unhid HI).1 (unhid HI).2.1 (unhid HI).2.2.1 (unhid HI).2.2.2 rfl (by decide) (Value.slice a2 (k + 1) c2) (k + 1) (valsOf (L.take k) ++ valsOf [e]) (by rfl) r2 ⟨g, offD c k, none⟩ ((n - k)) ((c - k)) (valsOf (L.drop k)) (by rfl) (by rw [valsOf_len, ht2]) (unhid HC2 _ hS) (valsOf_one _) (by unfold maxLen; omega) (by omega) hS.size ?_
        intro v3 W6 r3 hg1 hat1
        obtain ⟨a3, c3, rfl⟩ := ownsRow_slice r3
        have hS1 := hS.grown hg1 hS.size (fun g eg => (r2.lt g eg).1)
        refine hK.out _ _ hS1 (fun _ => ?_)
        clear hK K hS r2 hg1 hat1
        have hS := hS1
        clear hS1
        refine wpAnyH_take (i := 15) (v := .slice a3 (k + 1 + (n - k)) c3) rfl (by kernel_rfl) (by kernel_rfl) (by kernel_rfl) (fun _ _ _ h => h) (Or.inl ⟨by rfl, fun w' hw => by go_simp⟩) hS ?_
        refine wpAnyH_done (by kernel_rfl) ?_ _
        have HF := hid (show W6.ownsRow w.heap.size 27 4 (.slice a3 (k + 1 + (n - k)) c3) (sortL (xs.take (j + 1))).length (valsOf (sortL (xs.take (j + 1)))) ∧ Below w.heap.size w W6 from ⟨by rw [(unhid HSN).1, (unhid HSN).2]; exact ownsRow_base r3 (by omega), (unhid HB2).trans (hS.mono (by omega))⟩)
        obtain ⟨g3, cc3, hv3⟩ := ownsRow_some (unhid HF).1 (by rw [(unhid HSN).1]; omega)
        have HV3 := hid hv3
        clear r3 hS hv3
        go_wp2_with fail
        go_roundw
        case rel => exact ⟨j + 1, by omega, by go_num, ⟨g3, cc3, unhid HV3⟩, hid (unhid HF).1, hid (unhid HF).2⟩
        case measure => simp [intOf]; omega
    · have e : j = xs.length := by omega
      subst e
      rw [List.take_of_length_le (Nat.le_refl _)] at HO ⊢
      go_wp2_with fail
      go_ret
      exact ⟨_, rfl, unhid HO, unhid HB⟩
end Go.Proofs.Ytaefjibnnbdaaaa

/- Two trees in one, by the model. -/
namespace Go.Proofs.Ytaefjibnnbdaaaa
open Go.RowKit Go.Shelf

/-- Whether two entries are the same, as the language compares them. -/
def eqV (x y : Ent) : Bool := x.path == y.path && (x.kind == y.kind && (x.mode == y.mode && x.text == y.text))
theorem beqS_iff (a b : ByteArray) : (a == b) = true ↔ a = b := by
  rw [beq_toListBytes]
  exact eqS_iff a b
theorem in_str (d : Nat) (a b : ByteArray) (w : World) : (Op.equalIn (d + 1) 9 (.string a) (.string b)).run Try.prog w = .ok (a == b) w := by
  simp [Op.equalIn, run_underlying Try.underlying9]
theorem in_ent (d : Nat) (x y : Ent) (w : World) : (Op.equalIn (d + 1 + 1) 27 (.agg x.vals) (.agg y.vals)).run Try.prog w = .ok (eqV x y) w := by
  obtain ⟨p, k, m, t⟩ := x
  obtain ⟨p2, k2, m2, t2⟩ := y
  have h0 : (program).run Try.prog w = .ok Try.prog w := by kernel_rfl
  have h1 : Try.prog.stoodInHeld 27 = false := by kernel_rfl
  have e0 : ∀ (p : ByteArray) (k m : Int) (t : ByteArray), (part 9 #[.string p, .int .i64 k, .int .i64 m, .string t] 0).run Try.prog w = .ok (.string p) w := fun p k m t => by kernel_rfl
  have e1 : ∀ (p : ByteArray) (k m : Int) (t : ByteArray), (part 3 #[.string p, .int .i64 k, .int .i64 m, .string t] 1).run Try.prog w = .ok (.int .i64 k) w := fun p k m t => by kernel_rfl
  have e2 : ∀ (p : ByteArray) (k m : Int) (t : ByteArray), (part 3 #[.string p, .int .i64 k, .int .i64 m, .string t] 2).run Try.prog w = .ok (.int .i64 m) w := fun p k m t => by kernel_rfl
  have e3 : ∀ (p : ByteArray) (k m : Int) (t : ByteArray), (part 9 #[.string p, .int .i64 k, .int .i64 m, .string t] 3).run Try.prog w = .ok (.string t) w := fun p k m t => by kernel_rfl
  unfold Ent.vals eqV
  unfold Op.equalIn
  simp only [Sem.run_bind, run_underlying Try.underlying27, Result.andThen_ok, h0, h1, Bool.false_eq_true, if_false, List.forIn_toArray, List.forIn_cons, List.forIn_nil]
  rw [if_pos (by decide)]
  simp only [Sem.run_bind, e0, in_str, Result.andThen_ok]
  cases (p == p2)
  · simp [Sem.run_pure]
  · simp only [Bool.not_true, Bool.false_eq_true, if_false, Sem.run_pure, Result.andThen_ok]
    rw [if_pos (by decide)]
    simp only [Sem.run_bind, e1, in_int, Result.andThen_ok]
    cases (k == k2)
    · simp [Sem.run_pure]
    · simp only [Bool.not_true, Bool.false_eq_true, if_false, Sem.run_pure, Result.andThen_ok]
      rw [if_pos (by decide)]
      simp only [Sem.run_bind, e2, in_int, Result.andThen_ok]
      cases (m == m2)
      · simp [Sem.run_pure]
      · simp only [Bool.not_true, Bool.false_eq_true, if_false, Sem.run_pure, Result.andThen_ok]
        rw [if_pos (by decide)]
        simp only [Sem.run_bind, e3, in_str, Result.andThen_ok]
        cases (t == t2) <;> simp [Sem.run_pure]
theorem ne_ents (x y : Ent) (w : World) : (binOp .neq 27 (.agg x.vals) (.agg y.vals)).run Try.prog w = .ok (.bool (!eqV x y)) w := by
  simp only [binOp]
  simp [Op.equal, Op.maxDepth, in_ent 9998]
theorem same_eq {x old : Ent} (hx : entB x = true) (ho : entB old = true) (hp : old.path = x.path) : sameB old x = (old.kind == 1 && eqV x old) := by
  unfold sameB eqV
  cases hk : (old.kind == 1)
  · rfl
  · have hk1 : old.kind = 1 := by simpa using hk
    have hto : old.text.data.toList = [] := by unfold entB at ho; rw [if_pos hk1] at ho; simp only [Bool.and_eq_true] at ho; have := ho.2.2; simpa using this
    rw [hp, hk1]
    cases hkx : (x.kind == 1)
    · simp
    · have hx1 : x.kind = 1 := by simpa using hkx
      have htx : x.text.data.toList = [] := by unfold entB at hx; rw [if_pos hx1] at hx; simp only [Bool.and_eq_true] at hx; have := hx.2.2; simpa using this
      have htt : x.text = old.text := ByteArray.ext (Array.ext' (by rw [htx, hto]))
      have hm : (old.mode == x.mode) = (x.mode == old.mode) := by rw [Bool.eq_iff_iff, beq_iff_eq, beq_iff_eq]; exact ⟨fun h => h.symm, fun h => h.symm⟩
      rw [htt, hm, (beqS_iff _ _).2 rfl, (beqS_iff _ _).2 rfl]
      simp
theorem eqV_eq {x y : Ent} (h : eqV x y = true) : x = y := by
  unfold eqV at h
  simp only [Bool.and_eq_true] at h
  obtain ⟨h1, h2, h3, h4⟩ := h
  have e1 := (beqS_iff _ _).1 h1
  have e4 := (beqS_iff _ _).1 h4
  have e2 := eq_of_beq h2
  have e3 := eq_of_beq h3
  cases x; cases y; dsimp only at e1 e2 e3 e4; subst e1 e2 e3 e4; rfl
theorem put_same {L : List Ent} {x : Ent} (hth : thereE L x.path = true) (he : entFn L (placeE L x.path) = x) : putT L x = L := by
  obtain ⟨old, hold, _⟩ := there_get hth
  rw [entFn_get hold] at he
  subst he
  unfold putT
  rw [hth, if_pos rfl]
  apply List.ext_getElem?
  intro i
  rw [List.getElem?_set]
  split
  · rename_i hi
    subst hi
    rw [if_pos (List.getElem?_eq_some_iff.1 hold).1, hold]
  · rfl
theorem put_new {L : List Ent} {x : Ent} (hth : thereE L x.path = false) : putT L x = insAt L x := by unfold putT; rw [hth]; rfl
def joinL (es fs : List Ent) : List Ent := if okJ es fs then joinTo es fs else []

set_option maxRecDepth 100000 in
set_option maxHeartbeats 8000000 in
theorem l2Join_any (es fs : List Ent) (b o cap b2 o2 cap2 : Nat) (w : World) (hte : treeB es = true) (htf : treeB fs = true) (h : ∀ (i : Nat) e, es[i]? = some e → EntAt w b (o + i * 4) e) (hb : b < w.heap.size) (hf : ∀ (i : Nat) e, fs[i]? = some e → EntAt w b2 (o2 + i * 4) e) (hb2 : b2 < w.heap.size) :
    Calls Try.prog 73 #[.slice (some ⟨b, o, none⟩) es.length cap, .slice (some ⟨b2, o2, none⟩) fs.length cap2] w fun x w' => ∃ v, x = .returned (.tuple #[v, .bool (okJ es fs && treeB (joinTo es fs))]) ∧ w'.ownsRow w.heap.size 27 4 v (joinL es fs).length (valsOf (joinL es fs)) ∧ Below w.heap.size w w' := by
  obtain ⟨i0, hi0, hz0, hzs, hzb⟩ := info_parts infoEntry
  have HI := hid (And.intro hi0 (And.intro hz0 (And.intro hzs hzb)))
  have hle := tree_16 hte
  have hlf := tree_16 htf
  have hae := tree_all hte
  have haf := tree_all htf
  have HH := hid hf
  have HC := hid (l2Copy_some es b o cap w (by omega) h (.inr hb))
  clear hi0 hz0 hzs hzb h hf hb
  go_enter Try.func73, Try.ntmps73
  go_wp2_with fail
  refine (unhid HC).mono ?_
  rintro x w1 ⟨g1, c1, rfl, hown, hB1⟩
  have HF0 := hid (And.intro hown hB1)
  clear hown hB1 HC
  go_wp2_with fail
  go_loopw [6, 7] (fun v i wr => ∃ j : Nat, j ≤ fs.length ∧ i = .int .i64 (j : Int) ∧ (∃ g c, v = .slice (some ⟨g, 0, none⟩) (joinTo es (fs.take j)).length c) ∧ Hid (wr.ownsRow w.heap.size 27 4 v (joinTo es (fs.take j)).length (valsOf (joinTo es (fs.take j)))) ∧ Hid (okJ es (fs.take j) = true) ∧ Hid (Below w.heap.size w wr)) (fun _ i _ => fs.length - (intOf i).toNat)
  case atStart => exact ⟨0, Nat.zero_le _, rfl, ⟨g1, c1, rfl⟩, hid (unhid HF0).1, hid rfl, hid (unhid HF0).2⟩
  case round =>
    obtain ⟨j, hj, rfl, ⟨g, c, rfl⟩, HO, HA, HB⟩ := hrel
    by_cases hlt : j < fs.length
    · obtain ⟨e, he⟩ : ∃ e, fs[j]? = some e := ⟨fs[j], List.getElem?_eq_getElem hlt⟩
      have hsn : joinTo es (fs.take (j + 1)) = putT (joinTo es (fs.take j)) e := by rw [List.take_add_one, he]; exact joinTo_snoc _ _ _
      have hon : okJ es (fs.take (j + 1)) = (okJ es (fs.take j) && stepJ (joinTo es (fs.take j)) e) := by rw [List.take_add_one, he]; exact okJ_snoc _ _ _
      have hl9 : (joinTo es (fs.take j)).length ≤ 900 := by have := joinTo_len es (fs.take j); rw [List.length_take] at this; omega
      have hall : ∀ x ∈ joinTo es (fs.take j), entB x = true := fun x hx => by
        rcases joinTo_mem es _ x hx with h | h
        · exact hae x h
        · exact haf x (List.mem_of_mem_take h)
      have hxe := haf e (List.mem_of_getElem? he)
      have hpr : okJ es (fs.take (j + 1)) = false → okJ es fs = false := okJ_prefix (List.take_prefix _ _)
      obtain ⟨c0, c1', c2, c3⟩ := ((unhid HH) j e he).below (unhid HB) hb2
      have HE := hid ((unhid HH) j e he)
      obtain ⟨a1, cap1, ev, hRI⟩ := rowIn_of_owns (unhid HO)
      injection ev with ev1 ev2 ev3
      subst ev1
      have HAT := hid hRI.at
      have hcl : (joinTo es (fs.take j)).length ≤ c := by
        rcases (unhid HO).2 with ⟨hv, h0⟩ | ⟨g', cap', cur', hv, _, _, hcc, _⟩
        · cases hv
        · cases hv; exact hcc
      have hgl : g < wr.heap.size := by
        rcases (unhid HO).2 with ⟨hv, h0⟩ | ⟨g', cap', cur', hv, _, hh, _⟩
        · cases hv
        · cases hv; exact (Array.getElem?_eq_some_iff.1 hh).1
      have HGE := hid (show ∀ (i : Nat) x, (joinTo es (fs.take j))[i]? = some x → EntAt wr g (0 + i * 4) x by
        rcases unhid HAT with h0 | ⟨b', o', eb, _, hcc⟩
        · intro i x hi; rw [h0] at hi; simp at hi
        · cases eb; exact hcc)
      have AT := hid (l2At_any (joinTo es (fs.take j)) (some ⟨g, 0, none⟩) c e.path wr (by omega) (unhid HAT))
      have HSN0 := hid (And.intro hsn (And.intro hon hpr))
      have HXE := hid (And.intro hxe hall)
      clear hRI he hsn hon hpr hall hxe ev2 ev3
      generalize joinTo es (fs.take j) = L at *
      go_wp2_with fail
      refine (unhid AT).mono ?_
      rintro x w3 ⟨rfl, n3, e3⟩
      have hB3 : Below wr.heap.size wr w3 := by rw [e3]; exact drewN_below _ _
      have hkn : placeE L e.path ≤ L.length := placeE_le _ _
      have HB2 := hid ((unhid HB).trans (hB3.mono (unhid HB).size))
      have HG3 := hid (entAt_below (unhid HGE) (.inr hgl) hB3)
      have HE3 := hid ((unhid HE).below (unhid HB2) hb2)
      have HO3 := hid (ownsRow_kept (unhid HO) (fun g eg => hB3.block g ((unhid HO).lt g eg).2))
      have hwl : w.heap.size ≤ w3.heap.size := (unhid HB2).size
      have hgl3 : g < w3.heap.size := Nat.lt_of_lt_of_le hgl hB3.size
      have hbl3 : b2 < w3.heap.size := Nat.lt_of_lt_of_le hb2 hwl
      clear hB3 e3 AT HGE HE c0 c1' c2 c3 HAT HB HO n3 hgl
      cases hth : thereE L e.path
      · have HSN := hid (show (joinTo es (fs.take (j + 1))).length = placeE L e.path + 1 + (L.length - placeE L e.path) ∧ valsOf (joinTo es (fs.take (j + 1))) = valsOf (L.take (placeE L e.path)) ++ valsOf [e] ++ valsOf (L.drop (placeE L e.path)) by
          rw [(unhid HSN0).1, put_new hth]; refine ⟨by rw [insAt_len]; omega, ?_⟩; unfold insAt; rw [valsOf_app, valsOf_app])
        have HOK := hid (show okJ es (fs.take (j + 1)) = true by rw [(unhid HSN0).2.1, unhid HA]; unfold stepJ; rw [hth]; rfl)
        clear hth HSN0 HXE HO3
        generalize placeE L e.path = k at hkn HSN ⊢
        generalize hnl : L.length = n at *
        have HNL := hid hnl
        clear hnl
        go_wp2_with fail
        go_quiet (fail)
        have hBq : Below w3.heap.size w3 (w3.drewN nq) := drewN_below _ _
        have HB2' := hid ((unhid HB2).trans (hBq.mono hwl))
        have HG3' := hid (entAt_below (unhid HG3) (.inr hgl3) hBq)
        have HE3' := hid ((unhid HE3).below hBq hbl3)
        have hwl' : w.heap.size ≤ (w3.drewN nq).heap.size := hwl
        have hgl3' : g < (w3.drewN nq).heap.size := hgl3
        have hbl3' : b2 < (w3.drewN nq).heap.size := hbl3
        clear hBq HB2 HG3 HE3 hwl hgl3 hbl3
        have HB2 := HB2'; have HG3 := HG3'; have HE3 := HE3'; have hwl := hwl'; have hgl3 := hgl3'; have hbl3 := hbl3'
        clear HB2' HG3' HE3' hwl' hgl3' hbl3'
        generalize w3.drewN nq = w3 at *
        go_wp2_with fail
        have hi1 : (0 : Int) ≤ (k : Int) := by omega
        have hi2 : (k : Int) ≤ (n : Int) := by omega
        have hi3 : (k : Int) ≤ (c : Int) := by omega
        have hi4 : (n : Int) ≤ (c : Int) := by omega
        have hi5 : (0 : Int) ≤ (j : Int) := by omega
        have hi6 : (j : Int) < (fs.length : Int) := by omega
        have HC1 := hid (show ∀ W, Below w3.heap.size w3 W → ∀ j u, (valsOf (L.take k))[j]? = some u → W.cell? ((⟨g, 0, none⟩ : Addr).add j) = some u from fun W hW => ents_cells (ents_take (entAt_below (unhid HG3) (.inr hgl3) hW)))
        have HC2 := hid (show ∀ W, Below w3.heap.size w3 W → ∀ j u, (valsOf (L.drop k))[j]? = some u → W.cell? ((⟨g, offD c k, none⟩ : Addr).add j) = some u from fun W hW => ents_cells (fun i x hi => by have := ents_dropD (entAt_below (unhid HG3) (.inr hgl3) hW) (show L.length ≤ c by rw [unhid HNL]; omega) i x hi; rwa [Nat.zero_add] at this))
        have ht1 : (L.take k).length = k := by rw [List.length_take, unhid HNL]; omega
        have ht2 : (L.drop k).length = n - k := by rw [List.length_drop, unhid HNL]
        refine wp_region_held_drew (S := fun w' => Below w3.heap.size w3 w') (by kernel_rfl) (drew_below _) (fun hS => ?_)
        refine wpAnyH_take (i := 1) (v := .slice (some ⟨g, 0, none⟩) n c) rfl (by kernel_rfl) (by kernel_rfl) (by kernel_rfl) (fun _ _ _ h => h) (Or.inl ⟨by rfl, fun w' hw => by go_simp⟩) hS ?_
        refine wpAnyH_take (i := 2) (v := .int .i64 (k : Int)) rfl (by kernel_rfl) (by kernel_rfl) (by kernel_rfl) (fun _ _ _ h => h) (Or.inl ⟨by rfl, fun w' hw => by go_simp⟩) hS ?_
        refine wpAnyH_take (i := 3) (v := .slice (some ⟨g, 0, none⟩) k c) rfl (by kernel_rfl) (by kernel_rfl) (by kernel_rfl) (fun _ _ _ h => h) (Or.inl ⟨by rfl, fun w' hw => by go_simp⟩) hS ?_
        refine wpAnyH_take (i := 5) (v := .slice (some ⟨b2, o2, none⟩) fs.length cap2) rfl (by kernel_rfl) (by kernel_rfl) (by kernel_rfl) (fun _ _ _ h => h) (Or.inl ⟨by rfl, fun w' hw => by go_simp⟩) hS ?_
        refine wpAnyH_take (i := 6) (v := .int .i64 (j : Int)) rfl (by kernel_rfl) (by kernel_rfl) (by kernel_rfl) (fun _ _ _ h => h) (Or.inl ⟨by rfl, fun w' hw => by go_simp⟩) hS ?_
        refine wpAnyH_take (i := 7) (v := .pointer (some ⟨b2, o2 + j * 4, none⟩)) rfl (by kernel_rfl) (by kernel_rfl) (by kernel_rfl) (fun _ _ _ h => h) (Or.inl ⟨by rfl, fun w' hw => by go_simp⟩) hS ?_
        refine wpAnyH_take (i := 8) (v := .agg #[.string e.path, .int .i64 e.kind, .int .i64 e.mode, .string e.text]) rfl (by kernel_rfl) (by kernel_rfl) (by kernel_rfl) (fun _ _ _ h => h) (Or.inl ⟨by rfl, fun w' hw => by obtain ⟨k0, k1, k2, k3⟩ := (unhid HE3).below hw hbl3; go_simp⟩) hS ?_
        refine wpAnyH_take (i := 11) (v := .slice (some ⟨g, 0, none⟩) n c) rfl (by kernel_rfl) (by kernel_rfl) (by kernel_rfl) (fun _ _ _ h => h) (Or.inl ⟨by rfl, fun w' hw => by go_simp⟩) hS ?_
        refine wpAnyH_take (i := 12) (v := .int .i64 (k : Int)) rfl (by kernel_rfl) (by kernel_rfl) (by kernel_rfl) (fun _ _ _ h => h) (Or.inl ⟨by rfl, fun w' hw => by go_simp⟩) hS ?_
        refine wpAnyH_take (i := 13) (v := .slice (some ⟨g, offD c k, none⟩) (n - k) (c - k)) rfl (by kernel_rfl) (by kernel_rfl) (by kernel_rfl) (fun _ _ _ h => h) (Or.inl ⟨by rfl, fun w' hw => by 
          unfold offD
          by_cases hck : c = k
          · rw [if_pos hck]; go_simp
          · rw [if_neg hck]; go_simp⟩) hS ?_
        generalize w3.drew = W at hS ⊢
        refine wpAnyH_ready (rs := [0, 9]) (by kernel_rfl) (by simp) ?_
        refine AllReadyH.cons rfl (fun K hK => ?_) (AllReadyH.cons rfl (fun K hK => ?_) AllReadyH.nil)
        · go_simp
          have r0 := owns_empty W w3.heap.size hS.size 27
          have hS1 := hS.alloc hS.size (.cells #[] 27)
          refine hK.out _ _ hS1 (fun _ => ?_)
          clear hK K hS
          generalize W.alloc (.cells #[] 27) = W2 at hS1 r0 ⊢
          generalize W.heap.size = g0 at r0 ⊢
          have hS := hS1
          clear hS1
          refine wpAnyH_ready (rs := [4, 9]) (by kernel_rfl) (by simp) ?_
          refine AllReadyH.cons rfl (fun K hK => ?_) (AllReadyH.cons rfl (fun K hK => ?_) AllReadyH.nil)
          · refine step_append_at (by rfl) _ _ 23 (by rfl) w3.heap.size 27 i0 _ 4 48 Try.underlying23 (unhid HI).1 (unhid HI).2.1 (unhid HI).2.2.1 (unhid HI).2.2.2 rfl (by decide) (Value.slice (some ⟨g0, 0, none⟩) 0 0) (0) ([]) (by rfl) r0 ⟨g, 0, none⟩ (k) (c) (valsOf (L.take k)) (by rfl) (by rw [valsOf_len, ht1]) (unhid HC1 _ hS) (valsOf_one _) (by unfold maxLen; omega) (by omega) hS.size ?_
            intro v1 W3 r1 hg1 hat1
            rw [Nat.zero_add, List.nil_append] at r1
            obtain ⟨a1, c1, rfl⟩ := ownsRow_slice r1
            have hS1 := hS.grown hg1 hS.size (fun g eg => (r0.lt g eg).1)
            refine hK.out _ _ hS1 (fun _ => ?_)
            clear hK K hS r0 hg1 hat1
            have hS := hS1
            clear hS1
            refine wpAnyH_ready (rs := [9]) (by kernel_rfl) (by simp) ?_
            refine AllReadyH.cons rfl (fun K hK => ?_) AllReadyH.nil
            go_simp
            have o2 : OneAt (W3.alloc (.cells #[.string e.path, .int .i64 e.kind, .int .i64 e.mode, .string e.text] 27)) W3.heap.size e := World.alloc_heap_new _ _
            have hS1 := hS.alloc hS.size (.cells #[.string e.path, .int .i64 e.kind, .int .i64 e.mode, .string e.text] 27)
            have m2 : (Value.slice a1 k c1).ownBlock ≠ some W3.heap.size := fun eq => Nat.lt_irrefl _ (r1.lt _ eq).2
            have r1' := r1.alloc (.cells #[.string e.path, .int .i64 e.kind, .int .i64 e.mode, .string e.text] 27)
            clear r1
            have r1 := r1'
            clear r1'
            refine hK.out _ _ hS1 (fun _ => ?_)
            clear hK K hS
            generalize W3.alloc (.cells #[.string e.path, .int .i64 e.kind, .int .i64 e.mode, .string e.text] 27) = W4 at hS1 o2 r1 ⊢
            generalize W3.heap.size = g2 at o2 m2 ⊢
            have hS := hS1
            clear hS1
            refine wpAnyH_ready (rs := [10]) (by kernel_rfl) (by simp) ?_
            refine AllReadyH.cons rfl (fun K hK => ?_) AllReadyH.nil
            refine step_append_at (by rfl) _ _ 23 (by rfl) w3.heap.size 27 i0 _ 4 48 Try.underlying23 (unhid HI).1 (unhid HI).2.1 (unhid HI).2.2.1 (unhid HI).2.2.2 rfl (by decide) (Value.slice a1 k c1) (k) (valsOf (L.take k)) (by rfl) r1 ⟨g2, 0, none⟩ (1) (1) (valsOf [e]) (by rfl) (by rw [valsOf_len]; rfl) (o2.cells) (valsOf_one _) (by unfold maxLen; omega) (by omega) hS.size ?_
            intro v2 W5 r2 hg1 hat1
            obtain ⟨a2, c2, rfl⟩ := ownsRow_slice r2
            have hS1 := hS.grown hg1 hS.size (fun g eg => (r1.lt g eg).1)
            refine hK.out _ _ hS1 (fun _ => ?_)
            clear hK K hS r1 hg1 hat1 o2 m2
            have hS := hS1
            clear hS1
            refine wpAnyH_ready (rs := [14]) (by kernel_rfl) (by simp) ?_
            refine AllReadyH.cons rfl (fun K hK => ?_) AllReadyH.nil
            refine step_append_at (by rfl) _ _ 23 (by rfl) w3.heap.size 27 i0 _ 4 48 Try.underlying23 (unhid HI).1 (unhid HI).2.1 (unhid HI).2.2.1 (unhid HI).2.2.2 rfl (by decide) (Value.slice a2 (k + 1) c2) (k + 1) (valsOf (L.take k) ++ valsOf [e]) (by rfl) r2 ⟨g, offD c k, none⟩ ((n - k)) ((c - k)) (valsOf (L.drop k)) (by rfl) (by rw [valsOf_len, ht2]) (unhid HC2 _ hS) (valsOf_one _) (by unfold maxLen; omega) (by omega) hS.size ?_
            intro v3 W6 r3 hg1 hat1
            obtain ⟨a3, c3, rfl⟩ := ownsRow_slice r3
            have hS1 := hS.grown hg1 hS.size (fun g eg => (r2.lt g eg).1)
            refine hK.out _ _ hS1 (fun _ => ?_)
            clear hK K hS r2 hg1 hat1
            have hS := hS1
            clear hS1
            refine wpAnyH_take (i := 15) (v := .slice a3 (k + 1 + (n - k)) c3) rfl (by kernel_rfl) (by kernel_rfl) (by kernel_rfl) (fun _ _ _ h => h) (Or.inl ⟨by rfl, fun w' hw => by go_simp⟩) hS ?_
            refine wpAnyH_done (by kernel_rfl) ?_ _
            have HF := hid (show W6.ownsRow w.heap.size 27 4 (.slice a3 (k + 1 + (n - k)) c3) (joinTo es (fs.take (j + 1))).length (valsOf (joinTo es (fs.take (j + 1)))) ∧ Below w.heap.size w W6 from ⟨by rw [(unhid HSN).1, (unhid HSN).2]; exact ownsRow_base r3 (by omega), (unhid HB2).trans (hS.mono (by omega))⟩)
            obtain ⟨g3, cc3, hv3⟩ := ownsRow_some (unhid HF).1 (by rw [(unhid HSN).1]; omega)
            have HV3 := hid hv3
            clear r3 hS hv3
            go_wp2_with fail
            go_roundw
            case rel => exact ⟨j + 1, by omega, by go_num, ⟨g3, cc3, unhid HV3⟩, hid (unhid HF).1, HOK, hid (unhid HF).2⟩
            case measure => simp [intOf]; omega
          · go_simp
            have o2 : OneAt (W2.alloc (.cells #[.string e.path, .int .i64 e.kind, .int .i64 e.mode, .string e.text] 27)) W2.heap.size e := World.alloc_heap_new _ _
            have hS1 := hS.alloc hS.size (.cells #[.string e.path, .int .i64 e.kind, .int .i64 e.mode, .string e.text] 27)
            have m2 : (Value.slice (some ⟨g0, 0, none⟩) 0 0).ownBlock ≠ some W2.heap.size := fun eq => Nat.lt_irrefl _ (r0.lt _ eq).2
            have r0' := r0.alloc (.cells #[.string e.path, .int .i64 e.kind, .int .i64 e.mode, .string e.text] 27)
            clear r0
            have r0 := r0'
            clear r0'
            refine hK.out _ _ hS1 (fun _ => ?_)
            clear hK K hS
            generalize W2.alloc (.cells #[.string e.path, .int .i64 e.kind, .int .i64 e.mode, .string e.text] 27) = W3 at hS1 o2 r0 ⊢
            generalize W2.heap.size = g2 at o2 m2 ⊢
            have hS := hS1
            clear hS1
            refine wpAnyH_ready (rs := [4]) (by kernel_rfl) (by simp) ?_
            refine AllReadyH.cons rfl (fun K hK => ?_) AllReadyH.nil
            refine step_append_at (by rfl) _ _ 23 (by rfl) w3.heap.size 27 i0 _ 4 48 Try.underlying23 (unhid HI).1 (unhid HI).2.1 (unhid HI).2.2.1 (unhid HI).2.2.2 rfl (by decide) (Value.slice (some ⟨g0, 0, none⟩) 0 0) (0) ([]) (by rfl) r0 ⟨g, 0, none⟩ (k) (c) (valsOf (L.take k)) (by rfl) (by rw [valsOf_len, ht1]) (unhid HC1 _ hS) (valsOf_one _) (by unfold maxLen; omega) (by omega) hS.size ?_
            intro v1 W4 r1 hg1 hat1
            rw [Nat.zero_add, List.nil_append] at r1
            obtain ⟨a1, c1, rfl⟩ := ownsRow_slice r1
            have hS1 := hS.grown hg1 hS.size (fun g eg => (r0.lt g eg).1)
            have o2' := o2.grown hg1 (fun eq => m2 eq.symm)
            have m2' : (Value.slice a1 k c1).ownBlock ≠ some g2 := by
              rcases hat1 with h | h <;> rw [h]
              · exact m2
              · intro eq; injection eq with eq; have := o2.lt; omega
            clear o2 m2
            have o2 := o2'
            clear o2'
            have m2 := m2'
            clear m2'
            refine hK.out _ _ hS1 (fun _ => ?_)
            clear hK K hS r0 hg1 hat1
            have hS := hS1
            clear hS1
            refine wpAnyH_ready (rs := [10]) (by kernel_rfl) (by simp) ?_
            refine AllReadyH.cons rfl (fun K hK => ?_) AllReadyH.nil
            refine step_append_at (by rfl) _ _ 23 (by rfl) w3.heap.size 27 i0 _ 4 48 Try.underlying23 (unhid HI).1 (unhid HI).2.1 (unhid HI).2.2.1 (unhid HI).2.2.2 rfl (by decide) (Value.slice a1 k c1) (k) (valsOf (L.take k)) (by rfl) r1 ⟨g2, 0, none⟩ (1) (1) (valsOf [e]) (by rfl) (by rw [valsOf_len]; rfl) (o2.cells) (valsOf_one _) (by unfold maxLen; omega) (by omega) hS.size ?_
            intro v2 W5 r2 hg1 hat1
            obtain ⟨a2, c2, rfl⟩ := ownsRow_slice r2
            have hS1 := hS.grown hg1 hS.size (fun g eg => (r1.lt g eg).1)
            refine hK.out _ _ hS1 (fun _ => ?_)
            clear hK K hS r1 hg1 hat1 o2 m2
            have hS := hS1
            clear hS1
            refine wpAnyH_ready (rs := [14]) (by kernel_rfl) (by simp) ?_
            refine AllReadyH.cons rfl (fun K hK => ?_) AllReadyH.nil
            refine step_append_at (by rfl) _ _ 23 (by rfl) w3.heap.size 27 i0 _ 4 48 Try.underlying23 (unhid HI).1 (unhid HI).2.1 (unhid HI).2.2.1 (unhid HI).2.2.2 rfl (by decide) (Value.slice a2 (k + 1) c2) (k + 1) (valsOf (L.take k) ++ valsOf [e]) (by rfl) r2 ⟨g, offD c k, none⟩ ((n - k)) ((c - k)) (valsOf (L.drop k)) (by rfl) (by rw [valsOf_len, ht2]) (unhid HC2 _ hS) (valsOf_one _) (by unfold maxLen; omega) (by omega) hS.size ?_
            intro v3 W6 r3 hg1 hat1
            obtain ⟨a3, c3, rfl⟩ := ownsRow_slice r3
            have hS1 := hS.grown hg1 hS.size (fun g eg => (r2.lt g eg).1)
            refine hK.out _ _ hS1 (fun _ => ?_)
            clear hK K hS r2 hg1 hat1
            have hS := hS1
            clear hS1
            refine wpAnyH_take (i := 15) (v := .slice a3 (k + 1 + (n - k)) c3) rfl (by kernel_rfl) (by kernel_rfl) (by kernel_rfl) (fun _ _ _ h => h) (Or.inl ⟨by rfl, fun w' hw => by go_simp⟩) hS ?_
            refine wpAnyH_done (by kernel_rfl) ?_ _
            have HF := hid (show W6.ownsRow w.heap.size 27 4 (.slice a3 (k + 1 + (n - k)) c3) (joinTo es (fs.take (j + 1))).length (valsOf (joinTo es (fs.take (j + 1)))) ∧ Below w.heap.size w W6 from ⟨by rw [(unhid HSN).1, (unhid HSN).2]; exact ownsRow_base r3 (by omega), (unhid HB2).trans (hS.mono (by omega))⟩)
            obtain ⟨g3, cc3, hv3⟩ := ownsRow_some (unhid HF).1 (by rw [(unhid HSN).1]; omega)
            have HV3 := hid hv3
            clear r3 hS hv3
            go_wp2_with fail
            go_roundw
            case rel => exact ⟨j + 1, by omega, by go_num, ⟨g3, cc3, unhid HV3⟩, hid (unhid HF).1, HOK, hid (unhid HF).2⟩
            case measure => simp [intOf]; omega
        · go_simp
          have o2 : OneAt (W.alloc (.cells #[.string e.path, .int .i64 e.kind, .int .i64 e.mode, .string e.text] 27)) W.heap.size e := World.alloc_heap_new _ _
          have hS1 := hS.alloc hS.size (.cells #[.string e.path, .int .i64 e.kind, .int .i64 e.mode, .string e.text] 27)
          refine hK.out _ _ hS1 (fun _ => ?_)
          clear hK K hS
          generalize W.alloc (.cells #[.string e.path, .int .i64 e.kind, .int .i64 e.mode, .string e.text] 27) = W2 at hS1 o2 ⊢
          generalize W.heap.size = g2 at o2 ⊢
          have hS := hS1
          clear hS1
          refine wpAnyH_ready (rs := [0]) (by kernel_rfl) (by simp) ?_
          refine AllReadyH.cons rfl (fun K hK => ?_) AllReadyH.nil
          go_simp
          have r0 := owns_empty W2 w3.heap.size hS.size 27
          have hS1 := hS.alloc hS.size (.cells #[] 27)
          have o2' := o2.alloc (.cells #[] 27)
          have m2 : (Value.slice (some ⟨W2.heap.size, 0, none⟩) 0 0).ownBlock ≠ some g2 := fun eq => by injection eq with eq; have eq2 : W2.heap.size = g2 := eq; have := o2.lt; omega
          clear o2
          have o2 := o2'
          clear o2'
          refine hK.out _ _ hS1 (fun _ => ?_)
          clear hK K hS
          generalize W2.alloc (.cells #[] 27) = W3 at hS1 r0 o2 ⊢
          generalize W2.heap.size = g0 at r0 m2 ⊢
          have hS := hS1
          clear hS1
          refine wpAnyH_ready (rs := [4]) (by kernel_rfl) (by simp) ?_
          refine AllReadyH.cons rfl (fun K hK => ?_) AllReadyH.nil
          refine step_append_at (by rfl) _ _ 23 (by rfl) w3.heap.size 27 i0 _ 4 48 Try.underlying23 (unhid HI).1 (unhid HI).2.1 (unhid HI).2.2.1 (unhid HI).2.2.2 rfl (by decide) (Value.slice (some ⟨g0, 0, none⟩) 0 0) (0) ([]) (by rfl) r0 ⟨g, 0, none⟩ (k) (c) (valsOf (L.take k)) (by rfl) (by rw [valsOf_len, ht1]) (unhid HC1 _ hS) (valsOf_one _) (by unfold maxLen; omega) (by omega) hS.size ?_
          intro v1 W4 r1 hg1 hat1
          rw [Nat.zero_add, List.nil_append] at r1
          obtain ⟨a1, c1, rfl⟩ := ownsRow_slice r1
          have hS1 := hS.grown hg1 hS.size (fun g eg => (r0.lt g eg).1)
          have o2' := o2.grown hg1 (fun eq => m2 eq.symm)
          have m2' : (Value.slice a1 k c1).ownBlock ≠ some g2 := by
            rcases hat1 with h | h <;> rw [h]
            · exact m2
            · intro eq; injection eq with eq; have := o2.lt; omega
          clear o2 m2
          have o2 := o2'
          clear o2'
          have m2 := m2'
          clear m2'
          refine hK.out _ _ hS1 (fun _ => ?_)
          clear hK K hS r0 hg1 hat1
          have hS := hS1
          clear hS1
          refine wpAnyH_ready (rs := [10]) (by kernel_rfl) (by simp) ?_
          refine AllReadyH.cons rfl (fun K hK => ?_) AllReadyH.nil
          refine step_append_at (by rfl) _ _ 23 (by rfl) w3.heap.size 27 i0 _ 4 48 Try.underlying23 (unhid HI).1 (unhid HI).2.1 (unhid HI).2.2.1 (unhid HI).2.2.2 rfl (by decide) (Value.slice a1 k c1) (k) (valsOf (L.take k)) (by rfl) r1 ⟨g2, 0, none⟩ (1) (1) (valsOf [e]) (by rfl) (by rw [valsOf_len]; rfl) (o2.cells) (valsOf_one _) (by unfold maxLen; omega) (by omega) hS.size ?_
          intro v2 W5 r2 hg1 hat1
          obtain ⟨a2, c2, rfl⟩ := ownsRow_slice r2
          have hS1 := hS.grown hg1 hS.size (fun g eg => (r1.lt g eg).1)
          refine hK.out _ _ hS1 (fun _ => ?_)
          clear hK K hS r1 hg1 hat1 o2 m2
          have hS := hS1
          clear hS1
          refine wpAnyH_ready (rs := [14]) (by kernel_rfl) (by simp) ?_
          refine AllReadyH.cons rfl (fun K hK => ?_) AllReadyH.nil
          refine step_append_at (by rfl) _ _ 23 (by rfl) w3.heap.size 27 i0 _ 4 48 Try.underlying23 (unhid HI).1 (unhid HI).2.1 (unhid HI).2.2.1 (unhid HI).2.2.2 rfl (by decide) (Value.slice a2 (k + 1) c2) (k + 1) (valsOf (L.take k) ++ valsOf [e]) (by rfl) r2 ⟨g, offD c k, none⟩ ((n - k)) ((c - k)) (valsOf (L.drop k)) (by rfl) (by rw [valsOf_len, ht2]) (unhid HC2 _ hS) (valsOf_one _) (by unfold maxLen; omega) (by omega) hS.size ?_
          intro v3 W6 r3 hg1 hat1
          obtain ⟨a3, c3, rfl⟩ := ownsRow_slice r3
          have hS1 := hS.grown hg1 hS.size (fun g eg => (r2.lt g eg).1)
          refine hK.out _ _ hS1 (fun _ => ?_)
          clear hK K hS r2 hg1 hat1
          have hS := hS1
          clear hS1
          refine wpAnyH_take (i := 15) (v := .slice a3 (k + 1 + (n - k)) c3) rfl (by kernel_rfl) (by kernel_rfl) (by kernel_rfl) (fun _ _ _ h => h) (Or.inl ⟨by rfl, fun w' hw => by go_simp⟩) hS ?_
          refine wpAnyH_done (by kernel_rfl) ?_ _
          have HF := hid (show W6.ownsRow w.heap.size 27 4 (.slice a3 (k + 1 + (n - k)) c3) (joinTo es (fs.take (j + 1))).length (valsOf (joinTo es (fs.take (j + 1)))) ∧ Below w.heap.size w W6 from ⟨by rw [(unhid HSN).1, (unhid HSN).2]; exact ownsRow_base r3 (by omega), (unhid HB2).trans (hS.mono (by omega))⟩)
          obtain ⟨g3, cc3, hv3⟩ := ownsRow_some (unhid HF).1 (by rw [(unhid HSN).1]; omega)
          have HV3 := hid hv3
          clear r3 hS hv3
          go_wp2_with fail
          go_roundw
          case rel => exact ⟨j + 1, by omega, by go_num, ⟨g3, cc3, unhid HV3⟩, hid (unhid HF).1, HOK, hid (unhid HF).2⟩
          case measure => simp [intOf]; omega
      · obtain ⟨old, hold, hop⟩ := there_get hth
        have hfo := entFn_get hold
        have hkl : placeE L e.path < L.length := (List.getElem?_eq_some_iff.1 hold).1
        obtain ⟨k0, k1, k2, k3⟩ := (unhid HG3) _ old hold
        simp only [Nat.zero_add] at k0 k1 k2 k3
        obtain ⟨m0, m1, m2, m3⟩ := unhid HE3
        have hse := same_eq (unhid HXE).1 ((unhid HXE).2 old (List.mem_of_getElem? hold)) hop
        cases hk1 : (old.kind == 1)
        · have hno : okJ es fs = false := (unhid HSN0).2.2 (by rw [(unhid HSN0).2.1]; unfold stepJ; rw [hth, hfo, hse, hk1]; simp)
          have E := hid (show (okJ es fs && treeB (joinTo es fs)) = false ∧ joinL es fs = [] by unfold joinL; rw [hno]; exact ⟨rfl, rfl⟩)
          have hkb : (old.kind != 1) = true := by rw [bne, hk1]; rfl
          clear hold hfo hse hop hno hk1
          go_wp2_with fail
          go_quiet (fail)
          have HF := hid (And.intro (owns_empty (w3.drewN nq) w.heap.size hwl 27) (((unhid HB2).trans (drewN_below w3 nq)).alloc (w := w3.drewN nq) hwl (.cells #[] 27)))
          generalize w3.drewN nq = w4 at HF ⊢
          go_wp2_with fail
          go_ret2
          exact ⟨_, by rw [(unhid E).1]; rfl, by rw [(unhid E).2]; exact (unhid HF).1, (unhid HF).2⟩
        · have hne := fun w => ne_ents e old w
          unfold Ent.vals at hne
          have hkb : (old.kind != 1) = false := by rw [bne, hk1]; rfl
          cases hev : eqV e old
          · have hno : okJ es fs = false := (unhid HSN0).2.2 (by rw [(unhid HSN0).2.1]; unfold stepJ; rw [hth, hfo, hse, hev]; simp)
            have E := hid (show (okJ es fs && treeB (joinTo es fs)) = false ∧ joinL es fs = [] by unfold joinL; rw [hno]; exact ⟨rfl, rfl⟩)
            rw [hev] at hne
            clear hold hfo hse hop hno hk1
            go_wp2_with fail
            go_quiet (fail)
            have HF := hid (And.intro (owns_empty (w3.drewN nq) w.heap.size hwl 27) (((unhid HB2).trans (drewN_below w3 nq)).alloc (w := w3.drewN nq) hwl (.cells #[] 27)))
            generalize w3.drewN nq = w4 at HF ⊢
            go_wp2_with fail
            go_ret2
            exact ⟨_, by rw [(unhid E).1]; rfl, by rw [(unhid E).2]; exact (unhid HF).1, (unhid HF).2⟩
          · have heo := eqV_eq hev
            have HSN := hid (show joinTo es (fs.take (j + 1)) = L by rw [(unhid HSN0).1]; exact put_same hth (by rw [hfo, heo]))
            have HOK := hid (show okJ es (fs.take (j + 1)) = true by rw [(unhid HSN0).2.1, unhid HA]; unfold stepJ; rw [hfo, hse, hk1, hev]; simp)
            rw [hev] at hne
            clear hold hfo hse hop hk1 heo
            go_wp2_with fail
            go_quiet (fail)
            have hBq : Below w3.heap.size w3 (w3.drewN nq) := drewN_below _ _
            have HF := hid (And.intro (ownsRow_kept (unhid HO3) (fun g eg => hBq.block g ((unhid HO3).lt g eg).2)) ((unhid HB2).trans (drewN_below w3 nq)))
            generalize w3.drewN nq = w4 at HF ⊢
            go_wp2_with fail
            go_roundw
            case rel => exact ⟨j + 1, by omega, by go_num, ⟨g, c, by rw [unhid HSN]⟩, hid (by rw [unhid HSN]; exact (unhid HF).1), HOK, hid (unhid HF).2⟩
            case measure => simp [intOf]; omega
    · have e : j = fs.length := by omega
      subst e
      rw [List.take_of_length_le (Nat.le_refl _)] at HO HA ⊢
      obtain ⟨a1, cap1, ev, hRI⟩ := rowIn_of_owns (unhid HO)
      have hsm : smallE (joinTo es fs) := small_all (by have := joinTo_len es fs; omega) (fun x hx => by
        rcases joinTo_mem es _ x hx with h | h
        · exact hae x h
        · exact haf x h)
      injection ev with ev1 ev2 ev3
      subst ev1
      have TOK := hid (specTreeOk_any (joinTo es fs) (some ⟨g, 0, none⟩) c wr hsm hRI.at)
      have E := hid (show (okJ es fs && treeB (joinTo es fs)) = treeB (joinTo es fs) ∧ joinL es fs = joinTo es fs by unfold joinL; rw [unhid HA]; exact ⟨rfl, rfl⟩)
      clear hRI hsm ev2 ev3
      go_wp2_with fail
      refine (unhid TOK).mono ?_
      rintro x w9 ⟨rfl, hB9⟩
      have HF := hid (And.intro (ownsRow_kept (unhid HO) (fun g eg => hB9.block g ((unhid HO).lt g eg).2)) ((unhid HB).trans (hB9.mono (unhid HB).size)))
      clear hB9 TOK
      go_wp2_with fail
      go_ret2
      exact ⟨_, by rw [(unhid E).1]; rfl, by rw [(unhid E).2]; exact (unhid HF).1, (unhid HF).2⟩
end Go.Proofs.Ytaefjibnnbdaaaa

/- Whether two rows of entries are the same, as the laws ask it. -/
namespace Go.Proofs.Ytaefjibnnbdaaaa
open Go.RowKit

theorem eqV_self (x : Ent) : eqV x x = true := by unfold eqV; simp [(beqS_iff _ _).2]
theorem eqV_is (x y : Ent) : eqV x y = eqE x y := by
  rw [Bool.eq_iff_iff]
  constructor
  · intro h; rw [eqV_eq h]; exact eqE_self y
  · intro h; rw [(eqE_iff x y).1 h]; exact eqV_self y
theorem eqEs_iff (xs ys : List Ent) : eqEs xs ys = true ↔ xs = ys := by
  constructor
  · intro h
    unfold eqEs at h
    simp only [Bool.and_eq_true, decide_eq_true_eq, List.all_eq_true, List.mem_range] at h
    apply List.ext_getElem?
    intro i
    by_cases hi : i < xs.length
    · have h2 := (eqE_iff _ _).1 (h.2 i hi)
      have hi2 : i < ys.length := by omega
      rw [entFn_get (List.getElem?_eq_getElem hi), entFn_get (List.getElem?_eq_getElem hi2)] at h2
      rw [List.getElem?_eq_getElem hi, List.getElem?_eq_getElem hi2, h2]
    · rw [List.getElem?_eq_none (by omega), List.getElem?_eq_none (by omega)]
  · rintro rfl; exact eqEs_self xs

set_option maxRecDepth 100000 in
set_option maxHeartbeats 4000000 in
theorem jsTree_any (xs ys : List Ent) (a b : Option Addr) (cap cap2 : Nat) (w : World) (hx : xs.length ≤ maxLen) (hy : ys.length ≤ maxLen) (h : EntsAt w a xs) (h2 : EntsAt w b ys) :
    Calls Try.prog 21 #[.slice a xs.length cap, .slice b ys.length cap2] w fun r w' => r = .returned (.bool (eqEs xs ys)) ∧ Below w.heap.size w w' := by
  unfold maxLen at hx hy
  by_cases hl : xs.length = ys.length
  · have hl' : ((xs.length : Int) != (ys.length : Int)) = false := by rw [hl]; simp
    have hE : eqEs xs ys = (List.range xs.length).all fun i => eqE (entFn xs i) (entFn ys i) := by unfold eqEs; rw [decide_eq_true hl]; rfl
    have E := hid hE
    have HL := hid hl
    clear hE
    go_enter Try.func21, Try.ntmps21
    clear hl
    go_wp2_with fail
    go_loopw [5] (fun i wr => ∃ k : Nat, k ≤ xs.length ∧ i = .int .i64 k ∧ Hid ((List.range k).all (fun i => eqE (entFn xs i) (entFn ys i)) = true) ∧ Below w.heap.size w wr) (fun i _ => xs.length - (intOf i).toNat)
    case atStart => exact ⟨0, Nat.zero_le _, rfl, hid rfl, Below.refl _ _⟩
    case round =>
      obtain ⟨k, hk, rfl, hall, hB⟩ := hrel
      by_cases hlt : k < xs.length
      · have hlt2 : k < ys.length := by rw [← unhid HL]; exact hlt
        obtain ⟨e, he⟩ : ∃ e, xs[k]? = some e := ⟨xs[k], List.getElem?_eq_getElem hlt⟩
        obtain ⟨e2, he2⟩ : ∃ e, ys[k]? = some e := ⟨ys[k], List.getElem?_eq_getElem hlt2⟩
        obtain ⟨bb, o, rfl, hbl, hc⟩ := h.get (by intro e; subst e; simp at hlt)
        obtain ⟨bb2, o2, rfl, hbl2, hc2⟩ := h2.get (by intro e; subst e; simp at hlt2)
        obtain ⟨c0, c1, c2, c3⟩ := ((hc k e he).below hB hbl)
        obtain ⟨d0, d1, d2, d3⟩ := ((hc2 k e2 he2).below hB hbl2)
        have HS := hid (show entFn xs k = e from entFn_get he)
        have HS2 := hid (show entFn ys k = e2 from entFn_get he2)
        have HB := hid hB
        have HH := hid (And.intro h (And.intro h2 (And.intro hc hc2)))
        have hne := fun w => ne_ents e e2 w
        rw [eqV_is] at hne
        unfold Ent.vals at hne
        clear hc hc2 hB he he2 h h2
        cases hq : eqE e e2
        · rw [hq] at hne
          go_wp2_with fail
          go_quiet (fail)
          go_wp2_with fail
          go_ret
          refine ⟨?_, (unhid HB).trans (drewN_below _ _)⟩
          have : (List.range xs.length).all (fun i => eqE (entFn xs i) (entFn ys i)) = false := List.all_eq_false.2 ⟨k, List.mem_range.2 hlt, by rw [unhid HS, unhid HS2, hq]; simp⟩
          rw [unhid E, this]; rfl
        · rw [hq] at hne
          go_wp2_with fail
          go_quiet (fail)
          go_wp2_with fail
          go_roundw
          case rel => exact ⟨k + 1, by omega, by go_num, hid (by rw [List.range_succ, List.all_append, unhid hall]; simp [unhid HS, unhid HS2, hq]), (unhid HB).trans (drewN_below _ _)⟩
          case measure => simp [intOf]; omega
      · have e : k = xs.length := by omega
        subst e
        go_wp2_with fail
        go_ret
        exact ⟨by rw [unhid E, unhid hall]; rfl, hB⟩
  · have hl' : ((xs.length : Int) != (ys.length : Int)) = true := by rw [bne_iff_ne]; omega
    have E := hid (show eqEs xs ys = false by unfold eqEs; rw [decide_eq_false hl]; rfl)
    go_enter Try.func21, Try.ntmps21
    clear hl
    go_wp2_with fail
    go_ret
    exact ⟨by rw [unhid E]; rfl, Below.refl _ _⟩
end Go.Proofs.Ytaefjibnnbdaaaa

/- The bytes that a law is handed, read. -/
namespace Go.Proofs.Ytaefjibnnbdaaaa
open Go.ChangeShapes Go.WideShapes Go.ChangeAt Go.RowKit

theorem cells5 : Try.prog.cellsOf 5 = 1 := by kernel_rfl

theorem code_of {H : Type} {enc : TypeId × Value → H} {W : World} {a0 : Option Addr} {len cap : Nat} {d0 : DataW H} {p0 : List MemPlace}
    (h0 : DataW.Trod enc Try.prog W 0 (fun _ => true) true 22 (.slice a0 len cap) d0 p0) (hlt : ∀ x ∈ p0, x.block < W.heap.size) : Code W W.heap.size a0 len ∧ len ≤ cap := by
  obtain ⟨fuel, hf⟩ := h0
  rcases open_ints Try.underlying22 Try.underlying5 cells5 hf with ⟨hcs, hx⟩ | ⟨a, len', cap', zs, hcs, _, hl, hm, hz, hx, hcell, hwz⟩
  · simp [Value.cells] at hcs
    obtain ⟨rfl, rfl, rfl⟩ := hcs
    exact ⟨.inl rfl, Nat.le_refl _⟩
  · simp [Value.cells] at hcs
    obtain ⟨rfl, rfl, rfl⟩ := hcs
    simp only [Prod.mk.injEq] at hx
    obtain ⟨rfl, rfl⟩ := hx
    simp only [if_true] at hz
    refine ⟨?_, hl⟩
    by_cases hl0 : len = 0
    · exact .inl hl0
    · obtain ⟨b, off, spot⟩ := a
      have hspot : spot = none := by simpa [Addr.add] using World.cell?_spot (hcell 0 (by omega))
      subst hspot
      have hbW : b < W.heap.size := hlt (.cell b off) (MemPlace.mem_row.2 ⟨0, by omega, by simp⟩)
      refine .inr ⟨b, off, rfl, hbW, fun k hk => ?_⟩
      have hk' : k < zs.length := by omega
      have hw := hwz (zs.getD k 0) (by simp [List.getD, List.getElem?_eq_getElem hk'])
      have hc := hcell k hk'
      rw [add_plain] at hc
      generalize zs.getD k 0 = z at hw hc
      have hx : 0 ≤ z ∧ z ≤ 255 := by simpa [Lit.wf, IntKind.min, IntKind.max, IntKind.signed, IntKind.bits] using hw
      exact ⟨z.toNat, by omega, by rw [hc, Int.toNat_of_nonneg hx.1]⟩
end Go.Proofs.Ytaefjibnnbdaaaa
