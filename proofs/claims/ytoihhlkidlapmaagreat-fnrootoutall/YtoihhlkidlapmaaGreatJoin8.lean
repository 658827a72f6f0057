/- Texts of this proof, one behind the other; each says at its head what it shows. -/
import Derived.Test.YtoihhlkidlapmaaGreatJoin7
import Derived.Laws.StructEq
import Derived.Test.YtoihhlkidlapmaaGreatJoin1
import Derived.Maps.AppendAt
import Derived.Test.YtoihhlkidlapmaaGreatJoin3
import Derived.Laws.OwnMore
import Derived.Laws.Cover3
import Derived.Test.YtoihhlkidlapmaaGreatJoin5
namespace Go.Proofs.YtoihhlkidlapmaaGreat
open Go.RowKit Go.Shelf
attribute [local go_sem] Oper.semAt_some
def joinTo (L : List Ent) (xs : List Ent) : List Ent := xs.foldl putT L
def stepJ (L : List Ent) (x : Ent) : Bool := !(thereE L x.path) || sameB (entFn L (placeE L x.path)) x
def okJ : List Ent → List Ent → Bool
  | _, [] => true
  | L, x :: xs => stepJ L x && okJ (putT L x) xs
theorem joinTo_snoc (L xs : List Ent) (x : Ent) : joinTo L (xs ++ [x]) = putT (joinTo L xs) x := by unfold joinTo; rw [List.foldl_append]; rfl
theorem okJ_app : ∀ (L xs ys : List Ent), okJ L (xs ++ ys) = (okJ L xs && okJ (joinTo L xs) ys)
  | L, [], ys => by simp [okJ, joinTo]
  | L, x :: xs, ys => by rw [List.cons_append, okJ, okJ, okJ_app (putT L x) xs ys, Bool.and_assoc]; rfl
theorem okJ_snoc (L xs : List Ent) (x : Ent) : okJ L (xs ++ [x]) = (okJ L xs && stepJ (joinTo L xs) x) := by rw [okJ_app]; simp [okJ]
theorem okJ_prefix {L xs ys : List Ent} (h : xs <+: ys) (hno : okJ L xs = false) : okJ L ys = false := by
  obtain ⟨zs, rfl⟩ := h
  rw [okJ_app, hno]; rfl
theorem joinTo_up {L : List Ent} (h : Up L) : ∀ xs, Up (joinTo L xs) := snoc_ind h (fun xs x ih => by rw [joinTo_snoc]; exact putT_up ih)
theorem joinTo_len (L : List Ent) : ∀ xs, (joinTo L xs).length ≤ L.length + xs.length := snoc_ind (Nat.le_refl _) (fun xs x ih => by
  rw [joinTo_snoc]
  have := putT_len (joinTo L xs) x
  simp; omega)
theorem joinTo_mem (L : List Ent) : ∀ xs x, x ∈ joinTo L xs → x ∈ L ∨ x ∈ xs := snoc_ind (fun x h => .inl h) (fun xs x ih y hy => by
  rw [joinTo_snoc] at hy
  rcases putT_mem hy with h | h
  · rcases ih y h with h | h
    · exact .inl h
    · exact .inr (List.mem_append_left _ h)
  · subst h; exact .inr (by simp))
def joinOk (es fs : List Ent) : Bool := treeB es && (treeB fs && (okJ es fs && treeB (joinTo es fs)))
def joinR (es fs : List Ent) : List Ent := if joinOk es fs then joinTo es fs else []
theorem ent_text_len {e : Ent} (h : entB e = true) : e.text.size ≤ 80 := by
  unfold entB at h
  simp only [Bool.and_eq_true] at h
  have h2 := h.2
  split at h2
  · simp only [Bool.and_eq_true] at h2
    rw [Lib.size_eq]
    have := h2.2
    simp at this
    rw [this]; simp
  · split at h2
    · simp only [Bool.and_eq_true, textB, decide_eq_true_eq] at h2
      rw [Lib.size_eq]; exact h2.2.1
    · simp only [Bool.and_eq_true] at h2
      have := pathB_size _ h2.2.2
      rw [Lib.size_eq]; omega
theorem small_all {es : List Ent} (hl : es.length ≤ 1000) (h : ∀ e ∈ es, entB e = true) : smallE es :=
  ⟨by omega, fun e he => ⟨by have := ent_path_len (h e he); omega, by have := ent_text_len (h e he); omega⟩⟩
def AwayV (M M2 : Nat) (v : Value) : Prop := ∀ k, v.ownBlock = some k → k < M ∨ M2 ≤ k
def BxJ (W : World) (N : Nat) : Prop := W.heap[N]? = some (.cells #[.slice none 0 0] 32 (0, 0)) ∧ W.heap[N + 1]? = some (.cells #[.bool false] 4 (0, 0))
theorem BxJ.keep {W W' : World} {N : Nat} (h : BxJ W N) (hk : ∀ k, k < N + 2 → W'.heap[k]? = W.heap[k]?) : BxJ W' N := ⟨(hk _ (by omega)).trans h.1, (hk _ (by omega)).trans h.2⟩
theorem BxJ.grown {W W' : World} {row : Option Nat} {N : Nat} (h : BxJ W N) (hg : W.grownBy W' row) (hr : ∀ r, row = some r → ∃ o : Obj, W.heap[r]? = some o ∧ o.isCells = false) : BxJ W' N := ⟨cells_grown hg hr h.1, cells_grown hg hr h.2⟩
theorem RowsV.below {W W' : World} {N bt : Nat} {vp vn : Value} {es : List Ent} (h : RowsV W N bt vp vn es) (hb : Below W.heap.size W W') : RowsV W' N bt vp vn es :=
  ⟨(hb.block bt (Array.getElem?_eq_some_iff.1 h.1).1).trans h.1, ownsRow_kept h.2.1 (fun g e => hb.block g (h.2.1.lt g e).2), ownsRow_kept h.2.2 (fun g e => hb.block g (h.2.2.lt g e).2)⟩
theorem RowsV.grown {W W' : World} {row : Option Nat} {N bt : Nat} {vp vn : Value} {es : List Ent} (h : RowsV W N bt vp vn es) (hg : W.grownBy W' row) (hr : ∀ r, row = some r → ∃ o : Obj, W.heap[r]? = some o ∧ o.isCells = false) : RowsV W' N bt vp vn es :=
  ⟨cells_grown hg hr h.1, row_grown hg hr h.2.1, row_grown hg hr h.2.2⟩
theorem RowsV.at {W : World} {N bt : Nat} {vp vn : Value} {es : List Ent} (h : RowsV W N bt vp vn es) : TreeAt W N bt es := ⟨vp, vn, h.1, h.2.1, h.2.2⟩
set_option maxRecDepth 100000 in
set_option maxHeartbeats 8000000 in
theorem treeJoin_any (es fs : List Ent) (a b : Option Addr) (cap cap2 : Nat) (w : World) (hs : smallE es) (hs2 : smallE fs) (h : EntsAt w a es) (h2 : EntsAt w b fs) :
    Calls Tryz.prog 140 #[.slice a es.length cap, .slice b fs.length cap2] w fun x w' => ∃ v, x = .returned (.tuple #[v, .bool (joinOk es fs)]) ∧ w'.ownsRow w.heap.size 57 4 v (joinR es fs).length (valsOf (joinR es fs)) ∧ Below w.heap.size w w' := by
  obtain ⟨wA, hwA⟩ : ∃ wA, wA = (w.alloc (.cells #[.slice none 0 0] 32)).alloc (.cells #[.bool false] 4) := ⟨_, rfl⟩
  have hsz : wA.heap.size = w.heap.size + 2 := by rw [hwA]; simp
  have hBA : Below w.heap.size w wA := by rw [hwA]; exact ((Below.refl _ w).alloc (Nat.le_refl _) _).alloc (by simp) _
  have hbox : BxJ wA w.heap.size := by
    rw [hwA]
    refine ⟨(Below.heap_alloc _ _ _ (by simp)).trans (World.alloc_heap_new w _), ?_⟩
    have := World.alloc_heap_new (w.alloc (.cells #[.slice none 0 0] 32)) (.cells #[.bool false] 4)
    rw [World.size_alloc] at this
    exact this
  have H := hid (treeOf_any es a cap wA hs (h.below hBA))
  have HA := hid (And.intro hsz (And.intro hBA hbox))
  have HWA := hid hwA
  have HE2 := hid (And.intro hs2 h2)
  clear hs h hwA hsz hBA hbox hs2 h2
  refine (callsIn_wide (n := 3)).1 ?_
  refine callsIn_of_wp_marks Tryz.func140 rfl trivial ?_ rfl
  simp only [Tryz.ntmps140, List.size_toArray, List.length_cons, List.length_nil, Nat.reduceAdd, Nat.reduceSub, Array.replicate_succ, Array.replicate_zero, List.push_toArray, List.append_toArray, List.nil_append, List.cons_append]
  gi_wp2
  rw [← unhid HWA]
  refine ⟨trivial, (callsIn_wide.2 (unhid H)).mono ?_⟩
  rintro x w1 ⟨vp, vn, rfl, ⟨t2, t3⟩, hB⟩
  obtain ⟨ap, cp, rfl⟩ := ownsRow_slice t2
  obtain ⟨an, cn, rfl⟩ := ownsRow_slice t3
  obtain ⟨hsz, hBA, hbox⟩ := unhid HA
  obtain ⟨wt, hwt⟩ : ∃ wt, wt = w1.alloc (.cells #[.slice ap (keptE es).length cp, .slice an (keptE es).length cn] 117) := ⟨_, rfl⟩
  have hB1 : Below w.heap.size w w1 := hBA.trans (hB.mono (by omega))
  have hBt : Below w1.heap.size w1 wt := by rw [hwt]; exact (Below.refl _ w1).alloc (Nat.le_refl _) _
  have hBT : Below w.heap.size w wt := hB1.trans (hBt.mono hB1.size)
  have hT : RowsV wt wA.heap.size w1.heap.size (.slice ap (keptE es).length cp) (.slice an (keptE es).length cn) (keptE es) := ⟨by rw [hwt]; exact World.alloc_heap_new _ _, ownsRow_kept t2 (fun g e => hBt.block g (t2.lt g e).2), ownsRow_kept t3 (fun g e => hBt.block g (t3.lt g e).2)⟩
  have hw1 : wA.heap.size ≤ w1.heap.size := hB.size
  have hzt : wt.heap.size = w1.heap.size + 1 := by rw [hwt]; simp
  have hbt : BxJ wt w.heap.size := hbox.keep (fun k hk => (hBt.block _ (by omega)).trans (hB.block _ (by omega)))
  have H2 := hid (treeOf_any fs b cap2 wt (unhid HE2).1 ((unhid HE2).2.below hBT))
  have HT := hid (And.intro hBT (And.intro hbt hT))
  have HWT := hid hwt
  clear hT hBT hBt hB1 hB t2 t3 hbox hBA HA HWA H hbt hwt HE2
  gi_wp2
  rw [← unhid HWT]
  refine ⟨trivial, (callsIn_wide.2 (unhid H2)).mono ?_⟩
  rintro x w2 ⟨vp2, vn2, rfl, ⟨t2, t3⟩, hB⟩
  obtain ⟨ap2, cp2, rfl⟩ := ownsRow_slice t2
  obtain ⟨an2, cn2, rfl⟩ := ownsRow_slice t3
  obtain ⟨wu, hwu⟩ : ∃ wu, wu = w2.alloc (.cells #[.slice ap2 (keptE fs).length cp2, .slice an2 (keptE fs).length cn2] 117) := ⟨_, rfl⟩
  have hBt : Below w2.heap.size w2 wu := by rw [hwu]; exact (Below.refl _ w2).alloc (Nat.le_refl _) _
  have hBu : Below wt.heap.size wt wu := hB.trans (hBt.mono hB.size)
  have hzu : wu.heap.size = w2.heap.size + 1 := by rw [hwu]; simp
  have hw2 : wt.heap.size ≤ w2.heap.size := hB.size
  have HU := hid (show Below w.heap.size w wu ∧ BxJ wu w.heap.size ∧ RowsV wu wA.heap.size w1.heap.size (.slice ap (keptE es).length cp) (.slice an (keptE es).length cn) (keptE es) ∧ RowsV wu wt.heap.size w2.heap.size (.slice ap2 (keptE fs).length cp2) (.slice an2 (keptE fs).length cn2) (keptE fs) from
    ⟨(unhid HT).1.trans (hBu.mono (by omega)), (unhid HT).2.1.keep (fun k hk => hBu.block k (by omega)), (unhid HT).2.2.below hBu, by rw [hwu]; exact World.alloc_heap_new _ _, ownsRow_kept t2 (fun g e => hBt.block g (t2.lt g e).2), ownsRow_kept t3 (fun g e => hBt.block g (t3.lt g e).2)⟩)
  have HR1 := hid (show (∀ g, (Value.slice ap (keptE es).length cp).ownBlock = some g → g < wt.heap.size) ∧ (∀ g, (Value.slice an (keptE es).length cn).ownBlock = some g → g < wt.heap.size) from ⟨fun g e => ((unhid HT).2.2.2.1.lt g e).2, fun g e => ((unhid HT).2.2.2.2.lt g e).2⟩)
  have HWU := hid hwu
  clear hBt hBu t2 t3 hB H2 HT HWT hwu
  cases htb : treeB es
  · have E := hid (show joinOk es fs = false ∧ joinR es fs = [] by unfold joinR joinOk; rw [htb]; exact ⟨rfl, rfl⟩)
    obtain ⟨hBw, hbx, -, -⟩ := unhid HU
    obtain ⟨k2, f2⟩ := cell_of_box_l hbx.1
    obtain ⟨k3, f3⟩ := cell_of_box_l hbx.2
    rw [unhid HWU] at k2 f2 k3 f3
    have HF := hid hBw
    clear hBw hbx
    gi_wp2
    rw [← unhid HWU]
    rw [unhid HWU] at HF
    refine ⟨.tuple #[.slice none 0 0, .bool false], ?_, _, by rw [(unhid E).1], by rw [(unhid E).2]; exact World.ownsRow_nil _ _ _ _, ?_⟩
    · rw [unhid HWU]; simp [results, Tryz.f140, go_sem, World.cell?_setCell_same', k2, k3]
    · rw [unhid HWU]; exact ((unhid HF).setCell (p := ⟨w.heap.size, 0, none⟩) (Nat.le_refl _) _).setCell (p := ⟨w.heap.size + 1, 0, none⟩) (show w.heap.size ≤ w.heap.size + 1 by omega) _
  cases htb2 : treeB fs
  · have E := hid (show joinOk es fs = false ∧ joinR es fs = [] by unfold joinR joinOk; rw [htb, htb2]; exact ⟨rfl, rfl⟩)
    obtain ⟨hBw, hbx, -, -⟩ := unhid HU
    obtain ⟨k2, f2⟩ := cell_of_box_l hbx.1
    obtain ⟨k3, f3⟩ := cell_of_box_l hbx.2
    rw [unhid HWU] at k2 f2 k3 f3
    have HF := hid hBw
    clear hBw hbx
    gi_wp2
    rw [← unhid HWU]
    rw [unhid HWU] at HF
    refine ⟨.tuple #[.slice none 0 0, .bool false], ?_, _, by rw [(unhid E).1], by rw [(unhid E).2]; exact World.ownsRow_nil _ _ _ _, ?_⟩
    · rw [unhid HWU]; simp [results, Tryz.f140, go_sem, World.cell?_setCell_same', k2, k3]
    · rw [unhid HWU]; exact ((unhid HF).setCell (p := ⟨w.heap.size, 0, none⟩) (Nat.le_refl _) _).setCell (p := ⟨w.heap.size + 1, 0, none⟩) (show w.heap.size ≤ w.heap.size + 1 by omega) _
  rw [keptE_yes htb] at HU HR1 ⊢
  rw [keptE_yes htb2] at HU HWU ⊢
  obtain ⟨hBu, hbu, hr1, hr2⟩ := unhid HU
  have hwl : w2.heap.size < wu.heap.size := by omega
  obtain ⟨w4, hw4⟩ : ∃ w4, w4 = wu.alloc (.cells #[.pointer (some ⟨w2.heap.size, 0, none⟩)] 173) := ⟨_, rfl⟩
  have hz4 : w4.heap.size = wu.heap.size + 1 := by rw [hw4]; simp
  have hB4 : Below wu.heap.size wu w4 := by rw [hw4]; exact (Below.refl _ wu).alloc (Nat.le_refl _) _
  have HAL := hid (all_in Fence.wide 2 trivial rfl w2.heap.size wu)
  rw [← hw4] at HAL
  have HR2 := hid (show (∀ g, (Value.slice ap2 fs.length cp2).ownBlock = some g → wt.heap.size ≤ g ∧ g < w4.heap.size) ∧ (∀ g, (Value.slice an2 fs.length cn2).ownBlock = some g → wt.heap.size ≤ g ∧ g < w4.heap.size) from ⟨fun g e => ⟨(hr2.2.1.lt g e).1, by have := (hr2.2.1.lt g e).2; omega⟩, fun g e => ⟨(hr2.2.2.lt g e).1, by have := (hr2.2.2.lt g e).2; omega⟩⟩)
  have hTI : TreeIn wu.heap.size w2.heap.size wt.heap.size (.slice ap2 fs.length cp2) (.slice an2 fs.length cn2) fs w4 := ⟨by have := (cell_new_l wu (.pointer (some ⟨w2.heap.size, 0, none⟩)) 173).1; rw [hw4]; exact this, (hr2.below hB4).1, (hr2.below hB4).2⟩
  have hBt0 : (∃ vp vn, RowsV w4 wA.heap.size w1.heap.size vp vn (joinTo es ([])) ∧ AwayV wt.heap.size w4.heap.size vp ∧ AwayV wt.heap.size w4.heap.size vn) := ⟨_, _, hr1.below hB4, fun k hk => .inl ((unhid HR1).1 k hk), fun k hk => .inl ((unhid HR1).2 k hk)⟩
  have hbx4 : BxJ w4 w.heap.size := hbu.keep (fun k hk => hB4.block k (by omega))
  have hBw : Below w.heap.size w w4 := hBu.trans (hB4.mono (by omega))
  have hl1 := tree_16 htb
  have hl2 := tree_16 htb2
  have hup := asc_up (tree_asc htb)
  have hkb := tree_all htb2
  have zu1 := Nat.le_of_eq hzu
  have zu2 := Nat.le_of_eq hzu.symm
  have z41 := Nat.le_of_eq hz4
  have z42 := Nat.le_of_eq hz4.symm
  have zt1 := Nat.le_of_eq hzt
  have zt2 := Nat.le_of_eq hzt.symm
  have za1 := Nat.le_of_eq hsz
  have za2 := Nat.le_of_eq hsz.symm
  clear hw4 hr1 hr2 hbu hBu HR1 hB4 hzu hz4 hzt hsz
  gi_wp2
  rw [← unhid HWU]
  refine ⟨trivial, (unhid HAL).mono ?_⟩
  rintro x w5 ⟨rfl, e5⟩
  rw [e5]
  clear e5
  gi_wp2
  refine wpIn_rangeFunc_ownF rfl (by omega) (gf := 168) (lb := #[.pointer (some ⟨wu.heap.size, 0, none⟩)]) rfl trivial (enters_of Tryz.func168 (by kernel_rfl) rfl)
    (all_stops Fence.wide _ trivial rfl (by omega) wu.heap.size w2.heap.size wt.heap.size _ _ fs (by omega) (fun e => entB e = true) hkb _ hTI) (fun h g x => g (h x)) (fun W l o o' _ hl hc _ h => treeIn_grown h (grownBy_putObj' _ l o') (fun r e => by cases e; exact ⟨_, hl, hc⟩)) (Below.refl _ _) (fun _ => rfl)
    (fun pre W => ((∃ vp vn, RowsV W wA.heap.size w1.heap.size vp vn (joinTo es (pre.map (·.1))) ∧ AwayV wt.heap.size w4.heap.size vp ∧ AwayV wt.heap.size w4.heap.size vn) ∧ TreeIn wu.heap.size w2.heap.size wt.heap.size (.slice ap2 fs.length cp2) (.slice an2 fs.length cn2) fs W ∧ BxJ W w.heap.size ∧ Hid (okJ es (pre.map (·.1)) = true)) ∧ Below w.heap.size w W ∧ w4.heap.size ≤ W.heap.size)
    (fun c pre W => (c = .ret ∧ okJ es (pre.map (·.1)) = false ∧ BxJ W w.heap.size) ∧ Below w.heap.size w W)
    (fun s A B row hs hg hr => ⟨⟨by obtain ⟨vp, vn, q1, q2, q3⟩ := hs.1.1; exact ⟨vp, vn, q1.grown hg (fun r e => (hr r e).2), q2, q3⟩, treeIn_grown hs.1.2.1 hg (fun r e => (hr r e).2), hs.1.2.2.1.grown hg (fun r e => (hr r e).2), hs.1.2.2.2⟩, ownFrom_below (Nat.le_refl _) (by omega) s A B row hs.2.1 hg hr, Nat.le_trans hs.2.2 hg.size⟩)
    (fun c s A B row hs hg hr => ⟨⟨hs.1.1, hs.1.2.1, hs.1.2.2.grown hg (fun r e => (hr r e).2)⟩, ownFrom_below (Nat.le_refl _) (by omega) s A B row hs.2 hg hr⟩)
    ⟨⟨hBt0, hTI, hbx4, hid rfl⟩, hBw, Nat.le_refl _⟩
    (fun x => { tmps := #[.slice a es.length cap, .slice b fs.length cap2, undef, undef, .pointer (some ⟨w.heap.size, 0, none⟩), .pointer (some ⟨w.heap.size + 1, 0, none⟩), .pointer (some ⟨w1.heap.size, 0, none⟩), .bool true, .pointer (some ⟨w2.heap.size, 0, none⟩), .bool true, .string x.1.path, nodeV x.1, undef, undef, undef, .tuple #[.agg #[.slice ap es.length cp, .slice an es.length cn], .bool true], .slice a es.length cap, .tuple #[.agg #[.slice ap es.length cp, .slice an es.length cn], .bool true], .agg #[.slice ap es.length cp, .slice an es.length cn], .bool true, .tuple #[.agg #[.slice ap2 fs.length cp2, .slice an2 fs.length cn2], .bool true], .slice b fs.length cap2, .tuple #[.agg #[.slice ap2 fs.length cp2, .slice an2 fs.length cn2], .bool true], .agg #[.slice ap2 fs.length cp2, .slice an2 fs.length cn2], .bool true, .bool true, .bool false, .bool false, .bool true, .bool false, .bool false, .pointer (some ⟨w2.heap.size, 0, none⟩), .func (.func 168) #[] #[.pointer (some ⟨wu.heap.size, 0, none⟩)], .string x.1.path, nodeV x.1, undef, undef, undef, undef, undef, undef, undef, undef, undef, undef, undef, undef, undef, undef, undef, undef, undef, undef, undef, undef, undef, undef], defers := [] }) ?assign ?body ?done ?stop
  case assign =>
    intro l x W K hK
    gi_wp2
    exact hK
  case body =>
    rintro l pre ⟨e, hx⟩ W ⟨⟨⟨vp, vn, hrv, hav, han⟩, hTI2, hbW, hok⟩, hB, hW4⟩ hpl
    dsimp only
    obtain ⟨T0, nv, hnv⟩ := nodeV_shape e
    have hjl : (joinTo es (pre.map (·.1))).length ≤ 100 := by have := joinTo_len es (pre.map (·.1)); rw [List.length_map] at this; omega
    have hasc := up_asc (joinTo_up hup (pre.map (·.1)))
    have GET := hid (mapGet_any wA.heap.size w1.heap.size (joinTo es (pre.map (·.1))) e.path W (by omega) hasc hrv.at)
    cases hth : thereE (joinTo es (pre.map (·.1))) e.path
    · have hst : stepJ (joinTo es (pre.map (·.1))) e = true := by unfold stepJ; rw [hth]; rfl
      have hgv : getV (joinTo es (pre.map (·.1))) e.path = .nilIface := by unfold getV; rw [hth]; rfl
      rw [hgv, hth] at GET
      have HI0 := hid (And.intro hrv (And.intro hav (And.intro han (And.intro hTI2 (And.intro hbW hB)))))
      clear hrv hav han hTI2 hbW hB hgv
      gi_wp2
      refine ⟨trivial, (CallsIn.inRound l (callsIn_wide.2 (unhid GET))).mono ?_⟩
      rintro x W2 ⟨rfl, e2⟩
      subst e2
      obtain ⟨hrv, hav, han, hTI2, hbW, hB⟩ := unhid HI0
      have hmk : joinTo es ((pre ++ [(⟨e, hx⟩ : { e : Ent // entB e = true })]).map (·.1)) = putT (joinTo es (pre.map (·.1))) e := by rw [List.map_append]; exact joinTo_snoc _ _ _
      have hokn : okJ es ((pre ++ [(⟨e, hx⟩ : { e : Ent // entB e = true })]).map (·.1)) = true := by rw [List.map_append]; exact (okJ_snoc es (pre.map (·.1)) e).trans (by rw [unhid hok, hst])
      have hput := mapPut_V wA.heap.size w1.heap.size vp vn (joinTo es (pre.map (·.1))) e W2 (by omega) hasc hw1 hrv
      rw [← hmk] at hput
      rw [hnv] at hput
      try rw [hnv]
      have HP := hid hput
      have HI := hid (And.intro hrv (And.intro hav (And.intro han (And.intro hTI2 (And.intro hbW (And.intro hB (And.intro (KeepsOthers.refl W2) hokn)))))))
      clear hput hmk hokn
      gi_wp2
      refine ⟨trivial, ?_⟩
      gi_wp2
      refine ⟨trivial, (CallsIn.inRound l (callsIn_wide.2 (unhid HP))).mono ?_⟩
      rintro x W9 ⟨⟨v, rfl⟩, ⟨vp', vn', hrv9, hfp, hfn⟩, hB9, hO9, hS9⟩
      obtain ⟨hrv, hav, han, hTW, hbW, hBW, hKO, hokn⟩ := unhid HI
      have hsz9 : W2.heap.size ≤ W9.heap.size := hB9.size
      have hTF : TreeIn wu.heap.size w2.heap.size wt.heap.size (.slice ap2 fs.length cp2) (.slice an2 fs.length cn2) fs W9 := treeIn_kept hTW (fun k hk => by
        have hkr : wt.heap.size ≤ k ∧ k < w4.heap.size := by
          rcases hk with rfl | rfl | h | h
          · omega
          · omega
          · exact (unhid HR2).1 k h
          · exact (unhid HR2).2 k h
        exact hS9 k (by omega) (by omega) (fun eq => by have := hav k eq; omega) (fun eq => by have := han k eq; omega))
      have HF := hid (show KeepsOthers W2 W9 ∧ (TreeIn wu.heap.size w2.heap.size wt.heap.size (.slice ap2 fs.length cp2) (.slice an2 fs.length cn2) fs W2 → TreeIn wu.heap.size w2.heap.size wt.heap.size (.slice ap2 fs.length cp2) (.slice an2 fs.length cn2) fs W9) ∧ ((∃ vp vn, RowsV W9 wA.heap.size w1.heap.size vp vn (joinTo es ((pre ++ [(⟨e, hx⟩ : { e : Ent // entB e = true })]).map (·.1))) ∧ AwayV wt.heap.size w4.heap.size vp ∧ AwayV wt.heap.size w4.heap.size vn) ∧ TreeIn wu.heap.size w2.heap.size wt.heap.size (.slice ap2 fs.length cp2) (.slice an2 fs.length cn2) fs W9 ∧ BxJ W9 w.heap.size ∧ Hid (okJ es ((pre ++ [(⟨e, hx⟩ : { e : Ent // entB e = true })]).map (·.1)) = true)) ∧ Below w.heap.size w W9 ∧ w4.heap.size ≤ W9.heap.size from
        ⟨hKO.trans ⟨hB9.size, fun k o hk hc => by
            by_cases hkb : k = w1.heap.size
            · subst hkb; have q1 := hrv.1; rw [hk] at q1; cases q1; cases hc
            · exact hO9 k o hkb hk (fun cs t f e => by subst e; cases hc)⟩, fun _ => hTF,
         ⟨⟨vp', vn', hrv9, fun k hk => by rcases hfp k hk with h | h; exact hav k h; right; omega, fun k hk => by rcases hfn k hk with h | h; exact han k h; right; omega⟩, hTF, hbW.keep (fun k hk => hB9.block k (by omega)), hid hokn⟩, hBW.trans (hB9.mono (by omega)), by omega⟩)
      clear hrv9 hfp hfn hB9 hO9 hS9 hrv hav han hTW hbW hBW hKO hokn hTF
      gi_wp2
      exact unhid HF
    · obtain ⟨old, hold, hop⟩ := there_get hth
      have hfo := entFn_get hold
      obtain ⟨T1, nv1, hnv1⟩ := nodeV_shape old
      have hgv : getV (joinTo es (pre.map (·.1))) e.path = .iface T1 nv1 := by unfold getV; rw [hth, hfo, if_pos rfl, hnv1]
      rw [hgv, hth] at GET
      have SAME := hid (fun W => sameDir_any old e W)
      rw [hnv, hnv1] at SAME
      have HI0 := hid (And.intro hrv (And.intro hav (And.intro han (And.intro hTI2 (And.intro hbW hB)))))
      clear hrv hav han hTI2 hbW hB hgv hnv1 hold hop
      gi_wp2
      refine ⟨trivial, (CallsIn.inRound l (callsIn_wide.2 (unhid GET))).mono ?_⟩
      rintro x W2 ⟨rfl, e2⟩
      subst e2
      gi_wp2
      refine ⟨trivial, (CallsIn.inRound l (callsIn_wide.2 (unhid SAME _))).mono ?_⟩
      rintro x W3 ⟨rfl, hb⟩
      obtain ⟨hrv0, hav, han, hTI0, hbW0, hB0⟩ := unhid HI0
      have hrv := hrv0.below hb
      have hTI2 := treeIn_below hTI0 hb
      have hlw : w.heap.size + 2 ≤ W2.heap.size := by have := (Array.getElem?_eq_some_iff.1 hbW0.2).1; omega
      have hbW := hbW0.keep (fun k hk => hb.block k (by omega))
      have hB := hB0.trans (hb.mono hB0.size)
      have hW43 : w4.heap.size ≤ W3.heap.size := Nat.le_trans hW4 hb.size
      have hKO := KeepsOthers_of_below hb
      clear hrv0 hTI0 hbW0 hB0 hb HI0 SAME
      cases hsm : sameB old e
      · have hno : okJ es ((pre ++ [(⟨e, hx⟩ : { e : Ent // entB e = true })]).map (·.1)) = false := by rw [List.map_append]; rw [show List.map (fun x => x.1) [(⟨e, hx⟩ : { e : Ent // entB e = true })] = [e] from rfl, okJ_snoc, show stepJ (joinTo es (pre.map (·.1))) e = false by unfold stepJ; rw [hth, hfo, hsm]; rfl, Bool.and_false]
        obtain ⟨k2, f2⟩ := cell_of_box_l hbW.1
        obtain ⟨k3, f3⟩ := cell_of_box_l hbW.2
        have HF := hid (And.intro hKO (And.intro hno (And.intro hbW hB)))
        clear hKO hno hbW hB hrv hav han hTI2
        gi_wp2
        obtain ⟨hKO, hno, hbW, hB⟩ := unhid HF
        exact ⟨hKO.trans ((KeepsOthers.setCell _ _ _).trans (KeepsOthers.setCell _ _ _)), ⟨rfl, hno, (Below.heap_setCell _ _ _ _ (show w.heap.size ≠ w.heap.size + 1 by omega)).trans (by rw [heap_setCell_same _ _ 0 _ _ _ hbW.1]; rfl), by rw [heap_setCell_same _ _ 0 _ _ _ ((Below.heap_setCell _ _ _ _ (show w.heap.size + 1 ≠ w.heap.size by omega)).trans hbW.2)]; rfl⟩, (hB.setCell (p := ⟨w.heap.size, 0, none⟩) (Nat.le_refl _) _).setCell (p := ⟨w.heap.size + 1, 0, none⟩) (show w.heap.size ≤ w.heap.size + 1 by omega) _⟩
      · have hst : stepJ (joinTo es (pre.map (·.1))) e = true := by unfold stepJ; rw [hfo, hsm]; simp
        have hmk : joinTo es ((pre ++ [(⟨e, hx⟩ : { e : Ent // entB e = true })]).map (·.1)) = putT (joinTo es (pre.map (·.1))) e := by rw [List.map_append]; exact joinTo_snoc _ _ _
        have hokn : okJ es ((pre ++ [(⟨e, hx⟩ : { e : Ent // entB e = true })]).map (·.1)) = true := by rw [List.map_append]; exact (okJ_snoc es (pre.map (·.1)) e).trans (by rw [unhid hok, hst])
        have hput := mapPut_V wA.heap.size w1.heap.size vp vn (joinTo es (pre.map (·.1))) e W3 (by omega) hasc hw1 hrv
        rw [← hmk] at hput
        rw [hnv] at hput
        try rw [hnv]
        have HP := hid hput
        have HI := hid (And.intro hrv (And.intro hav (And.intro han (And.intro hTI2 (And.intro hbW (And.intro hB (And.intro hKO hokn)))))))
        clear hput hmk hokn
        gi_wp2
        refine ⟨trivial, (CallsIn.inRound l (callsIn_wide.2 (unhid HP))).mono ?_⟩
        rintro x W9 ⟨⟨v, rfl⟩, ⟨vp', vn', hrv9, hfp, hfn⟩, hB9, hO9, hS9⟩
        obtain ⟨hrv, hav, han, hTW, hbW, hBW, hKO, hokn⟩ := unhid HI
        have hsz9 : W3.heap.size ≤ W9.heap.size := hB9.size
        have hTF : TreeIn wu.heap.size w2.heap.size wt.heap.size (.slice ap2 fs.length cp2) (.slice an2 fs.length cn2) fs W9 := treeIn_kept hTW (fun k hk => by
          have hkr : wt.heap.size ≤ k ∧ k < w4.heap.size := by
            rcases hk with rfl | rfl | h | h
            · omega
            · omega
            · exact (unhid HR2).1 k h
            · exact (unhid HR2).2 k h
          exact hS9 k (by omega) (by omega) (fun eq => by have := hav k eq; omega) (fun eq => by have := han k eq; omega))
        have HF := hid (show KeepsOthers W2 W9 ∧ (TreeIn wu.heap.size w2.heap.size wt.heap.size (.slice ap2 fs.length cp2) (.slice an2 fs.length cn2) fs W2 → TreeIn wu.heap.size w2.heap.size wt.heap.size (.slice ap2 fs.length cp2) (.slice an2 fs.length cn2) fs W9) ∧ ((∃ vp vn, RowsV W9 wA.heap.size w1.heap.size vp vn (joinTo es ((pre ++ [(⟨e, hx⟩ : { e : Ent // entB e = true })]).map (·.1))) ∧ AwayV wt.heap.size w4.heap.size vp ∧ AwayV wt.heap.size w4.heap.size vn) ∧ TreeIn wu.heap.size w2.heap.size wt.heap.size (.slice ap2 fs.length cp2) (.slice an2 fs.length cn2) fs W9 ∧ BxJ W9 w.heap.size ∧ Hid (okJ es ((pre ++ [(⟨e, hx⟩ : { e : Ent // entB e = true })]).map (·.1)) = true)) ∧ Below w.heap.size w W9 ∧ w4.heap.size ≤ W9.heap.size from
          ⟨hKO.trans ⟨hB9.size, fun k o hk hc => by
              by_cases hkb : k = w1.heap.size
              · subst hkb; have q1 := hrv.1; rw [hk] at q1; cases q1; cases hc
              · exact hO9 k o hkb hk (fun cs t f e => by subst e; cases hc)⟩, fun _ => hTF,
           ⟨⟨vp', vn', hrv9, fun k hk => by rcases hfp k hk with h | h; exact hav k h; right; omega, fun k hk => by rcases hfn k hk with h | h; exact han k h; right; omega⟩, hTF, hbW.keep (fun k hk => hB9.block k (by omega)), hid hokn⟩, hBW.trans (hB9.mono (by omega)), by omega⟩)
        clear hrv9 hfp hfn hB9 hO9 hS9 hrv hav han hTW hbW hBW hKO hokn hTF
        gi_wp2
        exact unhid HF
  case stop =>
    rintro D c pre W hD hpr ⟨⟨rfl, hno, hbW⟩, hB⟩ hK
    have E := hid (show joinOk es fs = false ∧ joinR es fs = [] by unfold joinR joinOk; rw [okJ_prefix hpr hno, htb, htb2]; exact ⟨rfl, rfl⟩)
    have hg := grownBy_putObj' W D (.deferred none)
    have hr : ∀ r, some D = some r → ∃ o : Obj, W.heap[r]? = some o ∧ o.isCells = false := fun r e => by cases e; exact ⟨_, hK, rfl⟩
    have s2 := (cell_of_box_l (cells_grown hg hr hbW.1)).1
    have s3 := (cell_of_box_l (cells_grown hg hr hbW.2)).1
    have HF := hid (And.intro (hB.trans (belowK_b (w := w) (Nat.le_refl _) _ D (.deferred (some [])) (.deferred none) (by omega) hK rfl rfl)) hK)
    clear hg hr hbW hB hK hno
    gi_wp2
    refine ⟨by simp, .inl ⟨_, _, rfl, run_takeDeferred (unhid HF).2, ?_⟩⟩
    refine ⟨.tuple #[.slice none 0 0, .bool false], ?_, _, by rw [(unhid E).1], by rw [(unhid E).2]; exact World.ownsRow_nil _ _ _ _, (unhid HF).1⟩
    simp [results, Tryz.f140, go_sem, s2, s3]
  case done =>
    rintro D ys W hD hys ⟨⟨⟨vp, vn, hrv, hav, han⟩, hTI2, hbW, hok⟩, hB, hW4⟩ hK
    rw [hys] at hrv hok
    have hlen : (joinTo es fs).length ≤ 100 := by have := joinTo_len es fs; omega
    have hen : ∀ e ∈ joinTo es fs, entB e = true := fun e he => by
      rcases joinTo_mem es fs e he with h | h
      · exact tree_all htb e h
      · exact hkb e h
    have ENT := hid (entries_any wA.heap.size w1.heap.size (joinTo es fs) W (by omega) hen hrv.at)
    have HSM := hid (small_all (by omega) hen)
    have HI := hid (And.intro hB (And.intro hK hbW))
    have hDl := (Array.getElem?_eq_some_iff.1 hK).1
    have hwl2 : w.heap.size + 2 ≤ W.heap.size := by have := (Array.getElem?_eq_some_iff.1 hbW.2).1; omega
    clear hrv hav han hTI2 hbW hB hK hen
    gi_wp2
    refine ⟨trivial, (callsIn_wide.2 (unhid ENT)).mono ?_⟩
    rintro x W3 ⟨v, rfl, hown, hb3⟩
    obtain ⟨va, vc, hva, hRI⟩ := rowIn_of_owns hown
    subst hva
    obtain ⟨hB, hK, hbW⟩ := unhid HI
    have TOK := hid (treeOk_any (joinTo es fs) va vc W3 (unhid HSM) hRI.at)
    have HI3 := hid (And.intro hown (And.intro (hB.trans (hb3.mono hB.size)) (And.intro ((hb3.block _ hDl).trans hK) (hbW.keep (fun k hk => hb3.block k (by omega))))))
    have hsz3 := hb3.size
    clear hown hb3 hB hK hbW hRI HI
    gi_wp2
    refine ⟨trivial, (callsIn_wide.2 (unhid TOK)).mono ?_⟩
    rintro x W4 ⟨rfl, hb4⟩
    obtain ⟨hown0, hB0, hK0, hbx0⟩ := unhid HI3
    have hown := ownsRow_kept hown0 (fun g e => hb4.block g (hown0.lt g e).2)
    have hB := hB0.trans (hb4.mono hB0.size)
    have hK := (hb4.block _ (by omega)).trans hK0
    have hbx := hbx0.keep (fun k hk => hb4.block k (by omega))
    have HI4 := hid (And.intro hown (And.intro hB (And.intro hK hbx)))
    obtain ⟨k2, f2⟩ := cell_of_box_l hbx.1
    obtain ⟨k3, f3⟩ := cell_of_box_l hbx.2
    clear hown0 hB0 hK0 hbx0 hown hB hK hbx hb4 HI3 TOK
    cases htj : treeB (joinTo es fs)
    · have E := hid (show joinOk es fs = false ∧ joinR es fs = [] by unfold joinR joinOk; rw [htj, htb, htb2, unhid hok]; exact ⟨rfl, rfl⟩)
      gi_wp2
      obtain ⟨hown, hB, hK, hbx⟩ := unhid HI4
      obtain ⟨WF, hWF⟩ : ∃ WF, WF = ((W4.setCell ⟨w.heap.size, 0, none⟩ (.slice none 0 0)).setCell ⟨w.heap.size + 1, 0, none⟩ (.bool false)) := ⟨_, rfl⟩
      have hne23 : w.heap.size ≠ w.heap.size + 1 := by omega
      have hKF : WF.heap[D]? = some (.deferred (some [])) := by rw [hWF]; exact (Below.heap_setCell _ _ _ _ (show D ≠ w.heap.size + 1 by omega)).trans ((Below.heap_setCell _ _ _ _ (show D ≠ w.heap.size by omega)).trans hK)
      have hv1 : WF.heap[w.heap.size]? = some (.cells #[.slice none 0 0] 32 (0, 0)) := by rw [hWF]; exact (Below.heap_setCell _ _ _ _ hne23).trans (by rw [heap_setCell_same _ _ 0 _ _ _ hbx.1]; rfl)
      have hb7 : WF.heap[w.heap.size + 1]? = some (.cells #[.bool false] 4 (0, 0)) := by rw [hWF, heap_setCell_same _ _ 0 _ _ _ ((Below.heap_setCell _ _ _ _ hne23.symm).trans hbx.2)]; rfl
      have hBF : Below w.heap.size w WF := by rw [hWF]; exact (hB.setCell (p := ⟨w.heap.size, 0, none⟩) (Nat.le_refl _) _).setCell (p := ⟨w.heap.size + 1, 0, none⟩) (show w.heap.size ≤ w.heap.size + 1 by omega) _
      rw [← hWF]
      refine ⟨by simp, .inl ⟨_, _, rfl, run_takeDeferred hKF, ?_⟩⟩
      have hg := grownBy_putObj' WF D (.deferred none)
      have hr : ∀ r, some D = some r → ∃ o : Obj, WF.heap[r]? = some o ∧ o.isCells = false := fun r e => by cases e; exact ⟨_, hKF, rfl⟩
      have s2 := (cell_of_box_l (cells_grown hg hr hv1)).1
      have s3 := (cell_of_box_l (cells_grown hg hr hb7)).1
      refine ⟨.tuple #[.slice none 0 0, .bool false], ?_, _, by rw [(unhid E).1], by rw [(unhid E).2]; exact World.ownsRow_nil _ _ _ _, hBF.trans (belowK_b (w := w) (Nat.le_refl _) _ D (.deferred (some [])) (.deferred none) (by omega) hKF rfl rfl)⟩
      simp [results, Tryz.f140, go_sem, s2, s3]
    · have E := hid (show joinOk es fs = true ∧ joinR es fs = joinTo es fs by unfold joinR joinOk; rw [htj, htb, htb2, unhid hok]; exact ⟨rfl, rfl⟩)
      gi_wp2
      obtain ⟨hown, hB, hK, hbx⟩ := unhid HI4
      obtain ⟨WF, hWF⟩ : ∃ WF, WF = ((W4.setCell ⟨w.heap.size, 0, none⟩ (.slice va (joinTo es fs).length vc)).setCell ⟨w.heap.size + 1, 0, none⟩ (.bool true)) := ⟨_, rfl⟩
      have hne23 : w.heap.size ≠ w.heap.size + 1 := by omega
      have hKF : WF.heap[D]? = some (.deferred (some [])) := by rw [hWF]; exact (Below.heap_setCell _ _ _ _ (show D ≠ w.heap.size + 1 by omega)).trans ((Below.heap_setCell _ _ _ _ (show D ≠ w.heap.size by omega)).trans hK)
      have hv1 : WF.heap[w.heap.size]? = some (.cells #[.slice va (joinTo es fs).length vc] 32 (0, 0)) := by rw [hWF]; exact (Below.heap_setCell _ _ _ _ hne23).trans (by rw [heap_setCell_same _ _ 0 _ _ _ hbx.1]; rfl)
      have hb7 : WF.heap[w.heap.size + 1]? = some (.cells #[.bool true] 4 (0, 0)) := by rw [hWF, heap_setCell_same _ _ 0 _ _ _ ((Below.heap_setCell _ _ _ _ hne23.symm).trans hbx.2)]; rfl
      have hBF : Below w.heap.size w WF := by rw [hWF]; exact (hB.setCell (p := ⟨w.heap.size, 0, none⟩) (Nat.le_refl _) _).setCell (p := ⟨w.heap.size + 1, 0, none⟩) (show w.heap.size ≤ w.heap.size + 1 by omega) _
      have hownF : WF.ownsRow W.heap.size 57 4 (.slice va (joinTo es fs).length vc) (joinTo es fs).length (valsOf (joinTo es fs)) := by rw [hWF]; exact ownsRow_setCell_below (ownsRow_setCell_below hown (a := ⟨w.heap.size, 0, none⟩) (show w.heap.size < W.heap.size by omega) _) (a := ⟨w.heap.size + 1, 0, none⟩) (show w.heap.size + 1 < W.heap.size by omega) _
      rw [← hWF]
      refine ⟨by simp, .inl ⟨_, _, rfl, run_takeDeferred hKF, ?_⟩⟩
      have hg := grownBy_putObj' WF D (.deferred none)
      have hr : ∀ r, some D = some r → ∃ o : Obj, WF.heap[r]? = some o ∧ o.isCells = false := fun r e => by cases e; exact ⟨_, hKF, rfl⟩
      have s2 := (cell_of_box_l (cells_grown hg hr hv1)).1
      have s3 := (cell_of_box_l (cells_grown hg hr hb7)).1
      refine ⟨.tuple #[.slice va (joinTo es fs).length vc, .bool true], ?_, _, by rw [(unhid E).1], by rw [(unhid E).2]; exact ownsRow_base (row_grown hg hr hownF) (by omega), hBF.trans (belowK_b (w := w) (Nat.le_refl _) _ D (.deferred (some [])) (.deferred none) (by omega) hKF rfl rfl)⟩
      simp [results, Tryz.f140, go_sem, s2, s3]
end Go.Proofs.YtoihhlkidlapmaaGreat

namespace Go.Proofs.YtoihhlkidlapmaaGreat
open Go.RowKit Go.Shelf
end Go.Proofs.YtoihhlkidlapmaaGreat

namespace Go.Proofs.YtoihhlkidlapmaaGreat
open Go.RowKit Go.Shelf
attribute [local go_sem] Oper.semAt_some
end Go.Proofs.YtoihhlkidlapmaaGreat

namespace Go.Proofs.YtoihhlkidlapmaaGreat
open Go.RowKit Go.Shelf
theorem ownsRow_some {W : World} {N n size : Nat} {v : Value} {e : TypeId} {xs : List Value} (h : W.ownsRow N e size v n xs) (hn : 0 < n) : ∃ g cap, v = .slice (some ⟨g, 0, none⟩) n cap := by
  rcases h.2 with ⟨rfl, h0⟩ | ⟨g, cap, cur, rfl, _⟩
  · omega
  · exact ⟨g, cap, rfl⟩
theorem insAt_len (es : List Ent) (e : Ent) : (insAt es e).length = es.length + 1 := by unfold insAt; have := placeE_le es e.path; simp; omega
end Go.Proofs.YtoihhlkidlapmaaGreat

namespace Go.Proofs.YtoihhlkidlapmaaGreat
open Go.RowKit Go.Shelf
def eqV (x y : Ent) : Bool := x.path == y.path && (x.kind == y.kind && (x.mode == y.mode && x.text == y.text))
theorem beqS_iff (a b : ByteArray) : (a == b) = true ↔ a = b := by
  rw [beq_toListBytes]
  exact eqS_iff a b
theorem in_str (d : Nat) (a b : ByteArray) (w : World) : (Op.equalIn (d + 1) 9 (.string a) (.string b)).run Tryz.prog w = .ok (a == b) w := by
  simp [Op.equalIn, run_underlying Tryz.underlying9]
theorem in_ent (d : Nat) (x y : Ent) (w : World) : (Op.equalIn (d + 1 + 1) 57 (.agg x.vals) (.agg y.vals)).run Tryz.prog w = .ok (eqV x y) w := by
  obtain ⟨p, k, m, t⟩ := x
  obtain ⟨p2, k2, m2, t2⟩ := y
  have h0 : (program).run Tryz.prog w = .ok Tryz.prog w := by kernel_rfl
  have h1 : Tryz.prog.stoodInHeld 57 = false := by kernel_rfl
  have e0 : ∀ (p : ByteArray) (k m : Int) (t : ByteArray), (part 9 #[.string p, .int .i64 k, .int .i64 m, .string t] 0).run Tryz.prog w = .ok (.string p) w := fun p k m t => by kernel_rfl
  have e1 : ∀ (p : ByteArray) (k m : Int) (t : ByteArray), (part 3 #[.string p, .int .i64 k, .int .i64 m, .string t] 1).run Tryz.prog w = .ok (.int .i64 k) w := fun p k m t => by kernel_rfl
  have e2 : ∀ (p : ByteArray) (k m : Int) (t : ByteArray), (part 3 #[.string p, .int .i64 k, .int .i64 m, .string t] 2).run Tryz.prog w = .ok (.int .i64 m) w := fun p k m t => by kernel_rfl
  have e3 : ∀ (p : ByteArray) (k m : Int) (t : ByteArray), (part 9 #[.string p, .int .i64 k, .int .i64 m, .string t] 3).run Tryz.prog w = .ok (.string t) w := fun p k m t => by kernel_rfl
  unfold Ent.vals eqV
  unfold Op.equalIn
  simp only [Sem.run_bind, run_underlying Tryz.underlying57, Result.andThen_ok, h0, h1, Bool.false_eq_true, if_false, List.forIn_toArray, List.forIn_cons, List.forIn_nil]
  rw [if_pos (by decide)]
  simp only [Sem.run_bind, e0, in_str, Result.andThen_ok]
  cases (p == p2)
  · simp [Sem.run_pure]
  · simp only [Bool.not_true, Bool.false_eq_true, if_false, Sem.run_pure, Result.andThen_ok]
    rw [if_pos (by decide)]
    simp only [Sem.run_bind, e1, in_int, Result.andThen_ok]
    cases (k == k2)
    · simp [Sem.run_pure]
    · simp only [Bool.not_true, Bool.false_eq_true, if_false, Sem.run_pure, Result.andThen_ok]
      rw [if_pos (by decide)]
      simp only [Sem.run_bind, e2, in_int, Result.andThen_ok]
      cases (m == m2)
      · simp [Sem.run_pure]
      · simp only [Bool.not_true, Bool.false_eq_true, if_false, Sem.run_pure, Result.andThen_ok]
        rw [if_pos (by decide)]
        simp only [Sem.run_bind, e3, in_str, Result.andThen_ok]
        cases (t == t2) <;> simp [Sem.run_pure]
theorem ne_ents (x y : Ent) (w : World) : (binOp .neq 57 (.agg x.vals) (.agg y.vals)).run Tryz.prog w = .ok (.bool (!eqV x y)) w := by
  simp only [binOp]
  simp [Op.equal, Op.maxDepth, in_ent 9998]
theorem same_eq {x old : Ent} (hx : entB x = true) (ho : entB old = true) (hp : old.path = x.path) : sameB old x = (old.kind == 1 && eqV x old) := by
  unfold sameB eqV
  cases hk : (old.kind == 1)
  · rfl
  · have hk1 : old.kind = 1 := by simpa using hk
    have hto : old.text.data.toList = [] := by unfold entB at ho; rw [if_pos hk1] at ho; simp only [Bool.and_eq_true] at ho; have := ho.2.2; simpa using this
    rw [hp, hk1]
    cases hkx : (x.kind == 1)
    · simp
    · have hx1 : x.kind = 1 := by simpa using hkx
      have htx : x.text.data.toList = [] := by unfold entB at hx; rw [if_pos hx1] at hx; simp only [Bool.and_eq_true] at hx; have := hx.2.2; simpa using this
      have htt : x.text = old.text := ByteArray.ext (Array.ext' (by rw [htx, hto]))
      have hm : (old.mode == x.mode) = (x.mode == old.mode) := by rw [Bool.eq_iff_iff, beq_iff_eq, beq_iff_eq]; exact ⟨fun h => h.symm, fun h => h.symm⟩
      rw [htt, hm, (beqS_iff _ _).2 rfl, (beqS_iff _ _).2 rfl]
      simp
theorem eqV_eq {x y : Ent} (h : eqV x y = true) : x = y := by
  unfold eqV at h
  simp only [Bool.and_eq_true] at h
  obtain ⟨h1, h2, h3, h4⟩ := h
  have e1 := (beqS_iff _ _).1 h1
  have e4 := (beqS_iff _ _).1 h4
  have e2 := eq_of_beq h2
  have e3 := eq_of_beq h3
  cases x; cases y; dsimp only at e1 e2 e3 e4; subst e1 e2 e3 e4; rfl
theorem put_same {L : List Ent} {x : Ent} (hth : thereE L x.path = true) (he : entFn L (placeE L x.path) = x) : putT L x = L := by
  obtain ⟨old, hold, _⟩ := there_get hth
  rw [entFn_get hold] at he
  subst he
  unfold putT
  rw [hth, if_pos rfl]
  apply List.ext_getElem?
  intro i
  rw [List.getElem?_set]
  split
  · rename_i hi
    subst hi
    rw [if_pos (List.getElem?_eq_some_iff.1 hold).1, hold]
  · rfl
theorem put_new {L : List Ent} {x : Ent} (hth : thereE L x.path = false) : putT L x = insAt L x := by unfold putT; rw [hth]; rfl
def joinL (es fs : List Ent) : List Ent := if okJ es fs then joinTo es fs else []
end Go.Proofs.YtoihhlkidlapmaaGreat

namespace Go.Proofs.YtoihhlkidlapmaaGreat
open Go.RowKit Go.Shelf
end Go.Proofs.YtoihhlkidlapmaaGreat

namespace Go.Proofs.YtoihhlkidlapmaaGreat
open Go.RowKit Go.Shelf
theorem path_uniq {es : List Ent} (h : Up es) {x y : Ent} (hx : x ∈ es) (hy : y ∈ es) (hp : x.path = y.path) : x = y := by
  have h1 := (there_mem h hx).2
  have h2 := (there_mem h hy).2
  rw [← h1, ← h2, hp]
theorem there_iff {es : List Ent} (h : Up es) (p : ByteArray) : thereE es p = true ↔ ∃ x ∈ es, x.path = p := by
  constructor
  · intro ht
    obtain ⟨x, hx, hp⟩ := there_get ht
    exact ⟨x, List.mem_of_getElem? hx, hp⟩
  · rintro ⟨x, hx, rfl⟩
    exact (there_mem h hx).1
theorem there_not {es : List Ent} (h : Up es) {p : ByteArray} (ht : thereE es p = false) : ∀ x ∈ es, x.path ≠ p := fun x hx hp => by
  rw [(there_iff h p).2 ⟨x, hx, hp⟩] at ht; cases ht
def DirIn (es : List Ent) (q : ByteArray) : Prop := q.toList.isEmpty = true ∨ ∃ x ∈ es, x.path = q ∧ x.kind = 1
theorem dir_iff {es : List Ent} (h : Up es) (q : ByteArray) : dirE es q = true ↔ DirIn es q := by
  unfold dirE DirIn
  constructor
  · intro hd
    rw [Bool.or_eq_true] at hd
    rcases hd with hd | hd
    · exact .inl hd
    · rw [Bool.and_eq_true] at hd
      obtain ⟨x, hx, hp⟩ := there_get hd.1
      rw [entFn_get hx] at hd
      exact .inr ⟨x, List.mem_of_getElem? hx, hp, by simpa using hd.2⟩
  · rintro (hd | ⟨x, hx, rfl, hk⟩)
    · rw [hd]; rfl
    · rw [(there_mem h hx).1, (there_mem h hx).2, hk]; simp
theorem tree_iff (es : List Ent) : treeB es = true ↔ (∀ x ∈ es, entB x = true) ∧ Up es ∧ (∀ x ∈ es, DirIn es (upS x.path)) ∧ es.length ≤ 16 := by
  constructor
  · intro h
    have hu := asc_up (tree_asc h)
    exact ⟨tree_all h, hu, fun x hx => (dir_iff hu _).1 (tree_dir h hx), tree_16 h⟩
  · rintro ⟨h1, hu, h3, h4⟩
    unfold treeB
    simp only [Bool.and_eq_true, List.all_eq_true, List.mem_range, decide_eq_true_eq]
    refine ⟨⟨fun i hi => ?_, fun i hi => ?_⟩, h4⟩
    · have hm : entFn es i ∈ es := List.mem_of_getElem? (ent_get hi)
      unfold sortAt
      rw [h1 _ hm, Bool.true_and, Bool.or_eq_true]
      by_cases h0 : i = 0
      · left; simp [h0]
      · right
        have hi1 : i - 1 < es.length := by omega
        have := List.pairwise_iff_getElem.1 hu (i - 1) i hi1 hi (by omega)
        rw [entFn_get (List.getElem?_eq_getElem hi), entFn_get (List.getElem?_eq_getElem hi1)]
        exact this
    · have hm : entFn es i ∈ es := List.mem_of_getElem? (ent_get hi)
      exact (dir_iff hu _).2 (h3 _ hm)
theorem up_ext : ∀ {xs ys : List Ent}, Up xs → Up ys → (∀ x, x ∈ xs ↔ x ∈ ys) → xs = ys
  | [], [], _, _, _ => rfl
  | [], y :: ys, _, _, h => absurd ((h y).2 (by simp)) (by simp)
  | x :: xs, [], _, _, h => absurd ((h x).1 (by simp)) (by simp)
  | x :: xs, y :: ys, hx, hy, h => by
    have hx' := List.pairwise_cons.1 hx
    have hy' := List.pairwise_cons.1 hy
    have hirr : ∀ a : ByteArray, ltS a a = false := fun a => lt_irr _
    have e : x = y := by
      rcases List.mem_cons.1 ((h x).1 (by simp)) with e | hm
      · exact e
      · rcases List.mem_cons.1 ((h y).2 (by simp)) with e | hm2
        · exact e.symm
        · have a := hy'.1 x hm
          have b := hx'.1 y hm2
          have := lt_trans' a b
          rw [hirr] at this; cases this
    subst e
    have : xs = ys := up_ext hx'.2 hy'.2 (fun z => by
      constructor
      · intro hz
        rcases List.mem_cons.1 ((h z).1 (by simp [hz])) with e | hm
        · subst e; have := hx'.1 z hz; rw [hirr] at this; cases this
        · exact hm
      · intro hz
        rcases List.mem_cons.1 ((h z).2 (by simp [hz])) with e | hm
        · subst e; have := hy'.1 z hz; rw [hirr] at this; cases this
        · exact hm)
    rw [this]
theorem putT_iff {es : List Ent} (h : Up es) (e x : Ent) : x ∈ putT es e ↔ x = e ∨ (x ∈ es ∧ x.path ≠ e.path) := by
  unfold putT
  cases ht : thereE es e.path
  · have hno := there_not h ht
    unfold insAt
    simp only [Bool.false_eq_true, if_false, List.mem_append, List.mem_singleton]
    constructor
    · rintro ((hx | hx) | hx)
      · exact .inr ⟨List.mem_of_mem_take hx, hno x (List.mem_of_mem_take hx)⟩
      · exact .inl hx
      · exact .inr ⟨List.mem_of_mem_drop hx, hno x (List.mem_of_mem_drop hx)⟩
    · rintro (hx | ⟨hx, _⟩)
      · exact .inl (.inr hx)
      · rw [← List.take_append_drop (placeE es e.path) es, List.mem_append] at hx
        rcases hx with hx | hx
        · exact .inl (.inl hx)
        · exact .inr hx
  · obtain ⟨old, ho, hop⟩ := there_get ht
    have hol := (List.getElem?_eq_some_iff.1 ho).1
    simp only [if_true]
    constructor
    · intro hx
      have hu : Up (es.set (placeE es e.path) e) := by
        have := putT_up (e := e) h
        unfold putT at this
        rwa [ht, if_pos rfl] at this
      have he : e ∈ es.set (placeE es e.path) e := List.mem_set hol e
      rcases List.mem_or_eq_of_mem_set hx with hm | rfl
      · by_cases hp : x.path = e.path
        · exact .inl (path_uniq hu hx he hp)
        · exact .inr ⟨hm, hp⟩
      · exact .inl rfl
    · rintro (rfl | ⟨hx, hp⟩)
      · exact List.mem_set hol x
      · obtain ⟨i, hi⟩ := List.getElem?_of_mem hx
        have hne : placeE es e.path ≠ i := by
          rintro rfl
          rw [ho] at hi
          cases hi
          exact hp hop
        refine List.mem_of_getElem? (i := i) ?_
        rw [List.getElem?_set, if_neg hne]; exact hi
theorem tree_up {es : List Ent} (h : treeB es = true) : Up es := asc_up (tree_asc h)
end Go.Proofs.YtoihhlkidlapmaaGreat

namespace Go.Proofs.YtoihhlkidlapmaaGreat
open Go.RowKit
theorem eqV_self (x : Ent) : eqV x x = true := by unfold eqV; simp [(beqS_iff _ _).2]
end Go.Proofs.YtoihhlkidlapmaaGreat

namespace Go.Proofs.YtoihhlkidlapmaaGreat
open Go.RowKit Go.Shelf
def Compat (L xs : List Ent) : Prop := ∀ x ∈ xs, ∀ e ∈ L, e.path = x.path → e = x ∧ x.kind = 1
theorem step_iff {L : List Ent} {x : Ent} (hL : Up L) (hb : ∀ e ∈ L, entB e = true) (hx : entB x = true) : stepJ L x = true ↔ ∀ e ∈ L, e.path = x.path → e = x ∧ x.kind = 1 := by
  unfold stepJ
  cases ht : thereE L x.path
  · constructor
    · intro _ e he hp; exact absurd hp (there_not hL ht e he)
    · intro _; rfl
  · obtain ⟨old, ho, hop⟩ := there_get ht
    have hom := List.mem_of_getElem? ho
    rw [entFn_get ho, same_eq hx (hb old hom) hop]
    constructor
    · intro h e he hp
      have he2 : e = old := path_uniq hL he hom (hp.trans hop.symm)
      simp only [Bool.not_true, Bool.false_or, Bool.and_eq_true] at h
      have h2 := eqV_eq h.2
      subst he2
      exact ⟨h2.symm, by rw [h2]; simpa using h.1⟩
    · intro h
      obtain ⟨h1, h2⟩ := h old hom hop
      subst h1
      rw [eqV_self]
      simp [h2]
theorem join_iff : ∀ (xs L : List Ent), Up L → Up xs → (∀ e ∈ L, entB e = true) → (∀ e ∈ xs, entB e = true) →
    (okJ L xs = true ↔ Compat L xs) ∧ (Compat L xs → (∀ x, x ∈ joinTo L xs ↔ x ∈ L ∨ x ∈ xs) ∧ (joinTo L xs).length = L.length + (xs.filter fun x => !thereE L x.path).length)
  | [], L, _, _, _, _ => ⟨⟨(fun _ x hx => by cases hx), (fun _ => rfl)⟩, (fun _ => ⟨(fun x => by simp [joinTo]), (by simp [joinTo])⟩)⟩
  | x :: xs, L, hL, hX, hb, hxb => by
    have hX' := List.pairwise_cons.1 hX
    have hbx := hxb x (by simp)
    have hne : ∀ y ∈ xs, x.path ≠ y.path := fun y hy e => by
      have := hX'.1 y hy
      rw [e, show ltS y.path y.path = false from lt_irr _] at this; cases this
    have hputb : ∀ e ∈ putT L x, entB e = true := fun e he => by
      rcases putT_mem he with h | h
      · exact hb e h
      · rw [h]; exact hbx
    obtain ⟨i1, i2⟩ := join_iff xs (putT L x) (putT_up hL) hX'.2 hputb (fun e he => hxb e (by simp [he]))
    have hs := step_iff hL hb hbx
    have hcc : Compat (putT L x) xs ↔ Compat L xs := by
      constructor
      · intro h y hy e he hp
        exact h y hy e ((putT_iff hL x e).2 (.inr ⟨he, fun e2 => hne y hy (e2.symm.trans hp)⟩)) hp
      · intro h y hy e he hp
        rcases (putT_iff hL x e).1 he with rfl | ⟨he, _⟩
        · exact absurd hp (hne y hy)
        · exact h y hy e he hp
    have hcons : Compat L (x :: xs) ↔ (∀ e ∈ L, e.path = x.path → e = x ∧ x.kind = 1) ∧ Compat L xs := by
      constructor
      · intro h; exact ⟨h x (by simp), fun y hy => h y (by simp [hy])⟩
      · rintro ⟨h1, h2⟩ y hy
        rcases List.mem_cons.1 hy with rfl | hy
        · exact h1
        · exact h2 y hy
    refine ⟨?_, fun hc => ?_⟩
    · rw [okJ, Bool.and_eq_true, hs, i1, hcc, hcons]
    · obtain ⟨c1, c2⟩ := hcons.1 hc
      obtain ⟨j1, j2⟩ := i2 (hcc.2 c2)
      have hmem : ∀ y, y ∈ putT L x ↔ y ∈ L ∨ y = x := fun y => by
        rw [putT_iff hL]
        constructor
        · rintro (h | ⟨h, _⟩)
          · exact .inr h
          · exact .inl h
        · rintro (h | h)
          · by_cases e : y.path = x.path
            · exact .inl (c1 y h e).1
            · exact .inr ⟨h, e⟩
          · exact .inl h
      have hthere : ∀ y ∈ xs, thereE (putT L x) y.path = thereE L y.path := fun y hy => by
        rw [Bool.eq_iff_iff, there_iff (putT_up hL), there_iff hL]
        constructor
        · rintro ⟨e, he, hp⟩
          rcases (hmem e).1 he with h | h
          · exact ⟨e, h, hp⟩
          · subst h; exact absurd hp (hne y hy)
        · rintro ⟨e, he, hp⟩
          exact ⟨e, (hmem e).2 (.inl he), hp⟩
      refine ⟨fun y => ?_, ?_⟩
      · show y ∈ joinTo (putT L x) xs ↔ _
        rw [j1, hmem, List.mem_cons, or_assoc]
      · show (joinTo (putT L x) xs).length = _
        rw [j2]
        have hf : (xs.filter fun y => !thereE (putT L x) y.path) = xs.filter fun y => !thereE L y.path := List.filter_congr (fun y hy => by rw [hthere y hy])
        rw [hf, List.filter_cons]
        unfold putT
        cases ht : thereE L x.path
        · simp only [Bool.false_eq_true, if_false, Bool.not_false, if_true]
          rw [insAt_len]; simp; omega
        · simp
end Go.Proofs.YtoihhlkidlapmaaGreat

namespace Go.Proofs.YtoihhlkidlapmaaGreat
open Go.RowKit
abbrev It (K : CK) := List Value × K.D × List Nat
def itCells {K : CK} (L : List (It K)) : List Value := L.flatMap (fun t => t.1)
def itD {K : CK} (L : List (It K)) : List K.D := L.map (fun t => t.2.1)
def itF {K : CK} (L : List (It K)) : List Nat := L.flatMap (fun t => t.2.2)
theorem itCells_app {K : CK} (A B : List (It K)) : itCells (A ++ B) = itCells A ++ itCells B := by simp [itCells]
theorem itD_app {K : CK} (A B : List (It K)) : itD (A ++ B) = itD A ++ itD B := by simp [itD]
theorem itF_app {K : CK} (A B : List (It K)) : itF (A ++ B) = itF A ++ itF B := by simp [itF]
theorem itD_len {K : CK} (A : List (It K)) : (itD A).length = A.length := by simp [itD]
theorem itD_take {K : CK} (A : List (It K)) (k : Nat) : itD (A.take k) = (itD A).take k := by simp [itD]
theorem itD_drop {K : CK} (A : List (It K)) (k : Nat) : itD (A.drop k) = (itD A).drop k := by simp [itD]
structure Items (K : CK) (W : World) (N : Nat) (L : List (It K)) : Prop where
  each : ∀ t ∈ L, K.own W t.1 t.2.1 t.2.2
  nodup : (itF L).Nodup
  base : ∀ k ∈ itF L, N ≤ k
theorem mem_itF {K : CK} {L : List (It K)} {t : It K} (ht : t ∈ L) {k : Nat} (hk : k ∈ t.2.2) : k ∈ itF L := List.mem_flatMap.2 ⟨t, ht, hk⟩
theorem Items.lt {K : CK} {W : World} {N : Nat} {L : List (It K)} (h : Items K W N L) : ∀ k ∈ itF L, k < W.heap.size := by
  intro k hk
  obtain ⟨t, ht, hk⟩ := List.mem_flatMap.1 hk
  exact K.lt (h.each t ht) k hk
theorem Items.frame {K : CK} {W W' : World} {N : Nat} {L : List (It K)} (h : Items K W N L) (hf : ∀ k ∈ itF L, W'.heap[k]? = W.heap[k]?) : Items K W' N L :=
  ⟨fun t ht => K.frame (h.each t ht) (fun k hk => hf k (mem_itF ht hk)), h.nodup, h.base⟩
theorem Items.nil {K : CK} (W : World) (N : Nat) : Items K W N ([] : List (It K)) := ⟨fun t ht => (by cases ht), List.nodup_nil, fun k hk => (by cases hk)⟩
theorem itCells_len {K : CK} {W : World} {N : Nat} {L : List (It K)} (h : Items K W N L) : (itCells L).length = L.length * K.n := by
  have h1 := h.each
  clear h
  induction L with
  | nil => simp [itCells]
  | cons t L ih =>
    have := ih (fun t ht => h1 t (List.mem_cons_of_mem _ ht))
    have h2 := K.len (h1 t (by simp))
    simp only [itCells, List.flatMap_cons, List.length_append, List.length_cons] at *
    rw [this, h2, Nat.add_mul]; omega
theorem itF_sub {K : CK} {A B : List (It K)} (h : A.Sublist B) : (itF A).Sublist (itF B) := by
  induction h with
  | slnil => exact List.Sublist.refl _
  | cons a _ ih => exact ih.trans (List.sublist_append_right _ _)
  | cons_cons a _ ih => exact List.Sublist.append (List.Sublist.refl _) ih
theorem Items.sub {K : CK} {W : World} {N : Nat} {A B : List (It K)} (h : Items K W N B) (hs : A.Sublist B) : Items K W N A :=
  ⟨fun t ht => h.each t (hs.subset ht), h.nodup.sublist (itF_sub hs), fun k hk => by
    obtain ⟨t, ht, hk⟩ := List.mem_flatMap.1 hk
    exact h.base k (mem_itF (hs.subset ht) hk)⟩
theorem Items.snoc {K : CK} {W : World} {N M : Nat} {L : List (It K)} {cs : List Value} {d : K.D} {F : List Nat} (h : Items K W N L) (hown : K.own W cs d F) (hM : ∀ k ∈ itF L, k < M) (hF : ∀ k ∈ F, M ≤ k) (hNM : N ≤ M) : Items K W N (L ++ [(cs, d, F)]) := by
  refine ⟨fun t ht => ?_, ?_, fun k hk => ?_⟩
  · rcases List.mem_append.1 ht with ht | ht
    · exact h.each t ht
    · rcases List.mem_singleton.1 ht with rfl; exact hown
  · rw [itF_app]
    refine List.nodup_append.2 ⟨h.nodup, ?_, fun x hx y hy e => ?_⟩
    · simpa [itF] using K.nodup hown
    · subst e
      have h1 := hM x hx
      have h2 := hF x (by simpa [itF] using hy)
      omega
  · rw [itF_app] at hk
    rcases List.mem_append.1 hk with hk | hk
    · exact h.base k hk
    · have := hF k (by simpa [itF] using hk); omega
theorem itCells_get {K : CK} : ∀ {L : List (It K)}, (∀ t ∈ L, t.1.length = K.n) → ∀ (i : Nat) (t : It K), L[i]? = some t → ∀ j, j < K.n → (itCells L)[i * K.n + j]? = t.1[j]?
  | [], _, i, t, h, _, _ => by cases h
  | x :: L, hl, 0, t, h, j, hj => by
    simp at h; subst h
    show (x.1 ++ itCells L)[0 * K.n + j]? = _
    rw [Nat.zero_mul, Nat.zero_add, List.getElem?_append_left (by rw [hl x (by simp)]; exact hj)]
  | x :: L, hl, i + 1, t, h, j, hj => by
    have hx := hl x (by simp)
    show (x.1 ++ itCells L)[(i + 1) * K.n + j]? = _
    have e : (i + 1) * K.n = i * K.n + K.n := by rw [Nat.add_mul, Nat.one_mul]
    rw [List.getElem?_append_right (by omega), hx, show (i + 1) * K.n + j - K.n = i * K.n + j by omega]
    exact itCells_get (fun t ht => hl t (List.mem_cons_of_mem _ ht)) i t (by simpa using h) j hj
structure NRow (K : CK) (ty : Nat) (W : World) (N : Nat) (v : Value) (L : List (It K)) : Prop where
  row : W.ownsRow N ty K.n v L.length (itCells L)
  items : Items K W N L
  apart : ∀ g, v.ownBlock = some g → g ∉ itF L
theorem NRow.own {K : CK} {ty : Nat} {W : World} {N : Nat} {v : Value} {L : List (It K)} (h : NRow K ty W N v L) : ∃ F, rowOwn K ty W v (itD L) F ∧ ∀ k ∈ F, N ≤ k ∧ k < W.heap.size := by
  rcases h.row.2 with ⟨rfl, h0⟩ | ⟨g, cap, cur, hv, hN, hg, hc, _, hsz, hcells⟩
  · have : L = [] := List.length_eq_zero_iff.1 h0
    subst this
    exact ⟨[], .inl ⟨rfl, rfl, none, 0, rfl, fun _ => rfl⟩, fun k hk => by cases hk⟩
  · have hF : (L.map (fun t => t.2.2)).flatten = itF L := by simp [itF, List.flatMap]
    have hap : g ∉ itF L := h.apart g (by rw [hv]; rfl)
    have hgl := (Array.getElem?_eq_some_iff.1 hg).1
    refine ⟨g :: itF L, .inr ⟨g, cap, cur, L.map (fun t => t.2.2), by rw [itD_len]; exact hv, by rw [itD_len]; exact hc, by rw [hF], List.nodup_cons.2 ⟨hap, h.items.nodup⟩, ⟨hg, by rw [itD_len, hsz]; exact Nat.mul_le_mul_right _ hc, by rw [itD_len, List.length_map], fun i d hi => ?_⟩⟩, fun k hk => ?_⟩
    · unfold itD at hi
      rw [List.getElem?_map] at hi
      cases ht : L[i]? with
      | none => rw [ht] at hi; cases hi
      | some t =>
        rw [ht] at hi
        simp at hi
        subst hi
        have hm : t ∈ L := List.mem_of_getElem? ht
        have hown := h.items.each t hm
        refine ⟨t.1, t.2.2, by rw [List.getElem?_map, ht]; rfl, fun j c hj => ?_, hown⟩
        have hjn : j < K.n := by rw [← K.len hown]; exact (List.getElem?_eq_some_iff.1 hj).1
        have h1 := itCells_get (fun t ht => K.len (h.items.each t ht)) i t ht j hjn
        rw [hj, ← hcells] at h1
        have hil : i < L.length := (List.getElem?_eq_some_iff.1 ht).1
        have : (i + 1) * K.n ≤ L.length * K.n := Nat.mul_le_mul_right _ hil
        rw [Nat.add_mul, Nat.one_mul] at this
        rw [List.getElem?_take_of_lt (by omega), Array.getElem?_toList] at h1
        exact h1
    · rcases List.mem_cons.1 hk with rfl | hk
      · exact ⟨hN, hgl⟩
      · exact ⟨h.items.base k hk, h.items.lt k hk⟩
theorem NRow.frame {K : CK} {ty : Nat} {W W' : World} {N : Nat} {v : Value} {L : List (It K)} (h : NRow K ty W N v L) (hf : ∀ k, (v.ownBlock = some k ∨ k ∈ itF L) → W'.heap[k]? = W.heap[k]?) : NRow K ty W' N v L := by
  refine ⟨⟨h.row.1, ?_⟩, h.items.frame (fun k hk => hf k (.inr hk)), h.apart⟩
  rcases h.row.2 with h1 | ⟨g, cap, cur, hv, hN, hg, hr⟩
  · exact .inl h1
  · exact .inr ⟨g, cap, cur, hv, hN, by rw [hf g (.inl (by rw [hv]; rfl))]; exact hg, hr⟩
theorem NRow.base {K : CK} {ty : Nat} {W : World} {N : Nat} {v : Value} {L : List (It K)} (h : NRow K ty W N v L) : ∀ k, (v.ownBlock = some k ∨ k ∈ itF L) → N ≤ k ∧ k < W.heap.size := by
  intro k hk
  rcases hk with hk | hk
  · rcases h.row.2 with ⟨rfl, _⟩ | ⟨g, cap, cur, rfl, hN, hg, _⟩
    · cases hk
    · have : g = k := by simpa [Value.ownBlock] using hk
      subst this
      exact ⟨hN, (Array.getElem?_eq_some_iff.1 hg).1⟩
  · exact ⟨h.items.base k hk, h.items.lt k hk⟩
theorem leaf_items {K : CK} (hleaf : ∀ {W W' : World} {cs : List Value} {d : K.D}, K.at_ W cs d → K.own W' cs d []) {W : World} {v : Value} {ds : List K.D} (h : rowAt K W v ds) : ∃ (a : Option Addr) (cap : Nat) (L : List (It K)), v = .slice a ds.length cap ∧ (a = none → cap = 0) ∧ itD L = ds ∧ L.length = ds.length ∧ itF L = [] ∧ (∀ W' N, Items K W' N L) ∧ (ds = [] ∨ ∃ b o, a = some ⟨b, o, none⟩ ∧ b < W.heap.size ∧ ∀ j u, (itCells L)[j]? = some u → W.cell? ⟨b, o + j, none⟩ = some u) := by
  obtain ⟨a, cap, hv, hn, hc, h⟩ := h
  rcases h with rfl | ⟨b, o, ha, hb, h⟩
  · exact ⟨a, cap, [], hv, hn, rfl, rfl, rfl, fun W' N => Items.nil W' N, .inl rfl⟩
  · have key : ∀ (es : List K.D) (s : Nat), (∀ (i : Nat) d, es[i]? = some d → ∃ cs, K.at_ W cs d ∧ ∀ j c, cs[j]? = some c → W.cell? ⟨b, s + i * K.n + j, none⟩ = some c) → ∃ L : List (It K), itD L = es ∧ L.length = es.length ∧ itF L = [] ∧ (∀ W' N, Items K W' N L) ∧ ∀ j u, (itCells L)[j]? = some u → W.cell? ⟨b, s + j, none⟩ = some u := by
      intro es
      induction es with
      | nil => intro s _; exact ⟨[], rfl, rfl, rfl, fun W' N => Items.nil W' N, fun j u hj => by cases hj⟩
      | cons e es ih =>
        intro s hs
        obtain ⟨cs, h1, h2⟩ := hs 0 e rfl
        obtain ⟨L, g1, g2, g3, g4, g5⟩ := ih (s + K.n) (fun i d hi => by
          obtain ⟨cs, q1, q2⟩ := hs (i + 1) d (by simpa using hi)
          refine ⟨cs, q1, fun j c hj => ?_⟩
          have := q2 j c hj
          rw [Nat.add_mul, Nat.one_mul] at this
          rw [← this]; congr 2; omega)
        have hl := K.alen h1
        refine ⟨(cs, e, []) :: L, by show e :: itD L = _; rw [g1], by simp [g2], by show [] ++ itF L = []; rw [g3]; rfl, fun W' N => ⟨fun t ht => ?_, by show ([] ++ itF L).Nodup; rw [g3]; exact List.nodup_nil, fun k hk => by rw [show itF ((cs, e, []) :: L) = [] ++ itF L from rfl, g3] at hk; cases hk⟩, fun j u hj => ?_⟩
        · rcases List.mem_cons.1 ht with rfl | ht
          · exact hleaf h1
          · exact (g4 W' N).each t ht
        · rw [show itCells ((cs, e, []) :: L) = cs ++ itCells L from rfl] at hj
          rcases Nat.lt_or_ge j cs.length with hjl | hjl
          · rw [List.getElem?_append_left hjl] at hj
            have := h2 j u hj
            rwa [Nat.zero_mul, Nat.add_zero] at this
          · rw [List.getElem?_append_right hjl] at hj
            have := g5 _ _ hj
            rw [hl] at this hjl
            rw [← this]; congr 2; omega
    obtain ⟨L, g1, g2, g3, g4, g5⟩ := key ds o h
    exact ⟨a, cap, L, hv, hn, g1, g2, g3, g4, .inr ⟨b, o, ha, hb, g5⟩⟩
end Go.Proofs.YtoihhlkidlapmaaGreat

namespace Go.Proofs.YtoihhlkidlapmaaGreat
open Go.RowKit Go.Shelf
structure ET (K : CK) (t e : Nat) : Prop where
  ex : ∃ (i : TypeInfo) (z : Value) (bytes : Nat), Tryz.prog.underlying t = some (.slice e) ∧ Tryz.prog.info? e = some i ∧ i.zero = some z ∧ i.size = K.n ∧ i.bytes = bytes ∧ z.cells.size = K.n ∧ 0 < K.n ∧ bytes ≤ 1000
theorem etNeed : ET needC 31 36 := by
  obtain ⟨i0, hi, hz0, hz1, hz2⟩ := info_parts vinfoNeed
  exact ⟨⟨i0, _, 40, Tryz.underlying31, hi, hz0, hz1, hz2, rfl, by decide, by decide⟩⟩
theorem etEntry : ET entryC 32 57 := by
  obtain ⟨i0, hi, hz0, hz1, hz2⟩ := info_parts vinfoEntry
  exact ⟨⟨i0, _, 48, Tryz.underlying32, hi, hz0, hz1, hz2, rfl, by decide, by decide⟩⟩
theorem etPack : ET packC 23 34 := by
  obtain ⟨i0, hi, hz0, hz1, hz2⟩ := info_parts vinfoPack
  exact ⟨⟨i0, _, 80, Tryz.underlying23, hi, hz0, hz1, hz2, rfl, by decide, by decide⟩⟩
theorem needLeaf {W W' : World} {cs : List Value} {d : needC.D} (h : needC.at_ W cs d) : needC.own W' cs d [] := needC_mk ⟨needC_at h, rfl⟩
theorem entryLeaf {W W' : World} {cs : List Value} {d : entryC.D} (h : entryC.at_ W cs d) : entryC.own W' cs d [] := entryC_mk ⟨entryC_at h, rfl⟩
def OneC (K : CK) : Prop := ∀ (W : World) (cs : List Value) (d : K.D) (F : List Nat), K.own W cs d F → ∀ u ∈ cs, u.oneCell' = true
theorem oneNeed : OneC needC := fun W cs d F h u hu => by
  obtain ⟨rfl, _⟩ := needC_own h
  simp at hu
  rcases hu with rfl | rfl | rfl <;> rfl
theorem oneEntry : OneC entryC := fun W cs d F h u hu => by
  obtain ⟨rfl, _⟩ := entryC_own h
  simp at hu
  rcases hu with rfl | rfl | rfl | rfl <;> rfl
theorem onePack : OneC packC := fun W cs d F h u hu => by
  obtain ⟨v2, v3, F2, F3, rfl, _, h2, h3, _⟩ := packC_own h
  obtain ⟨a2, c2, rfl⟩ := rowOwn.slice h2
  obtain ⟨a3, c3, rfl⟩ := rowOwn.slice h3
  simp at hu
  rcases hu with rfl | rfl | rfl | rfl <;> rfl
theorem itCells_one {K : CK} (h1 : OneC K) {W : World} {N : Nat} {L : List (It K)} (h : Items K W N L) : ∀ u ∈ itCells L, u.oneCell' = true := fun u hu => by
  obtain ⟨t, ht, hu⟩ := List.mem_flatMap.1 hu
  exact h1 W t.1 t.2.1 t.2.2 (h.each t ht) u hu
theorem add_plainR (b o n : Nat) : (⟨b, o, none⟩ : Addr).add n = ⟨b, o + n, none⟩ := by simp [Addr.add]
theorem app_items {K : CK} {t e : Nat} (hET : ET K t e) (h1 : OneC K) (w : World) (ty N : Nat) (v : Value) (L M : List (It K)) (b o c : Nat) (h : NRow K e w N v L) (hM : Items K w N (L ++ M)) (hap : ∀ g, v.ownBlock = some g → g ∉ itF M) (hcell : ∀ j u, (itCells M)[j]? = some u → w.cell? ⟨b, o + j, none⟩ = some u) (hn : L.length + M.length ≤ 4194304) (hN : N ≤ w.heap.size) :
    ∃ v' w', (Builtin.append_ #[t, t] ty #[v, .slice (some ⟨b, o, none⟩) M.length c]).run Tryz.prog w = .ok v' w' ∧ NRow K e w' N v' (L ++ M) ∧ w.grownBy w' v.ownBlock ∧ (v'.ownBlock = v.ownBlock ∨ v'.ownBlock = some w.heap.size) ∧ (v' = .slice none 0 0 ↔ v = .slice none 0 0 ∧ M.length = 0) := by
  obtain ⟨i, z, bytes, ht, hi, hz, hs, hb, hzs, hn0, hbs⟩ := hET.ex
  have hMi : Items K w N M := hM.sub (List.sublist_append_right L M)
  have hbb : (L.length + M.length) * bytes ≤ 140737488355328 := Nat.le_trans (Nat.mul_le_mul hn hbs) (by decide)
  obtain ⟨v', w', hr, q1, q2, q3, q4⟩ := run_append_own_at (P := Tryz.prog) w N t ty e i z K.n bytes ht hi hz hs hb hzs hn0 v L.length (itCells L) h.row ⟨b, o, none⟩ M.length c (itCells M) (itCells_len hMi) (fun j u hj => by rw [add_plainR]; exact hcell j u hj) (itCells_one h1 hMi) (by unfold maxLen; omega) hbb hN
  have hav : ∀ g, v.ownBlock = some g → g ∉ itF (L ++ M) := fun g hg => by
    rw [itF_app]; exact not_app (h.apart g hg) (hap g hg)
  refine ⟨v', w', hr, ⟨by rw [List.length_append, itCells_app]; exact q1, hM.frame (fun k hk => q2.block k (hM.lt k hk) (fun e => hav k e.symm hk)), fun g hg => ?_⟩, q2, q4, q3⟩
  rcases q4 with e | e
  · exact hav g (by rw [← e]; exact hg)
  · intro hk
    rw [e] at hg
    have := hM.lt g hk
    simp at hg
    omega
theorem NRow.empty {K : CK} {e : Nat} (w : World) (N : Nat) (hN : N ≤ w.heap.size) : NRow K e (w.alloc (.cells #[] e)) N (.slice (some ⟨w.heap.size, 0, none⟩) 0 0) [] :=
  ⟨⟨by simp [itCells], .inr ⟨w.heap.size, 0, #[], rfl, hN, World.alloc_heap_new _ _, Nat.le_refl _, Nat.zero_le _, by simp, by simp [itCells]⟩⟩, Items.nil _ _, fun g _ hk => by cases hk⟩
theorem NRow.none {K : CK} {e : Nat} (w : World) (N : Nat) : NRow K e w N (.slice .none 0 0) [] :=
  ⟨⟨by simp [itCells], .inl ⟨rfl, rfl⟩⟩, Items.nil _ _, fun g _ hk => by cases hk⟩
def RowMade (K : CK) (e : Nat) (w : World) (ds : List K.D) (v : Value) (w' : World) : Prop := (∃ F, rowOwn K e w' v ds F ∧ ∀ k ∈ F, w.heap.size ≤ k ∧ k < w'.heap.size) ∧ Below w.heap.size w w'
theorem app_leaf {K : CK} {t e : Nat} (hET : ET K t e) (h1 : OneC K) (hleaf : ∀ {W W' : World} {cs : List Value} {d : K.D}, K.at_ W cs d → K.own W' cs d []) (w : World) (ty : Nat) (v : Value) (ds : List K.D) (h : rowAt K w v ds) (hn : ds.length ≤ 4194304) :
    ∃ v' w', (Builtin.append_ #[t, t] ty #[.slice (some ⟨w.heap.size, 0, none⟩) 0 0, v]).run Tryz.prog (w.alloc (.cells #[] e)) = .ok v' w' ∧ (∃ F, rowOwn K e w' v' ds F ∧ ∀ k ∈ F, w.heap.size ≤ k ∧ k < w'.heap.size) ∧ Below w.heap.size w w' := by
  have hB1 : Below w.heap.size w (w.alloc (.cells #[] e)) := (Below.refl _ w).alloc (Nat.le_refl _) _
  have hE := NRow.empty (K := K) (e := e) w w.heap.size (Nat.le_refl _)
  obtain ⟨a, cap, L, rfl, hcn, rfl, hl, hF, hI, hcell⟩ := leaf_items hleaf h
  cases a with
  | none =>
    have h0 : itD L = [] := by
      rcases hcell with h | ⟨b, o, e, _⟩
      · exact h
      · cases e
    obtain rfl := hcn rfl
    obtain ⟨i, z, bytes, ht, hi, hz, hs, hb, hzs, hn0, hbs⟩ := hET.ex
    rw [h0]
    refine ⟨.slice (some ⟨w.heap.size, 0, none⟩) 0 0, _, run_append_owned_none (P := Tryz.prog) (w.alloc (.cells #[] e)) w.heap.size t ty e i K.n ht hi _ _ _ hE.row, hE.own, hB1⟩
  | some ad =>
    rcases hcell with h0 | ⟨b, o, e1, hb, hcell⟩
    · have hL0 : L = [] := by
        rw [← List.length_eq_zero_iff, hl, h0]; rfl
      subst hL0
      obtain ⟨i, z, bytes, ht, hi, hz, hs, hbb, hzs, hn0, hbs⟩ := hET.ex
      obtain ⟨v', w', hr, q1, q2, q3, q4⟩ := run_append_own_at (P := Tryz.prog) (w.alloc (.cells #[] e)) w.heap.size t ty e i z K.n bytes ht hi hz hs hbb hzs hn0 _ 0 (itCells (K := K) []) hE.row ad 0 cap [] (by simp) (fun j u hj => by simp at hj) (fun u hu => by simp at hu) (by unfold maxLen; omega) (by omega) hB1.size
      refine ⟨v', w', hr, NRow.own (L := []) ⟨by simpa [itCells] using q1, Items.nil _ _, fun g _ hk => by cases hk⟩, hB1.grown q2 hB1.size (fun k hk => by simp [Value.ownBlock] at hk; omega)⟩
    · cases e1
      obtain ⟨v', w', hr, q1, q2, q3, q4⟩ := app_items hET h1 (w.alloc (.cells #[] e)) ty w.heap.size _ [] L b o cap hE (by rw [List.nil_append]; exact hI _ _) (fun g _ hk => by rw [hF] at hk; cases hk) (fun j u hj => (hB1.cell (p := ⟨b, o + j, none⟩) hb).trans (hcell j u hj)) (by simp; omega) hB1.size
      rw [hl] at hr
      exact ⟨v', w', hr, q1.own, hB1.grown q2 hB1.size (fun k hk => by simp [Value.ownBlock] at hk; omega)⟩
theorem wp_leaf {K : CK} {t e : Nat} (hET : ET K t e) (h1 : OneC K) (hleaf : ∀ {W W' : World} {cs : List Value} {d : K.D}, K.at_ W cs d → K.own W' cs d []) {ops : Array Oper} {rest : List Oper} {o : Oper} {a : Act} (w : World) {Q : Exit → Act → World → Prop} (hgd : o.guard = none) (s x : Operand) (ho : o.op = .call { callee := .builtin .append, args := #[s, x], argTypes := #[t, t] })
    (v : Value) (ds : List K.D) (h : rowAt K w v ds) (hn : ds.length ≤ 4194304) (hs : a.eval s = .slice (some ⟨w.heap.size, 0, none⟩) 0 0) (hx : a.eval x = v)
    (hk : ∀ v' w', RowMade K e w ds v' w' → wpList Tryz.prog ops Q rest (a.put o.dst v') w') : wpList Tryz.prog ops Q (o :: rest) a (w.alloc (.cells #[] e)) := by
  refine wpList_plain hgd fun K' hK => ?_
  obtain ⟨v', w', hr, h2, h3⟩ := app_leaf hET h1 hleaf w o.type v ds h hn
  unfold Oper.wp execOp
  simp only [ho, resolve, invoke, builtin, Sem.run_bind, Sem.run_pure, Result.andThen_ok, List.map_toArray, List.map_cons, List.map_nil, hs, hx, hr]
  exact hK _ _ (hk v' w' ⟨h2, h3⟩)
end Go.Proofs.YtoihhlkidlapmaaGreat

namespace Go.Proofs.YtoihhlkidlapmaaGreat
open Go.RowKit Go.Shelf
def Copied (K : CK) (e : Nat) (w : World) (ds : List K.D) (x : Ending) (w' : World) : Prop := ∃ v, x = .returned v ∧ RowMade K e w ds v w'
theorem rowAt_slice {K : CK} {W : World} {v : Value} {ds : List K.D} (h : rowAt K W v ds) : ∃ a c, v = .slice a ds.length c ∧ (a = none → c = 0) ∧ (a = none → ds = []) := by
  obtain ⟨a, c, hv, hn, _, h⟩ := h
  refine ⟨a, c, hv, hn, fun e => ?_⟩
  rcases h with h | ⟨b, o, e2, _⟩
  · exact h
  · rw [e] at e2; cases e2
set_option maxRecDepth 100000 in
set_option maxHeartbeats 1000000 in
theorem eq_nilNeed (a : Option Addr) (l c : Nat) (w : World) : (binOp .eql 31 (.slice a l c) (.slice none 0 0)).run Tryz.prog w = .ok (.bool a.isNone) w := by
  simp only [binOp]
  simp [run_equal_slice_nil _ _ _ _ _ _ Tryz.underlying31]
set_option maxRecDepth 100000 in
set_option maxHeartbeats 1000000 in
theorem eq_nilEntry (a : Option Addr) (l c : Nat) (w : World) : (binOp .eql 32 (.slice a l c) (.slice none 0 0)).run Tryz.prog w = .ok (.bool a.isNone) w := by
  simp only [binOp]
  simp [run_equal_slice_nil _ _ _ _ _ _ Tryz.underlying32]
set_option maxRecDepth 100000 in
set_option maxHeartbeats 1000000 in
theorem cloneNeedS_any (ds : List needC.D) (v : Value) (w : World) (hn : ds.length ≤ 4194304) (h : rowAt needC w v ds) : Calls Tryz.prog 214 #[v] w (Copied needC 36 w ds) := by
  obtain ⟨i0, hi0, hz0, hzs, hzb⟩ := info_parts vinfoNeed
  obtain ⟨a, c, rfl, h1, h2⟩ := rowAt_slice h
  cases a with
  | none =>
    obtain rfl := h1 rfl
    obtain rfl := h2 rfl
    have hq := fun w => eq_nilNeed none 0 0 w
    go_enter Tryz.func214, Tryz.ntmps214
    go_wp2_with fail
    go_ret
    exact ⟨_, rfl, ⟨[], .inl ⟨rfl, rfl, none, 0, rfl, fun _ => rfl⟩, fun k hk => (by cases hk)⟩, Below.refl _ _⟩
  | some ad =>
    have H := hid h
    clear h h1 h2
    have hq := fun w => eq_nilNeed (some ad) ds.length c w
    go_enter Tryz.func214, Tryz.ntmps214
    go_wp2_with (at_builtin; refine wp_leaf etNeed oneNeed needLeaf w rfl _ _ rfl _ ds (unhid H) hn rfl rfl ?_)
    intro v' w1 HF
    go_wp2_with fail
    go_ret
    exact ⟨_, rfl, HF⟩
set_option maxRecDepth 100000 in
set_option maxHeartbeats 1000000 in
theorem cloneEntryS_any (ds : List entryC.D) (v : Value) (w : World) (hn : ds.length ≤ 4194304) (h : rowAt entryC w v ds) : Calls Tryz.prog 215 #[v] w (Copied entryC 57 w ds) := by
  obtain ⟨i0, hi0, hz0, hzs, hzb⟩ := info_parts vinfoEntry
  obtain ⟨a, c, rfl, h1, h2⟩ := rowAt_slice h
  cases a with
  | none =>
    obtain rfl := h1 rfl
    obtain rfl := h2 rfl
    have hq := fun w => eq_nilEntry none 0 0 w
    go_enter Tryz.func215, Tryz.ntmps215
    go_wp2_with fail
    go_ret
    exact ⟨_, rfl, ⟨[], .inl ⟨rfl, rfl, none, 0, rfl, fun _ => rfl⟩, fun k hk => (by cases hk)⟩, Below.refl _ _⟩
  | some ad =>
    have H := hid h
    clear h h1 h2
    have hq := fun w => eq_nilEntry (some ad) ds.length c w
    go_enter Tryz.func215, Tryz.ntmps215
    go_wp2_with (at_builtin; refine wp_leaf etEntry oneEntry entryLeaf w rfl _ _ rfl _ ds (unhid H) hn rfl rfl ?_)
    intro v' w1 HF
    go_wp2_with fail
    go_ret
    exact ⟨_, rfl, HF⟩
set_option maxRecDepth 100000 in
set_option maxHeartbeats 1000000 in
theorem l2CopyR_any (ds : List entryC.D) (v : Value) (w : World) (hn : ds.length ≤ 4194304) (h : rowAt entryC w v ds) : Calls Tryz.prog 160 #[v] w (Copied entryC 57 w ds) := by
  obtain ⟨i0, hi0, hz0, hzs, hzb⟩ := info_parts vinfoEntry
  obtain ⟨a, c, rfl, _, _⟩ := rowAt_slice h
  have H := hid h
  clear h
  go_enter Tryz.func160, Tryz.ntmps160
  go_wp2_with (at_builtin; refine wp_leaf etEntry oneEntry entryLeaf w rfl _ _ rfl _ ds (unhid H) hn rfl rfl ?_)
  intro v' w1 HF
  go_wp2_with fail
  go_ret
  exact ⟨_, rfl, HF⟩
end Go.Proofs.YtoihhlkidlapmaaGreat

namespace Go.Proofs.YtoihhlkidlapmaaGreat
open Go.RowKit Go.Shelf
def PackMade (w : World) (d : packC.D) (x : Ending) (w' : World) : Prop := ∃ (cs' : List Value) (F : List Nat), x = .returned (.agg cs'.toArray) ∧ packC.own w' cs' d F ∧ (∀ k ∈ F, w.heap.size ≤ k ∧ k < w'.heap.size) ∧ Below w.heap.size w w'
theorem two_boxesP (w : World) (p r : Obj) : ((w.alloc p).alloc r).heap[w.heap.size]? = some p ∧ ((w.alloc p).alloc r).heap[w.heap.size + 1]? = some r ∧ w.heap.size + 1 < ((w.alloc p).alloc r).heap.size ∧ Below w.heap.size w ((w.alloc p).alloc r) := by
  have s1 : (w.alloc p).heap.size = w.heap.size + 1 := by simp
  have b1 := (Below.refl (w.alloc p).heap.size (w.alloc p)).alloc (Nat.le_refl _) r
  have n0 := World.alloc_heap_new w p
  have n1 := World.alloc_heap_new (w.alloc p) r
  rw [s1] at n1
  exact ⟨by rw [b1.block _ (by omega)]; exact n0, n1, by simp, ((Below.refl _ w).alloc (Nat.le_refl _) p).alloc (by simp) r⟩
set_option maxRecDepth 100000 in
set_option maxHeartbeats 4000000 in
theorem clonePack_any (d : packC.D) (cs : List Value) (w : World) (hs : (PackD.needs d).length ≤ 4194304 ∧ (PackD.tree d).length ≤ 4194304) (h : packC.at_ w cs d) : Calls Tryz.prog 144 #[.agg cs.toArray] w (PackMade w d) := by
  obtain ⟨v2, v3, rfl, h2, h3⟩ := packC_at h
  obtain ⟨name, version, needs, tree⟩ := d
  obtain ⟨hs2, hs3⟩ := hs
  dsimp only at *
  have H2 := hid h2
  have H3 := hid h3
  clear h h2 h3
  go_enter Tryz.func144, Tryz.ntmps144
  go_wp2_with fail
  obtain ⟨hP, hR, hS, hB⟩ := two_boxesP w (.cells #[.string name, .string version, v2, v3] 34) (.cells #[.string ⟨#[]⟩, .string ⟨#[]⟩, .slice none 0 0, .slice none 0 0] 34)
  generalize (w.alloc (.cells #[.string name, .string version, v2, v3] 34)).alloc (.cells #[.string ⟨#[]⟩, .string ⟨#[]⟩, .slice none 0 0, .slice none 0 0] 34) = W0 at hP hR hS hB ⊢
  have JP := hid hP
  have JR := hid hR
  have JS := hid hS
  have JB := hid hB
  clear hP hR hS hB
  refine (cloneNeedS_any needs v2 W0 hs2 ((unhid H2).below (unhid JB))).mono ?_
  rintro x w2 ⟨uu, rfl, ⟨F2, hown, hfr⟩, hb⟩
  obtain ⟨ua2, uc2, hu⟩ := rowOwn.slice hown
  subst hu
  have hP := (hb.block _ (by have := unhid JS; omega)).trans (unhid JP)
  have hR := (hb.block _ (by have := unhid JS; omega)).trans (unhid JR)
  have hS := Nat.lt_of_lt_of_le (unhid JS) hb.size
  have hB := (unhid JB).trans (hb.mono (unhid JB).size)
  have X2 := hid hown
  have Y2 := hid (show ∀ k ∈ F2, w.heap.size + 1 < k ∧ k < w2.heap.size from fun k hk => ⟨Nat.lt_of_lt_of_le (unhid JS) (hfr k hk).1, (hfr k hk).2⟩)
  clear hown hfr hb JP JR JS JB
  obtain ⟨o0, p0⟩ := cell_fz hP 0 _ rfl
  obtain ⟨o1, p1⟩ := cell_fz hP 1 _ rfl
  obtain ⟨o2, p2⟩ := cell_fz hP 2 _ rfl
  obtain ⟨o3, p3⟩ := cell_fz hP 3 _ rfl
  have kk : (w2.setCell ⟨w.heap.size, 2, none⟩ (.slice ua2 needs.length uc2)).cell? ⟨w.heap.size, 3, none⟩ = some v3 := by rw [World.cell?_setCell_other _ _ _ _ (by simp)]; exact o3
  go_wp2_with fail
  have hP : (w2.setCell ⟨w.heap.size, 2, none⟩ (.slice ua2 needs.length uc2)).heap[w.heap.size]? = some (.cells #[.string name, .string version, (.slice ua2 needs.length uc2), v3] 34 (0, 0)) := heap_setCell_same w2 (w.heap.size) 2 _ _ (.slice ua2 needs.length uc2) hP
  have hR := (Below.heap_setCell w2 ⟨w.heap.size, 2, none⟩ (.slice ua2 needs.length uc2) (w.heap.size + 1) (by dsimp only; omega)).trans hR
  have hS : w.heap.size + 1 < (w2.setCell ⟨w.heap.size, 2, none⟩ (.slice ua2 needs.length uc2)).heap.size := by simpa using hS
  have hB : Below w.heap.size w (w2.setCell ⟨w.heap.size, 2, none⟩ (.slice ua2 needs.length uc2)) := hB.setCell (by dsimp only; omega) _
  have X2 := hid (rowOwn.frame (W' := w2.setCell ⟨w.heap.size, 2, none⟩ (.slice ua2 needs.length uc2)) (unhid X2) (fun k hk => Below.heap_setCell _ _ _ _ (by have := ((unhid Y2) k hk).1; dsimp only; omega)))
  have Y2 := hid (show ∀ k ∈ F2, w.heap.size + 1 < k ∧ k < (w2.setCell ⟨w.heap.size, 2, none⟩ (.slice ua2 needs.length uc2)).heap.size from fun k hk => by have := (unhid Y2) k hk; simpa using this)
  clear kk o0 p0 o1 p1 o2 p2 o3 p3
  generalize w2.setCell ⟨w.heap.size, 2, none⟩ (.slice ua2 needs.length uc2) = W3 at *
  have YY2 := hid (show ∀ k ∈ F2, k < W3.heap.size from fun k hk => ((unhid Y2) k hk).2)
  have JP := hid hP
  have JR := hid hR
  have JS := hid hS
  have JB := hid hB
  clear hP hR hS hB
  refine (cloneEntryS_any tree v3 W3 hs3 ((unhid H3).below (unhid JB))).mono ?_
  rintro x w3 ⟨uu, rfl, ⟨F3, hown, hfr⟩, hb⟩
  obtain ⟨ua3, uc3, hu⟩ := rowOwn.slice hown
  subst hu
  have hP := (hb.block _ (by have := unhid JS; omega)).trans (unhid JP)
  have hR := (hb.block _ (by have := unhid JS; omega)).trans (unhid JR)
  have hS := Nat.lt_of_lt_of_le (unhid JS) hb.size
  have hB := (unhid JB).trans (hb.mono (unhid JB).size)
  have X2 := hid (rowOwn.frame (unhid X2) (fun k hk => hb.block k ((unhid Y2) k hk).2))
  have Y2 := hid (show ∀ k ∈ F2, w.heap.size + 1 < k ∧ k < w3.heap.size from fun k hk => ⟨((unhid Y2) k hk).1, Nat.lt_of_lt_of_le ((unhid Y2) k hk).2 hb.size⟩)
  have D23 := hid (show ∀ k ∈ F2, k ∉ F3 from fun k hk e => by have h1 := (hfr k e).1; have h2 := (unhid YY2) k hk; omega)
  have X3 := hid hown
  have Y3 := hid (show ∀ k ∈ F3, w.heap.size + 1 < k ∧ k < w3.heap.size from fun k hk => ⟨Nat.lt_of_lt_of_le (unhid JS) (hfr k hk).1, (hfr k hk).2⟩)
  clear hown hfr hb JP JR JS JB
  obtain ⟨o0, p0⟩ := cell_fz hP 0 _ rfl
  obtain ⟨o1, p1⟩ := cell_fz hP 1 _ rfl
  obtain ⟨o2, p2⟩ := cell_fz hP 2 _ rfl
  obtain ⟨o3, p3⟩ := cell_fz hP 3 _ rfl
  obtain ⟨r0, q0⟩ := cell_fz hR 0 _ rfl
  obtain ⟨r1, q1⟩ := cell_fz hR 1 _ rfl
  obtain ⟨r2, q2⟩ := cell_fz hR 2 _ rfl
  obtain ⟨r3, q3⟩ := cell_fz hR 3 _ rfl
  have k0 : (w3.setCell ⟨w.heap.size, 3, none⟩ (.slice ua3 tree.length uc3)).cell? ⟨w.heap.size, 0, none⟩ = some (.string name) := by rw [World.cell?_setCell_other _ _ _ _ (by simp)]; exact o0
  have k1 : (w3.setCell ⟨w.heap.size, 3, none⟩ (.slice ua3 tree.length uc3)).cell? ⟨w.heap.size, 1, none⟩ = some (.string version) := by rw [World.cell?_setCell_other _ _ _ _ (by simp)]; exact o1
  have k2 : (w3.setCell ⟨w.heap.size, 3, none⟩ (.slice ua3 tree.length uc3)).cell? ⟨w.heap.size, 2, none⟩ = some (.slice ua2 needs.length uc2) := by rw [World.cell?_setCell_other _ _ _ _ (by simp)]; exact o2
  go_wp2_with fail
  have hsame : ∀ k, k ≠ w.heap.size → k ≠ w.heap.size + 1 → (((((w3.setCell ⟨w.heap.size, 3, none⟩ (.slice ua3 tree.length uc3)).setCell ⟨w.heap.size + 1, 0, none⟩ (.string name)).setCell ⟨w.heap.size + 1, 1, none⟩ (.string version)).setCell ⟨w.heap.size + 1, 2, none⟩ (.slice ua2 needs.length uc2)).setCell ⟨w.heap.size + 1, 3, none⟩ (.slice ua3 tree.length uc3)).heap[k]? = w3.heap[k]? := fun k h1 h2 => by rw [Below.heap_setCell _ _ _ _ (by exact h2), Below.heap_setCell _ _ _ _ (by exact h2), Below.heap_setCell _ _ _ _ (by exact h2), Below.heap_setCell _ _ _ _ (by exact h2), Below.heap_setCell _ _ _ _ (by exact h1)]
  have hfin : Below w.heap.size w (((((w3.setCell ⟨w.heap.size, 3, none⟩ (.slice ua3 tree.length uc3)).setCell ⟨w.heap.size + 1, 0, none⟩ (.string name)).setCell ⟨w.heap.size + 1, 1, none⟩ (.string version)).setCell ⟨w.heap.size + 1, 2, none⟩ (.slice ua2 needs.length uc2)).setCell ⟨w.heap.size + 1, 3, none⟩ (.slice ua3 tree.length uc3)) := (((((hB.setCell (by dsimp only; omega) _).setCell (by dsimp only; omega) _).setCell (by dsimp only; omega) _).setCell (by dsimp only; omega) _).setCell (by dsimp only; omega) _)
  refine bodyPost_ret (v := .agg #[.string name, .string version, (.slice ua2 needs.length uc2), (.slice ua3 tree.length uc3)]) (by simp [results, Tryz.results144, go_sem, World.cell?_setCell_same', r0, r1, r2, r3]) rfl ⟨[.string name, .string version, (.slice ua2 needs.length uc2), (.slice ua3 tree.length uc3)], F2 ++ F3, rfl, packC_mk ⟨_, _, F2, F3, rfl, rfl, rowOwn.frame (unhid X2) (fun k hk => hsame k (by have := ((unhid Y2) k hk).1; omega) (by have := ((unhid Y2) k hk).1; omega)), rowOwn.frame (unhid X3) (fun k hk => hsame k (by have := ((unhid Y3) k hk).1; omega) (by have := ((unhid Y3) k hk).1; omega)), unhid D23⟩, ?_, hfin⟩
  intro k hk
  have hsz : (((((w3.setCell ⟨w.heap.size, 3, none⟩ (.slice ua3 tree.length uc3)).setCell ⟨w.heap.size + 1, 0, none⟩ (.string name)).setCell ⟨w.heap.size + 1, 1, none⟩ (.string version)).setCell ⟨w.heap.size + 1, 2, none⟩ (.slice ua2 needs.length uc2)).setCell ⟨w.heap.size + 1, 3, none⟩ (.slice ua3 tree.length uc3)).heap.size = w3.heap.size := by simp
  rw [hsz]
  simp only [List.mem_append] at hk
  rcases hk with hk | hk
  · have := (unhid Y2) k hk
    omega
  · have := (unhid Y3) k hk
    omega
set_option maxRecDepth 100000 in
set_option maxHeartbeats 4000000 in
theorem l9Pack_any (d : packC.D) (cs : List Value) (w : World) (hs : (PackD.needs d).length ≤ 4194304 ∧ (PackD.tree d).length ≤ 4194304) (h : packC.at_ w cs d) : Calls Tryz.prog 147 #[.agg cs.toArray] w (PackMade w d) := by
  obtain ⟨v2, v3, rfl, h2, h3⟩ := packC_at h
  obtain ⟨name, version, needs, tree⟩ := d
  obtain ⟨hs2, hs3⟩ := hs
  dsimp only at *
  have H2 := hid h2
  have H3 := hid h3
  clear h h2 h3
  obtain ⟨hP, hR, hS, hB⟩ := two_boxesP w (.cells #[.string name, .string version, v2, v3] 34) (.cells #[.string ⟨#[]⟩, .string ⟨#[]⟩, .slice none 0 0, .slice none 0 0] 34)
  have HE := hid ((unhid H2).below hB)
  have JP := hid hP
  have JR := hid hR
  have JS := hid hS
  have JB := hid hB
  clear hP hR hS hB
  go_enter Tryz.func147, Tryz.ntmps147
  go_wp2_with (at_builtin; refine wp_leaf etNeed oneNeed needLeaf ((w.alloc (.cells #[.string name, .string version, v2, v3] 34)).alloc (.cells #[.string ⟨#[]⟩, .string ⟨#[]⟩, .slice none 0 0, .slice none 0 0] 34)) rfl _ _ rfl v2 needs (unhid HE) hs2 (by simp [Act.eval]) rfl ?_)
  intro uu w2 hmade
  generalize (w.alloc (.cells #[.string name, .string version, v2, v3] 34)).alloc (.cells #[.string ⟨#[]⟩, .string ⟨#[]⟩, .slice none 0 0, .slice none 0 0] 34) = W0 at *
  obtain ⟨⟨F2, hown, hfr⟩, hb⟩ := hmade
  obtain ⟨ua2, uc2, hu⟩ := rowOwn.slice hown
  subst hu
  have hP := (hb.block _ (by have := unhid JS; omega)).trans (unhid JP)
  have hR := (hb.block _ (by have := unhid JS; omega)).trans (unhid JR)
  have hS := Nat.lt_of_lt_of_le (unhid JS) hb.size
  have hB := (unhid JB).trans (hb.mono (unhid JB).size)
  have X2 := hid hown
  have Y2 := hid (show ∀ k ∈ F2, w.heap.size + 1 < k ∧ k < w2.heap.size from fun k hk => ⟨Nat.lt_of_lt_of_le (unhid JS) (hfr k hk).1, (hfr k hk).2⟩)
  clear hown hfr hb JP JR JS JB
  obtain ⟨o0, p0⟩ := cell_fz hP 0 _ rfl
  obtain ⟨o1, p1⟩ := cell_fz hP 1 _ rfl
  obtain ⟨o2, p2⟩ := cell_fz hP 2 _ rfl
  obtain ⟨o3, p3⟩ := cell_fz hP 3 _ rfl
  have kk : (w2.setCell ⟨w.heap.size, 2, none⟩ (.slice ua2 needs.length uc2)).cell? ⟨w.heap.size, 3, none⟩ = some v3 := by rw [World.cell?_setCell_other _ _ _ _ (by simp)]; exact o3
  go_wp2_with fail
  have hP : (w2.setCell ⟨w.heap.size, 2, none⟩ (.slice ua2 needs.length uc2)).heap[w.heap.size]? = some (.cells #[.string name, .string version, (.slice ua2 needs.length uc2), v3] 34 (0, 0)) := heap_setCell_same w2 (w.heap.size) 2 _ _ (.slice ua2 needs.length uc2) hP
  have hR := (Below.heap_setCell w2 ⟨w.heap.size, 2, none⟩ (.slice ua2 needs.length uc2) (w.heap.size + 1) (by dsimp only; omega)).trans hR
  have hS : w.heap.size + 1 < (w2.setCell ⟨w.heap.size, 2, none⟩ (.slice ua2 needs.length uc2)).heap.size := by simpa using hS
  have hB : Below w.heap.size w (w2.setCell ⟨w.heap.size, 2, none⟩ (.slice ua2 needs.length uc2)) := hB.setCell (by dsimp only; omega) _
  have X2 := hid (rowOwn.frame (W' := w2.setCell ⟨w.heap.size, 2, none⟩ (.slice ua2 needs.length uc2)) (unhid X2) (fun k hk => Below.heap_setCell _ _ _ _ (by have := ((unhid Y2) k hk).1; dsimp only; omega)))
  have Y2 := hid (show ∀ k ∈ F2, w.heap.size + 1 < k ∧ k < (w2.setCell ⟨w.heap.size, 2, none⟩ (.slice ua2 needs.length uc2)).heap.size from fun k hk => by have := (unhid Y2) k hk; simpa using this)
  clear kk o0 p0 o1 p1 o2 p2 o3 p3
  generalize w2.setCell ⟨w.heap.size, 2, none⟩ (.slice ua2 needs.length uc2) = W3 at *
  have YY2 := hid (show ∀ k ∈ F2, k < W3.heap.size from fun k hk => ((unhid Y2) k hk).2)
  have JP := hid hP
  have JR := hid hR
  have JS := hid hS
  have JB := hid hB
  clear hP hR hS hB
  refine (l2CopyR_any tree v3 W3 hs3 ((unhid H3).below (unhid JB))).mono ?_
  rintro x w3 ⟨uu, rfl, ⟨F3, hown, hfr⟩, hb⟩
  obtain ⟨ua3, uc3, hu⟩ := rowOwn.slice hown
  subst hu
  have hP := (hb.block _ (by have := unhid JS; omega)).trans (unhid JP)
  have hR := (hb.block _ (by have := unhid JS; omega)).trans (unhid JR)
  have hS := Nat.lt_of_lt_of_le (unhid JS) hb.size
  have hB := (unhid JB).trans (hb.mono (unhid JB).size)
  have X2 := hid (rowOwn.frame (unhid X2) (fun k hk => hb.block k ((unhid Y2) k hk).2))
  have Y2 := hid (show ∀ k ∈ F2, w.heap.size + 1 < k ∧ k < w3.heap.size from fun k hk => ⟨((unhid Y2) k hk).1, Nat.lt_of_lt_of_le ((unhid Y2) k hk).2 hb.size⟩)
  have D23 := hid (show ∀ k ∈ F2, k ∉ F3 from fun k hk e => by have h1 := (hfr k e).1; have h2 := (unhid YY2) k hk; omega)
  have X3 := hid hown
  have Y3 := hid (show ∀ k ∈ F3, w.heap.size + 1 < k ∧ k < w3.heap.size from fun k hk => ⟨Nat.lt_of_lt_of_le (unhid JS) (hfr k hk).1, (hfr k hk).2⟩)
  clear hown hfr hb JP JR JS JB
  obtain ⟨o0, p0⟩ := cell_fz hP 0 _ rfl
  obtain ⟨o1, p1⟩ := cell_fz hP 1 _ rfl
  obtain ⟨o2, p2⟩ := cell_fz hP 2 _ rfl
  obtain ⟨o3, p3⟩ := cell_fz hP 3 _ rfl
  obtain ⟨r0, q0⟩ := cell_fz hR 0 _ rfl
  obtain ⟨r1, q1⟩ := cell_fz hR 1 _ rfl
  obtain ⟨r2, q2⟩ := cell_fz hR 2 _ rfl
  obtain ⟨r3, q3⟩ := cell_fz hR 3 _ rfl
  have k0 : (w3.setCell ⟨w.heap.size, 3, none⟩ (.slice ua3 tree.length uc3)).cell? ⟨w.heap.size, 0, none⟩ = some (.string name) := by rw [World.cell?_setCell_other _ _ _ _ (by simp)]; exact o0
  have k1 : (w3.setCell ⟨w.heap.size, 3, none⟩ (.slice ua3 tree.length uc3)).cell? ⟨w.heap.size, 1, none⟩ = some (.string version) := by rw [World.cell?_setCell_other _ _ _ _ (by simp)]; exact o1
  have k2 : (w3.setCell ⟨w.heap.size, 3, none⟩ (.slice ua3 tree.length uc3)).cell? ⟨w.heap.size, 2, none⟩ = some (.slice ua2 needs.length uc2) := by rw [World.cell?_setCell_other _ _ _ _ (by simp)]; exact o2
  go_wp2_with fail
  have hsame : ∀ k, k ≠ w.heap.size → k ≠ w.heap.size + 1 → (((((w3.setCell ⟨w.heap.size, 3, none⟩ (.slice ua3 tree.length uc3)).setCell ⟨w.heap.size + 1, 0, none⟩ (.string name)).setCell ⟨w.heap.size + 1, 1, none⟩ (.string version)).setCell ⟨w.heap.size + 1, 2, none⟩ (.slice ua2 needs.length uc2)).setCell ⟨w.heap.size + 1, 3, none⟩ (.slice ua3 tree.length uc3)).heap[k]? = w3.heap[k]? := fun k h1 h2 => by rw [Below.heap_setCell _ _ _ _ (by exact h2), Below.heap_setCell _ _ _ _ (by exact h2), Below.heap_setCell _ _ _ _ (by exact h2), Below.heap_setCell _ _ _ _ (by exact h2), Below.heap_setCell _ _ _ _ (by exact h1)]
  have hfin : Below w.heap.size w (((((w3.setCell ⟨w.heap.size, 3, none⟩ (.slice ua3 tree.length uc3)).setCell ⟨w.heap.size + 1, 0, none⟩ (.string name)).setCell ⟨w.heap.size + 1, 1, none⟩ (.string version)).setCell ⟨w.heap.size + 1, 2, none⟩ (.slice ua2 needs.length uc2)).setCell ⟨w.heap.size + 1, 3, none⟩ (.slice ua3 tree.length uc3)) := (((((hB.setCell (by dsimp only; omega) _).setCell (by dsimp only; omega) _).setCell (by dsimp only; omega) _).setCell (by dsimp only; omega) _).setCell (by dsimp only; omega) _)
  refine bodyPost_ret (v := .agg #[.string name, .string version, (.slice ua2 needs.length uc2), (.slice ua3 tree.length uc3)]) (by simp [results, Tryz.results147, go_sem, World.cell?_setCell_same', r0, r1, r2, r3]) rfl ⟨[.string name, .string version, (.slice ua2 needs.length uc2), (.slice ua3 tree.length uc3)], F2 ++ F3, rfl, packC_mk ⟨_, _, F2, F3, rfl, rfl, rowOwn.frame (unhid X2) (fun k hk => hsame k (by have := ((unhid Y2) k hk).1; omega) (by have := ((unhid Y2) k hk).1; omega)), rowOwn.frame (unhid X3) (fun k hk => hsame k (by have := ((unhid Y3) k hk).1; omega) (by have := ((unhid Y3) k hk).1; omega)), unhid D23⟩, ?_, hfin⟩
  intro k hk
  have hsz : (((((w3.setCell ⟨w.heap.size, 3, none⟩ (.slice ua3 tree.length uc3)).setCell ⟨w.heap.size + 1, 0, none⟩ (.string name)).setCell ⟨w.heap.size + 1, 1, none⟩ (.string version)).setCell ⟨w.heap.size + 1, 2, none⟩ (.slice ua2 needs.length uc2)).setCell ⟨w.heap.size + 1, 3, none⟩ (.slice ua3 tree.length uc3)).heap.size = w3.heap.size := by simp
  rw [hsz]
  simp only [List.mem_append] at hk
  rcases hk with hk | hk
  · have := (unhid Y2) k hk
    omega
  · have := (unhid Y3) k hk
    omega
end Go.Proofs.YtoihhlkidlapmaaGreat

namespace Go.Proofs.YtoihhlkidlapmaaGreat
open Go.RowKit Go.Shelf
structure RowGrew (K : CK) (e : Nat) (w : World) (N : Nat) (v : Value) (L : List (It K)) (v' : Value) (w' : World) : Prop where
  row : NRow K e w' N v' L
  by_ : w.grownBy w' v.ownBlock
  block : v'.ownBlock = v.ownBlock ∨ v'.ownBlock = some w.heap.size
  some_ : v' = .slice none 0 0 ↔ v = .slice none 0 0 ∧ L.length = 0
theorem wp_items {K : CK} {t e : Nat} (hET : ET K t e) (h1 : OneC K) {ops : Array Oper} {rest : List Oper} {o : Oper} {a : Act} (w : World) {Q : Exit → Act → World → Prop} (hgd : o.guard = none) (s x : Operand) (ho : o.op = .call { callee := .builtin .append, args := #[s, x], argTypes := #[t, t] })
    (N : Nat) (v : Value) (L M : List (It K)) (b of c : Nat) (h : NRow K e w N v L) (hM : Items K w N (L ++ M)) (hap : ∀ g, v.ownBlock = some g → g ∉ itF M) (hcell : ∀ j u, (itCells M)[j]? = some u → w.cell? ⟨b, of + j, none⟩ = some u) (hn : L.length + M.length ≤ 4194304) (hN : N ≤ w.heap.size) (hs : a.eval s = v) (hx : a.eval x = .slice (some ⟨b, of, none⟩) M.length c)
    (hk : ∀ v' w', RowGrew K e w N v (L ++ M) v' w' → wpList Tryz.prog ops Q rest (a.put o.dst v') w') : wpList Tryz.prog ops Q (o :: rest) a w := by
  refine wpList_plain hgd fun K' hK => ?_
  obtain ⟨v', w', hr, h2, h3, h4, h5⟩ := app_items hET h1 w o.type N v L M b of c h hM hap hcell hn hN
  unfold Oper.wp execOp
  simp only [ho, resolve, invoke, builtin, Sem.run_bind, Sem.run_pure, Result.andThen_ok, List.map_toArray, List.map_cons, List.map_nil, hs, hx, hr]
  refine hK _ _ (hk v' w' ⟨h2, h3, h4, ?_⟩)
  rw [h5, List.length_append]
  constructor
  · rintro ⟨rfl, h0⟩
    refine ⟨rfl, ?_⟩
    rcases h.row.2 with ⟨_, hl⟩ | ⟨g, cap, cur, hv, _⟩
    · omega
    · cases hv
  · rintro ⟨h0, h1⟩
    exact ⟨h0, by omega⟩
theorem nrow_slice {K : CK} {e : Nat} {w : World} {N : Nat} {v : Value} {L : List (It K)} (h : NRow K e w N v L) : ∃ a c, v = .slice a L.length c := by
  rcases h.row.2 with ⟨rfl, h0⟩ | ⟨g, cap, cur, rfl, _⟩
  · exact ⟨none, 0, by rw [h0]⟩
  · exact ⟨_, cap, rfl⟩
theorem grew_slice {K : CK} {e : Nat} {w : World} {N : Nat} {v : Value} {L : List (It K)} {v' : Value} {w' : World} (h : RowGrew K e w N v L v' w') : ∃ a c, v' = .slice a L.length c := nrow_slice h.row
theorem items_new {W w2 w3 : World} {N : Nat} {v : Value} {L : List (It packC)} {cs : List Value} {d : packC.D} {F : List Nat} (h : NRow packC 34 W N v L) (hN : N ≤ W.heap.size) (hb : Below W.heap.size W w2) (hown : packC.own w2 cs d F) (hF : ∀ k ∈ F, W.heap.size ≤ k) (hb2 : Below w2.heap.size w2 w3) :
    NRow packC 34 w3 N v L ∧ Items packC w3 N (L ++ [(cs, d, F)]) ∧ (∀ g, v.ownBlock = some g → g ∉ itF [((cs, d, F) : It packC)]) := by
  have hfr : ∀ k, (v.ownBlock = some k ∨ k ∈ itF L) → w3.heap[k]? = W.heap[k]? := fun k hk => by
    have := (h.base k hk).2
    rw [hb2.block k (Nat.lt_of_lt_of_le this hb.size), hb.block k this]
  have h3 := h.frame hfr
  refine ⟨h3, h3.items.snoc (packC.frame hown (fun k hk => hb2.block k (packC.lt hown k hk))) (M := W.heap.size) h.items.lt hF hN, fun g hg hk => ?_⟩
  have h1 := (h.base g (.inl hg)).2
  have h2 := hF g (by simpa [itF] using hk)
  omega
set_option maxRecDepth 100000 in
set_option maxHeartbeats 4000000 in
theorem clonePacks_any (ps : List packC.D) (v : Value) (w : World) (hs : smallPs ps) (h : rowAt packC w v ps) :
    Calls Tryz.prog 89 #[v] w fun x w' => ∃ (u : Value) (L : List (It packC)), x = .returned u ∧ NRow packC 34 w' w.heap.size u L ∧ itD L = ps ∧ Below w.heap.size w w' := by
  obtain ⟨a, cap, rfl, -, -, h⟩ := h
  have hlen := hs.1
  have HSM := hid hs
  have H := hid h
  clear h hs
  go_enter Tryz.func89, Tryz.ntmps89
  go_wp2_with fail
  go_loopw [3, 8] (fun s i wr => ∃ (k : Nat) (L : List (It packC)) (ga : Option Addr) (c : Nat), k ≤ ps.length ∧ i = .int .i64 (k : Int) ∧ s = .slice ga k c ∧ Hid (L.length = k) ∧ Hid (itD L = ps.take k) ∧ Hid (NRow packC 34 wr w.heap.size (.slice ga k c) L) ∧ Hid (Below w.heap.size w wr)) (fun _ i _ => ps.length - (intOf i).toNat)
  case atStart => exact ⟨0, [], none, 0, Nat.zero_le _, rfl, rfl, hid rfl, hid (by simp [itD]), hid (NRow.none _ _), hid (Below.refl _ _)⟩
  case round =>
    obtain ⟨k, L, ga, c, hk, rfl, rfl, HK, HL, HR, HB⟩ := hrel
    by_cases hlt : k < ps.length
    · obtain ⟨e, he⟩ : ∃ e, ps[k]? = some e := ⟨ps[k], List.getElem?_eq_getElem hlt⟩
      obtain ⟨b, o, rfl, hbl, hc⟩ := (unhid H).resolve_left (by intro e; subst e; simp at hlt)
      obtain ⟨na, nc, ta, tc, ⟨c0, c1, c2, c3⟩, hat⟩ := pack_cells (unhid HB) hbl hc he
      have hsp := (unhid HSM).2 e (List.mem_of_getElem? he)
      have hsz : (PackD.needs e).length ≤ 4194304 ∧ (PackD.tree e).length ≤ 4194304 := ⟨by have := hsp.needs.1; omega, by have := hsp.tree.1; rw [entsD_len] at this; omega⟩
      have JN := hid (fun W (hb : Below wr.heap.size wr W) => clonePack_any e _ W hsz (packC.below hat hb))
      have HE := hid he
      have HB1 := hid (show ∀ x, Below wr.heap.size wr (wr.alloc x) from fun x => (Below.refl _ wr).alloc (Nat.le_refl _) x)
      clear hat hc he hbl hsp hsz
      go_wp2_with fail
      have hb1 := unhid HB1 (.cells #[.string (PackD.name e), .string (PackD.version e), .slice na (PackD.needs e).length nc, .slice ta (PackD.tree e).length tc] 34)
      generalize wr.alloc (.cells #[.string (PackD.name e), .string (PackD.version e), .slice na (PackD.needs e).length nc, .slice ta (PackD.tree e).length tc] 34) = w1 at hb1 ⊢
      refine (unhid JN w1 hb1).mono ?_
      rintro x w2 ⟨cs, F, rfl, hown, hF, hb⟩
      have hbb := hb1.trans (hb.mono hb1.size)
      obtain ⟨v2, v3, F2, F3, rfl, -, -, -, -⟩ := packC_own hown
      have hb2 := (Below.refl w2.heap.size w2).alloc (Nat.le_refl _) (.cells #[.string (PackD.name e), .string (PackD.version e), v2, v3] 34)
      have hnew := World.alloc_heap_new w2 (.cells #[.string (PackD.name e), .string (PackD.version e), v2, v3] 34)
      obtain ⟨q1, q2, q3⟩ := items_new (unhid HR) (unhid HB).size hbb hown (fun k hk => Nat.le_trans hb1.size (hF k hk).1) hb2
      have HQ := hid (And.intro q1 (And.intro q2 q3))
      have HB2 := hid ((unhid HB).trans ((hbb.trans (hb2.mono hbb.size)).mono (unhid HB).size))
      have HC := hid (show ∀ j u, (itCells [(([.string (PackD.name e), .string (PackD.version e), v2, v3], e, F) : It packC)])[j]? = some u → (w2.alloc (.cells #[.string (PackD.name e), .string (PackD.version e), v2, v3] 34)).cell? ⟨w2.heap.size, 0 + j, none⟩ = some u from fun j u hj => by
        rw [Nat.zero_add]
        refine cell_arrS hnew j u ?_
        have hj' : [.string (PackD.name e), .string (PackD.version e), v2, v3][j]? = some u := by simpa [itCells] using hj
        simpa using hj')
      clear hown hF hb hb1 hbb hb2 hnew q1 q2 q3 JN HB1 c0 c1 c2 c3
      go_wp2_with (at_builtin; refine wp_items etPack onePack _ rfl _ _ rfl w.heap.size _ L [(([.string (PackD.name e), .string (PackD.version e), v2, v3], e, F) : It packC)] w2.heap.size 0 1 (unhid HQ).1 (unhid HQ).2.1 (unhid HQ).2.2 (unhid HC) ?d1 (unhid HB2).size rfl rfl ?_)
      case d1 => rw [unhid HK]; simp only [List.length_singleton]; omega
      intro v' w3 hg
      obtain ⟨ga', c', hv'⟩ := grew_slice hg
      have hl2 : (L ++ [(([.string (PackD.name e), .string (PackD.version e), v2, v3], e, F) : It packC)]).length = k + 1 := by rw [List.length_append, unhid HK]; rfl
      rw [hl2] at hv'
      subst hv'
      have HN := hid hg.row
      have HB3 := hid ((unhid HB2).grown hg.by_ (unhid HB2).size (fun k hk => ((unhid HQ).1.base k (.inl hk)).1))
      have HL2 := hid (show itD (L ++ [(([.string (PackD.name e), .string (PackD.version e), v2, v3], e, F) : It packC)]) = ps.take (k + 1) by
        rw [itD_app, unhid HL, List.take_add_one, unhid HE]; rfl)
      have HK2 := hid hl2
      generalize L ++ [(([.string (PackD.name e), .string (PackD.version e), v2, v3], e, F) : It packC)] = L2 at *
      clear hg HQ HC HB2 hl2
      go_wp2_with fail
      go_roundw
      case rel => exact ⟨k + 1, L2, ga', c', by omega, by go_num, rfl, HK2, HL2, HN, HB3⟩
      case measure => simp [intOf]; omega
    · have e : k = ps.length := by omega
      subst e
      have HL2 := hid (show itD L = ps by have := unhid HL; rwa [List.take_length] at this)
      go_wp2_with fail
      go_ret
      exact ⟨_, L, rfl, unhid HR, unhid HL2, unhid HB⟩
end Go.Proofs.YtoihhlkidlapmaaGreat
