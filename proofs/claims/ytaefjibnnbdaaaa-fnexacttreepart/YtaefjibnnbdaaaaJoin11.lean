/- Texts of this proof, one behind the other; each says at its head what it shows. -/
import Derived.Test.YtaefjibnnbdaaaaJoin10
import Derived.Test.YtaefjibnnbdaaaaJoin5
import Derived.Test.YtaefjibnnbdaaaaJoin3
/- A part of a tree, by the program. -/
namespace Go.Proofs.Ytaefjibnnbdaaaa
open Go.RowKit Go.Shelf

attribute [local go_sem] Oper.semAt_some

def partR (g : ByteArray) (es : List Ent) : List Ent := partL g (keptE es)

set_option maxRecDepth 100000 in
set_option maxHeartbeats 4000000 in
theorem treePart_any (es : List Ent) (a : Option Addr) (cap : Nat) (g : ByteArray) (w : World) (hs : smallE es) (hg : g.size ≤ 1048576) (h : EntsAt w a es) :
    Calls Try.prog 39 #[.slice a es.length cap, .string g] w fun x w' => ∃ v, x = .returned v ∧ w'.ownsRow w.heap.size 27 4 v (partR g es).length (valsOf (partR g es)) ∧ Below w.heap.size w w' := by
  have H := hid (treeOf_any es a cap w hs h)
  clear hs h
  refine (callsIn_wide (n := 3)).1 ?_
  refine callsIn_of_wp_marks Try.func39 rfl trivial ?_ rfl
  simp only [Try.ntmps39, List.size_toArray, List.length_cons, List.length_nil, Nat.reduceAdd, Nat.reduceSub, Array.replicate_succ, Array.replicate_zero, List.push_toArray, List.append_toArray, List.nil_append, List.cons_append]
  gi_wp2
  refine ⟨trivial, (callsIn_wide.2 (unhid H)).mono ?_⟩
  rintro x w1 ⟨vp, vn, rfl, ⟨t2, t3⟩, hB⟩
  obtain ⟨ap, cp, rfl⟩ := ownsRow_slice t2
  obtain ⟨an, cn, rfl⟩ := ownsRow_slice t3
  obtain ⟨wt, hwt⟩ : ∃ wt, wt = w1.alloc (.cells #[.slice ap (keptE es).length cp, .slice an (keptE es).length cn] 58) := ⟨_, rfl⟩
  have hBt : Below w1.heap.size w1 wt := by rw [hwt]; exact (Below.refl _ w1).alloc (Nat.le_refl _) _
  have hBT : Below w.heap.size w wt := hB.trans (hBt.mono hB.size)
  have hRT : wt.heap[w1.heap.size]? = some (.cells #[.slice ap (keptE es).length cp, .slice an (keptE es).length cn] 58 (0, 0)) ∧ RowsAt wt w.heap.size (.slice ap (keptE es).length cp) (.slice an (keptE es).length cn) (keptE es) := ⟨by rw [hwt]; exact World.alloc_heap_new _ _, ownsRow_kept t2 (fun g e => hBt.block g (t2.lt g e).2), ownsRow_kept t3 (fun g e => hBt.block g (t3.lt g e).2)⟩
  have hlow := And.intro (fun g (e : (Value.slice ap (keptE es).length cp).ownBlock = some g) => (t2.lt g e).2) (fun g (e : (Value.slice an (keptE es).length cn).ownBlock = some g) => (t3.lt g e).2)
  have HT := hid (And.intro hBT (And.intro hRT hlow))
  have HWT := hid hwt
  have hw1 := hB.size
  clear hRT hBT hBt hB t2 t3 hwt H hlow
  gi_wp2
  rw [← unhid HWT]
  refine ⟨trivial, (callsIn_wide.2 (globOf_full g (by unfold maxLen; omega) wt)).mono ?_⟩
  rintro x w2 ⟨fv, rfl, hfv, hfn, hb2⟩
  obtain ⟨w3, hw3⟩ : ∃ w3, w3 = w2.alloc (.cells #[fv] 95) := ⟨_, rfl⟩
  have hB3 : Below w2.heap.size w2 w3 := by rw [hw3]; exact (Below.refl _ w2).alloc (Nat.le_refl _) _
  have hbt3 : w3.heap[w2.heap.size]? = some (.cells #[fv] 95 (0, 0)) := by rw [hw3]; exact World.alloc_heap_new _ _
  have HW3 := hid hw3
  clear hw3
  cases ho : globOkB g.data.toList
  · have hf0 := hfn ho
    subst hf0
    have HB := hid ((unhid HT).1.trans ((hb2.mono (unhid HT).1.size).trans (hB3.mono (Nat.le_trans (unhid HT).1.size hb2.size))))
    have E := hid (show partR g es = [] by
      unfold partR partL
      rw [List.filter_eq_nil_iff]
      intro x _
      have h1 : ∀ y, takenB g y = false := fun y => by unfold takenB hasB; rw [ho]; rfl
      have h2 : neededB g (keptE es) x.path = false := by unfold neededB; simp [h1]
      rw [h1, h2]; simp)
    clear hfv hfn hb2 hB3 hbt3
    gi_wp2
    rw [← unhid HW3]
    refine ⟨.slice none 0 0, ?_, _, rfl, by rw [unhid E]; exact World.ownsRow_nil _ _ _ _, unhid HB⟩
    simp [results, Try.f39, go_sem]
  · obtain ⟨b, v, xs, rfl, hbl, hcb, hN, hxs⟩ := hfv ho
    clear hfv hfn
    have hxn : namesW g.data.toList = xs := filter_some _ _ _ hxs
    have hl40 : g.data.toList.length ≤ 40 ∧ (cutB 47 g.data.toList).length ≤ 5 := by
      unfold globOkB at ho; simp only [Bool.and_eq_true, decide_eq_true_eq] at ho; exact ⟨ho.1.2, ho.1.1⟩
    have hxl : xs.length ≤ 1000 := by have := congrArg List.length hxs; simp at this; omega
    have hsm : ∀ x ∈ xs, small9 x := fun x hx => by
      have : some x ∈ (cutB 47 g.data.toList).map (fun p => nameW ⟨⟨p⟩⟩) := by rw [hxs]; exact List.mem_map.2 ⟨x, hx, rfl⟩
      obtain ⟨p, hp, hn⟩ := List.mem_map.1 this
      refine nameW_small hn ?_
      have := cutB_le 47 _ _ hp
      rw [Lib.size_eq]
      show p.length ≤ 1000
      omega
    have hz3 : w3.heap.size = w2.heap.size + 1 := by rw [unhid HW3]; simp
    obtain ⟨w4, hw4⟩ : ∃ w4, w4 = w3.alloc (.cells #[.slice none 0 0, .slice none 0 0] 58) := ⟨_, rfl⟩
    obtain ⟨w5, hw5⟩ : ∃ w5, w5 = w4.alloc (.cells #[.pointer (some ⟨w1.heap.size, 0, none⟩)] 104) := ⟨_, rfl⟩
    have hz4 : w4.heap.size = w2.heap.size + 1 + 1 := by rw [hw4]; simp [hz3]
    have hz5 : w5.heap.size = w2.heap.size + 1 + 1 + 1 := by rw [hw5]; simp [hz4]
    have hB34 : Below w3.heap.size w3 w4 := by rw [hw4]; exact (Below.refl _ w3).alloc (Nat.le_refl _) _
    have hB45 : Below w4.heap.size w4 w5 := by rw [hw5]; exact (Below.refl _ w4).alloc (Nat.le_refl _) _
    have hB25 : Below w2.heap.size w2 w5 := hB3.trans ((hB34.mono hB3.size).trans (hB45.mono (by omega)))
    have hBt5 : Below wt.heap.size wt w5 := hb2.trans (hB25.mono hb2.size)
    obtain ⟨hBT, ⟨hbt, hrp, hrn⟩, hlp, hln⟩ := unhid HT
    have hbtl : w1.heap.size < wt.heap.size := (Array.getElem?_eq_some_iff.1 hbt).1
    have hBw : Below w.heap.size w w5 := hBT.trans (hBt5.mono hBT.size)
    have hbox5 : w5.heap[w2.heap.size]? = some (.cells #[.func (.func 106) #[] #[.pointer (some ⟨b, 0, none⟩)]] 95 (0, 0)) := (hB45.block _ (by omega)).trans ((hB34.block _ (by omega)).trans hbt3)
    have hbn5 : w5.heap[w2.heap.size + 1 + 1]? = some (.cells #[.pointer (some ⟨w1.heap.size, 0, none⟩)] 104 (0, 0)) := by have := World.alloc_heap_new w4 (.cells #[.pointer (some ⟨w1.heap.size, 0, none⟩)] 104); rw [hz4] at this; rw [hw5]; exact this
    have hrows5 : RowsAt w5 w.heap.size (.slice ap (keptE es).length cp) (.slice an (keptE es).length cn) (keptE es) := ⟨ownsRow_kept hrp (fun g e => hBt5.block g (hrp.lt g e).2), ownsRow_kept hrn (fun g e => hBt5.block g (hrn.lt g e).2)⟩
    have hbt5 := (hBt5.block _ hbtl).trans hbt
    have hTI : TreeIn (w2.heap.size + 1 + 1) w1.heap.size w.heap.size (.slice ap (keptE es).length cp) (.slice an (keptE es).length cn) (keptE es) w5 := ⟨(cell_of_box_l hbn5).1, hbt5, hrows5⟩
    have hLT : TreeAt w5 (w2.heap.size + 1) (w2.heap.size + 1) [] := ⟨.slice none 0 0, .slice none 0 0, (hB45.block _ (by omega)).trans (by have := World.alloc_heap_new w3 (.cells #[.slice none 0 0, .slice none 0 0] 58); rw [hz3] at this; rw [hw4]; exact this), World.ownsRow_nil _ _ _ _, World.ownsRow_nil _ _ _ _⟩
    have HN := hid (And.intro hN (And.intro hsm (And.intro hxl (And.intro hcb (And.intro hxn (And.intro hbox5 (And.intro hB25 (And.intro hrows5 hbt5))))))))
    have HAL := hid (all_in Fence.wide 2 trivial rfl w1.heap.size w4)
    rw [hz4, ← hw5] at HAL
    have HW4 := hid hw4
    have hlp' : ∀ g, (Value.slice ap (keptE es).length cp).ownBlock = some g → g < w2.heap.size + 1 := fun g e => by have := hlp g e; have := hb2.size; omega
    have hln' : ∀ g, (Value.slice an (keptE es).length cn).ownBlock = some g → g < w2.heap.size + 1 := fun g e => by have := hln g e; have := hb2.size; omega
    have HLO := hid (And.intro hlp' hln')
    have hw2t := hb2.size
    clear hw4 hw5 hB34 hB45 hB25 hBt5 hrp hrn hlp hln hbt hbt3 hxs hl40 hxl hsm hxn hN hcb hB3 hb2 hlp' hln' hBT
    gi_wp2
    rw [← unhid HW3, ← unhid HW4]
    refine ⟨trivial, (unhid HAL).mono ?_⟩
    rintro x w6 ⟨rfl, e6⟩
    subst e6
    have hkl := (kept_asc es).2
    have hka := (kept_asc es).1
    have hkt : ∀ e ∈ keptE es, treeB (keptE es) = true := fun x hx => by
      cases htb : treeB es
      · rw [keptE_no htb] at hx; simp at hx
      · rw [keptE_yes htb]; exact htb
    have HPR := hid (show partR g es = partL g (keptE es) from rfl)
    generalize hks : keptE es = ks at *
    clear hks HT HWT HW3 HW4 HAL
    have hBr : Below (w2.heap.size + 1) w6 w6 := Below.refl _ _
    gi_wp2
    refine wpIn_rangeFunc_ownF rfl (by omega) (gf := 87) (lb := #[.pointer (some ⟨w2.heap.size + 1 + 1, 0, none⟩)]) rfl trivial (enters_of Try.func87 (by kernel_rfl) rfl)
      (all_stops Fence.wide _ trivial rfl (by omega) (w2.heap.size + 1 + 1) w1.heap.size w.heap.size (.slice ap ks.length cp) (.slice an ks.length cn) ks (by omega) (fun e => e ∈ ks) (fun _ h => h) _ hTI) (fun h g x => g (h x)) (fun W l o o' _ hl hc _ h => treeIn_grown h (grownBy_putObj' _ l o') (fun r e => by cases e; exact ⟨_, hl, hc⟩)) (Below.refl _ _) (fun _ => rfl)
      (fun pre W => ((∃ ps, TreeAt W (w2.heap.size + 1) (w2.heap.size + 1) ps ∧ Up ps ∧ (∀ x, x ∈ ps ↔ x ∈ ks ∧ ∃ e ∈ pre.map (·.1), takenB g e = true ∧ belowB x.path.data.toList e.path.data.toList = true)) ∧ TreeIn (w2.heap.size + 1 + 1) w1.heap.size w.heap.size (.slice ap ks.length cp) (.slice an ks.length cn) ks W ∧ W.heap[w2.heap.size + 1 + 1]? = some (.cells #[.pointer (some ⟨w1.heap.size, 0, none⟩)] 104 (0, 0))) ∧ Below (w2.heap.size + 1) w6 W)
      (fun _ _ _ => False)
      (OwnFrom.and (Own.from (fun s A B row hs hg hr => ⟨by obtain ⟨ps, h1, h2⟩ := hs.1; exact ⟨ps, treeAt_grown h1 hg hr, h2⟩, treeIn_grown hs.2.1 hg hr, cells_grown hg hr hs.2.2⟩) _) (ownFrom_below (by omega) (by omega)))
      (fun c => fun _ _ _ _ h _ _ => h)
      ⟨⟨⟨[], hLT, List.Pairwise.nil, fun x => ⟨(fun h => by cases h), (fun h => by obtain ⟨_, e, he, _⟩ := h; cases he)⟩⟩, hTI, hbn5⟩, hBr⟩
      (fun x => { tmps := #[.slice a es.length cap, .string g, undef, undef, .slice none 0 0, .pointer (some ⟨w1.heap.size, 0, none⟩), .bool (treeB es), .pointer (some ⟨w2.heap.size, 0, none⟩), .bool true, .pointer (some ⟨w2.heap.size + 1, 0, none⟩), .string x.1.path,
        .tuple #[.agg #[.slice ap ks.length cp, .slice an ks.length cn], .bool (treeB es)], .slice a es.length cap, .tuple #[.agg #[.slice ap ks.length cp, .slice an ks.length cn], .bool (treeB es)], .agg #[.slice ap ks.length cp, .slice an ks.length cn], .bool (treeB es), .tuple #[.func (.func 106) #[] #[.pointer (some ⟨b, 0, none⟩)], .bool true], .string g, .tuple #[.func (.func 106) #[] #[.pointer (some ⟨b, 0, none⟩)], .bool true], .func (.func 106) #[] #[.pointer (some ⟨b, 0, none⟩)], .bool true, .bool true, .bool false, .agg #[.slice none 0 0, .slice none 0 0],
        .pointer (some ⟨w1.heap.size, 0, none⟩), .func (.func 87) #[] #[.pointer (some ⟨w2.heap.size + 1 + 1, 0, none⟩)], .string x.1.path, nodeV x.1, undef, undef, undef, undef, undef, undef, undef, undef], defers := [] }) ?assign ?body ?done ?stop
    case assign =>
      intro l x W K hK
      gi_wp2
      exact hK
    case stop => intro D c pre W _ _ h _; exact h.elim
    case body =>
      rintro l pre ⟨e, hx⟩ W ⟨⟨⟨ps, hL, hup, hmem⟩, hTI2, hbn⟩, hB⟩ hpl
      dsimp only
      have hT := hkt e hx
      have heb := tree_all hT e hx
      have hpx : e.path.size ≤ maxLen := by have := ent_path_len heb; unfold maxLen; omega
      have hpb := ent_pathB heb
      obtain ⟨T0, nv, hnv⟩ := nodeV_shape e
      rw [hnv]
      obtain ⟨n1, n2, n3, n4, n5, n6, n7, n8, n9⟩ := unhid HN
      have hb6 : W.heap[w2.heap.size]? = some (.cells #[.func (.func 106) #[] #[.pointer (some ⟨b, 0, none⟩)]] 95 (0, 0)) := (hB.block _ (by omega)).trans n6
      have hB2W : Below w2.heap.size w2 W := n7.trans (hB.mono (by omega))
      have htl : w2.heap.size < W.heap.size := (Array.getElem?_eq_some_iff.1 hb6).1
      have henter := eg36
      refine wpIn_block ?_
      refine wpIn_seq ?_
      refine region_in (by kernel_rfl) (by kernel_rfl) (by rintro ⟨_, _, h⟩; exact h) ?_
      refine wpAny_of_held (S := fun w' => Below W.heap.size W w') _ _ _ _ ?_
      have hS : Below W.heap.size W W.drew := drew_below _
      refine wpAnyH_take (i := 0) (v := .func (.func 106) #[] #[.pointer (some ⟨b, 0, none⟩)]) rfl (by kernel_rfl) (by kernel_rfl) (by kernel_rfl) (fun _ _ _ h => h) (Or.inl ⟨by rfl, fun w' hw => by have k0 := (cell_of_box_l ((Below.block hw _ htl).trans hb6)).1; go_simp⟩) hS ?_
      refine wpAnyH_take (i := 1) (v := .string e.path) rfl (by kernel_rfl) (by kernel_rfl) (by kernel_rfl) (fun _ _ _ h => h) (Or.inl ⟨by rfl, fun w' hw => by go_simp⟩) hS ?_
      generalize W.drew = W0 at hS ⊢
      refine wpAnyH_ready (rs := [2]) (by kernel_rfl) (by simp) ?_
      refine AllReadyH.cons rfl (fun K hK => ?_) AllReadyH.nil
      go_simp
      refine (partsOf_any e.path 47 W0).mono ?_
      rintro x W1 ⟨rfl, hW1⟩
      have h01 : Below W0.heap.size W0 W1 := by rw [hW1]; exact ((Below.refl _ W0).alloc (Nat.le_refl _) _).alloc (by simp) _
      have q0 : W1.cell? ⟨W0.heap.size, 0, none⟩ = some (.string e.path) := by rw [hW1]; exact cell_alloc_l _ (cell_new_l W0 _ _).1
      have q1 : W1.cell? ⟨W0.heap.size + 1, 0, none⟩ = some (.int .u8 47) := by rw [hW1]; have := (cell_new_l (W0.alloc (.cells #[.string e.path] 9)) (.int .u8 47) 5).1; rwa [World.size_alloc] at this
      have hS1 := hS.trans (h01.mono hS.size)
      refine hK.out _ _ hS1 (fun _ => ?_)
      clear hK K hW1 h01
      have h21 : Below w2.heap.size w2 W1 := hB2W.trans (hS1.mono (Nat.le_of_lt htl))
      have TK := hid (globTakes_any e.path hpx xs b W0.heap.size (W0.heap.size + 1) v (fun b => wt.heap.size ≤ b) W1 ((h21.cell (p := ⟨b, 0, none⟩) hbl).trans n4) (n1.kept h21.size (fun k _ hk => h21.block k hk) (fun _ h _ => h)) n2 n3 q0 q1)
      clear q0 q1
      refine wpAnyH_ready (rs := [3]) (by kernel_rfl) (by simp) ?_
      refine AllReadyH.cons rfl (fun K hK => ?_) AllReadyH.nil
      go_simp
      refine (unhid TK).mono ?_
      rintro x W2 ⟨⟨ys, hys, rfl⟩, hb12⟩
      have EM : matchO (xs.map opt9) ys = takenB g e := by rw [mat_vals, parts_vals hys, ← n5]; unfold takenB hasB; rw [ho, hpb]; rfl
      rw [EM]
      have hS2 := hS1.trans (hb12.mono hS1.size)
      refine hK.out _ _ hS2 (fun _ => ?_)
      clear hK K hb12 hys EM TK hS1 hS h21
      refine wpAnyH_done (by kernel_rfl) ?_ _
      have hO := KeepsOthers_of_below hS2
      have hL2 := hL.below hS2
      have hT2 := treeIn_below hTI2 hS2
      have hbn2 := (hS2.block _ (Array.getElem?_eq_some_iff.1 hbn).1).trans hbn
      have hbl2 : w2.heap.size + 1 ≤ W.heap.size := htl
      have hB2 : Below (w2.heap.size + 1) w6 W2 := hB.trans (hS2.mono hbl2)
      have hms : (pre ++ [(⟨e, hx⟩ : { e : Ent // e ∈ ks })]).map (·.1) = pre.map (·.1) ++ [e] := by simp
      clear n1 n2 n3 n4 n5 n6 hb6 hB2W henter hS2
      cases htk : takenB g e
      · have HF := hid (show KeepsOthers W W2 ∧ (TreeIn (w2.heap.size + 1 + 1) w1.heap.size w.heap.size (.slice ap ks.length cp) (.slice an ks.length cn) ks W → TreeIn (w2.heap.size + 1 + 1) w1.heap.size w.heap.size (.slice ap ks.length cp) (.slice an ks.length cn) ks W2) ∧ (((∃ ps, TreeAt W2 (w2.heap.size + 1) (w2.heap.size + 1) ps ∧ Up ps ∧ (∀ x, x ∈ ps ↔ x ∈ ks ∧ ∃ y ∈ (pre ++ [(⟨e, hx⟩ : { e : Ent // e ∈ ks })]).map (·.1), takenB g y = true ∧ belowB x.path.data.toList y.path.data.toList = true)) ∧ TreeIn (w2.heap.size + 1 + 1) w1.heap.size w.heap.size (.slice ap ks.length cp) (.slice an ks.length cn) ks W2 ∧ W2.heap[w2.heap.size + 1 + 1]? = some (.cells #[.pointer (some ⟨w1.heap.size, 0, none⟩)] 104 (0, 0))) ∧ Below (w2.heap.size + 1) w6 W2) from
          ⟨hO, fun _ => hT2, ⟨⟨ps, hL2, hup, fun x => by
            rw [hmem, hms]
            constructor
            · rintro ⟨h1, y, hy, h2⟩; exact ⟨h1, y, List.mem_append_left _ hy, h2⟩
            · rintro ⟨h1, y, hy, h2, h3⟩
              rcases List.mem_append.1 hy with hy | hy
              · exact ⟨h1, y, hy, h2, h3⟩
              · rw [List.mem_singleton.1 hy, htk] at h2; cases h2⟩, hT2, hbn2⟩, hB2⟩)
        clear hO hL2 hT2 hbn2 hB2 hms
        gi_wp2
        exact unhid HF
      · have hbt2 : W2.heap[w1.heap.size]? = some (.cells #[.slice ap ks.length cp, .slice an ks.length cn] 58 (0, 0)) := (hB2.block _ (by omega)).trans n9
        have hrw2 : RowsAt W2 w.heap.size (.slice ap ks.length cp) (.slice an ks.length cn) ks := ⟨ownsRow_kept n8.1 (fun g eg => hB2.block g ((unhid HLO).1 g eg)), ownsRow_kept n8.2 (fun g eg => hB2.block g ((unhid HLO).2 g eg))⟩
        have WD := hid (withDirs_any (w2.heap.size + 1) w.heap.size (w2.heap.size + 1) ps ks ap an cp cn e.path W2 hT ⟨e, hx, rfl⟩ (fun x hx => ((hmem x).1 hx).1) hup (Nat.le_refl _) (by have := hB2.size; have := hL2.lt; omega) hrw2 (unhid HLO).1 (unhid HLO).2 hL2)
        obtain ⟨d0, d1, -, -⟩ := two_cells hbt2
        have HI := hid (And.intro hO (And.intro hL2 (And.intro hT2 (And.intro hbn2 (And.intro hB2 (And.intro hms hmem))))))
        clear hO hL2 hT2 hbn2 hB2 hms hbt2 hrw2
        gi_wp2
        refine ⟨trivial, (CallsIn.inRound l (callsIn_wide.2 (unhid WD))).mono ?_⟩
        rintro x W3 ⟨⟨v, rfl⟩, L, hT3, hU3, hM3, hB3, hO3⟩
        obtain ⟨hO, hL2, hT2, hbn2, hB2, hms, hmem⟩ := unhid HI
        have hap2 : Apart (.cells #[.pointer (some ⟨w1.heap.size, 0, none⟩)] 104 (0, 0)) := apart_of (by decide)
        have HF := hid (show KeepsOthers W W3 ∧ (TreeIn (w2.heap.size + 1 + 1) w1.heap.size w.heap.size (.slice ap ks.length cp) (.slice an ks.length cn) ks W → TreeIn (w2.heap.size + 1 + 1) w1.heap.size w.heap.size (.slice ap ks.length cp) (.slice an ks.length cn) ks W3) ∧ (((∃ ps, TreeAt W3 (w2.heap.size + 1) (w2.heap.size + 1) ps ∧ Up ps ∧ (∀ x, x ∈ ps ↔ x ∈ ks ∧ ∃ y ∈ (pre ++ [(⟨e, hx⟩ : { e : Ent // e ∈ ks })]).map (·.1), takenB g y = true ∧ belowB x.path.data.toList y.path.data.toList = true)) ∧ TreeIn (w2.heap.size + 1 + 1) w1.heap.size w.heap.size (.slice ap ks.length cp) (.slice an ks.length cn) ks W3 ∧ W3.heap[w2.heap.size + 1 + 1]? = some (.cells #[.pointer (some ⟨w1.heap.size, 0, none⟩)] 104 (0, 0))) ∧ Below (w2.heap.size + 1) w6 W3) by
          have hTF : TreeIn (w2.heap.size + 1 + 1) w1.heap.size w.heap.size (.slice ap ks.length cp) (.slice an ks.length cn) ks W3 := treeIn_kept2 hT2 (fun k hk => hB3.block k hk) (by omega) (unhid HLO).1 (unhid HLO).2 (fun o ho hap => hO3 _ o (by omega) ho hap) ⟨_, _, _, hbn2, by decide⟩
          refine ⟨hO.trans ⟨hB3.size, fun k o hk hc => by
            by_cases hkb : k = w2.heap.size + 1
            · subst hkb; obtain ⟨_, _, q1, _⟩ := hL2; rw [hk] at q1; cases q1; cases hc
            · exact hO3 k o hkb hk (fun cs t f e => by subst e; cases hc)⟩, fun _ => hTF, ⟨⟨L, hT3, hU3, fun x => ?_⟩, hTF, hO3 _ _ (by omega) hbn2 hap2⟩, hB2.trans hB3⟩
          rw [hM3, hmem, hms]
          constructor
          · rintro (⟨h1, y, hy, h2⟩ | ⟨h1, h2⟩)
            · exact ⟨h1, y, List.mem_append_left _ hy, h2⟩
            · exact ⟨h1, e, by simp, htk, h2⟩
          · rintro ⟨h1, y, hy, h2, h3⟩
            rcases List.mem_append.1 hy with hy | hy
            · exact .inl ⟨h1, y, hy, h2, h3⟩
            · rw [List.mem_singleton.1 hy] at h3; exact .inr ⟨h1, h3⟩)
        clear hT3 hU3 hM3 hB3 hO3 hO hL2 hT2 hbn2 hB2 hms hap2
        gi_wp2
        exact unhid HF
    case done =>
      rintro D ys W hD hys ⟨⟨⟨ps, hL, hup, hmem⟩, hTI2, hbn⟩, hB⟩ hK
      have hps : ps = partL g ks := by
        refine up_ext hup (partL_up (asc_up hka)) (fun x => ?_)
        rw [hmem, hys]
        constructor
        · rintro ⟨h1, h2⟩; exact (partL_iff (hkt x h1) x).2 ⟨h1, h2⟩
        · intro h
          have h1 : x ∈ ks := (List.mem_filter.1 h).1
          exact (partL_iff (hkt x h1) x).1 h
      subst hps
      have hlen : (partL g ks).length ≤ 1000 := by have := partL_len g ks; omega
      have ENT := hid (entries_any (w2.heap.size + 1) (w2.heap.size + 1) (partL g ks) W hlen (fun e he => tree_all (hkt e (List.mem_filter.1 he).1) e (List.mem_filter.1 he).1) hL)
      have hBW : Below w.heap.size w W := hBw.trans (hB.mono (by omega))
      have HI := hid (And.intro hBW hK)
      have hDl := (Array.getElem?_eq_some_iff.1 hK).1
      clear hL hTI2 hbn hB hK hlen hmem hup hBW
      gi_wp2
      refine ⟨trivial, (callsIn_wide.2 (unhid ENT)).mono ?_⟩
      rintro x W3 ⟨v, rfl, hown, hb3⟩
      obtain ⟨va, vc, rfl⟩ := ownsRow_slice hown
      obtain ⟨hB, hK⟩ := unhid HI
      have hK3 := (hb3.block _ hDl).trans hK
      have hB3 := hB.trans (hb3.mono hB.size)
      have HF := hid (And.intro hown (And.intro hB3 (And.intro hK3 hB.size)))
      clear hown hb3 hB hK hK3 hB3
      gi_wp2
      refine ⟨by simp, .inl ⟨_, _, rfl, run_takeDeferred (unhid HF).2.2.1, ?_⟩⟩
      obtain ⟨hown, hB3, hK3, hszW⟩ := unhid HF
      have hg := grownBy_putObj' W3 D (.deferred none)
      have hr : ∀ r, some D = some r → ∃ o : Obj, W3.heap[r]? = some o ∧ o.isCells = false := fun r e => by cases e; exact ⟨_, hK3, rfl⟩
      refine ⟨.slice va (partL g ks).length vc, ?_, _, rfl, by rw [unhid HPR]; exact ownsRow_base (row_grown hg hr hown) hszW, hB3.trans (belowK_b (w := w) (Nat.le_refl _) _ D _ _ (by omega) hK3 rfl rfl)⟩
      simp [results, Try.f39, go_sem]
end Go.Proofs.Ytaefjibnnbdaaaa

/- A part of a tree, by the model. -/
namespace Go.Proofs.Ytaefjibnnbdaaaa
open Go.RowKit Go.Shelf

set_option maxRecDepth 100000 in
set_option maxHeartbeats 4000000 in
theorem l2Needed_any (es : List Ent) (g d : ByteArray) (a : Option Addr) (cap : Nat) (w : World) (hs : smallE es) (hg : g.size ≤ 1048576) (hd : d.size ≤ 1048576) (h : EntsAt w a es) :
    Calls Try.prog 76 #[.slice a es.length cap, .string g, .string d] w fun x w' => x = .returned (.bool (neededB g es d)) ∧ Below w.heap.size w w' := by
  have hn := hs.1
  have HS := hid hs
  have HH := hid h
  clear hs h
  go_enter Try.func76, Try.ntmps76
  go_wp2_with fail
  go_loopw [7] (fun i wr => ∃ k : Nat, k ≤ es.length ∧ i = .int .i64 (k : Int) ∧ Hid (neededB g (es.take k) d = false) ∧ Hid (Below w.heap.size w wr)) (fun i _ => es.length - (intOf i).toNat)
  case atStart => exact ⟨0, Nat.zero_le _, rfl, hid rfl, hid (Below.refl _ _)⟩
  case round =>
    obtain ⟨k, hk, rfl, HNO, HB⟩ := hrel
    by_cases hlt : k < es.length
    · obtain ⟨e, he⟩ : ∃ e, es[k]? = some e := ⟨es[k], List.getElem?_eq_getElem hlt⟩
      obtain ⟨bb, o, rfl, hbl, hc⟩ := (unhid HH).get (by intro e0; subst e0; simp at hlt)
      have c0 := ((hc k e he).below (unhid HB) hbl).c0
      have hpe := ((unhid HS).2 e (List.mem_of_getElem? he)).1
      have HST := hid (show neededB g (es.take (k + 1)) d = (neededB g (es.take k) d || (belowB d.data.toList e.path.data.toList && takenB g e)) by unfold neededB; rw [List.take_add_one, he, List.any_append]; simp)
      have HY := hid (show (belowB d.data.toList e.path.data.toList && takenB g e) = true → neededB g es d = true from fun h => List.any_eq_true.2 ⟨e, List.mem_of_getElem? he, h⟩)
      clear he hc
      cases hb : belowB d.data.toList e.path.data.toList
      · rw [hb] at HST
        go_wp2_with fail
        refine (l1Below_any d e.path (by unfold maxLen; omega) (by unfold maxLen; omega) _).mono ?_
        rintro x w2 ⟨rfl, e2⟩
        subst e2
        rw [hb]
        go_wp2_with fail
        go_roundw
        case rel => exact ⟨k + 1, by omega, by go_num, hid (by rw [unhid HST, unhid HNO]; rfl), HB⟩
        case measure => simp [intOf]; omega
      · rw [hb] at HST HY
        go_wp2_with fail
        refine (l1Below_any d e.path (by unfold maxLen; omega) (by unfold maxLen; omega) _).mono ?_
        rintro x w2 ⟨rfl, e2⟩
        subst e2
        rw [hb]
        go_wp2_with fail
        refine (specGlobHas_any g e.path hg hpe _).mono ?_
        rintro x w3 ⟨rfl, hb3⟩
        have HB3 := hid ((unhid HB).trans (hb3.mono (unhid HB).size))
        clear hb3 HB
        rw [show hasB g.data.toList e.path.data.toList = takenB g e from rfl]
        cases ht : takenB g e
        · rw [ht] at HST
          go_wp2_with fail
          go_roundw
          case rel => exact ⟨k + 1, by omega, by go_num, hid (by rw [unhid HST, unhid HNO]; rfl), HB3⟩
          case measure => simp [intOf]; omega
        · have E := hid (unhid HY (by rw [ht]; rfl))
          go_wp2_with fail
          go_ret
          exact ⟨by rw [unhid E]; rfl, unhid HB3⟩
    · have e : k = es.length := by omega
      subst e
      rw [List.take_of_length_le (Nat.le_refl _)] at HNO
      go_wp2_with fail
      go_ret
      exact ⟨by rw [unhid HNO]; rfl, unhid HB⟩

def keepB (g : ByteArray) (ks : List Ent) (e : Ent) : Bool := takenB g e || (e.kind == 1 && neededB g ks e.path)
def keptP (g : ByteArray) (ks : List Ent) (xs : List Ent) : List Ent := xs.filter (keepB g ks)
theorem keptP_yes {g : ByteArray} {ks es : List Ent} {k : Nat} {e : Ent} (he : es[k]? = some e) (h : keepB g ks e = true) : keptP g ks (es.take (k + 1)) = keptP g ks (es.take k) ++ [e] := by
  unfold keptP; rw [List.take_add_one, he, List.filter_append]; simp [h]
theorem keptP_no {g : ByteArray} {ks es : List Ent} {k : Nat} {e : Ent} (he : es[k]? = some e) (h : keepB g ks e = false) : keptP g ks (es.take (k + 1)) = keptP g ks (es.take k) := by
  unfold keptP; rw [List.take_add_one, he, List.filter_append]; simp [h]

set_option maxRecDepth 100000 in
set_option maxHeartbeats 4000000 in
theorem specTreePart_any (es : List Ent) (g : ByteArray) (b o cap : Nat) (w : World) (hs : smallE es) (hg : g.size ≤ 1048576) (h : ∀ (i : Nat) e, es[i]? = some e → EntAt w b (o + i * 4) e) (hb : b < w.heap.size) :
    Calls Try.prog 37 #[.slice (some ⟨b, o, none⟩) es.length cap, .string g] w fun x w' => ∃ v, x = .returned v ∧ w'.ownsRow w.heap.size 27 4 v (partR g es).length (valsOf (partR g es)) ∧ Below w.heap.size w w' := by
  obtain ⟨i0, hi0, hz0, hzs, hzb⟩ := info_parts infoEntry
  have HI := hid (And.intro hi0 (And.intro hz0 (And.intro hzs hzb)))
  have hn := hs.1
  have HS := hid hs
  have HH := hid h
  have HF0 := hid (And.intro (owns_empty w w.heap.size (Nat.le_refl _) 27) ((Below.refl w.heap.size w).alloc (Nat.le_refl _) (.cells #[] 27)))
  clear hi0 hz0 hzs hzb hs h
  have atW : ∀ W, Below w.heap.size w W → EntsAt W (some ⟨b, o, none⟩) es := fun W hW => .inr ⟨b, o, rfl, Nat.lt_of_lt_of_le hb hW.size, entAt_below (unhid HH) (.inr hb) hW⟩
  have ATW := hid atW
  clear atW
  cases hT : treeB es
  · have E := hid (show partR g es = [] by unfold partR; rw [keptE_no hT]; rfl)
    by_cases h0 : es = []
    · subst h0
      go_enter Try.func37, Try.ntmps37
      go_wp2_with fail
      go_loopw [5, 6] (fun v i wr => i = .int .i64 0 ∧ v = .slice (some ⟨w.heap.size, 0, none⟩) 0 0 ∧ wr = w.alloc (.cells #[] 27)) (fun _ _ _ => 0)
      case atStart => exact ⟨rfl, rfl, rfl⟩
      case round =>
        obtain ⟨rfl, rfl, rfl⟩ := hrel
        go_wp2_with fail
        go_ret
        exact ⟨_, rfl, by rw [unhid E]; exact (unhid HF0).1, (unhid HF0).2⟩
    · have hl0 : (0 : Int) < (es.length : Int) := by have := List.length_pos_iff.2 h0; omega
      clear h0
      go_enter Try.func37, Try.ntmps37
      go_wp2_with fail
      go_loopw [5, 6] (fun v i wr => i = .int .i64 0 ∧ v = .slice (some ⟨w.heap.size, 0, none⟩) 0 0 ∧ wr = w.alloc (.cells #[] 27)) (fun _ _ _ => 0)
      case atStart => exact ⟨rfl, rfl, rfl⟩
      case round =>
        obtain ⟨rfl, rfl, rfl⟩ := hrel
        go_wp2_with fail
        refine (specTreeOk_any es _ cap _ (unhid HS) (unhid ATW _ (unhid HF0).2)).mono ?_
        rintro x w2 ⟨rfl, hb2⟩
        rw [hT]
        have HF := hid (And.intro (ownsRow_kept (unhid HF0).1 (fun g e => hb2.block g ((unhid HF0).1.lt g e).2)) ((unhid HF0).2.trans (hb2.mono (unhid HF0).2.size)))
        clear hb2
        go_wp2_with fail
        go_ret
        exact ⟨_, rfl, by rw [unhid E]; exact (unhid HF).1, (unhid HF).2⟩
  · have E := hid (show partR g es = keptP g es es by unfold partR; rw [keptE_yes hT]; rfl)
    have HT := hid hT
    clear hT
    go_enter Try.func37, Try.ntmps37
    go_wp2_with fail
    go_loopw [5, 6] (fun v i wr => ∃ k : Nat, k ≤ es.length ∧ i = .int .i64 (k : Int) ∧ Hid (wr.ownsRow w.heap.size 27 4 v (keptP g es (es.take k)).length (valsOf (keptP g es (es.take k)))) ∧ Hid (Below w.heap.size w wr)) (fun _ i _ => es.length - (intOf i).toNat)
    case atStart => exact ⟨0, Nat.zero_le _, rfl, hid (by simp [keptP, valsOf]; exact (unhid HF0).1), hid (unhid HF0).2⟩
    case round =>
      obtain ⟨k, hk, rfl, HO, HB⟩ := hrel
      obtain ⟨va, vc, rfl⟩ := ownsRow_slice (unhid HO)
      by_cases hlt : k < es.length
      · obtain ⟨e, he⟩ : ∃ e, es[k]? = some e := ⟨es[k], List.getElem?_eq_getElem hlt⟩
        have hpe := ((unhid HS).2 e (List.mem_of_getElem? he)).1
        have hdl : (keptP g es (es.take k)).length ≤ es.length := Nat.le_trans (List.length_filter_le _ _) (by simp; omega)
        have HE := hid he
        have HY := hid (fun h => keptP_yes (g := g) (ks := es) he h)
        have HNO := hid (fun h => keptP_no (g := g) (ks := es) he h)
        clear he
        go_wp2_with fail
        refine (specTreeOk_any es _ cap _ (unhid HS) (unhid ATW _ (unhid HB))).mono ?_
        rintro x w2 ⟨rfl, hb2⟩
        rw [unhid HT]
        have HO2 := hid (ownsRow_kept (unhid HO) (fun g e => hb2.block g ((unhid HO).lt g e).2))
        have HB2 := hid ((unhid HB).trans (hb2.mono (unhid HB).size))
        clear hb2 HO HB
        obtain ⟨c0, c1, c2, c3⟩ := ((unhid HH) k e (unhid HE)).below (unhid HB2) hb
        go_wp2_with fail
        refine (specGlobHas_any g e.path hg hpe _).mono ?_
        rintro x w3 ⟨rfl, hb3⟩
        have HO3 := hid (ownsRow_kept (unhid HO2) (fun g e => hb3.block g ((unhid HO2).lt g e).2))
        have HB3 := hid ((unhid HB2).trans (hb3.mono (unhid HB2).size))
        clear hb3 HO2 HB2 c0 c1 c2 c3
        rw [show hasB g.data.toList e.path.data.toList = takenB g e from rfl]
        cases htk : takenB g e
        · cases hkb : (e.kind == 1)
          case true =>
            obtain ⟨c0, c1, c2, c3⟩ := ((unhid HH) k e (unhid HE)).below (unhid HB3) hb
            go_wp2_with fail
            refine (l2Needed_any es g e.path _ cap _ (unhid HS) hg hpe (unhid ATW _ (unhid HB3))).mono ?_
            rintro x w4 ⟨rfl, hb4⟩
            have HO4 := hid (ownsRow_kept (unhid HO3) (fun g e => hb4.block g ((unhid HO3).lt g e).2))
            have HB4 := hid ((unhid HB3).trans (hb4.mono (unhid HB3).size))
            clear hb4 HO3 HB3 c0 c1 c2 c3
            cases hnd : neededB g es e.path
            · have HYE := hid (unhid HNO (by unfold keepB; rw [htk, hkb, hnd]; rfl))
              obtain ⟨c0, c1, c2, c3⟩ := ((unhid HH) k e (unhid HE)).below (unhid HB4) hb
              go_wp2_with fail
              go_roundw
              case rel => exact ⟨k + 1, by omega, by go_num, hid (by rw [unhid HYE]; exact unhid HO4), HB4⟩
              case measure => simp [intOf]; omega
            · have HYE := hid (unhid HY (by unfold keepB; rw [htk, hkb, hnd]; rfl))
              obtain ⟨c0, c1, c2, c3⟩ := ((unhid HH) k e (unhid HE)).below (unhid HB4) hb
              have hsz := (unhid HB4).size
              have HOa := hid ((unhid HO4).alloc (.cells #[.string e.path, .int .i64 e.kind, .int .i64 e.mode, .string e.text] 27))
              have HBa := hid ((unhid HB4).alloc hsz (.cells #[.string e.path, .int .i64 e.kind, .int .i64 e.mode, .string e.text] 27))
              go_wp2_with (at_builtin; refine wpList_append_own _ rfl _ _ 23 rfl w.heap.size 27 i0 _ 4 48 Try.underlying23 (unhid HI).1 (unhid HI).2.1 (unhid HI).2.2.1 (unhid HI).2.2.2 rfl (by decide) _ (keptP g es (es.take k)).length (valsOf (keptP g es (es.take k))) rfl (unhid HOa) ⟨w4.heap.size, 0, none⟩ 1 1 [.string e.path, .int .i64 e.kind, .int .i64 e.mode, .string e.text] rfl rfl (lit_cells w4 _ _ _ _ _) ?c2 ?c3 ?c4 ?c5 ?_)
              case c2 => intro u hu; simp at hu; rcases hu with rfl | rfl | rfl | rfl <;> rfl
              case c3 => unfold maxLen; omega
              case c4 => omega
              case c5 => simp; omega
              intro v' w9 hown hgr _
              obtain ⟨a2, cap2, rfl⟩ := ownsRow_slice hown
              have HF := hid (show w9.ownsRow w.heap.size 27 4 (.slice a2 ((keptP g es (es.take k)).length + 1) cap2) (keptP g es (es.take (k + 1))).length (valsOf (keptP g es (es.take (k + 1)))) ∧ Below w.heap.size w w9 from
                ⟨by rw [unhid HYE, List.length_append, valsOf_snoc]; exact hown, (unhid HBa).grown hgr (unhid HBa).size (fun k e => ((unhid HOa).lt k e).1)⟩)
              clear hown hgr
              go_wp2_with fail
              go_roundw
              case rel => exact ⟨k + 1, by omega, by go_num, hid (unhid HF).1, hid (unhid HF).2⟩
              case measure => simp [intOf]; omega
          case false =>
            have HYE := hid (unhid HNO (by unfold keepB; rw [htk, hkb]; rfl))
            obtain ⟨c0, c1, c2, c3⟩ := ((unhid HH) k e (unhid HE)).below (unhid HB3) hb
            go_wp2_with fail
            go_roundw
            case rel => exact ⟨k + 1, by omega, by go_num, hid (by rw [unhid HYE]; exact unhid HO3), HB3⟩
            case measure => simp [intOf]; omega
        · have HYE := hid (unhid HY (by unfold keepB; rw [htk]; rfl))
          obtain ⟨c0, c1, c2, c3⟩ := ((unhid HH) k e (unhid HE)).below (unhid HB3) hb
          have hsz := (unhid HB3).size
          have HOa := hid ((unhid HO3).alloc (.cells #[.string e.path, .int .i64 e.kind, .int .i64 e.mode, .string e.text] 27))
          have HBa := hid ((unhid HB3).alloc hsz (.cells #[.string e.path, .int .i64 e.kind, .int .i64 e.mode, .string e.text] 27))
          go_wp2_with (at_builtin; refine wpList_append_own _ rfl _ _ 23 rfl w.heap.size 27 i0 _ 4 48 Try.underlying23 (unhid HI).1 (unhid HI).2.1 (unhid HI).2.2.1 (unhid HI).2.2.2 rfl (by decide) _ (keptP g es (es.take k)).length (valsOf (keptP g es (es.take k))) rfl (unhid HOa) ⟨w3.heap.size, 0, none⟩ 1 1 [.string e.path, .int .i64 e.kind, .int .i64 e.mode, .string e.text] rfl rfl (lit_cells w3 _ _ _ _ _) ?c2 ?c3 ?c4 ?c5 ?_)
          case c2 => intro u hu; simp at hu; rcases hu with rfl | rfl | rfl | rfl <;> rfl
          case c3 => unfold maxLen; omega
          case c4 => omega
          case c5 => simp; omega
          intro v' w9 hown hgr _
          obtain ⟨a2, cap2, rfl⟩ := ownsRow_slice hown
          have HF := hid (show w9.ownsRow w.heap.size 27 4 (.slice a2 ((keptP g es (es.take k)).length + 1) cap2) (keptP g es (es.take (k + 1))).length (valsOf (keptP g es (es.take (k + 1)))) ∧ Below w.heap.size w w9 from
            ⟨by rw [unhid HYE, List.length_append, valsOf_snoc]; exact hown, (unhid HBa).grown hgr (unhid HBa).size (fun k e => ((unhid HOa).lt k e).1)⟩)
          clear hown hgr
          go_wp2_with fail
          go_roundw
          case rel => exact ⟨k + 1, by omega, by go_num, hid (unhid HF).1, hid (unhid HF).2⟩
          case measure => simp [intOf]; omega
      · have e : k = es.length := by omega
        subst e
        rw [List.take_of_length_le (Nat.le_refl _)] at HO ⊢
        go_wp2_with fail
        go_ret
        exact ⟨_, rfl, by rw [unhid E]; exact unhid HO, unhid HB⟩
end Go.Proofs.Ytaefjibnnbdaaaa

/- How long a part of a tree is. -/
namespace Go.Proofs.Ytaefjibnnbdaaaa
open Go.RowKit

theorem partR_len (g : ByteArray) (es : List Ent) : (partR g es).length ≤ 100 := by
  have h1 := partL_len g (keptE es)
  have h2 := (kept_asc es).2
  unfold partR
  omega
end Go.Proofs.Ytaefjibnnbdaaaa

/- What a law over an answer that is a row of entries keeps from call to call. -/
namespace Go.Proofs.Ytaefjibnnbdaaaa
open Go.RowKit Go.Shelf

/-- The model's answer, the argument's copy and the program's answer lie one behind the other; nothing that was there ahead has changed. -/
structure St (w W : World) (aS aX aG : Option Addr) (M1 M2 M3 : Nat) (rs xs gs : List Ent) : Prop where
  b : Below w.heap.size w W
  s : RowIn W aS w.heap.size M1 rs
  x : RowIn W aX M1 M2 xs
  g : RowIn W aG M2 M3 gs
  m1 : w.heap.size ≤ M1
  m2 : M1 ≤ M2
  m3 : M2 ≤ M3
  m4 : M3 ≤ W.heap.size
theorem St.below {w W W' : World} {aS aX aG : Option Addr} {M1 M2 M3 : Nat} {rs xs gs : List Ent} (h : St w W aS aX aG M1 M2 M3 rs xs gs) (hb : Below W.heap.size W W') : St w W' aS aX aG M1 M2 M3 rs xs gs :=
  ⟨h.b.trans (hb.mono h.b.size), h.s.below hb, h.x.below hb, h.g.below hb, h.m1, h.m2, h.m3, Nat.le_trans h.m4 hb.size⟩
theorem St.markX {w W W' : World} {aS aX aG : Option Addr} {M1 M2 M3 : Nat} {rs xs xs' gs : List Ent} (h : St w W aS aX aG M1 M2 M3 rs xs gs) (hs : Spares M1 M2 W W') (hx : RowIn W' aX M1 M2 xs') : St w W' aS aX aG M1 M2 M3 rs xs' gs :=
  ⟨hs.below h.b h.m1, hs.row h.s (.inl (Nat.le_refl _)), hx, hs.row h.g (.inr (Nat.le_refl _)), h.m1, h.m2, h.m3, Nat.le_trans h.m4 hs.size⟩
theorem St.markG {w W W' : World} {aS aX aG : Option Addr} {M1 M2 M3 : Nat} {rs xs gs gs' : List Ent} (h : St w W aS aX aG M1 M2 M3 rs xs gs) (hs : Spares M2 M3 W W') (hg : RowIn W' aG M2 M3 gs') : St w W' aS aX aG M1 M2 M3 rs xs gs' :=
  ⟨hs.below h.b (Nat.le_trans h.m1 h.m2), hs.row h.s (.inl h.m2), hs.row h.x (.inl (Nat.le_refl _)), hg, h.m1, h.m2, h.m3, Nat.le_trans h.m4 hs.size⟩
theorem St.init (w : World) : St w w none none none w.heap.size w.heap.size w.heap.size [] [] [] :=
  ⟨Below.refl _ _, .inl rfl, .inl rfl, .inl rfl, Nat.le_refl _, Nat.le_refl _, Nat.le_refl _, Nat.le_refl _⟩
theorem St.init_b {w W : World} (h : Below w.heap.size w W) : St w W none none none w.heap.size w.heap.size w.heap.size [] [] [] :=
  ⟨h, .inl rfl, .inl rfl, .inl rfl, Nat.le_refl _, Nat.le_refl _, Nat.le_refl _, h.size⟩
/-- The model has answered. -/
theorem St.setS {w W W' : World} {aS : Option Addr} {rs : List Ent} (h : Below w.heap.size w W) (hb : Below W.heap.size W W') (hs : RowIn W' aS W.heap.size W'.heap.size rs) : St w W' aS none none W'.heap.size W'.heap.size W'.heap.size rs [] [] :=
  ⟨h.trans (hb.mono h.size), hs.wide h.size (Nat.le_refl _), .inl rfl, .inl rfl, Nat.le_trans h.size hb.size, Nat.le_refl _, Nat.le_refl _, Nat.le_refl _⟩
/-- The argument was copied. -/
theorem St.setX {w W W' : World} {aS aX : Option Addr} {M : Nat} {rs xs : List Ent} (h : St w W aS none none M M M rs [] []) (hb : Below W.heap.size W W') (hx : RowIn W' aX W.heap.size W'.heap.size xs) : St w W' aS aX none M W'.heap.size W'.heap.size rs xs [] :=
  ⟨h.b.trans (hb.mono h.b.size), h.s.below hb, hx.wide h.m4 (Nat.le_refl _), .inl rfl, h.m1, Nat.le_trans h.m4 hb.size, Nat.le_refl _, Nat.le_refl _⟩
/-- The program has answered. -/
theorem St.setG {w W W' : World} {aS aX aG : Option Addr} {M1 M2 M3 : Nat} {rs xs gs : List Ent} (h : St w W aS aX none M1 M2 M3 rs xs []) (hb : Below W.heap.size W W') (hg : RowIn W' aG W.heap.size W'.heap.size gs) : St w W' aS aX aG M1 M2 W'.heap.size rs xs gs :=
  ⟨h.b.trans (hb.mono h.b.size), h.s.below hb, h.x.below hb, hg.wide (Nat.le_trans h.m3 h.m4) (Nat.le_refl _), h.m1, h.m2, Nat.le_trans h.m3 (Nat.le_trans h.m4 hb.size), Nat.le_refl _⟩
theorem EntRow.rowIn {W : World} {g N M : Nat} {es : List Ent} (x : EntRow W g 27 es.length (entFn es)) (hN : N ≤ g) (hM : g < M) : RowIn W (some ⟨g, 0, none⟩) N M es := by
  obtain ⟨cur, h1, h2, h3⟩ := x
  exact .inr ⟨g, rfl, hN, hM, cur, h1, by omega, h3⟩
theorem EntRow.ents {W : World} {g : Nat} {es : List Ent} (x : EntRow W g 27 es.length (entFn es)) : ∀ (i : Nat) e, es[i]? = some e → EntAt W g (0 + i * 4) e := fun i e hi => by
  have := (x.cells i (List.getElem?_eq_some_iff.1 hi).1).1
  rw [entFn_get hi] at this
  rwa [Nat.zero_add]
theorem RowIn.len_marks {W : World} {a : Option Addr} {N M q n : Nat} (h : RowIn W a N M (marks q n)) : EntsAt W a (marks q n) := h.at
end Go.Proofs.Ytaefjibnnbdaaaa
