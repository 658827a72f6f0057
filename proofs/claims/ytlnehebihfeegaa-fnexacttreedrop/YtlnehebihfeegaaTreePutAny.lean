/- An entry put into a tree, if it can be, wherever its place is. -/
import Derived.Test.YtlnehebihfeegaaTreePutIns
import Derived.Test.YtlnehebihfeegaaTreeAgain
namespace Go.Proofs.Ytlnehebihfeegaa
open Go.RowKit Go.Shelf

theorem ownsRow_set {W : World} {N n j g : Nat} {v u : Value} {e : TypeId} {xs : List Value} (h : W.ownsRow N e 1 v n xs) (hj : j < n) (hg : v.ownBlock = some g) : (W.setCell ⟨g, j, .none⟩ u).ownsRow N e 1 v n (xs.set j u) := by
  refine ⟨by simpa using h.1, ?_⟩
  rcases h.2 with ⟨rfl, h0⟩ | ⟨g', cap, cur, rfl, hN, hh, hc, hm, hsz, hcells⟩
  · omega
  · cases hg
    refine .inr ⟨g', cap, cur.setIfInBounds j u, rfl, hN, heap_setCell_same _ g' j _ _ _ hh, hc, hm, by simpa using hsz, ?_⟩
    rw [Array.toList_setIfInBounds, List.take_set, hcells]

set_option maxRecDepth 100000 in
set_option maxHeartbeats 4000000 in
theorem mapPut_over (N bt : Nat) (es : List Ent) (e : Ent) (w : World) (hn : es.length ≤ 900) (ha : Asc (pathsOf es)) (ht0 : thereE es e.path = true) (h : TreeAt w N bt es) :
    Calls Try.prog 56 #[.pointer (some ⟨bt, 0, .none⟩), .string e.path, nodeV e] w fun x w' => (∃ v, x = .returned v) ∧ TreeAt w' N bt (es.set (placeE es e.path) e) ∧ Below N w w' ∧ ∀ k o, k ≠ bt → w.heap[k]? = some o → Apart o → w'.heap[k]? = some o := by
  have hbl := h.lt
  obtain ⟨vp, vn, h1, h2, h3⟩ := h
  obtain ⟨a, cap, hva, hT⟩ := texts_of h2
  have hpn : (pathsOf es).length = es.length := by simp [pathsOf]
  have hl : (pathsOf es).length ≤ 1048576 := by omega
  have ht : thereP (pathsOf es) e.path = true := by rw [thereP_E, ht0]
  obtain ⟨old, hj, hpo⟩ := there_get ht0
  have hjl : placeE es e.path < es.length := (List.getElem?_eq_some_iff.1 hj).1
  have hS := BinarySearch_any (pathsOf es) a cap e.path w hl ha hT
  rw [placeP_E, ht, hpn] at hS
  rw [hpn] at hva
  subst hva
  obtain ⟨T, nv, hV⟩ := nodeV_shape e
  have hse : (es.set (placeE es e.path) e).map nodeV = (es.map nodeV).set (placeE es e.path) (nodeV e) := by rw [List.map_set]
  have hsp : (es.set (placeE es e.path) e).map (fun e => Value.string e.path) = es.map (fun e => .string e.path) := by
    rw [List.map_set]
    apply List.ext_getElem?
    intro i
    rw [List.getElem?_set]
    split
    · rename_i hi
      subst hi
      rw [if_pos (by simpa using hjl), List.getElem?_map, hj, Option.map_some, hpo]
    · rfl
  obtain ⟨g, cap2, cur, rfl, hgN, hg, hszc⟩ : ∃ g cap2 cur, vn = .slice (some ⟨g, 0, .none⟩) es.length cap2 ∧ N ≤ g ∧ w.heap[g]? = some (.cells cur 63 (0, 0)) ∧ placeE es e.path < cur.size ∧ es.length ≤ cap2 := by
    rcases h3.2 with ⟨rfl, h0⟩ | ⟨g, cap, cur, rfl, hN', hg, hc, _, hsz, hcells⟩
    · omega
    · exact ⟨g, cap, cur, rfl, hN', hg, by omega, hc⟩
  have hFT : TreeAt (w.setCell ⟨g, placeE es e.path, .none⟩ (nodeV e)) N bt (es.set (placeE es e.path) e) := by
    refine ⟨.slice a es.length cap, .slice (some ⟨g, 0, .none⟩) es.length cap2, ?_, ?_, ?_⟩
    · rw [Below.heap_setCell _ _ _ _ (type_ne hg h1 (by decide)).symm]; exact h1
    · rw [List.length_set, hsp]
      refine ownsRow_kept h2 (fun g' eg => Below.heap_setCell _ _ _ _ (fun eq => ?_))
      obtain ⟨cur', hc'⟩ := (show ∃ cur', w.heap[g']? = some (.cells cur' 9 (0, 0)) by
        rcases h2.2 with ⟨hh, _⟩ | ⟨g'', cap'', cur'', hv, _, hh, _⟩
        · rw [hh] at eg; cases eg
        · rw [hv] at eg; cases eg; exact ⟨_, hh⟩)
      exact type_ne hg hc' (by decide) eq.symm
    · rw [List.length_set, hse]
      exact ownsRow_set h3 hjl rfl
  have hFB : Below N w (w.setCell ⟨g, placeE es e.path, .none⟩ (nodeV e)) := (Below.refl _ _).setCell hgN _
  have hFO : ∀ k o, k ≠ bt → w.heap[k]? = some o → Apart o → (w.setCell ⟨g, placeE es e.path, .none⟩ (nodeV e)).heap[k]? = some o := fun k o _ ho hap =>
    (Below.heap_setCell _ _ _ _ (fun eq => by
      have eq' : k = g := eq
      subst eq'
      rw [ho] at hg; cases hg; exact (hap _ _ _ rfl).2 rfl)).trans ho
  have HF := hid (And.intro hFT (And.intro hFB hFO))
  clear hFT hFB hFO hse hsp
  rw [hV] at HF ⊢
  obtain ⟨hsz1, hle⟩ := hszc
  have n0 : ∃ u, w.cell? ⟨g, placeE es e.path, .none⟩ = some u := ⟨cur[placeE es e.path], by simp [World.cell?, hg, hsz1]⟩
  obtain ⟨u, n0⟩ := n0
  have m0 : w.frozen? ⟨g, placeE es e.path, .none⟩ = false := by simp [World.frozen?, hg]
  have HS := hid hS
  obtain ⟨c0, c1, f0, f1⟩ := two_cells h1
  clear hT ha hl ht h1 h2 h3 hpn hj hS hV hg ht0 hpo hsz1
  generalize placeE es e.path = j at HS HF hjl n0 m0 ⊢
  go_enter Try.func56, Try.ntmps56
  go_wp2_with fail
  refine (unhid HS).mono ?_
  rintro x w1 ⟨rfl, hw1⟩
  rw [hw1]
  clear hw1
  go_wp2_with fail
  first | go_end0 | refine bodyPost_ret (results_none rfl _ _ _) rfl ?_
  exact ⟨⟨_, rfl⟩, unhid HF⟩

/-- Entries with one put in. -/
def putT (es : List Ent) (e : Ent) : List Ent := if thereE es e.path then es.set (placeE es e.path) e else insAt es e
theorem mapPut_any (N bt : Nat) (es : List Ent) (e : Ent) (w : World) (hn : es.length ≤ 900) (ha : Asc (pathsOf es)) (hN : N ≤ bt) (h : TreeAt w N bt es) :
    Calls Try.prog 56 #[.pointer (some ⟨bt, 0, .none⟩), .string e.path, nodeV e] w fun x w' => (∃ v, x = .returned v) ∧ TreeAt w' N bt (putT es e) ∧ Kept N bt w w' := by
  cases ht : thereE es e.path
  · have : putT es e = insAt es e := by unfold putT; rw [ht]; rfl
    rw [this]
    exact mapPut_ins N bt es e w hn ha hN ht h
  · have : putT es e = es.set (placeE es e.path) e := by unfold putT; rw [ht]; rfl
    rw [this]
    exact mapPut_over N bt es e w hn ha ht h

/-- Whether an entry can be put. -/
def okPut (es : List Ent) (e : Ent) : Bool := entB e && (dirE es (pathUpS e.path) && (if thereE es e.path then (entFn es (placeE es e.path)).kind == e.kind else decide (es.length ≠ 16)))
def putL (es : List Ent) (e : Ent) : List Ent := if okPut es e then putT es e else es
theorem putL_no {es : List Ent} {e : Ent} (h : okPut es e = false) : putL es e = es := by unfold putL; rw [h]; rfl
theorem putL_ins {es : List Ent} {e : Ent} (h : okPut es e = true) (ht : thereE es e.path = false) : putL es e = insAt es e := by unfold putL putT; rw [h, ht]; rfl
theorem putL_set {es : List Ent} {e : Ent} (h : okPut es e = true) (ht : thereE es e.path = true) : putL es e = es.set (placeE es e.path) e := by unfold putL putT; rw [h, ht]; rfl

set_option maxRecDepth 100000 in
set_option maxHeartbeats 8000000 in
theorem putEntry_any (N bt : Nat) (es : List Ent) (e : Ent) (w : World) (hp : e.path.size ≤ maxLen) (htx : e.text.size ≤ maxLen) (hn : es.length ≤ 16) (ha : Asc (pathsOf es)) (hall : ∀ x ∈ es, entB x = true) (hN : N ≤ bt) (h : TreeAt w N bt es) :
    Calls Try.prog 46 #[.pointer (some ⟨bt, 0, .none⟩), .agg e.vals] w fun x w' => x = .returned (.bool (okPut es e)) ∧ TreeAt w' N bt (putL es e) ∧ Kept N bt w w' := by
  have hbl := h.lt
  have HT := hid ha
  have hNw : N ≤ w.heap.size := by omega
  have h0 : TreeAt (w.alloc (.cells #[.string e.path, .int .i64 e.kind, .int .i64 e.mode, .string e.text] 27)) N bt es := h.below ((Below.refl _ w).alloc (Nat.le_refl _) _)
  have hk0 : Kept N bt w (w.alloc (.cells #[.string e.path, .int .i64 e.kind, .int .i64 e.mode, .string e.text] 27)) := Kept.of_below ((Below.refl _ w).alloc (Nat.le_refl _) _) hNw
  have hnw := World.alloc_heap_new w (.cells #[.string e.path, .int .i64 e.kind, .int .i64 e.mode, .string e.text] 27)
  have hs0 : w.heap.size < (w.alloc (.cells #[.string e.path, .int .i64 e.kind, .int .i64 e.mode, .string e.text] 27)).heap.size := by simp
  have H0 := hid (And.intro h0 hk0)
  have X0 := hid (show (w.alloc (.cells #[.string e.path, .int .i64 e.kind, .int .i64 e.mode, .string e.text] 27)).cell? ⟨w.heap.size, 0, .none⟩ = some (.string e.path) by unfold World.cell?; dsimp only; rw [hnw]; rfl)
  have X1 := hid (show (w.alloc (.cells #[.string e.path, .int .i64 e.kind, .int .i64 e.mode, .string e.text] 27)).cell? ⟨w.heap.size, 1, .none⟩ = some (.int .i64 e.kind) by unfold World.cell?; dsimp only; rw [hnw]; rfl)
  clear ha h h0 hk0 hnw
  have hN0 := hid (nodeOf_any e hp htx (w.alloc (.cells #[.string e.path, .int .i64 e.kind, .int .i64 e.mode, .string e.text] 27)))
  cases he : entB e
  · have E := hid (show okPut es e = false by unfold okPut; rw [he]; rfl)
    go_enter Try.func46, Try.ntmps46
    unfold Ent.vals
    go_wp2_with fail
    refine (unhid hN0).mono ?_
    rintro x w1 ⟨⟨v, rfl, hv, -⟩, hb⟩
    rw [he]
    have HK := hid (And.intro ((unhid H0).1.below hb) ((unhid H0).2.trans (Kept.of_below hb (by simp; omega))))
    clear hb
    go_wp2_with fail
    go_ret
    exact ⟨by rw [unhid E]; rfl, by rw [putL_no (unhid E)]; exact (unhid HK).1, (unhid HK).2⟩
  · cases hd : dirE es (pathUpS e.path)
    · have E := hid (show okPut es e = false by unfold okPut; rw [hd]; simp)
      go_enter Try.func46, Try.ntmps46
      unfold Ent.vals
      go_wp2_with fail
      refine (unhid hN0).mono ?_
      rintro x w1 ⟨⟨v, rfl, hv, -⟩, hb⟩
      rw [he]
      have HK := hid (And.intro ((unhid H0).1.below hb) ((unhid H0).2.trans (Kept.of_below hb (by simp; omega))))
      have c0 := (hb.cell (p := ⟨w.heap.size, 0, .none⟩) hs0).trans (unhid X0)
      clear hb
      go_wp2_with fail
      refine (hasPlace_any N bt es e.path w1 hp (by omega) (unhid HT) (unhid HK).1).mono ?_
      rintro x w2 ⟨rfl, hb⟩
      rw [hd]
      have HK2 := hid (And.intro ((unhid HK).1.below hb) ((unhid HK).2.trans (Kept.of_below hb (Nat.le_trans hNw (unhid HK).2.1.size))))
      clear hb
      go_wp2_with fail
      go_ret
      exact ⟨by rw [unhid E]; rfl, by rw [putL_no (unhid E)]; exact (unhid HK2).1, (unhid HK2).2⟩
    · cases hth : thereE es e.path
      · have HTH := hid hth
        have HGV := hid (show getV es e.path = .nilIface by unfold getV; rw [hth]; rfl)
        clear hth
        · by_cases h16 : es.length = 16
          · have E := hid (show okPut es e = false by unfold okPut; rw [unhid HTH, h16]; simp)
            go_enter Try.func46, Try.ntmps46
            unfold Ent.vals
            go_wp2_with fail
            refine (unhid hN0).mono ?_
            rintro x w1 ⟨⟨v, rfl, hv, -⟩, hb⟩
            rw [he]
            have HK := hid (And.intro ((unhid H0).1.below hb) ((unhid H0).2.trans (Kept.of_below hb (by simp; omega))))
            have c0 := (hb.cell (p := ⟨w.heap.size, 0, .none⟩) hs0).trans (unhid X0)
            have hs1 := Nat.lt_of_lt_of_le hs0 hb.size
            clear hb
            go_wp2_with fail
            refine (hasPlace_any N bt es e.path w1 hp (by omega) (unhid HT) (unhid HK).1).mono ?_
            rintro x w2 ⟨rfl, hb⟩
            rw [hd]
            have HK2 := hid (And.intro ((unhid HK).1.below hb) ((unhid HK).2.trans (Kept.of_below hb (Nat.le_trans hNw (unhid HK).2.1.size))))
            have d0 := (hb.cell (p := ⟨w.heap.size, 0, .none⟩) hs1).trans c0
            clear hb c0
            go_wp2_with fail
            go_quiet ((go_at_call 42; refine Calls.quiet_of_same (v := .tuple #[.nilIface, .bool false]) ((mapGet_any N bt es e.path _ (by omega) (unhid HT) ((unhid HK2).1.below (drewN_below _ _))).mono ?_); rintro x w3 ⟨rfl, rfl⟩; exact ⟨by rw [unhid HGV, unhid HTH], rfl⟩))
            have HK3 := hid (And.intro ((unhid HK2).1.below (drewN_below w2 nq)) ((unhid HK2).2.trans (Kept.of_below (drewN_below w2 nq) (Nat.le_trans hNw (unhid HK2).2.1.size))))
            have d3 : (w2.drewN nq).cell? ⟨w.heap.size, 0, .none⟩ = some (.string e.path) := d0
            clear d0
            generalize w2.drewN nq = w3 at HK3 d3 ⊢
            go_wp2_with fail
            go_quiet (fail)
            have HK4 := hid (And.intro ((unhid HK3).1.below (drewN_below w3 nq)) ((unhid HK3).2.trans (Kept.of_below (drewN_below w3 nq) (Nat.le_trans hNw (unhid HK3).2.1.size))))
            have d4 : (w3.drewN nq).cell? ⟨w.heap.size, 0, .none⟩ = some (.string e.path) := d3
            clear d3
            generalize w3.drewN nq = w4 at HK4 d4 ⊢
            obtain ⟨vp, vn, t1, t2, t3⟩ := (unhid HK4).1
            obtain ⟨c0, c1, f0, f1⟩ := two_cells t1
            obtain ⟨va, vcap, rfl⟩ : ∃ va vcap, vp = .slice va es.length vcap := by
              rcases ownsRow_sh t2 with ⟨rfl, h0⟩ | ⟨g, cap, rfl, _⟩
              · exact ⟨.none, 0, by rw [h0]⟩
              · exact ⟨_, _, rfl⟩
            clear t1 t2 t3 c1 f0 f1
            have h16' : ((es.length : Int) == 16) = true := by simp [h16]
            clear h16
            go_wp2_with fail
            go_ret
            exact ⟨by rw [unhid E]; rfl, by rw [putL_no (unhid E)]; exact (unhid HK4).1, (unhid HK4).2⟩
          · have E := hid (show okPut es e = true by unfold okPut; rw [he, hd, unhid HTH]; simpa using h16)
            go_enter Try.func46, Try.ntmps46
            unfold Ent.vals
            go_wp2_with fail
            refine (unhid hN0).mono ?_
            rintro x w1 ⟨⟨v, rfl, -, hv⟩, hb⟩
            obtain rfl := hv he
            rw [he]
            have HK := hid (And.intro ((unhid H0).1.below hb) ((unhid H0).2.trans (Kept.of_below hb (by simp; omega))))
            have c0 := (hb.cell (p := ⟨w.heap.size, 0, .none⟩) hs0).trans (unhid X0)
            have hs1 := Nat.lt_of_lt_of_le hs0 hb.size
            clear hb hv
            go_wp2_with fail
            refine (hasPlace_any N bt es e.path w1 hp (by omega) (unhid HT) (unhid HK).1).mono ?_
            rintro x w2 ⟨rfl, hb⟩
            rw [hd]
            have HK2 := hid (And.intro ((unhid HK).1.below hb) ((unhid HK).2.trans (Kept.of_below hb (Nat.le_trans hNw (unhid HK).2.1.size))))
            have d0 := (hb.cell (p := ⟨w.heap.size, 0, .none⟩) hs1).trans c0
            clear hb c0
            go_wp2_with fail
            go_quiet ((go_at_call 42; refine Calls.quiet_of_same (v := .tuple #[.nilIface, .bool false]) ((mapGet_any N bt es e.path _ (by omega) (unhid HT) ((unhid HK2).1.below (drewN_below _ _))).mono ?_); rintro x w3 ⟨rfl, rfl⟩; exact ⟨by rw [unhid HGV, unhid HTH], rfl⟩))
            have HK3 := hid (And.intro ((unhid HK2).1.below (drewN_below w2 nq)) ((unhid HK2).2.trans (Kept.of_below (drewN_below w2 nq) (Nat.le_trans hNw (unhid HK2).2.1.size))))
            have d3 : (w2.drewN nq).cell? ⟨w.heap.size, 0, .none⟩ = some (.string e.path) := d0
            clear d0
            generalize w2.drewN nq = w3 at HK3 d3 ⊢
            go_wp2_with fail
            go_quiet (fail)
            have HK4 := hid (And.intro ((unhid HK3).1.below (drewN_below w3 nq)) ((unhid HK3).2.trans (Kept.of_below (drewN_below w3 nq) (Nat.le_trans hNw (unhid HK3).2.1.size))))
            have d4 : (w3.drewN nq).cell? ⟨w.heap.size, 0, .none⟩ = some (.string e.path) := d3
            clear d3
            generalize w3.drewN nq = w4 at HK4 d4 ⊢
            obtain ⟨vp, vn, t1, t2, t3⟩ := (unhid HK4).1
            obtain ⟨c0, c1, f0, f1⟩ := two_cells t1
            obtain ⟨va, vcap, rfl⟩ : ∃ va vcap, vp = .slice va es.length vcap := by
              rcases ownsRow_sh t2 with ⟨rfl, h0⟩ | ⟨g, cap, rfl, _⟩
              · exact ⟨.none, 0, by rw [h0]⟩
              · exact ⟨_, _, rfl⟩
            clear t1 t2 t3 c1 f0 f1
            have h16' : ((es.length : Int) == 16) = false := by rw [beq_eq_false_iff_ne]; omega
            clear h16
            go_wp2_with fail
            have HP := hid (mapPut_ins N bt es e w4.drew (by omega) (unhid HT) hN (unhid HTH) ((unhid HK4).1.below (drew_below _)))
            go_region_with (go_at_call 56; refine (unhid HP).mono ?_; rintro x w5 ⟨⟨y, rfl⟩, hT5, hB5, hO5⟩; have HK5 := hid (And.intro hT5 ((unhid HK4).2.trans ((Kept.of_below (drew_below w4) (Nat.le_trans hNw (unhid HK4).2.1.size)).trans ⟨hB5, hO5⟩))); clear hT5 hB5 hO5)
            all_goals
              go_wp2_with fail
              go_ret
              exact ⟨by rw [unhid E]; rfl, by rw [putL_ins (unhid E) (unhid HTH)]; exact (unhid HK5).1, (unhid HK5).2⟩
      · obtain ⟨old, hold, hop⟩ := there_get hth
        have hfo := entFn_get hold
        have HTH := hid hth
        have heo := hall old (List.mem_of_getElem? hold)
        obtain ⟨T1, nv1, hnv1⟩ := nodeV_shape old
        have HGV := hid (show getV es e.path = .iface T1 nv1 by unfold getV; rw [hth, hfo, if_pos rfl, hnv1])
        have ENT0 : ∀ w, Calls Try.prog 44 #[.string e.path, .iface T1 nv1] w fun x w' => x = .returned (.agg old.vals) ∧ Below w.heap.size w w' := fun w => by rw [← hop, ← hnv1]; exact entryOf_any old heo w
        have ENT := hid ENT0
        cases hkk : (old.kind != e.kind)
        · have E := hid (show okPut es e = true by unfold okPut; rw [he, hd, hth, hfo]; simp at hkk; simp [hkk])
          clear ENT0 hfo hold hth hnv1 hop heo
          go_enter Try.func46, Try.ntmps46
          unfold Ent.vals
          go_wp2_with fail
          refine (unhid hN0).mono ?_
          rintro x w1 ⟨⟨v, rfl, -, hv⟩, hb⟩
          obtain rfl := hv he
          rw [he]
          have HK := hid (And.intro ((unhid H0).1.below hb) ((unhid H0).2.trans (Kept.of_below hb (by simp; omega))))
          have c0 := (hb.cell (p := ⟨w.heap.size, 0, .none⟩) hs0).trans (unhid X0)
          have c1 := (hb.cell (p := ⟨w.heap.size, 1, .none⟩) hs0).trans (unhid X1)
          have hs1 := Nat.lt_of_lt_of_le hs0 hb.size
          clear hb hv
          go_wp2_with fail
          refine (hasPlace_any N bt es e.path w1 hp (by omega) (unhid HT) (unhid HK).1).mono ?_
          rintro x w2 ⟨rfl, hb⟩
          rw [hd]
          have HK2 := hid (And.intro ((unhid HK).1.below hb) ((unhid HK).2.trans (Kept.of_below hb (Nat.le_trans hNw (unhid HK).2.1.size))))
          have d0 := (hb.cell (p := ⟨w.heap.size, 0, .none⟩) hs1).trans c0
          have d1 := (hb.cell (p := ⟨w.heap.size, 1, .none⟩) hs1).trans c1
          have hs2 := Nat.lt_of_lt_of_le hs1 hb.size
          clear hb c0 c1
          go_wp2_with fail
          go_quiet ((go_at_call 42; refine Calls.quiet_of_same (v := .tuple #[.iface T1 nv1, .bool true]) ((mapGet_any N bt es e.path _ (by omega) (unhid HT) ((unhid HK2).1.below (drewN_below _ _))).mono ?_); rintro x w3 ⟨rfl, rfl⟩; exact ⟨by rw [unhid HGV, unhid HTH], rfl⟩))
          have HK3 := hid (And.intro ((unhid HK2).1.below (drewN_below w2 nq)) ((unhid HK2).2.trans (Kept.of_below (drewN_below w2 nq) (Nat.le_trans hNw (unhid HK2).2.1.size))))
          have d30 : (w2.drewN nq).cell? ⟨w.heap.size, 0, .none⟩ = some (.string e.path) := d0
          have d31 : (w2.drewN nq).cell? ⟨w.heap.size, 1, .none⟩ = some (.int .i64 e.kind) := d1
          have hs3 : w.heap.size < (w2.drewN nq).heap.size := hs2
          clear d0 d1
          generalize w2.drewN nq = w3 at HK3 d30 d31 hs3 ⊢
          have g0 := BW.cell (B := w3.heap.size) hs3 d30
          have g1 := BW.cell (B := w3.heap.size) hs3 d31
          go_wp2_with fail
          have hfd : ∀ w, (Instr.field 27 (.agg #[.string old.path, .int .i64 old.kind, .int .i64 old.mode, .string old.text]) 1).run Try.prog w = .ok (.int .i64 old.kind) w := fun _ => by kernel_rfl
          have hba := @BW.all w3.heap.size w3
          refine calm_region w3.heap.size (by kernel_rfl) (by kernel_rfl) ?_
          repeat (go_big_quiet_step ((go_at_call 44; exact Calls.bw (v := .agg #[.string old.path, .int .i64 old.kind, .int .i64 old.mode, .string old.text]) (Nat.le_refl _) (unhid ENT _))))
          refine wpQuiet_nil ?_
          intro w4 hw
          obtain ⟨x, hx⟩ := hw
          have hB4 : Below w3.heap.size w3 w4 := by rw [hx]; exact x.h
          clear hx x
          have HK4 := hid (And.intro ((unhid HK3).1.below hB4) ((unhid HK3).2.trans (Kept.of_below hB4 (Nat.le_trans hNw (unhid HK3).2.1.size))))
          have d4 := (hB4.cell (p := ⟨w.heap.size, 0, .none⟩) hs3).trans d30
          have hs4 := Nat.lt_of_lt_of_le hs3 hB4.size
          clear hB4 hba g0 g1 d30 d31 hfd
          go_wp2_with fail
          have HP := hid (mapPut_over N bt es e w4.drew (by omega) (unhid HT) (unhid HTH) ((unhid HK4).1.below (drew_below _)))
          go_region_with (go_at_call 56; refine (unhid HP).mono ?_; rintro x w5 ⟨⟨y, rfl⟩, hT5, hB5, hO5⟩; have HK5 := hid (And.intro hT5 ((unhid HK4).2.trans ((Kept.of_below (drew_below w4) (Nat.le_trans hNw (unhid HK4).2.1.size)).trans ⟨hB5, hO5⟩))); clear hT5 hB5 hO5)
          all_goals
            go_wp2_with fail
            go_ret
            exact ⟨by rw [unhid E]; rfl, by rw [putL_set (unhid E) (unhid HTH)]; exact (unhid HK5).1, (unhid HK5).2⟩
        · have E := hid (show okPut es e = false by unfold okPut; rw [he, hd, hth, hfo]; simp at hkk; simp [hkk])
          clear ENT0 hfo hold hth hnv1 hop heo
          go_enter Try.func46, Try.ntmps46
          unfold Ent.vals
          go_wp2_with fail
          refine (unhid hN0).mono ?_
          rintro x w1 ⟨⟨v, rfl, -, hv⟩, hb⟩
          obtain rfl := hv he
          rw [he]
          have HK := hid (And.intro ((unhid H0).1.below hb) ((unhid H0).2.trans (Kept.of_below hb (by simp; omega))))
          have c0 := (hb.cell (p := ⟨w.heap.size, 0, .none⟩) hs0).trans (unhid X0)
          have c1 := (hb.cell (p := ⟨w.heap.size, 1, .none⟩) hs0).trans (unhid X1)
          have hs1 := Nat.lt_of_lt_of_le hs0 hb.size
          clear hb hv
          go_wp2_with fail
          refine (hasPlace_any N bt es e.path w1 hp (by omega) (unhid HT) (unhid HK).1).mono ?_
          rintro x w2 ⟨rfl, hb⟩
          rw [hd]
          have HK2 := hid (And.intro ((unhid HK).1.below hb) ((unhid HK).2.trans (Kept.of_below hb (Nat.le_trans hNw (unhid HK).2.1.size))))
          have d0 := (hb.cell (p := ⟨w.heap.size, 0, .none⟩) hs1).trans c0
          have d1 := (hb.cell (p := ⟨w.heap.size, 1, .none⟩) hs1).trans c1
          have hs2 := Nat.lt_of_lt_of_le hs1 hb.size
          clear hb c0 c1
          go_wp2_with fail
          go_quiet ((go_at_call 42; refine Calls.quiet_of_same (v := .tuple #[.iface T1 nv1, .bool true]) ((mapGet_any N bt es e.path _ (by omega) (unhid HT) ((unhid HK2).1.below (drewN_below _ _))).mono ?_); rintro x w3 ⟨rfl, rfl⟩; exact ⟨by rw [unhid HGV, unhid HTH], rfl⟩))
          have HK3 := hid (And.intro ((unhid HK2).1.below (drewN_below w2 nq)) ((unhid HK2).2.trans (Kept.of_below (drewN_below w2 nq) (Nat.le_trans hNw (unhid HK2).2.1.size))))
          have d30 : (w2.drewN nq).cell? ⟨w.heap.size, 0, .none⟩ = some (.string e.path) := d0
          have d31 : (w2.drewN nq).cell? ⟨w.heap.size, 1, .none⟩ = some (.int .i64 e.kind) := d1
          have hs3 : w.heap.size < (w2.drewN nq).heap.size := hs2
          clear d0 d1
          generalize w2.drewN nq = w3 at HK3 d30 d31 hs3 ⊢
          have g0 := BW.cell (B := w3.heap.size) hs3 d30
          have g1 := BW.cell (B := w3.heap.size) hs3 d31
          go_wp2_with fail
          have hfd : ∀ w, (Instr.field 27 (.agg #[.string old.path, .int .i64 old.kind, .int .i64 old.mode, .string old.text]) 1).run Try.prog w = .ok (.int .i64 old.kind) w := fun _ => by kernel_rfl
          have hba := @BW.all w3.heap.size w3
          refine calm_region w3.heap.size (by kernel_rfl) (by kernel_rfl) ?_
          repeat (go_big_quiet_step ((go_at_call 44; exact Calls.bw (v := .agg #[.string old.path, .int .i64 old.kind, .int .i64 old.mode, .string old.text]) (Nat.le_refl _) (unhid ENT _))))
          refine wpQuiet_nil ?_
          intro w4 hw
          obtain ⟨x, hx⟩ := hw
          have hB4 : Below w3.heap.size w3 w4 := by rw [hx]; exact x.h
          clear hx x
          have HK4 := hid (And.intro ((unhid HK3).1.below hB4) ((unhid HK3).2.trans (Kept.of_below hB4 (Nat.le_trans hNw (unhid HK3).2.1.size))))
          have d4 := (hB4.cell (p := ⟨w.heap.size, 0, .none⟩) hs3).trans d30
          have hs4 := Nat.lt_of_lt_of_le hs3 hB4.size
          clear hB4 hba g0 g1 d30 d31 hfd
          go_wp2_with fail
          go_ret
          exact ⟨by rw [unhid E]; rfl, by rw [putL_no (unhid E)]; exact (unhid HK4).1, (unhid HK4).2⟩
end Go.Proofs.Ytlnehebihfeegaa
