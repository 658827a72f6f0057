/- An entry that is there already, put once more: nothing turns. -/
import Derived.Test.YtlnehebihfeegaaNodeEnt
namespace Go.Proofs.Ytlnehebihfeegaa
open Go.RowKit Go.Shelf

theorem set_nothing {w : World} {g j : Nat} {v : Value} {cur : Array Value} {t : TypeId} (h : w.heap[g]? = some (.cells cur t (0, 0))) (hc : cur[j]? = some v) : Below (w.heap.size + 1) w (w.setCell ⟨g, j, .none⟩ v) := by
  refine ⟨rfl, rfl, rfl, by simp, fun k _ => ?_⟩
  by_cases e : k = g
  · subst e
    rw [heap_setCell_same w k j cur t v h, h]
    have : cur.setIfInBounds j v = cur := by
      apply Array.ext_getElem?
      intro i
      rw [Array.getElem?_setIfInBounds]
      by_cases ei : j = i
      · subst ei
        rw [if_pos rfl, if_pos (Array.getElem?_eq_some_iff.1 hc).1, hc]
      · rw [if_neg ei]
    rw [this]
  · exact Below.heap_setCell w _ v k e

set_option maxRecDepth 100000 in
set_option maxHeartbeats 4000000 in
theorem mapPut_again (N bt : Nat) (es : List Ent) (e : Ent) (w : World) (hn : es.length ≤ 900) (ha : Asc (pathsOf es)) (hj : es[placeE es e.path]? = some e) (h : TreeAt w N bt es) :
    Calls Try.prog 56 #[.pointer (some ⟨bt, 0, .none⟩), .string e.path, nodeV e] w fun x w' => (∃ v, x = .returned v) ∧ Below w.heap.size w w' := by
  have hbl := h.lt
  obtain ⟨vp, vn, h1, h2, h3⟩ := h
  obtain ⟨a, cap, hva, hT⟩ := texts_of h2
  have hpn : (pathsOf es).length = es.length := by simp [pathsOf]
  have hl : (pathsOf es).length ≤ 1048576 := by omega
  have ht : thereP (pathsOf es) e.path = true := by rw [thereP_E]; unfold thereE; rw [hj]; exact (eqS_iff _ _).2 rfl
  have hjl : placeE es e.path < es.length := (List.getElem?_eq_some_iff.1 hj).1
  have hS := BinarySearch_any (pathsOf es) a cap e.path w hl ha hT
  rw [placeP_E, ht, hpn] at hS
  rw [hpn] at hva
  subst hva
  obtain ⟨T, nv, hV⟩ := nodeV_shape e
  obtain ⟨g, cap2, cur, rfl, hg, hcj⟩ : ∃ g cap2 cur, vn = .slice (some ⟨g, 0, .none⟩) es.length cap2 ∧ w.heap[g]? = some (.cells cur 63 (0, 0)) ∧ cur[placeE es e.path]? = some (nodeV e) := by
    rcases h3.2 with ⟨rfl, h0⟩ | ⟨g, cap, cur, rfl, _, hg, hc, _, hsz, hcells⟩
    · omega
    · refine ⟨g, cap, cur, rfl, hg, ?_⟩
      have hq : (cur.toList.take (es.length * 1))[placeE es e.path]? = some (nodeV e) := by rw [hcells, List.getElem?_map, hj]; rfl
      rwa [List.getElem?_take_of_lt (by omega), Array.getElem?_toList] at hq
  rw [hV] at hcj ⊢
  have n0 : w.cell? ⟨g, placeE es e.path, .none⟩ = some (.iface T nv) := by simp [World.cell?, hg, hcj]
  have m0 : w.frozen? ⟨g, placeE es e.path, .none⟩ = false := by simp [World.frozen?, hg]
  have HS := hid hS
  have HN := hid (set_nothing hg hcj)
  obtain ⟨c0, c1, f0, f1⟩ := two_cells h1
  clear hT ha hl ht h1 h2 h3 hpn hj hS hV hg hcj
  generalize placeE es e.path = j at HS HN hjl n0 m0
  go_enter Try.func56, Try.ntmps56
  go_wp2_with fail
  refine (unhid HS).mono ?_
  rintro x w1 ⟨rfl, hw1⟩
  rw [hw1]
  clear hw1
  go_wp2_with fail
  first | go_end0 | refine bodyPost_ret (results_none rfl _ _ _) rfl ?_
  exact ⟨⟨_, rfl⟩, (unhid HN).mono (Nat.le_succ _)⟩

set_option maxRecDepth 100000 in
set_option maxHeartbeats 8000000 in
theorem putEntry_again (N bt : Nat) (es : List Ent) (e : Ent) (w : World) (hp : e.path.size ≤ maxLen) (htx : e.text.size ≤ maxLen) (hn : es.length ≤ 20) (ha : Asc (pathsOf es)) (he : entB e = true) (hd : dirE es (pathUpS e.path) = true) (hj : es[placeE es e.path]? = some e) (h : TreeAt w N bt es) :
    Calls Try.prog 46 #[.pointer (some ⟨bt, 0, .none⟩), .agg e.vals] w fun x w' => x = .returned (.bool true) ∧ Below w.heap.size w w' := by
  have hbl := h.lt
  have hth : thereE es e.path = true := by unfold thereE; rw [hj]; exact (eqS_iff _ _).2 rfl
  have hgv : getV es e.path = nodeV e := by unfold getV; rw [hth, entFn_get hj]; rfl
  have HT := hid (And.intro hth (And.intro hgv (And.intro ha hj)))
  have h0 : TreeAt (w.alloc (.cells #[.string e.path, .int .i64 e.kind, .int .i64 e.mode, .string e.text] 27)) N bt es := h.below ((Below.refl _ w).alloc (Nat.le_refl _) _)
  have hk0 : Below w.heap.size w (w.alloc (.cells #[.string e.path, .int .i64 e.kind, .int .i64 e.mode, .string e.text] 27)) := (Below.refl _ w).alloc (Nat.le_refl _) _
  have hnw := World.alloc_heap_new w (.cells #[.string e.path, .int .i64 e.kind, .int .i64 e.mode, .string e.text] 27)
  have hs0 : w.heap.size < (w.alloc (.cells #[.string e.path, .int .i64 e.kind, .int .i64 e.mode, .string e.text] 27)).heap.size := by simp
  have H0 := hid (And.intro h0 hk0)
  have X0 := hid (show (w.alloc (.cells #[.string e.path, .int .i64 e.kind, .int .i64 e.mode, .string e.text] 27)).cell? ⟨w.heap.size, 0, .none⟩ = some (.string e.path) by unfold World.cell?; dsimp only; rw [hnw]; rfl)
  have X1 := hid (show (w.alloc (.cells #[.string e.path, .int .i64 e.kind, .int .i64 e.mode, .string e.text] 27)).cell? ⟨w.heap.size, 1, .none⟩ = some (.int .i64 e.kind) by unfold World.cell?; dsimp only; rw [hnw]; rfl)
  have hN0 := hid (nodeOf_any e hp htx (w.alloc (.cells #[.string e.path, .int .i64 e.kind, .int .i64 e.mode, .string e.text] 27)))
  clear hth hgv ha hj h h0 hk0 hnw
  have HE := hid he
  have HD := hid hd
  go_enter Try.func46, Try.ntmps46
  unfold Ent.vals
  go_wp2_with fail
  refine (unhid hN0).mono ?_
  rintro x w1 ⟨⟨v, rfl, -, hv⟩, hb⟩
  obtain rfl := hv (unhid HE)
  rw [unhid HE]
  have HK := hid (And.intro ((unhid H0).1.below hb) ((unhid H0).2.trans (hb.mono (Nat.le_of_lt hs0))))
  have c0 := (hb.cell (p := ⟨w.heap.size, 0, .none⟩) hs0).trans (unhid X0)
  have c1 := (hb.cell (p := ⟨w.heap.size, 1, .none⟩) hs0).trans (unhid X1)
  have hs1 := Nat.lt_of_lt_of_le hs0 hb.size
  clear hb hv
  go_wp2_with fail
  refine (hasPlace_any N bt es e.path w1 hp (by omega) (unhid HT).2.2.1 (unhid HK).1).mono ?_
  rintro x w2 ⟨rfl, hb⟩
  rw [unhid HD]
  have HK2 := hid (And.intro ((unhid HK).1.below hb) ((unhid HK).2.trans (hb.mono (Nat.le_of_lt hs1))))
  have d0 := (hb.cell (p := ⟨w.heap.size, 0, .none⟩) hs1).trans c0
  have d1 := (hb.cell (p := ⟨w.heap.size, 1, .none⟩) hs1).trans c1
  have hs2 := Nat.lt_of_lt_of_le hs1 hb.size
  clear hb c0 c1
  go_wp2_with fail
  go_quiet ((go_at_call 42; refine Calls.quiet_of_same (v := .tuple #[nodeV e, .bool true]) ((mapGet_any N bt es e.path _ (by omega) (unhid HT).2.2.1 ((unhid HK2).1.below (drewN_below _ _))).mono ?_); rintro x w3 ⟨rfl, rfl⟩; exact ⟨by rw [(unhid HT).2.1, (unhid HT).1], rfl⟩))
  have HK3 := hid (And.intro ((unhid HK2).1.below (drewN_below w2 nq)) ((unhid HK2).2.trans (drewN_below w2 nq)))
  have d30 : (w2.drewN nq).cell? ⟨w.heap.size, 0, .none⟩ = some (.string e.path) := d0
  have d31 : (w2.drewN nq).cell? ⟨w.heap.size, 1, .none⟩ = some (.int .i64 e.kind) := d1
  have hs3 : w.heap.size < (w2.drewN nq).heap.size := hs2
  clear d0 d1
  generalize w2.drewN nq = w3 at HK3 d30 d31 hs3 ⊢
  have g0 := BW.cell (B := w3.heap.size) hs3 d30
  have g1 := BW.cell (B := w3.heap.size) hs3 d31
  go_wp2_with fail
  have hfd : ∀ w, (Instr.field 27 (.agg #[.string e.path, .int .i64 e.kind, .int .i64 e.mode, .string e.text]) 1).run Try.prog w = .ok (.int .i64 e.kind) w := fun _ => by kernel_rfl
  have hba := @BW.all w3.heap.size w3
  refine calm_region w3.heap.size (by kernel_rfl) (by kernel_rfl) ?_
  repeat (go_big_quiet_step ((go_at_call 44; exact Calls.bw (v := .agg #[.string e.path, .int .i64 e.kind, .int .i64 e.mode, .string e.text]) (Nat.le_refl _) (entryOf_any e (unhid HE) _))))
  refine wpQuiet_nil ?_
  intro w4 hw
  obtain ⟨x, hx⟩ := hw
  have hB4 : Below w3.heap.size w3 w4 := by rw [hx]; exact x.h
  clear hx x
  have HK4 := hid (And.intro ((unhid HK3).1.below hB4) ((unhid HK3).2.trans (hB4.mono (Nat.le_of_lt hs3))))
  have d4 := (hB4.cell (p := ⟨w.heap.size, 0, .none⟩) hs3).trans d30
  have hs4 := Nat.lt_of_lt_of_le hs3 hB4.size
  clear hB4 hba g0 g1 d30 d31 hfd
  go_wp2_with fail
  have HP := hid (mapPut_again N bt es e w4.drew (by omega) (unhid HT).2.2.1 (unhid HT).2.2.2 ((unhid HK4).1.below (drew_below _)))
  go_region_with (go_at_call 56; refine (unhid HP).mono ?_; rintro x w5 ⟨⟨y, rfl⟩, hB5⟩; have HK5 := hid (((unhid HK4).2.trans (drew_below w4)).trans (hB5.mono (Nat.le_of_lt hs4))); clear hB5)
  all_goals
    go_wp2_with fail
    go_ret
    exact ⟨rfl, unhid HK5⟩
end Go.Proofs.Ytlnehebihfeegaa
