/- An entry put at the end of a tree, if it can be. -/
import Derived.Test.YtlnehebihfeegaaTreePutEnd
namespace Go.Proofs.Ytlnehebihfeegaa
open Go.RowKit Go.Shelf

def putB (es : List Ent) (e : Ent) : Bool := entB e && (dirE es (pathUpS e.path) && decide (es.length ≠ 16))
def nextE (es : List Ent) (e : Ent) : List Ent := if putB es e then es ++ [e] else es
theorem nextE_no {es : List Ent} {e : Ent} (h : putB es e = false) : nextE es e = es := by unfold nextE; rw [h]; rfl
theorem nextE_yes {es : List Ent} {e : Ent} (h : putB es e = true) : nextE es e = es ++ [e] := by unfold nextE; rw [h]; rfl
def Kept (N bt : Nat) (w w' : World) : Prop := Below N w w' ∧ ∀ k o, k ≠ bt → w.heap[k]? = some o → Apart o → w'.heap[k]? = some o
theorem Kept.of_below {N bt : Nat} {w w' : World} (h : Below w.heap.size w w') (hN : N ≤ w.heap.size) : Kept N bt w w' := ⟨h.mono hN, fun k _ _ ho _ => (h.block k (Array.getElem?_eq_some_iff.1 ho).1).trans ho⟩
theorem Kept.trans {N bt : Nat} {a b c : World} (h : Kept N bt a b) (g : Kept N bt b c) : Kept N bt a c := ⟨h.1.trans g.1, fun k o hk ho hap => g.2 k o hk (h.2 k o hk ho hap) hap⟩

set_option maxRecDepth 100000 in
set_option maxHeartbeats 8000000 in
theorem putEntry_end (N bt : Nat) (es : List Ent) (e : Ent) (w : World) (hp : e.path.size ≤ maxLen) (htx : e.text.size ≤ maxLen) (hn : es.length ≤ 16) (ha : Asc (pathsOf es)) (hN : N ≤ bt) (hpl : placeE es e.path = es.length) (h : TreeAt w N bt es) :
    Calls Try.prog 46 #[.pointer (some ⟨bt, 0, .none⟩), .agg e.vals] w fun x w' => x = .returned (.bool (putB es e)) ∧ TreeAt w' N bt (nextE es e) ∧ Kept N bt w w' := by
  have hbl := h.lt
  have hth : thereE es e.path = false := by unfold thereE; rw [hpl, List.getElem?_eq_none (Nat.le_refl _)]; rfl
  have hgv : getV es e.path = .nilIface := by unfold getV; rw [hth]; rfl
  have HT := hid (And.intro hth (And.intro hgv (And.intro ha hpl)))
  have hNw : N ≤ w.heap.size := by omega
  have h0 : TreeAt (w.alloc (.cells #[.string e.path, .int .i64 e.kind, .int .i64 e.mode, .string e.text] 27)) N bt es := h.below ((Below.refl _ w).alloc (Nat.le_refl _) _)
  have hk0 : Kept N bt w (w.alloc (.cells #[.string e.path, .int .i64 e.kind, .int .i64 e.mode, .string e.text] 27)) := Kept.of_below ((Below.refl _ w).alloc (Nat.le_refl _) _) hNw
  have hnw := World.alloc_heap_new w (.cells #[.string e.path, .int .i64 e.kind, .int .i64 e.mode, .string e.text] 27)
  have hs0 : w.heap.size < (w.alloc (.cells #[.string e.path, .int .i64 e.kind, .int .i64 e.mode, .string e.text] 27)).heap.size := by simp
  have H0 := hid (And.intro h0 hk0)
  have X0 := hid (show (w.alloc (.cells #[.string e.path, .int .i64 e.kind, .int .i64 e.mode, .string e.text] 27)).cell? ⟨w.heap.size, 0, .none⟩ = some (.string e.path) by unfold World.cell?; dsimp only; rw [hnw]; rfl)
  have X1 := hid (show (w.alloc (.cells #[.string e.path, .int .i64 e.kind, .int .i64 e.mode, .string e.text] 27)).cell? ⟨w.heap.size, 1, .none⟩ = some (.int .i64 e.kind) by unfold World.cell?; dsimp only; rw [hnw]; rfl)
  clear hth hgv ha hpl h h0 hk0 hnw
  have hN0 := hid (nodeOf_any e hp htx (w.alloc (.cells #[.string e.path, .int .i64 e.kind, .int .i64 e.mode, .string e.text] 27)))
  cases he : entB e
  · have E := hid (show putB es e = false by unfold putB; rw [he]; rfl)
    go_enter Try.func46, Try.ntmps46
    unfold Ent.vals
    go_wp2_with fail
    refine (unhid hN0).mono ?_
    rintro x w1 ⟨⟨v, rfl, hv, -⟩, hb⟩
    rw [he]
    have HK := hid (And.intro ((unhid H0).1.below hb) ((unhid H0).2.trans (Kept.of_below hb (by simp; omega))))
    clear hb
    go_wp2_with fail
    go_ret
    exact ⟨by rw [unhid E]; rfl, by rw [nextE_no (unhid E)]; exact (unhid HK).1, (unhid HK).2⟩
  · cases hd : dirE es (pathUpS e.path)
    · have E := hid (show putB es e = false by unfold putB; rw [hd]; simp)
      go_enter Try.func46, Try.ntmps46
      unfold Ent.vals
      go_wp2_with fail
      refine (unhid hN0).mono ?_
      rintro x w1 ⟨⟨v, rfl, hv, -⟩, hb⟩
      rw [he]
      have HK := hid (And.intro ((unhid H0).1.below hb) ((unhid H0).2.trans (Kept.of_below hb (by simp; omega))))
      have c0 := (hb.cell (p := ⟨w.heap.size, 0, .none⟩) hs0).trans (unhid X0)
      clear hb
      go_wp2_with fail
      refine (hasPlace_any N bt es e.path w1 hp (by omega) (unhid HT).2.2.1 (unhid HK).1).mono ?_
      rintro x w2 ⟨rfl, hb⟩
      rw [hd]
      have HK2 := hid (And.intro ((unhid HK).1.below hb) ((unhid HK).2.trans (Kept.of_below hb (Nat.le_trans hNw (unhid HK).2.1.size))))
      clear hb
      go_wp2_with fail
      go_ret
      exact ⟨by rw [unhid E]; rfl, by rw [nextE_no (unhid E)]; exact (unhid HK2).1, (unhid HK2).2⟩
    · by_cases h16 : es.length = 16
      · have E := hid (show putB es e = false by unfold putB; rw [h16]; simp)
        go_enter Try.func46, Try.ntmps46
        unfold Ent.vals
        go_wp2_with fail
        refine (unhid hN0).mono ?_
        rintro x w1 ⟨⟨v, rfl, hv, -⟩, hb⟩
        rw [he]
        have HK := hid (And.intro ((unhid H0).1.below hb) ((unhid H0).2.trans (Kept.of_below hb (by simp; omega))))
        have c0 := (hb.cell (p := ⟨w.heap.size, 0, .none⟩) hs0).trans (unhid X0)
        have hs1 := Nat.lt_of_lt_of_le hs0 hb.size
        clear hb
        go_wp2_with fail
        refine (hasPlace_any N bt es e.path w1 hp (by omega) (unhid HT).2.2.1 (unhid HK).1).mono ?_
        rintro x w2 ⟨rfl, hb⟩
        rw [hd]
        have HK2 := hid (And.intro ((unhid HK).1.below hb) ((unhid HK).2.trans (Kept.of_below hb (Nat.le_trans hNw (unhid HK).2.1.size))))
        have d0 := (hb.cell (p := ⟨w.heap.size, 0, .none⟩) hs1).trans c0
        clear hb c0
        go_wp2_with fail
        go_quiet ((go_at_call 42; refine Calls.quiet_of_same (v := .tuple #[.nilIface, .bool false]) ((mapGet_any N bt es e.path _ (by omega) (unhid HT).2.2.1 ((unhid HK2).1.below (drewN_below _ _))).mono ?_); rintro x w3 ⟨rfl, rfl⟩; exact ⟨by rw [(unhid HT).2.1, (unhid HT).1], rfl⟩))
        have HK3 := hid (And.intro ((unhid HK2).1.below (drewN_below w2 nq)) ((unhid HK2).2.trans (Kept.of_below (drewN_below w2 nq) (Nat.le_trans hNw (unhid HK2).2.1.size))))
        have d3 : (w2.drewN nq).cell? ⟨w.heap.size, 0, .none⟩ = some (.string e.path) := d0
        clear d0
        generalize w2.drewN nq = w3 at HK3 d3 ⊢
        go_wp2_with fail
        go_quiet (fail)
        have HK4 := hid (And.intro ((unhid HK3).1.below (drewN_below w3 nq)) ((unhid HK3).2.trans (Kept.of_below (drewN_below w3 nq) (Nat.le_trans hNw (unhid HK3).2.1.size))))
        have d4 : (w3.drewN nq).cell? ⟨w.heap.size, 0, .none⟩ = some (.string e.path) := d3
        clear d3
        generalize w3.drewN nq = w4 at HK4 d4 ⊢
        obtain ⟨vp, vn, t1, t2, t3⟩ := (unhid HK4).1
        obtain ⟨c0, c1, f0, f1⟩ := two_cells t1
        obtain ⟨va, vcap, rfl⟩ : ∃ va vcap, vp = .slice va es.length vcap := by
          rcases ownsRow_sh t2 with ⟨rfl, h0⟩ | ⟨g, cap, rfl, _⟩
          · exact ⟨.none, 0, by rw [h0]⟩
          · exact ⟨_, _, rfl⟩
        clear t1 t2 t3 c1 f0 f1
        have h16' : ((es.length : Int) == 16) = true := by simp [h16]
        clear h16
        go_wp2_with fail
        go_ret
        exact ⟨by rw [unhid E]; rfl, by rw [nextE_no (unhid E)]; exact (unhid HK4).1, (unhid HK4).2⟩
      · have E := hid (show putB es e = true by unfold putB; rw [he, hd]; simpa using h16)
        go_enter Try.func46, Try.ntmps46
        unfold Ent.vals
        go_wp2_with fail
        refine (unhid hN0).mono ?_
        rintro x w1 ⟨⟨v, rfl, -, hv⟩, hb⟩
        obtain rfl := hv he
        rw [he]
        have HK := hid (And.intro ((unhid H0).1.below hb) ((unhid H0).2.trans (Kept.of_below hb (by simp; omega))))
        have c0 := (hb.cell (p := ⟨w.heap.size, 0, .none⟩) hs0).trans (unhid X0)
        have hs1 := Nat.lt_of_lt_of_le hs0 hb.size
        clear hb hv
        go_wp2_with fail
        refine (hasPlace_any N bt es e.path w1 hp (by omega) (unhid HT).2.2.1 (unhid HK).1).mono ?_
        rintro x w2 ⟨rfl, hb⟩
        rw [hd]
        have HK2 := hid (And.intro ((unhid HK).1.below hb) ((unhid HK).2.trans (Kept.of_below hb (Nat.le_trans hNw (unhid HK).2.1.size))))
        have d0 := (hb.cell (p := ⟨w.heap.size, 0, .none⟩) hs1).trans c0
        clear hb c0
        go_wp2_with fail
        go_quiet ((go_at_call 42; refine Calls.quiet_of_same (v := .tuple #[.nilIface, .bool false]) ((mapGet_any N bt es e.path _ (by omega) (unhid HT).2.2.1 ((unhid HK2).1.below (drewN_below _ _))).mono ?_); rintro x w3 ⟨rfl, rfl⟩; exact ⟨by rw [(unhid HT).2.1, (unhid HT).1], rfl⟩))
        have HK3 := hid (And.intro ((unhid HK2).1.below (drewN_below w2 nq)) ((unhid HK2).2.trans (Kept.of_below (drewN_below w2 nq) (Nat.le_trans hNw (unhid HK2).2.1.size))))
        have d3 : (w2.drewN nq).cell? ⟨w.heap.size, 0, .none⟩ = some (.string e.path) := d0
        clear d0
        generalize w2.drewN nq = w3 at HK3 d3 ⊢
        go_wp2_with fail
        go_quiet (fail)
        have HK4 := hid (And.intro ((unhid HK3).1.below (drewN_below w3 nq)) ((unhid HK3).2.trans (Kept.of_below (drewN_below w3 nq) (Nat.le_trans hNw (unhid HK3).2.1.size))))
        have d4 : (w3.drewN nq).cell? ⟨w.heap.size, 0, .none⟩ = some (.string e.path) := d3
        clear d3
        generalize w3.drewN nq = w4 at HK4 d4 ⊢
        obtain ⟨vp, vn, t1, t2, t3⟩ := (unhid HK4).1
        obtain ⟨c0, c1, f0, f1⟩ := two_cells t1
        obtain ⟨va, vcap, rfl⟩ : ∃ va vcap, vp = .slice va es.length vcap := by
          rcases ownsRow_sh t2 with ⟨rfl, h0⟩ | ⟨g, cap, rfl, _⟩
          · exact ⟨.none, 0, by rw [h0]⟩
          · exact ⟨_, _, rfl⟩
        clear t1 t2 t3 c1 f0 f1
        have h16' : ((es.length : Int) == 16) = false := by rw [beq_eq_false_iff_ne]; omega
        clear h16
        go_wp2_with fail
        have HP := hid (mapPut_end N bt es e w4.drew (by omega) (unhid HT).2.2.1 hN (unhid HT).2.2.2 ((unhid HK4).1.below (drew_below _)))
        go_region_with (go_at_call 56; refine (unhid HP).mono ?_; rintro x w5 ⟨⟨y, rfl⟩, hT5, hB5, hO5⟩; have HK5 := hid (And.intro hT5 ((unhid HK4).2.trans ((Kept.of_below (drew_below w4) (Nat.le_trans hNw (unhid HK4).2.1.size)).trans ⟨hB5, hO5⟩))); clear hT5 hB5 hO5)
        all_goals
          go_wp2_with fail
          go_ret
          exact ⟨by rw [unhid E]; rfl, by rw [nextE_yes (unhid E)]; exact (unhid HK5).1, (unhid HK5).2⟩
end Go.Proofs.Ytlnehebihfeegaa
