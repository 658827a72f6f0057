/- Texts of this proof, one behind the other; each says at its head what it shows. -/
import Derived.Test.YtlnehebihfeegaaJoin2
import Derived.Laws.Entries
/- An entry put into a tree, wherever its place is. -/
namespace Go.Proofs.Ytlnehebihfeegaa
open Go.RowKit Go.Shelf

/-- Entries with one more in its place. -/
def insAt (es : List Ent) (e : Ent) : List Ent := es.take (placeE es e.path) ++ [e] ++ es.drop (placeE es e.path)

set_option maxRecDepth 100000 in
set_option maxHeartbeats 4000000 in
theorem mapPut_ins (N bt : Nat) (es : List Ent) (e : Ent) (w : World) (hn : es.length ≤ 900) (ha : Asc (pathsOf es)) (hN : N ≤ bt) (ht0 : thereE es e.path = false) (h : TreeAt w N bt es) :
    Calls Try.prog 56 #[.pointer (some ⟨bt, 0, .none⟩), .string e.path, nodeV e] w fun x w' => (∃ v, x = .returned v) ∧ TreeAt w' N bt (insAt es e) ∧ Below N w w' ∧ ∀ k o, k ≠ bt → w.heap[k]? = some o → Apart o → w'.heap[k]? = some o := by
  have hbl := h.lt
  obtain ⟨vp, vn, h1, h2, h3⟩ := h
  obtain ⟨a, cap, hva, hT⟩ := texts_of h2
  have hpn : (pathsOf es).length = es.length := by simp [pathsOf]
  have hl : (pathsOf es).length ≤ 1048576 := by omega
  have ht : thereP (pathsOf es) e.path = false := by rw [thereP_E, ht0]
  have hpp : placeP (pathsOf es) e.path = placeE es e.path := placeP_E _ _
  have hkl : placeE es e.path ≤ es.length := placeE_le es e.path
  have hins : insAt es e = es.take (placeE es e.path) ++ [e] ++ es.drop (placeE es e.path) := rfl
  have hT1 : ∀ v ∈ es.map (fun e => Value.string e.path), v.oneCell' = true := fun v hv => by obtain ⟨x, -, rfl⟩ := List.mem_map.1 hv; rfl
  have hN1 : ∀ v ∈ es.map nodeV, v.oneCell' = true := fun v hv => by obtain ⟨x, -, rfl⟩ := List.mem_map.1 hv; exact nodeV_one x
  obtain ⟨k, hk⟩ : ∃ k, placeE es e.path = k := ⟨_, rfl⟩
  rw [hk] at hpp hkl hins
  rw [hins]
  have hS := BinarySearch_any (pathsOf es) a cap e.path w hl ha hT
  rw [hpp, ht, hpn] at hS
  rw [hpn] at hva
  subst hva
  obtain ⟨T, nv, hV⟩ := nodeV_shape e
  have hIN := fun n i b v xs w => InsertN_any N n i b v xs e w
  simp only [hV] at hIN
  rw [hV]
  have HV := hid hV
  have HIN := hid hIN
  clear hV hIN
  have HS := hid hS
  obtain ⟨c0, c1, f0, f1⟩ := two_cells h1
  have H2 := hid h2
  have H3 := hid h3
  have H1 := hid h1
  have HT1 := hid hT1
  have HN1 := hid hN1
  clear hT ha hl ht hpp h1 h2 h3 hpn hS hins hk ht0 hT1 hN1
  go_enter Try.func56, Try.ntmps56
  go_wp2_with fail
  refine (unhid HS).mono ?_
  rintro x w1 ⟨rfl, hw1⟩
  rw [hw1]
  clear hw1
  go_wp2_with fail
  refine (InsertS_any N es.length k w.heap.size _ _ e.path (w.alloc (.cells #[.string e.path] 9)) hkl (by omega) (by simp; omega) ((unhid H2).alloc _) (fun eq => by have := ((unhid H2).lt _ eq).2; omega) (World.alloc_heap_new w _) (unhid HT1)).mono ?_
  rintro x w2 ⟨v2, rfl, hown2, hgrow2, -⟩
  obtain ⟨g2, cap2, rfl⟩ := ownsRow_succ hown2
  have h1a : (w.alloc (.cells #[.string e.path] 9)).heap[bt]? = some (.cells #[.slice a es.length cap, vn] 59 (0, 0)) := (Below.heap_alloc _ _ _ hbl).trans (unhid H1)
  have h12 : w2.heap[bt]? = some (.cells #[.slice a es.length cap, vn] 59 (0, 0)) := (hgrow2.block bt (by simp; omega) (row_ne ((unhid H2).alloc (.cells #[.string e.path] 9)) h1a (by decide))).trans h1a
  obtain ⟨c0, c1, f0, f1⟩ := two_cells h12
  have h32 : w2.ownsRow N 63 1 vn es.length (es.map nodeV) := by
    refine ownsRow_kept ((unhid H3).alloc (.cells #[.string e.path] 9)) (fun g hg => hgrow2.block g (((unhid H3).alloc (.cells #[.string e.path] 9)).lt g hg).2 ?_)
    rcases ((unhid H3).alloc (.cells #[.string e.path] 9)).2 with ⟨rfl, _⟩ | ⟨g', cap', cur', rfl, _, hgc, _⟩
    · cases hg
    · cases hg; exact row_ne ((unhid H2).alloc (.cells #[.string e.path] 9)) hgc (by decide)
  have hg2w : g2 ≠ bt := fun eq => by
    rcases hown2.2 with ⟨h, _⟩ | ⟨g', cap', cur', hv, _, hgc, _⟩
    · cases h
    · cases hv; exact type_ne hgc h12 (by decide) eq
  have HB2 := hid (And.intro hown2 (And.intro hgrow2 (And.intro h12 h32)))
  have hsz2 : w.heap.size + 1 ≤ w2.heap.size := by have := hgrow2.size; simpa using this
  clear hown2 hgrow2 h12 h32 h1a
  go_wp2_with fail
  obtain ⟨W3, hW3⟩ : ∃ W3, W3 = (w2.setCell ⟨bt, 0, .none⟩ (.slice (some ⟨g2, 0, .none⟩) (es.length + 1) cap2)).alloc (.cells #[.iface T nv] 63) := ⟨_, rfl⟩
  rw [← hW3]
  obtain ⟨hown2, hgrow2, h12, h32⟩ := unhid HB2
  have hbl2 : bt < w2.heap.size := by omega
  have h13 : W3.heap[bt]? = some (.cells #[.slice (some ⟨g2, 0, .none⟩) (es.length + 1) cap2, vn] 59 (0, 0)) := by
    rw [hW3, Below.heap_alloc _ _ _ (by simp; omega), heap_setCell_same _ bt 0 _ _ _ h12]; rfl
  have hk3 : ∀ g, g < w2.heap.size → g ≠ bt → W3.heap[g]? = w2.heap[g]? := fun g hg hne => by
    rw [hW3, Below.heap_alloc _ _ _ (by simpa using hg), Below.heap_setCell _ _ _ _ hne]
  have h33 : W3.ownsRow N 63 1 vn es.length (es.map nodeV) := ownsRow_kept h32 (fun g hg => hk3 g (h32.lt g hg).2 (fun eq => (row_ne h32 h12 (by decide)) (by rw [hg, eq])))
  have hown3 : W3.ownsRow N 9 1 (.slice (some ⟨g2, 0, .none⟩) (es.length + 1) cap2) (es.length + 1) ((es.map fun e => .string e.path).take k ++ [.string e.path] ++ (es.map fun e => .string e.path).drop k) := ownsRow_kept hown2 (fun g hg => hk3 g (hown2.lt g hg).2 (fun eq => by cases hg; exact hg2w eq))
  have hs3 : W3.heap.size = w2.heap.size + 1 := by rw [hW3]; simp
  have hc3 : W3.heap[w2.heap.size]? = some (.cells #[.iface T nv] 63 (0, 0)) := by
    rw [hW3]; have := World.alloc_heap_new (w2.setCell ⟨bt, 0, .none⟩ (.slice (some ⟨g2, 0, .none⟩) (es.length + 1) cap2)) (.cells #[.iface T nv] 63); simpa using this
  refine (unhid HIN es.length k w2.heap.size vn _ W3 hkl (by omega) (by omega) h33 (fun eq => by have := (h32.lt _ eq).2; omega) hc3 (unhid HN1)).mono ?_
  rintro x w4 ⟨v4, rfl, hown4, hgrow4, -⟩
  obtain ⟨g4, cap4, rfl⟩ := ownsRow_succ hown4
  have h14 : w4.heap[bt]? = some (.cells #[.slice (some ⟨g2, 0, .none⟩) (es.length + 1) cap2, vn] 59 (0, 0)) := (hgrow4.block bt (by omega) (row_ne h33 h13 (by decide))).trans h13
  have hrow4 : w4.ownsRow N 9 1 (.slice (some ⟨g2, 0, .none⟩) (es.length + 1) cap2) (es.length + 1) ((es.map fun e => .string e.path).take k ++ [.string e.path] ++ (es.map fun e => .string e.path).drop k) := ownsRow_kept hown3 (fun g hg => hgrow4.block g (hown3.lt g hg).2 (by
    rcases hown3.2 with ⟨h, _⟩ | ⟨g', cap', cur', hv, _, hgc, _⟩
    · cases h
    · cases hv; cases hg; exact row_ne h33 hgc (by decide)))
  obtain ⟨c0, c1, f0, f1⟩ := two_cells h14
  have hg4w : g4 ≠ bt := fun eq => by
    rcases hown4.2 with ⟨h, _⟩ | ⟨g', cap', cur', hv, _, hgc, _⟩
    · cases h
    · cases hv; exact type_ne hgc h14 (by decide) eq
  have hF : TreeAt (w4.setCell ⟨bt, 1, .none⟩ (.slice (some ⟨g4, 0, .none⟩) (es.length + 1) cap4)) N bt (es.take k ++ [e] ++ es.drop k) := by
    refine ⟨.slice (some ⟨g2, 0, .none⟩) (es.length + 1) cap2, .slice (some ⟨g4, 0, .none⟩) (es.length + 1) cap4, ?_, ?_, ?_⟩
    · rw [heap_setCell_same _ bt 1 _ _ _ h14]; rfl
    · rw [show (es.take k ++ [e] ++ es.drop k).length = es.length + 1 by simp; omega, List.map_append, List.map_append, List.map_take, List.map_drop]
      exact ownsRow_kept hrow4 (fun g hg => Below.heap_setCell _ _ _ _ (fun eq => by cases hg; exact hg2w eq))
    · rw [show (es.take k ++ [e] ++ es.drop k).length = es.length + 1 by simp; omega, List.map_append, List.map_append, List.map_take, List.map_drop]
      rw [← unhid HV] at hown4
      exact ownsRow_kept hown4 (fun g hg => Below.heap_setCell _ _ _ _ (fun eq => by cases hg; exact hg4w eq))
  have hB : Below N w (w4.setCell ⟨bt, 1, .none⟩ (.slice (some ⟨g4, 0, .none⟩) (es.length + 1) cap4)) := by
    have b1 : Below N w (w.alloc (.cells #[.string e.path] 9)) := (Below.refl _ _).alloc (by omega) _
    have b2 : Below N w w2 := b1.grown hgrow2 (by simp; omega) (fun g hg => (((unhid H2).alloc (.cells #[.string e.path] 9)).lt g hg).1)
    have b3 : Below N w W3 := by rw [hW3]; exact (b2.setCell hN _).alloc (by simp; omega) _
    have b4 : Below N w w4 := b3.grown hgrow4 (by omega) (fun g hg => (h33.lt g hg).1)
    exact b4.setCell hN _
  have hO : ∀ k o, k ≠ bt → w.heap[k]? = some o → Apart o → (w4.setCell ⟨bt, 1, .none⟩ (.slice (some ⟨g4, 0, .none⟩) (es.length + 1) cap4)).heap[k]? = some o := by
    intro k o hk ho hap
    have hkl : k < w.heap.size := (Array.getElem?_eq_some_iff.1 ho).1
    have a1 : (w.alloc (.cells #[.string e.path] 9)).heap[k]? = some o := (Below.heap_alloc _ _ _ hkl).trans ho
    have a2 : w2.heap[k]? = some o := (hgrow2.block k (by simp; omega) (fun eq => by
      rcases ((unhid H2).alloc (.cells #[.string e.path] 9)).2 with ⟨h, _⟩ | ⟨g', cap', cur', hv, _, hgc, _⟩
      · rw [h] at eq; cases eq
      · rw [hv] at eq; cases eq; rw [a1] at hgc; cases hgc; exact (hap _ _ _ rfl).1 rfl)).trans a1
    have a3 : W3.heap[k]? = some o := (hk3 k (by omega) hk).trans a2
    have a4 : w4.heap[k]? = some o := (hgrow4.block k (by omega) (fun eq => by
      rcases h33.2 with ⟨h, _⟩ | ⟨g', cap', cur', hv, _, hgc, _⟩
      · rw [h] at eq; cases eq
      · rw [hv] at eq; cases eq; rw [a3] at hgc; cases hgc; exact (hap _ _ _ rfl).2 rfl)).trans a3
    exact (Below.heap_setCell _ _ _ _ hk).trans a4
  have HF := hid (And.intro hF (And.intro hB hO))
  clear hF hB hO hown4 hgrow4 h14 hrow4 h13 hk3 h33 hown3 hc3 hW3 hown2 hgrow2 h12 h32 HB2
  go_wp2_with fail
  go_end0
  exact ⟨⟨_, rfl⟩, unhid HF⟩
end Go.Proofs.Ytlnehebihfeegaa

/- An entry put at the end of a tree, if it can be. -/
namespace Go.Proofs.Ytlnehebihfeegaa
open Go.RowKit Go.Shelf

def putB (es : List Ent) (e : Ent) : Bool := entB e && (dirE es (pathUpS e.path) && decide (es.length ≠ 16))
def nextE (es : List Ent) (e : Ent) : List Ent := if putB es e then es ++ [e] else es
theorem nextE_no {es : List Ent} {e : Ent} (h : putB es e = false) : nextE es e = es := by unfold nextE; rw [h]; rfl
theorem nextE_yes {es : List Ent} {e : Ent} (h : putB es e = true) : nextE es e = es ++ [e] := by unfold nextE; rw [h]; rfl
def Kept (N bt : Nat) (w w' : World) : Prop := Below N w w' ∧ ∀ k o, k ≠ bt → w.heap[k]? = some o → Apart o → w'.heap[k]? = some o
theorem Kept.of_below {N bt : Nat} {w w' : World} (h : Below w.heap.size w w') (hN : N ≤ w.heap.size) : Kept N bt w w' := ⟨h.mono hN, fun k _ _ ho _ => (h.block k (Array.getElem?_eq_some_iff.1 ho).1).trans ho⟩
theorem Kept.trans {N bt : Nat} {a b c : World} (h : Kept N bt a b) (g : Kept N bt b c) : Kept N bt a c := ⟨h.1.trans g.1, fun k o hk ho hap => g.2 k o hk (h.2 k o hk ho hap) hap⟩

set_option maxRecDepth 100000 in
set_option maxHeartbeats 8000000 in
theorem putEntry_end (N bt : Nat) (es : List Ent) (e : Ent) (w : World) (hp : e.path.size ≤ maxLen) (htx : e.text.size ≤ maxLen) (hn : es.length ≤ 16) (ha : Asc (pathsOf es)) (hN : N ≤ bt) (hpl : placeE es e.path = es.length) (h : TreeAt w N bt es) :
    Calls Try.prog 46 #[.pointer (some ⟨bt, 0, .none⟩), .agg e.vals] w fun x w' => x = .returned (.bool (putB es e)) ∧ TreeAt w' N bt (nextE es e) ∧ Kept N bt w w' := by
  have hbl := h.lt
  have hth : thereE es e.path = false := by unfold thereE; rw [hpl, List.getElem?_eq_none (Nat.le_refl _)]; rfl
  have hgv : getV es e.path = .nilIface := by unfold getV; rw [hth]; rfl
  have HT := hid (And.intro hth (And.intro hgv (And.intro ha hpl)))
  have hNw : N ≤ w.heap.size := by omega
  have h0 : TreeAt (w.alloc (.cells #[.string e.path, .int .i64 e.kind, .int .i64 e.mode, .string e.text] 27)) N bt es := h.below ((Below.refl _ w).alloc (Nat.le_refl _) _)
  have hk0 : Kept N bt w (w.alloc (.cells #[.string e.path, .int .i64 e.kind, .int .i64 e.mode, .string e.text] 27)) := Kept.of_below ((Below.refl _ w).alloc (Nat.le_refl _) _) hNw
  have hnw := World.alloc_heap_new w (.cells #[.string e.path, .int .i64 e.kind, .int .i64 e.mode, .string e.text] 27)
  have hs0 : w.heap.size < (w.alloc (.cells #[.string e.path, .int .i64 e.kind, .int .i64 e.mode, .string e.text] 27)).heap.size := by simp
  have H0 := hid (And.intro h0 hk0)
  have X0 := hid (show (w.alloc (.cells #[.string e.path, .int .i64 e.kind, .int .i64 e.mode, .string e.text] 27)).cell? ⟨w.heap.size, 0, .none⟩ = some (.string e.path) by unfold World.cell?; dsimp only; rw [hnw]; rfl)
  have X1 := hid (show (w.alloc (.cells #[.string e.path, .int .i64 e.kind, .int .i64 e.mode, .string e.text] 27)).cell? ⟨w.heap.size, 1, .none⟩ = some (.int .i64 e.kind) by unfold World.cell?; dsimp only; rw [hnw]; rfl)
  clear hth hgv ha hpl h h0 hk0 hnw
  have hN0 := hid (nodeOf_any e hp htx (w.alloc (.cells #[.string e.path, .int .i64 e.kind, .int .i64 e.mode, .string e.text] 27)))
  cases he : entB e
  · have E := hid (show putB es e = false by unfold putB; rw [he]; rfl)
    go_enter Try.func46, Try.ntmps46
    unfold Ent.vals
    go_wp2_with fail
    refine (unhid hN0).mono ?_
    rintro x w1 ⟨⟨v, rfl, hv, -⟩, hb⟩
    rw [he]
    have HK := hid (And.intro ((unhid H0).1.below hb) ((unhid H0).2.trans (Kept.of_below hb (by simp; omega))))
    clear hb
    go_wp2_with fail
    go_ret
    exact ⟨by rw [unhid E]; rfl, by rw [nextE_no (unhid E)]; exact (unhid HK).1, (unhid HK).2⟩
  · cases hd : dirE es (pathUpS e.path)
    · have E := hid (show putB es e = false by unfold putB; rw [hd]; simp)
      go_enter Try.func46, Try.ntmps46
      unfold Ent.vals
      go_wp2_with fail
      refine (unhid hN0).mono ?_
      rintro x w1 ⟨⟨v, rfl, hv, -⟩, hb⟩
      rw [he]
      have HK := hid (And.intro ((unhid H0).1.below hb) ((unhid H0).2.trans (Kept.of_below hb (by simp; omega))))
      have c0 := (hb.cell (p := ⟨w.heap.size, 0, .none⟩) hs0).trans (unhid X0)
      clear hb
      go_wp2_with fail
      refine (hasPlace_any N bt es e.path w1 hp (by omega) (unhid HT).2.2.1 (unhid HK).1).mono ?_
      rintro x w2 ⟨rfl, hb⟩
      rw [hd]
      have HK2 := hid (And.intro ((unhid HK).1.below hb) ((unhid HK).2.trans (Kept.of_below hb (Nat.le_trans hNw (unhid HK).2.1.size))))
      clear hb
      go_wp2_with fail
      go_ret
      exact ⟨by rw [unhid E]; rfl, by rw [nextE_no (unhid E)]; exact (unhid HK2).1, (unhid HK2).2⟩
    · by_cases h16 : es.length = 16
      · have E := hid (show putB es e = false by unfold putB; rw [h16]; simp)
        go_enter Try.func46, Try.ntmps46
        unfold Ent.vals
        go_wp2_with fail
        refine (unhid hN0).mono ?_
        rintro x w1 ⟨⟨v, rfl, hv, -⟩, hb⟩
        rw [he]
        have HK := hid (And.intro ((unhid H0).1.below hb) ((unhid H0).2.trans (Kept.of_below hb (by simp; omega))))
        have c0 := (hb.cell (p := ⟨w.heap.size, 0, .none⟩) hs0).trans (unhid X0)
        have hs1 := Nat.lt_of_lt_of_le hs0 hb.size
        clear hb
        go_wp2_with fail
        refine (hasPlace_any N bt es e.path w1 hp (by omega) (unhid HT).2.2.1 (unhid HK).1).mono ?_
        rintro x w2 ⟨rfl, hb⟩
        rw [hd]
        have HK2 := hid (And.intro ((unhid HK).1.below hb) ((unhid HK).2.trans (Kept.of_below hb (Nat.le_trans hNw (unhid HK).2.1.size))))
        have d0 := (hb.cell (p := ⟨w.heap.size, 0, .none⟩) hs1).trans c0
        clear hb c0
        go_wp2_with fail
        go_quiet ((go_at_call 42; refine Calls.quiet_of_same (v := .tuple #[.nilIface, .bool false]) ((mapGet_any N bt es e.path _ (by omega) (unhid HT).2.2.1 ((unhid HK2).1.below (drewN_below _ _))).mono ?_); rintro x w3 ⟨rfl, rfl⟩; exact ⟨by rw [(unhid HT).2.1, (unhid HT).1], rfl⟩))
        have HK3 := hid (And.intro ((unhid HK2).1.below (drewN_below w2 nq)) ((unhid HK2).2.trans (Kept.of_below (drewN_below w2 nq) (Nat.le_trans hNw (unhid HK2).2.1.size))))
        have d3 : (w2.drewN nq).cell? ⟨w.heap.size, 0, .none⟩ = some (.string e.path) := d0
        clear d0
        generalize w2.drewN nq = w3 at HK3 d3 ⊢
        go_wp2_with fail
        go_quiet (fail)
        have HK4 := hid (And.intro ((unhid HK3).1.below (drewN_below w3 nq)) ((unhid HK3).2.trans (Kept.of_below (drewN_below w3 nq) (Nat.le_trans hNw (unhid HK3).2.1.size))))
        have d4 : (w3.drewN nq).cell? ⟨w.heap.size, 0, .none⟩ = some (.string e.path) := d3
        clear d3
        generalize w3.drewN nq = w4 at HK4 d4 ⊢
        obtain ⟨vp, vn, t1, t2, t3⟩ := (unhid HK4).1
        obtain ⟨c0, c1, f0, f1⟩ := two_cells t1
        obtain ⟨va, vcap, rfl⟩ : ∃ va vcap, vp = .slice va es.length vcap := by
          rcases ownsRow_sh t2 with ⟨rfl, h0⟩ | ⟨g, cap, rfl, _⟩
          · exact ⟨.none, 0, by rw [h0]⟩
          · exact ⟨_, _, rfl⟩
        clear t1 t2 t3 c1 f0 f1
        have h16' : ((es.length : Int) == 16) = true := by simp [h16]
        clear h16
        go_wp2_with fail
        go_ret
        exact ⟨by rw [unhid E]; rfl, by rw [nextE_no (unhid E)]; exact (unhid HK4).1, (unhid HK4).2⟩
      · have E := hid (show putB es e = true by unfold putB; rw [he, hd]; simpa using h16)
        go_enter Try.func46, Try.ntmps46
        unfold Ent.vals
        go_wp2_with fail
        refine (unhid hN0).mono ?_
        rintro x w1 ⟨⟨v, rfl, -, hv⟩, hb⟩
        obtain rfl := hv he
        rw [he]
        have HK := hid (And.intro ((unhid H0).1.below hb) ((unhid H0).2.trans (Kept.of_below hb (by simp; omega))))
        have c0 := (hb.cell (p := ⟨w.heap.size, 0, .none⟩) hs0).trans (unhid X0)
        have hs1 := Nat.lt_of_lt_of_le hs0 hb.size
        clear hb hv
        go_wp2_with fail
        refine (hasPlace_any N bt es e.path w1 hp (by omega) (unhid HT).2.2.1 (unhid HK).1).mono ?_
        rintro x w2 ⟨rfl, hb⟩
        rw [hd]
        have HK2 := hid (And.intro ((unhid HK).1.below hb) ((unhid HK).2.trans (Kept.of_below hb (Nat.le_trans hNw (unhid HK).2.1.size))))
        have d0 := (hb.cell (p := ⟨w.heap.size, 0, .none⟩) hs1).trans c0
        clear hb c0
        go_wp2_with fail
        go_quiet ((go_at_call 42; refine Calls.quiet_of_same (v := .tuple #[.nilIface, .bool false]) ((mapGet_any N bt es e.path _ (by omega) (unhid HT).2.2.1 ((unhid HK2).1.below (drewN_below _ _))).mono ?_); rintro x w3 ⟨rfl, rfl⟩; exact ⟨by rw [(unhid HT).2.1, (unhid HT).1], rfl⟩))
        have HK3 := hid (And.intro ((unhid HK2).1.below (drewN_below w2 nq)) ((unhid HK2).2.trans (Kept.of_below (drewN_below w2 nq) (Nat.le_trans hNw (unhid HK2).2.1.size))))
        have d3 : (w2.drewN nq).cell? ⟨w.heap.size, 0, .none⟩ = some (.string e.path) := d0
        clear d0
        generalize w2.drewN nq = w3 at HK3 d3 ⊢
        go_wp2_with fail
        go_quiet (fail)
        have HK4 := hid (And.intro ((unhid HK3).1.below (drewN_below w3 nq)) ((unhid HK3).2.trans (Kept.of_below (drewN_below w3 nq) (Nat.le_trans hNw (unhid HK3).2.1.size))))
        have d4 : (w3.drewN nq).cell? ⟨w.heap.size, 0, .none⟩ = some (.string e.path) := d3
        clear d3
        generalize w3.drewN nq = w4 at HK4 d4 ⊢
        obtain ⟨vp, vn, t1, t2, t3⟩ := (unhid HK4).1
        obtain ⟨c0, c1, f0, f1⟩ := two_cells t1
        obtain ⟨va, vcap, rfl⟩ : ∃ va vcap, vp = .slice va es.length vcap := by
          rcases ownsRow_sh t2 with ⟨rfl, h0⟩ | ⟨g, cap, rfl, _⟩
          · exact ⟨.none, 0, by rw [h0]⟩
          · exact ⟨_, _, rfl⟩
        clear t1 t2 t3 c1 f0 f1
        have h16' : ((es.length : Int) == 16) = false := by rw [beq_eq_false_iff_ne]; omega
        clear h16
        go_wp2_with fail
        have HP := hid (mapPut_end N bt es e w4.drew (by omega) (unhid HT).2.2.1 hN (unhid HT).2.2.2 ((unhid HK4).1.below (drew_below _)))
        go_region_with (go_at_call 56; refine (unhid HP).mono ?_; rintro x w5 ⟨⟨y, rfl⟩, hT5, hB5, hO5⟩; have HK5 := hid (And.intro hT5 ((unhid HK4).2.trans ((Kept.of_below (drew_below w4) (Nat.le_trans hNw (unhid HK4).2.1.size)).trans ⟨hB5, hO5⟩))); clear hT5 hB5 hO5)
        all_goals
          go_wp2_with fail
          go_ret
          exact ⟨by rw [unhid E]; rfl, by rw [nextE_yes (unhid E)]; exact (unhid HK5).1, (unhid HK5).2⟩
end Go.Proofs.Ytlnehebihfeegaa

/- Entries that are a tree, told one by one: each can be put behind those ahead of it. -/
namespace Go.Proofs.Ytlnehebihfeegaa
open Go.RowKit Go.Shelf

def okI (es : List Ent) (i : Nat) : Bool := (i == 0 || ltS (entFn es (i - 1)).path (entFn es i).path) && putB (es.take i) (entFn es i)
theorem lt_take : ∀ (l : List UInt8) (i : Nat), i < l.length → Op.bytesLess (l.take i) l = true
  | [], _, h => by simp at h
  | _ :: _, 0, _ => rfl
  | a :: l, i + 1, h => by
    simp only [List.take_succ_cons, Op.bytesLess, Bool.or_eq_true, Bool.and_eq_true, beq_iff_eq]
    exact .inr ⟨trivial, lt_take l i (by simpa using h)⟩
theorem up_less {p : ByteArray} (h : (upS p).toList.isEmpty = false) : ltS (upS p) p = true := by
  unfold upS at h ⊢
  have hl := lastIx_lt 47 p.data.toList
  split
  · rename_i hi; rw [if_pos hi] at h; rw [Lib.toList_data] at h; cases h
  · unfold ltS
    rw [Lib.toList_data, Lib.toList_data, Lib.extract_data]
    simp only [Nat.sub_zero, List.drop_zero]
    exact lt_take _ _ (by omega)
theorem ent_get {es : List Ent} {i : Nat} (hi : i < es.length) : es[i]? = some (entFn es i) := by
  have := List.getElem?_eq_getElem hi
  rw [this, ← entFn_get this]
theorem asc_of {es : List Ent} {n : Nat} (_ : n ≤ es.length) (h : ∀ i, i < n → i = 0 ∨ ltS (entFn es (i - 1)).path (entFn es i).path = true) : ∀ i j, i < j → j < n → ltS (entFn es i).path (entFn es j).path = true := by
  intro i j hij hj
  induction j with
  | zero => omega
  | succ j ih =>
    have hs := (h (j + 1) hj).resolve_left (by omega)
    rw [Nat.add_sub_cancel] at hs
    by_cases e : i = j
    · subst e; exact hs
    · exact lt_tra _ _ _ (ih (by omega) (by omega)) hs
theorem place_at {es : List Ent} {j m : Nat} {q : ByteArray} (hj : j < m) (hm : m ≤ es.length) (hq : (entFn es j).path = q) (hasc : ∀ i, i < j → ltS (entFn es i).path q = true) : placeE (es.take m) q = j := by
  have hl : (es.take m).length = m := by rw [List.length_take]; omega
  have hg : ∀ i, i < m → (es.take m)[i]? = some (entFn es i) := fun i hi => by rw [List.getElem?_take_of_lt hi]; exact ent_get (by omega)
  refine place_of _ q j (by omega) (fun i e hi he => ?_) (fun e he => ?_)
  · rw [hg i (by omega)] at he; cases he; exact hasc i hi
  · rw [hg j hj] at he; cases he; rw [hq]; exact lt_irr _
theorem there_at {es : List Ent} {j m : Nat} {q : ByteArray} (hj : j < m) (hm : m ≤ es.length) (hq : (entFn es j).path = q) (hasc : ∀ i, i < j → ltS (entFn es i).path q = true) : thereE (es.take m) q = true ∧ entFn (es.take m) (placeE (es.take m) q) = entFn es j := by
  have hp := place_at hj hm hq hasc
  have hg : (es.take m)[j]? = some (entFn es j) := by rw [List.getElem?_take_of_lt hj]; exact ent_get (by omega)
  refine ⟨?_, by rw [hp]; exact entFn_get hg⟩
  unfold thereE
  rw [hp, hg]
  show eqS _ _ = true
  rw [hq]; exact (eqS_iff _ _).2 rfl
theorem dir_take {es : List Ent} {i : Nat} {q : ByteArray} (hi : i < es.length) (hs : ∀ a b, a < b → b < es.length → ltS (entFn es a).path (entFn es b).path = true) (hq : q.toList.isEmpty = false → ltS q (entFn es i).path = true) : dirE es q = dirE (es.take i) q := by
  unfold dirE
  cases he : q.toList.isEmpty
  · simp only [Bool.false_or]
    have hql := hq he
    rw [Bool.eq_iff_iff]
    constructor
    · intro h
      rw [Bool.and_eq_true] at h
      obtain ⟨e, hj, hpe⟩ := there_get h.1
      have hjl : placeE es q < es.length := (List.getElem?_eq_some_iff.1 hj).1
      have hfe : (entFn es (placeE es q)).path = q := by rw [entFn_get hj]; exact hpe
      have hji : placeE es q < i := by
        rcases Nat.lt_trichotomy (placeE es q) i with h1 | h1 | h1
        · exact h1
        · rw [h1] at hfe; rw [← hfe] at hql; have := lt_irr (entFn es i).path.toList; unfold ltS at hql; rw [this] at hql; cases hql
        · have h2 := hs i (placeE es q) h1 hjl
          rw [hfe] at h2
          have h3 := lt_tra _ _ _ h2 hql
          rw [lt_irr] at h3; cases h3
      obtain ⟨t1, t2⟩ := there_at (m := i) hji (by omega) hfe (fun a ha => by rw [← hfe]; exact hs a _ ha hjl)
      rw [t1, t2]; exact h.2
    · intro h
      rw [Bool.and_eq_true] at h
      obtain ⟨e, hj, hpe⟩ := there_get h.1
      have hjl : placeE (es.take i) q < (es.take i).length := (List.getElem?_eq_some_iff.1 hj).1
      rw [List.length_take] at hjl
      have hji : placeE (es.take i) q < i := by omega
      have hj' : es[placeE (es.take i) q]? = some e := by rw [List.getElem?_take_of_lt hji] at hj; exact hj
      have hfe : (entFn es (placeE (es.take i) q)).path = q := by rw [entFn_get hj']; exact hpe
      have hall : ∀ a, a < placeE (es.take i) q → ltS (entFn es a).path q = true := fun a ha => by rw [← hfe]; exact hs a _ ha (by omega)
      obtain ⟨t1, t2⟩ := there_at (m := es.length) (j := placeE (es.take i) q) (by omega) (Nat.le_refl _) hfe hall
      rw [List.take_of_length_le (Nat.le_refl _)] at t1 t2
      rw [t1, t2]
      have h2 := h.2
      rw [entFn_get hj] at h2
      rw [entFn_get hj']; exact h2
  · simp
theorem ent_path {e : Ent} (h : entB e = true) : pathUpS e.path = upS e.path := by
  unfold entB at h
  rw [Bool.and_eq_true] at h
  unfold pathUpS; rw [if_pos h.1]
theorem treeB_eq (es : List Ent) : treeB es = (List.range es.length).all (okI es) := by
  rw [Bool.eq_iff_iff]
  unfold treeB
  simp only [Bool.and_eq_true, List.all_eq_true, List.mem_range, decide_eq_true_eq]
  constructor
  · rintro ⟨⟨h1, h2⟩, h3⟩ i hi
    have hs : ∀ i, i < es.length → i = 0 ∨ ltS (entFn es (i - 1)).path (entFn es i).path = true := fun i hi => by
      have := h1 i hi; unfold sortAt at this; simp only [Bool.and_eq_true, Bool.or_eq_true, beq_iff_eq] at this; exact this.2
    have he : entB (entFn es i) = true := by have := h1 i hi; unfold sortAt at this; simp only [Bool.and_eq_true] at this; exact this.1
    have hd := h2 i hi
    rw [dir_take hi (asc_of (Nat.le_refl _) hs) (fun hq => up_less hq), ← ent_path he] at hd
    unfold okI putB
    rw [he, hd]
    have hl : (es.take i).length = i := by rw [List.length_take]; omega
    rw [hl]
    simp only [Bool.and_eq_true, Bool.or_eq_true, beq_iff_eq, decide_eq_true_eq, Bool.true_and]
    exact ⟨hs i hi, by omega⟩
  · intro h
    have hs : ∀ i, i < es.length → i = 0 ∨ ltS (entFn es (i - 1)).path (entFn es i).path = true := fun i hi => by
      have := h i hi; unfold okI at this; simp only [Bool.and_eq_true, Bool.or_eq_true, beq_iff_eq] at this; exact this.1
    have hp : ∀ i, i < es.length → entB (entFn es i) = true ∧ dirE (es.take i) (pathUpS (entFn es i).path) = true ∧ i ≠ 16 := fun i hi => by
      have := h i hi
      unfold okI putB at this
      have hl : (es.take i).length = i := by rw [List.length_take]; omega
      rw [hl] at this
      simp only [Bool.and_eq_true, decide_eq_true_eq] at this
      exact ⟨this.2.1, this.2.2.1, this.2.2.2⟩
    refine ⟨⟨fun i hi => ?_, fun i hi => ?_⟩, ?_⟩
    · unfold sortAt
      simp only [Bool.and_eq_true, Bool.or_eq_true, beq_iff_eq]
      exact ⟨(hp i hi).1, hs i hi⟩
    · have hd := (hp i hi).2.1
      rw [ent_path (hp i hi).1] at hd
      rw [dir_take hi (asc_of (Nat.le_refl _) hs) (fun hq => up_less hq)]
      exact hd
    · rcases Nat.lt_or_ge 16 es.length with h16 | h16
      · exact absurd rfl (hp 16 h16).2.2
      · exact h16
theorem asc_take {es : List Ent} {k : Nat} (hk : k ≤ es.length) (h : (List.range k).all (okI es) = true) : Asc (pathsOf (es.take k)) := by
  rw [List.all_eq_true] at h
  have hs : ∀ i, i < k → i = 0 ∨ ltS (entFn es (i - 1)).path (entFn es i).path = true := fun i hi => by
    have := h i (List.mem_range.2 hi); unfold okI at this; simp only [Bool.and_eq_true, Bool.or_eq_true, beq_iff_eq] at this; exact this.1
  have ha := asc_of hk hs
  intro i j x y hij hx hy
  unfold pathsOf at hx hy
  rw [List.getElem?_map] at hx hy
  have hl : (es.take k).length = k := by rw [List.length_take]; omega
  have hj : j < k := by
    rcases Nat.lt_or_ge j k with h | h
    · exact h
    · rw [List.getElem?_eq_none (by omega)] at hy; cases hy
  rw [List.getElem?_take_of_lt (by omega), ent_get (by omega)] at hx
  rw [List.getElem?_take_of_lt hj, ent_get (by omega)] at hy
  cases hx; cases hy
  exact ha i j hij hj
theorem place_end {es : List Ent} {k : Nat} (hk : k < es.length) (h : (List.range k).all (okI es) = true) (hl : k = 0 ∨ ltS (entFn es (k - 1)).path (entFn es k).path = true) : placeE (es.take k) (entFn es k).path = (es.take k).length := by
  rw [List.all_eq_true] at h
  have hs : ∀ i, i < k + 1 → i = 0 ∨ ltS (entFn es (i - 1)).path (entFn es i).path = true := fun i hi => by
    by_cases e : i = k
    · subst e; exact hl
    · have := h i (List.mem_range.2 (by omega)); unfold okI at this; simp only [Bool.and_eq_true, Bool.or_eq_true, beq_iff_eq] at this; exact this.1
  have ha := asc_of (n := k + 1) (by omega) hs
  have hlen : (es.take k).length = k := by rw [List.length_take]; omega
  rw [hlen]
  refine place_of _ _ k (by omega) (fun i e hi he => ?_) (fun e he => ?_)
  · rw [List.getElem?_take_of_lt hi, ent_get (by omega)] at he; cases he; exact ha i k hi (by omega)
  · rw [List.getElem?_eq_none (by omega)] at he; cases he
end Go.Proofs.Ytlnehebihfeegaa

/- The entry of what stands at a path. -/
namespace Go.Proofs.Ytlnehebihfeegaa
open Go.RowKit Go.Shelf

set_option maxRecDepth 100000 in
set_option maxHeartbeats 4000000 in
theorem entryOf_dir (p : ByteArray) (m : Int) (w : World) :
    Calls Try.prog 44 #[.string p, .iface 105 (.agg #[.int .i64 m])] w fun x w' => x = .returned (.agg #[.string p, .int .i64 1, .int .i64 m, .string ⟨#[]⟩]) ∧ Below w.heap.size w w' := by
  have hta4 : ∀ w, (Instr.typeAssert (.iface 105 (.agg #[.int .i64 m])) 63 105 true).run Try.prog w = .ok (.tuple #[.agg #[.int .i64 m], .bool true]) w := fun _ => by kernel_rfl
  have hb : ∀ o1 o2 o3, Below w.heap.size w ((((w.alloc o1).alloc o2).alloc o3).drew) := fun o1 o2 o3 => ((((Below.refl _ w).alloc (Nat.le_refl _) _).alloc (by simp) _).alloc (by simp; omega) _).drew
  have HB := hid hb
  clear hb
  go_enter Try.func44, Try.ntmps44
  go_wp2_with fail
  go_region
  all_goals
    go_wp2_with fail
    refine bodyPost_ret (v := .agg #[.string p, .int .i64 1, .int .i64 m, .string ⟨#[]⟩]) (by simp [results, Try.results44, go_sem]) rfl ⟨rfl, ?_⟩
    exact unhid HB _ _ _

set_option maxRecDepth 100000 in
set_option maxHeartbeats 4000000 in
theorem entryOf_file (p : ByteArray) (m : Int) (t : ByteArray) (w : World) :
    Calls Try.prog 44 #[.string p, .iface 107 (.agg #[.int .i64 m, .string t])] w fun x w' => x = .returned (.agg #[.string p, .int .i64 2, .int .i64 m, .string t]) ∧ Below w.heap.size w w' := by
  have hta4 : ∀ w, (Instr.typeAssert (.iface 107 (.agg #[.int .i64 m, .string t])) 63 105 true).run Try.prog w = .ok (.tuple #[.agg #[.int .i64 0], .bool false]) w := fun _ => by kernel_rfl
  have hta5 : ∀ w, (Instr.typeAssert (.iface 107 (.agg #[.int .i64 m, .string t])) 63 107 true).run Try.prog w = .ok (.tuple #[.agg #[.int .i64 m, .string t], .bool true]) w := fun _ => by kernel_rfl
  have hb : ∀ o1 o2 o3, Below w.heap.size w ((((w.alloc o1).alloc o2).alloc o3).drew) := fun o1 o2 o3 => ((((Below.refl _ w).alloc (Nat.le_refl _) _).alloc (by simp) _).alloc (by simp; omega) _).drew
  have HB := hid hb
  clear hb
  go_enter Try.func44, Try.ntmps44
  go_wp2_with fail
  go_region
  all_goals
    go_wp2_with fail
    refine bodyPost_ret (v := .agg #[.string p, .int .i64 2, .int .i64 m, .string t]) (by simp [results, Try.results44, go_sem]) rfl ⟨rfl, ?_⟩
    exact unhid HB _ _ _

set_option maxRecDepth 100000 in
set_option maxHeartbeats 4000000 in
theorem entryOf_link (p : ByteArray) (t : ByteArray) (w : World) :
    Calls Try.prog 44 #[.string p, .iface 102 (.agg #[.string t])] w fun x w' => x = .returned (.agg #[.string p, .int .i64 3, .int .i64 0, .string t]) ∧ Below w.heap.size w w' := by
  have hta4 : ∀ w, (Instr.typeAssert (.iface 102 (.agg #[.string t])) 63 105 true).run Try.prog w = .ok (.tuple #[.agg #[.int .i64 0], .bool false]) w := fun _ => by kernel_rfl
  have hta5 : ∀ w, (Instr.typeAssert (.iface 102 (.agg #[.string t])) 63 107 true).run Try.prog w = .ok (.tuple #[.agg #[.int .i64 0, .string ⟨#[]⟩], .bool false]) w := fun _ => by kernel_rfl
  have hta6 : ∀ w, (Instr.typeAssert (.iface 102 (.agg #[.string t])) 63 102 true).run Try.prog w = .ok (.tuple #[.agg #[.string t], .bool true]) w := fun _ => by kernel_rfl
  have hb : ∀ o1 o2 o3, Below w.heap.size w ((((w.alloc o1).alloc o2).alloc o3).drew) := fun o1 o2 o3 => ((((Below.refl _ w).alloc (Nat.le_refl _) _).alloc (by simp) _).alloc (by simp; omega) _).drew
  have HB := hid hb
  clear hb
  go_enter Try.func44, Try.ntmps44
  go_wp2_with fail
  go_region
  all_goals
    go_wp2_with fail
    refine bodyPost_ret (v := .agg #[.string p, .int .i64 3, .int .i64 0, .string t]) (by simp [results, Try.results44, go_sem]) rfl ⟨rfl, ?_⟩
    exact unhid HB _ _ _

theorem entryOf_any (e : Ent) (he : entB e = true) (w : World) : Calls Try.prog 44 #[.string e.path, nodeV e] w fun x w' => x = .returned (.agg e.vals) ∧ Below w.heap.size w w' := by
  obtain ⟨p, k, m, t⟩ := e
  unfold entB at he
  dsimp only at he ⊢
  rw [Bool.and_eq_true] at he
  have he2 := he.2
  unfold nodeV Ent.vals
  dsimp only
  by_cases k1 : k = 1
  · rw [if_pos k1] at he2 ⊢
    rw [Bool.and_eq_true] at he2
    have ht : t = ⟨#[]⟩ := ba_ext (List.isEmpty_iff.1 he2.2)
    subst k1; subst ht
    exact entryOf_dir p m w
  · rw [if_neg k1] at he2 ⊢
    by_cases k2 : k = 2
    · rw [if_pos k2]; subst k2; exact entryOf_file p m t w
    · rw [if_neg k2] at he2 ⊢
      simp only [Bool.and_eq_true, beq_iff_eq] at he2
      rw [he2.1, he2.2.1]; exact entryOf_link p t w
end Go.Proofs.Ytlnehebihfeegaa

/- An entry that is there already, put once more: nothing turns. -/
namespace Go.Proofs.Ytlnehebihfeegaa
open Go.RowKit Go.Shelf

theorem set_nothing {w : World} {g j : Nat} {v : Value} {cur : Array Value} {t : TypeId} (h : w.heap[g]? = some (.cells cur t (0, 0))) (hc : cur[j]? = some v) : Below (w.heap.size + 1) w (w.setCell ⟨g, j, .none⟩ v) := by
  refine ⟨rfl, rfl, rfl, by simp, fun k _ => ?_⟩
  by_cases e : k = g
  · subst e
    rw [heap_setCell_same w k j cur t v h, h]
    have : cur.setIfInBounds j v = cur := by
      apply Array.ext_getElem?
      intro i
      rw [Array.getElem?_setIfInBounds]
      by_cases ei : j = i
      · subst ei
        rw [if_pos rfl, if_pos (Array.getElem?_eq_some_iff.1 hc).1, hc]
      · rw [if_neg ei]
    rw [this]
  · exact Below.heap_setCell w _ v k e

set_option maxRecDepth 100000 in
set_option maxHeartbeats 4000000 in
theorem mapPut_again (N bt : Nat) (es : List Ent) (e : Ent) (w : World) (hn : es.length ≤ 900) (ha : Asc (pathsOf es)) (hj : es[placeE es e.path]? = some e) (h : TreeAt w N bt es) :
    Calls Try.prog 56 #[.pointer (some ⟨bt, 0, .none⟩), .string e.path, nodeV e] w fun x w' => (∃ v, x = .returned v) ∧ Below w.heap.size w w' := by
  have hbl := h.lt
  obtain ⟨vp, vn, h1, h2, h3⟩ := h
  obtain ⟨a, cap, hva, hT⟩ := texts_of h2
  have hpn : (pathsOf es).length = es.length := by simp [pathsOf]
  have hl : (pathsOf es).length ≤ 1048576 := by omega
  have ht : thereP (pathsOf es) e.path = true := by rw [thereP_E]; unfold thereE; rw [hj]; exact (eqS_iff _ _).2 rfl
  have hjl : placeE es e.path < es.length := (List.getElem?_eq_some_iff.1 hj).1
  have hS := BinarySearch_any (pathsOf es) a cap e.path w hl ha hT
  rw [placeP_E, ht, hpn] at hS
  rw [hpn] at hva
  subst hva
  obtain ⟨T, nv, hV⟩ := nodeV_shape e
  obtain ⟨g, cap2, cur, rfl, hg, hcj⟩ : ∃ g cap2 cur, vn = .slice (some ⟨g, 0, .none⟩) es.length cap2 ∧ w.heap[g]? = some (.cells cur 63 (0, 0)) ∧ cur[placeE es e.path]? = some (nodeV e) := by
    rcases h3.2 with ⟨rfl, h0⟩ | ⟨g, cap, cur, rfl, _, hg, hc, _, hsz, hcells⟩
    · omega
    · refine ⟨g, cap, cur, rfl, hg, ?_⟩
      have hq : (cur.toList.take (es.length * 1))[placeE es e.path]? = some (nodeV e) := by rw [hcells, List.getElem?_map, hj]; rfl
      rwa [List.getElem?_take_of_lt (by omega), Array.getElem?_toList] at hq
  rw [hV] at hcj ⊢
  have n0 : w.cell? ⟨g, placeE es e.path, .none⟩ = some (.iface T nv) := by simp [World.cell?, hg, hcj]
  have m0 : w.frozen? ⟨g, placeE es e.path, .none⟩ = false := by simp [World.frozen?, hg]
  have HS := hid hS
  have HN := hid (set_nothing hg hcj)
  obtain ⟨c0, c1, f0, f1⟩ := two_cells h1
  clear hT ha hl ht h1 h2 h3 hpn hj hS hV hg hcj
  generalize placeE es e.path = j at HS HN hjl n0 m0
  go_enter Try.func56, Try.ntmps56
  go_wp2_with fail
  refine (unhid HS).mono ?_
  rintro x w1 ⟨rfl, hw1⟩
  rw [hw1]
  clear hw1
  go_wp2_with fail
  first | go_end0 | refine bodyPost_ret (results_none rfl _ _ _) rfl ?_
  exact ⟨⟨_, rfl⟩, (unhid HN).mono (Nat.le_succ _)⟩

set_option maxRecDepth 100000 in
set_option maxHeartbeats 8000000 in
theorem putEntry_again (N bt : Nat) (es : List Ent) (e : Ent) (w : World) (hp : e.path.size ≤ maxLen) (htx : e.text.size ≤ maxLen) (hn : es.length ≤ 20) (ha : Asc (pathsOf es)) (he : entB e = true) (hd : dirE es (pathUpS e.path) = true) (hj : es[placeE es e.path]? = some e) (h : TreeAt w N bt es) :
    Calls Try.prog 46 #[.pointer (some ⟨bt, 0, .none⟩), .agg e.vals] w fun x w' => x = .returned (.bool true) ∧ Below w.heap.size w w' := by
  have hbl := h.lt
  have hth : thereE es e.path = true := by unfold thereE; rw [hj]; exact (eqS_iff _ _).2 rfl
  have hgv : getV es e.path = nodeV e := by unfold getV; rw [hth, entFn_get hj]; rfl
  have HT := hid (And.intro hth (And.intro hgv (And.intro ha hj)))
  have h0 : TreeAt (w.alloc (.cells #[.string e.path, .int .i64 e.kind, .int .i64 e.mode, .string e.text] 27)) N bt es := h.below ((Below.refl _ w).alloc (Nat.le_refl _) _)
  have hk0 : Below w.heap.size w (w.alloc (.cells #[.string e.path, .int .i64 e.kind, .int .i64 e.mode, .string e.text] 27)) := (Below.refl _ w).alloc (Nat.le_refl _) _
  have hnw := World.alloc_heap_new w (.cells #[.string e.path, .int .i64 e.kind, .int .i64 e.mode, .string e.text] 27)
  have hs0 : w.heap.size < (w.alloc (.cells #[.string e.path, .int .i64 e.kind, .int .i64 e.mode, .string e.text] 27)).heap.size := by simp
  have H0 := hid (And.intro h0 hk0)
  have X0 := hid (show (w.alloc (.cells #[.string e.path, .int .i64 e.kind, .int .i64 e.mode, .string e.text] 27)).cell? ⟨w.heap.size, 0, .none⟩ = some (.string e.path) by unfold World.cell?; dsimp only; rw [hnw]; rfl)
  have X1 := hid (show (w.alloc (.cells #[.string e.path, .int .i64 e.kind, .int .i64 e.mode, .string e.text] 27)).cell? ⟨w.heap.size, 1, .none⟩ = some (.int .i64 e.kind) by unfold World.cell?; dsimp only; rw [hnw]; rfl)
  have hN0 := hid (nodeOf_any e hp htx (w.alloc (.cells #[.string e.path, .int .i64 e.kind, .int .i64 e.mode, .string e.text] 27)))
  clear hth hgv ha hj h h0 hk0 hnw
  have HE := hid he
  have HD := hid hd
  go_enter Try.func46, Try.ntmps46
  unfold Ent.vals
  go_wp2_with fail
  refine (unhid hN0).mono ?_
  rintro x w1 ⟨⟨v, rfl, -, hv⟩, hb⟩
  obtain rfl := hv (unhid HE)
  rw [unhid HE]
  have HK := hid (And.intro ((unhid H0).1.below hb) ((unhid H0).2.trans (hb.mono (Nat.le_of_lt hs0))))
  have c0 := (hb.cell (p := ⟨w.heap.size, 0, .none⟩) hs0).trans (unhid X0)
  have c1 := (hb.cell (p := ⟨w.heap.size, 1, .none⟩) hs0).trans (unhid X1)
  have hs1 := Nat.lt_of_lt_of_le hs0 hb.size
  clear hb hv
  go_wp2_with fail
  refine (hasPlace_any N bt es e.path w1 hp (by omega) (unhid HT).2.2.1 (unhid HK).1).mono ?_
  rintro x w2 ⟨rfl, hb⟩
  rw [unhid HD]
  have HK2 := hid (And.intro ((unhid HK).1.below hb) ((unhid HK).2.trans (hb.mono (Nat.le_of_lt hs1))))
  have d0 := (hb.cell (p := ⟨w.heap.size, 0, .none⟩) hs1).trans c0
  have d1 := (hb.cell (p := ⟨w.heap.size, 1, .none⟩) hs1).trans c1
  have hs2 := Nat.lt_of_lt_of_le hs1 hb.size
  clear hb c0 c1
  go_wp2_with fail
  go_quiet ((go_at_call 42; refine Calls.quiet_of_same (v := .tuple #[nodeV e, .bool true]) ((mapGet_any N bt es e.path _ (by omega) (unhid HT).2.2.1 ((unhid HK2).1.below (drewN_below _ _))).mono ?_); rintro x w3 ⟨rfl, rfl⟩; exact ⟨by rw [(unhid HT).2.1, (unhid HT).1], rfl⟩))
  have HK3 := hid (And.intro ((unhid HK2).1.below (drewN_below w2 nq)) ((unhid HK2).2.trans (drewN_below w2 nq)))
  have d30 : (w2.drewN nq).cell? ⟨w.heap.size, 0, .none⟩ = some (.string e.path) := d0
  have d31 : (w2.drewN nq).cell? ⟨w.heap.size, 1, .none⟩ = some (.int .i64 e.kind) := d1
  have hs3 : w.heap.size < (w2.drewN nq).heap.size := hs2
  clear d0 d1
  generalize w2.drewN nq = w3 at HK3 d30 d31 hs3 ⊢
  have g0 := BW.cell (B := w3.heap.size) hs3 d30
  have g1 := BW.cell (B := w3.heap.size) hs3 d31
  go_wp2_with fail
  have hfd : ∀ w, (Instr.field 27 (.agg #[.string e.path, .int .i64 e.kind, .int .i64 e.mode, .string e.text]) 1).run Try.prog w = .ok (.int .i64 e.kind) w := fun _ => by kernel_rfl
  have hba := @BW.all w3.heap.size w3
  refine calm_region w3.heap.size (by kernel_rfl) (by kernel_rfl) ?_
  repeat (go_big_quiet_step ((go_at_call 44; exact Calls.bw (v := .agg #[.string e.path, .int .i64 e.kind, .int .i64 e.mode, .string e.text]) (Nat.le_refl _) (entryOf_any e (unhid HE) _))))
  refine wpQuiet_nil ?_
  intro w4 hw
  obtain ⟨x, hx⟩ := hw
  have hB4 : Below w3.heap.size w3 w4 := by rw [hx]; exact x.h
  clear hx x
  have HK4 := hid (And.intro ((unhid HK3).1.below hB4) ((unhid HK3).2.trans (hB4.mono (Nat.le_of_lt hs3))))
  have d4 := (hB4.cell (p := ⟨w.heap.size, 0, .none⟩) hs3).trans d30
  have hs4 := Nat.lt_of_lt_of_le hs3 hB4.size
  clear hB4 hba g0 g1 d30 d31 hfd
  go_wp2_with fail
  have HP := hid (mapPut_again N bt es e w4.drew (by omega) (unhid HT).2.2.1 (unhid HT).2.2.2 ((unhid HK4).1.below (drew_below _)))
  go_region_with (go_at_call 56; refine (unhid HP).mono ?_; rintro x w5 ⟨⟨y, rfl⟩, hB5⟩; have HK5 := hid (((unhid HK4).2.trans (drew_below w4)).trans (hB5.mono (Nat.le_of_lt hs4))); clear hB5)
  all_goals
    go_wp2_with fail
    go_ret
    exact ⟨rfl, unhid HK5⟩
end Go.Proofs.Ytlnehebihfeegaa

/- An entry put into a tree, if it can be, wherever its place is. -/
namespace Go.Proofs.Ytlnehebihfeegaa
open Go.RowKit Go.Shelf

theorem ownsRow_set {W : World} {N n j g : Nat} {v u : Value} {e : TypeId} {xs : List Value} (h : W.ownsRow N e 1 v n xs) (hj : j < n) (hg : v.ownBlock = some g) : (W.setCell ⟨g, j, .none⟩ u).ownsRow N e 1 v n (xs.set j u) := by
  refine ⟨by simpa using h.1, ?_⟩
  rcases h.2 with ⟨rfl, h0⟩ | ⟨g', cap, cur, rfl, hN, hh, hc, hm, hsz, hcells⟩
  · omega
  · cases hg
    refine .inr ⟨g', cap, cur.setIfInBounds j u, rfl, hN, heap_setCell_same _ g' j _ _ _ hh, hc, hm, by simpa using hsz, ?_⟩
    rw [Array.toList_setIfInBounds, List.take_set, hcells]

set_option maxRecDepth 100000 in
set_option maxHeartbeats 4000000 in
theorem mapPut_over (N bt : Nat) (es : List Ent) (e : Ent) (w : World) (hn : es.length ≤ 900) (ha : Asc (pathsOf es)) (ht0 : thereE es e.path = true) (h : TreeAt w N bt es) :
    Calls Try.prog 56 #[.pointer (some ⟨bt, 0, .none⟩), .string e.path, nodeV e] w fun x w' => (∃ v, x = .returned v) ∧ TreeAt w' N bt (es.set (placeE es e.path) e) ∧ Below N w w' ∧ ∀ k o, k ≠ bt → w.heap[k]? = some o → Apart o → w'.heap[k]? = some o := by
  have hbl := h.lt
  obtain ⟨vp, vn, h1, h2, h3⟩ := h
  obtain ⟨a, cap, hva, hT⟩ := texts_of h2
  have hpn : (pathsOf es).length = es.length := by simp [pathsOf]
  have hl : (pathsOf es).length ≤ 1048576 := by omega
  have ht : thereP (pathsOf es) e.path = true := by rw [thereP_E, ht0]
  obtain ⟨old, hj, hpo⟩ := there_get ht0
  have hjl : placeE es e.path < es.length := (List.getElem?_eq_some_iff.1 hj).1
  have hS := BinarySearch_any (pathsOf es) a cap e.path w hl ha hT
  rw [placeP_E, ht, hpn] at hS
  rw [hpn] at hva
  subst hva
  obtain ⟨T, nv, hV⟩ := nodeV_shape e
  have hse : (es.set (placeE es e.path) e).map nodeV = (es.map nodeV).set (placeE es e.path) (nodeV e) := by rw [List.map_set]
  have hsp : (es.set (placeE es e.path) e).map (fun e => Value.string e.path) = es.map (fun e => .string e.path) := by
    rw [List.map_set]
    apply List.ext_getElem?
    intro i
    rw [List.getElem?_set]
    split
    · rename_i hi
      subst hi
      rw [if_pos (by simpa using hjl), List.getElem?_map, hj, Option.map_some, hpo]
    · rfl
  obtain ⟨g, cap2, cur, rfl, hgN, hg, hszc⟩ : ∃ g cap2 cur, vn = .slice (some ⟨g, 0, .none⟩) es.length cap2 ∧ N ≤ g ∧ w.heap[g]? = some (.cells cur 63 (0, 0)) ∧ placeE es e.path < cur.size ∧ es.length ≤ cap2 := by
    rcases h3.2 with ⟨rfl, h0⟩ | ⟨g, cap, cur, rfl, hN', hg, hc, _, hsz, hcells⟩
    · omega
    · exact ⟨g, cap, cur, rfl, hN', hg, by omega, hc⟩
  have hFT : TreeAt (w.setCell ⟨g, placeE es e.path, .none⟩ (nodeV e)) N bt (es.set (placeE es e.path) e) := by
    refine ⟨.slice a es.length cap, .slice (some ⟨g, 0, .none⟩) es.length cap2, ?_, ?_, ?_⟩
    · rw [Below.heap_setCell _ _ _ _ (type_ne hg h1 (by decide)).symm]; exact h1
    · rw [List.length_set, hsp]
      refine ownsRow_kept h2 (fun g' eg => Below.heap_setCell _ _ _ _ (fun eq => ?_))
      obtain ⟨cur', hc'⟩ := (show ∃ cur', w.heap[g']? = some (.cells cur' 9 (0, 0)) by
        rcases h2.2 with ⟨hh, _⟩ | ⟨g'', cap'', cur'', hv, _, hh, _⟩
        · rw [hh] at eg; cases eg
        · rw [hv] at eg; cases eg; exact ⟨_, hh⟩)
      exact type_ne hg hc' (by decide) eq.symm
    · rw [List.length_set, hse]
      exact ownsRow_set h3 hjl rfl
  have hFB : Below N w (w.setCell ⟨g, placeE es e.path, .none⟩ (nodeV e)) := (Below.refl _ _).setCell hgN _
  have hFO : ∀ k o, k ≠ bt → w.heap[k]? = some o → Apart o → (w.setCell ⟨g, placeE es e.path, .none⟩ (nodeV e)).heap[k]? = some o := fun k o _ ho hap =>
    (Below.heap_setCell _ _ _ _ (fun eq => by
      have eq' : k = g := eq
      subst eq'
      rw [ho] at hg; cases hg; exact (hap _ _ _ rfl).2 rfl)).trans ho
  have HF := hid (And.intro hFT (And.intro hFB hFO))
  clear hFT hFB hFO hse hsp
  rw [hV] at HF ⊢
  obtain ⟨hsz1, hle⟩ := hszc
  have n0 : ∃ u, w.cell? ⟨g, placeE es e.path, .none⟩ = some u := ⟨cur[placeE es e.path], by simp [World.cell?, hg, hsz1]⟩
  obtain ⟨u, n0⟩ := n0
  have m0 : w.frozen? ⟨g, placeE es e.path, .none⟩ = false := by simp [World.frozen?, hg]
  have HS := hid hS
  obtain ⟨c0, c1, f0, f1⟩ := two_cells h1
  clear hT ha hl ht h1 h2 h3 hpn hj hS hV hg ht0 hpo hsz1
  generalize placeE es e.path = j at HS HF hjl n0 m0 ⊢
  go_enter Try.func56, Try.ntmps56
  go_wp2_with fail
  refine (unhid HS).mono ?_
  rintro x w1 ⟨rfl, hw1⟩
  rw [hw1]
  clear hw1
  go_wp2_with fail
  first | go_end0 | refine bodyPost_ret (results_none rfl _ _ _) rfl ?_
  exact ⟨⟨_, rfl⟩, unhid HF⟩

/-- Entries with one put in. -/
def putT (es : List Ent) (e : Ent) : List Ent := if thereE es e.path then es.set (placeE es e.path) e else insAt es e
theorem mapPut_any (N bt : Nat) (es : List Ent) (e : Ent) (w : World) (hn : es.length ≤ 900) (ha : Asc (pathsOf es)) (hN : N ≤ bt) (h : TreeAt w N bt es) :
    Calls Try.prog 56 #[.pointer (some ⟨bt, 0, .none⟩), .string e.path, nodeV e] w fun x w' => (∃ v, x = .returned v) ∧ TreeAt w' N bt (putT es e) ∧ Kept N bt w w' := by
  cases ht : thereE es e.path
  · have : putT es e = insAt es e := by unfold putT; rw [ht]; rfl
    rw [this]
    exact mapPut_ins N bt es e w hn ha hN ht h
  · have : putT es e = es.set (placeE es e.path) e := by unfold putT; rw [ht]; rfl
    rw [this]
    exact mapPut_over N bt es e w hn ha ht h

/-- Whether an entry can be put. -/
def okPut (es : List Ent) (e : Ent) : Bool := entB e && (dirE es (pathUpS e.path) && (if thereE es e.path then (entFn es (placeE es e.path)).kind == e.kind else decide (es.length ≠ 16)))
def putL (es : List Ent) (e : Ent) : List Ent := if okPut es e then putT es e else es
theorem putL_no {es : List Ent} {e : Ent} (h : okPut es e = false) : putL es e = es := by unfold putL; rw [h]; rfl
theorem putL_ins {es : List Ent} {e : Ent} (h : okPut es e = true) (ht : thereE es e.path = false) : putL es e = insAt es e := by unfold putL putT; rw [h, ht]; rfl
theorem putL_set {es : List Ent} {e : Ent} (h : okPut es e = true) (ht : thereE es e.path = true) : putL es e = es.set (placeE es e.path) e := by unfold putL putT; rw [h, ht]; rfl

set_option maxRecDepth 100000 in
set_option maxHeartbeats 8000000 in
theorem putEntry_any (N bt : Nat) (es : List Ent) (e : Ent) (w : World) (hp : e.path.size ≤ maxLen) (htx : e.text.size ≤ maxLen) (hn : es.length ≤ 16) (ha : Asc (pathsOf es)) (hall : ∀ x ∈ es, entB x = true) (hN : N ≤ bt) (h : TreeAt w N bt es) :
    Calls Try.prog 46 #[.pointer (some ⟨bt, 0, .none⟩), .agg e.vals] w fun x w' => x = .returned (.bool (okPut es e)) ∧ TreeAt w' N bt (putL es e) ∧ Kept N bt w w' := by
  have hbl := h.lt
  have HT := hid ha
  have hNw : N ≤ w.heap.size := by omega
  have h0 : TreeAt (w.alloc (.cells #[.string e.path, .int .i64 e.kind, .int .i64 e.mode, .string e.text] 27)) N bt es := h.below ((Below.refl _ w).alloc (Nat.le_refl _) _)
  have hk0 : Kept N bt w (w.alloc (.cells #[.string e.path, .int .i64 e.kind, .int .i64 e.mode, .string e.text] 27)) := Kept.of_below ((Below.refl _ w).alloc (Nat.le_refl _) _) hNw
  have hnw := World.alloc_heap_new w (.cells #[.string e.path, .int .i64 e.kind, .int .i64 e.mode, .string e.text] 27)
  have hs0 : w.heap.size < (w.alloc (.cells #[.string e.path, .int .i64 e.kind, .int .i64 e.mode, .string e.text] 27)).heap.size := by simp
  have H0 := hid (And.intro h0 hk0)
  have X0 := hid (show (w.alloc (.cells #[.string e.path, .int .i64 e.kind, .int .i64 e.mode, .string e.text] 27)).cell? ⟨w.heap.size, 0, .none⟩ = some (.string e.path) by unfold World.cell?; dsimp only; rw [hnw]; rfl)
  have X1 := hid (show (w.alloc (.cells #[.string e.path, .int .i64 e.kind, .int .i64 e.mode, .string e.text] 27)).cell? ⟨w.heap.size, 1, .none⟩ = some (.int .i64 e.kind) by unfold World.cell?; dsimp only; rw [hnw]; rfl)
  clear ha h h0 hk0 hnw
  have hN0 := hid (nodeOf_any e hp htx (w.alloc (.cells #[.string e.path, .int .i64 e.kind, .int .i64 e.mode, .string e.text] 27)))
  cases he : entB e
  · have E := hid (show okPut es e = false by unfold okPut; rw [he]; rfl)
    go_enter Try.func46, Try.ntmps46
    unfold Ent.vals
    go_wp2_with fail
    refine (unhid hN0).mono ?_
    rintro x w1 ⟨⟨v, rfl, hv, -⟩, hb⟩
    rw [he]
    have HK := hid (And.intro ((unhid H0).1.below hb) ((unhid H0).2.trans (Kept.of_below hb (by simp; omega))))
    clear hb
    go_wp2_with fail
    go_ret
    exact ⟨by rw [unhid E]; rfl, by rw [putL_no (unhid E)]; exact (unhid HK).1, (unhid HK).2⟩
  · cases hd : dirE es (pathUpS e.path)
    · have E := hid (show okPut es e = false by unfold okPut; rw [hd]; simp)
      go_enter Try.func46, Try.ntmps46
      unfold Ent.vals
      go_wp2_with fail
      refine (unhid hN0).mono ?_
      rintro x w1 ⟨⟨v, rfl, hv, -⟩, hb⟩
      rw [he]
      have HK := hid (And.intro ((unhid H0).1.below hb) ((unhid H0).2.trans (Kept.of_below hb (by simp; omega))))
      have c0 := (hb.cell (p := ⟨w.heap.size, 0, .none⟩) hs0).trans (unhid X0)
      clear hb
      go_wp2_with fail
      refine (hasPlace_any N bt es e.path w1 hp (by omega) (unhid HT) (unhid HK).1).mono ?_
      rintro x w2 ⟨rfl, hb⟩
      rw [hd]
      have HK2 := hid (And.intro ((unhid HK).1.below hb) ((unhid HK).2.trans (Kept.of_below hb (Nat.le_trans hNw (unhid HK).2.1.size))))
      clear hb
      go_wp2_with fail
      go_ret
      exact ⟨by rw [unhid E]; rfl, by rw [putL_no (unhid E)]; exact (unhid HK2).1, (unhid HK2).2⟩
    · cases hth : thereE es e.path
      · have HTH := hid hth
        have HGV := hid (show getV es e.path = .nilIface by unfold getV; rw [hth]; rfl)
        clear hth
        · by_cases h16 : es.length = 16
          · have E := hid (show okPut es e = false by unfold okPut; rw [unhid HTH, h16]; simp)
            go_enter Try.func46, Try.ntmps46
            unfold Ent.vals
            go_wp2_with fail
            refine (unhid hN0).mono ?_
            rintro x w1 ⟨⟨v, rfl, hv, -⟩, hb⟩
            rw [he]
            have HK := hid (And.intro ((unhid H0).1.below hb) ((unhid H0).2.trans (Kept.of_below hb (by simp; omega))))
            have c0 := (hb.cell (p := ⟨w.heap.size, 0, .none⟩) hs0).trans (unhid X0)
            have hs1 := Nat.lt_of_lt_of_le hs0 hb.size
            clear hb
            go_wp2_with fail
            refine (hasPlace_any N bt es e.path w1 hp (by omega) (unhid HT) (unhid HK).1).mono ?_
            rintro x w2 ⟨rfl, hb⟩
            rw [hd]
            have HK2 := hid (And.intro ((unhid HK).1.below hb) ((unhid HK).2.trans (Kept.of_below hb (Nat.le_trans hNw (unhid HK).2.1.size))))
            have d0 := (hb.cell (p := ⟨w.heap.size, 0, .none⟩) hs1).trans c0
            clear hb c0
            go_wp2_with fail
            go_quiet ((go_at_call 42; refine Calls.quiet_of_same (v := .tuple #[.nilIface, .bool false]) ((mapGet_any N bt es e.path _ (by omega) (unhid HT) ((unhid HK2).1.below (drewN_below _ _))).mono ?_); rintro x w3 ⟨rfl, rfl⟩; exact ⟨by rw [unhid HGV, unhid HTH], rfl⟩))
            have HK3 := hid (And.intro ((unhid HK2).1.below (drewN_below w2 nq)) ((unhid HK2).2.trans (Kept.of_below (drewN_below w2 nq) (Nat.le_trans hNw (unhid HK2).2.1.size))))
            have d3 : (w2.drewN nq).cell? ⟨w.heap.size, 0, .none⟩ = some (.string e.path) := d0
            clear d0
            generalize w2.drewN nq = w3 at HK3 d3 ⊢
            go_wp2_with fail
            go_quiet (fail)
            have HK4 := hid (And.intro ((unhid HK3).1.below (drewN_below w3 nq)) ((unhid HK3).2.trans (Kept.of_below (drewN_below w3 nq) (Nat.le_trans hNw (unhid HK3).2.1.size))))
            have d4 : (w3.drewN nq).cell? ⟨w.heap.size, 0, .none⟩ = some (.string e.path) := d3
            clear d3
            generalize w3.drewN nq = w4 at HK4 d4 ⊢
            obtain ⟨vp, vn, t1, t2, t3⟩ := (unhid HK4).1
            obtain ⟨c0, c1, f0, f1⟩ := two_cells t1
            obtain ⟨va, vcap, rfl⟩ : ∃ va vcap, vp = .slice va es.length vcap := by
              rcases ownsRow_sh t2 with ⟨rfl, h0⟩ | ⟨g, cap, rfl, _⟩
              · exact ⟨.none, 0, by rw [h0]⟩
              · exact ⟨_, _, rfl⟩
            clear t1 t2 t3 c1 f0 f1
            have h16' : ((es.length : Int) == 16) = true := by simp [h16]
            clear h16
            go_wp2_with fail
            go_ret
            exact ⟨by rw [unhid E]; rfl, by rw [putL_no (unhid E)]; exact (unhid HK4).1, (unhid HK4).2⟩
          · have E := hid (show okPut es e = true by unfold okPut; rw [he, hd, unhid HTH]; simpa using h16)
            go_enter Try.func46, Try.ntmps46
            unfold Ent.vals
            go_wp2_with fail
            refine (unhid hN0).mono ?_
            rintro x w1 ⟨⟨v, rfl, -, hv⟩, hb⟩
            obtain rfl := hv he
            rw [he]
            have HK := hid (And.intro ((unhid H0).1.below hb) ((unhid H0).2.trans (Kept.of_below hb (by simp; omega))))
            have c0 := (hb.cell (p := ⟨w.heap.size, 0, .none⟩) hs0).trans (unhid X0)
            have hs1 := Nat.lt_of_lt_of_le hs0 hb.size
            clear hb hv
            go_wp2_with fail
            refine (hasPlace_any N bt es e.path w1 hp (by omega) (unhid HT) (unhid HK).1).mono ?_
            rintro x w2 ⟨rfl, hb⟩
            rw [hd]
            have HK2 := hid (And.intro ((unhid HK).1.below hb) ((unhid HK).2.trans (Kept.of_below hb (Nat.le_trans hNw (unhid HK).2.1.size))))
            have d0 := (hb.cell (p := ⟨w.heap.size, 0, .none⟩) hs1).trans c0
            clear hb c0
            go_wp2_with fail
            go_quiet ((go_at_call 42; refine Calls.quiet_of_same (v := .tuple #[.nilIface, .bool false]) ((mapGet_any N bt es e.path _ (by omega) (unhid HT) ((unhid HK2).1.below (drewN_below _ _))).mono ?_); rintro x w3 ⟨rfl, rfl⟩; exact ⟨by rw [unhid HGV, unhid HTH], rfl⟩))
            have HK3 := hid (And.intro ((unhid HK2).1.below (drewN_below w2 nq)) ((unhid HK2).2.trans (Kept.of_below (drewN_below w2 nq) (Nat.le_trans hNw (unhid HK2).2.1.size))))
            have d3 : (w2.drewN nq).cell? ⟨w.heap.size, 0, .none⟩ = some (.string e.path) := d0
            clear d0
            generalize w2.drewN nq = w3 at HK3 d3 ⊢
            go_wp2_with fail
            go_quiet (fail)
            have HK4 := hid (And.intro ((unhid HK3).1.below (drewN_below w3 nq)) ((unhid HK3).2.trans (Kept.of_below (drewN_below w3 nq) (Nat.le_trans hNw (unhid HK3).2.1.size))))
            have d4 : (w3.drewN nq).cell? ⟨w.heap.size, 0, .none⟩ = some (.string e.path) := d3
            clear d3
            generalize w3.drewN nq = w4 at HK4 d4 ⊢
            obtain ⟨vp, vn, t1, t2, t3⟩ := (unhid HK4).1
            obtain ⟨c0, c1, f0, f1⟩ := two_cells t1
            obtain ⟨va, vcap, rfl⟩ : ∃ va vcap, vp = .slice va es.length vcap := by
              rcases ownsRow_sh t2 with ⟨rfl, h0⟩ | ⟨g, cap, rfl, _⟩
              · exact ⟨.none, 0, by rw [h0]⟩
              · exact ⟨_, _, rfl⟩
            clear t1 t2 t3 c1 f0 f1
            have h16' : ((es.length : Int) == 16) = false := by rw [beq_eq_false_iff_ne]; omega
            clear h16
            go_wp2_with fail
            have HP := hid (mapPut_ins N bt es e w4.drew (by omega) (unhid HT) hN (unhid HTH) ((unhid HK4).1.below (drew_below _)))
            go_region_with (go_at_call 56; refine (unhid HP).mono ?_; rintro x w5 ⟨⟨y, rfl⟩, hT5, hB5, hO5⟩; have HK5 := hid (And.intro hT5 ((unhid HK4).2.trans ((Kept.of_below (drew_below w4) (Nat.le_trans hNw (unhid HK4).2.1.size)).trans ⟨hB5, hO5⟩))); clear hT5 hB5 hO5)
            all_goals
              go_wp2_with fail
              go_ret
              exact ⟨by rw [unhid E]; rfl, by rw [putL_ins (unhid E) (unhid HTH)]; exact (unhid HK5).1, (unhid HK5).2⟩
      · obtain ⟨old, hold, hop⟩ := there_get hth
        have hfo := entFn_get hold
        have HTH := hid hth
        have heo := hall old (List.mem_of_getElem? hold)
        obtain ⟨T1, nv1, hnv1⟩ := nodeV_shape old
        have HGV := hid (show getV es e.path = .iface T1 nv1 by unfold getV; rw [hth, hfo, if_pos rfl, hnv1])
        have ENT0 : ∀ w, Calls Try.prog 44 #[.string e.path, .iface T1 nv1] w fun x w' => x = .returned (.agg old.vals) ∧ Below w.heap.size w w' := fun w => by rw [← hop, ← hnv1]; exact entryOf_any old heo w
        have ENT := hid ENT0
        cases hkk : (old.kind != e.kind)
        · have E := hid (show okPut es e = true by unfold okPut; rw [he, hd, hth, hfo]; simp at hkk; simp [hkk])
          clear ENT0 hfo hold hth hnv1 hop heo
          go_enter Try.func46, Try.ntmps46
          unfold Ent.vals
          go_wp2_with fail
          refine (unhid hN0).mono ?_
          rintro x w1 ⟨⟨v, rfl, -, hv⟩, hb⟩
          obtain rfl := hv he
          rw [he]
          have HK := hid (And.intro ((unhid H0).1.below hb) ((unhid H0).2.trans (Kept.of_below hb (by simp; omega))))
          have c0 := (hb.cell (p := ⟨w.heap.size, 0, .none⟩) hs0).trans (unhid X0)
          have c1 := (hb.cell (p := ⟨w.heap.size, 1, .none⟩) hs0).trans (unhid X1)
          have hs1 := Nat.lt_of_lt_of_le hs0 hb.size
          clear hb hv
          go_wp2_with fail
          refine (hasPlace_any N bt es e.path w1 hp (by omega) (unhid HT) (unhid HK).1).mono ?_
          rintro x w2 ⟨rfl, hb⟩
          rw [hd]
          have HK2 := hid (And.intro ((unhid HK).1.below hb) ((unhid HK).2.trans (Kept.of_below hb (Nat.le_trans hNw (unhid HK).2.1.size))))
          have d0 := (hb.cell (p := ⟨w.heap.size, 0, .none⟩) hs1).trans c0
          have d1 := (hb.cell (p := ⟨w.heap.size, 1, .none⟩) hs1).trans c1
          have hs2 := Nat.lt_of_lt_of_le hs1 hb.size
          clear hb c0 c1
          go_wp2_with fail
          go_quiet ((go_at_call 42; refine Calls.quiet_of_same (v := .tuple #[.iface T1 nv1, .bool true]) ((mapGet_any N bt es e.path _ (by omega) (unhid HT) ((unhid HK2).1.below (drewN_below _ _))).mono ?_); rintro x w3 ⟨rfl, rfl⟩; exact ⟨by rw [unhid HGV, unhid HTH], rfl⟩))
          have HK3 := hid (And.intro ((unhid HK2).1.below (drewN_below w2 nq)) ((unhid HK2).2.trans (Kept.of_below (drewN_below w2 nq) (Nat.le_trans hNw (unhid HK2).2.1.size))))
          have d30 : (w2.drewN nq).cell? ⟨w.heap.size, 0, .none⟩ = some (.string e.path) := d0
          have d31 : (w2.drewN nq).cell? ⟨w.heap.size, 1, .none⟩ = some (.int .i64 e.kind) := d1
          have hs3 : w.heap.size < (w2.drewN nq).heap.size := hs2
          clear d0 d1
          generalize w2.drewN nq = w3 at HK3 d30 d31 hs3 ⊢
          have g0 := BW.cell (B := w3.heap.size) hs3 d30
          have g1 := BW.cell (B := w3.heap.size) hs3 d31
          go_wp2_with fail
          have hfd : ∀ w, (Instr.field 27 (.agg #[.string old.path, .int .i64 old.kind, .int .i64 old.mode, .string old.text]) 1).run Try.prog w = .ok (.int .i64 old.kind) w := fun _ => by kernel_rfl
          have hba := @BW.all w3.heap.size w3
          refine calm_region w3.heap.size (by kernel_rfl) (by kernel_rfl) ?_
          repeat (go_big_quiet_step ((go_at_call 44; exact Calls.bw (v := .agg #[.string old.path, .int .i64 old.kind, .int .i64 old.mode, .string old.text]) (Nat.le_refl _) (unhid ENT _))))
          refine wpQuiet_nil ?_
          intro w4 hw
          obtain ⟨x, hx⟩ := hw
          have hB4 : Below w3.heap.size w3 w4 := by rw [hx]; exact x.h
          clear hx x
          have HK4 := hid (And.intro ((unhid HK3).1.below hB4) ((unhid HK3).2.trans (Kept.of_below hB4 (Nat.le_trans hNw (unhid HK3).2.1.size))))
          have d4 := (hB4.cell (p := ⟨w.heap.size, 0, .none⟩) hs3).trans d30
          have hs4 := Nat.lt_of_lt_of_le hs3 hB4.size
          clear hB4 hba g0 g1 d30 d31 hfd
          go_wp2_with fail
          have HP := hid (mapPut_over N bt es e w4.drew (by omega) (unhid HT) (unhid HTH) ((unhid HK4).1.below (drew_below _)))
          go_region_with (go_at_call 56; refine (unhid HP).mono ?_; rintro x w5 ⟨⟨y, rfl⟩, hT5, hB5, hO5⟩; have HK5 := hid (And.intro hT5 ((unhid HK4).2.trans ((Kept.of_below (drew_below w4) (Nat.le_trans hNw (unhid HK4).2.1.size)).trans ⟨hB5, hO5⟩))); clear hT5 hB5 hO5)
          all_goals
            go_wp2_with fail
            go_ret
            exact ⟨by rw [unhid E]; rfl, by rw [putL_set (unhid E) (unhid HTH)]; exact (unhid HK5).1, (unhid HK5).2⟩
        · have E := hid (show okPut es e = false by unfold okPut; rw [he, hd, hth, hfo]; simp at hkk; simp [hkk])
          clear ENT0 hfo hold hth hnv1 hop heo
          go_enter Try.func46, Try.ntmps46
          unfold Ent.vals
          go_wp2_with fail
          refine (unhid hN0).mono ?_
          rintro x w1 ⟨⟨v, rfl, -, hv⟩, hb⟩
          obtain rfl := hv he
          rw [he]
          have HK := hid (And.intro ((unhid H0).1.below hb) ((unhid H0).2.trans (Kept.of_below hb (by simp; omega))))
          have c0 := (hb.cell (p := ⟨w.heap.size, 0, .none⟩) hs0).trans (unhid X0)
          have c1 := (hb.cell (p := ⟨w.heap.size, 1, .none⟩) hs0).trans (unhid X1)
          have hs1 := Nat.lt_of_lt_of_le hs0 hb.size
          clear hb hv
          go_wp2_with fail
          refine (hasPlace_any N bt es e.path w1 hp (by omega) (unhid HT) (unhid HK).1).mono ?_
          rintro x w2 ⟨rfl, hb⟩
          rw [hd]
          have HK2 := hid (And.intro ((unhid HK).1.below hb) ((unhid HK).2.trans (Kept.of_below hb (Nat.le_trans hNw (unhid HK).2.1.size))))
          have d0 := (hb.cell (p := ⟨w.heap.size, 0, .none⟩) hs1).trans c0
          have d1 := (hb.cell (p := ⟨w.heap.size, 1, .none⟩) hs1).trans c1
          have hs2 := Nat.lt_of_lt_of_le hs1 hb.size
          clear hb c0 c1
          go_wp2_with fail
          go_quiet ((go_at_call 42; refine Calls.quiet_of_same (v := .tuple #[.iface T1 nv1, .bool true]) ((mapGet_any N bt es e.path _ (by omega) (unhid HT) ((unhid HK2).1.below (drewN_below _ _))).mono ?_); rintro x w3 ⟨rfl, rfl⟩; exact ⟨by rw [unhid HGV, unhid HTH], rfl⟩))
          have HK3 := hid (And.intro ((unhid HK2).1.below (drewN_below w2 nq)) ((unhid HK2).2.trans (Kept.of_below (drewN_below w2 nq) (Nat.le_trans hNw (unhid HK2).2.1.size))))
          have d30 : (w2.drewN nq).cell? ⟨w.heap.size, 0, .none⟩ = some (.string e.path) := d0
          have d31 : (w2.drewN nq).cell? ⟨w.heap.size, 1, .none⟩ = some (.int .i64 e.kind) := d1
          have hs3 : w.heap.size < (w2.drewN nq).heap.size := hs2
          clear d0 d1
          generalize w2.drewN nq = w3 at HK3 d30 d31 hs3 ⊢
          have g0 := BW.cell (B := w3.heap.size) hs3 d30
          have g1 := BW.cell (B := w3.heap.size) hs3 d31
          go_wp2_with fail
          have hfd : ∀ w, (Instr.field 27 (.agg #[.string old.path, .int .i64 old.kind, .int .i64 old.mode, .string old.text]) 1).run Try.prog w = .ok (.int .i64 old.kind) w := fun _ => by kernel_rfl
          have hba := @BW.all w3.heap.size w3
          refine calm_region w3.heap.size (by kernel_rfl) (by kernel_rfl) ?_
          repeat (go_big_quiet_step ((go_at_call 44; exact Calls.bw (v := .agg #[.string old.path, .int .i64 old.kind, .int .i64 old.mode, .string old.text]) (Nat.le_refl _) (unhid ENT _))))
          refine wpQuiet_nil ?_
          intro w4 hw
          obtain ⟨x, hx⟩ := hw
          have hB4 : Below w3.heap.size w3 w4 := by rw [hx]; exact x.h
          clear hx x
          have HK4 := hid (And.intro ((unhid HK3).1.below hB4) ((unhid HK3).2.trans (Kept.of_below hB4 (Nat.le_trans hNw (unhid HK3).2.1.size))))
          have d4 := (hB4.cell (p := ⟨w.heap.size, 0, .none⟩) hs3).trans d30
          have hs4 := Nat.lt_of_lt_of_le hs3 hB4.size
          clear hB4 hba g0 g1 d30 d31 hfd
          go_wp2_with fail
          go_ret
          exact ⟨by rw [unhid E]; rfl, by rw [putL_no (unhid E)]; exact (unhid HK4).1, (unhid HK4).2⟩
end Go.Proofs.Ytlnehebihfeegaa

/- Entries put into a tree one behind the other: in order, each path once. -/
namespace Go.Proofs.Ytlnehebihfeegaa
open Go.RowKit Go.Shelf

def Up (es : List Ent) : Prop := es.Pairwise fun x y => ltS x.path y.path = true
theorem up_asc {es : List Ent} (h : Up es) : Asc (pathsOf es) := by
  intro i j x y hij hi hj
  unfold pathsOf at hi hj
  rw [List.getElem?_map] at hi hj
  obtain ⟨a, ha, rfl⟩ := Option.map_eq_some_iff.1 hi
  obtain ⟨b, hb, rfl⟩ := Option.map_eq_some_iff.1 hj
  obtain ⟨hia, rfl⟩ := List.getElem?_eq_some_iff.1 ha
  obtain ⟨hjb, rfl⟩ := List.getElem?_eq_some_iff.1 hb
  exact List.pairwise_iff_getElem.1 h i j hia hjb hij
theorem asc_up {es : List Ent} (h : Asc (pathsOf es)) : Up es := by
  refine List.pairwise_iff_getElem.2 (fun i j hi hj hij => ?_)
  exact h i j _ _ hij (by simp [pathsOf, hi]) (by simp [pathsOf, hj])
theorem place_split (es : List Ent) (p : ByteArray) : (∀ x ∈ es.take (placeE es p), ltS x.path p = true) ∧ (∀ x, es[placeE es p]? = some x → ltS x.path p = false) := by
  refine ⟨fun x hx => ?_, fun x hx => ?_⟩
  · obtain ⟨i, hi⟩ := List.getElem?_of_mem hx
    rw [List.getElem?_take] at hi
    split at hi
    · rename_i hlt; exact place_lt hlt hi
    · cases hi
  · unfold placeE at hx
    induction es with
    | nil => simp at hx
    | cons e es ih =>
      rw [List.takeWhile_cons] at hx
      cases he : ltS e.path p
      · rw [he] at hx; simp at hx; subst hx; exact he
      · rw [he] at hx; simp at hx; exact ih hx
theorem lt_trans' {a b c : ByteArray} (h1 : ltS a b = true) (h2 : ltS b c = true) : ltS a c = true := lt_tra _ _ _ h1 h2
theorem lt_tot' {a b : ByteArray} (h1 : ltS a b = false) (h2 : eqS a b = false) : ltS b a = true := by
  cases h : ltS b a
  · have e := lt_tot _ _ h1 h
    rw [show eqS a b = true by unfold eqS; rw [e]; simp] at h2; cases h2
  · rfl
theorem insAt_up {es : List Ent} {e : Ent} (h : Up es) (ht : thereE es e.path = false) : Up (insAt es e) := by
  obtain ⟨h1, h2⟩ := place_split es e.path
  have hd : ∀ x ∈ es.drop (placeE es e.path), ltS e.path x.path = true := by
    unfold thereE at ht
    intro x hx
    cases hf : es[placeE es e.path]? with
    | none =>
      rw [List.drop_eq_nil_of_le (by simpa using hf)] at hx; simp at hx
    | some y =>
      rw [hf] at ht
      have hy : ltS e.path y.path = true := lt_tot' (h2 y hf) (by simpa using ht)
      obtain ⟨hk, rfl⟩ := List.getElem?_eq_some_iff.1 hf
      rw [List.drop_eq_getElem_cons hk] at hx
      rcases List.mem_cons.1 hx with rfl | hx
      · exact hy
      · refine lt_trans' hy ?_
        obtain ⟨j, hj⟩ := List.getElem?_of_mem hx
        rw [List.getElem?_drop] at hj
        obtain ⟨hjl, rfl⟩ := List.getElem?_eq_some_iff.1 hj
        exact List.pairwise_iff_getElem.1 h _ _ hk hjl (by omega)
  have hs : Up (es.take (placeE es e.path) ++ es.drop (placeE es e.path)) := by rw [List.take_append_drop]; exact h
  unfold Up at hs
  rw [List.pairwise_append] at hs
  unfold insAt Up
  rw [List.append_assoc, List.pairwise_append]
  refine ⟨hs.1, ?_, ?_⟩
  · rw [List.singleton_append, List.pairwise_cons]
    exact ⟨hd, hs.2.1⟩
  · intro x hx y hy
    rw [List.singleton_append, List.mem_cons] at hy
    rcases hy with rfl | hy
    · exact h1 x hx
    · exact hs.2.2 x hx y hy
theorem set_paths {es : List Ent} {e : Ent} (ht : thereE es e.path = true) : pathsOf (es.set (placeE es e.path) e) = pathsOf es := by
  obtain ⟨old, hj, hpo⟩ := there_get ht
  unfold pathsOf
  rw [List.map_set]
  apply List.ext_getElem?
  intro i
  rw [List.getElem?_set]
  split
  · rename_i hi
    subst hi
    rw [if_pos (by simpa using (List.getElem?_eq_some_iff.1 hj).1), List.getElem?_map, hj, Option.map_some, hpo]
  · rfl
theorem putT_up {es : List Ent} {e : Ent} (h : Up es) : Up (putT es e) := by
  unfold putT
  cases ht : thereE es e.path
  · exact insAt_up h ht
  · refine asc_up ?_
    rw [if_pos rfl, set_paths ht]
    exact up_asc h
theorem putT_end {es : List Ent} {e : Ent} (h : ∀ x ∈ es, ltS x.path e.path = true) : putT es e = es ++ [e] := by
  have hp : placeE es e.path = es.length := by
    refine place_of es e.path es.length (Nat.le_refl _) (fun i x _ hi => h x (List.mem_of_getElem? hi)) (fun x hx => ?_)
    rw [List.getElem?_eq_none (Nat.le_refl _)] at hx; cases hx
  unfold putT insAt thereE
  rw [hp, List.getElem?_eq_none (Nat.le_refl _)]
  simp
def putAll (xs : List Ent) : List Ent := xs.foldl putT []
theorem putAll_snoc (xs : List Ent) (x : Ent) : putAll (xs ++ [x]) = putT (putAll xs) x := by unfold putAll; rw [List.foldl_append]; rfl
theorem snoc_ind {α : Type} {P : List α → Prop} (h0 : P []) (h1 : ∀ xs x, P xs → P (xs ++ [x])) : ∀ xs, P xs := fun xs => by
  have : ∀ ys : List α, P ys.reverse := fun ys => by
    induction ys with
    | nil => exact h0
    | cons y ys ih => rw [List.reverse_cons]; exact h1 _ _ ih
  have h := this xs.reverse
  rwa [List.reverse_reverse] at h
theorem putAll_up : ∀ xs, Up (putAll xs) := snoc_ind List.Pairwise.nil (fun xs x ih => by rw [putAll_snoc]; exact putT_up ih)
theorem putT_len (es : List Ent) (e : Ent) : (putT es e).length ≤ es.length + 1 := by
  unfold putT insAt
  split
  · simp
  · have := placeE_le es e.path; simp; omega
theorem putT_mem {es : List Ent} {e x : Ent} (hx : x ∈ putT es e) : x ∈ es ∨ x = e := by
  unfold putT insAt at hx
  split at hx
  · exact List.mem_or_eq_of_mem_set hx
  · simp only [List.mem_append, List.mem_singleton] at hx
    rcases hx with (h | h) | h
    · exact .inl (List.mem_of_mem_take h)
    · exact .inr h
    · exact .inl (List.mem_of_mem_drop h)
theorem putAll_len : ∀ xs, (putAll xs).length ≤ xs.length := snoc_ind (Nat.le_refl _) (fun xs x ih => by
  rw [putAll_snoc]
  have := putT_len (putAll xs) x
  simp; omega)
theorem putAll_mem : ∀ xs x, x ∈ putAll xs → x ∈ xs := snoc_ind (fun x h => h) (fun xs x ih y hy => by
  rw [putAll_snoc] at hy
  rcases putT_mem hy with h | h
  · exact List.mem_append_left _ (ih y h)
  · subst h; simp)
theorem putAll_self : ∀ xs, Up xs → putAll xs = xs := snoc_ind (fun _ => rfl) (fun xs x ih h => by
  unfold Up at h
  rw [List.pairwise_append] at h
  rw [putAll_snoc, ih h.1]
  exact putT_end (fun y hy => h.2.2 y hy x (by simp)))
end Go.Proofs.Ytlnehebihfeegaa

/- An entry put into a tree: which blocks change, and where its rows lie then. -/
namespace Go.Proofs.Ytlnehebihfeegaa
open Go.RowKit Go.Shelf

/-- A tree at a block, its rows by name. -/
def RowsV (W : World) (N bt : Nat) (vp vn : Value) (es : List Ent) : Prop := W.heap[bt]? = some (.cells #[vp, vn] 59 (0, 0)) ∧ W.ownsRow N 9 1 vp es.length (es.map fun e => .string e.path) ∧ W.ownsRow N 63 1 vn es.length (es.map nodeV)
/-- A row is where it was, or new. -/
def FreshV (w : World) (v v' : Value) : Prop := ∀ k, v'.ownBlock = some k → v.ownBlock = some k ∨ w.heap.size ≤ k
/-- Behind a put: the tree, its rows where they were or new; nothing else has changed. -/
def PutV (w w' : World) (N bt : Nat) (vp vn : Value) (es : List Ent) : Prop := (∃ vp' vn', RowsV w' N bt vp' vn' es ∧ FreshV w vp vp' ∧ FreshV w vn vn') ∧ Below N w w' ∧ (∀ k o, k ≠ bt → w.heap[k]? = some o → Apart o → w'.heap[k]? = some o) ∧ ∀ k, k < w.heap.size → k ≠ bt → vp.ownBlock ≠ some k → vn.ownBlock ≠ some k → w'.heap[k]? = w.heap[k]?

set_option maxRecDepth 100000 in
set_option maxHeartbeats 4000000 in
theorem mapPut_insV (N bt : Nat) (vp vn : Value) (es : List Ent) (e : Ent) (w : World) (hn : es.length ≤ 900) (ha : Asc (pathsOf es)) (hN : N ≤ bt) (ht0 : thereE es e.path = false) (h : RowsV w N bt vp vn es) :
    Calls Try.prog 56 #[.pointer (some ⟨bt, 0, .none⟩), .string e.path, nodeV e] w fun x w' => (∃ v, x = .returned v) ∧ PutV w w' N bt vp vn (insAt es e) := by
  obtain ⟨h1, h2, h3⟩ := h
  have hbl : bt < w.heap.size := (Array.getElem?_eq_some_iff.1 h1).1
  obtain ⟨a, cap, hva, hT⟩ := texts_of h2
  have hpn : (pathsOf es).length = es.length := by simp [pathsOf]
  have hl : (pathsOf es).length ≤ 1048576 := by omega
  have ht : thereP (pathsOf es) e.path = false := by rw [thereP_E, ht0]
  have hpp : placeP (pathsOf es) e.path = placeE es e.path := placeP_E _ _
  have hkl : placeE es e.path ≤ es.length := placeE_le es e.path
  have hins : insAt es e = es.take (placeE es e.path) ++ [e] ++ es.drop (placeE es e.path) := rfl
  have hT1 : ∀ v ∈ es.map (fun e => Value.string e.path), v.oneCell' = true := fun v hv => by obtain ⟨x, -, rfl⟩ := List.mem_map.1 hv; rfl
  have hN1 : ∀ v ∈ es.map nodeV, v.oneCell' = true := fun v hv => by obtain ⟨x, -, rfl⟩ := List.mem_map.1 hv; exact nodeV_one x
  obtain ⟨k, hk⟩ : ∃ k, placeE es e.path = k := ⟨_, rfl⟩
  rw [hk] at hpp hkl hins
  rw [hins]
  have hS := BinarySearch_any (pathsOf es) a cap e.path w hl ha hT
  rw [hpp, ht, hpn] at hS
  rw [hpn] at hva
  subst hva
  obtain ⟨T, nv, hV⟩ := nodeV_shape e
  have hIN := fun n i b v xs w => InsertN_any N n i b v xs e w
  simp only [hV] at hIN
  rw [hV]
  have HV := hid hV
  have HIN := hid hIN
  clear hV hIN
  have HS := hid hS
  obtain ⟨c0, c1, f0, f1⟩ := two_cells h1
  have H2 := hid h2
  have H3 := hid h3
  have H1 := hid h1
  have HT1 := hid hT1
  have HN1 := hid hN1
  clear hT ha hl ht hpp h1 h2 h3 hpn hS hins hk ht0 hT1 hN1
  go_enter Try.func56, Try.ntmps56
  go_wp2_with fail
  refine (unhid HS).mono ?_
  rintro x w1 ⟨rfl, hw1⟩
  rw [hw1]
  clear hw1
  go_wp2_with fail
  refine (InsertS_any N es.length k w.heap.size _ _ e.path (w.alloc (.cells #[.string e.path] 9)) hkl (by omega) (by simp; omega) ((unhid H2).alloc _) (fun eq => by have := ((unhid H2).lt _ eq).2; omega) (World.alloc_heap_new w _) (unhid HT1)).mono ?_
  rintro x w2 ⟨v2, rfl, hown2, hgrow2, hat2⟩
  obtain ⟨g2, cap2, rfl⟩ := ownsRow_succ hown2
  have h1a : (w.alloc (.cells #[.string e.path] 9)).heap[bt]? = some (.cells #[.slice a es.length cap, vn] 59 (0, 0)) := (Below.heap_alloc _ _ _ hbl).trans (unhid H1)
  have h12 : w2.heap[bt]? = some (.cells #[.slice a es.length cap, vn] 59 (0, 0)) := (hgrow2.block bt (by simp; omega) (row_ne ((unhid H2).alloc (.cells #[.string e.path] 9)) h1a (by decide))).trans h1a
  obtain ⟨c0, c1, f0, f1⟩ := two_cells h12
  have h32 : w2.ownsRow N 63 1 vn es.length (es.map nodeV) := by
    refine ownsRow_kept ((unhid H3).alloc (.cells #[.string e.path] 9)) (fun g hg => hgrow2.block g (((unhid H3).alloc (.cells #[.string e.path] 9)).lt g hg).2 ?_)
    rcases ((unhid H3).alloc (.cells #[.string e.path] 9)).2 with ⟨rfl, _⟩ | ⟨g', cap', cur', rfl, _, hgc, _⟩
    · cases hg
    · cases hg; exact row_ne ((unhid H2).alloc (.cells #[.string e.path] 9)) hgc (by decide)
  have hg2w : g2 ≠ bt := fun eq => by
    rcases hown2.2 with ⟨h, _⟩ | ⟨g', cap', cur', hv, _, hgc, _⟩
    · cases h
    · cases hv; exact type_ne hgc h12 (by decide) eq
  have HB2 := hid (And.intro hown2 (And.intro hgrow2 (And.intro h12 h32)))
  have HAT2 := hid hat2
  have hsz2 : w.heap.size + 1 ≤ w2.heap.size := by have := hgrow2.size; simpa using this
  clear hown2 hgrow2 h12 h32 h1a hat2
  go_wp2_with fail
  obtain ⟨W3, hW3⟩ : ∃ W3, W3 = (w2.setCell ⟨bt, 0, .none⟩ (.slice (some ⟨g2, 0, .none⟩) (es.length + 1) cap2)).alloc (.cells #[.iface T nv] 63) := ⟨_, rfl⟩
  rw [← hW3]
  obtain ⟨hown2, hgrow2, h12, h32⟩ := unhid HB2
  have hbl2 : bt < w2.heap.size := by omega
  have h13 : W3.heap[bt]? = some (.cells #[.slice (some ⟨g2, 0, .none⟩) (es.length + 1) cap2, vn] 59 (0, 0)) := by
    rw [hW3, Below.heap_alloc _ _ _ (by simp; omega), heap_setCell_same _ bt 0 _ _ _ h12]; rfl
  have hk3 : ∀ g, g < w2.heap.size → g ≠ bt → W3.heap[g]? = w2.heap[g]? := fun g hg hne => by
    rw [hW3, Below.heap_alloc _ _ _ (by simpa using hg), Below.heap_setCell _ _ _ _ hne]
  have h33 : W3.ownsRow N 63 1 vn es.length (es.map nodeV) := ownsRow_kept h32 (fun g hg => hk3 g (h32.lt g hg).2 (fun eq => (row_ne h32 h12 (by decide)) (by rw [hg, eq])))
  have hown3 : W3.ownsRow N 9 1 (.slice (some ⟨g2, 0, .none⟩) (es.length + 1) cap2) (es.length + 1) ((es.map fun e => .string e.path).take k ++ [.string e.path] ++ (es.map fun e => .string e.path).drop k) := ownsRow_kept hown2 (fun g hg => hk3 g (hown2.lt g hg).2 (fun eq => by cases hg; exact hg2w eq))
  have hs3 : W3.heap.size = w2.heap.size + 1 := by rw [hW3]; simp
  have hc3 : W3.heap[w2.heap.size]? = some (.cells #[.iface T nv] 63 (0, 0)) := by
    rw [hW3]; have := World.alloc_heap_new (w2.setCell ⟨bt, 0, .none⟩ (.slice (some ⟨g2, 0, .none⟩) (es.length + 1) cap2)) (.cells #[.iface T nv] 63); simpa using this
  refine (unhid HIN es.length k w2.heap.size vn _ W3 hkl (by omega) (by omega) h33 (fun eq => by have := (h32.lt _ eq).2; omega) hc3 (unhid HN1)).mono ?_
  rintro x w4 ⟨v4, rfl, hown4, hgrow4, hat4⟩
  obtain ⟨g4, cap4, rfl⟩ := ownsRow_succ hown4
  have h14 : w4.heap[bt]? = some (.cells #[.slice (some ⟨g2, 0, .none⟩) (es.length + 1) cap2, vn] 59 (0, 0)) := (hgrow4.block bt (by omega) (row_ne h33 h13 (by decide))).trans h13
  have hrow4 : w4.ownsRow N 9 1 (.slice (some ⟨g2, 0, .none⟩) (es.length + 1) cap2) (es.length + 1) ((es.map fun e => .string e.path).take k ++ [.string e.path] ++ (es.map fun e => .string e.path).drop k) := ownsRow_kept hown3 (fun g hg => hgrow4.block g (hown3.lt g hg).2 (by
    rcases hown3.2 with ⟨h, _⟩ | ⟨g', cap', cur', hv, _, hgc, _⟩
    · cases h
    · cases hv; cases hg; exact row_ne h33 hgc (by decide)))
  obtain ⟨c0, c1, f0, f1⟩ := two_cells h14
  have hg4w : g4 ≠ bt := fun eq => by
    rcases hown4.2 with ⟨h, _⟩ | ⟨g', cap', cur', hv, _, hgc, _⟩
    · cases h
    · cases hv; exact type_ne hgc h14 (by decide) eq
  have hF : RowsV (w4.setCell ⟨bt, 1, .none⟩ (.slice (some ⟨g4, 0, .none⟩) (es.length + 1) cap4)) N bt (.slice (some ⟨g2, 0, .none⟩) (es.length + 1) cap2) (.slice (some ⟨g4, 0, .none⟩) (es.length + 1) cap4) (es.take k ++ [e] ++ es.drop k) := by
    refine ⟨?_, ?_, ?_⟩
    · rw [heap_setCell_same _ bt 1 _ _ _ h14]; rfl
    · rw [show (es.take k ++ [e] ++ es.drop k).length = es.length + 1 by simp; omega, List.map_append, List.map_append, List.map_take, List.map_drop]
      exact ownsRow_kept hrow4 (fun g hg => Below.heap_setCell _ _ _ _ (fun eq => by cases hg; exact hg2w eq))
    · rw [show (es.take k ++ [e] ++ es.drop k).length = es.length + 1 by simp; omega, List.map_append, List.map_append, List.map_take, List.map_drop]
      rw [← unhid HV] at hown4
      exact ownsRow_kept hown4 (fun g hg => Below.heap_setCell _ _ _ _ (fun eq => by cases hg; exact hg4w eq))
  have hB : Below N w (w4.setCell ⟨bt, 1, .none⟩ (.slice (some ⟨g4, 0, .none⟩) (es.length + 1) cap4)) := by
    have b1 : Below N w (w.alloc (.cells #[.string e.path] 9)) := (Below.refl _ _).alloc (by omega) _
    have b2 : Below N w w2 := b1.grown hgrow2 (by simp; omega) (fun g hg => (((unhid H2).alloc (.cells #[.string e.path] 9)).lt g hg).1)
    have b3 : Below N w W3 := by rw [hW3]; exact (b2.setCell hN _).alloc (by simp; omega) _
    have b4 : Below N w w4 := b3.grown hgrow4 (by omega) (fun g hg => (h33.lt g hg).1)
    exact b4.setCell hN _
  have hO : ∀ k o, k ≠ bt → w.heap[k]? = some o → Apart o → (w4.setCell ⟨bt, 1, .none⟩ (.slice (some ⟨g4, 0, .none⟩) (es.length + 1) cap4)).heap[k]? = some o := by
    intro k o hk ho hap
    have hkl : k < w.heap.size := (Array.getElem?_eq_some_iff.1 ho).1
    have a1 : (w.alloc (.cells #[.string e.path] 9)).heap[k]? = some o := (Below.heap_alloc _ _ _ hkl).trans ho
    have a2 : w2.heap[k]? = some o := (hgrow2.block k (by simp; omega) (fun eq => by
      rcases ((unhid H2).alloc (.cells #[.string e.path] 9)).2 with ⟨h, _⟩ | ⟨g', cap', cur', hv, _, hgc, _⟩
      · rw [h] at eq; cases eq
      · rw [hv] at eq; cases eq; rw [a1] at hgc; cases hgc; exact (hap _ _ _ rfl).1 rfl)).trans a1
    have a3 : W3.heap[k]? = some o := (hk3 k (by omega) hk).trans a2
    have a4 : w4.heap[k]? = some o := (hgrow4.block k (by omega) (fun eq => by
      rcases h33.2 with ⟨h, _⟩ | ⟨g', cap', cur', hv, _, hgc, _⟩
      · rw [h] at eq; cases eq
      · rw [hv] at eq; cases eq; rw [a3] at hgc; cases hgc; exact (hap _ _ _ rfl).2 rfl)).trans a3
    exact (Below.heap_setCell _ _ _ _ hk).trans a4
  have hS : ∀ k, k < w.heap.size → k ≠ bt → (Value.slice a es.length cap).ownBlock ≠ some k → vn.ownBlock ≠ some k → (w4.setCell ⟨bt, 1, .none⟩ (.slice (some ⟨g4, 0, .none⟩) (es.length + 1) cap4)).heap[k]? = w.heap[k]? := by
    intro k hk hkb hkp hkn
    have a1 : (w.alloc (.cells #[.string e.path] 9)).heap[k]? = w.heap[k]? := Below.heap_alloc _ _ _ hk
    have a2 : w2.heap[k]? = w.heap[k]? := (hgrow2.block k (by simp; omega) (fun eq => hkp eq.symm)).trans a1
    have a3 : W3.heap[k]? = w.heap[k]? := (hk3 k (by omega) hkb).trans a2
    have a4 : w4.heap[k]? = w.heap[k]? := (hgrow4.block k (by omega) (fun eq => hkn eq.symm)).trans a3
    exact (Below.heap_setCell _ _ _ _ hkb).trans a4
  have hf2 : FreshV w (.slice a es.length cap) (.slice (some ⟨g2, 0, .none⟩) (es.length + 1) cap2) := fun k hk => by
    rcases unhid HAT2 with h | h
    · exact .inl (h ▸ hk)
    · rw [h] at hk; injection hk with hk; right; rw [World.size_alloc] at hk; omega
  have hf4 : FreshV w vn (.slice (some ⟨g4, 0, .none⟩) (es.length + 1) cap4) := fun k hk => by
    rcases hat4 with h | h
    · exact .inl (h ▸ hk)
    · rw [h] at hk; injection hk with hk; right; omega
  have HF := hid (show PutV w (w4.setCell ⟨bt, 1, .none⟩ (.slice (some ⟨g4, 0, .none⟩) (es.length + 1) cap4)) N bt (.slice a es.length cap) vn (es.take k ++ [e] ++ es.drop k) from ⟨⟨_, _, hF, hf2, hf4⟩, hB, hO, hS⟩)
  clear hF hB hO hS hf2 hf4 hat4 HAT2 hown4 hgrow4 h14 hrow4 h13 hk3 h33 hown3 hc3 hW3 hown2 hgrow2 h12 h32 HB2
  go_wp2_with fail
  go_end0
  exact ⟨⟨_, rfl⟩, unhid HF⟩

set_option maxRecDepth 100000 in
set_option maxHeartbeats 4000000 in
theorem mapPut_overV (N bt : Nat) (vp vn : Value) (es : List Ent) (e : Ent) (w : World) (hn : es.length ≤ 900) (ha : Asc (pathsOf es)) (ht0 : thereE es e.path = true) (h : RowsV w N bt vp vn es) :
    Calls Try.prog 56 #[.pointer (some ⟨bt, 0, .none⟩), .string e.path, nodeV e] w fun x w' => (∃ v, x = .returned v) ∧ PutV w w' N bt vp vn (es.set (placeE es e.path) e) := by
  obtain ⟨h1, h2, h3⟩ := h
  have hbl : bt < w.heap.size := (Array.getElem?_eq_some_iff.1 h1).1
  obtain ⟨a, cap, hva, hT⟩ := texts_of h2
  have hpn : (pathsOf es).length = es.length := by simp [pathsOf]
  have hl : (pathsOf es).length ≤ 1048576 := by omega
  have ht : thereP (pathsOf es) e.path = true := by rw [thereP_E, ht0]
  obtain ⟨old, hj, hpo⟩ := there_get ht0
  have hjl : placeE es e.path < es.length := (List.getElem?_eq_some_iff.1 hj).1
  have hS := BinarySearch_any (pathsOf es) a cap e.path w hl ha hT
  rw [placeP_E, ht, hpn] at hS
  rw [hpn] at hva
  subst hva
  obtain ⟨T, nv, hV⟩ := nodeV_shape e
  have hse : (es.set (placeE es e.path) e).map nodeV = (es.map nodeV).set (placeE es e.path) (nodeV e) := by rw [List.map_set]
  have hsp : (es.set (placeE es e.path) e).map (fun e => Value.string e.path) = es.map (fun e => .string e.path) := by
    rw [List.map_set]
    apply List.ext_getElem?
    intro i
    rw [List.getElem?_set]
    split
    · rename_i hi
      subst hi
      rw [if_pos (by simpa using hjl), List.getElem?_map, hj, Option.map_some, hpo]
    · rfl
  obtain ⟨g, cap2, cur, rfl, hgN, hg, hszc⟩ : ∃ g cap2 cur, vn = .slice (some ⟨g, 0, .none⟩) es.length cap2 ∧ N ≤ g ∧ w.heap[g]? = some (.cells cur 63 (0, 0)) ∧ placeE es e.path < cur.size ∧ es.length ≤ cap2 := by
    rcases h3.2 with ⟨rfl, h0⟩ | ⟨g, cap, cur, rfl, hN', hg, hc, _, hsz, hcells⟩
    · omega
    · exact ⟨g, cap, cur, rfl, hN', hg, by omega, hc⟩
  have hFT : RowsV (w.setCell ⟨g, placeE es e.path, .none⟩ (nodeV e)) N bt (.slice a es.length cap) (.slice (some ⟨g, 0, .none⟩) es.length cap2) (es.set (placeE es e.path) e) := by
    refine ⟨?_, ?_, ?_⟩
    · rw [Below.heap_setCell _ _ _ _ (type_ne hg h1 (by decide)).symm]; exact h1
    · rw [List.length_set, hsp]
      refine ownsRow_kept h2 (fun g' eg => Below.heap_setCell _ _ _ _ (fun eq => ?_))
      obtain ⟨cur', hc'⟩ := (show ∃ cur', w.heap[g']? = some (.cells cur' 9 (0, 0)) by
        rcases h2.2 with ⟨hh, _⟩ | ⟨g'', cap'', cur'', hv, _, hh, _⟩
        · rw [hh] at eg; cases eg
        · rw [hv] at eg; cases eg; exact ⟨_, hh⟩)
      exact type_ne hg hc' (by decide) eq.symm
    · rw [List.length_set, hse]
      exact ownsRow_set h3 hjl rfl
  have hFB : Below N w (w.setCell ⟨g, placeE es e.path, .none⟩ (nodeV e)) := (Below.refl _ _).setCell hgN _
  have hFO : ∀ k o, k ≠ bt → w.heap[k]? = some o → Apart o → (w.setCell ⟨g, placeE es e.path, .none⟩ (nodeV e)).heap[k]? = some o := fun k o _ ho hap =>
    (Below.heap_setCell _ _ _ _ (fun eq => by
      have eq' : k = g := eq
      subst eq'
      rw [ho] at hg; cases hg; exact (hap _ _ _ rfl).2 rfl)).trans ho
  have HF := hid (show PutV w (w.setCell ⟨g, placeE es e.path, .none⟩ (nodeV e)) N bt (.slice a es.length cap) (.slice (some ⟨g, 0, .none⟩) es.length cap2) (es.set (placeE es e.path) e) from ⟨⟨_, _, hFT, fun k hk => .inl hk, fun k hk => .inl hk⟩, hFB, hFO, fun k _ _ _ hkn => Below.heap_setCell _ _ _ _ (fun eq => hkn (by have eq' : k = g := eq; rw [eq']; rfl))⟩)
  clear hFT hFB hFO hse hsp
  rw [hV] at HF ⊢
  obtain ⟨hsz1, hle⟩ := hszc
  have n0 : ∃ u, w.cell? ⟨g, placeE es e.path, .none⟩ = some u := ⟨cur[placeE es e.path], by simp [World.cell?, hg, hsz1]⟩
  obtain ⟨u, n0⟩ := n0
  have m0 : w.frozen? ⟨g, placeE es e.path, .none⟩ = false := by simp [World.frozen?, hg]
  have HS := hid hS
  obtain ⟨c0, c1, f0, f1⟩ := two_cells h1
  clear hT ha hl ht h1 h2 h3 hpn hj hS hV hg ht0 hpo hsz1
  generalize placeE es e.path = j at HS HF hjl n0 m0 ⊢
  go_enter Try.func56, Try.ntmps56
  go_wp2_with fail
  refine (unhid HS).mono ?_
  rintro x w1 ⟨rfl, hw1⟩
  rw [hw1]
  clear hw1
  go_wp2_with fail
  first | go_end0 | refine bodyPost_ret (results_none rfl _ _ _) rfl ?_
  exact ⟨⟨_, rfl⟩, unhid HF⟩

theorem mapPut_V (N bt : Nat) (vp vn : Value) (es : List Ent) (e : Ent) (w : World) (hn : es.length ≤ 900) (ha : Asc (pathsOf es)) (hN : N ≤ bt) (h : RowsV w N bt vp vn es) :
    Calls Try.prog 56 #[.pointer (some ⟨bt, 0, .none⟩), .string e.path, nodeV e] w fun x w' => (∃ v, x = .returned v) ∧ PutV w w' N bt vp vn (putT es e) := by
  cases ht : thereE es e.path
  · have : putT es e = insAt es e := by unfold putT; rw [ht]; rfl
    rw [this]
    exact mapPut_insV N bt vp vn es e w hn ha hN ht h
  · have : putT es e = es.set (placeE es e.path) e := by unfold putT; rw [ht]; rfl
    rw [this]
    exact mapPut_overV N bt vp vn es e w hn ha ht h
end Go.Proofs.Ytlnehebihfeegaa

/- Whether two things are one dir, by the program. -/
namespace Go.Proofs.Ytlnehebihfeegaa
open Go.RowKit Go.Shelf

theorem in_int (d : Nat) (a b : Int) (w : World) : (Op.equalIn (d + 1) 3 (.int .i64 a) (.int .i64 b)).run Try.prog w = .ok (a == b) w := by
  simp [Op.equalIn, run_underlying Try.underlying3]
theorem in_dir (d : Nat) (a b : Int) (w : World) : (Op.equalIn (d + 1 + 1) 105 (.agg #[.int .i64 a]) (.agg #[.int .i64 b])).run Try.prog w = .ok (a == b) w := by
  have h0 : (program).run Try.prog w = .ok Try.prog w := by kernel_rfl
  have h1 : Try.prog.stoodInHeld 105 = false := by kernel_rfl
  have h2 : ∀ a, (part 3 #[.int .i64 a] 0).run Try.prog w = .ok (.int .i64 a) w := fun a => by kernel_rfl
  unfold Op.equalIn
  simp only [Sem.run_bind, run_underlying Try.underlying105, Result.andThen_ok, h0, h1, Bool.false_eq_true, if_false, List.forIn_toArray, List.forIn_cons, List.forIn_nil]
  rw [if_pos (by decide)]
  simp only [Sem.run_bind, h2, in_int, Result.andThen_ok]
  cases (a == b) <;> simp [Sem.run_pure]
theorem eq_dirs (a b : Int) (w : World) : (binOp .eql 63 (.iface 105 (.agg #[.int .i64 a])) (.iface 105 (.agg #[.int .i64 b]))).run Try.prog w = .ok (.bool (a == b)) w := by
  have hc : (Try.prog.info? 105).map (·.comparable) = some true := by kernel_rfl
  cases hi : Try.prog.info? 105 with
  | none => simp [hi] at hc
  | some i =>
    have hcc : i.comparable = true := by simpa [hi] using hc
    have h : ∀ d : Nat, (Op.equalIn (d + 1 + 1 + 1) 63 (.iface 105 (.agg #[.int .i64 a])) (.iface 105 (.agg #[.int .i64 b]))).run Try.prog w = .ok (a == b) w := fun d => by
      have := in_dir d a b w
      unfold Op.equalIn
      simp only [Sem.run_bind, run_underlying Try.underlying63, Result.andThen_ok]
      simp [typeInfo, hi, hcc, this]
    simp only [binOp]
    simp [Op.equal, Op.maxDepth, h 9997]
theorem eq_dirf (a b : Int) (s : ByteArray) (w : World) : (binOp .eql 63 (.iface 105 (.agg #[.int .i64 a])) (.iface 107 (.agg #[.int .i64 b, .string s]))).run Try.prog w = .ok (.bool false) w := by kernel_rfl
theorem eq_dirl (a : Int) (s : ByteArray) (w : World) : (binOp .eql 63 (.iface 105 (.agg #[.int .i64 a])) (.iface 102 (.agg #[.string s]))).run Try.prog w = .ok (.bool false) w := by kernel_rfl

def sameB (x y : Ent) : Bool := x.kind == 1 && (y.kind == 1 && x.mode == y.mode)

set_option maxRecDepth 100000 in
set_option maxHeartbeats 2000000 in
theorem sameDir_any (x y : Ent) (w : World) :
    Calls Try.prog 67 #[nodeV x, nodeV y] w fun r w' => r = .returned (.bool (sameB x y)) ∧ Below w.heap.size w w' := by
  have DIR := hid (isDir_node x w)
  cases hk : (x.kind == 1)
  · obtain ⟨T0, nv, hnv⟩ := nodeV_shape x
    obtain ⟨T1, nv1, hnv1⟩ := nodeV_shape y
    rw [hnv] at DIR ⊢
    rw [hnv1]
    have E := hid (show sameB x y = false by unfold sameB; rw [hk]; rfl)
    go_enter Try.func67, Try.ntmps67
    go_wp2_with fail
    refine (unhid DIR).mono ?_
    rintro r w1 ⟨rfl, hB⟩
    rw [hk]
    have HB := hid hB
    clear hB
    go_wp2_with fail
    go_ret
    exact ⟨by rw [unhid E]; rfl, unhid HB⟩
  · have hk1 : x.kind = 1 := by simpa using hk
    have hnv : nodeV x = .iface 105 (.agg #[.int .i64 x.mode]) := by unfold nodeV; rw [if_pos hk1]
    rw [hnv] at DIR ⊢
    by_cases hy1 : y.kind = 1
    · have hnv1 : nodeV y = .iface 105 (.agg #[.int .i64 y.mode]) := by unfold nodeV; rw [if_pos hy1]
      rw [hnv1]
      go_enter Try.func67, Try.ntmps67
      go_wp2_with fail
      refine (unhid DIR).mono ?_
      rintro r w1 ⟨rfl, hB⟩
      rw [hk]
      have HB := hid hB
      clear hB
      have E := hid (show sameB x y = (x.mode == y.mode) by unfold sameB; rw [hk, hy1]; rfl)
      have heq := eq_dirs x.mode y.mode w1
      clear hnv hnv1
      go_wp2_with fail
      go_ret
      exact ⟨by rw [unhid E]; rfl, unhid HB⟩
    · have E := hid (show sameB x y = false by unfold sameB; simp [hy1])
      by_cases hy2 : y.kind = 2
      · have hnv1 : nodeV y = .iface 107 (.agg #[.int .i64 y.mode, .string y.text]) := by unfold nodeV; rw [if_neg hy1, if_pos hy2]
        rw [hnv1]
        go_enter Try.func67, Try.ntmps67
        go_wp2_with fail
        refine (unhid DIR).mono ?_
        rintro r w1 ⟨rfl, hB⟩
        rw [hk]
        have HB := hid hB
        have heq := eq_dirf x.mode y.mode y.text w1
        clear hB hnv hnv1
        go_wp2_with fail
        go_ret
        exact ⟨by rw [unhid E]; rfl, unhid HB⟩
      · have hnv1 : nodeV y = .iface 102 (.agg #[.string y.text]) := by unfold nodeV; rw [if_neg hy1, if_neg hy2]
        rw [hnv1]
        go_enter Try.func67, Try.ntmps67
        go_wp2_with fail
        refine (unhid DIR).mono ?_
        rintro r w1 ⟨rfl, hB⟩
        rw [hk]
        have HB := hid hB
        have heq := eq_dirl x.mode y.text w1
        clear hB hnv hnv1
        go_wp2_with fail
        go_ret
        exact ⟨by rw [unhid E]; rfl, unhid HB⟩
end Go.Proofs.Ytlnehebihfeegaa
