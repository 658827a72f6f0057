/- Texts of this proof, one behind the other; each says at its head what it shows. -/
import Derived.Test.YtfphpggjcljliaaGreatJoin5
import Derived.Laws.Entries
import Derived.Test.YtfphpggjcljliaaGreatRows
import Derived.WalkKit
import Derived.ProofKit
import Derived.OpenShut
import Derived.Test.YtfphpggjcljliaaGreatJoin1
import Derived.Deep.Slices
import Derived.Lib.SmallJoins
import Derived.Test.YtfphpggjcljliaaGreatJoin3
import Derived.Test.YtfphpggjcljliaaGreatJoin2
import Derived.Laws.StructEq
import Derived.Test.YtfphpggjcljliaaGreatProg
/- What the draws over trees give: rows of at most seventeen entries, and paths. -/
namespace Go.Proofs.YtfphpggjcljliaaGreat
open Go.RowKit

/-- What holds behind the draw of any entries. -/
structure TA (w : World) (b : Nat) (a : Option Addr) (len cap p : Nat) (W : World) (v : Value) (es : List Ent) : Prop where
  v : TreeV W w.heap.size v es
  nice : ∀ e ∈ es, niceE e
  few : es.length ≤ 17
  rd : ∃ p', p' ≤ p ∧ Rd W b a len cap p'
  grown : w.grownBy W (some b)
theorem TA.read {w : World} {b : Nat} {a : Option Addr} {len cap p q : Nat} {W W' : World} {v : Value} {es : List Ent} (h : TA w b a len cap p W v es) (hlt : b < w.heap.size) (hg : W.grownBy W' (some b)) (hr : ∃ p', p' ≤ q ∧ Rd W' b a len cap p') : TA w b a len cap q W' v es :=
  ⟨h.v.grown hg hlt, h.nice, h.few, hr, grown_trans h.grown hg⟩
theorem TA.small {w : World} {b : Nat} {a : Option Addr} {len cap p : Nat} {W : World} {v : Value} {es : List Ent} (h : TA w b a len cap p W v es) : smallE es :=
  ⟨by have := h.few; omega, fun e he => ⟨by have := nice_short (h.nice e he).1; omega, by have : e.text.size ≤ 100 := (h.nice e he).2; omega⟩⟩

theorem Rd.low {w w' : World} {b B : Nat} {a : Option Addr} {len cap p : Nat} (h : Rd w b a len cap p) (hB : Below B w w') (hb : b < B) : Rd w' b a len cap p where
  c0 := (hB.cell (p := ⟨b, 0, none⟩) hb).trans h.c0
  c1 := (hB.cell (p := ⟨b, 1, none⟩) hb).trans h.c1
  f1 := (hB.frozen (p := ⟨b, 1, none⟩) hb).trans h.f1
  l := h.l
  d := by
    rcases h.d with h0 | ⟨blk, off, ha, hbk, hc⟩
    · exact .inl h0
    · refine .inr ⟨blk, off, ha, hbk, fun k hk => ?_⟩
      obtain ⟨c, h1, h2⟩ := hc k hk
      exact ⟨c, h1, (hB.cell (p := ⟨blk, off + k, none⟩) (Nat.lt_trans hbk hb)).trans h2⟩
theorem grown_low {w X Y : World} {b : Nat} (h : w.grownBy X (some b)) (hB : Below w.heap.size X Y) : w.grownBy Y (some b) :=
  ⟨hB.os.trans h.os, hB.tape.trans h.tape, hB.output.trans h.output, Nat.le_trans h.size hB.size, fun k hk hne => (hB.block k hk).trans (h.block k hk hne)⟩

set_option maxRecDepth 100000 in
set_option maxHeartbeats 8000000 in
theorem l11AnyTree_any (w : World) (b : Nat) (a : Option Addr) (len cap p : Nat) (h : Rd w b a len cap p) (hp : p ≤ 700000) :
    Calls Tryz.prog 14 #[.pointer (some ⟨b, 0, none⟩)] w fun x w' => ∃ v, x = .returned v ∧ ∃ es, TA w b a len cap (p + 70) w' v es := by
  obtain ⟨i0, hi0, hz0, hzs, hzb⟩ := info_parts infoEntry
  have HI := hid (And.intro hi0 (And.intro hz0 (And.intro hzs hzb)))
  clear hi0 hz0 hzs hzb
  have hbl := h.lt
  have H := hid h
  clear h
  go_enter Tryz.func14, Tryz.ntmps14
  go_wp2_with fail
  refine (l11Tree_any w b a len cap p (unhid H) (by omega)).mono ?_
  rintro x w1 ⟨v, rfl, es, hT⟩
  have HT := hid hT
  obtain ⟨g, c, rfl, ho⟩ := hT.v
  obtain ⟨e1, e2, e3, e4⟩ := TreeV.ents ho
  have CP := hid (l2Copy_some es g 0 c w1 (by have := hT.few; omega) e1 (.inr e2))
  clear ho e1 e2 e3 e4 hT H
  go_wp2_with fail
  refine (unhid CP).mono ?_
  rintro x w2 ⟨g2, c2, rfl, ho2, hB2⟩
  have hg1 := (unhid HT).grown
  have T2 : TA w b a len cap (p + 50) w2 (.slice (some ⟨g2, 0, none⟩) es.length c2) es := ⟨⟨g2, c2, rfl, ownsRow_base ho2 hg1.size⟩, (unhid HT).nice, by have := (unhid HT).few; omega, by obtain ⟨p', h1, h2⟩ := (unhid HT).rd; exact ⟨p', h1, h2.of_below hB2⟩, grown_lift hg1 hB2⟩
  have HT2 := hid (And.intro T2 (unhid HT).few)
  clear T2 hg1 ho2 hB2 HT CP
  go_wp2_with fail
  obtain ⟨q, hq, hR⟩ := (unhid HT2).1.rd
  refine (pick_any w2 b a len cap q hR (by omega) 14 (by omega) (by omega)).mono ?_
  rintro e w3 ⟨r, hr, rfl, hR3, hG3⟩
  have HT3 := hid (And.intro ((unhid HT2).1.read hbl hG3 ⟨q + 1, Nat.le_refl _, hR3⟩) (unhid HT2).2)
  clear hR hR3 hG3 HT2
  have hr5 : r = 0 ∨ r = 1 ∨ 2 ≤ r := by omega
  rcases hr5 with rfl | rfl | hr2
  · go_wp2_with fail
    obtain ⟨q2, hq2, hR⟩ := (unhid HT3).1.rd
    refine (l11AnyEntry_any w3 b a len cap q2 hR (by omega)).mono ?_
    rintro x w4 ⟨⟨x, k, m, t⟩, he, rfl, ⟨q3, hq3, hR4⟩, hG4⟩
    have HT4 := hid (And.intro ((unhid HT3).1.read hbl hG4 ⟨q3, Nat.le_refl _, hR4⟩) (unhid HT3).2)
    clear hR hR4 hG4 HT3
    unfold Ent.vals
    dsimp only
    have T5 : TA w b a len cap q3 (w4.alloc (.cells #[.string x, .int .i64 k, .int .i64 m, .string t] 30)) (.slice (some ⟨g2, 0, none⟩) es.length c2) es :=
      (unhid HT4).1.read hbl (World.grownBy_alloc w4 _ _) (by obtain ⟨p', h1, h2⟩ := (unhid HT4).1.rd; exact ⟨p', h1, h2.alloc _⟩)
    obtain ⟨_, _, hv, ho⟩ := T5.v
    cases hv
    have HO := hid ho
    have HT5 := hid (And.intro T5 (unhid HT4).2)
    have hsz : w.heap.size ≤ w4.heap.size := (unhid HT4).1.grown.size
    have hfew := (unhid HT4).2
    clear T5 ho HT4
    go_wp2_with (at_builtin; refine wpList_append_own _ rfl _ _ 23 rfl w.heap.size 30 i0 _ 4 48 Tryz.underlying23 (unhid HI).1 (unhid HI).2.1 (unhid HI).2.2.1 (unhid HI).2.2.2 rfl (by decide) _ es.length (valsOf es) rfl (unhid HO) ⟨w4.heap.size, 0, none⟩ 1 1 [.string x, .int .i64 k, .int .i64 m, .string t] rfl rfl (lit_cells w4 _ _ _ _ _) ?c2 ?c3 ?c4 ?c5 ?_)
    case c2 => intro u hu; simp at hu; rcases hu with rfl | rfl | rfl | rfl <;> rfl
    case c3 => unfold maxLen; omega
    case c4 => omega
    case c5 => simp; omega
    intro v' w5 hown hg hnil
    have hown2 : w5.ownsRow w.heap.size 30 4 v' (es ++ [(⟨x, k, m, t⟩ : Ent)]).length (valsOf (es ++ [(⟨x, k, m, t⟩ : Ent)])) := by
      rw [List.length_append, valsOf_snoc]; exact hown
    have hlow := (Below.refl w.heap.size (w4.alloc (.cells #[.string x, .int .i64 k, .int .i64 m, .string t] 30))).grown hg (by simp; omega) (fun k e => ((unhid HO).lt k e).1)
    have HF := hid (show TA w b a len cap (p + 70) w5 v' (es ++ [⟨x, k, m, t⟩]) from ⟨treeV_of hown2 (owns_some hown2 (by simp)), fun y hy => by
      rcases List.mem_append.1 hy with hy | hy
      · exact (unhid HT5).1.nice y hy
      · rw [List.mem_singleton.1 hy]; exact he, by simp; omega, by obtain ⟨p', h1, h2⟩ := (unhid HT5).1.rd; exact ⟨p', by omega, h2.low hlow hbl⟩, grown_low (unhid HT5).1.grown hlow⟩)
    clear hown hg hown2 hlow
    go_wp2_with fail
    go_ret
    exact ⟨_, rfl, _, unhid HF⟩
  · by_cases h0 : es = []
    · subst h0
      go_wp2_with fail
      go_ret
      exact ⟨_, rfl, [], (unhid HT3).1.v, (unhid HT3).1.nice, (unhid HT3).1.few, by obtain ⟨p', h1, h2⟩ := (unhid HT3).1.rd; exact ⟨p', by omega, h2⟩, (unhid HT3).1.grown⟩
    · have hl0 : (0 : Int) < (es.length : Int) := by have := List.length_pos_iff.2 h0; omega
      have hfew := (unhid HT3).2
      go_wp2_with fail
      obtain ⟨q2, hq2, hR⟩ := (unhid HT3).1.rd
      refine (pick_any w3 b a len cap q2 hR (by omega) es.length (by omega) (by omega)).mono ?_
      rintro e w4 ⟨j, hj, rfl, hR4, hG4⟩
      have HT4 := hid (And.intro ((unhid HT3).1.read hbl hG4 ⟨q2 + 1, Nat.le_refl _, hR4⟩) (unhid HT3).2)
      clear hR hR4 hG4 HT3
      go_wp2_with fail
      obtain ⟨q3, hq3, hR⟩ := (unhid HT4).1.rd
      refine (l11AnyEntry_any w4 b a len cap q3 hR (by omega)).mono ?_
      rintro x w5 ⟨⟨x, k, m, t⟩, he, rfl, ⟨q4, hq4, hR4⟩, hG4⟩
      have HT5 := hid (And.intro ((unhid HT4).1.read hbl hG4 ⟨q4, Nat.le_refl _, hR4⟩) (unhid HT4).2)
      clear hR hR4 hG4 HT4
      unfold Ent.vals
      dsimp only
      obtain ⟨_, _, hv, ho⟩ := (unhid HT5).1.v
      cases hv
      have hjl : j < es.length := by omega
      have hjl' : (j : Int) < (es.length : Int) := hj
      have HO := hid (ownsRow_set4 ho hjl rfl ⟨x, k, m, t⟩)
      have hlow := below_set4 (Below.refl w.heap.size w5) (ho.lt _ rfl).1 j ⟨x, k, m, t⟩
      have HL := hid hlow
      obtain ⟨a1, cap1, ev, hRr⟩ := rowIn_of_owns ho
      cases ev
      rcases hRr with hnil | ⟨g', hg', _, _, hRr⟩
      · rw [hnil] at hjl; simp at hjl
      cases hg'
      obtain ⟨⟨cc0, cc1, cc2, cc3⟩, f0, f1, f2, f3⟩ := hRr.cells j hjl
      clear hlow hRr ho h0
      go_wp2_with fail
      go_ret
      refine ⟨_, rfl, es.set j ⟨x, k, m, t⟩, ⟨g2, c2, by rw [List.length_set]; rfl, by rw [List.length_set]; exact unhid HO⟩, fun y hy => ?_, by rw [List.length_set]; omega, ?_, grown_low (unhid HT5).1.grown (unhid HL)⟩
      · rcases List.mem_or_eq_of_mem_set hy with hy | rfl
        · exact (unhid HT5).1.nice y hy
        · exact he
      · obtain ⟨p', h1, h2⟩ := (unhid HT5).1.rd
        exact ⟨p', by omega, h2.low (unhid HL) hbl⟩
  · have b0 : ((r : Int) == 0) = false := by rw [beq_eq_false_iff_ne]; omega
    have b1 : ((r : Int) == 1) = false := by rw [beq_eq_false_iff_ne]; omega
    go_wp2_with fail
    go_ret
    exact ⟨_, rfl, es, (unhid HT3).1.v, (unhid HT3).1.nice, (unhid HT3).1.few, by obtain ⟨p', h1, h2⟩ := (unhid HT3).1.rd; exact ⟨p', by omega, h2⟩, (unhid HT3).1.grown⟩

end Go.Proofs.YtfphpggjcljliaaGreat

/- What the laws over trees draw. -/
namespace Go.Proofs.YtfphpggjcljliaaGreat
open Go.RowKit

/-- Drawn entries, in a row of their own. -/
structure Drawn (w W : World) (v : Value) (es : List Ent) : Prop where
  v : TreeV W w.heap.size v es
  nice : ∀ e ∈ es, niceE e
  few : es.length ≤ 17
  below : Below w.heap.size w W
theorem Drawn.small {w W : World} {v : Value} {es : List Ent} (h : Drawn w W v es) : smallE es :=
  ⟨by have := h.few; omega, fun e he => ⟨by have := nice_short (h.nice e he).1; omega, by have : e.text.size ≤ 100 := (h.nice e he).2; omega⟩⟩
theorem Drawn.later {w W W' : World} {v : Value} {es : List Ent} (h : Drawn w W v es) (hb : Below W.heap.size W W') : Drawn w W' v es :=
  ⟨h.v.below hb, h.nice, h.few, h.below.trans (hb.mono h.below.size)⟩
theorem drawn_of {w w1 W : World} {b : Nat} {a : Option Addr} {len cap p : Nat} {v : Value} {es : List Ent} (h : TA w1 b a len cap p W v es) (h1 : Below w.heap.size w w1) (hb : w.heap.size ≤ b) : Drawn w W v es :=
  ⟨h.v.base h1.size, h.nice, h.few, h1.trans (grown_below h.grown hb h1.size)⟩
end Go.Proofs.YtfphpggjcljliaaGreat

/- An entry put into a tree: which blocks change, and where its rows lie then. -/
namespace Go.Proofs.YtfphpggjcljliaaGreat
open Go.RowKit Go.Shelf

/-- A tree at a block, its rows by name. -/
def RowsV (W : World) (N bt : Nat) (vp vn : Value) (es : List Ent) : Prop := W.heap[bt]? = some (.cells #[vp, vn] 44 (0, 0)) ∧ W.ownsRow N 9 1 vp es.length (es.map fun e => .string e.path) ∧ W.ownsRow N 55 1 vn es.length (es.map nodeV)
/-- A row is where it was, or new. -/
def FreshV (w : World) (v v' : Value) : Prop := ∀ k, v'.ownBlock = some k → v.ownBlock = some k ∨ w.heap.size ≤ k
/-- Behind a put: the tree, its rows where they were or new; nothing else has changed. -/
def PutV (w w' : World) (N bt : Nat) (vp vn : Value) (es : List Ent) : Prop := (∃ vp' vn', RowsV w' N bt vp' vn' es ∧ FreshV w vp vp' ∧ FreshV w vn vn') ∧ Below N w w' ∧ (∀ k o, k ≠ bt → w.heap[k]? = some o → Apart o → w'.heap[k]? = some o) ∧ ∀ k, k < w.heap.size → k ≠ bt → vp.ownBlock ≠ some k → vn.ownBlock ≠ some k → w'.heap[k]? = w.heap[k]?

set_option maxRecDepth 100000 in
set_option maxHeartbeats 4000000 in
theorem mapPut_insV (N bt : Nat) (vp vn : Value) (es : List Ent) (e : Ent) (w : World) (hn : es.length ≤ 900) (ha : Asc (pathsOf es)) (hN : N ≤ bt) (ht0 : thereE es e.path = false) (h : RowsV w N bt vp vn es) :
    Calls Tryz.prog 45 #[.pointer (some ⟨bt, 0, .none⟩), .string e.path, nodeV e] w fun x w' => (∃ v, x = .returned v) ∧ PutV w w' N bt vp vn (insAt es e) := by
  obtain ⟨h1, h2, h3⟩ := h
  have hbl : bt < w.heap.size := (Array.getElem?_eq_some_iff.1 h1).1
  obtain ⟨a, cap, hva, hT⟩ := texts_of h2
  have hpn : (pathsOf es).length = es.length := by simp [pathsOf]
  have hl : (pathsOf es).length ≤ 1048576 := by omega
  have ht : thereP (pathsOf es) e.path = false := by rw [thereP_E, ht0]
  have hpp : placeP (pathsOf es) e.path = placeE es e.path := placeP_E _ _
  have hkl : placeE es e.path ≤ es.length := placeE_le es e.path
  have hins : insAt es e = es.take (placeE es e.path) ++ [e] ++ es.drop (placeE es e.path) := rfl
  have hT1 : ∀ v ∈ es.map (fun e => Value.string e.path), v.oneCell' = true := fun v hv => by obtain ⟨x, -, rfl⟩ := List.mem_map.1 hv; rfl
  have hN1 : ∀ v ∈ es.map nodeV, v.oneCell' = true := fun v hv => by obtain ⟨x, -, rfl⟩ := List.mem_map.1 hv; exact nodeV_one x
  obtain ⟨k, hk⟩ : ∃ k, placeE es e.path = k := ⟨_, rfl⟩
  rw [hk] at hpp hkl hins
  rw [hins]
  have hS := BinarySearch_any (pathsOf es) a cap e.path w hl ha hT
  rw [hpp, ht, hpn] at hS
  rw [hpn] at hva
  subst hva
  obtain ⟨T, nv, hV⟩ := nodeV_shape e
  have hIN := fun n i b v xs w => InsertN_any N n i b v xs e w
  simp only [hV] at hIN
  rw [hV]
  have HV := hid hV
  have HIN := hid hIN
  clear hV hIN
  have HS := hid hS
  obtain ⟨c0, c1, f0, f1⟩ := two_cells h1
  have H2 := hid h2
  have H3 := hid h3
  have H1 := hid h1
  have HT1 := hid hT1
  have HN1 := hid hN1
  clear hT ha hl ht hpp h1 h2 h3 hpn hS hins hk ht0 hT1 hN1
  go_enter Tryz.func45, Tryz.ntmps45
  go_wp2_with fail
  refine (unhid HS).mono ?_
  rintro x w1 ⟨rfl, hw1⟩
  rw [hw1]
  clear hw1
  go_wp2_with fail
  refine (InsertS_any N es.length k w.heap.size _ _ e.path (w.alloc (.cells #[.string e.path] 9)) hkl (by omega) (by simp; omega) ((unhid H2).alloc _) (fun eq => by have := ((unhid H2).lt _ eq).2; omega) (World.alloc_heap_new w _) (unhid HT1)).mono ?_
  rintro x w2 ⟨v2, rfl, hown2, hgrow2, hat2⟩
  obtain ⟨g2, cap2, rfl⟩ := ownsRow_succ hown2
  have h1a : (w.alloc (.cells #[.string e.path] 9)).heap[bt]? = some (.cells #[.slice a es.length cap, vn] 44 (0, 0)) := (Below.heap_alloc _ _ _ hbl).trans (unhid H1)
  have h12 : w2.heap[bt]? = some (.cells #[.slice a es.length cap, vn] 44 (0, 0)) := (hgrow2.block bt (by simp; omega) (row_ne ((unhid H2).alloc (.cells #[.string e.path] 9)) h1a (by decide))).trans h1a
  obtain ⟨c0, c1, f0, f1⟩ := two_cells h12
  have h32 : w2.ownsRow N 55 1 vn es.length (es.map nodeV) := by
    refine ownsRow_kept ((unhid H3).alloc (.cells #[.string e.path] 9)) (fun g hg => hgrow2.block g (((unhid H3).alloc (.cells #[.string e.path] 9)).lt g hg).2 ?_)
    rcases ((unhid H3).alloc (.cells #[.string e.path] 9)).2 with ⟨rfl, _⟩ | ⟨g', cap', cur', rfl, _, hgc, _⟩
    · cases hg
    · cases hg; exact row_ne ((unhid H2).alloc (.cells #[.string e.path] 9)) hgc (by decide)
  have hg2w : g2 ≠ bt := fun eq => by
    rcases hown2.2 with ⟨h, _⟩ | ⟨g', cap', cur', hv, _, hgc, _⟩
    · cases h
    · cases hv; exact type_ne hgc h12 (by decide) eq
  have HB2 := hid (And.intro hown2 (And.intro hgrow2 (And.intro h12 h32)))
  have HAT2 := hid hat2
  have hsz2 : w.heap.size + 1 ≤ w2.heap.size := by have := hgrow2.size; simpa using this
  clear hown2 hgrow2 h12 h32 h1a hat2
  go_wp2_with fail
  obtain ⟨W3, hW3⟩ : ∃ W3, W3 = (w2.setCell ⟨bt, 0, .none⟩ (.slice (some ⟨g2, 0, .none⟩) (es.length + 1) cap2)).alloc (.cells #[.iface T nv] 55) := ⟨_, rfl⟩
  rw [← hW3]
  obtain ⟨hown2, hgrow2, h12, h32⟩ := unhid HB2
  have hbl2 : bt < w2.heap.size := by omega
  have h13 : W3.heap[bt]? = some (.cells #[.slice (some ⟨g2, 0, .none⟩) (es.length + 1) cap2, vn] 44 (0, 0)) := by
    rw [hW3, Below.heap_alloc _ _ _ (by simp; omega), heap_setCell_same _ bt 0 _ _ _ h12]; rfl
  have hk3 : ∀ g, g < w2.heap.size → g ≠ bt → W3.heap[g]? = w2.heap[g]? := fun g hg hne => by
    rw [hW3, Below.heap_alloc _ _ _ (by simpa using hg), Below.heap_setCell _ _ _ _ hne]
  have h33 : W3.ownsRow N 55 1 vn es.length (es.map nodeV) := ownsRow_kept h32 (fun g hg => hk3 g (h32.lt g hg).2 (fun eq => (row_ne h32 h12 (by decide)) (by rw [hg, eq])))
  have hown3 : W3.ownsRow N 9 1 (.slice (some ⟨g2, 0, .none⟩) (es.length + 1) cap2) (es.length + 1) ((es.map fun e => .string e.path).take k ++ [.string e.path] ++ (es.map fun e => .string e.path).drop k) := ownsRow_kept hown2 (fun g hg => hk3 g (hown2.lt g hg).2 (fun eq => by cases hg; exact hg2w eq))
  have hs3 : W3.heap.size = w2.heap.size + 1 := by rw [hW3]; simp
  have hc3 : W3.heap[w2.heap.size]? = some (.cells #[.iface T nv] 55 (0, 0)) := by
    rw [hW3]; have := World.alloc_heap_new (w2.setCell ⟨bt, 0, .none⟩ (.slice (some ⟨g2, 0, .none⟩) (es.length + 1) cap2)) (.cells #[.iface T nv] 55); simpa using this
  refine (unhid HIN es.length k w2.heap.size vn _ W3 hkl (by omega) (by omega) h33 (fun eq => by have := (h32.lt _ eq).2; omega) hc3 (unhid HN1)).mono ?_
  rintro x w4 ⟨v4, rfl, hown4, hgrow4, hat4⟩
  obtain ⟨g4, cap4, rfl⟩ := ownsRow_succ hown4
  have h14 : w4.heap[bt]? = some (.cells #[.slice (some ⟨g2, 0, .none⟩) (es.length + 1) cap2, vn] 44 (0, 0)) := (hgrow4.block bt (by omega) (row_ne h33 h13 (by decide))).trans h13
  have hrow4 : w4.ownsRow N 9 1 (.slice (some ⟨g2, 0, .none⟩) (es.length + 1) cap2) (es.length + 1) ((es.map fun e => .string e.path).take k ++ [.string e.path] ++ (es.map fun e => .string e.path).drop k) := ownsRow_kept hown3 (fun g hg => hgrow4.block g (hown3.lt g hg).2 (by
    rcases hown3.2 with ⟨h, _⟩ | ⟨g', cap', cur', hv, _, hgc, _⟩
    · cases h
    · cases hv; cases hg; exact row_ne h33 hgc (by decide)))
  obtain ⟨c0, c1, f0, f1⟩ := two_cells h14
  have hg4w : g4 ≠ bt := fun eq => by
    rcases hown4.2 with ⟨h, _⟩ | ⟨g', cap', cur', hv, _, hgc, _⟩
    · cases h
    · cases hv; exact type_ne hgc h14 (by decide) eq
  have hF : RowsV (w4.setCell ⟨bt, 1, .none⟩ (.slice (some ⟨g4, 0, .none⟩) (es.length + 1) cap4)) N bt (.slice (some ⟨g2, 0, .none⟩) (es.length + 1) cap2) (.slice (some ⟨g4, 0, .none⟩) (es.length + 1) cap4) (es.take k ++ [e] ++ es.drop k) := by
    refine ⟨?_, ?_, ?_⟩
    · rw [heap_setCell_same _ bt 1 _ _ _ h14]; rfl
    · rw [show (es.take k ++ [e] ++ es.drop k).length = es.length + 1 by simp; omega, List.map_append, List.map_append, List.map_take, List.map_drop]
      exact ownsRow_kept hrow4 (fun g hg => Below.heap_setCell _ _ _ _ (fun eq => by cases hg; exact hg2w eq))
    · rw [show (es.take k ++ [e] ++ es.drop k).length = es.length + 1 by simp; omega, List.map_append, List.map_append, List.map_take, List.map_drop]
      rw [← unhid HV] at hown4
      exact ownsRow_kept hown4 (fun g hg => Below.heap_setCell _ _ _ _ (fun eq => by cases hg; exact hg4w eq))
  have hB : Below N w (w4.setCell ⟨bt, 1, .none⟩ (.slice (some ⟨g4, 0, .none⟩) (es.length + 1) cap4)) := by
    have b1 : Below N w (w.alloc (.cells #[.string e.path] 9)) := (Below.refl _ _).alloc (by omega) _
    have b2 : Below N w w2 := b1.grown hgrow2 (by simp; omega) (fun g hg => (((unhid H2).alloc (.cells #[.string e.path] 9)).lt g hg).1)
    have b3 : Below N w W3 := by rw [hW3]; exact (b2.setCell hN _).alloc (by simp; omega) _
    have b4 : Below N w w4 := b3.grown hgrow4 (by omega) (fun g hg => (h33.lt g hg).1)
    exact b4.setCell hN _
  have hO : ∀ k o, k ≠ bt → w.heap[k]? = some o → Apart o → (w4.setCell ⟨bt, 1, .none⟩ (.slice (some ⟨g4, 0, .none⟩) (es.length + 1) cap4)).heap[k]? = some o := by
    intro k o hk ho hap
    have hkl : k < w.heap.size := (Array.getElem?_eq_some_iff.1 ho).1
    have a1 : (w.alloc (.cells #[.string e.path] 9)).heap[k]? = some o := (Below.heap_alloc _ _ _ hkl).trans ho
    have a2 : w2.heap[k]? = some o := (hgrow2.block k (by simp; omega) (fun eq => by
      rcases ((unhid H2).alloc (.cells #[.string e.path] 9)).2 with ⟨h, _⟩ | ⟨g', cap', cur', hv, _, hgc, _⟩
      · rw [h] at eq; cases eq
      · rw [hv] at eq; cases eq; rw [a1] at hgc; cases hgc; exact (hap _ _ _ rfl).1 rfl)).trans a1
    have a3 : W3.heap[k]? = some o := (hk3 k (by omega) hk).trans a2
    have a4 : w4.heap[k]? = some o := (hgrow4.block k (by omega) (fun eq => by
      rcases h33.2 with ⟨h, _⟩ | ⟨g', cap', cur', hv, _, hgc, _⟩
      · rw [h] at eq; cases eq
      · rw [hv] at eq; cases eq; rw [a3] at hgc; cases hgc; exact (hap _ _ _ rfl).2 rfl)).trans a3
    exact (Below.heap_setCell _ _ _ _ hk).trans a4
  have hS : ∀ k, k < w.heap.size → k ≠ bt → (Value.slice a es.length cap).ownBlock ≠ some k → vn.ownBlock ≠ some k → (w4.setCell ⟨bt, 1, .none⟩ (.slice (some ⟨g4, 0, .none⟩) (es.length + 1) cap4)).heap[k]? = w.heap[k]? := by
    intro k hk hkb hkp hkn
    have a1 : (w.alloc (.cells #[.string e.path] 9)).heap[k]? = w.heap[k]? := Below.heap_alloc _ _ _ hk
    have a2 : w2.heap[k]? = w.heap[k]? := (hgrow2.block k (by simp; omega) (fun eq => hkp eq.symm)).trans a1
    have a3 : W3.heap[k]? = w.heap[k]? := (hk3 k (by omega) hkb).trans a2
    have a4 : w4.heap[k]? = w.heap[k]? := (hgrow4.block k (by omega) (fun eq => hkn eq.symm)).trans a3
    exact (Below.heap_setCell _ _ _ _ hkb).trans a4
  have hf2 : FreshV w (.slice a es.length cap) (.slice (some ⟨g2, 0, .none⟩) (es.length + 1) cap2) := fun k hk => by
    rcases unhid HAT2 with h | h
    · exact .inl (h ▸ hk)
    · rw [h] at hk; injection hk with hk; right; rw [World.size_alloc] at hk; omega
  have hf4 : FreshV w vn (.slice (some ⟨g4, 0, .none⟩) (es.length + 1) cap4) := fun k hk => by
    rcases hat4 with h | h
    · exact .inl (h ▸ hk)
    · rw [h] at hk; injection hk with hk; right; omega
  have HF := hid (show PutV w (w4.setCell ⟨bt, 1, .none⟩ (.slice (some ⟨g4, 0, .none⟩) (es.length + 1) cap4)) N bt (.slice a es.length cap) vn (es.take k ++ [e] ++ es.drop k) from ⟨⟨_, _, hF, hf2, hf4⟩, hB, hO, hS⟩)
  clear hF hB hO hS hf2 hf4 hat4 HAT2 hown4 hgrow4 h14 hrow4 h13 hk3 h33 hown3 hc3 hW3 hown2 hgrow2 h12 h32 HB2
  go_wp2_with fail
  go_end0
  exact ⟨⟨_, rfl⟩, unhid HF⟩

set_option maxRecDepth 100000 in
set_option maxHeartbeats 4000000 in
theorem mapPut_overV (N bt : Nat) (vp vn : Value) (es : List Ent) (e : Ent) (w : World) (hn : es.length ≤ 900) (ha : Asc (pathsOf es)) (ht0 : thereE es e.path = true) (h : RowsV w N bt vp vn es) :
    Calls Tryz.prog 45 #[.pointer (some ⟨bt, 0, .none⟩), .string e.path, nodeV e] w fun x w' => (∃ v, x = .returned v) ∧ PutV w w' N bt vp vn (es.set (placeE es e.path) e) := by
  obtain ⟨h1, h2, h3⟩ := h
  have hbl : bt < w.heap.size := (Array.getElem?_eq_some_iff.1 h1).1
  obtain ⟨a, cap, hva, hT⟩ := texts_of h2
  have hpn : (pathsOf es).length = es.length := by simp [pathsOf]
  have hl : (pathsOf es).length ≤ 1048576 := by omega
  have ht : thereP (pathsOf es) e.path = true := by rw [thereP_E, ht0]
  obtain ⟨old, hj, hpo⟩ := there_get ht0
  have hjl : placeE es e.path < es.length := (List.getElem?_eq_some_iff.1 hj).1
  have hS := BinarySearch_any (pathsOf es) a cap e.path w hl ha hT
  rw [placeP_E, ht, hpn] at hS
  rw [hpn] at hva
  subst hva
  obtain ⟨T, nv, hV⟩ := nodeV_shape e
  have hse : (es.set (placeE es e.path) e).map nodeV = (es.map nodeV).set (placeE es e.path) (nodeV e) := by rw [List.map_set]
  have hsp : (es.set (placeE es e.path) e).map (fun e => Value.string e.path) = es.map (fun e => .string e.path) := by
    rw [List.map_set]
    apply List.ext_getElem?
    intro i
    rw [List.getElem?_set]
    split
    · rename_i hi
      subst hi
      rw [if_pos (by simpa using hjl), List.getElem?_map, hj, Option.map_some, hpo]
    · rfl
  obtain ⟨g, cap2, cur, rfl, hgN, hg, hszc⟩ : ∃ g cap2 cur, vn = .slice (some ⟨g, 0, .none⟩) es.length cap2 ∧ N ≤ g ∧ w.heap[g]? = some (.cells cur 55 (0, 0)) ∧ placeE es e.path < cur.size ∧ es.length ≤ cap2 := by
    rcases h3.2 with ⟨rfl, h0⟩ | ⟨g, cap, cur, rfl, hN', hg, hc, _, hsz, hcells⟩
    · omega
    · exact ⟨g, cap, cur, rfl, hN', hg, by omega, hc⟩
  have hFT : RowsV (w.setCell ⟨g, placeE es e.path, .none⟩ (nodeV e)) N bt (.slice a es.length cap) (.slice (some ⟨g, 0, .none⟩) es.length cap2) (es.set (placeE es e.path) e) := by
    refine ⟨?_, ?_, ?_⟩
    · rw [Below.heap_setCell _ _ _ _ (type_ne hg h1 (by decide)).symm]; exact h1
    · rw [List.length_set, hsp]
      refine ownsRow_kept h2 (fun g' eg => Below.heap_setCell _ _ _ _ (fun eq => ?_))
      obtain ⟨cur', hc'⟩ := (show ∃ cur', w.heap[g']? = some (.cells cur' 9 (0, 0)) by
        rcases h2.2 with ⟨hh, _⟩ | ⟨g'', cap'', cur'', hv, _, hh, _⟩
        · rw [hh] at eg; cases eg
        · rw [hv] at eg; cases eg; exact ⟨_, hh⟩)
      exact type_ne hg hc' (by decide) eq.symm
    · rw [List.length_set, hse]
      exact ownsRow_set h3 hjl rfl
  have hFB : Below N w (w.setCell ⟨g, placeE es e.path, .none⟩ (nodeV e)) := (Below.refl _ _).setCell hgN _
  have hFO : ∀ k o, k ≠ bt → w.heap[k]? = some o → Apart o → (w.setCell ⟨g, placeE es e.path, .none⟩ (nodeV e)).heap[k]? = some o := fun k o _ ho hap =>
    (Below.heap_setCell _ _ _ _ (fun eq => by
      have eq' : k = g := eq
      subst eq'
      rw [ho] at hg; cases hg; exact (hap _ _ _ rfl).2 rfl)).trans ho
  have HF := hid (show PutV w (w.setCell ⟨g, placeE es e.path, .none⟩ (nodeV e)) N bt (.slice a es.length cap) (.slice (some ⟨g, 0, .none⟩) es.length cap2) (es.set (placeE es e.path) e) from ⟨⟨_, _, hFT, fun k hk => .inl hk, fun k hk => .inl hk⟩, hFB, hFO, fun k _ _ _ hkn => Below.heap_setCell _ _ _ _ (fun eq => hkn (by have eq' : k = g := eq; rw [eq']; rfl))⟩)
  clear hFT hFB hFO hse hsp
  rw [hV] at HF ⊢
  obtain ⟨hsz1, hle⟩ := hszc
  have n0 : ∃ u, w.cell? ⟨g, placeE es e.path, .none⟩ = some u := ⟨cur[placeE es e.path], by simp [World.cell?, hg, hsz1]⟩
  obtain ⟨u, n0⟩ := n0
  have m0 : w.frozen? ⟨g, placeE es e.path, .none⟩ = false := by simp [World.frozen?, hg]
  have HS := hid hS
  obtain ⟨c0, c1, f0, f1⟩ := two_cells h1
  clear hT ha hl ht h1 h2 h3 hpn hj hS hV hg ht0 hpo hsz1
  generalize placeE es e.path = j at HS HF hjl n0 m0 ⊢
  go_enter Tryz.func45, Tryz.ntmps45
  go_wp2_with fail
  refine (unhid HS).mono ?_
  rintro x w1 ⟨rfl, hw1⟩
  rw [hw1]
  clear hw1
  go_wp2_with fail
  first | go_end0 | refine bodyPost_ret (results_none rfl _ _ _) rfl ?_
  exact ⟨⟨_, rfl⟩, unhid HF⟩

theorem mapPut_V (N bt : Nat) (vp vn : Value) (es : List Ent) (e : Ent) (w : World) (hn : es.length ≤ 900) (ha : Asc (pathsOf es)) (hN : N ≤ bt) (h : RowsV w N bt vp vn es) :
    Calls Tryz.prog 45 #[.pointer (some ⟨bt, 0, .none⟩), .string e.path, nodeV e] w fun x w' => (∃ v, x = .returned v) ∧ PutV w w' N bt vp vn (putT es e) := by
  cases ht : thereE es e.path
  · have : putT es e = insAt es e := by unfold putT; rw [ht]; rfl
    rw [this]
    exact mapPut_insV N bt vp vn es e w hn ha hN ht h
  · have : putT es e = es.set (placeE es e.path) e := by unfold putT; rw [ht]; rfl
    rw [this]
    exact mapPut_overV N bt vp vn es e w hn ha ht h
end Go.Proofs.YtfphpggjcljliaaGreat

/- Whether two things are one dir, by the program. -/
namespace Go.Proofs.YtfphpggjcljliaaGreat
open Go.RowKit Go.Shelf

theorem in_int (d : Nat) (a b : Int) (w : World) : (Op.equalIn (d + 1) 3 (.int .i64 a) (.int .i64 b)).run Tryz.prog w = .ok (a == b) w := by
  simp [Op.equalIn, run_underlying Tryz.underlying3]
theorem in_dir (d : Nat) (a b : Int) (w : World) : (Op.equalIn (d + 1 + 1) 94 (.agg #[.int .i64 a]) (.agg #[.int .i64 b])).run Tryz.prog w = .ok (a == b) w := by
  have h0 : (program).run Tryz.prog w = .ok Tryz.prog w := by kernel_rfl
  have h1 : Tryz.prog.stoodInHeld 94 = false := by kernel_rfl
  have h2 : ∀ a, (part 3 #[.int .i64 a] 0).run Tryz.prog w = .ok (.int .i64 a) w := fun a => by kernel_rfl
  unfold Op.equalIn
  simp only [Sem.run_bind, run_underlying Tryz.underlying94, Result.andThen_ok, h0, h1, Bool.false_eq_true, if_false, List.forIn_toArray, List.forIn_cons, List.forIn_nil]
  rw [if_pos (by decide)]
  simp only [Sem.run_bind, h2, in_int, Result.andThen_ok]
  cases (a == b) <;> simp [Sem.run_pure]
theorem eq_dirs (a b : Int) (w : World) : (binOp .eql 55 (.iface 94 (.agg #[.int .i64 a])) (.iface 94 (.agg #[.int .i64 b]))).run Tryz.prog w = .ok (.bool (a == b)) w := by
  have hc : (Tryz.prog.info? 94).map (·.comparable) = some true := by kernel_rfl
  cases hi : Tryz.prog.info? 94 with
  | none => simp [hi] at hc
  | some i =>
    have hcc : i.comparable = true := by simpa [hi] using hc
    have h : ∀ d : Nat, (Op.equalIn (d + 1 + 1 + 1) 55 (.iface 94 (.agg #[.int .i64 a])) (.iface 94 (.agg #[.int .i64 b]))).run Tryz.prog w = .ok (a == b) w := fun d => by
      have := in_dir d a b w
      unfold Op.equalIn
      simp only [Sem.run_bind, run_underlying Tryz.underlying55, Result.andThen_ok]
      simp [typeInfo, hi, hcc, this]
    simp only [binOp]
    simp [Op.equal, Op.maxDepth, h 9997]
theorem eq_dirf (a b : Int) (s : ByteArray) (w : World) : (binOp .eql 55 (.iface 94 (.agg #[.int .i64 a])) (.iface 96 (.agg #[.int .i64 b, .string s]))).run Tryz.prog w = .ok (.bool false) w := by kernel_rfl
theorem eq_dirl (a : Int) (s : ByteArray) (w : World) : (binOp .eql 55 (.iface 94 (.agg #[.int .i64 a])) (.iface 98 (.agg #[.string s]))).run Tryz.prog w = .ok (.bool false) w := by kernel_rfl

def sameB (x y : Ent) : Bool := x.kind == 1 && (y.kind == 1 && x.mode == y.mode)

end Go.Proofs.YtfphpggjcljliaaGreat

/- What holds of paths as lists of bytes: what a path is in is a path; it is in that; moved, and back. -/
namespace Go.Proofs.YtfphpggjcljliaaGreat

theorem lastIx_get (b : UInt8) : ∀ l : List UInt8, 0 ≤ lastIx b l → l[(lastIx b l).toNat]? = some b
  | [], h => by simp [lastIx] at h
  | c :: l, h => by
    by_cases hl : 0 ≤ lastIx b l
    · have ih := lastIx_get b l hl
      have e : lastIx b (c :: l) = lastIx b l + 1 := by simp [lastIx, hl]
      rw [e, show (lastIx b l + 1).toNat = (lastIx b l).toNat + 1 from by omega]
      simpa using ih
    · by_cases hc : (c == b) = true
      · have e : lastIx b (c :: l) = 0 := by simp [lastIx, hl, hc]
        rw [e]; simpa using hc
      · have e : lastIx b (c :: l) = -1 := by simp [lastIx, hl, hc]
        omega
theorem lastIx_after (b : UInt8) : ∀ (l : List UInt8) (j : Nat), lastIx b l < j → l[j]? ≠ some b
  | [], j, _ => by simp
  | c :: l, j, h => by
    have hg := lastIx_ge b l
    by_cases hl : 0 ≤ lastIx b l
    · have e : lastIx b (c :: l) = lastIx b l + 1 := by simp [lastIx, hl]
      cases j with
      | zero => omega
      | succ j => simpa using lastIx_after b l j (by omega)
    · cases j with
      | zero =>
        by_cases hc : (c == b) = true
        · have e : lastIx b (c :: l) = 0 := by simp [lastIx, hl, hc]
          omega
        · simpa using hc
      | succ j => simpa using lastIx_after b l j (by omega)
theorem split_last (b : UInt8) (l : List UInt8) (h : 0 ≤ lastIx b l) : l.take (lastIx b l).toNat ++ b :: l.drop (lastIx b l + 1).toNat = l := by
  have hg := lastIx_get b l h
  have hlt := (List.getElem?_eq_some_iff.1 hg).1
  have h2 := (List.getElem?_eq_some_iff.1 hg).2
  rw [show (lastIx b l + 1).toNat = (lastIx b l).toNat + 1 from by omega]
  conv => rhs; rw [← List.take_append_drop (lastIx b l).toNat l, List.drop_eq_getElem_cons hlt, h2]
theorem cutB_take (b : UInt8) : ∀ l : List UInt8, 0 ≤ lastIx b l → cutB b (l.take (lastIx b l).toNat) = (cutB b l).dropLast
  | [], h => by simp [lastIx] at h
  | c :: l, h => by
    by_cases hl : 0 ≤ lastIx b l
    · have ih := cutB_take b l hl
      obtain ⟨x, y, t, e⟩ := (cutB_lastIx b l).2.1 hl
      have el : lastIx b (c :: l) = lastIx b l + 1 := by simp [lastIx, hl]
      rw [el, show (lastIx b l + 1).toNat = (lastIx b l).toNat + 1 from by omega, List.take_succ_cons]
      by_cases hc : (c == b) = true
      · simp [cutB, hc, ih, e]
      · simp [cutB, hc, ih, e]
    · by_cases hc : (c == b) = true
      · have el : lastIx b (c :: l) = 0 := by simp [lastIx, hl, hc]
        have e1 := (cutB_lastIx b l).1 (by omega)
        rw [el]
        simp [cutB, hc, e1]
      · have el : lastIx b (c :: l) = -1 := by simp [lastIx, hl, hc]
        omega
theorem pathB_up (l : List UInt8) (h : pathB l = true) (hi : 0 ≤ lastIx 47 l) : pathB (l.take (lastIx 47 l).toNat) = true := by
  simp only [pathB, Bool.and_eq_true, decide_eq_true_eq, List.all_eq_true] at h ⊢
  rw [cutB_take 47 l hi]
  exact ⟨by simp; omega, fun x hx => h.2 x ((List.dropLast_prefix _).subset hx)⟩
theorem pathB_ne (l : List UInt8) (h : pathB l = true) : l ≠ [] := by
  rintro rfl
  simp [pathB, cutB, nameOkB] at h
theorem belowB_refl (l : List UInt8) : belowB l l = true := by simp [belowB]
theorem belowB_app (l t : List UInt8) : belowB l (l ++ 47 :: t) = true := by
  simp only [belowB, Lib.hasPrefix, Bool.or_eq_true]
  exact .inr (List.isPrefixOf_iff_prefix.2 ⟨t, by simp⟩)
theorem belowB_cases {p s : List UInt8} (h : belowB p s = true) : s = p ∨ ∃ t, s = p ++ 47 :: t := by
  simp only [belowB, Lib.hasPrefix, Bool.or_eq_true, beq_iff_eq] at h
  rcases h with h | h
  · exact .inl h
  · obtain ⟨t, rfl⟩ := List.isPrefixOf_iff_prefix.1 h
    exact .inr ⟨t, by simp⟩
theorem belowB_long {p s : List UInt8} (h : s.length < p.length) : belowB p s = false := by
  cases hb : belowB p s with
  | false => rfl
  | true =>
    rcases belowB_cases hb with rfl | ⟨t, rfl⟩
    · omega
    · simp at h; omega
theorem inB_refl (l : List UInt8) (h : pathB l = true) : inB l l = true := by simp [inB, h, belowB_refl]
theorem inB_up (l : List UInt8) (h : pathB l = true) (hi : 0 ≤ lastIx 47 l) : inB (l.take (lastIx 47 l).toNat) l = true := by
  simp only [inB, pathB_up l h hi, h, Bool.and_self, Bool.true_and]
  conv => lhs; rw [← split_last 47 l hi]
  have e : (l.take (lastIx 47 l).toNat ++ 47 :: l.drop (lastIx 47 l + 1).toNat).take (lastIx 47 (l.take (lastIx 47 l).toNat ++ 47 :: l.drop (lastIx 47 l + 1).toNat)).toNat = l.take (lastIx 47 l).toNat := by rw [split_last 47 l hi]
  rw [e]
  exact belowB_app _ _
theorem inB_trans {a b c : List UInt8} (h : inB a b = true) (g : inB b c = true) : inB a c = true := by
  simp only [inB, Bool.and_eq_true] at h g ⊢
  refine ⟨⟨h.1.1, g.1.2⟩, ?_⟩
  rcases belowB_cases g.2 with rfl | ⟨t, rfl⟩
  · exact h.2
  · rcases belowB_cases h.2 with rfl | ⟨u, rfl⟩
    · exact belowB_app _ _
    · rw [List.append_assoc]; exact belowB_app _ _

theorem up_none {s : ByteArray} (hi : lastIx 47 s.data.toList < 0) : pathUpS s = ⟨#[]⟩ := by simp [pathUpS, upS, hi]
theorem last_none {s : ByteArray} (h : pathB s.data.toList = true) (hi : lastIx 47 s.data.toList < 0) : pathLastS s = s := by
  have hg := lastIx_ge 47 s.data.toList
  apply ba_ext
  rw [pathLastS, h, if_pos rfl, lastS, Lib.extract_data, show (lastIx 47 s.data.toList + 1).toNat = 0 from by omega]
  rw [List.take_of_length_le (by simp)]; rfl
theorem up_some {s : ByteArray} (h : pathB s.data.toList = true) (hi : 0 ≤ lastIx 47 s.data.toList) : (pathUpS s).data.toList = s.data.toList.take (lastIx 47 s.data.toList).toNat := by
  rw [pathUpS, h, if_pos rfl, upS, if_neg (by omega), Lib.extract_data]; simp
theorem last_some {s : ByteArray} (h : pathB s.data.toList = true) : (pathLastS s).data.toList = s.data.toList.drop (lastIx 47 s.data.toList + 1).toNat := by
  rw [pathLastS, h, if_pos rfl, lastS, Lib.extract_data, List.take_of_length_le (by simp)]
theorem size_app (x y : ByteArray) : (x ++ y).size = x.size + y.size := by simp
theorem data_app (x y : ByteArray) : (x ++ y).data.toList = x.data.toList ++ y.data.toList := by simp
theorem size_up (s : ByteArray) : (pathUpS s).size ≤ s.size := by
  unfold pathUpS upS
  split
  · split
    · exact Nat.zero_le _
    · simp; omega
  · exact Nat.zero_le _
theorem size_last (s : ByteArray) : (pathLastS s).size ≤ s.size := by
  unfold pathLastS lastS
  split
  · simp
  · exact Nat.zero_le _

/-- What FnPath asks, of a path with a slash. -/
theorem fnPath_facts {s : ByteArray} (h : pathB s.data.toList = true) (hi : 0 ≤ lastIx 47 s.data.toList) :
    ¬ (pathUpS s).toList = [] ∧ (pathUpS s ++ ⟨#[47]⟩ ++ pathLastS s).toList = s.toList ∧ pathB (pathUpS s).data.toList = true ∧ inB (pathUpS s).data.toList s.data.toList = true ∧ inB s.data.toList (pathUpS s).data.toList = false := by
  have hp : pathB (pathUpS s).data.toList = true := by rw [up_some h hi]; exact pathB_up _ h hi
  refine ⟨?_, ?_, hp, ?_, ?_⟩
  · rw [Lib.toList_data]; exact pathB_ne _ hp
  · rw [Lib.toList_data, Lib.toList_data, data_app, data_app, up_some h hi, last_some h]
    have := split_last 47 s.data.toList hi
    rw [List.append_assoc]
    exact this
  · rw [up_some h hi]; exact inB_up _ h hi
  · have hl := (List.getElem?_eq_some_iff.1 (lastIx_get 47 s.data.toList hi)).1
    have : belowB s.data.toList (pathUpS s).data.toList = false := belowB_long (by rw [up_some h hi, List.length_take]; omega)
    simp [inB, this]
end Go.Proofs.YtfphpggjcljliaaGreat

/- What holds of a path in a place, and of one that is moved. -/
namespace Go.Proofs.YtfphpggjcljliaaGreat

theorem empty_toList : (ByteArray.mk #[]).toList = [] := by rw [Lib.toList_data]
theorem inB_parts {p s : List UInt8} (h : inB p s = true) : pathB p = true ∧ pathB s = true ∧ belowB p s = true := by
  simp only [inB, Bool.and_eq_true] at h
  exact ⟨h.1.1, h.1.2, h.2⟩
theorem inB_mk {p s : List UInt8} (h1 : pathB p = true) (h2 : pathB s = true) (h3 : belowB p s = true) : inB p s = true := by simp [inB, h1, h2, h3]

theorem in_up {p s : List UInt8} (h : inB p s = true) (hne : s ≠ p) : 0 ≤ lastIx 47 s ∧ inB p (s.take (lastIx 47 s).toNat) = true ∧ inB s p = false := by
  obtain ⟨h1, h2, h3⟩ := inB_parts h
  rcases belowB_cases h3 with rfl | ⟨t, rfl⟩
  · exact absurd rfl hne
  · have hat : (p ++ 47 :: t)[p.length]? = some 47 := by simp
    have hle : (p.length : Int) ≤ lastIx 47 (p ++ 47 :: t) := by
      rcases Int.lt_or_le (lastIx 47 (p ++ 47 :: t)) p.length with hlt | hge
      · exact absurd hat (lastIx_after 47 _ _ hlt)
      · exact hge
    refine ⟨by omega, inB_mk h1 (pathB_up _ h2 (by omega)) ?_, ?_⟩
    · obtain ⟨k, hk⟩ : ∃ k, (lastIx 47 (p ++ 47 :: t)).toNat = p.length + k := ⟨(lastIx 47 (p ++ 47 :: t)).toNat - p.length, by omega⟩
      rw [hk, List.take_length_add_append]
      cases k with
      | zero => simp [belowB_refl]
      | succ k => rw [List.take_succ_cons]; exact belowB_app _ _
    · have := belowB_long (p := p ++ 47 :: t) (s := p) (by simp)
      simp [inB, this]

/-- What FnPathIn asks of a path in a place, and not the place. -/
theorem fnPathIn_facts {p s : ByteArray} (h : inB p.data.toList s.data.toList = true) (hne : ¬ p.toList = s.toList) :
    inB p.data.toList (pathUpS s).data.toList = true ∧ inB s.data.toList p.data.toList = false := by
  rw [Lib.toList_data, Lib.toList_data] at hne
  obtain ⟨h1, h2, h3⟩ := in_up h (fun e => hne e.symm)
  exact ⟨by rw [up_some (inB_parts h).2.1 h1]; exact h2, h3⟩
theorem fnPathIn_up {p s : ByteArray} (h : inB p.data.toList s.data.toList = true) (hu : ¬ (pathUpS p).toList = []) : inB (pathUpS p).data.toList s.data.toList = true := by
  by_cases hi : lastIx 47 p.data.toList < 0
  · rw [up_none hi] at hu; exact absurd empty_toList hu
  · refine inB_trans ?_ h
    rw [up_some (inB_parts h).1 (by omega)]
    exact inB_up _ (inB_parts h).1 (by omega)

theorem drop_size (f s : ByteArray) : (s.extract f.size s.size).data.toList = s.data.toList.drop f.data.toList.length := by
  rw [Lib.extract_data, List.take_of_length_le (by simp), ← Lib.size_eq]
theorem move_back {s f t : ByteArray} (h : inB f.data.toList s.data.toList = true) (ht : pathB t.data.toList = true) (hx : pathB (t ++ s.extract f.size s.size).data.toList = true) :
    inB t.data.toList (t ++ s.extract f.size s.size).data.toList = true ∧ moveS (t ++ s.extract f.size s.size) t f = s := by
  obtain ⟨h1, h2, h3⟩ := inB_parts h
  have hd : (t ++ s.extract f.size s.size).data.toList = t.data.toList ++ s.data.toList.drop f.data.toList.length := by rw [data_app, drop_size]
  have hin : inB t.data.toList (t ++ s.extract f.size s.size).data.toList = true := by
    refine inB_mk ht hx ?_
    rw [hd]
    rcases belowB_cases h3 with e | ⟨r, e⟩
    · rw [e, List.drop_length, List.append_nil]; exact belowB_refl _
    · rw [e, List.drop_left]; exact belowB_app _ _
  refine ⟨hin, ?_⟩
  have he : f ++ (t ++ s.extract f.size s.size).extract t.size (t ++ s.extract f.size s.size).size = s := by
    apply ba_ext
    rw [data_app, drop_size, hd, List.drop_left]
    rcases belowB_cases h3 with e | ⟨r, e⟩
    · rw [e, List.drop_length, List.append_nil]
    · rw [e, List.drop_left]
  unfold moveS
  rw [hin, h1, he, h2]
  rfl
theorem move_same {s f : ByteArray} (h : inB f.data.toList s.data.toList = true) : moveS s f f = s := by
  obtain ⟨h1, h2, h3⟩ := inB_parts h
  have he : f ++ s.extract f.size s.size = s := by
    apply ba_ext
    rw [data_app, drop_size]
    rcases belowB_cases h3 with e | ⟨r, e⟩
    · rw [e, List.drop_length, List.append_nil]
    · rw [e, List.drop_left]
  unfold moveS
  rw [h, h1, he, h2]
  rfl
theorem size_move (s f t : ByteArray) : (moveS s f t).size ≤ s.size + t.size := by
  unfold moveS
  split
  · simp; omega
  · exact Nat.zero_le _
/-- What FnPathMove asks of what was moved. -/
theorem fnPathMove_facts {s f t : ByteArray} (hne : ¬ (moveS s f t).toList = []) :
    pathB (moveS s f t).data.toList = true ∧ inB t.data.toList (moveS s f t).data.toList = true ∧ moveS (moveS s f t) t f = s ∧ moveS s f f = s := by
  by_cases hc : (inB f.data.toList s.data.toList && pathB t.data.toList && pathB (t ++ s.extract f.size s.size).data.toList) = true
  · have e : moveS s f t = t ++ s.extract f.size s.size := by unfold moveS; rw [if_pos hc]
    simp only [Bool.and_eq_true] at hc
    obtain ⟨m1, m2⟩ := move_back hc.1.1 hc.1.2 hc.2
    rw [e]
    exact ⟨hc.2, m1, m2, move_same hc.1.1⟩
  · have e : moveS s f t = ⟨#[]⟩ := by unfold moveS; rw [if_neg hc]
    rw [e] at hne
    exact absurd empty_toList hne
end Go.Proofs.YtfphpggjcljliaaGreat

/- What is in a place of a tree is there only if the place is. -/
namespace Go.Proofs.YtfphpggjcljliaaGreat
open Go.RowKit Go.Shelf

theorem there_mem {es : List Ent} {x : Ent} (h : Up es) (hx : x ∈ es) : thereE es x.path = true ∧ entFn es (placeE es x.path) = x := by
  obtain ⟨i, hi⟩ := List.getElem?_of_mem hx
  obtain ⟨hil, he⟩ := List.getElem?_eq_some_iff.1 hi
  have hp : placeE es x.path = i := place_of es x.path i (Nat.le_of_lt hil) (fun j y hj hy => by
      obtain ⟨hjl, hyj⟩ := List.getElem?_eq_some_iff.1 hy
      have := List.pairwise_iff_getElem.1 h j i hjl hil hj
      rw [hyj, he] at this; exact this) (fun y hy => by rw [hi] at hy; cases hy; exact lt_irr _)
  refine ⟨?_, ?_⟩
  · unfold thereE; rw [hp, hi]; exact (eqS_iff _ _).2 rfl
  · rw [hp]; exact entFn_get hi
theorem tree_dir {es : List Ent} {x : Ent} (h : treeB es = true) (hx : x ∈ es) : dirE es (upS x.path) = true := by
  unfold treeB at h
  simp only [Bool.and_eq_true] at h
  obtain ⟨i, hi⟩ := List.getElem?_of_mem hx
  have := List.all_eq_true.1 h.1.2 i (List.mem_range.2 (List.getElem?_eq_some_iff.1 hi).1)
  rwa [entFn_get hi] at this
theorem ent_pathB {e : Ent} (h : entB e = true) : pathB e.path.data.toList = true := by
  unfold entB at h; simp only [Bool.and_eq_true] at h; exact h.1
theorem in_there {es : List Ent} {p : ByteArray} (h : treeB es = true) : ∀ (n : Nat) (e : Ent), e ∈ es → e.path.size ≤ n → inB p.data.toList e.path.data.toList = true → thereE es p = true
  | n, e, he, hn, hin => by
    by_cases hs : e.path.data.toList = p.data.toList
    · have : e.path = p := by
        apply ByteArray.ext; exact Array.ext' hs
      subst this
      exact (there_mem (asc_up (tree_asc h)) he).1
    · obtain ⟨h1, h2, _⟩ := in_up hin hs
      have hpb := ent_pathB (tree_all h e he)
      have hup : (upS e.path).data.toList = e.path.data.toList.take (lastIx 47 e.path.data.toList).toNat := by
        rw [← ent_path (tree_all h e he)]; exact up_some hpb h1
      have hd := tree_dir h he
      have hne : (upS e.path).toList.isEmpty = false := by
        rw [Lib.toList_data, hup]
        have := pathB_ne _ (inB_parts h2).2.1
        simpa using this
      unfold dirE at hd
      rw [hne, Bool.false_or, Bool.and_eq_true] at hd
      obtain ⟨x, hx, hxp⟩ := there_get hd.1
      have hlt : (upS e.path).size < e.path.size := by
        have hll := lastIx_get 47 e.path.data.toList h1
        have hl2 := (List.getElem?_eq_some_iff.1 hll).1
        rw [Lib.size_eq, Lib.size_eq, hup, List.length_take]; omega
      match n with
      | 0 => omega
      | n + 1 => exact in_there h n x (List.mem_of_getElem? hx) (by rw [hxp]; omega) (by rw [hxp, hup]; exact h2)
theorem left_none {es : List Ent} {p : ByteArray} (h : treeB es = true) (ht : thereE es p = false) : leftE p es = es := by
  unfold leftE
  rw [List.filter_eq_self]
  intro e he
  cases hi : inB p.data.toList e.path.data.toList
  · rfl
  · rw [in_there h _ e he (Nat.le_refl _) hi] at ht; cases ht
theorem left_drop {es : List Ent} {p : ByteArray} (h : treeB es = true) (ht : thereE es p = true) : leftE p es = dropB p es := by
  obtain ⟨x, hx, hxp⟩ := there_get ht
  have hp : pathB p.data.toList = true := by rw [← hxp]; exact ent_pathB (tree_ent h hx)
  unfold leftE dropB
  apply List.filter_congr
  intro e he
  unfold inB
  rw [hp, ent_pathB (tree_all h e he)]
  rfl

def dropR (p : ByteArray) (es : List Ent) : List Ent := leftE p (keptE es)
def dropOk (p : ByteArray) (es : List Ent) : Bool := treeB es && thereE es p

end Go.Proofs.YtfphpggjcljliaaGreat

/- The way from a walk to a row: what lay below is as it was. -/
namespace Go.Proofs.YtfphpggjcljliaaGreat
open Go.ChangeShapes Go.WideShapes Go.ChangeAt Go.RowKit

theorem own : ownKnob Tryz.prog.godebug = none := by kernel_rfl
theorem laidOut : laidOutB Tryz.prog = true := by kernel_rfl

theorem post_below {H : Type} {enc : TypeId × Value → H} {P : Program} {f : Func} {s : ChangeSpec} {apart fresh handsOn : Bool} {W W' : World} {args : Array Value} {v : Value} {ds gs : List (DataW H)} {before pa pv : List MemPlace}
    (hW : DataW.Whole enc P f.params.toList s.vars apart W args.toList ds gs before)
    (hres : ∀ (b : Nat) (sp : Nat → Bool) (hd : Bool), DataW.TrodAll enc P W' b sp hd f.resultTypes.toList (v.resultList f.resultTypes.size) (s.fn H (ds ++ gs)).results [])
    (hargs : DataW.TrodAll enc P W' 0 (fun b => decide (b < W.heap.size)) true f.params.toList args.toList (s.fn H (ds ++ gs)).args pa)
    (hvars : DataW.TrodVars enc P W' (fun b => decide (b < W.heap.size)) s.vars (s.fn H (ds ++ gs)).vars pv)
    (hps : before = pa ++ pv) (hB : Below W.heap.size W W') :
    s.post enc P f apart fresh handsOn false W args v W' := by
  refine ⟨ds, gs, before, [], pa, pv, hW, hres _ _ _, hargs, hvars, World.keptBut_mono (fun p hp => ⟨hp, ?_⟩) (hB.frame (· ∈ before)), fun h => by cases h⟩
  rw [hps, List.mem_append] at hp
  exact Or.inr hp
end Go.Proofs.YtfphpggjcljliaaGreat

/- What a row of entries that is handed over holds. -/
namespace Go.Proofs.YtfphpggjcljliaaGreat
open Go.ChangeShapes Go.WideShapes Go.ChangeAt Go.RowKit

theorem list_of {p : Nat → Ent → Prop} : ∀ n, (∀ i, i < n → ∃ e, p i e) → ∃ es : List Ent, es.length = n ∧ ∀ (i : Nat) e, es[i]? = some e → p i e
  | 0, _ => ⟨[], rfl, fun i e h => by simp at h⟩
  | n + 1, h => by
    obtain ⟨es, hl, hp⟩ := list_of n (fun i hi => h i (by omega))
    obtain ⟨e, he⟩ := h n (by omega)
    refine ⟨es ++ [e], by simp [hl], fun i x hx => ?_⟩
    rcases Nat.lt_or_ge i es.length with hi | hi
    · rw [List.getElem?_append_left hi] at hx; exact hp i x hx
    · rw [List.getElem?_append_right hi] at hx
      have : i - es.length = 0 := by
        rcases Nat.eq_zero_or_pos (i - es.length) with h0 | h0
        · exact h0
        · rw [List.getElem?_eq_none (by simp; omega)] at hx; cases hx
      rw [this] at hx
      simp at hx
      subst hx
      have : i = n := by omega
      rw [this]; exact he

theorem add_plainE (b o n : Nat) : (⟨b, o, none⟩ : Addr).add n = ⟨b, o + n, none⟩ := by simp [Addr.add]

end Go.Proofs.YtfphpggjcljliaaGreat

/- For every tree the program's TreeOk answers as its model does (the walk). -/
namespace Go.Proofs.YtfphpggjcljliaaGreat
open Go.ChangeShapes Go.WideShapes Go.ChangeAt Go.RowKit Go.Shelf

set_option maxRecDepth 100000 in
set_option maxHeartbeats 2000000 in
theorem treeOk_any (es : List Ent) (a : Option Addr) (cap : Nat) (w : World) (hs : smallE es) (h : EntsAt w a es) :
    Calls Tryz.prog 12 #[.slice a es.length cap] w fun x w' => x = .returned (.bool (treeB es)) ∧ Below w.heap.size w w' := by
  have H := hid (treeOf_any es a cap w hs h)
  clear hs h
  go_enter Tryz.func12, Tryz.ntmps12
  go_wp2_with (go_at_call 16; refine (unhid H).mono ?_; rintro x w1 ⟨vp, vn, rfl, ⟨t2, t3⟩, hB⟩; obtain ⟨ap, cp, rfl⟩ := ownsRow_slice t2; obtain ⟨an, cn, rfl⟩ := ownsRow_slice t3; clear t2 t3)
  go_ret
  exact ⟨rfl, hB.alloc hB.size _⟩

theorem small_of {es : List Ent} (h : es.length + totE es ≤ 1048576) : smallE es := by
  refine ⟨by omega, fun e he => ?_⟩
  have : e.path.size + e.text.size ≤ totE es := by
    exact totE_mem he
  omega

end Go.Proofs.YtfphpggjcljliaaGreat

/- Two trees in one, by the program. -/
namespace Go.Proofs.YtfphpggjcljliaaGreat
open Go.RowKit Go.Shelf

attribute [local go_sem] Oper.semAt_some

def joinTo (L : List Ent) (xs : List Ent) : List Ent := xs.foldl putT L
def stepJ (L : List Ent) (x : Ent) : Bool := !(thereE L x.path) || sameB (entFn L (placeE L x.path)) x
def okJ : List Ent → List Ent → Bool
  | _, [] => true
  | L, x :: xs => stepJ L x && okJ (putT L x) xs
theorem joinTo_snoc (L xs : List Ent) (x : Ent) : joinTo L (xs ++ [x]) = putT (joinTo L xs) x := by unfold joinTo; rw [List.foldl_append]; rfl
theorem okJ_app : ∀ (L xs ys : List Ent), okJ L (xs ++ ys) = (okJ L xs && okJ (joinTo L xs) ys)
  | L, [], ys => by simp [okJ, joinTo]
  | L, x :: xs, ys => by rw [List.cons_append, okJ, okJ, okJ_app (putT L x) xs ys, Bool.and_assoc]; rfl
theorem okJ_snoc (L xs : List Ent) (x : Ent) : okJ L (xs ++ [x]) = (okJ L xs && stepJ (joinTo L xs) x) := by rw [okJ_app]; simp [okJ]
theorem okJ_prefix {L xs ys : List Ent} (h : xs <+: ys) (hno : okJ L xs = false) : okJ L ys = false := by
  obtain ⟨zs, rfl⟩ := h
  rw [okJ_app, hno]; rfl
theorem joinTo_up {L : List Ent} (h : Up L) : ∀ xs, Up (joinTo L xs) := snoc_ind h (fun xs x ih => by rw [joinTo_snoc]; exact putT_up ih)
theorem joinTo_len (L : List Ent) : ∀ xs, (joinTo L xs).length ≤ L.length + xs.length := snoc_ind (Nat.le_refl _) (fun xs x ih => by
  rw [joinTo_snoc]
  have := putT_len (joinTo L xs) x
  simp; omega)
theorem joinTo_mem (L : List Ent) : ∀ xs x, x ∈ joinTo L xs → x ∈ L ∨ x ∈ xs := snoc_ind (fun x h => .inl h) (fun xs x ih y hy => by
  rw [joinTo_snoc] at hy
  rcases putT_mem hy with h | h
  · rcases ih y h with h | h
    · exact .inl h
    · exact .inr (List.mem_append_left _ h)
  · subst h; exact .inr (by simp))
def joinOk (es fs : List Ent) : Bool := treeB es && (treeB fs && (okJ es fs && treeB (joinTo es fs)))
def joinR (es fs : List Ent) : List Ent := if joinOk es fs then joinTo es fs else []
theorem ent_text_len {e : Ent} (h : entB e = true) : e.text.size ≤ 80 := by
  unfold entB at h
  simp only [Bool.and_eq_true] at h
  have h2 := h.2
  split at h2
  · simp only [Bool.and_eq_true] at h2
    rw [Lib.size_eq]
    have := h2.2
    simp at this
    rw [this]; simp
  · split at h2
    · simp only [Bool.and_eq_true, textB, decide_eq_true_eq] at h2
      rw [Lib.size_eq]; exact h2.2.1
    · simp only [Bool.and_eq_true] at h2
      have := pathB_size _ h2.2.2
      rw [Lib.size_eq]; omega
theorem small_all {es : List Ent} (hl : es.length ≤ 1000) (h : ∀ e ∈ es, entB e = true) : smallE es :=
  ⟨by omega, fun e he => ⟨by have := ent_path_len (h e he); omega, by have := ent_text_len (h e he); omega⟩⟩

/-- A row that does not lie between two bounds. -/
def AwayV (M M2 : Nat) (v : Value) : Prop := ∀ k, v.ownBlock = some k → k < M ∨ M2 ≤ k
/-- The boxes of what a join answers. -/
def BxJ (W : World) (N : Nat) : Prop := W.heap[N]? = some (.cells #[.slice none 0 0] 23 (0, 0)) ∧ W.heap[N + 1]? = some (.cells #[.bool false] 4 (0, 0))
theorem BxJ.keep {W W' : World} {N : Nat} (h : BxJ W N) (hk : ∀ k, k < N + 2 → W'.heap[k]? = W.heap[k]?) : BxJ W' N := ⟨(hk _ (by omega)).trans h.1, (hk _ (by omega)).trans h.2⟩
theorem BxJ.grown {W W' : World} {row : Option Nat} {N : Nat} (h : BxJ W N) (hg : W.grownBy W' row) (hr : ∀ r, row = some r → ∃ o : Obj, W.heap[r]? = some o ∧ o.isCells = false) : BxJ W' N := ⟨cells_grown hg hr h.1, cells_grown hg hr h.2⟩
theorem RowsV.below {W W' : World} {N bt : Nat} {vp vn : Value} {es : List Ent} (h : RowsV W N bt vp vn es) (hb : Below W.heap.size W W') : RowsV W' N bt vp vn es :=
  ⟨(hb.block bt (Array.getElem?_eq_some_iff.1 h.1).1).trans h.1, ownsRow_kept h.2.1 (fun g e => hb.block g (h.2.1.lt g e).2), ownsRow_kept h.2.2 (fun g e => hb.block g (h.2.2.lt g e).2)⟩
theorem RowsV.grown {W W' : World} {row : Option Nat} {N bt : Nat} {vp vn : Value} {es : List Ent} (h : RowsV W N bt vp vn es) (hg : W.grownBy W' row) (hr : ∀ r, row = some r → ∃ o : Obj, W.heap[r]? = some o ∧ o.isCells = false) : RowsV W' N bt vp vn es :=
  ⟨cells_grown hg hr h.1, row_grown hg hr h.2.1, row_grown hg hr h.2.2⟩
theorem RowsV.at {W : World} {N bt : Nat} {vp vn : Value} {es : List Ent} (h : RowsV W N bt vp vn es) : TreeAt W N bt es := ⟨vp, vn, h.1, h.2.1, h.2.2⟩

end Go.Proofs.YtfphpggjcljliaaGreat

/- Whether a place of a tree may be moved, by the program. -/
namespace Go.Proofs.YtfphpggjcljliaaGreat
open Go.RowKit Go.Shelf

def mayB (es : List Ent) (p q : ByteArray) : Bool := thereE es p && (!thereE es q && (pathB q.data.toList && (!inB p.data.toList q.data.toList && dirE es (pathUpS q))))

end Go.Proofs.YtfphpggjcljliaaGreat

/- What is moved in a tree, by the program. -/
namespace Go.Proofs.YtfphpggjcljliaaGreat
open Go.RowKit Go.Shelf

attribute [local go_sem] Oper.semAt_some

def placeM (p q : ByteArray) (e : Ent) : ByteArray := if inB p.data.toList e.path.data.toList then moveS e.path p q else e.path
def mvE (p q : ByteArray) (e : Ent) : Ent := { e with path := placeM p q e }
def moveAll (p q : ByteArray) (es : List Ent) : Bool := es.all fun e => !(placeM p q e).toList.isEmpty
def moveOk (p q : ByteArray) (es : List Ent) : Bool := mayB (keptE es) p q && moveAll p q (keptE es)
def moveR (p q : ByteArray) (es : List Ent) : List Ent := if moveOk p q es then putAll ((keptE es).map (mvE p q)) else keptE es
theorem mv_nodeV (p q : ByteArray) (e : Ent) : nodeV (mvE p q e) = nodeV e := rfl
theorem empty_of {s : ByteArray} (h : s.toList.isEmpty = true) : s = ⟨#[]⟩ := by
  rw [Lib.toList_data] at h
  apply ByteArray.ext
  exact Array.ext' (by simpa using h)
theorem move_pathB {s f t : ByteArray} (h : (moveS s f t).toList.isEmpty = false) : pathB (moveS s f t).data.toList = true := by
  unfold moveS at h ⊢
  split at h
  · rename_i hc
    rw [if_pos hc]
    simp only [Bool.and_eq_true] at hc
    exact hc.2
  · simp [Lib.toList_data] at h
theorem mv_ok {p q : ByteArray} {e : Ent} (he : entB e = true) (hm : (placeM p q e).toList.isEmpty = false) : entB (mvE p q e) = true := by
  have hp : pathB (placeM p q e).data.toList = true := by
    unfold placeM at hm ⊢
    cases hi : inB p.data.toList e.path.data.toList
    · exact ent_pathB he
    · rw [hi] at hm; exact move_pathB hm
  unfold entB at he ⊢
  simp only [Bool.and_eq_true] at he ⊢
  exact ⟨hp, he.2⟩
/-- The boxes of a move: from, to, what is answered. -/
def BxM (W : World) (N : Nat) (p q : ByteArray) : Prop := W.heap[N]? = some (.cells #[.string p] 9 (0, 0)) ∧ W.heap[N + 1]? = some (.cells #[.string q] 9 (0, 0)) ∧ W.heap[N + 1 + 1]? = some (.cells #[.slice none 0 0] 23 (0, 0)) ∧ W.heap[N + 1 + 1 + 1]? = some (.cells #[.bool false] 4 (0, 0))
theorem BxM.keep {W W' : World} {N : Nat} {p q : ByteArray} (h : BxM W N p q) (hk : ∀ k, k < N + 4 → W'.heap[k]? = W.heap[k]?) : BxM W' N p q :=
  ⟨(hk _ (by omega)).trans h.1, (hk _ (by omega)).trans h.2.1, (hk _ (by omega)).trans h.2.2.1, (hk _ (by omega)).trans h.2.2.2⟩
theorem BxM.grown {W W' : World} {row : Option Nat} {N : Nat} {p q : ByteArray} (h : BxM W N p q) (hg : W.grownBy W' row) (hr : ∀ r, row = some r → ∃ o : Obj, W.heap[r]? = some o ∧ o.isCells = false) : BxM W' N p q :=
  ⟨cells_grown hg hr h.1, cells_grown hg hr h.2.1, cells_grown hg hr h.2.2.1, cells_grown hg hr h.2.2.2⟩

end Go.Proofs.YtfphpggjcljliaaGreat

/- Entries put by path, by the model. -/
namespace Go.Proofs.YtfphpggjcljliaaGreat
open Go.RowKit Go.Shelf

theorem ownsRow_some {W : World} {N n size : Nat} {v : Value} {e : TypeId} {xs : List Value} (h : W.ownsRow N e size v n xs) (hn : 0 < n) : ∃ g cap, v = .slice (some ⟨g, 0, none⟩) n cap := by
  rcases h.2 with ⟨rfl, h0⟩ | ⟨g, cap, cur, rfl, _⟩
  · omega
  · exact ⟨g, cap, rfl⟩
def sortL (xs : List Ent) : List Ent := xs.foldl insAt []
theorem sortL_snoc (xs : List Ent) (x : Ent) : sortL (xs ++ [x]) = insAt (sortL xs) x := by unfold sortL; rw [List.foldl_append]; rfl
theorem insAt_len (es : List Ent) (e : Ent) : (insAt es e).length = es.length + 1 := by unfold insAt; have := placeE_le es e.path; simp; omega
theorem sortL_len : ∀ xs, (sortL xs).length = xs.length := snoc_ind rfl (fun xs x ih => by rw [sortL_snoc, insAt_len, ih]; simp)

end Go.Proofs.YtfphpggjcljliaaGreat

/- Two trees in one, by the model. -/
namespace Go.Proofs.YtfphpggjcljliaaGreat
open Go.RowKit Go.Shelf

/-- Whether two entries are the same, as the language compares them. -/
def eqV (x y : Ent) : Bool := x.path == y.path && (x.kind == y.kind && (x.mode == y.mode && x.text == y.text))
theorem beqS_iff (a b : ByteArray) : (a == b) = true ↔ a = b := by
  rw [beq_toListBytes]
  exact eqS_iff a b
theorem in_str (d : Nat) (a b : ByteArray) (w : World) : (Op.equalIn (d + 1) 9 (.string a) (.string b)).run Tryz.prog w = .ok (a == b) w := by
  simp [Op.equalIn, run_underlying Tryz.underlying9]
theorem in_ent (d : Nat) (x y : Ent) (w : World) : (Op.equalIn (d + 1 + 1) 30 (.agg x.vals) (.agg y.vals)).run Tryz.prog w = .ok (eqV x y) w := by
  obtain ⟨p, k, m, t⟩ := x
  obtain ⟨p2, k2, m2, t2⟩ := y
  have h0 : (program).run Tryz.prog w = .ok Tryz.prog w := by kernel_rfl
  have h1 : Tryz.prog.stoodInHeld 30 = false := by kernel_rfl
  have e0 : ∀ (p : ByteArray) (k m : Int) (t : ByteArray), (part 9 #[.string p, .int .i64 k, .int .i64 m, .string t] 0).run Tryz.prog w = .ok (.string p) w := fun p k m t => by kernel_rfl
  have e1 : ∀ (p : ByteArray) (k m : Int) (t : ByteArray), (part 3 #[.string p, .int .i64 k, .int .i64 m, .string t] 1).run Tryz.prog w = .ok (.int .i64 k) w := fun p k m t => by kernel_rfl
  have e2 : ∀ (p : ByteArray) (k m : Int) (t : ByteArray), (part 3 #[.string p, .int .i64 k, .int .i64 m, .string t] 2).run Tryz.prog w = .ok (.int .i64 m) w := fun p k m t => by kernel_rfl
  have e3 : ∀ (p : ByteArray) (k m : Int) (t : ByteArray), (part 9 #[.string p, .int .i64 k, .int .i64 m, .string t] 3).run Tryz.prog w = .ok (.string t) w := fun p k m t => by kernel_rfl
  unfold Ent.vals eqV
  unfold Op.equalIn
  simp only [Sem.run_bind, run_underlying Tryz.underlying30, Result.andThen_ok, h0, h1, Bool.false_eq_true, if_false, List.forIn_toArray, List.forIn_cons, List.forIn_nil]
  rw [if_pos (by decide)]
  simp only [Sem.run_bind, e0, in_str, Result.andThen_ok]
  cases (p == p2)
  · simp [Sem.run_pure]
  · simp only [Bool.not_true, Bool.false_eq_true, if_false, Sem.run_pure, Result.andThen_ok]
    rw [if_pos (by decide)]
    simp only [Sem.run_bind, e1, in_int, Result.andThen_ok]
    cases (k == k2)
    · simp [Sem.run_pure]
    · simp only [Bool.not_true, Bool.false_eq_true, if_false, Sem.run_pure, Result.andThen_ok]
      rw [if_pos (by decide)]
      simp only [Sem.run_bind, e2, in_int, Result.andThen_ok]
      cases (m == m2)
      · simp [Sem.run_pure]
      · simp only [Bool.not_true, Bool.false_eq_true, if_false, Sem.run_pure, Result.andThen_ok]
        rw [if_pos (by decide)]
        simp only [Sem.run_bind, e3, in_str, Result.andThen_ok]
        cases (t == t2) <;> simp [Sem.run_pure]
theorem ne_ents (x y : Ent) (w : World) : (binOp .neq 30 (.agg x.vals) (.agg y.vals)).run Tryz.prog w = .ok (.bool (!eqV x y)) w := by
  simp only [binOp]
  simp [Op.equal, Op.maxDepth, in_ent 9998]
theorem same_eq {x old : Ent} (hx : entB x = true) (ho : entB old = true) (hp : old.path = x.path) : sameB old x = (old.kind == 1 && eqV x old) := by
  unfold sameB eqV
  cases hk : (old.kind == 1)
  · rfl
  · have hk1 : old.kind = 1 := by simpa using hk
    have hto : old.text.data.toList = [] := by unfold entB at ho; rw [if_pos hk1] at ho; simp only [Bool.and_eq_true] at ho; have := ho.2.2; simpa using this
    rw [hp, hk1]
    cases hkx : (x.kind == 1)
    · simp
    · have hx1 : x.kind = 1 := by simpa using hkx
      have htx : x.text.data.toList = [] := by unfold entB at hx; rw [if_pos hx1] at hx; simp only [Bool.and_eq_true] at hx; have := hx.2.2; simpa using this
      have htt : x.text = old.text := ByteArray.ext (Array.ext' (by rw [htx, hto]))
      have hm : (old.mode == x.mode) = (x.mode == old.mode) := by rw [Bool.eq_iff_iff, beq_iff_eq, beq_iff_eq]; exact ⟨fun h => h.symm, fun h => h.symm⟩
      rw [htt, hm, (beqS_iff _ _).2 rfl, (beqS_iff _ _).2 rfl]
      simp
theorem eqV_eq {x y : Ent} (h : eqV x y = true) : x = y := by
  unfold eqV at h
  simp only [Bool.and_eq_true] at h
  obtain ⟨h1, h2, h3, h4⟩ := h
  have e1 := (beqS_iff _ _).1 h1
  have e4 := (beqS_iff _ _).1 h4
  have e2 := eq_of_beq h2
  have e3 := eq_of_beq h3
  cases x; cases y; dsimp only at e1 e2 e3 e4; subst e1 e2 e3 e4; rfl
theorem put_same {L : List Ent} {x : Ent} (hth : thereE L x.path = true) (he : entFn L (placeE L x.path) = x) : putT L x = L := by
  obtain ⟨old, hold, _⟩ := there_get hth
  rw [entFn_get hold] at he
  subst he
  unfold putT
  rw [hth, if_pos rfl]
  apply List.ext_getElem?
  intro i
  rw [List.getElem?_set]
  split
  · rename_i hi
    subst hi
    rw [if_pos (List.getElem?_eq_some_iff.1 hold).1, hold]
  · rfl
theorem put_new {L : List Ent} {x : Ent} (hth : thereE L x.path = false) : putT L x = insAt L x := by unfold putT; rw [hth]; rfl
def joinL (es fs : List Ent) : List Ent := if okJ es fs then joinTo es fs else []

end Go.Proofs.YtfphpggjcljliaaGreat

/- Whether two rows of entries are the same, as the laws ask it. -/
namespace Go.Proofs.YtfphpggjcljliaaGreat
open Go.RowKit

theorem eqV_self (x : Ent) : eqV x x = true := by unfold eqV; simp [(beqS_iff _ _).2]
theorem eqV_is (x y : Ent) : eqV x y = eqE x y := by
  rw [Bool.eq_iff_iff]
  constructor
  · intro h; rw [eqV_eq h]; exact eqE_self y
  · intro h; rw [(eqE_iff x y).1 h]; exact eqV_self y
theorem eqEs_iff (xs ys : List Ent) : eqEs xs ys = true ↔ xs = ys := by
  constructor
  · intro h
    unfold eqEs at h
    simp only [Bool.and_eq_true, decide_eq_true_eq, List.all_eq_true, List.mem_range] at h
    apply List.ext_getElem?
    intro i
    by_cases hi : i < xs.length
    · have h2 := (eqE_iff _ _).1 (h.2 i hi)
      have hi2 : i < ys.length := by omega
      rw [entFn_get (List.getElem?_eq_getElem hi), entFn_get (List.getElem?_eq_getElem hi2)] at h2
      rw [List.getElem?_eq_getElem hi, List.getElem?_eq_getElem hi2, h2]
    · rw [List.getElem?_eq_none (by omega), List.getElem?_eq_none (by omega)]
  · rintro rfl; exact eqEs_self xs

set_option maxRecDepth 100000 in
set_option maxHeartbeats 4000000 in
theorem jsTree_any (xs ys : List Ent) (a b : Option Addr) (cap cap2 : Nat) (w : World) (hx : xs.length ≤ maxLen) (hy : ys.length ≤ maxLen) (h : EntsAt w a xs) (h2 : EntsAt w b ys) :
    Calls Tryz.prog 7 #[.slice a xs.length cap, .slice b ys.length cap2] w fun r w' => r = .returned (.bool (eqEs xs ys)) ∧ Below w.heap.size w w' := by
  unfold maxLen at hx hy
  by_cases hl : xs.length = ys.length
  · have hl' : ((xs.length : Int) != (ys.length : Int)) = false := by rw [hl]; simp
    have hE : eqEs xs ys = (List.range xs.length).all fun i => eqE (entFn xs i) (entFn ys i) := by unfold eqEs; rw [decide_eq_true hl]; rfl
    have E := hid hE
    have HL := hid hl
    clear hE
    go_enter Tryz.func7, Tryz.ntmps7
    clear hl
    go_wp2_with fail
    go_loopw [5] (fun i wr => ∃ k : Nat, k ≤ xs.length ∧ i = .int .i64 k ∧ Hid ((List.range k).all (fun i => eqE (entFn xs i) (entFn ys i)) = true) ∧ Below w.heap.size w wr) (fun i _ => xs.length - (intOf i).toNat)
    case atStart => exact ⟨0, Nat.zero_le _, rfl, hid rfl, Below.refl _ _⟩
    case round =>
      obtain ⟨k, hk, rfl, hall, hB⟩ := hrel
      by_cases hlt : k < xs.length
      · have hlt2 : k < ys.length := by rw [← unhid HL]; exact hlt
        obtain ⟨e, he⟩ : ∃ e, xs[k]? = some e := ⟨xs[k], List.getElem?_eq_getElem hlt⟩
        obtain ⟨e2, he2⟩ : ∃ e, ys[k]? = some e := ⟨ys[k], List.getElem?_eq_getElem hlt2⟩
        obtain ⟨bb, o, rfl, hbl, hc⟩ := h.get (by intro e; subst e; simp at hlt)
        obtain ⟨bb2, o2, rfl, hbl2, hc2⟩ := h2.get (by intro e; subst e; simp at hlt2)
        obtain ⟨c0, c1, c2, c3⟩ := ((hc k e he).below hB hbl)
        obtain ⟨d0, d1, d2, d3⟩ := ((hc2 k e2 he2).below hB hbl2)
        have HS := hid (show entFn xs k = e from entFn_get he)
        have HS2 := hid (show entFn ys k = e2 from entFn_get he2)
        have HB := hid hB
        have HH := hid (And.intro h (And.intro h2 (And.intro hc hc2)))
        have hne := fun w => ne_ents e e2 w
        rw [eqV_is] at hne
        unfold Ent.vals at hne
        clear hc hc2 hB he he2 h h2
        cases hq : eqE e e2
        · rw [hq] at hne
          go_wp2_with fail
          go_quiet (fail)
          go_wp2_with fail
          go_ret
          refine ⟨?_, (unhid HB).trans (drewN_below _ _)⟩
          have : (List.range xs.length).all (fun i => eqE (entFn xs i) (entFn ys i)) = false := List.all_eq_false.2 ⟨k, List.mem_range.2 hlt, by rw [unhid HS, unhid HS2, hq]; simp⟩
          rw [unhid E, this]; rfl
        · rw [hq] at hne
          go_wp2_with fail
          go_quiet (fail)
          go_wp2_with fail
          go_roundw
          case rel => exact ⟨k + 1, by omega, by go_num, hid (by rw [List.range_succ, List.all_append, unhid hall]; simp [unhid HS, unhid HS2, hq]), (unhid HB).trans (drewN_below _ _)⟩
          case measure => simp [intOf]; omega
      · have e : k = xs.length := by omega
        subst e
        go_wp2_with fail
        go_ret
        exact ⟨by rw [unhid E, unhid hall]; rfl, hB⟩
  · have hl' : ((xs.length : Int) != (ys.length : Int)) = true := by rw [bne_iff_ne]; omega
    have E := hid (show eqEs xs ys = false by unfold eqEs; rw [decide_eq_false hl]; rfl)
    go_enter Tryz.func7, Tryz.ntmps7
    clear hl
    go_wp2_with fail
    go_ret
    exact ⟨by rw [unhid E]; rfl, Below.refl _ _⟩
end Go.Proofs.YtfphpggjcljliaaGreat

/- The bytes that a law is handed, read. -/
namespace Go.Proofs.YtfphpggjcljliaaGreat
open Go.ChangeShapes Go.WideShapes Go.ChangeAt Go.RowKit

theorem cells5 : Tryz.prog.cellsOf 5 = 1 := by kernel_rfl

theorem code_of {H : Type} {enc : TypeId × Value → H} {W : World} {a0 : Option Addr} {len cap : Nat} {d0 : DataW H} {p0 : List MemPlace}
    (h0 : DataW.Trod enc Tryz.prog W 0 (fun _ => true) true 22 (.slice a0 len cap) d0 p0) (hlt : ∀ x ∈ p0, x.block < W.heap.size) : Code W W.heap.size a0 len ∧ len ≤ cap := by
  obtain ⟨fuel, hf⟩ := h0
  rcases open_ints Tryz.underlying22 Tryz.underlying5 cells5 hf with ⟨hcs, hx⟩ | ⟨a, len', cap', zs, hcs, _, hl, hm, hz, hx, hcell, hwz⟩
  · simp [Value.cells] at hcs
    obtain ⟨rfl, rfl, rfl⟩ := hcs
    exact ⟨.inl rfl, Nat.le_refl _⟩
  · simp [Value.cells] at hcs
    obtain ⟨rfl, rfl, rfl⟩ := hcs
    simp only [Prod.mk.injEq] at hx
    obtain ⟨rfl, rfl⟩ := hx
    simp only [if_true] at hz
    refine ⟨?_, hl⟩
    by_cases hl0 : len = 0
    · exact .inl hl0
    · obtain ⟨b, off, spot⟩ := a
      have hspot : spot = none := by simpa [Addr.add] using World.cell?_spot (hcell 0 (by omega))
      subst hspot
      have hbW : b < W.heap.size := hlt (.cell b off) (MemPlace.mem_row.2 ⟨0, by omega, by simp⟩)
      refine .inr ⟨b, off, rfl, hbW, fun k hk => ?_⟩
      have hk' : k < zs.length := by omega
      have hw := hwz (zs.getD k 0) (by simp [List.getD, List.getElem?_eq_getElem hk'])
      have hc := hcell k hk'
      rw [add_plain] at hc
      generalize zs.getD k 0 = z at hw hc
      have hx : 0 ≤ z ∧ z ≤ 255 := by simpa [Lit.wf, IntKind.min, IntKind.max, IntKind.signed, IntKind.bits] using hw
      exact ⟨z.toNat, by omega, by rw [hc, Int.toNat_of_nonneg hx.1]⟩
end Go.Proofs.YtfphpggjcljliaaGreat

/- What a law over drawn trees keeps from call to call. -/
namespace Go.Proofs.YtfphpggjcljliaaGreat
open Go.RowKit

/-- Nothing elder has changed, these rows are read, these entries lie in boxes. -/
def Kb (w : World) (B : Nat) (W : World) (l : List (Option Addr × List Ent)) (m : List (Nat × Ent)) : Prop := Below w.heap.size w W ∧ B ≤ W.heap.size ∧ (∀ x ∈ l, EntsAt W x.1 x.2) ∧ ∀ x ∈ m, OneAt W x.1 x.2
theorem Kb.step {w W W' : World} {B : Nat} {l : List (Option Addr × List Ent)} {m : List (Nat × Ent)} (h : Kb w B W l m) (hb : Below W.heap.size W W') : Kb w B W' l m :=
  ⟨h.1.trans (hb.mono h.1.size), Nat.le_trans h.2.1 hb.size, fun x hx => (h.2.2.1 x hx).below hb, fun x hx => (hb.block _ (h.2.2.2 x hx).lt).trans (h.2.2.2 x hx)⟩
theorem Kb.push {w W W' : World} {B c : Nat} {a : Option Addr} {L : List Ent} {l : List (Option Addr × List Ent)} {m : List (Nat × Ent)} (h : Kb w B W l m) (ho : W'.ownsRow W.heap.size 30 4 (.slice a L.length c) L.length (valsOf L)) (hb : Below W.heap.size W W') : Kb w B W' ((a, L) :: l) m := by
  have h' := h.step hb
  refine ⟨h'.1, h'.2.1, fun x hx => ?_, h'.2.2.2⟩
  rcases List.mem_cons.1 hx with rfl | hx
  · obtain ⟨a1, c1, hv, hr⟩ := rowIn_of_owns ho
    cases hv
    exact hr.at
  · exact h'.2.2.1 x hx
theorem Kb.box {w W : World} {B : Nat} {l : List (Option Addr × List Ent)} {m : List (Nat × Ent)} (h : Kb w B W l m) (e : Ent) : Kb w B (W.alloc (.cells #[.string e.path, .int .i64 e.kind, .int .i64 e.mode, .string e.text] 30)) l ((W.heap.size, e) :: m) := by
  have h' := h.step ((Below.refl _ W).alloc (Nat.le_refl _) (.cells #[.string e.path, .int .i64 e.kind, .int .i64 e.mode, .string e.text] 30))
  refine ⟨h'.1, h'.2.1, h'.2.2.1, fun x hx => ?_⟩
  rcases List.mem_cons.1 hx with rfl | hx
  · exact World.alloc_heap_new _ _
  · exact h'.2.2.2 x hx
theorem Kb.at {w W : World} {B : Nat} {a : Option Addr} {L : List Ent} {l : List (Option Addr × List Ent)} {m : List (Nat × Ent)} (h : Kb w B W l m) (hx : (a, L) ∈ l) : EntsAt W a L := h.2.2.1 _ hx
theorem Kb.one {w W : World} {B k : Nat} {e : Ent} {l : List (Option Addr × List Ent)} {m : List (Nat × Ent)} (h : Kb w B W l m) (hx : (k, e) ∈ m) : OneAt W k e := h.2.2.2 _ hx
theorem Kb.unbox {w W : World} {B : Nat} {l : List (Option Addr × List Ent)} {m : List (Nat × Ent)} {x : Nat × Ent} (h : Kb w B W l (x :: m)) : Kb w B W l m := ⟨h.1, h.2.1, h.2.2.1, fun y hy => h.2.2.2 y (List.mem_cons_of_mem _ hy)⟩
theorem Kb.unrow {w W : World} {B : Nat} {l : List (Option Addr × List Ent)} {m : List (Nat × Ent)} {x : Option Addr × List Ent} (h : Kb w B W (x :: l) m) : Kb w B W l m := ⟨h.1, h.2.1, fun y hy => h.2.2.1 y (List.mem_cons_of_mem _ hy), h.2.2.2⟩
theorem ents_some {W : World} {g : Nat} {es : List Ent} (h : EntsAt W (some ⟨g, 0, none⟩) es) : ∀ (i : Nat) e, es[i]? = some e → EntAt W g (0 + i * 4) e := by
  rcases h with rfl | ⟨b, o, hb, _, hc⟩
  · intro i e hi; simp at hi
  · cases hb; exact hc
theorem Kb.ents {w W : World} {B g : Nat} {es : List Ent} {l : List (Option Addr × List Ent)} {m : List (Nat × Ent)} (h : Kb w B W l m) (hx : (some ⟨g, 0, none⟩, es) ∈ l) : ∀ (i : Nat) e, es[i]? = some e → EntAt W g (0 + i * 4) e := ents_some (h.at hx)
theorem Kb.lt {w W : World} {B g : Nat} {l : List (Option Addr × List Ent)} {m : List (Nat × Ent)} (h : Kb w B W l m) (hg : g < B) : g < W.heap.size := Nat.lt_of_lt_of_le hg h.2.1
theorem kb_drawn {w W : World} {g c : Nat} {es : List Ent} (h : Drawn w W (.slice (some ⟨g, 0, none⟩) es.length c) es) : Kb w W.heap.size W [(some ⟨g, 0, none⟩, es)] [] ∧ g < W.heap.size ∧ es.length ≤ c := by
  obtain ⟨g', c', hv, ho⟩ := h.v
  cases hv
  obtain ⟨h1, h2, h3, h4⟩ := TreeV.ents ho
  refine ⟨⟨h.below, Nat.le_refl _, fun x hx => ?_, fun x hx => by cases hx⟩, h2, h4⟩
  rw [List.mem_singleton.1 hx]
  exact .inr ⟨g, 0, rfl, h2, h1⟩
theorem putR_len {es : List Ent} {e : Ent} : (putR es e).length ≤ 1000 := by
  unfold putR
  split
  · rename_i h
    have := putL_len es e
    have := tree_16 h
    omega
  · simp
theorem dropR_len {p : ByteArray} {es : List Ent} : (dropR p es).length ≤ 1000 := by
  have h := (kept_asc es).2
  unfold dropR leftE
  exact Nat.le_trans (List.length_filter_le _ _) (by omega)
theorem eq_ents (x y : Ent) (w : World) : (binOp .eql 30 (.agg x.vals) (.agg y.vals)).run Tryz.prog w = .ok (.bool (eqV x y)) w := by
  simp only [binOp]
  simp [Op.equal, Op.maxDepth, in_ent 9998]
theorem ne_same (p : ByteArray) (k m : Int) (t : ByteArray) (w : World) : (binOp .neq 30 (.agg #[.string p, .int .i64 k, .int .i64 m, .string t]) (.agg #[.string p, .int .i64 k, .int .i64 m, .string t])).run Tryz.prog w = .ok (.bool false) w := by
  have := ne_ents ⟨p, k, m, t⟩ ⟨p, k, m, t⟩ w
  rw [eqV_self] at this
  exact this
theorem eq_same (p : ByteArray) (k m : Int) (t : ByteArray) (w : World) : (binOp .eql 30 (.agg #[.string p, .int .i64 k, .int .i64 m, .string t]) (.agg #[.string p, .int .i64 k, .int .i64 m, .string t])).run Tryz.prog w = .ok (.bool true) w := by
  have := eq_ents ⟨p, k, m, t⟩ ⟨p, k, m, t⟩ w
  rw [eqV_self] at this
  exact this
end Go.Proofs.YtfphpggjcljliaaGreat

/- Two trees in one: the model's answer. -/
namespace Go.Proofs.YtfphpggjcljliaaGreat
open Go.RowKit Go.Shelf

theorem joinR_len (es fs : List Ent) : (joinR es fs).length ≤ 100 := by
  unfold joinR
  split
  · rename_i h
    unfold joinOk at h
    simp only [Bool.and_eq_true] at h
    have h1 := joinTo_len es fs
    have h2 := tree_16 h.1
    have h3 := tree_16 h.2.1
    omega
  · simp

end Go.Proofs.YtfphpggjcljliaaGreat

/- A tree by what is in it: entries that are ok, each path once, each in a dir. -/
namespace Go.Proofs.YtfphpggjcljliaaGreat
open Go.RowKit Go.Shelf

theorem path_uniq {es : List Ent} (h : Up es) {x y : Ent} (hx : x ∈ es) (hy : y ∈ es) (hp : x.path = y.path) : x = y := by
  have h1 := (there_mem h hx).2
  have h2 := (there_mem h hy).2
  rw [← h1, ← h2, hp]
theorem there_iff {es : List Ent} (h : Up es) (p : ByteArray) : thereE es p = true ↔ ∃ x ∈ es, x.path = p := by
  constructor
  · intro ht
    obtain ⟨x, hx, hp⟩ := there_get ht
    exact ⟨x, List.mem_of_getElem? hx, hp⟩
  · rintro ⟨x, hx, rfl⟩
    exact (there_mem h hx).1
theorem there_not {es : List Ent} (h : Up es) {p : ByteArray} (ht : thereE es p = false) : ∀ x ∈ es, x.path ≠ p := fun x hx hp => by
  rw [(there_iff h p).2 ⟨x, hx, hp⟩] at ht; cases ht
/-- Something may be in a place: it is the top, or a dir that is there. -/
def DirIn (es : List Ent) (q : ByteArray) : Prop := q.toList.isEmpty = true ∨ ∃ x ∈ es, x.path = q ∧ x.kind = 1
theorem dir_iff {es : List Ent} (h : Up es) (q : ByteArray) : dirE es q = true ↔ DirIn es q := by
  unfold dirE DirIn
  constructor
  · intro hd
    rw [Bool.or_eq_true] at hd
    rcases hd with hd | hd
    · exact .inl hd
    · rw [Bool.and_eq_true] at hd
      obtain ⟨x, hx, hp⟩ := there_get hd.1
      rw [entFn_get hx] at hd
      exact .inr ⟨x, List.mem_of_getElem? hx, hp, by simpa using hd.2⟩
  · rintro (hd | ⟨x, hx, rfl, hk⟩)
    · rw [hd]; rfl
    · rw [(there_mem h hx).1, (there_mem h hx).2, hk]; simp
theorem tree_iff (es : List Ent) : treeB es = true ↔ (∀ x ∈ es, entB x = true) ∧ Up es ∧ (∀ x ∈ es, DirIn es (upS x.path)) ∧ es.length ≤ 16 := by
  constructor
  · intro h
    have hu := asc_up (tree_asc h)
    exact ⟨tree_all h, hu, fun x hx => (dir_iff hu _).1 (tree_dir h hx), tree_16 h⟩
  · rintro ⟨h1, hu, h3, h4⟩
    unfold treeB
    simp only [Bool.and_eq_true, List.all_eq_true, List.mem_range, decide_eq_true_eq]
    refine ⟨⟨fun i hi => ?_, fun i hi => ?_⟩, h4⟩
    · have hm : entFn es i ∈ es := List.mem_of_getElem? (ent_get hi)
      unfold sortAt
      rw [h1 _ hm, Bool.true_and, Bool.or_eq_true]
      by_cases h0 : i = 0
      · left; simp [h0]
      · right
        have hi1 : i - 1 < es.length := by omega
        have := List.pairwise_iff_getElem.1 hu (i - 1) i hi1 hi (by omega)
        rw [entFn_get (List.getElem?_eq_getElem hi), entFn_get (List.getElem?_eq_getElem hi1)]
        exact this
    · have hm : entFn es i ∈ es := List.mem_of_getElem? (ent_get hi)
      exact (dir_iff hu _).2 (h3 _ hm)
theorem up_ext : ∀ {xs ys : List Ent}, Up xs → Up ys → (∀ x, x ∈ xs ↔ x ∈ ys) → xs = ys
  | [], [], _, _, _ => rfl
  | [], y :: ys, _, _, h => absurd ((h y).2 (by simp)) (by simp)
  | x :: xs, [], _, _, h => absurd ((h x).1 (by simp)) (by simp)
  | x :: xs, y :: ys, hx, hy, h => by
    have hx' := List.pairwise_cons.1 hx
    have hy' := List.pairwise_cons.1 hy
    have hirr : ∀ a : ByteArray, ltS a a = false := fun a => lt_irr _
    have e : x = y := by
      rcases List.mem_cons.1 ((h x).1 (by simp)) with e | hm
      · exact e
      · rcases List.mem_cons.1 ((h y).2 (by simp)) with e | hm2
        · exact e.symm
        · have a := hy'.1 x hm
          have b := hx'.1 y hm2
          have := lt_trans' a b
          rw [hirr] at this; cases this
    subst e
    have : xs = ys := up_ext hx'.2 hy'.2 (fun z => by
      constructor
      · intro hz
        rcases List.mem_cons.1 ((h z).1 (by simp [hz])) with e | hm
        · subst e; have := hx'.1 z hz; rw [hirr] at this; cases this
        · exact hm
      · intro hz
        rcases List.mem_cons.1 ((h z).2 (by simp [hz])) with e | hm
        · subst e; have := hy'.1 z hz; rw [hirr] at this; cases this
        · exact hm)
    rw [this]
theorem putT_iff {es : List Ent} (h : Up es) (e x : Ent) : x ∈ putT es e ↔ x = e ∨ (x ∈ es ∧ x.path ≠ e.path) := by
  unfold putT
  cases ht : thereE es e.path
  · have hno := there_not h ht
    unfold insAt
    simp only [Bool.false_eq_true, if_false, List.mem_append, List.mem_singleton]
    constructor
    · rintro ((hx | hx) | hx)
      · exact .inr ⟨List.mem_of_mem_take hx, hno x (List.mem_of_mem_take hx)⟩
      · exact .inl hx
      · exact .inr ⟨List.mem_of_mem_drop hx, hno x (List.mem_of_mem_drop hx)⟩
    · rintro (hx | ⟨hx, _⟩)
      · exact .inl (.inr hx)
      · rw [← List.take_append_drop (placeE es e.path) es, List.mem_append] at hx
        rcases hx with hx | hx
        · exact .inl (.inl hx)
        · exact .inr hx
  · obtain ⟨old, ho, hop⟩ := there_get ht
    have hol := (List.getElem?_eq_some_iff.1 ho).1
    simp only [if_true]
    constructor
    · intro hx
      have hu : Up (es.set (placeE es e.path) e) := by
        have := putT_up (e := e) h
        unfold putT at this
        rwa [ht, if_pos rfl] at this
      have he : e ∈ es.set (placeE es e.path) e := List.mem_set hol e
      rcases List.mem_or_eq_of_mem_set hx with hm | rfl
      · by_cases hp : x.path = e.path
        · exact .inl (path_uniq hu hx he hp)
        · exact .inr ⟨hm, hp⟩
      · exact .inl rfl
    · rintro (rfl | ⟨hx, hp⟩)
      · exact List.mem_set hol x
      · obtain ⟨i, hi⟩ := List.getElem?_of_mem hx
        have hne : placeE es e.path ≠ i := by
          rintro rfl
          rw [ho] at hi
          cases hi
          exact hp hop
        refine List.mem_of_getElem? (i := i) ?_
        rw [List.getElem?_set, if_neg hne]; exact hi
theorem left_iff (p : ByteArray) (es : List Ent) (x : Ent) : x ∈ leftE p es ↔ x ∈ es ∧ inB p.data.toList x.path.data.toList = false := by
  unfold leftE; rw [List.mem_filter]; simp
theorem left_up {p : ByteArray} {es : List Ent} (h : Up es) : Up (leftE p es) := List.Pairwise.filter _ h
theorem tree_up {es : List Ent} (h : treeB es = true) : Up es := asc_up (tree_asc h)

/-- What can be put into a tree leaves a tree. -/
theorem okPut_iff {es : List Ent} (h : treeB es = true) (e : Ent) : okPut es e = true ↔ entB e = true ∧ DirIn es (upS e.path) ∧ ((∃ x ∈ es, x.path = e.path ∧ x.kind = e.kind) ∨ ((∀ x ∈ es, x.path ≠ e.path) ∧ es.length < 16)) := by
  have hu := tree_up h
  unfold okPut
  rw [Bool.and_eq_true, Bool.and_eq_true]
  constructor
  · rintro ⟨h1, h2, h3⟩
    rw [ent_path h1] at h2
    refine ⟨h1, (dir_iff hu _).1 h2, ?_⟩
    cases ht : thereE es e.path
    · rw [ht] at h3
      right
      have := tree_16 h
      simp at h3
      exact ⟨there_not hu ht, by omega⟩
    · rw [ht] at h3
      obtain ⟨old, ho, hop⟩ := there_get ht
      rw [entFn_get ho] at h3
      left
      exact ⟨old, List.mem_of_getElem? ho, hop, by simpa using h3⟩
  · rintro ⟨h1, h2, h3⟩
    refine ⟨h1, by rw [ent_path h1]; exact (dir_iff hu _).2 h2, ?_⟩
    rcases h3 with ⟨x, hx, hp, hk⟩ | ⟨h3, h4⟩
    · have := there_mem hu hx
      rw [← hp, this.1, this.2, hk]; simp
    · have ht : thereE es e.path = false := by
        cases ht : thereE es e.path
        · rfl
        · obtain ⟨x, hx, hp⟩ := (there_iff hu _).1 ht
          exact absurd hp (h3 x hx)
      rw [ht]; simp; omega
theorem putT_16 {es : List Ent} {e : Ent} (h : treeB es = true) (hk : okPut es e = true) : (putT es e).length ≤ 16 := by
  have : putT es e = putL es e := by unfold putL; rw [hk]; rfl
  have h16 := tree_16 h
  unfold putT
  cases ht : thereE es e.path
  · have h3 := ((okPut_iff h e).1 hk).2.2
    rcases h3 with ⟨x, hx, hp, _⟩ | ⟨_, h3⟩
    · rw [(there_iff (tree_up h) _).2 ⟨x, hx, hp⟩] at ht; cases ht
    · have := placeE_le es e.path
      unfold insAt; simp; omega
  · simp; exact h16
theorem put_tree {es : List Ent} {e : Ent} (h : treeB es = true) (hk : okPut es e = true) : treeB (putT es e) = true := by
  have hu := tree_up h
  obtain ⟨h1, h2, h3⟩ := (okPut_iff h e).1 hk
  obtain ⟨g1, g2, g3, g4⟩ := (tree_iff es).1 h
  have hdir : ∀ q, DirIn es q → DirIn (putT es e) q := by
    rintro q (hq | ⟨x, hx, hp, hk⟩)
    · exact .inl hq
    · by_cases hpe : x.path = e.path
      · rcases h3 with ⟨y, hy, hyp, hyk⟩ | ⟨h3, _⟩
        · have : y = x := path_uniq hu hy hx (by rw [hyp, hpe])
          subst this
          exact .inr ⟨e, (putT_iff hu e e).2 (.inl rfl), by rw [← hpe, hp], by rw [← hyk, hk]⟩
        · exact absurd hpe (h3 x hx)
      · exact .inr ⟨x, (putT_iff hu e x).2 (.inr ⟨hx, hpe⟩), hp, hk⟩
  refine (tree_iff _).2 ⟨fun x hx => ?_, putT_up hu, fun x hx => ?_, putT_16 h hk⟩
  · rcases (putT_iff hu e x).1 hx with rfl | ⟨hx, _⟩
    · exact h1
    · exact g1 x hx
  · rcases (putT_iff hu e x).1 hx with rfl | ⟨hx, _⟩
    · exact hdir _ h2
    · exact hdir _ (g3 x hx)
theorem put_yes {es : List Ent} {e : Ent} (h : putOk es e = true) : treeB es = true ∧ okPut es e = true ∧ putR es e = putT es e := by
  unfold putOk at h
  rw [Bool.and_eq_true] at h
  refine ⟨h.1, h.2, ?_⟩
  unfold putR putL
  rw [if_pos h.1, if_pos h.2]
theorem there_mem' {es : List Ent} {x : Ent} (h : treeB es = true) (hx : x ∈ es) : thereE es x.path = true ∧ gotE es x.path = x := by
  have := there_mem (tree_up h) hx
  refine ⟨this.1, ?_⟩
  unfold gotE
  rw [h, this.1]
  exact this.2
theorem up_in {s : ByteArray} (h : pathB s.data.toList = true) (hne : (upS s).toList.isEmpty = false) : inB (upS s).data.toList s.data.toList = true := by
  by_cases hi : 0 ≤ lastIx 47 s.data.toList
  · have h1 := up_some h hi
    have h2 : pathUpS s = upS s := by unfold pathUpS; rw [h]; rfl
    rw [h2] at h1
    rw [h1]
    exact inB_up _ h hi
  · exfalso
    unfold upS at hne
    rw [if_pos (by omega)] at hne
    revert hne
    decide +kernel
theorem drop_tree {es : List Ent} (h : treeB es = true) (p : ByteArray) : treeB (leftE p es) = true := by
  obtain ⟨g1, g2, g3, g4⟩ := (tree_iff es).1 h
  refine (tree_iff _).2 ⟨fun x hx => g1 x ((left_iff p es x).1 hx).1, left_up g2, fun x hx => ?_, Nat.le_trans (List.length_filter_le _ _) g4⟩
  obtain ⟨hx1, hx2⟩ := (left_iff p es x).1 hx
  rcases g3 x hx1 with hq | ⟨y, hy, hp, hk⟩
  · exact .inl hq
  · by_cases hq : (upS x.path).toList.isEmpty = true
    · exact .inl hq
    · refine .inr ⟨y, (left_iff p es y).2 ⟨hy, ?_⟩, hp, hk⟩
      cases hi : inB p.data.toList y.path.data.toList
      · rfl
      · have := up_in (ent_pathB (g1 x hx1)) (by simpa using hq)
        rw [← hp] at this
        rw [inB_trans hi this] at hx2
        cases hx2
theorem left_less {es : List Ent} {p : ByteArray} (h : treeB es = true) (ht : thereE es p = true) : (leftE p es).length < es.length := by
  obtain ⟨x, hx, hp⟩ := (there_iff (tree_up h) p).1 ht
  refine List.length_filter_lt_length_iff_exists.2 ⟨x, hx, ?_⟩
  have := ent_pathB (tree_all h x hx)
  rw [← hp, inB_refl _ this]
  simp
theorem left_split {es : List Ent} {p : ByteArray} {k : Nat} {e : Ent} (he : es[k]? = some e) (hi : inB p.data.toList e.path.data.toList = false) : leftE p (es.take (k + 1)) = leftE p (es.take k) ++ [e] ∧ (leftE p es)[(leftE p (es.take k)).length]? = some e := by
  have h1 : leftE p (es.take (k + 1)) = leftE p (es.take k) ++ [e] := by
    unfold leftE; rw [List.take_add_one, he, List.filter_append]; simp [hi]
  refine ⟨h1, ?_⟩
  have h2 : leftE p es = leftE p (es.take (k + 1)) ++ leftE p (es.drop (k + 1)) := by
    unfold leftE; rw [← List.filter_append, List.take_append_drop]
  rw [h2, h1, List.append_assoc, List.getElem?_append_right (Nat.le_refl _)]
  simp
theorem left_skip {es : List Ent} {p : ByteArray} {k : Nat} {e : Ent} (he : es[k]? = some e) (hi : inB p.data.toList e.path.data.toList = true) : leftE p (es.take (k + 1)) = leftE p (es.take k) := by
  unfold leftE; rw [List.take_add_one, he, List.filter_append]; simp [hi]
theorem left_len (p : ByteArray) (es : List Ent) : (leftE p es).length ≤ es.length := List.length_filter_le _ _
end Go.Proofs.YtfphpggjcljliaaGreat

/- Plain mathematics of patterns: the places at which a pattern may stand behind some items, kept all at once, tell whether it takes just these. -/
namespace Go.Proofs.YtfphpggjcljliaaGreat

/-- A pattern: 'none' takes any run of items, 'some f' one item that f takes. -/
abbrev Pat (α : Type) := List (Option (α → Bool))

def starO {α : Type} (f : List α → Bool) : List α → Bool
  | [] => f []
  | c :: t => f (c :: t) || starO f t
def matchO {α : Type} : Pat α → List α → Bool
  | [], s => s.isEmpty
  | none :: g, s => starO (matchO g) s
  | some f :: g, s => match s with
    | [] => false
    | c :: t => f c && matchO g t

def runAt {α : Type} (xs : Pat α) (i : Nat) : Bool := match xs[i]? with
  | some none => true
  | _ => false
def takeAt {α : Type} (xs : Pat α) (i : Nat) (c : α) : Bool := match xs[i]? with
  | some (some f) => f c
  | _ => false

def skipN {α : Type} (xs : Pat α) (h : Nat → Bool) : Nat → Nat → Bool
  | 0 => h
  | k + 1 => fun j => skipN xs h k j || (j == k + 1 && (skipN xs h k k && runAt xs k))
def passN {α : Type} (xs : Pat α) (h : Nat → Bool) (c : α) : Nat → Nat → Bool
  | 0 => fun _ => false
  | k + 1 => fun j => passN xs h c k j || (h k && ((runAt xs k && j == k) || (takeAt xs k c && j == k + 1)))
def nextP {α : Type} (xs : Pat α) (h : Nat → Bool) (c : α) : Nat → Bool := skipN xs (passN xs h c xs.length) xs.length
def startP {α : Type} (xs : Pat α) : Nat → Bool := skipN xs (fun j => j == 0) xs.length
def placesP {α : Type} (xs : Pat α) (items : List α) : Nat → Bool := items.foldl (nextP xs) (startP xs)
theorem placesP_snoc {α : Type} (xs : Pat α) (items : List α) (c : α) : placesP xs (items ++ [c]) = nextP xs (placesP xs items) c := by simp [placesP]

theorem skipN_iff {α : Type} (xs : Pat α) (h : Nat → Bool) (k j : Nat) : skipN xs h k j = true ↔ ∃ i, i ≤ j ∧ h i = true ∧ (∀ t, i ≤ t → t < j → runAt xs t = true) ∧ (i = j ∨ j ≤ k) := by
  induction k generalizing j with
  | zero =>
    constructor
    · intro e; exact ⟨j, Nat.le_refl _, e, fun t h1 h2 => by omega, .inl rfl⟩
    · rintro ⟨i, h1, h2, _, h4⟩
      have : i = j := by omega
      subst this; exact h2
  | succ k ih =>
    unfold skipN
    rw [Bool.or_eq_true, Bool.and_eq_true, Bool.and_eq_true, ih j, ih k]
    constructor
    · rintro (⟨i, h1, h2, h3, h4⟩ | ⟨hj, ⟨i, h1, h2, h3, _⟩, hr⟩)
      · exact ⟨i, h1, h2, h3, by omega⟩
      · have hj' : j = k + 1 := by simpa using hj
        subst hj'
        refine ⟨i, by omega, h2, fun t a b => ?_, .inr (Nat.le_refl _)⟩
        by_cases e : t = k
        · subst e; exact hr
        · exact h3 t a (by omega)
    · rintro ⟨i, h1, h2, h3, h4⟩
      by_cases e : i = j ∨ j ≤ k
      · exact .inl ⟨i, h1, h2, h3, e⟩
      · have hj : j = k + 1 := by omega
        subst hj
        exact .inr ⟨by simp, ⟨i, by omega, h2, fun t a b => h3 t a (by omega), .inr (Nat.le_refl _)⟩, h3 k (by omega) (by omega)⟩

theorem passN_iff {α : Type} (xs : Pat α) (h : Nat → Bool) (c : α) (k j : Nat) : passN xs h c k j = true ↔ (j < k ∧ h j = true ∧ runAt xs j = true) ∨ ∃ i, i < k ∧ j = i + 1 ∧ h i = true ∧ takeAt xs i c = true := by
  induction k with
  | zero => simp [passN]
  | succ k ih =>
    unfold passN
    rw [Bool.or_eq_true, ih, Bool.and_eq_true, Bool.or_eq_true, Bool.and_eq_true, Bool.and_eq_true]
    simp only [beq_iff_eq]
    constructor
    · rintro ((⟨a, b, d⟩ | ⟨i, a, b, d, e⟩) | ⟨hk, ⟨a, rfl⟩ | ⟨a, rfl⟩⟩)
      · exact .inl ⟨by omega, b, d⟩
      · exact .inr ⟨i, by omega, b, d, e⟩
      · exact .inl ⟨by omega, hk, a⟩
      · exact .inr ⟨k, by omega, rfl, hk, a⟩
    · rintro (⟨a, b, d⟩ | ⟨i, a, b, d, e⟩)
      · by_cases ek : j = k
        · subst ek; exact .inr ⟨b, .inl ⟨d, rfl⟩⟩
        · exact .inl (.inl ⟨by omega, b, d⟩)
      · by_cases ek : i = k
        · subst ek; exact .inr ⟨d, .inr ⟨e, b⟩⟩
        · exact .inl (.inr ⟨i, by omega, b, d, e⟩)

theorem drop_at {α : Type} (xs : Pat α) (i : Nat) (x : Option (α → Bool)) (h : xs[i]? = some x) : xs.drop i = x :: xs.drop (i + 1) := by
  obtain ⟨hi, rfl⟩ := List.getElem?_eq_some_iff.1 h
  exact List.drop_eq_getElem_cons hi
theorem runAt_iff {α : Type} {xs : Pat α} {i : Nat} : runAt xs i = true ↔ xs[i]? = some none := by
  unfold runAt
  split <;> simp_all
theorem starO_of {α : Type} (f : List α → Bool) (s : List α) (h : f s = true) : starO f s = true := by
  cases s with
  | nil => exact h
  | cons c t => simp [starO, h]
theorem match_skip {α : Type} {xs : Pat α} {i : Nat} {r : List α} (hr : runAt xs i = true) (h : matchO (xs.drop (i + 1)) r = true) : matchO (xs.drop i) r = true := by
  rw [drop_at xs i none (runAt_iff.1 hr)]
  exact starO_of _ _ h
theorem match_skips {α : Type} {xs : Pat α} {r : List α} (i d : Nat) (hr : ∀ t, i ≤ t → t < i + d → runAt xs t = true) (h : matchO (xs.drop (i + d)) r = true) : matchO (xs.drop i) r = true := by
  induction d with
  | zero => exact h
  | succ d ih => exact ih (fun t a b => hr t a (by omega)) (match_skip (hr (i + d) (by omega) (by omega)) h)

/-- The places tell all that may come. -/
def OkPl {α : Type} (xs : Pat α) (h : Nat → Bool) (pre : List α) : Prop :=
  (∀ rest, matchO xs (pre ++ rest) = true ↔ ∃ i, i ≤ xs.length ∧ h i = true ∧ matchO (xs.drop i) rest = true) ∧ ∀ i, i < xs.length → h i = true → runAt xs i = true → h (i + 1) = true

theorem okPl_start {α : Type} (xs : Pat α) : OkPl xs (startP xs) [] := by
  refine ⟨fun rest => ⟨fun h => ⟨0, Nat.zero_le _, ?_, h⟩, ?_⟩, fun i hi h hr => ?_⟩
  · exact (skipN_iff _ _ _ _).2 ⟨0, Nat.le_refl _, rfl, fun t _ b => by omega, .inl rfl⟩
  · rintro ⟨i, hi, h1, h2⟩
    obtain ⟨j, hj, hj0, hall, _⟩ := (skipN_iff _ _ _ _).1 h1
    have hj0' : j = 0 := by simpa using hj0
    subst hj0'
    exact match_skips (xs := xs) 0 i (fun t a b => hall t a (by omega)) (by simpa using h2)
  · obtain ⟨j, hj, hj0, hall, _⟩ := (skipN_iff _ _ _ _).1 h
    refine (skipN_iff _ _ _ _).2 ⟨j, by omega, hj0, fun t a b => ?_, .inr (by omega)⟩
    by_cases e : t = i
    · subst e; exact hr
    · exact hall t a (by omega)

theorem okPl_next {α : Type} {xs : Pat α} {h : Nat → Bool} {pre : List α} (c : α) (ok : OkPl xs h pre) : OkPl xs (nextP xs h c) (pre ++ [c]) := by
  obtain ⟨h1, h2⟩ := ok
  have hpass : ∀ i, i ≤ xs.length → passN xs h c xs.length i = true → nextP xs h c i = true := fun i _ hp =>
    (skipN_iff _ _ _ _).2 ⟨i, Nat.le_refl _, hp, fun t a b => by omega, .inl rfl⟩
  refine ⟨fun rest => ?_, fun i hi hn hr => ?_⟩
  · rw [List.append_assoc, List.singleton_append, h1]
    constructor
    · rintro ⟨i, hi, a, b⟩
      obtain ⟨d, hd⟩ : ∃ d, xs.length - i = d := ⟨_, rfl⟩
      induction d generalizing i with
      | zero =>
        rw [List.drop_of_length_le (by omega)] at b
        simp [matchO] at b
      | succ d ih =>
        have hlt : i < xs.length := by omega
        cases hx : xs[i] with
        | none =>
          have hxs : xs[i]? = some none := by rw [List.getElem?_eq_getElem hlt, hx]
          rw [drop_at xs i none hxs] at b
          simp only [matchO, starO, Bool.or_eq_true] at b
          rcases b with b | b
          · exact ih (i + 1) (by omega) (h2 i hlt a (runAt_iff.2 hxs)) b (by omega)
          · refine ⟨i, hi, hpass i hi ((passN_iff _ _ _ _ _).2 (.inl ⟨hlt, a, runAt_iff.2 hxs⟩)), ?_⟩
            rw [drop_at xs i none hxs]; exact b
        | some f =>
          have hxs : xs[i]? = some (some f) := by rw [List.getElem?_eq_getElem hlt, hx]
          rw [drop_at xs i _ hxs] at b
          simp only [matchO, Bool.and_eq_true] at b
          exact ⟨i + 1, by omega, hpass _ (by omega) ((passN_iff _ _ _ _ _).2 (.inr ⟨i, hlt, rfl, a, by unfold takeAt; rw [hxs]; exact b.1⟩)), b.2⟩
    · rintro ⟨j, hj, a, b⟩
      obtain ⟨i, hij, hp, hall, _⟩ := (skipN_iff _ _ _ _).1 a
      have b' : matchO (xs.drop i) rest = true := match_skips (xs := xs) i (j - i) (fun t p q => hall t p (by omega)) (by rw [show i + (j - i) = j by omega]; exact b)
      rcases (passN_iff _ _ _ _ _).1 hp with ⟨hi, hh, hr⟩ | ⟨k, hk, rfl, hh, ht⟩
      · refine ⟨i, by omega, hh, ?_⟩
        rw [drop_at xs i none (runAt_iff.1 hr)] at b' ⊢
        simp only [matchO, starO, Bool.or_eq_true] at b' ⊢
        exact .inr b'
      · refine ⟨k, by omega, hh, ?_⟩
        unfold takeAt at ht
        split at ht
        · rename_i f hxs
          rw [drop_at xs k _ hxs]
          simp only [matchO, Bool.and_eq_true]
          exact ⟨ht, b'⟩
        · cases ht
  · obtain ⟨k, hk, hp, hall, _⟩ := (skipN_iff _ _ _ _).1 hn
    refine (skipN_iff _ _ _ _).2 ⟨k, by omega, hp, fun t a b => ?_, .inr (by omega)⟩
    by_cases e : t = i
    · subst e; exact hr
    · exact hall t a (by omega)

theorem okPl_places {α : Type} (xs : Pat α) (items : List α) : OkPl xs (placesP xs items) items := by
  suffices ∀ (l : List α) (pre : List α), OkPl xs (placesP xs pre) pre → OkPl xs (placesP xs (pre ++ l)) (pre ++ l) by
    simpa using this items [] (okPl_start xs)
  intro l
  induction l with
  | nil => intro pre h; simpa using h
  | cons c l ih =>
    intro pre h
    have := ih (pre ++ [c]) (by rw [placesP_snoc]; exact okPl_next c h)
    simpa using this

theorem match_end {α : Type} {xs : Pat α} {h : Nat → Bool} {pre : List α} (ok : OkPl xs h pre) : h xs.length = matchO xs pre := by
  obtain ⟨h1, h2⟩ := ok
  rw [Bool.eq_iff_iff]
  have h1' := h1 []
  rw [List.append_nil] at h1'
  rw [h1']
  constructor
  · intro hn
    exact ⟨xs.length, Nat.le_refl _, hn, by simp [matchO]⟩
  · rintro ⟨i, hi, a, b⟩
    obtain ⟨d, hd⟩ : ∃ d, xs.length - i = d := ⟨_, rfl⟩
    induction d generalizing i with
    | zero => have : i = xs.length := by omega
              subst this; exact a
    | succ d ih =>
      have hlt : i < xs.length := by omega
      cases hx : xs[i] with
      | none =>
        have hxs : xs[i]? = some none := by rw [List.getElem?_eq_getElem hlt, hx]
        rw [drop_at xs i none hxs] at b
        exact ih (i + 1) (by omega) (h2 i hlt a (runAt_iff.2 hxs)) b (by omega)
      | some f =>
        have hxs : xs[i]? = some (some f) := by rw [List.getElem?_eq_getElem hlt, hx]
        rw [drop_at xs i _ hxs] at b
        simp [matchO] at b
theorem places_match {α : Type} (xs : Pat α) (items : List α) : placesP xs items xs.length = matchO xs items := match_end (okPl_places xs items)
end Go.Proofs.YtfphpggjcljliaaGreat
