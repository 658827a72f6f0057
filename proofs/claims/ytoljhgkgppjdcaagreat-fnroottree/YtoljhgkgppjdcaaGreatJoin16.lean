/- Texts of this proof, one behind the other; each says at its head what it shows. -/
import Derived.Test.YtoljhgkgppjdcaaGreatJoin15
import Derived.Test.YtoljhgkgppjdcaaGreatJoin5
import Derived.Test.YtoljhgkgppjdcaaGreatJoin12
import Derived.Test.YtoljhgkgppjdcaaGreatJoin6
import Derived.Test.YtoljhgkgppjdcaaGreatJoin3
/- What the laws of roots draw. -/
namespace Go.Proofs.YtoljhgkgppjdcaaGreat
open Go.RowKit Go.Shelf

/-- Packs that are drawn, in whatever row. -/
structure DR (W : World) (v : Value) (ps : List packC.D) : Prop where
  row : rowAt packC W v ps
  ok : ∀ d ∈ ps, DPk d
  few : ps.length ≤ 8
theorem DR.below {W W' : World} {v : Value} {ps : List packC.D} (h : DR W v ps) (hb : Below W.heap.size W W') : DR W' v ps := ⟨h.row.below hb, h.ok, h.few⟩
theorem DR.small {W : World} {v : Value} {ps : List packC.D} (h : DR W v ps) : smallPs ps := ⟨by have := h.few; omega, fun d hd => (h.ok d hd).small⟩
theorem code_on {w w' : World} {a : Option Addr} {len : Nat} (h : Code w w.heap.size a len) (hb : Below w.heap.size w w') : Code w' w'.heap.size a len := by
  rcases h with h | ⟨blk, off, ha, hbk, hc⟩
  · exact .inl h
  · refine .inr ⟨blk, off, ha, Nat.lt_of_lt_of_le hbk hb.size, fun k hk => ?_⟩
    obtain ⟨c, h1, h2⟩ := hc k hk
    exact ⟨c, h1, (hb.cell (p := ⟨blk, off + k, none⟩) hbk).trans h2⟩
theorem aq_dr {w : World} {b : Nat} {a : Option Addr} {len cap q : Nat} {W : World} {v : Value} {ps : List packC.D} (h : AQ w b a len cap q W v ps) {W' : World} (hg : ∀ k, b < k → k < W.heap.size → W'.heap[k]? = W.heap[k]?) : DR W' v ps := ⟨h.keep W' hg, h.ok, h.few⟩
set_option maxRecDepth 100000 in
set_option maxHeartbeats 2000000 in
theorem DrawRootTree_any (w : World) (a : Option Addr) (len cap : Nat) (h : Code w w.heap.size a len) (hl : len ≤ 1048576) (hc : len ≤ cap) :
    Calls Tryz.prog 13 #[.slice a len cap] w fun x w' => ∃ v ps, x = .returned (.agg #[v]) ∧ DR w' v ps ∧ Below w.heap.size w w' := by
  have hB0 : Below w.heap.size w (w.alloc (.cells #[.slice none 0 0] 25)) := (Below.refl _ w).alloc (Nat.le_refl _) _
  have H := hid (code_on h hB0)
  have hR0 := World.alloc_heap_new w (.cells #[.slice none 0 0] 25)
  have hz0 : w.heap.size < (w.alloc (.cells #[.slice none 0 0] 25)).heap.size := by simp
  clear h
  go_enter Tryz.func13, Tryz.ntmps13
  go_wp2_with fail
  generalize w.alloc (.cells #[.slice none 0 0] 25) = w0 at H hB0 hR0 hz0 ⊢
  refine (l1Open_any w0 a len cap (unhid H) hl hc).mono ?_
  rintro e w1 ⟨rfl, ⟨l', c', hR⟩, hB1⟩
  have hR1 := (hB1.block _ hz0).trans hR0
  have hB01 := hB0.trans (hB1.mono hB0.size)
  clear hR0 H
  go_wp2_with fail
  refine (l11AnyRoot_any w1 _ a l' c' 0 hR (by omega)).mono ?_
  rintro e w2 ⟨v, ps, rfl, hQ⟩
  have hb2 : Below w0.heap.size w1 w2 := grown_below hQ.grown (Nat.le_refl _) hB1.size
  have hR2 := (hb2.block _ hz0).trans hR1
  have hat := hQ.keep w2 (fun _ _ _ => rfl)
  obtain ⟨va, vc, rfl, -⟩ := rowAt.slice hat
  have hB02 : Below w.heap.size w w2 := hB01.trans (hb2.mono hB0.size)
  obtain ⟨o0, r0⟩ := cell_fz hR2 0 _ rfl
  have hBw : Below w.heap.size w2 (w2.setCell ⟨w.heap.size, 0, none⟩ (.slice va ps.length vc)) := (Below.refl _ w2).setCell (p := ⟨w.heap.size, 0, none⟩) (Nat.le_refl _) _
  have HF := hid (And.intro (aq_dr hQ (W' := w2.setCell ⟨w.heap.size, 0, none⟩ (.slice va ps.length vc)) (fun k hk _ => Below.heap_setCell _ _ _ _ (by dsimp only; omega))) (hB02.trans hBw))
  clear hQ hb2 hR2 hat hB02 hBw hB01 hB1 hR1 hR hB0
  go_wp2_with fail
  exact bodyPost_ret (v := .agg #[.slice va ps.length vc]) (by simp [results, Tryz.results13, go_sem, World.cell?_setCell_same', o0]) rfl ⟨_, ps, rfl, (unhid HF).1, (unhid HF).2⟩
end Go.Proofs.YtoljhgkgppjdcaaGreat

/- Whether two roots are the same, as the laws ask it: where they are. -/
namespace Go.Proofs.YtoljhgkgppjdcaaGreat
open Go.RowKit Go.Shelf


end Go.Proofs.YtoljhgkgppjdcaaGreat

/- The bytes that a law is handed, read. -/
namespace Go.Proofs.YtoljhgkgppjdcaaGreat
open Go.ChangeShapes Go.WideShapes Go.ChangeAt Go.RowKit

theorem cells5 : Tryz.prog.cellsOf 5 = 1 := by kernel_rfl

theorem code_of {H : Type} {enc : TypeId × Value → H} {W : World} {a0 : Option Addr} {len cap : Nat} {d0 : DataW H} {p0 : List MemPlace}
    (h0 : DataW.Trod enc Tryz.prog W 0 (fun _ => true) true 22 (.slice a0 len cap) d0 p0) (hlt : ∀ x ∈ p0, x.block < W.heap.size) : Code W W.heap.size a0 len ∧ len ≤ cap := by
  obtain ⟨fuel, hf⟩ := h0
  rcases open_ints Tryz.underlying22 Tryz.underlying5 cells5 hf with ⟨hcs, hx⟩ | ⟨a, len', cap', zs, hcs, _, hl, hm, hz, hx, hcell, hwz⟩
  · simp [Value.cells] at hcs
    obtain ⟨rfl, rfl, rfl⟩ := hcs
    exact ⟨.inl rfl, Nat.le_refl _⟩
  · simp [Value.cells] at hcs
    obtain ⟨rfl, rfl, rfl⟩ := hcs
    simp only [Prod.mk.injEq] at hx
    obtain ⟨rfl, rfl⟩ := hx
    simp only [if_true] at hz
    refine ⟨?_, hl⟩
    by_cases hl0 : len = 0
    · exact .inl hl0
    · obtain ⟨b, off, spot⟩ := a
      have hspot : spot = none := by simpa [Addr.add] using World.cell?_spot (hcell 0 (by omega))
      subst hspot
      have hbW : b < W.heap.size := hlt (.cell b off) (MemPlace.mem_row.2 ⟨0, by omega, by simp⟩)
      refine .inr ⟨b, off, rfl, hbW, fun k hk => ?_⟩
      have hk' : k < zs.length := by omega
      have hw := hwz (zs.getD k 0) (by simp [List.getD, List.getElem?_eq_getElem hk'])
      have hc := hcell k hk'
      rw [add_plain] at hc
      generalize zs.getD k 0 = z at hw hc
      have hx : 0 ≤ z ∧ z ≤ 255 := by simpa [Lit.wf, IntKind.min, IntKind.max, IntKind.signed, IntKind.bits] using hw
      exact ⟨z.toNat, by omega, by rw [hc, Int.toNat_of_nonneg hx.1]⟩
end Go.Proofs.YtoljhgkgppjdcaaGreat

/- Roots that the laws read: the contracts, and what keeps. -/
namespace Go.Proofs.YtoljhgkgppjdcaaGreat
open Go.RowKit Go.Shelf

/-- A root that is read. -/
structure RR (W : World) (a : Option Addr) (c : Nat) (ps : List packC.D) : Prop where
  row : rowAt packC W (.slice a ps.length c) ps
  small : smallPs ps
  few : ps.length ≤ 100
theorem RR.below {W W' : World} {a : Option Addr} {c : Nat} {ps : List packC.D} (h : RR W a c ps) (hb : Below W.heap.size W W') : RR W' a c ps := ⟨h.row.below hb, h.small, h.few⟩
/-- A pack that is read. -/
structure PR (W : World) (cs : List Value) (p : packC.D) : Prop where
  at_ : packC.at_ W cs p
  small : smallP p
theorem PR.below {W W' : World} {cs : List Value} {p : packC.D} (h : PR W cs p) (hb : Below W.heap.size W W') : PR W' cs p := ⟨packC.below h.at_ hb, h.small⟩
theorem PR.cells {W : World} {cs : List Value} {p : packC.D} (h : PR W cs p) : ∃ na nc ta tc, cs = [.string (PackD.name p), .string (PackD.version p), .slice na (PackD.needs p).length nc, .slice ta (PackD.tree p).length tc] := by
  obtain ⟨v2, v3, rfl, p2, p3⟩ := packC_at h.at_
  obtain ⟨na, nc, rfl, -⟩ := rowAt.slice p2
  obtain ⟨ta, tc, rfl, -⟩ := rowAt.slice p3
  exact ⟨_, _, _, _, rfl⟩
theorem dr_rr {W : World} {v : Value} {ps : List packC.D} (h : DR W v ps) : ∃ a c, v = .slice a ps.length c ∧ RR W a c ps := by
  obtain ⟨a, c, rfl, -⟩ := rowAt.slice h.row
  exact ⟨a, c, rfl, h.row, h.small, by have := h.few; omega⟩
/-- What stays while nothing that was there is written. -/
def StaysW (Φ : World → Prop) : Prop := ∀ W W' : World, Below W.heap.size W W' → Φ W → Φ W'
structure KW (Φ : World → Prop) (W : World) : Prop where
  keeps : StaysW Φ
  now : Φ W
theorem KW.step {Φ : World → Prop} {W W' : World} (h : KW Φ W) (hb : Below W.heap.size W W') : KW Φ W' := ⟨h.keeps, h.keeps W W' hb h.now⟩
theorem KW.add {Φ Ψ : World → Prop} {W : World} (h : KW Φ W) (hk : StaysW Ψ) (hn : Ψ W) : KW (fun W => Φ W ∧ Ψ W) W := ⟨fun W W' hb hp => ⟨h.keeps W W' hb hp.1, hk W W' hb hp.2⟩, h.now, hn⟩
theorem KW.row {Φ : World → Prop} {W : World} (h : KW Φ W) {a : Option Addr} {c : Nat} {ps : List packC.D} (hr : RR W a c ps) : KW (fun W => Φ W ∧ RR W a c ps) W := h.add (fun _ _ hb hp => hp.below hb) hr
theorem KW.pack {Φ : World → Prop} {W : World} (h : KW Φ W) {cs : List Value} {p : packC.D} (hr : PR W cs p) : KW (fun W => Φ W ∧ PR W cs p) W := h.add (fun _ _ hb hp => hp.below hb) hr
theorem KW.box {Φ : World → Prop} {W : World} (h : KW Φ W) {g : Nat} {o : Obj} (hr : W.heap[g]? = some o) : KW (fun W => Φ W ∧ W.heap[g]? = some o) W := h.add (fun _ _ hb hp => (hb.block _ (Array.getElem?_eq_some_iff.1 hp).1).trans hp) hr
theorem KW.start (w : World) : KW (fun W => Below w.heap.size w W) w := ⟨fun _ _ hb hp => hp.trans (hb.mono hp.size), Below.refl _ w⟩
end Go.Proofs.YtoljhgkgppjdcaaGreat

/- Roots that the laws read: more contracts. -/
namespace Go.Proofs.YtoljhgkgppjdcaaGreat
open Go.RowKit Go.Shelf

theorem rowIn_ents {W : World} {a : Option Addr} {N M : Nat} {es : List Ent} (h : RowIn W a N M es) : EntsAt W a es := by
  rcases h with h | ⟨g, rfl, _, _, hR⟩
  · exact .inl h
  · refine .inr ⟨g, 0, rfl, hR.lt, fun i e hi => ?_⟩
    have := (hR.cells i (List.getElem?_eq_some_iff.1 hi).1).1
    rw [entFn_get hi] at this
    rwa [Nat.zero_add]
/-- Entries that are read. -/
structure ER (W : World) (a : Option Addr) (es : List Ent) : Prop where
  ents : EntsAt W a es
  small : smallE es
theorem ER.below {W W' : World} {a : Option Addr} {es : List Ent} (h : ER W a es) (hb : Below W.heap.size W W') : ER W' a es := ⟨h.ents.below hb, h.small⟩
theorem KW.ents {Φ : World → Prop} {W : World} (h : KW Φ W) {a : Option Addr} {es : List Ent} (hr : ER W a es) : KW (fun W => Φ W ∧ ER W a es) W := h.add (fun _ _ hb hp => hp.below hb) hr
theorem KW.mark {Φ : World → Prop} {W : World} (h : KW Φ W) : KW (fun W' => Φ W' ∧ Below W.heap.size W W') W := h.add (fun _ _ hb hp => hp.trans (hb.mono hp.size)) (Below.refl _ W)
theorem implOk_r {W : World} {a : Option Addr} {c : Nat} {ps : List packC.D} (h : RR W a c ps) : Calls Tryz.prog 17 #[.agg #[.slice a ps.length c]] W fun x w' => x = .returned (.bool (rootOk_0 ⟨ps⟩)) ∧ Below W.heap.size W w' := implRootOk_any ⟨ps⟩ a c W h.small h.row
theorem specOk_r {W : World} {a : Option Addr} {c : Nat} {ps : List packC.D} (h : RR W a c ps) : Calls Tryz.prog 18 #[.agg #[.slice a ps.length c]] W fun x w' => x = .returned (.bool (rootOk_0 ⟨ps⟩)) ∧ Below W.heap.size W w' := specRootOk_any ⟨ps⟩ a c W h.small h.row
theorem tree_smallE {es : List Ent} (h : treeB es = true) : smallE es := ⟨by have := tree_16 h; omega, fun e he => ⟨by have := ent_path_len (tree_all h e he); omega, by have := ent_text_len (tree_all h e he); omega⟩⟩
theorem tree_r {W : World} {a : Option Addr} {c : Nat} {ps : List packC.D} (h : RR W a c ps) : Calls Tryz.prog 14 #[.agg #[.slice a ps.length c]] W fun x w' => ∃ a' c', x = .returned (.slice a' (rootTreeE ⟨ps⟩).length c') ∧ ER w' a' (rootTreeE ⟨ps⟩) ∧ Below W.heap.size W w' :=
  (implRootTree_any ⟨ps⟩ a c W h.small h.row).mono (fun _ _ ⟨u, h1, h2, h3⟩ => by
    obtain ⟨a', c', rfl, hr⟩ := rowIn_of_owns h2
    exact ⟨a', c', h1, ⟨rowIn_ents hr, tree_smallE (rootTree_tree ⟨ps⟩)⟩, h3⟩)
theorem jsTree_r {W : World} {a b : Option Addr} {es : List Ent} {c d : Nat} (h : ER W a es) (h2 : ER W b es) : Calls Tryz.prog 15 #[.slice a es.length c, .slice b es.length d] W fun x w' => x = .returned (.bool true) ∧ Below W.heap.size W w' :=
  (jsTree_any es es a b c d W (by have := h.small.1; unfold maxLen; omega) (by have := h.small.1; unfold maxLen; omega) h.ents h2.ents).mono (fun _ _ ⟨h3, h4⟩ => ⟨by rw [h3, eqEs_self], h4⟩)
/-- The tree of a pack that is read. -/
theorem PR.tree {W : World} {p : packC.D} {n0 t0 : Option Addr} {n1 t1 : Nat} (h : PR W [.string (PackD.name p), .string (PackD.version p), .slice n0 (PackD.needs p).length n1, .slice t0 (PackD.tree p).length t1] p) : EntsAt W t0 (treeOfP p) ∧ (treeOfP p).length = (PackD.tree p).length := by
  obtain ⟨h1, h2, _⟩ := tree_in h.at_
  exact ⟨h1, h2⟩
theorem KW.ent {Φ : World → Prop} {W : World} (h : KW Φ W) {b o : Nat} {e : Ent} (hb : b < W.heap.size) (hr : EntAt W b o e) : KW (fun W => Φ W ∧ (b < W.heap.size ∧ EntAt W b o e)) W := h.add (fun _ _ hb hp => ⟨Nat.lt_of_lt_of_le hp.1 hb.size, hp.2.below hb hp.1⟩) ⟨hb, hr⟩
end Go.Proofs.YtoljhgkgppjdcaaGreat

/- A pack under another name, with the tree of one that is there. -/
namespace Go.Proofs.YtoljhgkgppjdcaaGreat
open Go.RowKit Go.Shelf

def freshP (p : packC.D) : packC.D := (⟨⟨#[102, 114, 101, 115, 104]⟩, ⟨#[49]⟩, [], PackD.tree p⟩ : PackD)
theorem up_one {es : List Ent} (hu : Up es) {x y : Ent} (hx : x ∈ es) (hy : y ∈ es) (h : x.path = y.path) : x = y := by
  obtain ⟨i, hi⟩ := List.getElem?_of_mem hx
  obtain ⟨j, hj⟩ := List.getElem?_of_mem hy
  obtain ⟨il, ie⟩ := List.getElem?_eq_some_iff.1 hi
  obtain ⟨jl, je⟩ := List.getElem?_eq_some_iff.1 hj
  rcases Nat.lt_trichotomy i j with hlt | heq | hgt
  · have := List.pairwise_iff_getElem.1 hu i j il jl hlt
    rw [ie, je, h, ltS_irr] at this; cases this
  · subst heq; rw [hi] at hj; cases hj; rfl
  · have := List.pairwise_iff_getElem.1 hu j i jl il hgt
    rw [ie, je, h, ltS_irr] at this; cases this
theorem fresh_small {p : packC.D} (h : smallP p) : smallP (freshP p) := ⟨by show 5 ≤ 1048576; omega, by show 1 ≤ 1048576; omega, ⟨by show 0 ≤ 1048576; omega, fun d hd => by cases hd⟩, h.tree⟩
theorem fresh_at {W : World} {cs : List Value} {p : packC.D} (h : packC.at_ W cs p) {n2 v : Value} (hc : cs = [.string (PackD.name p), .string (PackD.version p), n2, v]) : packC.at_ W [.string ⟨#[102, 114, 101, 115, 104]⟩, .string ⟨#[49]⟩, .slice none 0 0, v] (freshP p) := by
  obtain ⟨v2, v3, e, p2, p3⟩ := packC_at h
  rw [e] at hc
  simp only [List.cons.injEq, and_true, true_and] at hc
  obtain ⟨-, rfl⟩ := hc
  exact ⟨[_], _, rfl, rfl, ⟨[_], _, rfl, rfl, ⟨[_], _, rfl, ⟨_, rfl, ⟨none, 0, rfl, fun _ => rfl, Nat.le_refl _, .inl rfl⟩⟩, ⟨_, rfl, p3⟩⟩⟩⟩
end Go.Proofs.YtoljhgkgppjdcaaGreat

/- Roots that the laws read: packs under other names. -/
namespace Go.Proofs.YtoljhgkgppjdcaaGreat
open Go.RowKit Go.Shelf

/-- A pack in a row. -/
structure PA (W : World) (b o : Nat) (p : packC.D) (na : Option Addr) (nc : Nat) (ta : Option Addr) (tc : Nat) : Prop where
  lt : b < W.heap.size
  c0 : W.cell? ⟨b, o, none⟩ = some (.string (PackD.name p))
  c1 : W.cell? ⟨b, o + 1, none⟩ = some (.string (PackD.version p))
  c2 : W.cell? ⟨b, o + 2, none⟩ = some (.slice na (PackD.needs p).length nc)
  c3 : W.cell? ⟨b, o + 3, none⟩ = some (.slice ta (PackD.tree p).length tc)
  pr : PR W [.string (PackD.name p), .string (PackD.version p), .slice na (PackD.needs p).length nc, .slice ta (PackD.tree p).length tc] p
theorem PA.below {W W' : World} {b o : Nat} {p : packC.D} {na : Option Addr} {nc : Nat} {ta : Option Addr} {tc : Nat} (h : PA W b o p na nc ta tc) (hb : Below W.heap.size W W') : PA W' b o p na nc ta tc :=
  ⟨Nat.lt_of_lt_of_le h.lt hb.size, (hb.cell (p := ⟨b, o, none⟩) h.lt).trans h.c0, (hb.cell (p := ⟨b, o + 1, none⟩) h.lt).trans h.c1, (hb.cell (p := ⟨b, o + 2, none⟩) h.lt).trans h.c2, (hb.cell (p := ⟨b, o + 3, none⟩) h.lt).trans h.c3, h.pr.below hb⟩
theorem RR.get {W : World} {a : Option Addr} {c k : Nat} {ps : List packC.D} {p : packC.D} (h : RR W a c ps) (hk : ps[k]? = some p) : ∃ b o na nc ta tc, a = some ⟨b, o, none⟩ ∧ PA W b (o + k * 4) p na nc ta tc := by
  obtain ⟨a', c', e, -, -, h2⟩ := h.row
  cases e
  rcases h2 with h2 | ⟨b, o, rfl, hb, hc⟩
  · rw [h2] at hk; cases hk
  · obtain ⟨na, nc, ta, tc, ⟨c0, c1, c2, c3⟩, hat⟩ := pack_cells (Below.refl W.heap.size W) hb hc hk
    exact ⟨b, o, na, nc, ta, tc, rfl, hb, c0, c1, c2, c3, hat, h.small.2 p (List.mem_of_getElem? hk)⟩
theorem KW.pa {Φ : World → Prop} {W : World} (h : KW Φ W) {b o : Nat} {p : packC.D} {na : Option Addr} {nc : Nat} {ta : Option Addr} {tc : Nat} (hr : PA W b o p na nc ta tc) : KW (fun W => Φ W ∧ PA W b o p na nc ta tc) W := h.add (fun _ _ hb hp => hp.below hb) hr
theorem KW.cut {Φ Ψ : World → Prop} {W : World} (h : KW (fun W => Φ W ∧ Ψ W) W) (hk : StaysW Φ) : KW Φ W := ⟨hk, h.now.1⟩
theorem PR.fresh {W : World} {p : packC.D} {na : Option Addr} {nc : Nat} {ta : Option Addr} {tc : Nat} (h : PR W [.string (PackD.name p), .string (PackD.version p), .slice na (PackD.needs p).length nc, .slice ta (PackD.tree p).length tc] p) : PR W [.string ⟨#[102, 114, 101, 115, 104]⟩, .string ⟨#[49]⟩, .slice none 0 0, .slice ta (PackD.tree p).length tc] (freshP p) := ⟨fresh_at h.at_ rfl, fresh_small h.small⟩
end Go.Proofs.YtoljhgkgppjdcaaGreat

/- Whose a path of a root's tree is. -/
namespace Go.Proofs.YtoljhgkgppjdcaaGreat
open Go.RowKit Go.Shelf

def hasP (x : Ent) (q : packC.D) : Bool := thereE (treeOfP q) x.path
def cntP (x : Ent) (ps : List packC.D) : Nat := (List.filter (α := packC.D) (hasP x) ps).length
theorem cntP_take {x : Ent} {ps : List packC.D} {k : Nat} {q : packC.D} (h : ps[k]? = some q) : cntP x (ps.take (k + 1)) = cntP x (ps.take k) + if hasP x q then 1 else 0 := by
  unfold cntP
  rw [List.take_add_one, h, List.filter_append, List.length_append]
  congr 1
  show (List.filter (α := packC.D) (hasP x) [q]).length = _
  rw [List.filter_cons]
  split <;> rfl
theorem cntP_le (x : Ent) (ps : List packC.D) : cntP x ps ≤ ps.length := List.length_filter_le _ _
theorem tree_law {ps : List packC.D} {x : Ent} (h : rootOk_0 ⟨ps⟩ = true) (hx : x ∈ rootTreeE ⟨ps⟩) : (∀ q ∈ ps, hasP x q = true → gotE (treeOfP q) x.path = x) ∧ cntP x ps ≠ 0 ∧ (1 < cntP x ps → x.kind = 1) := by
  have hc := ok_0.1 h
  obtain ⟨f1, -, -, -, m, u⟩ := (code_iff ps).1 hc
  have hj := (joinS_iff f1).2 ⟨m, u⟩
  have e : rootTreeE ⟨ps⟩ = joinG ps := by unfold rootTreeE; rw [if_pos h]
  have ht : treeB (joinG ps) = true := joinG_tree ps
  have ut := tree_up ht
  rw [e] at hx
  have hmem := joinG_mem f1 hj
  have hin : ∀ q ∈ ps, hasP x q = true → x ∈ treeOfP q := fun q hq hh => by
    obtain ⟨y, hy, hp⟩ := (there_iff (tree_up (pk_tree (f1 q hq))) x.path).1 hh
    have : y = x := up_one ut ((hmem y).2 ⟨q, hq, hy⟩) hx hp
    rwa [this] at hy
  refine ⟨fun q hq hh => (there_mem' (pk_tree (f1 q hq)) (hin q hq hh)).2, ?_, fun hcnt => ?_⟩
  · obtain ⟨q, hq, hxq⟩ := (hmem x).1 hx
    have hh : hasP x q = true := (there_mem' (pk_tree (f1 q hq)) hxq).1
    have : q ∈ List.filter (α := packC.D) (hasP x) ps := List.mem_filter.2 ⟨hq, hh⟩
    have := List.length_pos_of_mem this
    unfold cntP
    omega
  · unfold cntP at hcnt
    have mf : List.Pairwise (α := packC.D) (fun p q => Compat (treeOfP p) (treeOfP q)) (List.filter (α := packC.D) (hasP x) ps) := List.Pairwise.filter _ m
    have hall : ∀ q ∈ List.filter (α := packC.D) (hasP x) ps, x ∈ treeOfP q := fun q hq => hin q (List.mem_filter.1 hq).1 (List.mem_filter.1 hq).2
    generalize List.filter (α := packC.D) (hasP x) ps = fs at hcnt mf hall
    match fs, hcnt, mf, hall with
    | a :: b :: _, _, mf, hall =>
      have := (List.pairwise_cons.1 mf).1 b (by simp)
      exact (this x (hall b (by simp)) x (hall a (by simp)) rfl).2
end Go.Proofs.YtoljhgkgppjdcaaGreat

/- Roots that the laws read: their trees. -/
namespace Go.Proofs.YtoljhgkgppjdcaaGreat
open Go.RowKit Go.Shelf

theorem specTree_r {W : World} {a : Option Addr} {c : Nat} {ps : List packC.D} (h : RR W a c ps) : Calls Tryz.prog 16 #[.agg #[.slice a ps.length c]] W fun x w' => ∃ a' c', x = .returned (.slice a' (rootTreeE ⟨ps⟩).length c') ∧ ER w' a' (rootTreeE ⟨ps⟩) ∧ Below W.heap.size W w' :=
  (specRootTree_any ⟨ps⟩ a c W h.small h.row).mono (fun _ _ ⟨u, h1, h2, h3⟩ => by
    obtain ⟨a', c', rfl, hr⟩ := rowIn_of_owns h2
    exact ⟨a', c', h1, ⟨rowIn_ents hr, tree_smallE (rootTree_tree ⟨ps⟩)⟩, h3⟩)
theorem treeOk_r {W : World} {a : Option Addr} {c : Nat} {ps : List packC.D} (h : ER W a (rootTreeE ⟨ps⟩)) : Calls Tryz.prog 20 #[.slice a (rootTreeE ⟨ps⟩).length c] W fun x w' => x = .returned (.bool true) ∧ Below W.heap.size W w' :=
  (treeOkP_any (rootTreeE ⟨ps⟩) a c W h.small h.ents).mono (fun _ _ ⟨h3, h4⟩ => ⟨by rw [h3, rootTree_tree], h4⟩)
/-- A path of a pack's tree, asked for. -/
theorem getP_r {W : World} {na : Option Addr} {nc : Nat} {ta : Option Addr} {tc : Nat} {q : packC.D} (x : Ent) (hq : pkOk q = true) (h : PR W [.string (PackD.name q), .string (PackD.version q), .slice na (PackD.needs q).length nc, .slice ta (PackD.tree q).length tc] q) : Calls Tryz.prog 19 #[.slice ta (PackD.tree q).length tc, .string x.path] W fun r w' => r = .returned (.tuple #[.agg #[.string (gotE (treeOfP q) x.path).path, .int .i64 (gotE (treeOfP q) x.path).kind, .int .i64 (gotE (treeOfP q) x.path).mode, .string (gotE (treeOfP q) x.path).text], .bool (hasP x q)]) ∧ Below W.heap.size W w' := by
  obtain ⟨h1, h2⟩ := h.tree
  rw [← h2]
  refine (treeGet_any (treeOfP q) ta tc x.path W h.small.tree h1).mono (fun _ _ ⟨h3, h4⟩ => ⟨?_, h4⟩)
  rw [h3, pk_tree hq, Bool.true_and]
  rfl
theorem set4_same (w : World) (g : Nat) (a b c d : Value) (ty : Nat) (v0 v1 v2 v3 : Value) (h : w.heap[g]? = some (.cells #[a, b, c, d] ty (0, 0))) : ((((w.setCell ⟨g, 0, none⟩ v0).setCell ⟨g, 1, none⟩ v1).setCell ⟨g, 2, none⟩ v2).setCell ⟨g, 3, none⟩ v3).heap[g]? = some (.cells #[v0, v1, v2, v3] ty (0, 0)) :=
  heap_setCell_same _ g 3 _ _ v3 (heap_setCell_same _ g 2 _ _ v2 (heap_setCell_same _ g 1 _ _ v1 (heap_setCell_same w g 0 _ _ v0 h)))
theorem set4_below {B : Nat} {W w : World} {g : Nat} (v0 v1 v2 v3 : Value) (h : Below B W w) (hg : B ≤ g) : Below B W ((((w.setCell ⟨g, 0, none⟩ v0).setCell ⟨g, 1, none⟩ v1).setCell ⟨g, 2, none⟩ v2).setCell ⟨g, 3, none⟩ v3) :=
  (((h.setCell (p := ⟨g, 0, none⟩) hg v0).setCell (p := ⟨g, 1, none⟩) hg v1).setCell (p := ⟨g, 2, none⟩) hg v2).setCell (p := ⟨g, 3, none⟩) hg v3
end Go.Proofs.YtoljhgkgppjdcaaGreat
