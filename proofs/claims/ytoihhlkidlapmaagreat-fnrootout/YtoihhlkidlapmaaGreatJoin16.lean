/- Texts of this proof, one behind the other; each says at its head what it shows. -/
import Derived.Test.YtoihhlkidlapmaaGreatJoin15
import Derived.Test.YtoihhlkidlapmaaGreatJoin6
import Derived.Test.YtoihhlkidlapmaaGreatJoin12
import Derived.Test.YtoihhlkidlapmaaGreatJoin14
import Derived.Test.YtoihhlkidlapmaaGreatJoin5
import Derived.Maps.AppendAt
import Derived.Test.YtoihhlkidlapmaaGreatJoin9
import Derived.Deep.LoopGhost
import Derived.Test.YtoihhlkidlapmaaGreatJoin11
import Derived.Test.YtoihhlkidlapmaaGreatJoin1
import Derived.Deep.CutBlock
import Derived.Maps.OwnRows
import Derived.Maps.GroupsBeside
namespace Go.Proofs.YtoihhlkidlapmaaGreat
open Go.RowKit Go.Shelf
theorem rowIn_ents {W : World} {a : Option Addr} {N M : Nat} {es : List Ent} (h : RowIn W a N M es) : EntsAt W a es := by
  rcases h with h | ⟨g, rfl, _, _, hR⟩
  · exact .inl h
  · refine .inr ⟨g, 0, rfl, hR.lt, fun i e hi => ?_⟩
    have := (hR.cells i (List.getElem?_eq_some_iff.1 hi).1).1
    rw [entFn_get hi] at this
    rwa [Nat.zero_add]
structure ER (W : World) (a : Option Addr) (es : List Ent) : Prop where
  ents : EntsAt W a es
  small : smallE es
theorem ER.below {W W' : World} {a : Option Addr} {es : List Ent} (h : ER W a es) (hb : Below W.heap.size W W') : ER W' a es := ⟨h.ents.below hb, h.small⟩
theorem KW.ents {Φ : World → Prop} {W : World} (h : KW Φ W) {a : Option Addr} {es : List Ent} (hr : ER W a es) : KW (fun W => Φ W ∧ ER W a es) W := h.add (fun _ _ hb hp => hp.below hb) hr
theorem KW.mark {Φ : World → Prop} {W : World} (h : KW Φ W) : KW (fun W' => Φ W' ∧ Below W.heap.size W W') W := h.add (fun _ _ hb hp => hp.trans (hb.mono hp.size)) (Below.refl _ W)
theorem implOk_r {W : World} {a : Option Addr} {c : Nat} {ps : List packC.D} (h : RR W a c ps) : Calls Tryz.prog 42 #[.agg #[.slice a ps.length c]] W fun x w' => x = .returned (.bool (rootOk_0 ⟨ps⟩)) ∧ Below W.heap.size W w' := implRootOk_any ⟨ps⟩ a c W h.small h.row
theorem specOk_r {W : World} {a : Option Addr} {c : Nat} {ps : List packC.D} (h : RR W a c ps) : Calls Tryz.prog 35 #[.agg #[.slice a ps.length c]] W fun x w' => x = .returned (.bool (rootOk_0 ⟨ps⟩)) ∧ Below W.heap.size W w' := specRootOk_any ⟨ps⟩ a c W h.small h.row
theorem tree_smallE {es : List Ent} (h : treeB es = true) : smallE es := ⟨by have := tree_16 h; omega, fun e he => ⟨by have := ent_path_len (tree_all h e he); omega, by have := ent_text_len (tree_all h e he); omega⟩⟩
theorem tree_r {W : World} {a : Option Addr} {c : Nat} {ps : List packC.D} (h : RR W a c ps) : Calls Tryz.prog 37 #[.agg #[.slice a ps.length c]] W fun x w' => ∃ a' c', x = .returned (.slice a' (rootTreeE ⟨ps⟩).length c') ∧ ER w' a' (rootTreeE ⟨ps⟩) ∧ Below W.heap.size W w' :=
  (implRootTree_any ⟨ps⟩ a c W h.small h.row).mono (fun _ _ ⟨u, h1, h2, h3⟩ => by
    obtain ⟨a', c', rfl, hr⟩ := rowIn_of_owns h2
    exact ⟨a', c', h1, ⟨rowIn_ents hr, tree_smallE (rootTree_tree ⟨ps⟩)⟩, h3⟩)
theorem out_r {W : World} {a : Option Addr} {c : Nat} {ps qs : List packC.D} {q : ByteArray} {k : Int} (h : RR W a c ps) (e : rootOutP ⟨ps⟩ q = qs) (ek : rootOutC ⟨ps⟩ q = k) (hs : smallPs qs) (hf : qs.length ≤ 100) : Calls Tryz.prog 39 #[.agg #[.slice a ps.length c], .string q] W (Turned qs k W) :=
  (implRootOut_any ⟨ps⟩ a c q W h.small h.row).mono (fun _ _ ⟨r, L, h1, h2, h3, h4⟩ => by
    rw [e] at h3
    obtain ⟨a', c', rfl, hr⟩ := rr_of h2 h3 hs hf
    exact ⟨a', c', by rw [h1, ek], hr, h4⟩)
theorem PR.tree {W : World} {p : packC.D} {n0 t0 : Option Addr} {n1 t1 : Nat} (h : PR W [.string (PackD.name p), .string (PackD.version p), .slice n0 (PackD.needs p).length n1, .slice t0 (PackD.tree p).length t1] p) : EntsAt W t0 (treeOfP p) ∧ (treeOfP p).length = (PackD.tree p).length := by
  obtain ⟨h1, h2, _⟩ := tree_in h.at_
  exact ⟨h1, h2⟩
theorem KW.ent {Φ : World → Prop} {W : World} (h : KW Φ W) {b o : Nat} {e : Ent} (hb : b < W.heap.size) (hr : EntAt W b o e) : KW (fun W => Φ W ∧ (b < W.heap.size ∧ EntAt W b o e)) W := h.add (fun _ _ hb hp => ⟨Nat.lt_of_lt_of_le hp.1 hb.size, hp.2.below hb hp.1⟩) ⟨hb, hr⟩
end Go.Proofs.YtoihhlkidlapmaaGreat

namespace Go.Proofs.YtoihhlkidlapmaaGreat
open Go.RowKit Go.Shelf
def freshP (p : packC.D) : packC.D := (⟨⟨#[102, 114, 101, 115, 104]⟩, ⟨#[49]⟩, [], PackD.tree p⟩ : PackD)
theorem fresh_small {p : packC.D} (h : smallP p) : smallP (freshP p) := ⟨by show 5 ≤ 1048576; omega, by show 1 ≤ 1048576; omega, ⟨by show 0 ≤ 1048576; omega, fun d hd => by cases hd⟩, h.tree⟩
theorem fresh_at {W : World} {cs : List Value} {p : packC.D} (h : packC.at_ W cs p) {n2 v : Value} (hc : cs = [.string (PackD.name p), .string (PackD.version p), n2, v]) : packC.at_ W [.string ⟨#[102, 114, 101, 115, 104]⟩, .string ⟨#[49]⟩, .slice none 0 0, v] (freshP p) := by
  obtain ⟨v2, v3, e, p2, p3⟩ := packC_at h
  rw [e] at hc
  simp only [List.cons.injEq, and_true, true_and] at hc
  obtain ⟨-, rfl⟩ := hc
  exact ⟨[_], _, rfl, rfl, ⟨[_], _, rfl, rfl, ⟨[_], _, rfl, ⟨_, rfl, ⟨none, 0, rfl, fun _ => rfl, Nat.le_refl _, .inl rfl⟩⟩, ⟨_, rfl, p3⟩⟩⟩⟩
end Go.Proofs.YtoihhlkidlapmaaGreat

namespace Go.Proofs.YtoihhlkidlapmaaGreat
open Go.RowKit Go.Shelf
structure PA (W : World) (b o : Nat) (p : packC.D) (na : Option Addr) (nc : Nat) (ta : Option Addr) (tc : Nat) : Prop where
  lt : b < W.heap.size
  c0 : W.cell? ⟨b, o, none⟩ = some (.string (PackD.name p))
  c1 : W.cell? ⟨b, o + 1, none⟩ = some (.string (PackD.version p))
  c2 : W.cell? ⟨b, o + 2, none⟩ = some (.slice na (PackD.needs p).length nc)
  c3 : W.cell? ⟨b, o + 3, none⟩ = some (.slice ta (PackD.tree p).length tc)
  pr : PR W [.string (PackD.name p), .string (PackD.version p), .slice na (PackD.needs p).length nc, .slice ta (PackD.tree p).length tc] p
theorem PA.below {W W' : World} {b o : Nat} {p : packC.D} {na : Option Addr} {nc : Nat} {ta : Option Addr} {tc : Nat} (h : PA W b o p na nc ta tc) (hb : Below W.heap.size W W') : PA W' b o p na nc ta tc :=
  ⟨Nat.lt_of_lt_of_le h.lt hb.size, (hb.cell (p := ⟨b, o, none⟩) h.lt).trans h.c0, (hb.cell (p := ⟨b, o + 1, none⟩) h.lt).trans h.c1, (hb.cell (p := ⟨b, o + 2, none⟩) h.lt).trans h.c2, (hb.cell (p := ⟨b, o + 3, none⟩) h.lt).trans h.c3, h.pr.below hb⟩
theorem RR.get {W : World} {a : Option Addr} {c k : Nat} {ps : List packC.D} {p : packC.D} (h : RR W a c ps) (hk : ps[k]? = some p) : ∃ b o na nc ta tc, a = some ⟨b, o, none⟩ ∧ PA W b (o + k * 4) p na nc ta tc := by
  obtain ⟨a', c', e, -, -, h2⟩ := h.row
  cases e
  rcases h2 with h2 | ⟨b, o, rfl, hb, hc⟩
  · rw [h2] at hk; cases hk
  · obtain ⟨na, nc, ta, tc, ⟨c0, c1, c2, c3⟩, hat⟩ := pack_cells (Below.refl W.heap.size W) hb hc hk
    exact ⟨b, o, na, nc, ta, tc, rfl, hb, c0, c1, c2, c3, hat, h.small.2 p (List.mem_of_getElem? hk)⟩
theorem KW.pa {Φ : World → Prop} {W : World} (h : KW Φ W) {b o : Nat} {p : packC.D} {na : Option Addr} {nc : Nat} {ta : Option Addr} {tc : Nat} (hr : PA W b o p na nc ta tc) : KW (fun W => Φ W ∧ PA W b o p na nc ta tc) W := h.add (fun _ _ hb hp => hp.below hb) hr
theorem KW.cut {Φ Ψ : World → Prop} {W : World} (h : KW (fun W => Φ W ∧ Ψ W) W) (hk : StaysW Φ) : KW Φ W := ⟨hk, h.now.1⟩
theorem PR.fresh {W : World} {p : packC.D} {na : Option Addr} {nc : Nat} {ta : Option Addr} {tc : Nat} (h : PR W [.string (PackD.name p), .string (PackD.version p), .slice na (PackD.needs p).length nc, .slice ta (PackD.tree p).length tc] p) : PR W [.string ⟨#[102, 114, 101, 115, 104]⟩, .string ⟨#[49]⟩, .slice none 0 0, .slice ta (PackD.tree p).length tc] (freshP p) := ⟨fresh_at h.at_ rfl, fresh_small h.small⟩
end Go.Proofs.YtoihhlkidlapmaaGreat

namespace Go.Proofs.YtoihhlkidlapmaaGreat
open Go.RowKit Go.Shelf
end Go.Proofs.YtoihhlkidlapmaaGreat

namespace Go.Proofs.YtoihhlkidlapmaaGreat
open Go.RowKit Go.Shelf
end Go.Proofs.YtoihhlkidlapmaaGreat

namespace Go.Proofs.YtoihhlkidlapmaaGreat
open Go.RowKit Go.Shelf Go.Maps
theorem ownsRow_keep {W W' : World} {N e n size : Nat} {v : Value} {xs : List Value} (h : W.ownsRow N e size v n xs) (hk : ∀ j, v.ownBlock = some j → W'.heap[j]? = W.heap[j]?) : W'.ownsRow N e size v n xs := by
  refine ⟨h.1, ?_⟩
  rcases h.2 with h0 | ⟨g, cap, cur, hv, hg, hh, h2⟩
  · exact .inl h0
  · exact .inr ⟨g, cap, cur, hv, hg, (hk g (by rw [hv]; rfl)).trans hh, h2⟩
theorem ownsRow_sl {W : World} {N e n size : Nat} {v : Value} {xs : List Value} (h : W.ownsRow N e size v n xs) : ∃ a c, v = .slice a n c := by
  rcases h.2 with ⟨rfl, rfl⟩ | ⟨g, cap, cur, hv, _⟩
  · exact ⟨none, 0, rfl⟩
  · exact ⟨_, cap, hv⟩
theorem infoInt3 : (Tryz.prog.info? 3).map (fun i => (i.zero, i.size, i.bytes)) = some (some (.int .i64 0), 1, 8) := by kernel_rfl
theorem int_oneN (x : Int) : ∀ u ∈ [Value.int .i64 x], u.oneCell' = true := fun u hu => by rw [List.mem_singleton.1 hu]; rfl
theorem app_nameL (w : World) (base ty : Nat) (v : Value) (xs : List ByteArray) (x : ByteArray) (g : Nat) (hown : w.ownsRow base 9 1 v xs.length (xs.map Value.string)) (h : w.cell? ⟨g, 0, none⟩ = some (.string x)) (hn : xs.length ≤ 4294967296) (hb : base ≤ w.heap.size) :
    ∃ v' w', (Builtin.append_ #[24, 24] ty #[v, .slice (some ⟨g, 0, none⟩) 1 1]).run Tryz.prog w = .ok v' w' ∧ w'.ownsRow base 9 1 v' (xs ++ [x]).length ((xs ++ [x]).map Value.string) ∧ w.grownBy w' v.ownBlock ∧ (v'.ownBlock = v.ownBlock ∨ v'.ownBlock = some w.heap.size) := by
  obtain ⟨i0, hi, hz0, hz1, hz2⟩ := info_parts infoStr
  obtain ⟨v', w', hr, h2, h3, _, h5⟩ := run_append_own_at (P := Tryz.prog) w base 24 ty 9 i0 (.string ⟨#[]⟩) 1 16 Tryz.underlying24 hi hz0 hz1 hz2 rfl (by decide) v xs.length _ hown ⟨g, 0, none⟩ 1 1 [.string x] (by simp) (by
    intro j u hj
    have : j = 0 := by
      have := (List.getElem?_eq_some_iff.1 hj).1
      simpa using this
    subst this
    simp at hj
    subst hj
    exact h) (str_oneN x) (by unfold maxLen; omega) (by omega) hb
  refine ⟨v', w', hr, ?_, h3, h5⟩
  rw [List.map_append, List.length_append]
  exact h2
end Go.Proofs.YtoihhlkidlapmaaGreat

namespace Go.Proofs.YtoihhlkidlapmaaGreat
open Go.RowKit Go.Shelf Go.Maps
end Go.Proofs.YtoihhlkidlapmaaGreat

namespace Go.Proofs.YtoihhlkidlapmaaGreat
open Go.RowKit Go.Shelf Go.Maps
end Go.Proofs.YtoihhlkidlapmaaGreat

namespace Go.Proofs.YtoihhlkidlapmaaGreat
open Go.RowKit Go.Shelf Go.Maps
end Go.Proofs.YtoihhlkidlapmaaGreat

namespace Go.Proofs.YtoihhlkidlapmaaGreat
open Go.RowKit Go.Shelf Go.Maps
end Go.Proofs.YtoihhlkidlapmaaGreat

namespace Go.Proofs.YtoihhlkidlapmaaGreat
open Go.RowKit Go.Shelf Go.Maps
set_option maxRecDepth 100000 in
set_option maxHeartbeats 2000000 in
theorem namesOfPacks_any (ps : List packC.D) (v : Value) (w : World) (hl : ps.length ≤ 1048576) (h : rowAt packC w v ps) :
    Calls Tryz.prog 62 #[v] w fun x w' => ∃ u, x = .returned u ∧ w'.ownsRow w.heap.size 9 1 u (namesP ps).length ((namesP ps).map Value.string) ∧ Below w.heap.size w w' := by
  have H := hid (packNames_any ps v w hl h)
  clear h
  go_enter Tryz.func62, Tryz.ntmps62
  go_wp2_with fail
  refine (unhid H).mono ?_
  rintro x w2 ⟨u, rfl, ho, hb⟩
  have HF := hid (And.intro ho hb)
  obtain ⟨a, c, rfl⟩ := ownsRow_sl ho
  clear ho hb H
  go_wp2_with fail
  go_ret
  exact ⟨_, rfl, (unhid HF).1, (unhid HF).2⟩
end Go.Proofs.YtoihhlkidlapmaaGreat

namespace Go.Proofs.YtoihhlkidlapmaaGreat
open Go.RowKit Go.Shelf
end Go.Proofs.YtoihhlkidlapmaaGreat

namespace Go.Proofs.YtoihhlkidlapmaaGreat
open Go.RowKit Go.Shelf Go.Maps
theorem names_small {ps : List packC.D} (hs : smallPs ps) : ∀ x ∈ namesP ps, x.size ≤ 1048576 := fun x hx => by
  obtain ⟨i, hi⟩ := List.getElem?_of_mem hx
  obtain ⟨p, hp, rfl⟩ := namesP_some hi
  exact (hs.2 p (List.mem_of_getElem? hp)).name
end Go.Proofs.YtoihhlkidlapmaaGreat

namespace Go.Proofs.YtoihhlkidlapmaaGreat
open Go.RowKit Go.Shelf
end Go.Proofs.YtoihhlkidlapmaaGreat

namespace Go.Proofs.YtoihhlkidlapmaaGreat
open Go.RowKit Go.Shelf
structure DC (W : World) (v V : Value) (ps : List packC.D) (xs : List ByteArray) : Prop where
  packs : rowAt packC W v ps
  names : rowAt txtC W V xs
  ok : ∀ d ∈ ps, DPk d
  few : ps.length ≤ 5
  fewx : xs.length ≤ 3
  short : ∀ x ∈ xs, short x
theorem DC.below {W W' : World} {v V : Value} {ps : List packC.D} {xs : List ByteArray} (h : DC W v V ps xs) (hb : Below W.heap.size W W') : DC W' v V ps xs := ⟨h.packs.below hb, h.names.below hb, h.ok, h.few, h.fewx, h.short⟩
theorem DC.small {W : World} {v V : Value} {ps : List packC.D} {xs : List ByteArray} (h : DC W v V ps xs) : smallPs ps := ⟨by have := h.few; omega, fun d hd => (h.ok d hd).small⟩
end Go.Proofs.YtoihhlkidlapmaaGreat

namespace Go.Proofs.YtoihhlkidlapmaaGreat
open Go.RowKit Go.Shelf Go.Maps
structure TR (W : World) (a : Option Addr) (c : Nat) (xs : List ByteArray) : Prop where
  row : rowAt txtC W (.slice a xs.length c) xs
  few : xs.length ≤ 1000
  small : ∀ x ∈ xs, x.size ≤ 1048576
theorem TR.below {W W' : World} {a : Option Addr} {c : Nat} {xs : List ByteArray} (h : TR W a c xs) (hb : Below W.heap.size W W') : TR W' a c xs := ⟨h.row.below hb, h.few, h.small⟩
theorem TR.txts {W : World} {a : Option Addr} {c : Nat} {xs : List ByteArray} (h : TR W a c xs) : TxtsAt W a xs ∧ (a = none → c = 0) ∧ xs.length ≤ c := by
  obtain ⟨a', c', e, h1, h2, h3⟩ := rowAt_txts h.row
  injection e with e1 _ e3
  subst e1 e3
  exact ⟨h1, h2, h3⟩
theorem TR.nil (W : World) : TR W none 0 [] := ⟨row0 W, Nat.zero_le _, fun x hx => by cases hx⟩
theorem TR.one {W : World} {g : Nat} {x : ByteArray} (h : W.heap[g]? = some (.cells #[.string x] 9 (0, 0))) (hx : x.size ≤ 1048576) : TR W (some ⟨g, 0, none⟩) 1 [x] :=
  ⟨rowAt_of_txts (xs := [x]) (.inr ⟨g, 0, rfl, (Array.getElem?_eq_some_iff.1 h).1, fun i y hi => by
    rw [Nat.zero_add]
    cases i with
    | zero => simp at hi; subst hi; exact cell_arrS h 0 _ rfl
    | succ i => simp at hi⟩) (fun e => by cases e) (Nat.le_refl _), by simp, fun y hy => by rw [List.mem_singleton.1 hy]; exact hx⟩
theorem TR.get {W : World} {a : Option Addr} {c : Nat} {xs : List ByteArray} (h : TR W a c xs) {i : Nat} {x : ByteArray} (hi : xs[i]? = some x) : ∃ b o, a = some ⟨b, o, none⟩ ∧ b < W.heap.size ∧ W.cell? ⟨b, o + i, none⟩ = some (.string x) := by
  obtain ⟨b, o, h1, h2, h3⟩ := h.txts.1.get (by intro e; subst e; simp at hi)
  exact ⟨b, o, h1, h2, h3 i x hi⟩
theorem KW.txts {Φ : World → Prop} {W : World} (h : KW Φ W) {a : Option Addr} {c : Nat} {xs : List ByteArray} (hr : TR W a c xs) : KW (fun W => Φ W ∧ TR W a c xs) W := h.add (fun _ _ hb hp => hp.below hb) hr
theorem TR.take {W : World} {a : Option Addr} {c : Nat} {xs : List ByteArray} (h : TR W a c xs) {n : Nat} (hn : n ≤ xs.length) : TR W a c (xs.take n) := by
  obtain ⟨h1, h2, h3⟩ := h.txts
  refine ⟨rowAt_of_txts ?_ h2 (by rw [List.length_take]; omega), by rw [List.length_take]; have := h.few; omega, fun x hx => h.small x (List.mem_of_mem_take hx)⟩
  rcases h1 with h1 | ⟨b, o, e, hb, hc⟩
  · exact .inl (by rw [h1, List.take_nil])
  · refine .inr ⟨b, o, e, hb, fun i x hi => hc i x ?_⟩
    have hl : i < (xs.take n).length := (List.getElem?_eq_some_iff.1 hi).1
    rw [List.length_take] at hl
    rwa [List.getElem?_take_of_lt (by omega)] at hi
end Go.Proofs.YtoihhlkidlapmaaGreat

namespace Go.Proofs.YtoihhlkidlapmaaGreat
open Go.RowKit Go.Shelf Go.Maps Go.ChangeShapes
def prs : Nat → List packC.D → List (ByteArray × Nat)
  | _, [] => []
  | i, p :: ps => (needsOf p).map (fun n : needC.D => (NeedD.name n, i)) ++ prs (i + 1) ps
theorem prs_snoc : ∀ (i : Nat) (ps : List packC.D) (p : packC.D), prs i (ps ++ [p]) = prs i ps ++ (needsOf p).map (fun n : needC.D => (NeedD.name n, i + ps.length))
  | i, [], p => by simp [prs]
  | i, q :: ps, p => by
    rw [List.cons_append, prs, prs, prs_snoc (i + 1) ps p, List.append_assoc, List.length_cons, show i + 1 + ps.length = i + (ps.length + 1) by omega]
theorem prs_take {ps : List packC.D} {k : Nat} {p : packC.D} (h : ps[k]? = some p) : prs 0 (ps.take (k + 1)) = prs 0 (ps.take k) ++ (needsOf p).map (fun n : needC.D => (NeedD.name n, k)) := by
  have hl := (List.getElem?_eq_some_iff.1 h).1
  rw [List.take_add_one, h]
  show prs 0 (ps.take k ++ [p]) = _
  rw [prs_snoc, List.length_take, Nat.min_eq_left (by omega), Nat.zero_add]
theorem mem_prs {x : ByteArray} {j : Nat} : ∀ {i : Nat} {ps : List packC.D}, (x, j) ∈ prs i ps ↔ ∃ k p, ps[k]? = some p ∧ j = i + k ∧ ∃ n ∈ needsOf p, NeedD.name n = x
  | i, [] => by simp [prs]
  | i, q :: ps => by
    rw [prs, List.mem_append, mem_prs (i := i + 1) (ps := ps), List.mem_map]
    constructor
    · rintro (⟨n, hn, e⟩ | ⟨k, p, h1, h2, h3⟩)
      · cases e; exact ⟨0, q, rfl, rfl, n, hn, rfl⟩
      · exact ⟨k + 1, p, h1, by omega, h3⟩
    · rintro ⟨k, p, h1, h2, n, h3, h4⟩
      cases k with
      | zero => cases h1; left; exact ⟨n, h3, by rw [h4, h2]; rfl⟩
      | succ k => right; exact ⟨k, p, h1, by omega, n, h3, h4⟩
theorem prs_len {c : Nat} : ∀ (i : Nat) (ps : List packC.D), (∀ p ∈ ps, (needsOf p).length ≤ c) → (prs i ps).length ≤ ps.length * c
  | i, [], _ => by simp [prs]
  | i, q :: ps, h => by
    have h1 := prs_len (i + 1) ps (fun p hp => h p (List.mem_cons_of_mem _ hp))
    have h2 := h q (by simp)
    rw [prs, List.length_append, List.length_map, List.length_cons, Nat.add_mul]
    omega
def placesOf (l : List (ByteArray × Nat)) (y : ByteArray) : List Int := (l.filter (fun c => decide (c.1 = y))).map (fun c => (c.2 : Int))
theorem places_same (l : List (ByteArray × Nat)) (x : ByteArray) (i : Nat) : placesOf (l ++ [(x, i)]) x = placesOf l x ++ [(i : Int)] := by
  unfold placesOf
  rw [List.filter_append, List.filter_cons_of_pos (by simp), List.filter_nil, List.map_append]
  rfl
theorem places_other (l : List (ByteArray × Nat)) {x y : ByteArray} (i : Nat) (h : y ≠ x) : placesOf (l ++ [(x, i)]) y = placesOf l y := by
  unfold placesOf
  rw [List.filter_append, List.filter_cons_of_neg (by simp; exact fun e => h e.symm), List.filter_nil, List.append_nil]
theorem mem_places {l : List (ByteArray × Nat)} {y : ByteArray} {z : Int} : z ∈ placesOf l y ↔ ∃ i : Nat, (y, i) ∈ l ∧ z = (i : Int) := by
  unfold placesOf
  rw [List.mem_map]
  constructor
  · rintro ⟨c, hc, rfl⟩
    rw [List.mem_filter, decide_eq_true_eq] at hc
    exact ⟨c.2, by rw [← hc.2]; exact hc.1, rfl⟩
  · rintro ⟨i, hi, rfl⟩
    exact ⟨(y, i), List.mem_filter.2 ⟨hi, by simp⟩, rfl⟩
theorem places_len (l : List (ByteArray × Nat)) (y : ByteArray) : (placesOf l y).length ≤ l.length := by
  unfold placesOf
  rw [List.length_map]
  exact List.length_filter_le _ _
theorem lits_inj {zs ys : List Int} (h : (lits .i64 zs : List (DataW Unit)) = lits .i64 ys) : zs = ys := by
  unfold lits at h
  exact (List.map_inj_right (fun a b e => by injection e with e; injection e)).1 h
structure Groups (W : World) (b : Nat) (l : List (ByteArray × Nat)) (D : DataW Unit) : Prop where
  own : W.ownsGroups Tryz.prog 9 (b + 1) 3 .i64 b l.length D
  isMap : IsMap D
  at_ : ∀ y : ByteArray, (D.atKey (.string y.data.toList) .nil = .nil ∧ placesOf l y = []) ∨ D.atKey (.string y.data.toList) .nil = .slice (lits .i64 (placesOf l y)) []
theorem Groups.zs {W W' : World} {b n : Nat} {l : List (ByteArray × Nat)} {D : DataW Unit} (h : Groups W b l D) {y : ByteArray} {v : Value} {zs : List Int} (hat : D.atKey (.string y.data.toList) .nil = rowDatum .i64 v zs) (ho : W'.ownsInts n 3 .i64 v zs) : zs = placesOf l y := by
  rcases h.at_ y with ⟨h1, h2⟩ | h1
  · rcases ho.datum (H := Unit) with ⟨h3, h4⟩ | h3
    · rw [h4, h2]
    · rw [h1, h3] at hat; cases hat
  · rcases ho.datum (H := Unit) with ⟨h3, h4⟩ | h3
    · rw [h1, h3] at hat; cases hat
    · rw [h1, h3] at hat
      injection hat with hat _
      exact (lits_inj hat).symm
theorem own_any {v : Value} : v.ownBlock = none ∨ v.ownBlock ≠ none := by cases v.ownBlock <;> simp
theorem Groups.keep {W W' : World} {b : Nat} {l : List (ByteArray × Nat)} {D : DataW Unit} (h : Groups W b l D) (hb : Below W.heap.size W W') : Groups W' b l D :=
  ⟨h.own.kept (below_grown none hb) (by simp) (fun _ _ _ _ _ => own_any), h.isMap, h.at_⟩
theorem Groups.next {W W' : World} {b : Nat} {l : List (ByteArray × Nat)} {D : DataW Unit} (h : Groups W b l D) {x : ByteArray} {i : Nat} {v' : Value} {base : Nat} (ho : W'.ownsInts base 3 .i64 v' (placesOf l x ++ [(i : Int)])) {W2 : World}
    (h2 : W2.ownsGroups Tryz.prog 9 (b + 1) 3 .i64 b (l.length + 1) (D.put (.string x.data.toList) (rowDatum .i64 v' (placesOf l x ++ [(i : Int)])))) : Groups W2 b (l ++ [(x, i)]) (D.put (.string x.data.toList) (rowDatum .i64 v' (placesOf l x ++ [(i : Int)]))) := by
  refine ⟨by rw [List.length_append]; exact h2, h.isMap.put _ _, fun y => ?_⟩
  by_cases hyx : y = x
  · subst hyx
    rw [atKey_put_same h.isMap (isKey_str _), places_same]
    exact .inr (ho.datum_pos (by simp))
  · rw [atKey_put_other (fun e => hyx (bytes_eq (by injection e))), places_other _ _ hyx]
    exact h.at_ y
theorem zeroInts (w : World) : (zeroValue 88).run Tryz.prog w = .ok (.slice none 0 0) w := by kernel_rfl
theorem Groups.look {W : World} {b : Nat} {l : List (ByteArray × Nat)} {D : DataW Unit} (h : Groups W b l D) (hl : l.length < maxLen) {x : ByteArray} (hx : x.size ≤ maxLen) :
    ∃ v, (Instr.lookup 93 (.map (some b)) (.string x) false).run Tryz.prog W = .ok v W ∧ W.ownsInts (b + 1) 3 .i64 v (placesOf l x) ∧ W.groupBack Tryz.prog 93 9 (b + 1) 3 .i64 b l.length D (.string x) (.string x.data.toList) v := by
  obtain ⟨v, zs, h1, h2, h3, _, h5⟩ := h.own.at law9 Tryz.underlying93 (zeroInts W) hl (Go.WideMaps.keyOf_string_mk Tryz.underlying9 hx)
  have e := h.zs h2 h3
  subst e
  exact ⟨v, h1, h3, h5⟩
theorem look_op {ops : Array Oper} {Q : Exit → Act → World → Prop} {K : Act → World → Prop} {a : Act} {w : World} {o : Oper} {t : Nat} {m x : Operand} (d b : Nat) (key v : Value) (hop : o.op = Op.lookup t m x false) (hw : Region.wanted o (yielded ops a.tmps) = true) (hd : o.dst = some d) (hm : a.eval m = .map (some b)) (hx : a.eval x = key)
    (hrun : (Instr.lookup t (.map (some b)) key false).run Tryz.prog w = .ok v w) (hk : K (a.put (some d) v) w) : if Region.wanted o (yielded ops a.tmps) = true then Oper.wp Tryz.prog o a w K Q else K (a.put o.dst undef) w := by
  rw [if_pos hw]
  unfold Oper.wp
  simp [execOp, hop, hm, hx, hrun, Result.andThen]
  show K (a.put o.dst v) w
  rw [hd]
  exact hk
theorem app_intG (w : World) (base ty : Nat) (v : Value) (n : Nat) (xs : List Value) (x : Int) (g : Nat) (hown : w.ownsRow base 3 1 v n xs) (h : w.cell? ⟨g, 0, none⟩ = some (.int .i64 x)) (hn : n ≤ 4398046511104) (hb : base ≤ w.heap.size) :
    ∃ v' w', (Builtin.append_ #[88, 88] ty #[v, .slice (some ⟨g, 0, none⟩) 1 1]).run Tryz.prog w = .ok v' w' ∧ w'.ownsRow base 3 1 v' (n + 1) (xs ++ [.int .i64 x]) ∧ w.grownBy w' v.ownBlock ∧ (v'.ownBlock = v.ownBlock ∨ v'.ownBlock = some w.heap.size) := by
  obtain ⟨i0, hi, hz0, hz1, hz2⟩ := info_parts infoInt3
  obtain ⟨v', w', hr, h2, h3, _, h5⟩ := run_append_own_at (P := Tryz.prog) w base 88 ty 3 i0 (.int .i64 0) 1 8 Tryz.underlying88 hi hz0 hz1 hz2 rfl (by decide) v n xs hown ⟨g, 0, none⟩ 1 1 [.int .i64 x] (by simp) (by
    intro j u hj
    have : j = 0 := by
      have := (List.getElem?_eq_some_iff.1 hj).1
      simpa using this
    subst this
    simp at hj
    subst hj
    exact h) (int_oneN x) (by unfold maxLen; omega) (by omega) hb
  exact ⟨v', w', hr, h2, h3, h5⟩
theorem int_op {ops : Array Oper} {Q : Exit → Act → World → Prop} {K : Act → World → Prop} {a : Act} {w : World} {o : Oper} {s y : Operand} (d base : Nat) (v : Value) (n : Nat) (xs : List Value) (x : Int) (g : Nat)
    (hop : o.op = .call { callee := .builtin .append, args := #[s, y], argTypes := #[88, 88] }) (hw : Region.wanted o (yielded ops a.tmps) = true) (hd : o.dst = some d) (hs : a.eval s = v) (hx : a.eval y = .slice (some ⟨g, 0, none⟩) 1 1)
    (hown : w.ownsRow base 3 1 v n xs) (h : w.cell? ⟨g, 0, none⟩ = some (.int .i64 x)) (hn : n ≤ 4398046511104) (hb : base ≤ w.heap.size)
    (hk : ∀ v' w', w'.ownsRow base 3 1 v' (n + 1) (xs ++ [.int .i64 x]) → w.grownBy w' v.ownBlock → (v'.ownBlock = v.ownBlock ∨ v'.ownBlock = some w.heap.size) → K (a.put (some d) v') w') : if Region.wanted o (yielded ops a.tmps) = true then Oper.wp Tryz.prog o a w K Q else K (a.put o.dst undef) w := by
  rw [if_pos hw]
  obtain ⟨v', w', hr, h2, h3, h5⟩ := app_intG w base o.type v n xs x g hown h hn hb
  unfold Oper.wp execOp
  simp only [hop, resolve, invoke, builtin, Sem.run_bind, Sem.run_pure, Result.andThen_ok, List.map_toArray, List.map_cons, List.map_nil, hs, hx, hr]
  show K (a.put o.dst v') w'
  rw [hd]
  exact hk v' w' h2 h3 h5
theorem store_op {ops : Array Oper} {Q : Exit → Act → World → Prop} {K : Act → World → Prop} {a : Act} {w w2 : World} {o : Oper} {t : Nat} {m x u : Operand} (b : Nat) (key v : Value) (hop : o.op = Op.mapUpdate t m x u) (hw : Region.wanted o (yielded ops a.tmps) = true) (hm : a.eval m = .map (some b)) (hx : a.eval x = key) (hu : a.eval u = v)
    (hrun : (Instr.mapUpdate t (.map (some b)) key v).run Tryz.prog w = .ok () w2) (hk : K (a.put o.dst undef) w2) : if Region.wanted o (yielded ops a.tmps) = true then Oper.wp Tryz.prog o a w K Q else K (a.put o.dst undef) w := by
  rw [if_pos hw]
  unfold Oper.wp
  simp [execOp, hop, hm, hx, hu, hrun, Result.andThen]
  exact hk
theorem own_ne_box {W : World} {N e size n g T : Nat} {v : Value} {xs : List Value} {cs : Array Value} (h : W.ownsRow N e size v n xs) (hg : W.heap[g]? = some (.cells cs T (0, 0))) (hT : T ≠ e) : ∀ k, v.ownBlock = some k → k ≠ g := by
  intro k hk e1
  subst e1
  rcases h.2 with ⟨rfl, _⟩ | ⟨g2, cap, cur, rfl, _, hh, _⟩
  · cases hk
  · have : g2 = k := by injection hk
    subst this
    rw [hg] at hh
    injection hh with hh
    injection hh with _ hh
    exact hT hh
theorem groups_made (w : World) : Groups (w.alloc (.map #[] 0)) w.heap.size [] (.map []) := ⟨World.ownsGroups_made w Tryz.prog 9 3 .i64, isMap_empty, fun _ => .inl ⟨rfl, rfl⟩⟩
theorem mkMapG (W : World) (n : Nat) : (Instr.makeMap 93 (some (.int .i64 (n : Int)))).run Tryz.prog W = .ok (.map (some W.heap.size)) (W.alloc (.map #[] 0)) := by
  simp [Instr.makeMap, run_underlying Tryz.underlying93, asInt, asIntOf]
theorem Groups.step {W : World} {b : Nat} {l : List (ByteArray × Nat)} {D : DataW Unit} (h : Groups W b l D) {x : ByteArray} {i : Nat} (hi : i ≤ 1048576) {v v' : Value} (ho : W.ownsInts (b + 1) 3 .i64 v (placesOf l x)) (hback : W.groupBack Tryz.prog 93 9 (b + 1) 3 .i64 b l.length D (.string x) (.string x.data.toList) v)
    {w1 : World} (hg : W.grownBy w1 v.ownBlock) (hown' : w1.ownsRow (b + 1) 3 1 v' ((placesOf l x).length + 1) ((placesOf l x).map (Value.int .i64) ++ [.int .i64 (i : Int)])) (hblk : v'.ownBlock = v.ownBlock ∨ ∃ g, v'.ownBlock = some g ∧ W.heap.size ≤ g) (hbl : b < W.heap.size) :
    ∃ w2 D2, (Instr.mapUpdate 93 (.map (some b)) (.string x) v').run Tryz.prog w1 = .ok () w2 ∧ Groups w2 b (l ++ [(x, i)]) D2 ∧ Below b W w2 ∧ W.heap.size ≤ w2.heap.size := by
  have h1 := ho.appended (v' := v') (x := (i : Int)) hown' (wf_nat hi)
  obtain ⟨w2, r1, r2, r3⟩ := hback w1 v' _ hg h1 (by rw [List.length_append]; have := places_len l x; simp; omega) hblk
  refine ⟨w2, _, r1, h.next h1 r2, ?_, Nat.le_trans hg.size r3.size⟩
  have hlt := ho.1.lt
  refine ((Below.refl b W).grown hg (by omega) (fun j hj => ?_)).grown r3 (by have := hg.size; omega) (fun j hj => by cases hj; exact Nat.le_refl _)
  have := (hlt j hj).1
  omega
set_option maxRecDepth 100000 in
set_option maxHeartbeats 16000000 in
theorem needersByName_any (ps : List packC.D) (v : Value) (w : World) (hs : smallPs ps) (h : rowAt packC w v ps) :
    Calls Tryz.prog 67 #[v] w fun x w' => ∃ D, x = .returned (.map (some w.heap.size)) ∧ Groups w' w.heap.size (prs 0 ps) D ∧ w.heap.size < w'.heap.size ∧ Below w.heap.size w w' := by
  obtain ⟨a, cap, rfl, -, -, h⟩ := h
  have hlen := hs.1
  have HSM := hid hs
  have H := hid h
  have HG0 := hid (groups_made w)
  have HB0 := hid (show Below w.heap.size w (w.alloc (.map #[] 0)) from (Below.refl _ w).alloc (Nat.le_refl _) _)
  have HZ0 := hid (show w.heap.size < (w.alloc (.map #[] 0)).heap.size by simp)
  have hmm := mkMapG w ps.length
  clear h hs
  go_enter Tryz.func67, Tryz.ntmps67
  go_wp2_with fail
  generalize w.alloc (.map #[] 0) = w1 at HG0 HB0 HZ0 ⊢
  clear hmm
  go_loopw [13] (fun i wr => ∃ (k : Nat) (D : DataW Unit), k ≤ ps.length ∧ i = .int .i64 (k : Int) ∧ Hid (Groups wr w.heap.size (prs 0 (ps.take k)) D) ∧ Hid (Below w.heap.size w wr) ∧ Hid (w.heap.size < wr.heap.size)) (fun i _ => ps.length - (intOf i).toNat)
  case atStart => exact ⟨0, _, Nat.zero_le _, rfl, HG0, HB0, HZ0⟩
  case round =>
    clear HG0 HB0 HZ0
    obtain ⟨k, D, hk, rfl, HG, HB, HZ⟩ := hrel
    by_cases hlt : k < ps.length
    · obtain ⟨p, hp⟩ : ∃ p, ps[k]? = some p := ⟨ps[k], List.getElem?_eq_getElem hlt⟩
      obtain ⟨b, o, rfl, hbl, hc⟩ := (unhid H).resolve_left (by intro e; subst e; simp at hlt)
      obtain ⟨na, nc, ta, tc, ⟨c0, c1, c2, c3⟩, hat⟩ := pack_cells (Below.refl w.heap.size w) hbl hc hp
      have c0 := ((unhid HB).cell (p := ⟨b, o + k * 4, none⟩) hbl).trans c0
      have c1 := ((unhid HB).cell (p := ⟨b, o + k * 4 + 1, none⟩) hbl).trans c1
      have c2 := ((unhid HB).cell (p := ⟨b, o + k * 4 + 2, none⟩) hbl).trans c2
      have c3 := ((unhid HB).cell (p := ⟨b, o + k * 4 + 3, none⟩) hbl).trans c3
      have HAT := hid hat
      have HP := hid hp
      have HSP := hid ((unhid HSM).2 p (List.mem_of_getElem? hp))
      have hb1 : Below wr.heap.size wr (wr.alloc (.cells #[.string (PackD.name p), .string (PackD.version p), .slice na (PackD.needs p).length nc, .slice ta (PackD.tree p).length tc] 34)) := (Below.refl _ wr).alloc (Nat.le_refl _) _
      have HG1 := hid (show Groups (wr.alloc (.cells #[.string (PackD.name p), .string (PackD.version p), .slice na (PackD.needs p).length nc, .slice ta (PackD.tree p).length tc] 34)) w.heap.size (prs 0 (ps.take k) ++ ((needsOf p).take 0).map (fun n : needC.D => (NeedD.name n, k))) D by rw [List.take_zero, List.map_nil, List.append_nil]; exact (unhid HG).keep hb1)
      have HB1 := hid ((unhid HB).trans (hb1.mono (unhid HB).size))
      have HZ1 := hid (Nat.lt_of_lt_of_le (unhid HZ) hb1.size)
      have hnl : (PackD.needs p).length ≤ 1048576 := (unhid HSP).needs.1
      have hql : (prs 0 (ps.take k)).length ≤ 1048576 * 1048576 := by
        have h1 := prs_len (c := 1048576) 0 (ps.take k) (fun q hq => ((unhid HSM).2 q (List.mem_of_mem_take hq)).needs.1)
        have h2 : (ps.take k).length ≤ 1048576 := by rw [List.length_take]; omega
        exact Nat.le_trans h1 (Nat.mul_le_mul_right _ h2)
      clear hc hp hbl hat hb1 HG HB HZ
      go_wp2_with fail
      generalize wr.alloc (.cells #[.string (PackD.name p), .string (PackD.version p), .slice na (PackD.needs p).length nc, .slice ta (PackD.tree p).length tc] 34) = w2 at HG1 HB1 HZ1 ⊢
      go_loopw [21] (fun j wx => ∃ (m : Nat) (D : DataW Unit), m ≤ (PackD.needs p).length ∧ j = .int .i64 (m : Int) ∧ Hid (Groups wx w.heap.size (prs 0 (ps.take k) ++ ((needsOf p).take m).map (fun n : needC.D => (NeedD.name n, k))) D) ∧ Hid (Below w.heap.size w wx) ∧ Hid (w.heap.size < wx.heap.size)) (fun j _ => (PackD.needs p).length - (intOf j).toNat)
      case atStart => exact ⟨0, D, Nat.zero_le _, rfl, HG1, HB1, HZ1⟩
      case round =>
        clear HG1 HB1 HZ1
        obtain ⟨m, D, hm, rfl, HG, HB, HZ⟩ := hrel
        by_cases hlm : m < (PackD.needs p).length
        · obtain ⟨n, hn⟩ : ∃ n, (needsOf p)[m]? = some n := ⟨(needsOf p)[m]'hlm, List.getElem?_eq_getElem hlm⟩
          obtain ⟨nb, no, rfl, hnb, d0, d1, d2⟩ := need_in (unhid HAT) hn
          have e0 := ((unhid HB).cell (p := ⟨nb, no + m * 3, none⟩) hnb).trans d0
          have e1 := ((unhid HB).cell (p := ⟨nb, no + m * 3 + 1, none⟩) hnb).trans d1
          have e2 := ((unhid HB).cell (p := ⟨nb, no + m * 3 + 2, none⟩) hnb).trans d2
          have HN := hid hn
          have hxs : (NeedD.name n).size ≤ maxLen := le_maxLen ((unhid HSP).needs.2 n (List.mem_of_getElem? hn)).1
          have hll : (prs 0 (ps.take k) ++ ((needsOf p).take m).map (fun n : needC.D => (NeedD.name n, k))).length ≤ 2199023255552 := by
            rw [List.length_append, List.length_map, List.length_take]; omega
          have hlx : (prs 0 (ps.take k) ++ ((needsOf p).take m).map (fun n : needC.D => (NeedD.name n, k))).length < maxLen := by unfold maxLen; omega
          clear d0 d1 d2 hn hnb c0 c1 c2 c3 hql
          go_upto_region 8 with fail
          clear e0 e1 e2
          have hX3 := World.alloc_heap_new wr (.cells #[.string (NeedD.name n), .int .i64 (NeedD.kind n), .string (NeedD.version n)] 36)
          have hb3 : Below wr.heap.size wr (wr.alloc (.cells #[.string (NeedD.name n), .int .i64 (NeedD.kind n), .string (NeedD.version n)] 36)) := (Below.refl _ wr).alloc (Nat.le_refl _) _
          have hz3 : wr.heap.size < (wr.alloc (.cells #[.string (NeedD.name n), .int .i64 (NeedD.kind n), .string (NeedD.version n)] 36)).heap.size := by simp
          generalize wr.alloc (.cells #[.string (NeedD.name n), .int .i64 (NeedD.kind n), .string (NeedD.version n)] 36) = w3 at hX3 hb3 hz3 ⊢
          have hG3 := (unhid HG).keep hb3
          have hB3 := (unhid HB).trans (hb3.mono (unhid HB).size)
          have hZ3 := Nat.lt_of_lt_of_le (unhid HZ) hb3.size
          have hC0 : (fun w' : World => w'.heap[wr.heap.size]? = some (.cells #[.string (NeedD.name n), .int .i64 (NeedD.kind n), .string (NeedD.version n)] 36 (0, 0))) w3.drew := hX3
          have gp : ∀ x : CW (fun w' : World => w'.heap[wr.heap.size]? = some (.cells #[.string (NeedD.name n), .int .i64 (NeedD.kind n), .string (NeedD.version n)] 36 (0, 0))), x.w.cell? ⟨wr.heap.size, 0, none⟩ = some (.string (NeedD.name n)) := fun x => cell_arrS x.h 0 _ rfl
          have hba : ∀ {q : Prop}, (CW (fun w' : World => w'.heap[wr.heap.size]? = some (.cells #[.string (NeedD.name n), .int .i64 (NeedD.kind n), .string (NeedD.version n)] 36 (0, 0))) → q) ↔ q := CW.all hC0
          clear HG HB HZ hb3
          refine heldE_begin 10 (fun w' : World => w'.heap[wr.heap.size]? = some (.cells #[.string (NeedD.name n), .int .i64 (NeedD.kind n), .string (NeedD.version n)] 36 (0, 0))) (by kernel_rfl) ?_
          refine heldE_here [true, true, true, true, true, true, false, true] (by kernel_rfl) (by kernel_rfl) (fun _ _ _ _ _ h => h) hC0 ?_
          dsimp only [pick]
          repeat (go_big_quiet_step (fail))
          refine wpQuiet_nil ?_
          have hG4 := hG3.keep (drew_belowS (B := w3.heap.size) w3)
          have hB4 : Below w.heap.size w w3.drew := hB3.trans ((drew_belowS (B := w3.heap.size) w3).mono hB3.size)
          have hz4 : wr.heap.size < w3.drew.heap.size := hz3
          have hZ4 : w.heap.size < w3.drew.heap.size := hZ3
          clear hba gp hX3 hG3 hB3 hz3 hZ3
          generalize w3.drew = w4 at *
          refine heldE_op2 6 8 (by kernel_rfl) (by kernel_rfl) rfl rfl (fun KK hK => ?_) (fun KK hK => ?_)
          · obtain ⟨v, hrun, hoi, hback⟩ := hG4.look hlx hxs
            refine look_op 31 w.heap.size (.string (NeedD.name n)) v rfl (by kernel_rfl) rfl rfl rfl hrun (hK.out _ _ hC0 ?_)
            simp only [Act.put, List.setIfInBounds_toArray, List.set_cons_zero, List.set_cons_succ]
            clear hK KK hrun
            have hX5 := World.alloc_heap_new w4 (.cells #[.int .i64 (k : Int)] 3)
            have hb5 : Below w4.heap.size w4 (w4.alloc (.cells #[.int .i64 (k : Int)] 3)) := (Below.refl _ w4).alloc (Nat.le_refl _) _
            have hz5 : w4.heap.size < (w4.alloc (.cells #[.int .i64 (k : Int)] 3)).heap.size := by simp
            have hC5 := (hb5.block wr.heap.size hz4).trans hC0
            refine heldE_op 8 (by kernel_rfl) (by kernel_rfl) rfl (fun KK hK => ?_)
            go_simp
            refine hK.out _ _ hC5 ?_
            clear hK KK
            generalize w4.alloc (.cells #[.int .i64 (k : Int)] 3) = w5 at hX5 hb5 hz5 hC5 ⊢
            have hoi5 : w5.ownsRow (w.heap.size + 1) 3 1 v (placesOf (prs 0 (ps.take k) ++ ((needsOf p).take m).map (fun n : needC.D => (NeedD.name n, k))) (NeedD.name n)).length ((placesOf (prs 0 (ps.take k) ++ ((needsOf p).take m).map (fun n : needC.D => (NeedD.name n, k))) (NeedD.name n)).map (Value.int .i64)) := hoi.1.kept (below_grown none hb5) own_any
            have hvb := own_ne_box hoi5 hC5 (by decide)
            refine heldE_op 9 (by kernel_rfl) (by kernel_rfl) rfl (fun KK hK => ?_)
            refine int_op 34 (w.heap.size + 1) v _ _ (k : Int) w4.heap.size rfl (by kernel_rfl) rfl rfl rfl hoi5 (cell_arrS hX5 0 _ rfl) (Nat.le_trans (places_len _ _) (Nat.le_trans hll (by omega))) (by omega) (fun v' w6 hown6 hg6 hblk => ?_)
            have hC6 := (hg6.block wr.heap.size (by omega) (fun e => hvb _ e.symm rfl)).trans hC5
            refine hK.out _ _ hC6 ?_
            simp only [Act.put, List.setIfInBounds_toArray, List.set_cons_zero, List.set_cons_succ]
            clear hK KK
            have hz6 := hg6.size
            obtain ⟨w7, D7, r1, r2, r3, r4⟩ := hG4.step (by omega) hoi hback (grown_transR (below_grown _ hb5) hg6) hown6 (by
              rcases hblk with h | h
              · exact .inl h
              · exact .inr ⟨_, h, by omega⟩) (by omega)
            have HG7 := hid (show Groups w7 w.heap.size (prs 0 (ps.take k) ++ ((needsOf p).take (m + 1)).map (fun n : needC.D => (NeedD.name n, k))) D7 by
              have e9 : (needsOf p).take (m + 1) = (needsOf p).take m ++ [n] := by rw [List.take_add_one, unhid HN]; rfl
              rw [e9, List.map_append, ← List.append_assoc]; exact r2)
            have HB7 := hid (show Below w.heap.size w w7 from hB4.trans r3)
            have HZ7 := hid (show w.heap.size < w7.heap.size by omega)
            refine heldE_last (by kernel_rfl) (by kernel_rfl) rfl (fun KK hK => ?_)
            refine store_op w.heap.size (.string (NeedD.name n)) v' rfl (by kernel_rfl) rfl rfl rfl r1 (hK.out _ _ ?_)
            clear hK KK r1 r2 r3 r4 hback hoi hoi5 hown6 hg6 hblk hC6 hC5 hC0 hX5 hb5 hG4 hB4
            refine heldE_done (by kernel_rfl) ?_
            go_wp2_with fail
            go_roundw
            case rel => exact ⟨m + 1, D7, by omega, by go_num, HG7, HB7, HZ7⟩
            case measure => simp [intOf]; omega
          · go_simp
            have hX5 := World.alloc_heap_new w4 (.cells #[.int .i64 (k : Int)] 3)
            have hb5 : Below w4.heap.size w4 (w4.alloc (.cells #[.int .i64 (k : Int)] 3)) := (Below.refl _ w4).alloc (Nat.le_refl _) _
            have hz5 : w4.heap.size < (w4.alloc (.cells #[.int .i64 (k : Int)] 3)).heap.size := by simp
            have hC5 := (hb5.block wr.heap.size hz4).trans hC0
            refine hK.out _ _ hC5 ?_
            clear hK KK
            generalize w4.alloc (.cells #[.int .i64 (k : Int)] 3) = w5 at hX5 hb5 hz5 hC5 ⊢
            have hG5 := hG4.keep hb5
            obtain ⟨v, hrun, hoi, hback⟩ := hG5.look hlx hxs
            refine heldE_op 6 (by kernel_rfl) (by kernel_rfl) rfl (fun KK hK => ?_)
            refine look_op 31 w.heap.size (.string (NeedD.name n)) v rfl (by kernel_rfl) rfl rfl rfl hrun (hK.out _ _ hC5 ?_)
            simp only [Act.put, List.setIfInBounds_toArray, List.set_cons_zero, List.set_cons_succ]
            clear hK KK hrun
            have hoi5 := hoi.1
            have hvb := own_ne_box hoi5 hC5 (by decide)
            refine heldE_op 9 (by kernel_rfl) (by kernel_rfl) rfl (fun KK hK => ?_)
            refine int_op 34 (w.heap.size + 1) v _ _ (k : Int) w4.heap.size rfl (by kernel_rfl) rfl rfl rfl hoi5 (cell_arrS hX5 0 _ rfl) (Nat.le_trans (places_len _ _) (Nat.le_trans hll (by omega))) (by omega) (fun v' w6 hown6 hg6 hblk => ?_)
            have hC6 := (hg6.block wr.heap.size (by omega) (fun e => hvb _ e.symm rfl)).trans hC5
            refine hK.out _ _ hC6 ?_
            simp only [Act.put, List.setIfInBounds_toArray, List.set_cons_zero, List.set_cons_succ]
            clear hK KK
            have hz6 := hg6.size
            obtain ⟨w7, D7, r1, r2, r3, r4⟩ := hG5.step (by omega) hoi hback (hg6) hown6 (by
              rcases hblk with h | h
              · exact .inl h
              · exact .inr ⟨_, h, by omega⟩) (by omega)
            have HG7 := hid (show Groups w7 w.heap.size (prs 0 (ps.take k) ++ ((needsOf p).take (m + 1)).map (fun n : needC.D => (NeedD.name n, k))) D7 by
              have e9 : (needsOf p).take (m + 1) = (needsOf p).take m ++ [n] := by rw [List.take_add_one, unhid HN]; rfl
              rw [e9, List.map_append, ← List.append_assoc]; exact r2)
            have HB7 := hid (show Below w.heap.size w w7 from (hB4.trans (hb5.mono hB4.size)).trans r3)
            have HZ7 := hid (show w.heap.size < w7.heap.size by omega)
            refine heldE_last (by kernel_rfl) (by kernel_rfl) rfl (fun KK hK => ?_)
            refine store_op w.heap.size (.string (NeedD.name n)) v' rfl (by kernel_rfl) rfl rfl rfl r1 (hK.out _ _ ?_)
            clear hK KK r1 r2 r3 r4 hback hoi hoi5 hown6 hg6 hblk hC6 hC5 hC0 hX5 hb5 hG4 hB4 hG5
            refine heldE_done (by kernel_rfl) ?_
            go_wp2_with fail
            go_roundw
            case rel => exact ⟨m + 1, D7, by omega, by go_num, HG7, HB7, HZ7⟩
            case measure => simp [intOf]; omega
        · have e : m = (PackD.needs p).length := by omega
          subst e
          have HG2 := hid (show Groups wr w.heap.size (prs 0 (ps.take (k + 1))) D by
            have h1 := unhid HG
            have e9 : List.take (PackD.needs p).length (needsOf p) = needsOf p := List.take_of_length_le (Nat.le_refl _)
            rw [e9] at h1
            rw [prs_take (unhid HP)]; exact h1)
          clear HG c0 c1 c2 c3
          go_wp2_with fail
          go_roundw
          case rel => exact ⟨k + 1, D, by omega, by go_num, HG2, HB, HZ⟩
          case measure => simp [intOf]; omega
    · have e : k = ps.length := by omega
      subst e
      have HG2 := hid (show Groups wr w.heap.size (prs 0 ps) D by have h1 := unhid HG; rwa [List.take_length] at h1)
      clear HG
      go_wp2_with fail
      go_ret
      exact ⟨D, rfl, unhid HG2, unhid HZ, unhid HB⟩
end Go.Proofs.YtoihhlkidlapmaaGreat

namespace Go.Proofs.YtoihhlkidlapmaaGreat
def ClosedT {α : Type} (L : List (α × List α)) (nm : α) (T : α → Prop) : Prop := ∀ p ∈ L, p.1 ≠ nm → (∃ n ∈ p.2, n = nm ∨ T n) → T p.1
def SoundT {α : Type} (L : List (α × List α)) (nm : α) (l : List α) : Prop := ∀ U : α → Prop, ClosedT L nm U → ∀ x ∈ l, U x
theorem same_set {α : Type} {L : List (α × List α)} {nm : α} {a b : List α} (ca : ClosedT L nm (· ∈ a)) (sa : SoundT L nm a) (cb : ClosedT L nm (· ∈ b)) (sb : SoundT L nm b) (x : α) : x ∈ a ↔ x ∈ b := ⟨sa _ cb x, sb _ ca x⟩
def asksN {α : Type} [DecidableEq α] (nm : α) (out : List α) (p : α × List α) : Bool := !decide (p.1 = nm) && p.2.any fun n => decide (n = nm) || decide (n ∈ out)
theorem asksN_iff {α : Type} [DecidableEq α] {nm : α} {out : List α} {p : α × List α} : asksN nm out p = true ↔ p.1 ≠ nm ∧ ∃ n ∈ p.2, n = nm ∨ n ∈ out := by
  unfold asksN
  simp
def stepN {α : Type} [DecidableEq α] (add : List α → α → List α) (nm : α) (out : List α) (p : α × List α) : List α := if asksN nm out p = true then add out p.1 else out
def roundsN {α : Type} [DecidableEq α] (add : List α → α → List α) (L : List (α × List α)) (nm : α) : Nat → List α
  | 0 => []
  | k + 1 => L.foldl (stepN add nm) (roundsN add L nm k)
structure AddsA {α : Type} (add : List α → α → List α) : Prop where
  mem : ∀ out s z, z ∈ add out s ↔ z ∈ out ∨ z = s
  same : ∀ out s, s ∈ out → add out s = out
  more : ∀ out s, s ∉ out → (add out s).length = out.length + 1
theorem fold_grow {α : Type} [DecidableEq α] {add : List α → α → List α} (ha : AddsA add) (nm : α) : ∀ (L : List (α × List α)) (out : List α), out.length ≤ (L.foldl (stepN add nm) out).length ∧ (∀ z ∈ out, z ∈ L.foldl (stepN add nm) out) ∧ ((L.foldl (stepN add nm) out).length = out.length → L.foldl (stepN add nm) out = out ∧ ∀ p ∈ L, asksN nm out p = true → p.1 ∈ out)
  | [], out => ⟨Nat.le_refl _, fun _ h => h, fun _ => ⟨rfl, fun p hp => by cases hp⟩⟩
  | p :: L, out => by
    obtain ⟨h1, h2, h3⟩ := fold_grow ha nm L (stepN add nm out p)
    rw [List.foldl_cons]
    have hs : stepN add nm out p = out ∧ (asksN nm out p = true → p.1 ∈ out) ∨ ((stepN add nm out p).length = out.length + 1 ∧ ∀ z ∈ out, z ∈ stepN add nm out p) := by
      unfold stepN
      by_cases hc : asksN nm out p = true
      · rw [if_pos hc]
        by_cases hm : p.1 ∈ out
        · exact .inl ⟨ha.same _ _ hm, fun _ => hm⟩
        · exact .inr ⟨ha.more _ _ hm, fun z hz => (ha.mem _ _ _).2 (.inl hz)⟩
      · rw [if_neg hc]; exact .inl ⟨rfl, fun h => absurd h hc⟩
    rcases hs with ⟨e, hm⟩ | ⟨e, hm⟩
    · rw [e] at h1 h2 h3 ⊢
      refine ⟨h1, h2, fun h => ⟨(h3 h).1, fun q hq ha => ?_⟩⟩
      rcases List.mem_cons.1 hq with rfl | hq
      · exact hm ha
      · exact (h3 h).2 q hq ha
    · exact ⟨by omega, fun z hz => h2 z (hm z hz), fun h => by omega⟩
theorem fold_stay {α : Type} [DecidableEq α] {add : List α → α → List α} (ha : AddsA add) (nm : α) : ∀ (L : List (α × List α)) (out : List α), (∀ p ∈ L, asksN nm out p = true → p.1 ∈ out) → L.foldl (stepN add nm) out = out
  | [], _, _ => rfl
  | p :: L, out, h => by
    have e : stepN add nm out p = out := by
      unfold stepN
      by_cases hc : asksN nm out p = true
      · rw [if_pos hc]; exact ha.same _ _ (h p (by simp) hc)
      · rw [if_neg hc]
    rw [List.foldl_cons, e]
    exact fold_stay ha nm L out (fun q hq => h q (List.mem_cons_of_mem _ hq))
theorem closed_iff {α : Type} [DecidableEq α] {L : List (α × List α)} {nm : α} {out : List α} : ClosedT L nm (· ∈ out) ↔ ∀ p ∈ L, asksN nm out p = true → p.1 ∈ out :=
  ⟨fun h p hp ha => h p hp (asksN_iff.1 ha).1 (asksN_iff.1 ha).2, fun h p hp h1 h2 => h p hp (asksN_iff.2 ⟨h1, h2⟩)⟩
theorem rounds_far {α : Type} [DecidableEq α] {add : List α → α → List α} (ha : AddsA add) (L : List (α × List α)) (nm : α) : ∀ k, ClosedT L nm (· ∈ roundsN add L nm k) ∨ k ≤ (roundsN add L nm k).length
  | 0 => .inr (Nat.zero_le _)
  | k + 1 => by
    obtain ⟨h1, h2, h3⟩ := fold_grow ha nm L (roundsN add L nm k)
    rcases rounds_far ha L nm k with h | h
    · refine .inl ?_
      have e : roundsN add L nm (k + 1) = roundsN add L nm k := fold_stay ha nm L _ (closed_iff.1 h)
      rw [e]; exact h
    · by_cases he : (L.foldl (stepN add nm) (roundsN add L nm k)).length = (roundsN add L nm k).length
      · obtain ⟨e, hc⟩ := h3 he
        refine .inl ?_
        have e : roundsN add L nm (k + 1) = roundsN add L nm k := e
        rw [e]; exact closed_iff.2 hc
      · refine .inr ?_
        show k + 1 ≤ (L.foldl (stepN add nm) (roundsN add L nm k)).length
        omega
theorem fold_sound {α : Type} [DecidableEq α] {add : List α → α → List α} (ha : AddsA add) {L0 : List (α × List α)} {nm : α} : ∀ (L : List (α × List α)) (out : List α), (∀ p ∈ L, p ∈ L0) → SoundT L0 nm out → SoundT L0 nm (L.foldl (stepN add nm) out)
  | [], _, _, h => h
  | p :: L, out, hL, h => by
    rw [List.foldl_cons]
    refine fold_sound ha L _ (fun q hq => hL q (List.mem_cons_of_mem _ hq)) ?_
    unfold stepN
    by_cases hc : asksN nm out p = true
    · rw [if_pos hc]
      intro U hU x hx
      rcases (ha.mem _ _ _).1 hx with hx | rfl
      · exact h U hU x hx
      · obtain ⟨h1, n, hn, h2⟩ := asksN_iff.1 hc
        exact hU p (hL p (by simp)) h1 ⟨n, hn, h2.imp id (h U hU n)⟩
    · rw [if_neg hc]; exact h
theorem fold_in {α : Type} [DecidableEq α] {add : List α → α → List α} (ha : AddsA add) {V : List α} {nm : α} : ∀ (L : List (α × List α)) (out : List α), (∀ p ∈ L, p.1 ∈ V) → (∀ x ∈ out, x ∈ V ∧ x ≠ nm) → ∀ x ∈ L.foldl (stepN add nm) out, x ∈ V ∧ x ≠ nm
  | [], _, _, h => h
  | p :: L, out, hL, h => by
    rw [List.foldl_cons]
    refine fold_in ha L _ (fun q hq => hL q (List.mem_cons_of_mem _ hq)) ?_
    unfold stepN
    by_cases hc : asksN nm out p = true
    · rw [if_pos hc]
      intro x hx
      rcases (ha.mem _ _ _).1 hx with hx | rfl
      · exact h x hx
      · exact ⟨hL p (by simp), (asksN_iff.1 hc).1⟩
    · rw [if_neg hc]; exact h
theorem rounds_facts {α : Type} [DecidableEq α] {add : List α → α → List α} (ha : AddsA add) (L : List (α × List α)) (nm : α) : ∀ k, SoundT L nm (roundsN add L nm k) ∧ ∀ x ∈ roundsN add L nm k, x ∈ L.map Prod.fst ∧ x ≠ nm
  | 0 => ⟨fun _ _ _ hx => (by cases hx), fun _ hx => (by cases hx)⟩
  | k + 1 => by
    obtain ⟨h1, h2⟩ := rounds_facts ha L nm k
    exact ⟨fold_sound ha L _ (fun _ h => h) h1, fold_in ha L _ (fun p hp => List.mem_map.2 ⟨p, hp, rfl⟩) h2⟩
theorem rounds_closed {α : Type} [DecidableEq α] {add : List α → α → List α} (ha : AddsA add) (L : List (α × List α)) (nm : α) (hn : ∀ k, (roundsN add L nm k).Nodup) : ClosedT L nm (· ∈ roundsN add L nm L.length) := by
  rcases rounds_far ha L nm L.length with h | h
  · exact h
  · intro p hp hne hx
    obtain ⟨_, h2⟩ := rounds_facts ha L nm L.length
    by_cases hm : p.1 ∈ roundsN add L nm L.length
    · exact hm
    · have := nodup_len (p.1 :: roundsN add L nm L.length) (L.map Prod.fst) (List.nodup_cons.2 ⟨hm, hn _⟩) (fun z hz => by
        rcases List.mem_cons.1 hz with rfl | hz
        · exact List.mem_map.2 ⟨p, hp, rfl⟩
        · exact (h2 z hz).1)
      rw [List.length_cons, List.length_map] at this
      omega
end Go.Proofs.YtoihhlkidlapmaaGreat

namespace Go.Proofs.YtoihhlkidlapmaaGreat
open Go.RowKit Go.Shelf Go.Maps Go.ChangeShapes
def edgesP (ps : List packC.D) : List (ByteArray × List ByteArray) := List.map (α := packC.D) (fun p => (PackD.name p, List.map (α := needC.D) (fun n => NeedD.name n) (needsOf p))) ps
theorem edges_len (ps : List packC.D) : (edgesP ps).length = ps.length := List.length_map _
theorem mem_edges {ps : List packC.D} {c : ByteArray × List ByteArray} : c ∈ edgesP ps ↔ ∃ p ∈ ps, c = (PackD.name p, List.map (α := needC.D) (fun n => NeedD.name n) (needsOf p)) := by
  unfold edgesP
  rw [List.mem_map]
  constructor <;> rintro ⟨p, h1, h2⟩ <;> exact ⟨p, h1, h2.symm⟩
theorem edges_names (ps : List packC.D) : (edgesP ps).map Prod.fst = namesP ps := by
  unfold edgesP namesP
  rw [List.map_map]
  rfl
def ltT (a b : ByteArray) : Bool := !leB b.data.toList a.data.toList
def insT (s : ByteArray) : List ByteArray → List ByteArray
  | [] => [s]
  | y :: ys => if ltT y s then y :: insT s ys else s :: y :: ys
def addT (out : List ByteArray) (s : ByteArray) : List ByteArray := if memB s out = true then out else insT s out
theorem mem_ins {s z : ByteArray} : ∀ {out : List ByteArray}, z ∈ insT s out ↔ z ∈ out ∨ z = s
  | [] => by simp [insT]
  | y :: ys => by
    rw [insT]
    split
    · rw [List.mem_cons, mem_ins, List.mem_cons, or_assoc]
    · rw [List.mem_cons, or_comm]
theorem ins_len {s : ByteArray} : ∀ {out : List ByteArray}, (insT s out).length = out.length + 1
  | [] => rfl
  | y :: ys => by
    rw [insT]
    split
    · rw [List.length_cons, ins_len, List.length_cons]
    · rfl
theorem addsT : AddsA addT where
  mem := fun out s z => by
    unfold addT
    split
    · rename_i h
      constructor
      · exact fun h => .inl h
      · rintro (h2 | rfl); exact h2; exact memB_iff.1 h
    · exact mem_ins
  same := fun out s h => by unfold addT; rw [if_pos (memB_yes h)]
  more := fun out s h => by unfold addT; rw [if_neg (fun e => h (memB_iff.1 e))]; exact ins_len
theorem lt_le {a b : ByteArray} (h : ltT a b = true) : leB a.data.toList b.data.toList = true := by
  have := leB_to a.data.toList b.data.toList
  unfold ltT at h
  cases h2 : leB b.data.toList a.data.toList with
  | true => rw [h2] at h; cases h
  | false => rw [h2, Bool.or_false] at this; exact this
theorem lt_ne {a b : ByteArray} (h : ltT a b = true) : a ≠ b := by
  rintro rfl
  unfold ltT at h
  have := leB_to a.data.toList a.data.toList
  rw [Bool.or_self] at this
  rw [this] at h; cases h
theorem lt_of_not {a b : ByteArray} (h : ltT a b = false) (hne : a ≠ b) : ltT b a = true := by
  unfold ltT at h ⊢
  have h1 : leB b.data.toList a.data.toList = true := by simpa using h
  cases h2 : leB a.data.toList b.data.toList with
  | false => rfl
  | true => exact absurd (bytes_eq (leB_anti h2 h1)) hne
theorem lt_trans {a b c : ByteArray} (h1 : ltT a b = true) (h2 : ltT b c = true) : ltT a c = true := by
  cases h : ltT a c with
  | true => rfl
  | false =>
    unfold ltT at h
    have h3 : leB c.data.toList a.data.toList = true := by simpa using h
    have h4 := leB_tr _ _ _ h3 (lt_le h1)
    unfold ltT at h2
    rw [h4] at h2; cases h2
def AscT (xs : List ByteArray) : Prop := xs.Pairwise fun a b => ltT a b = true
theorem asc_nodup {xs : List ByteArray} (h : AscT xs) : xs.Nodup := List.Pairwise.imp (fun h => lt_ne h) h
theorem asc_ins {s : ByteArray} : ∀ {out : List ByteArray}, AscT out → s ∉ out → AscT (insT s out)
  | [], _, _ => List.pairwise_singleton _ _
  | y :: ys, h, hs => by
    have h' := List.pairwise_cons.1 h
    rw [insT]
    split
    · rename_i hlt
      refine List.pairwise_cons.2 ⟨fun z hz => ?_, asc_ins h'.2 (fun hm => hs (List.mem_cons_of_mem _ hm))⟩
      rcases mem_ins.1 hz with hz | rfl
      · exact h'.1 z hz
      · exact hlt
    · rename_i hlt
      have hsy : ltT s y = true := lt_of_not (by simpa using hlt) (fun e => hs (by rw [e]; simp))
      refine List.pairwise_cons.2 ⟨fun z hz => ?_, h⟩
      rcases List.mem_cons.1 hz with rfl | hz
      · exact hsy
      · exact lt_trans hsy (h'.1 z hz)
theorem asc_add {s : ByteArray} {out : List ByteArray} (h : AscT out) : AscT (addT out s) := by
  unfold addT
  split
  · exact h
  · rename_i hs; exact asc_ins h (fun e => hs (memB_yes e))
theorem asc_fold (nm : ByteArray) : ∀ (L : List (ByteArray × List ByteArray)) (out : List ByteArray), AscT out → AscT (L.foldl (stepN addT nm) out)
  | [], _, h => h
  | p :: L, out, h => by
    rw [List.foldl_cons]
    refine asc_fold nm L _ ?_
    unfold stepN
    split
    · exact asc_add h
    · exact h
theorem asc_rounds (L : List (ByteArray × List ByteArray)) (nm : ByteArray) : ∀ k, AscT (roundsN addT L nm k)
  | 0 => List.Pairwise.nil
  | k + 1 => asc_fold nm L _ (asc_rounds L nm k)
theorem asc_same : ∀ {a b : List ByteArray}, AscT a → AscT b → (∀ x, x ∈ a ↔ x ∈ b) → a = b
  | [], [], _, _, _ => rfl
  | [], y :: ys, _, _, h => by have := (h y).2 (by simp); simp at this
  | x :: xs, [], _, _, h => by have := (h x).1 (by simp); simp at this
  | x :: xs, y :: ys, ha, hb, h => by
    have ha' := List.pairwise_cons.1 ha
    have hb' := List.pairwise_cons.1 hb
    have e : x = y := by
      rcases List.mem_cons.1 ((h x).1 (by simp)) with e | hx
      · exact e
      · rcases List.mem_cons.1 ((h y).2 (by simp)) with e | hy
        · exact e.symm
        · exact absurd rfl (lt_ne (lt_trans (ha'.1 y hy) (hb'.1 x hx)))
    subst e
    congr 1
    refine asc_same ha'.2 hb'.2 (fun z => ⟨fun hz => ?_, fun hz => ?_⟩)
    · rcases List.mem_cons.1 ((h z).1 (List.mem_cons_of_mem _ hz)) with e | hz2
      · exact absurd e.symm (lt_ne (ha'.1 z hz))
      · exact hz2
    · rcases List.mem_cons.1 ((h z).2 (List.mem_cons_of_mem _ hz)) with e | hz2
      · exact absurd e.symm (lt_ne (hb'.1 z hz))
      · exact hz2
theorem sort_asc {xs : List ByteArray} (h : xs.Nodup) : AscT (sortT xs) := by
  have h1 := sortT_sorted xs
  have h2 : (sortT xs).Nodup := (sortT_perm xs).nodup_iff.2 h
  refine (List.pairwise_and_iff.2 ⟨h1, h2⟩).imp (fun {a b} h => ?_)
  have h3 : leB a.data.toList b.data.toList = true := h.1
  have h4 : a ≠ b := h.2
  cases hl : ltT a b with
  | true => rfl
  | false =>
    unfold ltT at hl
    have : leB b.data.toList a.data.toList = true := by simpa using hl
    exact absurd (bytes_eq (leB_anti h3 this)) h4
def needersT (ps : List packC.D) (nm : ByteArray) : List ByteArray := roundsN addT (edgesP ps) nm ps.length
def needers_0 (ps : List packC.D) (nm : ByteArray) : List ByteArray := if packsCode ps = 0 then needersT ps nm else []
theorem needers_facts (ps : List packC.D) (nm : ByteArray) : AscT (needersT ps nm) ∧ SoundT (edgesP ps) nm (needersT ps nm) ∧ ClosedT (edgesP ps) nm (· ∈ needersT ps nm) ∧ ∀ x ∈ needersT ps nm, x ∈ namesP ps ∧ x ≠ nm := by
  obtain ⟨h1, h2⟩ := rounds_facts addsT (edgesP ps) nm ps.length
  have h3 := rounds_closed addsT (edgesP ps) nm (fun k => asc_nodup (asc_rounds _ _ k))
  rw [edges_len] at h3
  rw [edges_names] at h2
  exact ⟨asc_rounds _ _ _, h1, h3, h2⟩
theorem needers_sorted {ps : List packC.D} {nm : ByteArray} {rest : List ByteArray} (hn : rest.Nodup) (hs : SoundT (edgesP ps) nm rest) (hc : ClosedT (edgesP ps) nm (· ∈ rest)) : sortT rest = needersT ps nm := by
  obtain ⟨h1, h2, h3, -⟩ := needers_facts ps nm
  exact asc_same (sort_asc hn) h1 (fun x => ((sortT_perm rest).mem_iff).trans (same_set hc hs h3 h2 x))
structure FoundS (ps : List packC.D) (nm : ByteArray) (rest : List ByteArray) (fnd : Nat → Bool) : Prop where
  nodup : rest.Nodup
  in_ : ∀ x ∈ rest, x ∈ namesP ps ∧ x ≠ nm
  sound : SoundT (edgesP ps) nm rest
  at_ : ∀ (i : Nat) (p : packC.D), ps[i]? = some p → (fnd i = true ↔ PackD.name p ∈ rest)
theorem found_none (ps : List packC.D) (nm : ByteArray) : FoundS ps nm [] (fun _ => false) := ⟨List.nodup_nil, fun x hx => (by cases hx), fun _ _ x hx => (by cases hx), fun i p _ => (by simp)⟩
theorem found_len {ps : List packC.D} {nm : ByteArray} {rest : List ByteArray} {fnd : Nat → Bool} (h : FoundS ps nm rest fnd) : rest.length ≤ ps.length := by
  have := nodup_len rest (namesP ps) h.nodup (fun x hx => (h.in_ x hx).1)
  rwa [namesP_len] at this
def DoneS (ps : List packC.D) (nm : ByteArray) (ys rest : List ByteArray) : Prop := ∀ y ∈ ys, ∀ (i : Nat) (p : packC.D), (y, i) ∈ prs 0 ps → ps[i]? = some p → PackD.name p ≠ nm → PackD.name p ∈ rest
theorem done_more {ps : List packC.D} {nm : ByteArray} {ys rest : List ByteArray} (h : DoneS ps nm ys rest) (x : ByteArray) : DoneS ps nm ys (rest ++ [x]) := fun y hy i p h1 h2 h3 => List.mem_append_left _ (h y hy i p h1 h2 h3)
theorem found_add {ps : List packC.D} {nm y : ByteArray} {rest : List ByteArray} {fnd : Nat → Bool} (hnd : (namesP ps).Nodup) (h : FoundS ps nm rest fnd) {i : Nat} {p : packC.D} (hp : ps[i]? = some p) (hf : fnd i = false) (hne : PackD.name p ≠ nm) (hy : y = nm ∨ y ∈ rest) (hi : (y, i) ∈ prs 0 ps) : FoundS ps nm (rest ++ [PackD.name p]) (fun j => if j = i then true else fnd j) := by
  have hnot : PackD.name p ∉ rest := fun hm => by rw [(h.at_ i p hp).2 hm] at hf; cases hf
  refine ⟨List.nodup_append.2 ⟨h.nodup, by simp, fun a ha b hb e => ?_⟩, fun x hx => ?_, fun U hU x hx => ?_, fun j q hq => ?_⟩
  · rw [List.mem_singleton.1 hb] at e; exact hnot (e ▸ ha)
  · rcases List.mem_append.1 hx with hx | hx
    · exact h.in_ x hx
    · rw [List.mem_singleton.1 hx]; exact ⟨List.mem_of_getElem? (namesP_get hp), hne⟩
  · rcases List.mem_append.1 hx with hx | hx
    · exact h.sound U hU x hx
    · rw [List.mem_singleton.1 hx]
      obtain ⟨k, q, h1, h2, n, h3, h4⟩ := mem_prs.1 hi
      rw [Nat.zero_add] at h2
      subst h2
      rw [hp] at h1
      cases h1
      refine hU (PackD.name p, List.map (α := needC.D) (fun n => NeedD.name n) (needsOf p)) (mem_edges.2 ⟨p, List.mem_of_getElem? hp, rfl⟩) hne ⟨y, List.mem_map.2 ⟨n, h3, h4⟩, ?_⟩
      exact hy.imp id (fun hy => h.sound U hU y hy)
  · by_cases e : j = i
    · subst e
      rw [hp] at hq
      cases hq
      simp
    · rw [if_neg e, h.at_ j q hq, List.mem_append]
      constructor
      · exact .inl
      · rintro (h | h)
        · exact h
        · exact absurd (nodup_inj hnd (namesP_get hq) (by rw [List.mem_singleton.1 h]; exact namesP_get hp)) e
theorem found_end {ps : List packC.D} {nm : ByteArray} {rest : List ByteArray} {fnd : Nat → Bool} (h : FoundS ps nm rest fnd) (hd : DoneS ps nm (nm :: rest) rest) : sortT rest = needersT ps nm := by
  refine needers_sorted h.nodup h.sound (fun c hc hne hx => ?_)
  obtain ⟨p, hp, rfl⟩ := mem_edges.1 hc
  obtain ⟨y, hy, hyr⟩ := hx
  obtain ⟨n, hn, e⟩ := List.mem_map.1 hy
  obtain ⟨i, hi⟩ := List.getElem?_of_mem hp
  exact hd y (by rcases hyr with h | h; exact List.mem_cons.2 (.inl h); exact List.mem_cons_of_mem _ h) i p (mem_prs.2 ⟨i, p, hi, by omega, n, hn, e⟩) hi hne
end Go.Proofs.YtoihhlkidlapmaaGreat

namespace Go.Proofs.YtoihhlkidlapmaaGreat
open Go.RowKit Go.Shelf Go.Maps Go.ChangeShapes Go.Sort
theorem infoBoolF : (Tryz.prog.info? 4).map (fun i => (i.zero, i.size, i.bytes)) = some (some (.bool false), 1, 1) := by kernel_rfl
theorem mkFound (W : World) (n : Nat) (hn : n ≤ 1048576) : ∃ M : Array Value, (Instr.makeSlice 95 (.int .i64 (n : Int)) (.int .i64 (n : Int))).run Tryz.prog W = .ok (.slice (some ⟨W.heap.size, 0, .none⟩) n n) (W.alloc (.cells M 4)) ∧ M.size = n ∧ ∀ j, j < n → M[j]? = some (.bool false) := by
  obtain ⟨i, hi, hz0, hz1, hz2⟩ := info_parts infoBoolF
  refine ⟨madeCells #[.bool false] (n * 1), ?_, by simp [madeCells], fun j hj => ?_⟩
  · have := run_make (P := Tryz.prog) W 95 4 i _ Tryz.underlying95 hi hz0 .i64 .i64 n n (by omega) (Int.le_refl _) (by rw [hz2]; omega) (by omega)
    simpa [hz1, Value.cells] using this
  · have h2 : j % 1 = 0 := Nat.mod_one j
    simp [madeCells, hj, h2]
def OffOwn (W : World) (N : Nat) (v : Value) (xs : List ByteArray) : Prop := (xs = [] ∧ ∃ a c, v = .slice a 0 c ∧ (a = none → c = 0)) ∨
  ∃ g o cap cur, v = .slice (some ⟨g, o, none⟩) xs.length cap ∧ N ≤ g ∧ W.heap[g]? = some (.cells cur 9 (0, 0)) ∧ xs.length ≤ cap ∧ o + xs.length ≤ cur.size ∧ ∀ (i : Nat) x, xs[i]? = some x → cur[o + i]? = some (.string x)
theorem OffOwn.at {W : World} {N : Nat} {v : Value} {xs : List ByteArray} (h : OffOwn W N v xs) : rowAt txtC W v xs := by
  rcases h with ⟨rfl, a, c, rfl, h⟩ | ⟨g, o, cap, cur, rfl, -, hh, h1, -, h2⟩
  · exact rowAt_of_txts (xs := []) (.inl rfl) h (Nat.zero_le _)
  · exact rowAt_of_txts (.inr ⟨g, o, rfl, (Array.getElem?_eq_some_iff.1 hh).1, fun i x hi => cell_arrS hh _ _ (h2 i x hi)⟩) (fun e => by cases e) h1
theorem sort_off (xs : List ByteArray) (g off cap : Nat) (cur : Array Value) (W : World) (hn : xs.length ≤ 4294967296) (hh : W.heap[g]? = some (.cells cur 9 (0, 0))) (hsz : off + xs.length ≤ cur.size) (hcell : ∀ (i : Nat) x, xs[i]? = some x → cur[off + i]? = some (.string x)) :
    Calls Tryz.prog 68 #[.slice (some ⟨g, off, none⟩) xs.length cap] W fun x w' => x = .returned (.tuple #[]) ∧ (∃ cur' : Array Value, w'.heap[g]? = some (.cells cur' 9 (0, 0)) ∧ cur'.size = cur.size ∧ ∀ (i : Nat) x, (sortT xs)[i]? = some x → cur'[off + i]? = some (.string x)) ∧ W.grownBy w' (some g) := by
  have hl : (xs.map fun x => x.data.toList).length = xs.length := List.length_map _
  have hH : Holds encStr W g off (xs.map fun x => x.data.toList).toArray := by
    intro j hj
    have hj' : j < xs.length := by simpa using hj
    have h1 := hcell j xs[j] (List.getElem?_eq_getElem hj')
    refine ⟨?_, by simp [World.frozen?, hh]⟩
    rw [cell_arrS hh _ _ h1]
    simp [hj', encStr]
  have := sh_slices_Sort_string g off cap (xs.map fun x => x.data.toList) W hH (Array.getElem?_eq_some_iff.1 hh).1 (by rw [hl]; omega)
  rw [hl] at this
  refine this.mono fun x w' ⟨h1, n, os, h2⟩ => ⟨h1, ⟨putCells encStr off ((xs.map fun x => x.data.toList).mergeSort fun x y => decide (x ≤ y)).toArray cur, ?_, by simp [putCells], fun i x hi => ?_⟩, ?_⟩
  · rw [h2, heap_grow_old _ _ (by simpa using (Array.getElem?_eq_some_iff.1 hh).1)]
    simp [putRow, mapBlock, Sort.ahead, Array.getElem?_modify, hh, onCells]
  · have hil : i < xs.length := by have := (List.getElem?_eq_some_iff.1 hi).1; rwa [sortT_len] at this
    unfold sortT at hi
    rw [List.getElem?_map] at hi
    have hm : i < ((xs.map fun x => x.data.toList).mergeSort leB).length := by rw [List.length_mergeSort, hl]; exact hil
    rw [List.getElem?_eq_getElem hm] at hi
    injection hi with hi
    subst hi
    have e : (fun x y : List UInt8 => decide (x ≤ y)) = leB := by funext x y; rfl
    rw [e]
    have hm2 : i < ((xs.map fun x => x.data.toList).mergeSort leB).toArray.size := by simpa using hm
    have hlt : off + i < cur.size := by omega
    simp [putCells, hlt, hil, encStr]
  · rw [h2]
    refine ⟨rfl, rfl, rfl, by simp, fun k hk hne => ?_⟩
    rw [heap_grow_old _ _ (by simpa using hk)]
    have : g ≠ k := fun e => hne (by rw [e])
    simp [putRow, mapBlock, Sort.ahead, Array.getElem?_modify, this]
theorem wp_nameL {ops : Array Oper} {rest : List Oper} {o : Oper} {a : Act} {w : World} {Q : Exit → Act → World → Prop} (hgd : o.guard = none) (s y : Operand) (ho : o.op = .call { callee := .builtin .append, args := #[s, y], argTypes := #[24, 24] })
    (base : Nat) (v : Value) (xs : List ByteArray) (x : ByteArray) (g : Nat) (hs : a.eval s = v) (hx : a.eval y = .slice (some ⟨g, 0, none⟩) 1 1) (hown : w.ownsRow base 9 1 v xs.length (xs.map Value.string)) (h : w.cell? ⟨g, 0, none⟩ = some (.string x)) (hn : xs.length ≤ 4294967296) (hb : base ≤ w.heap.size)
    (hk : ∀ v' w', w'.ownsRow base 9 1 v' (xs ++ [x]).length ((xs ++ [x]).map Value.string) → w.grownBy w' v.ownBlock → (v'.ownBlock = v.ownBlock ∨ v'.ownBlock = some w.heap.size) → wpList Tryz.prog ops Q rest (a.put o.dst v') w') : wpList Tryz.prog ops Q (o :: rest) a w := by
  refine wpList_plain hgd fun K hK => ?_
  obtain ⟨v', w', hr, h2, h3, h4⟩ := app_nameL w base o.type v xs x g hown h hn hb
  unfold Oper.wp execOp
  simp only [ho, resolve, invoke, builtin, Sem.run_bind, Sem.run_pure, Result.andThen_ok, List.map_toArray, List.map_cons, List.map_nil, hs, hx, hr]
  exact hK _ _ (hk v' w' h2 h3 h4)
theorem ints_cells {W : World} {base : Nat} {v : Value} {zs : List Int} (h : W.ownsInts base 3 .i64 v zs) : ∃ a c, v = .slice a zs.length c ∧ (zs = [] ∨ ∃ g, a = some ⟨g, 0, none⟩ ∧ v.ownBlock = some g ∧ g < W.heap.size ∧ ∀ (i : Nat) z, zs[i]? = some z → W.cell? ⟨g, i, none⟩ = some (.int .i64 z)) := by
  rcases h.1.2 with ⟨rfl, h0⟩ | ⟨g, cap, cur, rfl, hg, hh, hc, hm, hsz, hcur⟩
  · have : zs = [] := List.length_eq_zero_iff.1 h0
    subst this
    exact ⟨none, 0, rfl, .inl rfl⟩
  · refine ⟨_, cap, rfl, .inr ⟨g, rfl, rfl, (Array.getElem?_eq_some_iff.1 hh).1, fun i z hi => ?_⟩⟩
    have hl : i < zs.length := (List.getElem?_eq_some_iff.1 hi).1
    refine cell_arrS hh _ _ ?_
    rw [← Array.getElem?_toList, ← List.getElem?_take_of_lt (l := cur.toList) (i := i) (j := zs.length * 1) (by omega), hcur, List.getElem?_map, hi]; rfl
structure NS (W1 : World) (fb : Nat) (nm : ByteArray) (ps : List packC.D) (rest : List ByteArray) (fnd : Nat → Bool) (nv : Value) (wr : World) : Prop where
  below : Below W1.heap.size W1 wr
  found : ∃ F : Array Value, wr.heap[fb]? = some (.cells F 4 (0, 0)) ∧ F.size = ps.length ∧ ∀ i, i < ps.length → F[i]? = some (.bool (fnd i))
  own : wr.ownsRow (fb + 1) 9 1 nv (nm :: rest).length ((nm :: rest).map Value.string)
  ge : W1.heap.size ≤ fb
  state : FoundS ps nm rest fnd
theorem NS.keep {W1 wr w' : World} {fb : Nat} {nm : ByteArray} {ps : List packC.D} {rest : List ByteArray} {fnd : Nat → Bool} {nv : Value} (h : NS W1 fb nm ps rest fnd nv wr) (hb : Below wr.heap.size wr w') : NS W1 fb nm ps rest fnd nv w' := by
  obtain ⟨F, h1, h2, h3⟩ := h.found
  exact ⟨h.below.trans (hb.mono h.below.size), ⟨F, (hb.block _ (Array.getElem?_eq_some_iff.1 h1).1).trans h1, h2, h3⟩, ownsRow_belowS h.own hb, h.ge, h.state⟩
end Go.Proofs.YtoihhlkidlapmaaGreat

namespace Go.Proofs.YtoihhlkidlapmaaGreat
open Go.RowKit Go.Shelf Go.Maps Go.ChangeShapes
def NeR (ps : List packC.D) (nm : ByteArray) (w : World) (e : Ending) (w' : World) : Prop := ∃ v, e = .returned v ∧ OffOwn w' w.heap.size v (needers_0 ps nm) ∧ Below w.heap.size w w'
theorem neR_no {ps : List packC.D} {nm : ByteArray} {w w' : World} (h : packsCode ps ≠ 0) (hb : Below w.heap.size w w') : NeR ps nm w (.returned (.slice none 0 0)) w' :=
  ⟨_, rfl, by unfold needers_0; rw [if_neg h]; exact .inl ⟨rfl, _, _, rfl, fun _ => rfl⟩, hb⟩
theorem shuns_all {W : World} {b : Nat} {l : List (ByteArray × Nat)} {D : DataW Unit} (h : Groups W b l D) {W' : World} (hb : Below W.heap.size W W') (hlt : b < W.heap.size) : W'.Shuns b (fun g => W.heap.size ≤ g) :=
  World.Shuns.kept (World.Shuns.reno (No := fun _ => False) (fun _ _ _ _ _ _ _ h => h) h.own (fun _ h => .inr h)) (below_grown none hb) hlt (by simp)
theorem names_smallN {ps : List packC.D} (hs : smallPs ps) : ∀ x ∈ namesP ps, x.size ≤ 1048576 := fun x hx => by
  obtain ⟨i, hi⟩ := List.getElem?_of_mem hx
  obtain ⟨p, hp, rfl⟩ := namesP_some hi
  exact (hs.2 p (List.mem_of_getElem? hp)).name
theorem ownsRow_frameN {W W' : World} {N e n size : Nat} {v : Value} {xs : List Value} (h : W.ownsRow N e size v n xs) (hk : ∀ k, N ≤ k → k < W.heap.size → W'.heap[k]? = W.heap[k]?) : W'.ownsRow N e size v n xs := by
  refine ⟨h.1, ?_⟩
  rcases h.2 with h0 | ⟨g, cap, cur, hv, hg, hh, h2⟩
  · exact .inl h0
  · exact .inr ⟨g, cap, cur, hv, hg, (hk g hg (Array.getElem?_eq_some_iff.1 hh).1).trans hh, h2⟩
theorem cons_take {α : Type} {x : α} {l : List α} {k : Nat} (y : α) (hk : k ≤ (x :: l).length) : (x :: (l ++ [y])).take k = (x :: l).take k := by
  rw [← List.cons_append, List.take_append_of_le_length hk]
set_option maxRecDepth 100000 in
set_option maxHeartbeats 16000000 in
theorem implNeeders_any (ps : List packC.D) (pa : Option Addr) (pc : Nat) (nm : ByteArray) (w : World) (hsm : smallPs ps) (hnm : nm.size ≤ maxLen) (hp : rowAt packC w (.slice pa ps.length pc) ps) :
    Calls Tryz.prog 21 #[.slice pa ps.length pc, .string nm] w (NeR ps nm w) := by
  have HP := hid hp
  have HSM := hid hsm
  have hlen := hsm.1
  have HL := hid (listOkPack_any ps _ w hsm hp)
  clear hp hsm
  go_enter Tryz.func21, Tryz.ntmps21
  go_wp2_with fail
  refine (unhid HL).mono ?_
  rintro e w1 ⟨rfl, hb⟩
  have HB1 := hid hb
  clear hb HL
  cases hok : allPk ps with
  | false =>
    have E := hid (show packsCode ps ≠ 0 by unfold packsCode; rw [hok, if_neg (by decide)]; decide)
    go_wp2_with fail
    go_ret
    exact neR_no (unhid E) (unhid HB1)
  | true =>
    have HOK := hid hok
    clear hok
    go_wp2_with fail
    refine (namesOfPacks_any ps _ w1 hlen ((unhid HP).below (unhid HB1))).mono ?_
    rintro e w2 ⟨u, rfl, ho, hb⟩
    obtain ⟨ua, uc, hu⟩ := ownsRow_sl ho
    subst hu
    have HO := hid ho
    have HB2 := hid ((unhid HB1).trans (hb.mono (unhid HB1).size))
    clear ho hb
    go_wp2_with fail
    refine (anyTwice_any (namesP ps) _ w1.heap.size w2 (by rw [namesP_len]; omega) (unhid HO)).mono ?_
    rintro e w3 ⟨rfl, hg⟩
    have HB3 := hid (grown_belowN (unhid HB2) hg (fun j ej => Nat.le_trans (unhid HB1).size ((unhid HO).lt j ej).1))
    clear hg HO HB2
    cases htw : twiceB (namesP ps) with
    | true =>
      have E := hid (show packsCode ps ≠ 0 by unfold packsCode; rw [unhid HOK, htw]; decide)
      go_wp2_with fail
      go_ret
      exact neR_no (unhid E) (unhid HB3)
    | false =>
      have HND := hid (show (namesP ps).Nodup by unfold twiceB at htw; simpa using htw)
      have E := hid (packs_code (unhid HOK) (unhid HND))
      clear htw
      go_wp2_with fail
      refine (needersByName_any ps _ w3 (unhid HSM) ((unhid HP).below (unhid HB3))).mono ?_
      rintro e W1 ⟨D, rfl, hG, hz, hb⟩
      have HG := hid hG
      have HZ := hid hz
      have HB4 := hid ((unhid HB3).trans (hb.mono (unhid HB3).size))
      have HPW := hid ((unhid HP).below (unhid HB4))
      clear hG hz hb HB3
      obtain ⟨F0, hmk, hF1, hF2⟩ := mkFound W1 ps.length hlen
      have HMK := hid (And.intro hF1 hF2)
      clear hF1 hF2
      go_wp2_with fail
      clear hmk
      have hs1 : (W1.alloc (.cells F0 4)).heap.size = W1.heap.size + 1 := by simp
      have hb1 : Below W1.heap.size W1 (W1.alloc (.cells F0 4)) := (Below.refl _ W1).alloc (Nat.le_refl _) _
      have hb2 : Below (W1.alloc (.cells F0 4)).heap.size (W1.alloc (.cells F0 4)) ((W1.alloc (.cells F0 4)).alloc (.cells #[.string nm] 9)) := (Below.refl _ _).alloc (Nat.le_refl _) _
      have hn1 := World.alloc_heap_new W1 (.cells F0 4)
      have hn2 := World.alloc_heap_new (W1.alloc (.cells F0 4)) (.cells #[.string nm] 9)
      rw [hs1] at hn2
      have HN0 := hid (show NS W1 W1.heap.size nm ps [] (fun _ => false) (.slice (some ⟨W1.heap.size + 1, 0, none⟩) 1 1) ((W1.alloc (.cells F0 4)).alloc (.cells #[.string nm] 9)) from
        ⟨hb1.trans (hb2.mono hb1.size), ⟨F0, (hb2.block _ (by omega)).trans hn1, (unhid HMK).1, (unhid HMK).2⟩, ⟨rfl, .inr ⟨W1.heap.size + 1, 1, _, rfl, Nat.le_refl _, hn2, Nat.le_refl _, by decide, rfl, rfl⟩⟩, Nat.le_refl _, found_none ps nm⟩)
      clear hs1 hb1 hb2 hn1 hn2 HMK
      generalize (W1.alloc (.cells F0 4)).alloc (.cells #[.string nm] 9) = w5 at HN0 ⊢
      go_loopw [7, 8] (fun nv i wr => ∃ (k : Nat) (rest : List ByteArray) (fnd : Nat → Bool), k ≤ (nm :: rest).length ∧ i = .int .i64 (k : Int) ∧ Hid (NS W1 W1.heap.size nm ps rest fnd nv wr) ∧ Hid (DoneS ps nm ((nm :: rest).take k) rest)) (fun _ i _ => ps.length + 1 - (intOf i).toNat)
      case atStart => exact ⟨0, [], _, Nat.zero_le _, rfl, HN0, hid (fun y hy => by cases hy)⟩
      case round =>
        clear HN0
        obtain ⟨k, rest, fnd, hk, rfl, HN, HD⟩ := hrel
        have hrl := found_len (unhid HN).state
        obtain ⟨na, nc, rfl, htx, -, hblk⟩ := ownsRow_txts (unhid HN).own
        by_cases hlt : k < (nm :: rest).length
        · obtain ⟨y, hy⟩ : ∃ y, (nm :: rest)[k]? = some y := ⟨(nm :: rest)[k], List.getElem?_eq_getElem hlt⟩
          obtain ⟨b, o, rfl, hbl, hc⟩ := htx.get (by simp)
          have c0 := hc k y hy
          have HY := hid hy
          have hys : y.size ≤ maxLen := by
            rcases List.mem_cons.1 (List.mem_of_getElem? hy) with e | hm
            · rw [e]; exact hnm
            · exact le_maxLen (names_smallN (unhid HSM) y ((unhid HN).state.in_ y hm).1)
          have hkey := Go.WideMaps.keyOf_string_mk (P := Tryz.prog) Tryz.underlying9 hys
          have HGr := hid ((unhid HG).keep (unhid HN).below)
          have HSH := hid (shuns_all (unhid HG) (unhid HN).below (unhid HZ))
          have hll : (prs 0 ps).length < maxLen := by
            have h1 := prs_len (c := 1048576) 0 ps (fun q hq => ((unhid HSM).2 q hq).needs.1)
            have h2 : ps.length * 1048576 ≤ 1048576 * 1048576 := Nat.mul_le_mul_right _ hlen
            unfold maxLen; omega
          have HLL := hid hll
          clear hy hc hbl htx hblk hys hll
          have hl2 : (k : Int) < (rest.length : Int) + 1 := by have : (nm :: rest).length = rest.length + 1 := rfl; omega
          have hzb : (prs 0 ps).length ≤ 1099511627776 := by
            have h1 := prs_len (c := 1048576) 0 ps (fun q hq => ((unhid HSM).2 q hq).needs.1)
            have h2 : ps.length * 1048576 ≤ 1048576 * 1048576 := Nat.mul_le_mul_right _ hlen
            omega
          have HZB := hid hzb
          clear hzb
          go_wp2_with (at_lookup; refine wpList_lookup_groups_shuns _ rfl _ _ 93 rfl 9 88 3 .i64 law9 Tryz.underlying93 (zeroInts _) (w3.heap.size + 1) w3.heap.size (prs 0 ps).length D rfl (unhid HGr).own (unhid HLL) _ _ rfl hkey ?_)
          intro v zs hat hoi hzl _ hsh
          have hzs := (unhid HGr).zs hat hoi
          obtain ⟨va, vc, rfl, hcz⟩ := ints_cells hoi
          have HV := hid (show zs = [] ∨ ∃ g, va = some ⟨g, 0, none⟩ ∧ g < W1.heap.size ∧ ∀ (i : Nat) z, zs[i]? = some z → W1.cell? ⟨g, i, none⟩ = some (.int .i64 z) from by
            rcases hcz with h | ⟨g, h1, h2, h3, h4⟩
            · exact .inl h
            · have h5 := hsh _ (unhid HSH) g h2
              have h6 : g < W1.heap.size := by omega
              exact .inr ⟨g, h1, h6, fun i z hi => ((unhid HN).below.cell (p := ⟨g, i, none⟩) h6).symm.trans (h4 i z hi)⟩)
          have HZS := hid hzs
          have hzl2 : zs.length ≤ 1099511627776 := Nat.le_trans hzl (unhid HZB)
          have HKL := hid hlt
          clear hat hoi hsh hcz hzs hkey c0 hzl hk hlt
          go_wp2_with fail
          go_loopw [7, 42] (fun nv t wx => ∃ (m : Nat) (rest : List ByteArray) (fnd : Nat → Bool), m ≤ zs.length ∧ t = .int .i64 (m : Int) ∧ Hid (NS W1 W1.heap.size nm ps rest fnd nv wx) ∧ Hid (DoneS ps nm ((nm :: rest).take k) rest) ∧ Hid ((nm :: rest)[k]? = some y) ∧ Hid (∀ j : Nat, j < m → ∀ (i : Nat) (p : packC.D), zs[j]? = some (i : Int) → ps[i]? = some p → PackD.name p ≠ nm → PackD.name p ∈ rest)) (fun _ t _ => zs.length - (intOf t).toNat)
          case atStart => exact ⟨0, rest, fnd, Nat.zero_le _, rfl, HN, HD, HY, hid (fun j hj => absurd hj (Nat.not_lt_zero _))⟩
          case round =>
            clear HN HD HY hrl hl2 HGr HSH HKL
            obtain ⟨m, rest, fnd, hm, rfl, HN, HD, HY, HI⟩ := hrel
            have hrl := found_len (unhid HN).state
            obtain ⟨na, nc, rfl, -, -, -⟩ := ownsRow_txts (unhid HN).own
            by_cases hlm : m < zs.length
            · obtain ⟨z, hz⟩ : ∃ z, zs[m]? = some z := ⟨zs[m], List.getElem?_eq_getElem hlm⟩
              obtain ⟨g, rfl, hgl, hgc⟩ := (unhid HV).resolve_left (by intro e; subst e; simp at hlm)
              obtain ⟨q, hq, rfl⟩ := mem_places.1 (by rw [← unhid HZS]; exact List.mem_of_getElem? hz)
              obtain ⟨q', p, hp, e0, -⟩ := mem_prs.1 hq
              rw [Nat.zero_add] at e0
              subst e0
              have d0 := ((unhid HN).below.cell (p := ⟨g, m, none⟩) hgl).trans (hgc m _ hz)
              obtain ⟨pa', pc', ev, -, -, hrow⟩ := unhid HPW
              injection ev with ea _ ec
              subst ea ec
              obtain ⟨b, o, rfl, hbl, hc⟩ := hrow.resolve_left (by intro e; subst e; simp at hp)
              obtain ⟨na2, nc2, ta2, tc2, ⟨c0, c1, c2, c3⟩, -⟩ := pack_cells (unhid HN).below hbl hc hp
              have hql : q < ps.length := (List.getElem?_eq_some_iff.1 hp).1
              obtain ⟨F, hF1, hF2, hF3⟩ := (unhid HN).found
              have f0 := cell_arrS hF1 q _ (hF3 q hql)
              have hxq := txt_iff (PackD.name p) nm
              have HZM := hid hz
              have HQ := hid hq
              have HPP := hid hp
              have hqf : q < 1048576 := by omega
              clear hz hgc hq hp hrow hc c1 c2 c3 hgl
              have same : (fnd q = true ∨ PackD.name p = nm) → Hid (∀ j : Nat, j < m + 1 → ∀ (i : Nat) (p : packC.D), zs[j]? = some (i : Int) → ps[i]? = some p → PackD.name p ≠ nm → PackD.name p ∈ rest) := fun hs => hid (fun j hj i p2 h1 h2 h3 => by
                by_cases ej : j = m
                · subst ej
                  rw [unhid HZM] at h1
                  have ei : q = i := by injection h1 with h1; omega
                  subst ei
                  rw [unhid HPP] at h2
                  cases h2
                  rcases hs with hs | hs
                  · exact ((unhid HN).state.at_ q p (unhid HPP)).1 hs
                  · exact absurd hs h3
                · exact unhid HI j (by omega) i p2 h1 h2 h3)
              have SAME := hid same
              clear same
              cases hfq : fnd q with
              | true =>
                rw [hfq] at f0
                have HI2 := (unhid SAME) (.inl hfq)
                clear hfq hF1 hF2 hF3 SAME
                go_wp2_with fail
                go_roundw
                case rel => exact ⟨m + 1, rest, fnd, by omega, by go_num, HN, HD, HY, HI2⟩
                case measure => simp [intOf]; omega
              | false =>
                rw [hfq] at f0
                by_cases hpn : PackD.name p = nm
                · have HI2 := (unhid SAME) (.inr hpn)
                  rw [decide_eq_true hpn] at hxq
                  clear hfq hF1 hF2 hF3 SAME hpn
                  go_wp2_with fail
                  go_roundw
                  case rel => exact ⟨m + 1, rest, fnd, by omega, by go_num, HN, HD, HY, HI2⟩
                  case measure => simp [intOf]; omega
                · rw [decide_eq_false hpn] at hxq
                  have HPN := hid hpn
                  have HFQ := hid hfq
                  have HF3 := hid hF3
                  have hqF : q < F.size := by omega
                  obtain ⟨f1, f2⟩ := cell_fz hF1 q _ (hF3 q hql)
                  clear hpn hfq hF3 SAME f1
                  go_upto_region 15 with fail
                  have hX6 := heap_setCell_same wr W1.heap.size q _ _ (.bool true) hF1
                  have hB6 : Below W1.heap.size wr (wr.setCell ⟨W1.heap.size, q, none⟩ (.bool true)) := (Below.refl _ wr).setCell (p := ⟨W1.heap.size, q, none⟩) (Nat.le_refl _) _
                  have hO6 := ownsRow_frameN (W' := wr.setCell ⟨W1.heap.size, q, none⟩ (.bool true)) (unhid HN).own (fun k h1 _ => Below.heap_setCell _ _ _ _ (by dsimp only; omega))
                  have hs6 : (wr.setCell ⟨W1.heap.size, q, none⟩ (.bool true)).heap.size = wr.heap.size := by simp
                  clear f0 f2 c0 d0 hF1
                  generalize wr.setCell ⟨W1.heap.size, q, none⟩ (.bool true) = w6 at hX6 hB6 hO6 hs6 ⊢
                  have hs15 := (unhid HN).below.size
                  have hx7 : (w6.alloc (.cells #[.string (PackD.name p)] 9)).cell? ⟨w6.heap.size, 0, none⟩ = some (.string (PackD.name p)) := cell_arrS (World.alloc_heap_new w6 (.cells #[.string (PackD.name p)] 9)) 0 _ rfl
                  have hb7 := (Below.refl w6.heap.size w6).alloc (Nat.le_refl _) (.cells #[.string (PackD.name p)] 9)
                  have hXl : W1.heap.size < w6.heap.size := (Array.getElem?_eq_some_iff.1 hX6).1
                  have HO7 := hid (ownsRow_belowS hO6 hb7)
                  have HX7 := hid hx7
                  have HS7 := hid (show W1.heap.size + 1 ≤ (w6.alloc (.cells #[.string (PackD.name p)] 9)).heap.size by have := hb7.size; omega)
                  have HLE := hid (show (nm :: rest).length ≤ 4294967296 by rw [List.length_cons]; omega)
                  have HB7 := hid (hB6.trans (hb7.mono (show W1.heap.size ≤ w6.heap.size by omega)))
                  have HF7 := hid ((hb7.block _ hXl).trans hX6)
                  clear hx7 hb7 hB6 hO6 hX6 hs6
                  go_wp2_with (at_builtin; refine wp_nameL rfl _ _ rfl (W1.heap.size + 1) _ (nm :: rest) (PackD.name p) _ rfl rfl (unhid HO7) (unhid HX7) (unhid HLE) (unhid HS7) ?_)
                  intro v' w8 hO8 hg8 hblk
                  have hO8 : w8.ownsRow (W1.heap.size + 1) 9 1 v' (nm :: (rest ++ [PackD.name p])).length ((nm :: (rest ++ [PackD.name p])).map Value.string) := by simpa using hO8
                  obtain ⟨za, zc, rfl, -, -, -⟩ := ownsRow_txts hO8
                  have hown := (unhid HO7).lt
                  have hfar : ∀ j, j < W1.heap.size + 1 → w8.heap[j]? = (w6.alloc (.cells #[.string (PackD.name p)] 9)).heap[j]? := fun j hj => hg8.block j (Nat.lt_of_lt_of_le hj (unhid HS7)) (fun e => by have := (hown j e.symm).1; omega)
                  have hB8 : Below W1.heap.size (w6.alloc (.cells #[.string (PackD.name p)] 9)) w8 := ⟨hg8.os, hg8.tape, hg8.output, hg8.size, fun j hj => hfar j (by omega)⟩
                  have hy : y = nm ∨ y ∈ rest := List.mem_cons.1 (List.mem_of_getElem? (unhid HY))
                  have hkl : k < (nm :: rest).length := (List.getElem?_eq_some_iff.1 (unhid HY)).1
                  have HNS := hid (show NS W1 W1.heap.size nm ps (rest ++ [PackD.name p]) (fun j => if j = q then true else fnd j) (.slice za (nm :: (rest ++ [PackD.name p])).length zc) w8 from
                    ⟨((unhid HN).below.trans (unhid HB7)).trans hB8, ⟨F.setIfInBounds q (.bool true), (hfar _ (by omega)).trans (unhid HF7), by simp [hF2], fun i hi => by
                      by_cases eq : i = q
                      · subst eq; simp [hqF]
                      · rw [Array.getElem?_setIfInBounds_ne (fun e => eq e.symm), if_neg eq]; exact unhid HF3 i hi⟩, hO8, Nat.le_refl _, found_add (unhid HND) (unhid HN).state (unhid HPP) (unhid HFQ) (unhid HPN) hy (unhid HQ)⟩)
                  have HDS := hid (show DoneS ps nm ((nm :: (rest ++ [PackD.name p])).take k) (rest ++ [PackD.name p]) by rw [cons_take _ (Nat.le_of_lt hkl)]; exact done_more (unhid HD) _)
                  have HYS := hid (show (nm :: (rest ++ [PackD.name p]))[k]? = some y by rw [← List.cons_append, List.getElem?_append_left hkl]; exact unhid HY)
                  have HIS := hid (show ∀ j : Nat, j < m + 1 → ∀ (i : Nat) (p2 : packC.D), zs[j]? = some (i : Int) → ps[i]? = some p2 → PackD.name p2 ≠ nm → PackD.name p2 ∈ rest ++ [PackD.name p] from fun j hj i p2 h1 h2 h3 => by
                    by_cases ej : j = m
                    · subst ej
                      rw [unhid HZM] at h1
                      have ei : q = i := by injection h1 with h1; omega
                      subst ei
                      rw [unhid HPP] at h2
                      cases h2
                      simp
                    · exact List.mem_append_left _ (unhid HI j (by omega) i p2 h1 h2 h3))
                  clear hO8 hg8 hblk hown hfar hB8 hy hkl HO7 HX7 HB7 HF7
                  go_wp2_with fail
                  go_roundw
                  case rel => exact ⟨m + 1, _, _, by omega, by go_num, HNS, HDS, HYS, HIS⟩
                  case measure => simp [intOf]; omega
            · have e : m = zs.length := by omega
              subst e
              have hkl : k < (nm :: rest).length := (List.getElem?_eq_some_iff.1 (unhid HY)).1
              have hkl2 : k < rest.length + 1 := hkl
              have HDS := hid (show DoneS ps nm ((nm :: rest).take (k + 1)) rest from fun y2 hy2 i p h1 h2 h3 => by
                rw [List.take_add_one, unhid HY] at hy2
                rcases List.mem_append.1 hy2 with hy2 | hy2
                · exact unhid HD y2 hy2 i p h1 h2 h3
                · have e2 : y2 = y := List.mem_singleton.1 (show y2 ∈ [y] from hy2)
                  subst e2
                  have hz : (i : Int) ∈ zs := by rw [unhid HZS]; exact mem_places.2 ⟨i, h1, rfl⟩
                  obtain ⟨j, hj⟩ := List.getElem?_of_mem hz
                  exact unhid HI j (List.getElem?_eq_some_iff.1 hj).1 i p hj h2 h3)
              clear HD HI HY
              go_wp2_with fail
              go_roundw
              case rel => exact ⟨k + 1, rest, fnd, by omega, by go_num, HN, HDS⟩
              case measure => simp [intOf]; omega
        · have hlc : (nm :: rest).length = rest.length + 1 := rfl
          have e : k = rest.length + 1 := by omega
          subst e
          have HEND := hid (found_end (unhid HN).state (by have h := unhid HD; rwa [List.take_of_length_le (by omega)] at h))
          have hno : ¬ ((rest.length : Int) + 1 < (rest.length : Int) + 1) := by omega
          obtain ⟨g, cap, cur, hv, hg, hh, hcl, -, hcs, hcur⟩ := (unhid HN).own.2.resolve_left (by rintro ⟨_, h⟩; simp at h)
          injection hv with hva _ hvc
          subst hva hvc
          have hcell : ∀ (i : Nat) x, rest[i]? = some x → cur[1 + i]? = some (.string x) := fun i x hi => by
            have hl : i < rest.length := (List.getElem?_eq_some_iff.1 hi).1
            rw [← Array.getElem?_toList, ← List.getElem?_take_of_lt (l := cur.toList) (i := 1 + i) (j := (nm :: rest).length * 1) (by omega), hcur, List.map_cons, Nat.add_comm 1 i, List.getElem?_cons_succ, List.getElem?_map, hi]; rfl
          have HH := hid hh
          have HCL := hid hcell
          have HBF := hid ((unhid HB4).trans ((unhid HN).below.mono (unhid HB4).size))
          have hgW : w.heap.size ≤ g := by have := (unhid HB4).size; omega
          clear hcur hcell hh htx hblk HD hk hlt
          by_cases hc1 : nc = 1
          · have hr0 : rest = [] := List.length_eq_zero_iff.1 (by omega)
            subst hr0
            subst hc1
            go_wp2_with fail
            refine (sh_slices_Sort_string_none _ _ _).mono ?_
            rintro x w9 ⟨rfl, rfl⟩
            go_wp2_with fail
            go_ret
            refine ⟨_, rfl, ?_, unhid HBF⟩
            unfold needers_0
            rw [if_pos (unhid E), ← unhid HEND]
            exact .inl ⟨by simp [sortT], _, _, rfl, fun e => by cases e⟩
          · go_wp2_with fail
            refine (sort_off rest g 1 (nc - 1) cur wr (by omega) (unhid HH) (by omega) (unhid HCL)).mono ?_
            rintro x w9 ⟨rfl, ⟨cur', h1, h2, h3⟩, hgr⟩
            have HR := hid (And.intro h1 (And.intro h2 (And.intro h3 hgr)))
            clear h1 h2 h3 hgr
            go_wp2_with fail
            go_ret
            obtain ⟨h1, h2, h3, hgr⟩ := unhid HR
            refine ⟨_, rfl, ?_, (unhid HBF).grown hgr (unhid HBF).size (fun j hj => by cases hj; exact hgW)⟩
            unfold needers_0
            rw [if_pos (unhid E), ← unhid HEND]
            have hsl := sortT_len rest
            exact .inr ⟨g, 1, nc - 1, cur', by rw [hsl]; rfl, hgW, h1, by omega, by omega, h3⟩
end Go.Proofs.YtoihhlkidlapmaaGreat

namespace Go.Proofs.YtoihhlkidlapmaaGreat
open Go.RowKit Go.Shelf Go.Maps Go.ChangeShapes
end Go.Proofs.YtoihhlkidlapmaaGreat

namespace Go.Proofs.YtoihhlkidlapmaaGreat
open Go.RowKit Go.Shelf Go.Maps Go.ChangeShapes
end Go.Proofs.YtoihhlkidlapmaaGreat

namespace Go.Proofs.YtoihhlkidlapmaaGreat
open Go.RowKit Go.Shelf Go.Maps Go.ChangeShapes
theorem needers_small (ps : List packC.D) (nm : ByteArray) : (needers_0 ps nm).length ≤ ps.length ∧ ∀ x ∈ needers_0 ps nm, x ∈ namesP ps ∧ x ≠ nm := by
  unfold needers_0
  split
  · obtain ⟨h1, -, -, h4⟩ := needers_facts ps nm
    have := nodup_len (needersT ps nm) (namesP ps) (asc_nodup h1) (fun x hx => (h4 x hx).1)
    rw [namesP_len] at this
    exact ⟨this, h4⟩
  · exact ⟨Nat.zero_le _, fun x hx => by cases hx⟩
def NeT (ps : List packC.D) (nm : ByteArray) (W : World) (x : Ending) (w' : World) : Prop := ∃ a c, x = .returned (.slice a (needers_0 ps nm).length c) ∧ TR w' a c (needers_0 ps nm) ∧ Below W.heap.size W w'
theorem neT_of {ps : List packC.D} {nm : ByteArray} {W w' : World} {v : Value} (hs : smallPs ps) (hf : ps.length ≤ 100) (h : rowAt txtC w' v (needers_0 ps nm)) (hb : Below W.heap.size W w') : NeT ps nm W (.returned v) w' := by
  obtain ⟨h1, h2⟩ := needers_small ps nm
  obtain ⟨a, c, rfl, -⟩ := rowAt_txts h
  exact ⟨a, c, rfl, ⟨h, by omega, fun x hx => names_small hs x (h2 x hx).1⟩, hb⟩
theorem implNe_r {W : World} {pa : Option Addr} {pc : Nat} {ps : List packC.D} {nm : ByteArray} (h : RR W pa pc ps) (hn : nm.size ≤ maxLen) : Calls Tryz.prog 21 #[.slice pa ps.length pc, .string nm] W (NeT ps nm W) := by
  refine (implNeeders_any ps pa pc nm W h.small hn h.row).mono ?_
  rintro e w' ⟨v, rfl, ho, hb⟩
  exact neT_of h.small h.few ho.at hb
end Go.Proofs.YtoihhlkidlapmaaGreat

namespace Go.Proofs.YtoihhlkidlapmaaGreat
open Go.RowKit Go.Shelf
end Go.Proofs.YtoihhlkidlapmaaGreat
