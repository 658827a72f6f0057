/- Texts of this proof, one behind the other; each says at its head what it shows. -/
import Derived.Test.YtoihhlkidlapmaaGreatJoin10
import Derived.Test.YtoihhlkidlapmaaGreatJoin3
import Derived.Test.YtoihhlkidlapmaaGreatJoin5
import Derived.Test.YtoihhlkidlapmaaGreatJoin9
import Derived.Test.YtoihhlkidlapmaaGreatJoin1
import Derived.Deep.Draws
import Derived.Laws.AppendOwn
import Derived.RangeFuncBox
import Derived.Test.YtoihhlkidlapmaaGreatJoin4
import Derived.Deep.RegionHeld
import Derived.Lib.Bytes
/- The pack that a path is of. -/
namespace Go.Proofs.YtoihhlkidlapmaaGreat
open Go.RowKit Go.Shelf

def ownsB (path : ByteArray) (p : packC.D) : Bool := thereE (treeOfP p) path && (entFn (treeOfP p) (placeE (treeOfP p) path)).kind != 1
def ownerP (ps : List packC.D) (path : ByteArray) : ByteArray := match List.find? (α := packC.D) (ownsB path) ps with
  | some p => PackD.name p
  | none => ⟨#[]⟩
def rootOwner_0 (d : RootD) (path : ByteArray) : ByteArray := if rootOk_0 d then ownerP d.packs path else ⟨#[]⟩
theorem owner_at {ps : List packC.D} {path : ByteArray} {k : Nat} {p : packC.D} (hno : ∀ (j : Nat) q, j < k → ps[j]? = some q → ownsB path q = false) (hp : ps[k]? = some p) (h : ownsB path p = true) : ownerP ps path = PackD.name p := by
  obtain ⟨hl, e⟩ := List.getElem?_eq_some_iff.1 hp
  have h1 : List.find? (α := packC.D) (ownsB path) (ps.take k) = none := by
    rw [List.find?_eq_none]
    intro q hq
    obtain ⟨j, hj⟩ := List.getElem?_of_mem hq
    have hjk : j < k := by have := (List.getElem?_eq_some_iff.1 hj).1; rw [List.length_take] at this; omega
    rw [List.getElem?_take_of_lt hjk] at hj
    rw [hno j q hjk hj]
    exact Bool.false_ne_true
  unfold ownerP
  rw [show ps = ps.take k ++ p :: ps.drop (k + 1) by rw [← e, ← List.drop_eq_getElem_cons hl, List.take_append_drop]]
  rw [List.find?_append, h1, List.find?_cons, h]
  rfl
theorem owner_no {ps : List packC.D} {path : ByteArray} (hno : ∀ (j : Nat) q, j < ps.length → ps[j]? = some q → ownsB path q = false) : ownerP ps path = ⟨#[]⟩ := by
  have h1 : List.find? (α := packC.D) (ownsB path) ps = none := by
    rw [List.find?_eq_none]
    intro q hq
    obtain ⟨j, hj⟩ := List.getElem?_of_mem hq
    rw [hno j q (List.getElem?_eq_some_iff.1 hj).1 hj]
    exact Bool.false_ne_true
  unfold ownerP
  rw [h1]

set_option maxRecDepth 100000 in
set_option maxHeartbeats 4000000 in
theorem specRootOwner_any (d : RootD) (path : ByteArray) (a : Option Addr) (c : Nat) (w : World) (hs : smallPs d.packs) (h : rowAt packC w (.slice a d.packs.length c) d.packs) :
    Calls Tryz.prog 34 #[.agg #[.slice a d.packs.length c], .string path] w fun x w' => x = .returned (.string (rootOwner_0 d path)) ∧ Below w.heap.size w w' := by
  have HBX := hid (World.alloc_heap_new w (.cells #[.slice a d.packs.length c] 51))
  have HB := hid (show ∀ x, Below w.heap.size w (w.alloc x) from fun x => (Below.refl _ w).alloc (Nat.le_refl _) x)
  have HLT := hid (show w.heap.size < (w.alloc (.cells #[.slice a d.packs.length c] 51)).heap.size by simp)
  have K := hid (fun W (hb : Below w.heap.size w W) => specRootOk_any d a c W hs (h.below hb))
  have HS := hid hs
  have hlen := hs.1
  obtain ⟨a', c', hv, -, -, hr⟩ := h
  injection hv with e1 _ e3
  subst e1 e3
  have H := hid hr
  clear hs hr
  go_enter Tryz.func34, Tryz.ntmps34
  go_wp2_with fail
  have hb0 := unhid HB (.cells #[.slice a d.packs.length c] 51)
  generalize w.alloc (.cells #[.slice a d.packs.length c] 51) = W0 at HBX HLT hb0 ⊢
  have HB0 := hid hb0
  clear hb0 HB
  go_loopw [5] (fun i wr => ∃ k : Nat, k ≤ d.packs.length ∧ i = .int .i64 (k : Int) ∧ Hid (∀ (j : Nat) q, j < k → d.packs[j]? = some q → ownsB path q = false) ∧ Hid (0 < k → rootOk_0 d = true) ∧ Hid (Below W0.heap.size W0 wr)) (fun i _ => d.packs.length - (intOf i).toNat)
  case atStart => exact ⟨0, Nat.zero_le _, rfl, hid (fun j q hj => absurd hj (Nat.not_lt_zero _)), hid (fun h => absurd h (Nat.lt_irrefl _)), hid (Below.refl _ _)⟩
  case round =>
    obtain ⟨k, hk, rfl, HX, HOK, HB⟩ := hrel
    have HBW := hid ((unhid HB0).trans ((unhid HB).mono (unhid HB0).size))
    have hbox := cell_arrS (((unhid HB).block _ (unhid HLT)).trans (unhid HBX)) 0 _ rfl
    by_cases hlt : k < d.packs.length
    · obtain ⟨e, he⟩ : ∃ e, d.packs[k]? = some e := ⟨d.packs[k], List.getElem?_eq_getElem hlt⟩
      go_wp2_with fail
      refine (unhid K wr (unhid HBW)).mono ?_
      rintro x w2 ⟨rfl, hb⟩
      have HB2 := hid ((unhid HB).trans (hb.mono (unhid HB).size))
      have HBW2 := hid ((unhid HBW).trans (hb.mono (unhid HBW).size))
      clear hb hbox HB
      have hbox := cell_arrS (((unhid HB2).block _ (unhid HLT)).trans (unhid HBX)) 0 _ rfl
      cases hq : rootOk_0 d with
      | false =>
        have E := hid (show rootOwner_0 d path = ⟨#[]⟩ by unfold rootOwner_0; rw [hq]; rfl)
        go_wp2_with fail
        go_ret
        exact ⟨by rw [unhid E]; rfl, unhid HBW2⟩
      | true =>
        have HQ := hid hq
        have E0 := hid (show rootOwner_0 d path = ownerP d.packs path by unfold rootOwner_0; rw [hq]; rfl)
        obtain ⟨b, o, rfl, hbl, hc⟩ := (unhid H).resolve_left (by intro e; rw [e] at hlt; simp at hlt)
        obtain ⟨na, nc, ta, tc, ⟨c0, c1, c2, c3⟩, hat⟩ := pack_cells (unhid HBW2) hbl hc he
        obtain ⟨hte, htl, -⟩ := tree_in hat
        have hst : smallE (treeOfP e) := ((unhid HS).2 e (List.mem_of_getElem? he)).tree
        have JN := hid (l2At_any (treeOfP e) ta tc path w2 hst.1 hte)
        rw [htl] at JN
        have HE := hid he
        have HTE := hid (And.intro hte htl)
        clear hc he hbl hat hte htl hst hq c1 c2
        go_wp2_with fail
        refine (unhid JN).mono ?_
        rintro x w3 ⟨rfl, m, hm⟩
        have hb : Below w2.heap.size w2 w3 := by rw [hm]; exact drewN_below _ _
        have HB3 := hid ((unhid HB2).trans (hb.mono (unhid HB2).size))
        have HBW3 := hid ((unhid HBW2).trans (hb.mono (unhid HBW2).size))
        have HTE3 := hid ((unhid HTE).1.below hb)
        clear hm hb c0 c3 hbox JN
        have hbox := cell_arrS (((unhid HB3).block _ (unhid HLT)).trans (unhid HBX)) 0 _ rfl
        obtain ⟨b', o', eb, hbl, hc⟩ := (unhid H).resolve_left (by intro e; rw [e] at hlt; simp at hlt)
        injection eb with eb
        injection eb with eb1 eb2 _
        subst eb1 eb2
        obtain ⟨na', nc', ta', tc', ⟨c0, c1, c2, c3⟩, hat⟩ := pack_cells (unhid HBW3) hbl hc (unhid HE)
        obtain ⟨hte', htl', -⟩ := tree_in hat
        cases hth : thereE (treeOfP e) path with
        | false =>
          have HNO := hid (show ownsB path e = false by unfold ownsB; rw [hth]; rfl)
          clear hc hbl hat hte' htl' hth c1 c2 c3 c0
          go_wp2_with fail
          go_roundw
          case rel =>
            refine ⟨k + 1, by omega, by go_num, hid (fun j q hj hq => ?_), hid (fun _ => unhid HQ), HB3⟩
            by_cases ej : j = k
            · subst ej; rw [unhid HE] at hq; cases hq; exact unhid HNO
            · exact unhid HX j q (by omega) hq
          case measure => simp [intOf]; omega
        | true =>
          obtain ⟨old, hold, hop⟩ := there_get hth
          have hfo := entFn_get hold
          have hkl : placeE (treeOfP e) path < (PackD.tree e).length := by rw [← htl']; exact (List.getElem?_eq_some_iff.1 hold).1
          obtain ⟨tb, to', rfl, htb, htc⟩ := hte'.get (by intro e; rw [e] at hold; cases hold)
          obtain ⟨k0, k1, k2, k3⟩ := htc _ old hold
          have hob : ownsB path e = (old.kind != 1) := by unfold ownsB; rw [hth, hfo]; rfl
          generalize placeE (treeOfP e) path = pl at *
          cases hkd : (old.kind != 1) with
          | false =>
            have HNO := hid (hob.trans hkd)
            clear hc hbl hat htl' hth c1 c2 hob
            go_wp2_with fail
            go_roundw
            case rel =>
              refine ⟨k + 1, by omega, by go_num, hid (fun j q hj hq => ?_), hid (fun _ => unhid HQ), HB3⟩
              by_cases ej : j = k
              · subst ej; rw [unhid HE] at hq; cases hq; exact unhid HNO
              · exact unhid HX j q (by omega) hq
            case measure => simp [intOf]; omega
          | true =>
            have HYE := hid (show ownerP d.packs path = PackD.name e from owner_at (unhid HX) (unhid HE) (hob.trans hkd))
            clear hc hbl hat htl' hth c1 c2 hob
            go_wp2_with fail
            go_ret
            exact ⟨by rw [unhid E0, unhid HYE]; rfl, unhid HBW3⟩
    · have e : k = d.packs.length := by omega
      subst e
      have E := hid (show rootOwner_0 d path = ⟨#[]⟩ by
        unfold rootOwner_0
        split
        · exact owner_no (unhid HX)
        · rfl)
      go_wp2_with fail
      go_ret
      exact ⟨by rw [unhid E]; rfl, unhid HBW⟩

set_option maxRecDepth 100000 in
set_option maxHeartbeats 4000000 in
theorem implRootOwner_any (d : RootD) (path : ByteArray) (a : Option Addr) (c : Nat) (w : World) (hs : smallPs d.packs) (h : rowAt packC w (.slice a d.packs.length c) d.packs) :
    Calls Tryz.prog 33 #[.agg #[.slice a d.packs.length c], .string path] w fun x w' => x = .returned (.string (rootOwner_0 d path)) ∧ Below w.heap.size w w' := by
  have HBX := hid (World.alloc_heap_new w (.cells #[.slice a d.packs.length c] 51))
  have HB := hid (show ∀ x, Below w.heap.size w (w.alloc x) from fun x => (Below.refl _ w).alloc (Nat.le_refl _) x)
  have HLT := hid (show w.heap.size < (w.alloc (.cells #[.slice a d.packs.length c] 51)).heap.size by simp)
  have K := hid (fun W (hb : Below w.heap.size w W) => implRootOk_any d a c W hs (h.below hb))
  have HS := hid hs
  have hlen := hs.1
  obtain ⟨a', c', hv, -, -, hr⟩ := h
  injection hv with e1 _ e3
  subst e1 e3
  have H := hid hr
  clear hs hr
  go_enter Tryz.func33, Tryz.ntmps33
  go_wp2_with fail
  have hb0 := unhid HB (.cells #[.slice a d.packs.length c] 51)
  generalize w.alloc (.cells #[.slice a d.packs.length c] 51) = W0 at HBX HLT hb0 ⊢
  refine (unhid K W0 hb0).mono ?_
  rintro x w2 ⟨rfl, hb⟩
  have HB0 := hid (hb0.trans (hb.mono hb0.size))
  have hbox := cell_arrS ((hb.block _ (unhid HLT)).trans (unhid HBX)) 0 _ rfl
  clear hb hb0 HB HLT HBX
  cases hq : rootOk_0 d with
  | false =>
    have E := hid (show rootOwner_0 d path = ⟨#[]⟩ by unfold rootOwner_0; rw [hq]; rfl)
    go_wp2_with fail
    go_ret
    exact ⟨by rw [unhid E]; rfl, unhid HB0⟩
  | true =>
    have E0 := hid (show rootOwner_0 d path = ownerP d.packs path by unfold rootOwner_0; rw [hq]; rfl)
    have HF := hid (code_0 (rootOk_yes hq)).1
    clear hq
    go_wp2_with fail
    clear hbox
    go_loopw [15] (fun i wr => ∃ k : Nat, k ≤ d.packs.length ∧ i = .int .i64 (k : Int) ∧ Hid (∀ (j : Nat) q, j < k → d.packs[j]? = some q → ownsB path q = false) ∧ Hid (Below w.heap.size w wr)) (fun i _ => d.packs.length - (intOf i).toNat)
    case atStart => exact ⟨0, Nat.zero_le _, rfl, hid (fun j q hj => absurd hj (Nat.not_lt_zero _)), HB0⟩
    case round =>
      obtain ⟨k, hk, rfl, HX, HB⟩ := hrel
      by_cases hlt : k < d.packs.length
      · obtain ⟨e, he⟩ : ∃ e, d.packs[k]? = some e := ⟨d.packs[k], List.getElem?_eq_getElem hlt⟩
        obtain ⟨b, o, rfl, hbl, hc⟩ := (unhid H).resolve_left (by intro e; rw [e] at hlt; simp at hlt)
        obtain ⟨na, nc, ta, tc, ⟨c0, c1, c2, c3⟩, hat⟩ := pack_cells (unhid HB) hbl hc he
        obtain ⟨hte, htl, -⟩ := tree_in hat
        have hst : smallE (treeOfP e) := ((unhid HS).2 e (List.mem_of_getElem? he)).tree
        have HBR := hid (show ∀ x, Below wr.heap.size wr (wr.alloc x) from fun x => (Below.refl _ wr).alloc (Nat.le_refl _) x)
        have JN := hid (fun W (hb : Below wr.heap.size wr W) => treeGet_any (treeOfP e) ta tc path W hst (hte.below hb))
        rw [htl] at JN
        have HE := hid he
        have HT := hid (pk_tree (form_ok (unhid HF) he))
        clear hc he hbl hat hte htl hst
        go_wp2_with fail
        have hbr := unhid HBR (.cells #[.string (PackD.name e), .string (PackD.version e), .slice na (PackD.needs e).length nc, .slice ta (PackD.tree e).length tc] 34)
        have hbx := World.alloc_heap_new wr (.cells #[.string (PackD.name e), .string (PackD.version e), .slice na (PackD.needs e).length nc, .slice ta (PackD.tree e).length tc] 34)
        have hlx : wr.heap.size < (wr.alloc (.cells #[.string (PackD.name e), .string (PackD.version e), .slice na (PackD.needs e).length nc, .slice ta (PackD.tree e).length tc] 34)).heap.size := by simp
        generalize wr.alloc (.cells #[.string (PackD.name e), .string (PackD.version e), .slice na (PackD.needs e).length nc, .slice ta (PackD.tree e).length tc] 34) = w1 at hbr hbx hlx ⊢
        refine (unhid JN w1 hbr).mono ?_
        rintro x w3 ⟨rfl, hb⟩
        have hbb := hbr.trans (hb.mono hbr.size)
        have HB3 := hid ((unhid HB).trans (hbb.mono (unhid HB).size))
        have BX := hid ((hb.block _ hlx).trans hbx)
        have HLX := hid (Nat.lt_of_lt_of_le hlx hb.size)
        clear hbr hbx hlx hb hbb HBR JN c0 c1 c2 c3
        rw [unhid HT, Bool.true_and]
        cases hth : thereE (treeOfP e) path with
        | false =>
          have HNO := hid (show ownsB path e = false by unfold ownsB; rw [hth]; rfl)
          have hge : gotE (treeOfP e) path = noneE := by unfold gotE; rw [hth, Bool.and_false]; rfl
          rw [hge]
          generalize hov : noneE = old
          obtain ⟨op, ok, om, ot⟩ := old
          unfold Ent.vals
          dsimp only
          have HBA := hid (show ∀ x, Below w.heap.size w (w3.alloc x) from fun x => (unhid HB3).alloc (unhid HB3).size x)
          clear hge hth hov
          go_wp2_with fail
          go_roundw
          case rel =>
            refine ⟨k + 1, by omega, by go_num, hid (fun j q hj hq => ?_), hid (unhid HBA _)⟩
            by_cases ej : j = k
            · subst ej; rw [unhid HE] at hq; cases hq; exact unhid HNO
            · exact unhid HX j q (by omega) hq
          case measure => simp [intOf]; omega
        | true =>
          obtain ⟨old, hold, hop⟩ := there_get hth
          have hfo := entFn_get hold
          have hob : ownsB path e = (old.kind != 1) := by unfold ownsB; rw [hth, hfo]; rfl
          have hge : gotE (treeOfP e) path = old := by unfold gotE; rw [hth, unhid HT, hfo]; rfl
          rw [hge]
          obtain ⟨op, ok, om, ot⟩ := old
          unfold Ent.vals
          dsimp only at hob ⊢
          have HBA := hid (show ∀ x, Below w.heap.size w (w3.alloc x) from fun x => (unhid HB3).alloc (unhid HB3).size x)
          have hbc : (w3.alloc (.cells #[.string op, .int .i64 ok, .int .i64 om, .string ot] 57)).cell? ⟨wr.heap.size, 0, none⟩ = some (.string (PackD.name e)) := by
            have h1 := (((Below.refl _ w3).alloc (Nat.le_refl _) (.cells #[.string op, .int .i64 ok, .int .i64 om, .string ot] 57)).block _ (unhid HLX)).trans (unhid BX)
            exact cell_arrS h1 0 _ rfl
          clear hge hth hfo hold hop
          cases hkd : (ok != 1) with
          | false =>
            have HNO := hid (hob.trans hkd)
            clear hob
            go_wp2_with fail
            go_roundw
            case rel =>
              refine ⟨k + 1, by omega, by go_num, hid (fun j q hj hq => ?_), hid (unhid HBA _)⟩
              by_cases ej : j = k
              · subst ej; rw [unhid HE] at hq; cases hq; exact unhid HNO
              · exact unhid HX j q (by omega) hq
            case measure => simp [intOf]; omega
          | true =>
            have HYE := hid (show ownerP d.packs path = PackD.name e from owner_at (unhid HX) (unhid HE) (hob.trans hkd))
            clear hob
            go_wp2_with fail
            go_ret
            exact ⟨by rw [unhid E0, unhid HYE]; rfl, unhid HBA _⟩
      · have e : k = d.packs.length := by omega
        subst e
        have E := hid (owner_no (unhid HX))
        go_wp2_with fail
        go_ret
        exact ⟨by rw [unhid E0, unhid E]; rfl, unhid HB⟩
end Go.Proofs.YtoihhlkidlapmaaGreat

/- Roots as sets of packs, and their trees as sets of entries. -/
namespace Go.Proofs.YtoihhlkidlapmaaGreat
open Go.RowKit Go.Shelf

/-- Packs by name, each once. -/
def AscP (ps : List packC.D) : Prop := List.Pairwise (α := packC.D) (fun p q => ltS (PackD.name p) (PackD.name q) = true) ps
theorem ascP_iff (ps : List packC.D) : AscP ps ↔ Asc (namesP ps) := by
  unfold AscP
  rw [List.pairwise_iff_getElem]
  constructor
  · intro h i j x y hij hx hy
    obtain ⟨p, hp, rfl⟩ := namesP_some hx
    obtain ⟨q, hq, rfl⟩ := namesP_some hy
    obtain ⟨h1, e1⟩ := List.getElem?_eq_some_iff.1 hp
    obtain ⟨h2, e2⟩ := List.getElem?_eq_some_iff.1 hq
    have := h i j h1 h2 hij
    rwa [e1, e2] at this
  · intro h i j h1 h2 hij
    exact h i j _ _ hij (namesP_get (List.getElem?_eq_getElem h1)) (namesP_get (List.getElem?_eq_getElem h2))
theorem form_iff (ps : List packC.D) : formB ps = true ↔ (∀ p ∈ ps, pkOk p = true) ∧ AscP ps := by
  constructor
  · intro h
    refine ⟨fun p hp => ?_, (ascP_iff ps).2 (form_asc h)⟩
    obtain ⟨i, hi⟩ := List.getElem?_of_mem hp
    exact form_ok h hi
  · rintro ⟨h1, h2⟩
    unfold formB
    rw [List.all_eq_true]
    intro i hi
    rw [List.mem_range] at hi
    have hi' := List.getElem?_eq_getElem hi
    match i with
    | 0 => rw [okAt_0 hi']; exact h1 _ (List.getElem_mem hi)
    | i + 1 =>
      have hq := List.getElem?_eq_getElem (show i < ps.length from Nat.lt_of_succ_lt hi)
      rw [okAt_s hi' hq, h1 _ (List.getElem_mem hi), Bool.true_and]
      exact List.pairwise_iff_getElem.1 h2 i (i + 1) (Nat.lt_of_succ_lt hi) hi (Nat.lt_succ_self i)
/-- Trees that can be one. -/
def Mates (ps : List packC.D) : Prop := List.Pairwise (α := packC.D) (fun p q => Compat (treeOfP p) (treeOfP q)) ps
theorem up_fits {xs ys : List Ent} (hx : Up xs) (hy : Up ys) (h : ∀ x ∈ xs, x ∈ ys) : xs.length ≤ ys.length := by
  classical
  have : xs = ys.filter fun y => decide (y ∈ xs) := up_ext hx (List.Pairwise.filter _ hy) (fun x => by
    rw [List.mem_filter]
    simp only [decide_eq_true_eq]
    exact ⟨fun hm => ⟨h x hm, hm⟩, fun hm => hm.2⟩)
  rw [this]
  exact List.length_filter_le _ _
def Fits (U acc : List Ent) (ps : List packC.D) : Prop := Up U ∧ U.length ≤ 16 ∧ (∀ x ∈ acc, x ∈ U) ∧ ∀ p ∈ ps, ∀ x ∈ treeOfP p, x ∈ U
theorem join_tree {acc T : List Ent} (ha : treeB acc = true) (hT : treeB T = true) (hc : Compat acc T) (hl : (joinTo acc T).length ≤ 16) : treeB (joinTo acc T) = true := by
  obtain ⟨a1, a2, a3, a4⟩ := (tree_iff acc).1 ha
  obtain ⟨t1, t2, t3, t4⟩ := (tree_iff T).1 hT
  have hm := ((join_iff T acc a2 t2 a1 t1).2 hc).1
  have hdir : ∀ q, DirIn acc q ∨ DirIn T q → DirIn (joinTo acc T) q := fun q h => by
    rcases h with (h | ⟨x, hx, h2⟩) | (h | ⟨x, hx, h2⟩)
    · exact .inl h
    · exact .inr ⟨x, (hm x).2 (.inl hx), h2⟩
    · exact .inl h
    · exact .inr ⟨x, (hm x).2 (.inr hx), h2⟩
  refine (tree_iff _).2 ⟨fun x hx => ?_, joinTo_up a2 T, fun x hx => ?_, hl⟩
  · rcases (hm x).1 hx with h | h
    · exact a1 x h
    · exact t1 x h
  · rcases (hm x).1 hx with h | h
    · exact hdir _ (.inl (a3 x h))
    · exact hdir _ (.inr (t3 x h))
theorem joinO_iff : ∀ (ps : List packC.D) (acc : List Ent), treeB acc = true → (∀ p ∈ ps, treeB (treeOfP p) = true) →
    ((∃ t, joinO acc ps = some t) ↔ (∀ p ∈ ps, Compat acc (treeOfP p)) ∧ Mates ps ∧ ∃ U, Fits U acc ps) ∧ (∀ t, joinO acc ps = some t → treeB t = true ∧ ∀ x, x ∈ t ↔ x ∈ acc ∨ ∃ p ∈ ps, x ∈ treeOfP p)
  | [], acc, ha, _ => by
    refine ⟨⟨fun _ => ⟨fun p hp => (by cases hp), List.Pairwise.nil, acc, tree_up ha, tree_16 ha, fun x hx => hx, fun p hp => (by cases hp)⟩, fun _ => ⟨acc, rfl⟩⟩, fun t ht => ?_⟩
    cases ht
    exact ⟨ha, fun x => by simp⟩
  | p :: ps, acc, ha, hps => by
    have hT := hps p (by simp)
    have ua := tree_up ha
    have uT := tree_up hT
    obtain ⟨j1, j2⟩ := join_iff (treeOfP p) acc ua uT (tree_all ha) (tree_all hT)
    have hstep : joinO acc (p :: ps) = if okJ acc (treeOfP p) && treeB (joinTo acc (treeOfP p)) then joinO (joinTo acc (treeOfP p)) ps else none := rfl
    refine ⟨⟨?_, ?_⟩, ?_⟩
    · rintro ⟨t, ht⟩
      rw [hstep] at ht
      split at ht
      case isFalse => cases ht
      case isTrue hc =>
        rw [Bool.and_eq_true] at hc
        have hcp := j1.1 hc.1
        obtain ⟨m1, -⟩ := j2 hcp
        obtain ⟨i1, i2⟩ := joinO_iff ps (joinTo acc (treeOfP p)) hc.2 (fun q hq => hps q (by simp [hq]))
        obtain ⟨c1, c2, U, u1, u2, u3, u4⟩ := i1.1 ⟨t, ht⟩
        refine ⟨fun q hq => ?_, List.pairwise_cons.2 ⟨fun q hq x hx e he hp => c1 q hq x hx e ((m1 e).2 (.inr he)) hp, c2⟩, U, u1, u2, fun x hx => u3 x ((m1 x).2 (.inl hx)), fun q hq x hx => ?_⟩
        · rcases List.mem_cons.1 hq with rfl | hq
          · exact hcp
          · exact fun x hx e he hp => c1 q hq x hx e ((m1 e).2 (.inl he)) hp
        · rcases List.mem_cons.1 hq with rfl | hq
          · exact u3 x ((m1 x).2 (.inr hx))
          · exact u4 q hq x hx
    · rintro ⟨c1, c2, U, u1, u2, u3, u4⟩
      have hcp := c1 p (by simp)
      obtain ⟨m1, -⟩ := j2 hcp
      have hl : (joinTo acc (treeOfP p)).length ≤ 16 := Nat.le_trans (up_fits (joinTo_up ua _) u1 (fun x hx => by
        rcases (m1 x).1 hx with h | h
        · exact u3 x h
        · exact u4 p (by simp) x h)) u2
      have ht := join_tree ha hT hcp hl
      have c2' := List.pairwise_cons.1 c2
      obtain ⟨i1, -⟩ := joinO_iff ps (joinTo acc (treeOfP p)) ht (fun q hq => hps q (by simp [hq]))
      rw [hstep, if_pos (by rw [j1.2 hcp, ht]; rfl)]
      refine i1.2 ⟨fun q hq x hx e he hp => ?_, c2'.2, U, u1, u2, fun x hx => ?_, fun q hq => u4 q (by simp [hq])⟩
      · rcases (m1 e).1 he with h | h
        · exact c1 q (by simp [hq]) x hx e h hp
        · exact c2'.1 q hq x hx e h hp
      · rcases (m1 x).1 hx with h | h
        · exact u3 x h
        · exact u4 p (by simp) x h
    · intro t ht
      rw [hstep] at ht
      split at ht
      case isFalse => cases ht
      case isTrue hc =>
        rw [Bool.and_eq_true] at hc
        obtain ⟨m1, -⟩ := j2 (j1.1 hc.1)
        obtain ⟨-, i2⟩ := joinO_iff ps (joinTo acc (treeOfP p)) hc.2 (fun q hq => hps q (by simp [hq]))
        obtain ⟨k1, k2⟩ := i2 t ht
        refine ⟨k1, fun x => ?_⟩
        rw [k2, m1]
        constructor
        · rintro ((h | h) | ⟨q, hq, h⟩)
          · exact .inl h
          · exact .inr ⟨p, by simp, h⟩
          · exact .inr ⟨q, by simp [hq], h⟩
        · rintro (h | ⟨q, hq, h⟩)
          · exact .inl (.inl h)
          · rcases List.mem_cons.1 hq with rfl | hq
            · exact .inl (.inr h)
            · exact .inr ⟨q, hq, h⟩
theorem joinS_iff {ps : List packC.D} (h : ∀ p ∈ ps, pkOk p = true) : joinS ps = true ↔ Mates ps ∧ ∃ U, Fits U [] ps := by
  obtain ⟨i1, -⟩ := joinO_iff ps [] treeB_nil (fun p hp => pk_tree (h p hp))
  unfold joinS
  rw [Option.isSome_iff_exists, i1]
  exact ⟨fun ⟨_, h2, h3⟩ => ⟨h2, h3⟩, fun ⟨h2, h3⟩ => ⟨fun p _ x _ e he => (by cases he), h2, h3⟩⟩
theorem joinG_mem {ps : List packC.D} (h : ∀ p ∈ ps, pkOk p = true) (hj : joinS ps = true) (x : Ent) : x ∈ joinG ps ↔ ∃ p ∈ ps, x ∈ treeOfP p := by
  obtain ⟨-, i2⟩ := joinO_iff ps [] treeB_nil (fun p hp => pk_tree (h p hp))
  unfold joinS at hj
  obtain ⟨t, ht⟩ := Option.isSome_iff_exists.1 hj
  have : joinG ps = t := by unfold joinG; rw [ht]; rfl
  rw [this, (i2 t ht).2]
  constructor
  · rintro (h | h)
    · cases h
    · exact h
  · exact .inr
/-- What a root that is ok says. -/
theorem code_iff (ps : List packC.D) : rootCode ps = 0 ↔ (∀ p ∈ ps, pkOk p = true) ∧ AscP ps ∧ ps.length ≤ 5 ∧ needsB ps = true ∧ Mates ps ∧ ∃ U, Fits U [] ps := by
  constructor
  · intro h
    obtain ⟨h1, h2, h3, h4⟩ := code_0 h
    obtain ⟨f1, f2⟩ := (form_iff ps).1 h1
    exact ⟨f1, f2, h2, h3, (joinS_iff f1).1 h4⟩
  · rintro ⟨f1, f2, h2, h3, h4⟩
    exact code_fine ((form_iff ps).2 ⟨f1, f2⟩) h2 h3 ((joinS_iff f1).2 h4)
end Go.Proofs.YtoihhlkidlapmaaGreat

/- Two versions are of one order only if they are one text. -/
namespace Go.Proofs.YtoihhlkidlapmaaGreat
open Go.RowKit



end Go.Proofs.YtoihhlkidlapmaaGreat

/- What the laws of roots say, in numbers and rows. -/
namespace Go.Proofs.YtoihhlkidlapmaaGreat
open Go.RowKit Go.Shelf

theorem ok_0 {ps : List packC.D} : rootOk_0 ⟨ps⟩ = true ↔ rootCode ps = 0 := by unfold rootOk_0; rw [beq_iff_eq]
theorem ok_d {d : RootD} (h : rootOk_0 d = true) : rootCode d.packs = 0 := rootOk_yes h
/-- Of which pack a path is. -/
theorem owner_law {d : RootD} {path : ByteArray} (hk : rootOk_0 d = true) :
    (((!(treeB (rootTreeE d) && thereE (rootTreeE d) path)) || (gotE (rootTreeE d) path).kind == 1) = true → rootOwner_0 d path = ⟨#[]⟩) ∧
    (((!(treeB (rootTreeE d) && thereE (rootTreeE d) path)) || (gotE (rootTreeE d) path).kind == 1) = false → rootOwner_0 d path ≠ ⟨#[]⟩ ∧ ∀ q ∈ d.packs, (treeB (treeOfP q) && thereE (treeOfP q) path) = decide (PackD.name q = rootOwner_0 d path)) := by
  have hc := ok_d hk
  obtain ⟨f1, f2, -, -, m, u⟩ := (code_iff d.packs).1 hc
  have hj := (joinS_iff f1).2 ⟨m, u⟩
  have e : rootTreeE d = joinG d.packs := by unfold rootTreeE; rw [if_pos hk]
  have ht : treeB (joinG d.packs) = true := joinG_tree d.packs
  have ut := tree_up ht
  have eo : rootOwner_0 d path = ownerP d.packs path := by unfold rootOwner_0; rw [if_pos hk]
  have hmem := joinG_mem f1 hj
  have hown : ∀ q ∈ d.packs, ownsB path q = true ↔ ∃ x ∈ treeOfP q, x.path = path ∧ x.kind ≠ 1 := fun q hq => by
    have uq := tree_up (pk_tree (f1 q hq))
    unfold ownsB
    rw [Bool.and_eq_true, there_iff uq]
    constructor
    · rintro ⟨⟨x, hx, hp⟩, hb⟩
      subst hp
      rw [(there_mem uq hx).2] at hb
      exact ⟨x, hx, rfl, by simpa using hb⟩
    · rintro ⟨x, hx, rfl, hb⟩
      exact ⟨⟨x, hx, rfl⟩, by rw [(there_mem uq hx).2]; simpa using hb⟩
  rw [e, eo, ht, Bool.true_and]
  constructor
  · intro h
    unfold ownerP
    have : List.find? (α := packC.D) (ownsB path) d.packs = none := by
      rw [List.find?_eq_none]
      intro q hq hb
      obtain ⟨x, hx, hp, hne⟩ := (hown q hq).1 hb
      have hxg := (hmem x).2 ⟨q, hq, hx⟩
      obtain ⟨t1, t2⟩ := there_mem' ht hxg
      rw [hp] at t1 t2
      rw [t1, t2] at h
      simp only [Bool.not_true, Bool.false_or, beq_iff_eq] at h
      exact hne h
    rw [this]
  · intro h
    rw [Bool.or_eq_false_iff] at h
    obtain ⟨h1, h2⟩ := h
    simp only [Bool.not_eq_false'] at h1
    obtain ⟨x, hx, hp⟩ := (there_iff ut path).1 h1
    subst hp
    rw [(there_mem' ht hx).2] at h2
    have hne : x.kind ≠ 1 := by simpa using h2
    obtain ⟨q, hq, hxq⟩ := (hmem x).1 hx
    have honly : ∀ q' ∈ d.packs, ∀ y ∈ treeOfP q', y.path = x.path → q' = q := fun q' hq' y hy hpy => by
      obtain ⟨i, hi⟩ := List.getElem?_of_mem hq
      obtain ⟨j, hj'⟩ := List.getElem?_of_mem hq'
      obtain ⟨il, ie⟩ := List.getElem?_eq_some_iff.1 hi
      obtain ⟨jl, je⟩ := List.getElem?_eq_some_iff.1 hj'
      rcases Nat.lt_trichotomy i j with hlt | heq | hgt
      · have := List.pairwise_iff_getElem.1 m i j il jl hlt
        rw [ie, je] at this
        obtain ⟨a, b⟩ := this y hy x hxq hpy.symm
        exact absurd (by rw [a]; exact b) hne
      · subst heq; rw [hi] at hj'; cases hj'; rfl
      · have := List.pairwise_iff_getElem.1 m j i jl il hgt
        rw [ie, je] at this
        obtain ⟨a, b⟩ := this x hxq y hy hpy
        exact absurd b hne
    have hfind : ∃ q', List.find? (α := packC.D) (ownsB x.path) d.packs = some q' ∧ q' = q := by
      cases hf : List.find? (α := packC.D) (ownsB x.path) d.packs with
      | none =>
        rw [List.find?_eq_none] at hf
        exact absurd ((hown q hq).2 ⟨x, hxq, rfl, hne⟩) (hf q hq)
      | some q' =>
        have hq' := List.mem_of_find?_eq_some hf
        obtain ⟨y, hy, hpy, _⟩ := (hown q' hq').1 (List.find?_some hf)
        exact ⟨q', rfl, honly q' hq' y hy hpy⟩
    obtain ⟨q', hf, hqe⟩ := hfind
    subst hqe
    have ho : ownerP d.packs x.path = PackD.name q' := by unfold ownerP; rw [hf]
    rw [ho]
    refine ⟨?_, fun q2 hq2 => ?_⟩
    · intro he
      have := f1 q' hq
      unfold pkOk at this
      simp only [Bool.and_eq_true] at this
      have hb := this.1.1.1
      rw [he] at hb
      exact absurd hb (by decide)
    · rw [pk_tree (f1 q2 hq2), Bool.true_and, Bool.eq_iff_iff, there_iff (tree_up (pk_tree (f1 q2 hq2))), decide_eq_true_eq]
      constructor
      · rintro ⟨y, hy, hpy⟩
        rw [honly q2 hq2 y hy hpy]
      · intro hn
        obtain ⟨i, hi⟩ := List.getElem?_of_mem hq
        obtain ⟨j, hj'⟩ := List.getElem?_of_mem hq2
        have hij := asc_inj ((ascP_iff _).1 f2) (namesP_get hj') (by rw [hn]; exact namesP_get hi)
        subst hij
        rw [hi] at hj'
        cases hj'
        exact ⟨x, hxq, rfl⟩
end Go.Proofs.YtoihhlkidlapmaaGreat

/- What the laws' draws give: numbers below a bound, texts that are short. -/
namespace Go.Proofs.YtoihhlkidlapmaaGreat
open Go.RowKit

/-- The reader at block b: what it reads of, and where it stands. -/
structure Rd (w : World) (b : Nat) (a : Option Addr) (len cap p : Nat) : Prop where
  c0 : w.cell? ⟨b, 0, none⟩ = some (.slice a len cap)
  c1 : w.cell? ⟨b, 1, none⟩ = some (.int .i64 p)
  f1 : w.frozen? ⟨b, 1, none⟩ = false
  l : len ≤ 2000
  d : len = 0 ∨ ∃ blk off, a = some ⟨blk, off, none⟩ ∧ blk < b ∧ ∀ k, k < len → ∃ c : Nat, c < 256 ∧ w.cell? ⟨blk, off + k, none⟩ = some (.int .u8 c)

theorem wrap_in (x : Int) (h0 : 0 ≤ x) (h : x < 4611686018427387904) : IntKind.i64.wrap x = x := by
  rw [IntKind.wrap_i64]; omega
theorem xor_i64 (a b : Int) (ha0 : 0 ≤ a) (ha : a < 4611686018427387904) (hb0 : 0 ≤ b) (hb : b < 4611686018427387904) : 0 ≤ bits .xor .i64 a b := by
  obtain ⟨x, rfl⟩ := Int.eq_ofNat_of_zero_le ha0
  obtain ⟨y, rfl⟩ := Int.eq_ofNat_of_zero_le hb0
  have hx : x ^^^ y < 2 ^ 62 := Nat.xor_lt_two_pow (by omega) (by omega)
  have h1 : (BitVec.ofInt 64 (x : Int)).toNat = x := by
    rw [BitVec.ofInt_natCast, BitVec.toNat_ofNat]; exact Nat.mod_eq_of_lt (by omega)
  have h2 : (BitVec.ofInt 64 (y : Int)).toNat = y := by
    rw [BitVec.ofInt_natCast, BitVec.toNat_ofNat]; exact Nat.mod_eq_of_lt (by omega)
  show 0 ≤ IntKind.i64.wrap ((BitVec.ofInt 64 (x : Int) ^^^ BitVec.ofInt 64 (y : Int)).toNat : Int)
  rw [BitVec.toNat_xor, h1, h2, wrap_in _ (by omega) (by omega)]
  omega
theorem set1_grown (w : World) (b : Nat) (v : Value) : w.grownBy (w.setCell ⟨b, 1, none⟩ v) (some b) :=
  ⟨rfl, rfl, rfl, by simp, fun k _ hne => Below.heap_setCell w ⟨b, 1, none⟩ v k (fun e => hne (by rw [e]))⟩
theorem Rd.step {w : World} {b : Nat} {a : Option Addr} {len cap p : Nat} (h : Rd w b a len cap p) : Rd (w.setCell ⟨b, 1, none⟩ (.int .i64 ((p : Int) + 1))) b a len cap (p + 1) where
  c0 := by rw [World.cell?_setCell_other (h := by simp)]; exact h.c0
  c1 := by rw [World.cell?_setCell_same' _ _ _ (by rw [h.c1]; rfl)]; simp
  f1 := by rw [World.frozen?_setCell]; exact h.f1
  l := h.l
  d := by
    rcases h.d with h0 | ⟨blk, off, ha, hb, hc⟩
    · exact .inl h0
    · refine .inr ⟨blk, off, ha, hb, fun k hk => ?_⟩
      obtain ⟨c, h1, h2⟩ := hc k hk
      exact ⟨c, h1, (World.cell?_of_block (w := w) (Below.heap_setCell w ⟨b, 1, none⟩ _ blk (by simp; omega))).trans h2⟩
theorem Rd.drewN {w : World} {b : Nat} {a : Option Addr} {len cap p : Nat} (h : Rd w b a len cap p) (m : Nat) : Rd (w.drewN m) b a len cap p := ⟨h.c0, h.c1, h.f1, h.l, h.d⟩
theorem grown_drewN {w w' : World} {r : Option Nat} (h : w.grownBy w' r) (m : Nat) : w.grownBy (w'.drewN m) r := ⟨h.os, h.tape, h.output, h.size, h.block⟩

set_option maxRecDepth 100000 in
set_option maxHeartbeats 1000000 in
theorem pick_any (w : World) (b : Nat) (a : Option Addr) (len cap p : Nat) (h : Rd w b a len cap p) (hp : p ≤ 1048576) (n : Int) (h1 : 1 ≤ n) (h2 : n ≤ 1048576) :
    Calls Tryz.prog 56 #[.pointer (some ⟨b, 0, none⟩), .int .i64 n] w fun e w' => ∃ r : Nat, (r : Int) < n ∧ e = .returned (.int .i64 r) ∧ Rd w' b a len cap (p + 1) ∧ w.grownBy w' (some b) := by
  have hst := hid h.step
  have hgr := hid (set1_grown w b (.int .i64 ((p : Int) + 1)))
  obtain ⟨c0, c1, f1, l, d⟩ := h
  have D := hid d
  clear d
  by_cases hl : len = 0
  · subst hl
    go_enter Tryz.func56, Tryz.ntmps56
    go_wp2
    go_ret
    exact ⟨0, by omega, rfl, unhid hst, unhid hgr⟩
  · have hl0 : ((len : Int) == 0) = false := by rw [beq_eq_false_iff_ne]; omega
    obtain ⟨blk, off, rfl, hb, hc⟩ := (unhid D).resolve_left hl
    by_cases hk : p < len
    · obtain ⟨c, hc1, hc2⟩ := hc p hk
      have Hc := hid hc
      clear hc
      go_enter Tryz.func56, Tryz.ntmps56
      go_wp2
      go_ret
      refine ⟨((c : Int) % n).toNat, ?_, ?_, unhid hst, unhid hgr⟩
      · have := Int.emod_lt_of_pos (c : Int) (show 0 < n by omega); have := Int.emod_nonneg (c : Int) (show n ≠ 0 by omega); omega
      · rw [Int.toNat_of_nonneg (Int.emod_nonneg _ (by omega))]; rfl
    · obtain ⟨q, hq, hql⟩ : ∃ q : Nat, (p : Int).tmod len = q ∧ q < len := ⟨p % len, by rw [Int.tmod_eq_emod_of_nonneg (by omega)]; simp, Nat.mod_lt _ (by omega)⟩
      obtain ⟨q2, hq2, hql2⟩ : ∃ q2 : Nat, ((p : Int) * 7 + 3).tmod len = q2 ∧ q2 < len := ⟨(p * 7 + 3) % len, by rw [Int.tmod_eq_emod_of_nonneg (by omega)]; simp, Nat.mod_lt _ (by omega)⟩
      obtain ⟨d, hd, hdl⟩ : ∃ d : Nat, (p : Int).tdiv len = d ∧ d ≤ p := ⟨p / len, by rw [Int.tdiv_eq_ediv_of_nonneg (by omega)]; simp, Nat.div_le_self _ _⟩
      obtain ⟨x, hx1, hx2⟩ := hc _ hql
      obtain ⟨y, hy1, hy2⟩ := hc _ hql2
      have Hc := hid hc
      clear hc
      have w1 := wrap_in ((p : Int) * 7) (by omega) (by omega)
      have w2 := wrap_in ((p : Int) * 7 + 3) (by omega) (by omega)
      have e1 := wrap_in ((x : Int) * 131) (by omega) (by omega)
      have e2 := wrap_in ((y : Int) * 1117) (by omega) (by omega)
      have e3 := wrap_in ((x : Int) * 131 + (y : Int) * 1117) (by omega) (by omega)
      have e4 := wrap_in ((p : Int) * 29) (by omega) (by omega)
      have e5 := wrap_in ((x : Int) * 131 + (y : Int) * 1117 + (p : Int) * 29) (by omega) (by omega)
      have e6 := wrap_in ((d : Int) * 53) (by omega) (by omega)
      have e7 := wrap_in ((x : Int) * 131 + (y : Int) * 1117 + (p : Int) * 29 + (d : Int) * 53) (by omega) (by omega)
      go_enter Tryz.func56, Tryz.ntmps56
      go_wp2
      refine wp_region_quiet_lit (by kernel_rfl) (by kernel_rfl) ?_
      repeat (quiet_step (fail))
      refine wpQuiet_nil ?_
      intro _ hw'
      obtain ⟨nq, hw''⟩ := hw'
      subst hw''
      go_wp2
      go_ret
      have hx0 := xor_i64 ((x : Int) * 131 + (y : Int) * 1117 + (p : Int) * 29 + (d : Int) * 53) (((x : Int) * 131 + (y : Int) * 1117 + (p : Int) * 29 + (d : Int) * 53) / 64) (by omega) (by omega) (by omega) (by omega)
      generalize hX : bits .xor .i64 ((x : Int) * 131 + (y : Int) * 1117 + (p : Int) * 29 + (d : Int) * 53) (((x : Int) * 131 + (y : Int) * 1117 + (p : Int) * 29 + (d : Int) * 53) / 64) = X at hx0 ⊢
      have t0 : X.tmod n = X % n := Int.tmod_eq_emod_of_nonneg hx0
      have t1 := Int.emod_lt_of_pos X (show 0 < n by omega)
      have t2 := Int.emod_nonneg X (show n ≠ 0 by omega)
      refine ⟨(X % n).toNat, by omega, ?_, (unhid hst).drewN _, grown_drewN (unhid hgr) _⟩
      rw [Int.toNat_of_nonneg t2, ← t0]
      rfl
end Go.Proofs.YtoihhlkidlapmaaGreat

/- What the laws' draws of paths give: texts of at most a hundred bytes. -/
namespace Go.Proofs.YtoihhlkidlapmaaGreat
open Go.RowKit

theorem grown_trans {x y z : World} {b : Nat} (h : x.grownBy y (some b)) (g : y.grownBy z (some b)) : x.grownBy z (some b) :=
  ⟨g.os.trans h.os, g.tape.trans h.tape, g.output.trans h.output, Nat.le_trans h.size g.size, fun k hk hne => (g.block k (Nat.lt_of_lt_of_le hk h.size) hne).trans (h.block k hk hne)⟩
theorem grown_below {x y : World} {b B : Nat} (h : x.grownBy y (some b)) (hB : B ≤ b) (hs : B ≤ x.heap.size) : Below B x y :=
  ⟨h.os, h.tape, h.output, h.size, fun k hk => h.block k (by omega) (fun e => by cases e; omega)⟩
theorem Rd.lt {w : World} {b : Nat} {a : Option Addr} {len cap p : Nat} (h : Rd w b a len cap p) : b < w.heap.size := by
  have h0 := h.c0
  unfold World.cell? at h0
  cases hh : w.heap[b]? with
  | none => simp [hh] at h0
  | some o => exact (Array.getElem?_eq_some_iff.1 hh).1
theorem Rd.of_below {w w' : World} {b : Nat} {a : Option Addr} {len cap p : Nat} (h : Rd w b a len cap p) (hB : Below w.heap.size w w') : Rd w' b a len cap p where
  c0 := (hB.cell (p := ⟨b, 0, none⟩) h.lt).trans h.c0
  c1 := (hB.cell (p := ⟨b, 1, none⟩) h.lt).trans h.c1
  f1 := (hB.frozen (p := ⟨b, 1, none⟩) h.lt).trans h.f1
  l := h.l
  d := by
    rcases h.d with h0 | ⟨blk, off, ha, hb, hc⟩
    · exact .inl h0
    · refine .inr ⟨blk, off, ha, hb, fun k hk => ?_⟩
      obtain ⟨c, h1, h2⟩ := hc k hk
      exact ⟨c, h1, (hB.cell (p := ⟨blk, off + k, none⟩) (by have := h.lt; simp; omega)).trans h2⟩
theorem Rd.alloc {w : World} {b : Nat} {a : Option Addr} {len cap p : Nat} (h : Rd w b a len cap p) (o : Obj) : Rd (w.alloc o) b a len cap p :=
  h.of_below ((Below.refl _ w).alloc (Nat.le_refl _) o)

set_option maxRecDepth 100000 in
set_option maxHeartbeats 1000000 in
theorem of_any (P : ByteArray → Prop) (w : World) (b : Nat) (a : Option Addr) (len cap p : Nat) (h : Rd w b a len cap p) (hp : p ≤ 1048576) (g m c : Nat) (hg : g ≠ b) (h1 : 1 ≤ m) (h2 : m ≤ 1048576)
    (hl : ∀ k, k < m → ∃ x, P x ∧ w.cell? ⟨g, k, none⟩ = some (.string x)) :
    Calls Tryz.prog 57 #[.pointer (some ⟨b, 0, none⟩), .slice (some ⟨g, 0, none⟩) m c] w fun e w' => ∃ x, P x ∧ e = .returned (.string x) ∧ Rd w' b a len cap (p + 1) ∧ w.grownBy w' (some b) := by
  have H := hid h
  have Hl := hid hl
  have hlt : g < w.heap.size := by
    obtain ⟨x, _, hx⟩ := hl 0 (by omega)
    unfold World.cell? at hx
    cases hh : w.heap[g]? with
    | none => simp [hh] at hx
    | some o => exact (Array.getElem?_eq_some_iff.1 hh).1
  clear h hl
  go_enter Tryz.func57, Tryz.ntmps57
  go_wp2_with fail
  refine (pick_any w b a len cap p (unhid H) hp m (by omega) (by omega)).mono ?_
  rintro e w1 ⟨r, hr, rfl, hR, hG⟩
  have hr' : r < m := by omega
  obtain ⟨x, hP, hx⟩ := unhid Hl r hr'
  have hx1 : w1.cell? ⟨g, r, none⟩ = some (.string x) := (World.cell?_of_block (w := w) (hG.block g hlt (fun e => hg (by cases e; rfl)))).trans hx
  have HR := hid hR
  have HG := hid hG
  clear hR hG hx
  go_wp2_with fail
  go_ret
  exact ⟨x, hP, rfl, unhid HR, unhid HG⟩

/-- A text of at most a hundred bytes. -/
def short (x : ByteArray) : Prop := x.size ≤ 100
def shortV : Value → Bool
  | .string x => decide (x.size ≤ 100)
  | _ => false
theorem row_short (w : World) (cs : Array Value) (t : TypeId) (h : cs.toList.all shortV = true) (k : Nat) (hk : k < cs.size) : ∃ x, short x ∧ (w.alloc (.cells cs t)).cell? ⟨w.heap.size, k, none⟩ = some (.string x) := by
  have h1 : (w.alloc (.cells cs t)).cell? ⟨w.heap.size, k, none⟩ = cs[k]? := by
    have := World.alloc_heap_new w (.cells cs t)
    unfold World.cell?
    dsimp only
    rw [this]
    simp
  rw [List.all_eq_true] at h
  have h2 := h cs[k] (by simp)
  rw [h1, Array.getElem?_eq_getElem hk]
  revert h2
  cases cs[k] <;> simp [shortV, short]

set_option maxRecDepth 100000 in
set_option maxHeartbeats 1000000 in
theorem l11Path_any (w : World) (b : Nat) (a : Option Addr) (len cap p : Nat) (h : Rd w b a len cap p) (hp : p ≤ 1048576) :
    Calls Tryz.prog 208 #[.pointer (some ⟨b, 0, none⟩)] w fun e w' => ∃ x, short x ∧ e = .returned (.string x) ∧ Rd w' b a len cap (p + 1) ∧ w.grownBy w' (some b) := by
  have H := hid h
  clear h
  go_enter Tryz.func208, Tryz.ntmps208
  go_wp2_with fail
  have hb := (unhid H).lt
  refine (of_any short _ b a len cap p ?h1 hp w.heap.size 12 12 ?h2 (by omega) (by omega) ?h5).mono ?_
  case h1 => exact (unhid H).alloc _
  case h2 => omega
  case h5 => exact fun k hk => row_short w _ _ (by kernel_rfl) k hk
  rintro e w1 ⟨x, hx, rfl, hR, hG⟩
  have hG' := grown_trans (World.grownBy_alloc w _ (some b)) hG
  have HR := hid hR
  have HG := hid hG'
  clear hR hG hG'
  go_wp2_with fail
  go_ret
  exact ⟨x, hx, rfl, unhid HR, unhid HG⟩

set_option maxRecDepth 100000 in
set_option maxHeartbeats 1000000 in
theorem l11AnyPath_any (w : World) (b : Nat) (a : Option Addr) (len cap p : Nat) (h : Rd w b a len cap p) (hp : p ≤ 1000000) :
    Calls Tryz.prog 136 #[.pointer (some ⟨b, 0, none⟩)] w fun e w' => ∃ x, short x ∧ e = .returned (.string x) ∧ Rd w' b a len cap (p + 1 + 1) ∧ w.grownBy w' (some b) := by
  have H := hid h
  clear h
  go_enter Tryz.func136, Tryz.ntmps136
  go_wp2_with fail
  refine (pick_any w b a len cap p (unhid H) (by omega) 6 (by omega) (by omega)).mono ?_
  rintro e w1 ⟨r, hr, rfl, hR, hG⟩
  have HR := hid hR
  have HG := hid hG
  clear hR hG
  by_cases h0 : r = 0
  · have h0' : ((r : Int) == 0) = true := by simp [h0]
    go_wp2_with fail
    have hb := (unhid HR).lt
    refine (of_any short _ b a len cap (p + 1) ?h1 (by omega) w1.heap.size 12 12 ?h2 (by omega) (by omega) ?h5).mono ?_
    case h1 => exact (unhid HR).alloc _
    case h2 => omega
    case h5 => exact fun k hk => row_short w1 _ _ (by kernel_rfl) k hk
    rintro e w2 ⟨x, hx, rfl, hR, hG⟩
    have hG' := grown_trans (unhid HG) (grown_trans (World.grownBy_alloc w1 _ (some b)) hG)
    have HR2 := hid hR
    have HG2 := hid hG'
    clear hR hG hG'
    go_wp2_with fail
    go_ret
    exact ⟨x, hx, rfl, unhid HR2, unhid HG2⟩
  · have h0' : ((r : Int) == 0) = false := by rw [beq_eq_false_iff_ne]; omega
    go_wp2_with fail
    refine (l11Path_any w1 b a len cap (p + 1) (unhid HR) (by omega)).mono ?_
    rintro e w2 ⟨x, hx, rfl, hR, hG⟩
    have hG' := grown_trans (unhid HG) hG
    have HR2 := hid hR
    have HG2 := hid hG'
    clear hR hG hG'
    go_wp2_with fail
    go_ret
    exact ⟨x, hx, rfl, unhid HR2, unhid HG2⟩

/-- What a law is handed: bytes that can be read below a bound. -/
def Code (w : World) (B : Nat) (a : Option Addr) (len : Nat) : Prop :=
  len = 0 ∨ ∃ blk off, a = some ⟨blk, off, none⟩ ∧ blk < B ∧ ∀ k, k < len → ∃ c : Nat, c < 256 ∧ w.cell? ⟨blk, off + k, none⟩ = some (.int .u8 c)

theorem Code.less {w : World} {B : Nat} {a : Option Addr} {len m : Nat} (h : Code w B a len) (hm : m ≤ len) : Code w B a m := by
  rcases h with h | ⟨blk, off, ha, hb, hc⟩
  · exact .inl (by omega)
  · exact .inr ⟨blk, off, ha, hb, fun k hk => hc k (by omega)⟩
theorem rd_new (w : World) (a : Option Addr) (len cap : Nat) (t : TypeId) (h : Code w w.heap.size a len) (hl : len ≤ 2000) : Rd (w.alloc (.cells #[.slice a len cap, .int .i64 0] t)) w.heap.size a len cap 0 := by
  have hn := World.alloc_heap_new w (.cells #[.slice a len cap, .int .i64 0] t)
  refine ⟨?_, ?_, ?_, hl, ?_⟩
  · unfold World.cell?; dsimp only; rw [hn]; simp
  · unfold World.cell?; dsimp only; rw [hn]; simp
  · unfold World.frozen?; dsimp only; rw [hn]; simp
  · rcases h with h | ⟨blk, off, ha, hb, hc⟩
    · exact .inl h
    · refine .inr ⟨blk, off, ha, hb, fun k hk => ?_⟩
      obtain ⟨c, h1, h2⟩ := hc k hk
      exact ⟨c, h1, (((Below.refl w.heap.size w).alloc (Nat.le_refl _) _).cell (p := ⟨blk, off + k, none⟩) hb).trans h2⟩

set_option maxRecDepth 100000 in
set_option maxHeartbeats 1000000 in
theorem l1Open_any (w : World) (a : Option Addr) (len cap : Nat) (h : Code w w.heap.size a len) (hl : len ≤ 1048576) (hc : len ≤ cap) :
    Calls Tryz.prog 55 #[.slice a len cap] w fun e w' => e = .returned (.pointer (some ⟨w.heap.size, 0, none⟩)) ∧ (∃ l' c', Rd w' w.heap.size a l' c' 0) ∧ Below w.heap.size w w' := by
  have H := hid h
  clear h
  by_cases h2 : (2000 : Int) < len
  · go_enter Tryz.func55, Tryz.ntmps55
    go_wp2
    go_ret
    exact ⟨rfl, ⟨_, _, rd_new w a 2000 cap _ ((unhid H).less (by omega)) (Nat.le_refl _)⟩, (Below.refl _ _).alloc (Nat.le_refl _) _⟩
  · go_enter Tryz.func55, Tryz.ntmps55
    go_wp2
    go_ret
    exact ⟨rfl, ⟨_, _, rd_new w a len cap _ (unhid H) (by omega)⟩, (Below.refl _ _).alloc (Nat.le_refl _) _⟩



end Go.Proofs.YtoihhlkidlapmaaGreat

/- Draws of paths, numbers and texts. A drawn path begins neither with fr nor with ne. -/
namespace Go.Proofs.YtoihhlkidlapmaaGreat
open Go.RowKit

def niceB (l : List UInt8) : Bool := decide (l.length ≤ 100) && (l.take 2 != [102, 114] && l.take 2 != [110, 101])
def nice (x : ByteArray) : Prop := niceB x.data.toList = true
def niceV : Value → Bool
  | .string x => niceB x.data.toList
  | _ => false
theorem nice_short {x : ByteArray} (h : nice x) : x.size ≤ 100 := by
  unfold nice niceB at h
  simp only [Bool.and_eq_true, decide_eq_true_eq] at h
  have := h.1
  simpa using this
theorem row_nice (w : World) (cs : Array Value) (t : TypeId) (h : cs.toList.all niceV = true) (k : Nat) (hk : k < cs.size) : ∃ x, nice x ∧ (w.alloc (.cells cs t)).cell? ⟨w.heap.size, k, none⟩ = some (.string x) := by
  have h1 : (w.alloc (.cells cs t)).cell? ⟨w.heap.size, k, none⟩ = cs[k]? := by
    have := World.alloc_heap_new w (.cells cs t)
    unfold World.cell?
    dsimp only
    rw [this]
    simp
  rw [List.all_eq_true] at h
  have h2 := h cs[k] (by simp)
  rw [h1, Array.getElem?_eq_getElem hk]
  revert h2
  cases cs[k] <;> simp [niceV, nice]

set_option maxRecDepth 100000 in
set_option maxHeartbeats 1000000 in
theorem l11Path_nice (w : World) (b : Nat) (a : Option Addr) (len cap p : Nat) (h : Rd w b a len cap p) (hp : p ≤ 1048576) :
    Calls Tryz.prog 208 #[.pointer (some ⟨b, 0, none⟩)] w fun e w' => ∃ x, nice x ∧ e = .returned (.string x) ∧ Rd w' b a len cap (p + 1) ∧ w.grownBy w' (some b) := by
  have H := hid h
  clear h
  go_enter Tryz.func208, Tryz.ntmps208
  go_wp2_with fail
  have hb := (unhid H).lt
  refine (of_any nice _ b a len cap p ?h1 hp w.heap.size 12 12 ?h2 (by omega) (by omega) ?h5).mono ?_
  case h1 => exact (unhid H).alloc _
  case h2 => omega
  case h5 => exact fun k hk => row_nice w _ _ (by kernel_rfl) k hk
  rintro e w1 ⟨x, hx, rfl, hR, hG⟩
  have hG' := grown_trans (World.grownBy_alloc w _ (some b)) hG
  have HR := hid hR
  have HG := hid hG'
  clear hR hG hG'
  go_wp2_with fail
  go_ret
  exact ⟨x, hx, rfl, unhid HR, unhid HG⟩

set_option maxRecDepth 100000 in
set_option maxHeartbeats 1000000 in
theorem l11AnyPath_nice (w : World) (b : Nat) (a : Option Addr) (len cap p : Nat) (h : Rd w b a len cap p) (hp : p ≤ 1000000) :
    Calls Tryz.prog 136 #[.pointer (some ⟨b, 0, none⟩)] w fun e w' => ∃ x, nice x ∧ e = .returned (.string x) ∧ Rd w' b a len cap (p + 1 + 1) ∧ w.grownBy w' (some b) := by
  have H := hid h
  clear h
  go_enter Tryz.func136, Tryz.ntmps136
  go_wp2_with fail
  refine (pick_any w b a len cap p (unhid H) (by omega) 6 (by omega) (by omega)).mono ?_
  rintro e w1 ⟨r, hr, rfl, hR, hG⟩
  have HR := hid hR
  have HG := hid hG
  clear hR hG
  by_cases h0 : r = 0
  · have h0' : ((r : Int) == 0) = true := by simp [h0]
    go_wp2_with fail
    have hb := (unhid HR).lt
    refine (of_any nice _ b a len cap (p + 1) ?h1 (by omega) w1.heap.size 12 12 ?h2 (by omega) (by omega) ?h5).mono ?_
    case h1 => exact (unhid HR).alloc _
    case h2 => omega
    case h5 => exact fun k hk => row_nice w1 _ _ (by kernel_rfl) k hk
    rintro e w2 ⟨x, hx, rfl, hR, hG⟩
    have hG' := grown_trans (unhid HG) (grown_trans (World.grownBy_alloc w1 _ (some b)) hG)
    have HR2 := hid hR
    have HG2 := hid hG'
    clear hR hG hG'
    go_wp2_with fail
    go_ret
    exact ⟨x, hx, rfl, unhid HR2, unhid HG2⟩
  · have h0' : ((r : Int) == 0) = false := by rw [beq_eq_false_iff_ne]; omega
    go_wp2_with fail
    refine (l11Path_nice w1 b a len cap (p + 1) (unhid HR) (by omega)).mono ?_
    rintro e w2 ⟨x, hx, rfl, hR, hG⟩
    have hG' := grown_trans (unhid HG) hG
    have HR2 := hid hR
    have HG2 := hid hG'
    clear hR hG hG'
    go_wp2_with fail
    go_ret
    exact ⟨x, hx, rfl, unhid HR2, unhid HG2⟩

set_option maxRecDepth 100000 in
set_option maxHeartbeats 1000000 in
theorem one_any (P : Int → Prop) (w : World) (b : Nat) (a : Option Addr) (len cap p : Nat) (h : Rd w b a len cap p) (hp : p ≤ 1048576) (g m c : Nat) (hg : g ≠ b) (h1 : 1 ≤ m) (h2 : m ≤ 1048576)
    (hl : ∀ k, k < m → ∃ x, P x ∧ w.cell? ⟨g, k, none⟩ = some (.int .i64 x)) :
    Calls Tryz.prog 225 #[.pointer (some ⟨b, 0, none⟩), .slice (some ⟨g, 0, none⟩) m c] w fun e w' => ∃ x, P x ∧ e = .returned (.int .i64 x) ∧ Rd w' b a len cap (p + 1) ∧ w.grownBy w' (some b) := by
  have H := hid h
  have Hl := hid hl
  have hlt : g < w.heap.size := by
    obtain ⟨x, _, hx⟩ := hl 0 (by omega)
    unfold World.cell? at hx
    cases hh : w.heap[g]? with
    | none => simp [hh] at hx
    | some o => exact (Array.getElem?_eq_some_iff.1 hh).1
  clear h hl
  go_enter Tryz.func225, Tryz.ntmps225
  go_wp2_with fail
  refine (pick_any w b a len cap p (unhid H) hp m (by omega) (by omega)).mono ?_
  rintro e w1 ⟨r, hr, rfl, hR, hG⟩
  have hr' : r < m := by omega
  obtain ⟨x, hP, hx⟩ := unhid Hl r hr'
  have hx1 : w1.cell? ⟨g, r, none⟩ = some (.int .i64 x) := (World.cell?_of_block (w := w) (hG.block g hlt (fun e => hg (by cases e; rfl)))).trans hx
  have HR := hid hR
  have HG := hid hG
  clear hR hG hx
  go_wp2_with fail
  go_ret
  exact ⟨x, hP, rfl, unhid HR, unhid HG⟩

def intV (P : Int → Bool) : Value → Bool
  | .int .i64 x => P x
  | _ => false
theorem row_int (P : Int → Bool) (w : World) (cs : Array Value) (t : TypeId) (B : Nat) (hB : B = w.heap.size) (h : cs.toList.all (intV P) = true) (k : Nat) (hk : k < cs.size) : ∃ x, P x = true ∧ (w.alloc (.cells cs t)).cell? ⟨B, k, none⟩ = some (.int .i64 x) := by
  subst hB
  have h1 : (w.alloc (.cells cs t)).cell? ⟨w.heap.size, k, none⟩ = cs[k]? := by
    have := World.alloc_heap_new w (.cells cs t)
    unfold World.cell?
    dsimp only
    rw [this]
    simp
  rw [List.all_eq_true] at h
  have h2 := h cs[k] (by simp)
  rw [h1, Array.getElem?_eq_getElem hk]
  revert h2
  unfold intV
  split <;> simp_all

theorem ba_eq {x y : ByteArray} (h : x.data.toList = y.data.toList) : x = y := by
  obtain ⟨⟨l⟩⟩ := x; obtain ⟨⟨m⟩⟩ := y; simp at h; subst h; rfl
/-- A text many times. -/
def rep (s : ByteArray) (n : Nat) : ByteArray := ⟨⟨(List.replicate n s.data.toList).flatten⟩⟩
theorem rep_add (s : ByteArray) (a b : Nat) : rep s a ++ rep s b = rep s (a + b) := by
  apply ba_eq
  rw [ByteArray.data_append, Array.toList_append]
  show (List.replicate a s.data.toList).flatten ++ (List.replicate b s.data.toList).flatten = (List.replicate (a + b) s.data.toList).flatten
  rw [← List.flatten_append, List.replicate_append_replicate]
theorem rep_size (s : ByteArray) (a : Nat) : (rep s a).size = a * s.size := by
  show (List.replicate a s.data.toList).flatten.length = a * s.data.toList.length
  simp
theorem rep_one (s : ByteArray) : rep s 1 = s := by
  apply ba_eq
  show (List.replicate 1 s.data.toList).flatten = s.data.toList
  simp
set_option maxRecDepth 100000 in
set_option maxHeartbeats 1000000 in
theorem many_rep (s : ByteArray) (N : Nat) (hs : s.size ≤ 10) (hN : N ≤ 100) (w : World) : Calls Tryz.prog 163 #[.string s, .int .i64 N] w fun e w' => e = .returned (.string (rep s N)) ∧ w' = w := by
  have R1 := hid (rep_one s)
  have z0 := rep_size s
  have hz : ∀ n, n ≤ 200 → (rep s n).size ≤ 2000 := fun n hn => by rw [rep_size]; exact Nat.le_trans (Nat.mul_le_mul hn hs) (by omega)
  have HZ := hid hz
  clear z0 hz
  go_enter Tryz.func163, Tryz.ntmps163
  go_wp2_with fail
  go_loop [0, 1, 5] (fun t n o => ∃ a b k : Nat, t = .string (rep s b) ∧ n = .int .i64 k ∧ o = .string (rep s a) ∧ a + b * k = N ∧ b ≤ 200 ∧ 1 ≤ b ∧ (0 < k → b ≤ N)) (fun _ n _ => (intOf n).toNat)
  case atStart => exact ⟨0, 1, N, by rw [unhid R1], rfl, rfl, by omega, by omega, by omega, fun h => h⟩
  case round =>
    obtain ⟨a, b, k, rfl, rfl, rfl, hs, hb, hb1, hbk⟩ := hrel
    have hkN : k ≤ N := by have := Nat.le_mul_of_pos_left k (show 0 < b by omega); omega
    have ea := hid (rep_add s a b)
    have eb := hid (rep_add s b b)
    by_cases hk : 0 < k
    · have hbN := hbk hk
      have haN : a ≤ N := by omega
      have za := unhid HZ a (by omega)
      have zb := unhid HZ b (by omega)
      have hk0 : (0 : Int) < k := by omega
      by_cases ho : k % 2 = 1
      · have ho' : ((k : Int) % 2 == 1) = true := by simp; omega
        obtain ⟨q, rfl⟩ : ∃ q, k = 2 * q + 1 := ⟨k / 2, by omega⟩
        have e1 : b * (2 * q + 1) = 2 * (b * q) + b := by rw [Nat.mul_add, Nat.mul_one, ← Nat.mul_assoc, Nat.mul_comm b 2, Nat.mul_assoc]
        have e2 : (b + b) * q = 2 * (b * q) := by rw [← Nat.two_mul, Nat.mul_assoc]
        have hq : 0 < q → b ≤ b * q := fun h => Nat.le_mul_of_pos_right b h
        have E := hid (And.intro e1 (And.intro e2 hq))
        clear e1 e2 hq
        go_wp2_with fail
        go_round
        case rel => obtain ⟨e1, e2, hq⟩ := unhid E; exact ⟨a + b, b + b, q, by rw [unhid eb], by congr 1 <;> omega, by rw [unhid ea], by omega, by omega, by omega, fun h => by have := hq h; omega⟩
        case measure => simp [intOf]; omega
      · have ho' : ((k : Int) % 2 == 1) = false := by simp; omega
        obtain ⟨q, rfl⟩ : ∃ q, k = 2 * q := ⟨k / 2, by omega⟩
        have e1 : b * (2 * q) = 2 * (b * q) := by rw [← Nat.mul_assoc, Nat.mul_comm b 2, Nat.mul_assoc]
        have e2 : (b + b) * q = 2 * (b * q) := by rw [← Nat.two_mul, Nat.mul_assoc]
        have hq : 0 < q → b ≤ b * q := fun h => Nat.le_mul_of_pos_right b h
        have E := hid (And.intro e1 (And.intro e2 hq))
        clear e1 e2 hq
        go_wp2_with fail
        go_round
        case rel => obtain ⟨e1, e2, hq⟩ := unhid E; exact ⟨a, b + b, q, by rw [unhid eb], by congr 1 <;> omega, rfl, by omega, by omega, by omega, fun h => by have := hq h; omega⟩
        case measure => simp [intOf]; omega
    · have hk0 : ¬ (0 : Int) < k := by omega
      have : k = 0 := by omega
      subst this
      have : a = N := by omega
      subst this
      go_wp2_with fail
      go_ret
      exact ⟨rfl, rfl⟩

theorem row_short2 (w : World) (cs : Array Value) (t : TypeId) (B : Nat) (hB : B = w.heap.size) (h : cs.toList.all shortV = true) (k : Nat) (hk : k < cs.size) : ∃ x, short x ∧ (w.alloc (.cells cs t)).cell? ⟨B, k, none⟩ = some (.string x) := by
  subst hB; exact row_short w cs t h k hk
theorem texts_short (y : ByteArray) (hy : y.size ≤ 100) : (#[Value.string ⟨#[]⟩, .string ⟨#[111, 110, 101, 10]⟩, .string ⟨#[111, 110, 101, 10, 116, 119, 111, 10, 116, 104, 114, 101, 101, 10]⟩, .string ⟨#[110, 111, 32, 101, 110, 100]⟩, .string ⟨#[97, 10, 98, 10, 99, 10, 100, 10, 101, 10, 102, 10, 103, 10]⟩, .string y] : Array Value).toList.all shortV = true := by
  have : decide (y.size ≤ 100) = true := decide_eq_true hy
  simp only [List.all_cons, List.all_nil, Bool.and_true, shortV, this]
  decide
set_option maxRecDepth 100000 in
set_option maxHeartbeats 1000000 in
theorem l11Text_any (w : World) (b : Nat) (a : Option Addr) (len cap p : Nat) (h : Rd w b a len cap p) (hp : p ≤ 1048576) :
    Calls Tryz.prog 261 #[.pointer (some ⟨b, 0, none⟩)] w fun e w' => ∃ x, short x ∧ e = .returned (.string x) ∧ Rd w' b a len cap (p + 1) ∧ w.grownBy w' (some b) := by
  have H := hid h
  clear h
  have hz : (rep ⟨#[116]⟩ 80).size ≤ 100 := by rw [rep_size]; decide
  go_enter Tryz.func261, Tryz.ntmps261
  go_wp2_with fail
  refine (many_rep ⟨#[116]⟩ 80 (by decide) (by omega) w).mono ?_
  rintro e w0 ⟨rfl, rfl⟩
  generalize rep ⟨#[116]⟩ 80 = y at hz
  go_wp2_with fail
  have hb := (unhid H).lt
  refine (of_any short _ b a len cap p ?h1 hp w0.heap.size 6 6 ?h2 (by omega) (by omega) ?h5).mono ?_
  case h1 => exact (unhid H).alloc _
  case h2 => omega
  case h5 => exact fun k hk => row_short w0 _ _ (texts_short y hz) k hk
  rintro e w1 ⟨x, hx, rfl, hR, hG⟩
  have hG' := grown_trans (World.grownBy_alloc w0 _ (some b)) hG
  have HR := hid hR
  have HG := hid hG'
  clear hR hG hG'
  go_wp2_with fail
  go_ret
  exact ⟨x, hx, rfl, unhid HR, unhid HG⟩
end Go.Proofs.YtoihhlkidlapmaaGreat

/- What the draw of an entry gives: a path that no law puts anew, a short text. -/
namespace Go.Proofs.YtoihhlkidlapmaaGreat
open Go.RowKit

def niceE (e : Ent) : Prop := nice e.path ∧ short e.text
theorem grown_set' {x y : World} {b : Nat} (h : x.grownBy y (some b)) {p : Addr} (hp : x.heap.size ≤ p.block) (v : Value) : x.grownBy (y.setCell p v) (some b) :=
  ⟨h.os, h.tape, h.output, by simpa using h.size, fun k hk hne => (Below.heap_setCell y p v k (by omega)).trans (h.block k hk hne)⟩
theorem Rd.set' {w : World} {b : Nat} {a : Option Addr} {len cap p : Nat} (h : Rd w b a len cap p) {q : Addr} (hq : b < q.block) (v : Value) : Rd (w.setCell q v) b a len cap p where
  c0 := (World.cell?_of_block (w := w) (Below.heap_setCell w q v b (by omega))).trans h.c0
  c1 := (World.cell?_of_block (w := w) (Below.heap_setCell w q v b (by omega))).trans h.c1
  f1 := (World.frozen?_of_block (w := w) (Below.heap_setCell w q v b (by omega))).trans h.f1
  l := h.l
  d := by
    rcases h.d with h0 | ⟨blk, off, ha, hb, hc⟩
    · exact .inl h0
    · refine .inr ⟨blk, off, ha, hb, fun k hk => ?_⟩
      obtain ⟨c, h1, h2⟩ := hc k hk
      exact ⟨c, h1, (World.cell?_of_block (w := w) (Below.heap_setCell w q v blk (by omega))).trans h2⟩


set_option maxRecDepth 100000 in
set_option maxHeartbeats 4000000 in
theorem l11Entry_any (w : World) (b : Nat) (a : Option Addr) (len cap p : Nat) (h : Rd w b a len cap p) (hp : p ≤ 900000) :
    Calls Tryz.prog 223 #[.pointer (some ⟨b, 0, none⟩)] w fun x w' => ∃ e : Ent, niceE e ∧ x = .returned (.agg e.vals) ∧ (∃ p', p' ≤ p + 4 ∧ Rd w' b a len cap p') ∧ w.grownBy w' (some b) := by
  have H := hid (h.alloc (.cells #[.string ⟨#[]⟩, .int .i64 0, .int .i64 0, .string ⟨#[]⟩] 57))
  have hbl := h.lt
  clear h
  go_enter Tryz.func223, Tryz.ntmps223
  go_wp2_with fail
  refine (l11Path_nice _ b a len cap p (unhid H) (by omega)).mono ?_
  rintro e w1 ⟨x, hx, rfl, hR, hG⟩
  have O0 : OneAt (w.alloc (.cells #[.string ⟨#[]⟩, .int .i64 0, .int .i64 0, .string ⟨#[]⟩] 57)) w.heap.size Ent.none := World.alloc_heap_new _ _
  have O1 := hid (O0.grown hG (by intro e; injection e; omega))
  have G1 := hid (grown_trans (World.grownBy_alloc w _ (some b)) hG)
  have R1 := hid hR
  have hz1 : w.heap.size + 1 ≤ w1.heap.size := by have := hG.size; simpa using this
  clear hR hG O0 H
  go_wp2_with fail
  refine (one_any (fun k => (decide (1 ≤ k) && decide (k ≤ 3)) = true) _ b a len cap (p + 1) ((unhid R1).alloc _) (by omega) w1.heap.size 5 5 (by have := (unhid R1).lt; omega) (by omega) (by omega) ?h5).mono ?_
  case h5 => exact fun k hk => row_int (fun k => decide (1 ≤ k) && decide (k ≤ 3)) _ _ _ _ rfl (by kernel_rfl) k hk
  rintro e w2 ⟨kd, hkd, rfl, hR, hG0⟩
  have hG := grown_trans (World.grownBy_alloc w1 _ (some b)) hG0
  have O2 := hid ((unhid O1).grown hG (by intro e; injection e; omega))
  have G2 := hid (grown_trans (unhid G1) hG)
  have R2 := hid hR
  have hz2 : w.heap.size + 2 ≤ w2.heap.size := by have := hG0.size; simp at this; omega
  clear hR hG hG0 O1 G1 R1
  go_wp2_with fail
  refine (pick_any w2 b a len cap _ (unhid R2) (by omega) 8 (by omega) (by omega)).mono ?_
  rintro e w3 ⟨md, hmd, rfl, hR, hG⟩
  have O3 := hid (((unhid O2).grown hG (by intro e; injection e; omega)).alloc (.cells #[.string x, .int .i64 kd, .int .i64 md, .string ⟨#[]⟩] 57))
  have N3 := hid (show OneAt (w3.alloc (.cells #[.string x, .int .i64 kd, .int .i64 md, .string ⟨#[]⟩] 57)) w3.heap.size ⟨x, kd, md, ⟨#[]⟩⟩ from World.alloc_heap_new _ _)
  have G3 := hid (grown_trans (grown_trans (unhid G2) hG) (World.grownBy_alloc w3 (.cells #[.string x, .int .i64 kd, .int .i64 md, .string ⟨#[]⟩] 57) (some b)))
  have R3 := hid (hR.alloc (.cells #[.string x, .int .i64 kd, .int .i64 md, .string ⟨#[]⟩] 57))
  have hz3 : w.heap.size + 2 ≤ w3.heap.size := Nat.le_trans hz2 hG.size
  have P3 := hid (And.intro ((unhid O2).grown hG (by intro e; injection e; omega)) (And.intro (grown_trans (unhid G2) hG) hR))
  clear hR hG O2 G2 R2
  have hne' : ¬ w3.heap.size = w.heap.size := by omega
  have hne2 : ¬ w.heap.size = w3.heap.size := by omega
  have hk3 : kd = 1 ∨ kd = 2 ∨ kd = 3 := by simp only [Bool.and_eq_true, decide_eq_true_eq] at hkd; omega
  clear hkd
  obtain ⟨⟨d0, d1, d2, d3⟩, g0, g1, g2, g3⟩ := four_cells (unhid N3)
  obtain ⟨⟨c0, c1, c2, c3⟩, f0, f1, f2, f3⟩ := four_cells (unhid O3)
  rcases hk3 with rfl | rfl | rfl
  · go_wp2_with fail
    refine bodyPost_ret (v := .agg #[.string x, .int .i64 1, .int .i64 md, .string ⟨#[]⟩]) (by simp [results, Tryz.results223, go_sem, World.cell?_setCell_same', c0, c1, c2, c3]) rfl ⟨⟨x, 1, md, ⟨#[]⟩⟩, ⟨hx, (by unfold short; decide : short ⟨#[]⟩)⟩, rfl, ⟨_, ?_, (((((unhid R3).set' ?_ _).set' ?_ _).set' ?_ _).set' ?_ _)⟩, grown_set' (grown_set' (grown_set' (grown_set' (unhid G3) ?_ _) ?_ _) ?_ _) ?_ _⟩
    all_goals (try dsimp only); omega
  · go_wp2_with fail
    clear c0 c1 c2 c3 f0 f1 f2 f3 d0 d1 d2 d3 g0 g1 g2 g3
    refine (l11Text_any _ b a len cap _ (unhid R3) (by omega)).mono ?_
    rintro e w4 ⟨y, hy, rfl, hR, hG⟩
    have hz4 := hG.size
    simp only [World.size_alloc] at hz4
    have O4 := hid ((unhid O3).grown hG (by intro e; injection e; omega))
    have N4 := hid ((unhid N3).grown hG (by intro e; injection e; omega))
    have G4 := hid (grown_trans (unhid G3) hG)
    have R4 := hid hR
    clear hR hG O3 N3 G3 R3
    obtain ⟨⟨d0, d1, d2, d3⟩, g0, g1, g2, g3⟩ := four_cells (unhid N4)
    obtain ⟨⟨c0, c1, c2, c3⟩, f0, f1, f2, f3⟩ := four_cells (unhid O4)
    go_wp2_with fail
    refine bodyPost_ret (v := .agg #[.string x, .int .i64 2, .int .i64 md, .string y]) (by simp [results, Tryz.results223, go_sem, World.cell?_setCell_same', c0, c1, c2, c3]) rfl ⟨⟨x, 2, md, y⟩, ⟨hx, hy⟩, rfl, ⟨_, ?_, (((((unhid R4).set' ?_ _).set' ?_ _).set' ?_ _).set' ?_ _).set' ?_ _⟩, grown_set' (grown_set' (grown_set' (grown_set' (grown_set' (unhid G4) ?_ _) ?_ _) ?_ _) ?_ _) ?_ _⟩
    all_goals (try dsimp only); omega
  · go_wp2_with fail
    clear c0 c1 c2 c3 f0 f1 f2 f3 d0 d1 d2 d3 g0 g1 g2 g3
    refine (l11Path_nice _ b a len cap _ ((unhid P3).2.2.alloc _) (by omega)).mono ?_
    rintro e w4 ⟨y, hy, rfl, hR, hG⟩
    have hz4 := hG.size
    simp only [World.size_alloc] at hz4
    have O4 := hid (((unhid P3).1.alloc _).grown hG (by intro e; injection e; omega))
    have N4 := hid ((show OneAt (w3.alloc (.cells #[.string x, .int .i64 3, .int .i64 0, .string ⟨#[]⟩] 57)) w3.heap.size ⟨x, 3, 0, ⟨#[]⟩⟩ from World.alloc_heap_new _ _).grown hG (by intro e; injection e; omega))
    have G4 := hid (grown_trans (grown_trans (unhid P3).2.1 (World.grownBy_alloc w3 _ (some b))) hG)
    have R4 := hid hR
    clear hR hG O3 N3 G3 R3
    obtain ⟨⟨d0, d1, d2, d3⟩, g0, g1, g2, g3⟩ := four_cells (unhid N4)
    obtain ⟨⟨c0, c1, c2, c3⟩, f0, f1, f2, f3⟩ := four_cells (unhid O4)
    go_wp2_with fail
    refine bodyPost_ret (v := .agg #[.string x, .int .i64 3, .int .i64 0, .string y]) (by simp [results, Tryz.results223, go_sem, World.cell?_setCell_same', c0, c1, c2, c3]) rfl ⟨⟨x, 3, 0, y⟩, ⟨hx, nice_short hy⟩, rfl, ⟨_, ?_, (((((unhid R4).set' ?_ _).set' ?_ _).set' ?_ _).set' ?_ _).set' ?_ _⟩, grown_set' (grown_set' (grown_set' (grown_set' (grown_set' (unhid G4) ?_ _) ?_ _) ?_ _) ?_ _) ?_ _⟩
    all_goals (try dsimp only); omega
end Go.Proofs.YtoihhlkidlapmaaGreat

/- What the draw of any entry gives. -/
namespace Go.Proofs.YtoihhlkidlapmaaGreat
open Go.RowKit

theorem odd_short (y : ByteArray) (hy : y.size ≤ 100) : (#[Value.string ⟨#[1]⟩, .string y, .string ⟨#[120]⟩, .string ⟨#[]⟩] : Array Value).toList.all shortV = true := by
  have : decide (y.size ≤ 100) = true := decide_eq_true hy
  simp only [List.all_cons, List.all_nil, Bool.and_true, shortV, this]
  decide

set_option maxRecDepth 100000 in
set_option maxHeartbeats 4000000 in
theorem l11AnyEntry_any (w : World) (b : Nat) (a : Option Addr) (len cap p : Nat) (h : Rd w b a len cap p) (hp : p ≤ 900000) :
    Calls Tryz.prog 162 #[.pointer (some ⟨b, 0, none⟩)] w fun x w' => ∃ e : Ent, niceE e ∧ x = .returned (.agg e.vals) ∧ (∃ p', p' ≤ p + 8 ∧ Rd w' b a len cap p') ∧ w.grownBy w' (some b) := by
  have H := hid (h.alloc (.cells #[.string ⟨#[]⟩, .int .i64 0, .int .i64 0, .string ⟨#[]⟩] 57))
  have hbl := h.lt
  clear h
  go_enter Tryz.func162, Tryz.ntmps162
  go_wp2_with fail
  refine (l11Entry_any _ b a len cap p (unhid H) (by omega)).mono ?_
  rintro e w1 ⟨⟨x, k, m, t⟩, hx, rfl, ⟨p1, hp1, hR⟩, hG⟩
  unfold Ent.vals
  dsimp only
  have hz1 : w.heap.size + 1 ≤ w1.heap.size := by have := hG.size; simpa using this
  have O0 : OneAt (w.alloc (.cells #[.string ⟨#[]⟩, .int .i64 0, .int .i64 0, .string ⟨#[]⟩] 57)) w.heap.size Ent.none := World.alloc_heap_new _ _
  have O1 := hid ((O0.grown hG (by intro e; injection e; omega)).alloc (.cells #[.string x, .int .i64 k, .int .i64 m, .string t] 57))
  have N1 := hid (show OneAt (w1.alloc (.cells #[.string x, .int .i64 k, .int .i64 m, .string t] 57)) w1.heap.size ⟨x, k, m, t⟩ from World.alloc_heap_new _ _)
  have G1 := hid (grown_trans (grown_trans (World.grownBy_alloc w _ (some b)) hG) (World.grownBy_alloc w1 (.cells #[.string x, .int .i64 k, .int .i64 m, .string t] 57) (some b)))
  have R1 := hid (hR.alloc (.cells #[.string x, .int .i64 k, .int .i64 m, .string t] 57))
  clear hR hG O0 H
  have hne' : ¬ w1.heap.size = w.heap.size := by omega
  have hne2 : ¬ w.heap.size = w1.heap.size := by omega
  have hzW : (w1.alloc (.cells #[.string x, .int .i64 k, .int .i64 m, .string t] 57)).heap.size = w1.heap.size + 1 := by simp
  go_wp2_with fail
  generalize w1.alloc (.cells #[.string x, .int .i64 k, .int .i64 m, .string t] 57) = W at *
  refine (pick_any W b a len cap p1 (unhid R1) (by omega) 14 (by omega) (by omega)).mono ?_
  rintro e w2 ⟨r, hr, rfl, hR, hG⟩
  have O2 := hid ((unhid O1).grown hG (by intro e; injection e; omega))
  have N2 := hid ((unhid N1).grown hG (by intro e; injection e; omega))
  have G2 := hid (grown_trans (unhid G1) hG)
  have R2 := hid hR
  have hz2 : w1.heap.size + 1 ≤ w2.heap.size := by have := hG.size; omega
  clear hR hG O1 N1 G1 R1 hzW
  have hr5 : r = 0 ∨ r = 1 ∨ r = 2 ∨ r = 3 ∨ 4 ≤ r := by omega
  rcases hr5 with rfl | rfl | rfl | rfl | hr4
  · go_wp2_with fail
    refine (l11AnyPath_nice _ b a len cap _ (unhid R2) (by omega)).mono ?_
    rintro e w3 ⟨y, hy, rfl, hR, hG0⟩
    have hG : w2.grownBy w3 (some b) := hG0
    clear hG0
    have O3 := hid ((unhid O2).grown hG (by intro e; injection e; omega))
    have N3 := hid ((unhid N2).grown hG (by intro e; injection e; omega))
    have G3 := hid (grown_trans (unhid G2) hG)
    have R3 := hid hR
    have hz3 := hG.size
    clear hR hG O2 N2 G2 R2
    obtain ⟨⟨d0, d1, d2, d3⟩, g0, g1, g2, g3⟩ := four_cells (unhid N3)
    obtain ⟨⟨c0, c1, c2, c3⟩, f0, f1, f2, f3⟩ := four_cells (unhid O3)
    dsimp only at d0 d1 d2 d3
    go_wp2_with fail
    refine bodyPost_ret (v := .agg #[.string y, .int .i64 k, .int .i64 m, .string t]) (by simp [results, Tryz.results162, go_sem, World.cell?_setCell_same', c0, c1, c2, c3]) rfl ⟨⟨y, k, m, t⟩, ⟨hy, hx.2⟩, rfl, ⟨_, ?_, (((((unhid R3).set' ?_ _).set' ?_ _).set' ?_ _).set' ?_ _).set' ?_ _⟩, grown_set' (grown_set' (grown_set' (grown_set' (grown_set' (unhid G3) ?_ _) ?_ _) ?_ _) ?_ _) ?_ _⟩
    all_goals (try dsimp only); omega
  · go_wp2_with fail
    refine (pick_any _ b a len cap _ (unhid R2) (by omega) 5 (by omega) (by omega)).mono ?_
    rintro e w3 ⟨y, hy, rfl, hR, hG0⟩
    have hG : w2.grownBy w3 (some b) := hG0
    clear hG0
    have O3 := hid ((unhid O2).grown hG (by intro e; injection e; omega))
    have N3 := hid ((unhid N2).grown hG (by intro e; injection e; omega))
    have G3 := hid (grown_trans (unhid G2) hG)
    have R3 := hid hR
    have hz3 := hG.size
    clear hR hG O2 N2 G2 R2
    obtain ⟨⟨d0, d1, d2, d3⟩, g0, g1, g2, g3⟩ := four_cells (unhid N3)
    obtain ⟨⟨c0, c1, c2, c3⟩, f0, f1, f2, f3⟩ := four_cells (unhid O3)
    dsimp only at d0 d1 d2 d3
    go_wp2_with fail
    refine bodyPost_ret (v := .agg #[.string x, .int .i64 y, .int .i64 m, .string t]) (by simp [results, Tryz.results162, go_sem, World.cell?_setCell_same', c0, c1, c2, c3]) rfl ⟨⟨x, y, m, t⟩, hx, rfl, ⟨_, ?_, (((((unhid R3).set' ?_ _).set' ?_ _).set' ?_ _).set' ?_ _).set' ?_ _⟩, grown_set' (grown_set' (grown_set' (grown_set' (grown_set' (unhid G3) ?_ _) ?_ _) ?_ _) ?_ _) ?_ _⟩
    all_goals (try dsimp only); omega
  · go_wp2_with fail
    refine (one_any (fun k => (decide (-1 ≤ k) && decide (k ≤ 8)) = true) _ b a len cap _ ((unhid R2).alloc _) (by omega) w2.heap.size 3 3 (by have := (unhid R2).lt; omega) (by omega) (by omega) ?h5).mono ?_
    case h5 => exact fun k hk => row_int (fun k => decide (-1 ≤ k) && decide (k ≤ 8)) _ _ _ _ rfl (by kernel_rfl) k hk
    rintro e w3 ⟨y, hy, rfl, hR, hG0⟩
    have hG : w2.grownBy w3 (some b) := grown_trans (World.grownBy_alloc w2 _ (some b)) hG0
    clear hG0
    have O3 := hid ((unhid O2).grown hG (by intro e; injection e; omega))
    have N3 := hid ((unhid N2).grown hG (by intro e; injection e; omega))
    have G3 := hid (grown_trans (unhid G2) hG)
    have R3 := hid hR
    have hz3 := hG.size
    clear hR hG O2 N2 G2 R2
    obtain ⟨⟨d0, d1, d2, d3⟩, g0, g1, g2, g3⟩ := four_cells (unhid N3)
    obtain ⟨⟨c0, c1, c2, c3⟩, f0, f1, f2, f3⟩ := four_cells (unhid O3)
    dsimp only at d0 d1 d2 d3
    go_wp2_with fail
    refine bodyPost_ret (v := .agg #[.string x, .int .i64 k, .int .i64 y, .string t]) (by simp [results, Tryz.results162, go_sem, World.cell?_setCell_same', c0, c1, c2, c3]) rfl ⟨⟨x, k, y, t⟩, hx, rfl, ⟨_, ?_, (((((unhid R3).set' ?_ _).set' ?_ _).set' ?_ _).set' ?_ _).set' ?_ _⟩, grown_set' (grown_set' (grown_set' (grown_set' (grown_set' (unhid G3) ?_ _) ?_ _) ?_ _) ?_ _) ?_ _⟩
    all_goals (try dsimp only); omega
  · go_wp2_with fail
    have hzz : (rep ⟨#[117]⟩ 81).size ≤ 100 := by rw [rep_size]; decide
    refine (many_rep ⟨#[117]⟩ 81 (by decide) (by omega) w2).mono ?_
    rintro e w2' ⟨rfl, e2⟩
    rw [e2]
    clear e2 w2'
    generalize rep ⟨#[117]⟩ 81 = yy at hzz
    go_wp2_with fail
    refine (of_any short _ b a len cap _ ((unhid R2).alloc _) (by omega) w2.heap.size 4 4 (by have := (unhid R2).lt; omega) (by omega) (by omega) ?h5).mono ?_
    case h5 => exact fun k hk => row_short2 _ _ _ _ rfl (odd_short yy hzz) k hk
    rintro e w3 ⟨y, hy, rfl, hR, hG0⟩
    have hG : w2.grownBy w3 (some b) := grown_trans (World.grownBy_alloc w2 _ (some b)) hG0
    clear hG0
    have O3 := hid ((unhid O2).grown hG (by intro e; injection e; omega))
    have N3 := hid ((unhid N2).grown hG (by intro e; injection e; omega))
    have G3 := hid (grown_trans (unhid G2) hG)
    have R3 := hid hR
    have hz3 := hG.size
    clear hR hG O2 N2 G2 R2
    obtain ⟨⟨d0, d1, d2, d3⟩, g0, g1, g2, g3⟩ := four_cells (unhid N3)
    obtain ⟨⟨c0, c1, c2, c3⟩, f0, f1, f2, f3⟩ := four_cells (unhid O3)
    dsimp only at d0 d1 d2 d3
    go_wp2_with fail
    refine bodyPost_ret (v := .agg #[.string x, .int .i64 k, .int .i64 m, .string y]) (by simp [results, Tryz.results162, go_sem, World.cell?_setCell_same', c0, c1, c2, c3]) rfl ⟨⟨x, k, m, y⟩, ⟨hx.1, hy⟩, rfl, ⟨_, ?_, (((((unhid R3).set' ?_ _).set' ?_ _).set' ?_ _).set' ?_ _).set' ?_ _⟩, grown_set' (grown_set' (grown_set' (grown_set' (grown_set' (unhid G3) ?_ _) ?_ _) ?_ _) ?_ _) ?_ _⟩
    all_goals (try dsimp only); omega
  · have b0 : ((r : Int) == 0) = false := by rw [beq_eq_false_iff_ne]; omega
    have b1 : ((r : Int) == 1) = false := by rw [beq_eq_false_iff_ne]; omega
    have b2 : ((r : Int) == 2) = false := by rw [beq_eq_false_iff_ne]; omega
    have b3 : ((r : Int) == 3) = false := by rw [beq_eq_false_iff_ne]; omega
    obtain ⟨⟨d0, d1, d2, d3⟩, g0, g1, g2, g3⟩ := four_cells (unhid N2)
    obtain ⟨⟨c0, c1, c2, c3⟩, f0, f1, f2, f3⟩ := four_cells (unhid O2)
    dsimp only at d0 d1 d2 d3
    go_wp2_with fail
    refine bodyPost_ret (v := .agg #[.string x, .int .i64 k, .int .i64 m, .string t]) (by simp [results, Tryz.results162, go_sem, World.cell?_setCell_same', c0, c1, c2, c3]) rfl ⟨⟨x, k, m, t⟩, hx, rfl, ⟨_, ?_, ((((unhid R2).set' ?_ _).set' ?_ _).set' ?_ _).set' ?_ _⟩, grown_set' (grown_set' (grown_set' (grown_set' (unhid G2) ?_ _) ?_ _) ?_ _) ?_ _⟩
    all_goals (try dsimp only); omega
end Go.Proofs.YtoihhlkidlapmaaGreat

/- A number in figures, by the model. -/
namespace Go.Proofs.YtoihhlkidlapmaaGreat
open Go.RowKit

/-- The sign of a figure. -/
def fig (n : Nat) : UInt8 := UInt8.ofNat (48 + n)
def decL (n : Nat) : List UInt8 := if n < 10 then [fig n] else decL (n / 10) ++ [fig (n % 10)]
termination_by n
decreasing_by omega
def decA (n : Nat) : ByteArray := ⟨(decL n).toArray⟩
theorem decL_small {n : Nat} (h : n < 10) : decL n = [fig n] := by rw [decL, if_pos h]
theorem decL_more {n : Nat} (h : ¬ n < 10) : decL n = decL (n / 10) ++ [fig (n % 10)] := by rw [decL, if_neg h]
theorem decA_small {n : Nat} (h : n < 10) : decA n = ⟨#[fig n]⟩ := by unfold decA; rw [decL_small h]
theorem decA_more {n : Nat} (h : ¬ n < 10) : decA n = decA (n / 10) ++ ⟨#[fig (n % 10)]⟩ := by
  unfold decA; rw [decL_more h]
  apply ByteArray.ext
  simp [ByteArray.data_append]
theorem decL_len : ∀ (f n : Nat), n < 10 ^ f → (decL n).length ≤ f + 1
  | 0, n, h => by rw [decL_small (by omega)]; simp
  | f + 1, n, h => by
    by_cases hn : n < 10
    · rw [decL_small hn]; simp
    · rw [decL_more hn]
      have := decL_len f (n / 10) (by rw [Nat.pow_succ] at h; omega)
      simp; omega
theorem decA_size {n : Nat} (h : n < 10 ^ 18) : (decA n).size ≤ 19 := by
  have := decL_len 18 n h
  simpa [decA, ByteArray.size] using this

theorem drew_below0 {B : Nat} (w : World) : Below B w w.drew := ⟨rfl, rfl, rfl, Nat.le_refl _, fun _ _ => rfl⟩
theorem conv_byte (W : World) (g n : Nat) (hn : n < 10) (h : W.cell? ⟨g, 0, none⟩ = some (.int .u8 (48 + (n : Int)))) : Sem.run Tryz.prog (convert 22 9 (.slice (some ⟨g, 0, none⟩) 1 1)) W = .ok (.string ⟨#[fig n]⟩) W := by
  refine run_convert_bytes_back (P := Tryz.prog) _ 22 9 5 ⟨g, 0, none⟩ 1 [fig n] (by kernel_rfl) (by kernel_rfl) (by kernel_rfl) (fun j hj => ?_)
  have : j = 0 := by simpa using hj
  subst this
  simp [Addr.add, h, fig, UInt8.toNat_ofNat']
  omega

set_option maxRecDepth 100000 in
set_option maxHeartbeats 2000000 in
theorem l1Dec_any : ∀ (f n : Nat) (w : World), n < 10 ^ f → f ≤ 18 →
    Calls Tryz.prog 224 #[.int .i64 (n : Int)] w fun x w' => x = .returned (.string (decA n)) ∧ Below w.heap.size w w' := by
  intro f
  induction f with
  | zero =>
    intro n w hn _
    have : n = 0 := by omega
    subst this
    have hcv := conv_byte (w.alloc (.cells #[.int .u8 48] 5)) w.heap.size 0 (by omega) (by simp [go_sem])
    have E := hid (decA_small (n := 0) (by omega))
    go_enter Tryz.func224, Tryz.ntmps224
    go_wp2_with fail
    go_ret
    exact ⟨by rw [unhid E]; rfl, (Below.refl _ w).alloc (Nat.le_refl _) _⟩
  | succ f ih =>
    intro n w hn hf
    have hbig : n < 1000000000000000000 := Nat.lt_of_lt_of_le hn (Nat.pow_le_pow_right (by omega) hf)
    by_cases h10 : n < 10
    · have hcv := conv_byte (w.alloc (.cells #[.int .u8 (48 + (n : Int))] 5)) w.heap.size n h10 (by simp [go_sem])
      have E := hid (decA_small h10)
      go_enter Tryz.func224, Tryz.ntmps224
      go_wp2_with fail
      go_ret
      exact ⟨by rw [unhid E]; rfl, (Below.refl _ w).alloc (Nat.le_refl _) _⟩
    · have E := hid (decA_more h10)
      have IH := hid (fun W => ih (n / 10) W (by rw [Nat.pow_succ] at hn; omega) (by omega))
      have hsz : (decA (n / 10)).size ≤ 19 := decA_size (by omega)
      have q1 : ((n : Int) / 10) = ((n / 10 : Nat) : Int) := by omega
      have q2 : ((n : Int) % 10) = ((n % 10 : Nat) : Int) := by omega
      have hd : n % 10 < 10 := by omega
      have hm : n / 10 < 1000000000000000000 := by omega
      generalize decA (n / 10) = y at *
      generalize n / 10 = m at *
      generalize n % 10 = d at *
      clear ih hn
      go_enter Tryz.func224, Tryz.ntmps224
      go_wp2_with fail
      have t1 : ((n : Int)).tmod 10 = (d : Int) := by rw [Int.tmod_eq_emod_of_nonneg (by omega)]; exact q2
      have v1 : IntKind.i64.wrap (m : Int) = (m : Int) := by simp [IntKind.wrap, IntKind.signed, IntKind.bits]; omega
      have v2 : IntKind.i64.wrap (48 + (d : Int)) = 48 + (d : Int) := by simp [IntKind.wrap, IntKind.signed, IntKind.bits]; omega
      have v3 : IntKind.u8.wrap (48 + (d : Int)) = 48 + (d : Int) := by simp [IntKind.wrap, IntKind.signed, IntKind.bits]; omega
      have hsz2 : y.size ≤ 9223372036854775806 := by omega
      have hz1 : (⟨#[fig d]⟩ : ByteArray).size = 1 := rfl
      refine wp_region_held_drew (S := fun w' => Below w.heap.size w w') (by kernel_rfl) (drew_below0 _) (fun hS => ?_)
      refine wpAnyH_take (i := 0) (v := .int .i64 (n : Int)) rfl (by kernel_rfl) (by kernel_rfl) (by kernel_rfl) (fun _ _ _ h => h) (Or.inl ⟨by rfl, fun w hw => by go_simp⟩) hS ?_
      refine wpAnyH_take (i := 1) (v := .int .i64 (m : Int)) rfl (by kernel_rfl) (by kernel_rfl) (by kernel_rfl) (fun _ _ _ h => h) (Or.inl ⟨by rfl, fun w hw => by go_simp⟩) hS ?_
      refine wpAnyH_take (i := 3) (v := .int .i64 (n : Int)) rfl (by kernel_rfl) (by kernel_rfl) (by kernel_rfl) (fun _ _ _ h => h) (Or.inl ⟨by rfl, fun w hw => by go_simp⟩) hS ?_
      refine wpAnyH_take (i := 4) (v := .int .i64 (d : Int)) rfl (by kernel_rfl) (by kernel_rfl) (by kernel_rfl) (fun _ _ _ h => h) (Or.inl ⟨by rfl, fun w hw => by go_simp⟩) hS ?_
      refine wpAnyH_take (i := 5) (v := .int .i64 (48 + (d : Int))) rfl (by kernel_rfl) (by kernel_rfl) (by kernel_rfl) (fun _ _ _ h => h) (Or.inl ⟨by rfl, fun w hw => by go_simp⟩) hS ?_
      refine wpAnyH_take (i := 6) (v := .int .u8 (48 + (d : Int))) rfl (by kernel_rfl) (by kernel_rfl) (by kernel_rfl) (fun _ _ _ h => h) (Or.inl ⟨by rfl, fun w hw => by go_simp⟩) hS ?_
      generalize w.drew = W at hS ⊢
      refine wpAnyH_ready (rs := [2, 7]) (by kernel_rfl) (by simp) ?_
      refine AllReadyH.cons rfl (fun K hK => ?_) (AllReadyH.cons rfl (fun K hK => ?_) AllReadyH.nil)
      · go_simp
        refine (unhid IH W).mono ?_
        rintro x W1 ⟨rfl, hB⟩
        have hS1 := hS.trans (hB.mono hS.size)
        refine hK.out _ _ hS1 (fun _ => ?_)
        clear hK K hS hB
        have hS := hS1
        clear hS1
        refine wpAnyH_ready (rs := [7]) (by kernel_rfl) (by simp) ?_
        refine AllReadyH.cons rfl (fun K hK => ?_) AllReadyH.nil
        go_simp
        have hcell : (W1.alloc (.cells #[.int .u8 (48 + (d : Int))] 5)).cell? ⟨W1.heap.size, 0, none⟩ = some (.int .u8 (48 + (d : Int))) := by simp [go_sem]
        have hg : W1.heap.size < (W1.alloc (.cells #[.int .u8 (48 + (d : Int))] 5)).heap.size := by simp
        have hS1 := hS.alloc hS.size (.cells #[.int .u8 (48 + (d : Int))] 5)
        refine hK.out _ _ hS1 (fun _ => ?_)
        clear hK K hS
        generalize W1.alloc (.cells #[.int .u8 (48 + (d : Int))] 5) = W2 at hS1 hcell hg ⊢
        generalize W1.heap.size = g at hcell hg ⊢
        have hS := hS1
        clear hS1
        refine wpAnyH_ready (rs := [8]) (by kernel_rfl) (by simp) ?_
        refine AllReadyH.cons rfl (fun K hK => ?_) AllReadyH.nil
        have hcv := conv_byte W2 g d hd hcell
        go_simp
        refine hK.out _ _ hS (fun _ => ?_)
        clear hK K hcv
        refine wpAnyH_take (i := 9) (v := .string (y ++ ⟨#[fig d]⟩)) rfl (by kernel_rfl) (by kernel_rfl) (by kernel_rfl) (fun _ _ _ h => h) (Or.inl ⟨by rfl, fun w hw => by go_simp⟩) hS ?_
        refine wpAnyH_take (i := 10) (v := .string (y ++ ⟨#[fig d]⟩)) rfl (by kernel_rfl) (by kernel_rfl) (by kernel_rfl) (fun _ _ _ h => h) (Or.inl ⟨by rfl, fun w hw => by go_simp⟩) hS ?_
        refine wpAnyH_done (by kernel_rfl) ?_ _
        go_wp2_with fail
        go_ret
        exact ⟨by rw [unhid E]; rfl, hS⟩
      · go_simp
        have hcell : (W.alloc (.cells #[.int .u8 (48 + (d : Int))] 5)).cell? ⟨W.heap.size, 0, none⟩ = some (.int .u8 (48 + (d : Int))) := by simp [go_sem]
        have hg : W.heap.size < (W.alloc (.cells #[.int .u8 (48 + (d : Int))] 5)).heap.size := by simp
        have hS1 := hS.alloc hS.size (.cells #[.int .u8 (48 + (d : Int))] 5)
        refine hK.out _ _ hS1 (fun _ => ?_)
        clear hK K hS
        generalize W.alloc (.cells #[.int .u8 (48 + (d : Int))] 5) = W1 at hS1 hcell hg ⊢
        generalize W.heap.size = g at hcell hg ⊢
        have hS := hS1
        clear hS1
        refine wpAnyH_ready (rs := [2, 8]) (by kernel_rfl) (by simp) ?_
        refine AllReadyH.cons rfl (fun K hK => ?_) (AllReadyH.cons rfl (fun K hK => ?_) AllReadyH.nil)
        · go_simp
          refine (unhid IH W1).mono ?_
          rintro x W2 ⟨rfl, hB⟩
          have hS1 := hS.trans (hB.mono hS.size)
          have hcell1 := (hB.cell (p := ⟨g, 0, none⟩) hg).trans hcell
          have hg1 := Nat.lt_of_lt_of_le hg hB.size
          refine hK.out _ _ hS1 (fun _ => ?_)
          clear hK K hS hB
          have hS := hS1
          clear hS1
          clear hcell hg
          have hcell := hcell1
          have hg := hg1
          clear hcell1 hg1
          refine wpAnyH_ready (rs := [8]) (by kernel_rfl) (by simp) ?_
          refine AllReadyH.cons rfl (fun K hK => ?_) AllReadyH.nil
          have hcv := conv_byte W2 g d hd hcell
          go_simp
          refine hK.out _ _ hS (fun _ => ?_)
          clear hK K hcv
          refine wpAnyH_take (i := 9) (v := .string (y ++ ⟨#[fig d]⟩)) rfl (by kernel_rfl) (by kernel_rfl) (by kernel_rfl) (fun _ _ _ h => h) (Or.inl ⟨by rfl, fun w hw => by go_simp⟩) hS ?_
          refine wpAnyH_take (i := 10) (v := .string (y ++ ⟨#[fig d]⟩)) rfl (by kernel_rfl) (by kernel_rfl) (by kernel_rfl) (fun _ _ _ h => h) (Or.inl ⟨by rfl, fun w hw => by go_simp⟩) hS ?_
          refine wpAnyH_done (by kernel_rfl) ?_ _
          go_wp2_with fail
          go_ret
          exact ⟨by rw [unhid E]; rfl, hS⟩
        · have hcv := conv_byte W1 g d hd hcell
          go_simp
          refine hK.out _ _ hS (fun _ => ?_)
          clear hK K hcv
          refine wpAnyH_ready (rs := [2]) (by kernel_rfl) (by simp) ?_
          refine AllReadyH.cons rfl (fun K hK => ?_) AllReadyH.nil
          go_simp
          refine (unhid IH W1).mono ?_
          rintro x W2 ⟨rfl, hB⟩
          have hS1 := hS.trans (hB.mono hS.size)
          refine hK.out _ _ hS1 (fun _ => ?_)
          clear hK K hS hB
          have hS := hS1
          clear hS1
          refine wpAnyH_take (i := 9) (v := .string (y ++ ⟨#[fig d]⟩)) rfl (by kernel_rfl) (by kernel_rfl) (by kernel_rfl) (fun _ _ _ h => h) (Or.inl ⟨by rfl, fun w hw => by go_simp⟩) hS ?_
          refine wpAnyH_take (i := 10) (v := .string (y ++ ⟨#[fig d]⟩)) rfl (by kernel_rfl) (by kernel_rfl) (by kernel_rfl) (fun _ _ _ h => h) (Or.inl ⟨by rfl, fun w hw => by go_simp⟩) hS ?_
          refine wpAnyH_done (by kernel_rfl) ?_ _
          go_wp2_with fail
          go_ret
          exact ⟨by rw [unhid E]; rfl, hS⟩
end Go.Proofs.YtoihhlkidlapmaaGreat
