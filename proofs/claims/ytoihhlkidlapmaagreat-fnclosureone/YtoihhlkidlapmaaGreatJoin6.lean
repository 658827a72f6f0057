/- Texts of this proof, one behind the other; each says at its head what it shows. -/
import Derived.Test.YtoihhlkidlapmaaGreatJoin1
import Derived.Test.YtoihhlkidlapmaaGreatJoin2
import Derived.Test.YtoihhlkidlapmaaGreatJoin5
import Derived.Maps.OwnSet
import Derived.StringKeys
import Derived.Test.YtoihhlkidlapmaaGreatJoin3
import Derived.Test.YtoihhlkidlapmaaGreatJoin4
import Derived.Shelf.Spec.SlicesInsertGrow
/- Packs and what they need, as names; the model of Closure. -/
namespace Go.Proofs.YtoihhlkidlapmaaGreat
open Go.RowKit Go.Shelf

def memB (q : ByteArray) (xs : List ByteArray) : Bool := xs.any fun x => decide (x = q)
theorem memB_iff {q : ByteArray} {xs : List ByteArray} : memB q xs = true ↔ q ∈ xs := by
  unfold memB
  rw [List.any_eq_true]
  constructor
  · rintro ⟨x, hx, e⟩
    rw [decide_eq_true_eq] at e
    exact e ▸ hx
  · exact fun h => ⟨q, h, decide_eq_true rfl⟩
theorem memB_yes {q : ByteArray} {xs : List ByteArray} (h : q ∈ xs) : memB q xs = true := memB_iff.2 h
theorem memB_no {q : ByteArray} {xs : List ByteArray} (h : q ∉ xs) : memB q xs = false := by
  cases e : memB q xs with
  | false => rfl
  | true => exact absurd (memB_iff.1 e) h
theorem nodup_inj {xs : List ByteArray} (h : xs.Nodup) {i j : Nat} {x : ByteArray} (hi : xs[i]? = some x) (hj : xs[j]? = some x) : i = j := by
  rw [List.nodup_iff_pairwise_ne, List.pairwise_iff_getElem] at h
  obtain ⟨hil, ei⟩ := List.getElem?_eq_some_iff.1 hi
  obtain ⟨hjl, ej⟩ := List.getElem?_eq_some_iff.1 hj
  rcases Nat.lt_trichotomy i j with h1 | h1 | h1
  · exact absurd (ei.trans ej.symm) (h i j hil hjl h1)
  · exact h1
  · exact absurd (ej.trans ei.symm) (h j i hjl hil h1)
theorem has_atN {ps : List packC.D} {n : needC.D} {i : Nat} {q : packC.D} (ha : (namesP ps).Nodup) (hq : ps[i]? = some q) (hn : PackD.name q = NeedD.name n) : hasNeed ps n = kindB (NeedD.kind n) (ordI (PackD.version q).data.toList (NeedD.version n).data.toList) := by
  cases hk : kindB (NeedD.kind n) (ordI (PackD.version q).data.toList (NeedD.version n).data.toList) with
  | true =>
    unfold hasNeed
    rw [List.any_eq_true]
    exact ⟨q, List.mem_of_getElem? hq, by unfold fitOne; rw [decide_eq_true hn, hk]; rfl⟩
  | false =>
    unfold hasNeed
    rw [List.any_eq_false]
    intro p hp
    obtain ⟨j, hj⟩ := List.getElem?_of_mem hp
    unfold fitOne
    by_cases hpn : PackD.name p = NeedD.name n
    · have e : i = j := nodup_inj ha (namesP_get hq) (by rw [namesP_get hj, hpn, hn])
      subst e
      rw [hq] at hj
      cases hj
      rw [hk]; simp
    · rw [decide_eq_false hpn]; simp
/-- What a pack needs, by name, and whether it is there as it must be. -/
def asksOf (ps : List packC.D) (p : packC.D) : List (ByteArray × Bool) := (needsOf p).map fun n => (NeedD.name n, hasNeed ps n)
def graphP (ps : List packC.D) (x : ByteArray) : Option (List (ByteArray × Bool)) := (List.find? (α := packC.D) (fun p => decide (PackD.name p = x)) ps).map (asksOf ps)
theorem graph_at {ps : List packC.D} (hn : (namesP ps).Nodup) {k : Nat} {p : packC.D} (hp : ps[k]? = some p) : graphP ps (PackD.name p) = some (asksOf ps p) := by
  unfold graphP
  cases h : List.find? (α := packC.D) (fun q => decide (PackD.name q = PackD.name p)) ps with
  | none =>
    have := List.find?_eq_none.1 h p (List.mem_of_getElem? hp)
    simp at this
  | some q =>
    have h1 := List.find?_some h
    have h2 : PackD.name q = PackD.name p := by simpa using h1
    obtain ⟨j, hj⟩ := List.getElem?_of_mem (List.mem_of_find?_eq_some h)
    have e : j = k := nodup_inj hn (namesP_get hj) (by rw [h2]; exact namesP_get hp)
    subst e
    rw [hp] at hj
    cases hj
    rfl
theorem graph_none {ps : List packC.D} {x : ByteArray} (h : x ∉ namesP ps) : graphP ps x = none := by
  unfold graphP
  rw [List.find?_eq_none.2]
  · rfl
  · intro q hq e
    have e : PackD.name q = x := by simpa using e
    obtain ⟨i, hi⟩ := List.getElem?_of_mem hq
    exact h (by rw [← e]; exact List.mem_of_getElem? (namesP_get hi))
theorem graph_in {ps : List packC.D} {x : ByteArray} (h : graphP ps x ≠ none) : x ∈ namesP ps := by
  by_cases hx : x ∈ namesP ps
  · exact hx
  · exact absurd (graph_none hx) h
theorem good_in {ps : List packC.D} {out : List ByteArray} (h : GoodL (graphP ps) out) : ∀ x ∈ out, x ∈ namesP ps := fun x hx => by
  obtain ⟨ns, h1, _⟩ := good_mem h hx
  exact graph_in (by rw [h1]; simp)
theorem good_len {ps : List packC.D} {out : List ByteArray} (h : GoodL (graphP ps) out) : out.length ≤ ps.length := by
  have := nodup_len out (namesP ps) (good_nodup h) (good_in h)
  rwa [namesP_len] at this

theorem needs_app {α : Type} (f : α → List α → List α × Int) : ∀ (cs bs : List (α × Bool)) (out : List α), needsF f (cs ++ bs) out = if (needsF f cs out).2 = 0 then needsF f bs (needsF f cs out).1 else needsF f cs out
  | [], bs, out => by simp [needsF]
  | n :: cs, bs, out => by
    rw [List.cons_append, needsF, needsF]
    by_cases h1 : n.2 = false
    · rw [if_pos h1, if_pos h1]; simp
    · rw [if_neg h1, if_neg h1]
      by_cases h2 : (f n.1 out).2 = 0
      · rw [if_pos h2, if_pos h2]; exact needs_app f cs bs _
      · rw [if_neg h2, if_neg h2, if_neg h2]
theorem split_at {α : Type} {ns : List α} {m : Nat} {n : α} (h : ns[m]? = some n) : ns = ns.take m ++ n :: ns.drop (m + 1) := by
  obtain ⟨hl, e⟩ := List.getElem?_eq_some_iff.1 h
  rw [← e, ← List.drop_eq_getElem_cons hl, List.take_append_drop]
theorem needs_at {α : Type} {f : α → List α → List α × Int} {ns : List (α × Bool)} {out : List α} {m : Nat} {n : α × Bool} (h : ns[m]? = some n) (h0 : (needsF f (ns.take m) out).2 = 0) :
    (n.2 = false → (needsF f ns out).2 = 3) ∧ (n.2 = true → (f n.1 (needsF f (ns.take m) out).1).2 ≠ 0 → (needsF f ns out).2 = (f n.1 (needsF f (ns.take m) out).1).2) ∧ (n.2 = true → (f n.1 (needsF f (ns.take m) out).1).2 = 0 → needsF f (ns.take (m + 1)) out = f n.1 (needsF f (ns.take m) out).1) := by
  have e := split_at h
  refine ⟨fun h1 => ?_, fun h1 h2 => ?_, fun h1 h2 => ?_⟩
  · rw [e, needs_app, if_pos h0, needsF, if_pos h1]
  · rw [e, needs_app, if_pos h0, needsF, if_neg (by rw [h1]; simp), if_neg h2, ← e]
  · rw [List.take_add_one, h, needs_app, if_pos h0]
    show needsF f [n] _ = _
    rw [needsF, if_neg (by rw [h1]; simp), if_pos h2, needsF]
    rw [← h2]

set_option maxRecDepth 100000 in
set_option maxHeartbeats 4000000 in
theorem l8Has_any (xs : List ByteArray) (V : Value) (q : ByteArray) (w : World) (hs : xs.length ≤ 1048576) (h : rowAt txtC w V xs) :
    Calls Tryz.prog 125 #[V, .string q] w fun x w' => x = .returned (.bool (memB q xs)) ∧ w' = w := by
  obtain ⟨a, cap, rfl, ht, -, -⟩ := rowAt_txts h
  have H := hid ht
  clear h ht
  go_enter Tryz.func125, Tryz.ntmps125
  go_wp2_with fail
  go_loopw [5] (fun i wr => ∃ k : Nat, k ≤ xs.length ∧ i = .int .i64 (k : Int) ∧ Hid (∀ j, j < k → xs[j]? ≠ some q) ∧ wr = w) (fun i _ => xs.length - (intOf i).toNat)
  case atStart => exact ⟨0, Nat.zero_le _, rfl, hid (fun j hj => absurd hj (Nat.not_lt_zero _)), (by first | rfl | trivial)⟩
  case round =>
    obtain ⟨k, hk, rfl, HX, rfl⟩ := hrel
    by_cases hlt : k < xs.length
    · obtain ⟨e, he⟩ : ∃ e, xs[k]? = some e := ⟨xs[k], List.getElem?_eq_getElem hlt⟩
      obtain ⟨b, o, rfl, hbl, hc⟩ := (unhid H).get (by intro e; subst e; simp at hlt)
      have c0 := hc k e he
      have HE := hid he
      have hq := txt_iff e q
      clear hc he hbl
      by_cases hxy : e = q
      · rw [decide_eq_true hxy] at hq
        have HXY := hid hxy
        clear hxy
        go_wp2_with fail
        go_ret
        exact ⟨by rw [memB_yes (by rw [← unhid HXY]; exact List.mem_of_getElem? (unhid HE))]; rfl, rfl⟩
      · rw [decide_eq_false hxy] at hq
        have HXY := hid hxy
        clear hxy
        go_wp2_with fail
        go_roundw
        case rel =>
          refine ⟨k + 1, by omega, by go_num, hid (fun j hj => ?_), (by first | rfl | trivial)⟩
          by_cases ej : j = k
          · subst ej
            rw [unhid HE]
            exact fun e => unhid HXY (Option.some.inj e)
          · exact unhid HX j (by omega)
        case measure => simp [intOf]; omega
    · have e : k = xs.length := by omega
      subst e
      go_wp2_with fail
      go_ret
      refine ⟨?_, rfl⟩
      rw [memB_no (fun hm => by
        obtain ⟨j, hj⟩ := List.getElem?_of_mem hm
        exact unhid HX j (List.getElem?_eq_some_iff.1 hj).1 hj)]
      rfl

def allPk (ps : List packC.D) : Bool := List.all (α := packC.D) ps pkOk
theorem allPk_no {ps : List packC.D} {k : Nat} {p : packC.D} (h : ps[k]? = some p) (hq : pkOk p = false) : allPk ps = false := all_no (p := fun q : packC.D => pkOk q) h hq
def packsCode (ps : List packC.D) : Int := if allPk ps then (if twiceB (namesP ps) then 2 else 0) else 1
set_option maxRecDepth 100000 in
set_option maxHeartbeats 4000000 in
theorem l8Packs_any (ps : List packC.D) (v : Value) (w : World) (hs : smallPs ps) (h : rowAt packC w v ps) :
    Calls Tryz.prog 65 #[v] w fun x w' => x = .returned (.int .i64 (packsCode ps)) ∧ Below w.heap.size w w' := by
  obtain ⟨a, cap, rfl, -, -, h⟩ := h
  have hlen := hs.1
  have HSM := hid hs
  have H := hid h
  clear h hs
  have HO := hid (ownsRow_made0 w)
  have HB := hid (show Below w.heap.size w (w.alloc (.cells #[] 9)) from (Below.refl _ w).alloc (Nat.le_refl _) _)
  go_enter Tryz.func65, Tryz.ntmps65
  go_wp2_with fail
  generalize w.alloc (.cells #[] 9) = wa at HO HB ⊢
  go_loopw [3, 4] (fun s i wr => ∃ (k : Nat) (oa : Option Addr) (oc : Nat), k ≤ ps.length ∧ i = .int .i64 (k : Int) ∧ s = .slice oa k oc ∧ Hid (allPk (ps.take k) = true) ∧ Hid (wr.ownsRow w.heap.size 9 1 (.slice oa k oc) ((namesP ps).take k).length (((namesP ps).take k).map Value.string)) ∧ Hid (Below w.heap.size w wr)) (fun _ i _ => ps.length - (intOf i).toNat)
  case atStart => exact ⟨0, _, _, Nat.zero_le _, rfl, rfl, hid rfl, HO, HB⟩
  case round =>
    clear HO HB
    obtain ⟨k, oa, oc, hk, rfl, rfl, HA, HO, HB⟩ := hrel
    by_cases hlt : k < ps.length
    · obtain ⟨e, he⟩ : ∃ e, ps[k]? = some e := ⟨ps[k], List.getElem?_eq_getElem hlt⟩
      obtain ⟨b, o, rfl, hbl, hc⟩ := (unhid H).resolve_left (by intro e; subst e; simp at hlt)
      obtain ⟨na, nc, ta, tc, ⟨c0, c1, c2, c3⟩, hat⟩ := pack_cells (unhid HB) hbl hc he
      have HAT := hid hat
      have HE := hid he
      have HX := hid (namesP_get he)
      have HC := hid hc
      have HBL := hid hbl
      have SP := hid ((unhid HSM).2 e (List.mem_of_getElem? he))
      clear hc he hbl hat
      go_wp2_with fail
      refine (specPackOk_any e _ wr (unhid SP) (unhid HAT)).mono ?_
      rintro x w2 ⟨rfl, hb⟩
      have HB2 := hid ((unhid HB).trans (hb.mono (unhid HB).size))
      have HO2 := hid (ownsRow_belowS (unhid HO) hb)
      clear hb c0 c1 c2 c3 HB HO HAT
      cases hq : pkOk e with
      | false =>
        have E := hid (show packsCode ps = 1 by unfold packsCode; rw [allPk_no (unhid HE) hq]; rfl)
        go_wp2_with fail
        go_ret
        exact ⟨by rw [unhid E]; rfl, unhid HB2⟩
      | true =>
        have HQ := hid hq
        obtain ⟨na, nc, ta, tc, ⟨c0, c1, c2, c3⟩, -⟩ := pack_cells (unhid HB2) (unhid HBL) (unhid HC) (unhid HE)
        have c0 := fun x => Go.Lib.cell?_alloc_some x c0
        clear hq c1 c2 c3
        have HO3 := hid ((unhid HO2).alloc (.cells #[.string (PackD.name e)] 9))
        have HB3 := hid ((unhid HB2).alloc (unhid HB2).size (.cells #[.string (PackD.name e)] 9))
        have HC3 := hid (cell_newN w2 (.string (PackD.name e)) 9)
        have hlo := hid (show ∀ j, (Value.slice oa k oc).ownBlock = some j → w.heap.size ≤ j from fun j ej => ((unhid HO2).lt j ej).1)
        have HKL := hid (show ((namesP ps).take k).length ≤ 1048576 by rw [List.length_take]; omega)
        have HSZ := hid (unhid HB3).size
        clear HO2 HB2
        obtain ⟨na, nc, ta, tc, ⟨c0, c1, c2, c3⟩, -⟩ := pack_cells (unhid HB3) (unhid HBL) (unhid HC) (unhid HE)
        clear c1 c2 c3
        go_wp2_with (at_builtin; refine wp_name rfl _ _ rfl w.heap.size (.slice oa k oc) ((namesP ps).take k) (PackD.name e) w2.heap.size rfl rfl (unhid HO3) (unhid HC3) (by have := unhid HKL; omega) (unhid HSZ) ?_)
        intro v' w4 hown hg
        have ho3 := ownsRow_take (unhid HX) (W := w4) (N := w.heap.size) (v := v') (by simpa using hown)
        have HB4 := hid (grown_belowN (unhid HB3) hg (unhid hlo))
        obtain ⟨oa2, oc2, hv, -⟩ := ownsRow_txts ho3
        have hk1 : ((namesP ps).take (k + 1)).length = k + 1 := by rw [List.length_take, namesP_len]; omega
        rw [hk1] at hv
        subst hv
        have HO4 := hid ho3
        clear hown hg hlo HC3 HB3 HO3 HSZ HKL ho3 hk1 c0
        go_wp2_with fail
        go_roundw
        case rel => exact ⟨k + 1, oa2, oc2, by omega, by go_num, rfl, hid (all_take_next (p := fun q : packC.D => pkOk q) (unhid HE) (unhid HA) (unhid HQ)), HO4, HB4⟩
        case measure => simp [intOf]; omega
    · have e : k = ps.length := by omega
      subst e
      have hnl : (namesP ps).length = ps.length := namesP_len ps
      have ho := unhid HO
      rw [List.take_of_length_le (by rw [hnl]; exact Nat.le_refl _)] at ho
      obtain ⟨a2, c2, e1, hat, -, -⟩ := ownsRow_txts ho
      rw [hnl] at e1
      injection e1 with e2 _ e3
      subst e2 e3
      have HT := hid (l4Twice_any (namesP ps) oa oc wr (by unfold maxLen; omega) hat)
      rw [hnl] at HT
      have EA := hid (show allPk ps = true by have := unhid HA; rw [List.take_of_length_le (Nat.le_refl _)] at this; exact this)
      clear ho hat hnl HO
      go_wp2_with fail
      refine (unhid HT).mono ?_
      rintro x w3 ⟨rfl, hb⟩
      have HB3 := hid ((unhid HB).trans (hb.mono (unhid HB).size))
      clear hb HT
      cases hq : twiceB (namesP ps) with
      | false =>
        have E := hid (show packsCode ps = 0 by unfold packsCode; rw [unhid EA, hq]; rfl)
        go_wp2_with fail
        go_ret
        exact ⟨by rw [unhid E]; rfl, unhid HB3⟩
      | true =>
        have E := hid (show packsCode ps = 2 by unfold packsCode; rw [unhid EA, hq]; rfl)
        go_wp2_with fail
        go_ret
        exact ⟨by rw [unhid E]; rfl, unhid HB3⟩
end Go.Proofs.YtoihhlkidlapmaaGreat

/- Closure, by the model. -/
namespace Go.Proofs.YtoihhlkidlapmaaGreat
open Go.RowKit Go.Shelf

/-- What a walk down answers. -/
def ClR (N : Nat) (w : World) (r : List ByteArray × Int) (x : Ending) (w' : World) : Prop := ∃ v, x = .returned (.tuple #[v, .int .i64 r.2]) ∧ (r.2 = 0 → w'.ownsRow N 9 1 v r.1.length (r.1.map Value.string)) ∧ Below w.heap.size w w'
theorem clR_mk {N : Nat} {w w' : World} {r : List ByteArray × Int} {v : Value} {c : Int} (hc : r.2 = c) (h : r.2 = 0 → w'.ownsRow N 9 1 v r.1.length (r.1.map Value.string)) (hb : Below w.heap.size w w') : ClR N w r (.returned (.tuple #[v, .int .i64 c])) w' := ⟨v, by rw [hc], h, hb⟩
theorem asks_get {ps : List packC.D} {p : packC.D} {m : Nat} {n : needC.D} (h : (needsOf p)[m]? = some n) : (asksOf ps p)[m]? = some (NeedD.name n, hasNeed ps n) := by
  have e := List.getElem?_map (f := fun n : needC.D => (NeedD.name n, hasNeed ps n)) (l := needsOf p) (i := m)
  rw [h] at e
  exact e
theorem asks_len (ps : List packC.D) (p : packC.D) : (asksOf ps p).length = (PackD.needs p).length := List.length_map _
theorem has_in {ps : List packC.D} {n : needC.D} (h : hasNeed ps n = true) : NeedD.name n ∈ namesP ps := by
  by_cases hx : NeedD.name n ∈ namesP ps
  · exact hx
  · rw [has_none hx] at h; cases h

set_option maxRecDepth 100000 in
set_option maxHeartbeats 16000000 in
theorem l8Close_any (ps : List packC.D) (pa : Option Addr) (pc : Nat) (N : Nat) (hs : smallPs ps) (hn : (namesP ps).Nodup) : ∀ (f : Nat) (x : ByteArray) (ov opv : Value) (out op : List ByteArray) (w : World), ps.length + 1 ≤ f + op.length → op.Nodup → (∀ z ∈ op, z ∈ namesP ps) → GoodL (graphP ps) out → N ≤ w.heap.size → rowAt packC w (.slice pa ps.length pc) ps → w.ownsRow N 9 1 ov out.length (out.map Value.string) → rowAt txtC w opv op →
    Calls Tryz.prog 66 #[.slice pa ps.length pc, .string x, ov, opv] w (ClR N w (clsF (graphP ps) f x out op)) := by
  intro f
  induction f with
  | zero =>
    intro x ov opv out op w hf hnd hop _ _ _ _ _
    have := nodup_len op (namesP ps) hnd hop
    rw [namesP_len] at this
    omega
  | succ f ih =>
    intro x ov opv out op w hf hnd hop hg hN hp ho hq
    have HN0 := hid hN
    clear hN
    have IH := hid ih
    have HF := hid (And.intro hf (And.intro hnd hop))
    have HG := hid hg
    have HP := hid hp
    have HO := hid ho
    have HQ := hid hq
    have HN := hid hn
    have HSM := hid hs
    have hlen := hs.1
    have hol : out.length ≤ 1048576 := Nat.le_trans (good_len hg) hlen
    have hpl : op.length ≤ 1048576 := by have := nodup_len op (namesP ps) hnd hop; rw [namesP_len] at this; omega
    have HOL := hid hol
    have HPL := hid hpl
    have HL8 := hid (l8Pack_any ps _ x w hlen hp)
    clear hf hnd hop hg hp ho hq ih hn hs
    go_enter Tryz.func66, Tryz.ntmps66
    go_wp2_with fail
    refine (unhid HL8).mono ?_
    rintro e w1 ⟨⟨r, rfl, hr⟩, hb⟩
    have HB1 := hid hb
    have HR := hid hr
    clear hb hr HL8
    go_wp2_with fail
    refine (l8Has_any out ov x w1 hol (ownsRow_at (ownsRow_belowS (unhid HO) (unhid HB1)))).mono ?_
    rintro e w2 ⟨rfl, ew⟩
    subst w2
    by_cases hxo : x ∈ out
    · rw [memB_yes hxo]
      have E := hid (show clsF (graphP ps) (f + 1) x out op = (out, 0) from cls_in hxo)
      go_wp2_with fail
      go_ret2
      refine clR_mk (by rw [unhid E]) (fun _ => ?_) (unhid HB1)
      rw [unhid E]
      exact ownsRow_belowS (unhid HO) (unhid HB1)
    · rw [memB_no hxo]
      have HXO := hid hxo
      clear hxo
      rcases unhid HR with ⟨rfl, hno⟩ | ⟨i, rfl, hi⟩
      · have E := hid (show (clsF (graphP ps) (f + 1) x out op).2 = 3 by rw [clsF, if_neg (unhid HXO), graph_none hno])
        clear HR hno
        go_wp2_with fail
        go_ret2
        exact clR_mk (unhid E) (fun h0 => by rw [unhid E] at h0; cases h0) (unhid HB1)
      · obtain ⟨p, hpi, hpn⟩ := namesP_some hi
        subst hpn
        have HI := hid hpi
        have hil : i < ps.length := (List.getElem?_eq_some_iff.1 hpi).1
        have EG := hid (graph_at (unhid HN) hpi)
        clear HR hi hpi
        go_wp2_with fail
        refine (l8Has_any op opv (PackD.name p) w1 hpl ((unhid HQ).below (unhid HB1))).mono ?_
        rintro e w2 ⟨rfl, ew⟩
        subst w2
        by_cases hxp : PackD.name p ∈ op
        · rw [memB_yes hxp]
          have E := hid (show (clsF (graphP ps) (f + 1) (PackD.name p) out op).2 = 4 by rw [clsF, if_neg (unhid HXO), unhid EG]; dsimp only; rw [if_pos hxp])
          clear hxp
          go_wp2_with fail
          go_ret2
          exact clR_mk (unhid E) (fun h0 => by rw [unhid E] at h0; cases h0) (unhid HB1)
        · rw [memB_no hxp]
          have E := hid (cls_new (f := f) (unhid HXO) (unhid EG) hxp)
          have HXP := hid hxp
          have HF2 := hid (show ps.length + 1 ≤ f + (op ++ [PackD.name p]).length ∧ (op ++ [PackD.name p]).Nodup ∧ ∀ z ∈ op ++ [PackD.name p], z ∈ namesP ps from
            ⟨by have := (unhid HF).1; rw [List.length_append, List.length_singleton]; omega, List.nodup_append.2 ⟨(unhid HF).2.1, by simp, fun a ha b hb e => by rw [List.mem_singleton.1 hb] at e; exact hxp (e ▸ ha)⟩, fun z hz => by
              rcases List.mem_append.1 hz with hz | hz
              · exact (unhid HF).2.2 z hz
              · rw [List.mem_singleton.1 hz]; exact List.mem_of_getElem? (namesP_get (unhid HI))⟩)
          clear hxp HF
          -- those that wait, with one more
          have HO1 := hid (ownsRow_made0 w1)
          have hba := hid (show Below w1.heap.size w1 (w1.alloc (.cells #[] 9)) from (Below.refl _ w1).alloc (Nat.le_refl _) _)
          have HBA := hid ((unhid HB1).trans ((unhid hba).mono (unhid HB1).size))
          have HQA := hid ((unhid HQ).below (unhid HBA))
          have hsz := hid (unhid hba).size
          go_wp2_with (at_builtin; refine wp_row rfl _ _ rfl w1.heap.size _ [] op opv rfl rfl (unhid HO1) (unhid HQA) (by have := unhid HPL; rw [List.length_nil]; omega) (unhid hsz) ?_)
          intro v3 w3 hown hgr
          have HB3 := hid (grown_belowN (w := w) (unhid HBA) hgr (fun j ej => Nat.le_trans (unhid HB1).size ((unhid HO1).lt j ej).1))
          have HO3 := hid ((show w3.ownsRow w1.heap.size 9 1 v3 op.length (op.map Value.string) from hown).alloc (.cells #[.string (PackD.name p)] 9))
          have hlo := hid (show ∀ j, v3.ownBlock = some j → w1.heap.size ≤ j from fun j ej => (World.ownsRow.lt (show w3.ownsRow w1.heap.size 9 1 v3 op.length (op.map Value.string) from hown) j ej).1)
          have HC3 := hid (cell_newN w3 (.string (PackD.name p)) 9)
          have HB4 := hid ((unhid HB3).alloc (unhid HB3).size (.cells #[.string (PackD.name p)] 9))
          have HSZ := hid (show w1.heap.size ≤ (w3.alloc (.cells #[.string (PackD.name p)] 9)).heap.size from Nat.le_trans (unhid hsz) (Nat.le_trans hgr.size (by simp)))
          clear hown hgr HO1 hba HQA hsz HBA HB3
          go_wp2_with (at_builtin; refine wp_name rfl _ _ rfl w1.heap.size v3 op (PackD.name p) w3.heap.size rfl rfl (unhid HO3) (unhid HC3) (by have := unhid HPL; omega) (unhid HSZ) ?_)
          intro v5 w5 hown hgr
          have HB5 := hid (grown_belowN (w := w) (unhid HB4) hgr (fun j ej => Nat.le_trans (unhid HB1).size (unhid hlo j ej)))
          have HW5 := hid (ownsRow_at (show w5.ownsRow w1.heap.size 9 1 v5 (op ++ [PackD.name p]).length ((op ++ [PackD.name p]).map Value.string) by simpa using hown))
          clear hown hgr HO3 HC3 HSZ hlo HB4
          go_wp2_with fail
          -- its needs
          go_loopw [2, 12] (fun s j wr => ∃ m : Nat, m ≤ (PackD.needs p).length ∧ j = .int .i64 (m : Int) ∧ Hid ((needsF (fun y o => clsF (graphP ps) f y o (op ++ [PackD.name p])) ((asksOf ps p).take m) out).2 = 0) ∧ Hid (wr.ownsRow N 9 1 s (needsF (fun y o => clsF (graphP ps) f y o (op ++ [PackD.name p])) ((asksOf ps p).take m) out).1.length ((needsF (fun y o => clsF (graphP ps) f y o (op ++ [PackD.name p])) ((asksOf ps p).take m) out).1.map Value.string)) ∧ Hid (Below w5.heap.size w5 wr)) (fun _ j _ => (PackD.needs p).length - (intOf j).toNat)
          case atStart => exact ⟨0, Nat.zero_le _, rfl, hid rfl, hid (ownsRow_belowS (unhid HO) (unhid HB5)), hid (Below.refl _ _)⟩
          case round =>
            obtain ⟨m, hm, rfl, H0, HS, HBr⟩ := hrel
            have HB := hid ((unhid HB5).trans ((unhid HBr).mono (unhid HB5).size))
            obtain ⟨pa', pc', epv, -, -, hrow⟩ := unhid HP
            injection epv with ea _ ec
            subst ea ec
            obtain ⟨b, o, rfl, hbl, hc⟩ := hrow.resolve_left (by intro e; rw [e] at hil; simp at hil)
            obtain ⟨na, nc, ta, tc, ⟨c0, c1, c2, c3⟩, hat⟩ := pack_cells (unhid HB) hbl hc (unhid HI)
            have HC := hid hc
            have HBL := hid hbl
            have SP := hid ((unhid HSM).2 p (List.mem_of_getElem? (unhid HI)))
            have hnl : (PackD.needs p).length ≤ 1048576 := (unhid SP).needs.1
            clear c0 c1 c3 hc hbl hrow
            by_cases hlt2 : m < (PackD.needs p).length
            · obtain ⟨n, hnn⟩ : ∃ n, (needsOf p)[m]? = some n := ⟨(needsOf p)[m]'hlt2, List.getElem?_eq_getElem hlt2⟩
              obtain ⟨b2, o2, rfl, hbl2, n0, n1, n2⟩ := need_in hat hnn
              have HNA := hid (needs_at (asks_get (ps := ps) hnn) (unhid H0))
              have SN := hid ((unhid SP).needs.2 n (List.mem_of_getElem? hnn))
              have HB0 := hid (show ∀ x, Below w5.heap.size w5 (wr.alloc x) from fun x => (unhid HBr).alloc (unhid HBr).size x)
              clear hnn hat hbl2
              go_wp2_with fail
              have hbox := World.alloc_heap_new wr (.cells #[.string (NeedD.name n), .int .i64 (NeedD.kind n), .string (NeedD.version n)] 36)
              have hB0 := unhid HB0 (.cells #[.string (NeedD.name n), .int .i64 (NeedD.kind n), .string (NeedD.version n)] 36)
              have hB1 : Below wr.heap.size wr (wr.alloc (.cells #[.string (NeedD.name n), .int .i64 (NeedD.kind n), .string (NeedD.version n)] 36)) := (Below.refl _ wr).alloc (Nat.le_refl _) _
              have hlw : wr.heap.size < (wr.alloc (.cells #[.string (NeedD.name n), .int .i64 (NeedD.kind n), .string (NeedD.version n)] 36)).heap.size := by simp
              generalize wr.alloc (.cells #[.string (NeedD.name n), .int .i64 (NeedD.kind n), .string (NeedD.version n)] 36) = W0 at hbox hB1 hB0 hlw ⊢
              have BX := hid hbox
              have HBr2 := hid hB0
              have HB2 := hid ((unhid HB5).trans ((unhid HBr2).mono (unhid HB5).size))
              have HS2 := hid (ownsRow_belowS (unhid HS) hB1)
              have HLW := hid hlw
              clear hbox hB0 hB1 hlw HB0 c2 n0 n1 n2 HBr HB HS
              refine (l8Pack_any ps _ (NeedD.name n) W0 hlen ((unhid HP).below (unhid HB2))).mono ?_
              rintro x W1 ⟨⟨r, rfl, hr⟩, hb⟩
              have HBr3 := hid ((unhid HBr2).trans (hb.mono (unhid HBr2).size))
              have HB3 := hid ((unhid HB2).trans (hb.mono (unhid HB2).size))
              have HS3 := hid (ownsRow_belowS (unhid HS2) hb)
              have BX1 := hid ((hb.block _ (unhid HLW)).trans (unhid BX))
              have HLW1 := hid (Nat.lt_of_lt_of_le (unhid HLW) hb.size)
              clear hb BX HLW HB2 HBr2 HS2
              have g0 : ∀ x : CW (fun w' => Below W1.heap.size W1 w'), x.w.cell? ⟨wr.heap.size, 0, none⟩ = some (.string (NeedD.name n)) := fun x => cell_arrS ((x.h.block _ (unhid HLW1)).trans (unhid BX1)) 0 _ rfl
              have g1 : ∀ x : CW (fun w' => Below W1.heap.size W1 w'), x.w.cell? ⟨wr.heap.size, 1, none⟩ = some (.int .i64 (NeedD.kind n)) := fun x => cell_arrS ((x.h.block _ (unhid HLW1)).trans (unhid BX1)) 1 _ rfl
              have g2 : ∀ x : CW (fun w' => Below W1.heap.size W1 w'), x.w.cell? ⟨wr.heap.size, 2, none⟩ = some (.string (NeedD.version n)) := fun x => cell_arrS ((x.h.block _ (unhid HLW1)).trans (unhid BX1)) 2 _ rfl
              have hba : ∀ {q : Prop}, (CW (fun w' => Below W1.heap.size W1 w') → q) ↔ q := CW.all (Below.refl _ W1)
              rcases hr with ⟨rfl, hno⟩ | ⟨i2, rfl, hi⟩
              · have EH := hid (has_none hno)
                clear hno
                go_wp2_with fail
                refine held_begin (fun w' => Below W1.heap.size W1 w') (by kernel_rfl) (drew_belowS _) ?_
                refine held_here [true, true, true, true, true, true, true, true, true, true, true] (by kernel_rfl) (by kernel_rfl) (fun _ _ _ _ _ h => h) (drew_belowS _) ?_
                dsimp only [pick]
                repeat (go_big_quiet_step (fail))
                refine wpQuiet_nil ?_
                have hD := drew_belowS (B := W1.heap.size) W1
                generalize W1.drew = W2 at hD ⊢
                clear g0 g1 g2
                refine held_skip 11 73 (by kernel_rfl) (by kernel_rfl) rfl rfl rfl hD ?_
                simp only [Act.put, List.setIfInBounds_toArray, List.set_cons_zero, List.set_cons_succ]
                refine held_here [false, false, false, false, false, false, false, false, false, false, false, false, true, true] (by kernel_rfl) (by kernel_rfl) (fun _ _ _ _ _ h => h) hD ?_
                dsimp only [pick]
                repeat (go_big_quiet_step (fail))
                refine wpQuiet_nil ?_
                refine held_done (by kernel_rfl) ?_
                have HB4 := hid ((unhid HB3).trans (hD.mono (unhid HB3).size))
                have E3 := hid ((unhid HNA).1 (unhid EH))
                clear hba hD
                go_wp2_with fail
                go_ret2
                have e2 : (clsF (graphP ps) (f + 1) (PackD.name p) out op).2 = 3 := by rw [unhid E, if_neg (by rw [unhid E3]; decide)]; exact unhid E3
                exact clR_mk e2 (fun h0 => by rw [e2] at h0; cases h0) (unhid HB4)
              · obtain ⟨q, hq, hqn⟩ := namesP_some hi
                have hi2l : i2 < ps.length := (List.getElem?_eq_some_iff.1 hq).1
                have hi0 : decide ((i2 : Int) < 0) = false := decide_eq_false (by omega)
                have EH := hid (has_atN (unhid HN) hq hqn)
                have SQ := hid ((unhid HSM).2 q (List.mem_of_getElem? hq))
                obtain ⟨-, -, -, -, ⟨-, d1, -, -⟩, -⟩ := pack_cells (unhid HB3) (unhid HBL) (unhid HC) hq
                have hbw : b < W1.heap.size := Nat.lt_of_lt_of_le (unhid HBL) (unhid HB3).size
                have g3 : ∀ x : CW (fun w' => Below W1.heap.size W1 w'), x.w.cell? ⟨b, o + i2 * 4 + 1, none⟩ = some (.string (PackD.version q)) := fun x => (x.h.cell (p := ⟨b, o + i2 * 4 + 1, none⟩) hbw).trans d1
                clear hi hq hqn d1
                go_wp2_with fail
                refine held_begin (fun w' => Below W1.heap.size W1 w') (by kernel_rfl) (drew_belowS _) ?_
                refine held_here [true, true, true, true, true, true, true, true, true, true, true] (by kernel_rfl) (by kernel_rfl) (fun _ _ _ _ _ h => h) (drew_belowS _) ?_
                dsimp only [pick]
                repeat (go_big_quiet_step (fail))
                refine wpQuiet_nil ?_
                have hD := drew_belowS (B := W1.heap.size) W1
                generalize W1.drew = W2 at hD ⊢
                clear g0 g1 g2 g3
                refine held_call 11 126 73 (enters_of Tryz.func126 (by kernel_rfl) rfl) #[.agg #[.string (NeedD.name n), .int .i64 (NeedD.kind n), .string (NeedD.version n)], .string (NeedD.name n), .string (PackD.version q)] (by kernel_rfl) (by kernel_rfl) rfl rfl rfl rfl rfl ?_
                refine (l3Fits_any (NeedD.name n) (NeedD.version n) (NeedD.name n) (PackD.version q) (NeedD.kind n) (unhid SN).2 (unhid SQ).version W2).mono ?_
                rintro x W3 ⟨rfl, hb⟩
                have hD2 := hD.trans (hb.mono hD.size)
                have HB4 := hid ((unhid HB3).trans (hD2.mono (unhid HB3).size))
                have HBr4 := hid ((unhid HBr3).trans (hD2.mono (unhid HBr3).size))
                have HS4 := hid (ownsRow_belowS (unhid HS3) hD2)
                have BX4 := hid ((hD2.block _ (unhid HLW1)).trans (unhid BX1))
                refine ⟨_, rfl, hD2, ?_⟩
                simp only [Act.put, List.setIfInBounds_toArray, List.set_cons_zero, List.set_cons_succ]
                clear hb
                rw [show ((NeedD.name n).data.toList == (NeedD.name n).data.toList) = true by simp, Bool.true_and, ← unhid EH]
                cases hh : hasNeed ps n with
                | false =>
                  have E3 := hid ((unhid HNA).1 hh)
                  refine held_here [false, false, false, false, false, false, false, false, false, false, false, false, true, true] (by kernel_rfl) (by kernel_rfl) (fun _ _ _ _ _ h => h) hD2 ?_
                  dsimp only [pick]
                  repeat (go_big_quiet_step (fail))
                  refine wpQuiet_nil ?_
                  refine held_done (by kernel_rfl) ?_
                  clear hba hD hD2
                  go_wp2_with fail
                  go_ret2
                  have e2 : (clsF (graphP ps) (f + 1) (PackD.name p) out op).2 = 3 := by rw [unhid E, if_neg (by rw [unhid E3]; decide)]; exact unhid E3
                  exact clR_mk e2 (fun h0 => by rw [e2] at h0; cases h0) (unhid HB4)
                | true =>
                  have HH := hid hh
                  clear hh
                  refine held_here [false, false, false, false, false, false, false, false, false, false, false, false, true, true] (by kernel_rfl) (by kernel_rfl) (fun _ _ _ _ _ h => h) hD2 ?_
                  dsimp only [pick]
                  repeat (go_big_quiet_step (fail))
                  refine wpQuiet_nil ?_
                  refine held_done (by kernel_rfl) ?_
                  clear hba hD hD2
                  have GG := hid (needs_ok (fun y o => cls_ok (graphP ps) f y o (op ++ [PackD.name p])) _ out (unhid H0) (unhid HG)).1
                  have cc := cell_arrS (unhid BX4) 0 _ rfl
                  go_wp2_with fail
                  refine (unhid IH (NeedD.name n) _ v5 _ (op ++ [PackD.name p]) W3 (unhid HF2).1 (unhid HF2).2.1 (unhid HF2).2.2 (unhid GG) (Nat.le_trans (unhid HN0) (unhid HB4).size) ((unhid HP).below (unhid HB4)) (unhid HS4) ((unhid HW5).below (unhid HBr4))).mono ?_
                  rintro e W5 ⟨vv, rfl, hrv, hb⟩
                  have HB5b := hid ((unhid HB4).trans (hb.mono (unhid HB4).size))
                  have HBr5 := hid ((unhid HBr4).trans (hb.mono (unhid HBr4).size))
                  have HRV := hid hrv
                  clear hb hrv cc
                  by_cases hz : (clsF (graphP ps) f (NeedD.name n) (needsF (fun y o => clsF (graphP ps) f y o (op ++ [PackD.name p])) ((asksOf ps p).take m) out).1 (op ++ [PackD.name p])).2 = 0
                  · have EN := hid ((unhid HNA).2.2 (unhid HH) hz)
                    have RV := hid (unhid HRV hz)
                    rw [hz]
                    have HZ := hid hz
                    clear hz HRV
                    go_wp2_with fail
                    go_roundw
                    case rel => exact ⟨m + 1, by omega, by go_num, hid (by rw [unhid EN]; exact unhid HZ), hid (by rw [unhid EN]; exact unhid RV), HBr5⟩
                    case measure => simp [intOf]; omega
                  · have EN := hid ((unhid HNA).2.1 (unhid HH) hz)
                    have e2 := hid (show (clsF (graphP ps) (f + 1) (PackD.name p) out op).2 = (clsF (graphP ps) f (NeedD.name n) (needsF (fun y o => clsF (graphP ps) f y o (op ++ [PackD.name p])) ((asksOf ps p).take m) out).1 (op ++ [PackD.name p])).2 by rw [unhid E, if_neg (by rw [unhid EN]; exact hz)]; exact unhid EN)
                    have hz' := hid hz
                    clear HRV EN
                    generalize (clsF (graphP ps) f (NeedD.name n) (needsF (fun y o => clsF (graphP ps) f y o (op ++ [PackD.name p])) ((asksOf ps p).take m) out).1 (op ++ [PackD.name p])).2 = cz at *
                    have hzb : (cz != 0) = true := by simpa using hz
                    go_wp2_with fail
                    go_ret2
                    exact clR_mk (unhid e2) (fun h0 => absurd ((unhid e2).symm.trans h0) (unhid hz')) (unhid HB5b)
            · have em : m = (PackD.needs p).length := by omega
              have EA : (asksOf ps p).take m = asksOf ps p := List.take_of_length_le (by rw [asks_len]; omega)
              have H1 := unhid H0
              have HS1 := unhid HS
              rw [EA] at H1 HS1
              have E0 := hid (show clsF (graphP ps) (f + 1) (PackD.name p) out op = ((needsF (fun y o => clsF (graphP ps) f y o (op ++ [PackD.name p])) (asksOf ps p) out).1 ++ [PackD.name p], 0) by rw [unhid E, if_pos H1])
              have GG := hid (good_len (needs_ok (fun y o => cls_ok (graphP ps) f y o (op ++ [PackD.name p])) _ out H1 (unhid HG)).1)
              generalize (needsF (fun y o => clsF (graphP ps) f y o (op ++ [PackD.name p])) (asksOf ps p) out).1 = fin at HS1 E0 GG
              have HO1 := hid (ownsRow_made0 wr)
              have hba := hid (show Below wr.heap.size wr (wr.alloc (.cells #[] 9)) from (Below.refl _ wr).alloc (Nat.le_refl _) _)
              have HBA := hid ((unhid HB).trans ((unhid hba).mono (unhid HB).size))
              have HQA := hid (ownsRow_at (ownsRow_belowS HS1 (unhid hba)))
              have hsz := hid (unhid hba).size
              clear H1 HS1 EA HS H0 E hat
              go_wp2_with (at_builtin; refine wp_row rfl _ _ rfl wr.heap.size _ [] fin _ rfl rfl (unhid HO1) (unhid HQA) (by have := unhid GG; rw [List.length_nil]; omega) (unhid hsz) ?_)
              intro v6 w6 hown hgr
              have HB6 := hid (grown_belowN (w := w) (unhid HBA) hgr (fun j ej => Nat.le_trans (unhid HB).size ((unhid HO1).lt j ej).1))
              have HO3 := hid ((show w6.ownsRow wr.heap.size 9 1 v6 fin.length (fin.map Value.string) from hown).alloc (.cells #[.string (PackD.name p)] 9))
              have hlo := hid (show ∀ j, v6.ownBlock = some j → wr.heap.size ≤ j from fun j ej => (World.ownsRow.lt (show w6.ownsRow wr.heap.size 9 1 v6 fin.length (fin.map Value.string) from hown) j ej).1)
              have HC3 := hid (cell_newN w6 (.string (PackD.name p)) 9)
              have HB7 := hid ((unhid HB6).alloc (unhid HB6).size (.cells #[.string (PackD.name p)] 9))
              have HSZ := hid (show wr.heap.size ≤ (w6.alloc (.cells #[.string (PackD.name p)] 9)).heap.size from Nat.le_trans (unhid hsz) (Nat.le_trans hgr.size (by simp)))
              clear hown hgr HO1 hba HQA hsz HBA HB6
              go_wp2_with (at_builtin; refine wp_name rfl _ _ rfl wr.heap.size v6 fin (PackD.name p) w6.heap.size rfl rfl (unhid HO3) (unhid HC3) (by have := unhid GG; omega) (unhid HSZ) ?_)
              intro v8 w8 hown hgr
              have HB8 := hid (grown_belowN (w := w) (unhid HB7) hgr (fun j ej => Nat.le_trans (unhid HB).size (unhid hlo j ej)))
              have HW8 := hid (ownsRow_lowerS (N := N) (show w8.ownsRow wr.heap.size 9 1 v8 (fin ++ [PackD.name p]).length ((fin ++ [PackD.name p]).map Value.string) by simpa using hown) (Nat.le_trans (unhid HN0) (unhid HB).size))
              clear hown hgr HO3 HC3 HSZ hlo HB7
              go_wp2_with fail
              go_ret2
              refine clR_mk (by rw [unhid E0]) (fun _ => ?_) (unhid HB8)
              rw [unhid E0]
              exact unhid HW8

/-- What Closure answers. -/
def closeR (ps : List packC.D) (xs : List ByteArray) : List ByteArray × Int := if packsCode ps = 0 then closeL (fun x o => clsF (graphP ps) (ps.length + 1) x o []) xs [] else ([], packsCode ps)
def closure_0 (ps : List packC.D) (xs : List ByteArray) : List ByteArray := (closeR ps xs).1
def closure_1 (ps : List packC.D) (xs : List ByteArray) : Int := (closeR ps xs).2
theorem packs_ok {ps : List packC.D} (h : packsCode ps = 0) : allPk ps = true ∧ (namesP ps).Nodup := by
  unfold packsCode at h
  by_cases h1 : allPk ps = true
  · rw [if_pos h1] at h
    refine ⟨h1, ?_⟩
    by_cases h2 : twiceB (namesP ps) = true
    · rw [if_pos h2] at h; cases h
    · unfold twiceB at h2; simpa using h2
  · rw [if_neg h1] at h; cases h
theorem packs_code {ps : List packC.D} (h1 : allPk ps = true) (h2 : (namesP ps).Nodup) : packsCode ps = 0 := by
  unfold packsCode twiceB
  rw [if_pos h1, if_neg (by simp [h2])]
theorem close_app {f : ByteArray → List ByteArray → List ByteArray × Int} : ∀ (as_ bs out : List ByteArray), (closeL f as_ out).2 = 0 → closeL f (as_ ++ bs) out = closeL f bs (closeL f as_ out).1
  | [], bs, out, _ => rfl
  | x :: as_, bs, out, h => by
    rw [List.cons_append, closeL]
    rw [closeL] at h
    rw [closeL]
    by_cases h2 : (f x out).2 = 0
    · rw [if_pos h2] at h ⊢
      rw [if_pos h2]
      exact close_app as_ bs _ h
    · rw [if_neg h2] at h; exact absurd h h2
theorem close_at {f : ByteArray → List ByteArray → List ByteArray × Int} {xs : List ByteArray} {k : Nat} {x : ByteArray} (hx : xs[k]? = some x) (h0 : (closeL f (xs.take k) []).2 = 0) :
    ((f x (closeL f (xs.take k) []).1).2 ≠ 0 → closeL f xs [] = ([], (f x (closeL f (xs.take k) []).1).2)) ∧ ((f x (closeL f (xs.take k) []).1).2 = 0 → closeL f (xs.take (k + 1)) [] = f x (closeL f (xs.take k) []).1) := by
  refine ⟨fun h => ?_, fun h => ?_⟩
  · have e := split_at hx
    rw [e, close_app _ _ _ h0, closeL, if_neg h, ← e]
  · rw [List.take_add_one, hx, close_app _ _ _ h0]
    show closeL f [x] _ = _
    rw [closeL, if_pos h, closeL, ← h]

set_option maxRecDepth 100000 in
set_option maxHeartbeats 8000000 in
theorem specClosure_any (ps : List packC.D) (pa : Option Addr) (pc : Nat) (xs : List ByteArray) (V : Value) (w : World) (hs : smallPs ps) (hx : xs.length ≤ 1048576) (hp : rowAt packC w (.slice pa ps.length pc) ps) (h : rowAt txtC w V xs) :
    Calls Tryz.prog 17 #[.slice pa ps.length pc, V] w fun e w' => (∃ v, e = .returned (.tuple #[v, .int .i64 (closure_1 ps xs)]) ∧ w'.ownsRow w.heap.size 9 1 v (closure_0 ps xs).length ((closure_0 ps xs).map Value.string)) ∧ Below w.heap.size w w' := by
  obtain ⟨xa, xc, rfl, ht, -, -⟩ := rowAt_txts h
  have HT := hid ht
  have HP := hid hp
  have HSM := hid hs
  have HL := hid (l8Packs_any ps _ w hs hp)
  clear h ht hp hs
  go_enter Tryz.func17, Tryz.ntmps17
  go_wp2_with fail
  refine (unhid HL).mono ?_
  rintro e w1 ⟨rfl, hb⟩
  have HB1 := hid hb
  clear hb HL
  by_cases hc : packsCode ps = 0
  · have E := hid (show closeR ps xs = closeL (fun x o => clsF (graphP ps) (ps.length + 1) x o []) xs [] by unfold closeR; rw [if_pos hc])
    have HN := hid (packs_ok hc).2
    rw [hc]
    clear hc
    have r0 := hid (ownsRow_lowerS (ownsRow_made0 w1) (unhid HB1).size)
    have hba := hid (show Below w.heap.size w (w1.alloc (.cells #[] 9)) from (unhid HB1).alloc (unhid HB1).size _)
    go_wp2_with fail
    generalize w1.alloc (.cells #[] 9) = w2 at r0 hba ⊢
    go_loopw [7, 8] (fun s i wr => ∃ k : Nat, k ≤ xs.length ∧ i = .int .i64 (k : Int) ∧ Hid ((closeL (fun x o => clsF (graphP ps) (ps.length + 1) x o []) (xs.take k) []).2 = 0) ∧ Hid (wr.ownsRow w.heap.size 9 1 s (closeL (fun x o => clsF (graphP ps) (ps.length + 1) x o []) (xs.take k) []).1.length ((closeL (fun x o => clsF (graphP ps) (ps.length + 1) x o []) (xs.take k) []).1.map Value.string)) ∧ Hid (Below w.heap.size w wr)) (fun _ i _ => xs.length - (intOf i).toNat)
    case atStart => exact ⟨0, Nat.zero_le _, rfl, hid rfl, hid (unhid r0), hba⟩
    case round =>
      clear r0 hba
      obtain ⟨k, hk, rfl, H0, HS, HB⟩ := hrel
      by_cases hlt : k < xs.length
      · obtain ⟨x, hxk⟩ : ∃ x, xs[k]? = some x := ⟨xs[k], List.getElem?_eq_getElem hlt⟩
        obtain ⟨b, o, rfl, hbl, hcell⟩ := (unhid HT).get (by intro e; subst e; simp at hlt)
        have c0 := ((unhid HB).cell (p := ⟨b, o + k, none⟩) hbl).trans (hcell k x hxk)
        have c0 := fun y => Go.Lib.cell?_alloc_some y c0
        have HCA := hid (close_at (f := fun x o => clsF (graphP ps) (ps.length + 1) x o []) hxk (unhid H0))
        have HG := hid (close_ok (G := graphP ps) (N := ps.length + 1) (xs.take k) [] (unhid H0) (good_nil _)).1
        have r0 := hid (ownsRow_at (ownsRow_made0 wr))
        have hba := hid (show Below wr.heap.size wr (wr.alloc (.cells #[] 9)) from (Below.refl _ wr).alloc (Nat.le_refl _) _)
        have c1 := ((unhid HB).cell (p := ⟨b, o + k, none⟩) hbl).trans (hcell k x hxk)
        clear hcell hbl hxk
        go_wp2_with fail
        generalize wr.alloc (.cells #[] 9) = w3 at r0 hba c0 ⊢
        have HB3 := hid ((unhid HB).trans ((unhid hba).mono (unhid HB).size))
        refine (l8Close_any ps pa pc w.heap.size (unhid HSM) (unhid HN) (ps.length + 1) x _ _ _ [] w3 (by simp) List.nodup_nil (fun z hz => by cases hz) (unhid HG) (unhid HB3).size ((unhid HP).below (unhid HB3)) (ownsRow_belowS (unhid HS) (unhid hba)) (unhid r0)).mono ?_
        rintro e w4 ⟨vv, rfl, hrv, hb⟩
        have HB4 := hid ((unhid HB3).trans (hb.mono (unhid HB3).size))
        have HRV := hid hrv
        clear hb hrv c0 c1 r0 hba HS HB HB3
        by_cases hz : (clsF (graphP ps) (ps.length + 1) x (closeL (fun x o => clsF (graphP ps) (ps.length + 1) x o []) (xs.take k) []).1 []).2 = 0
        · have EN := hid ((unhid HCA).2 hz)
          have RV := hid (unhid HRV hz)
          have HZ := hid hz
          rw [hz]
          clear hz HRV
          go_wp2_with fail
          go_roundw
          case rel => exact ⟨k + 1, by omega, by go_num, hid (by rw [unhid EN]; exact unhid HZ), hid (by rw [unhid EN]; exact unhid RV), HB4⟩
          case measure => simp [intOf]; omega
        · have EN := hid ((unhid E).trans ((unhid HCA).1 hz))
          clear HRV HCA H0 HG
          generalize (clsF (graphP ps) (ps.length + 1) x (closeL (fun x o => clsF (graphP ps) (ps.length + 1) x o []) (xs.take k) []).1 []).2 = cz at *
          have hzb : (cz != 0) = true := by simpa using hz
          have r0 := hid (ownsRow_lowerS (ownsRow_made0 w4) (unhid HB4).size)
          have HB5 := hid ((unhid HB4).alloc (unhid HB4).size (.cells #[] 9))
          clear c0
          go_wp2_with fail
          go_ret2
          exact ⟨⟨_, by unfold closure_1; rw [unhid EN]; rfl, by unfold closure_0; rw [unhid EN]; exact unhid r0⟩, unhid HB5⟩
      · have e : k = xs.length := by omega
        subst e
        have H1 := unhid H0
        have HS1 := unhid HS
        rw [List.take_of_length_le (Nat.le_refl _)] at H1 HS1
        have E1 := hid (show closure_1 ps xs = 0 by unfold closure_1; rw [unhid E]; exact H1)
        have E2 := hid (show wr.ownsRow w.heap.size 9 1 _ (closure_0 ps xs).length ((closure_0 ps xs).map Value.string) by unfold closure_0; rw [unhid E]; exact HS1)
        clear H1 HS1
        go_wp2_with fail
        go_ret2
        exact ⟨⟨_, by rw [unhid E1]; rfl, unhid E2⟩, unhid HB⟩
  · have E := hid (show closeR ps xs = ([], packsCode ps) by unfold closeR; rw [if_neg hc])
    generalize packsCode ps = cz at *
    have hzb : (cz != 0) = true := by simpa using hc
    have r0 := hid (ownsRow_lowerS (ownsRow_made0 w1) (unhid HB1).size)
    have HB5 := hid ((unhid HB1).alloc (unhid HB1).size (.cells #[] 9))
    go_wp2_with fail
    go_ret2
    exact ⟨⟨_, by unfold closure_1; rw [unhid E]; rfl, by unfold closure_0; rw [unhid E]; exact unhid r0⟩, unhid HB5⟩
end Go.Proofs.YtoihhlkidlapmaaGreat

/- Closure, by the program: packs that are ok, their names, and where each is. -/
namespace Go.Proofs.YtoihhlkidlapmaaGreat
open Go.RowKit Go.Shelf Go.Maps

set_option maxRecDepth 100000 in
set_option maxHeartbeats 4000000 in
theorem listOkPack_any (ps : List packC.D) (v : Value) (w : World) (hs : smallPs ps) (h : rowAt packC w v ps) :
    Calls Tryz.prog 59 #[v, .int .i64 (ps.length : Int), .func (.func 60) #[] #[]] w fun x w' => x = .returned (.bool (allPk ps)) ∧ Below w.heap.size w w' := by
  obtain ⟨a, cap, rfl, -, -, h⟩ := h
  have hlen := hs.1
  have HSM := hid hs
  have H := hid h
  clear h hs
  go_enter Tryz.func59, Tryz.ntmps59
  go_wp2_with fail
  go_loopw [15] (fun i wr => ∃ k : Nat, k ≤ ps.length ∧ i = .int .i64 (k : Int) ∧ Hid (allPk (ps.take k) = true) ∧ Hid (Below w.heap.size w wr)) (fun i _ => ps.length - (intOf i).toNat)
  case atStart => exact ⟨0, Nat.zero_le _, rfl, hid rfl, hid (Below.refl _ _)⟩
  case round =>
    obtain ⟨k, hk, rfl, HA, HB⟩ := hrel
    by_cases hlt : k < ps.length
    · obtain ⟨e, he⟩ : ∃ e, ps[k]? = some e := ⟨ps[k], List.getElem?_eq_getElem hlt⟩
      obtain ⟨b, o, rfl, hbl, hc⟩ := (unhid H).resolve_left (by intro e; subst e; simp at hlt)
      obtain ⟨na, nc, ta, tc, ⟨c0, c1, c2, c3⟩, hat⟩ := pack_cells (unhid HB) hbl hc he
      have HAT := hid hat
      have HS := hid ((unhid HSM).2 e (List.mem_of_getElem? he))
      have HE := hid he
      have HBA := hid (show ∀ x, Below w.heap.size w (wr.alloc x) from fun x => (unhid HB).alloc (unhid HB).size x)
      have HBR := hid (show ∀ x, Below wr.heap.size wr (wr.alloc x) from fun x => (Below.refl _ wr).alloc (Nat.le_refl _) x)
      clear hc he hbl HB hat
      go_wp2_with fail
      refine (packOk_any e _ _ (unhid HS) (packC.below (unhid HAT) (unhid HBR _))).mono ?_
      rintro x w2 ⟨rfl, hb⟩
      have HB2 := hid ((unhid HBA _).trans (hb.mono (unhid HBA _).size))
      clear hb c0 c1 c2 c3 HBA HBR
      cases hq : pkOk e with
      | false =>
        have E := hid (allPk_no (unhid HE) hq)
        go_wp2_with fail
        go_ret
        exact ⟨by rw [unhid E]; rfl, unhid HB2⟩
      | true =>
        have HQ := hid hq
        clear hq
        go_wp2_with fail
        go_roundw
        case rel => exact ⟨k + 1, by omega, by go_num, hid (all_take_next (p := fun q : packC.D => pkOk q) (unhid HE) (unhid HA) (unhid HQ)), HB2⟩
        case measure => simp [intOf]; omega
    · have e : k = ps.length := by omega
      subst e
      have E := hid (show allPk ps = true by have := unhid HA; rw [List.take_of_length_le (Nat.le_refl _)] at this; exact this)
      go_wp2_with fail
      go_ret
      exact ⟨by rw [unhid E]; rfl, unhid HB⟩

set_option maxRecDepth 100000 in
set_option maxHeartbeats 1000000 in
theorem packNames1_any (e : packC.D) (na : Option Addr) (nc : Nat) (ta : Option Addr) (tc : Nat) (w : World) :
    Calls Tryz.prog 119 #[.agg #[.string (PackD.name e), .string (PackD.version e), .slice na (PackD.needs e).length nc, .slice ta (PackD.tree e).length tc]] w fun x w' => x = .returned (.string (PackD.name e)) ∧ Below w.heap.size w w' := by
  have HB := hid (show ∀ x, Below w.heap.size w (w.alloc x) from fun x => (Below.refl _ w).alloc (Nat.le_refl _) x)
  go_enter Tryz.func119, Tryz.ntmps119
  go_wp2_with fail
  go_ret
  exact ⟨rfl, unhid HB _⟩

set_option maxRecDepth 100000 in
set_option maxHeartbeats 4000000 in
theorem packNames_any (ps : List packC.D) (v : Value) (w : World) (hl : ps.length ≤ 1048576) (h : rowAt packC w v ps) :
    Calls Tryz.prog 118 #[v, .func (.func 119) #[] #[]] w fun x w' => ∃ u, x = .returned u ∧ w'.ownsRow w.heap.size 9 1 u (namesP ps).length ((namesP ps).map Value.string) ∧ Below w.heap.size w w' := by
  obtain ⟨a, cap, rfl, -, -, h⟩ := h
  have H := hid h
  clear h
  go_enter Tryz.func118, Tryz.ntmps118
  go_wp2_with fail
  go_loopw [5, 10] (fun s i wr => ∃ (k : Nat) (oa : Option Addr) (oc : Nat), k ≤ ps.length ∧ i = .int .i64 (k : Int) ∧ s = .slice oa k oc ∧ Hid (wr.ownsRow w.heap.size 9 1 (.slice oa k oc) ((namesP ps).take k).length (((namesP ps).take k).map Value.string)) ∧ Hid (Below w.heap.size w wr)) (fun _ i _ => ps.length - (intOf i).toNat)
  case atStart => exact ⟨0, _, _, Nat.zero_le _, rfl, rfl, hid (ownsRow_none _ _), hid (Below.refl _ _)⟩
  case round =>
    obtain ⟨k, oa, oc, hk, rfl, rfl, HO, HB⟩ := hrel
    by_cases hlt : k < ps.length
    · obtain ⟨e, he⟩ : ∃ e, ps[k]? = some e := ⟨ps[k], List.getElem?_eq_getElem hlt⟩
      obtain ⟨b, o, rfl, hbl, hc⟩ := (unhid H).resolve_left (by intro e; subst e; simp at hlt)
      obtain ⟨na, nc, ta, tc, ⟨c0, c1, c2, c3⟩, -⟩ := pack_cells (unhid HB) hbl hc he
      have HX := hid (namesP_get he)
      have HBA := hid (show ∀ x, Below w.heap.size w (wr.alloc x) from fun x => (unhid HB).alloc (unhid HB).size x)
      have HOA := hid (fun x => (unhid HO).alloc x)
      have hlo := hid (show ∀ j, (Value.slice oa k oc).ownBlock = some j → w.heap.size ≤ j from fun j ej => ((unhid HO).lt j ej).1)
      clear hc he hbl HB HO
      go_wp2_with fail
      refine (packNames1_any e na nc ta tc _).mono ?_
      rintro x w2 ⟨rfl, hb⟩
      have HB2a := hid ((unhid HBA _).trans (hb.mono (unhid HBA _).size))
      have HO2 := hid ((ownsRow_belowS (unhid HOA _) hb).alloc (.cells #[.string (PackD.name e)] 9))
      have HB2 := hid ((unhid HB2a).alloc (unhid HB2a).size (.cells #[.string (PackD.name e)] 9))
      have HC2 := hid (cell_newN w2 (.string (PackD.name e)) 9)
      have HKL := hid (show ((namesP ps).take k).length ≤ 1048576 by rw [List.length_take]; omega)
      have HSZ := hid (unhid HB2).size
      clear hb c0 c1 c2 c3 HBA HOA HB2a
      go_wp2_with (at_builtin; refine wp_name rfl _ _ rfl w.heap.size (.slice oa k oc) ((namesP ps).take k) (PackD.name e) w2.heap.size rfl rfl (unhid HO2) (unhid HC2) (by have := unhid HKL; omega) (unhid HSZ) ?_)
      intro v' w4 hown hg
      have ho3 := ownsRow_take (unhid HX) (W := w4) (N := w.heap.size) (v := v') (by simpa using hown)
      have HB3 := hid (grown_belowN (unhid HB2) hg (unhid hlo))
      obtain ⟨oa2, oc2, hv, -⟩ := ownsRow_txts ho3
      have hk1 : ((namesP ps).take (k + 1)).length = k + 1 := by rw [List.length_take, namesP_len]; omega
      rw [hk1] at hv
      subst hv
      have HO3 := hid ho3
      clear hown hg hlo HC2 HB2 HO2 HSZ HKL ho3 hk1
      go_wp2_with fail
      go_roundw
      case rel => exact ⟨k + 1, oa2, oc2, by omega, by go_num, rfl, HO3, HB3⟩
      case measure => simp [intOf]; omega
    · have e : k = ps.length := by omega
      subst e
      go_wp2_with fail
      go_ret
      have := unhid HO
      rw [List.take_of_length_le (by rw [namesP_len]; exact Nat.le_refl _)] at this
      exact ⟨_, rfl, this, unhid HB⟩

/-- A map from names to where each is. -/
structure PlaceMap (W : World) (mb n : Nat) (names : List ByteArray) (D : DataW Unit) : Prop where
  own : W.ownsMap Tryz.prog 9 (plainElem Tryz.prog 3) mb n D
  has : ∀ x : ByteArray, Maps.has D (.string x.data.toList) = memB x names
  at_ : ∀ (x : ByteArray) (i : Nat), names[i]? = some x → D.atKey (.string x.data.toList) (.lit (.int .i64 0)) = .lit (.int .i64 (i : Int))
theorem law9 : Keyed Tryz.prog 9 := string_keyed Tryz.underlying9
theorem zero3 (w : World) : (zeroValue 3).run Tryz.prog w = .ok (.int .i64 0) w := by kernel_rfl
theorem wf_nat {k : Nat} (h : k ≤ 1048576) : (Lit.int .i64 (k : Int)).wf = true := by
  simp [Lit.wf, IntKind.min, IntKind.max, IntKind.signed, IntKind.bits]; omega
theorem bytes_eq {x y : ByteArray} (h : x.data.toList = y.data.toList) : x = y := by
  cases x with | mk a => cases y with | mk b => congr; exact Array.ext' h
theorem isKey_str (l : List UInt8) : WideAt.IsKeyLit (.string l) := by trivial
theorem PlaceMap.frame {W W' : World} {mb n : Nat} {names : List ByteArray} {D : DataW Unit} (h : PlaceMap W mb n names D) {row : Option Nat} (hg : W.grownBy W' row) (hne : some mb ≠ row) : PlaceMap W' mb n names D := ⟨h.own.kept hg hne, h.has, h.at_⟩
theorem PlaceMap.next {W : World} {mb n k : Nat} {names : List ByteArray} {x : ByteArray} {D : DataW Unit} (hn : names.Nodup) (hx : names[k]? = some x) (hD : IsMap D) (hh : ∀ y : ByteArray, Maps.has D (.string y.data.toList) = memB y (names.take k)) (ha : ∀ (y : ByteArray) (i : Nat), (names.take k)[i]? = some y → D.atKey (.string y.data.toList) (.lit (.int .i64 0)) = .lit (.int .i64 (i : Int)))
    (ho : W.ownsMap Tryz.prog 9 (plainElem Tryz.prog 3) mb n (D.put (.string x.data.toList) (.lit (.int .i64 (k : Int))))) : PlaceMap W mb n (names.take (k + 1)) (D.put (.string x.data.toList) (.lit (.int .i64 (k : Int)))) := by
  have e := take_next hx
  refine ⟨ho, fun y => ?_, fun y i hi => ?_⟩
  · by_cases hyx : y = x
    · subst hyx
      rw [has_put_same hD (isKey_str _), memB_yes (by rw [e]; simp)]
    · rw [has_put_other (fun h => hyx (bytes_eq (by injection h))), hh y]
      cases h : memB y (names.take k) with
      | true => rw [memB_yes (by rw [e]; exact List.mem_append_left _ (memB_iff.1 h))]
      | false => rw [memB_no (fun hm => by
          rw [e] at hm
          rcases List.mem_append.1 hm with hm | hm
          · rw [memB_yes hm] at h; cases h
          · exact hyx (List.mem_singleton.1 hm))]
  · have hik : i < k + 1 := by have := (List.getElem?_eq_some_iff.1 hi).1; rw [List.length_take] at this; omega
    have hni : names[i]? = some y := by rwa [List.getElem?_take_of_lt hik] at hi
    by_cases hyx : y = x
    · subst hyx
      have ei := nodup_inj hn hni hx
      subst ei
      rw [atKey_put_same hD (isKey_str _)]
    · rw [atKey_put_other (fun h => hyx (bytes_eq (by injection h)))]
      have hne : i ≠ k := fun e => by subst e; rw [hx] at hni; cases hni; exact hyx rfl
      exact ha y i (by rw [List.getElem?_take_of_lt (by omega)]; exact hni)
/-- A name is looked up. -/
theorem PlaceMap.look {W : World} {mb n : Nat} {names : List ByteArray} {D : DataW Unit} (h : PlaceMap W mb n names D) (x : ByteArray) (hx : x.size ≤ maxLen) : ∃ c : Int, (Instr.lookup 86 (.map (some mb)) (.string x) true).run Tryz.prog W = .ok (.tuple #[.int .i64 c, .bool (memB x names)]) W ∧ ∀ i : Nat, names[i]? = some x → c = (i : Int) := by
  obtain ⟨v, ps, hrun, hv⟩ := h.own.look_ok law9 Tryz.underlying86 (zero3 W) (plainElem_int Tryz.underlying3 (by decide)) (Go.WideMaps.keyOf_string_mk Tryz.underlying9 hx)
  obtain ⟨c, rfl, hc, hwc⟩ := plainElem_int_inv Tryz.underlying3 hv
  refine ⟨c, by rw [hrun, h.has], fun i hi => ?_⟩
  have h1 := congrArg Prod.fst hc
  have h2 := h.at_ x i hi
  rw [h2] at h1
  have h3 : (DataW.lit (.int .i64 (i : Int)) : DataW Unit) = .lit (.int .i64 c) := h1
  exact (Lit.int.inj (DataW.lit.inj h3)).2.symm
end Go.Proofs.YtoihhlkidlapmaaGreat

/- What the program's iterator over a tree tells. -/
namespace Go.Proofs.YtoihhlkidlapmaaGreat
open Go.RowKit Go.Shelf





theorem row_cells {W : World} {N n size : Nat} {v : Value} {e : TypeId} {xs : List Value} {g : Nat} (h : W.ownsRow N e size v n xs) (hg : v.ownBlock = some g) : ∃ cur, W.heap[g]? = some (.cells cur e (0, 0)) := by
  rcases h.2 with ⟨rfl, _⟩ | ⟨g', cap, cur, rfl, _, hh, _⟩
  · cases hg
  · cases hg; exact ⟨cur, hh⟩

end Go.Proofs.YtoihhlkidlapmaaGreat

/- A region inside a round of a range over a function, by what holds of it outside. -/
namespace Go.Proofs.YtoihhlkidlapmaaGreat
open Go.RowKit Go.Shelf



end Go.Proofs.YtoihhlkidlapmaaGreat

/- What a tree has at a path, by the program. -/
namespace Go.Proofs.YtoihhlkidlapmaaGreat
open Go.RowKit Go.Shelf

theorem four_cells {W : World} {bt : Nat} {u v x y : Value} {t : TypeId} (h : W.heap[bt]? = some (.cells #[u, v, x, y] t (0, 0))) : (W.cell? ⟨bt, 0, .none⟩ = some u ∧ W.cell? ⟨bt, 1, .none⟩ = some v ∧ W.cell? ⟨bt, 2, .none⟩ = some x ∧ W.cell? ⟨bt, 3, .none⟩ = some y) ∧ (W.frozen? ⟨bt, 0, .none⟩ = false ∧ W.frozen? ⟨bt, 1, .none⟩ = false ∧ W.frozen? ⟨bt, 2, .none⟩ = false ∧ W.frozen? ⟨bt, 3, .none⟩ = false) := by
  refine ⟨⟨?_, ?_, ?_, ?_⟩, ?_, ?_, ?_, ?_⟩ <;> simp [World.cell?, World.frozen?, h]

end Go.Proofs.YtoihhlkidlapmaaGreat

/- The entries of a tree, in a row of their own. -/
namespace Go.Proofs.YtoihhlkidlapmaaGreat
open Go.RowKit Go.Shelf

attribute [local go_sem] Oper.semAt_some

def valsOf (es : List Ent) : List Value := es.flatMap fun e => e.vals.toList

theorem cells_grown {W W' : World} {row : Option Nat} (hg : W.grownBy W' row) (hr : ∀ r, row = some r → ∃ o : Obj, W.heap[r]? = some o ∧ o.isCells = false) {b : Nat} {cs : Array Value} {t : TypeId} {f : Nat × Nat} (hb : W.heap[b]? = some (.cells cs t f)) : W'.heap[b]? = some (.cells cs t f) :=
  (hg.block b (Array.getElem?_eq_some_iff.1 hb).1 (fun e => by obtain ⟨o, ho, hc⟩ := hr b e.symm; rw [hb] at ho; cases ho; cases hc)).trans hb
theorem row_grown {W W' : World} {row : Option Nat} (hg : W.grownBy W' row) (hr : ∀ r, row = some r → ∃ o : Obj, W.heap[r]? = some o ∧ o.isCells = false) {N n size : Nat} {v : Value} {e : TypeId} {xs : List Value} (h : W.ownsRow N e size v n xs) : W'.ownsRow N e size v n xs :=
  ownsRow_kept h (fun g eg => by obtain ⟨cur, hc⟩ := row_cells h eg; rw [cells_grown hg hr hc, hc])
theorem valsOf_snoc (es : List Ent) (e : Ent) : valsOf (es ++ [e]) = valsOf es ++ e.vals.toList := by simp [valsOf]

theorem infoEntry : (Tryz.prog.info? 57).map (fun i => (i.zero, i.size, i.bytes)) = some (some (.agg #[.string ⟨#[]⟩, .int .i64 0, .int .i64 0, .string ⟨#[]⟩]), 4, 48) := by kernel_rfl
theorem ownsRow_base {W : World} {N N' n size : Nat} {v : Value} {e : TypeId} {xs : List Value} (h : W.ownsRow N e size v n xs) (hN : N' ≤ N) : W.ownsRow N' e size v n xs :=
  ⟨h.1, h.2.imp id (fun ⟨g, cap, cur, a, b, c⟩ => ⟨g, cap, cur, a, Nat.le_trans hN b, c⟩)⟩
theorem lit_cells (w1 : World) (a b c d : Value) (t : TypeId) : ∀ (j : Nat) (u : Value), [a, b, c, d][j]? = some u → (w1.alloc (.cells #[a, b, c, d] t)).cell? ((⟨w1.heap.size, 0, none⟩ : Addr).add j) = some u := by
  intro j u hj
  rw [Addr.add_lit, World.cell?_alloc_at _ _ _ _ rfl, Nat.zero_add]
  simpa using hj

end Go.Proofs.YtoihhlkidlapmaaGreat

/- What the laws write over a row to see whose it is. -/
namespace Go.Proofs.YtoihhlkidlapmaaGreat
open Go.RowKit Go.Shelf

/-- A block whose first cells are n entries. -/
def RowE (W : World) (g n : Nat) (f : Nat → Ent) : Prop := ∃ cur : Array Value, W.heap[g]? = some (.cells cur 57 (0, 0)) ∧ n * 4 ≤ cur.size ∧ ∀ i, i < n → cur[i * 4]? = some (.string (f i).path) ∧ cur[i * 4 + 1]? = some (.int .i64 (f i).kind) ∧ cur[i * 4 + 2]? = some (.int .i64 (f i).mode) ∧ cur[i * 4 + 3]? = some (.string (f i).text)
theorem RowE.lt {W : World} {g n : Nat} {f : Nat → Ent} (x : RowE W g n f) : g < W.heap.size := by
  obtain ⟨cur, h1, _⟩ := x; exact (Array.getElem?_eq_some_iff.1 h1).1
theorem RowE.block {W W' : World} {g n : Nat} {f : Nat → Ent} (x : RowE W g n f) (e : W'.heap[g]? = W.heap[g]?) : RowE W' g n f := by
  obtain ⟨cur, h1, h2, h3⟩ := x; exact ⟨cur, e.trans h1, h2, h3⟩
theorem RowE.below {W W' : World} {B g n : Nat} {f : Nat → Ent} (x : RowE W g n f) (hb : Below B W W') (hg : g < B) : RowE W' g n f := x.block (hb.block g hg)
theorem RowE.congr {W : World} {g n : Nat} {f f' : Nat → Ent} (x : RowE W g n f) (e : ∀ j, j < n → f j = f' j) : RowE W g n f' := by
  obtain ⟨cur, h1, h2, h3⟩ := x; exact ⟨cur, h1, h2, fun j hj => by rw [← e j hj]; exact h3 j hj⟩
theorem RowE.cells {W : World} {g n : Nat} {f : Nat → Ent} (x : RowE W g n f) (k : Nat) (hk : k < n) : EntAt W g (k * 4) (f k) ∧ (W.frozen? ⟨g, k * 4, .none⟩ = false ∧ W.frozen? ⟨g, k * 4 + 1, .none⟩ = false ∧ W.frozen? ⟨g, k * 4 + 2, .none⟩ = false ∧ W.frozen? ⟨g, k * 4 + 3, .none⟩ = false) := by
  obtain ⟨cur, h1, h2, h3⟩ := x
  obtain ⟨a, b, c, d⟩ := h3 k hk
  exact ⟨⟨by simp [World.cell?, h1, a], by simp [World.cell?, h1, b], by simp [World.cell?, h1, c], by simp [World.cell?, h1, d]⟩, by simp [World.frozen?, h1], by simp [World.frozen?, h1], by simp [World.frozen?, h1], by simp [World.frozen?, h1]⟩

/-- The entry that the laws write at a place. -/
def markE (q i : Nat) : Ent := ⟨mtext (q + i * 4), ((q + i * 4 + 1 : Nat) : Int), ((q + i * 4 + 2 : Nat) : Int), mtext (q + i * 4 + 3)⟩

end Go.Proofs.YtoihhlkidlapmaaGreat

/- Rows of entries between two bounds; what is written over them is there, and nothing else changes. -/
namespace Go.Proofs.YtoihhlkidlapmaaGreat
open Go.RowKit Go.Shelf

/-- Entries in a row of their own, whose block is from N on, ahead of M. -/
def RowIn (W : World) (a : Option Addr) (N M : Nat) (es : List Ent) : Prop := es = [] ∨ ∃ g, a = some ⟨g, 0, .none⟩ ∧ N ≤ g ∧ g < M ∧ RowE W g es.length (entFn es)
theorem RowIn.at {W : World} {a : Option Addr} {N M : Nat} {es : List Ent} (h : RowIn W a N M es) : EntsAt W a es := by
  rcases h with h | ⟨g, rfl, _, _, hR⟩
  · exact .inl h
  · refine .inr ⟨g, 0, rfl, hR.lt, fun i e hi => ?_⟩
    have := (hR.cells i (List.getElem?_eq_some_iff.1 hi).1).1
    rw [entFn_get hi] at this
    rwa [Nat.zero_add]
/-- Nothing changes but blocks from N on, ahead of M. -/
structure Spares (N M : Nat) (w w' : World) : Prop where
  os : w'.os = w.os
  tape : w'.tape = w.tape
  output : w'.output = w.output
  size : w.heap.size ≤ w'.heap.size
  block : ∀ k, k < w.heap.size → (k < N ∨ M ≤ k) → w'.heap[k]? = w.heap[k]?
theorem Spares.row {w w' : World} {N M N2 M2 : Nat} {a : Option Addr} {es : List Ent} (h : Spares N M w w') (x : RowIn w a N2 M2 es) (hd : M2 ≤ N ∨ M ≤ N2) : RowIn w' a N2 M2 es := by
  rcases x with x | ⟨g, rfl, h1, h2, hR⟩
  · exact .inl x
  · exact .inr ⟨g, rfl, h1, h2, hR.block (h.block g hR.lt (by omega))⟩
theorem Spares.below {w0 w w' : World} {N M : Nat} (h : Spares N M w w') (hb : Below w0.heap.size w0 w) (hN : w0.heap.size ≤ N) : Below w0.heap.size w0 w' :=
  ⟨h.os.trans hb.os, h.tape.trans hb.tape, h.output.trans hb.output, Nat.le_trans hb.size h.size, fun k hk => (h.block k (Nat.lt_of_lt_of_le hk hb.size) (by omega)).trans (hb.block k hk)⟩
theorem RowIn.below {w w' : World} {N M : Nat} {a : Option Addr} {es : List Ent} (x : RowIn w a N M es) (h : Below w.heap.size w w') : RowIn w' a N M es := by
  rcases x with x | ⟨g, rfl, h1, h2, hR⟩
  · exact .inl x
  · exact .inr ⟨g, rfl, h1, h2, hR.block (h.block g hR.lt)⟩
theorem RowIn.wide {w : World} {N M N2 M2 : Nat} {a : Option Addr} {es : List Ent} (x : RowIn w a N M es) (hN : N2 ≤ N) (hM : M ≤ M2) : RowIn w a N2 M2 es := by
  rcases x with x | ⟨g, rfl, h1, h2, hR⟩
  · exact .inl x
  · exact .inr ⟨g, rfl, by omega, by omega, hR⟩
def marks (q n : Nat) : List Ent := (List.range n).map (markE q)


end Go.Proofs.YtoihhlkidlapmaaGreat

/- A row of entries copied, by the model. -/
namespace Go.Proofs.YtoihhlkidlapmaaGreat
open Go.RowKit Go.Shelf

theorem valsOf_len (es : List Ent) : (valsOf es).length = es.length * 4 := by
  induction es with
  | nil => rfl
  | cons e es ih => simp only [valsOf, List.flatMap_cons, List.length_append, List.length_cons] at *; rw [ih]; simp [Ent.vals]; omega
theorem valsOf_get : ∀ (es : List Ent) (i r : Nat), r < 4 → (valsOf es)[i * 4 + r]? = (es[i]?).bind fun e => e.vals.toList[r]?
  | [], i, r, h => by simp [valsOf]
  | e :: es, 0, r, h => by
    show (e.vals.toList ++ valsOf es)[0 * 4 + r]? = _
    rw [Nat.zero_mul, Nat.zero_add, List.getElem?_append_left (by simp [Ent.vals]; omega)]
    rfl
  | e :: es, i + 1, r, h => by
    show (e.vals.toList ++ valsOf es)[(i + 1) * 4 + r]? = _
    rw [List.getElem?_append_right (by simp [Ent.vals]; omega)]
    have : (i + 1) * 4 + r - e.vals.toList.length = i * 4 + r := by simp [Ent.vals]; omega
    rw [this, valsOf_get es i r h, List.getElem?_cons_succ]
theorem valsOf_one (es : List Ent) : ∀ u ∈ valsOf es, u.oneCell' = true := by
  intro u hu
  simp only [valsOf, List.mem_flatMap] at hu
  obtain ⟨e, _, hu⟩ := hu
  simp [Ent.vals] at hu
  rcases hu with rfl | rfl | rfl | rfl <;> rfl
theorem add_plain4 (b o n : Nat) : (⟨b, o, none⟩ : Addr).add n = ⟨b, o + n, none⟩ := by simp [Addr.add]
theorem ents_cells {W : World} {b o : Nat} {es : List Ent} (h : ∀ (i : Nat) e, es[i]? = some e → EntAt W b (o + i * 4) e) : ∀ j u, (valsOf es)[j]? = some u → W.cell? ((⟨b, o, none⟩ : Addr).add j) = some u := by
  intro j u hj
  have e1 : j = j / 4 * 4 + j % 4 := by omega
  rw [e1, valsOf_get es _ _ (Nat.mod_lt _ (by omega))] at hj
  cases he : es[j / 4]? with
  | none => rw [he] at hj; cases hj
  | some e =>
    rw [he] at hj
    obtain ⟨c0, c1, c2, c3⟩ := h _ e he
    rw [add_plain4]
    have hr : j % 4 < 4 := Nat.mod_lt _ (by omega)
    have e2 : o + j = o + j / 4 * 4 + j % 4 := by omega
    rw [e2]
    have hb : e.vals.toList[j % 4]? = some u := hj
    generalize j % 4 = r at hr hb
    match r, hr with
    | 0, _ => simp [Ent.vals] at hb; rw [← hb]; exact c0
    | 1, _ => simp [Ent.vals] at hb; rw [← hb]; exact c1
    | 2, _ => simp [Ent.vals] at hb; rw [← hb]; exact c2
    | 3, _ => simp [Ent.vals] at hb; rw [← hb]; exact c3
/-- A row that is owned holds its entries. -/
theorem rowIn_of_owns {W : World} {N : Nat} {v : Value} {es : List Ent} (h : W.ownsRow N 57 4 v es.length (valsOf es)) : ∃ a cap, v = .slice a es.length cap ∧ RowIn W a N W.heap.size es := by
  rcases h.2 with ⟨rfl, h0⟩ | ⟨g, cap, cur, rfl, hN, hg, hc, _, hsz, hcells⟩
  · exact ⟨none, 0, by rw [h0], .inl (List.length_eq_zero_iff.1 h0)⟩
  · refine ⟨_, cap, rfl, .inr ⟨g, rfl, hN, (Array.getElem?_eq_some_iff.1 hg).1, cur, hg, by omega, fun i hi => ?_⟩⟩
    have he : es[i]? = some es[i] := List.getElem?_eq_getElem hi
    rw [entFn_get he]
    have hget : ∀ r, r < 4 → cur[i * 4 + r]? = es[i].vals.toList[r]? := fun r hr => by
      have h1 := valsOf_get es i r hr
      rw [he, ← hcells, List.getElem?_take_of_lt (by omega), Array.getElem?_toList] at h1
      exact h1
    exact ⟨hget 0 (by omega), hget 1 (by omega), hget 2 (by omega), hget 3 (by omega)⟩
theorem ents_take {W : World} {b o k : Nat} {es : List Ent} (h : ∀ (i : Nat) e, es[i]? = some e → EntAt W b (o + i * 4) e) : ∀ (i : Nat) e, (es.take k)[i]? = some e → EntAt W b (o + i * 4) e := fun i e hi => h i e (by
  rw [List.getElem?_take] at hi
  split at hi
  · exact hi
  · cases hi)
theorem ents_drop {W : World} {b o k : Nat} {es : List Ent} (h : ∀ (i : Nat) e, es[i]? = some e → EntAt W b (o + i * 4) e) : ∀ (i : Nat) e, (es.drop k)[i]? = some e → EntAt W b (o + k * 4 + i * 4) e := fun i e hi => by
  have := h (k + i) e (by rw [List.getElem?_drop] at hi; exact hi)
  rwa [Nat.add_mul, ← Nat.add_assoc] at this
theorem owns_empty (w : World) (N : Nat) (hN : N ≤ w.heap.size) (T : TypeId) : (w.alloc (.cells #[] T)).ownsRow N T 4 (.slice (some ⟨w.heap.size, 0, none⟩) 0 0) 0 [] :=
  ⟨rfl, .inr ⟨w.heap.size, 0, #[], rfl, hN, World.alloc_heap_new _ _, Nat.le_refl _, Nat.zero_le _, rfl, rfl⟩⟩
theorem entAt_below {W W' : World} {b o : Nat} {es : List Ent} (h : ∀ (i : Nat) e, es[i]? = some e → EntAt W b (o + i * 4) e) (hb : es = [] ∨ b < W.heap.size) (hB : Below W.heap.size W W') : ∀ (i : Nat) e, es[i]? = some e → EntAt W' b (o + i * 4) e := fun i e hi => by
  rcases hb with rfl | hb
  · simp at hi
  · exact (h i e hi).below hB hb

set_option maxRecDepth 100000 in
set_option maxHeartbeats 1000000 in
theorem l2Copy_some (es : List Ent) (b o cap : Nat) (w : World) (hn : es.length ≤ 1048576) (h : ∀ (i : Nat) e, es[i]? = some e → EntAt w b (o + i * 4) e) (hb : es = [] ∨ b < w.heap.size) :
    Calls Tryz.prog 160 #[.slice (some ⟨b, o, none⟩) es.length cap] w fun x w' => ∃ g c, x = .returned (.slice (some ⟨g, 0, none⟩) es.length c) ∧ w'.ownsRow w.heap.size 57 4 (.slice (some ⟨g, 0, none⟩) es.length c) es.length (valsOf es) ∧ Below w.heap.size w w' := by
  obtain ⟨i0, hi0, hz0, hzs, hzb⟩ := info_parts infoEntry
  go_enter Tryz.func160, Tryz.ntmps160
  have hB1 : Below w.heap.size w (w.alloc (.cells #[] 57)) := (Below.refl _ w).alloc (Nat.le_refl _) _
  have hcs := ents_cells (entAt_below h hb hB1)
  have HV := hid (And.intro (valsOf_len es) (And.intro hcs (valsOf_one es)))
  have HB := hid hB1
  clear h hcs hB1
  go_wp2_with (at_builtin; refine wpList_append_own _ rfl _ _ 32 rfl w.heap.size 57 i0 _ 4 48 Tryz.underlying32 hi0 hz0 hzs hzb rfl (by decide) _ 0 [] rfl (owns_empty w _ (Nat.le_refl _) _) ⟨b, o, none⟩ es.length cap (valsOf es) rfl (unhid HV).1 (unhid HV).2.1 (unhid HV).2.2 ?c3 ?c4 ?c5 ?_)
  case c3 => unfold maxLen; omega
  case c4 => omega
  case c5 => simp
  intro v' w2 hown hg hnil
  obtain ⟨g2, cap2, rfl⟩ : ∃ g2 cap2, v' = .slice (some ⟨g2, 0, none⟩) es.length cap2 := by
    rcases hown.2 with ⟨hv, _⟩ | ⟨g, cap, cur, hv, _⟩
    · exact absurd hv hnil
    · exact ⟨g, cap, hv⟩
  have HF := hid (And.intro hown ((unhid HB).grown hg (unhid HB).size (fun k e => by cases e; exact Nat.le_refl _)))
  clear hown hg HV HB
  go_wp2_with fail
  go_ret
  exact ⟨g2, cap2, rfl, unhid HF⟩
end Go.Proofs.YtoihhlkidlapmaaGreat

/- The library's Insert in the midst of a row: of texts, and of what stands at paths. -/
namespace Go.Proofs.YtoihhlkidlapmaaGreat
open Go.RowKit Go.Shelf Go.Lib





end Go.Proofs.YtoihhlkidlapmaaGreat

/- An entry put into a tree, wherever its place is. -/
namespace Go.Proofs.YtoihhlkidlapmaaGreat
open Go.RowKit Go.Shelf

/-- Entries with one more in its place. -/
def insAt (es : List Ent) (e : Ent) : List Ent := es.take (placeE es e.path) ++ [e] ++ es.drop (placeE es e.path)

end Go.Proofs.YtoihhlkidlapmaaGreat

/- An entry put into a tree, if it can be, wherever its place is. -/
namespace Go.Proofs.YtoihhlkidlapmaaGreat
open Go.RowKit Go.Shelf



/-- Entries with one put in. -/
def putT (es : List Ent) (e : Ent) : List Ent := if thereE es e.path then es.set (placeE es e.path) e else insAt es e

/-- Whether an entry can be put. -/
def okPut (es : List Ent) (e : Ent) : Bool := entB e && (dirE es (pathUpS e.path) && (if thereE es e.path then (entFn es (placeE es e.path)).kind == e.kind else decide (es.length ≠ 16)))
def putL (es : List Ent) (e : Ent) : List Ent := if okPut es e then putT es e else es
theorem putL_no {es : List Ent} {e : Ent} (h : okPut es e = false) : putL es e = es := by unfold putL; rw [h]; rfl
theorem putL_ins {es : List Ent} {e : Ent} (h : okPut es e = true) (ht : thereE es e.path = false) : putL es e = insAt es e := by unfold putL putT; rw [h, ht]; rfl
theorem putL_set {es : List Ent} {e : Ent} (h : okPut es e = true) (ht : thereE es e.path = true) : putL es e = es.set (placeE es e.path) e := by unfold putL putT; rw [h, ht]; rfl

end Go.Proofs.YtoihhlkidlapmaaGreat
