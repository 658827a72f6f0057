/- Texts of this proof, one behind the other; each says at its head what it shows. -/
import Derived.Test.YtoihhlkidlapmaaGreatJoin6
import Derived.Test.YtoihhlkidlapmaaGreatJoin7
import Derived.Test.YtoihhlkidlapmaaGreatJoin1
import Derived.Test.YtoihhlkidlapmaaGreatJoin3
import Derived.Test.YtoihhlkidlapmaaGreatJoin2
import Derived.Lib.SliceRun
import Derived.Deep.RegionLaw
import Derived.Shelf.Spec.SlicesInsertGrow
/- Whether needs are ok, by the model and by the program. -/
namespace Go.Proofs.YtoihhlkidlapmaaGreat
open Go.RowKit Go.Shelf

def needOkD (d : needC.D) : Bool := needB (NeedD.name d).data.toList (NeedD.kind d) (NeedD.version d).data.toList
def smallN (ds : List needC.D) : Prop := ds.length ≤ 1048576 ∧ ∀ d ∈ ds, (NeedD.name d).size ≤ 1048576 ∧ (NeedD.version d).size ≤ 1048576
theorem le_maxLen {n : Nat} (h : n ≤ 1048576) : n ≤ maxLen := Nat.le_trans h (by simp [maxLen])
theorem all_take_next {α : Type} {p : α → Bool} {xs : List α} {k : Nat} {x : α} (hx : xs[k]? = some x) (h : (xs.take k).all p = true) (h2 : p x = true) : (xs.take (k + 1)).all p = true := by
  rw [List.take_add_one, hx, List.all_append, h]; simp [h2]
theorem all_no {α : Type} {p : α → Bool} {xs : List α} {k : Nat} {x : α} (hx : xs[k]? = some x) (h2 : p x = false) : xs.all p = false := by
  rw [List.all_eq_false]
  exact ⟨x, List.mem_of_getElem? hx, by simp [h2]⟩
theorem need_cells {W w : World} {b o : Nat} {ds : List needC.D} {k : Nat} {e : needC.D} (hB : Below w.heap.size w W) (hbl : b < w.heap.size) (hc : ∀ (i : Nat) d, ds[i]? = some d → ∃ cs, needC.at_ w cs d ∧ ∀ j c, cs[j]? = some c → w.cell? ⟨b, o + i * needC.n + j, none⟩ = some c) (he : ds[k]? = some e) :
    W.cell? ⟨b, o + k * 3, none⟩ = some (.string (NeedD.name e)) ∧ W.cell? ⟨b, o + k * 3 + 1, none⟩ = some (.int .i64 (NeedD.kind e)) ∧ W.cell? ⟨b, o + k * 3 + 2, none⟩ = some (.string (NeedD.version e)) := by
  obtain ⟨cs, hat, hcell⟩ := hc k e he
  obtain rfl := needC_at hat
  exact ⟨(hB.cell (p := ⟨b, o + k * 3 + 0, none⟩) hbl).trans (hcell 0 _ rfl), (hB.cell (p := ⟨b, o + k * 3 + 1, none⟩) hbl).trans (hcell 1 _ rfl), (hB.cell (p := ⟨b, o + k * 3 + 2, none⟩) hbl).trans (hcell 2 _ rfl)⟩

set_option maxRecDepth 100000 in
set_option maxHeartbeats 4000000 in
theorem l4Needs_any (ds : List needC.D) (v : Value) (w : World) (hs : smallN ds) (h : rowAt needC w v ds) :
    Calls Tryz.prog 250 #[v] w fun x w' => x = .returned (.bool (ds.all needOkD && decide (ds.length ≤ 6))) ∧ Below w.heap.size w w' := by
  obtain ⟨a, cap, rfl, -, -, h⟩ := h
  obtain ⟨hlen, hz⟩ := hs
  have HZ := hid hz
  have H := hid h
  clear hz h
  go_enter Tryz.func250, Tryz.ntmps250
  go_wp2_with fail
  go_loopw [3] (fun i wr => ∃ k : Nat, k ≤ ds.length ∧ i = .int .i64 (k : Int) ∧ Hid ((ds.take k).all needOkD = true) ∧ Hid (Below w.heap.size w wr)) (fun i _ => ds.length - (intOf i).toNat)
  case atStart => exact ⟨0, Nat.zero_le _, rfl, hid (by simp), hid (Below.refl _ _)⟩
  case round =>
    obtain ⟨k, hk, rfl, HA, HB⟩ := hrel
    by_cases hlt : k < ds.length
    · obtain ⟨e, he⟩ : ∃ e, ds[k]? = some e := ⟨ds[k], List.getElem?_eq_getElem hlt⟩
      obtain ⟨b, o, rfl, hbl, hc⟩ := (unhid H).resolve_left (by intro e; subst e; simp at hlt)
      obtain ⟨c0, c1, c2⟩ := need_cells (unhid HB) hbl hc he
      have HS := hid (unhid HZ e (List.mem_of_getElem? he))
      have HE := hid he
      clear hc he hbl
      go_wp2_with fail
      refine (specNeedOk_any (NeedD.name e) (NeedD.version e) (NeedD.kind e) (unhid HS).1 (unhid HS).2 _).mono ?_
      rintro x w2 ⟨rfl, hb⟩
      have HB2 := hid ((unhid HB).trans (hb.mono (unhid HB).size))
      clear hb c0 c1 c2
      cases hq : needB (NeedD.name e).data.toList (NeedD.kind e) (NeedD.version e).data.toList with
      | false =>
        go_wp2_with fail
        go_ret
        exact ⟨by rw [all_no (unhid HE) hq]; rfl, unhid HB2⟩
      | true =>
        have HQ := hid hq
        clear hq
        go_wp2_with fail
        go_roundw
        case rel => exact ⟨k + 1, by omega, by go_num, hid (all_take_next (unhid HE) (unhid HA) (unhid HQ)), HB2⟩
        case measure => simp [intOf]; omega
    · have e : k = ds.length := by omega
      subst e
      go_wp2_with fail
      go_ret
      refine ⟨?_, unhid HB⟩
      have := unhid HA
      rw [List.take_of_length_le (Nat.le_refl _)] at this
      rw [this]
      simp
      omega

set_option maxRecDepth 100000 in
set_option maxHeartbeats 4000000 in
theorem l7Needs_any (n : ByteArray) (ds : List needC.D) (v : Value) (w : World) (hs : smallN ds) (h : rowAt needC w v ds) :
    Calls Tryz.prog 189 #[.string n, v] w fun x w' => x = .returned (.bool ((ds.all needOkD && decide (ds.length ≤ 6)) && !twiceB (n :: namesN ds))) ∧ Below w.heap.size w w' := by
  have HR := hid h
  obtain ⟨a, cap, rfl, -, -, h⟩ := h
  have H := hid h
  have HSM := hid hs
  have hlen := hs.1
  clear h hs
  have HO := hid (show (w.alloc (.cells #[.string n] 9)).ownsRow w.heap.size 9 1 (.slice (some ⟨w.heap.size, 0, none⟩) 1 1) [n].length ([n].map Value.string) from ⟨rfl, .inr ⟨w.heap.size, 1, #[.string n], rfl, Nat.le_refl _, World.alloc_heap_new _ _, Nat.le_refl _, by simp [maxLen], rfl, rfl⟩⟩)
  have HB := hid (show Below w.heap.size w (w.alloc (.cells #[.string n] 9)) from (Below.refl _ w).alloc (Nat.le_refl _) _)
  go_enter Tryz.func189, Tryz.ntmps189
  go_wp2_with fail
  generalize w.alloc (.cells #[.string n] 9) = wa at HO HB ⊢
  go_loopw [5, 6] (fun s i wr => ∃ (k : Nat) (oa : Option Addr) (oc : Nat), k ≤ ds.length ∧ i = .int .i64 (k : Int) ∧ s = .slice oa (k + 1) oc ∧ Hid (wr.ownsRow w.heap.size 9 1 (.slice oa (k + 1) oc) (n :: (namesN ds).take k).length ((n :: (namesN ds).take k).map Value.string)) ∧ Hid (Below w.heap.size w wr)) (fun _ i _ => ds.length - (intOf i).toNat)
  case atStart => exact ⟨0, _, _, Nat.zero_le _, rfl, rfl, HO, HB⟩
  case round =>
    clear HO HB
    obtain ⟨k, oa, oc, hk, rfl, rfl, HO, HB⟩ := hrel
    by_cases hlt : k < ds.length
    · obtain ⟨e, he⟩ : ∃ e, ds[k]? = some e := ⟨ds[k], List.getElem?_eq_getElem hlt⟩
      obtain ⟨b, o, rfl, hbl, hc⟩ := (unhid H).resolve_left (by intro e; subst e; simp at hlt)
      obtain ⟨c0, c1, c2⟩ := need_cells (unhid HB) hbl hc he
      have HX := hid (namesN_get he)
      have HO2 := hid ((unhid HO).alloc (.cells #[.string (NeedD.name e)] 9))
      have HB2 := hid ((unhid HB).alloc (unhid HB).size (.cells #[.string (NeedD.name e)] 9))
      have HC2 := hid (cell_newN wr (.string (NeedD.name e)) 9)
      have hlo := hid (show ∀ j, (Value.slice oa (k + 1) oc).ownBlock = some j → w.heap.size ≤ j from fun j ej => ((unhid HO).lt j ej).1)
      have hkl : (n :: (namesN ds).take k).length ≤ 1048577 := by rw [List.length_cons, List.length_take]; omega
      have HKL := hid hkl
      have HSZ := hid (unhid HB2).size
      clear hc he hbl HO HB hkl c1 c2
      go_wp2_with (at_builtin; refine wp_name rfl _ _ rfl w.heap.size (.slice oa (k + 1) oc) (n :: (namesN ds).take k) (NeedD.name e) wr.heap.size rfl rfl (unhid HO2) (unhid HC2) (by have := unhid HKL; omega) (unhid HSZ) ?_)
      intro v' w4 hown hg
      have ho3 : w4.ownsRow w.heap.size 9 1 v' (n :: (namesN ds).take (k + 1)).length ((n :: (namesN ds).take (k + 1)).map Value.string) := by
        rw [take_next (unhid HX), ← List.cons_append]
        simpa using hown
      have HB3 := hid (grown_belowN (unhid HB2) hg (unhid hlo))
      obtain ⟨oa2, oc2, hv, -⟩ := ownsRow_txts ho3
      have hk1 : (n :: (namesN ds).take (k + 1)).length = k + 1 + 1 := by rw [List.length_cons, List.length_take, namesN_len]; omega
      rw [hk1] at hv
      subst hv
      have HO3 := hid ho3
      clear hown hg hlo HC2 HB2 HO2 HSZ HKL ho3 hk1 c0
      go_wp2_with fail
      go_roundw
      case rel => exact ⟨k + 1, oa2, oc2, by omega, by go_num, rfl, HO3, HB3⟩
      case measure => simp [intOf]; omega
    · have e : k = ds.length := by omega
      subst e
      have ho := unhid HO
      rw [List.take_of_length_le (by rw [namesN_len]; exact Nat.le_refl _)] at ho
      have hl2 : (n :: namesN ds).length = ds.length + 1 := by rw [List.length_cons, namesN_len]
      rw [hl2] at ho
      obtain ⟨a2, c2, e1, hat, -, -⟩ := ownsRow_txts (xs := n :: namesN ds) (by rw [hl2]; exact ho)
      rw [hl2] at e1
      injection e1 with e2 _ e3
      subst e2 e3
      have HAT := hid hat
      have HL2 := hid hl2
      clear ho hat HO hl2
      go_wp2_with fail
      refine (l4Needs_any ds _ _ (unhid HSM) ((unhid HR).below (unhid HB))).mono ?_
      rintro x w2 ⟨rfl, hb⟩
      have HB2 := hid ((unhid HB).trans (hb.mono (unhid HB).size))
      have HT := hid ((l4Twice_any (n :: namesN ds) oa oc w2 (by have := unhid HL2; unfold maxLen; omega) ((unhid HAT).below hb)))
      rw [unhid HL2] at HT
      clear hb HAT
      cases hq : (ds.all needOkD && decide (ds.length ≤ 6)) with
      | false =>
        go_wp2_with fail
        go_ret
        exact ⟨by rw [hq]; rfl, unhid HB2⟩
      | true =>
        go_wp2_with fail
        refine (unhid HT).mono ?_
        rintro x w3 ⟨rfl, hb⟩
        have HB3 := hid ((unhid HB2).trans (hb.mono (unhid HB2).size))
        clear hb HT
        go_wp2_with fail
        go_ret
        exact ⟨by rw [hq]; rfl, unhid HB3⟩

set_option maxRecDepth 100000 in
set_option maxHeartbeats 4000000 in
theorem listOkNeed_any (ds : List needC.D) (v : Value) (w : World) (hs : smallN ds) (h : rowAt needC w v ds) :
    Calls Tryz.prog 116 #[v, .int .i64 6, .func (.func 117) #[] #[]] w fun x w' => x = .returned (.bool (ds.all needOkD && decide (ds.length ≤ 6))) ∧ Below w.heap.size w w' := by
  obtain ⟨a, cap, rfl, -, -, h⟩ := h
  obtain ⟨hlen, hz⟩ := hs
  have HZ := hid hz
  have H := hid h
  clear hz h
  by_cases h6 : ds.length ≤ 6
  · have h6' : decide (ds.length ≤ 6) = true := decide_eq_true h6
    go_enter Tryz.func116, Tryz.ntmps116
    go_wp2_with fail
    go_loopw [15] (fun i wr => ∃ k : Nat, k ≤ ds.length ∧ i = .int .i64 (k : Int) ∧ Hid ((ds.take k).all needOkD = true) ∧ Hid (Below w.heap.size w wr)) (fun i _ => ds.length - (intOf i).toNat)
    case atStart => exact ⟨0, Nat.zero_le _, rfl, hid (by simp), hid (Below.refl _ _)⟩
    case round =>
      obtain ⟨k, hk, rfl, HA, HB⟩ := hrel
      by_cases hlt : k < ds.length
      · obtain ⟨e, he⟩ : ∃ e, ds[k]? = some e := ⟨ds[k], List.getElem?_eq_getElem hlt⟩
        obtain ⟨b, o, rfl, hbl, hc⟩ := (unhid H).resolve_left (by intro e; subst e; simp at hlt)
        obtain ⟨c0, c1, c2⟩ := need_cells (unhid HB) hbl hc he
        have HS := hid (unhid HZ e (List.mem_of_getElem? he))
        have HE := hid he
        have HBA := hid (show ∀ x, Below w.heap.size w (wr.alloc x) from fun x => (unhid HB).alloc (unhid HB).size x)
        clear hc he hbl HB
        go_wp2_with fail
        refine (NeedOk_any (NeedD.name e) (NeedD.version e) (NeedD.kind e) (le_maxLen (unhid HS).1) (le_maxLen (unhid HS).2) _).mono ?_
        rintro x w2 ⟨rfl, hb⟩
        have HB2 := hid ((unhid HBA _).trans (hb.mono (unhid HBA _).size))
        clear hb c0 c1 c2 HBA
        cases hq : needB (NeedD.name e).data.toList (NeedD.kind e) (NeedD.version e).data.toList with
        | false =>
          go_wp2_with fail
          go_ret
          exact ⟨by rw [all_no (unhid HE) hq]; rfl, unhid HB2⟩
        | true =>
          have HQ := hid hq
          clear hq
          go_wp2_with fail
          go_roundw
          case rel => exact ⟨k + 1, by omega, by go_num, hid (all_take_next (unhid HE) (unhid HA) (unhid HQ)), HB2⟩
          case measure => simp [intOf]; omega
      · have e : k = ds.length := by omega
        subst e
        go_wp2_with fail
        go_ret
        refine ⟨?_, unhid HB⟩
        have := unhid HA
        rw [List.take_of_length_le (Nat.le_refl _)] at this
        rw [this, h6']
        rfl
  · have h6' : decide (ds.length ≤ 6) = false := decide_eq_false h6
    go_enter Tryz.func116, Tryz.ntmps116
    go_wp2_with fail
    go_ret
    exact ⟨by rw [h6', Bool.and_false]; rfl, Below.refl _ _⟩
end Go.Proofs.YtoihhlkidlapmaaGreat

/- Entries, between the two words for them. -/
namespace Go.Proofs.YtoihhlkidlapmaaGreat
open Go.RowKit

def entD (d : entryC.D) : Ent := ⟨EntryD.path d, EntryD.kind d, EntryD.mode d, EntryD.text d⟩
def entsD (ds : List entryC.D) : List Ent := List.map (α := entryC.D) entD ds
theorem entsD_len (ds : List entryC.D) : (entsD ds).length = ds.length := by unfold entsD; exact List.length_map _
theorem entsD_at {W : World} {v : Value} {ds : List entryC.D} (h : rowAt entryC W v ds) : ∃ (a : Option Addr) (cap : Nat), v = .slice a (entsD ds).length cap ∧ (a = none → cap = 0) ∧ (entsD ds).length ≤ cap ∧ EntsAt W a (entsD ds) := by
  obtain ⟨a, cap, hv, hn, hc, h⟩ := h
  refine ⟨a, cap, by rw [entsD_len]; exact hv, hn, by rw [entsD_len]; exact hc, ?_⟩
  rcases h with rfl | ⟨b, o, ha, hl, hcell⟩
  · exact .inl rfl
  · refine .inr ⟨b, o, ha, hl, fun i e hi => ?_⟩
    unfold entsD at hi
    rw [List.getElem?_map] at hi
    cases hd : ds[i]? with
    | none => rw [hd] at hi; cases hi
    | some d =>
      rw [hd] at hi
      cases hi
      obtain ⟨cs, hat, hc⟩ := hcell i d hd
      obtain rfl := entryC_at hat
      exact ⟨hc 0 _ rfl, hc 1 _ rfl, hc 2 _ rfl, hc 3 _ rfl⟩
/-- Back. -/
def dEnt (e : Ent) : entryC.D := (⟨e.path, e.kind, e.mode, e.text⟩ : EntryD)
def dEnts (es : List Ent) : List entryC.D := List.map (β := entryC.D) dEnt es
theorem entsD_back (es : List Ent) : entsD (dEnts es) = es := by
  unfold entsD dEnts
  rw [List.map_map]
  exact List.map_id' es
end Go.Proofs.YtoihhlkidlapmaaGreat

/- For every row the program's TreeOk says whether it is a tree. -/
namespace Go.Proofs.YtoihhlkidlapmaaGreat
open Go.RowKit Go.Shelf

set_option maxRecDepth 100000 in
set_option maxHeartbeats 2000000 in
theorem treeOkP_any (es : List Ent) (a : Option Addr) (cap : Nat) (w : World) (hs : smallE es) (h : EntsAt w a es) :
    Calls Tryz.prog 46 #[.slice a es.length cap] w fun x w' => x = .returned (.bool (treeB es)) ∧ Below w.heap.size w w' := by
  have H := hid (treeOf_any es a cap w hs h)
  clear hs h
  go_enter Tryz.func46, Tryz.ntmps46
  go_wp2_with (go_at_call 81; refine (unhid H).mono ?_; rintro x w1 ⟨vp, vn, rfl, ⟨t2, t3⟩, hB⟩; obtain ⟨ap, cp, rfl⟩ := ownsRow_slice t2; obtain ⟨an, cn, rfl⟩ := ownsRow_slice t3; clear t2 t3)
  go_ret
  exact ⟨rfl, hB.alloc hB.size _⟩
end Go.Proofs.YtoihhlkidlapmaaGreat

/- A region that draws its order, over a class of worlds that need not hold behind its last operation (a store). -/
namespace Go.Proofs.YtoihhlkidlapmaaGreat
open Go.RowKit

/-- Whatever order is picked from here on, and S holds behind every operation but number kl. -/
def wpAnyE (kl : Nat) (P : Program) (md : Region.Mode) (ops : Array Oper) (Q : Exit → Act → World → Prop) (S : World → Prop) : Nat → Array Bool → Act → World → Prop
  | 0, listed, a, w => Region.ready md ops listed = [] ∧ Q .normal a w
  | fuel + 1, listed, a, w =>
    (Region.ready md ops listed = [] → Q .normal a w) ∧
    ∀ i ∈ Region.ready md ops listed, wpOp P ops Q i (fun a' w' => (i ≠ kl → S w') ∧ wpAnyE kl P md ops Q S fuel (listed.setIfInBounds i true) a' w') a w
/-- Whether number kl waits for number i. -/
def waitsB (md : Region.Mode) (ops : Array Oper) (kl i : Nat) : Bool := ((ops[kl]?).map fun o => o.after.toList.any fun e => Region.binds md e && (e.on == i)).getD false
theorem waits_not {md : Region.Mode} {ops : Array Oper} {kl i : Nat} {listed : Array Bool} (h : waitsB md ops kl i = true) (hi : i ∈ Region.ready md ops listed) : kl ∉ Region.ready md ops listed := by
  intro hk
  obtain ⟨_, o, ho, hall⟩ := mem_ready.1 hk
  unfold waitsB at h
  rw [ho] at h
  simp only [Option.map_some, Option.getD_some, List.any_eq_true, Bool.and_eq_true, beq_iff_eq] at h
  obtain ⟨e, he, hb, rfl⟩ := h
  have h1 := hall e (by simpa using he) hb
  have h0 := (mem_ready.1 hi).1
  rcases Nat.lt_or_ge e.on listed.size with h' | h'
  · simp [h'] at h0 h1; rw [h0] at h1; cases h1
  · simp [Array.getElem?_eq_none h'] at h1
theorem wpAny_of_heldE {kl : Nat} {P : Program} {ops : Array Oper} {Q : Exit → Act → World → Prop} {md : Region.Mode} {S : World → Prop} : ∀ (fuel : Nat) (listed : Array Bool) (a : Act) (w : World), wpAnyE kl P md ops Q S fuel listed a w → wpAny P md ops Q fuel listed a w
  | 0, _, _, _, h => h
  | fuel + 1, _, _, _, h => ⟨h.1, fun i hi => wpOp_mono (fun a' w' h' => wpAny_of_heldE fuel _ a' w' h'.2) (h.2 i hi)⟩
theorem wpAnyE_first {kl : Nat} {P : Program} {ops : Array Oper} {Q : Exit → Act → World → Prop} {md : Region.Mode} {S : World → Prop} {i : Nat} {oi : Oper} {v : Value} (hi : ops[i]? = some oi) (hsel : ∀ (j : Nat) (o : Oper) cs b, ops[j]? = some o → o.op ≠ .select cs b)
    (hQ : ∀ c a w, Q (.panic c) (a.put oi.dst v) w → Q (.panic c) a w) (hkl : waitsB md ops kl i = true) :
    ∀ (fuel : Nat) (listed : Array Bool) (a : Act) (w : World),
      (∀ j oj, ops[j]? = some oj → j ≠ i → listed.getD j true = false → (∀ e ∈ oj.after, Region.binds md e = true → e.on ≠ i) → oi.apart ops oj = true) →
      i ∈ Region.ready md ops listed → YieldsIf P ops S oi v a → S w →
      wpAnyE kl P md ops Q S fuel (listed.setIfInBounds i true) (a.put oi.dst v) w → wpAnyE kl P md ops Q S (fuel + 1) listed a w := by
  intro fuel
  induction fuel with
  | zero =>
    intro listed a w _ hr hy hS H
    refine ⟨fun h => (by rw [h] at hr; cases hr), fun j hj => ?_⟩
    by_cases hji : j = i
    · subst hji; exact hy.wpOp hi hS ⟨fun _ => hS, H⟩
    · have := ready_mono hj hji
      rw [H.1] at this
      cases this
  | succ fuel ih =>
    intro listed a w hfree hr hy hS H
    refine ⟨fun h => (by rw [h] at hr; cases hr), fun j hj => ?_⟩
    by_cases hji : j = i
    · subst hji; exact hy.wpOp hi hS ⟨fun _ => hS, H⟩
    · have hjk : j ≠ kl := fun e => waits_not hkl hr (e ▸ hj)
      have h1 := H.2 j (ready_mono hj hji)
      obtain ⟨hjun, oj, hoj, hall⟩ := mem_ready.1 hj
      have hnot : ∀ e ∈ oj.after, Region.binds md e = true → e.on ≠ i := fun e he hb heq => by
        have h1 := hall e he hb
        have h0 := (mem_ready.1 hr).1
        rw [heq] at h1
        rcases Nat.lt_or_ge i listed.size with h' | h'
        · simp [h'] at h0 h1; rw [h0] at h1; cases h1
        · simp [Array.getElem?_eq_none h'] at h1
      have h2 := wpOp_putIf hoj (hfree j oj hoj hji hjun hnot) (fun cs b => hsel i oi cs b hi) (fun cs b => hsel j oj cs b hoj) hQ hy h1
      have hfree' : ∀ k ok, ops[k]? = some ok → k ≠ i → (listed.setIfInBounds j true).getD k true = false →
          (∀ e ∈ ok.after, Region.binds md e = true → e.on ≠ i) → oi.apart ops ok = true := fun k ok hk hki hun hno => by
        refine hfree k ok hk hki ?_ hno
        by_cases hjk : j = k
        · subst hjk; exact hjun
        · rw [getD_set_ne true hjk] at hun; exact hun
      refine wpOp_mono (fun a' w' h3 => ⟨fun _ => h3.2.1 hjk, ih (listed.setIfInBounds j true) a' w' hfree' (ready_mono hr (Ne.symm hji)) h3.1 (h3.2.1 hjk) ?_⟩) h2
      rw [Array.setIfInBounds_comm _ _ hji]
      exact h3.2.2
theorem wpAnyE_take {kl : Nat} {P : Program} {ops : Array Oper} {Q : Exit → Act → World → Prop} {md : Region.Mode} {S : World → Prop} {i : Nat} {oi : Oper} {v : Value} {fuel : Nat} {listed : Array Bool} {a : Act} {w : World} (hi : ops[i]? = some oi)
    (hs : Region.noSelect ops = true) (hf : Region.free md ops listed i = true) (hr : (Region.ready md ops listed).contains i = true) (hkl : waitsB md ops kl i = true)
    (hQ : ∀ c a w, Q (.panic c) (a.put oi.dst v) w → Q (.panic c) a w) (hy : YieldsIf P ops S oi v a) (hS : S w)
    (h : wpAnyE kl P md ops Q S fuel (listed.setIfInBounds i true) (a.put oi.dst v) w) : wpAnyE kl P md ops Q S (fuel + 1) listed a w :=
  wpAnyE_first hi (Region.noSelect_spec hs) hQ hkl fuel listed a w (Region.free_spec hi hf) (by simpa using hr) hy hS h
/-- Whether the operations of a list may be taken first, one behind the other. -/
def heldEB (kl : Nat) (md : Region.Mode) (ops : Array Oper) : List Nat → Array Bool → Bool
  | [], _ => true
  | i :: is, listed => (Region.ready md ops listed).contains i && Region.free md ops listed i && ((ops[i]?).map plainOp).getD false && waitsB md ops kl i && heldEB kl md ops is (listed.setIfInBounds i true)
theorem heldE_same {kl : Nat} {P : Program} {md : Region.Mode} {ops : Array Oper} {Q : Exit → Act → World → Prop} {S : World → Prop} (hs : Region.noSelect ops = true) (hQ : ∀ c a t v w, Q (.panic c) (Act.put a (some t) v) w → Q (.panic c) a w) (fuel : Nat) : ∀ (is : List Nat) (l : List Oper) (listed : Array Bool) (a : Act) (w : World), is.map (fun i => ops[i]?) = l.map some → heldEB kl md ops is listed = true → S w →
    wpQuiet P ops S (fun a' => wpAnyE kl P md ops Q S fuel (markAll is listed) a' w) l a → wpAnyE kl P md ops Q S (is.length + fuel) listed a w
  | [], [], listed, a, w, _, _, _, h => by rw [List.length_nil, Nat.zero_add]; exact h
  | [], _ :: _, _, _, _, e, _, _, _ => by cases e
  | _ :: _, [], _, _, _, e, _, _, _ => by cases e
  | i :: is, o :: l, listed, a, w, e, hB, hS, h => by
    simp only [List.map_cons, List.cons.injEq] at e
    simp only [heldEB, Bool.and_eq_true] at hB
    obtain ⟨⟨⟨⟨h1, h2⟩, h3⟩, h5⟩, h4⟩ := hB
    rw [e.1] at h3
    obtain ⟨v, hy, hK⟩ := yieldsIf_quiet (by simpa using h3) h
    rw [show (i :: is).length + fuel = (is.length + fuel) + 1 by simp; omega]
    exact wpAnyE_take e.1 hs h2 h1 h5 (fun c a w hq => by cases hd : o.dst with | none => rw [hd] at hq; exact hq | some t => rw [hd] at hq; exact hQ _ _ _ _ _ hq) hy hS (heldE_same hs hQ fuel is l _ _ w e.2 h4 hS hK)
/-- The beginning. -/
theorem heldE_begin {P : Program} {id : Nat} {Q : Exit → Act → World → Prop} {a : Act} {w : World} {l : List Oper} (kl : Nat) (C : World → Prop) (hm : P.follows .mixedOrders = true)
    (h : wpAnyE kl P .any l.toArray Q (fun w' => ∃ x : CW C, w' = x.w) l.length (Array.replicate l.length false) a w.drew) : (Code.region id l.toArray true).wp P Q a w :=
  wp_region_any hm (wpAny_of_heldE _ _ _ _ (by simpa using h))
theorem heldE_here {kl : Nat} {P : Program} {md : Region.Mode} {Q : Exit → Act → World → Prop} {C : World → Prop} {F : Nat} {listed : Array Bool} {a : Act} {w : World} {l : List Oper} (m : List Bool) (hs : Region.noSelect l.toArray = true) (hB : (decide (m.length ≤ l.length) && decide ((maskIx 0 m).length ≤ F) && heldEB kl md l.toArray (maskIx 0 m) listed) = true) (hQ : ∀ c a t v w, Q (.panic c) (Act.put a (some t) v) w → Q (.panic c) a w) (hC : C w)
    (h : wpQuiet P l.toArray (fun w' => ∃ x : CW C, w' = x.w) (fun a' => wpAnyE kl P md l.toArray Q (fun w' => ∃ x : CW C, w' = x.w) (F - (maskIx 0 m).length) (markAll (maskIx 0 m) listed) a' w) (pick l m) a) :
    wpAnyE kl P md l.toArray Q (fun w' => ∃ x : CW C, w' = x.w) F listed a w := by
  simp only [Bool.and_eq_true, decide_eq_true_eq] at hB
  obtain ⟨⟨h1, h2⟩, h3⟩ := hB
  have := heldE_same (P := P) (md := md) (Q := Q) (S := fun w' => ∃ x : CW C, w' = x.w) hs hQ (F - (maskIx 0 m).length) (maskIx 0 m) (pick l m) listed a w (pick_ix l l m 0 h1 (by simp)) h3 ⟨⟨w, hC⟩, rfl⟩ h
  rwa [show (maskIx 0 m).length + (F - (maskIx 0 m).length) = F by omega] at this
def AllReadyE (kl : Nat) (P : Program) (md : Region.Mode) (ops : Array Oper) (Q : Exit → Act → World → Prop) (C : World → Prop) (F : Nat) (listed : Array Bool) (a : Act) (w : World) (rs : List Nat) : Prop :=
  ∀ i ∈ rs, wpOp P ops Q i (fun a' w' => (i ≠ kl → ∃ x : CW C, w' = x.w) ∧ wpAnyE kl P md ops Q (fun w' => ∃ x : CW C, w' = x.w) F (listed.setIfInBounds i true) a' w') a w
theorem AllReadyE.cons {kl : Nat} {P : Program} {md : Region.Mode} {ops : Array Oper} {Q : Exit → Act → World → Prop} {C : World → Prop} {F : Nat} {listed : Array Bool} {a : Act} {w : World} {o : Oper} {k : Nat} {rs : List Nat} (ho : ops[k]? = some o)
    (h : ∀ K' : Act → World → Prop, Shut (∀ a w, (k ≠ kl → C w) → wpAnyE kl P md ops Q (fun w' => ∃ x : CW C, w' = x.w) F (listed.setIfInBounds k true) a w → K' a w) → if Region.wanted o (yielded ops a.tmps) = true then Oper.wp P o a w K' Q else K' (a.put o.dst undef) w)
    (hs : AllReadyE kl P md ops Q C F listed a w rs) : AllReadyE kl P md ops Q C F listed a w (k :: rs) := fun j hj => by
  rcases List.mem_cons.1 hj with rfl | hj
  · exact wpOp_step ho (fun K' hK => h K' (fun a w hS hW => hK a w ⟨fun hne => ⟨⟨w, hS hne⟩, rfl⟩, hW⟩))
  · exact hs j hj
theorem heldE_ready {kl : Nat} {P : Program} {md : Region.Mode} {ops : Array Oper} {Q : Exit → Act → World → Prop} {C : World → Prop} {F : Nat} {listed : Array Bool} {a : Act} {w : World} (rs : List Nat) (hr : Region.ready md ops listed = rs) (hne : rs ≠ []) (hF : decide (0 < F) = true)
    (h : AllReadyE kl P md ops Q C (F - 1) listed a w rs) : wpAnyE kl P md ops Q (fun w' => ∃ x : CW C, w' = x.w) F listed a w := by
  have hF' : F = (F - 1) + 1 := by simp only [decide_eq_true_eq] at hF; omega
  rw [hF']
  exact ⟨fun h0 => absurd (hr ▸ h0) hne, fun i hi => h i (hr ▸ hi)⟩
/-- One operation comes up. -/
theorem heldE_op {kl : Nat} {P : Program} {md : Region.Mode} {ops : Array Oper} {Q : Exit → Act → World → Prop} {C : World → Prop} {F : Nat} {listed : Array Bool} {a : Act} {w : World} {o : Oper} (k : Nat) (hr : Region.ready md ops listed = [k]) (hF : decide (0 < F) = true) (ho : ops[k]? = some o)
    (h : ∀ K' : Act → World → Prop, Shut (∀ a w, C w → wpAnyE kl P md ops Q (fun w' => ∃ x : CW C, w' = x.w) (F - 1) (listed.setIfInBounds k true) a w → K' a w) → if Region.wanted o (yielded ops a.tmps) = true then Oper.wp P o a w K' Q else K' (a.put o.dst undef) w) :
    wpAnyE kl P md ops Q (fun w' => ∃ x : CW C, w' = x.w) F listed a w :=
  heldE_ready [k] hr (by simp) hF (AllReadyE.cons ho (fun K' hK => h K' (fun a w hc hw => hK.out a w (fun _ => hc) hw)) (fun j hj => by cases hj))
/-- The last one. -/
theorem heldE_last {kl : Nat} {P : Program} {md : Region.Mode} {ops : Array Oper} {Q : Exit → Act → World → Prop} {C : World → Prop} {F : Nat} {listed : Array Bool} {a : Act} {w : World} {o : Oper} (hr : Region.ready md ops listed = [kl]) (hF : decide (0 < F) = true) (ho : ops[kl]? = some o)
    (h : ∀ K' : Act → World → Prop, Shut (∀ a w, wpAnyE kl P md ops Q (fun w' => ∃ x : CW C, w' = x.w) (F - 1) (listed.setIfInBounds kl true) a w → K' a w) → if Region.wanted o (yielded ops a.tmps) = true then Oper.wp P o a w K' Q else K' (a.put o.dst undef) w) :
    wpAnyE kl P md ops Q (fun w' => ∃ x : CW C, w' = x.w) F listed a w :=
  heldE_ready [kl] hr (by simp) hF (AllReadyE.cons ho (fun K' hK => h K' (fun a w hw => hK.out a w (fun hne => absurd rfl hne) hw)) (fun j hj => by cases hj))
/-- A function is called (in either theory). -/
theorem call_op {P : Program} {ops : Array Oper} {Q : Exit → Act → World → Prop} {K : Act → World → Prop} {a : Act} {w : World} {o : Oper} {args : Array Operand} {ty : Array TypeId} (f d : Nat) (he : ∀ args w, (callFunc f args).run P w = .ok (.enter f args) w) (av : Array Value)
    (hop : o.op = .call ⟨.value (.func f), args, ty⟩) (hw : Region.wanted o (yielded ops a.tmps) = true) (hd : o.dst = some d) (hav : args.toList.map a.eval = av.toList)
    (h : Calls P f av w fun e w' => ∃ v, e = .returned v ∧ K (a.put (some d) v) w') : if Region.wanted o (yielded ops a.tmps) = true then Oper.wp P o a w K Q else K (a.put o.dst undef) w := by
  rw [if_pos hw]
  have hav : args.map a.eval = av := by apply Array.ext'; rw [Array.toList_map]; exact hav
  have hx : (execOp a.eval o).run P w = .ok (.enter f av) w := by
    unfold execOp
    rw [hop]
    simp [resolve, Deferred.ofValue, invoke, he, hav, Act.eval]
  unfold Oper.wp
  rw [hx]
  refine Calls.mono h ?_
  rintro e w' ⟨v, rfl, hn⟩
  show K (a.put o.dst v) w'
  rw [hd]
  exact hn
theorem heldE_done {kl : Nat} {P : Program} {md : Region.Mode} {ops : Array Oper} {Q : Exit → Act → World → Prop} {S : World → Prop} {F : Nat} {listed : Array Bool} {a : Act} {w : World} (hr : Region.ready md ops listed = []) (h : Q .normal a w) : wpAnyE kl P md ops Q S F listed a w := by
  cases F with
  | zero => exact ⟨hr, h⟩
  | succ F => exact ⟨fun _ => h, by rw [hr]; simp⟩
end Go.Proofs.YtoihhlkidlapmaaGreat

/- Whether a pack is ok. -/
namespace Go.Proofs.YtoihhlkidlapmaaGreat
open Go.RowKit Go.Shelf

def pkOk (p : PackD) : Bool := packB p.name.data.toList && versOk p.version.data.toList && ((p.needs.all needOkD && decide (p.needs.length ≤ 6)) && !twiceB (p.name :: namesN p.needs)) && treeB (entsD p.tree)
structure smallP (p : PackD) : Prop where
  name : p.name.size ≤ 1048576
  version : p.version.size ≤ 1048576
  needs : smallN p.needs
  tree : smallE (entsD p.tree)
theorem twice_swap (n : ByteArray) (xs : List ByteArray) : twiceB (xs ++ [n]) = twiceB (n :: xs) := by
  unfold twiceB
  rw [show decide (xs ++ [n]).Nodup = decide (n :: xs).Nodup from decide_eq_decide.2 (List.perm_append_comm (l₁ := xs) (l₂ := [n])).nodup_iff]

set_option maxRecDepth 100000 in
set_option maxHeartbeats 4000000 in
theorem specPackOk_any (p : PackD) (cs : List Value) (w : World) (hs : smallP p) (h : packC.at_ w cs p) :
    Calls Tryz.prog 122 #[.agg cs.toArray] w fun x w' => x = .returned (.bool (pkOk p)) ∧ Below w.heap.size w w' := by
  obtain ⟨v2, v3, rfl, h2, h3⟩ := packC_at h
  obtain ⟨name, version, needs, tree⟩ := p
  obtain ⟨hsn, hsv, hsd, hst⟩ := hs
  dsimp only at *
  have H2 := hid h2
  obtain ⟨ta, tc, rfl, htn, htc, hte⟩ := entsD_at h3
  have H3 := hid hte
  have SN := hid hsn
  have SV := hid hsv
  have SD := hid hsd
  have ST := hid hst
  have EQ := hid (show pkOk ⟨name, version, needs, tree⟩ = (packB name.data.toList && versOk version.data.toList && ((needs.all needOkD && decide (needs.length ≤ 6)) && !twiceB (name :: namesN needs)) && treeB (entsD tree)) from rfl)
  clear h h2 h3 hsn hsv hsd hst htn htc hte
  go_enter Tryz.func122, Tryz.ntmps122
  go_wp2_with fail
  have hP := World.alloc_heap_new w (.cells #[.string name, .string version, v2, .slice ta (entsD tree).length tc] 34)
  have hB : Below w.heap.size w (w.alloc (.cells #[.string name, .string version, v2, .slice ta (entsD tree).length tc] 34)) := (Below.refl _ w).alloc (Nat.le_refl _) _
  have hS : w.heap.size < (w.alloc (.cells #[.string name, .string version, v2, .slice ta (entsD tree).length tc] 34)).heap.size := by simp
  generalize w.alloc (.cells #[.string name, .string version, v2, .slice ta (entsD tree).length tc] 34) = W0 at hP hB hS ⊢
  have HB := hid hB
  have JP := hid hP
  have JS := hid hS
  clear hB hP hS
  refine (l3Pack_any name (le_maxLen (unhid SN)) W0).mono ?_
  rintro x w1 ⟨rfl, hw⟩
  subst hw
  obtain c1 := cell_arrS (unhid JP) 1 _ rfl
  cases q1 : packB name.data.toList with
  | false =>
    go_wp2_with fail
    go_ret
    exact ⟨by rw [unhid EQ, q1]; rfl, unhid HB⟩
  | true =>
  go_wp2_with fail
  clear c1
  refine (specVersionOk_any version (unhid SV) _).mono ?_
  rintro x w2 ⟨rfl, hb⟩
  have HB2 := hid ((unhid HB).trans (hb.mono (unhid HB).size))
  have JP2 := hid ((hb.block _ (unhid JS)).trans (unhid JP))
  have JS2 := hid (Nat.lt_of_lt_of_le (unhid JS) hb.size)
  clear hb HB JP JS
  obtain c0 := cell_arrS (unhid JP2) 0 _ rfl
  obtain c2 := cell_arrS (unhid JP2) 2 _ rfl
  cases q2 : versOk version.data.toList with
  | false =>
    go_wp2_with fail
    go_ret
    exact ⟨by rw [unhid EQ, q1, q2]; rfl, unhid HB2⟩
  | true =>
  go_wp2_with fail
  clear c0 c2
  refine (l7Needs_any name needs v2 _ (unhid SD) ((unhid H2).below (unhid HB2))).mono ?_
  rintro x w3 ⟨rfl, hb⟩
  have HB3 := hid ((unhid HB2).trans (hb.mono (unhid HB2).size))
  have JP3 := hid ((hb.block _ (unhid JS2)).trans (unhid JP2))
  clear hb HB2 JP2 JS2
  obtain c3 := cell_arrS (unhid JP3) 3 _ rfl
  cases q3 : ((needs.all needOkD && decide (needs.length ≤ 6)) && !twiceB (name :: namesN needs)) with
  | false =>
    go_wp2_with fail
    go_ret
    exact ⟨by rw [unhid EQ, q1, q2, q3]; rfl, unhid HB3⟩
  | true =>
  go_wp2_with fail
  clear c3
  refine (specTreeOk_any (entsD tree) ta tc _ (unhid ST) ((unhid H3).below (unhid HB3))).mono ?_
  rintro x w4 ⟨rfl, hb⟩
  have HB4 := hid ((unhid HB3).trans (hb.mono (unhid HB3).size))
  clear hb HB3
  go_wp2_with fail
  go_ret
  exact ⟨by rw [unhid EQ, q1, q2, q3]; rfl, unhid HB4⟩

set_option maxRecDepth 100000 in
set_option maxHeartbeats 4000000 in
theorem packOk_any (p : PackD) (cs : List Value) (w : World) (hs : smallP p) (h : packC.at_ w cs p) :
    Calls Tryz.prog 60 #[.agg cs.toArray] w fun x w' => x = .returned (.bool (pkOk p)) ∧ Below w.heap.size w w' := by
  obtain ⟨v2, v3, rfl, h2, h3⟩ := packC_at h
  obtain ⟨name, version, needs, tree⟩ := p
  obtain ⟨hsn, hsv, hsd, hst⟩ := hs
  dsimp only at *
  have H2 := hid h2
  obtain ⟨ta, tc, rfl, htn, htc, hte⟩ := entsD_at h3
  obtain ⟨na, nc, rfl, -, -, -⟩ := h2
  have H3 := hid hte
  have SN := hid hsn
  have SV := hid hsv
  have SD := hid hsd
  have ST := hid hst
  have EQ := hid (show pkOk ⟨name, version, needs, tree⟩ = (packB name.data.toList && versOk version.data.toList && ((needs.all needOkD && decide (needs.length ≤ 6)) && !twiceB (name :: namesN needs)) && treeB (entsD tree)) from rfl)
  clear h h3 hsn hsv hsd hst htn htc hte
  go_enter Tryz.func60, Tryz.ntmps60
  go_wp2_with fail
  have hP := World.alloc_heap_new w (.cells #[.string name, .string version, .slice na needs.length nc, .slice ta (entsD tree).length tc] 34)
  have hB : Below w.heap.size w (w.alloc (.cells #[.string name, .string version, .slice na needs.length nc, .slice ta (entsD tree).length tc] 34)) := (Below.refl _ w).alloc (Nat.le_refl _) _
  have hS : w.heap.size < (w.alloc (.cells #[.string name, .string version, .slice na needs.length nc, .slice ta (entsD tree).length tc] 34)).heap.size := by simp
  generalize w.alloc (.cells #[.string name, .string version, .slice na needs.length nc, .slice ta (entsD tree).length tc] 34) = W0 at hP hB hS ⊢
  have HB := hid hB
  have JP := hid hP
  have JS := hid hS
  clear hB hP hS
  have g0 : ∀ x : CW (fun w' => Below W0.heap.size W0 w'), x.w.cell? ⟨w.heap.size, 0, none⟩ = some (.string name) := fun x => cell_arrS ((x.h.block _ (unhid JS)).trans (unhid JP)) 0 _ rfl
  have g2 : ∀ x : CW (fun w' => Below W0.heap.size W0 w'), x.w.cell? ⟨w.heap.size, 2, none⟩ = some (.slice na needs.length nc) := fun x => cell_arrS ((x.h.block _ (unhid JS)).trans (unhid JP)) 2 _ rfl
  have hba : ∀ {q : Prop}, (CW (fun w' => Below W0.heap.size W0 w') → q) ↔ q := CW.all (Below.refl _ W0)
  refine held_begin (fun w' => Below W0.heap.size W0 w') (by kernel_rfl) (drew_belowS _) ?_
  refine held_here [true, true, false, true, true] (by kernel_rfl) (by kernel_rfl) (fun _ _ _ _ _ h => h) (drew_belowS _) ?_
  dsimp only [pick]
  repeat (go_big_quiet_step (fail))
  refine wpQuiet_nil ?_
  clear hba g0 g2
  have hD := drew_belowS (B := W0.heap.size) W0
  generalize W0.drew = W1 at hD ⊢
  have HD := hid hD
  clear hD
  have HLT := hid (show w.heap.size < W0.heap.size from unhid JS)
  refine held_op2 2 5 (by kernel_rfl) (by kernel_rfl) rfl rfl (fun K hK => ?_) (fun K hK => ?_)
  · refine call_op 112 6 (enters_of Tryz.func112 (by kernel_rfl) rfl) #[.slice na needs.length nc, .func (.func 113) #[] #[]] rfl rfl rfl rfl ?_
    have H2b := hid (((unhid H2).below (unhid HB)).below ((unhid HD).mono (Nat.le_refl _)))
    refine (namesOfNeed_any needs _ W1 (unhid SD).1 (unhid H2b)).mono ?_
    rintro e W2 ⟨u, rfl, hown, hb⟩
    have hD2 : Below W0.heap.size W0 W2 := (unhid HD).trans (hb.mono (unhid HD).size)
    obtain ⟨ua, uc, hu, -, -, -⟩ := ownsRow_txts hown
    subst hu
    refine ⟨_, rfl, hK.out _ _ hD2 ?_⟩
    clear hK K
    simp only [Act.put, List.setIfInBounds_toArray, List.set_cons_zero, List.set_cons_succ]
    have ho2 := ownsRow_lowerS hown (unhid HD).size
    clear hown hb HD
    refine held_op 5 (by kernel_rfl) (by kernel_rfl) rfl (fun K hK => ?_)
    go_simp
    have HD2 := hid (hD2.alloc hD2.size (.cells #[.string name] 9))
    refine hK.out _ _ (unhid HD2) ?_
    clear hK K
    have HO := hid (ho2.alloc (.cells #[.string name] 9))
    have HC := hid (cell_newN W2 (.string name) 9)
    clear ho2 hD2
    generalize W2.alloc (.cells #[.string name] 9) = W3 at HD2 HO HC ⊢
    generalize W2.heap.size = gx at HC ⊢
    -- the names are one row
    refine held_name 6 10 W0.heap.size (.slice ua (namesN needs).length uc) (namesN needs) name gx (by kernel_rfl) (by kernel_rfl) rfl rfl rfl rfl rfl rfl (unhid HO) (unhid HC) (by have := (unhid SD).1; rw [namesN_len]; omega) (unhid HD2).size ?_
    intro v' W5 hown hg
    have hD5 : Below W0.heap.size W0 W5 := grown_belowN (unhid HD2) hg (fun j ej => ((unhid HO).lt j ej).1)
    refine ⟨hD5, ?_⟩
    simp only [Act.put, List.setIfInBounds_toArray, List.set_cons_zero, List.set_cons_succ]
    have HO5 := hid hown
    have HD5 := hid hD5
    clear hown hg HO HC HD2 hD5
    have hba : ∀ {q : Prop}, (CW (fun w' => Below W0.heap.size W0 w') → q) ↔ q := CW.all (Below.refl _ W0)
    refine held_here [false, false, false, false, false, false, false, true] (by kernel_rfl) (by kernel_rfl) (fun _ _ _ _ _ h => h) (unhid HD5) ?_
    dsimp only [pick]
    repeat (go_big_quiet_step (fail))
    refine wpQuiet_nil ?_
    refine held_done (by kernel_rfl) ?_
    clear hba
    obtain ⟨va, vc, hv, -, -, -⟩ := ownsRow_txts (unhid HO5)
    subst hv
    have HNM := hid (twice_swap name (namesN needs))
    have HNL := hid (show (namesN needs ++ [name]).length = needs.length + 1 by rw [List.length_append, namesN_len]; rfl)
    generalize namesN needs ++ [name] = nm at *
    have HB5 := hid ((unhid HB).trans ((unhid HD5).mono (unhid HB).size))
    have JP5 := hid (((unhid HD5).block _ (unhid JS)).trans (unhid JP))
    have JS5 := hid (Nat.lt_of_lt_of_le (unhid JS) (unhid HD5).size)
    have HN5 := hid (unhid HB).size
    clear HD5 HB JP JS H2b
    have c0 := cell_arrS (unhid JP5) 0 _ rfl
    go_wp2_with fail
    clear c0
    refine (packNameOk_any name (le_maxLen (unhid SN)) _).mono ?_
    rintro x w1 ⟨rfl, hb⟩
    have HB6 := hid ((unhid HB5).trans (hb.mono (unhid HB5).size))
    have JP6 := hid ((hb.block _ (unhid JS5)).trans (unhid JP5))
    have JS6 := hid (Nat.lt_of_lt_of_le (unhid JS5) hb.size)
    have HO6 := hid (ownsRow_belowS (unhid HO5) hb)
    clear hb HB5 JP5 JS5 HO5
    have c1 := cell_arrS (unhid JP6) 1 _ rfl
    cases q1 : packB name.data.toList with
    | false =>
      go_wp2_with fail
      go_ret
      exact ⟨by rw [unhid EQ, q1]; rfl, unhid HB6⟩
    | true =>
    go_wp2_with fail
    clear c1
    refine (VersionOk_any version (le_maxLen (unhid SV)) _).mono ?_
    rintro x w2 ⟨rfl, hb⟩
    have HB7 := hid ((unhid HB6).trans (hb.mono (unhid HB6).size))
    have JP7 := hid ((hb.block _ (unhid JS6)).trans (unhid JP6))
    have JS7 := hid (Nat.lt_of_lt_of_le (unhid JS6) hb.size)
    have HO7 := hid (ownsRow_belowS (unhid HO6) hb)
    clear hb HB6 JP6 JS6 HO6
    have c2 := cell_arrS (unhid JP7) 2 _ rfl
    cases q2 : versOk version.data.toList with
    | false =>
      go_wp2_with fail
      go_ret
      exact ⟨by rw [unhid EQ, q1, q2]; rfl, unhid HB7⟩
    | true =>
    go_wp2_with fail
    clear c2
    refine (listOkNeed_any needs _ _ (unhid SD) ((unhid H2).below (unhid HB7))).mono ?_
    rintro x w3 ⟨rfl, hb⟩
    have HB8 := hid ((unhid HB7).trans (hb.mono (unhid HB7).size))
    have JP8 := hid ((hb.block _ (unhid JS7)).trans (unhid JP7))
    have JS8 := hid (Nat.lt_of_lt_of_le (unhid JS7) hb.size)
    have HO8 := hid (ownsRow_belowS (unhid HO7) hb)
    clear hb HB7 JP7 JS7 HO7
    cases q3 : (needs.all needOkD && decide (needs.length ≤ 6)) with
    | false =>
      go_wp2_with fail
      go_ret
      exact ⟨by rw [unhid EQ, q1, q2, q3]; rfl, unhid HB8⟩
    | true =>
    have hnl : needs.length ≤ 6 := by
      rw [Bool.and_eq_true] at q3
      exact of_decide_eq_true q3.2
    have hnn : nm.length ≤ 4294967296 := by rw [unhid HNL]; omega
    have HT := hid (anyTwice_any nm _ W0.heap.size w3 hnn (unhid HO8))
    have hlo := hid (show ∀ j, (Value.slice va nm.length vc).ownBlock = some j → W0.heap.size ≤ j from fun j ej => ((unhid HO8).lt j ej).1)
    clear hnl hnn HO8
    go_wp2_with fail
    refine (unhid HT).mono ?_
    rintro x w4 ⟨rfl, hg⟩
    have HB9 := hid (grown_belowN (unhid HB8) hg (fun j ej => Nat.le_trans (unhid HN5) (unhid hlo j ej)))
    have JP9 := hid ((hg.block _ (unhid JS8) (fun e => by have h1 := unhid hlo _ e.symm; have h2 := unhid HLT; omega)).trans (unhid JP8))
    clear hg HT hlo HB8 JP8 JS8 HN5
    rw [unhid HNM]
    have c3 := cell_arrS (unhid JP9) 3 _ rfl
    cases q4 : twiceB (name :: namesN needs) with
    | true =>
      go_wp2_with fail
      go_ret
      exact ⟨by rw [unhid EQ, q1, q2, q3, q4]; rfl, unhid HB9⟩
    | false =>
    go_wp2_with fail
    clear c3
    refine (treeOkP_any (entsD tree) ta tc _ (unhid ST) ((unhid H3).below (unhid HB9))).mono ?_
    rintro x w5 ⟨rfl, hb⟩
    have HBa := hid ((unhid HB9).trans (hb.mono (unhid HB9).size))
    clear hb HB9
    go_wp2_with fail
    go_ret
    exact ⟨by rw [unhid EQ, q1, q2, q3, q4]; rfl, unhid HBa⟩
  · go_simp
    have HDb := hid ((unhid HD).alloc (unhid HD).size (.cells #[.string name] 9))
    refine hK.out _ _ (unhid HDb) ?_
    clear hK K
    have hC0 := cell_newN W1 (.string name) 9
    have hlt0 : W1.heap.size < (W1.alloc (.cells #[.string name] 9)).heap.size := by simp
    clear HD
    generalize W1.alloc (.cells #[.string name] 9) = W2 at HDb hC0 hlt0 ⊢
    generalize W1.heap.size = gx at hC0 hlt0 ⊢
    have HC0 := hid hC0
    have HLT0 := hid hlt0
    clear hC0 hlt0
    refine held_op 2 (by kernel_rfl) (by kernel_rfl) rfl (fun K hK => ?_)
    refine call_op 112 6 (enters_of Tryz.func112 (by kernel_rfl) rfl) #[.slice na needs.length nc, .func (.func 113) #[] #[]] rfl rfl rfl rfl ?_
    have H2b := hid (((unhid H2).below (unhid HB)).below ((unhid HDb).mono (Nat.le_refl _)))
    refine (namesOfNeed_any needs _ W2 (unhid SD).1 (unhid H2b)).mono ?_
    rintro e W3 ⟨u, rfl, hown, hb⟩
    have HD2 := hid ((unhid HDb).trans (hb.mono (unhid HDb).size))
    obtain ⟨ua, uc, hu, -, -, -⟩ := ownsRow_txts hown
    subst hu
    refine ⟨_, rfl, hK.out _ _ (unhid HD2) ?_⟩
    clear hK K
    simp only [Act.put, List.setIfInBounds_toArray, List.set_cons_zero, List.set_cons_succ]
    have HO := hid (ownsRow_lowerS hown (unhid HDb).size)
    have HC := hid ((hb.cell (p := ⟨gx, 0, none⟩) (unhid HLT0)).trans (unhid HC0))
    clear hown hb HDb HC0 HLT0
    -- the names are one row
    refine held_name 6 10 W0.heap.size (.slice ua (namesN needs).length uc) (namesN needs) name gx (by kernel_rfl) (by kernel_rfl) rfl rfl rfl rfl rfl rfl (unhid HO) (unhid HC) (by have := (unhid SD).1; rw [namesN_len]; omega) (unhid HD2).size ?_
    intro v' W5 hown hg
    have hD5 : Below W0.heap.size W0 W5 := grown_belowN (unhid HD2) hg (fun j ej => ((unhid HO).lt j ej).1)
    refine ⟨hD5, ?_⟩
    simp only [Act.put, List.setIfInBounds_toArray, List.set_cons_zero, List.set_cons_succ]
    have HO5 := hid hown
    have HD5 := hid hD5
    clear hown hg HO HC HD2 hD5
    have hba : ∀ {q : Prop}, (CW (fun w' => Below W0.heap.size W0 w') → q) ↔ q := CW.all (Below.refl _ W0)
    refine held_here [false, false, false, false, false, false, false, true] (by kernel_rfl) (by kernel_rfl) (fun _ _ _ _ _ h => h) (unhid HD5) ?_
    dsimp only [pick]
    repeat (go_big_quiet_step (fail))
    refine wpQuiet_nil ?_
    refine held_done (by kernel_rfl) ?_
    clear hba
    obtain ⟨va, vc, hv, -, -, -⟩ := ownsRow_txts (unhid HO5)
    subst hv
    have HNM := hid (twice_swap name (namesN needs))
    have HNL := hid (show (namesN needs ++ [name]).length = needs.length + 1 by rw [List.length_append, namesN_len]; rfl)
    generalize namesN needs ++ [name] = nm at *
    have HB5 := hid ((unhid HB).trans ((unhid HD5).mono (unhid HB).size))
    have JP5 := hid (((unhid HD5).block _ (unhid JS)).trans (unhid JP))
    have JS5 := hid (Nat.lt_of_lt_of_le (unhid JS) (unhid HD5).size)
    have HN5 := hid (unhid HB).size
    clear HD5 HB JP JS H2b
    have c0 := cell_arrS (unhid JP5) 0 _ rfl
    go_wp2_with fail
    clear c0
    refine (packNameOk_any name (le_maxLen (unhid SN)) _).mono ?_
    rintro x w1 ⟨rfl, hb⟩
    have HB6 := hid ((unhid HB5).trans (hb.mono (unhid HB5).size))
    have JP6 := hid ((hb.block _ (unhid JS5)).trans (unhid JP5))
    have JS6 := hid (Nat.lt_of_lt_of_le (unhid JS5) hb.size)
    have HO6 := hid (ownsRow_belowS (unhid HO5) hb)
    clear hb HB5 JP5 JS5 HO5
    have c1 := cell_arrS (unhid JP6) 1 _ rfl
    cases q1 : packB name.data.toList with
    | false =>
      go_wp2_with fail
      go_ret
      exact ⟨by rw [unhid EQ, q1]; rfl, unhid HB6⟩
    | true =>
    go_wp2_with fail
    clear c1
    refine (VersionOk_any version (le_maxLen (unhid SV)) _).mono ?_
    rintro x w2 ⟨rfl, hb⟩
    have HB7 := hid ((unhid HB6).trans (hb.mono (unhid HB6).size))
    have JP7 := hid ((hb.block _ (unhid JS6)).trans (unhid JP6))
    have JS7 := hid (Nat.lt_of_lt_of_le (unhid JS6) hb.size)
    have HO7 := hid (ownsRow_belowS (unhid HO6) hb)
    clear hb HB6 JP6 JS6 HO6
    have c2 := cell_arrS (unhid JP7) 2 _ rfl
    cases q2 : versOk version.data.toList with
    | false =>
      go_wp2_with fail
      go_ret
      exact ⟨by rw [unhid EQ, q1, q2]; rfl, unhid HB7⟩
    | true =>
    go_wp2_with fail
    clear c2
    refine (listOkNeed_any needs _ _ (unhid SD) ((unhid H2).below (unhid HB7))).mono ?_
    rintro x w3 ⟨rfl, hb⟩
    have HB8 := hid ((unhid HB7).trans (hb.mono (unhid HB7).size))
    have JP8 := hid ((hb.block _ (unhid JS7)).trans (unhid JP7))
    have JS8 := hid (Nat.lt_of_lt_of_le (unhid JS7) hb.size)
    have HO8 := hid (ownsRow_belowS (unhid HO7) hb)
    clear hb HB7 JP7 JS7 HO7
    cases q3 : (needs.all needOkD && decide (needs.length ≤ 6)) with
    | false =>
      go_wp2_with fail
      go_ret
      exact ⟨by rw [unhid EQ, q1, q2, q3]; rfl, unhid HB8⟩
    | true =>
    have hnl : needs.length ≤ 6 := by
      rw [Bool.and_eq_true] at q3
      exact of_decide_eq_true q3.2
    have hnn : nm.length ≤ 4294967296 := by rw [unhid HNL]; omega
    have HT := hid (anyTwice_any nm _ W0.heap.size w3 hnn (unhid HO8))
    have hlo := hid (show ∀ j, (Value.slice va nm.length vc).ownBlock = some j → W0.heap.size ≤ j from fun j ej => ((unhid HO8).lt j ej).1)
    clear hnl hnn HO8
    go_wp2_with fail
    refine (unhid HT).mono ?_
    rintro x w4 ⟨rfl, hg⟩
    have HB9 := hid (grown_belowN (unhid HB8) hg (fun j ej => Nat.le_trans (unhid HN5) (unhid hlo j ej)))
    have JP9 := hid ((hg.block _ (unhid JS8) (fun e => by have h1 := unhid hlo _ e.symm; have h2 := unhid HLT; omega)).trans (unhid JP8))
    clear hg HT hlo HB8 JP8 JS8 HN5
    rw [unhid HNM]
    have c3 := cell_arrS (unhid JP9) 3 _ rfl
    cases q4 : twiceB (name :: namesN needs) with
    | true =>
      go_wp2_with fail
      go_ret
      exact ⟨by rw [unhid EQ, q1, q2, q3, q4]; rfl, unhid HB9⟩
    | false =>
    go_wp2_with fail
    clear c3
    refine (treeOkP_any (entsD tree) ta tc _ (unhid ST) ((unhid H3).below (unhid HB9))).mono ?_
    rintro x w5 ⟨rfl, hb⟩
    have HBa := hid ((unhid HB9).trans (hb.mono (unhid HB9).size))
    clear hb HB9
    go_wp2_with fail
    go_ret
    exact ⟨by rw [unhid EQ, q1, q2, q3, q4]; rfl, unhid HBa⟩
end Go.Proofs.YtoihhlkidlapmaaGreat

/- Packs in a row: read; whether they are by name; where one is. -/
namespace Go.Proofs.YtoihhlkidlapmaaGreat
open Go.RowKit Go.Shelf

/-- An operation whose guard says no. -/
theorem held_skip {P : Program} {md : Region.Mode} {ops : Array Oper} {Q : Exit → Act → World → Prop} {C : World → Prop} {F : Nat} {listed : Array Bool} {a : Act} {w : World} {o : Oper} (k d : Nat) (hr : Region.ready md ops listed = [k]) (hF : decide (0 < F) = true) (ho : ops[k]? = some o) (hw : Region.wanted o (yielded ops a.tmps) = false) (hd : o.dst = some d) (hC : C w)
    (h : wpAnyH P md ops Q (fun w' => ∃ x : CW C, w' = x.w) (F - 1) (listed.setIfInBounds k true) (a.put (some d) undef) w) : wpAnyH P md ops Q (fun w' => ∃ x : CW C, w' = x.w) F listed a w := by
  refine held_op k hr hF ho (fun K hK => ?_)
  rw [if_neg (by rw [hw]; exact Bool.false_ne_true)]
  refine hK.out _ _ hC ?_
  rw [hd]
  exact h
def smallPs (ps : List packC.D) : Prop := ps.length ≤ 1048576 ∧ ∀ p ∈ ps, smallP p
def namesP (ps : List packC.D) : List ByteArray := List.map (α := packC.D) (fun p => PackD.name p) ps
theorem namesP_len (ps : List packC.D) : (namesP ps).length = ps.length := by unfold namesP; exact List.length_map _
theorem namesP_get {ps : List packC.D} {k : Nat} {p : packC.D} (h : ps[k]? = some p) : (namesP ps)[k]? = some (PackD.name p) := by unfold namesP; rw [List.getElem?_map, h]; rfl
theorem namesP_some {ps : List packC.D} {k : Nat} {x : ByteArray} (h : (namesP ps)[k]? = some x) : ∃ p : packC.D, ps[k]? = some p ∧ PackD.name p = x := by
  unfold namesP at h
  rw [List.getElem?_map] at h
  cases hd : ps[k]? with
  | none => rw [hd] at h; cases h
  | some p => rw [hd] at h; exact ⟨p, rfl, by simpa using h⟩
/-- The cells of one of the packs, and what its slices are. -/
theorem pack_cells {W w : World} {b o : Nat} {ps : List packC.D} {k : Nat} {e : packC.D} (hB : Below w.heap.size w W) (hbl : b < w.heap.size) (hc : ∀ (i : Nat) d, ps[i]? = some d → ∃ cs, packC.at_ w cs d ∧ ∀ j c, cs[j]? = some c → w.cell? ⟨b, o + i * packC.n + j, none⟩ = some c) (he : ps[k]? = some e) :
    ∃ (na : Option Addr) (nc : Nat) (ta : Option Addr) (tc : Nat), (W.cell? ⟨b, o + k * 4, none⟩ = some (.string (PackD.name e)) ∧ W.cell? ⟨b, o + k * 4 + 1, none⟩ = some (.string (PackD.version e)) ∧ W.cell? ⟨b, o + k * 4 + 2, none⟩ = some (.slice na (PackD.needs e).length nc) ∧ W.cell? ⟨b, o + k * 4 + 3, none⟩ = some (.slice ta (PackD.tree e).length tc)) ∧
      packC.at_ W [.string (PackD.name e), .string (PackD.version e), .slice na (PackD.needs e).length nc, .slice ta (PackD.tree e).length tc] e := by
  obtain ⟨cs, hat, hcell⟩ := hc k e he
  have hat2 := packC.below hat hB
  obtain ⟨v2, v3, rfl, h2, h3⟩ := packC_at hat
  obtain ⟨na, nc, rfl, -⟩ := rowAt.slice h2
  obtain ⟨ta, tc, rfl, -⟩ := rowAt.slice h3
  exact ⟨na, nc, ta, tc, ⟨(hB.cell (p := ⟨b, o + k * 4 + 0, none⟩) hbl).trans (hcell 0 _ rfl), (hB.cell (p := ⟨b, o + k * 4 + 1, none⟩) hbl).trans (hcell 1 _ rfl), (hB.cell (p := ⟨b, o + k * 4 + 2, none⟩) hbl).trans (hcell 2 _ rfl), (hB.cell (p := ⟨b, o + k * 4 + 3, none⟩) hbl).trans (hcell 3 _ rfl)⟩, hat2⟩

theorem le_not_lt (x y : ByteArray) : (Op.bytesLess x.toList y.toList || x.toList == y.toList) = !ltS y x := by
  cases h : ltS y x with
  | true =>
    have h1 : Op.bytesLess x.toList y.toList = false := by
      cases h2 : Op.bytesLess x.toList y.toList with
      | false => rfl
      | true => have := lt_tra _ _ _ h2 h; rw [lt_irr] at this; cases this
    have h2 : (x.toList == y.toList) = false := by
      rw [beq_eq_false_iff_ne]
      intro e
      unfold ltS at h
      rw [e, lt_irr] at h; cases h
    rw [h1, h2]; rfl
  | false =>
    cases h2 : Op.bytesLess x.toList y.toList with
    | true => rfl
    | false =>
      have := lt_tot _ _ h2 h
      rw [this]; simp
/-- Whether one of the packs is ok, and behind the one ahead of it. -/
def okAt (ps : List packC.D) (i : Nat) : Bool := match ps[i]? with
  | none => true
  | some p => pkOk p && (i == 0 || match ps[i - 1]? with
    | none => true
    | some q => ltS (PackD.name q) (PackD.name p))
def formB (ps : List packC.D) : Bool := (List.range ps.length).all (okAt ps)
theorem okAt_0 {ps : List packC.D} {p : packC.D} (h : ps[0]? = some p) : okAt ps 0 = pkOk p := by unfold okAt; rw [h]; simp
theorem okAt_s {ps : List packC.D} {i : Nat} {p q : packC.D} (h : ps[i + 1]? = some p) (hq : ps[i]? = some q) : okAt ps (i + 1) = (pkOk p && ltS (PackD.name q) (PackD.name p)) := by unfold okAt; rw [h]; simp [hq]
theorem form_ok {ps : List packC.D} (h : formB ps = true) {i : Nat} {p : packC.D} (hp : ps[i]? = some p) : pkOk p = true := by
  unfold formB at h
  rw [List.all_eq_true] at h
  have := h i (List.mem_range.2 (List.getElem?_eq_some_iff.1 hp).1)
  unfold okAt at this
  rw [hp] at this
  simp only [Bool.and_eq_true] at this
  exact this.1
theorem form_next {ps : List packC.D} (h : formB ps = true) {i : Nat} {p q : packC.D} (hp : ps[i + 1]? = some p) (hq : ps[i]? = some q) : ltS (PackD.name q) (PackD.name p) = true := by
  unfold formB at h
  rw [List.all_eq_true] at h
  have := h (i + 1) (List.mem_range.2 (List.getElem?_eq_some_iff.1 hp).1)
  rw [okAt_s hp hq] at this
  simp only [Bool.and_eq_true] at this
  exact this.2
theorem form_asc {ps : List packC.D} (h : formB ps = true) : Asc (namesP ps) := by
  intro i j x y hij hx hy
  obtain ⟨p, hp, rfl⟩ := namesP_some hx
  obtain ⟨q, hq, rfl⟩ := namesP_some hy
  induction j generalizing q with
  | zero => omega
  | succ j ih =>
    have hjl : j < ps.length := by have := (List.getElem?_eq_some_iff.1 hq).1; omega
    obtain ⟨m, hm⟩ : ∃ m, ps[j]? = some m := ⟨ps[j], List.getElem?_eq_getElem hjl⟩
    have h1 := form_next h hq hm
    rcases Nat.lt_or_ge i j with hlt | hge
    · exact lt_tra _ _ _ (ih hlt m hm (namesP_get hm)) h1
    · have : i = j := by omega
      subst this
      rw [hp] at hm
      cases hm
      exact h1
theorem asc_inj {xs : List ByteArray} (h : Asc xs) {i j : Nat} {x : ByteArray} (hi : xs[i]? = some x) (hj : xs[j]? = some x) : i = j := by
  rcases Nat.lt_trichotomy i j with h1 | h1 | h1
  · have := h i j x x h1 hi hj
    unfold ltS at this
    rw [lt_irr] at this; cases this
  · exact h1
  · have := h j i x x h1 hj hi
    unfold ltS at this
    rw [lt_irr] at this; cases this

set_option maxRecDepth 100000 in
set_option maxHeartbeats 4000000 in
/-- The place of a pack, by the model. -/
theorem l8Pack_any (ps : List packC.D) (v : Value) (q : ByteArray) (w : World) (hs : ps.length ≤ 1048576) (h : rowAt packC w v ps) :
    Calls Tryz.prog 124 #[v, .string q] w fun x w' => (∃ r : Int, x = .returned (.int .i64 r) ∧ ((r = -1 ∧ q ∉ namesP ps) ∨ ∃ k : Nat, r = (k : Int) ∧ (namesP ps)[k]? = some q)) ∧ Below w.heap.size w w' := by
  obtain ⟨a, cap, rfl, -, -, h⟩ := h
  have H := hid h
  clear h
  go_enter Tryz.func124, Tryz.ntmps124
  go_wp2_with fail
  go_loopw [5] (fun i wr => ∃ k : Nat, k ≤ ps.length ∧ i = .int .i64 (k : Int) ∧ Hid (∀ j, j < k → (namesP ps)[j]? ≠ some q) ∧ Hid (Below w.heap.size w wr)) (fun i _ => ps.length - (intOf i).toNat)
  case atStart => exact ⟨0, Nat.zero_le _, rfl, hid (fun j hj => absurd hj (Nat.not_lt_zero _)), hid (Below.refl _ _)⟩
  case round =>
    obtain ⟨k, hk, rfl, HX, HB⟩ := hrel
    by_cases hlt : k < ps.length
    · obtain ⟨e, he⟩ : ∃ e, ps[k]? = some e := ⟨ps[k], List.getElem?_eq_getElem hlt⟩
      obtain ⟨b, o, rfl, hbl, hc⟩ := (unhid H).resolve_left (by intro e; subst e; simp at hlt)
      obtain ⟨na, nc, ta, tc, ⟨c0, c1, c2, c3⟩, -⟩ := pack_cells (unhid HB) hbl hc he
      have HE := hid (namesP_get he)
      have hq := txt_iff (PackD.name e) q
      clear hc he hbl c1 c2 c3
      by_cases hxy : PackD.name e = q
      · rw [decide_eq_true hxy] at hq
        have HXY := hid hxy
        clear hxy
        go_wp2_with fail
        go_ret
        exact ⟨⟨_, rfl, .inr ⟨k, rfl, by rw [unhid HE, unhid HXY]⟩⟩, unhid HB⟩
      · rw [decide_eq_false hxy] at hq
        have HXY := hid hxy
        clear hxy
        go_wp2_with fail
        go_roundw
        case rel =>
          refine ⟨k + 1, by omega, by go_num, hid (fun j hj => ?_), HB⟩
          by_cases ej : j = k
          · subst ej
            rw [unhid HE]
            exact fun e => unhid HXY (Option.some.inj e)
          · exact unhid HX j (by omega)
        case measure => simp [intOf]; omega
    · have e : k = ps.length := by omega
      subst e
      go_wp2_with fail
      go_ret
      refine ⟨⟨_, rfl, .inl ⟨rfl, fun hm => ?_⟩⟩, unhid HB⟩
      obtain ⟨j, hj⟩ := List.getElem?_of_mem hm
      exact unhid HX j (by have := (List.getElem?_eq_some_iff.1 hj).1; rwa [namesP_len] at this) hj
end Go.Proofs.YtoihhlkidlapmaaGreat

/- Packs copied, by the program. -/
namespace Go.Proofs.YtoihhlkidlapmaaGreat
open Go.RowKit Go.Shelf

/-- What an append leaves. -/
structure RowGrew (K : CK) (e : Nat) (w : World) (N : Nat) (v : Value) (L : List (It K)) (v' : Value) (w' : World) : Prop where
  row : NRow K e w' N v' L
  by_ : w.grownBy w' v.ownBlock
  block : v'.ownBlock = v.ownBlock ∨ v'.ownBlock = some w.heap.size
  some_ : v' = .slice none 0 0 ↔ v = .slice none 0 0 ∧ L.length = 0
theorem nrow_slice {K : CK} {e : Nat} {w : World} {N : Nat} {v : Value} {L : List (It K)} (h : NRow K e w N v L) : ∃ a c, v = .slice a L.length c := by
  rcases h.row.2 with ⟨rfl, h0⟩ | ⟨g, cap, cur, rfl, _⟩
  · exact ⟨none, 0, by rw [h0]⟩
  · exact ⟨_, cap, rfl⟩
theorem grew_slice {K : CK} {e : Nat} {w : World} {N : Nat} {v : Value} {L : List (It K)} {v' : Value} {w' : World} (h : RowGrew K e w N v L v' w') : ∃ a c, v' = .slice a L.length c := nrow_slice h.row
/-- A pack that is new, behind a row that grows. -/
theorem items_new {W w2 w3 : World} {N : Nat} {v : Value} {L : List (It packC)} {cs : List Value} {d : packC.D} {F : List Nat} (h : NRow packC 34 W N v L) (hN : N ≤ W.heap.size) (hb : Below W.heap.size W w2) (hown : packC.own w2 cs d F) (hF : ∀ k ∈ F, W.heap.size ≤ k) (hb2 : Below w2.heap.size w2 w3) :
    NRow packC 34 w3 N v L ∧ Items packC w3 N (L ++ [(cs, d, F)]) ∧ (∀ g, v.ownBlock = some g → g ∉ itF [((cs, d, F) : It packC)]) := by
  have hfr : ∀ k, (v.ownBlock = some k ∨ k ∈ itF L) → w3.heap[k]? = W.heap[k]? := fun k hk => by
    have := (h.base k hk).2
    rw [hb2.block k (Nat.lt_of_lt_of_le this hb.size), hb.block k this]
  have h3 := h.frame hfr
  refine ⟨h3, h3.items.snoc (packC.frame hown (fun k hk => hb2.block k (packC.lt hown k hk))) (M := W.heap.size) h.items.lt hF hN, fun g hg hk => ?_⟩
  have h1 := (h.base g (.inl hg)).2
  have h2 := hF g (by simpa [itF] using hk)
  omega

end Go.Proofs.YtoihhlkidlapmaaGreat

/- slices.Delete of one pack. -/
namespace Go.Proofs.YtoihhlkidlapmaaGreat
open Go.RowKit Go.Shelf

theorem itCells_split {W : World} {N : Nat} {L : List (It packC)} (h : Items packC W N L) (i : Nat) (hi : i ≤ L.length) : (itCells (L.take i)).length = i * 4 ∧ (itCells (L.drop i)).length = (L.length - i) * 4 ∧ itCells L = itCells (L.take i) ++ itCells (L.drop i) := by
  have h1 := itCells_len (h.sub (List.take_sublist i L))
  have h2 := itCells_len (h.sub (List.drop_sublist i L))
  rw [List.length_take, Nat.min_eq_left hi] at h1
  rw [List.length_drop] at h2
  exact ⟨h1, h2, by rw [← itCells_app, List.take_append_drop]⟩

end Go.Proofs.YtoihhlkidlapmaaGreat

/- slices.Insert of one pack. -/
namespace Go.Proofs.YtoihhlkidlapmaaGreat
open Go.RowKit Go.Shelf Go.Lib



end Go.Proofs.YtoihhlkidlapmaaGreat

/- Whether packs are by name, by the program. -/
namespace Go.Proofs.YtoihhlkidlapmaaGreat
open Go.RowKit Go.Shelf

set_option maxRecDepth 100000 in
set_option maxHeartbeats 4000000 in
theorem packsByName_any (ps : List packC.D) (v : Value) (w : World) (hs : smallPs ps) (h : rowAt packC w v ps) :
    Calls Tryz.prog 217 #[v] w fun x w' => x = .returned (.bool (formB ps)) ∧ Below w.heap.size w w' := by
  obtain ⟨a, cap, rfl, -, -, h⟩ := h
  obtain ⟨hlen, hz⟩ := hs
  have HZ := hid hz
  have H := hid h
  clear hz h
  go_enter Tryz.func217, Tryz.ntmps217
  go_wp2_with fail
  go_loopw [7] (fun i wr => ∃ k : Nat, k ≤ ps.length ∧ i = .int .i64 (k : Int) ∧ Hid ((List.range k).all (okAt ps) = true) ∧ Hid (Below w.heap.size w wr)) (fun i _ => ps.length - (intOf i).toNat)
  case atStart => exact ⟨0, Nat.zero_le _, rfl, hid rfl, hid (Below.refl _ _)⟩
  case round =>
    obtain ⟨k, hk, rfl, HA, HB⟩ := hrel
    by_cases hlt : k < ps.length
    · obtain ⟨e, he⟩ : ∃ e, ps[k]? = some e := ⟨ps[k], List.getElem?_eq_getElem hlt⟩
      obtain ⟨b, o, rfl, hbl, hc⟩ := (unhid H).resolve_left (by intro e; subst e; simp at hlt)
      obtain ⟨na, nc, ta, tc, ⟨c0, c1, c2, c3⟩, hat⟩ := pack_cells (unhid HB) hbl hc he
      have HAT := hid hat
      have HE := hid he
      have SP := hid (unhid HZ e (List.mem_of_getElem? he))
      have HC := hid hc
      have HBL := hid hbl
      have HB0 := hid (show ∀ x, Below w.heap.size w (wr.alloc x) from fun x => (unhid HB).alloc (unhid HB).size x)
      have HB1 := hid (show ∀ x, Below wr.heap.size wr (wr.alloc x) from fun x => (Below.refl _ wr).alloc (Nat.le_refl _) x)
      clear hc he hbl hat
      go_wp2_with fail
      have hbox := World.alloc_heap_new wr (.cells #[.string (PackD.name e), .string (PackD.version e), .slice na (PackD.needs e).length nc, .slice ta (PackD.tree e).length tc] 34)
      have hB1 := unhid HB1 (.cells #[.string (PackD.name e), .string (PackD.version e), .slice na (PackD.needs e).length nc, .slice ta (PackD.tree e).length tc] 34)
      have hB0 := unhid HB0 (.cells #[.string (PackD.name e), .string (PackD.version e), .slice na (PackD.needs e).length nc, .slice ta (PackD.tree e).length tc] 34)
      have hlw : wr.heap.size < (wr.alloc (.cells #[.string (PackD.name e), .string (PackD.version e), .slice na (PackD.needs e).length nc, .slice ta (PackD.tree e).length tc] 34)).heap.size := by simp
      generalize wr.alloc (.cells #[.string (PackD.name e), .string (PackD.version e), .slice na (PackD.needs e).length nc, .slice ta (PackD.tree e).length tc] 34) = W0 at hbox hB1 hB0 hlw ⊢
      have BX := hid hbox
      have HB2 := hid hB0
      have HB3 := hid hB1
      have HLW := hid hlw
      clear hbox hB0 hB1 hlw HB0 HB1 c0 c1 c2 c3
      have g0 : ∀ x : CW (fun w' => Below W0.heap.size W0 w'), x.w.cell? ⟨wr.heap.size, 0, none⟩ = some (.string (PackD.name e)) := fun x => cell_arrS ((x.h.block _ (unhid HLW)).trans (unhid BX)) 0 _ rfl
      have g1 : ∀ x : CW (fun w' => Below W0.heap.size W0 w'), x.w.cell? ⟨wr.heap.size, 1, none⟩ = some (.string (PackD.version e)) := fun x => cell_arrS ((x.h.block _ (unhid HLW)).trans (unhid BX)) 1 _ rfl
      have g2 : ∀ x : CW (fun w' => Below W0.heap.size W0 w'), x.w.cell? ⟨wr.heap.size, 2, none⟩ = some (.slice na (PackD.needs e).length nc) := fun x => cell_arrS ((x.h.block _ (unhid HLW)).trans (unhid BX)) 2 _ rfl
      have g3 : ∀ x : CW (fun w' => Below W0.heap.size W0 w'), x.w.cell? ⟨wr.heap.size, 3, none⟩ = some (.slice ta (PackD.tree e).length tc) := fun x => cell_arrS ((x.h.block _ (unhid HLW)).trans (unhid BX)) 3 _ rfl
      have hba : ∀ {q : Prop}, (CW (fun w' => Below W0.heap.size W0 w') → q) ↔ q := CW.all (Below.refl _ W0)
      have HAT0 := hid (packC.below (unhid HAT) (unhid HB3))
      -- behind a name that is not behind the one ahead of it nothing is asked
      by_cases hk0 : k = 0
      · subst hk0
        have EK := hid (okAt_0 (unhid HE))
        refine held_begin (fun w' => Below W0.heap.size W0 w') (by kernel_rfl) (drew_belowS _) ?_
        refine held_here [true, true, true, true, true, true, true, true, true, true, true, true, true, true, true] (by kernel_rfl) (by kernel_rfl) (fun _ _ _ _ _ h => h) (drew_belowS _) ?_
        dsimp only [pick]
        repeat (go_big_quiet_step (fail))
        refine wpQuiet_nil ?_
        have hD := drew_belowS (B := W0.heap.size) W0
        generalize W0.drew = W1 at hD ⊢
        clear g0 g1 g2 g3
        refine held_call 15 60 27 (enters_of Tryz.func60 (by kernel_rfl) rfl) #[.agg #[.string (PackD.name e), .string (PackD.version e), .slice na (PackD.needs e).length nc, .slice ta (PackD.tree e).length tc]] (by kernel_rfl) (by kernel_rfl) rfl rfl rfl rfl rfl ?_
        refine (packOk_any e _ W1 (unhid SP) (packC.below (unhid HAT0) hD)).mono ?_
        rintro r w2 ⟨rfl, hb⟩
        have hD2 := hD.trans (hb.mono hD.size)
        have HB4 := hid ((unhid HB2).trans (hD2.mono (unhid HB2).size))
        refine ⟨_, rfl, hD2, ?_⟩
        simp only [Act.put, List.setIfInBounds_toArray, List.set_cons_zero, List.set_cons_succ]
        clear hb
        cases hq : pkOk e with
        | false =>
          refine held_here [false, false, false, false, false, false, false, false, false, false, false, false, false, false, false, false, true, true] (by kernel_rfl) (by kernel_rfl) (fun _ _ _ _ _ h => h) hD2 ?_
          dsimp only [pick]
          repeat (go_big_quiet_step (fail))
          refine wpQuiet_nil ?_
          refine held_done (by kernel_rfl) ?_
          clear hba hD hD2
          go_wp2_with fail
          go_ret
          exact ⟨by unfold formB; rw [all_range_no hlt (by rw [unhid EK, hq])]; rfl, unhid HB4⟩
        | true =>
          have HQ := hid hq
          clear hq
          refine held_here [false, false, false, false, false, false, false, false, false, false, false, false, false, false, false, false, true, true] (by kernel_rfl) (by kernel_rfl) (fun _ _ _ _ _ h => h) hD2 ?_
          dsimp only [pick]
          repeat (go_big_quiet_step (fail))
          refine wpQuiet_nil ?_
          refine held_done (by kernel_rfl) ?_
          clear hba hD hD2
          go_wp2_with fail
          go_roundw
          case rel => exact ⟨1, by omega, by go_num, hid (all_range_snoc rfl (by rw [unhid EK, unhid HQ])), HB4⟩
          case measure => simp [intOf]; omega
      · obtain ⟨j, rfl⟩ : ∃ j, k = j + 1 := ⟨k - 1, by omega⟩
        obtain ⟨d, hd⟩ : ∃ d, ps[j]? = some d := ⟨ps[j], List.getElem?_eq_getElem (by omega)⟩
        obtain ⟨-, -, -, -, ⟨d0, -, -, -⟩, -⟩ := pack_cells (unhid HB) (unhid HBL) (unhid HC) hd
        have EK := hid (okAt_s (unhid HE) hd)
        have hbw : b < wr.heap.size := Nat.lt_of_lt_of_le (unhid HBL) (unhid HB).size
        have g4 : ∀ x : CW (fun w' => Below W0.heap.size W0 w'), x.w.cell? ⟨b, o + j * 4, none⟩ = some (.string (PackD.name d)) := fun x => (x.h.cell (p := ⟨b, o + j * 4, none⟩) (Nat.lt_of_lt_of_le hbw (unhid HB3).size)).trans (((unhid HB3).cell (p := ⟨b, o + j * 4, none⟩) hbw).trans d0)
        have hjj : ((j + 1 : Nat) : Int) - 1 = (j : Int) := by omega
        have HD := hid hd
        clear hd d0
        have hle := le_not_lt (PackD.name e) (PackD.name d)
        cases hls : ltS (PackD.name d) (PackD.name e) with
        | false =>
          rw [hls] at hle
          have hle2 : (Op.bytesLess (PackD.name e).toList (PackD.name d).toList || (PackD.name e).toList == (PackD.name d).toList) = true := hle
          clear hle
          refine held_begin (fun w' => Below W0.heap.size W0 w') (by kernel_rfl) (drew_belowS _) ?_
          refine held_here [true, true, true, true, true, true, true, true, true, true, true, true, true, true, true] (by kernel_rfl) (by kernel_rfl) (fun _ _ _ _ _ h => h) (drew_belowS _) ?_
          dsimp only [pick]
          repeat (go_big_quiet_step (fail))
          refine wpQuiet_nil ?_
          have hD := drew_belowS (B := W0.heap.size) W0
          generalize W0.drew = W1 at hD ⊢
          clear g0 g1 g2 g3 g4
          refine held_skip 15 27 (by kernel_rfl) (by kernel_rfl) rfl rfl rfl hD ?_
          have hD2 := hD
          have HB4 := hid ((unhid HB2).trans (hD2.mono (unhid HB2).size))
          simp only [Act.put, List.setIfInBounds_toArray, List.set_cons_zero, List.set_cons_succ]
          refine held_here [false, false, false, false, false, false, false, false, false, false, false, false, false, false, false, false, true, true] (by kernel_rfl) (by kernel_rfl) (fun _ _ _ _ _ h => h) hD2 ?_
          dsimp only [pick]
          repeat (go_big_quiet_step (fail))
          refine wpQuiet_nil ?_
          refine held_done (by kernel_rfl) ?_
          clear hba hD hD2
          go_wp2_with fail
          go_ret
          exact ⟨by unfold formB; rw [all_range_no hlt (by rw [unhid EK, hls, Bool.and_false])]; rfl, unhid HB4⟩
        | true =>
          rw [hls] at hle
          have hle2 : (Op.bytesLess (PackD.name e).toList (PackD.name d).toList || (PackD.name e).toList == (PackD.name d).toList) = false := hle
          have HLS := hid hls
          clear hle hls
          refine held_begin (fun w' => Below W0.heap.size W0 w') (by kernel_rfl) (drew_belowS _) ?_
          refine held_here [true, true, true, true, true, true, true, true, true, true, true, true, true, true, true] (by kernel_rfl) (by kernel_rfl) (fun _ _ _ _ _ h => h) (drew_belowS _) ?_
          dsimp only [pick]
          repeat (go_big_quiet_step (fail))
          refine wpQuiet_nil ?_
          have hD := drew_belowS (B := W0.heap.size) W0
          generalize W0.drew = W1 at hD ⊢
          clear g0 g1 g2 g3 g4
          refine held_call 15 60 27 (enters_of Tryz.func60 (by kernel_rfl) rfl) #[.agg #[.string (PackD.name e), .string (PackD.version e), .slice na (PackD.needs e).length nc, .slice ta (PackD.tree e).length tc]] (by kernel_rfl) (by kernel_rfl) rfl rfl rfl rfl rfl ?_
          refine (packOk_any e _ W1 (unhid SP) (packC.below (unhid HAT0) hD)).mono ?_
          rintro r w2 ⟨rfl, hb⟩
          have hD2 := hD.trans (hb.mono hD.size)
          have HB4 := hid ((unhid HB2).trans (hD2.mono (unhid HB2).size))
          refine ⟨_, rfl, hD2, ?_⟩
          simp only [Act.put, List.setIfInBounds_toArray, List.set_cons_zero, List.set_cons_succ]
          clear hb
          cases hq : pkOk e with
          | false =>
            refine held_here [false, false, false, false, false, false, false, false, false, false, false, false, false, false, false, false, true, true] (by kernel_rfl) (by kernel_rfl) (fun _ _ _ _ _ h => h) hD2 ?_
            dsimp only [pick]
            repeat (go_big_quiet_step (fail))
            refine wpQuiet_nil ?_
            refine held_done (by kernel_rfl) ?_
            clear hba hD hD2
            go_wp2_with fail
            go_ret
            exact ⟨by unfold formB; rw [all_range_no hlt (by rw [unhid EK, hq]; rfl)]; rfl, unhid HB4⟩
          | true =>
            have HQ := hid hq
            clear hq
            refine held_here [false, false, false, false, false, false, false, false, false, false, false, false, false, false, false, false, true, true] (by kernel_rfl) (by kernel_rfl) (fun _ _ _ _ _ h => h) hD2 ?_
            dsimp only [pick]
            repeat (go_big_quiet_step (fail))
            refine wpQuiet_nil ?_
            refine held_done (by kernel_rfl) ?_
            clear hba hD hD2
            go_wp2_with fail
            go_roundw
            case rel => exact ⟨j + 1 + 1, by omega, by go_num, hid (all_range_snoc (unhid HA) (by rw [unhid EK, unhid HQ, unhid HLS]; rfl)), HB4⟩
            case measure => simp [intOf]; omega
    · have e : k = ps.length := by omega
      subst e
      go_wp2_with fail
      go_ret
      exact ⟨by unfold formB; rw [unhid HA]; rfl, unhid HB⟩
end Go.Proofs.YtoihhlkidlapmaaGreat

/- Packs without one of a name, by the model: the row is new, its items are those that were there. -/
namespace Go.Proofs.YtoihhlkidlapmaaGreat
open Go.RowKit Go.Shelf

/-- The cells of an item of a row, one by one. -/
theorem item_cells {w W : World} {N : Nat} {v : Value} {L : List (It packC)} {k : Nat} {t : It packC} (h : NRow packC 34 w N v L) (ht : L[k]? = some t) (hb : Below w.heap.size w W) : ∃ (g cap : Nat) (na : Option Addr) (nc : Nat) (ta : Option Addr) (tc : Nat), v = .slice (some ⟨g, 0, none⟩) L.length cap ∧ g < w.heap.size ∧
    t.1 = [.string (PackD.name t.2.1), .string (PackD.version t.2.1), .slice na (PackD.needs t.2.1).length nc, .slice ta (PackD.tree t.2.1).length tc] ∧
    W.cell? ⟨g, k * 4, none⟩ = some (.string (PackD.name t.2.1)) ∧ W.cell? ⟨g, k * 4 + 1, none⟩ = some (.string (PackD.version t.2.1)) ∧ W.cell? ⟨g, k * 4 + 2, none⟩ = some (.slice na (PackD.needs t.2.1).length nc) ∧ W.cell? ⟨g, k * 4 + 3, none⟩ = some (.slice ta (PackD.tree t.2.1).length tc) := by
  have hkl := (List.getElem?_eq_some_iff.1 ht).1
  rcases h.row.2 with ⟨_, h0⟩ | ⟨g, cap, cur, hv, hN, hg, hc, _, hsz, hcells⟩
  · omega
  · have hown := h.items.each t (List.mem_of_getElem? ht)
    have hgl := (Array.getElem?_eq_some_iff.1 hg).1
    obtain ⟨v2, v3, F2, F3, e, _, h2, h3, _⟩ := packC_own hown
    obtain ⟨na, nc, rfl⟩ := rowOwn.slice h2
    obtain ⟨ta, tc, rfl⟩ := rowOwn.slice h3
    have key : ∀ j u, t.1[j]? = some u → W.cell? ⟨g, k * 4 + j, none⟩ = some u := fun j u hj => by
      have hj4 : j < packC.n := by rw [← packC.len hown]; exact (List.getElem?_eq_some_iff.1 hj).1
      have h1 := itCells_get (fun t ht => packC.len (h.items.each t ht)) k t ht j hj4
      have en : packC.n = 4 := rfl
      rw [en] at h1 hj4 hcells
      rw [hj, ← hcells, List.getElem?_take_of_lt (by omega), Array.getElem?_toList] at h1
      exact (hb.cell (p := ⟨g, k * 4 + j, none⟩) hgl).trans (cell_arrS hg _ _ h1)
    rw [e] at key
    exact ⟨g, cap, na, nc, ta, tc, hv, hgl, e, key 0 _ rfl, key 1 _ rfl, key 2 _ rfl, key 3 _ rfl⟩

end Go.Proofs.YtoihhlkidlapmaaGreat

/- Packs copied, by the model. -/
namespace Go.Proofs.YtoihhlkidlapmaaGreat
open Go.RowKit Go.Shelf

/-- Items appended, in a region that draws its order. -/
theorem op_items {K : CK} {t e : Nat} (hET : ET K t e) (h1 : OneC K) {ops : Array Oper} {o : Oper} {a : Act} (w : World) {Q : Exit → Act → World → Prop} {K' : Act → World → Prop} (d : Nat) (s x : Operand) (ho : o.op = .call { callee := .builtin .append, args := #[s, x], argTypes := #[t, t] }) (hw : Region.wanted o (yielded ops a.tmps) = true) (hd : o.dst = some d)
    (N : Nat) (v : Value) (L M : List (It K)) (b of c : Nat) (h : NRow K e w N v L) (hM : Items K w N (L ++ M)) (hap : ∀ g, v.ownBlock = some g → g ∉ itF M) (hcell : ∀ j u, (itCells M)[j]? = some u → w.cell? ⟨b, of + j, none⟩ = some u) (hn : L.length + M.length ≤ 4194304) (hN : N ≤ w.heap.size) (hs : a.eval s = v) (hx : a.eval x = .slice (some ⟨b, of, none⟩) M.length c)
    (hk : ∀ v' w', RowGrew K e w N v (L ++ M) v' w' → K' (a.put (some d) v') w') : if Region.wanted o (yielded ops a.tmps) = true then Oper.wp Tryz.prog o a w K' Q else K' (a.put o.dst undef) w := by
  rw [if_pos hw]
  obtain ⟨v', w', hr, h2, h3, h4, h5⟩ := app_items hET h1 w o.type N v L M b of c h hM hap hcell hn hN
  unfold Oper.wp execOp
  simp only [ho, resolve, invoke, builtin, Sem.run_bind, Sem.run_pure, Result.andThen_ok, List.map_toArray, List.map_cons, List.map_nil, hs, hx, hr]
  show K' (a.put o.dst v') w'
  rw [hd]
  refine hk v' w' ⟨h2, h3, h4, ?_⟩
  rw [h5, List.length_append]
  constructor
  · rintro ⟨rfl, h0⟩
    refine ⟨rfl, ?_⟩
    rcases h.row.2 with ⟨_, hl⟩ | ⟨g, cap, cur, hv, _⟩
    · omega
    · cases hv
  · rintro ⟨h0, h1⟩
    exact ⟨h0, by omega⟩
theorem NRow.lower {K : CK} {e : Nat} {W : World} {N M : Nat} {v : Value} {L : List (It K)} (h : NRow K e W N v L) (hM : M ≤ N) : NRow K e W M v L := by
  refine ⟨⟨h.row.1, ?_⟩, ⟨h.items.each, h.items.nodup, fun k hk => Nat.le_trans hM (h.items.base k hk)⟩, h.apart⟩
  rcases h.row.2 with h1 | ⟨g, cap, cur, hv, hN, hr⟩
  · exact .inl h1
  · exact .inr ⟨g, cap, cur, hv, by omega, hr⟩
/-- The boxes of a copy under way. -/
structure CopyW (w wr : World) (g : Nat) (v u : Value) : Prop where
  box : wr.heap[g]? = some (.cells #[v] 51 (0, 0))
  res : wr.heap[g + 1]? = some (.cells #[.slice none 0 0] 51 (0, 0))
  out : wr.heap[g + 1 + 1]? = some (.cells #[u] 51 (0, 0))
  size : g + 1 + 1 < wr.heap.size
  below : Below g w wr
theorem grown_transR {a b c : World} {r : Option Nat} (h : a.grownBy b r) (h2 : b.grownBy c r) : a.grownBy c r := ⟨h2.os.trans h.os, h2.tape.trans h.tape, h2.output.trans h.output, Nat.le_trans h.size h2.size, fun k hk hne => (h2.block k (Nat.lt_of_lt_of_le hk h.size) hne).trans (h.block k hk hne)⟩
theorem below_grown {a b : World} (r : Option Nat) (h : Below a.heap.size a b) : a.grownBy b r := ⟨h.os, h.tape, h.output, h.size, fun k hk _ => h.block k hk⟩
theorem CopyW.grown {w wr W : World} {g : Nat} {v u : Value} {r : Option Nat} (h : CopyW w wr g v u) (hg : wr.grownBy W r) (hr : ∀ k, r = some k → g + 1 + 1 < k) : CopyW w W g v u := by
  have hs := h.size
  have hb : ∀ k, k ≤ g + 1 + 1 → W.heap[k]? = wr.heap[k]? := fun k hk => hg.block k (by omega) (fun e => by have := hr k e.symm; omega)
  exact ⟨(hb _ (by omega)).trans h.box, (hb _ (by omega)).trans h.res, (hb _ (by omega)).trans h.out, Nat.lt_of_lt_of_le hs hg.size, h.below.grown hg (by omega) (fun k e => by have := hr k e; omega)⟩
theorem CopyW.store {w W : World} {g : Nat} {v u : Value} (h : CopyW w W g v u) (u' : Value) : CopyW w (W.setCell ⟨g + 1 + 1, 0, none⟩ u') g v u' :=
  ⟨(Below.heap_setCell _ _ _ _ (by dsimp only; omega)).trans h.box, (Below.heap_setCell _ _ _ _ (by dsimp only; omega)).trans h.res, heap_setCell_same W (g + 1 + 1) 0 _ _ u' h.out, by simpa using h.size, h.below.setCell (by dsimp only; omega) _⟩

set_option maxRecDepth 100000 in
set_option maxHeartbeats 8000000 in
theorem l9Copy_any (ps : List packC.D) (v : Value) (w : World) (hs : smallPs ps) (h : rowAt packC w v ps) :
    Calls Tryz.prog 91 #[.agg #[v]] w fun x w' => ∃ (u : Value) (L : List (It packC)), x = .returned (.agg #[u]) ∧ NRow packC 34 w' w.heap.size u L ∧ itD L = ps ∧ Below w.heap.size w w' := by
  obtain ⟨a, cap, rfl, -, -, h⟩ := h
  have hlen := hs.1
  have HSM := hid hs
  have H := hid h
  clear h hs
  go_enter Tryz.func91, Tryz.ntmps91
  go_wp2_with fail
  obtain ⟨hP, hR, hO, hS, hB⟩ := three_boxes w (.cells #[.slice a ps.length cap] 51) (.cells #[.slice none 0 0] 51) (.cells #[.slice none 0 0] 51)
  generalize ((w.alloc (.cells #[.slice a ps.length cap] 51)).alloc (.cells #[.slice none 0 0] 51)).alloc (.cells #[.slice none 0 0] 51) = W0 at hP hR hO hS hB ⊢
  have HC0 := hid (CopyW.mk hP hR hO hS hB)
  clear hP hR hO hS hB
  go_loopw [4] (fun i wr => ∃ (k : Nat) (L : List (It packC)) (ga : Option Addr) (c : Nat), k ≤ ps.length ∧ i = .int .i64 (k : Int) ∧ Hid (L.length = k) ∧ Hid (itD L = ps.take k) ∧ Hid (NRow packC 34 wr (w.heap.size + 1 + 1 + 1) (.slice ga k c) L) ∧ Hid (CopyW w wr w.heap.size (.slice a ps.length cap) (.slice ga k c))) (fun i _ => ps.length - (intOf i).toNat)
  case atStart => exact ⟨0, [], none, 0, Nat.zero_le _, rfl, hid rfl, hid (by simp [itD]), hid (NRow.none _ _), HC0⟩
  case round =>
    clear HC0
    obtain ⟨k, L, ga, c, hk, rfl, HK, HL, HR, HC⟩ := hrel
    have o0 := cell_arrS (unhid HC).box 0 _ rfl
    by_cases hlt : k < ps.length
    · obtain ⟨e, he⟩ : ∃ e, ps[k]? = some e := ⟨ps[k], List.getElem?_eq_getElem hlt⟩
      obtain ⟨b, o, rfl, hbl, hc⟩ := (unhid H).resolve_left (by intro e; subst e; simp at hlt)
      obtain ⟨na, nc, ta, tc, ⟨c0, c1, c2, c3⟩, hat⟩ := pack_cells (unhid HC).below hbl hc he
      have hsp := (unhid HSM).2 e (List.mem_of_getElem? he)
      have hsz : (PackD.needs e).length ≤ 4194304 ∧ (PackD.tree e).length ≤ 4194304 := ⟨by have := hsp.needs.1; omega, by have := hsp.tree.1; rw [entsD_len] at this; omega⟩
      have HE := hid he
      have hrb : ∀ k', (Value.slice ga k c).ownBlock = some k' → w.heap.size + 1 + 1 < k' := fun k' hk' => by have := ((unhid HR).base k' (.inl hk')).1; omega
      have cellx : ∀ (x : CW (fun w' => wr.grownBy w' (Value.slice ga k c).ownBlock)) (p : Addr) (u : Value), p.block ≤ w.heap.size + 1 + 1 → wr.cell? p = some u → x.w.cell? p = some u := fun x p u hp hu => x.h.cell hu (fun e => by have := hrb _ e.symm; omega)
      have gq0 : ∀ x : CW (fun w' => wr.grownBy w' (Value.slice ga k c).ownBlock), x.w.cell? ⟨w.heap.size, 0, none⟩ = some (.slice (some ⟨b, o, none⟩) ps.length cap) := fun x => cellx x _ _ (by dsimp only; omega) o0
      have gq1 : ∀ x : CW (fun w' => wr.grownBy w' (Value.slice ga k c).ownBlock), x.w.cell? ⟨w.heap.size + 1 + 1, 0, none⟩ = some (.slice ga k c) := fun x => cellx x _ _ (by dsimp only; omega) (cell_arrS (unhid HC).out 0 _ rfl)
      have gc0 : ∀ x : CW (fun w' => wr.grownBy w' (Value.slice ga k c).ownBlock), x.w.cell? ⟨b, o + k * 4, none⟩ = some (.string (PackD.name e)) := fun x => cellx x _ _ (by dsimp only; omega) c0
      have gc1 : ∀ x : CW (fun w' => wr.grownBy w' (Value.slice ga k c).ownBlock), x.w.cell? ⟨b, o + k * 4 + 1, none⟩ = some (.string (PackD.version e)) := fun x => cellx x _ _ (by dsimp only; omega) c1
      have gc2 : ∀ x : CW (fun w' => wr.grownBy w' (Value.slice ga k c).ownBlock), x.w.cell? ⟨b, o + k * 4 + 2, none⟩ = some (.slice na (PackD.needs e).length nc) := fun x => cellx x _ _ (by dsimp only; omega) c2
      have gc3 : ∀ x : CW (fun w' => wr.grownBy w' (Value.slice ga k c).ownBlock), x.w.cell? ⟨b, o + k * 4 + 3, none⟩ = some (.slice ta (PackD.tree e).length tc) := fun x => cellx x _ _ (by dsimp only; omega) c3
      have hd0 : wr.grownBy wr.drew (Value.slice ga k c).ownBlock := ⟨rfl, rfl, rfl, Nat.le_refl _, fun _ _ _ => rfl⟩
      have HD0 := hid hd0
      have hbd : Below wr.heap.size wr wr.drew := ⟨rfl, rfl, rfl, Nat.le_refl _, fun _ _ => rfl⟩
      have JN := hid (l9Pack_any e _ wr.drew hsz (packC.below hat hbd))
      have HBD := hid hbd
      clear hat hc he hbl hsp hsz hrb cellx c0 c1 c2 c3 hbd
      go_wp2_with fail
      clear o0
      have hba : ∀ {q : Prop}, (CW (fun w' => wr.grownBy w' (Value.slice ga k c).ownBlock) → q) ↔ q := CW.all hd0
      refine heldE_begin 11 (fun w' => wr.grownBy w' (Value.slice ga k c).ownBlock) (by kernel_rfl) ?_
      refine heldE_here [true, true, true, true, true, true, true] (by kernel_rfl) (by kernel_rfl) (fun _ _ _ _ _ h => h) hd0 ?_
      dsimp only [pick]
      repeat (go_big_quiet_step (fail))
      refine wpQuiet_nil ?_
      clear hba hd0 gq0 gq1 gc0 gc1 gc2 gc3
      refine heldE_op 7 (by kernel_rfl) (by kernel_rfl) rfl (fun K hK => ?_)
      refine call_op 147 20 (enters_of Tryz.func147 (by kernel_rfl) rfl) #[.agg #[.string (PackD.name e), .string (PackD.version e), .slice na (PackD.needs e).length nc, .slice ta (PackD.tree e).length tc]] rfl rfl rfl rfl ?_
      refine (unhid JN).mono ?_
      rintro x w2 ⟨cs, F, rfl, hown, hF, hb⟩
      obtain ⟨v2, v3, F2, F3, rfl, -, -, -, -⟩ := packC_own hown
      have hbb : Below wr.heap.size wr w2 := (unhid HBD).trans hb
      have hg2 := below_grown (Value.slice ga k c).ownBlock hbb
      have HX := hid (And.intro hbb (And.intro hown hF))
      refine ⟨_, rfl, hK.out _ _ hg2 ?_⟩
      clear hK K hown hF hb hbb JN HBD HD0
      simp only [Act.put, List.setIfInBounds_toArray, List.set_cons_zero, List.set_cons_succ]
      refine heldE_op 8 (by kernel_rfl) (by kernel_rfl) rfl (fun K hK => ?_)
      go_simp
      obtain ⟨hbb, hown, hF⟩ := unhid HX
      have hnew := World.alloc_heap_new w2 (.cells #[.string (PackD.name e), .string (PackD.version e), v2, v3] 34)
      have hb2 := (Below.refl w2.heap.size w2).alloc (Nat.le_refl _) (.cells #[.string (PackD.name e), .string (PackD.version e), v2, v3] 34)
      have hNs : w.heap.size + 1 + 1 + 1 ≤ wr.heap.size := (unhid HC).size
      obtain ⟨q1, q2, q3⟩ := items_new (unhid HR) hNs hbb hown (fun k hk => (hF k hk).1) hb2
      have hb3 := hbb.trans (hb2.mono hbb.size)
      have hg3 := below_grown (Value.slice ga k c).ownBlock hb3
      have hcl : ∀ j u, (itCells [(([.string (PackD.name e), .string (PackD.version e), v2, v3], e, F) : It packC)])[j]? = some u → (w2.alloc (.cells #[.string (PackD.name e), .string (PackD.version e), v2, v3] 34)).cell? ⟨w2.heap.size, 0 + j, none⟩ = some u := fun j u hj => by
        rw [Nat.zero_add]
        refine cell_arrS hnew j u ?_
        have hj' : [.string (PackD.name e), .string (PackD.version e), v2, v3][j]? = some u := by simpa [itCells] using hj
        simpa using hj'
      have hNs3 : w.heap.size + 1 + 1 + 1 ≤ (w2.alloc (.cells #[.string (PackD.name e), .string (PackD.version e), v2, v3] 34)).heap.size := Nat.le_trans hNs hb3.size
      refine hK.out _ _ hg3 ?_
      clear hK K hg2 hbb hown hF HX hnew hb2 hb3
      generalize w2.alloc (.cells #[.string (PackD.name e), .string (PackD.version e), v2, v3] 34) = w3 at *
      generalize w2.heap.size = gs at *
      refine heldE_op 9 (by kernel_rfl) (by kernel_rfl) rfl (fun K hK => ?_)
      refine op_items etPack onePack w3 22 _ _ rfl rfl rfl (w.heap.size + 1 + 1 + 1) (.slice ga k c) L [(([.string (PackD.name e), .string (PackD.version e), v2, v3], e, F) : It packC)] gs 0 1 q1 q2 q3 hcl (by rw [unhid HK]; simp only [List.length_singleton]; omega) hNs3 rfl rfl ?_
      intro v' w4 hg
      obtain ⟨ga', c', hv'⟩ := grew_slice hg
      have hl2 : (L ++ [(([.string (PackD.name e), .string (PackD.version e), v2, v3], e, F) : It packC)]).length = k + 1 := by rw [List.length_append, unhid HK]; rfl
      rw [hl2] at hv'
      subst hv'
      have hg4 := grown_transR hg3 hg.by_
      have HC4 := hid ((unhid HC).grown hg4 (fun k' hk' => by have := ((unhid HR).base k' (.inl hk')).1; omega))
      have HN := hid hg.row
      have HL2 := hid (show itD (L ++ [(([.string (PackD.name e), .string (PackD.version e), v2, v3], e, F) : It packC)]) = ps.take (k + 1) by
        rw [itD_app, unhid HL, List.take_add_one, unhid HE]; rfl)
      have HK2 := hid hl2
      generalize L ++ [(([.string (PackD.name e), .string (PackD.version e), v2, v3], e, F) : It packC)] = L2 at *
      refine hK.out _ _ hg4 ?_
      clear hK K hg hg3 hl2 q1 q2 q3 hcl hNs3
      simp only [Act.put, List.setIfInBounds_toArray, List.set_cons_zero, List.set_cons_succ]
      have hba : ∀ {q : Prop}, (CW (fun w' => wr.grownBy w' (Value.slice ga k c).ownBlock) → q) ↔ q := CW.all hg4
      refine heldE_here [false, false, false, false, false, false, false, false, false, false, true] (by kernel_rfl) (by kernel_rfl) (fun _ _ _ _ _ h => h) hg4 ?_
      dsimp only [pick]
      repeat (go_big_quiet_step (fail))
      refine wpQuiet_nil ?_
      clear hba hg4
      obtain ⟨o2, p2⟩ := cell_fz (unhid HC4).out 0 _ rfl
      refine heldE_last (by kernel_rfl) (by kernel_rfl) rfl (fun K hK => ?_)
      go_simp
      refine hK.out _ _ ?_
      clear hK K o2 p2
      refine heldE_done (by kernel_rfl) ?_
      have HC5 := hid ((unhid HC4).store (.slice ga' ((k + 1 : Nat)) c'))
      have HN5 := hid ((unhid HN).frame (W' := w4.setCell ⟨w.heap.size + 1 + 1, 0, none⟩ (.slice ga' ((k + 1 : Nat)) c')) (fun k' hk' => Below.heap_setCell _ _ _ _ (by have := ((unhid HN).base k' hk').1; dsimp only; omega)))
      clear HC4 HN HC HR
      go_wp2_with fail
      go_roundw
      case rel => exact ⟨k + 1, L2, ga', c', by omega, by go_num, HK2, HL2, HN5, HC5⟩
      case measure => simp [intOf]; omega
    · have e : k = ps.length := by omega
      subst e
      have HL2 := hid (show itD L = ps by have := unhid HL; rwa [List.take_length] at this)
      obtain ⟨o2, p2⟩ := cell_fz (unhid HC).out 0 _ rfl
      obtain ⟨o1, p1⟩ := cell_fz (unhid HC).res 0 _ rfl
      go_wp2_with fail
      refine bodyPost_ret (v := .agg #[.slice ga ps.length c]) (by simp [results, Tryz.results91, go_sem, World.cell?_setCell_same', o1]) rfl ⟨_, L, rfl, ((unhid HR).frame (fun k' hk' => Below.heap_setCell _ _ _ _ (by have := ((unhid HR).base k' hk').1; dsimp only; omega))).lower (by omega), unhid HL2, (unhid HC).below.setCell (by dsimp only; omega) _⟩
end Go.Proofs.YtoihhlkidlapmaaGreat

/- What the laws hand over of a need. -/
namespace Go.Proofs.YtoihhlkidlapmaaGreat
open Go.RowKit


end Go.Proofs.YtoihhlkidlapmaaGreat
