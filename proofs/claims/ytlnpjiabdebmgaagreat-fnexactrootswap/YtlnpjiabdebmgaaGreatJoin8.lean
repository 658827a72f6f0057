/- Texts of this proof, one behind the other; each says at its head what it shows. -/
import Derived.Test.YtlnpjiabdebmgaaGreatJoin7
import Derived.Test.YtlnpjiabdebmgaaGreatJoin6
import Derived.Shelf.Spec.SlicesInsertGrow
/- Whether all that packs need is there, by the program. -/
namespace Go.Proofs.YtlnpjiabdebmgaaGreat
open Go.RowKit Go.Shelf

theorem thereT_mem {xs : List ByteArray} {q : ByteArray} (h : thereP xs q = true) : xs[placeP xs q]? = some q := by
  unfold thereP at h
  cases hx : xs[placeP xs q]? with
  | none => rw [hx] at h; cases h
  | some x =>
    rw [hx] at h
    have : eqS x q = true := h
    rw [(eqS_iff x q).1 this]
theorem place_mem {xs : List ByteArray} {q : ByteArray} (ha : Asc xs) {j : Nat} (hj : xs[j]? = some q) : placeP xs q = j ∧ thereP xs q = true := by
  have hp : placeP xs q = j := placeP_of xs q j (Nat.le_of_lt (List.getElem?_eq_some_iff.1 hj).1) (fun i x hi hx => ha i j x q hi hx hj) (fun x hx => by
    rw [hj] at hx
    cases hx
    exact lt_irr _)
  refine ⟨hp, ?_⟩
  unfold thereP
  rw [hp, hj]
  exact (eqS_iff q q).2 rfl
theorem there_no {xs : List ByteArray} {q : ByteArray} (ha : Asc xs) (h : thereP xs q = false) : q ∉ xs := fun hm => by
  obtain ⟨j, hj⟩ := List.getElem?_of_mem hm
  rw [(place_mem ha hj).2] at h
  cases h

set_option maxRecDepth 100000 in
set_option maxHeartbeats 4000000 in
theorem needThere_any (ps : List packC.D) (v : Value) (n : needC.D) (w : World) (hs : smallPs ps) (hf : formB ps = true) (hn : needOkD n = true) (hsn : (NeedD.name n).size ≤ 1048576 ∧ (NeedD.version n).size ≤ 1048576) (h : rowAt packC w v ps) :
    Calls Tryz.prog 165 #[v, .agg #[.string (NeedD.name n), .int .i64 (NeedD.kind n), .string (NeedD.version n)]] w fun x w' => x = .returned (.bool (hasNeed ps n)) ∧ Below w.heap.size w w' := by
  have HR := hid h
  obtain ⟨a, cap, rfl, -, -, h⟩ := h
  have hlen := hs.1
  have HSM := hid hs
  have HF := hid hf
  have HN := hid hn
  have SN := hid hsn
  have H := hid h
  clear h hs hf hn hsn
  go_enter Tryz.func165, Tryz.ntmps165
  go_wp2_with fail
  have hbox := World.alloc_heap_new w (.cells #[.string (NeedD.name n), .int .i64 (NeedD.kind n), .string (NeedD.version n)] 79)
  have hB0 : Below w.heap.size w (w.alloc (.cells #[.string (NeedD.name n), .int .i64 (NeedD.kind n), .string (NeedD.version n)] 79)) := (Below.refl _ w).alloc (Nat.le_refl _) _
  have hlw : w.heap.size < (w.alloc (.cells #[.string (NeedD.name n), .int .i64 (NeedD.kind n), .string (NeedD.version n)] 79)).heap.size := by simp
  generalize w.alloc (.cells #[.string (NeedD.name n), .int .i64 (NeedD.kind n), .string (NeedD.version n)] 79) = W0 at hbox hB0 hlw ⊢
  have BX := hid hbox
  have HB := hid hB0
  have HLW := hid hlw
  clear hbox hB0 hlw
  have hpb : placeP (namesP ps) (NeedD.name n) ≤ ps.length := by
    rw [← namesP_len]
    exact (List.takeWhile_prefix _).length_le
  refine (packPlace_any ps _ (NeedD.name n) W0 hlen (form_asc (unhid HF)) ((unhid HR).below (unhid HB))).mono ?_
  rintro x W1 ⟨rfl, hb⟩
  have HB3 := hid ((unhid HB).trans (hb.mono (unhid HB).size))
  have BX1 := hid ((hb.block _ (unhid HLW)).trans (unhid BX))
  have HLW1 := hid (Nat.lt_of_lt_of_le (unhid HLW) hb.size)
  clear hb BX HLW HB
  have g0 : ∀ x : CW (fun w' => Below W1.heap.size W1 w'), x.w.cell? ⟨w.heap.size, 0, none⟩ = some (.string (NeedD.name n)) := fun x => cell_arrS ((x.h.block _ (unhid HLW1)).trans (unhid BX1)) 0 _ rfl
  have g1 : ∀ x : CW (fun w' => Below W1.heap.size W1 w'), x.w.cell? ⟨w.heap.size, 1, none⟩ = some (.int .i64 (NeedD.kind n)) := fun x => cell_arrS ((x.h.block _ (unhid HLW1)).trans (unhid BX1)) 1 _ rfl
  have g2 : ∀ x : CW (fun w' => Below W1.heap.size W1 w'), x.w.cell? ⟨w.heap.size, 2, none⟩ = some (.string (NeedD.version n)) := fun x => cell_arrS ((x.h.block _ (unhid HLW1)).trans (unhid BX1)) 2 _ rfl
  have hba : ∀ {q : Prop}, (CW (fun w' => Below W1.heap.size W1 w') → q) ↔ q := CW.all (Below.refl _ W1)
  cases hth : thereP (namesP ps) (NeedD.name n) with
  | false =>
    have EH := hid (has_none (there_no (form_asc (unhid HF)) hth))
    generalize placeP (namesP ps) (NeedD.name n) = pl at *
    clear hth
    go_wp2_with fail
    refine held_begin (fun w' => Below W1.heap.size W1 w') (by kernel_rfl) (drew_belowS _) ?_
    refine held_here [true, true, true, true, true, true, true, true, true, true] (by kernel_rfl) (by kernel_rfl) (fun _ _ _ _ _ h => h) (drew_belowS _) ?_
    dsimp only [pick]
    repeat (go_big_quiet_step (fail))
    refine wpQuiet_nil ?_
    have hD := drew_belowS (B := W1.heap.size) W1
    generalize W1.drew = W2 at hD ⊢
    clear g0 g1 g2
    refine held_skip 10 24 (by kernel_rfl) (by kernel_rfl) rfl rfl rfl hD ?_
    simp only [Act.put, List.setIfInBounds_toArray, List.set_cons_zero, List.set_cons_succ]
    refine held_here [false, false, false, false, false, false, false, false, false, false, false, true, true] (by kernel_rfl) (by kernel_rfl) (fun _ _ _ _ _ h => h) hD ?_
    dsimp only [pick]
    repeat (go_big_quiet_step (fail))
    refine wpQuiet_nil ?_
    refine held_done (by kernel_rfl) ?_
    have HB4 := hid ((unhid HB3).trans (hD.mono (unhid HB3).size))
    clear hba hD
    go_wp2_with fail
    go_ret
    exact ⟨by rw [unhid EH]; rfl, unhid HB4⟩
  | true =>
    have hi := thereT_mem hth
    generalize placeP (namesP ps) (NeedD.name n) = i at *
    clear hth
    obtain ⟨q, hq, hqn⟩ := namesP_some hi
    have hil : i < ps.length := (List.getElem?_eq_some_iff.1 hq).1
    have hne : ps ≠ [] := by intro e; subst e; simp at hil
    obtain ⟨b, o, rfl, hbl, hc⟩ := (unhid H).resolve_left hne
    have SQ := hid ((unhid HSM).2 q (List.mem_of_getElem? hq))
    have EH := hid (show fitsB (NeedD.name n).data.toList (NeedD.kind n) (NeedD.version n).data.toList (NeedD.name n).data.toList (PackD.version q).data.toList = hasNeed ps n by
      rw [has_at (form_asc (unhid HF)) hq hqn]
      have h1 : pkOk q = true := form_ok (unhid HF) hq
      have h2 : versOk (PackD.version q).data.toList = true := by
        unfold pkOk at h1
        simp only [Bool.and_eq_true] at h1
        exact h1.1.1.2
      have h3 : needB (NeedD.name n).data.toList (NeedD.kind n) (NeedD.version n).data.toList = true := unhid HN
      unfold fitsB
      rw [h2, h3]
      simp)
    obtain ⟨-, -, -, -, ⟨-, d1, -, -⟩, -⟩ := pack_cells (unhid HB3) hbl hc hq
    have hbw : b < W1.heap.size := Nat.lt_of_lt_of_le hbl (unhid HB3).size
    have g3 : ∀ x : CW (fun w' => Below W1.heap.size W1 w'), x.w.cell? ⟨b, o + i * 4 + 1, none⟩ = some (.string (PackD.version q)) := fun x => (x.h.cell (p := ⟨b, o + i * 4 + 1, none⟩) hbw).trans d1
    clear hi hq hqn d1 hc hne hbl
    go_wp2_with fail
    refine held_begin (fun w' => Below W1.heap.size W1 w') (by kernel_rfl) (drew_belowS _) ?_
    refine held_here [true, true, true, true, true, true, true, true, true, true] (by kernel_rfl) (by kernel_rfl) (fun _ _ _ _ _ h => h) (drew_belowS _) ?_
    dsimp only [pick]
    repeat (go_big_quiet_step (fail))
    refine wpQuiet_nil ?_
    have hD := drew_belowS (B := W1.heap.size) W1
    generalize W1.drew = W2 at hD ⊢
    clear g0 g1 g2 g3
    refine held_call 10 197 24 (enters_of Tryz.func197 (by kernel_rfl) rfl) #[.agg #[.string (NeedD.name n), .int .i64 (NeedD.kind n), .string (NeedD.version n)], .string (NeedD.name n), .string (PackD.version q)] (by kernel_rfl) (by kernel_rfl) rfl rfl rfl rfl rfl ?_
    refine (NeedFits_any (NeedD.name n) (NeedD.version n) (NeedD.name n) (PackD.version q) (NeedD.kind n) (le_maxLen (unhid SN).1) (le_maxLen (unhid SN).2) (le_maxLen (unhid SQ).version) W2).mono ?_
    rintro x W3 ⟨rfl, hb⟩
    have hD2 := hD.trans (hb.mono hD.size)
    have HB4 := hid ((unhid HB3).trans (hD2.mono (unhid HB3).size))
    refine ⟨_, rfl, hD2, ?_⟩
    simp only [Act.put, List.setIfInBounds_toArray, List.set_cons_zero, List.set_cons_succ]
    rw [unhid EH]
    clear hb
    refine held_here [false, false, false, false, false, false, false, false, false, false, false, true, true] (by kernel_rfl) (by kernel_rfl) (fun _ _ _ _ _ h => h) hD2 ?_
    dsimp only [pick]
    repeat (go_big_quiet_step (fail))
    refine wpQuiet_nil ?_
    refine held_done (by kernel_rfl) ?_
    clear hba hD hD2
    go_wp2_with fail
    go_ret
    exact ⟨rfl, unhid HB4⟩

set_option maxRecDepth 100000 in
set_option maxHeartbeats 1000000 in
theorem askNeeds1_any (ps : List packC.D) (v : Value) (n : needC.D) (g : Nat) (w : World) (hs : smallPs ps) (hf : formB ps = true) (hn : needOkD n = true) (hsn : (NeedD.name n).size ≤ 1048576 ∧ (NeedD.version n).size ≤ 1048576) (hg : w.cell? ⟨g, 0, none⟩ = some v) (hgl : g < w.heap.size) (h : rowAt packC w v ps) :
    Calls Tryz.prog 164 #[.agg #[.string (NeedD.name n), .int .i64 (NeedD.kind n), .string (NeedD.version n)], .pointer (some ⟨g, 0, none⟩)] w fun x w' => x = .returned (.bool (hasNeed ps n)) ∧ Below w.heap.size w w' := by
  have HB := hid (show ∀ x, Below w.heap.size w (w.alloc x) from fun x => (Below.refl _ w).alloc (Nat.le_refl _) x)
  have HT := hid (fun W (hb : Below w.heap.size w W) => needThere_any ps v n W hs hf hn hsn (h.below hb))
  obtain ⟨va, vc, hv, -⟩ := rowAt.slice h
  subst hv
  have HG := hid (fun x => ((unhid HB x).cell (p := ⟨g, 0, none⟩) hgl).trans hg)
  have c0 := unhid HG (.cells #[.string (NeedD.name n), .int .i64 (NeedD.kind n), .string (NeedD.version n)] 79)
  clear hs hf hn hsn h hgl
  go_enter Tryz.func164, Tryz.ntmps164
  go_wp2_with fail
  refine (unhid HT _ (unhid HB _)).mono ?_
  rintro x w2 ⟨rfl, hb⟩
  have HB2 := hid ((unhid HB _).trans (hb.mono (unhid HB _).size))
  clear hb c0 hg
  go_wp2_with fail
  go_ret
  exact ⟨rfl, unhid HB2⟩

set_option maxRecDepth 100000 in
set_option maxHeartbeats 4000000 in
theorem listOkThere_any (ps : List packC.D) (vp : Value) (g : Nat) (ds : List needC.D) (v : Value) (w : World) (hsp : smallPs ps) (hf : formB ps = true) (hn : ds.all needOkD = true) (hl6 : ds.length ≤ 6) (hs : smallN ds) (hg : w.cell? ⟨g, 0, none⟩ = some vp) (hgl : g < w.heap.size) (hp : rowAt packC w vp ps) (h : rowAt needC w v ds) :
    Calls Tryz.prog 63 #[v, .int .i64 6, .func (.func 164) #[] #[.pointer (some ⟨g, 0, none⟩)]] w fun x w' => x = .returned (.bool (ds.all (hasNeed ps))) ∧ Below w.heap.size w w' := by
  obtain ⟨a, cap, rfl, -, -, h⟩ := h
  obtain ⟨hlen, hz⟩ := hs
  have HZ := hid hz
  have H := hid h
  have HT := hid (fun W (hb : Below w.heap.size w W) n hn hsn => askNeeds1_any ps vp n g W hsp hf hn hsn ((hb.cell (p := ⟨g, 0, none⟩) hgl).trans hg) (Nat.lt_of_lt_of_le hgl hb.size) (hp.below hb))
  have HN := hid hn
  clear hz h hsp hf hn hg hp
  go_enter Tryz.func63, Tryz.ntmps63
  go_wp2_with fail
  go_loopw [15] (fun i wr => ∃ k : Nat, k ≤ ds.length ∧ i = .int .i64 (k : Int) ∧ Hid ((ds.take k).all (hasNeed ps) = true) ∧ Hid (Below w.heap.size w wr)) (fun i _ => ds.length - (intOf i).toNat)
  case atStart => exact ⟨0, Nat.zero_le _, rfl, hid (by simp), hid (Below.refl _ _)⟩
  case round =>
    obtain ⟨k, hk, rfl, HA, HB⟩ := hrel
    by_cases hlt : k < ds.length
    · obtain ⟨e, he⟩ : ∃ e, ds[k]? = some e := ⟨ds[k], List.getElem?_eq_getElem hlt⟩
      obtain ⟨b, o, rfl, hbl, hc⟩ := (unhid H).resolve_left (by intro e; subst e; simp at hlt)
      obtain ⟨c0, c1, c2⟩ := need_cells (unhid HB) hbl hc he
      have HS := hid (unhid HZ e (List.mem_of_getElem? he))
      have HE := hid he
      have HNE := hid (List.all_eq_true.1 (unhid HN) e (List.mem_of_getElem? he))
      have HBA := hid (show ∀ x, Below w.heap.size w (wr.alloc x) from fun x => (unhid HB).alloc (unhid HB).size x)
      clear hc he hbl HB
      go_wp2_with fail
      refine (unhid HT _ (unhid HBA _) e (unhid HNE) (unhid HS)).mono ?_
      rintro x w2 ⟨rfl, hb⟩
      have HB2 := hid ((unhid HBA _).trans (hb.mono (unhid HBA _).size))
      clear hb c0 c1 c2 HBA
      cases hq : hasNeed ps e with
      | false =>
        go_wp2_with fail
        go_ret
        exact ⟨by rw [all_no (unhid HE) hq]; rfl, unhid HB2⟩
      | true =>
        have HQ := hid hq
        clear hq
        go_wp2_with fail
        go_roundw
        case rel => exact ⟨k + 1, by omega, by go_num, hid (all_take_next (unhid HE) (unhid HA) (unhid HQ)), HB2⟩
        case measure => simp [intOf]; omega
    · have e : k = ds.length := by omega
      subst e
      go_wp2_with fail
      go_ret
      refine ⟨?_, unhid HB⟩
      have := unhid HA
      rw [List.take_of_length_le (Nat.le_refl _)] at this
      rw [this]
      rfl

def needCode (ps : List packC.D) : Int := if needsB ps then 0 else 4
set_option maxRecDepth 100000 in
set_option maxHeartbeats 4000000 in
theorem askNeeds_any (ps : List packC.D) (v : Value) (w : World) (hs : smallPs ps) (hf : formB ps = true) (h : rowAt packC w v ps) :
    Calls Tryz.prog 120 #[v] w fun x w' => x = .returned (.int .i64 (needCode ps)) ∧ Below w.heap.size w w' := by
  have HR := hid h
  obtain ⟨a, cap, rfl, -, -, h⟩ := h
  have hlen := hs.1
  have HSM := hid hs
  have HF := hid hf
  have H := hid h
  clear h hs hf
  go_enter Tryz.func120, Tryz.ntmps120
  go_wp2_with fail
  have hbox := World.alloc_heap_new w (.cells #[.slice a ps.length cap] 40)
  have hB0 : Below w.heap.size w (w.alloc (.cells #[.slice a ps.length cap] 40)) := (Below.refl _ w).alloc (Nat.le_refl _) _
  have hlw : w.heap.size < (w.alloc (.cells #[.slice a ps.length cap] 40)).heap.size := by simp
  generalize w.alloc (.cells #[.slice a ps.length cap] 40) = W0 at hbox hB0 hlw ⊢
  have BX := hid hbox
  have HB00 := hid hB0
  have HLW := hid hlw
  clear hbox hB0 hlw
  go_loopw [7] (fun i wr => ∃ k : Nat, k ≤ ps.length ∧ i = .int .i64 (k : Int) ∧ Hid ((ps.take k).all (fun p => (needsOf p).all (hasNeed ps)) = true) ∧ Hid (Below W0.heap.size W0 wr)) (fun i _ => ps.length - (intOf i).toNat)
  case atStart => exact ⟨0, Nat.zero_le _, rfl, hid (by simp), hid (Below.refl _ _)⟩
  case round =>
    obtain ⟨k, hk, rfl, HA, HB⟩ := hrel
    by_cases hlt : k < ps.length
    · obtain ⟨e, he⟩ : ∃ e, ps[k]? = some e := ⟨ps[k], List.getElem?_eq_getElem hlt⟩
      obtain ⟨b, o, rfl, hbl, hc⟩ := (unhid H).resolve_left (by intro e; subst e; simp at hlt)
      have HBW := hid ((unhid HB00).trans ((unhid HB).mono (unhid HB00).size))
      obtain ⟨na, nc, ta, tc, ⟨c0, c1, c2, c3⟩, hat⟩ := pack_cells (unhid HBW) hbl hc he
      have HAT := hid hat
      have HE := hid he
      have SP := hid ((unhid HSM).2 e (List.mem_of_getElem? he))
      have POK := hid (form_ok (unhid HF) he)
      have HBA := hid (show ∀ x, Below W0.heap.size W0 (wr.alloc x) from fun x => (unhid HB).alloc (unhid HB).size x)
      have HBR := hid (show ∀ x, Below wr.heap.size wr (wr.alloc x) from fun x => (Below.refl _ wr).alloc (Nat.le_refl _) x)
      clear hc he hbl hat HB
      go_wp2_with fail
      have hgc := ((unhid HBA (.cells #[.string (PackD.name e), .string (PackD.version e), .slice na (PackD.needs e).length nc, .slice ta (PackD.tree e).length tc] 31)).block _ (unhid HLW)).trans (unhid BX)
      have hba := unhid HBA (.cells #[.string (PackD.name e), .string (PackD.version e), .slice na (PackD.needs e).length nc, .slice ta (PackD.tree e).length tc] 31)
      have hbr := unhid HBR (.cells #[.string (PackD.name e), .string (PackD.version e), .slice na (PackD.needs e).length nc, .slice ta (PackD.tree e).length tc] 31)
      generalize wr.alloc (.cells #[.string (PackD.name e), .string (PackD.version e), .slice na (PackD.needs e).length nc, .slice ta (PackD.tree e).length tc] 31) = W1 at hgc hba hbr ⊢
      have hnn : (needsOf e).all needOkD = true ∧ (needsOf e).length ≤ 6 := by
        have h1 := unhid POK
        unfold pkOk at h1
        simp only [Bool.and_eq_true, decide_eq_true_eq] at h1
        exact h1.1.2.1
      have hrow : rowAt needC W1 (.slice na (PackD.needs e).length nc) (needsOf e) := by
        obtain ⟨v2, v3, e1, h2, h3⟩ := packC_at (unhid HAT)
        injection e1 with _ e1
        injection e1 with _ e1
        injection e1 with e2 _
        rw [e2]
        exact h2.below hbr
      have HBS := hid ((unhid HB00).trans (hba.mono (unhid HB00).size))
      have HBA1 := hid hba
      have HG := hid (cell_arrS hgc 0 _ rfl)
      have HROW := hid hrow
      have HNN := hid hnn
      have HLT := hid (Nat.lt_of_lt_of_le (unhid HLW) hba.size)
      clear hgc hba hbr hnn hrow HBA HBR c0 c1 c2 c3
      refine (listOkThere_any ps _ w.heap.size (needsOf e) _ W1 (unhid HSM) (unhid HF) (unhid HNN).1 (unhid HNN).2 (unhid SP).needs (unhid HG) (unhid HLT) ((unhid HR).below (unhid HBS)) (unhid HROW)).mono ?_
      rintro x w2 ⟨rfl, hb⟩
      have HB2 := hid ((unhid HBA1).trans (hb.mono (unhid HBA1).size))
      have HBZ := hid ((unhid HB00).trans ((unhid HB2).mono (unhid HB00).size))
      clear hb
      cases hq : (needsOf e).all (hasNeed ps) with
      | false =>
        have E := hid (show needsB ps = false from all_no (p := fun p => (needsOf p).all (hasNeed ps)) (unhid HE) hq)
        go_wp2_with fail
        go_ret
        exact ⟨by unfold needCode; rw [unhid E]; rfl, unhid HBZ⟩
      | true =>
        have HQ := hid hq
        clear hq
        go_wp2_with fail
        go_roundw
        case rel => exact ⟨k + 1, by omega, by go_num, hid (all_take_next (p := fun p => (needsOf p).all (hasNeed ps)) (unhid HE) (unhid HA) (unhid HQ)), HB2⟩
        case measure => simp [intOf]; omega
    · have e : k = ps.length := by omega
      subst e
      have E := hid (show needsB ps = true by
        have := unhid HA
        rwa [List.take_of_length_le (Nat.le_refl _)] at this)
      have HBZ := hid ((unhid HB00).trans ((unhid HB).mono (unhid HB00).size))
      go_wp2_with fail
      go_ret
      exact ⟨by unfold needCode; rw [unhid E]; rfl, unhid HBZ⟩
end Go.Proofs.YtlnpjiabdebmgaaGreat

/- The library's Insert in the midst of a row: of texts, and of what stands at paths. -/
namespace Go.Proofs.YtlnpjiabdebmgaaGreat
open Go.RowKit Go.Shelf Go.Lib

theorem heap_cells_put (g : Nat) (t : TypeId) : ∀ (vs : List Value) (o : Nat) (w : World) (cs : Array Value), w.heap[g]? = some (.cells cs t (0, 0)) →
    ∃ cs' : Array Value, (w.setCells g o vs).heap[g]? = some (.cells cs' t (0, 0)) ∧ cs'.size = cs.size ∧ ∀ k, k < cs.size → cs'[k]? = if o ≤ k ∧ k < o + vs.length then vs[k - o]? else cs[k]?
  | [], o, w, cs, h => ⟨cs, h, rfl, fun k _ => by rw [if_neg (by rintro ⟨h1, h2⟩; simp at h2; omega)]⟩
  | v :: r, o, w, cs, h => by
    obtain ⟨cs', h1, h2, h3⟩ := heap_cells_put g t r (o + 1) (w.setCell ⟨g, o, none⟩ v) _ (heap_setCell_same w g o cs t v h)
    refine ⟨cs', h1, by rw [h2]; simp, fun k hk => ?_⟩
    rw [h3 k (by simpa using hk)]
    by_cases hin : o + 1 ≤ k ∧ k < o + 1 + r.length
    · rw [if_pos hin, if_pos ⟨by omega, by simp; omega⟩, show k - o = (k - (o + 1)) + 1 by omega, List.getElem?_cons_succ]
    · rw [if_neg hin]
      by_cases he : k = o
      · subst he
        rw [if_pos ⟨Nat.le_refl _, by simp⟩, Nat.sub_self]
        simp [hk]
      · rw [if_neg (by simp; omega)]
        rw [Array.getElem?_setIfInBounds_ne (fun e : o = k => he e.symm)]
theorem grown_cells_put (g : Nat) {w0 : World} {row : Option Nat} (hg : ∀ k, k < w0.heap.size → some k ≠ row → k ≠ g) : ∀ (vs : List Value) (o : Nat) (w : World), w0.grownBy w row → w0.grownBy (w.setCells g o vs) row
  | [], _, _, h => h
  | v :: r, o, w, h => grown_cells_put g hg r (o + 1) _ ⟨h.os, h.tape, h.output, by simpa using h.size, fun k hk hne => (heap_setCell_other w ⟨g, o, none⟩ k v (hg k hk hne)).trans (h.block k hk hne)⟩
theorem grown_drew {w0 w : World} {row : Option Nat} (h : w0.grownBy w row) : w0.grownBy w.drew row := ⟨h.os, h.tape, h.output, h.size, h.block⟩
theorem grown_refl (w : World) (row : Option Nat) : w.grownBy w row := ⟨rfl, rfl, rfl, Nat.le_refl _, fun _ _ _ => rfl⟩
theorem take_mid {cur : List Value} {xs : List Value} {n i : Nat} {p : Value} {cs : Array Value} (hx : cur.take n = xs) (hi : i ≤ n) (hl : n ≤ cur.length)
    (h : ∀ k, k < n + 1 → cs[k]? = if k < i then xs[k]? else if k = i then some p else xs[k - 1]?) : cs.toList.take (n + 1) = xs.take i ++ [p] ++ xs.drop i := by
  have hxl : xs.length = n := by rw [← hx, List.length_take]; omega
  apply List.ext_getElem?
  intro k
  rw [List.getElem?_take]
  by_cases hk : k < n + 1
  · rw [if_pos hk, Array.getElem?_toList, h k hk, List.append_assoc, List.getElem?_append, List.length_take, Nat.min_eq_left (by omega)]
    by_cases h1 : k < i
    · rw [if_pos h1, if_pos h1, List.getElem?_take_of_lt h1]
    · rw [if_neg h1, if_neg h1]
      by_cases h2 : k = i
      · rw [if_pos h2, h2, Nat.sub_self]; rfl
      · rw [if_neg h2, show k - i = (k - 1 - i) + 1 by omega, List.singleton_append, List.getElem?_cons_succ, List.getElem?_drop, show i + (k - 1 - i) = k - 1 by omega]
  · rw [if_neg hk, List.getElem?_eq_none]
    simp; omega

set_option maxHeartbeats 4000000 in
set_option maxRecDepth 100000 in
theorem InsertS_mid (N n c i g b : Nat) (cur : Array Value) (xs : List Value) (p : Value) (hp : p.oneCell' = true) (w : World) (hi : i < n) (hnc : n ≤ c) (hc63 : c ≤ maxLen) (hn : n ≤ 1000) (hN : N ≤ g) (hNw : N ≤ w.heap.size) (hg : w.heap[g]? = some (.cells cur 9 (0, 0))) (hsz : cur.size = c) (hxs : cur.toList.take n = xs) (hbg : b ≠ g) (hb : w.heap[b]? = some (.cells #[p] 9 (0, 0))) (h1 : ∀ v ∈ xs, v.oneCell' = true) :
    Calls Tryz.prog 200 #[.slice (some ⟨g, 0, .none⟩) n c, .int .i64 i, .slice (some ⟨b, 0, .none⟩) 1 1] w fun x w' => ∃ v', x = .returned v' ∧ w'.ownsRow N 9 1 v' (n + 1) (xs.take i ++ [p] ++ xs.drop i) ∧ w.grownBy w' (some g) ∧ (v'.ownBlock = some g ∨ v'.ownBlock = some w.heap.size) := by
  have hxl : xs.length = n := by rw [← hxs, List.length_take, Array.length_toList]; omega
  have hcs : ∀ j v, xs[j]? = some v → w.cell? ⟨g, 0 + j, none⟩ = some v := fun j v hj => by
    have hjn : j < n := by rw [← hxl]; exact (List.getElem?_eq_some_iff.1 hj).1
    rw [← hxs, List.getElem?_take_of_lt hjn, Array.getElem?_toList] at hj
    rw [Nat.zero_add]
    simp [World.cell?, hg, hj]
  have hvs : ∀ j v, [p][j]? = some v → w.cell? ⟨b, 0 + j, none⟩ = some v := fun j v hj => by
    match j with
    | 0 => simp at hj; subst hj; simp [World.cell?, hb]
    | j + 1 => simp at hj
  have h1v : ∀ v ∈ [p], v.oneCell' = true := fun v hv => by simp at hv; subst hv; exact hp
  have ht := Tryz.underlying57
  have ht3 := Tryz.underlying3
  obtain ⟨i0, hi0, hz0, hzs, hzb⟩ := info_parts info9
  have hzz : (Tryz.prog.info? 9).map (·.size) = some 1 := by rw [hi0]; simp [hzs]
  have hdl : (xs.drop i).length = n - i := by rw [List.length_drop, hxl]
  have hgl : g < w.heap.size := (Array.getElem?_eq_some_iff.1 hg).1
  have hbl : b < w.heap.size := (Array.getElem?_eq_some_iff.1 hb).1
  unfold maxLen at hc63
  have mixed : Tryz.prog.follows .mixedOrders = true := by kernel_rfl
  have hw1 : IntKind.i64.wrap ((i : Int) + 1) = (i : Int) + 1 := by rw [IntKind.wrap_i64]; omega
  have hw2 : IntKind.i64.wrap ((n : Int) + 1) = (n : Int) + 1 := by rw [IntKind.wrap_i64]; omega
  have hz2 : ¬ ((i : Int) = (n : Int)) := by omega
  have htn : ((i : Int) + 1).toNat = i + 1 := by omega
  have hin : i ≤ n := by omega
  have hb1 : (0 : Int) ≤ (i : Int) + 1 := by omega
  have hb3 : (i : Int) ≤ (n : Int) + 1 := by omega
  by_cases hroom : n + 1 ≤ c
  · have hsp : ∀ j, j < n + 1 → (w.cell? ⟨g, 0 + j, none⟩).isSome = true := fun j hj => by
      rw [Nat.zero_add]; simp [World.cell?, hg]; omega
    have hfz : ∀ j, w.frozen? ⟨g, j, none⟩ = false := fun j => by simp [World.frozen?, hg]
    have hov : ∀ lb cb, (callFunc 216 #[.slice (some ⟨b, 0, none⟩) 1 1, .slice (some ⟨g, i + 1, none⟩) lb cb]).run Tryz.prog w = .ok (.value (.bool false)) w := fun lb cb => by
      rw [run_callFunc_extern Tryz.func216 (by kernel_rfl) (by kernel_rfl) (by kernel_rfl) (e := Extern.SlicesOverlaps.overlaps #[57, 57] #[4]) (by kernel_rfl),
        Lib.run_overlaps_apart w 57 4 9 ht 1 (fun w => by kernel_rfl) ⟨b, 0, none⟩ ⟨g, i + 1, none⟩ 1 1 lb cb hbg 9 9 1 c (by simp [World.shape?, hb]) (by simp [World.shape?, hg, hsz]) (by omega) (by simp [World.frozen?, hb]) (by simp [World.frozen?, hb])]
      rfl
    have hcp1 : ∀ ty dc sc, (Builtin.copy_ #[57, 57] ty #[.slice (some ⟨g, i + 1, none⟩) (n - i) dc, .slice (some ⟨g, i, none⟩) (n + 1 - i) sc]).run Tryz.prog w.drew = .ok (goInt (xs.drop i).length) (w.drew.setCells g (i + 1) (xs.drop i)) := fun ty dc sc =>
      run_copy_cells w.drew _ _ ty 9 g (i + 1) (n - i) dc ⟨g, i, none⟩ (n + 1 - i) sc (xs.drop i) ht hzz (by rw [hdl]; simp only [Nat.min_def]; split <;> omega)
        (fun j v hj => by rw [Addr.add_lit]; have := hcs (i + j) v (by rwa [List.getElem?_drop] at hj); rwa [Nat.zero_add] at this)
        (fun j hj => by have := hsp (i + 1 + j) (by omega); rwa [Nat.zero_add] at this) (fun j hj => hfz _) (fun v hv => h1 v (List.mem_of_mem_drop hv))
    obtain ⟨W1, hW1⟩ : ∃ W1, W1 = w.drew.setCells g (i + 1) (xs.drop i) := ⟨_, rfl⟩
    have hsp1 : ∀ k, k < n + 1 → (W1.cell? ⟨g, k, none⟩).isSome = true := fun k hk => by
      rw [hW1]
      exact isSome_setCells g _ _ _ (fun j hj => by have := hsp (i + 1 + j) (by omega); rwa [Nat.zero_add] at this) _ (by have := hsp k hk; rwa [Nat.zero_add] at this)
    have hcp2 : ∀ (W : World), (∀ x, W.cell? x = W1.cell? x) → (∀ x, W.frozen? x = W1.frozen? x) → ∀ ty dc, (Builtin.copy_ #[57, 57] ty #[.slice (some ⟨g, i, none⟩) (n + 1 - i) dc, .slice (some ⟨b, 0, none⟩) 1 1]).run Tryz.prog W = .ok (goInt [p].length) (W.setCells g i [p]) := fun W hWc hWf ty dc =>
      run_copy_cells W _ _ ty 9 g i (n + 1 - i) dc ⟨b, 0, none⟩ 1 1 [p] ht hzz (by simp only [Nat.min_def, List.length_singleton]; split <;> omega)
        (fun j v hj => by
          rw [Addr.add_lit, hWc, hW1, World.cell?_setCells_out g _ _ _ _ (fun h _ => absurd h hbg)]
          exact hvs j v hj)
        (fun j hj => by rw [hWc]; exact hsp1 _ (by simp at hj; omega)) (fun j hj => by rw [hWf, hW1, World.frozen?_setCells]; exact hfz _) h1v
    rw [← hW1] at hcp1
    have FIN : ∃ v', (Ending.returned (.slice (some ⟨g, 0, none⟩) (n + 1) c)) = .returned v' ∧ (W1.setCells g i [p]).ownsRow N 9 1 v' (n + 1) (xs.take i ++ [p] ++ xs.drop i) ∧ w.grownBy (W1.setCells g i [p]) (some g) ∧ (v'.ownBlock = some g ∨ v'.ownBlock = some w.heap.size) := by
      refine ⟨_, rfl, ?_, ?_, .inl rfl⟩
      · obtain ⟨c1, q1, q2, q3⟩ := heap_cells_put g 9 (xs.drop i) (i + 1) w.drew cur hg
        rw [← hW1] at q1
        obtain ⟨c2, r1, r2, r3⟩ := heap_cells_put g 9 [p] i W1 c1 q1
        refine ⟨by simp [hxl]; omega, .inr ⟨g, c, c2, rfl, hN, r1, hroom, hc63, by rw [r2, q2, hsz]; omega, ?_⟩⟩
        rw [Nat.mul_one]
        refine take_mid (cur := cur.toList) (i := i) hxs (by omega) (by rw [Array.length_toList]; omega) (fun k hk => ?_)
        rw [r3 k (by omega)]
        by_cases k1 : k < i
        · rw [if_pos k1, if_neg (by omega), q3 k (by omega), if_neg (by omega), ← hxs, List.getElem?_take_of_lt (by omega), Array.getElem?_toList]
        · rw [if_neg k1]
          by_cases k2 : k = i
          · rw [if_pos k2, if_pos ⟨by omega, by simp; omega⟩, k2, Nat.sub_self]; rfl
          · rw [if_neg k2, if_neg (by simp; omega), q3 k (by omega), if_pos ⟨by omega, by rw [hdl]; omega⟩, List.getElem?_drop, show i + (k - (i + 1)) = k - 1 by omega]
      · rw [hW1]
        exact grown_cells_put g (fun k _ hk e => hk (by rw [e])) _ _ _ (grown_cells_put g (fun k _ hk e => hk (by rw [e])) _ _ _ (grown_drew (grown_refl _ _)))
    have HF := hid FIN
    have hz3 : ¬ ((c : Int) < (n : Int) + 1) := by omega
    have hb2 : ¬ (c = i + 1) := by omega
    have hb4 : ¬ (c = i) := by omega
    clear FIN hsz hxs hg hb hN hNw hcs hvs h1 h1v
    go_enter Tryz.func200, Tryz.ntmps200
    go_wp2_with (simp only [hov])
    go_region_law_o (refine step_copy_runI rfl _ _ 57 57 rfl _ _ (by simp [Act.eval, Act.put]) (by simp [Act.eval, Act.put]) (hcp1 _ _ _) ?_)
    go_wp2_with (at_builtin; refine wpList_copy_runI _ rfl _ _ 57 57 rfl _ _ rfl rfl (hcp2 _ (fun _ => rfl) (fun _ => rfl) _ _) ?_)
    go_ret
    obtain ⟨v', e1, e2, e3, e4⟩ := unhid HF
    cases e1
    rw [hW1] at e2 e3
    exact ⟨_, rfl, e2, e3, e4⟩
  · have hceq : c = n := by omega
    have hkk : (n : Int) + 1 - (i : Int) = ((n + 1 - i : Nat) : Int) := by omega
    have hik : i + (n + 1 - i) = n + 1 := by omega
    have hold : (Builtin.firstCells i0.size i (.slice (some ⟨g, 0, none⟩) i c)).run Tryz.prog w.drew = .ok (xs.take i).toArray w.drew := by
      rw [hzs]
      exact run_firstCells_some w.drew 1 i ⟨g, 0, none⟩ i c (xs.take i) (by rw [List.length_take]; omega) (fun j v hj => by
        rw [Addr.add_lit]
        rw [List.getElem?_take] at hj
        split at hj
        · exact hcs j v hj
        · cases hj)
    have hrz : ∀ ty, (Builtin.append_ #[57, 3] ty #[.slice (some ⟨g, 0, none⟩) i c, .int .i64 ((n : Int) + 1 - (i : Int))]).run Tryz.prog w =
        .ok (.slice (some ⟨w.heap.size, 0, none⟩) (n + 1) (grownCap w (n + 1) c 9)) (w.drew.alloc (.cells ((xs.take i).toArray ++ Builtin.zeroCells (Value.string ⟨#[]⟩).cells (n + 1 - i) ++ Builtin.zeroCells (Value.string ⟨#[]⟩).cells (grownCap w (n + 1) c 9 - (n + 1))) 9)) := fun ty => by
      have h := Lib.run_append_grow_zeros w 57 3 ty 9 i0 _ .i64 .i64 ht ht3 hi0 hz0 (some ⟨g, 0, none⟩) i c (xs.take i) hold (n + 1 - i) (by omega) (by omega) (by omega) (by omega) (by rw [hzb]; omega) (by rw [hzb, hik]; exact growslice_fits (by omega) (by omega))
      rw [hik] at h
      rw [hkk]
      exact h
    obtain ⟨G, hG⟩ : ∃ G, G = grownCap w (n + 1) c 9 := ⟨_, rfl⟩
    obtain ⟨ROW, hROW⟩ : ∃ ROW : Array Value, ROW = (xs.take i).toArray ++ Builtin.zeroCells (Value.string ⟨#[]⟩).cells (n + 1 - i) ++ Builtin.zeroCells (Value.string ⟨#[]⟩).cells (G - (n + 1)) := ⟨_, rfl⟩
    rw [← hG, ← hROW] at hrz
    have hGn : n + 1 ≤ G := by rw [hG]; exact grownCap_ge w _ _ _
    have hRs : ROW.size = G := by
      rw [hROW]
      simp [Builtin.zeroCells, Value.cells, hxl]
      omega
    have hRt : ∀ k, k < i → ROW[k]? = xs[k]? := fun k hk => by
      rw [hROW, Array.append_assoc, Array.getElem?_append_left (by simp [hxl]; omega)]
      simp [List.getElem?_take_of_lt hk]
    obtain ⟨W1, hW1⟩ : ∃ W1, W1 = w.drew.alloc (.cells ROW 9) := ⟨_, rfl⟩
    rw [← hW1] at hrz
    have hNew : W1.heap[w.heap.size]? = some (.cells ROW 9 (0, 0)) := by rw [hW1]; exact World.alloc_heap_new w.drew _
    have hNs : ∀ j, j < n + 1 → (W1.cell? ⟨w.heap.size, j, none⟩).isSome = true := fun j hj => by
      simp [World.cell?, hNew]; omega
    have hNf : ∀ j, W1.frozen? ⟨w.heap.size, j, none⟩ = false := fun j => by simp [World.frozen?, hNew]
    have hOb : ∀ j v, w.cell? ⟨g, j, none⟩ = some v → W1.cell? ⟨g, j, none⟩ = some v := fun j v h => by rw [hW1, World.cell?_alloc_past (w := w.drew) _ g j hgl]; exact h
    have hOv : ∀ j v, w.cell? ⟨b, j, none⟩ = some v → W1.cell? ⟨b, j, none⟩ = some v := fun j v h => by rw [hW1, World.cell?_alloc_past (w := w.drew) _ b j hbl]; exact h
    have hcpA : ∀ (W : World), (∀ x, W.cell? x = W1.cell? x) → (∀ x, W.frozen? x = W1.frozen? x) → ∀ ty dc, (Builtin.copy_ #[57, 57] ty #[.slice (some ⟨w.heap.size, i, none⟩) (n + 1 - i) dc, .slice (some ⟨b, 0, none⟩) 1 1]).run Tryz.prog W = .ok (goInt [p].length) (W.setCells w.heap.size i [p]) := fun W hWc hWf ty dc =>
      run_copy_cells W _ _ ty 9 w.heap.size i (n + 1 - i) dc ⟨b, 0, none⟩ 1 1 [p] ht hzz (by simp only [Nat.min_def, List.length_singleton]; split <;> omega)
        (fun j v hj => by rw [Addr.add_lit, hWc]; exact hOv _ v (hvs j v hj))
        (fun j hj => by rw [hWc]; exact hNs _ (by simp at hj; omega)) (fun j hj => by rw [hWf]; exact hNf _) h1v
    have hG63 : G ≤ 9223372036854775807 := by
      have := grownCap_le_maxLen w (n + 1) c 9 (by unfold maxLen; omega)
      rw [← hG] at this
      unfold maxLen at this
      omega
    have hgN : g ≠ w.heap.size := by omega
    have hcpB : ∀ (W : World), (∀ x, W.cell? x = (W1.setCells w.heap.size i [p]).cell? x) → (∀ x, W.frozen? x = (W1.setCells w.heap.size i [p]).frozen? x) → ∀ ty dc sc, (Builtin.copy_ #[57, 57] ty #[.slice (some ⟨w.heap.size, i + 1, none⟩) (n - i) dc, .slice (some ⟨g, i, none⟩) (n - i) sc]).run Tryz.prog W = .ok (goInt (xs.drop i).length) (W.setCells w.heap.size (i + 1) (xs.drop i)) := fun W hWc hWf ty dc sc =>
      run_copy_cells W _ _ ty 9 w.heap.size (i + 1) (n - i) dc ⟨g, i, none⟩ (n - i) sc (xs.drop i) ht hzz (by rw [hdl]; simp only [Nat.min_def]; split <;> omega)
        (fun j v hj => by
          rw [Addr.add_lit, hWc, World.cell?_setCells_out _ _ _ _ _ (fun h _ => absurd h hgN)]
          have := hcs (i + j) v (by rwa [List.getElem?_drop] at hj)
          rw [Nat.zero_add] at this
          exact hOb _ v this)
        (fun j hj => by rw [hWc]; exact isSome_setCells _ _ _ _ (fun t ht => hNs _ (by simp at ht; omega)) _ (hNs _ (by omega)))
        (fun j hj => by rw [hWf, World.frozen?_setCells]; exact hNf _) (fun v hv => h1 v (List.mem_of_mem_drop hv))
    have FIN : ∀ W2 : World, W2 = (((w.alloc (.cells ROW 9)).drew.setCells w.heap.size i [p]).drew).setCells w.heap.size (i + 1) (xs.drop i) → ∃ v', (Ending.returned (.slice (some ⟨w.heap.size, 0, none⟩) (n + 1) G)) = .returned v' ∧ W2.ownsRow N 9 1 v' (n + 1) (xs.take i ++ [p] ++ xs.drop i) ∧ w.grownBy W2 (some g) ∧ (v'.ownBlock = some g ∨ v'.ownBlock = some w.heap.size) := fun W2 hW2 => by
      refine ⟨_, rfl, ?_, ?_, .inr rfl⟩
      · obtain ⟨c1, q1, q2, q3⟩ := heap_cells_put w.heap.size 9 [p] i (w.alloc (.cells ROW 9)).drew ROW (World.alloc_heap_new w _)
        obtain ⟨c2, r1, r2, r3⟩ := heap_cells_put w.heap.size 9 (xs.drop i) (i + 1) ((w.alloc (.cells ROW 9)).drew.setCells w.heap.size i [p]).drew c1 q1
        rw [hW2]
        refine ⟨by simp [hxl]; omega, .inr ⟨w.heap.size, G, c2, rfl, hNw, r1, hGn, hG63, by rw [r2, q2, hRs]; omega, ?_⟩⟩
        rw [Nat.mul_one]
        refine take_mid (cur := cur.toList) (i := i) hxs (by omega) (by rw [Array.length_toList]; omega) (fun k hk => ?_)
        rw [r3 k (by omega)]
        by_cases k1 : k < i
        · rw [if_pos k1, if_neg (by omega), q3 k (by omega), if_neg (by omega), hRt k k1]
        · rw [if_neg k1]
          by_cases k2 : k = i
          · rw [if_pos k2, if_neg (by omega), q3 k (by omega), if_pos ⟨by omega, by simp; omega⟩, k2, Nat.sub_self]; rfl
          · rw [if_neg k2, if_pos ⟨by omega, by rw [hdl]; omega⟩, List.getElem?_drop, show i + (k - (i + 1)) = k - 1 by omega]
      · rw [hW2]
        exact grown_cells_put w.heap.size (fun k hk _ e => by omega) _ _ _ (grown_drew (grown_cells_put w.heap.size (fun k hk _ e => by omega) _ _ _ (grown_drew ⟨rfl, rfl, rfl, by simp, fun k hk _ => Below.heap_alloc _ _ _ hk⟩)))
    have HF := hid FIN
    have hGi : ¬ (G = i) := by omega
    have hGim : ¬ (G = i + 1) := by omega
    have hci : ¬ (c = i) := by omega
    have hz3 : (c : Int) < (n : Int) + 1 := by omega
    subst hW1
    have hE1 : ∀ x, ((w.alloc (.cells ROW 9)).drew).cell? x = (w.drew.alloc (.cells ROW 9)).cell? x := fun x => rfl
    have hE2 : ∀ x, ((w.alloc (.cells ROW 9)).drew).frozen? x = (w.drew.alloc (.cells ROW 9)).frozen? x := fun x => rfl
    have hF1 : ∀ x, (((w.alloc (.cells ROW 9)).drew.setCells w.heap.size i [p]).drew).cell? x = ((w.drew.alloc (.cells ROW 9)).setCells w.heap.size i [p]).cell? x := fun x => rfl
    have hF2 : ∀ x, (((w.alloc (.cells ROW 9)).drew.setCells w.heap.size i [p]).drew).frozen? x = ((w.drew.alloc (.cells ROW 9)).setCells w.heap.size i [p]).frozen? x := fun x => rfl
    have HRZ := hid hrz
    have HCA := hid (fun ty dc => hcpA _ hE1 hE2 ty dc)
    have HCB := hid (fun ty dc sc => hcpB _ hF1 hF2 ty dc sc)
    subst hceq
    clear FIN hkk hik hold hROW hG hRt hRs hNew hNs hNf hOb hOv hsz hxs hg hb hN hNw hcs hvs h1 h1v hE1 hE2 hF1 hF2 hcpA hcpB hrz hz3 hi0 hz0 hzs hzb hzz ht ht3 hroom hgl hbl hxl hdl
    go_enter Tryz.func200, Tryz.ntmps200
    go_wp2_with (at_builtin; refine Lib.wpList_append_run _ rfl _ _ _ _ rfl (.slice (some ⟨g, 0, none⟩) i c) (.int .i64 ((c : Int) + 1 - (i : Int))) rfl rfl _ _ (unhid HRZ _) ?_; clear HRZ; have hcA := unhid HCA; clear HCA; go_wp2_with (simp only [hcA]); clear hcA)
    have HCB1 := hid (unhid HCB 3 (G - (i + 1)) (c - i))
    clear HCB
    go_region_law_o (refine step_copy_runI rfl _ _ 57 57 rfl (.slice (some ⟨w.heap.size, i + 1, none⟩) (c - i) (G - (i + 1))) (.slice (some ⟨g, i, none⟩) (c - i) (c - i)) (by simp [Act.eval, Act.put]) (by simp [Act.eval, Act.put]) (unhid HCB1) ?_)
    go_wp2
    go_ret
    obtain ⟨v', e1, e2, e3, e4⟩ := unhid HF _ rfl
    cases e1
    exact ⟨_, rfl, e2, e3, e4⟩

set_option maxHeartbeats 4000000 in
set_option maxRecDepth 100000 in
theorem InsertN_mid (N n c i g b : Nat) (cur : Array Value) (xs : List Value) (p : Value) (hp : p.oneCell' = true) (w : World) (hi : i < n) (hnc : n ≤ c) (hc63 : c ≤ maxLen) (hn : n ≤ 1000) (hN : N ≤ g) (hNw : N ≤ w.heap.size) (hg : w.heap[g]? = some (.cells cur 162 (0, 0))) (hsz : cur.size = c) (hxs : cur.toList.take n = xs) (hbg : b ≠ g) (hb : w.heap[b]? = some (.cells #[p] 162 (0, 0))) (h1 : ∀ v ∈ xs, v.oneCell' = true) :
    Calls Tryz.prog 201 #[.slice (some ⟨g, 0, .none⟩) n c, .int .i64 i, .slice (some ⟨b, 0, .none⟩) 1 1] w fun x w' => ∃ v', x = .returned v' ∧ w'.ownsRow N 162 1 v' (n + 1) (xs.take i ++ [p] ++ xs.drop i) ∧ w.grownBy w' (some g) ∧ (v'.ownBlock = some g ∨ v'.ownBlock = some w.heap.size) := by
  have hxl : xs.length = n := by rw [← hxs, List.length_take, Array.length_toList]; omega
  have hcs : ∀ j v, xs[j]? = some v → w.cell? ⟨g, 0 + j, none⟩ = some v := fun j v hj => by
    have hjn : j < n := by rw [← hxl]; exact (List.getElem?_eq_some_iff.1 hj).1
    rw [← hxs, List.getElem?_take_of_lt hjn, Array.getElem?_toList] at hj
    rw [Nat.zero_add]
    simp [World.cell?, hg, hj]
  have hvs : ∀ j v, [p][j]? = some v → w.cell? ⟨b, 0 + j, none⟩ = some v := fun j v hj => by
    match j with
    | 0 => simp at hj; subst hj; simp [World.cell?, hb]
    | j + 1 => simp at hj
  have h1v : ∀ v ∈ [p], v.oneCell' = true := fun v hv => by simp at hv; subst hv; exact hp
  have ht := Tryz.underlying141
  have ht3 := Tryz.underlying3
  obtain ⟨i0, hi0, hz0, hzs, hzb⟩ := info_parts infoNode
  have hzz : (Tryz.prog.info? 162).map (·.size) = some 1 := by rw [hi0]; simp [hzs]
  have hdl : (xs.drop i).length = n - i := by rw [List.length_drop, hxl]
  have hgl : g < w.heap.size := (Array.getElem?_eq_some_iff.1 hg).1
  have hbl : b < w.heap.size := (Array.getElem?_eq_some_iff.1 hb).1
  unfold maxLen at hc63
  have mixed : Tryz.prog.follows .mixedOrders = true := by kernel_rfl
  have hw1 : IntKind.i64.wrap ((i : Int) + 1) = (i : Int) + 1 := by rw [IntKind.wrap_i64]; omega
  have hw2 : IntKind.i64.wrap ((n : Int) + 1) = (n : Int) + 1 := by rw [IntKind.wrap_i64]; omega
  have hz2 : ¬ ((i : Int) = (n : Int)) := by omega
  have htn : ((i : Int) + 1).toNat = i + 1 := by omega
  have hin : i ≤ n := by omega
  have hb1 : (0 : Int) ≤ (i : Int) + 1 := by omega
  have hb3 : (i : Int) ≤ (n : Int) + 1 := by omega
  by_cases hroom : n + 1 ≤ c
  · have hsp : ∀ j, j < n + 1 → (w.cell? ⟨g, 0 + j, none⟩).isSome = true := fun j hj => by
      rw [Nat.zero_add]; simp [World.cell?, hg]; omega
    have hfz : ∀ j, w.frozen? ⟨g, j, none⟩ = false := fun j => by simp [World.frozen?, hg]
    have hov : ∀ lb cb, (callFunc 218 #[.slice (some ⟨b, 0, none⟩) 1 1, .slice (some ⟨g, i + 1, none⟩) lb cb]).run Tryz.prog w = .ok (.value (.bool false)) w := fun lb cb => by
      rw [run_callFunc_extern Tryz.func218 (by kernel_rfl) (by kernel_rfl) (by kernel_rfl) (e := Extern.SlicesOverlaps.overlaps #[141, 141] #[4]) (by kernel_rfl),
        Lib.run_overlaps_apart w 141 4 162 ht 1 (fun w => by kernel_rfl) ⟨b, 0, none⟩ ⟨g, i + 1, none⟩ 1 1 lb cb hbg 162 162 1 c (by simp [World.shape?, hb]) (by simp [World.shape?, hg, hsz]) (by omega) (by simp [World.frozen?, hb]) (by simp [World.frozen?, hb])]
      rfl
    have hcp1 : ∀ ty dc sc, (Builtin.copy_ #[141, 141] ty #[.slice (some ⟨g, i + 1, none⟩) (n - i) dc, .slice (some ⟨g, i, none⟩) (n + 1 - i) sc]).run Tryz.prog w.drew = .ok (goInt (xs.drop i).length) (w.drew.setCells g (i + 1) (xs.drop i)) := fun ty dc sc =>
      run_copy_cells w.drew _ _ ty 162 g (i + 1) (n - i) dc ⟨g, i, none⟩ (n + 1 - i) sc (xs.drop i) ht hzz (by rw [hdl]; simp only [Nat.min_def]; split <;> omega)
        (fun j v hj => by rw [Addr.add_lit]; have := hcs (i + j) v (by rwa [List.getElem?_drop] at hj); rwa [Nat.zero_add] at this)
        (fun j hj => by have := hsp (i + 1 + j) (by omega); rwa [Nat.zero_add] at this) (fun j hj => hfz _) (fun v hv => h1 v (List.mem_of_mem_drop hv))
    obtain ⟨W1, hW1⟩ : ∃ W1, W1 = w.drew.setCells g (i + 1) (xs.drop i) := ⟨_, rfl⟩
    have hsp1 : ∀ k, k < n + 1 → (W1.cell? ⟨g, k, none⟩).isSome = true := fun k hk => by
      rw [hW1]
      exact isSome_setCells g _ _ _ (fun j hj => by have := hsp (i + 1 + j) (by omega); rwa [Nat.zero_add] at this) _ (by have := hsp k hk; rwa [Nat.zero_add] at this)
    have hcp2 : ∀ (W : World), (∀ x, W.cell? x = W1.cell? x) → (∀ x, W.frozen? x = W1.frozen? x) → ∀ ty dc, (Builtin.copy_ #[141, 141] ty #[.slice (some ⟨g, i, none⟩) (n + 1 - i) dc, .slice (some ⟨b, 0, none⟩) 1 1]).run Tryz.prog W = .ok (goInt [p].length) (W.setCells g i [p]) := fun W hWc hWf ty dc =>
      run_copy_cells W _ _ ty 162 g i (n + 1 - i) dc ⟨b, 0, none⟩ 1 1 [p] ht hzz (by simp only [Nat.min_def, List.length_singleton]; split <;> omega)
        (fun j v hj => by
          rw [Addr.add_lit, hWc, hW1, World.cell?_setCells_out g _ _ _ _ (fun h _ => absurd h hbg)]
          exact hvs j v hj)
        (fun j hj => by rw [hWc]; exact hsp1 _ (by simp at hj; omega)) (fun j hj => by rw [hWf, hW1, World.frozen?_setCells]; exact hfz _) h1v
    rw [← hW1] at hcp1
    have FIN : ∃ v', (Ending.returned (.slice (some ⟨g, 0, none⟩) (n + 1) c)) = .returned v' ∧ (W1.setCells g i [p]).ownsRow N 162 1 v' (n + 1) (xs.take i ++ [p] ++ xs.drop i) ∧ w.grownBy (W1.setCells g i [p]) (some g) ∧ (v'.ownBlock = some g ∨ v'.ownBlock = some w.heap.size) := by
      refine ⟨_, rfl, ?_, ?_, .inl rfl⟩
      · obtain ⟨c1, q1, q2, q3⟩ := heap_cells_put g 162 (xs.drop i) (i + 1) w.drew cur hg
        rw [← hW1] at q1
        obtain ⟨c2, r1, r2, r3⟩ := heap_cells_put g 162 [p] i W1 c1 q1
        refine ⟨by simp [hxl]; omega, .inr ⟨g, c, c2, rfl, hN, r1, hroom, hc63, by rw [r2, q2, hsz]; omega, ?_⟩⟩
        rw [Nat.mul_one]
        refine take_mid (cur := cur.toList) (i := i) hxs (by omega) (by rw [Array.length_toList]; omega) (fun k hk => ?_)
        rw [r3 k (by omega)]
        by_cases k1 : k < i
        · rw [if_pos k1, if_neg (by omega), q3 k (by omega), if_neg (by omega), ← hxs, List.getElem?_take_of_lt (by omega), Array.getElem?_toList]
        · rw [if_neg k1]
          by_cases k2 : k = i
          · rw [if_pos k2, if_pos ⟨by omega, by simp; omega⟩, k2, Nat.sub_self]; rfl
          · rw [if_neg k2, if_neg (by simp; omega), q3 k (by omega), if_pos ⟨by omega, by rw [hdl]; omega⟩, List.getElem?_drop, show i + (k - (i + 1)) = k - 1 by omega]
      · rw [hW1]
        exact grown_cells_put g (fun k _ hk e => hk (by rw [e])) _ _ _ (grown_cells_put g (fun k _ hk e => hk (by rw [e])) _ _ _ (grown_drew (grown_refl _ _)))
    have HF := hid FIN
    have hz3 : ¬ ((c : Int) < (n : Int) + 1) := by omega
    have hb2 : ¬ (c = i + 1) := by omega
    have hb4 : ¬ (c = i) := by omega
    clear FIN hsz hxs hg hb hN hNw hcs hvs h1 h1v
    go_enter Tryz.func201, Tryz.ntmps201
    go_wp2_with (simp only [hov])
    go_region_law_o (refine step_copy_runI rfl _ _ 141 141 rfl _ _ (by simp [Act.eval, Act.put]) (by simp [Act.eval, Act.put]) (hcp1 _ _ _) ?_)
    go_wp2_with (at_builtin; refine wpList_copy_runI _ rfl _ _ 141 141 rfl _ _ rfl rfl (hcp2 _ (fun _ => rfl) (fun _ => rfl) _ _) ?_)
    go_ret
    obtain ⟨v', e1, e2, e3, e4⟩ := unhid HF
    cases e1
    rw [hW1] at e2 e3
    exact ⟨_, rfl, e2, e3, e4⟩
  · have hceq : c = n := by omega
    have hkk : (n : Int) + 1 - (i : Int) = ((n + 1 - i : Nat) : Int) := by omega
    have hik : i + (n + 1 - i) = n + 1 := by omega
    have hold : (Builtin.firstCells i0.size i (.slice (some ⟨g, 0, none⟩) i c)).run Tryz.prog w.drew = .ok (xs.take i).toArray w.drew := by
      rw [hzs]
      exact run_firstCells_some w.drew 1 i ⟨g, 0, none⟩ i c (xs.take i) (by rw [List.length_take]; omega) (fun j v hj => by
        rw [Addr.add_lit]
        rw [List.getElem?_take] at hj
        split at hj
        · exact hcs j v hj
        · cases hj)
    have hrz : ∀ ty, (Builtin.append_ #[141, 3] ty #[.slice (some ⟨g, 0, none⟩) i c, .int .i64 ((n : Int) + 1 - (i : Int))]).run Tryz.prog w =
        .ok (.slice (some ⟨w.heap.size, 0, none⟩) (n + 1) (grownCap w (n + 1) c 162)) (w.drew.alloc (.cells ((xs.take i).toArray ++ Builtin.zeroCells (Value.nilIface).cells (n + 1 - i) ++ Builtin.zeroCells (Value.nilIface).cells (grownCap w (n + 1) c 162 - (n + 1))) 162)) := fun ty => by
      have h := Lib.run_append_grow_zeros w 141 3 ty 162 i0 _ .i64 .i64 ht ht3 hi0 hz0 (some ⟨g, 0, none⟩) i c (xs.take i) hold (n + 1 - i) (by omega) (by omega) (by omega) (by omega) (by rw [hzb]; omega) (by rw [hzb, hik]; exact growslice_fits (by omega) (by omega))
      rw [hik] at h
      rw [hkk]
      exact h
    obtain ⟨G, hG⟩ : ∃ G, G = grownCap w (n + 1) c 162 := ⟨_, rfl⟩
    obtain ⟨ROW, hROW⟩ : ∃ ROW : Array Value, ROW = (xs.take i).toArray ++ Builtin.zeroCells (Value.nilIface).cells (n + 1 - i) ++ Builtin.zeroCells (Value.nilIface).cells (G - (n + 1)) := ⟨_, rfl⟩
    rw [← hG, ← hROW] at hrz
    have hGn : n + 1 ≤ G := by rw [hG]; exact grownCap_ge w _ _ _
    have hRs : ROW.size = G := by
      rw [hROW]
      simp [Builtin.zeroCells, Value.cells, hxl]
      omega
    have hRt : ∀ k, k < i → ROW[k]? = xs[k]? := fun k hk => by
      rw [hROW, Array.append_assoc, Array.getElem?_append_left (by simp [hxl]; omega)]
      simp [List.getElem?_take_of_lt hk]
    obtain ⟨W1, hW1⟩ : ∃ W1, W1 = w.drew.alloc (.cells ROW 162) := ⟨_, rfl⟩
    rw [← hW1] at hrz
    have hNew : W1.heap[w.heap.size]? = some (.cells ROW 162 (0, 0)) := by rw [hW1]; exact World.alloc_heap_new w.drew _
    have hNs : ∀ j, j < n + 1 → (W1.cell? ⟨w.heap.size, j, none⟩).isSome = true := fun j hj => by
      simp [World.cell?, hNew]; omega
    have hNf : ∀ j, W1.frozen? ⟨w.heap.size, j, none⟩ = false := fun j => by simp [World.frozen?, hNew]
    have hOb : ∀ j v, w.cell? ⟨g, j, none⟩ = some v → W1.cell? ⟨g, j, none⟩ = some v := fun j v h => by rw [hW1, World.cell?_alloc_past (w := w.drew) _ g j hgl]; exact h
    have hOv : ∀ j v, w.cell? ⟨b, j, none⟩ = some v → W1.cell? ⟨b, j, none⟩ = some v := fun j v h => by rw [hW1, World.cell?_alloc_past (w := w.drew) _ b j hbl]; exact h
    have hcpA : ∀ (W : World), (∀ x, W.cell? x = W1.cell? x) → (∀ x, W.frozen? x = W1.frozen? x) → ∀ ty dc, (Builtin.copy_ #[141, 141] ty #[.slice (some ⟨w.heap.size, i, none⟩) (n + 1 - i) dc, .slice (some ⟨b, 0, none⟩) 1 1]).run Tryz.prog W = .ok (goInt [p].length) (W.setCells w.heap.size i [p]) := fun W hWc hWf ty dc =>
      run_copy_cells W _ _ ty 162 w.heap.size i (n + 1 - i) dc ⟨b, 0, none⟩ 1 1 [p] ht hzz (by simp only [Nat.min_def, List.length_singleton]; split <;> omega)
        (fun j v hj => by rw [Addr.add_lit, hWc]; exact hOv _ v (hvs j v hj))
        (fun j hj => by rw [hWc]; exact hNs _ (by simp at hj; omega)) (fun j hj => by rw [hWf]; exact hNf _) h1v
    have hG63 : G ≤ 9223372036854775807 := by
      have := grownCap_le_maxLen w (n + 1) c 162 (by unfold maxLen; omega)
      rw [← hG] at this
      unfold maxLen at this
      omega
    have hgN : g ≠ w.heap.size := by omega
    have hcpB : ∀ (W : World), (∀ x, W.cell? x = (W1.setCells w.heap.size i [p]).cell? x) → (∀ x, W.frozen? x = (W1.setCells w.heap.size i [p]).frozen? x) → ∀ ty dc sc, (Builtin.copy_ #[141, 141] ty #[.slice (some ⟨w.heap.size, i + 1, none⟩) (n - i) dc, .slice (some ⟨g, i, none⟩) (n - i) sc]).run Tryz.prog W = .ok (goInt (xs.drop i).length) (W.setCells w.heap.size (i + 1) (xs.drop i)) := fun W hWc hWf ty dc sc =>
      run_copy_cells W _ _ ty 162 w.heap.size (i + 1) (n - i) dc ⟨g, i, none⟩ (n - i) sc (xs.drop i) ht hzz (by rw [hdl]; simp only [Nat.min_def]; split <;> omega)
        (fun j v hj => by
          rw [Addr.add_lit, hWc, World.cell?_setCells_out _ _ _ _ _ (fun h _ => absurd h hgN)]
          have := hcs (i + j) v (by rwa [List.getElem?_drop] at hj)
          rw [Nat.zero_add] at this
          exact hOb _ v this)
        (fun j hj => by rw [hWc]; exact isSome_setCells _ _ _ _ (fun t ht => hNs _ (by simp at ht; omega)) _ (hNs _ (by omega)))
        (fun j hj => by rw [hWf, World.frozen?_setCells]; exact hNf _) (fun v hv => h1 v (List.mem_of_mem_drop hv))
    have FIN : ∀ W2 : World, W2 = (((w.alloc (.cells ROW 162)).drew.setCells w.heap.size i [p]).drew).setCells w.heap.size (i + 1) (xs.drop i) → ∃ v', (Ending.returned (.slice (some ⟨w.heap.size, 0, none⟩) (n + 1) G)) = .returned v' ∧ W2.ownsRow N 162 1 v' (n + 1) (xs.take i ++ [p] ++ xs.drop i) ∧ w.grownBy W2 (some g) ∧ (v'.ownBlock = some g ∨ v'.ownBlock = some w.heap.size) := fun W2 hW2 => by
      refine ⟨_, rfl, ?_, ?_, .inr rfl⟩
      · obtain ⟨c1, q1, q2, q3⟩ := heap_cells_put w.heap.size 162 [p] i (w.alloc (.cells ROW 162)).drew ROW (World.alloc_heap_new w _)
        obtain ⟨c2, r1, r2, r3⟩ := heap_cells_put w.heap.size 162 (xs.drop i) (i + 1) ((w.alloc (.cells ROW 162)).drew.setCells w.heap.size i [p]).drew c1 q1
        rw [hW2]
        refine ⟨by simp [hxl]; omega, .inr ⟨w.heap.size, G, c2, rfl, hNw, r1, hGn, hG63, by rw [r2, q2, hRs]; omega, ?_⟩⟩
        rw [Nat.mul_one]
        refine take_mid (cur := cur.toList) (i := i) hxs (by omega) (by rw [Array.length_toList]; omega) (fun k hk => ?_)
        rw [r3 k (by omega)]
        by_cases k1 : k < i
        · rw [if_pos k1, if_neg (by omega), q3 k (by omega), if_neg (by omega), hRt k k1]
        · rw [if_neg k1]
          by_cases k2 : k = i
          · rw [if_pos k2, if_neg (by omega), q3 k (by omega), if_pos ⟨by omega, by simp; omega⟩, k2, Nat.sub_self]; rfl
          · rw [if_neg k2, if_pos ⟨by omega, by rw [hdl]; omega⟩, List.getElem?_drop, show i + (k - (i + 1)) = k - 1 by omega]
      · rw [hW2]
        exact grown_cells_put w.heap.size (fun k hk _ e => by omega) _ _ _ (grown_drew (grown_cells_put w.heap.size (fun k hk _ e => by omega) _ _ _ (grown_drew ⟨rfl, rfl, rfl, by simp, fun k hk _ => Below.heap_alloc _ _ _ hk⟩)))
    have HF := hid FIN
    have hGi : ¬ (G = i) := by omega
    have hGim : ¬ (G = i + 1) := by omega
    have hci : ¬ (c = i) := by omega
    have hz3 : (c : Int) < (n : Int) + 1 := by omega
    subst hW1
    have hE1 : ∀ x, ((w.alloc (.cells ROW 162)).drew).cell? x = (w.drew.alloc (.cells ROW 162)).cell? x := fun x => rfl
    have hE2 : ∀ x, ((w.alloc (.cells ROW 162)).drew).frozen? x = (w.drew.alloc (.cells ROW 162)).frozen? x := fun x => rfl
    have hF1 : ∀ x, (((w.alloc (.cells ROW 162)).drew.setCells w.heap.size i [p]).drew).cell? x = ((w.drew.alloc (.cells ROW 162)).setCells w.heap.size i [p]).cell? x := fun x => rfl
    have hF2 : ∀ x, (((w.alloc (.cells ROW 162)).drew.setCells w.heap.size i [p]).drew).frozen? x = ((w.drew.alloc (.cells ROW 162)).setCells w.heap.size i [p]).frozen? x := fun x => rfl
    have HRZ := hid hrz
    have HCA := hid (fun ty dc => hcpA _ hE1 hE2 ty dc)
    have HCB := hid (fun ty dc sc => hcpB _ hF1 hF2 ty dc sc)
    subst hceq
    clear FIN hkk hik hold hROW hG hRt hRs hNew hNs hNf hOb hOv hsz hxs hg hb hN hNw hcs hvs h1 h1v hE1 hE2 hF1 hF2 hcpA hcpB hrz hz3 hi0 hz0 hzs hzb hzz ht ht3 hroom hgl hbl hxl hdl
    go_enter Tryz.func201, Tryz.ntmps201
    go_wp2_with (at_builtin; refine Lib.wpList_append_run _ rfl _ _ _ _ rfl (.slice (some ⟨g, 0, none⟩) i c) (.int .i64 ((c : Int) + 1 - (i : Int))) rfl rfl _ _ (unhid HRZ _) ?_; clear HRZ; have hcA := unhid HCA; clear HCA; go_wp2_with (simp only [hcA]); clear hcA)
    have HCB1 := hid (unhid HCB 3 (G - (i + 1)) (c - i))
    clear HCB
    go_region_law_o (refine step_copy_runI rfl _ _ 141 141 rfl (.slice (some ⟨w.heap.size, i + 1, none⟩) (c - i) (G - (i + 1))) (.slice (some ⟨g, i, none⟩) (c - i) (c - i)) (by simp [Act.eval, Act.put]) (by simp [Act.eval, Act.put]) (unhid HCB1) ?_)
    go_wp2
    go_ret
    obtain ⟨v', e1, e2, e3, e4⟩ := unhid HF _ rfl
    cases e1
    exact ⟨_, rfl, e2, e3, e4⟩

theorem InsertS_any (N n i b : Nat) (v : Value) (xs : List Value) (p : ByteArray) (w : World) (hi : i ≤ n) (hn : n ≤ 1000) (hNw : N ≤ w.heap.size) (h : w.ownsRow N 9 1 v n xs) (hbo : v.ownBlock ≠ some b) (hb : w.heap[b]? = some (.cells #[.string p] 9 (0, 0))) (h1 : ∀ v ∈ xs, v.oneCell' = true) :
    Calls Tryz.prog 200 #[v, .int .i64 i, .slice (some ⟨b, 0, .none⟩) 1 1] w fun x w' => ∃ v', x = .returned v' ∧ w'.ownsRow N 9 1 v' (n + 1) (xs.take i ++ [.string p] ++ xs.drop i) ∧ w.grownBy w' v.ownBlock ∧ (v'.ownBlock = v.ownBlock ∨ v'.ownBlock = some w.heap.size) := by
  by_cases hin : i = n
  · subst hin
    have hxl : xs.length = i := by have := h.1; omega
    rw [List.take_of_length_le (by omega), List.drop_of_length_le (by omega), List.append_nil]
    exact InsertS_end N v i xs b p w hn hNw h (by simp [World.cell?, hb])
  · rcases h.2 with ⟨rfl, h0⟩ | ⟨g, cap, cur, rfl, hg0, hg, hc, hm, hsz, hcells⟩
    · omega
    · exact InsertS_mid N n cap i g b cur xs (.string p) rfl w (by omega) hc hm hn hg0 hNw hg (by omega) (by rw [← hcells, Nat.mul_one]) (fun e => hbo (by rw [e]; rfl)) hb h1

theorem InsertN_any (N n i b : Nat) (v : Value) (xs : List Value) (e : Ent) (w : World) (hi : i ≤ n) (hn : n ≤ 1000) (hNw : N ≤ w.heap.size) (h : w.ownsRow N 162 1 v n xs) (hbo : v.ownBlock ≠ some b) (hb : w.heap[b]? = some (.cells #[nodeV e] 162 (0, 0))) (h1 : ∀ v ∈ xs, v.oneCell' = true) :
    Calls Tryz.prog 201 #[v, .int .i64 i, .slice (some ⟨b, 0, .none⟩) 1 1] w fun x w' => ∃ v', x = .returned v' ∧ w'.ownsRow N 162 1 v' (n + 1) (xs.take i ++ [nodeV e] ++ xs.drop i) ∧ w.grownBy w' v.ownBlock ∧ (v'.ownBlock = v.ownBlock ∨ v'.ownBlock = some w.heap.size) := by
  by_cases hin : i = n
  · subst hin
    have hxl : xs.length = i := by have := h.1; omega
    rw [List.take_of_length_le (by omega), List.drop_of_length_le (by omega), List.append_nil]
    exact InsertN_end N v i xs b e w hn hNw h (by simp [World.cell?, hb])
  · rcases h.2 with ⟨rfl, h0⟩ | ⟨g, cap, cur, rfl, hg0, hg, hc, hm, hsz, hcells⟩
    · omega
    · exact InsertN_mid N n cap i g b cur xs (nodeV e) (nodeV_one e) w (by omega) hc hm hn hg0 hNw hg (by omega) (by rw [← hcells, Nat.mul_one]) (fun e => hbo (by rw [e]; rfl)) hb h1
end Go.Proofs.YtlnpjiabdebmgaaGreat

/- An entry put into a tree, wherever its place is. -/
namespace Go.Proofs.YtlnpjiabdebmgaaGreat
open Go.RowKit Go.Shelf

/-- Entries with one more in its place. -/
def insAt (es : List Ent) (e : Ent) : List Ent := es.take (placeE es e.path) ++ [e] ++ es.drop (placeE es e.path)

set_option maxRecDepth 100000 in
set_option maxHeartbeats 4000000 in
theorem mapPut_ins (N bt : Nat) (es : List Ent) (e : Ent) (w : World) (hn : es.length ≤ 900) (ha : Asc (pathsOf es)) (hN : N ≤ bt) (ht0 : thereE es e.path = false) (h : TreeAt w N bt es) :
    Calls Tryz.prog 169 #[.pointer (some ⟨bt, 0, .none⟩), .string e.path, nodeV e] w fun x w' => (∃ v, x = .returned v) ∧ TreeAt w' N bt (insAt es e) ∧ Below N w w' ∧ ∀ k o, k ≠ bt → w.heap[k]? = some o → Apart o → w'.heap[k]? = some o := by
  have hbl := h.lt
  obtain ⟨vp, vn, h1, h2, h3⟩ := h
  obtain ⟨a, cap, hva, hT⟩ := texts_of h2
  have hpn : (pathsOf es).length = es.length := by simp [pathsOf]
  have hl : (pathsOf es).length ≤ 1048576 := by omega
  have ht : thereP (pathsOf es) e.path = false := by rw [thereP_E, ht0]
  have hpp : placeP (pathsOf es) e.path = placeE es e.path := placeP_E _ _
  have hkl : placeE es e.path ≤ es.length := placeE_le es e.path
  have hins : insAt es e = es.take (placeE es e.path) ++ [e] ++ es.drop (placeE es e.path) := rfl
  have hT1 : ∀ v ∈ es.map (fun e => Value.string e.path), v.oneCell' = true := fun v hv => by obtain ⟨x, -, rfl⟩ := List.mem_map.1 hv; rfl
  have hN1 : ∀ v ∈ es.map nodeV, v.oneCell' = true := fun v hv => by obtain ⟨x, -, rfl⟩ := List.mem_map.1 hv; exact nodeV_one x
  obtain ⟨k, hk⟩ : ∃ k, placeE es e.path = k := ⟨_, rfl⟩
  rw [hk] at hpp hkl hins
  rw [hins]
  have hS := BinarySearch_any (pathsOf es) a cap e.path w hl ha hT
  rw [hpp, ht, hpn] at hS
  rw [hpn] at hva
  subst hva
  obtain ⟨T, nv, hV⟩ := nodeV_shape e
  have hIN := fun n i b v xs w => InsertN_any N n i b v xs e w
  simp only [hV] at hIN
  rw [hV]
  have HV := hid hV
  have HIN := hid hIN
  clear hV hIN
  have HS := hid hS
  obtain ⟨c0, c1, f0, f1⟩ := two_cells h1
  have H2 := hid h2
  have H3 := hid h3
  have H1 := hid h1
  have HT1 := hid hT1
  have HN1 := hid hN1
  clear hT ha hl ht hpp h1 h2 h3 hpn hS hins hk ht0 hT1 hN1
  go_enter Tryz.func169, Tryz.ntmps169
  go_wp2_with fail
  refine (unhid HS).mono ?_
  rintro x w1 ⟨rfl, hw1⟩
  rw [hw1]
  clear hw1
  go_wp2_with fail
  refine (InsertS_any N es.length k w.heap.size _ _ e.path (w.alloc (.cells #[.string e.path] 9)) hkl (by omega) (by simp; omega) ((unhid H2).alloc _) (fun eq => by have := ((unhid H2).lt _ eq).2; omega) (World.alloc_heap_new w _) (unhid HT1)).mono ?_
  rintro x w2 ⟨v2, rfl, hown2, hgrow2, -⟩
  obtain ⟨g2, cap2, rfl⟩ := ownsRow_succ hown2
  have h1a : (w.alloc (.cells #[.string e.path] 9)).heap[bt]? = some (.cells #[.slice a es.length cap, vn] 145 (0, 0)) := (Below.heap_alloc _ _ _ hbl).trans (unhid H1)
  have h12 : w2.heap[bt]? = some (.cells #[.slice a es.length cap, vn] 145 (0, 0)) := (hgrow2.block bt (by simp; omega) (row_ne ((unhid H2).alloc (.cells #[.string e.path] 9)) h1a (by decide))).trans h1a
  obtain ⟨c0, c1, f0, f1⟩ := two_cells h12
  have h32 : w2.ownsRow N 162 1 vn es.length (es.map nodeV) := by
    refine ownsRow_kept ((unhid H3).alloc (.cells #[.string e.path] 9)) (fun g hg => hgrow2.block g (((unhid H3).alloc (.cells #[.string e.path] 9)).lt g hg).2 ?_)
    rcases ((unhid H3).alloc (.cells #[.string e.path] 9)).2 with ⟨rfl, _⟩ | ⟨g', cap', cur', rfl, _, hgc, _⟩
    · cases hg
    · cases hg; exact row_ne ((unhid H2).alloc (.cells #[.string e.path] 9)) hgc (by decide)
  have hg2w : g2 ≠ bt := fun eq => by
    rcases hown2.2 with ⟨h, _⟩ | ⟨g', cap', cur', hv, _, hgc, _⟩
    · cases h
    · cases hv; exact type_ne hgc h12 (by decide) eq
  have HB2 := hid (And.intro hown2 (And.intro hgrow2 (And.intro h12 h32)))
  have hsz2 : w.heap.size + 1 ≤ w2.heap.size := by have := hgrow2.size; simpa using this
  clear hown2 hgrow2 h12 h32 h1a
  go_wp2_with fail
  obtain ⟨W3, hW3⟩ : ∃ W3, W3 = (w2.setCell ⟨bt, 0, .none⟩ (.slice (some ⟨g2, 0, .none⟩) (es.length + 1) cap2)).alloc (.cells #[.iface T nv] 162) := ⟨_, rfl⟩
  rw [← hW3]
  obtain ⟨hown2, hgrow2, h12, h32⟩ := unhid HB2
  have hbl2 : bt < w2.heap.size := by omega
  have h13 : W3.heap[bt]? = some (.cells #[.slice (some ⟨g2, 0, .none⟩) (es.length + 1) cap2, vn] 145 (0, 0)) := by
    rw [hW3, Below.heap_alloc _ _ _ (by simp; omega), heap_setCell_same _ bt 0 _ _ _ h12]; rfl
  have hk3 : ∀ g, g < w2.heap.size → g ≠ bt → W3.heap[g]? = w2.heap[g]? := fun g hg hne => by
    rw [hW3, Below.heap_alloc _ _ _ (by simpa using hg), Below.heap_setCell _ _ _ _ hne]
  have h33 : W3.ownsRow N 162 1 vn es.length (es.map nodeV) := ownsRow_kept h32 (fun g hg => hk3 g (h32.lt g hg).2 (fun eq => (row_ne h32 h12 (by decide)) (by rw [hg, eq])))
  have hown3 : W3.ownsRow N 9 1 (.slice (some ⟨g2, 0, .none⟩) (es.length + 1) cap2) (es.length + 1) ((es.map fun e => .string e.path).take k ++ [.string e.path] ++ (es.map fun e => .string e.path).drop k) := ownsRow_kept hown2 (fun g hg => hk3 g (hown2.lt g hg).2 (fun eq => by cases hg; exact hg2w eq))
  have hs3 : W3.heap.size = w2.heap.size + 1 := by rw [hW3]; simp
  have hc3 : W3.heap[w2.heap.size]? = some (.cells #[.iface T nv] 162 (0, 0)) := by
    rw [hW3]; have := World.alloc_heap_new (w2.setCell ⟨bt, 0, .none⟩ (.slice (some ⟨g2, 0, .none⟩) (es.length + 1) cap2)) (.cells #[.iface T nv] 162); simpa using this
  refine (unhid HIN es.length k w2.heap.size vn _ W3 hkl (by omega) (by omega) h33 (fun eq => by have := (h32.lt _ eq).2; omega) hc3 (unhid HN1)).mono ?_
  rintro x w4 ⟨v4, rfl, hown4, hgrow4, -⟩
  obtain ⟨g4, cap4, rfl⟩ := ownsRow_succ hown4
  have h14 : w4.heap[bt]? = some (.cells #[.slice (some ⟨g2, 0, .none⟩) (es.length + 1) cap2, vn] 145 (0, 0)) := (hgrow4.block bt (by omega) (row_ne h33 h13 (by decide))).trans h13
  have hrow4 : w4.ownsRow N 9 1 (.slice (some ⟨g2, 0, .none⟩) (es.length + 1) cap2) (es.length + 1) ((es.map fun e => .string e.path).take k ++ [.string e.path] ++ (es.map fun e => .string e.path).drop k) := ownsRow_kept hown3 (fun g hg => hgrow4.block g (hown3.lt g hg).2 (by
    rcases hown3.2 with ⟨h, _⟩ | ⟨g', cap', cur', hv, _, hgc, _⟩
    · cases h
    · cases hv; cases hg; exact row_ne h33 hgc (by decide)))
  obtain ⟨c0, c1, f0, f1⟩ := two_cells h14
  have hg4w : g4 ≠ bt := fun eq => by
    rcases hown4.2 with ⟨h, _⟩ | ⟨g', cap', cur', hv, _, hgc, _⟩
    · cases h
    · cases hv; exact type_ne hgc h14 (by decide) eq
  have hF : TreeAt (w4.setCell ⟨bt, 1, .none⟩ (.slice (some ⟨g4, 0, .none⟩) (es.length + 1) cap4)) N bt (es.take k ++ [e] ++ es.drop k) := by
    refine ⟨.slice (some ⟨g2, 0, .none⟩) (es.length + 1) cap2, .slice (some ⟨g4, 0, .none⟩) (es.length + 1) cap4, ?_, ?_, ?_⟩
    · rw [heap_setCell_same _ bt 1 _ _ _ h14]; rfl
    · rw [show (es.take k ++ [e] ++ es.drop k).length = es.length + 1 by simp; omega, List.map_append, List.map_append, List.map_take, List.map_drop]
      exact ownsRow_kept hrow4 (fun g hg => Below.heap_setCell _ _ _ _ (fun eq => by cases hg; exact hg2w eq))
    · rw [show (es.take k ++ [e] ++ es.drop k).length = es.length + 1 by simp; omega, List.map_append, List.map_append, List.map_take, List.map_drop]
      rw [← unhid HV] at hown4
      exact ownsRow_kept hown4 (fun g hg => Below.heap_setCell _ _ _ _ (fun eq => by cases hg; exact hg4w eq))
  have hB : Below N w (w4.setCell ⟨bt, 1, .none⟩ (.slice (some ⟨g4, 0, .none⟩) (es.length + 1) cap4)) := by
    have b1 : Below N w (w.alloc (.cells #[.string e.path] 9)) := (Below.refl _ _).alloc (by omega) _
    have b2 : Below N w w2 := b1.grown hgrow2 (by simp; omega) (fun g hg => (((unhid H2).alloc (.cells #[.string e.path] 9)).lt g hg).1)
    have b3 : Below N w W3 := by rw [hW3]; exact (b2.setCell hN _).alloc (by simp; omega) _
    have b4 : Below N w w4 := b3.grown hgrow4 (by omega) (fun g hg => (h33.lt g hg).1)
    exact b4.setCell hN _
  have hO : ∀ k o, k ≠ bt → w.heap[k]? = some o → Apart o → (w4.setCell ⟨bt, 1, .none⟩ (.slice (some ⟨g4, 0, .none⟩) (es.length + 1) cap4)).heap[k]? = some o := by
    intro k o hk ho hap
    have hkl : k < w.heap.size := (Array.getElem?_eq_some_iff.1 ho).1
    have a1 : (w.alloc (.cells #[.string e.path] 9)).heap[k]? = some o := (Below.heap_alloc _ _ _ hkl).trans ho
    have a2 : w2.heap[k]? = some o := (hgrow2.block k (by simp; omega) (fun eq => by
      rcases ((unhid H2).alloc (.cells #[.string e.path] 9)).2 with ⟨h, _⟩ | ⟨g', cap', cur', hv, _, hgc, _⟩
      · rw [h] at eq; cases eq
      · rw [hv] at eq; cases eq; rw [a1] at hgc; cases hgc; exact (hap _ _ _ rfl).1 rfl)).trans a1
    have a3 : W3.heap[k]? = some o := (hk3 k (by omega) hk).trans a2
    have a4 : w4.heap[k]? = some o := (hgrow4.block k (by omega) (fun eq => by
      rcases h33.2 with ⟨h, _⟩ | ⟨g', cap', cur', hv, _, hgc, _⟩
      · rw [h] at eq; cases eq
      · rw [hv] at eq; cases eq; rw [a3] at hgc; cases hgc; exact (hap _ _ _ rfl).2 rfl)).trans a3
    exact (Below.heap_setCell _ _ _ _ hk).trans a4
  have HF := hid (And.intro hF (And.intro hB hO))
  clear hF hB hO hown4 hgrow4 h14 hrow4 h13 hk3 h33 hown3 hc3 hW3 hown2 hgrow2 h12 h32 HB2
  go_wp2_with fail
  go_end0
  exact ⟨⟨_, rfl⟩, unhid HF⟩
end Go.Proofs.YtlnpjiabdebmgaaGreat

/- An entry put into a tree, if it can be, wherever its place is. -/
namespace Go.Proofs.YtlnpjiabdebmgaaGreat
open Go.RowKit Go.Shelf

theorem ownsRow_set {W : World} {N n j g : Nat} {v u : Value} {e : TypeId} {xs : List Value} (h : W.ownsRow N e 1 v n xs) (hj : j < n) (hg : v.ownBlock = some g) : (W.setCell ⟨g, j, .none⟩ u).ownsRow N e 1 v n (xs.set j u) := by
  refine ⟨by simpa using h.1, ?_⟩
  rcases h.2 with ⟨rfl, h0⟩ | ⟨g', cap, cur, rfl, hN, hh, hc, hm, hsz, hcells⟩
  · omega
  · cases hg
    refine .inr ⟨g', cap, cur.setIfInBounds j u, rfl, hN, heap_setCell_same _ g' j _ _ _ hh, hc, hm, by simpa using hsz, ?_⟩
    rw [Array.toList_setIfInBounds, List.take_set, hcells]

set_option maxRecDepth 100000 in
set_option maxHeartbeats 4000000 in
theorem mapPut_over (N bt : Nat) (es : List Ent) (e : Ent) (w : World) (hn : es.length ≤ 900) (ha : Asc (pathsOf es)) (ht0 : thereE es e.path = true) (h : TreeAt w N bt es) :
    Calls Tryz.prog 169 #[.pointer (some ⟨bt, 0, .none⟩), .string e.path, nodeV e] w fun x w' => (∃ v, x = .returned v) ∧ TreeAt w' N bt (es.set (placeE es e.path) e) ∧ Below N w w' ∧ ∀ k o, k ≠ bt → w.heap[k]? = some o → Apart o → w'.heap[k]? = some o := by
  have hbl := h.lt
  obtain ⟨vp, vn, h1, h2, h3⟩ := h
  obtain ⟨a, cap, hva, hT⟩ := texts_of h2
  have hpn : (pathsOf es).length = es.length := by simp [pathsOf]
  have hl : (pathsOf es).length ≤ 1048576 := by omega
  have ht : thereP (pathsOf es) e.path = true := by rw [thereP_E, ht0]
  obtain ⟨old, hj, hpo⟩ := there_get ht0
  have hjl : placeE es e.path < es.length := (List.getElem?_eq_some_iff.1 hj).1
  have hS := BinarySearch_any (pathsOf es) a cap e.path w hl ha hT
  rw [placeP_E, ht, hpn] at hS
  rw [hpn] at hva
  subst hva
  obtain ⟨T, nv, hV⟩ := nodeV_shape e
  have hse : (es.set (placeE es e.path) e).map nodeV = (es.map nodeV).set (placeE es e.path) (nodeV e) := by rw [List.map_set]
  have hsp : (es.set (placeE es e.path) e).map (fun e => Value.string e.path) = es.map (fun e => .string e.path) := by
    rw [List.map_set]
    apply List.ext_getElem?
    intro i
    rw [List.getElem?_set]
    split
    · rename_i hi
      subst hi
      rw [if_pos (by simpa using hjl), List.getElem?_map, hj, Option.map_some, hpo]
    · rfl
  obtain ⟨g, cap2, cur, rfl, hgN, hg, hszc⟩ : ∃ g cap2 cur, vn = .slice (some ⟨g, 0, .none⟩) es.length cap2 ∧ N ≤ g ∧ w.heap[g]? = some (.cells cur 162 (0, 0)) ∧ placeE es e.path < cur.size ∧ es.length ≤ cap2 := by
    rcases h3.2 with ⟨rfl, h0⟩ | ⟨g, cap, cur, rfl, hN', hg, hc, _, hsz, hcells⟩
    · omega
    · exact ⟨g, cap, cur, rfl, hN', hg, by omega, hc⟩
  have hFT : TreeAt (w.setCell ⟨g, placeE es e.path, .none⟩ (nodeV e)) N bt (es.set (placeE es e.path) e) := by
    refine ⟨.slice a es.length cap, .slice (some ⟨g, 0, .none⟩) es.length cap2, ?_, ?_, ?_⟩
    · rw [Below.heap_setCell _ _ _ _ (type_ne hg h1 (by decide)).symm]; exact h1
    · rw [List.length_set, hsp]
      refine ownsRow_kept h2 (fun g' eg => Below.heap_setCell _ _ _ _ (fun eq => ?_))
      obtain ⟨cur', hc'⟩ := (show ∃ cur', w.heap[g']? = some (.cells cur' 9 (0, 0)) by
        rcases h2.2 with ⟨hh, _⟩ | ⟨g'', cap'', cur'', hv, _, hh, _⟩
        · rw [hh] at eg; cases eg
        · rw [hv] at eg; cases eg; exact ⟨_, hh⟩)
      exact type_ne hg hc' (by decide) eq.symm
    · rw [List.length_set, hse]
      exact ownsRow_set h3 hjl rfl
  have hFB : Below N w (w.setCell ⟨g, placeE es e.path, .none⟩ (nodeV e)) := (Below.refl _ _).setCell hgN _
  have hFO : ∀ k o, k ≠ bt → w.heap[k]? = some o → Apart o → (w.setCell ⟨g, placeE es e.path, .none⟩ (nodeV e)).heap[k]? = some o := fun k o _ ho hap =>
    (Below.heap_setCell _ _ _ _ (fun eq => by
      have eq' : k = g := eq
      subst eq'
      rw [ho] at hg; cases hg; exact (hap _ _ _ rfl).2 rfl)).trans ho
  have HF := hid (And.intro hFT (And.intro hFB hFO))
  clear hFT hFB hFO hse hsp
  rw [hV] at HF ⊢
  obtain ⟨hsz1, hle⟩ := hszc
  have n0 : ∃ u, w.cell? ⟨g, placeE es e.path, .none⟩ = some u := ⟨cur[placeE es e.path], by simp [World.cell?, hg, hsz1]⟩
  obtain ⟨u, n0⟩ := n0
  have m0 : w.frozen? ⟨g, placeE es e.path, .none⟩ = false := by simp [World.frozen?, hg]
  have HS := hid hS
  obtain ⟨c0, c1, f0, f1⟩ := two_cells h1
  clear hT ha hl ht h1 h2 h3 hpn hj hS hV hg ht0 hpo hsz1
  generalize placeE es e.path = j at HS HF hjl n0 m0 ⊢
  go_enter Tryz.func169, Tryz.ntmps169
  go_wp2_with fail
  refine (unhid HS).mono ?_
  rintro x w1 ⟨rfl, hw1⟩
  rw [hw1]
  clear hw1
  go_wp2_with fail
  first | go_end0 | refine bodyPost_ret (results_none rfl _ _ _) rfl ?_
  exact ⟨⟨_, rfl⟩, unhid HF⟩

/-- Entries with one put in. -/
def putT (es : List Ent) (e : Ent) : List Ent := if thereE es e.path then es.set (placeE es e.path) e else insAt es e
theorem mapPut_any (N bt : Nat) (es : List Ent) (e : Ent) (w : World) (hn : es.length ≤ 900) (ha : Asc (pathsOf es)) (hN : N ≤ bt) (h : TreeAt w N bt es) :
    Calls Tryz.prog 169 #[.pointer (some ⟨bt, 0, .none⟩), .string e.path, nodeV e] w fun x w' => (∃ v, x = .returned v) ∧ TreeAt w' N bt (putT es e) ∧ Kept N bt w w' := by
  cases ht : thereE es e.path
  · have : putT es e = insAt es e := by unfold putT; rw [ht]; rfl
    rw [this]
    exact mapPut_ins N bt es e w hn ha hN ht h
  · have : putT es e = es.set (placeE es e.path) e := by unfold putT; rw [ht]; rfl
    rw [this]
    exact mapPut_over N bt es e w hn ha ht h

/-- Whether an entry can be put. -/
def okPut (es : List Ent) (e : Ent) : Bool := entB e && (dirE es (pathUpS e.path) && (if thereE es e.path then (entFn es (placeE es e.path)).kind == e.kind else decide (es.length ≠ 16)))
def putL (es : List Ent) (e : Ent) : List Ent := if okPut es e then putT es e else es
theorem putL_no {es : List Ent} {e : Ent} (h : okPut es e = false) : putL es e = es := by unfold putL; rw [h]; rfl
theorem putL_ins {es : List Ent} {e : Ent} (h : okPut es e = true) (ht : thereE es e.path = false) : putL es e = insAt es e := by unfold putL putT; rw [h, ht]; rfl
theorem putL_set {es : List Ent} {e : Ent} (h : okPut es e = true) (ht : thereE es e.path = true) : putL es e = es.set (placeE es e.path) e := by unfold putL putT; rw [h, ht]; rfl

set_option maxRecDepth 100000 in
set_option maxHeartbeats 8000000 in
theorem putEntry_any (N bt : Nat) (es : List Ent) (e : Ent) (w : World) (hp : e.path.size ≤ maxLen) (htx : e.text.size ≤ maxLen) (hn : es.length ≤ 16) (ha : Asc (pathsOf es)) (hall : ∀ x ∈ es, entB x = true) (hN : N ≤ bt) (h : TreeAt w N bt es) :
    Calls Tryz.prog 162 #[.pointer (some ⟨bt, 0, .none⟩), .agg e.vals] w fun x w' => x = .returned (.bool (okPut es e)) ∧ TreeAt w' N bt (putL es e) ∧ Kept N bt w w' := by
  have hbl := h.lt
  have HT := hid ha
  have hNw : N ≤ w.heap.size := by omega
  have h0 : TreeAt (w.alloc (.cells #[.string e.path, .int .i64 e.kind, .int .i64 e.mode, .string e.text] 90)) N bt es := h.below ((Below.refl _ w).alloc (Nat.le_refl _) _)
  have hk0 : Kept N bt w (w.alloc (.cells #[.string e.path, .int .i64 e.kind, .int .i64 e.mode, .string e.text] 90)) := Kept.of_below ((Below.refl _ w).alloc (Nat.le_refl _) _) hNw
  have hnw := World.alloc_heap_new w (.cells #[.string e.path, .int .i64 e.kind, .int .i64 e.mode, .string e.text] 90)
  have hs0 : w.heap.size < (w.alloc (.cells #[.string e.path, .int .i64 e.kind, .int .i64 e.mode, .string e.text] 90)).heap.size := by simp
  have H0 := hid (And.intro h0 hk0)
  have X0 := hid (show (w.alloc (.cells #[.string e.path, .int .i64 e.kind, .int .i64 e.mode, .string e.text] 90)).cell? ⟨w.heap.size, 0, .none⟩ = some (.string e.path) by unfold World.cell?; dsimp only; rw [hnw]; rfl)
  have X1 := hid (show (w.alloc (.cells #[.string e.path, .int .i64 e.kind, .int .i64 e.mode, .string e.text] 90)).cell? ⟨w.heap.size, 1, .none⟩ = some (.int .i64 e.kind) by unfold World.cell?; dsimp only; rw [hnw]; rfl)
  clear ha h h0 hk0 hnw
  have hN0 := hid (nodeOf_any e hp htx (w.alloc (.cells #[.string e.path, .int .i64 e.kind, .int .i64 e.mode, .string e.text] 90)))
  cases he : entB e
  · have E := hid (show okPut es e = false by unfold okPut; rw [he]; rfl)
    go_enter Tryz.func162, Tryz.ntmps162
    unfold Ent.vals
    go_wp2_with fail
    refine (unhid hN0).mono ?_
    rintro x w1 ⟨⟨v, rfl, hv, -⟩, hb⟩
    rw [he]
    have HK := hid (And.intro ((unhid H0).1.below hb) ((unhid H0).2.trans (Kept.of_below hb (by simp; omega))))
    clear hb
    go_wp2_with fail
    go_ret
    exact ⟨by rw [unhid E]; rfl, by rw [putL_no (unhid E)]; exact (unhid HK).1, (unhid HK).2⟩
  · cases hd : dirE es (pathUpS e.path)
    · have E := hid (show okPut es e = false by unfold okPut; rw [hd]; simp)
      go_enter Tryz.func162, Tryz.ntmps162
      unfold Ent.vals
      go_wp2_with fail
      refine (unhid hN0).mono ?_
      rintro x w1 ⟨⟨v, rfl, hv, -⟩, hb⟩
      rw [he]
      have HK := hid (And.intro ((unhid H0).1.below hb) ((unhid H0).2.trans (Kept.of_below hb (by simp; omega))))
      have c0 := (hb.cell (p := ⟨w.heap.size, 0, .none⟩) hs0).trans (unhid X0)
      clear hb
      go_wp2_with fail
      refine (hasPlace_any N bt es e.path w1 hp (by omega) (unhid HT) (unhid HK).1).mono ?_
      rintro x w2 ⟨rfl, hb⟩
      rw [hd]
      have HK2 := hid (And.intro ((unhid HK).1.below hb) ((unhid HK).2.trans (Kept.of_below hb (Nat.le_trans hNw (unhid HK).2.1.size))))
      clear hb
      go_wp2_with fail
      go_ret
      exact ⟨by rw [unhid E]; rfl, by rw [putL_no (unhid E)]; exact (unhid HK2).1, (unhid HK2).2⟩
    · cases hth : thereE es e.path
      · have HTH := hid hth
        have HGV := hid (show getV es e.path = .nilIface by unfold getV; rw [hth]; rfl)
        clear hth
        · by_cases h16 : es.length = 16
          · have E := hid (show okPut es e = false by unfold okPut; rw [unhid HTH, h16]; simp)
            go_enter Tryz.func162, Tryz.ntmps162
            unfold Ent.vals
            go_wp2_with fail
            refine (unhid hN0).mono ?_
            rintro x w1 ⟨⟨v, rfl, hv, -⟩, hb⟩
            rw [he]
            have HK := hid (And.intro ((unhid H0).1.below hb) ((unhid H0).2.trans (Kept.of_below hb (by simp; omega))))
            have c0 := (hb.cell (p := ⟨w.heap.size, 0, .none⟩) hs0).trans (unhid X0)
            have hs1 := Nat.lt_of_lt_of_le hs0 hb.size
            clear hb
            go_wp2_with fail
            refine (hasPlace_any N bt es e.path w1 hp (by omega) (unhid HT) (unhid HK).1).mono ?_
            rintro x w2 ⟨rfl, hb⟩
            rw [hd]
            have HK2 := hid (And.intro ((unhid HK).1.below hb) ((unhid HK).2.trans (Kept.of_below hb (Nat.le_trans hNw (unhid HK).2.1.size))))
            have d0 := (hb.cell (p := ⟨w.heap.size, 0, .none⟩) hs1).trans c0
            clear hb c0
            go_wp2_with fail
            go_quiet ((go_at_call 137; refine Calls.quiet_of_same (v := .tuple #[.nilIface, .bool false]) ((mapGet_any N bt es e.path _ (by omega) (unhid HT) ((unhid HK2).1.below (drewN_below _ _))).mono ?_); rintro x w3 ⟨rfl, rfl⟩; exact ⟨by rw [unhid HGV, unhid HTH], rfl⟩))
            have HK3 := hid (And.intro ((unhid HK2).1.below (drewN_below w2 nq)) ((unhid HK2).2.trans (Kept.of_below (drewN_below w2 nq) (Nat.le_trans hNw (unhid HK2).2.1.size))))
            have d3 : (w2.drewN nq).cell? ⟨w.heap.size, 0, .none⟩ = some (.string e.path) := d0
            clear d0
            generalize w2.drewN nq = w3 at HK3 d3 ⊢
            go_wp2_with fail
            go_quiet (fail)
            have HK4 := hid (And.intro ((unhid HK3).1.below (drewN_below w3 nq)) ((unhid HK3).2.trans (Kept.of_below (drewN_below w3 nq) (Nat.le_trans hNw (unhid HK3).2.1.size))))
            have d4 : (w3.drewN nq).cell? ⟨w.heap.size, 0, .none⟩ = some (.string e.path) := d3
            clear d3
            generalize w3.drewN nq = w4 at HK4 d4 ⊢
            obtain ⟨vp, vn, t1, t2, t3⟩ := (unhid HK4).1
            obtain ⟨c0, c1, f0, f1⟩ := two_cells t1
            obtain ⟨va, vcap, rfl⟩ : ∃ va vcap, vp = .slice va es.length vcap := by
              rcases ownsRow_sh t2 with ⟨rfl, h0⟩ | ⟨g, cap, rfl, _⟩
              · exact ⟨.none, 0, by rw [h0]⟩
              · exact ⟨_, _, rfl⟩
            clear t1 t2 t3 c1 f0 f1
            have h16' : ((es.length : Int) == 16) = true := by simp [h16]
            clear h16
            go_wp2_with fail
            go_ret
            exact ⟨by rw [unhid E]; rfl, by rw [putL_no (unhid E)]; exact (unhid HK4).1, (unhid HK4).2⟩
          · have E := hid (show okPut es e = true by unfold okPut; rw [he, hd, unhid HTH]; simpa using h16)
            go_enter Tryz.func162, Tryz.ntmps162
            unfold Ent.vals
            go_wp2_with fail
            refine (unhid hN0).mono ?_
            rintro x w1 ⟨⟨v, rfl, -, hv⟩, hb⟩
            obtain rfl := hv he
            rw [he]
            have HK := hid (And.intro ((unhid H0).1.below hb) ((unhid H0).2.trans (Kept.of_below hb (by simp; omega))))
            have c0 := (hb.cell (p := ⟨w.heap.size, 0, .none⟩) hs0).trans (unhid X0)
            have hs1 := Nat.lt_of_lt_of_le hs0 hb.size
            clear hb hv
            go_wp2_with fail
            refine (hasPlace_any N bt es e.path w1 hp (by omega) (unhid HT) (unhid HK).1).mono ?_
            rintro x w2 ⟨rfl, hb⟩
            rw [hd]
            have HK2 := hid (And.intro ((unhid HK).1.below hb) ((unhid HK).2.trans (Kept.of_below hb (Nat.le_trans hNw (unhid HK).2.1.size))))
            have d0 := (hb.cell (p := ⟨w.heap.size, 0, .none⟩) hs1).trans c0
            clear hb c0
            go_wp2_with fail
            go_quiet ((go_at_call 137; refine Calls.quiet_of_same (v := .tuple #[.nilIface, .bool false]) ((mapGet_any N bt es e.path _ (by omega) (unhid HT) ((unhid HK2).1.below (drewN_below _ _))).mono ?_); rintro x w3 ⟨rfl, rfl⟩; exact ⟨by rw [unhid HGV, unhid HTH], rfl⟩))
            have HK3 := hid (And.intro ((unhid HK2).1.below (drewN_below w2 nq)) ((unhid HK2).2.trans (Kept.of_below (drewN_below w2 nq) (Nat.le_trans hNw (unhid HK2).2.1.size))))
            have d3 : (w2.drewN nq).cell? ⟨w.heap.size, 0, .none⟩ = some (.string e.path) := d0
            clear d0
            generalize w2.drewN nq = w3 at HK3 d3 ⊢
            go_wp2_with fail
            go_quiet (fail)
            have HK4 := hid (And.intro ((unhid HK3).1.below (drewN_below w3 nq)) ((unhid HK3).2.trans (Kept.of_below (drewN_below w3 nq) (Nat.le_trans hNw (unhid HK3).2.1.size))))
            have d4 : (w3.drewN nq).cell? ⟨w.heap.size, 0, .none⟩ = some (.string e.path) := d3
            clear d3
            generalize w3.drewN nq = w4 at HK4 d4 ⊢
            obtain ⟨vp, vn, t1, t2, t3⟩ := (unhid HK4).1
            obtain ⟨c0, c1, f0, f1⟩ := two_cells t1
            obtain ⟨va, vcap, rfl⟩ : ∃ va vcap, vp = .slice va es.length vcap := by
              rcases ownsRow_sh t2 with ⟨rfl, h0⟩ | ⟨g, cap, rfl, _⟩
              · exact ⟨.none, 0, by rw [h0]⟩
              · exact ⟨_, _, rfl⟩
            clear t1 t2 t3 c1 f0 f1
            have h16' : ((es.length : Int) == 16) = false := by rw [beq_eq_false_iff_ne]; omega
            clear h16
            go_wp2_with fail
            have HP := hid (mapPut_ins N bt es e w4.drew (by omega) (unhid HT) hN (unhid HTH) ((unhid HK4).1.below (drew_below _)))
            go_region_with (go_at_call 169; refine (unhid HP).mono ?_; rintro x w5 ⟨⟨y, rfl⟩, hT5, hB5, hO5⟩; have HK5 := hid (And.intro hT5 ((unhid HK4).2.trans ((Kept.of_below (drew_below w4) (Nat.le_trans hNw (unhid HK4).2.1.size)).trans ⟨hB5, hO5⟩))); clear hT5 hB5 hO5)
            all_goals
              go_wp2_with fail
              go_ret
              exact ⟨by rw [unhid E]; rfl, by rw [putL_ins (unhid E) (unhid HTH)]; exact (unhid HK5).1, (unhid HK5).2⟩
      · obtain ⟨old, hold, hop⟩ := there_get hth
        have hfo := entFn_get hold
        have HTH := hid hth
        have heo := hall old (List.mem_of_getElem? hold)
        obtain ⟨T1, nv1, hnv1⟩ := nodeV_shape old
        have HGV := hid (show getV es e.path = .iface T1 nv1 by unfold getV; rw [hth, hfo, if_pos rfl, hnv1])
        have ENT0 : ∀ w, Calls Tryz.prog 138 #[.string e.path, .iface T1 nv1] w fun x w' => x = .returned (.agg old.vals) ∧ Below w.heap.size w w' := fun w => by rw [← hop, ← hnv1]; exact entryOf_any old heo w
        have ENT := hid ENT0
        cases hkk : (old.kind != e.kind)
        · have E := hid (show okPut es e = true by unfold okPut; rw [he, hd, hth, hfo]; simp at hkk; simp [hkk])
          clear ENT0 hfo hold hth hnv1 hop heo
          go_enter Tryz.func162, Tryz.ntmps162
          unfold Ent.vals
          go_wp2_with fail
          refine (unhid hN0).mono ?_
          rintro x w1 ⟨⟨v, rfl, -, hv⟩, hb⟩
          obtain rfl := hv he
          rw [he]
          have HK := hid (And.intro ((unhid H0).1.below hb) ((unhid H0).2.trans (Kept.of_below hb (by simp; omega))))
          have c0 := (hb.cell (p := ⟨w.heap.size, 0, .none⟩) hs0).trans (unhid X0)
          have c1 := (hb.cell (p := ⟨w.heap.size, 1, .none⟩) hs0).trans (unhid X1)
          have hs1 := Nat.lt_of_lt_of_le hs0 hb.size
          clear hb hv
          go_wp2_with fail
          refine (hasPlace_any N bt es e.path w1 hp (by omega) (unhid HT) (unhid HK).1).mono ?_
          rintro x w2 ⟨rfl, hb⟩
          rw [hd]
          have HK2 := hid (And.intro ((unhid HK).1.below hb) ((unhid HK).2.trans (Kept.of_below hb (Nat.le_trans hNw (unhid HK).2.1.size))))
          have d0 := (hb.cell (p := ⟨w.heap.size, 0, .none⟩) hs1).trans c0
          have d1 := (hb.cell (p := ⟨w.heap.size, 1, .none⟩) hs1).trans c1
          have hs2 := Nat.lt_of_lt_of_le hs1 hb.size
          clear hb c0 c1
          go_wp2_with fail
          go_quiet ((go_at_call 137; refine Calls.quiet_of_same (v := .tuple #[.iface T1 nv1, .bool true]) ((mapGet_any N bt es e.path _ (by omega) (unhid HT) ((unhid HK2).1.below (drewN_below _ _))).mono ?_); rintro x w3 ⟨rfl, rfl⟩; exact ⟨by rw [unhid HGV, unhid HTH], rfl⟩))
          have HK3 := hid (And.intro ((unhid HK2).1.below (drewN_below w2 nq)) ((unhid HK2).2.trans (Kept.of_below (drewN_below w2 nq) (Nat.le_trans hNw (unhid HK2).2.1.size))))
          have d30 : (w2.drewN nq).cell? ⟨w.heap.size, 0, .none⟩ = some (.string e.path) := d0
          have d31 : (w2.drewN nq).cell? ⟨w.heap.size, 1, .none⟩ = some (.int .i64 e.kind) := d1
          have hs3 : w.heap.size < (w2.drewN nq).heap.size := hs2
          clear d0 d1
          generalize w2.drewN nq = w3 at HK3 d30 d31 hs3 ⊢
          have g0 := BW.cell (B := w3.heap.size) hs3 d30
          have g1 := BW.cell (B := w3.heap.size) hs3 d31
          go_wp2_with fail
          have hfd : ∀ w, (Instr.field 90 (.agg #[.string old.path, .int .i64 old.kind, .int .i64 old.mode, .string old.text]) 1).run Tryz.prog w = .ok (.int .i64 old.kind) w := fun _ => by kernel_rfl
          have hba := @BW.all w3.heap.size w3
          refine calm_region w3.heap.size (by kernel_rfl) (by kernel_rfl) ?_
          repeat (go_big_quiet_step ((go_at_call 138; exact Calls.bw (v := .agg #[.string old.path, .int .i64 old.kind, .int .i64 old.mode, .string old.text]) (Nat.le_refl _) (unhid ENT _))))
          refine wpQuiet_nil ?_
          intro w4 hw
          obtain ⟨x, hx⟩ := hw
          have hB4 : Below w3.heap.size w3 w4 := by rw [hx]; exact x.h
          clear hx x
          have HK4 := hid (And.intro ((unhid HK3).1.below hB4) ((unhid HK3).2.trans (Kept.of_below hB4 (Nat.le_trans hNw (unhid HK3).2.1.size))))
          have d4 := (hB4.cell (p := ⟨w.heap.size, 0, .none⟩) hs3).trans d30
          have hs4 := Nat.lt_of_lt_of_le hs3 hB4.size
          clear hB4 hba g0 g1 d30 d31 hfd
          go_wp2_with fail
          have HP := hid (mapPut_over N bt es e w4.drew (by omega) (unhid HT) (unhid HTH) ((unhid HK4).1.below (drew_below _)))
          go_region_with (go_at_call 169; refine (unhid HP).mono ?_; rintro x w5 ⟨⟨y, rfl⟩, hT5, hB5, hO5⟩; have HK5 := hid (And.intro hT5 ((unhid HK4).2.trans ((Kept.of_below (drew_below w4) (Nat.le_trans hNw (unhid HK4).2.1.size)).trans ⟨hB5, hO5⟩))); clear hT5 hB5 hO5)
          all_goals
            go_wp2_with fail
            go_ret
            exact ⟨by rw [unhid E]; rfl, by rw [putL_set (unhid E) (unhid HTH)]; exact (unhid HK5).1, (unhid HK5).2⟩
        · have E := hid (show okPut es e = false by unfold okPut; rw [he, hd, hth, hfo]; simp at hkk; simp [hkk])
          clear ENT0 hfo hold hth hnv1 hop heo
          go_enter Tryz.func162, Tryz.ntmps162
          unfold Ent.vals
          go_wp2_with fail
          refine (unhid hN0).mono ?_
          rintro x w1 ⟨⟨v, rfl, -, hv⟩, hb⟩
          obtain rfl := hv he
          rw [he]
          have HK := hid (And.intro ((unhid H0).1.below hb) ((unhid H0).2.trans (Kept.of_below hb (by simp; omega))))
          have c0 := (hb.cell (p := ⟨w.heap.size, 0, .none⟩) hs0).trans (unhid X0)
          have c1 := (hb.cell (p := ⟨w.heap.size, 1, .none⟩) hs0).trans (unhid X1)
          have hs1 := Nat.lt_of_lt_of_le hs0 hb.size
          clear hb hv
          go_wp2_with fail
          refine (hasPlace_any N bt es e.path w1 hp (by omega) (unhid HT) (unhid HK).1).mono ?_
          rintro x w2 ⟨rfl, hb⟩
          rw [hd]
          have HK2 := hid (And.intro ((unhid HK).1.below hb) ((unhid HK).2.trans (Kept.of_below hb (Nat.le_trans hNw (unhid HK).2.1.size))))
          have d0 := (hb.cell (p := ⟨w.heap.size, 0, .none⟩) hs1).trans c0
          have d1 := (hb.cell (p := ⟨w.heap.size, 1, .none⟩) hs1).trans c1
          have hs2 := Nat.lt_of_lt_of_le hs1 hb.size
          clear hb c0 c1
          go_wp2_with fail
          go_quiet ((go_at_call 137; refine Calls.quiet_of_same (v := .tuple #[.iface T1 nv1, .bool true]) ((mapGet_any N bt es e.path _ (by omega) (unhid HT) ((unhid HK2).1.below (drewN_below _ _))).mono ?_); rintro x w3 ⟨rfl, rfl⟩; exact ⟨by rw [unhid HGV, unhid HTH], rfl⟩))
          have HK3 := hid (And.intro ((unhid HK2).1.below (drewN_below w2 nq)) ((unhid HK2).2.trans (Kept.of_below (drewN_below w2 nq) (Nat.le_trans hNw (unhid HK2).2.1.size))))
          have d30 : (w2.drewN nq).cell? ⟨w.heap.size, 0, .none⟩ = some (.string e.path) := d0
          have d31 : (w2.drewN nq).cell? ⟨w.heap.size, 1, .none⟩ = some (.int .i64 e.kind) := d1
          have hs3 : w.heap.size < (w2.drewN nq).heap.size := hs2
          clear d0 d1
          generalize w2.drewN nq = w3 at HK3 d30 d31 hs3 ⊢
          have g0 := BW.cell (B := w3.heap.size) hs3 d30
          have g1 := BW.cell (B := w3.heap.size) hs3 d31
          go_wp2_with fail
          have hfd : ∀ w, (Instr.field 90 (.agg #[.string old.path, .int .i64 old.kind, .int .i64 old.mode, .string old.text]) 1).run Tryz.prog w = .ok (.int .i64 old.kind) w := fun _ => by kernel_rfl
          have hba := @BW.all w3.heap.size w3
          refine calm_region w3.heap.size (by kernel_rfl) (by kernel_rfl) ?_
          repeat (go_big_quiet_step ((go_at_call 138; exact Calls.bw (v := .agg #[.string old.path, .int .i64 old.kind, .int .i64 old.mode, .string old.text]) (Nat.le_refl _) (unhid ENT _))))
          refine wpQuiet_nil ?_
          intro w4 hw
          obtain ⟨x, hx⟩ := hw
          have hB4 : Below w3.heap.size w3 w4 := by rw [hx]; exact x.h
          clear hx x
          have HK4 := hid (And.intro ((unhid HK3).1.below hB4) ((unhid HK3).2.trans (Kept.of_below hB4 (Nat.le_trans hNw (unhid HK3).2.1.size))))
          have d4 := (hB4.cell (p := ⟨w.heap.size, 0, .none⟩) hs3).trans d30
          have hs4 := Nat.lt_of_lt_of_le hs3 hB4.size
          clear hB4 hba g0 g1 d30 d31 hfd
          go_wp2_with fail
          go_ret
          exact ⟨by rw [unhid E]; rfl, by rw [putL_no (unhid E)]; exact (unhid HK4).1, (unhid HK4).2⟩
end Go.Proofs.YtlnpjiabdebmgaaGreat

/- Entries put into a tree one behind the other: in order, each path once. -/
namespace Go.Proofs.YtlnpjiabdebmgaaGreat
open Go.RowKit Go.Shelf

def Up (es : List Ent) : Prop := es.Pairwise fun x y => ltS x.path y.path = true
theorem up_asc {es : List Ent} (h : Up es) : Asc (pathsOf es) := by
  intro i j x y hij hi hj
  unfold pathsOf at hi hj
  rw [List.getElem?_map] at hi hj
  obtain ⟨a, ha, rfl⟩ := Option.map_eq_some_iff.1 hi
  obtain ⟨b, hb, rfl⟩ := Option.map_eq_some_iff.1 hj
  obtain ⟨hia, rfl⟩ := List.getElem?_eq_some_iff.1 ha
  obtain ⟨hjb, rfl⟩ := List.getElem?_eq_some_iff.1 hb
  exact List.pairwise_iff_getElem.1 h i j hia hjb hij
theorem asc_up {es : List Ent} (h : Asc (pathsOf es)) : Up es := by
  refine List.pairwise_iff_getElem.2 (fun i j hi hj hij => ?_)
  exact h i j _ _ hij (by simp [pathsOf, hi]) (by simp [pathsOf, hj])
theorem place_split (es : List Ent) (p : ByteArray) : (∀ x ∈ es.take (placeE es p), ltS x.path p = true) ∧ (∀ x, es[placeE es p]? = some x → ltS x.path p = false) := by
  refine ⟨fun x hx => ?_, fun x hx => ?_⟩
  · obtain ⟨i, hi⟩ := List.getElem?_of_mem hx
    rw [List.getElem?_take] at hi
    split at hi
    · rename_i hlt; exact place_lt hlt hi
    · cases hi
  · unfold placeE at hx
    induction es with
    | nil => simp at hx
    | cons e es ih =>
      rw [List.takeWhile_cons] at hx
      cases he : ltS e.path p
      · rw [he] at hx; simp at hx; subst hx; exact he
      · rw [he] at hx; simp at hx; exact ih hx
theorem lt_trans' {a b c : ByteArray} (h1 : ltS a b = true) (h2 : ltS b c = true) : ltS a c = true := lt_tra _ _ _ h1 h2
theorem lt_tot' {a b : ByteArray} (h1 : ltS a b = false) (h2 : eqS a b = false) : ltS b a = true := by
  cases h : ltS b a
  · have e := lt_tot _ _ h1 h
    rw [show eqS a b = true by unfold eqS; rw [e]; simp] at h2; cases h2
  · rfl
theorem insAt_up {es : List Ent} {e : Ent} (h : Up es) (ht : thereE es e.path = false) : Up (insAt es e) := by
  obtain ⟨h1, h2⟩ := place_split es e.path
  have hd : ∀ x ∈ es.drop (placeE es e.path), ltS e.path x.path = true := by
    unfold thereE at ht
    intro x hx
    cases hf : es[placeE es e.path]? with
    | none =>
      rw [List.drop_eq_nil_of_le (by simpa using hf)] at hx; simp at hx
    | some y =>
      rw [hf] at ht
      have hy : ltS e.path y.path = true := lt_tot' (h2 y hf) (by simpa using ht)
      obtain ⟨hk, rfl⟩ := List.getElem?_eq_some_iff.1 hf
      rw [List.drop_eq_getElem_cons hk] at hx
      rcases List.mem_cons.1 hx with rfl | hx
      · exact hy
      · refine lt_trans' hy ?_
        obtain ⟨j, hj⟩ := List.getElem?_of_mem hx
        rw [List.getElem?_drop] at hj
        obtain ⟨hjl, rfl⟩ := List.getElem?_eq_some_iff.1 hj
        exact List.pairwise_iff_getElem.1 h _ _ hk hjl (by omega)
  have hs : Up (es.take (placeE es e.path) ++ es.drop (placeE es e.path)) := by rw [List.take_append_drop]; exact h
  unfold Up at hs
  rw [List.pairwise_append] at hs
  unfold insAt Up
  rw [List.append_assoc, List.pairwise_append]
  refine ⟨hs.1, ?_, ?_⟩
  · rw [List.singleton_append, List.pairwise_cons]
    exact ⟨hd, hs.2.1⟩
  · intro x hx y hy
    rw [List.singleton_append, List.mem_cons] at hy
    rcases hy with rfl | hy
    · exact h1 x hx
    · exact hs.2.2 x hx y hy
theorem set_paths {es : List Ent} {e : Ent} (ht : thereE es e.path = true) : pathsOf (es.set (placeE es e.path) e) = pathsOf es := by
  obtain ⟨old, hj, hpo⟩ := there_get ht
  unfold pathsOf
  rw [List.map_set]
  apply List.ext_getElem?
  intro i
  rw [List.getElem?_set]
  split
  · rename_i hi
    subst hi
    rw [if_pos (by simpa using (List.getElem?_eq_some_iff.1 hj).1), List.getElem?_map, hj, Option.map_some, hpo]
  · rfl
theorem putT_up {es : List Ent} {e : Ent} (h : Up es) : Up (putT es e) := by
  unfold putT
  cases ht : thereE es e.path
  · exact insAt_up h ht
  · refine asc_up ?_
    rw [if_pos rfl, set_paths ht]
    exact up_asc h
theorem putT_end {es : List Ent} {e : Ent} (h : ∀ x ∈ es, ltS x.path e.path = true) : putT es e = es ++ [e] := by
  have hp : placeE es e.path = es.length := by
    refine place_of es e.path es.length (Nat.le_refl _) (fun i x _ hi => h x (List.mem_of_getElem? hi)) (fun x hx => ?_)
    rw [List.getElem?_eq_none (Nat.le_refl _)] at hx; cases hx
  unfold putT insAt thereE
  rw [hp, List.getElem?_eq_none (Nat.le_refl _)]
  simp
def putAll (xs : List Ent) : List Ent := xs.foldl putT []
theorem putAll_snoc (xs : List Ent) (x : Ent) : putAll (xs ++ [x]) = putT (putAll xs) x := by unfold putAll; rw [List.foldl_append]; rfl
theorem snoc_ind {α : Type} {P : List α → Prop} (h0 : P []) (h1 : ∀ xs x, P xs → P (xs ++ [x])) : ∀ xs, P xs := fun xs => by
  have : ∀ ys : List α, P ys.reverse := fun ys => by
    induction ys with
    | nil => exact h0
    | cons y ys ih => rw [List.reverse_cons]; exact h1 _ _ ih
  have h := this xs.reverse
  rwa [List.reverse_reverse] at h
theorem putAll_up : ∀ xs, Up (putAll xs) := snoc_ind List.Pairwise.nil (fun xs x ih => by rw [putAll_snoc]; exact putT_up ih)
theorem putT_len (es : List Ent) (e : Ent) : (putT es e).length ≤ es.length + 1 := by
  unfold putT insAt
  split
  · simp
  · have := placeE_le es e.path; simp; omega
theorem putT_mem {es : List Ent} {e x : Ent} (hx : x ∈ putT es e) : x ∈ es ∨ x = e := by
  unfold putT insAt at hx
  split at hx
  · exact List.mem_or_eq_of_mem_set hx
  · simp only [List.mem_append, List.mem_singleton] at hx
    rcases hx with (h | h) | h
    · exact .inl (List.mem_of_mem_take h)
    · exact .inr h
    · exact .inl (List.mem_of_mem_drop h)
theorem putAll_len : ∀ xs, (putAll xs).length ≤ xs.length := snoc_ind (Nat.le_refl _) (fun xs x ih => by
  rw [putAll_snoc]
  have := putT_len (putAll xs) x
  simp; omega)
theorem putAll_mem : ∀ xs x, x ∈ putAll xs → x ∈ xs := snoc_ind (fun x h => h) (fun xs x ih y hy => by
  rw [putAll_snoc] at hy
  rcases putT_mem hy with h | h
  · exact List.mem_append_left _ (ih y h)
  · subst h; simp)
theorem putAll_self : ∀ xs, Up xs → putAll xs = xs := snoc_ind (fun _ => rfl) (fun xs x ih h => by
  unfold Up at h
  rw [List.pairwise_append] at h
  rw [putAll_snoc, ih h.1]
  exact putT_end (fun y hy => h.2.2 y hy x (by simp)))
end Go.Proofs.YtlnpjiabdebmgaaGreat
