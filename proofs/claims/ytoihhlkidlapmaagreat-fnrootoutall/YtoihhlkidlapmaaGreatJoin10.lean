/- Texts of this proof, one behind the other; each says at its head what it shows. -/
import Derived.Test.YtoihhlkidlapmaaGreatJoin5
import Derived.Test.YtoihhlkidlapmaaGreatJoin9
import Derived.Test.YtoihhlkidlapmaaGreatJoin1
import Derived.Test.YtoihhlkidlapmaaGreatJoin3
import Derived.Test.YtoihhlkidlapmaaGreatJoin6
import Derived.Test.YtoihhlkidlapmaaGreatJoin8
namespace Go.Proofs.YtoihhlkidlapmaaGreat
open Go.RowKit Go.Shelf
def treeOfP (p : packC.D) : List Ent := entsD (PackD.tree p)
def joinO : List Ent → List packC.D → Option (List Ent)
  | acc, [] => some acc
  | acc, p :: ps => if okJ acc (treeOfP p) && treeB (joinTo acc (treeOfP p)) then joinO (joinTo acc (treeOfP p)) ps else none
def joinG (ps : List packC.D) : List Ent := (joinO [] ps).getD []
def joinS (ps : List packC.D) : Bool := (joinO [] ps).isSome
theorem joinO_yes {acc : List Ent} {ps : List packC.D} {k : Nat} {p : packC.D} (hp : ps[k]? = some p) (h : (okJ acc (treeOfP p) && treeB (joinTo acc (treeOfP p))) = true) : joinO acc (ps.drop k) = joinO (joinTo acc (treeOfP p)) (ps.drop (k + 1)) := by
  obtain ⟨hl, e⟩ := List.getElem?_eq_some_iff.1 hp
  rw [List.drop_eq_getElem_cons hl, e, joinO, if_pos h]
theorem joinO_no {acc : List Ent} {ps : List packC.D} {k : Nat} {p : packC.D} (hp : ps[k]? = some p) (h : (okJ acc (treeOfP p) && treeB (joinTo acc (treeOfP p))) = false) : joinO acc (ps.drop k) = none := by
  obtain ⟨hl, e⟩ := List.getElem?_eq_some_iff.1 hp
  rw [List.drop_eq_getElem_cons hl, e, joinO, if_neg (by rw [h]; exact Bool.false_ne_true)]
theorem pk_tree {p : packC.D} (h : pkOk p = true) : treeB (treeOfP p) = true := by
  unfold pkOk at h
  simp only [Bool.and_eq_true] at h
  exact h.2
theorem tree_in {W : World} {e : packC.D} {na ta : Option Addr} {nc tc : Nat} (h : packC.at_ W [.string (PackD.name e), .string (PackD.version e), .slice na (PackD.needs e).length nc, .slice ta (PackD.tree e).length tc] e) : EntsAt W ta (treeOfP e) ∧ (treeOfP e).length = (PackD.tree e).length ∧ (ta = none → tc = 0) := by
  obtain ⟨v2, v3, e1, h2, h3⟩ := packC_at h
  injection e1 with _ e1
  injection e1 with _ e1
  injection e1 with _ e1
  injection e1 with e2 _
  subst e2
  obtain ⟨a, cap, ev, hn, hc, hr⟩ := entsD_at h3
  injection ev with ea _ ec
  subst ea ec
  exact ⟨hr, entsD_len _, hn⟩
theorem ents_all {W : World} {b o : Nat} {es : List Ent} (h : EntsAt W (some ⟨b, o, none⟩) es) : ∀ (i : Nat) e, es[i]? = some e → EntAt W b (o + i * 4) e := by
  rcases h with rfl | ⟨b', o', e, _, hc⟩
  · intro i e hi; cases hi
  · cases e; exact hc
theorem treeB_nil : treeB [] = true := by rfl
set_option maxRecDepth 100000 in
set_option maxHeartbeats 4000000 in
theorem l9Tree_any (ps : List packC.D) (v : Value) (w : World) (hlen : ps.length ≤ 1048576) (hf : formB ps = true) (h : rowAt packC w v ps) :
    Calls Tryz.prog 94 #[v] w fun x w' => ∃ u, x = .returned (.tuple #[u, .bool (joinS ps)]) ∧ w'.ownsRow w.heap.size 57 4 u (joinG ps).length (valsOf (joinG ps)) ∧ Below w.heap.size w w' := by
  obtain ⟨a, cap, rfl, -, -, h⟩ := h
  have HF := hid hf
  have H := hid h
  clear h hf
  have HO0 := hid (owns_empty w w.heap.size (Nat.le_refl _) 57)
  have HB0 := hid (show Below w.heap.size w (w.alloc (.cells #[] 57)) from (Below.refl _ w).alloc (Nat.le_refl _) _)
  go_enter Tryz.func94, Tryz.ntmps94
  go_wp2_with fail
  generalize w.alloc (.cells #[] 57) = wa at HO0 HB0 ⊢
  go_loopw [4, 5] (fun s i wr => ∃ (k : Nat) (acc : List Ent) (g c : Nat), k ≤ ps.length ∧ i = .int .i64 (k : Int) ∧ s = .slice (some ⟨g, 0, none⟩) acc.length c ∧ Hid (joinO [] ps = joinO acc (ps.drop k)) ∧ Hid (treeB acc = true) ∧ Hid (wr.ownsRow w.heap.size 57 4 (.slice (some ⟨g, 0, none⟩) acc.length c) acc.length (valsOf acc)) ∧ Hid (Below w.heap.size w wr)) (fun _ i _ => ps.length - (intOf i).toNat)
  case atStart => exact ⟨0, [], _, _, Nat.zero_le _, rfl, rfl, hid rfl, hid treeB_nil, HO0, HB0⟩
  case round =>
    clear HO0 HB0
    obtain ⟨k, acc, g, c, hk, rfl, rfl, HJ, HT, HO, HB⟩ := hrel
    by_cases hlt : k < ps.length
    · obtain ⟨e, he⟩ : ∃ e, ps[k]? = some e := ⟨ps[k], List.getElem?_eq_getElem hlt⟩
      obtain ⟨b, o, rfl, hbl, hc⟩ := (unhid H).resolve_left (by intro e; subst e; simp at hlt)
      obtain ⟨na, nc, ta, tc, ⟨c0, c1, c2, c3⟩, hat⟩ := pack_cells (unhid HB) hbl hc he
      obtain ⟨hte, htl, htn⟩ := tree_in hat
      have HTE := hid (pk_tree (form_ok (unhid HF) he))
      have hgl := ((unhid HO).lt g rfl).2
      obtain ⟨a1, cap1, ev, hRI⟩ := rowIn_of_owns (unhid HO)
      injection ev with ev1 ev2 ev3
      subst ev1
      have JN := hid (l2Join_N acc (treeOfP e) g 0 c ta tc wr (unhid HT) (unhid HTE) (ents_all hRI.at) hgl hte)
      rw [htl] at JN
      have HE := hid he
      clear c0 c1 c2 hat hc he hbl hte htn hgl hRI ev2 ev3 htl
      go_wp2_with fail
      refine (unhid JN).mono ?_
      rintro x w2 ⟨u, rfl, ⟨g2, cc, rfl⟩, ho, hb⟩
      have HB2 := hid ((unhid HB).trans (hb.mono (unhid HB).size))
      have HO2 := hid (ownsRow_lowerS ho (unhid HB).size)
      clear ho hb JN c3
      cases hq : (okJ acc (treeOfP e) && treeB (joinTo acc (treeOfP e))) with
      | false =>
        have EN := hid (show joinO [] ps = none from (unhid HJ).trans (joinO_no (unhid HE) hq))
        have HOE := hid (owns_empty w2 w.heap.size (unhid HB2).size 57)
        have HBE := hid (show Below w.heap.size w (w2.alloc (.cells #[] 57)) from (unhid HB2).alloc (unhid HB2).size _)
        clear HO2 hq
        go_wp2_with fail
        generalize w2.alloc (.cells #[] 57) = w3 at HOE HBE ⊢
        go_ret2
        exact ⟨_, by unfold joinS; rw [unhid EN]; rfl, by unfold joinG; rw [unhid EN]; exact unhid HOE, unhid HBE⟩
      | true =>
        have hj : joinL acc (treeOfP e) = joinTo acc (treeOfP e) := by
          rw [Bool.and_eq_true] at hq
          unfold joinL
          rw [if_pos hq.1]
        have HJ2 := hid ((unhid HJ).trans (joinO_yes (unhid HE) hq))
        have HT2 := hid (show treeB (joinTo acc (treeOfP e)) = true by rw [Bool.and_eq_true] at hq; exact hq.2)
        rw [hj] at HO2 ⊢
        generalize joinTo acc (treeOfP e) = acc2 at *
        clear hj hq
        go_wp2_with fail
        go_roundw
        case rel => exact ⟨k + 1, acc2, g2, cc, by omega, by go_num, rfl, HJ2, HT2, HO2, HB2⟩
        case measure => simp [intOf]; omega
    · have e : k = ps.length := by omega
      subst e
      have EN := hid (show joinO [] ps = some acc by
        have := unhid HJ
        rwa [List.drop_eq_nil_of_le (Nat.le_refl _)] at this)
      go_wp2_with fail
      go_ret2
      exact ⟨_, by unfold joinS; rw [unhid EN]; rfl, by unfold joinG; rw [unhid EN]; exact unhid HO, unhid HB⟩
set_option maxRecDepth 100000 in
set_option maxHeartbeats 4000000 in
theorem joinAll_any (ps : List packC.D) (v : Value) (w : World) (hs : smallPs ps) (hf : formB ps = true) (h : rowAt packC w v ps) :
    Calls Tryz.prog 84 #[v] w fun x w' => ∃ u, x = .returned (.tuple #[u, .bool (joinS ps)]) ∧ w'.ownsRow w.heap.size 57 4 u (joinG ps).length (valsOf (joinG ps)) ∧ Below w.heap.size w w' := by
  obtain ⟨a, cap, rfl, -, -, h⟩ := h
  have hlen := hs.1
  have HSM := hid hs
  have HF := hid hf
  have H := hid h
  clear h hf hs
  have HO0 := hid (show w.ownsRow w.heap.size 57 4 (.slice none 0 0) ([] : List Ent).length (valsOf []) from ⟨rfl, .inl ⟨rfl, rfl⟩⟩)
  go_enter Tryz.func84, Tryz.ntmps84
  go_wp2_with fail
  go_loopw [4, 11] (fun s i wr => ∃ (k : Nat) (acc : List Ent) (ga : Option Addr) (c : Nat), k ≤ ps.length ∧ i = .int .i64 (k : Int) ∧ s = .slice ga acc.length c ∧ Hid (joinO [] ps = joinO acc (ps.drop k)) ∧ Hid (treeB acc = true) ∧ Hid (wr.ownsRow w.heap.size 57 4 (.slice ga acc.length c) acc.length (valsOf acc)) ∧ Hid (Below w.heap.size w wr)) (fun _ i _ => ps.length - (intOf i).toNat)
  case atStart => exact ⟨0, [], _, _, Nat.zero_le _, rfl, rfl, hid rfl, hid treeB_nil, HO0, hid (Below.refl _ _)⟩
  case round =>
    clear HO0
    obtain ⟨k, acc, ga, c, hk, rfl, rfl, HJ, HT, HO, HB⟩ := hrel
    by_cases hlt : k < ps.length
    · obtain ⟨e, he⟩ : ∃ e, ps[k]? = some e := ⟨ps[k], List.getElem?_eq_getElem hlt⟩
      obtain ⟨b, o, rfl, hbl, hc⟩ := (unhid H).resolve_left (by intro e; subst e; simp at hlt)
      obtain ⟨na, nc, ta, tc, ⟨c0, c1, c2, c3⟩, hat⟩ := pack_cells (unhid HB) hbl hc he
      obtain ⟨hte, htl, htn⟩ := tree_in hat
      have HTE := hid (pk_tree (form_ok (unhid HF) he))
      have hst : smallE (treeOfP e) := ((unhid HSM).2 e (List.mem_of_getElem? he)).tree
      have hsa : smallE acc := small_all (by have := tree_16 (unhid HT); omega) (tree_all (unhid HT))
      obtain ⟨a1, cap1, ev, hRI⟩ := rowIn_of_owns (unhid HO)
      injection ev with ev1 ev2 ev3
      subst ev1
      have JN := hid (fun W (hb : Below wr.heap.size wr W) => treeJoin_any acc (treeOfP e) ga ta c tc W hsa hst (hRI.at.below hb) (hte.below hb))
      rw [htl] at JN
      have HE := hid he
      have HB1 := hid (show ∀ x, Below wr.heap.size wr (wr.alloc x) from fun x => (Below.refl _ wr).alloc (Nat.le_refl _) x)
      clear hat hc he hbl hte htn hRI ev2 ev3 htl hst hsa
      go_wp2_with fail
      have hb1 := unhid HB1 (.cells #[.string (PackD.name e), .string (PackD.version e), .slice na (PackD.needs e).length nc, .slice ta (PackD.tree e).length tc] 34)
      generalize wr.alloc (.cells #[.string (PackD.name e), .string (PackD.version e), .slice na (PackD.needs e).length nc, .slice ta (PackD.tree e).length tc] 34) = w1 at hb1 ⊢
      refine (unhid JN w1 hb1).mono ?_
      rintro x w2 ⟨u, rfl, ho, hb⟩
      have hbb := hb1.trans (hb.mono hb1.size)
      have HB2 := hid ((unhid HB).trans (hbb.mono (unhid HB).size))
      have HO2 := hid (ownsRow_lowerS ho ((unhid HB).trans (hb1.mono (unhid HB).size)).size)
      have hjo : joinOk acc (treeOfP e) = (okJ acc (treeOfP e) && treeB (joinTo acc (treeOfP e))) := by unfold joinOk; rw [unhid HT, unhid HTE]; rfl
      obtain ⟨u1, u2, hu⟩ := ownsRow_slice ho
      subst hu
      clear ho hb JN c3 c0 c1 c2 hb1 hbb HB1
      cases hq : (okJ acc (treeOfP e) && treeB (joinTo acc (treeOfP e))) with
      | false =>
        have EN := hid (show joinO [] ps = none from (unhid HJ).trans (joinO_no (unhid HE) hq))
        have HOE := hid (show w2.ownsRow w.heap.size 57 4 (.slice none 0 0) ([] : List Ent).length (valsOf []) from ⟨rfl, .inl ⟨rfl, rfl⟩⟩)
        rw [hq] at hjo
        rw [hjo]
        clear HO2 hq hjo
        go_wp2_with fail
        go_ret2
        exact ⟨_, by unfold joinS; rw [unhid EN]; rfl, by unfold joinG; rw [unhid EN]; exact unhid HOE, unhid HB2⟩
      | true =>
        have hj : joinR acc (treeOfP e) = joinTo acc (treeOfP e) := by
          unfold joinR
          rw [hjo, hq, if_pos rfl]
        have HJ2 := hid ((unhid HJ).trans (joinO_yes (unhid HE) hq))
        have HT2 := hid (show treeB (joinTo acc (treeOfP e)) = true by rw [Bool.and_eq_true] at hq; exact hq.2)
        rw [hq] at hjo
        rw [hjo]
        rw [hj] at HO2 ⊢
        generalize joinTo acc (treeOfP e) = acc2 at *
        clear hj hq hjo
        go_wp2_with fail
        go_roundw
        case rel => exact ⟨k + 1, acc2, u1, u2, by omega, by go_num, rfl, HJ2, HT2, HO2, HB2⟩
        case measure => simp [intOf]; omega
    · have e : k = ps.length := by omega
      subst e
      have EN := hid (show joinO [] ps = some acc by
        have := unhid HJ
        rwa [List.drop_eq_nil_of_le (Nat.le_refl _)] at this)
      go_wp2_with fail
      go_ret2
      exact ⟨_, by unfold joinS; rw [unhid EN]; rfl, by unfold joinG; rw [unhid EN]; exact unhid HO, unhid HB⟩
end Go.Proofs.YtoihhlkidlapmaaGreat

namespace Go.Proofs.YtoihhlkidlapmaaGreat
open Go.RowKit Go.Shelf
structure RootD where
  packs : List packC.D
end Go.Proofs.YtoihhlkidlapmaaGreat

namespace Go.Proofs.YtoihhlkidlapmaaGreat
open Go.RowKit Go.Shelf
def rootCode (ps : List packC.D) : Int := if formB ps then (if ps.length ≤ 5 then (if needsB ps then (if joinS ps then 0 else 5) else 4) else 6) else 1
theorem code_form {ps : List packC.D} (h : formB ps = false) : rootCode ps = 1 := by unfold rootCode; rw [h]; rfl
theorem code_full {ps : List packC.D} (h : formB ps = true) (h2 : ¬ ps.length ≤ 5) : rootCode ps = 6 := by unfold rootCode; rw [if_pos h, if_neg h2]
theorem code_needs {ps : List packC.D} (h : formB ps = true) (h2 : ps.length ≤ 5) (h3 : needsB ps = false) : rootCode ps = 4 := by unfold rootCode; rw [if_pos h, if_pos h2, h3]; rfl
theorem code_join {ps : List packC.D} (h : formB ps = true) (h2 : ps.length ≤ 5) (h3 : needsB ps = true) (h4 : joinS ps = false) : rootCode ps = 5 := by unfold rootCode; rw [if_pos h, if_pos h2, if_pos h3, h4]; rfl
theorem code_fine {ps : List packC.D} (h : formB ps = true) (h2 : ps.length ≤ 5) (h3 : needsB ps = true) (h4 : joinS ps = true) : rootCode ps = 0 := by unfold rootCode; rw [if_pos h, if_pos h2, if_pos h3, if_pos h4]
theorem code_0 {ps : List packC.D} (h : rootCode ps = 0) : formB ps = true ∧ ps.length ≤ 5 ∧ needsB ps = true ∧ joinS ps = true := by
  unfold rootCode at h
  split at h
  · split at h
    · split at h
      · split at h
        · exact ⟨by assumption, by assumption, by assumption, by assumption⟩
        · cases h
      · cases h
    · cases h
  · cases h
set_option maxRecDepth 100000 in
set_option maxHeartbeats 8000000 in
theorem l9Check_any (ps : List packC.D) (v : Value) (w : World) (hs : smallPs ps) (h : rowAt packC w v ps) :
    Calls Tryz.prog 80 #[v] w fun x w' => x = .returned (.int .i64 (rootCode ps)) ∧ Below w.heap.size w w' := by
  have HR := hid h
  obtain ⟨a, cap, rfl, -, -, h⟩ := h
  have hlen := hs.1
  have HSM := hid hs
  have H := hid h
  clear h hs
  go_enter Tryz.func80, Tryz.ntmps80
  go_wp2_with fail
  go_loopw [3] (fun i wr => ∃ k : Nat, k ≤ ps.length ∧ i = .int .i64 (k : Int) ∧ Hid ((List.range k).all (okAt ps) = true) ∧ Hid (Below w.heap.size w wr)) (fun i _ => ps.length - (intOf i).toNat)
  case atStart => exact ⟨0, Nat.zero_le _, rfl, hid rfl, hid (Below.refl _ _)⟩
  case round =>
    obtain ⟨k, hk, rfl, HA, HB⟩ := hrel
    by_cases hlt : k < ps.length
    · obtain ⟨e, he⟩ : ∃ e, ps[k]? = some e := ⟨ps[k], List.getElem?_eq_getElem hlt⟩
      obtain ⟨b, o, rfl, hbl, hc⟩ := (unhid H).resolve_left (by intro e; subst e; simp at hlt)
      obtain ⟨na, nc, ta, tc, ⟨c0, c1, c2, c3⟩, hat⟩ := pack_cells (unhid HB) hbl hc he
      have hbw : b < wr.heap.size := Nat.lt_of_lt_of_le hbl (unhid HB).size
      have HBW := hid hbw
      have HE := hid he
      have SP := hid ((unhid HSM).2 e (List.mem_of_getElem? he))
      have PK := hid (fun W (hb : Below wr.heap.size wr W) => specPackOk_any e _ W (unhid SP) (packC.below hat hb))
      have g0 : ∀ x : CW (fun w' => Below wr.heap.size wr w'), x.w.cell? ⟨b, o + k * 4, none⟩ = some (.string (PackD.name e)) := fun x => (x.h.cell (p := ⟨b, o + k * 4, none⟩) hbw).trans c0
      have g1 : ∀ x : CW (fun w' => Below wr.heap.size wr w'), x.w.cell? ⟨b, o + k * 4 + 1, none⟩ = some (.string (PackD.version e)) := fun x => (x.h.cell (p := ⟨b, o + k * 4 + 1, none⟩) hbw).trans c1
      have g2 : ∀ x : CW (fun w' => Below wr.heap.size wr w'), x.w.cell? ⟨b, o + k * 4 + 2, none⟩ = some (.slice na (PackD.needs e).length nc) := fun x => (x.h.cell (p := ⟨b, o + k * 4 + 2, none⟩) hbw).trans c2
      have g3 : ∀ x : CW (fun w' => Below wr.heap.size wr w'), x.w.cell? ⟨b, o + k * 4 + 3, none⟩ = some (.slice ta (PackD.tree e).length tc) := fun x => (x.h.cell (p := ⟨b, o + k * 4 + 3, none⟩) hbw).trans c3
      have hba : ∀ {q : Prop}, (CW (fun w' => Below wr.heap.size wr w') → q) ↔ q := CW.all (Below.refl _ wr)
      by_cases hk0 : k = 0
      · subst hk0
        have EK := hid (okAt_0 he)
        have g5 : ∀ x : CW (fun w' => Below wr.heap.size wr w'), x.w.cell? ⟨b, o, none⟩ = some (.string (PackD.name e)) := fun x => by have := g0 x; rwa [Nat.zero_mul] at this
        have g6 : ∀ x : CW (fun w' => Below wr.heap.size wr w'), x.w.cell? ⟨b, o + 1, none⟩ = some (.string (PackD.version e)) := fun x => by have := g1 x; rwa [Nat.zero_mul] at this
        have g7 : ∀ x : CW (fun w' => Below wr.heap.size wr w'), x.w.cell? ⟨b, o + 2, none⟩ = some (.slice na (PackD.needs e).length nc) := fun x => by have := g2 x; rwa [Nat.zero_mul] at this
        have g8 : ∀ x : CW (fun w' => Below wr.heap.size wr w'), x.w.cell? ⟨b, o + 3, none⟩ = some (.slice ta (PackD.tree e).length tc) := fun x => by have := g3 x; rwa [Nat.zero_mul] at this
        clear hc he hbl hat c0 c1 c2 c3 g0 g1 g2 g3
        go_wp2_with fail
        refine held_begin (fun w' => Below wr.heap.size wr w') (by kernel_rfl) (drew_belowS _) ?_
        refine held_here [true, true, true, true] (by kernel_rfl) (by kernel_rfl) (fun _ _ _ _ _ h => h) (drew_belowS _) ?_
        dsimp only [pick]
        repeat (go_big_quiet_step (fail))
        refine wpQuiet_nil ?_
        have hD := drew_belowS (B := wr.heap.size) wr
        generalize wr.drew = W1 at hD ⊢
        refine held_call 4 122 16 (enters_of Tryz.func122 (by kernel_rfl) rfl) #[.agg #[.string (PackD.name e), .string (PackD.version e), .slice na (PackD.needs e).length nc, .slice ta (PackD.tree e).length tc]] (by kernel_rfl) (by kernel_rfl) rfl rfl rfl rfl rfl ?_
        refine (unhid PK W1 hD).mono ?_
        rintro r w2 ⟨rfl, hb⟩
        have hD2 := hD.trans (hb.mono hD.size)
        have HB4 := hid ((unhid HB).trans (hD2.mono (unhid HB).size))
        refine ⟨_, rfl, hD2, ?_⟩
        simp only [Act.put, List.setIfInBounds_toArray, List.set_cons_zero, List.set_cons_succ]
        clear hb
        cases hq : pkOk e with
        | false =>
          refine held_here [false, false, false, false, false, true, true, true, true, true, true, true, true, true, true, true, true, true, true, true, true, true, true, true] (by kernel_rfl) (by kernel_rfl) (fun _ _ _ _ _ h => h) hD2 ?_
          dsimp only [pick]
          repeat (go_big_quiet_step (fail))
          refine wpQuiet_nil ?_
          refine held_done (by kernel_rfl) ?_
          have E := hid (code_form (show formB ps = false by unfold formB; rw [all_range_no hlt (by rw [unhid EK, hq])]))
          clear hba hD hD2 g5 g6 g7 g8
          go_wp2_with fail
          go_ret
          exact ⟨by rw [unhid E]; rfl, unhid HB4⟩
        | true =>
          have HQ := hid hq
          clear hq
          refine held_here [false, false, false, false, false, true, true, true, true, true, true, true, true, true, true, true, true, true, true, true, true, true, true, true] (by kernel_rfl) (by kernel_rfl) (fun _ _ _ _ _ h => h) hD2 ?_
          dsimp only [pick]
          repeat (go_big_quiet_step (fail))
          refine wpQuiet_nil ?_
          refine held_done (by kernel_rfl) ?_
          clear hba hD hD2 g5 g6 g7 g8
          go_wp2_with fail
          go_roundw
          case rel => exact ⟨1, by omega, by go_num, hid (all_range_snoc rfl (by rw [unhid EK, unhid HQ])), HB4⟩
          case measure => simp [intOf]; omega
      · obtain ⟨j, rfl⟩ : ∃ j, k = j + 1 := ⟨k - 1, by omega⟩
        obtain ⟨d, hd⟩ : ∃ d, ps[j]? = some d := ⟨ps[j], List.getElem?_eq_getElem (by omega)⟩
        obtain ⟨-, -, -, -, ⟨d0, -, -, -⟩, -⟩ := pack_cells (unhid HB) hbl hc hd
        have EK := hid (okAt_s he hd)
        have g4 : ∀ x : CW (fun w' => Below wr.heap.size wr w'), x.w.cell? ⟨b, o + j * 4, none⟩ = some (.string (PackD.name d)) := fun x => (x.h.cell (p := ⟨b, o + j * 4, none⟩) hbw).trans d0
        have hjj : ((j + 1 : Nat) : Int) - 1 = (j : Int) := by omega
        have hpos : decide ((0 : Int) < ((j + 1 : Nat) : Int)) = true := decide_eq_true (by omega)
        have hnp : (decide (((j + 1 : Nat) : Int) < 0) || (((j + 1 : Nat) : Int) == 0)) = false := by
          rw [decide_eq_false (by omega), Bool.false_or]
          exact beq_eq_false_iff_ne.2 (by omega)
        clear hc he hbl hat c0 c1 c2 c3 hd d0
        go_wp2_with fail
        refine held_begin (fun w' => Below wr.heap.size wr w') (by kernel_rfl) (drew_belowS _) ?_
        refine held_here [true, true, true, true] (by kernel_rfl) (by kernel_rfl) (fun _ _ _ _ _ h => h) (drew_belowS _) ?_
        dsimp only [pick]
        repeat (go_big_quiet_step (fail))
        refine wpQuiet_nil ?_
        have hD := drew_belowS (B := wr.heap.size) wr
        generalize wr.drew = W1 at hD ⊢
        refine held_call 4 122 16 (enters_of Tryz.func122 (by kernel_rfl) rfl) #[.agg #[.string (PackD.name e), .string (PackD.version e), .slice na (PackD.needs e).length nc, .slice ta (PackD.tree e).length tc]] (by kernel_rfl) (by kernel_rfl) rfl rfl rfl rfl rfl ?_
        refine (unhid PK W1 hD).mono ?_
        rintro r w2 ⟨rfl, hb⟩
        have hD2 := hD.trans (hb.mono hD.size)
        have HB4 := hid ((unhid HB).trans (hD2.mono (unhid HB).size))
        refine ⟨_, rfl, hD2, ?_⟩
        simp only [Act.put, List.setIfInBounds_toArray, List.set_cons_zero, List.set_cons_succ]
        clear hb
        cases hq : pkOk e with
        | false =>
          refine held_here [false, false, false, false, false, true, true, true, true, true, true, true, true, true, true, true, true, true, true, true, true, true, true, true] (by kernel_rfl) (by kernel_rfl) (fun _ _ _ _ _ h => h) hD2 ?_
          dsimp only [pick]
          repeat (go_big_quiet_step (fail))
          refine wpQuiet_nil ?_
          refine held_done (by kernel_rfl) ?_
          have E := hid (code_form (show formB ps = false by unfold formB; rw [all_range_no hlt (by rw [unhid EK, hq]; rfl)]))
          clear hba hD hD2 g0 g1 g2 g3 g4 hpos hnp
          go_wp2_with fail
          go_ret
          exact ⟨by rw [unhid E]; rfl, unhid HB4⟩
        | true =>
          have HQ := hid hq
          clear hq
          cases hls : ltS (PackD.name d) (PackD.name e) with
          | false =>
            have hl2 : Op.bytesLess (PackD.name d).toList (PackD.name e).toList = false := hls
            refine held_here [false, false, false, false, false, true, true, true, true, true, true, true, true, true, true, true, true, true, true, true, true, true, true, true] (by kernel_rfl) (by kernel_rfl) (fun _ _ _ _ _ h => h) hD2 ?_
            dsimp only [pick]
            repeat (go_big_quiet_step (fail))
            refine wpQuiet_nil ?_
            refine held_done (by kernel_rfl) ?_
            have E := hid (code_form (show formB ps = false by unfold formB; rw [all_range_no hlt (by rw [unhid EK, hls, Bool.and_false])]))
            clear hba hD hD2 g0 g1 g2 g3 g4 hpos hnp hls hl2
            go_wp2_with fail
            go_ret
            exact ⟨by rw [unhid E]; rfl, unhid HB4⟩
          | true =>
            have hl2 : Op.bytesLess (PackD.name d).toList (PackD.name e).toList = true := hls
            have HLS := hid hls
            refine held_here [false, false, false, false, false, true, true, true, true, true, true, true, true, true, true, true, true, true, true, true, true, true, true, true] (by kernel_rfl) (by kernel_rfl) (fun _ _ _ _ _ h => h) hD2 ?_
            dsimp only [pick]
            repeat (go_big_quiet_step (fail))
            refine wpQuiet_nil ?_
            refine held_done (by kernel_rfl) ?_
            clear hba hD hD2 g0 g1 g2 g3 g4 hpos hnp hls hl2
            go_wp2_with fail
            go_roundw
            case rel => exact ⟨j + 1 + 1, by omega, by go_num, hid (all_range_snoc (unhid HA) (by rw [unhid EK, unhid HQ, unhid HLS]; rfl)), HB4⟩
            case measure => simp [intOf]; omega
    · have e : k = ps.length := by omega
      subst e
      have HF := hid (show formB ps = true from unhid HA)
      clear HA
      go_wp2_with fail
      refine (l9Tree_any ps _ wr hlen (unhid HF) ((unhid HR).below (unhid HB))).mono ?_
      rintro x w2 ⟨u, rfl, -, hb⟩
      have HB2 := hid ((unhid HB).trans (hb.mono (unhid HB).size))
      clear hb
      by_cases h5 : ps.length ≤ 5
      · go_wp2_with fail
        refine (l9Needs_any ps _ w2 (unhid HSM) (unhid HF) ((unhid HR).below (unhid HB2))).mono ?_
        rintro x w3 ⟨rfl, hb⟩
        have HB3 := hid ((unhid HB2).trans (hb.mono (unhid HB2).size))
        clear hb
        cases hn : needsB ps with
        | false =>
          have E := hid (code_needs (unhid HF) h5 hn)
          go_wp2_with fail
          go_ret
          exact ⟨by rw [unhid E]; rfl, unhid HB3⟩
        | true =>
          cases hj : joinS ps with
          | false =>
            have E := hid (code_join (unhid HF) h5 hn hj)
            go_wp2_with fail
            go_ret
            exact ⟨by rw [unhid E]; rfl, unhid HB3⟩
          | true =>
            have E := hid (code_fine (unhid HF) h5 hn hj)
            go_wp2_with fail
            go_ret
            exact ⟨by rw [unhid E]; rfl, unhid HB3⟩
      · have E := hid (code_full (unhid HF) h5)
        go_wp2_with fail
        go_ret
        exact ⟨by rw [unhid E]; rfl, unhid HB2⟩
def formCode (ps : List packC.D) : Int := if formB ps then 0 else 1
def fullCode (ps : List packC.D) : Int := if ps.length ≤ 5 then 0 else 6
def clashCode (ps : List packC.D) : Int := if joinS ps then 0 else 5
set_option maxRecDepth 100000 in
set_option maxHeartbeats 1000000 in
theorem askForm_any (ps : List packC.D) (v : Value) (w : World) (hs : smallPs ps) (h : rowAt packC w v ps) :
    Calls Tryz.prog 149 #[v] w fun x w' => x = .returned (.int .i64 (formCode ps)) ∧ Below w.heap.size w w' := by
  have K := hid (packsByName_any ps v w hs h)
  obtain ⟨a, c, rfl, -⟩ := rowAt.slice h
  clear hs h
  go_enter Tryz.func149, Tryz.ntmps149
  go_wp2_with fail
  refine (unhid K).mono ?_
  rintro x w2 ⟨rfl, hb⟩
  have HB := hid hb
  clear hb
  cases hq : formB ps with
  | false =>
    go_wp2_with fail
    go_ret
    exact ⟨by unfold formCode; rw [hq]; rfl, unhid HB⟩
  | true =>
    go_wp2_with fail
    go_ret
    exact ⟨by unfold formCode; rw [hq]; rfl, unhid HB⟩
set_option maxRecDepth 100000 in
set_option maxHeartbeats 1000000 in
theorem askFull_any (ps : List packC.D) (v : Value) (w : World) (hs : smallPs ps) (h : rowAt packC w v ps) :
    Calls Tryz.prog 150 #[v] w fun x w' => x = .returned (.int .i64 (fullCode ps)) ∧ Below w.heap.size w w' := by
  obtain ⟨a, c, rfl, -⟩ := rowAt.slice h
  have hlen := hs.1
  clear hs h
  by_cases h5 : ps.length ≤ 5
  · go_enter Tryz.func150, Tryz.ntmps150
    go_wp2_with fail
    go_ret
    exact ⟨by unfold fullCode; rw [if_pos h5]; rfl, Below.refl _ _⟩
  · go_enter Tryz.func150, Tryz.ntmps150
    go_wp2_with fail
    go_ret
    exact ⟨by unfold fullCode; rw [if_neg h5]; rfl, Below.refl _ _⟩
set_option maxRecDepth 100000 in
set_option maxHeartbeats 1000000 in
theorem askClash_any (ps : List packC.D) (v : Value) (w : World) (hs : smallPs ps) (hf : formB ps = true) (h : rowAt packC w v ps) :
    Calls Tryz.prog 152 #[v] w fun x w' => x = .returned (.int .i64 (clashCode ps)) ∧ Below w.heap.size w w' := by
  have K := hid (joinAll_any ps v w hs hf h)
  obtain ⟨a, c, rfl, -⟩ := rowAt.slice h
  clear hs h hf
  go_enter Tryz.func152, Tryz.ntmps152
  go_wp2_with fail
  refine (unhid K).mono ?_
  rintro x w2 ⟨u, rfl, ho, hb⟩
  have HB := hid hb
  clear hb ho
  cases hq : joinS ps with
  | false =>
    go_wp2_with fail
    go_ret
    exact ⟨by unfold clashCode; rw [hq]; rfl, unhid HB⟩
  | true =>
    go_wp2_with fail
    go_ret
    exact ⟨by unfold clashCode; rw [hq]; rfl, unhid HB⟩
set_option maxRecDepth 100000 in
set_option maxHeartbeats 4000000 in
theorem packsWrong_any (ps : List packC.D) (v : Value) (w : World) (hs : smallPs ps) (h : rowAt packC w v ps) :
    Calls Tryz.prog 93 #[v] w fun x w' => x = .returned (.int .i64 (rootCode ps)) ∧ Below w.heap.size w w' := by
  obtain ⟨a, c, rfl, -⟩ := rowAt.slice h
  have HR := hid h
  have HS := hid hs
  have hlen := hs.1
  clear hs h
  go_enter Tryz.func93, Tryz.ntmps93
  go_wp2_with fail
  have hbx := World.alloc_heap_new w (.cells #[.func (.func 149) #[] #[], .func (.func 150) #[] #[], .func (.func 151) #[] #[], .func (.func 152) #[] #[]] 188)
  have hb0 : Below w.heap.size w (w.alloc (.cells #[.func (.func 149) #[] #[], .func (.func 150) #[] #[], .func (.func 151) #[] #[], .func (.func 152) #[] #[]] 188)) := (Below.refl _ w).alloc (Nat.le_refl _) _
  have hlt0 : w.heap.size < (w.alloc (.cells #[.func (.func 149) #[] #[], .func (.func 150) #[] #[], .func (.func 151) #[] #[], .func (.func 152) #[] #[]] 188)).heap.size := by simp
  generalize w.alloc (.cells #[.func (.func 149) #[] #[], .func (.func 150) #[] #[], .func (.func 151) #[] #[], .func (.func 152) #[] #[]] 188) = W0 at hbx hb0 hlt0 ⊢
  have BX := hid hbx
  have HB0 := hid hb0
  have HLT := hid hlt0
  clear hbx hb0 hlt0
  go_loopw [8] (fun i wr => ∃ k : Nat, k ≤ 4 ∧ i = .int .i64 (k : Int) ∧ Hid ((1 ≤ k → formB ps = true) ∧ (2 ≤ k → ps.length ≤ 5) ∧ (3 ≤ k → needsB ps = true) ∧ (4 ≤ k → joinS ps = true)) ∧ Hid (Below W0.heap.size W0 wr)) (fun i _ => 4 - (intOf i).toNat)
  case atStart => exact ⟨0, Nat.zero_le _, rfl, hid ⟨fun h => by omega, fun h => by omega, fun h => by omega, fun h => by omega⟩, hid (Below.refl _ _)⟩
  case round =>
    obtain ⟨k, hk, rfl, HA, HB⟩ := hrel
    have HBW := hid ((unhid HB0).trans ((unhid HB).mono (unhid HB0).size))
    have hblk := ((unhid HB).block _ (unhid HLT)).trans (unhid BX)
    have c0 := cell_arrS hblk 0 _ rfl
    have c1 := cell_arrS hblk 1 _ rfl
    have c2 := cell_arrS hblk 2 _ rfl
    have c3 := cell_arrS hblk 3 _ rfl
    clear hblk
    have HRW := hid ((unhid HR).below (unhid HBW))
    rcases (show k = 0 ∨ k = 1 ∨ k = 2 ∨ k = 3 ∨ k = 4 by omega) with rfl | rfl | rfl | rfl | rfl
    · go_wp2_with fail
      refine (askForm_any ps _ wr (unhid HS) (unhid HRW)).mono ?_
      rintro x w2 ⟨rfl, hb⟩
      have HB2 := hid ((unhid HB).trans (hb.mono (unhid HB).size))
      have HBZ := hid ((unhid HBW).trans (hb.mono (unhid HBW).size))
      clear hb c0 c1 c2 c3
      cases hq : formB ps with
      | false =>
        have e : formCode ps = 1 := by unfold formCode; rw [hq]; rfl
        have E := hid (code_form hq)
        rw [e]
        go_wp2_with fail
        go_ret
        exact ⟨by rw [unhid E]; rfl, unhid HBZ⟩
      | true =>
        have e : formCode ps = 0 := by unfold formCode; rw [hq]; rfl
        have HQ := hid hq
        rw [e]
        clear hq e
        go_wp2_with fail
        go_roundw
        case rel => exact ⟨1, by omega, by go_num, hid ⟨fun _ => unhid HQ, fun h => by omega, fun h => by omega, fun h => by omega⟩, HB2⟩
        case measure => simp [intOf]
    · have HF := hid ((unhid HA).1 (by omega))
      go_wp2_with fail
      refine (askFull_any ps _ wr (unhid HS) (unhid HRW)).mono ?_
      rintro x w2 ⟨rfl, hb⟩
      have HB2 := hid ((unhid HB).trans (hb.mono (unhid HB).size))
      have HBZ := hid ((unhid HBW).trans (hb.mono (unhid HBW).size))
      clear hb c0 c1 c2 c3
      by_cases hq : ps.length ≤ 5
      · have e : fullCode ps = 0 := by unfold fullCode; rw [if_pos hq]
        have HQ := hid hq
        rw [e]
        clear e hq
        go_wp2_with fail
        go_roundw
        case rel => exact ⟨2, by omega, by go_num, hid ⟨fun _ => unhid HF, fun _ => unhid HQ, fun h => by omega, fun h => by omega⟩, HB2⟩
        case measure => simp [intOf]
      · have e : fullCode ps = 6 := by unfold fullCode; rw [if_neg hq]
        have E := hid (code_full (unhid HF) hq)
        rw [e]
        go_wp2_with fail
        go_ret
        exact ⟨by rw [unhid E]; rfl, unhid HBZ⟩
    · have HF := hid ((unhid HA).1 (by omega))
      have H5 := hid ((unhid HA).2.1 (by omega))
      go_wp2_with fail
      refine (askNeeds_any ps _ wr (unhid HS) (unhid HF) (unhid HRW)).mono ?_
      rintro x w2 ⟨rfl, hb⟩
      have HB2 := hid ((unhid HB).trans (hb.mono (unhid HB).size))
      have HBZ := hid ((unhid HBW).trans (hb.mono (unhid HBW).size))
      clear hb c0 c1 c2 c3
      cases hq : needsB ps with
      | false =>
        have e : needCode ps = 4 := by unfold needCode; rw [hq]; rfl
        have E := hid (code_needs (unhid HF) (unhid H5) hq)
        rw [e]
        go_wp2_with fail
        go_ret
        exact ⟨by rw [unhid E]; rfl, unhid HBZ⟩
      | true =>
        have e : needCode ps = 0 := by unfold needCode; rw [hq]; rfl
        have HQ := hid hq
        rw [e]
        clear hq e
        go_wp2_with fail
        go_roundw
        case rel => exact ⟨3, by omega, by go_num, hid ⟨fun _ => unhid HF, fun _ => unhid H5, fun _ => unhid HQ, fun h => by omega⟩, HB2⟩
        case measure => simp [intOf]
    · have HF := hid ((unhid HA).1 (by omega))
      have H5 := hid ((unhid HA).2.1 (by omega))
      have HN := hid ((unhid HA).2.2.1 (by omega))
      go_wp2_with fail
      refine (askClash_any ps _ wr (unhid HS) (unhid HF) (unhid HRW)).mono ?_
      rintro x w2 ⟨rfl, hb⟩
      have HB2 := hid ((unhid HB).trans (hb.mono (unhid HB).size))
      have HBZ := hid ((unhid HBW).trans (hb.mono (unhid HBW).size))
      clear hb c0 c1 c2 c3
      cases hq : joinS ps with
      | false =>
        have e : clashCode ps = 5 := by unfold clashCode; rw [hq]; rfl
        have E := hid (code_join (unhid HF) (unhid H5) (unhid HN) hq)
        rw [e]
        go_wp2_with fail
        go_ret
        exact ⟨by rw [unhid E]; rfl, unhid HBZ⟩
      | true =>
        have e : clashCode ps = 0 := by unfold clashCode; rw [hq]; rfl
        have HQ := hid hq
        rw [e]
        clear hq e
        go_wp2_with fail
        go_roundw
        case rel => exact ⟨4, by omega, by go_num, hid ⟨fun _ => unhid HF, fun _ => unhid H5, fun _ => unhid HN, fun _ => unhid HQ⟩, HB2⟩
        case measure => simp [intOf]
    · have E := hid (code_fine ((unhid HA).1 (by omega)) ((unhid HA).2.1 (by omega)) ((unhid HA).2.2.1 (by omega)) ((unhid HA).2.2.2 (by omega)))
      clear c0 c1 c2 c3
      go_wp2_with fail
      go_ret
      exact ⟨by rw [unhid E]; rfl, unhid HBW⟩
end Go.Proofs.YtoihhlkidlapmaaGreat

namespace Go.Proofs.YtoihhlkidlapmaaGreat
open Go.RowKit Go.Shelf
set_option maxRecDepth 100000 in
set_option maxHeartbeats 4000000 in
theorem l9Try_any (qs : List packC.D) (a1 : Option Addr) (n1 c1 : Nat) (v : Value) (w : World) (hs : smallPs qs) (hq : rowAt packC w v qs) :
    Calls Tryz.prog 145 #[.agg #[.slice a1 n1 c1], v] w fun x w' => ∃ r, x = .returned (.tuple #[.agg #[r], .int .i64 (rootCode qs)]) ∧ ((rootCode qs = 0 ∧ r = v) ∨ (rootCode qs ≠ 0 ∧ r = .slice a1 n1 c1)) ∧ Below w.heap.size w w' := by
  obtain ⟨a2, c2, rfl, -⟩ := rowAt.slice hq
  have HQ := hid hq
  clear hq
  go_enter Tryz.func145, Tryz.ntmps145
  go_wp2_with fail
  obtain ⟨hP, hR, hS, hB⟩ := two_boxesP w (.cells #[.slice a1 n1 c1] 51) (.cells #[.slice none 0 0] 51)
  generalize (w.alloc (.cells #[.slice a1 n1 c1] 51)).alloc (.cells #[.slice none 0 0] 51) = W0 at hP hR hS hB ⊢
  refine (l9Check_any qs _ W0 hs ((unhid HQ).below hB)).mono ?_
  rintro x w2 ⟨rfl, hb⟩
  obtain ⟨o0, p0⟩ := cell_fz ((hb.block _ (by omega)).trans hP) 0 _ rfl
  obtain ⟨o1, p1⟩ := cell_fz ((hb.block _ hS).trans hR) 0 _ rfl
  have HB := hid (hB.trans (hb.mono hB.size))
  clear hb hP hR hB
  by_cases h0 : rootCode qs = 0
  · have HE := hid h0
    rw [h0]
    go_wp2_with fail
    exact bodyPost_ret (v := .tuple #[.agg #[.slice a2 qs.length c2], .int .i64 0]) (by simp [results, Tryz.results145, go_sem, World.cell?_setCell_same', o1]) rfl ⟨_, by rw [unhid HE], .inl ⟨unhid HE, rfl⟩, (unhid HB).setCell (by dsimp only; omega) _⟩
  · have HE := hid h0
    go_wp2_with fail
    exact bodyPost_ret (v := .tuple #[.agg #[.slice a1 n1 c1], .int .i64 (rootCode qs)]) (by simp [results, Tryz.results145, go_sem, World.cell?_setCell_same', o1]) rfl ⟨_, rfl, .inr ⟨unhid HE, rfl⟩, (unhid HB).setCell (by dsimp only; omega) _⟩
def tryP (ps qs : List packC.D) : List packC.D := if rootCode qs = 0 then qs else ps
def hasBN (q : ByteArray) (ps : List packC.D) : Bool := (namesP ps).any fun x => decide (x = q)
theorem hasB_iffN (q : ByteArray) (ps : List packC.D) : hasBN q ps = true ↔ q ∈ namesP ps := by simp [hasBN]
def outCode (q : ByteArray) (ps : List packC.D) : Int := if hasBN q ps then rootCode (withoutP q ps) else 3
def outP (q : ByteArray) (ps : List packC.D) : List packC.D := if hasBN q ps then tryP ps (withoutP q ps) else ps
def OutW (w : World) (g : Nat) (w' : World) : Prop := Below (g + 1) w w' ∧ ∃ z, w'.heap[g + 1]? = some (.cells #[z] 51 (0, 0))
theorem OutW.next {w w1 w2 : World} {g : Nat} (h : OutW w g w1) (hg : g + 1 < w1.heap.size) (hb : Below w1.heap.size w1 w2) : OutW w g w2 := by
  obtain ⟨h1, z, hz⟩ := h
  exact ⟨h1.trans (hb.mono (by omega)), z, (hb.block _ hg).trans hz⟩
theorem OutW.store {w w1 : World} {g : Nat} (h : OutW w g w1) (u : Value) : OutW w g (w1.setCell ⟨g + 1, 0, none⟩ u) := by
  obtain ⟨h1, z, hz⟩ := h
  exact ⟨h1.setCell (by dsimp only; omega) _, u, heap_setCell_same w1 (g + 1) 0 _ _ u hz⟩
end Go.Proofs.YtoihhlkidlapmaaGreat

namespace Go.Proofs.YtoihhlkidlapmaaGreat
open Go.RowKit Go.Shelf
def withP (p : packC.D) (ps : List packC.D) : List packC.D := ps.take (placeP (namesP ps) (PackD.name p)) ++ p :: ps.drop (placeP (namesP ps) (PackD.name p))
theorem op_none {K : CK} {t e : Nat} (hET : ET K t e) {ops : Array Oper} {o : Oper} {a : Act} (w : World) {Q : Exit → Act → World → Prop} {K' : Act → World → Prop} (d : Nat) (s x : Operand) (ho : o.op = .call { callee := .builtin .append, args := #[s, x], argTypes := #[t, t] }) (hw : Region.wanted o (yielded ops a.tmps) = true) (hd : o.dst = some d)
    (N : Nat) (v : Value) (L : List (It K)) (h : NRow K e w N v L) (hs : a.eval s = v) (hx : a.eval x = .slice none 0 0) (hk : K' (a.put (some d) v) w) : if Region.wanted o (yielded ops a.tmps) = true then Oper.wp Tryz.prog o a w K' Q else K' (a.put o.dst undef) w := by
  rw [if_pos hw]
  obtain ⟨i, z, bytes, ht, hi, _⟩ := hET.ex
  have hr := run_append_owned_none (P := Tryz.prog) w N t o.type e i K.n ht hi v L.length (itCells L) h.row
  unfold Oper.wp execOp
  simp only [ho, resolve, invoke, builtin, Sem.run_bind, Sem.run_pure, Result.andThen_ok, List.map_toArray, List.map_cons, List.map_nil, hs, hx, hr]
  show K' (a.put o.dst v) w
  rw [hd]
  exact hk
theorem items_mid {K : CK} {W : World} {N B k : Nat} {L : List (It K)} {cs : List Value} {d : K.D} {F : List Nat} (h : Items K W N L) (hB : ∀ x ∈ itF L, x < B) (hown : K.own W cs d F) (hF : ∀ x ∈ F, B ≤ x) (hNB : N ≤ B) : Items K W N (L.take k ++ [((cs, d, F) : It K)] ++ L.drop k) := by
  have e : L.take k ++ L.drop k = L := List.take_append_drop k L
  have e2 : itF (L.take k) ++ itF (L.drop k) = itF L := by rw [← itF_app, e]
  have hn := h.nodup
  rw [← e2] at hn hB
  obtain ⟨n1, n2, n3⟩ := List.nodup_append.1 hn
  have hsing : itF [((cs, d, F) : It K)] = F := by simp [itF]
  refine ⟨fun t ht => ?_, ?_, fun x hx => ?_⟩
  · simp only [List.mem_append, List.mem_singleton] at ht
    rcases ht with (ht | rfl) | ht
    · exact h.each t (List.mem_of_mem_take ht)
    · exact hown
    · exact h.each t (List.mem_of_mem_drop ht)
  · rw [itF_app, itF_app, hsing]
    refine List.nodup_append.2 ⟨List.nodup_append.2 ⟨n1, K.nodup hown, fun x hx y hy e => ?_⟩, n2, fun x hx y hy e => ?_⟩
    · subst e
      have h1 := hB x (List.mem_append.2 (.inl hx))
      have h2 := hF x hy
      omega
    · subst e
      rcases List.mem_append.1 hx with hx | hx
      · exact n3 x hx x hy rfl
      · have h1 := hB x (List.mem_append.2 (.inr hy))
        have h2 := hF x hx
        omega
  · rw [itF_app, itF_app, hsing] at hx
    rcases List.mem_append.1 hx with hx | hx
    · rcases List.mem_append.1 hx with hx | hx
      · exact h.base x (by rw [← e2]; exact List.mem_append.2 (.inl hx))
      · have := hF x hx; omega
    · exact h.base x (by rw [← e2]; exact List.mem_append.2 (.inr hx))
theorem lt_ltS (x y : ByteArray) : Op.bytesLess x.toList y.toList = ltS x y := by rfl
set_option linter.unusedSimpArgs false in
set_option maxRecDepth 100000 in
set_option maxHeartbeats 4000000 in
theorem l9With_any (L : List (It packC)) (v : Value) (p : packC.D) (cs : List Value) (w : World) (N : Nat) (hN : N ≤ w.heap.size) (hs : L.length ≤ 1048576) (hps : smallP p) (h : NRow packC 34 w N v L) (hp : packC.at_ w cs p) :
    Calls Tryz.prog 159 #[v, .agg cs.toArray] w fun x w' => ∃ (u : Value) (L' : List (It packC)), x = .returned u ∧ NRow packC 34 w' N u L' ∧ itD L' = withP p (itD L) ∧ (∀ k, (u.ownBlock = some k ∨ k ∈ itF L') → k ∈ itF L ∨ w.heap.size < k) ∧ Below w.heap.size w w' := by
  obtain ⟨v2, v3, rfl, p2, p3⟩ := packC_at hp
  obtain ⟨na, nc, rfl, -⟩ := rowAt.slice p2
  obtain ⟨ta, tc, rfl, -⟩ := rowAt.slice p3
  obtain ⟨a, cap, rfl⟩ := nrow_slice h
  have H := hid h
  have HP := hid hp
  clear h hp p2 p3
  go_enter Tryz.func159, Tryz.ntmps159
  go_wp2_with fail
  have hbx := World.alloc_heap_new w (.cells #[.string (PackD.name p), .string (PackD.version p), .slice na (PackD.needs p).length nc, .slice ta (PackD.tree p).length tc] 34)
  have hb : Below w.heap.size w (w.alloc (.cells #[.string (PackD.name p), .string (PackD.version p), .slice na (PackD.needs p).length nc, .slice ta (PackD.tree p).length tc] 34)) := (Below.refl _ w).alloc (Nat.le_refl _) _
  have hlt : w.heap.size < (w.alloc (.cells #[.string (PackD.name p), .string (PackD.version p), .slice na (PackD.needs p).length nc, .slice ta (PackD.tree p).length tc] 34)).heap.size := by simp
  generalize w.alloc (.cells #[.string (PackD.name p), .string (PackD.version p), .slice na (PackD.needs p).length nc, .slice ta (PackD.tree p).length tc] 34) = W0 at hbx hb hlt ⊢
  have HX0 := hid (And.intro hbx (And.intro hb hlt))
  clear hbx hb hlt
  have hnl : (namesP (itD L)).length = L.length := by rw [namesP_len, itD_len]
  have HNL := hid hnl
  clear hnl
  go_loopw [5] (fun i wr => ∃ k : Nat, k ≤ L.length ∧ i = .int .i64 (k : Int) ∧ Hid (∀ j x, j < k → (namesP (itD L))[j]? = some x → ltS x (PackD.name p) = true) ∧ Hid (wr.heap[w.heap.size]? = some (.cells #[.string (PackD.name p), .string (PackD.version p), .slice na (PackD.needs p).length nc, .slice ta (PackD.tree p).length tc] 34 (0, 0)) ∧ Below w.heap.size w wr ∧ w.heap.size < wr.heap.size)) (fun i _ => L.length - (intOf i).toNat)
  case atStart => exact ⟨0, Nat.zero_le _, rfl, hid (fun j x hj => absurd hj (Nat.not_lt_zero _)), HX0⟩
  case round =>
    clear HX0
    obtain ⟨k, hk, rfl, HK, HX⟩ := hrel
    obtain ⟨b0, b1⟩ := cell_fz (unhid HX).1 0 _ rfl
    by_cases hlt : k < L.length
    · obtain ⟨t, ht⟩ : ∃ t, L[k]? = some t := ⟨L[k], List.getElem?_eq_getElem hlt⟩
      obtain ⟨g, cap', na', nc', ta', tc', hv, hgl, hcs, c0, c1, c2, c3⟩ := item_cells (unhid H) ht (unhid HX).2.1
      obtain ⟨rfl, rfl⟩ : a = some ⟨g, 0, none⟩ ∧ cap = cap' := by injection hv with e1 _ e2; exact ⟨e1, e2⟩
      obtain ⟨cs', d, F⟩ := t
      dsimp only at hcs c0 c1 c2 c3
      have hnm : (namesP (itD L))[k]? = some (PackD.name d) := namesP_get (by unfold itD; rw [List.getElem?_map, ht]; rfl)
      have HNM := hid hnm
      have hq := lt_ltS (PackD.name d) (PackD.name p)
      clear hv ht hcs hnm c1 c2 c3
      cases hl : ltS (PackD.name d) (PackD.name p) with
      | true =>
        rw [hl] at hq
        have HL := hid hl
        clear hl
        have gx : ∀ x : CW (fun w' => Below wr.heap.size wr w'), x.w.cell? ⟨w.heap.size, 0, none⟩ = some (.string (PackD.name p)) := fun x => (x.h.cell (p := ⟨w.heap.size, 0, none⟩) (unhid HX).2.2).trans b0
        have gc : ∀ x : CW (fun w' => Below wr.heap.size wr w'), x.w.cell? ⟨g, k * 4, none⟩ = some (.string (PackD.name d)) := fun x => (x.h.cell (p := ⟨g, k * 4, none⟩) (Nat.lt_trans hgl (unhid HX).2.2)).trans c0
        have gd : decide ((k : Int) < (L.length : Int)) = true := by simp; omega
        have hba : ∀ {q : Prop}, (CW (fun w' => Below wr.heap.size wr w') → q) ↔ q := CW.all (Below.refl _ wr)
        go_wp2_with fail
        refine held_begin (fun w' => Below wr.heap.size wr w') (by kernel_rfl) (drew_belowS _) ?_
        refine held_here [true, true, true, true, true, true, true, true, true, true, true, true, true, true] (by kernel_rfl) (by kernel_rfl) (fun _ _ _ _ _ h => h) (drew_belowS _) ?_
        dsimp only [pick]
        repeat (go_big_quiet_step (fail))
        refine wpQuiet_nil ?_
        refine held_done (by kernel_rfl) ?_
        clear hba gx gc gd hgl c0
        have hbd := drew_belowS (B := wr.heap.size) wr
        have HX2 := hid (show wr.drew.heap[w.heap.size]? = some (.cells #[.string (PackD.name p), .string (PackD.version p), .slice na (PackD.needs p).length nc, .slice ta (PackD.tree p).length tc] 34 (0, 0)) ∧ Below w.heap.size w wr.drew ∧ w.heap.size < wr.drew.heap.size from ⟨(unhid HX).1, (unhid HX).2.1.trans (hbd.mono (unhid HX).2.1.size), (unhid HX).2.2⟩)
        clear HX hbd b0 b1
        generalize wr.drew = wd at *
        go_wp2_with fail
        go_roundw
        case rel =>
          refine ⟨k + 1, by omega, by go_num, hid (fun j x hj hx => ?_), HX2⟩
          by_cases ej : j = k
          · subst ej
            rw [unhid HNM] at hx
            cases hx
            exact unhid HL
          · exact unhid HK j x (by omega) hx
        case measure => simp [intOf]; omega
      | false =>
        rw [hl] at hq
        have HL := hid hl
        clear hl
        have gx : ∀ x : CW (fun w' => Below wr.heap.size wr w'), x.w.cell? ⟨w.heap.size, 0, none⟩ = some (.string (PackD.name p)) := fun x => (x.h.cell (p := ⟨w.heap.size, 0, none⟩) (unhid HX).2.2).trans b0
        have gc : ∀ x : CW (fun w' => Below wr.heap.size wr w'), x.w.cell? ⟨g, k * 4, none⟩ = some (.string (PackD.name d)) := fun x => (x.h.cell (p := ⟨g, k * 4, none⟩) (Nat.lt_trans hgl (unhid HX).2.2)).trans c0
        have gd : decide ((k : Int) < (L.length : Int)) = true := by simp; omega
        have hba : ∀ {q : Prop}, (CW (fun w' => Below wr.heap.size wr w') → q) ↔ q := CW.all (Below.refl _ wr)
        go_wp2_with fail
        refine held_begin (fun w' => Below wr.heap.size wr w') (by kernel_rfl) (drew_belowS _) ?_
        refine held_here [true, true, true, true, true, true, true, true, true, true, true, true, true, true] (by kernel_rfl) (by kernel_rfl) (fun _ _ _ _ _ h => h) (drew_belowS _) ?_
        dsimp only [pick]
        repeat (go_big_quiet_step (fail))
        refine wpQuiet_nil ?_
        refine held_done (by kernel_rfl) ?_
        clear hba gx gc gd hgl c0
        have hbd := drew_belowS (B := wr.heap.size) wr
        have HX2 := hid (show wr.drew.heap[w.heap.size]? = some (.cells #[.string (PackD.name p), .string (PackD.version p), .slice na (PackD.needs p).length nc, .slice ta (PackD.tree p).length tc] 34 (0, 0)) ∧ Below w.heap.size w wr.drew ∧ w.heap.size < wr.drew.heap.size from ⟨(unhid HX).1, (unhid HX).2.1.trans (hbd.mono (unhid HX).2.1.size), (unhid HX).2.2⟩)
        clear HX hbd b0 b1
        generalize wr.drew = wd at *
        go_wp2_with fail
        have hpl : placeP (namesP (itD L)) (PackD.name p) = k := placeP_of _ _ k (by have := unhid HNL; omega) (fun j x hj hx => unhid HK j x hj hx) (fun x hx => by rw [unhid HNM] at hx; cases hx; exact unhid HL)
        have HPL := hid hpl
        clear hpl
        obtain ⟨hbx, hbw, hlw⟩ := unhid HX2
        have hL := (unhid H).items
        have hLt := hL.lt
        have hcl : ∀ t u, (itCells L)[t]? = some u → w.cell? ⟨g, t, none⟩ = some u := fun t u ht => by
          have := (unhid H).row.cells (g := g) rfl t u ht
          rwa [add_plainR, Nat.zero_add] at this
        have hgw : g < w.heap.size := ((unhid H).base g (.inl rfl)).2
        have hcap : L.length ≤ cap ∧ cap ≤ 9223372036854775807 := by
          rcases (unhid H).row.2 with ⟨hv, _⟩ | ⟨_, _, _, hv, _, _, h1, h2, _⟩
          · cases hv
          · injection hv with _ _ e3
            subst e3
            simp only [maxLen] at h2
            exact ⟨h1, by omega⟩
        obtain ⟨sp1, sp2, sp3⟩ := itCells_split hL k hk
        obtain ⟨of, hA, hsrc⟩ : ∃ of : Nat, (if cap = k then some (⟨g, 0, none⟩ : Addr) else some ⟨g, k * 4, none⟩) = some ⟨g, of, none⟩ ∧ Hid (∀ t u, (itCells (L.drop k))[t]? = some u → w.cell? ⟨g, of + t, none⟩ = some u) := by
          by_cases h : cap = k
          · refine ⟨0, by simp [h], fun t u hu => ?_⟩
            have h0 : (itCells (L.drop k)).length = 0 := by rw [sp2]; omega
            rw [List.length_eq_zero_iff.1 h0] at hu
            simp at hu
          · refine ⟨k * 4, by simp [h], fun t u hu => hcl _ _ ?_⟩
            rw [sp3, List.getElem?_append_right (by omega), sp1, show k * 4 + t - k * 4 = t by omega]
            exact hu
        have hof : ¬ cap = k → k * 4 = of := fun h => by
          rw [if_neg h] at hA
          injection hA with e
          injection e
        have hsrc1 : Hid (∀ t u, (itCells (L.take k))[t]? = some u → w.cell? ⟨g, 0 + t, none⟩ = some u) := fun t u hu => by
          rw [Nat.zero_add]
          refine hcl _ _ ?_
          have : t < (itCells (L.take k)).length := (List.getElem?_eq_some_iff.1 hu).1
          rw [sp3, List.getElem?_append_left this]
          exact hu
        have hkc : k ≤ cap := by omega
        clear hcl sp1 sp2 sp3 HX2
        have gb0 : ∀ x : CW (fun w' => Below wd.heap.size wd w'), x.w.cell? ⟨w.heap.size, 0, none⟩ = some (.string (PackD.name p)) := fun x => cell_arrS ((x.h.block _ hlw).trans hbx) 0 _ rfl
        have gb1 : ∀ x : CW (fun w' => Below wd.heap.size wd w'), x.w.cell? ⟨w.heap.size, 1, none⟩ = some (.string (PackD.version p)) := fun x => cell_arrS ((x.h.block _ hlw).trans hbx) 1 _ rfl
        have gb2 : ∀ x : CW (fun w' => Below wd.heap.size wd w'), x.w.cell? ⟨w.heap.size, 2, none⟩ = some (.slice na (PackD.needs p).length nc) := fun x => cell_arrS ((x.h.block _ hlw).trans hbx) 2 _ rfl
        have gb3 : ∀ x : CW (fun w' => Below wd.heap.size wd w'), x.w.cell? ⟨w.heap.size, 3, none⟩ = some (.slice ta (PackD.tree p).length tc) := fun x => cell_arrS ((x.h.block _ hlw).trans hbx) 3 _ rfl
        have hba : ∀ {q : Prop}, (CW (fun w' => Below wd.heap.size wd w') → q) ↔ q := CW.all (Below.refl _ wd)
        have hsz : (PackD.needs p).length ≤ 4194304 ∧ (PackD.tree p).length ≤ 4194304 := ⟨by have := hps.needs.1; omega, by have := hps.tree.1; rw [entsD_len] at this; omega⟩
        refine held_begin (fun w' => Below wd.heap.size wd w') (by kernel_rfl) (drew_belowS _) ?_
        refine held_here [false, true, true, true, false, true, false, false, false, true, true, true] (by kernel_rfl) (by kernel_rfl) (fun _ _ _ _ _ h => h) (drew_belowS _) ?_
        dsimp only [pick]
        repeat (go_big_quiet_step (fail))
        refine wpQuiet_nil ?_
        clear hba gb0 gb1 gb2 gb3
        have hb0 := drew_belowS (B := wd.heap.size) wd
        have hNw : N ≤ wd.drew.heap.size := Nat.le_trans hN (hbw.trans (hb0.mono hbw.size)).size
        have hbw0 := hbw.trans (hb0.mono hbw.size)
        have hlw0 : w.heap.size < wd.drew.heap.size := hlw
        generalize wd.drew = w0 at *
        refine held_op 0 (by kernel_rfl) (by kernel_rfl) rfl (fun K hK => ?_)
        go_simp
        have hE := NRow.empty (K := packC) (e := 34) w0 N hNw
        have hb1 : Below w0.heap.size w0 (w0.alloc (.cells #[] 34)) := (Below.refl _ w0).alloc (Nat.le_refl _) _
        refine hK.out _ _ (hb0.trans (hb1.mono hb0.size)) ?_
        clear hK K
        have hc1 := hb0.trans (hb1.mono hb0.size)
        have hbw1 := hbw0.trans (hb1.mono hbw0.size)
        generalize w0.alloc (.cells #[] 34) = w1 at *
        generalize hgs : w0.heap.size = gs at *
        have hI1 : Items packC w1 N ([] ++ L.take k) := (hL.sub (List.take_sublist k L)).frame (fun x hx => hbw1.block x (hLt x ((itF_sub (List.take_sublist k L)).subset hx)))
        have htl : (L.take k).length = k := by rw [List.length_take]; omega
        have hs1 : gs ≤ w1.heap.size := by have := hb1.size; omega
        refine held_op 4 (by kernel_rfl) (by kernel_rfl) rfl (fun K hK => ?_)
        refine op_items etPack onePack w1 26 _ _ rfl rfl rfl N (.slice (some ⟨gs, 0, none⟩) 0 0) [] (L.take k) g 0 cap hE hI1 (fun g' hg' hm => by
          have h1 : gs = g' := by simpa [Value.ownBlock] using hg'
          have h2 := hLt g' ((itF_sub (List.take_sublist k L)).subset hm)
          omega) (fun j u hj => (hbw1.cell (p := ⟨g, 0 + j, none⟩) hgw).trans (hsrc1.out j u hj)) (by rw [htl]; simp only [List.length_nil]; omega) (by omega) rfl (by simp [Act.eval, htl]) ?_
        intro v4 w4 hg4
        rw [List.nil_append] at hg4
        have hwg : wd.heap.size ≤ gs := by have := hb0.size; omega
        have hc4 : Below wd.heap.size wd w4 := hc1.grown hg4.by_ hc1.size (fun k' hk' => by
          have : gs = k' := by simpa [Value.ownBlock] using hk'
          omega)
        have hbw4 : Below w.heap.size w w4 := hbw.trans (hc4.mono hbw.size)
        have hw4 : gs < w4.heap.size := by
          have h1 := hg4.by_.size
          have h2 : gs < w1.heap.size := by
            rcases hE.row.2 with ⟨hv, _⟩ | ⟨g', _, cu, hv, _, hh, _⟩
            · cases hv
            · have : gs = g' := by injection hv with e1; injection e1 with e1; injection e1
              subst this
              exact (Array.getElem?_eq_some_iff.1 hh).1
          omega
        have ho4 : ∀ g', v4.ownBlock = some g' → gs ≤ g' := fun g' hg' => by
          rcases hg4.block with e | e
          · rw [e] at hg'
            have : gs = g' := by simpa [Value.ownBlock] using hg'
            omega
          · rw [e] at hg'
            simp only [Option.some.injEq] at hg'
            omega
        refine hK.out _ _ hc4 ?_
        clear hK K
        simp only [Act.put, List.setIfInBounds_toArray, List.set_cons_zero, List.set_cons_succ]
        refine held_call 6 147 28 (enters_of Tryz.func147 (by kernel_rfl) rfl) #[.agg #[.string (PackD.name p), .string (PackD.version p), .slice na (PackD.needs p).length nc, .slice ta (PackD.tree p).length tc]] (by kernel_rfl) (by kernel_rfl) rfl rfl rfl rfl rfl ?_
        refine (l9Pack_any p _ w4 hsz (packC.below (unhid HP) hbw4)).mono ?_
        rintro x w5 ⟨csn, Fn, rfl, hown, hF, hb5⟩
        obtain ⟨v2, v3, F2, F3, rfl, -, -, -, -⟩ := packC_own hown
        have hc5 := hc4.trans (hb5.mono hc4.size)
        refine ⟨_, rfl, hc5, ?_⟩
        simp only [Act.put, List.setIfInBounds_toArray, List.set_cons_zero, List.set_cons_succ]
        refine held_op 7 (by kernel_rfl) (by kernel_rfl) rfl (fun K hK => ?_)
        go_simp
        have hnew := World.alloc_heap_new w5 (.cells #[.string (PackD.name p), .string (PackD.version p), v2, v3] 34)
        have hb6 := (Below.refl w5.heap.size w5).alloc (Nat.le_refl _) (.cells #[.string (PackD.name p), .string (PackD.version p), v2, v3] 34)
        obtain ⟨q1, q2, q3⟩ := items_new hg4.row (by omega) hb5 hown (fun k hk => (hF k hk).1) hb6
        have hc6 := hc5.trans (hb6.mono hc5.size)
        have hcl6 : ∀ j u, (itCells [(([.string (PackD.name p), .string (PackD.version p), v2, v3], p, Fn) : It packC)])[j]? = some u → (w5.alloc (.cells #[.string (PackD.name p), .string (PackD.version p), v2, v3] 34)).cell? ⟨w5.heap.size, 0 + j, none⟩ = some u := fun j u hj => by
          rw [Nat.zero_add]
          refine cell_arrS hnew j u ?_
          have hj' : [.string (PackD.name p), .string (PackD.version p), v2, v3][j]? = some u := by simpa [itCells] using hj
          simpa using hj'
        have hs56 : w4.heap.size ≤ (w5.alloc (.cells #[.string (PackD.name p), .string (PackD.version p), v2, v3] 34)).heap.size := Nat.le_trans hb5.size hb6.size
        refine hK.out _ _ hc6 ?_
        clear hK K hnew hb6
        generalize w5.alloc (.cells #[.string (PackD.name p), .string (PackD.version p), v2, v3] 34) = w6 at *
        generalize w5.heap.size = g5 at *
        refine held_op 8 (by kernel_rfl) (by kernel_rfl) rfl (fun K hK => ?_)
        refine op_items etPack onePack w6 30 _ _ rfl rfl rfl N v4 (L.take k) [(([.string (PackD.name p), .string (PackD.version p), v2, v3], p, Fn) : It packC)] g5 0 1 q1 q2 q3 hcl6 (by rw [htl]; simp only [List.length_singleton]; omega) (by omega) rfl rfl ?_
        intro v7 w7 hg7
        have hc7 : Below wd.heap.size wd w7 := hc6.grown hg7.by_ hc6.size (fun k' hk' => by have := ho4 k' hk'; omega)
        have hbw7 : Below w.heap.size w w7 := hbw.trans (hc7.mono hbw.size)
        have hw7 : w6.heap.size ≤ w7.heap.size := hg7.by_.size
        have ho7 : ∀ g', v7.ownBlock = some g' → gs ≤ g' := fun g' hg' => by
          rcases hg7.block with e | e
          · exact ho4 g' (by rw [← e]; exact hg')
          · rw [e] at hg'
            simp only [Option.some.injEq] at hg'
            omega
        refine hK.out _ _ hc7 ?_
        clear hK K
        simp only [Act.put, List.setIfInBounds_toArray, List.set_cons_zero, List.set_cons_succ]
        have hI7 : Items packC w7 N L := hL.frame (fun x hx => hbw7.block x (hLt x hx))
        have hown7 : packC.own w7 [.string (PackD.name p), .string (PackD.version p), v2, v3] p Fn := hg7.row.items.each _ (List.mem_append.2 (.inr (List.mem_singleton.2 rfl)))
        have hM7 := items_mid (k := k) hI7 hLt hown7 (fun x hx => by have := (hF x hx).1; omega) hN
        have hdl : (L.drop k).length = L.length - k := List.length_drop
        have hl7 : (L.take k ++ [(([.string (PackD.name p), .string (PackD.version p), v2, v3], p, Fn) : It packC)]).length = k + 1 := by rw [List.length_append, htl]; rfl
        refine held_op 12 (by kernel_rfl) (by kernel_rfl) rfl (fun K hK => ?_)
        refine op_items etPack onePack w7 34 _ _ rfl rfl rfl N v7 (L.take k ++ [(([.string (PackD.name p), .string (PackD.version p), v2, v3], p, Fn) : It packC)]) (L.drop k) g of (cap - k) hg7.row hM7 (fun g' hg' hm => by
          have h1 := ho7 g' hg'
          have h2 := hLt g' ((itF_sub (List.drop_sublist k L)).subset hm)
          omega) (fun j u hj => (hbw7.cell (p := ⟨g, of + j, none⟩) hgw).trans (hsrc.out j u hj)) (by rw [hl7, hdl]; omega) (by omega) rfl (by simp [Act.eval, hdl, hA]) ?_
        intro v8 w8 hg8
        have hc8 : Below wd.heap.size wd w8 := hc7.grown hg8.by_ hc7.size (fun k' hk' => by have := ho7 k' hk'; omega)
        have hbw8 : Below w.heap.size w w8 := hbw.trans (hc8.mono hbw.size)
        refine hK.out _ _ hc8 ?_
        clear hK K
        simp only [Act.put, List.setIfInBounds_toArray, List.set_cons_zero, List.set_cons_succ]
        have HFIN := hid (show NRow packC 34 w8 N v8 (L.take k ++ [(([.string (PackD.name p), .string (PackD.version p), v2, v3], p, Fn) : It packC)] ++ L.drop k) ∧ itD (L.take k ++ [(([.string (PackD.name p), .string (PackD.version p), v2, v3], p, Fn) : It packC)] ++ L.drop k) = withP p (itD L) ∧ (∀ x, (v8.ownBlock = some x ∨ x ∈ itF (L.take k ++ [(([.string (PackD.name p), .string (PackD.version p), v2, v3], p, Fn) : It packC)] ++ L.drop k)) → x ∈ itF L ∨ w.heap.size < x) ∧ Below w.heap.size w w8 from by
          refine ⟨hg8.row, ?_, fun x hx => ?_, hbw8⟩
          · rw [itD_app, itD_app, itD_take, itD_drop]
            unfold withP
            rw [unhid HPL]
            simp [itD]
          · rcases hx with hx | hx
            · right
              rcases hg8.block with e | e
              · have := ho7 x (by rw [← e]; exact hx)
                omega
              · rw [e] at hx
                simp only [Option.some.injEq] at hx
                omega
            · rw [itF_app, itF_app] at hx
              rcases List.mem_append.1 hx with hx | hx
              · rcases List.mem_append.1 hx with hx | hx
                · exact .inl ((itF_sub (List.take_sublist k L)).subset hx)
                · right
                  have := (hF x (by simpa [itF] using hx)).1
                  omega
              · exact .inl ((itF_sub (List.drop_sublist k L)).subset hx))
        generalize L.take k ++ [(([.string (PackD.name p), .string (PackD.version p), v2, v3], p, Fn) : It packC)] ++ L.drop k = L9 at *
        have hba : ∀ {q : Prop}, (CW (fun w' => Below wd.heap.size wd w') → q) ↔ q := CW.all hc8
        refine held_here [false, false, false, false, false, false, false, false, false, false, false, false, false, true] (by kernel_rfl) (by kernel_rfl) (fun _ _ _ _ _ h => h) hc8 ?_
        dsimp only [pick]
        repeat (go_big_quiet_step (fail))
        refine wpQuiet_nil ?_
        refine held_done (by kernel_rfl) ?_
        clear hba
        go_wp2_with fail
        go_ret
        obtain ⟨f1, f2, f3, f4⟩ := unhid HFIN
        exact ⟨_, L9, rfl, f1, f2, f3, f4⟩
    · have HEk := hid (show k = L.length by omega)
      have gd : decide ((k : Int) < (L.length : Int)) = false := by simp; omega
      have gx : ∀ x : CW (fun w' => Below wr.heap.size wr w'), x.w.cell? ⟨w.heap.size, 0, none⟩ = some (.string (PackD.name p)) := fun x => (x.h.cell (p := ⟨w.heap.size, 0, none⟩) (unhid HX).2.2).trans b0
      have hba : ∀ {q : Prop}, (CW (fun w' => Below wr.heap.size wr w') → q) ↔ q := CW.all (Below.refl _ wr)
      go_wp2_with fail
      refine held_begin (fun w' => Below wr.heap.size wr w') (by kernel_rfl) (drew_belowS _) ?_
      refine held_here [true, true, true, true, true, true, true, true, true, true, true, true, true, true] (by kernel_rfl) (by kernel_rfl) (fun _ _ _ _ _ h => h) (drew_belowS _) ?_
      dsimp only [pick]
      repeat (go_big_quiet_step (fail))
      refine wpQuiet_nil ?_
      refine held_done (by kernel_rfl) ?_
      clear hba gx gd
      have hbd := drew_belowS (B := wr.heap.size) wr
      have HX2 := hid (show wr.drew.heap[w.heap.size]? = some (.cells #[.string (PackD.name p), .string (PackD.version p), .slice na (PackD.needs p).length nc, .slice ta (PackD.tree p).length tc] 34 (0, 0)) ∧ Below w.heap.size w wr.drew ∧ w.heap.size < wr.drew.heap.size from ⟨(unhid HX).1, (unhid HX).2.1.trans (hbd.mono (unhid HX).2.1.size), (unhid HX).2.2⟩)
      clear HX hbd b0 b1
      generalize wr.drew = wd at *
      go_wp2_with fail
      rcases (unhid H).row.2 with ⟨hv0, hL0l⟩ | ⟨g, cap0, cur0, hv0, _⟩
      · injection hv0 with e1 _ e3
        subst e1
        subst e3
        have hL0 : L = [] := List.length_eq_zero_iff.1 hL0l
        subst hL0
        obtain rfl : k = 0 := unhid HEk
        obtain ⟨hbx, hbw, hlw⟩ := unhid HX2
        have gb0 : ∀ x : CW (fun w' => Below wd.heap.size wd w'), x.w.cell? ⟨w.heap.size, 0, none⟩ = some (.string (PackD.name p)) := fun x => cell_arrS ((x.h.block _ hlw).trans hbx) 0 _ rfl
        have gb1 : ∀ x : CW (fun w' => Below wd.heap.size wd w'), x.w.cell? ⟨w.heap.size, 1, none⟩ = some (.string (PackD.version p)) := fun x => cell_arrS ((x.h.block _ hlw).trans hbx) 1 _ rfl
        have gb2 : ∀ x : CW (fun w' => Below wd.heap.size wd w'), x.w.cell? ⟨w.heap.size, 2, none⟩ = some (.slice na (PackD.needs p).length nc) := fun x => cell_arrS ((x.h.block _ hlw).trans hbx) 2 _ rfl
        have gb3 : ∀ x : CW (fun w' => Below wd.heap.size wd w'), x.w.cell? ⟨w.heap.size, 3, none⟩ = some (.slice ta (PackD.tree p).length tc) := fun x => cell_arrS ((x.h.block _ hlw).trans hbx) 3 _ rfl
        have hba : ∀ {q : Prop}, (CW (fun w' => Below wd.heap.size wd w') → q) ↔ q := CW.all (Below.refl _ wd)
        clear HX2
        have hsz : (PackD.needs p).length ≤ 4194304 ∧ (PackD.tree p).length ≤ 4194304 := ⟨by have := hps.needs.1; omega, by have := hps.tree.1; rw [entsD_len] at this; omega⟩
        refine held_begin (fun w' => Below wd.heap.size wd w') (by kernel_rfl) (drew_belowS _) ?_
        refine held_here [false, true, true, true, false, true, false, false, false, true, true, true] (by kernel_rfl) (by kernel_rfl) (fun _ _ _ _ _ h => h) (drew_belowS _) ?_
        dsimp only [pick]
        repeat (go_big_quiet_step (fail))
        refine wpQuiet_nil ?_
        clear hba gb0 gb1 gb2 gb3
        have hb0 := drew_belowS (B := wd.heap.size) wd
        have hNw : N ≤ wd.drew.heap.size := Nat.le_trans hN (hbw.trans (hb0.mono hbw.size)).size
        have hbw0 := hbw.trans (hb0.mono hbw.size)
        have hlw0 : w.heap.size < wd.drew.heap.size := hlw
        generalize wd.drew = w0 at *
        refine held_op 0 (by kernel_rfl) (by kernel_rfl) rfl (fun K hK => ?_)
        go_simp
        have hE := NRow.empty (K := packC) (e := 34) w0 N hNw
        have hb1 : Below w0.heap.size w0 (w0.alloc (.cells #[] 34)) := (Below.refl _ w0).alloc (Nat.le_refl _) _
        refine hK.out _ _ (hb0.trans (hb1.mono hb0.size)) ?_
        clear hK K
        have hc1 := hb0.trans (hb1.mono hb0.size)
        have hbw1 := hbw0.trans (hb1.mono hbw0.size)
        generalize w0.alloc (.cells #[] 34) = w1 at *
        generalize hgs : w0.heap.size = gs at *
        have hs1 : gs ≤ w1.heap.size := by have := hb1.size; omega
        refine held_op 4 (by kernel_rfl) (by kernel_rfl) rfl (fun K hK => ?_)
        refine op_none etPack w1 26 _ _ rfl rfl rfl N (.slice (some ⟨gs, 0, none⟩) 0 0) [] hE rfl (by simp [Act.eval]) ?_
        have hwg : wd.heap.size ≤ gs := by have := hb0.size; omega
        have hw4 : gs < w1.heap.size := by
          rcases hE.row.2 with ⟨hv, _⟩ | ⟨g', _, cu, hv, _, hh, _⟩
          · cases hv
          · have : gs = g' := by injection hv with e1; injection e1 with e1; injection e1
            subst this
            exact (Array.getElem?_eq_some_iff.1 hh).1
        refine hK.out _ _ hc1 ?_
        clear hK K
        simp only [Act.put, List.setIfInBounds_toArray, List.set_cons_zero, List.set_cons_succ]
        refine held_call 6 147 28 (enters_of Tryz.func147 (by kernel_rfl) rfl) #[.agg #[.string (PackD.name p), .string (PackD.version p), .slice na (PackD.needs p).length nc, .slice ta (PackD.tree p).length tc]] (by kernel_rfl) (by kernel_rfl) rfl rfl rfl rfl rfl ?_
        refine (l9Pack_any p _ w1 hsz (packC.below (unhid HP) hbw1)).mono ?_
        rintro x w5 ⟨csn, Fn, rfl, hown, hF, hb5⟩
        obtain ⟨v2, v3, F2, F3, rfl, -, -, -, -⟩ := packC_own hown
        have hc5 := hc1.trans (hb5.mono hc1.size)
        refine ⟨_, rfl, hc5, ?_⟩
        simp only [Act.put, List.setIfInBounds_toArray, List.set_cons_zero, List.set_cons_succ]
        refine held_op 7 (by kernel_rfl) (by kernel_rfl) rfl (fun K hK => ?_)
        go_simp
        have hnew := World.alloc_heap_new w5 (.cells #[.string (PackD.name p), .string (PackD.version p), v2, v3] 34)
        have hb6 := (Below.refl w5.heap.size w5).alloc (Nat.le_refl _) (.cells #[.string (PackD.name p), .string (PackD.version p), v2, v3] 34)
        obtain ⟨q1, q2, q3⟩ := items_new hE (by omega) hb5 hown (fun k hk => (hF k hk).1) hb6
        have hc6 := hc5.trans (hb6.mono hc5.size)
        have hcl6 : ∀ j u, (itCells [(([.string (PackD.name p), .string (PackD.version p), v2, v3], p, Fn) : It packC)])[j]? = some u → (w5.alloc (.cells #[.string (PackD.name p), .string (PackD.version p), v2, v3] 34)).cell? ⟨w5.heap.size, 0 + j, none⟩ = some u := fun j u hj => by
          rw [Nat.zero_add]
          refine cell_arrS hnew j u ?_
          have hj' : [.string (PackD.name p), .string (PackD.version p), v2, v3][j]? = some u := by simpa [itCells] using hj
          simpa using hj'
        have hs56 : w1.heap.size ≤ (w5.alloc (.cells #[.string (PackD.name p), .string (PackD.version p), v2, v3] 34)).heap.size := Nat.le_trans hb5.size hb6.size
        refine hK.out _ _ hc6 ?_
        clear hK K hnew hb6
        generalize w5.alloc (.cells #[.string (PackD.name p), .string (PackD.version p), v2, v3] 34) = w6 at *
        generalize w5.heap.size = g5 at *
        refine held_op 8 (by kernel_rfl) (by kernel_rfl) rfl (fun K hK => ?_)
        refine op_items etPack onePack w6 30 _ _ rfl rfl rfl N (.slice (some ⟨gs, 0, none⟩) 0 0) [] [(([.string (PackD.name p), .string (PackD.version p), v2, v3], p, Fn) : It packC)] g5 0 1 q1 q2 q3 hcl6 (by simp) (by omega) rfl rfl ?_
        intro v7 w7 hg7
        rw [List.nil_append] at hg7
        have ho4 : ∀ g', (Value.slice (some ⟨gs, 0, none⟩) 0 0).ownBlock = some g' → gs ≤ g' := fun g' hg' => by
          have : gs = g' := by simpa [Value.ownBlock] using hg'
          omega
        have hc7 : Below wd.heap.size wd w7 := hc6.grown hg7.by_ hc6.size (fun k' hk' => by have := ho4 k' hk'; omega)
        have hbw7 : Below w.heap.size w w7 := hbw.trans (hc7.mono hbw.size)
        have hw7 : w6.heap.size ≤ w7.heap.size := hg7.by_.size
        have ho7 : ∀ g', v7.ownBlock = some g' → gs ≤ g' := fun g' hg' => by
          rcases hg7.block with e | e
          · exact ho4 g' (by rw [← e]; exact hg')
          · rw [e] at hg'
            simp only [Option.some.injEq] at hg'
            omega
        refine hK.out _ _ hc7 ?_
        clear hK K
        simp only [Act.put, List.setIfInBounds_toArray, List.set_cons_zero, List.set_cons_succ]
        refine held_op 12 (by kernel_rfl) (by kernel_rfl) rfl (fun K hK => ?_)
        refine op_none etPack w7 34 _ _ rfl rfl rfl N v7 [(([.string (PackD.name p), .string (PackD.version p), v2, v3], p, Fn) : It packC)] hg7.row rfl (by simp [Act.eval]) ?_
        refine hK.out _ _ hc7 ?_
        clear hK K
        simp only [Act.put, List.setIfInBounds_toArray, List.set_cons_zero, List.set_cons_succ]
        have HFIN := hid (show NRow packC 34 w7 N v7 [(([.string (PackD.name p), .string (PackD.version p), v2, v3], p, Fn) : It packC)] ∧ itD [(([.string (PackD.name p), .string (PackD.version p), v2, v3], p, Fn) : It packC)] = withP p (itD ([] : List (It packC))) ∧ (∀ x, (v7.ownBlock = some x ∨ x ∈ itF [(([.string (PackD.name p), .string (PackD.version p), v2, v3], p, Fn) : It packC)]) → x ∈ itF ([] : List (It packC)) ∨ w.heap.size < x) ∧ Below w.heap.size w w7 from by
          refine ⟨hg7.row, ?_, fun x hx => ?_, hbw7⟩
          · simp [itD, withP, namesP, placeP]
          · rcases hx with hx | hx
            · right
              have := ho7 x hx
              omega
            · right
              have := (hF x (by simpa [itF] using hx)).1
              omega)
        generalize [(([.string (PackD.name p), .string (PackD.version p), v2, v3], p, Fn) : It packC)] = L9 at *
        have hba : ∀ {q : Prop}, (CW (fun w' => Below wd.heap.size wd w') → q) ↔ q := CW.all hc7
        refine held_here [false, false, false, false, false, false, false, false, false, false, false, false, false, true] (by kernel_rfl) (by kernel_rfl) (fun _ _ _ _ _ h => h) hc7 ?_
        dsimp only [pick]
        repeat (go_big_quiet_step (fail))
        refine wpQuiet_nil ?_
        refine held_done (by kernel_rfl) ?_
        clear hba
        go_wp2_with fail
        go_ret
        obtain ⟨f1, f2, f3, f4⟩ := unhid HFIN
        exact ⟨_, L9, rfl, f1, f2, f3, f4⟩
      · obtain rfl : a = some ⟨g, 0, none⟩ := by injection hv0
        clear hv0
        have hpl : placeP (namesP (itD L)) (PackD.name p) = k := placeP_of _ _ k (by have := unhid HNL; omega) (fun j x hj hx => unhid HK j x hj hx) (fun x hx => by rw [List.getElem?_eq_none (by have := unhid HNL; have := unhid HEk; omega)] at hx; cases hx)
        have HPL := hid hpl
        clear hpl
        obtain ⟨hbx, hbw, hlw⟩ := unhid HX2
        have hL := (unhid H).items
        have hLt := hL.lt
        have hcl : ∀ t u, (itCells L)[t]? = some u → w.cell? ⟨g, t, none⟩ = some u := fun t u ht => by
          have := (unhid H).row.cells (g := g) rfl t u ht
          rwa [add_plainR, Nat.zero_add] at this
        have hgw : g < w.heap.size := ((unhid H).base g (.inl rfl)).2
        have hcap : L.length ≤ cap ∧ cap ≤ 9223372036854775807 := by
          rcases (unhid H).row.2 with ⟨hv, _⟩ | ⟨_, _, _, hv, _, _, h1, h2, _⟩
          · cases hv
          · injection hv with _ _ e3
            subst e3
            simp only [maxLen] at h2
            exact ⟨h1, by omega⟩
        obtain ⟨sp1, sp2, sp3⟩ := itCells_split hL k hk
        obtain ⟨of, hA, hsrc⟩ : ∃ of : Nat, (if cap = k then some (⟨g, 0, none⟩ : Addr) else some ⟨g, k * 4, none⟩) = some ⟨g, of, none⟩ ∧ Hid (∀ t u, (itCells (L.drop k))[t]? = some u → w.cell? ⟨g, of + t, none⟩ = some u) := by
          by_cases h : cap = k
          · refine ⟨0, by simp [h], fun t u hu => ?_⟩
            have h0 : (itCells (L.drop k)).length = 0 := by rw [sp2]; omega
            rw [List.length_eq_zero_iff.1 h0] at hu
            simp at hu
          · refine ⟨k * 4, by simp [h], fun t u hu => hcl _ _ ?_⟩
            rw [sp3, List.getElem?_append_right (by omega), sp1, show k * 4 + t - k * 4 = t by omega]
            exact hu
        have hof : ¬ cap = k → k * 4 = of := fun h => by
          rw [if_neg h] at hA
          injection hA with e
          injection e
        have hsrc1 : Hid (∀ t u, (itCells (L.take k))[t]? = some u → w.cell? ⟨g, 0 + t, none⟩ = some u) := fun t u hu => by
          rw [Nat.zero_add]
          refine hcl _ _ ?_
          have : t < (itCells (L.take k)).length := (List.getElem?_eq_some_iff.1 hu).1
          rw [sp3, List.getElem?_append_left this]
          exact hu
        have hkc : k ≤ cap := by omega
        clear hcl sp1 sp2 sp3 HX2
        have gb0 : ∀ x : CW (fun w' => Below wd.heap.size wd w'), x.w.cell? ⟨w.heap.size, 0, none⟩ = some (.string (PackD.name p)) := fun x => cell_arrS ((x.h.block _ hlw).trans hbx) 0 _ rfl
        have gb1 : ∀ x : CW (fun w' => Below wd.heap.size wd w'), x.w.cell? ⟨w.heap.size, 1, none⟩ = some (.string (PackD.version p)) := fun x => cell_arrS ((x.h.block _ hlw).trans hbx) 1 _ rfl
        have gb2 : ∀ x : CW (fun w' => Below wd.heap.size wd w'), x.w.cell? ⟨w.heap.size, 2, none⟩ = some (.slice na (PackD.needs p).length nc) := fun x => cell_arrS ((x.h.block _ hlw).trans hbx) 2 _ rfl
        have gb3 : ∀ x : CW (fun w' => Below wd.heap.size wd w'), x.w.cell? ⟨w.heap.size, 3, none⟩ = some (.slice ta (PackD.tree p).length tc) := fun x => cell_arrS ((x.h.block _ hlw).trans hbx) 3 _ rfl
        have hba : ∀ {q : Prop}, (CW (fun w' => Below wd.heap.size wd w') → q) ↔ q := CW.all (Below.refl _ wd)
        have hsz : (PackD.needs p).length ≤ 4194304 ∧ (PackD.tree p).length ≤ 4194304 := ⟨by have := hps.needs.1; omega, by have := hps.tree.1; rw [entsD_len] at this; omega⟩
        refine held_begin (fun w' => Below wd.heap.size wd w') (by kernel_rfl) (drew_belowS _) ?_
        refine held_here [false, true, true, true, false, true, false, false, false, true, true, true] (by kernel_rfl) (by kernel_rfl) (fun _ _ _ _ _ h => h) (drew_belowS _) ?_
        dsimp only [pick]
        repeat (go_big_quiet_step (fail))
        refine wpQuiet_nil ?_
        clear hba gb0 gb1 gb2 gb3
        have hb0 := drew_belowS (B := wd.heap.size) wd
        have hNw : N ≤ wd.drew.heap.size := Nat.le_trans hN (hbw.trans (hb0.mono hbw.size)).size
        have hbw0 := hbw.trans (hb0.mono hbw.size)
        have hlw0 : w.heap.size < wd.drew.heap.size := hlw
        generalize wd.drew = w0 at *
        refine held_op 0 (by kernel_rfl) (by kernel_rfl) rfl (fun K hK => ?_)
        go_simp
        have hE := NRow.empty (K := packC) (e := 34) w0 N hNw
        have hb1 : Below w0.heap.size w0 (w0.alloc (.cells #[] 34)) := (Below.refl _ w0).alloc (Nat.le_refl _) _
        refine hK.out _ _ (hb0.trans (hb1.mono hb0.size)) ?_
        clear hK K
        have hc1 := hb0.trans (hb1.mono hb0.size)
        have hbw1 := hbw0.trans (hb1.mono hbw0.size)
        generalize w0.alloc (.cells #[] 34) = w1 at *
        generalize hgs : w0.heap.size = gs at *
        have hI1 : Items packC w1 N ([] ++ L.take k) := (hL.sub (List.take_sublist k L)).frame (fun x hx => hbw1.block x (hLt x ((itF_sub (List.take_sublist k L)).subset hx)))
        have htl : (L.take k).length = k := by rw [List.length_take]; omega
        have hs1 : gs ≤ w1.heap.size := by have := hb1.size; omega
        refine held_op 4 (by kernel_rfl) (by kernel_rfl) rfl (fun K hK => ?_)
        refine op_items etPack onePack w1 26 _ _ rfl rfl rfl N (.slice (some ⟨gs, 0, none⟩) 0 0) [] (L.take k) g 0 cap hE hI1 (fun g' hg' hm => by
          have h1 : gs = g' := by simpa [Value.ownBlock] using hg'
          have h2 := hLt g' ((itF_sub (List.take_sublist k L)).subset hm)
          omega) (fun j u hj => (hbw1.cell (p := ⟨g, 0 + j, none⟩) hgw).trans (hsrc1.out j u hj)) (by rw [htl]; simp only [List.length_nil]; omega) (by omega) rfl (by simp [Act.eval, htl]) ?_
        intro v4 w4 hg4
        rw [List.nil_append] at hg4
        have hwg : wd.heap.size ≤ gs := by have := hb0.size; omega
        have hc4 : Below wd.heap.size wd w4 := hc1.grown hg4.by_ hc1.size (fun k' hk' => by
          have : gs = k' := by simpa [Value.ownBlock] using hk'
          omega)
        have hbw4 : Below w.heap.size w w4 := hbw.trans (hc4.mono hbw.size)
        have hw4 : gs < w4.heap.size := by
          have h1 := hg4.by_.size
          have h2 : gs < w1.heap.size := by
            rcases hE.row.2 with ⟨hv, _⟩ | ⟨g', _, cu, hv, _, hh, _⟩
            · cases hv
            · have : gs = g' := by injection hv with e1; injection e1 with e1; injection e1
              subst this
              exact (Array.getElem?_eq_some_iff.1 hh).1
          omega
        have ho4 : ∀ g', v4.ownBlock = some g' → gs ≤ g' := fun g' hg' => by
          rcases hg4.block with e | e
          · rw [e] at hg'
            have : gs = g' := by simpa [Value.ownBlock] using hg'
            omega
          · rw [e] at hg'
            simp only [Option.some.injEq] at hg'
            omega
        refine hK.out _ _ hc4 ?_
        clear hK K
        simp only [Act.put, List.setIfInBounds_toArray, List.set_cons_zero, List.set_cons_succ]
        refine held_call 6 147 28 (enters_of Tryz.func147 (by kernel_rfl) rfl) #[.agg #[.string (PackD.name p), .string (PackD.version p), .slice na (PackD.needs p).length nc, .slice ta (PackD.tree p).length tc]] (by kernel_rfl) (by kernel_rfl) rfl rfl rfl rfl rfl ?_
        refine (l9Pack_any p _ w4 hsz (packC.below (unhid HP) hbw4)).mono ?_
        rintro x w5 ⟨csn, Fn, rfl, hown, hF, hb5⟩
        obtain ⟨v2, v3, F2, F3, rfl, -, -, -, -⟩ := packC_own hown
        have hc5 := hc4.trans (hb5.mono hc4.size)
        refine ⟨_, rfl, hc5, ?_⟩
        simp only [Act.put, List.setIfInBounds_toArray, List.set_cons_zero, List.set_cons_succ]
        refine held_op 7 (by kernel_rfl) (by kernel_rfl) rfl (fun K hK => ?_)
        go_simp
        have hnew := World.alloc_heap_new w5 (.cells #[.string (PackD.name p), .string (PackD.version p), v2, v3] 34)
        have hb6 := (Below.refl w5.heap.size w5).alloc (Nat.le_refl _) (.cells #[.string (PackD.name p), .string (PackD.version p), v2, v3] 34)
        obtain ⟨q1, q2, q3⟩ := items_new hg4.row (by omega) hb5 hown (fun k hk => (hF k hk).1) hb6
        have hc6 := hc5.trans (hb6.mono hc5.size)
        have hcl6 : ∀ j u, (itCells [(([.string (PackD.name p), .string (PackD.version p), v2, v3], p, Fn) : It packC)])[j]? = some u → (w5.alloc (.cells #[.string (PackD.name p), .string (PackD.version p), v2, v3] 34)).cell? ⟨w5.heap.size, 0 + j, none⟩ = some u := fun j u hj => by
          rw [Nat.zero_add]
          refine cell_arrS hnew j u ?_
          have hj' : [.string (PackD.name p), .string (PackD.version p), v2, v3][j]? = some u := by simpa [itCells] using hj
          simpa using hj'
        have hs56 : w4.heap.size ≤ (w5.alloc (.cells #[.string (PackD.name p), .string (PackD.version p), v2, v3] 34)).heap.size := Nat.le_trans hb5.size hb6.size
        refine hK.out _ _ hc6 ?_
        clear hK K hnew hb6
        generalize w5.alloc (.cells #[.string (PackD.name p), .string (PackD.version p), v2, v3] 34) = w6 at *
        generalize w5.heap.size = g5 at *
        refine held_op 8 (by kernel_rfl) (by kernel_rfl) rfl (fun K hK => ?_)
        refine op_items etPack onePack w6 30 _ _ rfl rfl rfl N v4 (L.take k) [(([.string (PackD.name p), .string (PackD.version p), v2, v3], p, Fn) : It packC)] g5 0 1 q1 q2 q3 hcl6 (by rw [htl]; simp only [List.length_singleton]; omega) (by omega) rfl rfl ?_
        intro v7 w7 hg7
        have hc7 : Below wd.heap.size wd w7 := hc6.grown hg7.by_ hc6.size (fun k' hk' => by have := ho4 k' hk'; omega)
        have hbw7 : Below w.heap.size w w7 := hbw.trans (hc7.mono hbw.size)
        have hw7 : w6.heap.size ≤ w7.heap.size := hg7.by_.size
        have ho7 : ∀ g', v7.ownBlock = some g' → gs ≤ g' := fun g' hg' => by
          rcases hg7.block with e | e
          · exact ho4 g' (by rw [← e]; exact hg')
          · rw [e] at hg'
            simp only [Option.some.injEq] at hg'
            omega
        refine hK.out _ _ hc7 ?_
        clear hK K
        simp only [Act.put, List.setIfInBounds_toArray, List.set_cons_zero, List.set_cons_succ]
        have hI7 : Items packC w7 N L := hL.frame (fun x hx => hbw7.block x (hLt x hx))
        have hown7 : packC.own w7 [.string (PackD.name p), .string (PackD.version p), v2, v3] p Fn := hg7.row.items.each _ (List.mem_append.2 (.inr (List.mem_singleton.2 rfl)))
        have hM7 := items_mid (k := k) hI7 hLt hown7 (fun x hx => by have := (hF x hx).1; omega) hN
        have hdl : (L.drop k).length = L.length - k := List.length_drop
        have hl7 : (L.take k ++ [(([.string (PackD.name p), .string (PackD.version p), v2, v3], p, Fn) : It packC)]).length = k + 1 := by rw [List.length_append, htl]; rfl
        refine held_op 12 (by kernel_rfl) (by kernel_rfl) rfl (fun K hK => ?_)
        refine op_items etPack onePack w7 34 _ _ rfl rfl rfl N v7 (L.take k ++ [(([.string (PackD.name p), .string (PackD.version p), v2, v3], p, Fn) : It packC)]) (L.drop k) g of (cap - k) hg7.row hM7 (fun g' hg' hm => by
          have h1 := ho7 g' hg'
          have h2 := hLt g' ((itF_sub (List.drop_sublist k L)).subset hm)
          omega) (fun j u hj => (hbw7.cell (p := ⟨g, of + j, none⟩) hgw).trans (hsrc.out j u hj)) (by rw [hl7, hdl]; omega) (by omega) rfl (by simp [Act.eval, hdl, hA]) ?_
        intro v8 w8 hg8
        have hc8 : Below wd.heap.size wd w8 := hc7.grown hg8.by_ hc7.size (fun k' hk' => by have := ho7 k' hk'; omega)
        have hbw8 : Below w.heap.size w w8 := hbw.trans (hc8.mono hbw.size)
        refine hK.out _ _ hc8 ?_
        clear hK K
        simp only [Act.put, List.setIfInBounds_toArray, List.set_cons_zero, List.set_cons_succ]
        have HFIN := hid (show NRow packC 34 w8 N v8 (L.take k ++ [(([.string (PackD.name p), .string (PackD.version p), v2, v3], p, Fn) : It packC)] ++ L.drop k) ∧ itD (L.take k ++ [(([.string (PackD.name p), .string (PackD.version p), v2, v3], p, Fn) : It packC)] ++ L.drop k) = withP p (itD L) ∧ (∀ x, (v8.ownBlock = some x ∨ x ∈ itF (L.take k ++ [(([.string (PackD.name p), .string (PackD.version p), v2, v3], p, Fn) : It packC)] ++ L.drop k)) → x ∈ itF L ∨ w.heap.size < x) ∧ Below w.heap.size w w8 from by
          refine ⟨hg8.row, ?_, fun x hx => ?_, hbw8⟩
          · rw [itD_app, itD_app, itD_take, itD_drop]
            unfold withP
            rw [unhid HPL]
            simp [itD]
          · rcases hx with hx | hx
            · right
              rcases hg8.block with e | e
              · have := ho7 x (by rw [← e]; exact hx)
                omega
              · rw [e] at hx
                simp only [Option.some.injEq] at hx
                omega
            · rw [itF_app, itF_app] at hx
              rcases List.mem_append.1 hx with hx | hx
              · rcases List.mem_append.1 hx with hx | hx
                · exact .inl ((itF_sub (List.take_sublist k L)).subset hx)
                · right
                  have := (hF x (by simpa [itF] using hx)).1
                  omega
              · exact .inl ((itF_sub (List.drop_sublist k L)).subset hx))
        generalize L.take k ++ [(([.string (PackD.name p), .string (PackD.version p), v2, v3], p, Fn) : It packC)] ++ L.drop k = L9 at *
        have hba : ∀ {q : Prop}, (CW (fun w' => Below wd.heap.size wd w') → q) ↔ q := CW.all hc8
        refine held_here [false, false, false, false, false, false, false, false, false, false, false, false, false, true] (by kernel_rfl) (by kernel_rfl) (fun _ _ _ _ _ h => h) hc8 ?_
        dsimp only [pick]
        repeat (go_big_quiet_step (fail))
        refine wpQuiet_nil ?_
        refine held_done (by kernel_rfl) ?_
        clear hba
        go_wp2_with fail
        go_ret
        obtain ⟨f1, f2, f3, f4⟩ := unhid HFIN
        exact ⟨_, L9, rfl, f1, f2, f3, f4⟩
end Go.Proofs.YtoihhlkidlapmaaGreat

namespace Go.Proofs.YtoihhlkidlapmaaGreat
open Go.RowKit Go.Shelf
set_option maxRecDepth 100000 in
set_option maxHeartbeats 4000000 in
theorem cloneRoot_any (ps : List packC.D) (u : Value) (w : World) (hs : smallPs ps) (hp : rowAt packC w u ps) :
    Calls Tryz.prog 86 #[.agg #[u]] w fun x w' => ∃ (r : Value) (L : List (It packC)), x = .returned (.agg #[r]) ∧ NRow packC 34 w' w.heap.size r L ∧ itD L = ps ∧ Below w.heap.size w w' := by
  obtain ⟨a1, c1, rfl, -⟩ := rowAt.slice hp
  have HP := hid hp
  clear hp
  go_enter Tryz.func86, Tryz.ntmps86
  go_wp2_with fail
  obtain ⟨hP, hR, hS, hB⟩ := two_boxesP w (.cells #[.slice a1 ps.length c1] 51) (.cells #[.slice none 0 0] 51)
  generalize (w.alloc (.cells #[.slice a1 ps.length c1] 51)).alloc (.cells #[.slice none 0 0] 51) = W0 at hP hR hS hB ⊢
  refine (clonePacks_any ps _ W0 hs ((unhid HP).below hB)).mono ?_
  rintro x w2 ⟨r, L, rfl, hN, hL, hb⟩
  obtain ⟨o1, p1⟩ := cell_fz ((hb.block _ hS).trans hR) 0 _ rfl
  obtain ⟨ra, rc, rfl⟩ := nrow_slice hN
  have HN := hid hN
  have HL := hid hL
  have HB := hid (hB.trans (hb.mono hB.size))
  have HS := hid hS
  clear hb hP hR hB hN hL hS
  go_wp2_with fail
  refine bodyPost_ret (v := .agg #[.slice ra L.length rc]) (by simp [results, Tryz.results86, go_sem, World.cell?_setCell_same', o1]) rfl ⟨_, L, rfl, NRow.lower (N := W0.heap.size) ((unhid HN).frame (fun k hk => Below.heap_setCell _ _ _ _ ?_)) (by have := unhid HS; omega), unhid HL, (unhid HB).setCell (by dsimp only; omega) _⟩
  have := ((unhid HN).base k hk).1
  have := unhid HS
  dsimp only
  omega
set_option maxRecDepth 100000 in
set_option maxHeartbeats 4000000 in
theorem turnRoot_any (ps : List packC.D) (u : Value) (L : List (It packC)) (v : Value) (w : World) (N : Nat) (hN : N ≤ w.heap.size) (hs : smallPs ps) (hs2 : smallPs (itD L)) (hp : rowAt packC w u ps) (hq : NRow packC 34 w N v L) :
    Calls Tryz.prog 87 #[.agg #[u], v] w fun x w' => ∃ (r : Value) (L' : List (It packC)), x = .returned (.tuple #[.agg #[r], .int .i64 (rootCode (itD L))]) ∧ NRow packC 34 w' N r L' ∧ itD L' = tryP ps (itD L) ∧ Below w.heap.size w w' := by
  obtain ⟨a1, c1, rfl, -⟩ := rowAt.slice hp
  obtain ⟨a2, c2, rfl⟩ := nrow_slice hq
  have HP := hid hp
  have HQ := hid hq
  have hat : rowAt packC w (.slice a2 L.length c2) (itD L) := by obtain ⟨F, h1, _⟩ := hq.own; exact h1.toAt
  have HA := hid hat
  clear hp hq hat
  go_enter Tryz.func87, Tryz.ntmps87
  go_wp2_with fail
  obtain ⟨hP, hR, hS, hB⟩ := two_boxesP w (.cells #[.slice a1 ps.length c1] 51) (.cells #[.slice none 0 0] 51)
  generalize (w.alloc (.cells #[.slice a1 ps.length c1] 51)).alloc (.cells #[.slice none 0 0] 51) = W0 at hP hR hS hB ⊢
  refine (packsWrong_any (itD L) _ W0 hs2 ((unhid HA).below hB)).mono ?_
  rintro x w2 ⟨rfl, hb⟩
  have hP2 := (hb.block _ (by omega)).trans hP
  have hR2 := (hb.block _ hS).trans hR
  have hS2 : w.heap.size + 1 < w2.heap.size := Nat.lt_of_lt_of_le hS hb.size
  have hB2 := hB.trans (hb.mono hB.size)
  obtain ⟨o0, p0⟩ := cell_fz hP2 0 _ rfl
  obtain ⟨o1, p1⟩ := cell_fz hR2 0 _ rfl
  clear hb hP hR hB hS hP2
  by_cases h0 : rootCode (itD L) = 0
  · have HE := hid h0
    have HB := hid hB2
    clear hB2
    rw [h0]
    go_wp2_with fail
    refine bodyPost_ret (v := .tuple #[.agg #[.slice a2 L.length c2], .int .i64 0]) (by simp [results, Tryz.results87, go_sem, World.cell?_setCell_same', o1]) rfl ⟨_, L, by rw [unhid HE], (unhid HQ).frame (fun k hk => ?_), by unfold tryP; rw [if_pos (unhid HE)], (unhid HB).setCell (by dsimp only; omega) _⟩
    have := ((unhid HQ).base k hk).2
    rw [Below.heap_setCell _ _ _ _ (by dsimp only; omega), (unhid HB).block k this]
  · have HE := hid h0
    have JN := hid (cloneRoot_any ps _ w2 hs ((unhid HP).below hB2))
    have HB := hid hB2
    have HS2 := hid hS2
    have HR2 := hid hR2
    clear hB2 hS2 hR2 o1 p1
    go_wp2_with fail
    refine (unhid JN).mono ?_
    rintro x w3 ⟨r, L', rfl, hN3, hL3, hb3⟩
    obtain ⟨ra, rc, rfl⟩ := nrow_slice hN3
    obtain ⟨o1, p1⟩ := cell_fz ((hb3.block _ (unhid HS2)).trans (unhid HR2)) 0 _ rfl
    have HN3 := hid hN3
    have HL3 := hid hL3
    have HB3 := hid ((unhid HB).trans (hb3.mono (unhid HB).size))
    clear hN3 hL3 hb3 JN
    go_wp2_with fail
    refine bodyPost_ret (v := .tuple #[.agg #[.slice ra L'.length rc], .int .i64 (rootCode (itD L))]) (by simp [results, Tryz.results87, go_sem, World.cell?_setCell_same', o1]) rfl ⟨_, L', rfl, NRow.lower (N := w2.heap.size) ((unhid HN3).frame (fun k hk => Below.heap_setCell _ _ _ _ ?_)) (by have := (unhid HB).size; omega), by unfold tryP; rw [if_neg (unhid HE)]; exact unhid HL3, (unhid HB3).setCell (by dsimp only; omega) _⟩
    have := ((unhid HN3).base k hk).1
    have := unhid HS2
    dsimp only
    omega
end Go.Proofs.YtoihhlkidlapmaaGreat

namespace Go.Proofs.YtoihhlkidlapmaaGreat
open Go.RowKit Go.Shelf
end Go.Proofs.YtoihhlkidlapmaaGreat

namespace Go.Proofs.YtoihhlkidlapmaaGreat
open Go.ChangeShapes Go.WideShapes Go.ChangeAt Go.RowKit
end Go.Proofs.YtoihhlkidlapmaaGreat

namespace Go.Proofs.YtoihhlkidlapmaaGreat
open Go.ChangeShapes Go.WideShapes Go.ChangeAt Go.RowKit
end Go.Proofs.YtoihhlkidlapmaaGreat

namespace Go.Proofs.YtoihhlkidlapmaaGreat
open Go.ChangeShapes Go.WideShapes Go.ChangeAt Go.RowKit
end Go.Proofs.YtoihhlkidlapmaaGreat

namespace Go.Proofs.YtoihhlkidlapmaaGreat
open Go.ChangeShapes Go.WideShapes Go.ChangeAt Go.RowKit
end Go.Proofs.YtoihhlkidlapmaaGreat

namespace Go.Proofs.YtoihhlkidlapmaaGreat
open Go.RowKit Go.Shelf
def rootOk_0 (d : RootD) : Bool := rootCode d.packs == 0
theorem rootOk_yes {d : RootD} (h : rootOk_0 d = true) : rootCode d.packs = 0 := by unfold rootOk_0 at h; exact eq_of_beq h
set_option maxRecDepth 100000 in
set_option maxHeartbeats 1000000 in
theorem specRootOk_any (d : RootD) (a : Option Addr) (c : Nat) (w : World) (hs : smallPs d.packs) (h : rowAt packC w (.slice a d.packs.length c) d.packs) :
    Calls Tryz.prog 35 #[.agg #[.slice a d.packs.length c]] w fun x w' => x = .returned (.bool (rootOk_0 d)) ∧ Below w.heap.size w w' := by
  have HB := hid (show ∀ x, Below w.heap.size w (w.alloc x) from fun x => (Below.refl _ w).alloc (Nat.le_refl _) x)
  have K := hid (fun W (hb : Below w.heap.size w W) => l9Check_any d.packs _ W hs (h.below hb))
  have E := hid (show rootOk_0 d = (rootCode d.packs == 0) from rfl)
  clear hs h
  go_enter Tryz.func35, Tryz.ntmps35
  go_wp2_with fail
  refine (unhid K _ (unhid HB _)).mono ?_
  rintro x w2 ⟨rfl, hb⟩
  have HB2 := hid ((unhid HB _).trans (hb.mono (unhid HB _).size))
  clear hb
  generalize rootCode d.packs = rc at *
  go_wp2_with fail
  go_ret
  exact ⟨by rw [unhid E]; rfl, unhid HB2⟩
set_option maxRecDepth 100000 in
set_option maxHeartbeats 1000000 in
theorem implRootOk_any (d : RootD) (a : Option Addr) (c : Nat) (w : World) (hs : smallPs d.packs) (h : rowAt packC w (.slice a d.packs.length c) d.packs) :
    Calls Tryz.prog 42 #[.agg #[.slice a d.packs.length c]] w fun x w' => x = .returned (.bool (rootOk_0 d)) ∧ Below w.heap.size w w' := by
  have HB := hid (show ∀ x, Below w.heap.size w (w.alloc x) from fun x => (Below.refl _ w).alloc (Nat.le_refl _) x)
  have K := hid (fun W (hb : Below w.heap.size w W) => packsWrong_any d.packs _ W hs (h.below hb))
  have E := hid (show rootOk_0 d = (rootCode d.packs == 0) from rfl)
  clear hs h
  go_enter Tryz.func42, Tryz.ntmps42
  go_wp2_with fail
  refine (unhid K _ (unhid HB _)).mono ?_
  rintro x w2 ⟨rfl, hb⟩
  have HB2 := hid ((unhid HB _).trans (hb.mono (unhid HB _).size))
  clear hb
  generalize rootCode d.packs = rc at *
  go_wp2_with fail
  go_ret
  exact ⟨by rw [unhid E]; rfl, unhid HB2⟩
end Go.Proofs.YtoihhlkidlapmaaGreat
