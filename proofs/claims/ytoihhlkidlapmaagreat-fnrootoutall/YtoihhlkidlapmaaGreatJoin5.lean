/- Texts of this proof, one behind the other; each says at its head what it shows. -/
import Derived.Test.YtoihhlkidlapmaaGreatJoin1
import Derived.Test.YtoihhlkidlapmaaGreatJoin3
import Derived.Test.YtoihhlkidlapmaaGreatJoin4
import Derived.Maps.OwnSet
import Derived.StringKeys
namespace Go.Proofs.YtoihhlkidlapmaaGreat
open Go.RowKit
def wpAnyE (kl : Nat) (P : Program) (md : Region.Mode) (ops : Array Oper) (Q : Exit → Act → World → Prop) (S : World → Prop) : Nat → Array Bool → Act → World → Prop
  | 0, listed, a, w => Region.ready md ops listed = [] ∧ Q .normal a w
  | fuel + 1, listed, a, w =>
    (Region.ready md ops listed = [] → Q .normal a w) ∧
    ∀ i ∈ Region.ready md ops listed, wpOp P ops Q i (fun a' w' => (i ≠ kl → S w') ∧ wpAnyE kl P md ops Q S fuel (listed.setIfInBounds i true) a' w') a w
def waitsB (md : Region.Mode) (ops : Array Oper) (kl i : Nat) : Bool := ((ops[kl]?).map fun o => o.after.toList.any fun e => Region.binds md e && (e.on == i)).getD false
theorem waits_not {md : Region.Mode} {ops : Array Oper} {kl i : Nat} {listed : Array Bool} (h : waitsB md ops kl i = true) (hi : i ∈ Region.ready md ops listed) : kl ∉ Region.ready md ops listed := by
  intro hk
  obtain ⟨_, o, ho, hall⟩ := mem_ready.1 hk
  unfold waitsB at h
  rw [ho] at h
  simp only [Option.map_some, Option.getD_some, List.any_eq_true, Bool.and_eq_true, beq_iff_eq] at h
  obtain ⟨e, he, hb, rfl⟩ := h
  have h1 := hall e (by simpa using he) hb
  have h0 := (mem_ready.1 hi).1
  rcases Nat.lt_or_ge e.on listed.size with h' | h'
  · simp [h'] at h0 h1; rw [h0] at h1; cases h1
  · simp [Array.getElem?_eq_none h'] at h1
theorem wpAny_of_heldE {kl : Nat} {P : Program} {ops : Array Oper} {Q : Exit → Act → World → Prop} {md : Region.Mode} {S : World → Prop} : ∀ (fuel : Nat) (listed : Array Bool) (a : Act) (w : World), wpAnyE kl P md ops Q S fuel listed a w → wpAny P md ops Q fuel listed a w
  | 0, _, _, _, h => h
  | fuel + 1, _, _, _, h => ⟨h.1, fun i hi => wpOp_mono (fun a' w' h' => wpAny_of_heldE fuel _ a' w' h'.2) (h.2 i hi)⟩
theorem wpAnyE_first {kl : Nat} {P : Program} {ops : Array Oper} {Q : Exit → Act → World → Prop} {md : Region.Mode} {S : World → Prop} {i : Nat} {oi : Oper} {v : Value} (hi : ops[i]? = some oi) (hsel : ∀ (j : Nat) (o : Oper) cs b, ops[j]? = some o → o.op ≠ .select cs b)
    (hQ : ∀ c a w, Q (.panic c) (a.put oi.dst v) w → Q (.panic c) a w) (hkl : waitsB md ops kl i = true) :
    ∀ (fuel : Nat) (listed : Array Bool) (a : Act) (w : World),
      (∀ j oj, ops[j]? = some oj → j ≠ i → listed.getD j true = false → (∀ e ∈ oj.after, Region.binds md e = true → e.on ≠ i) → oi.apart ops oj = true) →
      i ∈ Region.ready md ops listed → YieldsIf P ops S oi v a → S w →
      wpAnyE kl P md ops Q S fuel (listed.setIfInBounds i true) (a.put oi.dst v) w → wpAnyE kl P md ops Q S (fuel + 1) listed a w := by
  intro fuel
  induction fuel with
  | zero =>
    intro listed a w _ hr hy hS H
    refine ⟨fun h => (by rw [h] at hr; cases hr), fun j hj => ?_⟩
    by_cases hji : j = i
    · subst hji; exact hy.wpOp hi hS ⟨fun _ => hS, H⟩
    · have := ready_mono hj hji
      rw [H.1] at this
      cases this
  | succ fuel ih =>
    intro listed a w hfree hr hy hS H
    refine ⟨fun h => (by rw [h] at hr; cases hr), fun j hj => ?_⟩
    by_cases hji : j = i
    · subst hji; exact hy.wpOp hi hS ⟨fun _ => hS, H⟩
    · have hjk : j ≠ kl := fun e => waits_not hkl hr (e ▸ hj)
      have h1 := H.2 j (ready_mono hj hji)
      obtain ⟨hjun, oj, hoj, hall⟩ := mem_ready.1 hj
      have hnot : ∀ e ∈ oj.after, Region.binds md e = true → e.on ≠ i := fun e he hb heq => by
        have h1 := hall e he hb
        have h0 := (mem_ready.1 hr).1
        rw [heq] at h1
        rcases Nat.lt_or_ge i listed.size with h' | h'
        · simp [h'] at h0 h1; rw [h0] at h1; cases h1
        · simp [Array.getElem?_eq_none h'] at h1
      have h2 := wpOp_putIf hoj (hfree j oj hoj hji hjun hnot) (fun cs b => hsel i oi cs b hi) (fun cs b => hsel j oj cs b hoj) hQ hy h1
      have hfree' : ∀ k ok, ops[k]? = some ok → k ≠ i → (listed.setIfInBounds j true).getD k true = false →
          (∀ e ∈ ok.after, Region.binds md e = true → e.on ≠ i) → oi.apart ops ok = true := fun k ok hk hki hun hno => by
        refine hfree k ok hk hki ?_ hno
        by_cases hjk : j = k
        · subst hjk; exact hjun
        · rw [getD_set_ne true hjk] at hun; exact hun
      refine wpOp_mono (fun a' w' h3 => ⟨fun _ => h3.2.1 hjk, ih (listed.setIfInBounds j true) a' w' hfree' (ready_mono hr (Ne.symm hji)) h3.1 (h3.2.1 hjk) ?_⟩) h2
      rw [Array.setIfInBounds_comm _ _ hji]
      exact h3.2.2
theorem wpAnyE_take {kl : Nat} {P : Program} {ops : Array Oper} {Q : Exit → Act → World → Prop} {md : Region.Mode} {S : World → Prop} {i : Nat} {oi : Oper} {v : Value} {fuel : Nat} {listed : Array Bool} {a : Act} {w : World} (hi : ops[i]? = some oi)
    (hs : Region.noSelect ops = true) (hf : Region.free md ops listed i = true) (hr : (Region.ready md ops listed).contains i = true) (hkl : waitsB md ops kl i = true)
    (hQ : ∀ c a w, Q (.panic c) (a.put oi.dst v) w → Q (.panic c) a w) (hy : YieldsIf P ops S oi v a) (hS : S w)
    (h : wpAnyE kl P md ops Q S fuel (listed.setIfInBounds i true) (a.put oi.dst v) w) : wpAnyE kl P md ops Q S (fuel + 1) listed a w :=
  wpAnyE_first hi (Region.noSelect_spec hs) hQ hkl fuel listed a w (Region.free_spec hi hf) (by simpa using hr) hy hS h
def heldEB (kl : Nat) (md : Region.Mode) (ops : Array Oper) : List Nat → Array Bool → Bool
  | [], _ => true
  | i :: is, listed => (Region.ready md ops listed).contains i && Region.free md ops listed i && ((ops[i]?).map plainOp).getD false && waitsB md ops kl i && heldEB kl md ops is (listed.setIfInBounds i true)
theorem heldE_same {kl : Nat} {P : Program} {md : Region.Mode} {ops : Array Oper} {Q : Exit → Act → World → Prop} {S : World → Prop} (hs : Region.noSelect ops = true) (hQ : ∀ c a t v w, Q (.panic c) (Act.put a (some t) v) w → Q (.panic c) a w) (fuel : Nat) : ∀ (is : List Nat) (l : List Oper) (listed : Array Bool) (a : Act) (w : World), is.map (fun i => ops[i]?) = l.map some → heldEB kl md ops is listed = true → S w →
    wpQuiet P ops S (fun a' => wpAnyE kl P md ops Q S fuel (markAll is listed) a' w) l a → wpAnyE kl P md ops Q S (is.length + fuel) listed a w
  | [], [], listed, a, w, _, _, _, h => by rw [List.length_nil, Nat.zero_add]; exact h
  | [], _ :: _, _, _, _, e, _, _, _ => by cases e
  | _ :: _, [], _, _, _, e, _, _, _ => by cases e
  | i :: is, o :: l, listed, a, w, e, hB, hS, h => by
    simp only [List.map_cons, List.cons.injEq] at e
    simp only [heldEB, Bool.and_eq_true] at hB
    obtain ⟨⟨⟨⟨h1, h2⟩, h3⟩, h5⟩, h4⟩ := hB
    rw [e.1] at h3
    obtain ⟨v, hy, hK⟩ := yieldsIf_quiet (by simpa using h3) h
    rw [show (i :: is).length + fuel = (is.length + fuel) + 1 by simp; omega]
    exact wpAnyE_take e.1 hs h2 h1 h5 (fun c a w hq => by cases hd : o.dst with | none => rw [hd] at hq; exact hq | some t => rw [hd] at hq; exact hQ _ _ _ _ _ hq) hy hS (heldE_same hs hQ fuel is l _ _ w e.2 h4 hS hK)
theorem heldE_begin {P : Program} {id : Nat} {Q : Exit → Act → World → Prop} {a : Act} {w : World} {l : List Oper} (kl : Nat) (C : World → Prop) (hm : P.follows .mixedOrders = true)
    (h : wpAnyE kl P .any l.toArray Q (fun w' => ∃ x : CW C, w' = x.w) l.length (Array.replicate l.length false) a w.drew) : (Code.region id l.toArray true).wp P Q a w :=
  wp_region_any hm (wpAny_of_heldE _ _ _ _ (by simpa using h))
theorem heldE_here {kl : Nat} {P : Program} {md : Region.Mode} {Q : Exit → Act → World → Prop} {C : World → Prop} {F : Nat} {listed : Array Bool} {a : Act} {w : World} {l : List Oper} (m : List Bool) (hs : Region.noSelect l.toArray = true) (hB : (decide (m.length ≤ l.length) && decide ((maskIx 0 m).length ≤ F) && heldEB kl md l.toArray (maskIx 0 m) listed) = true) (hQ : ∀ c a t v w, Q (.panic c) (Act.put a (some t) v) w → Q (.panic c) a w) (hC : C w)
    (h : wpQuiet P l.toArray (fun w' => ∃ x : CW C, w' = x.w) (fun a' => wpAnyE kl P md l.toArray Q (fun w' => ∃ x : CW C, w' = x.w) (F - (maskIx 0 m).length) (markAll (maskIx 0 m) listed) a' w) (pick l m) a) :
    wpAnyE kl P md l.toArray Q (fun w' => ∃ x : CW C, w' = x.w) F listed a w := by
  simp only [Bool.and_eq_true, decide_eq_true_eq] at hB
  obtain ⟨⟨h1, h2⟩, h3⟩ := hB
  have := heldE_same (P := P) (md := md) (Q := Q) (S := fun w' => ∃ x : CW C, w' = x.w) hs hQ (F - (maskIx 0 m).length) (maskIx 0 m) (pick l m) listed a w (pick_ix l l m 0 h1 (by simp)) h3 ⟨⟨w, hC⟩, rfl⟩ h
  rwa [show (maskIx 0 m).length + (F - (maskIx 0 m).length) = F by omega] at this
def AllReadyE (kl : Nat) (P : Program) (md : Region.Mode) (ops : Array Oper) (Q : Exit → Act → World → Prop) (C : World → Prop) (F : Nat) (listed : Array Bool) (a : Act) (w : World) (rs : List Nat) : Prop :=
  ∀ i ∈ rs, wpOp P ops Q i (fun a' w' => (i ≠ kl → ∃ x : CW C, w' = x.w) ∧ wpAnyE kl P md ops Q (fun w' => ∃ x : CW C, w' = x.w) F (listed.setIfInBounds i true) a' w') a w
theorem AllReadyE.cons {kl : Nat} {P : Program} {md : Region.Mode} {ops : Array Oper} {Q : Exit → Act → World → Prop} {C : World → Prop} {F : Nat} {listed : Array Bool} {a : Act} {w : World} {o : Oper} {k : Nat} {rs : List Nat} (ho : ops[k]? = some o)
    (h : ∀ K' : Act → World → Prop, Shut (∀ a w, (k ≠ kl → C w) → wpAnyE kl P md ops Q (fun w' => ∃ x : CW C, w' = x.w) F (listed.setIfInBounds k true) a w → K' a w) → if Region.wanted o (yielded ops a.tmps) = true then Oper.wp P o a w K' Q else K' (a.put o.dst undef) w)
    (hs : AllReadyE kl P md ops Q C F listed a w rs) : AllReadyE kl P md ops Q C F listed a w (k :: rs) := fun j hj => by
  rcases List.mem_cons.1 hj with rfl | hj
  · exact wpOp_step ho (fun K' hK => h K' (fun a w hS hW => hK a w ⟨fun hne => ⟨⟨w, hS hne⟩, rfl⟩, hW⟩))
  · exact hs j hj
theorem heldE_ready {kl : Nat} {P : Program} {md : Region.Mode} {ops : Array Oper} {Q : Exit → Act → World → Prop} {C : World → Prop} {F : Nat} {listed : Array Bool} {a : Act} {w : World} (rs : List Nat) (hr : Region.ready md ops listed = rs) (hne : rs ≠ []) (hF : decide (0 < F) = true)
    (h : AllReadyE kl P md ops Q C (F - 1) listed a w rs) : wpAnyE kl P md ops Q (fun w' => ∃ x : CW C, w' = x.w) F listed a w := by
  have hF' : F = (F - 1) + 1 := by simp only [decide_eq_true_eq] at hF; omega
  rw [hF']
  exact ⟨fun h0 => absurd (hr ▸ h0) hne, fun i hi => h i (hr ▸ hi)⟩
theorem heldE_op {kl : Nat} {P : Program} {md : Region.Mode} {ops : Array Oper} {Q : Exit → Act → World → Prop} {C : World → Prop} {F : Nat} {listed : Array Bool} {a : Act} {w : World} {o : Oper} (k : Nat) (hr : Region.ready md ops listed = [k]) (hF : decide (0 < F) = true) (ho : ops[k]? = some o)
    (h : ∀ K' : Act → World → Prop, Shut (∀ a w, C w → wpAnyE kl P md ops Q (fun w' => ∃ x : CW C, w' = x.w) (F - 1) (listed.setIfInBounds k true) a w → K' a w) → if Region.wanted o (yielded ops a.tmps) = true then Oper.wp P o a w K' Q else K' (a.put o.dst undef) w) :
    wpAnyE kl P md ops Q (fun w' => ∃ x : CW C, w' = x.w) F listed a w :=
  heldE_ready [k] hr (by simp) hF (AllReadyE.cons ho (fun K' hK => h K' (fun a w hc hw => hK.out a w (fun _ => hc) hw)) (fun j hj => by cases hj))
theorem heldE_last {kl : Nat} {P : Program} {md : Region.Mode} {ops : Array Oper} {Q : Exit → Act → World → Prop} {C : World → Prop} {F : Nat} {listed : Array Bool} {a : Act} {w : World} {o : Oper} (hr : Region.ready md ops listed = [kl]) (hF : decide (0 < F) = true) (ho : ops[kl]? = some o)
    (h : ∀ K' : Act → World → Prop, Shut (∀ a w, wpAnyE kl P md ops Q (fun w' => ∃ x : CW C, w' = x.w) (F - 1) (listed.setIfInBounds kl true) a w → K' a w) → if Region.wanted o (yielded ops a.tmps) = true then Oper.wp P o a w K' Q else K' (a.put o.dst undef) w) :
    wpAnyE kl P md ops Q (fun w' => ∃ x : CW C, w' = x.w) F listed a w :=
  heldE_ready [kl] hr (by simp) hF (AllReadyE.cons ho (fun K' hK => h K' (fun a w hw => hK.out a w (fun hne => absurd rfl hne) hw)) (fun j hj => by cases hj))
theorem call_op {P : Program} {ops : Array Oper} {Q : Exit → Act → World → Prop} {K : Act → World → Prop} {a : Act} {w : World} {o : Oper} {args : Array Operand} {ty : Array TypeId} (f d : Nat) (he : ∀ args w, (callFunc f args).run P w = .ok (.enter f args) w) (av : Array Value)
    (hop : o.op = .call ⟨.value (.func f), args, ty⟩) (hw : Region.wanted o (yielded ops a.tmps) = true) (hd : o.dst = some d) (hav : args.toList.map a.eval = av.toList)
    (h : Calls P f av w fun e w' => ∃ v, e = .returned v ∧ K (a.put (some d) v) w') : if Region.wanted o (yielded ops a.tmps) = true then Oper.wp P o a w K Q else K (a.put o.dst undef) w := by
  rw [if_pos hw]
  have hav : args.map a.eval = av := by apply Array.ext'; rw [Array.toList_map]; exact hav
  have hx : (execOp a.eval o).run P w = .ok (.enter f av) w := by
    unfold execOp
    rw [hop]
    simp [resolve, Deferred.ofValue, invoke, he, hav, Act.eval]
  unfold Oper.wp
  rw [hx]
  refine Calls.mono h ?_
  rintro e w' ⟨v, rfl, hn⟩
  show K (a.put o.dst v) w'
  rw [hd]
  exact hn
theorem heldE_done {kl : Nat} {P : Program} {md : Region.Mode} {ops : Array Oper} {Q : Exit → Act → World → Prop} {S : World → Prop} {F : Nat} {listed : Array Bool} {a : Act} {w : World} (hr : Region.ready md ops listed = []) (h : Q .normal a w) : wpAnyE kl P md ops Q S F listed a w := by
  cases F with
  | zero => exact ⟨hr, h⟩
  | succ F => exact ⟨fun _ => h, by rw [hr]; simp⟩
end Go.Proofs.YtoihhlkidlapmaaGreat

namespace Go.Proofs.YtoihhlkidlapmaaGreat
open Go.RowKit Go.Shelf
def pkOk (p : PackD) : Bool := packB p.name.data.toList && versOk p.version.data.toList && ((p.needs.all needOkD && decide (p.needs.length ≤ 6)) && !twiceB (p.name :: namesN p.needs)) && treeB (entsD p.tree)
structure smallP (p : PackD) : Prop where
  name : p.name.size ≤ 1048576
  version : p.version.size ≤ 1048576
  needs : smallN p.needs
  tree : smallE (entsD p.tree)
theorem twice_swap (n : ByteArray) (xs : List ByteArray) : twiceB (xs ++ [n]) = twiceB (n :: xs) := by
  unfold twiceB
  rw [show decide (xs ++ [n]).Nodup = decide (n :: xs).Nodup from decide_eq_decide.2 (List.perm_append_comm (l₁ := xs) (l₂ := [n])).nodup_iff]
set_option maxRecDepth 100000 in
set_option maxHeartbeats 4000000 in
theorem specPackOk_any (p : PackD) (cs : List Value) (w : World) (hs : smallP p) (h : packC.at_ w cs p) :
    Calls Tryz.prog 122 #[.agg cs.toArray] w fun x w' => x = .returned (.bool (pkOk p)) ∧ Below w.heap.size w w' := by
  obtain ⟨v2, v3, rfl, h2, h3⟩ := packC_at h
  obtain ⟨name, version, needs, tree⟩ := p
  obtain ⟨hsn, hsv, hsd, hst⟩ := hs
  dsimp only at *
  have H2 := hid h2
  obtain ⟨ta, tc, rfl, htn, htc, hte⟩ := entsD_at h3
  have H3 := hid hte
  have SN := hid hsn
  have SV := hid hsv
  have SD := hid hsd
  have ST := hid hst
  have EQ := hid (show pkOk ⟨name, version, needs, tree⟩ = (packB name.data.toList && versOk version.data.toList && ((needs.all needOkD && decide (needs.length ≤ 6)) && !twiceB (name :: namesN needs)) && treeB (entsD tree)) from rfl)
  clear h h2 h3 hsn hsv hsd hst htn htc hte
  go_enter Tryz.func122, Tryz.ntmps122
  go_wp2_with fail
  have hP := World.alloc_heap_new w (.cells #[.string name, .string version, v2, .slice ta (entsD tree).length tc] 34)
  have hB : Below w.heap.size w (w.alloc (.cells #[.string name, .string version, v2, .slice ta (entsD tree).length tc] 34)) := (Below.refl _ w).alloc (Nat.le_refl _) _
  have hS : w.heap.size < (w.alloc (.cells #[.string name, .string version, v2, .slice ta (entsD tree).length tc] 34)).heap.size := by simp
  generalize w.alloc (.cells #[.string name, .string version, v2, .slice ta (entsD tree).length tc] 34) = W0 at hP hB hS ⊢
  have HB := hid hB
  have JP := hid hP
  have JS := hid hS
  clear hB hP hS
  refine (l3Pack_any name (le_maxLen (unhid SN)) W0).mono ?_
  rintro x w1 ⟨rfl, hw⟩
  subst hw
  obtain c1 := cell_arrS (unhid JP) 1 _ rfl
  cases q1 : packB name.data.toList with
  | false =>
    go_wp2_with fail
    go_ret
    exact ⟨by rw [unhid EQ, q1]; rfl, unhid HB⟩
  | true =>
  go_wp2_with fail
  clear c1
  refine (specVersionOk_any version (unhid SV) _).mono ?_
  rintro x w2 ⟨rfl, hb⟩
  have HB2 := hid ((unhid HB).trans (hb.mono (unhid HB).size))
  have JP2 := hid ((hb.block _ (unhid JS)).trans (unhid JP))
  have JS2 := hid (Nat.lt_of_lt_of_le (unhid JS) hb.size)
  clear hb HB JP JS
  obtain c0 := cell_arrS (unhid JP2) 0 _ rfl
  obtain c2 := cell_arrS (unhid JP2) 2 _ rfl
  cases q2 : versOk version.data.toList with
  | false =>
    go_wp2_with fail
    go_ret
    exact ⟨by rw [unhid EQ, q1, q2]; rfl, unhid HB2⟩
  | true =>
  go_wp2_with fail
  clear c0 c2
  refine (l7Needs_any name needs v2 _ (unhid SD) ((unhid H2).below (unhid HB2))).mono ?_
  rintro x w3 ⟨rfl, hb⟩
  have HB3 := hid ((unhid HB2).trans (hb.mono (unhid HB2).size))
  have JP3 := hid ((hb.block _ (unhid JS2)).trans (unhid JP2))
  clear hb HB2 JP2 JS2
  obtain c3 := cell_arrS (unhid JP3) 3 _ rfl
  cases q3 : ((needs.all needOkD && decide (needs.length ≤ 6)) && !twiceB (name :: namesN needs)) with
  | false =>
    go_wp2_with fail
    go_ret
    exact ⟨by rw [unhid EQ, q1, q2, q3]; rfl, unhid HB3⟩
  | true =>
  go_wp2_with fail
  clear c3
  refine (specTreeOk_any (entsD tree) ta tc _ (unhid ST) ((unhid H3).below (unhid HB3))).mono ?_
  rintro x w4 ⟨rfl, hb⟩
  have HB4 := hid ((unhid HB3).trans (hb.mono (unhid HB3).size))
  clear hb HB3
  go_wp2_with fail
  go_ret
  exact ⟨by rw [unhid EQ, q1, q2, q3]; rfl, unhid HB4⟩
set_option maxRecDepth 100000 in
set_option maxHeartbeats 4000000 in
theorem packOk_any (p : PackD) (cs : List Value) (w : World) (hs : smallP p) (h : packC.at_ w cs p) :
    Calls Tryz.prog 60 #[.agg cs.toArray] w fun x w' => x = .returned (.bool (pkOk p)) ∧ Below w.heap.size w w' := by
  obtain ⟨v2, v3, rfl, h2, h3⟩ := packC_at h
  obtain ⟨name, version, needs, tree⟩ := p
  obtain ⟨hsn, hsv, hsd, hst⟩ := hs
  dsimp only at *
  have H2 := hid h2
  obtain ⟨ta, tc, rfl, htn, htc, hte⟩ := entsD_at h3
  obtain ⟨na, nc, rfl, -, -, -⟩ := h2
  have H3 := hid hte
  have SN := hid hsn
  have SV := hid hsv
  have SD := hid hsd
  have ST := hid hst
  have EQ := hid (show pkOk ⟨name, version, needs, tree⟩ = (packB name.data.toList && versOk version.data.toList && ((needs.all needOkD && decide (needs.length ≤ 6)) && !twiceB (name :: namesN needs)) && treeB (entsD tree)) from rfl)
  clear h h3 hsn hsv hsd hst htn htc hte
  go_enter Tryz.func60, Tryz.ntmps60
  go_wp2_with fail
  have hP := World.alloc_heap_new w (.cells #[.string name, .string version, .slice na needs.length nc, .slice ta (entsD tree).length tc] 34)
  have hB : Below w.heap.size w (w.alloc (.cells #[.string name, .string version, .slice na needs.length nc, .slice ta (entsD tree).length tc] 34)) := (Below.refl _ w).alloc (Nat.le_refl _) _
  have hS : w.heap.size < (w.alloc (.cells #[.string name, .string version, .slice na needs.length nc, .slice ta (entsD tree).length tc] 34)).heap.size := by simp
  generalize w.alloc (.cells #[.string name, .string version, .slice na needs.length nc, .slice ta (entsD tree).length tc] 34) = W0 at hP hB hS ⊢
  have HB := hid hB
  have JP := hid hP
  have JS := hid hS
  clear hB hP hS
  have g0 : ∀ x : CW (fun w' => Below W0.heap.size W0 w'), x.w.cell? ⟨w.heap.size, 0, none⟩ = some (.string name) := fun x => cell_arrS ((x.h.block _ (unhid JS)).trans (unhid JP)) 0 _ rfl
  have g2 : ∀ x : CW (fun w' => Below W0.heap.size W0 w'), x.w.cell? ⟨w.heap.size, 2, none⟩ = some (.slice na needs.length nc) := fun x => cell_arrS ((x.h.block _ (unhid JS)).trans (unhid JP)) 2 _ rfl
  have hba : ∀ {q : Prop}, (CW (fun w' => Below W0.heap.size W0 w') → q) ↔ q := CW.all (Below.refl _ W0)
  refine held_begin (fun w' => Below W0.heap.size W0 w') (by kernel_rfl) (drew_belowS _) ?_
  refine held_here [true, true, false, true, true] (by kernel_rfl) (by kernel_rfl) (fun _ _ _ _ _ h => h) (drew_belowS _) ?_
  dsimp only [pick]
  repeat (go_big_quiet_step (fail))
  refine wpQuiet_nil ?_
  clear hba g0 g2
  have hD := drew_belowS (B := W0.heap.size) W0
  generalize W0.drew = W1 at hD ⊢
  have HD := hid hD
  clear hD
  have HLT := hid (show w.heap.size < W0.heap.size from unhid JS)
  refine held_op2 2 5 (by kernel_rfl) (by kernel_rfl) rfl rfl (fun K hK => ?_) (fun K hK => ?_)
  · refine call_op 112 6 (enters_of Tryz.func112 (by kernel_rfl) rfl) #[.slice na needs.length nc, .func (.func 113) #[] #[]] rfl rfl rfl rfl ?_
    have H2b := hid (((unhid H2).below (unhid HB)).below ((unhid HD).mono (Nat.le_refl _)))
    refine (namesOfNeed_any needs _ W1 (unhid SD).1 (unhid H2b)).mono ?_
    rintro e W2 ⟨u, rfl, hown, hb⟩
    have hD2 : Below W0.heap.size W0 W2 := (unhid HD).trans (hb.mono (unhid HD).size)
    obtain ⟨ua, uc, hu, -, -, -⟩ := ownsRow_txts hown
    subst hu
    refine ⟨_, rfl, hK.out _ _ hD2 ?_⟩
    clear hK K
    simp only [Act.put, List.setIfInBounds_toArray, List.set_cons_zero, List.set_cons_succ]
    have ho2 := ownsRow_lowerS hown (unhid HD).size
    clear hown hb HD
    refine held_op 5 (by kernel_rfl) (by kernel_rfl) rfl (fun K hK => ?_)
    go_simp
    have HD2 := hid (hD2.alloc hD2.size (.cells #[.string name] 9))
    refine hK.out _ _ (unhid HD2) ?_
    clear hK K
    have HO := hid (ho2.alloc (.cells #[.string name] 9))
    have HC := hid (cell_newN W2 (.string name) 9)
    clear ho2 hD2
    generalize W2.alloc (.cells #[.string name] 9) = W3 at HD2 HO HC ⊢
    generalize W2.heap.size = gx at HC ⊢
    -- the names are one row
    refine held_name 6 10 W0.heap.size (.slice ua (namesN needs).length uc) (namesN needs) name gx (by kernel_rfl) (by kernel_rfl) rfl rfl rfl rfl rfl rfl (unhid HO) (unhid HC) (by have := (unhid SD).1; rw [namesN_len]; omega) (unhid HD2).size ?_
    intro v' W5 hown hg
    have hD5 : Below W0.heap.size W0 W5 := grown_belowN (unhid HD2) hg (fun j ej => ((unhid HO).lt j ej).1)
    refine ⟨hD5, ?_⟩
    simp only [Act.put, List.setIfInBounds_toArray, List.set_cons_zero, List.set_cons_succ]
    have HO5 := hid hown
    have HD5 := hid hD5
    clear hown hg HO HC HD2 hD5
    have hba : ∀ {q : Prop}, (CW (fun w' => Below W0.heap.size W0 w') → q) ↔ q := CW.all (Below.refl _ W0)
    refine held_here [false, false, false, false, false, false, false, true] (by kernel_rfl) (by kernel_rfl) (fun _ _ _ _ _ h => h) (unhid HD5) ?_
    dsimp only [pick]
    repeat (go_big_quiet_step (fail))
    refine wpQuiet_nil ?_
    refine held_done (by kernel_rfl) ?_
    clear hba
    obtain ⟨va, vc, hv, -, -, -⟩ := ownsRow_txts (unhid HO5)
    subst hv
    have HNM := hid (twice_swap name (namesN needs))
    have HNL := hid (show (namesN needs ++ [name]).length = needs.length + 1 by rw [List.length_append, namesN_len]; rfl)
    generalize namesN needs ++ [name] = nm at *
    have HB5 := hid ((unhid HB).trans ((unhid HD5).mono (unhid HB).size))
    have JP5 := hid (((unhid HD5).block _ (unhid JS)).trans (unhid JP))
    have JS5 := hid (Nat.lt_of_lt_of_le (unhid JS) (unhid HD5).size)
    have HN5 := hid (unhid HB).size
    clear HD5 HB JP JS H2b
    have c0 := cell_arrS (unhid JP5) 0 _ rfl
    go_wp2_with fail
    clear c0
    refine (packNameOk_any name (le_maxLen (unhid SN)) _).mono ?_
    rintro x w1 ⟨rfl, hb⟩
    have HB6 := hid ((unhid HB5).trans (hb.mono (unhid HB5).size))
    have JP6 := hid ((hb.block _ (unhid JS5)).trans (unhid JP5))
    have JS6 := hid (Nat.lt_of_lt_of_le (unhid JS5) hb.size)
    have HO6 := hid (ownsRow_belowS (unhid HO5) hb)
    clear hb HB5 JP5 JS5 HO5
    have c1 := cell_arrS (unhid JP6) 1 _ rfl
    cases q1 : packB name.data.toList with
    | false =>
      go_wp2_with fail
      go_ret
      exact ⟨by rw [unhid EQ, q1]; rfl, unhid HB6⟩
    | true =>
    go_wp2_with fail
    clear c1
    refine (VersionOk_any version (le_maxLen (unhid SV)) _).mono ?_
    rintro x w2 ⟨rfl, hb⟩
    have HB7 := hid ((unhid HB6).trans (hb.mono (unhid HB6).size))
    have JP7 := hid ((hb.block _ (unhid JS6)).trans (unhid JP6))
    have JS7 := hid (Nat.lt_of_lt_of_le (unhid JS6) hb.size)
    have HO7 := hid (ownsRow_belowS (unhid HO6) hb)
    clear hb HB6 JP6 JS6 HO6
    have c2 := cell_arrS (unhid JP7) 2 _ rfl
    cases q2 : versOk version.data.toList with
    | false =>
      go_wp2_with fail
      go_ret
      exact ⟨by rw [unhid EQ, q1, q2]; rfl, unhid HB7⟩
    | true =>
    go_wp2_with fail
    clear c2
    refine (listOkNeed_any needs _ _ (unhid SD) ((unhid H2).below (unhid HB7))).mono ?_
    rintro x w3 ⟨rfl, hb⟩
    have HB8 := hid ((unhid HB7).trans (hb.mono (unhid HB7).size))
    have JP8 := hid ((hb.block _ (unhid JS7)).trans (unhid JP7))
    have JS8 := hid (Nat.lt_of_lt_of_le (unhid JS7) hb.size)
    have HO8 := hid (ownsRow_belowS (unhid HO7) hb)
    clear hb HB7 JP7 JS7 HO7
    cases q3 : (needs.all needOkD && decide (needs.length ≤ 6)) with
    | false =>
      go_wp2_with fail
      go_ret
      exact ⟨by rw [unhid EQ, q1, q2, q3]; rfl, unhid HB8⟩
    | true =>
    have hnl : needs.length ≤ 6 := by
      rw [Bool.and_eq_true] at q3
      exact of_decide_eq_true q3.2
    have hnn : nm.length ≤ 4294967296 := by rw [unhid HNL]; omega
    have HT := hid (anyTwice_any nm _ W0.heap.size w3 hnn (unhid HO8))
    have hlo := hid (show ∀ j, (Value.slice va nm.length vc).ownBlock = some j → W0.heap.size ≤ j from fun j ej => ((unhid HO8).lt j ej).1)
    clear hnl hnn HO8
    go_wp2_with fail
    refine (unhid HT).mono ?_
    rintro x w4 ⟨rfl, hg⟩
    have HB9 := hid (grown_belowN (unhid HB8) hg (fun j ej => Nat.le_trans (unhid HN5) (unhid hlo j ej)))
    have JP9 := hid ((hg.block _ (unhid JS8) (fun e => by have h1 := unhid hlo _ e.symm; have h2 := unhid HLT; omega)).trans (unhid JP8))
    clear hg HT hlo HB8 JP8 JS8 HN5
    rw [unhid HNM]
    have c3 := cell_arrS (unhid JP9) 3 _ rfl
    cases q4 : twiceB (name :: namesN needs) with
    | true =>
      go_wp2_with fail
      go_ret
      exact ⟨by rw [unhid EQ, q1, q2, q3, q4]; rfl, unhid HB9⟩
    | false =>
    go_wp2_with fail
    clear c3
    refine (treeOkP_any (entsD tree) ta tc _ (unhid ST) ((unhid H3).below (unhid HB9))).mono ?_
    rintro x w5 ⟨rfl, hb⟩
    have HBa := hid ((unhid HB9).trans (hb.mono (unhid HB9).size))
    clear hb HB9
    go_wp2_with fail
    go_ret
    exact ⟨by rw [unhid EQ, q1, q2, q3, q4]; rfl, unhid HBa⟩
  · go_simp
    have HDb := hid ((unhid HD).alloc (unhid HD).size (.cells #[.string name] 9))
    refine hK.out _ _ (unhid HDb) ?_
    clear hK K
    have hC0 := cell_newN W1 (.string name) 9
    have hlt0 : W1.heap.size < (W1.alloc (.cells #[.string name] 9)).heap.size := by simp
    clear HD
    generalize W1.alloc (.cells #[.string name] 9) = W2 at HDb hC0 hlt0 ⊢
    generalize W1.heap.size = gx at hC0 hlt0 ⊢
    have HC0 := hid hC0
    have HLT0 := hid hlt0
    clear hC0 hlt0
    refine held_op 2 (by kernel_rfl) (by kernel_rfl) rfl (fun K hK => ?_)
    refine call_op 112 6 (enters_of Tryz.func112 (by kernel_rfl) rfl) #[.slice na needs.length nc, .func (.func 113) #[] #[]] rfl rfl rfl rfl ?_
    have H2b := hid (((unhid H2).below (unhid HB)).below ((unhid HDb).mono (Nat.le_refl _)))
    refine (namesOfNeed_any needs _ W2 (unhid SD).1 (unhid H2b)).mono ?_
    rintro e W3 ⟨u, rfl, hown, hb⟩
    have HD2 := hid ((unhid HDb).trans (hb.mono (unhid HDb).size))
    obtain ⟨ua, uc, hu, -, -, -⟩ := ownsRow_txts hown
    subst hu
    refine ⟨_, rfl, hK.out _ _ (unhid HD2) ?_⟩
    clear hK K
    simp only [Act.put, List.setIfInBounds_toArray, List.set_cons_zero, List.set_cons_succ]
    have HO := hid (ownsRow_lowerS hown (unhid HDb).size)
    have HC := hid ((hb.cell (p := ⟨gx, 0, none⟩) (unhid HLT0)).trans (unhid HC0))
    clear hown hb HDb HC0 HLT0
    -- the names are one row
    refine held_name 6 10 W0.heap.size (.slice ua (namesN needs).length uc) (namesN needs) name gx (by kernel_rfl) (by kernel_rfl) rfl rfl rfl rfl rfl rfl (unhid HO) (unhid HC) (by have := (unhid SD).1; rw [namesN_len]; omega) (unhid HD2).size ?_
    intro v' W5 hown hg
    have hD5 : Below W0.heap.size W0 W5 := grown_belowN (unhid HD2) hg (fun j ej => ((unhid HO).lt j ej).1)
    refine ⟨hD5, ?_⟩
    simp only [Act.put, List.setIfInBounds_toArray, List.set_cons_zero, List.set_cons_succ]
    have HO5 := hid hown
    have HD5 := hid hD5
    clear hown hg HO HC HD2 hD5
    have hba : ∀ {q : Prop}, (CW (fun w' => Below W0.heap.size W0 w') → q) ↔ q := CW.all (Below.refl _ W0)
    refine held_here [false, false, false, false, false, false, false, true] (by kernel_rfl) (by kernel_rfl) (fun _ _ _ _ _ h => h) (unhid HD5) ?_
    dsimp only [pick]
    repeat (go_big_quiet_step (fail))
    refine wpQuiet_nil ?_
    refine held_done (by kernel_rfl) ?_
    clear hba
    obtain ⟨va, vc, hv, -, -, -⟩ := ownsRow_txts (unhid HO5)
    subst hv
    have HNM := hid (twice_swap name (namesN needs))
    have HNL := hid (show (namesN needs ++ [name]).length = needs.length + 1 by rw [List.length_append, namesN_len]; rfl)
    generalize namesN needs ++ [name] = nm at *
    have HB5 := hid ((unhid HB).trans ((unhid HD5).mono (unhid HB).size))
    have JP5 := hid (((unhid HD5).block _ (unhid JS)).trans (unhid JP))
    have JS5 := hid (Nat.lt_of_lt_of_le (unhid JS) (unhid HD5).size)
    have HN5 := hid (unhid HB).size
    clear HD5 HB JP JS H2b
    have c0 := cell_arrS (unhid JP5) 0 _ rfl
    go_wp2_with fail
    clear c0
    refine (packNameOk_any name (le_maxLen (unhid SN)) _).mono ?_
    rintro x w1 ⟨rfl, hb⟩
    have HB6 := hid ((unhid HB5).trans (hb.mono (unhid HB5).size))
    have JP6 := hid ((hb.block _ (unhid JS5)).trans (unhid JP5))
    have JS6 := hid (Nat.lt_of_lt_of_le (unhid JS5) hb.size)
    have HO6 := hid (ownsRow_belowS (unhid HO5) hb)
    clear hb HB5 JP5 JS5 HO5
    have c1 := cell_arrS (unhid JP6) 1 _ rfl
    cases q1 : packB name.data.toList with
    | false =>
      go_wp2_with fail
      go_ret
      exact ⟨by rw [unhid EQ, q1]; rfl, unhid HB6⟩
    | true =>
    go_wp2_with fail
    clear c1
    refine (VersionOk_any version (le_maxLen (unhid SV)) _).mono ?_
    rintro x w2 ⟨rfl, hb⟩
    have HB7 := hid ((unhid HB6).trans (hb.mono (unhid HB6).size))
    have JP7 := hid ((hb.block _ (unhid JS6)).trans (unhid JP6))
    have JS7 := hid (Nat.lt_of_lt_of_le (unhid JS6) hb.size)
    have HO7 := hid (ownsRow_belowS (unhid HO6) hb)
    clear hb HB6 JP6 JS6 HO6
    have c2 := cell_arrS (unhid JP7) 2 _ rfl
    cases q2 : versOk version.data.toList with
    | false =>
      go_wp2_with fail
      go_ret
      exact ⟨by rw [unhid EQ, q1, q2]; rfl, unhid HB7⟩
    | true =>
    go_wp2_with fail
    clear c2
    refine (listOkNeed_any needs _ _ (unhid SD) ((unhid H2).below (unhid HB7))).mono ?_
    rintro x w3 ⟨rfl, hb⟩
    have HB8 := hid ((unhid HB7).trans (hb.mono (unhid HB7).size))
    have JP8 := hid ((hb.block _ (unhid JS7)).trans (unhid JP7))
    have JS8 := hid (Nat.lt_of_lt_of_le (unhid JS7) hb.size)
    have HO8 := hid (ownsRow_belowS (unhid HO7) hb)
    clear hb HB7 JP7 JS7 HO7
    cases q3 : (needs.all needOkD && decide (needs.length ≤ 6)) with
    | false =>
      go_wp2_with fail
      go_ret
      exact ⟨by rw [unhid EQ, q1, q2, q3]; rfl, unhid HB8⟩
    | true =>
    have hnl : needs.length ≤ 6 := by
      rw [Bool.and_eq_true] at q3
      exact of_decide_eq_true q3.2
    have hnn : nm.length ≤ 4294967296 := by rw [unhid HNL]; omega
    have HT := hid (anyTwice_any nm _ W0.heap.size w3 hnn (unhid HO8))
    have hlo := hid (show ∀ j, (Value.slice va nm.length vc).ownBlock = some j → W0.heap.size ≤ j from fun j ej => ((unhid HO8).lt j ej).1)
    clear hnl hnn HO8
    go_wp2_with fail
    refine (unhid HT).mono ?_
    rintro x w4 ⟨rfl, hg⟩
    have HB9 := hid (grown_belowN (unhid HB8) hg (fun j ej => Nat.le_trans (unhid HN5) (unhid hlo j ej)))
    have JP9 := hid ((hg.block _ (unhid JS8) (fun e => by have h1 := unhid hlo _ e.symm; have h2 := unhid HLT; omega)).trans (unhid JP8))
    clear hg HT hlo HB8 JP8 JS8 HN5
    rw [unhid HNM]
    have c3 := cell_arrS (unhid JP9) 3 _ rfl
    cases q4 : twiceB (name :: namesN needs) with
    | true =>
      go_wp2_with fail
      go_ret
      exact ⟨by rw [unhid EQ, q1, q2, q3, q4]; rfl, unhid HB9⟩
    | false =>
    go_wp2_with fail
    clear c3
    refine (treeOkP_any (entsD tree) ta tc _ (unhid ST) ((unhid H3).below (unhid HB9))).mono ?_
    rintro x w5 ⟨rfl, hb⟩
    have HBa := hid ((unhid HB9).trans (hb.mono (unhid HB9).size))
    clear hb HB9
    go_wp2_with fail
    go_ret
    exact ⟨by rw [unhid EQ, q1, q2, q3, q4]; rfl, unhid HBa⟩
end Go.Proofs.YtoihhlkidlapmaaGreat

namespace Go.Proofs.YtoihhlkidlapmaaGreat
open Go.RowKit Go.Shelf
theorem held_skip {P : Program} {md : Region.Mode} {ops : Array Oper} {Q : Exit → Act → World → Prop} {C : World → Prop} {F : Nat} {listed : Array Bool} {a : Act} {w : World} {o : Oper} (k d : Nat) (hr : Region.ready md ops listed = [k]) (hF : decide (0 < F) = true) (ho : ops[k]? = some o) (hw : Region.wanted o (yielded ops a.tmps) = false) (hd : o.dst = some d) (hC : C w)
    (h : wpAnyH P md ops Q (fun w' => ∃ x : CW C, w' = x.w) (F - 1) (listed.setIfInBounds k true) (a.put (some d) undef) w) : wpAnyH P md ops Q (fun w' => ∃ x : CW C, w' = x.w) F listed a w := by
  refine held_op k hr hF ho (fun K hK => ?_)
  rw [if_neg (by rw [hw]; exact Bool.false_ne_true)]
  refine hK.out _ _ hC ?_
  rw [hd]
  exact h
def smallPs (ps : List packC.D) : Prop := ps.length ≤ 1048576 ∧ ∀ p ∈ ps, smallP p
def namesP (ps : List packC.D) : List ByteArray := List.map (α := packC.D) (fun p => PackD.name p) ps
theorem namesP_len (ps : List packC.D) : (namesP ps).length = ps.length := by unfold namesP; exact List.length_map _
theorem namesP_get {ps : List packC.D} {k : Nat} {p : packC.D} (h : ps[k]? = some p) : (namesP ps)[k]? = some (PackD.name p) := by unfold namesP; rw [List.getElem?_map, h]; rfl
theorem namesP_some {ps : List packC.D} {k : Nat} {x : ByteArray} (h : (namesP ps)[k]? = some x) : ∃ p : packC.D, ps[k]? = some p ∧ PackD.name p = x := by
  unfold namesP at h
  rw [List.getElem?_map] at h
  cases hd : ps[k]? with
  | none => rw [hd] at h; cases h
  | some p => rw [hd] at h; exact ⟨p, rfl, by simpa using h⟩
theorem pack_cells {W w : World} {b o : Nat} {ps : List packC.D} {k : Nat} {e : packC.D} (hB : Below w.heap.size w W) (hbl : b < w.heap.size) (hc : ∀ (i : Nat) d, ps[i]? = some d → ∃ cs, packC.at_ w cs d ∧ ∀ j c, cs[j]? = some c → w.cell? ⟨b, o + i * packC.n + j, none⟩ = some c) (he : ps[k]? = some e) :
    ∃ (na : Option Addr) (nc : Nat) (ta : Option Addr) (tc : Nat), (W.cell? ⟨b, o + k * 4, none⟩ = some (.string (PackD.name e)) ∧ W.cell? ⟨b, o + k * 4 + 1, none⟩ = some (.string (PackD.version e)) ∧ W.cell? ⟨b, o + k * 4 + 2, none⟩ = some (.slice na (PackD.needs e).length nc) ∧ W.cell? ⟨b, o + k * 4 + 3, none⟩ = some (.slice ta (PackD.tree e).length tc)) ∧
      packC.at_ W [.string (PackD.name e), .string (PackD.version e), .slice na (PackD.needs e).length nc, .slice ta (PackD.tree e).length tc] e := by
  obtain ⟨cs, hat, hcell⟩ := hc k e he
  have hat2 := packC.below hat hB
  obtain ⟨v2, v3, rfl, h2, h3⟩ := packC_at hat
  obtain ⟨na, nc, rfl, -⟩ := rowAt.slice h2
  obtain ⟨ta, tc, rfl, -⟩ := rowAt.slice h3
  exact ⟨na, nc, ta, tc, ⟨(hB.cell (p := ⟨b, o + k * 4 + 0, none⟩) hbl).trans (hcell 0 _ rfl), (hB.cell (p := ⟨b, o + k * 4 + 1, none⟩) hbl).trans (hcell 1 _ rfl), (hB.cell (p := ⟨b, o + k * 4 + 2, none⟩) hbl).trans (hcell 2 _ rfl), (hB.cell (p := ⟨b, o + k * 4 + 3, none⟩) hbl).trans (hcell 3 _ rfl)⟩, hat2⟩
theorem le_not_lt (x y : ByteArray) : (Op.bytesLess x.toList y.toList || x.toList == y.toList) = !ltS y x := by
  cases h : ltS y x with
  | true =>
    have h1 : Op.bytesLess x.toList y.toList = false := by
      cases h2 : Op.bytesLess x.toList y.toList with
      | false => rfl
      | true => have := lt_tra _ _ _ h2 h; rw [lt_irr] at this; cases this
    have h2 : (x.toList == y.toList) = false := by
      rw [beq_eq_false_iff_ne]
      intro e
      unfold ltS at h
      rw [e, lt_irr] at h; cases h
    rw [h1, h2]; rfl
  | false =>
    cases h2 : Op.bytesLess x.toList y.toList with
    | true => rfl
    | false =>
      have := lt_tot _ _ h2 h
      rw [this]; simp
def okAt (ps : List packC.D) (i : Nat) : Bool := match ps[i]? with
  | none => true
  | some p => pkOk p && (i == 0 || match ps[i - 1]? with
    | none => true
    | some q => ltS (PackD.name q) (PackD.name p))
def formB (ps : List packC.D) : Bool := (List.range ps.length).all (okAt ps)
theorem okAt_0 {ps : List packC.D} {p : packC.D} (h : ps[0]? = some p) : okAt ps 0 = pkOk p := by unfold okAt; rw [h]; simp
theorem okAt_s {ps : List packC.D} {i : Nat} {p q : packC.D} (h : ps[i + 1]? = some p) (hq : ps[i]? = some q) : okAt ps (i + 1) = (pkOk p && ltS (PackD.name q) (PackD.name p)) := by unfold okAt; rw [h]; simp [hq]
theorem form_ok {ps : List packC.D} (h : formB ps = true) {i : Nat} {p : packC.D} (hp : ps[i]? = some p) : pkOk p = true := by
  unfold formB at h
  rw [List.all_eq_true] at h
  have := h i (List.mem_range.2 (List.getElem?_eq_some_iff.1 hp).1)
  unfold okAt at this
  rw [hp] at this
  simp only [Bool.and_eq_true] at this
  exact this.1
theorem form_next {ps : List packC.D} (h : formB ps = true) {i : Nat} {p q : packC.D} (hp : ps[i + 1]? = some p) (hq : ps[i]? = some q) : ltS (PackD.name q) (PackD.name p) = true := by
  unfold formB at h
  rw [List.all_eq_true] at h
  have := h (i + 1) (List.mem_range.2 (List.getElem?_eq_some_iff.1 hp).1)
  rw [okAt_s hp hq] at this
  simp only [Bool.and_eq_true] at this
  exact this.2
theorem form_asc {ps : List packC.D} (h : formB ps = true) : Asc (namesP ps) := by
  intro i j x y hij hx hy
  obtain ⟨p, hp, rfl⟩ := namesP_some hx
  obtain ⟨q, hq, rfl⟩ := namesP_some hy
  induction j generalizing q with
  | zero => omega
  | succ j ih =>
    have hjl : j < ps.length := by have := (List.getElem?_eq_some_iff.1 hq).1; omega
    obtain ⟨m, hm⟩ : ∃ m, ps[j]? = some m := ⟨ps[j], List.getElem?_eq_getElem hjl⟩
    have h1 := form_next h hq hm
    rcases Nat.lt_or_ge i j with hlt | hge
    · exact lt_tra _ _ _ (ih hlt m hm (namesP_get hm)) h1
    · have : i = j := by omega
      subst this
      rw [hp] at hm
      cases hm
      exact h1
theorem asc_inj {xs : List ByteArray} (h : Asc xs) {i j : Nat} {x : ByteArray} (hi : xs[i]? = some x) (hj : xs[j]? = some x) : i = j := by
  rcases Nat.lt_trichotomy i j with h1 | h1 | h1
  · have := h i j x x h1 hi hj
    unfold ltS at this
    rw [lt_irr] at this; cases this
  · exact h1
  · have := h j i x x h1 hj hi
    unfold ltS at this
    rw [lt_irr] at this; cases this
set_option maxRecDepth 100000 in
set_option maxHeartbeats 4000000 in
theorem l8Pack_any (ps : List packC.D) (v : Value) (q : ByteArray) (w : World) (hs : ps.length ≤ 1048576) (h : rowAt packC w v ps) :
    Calls Tryz.prog 124 #[v, .string q] w fun x w' => (∃ r : Int, x = .returned (.int .i64 r) ∧ ((r = -1 ∧ q ∉ namesP ps) ∨ ∃ k : Nat, r = (k : Int) ∧ (namesP ps)[k]? = some q)) ∧ Below w.heap.size w w' := by
  obtain ⟨a, cap, rfl, -, -, h⟩ := h
  have H := hid h
  clear h
  go_enter Tryz.func124, Tryz.ntmps124
  go_wp2_with fail
  go_loopw [5] (fun i wr => ∃ k : Nat, k ≤ ps.length ∧ i = .int .i64 (k : Int) ∧ Hid (∀ j, j < k → (namesP ps)[j]? ≠ some q) ∧ Hid (Below w.heap.size w wr)) (fun i _ => ps.length - (intOf i).toNat)
  case atStart => exact ⟨0, Nat.zero_le _, rfl, hid (fun j hj => absurd hj (Nat.not_lt_zero _)), hid (Below.refl _ _)⟩
  case round =>
    obtain ⟨k, hk, rfl, HX, HB⟩ := hrel
    by_cases hlt : k < ps.length
    · obtain ⟨e, he⟩ : ∃ e, ps[k]? = some e := ⟨ps[k], List.getElem?_eq_getElem hlt⟩
      obtain ⟨b, o, rfl, hbl, hc⟩ := (unhid H).resolve_left (by intro e; subst e; simp at hlt)
      obtain ⟨na, nc, ta, tc, ⟨c0, c1, c2, c3⟩, -⟩ := pack_cells (unhid HB) hbl hc he
      have HE := hid (namesP_get he)
      have hq := txt_iff (PackD.name e) q
      clear hc he hbl c1 c2 c3
      by_cases hxy : PackD.name e = q
      · rw [decide_eq_true hxy] at hq
        have HXY := hid hxy
        clear hxy
        go_wp2_with fail
        go_ret
        exact ⟨⟨_, rfl, .inr ⟨k, rfl, by rw [unhid HE, unhid HXY]⟩⟩, unhid HB⟩
      · rw [decide_eq_false hxy] at hq
        have HXY := hid hxy
        clear hxy
        go_wp2_with fail
        go_roundw
        case rel =>
          refine ⟨k + 1, by omega, by go_num, hid (fun j hj => ?_), HB⟩
          by_cases ej : j = k
          · subst ej
            rw [unhid HE]
            exact fun e => unhid HXY (Option.some.inj e)
          · exact unhid HX j (by omega)
        case measure => simp [intOf]; omega
    · have e : k = ps.length := by omega
      subst e
      go_wp2_with fail
      go_ret
      refine ⟨⟨_, rfl, .inl ⟨rfl, fun hm => ?_⟩⟩, unhid HB⟩
      obtain ⟨j, hj⟩ := List.getElem?_of_mem hm
      exact unhid HX j (by have := (List.getElem?_eq_some_iff.1 hj).1; rwa [namesP_len] at this) hj
end Go.Proofs.YtoihhlkidlapmaaGreat

namespace Go.Proofs.YtoihhlkidlapmaaGreat
open Go.RowKit
end Go.Proofs.YtoihhlkidlapmaaGreat

namespace Go.Proofs.YtoihhlkidlapmaaGreat
open Go.RowKit
def kindB (k o : Int) : Bool := if k = 1 then o == 0 else if k = 2 then decide (0 ≤ o) else if k = 3 then decide (o < 0) else true
def fitsB (n : List UInt8) (k : Int) (v name ver : List UInt8) : Bool := needB n k v && versOk ver && (n == name) && kindB k (ordI ver v)
set_option maxRecDepth 100000 in
set_option maxHeartbeats 1000000 in
theorem same_any (g h n m c d : Nat) (xs ys : List Int) (hn : xs.length = n) (hm : ys.length = m) (bn : n ≤ 1000000) (bm : m ≤ 1000000) (w : World) (hx : Nums w g xs) (hy : Nums w h ys) :
    Calls Tryz.prog 244 #[.slice (some ⟨g, 0, none⟩) n c, .slice (some ⟨h, 0, none⟩) m d] w fun e w' => e = .returned (.bool (cmpL xs ys == 0)) ∧ w' = w := by
  have H := hid (order_any g h n m c d xs ys hn hm bn bm w hx hy)
  clear hx hy hn hm
  go_enter Tryz.func244, Tryz.ntmps244
  go_wp2_with fail
  refine (unhid H).mono ?_
  rintro e w1 ⟨rfl, rfl⟩
  go_wp2_with fail
  go_ret
  exact ⟨rfl, rfl⟩
set_option maxRecDepth 100000 in
set_option maxHeartbeats 1000000 in
theorem elder_any (g h n m c d : Nat) (xs ys : List Int) (hn : xs.length = n) (hm : ys.length = m) (bn : n ≤ 1000000) (bm : m ≤ 1000000) (w : World) (hx : Nums w g xs) (hy : Nums w h ys) :
    Calls Tryz.prog 246 #[.slice (some ⟨g, 0, none⟩) n c, .slice (some ⟨h, 0, none⟩) m d] w fun e w' => e = .returned (.bool (decide (cmpL xs ys < 0))) ∧ w' = w := by
  have H := hid (order_any g h n m c d xs ys hn hm bn bm w hx hy)
  clear hx hy hn hm
  go_enter Tryz.func246, Tryz.ntmps246
  go_wp2_with fail
  refine (unhid H).mono ?_
  rintro e w1 ⟨rfl, rfl⟩
  go_wp2_with fail
  go_ret
  exact ⟨rfl, rfl⟩
set_option maxRecDepth 100000 in
set_option maxHeartbeats 1000000 in
theorem ask2_any (b g h n m c d : Nat) (xs ys : List Int) (hn : xs.length = n) (hm : ys.length = m) (bn : n ≤ 1000000) (bm : m ≤ 1000000) (w : World) (hc : w.cell? ⟨b, 0, none⟩ = some (.slice (some ⟨h, 0, none⟩) m d)) (hx : Nums w g xs) (hy : Nums w h ys) :
    Calls Tryz.prog 243 #[.slice (some ⟨g, 0, none⟩) n c, .pointer (some ⟨b, 0, none⟩)] w fun e w' => e = .returned (.bool (kindB 1 (cmpL xs ys))) ∧ w' = w := by
  have H := hid (same_any g h n m c d xs ys hn hm bn bm w hx hy)
  clear hx hy hn hm
  go_enter Tryz.func243, Tryz.ntmps243
  go_wp2_with fail
  refine (unhid H).mono ?_
  rintro e w1 ⟨rfl, rfl⟩
  go_wp2_with fail
  go_ret
  exact ⟨rfl, rfl⟩
set_option maxRecDepth 100000 in
set_option maxHeartbeats 1000000 in
theorem ask3_any (b g h n m c d : Nat) (xs ys : List Int) (hn : xs.length = n) (hm : ys.length = m) (bn : n ≤ 1000000) (bm : m ≤ 1000000) (w : World) (hc : w.cell? ⟨b, 0, none⟩ = some (.slice (some ⟨h, 0, none⟩) m d)) (hx : Nums w g xs) (hy : Nums w h ys) :
    Calls Tryz.prog 245 #[.slice (some ⟨g, 0, none⟩) n c, .pointer (some ⟨b, 0, none⟩)] w fun e w' => e = .returned (.bool (kindB 2 (cmpL xs ys))) ∧ w' = w := by
  have H := hid (elder_any g h n m c d xs ys hn hm bn bm w hx hy)
  have E := hid (show kindB 2 (cmpL xs ys) = !decide (cmpL xs ys < 0) by rw [← decide_not]; exact decide_eq_decide.2 (by omega))
  clear hx hy hn hm
  go_enter Tryz.func245, Tryz.ntmps245
  go_wp2_with fail
  refine (unhid H).mono ?_
  rintro e w1 ⟨rfl, rfl⟩
  go_wp2_with fail
  go_ret
  exact ⟨by rw [unhid E]; first | rfl | simp, rfl⟩
set_option maxRecDepth 100000 in
set_option maxHeartbeats 1000000 in
theorem ask4_any (b g h n m c d : Nat) (xs ys : List Int) (hn : xs.length = n) (hm : ys.length = m) (bn : n ≤ 1000000) (bm : m ≤ 1000000) (w : World) (hc : w.cell? ⟨b, 0, none⟩ = some (.slice (some ⟨h, 0, none⟩) m d)) (hx : Nums w g xs) (hy : Nums w h ys) :
    Calls Tryz.prog 247 #[.slice (some ⟨g, 0, none⟩) n c, .pointer (some ⟨b, 0, none⟩)] w fun e w' => e = .returned (.bool (kindB 3 (cmpL xs ys))) ∧ w' = w := by
  have H := hid (elder_any g h n m c d xs ys hn hm bn bm w hx hy)
  clear hx hy hn hm
  go_enter Tryz.func247, Tryz.ntmps247
  go_wp2_with fail
  refine (unhid H).mono ?_
  rintro e w1 ⟨rfl, rfl⟩
  go_wp2_with fail
  go_ret
  exact ⟨rfl, rfl⟩
set_option maxRecDepth 100000 in
set_option maxHeartbeats 1000000 in
theorem ask1_any (v : Value) (w : World) :
    Calls Tryz.prog 242 #[v] w fun e w' => e = .returned (.bool true) ∧ w' = w := by
  go_enter Tryz.func242, Tryz.ntmps242
  go_wp2_with fail
  go_ret
  exact ⟨rfl, rfl⟩
set_option maxRecDepth 100000 in
set_option maxHeartbeats 2000000 in
theorem l3Fits_any (n v name ver : ByteArray) (k : Int) (hv : v.size ≤ 1048576) (hr : ver.size ≤ 1048576) (w : World) :
    Calls Tryz.prog 126 #[.agg #[.string n, .int .i64 k, .string v], .string name, .string ver] w fun e W' => e = .returned (.bool ((n.data.toList == name.data.toList) && kindB k (ordI ver.data.toList v.data.toList))) ∧ Below w.heap.size w W' := by
  have HB0 := hid (show Below w.heap.size w (w.alloc (.cells #[.string n, .int .i64 k, .string v] 36)) from (Below.refl _ w).alloc (Nat.le_refl _) _)
  have fcell : ∀ w1 : World, Below (w.alloc (.cells #[.string n, .int .i64 k, .string v] 36)).heap.size (w.alloc (.cells #[.string n, .int .i64 k, .string v] 36)) w1 → w1.cell? ⟨w.heap.size, 1, none⟩ = some (.int .i64 k) := fun w1 hb =>
    (hb.cell (p := ⟨w.heap.size, 1, none⟩) (by simp)).trans (by simp [go_sem])
  have Hf := hid fcell
  clear fcell
  cases hne : (n.toList == name.toList)
  · have E := hid (show ((n.data.toList == name.data.toList) && kindB k (ordI ver.data.toList v.data.toList)) = false by rw [← Lib.toList_data, ← Lib.toList_data, hne]; rfl)
    go_enter Tryz.func126, Tryz.ntmps126
    go_wp2_with fail
    go_ret
    exact ⟨by rw [unhid E]; rfl, unhid HB0⟩
  · have E : ((n.data.toList == name.data.toList) && kindB k (ordI ver.data.toList v.data.toList)) = kindB k (ordI ver.data.toList v.data.toList) := by rw [← Lib.toList_data, ← Lib.toList_data, hne]; rfl
    rw [E]
    clear E
    have C := specVersionOrder_any ver v hr hv
    generalize ordI ver.data.toList v.data.toList = o at C ⊢
    have C' := hid C
    clear C
    go_enter Tryz.func126, Tryz.ntmps126
    go_wp2_with fail
    refine (unhid C' _).mono ?_
    rintro e w1 ⟨rfl, hb⟩
    have f1 := unhid Hf w1 hb
    have HB1 := hid ((unhid HB0).trans (hb.mono (unhid HB0).size))
    clear hb Hf C'
    by_cases k1 : k = 1
    · subst k1
      go_wp2_with fail
      go_ret
      exact ⟨rfl, unhid HB1⟩
    · by_cases k2 : k = 2
      · subst k2
        go_wp2_with fail
        go_ret
        exact ⟨by simp [kindB], unhid HB1⟩
      · by_cases k3 : k = 3
        · subst k3
          go_wp2_with fail
          go_ret
          exact ⟨rfl, unhid HB1⟩
        · have E := hid (show kindB k o = true by simp [kindB, k1, k2, k3])
          have h1 : (k == 1) = false := by rw [beq_eq_false_iff_ne]; exact k1
          have h2 : (k == 2) = false := by rw [beq_eq_false_iff_ne]; exact k2
          have h3 : (k == 3) = false := by rw [beq_eq_false_iff_ne]; exact k3
          go_wp2_with fail
          go_ret
          exact ⟨by rw [unhid E]; rfl, unhid HB1⟩
theorem fitsB_0 {n v name ver : List UInt8} (h1 : needB n 0 v = true) (h2 : versOk ver = true) (h3 : (n == name) = true) : fitsB n 0 v name ver = true := by simp [fitsB, h1, h2, h3, kindB]
theorem fitsB_k {n v name ver : List UInt8} {k : Int} (h1 : needB n k v = true) (h2 : versOk ver = true) (h4 : versOk v = true) (h3 : (n == name) = true) : fitsB n k v name ver = kindB k (cmpL (versL ver) (versL v)) := by simp [fitsB, h1, h2, h3, ordI, h4]
set_option maxRecDepth 100000 in
set_option maxHeartbeats 4000000 in
theorem NeedFits_any (n v name ver : ByteArray) (k : Int) (hn : n.size ≤ maxLen) (hv : v.size ≤ maxLen) (hr : ver.size ≤ maxLen) (w : World) :
    Calls Tryz.prog 248 #[.agg #[.string n, .int .i64 k, .string v], .string name, .string ver] w fun e W' => e = .returned (.bool (fitsB n.data.toList k v.data.toList name.data.toList ver.data.toList)) ∧ Below w.heap.size w W' := by
  have HB0 := hid (show Below w.heap.size w (w.alloc (.cells #[.string n, .int .i64 k, .string v] 36)) from (Below.refl _ w).alloc (Nat.le_refl _) _)
  have fcell : ∀ w1 : World, Below (w.alloc (.cells #[.string n, .int .i64 k, .string v] 36)).heap.size (w.alloc (.cells #[.string n, .int .i64 k, .string v] 36)) w1 → w1.cell? ⟨w.heap.size, 0, none⟩ = some (.string n) ∧ w1.cell? ⟨w.heap.size, 1, none⟩ = some (.int .i64 k) ∧ w1.cell? ⟨w.heap.size, 2, none⟩ = some (.string v) := fun w1 hb =>
    ⟨(hb.cell (p := ⟨w.heap.size, 0, none⟩) (by simp)).trans (by simp [go_sem]), (hb.cell (p := ⟨w.heap.size, 1, none⟩) (by simp)).trans (by simp [go_sem]), (hb.cell (p := ⟨w.heap.size, 2, none⟩) (by simp)).trans (by simp [go_sem])⟩
  have Hf := hid fcell
  clear fcell
  go_enter Tryz.func248, Tryz.ntmps248
  go_wp2_with fail
  refine (versionOf_any ver hr _).mono ?_
  rintro e w1 ⟨va, rfl, oa, -, b1⟩
  have OA := hid oa
  have B1 := hid b1
  obtain ⟨f1, f2, f3⟩ := unhid Hf w1 b1
  clear oa b1
  go_wp2_with fail
  refine (askOf_any n v k hv _).mono ?_
  rintro e w2 ⟨fv, rfl, hfv, b2⟩
  have FV := hid hfv
  have B2 := hid b2
  have B12 := hid ((unhid B1).trans (b2.mono (unhid B1).size))
  obtain ⟨g1, g2, g3⟩ := unhid Hf w2 (unhid B12)
  clear hfv b2 f1 f2 f3
  cases hy : versOk ver.data.toList
  · have E := hid (show fitsB n.data.toList k v.data.toList name.data.toList ver.data.toList = false by simp [fitsB, hy])
    go_wp2_with fail
    go_ret
    exact ⟨by rw [unhid E]; rfl, (unhid HB0).trans ((unhid B12).mono (unhid HB0).size)⟩
  · cases ha : askB k v.data.toList
    · have E := hid (show fitsB n.data.toList k v.data.toList name.data.toList ver.data.toList = false by simp [fitsB, needB, ha])
      go_wp2_with fail
      go_ret
      exact ⟨by rw [unhid E]; rfl, (unhid HB0).trans ((unhid B12).mono (unhid HB0).size)⟩
    · go_wp2_with fail
      refine (packNameOk_any n hn _).mono ?_
      rintro e w3 ⟨rfl, hb⟩
      have B3 := hid hb
      have B123 := hid ((unhid B12).trans (hb.mono (unhid B12).size))
      clear hb g1 g2 g3
      obtain ⟨g1, g2, g3⟩ := unhid Hf w3 (unhid B123)
      cases hp : packB n.data.toList
      · have E := hid (show fitsB n.data.toList k v.data.toList name.data.toList ver.data.toList = false by simp [fitsB, needB, hp])
        go_wp2_with fail
        go_ret
        exact ⟨by rw [unhid E]; rfl, (unhid HB0).trans ((unhid B123).mono (unhid HB0).size)⟩
      · have hN : needB n.data.toList k v.data.toList = true := by simp [needB, hp, ha]
        cases hne : (name.toList == n.toList)
        · have hne' : (n.data.toList == name.data.toList) = false := by rw [← Lib.toList_data, ← Lib.toList_data]; rw [beq_eq_false_iff_ne] at hne ⊢; exact hne.symm
          have E := hid (show fitsB n.data.toList k v.data.toList name.data.toList ver.data.toList = false by simp only [fitsB, hne', Bool.and_false, Bool.false_and])
          clear hne'
          go_wp2_with fail
          go_ret
          exact ⟨by rw [unhid E]; rfl, (unhid HB0).trans ((unhid B123).mono (unhid HB0).size)⟩
        · have hne' : (n.data.toList == name.data.toList) = true := by rw [← Lib.toList_data, ← Lib.toList_data]; rw [beq_iff_eq] at hne ⊢; exact hne.symm
          have HN := hid hN
          have HNE := hid hne'
          clear hN hne'
          rcases unhid FV ha with ⟨rfl, rfl⟩ | ⟨id, b, vv, hk, rfl, hb1, hb2, hc, hV⟩
          · have E := hid (fitsB_0 (unhid HN) hy (unhid HNE))
            go_wp2_with fail
            refine (ask1_any _ _).mono ?_
            rintro e w4 ⟨rfl, rfl⟩
            go_wp2_with fail
            go_ret
            exact ⟨by rw [unhid E]; rfl, (unhid HB0).trans ((unhid B123).mono (unhid HB0).size)⟩
          · have hva : versOk v.data.toList = true := by rcases hk with ⟨rfl, -⟩ | ⟨rfl, -⟩ | ⟨rfl, -⟩ <;> simpa [askB] using ha
            have E := hid (fitsB_k (unhid HN) hy hva (unhid HNE))
            have la := versL_len _ hy
            have lb := versL_len _ hva
            obtain ⟨g, c, rfl, _, hgl, ng⟩ := ((vers_of (versL_ne _) (unhid OA hy)).below (unhid B2)).below (unhid B3)
            obtain ⟨h, d, rfl, _, _, nh⟩ := hV.below (unhid B3)
            have hc3 : w3.cell? ⟨b, 0, none⟩ = some (.slice (some ⟨h, 0, none⟩) (versL v.data.toList).length d) := ((unhid B3).cell (p := ⟨b, 0, none⟩) hb2).trans hc
            have NG := hid ng
            have NH := hid nh
            have HC := hid hc3
            clear ng nh OA FV hc3 hc hV
            generalize hx : versL ver.data.toList = xs at *
            generalize hy : versL v.data.toList = ys at *
            clear hx hy
            rcases hk with ⟨rfl, rfl⟩ | ⟨rfl, rfl⟩ | ⟨rfl, rfl⟩
            · go_wp2_with fail
              refine (ask2_any b g h _ _ c d xs ys rfl rfl (by omega) (by omega) _ (unhid HC) (unhid NG) (unhid NH)).mono ?_
              rintro e w4 ⟨rfl, rfl⟩
              go_wp2_with fail
              go_ret
              exact ⟨by rw [unhid E]; rfl, (unhid HB0).trans ((unhid B123).mono (unhid HB0).size)⟩
            · go_wp2_with fail
              refine (ask3_any b g h _ _ c d xs ys rfl rfl (by omega) (by omega) _ (unhid HC) (unhid NG) (unhid NH)).mono ?_
              rintro e w4 ⟨rfl, rfl⟩
              go_wp2_with fail
              go_ret
              exact ⟨by rw [unhid E]; rfl, (unhid HB0).trans ((unhid B123).mono (unhid HB0).size)⟩
            · go_wp2_with fail
              refine (ask4_any b g h _ _ c d xs ys rfl rfl (by omega) (by omega) _ (unhid HC) (unhid NG) (unhid NH)).mono ?_
              rintro e w4 ⟨rfl, rfl⟩
              go_wp2_with fail
              go_ret
              exact ⟨by rw [unhid E]; rfl, (unhid HB0).trans ((unhid B123).mono (unhid HB0).size)⟩
end Go.Proofs.YtoihhlkidlapmaaGreat

namespace Go.Proofs.YtoihhlkidlapmaaGreat
open Go.RowKit Go.Shelf
def fitOne (n : needC.D) (q : packC.D) : Bool := decide (PackD.name q = NeedD.name n) && kindB (NeedD.kind n) (ordI (PackD.version q).data.toList (NeedD.version n).data.toList)
def hasNeed (ps : List packC.D) (n : needC.D) : Bool := List.any (α := packC.D) ps (fitOne n)
def needsOf (p : packC.D) : List needC.D := PackD.needs p
def needsB (ps : List packC.D) : Bool := List.all (α := packC.D) ps fun p => (needsOf p).all (hasNeed ps)
theorem has_none {ps : List packC.D} {n : needC.D} (h : NeedD.name n ∉ namesP ps) : hasNeed ps n = false := by
  unfold hasNeed
  rw [List.any_eq_false]
  intro q hq
  obtain ⟨i, hi⟩ := List.getElem?_of_mem hq
  have : PackD.name q ≠ NeedD.name n := fun e => h (by rw [← e]; exact List.mem_of_getElem? (namesP_get hi))
  unfold fitOne
  rw [decide_eq_false this]
  simp
theorem has_at {ps : List packC.D} {n : needC.D} {i : Nat} {q : packC.D} (ha : Asc (namesP ps)) (hq : ps[i]? = some q) (hn : PackD.name q = NeedD.name n) : hasNeed ps n = kindB (NeedD.kind n) (ordI (PackD.version q).data.toList (NeedD.version n).data.toList) := by
  cases hk : kindB (NeedD.kind n) (ordI (PackD.version q).data.toList (NeedD.version n).data.toList) with
  | true =>
    unfold hasNeed
    rw [List.any_eq_true]
    exact ⟨q, List.mem_of_getElem? hq, by unfold fitOne; rw [decide_eq_true hn, hk]; rfl⟩
  | false =>
    unfold hasNeed
    rw [List.any_eq_false]
    intro p hp
    obtain ⟨j, hj⟩ := List.getElem?_of_mem hp
    unfold fitOne
    by_cases hpn : PackD.name p = NeedD.name n
    · have e : i = j := asc_inj ha (namesP_get hq) (by rw [namesP_get hj, hpn, hn])
      subst e
      rw [hq] at hj
      cases hj
      rw [hk]; simp
    · rw [decide_eq_false hpn]; simp
theorem need_in {W : World} {e : packC.D} {na ta : Option Addr} {nc tc : Nat} (h : packC.at_ W [.string (PackD.name e), .string (PackD.version e), .slice na (PackD.needs e).length nc, .slice ta (PackD.tree e).length tc] e) {j : Nat} {n : needC.D} (hn : (needsOf e)[j]? = some n) :
    ∃ b o, na = some ⟨b, o, none⟩ ∧ b < W.heap.size ∧ (W.cell? ⟨b, o + j * 3, none⟩ = some (.string (NeedD.name n)) ∧ W.cell? ⟨b, o + j * 3 + 1, none⟩ = some (.int .i64 (NeedD.kind n)) ∧ W.cell? ⟨b, o + j * 3 + 2, none⟩ = some (.string (NeedD.version n))) := by
  obtain ⟨v2, v3, e1, h2, h3⟩ := packC_at h
  injection e1 with _ e1
  injection e1 with _ e1
  injection e1 with e2 _
  subst e2
  obtain ⟨a, cap, ev, -, -, hr⟩ := h2
  injection ev with ea _ _
  subst ea
  rcases hr with hr | ⟨b, o, ha, hl, hc⟩
  · have : needsOf e = [] := hr
    rw [this] at hn; cases hn
  · exact ⟨b, o, ha, hl, need_cells (Below.refl _ W) hl hc hn⟩
set_option maxRecDepth 100000 in
set_option maxHeartbeats 8000000 in
theorem l9Needs_any (ps : List packC.D) (v : Value) (w : World) (hs : smallPs ps) (hf : formB ps = true) (h : rowAt packC w v ps) :
    Calls Tryz.prog 137 #[v] w fun x w' => x = .returned (.bool (needsB ps)) ∧ Below w.heap.size w w' := by
  have HR := hid h
  obtain ⟨a, cap, rfl, -, -, h⟩ := h
  have hlen := hs.1
  have HSM := hid hs
  have HF := hid hf
  have H := hid h
  clear h hs hf
  go_enter Tryz.func137, Tryz.ntmps137
  go_wp2_with fail
  go_loopw [3] (fun i wr => ∃ k : Nat, k ≤ ps.length ∧ i = .int .i64 (k : Int) ∧ Hid ((ps.take k).all (fun p => (needsOf p).all (hasNeed ps)) = true) ∧ Hid (Below w.heap.size w wr)) (fun i _ => ps.length - (intOf i).toNat)
  case atStart => exact ⟨0, Nat.zero_le _, rfl, hid (by simp), hid (Below.refl _ _)⟩
  case round =>
    obtain ⟨k, hk, rfl, HA, HB⟩ := hrel
    by_cases hlt : k < ps.length
    · obtain ⟨e, he⟩ : ∃ e, ps[k]? = some e := ⟨ps[k], List.getElem?_eq_getElem hlt⟩
      obtain ⟨b, o, rfl, hbl, hc⟩ := (unhid H).resolve_left (by intro e; subst e; simp at hlt)
      have HBL := hid hbl
      have HC := hid hc
      have HE := hid he
      have SP := hid ((unhid HSM).2 e (List.mem_of_getElem? he))
      have hnl : (PackD.needs e).length ≤ 1048576 := (unhid SP).needs.1
      clear hbl hc he
      go_wp2_with fail
      go_loopw [4] (fun j wq => ∃ m : Nat, m ≤ (PackD.needs e).length ∧ j = .int .i64 (m : Int) ∧ Hid (((needsOf e).take m).all (hasNeed ps) = true) ∧ Hid (Below w.heap.size w wq)) (fun j _ => (PackD.needs e).length - (intOf j).toNat)
      case atStart => exact ⟨0, Nat.zero_le _, rfl, hid (by simp), HB⟩
      case round =>
        clear HB
        obtain ⟨m, hm, rfl, HX, HB⟩ := hrel
        obtain ⟨na, nc, ta, tc, ⟨c0, c1, c2, c3⟩, hat⟩ := pack_cells (unhid HB) (unhid HBL) (unhid HC) (unhid HE)
        clear c0 c1 c3
        by_cases hlt2 : m < (PackD.needs e).length
        · obtain ⟨n, hn⟩ : ∃ n, (needsOf e)[m]? = some n := ⟨(needsOf e)[m]'hlt2, List.getElem?_eq_getElem hlt2⟩
          obtain ⟨b2, o2, rfl, hbl2, n0, n1, n2⟩ := need_in hat hn
          have HNN := hid hn
          have SN := hid ((unhid SP).needs.2 n (List.mem_of_getElem? hn))
          have HB0 := hid (show ∀ x, Below w.heap.size w (wr.alloc x) from fun x => (unhid HB).alloc (unhid HB).size x)
          have HB1 := hid (show ∀ x, Below wr.heap.size wr (wr.alloc x) from fun x => (Below.refl _ wr).alloc (Nat.le_refl _) x)
          clear hn hat hbl2
          go_wp2_with fail
          have hbox := World.alloc_heap_new wr (.cells #[.string (NeedD.name n), .int .i64 (NeedD.kind n), .string (NeedD.version n)] 36)
          have hB1 := unhid HB1 (.cells #[.string (NeedD.name n), .int .i64 (NeedD.kind n), .string (NeedD.version n)] 36)
          have hB0 := unhid HB0 (.cells #[.string (NeedD.name n), .int .i64 (NeedD.kind n), .string (NeedD.version n)] 36)
          have hlw : wr.heap.size < (wr.alloc (.cells #[.string (NeedD.name n), .int .i64 (NeedD.kind n), .string (NeedD.version n)] 36)).heap.size := by simp
          generalize wr.alloc (.cells #[.string (NeedD.name n), .int .i64 (NeedD.kind n), .string (NeedD.version n)] 36) = W0 at hbox hB1 hB0 hlw ⊢
          have BX := hid hbox
          have HB2 := hid hB0
          have HLW := hid hlw
          clear hbox hB0 hB1 hlw HB0 HB1 c2 n0 n1 n2
          refine (l8Pack_any ps _ (NeedD.name n) W0 hlen ((unhid HR).below (unhid HB2))).mono ?_
          rintro x W1 ⟨⟨r, rfl, hr⟩, hb⟩
          have HB3 := hid ((unhid HB2).trans (hb.mono (unhid HB2).size))
          have BX1 := hid ((hb.block _ (unhid HLW)).trans (unhid BX))
          have HLW1 := hid (Nat.lt_of_lt_of_le (unhid HLW) hb.size)
          clear hb BX HLW HB2
          have g0 : ∀ x : CW (fun w' => Below W1.heap.size W1 w'), x.w.cell? ⟨wr.heap.size, 0, none⟩ = some (.string (NeedD.name n)) := fun x => cell_arrS ((x.h.block _ (unhid HLW1)).trans (unhid BX1)) 0 _ rfl
          have g1 : ∀ x : CW (fun w' => Below W1.heap.size W1 w'), x.w.cell? ⟨wr.heap.size, 1, none⟩ = some (.int .i64 (NeedD.kind n)) := fun x => cell_arrS ((x.h.block _ (unhid HLW1)).trans (unhid BX1)) 1 _ rfl
          have g2 : ∀ x : CW (fun w' => Below W1.heap.size W1 w'), x.w.cell? ⟨wr.heap.size, 2, none⟩ = some (.string (NeedD.version n)) := fun x => cell_arrS ((x.h.block _ (unhid HLW1)).trans (unhid BX1)) 2 _ rfl
          have hba : ∀ {q : Prop}, (CW (fun w' => Below W1.heap.size W1 w') → q) ↔ q := CW.all (Below.refl _ W1)
          rcases hr with ⟨rfl, hno⟩ | ⟨i, rfl, hi⟩
          · have EH := hid (has_none hno)
            clear hno
            go_wp2_with fail
            refine held_begin (fun w' => Below W1.heap.size W1 w') (by kernel_rfl) (drew_belowS _) ?_
            refine held_here [true, true, true, true, true, true, true, true, true, true, true] (by kernel_rfl) (by kernel_rfl) (fun _ _ _ _ _ h => h) (drew_belowS _) ?_
            dsimp only [pick]
            repeat (go_big_quiet_step (fail))
            refine wpQuiet_nil ?_
            have hD := drew_belowS (B := W1.heap.size) W1
            generalize W1.drew = W2 at hD ⊢
            clear g0 g1 g2
            refine held_skip 11 46 (by kernel_rfl) (by kernel_rfl) rfl rfl rfl hD ?_
            simp only [Act.put, List.setIfInBounds_toArray, List.set_cons_zero, List.set_cons_succ]
            refine held_here [false, false, false, false, false, false, false, false, false, false, false, false, true, true] (by kernel_rfl) (by kernel_rfl) (fun _ _ _ _ _ h => h) hD ?_
            dsimp only [pick]
            repeat (go_big_quiet_step (fail))
            refine wpQuiet_nil ?_
            refine held_done (by kernel_rfl) ?_
            have HB4 := hid ((unhid HB3).trans (hD.mono (unhid HB3).size))
            clear hba hD
            go_wp2_with fail
            go_ret
            exact ⟨by unfold needsB; rw [all_no (unhid HE) (all_no (unhid HNN) (unhid EH))]; rfl, unhid HB4⟩
          · obtain ⟨q, hq, hqn⟩ := namesP_some hi
            have hil : i < ps.length := (List.getElem?_eq_some_iff.1 hq).1
            have hi0 : decide ((i : Int) < 0) = false := decide_eq_false (by omega)
            have EH := hid (has_at (form_asc (unhid HF)) hq hqn)
            have SQ := hid ((unhid HSM).2 q (List.mem_of_getElem? hq))
            obtain ⟨-, -, -, -, ⟨-, d1, -, -⟩, -⟩ := pack_cells (unhid HB3) (unhid HBL) (unhid HC) hq
            have hbw : b < W1.heap.size := Nat.lt_of_lt_of_le (unhid HBL) (unhid HB3).size
            have g3 : ∀ x : CW (fun w' => Below W1.heap.size W1 w'), x.w.cell? ⟨b, o + i * 4 + 1, none⟩ = some (.string (PackD.version q)) := fun x => (x.h.cell (p := ⟨b, o + i * 4 + 1, none⟩) hbw).trans d1
            clear hi hq hqn d1
            go_wp2_with fail
            refine held_begin (fun w' => Below W1.heap.size W1 w') (by kernel_rfl) (drew_belowS _) ?_
            refine held_here [true, true, true, true, true, true, true, true, true, true, true] (by kernel_rfl) (by kernel_rfl) (fun _ _ _ _ _ h => h) (drew_belowS _) ?_
            dsimp only [pick]
            repeat (go_big_quiet_step (fail))
            refine wpQuiet_nil ?_
            have hD := drew_belowS (B := W1.heap.size) W1
            generalize W1.drew = W2 at hD ⊢
            clear g0 g1 g2 g3
            refine held_call 11 126 46 (enters_of Tryz.func126 (by kernel_rfl) rfl) #[.agg #[.string (NeedD.name n), .int .i64 (NeedD.kind n), .string (NeedD.version n)], .string (NeedD.name n), .string (PackD.version q)] (by kernel_rfl) (by kernel_rfl) rfl rfl rfl rfl rfl ?_
            refine (l3Fits_any (NeedD.name n) (NeedD.version n) (NeedD.name n) (PackD.version q) (NeedD.kind n) (unhid SN).2 (unhid SQ).version W2).mono ?_
            rintro x W3 ⟨rfl, hb⟩
            have hD2 := hD.trans (hb.mono hD.size)
            have HB4 := hid ((unhid HB3).trans (hD2.mono (unhid HB3).size))
            refine ⟨_, rfl, hD2, ?_⟩
            simp only [Act.put, List.setIfInBounds_toArray, List.set_cons_zero, List.set_cons_succ]
            clear hb
            rw [show ((NeedD.name n).data.toList == (NeedD.name n).data.toList) = true by simp, Bool.true_and, ← unhid EH]
            cases hh : hasNeed ps n with
            | false =>
              refine held_here [false, false, false, false, false, false, false, false, false, false, false, false, true, true] (by kernel_rfl) (by kernel_rfl) (fun _ _ _ _ _ h => h) hD2 ?_
              dsimp only [pick]
              repeat (go_big_quiet_step (fail))
              refine wpQuiet_nil ?_
              refine held_done (by kernel_rfl) ?_
              clear hba hD hD2
              go_wp2_with fail
              go_ret
              exact ⟨by unfold needsB; rw [all_no (unhid HE) (all_no (unhid HNN) hh)]; rfl, unhid HB4⟩
            | true =>
              have HH := hid hh
              clear hh
              refine held_here [false, false, false, false, false, false, false, false, false, false, false, false, true, true] (by kernel_rfl) (by kernel_rfl) (fun _ _ _ _ _ h => h) hD2 ?_
              dsimp only [pick]
              repeat (go_big_quiet_step (fail))
              refine wpQuiet_nil ?_
              refine held_done (by kernel_rfl) ?_
              clear hba hD hD2
              go_wp2_with fail
              go_roundw
              case rel => exact ⟨m + 1, by omega, by go_num, hid (all_take_next (unhid HNN) (unhid HX) (unhid HH)), HB4⟩
              case measure => simp [intOf]; omega
        · have e2 : m = (PackD.needs e).length := by omega
          have HAL := hid (show (needsOf e).all (hasNeed ps) = true by
            have := unhid HX
            rwa [e2, List.take_of_length_le (by exact Nat.le_refl _)] at this)
          clear hat
          go_wp2_with fail
          go_roundw
          case rel => exact ⟨k + 1, by omega, by go_num, hid (all_take_next (p := fun p => (needsOf p).all (hasNeed ps)) (unhid HE) (unhid HA) (unhid HAL)), HB⟩
          case measure => simp [intOf]; omega
    · have e : k = ps.length := by omega
      subst e
      go_wp2_with fail
      go_ret
      refine ⟨?_, unhid HB⟩
      have := unhid HA
      rw [List.take_of_length_le (Nat.le_refl _)] at this
      unfold needsB
      rw [this]; rfl
end Go.Proofs.YtoihhlkidlapmaaGreat

namespace Go.Proofs.YtoihhlkidlapmaaGreat
open Go.RowKit Go.Shelf
def memB (q : ByteArray) (xs : List ByteArray) : Bool := xs.any fun x => decide (x = q)
theorem memB_iff {q : ByteArray} {xs : List ByteArray} : memB q xs = true ↔ q ∈ xs := by
  unfold memB
  rw [List.any_eq_true]
  constructor
  · rintro ⟨x, hx, e⟩
    rw [decide_eq_true_eq] at e
    exact e ▸ hx
  · exact fun h => ⟨q, h, decide_eq_true rfl⟩
theorem memB_yes {q : ByteArray} {xs : List ByteArray} (h : q ∈ xs) : memB q xs = true := memB_iff.2 h
theorem memB_no {q : ByteArray} {xs : List ByteArray} (h : q ∉ xs) : memB q xs = false := by
  cases e : memB q xs with
  | false => rfl
  | true => exact absurd (memB_iff.1 e) h
theorem nodup_inj {xs : List ByteArray} (h : xs.Nodup) {i j : Nat} {x : ByteArray} (hi : xs[i]? = some x) (hj : xs[j]? = some x) : i = j := by
  rw [List.nodup_iff_pairwise_ne, List.pairwise_iff_getElem] at h
  obtain ⟨hil, ei⟩ := List.getElem?_eq_some_iff.1 hi
  obtain ⟨hjl, ej⟩ := List.getElem?_eq_some_iff.1 hj
  rcases Nat.lt_trichotomy i j with h1 | h1 | h1
  · exact absurd (ei.trans ej.symm) (h i j hil hjl h1)
  · exact h1
  · exact absurd (ej.trans ei.symm) (h j i hjl hil h1)
theorem has_atN {ps : List packC.D} {n : needC.D} {i : Nat} {q : packC.D} (ha : (namesP ps).Nodup) (hq : ps[i]? = some q) (hn : PackD.name q = NeedD.name n) : hasNeed ps n = kindB (NeedD.kind n) (ordI (PackD.version q).data.toList (NeedD.version n).data.toList) := by
  cases hk : kindB (NeedD.kind n) (ordI (PackD.version q).data.toList (NeedD.version n).data.toList) with
  | true =>
    unfold hasNeed
    rw [List.any_eq_true]
    exact ⟨q, List.mem_of_getElem? hq, by unfold fitOne; rw [decide_eq_true hn, hk]; rfl⟩
  | false =>
    unfold hasNeed
    rw [List.any_eq_false]
    intro p hp
    obtain ⟨j, hj⟩ := List.getElem?_of_mem hp
    unfold fitOne
    by_cases hpn : PackD.name p = NeedD.name n
    · have e : i = j := nodup_inj ha (namesP_get hq) (by rw [namesP_get hj, hpn, hn])
      subst e
      rw [hq] at hj
      cases hj
      rw [hk]; simp
    · rw [decide_eq_false hpn]; simp
def asksOf (ps : List packC.D) (p : packC.D) : List (ByteArray × Bool) := (needsOf p).map fun n => (NeedD.name n, hasNeed ps n)
def graphP (ps : List packC.D) (x : ByteArray) : Option (List (ByteArray × Bool)) := (List.find? (α := packC.D) (fun p => decide (PackD.name p = x)) ps).map (asksOf ps)
theorem graph_at {ps : List packC.D} (hn : (namesP ps).Nodup) {k : Nat} {p : packC.D} (hp : ps[k]? = some p) : graphP ps (PackD.name p) = some (asksOf ps p) := by
  unfold graphP
  cases h : List.find? (α := packC.D) (fun q => decide (PackD.name q = PackD.name p)) ps with
  | none =>
    have := List.find?_eq_none.1 h p (List.mem_of_getElem? hp)
    simp at this
  | some q =>
    have h1 := List.find?_some h
    have h2 : PackD.name q = PackD.name p := by simpa using h1
    obtain ⟨j, hj⟩ := List.getElem?_of_mem (List.mem_of_find?_eq_some h)
    have e : j = k := nodup_inj hn (namesP_get hj) (by rw [h2]; exact namesP_get hp)
    subst e
    rw [hp] at hj
    cases hj
    rfl
theorem graph_none {ps : List packC.D} {x : ByteArray} (h : x ∉ namesP ps) : graphP ps x = none := by
  unfold graphP
  rw [List.find?_eq_none.2]
  · rfl
  · intro q hq e
    have e : PackD.name q = x := by simpa using e
    obtain ⟨i, hi⟩ := List.getElem?_of_mem hq
    exact h (by rw [← e]; exact List.mem_of_getElem? (namesP_get hi))
theorem graph_in {ps : List packC.D} {x : ByteArray} (h : graphP ps x ≠ none) : x ∈ namesP ps := by
  by_cases hx : x ∈ namesP ps
  · exact hx
  · exact absurd (graph_none hx) h
theorem good_in {ps : List packC.D} {out : List ByteArray} (h : GoodL (graphP ps) out) : ∀ x ∈ out, x ∈ namesP ps := fun x hx => by
  obtain ⟨ns, h1, _⟩ := good_mem h hx
  exact graph_in (by rw [h1]; simp)
theorem good_len {ps : List packC.D} {out : List ByteArray} (h : GoodL (graphP ps) out) : out.length ≤ ps.length := by
  have := nodup_len out (namesP ps) (good_nodup h) (good_in h)
  rwa [namesP_len] at this
theorem split_at {α : Type} {ns : List α} {m : Nat} {n : α} (h : ns[m]? = some n) : ns = ns.take m ++ n :: ns.drop (m + 1) := by
  obtain ⟨hl, e⟩ := List.getElem?_eq_some_iff.1 h
  rw [← e, ← List.drop_eq_getElem_cons hl, List.take_append_drop]
def allPk (ps : List packC.D) : Bool := List.all (α := packC.D) ps pkOk
theorem allPk_no {ps : List packC.D} {k : Nat} {p : packC.D} (h : ps[k]? = some p) (hq : pkOk p = false) : allPk ps = false := all_no (p := fun q : packC.D => pkOk q) h hq
def packsCode (ps : List packC.D) : Int := if allPk ps then (if twiceB (namesP ps) then 2 else 0) else 1
end Go.Proofs.YtoihhlkidlapmaaGreat

namespace Go.Proofs.YtoihhlkidlapmaaGreat
open Go.RowKit Go.Shelf
theorem asks_get {ps : List packC.D} {p : packC.D} {m : Nat} {n : needC.D} (h : (needsOf p)[m]? = some n) : (asksOf ps p)[m]? = some (NeedD.name n, hasNeed ps n) := by
  have e := List.getElem?_map (f := fun n : needC.D => (NeedD.name n, hasNeed ps n)) (l := needsOf p) (i := m)
  rw [h] at e
  exact e
theorem asks_len (ps : List packC.D) (p : packC.D) : (asksOf ps p).length = (PackD.needs p).length := List.length_map _
theorem has_in {ps : List packC.D} {n : needC.D} (h : hasNeed ps n = true) : NeedD.name n ∈ namesP ps := by
  by_cases hx : NeedD.name n ∈ namesP ps
  · exact hx
  · rw [has_none hx] at h; cases h
def closeR (ps : List packC.D) (xs : List ByteArray) : List ByteArray × Int := if packsCode ps = 0 then closeL (fun x o => clsF (graphP ps) (ps.length + 1) x o []) xs [] else ([], packsCode ps)
def closure_0 (ps : List packC.D) (xs : List ByteArray) : List ByteArray := (closeR ps xs).1
def closure_1 (ps : List packC.D) (xs : List ByteArray) : Int := (closeR ps xs).2
theorem packs_ok {ps : List packC.D} (h : packsCode ps = 0) : allPk ps = true ∧ (namesP ps).Nodup := by
  unfold packsCode at h
  by_cases h1 : allPk ps = true
  · rw [if_pos h1] at h
    refine ⟨h1, ?_⟩
    by_cases h2 : twiceB (namesP ps) = true
    · rw [if_pos h2] at h; cases h
    · unfold twiceB at h2; simpa using h2
  · rw [if_neg h1] at h; cases h
theorem packs_code {ps : List packC.D} (h1 : allPk ps = true) (h2 : (namesP ps).Nodup) : packsCode ps = 0 := by
  unfold packsCode twiceB
  rw [if_pos h1, if_neg (by simp [h2])]
theorem close_app {f : ByteArray → List ByteArray → List ByteArray × Int} : ∀ (as_ bs out : List ByteArray), (closeL f as_ out).2 = 0 → closeL f (as_ ++ bs) out = closeL f bs (closeL f as_ out).1
  | [], bs, out, _ => rfl
  | x :: as_, bs, out, h => by
    rw [List.cons_append, closeL]
    rw [closeL] at h
    rw [closeL]
    by_cases h2 : (f x out).2 = 0
    · rw [if_pos h2] at h ⊢
      rw [if_pos h2]
      exact close_app as_ bs _ h
    · rw [if_neg h2] at h; exact absurd h h2
theorem close_at {f : ByteArray → List ByteArray → List ByteArray × Int} {xs : List ByteArray} {k : Nat} {x : ByteArray} (hx : xs[k]? = some x) (h0 : (closeL f (xs.take k) []).2 = 0) :
    ((f x (closeL f (xs.take k) []).1).2 ≠ 0 → closeL f xs [] = ([], (f x (closeL f (xs.take k) []).1).2)) ∧ ((f x (closeL f (xs.take k) []).1).2 = 0 → closeL f (xs.take (k + 1)) [] = f x (closeL f (xs.take k) []).1) := by
  refine ⟨fun h => ?_, fun h => ?_⟩
  · have e := split_at hx
    rw [e, close_app _ _ _ h0, closeL, if_neg h, ← e]
  · rw [List.take_add_one, hx, close_app _ _ _ h0]
    show closeL f [x] _ = _
    rw [closeL, if_pos h, closeL, ← h]
end Go.Proofs.YtoihhlkidlapmaaGreat

namespace Go.Proofs.YtoihhlkidlapmaaGreat
open Go.RowKit Go.Shelf Go.Maps
set_option maxRecDepth 100000 in
set_option maxHeartbeats 4000000 in
theorem listOkPack_any (ps : List packC.D) (v : Value) (w : World) (hs : smallPs ps) (h : rowAt packC w v ps) :
    Calls Tryz.prog 59 #[v, .int .i64 (ps.length : Int), .func (.func 60) #[] #[]] w fun x w' => x = .returned (.bool (allPk ps)) ∧ Below w.heap.size w w' := by
  obtain ⟨a, cap, rfl, -, -, h⟩ := h
  have hlen := hs.1
  have HSM := hid hs
  have H := hid h
  clear h hs
  go_enter Tryz.func59, Tryz.ntmps59
  go_wp2_with fail
  go_loopw [15] (fun i wr => ∃ k : Nat, k ≤ ps.length ∧ i = .int .i64 (k : Int) ∧ Hid (allPk (ps.take k) = true) ∧ Hid (Below w.heap.size w wr)) (fun i _ => ps.length - (intOf i).toNat)
  case atStart => exact ⟨0, Nat.zero_le _, rfl, hid rfl, hid (Below.refl _ _)⟩
  case round =>
    obtain ⟨k, hk, rfl, HA, HB⟩ := hrel
    by_cases hlt : k < ps.length
    · obtain ⟨e, he⟩ : ∃ e, ps[k]? = some e := ⟨ps[k], List.getElem?_eq_getElem hlt⟩
      obtain ⟨b, o, rfl, hbl, hc⟩ := (unhid H).resolve_left (by intro e; subst e; simp at hlt)
      obtain ⟨na, nc, ta, tc, ⟨c0, c1, c2, c3⟩, hat⟩ := pack_cells (unhid HB) hbl hc he
      have HAT := hid hat
      have HS := hid ((unhid HSM).2 e (List.mem_of_getElem? he))
      have HE := hid he
      have HBA := hid (show ∀ x, Below w.heap.size w (wr.alloc x) from fun x => (unhid HB).alloc (unhid HB).size x)
      have HBR := hid (show ∀ x, Below wr.heap.size wr (wr.alloc x) from fun x => (Below.refl _ wr).alloc (Nat.le_refl _) x)
      clear hc he hbl HB hat
      go_wp2_with fail
      refine (packOk_any e _ _ (unhid HS) (packC.below (unhid HAT) (unhid HBR _))).mono ?_
      rintro x w2 ⟨rfl, hb⟩
      have HB2 := hid ((unhid HBA _).trans (hb.mono (unhid HBA _).size))
      clear hb c0 c1 c2 c3 HBA HBR
      cases hq : pkOk e with
      | false =>
        have E := hid (allPk_no (unhid HE) hq)
        go_wp2_with fail
        go_ret
        exact ⟨by rw [unhid E]; rfl, unhid HB2⟩
      | true =>
        have HQ := hid hq
        clear hq
        go_wp2_with fail
        go_roundw
        case rel => exact ⟨k + 1, by omega, by go_num, hid (all_take_next (p := fun q : packC.D => pkOk q) (unhid HE) (unhid HA) (unhid HQ)), HB2⟩
        case measure => simp [intOf]; omega
    · have e : k = ps.length := by omega
      subst e
      have E := hid (show allPk ps = true by have := unhid HA; rw [List.take_of_length_le (Nat.le_refl _)] at this; exact this)
      go_wp2_with fail
      go_ret
      exact ⟨by rw [unhid E]; rfl, unhid HB⟩
set_option maxRecDepth 100000 in
set_option maxHeartbeats 1000000 in
theorem packNames1_any (e : packC.D) (na : Option Addr) (nc : Nat) (ta : Option Addr) (tc : Nat) (w : World) :
    Calls Tryz.prog 119 #[.agg #[.string (PackD.name e), .string (PackD.version e), .slice na (PackD.needs e).length nc, .slice ta (PackD.tree e).length tc]] w fun x w' => x = .returned (.string (PackD.name e)) ∧ Below w.heap.size w w' := by
  have HB := hid (show ∀ x, Below w.heap.size w (w.alloc x) from fun x => (Below.refl _ w).alloc (Nat.le_refl _) x)
  go_enter Tryz.func119, Tryz.ntmps119
  go_wp2_with fail
  go_ret
  exact ⟨rfl, unhid HB _⟩
set_option maxRecDepth 100000 in
set_option maxHeartbeats 4000000 in
theorem packNames_any (ps : List packC.D) (v : Value) (w : World) (hl : ps.length ≤ 1048576) (h : rowAt packC w v ps) :
    Calls Tryz.prog 118 #[v, .func (.func 119) #[] #[]] w fun x w' => ∃ u, x = .returned u ∧ w'.ownsRow w.heap.size 9 1 u (namesP ps).length ((namesP ps).map Value.string) ∧ Below w.heap.size w w' := by
  obtain ⟨a, cap, rfl, -, -, h⟩ := h
  have H := hid h
  clear h
  go_enter Tryz.func118, Tryz.ntmps118
  go_wp2_with fail
  go_loopw [5, 10] (fun s i wr => ∃ (k : Nat) (oa : Option Addr) (oc : Nat), k ≤ ps.length ∧ i = .int .i64 (k : Int) ∧ s = .slice oa k oc ∧ Hid (wr.ownsRow w.heap.size 9 1 (.slice oa k oc) ((namesP ps).take k).length (((namesP ps).take k).map Value.string)) ∧ Hid (Below w.heap.size w wr)) (fun _ i _ => ps.length - (intOf i).toNat)
  case atStart => exact ⟨0, _, _, Nat.zero_le _, rfl, rfl, hid (ownsRow_none _ _), hid (Below.refl _ _)⟩
  case round =>
    obtain ⟨k, oa, oc, hk, rfl, rfl, HO, HB⟩ := hrel
    by_cases hlt : k < ps.length
    · obtain ⟨e, he⟩ : ∃ e, ps[k]? = some e := ⟨ps[k], List.getElem?_eq_getElem hlt⟩
      obtain ⟨b, o, rfl, hbl, hc⟩ := (unhid H).resolve_left (by intro e; subst e; simp at hlt)
      obtain ⟨na, nc, ta, tc, ⟨c0, c1, c2, c3⟩, -⟩ := pack_cells (unhid HB) hbl hc he
      have HX := hid (namesP_get he)
      have HBA := hid (show ∀ x, Below w.heap.size w (wr.alloc x) from fun x => (unhid HB).alloc (unhid HB).size x)
      have HOA := hid (fun x => (unhid HO).alloc x)
      have hlo := hid (show ∀ j, (Value.slice oa k oc).ownBlock = some j → w.heap.size ≤ j from fun j ej => ((unhid HO).lt j ej).1)
      clear hc he hbl HB HO
      go_wp2_with fail
      refine (packNames1_any e na nc ta tc _).mono ?_
      rintro x w2 ⟨rfl, hb⟩
      have HB2a := hid ((unhid HBA _).trans (hb.mono (unhid HBA _).size))
      have HO2 := hid ((ownsRow_belowS (unhid HOA _) hb).alloc (.cells #[.string (PackD.name e)] 9))
      have HB2 := hid ((unhid HB2a).alloc (unhid HB2a).size (.cells #[.string (PackD.name e)] 9))
      have HC2 := hid (cell_newN w2 (.string (PackD.name e)) 9)
      have HKL := hid (show ((namesP ps).take k).length ≤ 1048576 by rw [List.length_take]; omega)
      have HSZ := hid (unhid HB2).size
      clear hb c0 c1 c2 c3 HBA HOA HB2a
      go_wp2_with (at_builtin; refine wp_name rfl _ _ rfl w.heap.size (.slice oa k oc) ((namesP ps).take k) (PackD.name e) w2.heap.size rfl rfl (unhid HO2) (unhid HC2) (by have := unhid HKL; omega) (unhid HSZ) ?_)
      intro v' w4 hown hg
      have ho3 := ownsRow_take (unhid HX) (W := w4) (N := w.heap.size) (v := v') (by simpa using hown)
      have HB3 := hid (grown_belowN (unhid HB2) hg (unhid hlo))
      obtain ⟨oa2, oc2, hv, -⟩ := ownsRow_txts ho3
      have hk1 : ((namesP ps).take (k + 1)).length = k + 1 := by rw [List.length_take, namesP_len]; omega
      rw [hk1] at hv
      subst hv
      have HO3 := hid ho3
      clear hown hg hlo HC2 HB2 HO2 HSZ HKL ho3 hk1
      go_wp2_with fail
      go_roundw
      case rel => exact ⟨k + 1, oa2, oc2, by omega, by go_num, rfl, HO3, HB3⟩
      case measure => simp [intOf]; omega
    · have e : k = ps.length := by omega
      subst e
      go_wp2_with fail
      go_ret
      have := unhid HO
      rw [List.take_of_length_le (by rw [namesP_len]; exact Nat.le_refl _)] at this
      exact ⟨_, rfl, this, unhid HB⟩
structure PlaceMap (W : World) (mb n : Nat) (names : List ByteArray) (D : DataW Unit) : Prop where
  own : W.ownsMap Tryz.prog 9 (plainElem Tryz.prog 3) mb n D
  has : ∀ x : ByteArray, Maps.has D (.string x.data.toList) = memB x names
  at_ : ∀ (x : ByteArray) (i : Nat), names[i]? = some x → D.atKey (.string x.data.toList) (.lit (.int .i64 0)) = .lit (.int .i64 (i : Int))
theorem law9 : Keyed Tryz.prog 9 := string_keyed Tryz.underlying9
theorem zero3 (w : World) : (zeroValue 3).run Tryz.prog w = .ok (.int .i64 0) w := by kernel_rfl
theorem wf_nat {k : Nat} (h : k ≤ 1048576) : (Lit.int .i64 (k : Int)).wf = true := by
  simp [Lit.wf, IntKind.min, IntKind.max, IntKind.signed, IntKind.bits]; omega
theorem bytes_eq {x y : ByteArray} (h : x.data.toList = y.data.toList) : x = y := by
  cases x with | mk a => cases y with | mk b => congr; exact Array.ext' h
theorem isKey_str (l : List UInt8) : WideAt.IsKeyLit (.string l) := by trivial
theorem PlaceMap.next {W : World} {mb n k : Nat} {names : List ByteArray} {x : ByteArray} {D : DataW Unit} (hn : names.Nodup) (hx : names[k]? = some x) (hD : IsMap D) (hh : ∀ y : ByteArray, Maps.has D (.string y.data.toList) = memB y (names.take k)) (ha : ∀ (y : ByteArray) (i : Nat), (names.take k)[i]? = some y → D.atKey (.string y.data.toList) (.lit (.int .i64 0)) = .lit (.int .i64 (i : Int)))
    (ho : W.ownsMap Tryz.prog 9 (plainElem Tryz.prog 3) mb n (D.put (.string x.data.toList) (.lit (.int .i64 (k : Int))))) : PlaceMap W mb n (names.take (k + 1)) (D.put (.string x.data.toList) (.lit (.int .i64 (k : Int)))) := by
  have e := take_next hx
  refine ⟨ho, fun y => ?_, fun y i hi => ?_⟩
  · by_cases hyx : y = x
    · subst hyx
      rw [has_put_same hD (isKey_str _), memB_yes (by rw [e]; simp)]
    · rw [has_put_other (fun h => hyx (bytes_eq (by injection h))), hh y]
      cases h : memB y (names.take k) with
      | true => rw [memB_yes (by rw [e]; exact List.mem_append_left _ (memB_iff.1 h))]
      | false => rw [memB_no (fun hm => by
          rw [e] at hm
          rcases List.mem_append.1 hm with hm | hm
          · rw [memB_yes hm] at h; cases h
          · exact hyx (List.mem_singleton.1 hm))]
  · have hik : i < k + 1 := by have := (List.getElem?_eq_some_iff.1 hi).1; rw [List.length_take] at this; omega
    have hni : names[i]? = some y := by rwa [List.getElem?_take_of_lt hik] at hi
    by_cases hyx : y = x
    · subst hyx
      have ei := nodup_inj hn hni hx
      subst ei
      rw [atKey_put_same hD (isKey_str _)]
    · rw [atKey_put_other (fun h => hyx (bytes_eq (by injection h)))]
      have hne : i ≠ k := fun e => by subst e; rw [hx] at hni; cases hni; exact hyx rfl
      exact ha y i (by rw [List.getElem?_take_of_lt (by omega)]; exact hni)
theorem PlaceMap.look {W : World} {mb n : Nat} {names : List ByteArray} {D : DataW Unit} (h : PlaceMap W mb n names D) (x : ByteArray) (hx : x.size ≤ maxLen) : ∃ c : Int, (Instr.lookup 86 (.map (some mb)) (.string x) true).run Tryz.prog W = .ok (.tuple #[.int .i64 c, .bool (memB x names)]) W ∧ ∀ i : Nat, names[i]? = some x → c = (i : Int) := by
  obtain ⟨v, ps, hrun, hv⟩ := h.own.look_ok law9 Tryz.underlying86 (zero3 W) (plainElem_int Tryz.underlying3 (by decide)) (Go.WideMaps.keyOf_string_mk Tryz.underlying9 hx)
  obtain ⟨c, rfl, hc, hwc⟩ := plainElem_int_inv Tryz.underlying3 hv
  refine ⟨c, by rw [hrun, h.has], fun i hi => ?_⟩
  have h1 := congrArg Prod.fst hc
  have h2 := h.at_ x i hi
  rw [h2] at h1
  have h3 : (DataW.lit (.int .i64 (i : Int)) : DataW Unit) = .lit (.int .i64 c) := h1
  exact (Lit.int.inj (DataW.lit.inj h3)).2.symm
end Go.Proofs.YtoihhlkidlapmaaGreat

namespace Go.Proofs.YtoihhlkidlapmaaGreat
open Go.RowKit Go.Shelf
def TreeIn (Bn bt N : Nat) (vp vn : Value) (es : List Ent) (W : World) : Prop := W.cell? ⟨Bn, 0, none⟩ = some (.pointer (some ⟨bt, 0, none⟩)) ∧ W.heap[bt]? = some (.cells #[vp, vn] 117 (0, 0)) ∧ RowsAt W N vp vn es
theorem path_of {W : World} {N : Nat} {v : Value} {es : List Ent} {i : Nat} {e : Ent} (h : W.ownsRow N 9 1 v es.length (es.map fun e => .string e.path)) (he : es[i]? = some e) : ∃ g cap, v = .slice (some ⟨g, 0, .none⟩) es.length cap ∧ W.cell? ⟨g, i, .none⟩ = some (.string e.path) ∧ es.length ≤ cap := by
  have hil : i < es.length := (List.getElem?_eq_some_iff.1 he).1
  rcases h.2 with ⟨rfl, h0⟩ | ⟨g, cap, cur, rfl, _, hg, hc, _, hsz, hcells⟩
  · omega
  · refine ⟨g, cap, rfl, ?_, hc⟩
    have h1 : (cur.toList.take (es.length * 1))[i]? = some (.string e.path) := by rw [hcells, List.getElem?_map, he]; rfl
    rw [List.getElem?_take_of_lt (by omega), Array.getElem?_toList] at h1
    simp [World.cell?, hg, h1]
set_option maxRecDepth 100000 in
set_option maxHeartbeats 2000000 in
theorem all1_in (F : Fence) (n : Nat) (hf : F.fn 168) (hro : F.round = none) (hn : 1 ≤ n) (l Bn bt N : Nat) (vp vn : Value) (es : List Ent) (hes : es.length ≤ 1000) (P : Ent → Prop) (hP : ∀ e ∈ es, P e) (J Jx : List { e : Ent // P e } → World → Prop)
    (hY : ∀ pre (x : { e : Ent // P e }) W, J pre W → pre.length < es.length → YieldAt F (n - 1) Tryz.prog l #[.string x.1.path, nodeV x.1] W fun e W' =>
      (e = .returned (.bool true) ∧ J (pre ++ [x]) W' ∧ (TreeIn Bn bt N vp vn es W → TreeIn Bn bt N vp vn es W')) ∨ (e = .returned (.bool false) ∧ Jx (pre ++ [x]) W'))
    (W : World) (hc : TreeIn Bn bt N vp vn es W) (h0 : J [] W) :
    CallsIn F n Tryz.prog 168 #[.func (.yield l) #[] #[], .pointer (some ⟨Bn, 0, none⟩)] W fun e W' => (∃ v, e = .returned v) ∧
      ((∃ ys : List { e : Ent // P e }, ys.map (·.1) = es ∧ J ys W') ∨ (∃ pre : List { e : Ent // P e }, pre.map (·.1) <+: es ∧ Jx pre W')) := by
  obtain ⟨ap, cp, rfl⟩ := ownsRow_slice hc.2.2.1
  refine callsIn_of_wp Tryz.func168 rfl hf ?_ hro
  simp only [Tryz.ntmps168, List.size_toArray, List.length_cons, List.length_nil, Nat.reduceAdd, Nat.reduceSub, Array.replicate_succ, Array.replicate_zero, List.push_toArray, List.append_toArray, List.nil_append, List.cons_append]
  have c0 := hc.1
  obtain ⟨c1, c2, -, -⟩ := two_cells hc.2.1
  have HC := hid hc
  clear hc
  gi_wp2
  clear c0 c1 c2
  gi_loopw [10] (fun p wr => ∃ (k : Nat) (ys : List { e : Ent // P e }), k ≤ es.length ∧ p = .int .i64 k ∧ Hid (ys.map (·.1) = es.take k) ∧ J ys wr ∧ Hid (TreeIn Bn bt N (.slice ap es.length cp) vn es wr))
    (fun p _ => es.length - (intOf p).toNat)
  case atStart =>
    exact ⟨0, [], Nat.zero_le _, rfl, hid rfl, h0, HC⟩
  case round =>
    obtain ⟨k, ys, hk, rfl, hys, hJ, HT⟩ := hrel
    have hyl : ys.length = k := by have := congrArg List.length (unhid hys); rw [List.length_map, List.length_take] at this; omega
    by_cases hlt : k < es.length
    · obtain ⟨e, he⟩ : ∃ e, es[k]? = some e := ⟨es[k], List.getElem?_eq_getElem hlt⟩
      have hPe : P e := hP e (List.mem_of_getElem? he)
      obtain ⟨g, cap, hv, hc1, hle⟩ := path_of (unhid HT).2.2.1 he
      cases hv
      obtain ⟨g2, cap2, rfl, hc2, hle2⟩ := node_of (unhid HT).2.2.2 he
      have c0 := (unhid HT).1
      obtain ⟨c1, c2, -, -⟩ := two_cells (unhid HT).2.1
      have hY1 := hY ys ⟨e, hPe⟩ wr hJ (by omega)
      obtain ⟨T0, nv, hnv⟩ := nodeV_shape e
      dsimp only at hY1
      rw [hnv] at hc2 hY1
      obtain ⟨fn, tmps, assign, body, hy, hR⟩ := hY1
      have HY := hid hY
      clear hY
      gi_wp2
      refine hR.mono ?_
      rintro x W3 (⟨rfl, hJ3, hk3⟩ | ⟨rfl, hJx3⟩)
      · have HT3 := hid (hk3 (unhid HT))
        have HYS := hid (show (ys ++ [(⟨e, hPe⟩ : { e : Ent // P e })]).map (fun x => x.1) = es.take (k + 1) by rw [List.map_append, unhid hys, List.take_add_one, he]; rfl)
        clear hk3 HT hys
        gi_wp2
        go_roundw
        case rel => exact ⟨k + 1, _, by omega, by go_num, HYS, hJ3, HT3⟩
        case measure => simp [intOf]; omega
      · gi_wp2
        refine bodyPost_ret (results_none rfl _ _ _) rfl ?_
        exact ⟨⟨_, rfl⟩, .inr ⟨_, by rw [List.map_append, unhid hys]; rw [show [(⟨e, hPe⟩ : { e : Ent // P e })].map (·.1) = [e] from rfl, show es.take k ++ [e] = es.take (k + 1) by rw [List.take_add_one, he]; rfl]; exact List.take_prefix _ _, hJx3⟩⟩
    · gi_wp2
      go_end0
      exact ⟨⟨_, rfl⟩, .inl ⟨_, by rw [unhid hys, List.take_of_length_le (by omega)], hJ⟩⟩
set_option maxHeartbeats 1000000 in
theorem all_in (F : Fence) (n : Nat) (hf : F.fn 101) (hro : F.round = none) (bt : Nat) (w : World) :
    CallsIn F n Tryz.prog 101 #[.pointer (some ⟨bt, 0, none⟩)] w fun e w' => e = .returned (.func (.func 168) #[] #[.pointer (some ⟨w.heap.size, 0, none⟩)]) ∧ w' = w.alloc (.cells #[.pointer (some ⟨bt, 0, none⟩)] 173) := by
  refine callsIn_of_wp Tryz.func101 rfl hf ?_ hro
  simp only [Tryz.ntmps101, List.size_toArray, List.length_cons, List.length_nil, Nat.reduceAdd, Nat.reduceSub, Array.replicate_succ, Array.replicate_zero, List.push_toArray, List.append_toArray, List.nil_append, List.cons_append]
  gi_wp2
  go_ret
  exact ⟨rfl, rfl⟩
theorem treeIn_below {Bn bt N : Nat} {vp vn : Value} {es : List Ent} {W W' : World} (h : TreeIn Bn bt N vp vn es W) (hb : Below W.heap.size W W') : TreeIn Bn bt N vp vn es W' := by
  have hl : Bn < W.heap.size := below_lt h.1
  exact ⟨(hb.cell (p := ⟨Bn, 0, none⟩) hl).trans h.1, (hb.block bt (Array.getElem?_eq_some_iff.1 h.2.1).1).trans h.2.1, ownsRow_kept h.2.2.1 (fun g e => hb.block g (h.2.2.1.lt g e).2), ownsRow_kept h.2.2.2 (fun g e => hb.block g (h.2.2.2.lt g e).2)⟩
theorem row_cells {W : World} {N n size : Nat} {v : Value} {e : TypeId} {xs : List Value} {g : Nat} (h : W.ownsRow N e size v n xs) (hg : v.ownBlock = some g) : ∃ cur, W.heap[g]? = some (.cells cur e (0, 0)) := by
  rcases h.2 with ⟨rfl, _⟩ | ⟨g', cap, cur, rfl, _, hh, _⟩
  · cases hg
  · cases hg; exact ⟨cur, hh⟩
theorem treeIn_grown {Bn bt N : Nat} {vp vn : Value} {es : List Ent} {W W' : World} {row : Option Nat} (h : TreeIn Bn bt N vp vn es W) (hg : W.grownBy W' row) (hr : ∀ r, row = some r → ∃ o : Obj, W.heap[r]? = some o ∧ o.isCells = false) : TreeIn Bn bt N vp vn es W' := by
  have hk : ∀ (b : Nat) (cs : Array Value) (t : TypeId) (f : Nat × Nat), W.heap[b]? = some (.cells cs t f) → W'.heap[b]? = W.heap[b]? := fun b cs t f hb => hg.block b (Array.getElem?_eq_some_iff.1 hb).1 (fun e => by
    obtain ⟨o, ho, hc⟩ := hr b e.symm
    rw [hb] at ho; cases ho; cases hc)
  refine ⟨cell_kept h.1 hg hr, (hk _ _ _ _ h.2.1).trans h.2.1, ownsRow_kept h.2.2.1 (fun g e => ?_), ownsRow_kept h.2.2.2 (fun g e => ?_)⟩
  · obtain ⟨cur, hc⟩ := row_cells h.2.2.1 e; exact hk _ _ _ _ hc
  · obtain ⟨cur, hc⟩ := row_cells h.2.2.2 e; exact hk _ _ _ _ hc
theorem all_stops (F : Fence) (n : Nat) (hf : F.fn 168) (hro : F.round = none) (hn : 1 ≤ n) (Bn bt N : Nat) (vp vn : Value) (es : List Ent) (hes : es.length ≤ 1000) (P : Ent → Prop) (hP : ∀ e ∈ es, P e) (w : World) (hc : TreeIn Bn bt N vp vn es w) :
    SeqStopsK F n Tryz.prog 168 #[.pointer (some ⟨Bn, 0, none⟩)] (fun x : { e : Ent // P e } => #[Value.string x.1.path, nodeV x.1]) (fun W W' => TreeIn Bn bt N vp vn es W → TreeIn Bn bt N vp vn es W') (fun ys => ys.map (·.1) = es) (fun pre => pre.map (·.1) <+: es) es.length w := fun l J Jx W hW _ _ hY h0 =>
  all1_in F n hf hro hn l Bn bt N vp vn es hes P hP J Jx hY W (treeIn_below hc hW) h0
end Go.Proofs.YtoihhlkidlapmaaGreat

namespace Go.Proofs.YtoihhlkidlapmaaGreat
open Go.RowKit Go.Shelf
def noDefer (o : Oper) : Bool := match o.op with | .defer _ => false | _ => true
theorem noDefer_ne {o : Oper} (h : noDefer o = true) : ∀ c, o.op ≠ .defer c := fun c e => by unfold noDefer at h; rw [e] at h; cases h
theorem opIn_of_op {P : Program} {o : Oper} {a : Act} {w : World} {K K' : Act → World → Prop} {Q : Exit → Act → World → Prop} {l n : Nat} (hd : noDefer o = true) (hK : ∀ a w, K a w → K' a w) (h : o.wp P a w K Q) : o.wpIn (Fence.wide.inRound l) n P a w K' Q := by
  refine ⟨fun _ _ => trivial, ?_⟩
  rw [Oper.semAt_plain _ _ _ (noDefer_ne hd)]
  unfold Oper.wp at h
  generalize (execOp a.eval o).run P w = r at h
  cases r with
  | ok x w' =>
    cases x with
    | value v => exact hK _ _ h
    | skip => exact hK _ _ h
    | defer d => exact hK _ _ h
    | enter f args =>
      refine ⟨(fun e => by cases e), CallsIn.inRound l (callsIn_wide.2 (Calls.mono (show Calls P f args w' _ from h) ?_))⟩
      intro e w'' he
      cases e with
      | returned v => exact hK _ _ he
      | panicked c => exact he
      | outgrown => exact he
    | row r args => exact ⟨(fun e => by cases e), fun c cs _ => let ⟨v, w', r, s⟩ := (show Rows P _ _ _ _ from h) c cs; ⟨v, w', hK _ _ r, stepsIn_wide.2 s⟩⟩
    | _ => exact h.elim
  | halt x w' => cases x <;> simp only [Oper.upon] at h <;> simp only [Oper.uponIn] <;> exact h
theorem anyIn_of_any {P : Program} {md : Region.Mode} {ops : Array Oper} {Q : Exit → Act → World → Prop} {l n : Nat} (hd : ops.all noDefer = true) (hnl : ¬ LetsOut Q) : ∀ (fuel : Nat) (listed : Array Bool) (a : Act) (w : World), wpAny P md ops Q fuel listed a w → wpAnyIn (Fence.wide.inRound l) n P md ops Q fuel listed a w
  | 0, _, _, _, h => h
  | fuel + 1, listed, a, w, h => by
    refine ⟨h.1, fun i hi => ?_⟩
    have h2 := h.2 i hi
    unfold wpOp at h2
    unfold wpOpIn
    cases ho : ops[i]? with
    | none => rw [ho] at h2; exact anyIn_of_any hd hnl fuel _ _ _ h2
    | some o =>
      rw [ho] at h2
      dsimp only at h2 ⊢
      have hdo : noDefer o = true := by
        rw [Array.all_eq_true] at hd
        obtain ⟨hil, he⟩ := Array.getElem?_eq_some_iff.1 ho
        rw [← he]; exact hd i hil
      split
      · rename_i hw
        rw [if_pos hw] at h2
        exact opIn_of_op hdo (fun a w h => anyIn_of_any hd hnl fuel _ a w h) (h2.resolve_right (fun e => hnl e.2))
      · rename_i hw
        rw [if_neg hw] at h2
        exact ⟨fun _ _ => trivial, anyIn_of_any hd hnl fuel _ _ _ h2⟩
theorem region_in {P : Program} {id l n : Nat} {ops : Array Oper} {Q : Exit → Act → World → Prop} {a : Act} {w : World} (hm : P.follows .mixedOrders = true) (hd : ops.all noDefer = true) (hnl : ¬ LetsOut Q)
    (h : wpAny P .any ops Q ops.size (Array.replicate ops.size false) a w.drew) : (Code.region id ops true).wpIn (Fence.wide.inRound l) n P Q a w :=
  wpIn_region_any hm (anyIn_of_any hd hnl _ _ _ _ h)
end Go.Proofs.YtoihhlkidlapmaaGreat

namespace Go.Proofs.YtoihhlkidlapmaaGreat
open Go.RowKit Go.Shelf
theorem kept_asc (es : List Ent) : Asc (pathsOf (keptE es)) ∧ (keptE es).length ≤ 16 := by
  cases h : treeB es
  · rw [keptE_no h]; exact ⟨by simp [pathsOf, Asc], by simp⟩
  · rw [keptE_yes h]
    rw [treeB_eq] at h
    have h1 := asc_take (Nat.le_refl _) h
    rw [List.take_of_length_le (Nat.le_refl _)] at h1
    exact ⟨h1, okI_16 (Nat.le_refl _) h⟩
theorem tree_ent {es : List Ent} {i : Nat} {e : Ent} (h : treeB es = true) (he : es[i]? = some e) : entB e = true := by
  rw [treeB_eq, List.all_eq_true] at h
  have := h i (List.mem_range.2 (List.getElem?_eq_some_iff.1 he).1)
  unfold okI putB at this
  rw [entFn_get he] at this
  simp only [Bool.and_eq_true] at this
  exact this.2.1
theorem four_cells {W : World} {bt : Nat} {u v x y : Value} {t : TypeId} (h : W.heap[bt]? = some (.cells #[u, v, x, y] t (0, 0))) : (W.cell? ⟨bt, 0, .none⟩ = some u ∧ W.cell? ⟨bt, 1, .none⟩ = some v ∧ W.cell? ⟨bt, 2, .none⟩ = some x ∧ W.cell? ⟨bt, 3, .none⟩ = some y) ∧ (W.frozen? ⟨bt, 0, .none⟩ = false ∧ W.frozen? ⟨bt, 1, .none⟩ = false ∧ W.frozen? ⟨bt, 2, .none⟩ = false ∧ W.frozen? ⟨bt, 3, .none⟩ = false) := by
  refine ⟨⟨?_, ?_, ?_, ?_⟩, ?_, ?_, ?_, ?_⟩ <;> simp [World.cell?, World.frozen?, h]
end Go.Proofs.YtoihhlkidlapmaaGreat
