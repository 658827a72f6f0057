/- Texts of this proof, one behind the other; each says at its head what it shows. -/
import Derived.Test.YtlnpjiabdebmgaaGreatJoin1
import Derived.Test.YtlnpjiabdebmgaaGreatJoin4
import Derived.Test.YtlnpjiabdebmgaaGreatJoin5
import Derived.Test.YtlnpjiabdebmgaaGreatJoin6
import Derived.Test.YtlnpjiabdebmgaaGreatRows
import Derived.WalkKit
import Derived.ProofKit
import Derived.OpenShut
import Derived.Deep.Slices
import Derived.Lib.SmallJoins
import Derived.Test.YtlnpjiabdebmgaaGreatJoin2
/- A region that draws its order, over a class of worlds that need not hold behind its last operation (a store). -/
namespace Go.Proofs.YtlnpjiabdebmgaaGreat
open Go.RowKit

/-- Whatever order is picked from here on, and S holds behind every operation but number kl. -/
def wpAnyE (kl : Nat) (P : Program) (md : Region.Mode) (ops : Array Oper) (Q : Exit → Act → World → Prop) (S : World → Prop) : Nat → Array Bool → Act → World → Prop
  | 0, listed, a, w => Region.ready md ops listed = [] ∧ Q .normal a w
  | fuel + 1, listed, a, w =>
    (Region.ready md ops listed = [] → Q .normal a w) ∧
    ∀ i ∈ Region.ready md ops listed, wpOp P ops Q i (fun a' w' => (i ≠ kl → S w') ∧ wpAnyE kl P md ops Q S fuel (listed.setIfInBounds i true) a' w') a w
/-- Whether number kl waits for number i. -/
def waitsB (md : Region.Mode) (ops : Array Oper) (kl i : Nat) : Bool := ((ops[kl]?).map fun o => o.after.toList.any fun e => Region.binds md e && (e.on == i)).getD false
theorem waits_not {md : Region.Mode} {ops : Array Oper} {kl i : Nat} {listed : Array Bool} (h : waitsB md ops kl i = true) (hi : i ∈ Region.ready md ops listed) : kl ∉ Region.ready md ops listed := by
  intro hk
  obtain ⟨_, o, ho, hall⟩ := mem_ready.1 hk
  unfold waitsB at h
  rw [ho] at h
  simp only [Option.map_some, Option.getD_some, List.any_eq_true, Bool.and_eq_true, beq_iff_eq] at h
  obtain ⟨e, he, hb, rfl⟩ := h
  have h1 := hall e (by simpa using he) hb
  have h0 := (mem_ready.1 hi).1
  rcases Nat.lt_or_ge e.on listed.size with h' | h'
  · simp [h'] at h0 h1; rw [h0] at h1; cases h1
  · simp [Array.getElem?_eq_none h'] at h1
theorem wpAny_of_heldE {kl : Nat} {P : Program} {ops : Array Oper} {Q : Exit → Act → World → Prop} {md : Region.Mode} {S : World → Prop} : ∀ (fuel : Nat) (listed : Array Bool) (a : Act) (w : World), wpAnyE kl P md ops Q S fuel listed a w → wpAny P md ops Q fuel listed a w
  | 0, _, _, _, h => h
  | fuel + 1, _, _, _, h => ⟨h.1, fun i hi => wpOp_mono (fun a' w' h' => wpAny_of_heldE fuel _ a' w' h'.2) (h.2 i hi)⟩
theorem wpAnyE_first {kl : Nat} {P : Program} {ops : Array Oper} {Q : Exit → Act → World → Prop} {md : Region.Mode} {S : World → Prop} {i : Nat} {oi : Oper} {v : Value} (hi : ops[i]? = some oi) (hsel : ∀ (j : Nat) (o : Oper) cs b, ops[j]? = some o → o.op ≠ .select cs b)
    (hQ : ∀ c a w, Q (.panic c) (a.put oi.dst v) w → Q (.panic c) a w) (hkl : waitsB md ops kl i = true) :
    ∀ (fuel : Nat) (listed : Array Bool) (a : Act) (w : World),
      (∀ j oj, ops[j]? = some oj → j ≠ i → listed.getD j true = false → (∀ e ∈ oj.after, Region.binds md e = true → e.on ≠ i) → oi.apart ops oj = true) →
      i ∈ Region.ready md ops listed → YieldsIf P ops S oi v a → S w →
      wpAnyE kl P md ops Q S fuel (listed.setIfInBounds i true) (a.put oi.dst v) w → wpAnyE kl P md ops Q S (fuel + 1) listed a w := by
  intro fuel
  induction fuel with
  | zero =>
    intro listed a w _ hr hy hS H
    refine ⟨fun h => (by rw [h] at hr; cases hr), fun j hj => ?_⟩
    by_cases hji : j = i
    · subst hji; exact hy.wpOp hi hS ⟨fun _ => hS, H⟩
    · have := ready_mono hj hji
      rw [H.1] at this
      cases this
  | succ fuel ih =>
    intro listed a w hfree hr hy hS H
    refine ⟨fun h => (by rw [h] at hr; cases hr), fun j hj => ?_⟩
    by_cases hji : j = i
    · subst hji; exact hy.wpOp hi hS ⟨fun _ => hS, H⟩
    · have hjk : j ≠ kl := fun e => waits_not hkl hr (e ▸ hj)
      have h1 := H.2 j (ready_mono hj hji)
      obtain ⟨hjun, oj, hoj, hall⟩ := mem_ready.1 hj
      have hnot : ∀ e ∈ oj.after, Region.binds md e = true → e.on ≠ i := fun e he hb heq => by
        have h1 := hall e he hb
        have h0 := (mem_ready.1 hr).1
        rw [heq] at h1
        rcases Nat.lt_or_ge i listed.size with h' | h'
        · simp [h'] at h0 h1; rw [h0] at h1; cases h1
        · simp [Array.getElem?_eq_none h'] at h1
      have h2 := wpOp_putIf hoj (hfree j oj hoj hji hjun hnot) (fun cs b => hsel i oi cs b hi) (fun cs b => hsel j oj cs b hoj) hQ hy h1
      have hfree' : ∀ k ok, ops[k]? = some ok → k ≠ i → (listed.setIfInBounds j true).getD k true = false →
          (∀ e ∈ ok.after, Region.binds md e = true → e.on ≠ i) → oi.apart ops ok = true := fun k ok hk hki hun hno => by
        refine hfree k ok hk hki ?_ hno
        by_cases hjk : j = k
        · subst hjk; exact hjun
        · rw [getD_set_ne true hjk] at hun; exact hun
      refine wpOp_mono (fun a' w' h3 => ⟨fun _ => h3.2.1 hjk, ih (listed.setIfInBounds j true) a' w' hfree' (ready_mono hr (Ne.symm hji)) h3.1 (h3.2.1 hjk) ?_⟩) h2
      rw [Array.setIfInBounds_comm _ _ hji]
      exact h3.2.2
theorem wpAnyE_take {kl : Nat} {P : Program} {ops : Array Oper} {Q : Exit → Act → World → Prop} {md : Region.Mode} {S : World → Prop} {i : Nat} {oi : Oper} {v : Value} {fuel : Nat} {listed : Array Bool} {a : Act} {w : World} (hi : ops[i]? = some oi)
    (hs : Region.noSelect ops = true) (hf : Region.free md ops listed i = true) (hr : (Region.ready md ops listed).contains i = true) (hkl : waitsB md ops kl i = true)
    (hQ : ∀ c a w, Q (.panic c) (a.put oi.dst v) w → Q (.panic c) a w) (hy : YieldsIf P ops S oi v a) (hS : S w)
    (h : wpAnyE kl P md ops Q S fuel (listed.setIfInBounds i true) (a.put oi.dst v) w) : wpAnyE kl P md ops Q S (fuel + 1) listed a w :=
  wpAnyE_first hi (Region.noSelect_spec hs) hQ hkl fuel listed a w (Region.free_spec hi hf) (by simpa using hr) hy hS h
/-- Whether the operations of a list may be taken first, one behind the other. -/
def heldEB (kl : Nat) (md : Region.Mode) (ops : Array Oper) : List Nat → Array Bool → Bool
  | [], _ => true
  | i :: is, listed => (Region.ready md ops listed).contains i && Region.free md ops listed i && ((ops[i]?).map plainOp).getD false && waitsB md ops kl i && heldEB kl md ops is (listed.setIfInBounds i true)
theorem heldE_same {kl : Nat} {P : Program} {md : Region.Mode} {ops : Array Oper} {Q : Exit → Act → World → Prop} {S : World → Prop} (hs : Region.noSelect ops = true) (hQ : ∀ c a t v w, Q (.panic c) (Act.put a (some t) v) w → Q (.panic c) a w) (fuel : Nat) : ∀ (is : List Nat) (l : List Oper) (listed : Array Bool) (a : Act) (w : World), is.map (fun i => ops[i]?) = l.map some → heldEB kl md ops is listed = true → S w →
    wpQuiet P ops S (fun a' => wpAnyE kl P md ops Q S fuel (markAll is listed) a' w) l a → wpAnyE kl P md ops Q S (is.length + fuel) listed a w
  | [], [], listed, a, w, _, _, _, h => by rw [List.length_nil, Nat.zero_add]; exact h
  | [], _ :: _, _, _, _, e, _, _, _ => by cases e
  | _ :: _, [], _, _, _, e, _, _, _ => by cases e
  | i :: is, o :: l, listed, a, w, e, hB, hS, h => by
    simp only [List.map_cons, List.cons.injEq] at e
    simp only [heldEB, Bool.and_eq_true] at hB
    obtain ⟨⟨⟨⟨h1, h2⟩, h3⟩, h5⟩, h4⟩ := hB
    rw [e.1] at h3
    obtain ⟨v, hy, hK⟩ := yieldsIf_quiet (by simpa using h3) h
    rw [show (i :: is).length + fuel = (is.length + fuel) + 1 by simp; omega]
    exact wpAnyE_take e.1 hs h2 h1 h5 (fun c a w hq => by cases hd : o.dst with | none => rw [hd] at hq; exact hq | some t => rw [hd] at hq; exact hQ _ _ _ _ _ hq) hy hS (heldE_same hs hQ fuel is l _ _ w e.2 h4 hS hK)
/-- The beginning. -/
theorem heldE_begin {P : Program} {id : Nat} {Q : Exit → Act → World → Prop} {a : Act} {w : World} {l : List Oper} (kl : Nat) (C : World → Prop) (hm : P.follows .mixedOrders = true)
    (h : wpAnyE kl P .any l.toArray Q (fun w' => ∃ x : CW C, w' = x.w) l.length (Array.replicate l.length false) a w.drew) : (Code.region id l.toArray true).wp P Q a w :=
  wp_region_any hm (wpAny_of_heldE _ _ _ _ (by simpa using h))
theorem heldE_here {kl : Nat} {P : Program} {md : Region.Mode} {Q : Exit → Act → World → Prop} {C : World → Prop} {F : Nat} {listed : Array Bool} {a : Act} {w : World} {l : List Oper} (m : List Bool) (hs : Region.noSelect l.toArray = true) (hB : (decide (m.length ≤ l.length) && decide ((maskIx 0 m).length ≤ F) && heldEB kl md l.toArray (maskIx 0 m) listed) = true) (hQ : ∀ c a t v w, Q (.panic c) (Act.put a (some t) v) w → Q (.panic c) a w) (hC : C w)
    (h : wpQuiet P l.toArray (fun w' => ∃ x : CW C, w' = x.w) (fun a' => wpAnyE kl P md l.toArray Q (fun w' => ∃ x : CW C, w' = x.w) (F - (maskIx 0 m).length) (markAll (maskIx 0 m) listed) a' w) (pick l m) a) :
    wpAnyE kl P md l.toArray Q (fun w' => ∃ x : CW C, w' = x.w) F listed a w := by
  simp only [Bool.and_eq_true, decide_eq_true_eq] at hB
  obtain ⟨⟨h1, h2⟩, h3⟩ := hB
  have := heldE_same (P := P) (md := md) (Q := Q) (S := fun w' => ∃ x : CW C, w' = x.w) hs hQ (F - (maskIx 0 m).length) (maskIx 0 m) (pick l m) listed a w (pick_ix l l m 0 h1 (by simp)) h3 ⟨⟨w, hC⟩, rfl⟩ h
  rwa [show (maskIx 0 m).length + (F - (maskIx 0 m).length) = F by omega] at this
def AllReadyE (kl : Nat) (P : Program) (md : Region.Mode) (ops : Array Oper) (Q : Exit → Act → World → Prop) (C : World → Prop) (F : Nat) (listed : Array Bool) (a : Act) (w : World) (rs : List Nat) : Prop :=
  ∀ i ∈ rs, wpOp P ops Q i (fun a' w' => (i ≠ kl → ∃ x : CW C, w' = x.w) ∧ wpAnyE kl P md ops Q (fun w' => ∃ x : CW C, w' = x.w) F (listed.setIfInBounds i true) a' w') a w
theorem AllReadyE.cons {kl : Nat} {P : Program} {md : Region.Mode} {ops : Array Oper} {Q : Exit → Act → World → Prop} {C : World → Prop} {F : Nat} {listed : Array Bool} {a : Act} {w : World} {o : Oper} {k : Nat} {rs : List Nat} (ho : ops[k]? = some o)
    (h : ∀ K' : Act → World → Prop, Shut (∀ a w, (k ≠ kl → C w) → wpAnyE kl P md ops Q (fun w' => ∃ x : CW C, w' = x.w) F (listed.setIfInBounds k true) a w → K' a w) → if Region.wanted o (yielded ops a.tmps) = true then Oper.wp P o a w K' Q else K' (a.put o.dst undef) w)
    (hs : AllReadyE kl P md ops Q C F listed a w rs) : AllReadyE kl P md ops Q C F listed a w (k :: rs) := fun j hj => by
  rcases List.mem_cons.1 hj with rfl | hj
  · exact wpOp_step ho (fun K' hK => h K' (fun a w hS hW => hK a w ⟨fun hne => ⟨⟨w, hS hne⟩, rfl⟩, hW⟩))
  · exact hs j hj
theorem heldE_ready {kl : Nat} {P : Program} {md : Region.Mode} {ops : Array Oper} {Q : Exit → Act → World → Prop} {C : World → Prop} {F : Nat} {listed : Array Bool} {a : Act} {w : World} (rs : List Nat) (hr : Region.ready md ops listed = rs) (hne : rs ≠ []) (hF : decide (0 < F) = true)
    (h : AllReadyE kl P md ops Q C (F - 1) listed a w rs) : wpAnyE kl P md ops Q (fun w' => ∃ x : CW C, w' = x.w) F listed a w := by
  have hF' : F = (F - 1) + 1 := by simp only [decide_eq_true_eq] at hF; omega
  rw [hF']
  exact ⟨fun h0 => absurd (hr ▸ h0) hne, fun i hi => h i (hr ▸ hi)⟩
/-- One operation comes up. -/
theorem heldE_op {kl : Nat} {P : Program} {md : Region.Mode} {ops : Array Oper} {Q : Exit → Act → World → Prop} {C : World → Prop} {F : Nat} {listed : Array Bool} {a : Act} {w : World} {o : Oper} (k : Nat) (hr : Region.ready md ops listed = [k]) (hF : decide (0 < F) = true) (ho : ops[k]? = some o)
    (h : ∀ K' : Act → World → Prop, Shut (∀ a w, C w → wpAnyE kl P md ops Q (fun w' => ∃ x : CW C, w' = x.w) (F - 1) (listed.setIfInBounds k true) a w → K' a w) → if Region.wanted o (yielded ops a.tmps) = true then Oper.wp P o a w K' Q else K' (a.put o.dst undef) w) :
    wpAnyE kl P md ops Q (fun w' => ∃ x : CW C, w' = x.w) F listed a w :=
  heldE_ready [k] hr (by simp) hF (AllReadyE.cons ho (fun K' hK => h K' (fun a w hc hw => hK.out a w (fun _ => hc) hw)) (fun j hj => by cases hj))
/-- The last one. -/
theorem heldE_last {kl : Nat} {P : Program} {md : Region.Mode} {ops : Array Oper} {Q : Exit → Act → World → Prop} {C : World → Prop} {F : Nat} {listed : Array Bool} {a : Act} {w : World} {o : Oper} (hr : Region.ready md ops listed = [kl]) (hF : decide (0 < F) = true) (ho : ops[kl]? = some o)
    (h : ∀ K' : Act → World → Prop, Shut (∀ a w, wpAnyE kl P md ops Q (fun w' => ∃ x : CW C, w' = x.w) (F - 1) (listed.setIfInBounds kl true) a w → K' a w) → if Region.wanted o (yielded ops a.tmps) = true then Oper.wp P o a w K' Q else K' (a.put o.dst undef) w) :
    wpAnyE kl P md ops Q (fun w' => ∃ x : CW C, w' = x.w) F listed a w :=
  heldE_ready [kl] hr (by simp) hF (AllReadyE.cons ho (fun K' hK => h K' (fun a w hw => hK.out a w (fun hne => absurd rfl hne) hw)) (fun j hj => by cases hj))
theorem heldE_op2 {kl : Nat} {P : Program} {md : Region.Mode} {ops : Array Oper} {Q : Exit → Act → World → Prop} {C : World → Prop} {F : Nat} {listed : Array Bool} {a : Act} {w : World} {o o2 : Oper} (k k2 : Nat) (hr : Region.ready md ops listed = [k, k2]) (hF : decide (0 < F) = true) (ho : ops[k]? = some o) (ho2 : ops[k2]? = some o2)
    (h : ∀ K' : Act → World → Prop, Shut (∀ a w, C w → wpAnyE kl P md ops Q (fun w' => ∃ x : CW C, w' = x.w) (F - 1) (listed.setIfInBounds k true) a w → K' a w) → if Region.wanted o (yielded ops a.tmps) = true then Oper.wp P o a w K' Q else K' (a.put o.dst undef) w)
    (h2 : ∀ K' : Act → World → Prop, Shut (∀ a w, C w → wpAnyE kl P md ops Q (fun w' => ∃ x : CW C, w' = x.w) (F - 1) (listed.setIfInBounds k2 true) a w → K' a w) → if Region.wanted o2 (yielded ops a.tmps) = true then Oper.wp P o2 a w K' Q else K' (a.put o2.dst undef) w) :
    wpAnyE kl P md ops Q (fun w' => ∃ x : CW C, w' = x.w) F listed a w :=
  heldE_ready [k, k2] hr (by simp) hF (AllReadyE.cons ho (fun K' hK => h K' (fun a w hc hw => hK.out a w (fun _ => hc) hw)) (AllReadyE.cons ho2 (fun K' hK => h2 K' (fun a w hc hw => hK.out a w (fun _ => hc) hw)) (fun j hj => by cases hj)))
/-- A function is called (in either theory). -/
theorem call_op {P : Program} {ops : Array Oper} {Q : Exit → Act → World → Prop} {K : Act → World → Prop} {a : Act} {w : World} {o : Oper} {args : Array Operand} {ty : Array TypeId} (f d : Nat) (he : ∀ args w, (callFunc f args).run P w = .ok (.enter f args) w) (av : Array Value)
    (hop : o.op = .call ⟨.value (.func f), args, ty⟩) (hw : Region.wanted o (yielded ops a.tmps) = true) (hd : o.dst = some d) (hav : args.toList.map a.eval = av.toList)
    (h : Calls P f av w fun e w' => ∃ v, e = .returned v ∧ K (a.put (some d) v) w') : if Region.wanted o (yielded ops a.tmps) = true then Oper.wp P o a w K Q else K (a.put o.dst undef) w := by
  rw [if_pos hw]
  have hav : args.map a.eval = av := by apply Array.ext'; rw [Array.toList_map]; exact hav
  have hx : (execOp a.eval o).run P w = .ok (.enter f av) w := by
    unfold execOp
    rw [hop]
    simp [resolve, Deferred.ofValue, invoke, he, hav, Act.eval]
  unfold Oper.wp
  rw [hx]
  refine Calls.mono h ?_
  rintro e w' ⟨v, rfl, hn⟩
  show K (a.put o.dst v) w'
  rw [hd]
  exact hn
theorem heldE_done {kl : Nat} {P : Program} {md : Region.Mode} {ops : Array Oper} {Q : Exit → Act → World → Prop} {S : World → Prop} {F : Nat} {listed : Array Bool} {a : Act} {w : World} (hr : Region.ready md ops listed = []) (h : Q .normal a w) : wpAnyE kl P md ops Q S F listed a w := by
  cases F with
  | zero => exact ⟨hr, h⟩
  | succ F => exact ⟨fun _ => h, by rw [hr]; simp⟩
end Go.Proofs.YtlnpjiabdebmgaaGreat

/- Whether a pack is ok. -/
namespace Go.Proofs.YtlnpjiabdebmgaaGreat
open Go.RowKit Go.Shelf

def pkOk (p : PackD) : Bool := packB p.name.data.toList && versOk p.version.data.toList && ((p.needs.all needOkD && decide (p.needs.length ≤ 6)) && !twiceB (p.name :: namesN p.needs)) && treeB (entsD p.tree)
structure smallP (p : PackD) : Prop where
  name : p.name.size ≤ 1048576
  version : p.version.size ≤ 1048576
  needs : smallN p.needs
  tree : smallE (entsD p.tree)
theorem smallP_of {p : PackD} (h : packC.sz p ≤ 1048576) : smallP p := by
  rw [packC_sz] at h
  exact ⟨by omega, by omega, smallN_of (by omega), smallE_of (by omega)⟩
theorem twice_swap (n : ByteArray) (xs : List ByteArray) : twiceB (xs ++ [n]) = twiceB (n :: xs) := by
  unfold twiceB
  rw [show decide (xs ++ [n]).Nodup = decide (n :: xs).Nodup from decide_eq_decide.2 (List.perm_append_comm (l₁ := xs) (l₂ := [n])).nodup_iff]

set_option maxRecDepth 100000 in
set_option maxHeartbeats 4000000 in
theorem specPackOk_any (p : PackD) (cs : List Value) (w : World) (hs : smallP p) (h : packC.at_ w cs p) :
    Calls Tryz.prog 13 #[.agg cs.toArray] w fun x w' => x = .returned (.bool (pkOk p)) ∧ Below w.heap.size w w' := by
  obtain ⟨v2, v3, rfl, h2, h3⟩ := packC_at h
  obtain ⟨name, version, needs, tree⟩ := p
  obtain ⟨hsn, hsv, hsd, hst⟩ := hs
  dsimp only at *
  have H2 := hid h2
  obtain ⟨ta, tc, rfl, htn, htc, hte⟩ := entsD_at h3
  have H3 := hid hte
  have SN := hid hsn
  have SV := hid hsv
  have SD := hid hsd
  have ST := hid hst
  have EQ := hid (show pkOk ⟨name, version, needs, tree⟩ = (packB name.data.toList && versOk version.data.toList && ((needs.all needOkD && decide (needs.length ≤ 6)) && !twiceB (name :: namesN needs)) && treeB (entsD tree)) from rfl)
  clear h h2 h3 hsn hsv hsd hst htn htc hte
  go_enter Tryz.func13, Tryz.ntmps13
  go_wp2_with fail
  have hP := World.alloc_heap_new w (.cells #[.string name, .string version, v2, .slice ta (entsD tree).length tc] 31)
  have hB : Below w.heap.size w (w.alloc (.cells #[.string name, .string version, v2, .slice ta (entsD tree).length tc] 31)) := (Below.refl _ w).alloc (Nat.le_refl _) _
  have hS : w.heap.size < (w.alloc (.cells #[.string name, .string version, v2, .slice ta (entsD tree).length tc] 31)).heap.size := by simp
  generalize w.alloc (.cells #[.string name, .string version, v2, .slice ta (entsD tree).length tc] 31) = W0 at hP hB hS ⊢
  have HB := hid hB
  have JP := hid hP
  have JS := hid hS
  clear hB hP hS
  refine (l3Pack_any name (le_maxLen (unhid SN)) W0).mono ?_
  rintro x w1 ⟨rfl, hw⟩
  subst hw
  obtain c1 := cell_arrS (unhid JP) 1 _ rfl
  cases q1 : packB name.data.toList with
  | false =>
    go_wp2_with fail
    go_ret
    exact ⟨by rw [unhid EQ, q1]; rfl, unhid HB⟩
  | true =>
  go_wp2_with fail
  clear c1
  refine (specVersionOk_any version (unhid SV) _).mono ?_
  rintro x w2 ⟨rfl, hb⟩
  have HB2 := hid ((unhid HB).trans (hb.mono (unhid HB).size))
  have JP2 := hid ((hb.block _ (unhid JS)).trans (unhid JP))
  have JS2 := hid (Nat.lt_of_lt_of_le (unhid JS) hb.size)
  clear hb HB JP JS
  obtain c0 := cell_arrS (unhid JP2) 0 _ rfl
  obtain c2 := cell_arrS (unhid JP2) 2 _ rfl
  cases q2 : versOk version.data.toList with
  | false =>
    go_wp2_with fail
    go_ret
    exact ⟨by rw [unhid EQ, q1, q2]; rfl, unhid HB2⟩
  | true =>
  go_wp2_with fail
  clear c0 c2
  refine (l7Needs_any name needs v2 _ (unhid SD) ((unhid H2).below (unhid HB2))).mono ?_
  rintro x w3 ⟨rfl, hb⟩
  have HB3 := hid ((unhid HB2).trans (hb.mono (unhid HB2).size))
  have JP3 := hid ((hb.block _ (unhid JS2)).trans (unhid JP2))
  clear hb HB2 JP2 JS2
  obtain c3 := cell_arrS (unhid JP3) 3 _ rfl
  cases q3 : ((needs.all needOkD && decide (needs.length ≤ 6)) && !twiceB (name :: namesN needs)) with
  | false =>
    go_wp2_with fail
    go_ret
    exact ⟨by rw [unhid EQ, q1, q2, q3]; rfl, unhid HB3⟩
  | true =>
  go_wp2_with fail
  clear c3
  refine (specTreeOk_any (entsD tree) ta tc _ (unhid ST) ((unhid H3).below (unhid HB3))).mono ?_
  rintro x w4 ⟨rfl, hb⟩
  have HB4 := hid ((unhid HB3).trans (hb.mono (unhid HB3).size))
  clear hb HB3
  go_wp2_with fail
  go_ret
  exact ⟨by rw [unhid EQ, q1, q2, q3]; rfl, unhid HB4⟩

set_option maxRecDepth 100000 in
set_option maxHeartbeats 4000000 in
theorem packOk_any (p : PackD) (cs : List Value) (w : World) (hs : smallP p) (h : packC.at_ w cs p) :
    Calls Tryz.prog 15 #[.agg cs.toArray] w fun x w' => x = .returned (.bool (pkOk p)) ∧ Below w.heap.size w w' := by
  obtain ⟨v2, v3, rfl, h2, h3⟩ := packC_at h
  obtain ⟨name, version, needs, tree⟩ := p
  obtain ⟨hsn, hsv, hsd, hst⟩ := hs
  dsimp only at *
  have H2 := hid h2
  obtain ⟨ta, tc, rfl, htn, htc, hte⟩ := entsD_at h3
  obtain ⟨na, nc, rfl, -, -, -⟩ := h2
  have H3 := hid hte
  have SN := hid hsn
  have SV := hid hsv
  have SD := hid hsd
  have ST := hid hst
  have EQ := hid (show pkOk ⟨name, version, needs, tree⟩ = (packB name.data.toList && versOk version.data.toList && ((needs.all needOkD && decide (needs.length ≤ 6)) && !twiceB (name :: namesN needs)) && treeB (entsD tree)) from rfl)
  clear h h3 hsn hsv hsd hst htn htc hte
  go_enter Tryz.func15, Tryz.ntmps15
  go_wp2_with fail
  have hP := World.alloc_heap_new w (.cells #[.string name, .string version, .slice na needs.length nc, .slice ta (entsD tree).length tc] 31)
  have hB : Below w.heap.size w (w.alloc (.cells #[.string name, .string version, .slice na needs.length nc, .slice ta (entsD tree).length tc] 31)) := (Below.refl _ w).alloc (Nat.le_refl _) _
  have hS : w.heap.size < (w.alloc (.cells #[.string name, .string version, .slice na needs.length nc, .slice ta (entsD tree).length tc] 31)).heap.size := by simp
  generalize w.alloc (.cells #[.string name, .string version, .slice na needs.length nc, .slice ta (entsD tree).length tc] 31) = W0 at hP hB hS ⊢
  have HB := hid hB
  have JP := hid hP
  have JS := hid hS
  clear hB hP hS
  have g0 : ∀ x : CW (fun w' => Below W0.heap.size W0 w'), x.w.cell? ⟨w.heap.size, 0, none⟩ = some (.string name) := fun x => cell_arrS ((x.h.block _ (unhid JS)).trans (unhid JP)) 0 _ rfl
  have g2 : ∀ x : CW (fun w' => Below W0.heap.size W0 w'), x.w.cell? ⟨w.heap.size, 2, none⟩ = some (.slice na needs.length nc) := fun x => cell_arrS ((x.h.block _ (unhid JS)).trans (unhid JP)) 2 _ rfl
  have hba : ∀ {q : Prop}, (CW (fun w' => Below W0.heap.size W0 w') → q) ↔ q := CW.all (Below.refl _ W0)
  refine held_begin (fun w' => Below W0.heap.size W0 w') (by kernel_rfl) (drew_belowS _) ?_
  refine held_here [true, true, false, true, true] (by kernel_rfl) (by kernel_rfl) (fun _ _ _ _ _ h => h) (drew_belowS _) ?_
  dsimp only [pick]
  repeat (go_big_quiet_step (fail))
  refine wpQuiet_nil ?_
  clear hba g0 g2
  have hD := drew_belowS (B := W0.heap.size) W0
  generalize W0.drew = W1 at hD ⊢
  have HD := hid hD
  clear hD
  have HLT := hid (show w.heap.size < W0.heap.size from unhid JS)
  refine held_op2 2 5 (by kernel_rfl) (by kernel_rfl) rfl rfl (fun K hK => ?_) (fun K hK => ?_)
  · refine call_op 59 6 (enters_of Tryz.func59 (by kernel_rfl) rfl) #[.slice na needs.length nc, .func (.func 60) #[] #[]] rfl rfl rfl rfl ?_
    have H2b := hid (((unhid H2).below (unhid HB)).below ((unhid HD).mono (Nat.le_refl _)))
    refine (namesOfNeed_any needs _ W1 (unhid SD).1 (unhid H2b)).mono ?_
    rintro e W2 ⟨u, rfl, hown, hb⟩
    have hD2 : Below W0.heap.size W0 W2 := (unhid HD).trans (hb.mono (unhid HD).size)
    obtain ⟨ua, uc, hu, -, -, -⟩ := ownsRow_txts hown
    subst hu
    refine ⟨_, rfl, hK.out _ _ hD2 ?_⟩
    clear hK K
    simp only [Act.put, List.setIfInBounds_toArray, List.set_cons_zero, List.set_cons_succ]
    have ho2 := ownsRow_lowerS hown (unhid HD).size
    clear hown hb HD
    refine held_op 5 (by kernel_rfl) (by kernel_rfl) rfl (fun K hK => ?_)
    go_simp
    have HD2 := hid (hD2.alloc hD2.size (.cells #[.string name] 9))
    refine hK.out _ _ (unhid HD2) ?_
    clear hK K
    have HO := hid (ho2.alloc (.cells #[.string name] 9))
    have HC := hid (cell_newN W2 (.string name) 9)
    clear ho2 hD2
    generalize W2.alloc (.cells #[.string name] 9) = W3 at HD2 HO HC ⊢
    generalize W2.heap.size = gx at HC ⊢
    -- the names are one row
    refine held_name 6 10 W0.heap.size (.slice ua (namesN needs).length uc) (namesN needs) name gx (by kernel_rfl) (by kernel_rfl) rfl rfl rfl rfl rfl rfl (unhid HO) (unhid HC) (by have := (unhid SD).1; rw [namesN_len]; omega) (unhid HD2).size ?_
    intro v' W5 hown hg
    have hD5 : Below W0.heap.size W0 W5 := grown_belowN (unhid HD2) hg (fun j ej => ((unhid HO).lt j ej).1)
    refine ⟨hD5, ?_⟩
    simp only [Act.put, List.setIfInBounds_toArray, List.set_cons_zero, List.set_cons_succ]
    have HO5 := hid hown
    have HD5 := hid hD5
    clear hown hg HO HC HD2 hD5
    have hba : ∀ {q : Prop}, (CW (fun w' => Below W0.heap.size W0 w') → q) ↔ q := CW.all (Below.refl _ W0)
    refine held_here [false, false, false, false, false, false, false, true] (by kernel_rfl) (by kernel_rfl) (fun _ _ _ _ _ h => h) (unhid HD5) ?_
    dsimp only [pick]
    repeat (go_big_quiet_step (fail))
    refine wpQuiet_nil ?_
    refine held_done (by kernel_rfl) ?_
    clear hba
    obtain ⟨va, vc, hv, -, -, -⟩ := ownsRow_txts (unhid HO5)
    subst hv
    have HNM := hid (twice_swap name (namesN needs))
    have HNL := hid (show (namesN needs ++ [name]).length = needs.length + 1 by rw [List.length_append, namesN_len]; rfl)
    generalize namesN needs ++ [name] = nm at *
    have HB5 := hid ((unhid HB).trans ((unhid HD5).mono (unhid HB).size))
    have JP5 := hid (((unhid HD5).block _ (unhid JS)).trans (unhid JP))
    have JS5 := hid (Nat.lt_of_lt_of_le (unhid JS) (unhid HD5).size)
    have HN5 := hid (unhid HB).size
    clear HD5 HB JP JS H2b
    have c0 := cell_arrS (unhid JP5) 0 _ rfl
    go_wp2_with fail
    clear c0
    refine (packNameOk_any name (le_maxLen (unhid SN)) _).mono ?_
    rintro x w1 ⟨rfl, hb⟩
    have HB6 := hid ((unhid HB5).trans (hb.mono (unhid HB5).size))
    have JP6 := hid ((hb.block _ (unhid JS5)).trans (unhid JP5))
    have JS6 := hid (Nat.lt_of_lt_of_le (unhid JS5) hb.size)
    have HO6 := hid (ownsRow_belowS (unhid HO5) hb)
    clear hb HB5 JP5 JS5 HO5
    have c1 := cell_arrS (unhid JP6) 1 _ rfl
    cases q1 : packB name.data.toList with
    | false =>
      go_wp2_with fail
      go_ret
      exact ⟨by rw [unhid EQ, q1]; rfl, unhid HB6⟩
    | true =>
    go_wp2_with fail
    clear c1
    refine (VersionOk_any version (le_maxLen (unhid SV)) _).mono ?_
    rintro x w2 ⟨rfl, hb⟩
    have HB7 := hid ((unhid HB6).trans (hb.mono (unhid HB6).size))
    have JP7 := hid ((hb.block _ (unhid JS6)).trans (unhid JP6))
    have JS7 := hid (Nat.lt_of_lt_of_le (unhid JS6) hb.size)
    have HO7 := hid (ownsRow_belowS (unhid HO6) hb)
    clear hb HB6 JP6 JS6 HO6
    have c2 := cell_arrS (unhid JP7) 2 _ rfl
    cases q2 : versOk version.data.toList with
    | false =>
      go_wp2_with fail
      go_ret
      exact ⟨by rw [unhid EQ, q1, q2]; rfl, unhid HB7⟩
    | true =>
    go_wp2_with fail
    clear c2
    refine (listOkNeed_any needs _ _ (unhid SD) ((unhid H2).below (unhid HB7))).mono ?_
    rintro x w3 ⟨rfl, hb⟩
    have HB8 := hid ((unhid HB7).trans (hb.mono (unhid HB7).size))
    have JP8 := hid ((hb.block _ (unhid JS7)).trans (unhid JP7))
    have JS8 := hid (Nat.lt_of_lt_of_le (unhid JS7) hb.size)
    have HO8 := hid (ownsRow_belowS (unhid HO7) hb)
    clear hb HB7 JP7 JS7 HO7
    cases q3 : (needs.all needOkD && decide (needs.length ≤ 6)) with
    | false =>
      go_wp2_with fail
      go_ret
      exact ⟨by rw [unhid EQ, q1, q2, q3]; rfl, unhid HB8⟩
    | true =>
    have hnl : needs.length ≤ 6 := by
      rw [Bool.and_eq_true] at q3
      exact of_decide_eq_true q3.2
    have hnn : nm.length ≤ 4294967296 := by rw [unhid HNL]; omega
    have HT := hid (anyTwice_any nm _ W0.heap.size w3 hnn (unhid HO8))
    have hlo := hid (show ∀ j, (Value.slice va nm.length vc).ownBlock = some j → W0.heap.size ≤ j from fun j ej => ((unhid HO8).lt j ej).1)
    clear hnl hnn HO8
    go_wp2_with fail
    refine (unhid HT).mono ?_
    rintro x w4 ⟨rfl, hg⟩
    have HB9 := hid (grown_belowN (unhid HB8) hg (fun j ej => Nat.le_trans (unhid HN5) (unhid hlo j ej)))
    have JP9 := hid ((hg.block _ (unhid JS8) (fun e => by have h1 := unhid hlo _ e.symm; have h2 := unhid HLT; omega)).trans (unhid JP8))
    clear hg HT hlo HB8 JP8 JS8 HN5
    rw [unhid HNM]
    have c3 := cell_arrS (unhid JP9) 3 _ rfl
    cases q4 : twiceB (name :: namesN needs) with
    | true =>
      go_wp2_with fail
      go_ret
      exact ⟨by rw [unhid EQ, q1, q2, q3, q4]; rfl, unhid HB9⟩
    | false =>
    go_wp2_with fail
    clear c3
    refine (treeOkP_any (entsD tree) ta tc _ (unhid ST) ((unhid H3).below (unhid HB9))).mono ?_
    rintro x w5 ⟨rfl, hb⟩
    have HBa := hid ((unhid HB9).trans (hb.mono (unhid HB9).size))
    clear hb HB9
    go_wp2_with fail
    go_ret
    exact ⟨by rw [unhid EQ, q1, q2, q3, q4]; rfl, unhid HBa⟩
  · go_simp
    have HDb := hid ((unhid HD).alloc (unhid HD).size (.cells #[.string name] 9))
    refine hK.out _ _ (unhid HDb) ?_
    clear hK K
    have hC0 := cell_newN W1 (.string name) 9
    have hlt0 : W1.heap.size < (W1.alloc (.cells #[.string name] 9)).heap.size := by simp
    clear HD
    generalize W1.alloc (.cells #[.string name] 9) = W2 at HDb hC0 hlt0 ⊢
    generalize W1.heap.size = gx at hC0 hlt0 ⊢
    have HC0 := hid hC0
    have HLT0 := hid hlt0
    clear hC0 hlt0
    refine held_op 2 (by kernel_rfl) (by kernel_rfl) rfl (fun K hK => ?_)
    refine call_op 59 6 (enters_of Tryz.func59 (by kernel_rfl) rfl) #[.slice na needs.length nc, .func (.func 60) #[] #[]] rfl rfl rfl rfl ?_
    have H2b := hid (((unhid H2).below (unhid HB)).below ((unhid HDb).mono (Nat.le_refl _)))
    refine (namesOfNeed_any needs _ W2 (unhid SD).1 (unhid H2b)).mono ?_
    rintro e W3 ⟨u, rfl, hown, hb⟩
    have HD2 := hid ((unhid HDb).trans (hb.mono (unhid HDb).size))
    obtain ⟨ua, uc, hu, -, -, -⟩ := ownsRow_txts hown
    subst hu
    refine ⟨_, rfl, hK.out _ _ (unhid HD2) ?_⟩
    clear hK K
    simp only [Act.put, List.setIfInBounds_toArray, List.set_cons_zero, List.set_cons_succ]
    have HO := hid (ownsRow_lowerS hown (unhid HDb).size)
    have HC := hid ((hb.cell (p := ⟨gx, 0, none⟩) (unhid HLT0)).trans (unhid HC0))
    clear hown hb HDb HC0 HLT0
    -- the names are one row
    refine held_name 6 10 W0.heap.size (.slice ua (namesN needs).length uc) (namesN needs) name gx (by kernel_rfl) (by kernel_rfl) rfl rfl rfl rfl rfl rfl (unhid HO) (unhid HC) (by have := (unhid SD).1; rw [namesN_len]; omega) (unhid HD2).size ?_
    intro v' W5 hown hg
    have hD5 : Below W0.heap.size W0 W5 := grown_belowN (unhid HD2) hg (fun j ej => ((unhid HO).lt j ej).1)
    refine ⟨hD5, ?_⟩
    simp only [Act.put, List.setIfInBounds_toArray, List.set_cons_zero, List.set_cons_succ]
    have HO5 := hid hown
    have HD5 := hid hD5
    clear hown hg HO HC HD2 hD5
    have hba : ∀ {q : Prop}, (CW (fun w' => Below W0.heap.size W0 w') → q) ↔ q := CW.all (Below.refl _ W0)
    refine held_here [false, false, false, false, false, false, false, true] (by kernel_rfl) (by kernel_rfl) (fun _ _ _ _ _ h => h) (unhid HD5) ?_
    dsimp only [pick]
    repeat (go_big_quiet_step (fail))
    refine wpQuiet_nil ?_
    refine held_done (by kernel_rfl) ?_
    clear hba
    obtain ⟨va, vc, hv, -, -, -⟩ := ownsRow_txts (unhid HO5)
    subst hv
    have HNM := hid (twice_swap name (namesN needs))
    have HNL := hid (show (namesN needs ++ [name]).length = needs.length + 1 by rw [List.length_append, namesN_len]; rfl)
    generalize namesN needs ++ [name] = nm at *
    have HB5 := hid ((unhid HB).trans ((unhid HD5).mono (unhid HB).size))
    have JP5 := hid (((unhid HD5).block _ (unhid JS)).trans (unhid JP))
    have JS5 := hid (Nat.lt_of_lt_of_le (unhid JS) (unhid HD5).size)
    have HN5 := hid (unhid HB).size
    clear HD5 HB JP JS H2b
    have c0 := cell_arrS (unhid JP5) 0 _ rfl
    go_wp2_with fail
    clear c0
    refine (packNameOk_any name (le_maxLen (unhid SN)) _).mono ?_
    rintro x w1 ⟨rfl, hb⟩
    have HB6 := hid ((unhid HB5).trans (hb.mono (unhid HB5).size))
    have JP6 := hid ((hb.block _ (unhid JS5)).trans (unhid JP5))
    have JS6 := hid (Nat.lt_of_lt_of_le (unhid JS5) hb.size)
    have HO6 := hid (ownsRow_belowS (unhid HO5) hb)
    clear hb HB5 JP5 JS5 HO5
    have c1 := cell_arrS (unhid JP6) 1 _ rfl
    cases q1 : packB name.data.toList with
    | false =>
      go_wp2_with fail
      go_ret
      exact ⟨by rw [unhid EQ, q1]; rfl, unhid HB6⟩
    | true =>
    go_wp2_with fail
    clear c1
    refine (VersionOk_any version (le_maxLen (unhid SV)) _).mono ?_
    rintro x w2 ⟨rfl, hb⟩
    have HB7 := hid ((unhid HB6).trans (hb.mono (unhid HB6).size))
    have JP7 := hid ((hb.block _ (unhid JS6)).trans (unhid JP6))
    have JS7 := hid (Nat.lt_of_lt_of_le (unhid JS6) hb.size)
    have HO7 := hid (ownsRow_belowS (unhid HO6) hb)
    clear hb HB6 JP6 JS6 HO6
    have c2 := cell_arrS (unhid JP7) 2 _ rfl
    cases q2 : versOk version.data.toList with
    | false =>
      go_wp2_with fail
      go_ret
      exact ⟨by rw [unhid EQ, q1, q2]; rfl, unhid HB7⟩
    | true =>
    go_wp2_with fail
    clear c2
    refine (listOkNeed_any needs _ _ (unhid SD) ((unhid H2).below (unhid HB7))).mono ?_
    rintro x w3 ⟨rfl, hb⟩
    have HB8 := hid ((unhid HB7).trans (hb.mono (unhid HB7).size))
    have JP8 := hid ((hb.block _ (unhid JS7)).trans (unhid JP7))
    have JS8 := hid (Nat.lt_of_lt_of_le (unhid JS7) hb.size)
    have HO8 := hid (ownsRow_belowS (unhid HO7) hb)
    clear hb HB7 JP7 JS7 HO7
    cases q3 : (needs.all needOkD && decide (needs.length ≤ 6)) with
    | false =>
      go_wp2_with fail
      go_ret
      exact ⟨by rw [unhid EQ, q1, q2, q3]; rfl, unhid HB8⟩
    | true =>
    have hnl : needs.length ≤ 6 := by
      rw [Bool.and_eq_true] at q3
      exact of_decide_eq_true q3.2
    have hnn : nm.length ≤ 4294967296 := by rw [unhid HNL]; omega
    have HT := hid (anyTwice_any nm _ W0.heap.size w3 hnn (unhid HO8))
    have hlo := hid (show ∀ j, (Value.slice va nm.length vc).ownBlock = some j → W0.heap.size ≤ j from fun j ej => ((unhid HO8).lt j ej).1)
    clear hnl hnn HO8
    go_wp2_with fail
    refine (unhid HT).mono ?_
    rintro x w4 ⟨rfl, hg⟩
    have HB9 := hid (grown_belowN (unhid HB8) hg (fun j ej => Nat.le_trans (unhid HN5) (unhid hlo j ej)))
    have JP9 := hid ((hg.block _ (unhid JS8) (fun e => by have h1 := unhid hlo _ e.symm; have h2 := unhid HLT; omega)).trans (unhid JP8))
    clear hg HT hlo HB8 JP8 JS8 HN5
    rw [unhid HNM]
    have c3 := cell_arrS (unhid JP9) 3 _ rfl
    cases q4 : twiceB (name :: namesN needs) with
    | true =>
      go_wp2_with fail
      go_ret
      exact ⟨by rw [unhid EQ, q1, q2, q3, q4]; rfl, unhid HB9⟩
    | false =>
    go_wp2_with fail
    clear c3
    refine (treeOkP_any (entsD tree) ta tc _ (unhid ST) ((unhid H3).below (unhid HB9))).mono ?_
    rintro x w5 ⟨rfl, hb⟩
    have HBa := hid ((unhid HB9).trans (hb.mono (unhid HB9).size))
    clear hb HB9
    go_wp2_with fail
    go_ret
    exact ⟨by rw [unhid EQ, q1, q2, q3, q4]; rfl, unhid HBa⟩
end Go.Proofs.YtlnpjiabdebmgaaGreat

/- The way from a walk to a row: what lay below is as it was. -/
namespace Go.Proofs.YtlnpjiabdebmgaaGreat
open Go.ChangeShapes Go.WideShapes Go.ChangeAt Go.RowKit

theorem own : ownKnob Tryz.prog.godebug = none := by kernel_rfl
theorem laidOut : laidOutB Tryz.prog = true := by kernel_rfl

theorem post_below {H : Type} {enc : TypeId × Value → H} {P : Program} {f : Func} {s : ChangeSpec} {apart fresh handsOn : Bool} {W W' : World} {args : Array Value} {v : Value} {ds gs : List (DataW H)} {before pa pv : List MemPlace}
    (hW : DataW.Whole enc P f.params.toList s.vars apart W args.toList ds gs before)
    (hres : ∀ (b : Nat) (sp : Nat → Bool) (hd : Bool), DataW.TrodAll enc P W' b sp hd f.resultTypes.toList (v.resultList f.resultTypes.size) (s.fn H (ds ++ gs)).results [])
    (hargs : DataW.TrodAll enc P W' 0 (fun b => decide (b < W.heap.size)) true f.params.toList args.toList (s.fn H (ds ++ gs)).args pa)
    (hvars : DataW.TrodVars enc P W' (fun b => decide (b < W.heap.size)) s.vars (s.fn H (ds ++ gs)).vars pv)
    (hps : before = pa ++ pv) (hB : Below W.heap.size W W') :
    s.post enc P f apart fresh handsOn false W args v W' := by
  refine ⟨ds, gs, before, [], pa, pv, hW, hres _ _ _, hargs, hvars, World.keptBut_mono (fun p hp => ⟨hp, ?_⟩) (hB.frame (· ∈ before)), fun h => by cases h⟩
  rw [hps, List.mem_append] at hp
  exact Or.inr hp
end Go.Proofs.YtlnpjiabdebmgaaGreat

/- What data that is handed over holds, by its shape. -/
namespace Go.Proofs.YtlnpjiabdebmgaaGreat
open Go.ChangeShapes Go.WideShapes Go.ChangeAt Go.RowKit

def Opens (K : CK) (ty : Nat) : Prop := ∀ (H : Type) (enc : TypeId × Value → H) (W : World) (n : Nat) (cs : List Value) (x : DataW H × List MemPlace), DataW.trod enc Tryz.prog W 0 (fun _ => true) true n ty cs = some x → (∀ y ∈ x.2, y.block < W.heap.size) → ∃ d, K.at_ W cs d ∧ K.big d
theorem opens_txt : Opens txtC 9 := fun H enc W n cs x h _ => by
  obtain ⟨s, e, _, z⟩ := DataW.trod_string (by kernel_rfl) h
  exact ⟨s, e, z⟩
theorem opens_int : Opens intC 3 := fun H enc W n cs x h _ => by
  obtain ⟨k, e, _, hk⟩ := DataW.trod_int (k := .i64) (by kernel_rfl) h
  exact ⟨k, e, show -9223372036854775808 ≤ k ∧ k ≤ 9223372036854775807 by simpa [Lit.wf, IntKind.min, IntKind.max, IntKind.signed, IntKind.bits] using hk⟩
theorem list_ofS {α : Type} {p : Nat → α → Prop} : ∀ n, (∀ i, i < n → ∃ e, p i e) → ∃ es : List α, es.length = n ∧ ∀ (i : Nat) e, es[i]? = some e → p i e
  | 0, _ => ⟨[], rfl, fun i e h => by simp at h⟩
  | n + 1, h => by
    obtain ⟨es, hl, hp⟩ := list_ofS n (fun i hi => h i (by omega))
    obtain ⟨e, he⟩ := h n (by omega)
    refine ⟨es ++ [e], by simp [hl], fun i x hx => ?_⟩
    rcases Nat.lt_or_ge i es.length with hi | hi
    · rw [List.getElem?_append_left hi] at hx; exact hp i x hx
    · rw [List.getElem?_append_right hi] at hx
      have : i - es.length = 0 := by
        rcases Nat.eq_zero_or_pos (i - es.length) with h0 | h0
        · exact h0
        · rw [List.getElem?_eq_none (by simp; omega)] at hx; cases hx
      rw [this] at hx
      simp at hx
      subst hx
      have : i = n := by omega
      rw [this]; exact he
theorem add_plainS (b o n : Nat) : (⟨b, o, none⟩ : Addr).add n = ⟨b, o + n, none⟩ := by simp [Addr.add]
theorem opens_row {K : CK} {ety sty ty : Nat} (hs : Tryz.prog.underlying sty = some (.slice ety)) (hc : Tryz.prog.cellsOf ety = K.n) (hpos : 0 < K.n) (ho : Opens K ety) : Opens (rowC K ty) sty := by
  intro H enc W n cs x h hlt
  rcases Deep.open_slice hs h with ⟨rfl, rfl⟩ | ⟨a, len, cap, m, n', D, Pl, rfl, _, hl, hm, hmm, rfl, hcell⟩
  · exact ⟨[], ⟨_, rfl, none, 0, rfl, fun _ => rfl, Nat.le_refl _, .inl rfl⟩, Nat.zero_le _, fun d hd => by cases hd⟩
  · rw [hc] at hcell hlt
    simp only [if_true] at hmm
    by_cases hl0 : len = 0
    · subst hl0
      exact ⟨[], ⟨_, rfl, some a, cap, rfl, (fun e => by cases e), Nat.zero_le _, .inl rfl⟩, Nat.zero_le _, fun d hd => by cases hd⟩
    · obtain ⟨b, off, spot⟩ := a
      have hspot : spot = none := by
        obtain ⟨cs, h1, _⟩ := hcell 0 (by omega)
        obtain ⟨_, hlen, hc'⟩ := World.cells?_some h1
        have := hc' 0 (by omega)
        rw [List.getElem?_eq_getElem (by omega)] at this
        simpa [Addr.add] using World.cell?_spot this
      subst hspot
      have hbW : b < W.heap.size := hlt (.cell b off) (List.mem_append_left _ (MemPlace.mem_row.2 ⟨0, Nat.mul_pos (by omega) hpos, by simp⟩))
      obtain ⟨es, hes, hall⟩ := list_ofS (p := fun i (e : K.D) => (∃ cs, K.at_ W cs e ∧ ∀ j c, cs[j]? = some c → W.cell? ⟨b, off + i * K.n + j, none⟩ = some c) ∧ K.big e) len (fun i hi => by
        obtain ⟨cs', h1, h2⟩ := hcell i (by omega)
        rw [add_plainS] at h1
        obtain ⟨d, hd1, hd2⟩ := ho H enc W _ cs' _ h2 (fun y hy => hlt y (List.mem_append_right _ (List.mem_flatMap.2 ⟨i, List.mem_range.2 (by omega), hy⟩)))
        obtain ⟨_, hlen, hc'⟩ := World.cells?_some h1
        refine ⟨d, ⟨cs', hd1, fun j c hj => ?_⟩, hd2⟩
        have := hc' j (by have := (List.getElem?_eq_some_iff.1 hj).1; omega)
        rw [hj, add_plainS] at this
        exact this)
      subst hes
      refine ⟨es, ⟨_, rfl, _, cap, rfl, (fun e => by cases e), hl, .inr ⟨b, off, rfl, hbW, fun i e hi => (hall i e hi).1⟩⟩, by omega, fun d hd => ?_⟩
      obtain ⟨i, hi⟩ := List.getElem?_of_mem hd
      exact (hall i d hi).2
set_option maxRecDepth 100000 in
theorem agg_of {H : Type} {enc : TypeId × Value → H} {K : CK} {ty base : Nat} {fs : Array Field} {W : World} {v : Value} {d0 : DataW H} {p : List MemPlace} (hs : Tryz.prog.underlying ty = some (.struct fs)) (ho : Opens K ty) (hv : Value.okWide Tryz.prog W .any base ty v) (h : DataW.Trod enc Tryz.prog W 0 (fun _ => true) true ty v d0 p) (hlt : ∀ x ∈ p, x.block < W.heap.size) :
    ∃ d, aggAt K W v d ∧ K.big d := by
  obtain ⟨cs, rfl, _⟩ := okWide_struct hs hv
  obtain ⟨fuel, hf⟩ := h
  obtain ⟨d, h1, h2⟩ := ho H enc W fuel _ _ hf hlt
  exact ⟨d, ⟨cs.toList, by simp, by simpa [Value.cells] using h1⟩, h2⟩
set_option maxRecDepth 100000 in
theorem rowv_of {H : Type} {enc : TypeId × Value → H} {K : CK} {ety sty base ty : Nat} {W : World} {v : Value} {d0 : DataW H} {p : List MemPlace} (hs : Tryz.prog.underlying sty = some (.slice ety)) (ho : Opens (rowC K ty) sty) (hv : Value.okWide Tryz.prog W .any base sty v) (h : DataW.Trod enc Tryz.prog W 0 (fun _ => true) true sty v d0 p) (hlt : ∀ x ∈ p, x.block < W.heap.size) :
    ∃ ds, rowAt K W v ds ∧ (ds.length ≤ maxLen ∧ ∀ d ∈ ds, K.big d) := by
  obtain ⟨a0, len, cap, rfl⟩ := okWide_slice hs hv
  obtain ⟨fuel, hf⟩ := h
  obtain ⟨ds, ⟨v', e, h1⟩, h2⟩ := ho H enc W fuel _ _ hf hlt
  have : v' = .slice a0 len cap := by simpa [Value.cells] using e.symm
  subst this
  exact ⟨ds, h1, h2⟩
theorem aggAt.below {K : CK} {W W' : World} {v : Value} {d : K.D} (h : aggAt K W v d) (hb : Below W.heap.size W W') : aggAt K W' v d := by
  obtain ⟨cs, h1, h2⟩ := h
  exact ⟨cs, h1, K.below h2 hb⟩
theorem vfresh {K : Kind} {W W' : World} {v : Value} {d : K.D} {F : List Nat} (h : K.own W v d F) (hb : Below W.heap.size W W') : K.own W' v d F := K.frame h (fun k hk => hb.block k (K.lt h k hk))
theorem vonly {K : Kind} {W W' : World} {v : Value} {d : K.D} {F G : List Nat} (h : K.own W v d F) (ho : Only G W W') (hd : ∀ k ∈ F, k ∉ G) : K.own W' v d F := K.frame h (fun k hk => ho.block k (K.lt h k hk) (hd k hk))
end Go.Proofs.YtlnpjiabdebmgaaGreat

/- Entry: what is handed over of it; the words of the exact laws. (Written by mkshape.py.) -/
namespace Go.Proofs.YtlnpjiabdebmgaaGreat
open Go.ChangeShapes Go.WideShapes Go.ChangeAt Go.RowKit

set_option maxHeartbeats 1000000 in
set_option maxRecDepth 100000 in
theorem opens_Entry : Opens entryC 123 := by
  intro H enc W n cs x h hlt
  obtain ⟨xs, m, _, rfl, hl, hlen, hf⟩ := DataW.trod_struct Tryz.underlying123 h
  have hcn : Tryz.prog.cellsOf 123 = 4 := by kernel_rfl
  rw [hcn] at hl
  match cs, hl, xs, hlen with
  | [c0, c1, c2, c3], _, [y0, y1, y2, y3], _ =>
    obtain ⟨d0, a0, b0⟩ := opens_txt H enc W m [c0] y0 (hf 0 _ rfl) (fun y hy => hlt y (by simp [hy]))
    obtain ⟨d1, a1, b1⟩ := opens_int H enc W m [c1] y1 (hf 1 _ rfl) (fun y hy => hlt y (by simp [hy]))
    obtain ⟨d2, a2, b2⟩ := opens_int H enc W m [c2] y2 (hf 2 _ rfl) (fun y hy => hlt y (by simp [hy]))
    obtain ⟨d3, a3, b3⟩ := opens_txt H enc W m [c3] y3 (hf 3 _ rfl) (fun y hy => hlt y (by simp [hy]))
    exact ⟨⟨d0, d1, d2, d3⟩, ⟨[c0], [c1, c2, c3], rfl, a0, ⟨[c1], [c2, c3], rfl, a1, ⟨[c2], [c3], rfl, a2, a3⟩⟩⟩, ⟨b0, b1, b2, b3⟩⟩
set_option maxRecDepth 100000 in
theorem entry_of {H : Type} {enc : TypeId × Value → H} {base : Nat} {W : World} {v : Value} {d0 : DataW H} {p : List MemPlace} (hv : Value.okWide Tryz.prog W .any base 123 v) (h : DataW.Trod enc Tryz.prog W 0 (fun _ => true) true 123 v d0 p) (hlt : ∀ x ∈ p, x.block < W.heap.size) : ∃ d : EntryD, aggAt entryC W v d ∧ entryC.big d := agg_of Tryz.underlying123 opens_Entry hv h hlt
set_option maxRecDepth 100000 in
theorem entry_ofS {H : Type} {enc : TypeId × Value → H} {base : Nat} {W : World} {v : Value} {d0 : DataW H} {p : List MemPlace} (hv : Value.okWide Tryz.prog W .any base 23 v) (h : DataW.Trod enc Tryz.prog W 0 (fun _ => true) true 23 v d0 p) (hlt : ∀ x ∈ p, x.block < W.heap.size) : ∃ ds, rowAt entryC W v ds ∧ (ds.length ≤ maxLen ∧ ∀ d ∈ ds, entryC.big d) := rowv_of (ty := 90) Tryz.underlying23 (opens_row Tryz.underlying23 (by kernel_rfl) (by decide) opens_Entry) hv h hlt
set_option maxRecDepth 100000 in
theorem vszEntry_v (d : EntryD) (V : Value) (left : Int) (w : World) (hb : entryC.big d) (hl : 0 ≤ left) (hl2 : left ≤ 1048576) (h : aggAt entryC w V d) : Calls Tryz.prog 100 #[V, .int .i64 left] w fun x w' => (∃ r : Int, x = .returned (.int .i64 r) ∧ r ≤ left ∧ (r < 0 ∨ r + entryC.sz d = left)) ∧ Below w.heap.size w w' := by
  obtain ⟨cs, rfl, h⟩ := h
  exact vszEntry_any d cs left w hb hl hl2 h
set_option maxRecDepth 100000 in
theorem vtoEntry_v (d : EntryD) (V : Value) (w : World) (hs : entryC.sz d ≤ 1048576) (h : aggAt entryC w V d) : Calls Tryz.prog 109 #[V] w fun x w' => ∃ (v : Value) (F : List Nat), x = .returned v ∧ (aggK entryC).own w' v d F ∧ (∀ k ∈ F, w.heap.size ≤ k ∧ k < w'.heap.size) ∧ Below w.heap.size w w' := by
  obtain ⟨cs, rfl, h⟩ := h
  exact (vtoEntry_any d cs w hs h).mono fun x w' ⟨cs', F, h1, h2, h3, h4⟩ => ⟨_, F, h1, ⟨cs', rfl, h2⟩, h3, h4⟩
set_option maxRecDepth 100000 in
theorem veqEntry_v (d : EntryD) (v v' : Value) (F F' : List Nat) (w : World) (hb : entryC.big d) (h : (aggK entryC).own w v d F) (h' : (aggK entryC).own w v' d F') : Calls Tryz.prog 72 #[v, v'] w fun x w' => x = .returned (.bool true) ∧ Below w.heap.size w w' := by
  obtain ⟨cs, rfl, h⟩ := h
  obtain ⟨cs', rfl, h'⟩ := h'
  exact veqEntry_same d cs cs' w hb (entryC.toAt h) (entryC.toAt h')
set_option maxRecDepth 100000 in
theorem entry_shape {W : World} {v : Value} {d : EntryD} {F : List Nat} (h : (aggK entryC).own W v d F) : v = .agg #[.string d.path, .int .i64 d.kind, .int .i64 d.mode, .string d.text] := by
  obtain ⟨cs, rfl, h⟩ := h
  obtain ⟨rfl, -⟩ := entryC_own h
  rfl
set_option maxRecDepth 100000 in
theorem vszEntryS_v (ds : List entryC.D) (V : Value) (left : Int) (w : World) (hb : ds.length ≤ maxLen ∧ ∀ d ∈ ds, entryC.big d) (hl : 0 ≤ left) (hl2 : left ≤ 1048576) (h : rowAt entryC w V ds) : Calls Tryz.prog 52 #[V, .int .i64 left] w fun x w' => (∃ r : Int, x = .returned (.int .i64 r) ∧ r ≤ left ∧ (r < 0 ∨ r + (ds.length + szR entryC ds) = left)) ∧ Below w.heap.size w w' := vszEntryS_any ds V left w hb hl hl2 h
set_option maxRecDepth 100000 in
theorem vtoEntryS_v (ds : List entryC.D) (V : Value) (w : World) (hs : ds.length + szR entryC ds ≤ 1048576) (h : rowAt entryC w V ds) : Calls Tryz.prog 58 #[V] w fun x w' => ∃ (v : Value) (F : List Nat), x = .returned v ∧ (rowK entryC 90).own w' v ds F ∧ (∀ k ∈ F, w.heap.size ≤ k ∧ k < w'.heap.size) ∧ Below w.heap.size w w' := vtoEntryS_any ds V w hs h
set_option maxRecDepth 100000 in
theorem veqEntryS_v (ds : List entryC.D) (v v' : Value) (F F' : List Nat) (w : World) (hb : ds.length ≤ maxLen ∧ ∀ d ∈ ds, entryC.big d) (h : (rowK entryC 90).own w v ds F) (h' : (rowK entryC 90).own w v' ds F') : Calls Tryz.prog 24 #[v, v'] w fun x w' => x = .returned (.bool true) ∧ Below w.heap.size w w' := veqEntryS_same ds v v' w hb (rowOwn.toAt h) (rowOwn.toAt h')
set_option maxRecDepth 100000 in
theorem vmarkEntryS_v (ds : List entryC.D) (v : Value) (F : List Nat) (q : Nat) (c : Int) (hcq : c = (q : Int)) (w : World) (hq : 0 < q) (hq2 : q + cntR entryC ds ≤ 20000000) (h : (rowK entryC 90).own w v ds F) : Calls Tryz.prog 26 #[v, .int .i64 c] w fun x w' => (∃ r : Int, x = .returned (.int .i64 r) ∧ r ≤ ((q + cntR entryC ds : Nat) : Int) ∧ ((q + cntR entryC ds : Nat) : Int) ≤ r) ∧ (rowK entryC 90).own w' v (markR entryC q ds) F ∧ Only F w w' := vmarkEntryS_own ds v F q c hcq w hq hq2 h
set_option maxRecDepth 100000 in
theorem vheldEntryS_v (ds : List entryC.D) (v : Value) (F : List Nat) (q : Nat) (c : Int) (hcq : c = (q : Int)) (w : World) (hq : 0 < q) (hq2 : q + cntR entryC ds ≤ 20000000) (h : (rowK entryC 90).own w v (markR entryC q ds) F) : Calls Tryz.prog 27 #[v, .int .i64 c] w fun x w' => (∃ r : Int, x = .returned (.int .i64 r) ∧ r ≤ ((q + cntR entryC ds : Nat) : Int) ∧ ((q + cntR entryC ds : Nat) : Int) ≤ r) ∧ Below w.heap.size w w' := vheldEntryS_at ds v q c hcq w hq hq2 (rowOwn.toAt h)
end Go.Proofs.YtlnpjiabdebmgaaGreat

/- Need: what is handed over of it; the words of the exact laws. (Written by mkshape.py.) -/
namespace Go.Proofs.YtlnpjiabdebmgaaGreat
open Go.ChangeShapes Go.WideShapes Go.ChangeAt Go.RowKit

set_option maxHeartbeats 1000000 in
set_option maxRecDepth 100000 in
theorem opens_Need : Opens needC 121 := by
  intro H enc W n cs x h hlt
  obtain ⟨xs, m, _, rfl, hl, hlen, hf⟩ := DataW.trod_struct Tryz.underlying121 h
  have hcn : Tryz.prog.cellsOf 121 = 3 := by kernel_rfl
  rw [hcn] at hl
  match cs, hl, xs, hlen with
  | [c0, c1, c2], _, [y0, y1, y2], _ =>
    obtain ⟨d0, a0, b0⟩ := opens_txt H enc W m [c0] y0 (hf 0 _ rfl) (fun y hy => hlt y (by simp [hy]))
    obtain ⟨d1, a1, b1⟩ := opens_int H enc W m [c1] y1 (hf 1 _ rfl) (fun y hy => hlt y (by simp [hy]))
    obtain ⟨d2, a2, b2⟩ := opens_txt H enc W m [c2] y2 (hf 2 _ rfl) (fun y hy => hlt y (by simp [hy]))
    exact ⟨⟨d0, d1, d2⟩, ⟨[c0], [c1, c2], rfl, a0, ⟨[c1], [c2], rfl, a1, a2⟩⟩, ⟨b0, b1, b2⟩⟩
set_option maxRecDepth 100000 in
theorem need_of {H : Type} {enc : TypeId × Value → H} {base : Nat} {W : World} {v : Value} {d0 : DataW H} {p : List MemPlace} (hv : Value.okWide Tryz.prog W .any base 121 v) (h : DataW.Trod enc Tryz.prog W 0 (fun _ => true) true 121 v d0 p) (hlt : ∀ x ∈ p, x.block < W.heap.size) : ∃ d : NeedD, aggAt needC W v d ∧ needC.big d := agg_of Tryz.underlying121 opens_Need hv h hlt
set_option maxRecDepth 100000 in
theorem need_ofS {H : Type} {enc : TypeId × Value → H} {base : Nat} {W : World} {v : Value} {d0 : DataW H} {p : List MemPlace} (hv : Value.okWide Tryz.prog W .any base 22 v) (h : DataW.Trod enc Tryz.prog W 0 (fun _ => true) true 22 v d0 p) (hlt : ∀ x ∈ p, x.block < W.heap.size) : ∃ ds, rowAt needC W v ds ∧ (ds.length ≤ maxLen ∧ ∀ d ∈ ds, needC.big d) := rowv_of (ty := 79) Tryz.underlying22 (opens_row Tryz.underlying22 (by kernel_rfl) (by decide) opens_Need) hv h hlt
set_option maxRecDepth 100000 in
theorem vszNeed_v (d : NeedD) (V : Value) (left : Int) (w : World) (hb : needC.big d) (hl : 0 ≤ left) (hl2 : left ≤ 1048576) (h : aggAt needC w V d) : Calls Tryz.prog 99 #[V, .int .i64 left] w fun x w' => (∃ r : Int, x = .returned (.int .i64 r) ∧ r ≤ left ∧ (r < 0 ∨ r + needC.sz d = left)) ∧ Below w.heap.size w w' := by
  obtain ⟨cs, rfl, h⟩ := h
  exact vszNeed_any d cs left w hb hl hl2 h
set_option maxRecDepth 100000 in
theorem vtoNeed_v (d : NeedD) (V : Value) (w : World) (hs : needC.sz d ≤ 1048576) (h : aggAt needC w V d) : Calls Tryz.prog 108 #[V] w fun x w' => ∃ (v : Value) (F : List Nat), x = .returned v ∧ (aggK needC).own w' v d F ∧ (∀ k ∈ F, w.heap.size ≤ k ∧ k < w'.heap.size) ∧ Below w.heap.size w w' := by
  obtain ⟨cs, rfl, h⟩ := h
  exact (vtoNeed_any d cs w hs h).mono fun x w' ⟨cs', F, h1, h2, h3, h4⟩ => ⟨_, F, h1, ⟨cs', rfl, h2⟩, h3, h4⟩
set_option maxRecDepth 100000 in
theorem veqNeed_v (d : NeedD) (v v' : Value) (F F' : List Nat) (w : World) (hb : needC.big d) (h : (aggK needC).own w v d F) (h' : (aggK needC).own w v' d F') : Calls Tryz.prog 116 #[v, v'] w fun x w' => x = .returned (.bool true) ∧ Below w.heap.size w w' := by
  obtain ⟨cs, rfl, h⟩ := h
  obtain ⟨cs', rfl, h'⟩ := h'
  exact veqNeed_same d cs cs' w hb (needC.toAt h) (needC.toAt h')
set_option maxRecDepth 100000 in
theorem need_shape {W : World} {v : Value} {d : NeedD} {F : List Nat} (h : (aggK needC).own W v d F) : v = .agg #[.string d.name, .int .i64 d.kind, .string d.version] := by
  obtain ⟨cs, rfl, h⟩ := h
  obtain ⟨rfl, -⟩ := needC_own h
  rfl
set_option maxRecDepth 100000 in
theorem vszNeedS_v (ds : List needC.D) (V : Value) (left : Int) (w : World) (hb : ds.length ≤ maxLen ∧ ∀ d ∈ ds, needC.big d) (hl : 0 ≤ left) (hl2 : left ≤ 1048576) (h : rowAt needC w V ds) : Calls Tryz.prog 51 #[V, .int .i64 left] w fun x w' => (∃ r : Int, x = .returned (.int .i64 r) ∧ r ≤ left ∧ (r < 0 ∨ r + (ds.length + szR needC ds) = left)) ∧ Below w.heap.size w w' := vszNeedS_any ds V left w hb hl hl2 h
set_option maxRecDepth 100000 in
theorem vtoNeedS_v (ds : List needC.D) (V : Value) (w : World) (hs : ds.length + szR needC ds ≤ 1048576) (h : rowAt needC w V ds) : Calls Tryz.prog 57 #[V] w fun x w' => ∃ (v : Value) (F : List Nat), x = .returned v ∧ (rowK needC 79).own w' v ds F ∧ (∀ k ∈ F, w.heap.size ≤ k ∧ k < w'.heap.size) ∧ Below w.heap.size w w' := vtoNeedS_any ds V w hs h
set_option maxRecDepth 100000 in
theorem veqNeedS_v (ds : List needC.D) (v v' : Value) (F F' : List Nat) (w : World) (hb : ds.length ≤ maxLen ∧ ∀ d ∈ ds, needC.big d) (h : (rowK needC 79).own w v ds F) (h' : (rowK needC 79).own w v' ds F') : Calls Tryz.prog 67 #[v, v'] w fun x w' => x = .returned (.bool true) ∧ Below w.heap.size w w' := veqNeedS_same ds v v' w hb (rowOwn.toAt h) (rowOwn.toAt h')
set_option maxRecDepth 100000 in
theorem vmarkNeedS_v (ds : List needC.D) (v : Value) (F : List Nat) (q : Nat) (c : Int) (hcq : c = (q : Int)) (w : World) (hq : 0 < q) (hq2 : q + cntR needC ds ≤ 20000000) (h : (rowK needC 79).own w v ds F) : Calls Tryz.prog 80 #[v, .int .i64 c] w fun x w' => (∃ r : Int, x = .returned (.int .i64 r) ∧ r ≤ ((q + cntR needC ds : Nat) : Int) ∧ ((q + cntR needC ds : Nat) : Int) ≤ r) ∧ (rowK needC 79).own w' v (markR needC q ds) F ∧ Only F w w' := vmarkNeedS_own ds v F q c hcq w hq hq2 h
set_option maxRecDepth 100000 in
theorem vheldNeedS_v (ds : List needC.D) (v : Value) (F : List Nat) (q : Nat) (c : Int) (hcq : c = (q : Int)) (w : World) (hq : 0 < q) (hq2 : q + cntR needC ds ≤ 20000000) (h : (rowK needC 79).own w v (markR needC q ds) F) : Calls Tryz.prog 133 #[v, .int .i64 c] w fun x w' => (∃ r : Int, x = .returned (.int .i64 r) ∧ r ≤ ((q + cntR needC ds : Nat) : Int) ∧ ((q + cntR needC ds : Nat) : Int) ≤ r) ∧ Below w.heap.size w w' := vheldNeedS_at ds v q c hcq w hq hq2 (rowOwn.toAt h)
end Go.Proofs.YtlnpjiabdebmgaaGreat

/- Pack: what is handed over of it; the words of the exact laws. (Written by mkshape.py.) -/
namespace Go.Proofs.YtlnpjiabdebmgaaGreat
open Go.ChangeShapes Go.WideShapes Go.ChangeAt Go.RowKit

set_option maxHeartbeats 1000000 in
set_option maxRecDepth 100000 in
theorem opens_Pack : Opens packC 25 := by
  intro H enc W n cs x h hlt
  obtain ⟨xs, m, _, rfl, hl, hlen, hf⟩ := DataW.trod_struct Tryz.underlying25 h
  have hcn : Tryz.prog.cellsOf 25 = 4 := by kernel_rfl
  rw [hcn] at hl
  match cs, hl, xs, hlen with
  | [c0, c1, c2, c3], _, [y0, y1, y2, y3], _ =>
    obtain ⟨d0, a0, b0⟩ := opens_txt H enc W m [c0] y0 (hf 0 _ rfl) (fun y hy => hlt y (by simp [hy]))
    obtain ⟨d1, a1, b1⟩ := opens_txt H enc W m [c1] y1 (hf 1 _ rfl) (fun y hy => hlt y (by simp [hy]))
    obtain ⟨d2, a2, b2⟩ := (opens_row (ty := 79) Tryz.underlying22 (by kernel_rfl) (by decide) opens_Need) H enc W m [c2] y2 (hf 2 _ rfl) (fun y hy => hlt y (by simp [hy]))
    obtain ⟨d3, a3, b3⟩ := (opens_row (ty := 90) Tryz.underlying23 (by kernel_rfl) (by decide) opens_Entry) H enc W m [c3] y3 (hf 3 _ rfl) (fun y hy => hlt y (by simp [hy]))
    exact ⟨⟨d0, d1, d2, d3⟩, ⟨[c0], [c1, c2, c3], rfl, a0, ⟨[c1], [c2, c3], rfl, a1, ⟨[c2], [c3], rfl, a2, a3⟩⟩⟩, ⟨b0, b1, b2, b3⟩⟩
set_option maxRecDepth 100000 in
theorem pack_of {H : Type} {enc : TypeId × Value → H} {base : Nat} {W : World} {v : Value} {d0 : DataW H} {p : List MemPlace} (hv : Value.okWide Tryz.prog W .any base 25 v) (h : DataW.Trod enc Tryz.prog W 0 (fun _ => true) true 25 v d0 p) (hlt : ∀ x ∈ p, x.block < W.heap.size) : ∃ d : PackD, aggAt packC W v d ∧ packC.big d := agg_of Tryz.underlying25 opens_Pack hv h hlt
set_option maxRecDepth 100000 in
theorem pack_ofS {H : Type} {enc : TypeId × Value → H} {base : Nat} {W : World} {v : Value} {d0 : DataW H} {p : List MemPlace} (hv : Value.okWide Tryz.prog W .any base 35 v) (h : DataW.Trod enc Tryz.prog W 0 (fun _ => true) true 35 v d0 p) (hlt : ∀ x ∈ p, x.block < W.heap.size) : ∃ ds, rowAt packC W v ds ∧ (ds.length ≤ maxLen ∧ ∀ d ∈ ds, packC.big d) := rowv_of (ty := 31) Tryz.underlying35 (opens_row Tryz.underlying35 (by kernel_rfl) (by decide) opens_Pack) hv h hlt
set_option maxRecDepth 100000 in
theorem vszPack_v (d : PackD) (V : Value) (left : Int) (w : World) (hb : packC.big d) (hl : 0 ≤ left) (hl2 : left ≤ 1048576) (h : aggAt packC w V d) : Calls Tryz.prog 12 #[V, .int .i64 left] w fun x w' => (∃ r : Int, x = .returned (.int .i64 r) ∧ r ≤ left ∧ (r < 0 ∨ r + packC.sz d = left)) ∧ Below w.heap.size w w' := by
  obtain ⟨cs, rfl, h⟩ := h
  exact vszPack_any d cs left w hb hl hl2 h
set_option maxRecDepth 100000 in
theorem vtoPack_v (d : PackD) (V : Value) (w : World) (hs : packC.sz d ≤ 1048576) (h : aggAt packC w V d) : Calls Tryz.prog 14 #[V] w fun x w' => ∃ (v : Value) (F : List Nat), x = .returned v ∧ (aggK packC).own w' v d F ∧ (∀ k ∈ F, w.heap.size ≤ k ∧ k < w'.heap.size) ∧ Below w.heap.size w w' := by
  obtain ⟨cs, rfl, h⟩ := h
  exact (vtoPack_any d cs w hs h).mono fun x w' ⟨cs', F, h1, h2, h3, h4⟩ => ⟨_, F, h1, ⟨cs', rfl, h2⟩, h3, h4⟩
set_option maxRecDepth 100000 in
theorem veqPack_v (d : PackD) (v v' : Value) (F F' : List Nat) (w : World) (hb : packC.big d) (h : (aggK packC).own w v d F) (h' : (aggK packC).own w v' d F') : Calls Tryz.prog 16 #[v, v'] w fun x w' => x = .returned (.bool true) ∧ Below w.heap.size w w' := by
  obtain ⟨cs, rfl, h⟩ := h
  obtain ⟨cs', rfl, h'⟩ := h'
  exact veqPack_same d cs cs' w hb (packC.toAt h) (packC.toAt h')
set_option maxRecDepth 100000 in
theorem pack_shape {W : World} {v : Value} {d : PackD} {F : List Nat} (h : (aggK packC).own W v d F) : ∃ (a2 : Option Addr) (c2 : Nat) (a3 : Option Addr) (c3 : Nat), v = .agg #[.string d.name, .string d.version, .slice a2 d.needs.length c2, .slice a3 d.tree.length c3] := by
  obtain ⟨cs, rfl, h⟩ := h
  obtain ⟨v2, v3, _, _, rfl, -, x2, x3, -⟩ := packC_own h
  obtain ⟨a2, c2, rfl⟩ := rowOwn.slice x2
  obtain ⟨a3, c3, rfl⟩ := rowOwn.slice x3
  exact ⟨a2, c2, a3, c3, rfl⟩
set_option maxRecDepth 100000 in
theorem cntVPack_le (d : PackD) : cntVPack d ≤ 8 * packC.sz d := by
  rw [packC_sz]
  unfold cntVPack
  have h2 := cntNeedS d.needs
  have h3 := cntEntryS d.tree
  omega
set_option maxRecDepth 100000 in
theorem vmarkPack_v (d : PackD) (v : Value) (F : List Nat) (q : Nat) (c : Int) (hcq : c = (q : Int)) (w : World) (hq : 0 < q) (hq2 : q + cntVPack d ≤ 20000000) (h : (aggK packC).own w v d F) : Calls Tryz.prog 30 #[v, .int .i64 c] w fun x w' => (∃ r : Int, x = .returned (.int .i64 r) ∧ r ≤ ((q + cntVPack d : Nat) : Int) ∧ ((q + cntVPack d : Nat) : Int) ≤ r) ∧ (aggK packC).own w' v (markVPack q d) F ∧ Only F w w' := by
  obtain ⟨cs, rfl, h⟩ := h
  exact (vmarkPack_own d cs F q c hcq w hq hq2 h).mono fun x w' ⟨h1, h2, h3⟩ => ⟨h1, ⟨cs, rfl, h2⟩, h3⟩
set_option maxRecDepth 100000 in
theorem vszPackS_v (ds : List packC.D) (V : Value) (left : Int) (w : World) (hb : ds.length ≤ maxLen ∧ ∀ d ∈ ds, packC.big d) (hl : 0 ≤ left) (hl2 : left ≤ 1048576) (h : rowAt packC w V ds) : Calls Tryz.prog 38 #[V, .int .i64 left] w fun x w' => (∃ r : Int, x = .returned (.int .i64 r) ∧ r ≤ left ∧ (r < 0 ∨ r + (ds.length + szR packC ds) = left)) ∧ Below w.heap.size w w' := vszPackS_any ds V left w hb hl hl2 h
set_option maxRecDepth 100000 in
theorem vtoPackS_v (ds : List packC.D) (V : Value) (w : World) (hs : ds.length + szR packC ds ≤ 1048576) (h : rowAt packC w V ds) : Calls Tryz.prog 41 #[V] w fun x w' => ∃ (v : Value) (F : List Nat), x = .returned v ∧ (rowK packC 31).own w' v ds F ∧ (∀ k ∈ F, w.heap.size ≤ k ∧ k < w'.heap.size) ∧ Below w.heap.size w w' := vtoPackS_any ds V w hs h
set_option maxRecDepth 100000 in
theorem veqPackS_v (ds : List packC.D) (v v' : Value) (F F' : List Nat) (w : World) (hb : ds.length ≤ maxLen ∧ ∀ d ∈ ds, packC.big d) (h : (rowK packC 31).own w v ds F) (h' : (rowK packC 31).own w v' ds F') : Calls Tryz.prog 45 #[v, v'] w fun x w' => x = .returned (.bool true) ∧ Below w.heap.size w w' := veqPackS_same ds v v' w hb (rowOwn.toAt h) (rowOwn.toAt h')
set_option maxRecDepth 100000 in
theorem vmarkPackS_v (ds : List packC.D) (v : Value) (F : List Nat) (q : Nat) (c : Int) (hcq : c = (q : Int)) (w : World) (hq : 0 < q) (hq2 : q + cntR packC ds ≤ 20000000) (h : (rowK packC 31).own w v ds F) : Calls Tryz.prog 46 #[v, .int .i64 c] w fun x w' => (∃ r : Int, x = .returned (.int .i64 r) ∧ r ≤ ((q + cntR packC ds : Nat) : Int) ∧ ((q + cntR packC ds : Nat) : Int) ≤ r) ∧ (rowK packC 31).own w' v (markR packC q ds) F ∧ Only F w w' := vmarkPackS_own ds v F q c hcq w hq hq2 h
set_option maxRecDepth 100000 in
theorem vheldPackS_v (ds : List packC.D) (v : Value) (F : List Nat) (q : Nat) (c : Int) (hcq : c = (q : Int)) (w : World) (hq : 0 < q) (hq2 : q + cntR packC ds ≤ 20000000) (h : (rowK packC 31).own w v (markR packC q ds) F) : Calls Tryz.prog 81 #[v, .int .i64 c] w fun x w' => (∃ r : Int, x = .returned (.int .i64 r) ∧ r ≤ ((q + cntR packC ds : Nat) : Int) ∧ ((q + cntR packC ds : Nat) : Int) ≤ r) ∧ Below w.heap.size w w' := vheldPackS_at ds v q c hcq w hq hq2 (rowOwn.toAt h)
end Go.Proofs.YtlnpjiabdebmgaaGreat

/- PackOk of copies in memory of their own. -/
namespace Go.Proofs.YtlnpjiabdebmgaaGreat
open Go.RowKit Go.Shelf

def packOk_0 (d : PackD) : Bool := pkOk d
theorem packOk_spec (d0 : PackD) (v : Value) (F : List Nat) (W : World) (hs : packC.sz d0 ≤ 1048576 ∧ packC.big d0) (h : (aggK packC).own W v d0 F) : Calls Tryz.prog 13 #[v] W fun r W' => r = .returned (.bool (packOk_0 d0)) ∧ Below W.heap.size W W' := by
  obtain ⟨cs, rfl, h⟩ := h
  exact specPackOk_any d0 cs W (smallP_of hs.1) (packC.toAt h)
theorem packOk_impl (d0 : PackD) (v : Value) (F : List Nat) (W : World) (hs : packC.sz d0 ≤ 1048576 ∧ packC.big d0) (h : (aggK packC).own W v d0 F) : Calls Tryz.prog 15 #[v] W fun r W' => r = .returned (.bool (packOk_0 d0)) ∧ Below W.heap.size W W' := by
  obtain ⟨cs, rfl, h⟩ := h
  exact packOk_any d0 cs W (smallP_of hs.1) (packC.toAt h)
end Go.Proofs.YtlnpjiabdebmgaaGreat
