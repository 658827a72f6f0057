/- Texts of this proof, one behind the other; each says at its head what it shows. -/
import Derived.Test.YtedimkcnemhhpaaJoin2
import Derived.Test.YtedimkcnemhhpaaJoin6
/- A region that draws its order, over a class of worlds that need not hold behind its last operation (a store). -/
namespace Go.Proofs.Ytedimkcnemhhpaa
open Go.RowKit

/-- Whatever order is picked from here on, and S holds behind every operation but number kl. -/
def wpAnyE (kl : Nat) (P : Program) (md : Region.Mode) (ops : Array Oper) (Q : Exit → Act → World → Prop) (S : World → Prop) : Nat → Array Bool → Act → World → Prop
  | 0, listed, a, w => Region.ready md ops listed = [] ∧ Q .normal a w
  | fuel + 1, listed, a, w =>
    (Region.ready md ops listed = [] → Q .normal a w) ∧
    ∀ i ∈ Region.ready md ops listed, wpOp P ops Q i (fun a' w' => (i ≠ kl → S w') ∧ wpAnyE kl P md ops Q S fuel (listed.setIfInBounds i true) a' w') a w
/-- Whether number kl waits for number i. -/
def waitsB (md : Region.Mode) (ops : Array Oper) (kl i : Nat) : Bool := ((ops[kl]?).map fun o => o.after.toList.any fun e => Region.binds md e && (e.on == i)).getD false
theorem waits_not {md : Region.Mode} {ops : Array Oper} {kl i : Nat} {listed : Array Bool} (h : waitsB md ops kl i = true) (hi : i ∈ Region.ready md ops listed) : kl ∉ Region.ready md ops listed := by
  intro hk
  obtain ⟨_, o, ho, hall⟩ := mem_ready.1 hk
  unfold waitsB at h
  rw [ho] at h
  simp only [Option.map_some, Option.getD_some, List.any_eq_true, Bool.and_eq_true, beq_iff_eq] at h
  obtain ⟨e, he, hb, rfl⟩ := h
  have h1 := hall e (by simpa using he) hb
  have h0 := (mem_ready.1 hi).1
  rcases Nat.lt_or_ge e.on listed.size with h' | h'
  · simp [h'] at h0 h1; rw [h0] at h1; cases h1
  · simp [Array.getElem?_eq_none h'] at h1
theorem wpAny_of_heldE {kl : Nat} {P : Program} {ops : Array Oper} {Q : Exit → Act → World → Prop} {md : Region.Mode} {S : World → Prop} : ∀ (fuel : Nat) (listed : Array Bool) (a : Act) (w : World), wpAnyE kl P md ops Q S fuel listed a w → wpAny P md ops Q fuel listed a w
  | 0, _, _, _, h => h
  | fuel + 1, _, _, _, h => ⟨h.1, fun i hi => wpOp_mono (fun a' w' h' => wpAny_of_heldE fuel _ a' w' h'.2) (h.2 i hi)⟩
theorem wpAnyE_first {kl : Nat} {P : Program} {ops : Array Oper} {Q : Exit → Act → World → Prop} {md : Region.Mode} {S : World → Prop} {i : Nat} {oi : Oper} {v : Value} (hi : ops[i]? = some oi) (hsel : ∀ (j : Nat) (o : Oper) cs b, ops[j]? = some o → o.op ≠ .select cs b)
    (hQ : ∀ c a w, Q (.panic c) (a.put oi.dst v) w → Q (.panic c) a w) (hkl : waitsB md ops kl i = true) :
    ∀ (fuel : Nat) (listed : Array Bool) (a : Act) (w : World),
      (∀ j oj, ops[j]? = some oj → j ≠ i → listed.getD j true = false → (∀ e ∈ oj.after, Region.binds md e = true → e.on ≠ i) → oi.apart ops oj = true) →
      i ∈ Region.ready md ops listed → YieldsIf P ops S oi v a → S w →
      wpAnyE kl P md ops Q S fuel (listed.setIfInBounds i true) (a.put oi.dst v) w → wpAnyE kl P md ops Q S (fuel + 1) listed a w := by
  intro fuel
  induction fuel with
  | zero =>
    intro listed a w _ hr hy hS H
    refine ⟨fun h => (by rw [h] at hr; cases hr), fun j hj => ?_⟩
    by_cases hji : j = i
    · subst hji; exact hy.wpOp hi hS ⟨fun _ => hS, H⟩
    · have := ready_mono hj hji
      rw [H.1] at this
      cases this
  | succ fuel ih =>
    intro listed a w hfree hr hy hS H
    refine ⟨fun h => (by rw [h] at hr; cases hr), fun j hj => ?_⟩
    by_cases hji : j = i
    · subst hji; exact hy.wpOp hi hS ⟨fun _ => hS, H⟩
    · have hjk : j ≠ kl := fun e => waits_not hkl hr (e ▸ hj)
      have h1 := H.2 j (ready_mono hj hji)
      obtain ⟨hjun, oj, hoj, hall⟩ := mem_ready.1 hj
      have hnot : ∀ e ∈ oj.after, Region.binds md e = true → e.on ≠ i := fun e he hb heq => by
        have h1 := hall e he hb
        have h0 := (mem_ready.1 hr).1
        rw [heq] at h1
        rcases Nat.lt_or_ge i listed.size with h' | h'
        · simp [h'] at h0 h1; rw [h0] at h1; cases h1
        · simp [Array.getElem?_eq_none h'] at h1
      have h2 := wpOp_putIf hoj (hfree j oj hoj hji hjun hnot) (fun cs b => hsel i oi cs b hi) (fun cs b => hsel j oj cs b hoj) hQ hy h1
      have hfree' : ∀ k ok, ops[k]? = some ok → k ≠ i → (listed.setIfInBounds j true).getD k true = false →
          (∀ e ∈ ok.after, Region.binds md e = true → e.on ≠ i) → oi.apart ops ok = true := fun k ok hk hki hun hno => by
        refine hfree k ok hk hki ?_ hno
        by_cases hjk : j = k
        · subst hjk; exact hjun
        · rw [getD_set_ne true hjk] at hun; exact hun
      refine wpOp_mono (fun a' w' h3 => ⟨fun _ => h3.2.1 hjk, ih (listed.setIfInBounds j true) a' w' hfree' (ready_mono hr (Ne.symm hji)) h3.1 (h3.2.1 hjk) ?_⟩) h2
      rw [Array.setIfInBounds_comm _ _ hji]
      exact h3.2.2
theorem wpAnyE_take {kl : Nat} {P : Program} {ops : Array Oper} {Q : Exit → Act → World → Prop} {md : Region.Mode} {S : World → Prop} {i : Nat} {oi : Oper} {v : Value} {fuel : Nat} {listed : Array Bool} {a : Act} {w : World} (hi : ops[i]? = some oi)
    (hs : Region.noSelect ops = true) (hf : Region.free md ops listed i = true) (hr : (Region.ready md ops listed).contains i = true) (hkl : waitsB md ops kl i = true)
    (hQ : ∀ c a w, Q (.panic c) (a.put oi.dst v) w → Q (.panic c) a w) (hy : YieldsIf P ops S oi v a) (hS : S w)
    (h : wpAnyE kl P md ops Q S fuel (listed.setIfInBounds i true) (a.put oi.dst v) w) : wpAnyE kl P md ops Q S (fuel + 1) listed a w :=
  wpAnyE_first hi (Region.noSelect_spec hs) hQ hkl fuel listed a w (Region.free_spec hi hf) (by simpa using hr) hy hS h
/-- Whether the operations of a list may be taken first, one behind the other. -/
def heldEB (kl : Nat) (md : Region.Mode) (ops : Array Oper) : List Nat → Array Bool → Bool
  | [], _ => true
  | i :: is, listed => (Region.ready md ops listed).contains i && Region.free md ops listed i && ((ops[i]?).map plainOp).getD false && waitsB md ops kl i && heldEB kl md ops is (listed.setIfInBounds i true)
theorem heldE_same {kl : Nat} {P : Program} {md : Region.Mode} {ops : Array Oper} {Q : Exit → Act → World → Prop} {S : World → Prop} (hs : Region.noSelect ops = true) (hQ : ∀ c a t v w, Q (.panic c) (Act.put a (some t) v) w → Q (.panic c) a w) (fuel : Nat) : ∀ (is : List Nat) (l : List Oper) (listed : Array Bool) (a : Act) (w : World), is.map (fun i => ops[i]?) = l.map some → heldEB kl md ops is listed = true → S w →
    wpQuiet P ops S (fun a' => wpAnyE kl P md ops Q S fuel (markAll is listed) a' w) l a → wpAnyE kl P md ops Q S (is.length + fuel) listed a w
  | [], [], listed, a, w, _, _, _, h => by rw [List.length_nil, Nat.zero_add]; exact h
  | [], _ :: _, _, _, _, e, _, _, _ => by cases e
  | _ :: _, [], _, _, _, e, _, _, _ => by cases e
  | i :: is, o :: l, listed, a, w, e, hB, hS, h => by
    simp only [List.map_cons, List.cons.injEq] at e
    simp only [heldEB, Bool.and_eq_true] at hB
    obtain ⟨⟨⟨⟨h1, h2⟩, h3⟩, h5⟩, h4⟩ := hB
    rw [e.1] at h3
    obtain ⟨v, hy, hK⟩ := yieldsIf_quiet (by simpa using h3) h
    rw [show (i :: is).length + fuel = (is.length + fuel) + 1 by simp; omega]
    exact wpAnyE_take e.1 hs h2 h1 h5 (fun c a w hq => by cases hd : o.dst with | none => rw [hd] at hq; exact hq | some t => rw [hd] at hq; exact hQ _ _ _ _ _ hq) hy hS (heldE_same hs hQ fuel is l _ _ w e.2 h4 hS hK)
/-- The beginning. -/
theorem heldE_begin {P : Program} {id : Nat} {Q : Exit → Act → World → Prop} {a : Act} {w : World} {l : List Oper} (kl : Nat) (C : World → Prop) (hm : P.follows .mixedOrders = true)
    (h : wpAnyE kl P .any l.toArray Q (fun w' => ∃ x : CW C, w' = x.w) l.length (Array.replicate l.length false) a w.drew) : (Code.region id l.toArray true).wp P Q a w :=
  wp_region_any hm (wpAny_of_heldE _ _ _ _ (by simpa using h))
theorem heldE_here {kl : Nat} {P : Program} {md : Region.Mode} {Q : Exit → Act → World → Prop} {C : World → Prop} {F : Nat} {listed : Array Bool} {a : Act} {w : World} {l : List Oper} (m : List Bool) (hs : Region.noSelect l.toArray = true) (hB : (decide (m.length ≤ l.length) && decide ((maskIx 0 m).length ≤ F) && heldEB kl md l.toArray (maskIx 0 m) listed) = true) (hQ : ∀ c a t v w, Q (.panic c) (Act.put a (some t) v) w → Q (.panic c) a w) (hC : C w)
    (h : wpQuiet P l.toArray (fun w' => ∃ x : CW C, w' = x.w) (fun a' => wpAnyE kl P md l.toArray Q (fun w' => ∃ x : CW C, w' = x.w) (F - (maskIx 0 m).length) (markAll (maskIx 0 m) listed) a' w) (pick l m) a) :
    wpAnyE kl P md l.toArray Q (fun w' => ∃ x : CW C, w' = x.w) F listed a w := by
  simp only [Bool.and_eq_true, decide_eq_true_eq] at hB
  obtain ⟨⟨h1, h2⟩, h3⟩ := hB
  have := heldE_same (P := P) (md := md) (Q := Q) (S := fun w' => ∃ x : CW C, w' = x.w) hs hQ (F - (maskIx 0 m).length) (maskIx 0 m) (pick l m) listed a w (pick_ix l l m 0 h1 (by simp)) h3 ⟨⟨w, hC⟩, rfl⟩ h
  rwa [show (maskIx 0 m).length + (F - (maskIx 0 m).length) = F by omega] at this
def AllReadyE (kl : Nat) (P : Program) (md : Region.Mode) (ops : Array Oper) (Q : Exit → Act → World → Prop) (C : World → Prop) (F : Nat) (listed : Array Bool) (a : Act) (w : World) (rs : List Nat) : Prop :=
  ∀ i ∈ rs, wpOp P ops Q i (fun a' w' => (i ≠ kl → ∃ x : CW C, w' = x.w) ∧ wpAnyE kl P md ops Q (fun w' => ∃ x : CW C, w' = x.w) F (listed.setIfInBounds i true) a' w') a w
theorem AllReadyE.cons {kl : Nat} {P : Program} {md : Region.Mode} {ops : Array Oper} {Q : Exit → Act → World → Prop} {C : World → Prop} {F : Nat} {listed : Array Bool} {a : Act} {w : World} {o : Oper} {k : Nat} {rs : List Nat} (ho : ops[k]? = some o)
    (h : ∀ K' : Act → World → Prop, Shut (∀ a w, (k ≠ kl → C w) → wpAnyE kl P md ops Q (fun w' => ∃ x : CW C, w' = x.w) F (listed.setIfInBounds k true) a w → K' a w) → if Region.wanted o (yielded ops a.tmps) = true then Oper.wp P o a w K' Q else K' (a.put o.dst undef) w)
    (hs : AllReadyE kl P md ops Q C F listed a w rs) : AllReadyE kl P md ops Q C F listed a w (k :: rs) := fun j hj => by
  rcases List.mem_cons.1 hj with rfl | hj
  · exact wpOp_step ho (fun K' hK => h K' (fun a w hS hW => hK a w ⟨fun hne => ⟨⟨w, hS hne⟩, rfl⟩, hW⟩))
  · exact hs j hj
theorem heldE_ready {kl : Nat} {P : Program} {md : Region.Mode} {ops : Array Oper} {Q : Exit → Act → World → Prop} {C : World → Prop} {F : Nat} {listed : Array Bool} {a : Act} {w : World} (rs : List Nat) (hr : Region.ready md ops listed = rs) (hne : rs ≠ []) (hF : decide (0 < F) = true)
    (h : AllReadyE kl P md ops Q C (F - 1) listed a w rs) : wpAnyE kl P md ops Q (fun w' => ∃ x : CW C, w' = x.w) F listed a w := by
  have hF' : F = (F - 1) + 1 := by simp only [decide_eq_true_eq] at hF; omega
  rw [hF']
  exact ⟨fun h0 => absurd (hr ▸ h0) hne, fun i hi => h i (hr ▸ hi)⟩
/-- One operation comes up. -/
theorem heldE_op {kl : Nat} {P : Program} {md : Region.Mode} {ops : Array Oper} {Q : Exit → Act → World → Prop} {C : World → Prop} {F : Nat} {listed : Array Bool} {a : Act} {w : World} {o : Oper} (k : Nat) (hr : Region.ready md ops listed = [k]) (hF : decide (0 < F) = true) (ho : ops[k]? = some o)
    (h : ∀ K' : Act → World → Prop, Shut (∀ a w, C w → wpAnyE kl P md ops Q (fun w' => ∃ x : CW C, w' = x.w) (F - 1) (listed.setIfInBounds k true) a w → K' a w) → if Region.wanted o (yielded ops a.tmps) = true then Oper.wp P o a w K' Q else K' (a.put o.dst undef) w) :
    wpAnyE kl P md ops Q (fun w' => ∃ x : CW C, w' = x.w) F listed a w :=
  heldE_ready [k] hr (by simp) hF (AllReadyE.cons ho (fun K' hK => h K' (fun a w hc hw => hK.out a w (fun _ => hc) hw)) (fun j hj => by cases hj))
/-- The last one. -/
theorem heldE_last {kl : Nat} {P : Program} {md : Region.Mode} {ops : Array Oper} {Q : Exit → Act → World → Prop} {C : World → Prop} {F : Nat} {listed : Array Bool} {a : Act} {w : World} {o : Oper} (hr : Region.ready md ops listed = [kl]) (hF : decide (0 < F) = true) (ho : ops[kl]? = some o)
    (h : ∀ K' : Act → World → Prop, Shut (∀ a w, wpAnyE kl P md ops Q (fun w' => ∃ x : CW C, w' = x.w) (F - 1) (listed.setIfInBounds kl true) a w → K' a w) → if Region.wanted o (yielded ops a.tmps) = true then Oper.wp P o a w K' Q else K' (a.put o.dst undef) w) :
    wpAnyE kl P md ops Q (fun w' => ∃ x : CW C, w' = x.w) F listed a w :=
  heldE_ready [kl] hr (by simp) hF (AllReadyE.cons ho (fun K' hK => h K' (fun a w hw => hK.out a w (fun hne => absurd rfl hne) hw)) (fun j hj => by cases hj))
theorem heldE_op2 {kl : Nat} {P : Program} {md : Region.Mode} {ops : Array Oper} {Q : Exit → Act → World → Prop} {C : World → Prop} {F : Nat} {listed : Array Bool} {a : Act} {w : World} {o o2 : Oper} (k k2 : Nat) (hr : Region.ready md ops listed = [k, k2]) (hF : decide (0 < F) = true) (ho : ops[k]? = some o) (ho2 : ops[k2]? = some o2)
    (h : ∀ K' : Act → World → Prop, Shut (∀ a w, C w → wpAnyE kl P md ops Q (fun w' => ∃ x : CW C, w' = x.w) (F - 1) (listed.setIfInBounds k true) a w → K' a w) → if Region.wanted o (yielded ops a.tmps) = true then Oper.wp P o a w K' Q else K' (a.put o.dst undef) w)
    (h2 : ∀ K' : Act → World → Prop, Shut (∀ a w, C w → wpAnyE kl P md ops Q (fun w' => ∃ x : CW C, w' = x.w) (F - 1) (listed.setIfInBounds k2 true) a w → K' a w) → if Region.wanted o2 (yielded ops a.tmps) = true then Oper.wp P o2 a w K' Q else K' (a.put o2.dst undef) w) :
    wpAnyE kl P md ops Q (fun w' => ∃ x : CW C, w' = x.w) F listed a w :=
  heldE_ready [k, k2] hr (by simp) hF (AllReadyE.cons ho (fun K' hK => h K' (fun a w hc hw => hK.out a w (fun _ => hc) hw)) (AllReadyE.cons ho2 (fun K' hK => h2 K' (fun a w hc hw => hK.out a w (fun _ => hc) hw)) (fun j hj => by cases hj)))
/-- A function is called (in either theory). -/
theorem call_op {P : Program} {ops : Array Oper} {Q : Exit → Act → World → Prop} {K : Act → World → Prop} {a : Act} {w : World} {o : Oper} {args : Array Operand} {ty : Array TypeId} (f d : Nat) (he : ∀ args w, (callFunc f args).run P w = .ok (.enter f args) w) (av : Array Value)
    (hop : o.op = .call ⟨.value (.func f), args, ty⟩) (hw : Region.wanted o (yielded ops a.tmps) = true) (hd : o.dst = some d) (hav : args.toList.map a.eval = av.toList)
    (h : Calls P f av w fun e w' => ∃ v, e = .returned v ∧ K (a.put (some d) v) w') : if Region.wanted o (yielded ops a.tmps) = true then Oper.wp P o a w K Q else K (a.put o.dst undef) w := by
  rw [if_pos hw]
  have hav : args.map a.eval = av := by apply Array.ext'; rw [Array.toList_map]; exact hav
  have hx : (execOp a.eval o).run P w = .ok (.enter f av) w := by
    unfold execOp
    rw [hop]
    simp [resolve, Deferred.ofValue, invoke, he, hav, Act.eval]
  unfold Oper.wp
  rw [hx]
  refine Calls.mono h ?_
  rintro e w' ⟨v, rfl, hn⟩
  show K (a.put o.dst v) w'
  rw [hd]
  exact hn
theorem heldE_done {kl : Nat} {P : Program} {md : Region.Mode} {ops : Array Oper} {Q : Exit → Act → World → Prop} {S : World → Prop} {F : Nat} {listed : Array Bool} {a : Act} {w : World} (hr : Region.ready md ops listed = []) (h : Q .normal a w) : wpAnyE kl P md ops Q S F listed a w := by
  cases F with
  | zero => exact ⟨hr, h⟩
  | succ F => exact ⟨fun _ => h, by rw [hr]; simp⟩
end Go.Proofs.Ytedimkcnemhhpaa

/- What the laws over patches say, of lists of lines and hunks. -/
namespace Go.Proofs.Ytedimkcnemhhpaa
open Go.RowKit Go.Shelf

/-- How many lines more there are behind hunks. -/
def gainH (h : Hk) : Int := ((newL h).length : Int) - ((oldL h).length : Int)
def gainL : List Hk → Int
  | [] => 0
  | h :: hs => gainH h + gainL hs
def sumL : List Hk → Nat
  | [] => 0
  | h :: hs => h.lines.length + sumL hs
theorem gain_trim (h : Hk) (k : Nat) : gainH (trimH h k) = gainH h := by
  have h1 := trim_len 43 h.lines k
  have h2 := trim_len 45 h.lines k
  unfold gainH newL oldL trimH
  dsimp only
  omega
theorem gain_le (h : Hk) : gainH h ≤ (h.lines.length : Int) := by
  have := withX_len 43 h.lines
  unfold gainH newL; omega
theorem gainL_le : ∀ hs : List Hk, gainL hs ≤ (sumL hs : Int)
  | [] => by simp [gainL, sumL]
  | h :: hs => by have := gain_le h; have := gainL_le hs; simp only [gainL, sumL]; omega

theorem doM_gain {s : PSt} {h : Hk} {far : Int} (ht : tryM s h = some far) : (((doM s h far).done.length : Int) + (doM s h far).rest.length = s.done.length + s.rest.length + gainH h) ∧ (doM s h far).far = s.far ++ [far] ∧ -9 < far ∧ far < 9 := by
  obtain ⟨hp, h1, h2⟩ := findM_some ht
  obtain ⟨p1, p2, _⟩ := standB_parts hp
  refine ⟨?_, rfl, h1, h2⟩
  unfold gainH
  simp only [doM, List.length_append, List.length_take, List.length_drop]
  omega
theorem passFrom_gain {s s' : PSt} {h : Hk} : ∀ (f j : Nat), passFrom s h f j = some s' → ((s'.done.length : Int) + s'.rest.length = s.done.length + s.rest.length + gainH h) ∧ ∃ far, s'.far = s.far ++ [far] ∧ -9 < far ∧ far < 9 := by
  intro f
  induction f with
  | zero => intro j e; cases e
  | succ f ih =>
    intro j e
    unfold passFrom at e
    split at e
    · rename_i far ht
      cases e
      obtain ⟨h1, h2, h3⟩ := doM_gain ht
      rw [gain_trim] at h1
      exact ⟨h1, far, h2, h3⟩
    · exact ih (j + 1) e
theorem runM_gain {fuzz : Nat} : ∀ (hs : List Hk) (s s' : PSt), runM fuzz s hs = some s' → ((s'.done.length : Int) + s'.rest.length = s.done.length + s.rest.length + gainL hs) ∧ ∃ fs, s'.far = s.far ++ fs ∧ fs.length = hs.length ∧ ∀ x ∈ fs, -9 < x ∧ x < 9
  | [], s, s', e => by cases e; exact ⟨by simp [gainL], [], by simp, rfl, fun x hx => by cases hx⟩
  | h :: hs, s, s', e => by
    simp only [runM] at e
    obtain ⟨s1, hp, e⟩ := Option.bind_eq_some_iff.1 e
    obtain ⟨a1, far, a2, a3⟩ := passFrom_gain _ _ hp
    obtain ⟨b1, fs, b2, b3, b4⟩ := runM_gain hs s1 s' e
    refine ⟨by simp only [gainL]; omega, far :: fs, by rw [b2, a2]; simp, by simp [b3], fun x hx => ?_⟩
    rcases List.mem_cons.1 hx with rfl | hx
    · exact a3
    · exact b4 x hx

theorem lineB_cut {c : UInt8} {x y : ByteArray} (h : cutX c x = some y) (hx : hkLineB x.data.toList = true) : lineB y.data.toList = true := by
  cases hd : x.data.toList with
  | nil => rw [hd] at hx; cases hx
  | cons d t =>
    have hp : 0 < x.size := by rw [Lib.size_eq, hd]; simp
    rw [str_cons hp] at hx
    simp only [hkLineB, Bool.and_eq_true] at hx
    rw [cutX_cons hp] at h
    split at h
    · cases h; exact hx.2
    · cases h
def linesOk (ls : List ByteArray) : Prop := ∀ x ∈ ls, lineB x.data.toList = true
theorem linesOk_with {c : UInt8} {ls : List ByteArray} (h : linesB ls = true) : linesOk (withX c ls) := fun y hy => by
  obtain ⟨x, hx, hc⟩ := List.mem_filterMap.1 hy
  exact lineB_cut hc (List.all_eq_true.1 h x hx)
theorem linesB_trim {ls : List ByteArray} {f : Nat} (h : linesB ls = true) : linesB (trimL ls f) = true :=
  List.all_eq_true.2 fun x hx => List.all_eq_true.1 h x (trimL_mem hx)
theorem passFrom_lines {s s' : PSt} {h : Hk} (hl : linesB h.lines = true) (hs : linesOk (s.done ++ s.rest)) : ∀ (f j : Nat), passFrom s h f j = some s' → linesOk (s'.done ++ s'.rest) := by
  intro f
  induction f with
  | zero => intro j e; cases e
  | succ f ih =>
    intro j e
    unfold passFrom at e
    split at e
    · rename_i far ht
      cases e
      intro x hx
      simp only [doM, List.mem_append] at hx
      rcases hx with ((hx | hx) | hx) | hx
      · exact hs x (by simp [hx])
      · exact hs x (List.mem_append.2 (.inr (List.mem_of_mem_take hx)))
      · exact linesOk_with (linesB_trim hl) x hx
      · exact hs x (List.mem_append.2 (.inr (List.mem_of_mem_drop hx)))
    · exact ih (j + 1) e
theorem runM_lines {fuzz : Nat} : ∀ (hs : List Hk) (s s' : PSt), (∀ h ∈ hs, linesB h.lines = true) → linesOk (s.done ++ s.rest) → runM fuzz s hs = some s' → linesOk (s'.done ++ s'.rest)
  | [], s, s', _, hs, e => by cases e; exact hs
  | h :: hs, s, s', hl, hs0, e => by
    simp only [runM] at e
    obtain ⟨s1, hp, e⟩ := Option.bind_eq_some_iff.1 e
    exact runM_lines hs s1 s' (fun x hx => hl x (by simp [hx])) (passFrom_lines (hl h (by simp)) hs0 _ _ hp) e
theorem textB_iff {xs : List ByteArray} : textB xs = true ↔ xs.length ≤ 30 ∧ linesOk xs := by
  unfold textB linesOk
  simp only [Bool.and_eq_true, decide_eq_true_eq, List.all_eq_true]
  exact ⟨fun h => ⟨by omega, h.2⟩, fun h => ⟨by omega, h.2⟩⟩
theorem okM_parts {ls : List ByteArray} {hs : List Hk} {fz : Int} : okM ls hs fz = true ↔ textB ls = true ∧ hunksB hs = true ∧ 0 ≤ fz ∧ fz ≤ 2 := by
  unfold okM
  simp only [Bool.and_eq_true, decide_eq_true_eq]

/-- What a patch that was done gives. -/
structure Done (ls : List ByteArray) (hs : List Hk) (fz : Int) (s : PSt) : Prop where
  ok : okM ls hs fz = true
  run : runM fz.toNat (startM ls) hs = some s
  text : textB (s.done ++ s.rest) = true
  p0 : patch_0 ls hs fz = s.done ++ s.rest
  p1 : patch_1 ls hs fz = s.far
theorem done_of {ls : List ByteArray} {hs : List Hk} {fz : Int} (h : patch_2 ls hs fz = true) : ∃ s, Done ls hs fz s := by
  unfold patch_2 at h
  rw [Bool.and_eq_true] at h
  obtain ⟨x, hx⟩ := Option.isSome_iff_exists.1 h.2
  obtain ⟨e0, e1, _⟩ := patch_some h.1 hx
  unfold outM at hx
  obtain ⟨s, hs1, hs2⟩ := Option.bind_eq_some_iff.1 hx
  split at hs2
  · rename_i ht; cases hs2; exact ⟨s, h.1, hs1, ht, e0, e1⟩
  · cases hs2
theorem done_to {ls : List ByteArray} {hs : List Hk} {fz : Int} {s : PSt} (h : okM ls hs fz = true) (hr : runM fz.toNat (startM ls) hs = some s) (ht : textB (s.done ++ s.rest) = true) : patch_2 ls hs fz = true ∧ Done ls hs fz s := by
  have ho : outM ls hs fz = some (s.done ++ s.rest, s.far) := by unfold outM; rw [hr]; simp [ht]
  obtain ⟨e0, e1, e2⟩ := patch_some h ho
  exact ⟨e2, h, hr, ht, e0, e1⟩
theorem patch_not {ls : List ByteArray} {hs : List Hk} {fz : Int} (h : patch_2 ls hs fz = false) : patch_1 ls hs fz = [] ∧ (patch_0 ls hs fz = [] ∨ patch_0 ls hs fz = ls) := by
  cases ho : okM ls hs fz with
  | false => obtain ⟨e0, e1, _⟩ := patch_no ho; exact ⟨e1, .inl e0⟩
  | true =>
    cases hq : outM ls hs fz with
    | none => obtain ⟨e0, e1, _⟩ := patch_none ho hq; exact ⟨e1, .inr e0⟩
    | some x => obtain ⟨_, _, e2⟩ := patch_some ho hq; rw [e2] at h; cases h
theorem patch_not_ok {ls : List ByteArray} {hs : List Hk} {fz : Int} (ho : okM ls hs fz = true) (h : patch_2 ls hs fz = false) : patch_0 ls hs fz = ls := by
  cases hq : outM ls hs fz with
  | none => exact (patch_none ho hq).1
  | some x => obtain ⟨_, _, e2⟩ := patch_some ho hq; rw [e2] at h; cases h
theorem Done.gain {ls : List ByteArray} {hs : List Hk} {fz : Int} {s : PSt} (h : Done ls hs fz s) : ((patch_0 ls hs fz).length : Int) = ls.length + gainL hs ∧ (patch_1 ls hs fz).length = hs.length ∧ ∀ x ∈ patch_1 ls hs fz, -9 < x ∧ x < 9 := by
  obtain ⟨a1, fs, a2, a3, a4⟩ := runM_gain hs _ _ h.run
  rw [h.p0, h.p1, List.length_append]
  simp only [startM, List.length_nil, List.nil_append] at a1 a2
  rw [a2]
  exact ⟨by omega, a3, a4⟩

theorem hunksB_nil : hunksB [] = true := by decide
/-- No hunks. -/
theorem patch_nil (ls : List ByteArray) (fz : Int) (h : patch_2 ls [] fz = true) : patch_0 ls [] fz = ls ∧ patch_1 ls [] fz = [] := by
  obtain ⟨s, hd⟩ := done_of h
  have := hd.run
  simp only [runM, Option.some.injEq] at this
  rw [hd.p0, hd.p1, ← this]
  exact ⟨rfl, rfl⟩
/-- With a fuzz as without. -/
theorem passM_fuzz {s s' : PSt} {h : Hk} (f : Nat) (e : passM s h 0 = some s') : passM s h f = some s' := by
  unfold passM at e ⊢
  simp only [passFrom] at e ⊢
  split at e
  · exact e
  · cases e
theorem runM_fuzz (f : Nat) : ∀ (hs : List Hk) (s s' : PSt), runM 0 s hs = some s' → runM f s hs = some s'
  | [], s, s', e => e
  | h :: hs, s, s', e => by
    simp only [runM] at e ⊢
    obtain ⟨s1, hp, e⟩ := Option.bind_eq_some_iff.1 e
    rw [passM_fuzz f hp]
    exact runM_fuzz f hs s1 s' e
theorem patch_fuzz {ls : List ByteArray} {hs : List Hk} (f : Int) (h0 : 0 ≤ f) (h2 : f ≤ 2) (h : patch_2 ls hs 0 = true) : patch_2 ls hs f = true ∧ patch_0 ls hs f = patch_0 ls hs 0 ∧ patch_1 ls hs f = patch_1 ls hs 0 := by
  obtain ⟨s, hd⟩ := done_of h
  obtain ⟨o1, o2, _, _⟩ := okM_parts.1 hd.ok
  obtain ⟨e, hd2⟩ := done_to (fz := f) (okM_parts.2 ⟨o1, o2, h0, h2⟩) (runM_fuzz f.toNat hs _ _ hd.run) hd.text
  exact ⟨e, hd2.p0.trans hd.p0.symm, hd2.p1.trans hd.p1.symm⟩
/-- Done twice. -/
theorem patch_twice {ls : List ByteArray} {hs : List Hk} {fz : Int} (h : patch_2 ls hs fz = true) :
    (patch_2 (patch_0 ls hs fz) hs fz = false → patch_0 (patch_0 ls hs fz) hs fz = patch_0 ls hs fz) ∧
    (patch_2 (patch_0 ls hs fz) hs fz = true → ((patch_0 (patch_0 ls hs fz) hs fz).length : Int) - (patch_0 ls hs fz).length = (patch_0 ls hs fz).length - ls.length) := by
  obtain ⟨s, hd⟩ := done_of h
  obtain ⟨o1, o2, o3, o4⟩ := okM_parts.1 hd.ok
  refine ⟨fun hn => patch_not_ok (okM_parts.2 ⟨by rw [hd.p0]; exact hd.text, o2, o3, o4⟩) hn, fun hy => ?_⟩
  obtain ⟨s2, hd2⟩ := done_of hy
  have g1 := hd.gain.1
  have g2 := hd2.gain.1
  omega

/-- The first hunks. -/
theorem hkFn_take {hs : List Hk} {n i : Nat} (h : i < n) : hkFn (hs.take n) i = hkFn hs i := by
  unfold hkFn; rw [List.getD_eq_getElem?_getD, List.getD_eq_getElem?_getD, List.getElem?_take, if_pos h]
theorem okAt_take {hs : List Hk} {n i : Nat} (h : i < n) : okAt (hs.take n) i = okAt hs i := by
  unfold okAt
  rw [hkFn_take h]
  congr 2
  cases i with
  | zero => rfl
  | succ i => simp only [lst]; rw [hkFn_take (by omega)]
theorem hunksB_take {hs : List Hk} (n : Nat) (h : hunksB hs = true) : hunksB (hs.take n) = true := by
  unfold hunksB at h ⊢
  simp only [Bool.and_eq_true, decide_eq_true_eq, List.all_eq_true, List.mem_range, List.length_take] at h ⊢
  exact ⟨fun i hi => by rw [okAt_take (by omega)]; exact h.1 i (by omega), by omega⟩
theorem runM_take {fuzz : Nat} : ∀ (hs : List Hk) (n : Nat) (s s' : PSt), runM fuzz s hs = some s' → ∃ s1 fs, runM fuzz s (hs.take n) = some s1 ∧ s'.far = s1.far ++ fs
  | hs, 0, s, s', e => by
    obtain ⟨_, fs, h, _⟩ := runM_gain hs s s' e
    exact ⟨s, fs, by simp [runM], h⟩
  | [], n + 1, s, s', e => by cases e; exact ⟨s, [], by simp [runM], by simp⟩
  | h :: hs, n + 1, s, s', e => by
    simp only [runM, List.take_succ_cons] at e ⊢
    obtain ⟨s1, hp, e⟩ := Option.bind_eq_some_iff.1 e
    rw [hp]
    exact runM_take hs n s1 s' e
theorem patch_less {ls : List ByteArray} {hs : List Hk} {fz : Int} (n : Nat) (hn : n ≤ hs.length) (h : patch_2 ls hs fz = true) :
    hunksB (hs.take n) = true ∧ (ls.length + sumL (hs.take n) ≤ 30 → patch_2 ls (hs.take n) fz = true ∧ patch_1 ls (hs.take n) fz = (patch_1 ls hs fz).take n) := by
  obtain ⟨s, hd⟩ := done_of h
  obtain ⟨o1, o2, o3, o4⟩ := okM_parts.1 hd.ok
  have hb := hunksB_take n o2
  refine ⟨hb, fun hm => ?_⟩
  obtain ⟨s1, fs, hr, hf⟩ := runM_take hs n _ _ hd.run
  obtain ⟨g1, fs1, g2, g3, _⟩ := runM_gain _ _ _ hr
  have hg := gainL_le (hs.take n)
  simp only [startM, List.length_nil, List.nil_append] at g1 g2
  have ht : textB (s1.done ++ s1.rest) = true := textB_iff.2 ⟨by rw [List.length_append]; omega, runM_lines _ (startM ls) _ (fun x hx => (hkB_parts ((hunksB_mem hb).2 x hx).1).2.2) (textB_iff.1 o1).2 hr⟩
  obtain ⟨e, hd2⟩ := done_to (okM_parts.2 ⟨o1, hb, o3, o4⟩) hr ht
  refine ⟨e, ?_⟩
  rw [hd2.p1, hd.p1, hf, List.take_append_of_le_length (by rw [g2, g3, List.length_take]; omega), List.take_of_length_le (by rw [g2, g3, List.length_take]; omega)]

/-- Lines that make others, taken apart. -/
theorem cut_sign (c d : UInt8) (x : ByteArray) : cutX c ((⟨#[d]⟩ : ByteArray) ++ x) = if d == 32 || d == c then some x else none := by
  have e : ((⟨#[d]⟩ : ByteArray) ++ x).data.toList = d :: x.data.toList := by simp [ByteArray.data_append]
  have hp : 0 < ((⟨#[d]⟩ : ByteArray) ++ x).size := by rw [Lib.size_eq, e]; simp
  have e2 := str_cons hp
  rw [e] at e2
  injection e2 with e3 e4
  rw [cutX_cons hp, ← e3]
  have : ((⟨#[d]⟩ : ByteArray) ++ x).extract 1 ((⟨#[d]⟩ : ByteArray) ++ x).size = x := by
    apply ByteArray.ext; apply Array.ext'; exact e4.symm
  rw [this]
theorem withX_sign (c d : UInt8) (xs : List ByteArray) : withX c (signX d xs) = if d == 32 || d == c then xs else [] := by
  induction xs with
  | nil => unfold withX signX; simp
  | cons x xs ih =>
    unfold withX signX at *
    rw [List.map_cons, List.filterMap_cons, cut_sign]
    cases hd : (d == 32 || d == c)
    · rw [hd] at ih; simpa using ih
    · rw [hd] at ih; simpa using ih
theorem ahead_same (a b : List ByteArray) : a.take (aheadN a b) = b.take (aheadN a b) := by
  obtain ⟨h1, h2⟩ := ahead_le a b
  refine txts_ext (by rw [List.length_take, List.length_take]; omega) (fun i hi => ?_)
  rw [List.length_take] at hi
  have := runP_all (p := sameA a b) (min a.length b.length) 0 i (show i < aheadN a b by omega)
  rw [Nat.zero_add] at this
  unfold sameA at this
  rw [decide_eq_true_eq] at this
  unfold txtFn at this ⊢
  rw [List.getD_eq_getElem?_getD, List.getD_eq_getElem?_getD] at this ⊢
  rw [List.getElem?_take, List.getElem?_take, if_pos (by omega), if_pos (by omega)]
  exact this
theorem behind_same (a b : List ByteArray) : a.drop (a.length - behindN a b) = b.drop (b.length - behindN a b) := by
  have hl : behindN a b ≤ min a.length b.length := runP_le _ _
  refine txts_ext (by rw [List.length_drop, List.length_drop]; omega) (fun i hi => ?_)
  rw [List.length_drop] at hi
  have := runP_all (p := sameZ a b) (min a.length b.length) 0 (behindN a b - 1 - i) (show behindN a b - 1 - i < behindN a b by omega)
  rw [Nat.zero_add] at this
  unfold sameZ at this
  rw [decide_eq_true_eq] at this
  unfold txtFn at this ⊢
  rw [List.getD_eq_getElem?_getD, List.getD_eq_getElem?_getD] at this ⊢
  rw [List.getElem?_drop, List.getElem?_drop]
  rw [show a.length - 1 - (behindN a b - 1 - i) = a.length - behindN a b + i by omega, show b.length - 1 - (behindN a b - 1 - i) = b.length - behindN a b + i by omega] at this
  exact this
structure Split (a b P C1 X Y C2 R : List ByteArray) : Prop where
  ea : a = P ++ (C1 ++ (X ++ (C2 ++ R)))
  eb : b = P ++ (C1 ++ (Y ++ (C2 ++ R)))
  first : dFirst a b = P.length
  lines : dLines a b = signX 32 C1 ++ (signX 45 X ++ (signX 43 Y ++ signX 32 C2))
theorem split_of (a b : List ByteArray) : ∃ P C1 X Y C2 R, Split a b P C1 X Y C2 R := by
  obtain ⟨h1, h2⟩ := ahead_le a b
  obtain ⟨t1, t2⟩ := tail_le a b
  have hs := ahead_same a b
  have ht := behind_same (a.drop (aheadN a b)) (b.drop (aheadN a b))
  change List.drop ((a.drop (aheadN a b)).length - dTail a b) _ = List.drop ((b.drop (aheadN a b)).length - dTail a b) _ at ht
  rw [List.length_drop, List.length_drop, List.drop_drop, List.drop_drop, show aheadN a b + (a.length - aheadN a b - dTail a b) = a.length - dTail a b by omega, show aheadN a b + (b.length - aheadN a b - dTail a b) = b.length - dTail a b by omega] at ht
  have hf : dFirst a b ≤ aheadN a b := by unfold dFirst; omega
  refine ⟨a.take (dFirst a b), (a.drop (dFirst a b)).take (aheadN a b - dFirst a b), (a.drop (aheadN a b)).take (a.length - dTail a b - aheadN a b), (b.drop (aheadN a b)).take (b.length - dTail a b - aheadN a b), (a.drop (a.length - dTail a b)).take (dLast a b - (a.length - dTail a b)), (a.drop (a.length - dTail a b)).drop (dLast a b - (a.length - dTail a b)), ?_, ?_, ?_, rfl⟩
  · rw [List.take_append_drop]
    have e1 : (a.drop (aheadN a b)).take (a.length - dTail a b - aheadN a b) ++ a.drop (a.length - dTail a b) = a.drop (aheadN a b) := by
      have := List.take_append_drop (a.length - dTail a b - aheadN a b) (a.drop (aheadN a b))
      rwa [List.drop_drop, show aheadN a b + (a.length - dTail a b - aheadN a b) = a.length - dTail a b by omega] at this
    rw [e1]
    have e2 : (a.drop (dFirst a b)).take (aheadN a b - dFirst a b) ++ a.drop (aheadN a b) = a.drop (dFirst a b) := by
      have := List.take_append_drop (aheadN a b - dFirst a b) (a.drop (dFirst a b))
      rwa [List.drop_drop, show dFirst a b + (aheadN a b - dFirst a b) = aheadN a b by omega] at this
    rw [e2, List.take_append_drop]
  · rw [List.take_append_drop, ht]
    have e1 : (b.drop (aheadN a b)).take (b.length - dTail a b - aheadN a b) ++ b.drop (b.length - dTail a b) = b.drop (aheadN a b) := by
      have := List.take_append_drop (b.length - dTail a b - aheadN a b) (b.drop (aheadN a b))
      rwa [List.drop_drop, show aheadN a b + (b.length - dTail a b - aheadN a b) = b.length - dTail a b by omega] at this
    rw [e1]
    have e2 : a.take (dFirst a b) ++ (a.drop (dFirst a b)).take (aheadN a b - dFirst a b) = a.take (aheadN a b) := by
      have := (List.take_add (l := a) (i := dFirst a b) (j := aheadN a b - dFirst a b)).symm
      rwa [show dFirst a b + (aheadN a b - dFirst a b) = aheadN a b by omega] at this
    rw [← List.append_assoc, e2, hs, List.take_append_drop]
  · rw [List.length_take]; omega
theorem Split.old {a b P C1 X Y C2 R : List ByteArray} (h : Split a b P C1 X Y C2 R) : oldL (dHunk a b) = C1 ++ (X ++ C2) := by
  unfold oldL dHunk
  dsimp only
  rw [h.lines]
  simp [withX_app, withX_sign]
theorem Split.new {a b P C1 X Y C2 R : List ByteArray} (h : Split a b P C1 X Y C2 R) : newL (dHunk a b) = C1 ++ (Y ++ C2) := by
  unfold newL dHunk
  dsimp only
  rw [h.lines]
  simp [withX_app, withX_sign]
theorem trimH_zero (h : Hk) : trimH h 0 = h := by
  have e1 : trimA h.lines 0 = 0 := by have := (trimA_le h.lines 0).1; omega
  have e2 : trimZ h.lines 0 = 0 := by have := (trimZ_le h.lines 0).1; omega
  obtain ⟨at_, ls⟩ := h
  unfold trimH trimL
  dsimp only at *
  rw [e1, e2]
  simp
theorem stand_mid (P old R : List ByteArray) : standB (P ++ (old ++ R)) (P.length : Int) old = true := by
  unfold standB
  simp only [Bool.and_eq_true, decide_eq_true_eq, List.length_append]
  refine ⟨by omega, by omega, ?_⟩
  rw [Int.toNat_natCast, List.drop_append_of_le_length (Nat.le_refl _), List.drop_length, List.nil_append, List.take_append_of_le_length (Nat.le_refl _), List.take_length]
/-- A hunk at its place. -/
theorem run_mid {h : Hk} {P R : List ByteArray} (hat : h.at_ = (P.length : Int) + 1) : runM 0 (startM (P ++ (oldL h ++ R))) [h] = some ⟨P ++ newL h, R, [0], 0 + (0 + ((newL h).length : Int) - ((oldL h).length : Int))⟩ := by
  have hon : onM (startM (P ++ (oldL h ++ R))) h = (P.length : Int) := by unfold onM startM; dsimp only; rw [hat, List.length_nil]; omega
  have ht : tryM (startM (P ++ (oldL h ++ R))) h = some 0 := by
    unfold tryM findM
    rw [hon]
    have hp : standB (startM (P ++ (oldL h ++ R))).rest ((P.length : Int) - ((0 : Nat) : Int)) (oldL h) = true := by
      rw [show (P.length : Int) - ((0 : Nat) : Int) = (P.length : Int) by omega]; exact stand_mid P (oldL h) R
    unfold findFrom
    rw [if_pos hp]
    rfl
  simp only [runM, passM, passFrom, trimH_zero, ht, Option.bind_some, doM, hon]
  rw [show ((P.length : Int) + 0).toNat = P.length by omega]
  simp [startM]
theorem patch_mid {h : Hk} {P R : List ByteArray} (hat : h.at_ = (P.length : Int) + 1) (hh : hunksB [h] = true) (h1 : textB (P ++ (oldL h ++ R)) = true) (h2 : textB (P ++ (newL h ++ R)) = true) : patch_2 (P ++ (oldL h ++ R)) [h] 0 = true ∧ patch_0 (P ++ (oldL h ++ R)) [h] 0 = P ++ (newL h ++ R) ∧ patch_1 (P ++ (oldL h ++ R)) [h] 0 = [0] := by
  obtain ⟨e, hd⟩ := done_to (fz := 0) (okM_parts.2 ⟨h1, hh, by omega, by omega⟩) (run_mid (R := R) hat) (by rw [List.append_assoc]; exact h2)
  exact ⟨e, hd.p0.trans (List.append_assoc _ _ _), hd.p1⟩
theorem diffL_some {a b : List ByteArray} (h : diffL a b ≠ []) : diffL a b = [dHunk a b] ∧ textB a = true ∧ textB b = true ∧ hunksB [dHunk a b] = true := by
  unfold diffL at h ⊢
  cases hb : diffB a b
  · rw [hb] at h; exact absurd rfl h
  · unfold diffB at hb
    simp only [Bool.and_eq_true] at hb
    exact ⟨rfl, hb.1, hb.2.1, hb.2.2.2⟩
theorem diffL_self (a : List ByteArray) : diffL a a = [] := by
  unfold diffL diffB
  simp
theorem patch_diff {a b : List ByteArray} (h : diffL a b ≠ []) : patch_2 a (diffL a b) 0 = true ∧ patch_0 a (diffL a b) 0 = b ∧ patch_1 a (diffL a b) 0 = [0] ∧ hunksB (diffL a b) = true := by
  obtain ⟨e, h1, h2, h3⟩ := diffL_some h
  obtain ⟨P, C1, X, Y, C2, R, hs⟩ := split_of a b
  have ea : a = P ++ (oldL (dHunk a b) ++ R) := by rw [hs.old]; simpa using hs.ea
  have eb : b = P ++ (newL (dHunk a b) ++ R) := by rw [hs.new]; simpa using hs.eb
  have hm := patch_mid (h := dHunk a b) (P := P) (R := R) (by show (dFirst a b : Int) + 1 = _; rw [hs.first]) h3 (by rw [← ea]; exact h1) (by rw [← eb]; exact h2)
  rw [← ea, ← eb] at hm
  rw [e]
  exact ⟨hm.1, hm.2.1, hm.2.2, h3⟩

/-- Lines turned about. -/
def turnC (c : UInt8) : UInt8 := if c = 45 then 43 else if c = 43 then 45 else c
def turnX (x : ByteArray) : ByteArray := (⟨#[turnC (x.data.toList.headD 0)]⟩ : ByteArray) ++ x.extract 1 x.size
theorem turn_sign (d : UInt8) (x : ByteArray) : turnX ((⟨#[d]⟩ : ByteArray) ++ x) = (⟨#[turnC d]⟩ : ByteArray) ++ x := by
  have e : ((⟨#[d]⟩ : ByteArray) ++ x).data.toList = d :: x.data.toList := by simp [ByteArray.data_append]
  have hp : 0 < ((⟨#[d]⟩ : ByteArray) ++ x).size := by rw [Lib.size_eq, e]; simp
  have e2 := str_cons hp
  rw [e] at e2
  injection e2 with e3 e4
  have : ((⟨#[d]⟩ : ByteArray) ++ x).extract 1 ((⟨#[d]⟩ : ByteArray) ++ x).size = x := by
    apply ByteArray.ext; apply Array.ext'; exact e4.symm
  unfold turnX
  rw [this, e]
  rfl
theorem turn_signX (d : UInt8) (xs : List ByteArray) : (signX d xs).map turnX = signX (turnC d) xs := by
  unfold signX
  rw [List.map_map]
  exact List.map_congr_left fun x _ => turn_sign d x
theorem hkLine_turn {x : ByteArray} (h : hkLineB x.data.toList = true) : hkLineB (turnX x).data.toList = true := by
  cases hd : x.data.toList with
  | nil => rw [hd] at h; cases h
  | cons d t =>
    have hp : 0 < x.size := by rw [Lib.size_eq, hd]; simp
    have e := str_cons hp
    rw [e] at h
    simp only [hkLineB, Bool.and_eq_true] at h
    have e2 : (turnX x).data.toList = turnC x[0] :: (x.extract 1 x.size).data.toList := by
      unfold turnX; rw [e]; simp [ByteArray.data_append]
    rw [e2]
    simp only [hkLineB, Bool.and_eq_true]
    refine ⟨?_, h.2⟩
    have h1 := h.1
    generalize x[0] = c at h1 ⊢
    unfold turnC
    split
    · decide
    · split
      · decide
      · exact h1
def turnH (h : Hk) : Hk := ⟨h.at_, h.lines.map turnX⟩
theorem patch_back {a b : List ByteArray} (h : diffL a b ≠ []) : patch_2 b [turnH (dHunk a b)] 0 = true ∧ patch_0 b [turnH (dHunk a b)] 0 = a := by
  obtain ⟨e, h1, h2, h3⟩ := diffL_some h
  obtain ⟨P, C1, X, Y, C2, R, hs⟩ := split_of a b
  have el : (turnH (dHunk a b)).lines = signX 32 C1 ++ (signX 43 X ++ (signX 45 Y ++ signX 32 C2)) := by
    show (dLines a b).map turnX = _
    rw [hs.lines]
    simp only [List.map_append, turn_signX]
    rfl
  have eo : oldL (turnH (dHunk a b)) = C1 ++ (Y ++ C2) := by unfold oldL; rw [el]; simp [withX_app, withX_sign]
  have en : newL (turnH (dHunk a b)) = C1 ++ (X ++ C2) := by unfold newL; rw [el]; simp [withX_app, withX_sign]
  have eb : b = P ++ (oldL (turnH (dHunk a b)) ++ R) := by rw [eo]; simpa using hs.eb
  have ea : a = P ++ (newL (turnH (dHunk a b)) ++ R) := by rw [en]; simpa using hs.ea
  have hh : hunksB [turnH (dHunk a b)] = true := by
    rw [hunksB_is] at h3 ⊢
    rw [Bool.and_eq_true] at h3 ⊢
    refine ⟨?_, h3.2⟩
    have h4 := h3.1
    unfold hkB at h4 ⊢
    simp only [Bool.and_eq_true] at h4 ⊢
    refine ⟨h4.1, by rw [show (turnH (dHunk a b)).lines.length = (dHunk a b).lines.length from List.length_map _]; exact h4.2.1, by rw [show (turnH (dHunk a b)).lines.length = (dHunk a b).lines.length from List.length_map _]; exact h4.2.2.1, ?_⟩
    refine List.all_eq_true.2 fun x hx => ?_
    obtain ⟨y, hy, rfl⟩ := List.mem_map.1 hx
    exact hkLine_turn (List.all_eq_true.1 h4.2.2.2 y hy)
  have hm := patch_mid (h := turnH (dHunk a b)) (P := P) (R := R) (by show (dFirst a b : Int) + 1 = _; rw [hs.first]) hh (by rw [← eb]; exact h2) (by rw [← ea]; exact h1)
  rw [← ea, ← eb] at hm
  exact ⟨hm.1, hm.2.1⟩

/-- Lines ahead. -/
theorem findFrom_hit {p : Int → Bool} {on : Int} {n : Nat} (hp : p (on + (n : Int)) = true) : ∀ (f d : Nat), d ≤ n → n < d + f → ∃ far, findFrom p on f d = some far ∧ far ≤ (n : Int)
  | 0, d, h1, h2 => by omega
  | f + 1, d, h1, h2 => by
    unfold findFrom
    split
    · exact ⟨_, rfl, by omega⟩
    · split
      · exact ⟨_, rfl, by omega⟩
      · rename_i hn
        have hne : d ≠ n := fun e => hn (by rw [e]; exact hp)
        exact findFrom_hit hp f (d + 1) (by omega) (by omega)
theorem patch_later {a b Q : List ByteArray} (h : diffL a b ≠ []) (hn : Q.length ≤ 8) (hQ : linesOk Q) (ha : a.length + Q.length ≤ 30) (hb : b.length + Q.length ≤ 30) :
    patch_2 (Q ++ a) (diffL a b) 0 = true ∧ (patch_0 (Q ++ a) (diffL a b) 0).length = Q.length + b.length ∧ ∃ far, patch_1 (Q ++ a) (diffL a b) 0 = [far] ∧ far ≤ (Q.length : Int) := by
  obtain ⟨e, h1, h2, h3⟩ := diffL_some h
  obtain ⟨P, C1, X, Y, C2, R, hs⟩ := split_of a b
  have ea : a = P ++ (oldL (dHunk a b) ++ R) := by rw [hs.old]; simpa using hs.ea
  have eb : b = P ++ (newL (dHunk a b) ++ R) := by rw [hs.new]; simpa using hs.eb
  have la : a.length = P.length + ((oldL (dHunk a b)).length + R.length) := by conv => lhs; rw [ea]; simp only [List.length_append]
  have lb : b.length = P.length + ((newL (dHunk a b)).length + R.length) := by conv => lhs; rw [eb]; simp only [List.length_append]
  have hon : onM (startM (Q ++ a)) (dHunk a b) = (P.length : Int) := by unfold onM startM dHunk; dsimp only; rw [hs.first, List.length_nil]; omega
  have hst : standB (Q ++ a) ((P.length : Int) + (Q.length : Int)) (oldL (dHunk a b)) = true := by
    have := stand_mid (Q ++ P) (oldL (dHunk a b)) R
    rw [List.append_assoc, ← ea, List.length_append] at this
    rwa [show (P.length : Int) + (Q.length : Int) = ((Q.length + P.length : Nat) : Int) by omega]
  obtain ⟨far, hf, hle⟩ := findFrom_hit (p := fun t => standB (Q ++ a) t (oldL (dHunk a b))) hst 9 0 (Nat.zero_le _) (by omega)
  have ht : tryM (startM (Q ++ a)) (dHunk a b) = some far := by unfold tryM findM; rw [hon]; exact hf
  have hr : runM 0 (startM (Q ++ a)) [dHunk a b] = some (doM (startM (Q ++ a)) (dHunk a b) far) := by
    simp only [runM, passM, passFrom, trimH_zero, ht, Option.bind_some]
  obtain ⟨g1, g2, _⟩ := doM_gain ht
  have hl : linesOk ((doM (startM (Q ++ a)) (dHunk a b) far).done ++ (doM (startM (Q ++ a)) (dHunk a b) far).rest) := by
    refine runM_lines _ _ _ (fun x hx => (hkB_parts ((hunksB_mem h3).2 x hx).1).2.2) ?_ hr
    intro x hx
    simp only [startM, List.nil_append, List.mem_append] at hx
    rcases hx with hx | hx
    · exact hQ x hx
    · exact (textB_iff.1 h1).2 x hx
  have hlen : ((doM (startM (Q ++ a)) (dHunk a b) far).done ++ (doM (startM (Q ++ a)) (dHunk a b) far).rest).length = Q.length + b.length := by
    rw [List.length_append]
    unfold gainH at g1
    simp only [startM, List.length_nil, List.length_append] at g1
    simp only [startM]
    omega
  have htx : textB (Q ++ a) = true := textB_iff.2 ⟨by rw [List.length_append]; omega, fun x hx => by
    rcases List.mem_append.1 hx with hx | hx
    · exact hQ x hx
    · exact (textB_iff.1 h1).2 x hx⟩
  obtain ⟨e2, hd⟩ := done_to (fz := 0) (okM_parts.2 ⟨htx, h3, by omega, by omega⟩) hr (textB_iff.2 ⟨by rw [hlen]; omega, hl⟩)
  rw [e]
  exact ⟨e2, by rw [hd.p0]; exact hlen, far, by rw [hd.p1, g2]; rfl, hle⟩
end Go.Proofs.Ytedimkcnemhhpaa

/- What the laws' draws of hunks give. -/
namespace Go.Proofs.Ytedimkcnemhhpaa
open Go.RowKit Go.Shelf

theorem diff_len (xs ys : List ByteArray) : (diffL xs ys).length ≤ 1 := by
  unfold diffL; split <;> simp
theorem diff_smallD (xs ys : List ByteArray) : smallD (diffL xs ys) := by
  intro h hh
  have hne : diffL xs ys ≠ [] := fun e => by rw [e] at hh; cases hh
  obtain ⟨e, h1, h2, _⟩ := diffL_some hne
  rw [e, List.mem_singleton] at hh
  subst hh
  obtain ⟨a, c⟩ := dLines_small h1 h2
  exact ⟨a, fun x hx => by have := (c x hx).2; omega⟩
theorem hksOwn_draw {W : World} {N : Nat} {v : Value} {hs : List Hk} (h : HksOwn W N v hs) : DrawH W N v hs := by
  match hs, h with
  | [], h =>
    rcases h with rfl | ⟨g, rfl, hg, hh⟩
    · exact ⟨[], World.ownsRow_nil _ _ _ _, rfl, fun i x hi => by cases hi⟩
    · exact ⟨[], ⟨rfl, .inr ⟨g, 0, #[], rfl, hg, hh, Nat.le_refl _, by simp [maxLen], rfl, rfl⟩⟩, rfl, fun i x hi => by cases hi⟩
  | [k], hh =>
    obtain ⟨g, lv, rfl, hg, hheap, hl, hne⟩ := hh
    obtain ⟨la, lc, rfl, ht, hn, hc⟩ := owns_cap hl
    refine ⟨_, ⟨rfl, .inr ⟨g, 1, _, rfl, hg, hheap, Nat.le_refl _, by simp [maxLen], rfl, rfl⟩⟩, oneHk W N _ k la lc ht hc (fun _ blk o e => ?_)⟩
    subst e
    exact ⟨(hl.lt blk rfl).1, fun e => by injection e with e; exact hne (by rw [← e]; rfl)⟩
theorem below_grownX {W W' : World} {B b : Nat} (h : Below B W W') (hb : W.heap.size ≤ B) : W.grownBy W' (some b) := ⟨h.os, h.tape, h.output, h.size, fun k hk _ => h.block k (by omega)⟩

/-- A row of short texts that were just laid. -/
def ArrS (B : Nat) (W : World) (g n : Nat) : Prop := B ≤ g ∧ g < W.heap.size ∧ ∀ k, k < n → ∃ x, short x ∧ W.cell? ⟨g, k, none⟩ = some (.string x)
theorem ArrS.grown {B g n : Nat} {W W' : World} {row : Option Nat} (h : ArrS B W g n) (hg : W.grownBy W' row) (hn : row ≠ some g) : ArrS B W' g n :=
  ⟨h.1, Nat.lt_of_lt_of_le h.2.1 hg.size, fun k hk => by
    obtain ⟨x, h1, h2⟩ := h.2.2 k hk
    exact ⟨x, h1, (World.cell?_of_block (w := W) (hg.block g h.2.1 (fun e => hn e.symm))).trans h2⟩⟩
/-- A box whose lines are appended to while the reader draws. -/
structure LB (W5 : World) (b gh : Nat) (at_ : Int) (lv : Value) (ls : List ByteArray) (a : Option Addr) (len cap q : Nat) (rs : List (Nat × Nat)) (W : World) : Prop where
  g : W5.grownBy W (some b)
  rd : Rd W b a len cap q
  two : TwoAt W gh at_ lv
  lt : gh < W.heap.size
  own : W.ownsRow (gh + 1) 9 1 lv ls.length (ls.map Value.string)
  arr : ∀ x ∈ rs, ArrS (gh + 1) W x.1 x.2 ∧ lv.ownBlock ≠ some x.1
theorem LB.call {W5 W W' : World} {b gh : Nat} {at_ : Int} {lv : Value} {ls : List ByteArray} {a : Option Addr} {len cap q q' : Nat} {rs : List (Nat × Nat)} (h : LB W5 b gh at_ lv ls a len cap q rs W) (hb : b < gh) (hg : W.grownBy W' (some b)) (hr : Rd W' b a len cap q') : LB W5 b gh at_ lv ls a len cap q' rs W' where
  g := grown_trans h.g hg
  rd := hr
  two := h.two.block (hg.block gh h.lt (fun e => by injection e; omega))
  lt := Nat.lt_of_lt_of_le h.lt hg.size
  own := owns_grown h.own hg (.inr (fun e => by have := (h.own.lt b e).1; omega))
  arr := fun x hx => ⟨(h.arr x hx).1.grown hg (fun e => by have := (h.arr x hx).1.1; injection e; omega), (h.arr x hx).2⟩
theorem LB.alloc {W5 W : World} {b gh : Nat} {at_ : Int} {lv : Value} {ls : List ByteArray} {a : Option Addr} {len cap q : Nat} {rs : List (Nat × Nat)} (h : LB W5 b gh at_ lv ls a len cap q rs W) (hb : b < gh) (o : Obj) : LB W5 b gh at_ lv ls a len cap q rs (W.alloc o) :=
  h.call hb (World.grownBy_alloc W o (some b)) (h.rd.alloc o)
theorem LB.laid {W5 W : World} {b gh : Nat} {at_ : Int} {lv : Value} {ls : List ByteArray} {a : Option Addr} {len cap q : Nat} {rs : List (Nat × Nat)} (h : LB W5 b gh at_ lv ls a len cap q rs W) (hb : b < gh) (cs : Array Value) (t : TypeId) (hs : cs.toList.all shortV = true) (n : Nat) (hn : n = cs.size) : LB W5 b gh at_ lv ls a len cap q ((W.heap.size, n) :: rs) (W.alloc (.cells cs t)) where
  g := (h.alloc hb _).g
  rd := (h.alloc hb _).rd
  two := (h.alloc hb _).two
  lt := (h.alloc hb _).lt
  own := (h.alloc hb _).own
  arr := fun x hx => by
    rcases List.mem_cons.1 hx with rfl | hx
    · exact ⟨⟨h.lt, by simp, fun k hk => row_short W cs t hs k (by rw [← hn]; exact hk)⟩, fun e => by have := (h.own.lt _ e).2; exact Nat.lt_irrefl _ this⟩
    · exact (h.alloc hb _).arr x hx
theorem LB.drew {W5 W : World} {b gh : Nat} {at_ : Int} {lv : Value} {ls : List ByteArray} {a : Option Addr} {len cap q : Nat} {rs : List (Nat × Nat)} (h : LB W5 b gh at_ lv ls a len cap q rs W) (hb : b < gh) : LB W5 b gh at_ lv ls a len cap q rs W.drew :=
  h.call hb (grown_drew W (some b)) (h.rd.grown (grown_drew W none) (fun j e => by cases e))
/-- Lines are appended: the box holds the elder ones still. -/
theorem LB.app {W5 W W' : World} {b gh : Nat} {at_ : Int} {lv lv' : Value} {ls ls' : List ByteArray} {a : Option Addr} {len cap q : Nat} {rs : List (Nat × Nat)} (h : LB W5 b gh at_ lv ls a len cap q rs W) (hb : b < gh) (h5 : W5.heap.size ≤ gh) (hg : W.grownBy W' lv.ownBlock) (ho : W'.ownsRow (gh + 1) 9 1 lv' ls'.length (ls'.map Value.string)) :
    W5.grownBy W' (some b) ∧ TwoAt W' gh at_ lv ∧ LB W5 b gh at_ lv' ls' a len cap q [] (W'.setCell ⟨gh, 1, none⟩ lv') := by
  have hlo : ∀ j, lv.ownBlock = some j → gh + 1 ≤ j := fun j e => (h.own.lt j e).1
  have g1 : W5.grownBy W' (some b) := grown_own h.g hg (fun j e => by have := hlo j e; omega)
  have t1 : TwoAt W' gh at_ lv := h.two.block (hg.block gh h.lt (fun e => by have := hlo gh e.symm; omega))
  have gs : W'.grownBy (W'.setCell ⟨gh, 1, none⟩ lv') (some gh) := ⟨rfl, rfl, rfl, by simp, fun k' _ hne => Below.heap_setCell W' ⟨gh, 1, none⟩ _ k' (fun e => hne (by rw [e]))⟩
  have hl : gh < W'.heap.size := Nat.lt_of_lt_of_le h.lt hg.size
  exact ⟨g1, t1, grown_own g1 gs (fun j e => by injection e; omega), (h.rd.grown hg (fun j e => by have := hlo j e; omega)).grown gs (fun j e => by injection e; omega), t1.set1 lv', by simpa using hl,
    owns_grown ho gs (.inr (fun e => by have := (ho.lt gh e).1; omega)), fun x hx => by cases hx⟩

set_option maxRecDepth 100000 in
set_option maxHeartbeats 4000000 in
theorem l11Hunks_any (w : World) (b : Nat) (a : Option Addr) (len cap p : Nat) (h : Rd w b a len cap p) (hp : p ≤ 50000) :
    Calls Try.prog 96 #[.pointer (some ⟨b, 0, none⟩)] w fun e w' => ∃ v, e = .returned v ∧ ∃ hs, hs.length ≤ 2 ∧ smallD hs ∧ DrawH w' w.heap.size v hs ∧ (∃ q, q ≤ p + 60 ∧ Rd w' b a len cap q) ∧ w.grownBy w' (some b) := by
  have H := hid h
  have hbl := h.lt
  clear h
  go_enter Try.func96, Try.ntmps96
  go_wp2_with fail
  refine (l11Lines_any w b a len cap p (unhid H) (by omega)).mono ?_
  rintro e W1 ⟨v, rfl, xs, hl, hx, ⟨q, hq, hR⟩, hG⟩
  obtain ⟨la, lc, hv, ht, hnil, hcap⟩ := owns_cap hx.own
  have hne : ∀ b' o, la = some ⟨b', o, none⟩ → b' ≠ b := fun b' o e1 e2 => hx.ne (by rw [hv, e1, ← e2]; rfl)
  subst hv
  have HX := hid hx.short
  have HR1 := hid hR
  have HG1 := hid hG
  have HT := hid ht
  have HNE := hid hne
  have HNIL := hid hnil
  clear hx hR hG ht hne hnil hcap H
  go_wp2_with fail
  refine (l11Near_any W1 b a len cap q (unhid HR1) (by omega) xs la lc (unhid HT) (unhid HNIL) (by omega) (unhid HX)).mono ?_
  rintro e W2 ⟨v, rfl, ys, hl2, hy, ⟨q2, hq2, hR⟩, hG⟩
  obtain ⟨lb, lc2, hv, ht2, -, -⟩ := owns_cap hy.own
  subst hv
  have HY := hid hy.short
  have HR2 := hid hR
  have HG2 := hid (grown_trans (unhid HG1) hG)
  have HT1 := hid ((unhid HT).grownX (unhid HNE) hG)
  have HT2 := hid ht2
  clear hy hR hG ht2 HR1 HG1 HT HNE HNIL
  go_wp2_with fail
  refine (specDiffOf_any xs ys la lb lc lc2 W2 (by unfold maxLen; omega) (by unfold maxLen; omega) (fun x hx => Nat.le_trans (unhid HX x hx) (by simp [maxLen])) (fun x hx => Nat.le_trans (unhid HY x hx) (by simp [maxLen])) (unhid HT1) (unhid HT2)).mono ?_
  rintro e W3 ⟨v, rfl, ho, hb⟩
  have hs2 := (unhid HG2).size
  have HD := hid ((hksOwn_draw ho).low (B' := w.heap.size) (by omega))
  have HR3 := hid ((unhid HR2).of_below hb)
  have HG3 := hid (grown_trans (unhid HG2) (below_grownX hb (Nat.le_refl _)))
  have HLEN := hid (diff_len xs ys)
  have HS := hid (diff_smallD xs ys)
  clear ho hb hs2 HR2 HG2 HT1 HT2 HX HY
  generalize diffL xs ys = hs at *
  clear hl hl2
  go_wp2_with fail
  refine (pick_any W3 b a len cap q2 (unhid HR3) (by omega) 2 (by omega) (by omega)).mono ?_
  rintro e W4 ⟨r, hr, rfl, hR, hG⟩
  have HR4 := hid hR
  have HG4 := hid (grown_trans (unhid HG3) hG)
  have HD4 := hid ((unhid HD).grown hbl hG)
  clear hR hG HR3 HG3 HD
  by_cases h0 : r = 0
  · subst h0
    go_wp2_with fail
    refine (pick_any W4 b a len cap (q2 + 1) (unhid HR4) (by omega) 9 (by omega) (by omega)).mono ?_
    rintro e W5 ⟨r, hr, rfl, hR, hG⟩
    have HR5 := hid hR
    have HG5 := hid (grown_trans (unhid HG4) hG)
    have HD5 := hid ((unhid HD4).grown hbl hG)
    clear hR hG HR4 HG4 HD4
    go_wp2_with fail
    --[loop
    have LB0 : Hid (LB W5 b W5.heap.size (1 + (r : Int)) (.slice none 0 0) [] a len cap (q2 + 1 + 1) [] (W5.alloc (.cells #[.int .i64 (1 + (r : Int)), .slice none 0 0] 46))) := hid ⟨World.grownBy_alloc W5 _ (some b), (unhid HR5).alloc _, twoAt_new W5 _ _ _, by simp, World.ownsRow_nil _ _ _ _, fun x hx => by cases hx⟩
    have hb5 : b < W5.heap.size := Nat.lt_of_lt_of_le hbl (unhid HG5).size
    clear HR5
    refine (pick_any _ b a len cap (q2 + 1 + 1) (unhid LB0).rd (by omega) 4 (by omega) (by omega)).mono ?_
    rintro e W6 ⟨r4, hr4, rfl, hR, hG⟩
    have LB6 := hid ((unhid LB0).call hb5 hG hR)
    clear hR hG LB0
    generalize hgh : W5.heap.size = gh at hb5 LB6 ⊢
    have hge : W5.heap.size ≤ gh := Nat.le_of_eq hgh
    clear hgh
    generalize (1 + (r : Int)) = at_ at LB6 ⊢
    go_wp2_with fail
    go_loopw [6] (fun n wr => ∃ (m q : Nat) (ls : List ByteArray) (oa : Option Addr) (oc : Nat), n = .int .i64 (m : Int) ∧ ls.length + m ≤ 4 ∧ q + 2 * m ≤ q2 + 11 ∧ Hid (∀ x ∈ ls, x.size ≤ 300) ∧ Hid (LB W5 b gh at_ (.slice oa ls.length oc) ls a len cap q [] wr)) (fun n _ => (intOf n).toNat)
    case atStart => exact ⟨1 + r4, q2 + 1 + 1 + 1, [], _, _, by go_num, by simp; omega, by omega, hid (fun x hx => by cases hx), LB6⟩
    case round =>
      clear LB6
      obtain ⟨m, q, ls, oa, oc, rfl, hm, hq, HX, HL⟩ := hrel
      by_cases hpos : 0 < m
      · go_wp2_with fail
        have gq : ∀ x : CW (fun w' => W5.grownBy w' (some b) ∧ TwoAt w' gh at_ (.slice oa ls.length oc)), x.w.cell? ⟨gh, 1, none⟩ = some (.slice oa ls.length oc) := fun x => x.h.2.2.1
        have HLd := hid ((unhid HL).drew hb5)
        have hba : ∀ {q : Prop}, (CW (fun w' => W5.grownBy w' (some b) ∧ TwoAt w' gh at_ (.slice oa ls.length oc)) → q) ↔ q := CW.all ⟨(unhid HLd).g, (unhid HLd).two⟩
        refine heldE_begin 12 (fun w' => W5.grownBy w' (some b) ∧ TwoAt w' gh at_ (.slice oa ls.length oc)) (by kernel_rfl) ?_
        refine heldE_here [true, true, true, false, false, true] (by kernel_rfl) (by kernel_rfl) (fun _ _ _ _ _ h => h) ⟨(unhid HLd).g, (unhid HLd).two⟩ ?_
        dsimp only [pick]
        repeat (go_big_quiet_step (fail))
        refine wpQuiet_nil ?_
        clear hba gq HL
        generalize wr.drew = W7 at HLd ⊢
        have HL := HLd
        clear HLd
        refine heldE_op2 3 6 (by kernel_rfl) (by kernel_rfl) rfl rfl (fun K hK => ?_) (fun K hK => ?_)
        · go_simp
          have HL' := hid ((unhid HL).laid hb5 #[.string ⟨#[32]⟩, .string ⟨#[45]⟩, .string ⟨#[43]⟩] 9 (by kernel_rfl) 3 rfl)
          refine hK.out _ _ ⟨(unhid HL').g, (unhid HL').two⟩ ?_
          clear hK K
          generalize W7.alloc (.cells #[.string ⟨#[32]⟩, .string ⟨#[45]⟩, .string ⟨#[43]⟩] 9) = W7b at HL' ⊢
          generalize W7.heap.size = g3 at HL' ⊢
          clear HL
          have HL := HL'
          clear HL'
          refine heldE_op2 4 6 (by kernel_rfl) (by kernel_rfl) rfl rfl (fun K hK => ?_) (fun K hK => ?_)
          · refine call_op 95 32 (enters_of Try.func95 (by kernel_rfl) rfl) #[.pointer (some ⟨b, 0, none⟩), .slice (some ⟨g3, 0, none⟩) 3 3] rfl rfl rfl rfl ?_
            have qa := ((unhid HL).arr (g3, 3) (by simp)).1
            refine (of_any short W7b b a len cap (q) (unhid HL).rd (by omega) g3 3 3 (by have := qa.1; omega) (by omega) (by omega) qa.2.2).mono ?_
            rintro e W7c ⟨x, hx, rfl, hR, hG⟩
            have Sx := hid hx
            have HL' := hid ((unhid HL).call hb5 hG hR)
            clear hR hG hx qa HL
            have HL := HL'
            clear HL'
            refine ⟨_, rfl, hK.out _ _ ⟨(unhid HL).g, (unhid HL).two⟩ ?_⟩
            clear hK K
            simp only [Act.put, List.setIfInBounds_toArray, List.set_cons_zero, List.set_cons_succ]
            refine heldE_op 6 (by kernel_rfl) (by kernel_rfl) rfl (fun K hK => ?_)
            go_simp
            have HL' := hid ((unhid HL).laid hb5 #[.string ⟨#[97]⟩, .string ⟨#[98]⟩, .string ⟨#[115, 97, 109, 101]⟩, .string ⟨#[]⟩] 9 (by kernel_rfl) 4 rfl)
            refine hK.out _ _ ⟨(unhid HL').g, (unhid HL').two⟩ ?_
            clear hK K
            generalize W7c.alloc (.cells #[.string ⟨#[97]⟩, .string ⟨#[98]⟩, .string ⟨#[115, 97, 109, 101]⟩, .string ⟨#[]⟩] 9) = W7d at HL' ⊢
            generalize W7c.heap.size = g6 at HL' ⊢
            clear HL
            have HL := HL'
            clear HL'
            refine heldE_op 7 (by kernel_rfl) (by kernel_rfl) rfl (fun K hK => ?_)
            refine call_op 95 35 (enters_of Try.func95 (by kernel_rfl) rfl) #[.pointer (some ⟨b, 0, none⟩), .slice (some ⟨g6, 0, none⟩) 4 4] rfl rfl rfl rfl ?_
            have qa := ((unhid HL).arr (g6, 4) (by simp)).1
            refine (of_any short W7d b a len cap (q + 1) (unhid HL).rd (by omega) g6 4 4 (by have := qa.1; omega) (by omega) (by omega) qa.2.2).mono ?_
            rintro e W8 ⟨y, hy, rfl, hR, hG⟩
            have Sy := hid hy
            have HL' := hid ((unhid HL).call hb5 hG hR)
            clear hR hG hy qa HL
            have HL := HL'
            clear HL'
            refine ⟨_, rfl, hK.out _ _ ⟨(unhid HL).g, (unhid HL).two⟩ ?_⟩
            clear hK K
            simp only [Act.put, List.setIfInBounds_toArray, List.set_cons_zero, List.set_cons_succ]
            have zx : x.size ≤ 100 := unhid Sx
            have zy : y.size ≤ 100 := unhid Sy
            have hba : ∀ {q : Prop}, (CW (fun w' => W5.grownBy w' (some b) ∧ TwoAt w' gh at_ (.slice oa ls.length oc)) → q) ↔ q := CW.all ⟨(unhid HL).g, (unhid HL).two⟩
            refine heldE_here [false, false, false, false, false, false, false, false, true] (by kernel_rfl) (by kernel_rfl) (fun _ _ _ _ _ h => h) ⟨(unhid HL).g, (unhid HL).two⟩ ?_
            dsimp only [pick]
            repeat (go_big_quiet_step (fail))
            refine wpQuiet_nil ?_
            clear hba
            refine heldE_op 9 (by kernel_rfl) (by kernel_rfl) rfl (fun K hK => ?_)
            go_simp
            have TN := hid (one_new W8 (x ++ y))
            have HL' := hid ((unhid HL).alloc hb5 (.cells #[.string (x ++ y)] 9))
            refine hK.out _ _ ⟨(unhid HL').g, (unhid HL').two⟩ ?_
            clear hK K HL
            generalize W8.alloc (.cells #[.string (x ++ y)] 9) = W9 at TN HL' ⊢
            generalize W8.heap.size = g8 at TN ⊢
            have HL := HL'
            clear HL'
            refine heldE_op 10 (by kernel_rfl) (by kernel_rfl) rfl (fun K hK => ?_)
            refine app_op 38 (gh + 1) (.slice oa ls.length oc) ls [x ++ y] (some ⟨g8, 0, none⟩) 1 rfl rfl rfl rfl rfl (unhid HL).own (unhid TN) (fun e => by cases e) (by simp only [List.length_cons, List.length_nil]; omega) (unhid HL).lt ?_
            intro v2 W10 ho hg _
            obtain ⟨ga, t2, hl⟩ := (unhid HL).app hb5 hge hg ho
            refine hK.out _ _ ⟨ga, t2⟩ ?_
            clear hK K HL TN hg
            obtain ⟨va, vc, hv⟩ := ownsRow_sliceX ho
            subst hv
            have HL := hid hl
            clear hl ho
            have HX9 := hid (show ∀ z ∈ ls ++ [x ++ y], z.size ≤ 300 from fun z hz => by
              rcases List.mem_append.1 hz with hz | hz
              · exact unhid HX z hz
              · rw [List.mem_singleton.1 hz, ByteArray.size_append]
                have := unhid Sx
                have := unhid Sy
                unfold short at *
                omega)
            clear zx zy
            have hyl : (ls ++ [x ++ y]).length ≤ ls.length + 1 := by simp
            clear Sx Sy HX
            generalize ls ++ [x ++ y] = ys at *
            simp only [Act.put, List.setIfInBounds_toArray, List.set_cons_zero, List.set_cons_succ]
            have hba : ∀ {q : Prop}, (CW (fun w' => W5.grownBy w' (some b) ∧ TwoAt w' gh at_ (.slice oa ls.length oc)) → q) ↔ q := CW.all ⟨ga, t2⟩
            refine heldE_here [false, false, false, false, false, false, false, false, false, false, false, true] (by kernel_rfl) (by kernel_rfl) (fun _ _ _ _ _ h => h) ⟨ga, t2⟩ ?_
            dsimp only [pick]
            repeat (go_big_quiet_step (fail))
            refine wpQuiet_nil ?_
            clear hba ga
            obtain ⟨-, f2, f3⟩ := t2
            refine heldE_last (by kernel_rfl) (by kernel_rfl) rfl (fun K hK => ?_)
            go_simp
            refine hK.out _ _ ?_
            clear hK K f2 f3
            refine heldE_done (by kernel_rfl) ?_
            go_wp2_with fail
            go_roundw
            case rel => exact ⟨m - 1, q + 1 + 1, ys, va, vc, by go_num, by omega, by omega, HX9, HL⟩
            case measure => simp [intOf]; omega
          · go_simp
            have HL' := hid ((unhid HL).laid hb5 #[.string ⟨#[97]⟩, .string ⟨#[98]⟩, .string ⟨#[115, 97, 109, 101]⟩, .string ⟨#[]⟩] 9 (by kernel_rfl) 4 rfl)
            refine hK.out _ _ ⟨(unhid HL').g, (unhid HL').two⟩ ?_
            clear hK K
            generalize W7b.alloc (.cells #[.string ⟨#[97]⟩, .string ⟨#[98]⟩, .string ⟨#[115, 97, 109, 101]⟩, .string ⟨#[]⟩] 9) = W7c at HL' ⊢
            generalize W7b.heap.size = g6 at HL' ⊢
            clear HL
            have HL := HL'
            clear HL'
            refine heldE_op 4 (by kernel_rfl) (by kernel_rfl) rfl (fun K hK => ?_)
            refine call_op 95 32 (enters_of Try.func95 (by kernel_rfl) rfl) #[.pointer (some ⟨b, 0, none⟩), .slice (some ⟨g3, 0, none⟩) 3 3] rfl rfl rfl rfl ?_
            have qa := ((unhid HL).arr (g3, 3) (by simp)).1
            refine (of_any short W7c b a len cap (q) (unhid HL).rd (by omega) g3 3 3 (by have := qa.1; omega) (by omega) (by omega) qa.2.2).mono ?_
            rintro e W7d ⟨x, hx, rfl, hR, hG⟩
            have Sx := hid hx
            have HL' := hid ((unhid HL).call hb5 hG hR)
            clear hR hG hx qa HL
            have HL := HL'
            clear HL'
            refine ⟨_, rfl, hK.out _ _ ⟨(unhid HL).g, (unhid HL).two⟩ ?_⟩
            clear hK K
            simp only [Act.put, List.setIfInBounds_toArray, List.set_cons_zero, List.set_cons_succ]
            refine heldE_op 7 (by kernel_rfl) (by kernel_rfl) rfl (fun K hK => ?_)
            refine call_op 95 35 (enters_of Try.func95 (by kernel_rfl) rfl) #[.pointer (some ⟨b, 0, none⟩), .slice (some ⟨g6, 0, none⟩) 4 4] rfl rfl rfl rfl ?_
            have qa := ((unhid HL).arr (g6, 4) (by simp)).1
            refine (of_any short W7d b a len cap (q + 1) (unhid HL).rd (by omega) g6 4 4 (by have := qa.1; omega) (by omega) (by omega) qa.2.2).mono ?_
            rintro e W8 ⟨y, hy, rfl, hR, hG⟩
            have Sy := hid hy
            have HL' := hid ((unhid HL).call hb5 hG hR)
            clear hR hG hy qa HL
            have HL := HL'
            clear HL'
            refine ⟨_, rfl, hK.out _ _ ⟨(unhid HL).g, (unhid HL).two⟩ ?_⟩
            clear hK K
            simp only [Act.put, List.setIfInBounds_toArray, List.set_cons_zero, List.set_cons_succ]
            have zx : x.size ≤ 100 := unhid Sx
            have zy : y.size ≤ 100 := unhid Sy
            have hba : ∀ {q : Prop}, (CW (fun w' => W5.grownBy w' (some b) ∧ TwoAt w' gh at_ (.slice oa ls.length oc)) → q) ↔ q := CW.all ⟨(unhid HL).g, (unhid HL).two⟩
            refine heldE_here [false, false, false, false, false, false, false, false, true] (by kernel_rfl) (by kernel_rfl) (fun _ _ _ _ _ h => h) ⟨(unhid HL).g, (unhid HL).two⟩ ?_
            dsimp only [pick]
            repeat (go_big_quiet_step (fail))
            refine wpQuiet_nil ?_
            clear hba
            refine heldE_op 9 (by kernel_rfl) (by kernel_rfl) rfl (fun K hK => ?_)
            go_simp
            have TN := hid (one_new W8 (x ++ y))
            have HL' := hid ((unhid HL).alloc hb5 (.cells #[.string (x ++ y)] 9))
            refine hK.out _ _ ⟨(unhid HL').g, (unhid HL').two⟩ ?_
            clear hK K HL
            generalize W8.alloc (.cells #[.string (x ++ y)] 9) = W9 at TN HL' ⊢
            generalize W8.heap.size = g8 at TN ⊢
            have HL := HL'
            clear HL'
            refine heldE_op 10 (by kernel_rfl) (by kernel_rfl) rfl (fun K hK => ?_)
            refine app_op 38 (gh + 1) (.slice oa ls.length oc) ls [x ++ y] (some ⟨g8, 0, none⟩) 1 rfl rfl rfl rfl rfl (unhid HL).own (unhid TN) (fun e => by cases e) (by simp only [List.length_cons, List.length_nil]; omega) (unhid HL).lt ?_
            intro v2 W10 ho hg _
            obtain ⟨ga, t2, hl⟩ := (unhid HL).app hb5 hge hg ho
            refine hK.out _ _ ⟨ga, t2⟩ ?_
            clear hK K HL TN hg
            obtain ⟨va, vc, hv⟩ := ownsRow_sliceX ho
            subst hv
            have HL := hid hl
            clear hl ho
            have HX9 := hid (show ∀ z ∈ ls ++ [x ++ y], z.size ≤ 300 from fun z hz => by
              rcases List.mem_append.1 hz with hz | hz
              · exact unhid HX z hz
              · rw [List.mem_singleton.1 hz, ByteArray.size_append]
                have := unhid Sx
                have := unhid Sy
                unfold short at *
                omega)
            clear zx zy
            have hyl : (ls ++ [x ++ y]).length ≤ ls.length + 1 := by simp
            clear Sx Sy HX
            generalize ls ++ [x ++ y] = ys at *
            simp only [Act.put, List.setIfInBounds_toArray, List.set_cons_zero, List.set_cons_succ]
            have hba : ∀ {q : Prop}, (CW (fun w' => W5.grownBy w' (some b) ∧ TwoAt w' gh at_ (.slice oa ls.length oc)) → q) ↔ q := CW.all ⟨ga, t2⟩
            refine heldE_here [false, false, false, false, false, false, false, false, false, false, false, true] (by kernel_rfl) (by kernel_rfl) (fun _ _ _ _ _ h => h) ⟨ga, t2⟩ ?_
            dsimp only [pick]
            repeat (go_big_quiet_step (fail))
            refine wpQuiet_nil ?_
            clear hba ga
            obtain ⟨-, f2, f3⟩ := t2
            refine heldE_last (by kernel_rfl) (by kernel_rfl) rfl (fun K hK => ?_)
            go_simp
            refine hK.out _ _ ?_
            clear hK K f2 f3
            refine heldE_done (by kernel_rfl) ?_
            go_wp2_with fail
            go_roundw
            case rel => exact ⟨m - 1, q + 1 + 1, ys, va, vc, by go_num, by omega, by omega, HX9, HL⟩
            case measure => simp [intOf]; omega
        · go_simp
          have HL' := hid ((unhid HL).laid hb5 #[.string ⟨#[97]⟩, .string ⟨#[98]⟩, .string ⟨#[115, 97, 109, 101]⟩, .string ⟨#[]⟩] 9 (by kernel_rfl) 4 rfl)
          refine hK.out _ _ ⟨(unhid HL').g, (unhid HL').two⟩ ?_
          clear hK K
          generalize W7.alloc (.cells #[.string ⟨#[97]⟩, .string ⟨#[98]⟩, .string ⟨#[115, 97, 109, 101]⟩, .string ⟨#[]⟩] 9) = W7b at HL' ⊢
          generalize W7.heap.size = g6 at HL' ⊢
          clear HL
          have HL := HL'
          clear HL'
          refine heldE_op 3 (by kernel_rfl) (by kernel_rfl) rfl (fun K hK => ?_)
          go_simp
          have HL' := hid ((unhid HL).laid hb5 #[.string ⟨#[32]⟩, .string ⟨#[45]⟩, .string ⟨#[43]⟩] 9 (by kernel_rfl) 3 rfl)
          refine hK.out _ _ ⟨(unhid HL').g, (unhid HL').two⟩ ?_
          clear hK K
          generalize W7b.alloc (.cells #[.string ⟨#[32]⟩, .string ⟨#[45]⟩, .string ⟨#[43]⟩] 9) = W7c at HL' ⊢
          generalize W7b.heap.size = g3 at HL' ⊢
          clear HL
          have HL := HL'
          clear HL'
          refine heldE_op 4 (by kernel_rfl) (by kernel_rfl) rfl (fun K hK => ?_)
          refine call_op 95 32 (enters_of Try.func95 (by kernel_rfl) rfl) #[.pointer (some ⟨b, 0, none⟩), .slice (some ⟨g3, 0, none⟩) 3 3] rfl rfl rfl rfl ?_
          have qa := ((unhid HL).arr (g3, 3) (by simp)).1
          refine (of_any short W7c b a len cap (q) (unhid HL).rd (by omega) g3 3 3 (by have := qa.1; omega) (by omega) (by omega) qa.2.2).mono ?_
          rintro e W7d ⟨x, hx, rfl, hR, hG⟩
          have Sx := hid hx
          have HL' := hid ((unhid HL).call hb5 hG hR)
          clear hR hG hx qa HL
          have HL := HL'
          clear HL'
          refine ⟨_, rfl, hK.out _ _ ⟨(unhid HL).g, (unhid HL).two⟩ ?_⟩
          clear hK K
          simp only [Act.put, List.setIfInBounds_toArray, List.set_cons_zero, List.set_cons_succ]
          refine heldE_op 7 (by kernel_rfl) (by kernel_rfl) rfl (fun K hK => ?_)
          refine call_op 95 35 (enters_of Try.func95 (by kernel_rfl) rfl) #[.pointer (some ⟨b, 0, none⟩), .slice (some ⟨g6, 0, none⟩) 4 4] rfl rfl rfl rfl ?_
          have qa := ((unhid HL).arr (g6, 4) (by simp)).1
          refine (of_any short W7d b a len cap (q + 1) (unhid HL).rd (by omega) g6 4 4 (by have := qa.1; omega) (by omega) (by omega) qa.2.2).mono ?_
          rintro e W8 ⟨y, hy, rfl, hR, hG⟩
          have Sy := hid hy
          have HL' := hid ((unhid HL).call hb5 hG hR)
          clear hR hG hy qa HL
          have HL := HL'
          clear HL'
          refine ⟨_, rfl, hK.out _ _ ⟨(unhid HL).g, (unhid HL).two⟩ ?_⟩
          clear hK K
          simp only [Act.put, List.setIfInBounds_toArray, List.set_cons_zero, List.set_cons_succ]
          have zx : x.size ≤ 100 := unhid Sx
          have zy : y.size ≤ 100 := unhid Sy
          have hba : ∀ {q : Prop}, (CW (fun w' => W5.grownBy w' (some b) ∧ TwoAt w' gh at_ (.slice oa ls.length oc)) → q) ↔ q := CW.all ⟨(unhid HL).g, (unhid HL).two⟩
          refine heldE_here [false, false, false, false, false, false, false, false, true] (by kernel_rfl) (by kernel_rfl) (fun _ _ _ _ _ h => h) ⟨(unhid HL).g, (unhid HL).two⟩ ?_
          dsimp only [pick]
          repeat (go_big_quiet_step (fail))
          refine wpQuiet_nil ?_
          clear hba
          refine heldE_op 9 (by kernel_rfl) (by kernel_rfl) rfl (fun K hK => ?_)
          go_simp
          have TN := hid (one_new W8 (x ++ y))
          have HL' := hid ((unhid HL).alloc hb5 (.cells #[.string (x ++ y)] 9))
          refine hK.out _ _ ⟨(unhid HL').g, (unhid HL').two⟩ ?_
          clear hK K HL
          generalize W8.alloc (.cells #[.string (x ++ y)] 9) = W9 at TN HL' ⊢
          generalize W8.heap.size = g8 at TN ⊢
          have HL := HL'
          clear HL'
          refine heldE_op 10 (by kernel_rfl) (by kernel_rfl) rfl (fun K hK => ?_)
          refine app_op 38 (gh + 1) (.slice oa ls.length oc) ls [x ++ y] (some ⟨g8, 0, none⟩) 1 rfl rfl rfl rfl rfl (unhid HL).own (unhid TN) (fun e => by cases e) (by simp only [List.length_cons, List.length_nil]; omega) (unhid HL).lt ?_
          intro v2 W10 ho hg _
          obtain ⟨ga, t2, hl⟩ := (unhid HL).app hb5 hge hg ho
          refine hK.out _ _ ⟨ga, t2⟩ ?_
          clear hK K HL TN hg
          obtain ⟨va, vc, hv⟩ := ownsRow_sliceX ho
          subst hv
          have HL := hid hl
          clear hl ho
          have HX9 := hid (show ∀ z ∈ ls ++ [x ++ y], z.size ≤ 300 from fun z hz => by
            rcases List.mem_append.1 hz with hz | hz
            · exact unhid HX z hz
            · rw [List.mem_singleton.1 hz, ByteArray.size_append]
              have := unhid Sx
              have := unhid Sy
              unfold short at *
              omega)
          clear zx zy
          have hyl : (ls ++ [x ++ y]).length ≤ ls.length + 1 := by simp
          clear Sx Sy HX
          generalize ls ++ [x ++ y] = ys at *
          simp only [Act.put, List.setIfInBounds_toArray, List.set_cons_zero, List.set_cons_succ]
          have hba : ∀ {q : Prop}, (CW (fun w' => W5.grownBy w' (some b) ∧ TwoAt w' gh at_ (.slice oa ls.length oc)) → q) ↔ q := CW.all ⟨ga, t2⟩
          refine heldE_here [false, false, false, false, false, false, false, false, false, false, false, true] (by kernel_rfl) (by kernel_rfl) (fun _ _ _ _ _ h => h) ⟨ga, t2⟩ ?_
          dsimp only [pick]
          repeat (go_big_quiet_step (fail))
          refine wpQuiet_nil ?_
          clear hba ga
          obtain ⟨-, f2, f3⟩ := t2
          refine heldE_last (by kernel_rfl) (by kernel_rfl) rfl (fun K hK => ?_)
          go_simp
          refine hK.out _ _ ?_
          clear hK K f2 f3
          refine heldE_done (by kernel_rfl) ?_
          go_wp2_with fail
          go_roundw
          case rel => exact ⟨m - 1, q + 1 + 1, ys, va, vc, by go_num, by omega, by omega, HX9, HL⟩
          case measure => simp [intOf]; omega
      · have e : m = 0 := by omega
        subst e
        obtain ⟨⟨f0, f1⟩, f2, f3⟩ := (unhid HL).two
        obtain ⟨oa', oc', hov, hot, hon, hocap⟩ := owns_cap (unhid HL).own
        injection hov with e1 e2 e3
        subst e1
        subst e3
        clear e2 hon
        obtain ⟨vs5, ho5, -⟩ := unhid HD5
        have hvlt : ∀ j, v.ownBlock = some j → w.heap.size ≤ j ∧ j < gh := fun j e => ⟨(ho5.lt j e).1, Nat.lt_of_lt_of_le (ho5.lt j e).2 hge⟩
        obtain ⟨vs, ho, hv⟩ := (unhid HD5).grown hbl (unhid HL).g
        have hBa : Below wr.heap.size wr (wr.alloc (.cells #[.int .i64 at_, .slice oa ls.length oc] 46)) := (Below.refl _ _).alloc (Nat.le_refl _) _
        have hlo : ∀ blk o, oa = some ⟨blk, o, none⟩ → gh + 1 ≤ blk := fun blk o e => ((unhid HL).own.lt blk (by rw [e]; rfl)).1
        have hwg : w.heap.size ≤ gh := Nat.le_trans (unhid HG5).size hge
        have hbase : w.heap.size ≤ (wr.alloc (.cells #[.int .i64 at_, .slice oa ls.length oc] 46)).heap.size := by have := (unhid HL).lt; simp; omega
        have HO := hid (ho.alloc (.cells #[.int .i64 at_, .slice oa ls.length oc] 46))
        have HV := hid (hv.wide hBa)
        have HK := hid (oneHk (wr.alloc (.cells #[.int .i64 at_, .slice oa ls.length oc] 46)) w.heap.size v.ownBlock ⟨at_, ls⟩ oa oc (hot.below hBa) hocap (fun _ blk o e => by
          have h1 := hlo blk o e
          refine ⟨by omega, fun e2 => ?_⟩
          have := (hvlt blk e2).2
          omega))
        have HUP := hid (show ∀ j u, [Value.int .i64 at_, .slice oa ls.length oc][j]? = some u → ∃ x, (some (⟨wr.heap.size, 0, none⟩ : Addr)) = some x ∧ (wr.alloc (.cells #[.int .i64 at_, .slice oa ls.length oc] 46)).cell? (x.add j) = some u from fun j u hj => ⟨_, rfl, by
          rw [add_plainT, Nat.zero_add]
          exact cell_arr (World.alloc_heap_new wr _) _ _ (by simpa using hj)⟩)
        have HRa := hid ((unhid HL).rd.alloc (.cells #[.int .i64 at_, .slice oa ls.length oc] 46))
        have HGa := hid (grown_trans (grown_trans (unhid HG5) (unhid HL).g) (World.grownBy_alloc wr (.cells #[.int .i64 at_, .slice oa ls.length oc] 46) (some b)))
        have HVL := hid hvlt
        have hl1 := unhid HLEN
        clear hBa hlo hot hocap hvlt ho hv ho5 HL HD5 HG5
        go_wp2_with (at_builtin; (refine wp_drawh rfl _ _ rfl w.heap.size v hs [⟨at_, ls⟩] vs [.int .i64 at_, .slice oa ls.length oc] (some ⟨wr.heap.size, 0, none⟩) 1 rfl rfl (unhid HO) (unhid HV) (unhid HK) (fun e => by cases e) (unhid HUP) (by simp only [List.length_cons, List.length_nil]; omega) hbase ?_))
        intro v' W10 hd hg
        have HD := hid hd
        have HG := hid (grown_own (unhid HGa) hg (fun j e => (unhid HVL j e).1))
        have HR := hid ((unhid HRa).grown hg (fun j e => by have := (unhid HVL j e).1; omega))
        clear hd hg HGa HRa HO HV HK HUP HVL
        go_wp2_with fail
        go_ret
        exact ⟨v', rfl, hs ++ [⟨at_, ls⟩], by rw [List.length_append]; simp only [List.length_cons, List.length_nil]; omega, smallD_app (unhid HS) (fun x hx => by rw [List.mem_singleton.1 hx]; exact ⟨by dsimp only; omega, unhid HX⟩), unhid HD, ⟨q, by omega, unhid HR⟩, unhid HG⟩
    --loop]
  · have h0' : ((r : Int) == 0) = false := by rw [beq_eq_false_iff_ne]; omega
    go_wp2_with fail
    go_ret
    obtain ⟨c, hc⟩ : ∃ c, c = hs := ⟨hs, rfl⟩
    exact ⟨_, rfl, hs, by have := unhid HLEN; omega, unhid HS, unhid HD4, ⟨q2 + 1, by omega, unhid HR4⟩, unhid HG4⟩
end Go.Proofs.Ytedimkcnemhhpaa

/- The laws' own look at rows of lines, hunks and numbers: the same are the same. -/
namespace Go.Proofs.Ytedimkcnemhhpaa
open Go.RowKit Go.Shelf

set_option maxRecDepth 100000 in
set_option maxHeartbeats 4000000 in
theorem jsTexts_same (xs : List ByteArray) (a b : Option Addr) (cap cap2 : Nat) (w : World) (hx : xs.length ≤ maxLen) (h : TxtsAt w a xs) (h2 : TxtsAt w b xs) :
    Calls Try.prog 36 #[.slice a xs.length cap, .slice b xs.length cap2] w fun r w' => r = .returned (.bool true) ∧ Below w.heap.size w w' := by
  unfold maxLen at hx
  have hl' : ((xs.length : Int) != (xs.length : Int)) = false := by simp
  go_enter Try.func36, Try.ntmps36
  go_wp2_with fail
  go_loopw [5] (fun i wr => ∃ k : Nat, k ≤ xs.length ∧ i = .int .i64 k ∧ Below w.heap.size w wr) (fun i _ => xs.length - (intOf i).toNat)
  case atStart => exact ⟨0, Nat.zero_le _, rfl, Below.refl _ _⟩
  case round =>
    obtain ⟨k, hk, rfl, hB⟩ := hrel
    by_cases hlt : k < xs.length
    · obtain ⟨e, he⟩ : ∃ e, xs[k]? = some e := ⟨xs[k], List.getElem?_eq_getElem hlt⟩
      obtain ⟨bb, o, rfl, hbl, hc⟩ := h.get (by intro e; subst e; simp at hlt)
      obtain ⟨bb2, o2, rfl, hbl2, hc2⟩ := h2.get (by intro e; subst e; simp at hlt)
      have c0 := (hB.cell (p := ⟨bb, o + k, .none⟩) hbl).trans (hc k e he)
      have d0 := (hB.cell (p := ⟨bb2, o2 + k, .none⟩) hbl2).trans (hc2 k e he)
      have HB := hid hB
      have HH := hid (And.intro h (And.intro h2 (And.intro hc hc2)))
      have hq : (e.toList != e.toList) = false := by simp
      clear hc hc2 hB he h h2
      go_wp2_with fail
      go_quiet (fail)
      go_wp2_with fail
      go_roundw
      case rel => exact ⟨k + 1, by omega, by go_num, ⟨(unhid HB).os, (unhid HB).tape, (unhid HB).output, (unhid HB).size, (unhid HB).block⟩⟩
      case measure => simp [intOf]; omega
    · have e : k = xs.length := by omega
      subst e
      go_wp2_with fail
      go_ret
      exact ⟨rfl, hB⟩
set_option maxRecDepth 100000 in
set_option maxHeartbeats 2000000 in
theorem jsInts_same (zs : List Int) (a b : Option Addr) (cap cap2 : Nat) (w : World) (hx : zs.length ≤ maxLen) (h : IntsAt w a zs) (h2 : IntsAt w b zs) :
    Calls Try.prog 37 #[.slice a zs.length cap, .slice b zs.length cap2] w fun r w' => r = .returned (.bool true) ∧ Below w.heap.size w w' := by
  unfold maxLen at hx
  have hl' : ((zs.length : Int) != (zs.length : Int)) = false := by simp
  go_enter Try.func37, Try.ntmps37
  go_wp2_with fail
  go_loopw [5] (fun i wr => ∃ k : Nat, k ≤ zs.length ∧ i = .int .i64 k ∧ Below w.heap.size w wr) (fun i _ => zs.length - (intOf i).toNat)
  case atStart => exact ⟨0, Nat.zero_le _, rfl, Below.refl _ _⟩
  case round =>
    obtain ⟨k, hk, rfl, hB⟩ := hrel
    by_cases hlt : k < zs.length
    · have he := intFn_some hlt
      generalize intFn zs k = z at he
      obtain ⟨bb, o, rfl, hbl, hc⟩ := h.get (by intro e; subst e; simp at hlt)
      obtain ⟨bb2, o2, rfl, hbl2, hc2⟩ := h2.get (by intro e; subst e; simp at hlt)
      have c0 := (hB.cell (p := ⟨bb, o + k, .none⟩) hbl).trans (hc k z he)
      have d0 := (hB.cell (p := ⟨bb2, o2 + k, .none⟩) hbl2).trans (hc2 k z he)
      have HB := hid hB
      have HH := hid (And.intro h (And.intro h2 (And.intro hc hc2)))
      have hq : (z != z) = false := by simp
      clear hc hc2 hB he h h2
      go_wp2_with fail
      go_quiet (fail)
      go_wp2_with fail
      go_roundw
      case rel => exact ⟨k + 1, by omega, by go_num, ⟨(unhid HB).os, (unhid HB).tape, (unhid HB).output, (unhid HB).size, (unhid HB).block⟩⟩
      case measure => simp [intOf]; omega
    · have e : k = zs.length := by omega
      subst e
      go_wp2_with fail
      go_ret
      exact ⟨rfl, hB⟩

set_option maxRecDepth 100000 in
set_option maxHeartbeats 4000000 in
theorem jsHunks_same (hs : List Hk) (a b : Option Addr) (cap cap2 : Nat) (w : World) (hx : hs.length ≤ maxLen) (hz : ∀ h ∈ hs, h.lines.length ≤ maxLen) (h : HksAt w a hs) (h2 : HksAt w b hs) :
    Calls Try.prog 35 #[.slice a hs.length cap, .slice b hs.length cap2] w fun r w' => r = .returned (.bool true) ∧ Below w.heap.size w w' := by
  unfold maxLen at hx
  have hl' : ((hs.length : Int) != (hs.length : Int)) = false := by simp
  have HZ := hid hz
  clear hz
  go_enter Try.func35, Try.ntmps35
  go_wp2_with fail
  go_loopw [5] (fun i wr => ∃ k : Nat, k ≤ hs.length ∧ i = .int .i64 k ∧ Below w.heap.size w wr) (fun i _ => hs.length - (intOf i).toNat)
  case atStart => exact ⟨0, Nat.zero_le _, rfl, Below.refl _ _⟩
  case round =>
    obtain ⟨k, hk, rfl, hB⟩ := hrel
    by_cases hlt : k < hs.length
    · obtain ⟨e, he⟩ : ∃ e, hs[k]? = some e := ⟨hs[k], List.getElem?_eq_getElem hlt⟩
      obtain ⟨bb, o, rfl, hbl, hc⟩ := h.get (by intro e; subst e; simp at hlt)
      obtain ⟨bb2, o2, rfl, hbl2, hc2⟩ := h2.get (by intro e; subst e; simp at hlt)
      obtain ⟨la, lc, c0, c1, ht⟩ := (hc k e he).below hB hbl
      obtain ⟨la2, lc2, d0, d1, ht2⟩ := (hc2 k e he).below hB hbl2
      have g0 := BW.cell (B := wr.heap.size) (Nat.lt_of_lt_of_le hbl hB.size) c0
      have g1 := BW.cell (B := wr.heap.size) (Nat.lt_of_lt_of_le hbl hB.size) c1
      have g2 := BW.cell (B := wr.heap.size) (Nat.lt_of_lt_of_le hbl2 hB.size) d0
      have g3 := BW.cell (B := wr.heap.size) (Nat.lt_of_lt_of_le hbl2 hB.size) d1
      clear c0 c1 d0 d1
      have zl := hid (unhid HZ e (List.mem_of_getElem? he))
      have HB := hid hB
      have HT := hid ht
      have HT2 := hid ht2
      have HH := hid (And.intro h (And.intro h2 (And.intro hc hc2)))
      clear hc hc2 hB he h h2 ht ht2
      have hq : (e.at_ != e.at_) = false := by simp
      go_wp2_with fail
      have hba := @BW.all wr.heap.size wr
      refine calm_region wr.heap.size (by kernel_rfl) (by kernel_rfl) ?_
      repeat (go_big_quiet_step ((go_at_call 36; refine Calls.bw (v := .bool true) (Nat.le_refl _) ((jsTexts_same e.lines la la2 lc lc2 _ (unhid zl) ((unhid HT).below (BW.h _)) ((unhid HT2).below (BW.h _))).mono ?_); rintro r w2 ⟨rfl, hb⟩; exact ⟨rfl, hb⟩)))
      refine wpQuiet_nil ?_
      intro _ hw
      obtain ⟨⟨w2, hB2⟩, hw⟩ := hw
      subst hw
      have HB2 := hid ((unhid HB).trans (hB2.mono (unhid HB).size))
      clear hB2 hba g0 g1 g2 g3
      all_goals
        go_wp2_with fail
        go_roundw
        case rel => exact ⟨k + 1, by omega, by go_num, unhid HB2⟩
        case measure => simp [intOf]; omega
    · have e : k = hs.length := by omega
      subst e
      go_wp2_with fail
      go_ret
      exact ⟨rfl, hB⟩
end Go.Proofs.Ytedimkcnemhhpaa

/- What a law over lines, hunks and numbers keeps from call to call. -/
namespace Go.Proofs.Ytedimkcnemhhpaa
open Go.RowKit Go.Shelf

theorem HksC.below' {W W' : World} {a : Option Addr} {hs : List Hk} (h : HksC W a hs) (hb : Below W.heap.size W W') : HksC W' a hs := by
  rcases h with h | ⟨b, o, ha, hl, hc⟩
  · exact .inl h
  · refine .inr ⟨b, o, ha, Nat.lt_of_lt_of_le hl hb.size, fun i x hi => ?_⟩
    obtain ⟨la, cap, c0, c1, ht, hk⟩ := hc i x hi
    exact ⟨la, cap, (hb.cell (p := ⟨b, o + i * 2, none⟩) hl).trans c0, (hb.cell (p := ⟨b, o + i * 2 + 1, none⟩) hl).trans c1, ht.below hb, hk⟩
/-- Rows of texts, of hunks and of numbers that a law keeps. -/
def Kp (w : World) (B : Nat) (W : World) (l : List (Option Addr × List ByteArray)) (m : List (Option Addr × List Hk)) (z : List (Option Addr × List Int)) : Prop :=
  Below w.heap.size w W ∧ B ≤ W.heap.size ∧ (∀ x ∈ l, TxtsAt W x.1 x.2) ∧ (∀ x ∈ m, HksC W x.1 x.2) ∧ (∀ x ∈ z, IntsAt W x.1 x.2)
theorem Kp.step {w W W' : World} {B : Nat} {l : List (Option Addr × List ByteArray)} {m : List (Option Addr × List Hk)} {z : List (Option Addr × List Int)} (h : Kp w B W l m z) (hb : Below W.heap.size W W') : Kp w B W' l m z :=
  ⟨h.1.trans (hb.mono h.1.size), Nat.le_trans h.2.1 hb.size, fun x hx => (h.2.2.1 x hx).below hb, fun x hx => (h.2.2.2.1 x hx).below' hb, fun x hx => (h.2.2.2.2 x hx).below hb⟩
theorem Kp.alloc {w W : World} {B : Nat} {l : List (Option Addr × List ByteArray)} {m : List (Option Addr × List Hk)} {z : List (Option Addr × List Int)} (h : Kp w B W l m z) (o : Obj) : Kp w B (W.alloc o) l m z :=
  h.step ((Below.refl _ _).alloc (Nat.le_refl _) _)
theorem Kp.txts {w W : World} {B : Nat} {l : List (Option Addr × List ByteArray)} {m : List (Option Addr × List Hk)} {z : List (Option Addr × List Int)} {a : Option Addr} {xs : List ByteArray} (h : Kp w B W l m z) (hx : (a, xs) ∈ l) : TxtsAt W a xs := h.2.2.1 _ hx
theorem Kp.hks {w W : World} {B : Nat} {l : List (Option Addr × List ByteArray)} {m : List (Option Addr × List Hk)} {z : List (Option Addr × List Int)} {a : Option Addr} {xs : List Hk} (h : Kp w B W l m z) (hx : (a, xs) ∈ m) : HksC W a xs := h.2.2.2.1 _ hx
theorem Kp.ints {w W : World} {B : Nat} {l : List (Option Addr × List ByteArray)} {m : List (Option Addr × List Hk)} {z : List (Option Addr × List Int)} {a : Option Addr} {xs : List Int} (h : Kp w B W l m z) (hx : (a, xs) ∈ z) : IntsAt W a xs := h.2.2.2.2 _ hx
theorem Kp.putT {w W : World} {B : Nat} {l : List (Option Addr × List ByteArray)} {m : List (Option Addr × List Hk)} {z : List (Option Addr × List Int)} {a : Option Addr} {xs : List ByteArray} (h : Kp w B W l m z) (hx : TxtsAt W a xs) : Kp w B W ((a, xs) :: l) m z :=
  ⟨h.1, h.2.1, fun x hx' => by rcases List.mem_cons.1 hx' with rfl | hx'; exact hx; exact h.2.2.1 x hx', h.2.2.2⟩
theorem Kp.putH {w W : World} {B : Nat} {l : List (Option Addr × List ByteArray)} {m : List (Option Addr × List Hk)} {z : List (Option Addr × List Int)} {a : Option Addr} {xs : List Hk} (h : Kp w B W l m z) (hx : HksC W a xs) : Kp w B W l ((a, xs) :: m) z :=
  ⟨h.1, h.2.1, h.2.2.1, fun x hx' => by rcases List.mem_cons.1 hx' with rfl | hx'; exact hx; exact h.2.2.2.1 x hx', h.2.2.2.2⟩
theorem Kp.putZ {w W : World} {B : Nat} {l : List (Option Addr × List ByteArray)} {m : List (Option Addr × List Hk)} {z : List (Option Addr × List Int)} {a : Option Addr} {xs : List Int} (h : Kp w B W l m z) (hx : IntsAt W a xs) : Kp w B W l m ((a, xs) :: z) :=
  ⟨h.1, h.2.1, h.2.2.1, h.2.2.2.1, fun x hx' => by rcases List.mem_cons.1 hx' with rfl | hx'; exact hx; exact h.2.2.2.2 x hx'⟩
/-- What a patch answers, in the form that a law takes. -/
theorem patch_kp {w W W' : World} {B : Nat} {l : List (Option Addr × List ByteArray)} {m : List (Option Addr × List Hk)} {z : List (Option Addr × List Int)} {e : Ending} {ls : List ByteArray} {hs : List Hk} {fz : Int} (h : Kp w B W l m z) (ho : PatchOut W W' e ls hs fz) :
    ∃ a0 c0 a1 c1, e = .returned (.tuple #[.slice a0 (patch_0 ls hs fz).length c0, .slice a1 (patch_1 ls hs fz).length c1, .bool (patch_2 ls hs fz)]) ∧ (a0 = none → c0 = 0) ∧ (patch_0 ls hs fz).length ≤ c0 ∧ (patch_1 ls hs fz).length ≤ c1 ∧ Kp w B W' ((a0, patch_0 ls hs fz) :: l) m ((a1, patch_1 ls hs fz) :: z) := by
  obtain ⟨v0, v1, rfl, h0, h1, hne, hb⟩ := ho
  obtain ⟨a1, a2⟩ := TxtOwn.of_owns h0
  obtain ⟨b1, b2⟩ := IntOwn.of_owns h1
  obtain ⟨a, cap, rfl, ht, hn, hc⟩ := a1.cap
  obtain ⟨a', cap', hv, hz⟩ := IntOwn.read b1
  have hc2 : (patch_1 ls hs fz).length ≤ cap' := by
    rcases h1.2 with ⟨hv2, h0'⟩ | ⟨g, cap2, cur, hv2, _, _, h3, _⟩
    · have : (patch_1 ls hs fz).length = 0 := h0'
      omega
    · rw [hv] at hv2; injection hv2 with e1 e2 e3; omega
  subst hv
  exact ⟨a, cap, a', cap', rfl, hn, hc, hc2, ((h.step hb).putT ht).putZ hz⟩
theorem diff_kp {w W W' : World} {B : Nat} {l : List (Option Addr × List ByteArray)} {m : List (Option Addr × List Hk)} {z : List (Option Addr × List Int)} {v : Value} {hs : List Hk} (h : Kp w B W l m z) (ho : HksOwn W' W.heap.size v hs) (hb : Below W.heap.size W W') :
    ∃ a c, v = .slice a hs.length c ∧ Kp w B W' l ((a, hs) :: m) z := by
  obtain ⟨F, hF, _⟩ := hksOwn_own ho
  obtain ⟨a, c, rfl, hc⟩ := HkOwn.readC hF
  exact ⟨a, c, rfl, (h.step hb).putH hc⟩
theorem patch_gain {ls : List ByteArray} {hs : List Hk} {fz : Int} (h : patch_2 ls hs fz = true) : ((patch_0 ls hs fz).length : Int) = ls.length + gainL hs ∧ (patch_1 ls hs fz).length = hs.length ∧ (∀ x ∈ patch_1 ls hs fz, -9 < x ∧ x < 9) ∧ hunksB hs = true := by
  obtain ⟨s, hd⟩ := done_of h
  obtain ⟨h1, h2, h3⟩ := hd.gain
  exact ⟨h1, h2, h3, (okM_parts.1 hd.ok).2.1⟩
end Go.Proofs.Ytedimkcnemhhpaa
