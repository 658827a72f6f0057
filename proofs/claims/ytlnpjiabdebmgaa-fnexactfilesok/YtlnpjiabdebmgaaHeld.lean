/- A region that draws its order: what only reads is taken first, a list of operations at a time; what calls or makes comes up in its turn. -/
import Derived.Test.YtlnpjiabdebmgaaCalm
import Derived.Deep.RegionHeld
namespace Go.Proofs.Ytlnpjiabdebmgaa
open Go.RowKit

/-- An operation that can yield nothing but a value. -/
def plainOp (o : Oper) : Bool := match o.op with
  | .move _ | .assign _ | .load .. | .binOp .. | .unOp .. | .convert .. | .fieldAddr .. | .field .. | .indexAddr .. | .index .. | .slice .. | .extract .. | .build .. | .makeInterface .. | .typeAssert .. | .pick .. | .nilCheck .. => true
  | .call c => match c.callee with
    | .builtin .len => true
    | .builtin .min => true
    | .builtin .max => true
    | _ => false
  | _ => false
theorem val_only {P : Program} {s : Sem Value} {w w' : World} {n : Next} (h : (do let x ← s; pure (Next.value x) : Sem Next).run P w = .ok n w') : ∃ u, n = .value u := by
  rw [Sem.run_bind] at h
  generalize s.run P w = r at h
  cases r with
  | ok a w1 => simp only [Result.andThen_ok, Sem.run_pure] at h; cases h; exact ⟨_, rfl⟩
  | halt x w1 => simp at h
theorem plain_value {P : Program} {o : Oper} {ρ : Operand → Value} {w w' : World} {n : Next} (hp : plainOp o = true) (h : (execOp ρ o).run P w = .ok n w') : ∃ u, n = .value u := by
  unfold plainOp at hp
  unfold execOp at h
  cases ho : o.op <;> rw [ho] at hp h <;> first | (cases hp; done) | skip
  case move x => simp only [Sem.run_pure] at h; cases h; exact ⟨_, rfl⟩
  case assign x => simp only [Sem.run_pure] at h; cases h; exact ⟨_, rfl⟩
  case pick c x y =>
    simp only [Sem.run_bind] at h
    generalize Sem.run P _ w = r at h
    cases r with
    | ok a w1 => simp only [Result.andThen_ok, Sem.run_pure] at h; cases h; exact ⟨_, rfl⟩
    | halt x w1 => simp at h
  case nilCheck x =>
    dsimp only at h
    split at h
    · simp [runtimePanic] at h
    · simp [runtimePanic] at h
    · simp [runtimePanic] at h
    · split at h
      · simp [runtimePanic] at h
      · simp only [Sem.run_bind] at h
        generalize Sem.run P program w = r at h
        cases r with
        | halt x w1 => simp at h
        | ok a w1 =>
          simp only [Result.andThen_ok] at h
          generalize Sem.run P (nilAhead _ _ _ _) w1 = r at h
          cases r with
          | halt x w1 => simp at h
          | ok a w1 =>
            simp only [Result.andThen_ok] at h
            split at h
            · simp [unsupported] at h
            · simp only [Sem.run_pure] at h; cases h; exact ⟨_, rfl⟩
      · simp only [Sem.run_pure] at h; cases h; exact ⟨_, rfl⟩
    · simp only [Sem.run_pure] at h; cases h; exact ⟨_, rfl⟩
  case call c =>
    obtain ⟨ce, ar, ty⟩ := c
    cases ce with
    | value f => cases hp
    | invoke r m => cases hp
    | builtin b =>
      cases b <;> first | (cases hp; done) | skip
      all_goals
        simp only [resolve, Sem.run_bind, Sem.run_pure, Result.andThen_ok, invoke, builtin] at h
        generalize Sem.run P _ w = r at h
        cases r with
        | ok a w1 => simp only [Result.andThen_ok] at h; cases h; exact ⟨_, rfl⟩
        | halt x w1 => simp at h
  all_goals exact val_only h

theorem heldQ_mono {P : Program} {md : Region.Mode} {ops : Array Oper} {Q : Exit → Act → World → Prop} {S S' : World → Prop} (hS : ∀ w, S w → S' w) : ∀ (fuel : Nat) (listed : Array Bool) (a : Act) (w : World), wpAnyH P md ops Q S fuel listed a w → wpAnyH P md ops Q S' fuel listed a w
  | 0, _, _, _, h => h
  | fuel + 1, _, _, _, h => ⟨h.1, fun i hi => wpOp_mono (fun a' w' h' => ⟨hS _ h'.1, heldQ_mono hS fuel _ a' w' h'.2⟩) (h.2 i hi)⟩

def pick : List Oper → List Bool → List Oper
  | o :: l, true :: bs => o :: pick l bs
  | _ :: l, false :: bs => pick l bs
  | _, _ => []
def maskIx : Nat → List Bool → List Nat
  | k, true :: bs => k :: maskIx (k + 1) bs
  | k, false :: bs => maskIx (k + 1) bs
  | _, [] => []
def markAll : List Nat → Array Bool → Array Bool
  | [], l => l
  | i :: is, l => markAll is (l.setIfInBounds i true)
/-- Whether the operations of a list may be taken first, one behind the other. -/
def heldB (md : Region.Mode) (ops : Array Oper) : List Nat → Array Bool → Bool
  | [], _ => true
  | i :: is, listed => (Region.ready md ops listed).contains i && Region.free md ops listed i && ((ops[i]?).map plainOp).getD false && heldB md ops is (listed.setIfInBounds i true)

theorem pick_ix (l : List Oper) : ∀ (l' : List Oper) (m : List Bool) (k : Nat), m.length ≤ l'.length → (∀ j, l'[j]? = l[k + j]?) → (maskIx k m).map (fun i => l.toArray[i]?) = (pick l' m).map some
  | _, [], _, _, _ => by cases ‹List Oper› <;> rfl
  | [], b :: m, _, h, _ => by simp at h
  | o :: l', true :: m, k, h, hl => by
    have h0 : l[k]? = some o := by simpa using (hl 0).symm
    simp only [maskIx, pick, List.map_cons]
    rw [pick_ix l l' m (k + 1) (by simpa using h) (fun j => by have := hl (j + 1); simpa [Nat.add_assoc, Nat.add_comm 1 j] using this)]
    simp [h0]
  | o :: l', false :: m, k, h, hl => by
    simp only [maskIx, pick]
    exact pick_ix l l' m (k + 1) (by simpa using h) (fun j => by have := hl (j + 1); simpa [Nat.add_assoc, Nat.add_comm 1 j] using this)

theorem yieldsIf_quiet {P : Program} {ops : Array Oper} {S : World → Prop} {o : Oper} {a : Act} {K : Act → Prop} (hp : plainOp o = true) (h : if Region.wanted o (yielded ops a.tmps) then o.quiet P a S K else K (a.put o.dst undef)) : ∃ v, YieldsIf P ops S o v a ∧ K (a.put o.dst v) := by
  split at h
  · rename_i hw
    obtain ⟨v, h1, h2⟩ := h
    refine ⟨v, .inl ⟨hw, fun w hS => ?_⟩, h2⟩
    have h3 := h1 w hS
    unfold Oper.quietAt at h3
    generalize hr : (execOp a.eval o).run P w = r at h3
    cases r with
    | ok n w' =>
      obtain ⟨u, rfl⟩ := plain_value hp hr
      simp only [Oper.quietUpon] at h3
      obtain ⟨rfl, rfl⟩ := h3
      rfl
    | halt x w' => simp only [Oper.quietUpon] at h3
  · rename_i hw
    exact ⟨undef, .inr ⟨by simpa using hw, rfl⟩, h⟩

theorem held_list {P : Program} {md : Region.Mode} {ops : Array Oper} {Q : Exit → Act → World → Prop} {S : World → Prop} (hs : Region.noSelect ops = true) (hQ : ∀ c a t v w, Q (.panic c) (Act.put a (some t) v) w → Q (.panic c) a w) (fuel : Nat) : ∀ (is : List Nat) (l : List Oper) (listed : Array Bool) (a : Act) (w : World), is.map (fun i => ops[i]?) = l.map some → heldB md ops is listed = true → S w →
    wpQuiet P ops S (fun a' => ∀ w', S w' → wpAnyH P md ops Q S fuel (markAll is listed) a' w') l a → wpAnyH P md ops Q S (is.length + fuel) listed a w
  | [], [], listed, a, w, _, _, hS, h => by rw [List.length_nil, Nat.zero_add]; exact h w hS
  | [], _ :: _, _, _, _, e, _, _, _ => by cases e
  | _ :: _, [], _, _, _, e, _, _, _ => by cases e
  | i :: is, o :: l, listed, a, w, e, hB, hS, h => by
    simp only [List.map_cons, List.cons.injEq] at e
    simp only [heldB, Bool.and_eq_true] at hB
    obtain ⟨⟨⟨h1, h2⟩, h3⟩, h4⟩ := hB
    rw [e.1] at h3
    obtain ⟨v, hy, hK⟩ := yieldsIf_quiet (by simpa using h3) h
    rw [show (i :: is).length + fuel = (is.length + fuel) + 1 by simp; omega]
    exact wpAnyH_take e.1 hs h2 h1 (fun c a w hq => by cases hd : o.dst with | none => rw [hd] at hq; exact hq | some t => rw [hd] at hq; exact hQ _ _ _ _ _ hq) hy hS (held_list hs hQ fuel is l _ _ w e.2 h4 hS hK)

theorem held_same {P : Program} {md : Region.Mode} {ops : Array Oper} {Q : Exit → Act → World → Prop} {S : World → Prop} (hs : Region.noSelect ops = true) (hQ : ∀ c a t v w, Q (.panic c) (Act.put a (some t) v) w → Q (.panic c) a w) (fuel : Nat) : ∀ (is : List Nat) (l : List Oper) (listed : Array Bool) (a : Act) (w : World), is.map (fun i => ops[i]?) = l.map some → heldB md ops is listed = true → S w →
    wpQuiet P ops S (fun a' => wpAnyH P md ops Q S fuel (markAll is listed) a' w) l a → wpAnyH P md ops Q S (is.length + fuel) listed a w
  | [], [], listed, a, w, _, _, _, h => by rw [List.length_nil, Nat.zero_add]; exact h
  | [], _ :: _, _, _, _, e, _, _, _ => by cases e
  | _ :: _, [], _, _, _, e, _, _, _ => by cases e
  | i :: is, o :: l, listed, a, w, e, hB, hS, h => by
    simp only [List.map_cons, List.cons.injEq] at e
    simp only [heldB, Bool.and_eq_true] at hB
    obtain ⟨⟨⟨h1, h2⟩, h3⟩, h4⟩ := hB
    rw [e.1] at h3
    obtain ⟨v, hy, hK⟩ := yieldsIf_quiet (by simpa using h3) h
    rw [show (i :: is).length + fuel = (is.length + fuel) + 1 by simp; omega]
    exact wpAnyH_take e.1 hs h2 h1 (fun c a w hq => by cases hd : o.dst with | none => rw [hd] at hq; exact hq | some t => rw [hd] at hq; exact hQ _ _ _ _ _ hq) hy hS (held_same hs hQ fuel is l _ _ w e.2 h4 hS hK)

/-- A world that meets S. -/
theorem held_begin {P : Program} {id : Nat} {Q : Exit → Act → World → Prop} {a : Act} {w : World} {l : List Oper} (C : World → Prop) (hm : P.follows .mixedOrders = true) (hC : C w.drew)
    (h : wpAnyH P .any l.toArray Q (fun w' => ∃ x : CW C, w' = x.w) l.length (Array.replicate l.length false) a w.drew) : (Code.region id l.toArray true).wp P Q a w :=
  wp_region_held_drew (S := fun w' => ∃ x : CW C, w' = x.w) hm ⟨⟨_, hC⟩, rfl⟩ (fun _ => by simpa using h)
theorem held_take {P : Program} {md : Region.Mode} {Q : Exit → Act → World → Prop} {C : World → Prop} {F : Nat} {listed : Array Bool} {a : Act} {w : World} {l : List Oper} (m : List Bool) (hs : Region.noSelect l.toArray = true) (hB : (decide (m.length ≤ l.length) && decide ((maskIx 0 m).length ≤ F) && heldB md l.toArray (maskIx 0 m) listed) = true) (hQ : ∀ c a t v w, Q (.panic c) (Act.put a (some t) v) w → Q (.panic c) a w) (hC : C w)
    (h : wpQuiet P l.toArray (fun w' => ∃ x : CW C, w' = x.w) (fun a' => ∀ x : CW C, wpAnyH P md l.toArray Q (fun w' => ∃ x : CW C, w' = x.w) (F - (maskIx 0 m).length) (markAll (maskIx 0 m) listed) a' x.w) (pick l m) a) :
    wpAnyH P md l.toArray Q (fun w' => ∃ x : CW C, w' = x.w) F listed a w := by
  simp only [Bool.and_eq_true, decide_eq_true_eq] at hB
  obtain ⟨⟨h1, h2⟩, h3⟩ := hB
  have := held_list (P := P) (md := md) (Q := Q) (S := fun w' => ∃ x : CW C, w' = x.w) hs hQ (F - (maskIx 0 m).length) (maskIx 0 m) (pick l m) listed a w (pick_ix l l m 0 h1 (by simp)) h3 ⟨⟨w, hC⟩, rfl⟩ (by
    refine cast ?_ h
    congr 1
    funext a'
    refine propext ⟨fun h w' ⟨x, hx⟩ => by rw [hx]; exact h x, fun h x => h _ ⟨x, rfl⟩⟩)
  rwa [show (maskIx 0 m).length + (F - (maskIx 0 m).length) = F by omega] at this
/-- The same, in the very world. -/
theorem held_here {P : Program} {md : Region.Mode} {Q : Exit → Act → World → Prop} {C : World → Prop} {F : Nat} {listed : Array Bool} {a : Act} {w : World} {l : List Oper} (m : List Bool) (hs : Region.noSelect l.toArray = true) (hB : (decide (m.length ≤ l.length) && decide ((maskIx 0 m).length ≤ F) && heldB md l.toArray (maskIx 0 m) listed) = true) (hQ : ∀ c a t v w, Q (.panic c) (Act.put a (some t) v) w → Q (.panic c) a w) (hC : C w)
    (h : wpQuiet P l.toArray (fun w' => ∃ x : CW C, w' = x.w) (fun a' => wpAnyH P md l.toArray Q (fun w' => ∃ x : CW C, w' = x.w) (F - (maskIx 0 m).length) (markAll (maskIx 0 m) listed) a' w) (pick l m) a) :
    wpAnyH P md l.toArray Q (fun w' => ∃ x : CW C, w' = x.w) F listed a w := by
  simp only [Bool.and_eq_true, decide_eq_true_eq] at hB
  obtain ⟨⟨h1, h2⟩, h3⟩ := hB
  have := held_same (P := P) (md := md) (Q := Q) (S := fun w' => ∃ x : CW C, w' = x.w) hs hQ (F - (maskIx 0 m).length) (maskIx 0 m) (pick l m) listed a w (pick_ix l l m 0 h1 (by simp)) h3 ⟨⟨w, hC⟩, rfl⟩ h
  rwa [show (maskIx 0 m).length + (F - (maskIx 0 m).length) = F by omega] at this
theorem held_more {P : Program} {md : Region.Mode} {ops : Array Oper} {Q : Exit → Act → World → Prop} {C : World → Prop} {F : Nat} {listed : Array Bool} {a : Act} {w : World} (C' : World → Prop) (hC : ∀ w, C' w → C w)
    (h : wpAnyH P md ops Q (fun w' => ∃ x : CW C', w' = x.w) F listed a w) : wpAnyH P md ops Q (fun w' => ∃ x : CW C, w' = x.w) F listed a w :=
  heldQ_mono (fun _ ⟨x, hx⟩ => ⟨⟨x.w, hC _ x.h⟩, hx⟩) _ _ _ _ h
/-- One operation comes up: behind it a world of the class. -/
theorem held_op {P : Program} {md : Region.Mode} {ops : Array Oper} {Q : Exit → Act → World → Prop} {C : World → Prop} {F : Nat} {listed : Array Bool} {a : Act} {w : World} {o : Oper} (k : Nat) (hr : Region.ready md ops listed = [k]) (hF : decide (0 < F) = true) (ho : ops[k]? = some o)
    (h : ∀ K' : Act → World → Prop, Shut (∀ a w, C w → wpAnyH P md ops Q (fun w' => ∃ x : CW C, w' = x.w) (F - 1) (listed.setIfInBounds k true) a w → K' a w) → if Region.wanted o (yielded ops a.tmps) = true then Oper.wp P o a w K' Q else K' (a.put o.dst undef) w) :
    wpAnyH P md ops Q (fun w' => ∃ x : CW C, w' = x.w) F listed a w := by
  have hF' : F = (F - 1) + 1 := by simp only [decide_eq_true_eq] at hF; omega
  rw [hF']
  refine wpAnyH_ready hr (by simp) (AllReadyH.cons ho (fun K' hK => h K' (fun a w hc hw => hK.out a w ⟨⟨w, hc⟩, rfl⟩ (fun _ => hw))) AllReadyH.nil)
/-- A function is called: behind it a world of the class. -/
theorem held_call {P : Program} {md : Region.Mode} {ops : Array Oper} {Q : Exit → Act → World → Prop} {C : World → Prop} {F : Nat} {listed : Array Bool} {a : Act} {w : World} {o : Oper} {args : Array Operand} {ty : Array TypeId} (k f d : Nat) (he : ∀ args w, (callFunc f args).run P w = .ok (.enter f args) w) (av : Array Value) (hr : Region.ready md ops listed = [k]) (hF : decide (0 < F) = true) (ho : ops[k]? = some o)
    (hop : o.op = .call ⟨.value (.func f), args, ty⟩) (hw : Region.wanted o (yielded ops a.tmps) = true) (hd : o.dst = some d) (hav : args.toList.map a.eval = av.toList)
    (h : Calls P f av w fun e w' => ∃ v, e = .returned v ∧ C w' ∧ wpAnyH P md ops Q (fun w' => ∃ x : CW C, w' = x.w) (F - 1) (listed.setIfInBounds k true) (a.put (some d) v) w') :
    wpAnyH P md ops Q (fun w' => ∃ x : CW C, w' = x.w) F listed a w := by
  refine held_op k hr hF ho (fun K hK => ?_)
  rw [if_pos hw]
  have hav : args.map a.eval = av := by apply Array.ext'; rw [Array.toList_map]; exact hav
  have hx : (execOp a.eval o).run P w = .ok (.enter f av) w := by
    unfold execOp
    rw [hop]
    simp [resolve, Deferred.ofValue, invoke, he, hav, Act.eval]
  unfold Oper.wp
  rw [hx]
  refine Calls.mono h ?_
  rintro e w' ⟨v, rfl, hc, hn⟩
  exact hK.out _ _ hc (by rw [hd]; exact hn)
/-- One of two operations comes up. -/
theorem held_op2 {P : Program} {md : Region.Mode} {ops : Array Oper} {Q : Exit → Act → World → Prop} {C : World → Prop} {F : Nat} {listed : Array Bool} {a : Act} {w : World} {o o2 : Oper} (k k2 : Nat) (hr : Region.ready md ops listed = [k, k2]) (hF : decide (0 < F) = true) (ho : ops[k]? = some o) (ho2 : ops[k2]? = some o2)
    (h : ∀ K' : Act → World → Prop, Shut (∀ a w, C w → wpAnyH P md ops Q (fun w' => ∃ x : CW C, w' = x.w) (F - 1) (listed.setIfInBounds k true) a w → K' a w) → if Region.wanted o (yielded ops a.tmps) = true then Oper.wp P o a w K' Q else K' (a.put o.dst undef) w)
    (h2 : ∀ K' : Act → World → Prop, Shut (∀ a w, C w → wpAnyH P md ops Q (fun w' => ∃ x : CW C, w' = x.w) (F - 1) (listed.setIfInBounds k2 true) a w → K' a w) → if Region.wanted o2 (yielded ops a.tmps) = true then Oper.wp P o2 a w K' Q else K' (a.put o2.dst undef) w) :
    wpAnyH P md ops Q (fun w' => ∃ x : CW C, w' = x.w) F listed a w := by
  have hF' : F = (F - 1) + 1 := by simp only [decide_eq_true_eq] at hF; omega
  rw [hF']
  exact wpAnyH_ready hr (by simp) (AllReadyH.cons ho (fun K' hK => h K' (fun a w hc hw => hK.out a w ⟨⟨w, hc⟩, rfl⟩ (fun _ => hw))) (AllReadyH.cons ho2 (fun K' hK => h2 K' (fun a w hc hw => hK.out a w ⟨⟨w, hc⟩, rfl⟩ (fun _ => hw))) AllReadyH.nil))
/-- Two operations come up, in whatever order: one reads, the other makes something. -/
theorem held_both {P : Program} {md : Region.Mode} {ops : Array Oper} {Q : Exit → Act → World → Prop} {C : World → Prop} {F : Nat} {listed : Array Bool} {a : Act} {w : World} {o o2 : Oper} (k k2 d d2 : Nat) (v u : Value) (w2 : World) (hr : Region.ready md ops listed = [k, k2]) (hr1 : Region.ready md ops (listed.setIfInBounds k true) = [k2]) (hr2 : Region.ready md ops (listed.setIfInBounds k2 true) = [k]) (hF : decide (1 < F) = true) (ho : ops[k]? = some o) (ho2 : ops[k2]? = some o2)
    (hap : o.apart ops o2 = true) (hs : Region.noSelect ops = true) (hw : Region.wanted o (yielded ops a.tmps) = true) (hw2 : Region.wanted o2 (yielded ops a.tmps) = true) (hd : o.dst = some d) (hd2 : o2.dst = some d2) (hC : C w) (hC2 : C w2)
    (hx : (execOp a.eval o).run P w = .ok (.value v) w) (hx2 : (execOp a.eval o).run P w2 = .ok (.value v) w2) (hy : (execOp a.eval o2).run P w = .ok (.value u) w2)
    (h : wpAnyH P md ops Q (fun w' => ∃ x : CW C, w' = x.w) (F - 2) ((listed.setIfInBounds k true).setIfInBounds k2 true) ((a.put (some d) v).put (some d2) u) w2) :
    wpAnyH P md ops Q (fun w' => ∃ x : CW C, w' = x.w) F listed a w := by
  have hne : k ≠ k2 := fun e => by
    have h1 : k ∈ Region.ready md ops (listed.setIfInBounds k2 true) := by rw [hr2]; simp
    obtain ⟨hu, oj, hj, _⟩ := mem_ready.1 h1
    obtain ⟨hu2, _⟩ := mem_ready.1 (show k2 ∈ Region.ready md ops listed by rw [hr]; simp)
    subst e
    rcases Nat.lt_or_ge k listed.size with hl | hl
    · simp [hl] at hu
    · simp [Array.getElem?_eq_none hl] at hu2
  obtain ⟨h1, h2, h3⟩ := Oper.apart_spec hap
  have s1 : ∀ cs b, o.op ≠ .select cs b := fun cs b => Region.noSelect_spec hs k o cs b ho
  have s2 : ∀ cs b, o2.op ≠ .select cs b := fun cs b => Region.noSelect_spec hs k2 o2 cs b ho2
  have hF1 : decide (0 < F) = true := by simp only [decide_eq_true_eq] at *; omega
  have hF2 : decide (0 < F - 1) = true := by simp only [decide_eq_true_eq] at *; omega
  refine held_op2 k k2 hr hF1 ho ho2 (fun K hK => ?_) (fun K hK => ?_)
  · rw [if_pos hw]
    unfold Oper.wp
    rw [hx]
    refine hK.out _ _ hC ?_
    rw [hd]
    refine held_op k2 hr1 hF2 ho2 (fun K2 hK2 => ?_)
    rw [if_pos (by rw [wanted_put o2 a (some d) v (fun t ht => h1 t (by rw [hd, ← ht]))]; exact hw2)]
    unfold Oper.wp
    rw [execOp_put o2 s2 a (some d) v (fun t ht => h1 t (by rw [hd, ← ht])), hy]
    refine hK2.out _ _ hC2 ?_
    rw [hd2]
    exact h
  · rw [if_pos hw2]
    unfold Oper.wp
    rw [hy]
    refine hK.out _ _ hC2 ?_
    rw [hd2]
    refine held_op k hr2 hF2 ho (fun K2 hK2 => ?_)
    rw [if_pos (by rw [wanted_put o a (some d2) u (fun t ht => h3 t (by rw [hd2, ← ht]))]; exact hw)]
    unfold Oper.wp
    rw [execOp_put o s1 a (some d2) u (fun t ht => h3 t (by rw [hd2, ← ht])), hx2]
    refine hK2.out _ _ hC2 ?_
    rw [hd, ← Act.put_comm a (x := some d) (y := some d2) v u (fun t ht => by have := h2 t (by rw [hd, ← ht]); rwa [hd2] at this), Array.setIfInBounds_comm _ _ hne.symm]
    exact h
/-- A reading and a call come up, in whatever order: the call leaves what is read. -/
theorem held_both_call {P : Program} {md : Region.Mode} {ops : Array Oper} {Q : Exit → Act → World → Prop} {C : World → Prop} {F : Nat} {listed : Array Bool} {a : Act} {w : World} {o o2 : Oper} {args : Array Operand} {ty : Array TypeId} (k k2 f d d2 : Nat) (he : ∀ args w, (callFunc f args).run P w = .ok (.enter f args) w) (v : Value) (av : Array Value) (hr : Region.ready md ops listed = [k, k2]) (hr1 : Region.ready md ops (listed.setIfInBounds k true) = [k2]) (hr2 : Region.ready md ops (listed.setIfInBounds k2 true) = [k]) (hF : decide (1 < F) = true) (ho : ops[k]? = some o) (ho2 : ops[k2]? = some o2)
    (hap : o.apart ops o2 = true) (hs : Region.noSelect ops = true) (hw : Region.wanted o (yielded ops a.tmps) = true) (hw2 : Region.wanted o2 (yielded ops a.tmps) = true) (hd : o.dst = some d) (hd2 : o2.dst = some d2) (hop : o2.op = .call ⟨.value (.func f), args, ty⟩) (hav : args.toList.map a.eval = av.toList) (hC : C w)
    (hx : (execOp a.eval o).run P w = .ok (.value v) w)
    (h : Calls P f av w fun e w' => ∃ u, e = .returned u ∧ C w' ∧ (execOp a.eval o).run P w' = .ok (.value v) w' ∧ wpAnyH P md ops Q (fun w' => ∃ x : CW C, w' = x.w) (F - 2) ((listed.setIfInBounds k true).setIfInBounds k2 true) ((a.put (some d) v).put (some d2) u) w') :
    wpAnyH P md ops Q (fun w' => ∃ x : CW C, w' = x.w) F listed a w := by
  have hne : k ≠ k2 := fun e => by
    have h1 : k ∈ Region.ready md ops (listed.setIfInBounds k2 true) := by rw [hr2]; simp
    obtain ⟨hu, oj, hj, _⟩ := mem_ready.1 h1
    obtain ⟨hu2, _⟩ := mem_ready.1 (show k2 ∈ Region.ready md ops listed by rw [hr]; simp)
    subst e
    rcases Nat.lt_or_ge k listed.size with hl | hl
    · simp [hl] at hu
    · simp [Array.getElem?_eq_none hl] at hu2
  obtain ⟨h1, h2, h3⟩ := Oper.apart_spec hap
  have s1 : ∀ cs b, o.op ≠ .select cs b := fun cs b => Region.noSelect_spec hs k o cs b ho
  have s2 : ∀ cs b, o2.op ≠ .select cs b := fun cs b => Region.noSelect_spec hs k2 o2 cs b ho2
  have hF1 : decide (0 < F) = true := by simp only [decide_eq_true_eq] at *; omega
  have hF2 : decide (0 < F - 1) = true := by simp only [decide_eq_true_eq] at *; omega
  have hav' : args.map a.eval = av := by apply Array.ext'; rw [Array.toList_map]; exact hav
  have hy : (execOp a.eval o2).run P w = .ok (.enter f av) w := by
    unfold execOp
    rw [hop]
    simp [resolve, Deferred.ofValue, invoke, he, hav', Act.eval]
  refine held_op2 k k2 hr hF1 ho ho2 (fun K hK => ?_) (fun K hK => ?_)
  · rw [if_pos hw]
    unfold Oper.wp
    rw [hx]
    refine hK.out _ _ hC ?_
    rw [hd]
    refine held_op k2 hr1 hF2 ho2 (fun K2 hK2 => ?_)
    rw [if_pos (by rw [wanted_put o2 a (some d) v (fun t ht => h1 t (by rw [hd, ← ht]))]; exact hw2)]
    unfold Oper.wp
    rw [execOp_put o2 s2 a (some d) v (fun t ht => h1 t (by rw [hd, ← ht])), hy]
    refine Calls.mono h ?_
    rintro e w' ⟨u, rfl, hc, _, hn⟩
    refine hK2.out _ _ hc ?_
    rw [hd2]
    exact hn
  · rw [if_pos hw2]
    unfold Oper.wp
    rw [hy]
    refine Calls.mono h ?_
    rintro e w' ⟨u, rfl, hc, hx2, hn⟩
    refine hK.out _ _ hc ?_
    rw [hd2]
    refine held_op k hr2 hF2 ho (fun K2 hK2 => ?_)
    rw [if_pos (by rw [wanted_put o a (some d2) u (fun t ht => h3 t (by rw [hd2, ← ht]))]; exact hw)]
    unfold Oper.wp
    rw [execOp_put o s1 a (some d2) u (fun t ht => h3 t (by rw [hd2, ← ht])), hx2]
    refine hK2.out _ _ hc ?_
    rw [hd, ← Act.put_comm a (x := some d) (y := some d2) v u (fun t ht => by have := h2 t (by rw [hd, ← ht]); rwa [hd2] at this), Array.setIfInBounds_comm _ _ hne.symm]
    exact hn
theorem held_done {P : Program} {md : Region.Mode} {ops : Array Oper} {Q : Exit → Act → World → Prop} {S : World → Prop} {F : Nat} {listed : Array Bool} {a : Act} {w : World} (hr : Region.ready md ops listed = []) (h : Q .normal a w) : wpAnyH P md ops Q S F listed a w := wpAnyH_done hr h F
end Go.Proofs.Ytlnpjiabdebmgaa
