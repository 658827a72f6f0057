/- Texts of this proof, one behind the other; each says at its head what it shows. -/
import Derived.Test.YtedimkcnemhhpaaJoin1
import Derived.Deep.RegionHeld
import Derived.Maps.AppendAt
import Derived.Laws.OwnMore
import Derived.Laws.Cover3
import Derived.Lib.AppendZeros
/- A region that draws its order: what only reads is taken first, a list of operations at a time; what calls or makes comes up in its turn. -/
namespace Go.Proofs.Ytedimkcnemhhpaa
open Go.RowKit

/-- An operation that can yield nothing but a value. -/
def plainOp (o : Oper) : Bool := match o.op with
  | .move _ | .assign _ | .load .. | .binOp .. | .unOp .. | .convert .. | .fieldAddr .. | .field .. | .indexAddr .. | .index .. | .slice .. | .extract .. | .build .. | .makeInterface .. | .typeAssert .. | .pick .. | .nilCheck .. => true
  | .call c => match c.callee with
    | .builtin .len => true
    | .builtin .min => true
    | .builtin .max => true
    | _ => false
  | _ => false
theorem val_only {P : Program} {s : Sem Value} {w w' : World} {n : Next} (h : (do let x ← s; pure (Next.value x) : Sem Next).run P w = .ok n w') : ∃ u, n = .value u := by
  rw [Sem.run_bind] at h
  generalize s.run P w = r at h
  cases r with
  | ok a w1 => simp only [Result.andThen_ok, Sem.run_pure] at h; cases h; exact ⟨_, rfl⟩
  | halt x w1 => simp at h
theorem plain_value {P : Program} {o : Oper} {ρ : Operand → Value} {w w' : World} {n : Next} (hp : plainOp o = true) (h : (execOp ρ o).run P w = .ok n w') : ∃ u, n = .value u := by
  unfold plainOp at hp
  unfold execOp at h
  cases ho : o.op <;> rw [ho] at hp h <;> first | (cases hp; done) | skip
  case move x => simp only [Sem.run_pure] at h; cases h; exact ⟨_, rfl⟩
  case assign x => simp only [Sem.run_pure] at h; cases h; exact ⟨_, rfl⟩
  case pick c x y =>
    simp only [Sem.run_bind] at h
    generalize Sem.run P _ w = r at h
    cases r with
    | ok a w1 => simp only [Result.andThen_ok, Sem.run_pure] at h; cases h; exact ⟨_, rfl⟩
    | halt x w1 => simp at h
  case nilCheck x =>
    dsimp only at h
    split at h
    · simp [runtimePanic] at h
    · simp [runtimePanic] at h
    · simp [runtimePanic] at h
    · split at h
      · simp [runtimePanic] at h
      · simp only [Sem.run_bind] at h
        generalize Sem.run P program w = r at h
        cases r with
        | halt x w1 => simp at h
        | ok a w1 =>
          simp only [Result.andThen_ok] at h
          generalize Sem.run P (nilAhead _ _ _ _) w1 = r at h
          cases r with
          | halt x w1 => simp at h
          | ok a w1 =>
            simp only [Result.andThen_ok] at h
            split at h
            · simp [unsupported] at h
            · simp only [Sem.run_pure] at h; cases h; exact ⟨_, rfl⟩
      · simp only [Sem.run_pure] at h; cases h; exact ⟨_, rfl⟩
    · simp only [Sem.run_pure] at h; cases h; exact ⟨_, rfl⟩
  case call c =>
    obtain ⟨ce, ar, ty⟩ := c
    cases ce with
    | value f => cases hp
    | invoke r m => cases hp
    | builtin b =>
      cases b <;> first | (cases hp; done) | skip
      all_goals
        simp only [resolve, Sem.run_bind, Sem.run_pure, Result.andThen_ok, invoke, builtin] at h
        generalize Sem.run P _ w = r at h
        cases r with
        | ok a w1 => simp only [Result.andThen_ok] at h; cases h; exact ⟨_, rfl⟩
        | halt x w1 => simp at h
  all_goals exact val_only h

theorem heldQ_mono {P : Program} {md : Region.Mode} {ops : Array Oper} {Q : Exit → Act → World → Prop} {S S' : World → Prop} (hS : ∀ w, S w → S' w) : ∀ (fuel : Nat) (listed : Array Bool) (a : Act) (w : World), wpAnyH P md ops Q S fuel listed a w → wpAnyH P md ops Q S' fuel listed a w
  | 0, _, _, _, h => h
  | fuel + 1, _, _, _, h => ⟨h.1, fun i hi => wpOp_mono (fun a' w' h' => ⟨hS _ h'.1, heldQ_mono hS fuel _ a' w' h'.2⟩) (h.2 i hi)⟩

def pick : List Oper → List Bool → List Oper
  | o :: l, true :: bs => o :: pick l bs
  | _ :: l, false :: bs => pick l bs
  | _, _ => []
def maskIx : Nat → List Bool → List Nat
  | k, true :: bs => k :: maskIx (k + 1) bs
  | k, false :: bs => maskIx (k + 1) bs
  | _, [] => []
def markAll : List Nat → Array Bool → Array Bool
  | [], l => l
  | i :: is, l => markAll is (l.setIfInBounds i true)
/-- Whether the operations of a list may be taken first, one behind the other. -/
def heldB (md : Region.Mode) (ops : Array Oper) : List Nat → Array Bool → Bool
  | [], _ => true
  | i :: is, listed => (Region.ready md ops listed).contains i && Region.free md ops listed i && ((ops[i]?).map plainOp).getD false && heldB md ops is (listed.setIfInBounds i true)

theorem pick_ix (l : List Oper) : ∀ (l' : List Oper) (m : List Bool) (k : Nat), m.length ≤ l'.length → (∀ j, l'[j]? = l[k + j]?) → (maskIx k m).map (fun i => l.toArray[i]?) = (pick l' m).map some
  | _, [], _, _, _ => by cases ‹List Oper› <;> rfl
  | [], b :: m, _, h, _ => by simp at h
  | o :: l', true :: m, k, h, hl => by
    have h0 : l[k]? = some o := by simpa using (hl 0).symm
    simp only [maskIx, pick, List.map_cons]
    rw [pick_ix l l' m (k + 1) (by simpa using h) (fun j => by have := hl (j + 1); simpa [Nat.add_assoc, Nat.add_comm 1 j] using this)]
    simp [h0]
  | o :: l', false :: m, k, h, hl => by
    simp only [maskIx, pick]
    exact pick_ix l l' m (k + 1) (by simpa using h) (fun j => by have := hl (j + 1); simpa [Nat.add_assoc, Nat.add_comm 1 j] using this)

theorem yieldsIf_quiet {P : Program} {ops : Array Oper} {S : World → Prop} {o : Oper} {a : Act} {K : Act → Prop} (hp : plainOp o = true) (h : if Region.wanted o (yielded ops a.tmps) then o.quiet P a S K else K (a.put o.dst undef)) : ∃ v, YieldsIf P ops S o v a ∧ K (a.put o.dst v) := by
  split at h
  · rename_i hw
    obtain ⟨v, h1, h2⟩ := h
    refine ⟨v, .inl ⟨hw, fun w hS => ?_⟩, h2⟩
    have h3 := h1 w hS
    unfold Oper.quietAt at h3
    generalize hr : (execOp a.eval o).run P w = r at h3
    cases r with
    | ok n w' =>
      obtain ⟨u, rfl⟩ := plain_value hp hr
      simp only [Oper.quietUpon] at h3
      obtain ⟨rfl, rfl⟩ := h3
      rfl
    | halt x w' => simp only [Oper.quietUpon] at h3
  · rename_i hw
    exact ⟨undef, .inr ⟨by simpa using hw, rfl⟩, h⟩

theorem held_list {P : Program} {md : Region.Mode} {ops : Array Oper} {Q : Exit → Act → World → Prop} {S : World → Prop} (hs : Region.noSelect ops = true) (hQ : ∀ c a t v w, Q (.panic c) (Act.put a (some t) v) w → Q (.panic c) a w) (fuel : Nat) : ∀ (is : List Nat) (l : List Oper) (listed : Array Bool) (a : Act) (w : World), is.map (fun i => ops[i]?) = l.map some → heldB md ops is listed = true → S w →
    wpQuiet P ops S (fun a' => ∀ w', S w' → wpAnyH P md ops Q S fuel (markAll is listed) a' w') l a → wpAnyH P md ops Q S (is.length + fuel) listed a w
  | [], [], listed, a, w, _, _, hS, h => by rw [List.length_nil, Nat.zero_add]; exact h w hS
  | [], _ :: _, _, _, _, e, _, _, _ => by cases e
  | _ :: _, [], _, _, _, e, _, _, _ => by cases e
  | i :: is, o :: l, listed, a, w, e, hB, hS, h => by
    simp only [List.map_cons, List.cons.injEq] at e
    simp only [heldB, Bool.and_eq_true] at hB
    obtain ⟨⟨⟨h1, h2⟩, h3⟩, h4⟩ := hB
    rw [e.1] at h3
    obtain ⟨v, hy, hK⟩ := yieldsIf_quiet (by simpa using h3) h
    rw [show (i :: is).length + fuel = (is.length + fuel) + 1 by simp; omega]
    exact wpAnyH_take e.1 hs h2 h1 (fun c a w hq => by cases hd : o.dst with | none => rw [hd] at hq; exact hq | some t => rw [hd] at hq; exact hQ _ _ _ _ _ hq) hy hS (held_list hs hQ fuel is l _ _ w e.2 h4 hS hK)

theorem held_same {P : Program} {md : Region.Mode} {ops : Array Oper} {Q : Exit → Act → World → Prop} {S : World → Prop} (hs : Region.noSelect ops = true) (hQ : ∀ c a t v w, Q (.panic c) (Act.put a (some t) v) w → Q (.panic c) a w) (fuel : Nat) : ∀ (is : List Nat) (l : List Oper) (listed : Array Bool) (a : Act) (w : World), is.map (fun i => ops[i]?) = l.map some → heldB md ops is listed = true → S w →
    wpQuiet P ops S (fun a' => wpAnyH P md ops Q S fuel (markAll is listed) a' w) l a → wpAnyH P md ops Q S (is.length + fuel) listed a w
  | [], [], listed, a, w, _, _, _, h => by rw [List.length_nil, Nat.zero_add]; exact h
  | [], _ :: _, _, _, _, e, _, _, _ => by cases e
  | _ :: _, [], _, _, _, e, _, _, _ => by cases e
  | i :: is, o :: l, listed, a, w, e, hB, hS, h => by
    simp only [List.map_cons, List.cons.injEq] at e
    simp only [heldB, Bool.and_eq_true] at hB
    obtain ⟨⟨⟨h1, h2⟩, h3⟩, h4⟩ := hB
    rw [e.1] at h3
    obtain ⟨v, hy, hK⟩ := yieldsIf_quiet (by simpa using h3) h
    rw [show (i :: is).length + fuel = (is.length + fuel) + 1 by simp; omega]
    exact wpAnyH_take e.1 hs h2 h1 (fun c a w hq => by cases hd : o.dst with | none => rw [hd] at hq; exact hq | some t => rw [hd] at hq; exact hQ _ _ _ _ _ hq) hy hS (held_same hs hQ fuel is l _ _ w e.2 h4 hS hK)

/-- A world that meets S. -/
theorem held_begin {P : Program} {id : Nat} {Q : Exit → Act → World → Prop} {a : Act} {w : World} {l : List Oper} (C : World → Prop) (hm : P.follows .mixedOrders = true) (hC : C w.drew)
    (h : wpAnyH P .any l.toArray Q (fun w' => ∃ x : CW C, w' = x.w) l.length (Array.replicate l.length false) a w.drew) : (Code.region id l.toArray true).wp P Q a w :=
  wp_region_held_drew (S := fun w' => ∃ x : CW C, w' = x.w) hm ⟨⟨_, hC⟩, rfl⟩ (fun _ => by simpa using h)
theorem held_take {P : Program} {md : Region.Mode} {Q : Exit → Act → World → Prop} {C : World → Prop} {F : Nat} {listed : Array Bool} {a : Act} {w : World} {l : List Oper} (m : List Bool) (hs : Region.noSelect l.toArray = true) (hB : (decide (m.length ≤ l.length) && decide ((maskIx 0 m).length ≤ F) && heldB md l.toArray (maskIx 0 m) listed) = true) (hQ : ∀ c a t v w, Q (.panic c) (Act.put a (some t) v) w → Q (.panic c) a w) (hC : C w)
    (h : wpQuiet P l.toArray (fun w' => ∃ x : CW C, w' = x.w) (fun a' => ∀ x : CW C, wpAnyH P md l.toArray Q (fun w' => ∃ x : CW C, w' = x.w) (F - (maskIx 0 m).length) (markAll (maskIx 0 m) listed) a' x.w) (pick l m) a) :
    wpAnyH P md l.toArray Q (fun w' => ∃ x : CW C, w' = x.w) F listed a w := by
  simp only [Bool.and_eq_true, decide_eq_true_eq] at hB
  obtain ⟨⟨h1, h2⟩, h3⟩ := hB
  have := held_list (P := P) (md := md) (Q := Q) (S := fun w' => ∃ x : CW C, w' = x.w) hs hQ (F - (maskIx 0 m).length) (maskIx 0 m) (pick l m) listed a w (pick_ix l l m 0 h1 (by simp)) h3 ⟨⟨w, hC⟩, rfl⟩ (by
    refine cast ?_ h
    congr 1
    funext a'
    refine propext ⟨fun h w' ⟨x, hx⟩ => by rw [hx]; exact h x, fun h x => h _ ⟨x, rfl⟩⟩)
  rwa [show (maskIx 0 m).length + (F - (maskIx 0 m).length) = F by omega] at this
/-- The same, in the very world. -/
theorem held_here {P : Program} {md : Region.Mode} {Q : Exit → Act → World → Prop} {C : World → Prop} {F : Nat} {listed : Array Bool} {a : Act} {w : World} {l : List Oper} (m : List Bool) (hs : Region.noSelect l.toArray = true) (hB : (decide (m.length ≤ l.length) && decide ((maskIx 0 m).length ≤ F) && heldB md l.toArray (maskIx 0 m) listed) = true) (hQ : ∀ c a t v w, Q (.panic c) (Act.put a (some t) v) w → Q (.panic c) a w) (hC : C w)
    (h : wpQuiet P l.toArray (fun w' => ∃ x : CW C, w' = x.w) (fun a' => wpAnyH P md l.toArray Q (fun w' => ∃ x : CW C, w' = x.w) (F - (maskIx 0 m).length) (markAll (maskIx 0 m) listed) a' w) (pick l m) a) :
    wpAnyH P md l.toArray Q (fun w' => ∃ x : CW C, w' = x.w) F listed a w := by
  simp only [Bool.and_eq_true, decide_eq_true_eq] at hB
  obtain ⟨⟨h1, h2⟩, h3⟩ := hB
  have := held_same (P := P) (md := md) (Q := Q) (S := fun w' => ∃ x : CW C, w' = x.w) hs hQ (F - (maskIx 0 m).length) (maskIx 0 m) (pick l m) listed a w (pick_ix l l m 0 h1 (by simp)) h3 ⟨⟨w, hC⟩, rfl⟩ h
  rwa [show (maskIx 0 m).length + (F - (maskIx 0 m).length) = F by omega] at this
theorem held_more {P : Program} {md : Region.Mode} {ops : Array Oper} {Q : Exit → Act → World → Prop} {C : World → Prop} {F : Nat} {listed : Array Bool} {a : Act} {w : World} (C' : World → Prop) (hC : ∀ w, C' w → C w)
    (h : wpAnyH P md ops Q (fun w' => ∃ x : CW C', w' = x.w) F listed a w) : wpAnyH P md ops Q (fun w' => ∃ x : CW C, w' = x.w) F listed a w :=
  heldQ_mono (fun _ ⟨x, hx⟩ => ⟨⟨x.w, hC _ x.h⟩, hx⟩) _ _ _ _ h
/-- One operation comes up: behind it a world of the class. -/
theorem held_op {P : Program} {md : Region.Mode} {ops : Array Oper} {Q : Exit → Act → World → Prop} {C : World → Prop} {F : Nat} {listed : Array Bool} {a : Act} {w : World} {o : Oper} (k : Nat) (hr : Region.ready md ops listed = [k]) (hF : decide (0 < F) = true) (ho : ops[k]? = some o)
    (h : ∀ K' : Act → World → Prop, Shut (∀ a w, C w → wpAnyH P md ops Q (fun w' => ∃ x : CW C, w' = x.w) (F - 1) (listed.setIfInBounds k true) a w → K' a w) → if Region.wanted o (yielded ops a.tmps) = true then Oper.wp P o a w K' Q else K' (a.put o.dst undef) w) :
    wpAnyH P md ops Q (fun w' => ∃ x : CW C, w' = x.w) F listed a w := by
  have hF' : F = (F - 1) + 1 := by simp only [decide_eq_true_eq] at hF; omega
  rw [hF']
  refine wpAnyH_ready hr (by simp) (AllReadyH.cons ho (fun K' hK => h K' (fun a w hc hw => hK.out a w ⟨⟨w, hc⟩, rfl⟩ (fun _ => hw))) AllReadyH.nil)
/-- A function is called: behind it a world of the class. -/
theorem held_call {P : Program} {md : Region.Mode} {ops : Array Oper} {Q : Exit → Act → World → Prop} {C : World → Prop} {F : Nat} {listed : Array Bool} {a : Act} {w : World} {o : Oper} {args : Array Operand} {ty : Array TypeId} (k f d : Nat) (he : ∀ args w, (callFunc f args).run P w = .ok (.enter f args) w) (av : Array Value) (hr : Region.ready md ops listed = [k]) (hF : decide (0 < F) = true) (ho : ops[k]? = some o)
    (hop : o.op = .call ⟨.value (.func f), args, ty⟩) (hw : Region.wanted o (yielded ops a.tmps) = true) (hd : o.dst = some d) (hav : args.toList.map a.eval = av.toList)
    (h : Calls P f av w fun e w' => ∃ v, e = .returned v ∧ C w' ∧ wpAnyH P md ops Q (fun w' => ∃ x : CW C, w' = x.w) (F - 1) (listed.setIfInBounds k true) (a.put (some d) v) w') :
    wpAnyH P md ops Q (fun w' => ∃ x : CW C, w' = x.w) F listed a w := by
  refine held_op k hr hF ho (fun K hK => ?_)
  rw [if_pos hw]
  have hav : args.map a.eval = av := by apply Array.ext'; rw [Array.toList_map]; exact hav
  have hx : (execOp a.eval o).run P w = .ok (.enter f av) w := by
    unfold execOp
    rw [hop]
    simp [resolve, Deferred.ofValue, invoke, he, hav, Act.eval]
  unfold Oper.wp
  rw [hx]
  refine Calls.mono h ?_
  rintro e w' ⟨v, rfl, hc, hn⟩
  exact hK.out _ _ hc (by rw [hd]; exact hn)
/-- One of two operations comes up. -/
theorem held_op2 {P : Program} {md : Region.Mode} {ops : Array Oper} {Q : Exit → Act → World → Prop} {C : World → Prop} {F : Nat} {listed : Array Bool} {a : Act} {w : World} {o o2 : Oper} (k k2 : Nat) (hr : Region.ready md ops listed = [k, k2]) (hF : decide (0 < F) = true) (ho : ops[k]? = some o) (ho2 : ops[k2]? = some o2)
    (h : ∀ K' : Act → World → Prop, Shut (∀ a w, C w → wpAnyH P md ops Q (fun w' => ∃ x : CW C, w' = x.w) (F - 1) (listed.setIfInBounds k true) a w → K' a w) → if Region.wanted o (yielded ops a.tmps) = true then Oper.wp P o a w K' Q else K' (a.put o.dst undef) w)
    (h2 : ∀ K' : Act → World → Prop, Shut (∀ a w, C w → wpAnyH P md ops Q (fun w' => ∃ x : CW C, w' = x.w) (F - 1) (listed.setIfInBounds k2 true) a w → K' a w) → if Region.wanted o2 (yielded ops a.tmps) = true then Oper.wp P o2 a w K' Q else K' (a.put o2.dst undef) w) :
    wpAnyH P md ops Q (fun w' => ∃ x : CW C, w' = x.w) F listed a w := by
  have hF' : F = (F - 1) + 1 := by simp only [decide_eq_true_eq] at hF; omega
  rw [hF']
  exact wpAnyH_ready hr (by simp) (AllReadyH.cons ho (fun K' hK => h K' (fun a w hc hw => hK.out a w ⟨⟨w, hc⟩, rfl⟩ (fun _ => hw))) (AllReadyH.cons ho2 (fun K' hK => h2 K' (fun a w hc hw => hK.out a w ⟨⟨w, hc⟩, rfl⟩ (fun _ => hw))) AllReadyH.nil))
/-- Two operations come up, in whatever order: one reads, the other makes something. -/
theorem held_both {P : Program} {md : Region.Mode} {ops : Array Oper} {Q : Exit → Act → World → Prop} {C : World → Prop} {F : Nat} {listed : Array Bool} {a : Act} {w : World} {o o2 : Oper} (k k2 d d2 : Nat) (v u : Value) (w2 : World) (hr : Region.ready md ops listed = [k, k2]) (hr1 : Region.ready md ops (listed.setIfInBounds k true) = [k2]) (hr2 : Region.ready md ops (listed.setIfInBounds k2 true) = [k]) (hF : decide (1 < F) = true) (ho : ops[k]? = some o) (ho2 : ops[k2]? = some o2)
    (hap : o.apart ops o2 = true) (hs : Region.noSelect ops = true) (hw : Region.wanted o (yielded ops a.tmps) = true) (hw2 : Region.wanted o2 (yielded ops a.tmps) = true) (hd : o.dst = some d) (hd2 : o2.dst = some d2) (hC : C w) (hC2 : C w2)
    (hx : (execOp a.eval o).run P w = .ok (.value v) w) (hx2 : (execOp a.eval o).run P w2 = .ok (.value v) w2) (hy : (execOp a.eval o2).run P w = .ok (.value u) w2)
    (h : wpAnyH P md ops Q (fun w' => ∃ x : CW C, w' = x.w) (F - 2) ((listed.setIfInBounds k true).setIfInBounds k2 true) ((a.put (some d) v).put (some d2) u) w2) :
    wpAnyH P md ops Q (fun w' => ∃ x : CW C, w' = x.w) F listed a w := by
  have hne : k ≠ k2 := fun e => by
    have h1 : k ∈ Region.ready md ops (listed.setIfInBounds k2 true) := by rw [hr2]; simp
    obtain ⟨hu, oj, hj, _⟩ := mem_ready.1 h1
    obtain ⟨hu2, _⟩ := mem_ready.1 (show k2 ∈ Region.ready md ops listed by rw [hr]; simp)
    subst e
    rcases Nat.lt_or_ge k listed.size with hl | hl
    · simp [hl] at hu
    · simp [Array.getElem?_eq_none hl] at hu2
  obtain ⟨h1, h2, h3⟩ := Oper.apart_spec hap
  have s1 : ∀ cs b, o.op ≠ .select cs b := fun cs b => Region.noSelect_spec hs k o cs b ho
  have s2 : ∀ cs b, o2.op ≠ .select cs b := fun cs b => Region.noSelect_spec hs k2 o2 cs b ho2
  have hF1 : decide (0 < F) = true := by simp only [decide_eq_true_eq] at *; omega
  have hF2 : decide (0 < F - 1) = true := by simp only [decide_eq_true_eq] at *; omega
  refine held_op2 k k2 hr hF1 ho ho2 (fun K hK => ?_) (fun K hK => ?_)
  · rw [if_pos hw]
    unfold Oper.wp
    rw [hx]
    refine hK.out _ _ hC ?_
    rw [hd]
    refine held_op k2 hr1 hF2 ho2 (fun K2 hK2 => ?_)
    rw [if_pos (by rw [wanted_put o2 a (some d) v (fun t ht => h1 t (by rw [hd, ← ht]))]; exact hw2)]
    unfold Oper.wp
    rw [execOp_put o2 s2 a (some d) v (fun t ht => h1 t (by rw [hd, ← ht])), hy]
    refine hK2.out _ _ hC2 ?_
    rw [hd2]
    exact h
  · rw [if_pos hw2]
    unfold Oper.wp
    rw [hy]
    refine hK.out _ _ hC2 ?_
    rw [hd2]
    refine held_op k hr2 hF2 ho (fun K2 hK2 => ?_)
    rw [if_pos (by rw [wanted_put o a (some d2) u (fun t ht => h3 t (by rw [hd2, ← ht]))]; exact hw)]
    unfold Oper.wp
    rw [execOp_put o s1 a (some d2) u (fun t ht => h3 t (by rw [hd2, ← ht])), hx2]
    refine hK2.out _ _ hC2 ?_
    rw [hd, ← Act.put_comm a (x := some d) (y := some d2) v u (fun t ht => by have := h2 t (by rw [hd, ← ht]); rwa [hd2] at this), Array.setIfInBounds_comm _ _ hne.symm]
    exact h
/-- A reading and a call come up, in whatever order: the call leaves what is read. -/
theorem held_both_call {P : Program} {md : Region.Mode} {ops : Array Oper} {Q : Exit → Act → World → Prop} {C : World → Prop} {F : Nat} {listed : Array Bool} {a : Act} {w : World} {o o2 : Oper} {args : Array Operand} {ty : Array TypeId} (k k2 f d d2 : Nat) (he : ∀ args w, (callFunc f args).run P w = .ok (.enter f args) w) (v : Value) (av : Array Value) (hr : Region.ready md ops listed = [k, k2]) (hr1 : Region.ready md ops (listed.setIfInBounds k true) = [k2]) (hr2 : Region.ready md ops (listed.setIfInBounds k2 true) = [k]) (hF : decide (1 < F) = true) (ho : ops[k]? = some o) (ho2 : ops[k2]? = some o2)
    (hap : o.apart ops o2 = true) (hs : Region.noSelect ops = true) (hw : Region.wanted o (yielded ops a.tmps) = true) (hw2 : Region.wanted o2 (yielded ops a.tmps) = true) (hd : o.dst = some d) (hd2 : o2.dst = some d2) (hop : o2.op = .call ⟨.value (.func f), args, ty⟩) (hav : args.toList.map a.eval = av.toList) (hC : C w)
    (hx : (execOp a.eval o).run P w = .ok (.value v) w)
    (h : Calls P f av w fun e w' => ∃ u, e = .returned u ∧ C w' ∧ (execOp a.eval o).run P w' = .ok (.value v) w' ∧ wpAnyH P md ops Q (fun w' => ∃ x : CW C, w' = x.w) (F - 2) ((listed.setIfInBounds k true).setIfInBounds k2 true) ((a.put (some d) v).put (some d2) u) w') :
    wpAnyH P md ops Q (fun w' => ∃ x : CW C, w' = x.w) F listed a w := by
  have hne : k ≠ k2 := fun e => by
    have h1 : k ∈ Region.ready md ops (listed.setIfInBounds k2 true) := by rw [hr2]; simp
    obtain ⟨hu, oj, hj, _⟩ := mem_ready.1 h1
    obtain ⟨hu2, _⟩ := mem_ready.1 (show k2 ∈ Region.ready md ops listed by rw [hr]; simp)
    subst e
    rcases Nat.lt_or_ge k listed.size with hl | hl
    · simp [hl] at hu
    · simp [Array.getElem?_eq_none hl] at hu2
  obtain ⟨h1, h2, h3⟩ := Oper.apart_spec hap
  have s1 : ∀ cs b, o.op ≠ .select cs b := fun cs b => Region.noSelect_spec hs k o cs b ho
  have s2 : ∀ cs b, o2.op ≠ .select cs b := fun cs b => Region.noSelect_spec hs k2 o2 cs b ho2
  have hF1 : decide (0 < F) = true := by simp only [decide_eq_true_eq] at *; omega
  have hF2 : decide (0 < F - 1) = true := by simp only [decide_eq_true_eq] at *; omega
  have hav' : args.map a.eval = av := by apply Array.ext'; rw [Array.toList_map]; exact hav
  have hy : (execOp a.eval o2).run P w = .ok (.enter f av) w := by
    unfold execOp
    rw [hop]
    simp [resolve, Deferred.ofValue, invoke, he, hav', Act.eval]
  refine held_op2 k k2 hr hF1 ho ho2 (fun K hK => ?_) (fun K hK => ?_)
  · rw [if_pos hw]
    unfold Oper.wp
    rw [hx]
    refine hK.out _ _ hC ?_
    rw [hd]
    refine held_op k2 hr1 hF2 ho2 (fun K2 hK2 => ?_)
    rw [if_pos (by rw [wanted_put o2 a (some d) v (fun t ht => h1 t (by rw [hd, ← ht]))]; exact hw2)]
    unfold Oper.wp
    rw [execOp_put o2 s2 a (some d) v (fun t ht => h1 t (by rw [hd, ← ht])), hy]
    refine Calls.mono h ?_
    rintro e w' ⟨u, rfl, hc, _, hn⟩
    refine hK2.out _ _ hc ?_
    rw [hd2]
    exact hn
  · rw [if_pos hw2]
    unfold Oper.wp
    rw [hy]
    refine Calls.mono h ?_
    rintro e w' ⟨u, rfl, hc, hx2, hn⟩
    refine hK.out _ _ hc ?_
    rw [hd2]
    refine held_op k hr2 hF2 ho (fun K2 hK2 => ?_)
    rw [if_pos (by rw [wanted_put o a (some d2) u (fun t ht => h3 t (by rw [hd2, ← ht]))]; exact hw)]
    unfold Oper.wp
    rw [execOp_put o s1 a (some d2) u (fun t ht => h3 t (by rw [hd2, ← ht])), hx2]
    refine hK2.out _ _ hc ?_
    rw [hd, ← Act.put_comm a (x := some d) (y := some d2) v u (fun t ht => by have := h2 t (by rw [hd, ← ht]); rwa [hd2] at this), Array.setIfInBounds_comm _ _ hne.symm]
    exact hn
theorem held_done {P : Program} {md : Region.Mode} {ops : Array Oper} {Q : Exit → Act → World → Prop} {S : World → Prop} {F : Nat} {listed : Array Bool} {a : Act} {w : World} (hr : Region.ready md ops listed = []) (h : Q .normal a w) : wpAnyH P md ops Q S F listed a w := wpAnyH_done hr h F
end Go.Proofs.Ytedimkcnemhhpaa

/- Rows of texts: whether two are the same, what they begin and end with alike, with signs ahead. -/
namespace Go.Proofs.Ytedimkcnemhhpaa
open Go.RowKit Go.Shelf

theorem txt_same (a b : ByteArray) : (a.toList == b.toList) = decide (a = b) := by
  rw [Bool.eq_iff_iff, beq_iff_eq, decide_eq_true_eq]
  refine ⟨fun h => ?_, fun h => by rw [h]⟩
  rw [Lib.toList_data, Lib.toList_data] at h
  exact ByteArray.ext (Array.ext' h)
theorem txt_diff (a b : ByteArray) : (a.toList != b.toList) = !decide (a = b) := by rw [bne, txt_same]
theorem txt_yes {a b : ByteArray} (h : a = b) : (a.toList == b.toList) = true ∧ (a.toList != b.toList) = false := by rw [txt_diff, txt_same, decide_eq_true h]; exact ⟨rfl, rfl⟩
theorem txt_no {a b : ByteArray} (h : a ≠ b) : (a.toList == b.toList) = false ∧ (a.toList != b.toList) = true := by rw [txt_diff, txt_same, decide_eq_false h]; exact ⟨rfl, rfl⟩
theorem txts_ext {xs ys : List ByteArray} (hl : xs.length = ys.length) (h : ∀ i, i < xs.length → txtFn xs i = txtFn ys i) : xs = ys := by
  apply List.ext_getElem hl
  intro i h1 h2
  have := h i h1
  rw [txtFn_get (List.getElem?_eq_getElem h1), txtFn_get (List.getElem?_eq_getElem h2)] at this
  exact this
theorem txtFn_some {xs : List ByteArray} {i : Nat} (h : i < xs.length) : xs[i]? = some (txtFn xs i) := by
  rw [txtFn_get (List.getElem?_eq_getElem h)]; exact List.getElem?_eq_getElem h

theorem txts_owns {W : World} {N n : Nat} {v : Value} {xs : List ByteArray} (h : W.ownsRow N 9 1 v n (xs.map Value.string)) : n = xs.length ∧ ∃ a cap, v = .slice a xs.length cap ∧ TxtsAt W a xs ∧ xs.length ≤ cap ∧ cap ≤ maxLen ∧ ∀ b o, a = some ⟨b, o, none⟩ → N ≤ b := by
  have hn : n = xs.length := by have := h.1; simpa using this.symm
  subst hn
  refine ⟨rfl, ?_⟩
  rcases h.2 with ⟨hv, h0⟩ | ⟨g, cap, cur, hv, hg, hh, hc, hm, hsz, hcur⟩
  · exact ⟨none, 0, by rw [hv, h0], .inl (List.length_eq_zero_iff.1 h0), by omega, by simp [maxLen], fun b o e => by cases e⟩
  · refine ⟨_, cap, hv, .inr ⟨g, 0, rfl, (Array.getElem?_eq_some_iff.1 hh).1, fun i x hi => ?_⟩, hc, hm, fun b o e => by cases e; exact hg⟩
    have hl : i < xs.length := (List.getElem?_eq_some_iff.1 hi).1
    have : cur[i]? = some (.string x) := by
      rw [← Array.getElem?_toList, ← List.getElem?_take_of_lt (l := cur.toList) (i := i) (j := xs.length * 1) (by omega), hcur, List.getElem?_map, hi]; rfl
    simp [World.cell?, hh, this]

set_option maxRecDepth 100000 in
set_option maxHeartbeats 2000000 in
theorem slicesEqual_any (xs ys : List ByteArray) (a b : Option Addr) (cap cap2 : Nat) (w : World) (hx : xs.length ≤ maxLen) (hy : ys.length ≤ maxLen) (h : TxtsAt w a xs) (h2 : TxtsAt w b ys) :
    Calls Try.prog 54 #[.slice a xs.length cap, .slice b ys.length cap2] w fun r w' => r = .returned (.bool (decide (xs = ys))) ∧ Below w.heap.size w w' := by
  unfold maxLen at hx hy
  by_cases hl : xs.length = ys.length
  · have hl' : ((xs.length : Int) != (ys.length : Int)) = false := by simp; omega
    have HL := hid hl
    rw [hl]
    rw [hl] at hl'
    clear hl
    go_enter Try.func54, Try.ntmps54
    go_wp2_with fail
    go_loopw [13] (fun i wr => ∃ k : Nat, k ≤ ys.length ∧ i = .int .i64 k ∧ Hid (∀ i, i < k → txtFn xs i = txtFn ys i) ∧ Below w.heap.size w wr) (fun i _ => ys.length - (intOf i).toNat)
    case atStart => exact ⟨0, Nat.zero_le _, rfl, hid (fun i hi => absurd hi (Nat.not_lt_zero _)), Below.refl _ _⟩
    case round =>
      obtain ⟨k, hk, rfl, hall, hB⟩ := hrel
      by_cases hlt : k < ys.length
      · have hxk := txtFn_some (xs := xs) (i := k) (by rw [unhid HL]; exact hlt)
        have hyk := txtFn_some (xs := ys) (i := k) hlt
        obtain ⟨bb, o, rfl, hbl, hc⟩ := h.get (by intro e; subst e; simp at hxk)
        obtain ⟨bb2, o2, rfl, hbl2, hc2⟩ := h2.get (by intro e; subst e; simp at hlt)
        have c0 := (hB.cell (p := ⟨bb, o + k, .none⟩) hbl).trans (hc k _ hxk)
        have d0 := (hB.cell (p := ⟨bb2, o2 + k, .none⟩) hbl2).trans (hc2 k _ hyk)
        have HB := hid hB
        have HH := hid (And.intro h (And.intro h2 (And.intro hc hc2)))
        clear hc hc2 hB h h2 hxk hyk
        by_cases he : txtFn xs k = txtFn ys k
        · obtain ⟨q1, q2⟩ := txt_yes he
          have HE := hid (show txtFn xs k = txtFn ys k from he)
          clear he
          generalize hgx : txtFn xs k = x at *
          generalize hgy : txtFn ys k = y at *
          have HG := hid (And.intro hgx hgy)
          clear hgx hgy
          go_wp2_with fail
          go_quiet (fail)
          go_wp2_with fail
          go_roundw
          case rel => exact ⟨k + 1, by omega, by go_num, hid (fun i hi => (Nat.lt_succ_iff_lt_or_eq.1 hi).elim (fun h => unhid hall i h) (fun h => by subst h; rw [(unhid HG).1, (unhid HG).2, unhid HE])), ⟨(unhid HB).os, (unhid HB).tape, (unhid HB).output, (unhid HB).size, (unhid HB).block⟩⟩
          case measure => simp [intOf]; omega
        · obtain ⟨q1, q2⟩ := txt_no he
          have E := hid (show decide (xs = ys) = false by rw [decide_eq_false_iff_not]; intro e; exact he (by rw [e]))
          clear he
          generalize txtFn xs k = x at *
          generalize txtFn ys k = y at *
          go_wp2_with fail
          go_quiet (fail)
          go_wp2_with fail
          go_ret
          exact ⟨by rw [unhid E]; rfl, ⟨(unhid HB).os, (unhid HB).tape, (unhid HB).output, (unhid HB).size, (unhid HB).block⟩⟩
      · have e : k = ys.length := by omega
        subst e
        go_wp2_with fail
        go_ret
        refine ⟨?_, hB⟩
        rw [decide_eq_true (txts_ext (unhid HL) (fun i hi => unhid hall i (by rw [← unhid HL]; exact hi)))]; rfl
  · have hl' : ((xs.length : Int) != (ys.length : Int)) = true := by simp; omega
    have E := hid (show decide (xs = ys) = false by rw [decide_eq_false_iff_not]; intro e; exact hl (by rw [e]))
    clear hl
    go_enter Try.func54, Try.ntmps54
    go_wp2_with fail
    go_ret
    exact ⟨by rw [unhid E]; rfl, Below.refl _ _⟩

end Go.Proofs.Ytedimkcnemhhpaa

/- Lines of a hunk that are there ahead of it, or behind it, by the program and by its model. -/
namespace Go.Proofs.Ytedimkcnemhhpaa
open Go.RowKit Go.Shelf

theorem ownsRow_baseX {W : World} {N N' n size : Nat} {v : Value} {e : TypeId} {xs : List Value} (h : W.ownsRow N e size v n xs) (hN : N' ≤ N) : W.ownsRow N' e size v n xs :=
  ⟨h.1, h.2.imp id (fun ⟨g, cap, cur, a, b, c⟩ => ⟨g, cap, cur, a, Nat.le_trans hN b, c⟩)⟩
theorem filterMap_eqX {α β : Type} {f g : α → Option β} : ∀ {l : List α}, (∀ x ∈ l, f x = g x) → l.filterMap f = l.filterMap g
  | [], _ => rfl
  | a :: l, h => by
    rw [List.filterMap_cons, List.filterMap_cons, h a (by simp), filterMap_eqX fun x hx => h x (by simp [hx])]
/-- A line without its sign, if that is a blank or a given one. -/
def cutX (c : UInt8) (x : ByteArray) : Option ByteArray := match x.data.toList with
  | [] => none
  | d :: _ => if d == 32 || d == c then some (x.extract 1 x.size) else none
def withX (c : UInt8) (xs : List ByteArray) : List ByteArray := xs.filterMap (cutX c)
theorem withX_take (c : UInt8) (xs : List ByteArray) (k : Nat) (x : ByteArray) (h : xs[k]? = some x) : withX c (xs.take (k + 1)) = withX c (xs.take k) ++ (cutX c x).toList := by
  unfold withX
  rw [List.take_add_one, h, List.filterMap_append]
  congr 1
theorem withX_len (c : UInt8) (xs : List ByteArray) : (withX c xs).length ≤ xs.length := List.length_filterMap_le _ _
theorem cutX_cons {c : UInt8} {x : ByteArray} (h : 0 < x.size) : cutX c x = if x[0] == 32 || x[0] == c then some (x.extract 1 x.size) else none := by
  unfold cutX; rw [str_cons h]

set_option maxRecDepth 100000 in
set_option maxHeartbeats 2000000 in
theorem linesWith_any (h : Hk) (c : UInt8) (la : Option Addr) (cap : Nat) (w : World) (hlen : h.lines.length ≤ 1048576) (hz : ∀ x ∈ h.lines, 0 < x.size ∧ x.size ≤ maxLen) (ht : TxtsAt w la h.lines) :
    Calls Try.prog 86 #[.agg #[.int .i64 h.at_, .slice la h.lines.length cap], .int .u8 c.toNat] w fun e w' => ∃ v, e = .returned v ∧ w'.ownsRow w.heap.size 9 1 v (withX c h.lines).length ((withX c h.lines).map Value.string) ∧ Below w.heap.size w w' := by
  obtain ⟨at_, xs⟩ := h
  dsimp only at *
  have HT := hid ht
  have HZ := hid hz
  clear ht hz
  have hA : ∀ o, Below w.heap.size w (w.alloc o) := fun o => (Below.refl _ w).alloc (Nat.le_refl _) o
  have HA := hid hA
  clear hA
  obtain ⟨i0, hi, hz0, hz1, hz2⟩ := info_parts infoTxt
  go_enter Try.func86, Try.ntmps86
  go_wp2_with fail
  go_loopw [5, 11] (fun o i wr => ∃ (k : Nat) (ad : Option Addr) (cp : Nat), k ≤ xs.length ∧ i = .int .i64 k ∧ o = .slice ad (withX c (xs.take k)).length cp ∧ wr.ownsRow w.heap.size 9 1 (.slice ad (withX c (xs.take k)).length cp) (withX c (xs.take k)).length ((withX c (xs.take k)).map Value.string) ∧ Below w.heap.size w wr) (fun _ i _ => xs.length - (intOf i).toNat)
  case atStart => exact ⟨0, none, 0, Nat.zero_le _, rfl, rfl, World.ownsRow_nil _ _ _ _, unhid HA _⟩
  case round =>
    obtain ⟨k, ad, cp, hk, rfl, rfl, hown, hB⟩ := hrel
    have hwl : (withX c (xs.take k)).length ≤ k := Nat.le_trans (withX_len _ _) (by simp; omega)
    by_cases hlt : k < xs.length
    · obtain ⟨x, he⟩ : ∃ e, xs[k]? = some e := ⟨xs[k], List.getElem?_eq_getElem hlt⟩
      obtain ⟨b, o, rfl, hbl, hc⟩ := (unhid HT).get (by intro e; subst e; simp at hlt)
      have c0 := (hB.cell (p := ⟨b, o + k, .none⟩) hbl).trans (hc k x he)
      obtain ⟨z1, z2⟩ := unhid HZ x (List.mem_of_getElem? he)
      have z3 : x.size ≤ 9223372036854775807 := z2
      have HS := hid (withX_take c xs k x he)
      have HC := hid (cutX_cons (c := c) z1)
      clear hc he z2
      generalize withX c (xs.take k) = ys at *
      cases hd : (x[0] == 32 || x[0] == c)
      · have b1 : (((x[0]).toNat : Int) == 32) = false := by
          rw [Bool.or_eq_false_iff, beq_eq_false_iff_ne] at hd
          rw [beq_eq_false_iff_ne]; intro h; exact hd.1 (UInt8.toNat_inj.1 (by show _ = 32; omega))
        have b2 : (((x[0]).toNat : Int) == (c.toNat : Int)) = false := by
          rw [Bool.or_eq_false_iff, beq_eq_false_iff_ne, beq_eq_false_iff_ne] at hd
          rw [beq_eq_false_iff_ne]; intro h; exact hd.2 (UInt8.toNat_inj.1 (by omega))
        have E := hid (show withX c (xs.take (k + 1)) = ys by rw [unhid HS, unhid HC, hd]; simp)
        clear hd HC HS
        go_wp2_with fail
        go_roundw
        case rel => exact ⟨k + 1, ad, cp, by omega, by go_num, by rw [unhid E], by rw [unhid E]; exact hown, hB⟩
        case measure => simp [intOf]; omega
      · have E := hid (show withX c (xs.take (k + 1)) = ys ++ [x.extract 1 x.size] by rw [unhid HS, unhid HC, hd]; simp)
        have hor : (((x[0]).toNat : Int) == 32) = true ∨ ((((x[0]).toNat : Int) == 32) = false ∧ (((x[0]).toNat : Int) == (c.toNat : Int)) = true) := by
          cases hq : (((x[0]).toNat : Int) == 32)
          · refine .inr ⟨rfl, ?_⟩
            rw [Bool.or_eq_true, beq_iff_eq, beq_iff_eq] at hd
            rcases hd with hd | hd
            · rw [hd] at hq; exact absurd hq (by decide)
            · rw [hd]; simp
          · exact .inl rfl
        clear hd HC HS
        rcases hor with b1 | ⟨b1, b2⟩
        all_goals
          go_wp2_with (at_builtin; refine wpList_append_own _ rfl _ _ 29 rfl w.heap.size 9 i0 (.string ⟨#[]⟩) 1 16 Try.underlying29 hi hz0 hz1 hz2 rfl (by decide) _ _ _ rfl (hown.alloc _) ⟨wr.heap.size, 0, none⟩ 1 1 [.string (x.extract 1 x.size)] rfl rfl ?c1 ?c2 ?c3 ?c4 ?c5 ?_)
          case c1 => exact cell_one_new _ _ _
          case c2 => intro u hu; simp at hu; subst hu; rfl
          case c3 => unfold maxLen; omega
          case c4 => omega
          case c5 => have := hB.size; simp; omega
          intro v' w1 hown' hgrow _
          obtain ⟨g', cap', rfl⟩ := ownsRow_succ hown'
          have hB1 : Below w.heap.size w w1 := (hB.alloc hB.size _).grown hgrow (by have := hB.size; simp; omega) (fun j e => (hown.lt j e).1)
          clear hgrow hown
          go_wp2
          go_roundw
          case rel => exact ⟨k + 1, some ⟨g', 0, none⟩, cap', by omega, by go_num, by rw [unhid E]; simp, by rw [unhid E]; simpa using hown', hB1⟩
          case measure => simp [intOf]; omega
    · have e : k = xs.length := by omega
      subst e
      rw [List.take_of_length_le (Nat.le_refl _)] at hown ⊢
      go_wp2_with fail
      go_ret
      exact ⟨_, rfl, hown, hB⟩

set_option maxRecDepth 100000 in
set_option maxHeartbeats 1000000 in
theorem elderLines_any (h : Hk) (la : Option Addr) (cap : Nat) (w : World) (hlen : h.lines.length ≤ 1048576) (hz : ∀ x ∈ h.lines, 0 < x.size ∧ x.size ≤ maxLen) (ht : TxtsAt w la h.lines) :
    Calls Try.prog 49 #[.agg #[.int .i64 h.at_, .slice la h.lines.length cap]] w fun e w' => ∃ v, e = .returned v ∧ w'.ownsRow w.heap.size 9 1 v (withX 45 h.lines).length ((withX 45 h.lines).map Value.string) ∧ Below w.heap.size w w' := by
  have HT := hid ht
  have HZ := hid hz
  clear ht hz
  have hA : ∀ o, Below w.heap.size w (w.alloc o) := fun o => (Below.refl _ w).alloc (Nat.le_refl _) o
  have HA := hid hA
  clear hA
  go_enter Try.func49, Try.ntmps49
  go_wp2_with fail
  refine (linesWith_any h 45 la cap _ hlen (unhid HZ) ((unhid HT).below (unhid HA _))).mono ?_
  rintro e w1 ⟨v, rfl, ho, hb⟩
  have HO := hid (ownsRow_baseX ho (unhid HA _).size)
  have HB := hid ((unhid HA _).trans (hb.mono (unhid HA _).size))
  clear ho hb
  go_wp2_with fail
  go_ret
  exact ⟨v, rfl, unhid HO, unhid HB⟩

def oldX (c : UInt8) (xs : List ByteArray) : List ByteArray := xs.filterMap fun x => if x.data.toList.head? == some c then none else some (x.extract 1 x.size)
theorem oldX_take (c : UInt8) (xs : List ByteArray) (k : Nat) (x : ByteArray) (h : xs[k]? = some x) (hp : 0 < x.size) : oldX c (xs.take (k + 1)) = oldX c (xs.take k) ++ (if x[0] == c then [] else [x.extract 1 x.size]) := by
  unfold oldX
  rw [List.take_add_one, h, List.filterMap_append]
  congr 1
  simp only [Option.toList, List.filterMap_cons, List.filterMap_nil, str_cons hp, List.head?_cons]
  cases hx : (x[0] == c)
  · have : (some x[0] == some c) = false := hx
    simp [this]
  · have : (some x[0] == some c) = true := hx
    simp [this]
theorem oldX_len (c : UInt8) (xs : List ByteArray) : (oldX c xs).length ≤ xs.length := List.length_filterMap_le _ _
theorem old_with {xs : List ByteArray} (h : ∀ x ∈ xs, hkLineB x.data.toList = true) : oldX 43 xs = withX 45 xs := by
  unfold oldX withX
  refine filterMap_eqX fun x hx => ?_
  have := h x hx
  unfold cutX
  cases hl : x.data.toList with
  | nil => rw [hl] at this; cases this
  | cons d t =>
    rw [hl] at this
    simp only [hkLineB, signB, Bool.and_eq_true, Bool.or_eq_true, beq_iff_eq] at this
    rcases this.1 with (h1 | h1) | h1
    · obtain rfl : d = 32 := UInt8.toNat_inj.1 (by show _ = 32; omega)
      rfl
    · obtain rfl : d = 45 := UInt8.toNat_inj.1 (by show _ = 45; omega)
      rfl
    · obtain rfl : d = 43 := UInt8.toNat_inj.1 (by show _ = 43; omega)
      rfl

set_option maxRecDepth 100000 in
set_option maxHeartbeats 2000000 in
theorem l5Old_any (h : Hk) (la : Option Addr) (cap : Nat) (w : World) (hlen : h.lines.length ≤ 1048576) (hz : ∀ x ∈ h.lines, 0 < x.size ∧ x.size ≤ maxLen) (ht : TxtsAt w la h.lines) :
    Calls Try.prog 46 #[.agg #[.int .i64 h.at_, .slice la h.lines.length cap]] w fun e w' => ∃ v, e = .returned v ∧ w'.ownsRow w.heap.size 9 1 v (oldX 43 h.lines).length ((oldX 43 h.lines).map Value.string) ∧ Below w.heap.size w w' := by
  obtain ⟨at_, xs⟩ := h
  dsimp only at *
  have HT := hid ht
  have HZ := hid hz
  clear ht hz
  have HA := hid (show Below w.heap.size w (w.alloc (.cells #[.int .i64 at_, .slice la xs.length cap] 46)) from (Below.refl _ w).alloc (Nat.le_refl _) _)
  have TW := hid (twoAt_new w at_ (.slice la xs.length cap) 46)
  have hsz : (w.alloc (.cells #[.int .i64 at_, .slice la xs.length cap] 46)).heap.size = w.heap.size + 1 := by simp
  have HSZ := hid hsz
  clear hsz
  obtain ⟨i0, hi, hz0, hz1, hz2⟩ := info_parts infoTxt
  go_enter Try.func46, Try.ntmps46
  go_wp2_with fail
  generalize w.alloc (.cells #[.int .i64 at_, .slice la xs.length cap] 46) = wb at *
  go_loopw [3, 4] (fun o i wr => ∃ (k : Nat) (ad : Option Addr) (cp : Nat), k ≤ xs.length ∧ i = .int .i64 k ∧ o = .slice ad (oldX 43 (xs.take k)).length cp ∧ wr.ownsRow (w.heap.size + 1) 9 1 (.slice ad (oldX 43 (xs.take k)).length cp) (oldX 43 (xs.take k)).length ((oldX 43 (xs.take k)).map Value.string) ∧ Below (w.heap.size + 1) wb wr) (fun _ i _ => xs.length - (intOf i).toNat)
  case atStart => exact ⟨0, _, 0, Nat.zero_le _, rfl, rfl, by have := World.ownsRow_lit (e := 9) (size := 1) wb #[] 0 (show w.heap.size + 1 ≤ wb.heap.size by rw [unhid HSZ]; exact Nat.le_refl _) (by omega) (by simp); rw [unhid HSZ] at this; exact this, (Below.refl _ _).alloc (by rw [unhid HSZ]; exact Nat.le_refl _) _⟩
  case round =>
    obtain ⟨k, ad, cp, hk, rfl, rfl, hown, hB⟩ := hrel
    have hwl : (oldX 43 (xs.take k)).length ≤ k := Nat.le_trans (oldX_len _ _) (by simp; omega)
    obtain ⟨⟨m0, _⟩, m1, _⟩ := (unhid TW).below hB (Nat.lt_succ_self _)
    have hBw := (unhid HA).trans (hB.mono (Nat.le_succ _))
    have HBw := hid hBw
    by_cases hlt : k < xs.length
    · obtain ⟨x, he⟩ : ∃ e, xs[k]? = some e := ⟨xs[k], List.getElem?_eq_getElem hlt⟩
      obtain ⟨b, o, rfl, hbl, hc⟩ := (unhid HT).get (by intro e; subst e; simp at hlt)
      have c0 := (hBw.cell (p := ⟨b, o + k, .none⟩) hbl).trans (hc k x he)
      obtain ⟨z1, z2⟩ := unhid HZ x (List.mem_of_getElem? he)
      have z3 : x.size ≤ 9223372036854775807 := z2
      have HS := hid (oldX_take 43 xs k x he z1)
      have hbz := hB.size
      rw [unhid HSZ] at hbz
      clear hc he z2 hBw
      generalize oldX 43 (xs.take k) = ys at *
      cases hd : (x[0] == 43)
      · have b1 : (((x[0]).toNat : Int) != 43) = true := by
          rw [beq_eq_false_iff_ne] at hd
          rw [bne_iff_ne]; intro h; exact hd (UInt8.toNat_inj.1 (by show _ = 43; omega))
        have E := hid (show oldX 43 (xs.take (k + 1)) = ys ++ [x.extract 1 x.size] by rw [unhid HS, hd]; simp)
        clear hd HS
        go_wp2_with (at_builtin; refine wpList_append_own _ rfl _ _ 29 rfl (w.heap.size + 1) 9 i0 (.string ⟨#[]⟩) 1 16 Try.underlying29 hi hz0 hz1 hz2 rfl (by decide) _ _ _ rfl (hown.alloc _) ⟨wr.heap.size, 0, none⟩ 1 1 [.string (x.extract 1 x.size)] rfl rfl ?c1 ?c2 ?c3 ?c4 ?c5 ?_)
        case c1 => exact cell_one_new _ _ _
        case c2 => intro u hu; simp at hu; subst hu; rfl
        case c3 => unfold maxLen; omega
        case c4 => omega
        case c5 => simp; omega
        intro v' w1 hown' hgrow _
        obtain ⟨g', cap', rfl⟩ := ownsRow_succ hown'
        have hB1 : Below (w.heap.size + 1) wb w1 := (hB.alloc hbz _).grown hgrow (by simp; omega) (fun j e => (hown.lt j e).1)
        clear hgrow hown
        go_wp2
        go_roundw
        case rel => exact ⟨k + 1, some ⟨g', 0, none⟩, cap', by omega, by go_num, by rw [unhid E]; simp, by rw [unhid E]; simpa using hown', hB1⟩
        case measure => simp [intOf]; omega
      · have b1 : (((x[0]).toNat : Int) != 43) = false := by
          rw [beq_iff_eq] at hd
          rw [hd]; decide
        have E := hid (show oldX 43 (xs.take (k + 1)) = ys by rw [unhid HS, hd]; simp)
        clear hd HS
        go_wp2_with fail
        go_roundw
        case rel => exact ⟨k + 1, ad, cp, by omega, by go_num, by rw [unhid E], by rw [unhid E]; exact hown, hB⟩
        case measure => simp [intOf]; omega
    · have e : k = xs.length := by omega
      subst e
      rw [List.take_of_length_le (Nat.le_refl _)] at hown ⊢
      clear hBw
      go_wp2_with fail
      go_ret
      exact ⟨_, rfl, ownsRow_baseX hown (Nat.le_succ _), unhid HBw⟩
end Go.Proofs.Ytedimkcnemhhpaa

/- Rows of texts: appended to, sliced, copied, with a sign ahead. -/
namespace Go.Proofs.Ytedimkcnemhhpaa
open Go.RowKit Go.Shelf

theorem strs_one (xs : List ByteArray) : ∀ u ∈ xs.map Value.string, u.oneCell' = true := fun u hu => by
  obtain ⟨x, _, rfl⟩ := List.mem_map.1 hu; rfl
theorem add_plainT (b o n : Nat) : (⟨b, o, none⟩ : Addr).add n = ⟨b, o + n, none⟩ := by simp [Addr.add]
theorem grown_self (w : World) (row : Option Nat) : w.grownBy w row := ⟨rfl, rfl, rfl, Nat.le_refl _, fun _ _ _ => rfl⟩

/-- Texts appended to a row that is owned. -/
theorem app_txts (w : World) (base ty : Nat) (v : Value) (xs ys : List ByteArray) (a : Option Addr) (c : Nat) (hown : w.ownsRow base 9 1 v xs.length (xs.map Value.string)) (h : TxtsAt w a ys) (ha : a = none → c = 0) (hn : xs.length + ys.length ≤ 4294967296) (hb : base ≤ w.heap.size) :
    ∃ v' w', (Builtin.append_ #[29, 29] ty #[v, .slice a ys.length c]).run Try.prog w = .ok v' w' ∧ w'.ownsRow base 9 1 v' (xs ++ ys).length ((xs ++ ys).map Value.string) ∧ w.grownBy w' v.ownBlock ∧ (v'.ownBlock = v.ownBlock ∨ v'.ownBlock = some w.heap.size) := by
  obtain ⟨i0, hi, hz0, hz1, hz2⟩ := info_parts infoTxt
  have hle : (xs ++ ys).length = xs.length + ys.length := List.length_append
  cases a with
  | none =>
    have h0 : ys = [] := by rcases h with h | ⟨b, o, hh, _⟩; exact h; cases hh
    subst h0
    obtain rfl := ha rfl
    refine ⟨v, w, run_append_owned_none (P := Try.prog) w base 29 ty 9 i0 1 Try.underlying29 hi v xs.length _ hown, by simpa using hown, grown_self _ _, .inl rfl⟩
  | some ad =>
    obtain ⟨v', w', hr, h2, h3, _, h5⟩ := run_append_own_at (P := Try.prog) w base 29 ty 9 i0 (.string ⟨#[]⟩) 1 16 Try.underlying29 hi hz0 hz1 hz2 rfl (by decide) v xs.length _ hown ad ys.length c (ys.map Value.string) (by simp) (by
      intro j u hj
      rw [List.getElem?_map] at hj
      cases hy : ys[j]? with
      | none => rw [hy] at hj; cases hj
      | some y =>
        rw [hy] at hj
        cases hj
        obtain ⟨b, o, e, _, hc⟩ := h.get (by intro e; subst e; simp at hy)
        cases e
        rw [add_plainT]
        exact hc j y hy) (strs_one _) (by unfold maxLen; omega) (by omega) hb
    exact ⟨v', w', hr, by rw [hle, List.map_append]; exact h2, h3, h5⟩

theorem wp_app {ops : Array Oper} {rest : List Oper} {o : Oper} {a : Act} {w : World} {Q : Exit → Act → World → Prop} (hgd : o.guard = none) (s x : Operand) (ho : o.op = .call { callee := .builtin .append, args := #[s, x], argTypes := #[29, 29] })
    (base : Nat) (v : Value) (xs ys : List ByteArray) (ad : Option Addr) (c : Nat) (hs : a.eval s = v) (hx : a.eval x = .slice ad ys.length c) (hown : w.ownsRow base 9 1 v xs.length (xs.map Value.string)) (h : TxtsAt w ad ys) (ha : ad = none → c = 0) (hn : xs.length + ys.length ≤ 4294967296) (hb : base ≤ w.heap.size)
    (hk : ∀ v' w', w'.ownsRow base 9 1 v' (xs ++ ys).length ((xs ++ ys).map Value.string) → w.grownBy w' v.ownBlock → (v'.ownBlock = v.ownBlock ∨ v'.ownBlock = some w.heap.size) → wpList Try.prog ops Q rest (a.put o.dst v') w') : wpList Try.prog ops Q (o :: rest) a w := by
  refine wpList_plain hgd fun K hK => ?_
  obtain ⟨v', w', hr, h2, h3, h5⟩ := app_txts w base o.type v xs ys ad c hown h ha hn hb
  unfold Oper.wp execOp
  simp only [ho, resolve, invoke, builtin, Sem.run_bind, Sem.run_pure, Result.andThen_ok, List.map_toArray, List.map_cons, List.map_nil, hs, hx, hr]
  exact hK _ _ (hk v' w' h2 h3 h5)

theorem held_app {md : Region.Mode} {ops : Array Oper} {Q : Exit → Act → World → Prop} {C : World → Prop} {F : Nat} {listed : Array Bool} {a : Act} {w : World} {o : Oper} {s x : Operand} (k d : Nat) (base : Nat) (v : Value) (xs ys : List ByteArray) (ad : Option Addr) (c : Nat) (hr : Region.ready md ops listed = [k]) (hF : decide (0 < F) = true) (ho : ops[k]? = some o)
    (hop : o.op = .call { callee := .builtin .append, args := #[s, x], argTypes := #[29, 29] }) (hw : Region.wanted o (yielded ops a.tmps) = true) (hd : o.dst = some d) (hs : a.eval s = v) (hx : a.eval x = .slice ad ys.length c)
    (hown : w.ownsRow base 9 1 v xs.length (xs.map Value.string)) (h : TxtsAt w ad ys) (ha : ad = none → c = 0) (hn : xs.length + ys.length ≤ 4294967296) (hb : base ≤ w.heap.size)
    (hk : ∀ v' w', w'.ownsRow base 9 1 v' (xs ++ ys).length ((xs ++ ys).map Value.string) → w.grownBy w' v.ownBlock → (v'.ownBlock = v.ownBlock ∨ v'.ownBlock = some w.heap.size) → C w' ∧ wpAnyH Try.prog md ops Q (fun w' => ∃ x : CW C, w' = x.w) (F - 1) (listed.setIfInBounds k true) (a.put (some d) v') w') :
    wpAnyH Try.prog md ops Q (fun w' => ∃ x : CW C, w' = x.w) F listed a w := by
  refine held_op k hr hF ho (fun K hK => ?_)
  rw [if_pos hw]
  obtain ⟨v', w', hr, h2, h3, h5⟩ := app_txts w base o.type v xs ys ad c hown h ha hn hb
  unfold Oper.wp execOp
  simp only [hop, resolve, invoke, builtin, Sem.run_bind, Sem.run_pure, Result.andThen_ok, List.map_toArray, List.map_cons, List.map_nil, hs, hx, hr]
  obtain ⟨hc, hn⟩ := hk v' w' h2 h3 h5
  show K (a.put o.dst v') w'
  rw [hd]
  exact hK.out _ _ hc hn

/-- Where a part of a row lies. -/
def subA (a : Option Addr) (cap l : Nat) : Option Addr := if cap = l then a else a.map (·.add l)
theorem size9 (w : World) : (sizeOf 9).run Try.prog w = .ok 1 w := by kernel_rfl
theorem elem29 : Try.prog.elem 29 = 9 := by kernel_rfl
theorem slice29 : Try.prog.underlying 29 = some (.slice (Try.prog.elem 29)) := by rw [elem29]; exact Try.underlying29
theorem sub_lh (a : Option Addr) (len cap l h : Nat) (h1 : l ≤ h) (h2 : h ≤ cap) (w : World) : (Instr.sliceAt 29 (.slice a len cap) (some (.int .i64 (l : Int))) (some (.int .i64 (h : Int))) none).run Try.prog w = .ok (.slice (subA a cap l) (h - l) (cap - l)) w := by
  rw [run_sliceAt_slice _ _ _ _ _ _ slice29, run_slice_lh _ _ _ _ _ slice29 _ _ _ _ (by omega) (by omega) (by omega), elem29, size9]
  simp [sliced, subA]
theorem sub_l (a : Option Addr) (len cap l : Nat) (h1 : l ≤ len) (w : World) : (Instr.sliceAt 29 (.slice a len cap) (some (.int .i64 (l : Int))) none none).run Try.prog w = .ok (.slice (subA a cap l) (len - l) (cap - l)) w := by
  rw [run_sliceAt_slice _ _ _ _ _ _ slice29, run_slice_l _ _ _ _ _ slice29 _ _ (by omega) (by omega), elem29, size9]
  simp [sliced, subA]
theorem sub_h (a : Option Addr) (len cap h : Nat) (h2 : h ≤ cap) (w : World) : (Instr.sliceAt 29 (.slice a len cap) none (some (.int .i64 (h : Int))) none).run Try.prog w = .ok (.slice a h cap) w := by
  rw [run_sliceAt_slice _ _ _ _ _ _ slice29, run_slice_h _ _ _ _ _ slice29 _ _ (by omega) (by omega), elem29, size9]
  simp only [Result.andThen_ok, sliced, Nat.zero_mul, Nat.sub_zero, Int.toNat_natCast]
  congr 2
  split
  · rfl
  · cases a with
    | none => rfl
    | some a => simp [Addr.add]
theorem TxtsAt.part {W : World} {a : Option Addr} {xs : List ByteArray} {cap : Nat} (h : TxtsAt W a xs) (hc : xs.length ≤ cap) (l m : Nat) : TxtsAt W (subA a cap l) ((xs.drop l).take m) := by
  by_cases h0 : (xs.drop l).take m = []
  · exact .inl h0
  have hl : l < xs.length := by
    rcases Nat.lt_or_ge l xs.length with h | h
    · exact h
    · exact absurd (by rw [List.drop_eq_nil_of_le h, List.take_nil]) h0
  obtain ⟨b, o, rfl, hb, hcell⟩ := h.get (by intro e; subst e; simp at hl)
  refine .inr ⟨b, o + l, by unfold subA; rw [if_neg (by omega)]; simp [Addr.add], hb, fun i x hi => ?_⟩
  have : xs[l + i]? = some x := by
    rw [List.getElem?_take] at hi
    split at hi
    · rw [List.getElem?_drop] at hi; exact hi
    · cases hi
  have := hcell _ _ this
  rwa [← Nat.add_assoc] at this
theorem TxtsAt.rest {W : World} {a : Option Addr} {xs : List ByteArray} {cap : Nat} (h : TxtsAt W a xs) (hc : xs.length ≤ cap) (l : Nat) : TxtsAt W (subA a cap l) (xs.drop l) := by
  have := h.part hc l xs.length
  rwa [List.take_of_length_le (by simp)] at this
theorem TxtsAt.head {W : World} {a : Option Addr} {xs : List ByteArray} (h : TxtsAt W a xs) (m : Nat) : TxtsAt W a (xs.take m) := by
  rcases h with rfl | ⟨b, o, rfl, hb, hcell⟩
  · exact .inl (by simp)
  · refine .inr ⟨b, o, rfl, hb, fun i x hi => hcell i x ?_⟩
    rw [List.getElem?_take] at hi
    split at hi
    · exact hi
    · cases hi
theorem subA_none {a : Option Addr} {cap l : Nat} (hl : l ≤ cap) (h : a = none → cap = 0) : subA a cap l = none → cap - l = 0 := fun e => by
  unfold subA at e
  split at e
  · omega
  · cases a with
    | none => have := h rfl; omega
    | some _ => cases e

set_option maxRecDepth 100000 in
set_option maxHeartbeats 1000000 in
theorem eq_nil29 (a : Option Addr) (l c : Nat) (w : World) : (binOp .eql 29 (.slice a l c) (.slice none 0 0)).run Try.prog w = .ok (.bool a.isNone) w := by
  simp only [binOp]
  simp [run_equal_slice_nil _ _ _ _ _ _ Try.underlying29]
set_option maxRecDepth 100000 in
set_option maxHeartbeats 1000000 in
theorem slicesClone_any (xs : List ByteArray) (a : Option Addr) (cap : Nat) (w : World) (hx : xs.length ≤ 1048576) (h : TxtsAt w a xs) (ha : a = none → cap = 0) :
    Calls Try.prog 64 #[.slice a xs.length cap] w fun r w' => ∃ v, r = .returned v ∧ w'.ownsRow w.heap.size 9 1 v xs.length (xs.map Value.string) ∧ Below w.heap.size w w' := by
  cases a with
  | none =>
    have h0 : xs = [] := by rcases h with h | ⟨b, o, hh, _⟩; exact h; cases hh
    subst h0
    obtain rfl := ha rfl
    have hq := fun w => eq_nil29 none 0 0 w
    go_enter Try.func64, Try.ntmps64
    go_wp2_with fail
    go_ret
    exact ⟨_, rfl, World.ownsRow_nil _ _ _ _, Below.refl _ _⟩
  | some ad =>
    have hB1 : Below w.heap.size w (w.alloc (.cells #[] 9)) := (Below.refl _ w).alloc (Nat.le_refl _) _
    have HT := hid (h.below hB1)
    have HO := hid (World.ownsRow_lit (base := w.heap.size) (e := 9) (size := 1) w #[] 0 (Nat.le_refl _) (by simp [maxLen]) rfl)
    have HB := hid hB1
    have hle : w.heap.size ≤ (w.alloc (.cells #[] 9)).heap.size := hB1.size
    have HLE := hid hle
    clear h hB1 ha hle
    have hq := fun w => eq_nil29 (some ad) xs.length cap w
    go_enter Try.func64, Try.ntmps64
    go_wp2_with (at_builtin; refine wp_app rfl _ _ rfl w.heap.size _ [] xs (some ad) cap rfl rfl (unhid HO) (unhid HT) (fun e => by cases e) ?c1 (unhid HLE) ?_)
    case c1 => first | omega | (simp only [List.length_nil]; omega)
    intro v' w1 hown hg _
    have HF := hid (And.intro hown ((unhid HB).grown hg (unhid HB).size (fun k e => by cases e; exact Nat.le_refl _)))
    clear hown hg
    go_wp2_with fail
    go_ret
    exact ⟨_, rfl, unhid HF⟩

def signX (c : UInt8) (xs : List ByteArray) : List ByteArray := xs.map fun x => (⟨#[c]⟩ : ByteArray) ++ x
theorem signX_len (c : UInt8) (xs : List ByteArray) : (signX c xs).length = xs.length := List.length_map _
set_option maxRecDepth 100000 in
set_option maxHeartbeats 2000000 in
theorem signed_any (c : UInt8) (xs : List ByteArray) (a : Option Addr) (cap : Nat) (w : World) (hx : xs.length ≤ 1048576) (hz : ∀ x ∈ xs, x.size ≤ 1048576) (h : TxtsAt w a xs) :
    Calls Try.prog 58 #[.string ⟨#[c]⟩, .slice a xs.length cap] w fun r w' => ∃ v, r = .returned v ∧ w'.ownsRow w.heap.size 9 1 v (signX c xs).length ((signX c xs).map Value.string) ∧ Below w.heap.size w w' := by
  have HT := hid h
  have HZ := hid hz
  clear h hz
  obtain ⟨i0, hi, hz0, hz1, hz2⟩ := info_parts infoTxt
  go_enter Try.func58, Try.ntmps58
  go_wp2_with fail
  go_loopw [5, 10] (fun o i wr => ∃ (k : Nat) (ad : Option Addr) (cp : Nat), k ≤ xs.length ∧ i = .int .i64 k ∧ o = .slice ad k cp ∧ wr.ownsRow w.heap.size 9 1 (.slice ad k cp) k ((signX c (xs.take k)).map Value.string) ∧ Below w.heap.size w wr) (fun _ i _ => xs.length - (intOf i).toNat)
  case atStart => exact ⟨0, none, 0, Nat.zero_le _, rfl, rfl, World.ownsRow_nil _ _ _ _, Below.refl _ _⟩
  case round =>
    obtain ⟨k, ad, cp, hk, rfl, rfl, hown, hB⟩ := hrel
    by_cases hlt : k < xs.length
    · have he := txtFn_some hlt
      generalize txtFn xs k = x at he
      obtain ⟨b, o, rfl, hbl, hc⟩ := (unhid HT).get (by intro e; subst e; simp at hlt)
      have c0 := (hB.cell (p := ⟨b, o + k, .none⟩) hbl).trans (hc k x he)
      have z1 := unhid HZ x (List.mem_of_getElem? he)
      have E := hid (show signX c (xs.take (k + 1)) = signX c (xs.take k) ++ [(⟨#[c]⟩ : ByteArray) ++ x] by unfold signX; rw [List.take_add_one, he, List.map_append]; rfl)
      clear hc he
      go_wp2_with (at_builtin; refine wpList_append_own _ rfl _ _ 29 rfl w.heap.size 9 i0 (.string ⟨#[]⟩) 1 16 Try.underlying29 hi hz0 hz1 hz2 rfl (by decide) _ _ _ rfl (hown.alloc _) ⟨wr.heap.size, 0, none⟩ 1 1 [.string ((⟨#[c]⟩ : ByteArray) ++ x)] rfl rfl ?c1 ?c2 ?c3 ?c4 ?c5 ?_)
      case c1 => exact cell_one_new _ _ _
      case c2 => intro u hu; simp at hu; subst hu; rfl
      case c3 => unfold maxLen; omega
      case c4 => omega
      case c5 => have := hB.size; simp; omega
      intro v' w1 hown' hgrow _
      obtain ⟨g', cap', rfl⟩ := ownsRow_succ hown'
      have hB1 : Below w.heap.size w w1 := (hB.alloc hB.size _).grown hgrow (by have := hB.size; simp; omega) (fun j e => (hown.lt j e).1)
      clear hgrow hown
      go_wp2
      go_roundw
      case rel => exact ⟨k + 1, some ⟨g', 0, none⟩, cap', by omega, by go_num, by simp, by rw [unhid E]; simpa using hown', hB1⟩
      case measure => simp [intOf]; omega
    · have e : k = xs.length := by omega
      subst e
      rw [List.take_of_length_le (Nat.le_refl _)] at hown
      go_wp2_with fail
      go_ret
      exact ⟨_, rfl, by rw [signX_len]; exact hown, hB⟩
end Go.Proofs.Ytedimkcnemhhpaa

/- How many lines two rows begin with, or end with, alike; whether lines may be a text; whether lines stand at a place. -/
namespace Go.Proofs.Ytedimkcnemhhpaa
open Go.RowKit Go.Shelf

/-- From k on, so long as p says yes, at most so many. -/
def runP (p : Nat → Bool) : Nat → Nat → Nat
  | _, 0 => 0
  | k, f + 1 => if p k then runP p (k + 1) f + 1 else 0
theorem runP_eq {p : Nat → Bool} : ∀ (f k m : Nat), m ≤ f → (∀ i, i < m → p (k + i) = true) → (m = f ∨ p (k + m) = false) → runP p k f = m
  | 0, _, m, h, _, _ => by simp only [runP]; omega
  | f + 1, k, 0, _, _, h => by
    rcases h with h | h
    · cases h
    · unfold runP; rw [show k + 0 = k from rfl] at h; rw [h]; rfl
  | f + 1, k, m + 1, h, h1, h2 => by
    unfold runP
    rw [show p k = true from h1 0 (by omega), if_pos rfl, runP_eq f (k + 1) m (by omega) (fun i hi => by have := h1 (i + 1) (by omega); rwa [show k + 1 + i = k + (i + 1) by omega]) (h2.imp (fun h => by omega) (fun h => by rwa [show k + 1 + m = k + (m + 1) by omega]))]
theorem runP_le {p : Nat → Bool} : ∀ (f k : Nat), runP p k f ≤ f
  | 0, _ => Nat.le_refl _
  | f + 1, k => by unfold runP; split; exact Nat.succ_le_succ (runP_le f (k + 1)); exact Nat.zero_le _
theorem runP_all {p : Nat → Bool} : ∀ (f k i : Nat), i < runP p k f → p (k + i) = true
  | 0, _, _, h => absurd h (Nat.not_lt_zero _)
  | f + 1, k, i, h => by
    unfold runP at h
    split at h
    · rename_i hp
      cases i with
      | zero => exact hp
      | succ i => have := runP_all (p := p) f (k + 1) i (by omega); rwa [show k + (i + 1) = k + 1 + i by omega]
    · exact absurd h (Nat.not_lt_zero _)
theorem runP_stop {p : Nat → Bool} : ∀ (f k : Nat), runP p k f < f → p (k + runP p k f) = false
  | 0, _, h => absurd h (Nat.not_lt_zero _)
  | f + 1, k, h => by
    unfold runP at h ⊢
    split
    · rename_i hp
      rw [if_pos hp] at h
      have := runP_stop (p := p) f (k + 1) (by omega)
      rwa [show k + (runP p (k + 1) f + 1) = k + 1 + runP p (k + 1) f by omega]
    · rename_i hp; simpa using hp
theorem runP_congr {p q : Nat → Bool} : ∀ (f k : Nat), (∀ i, k ≤ i → i < k + f → p i = q i) → runP p k f = runP q k f
  | 0, _, _ => rfl
  | f + 1, k, h => by unfold runP; rw [h k (Nat.le_refl _) (by omega), runP_congr f (k + 1) (fun i h1 h2 => h i (by omega) (by omega))]

def sameA (xs ys : List ByteArray) (i : Nat) : Bool := decide (txtFn xs i = txtFn ys i)
def sameZ (xs ys : List ByteArray) (i : Nat) : Bool := decide (txtFn xs (xs.length - 1 - i) = txtFn ys (ys.length - 1 - i))
def aheadN (xs ys : List ByteArray) : Nat := runP (sameA xs ys) 0 (min xs.length ys.length)
def behindN (xs ys : List ByteArray) : Nat := runP (sameZ xs ys) 0 (min xs.length ys.length)

set_option maxRecDepth 100000 in
set_option maxHeartbeats 2000000 in
theorem sameAhead_any (xs ys : List ByteArray) (a b : Option Addr) (cap cap2 : Nat) (w : World) (hx : xs.length ≤ 1048576) (hy : ys.length ≤ 1048576) (h : TxtsAt w a xs) (h2 : TxtsAt w b ys) :
    Calls Try.prog 55 #[.slice a xs.length cap, .slice b ys.length cap2] w fun r w' => r = .returned (.int .i64 (aheadN xs ys : Nat)) ∧ Below w.heap.size w w' := by
  have hm : ((min xs.length ys.length : Nat) : Int) = min (xs.length : Int) (ys.length : Int) := by omega
  have HM := hid hm
  clear hm
  go_enter Try.func55, Try.ntmps55
  go_wp2_with fail
  go_loopw [5] (fun i wr => ∃ k : Nat, k ≤ min xs.length ys.length ∧ i = .int .i64 k ∧ Hid (∀ i, i < k → sameA xs ys i = true) ∧ Below w.heap.size w wr) (fun i _ => min xs.length ys.length - (intOf i).toNat)
  case atStart => exact ⟨0, Nat.zero_le _, rfl, hid (fun i hi => absurd hi (Nat.not_lt_zero _)), Below.refl _ _⟩
  case round =>
    obtain ⟨k, hk, rfl, hall, hB⟩ := hrel
    by_cases hlt : k < min xs.length ys.length
    · have hxk := txtFn_some (xs := xs) (i := k) (by omega)
      have hyk := txtFn_some (xs := ys) (i := k) (by omega)
      obtain ⟨bb, o, rfl, hbl, hc⟩ := h.get (by intro e; subst e; simp at hxk)
      obtain ⟨bb2, o2, rfl, hbl2, hc2⟩ := h2.get (by intro e; subst e; simp at hyk)
      have c0 := (hB.cell (p := ⟨bb, o + k, .none⟩) hbl).trans (hc k _ hxk)
      have d0 := (hB.cell (p := ⟨bb2, o2 + k, .none⟩) hbl2).trans (hc2 k _ hyk)
      have HB := hid hB
      have HH := hid (And.intro h (And.intro h2 (And.intro hc hc2)))
      have hl1 : k < xs.length := by omega
      have hl2 : k < ys.length := by omega
      have hml : (k : Int) < min (xs.length : Int) (ys.length : Int) := by omega
      clear hc hc2 hB h h2 hxk hyk
      by_cases he : txtFn xs k = txtFn ys k
      · obtain ⟨q1, q2⟩ := txt_yes he
        have HE := hid (show sameA xs ys k = true from decide_eq_true he)
        clear he
        generalize txtFn xs k = x at *
        generalize txtFn ys k = y at *
        rcases Nat.lt_or_ge ys.length xs.length with hyx | hyx
        all_goals
          go_wp2_with fail
          go_quiet (fail)
          go_wp2_with fail
          go_roundw
          case rel => exact ⟨k + 1, by omega, by go_num, hid (fun i hi => (Nat.lt_succ_iff_lt_or_eq.1 hi).elim (fun h => unhid hall i h) (fun h => by subst h; exact unhid HE)), ⟨(unhid HB).os, (unhid HB).tape, (unhid HB).output, (unhid HB).size, (unhid HB).block⟩⟩
          case measure => simp [intOf]; omega
      · obtain ⟨q1, q2⟩ := txt_no he
        have E := hid (show aheadN xs ys = k from runP_eq _ 0 k (Nat.le_of_lt hlt) (fun i hi => by rw [Nat.zero_add]; exact unhid hall i hi) (.inr (by rw [Nat.zero_add]; exact decide_eq_false he)))
        clear he
        generalize txtFn xs k = x at *
        generalize txtFn ys k = y at *
        rcases Nat.lt_or_ge ys.length xs.length with hyx | hyx
        all_goals
          go_wp2_with fail
          go_quiet (fail)
          go_wp2_with fail
          go_ret
          exact ⟨by rw [unhid E]; rfl, ⟨(unhid HB).os, (unhid HB).tape, (unhid HB).output, (unhid HB).size, (unhid HB).block⟩⟩
    · have e : k = min xs.length ys.length := by omega
      have E := hid (show aheadN xs ys = k from runP_eq _ 0 k hk (fun i hi => by rw [Nat.zero_add]; exact unhid hall i hi) (.inl e))
      rcases Nat.lt_or_ge ys.length xs.length with hyx | hyx
      all_goals
        first | have dn : ¬ k < ys.length := by omega
              | have dn : ¬ k < xs.length := by omega
        clear e
        go_wp2_with fail
        go_quiet (fail)
        go_wp2_with fail
        go_ret
        exact ⟨by rw [unhid E]; rfl, ⟨hB.os, hB.tape, hB.output, hB.size, hB.block⟩⟩

set_option maxRecDepth 100000 in
set_option maxHeartbeats 2000000 in
theorem sameBehind_any (xs ys : List ByteArray) (a b : Option Addr) (cap cap2 : Nat) (w : World) (hx : xs.length ≤ 1048576) (hy : ys.length ≤ 1048576) (h : TxtsAt w a xs) (h2 : TxtsAt w b ys) :
    Calls Try.prog 56 #[.slice a xs.length cap, .slice b ys.length cap2] w fun r w' => r = .returned (.int .i64 (behindN xs ys : Nat)) ∧ Below w.heap.size w w' := by
  go_enter Try.func56, Try.ntmps56
  go_wp2_with fail
  go_loopw [5] (fun i wr => ∃ k : Nat, k ≤ min xs.length ys.length ∧ i = .int .i64 k ∧ Hid (∀ i, i < k → sameZ xs ys i = true) ∧ Below w.heap.size w wr) (fun i _ => min xs.length ys.length - (intOf i).toNat)
  case atStart => exact ⟨0, Nat.zero_le _, rfl, hid (fun i hi => absurd hi (Nat.not_lt_zero _)), Below.refl _ _⟩
  case round =>
    obtain ⟨k, hk, rfl, hall, hB⟩ := hrel
    by_cases hlt : k < min xs.length ys.length
    · have hxk := txtFn_some (xs := xs) (i := xs.length - 1 - k) (by omega)
      have hyk := txtFn_some (xs := ys) (i := ys.length - 1 - k) (by omega)
      obtain ⟨bb, o, rfl, hbl, hc⟩ := h.get (by intro e; subst e; simp at hxk)
      obtain ⟨bb2, o2, rfl, hbl2, hc2⟩ := h2.get (by intro e; subst e; simp at hyk)
      have c0 := (hB.cell (p := ⟨bb, o + (xs.length - 1 - k), .none⟩) hbl).trans (hc _ _ hxk)
      have d0 := (hB.cell (p := ⟨bb2, o2 + (ys.length - 1 - k), .none⟩) hbl2).trans (hc2 _ _ hyk)
      have HB := hid hB
      have HH := hid (And.intro h (And.intro h2 (And.intro hc hc2)))
      have hl1 : k < xs.length := by omega
      have hl2 : k < ys.length := by omega
      have hml : (k : Int) < min (xs.length : Int) (ys.length : Int) := by omega
      have n1 : ((xs.length : Int) - 1 - (k : Int)).toNat = xs.length - 1 - k := by omega
      have n2 : ((ys.length : Int) - 1 - (k : Int)).toNat = ys.length - 1 - k := by omega
      clear hc hc2 hB h h2 hxk hyk
      by_cases he : txtFn xs (xs.length - 1 - k) = txtFn ys (ys.length - 1 - k)
      · obtain ⟨q1, q2⟩ := txt_yes he
        have HE := hid (show sameZ xs ys k = true from decide_eq_true he)
        clear he
        generalize txtFn xs (xs.length - 1 - k) = x at *
        generalize txtFn ys (ys.length - 1 - k) = y at *
        rcases Nat.lt_or_ge ys.length xs.length with hyx | hyx
        all_goals
          go_wp2_with fail
          go_quiet (fail)
          go_wp2_with fail
          go_roundw
          case rel => exact ⟨k + 1, by omega, by go_num, hid (fun i hi => (Nat.lt_succ_iff_lt_or_eq.1 hi).elim (fun h => unhid hall i h) (fun h => by subst h; exact unhid HE)), ⟨(unhid HB).os, (unhid HB).tape, (unhid HB).output, (unhid HB).size, (unhid HB).block⟩⟩
          case measure => simp [intOf]; omega
      · obtain ⟨q1, q2⟩ := txt_no he
        have E := hid (show behindN xs ys = k from runP_eq _ 0 k (Nat.le_of_lt hlt) (fun i hi => by rw [Nat.zero_add]; exact unhid hall i hi) (.inr (by rw [Nat.zero_add]; exact decide_eq_false he)))
        clear he
        generalize txtFn xs (xs.length - 1 - k) = x at *
        generalize txtFn ys (ys.length - 1 - k) = y at *
        rcases Nat.lt_or_ge ys.length xs.length with hyx | hyx
        all_goals
          go_wp2_with fail
          go_quiet (fail)
          go_wp2_with fail
          go_ret
          exact ⟨by rw [unhid E]; rfl, ⟨(unhid HB).os, (unhid HB).tape, (unhid HB).output, (unhid HB).size, (unhid HB).block⟩⟩
    · have e : k = min xs.length ys.length := by omega
      have E := hid (show behindN xs ys = k from runP_eq _ 0 k hk (fun i hi => by rw [Nat.zero_add]; exact unhid hall i hi) (.inl e))
      rcases Nat.lt_or_ge ys.length xs.length with hyx | hyx
      all_goals
        first | have dn : ¬ k < ys.length := by omega
              | have dn : ¬ k < xs.length := by omega
        clear e
        go_wp2_with fail
        go_quiet (fail)
        go_wp2_with fail
        go_ret
        exact ⟨by rw [unhid E]; rfl, ⟨hB.os, hB.tape, hB.output, hB.size, hB.block⟩⟩

/-- Whether lines may be a text. -/
def textB (xs : List ByteArray) : Bool := decide ((xs.length : Int) ≤ 30) && xs.all fun x => lineB x.data.toList
set_option maxHeartbeats 1000000 in
theorem textLinesOk_any (xs : List ByteArray) (a : Option Addr) (cap : Nat) (w : World) (hz : bigX xs) (hlen : xs.length ≤ maxLen) (h : TxtsAt w a xs) :
    Calls Try.prog 53 #[.slice a xs.length cap] w fun r w' => r = .returned (.bool (textB xs)) ∧ Below w.heap.size w w' := by
  have H := hid (listOk_any 87 lineB egT (fun s w hs => textLineOk_any s hs w) xs a cap 30 w hz hlen h)
  clear h hz
  go_enter Try.func53, Try.ntmps53
  go_wp2_with fail
  refine (unhid H).mono ?_
  rintro e w1 ⟨rfl, hb⟩
  have HB := hid hb
  have E := hid (show textB xs = (decide ((xs.length : Int) ≤ 30) && xs.all fun x => lineB x.data.toList) from rfl)
  rw [← unhid E]
  clear hb H
  go_wp2_with fail
  go_ret
  exact ⟨rfl, unhid HB⟩

set_option maxRecDepth 100000 in
set_option maxHeartbeats 2000000 in
theorem l5Lines_any (xs : List ByteArray) (a : Option Addr) (cap : Nat) (w : World) (hz : bigX xs) (hlen : xs.length ≤ maxLen) (h : TxtsAt w a xs) :
    Calls Try.prog 51 #[.slice a xs.length cap] w fun r w' => r = .returned (.bool (textB xs)) ∧ w' = w := by
  unfold maxLen at hlen
  have HZ := hid hz
  clear hz
  go_enter Try.func51, Try.ntmps51
  go_wp2_with fail
  go_loop [3] (fun i => ∃ k : Nat, k ≤ xs.length ∧ i = .int .i64 k ∧ Hid ((xs.take k).all (fun x => lineB x.data.toList) = true)) (fun i => xs.length - (intOf i).toNat)
  case atStart => exact ⟨0, by omega, rfl, hid (by simp)⟩
  case round =>
    obtain ⟨k, hk, rfl, hall⟩ := hrel
    by_cases hlt : k < xs.length
    · have he := txtFn_some hlt
      generalize txtFn xs k = x at he
      obtain ⟨b, o, rfl, hbl, hc⟩ := h.get (by intro e; subst e; simp at hlt)
      have c0 := hc k x he
      have HS := hid (show xs.take (k + 1) = xs.take k ++ [x] by rw [List.take_add_one, he]; rfl)
      have HM := hid (List.mem_of_getElem? he)
      have HH := hid (And.intro hc h)
      clear hc he h
      go_wp2_with fail
      refine (l5Seen_any x (unhid HZ x (unhid HM)) _).mono ?_
      rintro e w' ⟨rfl, rfl⟩
      cases hx : lineB x.data.toList
      · have E := hid (show textB xs = false by unfold textB; rw [List.all_eq_false.2 ⟨x, unhid HM, by simp [hx]⟩, Bool.and_false])
        clear hx
        go_wp2_with fail
        go_ret
        exact ⟨by rw [unhid E]; rfl, rfl⟩
      · have HX := hid hx
        clear hx
        go_wp2_with fail
        refine ⟨⟨k + 1, by omega, by go_num, hid ?_⟩, by simp [intOf]; omega⟩
        rw [unhid HS, List.all_append, unhid hall]
        simp [unhid HX]
    · have e : k = xs.length := by omega
      subst e
      have E := hid (show textB xs = decide ((xs.length : Int) ≤ 30) by
        have := unhid hall
        rw [List.take_of_length_le (Nat.le_refl _)] at this
        unfold textB; rw [this, Bool.and_true])
      go_wp2_with fail
      go_ret
      exact ⟨by rw [unhid E]; rfl, rfl⟩
end Go.Proofs.Ytedimkcnemhhpaa

/- Whether a hunk is ok, by the program and by its model. -/
namespace Go.Proofs.Ytedimkcnemhhpaa
open Go.RowKit Go.Shelf

def linesB (xs : List ByteArray) : Bool := xs.all fun x => hkLineB x.data.toList
def hkB (h : Hk) : Bool := decide (h.at_ ≤ 999) && (decide (0 < h.lines.length) && (decide (h.lines.length ≤ 30) && linesB h.lines))
theorem linesB_pos {xs : List ByteArray} (h : linesB xs = true) : ∀ x ∈ xs, 0 < x.size := fun x hx => by
  have := List.all_eq_true.1 h x hx
  rw [Lib.size_eq]
  cases hl : x.data.toList with
  | nil => rw [hl] at this; cases this
  | cons d t => simp

set_option maxRecDepth 100000 in
set_option maxHeartbeats 2000000 in
theorem hunkOk_any (h : Hk) (la : Option Addr) (cap : Nat) (w : World) (hlen : h.lines.length ≤ maxLen) (hz : bigX h.lines) (ht : TxtsAt w la h.lines) :
    Calls Try.prog 48 #[.agg #[.int .i64 h.at_, .slice la h.lines.length cap]] w fun e w' => e = .returned (.bool (hkB h)) ∧ Below w.heap.size w w' := by
  have HT := hid ht
  have HZ := hid hz
  have HL := hid hlen
  clear ht hz hlen
  have hA : ∀ o, Below w.heap.size w (w.alloc o) := fun o => (Below.refl _ w).alloc (Nat.le_refl _) o
  have HA := hid hA
  clear hA
  by_cases h1 : h.at_ ≤ 999
  · by_cases h2 : (0 : Int) < h.lines.length
    · have E := hid (show hkB h = (decide ((h.lines.length : Int) ≤ 30) && h.lines.all fun x => hkLineB x.data.toList) by
        unfold hkB linesB; rw [decide_eq_true h1, decide_eq_true (show 0 < h.lines.length by omega), Bool.true_and, Bool.true_and]
        congr 1; simp; omega)
      go_enter Try.func48, Try.ntmps48
      go_wp2_with fail
      refine (listOk_any 85 hkLineB egK (fun s w hs => hunkLineOk_any s hs w) h.lines la cap 30 _ (unhid HZ) (unhid HL) ((unhid HT).below (unhid HA _))).mono ?_
      rintro e w1 ⟨rfl, hb⟩
      have HB := hid ((unhid HA _).trans (hb.mono (unhid HA _).size))
      clear hb
      rw [← unhid E]
      go_wp2_with fail
      go_ret
      exact ⟨rfl, unhid HB⟩
    · have E := hid (show hkB h = false by unfold hkB; rw [decide_eq_false (show ¬ 0 < h.lines.length by omega)]; simp)
      go_enter Try.func48, Try.ntmps48
      go_wp2_with fail
      go_ret
      exact ⟨by rw [unhid E]; rfl, unhid HA _⟩
  · have E := hid (show hkB h = false by unfold hkB; rw [decide_eq_false h1]; rfl)
    go_enter Try.func48, Try.ntmps48
    go_wp2_with fail
    go_ret
    exact ⟨by rw [unhid E]; rfl, unhid HA _⟩

theorem sign_cases {c : UInt8} (h : signB c.toNat = false) : (((c.toNat : Int) != 32) = true ∧ ((c.toNat : Int) != 45) = true) ∧ ((c.toNat : Int) != 43) = true := by
  simp only [signB, Bool.or_eq_false_iff, beq_eq_false_iff_ne] at h
  simp only [bne_iff_ne]
  exact h
theorem sign_some {c : UInt8} (h : signB c.toNat = true) : ((c.toNat : Int) != 32) = false ∨ ((c.toNat : Int) != 32) = true ∧ ((c.toNat : Int) != 45) = false ∨ ((c.toNat : Int) != 32) = true ∧ ((c.toNat : Int) != 45) = true ∧ ((c.toNat : Int) != 43) = false := by
  simp only [signB, Bool.or_eq_true, beq_iff_eq] at h
  rcases h with (h | h) | h <;> rw [h] <;> decide

set_option maxRecDepth 100000 in
set_option maxHeartbeats 4000000 in
theorem l5Hunk_any (h : Hk) (la : Option Addr) (cap : Nat) (w : World) (hlen : h.lines.length ≤ maxLen) (hz : bigX h.lines) (ht : TxtsAt w la h.lines) :
    Calls Try.prog 45 #[.agg #[.int .i64 h.at_, .slice la h.lines.length cap]] w fun e w' => e = .returned (.bool (hkB h && decide (1 ≤ h.at_))) ∧ Below w.heap.size w w' := by
  obtain ⟨at_, xs⟩ := h
  dsimp only at *
  have HT := hid ht
  have HZ := hid hz
  clear ht hz
  unfold maxLen at hlen
  have HA := hid (show Below w.heap.size w (w.alloc (.cells #[.int .i64 at_, .slice la xs.length cap] 46)) from (Below.refl _ w).alloc (Nat.le_refl _) _)
  have TW := twoAt_new w at_ (.slice la xs.length cap) 46
  go_enter Try.func45, Try.ntmps45
  go_wp2_with fail
  generalize w.alloc (.cells #[.int .i64 at_, .slice la xs.length cap] 46) = wb at *
  obtain ⟨⟨m0, _⟩, m1, _⟩ := TW
  go_loop [3] (fun i => ∃ k : Nat, k ≤ xs.length ∧ i = .int .i64 k ∧ Hid (linesB (xs.take k) = true)) (fun i => xs.length - (intOf i).toNat)
  case atStart => exact ⟨0, Nat.zero_le _, rfl, hid rfl⟩
  case round =>
    obtain ⟨k, hk, rfl, hall⟩ := hrel
    by_cases hlt : k < xs.length
    · obtain ⟨x, he⟩ : ∃ e, xs[k]? = some e := ⟨xs[k], List.getElem?_eq_getElem hlt⟩
      obtain ⟨b, o, rfl, hbl, hc⟩ := (unhid HT).get (by intro e; subst e; simp at hlt)
      have c0 := ((unhid HA).cell (p := ⟨b, o + k, .none⟩) hbl).trans (hc k x he)
      have z2 := unhid HZ x (List.mem_of_getElem? he)
      have z3 : x.size ≤ 9223372036854775807 := z2
      have HM := hid (List.mem_of_getElem? he)
      have HS := hid (show linesB (xs.take (k + 1)) = (linesB (xs.take k) && hkLineB x.data.toList) by unfold linesB; rw [List.take_add_one, he, List.all_append]; simp)
      have bad : hkLineB x.data.toList = false → (hkB ⟨at_, xs⟩ && decide (1 ≤ at_)) = false := fun hx => by
        have : linesB xs = false := List.all_eq_false.2 ⟨x, List.mem_of_getElem? he, by simp [hx]⟩
        unfold hkB; simp [this]
      have HBad := hid bad
      clear hc he z2 bad
      by_cases h0 : x.size = 0
      · obtain rfl := str_nil h0
        have E := hid (unhid HBad rfl)
        go_wp2_with fail
        go_ret
        exact ⟨by rw [unhid E]; rfl, unhid HA⟩
      · have hp : 0 < x.size := by omega
        have q1 := ne_empty hp
        have q0 := empty_list
        have q2 : (x.toList == (⟨#[]⟩ : ByteArray).toList) = false := by rw [q0]; exact q1
        have EL := hid (show hkLineB x.data.toList = (signB x[0].toNat && lineB (x.extract 1 x.size).data.toList) by rw [str_cons hp]; rfl)
        have z1 : (x.extract 1 x.size).size ≤ maxLen := by rw [ByteArray.size_extract]; unfold maxLen; omega
        cases hx : signB x[0].toNat
        · have E := hid (unhid HBad (by rw [unhid EL, hx]; rfl))
          obtain ⟨⟨s1, s2⟩, s3⟩ := sign_cases hx
          clear hx EL
          go_wp2_with fail
          go_ret
          exact ⟨by rw [unhid E]; rfl, unhid HA⟩
        · have EL2 := hid (show hkLineB x.data.toList = lineB (x.extract 1 x.size).data.toList by rw [unhid EL, hx]; rfl)
          have hor := sign_some hx
          clear hx EL
          cases hy : lineB (x.extract 1 x.size).data.toList
          · have E := hid (unhid HBad (by rw [unhid EL2, hy]))
            have HY := hid hy
            clear hy EL2
            rcases hor with s1 | ⟨s1, s2⟩ | ⟨s1, s2, s3⟩
            all_goals
              go_wp2_with fail
              refine (l5Seen_any _ z1 _).mono ?_
              rintro e w1 ⟨rfl, rfl⟩
              rw [unhid HY]
              go_wp2_with fail
              go_ret
              exact ⟨by rw [unhid E]; rfl, unhid HA⟩
          · have E := hid (show linesB (xs.take (k + 1)) = true by rw [unhid HS, unhid hall, unhid EL2, hy]; rfl)
            have HY := hid hy
            clear hy EL2
            rcases hor with s1 | ⟨s1, s2⟩ | ⟨s1, s2, s3⟩
            all_goals
              go_wp2_with fail
              refine (l5Seen_any _ z1 _).mono ?_
              rintro e w1 ⟨rfl, rfl⟩
              rw [unhid HY]
              go_wp2_with fail
              refine ⟨⟨k + 1, by omega, by go_num, E⟩, by simp [intOf]; omega⟩
    · have e : k = xs.length := by omega
      subst e
      have hL := unhid hall
      rw [List.take_of_length_le (Nat.le_refl _)] at hL
      have E := hid (show (hkB ⟨at_, xs⟩ && decide (1 ≤ at_)) = ((decide ((1 : Int) ≤ xs.length) && decide ((xs.length : Int) ≤ 30)) && (decide (1 ≤ at_) && decide (at_ ≤ 999))) by
        unfold hkB; rw [hL]
        have a1 : decide (0 < xs.length) = decide ((1 : Int) ≤ xs.length) := by simp; omega
        have a2 : decide (xs.length ≤ 30) = decide ((xs.length : Int) ≤ 30) := by simp; omega
        dsimp only
        rw [a1, a2]
        cases decide ((1 : Int) ≤ xs.length) <;> cases decide ((xs.length : Int) ≤ 30) <;> cases decide (1 ≤ at_) <;> cases decide (at_ ≤ 999) <;> rfl)
      clear hL
      go_wp2_with fail
      refine (l1In_any _ _ _ _).mono ?_
      rintro e w1 ⟨rfl, rfl⟩
      cases hx : (decide ((1 : Int) ≤ xs.length) && decide ((xs.length : Int) ≤ 30))
      · rw [hx] at E
        clear hx
        go_wp2_with fail
        go_ret
        exact ⟨by rw [unhid E]; rfl, unhid HA⟩
      · rw [hx] at E
        clear hx
        go_wp2_with fail
        refine (l1In_any _ _ _ _).mono ?_
        rintro e w1 ⟨rfl, rfl⟩
        go_wp2_with fail
        go_ret
        exact ⟨by rw [unhid E]; rfl, unhid HA⟩
end Go.Proofs.Ytedimkcnemhhpaa

/- Whether hunks are ok, by the program. -/
namespace Go.Proofs.Ytedimkcnemhhpaa
open Go.RowKit Go.Shelf

def hkFn (hs : List Hk) (i : Nat) : Hk := hs.getD i ⟨0, []⟩
theorem hkFn_get {hs : List Hk} {i : Nat} {h : Hk} (e : hs[i]? = some h) : hkFn hs i = h := by unfold hkFn; rw [List.getD_eq_getElem?_getD, e]; rfl
def endH (h : Hk) : Int := h.at_ + (withX 45 h.lines).length
def lst (hs : List Hk) : Nat → Int
  | 0 => 1
  | k + 1 => endH (hkFn hs k)
def okAt (hs : List Hk) (i : Nat) : Bool := hkB (hkFn hs i) && decide (lst hs i ≤ (hkFn hs i).at_)
def hunksB (hs : List Hk) : Bool := (List.range hs.length).all (okAt hs) && decide ((hs.length : Int) ≤ 4)
theorem lst_pos (hs : List Hk) : ∀ k, (List.range k).all (okAt hs) = true → 1 ≤ lst hs k
  | 0, _ => by simp [lst]
  | k + 1, h => by
    rw [List.range_succ, List.all_append, Bool.and_eq_true] at h
    have ih := lst_pos hs k h.1
    have h2 := h.2
    simp only [List.all_cons, List.all_nil, Bool.and_true, okAt, Bool.and_eq_true, decide_eq_true_eq] at h2
    show 1 ≤ endH (hkFn hs k)
    unfold endH
    omega
theorem no_hunks {hs : List Hk} {k : Nat} (hk : k < hs.length) (h : okAt hs k = false) : hunksB hs = false := by
  unfold hunksB; rw [List.all_eq_false.2 ⟨k, List.mem_range.2 hk, by simp [h]⟩]; rfl
theorem all_snocH {hs : List Hk} {k : Nat} (ha : (List.range k).all (okAt hs) = true) (h : okAt hs k = true) : (List.range (k + 1)).all (okAt hs) = true := by rw [List.range_succ, List.all_append, ha]; simp [h]
theorem ownsRow_sliceX {W : World} {base : Nat} {e : TypeId} {size : Nat} {v : Value} {n : Nat} {xs : List Value} (h : W.ownsRow base e size v n xs) : ∃ a cap, v = .slice a n cap := by
  rcases h.2 with ⟨rfl, rfl⟩ | ⟨g, cap, cur, rfl, _⟩
  · exact ⟨_, _, rfl⟩
  · exact ⟨_, _, rfl⟩
theorem hkB_parts {h : Hk} (x : hkB h = true) : h.at_ ≤ 999 ∧ h.lines.length ≤ 30 ∧ linesB h.lines = true := by
  unfold hkB at x
  simp only [Bool.and_eq_true, decide_eq_true_eq] at x
  exact ⟨x.1, x.2.2.1, x.2.2.2⟩

set_option maxRecDepth 100000 in
set_option maxHeartbeats 4000000 in
theorem HunksOk_any (hs : List Hk) (a : Option Addr) (cap : Nat) (w : World) (hlen : hs.length ≤ maxLen) (hz : bigH hs) (h : HksAt w a hs) :
    Calls Try.prog 18 #[.slice a hs.length cap] w fun e w' => e = .returned (.bool (hunksB hs)) ∧ Below w.heap.size w w' := by
  unfold maxLen at hlen
  have HZ := hid hz
  have HH := hid h
  clear hz h
  go_enter Try.func18, Try.ntmps18
  go_wp2_with fail
  go_loopw [3, 8] (fun l i wr => ∃ k : Nat, k ≤ hs.length ∧ i = .int .i64 k ∧ l = .int .i64 (lst hs k) ∧ Hid ((List.range k).all (okAt hs) = true) ∧ Below w.heap.size w wr) (fun _ i _ => hs.length - (intOf i).toNat)
  case atStart => exact ⟨0, Nat.zero_le _, rfl, rfl, hid rfl, Below.refl _ _⟩
  case round =>
    obtain ⟨k, hk, rfl, rfl, hall, hB⟩ := hrel
    by_cases hlt : k < hs.length
    · obtain ⟨e, he⟩ : ∃ e, hs[k]? = some e := ⟨hs[k], List.getElem?_eq_getElem hlt⟩
      obtain ⟨b, o, rfl, hbl, hc⟩ := (unhid HH).get (by intro e; subst e; simp at hlt)
      obtain ⟨la, lc, c0, c1, ht⟩ := (hc k e he).below hB hbl
      obtain ⟨z1, z2⟩ := unhid HZ e (List.mem_of_getElem? he)
      have HF := hid (hkFn_get he)
      have HP := hid (lst_pos hs k (unhid hall))
      have HB := hid hB
      have HT := hid ht
      have Z1 := hid z1
      have Z2 := hid z2
      have HN := hid (fun x => no_hunks (hs := hs) hlt x)
      have hok : okAt hs k = (hkB e && decide (lst hs k ≤ e.at_)) := by unfold okAt; rw [unhid HF]
      have HOk := hid hok
      have HE := hid (show lst hs (k + 1) = endH e by show endH (hkFn hs k) = _; rw [unhid HF])
      have HW := hid (show Below wr.heap.size wr (wr.alloc (.cells #[.int .i64 e.at_, .slice la e.lines.length lc] 46)) from (Below.refl _ wr).alloc (Nat.le_refl _) _)
      have TW := hid (twoAt_new wr e.at_ (.slice la e.lines.length lc) 46)
      have hsz : wr.heap.size < (wr.alloc (.cells #[.int .i64 e.at_, .slice la e.lines.length lc] 46)).heap.size := by simp
      have HSZ := hid hsz
      clear hc hB he ht z1 z2 hok hsz
      generalize lst hs k = L at *
      by_cases hL : e.at_ < L
      · have E := hid (unhid HN (by rw [unhid HOk, decide_eq_false (by omega), Bool.and_false]))
        go_wp2_with fail
        go_ret
        exact ⟨by rw [unhid E]; rfl, (unhid HB).trans ((unhid HW).mono (unhid HB).size)⟩
      · go_wp2_with fail
        refine (hunkOk_any e la lc _ (unhid Z2) (unhid Z1) ((unhid HT).below (unhid HW))).mono ?_
        rintro r w2 ⟨rfl, hb⟩
        have HW2 := hid ((unhid HW).trans (hb.mono (unhid HW).size))
        have TW2 := hid ((unhid TW).below hb (unhid HSZ))
        have HSZ2 := hid (Nat.lt_of_lt_of_le (unhid HSZ) hb.size)
        clear hb HW TW HSZ c0 c1
        cases hx : hkB e
        · have E := hid (unhid HN (by rw [unhid HOk, hx]; rfl))
          go_wp2_with fail
          go_ret
          exact ⟨by rw [unhid E]; rfl, (unhid HB).trans ((unhid HW2).mono (unhid HB).size)⟩
        · have hall2 := hid (all_snocH (unhid hall) (by rw [unhid HOk, hx, decide_eq_true (by omega)]; rfl))
          obtain ⟨y1, y2, y3⟩ := hkB_parts hx
          have HY := hid (fun x hx => And.intro (linesB_pos y3 x hx) (unhid Z1 x hx))
          have y4 : (withX 45 e.lines).length ≤ 30 := Nat.le_trans (withX_len _ _) y2
          have y5 := unhid HP
          clear y3 hx
          obtain ⟨⟨d0, _⟩, d1, _⟩ := unhid TW2
          have HEn := hid (show endH e = e.at_ + (withX 45 e.lines).length from rfl)
          go_wp2_with fail
          go_region_with (go_at_call 49; refine (elderLines_any e la lc _ (by omega) (unhid HY) ((unhid HT).below ((unhid HW2).trans (drew_belowX _)))).mono ?_; rintro r w3 ⟨v, rfl, ho, hb⟩; obtain ⟨va, vc, rfl⟩ := ownsRow_sliceX ho; have HW3 := hid (((unhid HW2).trans (drew_belowX _)).trans (hb.mono (unhid HW2).size)); obtain ⟨⟨d0, _⟩, d1, _⟩ := ((unhid TW2).below (drew_belowX (B := w2.heap.size) w2) (unhid HSZ2)).below hb (unhid HSZ2); clear hb ho)
          all_goals
            go_wp2_with fail
            go_roundw
            case rel => exact ⟨k + 1, by omega, by go_num, by rw [unhid HE, unhid HEn], hall2, (unhid HB).trans ((unhid HW3).mono (unhid HB).size)⟩
            case measure => simp [intOf]; omega
    · have e : k = hs.length := by omega
      subst e
      have E := hid (show hunksB hs = decide ((hs.length : Int) ≤ 4) by unfold hunksB; rw [unhid hall, Bool.true_and])
      go_wp2_with fail
      go_ret
      exact ⟨by rw [unhid E]; rfl, hB⟩
end Go.Proofs.Ytedimkcnemhhpaa

/- Rows of texts one behind the other, in one. -/
namespace Go.Proofs.Ytedimkcnemhhpaa
open Go.RowKit Go.Shelf

theorem wp_append_run {P : Program} {ops : Array Oper} {rest : List Oper} {o : Oper} {a : Act} {w : World} {Q : Exit → Act → World → Prop} (hgd : o.guard = none) (s x : Operand) (t1 t2 : TypeId) (ho : o.op = .call { callee := .builtin .append, args := #[s, x], argTypes := #[t1, t2] })
    (v u v' : Value) (w' : World) (hs : a.eval s = v) (hx : a.eval x = u) (hr : (Builtin.append_ #[t1, t2] o.type #[v, u]).run P w = .ok v' w') (hk : wpList P ops Q rest (a.put o.dst v') w') : wpList P ops Q (o :: rest) a w := by
  refine wpList_plain hgd fun K hK => ?_
  unfold Oper.wp execOp
  simp only [ho, resolve, invoke, builtin, Sem.run_bind, Sem.run_pure, Result.andThen_ok, List.map_toArray, List.map_cons, List.map_nil, hs, hx, hr]
  exact hK _ _ hk
theorem zeroCells_size (z : Value) (n : Nat) : (Builtin.zeroCells #[z] n).size = n := by simp [Builtin.zeroCells]
theorem drew_alloc_below (w : World) (o : Obj) : Below w.heap.size w (w.drew.alloc o) := (drew_belowX w).alloc (Nat.le_refl _) o

set_option maxRecDepth 100000 in
set_option maxHeartbeats 1000000 in
theorem slicesGrow_nil (n : Nat) (w : World) (hn : n ≤ 1048576) :
    Calls Try.prog 88 #[.slice none 0 0, .int .i64 (n : Int)] w fun r w' => ∃ v, r = .returned v ∧ w'.ownsRow w.heap.size 9 1 v 0 [] ∧ Below w.heap.size w w' := by
  by_cases h0 : n = 0
  · subst h0
    go_enter Try.func88, Try.ntmps88
    go_wp2_with fail
    go_ret
    exact ⟨_, rfl, World.ownsRow_nil _ _ _ _, Below.refl _ _⟩
  · obtain ⟨i0, hi, hz0, hz1, hz2⟩ := info_parts infoTxt
    have hp : (0 : Int) < (n : Int) := by omega
    have hr := fun ty => Lib.run_append_nil_zeros (P := Try.prog) w 29 3 ty 9 i0 (.string ⟨#[]⟩) .i64 .i64 Try.underlying29 Try.underlying3 hi hz0 n (by omega) (by rw [hz1]; decide) (by omega) (by rw [hz2]; omega)
    have hge := grownCap_ge w n 0 9
    have hle := grownCap_le_maxLen w n 0 9 (by unfold maxLen; omega)
    have h1 := fun w => sub_h none 0 0 0 (Nat.le_refl _) w
    have HO : Hid (∀ W : World, ∀ cs : Array Value, cs.size = grownCap w n 0 9 → w.heap.size ≤ W.heap.size → (W.alloc (.cells cs 9)).ownsRow w.heap.size 9 1 (.slice (some ⟨W.heap.size, 0, none⟩) 0 (grownCap w n 0 9)) 0 []) := hid (fun W cs hs hw => ⟨rfl, .inr ⟨W.heap.size, _, cs, rfl, hw, World.alloc_heap_new _ _, Nat.zero_le _, hle, by rw [hs, Nat.mul_one], by simp⟩⟩)
    have HZ := hid (show (Builtin.zeroCells (Value.string ⟨#[]⟩).cells n ++ Builtin.zeroCells (Value.string ⟨#[]⟩).cells (grownCap w n 0 9 - n)).size = grownCap w n 0 9 by
      rw [Array.size_append]; show (Builtin.zeroCells #[_] n).size + (Builtin.zeroCells #[_] _).size = _; rw [zeroCells_size, zeroCells_size]; omega)
    have HB := hid (drew_alloc_below w (.cells (Builtin.zeroCells (Value.string ⟨#[]⟩).cells n ++ Builtin.zeroCells (Value.string ⟨#[]⟩).cells (grownCap w n 0 9 - n)) 9))
    have HF := hid (And.intro (unhid HO w.drew _ (unhid HZ) (Nat.le_refl _)) (unhid HB))
    clear HO HZ HB
    generalize w.drew.alloc (.cells (Builtin.zeroCells (Value.string ⟨#[]⟩).cells n ++ Builtin.zeroCells (Value.string ⟨#[]⟩).cells (grownCap w n 0 9 - n)) 9) = W2 at *
    have hdz : w.drew.heap.size = w.heap.size := rfl
    rw [hdz] at HF
    generalize grownCap w n 0 9 = c at *
    have HR := hid hr
    clear hr
    have h2 := fun w' => sub_h (some ⟨w.heap.size, 0, none⟩) n c 0 (Nat.zero_le _) w'
    go_enter Try.func88, Try.ntmps88
    go_wp2_with (at_builtin; refine wp_append_run rfl _ _ _ _ rfl _ _ _ _ rfl rfl (unhid HR _) ?_)
    go_wp2_with fail
    go_ret
    exact ⟨_, rfl, (unhid HF).1, (unhid HF).2⟩

/-- A row of rows of texts. -/
structure Slc where
  a : Option Addr
  cap : Nat
  xs : List ByteArray
def Slc.val (s : Slc) : Value := .slice s.a s.xs.length s.cap
def Slc.Ok (W : World) (s : Slc) : Prop := TxtsAt W s.a s.xs ∧ (s.a = none → s.cap = 0)
theorem Slc.Ok.below {W W' : World} {s : Slc} (h : s.Ok W) (hb : Below W.heap.size W W') : s.Ok W' := ⟨h.1.below hb, h.2⟩
def SlcsAt (W : World) (b : Nat) (L : List Slc) : Prop := b < W.heap.size ∧ ∀ (i : Nat) s, L[i]? = some s → W.cell? ⟨b, i, none⟩ = some s.val ∧ s.Ok W
theorem SlcsAt.below {W W' : World} {b : Nat} {L : List Slc} (h : SlcsAt W b L) (hb : Below W.heap.size W W') : SlcsAt W' b L :=
  ⟨Nat.lt_of_lt_of_le h.1 hb.size, fun i s hi => ⟨(hb.cell (p := ⟨b, i, none⟩) h.1).trans (h.2 i s hi).1, (h.2 i s hi).2.below hb⟩⟩
def allX (L : List Slc) : List ByteArray := L.flatMap Slc.xs
theorem allX_take (L : List Slc) (k : Nat) (s : Slc) (h : L[k]? = some s) : allX (L.take (k + 1)) = allX (L.take k) ++ s.xs := by
  unfold allX; rw [List.take_add_one, h, List.flatMap_append]; simp
theorem allX_le (L : List Slc) (k : Nat) : (allX (L.take k)).length ≤ (allX L).length := by
  have : L = L.take k ++ L.drop k := (List.take_append_drop k L).symm
  conv => rhs; rw [this]
  unfold allX; rw [List.flatMap_append, List.length_append]; omega

set_option maxRecDepth 100000 in
set_option maxHeartbeats 2000000 in
theorem slicesConcat_any (L : List Slc) (b cap : Nat) (w : World) (hl : L.length ≤ 1048576) (ht : (allX L).length ≤ 1048576) (h : SlcsAt w b L) :
    Calls Try.prog 57 #[.slice (some ⟨b, 0, none⟩) L.length cap] w fun r w' => ∃ v, r = .returned v ∧ w'.ownsRow w.heap.size 9 1 v (allX L).length ((allX L).map Value.string) ∧ Below w.heap.size w w' := by
  have H := hid h
  clear h
  go_enter Try.func57, Try.ntmps57
  go_wp2_with fail
  go_loop [3, 11] (fun t i => ∃ k : Nat, k ≤ L.length ∧ i = .int .i64 k ∧ t = .int .i64 ((allX (L.take k)).length : Nat)) (fun _ i => L.length - (intOf i).toNat)
  case atStart => exact ⟨0, Nat.zero_le _, rfl, rfl⟩
  case round =>
    obtain ⟨k, hk, rfl, rfl⟩ := hrel
    have hle := allX_le L k
    by_cases hlt : k < L.length
    · obtain ⟨s, hs⟩ : ∃ s, L[k]? = some s := ⟨L[k], List.getElem?_eq_getElem hlt⟩
      obtain ⟨c0, hok⟩ := (unhid H).2 k s hs
      have E := hid (allX_take L k s hs)
      have hle2 := allX_le L (k + 1)
      rw [unhid E, List.length_append] at hle2
      unfold Slc.val at c0
      clear hok hs
      generalize hgt : (allX (L.take k)).length = t at *
      have HT := hid hgt
      clear hgt
      have hnn : ¬ ((t : Int) + (s.xs.length : Int) < 0) := by omega
      go_wp2_with fail
      exact ⟨⟨k + 1, by omega, by go_num, by rw [unhid E, List.length_append, unhid HT]; go_num⟩, by simp [intOf]; omega⟩
    · have e : k = L.length := by omega
      subst e
      rw [List.take_of_length_le (Nat.le_refl _)]
      go_wp2_with fail
      refine (slicesGrow_nil _ w ht).mono ?_
      rintro r w1 ⟨v, rfl, hown, hb⟩
      have HB1 := hid hb
      have H1 := hid ((unhid H).below hb)
      have HO1 := hid hown
      clear hb hown hle
      obtain ⟨va, vc, rfl⟩ : ∃ a c, v = .slice a 0 c := by
        rcases (unhid HO1).2 with ⟨rfl, _⟩ | ⟨g, cap, cur, rfl, _⟩
        · exact ⟨_, _, rfl⟩
        · exact ⟨_, _, rfl⟩
      go_wp2_with fail
      go_loopw [6, 27] (fun o i wr => ∃ (k : Nat) (ad : Option Addr) (cp : Nat), k ≤ L.length ∧ i = .int .i64 k ∧ o = .slice ad (allX (L.take k)).length cp ∧ Hid (wr.ownsRow w.heap.size 9 1 (.slice ad (allX (L.take k)).length cp) (allX (L.take k)).length ((allX (L.take k)).map Value.string)) ∧ Hid (Below w.heap.size w wr) ∧ Hid (SlcsAt wr b L)) (fun _ i _ => L.length - (intOf i).toNat)
      case atStart => exact ⟨0, va, vc, Nat.zero_le _, rfl, rfl, HO1, HB1, H1⟩
      case round =>
        clear H1 HB1 HO1
        obtain ⟨k, ad, cp, hk, rfl, rfl, HO, HB, HS⟩ := hrel
        by_cases hlt : k < L.length
        · obtain ⟨s, hs⟩ : ∃ s, L[k]? = some s := ⟨L[k], List.getElem?_eq_getElem hlt⟩
          obtain ⟨c0, hok⟩ := (unhid HS).2 k s hs
          have E := hid (allX_take L k s hs)
          have hle2 := allX_le L (k + 1)
          rw [unhid E, List.length_append] at hle2
          unfold Slc.val at c0
          have HOK := hid hok
          have hwl := (unhid HB).size
          clear hok hs
          generalize allX (L.take k) = ys at *
          go_wp2_with (at_builtin; refine wp_app rfl _ _ rfl w.heap.size _ ys s.xs s.a s.cap rfl rfl (unhid HO) (unhid HOK).1 (unhid HOK).2 ?c1 hwl ?_)
          case c1 => omega
          intro v' w2 hown hg hat
          obtain ⟨va2, vc2, hv2⟩ := ownsRow_sliceX hown
          subst hv2
          have hbl := (unhid HS).1
          have hbw : b < w.heap.size := (unhid H).1
          have HB2 := hid ((unhid HB).grown hg hwl (fun j e => ((unhid HO).lt j e).1))
          have HS2 := hid ((unhid H).below (unhid HB2))
          have HO2 := hid hown
          clear hown hg hat hbl
          go_wp2_with fail
          go_roundw
          case rel => exact ⟨k + 1, va2, vc2, by omega, by go_num, by rw [unhid E, List.length_append], by rw [unhid E, List.length_append, List.map_append]; exact HO2, HB2, HS2⟩
          case measure => simp [intOf]; omega
        · have e : k = L.length := by omega
          subst e
          rw [List.take_of_length_le (Nat.le_refl _)] at HO ⊢
          go_wp2_with fail
          go_ret
          exact ⟨_, rfl, unhid HO, unhid HB⟩
end Go.Proofs.Ytedimkcnemhhpaa
