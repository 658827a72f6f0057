/- Texts of this proof, one behind the other; each says at its head what it shows. -/
import Derived.Test.YtoihhlkidlapmaaGreatJoin5
import Derived.Test.YtoihhlkidlapmaaGreatJoin13
import Derived.Test.YtoihhlkidlapmaaGreatJoin9
import Derived.Test.YtoihhlkidlapmaaGreatJoin12
import Derived.Test.YtoihhlkidlapmaaGreatJoin8
import Derived.Test.YtoihhlkidlapmaaGreatJoin11
import Derived.Test.YtoihhlkidlapmaaGreatJoin1
import Derived.Maps.AppendAt
namespace Go.Proofs.YtoihhlkidlapmaaGreat
open Go.RowKit
def wpAnyF (kl : Nat) (P : Program) (md : Region.Mode) (ops : Array Oper) (Q : Exit → Act → World → Prop) (S : World → Prop) : Nat → Array Bool → Act → World → Prop
  | 0, listed, a, w => Region.ready md ops listed = [] ∧ Q .normal a w
  | fuel + 1, listed, a, w =>
    (Region.ready md ops listed = [] → Q .normal a w) ∧
    ∀ i ∈ Region.ready md ops listed, wpOp P ops Q i (fun a' w' => (i ≠ kl → listed.getD kl true = false → S w') ∧ wpAnyF kl P md ops Q S fuel (listed.setIfInBounds i true) a' w') a w
theorem wpAny_of_heldF {kl : Nat} {P : Program} {ops : Array Oper} {Q : Exit → Act → World → Prop} {md : Region.Mode} {S : World → Prop} : ∀ (fuel : Nat) (listed : Array Bool) (a : Act) (w : World), wpAnyF kl P md ops Q S fuel listed a w → wpAny P md ops Q fuel listed a w
  | 0, _, _, _, h => h
  | fuel + 1, _, _, _, h => ⟨h.1, fun i hi => wpOp_mono (fun a' w' h' => wpAny_of_heldF fuel _ a' w' h'.2) (h.2 i hi)⟩
theorem getD_set_self {l : Array Bool} {k : Nat} : (l.setIfInBounds k true).getD k true = true := by
  rcases Nat.lt_or_ge k l.size with h | h
  · simp [h]
  · simp [Array.getD]
theorem wpAnyF_first {kl : Nat} {P : Program} {ops : Array Oper} {Q : Exit → Act → World → Prop} {md : Region.Mode} {S : World → Prop} {i : Nat} {oi : Oper} {v : Value} (hi : ops[i]? = some oi) (hsel : ∀ (j : Nat) (o : Oper) cs b, ops[j]? = some o → o.op ≠ .select cs b)
    (hQ : ∀ c a w, Q (.panic c) (a.put oi.dst v) w → Q (.panic c) a w) (hkl : waitsB md ops kl i = true) :
    ∀ (fuel : Nat) (listed : Array Bool) (a : Act) (w : World),
      (∀ j oj, ops[j]? = some oj → j ≠ i → listed.getD j true = false → (∀ e ∈ oj.after, Region.binds md e = true → e.on ≠ i) → oi.apart ops oj = true) →
      i ∈ Region.ready md ops listed → listed.getD kl true = false → YieldsIf P ops S oi v a → S w →
      wpAnyF kl P md ops Q S fuel (listed.setIfInBounds i true) (a.put oi.dst v) w → wpAnyF kl P md ops Q S (fuel + 1) listed a w := by
  intro fuel
  induction fuel with
  | zero =>
    intro listed a w _ hr _ hy hS H
    refine ⟨fun h => (by rw [h] at hr; cases hr), fun j hj => ?_⟩
    by_cases hji : j = i
    · subst hji; exact hy.wpOp hi hS ⟨fun _ _ => hS, H⟩
    · have := ready_mono hj hji
      rw [H.1] at this
      cases this
  | succ fuel ih =>
    intro listed a w hfree hr hk0 hy hS H
    refine ⟨fun h => (by rw [h] at hr; cases hr), fun j hj => ?_⟩
    by_cases hji : j = i
    · subst hji; exact hy.wpOp hi hS ⟨fun _ _ => hS, H⟩
    · have hjk : j ≠ kl := fun e => waits_not hkl hr (e ▸ hj)
      have hik : i ≠ kl := fun e => waits_not hkl hr (e ▸ hr)
      have h1 := H.2 j (ready_mono hj hji)
      obtain ⟨hjun, oj, hoj, hall⟩ := mem_ready.1 hj
      have hnot : ∀ e ∈ oj.after, Region.binds md e = true → e.on ≠ i := fun e he hb heq => by
        have h1 := hall e he hb
        have h0 := (mem_ready.1 hr).1
        rw [heq] at h1
        rcases Nat.lt_or_ge i listed.size with h' | h'
        · simp [h'] at h0 h1; rw [h0] at h1; cases h1
        · simp [Array.getElem?_eq_none h'] at h1
      have h2 := wpOp_putIf hoj (hfree j oj hoj hji hjun hnot) (fun cs b => hsel i oi cs b hi) (fun cs b => hsel j oj cs b hoj) hQ hy h1
      have hfree' : ∀ k ok, ops[k]? = some ok → k ≠ i → (listed.setIfInBounds j true).getD k true = false →
          (∀ e ∈ ok.after, Region.binds md e = true → e.on ≠ i) → oi.apart ops ok = true := fun k ok hk hki hun hno => by
        refine hfree k ok hk hki ?_ hno
        by_cases hjk : j = k
        · subst hjk; exact hjun
        · rw [getD_set_ne true hjk] at hun; exact hun
      have hSj : ∀ w', ((j ≠ kl → (listed.setIfInBounds i true).getD kl true = false → S w') → S w') := fun w' h => h hjk (by rw [getD_set_ne true hik]; exact hk0)
      refine wpOp_mono (fun a' w' h3 => ⟨fun _ _ => hSj w' h3.2.1, ih (listed.setIfInBounds j true) a' w' hfree' (ready_mono hr (Ne.symm hji)) (by rw [getD_set_ne true hjk]; exact hk0) h3.1 (hSj w' h3.2.1) ?_⟩) h2
      rw [Array.setIfInBounds_comm _ _ hji]
      exact h3.2.2
theorem wpAnyF_pure {kl : Nat} {P : Program} {ops : Array Oper} {Q : Exit → Act → World → Prop} {md : Region.Mode} {S T : World → Prop} (hT : ∀ w, T w) {i : Nat} {oi : Oper} {v : Value} (hi : ops[i]? = some oi) (hsel : ∀ (j : Nat) (o : Oper) cs b, ops[j]? = some o → o.op ≠ .select cs b)
    (hQ : ∀ c a w, Q (.panic c) (a.put oi.dst v) w → Q (.panic c) a w) (hik : i ≠ kl) :
    ∀ (fuel : Nat) (listed : Array Bool) (a : Act) (w : World),
      (∀ j oj, ops[j]? = some oj → j ≠ i → listed.getD j true = false → (∀ e ∈ oj.after, Region.binds md e = true → e.on ≠ i) → oi.apart ops oj = true) →
      i ∈ Region.ready md ops listed → YieldsIf P ops T oi v a → (listed.getD kl true = false → S w) →
      wpAnyF kl P md ops Q S fuel (listed.setIfInBounds i true) (a.put oi.dst v) w → wpAnyF kl P md ops Q S (fuel + 1) listed a w := by
  intro fuel
  induction fuel with
  | zero =>
    intro listed a w _ hr hy hS H
    refine ⟨fun h => (by rw [h] at hr; cases hr), fun j hj => ?_⟩
    by_cases hji : j = i
    · subst hji; exact hy.wpOp hi (hT w) ⟨fun _ => hS, H⟩
    · have := ready_mono hj hji
      rw [H.1] at this
      cases this
  | succ fuel ih =>
    intro listed a w hfree hr hy hS H
    refine ⟨fun h => (by rw [h] at hr; cases hr), fun j hj => ?_⟩
    by_cases hji : j = i
    · subst hji; exact hy.wpOp hi (hT w) ⟨fun _ => hS, H⟩
    · have h1 := H.2 j (ready_mono hj hji)
      obtain ⟨hjun, oj, hoj, hall⟩ := mem_ready.1 hj
      have hnot : ∀ e ∈ oj.after, Region.binds md e = true → e.on ≠ i := fun e he hb heq => by
        have h1 := hall e he hb
        have h0 := (mem_ready.1 hr).1
        rw [heq] at h1
        rcases Nat.lt_or_ge i listed.size with h' | h'
        · simp [h'] at h0 h1; rw [h0] at h1; cases h1
        · simp [Array.getElem?_eq_none h'] at h1
      have h2 := wpOp_putIf hoj (hfree j oj hoj hji hjun hnot) (fun cs b => hsel i oi cs b hi) (fun cs b => hsel j oj cs b hoj) hQ hy h1
      have hfree' : ∀ k ok, ops[k]? = some ok → k ≠ i → (listed.setIfInBounds j true).getD k true = false →
          (∀ e ∈ ok.after, Region.binds md e = true → e.on ≠ i) → oi.apart ops ok = true := fun k ok hk hki hun hno => by
        refine hfree k ok hk hki ?_ hno
        by_cases hjk : j = k
        · subst hjk; exact hjun
        · rw [getD_set_ne true hjk] at hun; exact hun
      refine wpOp_mono (fun a' w' h3 => ⟨fun hjk hf => h3.2.1 hjk (by rw [getD_set_ne true hik]; exact hf), ih (listed.setIfInBounds j true) a' w' hfree' (ready_mono hr (Ne.symm hji)) h3.1 (fun hf => ?_) ?_⟩) h2
      · by_cases hjk : j = kl
        · subst hjk; rw [getD_set_self] at hf; cases hf
        · rw [getD_set_ne true hjk] at hf
          exact h3.2.1 hjk (by rw [getD_set_ne true hik]; exact hf)
      · rw [Array.setIfInBounds_comm _ _ hji]
        exact h3.2.2
def heldPB (kl : Nat) (md : Region.Mode) (ops : Array Oper) : List Nat → Array Bool → Bool
  | [], _ => true
  | i :: is, listed => (Region.ready md ops listed).contains i && Region.free md ops listed i && ((ops[i]?).map plainOp).getD false && !(i == kl) && heldPB kl md ops is (listed.setIfInBounds i true)
def openB (kl : Nat) (listed : Array Bool) : Bool := !(listed.getD kl true)
theorem heldF_list {kl : Nat} {P : Program} {md : Region.Mode} {ops : Array Oper} {Q : Exit → Act → World → Prop} {S : World → Prop} (hs : Region.noSelect ops = true) (hQ : ∀ c a t v w, Q (.panic c) (Act.put a (some t) v) w → Q (.panic c) a w) (fuel : Nat) : ∀ (is : List Nat) (l : List Oper) (listed : Array Bool) (a : Act) (w : World), is.map (fun i => ops[i]?) = l.map some → heldEB kl md ops is listed = true → listed.getD kl true = false → S w →
    wpQuiet P ops S (fun a' => wpAnyF kl P md ops Q S fuel (markAll is listed) a' w) l a → wpAnyF kl P md ops Q S (is.length + fuel) listed a w
  | [], [], listed, a, w, _, _, _, _, h => by rw [List.length_nil, Nat.zero_add]; exact h
  | [], _ :: _, _, _, _, e, _, _, _, _ => by cases e
  | _ :: _, [], _, _, _, e, _, _, _, _ => by cases e
  | i :: is, o :: l, listed, a, w, e, hB, hk, hS, h => by
    simp only [List.map_cons, List.cons.injEq] at e
    simp only [heldEB, Bool.and_eq_true] at hB
    obtain ⟨⟨⟨⟨h1, h2⟩, h3⟩, h5⟩, h4⟩ := hB
    rw [e.1] at h3
    obtain ⟨v, hy, hK⟩ := yieldsIf_quiet (by simpa using h3) h
    have hr : i ∈ Region.ready md ops listed := by simpa using h1
    have hik : i ≠ kl := fun e => waits_not h5 hr (e ▸ hr)
    rw [show (i :: is).length + fuel = (is.length + fuel) + 1 by simp; omega]
    exact wpAnyF_first e.1 (Region.noSelect_spec hs) (fun c a w hq => by cases hd : o.dst with | none => rw [hd] at hq; exact hq | some t => rw [hd] at hq; exact hQ _ _ _ _ _ hq) h5 _ _ _ _ (Region.free_spec e.1 h2) hr hk hy hS (heldF_list hs hQ fuel is l _ _ w e.2 h4 (by rw [getD_set_ne true hik]; exact hk) hS hK)
theorem heldF_plist {kl : Nat} {P : Program} {md : Region.Mode} {ops : Array Oper} {Q : Exit → Act → World → Prop} {S T : World → Prop} (hT : ∀ w, T w) (hs : Region.noSelect ops = true) (hQ : ∀ c a t v w, Q (.panic c) (Act.put a (some t) v) w → Q (.panic c) a w) (fuel : Nat) : ∀ (is : List Nat) (l : List Oper) (listed : Array Bool) (a : Act) (w : World), is.map (fun i => ops[i]?) = l.map some → heldPB kl md ops is listed = true → (listed.getD kl true = false → S w) →
    wpQuiet P ops T (fun a' => wpAnyF kl P md ops Q S fuel (markAll is listed) a' w) l a → wpAnyF kl P md ops Q S (is.length + fuel) listed a w
  | [], [], listed, a, w, _, _, _, h => by rw [List.length_nil, Nat.zero_add]; exact h
  | [], _ :: _, _, _, _, e, _, _, _ => by cases e
  | _ :: _, [], _, _, _, e, _, _, _ => by cases e
  | i :: is, o :: l, listed, a, w, e, hB, hS, h => by
    simp only [List.map_cons, List.cons.injEq] at e
    simp only [heldPB, Bool.and_eq_true] at hB
    obtain ⟨⟨⟨⟨h1, h2⟩, h3⟩, h5⟩, h4⟩ := hB
    rw [e.1] at h3
    obtain ⟨v, hy, hK⟩ := yieldsIf_quiet (by simpa using h3) h
    have hik : i ≠ kl := by simpa using h5
    rw [show (i :: is).length + fuel = (is.length + fuel) + 1 by simp; omega]
    exact wpAnyF_pure hT e.1 (Region.noSelect_spec hs) (fun c a w hq => by cases hd : o.dst with | none => rw [hd] at hq; exact hq | some t => rw [hd] at hq; exact hQ _ _ _ _ _ hq) hik _ _ _ _ (Region.free_spec e.1 h2) (by simpa using h1) hy hS (heldF_plist hT hs hQ fuel is l _ _ w e.2 h4 (fun hf => hS (by rwa [getD_set_ne true hik] at hf)) hK)
theorem heldF_begin {P : Program} {id : Nat} {Q : Exit → Act → World → Prop} {a : Act} {w : World} {l : List Oper} (kl : Nat) (C : World → Prop) (hm : P.follows .mixedOrders = true)
    (h : wpAnyF kl P .any l.toArray Q (fun w' => ∃ x : CW C, w' = x.w) l.length (Array.replicate l.length false) a w.drew) : (Code.region id l.toArray true).wp P Q a w :=
  wp_region_any hm (wpAny_of_heldF _ _ _ _ (by simpa using h))
theorem heldF_here {kl : Nat} {P : Program} {md : Region.Mode} {Q : Exit → Act → World → Prop} {C : World → Prop} {F : Nat} {listed : Array Bool} {a : Act} {w : World} {l : List Oper} (m : List Bool) (hs : Region.noSelect l.toArray = true) (hB : (decide (m.length ≤ l.length) && decide ((maskIx 0 m).length ≤ F) && heldEB kl md l.toArray (maskIx 0 m) listed && openB kl listed) = true) (hQ : ∀ c a t v w, Q (.panic c) (Act.put a (some t) v) w → Q (.panic c) a w) (hC : C w)
    (h : wpQuiet P l.toArray (fun w' => ∃ x : CW C, w' = x.w) (fun a' => wpAnyF kl P md l.toArray Q (fun w' => ∃ x : CW C, w' = x.w) (F - (maskIx 0 m).length) (markAll (maskIx 0 m) listed) a' w) (pick l m) a) :
    wpAnyF kl P md l.toArray Q (fun w' => ∃ x : CW C, w' = x.w) F listed a w := by
  simp only [Bool.and_eq_true, decide_eq_true_eq] at hB
  obtain ⟨⟨⟨h1, h2⟩, h3⟩, h4⟩ := hB
  have := heldF_list (P := P) (md := md) (Q := Q) (S := fun w' => ∃ x : CW C, w' = x.w) hs hQ (F - (maskIx 0 m).length) (maskIx 0 m) (pick l m) listed a w (pick_ix l l m 0 h1 (by simp)) h3 (by simpa [openB] using h4) ⟨⟨w, hC⟩, rfl⟩ h
  rwa [show (maskIx 0 m).length + (F - (maskIx 0 m).length) = F by omega] at this
theorem heldF_pure {kl : Nat} {P : Program} {md : Region.Mode} {Q : Exit → Act → World → Prop} {C : World → Prop} {F : Nat} {listed : Array Bool} {a : Act} {w : World} {l : List Oper} (m : List Bool) (hs : Region.noSelect l.toArray = true) (hB : (decide (m.length ≤ l.length) && decide ((maskIx 0 m).length ≤ F) && heldPB kl md l.toArray (maskIx 0 m) listed) = true) (hQ : ∀ c a t v w, Q (.panic c) (Act.put a (some t) v) w → Q (.panic c) a w) (hC : C w)
    (h : wpQuiet P l.toArray (fun w' => ∃ x : CW (fun _ : World => True), w' = x.w) (fun a' => wpAnyF kl P md l.toArray Q (fun w' => ∃ x : CW C, w' = x.w) (F - (maskIx 0 m).length) (markAll (maskIx 0 m) listed) a' w) (pick l m) a) :
    wpAnyF kl P md l.toArray Q (fun w' => ∃ x : CW C, w' = x.w) F listed a w := by
  simp only [Bool.and_eq_true, decide_eq_true_eq] at hB
  obtain ⟨⟨h1, h2⟩, h3⟩ := hB
  have := heldF_plist (P := P) (md := md) (Q := Q) (S := fun w' => ∃ x : CW C, w' = x.w) (T := fun w' => ∃ x : CW (fun _ : World => True), w' = x.w) (fun w => ⟨⟨w, trivial⟩, rfl⟩) hs hQ (F - (maskIx 0 m).length) (maskIx 0 m) (pick l m) listed a w (pick_ix l l m 0 h1 (by simp)) h3 (fun _ => ⟨⟨w, hC⟩, rfl⟩) h
  rwa [show (maskIx 0 m).length + (F - (maskIx 0 m).length) = F by omega] at this
theorem heldF_ready {kl : Nat} {P : Program} {md : Region.Mode} {ops : Array Oper} {Q : Exit → Act → World → Prop} {C : World → Prop} {F : Nat} {listed : Array Bool} {a : Act} {w : World} {o : Oper} (k : Nat) (hr : Region.ready md ops listed = [k]) (hF : decide (0 < F) = true) (ho : ops[k]? = some o)
    (h : ∀ K' : Act → World → Prop, Shut (∀ a w, (k ≠ kl → C w) → wpAnyF kl P md ops Q (fun w' => ∃ x : CW C, w' = x.w) (F - 1) (listed.setIfInBounds k true) a w → K' a w) → if Region.wanted o (yielded ops a.tmps) = true then Oper.wp P o a w K' Q else K' (a.put o.dst undef) w) :
    wpAnyF kl P md ops Q (fun w' => ∃ x : CW C, w' = x.w) F listed a w := by
  have hF' : F = (F - 1) + 1 := by simp only [decide_eq_true_eq] at hF; omega
  rw [hF']
  refine ⟨fun h0 => (by rw [hr] at h0; cases h0), fun i hi => ?_⟩
  rw [hr] at hi
  rcases List.mem_singleton.1 hi with rfl
  exact wpOp_step ho (fun K' hK => h K' (fun a w hS hW => hK a w ⟨fun hne _ => ⟨⟨w, hS hne⟩, rfl⟩, hW⟩))
theorem heldF_op {kl : Nat} {P : Program} {md : Region.Mode} {ops : Array Oper} {Q : Exit → Act → World → Prop} {C : World → Prop} {F : Nat} {listed : Array Bool} {a : Act} {w : World} {o : Oper} (k : Nat) (hr : Region.ready md ops listed = [k]) (hF : decide (0 < F) = true) (ho : ops[k]? = some o)
    (h : ∀ K' : Act → World → Prop, Shut (∀ a w, C w → wpAnyF kl P md ops Q (fun w' => ∃ x : CW C, w' = x.w) (F - 1) (listed.setIfInBounds k true) a w → K' a w) → if Region.wanted o (yielded ops a.tmps) = true then Oper.wp P o a w K' Q else K' (a.put o.dst undef) w) :
    wpAnyF kl P md ops Q (fun w' => ∃ x : CW C, w' = x.w) F listed a w :=
  heldF_ready k hr hF ho (fun K' hK => h K' (fun a w hc hw => hK.out a w (fun _ => hc) hw))
theorem heldF_last {kl : Nat} {P : Program} {md : Region.Mode} {ops : Array Oper} {Q : Exit → Act → World → Prop} {C : World → Prop} {F : Nat} {listed : Array Bool} {a : Act} {w : World} {o : Oper} (hr : Region.ready md ops listed = [kl]) (hF : decide (0 < F) = true) (ho : ops[kl]? = some o)
    (h : ∀ K' : Act → World → Prop, Shut (∀ a w, wpAnyF kl P md ops Q (fun w' => ∃ x : CW C, w' = x.w) (F - 1) (listed.setIfInBounds kl true) a w → K' a w) → if Region.wanted o (yielded ops a.tmps) = true then Oper.wp P o a w K' Q else K' (a.put o.dst undef) w) :
    wpAnyF kl P md ops Q (fun w' => ∃ x : CW C, w' = x.w) F listed a w :=
  heldF_ready kl hr hF ho (fun K' hK => h K' (fun a w hw => hK.out a w (fun hne => absurd rfl hne) hw))
theorem heldF_done {kl : Nat} {P : Program} {md : Region.Mode} {ops : Array Oper} {Q : Exit → Act → World → Prop} {S : World → Prop} {F : Nat} {listed : Array Bool} {a : Act} {w : World} (hr : Region.ready md ops listed = []) (h : Q .normal a w) : wpAnyF kl P md ops Q S F listed a w := by
  cases F with
  | zero => exact ⟨hr, h⟩
  | succ F => exact ⟨fun _ => h, by rw [hr]; simp⟩
end Go.Proofs.YtoihhlkidlapmaaGreat

namespace Go.Proofs.YtoihhlkidlapmaaGreat
open Go.RowKit Go.Shelf
structure DPk (d : packC.D) : Prop where
  small : smallP d
  name : drawn (PackD.name d)
  nice : ∀ e ∈ treeOfP d, niceE e
theorem DQ.pack {w : World} {b : Nat} {a : Option Addr} {len cap q : Nat} {W : World} {name ver : ByteArray} {nv tv : Value} {nL : List (It needC)} {es : List Ent} (h : DQ w b a len cap q W ver nv nL tv es) (hn : drawn name) : DPk (⟨name, ver, itD nL, dEnts es⟩ : PackD) := by
  have hs := drawn_short hn
  have hv : ver.size ≤ 100 := h.ver
  have ht : treeOfP (⟨name, ver, itD nL, dEnts es⟩ : PackD) = es := entsD_back es
  refine ⟨⟨show name.size ≤ 1048576 by omega, show ver.size ≤ 1048576 by omega, ⟨show (itD nL).length ≤ 1048576 by rw [itD_len]; have := h.ln; omega, fun d hd => ?_⟩, ?_⟩, hn, by rw [ht]; exact h.nice⟩
  · have := h.sn d hd
    exact ⟨by omega, by omega⟩
  · show smallE (entsD (dEnts es))
    rw [entsD_back]
    exact ⟨by have := h.few; omega, fun e he => ⟨by have := nice_short (h.nice e he).1; omega, by have : e.text.size ≤ 100 := (h.nice e he).2; omega⟩⟩
structure RQ (w : World) (b : Nat) (a : Option Addr) (len cap q : Nat) (W : World) (v : Value) (L : List (It packC)) : Prop where
  row : NRow packC 34 W (w.heap.size + 1) v L
  ok : ∀ d ∈ itD L, DPk d
  few : L.length ≤ 7
  rd : ∃ p', p' ≤ q ∧ Rd W b a len cap p'
  grown : w.grownBy W (some b)
theorem inP_mem (p : packC.D) (ps : List packC.D) : (inP p ps).length ≤ ps.length + 1 ∧ ∀ x ∈ inP p ps, x = p ∨ x ∈ ps := by
  have hwith : (withP p ps).length ≤ ps.length + 1 ∧ (∀ x ∈ withP p ps, x = p ∨ x ∈ ps) := by
    unfold withP
    refine ⟨by rw [List.length_append, List.length_cons, List.length_take, List.length_drop]; omega, fun x hx => ?_⟩
    rcases List.mem_append.1 hx with hx | hx
    · exact .inr (List.mem_of_mem_take hx)
    · rcases List.mem_cons.1 hx with rfl | hx
      · exact .inl rfl
      · exact .inr (List.mem_of_mem_drop hx)
  have hsame : ps.length ≤ ps.length + 1 ∧ (∀ x ∈ ps, x = p ∨ x ∈ ps) := ⟨by omega, fun x hx => .inr hx⟩
  unfold inP tryP
  split
  · split
    · exact hsame
    · split
      · exact hwith
      · exact hsame
  · exact hsame
theorem nrow_grown {W W' : World} {N b : Nat} {v : Value} {L : List (It packC)} (h : NRow packC 34 W N v L) (hg : W.grownBy W' (some b)) (hb : b < N) : NRow packC 34 W' N v L :=
  h.frame (fun k hk => hg.block k (h.base k hk).2 (by have := (h.base k hk).1; intro e; injection e; omega))
def RI (w : World) (b : Nat) (a : Option Addr) (len cap p k : Nat) (v : Value) (L : List (It packC)) (wr : World) : Prop :=
  wr.heap[w.heap.size]? = some (.cells #[.slice none 0 0] 51 (0, 0)) ∧ wr.heap[w.heap.size + 1]? = some (.cells #[v] 51 (0, 0)) ∧ w.heap.size + 1 < wr.heap.size ∧ NRow packC 34 wr (w.heap.size + 2) v L ∧ (∀ d ∈ itD L, DPk d) ∧ L.length + k ≤ 4 ∧ w.grownBy wr (some b) ∧ ∃ p', p' ≤ p + 1 + (4 - k) * 100 ∧ Rd wr b a len cap p'
set_option maxRecDepth 100000 in
set_option maxHeartbeats 8000000 in
theorem l11Root_any (w : World) (b : Nat) (a : Option Addr) (len cap p : Nat) (h : Rd w b a len cap p) (hp : p ≤ 300000) :
    Calls Tryz.prog 135 #[.pointer (some ⟨b, 0, none⟩)] w fun x w' => ∃ v L, x = .returned (.agg #[v]) ∧ RQ w b a len cap (p + 500) w' v L := by
  have hbl := h.lt
  have hR0 := (two_boxes w (.cells #[.slice none 0 0] 51) (.cells #[.slice none 0 0] 51))
  have H := hid ((h.alloc (.cells #[.slice none 0 0] 51)).alloc (.cells #[.slice none 0 0] 51))
  have hG0 : w.grownBy ((w.alloc (.cells #[.slice none 0 0] 51)).alloc (.cells #[.slice none 0 0] 51)) (some b) := grown_trans (World.grownBy_alloc w _ (some b)) (World.grownBy_alloc _ _ (some b))
  clear h
  go_enter Tryz.func135, Tryz.ntmps135
  go_wp2_with fail
  generalize (w.alloc (.cells #[.slice none 0 0] 51)).alloc (.cells #[.slice none 0 0] 51) = w0 at H hR0 hG0 ⊢
  obtain ⟨hRb0, hX0, hS0⟩ := hR0
  refine (pick_any w0 b a len cap p (unhid H) (by omega) 5 (by omega) (by omega)).mono ?_
  rintro e w1 ⟨m, hm, rfl, hR1, hG1⟩
  have HI := hid (show w1.heap[w.heap.size]? = some (.cells #[.slice none 0 0] 51 (0, 0)) ∧ w1.heap[w.heap.size + 1]? = some (.cells #[.slice none 0 0] 51 (0, 0)) ∧ w.heap.size + 1 < w1.heap.size ∧ w.grownBy w1 (some b) ∧ Rd w1 b a len cap (p + 1) from
    ⟨(hG1.block _ (by omega) (by intro e; injection e; omega)).trans hRb0, (hG1.block _ (by omega) (by intro e; injection e; omega)).trans hX0, Nat.lt_of_lt_of_le hS0 hG1.size, grown_trans hG0 hG1, hR1⟩)
  clear hRb0 hX0 hS0 hG0 hG1 hR1 H
  go_wp2_with fail
  have HR := hid (show RI w b a len cap p m (.slice none 0 0) [] w1 from ⟨(unhid HI).1, (unhid HI).2.1, (unhid HI).2.2.1, NRow.none _ _, (fun d hd => by cases hd), (by simp; omega), (unhid HI).2.2.2.1, p + 1, (by omega), (unhid HI).2.2.2.2⟩)
  clear HI
  go_loopw [4] (fun i wr => ∃ (k : Nat) (v : Value) (L : List (It packC)), k ≤ 4 ∧ i = .int .i64 (k : Int) ∧ Hid (RI w b a len cap p k v L wr)) (fun i _ => (intOf i).toNat)
  case atStart => exact ⟨m, _, [], by omega, rfl, HR⟩
  case round =>
    clear HR
    obtain ⟨k, v, L, hk, rfl, HI⟩ := hrel
    obtain ⟨hRb, hX, hS, hN, hok, hfew, hG, p', hp', hRd⟩ := unhid HI
    obtain ⟨va, vn, vc, rfl⟩ : ∃ a n c, v = .slice a n c := by obtain ⟨a, c, e⟩ := nrow_slice hN; exact ⟨_, _, _, e⟩
    clear HI
    by_cases h0 : k = 0
    · subst h0
      obtain ⟨c0, f0⟩ := cell_fz hX 0 _ rfl
      obtain ⟨o0, r0⟩ := cell_fz hRb 0 _ rfl
      have hBw : Below w.heap.size wr (wr.setCell ⟨w.heap.size, 0, none⟩ (.slice va vn vc)) := (Below.refl _ wr).setCell (p := ⟨w.heap.size, 0, none⟩) (Nat.le_refl _) _
      have HF := hid (show RQ w b a len cap (p + 500) (wr.setCell ⟨w.heap.size, 0, none⟩ (.slice va vn vc)) (.slice va vn vc) L from ⟨NRow.lower (N := w.heap.size + 2) (hN.frame (fun k hk => Below.heap_setCell _ _ _ _ (by have := (hN.base k hk).1; dsimp only; omega))) (by omega), hok, by omega, ⟨p', by omega, Rd.low hRd hBw hbl⟩, grown_low hG hBw⟩)
      clear hX hRb hN hG hRd hBw
      go_wp2_with fail
      exact bodyPost_ret (v := .agg #[.slice va vn vc]) (by simp [results, Tryz.results135, go_sem, World.cell?_setCell_same', o0]) rfl ⟨_, L, rfl, unhid HF⟩
    · have hk0 : (0 : Int) < (k : Int) := by omega
      have hC0 : (fun w' : World => w'.heap[w.heap.size + 1]? = some (.cells #[.slice va vn vc] 51 (0, 0))) wr.drew := hX
      have gp : ∀ x : CW (fun w' : World => w'.heap[w.heap.size + 1]? = some (.cells #[.slice va vn vc] 51 (0, 0))), x.w.cell? ⟨w.heap.size + 1, 0, none⟩ = some (.slice va vn vc) := fun x => cell_arrS x.h 0 _ rfl
      have hba : ∀ {q : Prop}, (CW (fun w' : World => w'.heap[w.heap.size + 1]? = some (.cells #[.slice va vn vc] 51 (0, 0))) → q) ↔ q := CW.all hC0
      go_wp2_with fail
      refine heldF_begin 10 (fun w' : World => w'.heap[w.heap.size + 1]? = some (.cells #[.slice va vn vc] 51 (0, 0))) (by kernel_rfl) ?_
      refine heldF_here [true, true, true] (by kernel_rfl) (by kernel_rfl) (fun _ _ _ _ _ h => h) hC0 ?_
      dsimp only [pick]
      repeat (go_big_quiet_step (fail))
      refine wpQuiet_nil ?_
      have hR5 := hRd.of_below (drew_belowS (B := wr.heap.size) wr)
      have hN5 : NRow packC 34 wr.drew (w.heap.size + 2) (.slice va vn vc) L := hN.frame (fun k _ => rfl)
      have hG5 : w.grownBy wr.drew (some b) := grown_low hG (drew_belowS _)
      have hRb5 : wr.drew.heap[w.heap.size]? = some (.cells #[.slice none 0 0] 51 (0, 0)) := hRb
      have hz5 : w.heap.size + 1 < wr.drew.heap.size := hS
      clear hba gp hX hRb hS hN hG hRd
      generalize wr.drew = w5 at *
      refine heldF_op 3 (by kernel_rfl) (by kernel_rfl) rfl (fun K hK => ?_)
      go_simp
      have hG56 : w5.grownBy (w5.alloc (.cells #[.string ⟨#[111, 110, 101]⟩, .string ⟨#[116, 119, 111]⟩, .string ⟨#[116, 104, 114, 101, 101]⟩, .string ⟨#[122, 105, 112]⟩] 9)) (some b) := World.grownBy_alloc w5 _ (some b)
      have hX6 := (hG56.block (w.heap.size + 1) (by omega) (by intro e; injection e; omega)).trans hC0
      refine hK.out _ _ hX6 ?_
      clear hK K
      have OF := hid (of_any drawn (w5.alloc (.cells #[.string ⟨#[111, 110, 101]⟩, .string ⟨#[116, 119, 111]⟩, .string ⟨#[116, 104, 114, 101, 101]⟩, .string ⟨#[122, 105, 112]⟩] 9)) b a len cap p' (hR5.alloc _) (by omega) w5.heap.size 4 4 (by omega) (by omega) (by omega) (fun k hk => row_drawn _ _ _ _ rfl (by kernel_rfl) k hk))
      generalize w5.alloc (.cells #[.string ⟨#[111, 110, 101]⟩, .string ⟨#[116, 119, 111]⟩, .string ⟨#[116, 104, 114, 101, 101]⟩, .string ⟨#[122, 105, 112]⟩] 9) = w6 at hG56 hX6 OF ⊢
      refine heldF_op 4 (by kernel_rfl) (by kernel_rfl) rfl (fun K hK => ?_)
      refine call_op 57 17 (enters_of Tryz.func57 (by kernel_rfl) rfl) #[.pointer (some ⟨b, 0, none⟩), .slice (some ⟨w5.heap.size, 0, none⟩) 4 4] rfl rfl rfl rfl ?_
      refine (unhid OF).mono ?_
      rintro e w7 ⟨name, hname, rfl, hR7, hG67⟩
      have hG57 := grown_trans hG56 hG67
      have hX7 := (hG67.block (w.heap.size + 1) (by have := hG56.size; omega) (by intro e; injection e; omega)).trans hX6
      have hRb7 := (hG57.block w.heap.size (by omega) (by intro e; injection e; omega)).trans hRb5
      have hN7 := nrow_grown hN5 hG57 (by omega)
      have hG7 := grown_trans hG5 hG57
      have hz7 := Nat.lt_of_lt_of_le hz5 hG57.size
      refine ⟨_, rfl, hK.out _ _ hX7 ?_⟩
      simp only [Act.put, List.setIfInBounds_toArray, List.set_cons_zero, List.set_cons_succ]
      clear hK K OF hG56 hX6 hG67 hG57 hC0 hR5 hN5 hG5 hRb5 hz5
      refine heldF_op 5 (by kernel_rfl) (by kernel_rfl) rfl (fun K hK => ?_)
      refine call_op 154 18 (enters_of Tryz.func154 (by kernel_rfl) rfl) #[.pointer (some ⟨b, 0, none⟩), .string name] rfl rfl rfl rfl ?_
      refine (l11Pack_any w7 b a len cap _ name hR7 (by omega)).mono ?_
      rintro x w8 ⟨ver, nv, nL, tv, ts, rfl, hQ, -⟩
      have hX8 := (hQ.grown.block (w.heap.size + 1) hz7 (by intro e; injection e; omega)).trans hX7
      have hRb8 := (hQ.grown.block w.heap.size (by omega) (by intro e; injection e; omega)).trans hRb7
      have hN8 := nrow_grown hN7 hQ.grown (by omega)
      have hG8 := grown_trans hG7 hQ.grown
      have hz8 := Nat.lt_of_lt_of_le hz7 hQ.grown.size
      obtain ⟨p8, hp8, hR8⟩ := hQ.rd
      have hdp := hQ.pack hname
      obtain ⟨F8, hown8, hf8⟩ := hQ.k.own name ver
      refine ⟨_, rfl, hK.out _ _ hX8 ?_⟩
      simp only [Act.put, List.setIfInBounds_toArray, List.set_cons_zero, List.set_cons_succ]
      clear hK K hX7 hRb7 hN7 hG7 hR7
      have hsm : smallPs (itD L) := ⟨by rw [itD_len]; omega, fun q hq => (hok q hq).small⟩
      refine heldF_op 6 (by kernel_rfl) (by kernel_rfl) rfl (fun K hK => ?_)
      refine call_op 97 19 (enters_of Tryz.func97 (by kernel_rfl) rfl) #[.agg #[.slice va vn vc], .agg #[.string name, .string ver, nv, tv]] rfl rfl rfl rfl ?_
      refine (l9In_any L (.slice va vn vc) (⟨name, ver, itD nL, dEnts ts⟩ : PackD) [.string name, .string ver, nv, tv] w8 (w.heap.size + 2) (by omega) hsm (by omega) hdp.small hN8 (packC.toAt hown8)).mono ?_
      rintro x w9 ⟨r9, L9, rfl, hN9, hL9, hB9⟩
      have hX9 := (hB9.block (w.heap.size + 1) hz8).trans hX8
      have hRb9 := (hB9.block w.heap.size (by omega)).trans hRb8
      have hG9 := grown_low hG8 (hB9.mono (by omega))
      have hR9 := hR8.of_below hB9
      have hz9 := Nat.lt_of_lt_of_le hz8 hB9.size
      have hin := inP_mem (⟨name, ver, itD nL, dEnts ts⟩ : PackD) (itD L)
      rw [← hL9, itD_len, itD_len] at hin
      obtain ⟨ra, rn, rc, rfl⟩ : ∃ a n c, r9 = .slice a n c := by obtain ⟨a, c, e⟩ := nrow_slice hN9; exact ⟨_, _, _, e⟩
      have HN9 := hid hN9
      have HOK := hid (show ∀ d ∈ itD L9, DPk d from fun d hd => by
        rcases hin.2 d hd with rfl | h
        · exact hdp
        · exact hok d h)
      have HLN := hid hin.1
      generalize inCode _ (itD L) = ic
      refine ⟨_, rfl, hK.out _ _ hX9 ?_⟩
      simp only [Act.put, List.setIfInBounds_toArray, List.set_cons_zero, List.set_cons_succ]
      clear hK K hX8 hRb8 hN8 hG8 hR8 hB9 hQ hown8 hf8 hin hL9 hsm hN9
      have hba : ∀ {q : Prop}, (CW (fun _ : World => True) → q) ↔ q := CW.all (C := fun _ : World => True) (W := w9) trivial
      refine heldF_pure [false, false, false, false, false, false, false, true, true, true] (by kernel_rfl) (by kernel_rfl) (fun _ _ _ _ _ h => h) hX9 ?_
      dsimp only [pick]
      repeat (go_big_quiet_step (fail))
      refine wpQuiet_nil ?_
      clear hba
      obtain ⟨c0, f0⟩ := cell_fz hX9 0 _ rfl
      refine heldF_last (by kernel_rfl) (by kernel_rfl) rfl (fun K hK => ?_)
      go_simp
      refine hK.out _ _ ?_
      clear hK K c0 f0
      refine heldF_done (by kernel_rfl) ?_
      have hBw : Below (w.heap.size + 1) w9 (w9.setCell ⟨w.heap.size + 1, 0, none⟩ (.slice ra rn rc)) := (Below.refl _ w9).setCell (p := ⟨w.heap.size + 1, 0, none⟩) (Nat.le_refl _) _
      have HX := hid (show RI w b a len cap p (k - 1) (.slice ra rn rc) L9 (w9.setCell ⟨w.heap.size + 1, 0, none⟩ (.slice ra rn rc)) from
        ⟨(hBw.block w.heap.size (by omega)).trans hRb9, heap_setCell_same w9 (w.heap.size + 1) 0 _ _ (.slice ra rn rc) hX9, by simpa using hz9, (unhid HN9).frame (fun k hk => Below.heap_setCell _ _ _ _ (by have := ((unhid HN9).base k hk).1; dsimp only; omega)), unhid HOK, by have := unhid HLN; omega, grown_low hG9 (hBw.mono (by omega)), p8, by omega, Rd.low hR9 hBw (by omega)⟩)
      clear hX9 hRb9 hG9 hR9 hBw
      generalize w9.setCell ⟨w.heap.size + 1, 0, none⟩ (.slice ra rn rc) = wB at *
      go_wp2_with fail
      go_roundw
      case rel => exact ⟨k - 1, _, L9, by omega, by go_num, HX⟩
      case measure => simp [intOf]; omega
end Go.Proofs.YtoihhlkidlapmaaGreat

namespace Go.Proofs.YtoihhlkidlapmaaGreat
open Go.RowKit Go.Shelf
structure AQ (w : World) (b : Nat) (a : Option Addr) (len cap q : Nat) (W : World) (v : Value) (ps : List packC.D) : Prop where
  keep : ∀ W' : World, (∀ k, b < k → k < W.heap.size → W'.heap[k]? = W.heap[k]?) → rowAt packC W' v ps
  ok : ∀ d ∈ ps, DPk d
  few : ps.length ≤ 8
  rd : ∃ p', p' ≤ q ∧ Rd W b a len cap p'
  grown : w.grownBy W (some b)
theorem nrow_keep {W : World} {N b : Nat} {v : Value} {L : List (It packC)} (h : NRow packC 34 W N v L) (hb : b < N) : ∀ W' : World, (∀ k, b < k → k < W.heap.size → W'.heap[k]? = W.heap[k]?) → rowAt packC W' v (itD L) := fun W' hg => by
  obtain ⟨F, h1, _⟩ := (h.frame (fun k hk => hg k (Nat.lt_of_lt_of_le hb (h.base k hk).1) (h.base k hk).2)).own
  exact h1.toAt
theorem row_tail {W : World} {g c : Nat} {ps : List packC.D} {A : Option Addr} (h : rowAt packC W (.slice (some ⟨g, 0, none⟩) ps.length c) ps) (hA : A = if c = 1 then some ⟨g, 0, none⟩ else some ⟨g, 4, none⟩) (h0 : 0 < ps.length) : rowAt packC W (.slice A (ps.length - 1) (c - 1)) (ps.drop 1) := by
  obtain ⟨a', c', e, hn, hc, hr⟩ := h
  injection e with e1 _ e3
  subst e1 e3
  refine ⟨A, c - 1, by rw [List.length_drop], fun e => ?_, by rw [List.length_drop]; omega, ?_⟩
  · rw [hA] at e
    split at e <;> cases e
  · rcases hr with rfl | ⟨b, o, ea, hb, hcell⟩
    · exact absurd h0 (Nat.lt_irrefl 0)
    · injection ea with ea
      injection ea with e1 e2
      subst e1 e2
      by_cases hc1 : c = 1
      · left
        rw [List.drop_eq_nil_iff]
        omega
      · right
        refine ⟨g, 4, by rw [hA, if_neg hc1], hb, fun i d hi => ?_⟩
        rw [List.getElem?_drop] at hi
        obtain ⟨cs, h1, h2⟩ := hcell (1 + i) d hi
        refine ⟨cs, h1, fun j u hj => ?_⟩
        have := h2 j u hj
        have en : packC.n = 4 := rfl
        rw [en] at this ⊢
        rw [← this]
        congr 2
        omega
set_option maxRecDepth 100000 in
set_option maxHeartbeats 16000000 in
theorem l11AnyRoot_any (w : World) (b : Nat) (a : Option Addr) (len cap p : Nat) (h : Rd w b a len cap p) (hp : p ≤ 200000) :
    Calls Tryz.prog 77 #[.pointer (some ⟨b, 0, none⟩)] w fun x w' => ∃ v ps, x = .returned (.agg #[v]) ∧ AQ w b a len cap (p + 1000) w' v ps := by
  have hbl := h.lt
  have H := hid (h.alloc (.cells #[.slice none 0 0] 51))
  have hR0 := World.alloc_heap_new w (.cells #[.slice none 0 0] 51)
  have hG0 : w.grownBy (w.alloc (.cells #[.slice none 0 0] 51)) (some b) := World.grownBy_alloc w _ (some b)
  have hS0 : w.heap.size + 1 ≤ (w.alloc (.cells #[.slice none 0 0] 51)).heap.size := by simp
  clear h
  go_enter Tryz.func77, Tryz.ntmps77
  go_wp2_with fail
  generalize w.alloc (.cells #[.slice none 0 0] 51) = w0 at H hR0 hG0 hS0 ⊢
  refine (l11Root_any w0 b a len cap p (unhid H) (by omega)).mono ?_
  rintro e w1 ⟨v1, L1, rfl, hQ⟩
  have hRb1 := (hQ.grown.block _ (by omega) (by intro e; injection e; omega)).trans hR0
  have hS1 := Nat.le_trans hS0 hQ.grown.size
  have hG1 := grown_trans hG0 hQ.grown
  obtain ⟨p1, hp1, hR1⟩ := hQ.rd
  have hat1 : rowAt packC w1 v1 (itD L1) := by obtain ⟨F, h1, _⟩ := hQ.row.own; exact h1.toAt
  have HOK := hid hQ.ok
  have hfew := hQ.few
  have JN := hid (l9Copy_any (itD L1) v1 w1 ⟨by rw [itD_len]; omega, fun d hd => (hQ.ok d hd).small⟩ hat1)
  obtain ⟨va, vc, rfl⟩ := nrow_slice hQ.row
  clear hQ hR0 hG0 hS0 hat1 H
  go_wp2_with fail
  refine (unhid JN).mono ?_
  rintro x w2 ⟨v2, L, rfl, hN2, hL2, hB2⟩
  have hRb2 := (hB2.block _ (by omega)).trans hRb1
  have hS2 := Nat.le_trans hS1 hB2.size
  have hG2 := grown_low hG1 (hB2.mono (by omega))
  have hR2 := hR1.of_below hB2
  rw [← hL2] at HOK
  have hfL : L.length ≤ 7 := by
    have : L.length = L1.length := by rw [← itD_len, hL2, itD_len]
    omega
  obtain ⟨ua, uc, rfl⟩ := nrow_slice hN2
  have hN2' : NRow packC 34 w2 (w.heap.size + 1) (.slice ua L.length uc) L := NRow.lower hN2 hS1
  have HBS := hid (fun k (e : (Value.slice ua L.length uc).ownBlock = some k ∨ k ∈ itF L) => (hN2.base k e).2)
  clear JN hRb1 hS1 hG1 hR1 hB2 hL2 hN2
  go_wp2_with fail
  have hX3 := World.alloc_heap_new w2 (.cells #[.slice ua L.length uc] 51)
  have hG23 : w2.grownBy (w2.alloc (.cells #[.slice ua L.length uc] 51)) (some b) := World.grownBy_alloc w2 _ (some b)
  have hR3 := hR2.alloc (.cells #[.slice ua L.length uc] 51)
  have hz3 : w2.heap.size + 1 ≤ (w2.alloc (.cells #[.slice ua L.length uc] 51)).heap.size := by simp
  generalize w2.alloc (.cells #[.slice ua L.length uc] 51) = w3 at hX3 hG23 hR3 hz3 ⊢
  refine (pick_any w3 b a len cap p1 hR3 (by omega) 12 (by omega) (by omega)).mono ?_
  rintro e w4 ⟨m, hm, rfl, hR4, hG34⟩
  have hG24 := grown_trans hG23 hG34
  have hX4 := (hG34.block w2.heap.size (by omega) (by intro e; injection e; omega)).trans hX3
  have hRb4 := (hG24.block w.heap.size (by omega) (by intro e; injection e; omega)).trans hRb2
  have hN4 := nrow_grown hN2' hG24 (by omega)
  have hG4 := grown_trans hG2 hG24
  have hz4 : w2.heap.size + 1 ≤ w4.heap.size := Nat.le_trans hz3 hG34.size
  clear hX3 hG23 hR3 hz3 hG34 hG24 hG2 hRb2 hR2 hN2'
  obtain ⟨c0, f0⟩ := cell_fz hX4 0 _ rfl
  obtain ⟨o0, r0⟩ := cell_fz hRb4 0 _ rfl
  have hne : ¬ w2.heap.size = w.heap.size := by omega
  have hne2 : ¬ w.heap.size = w2.heap.size := by omega
  by_cases h0 : m = 0
  · subst h0
    have hC0 : (fun w' : World => w'.heap[w2.heap.size]? = some (.cells #[.slice ua L.length uc] 51 (0, 0))) w4.drew := hX4
    have gp : ∀ x : CW (fun w' : World => w'.heap[w2.heap.size]? = some (.cells #[.slice ua L.length uc] 51 (0, 0))), x.w.cell? ⟨w2.heap.size, 0, none⟩ = some (.slice ua L.length uc) := fun x => cell_arrS x.h 0 _ rfl
    have hba : ∀ {q : Prop}, (CW (fun w' : World => w'.heap[w2.heap.size]? = some (.cells #[.slice ua L.length uc] 51 (0, 0))) → q) ↔ q := CW.all hC0
    go_wp2_with fail
    refine heldE_begin 7 (fun w' : World => w'.heap[w2.heap.size]? = some (.cells #[.slice ua L.length uc] 51 (0, 0))) (by kernel_rfl) ?_
    refine heldE_here [true, true, true] (by kernel_rfl) (by kernel_rfl) (fun _ _ _ _ _ h => h) hC0 ?_
    dsimp only [pick]
    repeat (go_big_quiet_step (fail))
    refine wpQuiet_nil ?_
    have hR5 := hR4.of_below (drew_belowS (B := w4.heap.size) w4)
    have hN5 : NRow packC 34 w4.drew (w.heap.size + 1) (.slice ua L.length uc) L := hN4.frame (fun k _ => rfl)
    have hG5 : w.grownBy w4.drew (some b) := grown_low hG4 (drew_belowS _)
    have hRb5 : w4.drew.heap[w.heap.size]? = some (.cells #[.slice none 0 0] 51 (0, 0)) := hRb4
    have hz5 : w2.heap.size + 1 ≤ w4.drew.heap.size := hz4
    clear hba gp hX4 hRb4 hN4 hG4 hR4 c0 f0 o0 r0 hz4
    generalize w4.drew = w5 at *
    refine heldE_op 3 (by kernel_rfl) (by kernel_rfl) rfl (fun K hK => ?_)
    refine call_op 95 14 (enters_of Tryz.func95 (by kernel_rfl) rfl) #[.pointer (some ⟨b, 0, none⟩)] rfl rfl rfl rfl ?_
    refine (l11AnyPack_any w5 b a len cap _ hR5 (by omega)).mono ?_
    rintro e w6 ⟨name, ver, nv, nL, tv, ts, rfl, hname, hQ⟩
    have hX6 := (hQ.grown.block w2.heap.size (by omega) (by intro e; injection e; omega)).trans hC0
    have hRb6 := (hQ.grown.block w.heap.size (by omega) (by intro e; injection e; omega)).trans hRb5
    have hN6 := nrow_grown hN5 hQ.grown (by omega)
    have hG6 := grown_trans hG5 hQ.grown
    have hz6 := Nat.le_trans hz5 hQ.grown.size
    have hw56 := hQ.grown.size
    obtain ⟨p6, hp6, hR6⟩ := hQ.rd
    have hdp := hQ.pack hname
    obtain ⟨F6, hown6, hf6⟩ := hQ.k.own name ver
    refine ⟨_, rfl, hK.out _ _ hX6 ?_⟩
    simp only [Act.put, List.setIfInBounds_toArray, List.set_cons_zero, List.set_cons_succ]
    clear hK K hC0 hR5 hN5 hG5 hRb5
    refine heldE_op 4 (by kernel_rfl) (by kernel_rfl) rfl (fun K hK => ?_)
    go_simp
    have hP7 := World.alloc_heap_new w6 (.cells #[.string name, .string ver, nv, tv] 34)
    have hG67 : w6.grownBy (w6.alloc (.cells #[.string name, .string ver, nv, tv] 34)) (some b) := World.grownBy_alloc w6 _ (some b)
    have hb67 : Below w6.heap.size w6 (w6.alloc (.cells #[.string name, .string ver, nv, tv] 34)) := (Below.refl _ w6).alloc (Nat.le_refl _) _
    have hR7 := hR6.alloc (.cells #[.string name, .string ver, nv, tv] 34)
    have hX7 := (hG67.block w2.heap.size (by omega) (by intro e; injection e; omega)).trans hX6
    refine hK.out _ _ hX7 ?_
    clear hK K
    generalize w6.alloc (.cells #[.string name, .string ver, nv, tv] 34) = w7 at hP7 hG67 hR7 hX7 hb67 ⊢
    have hRb7 := (hG67.block w.heap.size (by omega) (by intro e; injection e; omega)).trans hRb6
    have hN7 := nrow_grown hN6 hG67 (by omega)
    have hG7 := grown_trans hG6 hG67
    have hz7 := Nat.le_trans hz6 hG67.size
    have hown7 : packC.own w7 [.string name, .string ver, nv, tv] (⟨name, ver, itD nL, dEnts ts⟩ : PackD) F6 := packC.frame hown6 (fun k hk => hb67.block k (hf6 k hk).2)
    have hM7 : Items packC w7 (w.heap.size + 1) (L ++ [(([.string name, .string ver, nv, tv], (⟨name, ver, itD nL, dEnts ts⟩ : PackD), F6) : It packC)]) := hN7.items.snoc (M := w5.heap.size) hown7 (fun k hk => by have := unhid HBS k (.inr hk); omega) (fun k hk => by have := (hf6 k hk).1; omega) (by omega)
    have hap7 : ∀ g, (Value.slice ua L.length uc).ownBlock = some g → g ∉ itF [(([.string name, .string ver, nv, tv], (⟨name, ver, itD nL, dEnts ts⟩ : PackD), F6) : It packC)] := fun g hg hk => by
      have h1 := unhid HBS g (.inl hg)
      have h2 := (hf6 g (by simpa [itF] using hk)).1
      omega
    refine heldE_op 5 (by kernel_rfl) (by kernel_rfl) rfl (fun K hK => ?_)
    refine op_items etPack onePack w7 16 _ _ rfl rfl rfl (w.heap.size + 1) (.slice ua L.length uc) L [(([.string name, .string ver, nv, tv], (⟨name, ver, itD nL, dEnts ts⟩ : PackD), F6) : It packC)] w6.heap.size 0 1 hN7 hM7 hap7 (fun j u hj => by rw [Nat.zero_add]; exact cell_arrS hP7 _ _ (by simpa [itCells] using hj)) (by simp; omega) (by omega) rfl (by simp [Act.eval]) ?_
    intro nw wA hgr
    have hgA : w7.grownBy wA (Value.slice ua L.length uc).ownBlock := hgr.by_
    have hBA : Below (w.heap.size + 1) w7 wA := ⟨hgA.os, hgA.tape, hgA.output, hgA.size, fun k hk => hgA.block k (by omega) (fun e => by have := (hN7.base k (.inl e.symm)).1; omega)⟩
    have hXA := (hgA.block w2.heap.size (by omega) (fun e => by have := unhid HBS _ (.inl e.symm); omega)).trans hX7
    have hRbA := (hBA.block w.heap.size (by omega)).trans hRb7
    refine hK.out _ _ hXA ?_
    simp only [Act.put, List.setIfInBounds_toArray, List.set_cons_zero, List.set_cons_succ]
    clear hK K
    have hba : ∀ {q : Prop}, (CW (fun w' : World => w'.heap[w2.heap.size]? = some (.cells #[.slice ua L.length uc] 51 (0, 0))) → q) ↔ q := CW.all hXA
    refine heldE_here [false, false, false, false, false, false, true] (by kernel_rfl) (by kernel_rfl) (fun _ _ _ _ _ h => h) hXA ?_
    dsimp only [pick]
    repeat (go_big_quiet_step (fail))
    refine wpQuiet_nil ?_
    clear hba
    obtain ⟨ra, rn, rc, rfl⟩ : ∃ a n c, nw = .slice a n c := by obtain ⟨a, c, e⟩ := grew_slice hgr; exact ⟨_, _, _, e⟩
    have hNA := hgr.row
    have hzA := hgA.size
    have hnX : ∀ k, ((Value.slice ra rn rc).ownBlock = some k ∨ k ∈ itF (L ++ [(([.string name, .string ver, nv, tv], (⟨name, ver, itD nL, dEnts ts⟩ : PackD), F6) : It packC)])) → k ≠ w2.heap.size := fun k hk => by
      rcases hk with hk | hk
      · rcases hgr.block with h | h
        · rw [h] at hk; have := unhid HBS k (.inl hk); omega
        · rw [h] at hk; injection hk with hk; omega
      · rw [itF_app] at hk
        rcases List.mem_append.1 hk with hk | hk
        · have := unhid HBS k (.inr hk); omega
        · have := (hf6 k (by simpa [itF] using hk)).1; omega
    have hRA := Rd.low hR7 hBA (by omega)
    have hGA := grown_low hG7 (hBA.mono (by omega))
    obtain ⟨c0, f0⟩ := cell_fz hXA 0 _ rfl
    have hBw : Below w2.heap.size wA (wA.setCell ⟨w2.heap.size, 0, none⟩ (.slice ra rn rc)) := (Below.refl _ wA).setCell (p := ⟨w2.heap.size, 0, none⟩) (Nat.le_refl _) _
    have hBw2 : Below w.heap.size wA ((wA.setCell ⟨w2.heap.size, 0, none⟩ (.slice ra rn rc)).setCell ⟨w.heap.size, 0, none⟩ (.slice ra rn rc)) := (hBw.mono (show w.heap.size ≤ w2.heap.size by omega)).setCell (p := ⟨w.heap.size, 0, none⟩) (Nat.le_refl _) _
    have HF := hid (show AQ w b a len cap (p + 1000) ((wA.setCell ⟨w2.heap.size, 0, none⟩ (.slice ra rn rc)).setCell ⟨w.heap.size, 0, none⟩ (.slice ra rn rc)) (.slice ra rn rc) (itD (L ++ [(([.string name, .string ver, nv, tv], (⟨name, ver, itD nL, dEnts ts⟩ : PackD), F6) : It packC)])) from ⟨nrow_keep (hNA.frame (fun k hk => by
      rw [Below.heap_setCell _ _ _ _ (by have := (hNA.base k hk).1; dsimp only; omega), Below.heap_setCell _ _ _ _ (hnX k hk)])) (by omega), fun d hd => by
        rw [itD_app] at hd
        rcases List.mem_append.1 hd with hd | hd
        · exact unhid HOK d hd
        · rw [List.mem_singleton.1 (show d ∈ [(⟨name, ver, itD nL, dEnts ts⟩ : PackD)] from hd)]; exact hdp, by rw [itD_len, List.length_append]; simp; omega, ⟨p6, by omega, Rd.low hRA hBw2 hbl⟩, grown_low hGA hBw2⟩)
    have hXB := hid (heap_setCell_same wA w2.heap.size 0 _ _ (.slice ra rn rc) hXA)
    have hRbB := hid ((Below.heap_setCell wA ⟨w2.heap.size, 0, none⟩ (.slice ra rn rc) w.heap.size (by dsimp only; omega)).trans hRbA)
    refine heldE_last (by kernel_rfl) (by kernel_rfl) rfl (fun K hK => ?_)
    go_simp
    refine hK.out _ _ ?_
    clear hK K c0 f0
    refine heldE_done (by kernel_rfl) ?_
    clear hBw hBw2 hXA hRbA hNA hnX hRA hGA hgr hgA hBA hM7 hap7 hN7 hG7 hR7 hX7 hRb7 hown7 hP7 hG67 hb67 hown6 hf6 hQ hN6 hG6 hR6 hRb6 hX6
    generalize wA.setCell ⟨w2.heap.size, 0, none⟩ (.slice ra rn rc) = wB at *
    obtain ⟨c0, f0⟩ := cell_fz (unhid hXB) 0 _ rfl
    obtain ⟨o0, r0⟩ := cell_fz (unhid hRbB) 0 _ rfl
    clear hXB hRbB
    go_wp2_with fail
    exact bodyPost_ret (v := .agg #[.slice ra rn rc]) (by simp [results, Tryz.results77, go_sem, World.cell?_setCell_same', o0]) rfl ⟨_, _, rfl, unhid HF⟩
  · have e0 : ((m : Int) == 0) = false := by rw [beq_eq_false_iff_ne]; omega
    have e0i : ¬ ((m : Int) = 0) := by omega
    have HSAME := hid (fun (v : Value) => (show Below w.heap.size w4 (w4.setCell ⟨w.heap.size, 0, none⟩ v) from (Below.refl _ w4).setCell (p := ⟨w.heap.size, 0, none⟩) (Nat.le_refl _) v))
    have HN4 := hid hN4
    by_cases h1 : m = 1
    · subst h1
      by_cases hl0 : 0 < L.length
      · obtain ⟨g, rfl⟩ : ∃ g, ua = some ⟨g, 0, none⟩ := by
          rcases hN4.row.2 with ⟨_, h⟩ | ⟨g, cap', cur, e, _⟩
          · omega
          · exact ⟨g, by injection e⟩
        have hc1 : L.length ≤ uc := by
          rcases hN4.row.2 with ⟨e, _⟩ | ⟨g, cap', cur, e, _, _, hc, _⟩
          · cases e
          · injection e with _ _ e3; omega
        have hl1 : (0 : Int) < (L.length : Int) := by omega
        have h1l : 1 ≤ L.length := hl0
        have HF := hid (fun (A : Option Addr) (hA : A = if uc = 1 then some ⟨g, 0, none⟩ else some ⟨g, 4, none⟩) => (show AQ w b a len cap (p + 1000) ((w4.setCell ⟨w2.heap.size, 0, none⟩ (.slice A (L.length - 1) (uc - 1))).setCell ⟨w.heap.size, 0, none⟩ (.slice A (L.length - 1) (uc - 1))) (.slice A (L.length - 1) (uc - 1)) ((itD L).drop 1) from by
          have hB1 : Below w.heap.size w4 (w4.setCell ⟨w2.heap.size, 0, none⟩ (.slice A (L.length - 1) (uc - 1))) := (Below.refl _ w4).setCell (p := ⟨w2.heap.size, 0, none⟩) (by dsimp only; omega) _
          have hB2 := hB1.setCell (p := ⟨w.heap.size, 0, none⟩) (Nat.le_refl _) (.slice A (L.length - 1) (uc - 1))
          refine ⟨fun W' hg => ?_, fun d hd => unhid HOK d (List.mem_of_mem_drop hd), by rw [List.length_drop, itD_len]; omega, ⟨_, by omega, Rd.low hR4 hB2 hbl⟩, grown_low hG4 hB2⟩
          have hN5 : NRow packC 34 ((w4.setCell ⟨w2.heap.size, 0, none⟩ (.slice A (L.length - 1) (uc - 1))).setCell ⟨w.heap.size, 0, none⟩ (.slice A (L.length - 1) (uc - 1))) (w.heap.size + 1) (.slice (some ⟨g, 0, none⟩) L.length uc) L := (unhid HN4).frame (fun k hk => by
            rw [Below.heap_setCell _ _ _ _ (by have := ((unhid HN4).base k hk).1; dsimp only; omega), Below.heap_setCell _ _ _ _ (by have := unhid HBS k hk; dsimp only; omega)])
          have h1 := nrow_keep hN5 (b := b) (by omega) W' hg
          have h2 := row_tail (ps := itD L) (A := A) (by rw [itD_len]; exact h1) hA (by rw [itD_len]; omega)
          rwa [itD_len] at h2))
        clear hX4 hRb4 hN4 hR4 hG4
        by_cases huc : uc = 1
        · subst huc
          have HG := hid (unhid HF (some ⟨g, 0, none⟩) (by rw [if_pos rfl]))
          simp only [Nat.sub_self, show L.length - 1 = 0 by omega] at HG
          go_wp2_with fail
          exact bodyPost_ret (v := .agg #[.slice (some ⟨g, 0, none⟩) 0 0]) (by simp [results, Tryz.results77, go_sem, World.cell?_setCell_same', o0]) rfl ⟨_, _, rfl, unhid HG⟩
        · have HG := hid (unhid HF (some ⟨g, 4, none⟩) (by rw [if_neg huc]))
          go_wp2_with fail
          exact bodyPost_ret (v := .agg #[.slice (some ⟨g, 4, none⟩) (L.length - 1) (uc - 1)]) (by simp [results, Tryz.results77, go_sem, World.cell?_setCell_same', o0]) rfl ⟨_, _, rfl, unhid HG⟩
      · have hl1 : ¬ ((0 : Int) < (L.length : Int)) := by omega
        have hl2 : L.length = 0 := by omega
        have HF := hid (show AQ w b a len cap (p + 1000) (w4.setCell ⟨w.heap.size, 0, none⟩ (.slice ua L.length uc)) (.slice ua L.length uc) (itD L) from ⟨nrow_keep ((unhid HN4).frame (fun k hk => Below.heap_setCell _ _ _ _ (by have := ((unhid HN4).base k hk).1; dsimp only; omega))) (by omega), unhid HOK, by rw [itD_len]; omega, ⟨_, by omega, Rd.low hR4 (unhid HSAME _) hbl⟩, grown_low hG4 (unhid HSAME _)⟩)
        clear hX4 hRb4 hN4 hG4 hR4 hl2
        go_wp2_with fail
        exact bodyPost_ret (v := .agg #[.slice ua L.length uc]) (by simp [results, Tryz.results77, go_sem, World.cell?_setCell_same', o0]) rfl ⟨_, _, rfl, unhid HF⟩
    · have e1 : ((m : Int) == 1) = false := by rw [beq_eq_false_iff_ne]; omega
      have e1i : ¬ ((m : Int) = 1) := by omega
      have HF := hid (show AQ w b a len cap (p + 1000) (w4.setCell ⟨w.heap.size, 0, none⟩ (.slice ua L.length uc)) (.slice ua L.length uc) (itD L) from ⟨nrow_keep ((unhid HN4).frame (fun k hk => Below.heap_setCell _ _ _ _ (by have := ((unhid HN4).base k hk).1; dsimp only; omega))) (by omega), unhid HOK, by rw [itD_len]; omega, ⟨_, by omega, Rd.low hR4 (unhid HSAME _) hbl⟩, grown_low hG4 (unhid HSAME _)⟩)
      clear hX4 hRb4 hN4 hG4 hR4
      go_wp2_with fail
      exact bodyPost_ret (v := .agg #[.slice ua L.length uc]) (by simp [results, Tryz.results77, go_sem, World.cell?_setCell_same', o0]) rfl ⟨_, _, rfl, unhid HF⟩
end Go.Proofs.YtoihhlkidlapmaaGreat

namespace Go.Proofs.YtoihhlkidlapmaaGreat
open Go.RowKit
end Go.Proofs.YtoihhlkidlapmaaGreat

namespace Go.Proofs.YtoihhlkidlapmaaGreat
open Go.RowKit Go.Shelf
structure DR (W : World) (v : Value) (ps : List packC.D) : Prop where
  row : rowAt packC W v ps
  ok : ∀ d ∈ ps, DPk d
  few : ps.length ≤ 8
theorem DR.small {W : World} {v : Value} {ps : List packC.D} (h : DR W v ps) : smallPs ps := ⟨by have := h.few; omega, fun d hd => (h.ok d hd).small⟩
theorem code_on {w w' : World} {a : Option Addr} {len : Nat} (h : Code w w.heap.size a len) (hb : Below w.heap.size w w') : Code w' w'.heap.size a len := by
  rcases h with h | ⟨blk, off, ha, hbk, hc⟩
  · exact .inl h
  · refine .inr ⟨blk, off, ha, Nat.lt_of_lt_of_le hbk hb.size, fun k hk => ?_⟩
    obtain ⟨c, h1, h2⟩ := hc k hk
    exact ⟨c, h1, (hb.cell (p := ⟨blk, off + k, none⟩) hbk).trans h2⟩
theorem aq_dr {w : World} {b : Nat} {a : Option Addr} {len cap q : Nat} {W : World} {v : Value} {ps : List packC.D} (h : AQ w b a len cap q W v ps) {W' : World} (hg : ∀ k, b < k → k < W.heap.size → W'.heap[k]? = W.heap[k]?) : DR W' v ps := ⟨h.keep W' hg, h.ok, h.few⟩
set_option maxRecDepth 100000 in
set_option maxHeartbeats 2000000 in
theorem DrawRootTree_any (w : World) (a : Option Addr) (len cap : Nat) (h : Code w w.heap.size a len) (hl : len ≤ 1048576) (hc : len ≤ cap) :
    Calls Tryz.prog 43 #[.slice a len cap] w fun x w' => ∃ v ps, x = .returned (.agg #[v]) ∧ DR w' v ps ∧ Below w.heap.size w w' := by
  have hB0 : Below w.heap.size w (w.alloc (.cells #[.slice none 0 0] 51)) := (Below.refl _ w).alloc (Nat.le_refl _) _
  have H := hid (code_on h hB0)
  have hR0 := World.alloc_heap_new w (.cells #[.slice none 0 0] 51)
  have hz0 : w.heap.size < (w.alloc (.cells #[.slice none 0 0] 51)).heap.size := by simp
  clear h
  go_enter Tryz.func43, Tryz.ntmps43
  go_wp2_with fail
  generalize w.alloc (.cells #[.slice none 0 0] 51) = w0 at H hB0 hR0 hz0 ⊢
  refine (l1Open_any w0 a len cap (unhid H) hl hc).mono ?_
  rintro e w1 ⟨rfl, ⟨l', c', hR⟩, hB1⟩
  have hR1 := (hB1.block _ hz0).trans hR0
  have hB01 := hB0.trans (hB1.mono hB0.size)
  clear hR0 H
  go_wp2_with fail
  refine (l11AnyRoot_any w1 _ a l' c' 0 hR (by omega)).mono ?_
  rintro e w2 ⟨v, ps, rfl, hQ⟩
  have hb2 : Below w0.heap.size w1 w2 := grown_below hQ.grown (Nat.le_refl _) hB1.size
  have hR2 := (hb2.block _ hz0).trans hR1
  have hat := hQ.keep w2 (fun _ _ _ => rfl)
  obtain ⟨va, vc, rfl, -⟩ := rowAt.slice hat
  have hB02 : Below w.heap.size w w2 := hB01.trans (hb2.mono hB0.size)
  obtain ⟨o0, r0⟩ := cell_fz hR2 0 _ rfl
  have hBw : Below w.heap.size w2 (w2.setCell ⟨w.heap.size, 0, none⟩ (.slice va ps.length vc)) := (Below.refl _ w2).setCell (p := ⟨w.heap.size, 0, none⟩) (Nat.le_refl _) _
  have HF := hid (And.intro (aq_dr hQ (W' := w2.setCell ⟨w.heap.size, 0, none⟩ (.slice va ps.length vc)) (fun k hk _ => Below.heap_setCell _ _ _ _ (by dsimp only; omega))) (hB02.trans hBw))
  clear hQ hb2 hR2 hat hB02 hBw hB01 hB1 hR1 hR hB0
  go_wp2_with fail
  exact bodyPost_ret (v := .agg #[.slice va ps.length vc]) (by simp [results, Tryz.results43, go_sem, World.cell?_setCell_same', o0]) rfl ⟨_, ps, rfl, (unhid HF).1, (unhid HF).2⟩
end Go.Proofs.YtoihhlkidlapmaaGreat

namespace Go.Proofs.YtoihhlkidlapmaaGreat
open Go.RowKit Go.Shelf
end Go.Proofs.YtoihhlkidlapmaaGreat

namespace Go.Proofs.YtoihhlkidlapmaaGreat
open Go.ChangeShapes Go.WideShapes Go.ChangeAt Go.RowKit
theorem cells5 : Tryz.prog.cellsOf 5 = 1 := by kernel_rfl
theorem code_of {H : Type} {enc : TypeId × Value → H} {W : World} {a0 : Option Addr} {len cap : Nat} {d0 : DataW H} {p0 : List MemPlace}
    (h0 : DataW.Trod enc Tryz.prog W 0 (fun _ => true) true 22 (.slice a0 len cap) d0 p0) (hlt : ∀ x ∈ p0, x.block < W.heap.size) : Code W W.heap.size a0 len ∧ len ≤ cap := by
  obtain ⟨fuel, hf⟩ := h0
  rcases open_ints Tryz.underlying22 Tryz.underlying5 cells5 hf with ⟨hcs, hx⟩ | ⟨a, len', cap', zs, hcs, _, hl, hm, hz, hx, hcell, hwz⟩
  · simp [Value.cells] at hcs
    obtain ⟨rfl, rfl, rfl⟩ := hcs
    exact ⟨.inl rfl, Nat.le_refl _⟩
  · simp [Value.cells] at hcs
    obtain ⟨rfl, rfl, rfl⟩ := hcs
    simp only [Prod.mk.injEq] at hx
    obtain ⟨rfl, rfl⟩ := hx
    simp only [if_true] at hz
    refine ⟨?_, hl⟩
    by_cases hl0 : len = 0
    · exact .inl hl0
    · obtain ⟨b, off, spot⟩ := a
      have hspot : spot = none := by simpa [Addr.add] using World.cell?_spot (hcell 0 (by omega))
      subst hspot
      have hbW : b < W.heap.size := hlt (.cell b off) (MemPlace.mem_row.2 ⟨0, by omega, by simp⟩)
      refine .inr ⟨b, off, rfl, hbW, fun k hk => ?_⟩
      have hk' : k < zs.length := by omega
      have hw := hwz (zs.getD k 0) (by simp [List.getD, List.getElem?_eq_getElem hk'])
      have hc := hcell k hk'
      rw [add_plain] at hc
      generalize zs.getD k 0 = z at hw hc
      have hx : 0 ≤ z ∧ z ≤ 255 := by simpa [Lit.wf, IntKind.min, IntKind.max, IntKind.signed, IntKind.bits] using hw
      exact ⟨z.toNat, by omega, by rw [hc, Int.toNat_of_nonneg hx.1]⟩
end Go.Proofs.YtoihhlkidlapmaaGreat

namespace Go.Proofs.YtoihhlkidlapmaaGreat
open Go.RowKit Go.Shelf
structure RR (W : World) (a : Option Addr) (c : Nat) (ps : List packC.D) : Prop where
  row : rowAt packC W (.slice a ps.length c) ps
  small : smallPs ps
  few : ps.length ≤ 100
theorem RR.below {W W' : World} {a : Option Addr} {c : Nat} {ps : List packC.D} (h : RR W a c ps) (hb : Below W.heap.size W W') : RR W' a c ps := ⟨h.row.below hb, h.small, h.few⟩
theorem rr_of {W : World} {N : Nat} {r : Value} {L : List (It packC)} {ps : List packC.D} (h : NRow packC 34 W N r L) (hL : itD L = ps) (hs : smallPs ps) (hf : ps.length ≤ 100) : ∃ a c, r = .slice a ps.length c ∧ RR W a c ps := by
  obtain ⟨F, h1, _⟩ := h.own
  have h2 := h1.toAt
  rw [hL] at h2
  obtain ⟨a, c, rfl, -⟩ := rowAt.slice h2
  exact ⟨a, c, rfl, h2, hs, hf⟩
structure PR (W : World) (cs : List Value) (p : packC.D) : Prop where
  at_ : packC.at_ W cs p
  small : smallP p
theorem dr_rr {W : World} {v : Value} {ps : List packC.D} (h : DR W v ps) : ∃ a c, v = .slice a ps.length c ∧ RR W a c ps := by
  obtain ⟨a, c, rfl, -⟩ := rowAt.slice h.row
  exact ⟨a, c, rfl, h.row, h.small, by have := h.few; omega⟩
def StaysW (Φ : World → Prop) : Prop := ∀ W W' : World, Below W.heap.size W W' → Φ W → Φ W'
structure KW (Φ : World → Prop) (W : World) : Prop where
  keeps : StaysW Φ
  now : Φ W
theorem KW.step {Φ : World → Prop} {W W' : World} (h : KW Φ W) (hb : Below W.heap.size W W') : KW Φ W' := ⟨h.keeps, h.keeps W W' hb h.now⟩
theorem KW.add {Φ Ψ : World → Prop} {W : World} (h : KW Φ W) (hk : StaysW Ψ) (hn : Ψ W) : KW (fun W => Φ W ∧ Ψ W) W := ⟨fun W W' hb hp => ⟨h.keeps W W' hb hp.1, hk W W' hb hp.2⟩, h.now, hn⟩
theorem KW.row {Φ : World → Prop} {W : World} (h : KW Φ W) {a : Option Addr} {c : Nat} {ps : List packC.D} (hr : RR W a c ps) : KW (fun W => Φ W ∧ RR W a c ps) W := h.add (fun _ _ hb hp => hp.below hb) hr
theorem KW.box {Φ : World → Prop} {W : World} (h : KW Φ W) {g : Nat} {o : Obj} (hr : W.heap[g]? = some o) : KW (fun W => Φ W ∧ W.heap[g]? = some o) W := h.add (fun _ _ hb hp => (hb.block _ (Array.getElem?_eq_some_iff.1 hp).1).trans hp) hr
theorem KW.start (w : World) : KW (fun W => Below w.heap.size w W) w := ⟨fun _ _ hb hp => hp.trans (hb.mono hp.size), Below.refl _ w⟩
end Go.Proofs.YtoihhlkidlapmaaGreat

namespace Go.Proofs.YtoihhlkidlapmaaGreat
open Go.RowKit Go.Shelf
theorem implOk_r {W : World} {a : Option Addr} {c : Nat} {ps : List packC.D} (h : RR W a c ps) : Calls Tryz.prog 42 #[.agg #[.slice a ps.length c]] W fun x w' => x = .returned (.bool (rootOk_0 ⟨ps⟩)) ∧ Below W.heap.size W w' := implRootOk_any ⟨ps⟩ a c W h.small h.row
theorem specOk_r {W : World} {a : Option Addr} {c : Nat} {ps : List packC.D} (h : RR W a c ps) : Calls Tryz.prog 35 #[.agg #[.slice a ps.length c]] W fun x w' => x = .returned (.bool (rootOk_0 ⟨ps⟩)) ∧ Below W.heap.size W w' := specRootOk_any ⟨ps⟩ a c W h.small h.row
end Go.Proofs.YtoihhlkidlapmaaGreat

namespace Go.Proofs.YtoihhlkidlapmaaGreat
open Go.RowKit Go.Shelf
end Go.Proofs.YtoihhlkidlapmaaGreat

namespace Go.Proofs.YtoihhlkidlapmaaGreat
open Go.RowKit Go.Shelf
structure PA (W : World) (b o : Nat) (p : packC.D) (na : Option Addr) (nc : Nat) (ta : Option Addr) (tc : Nat) : Prop where
  lt : b < W.heap.size
  c0 : W.cell? ⟨b, o, none⟩ = some (.string (PackD.name p))
  c1 : W.cell? ⟨b, o + 1, none⟩ = some (.string (PackD.version p))
  c2 : W.cell? ⟨b, o + 2, none⟩ = some (.slice na (PackD.needs p).length nc)
  c3 : W.cell? ⟨b, o + 3, none⟩ = some (.slice ta (PackD.tree p).length tc)
  pr : PR W [.string (PackD.name p), .string (PackD.version p), .slice na (PackD.needs p).length nc, .slice ta (PackD.tree p).length tc] p
theorem RR.get {W : World} {a : Option Addr} {c k : Nat} {ps : List packC.D} {p : packC.D} (h : RR W a c ps) (hk : ps[k]? = some p) : ∃ b o na nc ta tc, a = some ⟨b, o, none⟩ ∧ PA W b (o + k * 4) p na nc ta tc := by
  obtain ⟨a', c', e, -, -, h2⟩ := h.row
  cases e
  rcases h2 with h2 | ⟨b, o, rfl, hb, hc⟩
  · rw [h2] at hk; cases hk
  · obtain ⟨na, nc, ta, tc, ⟨c0, c1, c2, c3⟩, hat⟩ := pack_cells (Below.refl W.heap.size W) hb hc hk
    exact ⟨b, o, na, nc, ta, tc, rfl, hb, c0, c1, c2, c3, hat, h.small.2 p (List.mem_of_getElem? hk)⟩
def TurnedK (qs : List packC.D) (k : Int) (W : World) (x : Ending) (w' : World) : Prop := ∃ a c, x = .returned (.tuple #[.agg #[.slice a qs.length c], .int .i64 k]) ∧ (∀ w'' : World, (∀ j, W.heap.size ≤ j → j < w'.heap.size → w''.heap[j]? = w'.heap[j]?) → RR w'' a c qs) ∧ Below W.heap.size W w'
end Go.Proofs.YtoihhlkidlapmaaGreat

namespace Go.Proofs.YtoihhlkidlapmaaGreat
open Go.RowKit Go.Shelf
end Go.Proofs.YtoihhlkidlapmaaGreat

namespace Go.Proofs.YtoihhlkidlapmaaGreat
open Go.RowKit Go.Shelf
theorem set4_same (w : World) (g : Nat) (a b c d : Value) (ty : Nat) (v0 v1 v2 v3 : Value) (h : w.heap[g]? = some (.cells #[a, b, c, d] ty (0, 0))) : ((((w.setCell ⟨g, 0, none⟩ v0).setCell ⟨g, 1, none⟩ v1).setCell ⟨g, 2, none⟩ v2).setCell ⟨g, 3, none⟩ v3).heap[g]? = some (.cells #[v0, v1, v2, v3] ty (0, 0)) :=
  heap_setCell_same _ g 3 _ _ v3 (heap_setCell_same _ g 2 _ _ v2 (heap_setCell_same _ g 1 _ _ v1 (heap_setCell_same w g 0 _ _ v0 h)))
theorem set4_below {B : Nat} {W w : World} {g : Nat} (v0 v1 v2 v3 : Value) (h : Below B W w) (hg : B ≤ g) : Below B W ((((w.setCell ⟨g, 0, none⟩ v0).setCell ⟨g, 1, none⟩ v1).setCell ⟨g, 2, none⟩ v2).setCell ⟨g, 3, none⟩ v3) :=
  (((h.setCell (p := ⟨g, 0, none⟩) hg v0).setCell (p := ⟨g, 1, none⟩) hg v1).setCell (p := ⟨g, 2, none⟩) hg v2).setCell (p := ⟨g, 3, none⟩) hg v3
end Go.Proofs.YtoihhlkidlapmaaGreat

namespace Go.Proofs.YtoihhlkidlapmaaGreat
open Go.RowKit Go.Shelf Go.Maps
theorem ownsRow_keep {W W' : World} {N e n size : Nat} {v : Value} {xs : List Value} (h : W.ownsRow N e size v n xs) (hk : ∀ j, v.ownBlock = some j → W'.heap[j]? = W.heap[j]?) : W'.ownsRow N e size v n xs := by
  refine ⟨h.1, ?_⟩
  rcases h.2 with h0 | ⟨g, cap, cur, hv, hg, hh, h2⟩
  · exact .inl h0
  · exact .inr ⟨g, cap, cur, hv, hg, (hk g (by rw [hv]; rfl)).trans hh, h2⟩
theorem ownsRow_sl {W : World} {N e n size : Nat} {v : Value} {xs : List Value} (h : W.ownsRow N e size v n xs) : ∃ a c, v = .slice a n c := by
  rcases h.2 with ⟨rfl, rfl⟩ | ⟨g, cap, cur, hv, _⟩
  · exact ⟨none, 0, rfl⟩
  · exact ⟨_, cap, hv⟩
theorem PlaceMap.keep {W W' : World} {mb n : Nat} {names : List ByteArray} {D : DataW Unit} (h : PlaceMap W mb n names D) (hk : W'.heap[mb]? = W.heap[mb]?) : PlaceMap W' mb n names D := by
  refine ⟨?_, h.has, h.at_⟩
  obtain ⟨es, clock, h1, h2⟩ := h.own
  exact ⟨es, clock, hk.trans h1, h2⟩
theorem PlaceMap.lt {W : World} {mb n : Nat} {names : List ByteArray} {D : DataW Unit} (h : PlaceMap W mb n names D) : mb < W.heap.size := h.own.lt
theorem infoInt3 : (Tryz.prog.info? 3).map (fun i => (i.zero, i.size, i.bytes)) = some (some (.int .i64 0), 1, 8) := by kernel_rfl
theorem int_oneN (x : Int) : ∀ u ∈ [Value.int .i64 x], u.oneCell' = true := fun u hu => by rw [List.mem_singleton.1 hu]; rfl
theorem app_int (w : World) (base ty : Nat) (v : Value) (n : Nat) (xs : List Value) (x : Int) (g : Nat) (hown : w.ownsRow base 3 1 v n xs) (h : w.cell? ⟨g, 0, none⟩ = some (.int .i64 x)) (hn : n ≤ 4294967296) (hb : base ≤ w.heap.size) :
    ∃ v' w', (Builtin.append_ #[88, 88] ty #[v, .slice (some ⟨g, 0, none⟩) 1 1]).run Tryz.prog w = .ok v' w' ∧ w'.ownsRow base 3 1 v' (n + 1) (xs ++ [.int .i64 x]) ∧ w.grownBy w' v.ownBlock ∧ (v'.ownBlock = v.ownBlock ∨ v'.ownBlock = some w.heap.size) := by
  obtain ⟨i0, hi, hz0, hz1, hz2⟩ := info_parts infoInt3
  obtain ⟨v', w', hr, h2, h3, _, h5⟩ := run_append_own_at (P := Tryz.prog) w base 88 ty 3 i0 (.int .i64 0) 1 8 Tryz.underlying88 hi hz0 hz1 hz2 rfl (by decide) v n xs hown ⟨g, 0, none⟩ 1 1 [.int .i64 x] (by simp) (by
    intro j u hj
    have : j = 0 := by
      have := (List.getElem?_eq_some_iff.1 hj).1
      simpa using this
    subst this
    simp at hj
    subst hj
    exact h) (int_oneN x) (by unfold maxLen; omega) (by omega) hb
  exact ⟨v', w', hr, h2, h3, h5⟩
theorem wp_int {ops : Array Oper} {rest : List Oper} {o : Oper} {a : Act} {w : World} {Q : Exit → Act → World → Prop} (hgd : o.guard = none) (s y : Operand) (ho : o.op = .call { callee := .builtin .append, args := #[s, y], argTypes := #[88, 88] })
    (base : Nat) (v : Value) (n : Nat) (xs : List Value) (x : Int) (g : Nat) (hs : a.eval s = v) (hx : a.eval y = .slice (some ⟨g, 0, none⟩) 1 1) (hown : w.ownsRow base 3 1 v n xs) (h : w.cell? ⟨g, 0, none⟩ = some (.int .i64 x)) (hn : n ≤ 4294967296) (hb : base ≤ w.heap.size)
    (hk : ∀ v' w', w'.ownsRow base 3 1 v' (n + 1) (xs ++ [.int .i64 x]) → w.grownBy w' v.ownBlock → (v'.ownBlock = v.ownBlock ∨ v'.ownBlock = some w.heap.size) → wpList Tryz.prog ops Q rest (a.put o.dst v') w') : wpList Tryz.prog ops Q (o :: rest) a w := by
  refine wpList_plain hgd fun K hK => ?_
  obtain ⟨v', w', hr, h2, h3, h5⟩ := app_int w base o.type v n xs x g hown h hn hb
  unfold Oper.wp execOp
  simp only [ho, resolve, invoke, builtin, Sem.run_bind, Sem.run_pure, Result.andThen_ok, List.map_toArray, List.map_cons, List.map_nil, hs, hx, hr]
  exact hK _ _ (hk v' w' h2 h3 h5)
theorem app_nameL (w : World) (base ty : Nat) (v : Value) (xs : List ByteArray) (x : ByteArray) (g : Nat) (hown : w.ownsRow base 9 1 v xs.length (xs.map Value.string)) (h : w.cell? ⟨g, 0, none⟩ = some (.string x)) (hn : xs.length ≤ 4294967296) (hb : base ≤ w.heap.size) :
    ∃ v' w', (Builtin.append_ #[24, 24] ty #[v, .slice (some ⟨g, 0, none⟩) 1 1]).run Tryz.prog w = .ok v' w' ∧ w'.ownsRow base 9 1 v' (xs ++ [x]).length ((xs ++ [x]).map Value.string) ∧ w.grownBy w' v.ownBlock ∧ (v'.ownBlock = v.ownBlock ∨ v'.ownBlock = some w.heap.size) := by
  obtain ⟨i0, hi, hz0, hz1, hz2⟩ := info_parts infoStr
  obtain ⟨v', w', hr, h2, h3, _, h5⟩ := run_append_own_at (P := Tryz.prog) w base 24 ty 9 i0 (.string ⟨#[]⟩) 1 16 Tryz.underlying24 hi hz0 hz1 hz2 rfl (by decide) v xs.length _ hown ⟨g, 0, none⟩ 1 1 [.string x] (by simp) (by
    intro j u hj
    have : j = 0 := by
      have := (List.getElem?_eq_some_iff.1 hj).1
      simpa using this
    subst this
    simp at hj
    subst hj
    exact h) (str_oneN x) (by unfold maxLen; omega) (by omega) hb
  refine ⟨v', w', hr, ?_, h3, h5⟩
  rw [List.map_append, List.length_append]
  exact h2
theorem name_op {ops : Array Oper} {Q : Exit → Act → World → Prop} {K : Act → World → Prop} {a : Act} {w : World} {o : Oper} {s y : Operand} (d : Nat) (base : Nat) (v : Value) (xs : List ByteArray) (x : ByteArray) (g : Nat)
    (hop : o.op = .call { callee := .builtin .append, args := #[s, y], argTypes := #[24, 24] }) (hw : Region.wanted o (yielded ops a.tmps) = true) (hd : o.dst = some d) (hs : a.eval s = v) (hx : a.eval y = .slice (some ⟨g, 0, none⟩) 1 1)
    (hown : w.ownsRow base 9 1 v xs.length (xs.map Value.string)) (h : w.cell? ⟨g, 0, none⟩ = some (.string x)) (hn : xs.length ≤ 4294967296) (hb : base ≤ w.heap.size)
    (hk : ∀ v' w', w'.ownsRow base 9 1 v' (xs ++ [x]).length ((xs ++ [x]).map Value.string) → w.grownBy w' v.ownBlock → (v'.ownBlock = v.ownBlock ∨ v'.ownBlock = some w.heap.size) → K (a.put (some d) v') w') : if Region.wanted o (yielded ops a.tmps) = true then Oper.wp Tryz.prog o a w K Q else K (a.put o.dst undef) w := by
  rw [if_pos hw]
  obtain ⟨v', w', hr, h2, h3, h5⟩ := app_nameL w base o.type v xs x g hown h hn hb
  unfold Oper.wp execOp
  simp only [hop, resolve, invoke, builtin, Sem.run_bind, Sem.run_pure, Result.andThen_ok, List.map_toArray, List.map_cons, List.map_nil, hs, hx, hr]
  show K (a.put o.dst v') w'
  rw [hd]
  exact hk v' w' h2 h3 h5
structure WS where
  wt : List Nat
  ask : Nat → Nat
  out : List ByteArray
def intsV (l : List Nat) : List Value := l.map fun i : Nat => Value.int .i64 (i : Int)
structure WK (W : World) (N g : Nat) (pv : Value) (ps : List packC.D) (st : Nat → Int) (S : WS) (mb kb : Nat) (D : DataW Unit) (wv nv : Value) : Prop where
  box : W.heap[g]? = some (.cells #[pv, .map (some mb), .slice (some ⟨kb, 0, none⟩) ps.length ps.length, wv, nv] 90 (0, 0))
  marks : ∃ cur : Array Value, W.heap[kb]? = some (.cells cur 217 (0, 0)) ∧ cur.size = ps.length * 2 ∧ ∀ i, i < ps.length → cur[i * 2]? = some (.int .i64 (st i)) ∧ cur[i * 2 + 1]? = some (.int .i64 (S.ask i : Int))
  map : PlaceMap W mb ps.length (namesP ps) D
  waits : W.ownsRow N 3 1 wv S.wt.length (intsV S.wt.reverse)
  names : W.ownsRow N 9 1 nv S.out.length (S.out.map Value.string)
  lo : N ≤ g ∧ N ≤ mb ∧ N ≤ kb
  ap : mb ≠ g ∧ kb ≠ g ∧ kb ≠ mb
  wap : wv.ownBlock ≠ some g ∧ wv.ownBlock ≠ some mb ∧ wv.ownBlock ≠ some kb
  nap : nv.ownBlock ≠ some g ∧ nv.ownBlock ≠ some mb ∧ nv.ownBlock ≠ some kb
  wn : ∀ j, wv.ownBlock = some j → nv.ownBlock ≠ some j
theorem WK.glt {W : World} {N g : Nat} {pv : Value} {ps : List packC.D} {st : Nat → Int} {S : WS} {mb kb : Nat} {D : DataW Unit} {wv nv : Value} (h : WK W N g pv ps st S mb kb D wv nv) : g < W.heap.size ∧ mb < W.heap.size ∧ kb < W.heap.size := by
  obtain ⟨cur, h1, _⟩ := h.marks
  exact ⟨(Array.getElem?_eq_some_iff.1 h.box).1, h.map.lt, (Array.getElem?_eq_some_iff.1 h1).1⟩
theorem WK.keep {W W' : World} {N g : Nat} {pv : Value} {ps : List packC.D} {st : Nat → Int} {S : WS} {mb kb : Nat} {D : DataW Unit} {wv nv : Value} (h : WK W N g pv ps st S mb kb D wv nv) (hk : ∀ j, N ≤ j → j < W.heap.size → W'.heap[j]? = W.heap[j]?) : WK W' N g pv ps st S mb kb D wv nv := by
  obtain ⟨l1, l2, l3⟩ := h.glt
  obtain ⟨cur, h1, h2⟩ := h.marks
  exact ⟨(hk g h.lo.1 l1).trans h.box, ⟨cur, (hk kb h.lo.2.2 l3).trans h1, h2⟩, h.map.keep (hk mb h.lo.2.1 l2), ownsRow_keep h.waits (fun j e => hk j (h.waits.lt j e).1 (h.waits.lt j e).2), ownsRow_keep h.names (fun j e => hk j (h.names.lt j e).1 (h.names.lt j e).2), h.lo, h.ap, h.wap, h.nap, h.wn⟩
theorem WK.below {W W' : World} {N g : Nat} {pv : Value} {ps : List packC.D} {st : Nat → Int} {S : WS} {mb kb : Nat} {D : DataW Unit} {wv nv : Value} (h : WK W N g pv ps st S mb kb D wv nv) (hb : Below W.heap.size W W') : WK W' N g pv ps st S mb kb D wv nv := h.keep (fun j _ hj => hb.block j hj)
theorem WK.mark {W W' : World} {N g : Nat} {pv : Value} {ps : List packC.D} {st st' : Nat → Int} {S S' : WS} {mb kb : Nat} {D : DataW Unit} {wv nv : Value} (h : WK W N g pv ps st S mb kb D wv nv) (i o : Nat) (x : Int) (_ho : i * 2 + o < ps.length * 2) (hW : W' = W.setCell ⟨kb, i * 2 + o, none⟩ (.int .i64 x))
    (e1 : S'.wt = S.wt) (e2 : S'.out = S.out) (hc : ∀ j, j < ps.length → (.int .i64 (st' j) = if i * 2 + o = j * 2 then Value.int .i64 x else .int .i64 (st j)) ∧ (.int .i64 (S'.ask j : Int) = if i * 2 + o = j * 2 + 1 then Value.int .i64 x else .int .i64 (S.ask j : Int))) : WK W' N g pv ps st' S' mb kb D wv nv := by
  subst hW
  obtain ⟨cur, h1, h2, h3⟩ := h.marks
  have hne : ∀ j, j ≠ kb → (W.setCell ⟨kb, i * 2 + o, none⟩ (.int .i64 x)).heap[j]? = W.heap[j]? := fun j hj => Below.heap_setCell _ _ _ _ hj
  refine ⟨(hne g (Ne.symm h.ap.2.1)).trans h.box, ⟨cur.setIfInBounds (i * 2 + o) (.int .i64 x), heap_setCell_same W kb (i * 2 + o) cur _ _ h1, by rw [Array.size_setIfInBounds]; exact h2, fun j hj => ?_⟩, h.map.keep (hne mb (Ne.symm h.ap.2.2)), by rw [e1]; exact ownsRow_keep h.waits (fun j e => hne j (fun ej => h.wap.2.2 (by rw [e, ej]))), by rw [e2]; exact ownsRow_keep h.names (fun j e => hne j (fun ej => h.nap.2.2 (by rw [e, ej]))), h.lo, h.ap, h.wap, h.nap, h.wn⟩
  obtain ⟨c1, c2⟩ := hc j hj
  obtain ⟨d1, d2⟩ := h3 j hj
  rw [Array.getElem?_setIfInBounds, Array.getElem?_setIfInBounds]
  constructor
  · rw [c1]
    split
    · rw [if_pos (by omega)]
    · exact d1
  · rw [c2]
    split
    · rw [if_pos (by omega)]
    · exact d2
theorem WK.field {W W' : World} {N g : Nat} {pv : Value} {ps : List packC.D} {st : Nat → Int} {S S' : WS} {mb kb : Nat} {D : DataW Unit} {wv nv wv' nv' : Value} (h : WK W N g pv ps st S mb kb D wv nv) (hbox : W'.heap[g]? = some (.cells #[pv, .map (some mb), .slice (some ⟨kb, 0, none⟩) ps.length ps.length, wv', nv'] 90 (0, 0)))
    (hk : ∀ j, j = mb ∨ j = kb → W'.heap[j]? = W.heap[j]?) (e : S'.ask = S.ask) (hw : W'.ownsRow N 3 1 wv' S'.wt.length (intsV S'.wt.reverse)) (hn : W'.ownsRow N 9 1 nv' S'.out.length (S'.out.map Value.string))
    (hwap : wv'.ownBlock ≠ some g ∧ wv'.ownBlock ≠ some mb ∧ wv'.ownBlock ≠ some kb) (hnap : nv'.ownBlock ≠ some g ∧ nv'.ownBlock ≠ some mb ∧ nv'.ownBlock ≠ some kb) (hwn : ∀ j, wv'.ownBlock = some j → nv'.ownBlock ≠ some j) : WK W' N g pv ps st S' mb kb D wv' nv' := by
  obtain ⟨cur, h1, h2, h3⟩ := h.marks
  exact ⟨hbox, ⟨cur, (hk kb (.inr rfl)).trans h1, h2, fun i hi => by rw [e]; exact h3 i hi⟩, h.map.keep (hk mb (.inl rfl)), hw, hn, h.lo, h.ap, hwap, hnap, hwn⟩
theorem WK.cells {W : World} {N g : Nat} {pv : Value} {ps : List packC.D} {st : Nat → Int} {S : WS} {mb kb : Nat} {D : DataW Unit} {wv nv : Value} (h : WK W N g pv ps st S mb kb D wv nv) : (W.cell? ⟨g, 0, none⟩ = some pv ∧ W.cell? ⟨g, 1, none⟩ = some (.map (some mb)) ∧ W.cell? ⟨g, 2, none⟩ = some (.slice (some ⟨kb, 0, none⟩) ps.length ps.length) ∧ W.cell? ⟨g, 3, none⟩ = some wv ∧ W.cell? ⟨g, 4, none⟩ = some nv) ∧ W.frozen? ⟨g, 3, none⟩ = false ∧ W.frozen? ⟨g, 4, none⟩ = false :=
  ⟨⟨cell_arrS h.box 0 _ rfl, cell_arrS h.box 1 _ rfl, cell_arrS h.box 2 _ rfl, cell_arrS h.box 3 _ rfl, cell_arrS h.box 4 _ rfl⟩, (cell_fz h.box 3 _ rfl).2, (cell_fz h.box 4 _ rfl).2⟩
theorem WK.markAt {W : World} {N g : Nat} {pv : Value} {ps : List packC.D} {st : Nat → Int} {S : WS} {mb kb : Nat} {D : DataW Unit} {wv nv : Value} (h : WK W N g pv ps st S mb kb D wv nv) {i : Nat} (hi : i < ps.length) : (W.cell? ⟨kb, i * 2, none⟩ = some (.int .i64 (st i)) ∧ W.cell? ⟨kb, i * 2 + 1, none⟩ = some (.int .i64 (S.ask i : Int))) ∧ W.frozen? ⟨kb, i * 2, none⟩ = false ∧ W.frozen? ⟨kb, i * 2 + 1, none⟩ = false := by
  obtain ⟨cur, h1, h2, h3⟩ := h.marks
  exact ⟨⟨(cell_fz h1 _ _ (h3 i hi).1).1, (cell_fz h1 _ _ (h3 i hi).2).1⟩, (cell_fz h1 _ _ (h3 i hi).1).2, (cell_fz h1 _ _ (h3 i hi).2).2⟩
theorem WK.last {W : World} {N g : Nat} {pv : Value} {ps : List packC.D} {st : Nat → Int} {S : WS} {mb kb : Nat} {D : DataW Unit} {wv nv : Value} (h : WK W N g pv ps st S mb kb D wv nv) {i : Nat} {rest : List Nat} (e : S.wt = i :: rest) : ∃ wb wc, wv = .slice (some ⟨wb, 0, none⟩) (rest.length + 1) wc ∧ W.cell? ⟨wb, rest.length, none⟩ = some (.int .i64 (i : Int)) ∧ wb < W.heap.size ∧ rest.length + 1 ≤ wc ∧ W.ownsRow N 3 1 (.slice (some ⟨wb, 0, none⟩) rest.length wc) rest.length (intsV rest.reverse) := by
  have hw := h.waits
  rw [e] at hw
  rcases hw.2 with ⟨_, h0⟩ | ⟨wb, wc, cur, hv, hN, hh, h1, h2, h3, h4⟩
  · cases h0
  · have hi : (i :: rest).length = rest.length + 1 := rfl
    rw [hi] at hv h1 h4
    rw [Nat.mul_one] at h4
    have hl : (intsV (i :: rest).reverse) = intsV rest.reverse ++ [.int .i64 (i : Int)] := by unfold intsV; rw [List.reverse_cons, List.map_append]; rfl
    rw [hl] at h4
    have hil : (intsV rest.reverse).length = rest.length := by unfold intsV; rw [List.length_map, List.length_reverse]
    refine ⟨wb, wc, hv, ?_, (Array.getElem?_eq_some_iff.1 hh).1, h1, by rw [hil, Nat.mul_one], .inr ⟨wb, wc, cur, rfl, hN, hh, by omega, h2, h3, ?_⟩⟩
    · refine cell_arrS hh _ _ ?_
      have h5 : (cur.toList.take (rest.length + 1))[rest.length]? = some (.int .i64 (i : Int)) := by rw [h4, List.getElem?_append_right (by omega), hil, Nat.sub_self]; rfl
      rw [List.getElem?_take_of_lt (by omega), Array.getElem?_toList] at h5
      exact h5
    · rw [Nat.mul_one]
      have h6 := congrArg (List.take rest.length) h4
      rw [List.take_take, Nat.min_eq_left (Nat.le_succ _), List.take_left' hil] at h6
      exact h6
end Go.Proofs.YtoihhlkidlapmaaGreat

namespace Go.Proofs.YtoihhlkidlapmaaGreat
open Go.RowKit Go.Shelf Go.Maps
def stI (nm : List ByteArray) (S : WS) (i : Nat) : Int := match nm[i]? with
  | some x => if memB x S.out = true then 2 else if i ∈ S.wt then 1 else 0
  | none => 0
def StOk (nm : List ByteArray) (S : WS) (st : Nat → Int) : Prop := ∀ i, i < nm.length → st i = stI nm S i
theorem stI_at {nm : List ByteArray} {S : WS} {i : Nat} {x : ByteArray} (h : nm[i]? = some x) : stI nm S i = if memB x S.out = true then 2 else if i ∈ S.wt then 1 else 0 := by unfold stI; rw [h]
def WS.push (S : WS) (i : Nat) : WS := ⟨i :: S.wt, S.ask, S.out⟩
theorem intsV_push (S : WS) (i : Nat) : intsV (S.push i).wt.reverse = intsV S.wt.reverse ++ [.int .i64 (i : Int)] := by
  show intsV (i :: S.wt).reverse = _
  unfold intsV
  rw [List.reverse_cons, List.map_append]
  rfl
def enC (S : WS) (i : Nat) (x : ByteArray) : Int := if memB x S.out = true then 0 else if i ∈ S.wt then 4 else 0
def enS (S : WS) (i : Nat) (x : ByteArray) : WS := if memB x S.out = true then S else if i ∈ S.wt then S else S.push i
theorem stI_push {nm : List ByteArray} {S : WS} {i : Nat} {x : ByteArray} (h : nm[i]? = some x) (hx : memB x S.out = false) {j : Nat} (hj : j < nm.length) : stI nm (S.push i) j = if j = i then 1 else stI nm S j := by
  obtain ⟨y, hy⟩ : ∃ y, nm[j]? = some y := ⟨nm[j], List.getElem?_eq_getElem hj⟩
  rw [stI_at hy, stI_at hy]
  show (if memB y S.out = true then (2 : Int) else if j ∈ i :: S.wt then 1 else 0) = _
  by_cases e : j = i
  · subst e
    rw [h] at hy
    cases hy
    rw [hx]
    simp
  · rw [if_neg e]
    have : (j ∈ i :: S.wt) ↔ j ∈ S.wt := by rw [List.mem_cons]; exact ⟨fun h => h.resolve_left e, .inr⟩
    simp only [this]
def EnR (N g : Nat) (pv : Value) (ps : List packC.D) (mb kb : Nat) (D : DataW Unit) (nv : Value) (c : Int) (S : WS) (W : World) (e : Ending) (W' : World) : Prop := ∃ st wv, e = .returned (.int .i64 c) ∧ WK W' N g pv ps st S mb kb D wv nv ∧ StOk (namesP ps) S st ∧ Below N W W'
set_option maxRecDepth 100000 in
set_option maxHeartbeats 8000000 in
theorem enter_none (N g : Nat) (pv : Value) (ps : List packC.D) (st : Nat → Int) (S : WS) (mb kb : Nat) (D : DataW Unit) (wv nv : Value) (x : ByteArray) (W : World) (hx : x.size ≤ maxLen) (h : WK W N g pv ps st S mb kb D wv nv) (hs : StOk (namesP ps) S st) (hno : x ∉ namesP ps) :
    Calls Tryz.prog 120 #[.pointer (some ⟨g, 0, none⟩), .string x] W (EnR N g pv ps mb kb D nv 3 S W) := by
  obtain ⟨c, hlk, -⟩ := h.map.look x hx
  rw [memB_no hno] at hlk
  obtain ⟨⟨c0, c1, c2, c3, c4⟩, -, -⟩ := h.cells
  have H := hid h
  have HS := hid hs
  clear h hno hs
  go_enter Tryz.func120, Tryz.ntmps120
  go_wp2_with fail
  go_ret
  exact ⟨st, wv, rfl, unhid H, unhid HS, Below.refl _ _⟩
set_option maxRecDepth 100000 in
set_option maxHeartbeats 16000000 in
theorem enter_at (N g : Nat) (pv : Value) (ps : List packC.D) (st : Nat → Int) (S : WS) (mb kb : Nat) (D : DataW Unit) (wv nv : Value) (x : ByteArray) (i : Nat) (W : World) (hx : x.size ≤ maxLen) (hwl : S.wt.length ≤ 1048576) (h : WK W N g pv ps st S mb kb D wv nv) (hs : StOk (namesP ps) S st) (hi : (namesP ps)[i]? = some x) :
    Calls Tryz.prog 120 #[.pointer (some ⟨g, 0, none⟩), .string x] W (EnR N g pv ps mb kb D nv (enC S i x) (enS S i x) W) := by
  have hil : i < (namesP ps).length := (List.getElem?_eq_some_iff.1 hi).1
  have hip : i < ps.length := by rwa [namesP_len] at hil
  obtain ⟨c, hlk, hc⟩ := h.map.look x hx
  obtain rfl := hc i hi
  rw [memB_yes (List.mem_of_getElem? hi)] at hlk
  obtain ⟨⟨c0, c1, c2, c3, c4⟩, f3, -⟩ := h.cells
  obtain ⟨⟨k0, k1⟩, fk, -⟩ := h.markAt hip
  have hst := hs i hil
  rw [stI_at hi] at hst
  rw [hst] at k0
  have H := hid h
  have HS := hid hs
  have HI := hid hi
  clear h hs hi hst hc
  cases hm : memB x S.out with
  | true =>
    have E := hid (show enC S i x = 0 ∧ enS S i x = S by unfold enC enS; rw [hm]; exact ⟨rfl, rfl⟩)
    rw [hm, if_pos rfl] at k0
    clear hm
    go_enter Tryz.func120, Tryz.ntmps120
    go_wp2_with fail
    go_ret
    exact ⟨st, wv, by rw [(unhid E).1]; rfl, by rw [(unhid E).2]; exact unhid H, by rw [(unhid E).2]; exact unhid HS, Below.refl _ _⟩
  | false =>
    rw [hm, if_neg (by decide)] at k0
    have HM := hid hm
    by_cases hw : i ∈ S.wt
    · have E := hid (show enC S i x = 4 ∧ enS S i x = S by unfold enC enS; rw [hm, if_pos hw, if_pos hw]; exact ⟨rfl, rfl⟩)
      rw [if_pos hw] at k0
      clear hm hw
      go_enter Tryz.func120, Tryz.ntmps120
      go_wp2_with fail
      go_ret
      exact ⟨st, wv, by rw [(unhid E).1]; rfl, by rw [(unhid E).2]; exact unhid H, by rw [(unhid E).2]; exact unhid HS, Below.refl _ _⟩
    · have E := hid (show enC S i x = 0 ∧ enS S i x = S.push i by unfold enC enS; rw [hm, if_neg hw, if_neg hw]; exact ⟨rfl, rfl⟩)
      rw [if_neg hw] at k0
      clear hm hw
      have H1 := hid ((unhid H).mark (W' := W.setCell ⟨kb, i * 2 + 0, none⟩ (.int .i64 1)) (st' := fun j => if j = i then 1 else st j) (S' := S) i 0 1 (by omega) rfl rfl rfl (fun j hj => ⟨by
        by_cases e : j = i
        · subst e; rw [if_pos rfl, if_pos (by omega)]
        · rw [if_neg e, if_neg (by omega)], by rw [if_neg (by omega)]⟩))
      obtain ⟨⟨d0, d1, d2, d3, d4⟩, g3, -⟩ := (unhid H1).cells
      rw [Nat.add_zero] at d3
      have HL := hid (unhid H).lo
      have HBW := hid (show Below N W (W.setCell ⟨kb, i * 2, none⟩ (.int .i64 1)) from (Below.refl _ W).setCell (p := ⟨kb, i * 2, none⟩) (unhid HL).2.2 _)
      rw [Nat.add_zero] at H1
      have HW := hid ((unhid H1).waits.alloc (.cells #[.int .i64 (i : Int)] 3))
      have HC := hid (show ((W.setCell ⟨kb, i * 2, none⟩ (.int .i64 1)).alloc (.cells #[.int .i64 (i : Int)] 3)).cell? ⟨W.heap.size, 0, none⟩ = some (.int .i64 (i : Int)) by have h1 := cell_newN (W.setCell ⟨kb, i * 2, none⟩ (.int .i64 1)) (.int .i64 (i : Int)) 3; rwa [show (W.setCell ⟨kb, i * 2, none⟩ (.int .i64 1)).heap.size = W.heap.size by simp] at h1)
      have HSZ := hid (show N ≤ ((W.setCell ⟨kb, i * 2, none⟩ (.int .i64 1)).alloc (.cells #[.int .i64 (i : Int)] 3)).heap.size from by have := (unhid HL).1; have := (unhid H).glt.1; simp; omega)
      clear d0 d1 d2 d4 g3
      go_enter Tryz.func120, Tryz.ntmps120
      go_wp2_with (at_builtin; refine wp_int rfl _ _ rfl N wv S.wt.length _ (i : Int) W.heap.size rfl rfl (unhid HW) (unhid HC) (by omega) (unhid HSZ) ?_)
      intro v' W2 hown hg hat
      obtain ⟨va, vc, hvv⟩ := ownsRow_sl hown
      subst hvv
      have hA : Below (W.setCell ⟨kb, i * 2, none⟩ (.int .i64 1)).heap.size (W.setCell ⟨kb, i * 2, none⟩ (.int .i64 1)) ((W.setCell ⟨kb, i * 2, none⟩ (.int .i64 1)).alloc (.cells #[.int .i64 (i : Int)] 3)) := (Below.refl _ _).alloc (Nat.le_refl _) _
      have hsz : ((W.setCell ⟨kb, i * 2, none⟩ (.int .i64 1)).alloc (.cells #[.int .i64 (i : Int)] 3)).heap.size = W.heap.size + 1 := by simp
      have H2 := (unhid H1).below hA
      obtain ⟨l1, l2, l3⟩ := H2.glt
      obtain ⟨p1, p2, p3⟩ := H2.wap
      have hb2 := (hg.block g l1 (fun e => p1 e.symm)).trans H2.box
      obtain ⟨e3, f3⟩ := cell_fz hb2 3 _ rfl
      have hnew : ∀ j, (Value.slice va (S.wt.length + 1) vc).ownBlock = some j → j ≠ g ∧ j ≠ mb ∧ j ≠ kb ∧ nv.ownBlock ≠ some j := fun j ej => by
        rcases hat with e | e
        · rw [e] at ej
          exact ⟨fun q => p1 (by rw [ej, q]), fun q => p2 (by rw [ej, q]), fun q => p3 (by rw [ej, q]), H2.wn j ej⟩
        · rw [e] at ej
          injection ej with ej
          refine ⟨by omega, by omega, by omega, fun q => ?_⟩
          have := (H2.names.lt j q).2
          omega
      have hnk : ∀ j, nv.ownBlock = some j → W2.heap[j]? = ((W.setCell ⟨kb, i * 2, none⟩ (.int .i64 1)).alloc (.cells #[.int .i64 (i : Int)] 3)).heap[j]? := fun j ej => hg.block j (H2.names.lt j ej).2 (fun q => H2.wn j q.symm ej)
      have HF := hid (H2.field (W' := W2.setCell ⟨g, 3, none⟩ (.slice va (S.wt.length + 1) vc)) (S' := S.push i) (wv' := .slice va (S.wt.length + 1) vc) (nv' := nv) (heap_setCell_same W2 g 3 _ _ (.slice va (S.wt.length + 1) vc) hb2) (fun j hj => (Below.heap_setCell _ _ _ _ (by rcases hj with rfl | rfl; exact H2.ap.1; exact H2.ap.2.1)).trans (hg.block j (by rcases hj with rfl | rfl; exact l2; exact l3) (fun q => by rcases hj with rfl | rfl; exact p2 q.symm; exact p3 q.symm))) rfl
        (by rw [intsV_push]; exact ownsRow_keep hown (fun j ej => Below.heap_setCell _ _ _ _ (hnew j ej).1))
        (ownsRow_keep (ownsRow_keep H2.names hnk) (fun j ej => Below.heap_setCell _ _ _ _ (fun q => H2.nap.1 (by rw [ej]; exact congrArg some q))))
        ⟨fun q => (hnew g q).1 rfl, fun q => (hnew mb q).2.1 rfl, fun q => (hnew kb q).2.2.1 rfl⟩ H2.nap (fun j ej => (hnew j ej).2.2.2))
      have hNg := (unhid HL).1
      have HB := hid (show Below N W (W2.setCell ⟨g, 3, none⟩ (.slice va (S.wt.length + 1) vc)) from Below.setCell (p := ⟨g, 3, none⟩) (by
        have h1 : Below N W ((W.setCell ⟨kb, i * 2, none⟩ (.int .i64 1)).alloc (.cells #[.int .i64 (i : Int)] 3)) := (unhid HBW).trans (hA.mono (by have := (unhid HL).1; have := (unhid H).glt.1; simp; omega))
        exact ⟨hg.os.trans h1.os, hg.tape.trans h1.tape, hg.output.trans h1.output, Nat.le_trans h1.size hg.size, fun k hk => (hg.block k (by omega) (fun e => by have := (H2.waits.lt k e.symm).1; omega)).trans (h1.block k hk)⟩) (unhid HL).1 _)
      clear hown hg hat hA H2 l1 l2 l3 p1 p2 p3 hb2 hnew hnk HW HC HSZ
      go_wp2_with fail
      go_ret
      refine ⟨_, _, by rw [(unhid E).1]; rfl, by rw [(unhid E).2]; exact unhid HF, ?_, unhid HB⟩
      rw [(unhid E).2]
      intro j hj
      rw [stI_push (unhid HI) (unhid HM) hj]
      show (if j = i then (1 : Int) else st j) = _
      rw [unhid HS j hj]
end Go.Proofs.YtoihhlkidlapmaaGreat

namespace Go.Proofs.YtoihhlkidlapmaaGreat
open Go.RowKit Go.Shelf Go.Maps
set_option maxRecDepth 100000 in
set_option maxHeartbeats 8000000 in
theorem fits_any (N g : Nat) (pa : Option Addr) (pc : Nat) (ps : List packC.D) (st : Nat → Int) (S : WS) (mb kb : Nat) (D : DataW Unit) (wv nv : Value) (n : needC.D) (W : World) (hsm : smallPs ps) (hok : allPk ps = true) (hnd : (namesP ps).Nodup) (hp : rowAt packC W (.slice pa ps.length pc) ps) (h : WK W N g (.slice pa ps.length pc) ps st S mb kb D wv nv) (hn : needOkD n = true) (hsn : (NeedD.name n).size ≤ 1048576 ∧ (NeedD.version n).size ≤ 1048576) :
    Calls Tryz.prog 186 #[.pointer (some ⟨g, 0, none⟩), .agg #[.string (NeedD.name n), .int .i64 (NeedD.kind n), .string (NeedD.version n)]] W fun e W' => e = .returned (.bool (hasNeed ps n)) ∧ Below W.heap.size W W' := by
  have HR := hid hp
  obtain ⟨a', c', ev, -, -, hrow⟩ := hp
  injection ev with ea _ ec
  subst ea ec
  have HROW := hid hrow
  have HSM := hid hsm
  have HOK := hid hok
  have HND := hid hnd
  have H := hid h
  have HN := hid hn
  have SN := hid hsn
  have hgl := h.glt
  clear hrow hsm hok hnd h hn hsn
  go_enter Tryz.func186, Tryz.ntmps186
  go_wp2_with fail
  have hbox := World.alloc_heap_new W (.cells #[.string (NeedD.name n), .int .i64 (NeedD.kind n), .string (NeedD.version n)] 36)
  have hB0 : Below W.heap.size W (W.alloc (.cells #[.string (NeedD.name n), .int .i64 (NeedD.kind n), .string (NeedD.version n)] 36)) := (Below.refl _ W).alloc (Nat.le_refl _) _
  have hlw : W.heap.size < (W.alloc (.cells #[.string (NeedD.name n), .int .i64 (NeedD.kind n), .string (NeedD.version n)] 36)).heap.size := by simp
  generalize W.alloc (.cells #[.string (NeedD.name n), .int .i64 (NeedD.kind n), .string (NeedD.version n)] 36) = W1 at hbox hB0 hlw ⊢
  have BX1 := hid hbox
  have HB1 := hid hB0
  have HLW1 := hid hlw
  have H1 := hid ((unhid H).below hB0)
  obtain ⟨c, hlk2, hc⟩ := ((unhid H1).map.keep (W' := W1.drew) rfl).look (NeedD.name n) (le_maxLen (unhid SN).1)
  have HC := hid hc
  clear hbox hB0 hlw hc
  have g0 : ∀ x : CW (fun w' => Below W1.heap.size W1 w'), x.w.cell? ⟨W.heap.size, 0, none⟩ = some (.string (NeedD.name n)) := fun x => cell_arrS ((x.h.block _ (unhid HLW1)).trans (unhid BX1)) 0 _ rfl
  have g1 : ∀ x : CW (fun w' => Below W1.heap.size W1 w'), x.w.cell? ⟨W.heap.size, 1, none⟩ = some (.int .i64 (NeedD.kind n)) := fun x => cell_arrS ((x.h.block _ (unhid HLW1)).trans (unhid BX1)) 1 _ rfl
  have g2 : ∀ x : CW (fun w' => Below W1.heap.size W1 w'), x.w.cell? ⟨W.heap.size, 2, none⟩ = some (.string (NeedD.version n)) := fun x => cell_arrS ((x.h.block _ (unhid HLW1)).trans (unhid BX1)) 2 _ rfl
  have k0 : ∀ x : CW (fun w' => Below W1.heap.size W1 w'), x.w.cell? ⟨g, 0, none⟩ = some (.slice pa ps.length pc) := fun x => cell_arrS ((x.h.block _ (unhid H1).glt.1).trans (unhid H1).box) 0 _ rfl
  have k1 : ∀ x : CW (fun w' => Below W1.heap.size W1 w'), x.w.cell? ⟨g, 1, none⟩ = some (.map (some mb)) := fun x => cell_arrS ((x.h.block _ (unhid H1).glt.1).trans (unhid H1).box) 1 _ rfl
  have hba : ∀ {q : Prop}, (CW (fun w' => Below W1.heap.size W1 w') → q) ↔ q := CW.all (Below.refl _ W1)
  refine held_begin (fun w' => Below W1.heap.size W1 w') (by kernel_rfl) (drew_belowS _) ?_
  refine held_here [true, true, true, true, true, true] (by kernel_rfl) (by kernel_rfl) (fun _ _ _ _ _ h => h) (drew_belowS _) ?_
  dsimp only [pick]
  repeat (go_big_quiet_step (fail))
  refine wpQuiet_nil ?_
  have hD := drew_belowS (B := W1.heap.size) W1
  generalize W1.drew = W2 at hD hlk2 ⊢
  refine held_op 6 (by kernel_rfl) (by kernel_rfl) rfl (fun K hK => ?_)
  go_simp
  refine hK.out _ _ hD ?_
  refine held_here [false, false, false, false, false, false, false, true, true, true, true, true] (by kernel_rfl) (by kernel_rfl) (fun _ _ _ _ _ h => h) hD ?_
  dsimp only [pick]
  repeat (go_big_quiet_step (fail))
  refine wpQuiet_nil ?_
  refine held_done (by kernel_rfl) ?_
  clear hba g0 g1 g2 k0 k1 hlk2
  have HB2 := hid ((unhid HB1).trans (hD.mono (unhid HB1).size))
  have BX2 := hid ((hD.block _ (unhid HLW1)).trans (unhid BX1))
  have HLW2 := hid (Nat.lt_of_lt_of_le (unhid HLW1) hD.size)
  have H2 := hid ((unhid H1).below hD)
  clear hD H1 BX1 HLW1 HB1
  have g0 : ∀ x : CW (fun w' => Below W2.heap.size W2 w'), x.w.cell? ⟨W.heap.size, 0, none⟩ = some (.string (NeedD.name n)) := fun x => cell_arrS ((x.h.block _ (unhid HLW2)).trans (unhid BX2)) 0 _ rfl
  have g1 : ∀ x : CW (fun w' => Below W2.heap.size W2 w'), x.w.cell? ⟨W.heap.size, 1, none⟩ = some (.int .i64 (NeedD.kind n)) := fun x => cell_arrS ((x.h.block _ (unhid HLW2)).trans (unhid BX2)) 1 _ rfl
  have g2 : ∀ x : CW (fun w' => Below W2.heap.size W2 w'), x.w.cell? ⟨W.heap.size, 2, none⟩ = some (.string (NeedD.version n)) := fun x => cell_arrS ((x.h.block _ (unhid HLW2)).trans (unhid BX2)) 2 _ rfl
  have k0 : ∀ x : CW (fun w' => Below W2.heap.size W2 w'), x.w.cell? ⟨g, 0, none⟩ = some (.slice pa ps.length pc) := fun x => cell_arrS ((x.h.block _ (unhid H2).glt.1).trans (unhid H2).box) 0 _ rfl
  have hba : ∀ {q : Prop}, (CW (fun w' => Below W2.heap.size W2 w') → q) ↔ q := CW.all (Below.refl _ W2)
  by_cases hin : NeedD.name n ∈ namesP ps
  · rw [memB_yes hin]
    obtain ⟨i, hi⟩ := List.getElem?_of_mem hin
    obtain rfl := unhid HC i hi
    obtain ⟨q, hq, hqn⟩ := namesP_some hi
    have hil : i < ps.length := (List.getElem?_eq_some_iff.1 hq).1
    have hne : ps ≠ [] := by intro e; subst e; simp at hil
    obtain ⟨b, o, rfl, hbl, hc⟩ := (unhid HROW).resolve_left hne
    have SQ := hid ((unhid HSM).2 q (List.mem_of_getElem? hq))
    have EH := hid (show fitsB (NeedD.name n).data.toList (NeedD.kind n) (NeedD.version n).data.toList (NeedD.name n).data.toList (PackD.version q).data.toList = hasNeed ps n by
      rw [has_atN (unhid HND) hq hqn]
      have h1 : pkOk q = true := List.all_eq_true.1 (unhid HOK) q (List.mem_of_getElem? hq)
      have h2 : versOk (PackD.version q).data.toList = true := by
        unfold pkOk at h1
        simp only [Bool.and_eq_true] at h1
        exact h1.1.1.2
      have h3 : needB (NeedD.name n).data.toList (NeedD.kind n) (NeedD.version n).data.toList = true := unhid HN
      unfold fitsB
      rw [h2, h3]
      simp)
    obtain ⟨-, -, -, -, ⟨-, d1, -, -⟩, -⟩ := pack_cells (unhid HB2) hbl hc hq
    have hbw : b < W2.heap.size := Nat.lt_of_lt_of_le hbl (unhid HB2).size
    have g3 : ∀ x : CW (fun w' => Below W2.heap.size W2 w'), x.w.cell? ⟨b, o + i * 4 + 1, none⟩ = some (.string (PackD.version q)) := fun x => (x.h.cell (p := ⟨b, o + i * 4 + 1, none⟩) hbw).trans d1
    clear hi hq hqn d1 hc hne hbl hin
    go_wp2_with fail
    refine held_begin (fun w' => Below W2.heap.size W2 w') (by kernel_rfl) (drew_belowS _) ?_
    refine held_here [true, true, true, true, true, true, true, true, true, true, true, true, true] (by kernel_rfl) (by kernel_rfl) (fun _ _ _ _ _ h => h) (drew_belowS _) ?_
    dsimp only [pick]
    repeat (go_big_quiet_step (fail))
    refine wpQuiet_nil ?_
    have hD := drew_belowS (B := W2.heap.size) W2
    generalize W2.drew = W3 at hD ⊢
    clear g0 g1 g2 g3 k0
    refine held_call 13 248 30 (enters_of Tryz.func248 (by kernel_rfl) rfl) #[.agg #[.string (NeedD.name n), .int .i64 (NeedD.kind n), .string (NeedD.version n)], .string (NeedD.name n), .string (PackD.version q)] (by kernel_rfl) (by kernel_rfl) rfl rfl rfl rfl rfl ?_
    refine (NeedFits_any (NeedD.name n) (NeedD.version n) (NeedD.name n) (PackD.version q) (NeedD.kind n) (le_maxLen (unhid SN).1) (le_maxLen (unhid SN).2) (le_maxLen (unhid SQ).version) W3).mono ?_
    rintro x W4 ⟨rfl, hb⟩
    have hD2 := hD.trans (hb.mono hD.size)
    have HB4 := hid ((unhid HB2).trans (hD2.mono (unhid HB2).size))
    refine ⟨_, rfl, hD2, ?_⟩
    simp only [Act.put, List.setIfInBounds_toArray, List.set_cons_zero, List.set_cons_succ]
    rw [unhid EH]
    clear hb
    refine held_here [false, false, false, false, false, false, false, false, false, false, false, false, false, false, true, true] (by kernel_rfl) (by kernel_rfl) (fun _ _ _ _ _ h => h) hD2 ?_
    dsimp only [pick]
    repeat (go_big_quiet_step (fail))
    refine wpQuiet_nil ?_
    refine held_done (by kernel_rfl) ?_
    clear hba hD hD2
    go_wp2_with fail
    go_ret
    exact ⟨rfl, unhid HB4⟩
  · rw [memB_no hin]
    have EH := hid (has_none hin)
    clear hin
    go_wp2_with fail
    refine held_begin (fun w' => Below W2.heap.size W2 w') (by kernel_rfl) (drew_belowS _) ?_
    refine held_here [true, true, true, true, true, true, true, true, true, true, true, true, true] (by kernel_rfl) (by kernel_rfl) (fun _ _ _ _ _ h => h) (drew_belowS _) ?_
    dsimp only [pick]
    repeat (go_big_quiet_step (fail))
    refine wpQuiet_nil ?_
    have hD := drew_belowS (B := W2.heap.size) W2
    generalize W2.drew = W3 at hD ⊢
    clear g0 g1 g2 k0
    refine held_skip 13 30 (by kernel_rfl) (by kernel_rfl) rfl rfl rfl hD ?_
    simp only [Act.put, List.setIfInBounds_toArray, List.set_cons_zero, List.set_cons_succ]
    refine held_here [false, false, false, false, false, false, false, false, false, false, false, false, false, false, true, true] (by kernel_rfl) (by kernel_rfl) (fun _ _ _ _ _ h => h) hD ?_
    dsimp only [pick]
    repeat (go_big_quiet_step (fail))
    refine wpQuiet_nil ?_
    refine held_done (by kernel_rfl) ?_
    have HB4 := hid ((unhid HB2).trans (hD.mono (unhid HB2).size))
    clear hba hD
    go_wp2_with fail
    go_ret
    exact ⟨by rw [unhid EH]; rfl, unhid HB4⟩
end Go.Proofs.YtoihhlkidlapmaaGreat
