/- What a name of a pattern wants, as the program reads it. -/
import Derived.Test.YtiggojpepgbcoaaGlobBytes
namespace Go.Proofs.Ytiggojpepgbcoaa
open Go.RowKit Go.Shelf

/-- Wants in a row whose blocks are of a kind. -/
def WantsP (W : World) (P : Nat → Prop) (v : Value) (xs : List W8) : Prop :=
  ∃ base cells, W.ownsRow base 71 2 v xs.length cells ∧ (∀ g, v.ownBlock = some g → P g) ∧ ∀ i x, xs[i]? = some x → ∃ run fv, cells[2 * i]? = some (.bool run) ∧ cells[2 * i + 1]? = some fv ∧ WantIs W P x run fv
theorem Wants.p {W : World} {base : Nat} {v : Value} {xs : List W8} (h : Wants W base v xs) : WantsP W (fun b => base ≤ b) v xs := by
  obtain ⟨cells, h1, h2⟩ := h
  refine ⟨base, cells, h1, fun g e => (h1.lt g e).1, fun i x hi => ?_⟩
  obtain ⟨run, fv, g1, g2, g3⟩ := h2 i x hi
  exact ⟨run, fv, g1, g2, g3.kept (Nat.le_refl _) (fun _ _ _ => rfl) (fun b hb _ => hb.1)⟩
theorem ownsRow_kept {w w' : World} {base : Nat} {e : TypeId} {size : Nat} {v : Value} {n : Nat} {xs : List Value} (h : w.ownsRow base e size v n xs) (hk : ∀ g, v.ownBlock = some g → w'.heap[g]? = w.heap[g]?) : w'.ownsRow base e size v n xs := by
  refine ⟨h.1, ?_⟩
  rcases h.2 with h1 | ⟨g, cap, cur, rfl, h2, h3, h4⟩
  · exact .inl h1
  · exact .inr ⟨g, cap, cur, rfl, h2, by rw [hk g rfl]; exact h3, h4⟩
theorem WantsP.kept {W W' : World} {P P' : Nat → Prop} {v : Value} {xs : List W8} (h : WantsP W P v xs) (hs : W.heap.size ≤ W'.heap.size) (hk : ∀ b, P b → b < W.heap.size → W'.heap[b]? = W.heap[b]?) (hP : ∀ b, P b → b < W.heap.size → P' b) : WantsP W' P' v xs := by
  obtain ⟨base, cells, h1, h2, h3⟩ := h
  refine ⟨base, cells, ownsRow_kept h1 (fun g e => hk g (h2 g e) (h1.lt g e).2), fun g e => hP g (h2 g e) (h1.lt g e).2, fun i x hi => ?_⟩
  obtain ⟨run, fv, g1, g2, g3⟩ := h3 i x hi
  exact ⟨run, fv, g1, g2, g3.kept hs hk hP⟩

/-- One place of a pattern. -/
abbrev W9 := Option (List W8)
abbrev W9.deep : W9 := none
abbrev W9.name (xs : List W8) : W9 := some xs
def nameW (s : ByteArray) : Option W9 := if (s.toList == [42, 42]) = true then some .deep else match wants s with
  | some (x :: xs) => some (.name (x :: xs))
  | _ => none
/-- What its value is that the program keeps. -/
def NameIs (W : World) (P : Nat → Prop) : W9 → Bool → Value → Prop
  | none, run, fv => run = true ∧ fv = .nilFunc
  | some xs, run, fv => run = false ∧ ∃ b v, fv = .func (.func 48) #[] #[.pointer (some ⟨b, 0, none⟩)] ∧ P b ∧ b < W.heap.size ∧ W.cell? ⟨b, 0, none⟩ = some v ∧ WantsP W P v xs
theorem NameIs.kept {W W' : World} {P P' : Nat → Prop} {x : W9} {run : Bool} {fv : Value} (h : NameIs W P x run fv) (hs : W.heap.size ≤ W'.heap.size) (hk : ∀ b, P b → b < W.heap.size → W'.heap[b]? = W.heap[b]?) (hP : ∀ b, P b → b < W.heap.size → P' b) : NameIs W' P' x run fv := by
  rcases x with _ | xs
  · exact h
  · obtain ⟨h0, b, v, h1, h2, h3, h4, h5⟩ := h
    exact ⟨h0, b, v, h1, hP b h2 h3, Nat.lt_of_lt_of_le h3 hs, (World.cell?_of_block (w := W) (hk b h2 h3)).trans h4, h5.kept hs hk hP⟩

set_option maxRecDepth 100000 in
set_option maxHeartbeats 2000000 in
theorem nameWant_any (s : ByteArray) (hs : s.size ≤ 1048576) (w : World) :
    Calls Try.prog 35 #[.string s] w fun e W' => ∃ run fv, e = .returned (.tuple #[.agg #[.bool run, fv], .bool (nameW s).isSome]) ∧ (fv = .nilFunc ∨ ∃ f ca, fv = .func (.func f) #[] ca) ∧ (∀ x, nameW s = some x → NameIs W' (fun b => w.heap.size ≤ b) x run fv) ∧ Below w.heap.size w W' := by
  have hc := cell_two_l w (.bool false) .nilFunc 51
  have CL := hid hc
  clear hc
  cases hd : (s.toList == [42, 42])
  · have hd' : (s.toList == (⟨#[42, 42]⟩ : ByteArray).toList) = false := by rw [Lib.toList_data ⟨#[42, 42]⟩]; exact hd
    go_enter Try.func35, Try.ntmps35
    go_wp2_with fail
    refine (byteWants_any s hs _).mono ?_
    rintro e w1 ⟨v, rfl, ⟨sa, sl, sc, rfl⟩, hv, hb⟩
    have hok : ((wants s).any fun l => !l.isEmpty) = (nameW s).isSome := by
      unfold nameW; rw [hd]
      cases wants s with
      | none => rfl
      | some l => cases l <;> rfl
    rw [hok]
    have HV := hid hv
    have HB1 := hid hb
    obtain ⟨k0, k1, k2, k3⟩ := unhid CL
    have hA : Below (w.heap.size + 1) (w.alloc (.cells #[.bool false, .nilFunc] 51)) (w1.alloc (.cells #[.slice sa sl sc] 58)) := (hb.mono (by simp)).alloc (by have := hb.size; simpa using this) _
    have c0 := (hA.cell (p := ⟨w.heap.size, 0, none⟩) (Nat.lt_succ_self _)).trans k0
    have c1 := (hA.cell (p := ⟨w.heap.size, 1, none⟩) (Nat.lt_succ_self _)).trans k1
    have f0 := (hA.frozen (p := ⟨w.heap.size, 0, none⟩) (Nat.lt_succ_self _)).trans k2
    have f1 := (hA.frozen (p := ⟨w.heap.size, 1, none⟩) (Nat.lt_succ_self _)).trans k3
    have HA := hid hA
    have hz : w.heap.size + 1 ≤ w1.heap.size := by have := hb.size; simpa using this
    have hne : ¬ w1.heap.size = w.heap.size := by omega
    clear hv hb hok hA k0 k1 k2 k3
    go_wp2_with fail
    refine bodyPost_ret (v := .tuple #[.agg #[.bool false, .func (.func 48) #[] #[.pointer (some ⟨w1.heap.size, 0, none⟩)]], .bool (nameW s).isSome]) (by simp [results, Try.results35, go_sem, World.cell?_setCell_same', c0, c1]) rfl ⟨false, _, rfl, .inr ⟨_, _, rfl⟩, fun x hx => ?_, ?_⟩
    · obtain ⟨xs, rfl, hxs⟩ : ∃ xs, x = .name xs ∧ wants s = some xs := by
        unfold nameW at hx; rw [hd] at hx
        cases hw : wants s with
        | none => rw [hw] at hx; cases hx
        | some l =>
          rw [hw] at hx
          cases l with
          | nil => cases hx
          | cons y l => cases hx; exact ⟨_, rfl, rfl⟩
      have hk : ∀ b, w.heap.size + 1 ≤ b → b < w1.heap.size → (((w1.alloc (.cells #[.slice sa sl sc] 58)).setCell ⟨w.heap.size, 0, none⟩ (.bool false)).setCell ⟨w.heap.size, 1, none⟩ (.func (.func 48) #[] #[.pointer (some ⟨w1.heap.size, 0, none⟩)])).heap[b]? = w1.heap[b]? := fun b h1 h2 => by
        rw [Below.heap_setCell _ _ _ b (by simp; omega), Below.heap_setCell _ _ _ b (by simp; omega), Below.heap_alloc _ _ b h2]
      refine ⟨rfl, w1.heap.size, .slice sa sl sc, rfl, by omega, by simp, ?_, ?_⟩
      · rw [World.cell?_setCell_other (h := by simp), World.cell?_setCell_other (h := by simp)]
        exact (cell_new_l w1 (.slice sa sl sc) 58).1
      · exact (unhid HV xs hxs).p.kept (by simp) (fun b h1 h2 => hk b (by simpa using h1) h2) (fun b h1 _ => by simp at h1; omega)
    · exact ((((Below.refl _ w).alloc (Nat.le_refl _) _).trans ((unhid HA).mono (Nat.le_succ _))).setCell (Nat.le_refl _) _).setCell (Nat.le_refl _) _
  · have E := hid (show nameW s = some .deep by unfold nameW; rw [hd]; rfl)
    have hd' : (s.toList == (⟨#[42, 42]⟩ : ByteArray).toList) = true := by rw [Lib.toList_data ⟨#[42, 42]⟩]; exact hd
    go_enter Try.func35, Try.ntmps35
    go_wp2_with fail
    refine bodyPost_ret (v := .tuple #[.agg #[.bool true, .nilFunc], .bool (nameW s).isSome]) (by simp [results, Try.results35, go_sem, unhid E]) rfl ⟨true, .nilFunc, rfl, .inl rfl, fun x hx => ?_, (Below.refl _ w).alloc (Nat.le_refl _) _⟩
    rw [unhid E] at hx
    cases hx
    exact ⟨rfl, rfl⟩
end Go.Proofs.Ytiggojpepgbcoaa
