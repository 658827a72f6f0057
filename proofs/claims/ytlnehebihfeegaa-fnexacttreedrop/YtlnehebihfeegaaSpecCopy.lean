/- A row of entries copied, by the model. -/
import Derived.Test.YtlnehebihfeegaaTreeEnts
import Derived.Test.YtlnehebihfeegaaMarks
namespace Go.Proofs.Ytlnehebihfeegaa
open Go.RowKit Go.Shelf

theorem valsOf_len (es : List Ent) : (valsOf es).length = es.length * 4 := by
  induction es with
  | nil => rfl
  | cons e es ih => simp only [valsOf, List.flatMap_cons, List.length_append, List.length_cons] at *; rw [ih]; simp [Ent.vals]; omega
theorem valsOf_get : ∀ (es : List Ent) (i r : Nat), r < 4 → (valsOf es)[i * 4 + r]? = (es[i]?).bind fun e => e.vals.toList[r]?
  | [], i, r, h => by simp [valsOf]
  | e :: es, 0, r, h => by
    show (e.vals.toList ++ valsOf es)[0 * 4 + r]? = _
    rw [Nat.zero_mul, Nat.zero_add, List.getElem?_append_left (by simp [Ent.vals]; omega)]
    rfl
  | e :: es, i + 1, r, h => by
    show (e.vals.toList ++ valsOf es)[(i + 1) * 4 + r]? = _
    rw [List.getElem?_append_right (by simp [Ent.vals]; omega)]
    have : (i + 1) * 4 + r - e.vals.toList.length = i * 4 + r := by simp [Ent.vals]; omega
    rw [this, valsOf_get es i r h, List.getElem?_cons_succ]
theorem valsOf_one (es : List Ent) : ∀ u ∈ valsOf es, u.oneCell' = true := by
  intro u hu
  simp only [valsOf, List.mem_flatMap] at hu
  obtain ⟨e, _, hu⟩ := hu
  simp [Ent.vals] at hu
  rcases hu with rfl | rfl | rfl | rfl <;> rfl
theorem add_plain4 (b o n : Nat) : (⟨b, o, none⟩ : Addr).add n = ⟨b, o + n, none⟩ := by simp [Addr.add]
theorem ents_cells {W : World} {b o : Nat} {es : List Ent} (h : ∀ (i : Nat) e, es[i]? = some e → EntAt W b (o + i * 4) e) : ∀ j u, (valsOf es)[j]? = some u → W.cell? ((⟨b, o, none⟩ : Addr).add j) = some u := by
  intro j u hj
  have e1 : j = j / 4 * 4 + j % 4 := by omega
  rw [e1, valsOf_get es _ _ (Nat.mod_lt _ (by omega))] at hj
  cases he : es[j / 4]? with
  | none => rw [he] at hj; cases hj
  | some e =>
    rw [he] at hj
    obtain ⟨c0, c1, c2, c3⟩ := h _ e he
    rw [add_plain4]
    have hr : j % 4 < 4 := Nat.mod_lt _ (by omega)
    have e2 : o + j = o + j / 4 * 4 + j % 4 := by omega
    rw [e2]
    have hb : e.vals.toList[j % 4]? = some u := hj
    generalize j % 4 = r at hr hb
    match r, hr with
    | 0, _ => simp [Ent.vals] at hb; rw [← hb]; exact c0
    | 1, _ => simp [Ent.vals] at hb; rw [← hb]; exact c1
    | 2, _ => simp [Ent.vals] at hb; rw [← hb]; exact c2
    | 3, _ => simp [Ent.vals] at hb; rw [← hb]; exact c3
/-- A row that is owned holds its entries. -/
theorem rowIn_of_owns {W : World} {N : Nat} {v : Value} {es : List Ent} (h : W.ownsRow N 27 4 v es.length (valsOf es)) : ∃ a cap, v = .slice a es.length cap ∧ RowIn W a N W.heap.size es := by
  rcases h.2 with ⟨rfl, h0⟩ | ⟨g, cap, cur, rfl, hN, hg, hc, _, hsz, hcells⟩
  · exact ⟨none, 0, by rw [h0], .inl (List.length_eq_zero_iff.1 h0)⟩
  · refine ⟨_, cap, rfl, .inr ⟨g, rfl, hN, (Array.getElem?_eq_some_iff.1 hg).1, cur, hg, by omega, fun i hi => ?_⟩⟩
    have he : es[i]? = some es[i] := List.getElem?_eq_getElem hi
    rw [entFn_get he]
    have hget : ∀ r, r < 4 → cur[i * 4 + r]? = es[i].vals.toList[r]? := fun r hr => by
      have h1 := valsOf_get es i r hr
      rw [he, ← hcells, List.getElem?_take_of_lt (by omega), Array.getElem?_toList] at h1
      exact h1
    exact ⟨hget 0 (by omega), hget 1 (by omega), hget 2 (by omega), hget 3 (by omega)⟩
theorem ents_take {W : World} {b o k : Nat} {es : List Ent} (h : ∀ (i : Nat) e, es[i]? = some e → EntAt W b (o + i * 4) e) : ∀ (i : Nat) e, (es.take k)[i]? = some e → EntAt W b (o + i * 4) e := fun i e hi => h i e (by
  rw [List.getElem?_take] at hi
  split at hi
  · exact hi
  · cases hi)
theorem ents_drop {W : World} {b o k : Nat} {es : List Ent} (h : ∀ (i : Nat) e, es[i]? = some e → EntAt W b (o + i * 4) e) : ∀ (i : Nat) e, (es.drop k)[i]? = some e → EntAt W b (o + k * 4 + i * 4) e := fun i e hi => by
  have := h (k + i) e (by rw [List.getElem?_drop] at hi; exact hi)
  rwa [Nat.add_mul, ← Nat.add_assoc] at this
theorem owns_empty (w : World) (N : Nat) (hN : N ≤ w.heap.size) (T : TypeId) : (w.alloc (.cells #[] T)).ownsRow N T 4 (.slice (some ⟨w.heap.size, 0, none⟩) 0 0) 0 [] :=
  ⟨rfl, .inr ⟨w.heap.size, 0, #[], rfl, hN, World.alloc_heap_new _ _, Nat.le_refl _, Nat.zero_le _, rfl, rfl⟩⟩
theorem entAt_below {W W' : World} {b o : Nat} {es : List Ent} (h : ∀ (i : Nat) e, es[i]? = some e → EntAt W b (o + i * 4) e) (hb : es = [] ∨ b < W.heap.size) (hB : Below W.heap.size W W') : ∀ (i : Nat) e, es[i]? = some e → EntAt W' b (o + i * 4) e := fun i e hi => by
  rcases hb with rfl | hb
  · simp at hi
  · exact (h i e hi).below hB hb

set_option maxRecDepth 100000 in
set_option maxHeartbeats 1000000 in
theorem l2Copy_any (es : List Ent) (b o cap : Nat) (w : World) (hn : es.length ≤ 1048576) (h : ∀ (i : Nat) e, es[i]? = some e → EntAt w b (o + i * 4) e) (hb : es = [] ∨ b < w.heap.size) :
    Calls Try.prog 64 #[.slice (some ⟨b, o, none⟩) es.length cap] w fun x w' => ∃ v, x = .returned v ∧ w'.ownsRow w.heap.size 27 4 v es.length (valsOf es) ∧ Below w.heap.size w w' := by
  obtain ⟨i0, hi0, hz0, hzs, hzb⟩ := info_parts infoEntry
  go_enter Try.func64, Try.ntmps64
  have hB1 : Below w.heap.size w (w.alloc (.cells #[] 27)) := (Below.refl _ w).alloc (Nat.le_refl _) _
  have hcs := ents_cells (entAt_below h hb hB1)
  have HV := hid (And.intro (valsOf_len es) (And.intro hcs (valsOf_one es)))
  have HB := hid hB1
  clear h hcs hB1
  go_wp2_with (at_builtin; refine wpList_append_own _ rfl _ _ 23 rfl w.heap.size 27 i0 _ 4 48 Try.underlying23 hi0 hz0 hzs hzb rfl (by decide) _ 0 [] rfl (owns_empty w _ (Nat.le_refl _) _) ⟨b, o, none⟩ es.length cap (valsOf es) rfl (unhid HV).1 (unhid HV).2.1 (unhid HV).2.2 ?c3 ?c4 ?c5 ?_)
  case c3 => unfold maxLen; omega
  case c4 => omega
  case c5 => simp
  intro v' w2 hown hg _
  obtain ⟨a2, cap2, rfl⟩ := ownsRow_slice hown
  have HF := hid (And.intro hown ((unhid HB).grown hg (unhid HB).size (fun k e => by cases e; exact Nat.le_refl _)))
  clear hown hg HV HB
  go_wp2_with fail
  go_ret
  exact ⟨_, rfl, unhid HF⟩
end Go.Proofs.Ytlnehebihfeegaa
