/- A tree as the program keeps it; what is at a path of it; whether a path has a place in it. -/
import Derived.Test.YtlnehebihfeegaaTreeIns
namespace Go.Proofs.Ytlnehebihfeegaa
open Go.RowKit Go.Shelf

def pathsOf (es : List Ent) : List ByteArray := es.map (·.path)
/-- The tree of entries at a block: two rows, of paths and of what stands there, from a bound on. -/
def TreeAt (W : World) (N bt : Nat) (es : List Ent) : Prop := ∃ vp vn, W.heap[bt]? = some (.cells #[vp, vn] 59 (0, 0)) ∧ W.ownsRow N 9 1 vp es.length (es.map fun e => .string e.path) ∧ W.ownsRow N 63 1 vn es.length (es.map nodeV)
theorem TreeAt.lt {W : World} {N bt : Nat} {es : List Ent} (h : TreeAt W N bt es) : bt < W.heap.size := by
  obtain ⟨vp, vn, h1, _⟩ := h; exact (Array.getElem?_eq_some_iff.1 h1).1
theorem ownsRow_kept {w w' : World} {base : Nat} {e : TypeId} {size : Nat} {v : Value} {n : Nat} {xs : List Value} (h : w.ownsRow base e size v n xs) (hk : ∀ g, v.ownBlock = some g → w'.heap[g]? = w.heap[g]?) : w'.ownsRow base e size v n xs := by
  refine ⟨h.1, ?_⟩
  rcases h.2 with h1 | ⟨g, cap, cur, rfl, h2, h3, h4⟩
  · exact .inl h1
  · exact .inr ⟨g, cap, cur, rfl, h2, by rw [hk g rfl]; exact h3, h4⟩
theorem TreeAt.below {W W' : World} {N bt : Nat} {es : List Ent} (h : TreeAt W N bt es) (hb : Below W.heap.size W W') : TreeAt W' N bt es := by
  obtain ⟨vp, vn, h1, h2, h3⟩ := h
  exact ⟨vp, vn, (hb.block bt (Array.getElem?_eq_some_iff.1 h1).1).trans h1, ownsRow_kept h2 (fun g e => hb.block g (h2.lt g e).2), ownsRow_kept h3 (fun g e => hb.block g (h3.lt g e).2)⟩
theorem texts_of {W : World} {N : Nat} {v : Value} {es : List Ent} (h : W.ownsRow N 9 1 v es.length (es.map fun e => .string e.path)) : ∃ a cap, v = .slice a (pathsOf es).length cap ∧ TextsAt W a (pathsOf es) := by
  have hl : (pathsOf es).length = es.length := by simp [pathsOf]
  rcases h.2 with ⟨rfl, h0⟩ | ⟨g, cap, cur, rfl, _, hg, hc, _, hsz, hcells⟩
  · exact ⟨.none, 0, by rw [hl, h0], .inl (by rw [← List.length_eq_zero_iff, hl, h0])⟩
  · refine ⟨_, cap, by rw [hl], .inr ⟨g, 0, rfl, (Array.getElem?_eq_some_iff.1 hg).1, fun i x hi => ?_⟩⟩
    have hil : i < es.length := by rw [← hl]; exact (List.getElem?_eq_some_iff.1 hi).1
    have h1 : (cur.toList.take (es.length * 1))[i]? = some (.string x) := by
      rw [hcells, List.getElem?_map]
      unfold pathsOf at hi
      rw [List.getElem?_map] at hi
      cases he : es[i]? with
      | none => rw [he] at hi; cases hi
      | some e => rw [he] at hi; cases hi; rfl
    rw [List.getElem?_take_of_lt (by omega), Array.getElem?_toList] at h1
    simp [World.cell?, hg, h1]
theorem node_of {W : World} {N : Nat} {v : Value} {es : List Ent} {i : Nat} {e : Ent} (h : W.ownsRow N 63 1 v es.length (es.map nodeV)) (he : es[i]? = some e) : ∃ g cap, v = .slice (some ⟨g, 0, .none⟩) es.length cap ∧ W.cell? ⟨g, i, .none⟩ = some (nodeV e) ∧ es.length ≤ cap := by
  have hil : i < es.length := (List.getElem?_eq_some_iff.1 he).1
  rcases h.2 with ⟨rfl, h0⟩ | ⟨g, cap, cur, rfl, _, hg, hc, _, hsz, hcells⟩
  · omega
  · refine ⟨g, cap, rfl, ?_, hc⟩
    have h1 : (cur.toList.take (es.length * 1))[i]? = some (nodeV e) := by rw [hcells, List.getElem?_map, he]; rfl
    rw [List.getElem?_take_of_lt (by omega), Array.getElem?_toList] at h1
    simp [World.cell?, hg, h1]
theorem placeP_E : ∀ (es : List Ent) (p : ByteArray), placeP (pathsOf es) p = placeE es p
  | [], _ => rfl
  | e :: es, p => by
    have ih := placeP_E es p
    unfold placeP placeE pathsOf at *
    rw [List.map_cons, List.takeWhile_cons, List.takeWhile_cons]
    cases ltS e.path p
    · rfl
    · simp only [if_true, List.length_cons, ih]
theorem thereP_E (es : List Ent) (p : ByteArray) : thereP (pathsOf es) p = thereE es p := by
  unfold thereP thereE
  rw [placeP_E]
  unfold pathsOf
  rw [List.getElem?_map]
  cases es[placeE es p]? <;> rfl
theorem there_get {es : List Ent} {p : ByteArray} (h : thereE es p = true) : ∃ e, es[placeE es p]? = some e ∧ e.path = p := by
  unfold thereE at h
  cases hx : es[placeE es p]? with
  | none => rw [hx] at h; cases h
  | some e => rw [hx] at h; exact ⟨e, rfl, (eqS_iff _ _).1 h⟩
def getV (es : List Ent) (p : ByteArray) : Value := if thereE es p then nodeV (entFn es (placeE es p)) else .nilIface

set_option maxRecDepth 100000 in
set_option maxHeartbeats 2000000 in
theorem mapGet_any (N bt : Nat) (es : List Ent) (p : ByteArray) (w : World) (hn : es.length ≤ 1000) (ha : Asc (pathsOf es)) (h : TreeAt w N bt es) :
    Calls Try.prog 42 #[.pointer (some ⟨bt, 0, .none⟩), .string p] w fun x w' => x = .returned (.tuple #[getV es p, .bool (thereE es p)]) ∧ w' = w := by
  obtain ⟨vp, vn, h1, h2, h3⟩ := h
  have c0 : w.cell? ⟨bt, 0, .none⟩ = some vp := by simp [World.cell?, h1]
  have c1 : w.cell? ⟨bt, 1, .none⟩ = some vn := by simp [World.cell?, h1]
  obtain ⟨a, cap, rfl, hT⟩ := texts_of h2
  have hl : (pathsOf es).length ≤ 1048576 := by simp [pathsOf]; omega
  have HT := hid (And.intro hl (And.intro ha hT))
  clear hT ha hl h2
  cases ht : thereE es p
  · have E := hid (show getV es p = .nilIface by unfold getV; rw [ht]; rfl)
    clear h1 h3
    go_enter Try.func42, Try.ntmps42
    go_wp2_with fail
    refine (BinarySearch_any (pathsOf es) a cap p _ (unhid HT).1 (unhid HT).2.1 (unhid HT).2.2).mono ?_
    rintro x w2 ⟨rfl, rfl⟩
    rw [thereP_E, ht]
    go_wp2_with fail
    go_ret2
    exact ⟨by rw [unhid E]; rfl, rfl⟩
  · obtain ⟨e, he, _⟩ := there_get ht
    obtain ⟨g, cap2, rfl, hc, hle⟩ := node_of h3 he
    have hpl : placeE es p < es.length := (List.getElem?_eq_some_iff.1 he).1
    have E := hid (show getV es p = nodeV e by unfold getV; rw [ht, entFn_get he]; rfl)
    clear h1 h3 he
    go_enter Try.func42, Try.ntmps42
    go_wp2_with fail
    refine (BinarySearch_any (pathsOf es) a cap p _ (unhid HT).1 (unhid HT).2.1 (unhid HT).2.2).mono ?_
    rintro x w2 ⟨rfl, rfl⟩
    rw [thereP_E, ht, placeP_E]
    go_wp2_with fail
    go_ret2
    exact ⟨by rw [unhid E]; rfl, rfl⟩
end Go.Proofs.Ytlnehebihfeegaa
