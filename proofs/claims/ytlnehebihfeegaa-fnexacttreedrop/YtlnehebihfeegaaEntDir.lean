/- Whether a place is a dir of entries, by the model. -/
import Derived.Test.YtlnehebihfeegaaEntFind
import Derived.Test.YtlnehebihfeegaaCalm
namespace Go.Proofs.Ytlnehebihfeegaa
open Go.RowKit Go.Shelf

def dirE (es : List Ent) (q : ByteArray) : Bool := q.toList.isEmpty || (thereE es q && (entFn es (placeE es q)).kind == 1)
def sortAt (es : List Ent) (i : Nat) : Bool := entB (entFn es i) && (i == 0 || ltS (entFn es (i - 1)).path (entFn es i).path)
def treeB (es : List Ent) : Bool := (List.range es.length).all (sortAt es) && (List.range es.length).all (fun i => dirE es (upS (entFn es i).path)) && decide (es.length ≤ 16)

theorem EntsAt.drewN {W : World} {a : Option Addr} {es : List Ent} (h : EntsAt W a es) (n : Nat) : EntsAt (W.drewN n) a es := h.below (drewN_below _ _)
set_option maxRecDepth 100000 in
set_option maxHeartbeats 2000000 in
theorem l2Dir_any (es : List Ent) (a : Option Addr) (cap : Nat) (q : ByteArray) (w : World) (hlen : es.length ≤ 1048576) (h : EntsAt w a es) :
    Calls Try.prog 59 #[.slice a es.length cap, .string q] w fun x w' => x = .returned (.bool (dirE es q)) ∧ ∃ n, w' = w.drewN n := by
  have HH := hid h
  cases he : q.toList.isEmpty
  · cases ht : thereE es q
    · have E := hid (show dirE es q = false by unfold dirE; rw [he, ht]; rfl)
      clear h
      go_enter Try.func59, Try.ntmps59
      go_wp2_with fail
      refine (l2At_any es a cap q _ hlen (unhid HH)).mono ?_
      rintro x w' ⟨rfl, n, rfl⟩
      rw [ht]
      go_wp2_with fail
      go_ret
      exact ⟨by rw [unhid E]; rfl, _, rfl⟩
    · obtain ⟨e, hek, heq⟩ : ∃ e, es[placeE es q]? = some e ∧ eqS e.path q = true := by
        unfold thereE at ht
        cases hx : es[placeE es q]? with
        | none => rw [hx] at ht; cases ht
        | some e => rw [hx] at ht; exact ⟨e, rfl, ht⟩
      have hkl : placeE es q < es.length := (List.getElem?_eq_some_iff.1 hek).1
      obtain ⟨b, o, rfl, hbl, hc⟩ := h.get (by intro e; subst e; simp at hkl)
      obtain ⟨c0, c1, c2, c3⟩ := hc _ e hek
      have E := hid (show dirE es q = (e.kind == 1) by unfold dirE; rw [he, ht, entFn_get hek]; rfl)
      clear hc hek heq h
      go_enter Try.func59, Try.ntmps59
      go_wp2_with fail
      refine (l2At_any es _ cap q _ hlen (unhid HH)).mono ?_
      rintro x w' ⟨rfl, n, rfl⟩
      rw [ht]
      go_wp2_with fail
      go_ret
      exact ⟨by rw [unhid E]; rfl, _, rfl⟩
  · have E := hid (show dirE es q = true by unfold dirE; rw [he]; rfl)
    clear h
    go_enter Try.func59, Try.ntmps59
    go_wp2_with fail
    refine (l2At_any es a cap q _ hlen (unhid HH)).mono ?_
    rintro x w' ⟨rfl, n, rfl⟩
    go_wp2_with fail
    go_ret
    exact ⟨by rw [unhid E]; rfl, _, rfl⟩

end Go.Proofs.Ytlnehebihfeegaa
