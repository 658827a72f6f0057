/- Whether two rows of entries are the same, by the laws. -/
import Derived.Test.YtlnehebihfeegaaEnt
namespace Go.Proofs.Ytlnehebihfeegaa
open Go.RowKit Go.Shelf

theorem drewN_below {B : Nat} (w : World) (m : Nat) : Below B w (w.drewN m) := ⟨rfl, rfl, rfl, Nat.le_refl _, fun _ _ => rfl⟩
theorem drew_below {B : Nat} (w : World) : Below B w w.drew := ⟨rfl, rfl, rfl, Nat.le_refl _, fun _ _ => rfl⟩
def eqEs (xs ys : List Ent) : Bool := decide (xs.length = ys.length) && (List.range xs.length).all fun i => eqE (entFn xs i) (entFn ys i)
theorem eqEs_self (xs : List Ent) : eqEs xs xs = true := by unfold eqEs; simp [eqE_self]

set_option maxRecDepth 100000 in
set_option maxHeartbeats 4000000 in
theorem eqEntryS_any (xs ys : List Ent) (a b : Option Addr) (cap cap2 : Nat) (w : World) (hx : xs.length ≤ maxLen) (hy : ys.length ≤ maxLen) (h : EntsAt w a xs) (h2 : EntsAt w b ys) :
    Calls Try.prog 25 #[.slice a xs.length cap, .slice b ys.length cap2] w fun r w' => r = .returned (.bool (eqEs xs ys)) ∧ Below w.heap.size w w' := by
  unfold maxLen at hx hy
  by_cases hl : xs.length = ys.length
  · have hl' : ((xs.length : Int) != (ys.length : Int)) = false := by rw [hl]; simp
    have hE : eqEs xs ys = (List.range xs.length).all fun i => eqE (entFn xs i) (entFn ys i) := by unfold eqEs; rw [decide_eq_true hl]; rfl
    have E := hid hE
    have HL := hid hl
    clear hE
    go_enter Try.func25, Try.ntmps25
    clear hl
    go_wp2_with fail
    go_loopw [5] (fun i wr => ∃ k : Nat, k ≤ xs.length ∧ i = .int .i64 k ∧ Hid ((List.range k).all (fun i => eqE (entFn xs i) (entFn ys i)) = true) ∧ Below w.heap.size w wr) (fun i _ => xs.length - (intOf i).toNat)
    case atStart => exact ⟨0, Nat.zero_le _, rfl, hid rfl, Below.refl _ _⟩
    case round =>
      obtain ⟨k, hk, rfl, hall, hB⟩ := hrel
      by_cases hlt : k < xs.length
      · have hlt2 : k < ys.length := by rw [← unhid HL]; exact hlt
        obtain ⟨e, he⟩ : ∃ e, xs[k]? = some e := ⟨xs[k], List.getElem?_eq_getElem hlt⟩
        obtain ⟨e2, he2⟩ : ∃ e, ys[k]? = some e := ⟨ys[k], List.getElem?_eq_getElem hlt2⟩
        obtain ⟨bb, o, rfl, hbl, hc⟩ := h.get (by intro e; subst e; simp at hlt)
        obtain ⟨bb2, o2, rfl, hbl2, hc2⟩ := h2.get (by intro e; subst e; simp at hlt2)
        obtain ⟨c0, c1, c2, c3⟩ := ((hc k e he).below hB hbl)
        obtain ⟨d0, d1, d2, d3⟩ := ((hc2 k e2 he2).below hB hbl2)
        have HS := hid (show entFn xs k = e from entFn_get he)
        have HS2 := hid (show entFn ys k = e2 from entFn_get he2)
        have HB := hid hB
        have HH := hid (And.intro h (And.intro h2 (And.intro hc hc2)))
        clear hc hc2 hB he he2 h h2
        cases hq : eqE e e2
        · go_wp2_with fail
          go_region_with (go_at_call 28; refine (eqEntry_any e e2 _).mono ?_; rintro r w2 ⟨rfl, hb⟩; rw [hq]; have HB2 := hid (((unhid HB).trans (drew_below _)).trans (hb.mono (unhid HB).size)); clear hb)
          all_goals
            go_wp2_with fail
            go_ret
            refine ⟨?_, unhid HB2⟩
            have : (List.range xs.length).all (fun i => eqE (entFn xs i) (entFn ys i)) = false := List.all_eq_false.2 ⟨k, List.mem_range.2 hlt, by rw [unhid HS, unhid HS2, hq]; simp⟩
            rw [unhid E, this]; rfl
        · go_wp2_with fail
          go_region_with (go_at_call 28; refine (eqEntry_any e e2 _).mono ?_; rintro r w2 ⟨rfl, hb⟩; rw [hq]; have HB2 := hid (((unhid HB).trans (drew_below _)).trans (hb.mono (unhid HB).size)); clear hb)
          all_goals
            go_wp2_with fail
            go_roundw
            case rel => exact ⟨k + 1, by omega, by go_num, hid (by rw [List.range_succ, List.all_append, unhid hall]; simp [unhid HS, unhid HS2, hq]), unhid HB2⟩
            case measure => simp [intOf]; omega
      · have e : k = xs.length := by omega
        subst e
        go_wp2_with fail
        go_ret
        exact ⟨by rw [unhid E, unhid hall]; rfl, hB⟩
  · have hl' : ((xs.length : Int) != (ys.length : Int)) = true := by rw [bne_iff_ne]; omega
    have E := hid (show eqEs xs ys = false by unfold eqEs; rw [decide_eq_false hl]; rfl)
    clear hl
    go_enter Try.func25, Try.ntmps25
    go_wp2_with fail
    go_ret
    exact ⟨by rw [unhid E]; rfl, Below.refl _ _⟩
end Go.Proofs.Ytlnehebihfeegaa
