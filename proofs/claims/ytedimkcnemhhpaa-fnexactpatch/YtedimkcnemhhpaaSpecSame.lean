/- A hunk that makes lines of others, by the model. -/
import Derived.Test.YtedimkcnemhhpaaDiff
import Derived.Test.YtedimkcnemhhpaaSpecHunks
namespace Go.Proofs.Ytedimkcnemhhpaa
open Go.RowKit Go.Shelf

/-- Whether lines stand in others, so many lines on. -/
def standB (ls : List ByteArray) (at_ : Int) (old : List ByteArray) : Bool := decide (0 ≤ at_) && (decide (at_ + (old.length : Int) ≤ (ls.length : Int)) && decide ((ls.drop at_.toNat).take old.length = old))
theorem part_same {ls old : List ByteArray} {k : Nat} (hl : k + old.length ≤ ls.length) : (ls.drop k).take old.length = old ↔ ∀ i, i < old.length → txtFn ls (k + i) = txtFn old i := by
  have hp : ∀ i, i < old.length → txtFn ((ls.drop k).take old.length) i = txtFn ls (k + i) := fun i hi => by
    refine txtFn_get ?_
    rw [List.getElem?_take_of_lt hi, List.getElem?_drop]
    exact txtFn_some (by omega)
  refine ⟨fun h i hi => by rw [← hp i hi, h], fun h => txts_ext (part_len _ _ _ hl) (fun i hi => ?_)⟩
  rw [part_len _ _ _ hl] at hi
  rw [hp i hi, h i hi]

set_option maxRecDepth 100000 in
set_option maxHeartbeats 2000000 in
theorem l5Same_any (ls old : List ByteArray) (a b : Option Addr) (cap cap2 : Nat) (at_ : Int) (w : World) (hx : ls.length ≤ 1048576) (hy : old.length ≤ 1048576) (ha : -1048576 ≤ at_ ∧ at_ ≤ 1048576) (h : TxtsAt w a ls) (h2 : TxtsAt w b old) :
    Calls Try.prog 52 #[.slice a ls.length cap, .int .i64 at_, .slice b old.length cap2] w fun r w' => r = .returned (.bool (standB ls at_ old)) ∧ Below w.heap.size w w' := by
  obtain ⟨ha1, ha2⟩ := ha
  by_cases h0 : at_ < 0
  · have E := hid (show standB ls at_ old = false by unfold standB; rw [decide_eq_false (by omega)]; rfl)
    go_enter Try.func52, Try.ntmps52
    go_wp2_with fail
    go_ret
    exact ⟨by rw [unhid E]; rfl, Below.refl _ _⟩
  by_cases h1 : (ls.length : Int) < at_ + (old.length : Int)
  · have E := hid (show standB ls at_ old = false by unfold standB; rw [decide_eq_false (show ¬ (at_ + (old.length : Int) ≤ (ls.length : Int)) by omega)]; simp)
    go_enter Try.func52, Try.ntmps52
    go_wp2_with fail
    go_ret
    exact ⟨by rw [unhid E]; rfl, Below.refl _ _⟩
  obtain ⟨k, rfl⟩ : ∃ k : Nat, at_ = (k : Int) := ⟨at_.toNat, by omega⟩
  have hl : k + old.length ≤ ls.length := by omega
  have E := hid (show standB ls (k : Int) old = decide ((ls.drop k).take old.length = old) by unfold standB; rw [decide_eq_true (show (0 : Int) ≤ (k : Int) by omega), decide_eq_true (show (k : Int) + (old.length : Int) ≤ (ls.length : Int) by omega)]; rfl)
  have HP := hid (part_same (old := old) hl)
  clear h0 h1 ha1 ha2
  go_enter Try.func52, Try.ntmps52
  go_wp2_with fail
  go_loopw [7] (fun i wr => ∃ j : Nat, j ≤ old.length ∧ i = .int .i64 j ∧ Hid (∀ i, i < j → txtFn ls (k + i) = txtFn old i) ∧ Below w.heap.size w wr) (fun i _ => old.length - (intOf i).toNat)
  case atStart => exact ⟨0, Nat.zero_le _, rfl, hid (fun i hi => absurd hi (Nat.not_lt_zero _)), Below.refl _ _⟩
  case round =>
    obtain ⟨j, hj, rfl, hall, hB⟩ := hrel
    by_cases hlt : j < old.length
    · have hxk := txtFn_some (xs := ls) (i := k + j) (by omega)
      have hyk := txtFn_some (xs := old) (i := j) hlt
      obtain ⟨bb, o, rfl, hbl, hc⟩ := h.get (by intro e; subst e; simp at hxk)
      obtain ⟨bb2, o2, rfl, hbl2, hc2⟩ := h2.get (by intro e; subst e; simp at hyk)
      have c0 := (hB.cell (p := ⟨bb, o + (k + j), .none⟩) hbl).trans (hc _ _ hxk)
      have d0 := (hB.cell (p := ⟨bb2, o2 + j, .none⟩) hbl2).trans (hc2 _ _ hyk)
      have HB := hid hB
      have HH := hid (And.intro h (And.intro h2 (And.intro hc hc2)))
      have n1 : ((k : Int) + (j : Int)).toNat = k + j := by omega
      have n2 : k + j < ls.length := by omega
      clear hc hc2 hB h h2 hxk hyk
      by_cases he : txtFn ls (k + j) = txtFn old j
      · obtain ⟨q1, q2⟩ := txt_yes he
        have HE := hid he
        clear he
        generalize hgx : txtFn ls (k + j) = x at *
        generalize hgy : txtFn old j = y at *
        have HG := hid (And.intro hgx hgy)
        clear hgx hgy
        go_wp2_with fail
        go_quiet (fail)
        go_wp2_with fail
        go_roundw
        case rel => exact ⟨j + 1, by omega, by go_num, hid (fun i hi => (Nat.lt_succ_iff_lt_or_eq.1 hi).elim (fun h => unhid hall i h) (fun h => by subst h; rw [(unhid HG).1, (unhid HG).2, unhid HE])), ⟨(unhid HB).os, (unhid HB).tape, (unhid HB).output, (unhid HB).size, (unhid HB).block⟩⟩
        case measure => simp [intOf]; omega
      · obtain ⟨q1, q2⟩ := txt_no he
        have E2 := hid (show standB ls (k : Int) old = false by rw [unhid E, decide_eq_false_iff_not, unhid HP]; exact fun h => he (h j hlt))
        clear he
        generalize txtFn ls (k + j) = x at *
        generalize txtFn old j = y at *
        go_wp2_with fail
        go_quiet (fail)
        go_wp2_with fail
        go_ret
        exact ⟨by rw [unhid E2]; rfl, ⟨(unhid HB).os, (unhid HB).tape, (unhid HB).output, (unhid HB).size, (unhid HB).block⟩⟩
    · have e : j = old.length := by omega
      subst e
      have E2 := hid (show standB ls (k : Int) old = true by rw [unhid E, decide_eq_true_eq, unhid HP]; exact unhid hall)
      go_wp2_with fail
      go_ret
      exact ⟨by rw [unhid E2]; rfl, hB⟩
end Go.Proofs.Ytedimkcnemhhpaa
