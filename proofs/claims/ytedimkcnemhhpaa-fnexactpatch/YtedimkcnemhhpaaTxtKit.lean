/- Rows of texts: whether two are the same, what they begin and end with alike, with signs ahead. -/
import Derived.Test.YtedimkcnemhhpaaLines
import Derived.Test.YtedimkcnemhhpaaHeld
import Derived.Maps.AppendAt
namespace Go.Proofs.Ytedimkcnemhhpaa
open Go.RowKit Go.Shelf

theorem txt_same (a b : ByteArray) : (a.toList == b.toList) = decide (a = b) := by
  rw [Bool.eq_iff_iff, beq_iff_eq, decide_eq_true_eq]
  refine ⟨fun h => ?_, fun h => by rw [h]⟩
  rw [Lib.toList_data, Lib.toList_data] at h
  exact ByteArray.ext (Array.ext' h)
theorem txt_diff (a b : ByteArray) : (a.toList != b.toList) = !decide (a = b) := by rw [bne, txt_same]
theorem txt_yes {a b : ByteArray} (h : a = b) : (a.toList == b.toList) = true ∧ (a.toList != b.toList) = false := by rw [txt_diff, txt_same, decide_eq_true h]; exact ⟨rfl, rfl⟩
theorem txt_no {a b : ByteArray} (h : a ≠ b) : (a.toList == b.toList) = false ∧ (a.toList != b.toList) = true := by rw [txt_diff, txt_same, decide_eq_false h]; exact ⟨rfl, rfl⟩
theorem txts_ext {xs ys : List ByteArray} (hl : xs.length = ys.length) (h : ∀ i, i < xs.length → txtFn xs i = txtFn ys i) : xs = ys := by
  apply List.ext_getElem hl
  intro i h1 h2
  have := h i h1
  rw [txtFn_get (List.getElem?_eq_getElem h1), txtFn_get (List.getElem?_eq_getElem h2)] at this
  exact this
theorem txtFn_some {xs : List ByteArray} {i : Nat} (h : i < xs.length) : xs[i]? = some (txtFn xs i) := by
  rw [txtFn_get (List.getElem?_eq_getElem h)]; exact List.getElem?_eq_getElem h

theorem txts_owns {W : World} {N n : Nat} {v : Value} {xs : List ByteArray} (h : W.ownsRow N 9 1 v n (xs.map Value.string)) : n = xs.length ∧ ∃ a cap, v = .slice a xs.length cap ∧ TxtsAt W a xs ∧ xs.length ≤ cap ∧ cap ≤ maxLen ∧ ∀ b o, a = some ⟨b, o, none⟩ → N ≤ b := by
  have hn : n = xs.length := by have := h.1; simpa using this.symm
  subst hn
  refine ⟨rfl, ?_⟩
  rcases h.2 with ⟨hv, h0⟩ | ⟨g, cap, cur, hv, hg, hh, hc, hm, hsz, hcur⟩
  · exact ⟨none, 0, by rw [hv, h0], .inl (List.length_eq_zero_iff.1 h0), by omega, by simp [maxLen], fun b o e => by cases e⟩
  · refine ⟨_, cap, hv, .inr ⟨g, 0, rfl, (Array.getElem?_eq_some_iff.1 hh).1, fun i x hi => ?_⟩, hc, hm, fun b o e => by cases e; exact hg⟩
    have hl : i < xs.length := (List.getElem?_eq_some_iff.1 hi).1
    have : cur[i]? = some (.string x) := by
      rw [← Array.getElem?_toList, ← List.getElem?_take_of_lt (l := cur.toList) (i := i) (j := xs.length * 1) (by omega), hcur, List.getElem?_map, hi]; rfl
    simp [World.cell?, hh, this]

set_option maxRecDepth 100000 in
set_option maxHeartbeats 2000000 in
theorem slicesEqual_any (xs ys : List ByteArray) (a b : Option Addr) (cap cap2 : Nat) (w : World) (hx : xs.length ≤ maxLen) (hy : ys.length ≤ maxLen) (h : TxtsAt w a xs) (h2 : TxtsAt w b ys) :
    Calls Try.prog 54 #[.slice a xs.length cap, .slice b ys.length cap2] w fun r w' => r = .returned (.bool (decide (xs = ys))) ∧ Below w.heap.size w w' := by
  unfold maxLen at hx hy
  by_cases hl : xs.length = ys.length
  · have hl' : ((xs.length : Int) != (ys.length : Int)) = false := by simp; omega
    have HL := hid hl
    rw [hl]
    rw [hl] at hl'
    clear hl
    go_enter Try.func54, Try.ntmps54
    go_wp2_with fail
    go_loopw [13] (fun i wr => ∃ k : Nat, k ≤ ys.length ∧ i = .int .i64 k ∧ Hid (∀ i, i < k → txtFn xs i = txtFn ys i) ∧ Below w.heap.size w wr) (fun i _ => ys.length - (intOf i).toNat)
    case atStart => exact ⟨0, Nat.zero_le _, rfl, hid (fun i hi => absurd hi (Nat.not_lt_zero _)), Below.refl _ _⟩
    case round =>
      obtain ⟨k, hk, rfl, hall, hB⟩ := hrel
      by_cases hlt : k < ys.length
      · have hxk := txtFn_some (xs := xs) (i := k) (by rw [unhid HL]; exact hlt)
        have hyk := txtFn_some (xs := ys) (i := k) hlt
        obtain ⟨bb, o, rfl, hbl, hc⟩ := h.get (by intro e; subst e; simp at hxk)
        obtain ⟨bb2, o2, rfl, hbl2, hc2⟩ := h2.get (by intro e; subst e; simp at hlt)
        have c0 := (hB.cell (p := ⟨bb, o + k, .none⟩) hbl).trans (hc k _ hxk)
        have d0 := (hB.cell (p := ⟨bb2, o2 + k, .none⟩) hbl2).trans (hc2 k _ hyk)
        have HB := hid hB
        have HH := hid (And.intro h (And.intro h2 (And.intro hc hc2)))
        clear hc hc2 hB h h2 hxk hyk
        by_cases he : txtFn xs k = txtFn ys k
        · obtain ⟨q1, q2⟩ := txt_yes he
          have HE := hid (show txtFn xs k = txtFn ys k from he)
          clear he
          generalize hgx : txtFn xs k = x at *
          generalize hgy : txtFn ys k = y at *
          have HG := hid (And.intro hgx hgy)
          clear hgx hgy
          go_wp2_with fail
          go_quiet (fail)
          go_wp2_with fail
          go_roundw
          case rel => exact ⟨k + 1, by omega, by go_num, hid (fun i hi => (Nat.lt_succ_iff_lt_or_eq.1 hi).elim (fun h => unhid hall i h) (fun h => by subst h; rw [(unhid HG).1, (unhid HG).2, unhid HE])), ⟨(unhid HB).os, (unhid HB).tape, (unhid HB).output, (unhid HB).size, (unhid HB).block⟩⟩
          case measure => simp [intOf]; omega
        · obtain ⟨q1, q2⟩ := txt_no he
          have E := hid (show decide (xs = ys) = false by rw [decide_eq_false_iff_not]; intro e; exact he (by rw [e]))
          clear he
          generalize txtFn xs k = x at *
          generalize txtFn ys k = y at *
          go_wp2_with fail
          go_quiet (fail)
          go_wp2_with fail
          go_ret
          exact ⟨by rw [unhid E]; rfl, ⟨(unhid HB).os, (unhid HB).tape, (unhid HB).output, (unhid HB).size, (unhid HB).block⟩⟩
      · have e : k = ys.length := by omega
        subst e
        go_wp2_with fail
        go_ret
        refine ⟨?_, hB⟩
        rw [decide_eq_true (txts_ext (unhid HL) (fun i hi => unhid hall i (by rw [← unhid HL]; exact hi)))]; rfl
  · have hl' : ((xs.length : Int) != (ys.length : Int)) = true := by simp; omega
    have E := hid (show decide (xs = ys) = false by rw [decide_eq_false_iff_not]; intro e; exact hl (by rw [e]))
    clear hl
    go_enter Try.func54, Try.ntmps54
    go_wp2_with fail
    go_ret
    exact ⟨by rw [unhid E]; rfl, Below.refl _ _⟩

end Go.Proofs.Ytedimkcnemhhpaa
