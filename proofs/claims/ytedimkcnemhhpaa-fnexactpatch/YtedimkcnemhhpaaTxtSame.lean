/- How many lines two rows begin with, or end with, alike; whether lines may be a text; whether lines stand at a place. -/
import Derived.Test.YtedimkcnemhhpaaTxtApp
namespace Go.Proofs.Ytedimkcnemhhpaa
open Go.RowKit Go.Shelf

/-- From k on, so long as p says yes, at most so many. -/
def runP (p : Nat → Bool) : Nat → Nat → Nat
  | _, 0 => 0
  | k, f + 1 => if p k then runP p (k + 1) f + 1 else 0
theorem runP_eq {p : Nat → Bool} : ∀ (f k m : Nat), m ≤ f → (∀ i, i < m → p (k + i) = true) → (m = f ∨ p (k + m) = false) → runP p k f = m
  | 0, _, m, h, _, _ => by simp only [runP]; omega
  | f + 1, k, 0, _, _, h => by
    rcases h with h | h
    · cases h
    · unfold runP; rw [show k + 0 = k from rfl] at h; rw [h]; rfl
  | f + 1, k, m + 1, h, h1, h2 => by
    unfold runP
    rw [show p k = true from h1 0 (by omega), if_pos rfl, runP_eq f (k + 1) m (by omega) (fun i hi => by have := h1 (i + 1) (by omega); rwa [show k + 1 + i = k + (i + 1) by omega]) (h2.imp (fun h => by omega) (fun h => by rwa [show k + 1 + m = k + (m + 1) by omega]))]
theorem runP_le {p : Nat → Bool} : ∀ (f k : Nat), runP p k f ≤ f
  | 0, _ => Nat.le_refl _
  | f + 1, k => by unfold runP; split; exact Nat.succ_le_succ (runP_le f (k + 1)); exact Nat.zero_le _
theorem runP_all {p : Nat → Bool} : ∀ (f k i : Nat), i < runP p k f → p (k + i) = true
  | 0, _, _, h => absurd h (Nat.not_lt_zero _)
  | f + 1, k, i, h => by
    unfold runP at h
    split at h
    · rename_i hp
      cases i with
      | zero => exact hp
      | succ i => have := runP_all (p := p) f (k + 1) i (by omega); rwa [show k + (i + 1) = k + 1 + i by omega]
    · exact absurd h (Nat.not_lt_zero _)
theorem runP_stop {p : Nat → Bool} : ∀ (f k : Nat), runP p k f < f → p (k + runP p k f) = false
  | 0, _, h => absurd h (Nat.not_lt_zero _)
  | f + 1, k, h => by
    unfold runP at h ⊢
    split
    · rename_i hp
      rw [if_pos hp] at h
      have := runP_stop (p := p) f (k + 1) (by omega)
      rwa [show k + (runP p (k + 1) f + 1) = k + 1 + runP p (k + 1) f by omega]
    · rename_i hp; simpa using hp
theorem runP_congr {p q : Nat → Bool} : ∀ (f k : Nat), (∀ i, k ≤ i → i < k + f → p i = q i) → runP p k f = runP q k f
  | 0, _, _ => rfl
  | f + 1, k, h => by unfold runP; rw [h k (Nat.le_refl _) (by omega), runP_congr f (k + 1) (fun i h1 h2 => h i (by omega) (by omega))]

def sameA (xs ys : List ByteArray) (i : Nat) : Bool := decide (txtFn xs i = txtFn ys i)
def sameZ (xs ys : List ByteArray) (i : Nat) : Bool := decide (txtFn xs (xs.length - 1 - i) = txtFn ys (ys.length - 1 - i))
def aheadN (xs ys : List ByteArray) : Nat := runP (sameA xs ys) 0 (min xs.length ys.length)
def behindN (xs ys : List ByteArray) : Nat := runP (sameZ xs ys) 0 (min xs.length ys.length)

set_option maxRecDepth 100000 in
set_option maxHeartbeats 2000000 in
theorem sameAhead_any (xs ys : List ByteArray) (a b : Option Addr) (cap cap2 : Nat) (w : World) (hx : xs.length ≤ 1048576) (hy : ys.length ≤ 1048576) (h : TxtsAt w a xs) (h2 : TxtsAt w b ys) :
    Calls Try.prog 55 #[.slice a xs.length cap, .slice b ys.length cap2] w fun r w' => r = .returned (.int .i64 (aheadN xs ys : Nat)) ∧ Below w.heap.size w w' := by
  have hm : ((min xs.length ys.length : Nat) : Int) = min (xs.length : Int) (ys.length : Int) := by omega
  have HM := hid hm
  clear hm
  go_enter Try.func55, Try.ntmps55
  go_wp2_with fail
  go_loopw [5] (fun i wr => ∃ k : Nat, k ≤ min xs.length ys.length ∧ i = .int .i64 k ∧ Hid (∀ i, i < k → sameA xs ys i = true) ∧ Below w.heap.size w wr) (fun i _ => min xs.length ys.length - (intOf i).toNat)
  case atStart => exact ⟨0, Nat.zero_le _, rfl, hid (fun i hi => absurd hi (Nat.not_lt_zero _)), Below.refl _ _⟩
  case round =>
    obtain ⟨k, hk, rfl, hall, hB⟩ := hrel
    by_cases hlt : k < min xs.length ys.length
    · have hxk := txtFn_some (xs := xs) (i := k) (by omega)
      have hyk := txtFn_some (xs := ys) (i := k) (by omega)
      obtain ⟨bb, o, rfl, hbl, hc⟩ := h.get (by intro e; subst e; simp at hxk)
      obtain ⟨bb2, o2, rfl, hbl2, hc2⟩ := h2.get (by intro e; subst e; simp at hyk)
      have c0 := (hB.cell (p := ⟨bb, o + k, .none⟩) hbl).trans (hc k _ hxk)
      have d0 := (hB.cell (p := ⟨bb2, o2 + k, .none⟩) hbl2).trans (hc2 k _ hyk)
      have HB := hid hB
      have HH := hid (And.intro h (And.intro h2 (And.intro hc hc2)))
      have hl1 : k < xs.length := by omega
      have hl2 : k < ys.length := by omega
      have hml : (k : Int) < min (xs.length : Int) (ys.length : Int) := by omega
      clear hc hc2 hB h h2 hxk hyk
      by_cases he : txtFn xs k = txtFn ys k
      · obtain ⟨q1, q2⟩ := txt_yes he
        have HE := hid (show sameA xs ys k = true from decide_eq_true he)
        clear he
        generalize txtFn xs k = x at *
        generalize txtFn ys k = y at *
        rcases Nat.lt_or_ge ys.length xs.length with hyx | hyx
        all_goals
          go_wp2_with fail
          go_quiet (fail)
          go_wp2_with fail
          go_roundw
          case rel => exact ⟨k + 1, by omega, by go_num, hid (fun i hi => (Nat.lt_succ_iff_lt_or_eq.1 hi).elim (fun h => unhid hall i h) (fun h => by subst h; exact unhid HE)), ⟨(unhid HB).os, (unhid HB).tape, (unhid HB).output, (unhid HB).size, (unhid HB).block⟩⟩
          case measure => simp [intOf]; omega
      · obtain ⟨q1, q2⟩ := txt_no he
        have E := hid (show aheadN xs ys = k from runP_eq _ 0 k (Nat.le_of_lt hlt) (fun i hi => by rw [Nat.zero_add]; exact unhid hall i hi) (.inr (by rw [Nat.zero_add]; exact decide_eq_false he)))
        clear he
        generalize txtFn xs k = x at *
        generalize txtFn ys k = y at *
        rcases Nat.lt_or_ge ys.length xs.length with hyx | hyx
        all_goals
          go_wp2_with fail
          go_quiet (fail)
          go_wp2_with fail
          go_ret
          exact ⟨by rw [unhid E]; rfl, ⟨(unhid HB).os, (unhid HB).tape, (unhid HB).output, (unhid HB).size, (unhid HB).block⟩⟩
    · have e : k = min xs.length ys.length := by omega
      have E := hid (show aheadN xs ys = k from runP_eq _ 0 k hk (fun i hi => by rw [Nat.zero_add]; exact unhid hall i hi) (.inl e))
      rcases Nat.lt_or_ge ys.length xs.length with hyx | hyx
      all_goals
        first | have dn : ¬ k < ys.length := by omega
              | have dn : ¬ k < xs.length := by omega
        clear e
        go_wp2_with fail
        go_quiet (fail)
        go_wp2_with fail
        go_ret
        exact ⟨by rw [unhid E]; rfl, ⟨hB.os, hB.tape, hB.output, hB.size, hB.block⟩⟩

set_option maxRecDepth 100000 in
set_option maxHeartbeats 2000000 in
theorem sameBehind_any (xs ys : List ByteArray) (a b : Option Addr) (cap cap2 : Nat) (w : World) (hx : xs.length ≤ 1048576) (hy : ys.length ≤ 1048576) (h : TxtsAt w a xs) (h2 : TxtsAt w b ys) :
    Calls Try.prog 56 #[.slice a xs.length cap, .slice b ys.length cap2] w fun r w' => r = .returned (.int .i64 (behindN xs ys : Nat)) ∧ Below w.heap.size w w' := by
  go_enter Try.func56, Try.ntmps56
  go_wp2_with fail
  go_loopw [5] (fun i wr => ∃ k : Nat, k ≤ min xs.length ys.length ∧ i = .int .i64 k ∧ Hid (∀ i, i < k → sameZ xs ys i = true) ∧ Below w.heap.size w wr) (fun i _ => min xs.length ys.length - (intOf i).toNat)
  case atStart => exact ⟨0, Nat.zero_le _, rfl, hid (fun i hi => absurd hi (Nat.not_lt_zero _)), Below.refl _ _⟩
  case round =>
    obtain ⟨k, hk, rfl, hall, hB⟩ := hrel
    by_cases hlt : k < min xs.length ys.length
    · have hxk := txtFn_some (xs := xs) (i := xs.length - 1 - k) (by omega)
      have hyk := txtFn_some (xs := ys) (i := ys.length - 1 - k) (by omega)
      obtain ⟨bb, o, rfl, hbl, hc⟩ := h.get (by intro e; subst e; simp at hxk)
      obtain ⟨bb2, o2, rfl, hbl2, hc2⟩ := h2.get (by intro e; subst e; simp at hyk)
      have c0 := (hB.cell (p := ⟨bb, o + (xs.length - 1 - k), .none⟩) hbl).trans (hc _ _ hxk)
      have d0 := (hB.cell (p := ⟨bb2, o2 + (ys.length - 1 - k), .none⟩) hbl2).trans (hc2 _ _ hyk)
      have HB := hid hB
      have HH := hid (And.intro h (And.intro h2 (And.intro hc hc2)))
      have hl1 : k < xs.length := by omega
      have hl2 : k < ys.length := by omega
      have hml : (k : Int) < min (xs.length : Int) (ys.length : Int) := by omega
      have n1 : ((xs.length : Int) - 1 - (k : Int)).toNat = xs.length - 1 - k := by omega
      have n2 : ((ys.length : Int) - 1 - (k : Int)).toNat = ys.length - 1 - k := by omega
      clear hc hc2 hB h h2 hxk hyk
      by_cases he : txtFn xs (xs.length - 1 - k) = txtFn ys (ys.length - 1 - k)
      · obtain ⟨q1, q2⟩ := txt_yes he
        have HE := hid (show sameZ xs ys k = true from decide_eq_true he)
        clear he
        generalize txtFn xs (xs.length - 1 - k) = x at *
        generalize txtFn ys (ys.length - 1 - k) = y at *
        rcases Nat.lt_or_ge ys.length xs.length with hyx | hyx
        all_goals
          go_wp2_with fail
          go_quiet (fail)
          go_wp2_with fail
          go_roundw
          case rel => exact ⟨k + 1, by omega, by go_num, hid (fun i hi => (Nat.lt_succ_iff_lt_or_eq.1 hi).elim (fun h => unhid hall i h) (fun h => by subst h; exact unhid HE)), ⟨(unhid HB).os, (unhid HB).tape, (unhid HB).output, (unhid HB).size, (unhid HB).block⟩⟩
          case measure => simp [intOf]; omega
      · obtain ⟨q1, q2⟩ := txt_no he
        have E := hid (show behindN xs ys = k from runP_eq _ 0 k (Nat.le_of_lt hlt) (fun i hi => by rw [Nat.zero_add]; exact unhid hall i hi) (.inr (by rw [Nat.zero_add]; exact decide_eq_false he)))
        clear he
        generalize txtFn xs (xs.length - 1 - k) = x at *
        generalize txtFn ys (ys.length - 1 - k) = y at *
        rcases Nat.lt_or_ge ys.length xs.length with hyx | hyx
        all_goals
          go_wp2_with fail
          go_quiet (fail)
          go_wp2_with fail
          go_ret
          exact ⟨by rw [unhid E]; rfl, ⟨(unhid HB).os, (unhid HB).tape, (unhid HB).output, (unhid HB).size, (unhid HB).block⟩⟩
    · have e : k = min xs.length ys.length := by omega
      have E := hid (show behindN xs ys = k from runP_eq _ 0 k hk (fun i hi => by rw [Nat.zero_add]; exact unhid hall i hi) (.inl e))
      rcases Nat.lt_or_ge ys.length xs.length with hyx | hyx
      all_goals
        first | have dn : ¬ k < ys.length := by omega
              | have dn : ¬ k < xs.length := by omega
        clear e
        go_wp2_with fail
        go_quiet (fail)
        go_wp2_with fail
        go_ret
        exact ⟨by rw [unhid E]; rfl, ⟨hB.os, hB.tape, hB.output, hB.size, hB.block⟩⟩

/-- Whether lines may be a text. -/
def textB (xs : List ByteArray) : Bool := decide ((xs.length : Int) ≤ 30) && xs.all fun x => lineB x.data.toList
set_option maxHeartbeats 1000000 in
theorem textLinesOk_any (xs : List ByteArray) (a : Option Addr) (cap : Nat) (w : World) (hz : bigX xs) (hlen : xs.length ≤ maxLen) (h : TxtsAt w a xs) :
    Calls Try.prog 53 #[.slice a xs.length cap] w fun r w' => r = .returned (.bool (textB xs)) ∧ Below w.heap.size w w' := by
  have H := hid (listOk_any 87 lineB egT (fun s w hs => textLineOk_any s hs w) xs a cap 30 w hz hlen h)
  clear h hz
  go_enter Try.func53, Try.ntmps53
  go_wp2_with fail
  refine (unhid H).mono ?_
  rintro e w1 ⟨rfl, hb⟩
  have HB := hid hb
  have E := hid (show textB xs = (decide ((xs.length : Int) ≤ 30) && xs.all fun x => lineB x.data.toList) from rfl)
  rw [← unhid E]
  clear hb H
  go_wp2_with fail
  go_ret
  exact ⟨rfl, unhid HB⟩

set_option maxRecDepth 100000 in
set_option maxHeartbeats 2000000 in
theorem l5Lines_any (xs : List ByteArray) (a : Option Addr) (cap : Nat) (w : World) (hz : bigX xs) (hlen : xs.length ≤ maxLen) (h : TxtsAt w a xs) :
    Calls Try.prog 51 #[.slice a xs.length cap] w fun r w' => r = .returned (.bool (textB xs)) ∧ w' = w := by
  unfold maxLen at hlen
  have HZ := hid hz
  clear hz
  go_enter Try.func51, Try.ntmps51
  go_wp2_with fail
  go_loop [3] (fun i => ∃ k : Nat, k ≤ xs.length ∧ i = .int .i64 k ∧ Hid ((xs.take k).all (fun x => lineB x.data.toList) = true)) (fun i => xs.length - (intOf i).toNat)
  case atStart => exact ⟨0, by omega, rfl, hid (by simp)⟩
  case round =>
    obtain ⟨k, hk, rfl, hall⟩ := hrel
    by_cases hlt : k < xs.length
    · have he := txtFn_some hlt
      generalize txtFn xs k = x at he
      obtain ⟨b, o, rfl, hbl, hc⟩ := h.get (by intro e; subst e; simp at hlt)
      have c0 := hc k x he
      have HS := hid (show xs.take (k + 1) = xs.take k ++ [x] by rw [List.take_add_one, he]; rfl)
      have HM := hid (List.mem_of_getElem? he)
      have HH := hid (And.intro hc h)
      clear hc he h
      go_wp2_with fail
      refine (l5Seen_any x (unhid HZ x (unhid HM)) _).mono ?_
      rintro e w' ⟨rfl, rfl⟩
      cases hx : lineB x.data.toList
      · have E := hid (show textB xs = false by unfold textB; rw [List.all_eq_false.2 ⟨x, unhid HM, by simp [hx]⟩, Bool.and_false])
        clear hx
        go_wp2_with fail
        go_ret
        exact ⟨by rw [unhid E]; rfl, rfl⟩
      · have HX := hid hx
        clear hx
        go_wp2_with fail
        refine ⟨⟨k + 1, by omega, by go_num, hid ?_⟩, by simp [intOf]; omega⟩
        rw [unhid HS, List.all_append, unhid hall]
        simp [unhid HX]
    · have e : k = xs.length := by omega
      subst e
      have E := hid (show textB xs = decide ((xs.length : Int) ≤ 30) by
        have := unhid hall
        rw [List.take_of_length_le (Nat.le_refl _)] at this
        unfold textB; rw [this, Bool.and_true])
      go_wp2_with fail
      go_ret
      exact ⟨by rw [unhid E]; rfl, rfl⟩
end Go.Proofs.Ytedimkcnemhhpaa
