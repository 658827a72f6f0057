/- Whether a hunk is ok, by the program and by its model. -/
import Derived.Test.YtedimkcnemhhpaaHunkLines
namespace Go.Proofs.Ytedimkcnemhhpaa
open Go.RowKit Go.Shelf

def linesB (xs : List ByteArray) : Bool := xs.all fun x => hkLineB x.data.toList
def hkB (h : Hk) : Bool := decide (h.at_ ≤ 999) && (decide (0 < h.lines.length) && (decide (h.lines.length ≤ 30) && linesB h.lines))
theorem linesB_pos {xs : List ByteArray} (h : linesB xs = true) : ∀ x ∈ xs, 0 < x.size := fun x hx => by
  have := List.all_eq_true.1 h x hx
  rw [Lib.size_eq]
  cases hl : x.data.toList with
  | nil => rw [hl] at this; cases this
  | cons d t => simp

set_option maxRecDepth 100000 in
set_option maxHeartbeats 2000000 in
theorem hunkOk_any (h : Hk) (la : Option Addr) (cap : Nat) (w : World) (hlen : h.lines.length ≤ maxLen) (hz : bigX h.lines) (ht : TxtsAt w la h.lines) :
    Calls Try.prog 48 #[.agg #[.int .i64 h.at_, .slice la h.lines.length cap]] w fun e w' => e = .returned (.bool (hkB h)) ∧ Below w.heap.size w w' := by
  have HT := hid ht
  have HZ := hid hz
  have HL := hid hlen
  clear ht hz hlen
  have hA : ∀ o, Below w.heap.size w (w.alloc o) := fun o => (Below.refl _ w).alloc (Nat.le_refl _) o
  have HA := hid hA
  clear hA
  by_cases h1 : h.at_ ≤ 999
  · by_cases h2 : (0 : Int) < h.lines.length
    · have E := hid (show hkB h = (decide ((h.lines.length : Int) ≤ 30) && h.lines.all fun x => hkLineB x.data.toList) by
        unfold hkB linesB; rw [decide_eq_true h1, decide_eq_true (show 0 < h.lines.length by omega), Bool.true_and, Bool.true_and]
        congr 1; simp; omega)
      go_enter Try.func48, Try.ntmps48
      go_wp2_with fail
      refine (listOk_any 85 hkLineB egK (fun s w hs => hunkLineOk_any s hs w) h.lines la cap 30 _ (unhid HZ) (unhid HL) ((unhid HT).below (unhid HA _))).mono ?_
      rintro e w1 ⟨rfl, hb⟩
      have HB := hid ((unhid HA _).trans (hb.mono (unhid HA _).size))
      clear hb
      rw [← unhid E]
      go_wp2_with fail
      go_ret
      exact ⟨rfl, unhid HB⟩
    · have E := hid (show hkB h = false by unfold hkB; rw [decide_eq_false (show ¬ 0 < h.lines.length by omega)]; simp)
      go_enter Try.func48, Try.ntmps48
      go_wp2_with fail
      go_ret
      exact ⟨by rw [unhid E]; rfl, unhid HA _⟩
  · have E := hid (show hkB h = false by unfold hkB; rw [decide_eq_false h1]; rfl)
    go_enter Try.func48, Try.ntmps48
    go_wp2_with fail
    go_ret
    exact ⟨by rw [unhid E]; rfl, unhid HA _⟩

theorem sign_cases {c : UInt8} (h : signB c.toNat = false) : (((c.toNat : Int) != 32) = true ∧ ((c.toNat : Int) != 45) = true) ∧ ((c.toNat : Int) != 43) = true := by
  simp only [signB, Bool.or_eq_false_iff, beq_eq_false_iff_ne] at h
  simp only [bne_iff_ne]
  exact h
theorem sign_some {c : UInt8} (h : signB c.toNat = true) : ((c.toNat : Int) != 32) = false ∨ ((c.toNat : Int) != 32) = true ∧ ((c.toNat : Int) != 45) = false ∨ ((c.toNat : Int) != 32) = true ∧ ((c.toNat : Int) != 45) = true ∧ ((c.toNat : Int) != 43) = false := by
  simp only [signB, Bool.or_eq_true, beq_iff_eq] at h
  rcases h with (h | h) | h <;> rw [h] <;> decide

set_option maxRecDepth 100000 in
set_option maxHeartbeats 4000000 in
theorem l5Hunk_any (h : Hk) (la : Option Addr) (cap : Nat) (w : World) (hlen : h.lines.length ≤ maxLen) (hz : bigX h.lines) (ht : TxtsAt w la h.lines) :
    Calls Try.prog 45 #[.agg #[.int .i64 h.at_, .slice la h.lines.length cap]] w fun e w' => e = .returned (.bool (hkB h && decide (1 ≤ h.at_))) ∧ Below w.heap.size w w' := by
  obtain ⟨at_, xs⟩ := h
  dsimp only at *
  have HT := hid ht
  have HZ := hid hz
  clear ht hz
  unfold maxLen at hlen
  have HA := hid (show Below w.heap.size w (w.alloc (.cells #[.int .i64 at_, .slice la xs.length cap] 46)) from (Below.refl _ w).alloc (Nat.le_refl _) _)
  have TW := twoAt_new w at_ (.slice la xs.length cap) 46
  go_enter Try.func45, Try.ntmps45
  go_wp2_with fail
  generalize w.alloc (.cells #[.int .i64 at_, .slice la xs.length cap] 46) = wb at *
  obtain ⟨⟨m0, _⟩, m1, _⟩ := TW
  go_loop [3] (fun i => ∃ k : Nat, k ≤ xs.length ∧ i = .int .i64 k ∧ Hid (linesB (xs.take k) = true)) (fun i => xs.length - (intOf i).toNat)
  case atStart => exact ⟨0, Nat.zero_le _, rfl, hid rfl⟩
  case round =>
    obtain ⟨k, hk, rfl, hall⟩ := hrel
    by_cases hlt : k < xs.length
    · obtain ⟨x, he⟩ : ∃ e, xs[k]? = some e := ⟨xs[k], List.getElem?_eq_getElem hlt⟩
      obtain ⟨b, o, rfl, hbl, hc⟩ := (unhid HT).get (by intro e; subst e; simp at hlt)
      have c0 := ((unhid HA).cell (p := ⟨b, o + k, .none⟩) hbl).trans (hc k x he)
      have z2 := unhid HZ x (List.mem_of_getElem? he)
      have z3 : x.size ≤ 9223372036854775807 := z2
      have HM := hid (List.mem_of_getElem? he)
      have HS := hid (show linesB (xs.take (k + 1)) = (linesB (xs.take k) && hkLineB x.data.toList) by unfold linesB; rw [List.take_add_one, he, List.all_append]; simp)
      have bad : hkLineB x.data.toList = false → (hkB ⟨at_, xs⟩ && decide (1 ≤ at_)) = false := fun hx => by
        have : linesB xs = false := List.all_eq_false.2 ⟨x, List.mem_of_getElem? he, by simp [hx]⟩
        unfold hkB; simp [this]
      have HBad := hid bad
      clear hc he z2 bad
      by_cases h0 : x.size = 0
      · obtain rfl := str_nil h0
        have E := hid (unhid HBad rfl)
        go_wp2_with fail
        go_ret
        exact ⟨by rw [unhid E]; rfl, unhid HA⟩
      · have hp : 0 < x.size := by omega
        have q1 := ne_empty hp
        have q0 := empty_list
        have q2 : (x.toList == (⟨#[]⟩ : ByteArray).toList) = false := by rw [q0]; exact q1
        have EL := hid (show hkLineB x.data.toList = (signB x[0].toNat && lineB (x.extract 1 x.size).data.toList) by rw [str_cons hp]; rfl)
        have z1 : (x.extract 1 x.size).size ≤ maxLen := by rw [ByteArray.size_extract]; unfold maxLen; omega
        cases hx : signB x[0].toNat
        · have E := hid (unhid HBad (by rw [unhid EL, hx]; rfl))
          obtain ⟨⟨s1, s2⟩, s3⟩ := sign_cases hx
          clear hx EL
          go_wp2_with fail
          go_ret
          exact ⟨by rw [unhid E]; rfl, unhid HA⟩
        · have EL2 := hid (show hkLineB x.data.toList = lineB (x.extract 1 x.size).data.toList by rw [unhid EL, hx]; rfl)
          have hor := sign_some hx
          clear hx EL
          cases hy : lineB (x.extract 1 x.size).data.toList
          · have E := hid (unhid HBad (by rw [unhid EL2, hy]))
            have HY := hid hy
            clear hy EL2
            rcases hor with s1 | ⟨s1, s2⟩ | ⟨s1, s2, s3⟩
            all_goals
              go_wp2_with fail
              refine (l5Seen_any _ z1 _).mono ?_
              rintro e w1 ⟨rfl, rfl⟩
              rw [unhid HY]
              go_wp2_with fail
              go_ret
              exact ⟨by rw [unhid E]; rfl, unhid HA⟩
          · have E := hid (show linesB (xs.take (k + 1)) = true by rw [unhid HS, unhid hall, unhid EL2, hy]; rfl)
            have HY := hid hy
            clear hy EL2
            rcases hor with s1 | ⟨s1, s2⟩ | ⟨s1, s2, s3⟩
            all_goals
              go_wp2_with fail
              refine (l5Seen_any _ z1 _).mono ?_
              rintro e w1 ⟨rfl, rfl⟩
              rw [unhid HY]
              go_wp2_with fail
              refine ⟨⟨k + 1, by omega, by go_num, E⟩, by simp [intOf]; omega⟩
    · have e : k = xs.length := by omega
      subst e
      have hL := unhid hall
      rw [List.take_of_length_le (Nat.le_refl _)] at hL
      have E := hid (show (hkB ⟨at_, xs⟩ && decide (1 ≤ at_)) = ((decide ((1 : Int) ≤ xs.length) && decide ((xs.length : Int) ≤ 30)) && (decide (1 ≤ at_) && decide (at_ ≤ 999))) by
        unfold hkB; rw [hL]
        have a1 : decide (0 < xs.length) = decide ((1 : Int) ≤ xs.length) := by simp; omega
        have a2 : decide (xs.length ≤ 30) = decide ((xs.length : Int) ≤ 30) := by simp; omega
        dsimp only
        rw [a1, a2]
        cases decide ((1 : Int) ≤ xs.length) <;> cases decide ((xs.length : Int) ≤ 30) <;> cases decide (1 ≤ at_) <;> cases decide (at_ ≤ 999) <;> rfl)
      clear hL
      go_wp2_with fail
      refine (l1In_any _ _ _ _).mono ?_
      rintro e w1 ⟨rfl, rfl⟩
      cases hx : (decide ((1 : Int) ≤ xs.length) && decide ((xs.length : Int) ≤ 30))
      · rw [hx] at E
        clear hx
        go_wp2_with fail
        go_ret
        exact ⟨by rw [unhid E]; rfl, unhid HA⟩
      · rw [hx] at E
        clear hx
        go_wp2_with fail
        refine (l1In_any _ _ _ _).mono ?_
        rintro e w1 ⟨rfl, rfl⟩
        go_wp2_with fail
        go_ret
        exact ⟨by rw [unhid E]; rfl, unhid HA⟩
end Go.Proofs.Ytedimkcnemhhpaa
