/- How long a class is, by the model. -/
import Derived.Test.YtiggojpepgbcoaaGlobClass
namespace Go.Proofs.Ytiggojpepgbcoaa
open Go.RowKit Go.Shelf

def classN (s : ByteArray) : Int := match classR s with
  | some p => p.2
  | none => 0
theorem get_some {s : ByteArray} {j : Nat} (hj : j < s.size) : s.data.toList[j]? = some s[j] := getByte s j hj
theorem name_93 : nameB ((93 : UInt8).toNat : Int) = false := by decide
/-- The scan ended at k: what that tells of the class. -/
theorem class_end {s : ByteArray} {k : Nat} (h0 : s.data.toList[0]? = some 91) (hk : k ≤ s.size) (hk0 : clsFrom s.data.toList ≤ k) (hall : ∀ j (hj : j < s.size), clsFrom s.data.toList ≤ j → j < k → nameB (s[j].toNat : Int) = true)
    (hend : ∀ h : k < s.size, nameB (s[k].toNat : Int) = false) : classN s = if k = clsFrom s.data.toList ∨ s.data.toList[k]? ≠ some 93 then 0 else (k : Int) + 1 := by
  have hl : s.data.toList.length = s.size := (Lib.size_eq s).symm
  split
  · rename_i hc
    unfold classN
    cases hr : classR s with
    | none => rfl
    | some p =>
      exfalso
      obtain ⟨i, _, h1, h2, h3⟩ := class_of h0 hr
      have his : i < s.size := by rw [← hl]; exact (List.getElem?_eq_some_iff.1 h2).1
      rcases Nat.lt_trichotomy i k with h | h | h
      · have := hall i his (Nat.le_of_lt h1) h
        rw [get_some his] at h2
        have e : s[i] = 93 := by simpa using h2
        rw [e] at this
        revert this; decide
      · subst h
        rcases hc with hc | hc
        · omega
        · exact hc h2
      · obtain ⟨c, hcc, hn⟩ := h3 k hk0 h
        have hks : k < s.size := by omega
        rw [get_some hks] at hcc
        cases hcc
        rw [hend hks] at hn
        cases hn
  · rename_i hc
    simp only [not_or, Decidable.not_not] at hc
    unfold classN
    rw [class_some h0 (by omega) hc.2 (fun j h1 h2 => ⟨_, get_some (by omega), hall j (by omega) h1 h2⟩)]
    simp

set_option maxRecDepth 100000 in
set_option maxHeartbeats 4000000 in
theorem l1Class_any (s : ByteArray) (hs : s.size ≤ 1048576) (h0 : s.data.toList[0]? = some 91) (w : World) :
    Calls Try.prog 42 #[.string s] w fun e w' => e = .returned (.int .i64 (classN s)) ∧ w' = w := by
  have hl : s.data.toList.length = s.size := (Lib.size_eq s).symm
  have hz : 0 < s.size := by rw [← hl]; exact (List.getElem?_eq_some_iff.1 h0).1
  have hcase : (¬ (1 : Int) < s.size ∧ clsFrom s.data.toList = 1) ∨ ∃ h : 1 < s.size, (((s[1]).toNat : Int) == 33) = true ∧ clsFrom s.data.toList = 2 ∨ (((s[1]).toNat : Int) == 33) = false ∧ clsFrom s.data.toList = 1 := by
    by_cases h : 1 < s.size
    · refine .inr ⟨h, ?_⟩
      by_cases e : s[1] = 33
      · left; exact ⟨by rw [e]; rfl, by unfold clsFrom; rw [get_some h, e]; rfl⟩
      · right; exact ⟨eq_no (n := 33) rfl e, by unfold clsFrom; rw [get_some h, if_neg (by simpa using e)]⟩
    · refine .inl ⟨by omega, ?_⟩
      unfold clsFrom
      rw [List.getElem?_eq_none (by omega)]; rfl
  have HC := hid (fun k => class_end (s := s) (k := k) h0)
  clear h0 hl
  rcases hcase with ⟨g1, g2⟩ | ⟨g1, ⟨g3, g2⟩ | ⟨g3, g2⟩⟩
  · rw [g2] at HC
    clear g2
    go_enter Try.func42, Try.ntmps42
    go_wp2_with fail
    go_loop [3] (fun i => ∃ k : Nat, k ≤ s.size ∧ 1 ≤ k ∧ i = .int .i64 k ∧ Hid (∀ j (hj : j < s.size), 1 ≤ j → j < k → nameB (s[j].toNat : Int) = true)) (fun i => s.size - (intOf i).toNat)
    case atStart => exact ⟨1, by omega, Nat.le_refl _, rfl, hid (fun j hj h1 h2 => by omega)⟩
    case round =>
      obtain ⟨k, hk, hkF, rfl, hc⟩ := hrel
      by_cases hlt : k < s.size
      · go_wp2_with fail
        refine (l1Small_any _ _).mono ?_
        rintro e w' ⟨rfl, rfl⟩
        cases hx : nameB (s[k].toNat : Int)
        · have E := hid (unhid HC k hk hkF (unhid hc) (fun _ => hx))
          by_cases hF : k = 1
          · subst hF
            go_wp2_with fail
            go_ret
            exact ⟨by rw [unhid E]; rfl, rfl⟩
          · have hF' : ((k : Int) == 1) = false := by rw [beq_eq_false_iff_ne]; omega
            have hS' : ((k : Int) == s.size) = false := by rw [beq_eq_false_iff_ne]; omega
            by_cases h93 : s[k] = 93
            · have b9 : (((s[k]).toNat : Int) != 93) = false := by rw [h93]; rfl
              have E2 := hid (show classN s = (k : Int) + 1 by rw [unhid E, if_neg (by rw [get_some hlt, h93]; simp [hF])])
              clear h93
              go_wp2_with fail
              go_ret
              exact ⟨by rw [unhid E2]; rfl, rfl⟩
            · have b9 : (((s[k]).toNat : Int) != 93) = true := by rw [bne_iff_ne]; intro e; exact h93 (UInt8.toNat_inj.1 (by have : (93 : UInt8).toNat = 93 := rfl; omega))
              have E2 := hid (show classN s = 0 by rw [unhid E, if_pos (.inr (by rw [get_some hlt]; simpa using h93))])
              clear h93
              go_wp2_with fail
              go_ret
              exact ⟨by rw [unhid E2]; rfl, rfl⟩
        · go_wp2_with fail
          refine ⟨⟨k + 1, by omega, by omega, by go_num, hid (fun j hj h1 h2 => ?_)⟩, by simp [intOf]; omega⟩
          by_cases hjk : j < k
          · exact unhid hc j hj h1 hjk
          · obtain rfl : j = k := by omega
            exact hx
      · have E := hid (unhid HC k hk hkF (unhid hc) (fun h => absurd h hlt))
        have E2 := hid (show classN s = 0 by rw [unhid E, if_pos (.inr (by rw [List.getElem?_eq_none (by simp; omega)]; simp))])
        have hS : ((k : Int) == s.size) = true := by rw [beq_iff_eq]; omega
        by_cases hF : k = 1
        · subst hF
          first | (exfalso; omega) | (go_wp2_with fail; go_ret; exact ⟨by rw [unhid E2]; rfl, rfl⟩)
        · have hF' : ((k : Int) == 1) = false := by rw [beq_eq_false_iff_ne]; omega
          go_wp2_with fail
          go_ret
          exact ⟨by rw [unhid E2]; rfl, rfl⟩
  · rw [g2] at HC
    clear g2
    go_enter Try.func42, Try.ntmps42
    go_wp2_with fail
    go_loop [3] (fun i => ∃ k : Nat, k ≤ s.size ∧ 2 ≤ k ∧ i = .int .i64 k ∧ Hid (∀ j (hj : j < s.size), 2 ≤ j → j < k → nameB (s[j].toNat : Int) = true)) (fun i => s.size - (intOf i).toNat)
    case atStart => exact ⟨2, by omega, Nat.le_refl _, rfl, hid (fun j hj h1 h2 => by omega)⟩
    case round =>
      obtain ⟨k, hk, hkF, rfl, hc⟩ := hrel
      by_cases hlt : k < s.size
      · go_wp2_with fail
        refine (l1Small_any _ _).mono ?_
        rintro e w' ⟨rfl, rfl⟩
        cases hx : nameB (s[k].toNat : Int)
        · have E := hid (unhid HC k hk hkF (unhid hc) (fun _ => hx))
          by_cases hF : k = 2
          · subst hF
            go_wp2_with fail
            go_ret
            exact ⟨by rw [unhid E]; rfl, rfl⟩
          · have hF' : ((k : Int) == 2) = false := by rw [beq_eq_false_iff_ne]; omega
            have hS' : ((k : Int) == s.size) = false := by rw [beq_eq_false_iff_ne]; omega
            by_cases h93 : s[k] = 93
            · have b9 : (((s[k]).toNat : Int) != 93) = false := by rw [h93]; rfl
              have E2 := hid (show classN s = (k : Int) + 1 by rw [unhid E, if_neg (by rw [get_some hlt, h93]; simp [hF])])
              clear h93
              go_wp2_with fail
              go_ret
              exact ⟨by rw [unhid E2]; rfl, rfl⟩
            · have b9 : (((s[k]).toNat : Int) != 93) = true := by rw [bne_iff_ne]; intro e; exact h93 (UInt8.toNat_inj.1 (by have : (93 : UInt8).toNat = 93 := rfl; omega))
              have E2 := hid (show classN s = 0 by rw [unhid E, if_pos (.inr (by rw [get_some hlt]; simpa using h93))])
              clear h93
              go_wp2_with fail
              go_ret
              exact ⟨by rw [unhid E2]; rfl, rfl⟩
        · go_wp2_with fail
          refine ⟨⟨k + 1, by omega, by omega, by go_num, hid (fun j hj h1 h2 => ?_)⟩, by simp [intOf]; omega⟩
          by_cases hjk : j < k
          · exact unhid hc j hj h1 hjk
          · obtain rfl : j = k := by omega
            exact hx
      · have E := hid (unhid HC k hk hkF (unhid hc) (fun h => absurd h hlt))
        have E2 := hid (show classN s = 0 by rw [unhid E, if_pos (.inr (by rw [List.getElem?_eq_none (by simp; omega)]; simp))])
        have hS : ((k : Int) == s.size) = true := by rw [beq_iff_eq]; omega
        by_cases hF : k = 2
        · subst hF
          first | (exfalso; omega) | (go_wp2_with fail; go_ret; exact ⟨by rw [unhid E2]; rfl, rfl⟩)
        · have hF' : ((k : Int) == 2) = false := by rw [beq_eq_false_iff_ne]; omega
          go_wp2_with fail
          go_ret
          exact ⟨by rw [unhid E2]; rfl, rfl⟩
  · rw [g2] at HC
    clear g2
    go_enter Try.func42, Try.ntmps42
    go_wp2_with fail
    go_loop [3] (fun i => ∃ k : Nat, k ≤ s.size ∧ 1 ≤ k ∧ i = .int .i64 k ∧ Hid (∀ j (hj : j < s.size), 1 ≤ j → j < k → nameB (s[j].toNat : Int) = true)) (fun i => s.size - (intOf i).toNat)
    case atStart => exact ⟨1, by omega, Nat.le_refl _, rfl, hid (fun j hj h1 h2 => by omega)⟩
    case round =>
      obtain ⟨k, hk, hkF, rfl, hc⟩ := hrel
      by_cases hlt : k < s.size
      · go_wp2_with fail
        refine (l1Small_any _ _).mono ?_
        rintro e w' ⟨rfl, rfl⟩
        cases hx : nameB (s[k].toNat : Int)
        · have E := hid (unhid HC k hk hkF (unhid hc) (fun _ => hx))
          by_cases hF : k = 1
          · subst hF
            go_wp2_with fail
            go_ret
            exact ⟨by rw [unhid E]; rfl, rfl⟩
          · have hF' : ((k : Int) == 1) = false := by rw [beq_eq_false_iff_ne]; omega
            have hS' : ((k : Int) == s.size) = false := by rw [beq_eq_false_iff_ne]; omega
            by_cases h93 : s[k] = 93
            · have b9 : (((s[k]).toNat : Int) != 93) = false := by rw [h93]; rfl
              have E2 := hid (show classN s = (k : Int) + 1 by rw [unhid E, if_neg (by rw [get_some hlt, h93]; simp [hF])])
              clear h93
              go_wp2_with fail
              go_ret
              exact ⟨by rw [unhid E2]; rfl, rfl⟩
            · have b9 : (((s[k]).toNat : Int) != 93) = true := by rw [bne_iff_ne]; intro e; exact h93 (UInt8.toNat_inj.1 (by have : (93 : UInt8).toNat = 93 := rfl; omega))
              have E2 := hid (show classN s = 0 by rw [unhid E, if_pos (.inr (by rw [get_some hlt]; simpa using h93))])
              clear h93
              go_wp2_with fail
              go_ret
              exact ⟨by rw [unhid E2]; rfl, rfl⟩
        · go_wp2_with fail
          refine ⟨⟨k + 1, by omega, by omega, by go_num, hid (fun j hj h1 h2 => ?_)⟩, by simp [intOf]; omega⟩
          by_cases hjk : j < k
          · exact unhid hc j hj h1 hjk
          · obtain rfl : j = k := by omega
            exact hx
      · have E := hid (unhid HC k hk hkF (unhid hc) (fun h => absurd h hlt))
        have E2 := hid (show classN s = 0 by rw [unhid E, if_pos (.inr (by rw [List.getElem?_eq_none (by simp; omega)]; simp))])
        have hS : ((k : Int) == s.size) = true := by rw [beq_iff_eq]; omega
        by_cases hF : k = 1
        · subst hF
          first | (exfalso; omega) | (go_wp2_with fail; go_ret; exact ⟨by rw [unhid E2]; rfl, rfl⟩)
        · have hF' : ((k : Int) == 1) = false := by rw [beq_eq_false_iff_ne]; omega
          go_wp2_with fail
          go_ret
          exact ⟨by rw [unhid E2]; rfl, rfl⟩
end Go.Proofs.Ytiggojpepgbcoaa
