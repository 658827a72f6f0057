/- The last place of a byte in a text, and what stands ahead of it and behind it. -/
import Derived.Test.YtlnehebihfeegaaSpecPath
namespace Go.Proofs.Ytlnehebihfeegaa
open Go.RowKit Go.Shelf

/-- The last place of a byte; -1 if it is nowhere. -/
def lastIx (b : UInt8) : List UInt8 → Int
  | [] => -1
  | c :: l => if 0 ≤ lastIx b l then lastIx b l + 1 else if c == b then 0 else -1

theorem lastIx_ge (b : UInt8) : ∀ l, -1 ≤ lastIx b l
  | [] => by simp [lastIx]
  | c :: l => by have := lastIx_ge b l; unfold lastIx; split <;> (try split) <;> omega
theorem lastIx_lt (b : UInt8) : ∀ l, lastIx b l < l.length
  | [] => by simp [lastIx]
  | c :: l => by have := lastIx_lt b l; unfold lastIx; split <;> (try split) <;> simp <;> omega
theorem lastIx_no (b : UInt8) : ∀ l : List UInt8, (∀ j : Nat, l[j]? ≠ some b) → lastIx b l = -1
  | [], _ => rfl
  | c :: l, h => by
    have ih := lastIx_no b l (fun j => by have := h (j + 1); simpa using this)
    have hc : (c == b) = false := by have := h 0; simpa using this
    simp [lastIx, ih, hc]
theorem lastIx_at (b : UInt8) : ∀ (l : List UInt8) (i : Nat), l[i]? = some b → (∀ j : Nat, i < j → l[j]? ≠ some b) → lastIx b l = i
  | [], i, h, _ => by simp at h
  | c :: l, 0, h, hn => by
    have ih := lastIx_no b l (fun j => by have := hn (j + 1) (by omega); simpa using this)
    simp at h
    simp [lastIx, ih, h]
  | c :: l, i + 1, h, hn => by
    have ih := lastIx_at b l i (by simpa using h) (fun j hj => by have := hn (j + 1) (by omega); simpa using this)
    simp [lastIx, ih]

theorem cutB_lastIx (b : UInt8) : ∀ l : List UInt8, (lastIx b l < 0 → cutB b l = [l]) ∧ (0 ≤ lastIx b l → ∃ x y t, cutB b l = x :: y :: t) ∧ (cutB b l).getLast? = some (l.drop (lastIx b l + 1).toNat)
  | [] => by simp [lastIx, cutB]
  | c :: l => by
    obtain ⟨h1, h2, h3⟩ := cutB_lastIx b l
    have hg := lastIx_ge b l
    by_cases hc : (c == b) = true
    · by_cases hl : 0 ≤ lastIx b l
      · obtain ⟨x, y, t, e⟩ := h2 hl
        have el : lastIx b (c :: l) = lastIx b l + 1 := by simp [lastIx, hl]
        rw [el]
        refine ⟨by omega, fun _ => ⟨[], x, y :: t, by simp [cutB, hc, e]⟩, ?_⟩
        rw [show (lastIx b l + 1 + 1).toNat = (lastIx b l + 1).toNat + 1 from by omega, List.drop_succ_cons, ← h3]
        simp [cutB, hc, e]
      · have e : lastIx b l = -1 := by omega
        have el : lastIx b (c :: l) = 0 := by simp [lastIx, e, hc]
        have e1 := h1 (by omega)
        rw [el]
        refine ⟨by omega, fun _ => ⟨[], l, [], by simp [cutB, hc, e1]⟩, by simp [cutB, hc, e1]⟩
    · by_cases hl : 0 ≤ lastIx b l
      · obtain ⟨x, y, t, e⟩ := h2 hl
        have el : lastIx b (c :: l) = lastIx b l + 1 := by simp [lastIx, hl]
        rw [el]
        refine ⟨by omega, fun _ => ⟨c :: x, y, t, by simp [cutB, hc, e]⟩, ?_⟩
        rw [show (lastIx b l + 1 + 1).toNat = (lastIx b l + 1).toNat + 1 from by omega, List.drop_succ_cons, ← h3]
        simp [cutB, hc, e]
      · have e : lastIx b l = -1 := by omega
        have el : lastIx b (c :: l) = -1 := by simp [lastIx, e, hc]
        have e1 := h1 (by omega)
        rw [el]
        refine ⟨fun _ => by simp [cutB, hc, e1], by omega, by simp [cutB, hc, e1]⟩

theorem ba_ext {x y : ByteArray} (h : x.data.toList = y.data.toList) : x = y := by
  obtain ⟨⟨l⟩⟩ := x; obtain ⟨⟨m⟩⟩ := y; simp at h; subst h; rfl

/-- What stands ahead of the last slash; nothing without one. -/
def upS (s : ByteArray) : ByteArray := if lastIx 47 s.data.toList < 0 then ⟨#[]⟩ else s.extract 0 (lastIx 47 s.data.toList).toNat
/-- What stands behind the last slash. -/
def lastS (s : ByteArray) : ByteArray := s.extract (lastIx 47 s.data.toList + 1).toNat s.size

set_option maxRecDepth 100000 in
set_option maxHeartbeats 1000000 in
theorem baLastIndexByte_any (s : ByteArray) (b : UInt8) (hs : s.size ≤ maxLen) (w : World) :
    Calls Try.prog 138 #[.string s, .int .u8 b.toNat] w fun e w' => e = .returned (.int .i64 (lastIx b s.data.toList)) ∧ w' = w := by
  unfold maxLen at hs
  go_enter Try.func138, Try.ntmps138
  go_wp2
  go_loop [5] (fun i => ∃ k : Nat, k ≤ s.size ∧ i = .int .i64 ((k : Int) - 1) ∧ Hid (∀ j : Nat, k ≤ j → s.data.toList[j]? ≠ some b)) (fun i => (intOf i + 1).toNat)
  case atStart => exact ⟨s.size, Nat.le_refl _, rfl, hid (fun j hj => by rw [List.getElem?_eq_none (by simp; omega)]; simp)⟩
  case round =>
    obtain ⟨k, hk, rfl, hno⟩ := hrel
    cases k with
    | zero =>
      go_wp2
      go_ret
      exact ⟨by rw [lastIx_no b _ (fun j => unhid hno j (by omega))]; rfl, rfl⟩
    | succ k =>
      by_cases hb : s[k] = b
      · have hb' : (((s[k]).toNat : Int) == (b.toNat : Int)) = true := by simp [hb]
        go_wp2
        go_ret
        exact ⟨by rw [lastIx_at b _ k (by rw [getByte s k (by omega), hb]) (fun j hj => unhid hno j (by omega))]; rfl, rfl⟩
      · have hb' : (((s[k]).toNat : Int) == (b.toNat : Int)) = false := by
          rw [beq_eq_false_iff_ne]; intro h; exact hb (UInt8.toNat_inj.1 (by omega))
        go_wp2
        refine ⟨⟨k, by omega, rfl, hid (fun j hj => ?_)⟩, by simp [intOf]⟩
        by_cases hj' : j = k
        · subst hj'; rw [getByte s j (by omega)]; simpa using hb
        · exact unhid hno j (by omega)

set_option maxHeartbeats 1000000 in
theorem LastIndexByte_any (s : ByteArray) (b : UInt8) (hs : s.size ≤ maxLen) (w : World) :
    Calls Try.prog 123 #[.string s, .int .u8 b.toNat] w fun e w' => e = .returned (.int .i64 (lastIx b s.data.toList)) ∧ w' = w := by
  go_enter Try.func123, Try.ntmps123
  go_wp2_with (go_at_call 138; refine (baLastIndexByte_any _ _ hs _).mono ?_; rintro e w' ⟨rfl, rfl⟩)
  go_ret
  exact ⟨rfl, rfl⟩

set_option maxRecDepth 100000 in
set_option maxHeartbeats 1000000 in
theorem l1Up_any (s : ByteArray) (hs : s.size ≤ maxLen) (w : World) :
    Calls Try.prog 60 #[.string s] w fun e w' => e = .returned (.string (upS s)) ∧ w' = w := by
  unfold maxLen at hs
  go_enter Try.func60, Try.ntmps60
  go_wp2
  go_loop [3] (fun i => ∃ k : Nat, k ≤ s.size ∧ i = .int .i64 ((k : Int) - 1) ∧ Hid (∀ j : Nat, k ≤ j → s.data.toList[j]? ≠ some 47)) (fun i => (intOf i + 1).toNat)
  case atStart => exact ⟨s.size, Nat.le_refl _, rfl, hid (fun j hj => by rw [List.getElem?_eq_none (by simp; omega)]; simp)⟩
  case round =>
    obtain ⟨k, hk, rfl, hno⟩ := hrel
    cases k with
    | zero =>
      go_wp2
      go_ret
      have e : upS s = ⟨#[]⟩ := by unfold upS; rw [lastIx_no 47 _ (fun j => unhid hno j (by omega))]; rfl
      exact ⟨by rw [e]; rfl, rfl⟩
    | succ k =>
      by_cases hb : s[k] = 47
      · have hb' : (((s[k]).toNat : Int) == 47) = true := by simp [hb]
        go_wp2
        go_ret
        have e : upS s = s.extract 0 k := by unfold upS; rw [lastIx_at 47 _ k (by rw [getByte s k (by omega), hb]) (fun j hj => unhid hno j (by omega)), if_neg (by omega)]; simp
        exact ⟨by rw [e]; rfl, rfl⟩
      · have hb' : (((s[k]).toNat : Int) == 47) = false := by
          rw [beq_eq_false_iff_ne]; intro h; exact hb (UInt8.toNat_inj.1 (by simp; omega))
        go_wp2
        refine ⟨⟨k, by omega, rfl, hid (fun j hj => ?_)⟩, by simp [intOf]⟩
        by_cases hj' : j = k
        · subst hj'; rw [getByte s j (by omega)]; simpa using hb
        · exact unhid hno j (by omega)

/-- What the model's PathUp and PathLast answer. -/
def pathUpS (s : ByteArray) : ByteArray := if pathB s.data.toList then upS s else ⟨#[]⟩
def pathLastS (s : ByteArray) : ByteArray := if pathB s.data.toList then lastS s else ⟨#[]⟩

set_option maxHeartbeats 1000000 in
theorem PathUp_any (s : ByteArray) (hm : s.size ≤ maxLen) (w : World) :
    Calls Try.prog 100 #[.string s] w fun e w' => e = .returned (.string (pathUpS s)) ∧ Below w.heap.size w w' := by
  have hg := lastIx_ge 47 s.data.toList
  have hl := lastIx_lt 47 s.data.toList
  rw [← Lib.size_eq] at hl
  by_cases hi : lastIx 47 s.data.toList < 0
  · have e : pathUpS s = ⟨#[]⟩ := by simp [pathUpS, upS, hi]
    have E := hid e
    clear e
    go_enter Try.func100, Try.ntmps100
    go_wp2_with fail
    refine (LastIndexByte_any s 47 hm _).mono ?_
    rintro e w' ⟨rfl, rfl⟩
    go_wp2_with fail
    go_ret
    exact ⟨by rw [unhid E]; rfl, Below.refl _ _⟩
  · obtain ⟨i, ei⟩ : ∃ i : Nat, lastIx 47 s.data.toList = i := ⟨(lastIx 47 s.data.toList).toNat, by omega⟩
    have hm' : s.size ≤ 9223372036854775807 := hm
    cases hp : pathB s.data.toList
    · have E := hid (show pathUpS s = ⟨#[]⟩ by simp [pathUpS, hp])
      go_enter Try.func100, Try.ntmps100
      go_wp2_with fail
      refine (LastIndexByte_any s 47 hm _).mono ?_
      rintro e w' ⟨rfl, rfl⟩
      go_wp2_with (go_at_call 81; refine (PathOk_any _ hm _).mono ?_; rintro e w' ⟨rfl, hb⟩)
      go_ret
      exact ⟨by rw [unhid E]; rfl, hb⟩
    · have E := hid (show pathUpS s = s.extract 0 i by simp [pathUpS, upS, hp, ei]; omega)
      go_enter Try.func100, Try.ntmps100
      go_wp2_with fail
      refine (LastIndexByte_any s 47 hm _).mono ?_
      rintro e w' ⟨rfl, rfl⟩
      go_wp2_with (go_at_call 81; refine (PathOk_any _ hm _).mono ?_; rintro e w' ⟨rfl, hb⟩)
      go_ret
      exact ⟨by rw [unhid E]; rfl, hb⟩
end Go.Proofs.Ytlnehebihfeegaa
