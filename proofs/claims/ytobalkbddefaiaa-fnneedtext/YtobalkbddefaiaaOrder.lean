/- What the program and its model call a version. -/
import Derived.Test.YtobalkbddefaiaaVersionSpec
namespace Go.Proofs.Ytobalkbddefaiaa
open Go.RowKit

set_option maxHeartbeats 1000000 in
theorem VersionOk_any (s : ByteArray) (hs : s.size ≤ maxLen) (w : World) :
    Calls Try.prog 11 #[.string s] w fun e w' => e = .returned (.bool (versOk s.data.toList)) ∧ Below w.heap.size w w' := by
  go_enter Try.func11, Try.ntmps11
  go_wp2_with fail
  refine (versionOf_any s hs _).mono ?_
  rintro e w1 ⟨v, rfl, -, -, hb⟩
  go_wp2_with fail
  go_ret
  exact ⟨rfl, hb⟩

set_option maxHeartbeats 1000000 in
theorem specVersionOk_any (s : ByteArray) (hs : s.size ≤ 1048576) (w : World) :
    Calls Try.prog 10 #[.string s] w fun e w' => e = .returned (.bool (versOk s.data.toList)) ∧ Below w.heap.size w w' := by
  go_enter Try.func10, Try.ntmps10
  go_wp2_with fail
  refine (l3Parts_any s hs _).mono ?_
  rintro e w1 ⟨v, rfl, -, hb⟩
  go_wp2_with fail
  go_ret
  exact ⟨rfl, hb⟩

/-- Numbers, one by one; one that is missing is less than any. -/
def cmpL : List Int → List Int → Int
  | [], [] => 0
  | [], _ :: _ => -1
  | _ :: _, [] => 1
  | a :: s, b :: t => if a < b then -1 else if b < a then 1 else cmpL s t
theorem cmpL_drop {xs ys : List Int} {k : Nat} {a b : Int} (hx : xs[k]? = some a) (hy : ys[k]? = some b) : cmpL (xs.drop k) (ys.drop k) = if a < b then -1 else if b < a then 1 else cmpL (xs.drop (k + 1)) (ys.drop (k + 1)) := by
  obtain ⟨h1, h2⟩ := List.getElem?_eq_some_iff.1 hx
  obtain ⟨g1, g2⟩ := List.getElem?_eq_some_iff.1 hy
  rw [List.drop_eq_getElem_cons h1, List.drop_eq_getElem_cons g1, h2, g2]; rfl
theorem cmpL_left {xs ys : List Int} {k : Nat} {a : Int} (hx : xs[k]? = some a) (hy : ys.length ≤ k) : cmpL (xs.drop k) (ys.drop k) = 1 := by
  obtain ⟨h1, h2⟩ := List.getElem?_eq_some_iff.1 hx
  rw [List.drop_eq_getElem_cons h1, List.drop_of_length_le hy]; rfl
theorem cmpL_right {xs ys : List Int} {k : Nat} {b : Int} (hx : xs.length ≤ k) (hy : ys[k]? = some b) : cmpL (xs.drop k) (ys.drop k) = -1 := by
  obtain ⟨g1, g2⟩ := List.getElem?_eq_some_iff.1 hy
  rw [List.drop_eq_getElem_cons g1, List.drop_of_length_le hx]; rfl
theorem cmpL_end {xs ys : List Int} {k : Nat} (hx : xs.length ≤ k) (hy : ys.length ≤ k) : cmpL (xs.drop k) (ys.drop k) = 0 := by
  rw [List.drop_of_length_le hy, List.drop_of_length_le hx]; rfl
theorem cmpL_range (xs ys : List Int) : cmpL xs ys = -1 ∨ cmpL xs ys = 0 ∨ cmpL xs ys = 1 := by
  induction xs generalizing ys with
  | nil => cases ys <;> simp [cmpL]
  | cons a s ih =>
    cases ys with
    | nil => simp [cmpL]
    | cons b t =>
      unfold cmpL
      split
      · simp
      · split
        · simp
        · exact ih t

def cmpI (a b : Int) : Int := if a < b then -1 else if b < a then 1 else 0

set_option maxHeartbeats 1000000 in
theorem isNaN_any (c : Int) (w : World) : Calls Try.prog 68 #[.int .i64 c] w fun e w' => e = .returned (.bool false) ∧ w' = w := by
  go_enter Try.func68, Try.ntmps68
  go_wp2
  go_ret
  exact ⟨rfl, rfl⟩

set_option maxHeartbeats 1000000 in
theorem cmpInt_any (a b : Int) (w : World) :
    Calls Try.prog 64 #[.int .i64 a, .int .i64 b] w fun e w' => e = .returned (.int .i64 (cmpI a b)) ∧ w' = w := by
  by_cases h1 : a < b
  · have E := hid (show cmpI a b = -1 by simp [cmpI, h1])
    go_enter Try.func64, Try.ntmps64
    go_wp2_with (go_at_call 68; refine (isNaN_any _ _).mono ?_; rintro e w' ⟨rfl, rfl⟩)
    go_ret
    exact ⟨by rw [unhid E]; rfl, rfl⟩
  · by_cases h2 : b < a
    · have E := hid (show cmpI a b = 1 by simp [cmpI, h1, h2])
      go_enter Try.func64, Try.ntmps64
      go_wp2_with (go_at_call 68; refine (isNaN_any _ _).mono ?_; rintro e w' ⟨rfl, rfl⟩)
      go_ret
      exact ⟨by rw [unhid E]; rfl, rfl⟩
    · have E := hid (show cmpI a b = 0 by simp [cmpI, h1, h2])
      go_enter Try.func64, Try.ntmps64
      go_wp2_with (go_at_call 68; refine (isNaN_any _ _).mono ?_; rintro e w' ⟨rfl, rfl⟩)
      go_ret
      exact ⟨by rw [unhid E]; rfl, rfl⟩

/-- Numbers that lie at the head of a block. -/
def Nums (w : World) (g : Nat) (xs : List Int) : Prop := ∀ (k : Nat) x, xs[k]? = some x → w.cell? ⟨g, k, none⟩ = some (.int .i64 x)

set_option maxRecDepth 100000 in
set_option maxHeartbeats 2000000 in
theorem compare_any (g h n m c d : Nat) (xs ys : List Int) (hn : xs.length = n) (hm : ys.length = m) (bn : n ≤ 1000000) (bm : m ≤ 1000000) (w : World) (hx : Nums w g xs) (hy : Nums w h ys) :
    Calls Try.prog 47 #[.slice (some ⟨g, 0, none⟩) n c, .slice (some ⟨h, 0, none⟩) m d] w fun e w' => e = .returned (.int .i64 (cmpL xs ys)) ∧ w' = w := by
  have HX := hid hx
  have HY := hid hy
  have Hn := hid hn
  have Hm := hid hm
  clear hx hy hn hm
  go_enter Try.func47, Try.ntmps47
  go_wp2
  go_loop [11] (fun i => ∃ k : Nat, k ≤ n ∧ k ≤ m ∧ i = .int .i64 k ∧ Hid (cmpL xs ys = cmpL (xs.drop k) (ys.drop k))) (fun i => n - (intOf i).toNat)
  case atStart => exact ⟨0, by omega, by omega, rfl, hid (by simp)⟩
  case round =>
    obtain ⟨k, hk, hkm, rfl, hc⟩ := hrel
    by_cases hlt : k < n
    · obtain ⟨x, hx⟩ : ∃ x, xs[k]? = some x := ⟨xs[k]'(by rw [unhid Hn]; exact hlt), List.getElem?_eq_getElem _⟩
      have cx := unhid HX k x hx
      have Hx := hid hx
      clear hx
      by_cases hge : (m : Int) ≤ k
      · go_wp2_with fail
        go_ret
        exact ⟨by rw [unhid hc, cmpL_left (unhid Hx) (by rw [unhid Hm]; omega)]; rfl, rfl⟩
      · obtain ⟨y, hy⟩ : ∃ y, ys[k]? = some y := ⟨ys[k]'(by rw [unhid Hm]; omega), List.getElem?_eq_getElem _⟩
        have cy := unhid HY k y hy
        have Hd := hid (cmpL_drop (unhid Hx) hy)
        clear hy
        by_cases h1 : x < y
        · have E := hid (show cmpI x y = -1 by simp [cmpI, h1])
          have H1 := hid h1
          clear h1
          go_wp2_with fail
          refine (cmpInt_any x y _).mono ?_
          rintro e w1 ⟨rfl, rfl⟩
          rw [unhid E]
          go_wp2_with fail
          go_ret
          exact ⟨by rw [unhid hc, unhid Hd, if_pos (unhid H1)]; rfl, rfl⟩
        · by_cases h2 : y < x
          · have E := hid (show cmpI x y = 1 by simp [cmpI, h1, h2])
            have H1 := hid h1
            have H2 := hid h2
            clear h1 h2
            go_wp2_with fail
            refine (cmpInt_any x y _).mono ?_
            rintro e w1 ⟨rfl, rfl⟩
            rw [unhid E]
            go_wp2_with fail
            go_ret
            exact ⟨by rw [unhid hc, unhid Hd, if_neg (by have := unhid H1; omega), if_pos (unhid H2)]; rfl, rfl⟩
          · have E := hid (show cmpI x y = 0 by simp [cmpI, h1, h2])
            have H1 := hid h1
            have H2 := hid h2
            clear h1 h2
            go_wp2_with fail
            refine (cmpInt_any x y _).mono ?_
            rintro e w1 ⟨rfl, rfl⟩
            rw [unhid E]
            go_wp2_with fail
            refine ⟨⟨k + 1, by omega, by omega, by go_num, hid (by rw [unhid hc, unhid Hd, if_neg (by have := unhid H1; omega), if_neg (by have := unhid H2; omega)])⟩, by simp [intOf]; omega⟩
    · by_cases hlt2 : (n : Int) < m
      · go_wp2_with fail
        go_ret
        have hy : ∃ y, ys[k]? = some y := ⟨ys[k]'(by rw [unhid Hm]; omega), List.getElem?_eq_getElem _⟩
        obtain ⟨y, hy⟩ := hy
        exact ⟨by rw [unhid hc, cmpL_right (by rw [unhid Hn]; omega) hy]; rfl, rfl⟩
      · go_wp2_with fail
        go_ret
        exact ⟨by rw [unhid hc, cmpL_end (by rw [unhid Hn]; omega) (by rw [unhid Hm]; omega)]; rfl, rfl⟩

set_option maxHeartbeats 1000000 in
theorem order_any (g h n m c d : Nat) (xs ys : List Int) (hn : xs.length = n) (hm : ys.length = m) (bn : n ≤ 1000000) (bm : m ≤ 1000000) (w : World) (hx : Nums w g xs) (hy : Nums w h ys) :
    Calls Try.prog 26 #[.slice (some ⟨g, 0, none⟩) n c, .slice (some ⟨h, 0, none⟩) m d] w fun e w' => e = .returned (.int .i64 (cmpL xs ys)) ∧ w' = w := by
  have H := hid (compare_any g h n m c d xs ys hn hm bn bm w hx hy)
  clear hx hy hn hm
  go_enter Try.func26, Try.ntmps26
  go_wp2_with fail
  refine (unhid H).mono ?_
  rintro e w1 ⟨rfl, rfl⟩
  go_wp2_with fail
  go_ret
  exact ⟨rfl, rfl⟩
end Go.Proofs.Ytobalkbddefaiaa
