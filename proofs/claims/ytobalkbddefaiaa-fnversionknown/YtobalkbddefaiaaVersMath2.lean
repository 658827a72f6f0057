/- Versions are in one order: turned about, through a third one, with a number more. -/
import Derived.Test.YtobalkbddefaiaaVersMath
namespace Go.Proofs.Ytobalkbddefaiaa
open Go.RowKit

theorem cmpL_turn (xs ys : List Int) : cmpL ys xs = - cmpL xs ys := by
  induction xs generalizing ys with
  | nil => cases ys <;> rfl
  | cons a s ih =>
    cases ys with
    | nil => rfl
    | cons b t =>
      unfold cmpL
      by_cases h1 : a < b
      · rw [if_pos h1, if_neg (by omega), if_pos h1]; rfl
      · by_cases h2 : b < a
        · rw [if_pos h2, if_neg h1, if_pos h2]
        · rw [if_neg h2, if_neg h1, if_neg h1, if_neg h2, ih t]
theorem cmpL_le_trans (xs ys zs : List Int) (h1 : cmpL xs ys ≤ 0) (h2 : cmpL ys zs ≤ 0) : cmpL xs zs ≤ 0 := by
  induction xs generalizing ys zs with
  | nil => cases zs <;> simp [cmpL]
  | cons a s ih =>
    cases ys with
    | nil => simp [cmpL] at h1
    | cons b t =>
      cases zs with
      | nil => simp [cmpL] at h2
      | cons c u =>
        unfold cmpL at h1 h2 ⊢
        split at h1
        · split at h2
          · rw [if_pos (by omega)]; omega
          · split at h2
            · omega
            · rw [if_pos (by omega)]; omega
        · split at h1
          · omega
          · split at h2
            · rw [if_pos (by omega)]; omega
            · split at h2
              · omega
              · rw [if_neg (by omega), if_neg (by omega)]
                exact ih t u h1 h2
theorem cmpL_more (xs : List Int) (y : Int) : cmpL xs (xs ++ [y]) = -1 := by
  induction xs with
  | nil => rfl
  | cons a s ih => rw [List.cons_append]; unfold cmpL; rw [if_neg (by omega), if_neg (by omega), ih]
theorem cmpL_last (xs : List Int) (x y : Int) (h : x < y) : cmpL (xs ++ [x]) (xs ++ [y]) = -1 := by
  induction xs with
  | nil => simp [cmpL, h]
  | cons a s ih => rw [List.cons_append, List.cons_append]; unfold cmpL; rw [if_neg (by omega), if_neg (by omega), ih]

theorem ordI_turn (a b : List UInt8) : ordI b a = - ordI a b := by
  unfold ordI
  rw [Bool.and_comm (versOk b)]
  split
  · exact cmpL_turn _ _
  · rfl
theorem ordI_trans {a b c : List UInt8} (ha : versOk a = true) (hb : versOk b = true) (hc : versOk c = true) (h1 : ordI a b ≤ 0) (h2 : ordI b c ≤ 0) : ordI a c ≤ 0 := by
  unfold ordI at *
  simp only [ha, hb, hc, Bool.and_self, if_true] at *
  exact cmpL_le_trans _ _ _ h1 h2
theorem ordI_range (a b : List UInt8) : ordI a b = -1 ∨ ordI a b = 0 ∨ ordI a b = 1 := by
  unfold ordI
  split
  · exact cmpL_range _ _
  · exact .inr (.inl rfl)

theorem cutB_app (b : UInt8) (l r : List UInt8) : cutB b (l ++ b :: r) = cutB b l ++ cutB b r := by
  induction l with
  | nil => simp [cutB]
  | cons c l ih =>
    rw [List.cons_append, cutB, cutB.eq_2 b c l]
    by_cases h : (c == b) = true
    · rw [if_pos h, if_pos h, ih, List.cons_append]
    · rw [if_neg h, if_neg h, ih]
      cases hc : cutB b l with
      | nil => exact absurd hc (cutB_ne b l)
      | cons x t => rfl
theorem versL_app (l r : List UInt8) : versL (l ++ 46 :: r) = versL l ++ versL r := by
  unfold versL; rw [cutB_app, List.map_append]
theorem versOk_app (l r : List UInt8) : versOk (l ++ 46 :: r) = (decide ((cutB 46 l).length + (cutB 46 r).length ≤ 4) && ((cutB 46 l).all (fun p => numOk p 999) && (cutB 46 r).all (fun p => numOk p 999))) := by
  unfold versOk; rw [cutB_app, List.all_append, List.length_append]
theorem ordI_more {a : List UInt8} (ha : versOk a = true) (h : versOk (a ++ [46, 48]) = true) : ordI a (a ++ [46, 48]) = -1 := by
  unfold ordI
  rw [ha, h, Bool.and_self, if_pos rfl, versL_app]
  exact cmpL_more _ _
theorem ordI_ten {a : List UInt8} (h : versOk (a ++ [46, 57]) = true) : ordI (a ++ [46, 57]) (a ++ [46, 49, 48]) = -1 := by
  have h2 : versOk (a ++ [46, 49, 48]) = true := by
    rw [versOk_app] at h ⊢
    simp only [Bool.and_eq_true] at h ⊢
    exact ⟨h.1, h.2.1, by decide +kernel⟩
  unfold ordI
  rw [h, h2, Bool.and_self, if_pos rfl, versL_app, versL_app]
  exact cmpL_last _ _ _ (by decide +kernel)
theorem known1 : ordI [49, 46, 50] [49, 46, 49, 48] = -1 := by decide +kernel
theorem known2 : ordI [50] [49, 46, 57, 57] = 1 := by decide +kernel
theorem known3 : ordI [49] [49, 46, 48] = -1 := by decide +kernel
theorem app_data (a b : ByteArray) : (a ++ b).data.toList = a.data.toList ++ b.data.toList := by simp [ByteArray.data_append]
end Go.Proofs.Ytobalkbddefaiaa
