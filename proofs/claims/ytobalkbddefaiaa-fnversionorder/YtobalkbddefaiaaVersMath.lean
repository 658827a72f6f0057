/- Two versions are of one order only if they are one text. -/
import Derived.Test.YtobalkbddefaiaaFits
namespace Go.Proofs.Ytobalkbddefaiaa
open Go.RowKit

theorem cmpL_zero (xs ys : List Int) (h : cmpL xs ys = 0) : xs = ys := by
  induction xs generalizing ys with
  | nil => cases ys <;> simp_all [cmpL]
  | cons a s ih =>
    cases ys with
    | nil => simp [cmpL] at h
    | cons b t =>
      unfold cmpL at h
      split at h
      · cases h
      · split at h
        · cases h
        · rw [ih t h]
          have : a = b := by omega
          rw [this]
theorem cmpL_self (xs : List Int) : cmpL xs xs = 0 := by
  induction xs with
  | nil => rfl
  | cons a s ih => unfold cmpL; rw [if_neg (by omega), if_neg (by omega), ih]

def joinB (b : UInt8) : List (List UInt8) → List UInt8
  | [] => []
  | [x] => x
  | x :: y :: t => x ++ b :: joinB b (y :: t)
theorem join_cut (b : UInt8) (l : List UInt8) : joinB b (cutB b l) = l := by
  induction l with
  | nil => rfl
  | cons c l ih =>
    unfold cutB
    split
    · rename_i hc
      have hcb : c = b := by simpa using hc
      cases hk : cutB b l with
      | nil => exact absurd hk (cutB_ne b l)
      | cons h t =>
        show [] ++ b :: joinB b (h :: t) = _
        rw [← hk, ih, hcb]; rfl
    · cases hk : cutB b l with
      | nil => exact absurd hk (cutB_ne b l)
      | cons h t =>
        dsimp only
        rw [hk] at ih
        cases t with
        | nil => show c :: h = _; rw [show h = l from ih]
        | cons y t => show (c :: h) ++ b :: joinB b (y :: t) = _; rw [List.cons_append, show h ++ b :: joinB b (y :: t) = l from ih]
theorem cut_inj {b : UInt8} {l m : List UInt8} (h : cutB b l = cutB b m) : l = m := by rw [← join_cut b l, h, join_cut]

/-- Figures with no nought ahead. -/
def bareNum (l : List UInt8) : Prop := (∀ c ∈ l, 48 ≤ c.toNat ∧ c.toNat ≤ 57) ∧ l[0]? ≠ some 48
theorem bare_front {l : List UInt8} {c : UInt8} (h : bareNum (l ++ [c])) : bareNum l := by
  refine ⟨fun d hd => h.1 d (by simp [hd]), fun e => h.2 ?_⟩
  cases l with
  | nil => cases e
  | cons x t => simpa using e
theorem dig_of {c : UInt8} (h : 48 ≤ c.toNat ∧ c.toNat ≤ 57) : digI c = (c.toNat : Int) - 48 := by unfold digI; omega
theorem bare_zero : ∀ (n : Nat) (l : List UInt8), l.length = n → bareNum l → valI l = 0 → l = [] := by
  intro n
  induction n with
  | zero => intro l hl _ _; exact List.length_eq_zero_iff.1 hl
  | succ n ih =>
    intro l hl hb hv
    rcases List.eq_nil_or_concat l with rfl | ⟨l', c, rfl⟩
    · rfl
    · rw [List.concat_eq_append] at hl hb hv ⊢
      rw [valI_snoc] at hv
      have hc := hb.1 c (by simp)
      have hd := dig_of hc
      have hn := valI_nn l'
      have hl' := ih l' (by simpa using hl) (bare_front hb) (by omega)
      subst hl'
      exact absurd (show ([c] : List UInt8)[0]? = some 48 from by
        have : c = 48 := UInt8.toNat_inj.1 (by have e : (48 : UInt8).toNat = 48 := rfl; omega)
        rw [this]; rfl) hb.2
theorem bare_inj : ∀ (n : Nat) (p q : List UInt8), p.length = n → bareNum p → bareNum q → valI p = valI q → p = q := by
  intro n
  induction n with
  | zero =>
    intro p q hl _ hq hv
    obtain rfl := List.length_eq_zero_iff.1 hl
    exact (bare_zero _ q rfl hq hv.symm).symm
  | succ n ih =>
    intro p q hl hp hq hv
    rcases List.eq_nil_or_concat p with rfl | ⟨p', c, rfl⟩
    · cases hl
    · rcases List.eq_nil_or_concat q with rfl | ⟨q', d, rfl⟩
      · exact bare_zero _ _ rfl hp hv
      · rw [List.concat_eq_append] at hl hp hq hv ⊢
        rw [List.concat_eq_append] at hv ⊢
        rw [valI_snoc, valI_snoc] at hv
        have hc := hp.1 c (by simp)
        have hd := hq.1 d (by simp)
        rw [dig_of hc, dig_of hd] at hv
        have e1 : p' = q' := ih p' q' (by simpa using hl) (bare_front hp) (bare_front hq) (by omega)
        have e2 : c = d := UInt8.toNat_inj.1 (by omega)
        rw [e1, e2]
theorem plain_bare {l : List UInt8} (h : plainNum l = true) : l = [48] ∨ bareNum l ∧ l ≠ [] := by
  unfold plainNum at h
  simp only [Bool.and_eq_true, List.all_eq_true, figB, decide_eq_true_eq, Bool.not_eq_true', Bool.and_eq_false_iff, decide_eq_false_iff_not] at h
  obtain ⟨⟨h1, h2⟩, h3⟩ := h
  have hne : l ≠ [] := by intro e; rw [e] at h1; cases h1
  have hf : ∀ c ∈ l, 48 ≤ c.toNat ∧ c.toNat ≤ 57 := fun c hc => by have := h3 c hc; omega
  by_cases h0 : l[0]? = some 48
  · left
    rcases h2 with h2 | h2
    · cases l with
      | nil => exact absurd rfl hne
      | cons x t =>
        cases t with
        | nil => simp at h0; rw [h0]
        | cons y u => exact absurd (by simp) h2
    · rw [h0] at h2; exact absurd h2 (by decide)
  · exact .inr ⟨⟨hf, h0⟩, hne⟩
theorem plain_inj {p q : List UInt8} (hp : plainNum p = true) (hq : plainNum q = true) (h : valI p = valI q) : p = q := by
  rcases plain_bare hp with rfl | ⟨bp, np⟩ <;> rcases plain_bare hq with rfl | ⟨bq, nq⟩
  · rfl
  · exact absurd (bare_zero _ q rfl bq (h.symm.trans rfl)) nq
  · exact absurd (bare_zero _ p rfl bp (h.trans rfl)) np
  · exact bare_inj _ p q rfl bp bq h
theorem map_inj_on : ∀ (ps qs : List (List UInt8)), (∀ p ∈ ps, plainNum p = true) → (∀ q ∈ qs, plainNum q = true) → ps.map valI = qs.map valI → ps = qs := by
  intro ps
  induction ps with
  | nil => intro qs _ _ h; exact (List.map_eq_nil_iff.1 h.symm).symm
  | cons p ps ih =>
    intro qs hp hq h
    cases qs with
    | nil => cases h
    | cons q qs =>
      simp only [List.map_cons, List.cons.injEq] at h
      rw [plain_inj (hp p (by simp)) (hq q (by simp)) h.1, ih qs (fun x hx => hp x (by simp [hx])) (fun x hx => hq x (by simp [hx])) h.2]
theorem vers_plain {a : List UInt8} (h : versOk a = true) : ∀ p ∈ cutB 46 a, plainNum p = true := by
  intro p hp
  simp only [versOk, Bool.and_eq_true, List.all_eq_true, numOk] at h
  exact (h.2 p hp).1
/-- Two versions are the same only if they are one text. -/
theorem ord_zero {a b : List UInt8} (ha : versOk a = true) (hb : versOk b = true) : (ordI a b == 0) = (a == b) := by
  have e : ordI a b = cmpL (versL a) (versL b) := by simp [ordI, ha, hb]
  rw [e]
  by_cases hab : a = b
  · subst hab; rw [cmpL_self]; simp
  · have : cmpL (versL a) (versL b) ≠ 0 := fun h => hab (cut_inj (map_inj_on _ _ (vers_plain ha) (vers_plain hb) (cmpL_zero _ _ h)))
    rw [beq_eq_false_iff_ne.2 this, beq_eq_false_iff_ne.2 hab]
end Go.Proofs.Ytobalkbddefaiaa
