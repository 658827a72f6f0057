/- Plain mathematics of patterns: the places at which a pattern may stand behind some items, kept all at once, tell whether it takes just these. -/
import Derived.Test.YtiggojpepgbcoaaProg
namespace Go.Proofs.Ytiggojpepgbcoaa

/-- A pattern: 'none' takes any run of items, 'some f' one item that f takes. -/
abbrev Pat (α : Type) := List (Option (α → Bool))

def starO {α : Type} (f : List α → Bool) : List α → Bool
  | [] => f []
  | c :: t => f (c :: t) || starO f t
def matchO {α : Type} : Pat α → List α → Bool
  | [], s => s.isEmpty
  | none :: g, s => starO (matchO g) s
  | some f :: g, s => match s with
    | [] => false
    | c :: t => f c && matchO g t

def runAt {α : Type} (xs : Pat α) (i : Nat) : Bool := match xs[i]? with
  | some none => true
  | _ => false
def takeAt {α : Type} (xs : Pat α) (i : Nat) (c : α) : Bool := match xs[i]? with
  | some (some f) => f c
  | _ => false

def skipN {α : Type} (xs : Pat α) (h : Nat → Bool) : Nat → Nat → Bool
  | 0 => h
  | k + 1 => fun j => skipN xs h k j || (j == k + 1 && (skipN xs h k k && runAt xs k))
def passN {α : Type} (xs : Pat α) (h : Nat → Bool) (c : α) : Nat → Nat → Bool
  | 0 => fun _ => false
  | k + 1 => fun j => passN xs h c k j || (h k && ((runAt xs k && j == k) || (takeAt xs k c && j == k + 1)))
def nextP {α : Type} (xs : Pat α) (h : Nat → Bool) (c : α) : Nat → Bool := skipN xs (passN xs h c xs.length) xs.length
def startP {α : Type} (xs : Pat α) : Nat → Bool := skipN xs (fun j => j == 0) xs.length
def placesP {α : Type} (xs : Pat α) (items : List α) : Nat → Bool := items.foldl (nextP xs) (startP xs)
theorem placesP_snoc {α : Type} (xs : Pat α) (items : List α) (c : α) : placesP xs (items ++ [c]) = nextP xs (placesP xs items) c := by simp [placesP]

theorem skipN_iff {α : Type} (xs : Pat α) (h : Nat → Bool) (k j : Nat) : skipN xs h k j = true ↔ ∃ i, i ≤ j ∧ h i = true ∧ (∀ t, i ≤ t → t < j → runAt xs t = true) ∧ (i = j ∨ j ≤ k) := by
  induction k generalizing j with
  | zero =>
    constructor
    · intro e; exact ⟨j, Nat.le_refl _, e, fun t h1 h2 => by omega, .inl rfl⟩
    · rintro ⟨i, h1, h2, _, h4⟩
      have : i = j := by omega
      subst this; exact h2
  | succ k ih =>
    unfold skipN
    rw [Bool.or_eq_true, Bool.and_eq_true, Bool.and_eq_true, ih j, ih k]
    constructor
    · rintro (⟨i, h1, h2, h3, h4⟩ | ⟨hj, ⟨i, h1, h2, h3, _⟩, hr⟩)
      · exact ⟨i, h1, h2, h3, by omega⟩
      · have hj' : j = k + 1 := by simpa using hj
        subst hj'
        refine ⟨i, by omega, h2, fun t a b => ?_, .inr (Nat.le_refl _)⟩
        by_cases e : t = k
        · subst e; exact hr
        · exact h3 t a (by omega)
    · rintro ⟨i, h1, h2, h3, h4⟩
      by_cases e : i = j ∨ j ≤ k
      · exact .inl ⟨i, h1, h2, h3, e⟩
      · have hj : j = k + 1 := by omega
        subst hj
        exact .inr ⟨by simp, ⟨i, by omega, h2, fun t a b => h3 t a (by omega), .inr (Nat.le_refl _)⟩, h3 k (by omega) (by omega)⟩

theorem passN_iff {α : Type} (xs : Pat α) (h : Nat → Bool) (c : α) (k j : Nat) : passN xs h c k j = true ↔ (j < k ∧ h j = true ∧ runAt xs j = true) ∨ ∃ i, i < k ∧ j = i + 1 ∧ h i = true ∧ takeAt xs i c = true := by
  induction k with
  | zero => simp [passN]
  | succ k ih =>
    unfold passN
    rw [Bool.or_eq_true, ih, Bool.and_eq_true, Bool.or_eq_true, Bool.and_eq_true, Bool.and_eq_true]
    simp only [beq_iff_eq]
    constructor
    · rintro ((⟨a, b, d⟩ | ⟨i, a, b, d, e⟩) | ⟨hk, ⟨a, rfl⟩ | ⟨a, rfl⟩⟩)
      · exact .inl ⟨by omega, b, d⟩
      · exact .inr ⟨i, by omega, b, d, e⟩
      · exact .inl ⟨by omega, hk, a⟩
      · exact .inr ⟨k, by omega, rfl, hk, a⟩
    · rintro (⟨a, b, d⟩ | ⟨i, a, b, d, e⟩)
      · by_cases ek : j = k
        · subst ek; exact .inr ⟨b, .inl ⟨d, rfl⟩⟩
        · exact .inl (.inl ⟨by omega, b, d⟩)
      · by_cases ek : i = k
        · subst ek; exact .inr ⟨d, .inr ⟨e, b⟩⟩
        · exact .inl (.inr ⟨i, by omega, b, d, e⟩)

theorem drop_at {α : Type} (xs : Pat α) (i : Nat) (x : Option (α → Bool)) (h : xs[i]? = some x) : xs.drop i = x :: xs.drop (i + 1) := by
  obtain ⟨hi, rfl⟩ := List.getElem?_eq_some_iff.1 h
  exact List.drop_eq_getElem_cons hi
theorem runAt_iff {α : Type} {xs : Pat α} {i : Nat} : runAt xs i = true ↔ xs[i]? = some none := by
  unfold runAt
  split <;> simp_all
theorem starO_of {α : Type} (f : List α → Bool) (s : List α) (h : f s = true) : starO f s = true := by
  cases s with
  | nil => exact h
  | cons c t => simp [starO, h]
theorem match_skip {α : Type} {xs : Pat α} {i : Nat} {r : List α} (hr : runAt xs i = true) (h : matchO (xs.drop (i + 1)) r = true) : matchO (xs.drop i) r = true := by
  rw [drop_at xs i none (runAt_iff.1 hr)]
  exact starO_of _ _ h
theorem match_skips {α : Type} {xs : Pat α} {r : List α} (i d : Nat) (hr : ∀ t, i ≤ t → t < i + d → runAt xs t = true) (h : matchO (xs.drop (i + d)) r = true) : matchO (xs.drop i) r = true := by
  induction d with
  | zero => exact h
  | succ d ih => exact ih (fun t a b => hr t a (by omega)) (match_skip (hr (i + d) (by omega) (by omega)) h)

/-- The places tell all that may come. -/
def OkPl {α : Type} (xs : Pat α) (h : Nat → Bool) (pre : List α) : Prop :=
  (∀ rest, matchO xs (pre ++ rest) = true ↔ ∃ i, i ≤ xs.length ∧ h i = true ∧ matchO (xs.drop i) rest = true) ∧ ∀ i, i < xs.length → h i = true → runAt xs i = true → h (i + 1) = true

theorem okPl_start {α : Type} (xs : Pat α) : OkPl xs (startP xs) [] := by
  refine ⟨fun rest => ⟨fun h => ⟨0, Nat.zero_le _, ?_, h⟩, ?_⟩, fun i hi h hr => ?_⟩
  · exact (skipN_iff _ _ _ _).2 ⟨0, Nat.le_refl _, rfl, fun t _ b => by omega, .inl rfl⟩
  · rintro ⟨i, hi, h1, h2⟩
    obtain ⟨j, hj, hj0, hall, _⟩ := (skipN_iff _ _ _ _).1 h1
    have hj0' : j = 0 := by simpa using hj0
    subst hj0'
    exact match_skips (xs := xs) 0 i (fun t a b => hall t a (by omega)) (by simpa using h2)
  · obtain ⟨j, hj, hj0, hall, _⟩ := (skipN_iff _ _ _ _).1 h
    refine (skipN_iff _ _ _ _).2 ⟨j, by omega, hj0, fun t a b => ?_, .inr (by omega)⟩
    by_cases e : t = i
    · subst e; exact hr
    · exact hall t a (by omega)

theorem okPl_next {α : Type} {xs : Pat α} {h : Nat → Bool} {pre : List α} (c : α) (ok : OkPl xs h pre) : OkPl xs (nextP xs h c) (pre ++ [c]) := by
  obtain ⟨h1, h2⟩ := ok
  have hpass : ∀ i, i ≤ xs.length → passN xs h c xs.length i = true → nextP xs h c i = true := fun i _ hp =>
    (skipN_iff _ _ _ _).2 ⟨i, Nat.le_refl _, hp, fun t a b => by omega, .inl rfl⟩
  refine ⟨fun rest => ?_, fun i hi hn hr => ?_⟩
  · rw [List.append_assoc, List.singleton_append, h1]
    constructor
    · rintro ⟨i, hi, a, b⟩
      obtain ⟨d, hd⟩ : ∃ d, xs.length - i = d := ⟨_, rfl⟩
      induction d generalizing i with
      | zero =>
        rw [List.drop_of_length_le (by omega)] at b
        simp [matchO] at b
      | succ d ih =>
        have hlt : i < xs.length := by omega
        cases hx : xs[i] with
        | none =>
          have hxs : xs[i]? = some none := by rw [List.getElem?_eq_getElem hlt, hx]
          rw [drop_at xs i none hxs] at b
          simp only [matchO, starO, Bool.or_eq_true] at b
          rcases b with b | b
          · exact ih (i + 1) (by omega) (h2 i hlt a (runAt_iff.2 hxs)) b (by omega)
          · refine ⟨i, hi, hpass i hi ((passN_iff _ _ _ _ _).2 (.inl ⟨hlt, a, runAt_iff.2 hxs⟩)), ?_⟩
            rw [drop_at xs i none hxs]; exact b
        | some f =>
          have hxs : xs[i]? = some (some f) := by rw [List.getElem?_eq_getElem hlt, hx]
          rw [drop_at xs i _ hxs] at b
          simp only [matchO, Bool.and_eq_true] at b
          exact ⟨i + 1, by omega, hpass _ (by omega) ((passN_iff _ _ _ _ _).2 (.inr ⟨i, hlt, rfl, a, by unfold takeAt; rw [hxs]; exact b.1⟩)), b.2⟩
    · rintro ⟨j, hj, a, b⟩
      obtain ⟨i, hij, hp, hall, _⟩ := (skipN_iff _ _ _ _).1 a
      have b' : matchO (xs.drop i) rest = true := match_skips (xs := xs) i (j - i) (fun t p q => hall t p (by omega)) (by rw [show i + (j - i) = j by omega]; exact b)
      rcases (passN_iff _ _ _ _ _).1 hp with ⟨hi, hh, hr⟩ | ⟨k, hk, rfl, hh, ht⟩
      · refine ⟨i, by omega, hh, ?_⟩
        rw [drop_at xs i none (runAt_iff.1 hr)] at b' ⊢
        simp only [matchO, starO, Bool.or_eq_true] at b' ⊢
        exact .inr b'
      · refine ⟨k, by omega, hh, ?_⟩
        unfold takeAt at ht
        split at ht
        · rename_i f hxs
          rw [drop_at xs k _ hxs]
          simp only [matchO, Bool.and_eq_true]
          exact ⟨ht, b'⟩
        · cases ht
  · obtain ⟨k, hk, hp, hall, _⟩ := (skipN_iff _ _ _ _).1 hn
    refine (skipN_iff _ _ _ _).2 ⟨k, by omega, hp, fun t a b => ?_, .inr (by omega)⟩
    by_cases e : t = i
    · subst e; exact hr
    · exact hall t a (by omega)

theorem okPl_places {α : Type} (xs : Pat α) (items : List α) : OkPl xs (placesP xs items) items := by
  suffices ∀ (l : List α) (pre : List α), OkPl xs (placesP xs pre) pre → OkPl xs (placesP xs (pre ++ l)) (pre ++ l) by
    simpa using this items [] (okPl_start xs)
  intro l
  induction l with
  | nil => intro pre h; simpa using h
  | cons c l ih =>
    intro pre h
    have := ih (pre ++ [c]) (by rw [placesP_snoc]; exact okPl_next c h)
    simpa using this

theorem match_end {α : Type} {xs : Pat α} {h : Nat → Bool} {pre : List α} (ok : OkPl xs h pre) : h xs.length = matchO xs pre := by
  obtain ⟨h1, h2⟩ := ok
  rw [Bool.eq_iff_iff]
  have h1' := h1 []
  rw [List.append_nil] at h1'
  rw [h1']
  constructor
  · intro hn
    exact ⟨xs.length, Nat.le_refl _, hn, by simp [matchO]⟩
  · rintro ⟨i, hi, a, b⟩
    obtain ⟨d, hd⟩ : ∃ d, xs.length - i = d := ⟨_, rfl⟩
    induction d generalizing i with
    | zero => have : i = xs.length := by omega
              subst this; exact a
    | succ d ih =>
      have hlt : i < xs.length := by omega
      cases hx : xs[i] with
      | none =>
        have hxs : xs[i]? = some none := by rw [List.getElem?_eq_getElem hlt, hx]
        rw [drop_at xs i none hxs] at b
        exact ih (i + 1) (by omega) (h2 i hlt a (runAt_iff.2 hxs)) b (by omega)
      | some f =>
        have hxs : xs[i]? = some (some f) := by rw [List.getElem?_eq_getElem hlt, hx]
        rw [drop_at xs i _ hxs] at b
        simp [matchO] at b
theorem places_match {α : Type} (xs : Pat α) (items : List α) : placesP xs items xs.length = matchO xs items := match_end (okPl_places xs items)
end Go.Proofs.Ytiggojpepgbcoaa
