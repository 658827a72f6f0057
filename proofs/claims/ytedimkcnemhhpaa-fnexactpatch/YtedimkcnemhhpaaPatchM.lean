/- What hunks do to lines. -/
import Derived.Test.YtedimkcnemhhpaaSpecSame
namespace Go.Proofs.Ytedimkcnemhhpaa
open Go.RowKit Go.Shelf

def blankB (x : ByteArray) : Bool := match x.data.toList with
  | [] => false
  | c :: _ => c == 32
theorem blankB_cons {x : ByteArray} (h : 0 < x.size) : blankB x = ((x[0].toNat : Int) == 32) := by
  unfold blankB
  rw [str_cons h]
  show (x[0] == 32) = _
  rw [Bool.eq_iff_iff, beq_iff_eq, beq_iff_eq]
  exact ⟨fun e => by rw [e]; rfl, fun e => UInt8.toNat_inj.1 (by show x[0].toNat = 32; omega)⟩
/-- How many blank lines, at most so many, are taken off ahead; and then behind. -/
def trimA (ls : List ByteArray) (f : Nat) : Nat := runP (fun i => blankB (txtFn ls i)) 0 (min f ls.length)
def trimZ (ls : List ByteArray) (f : Nat) : Nat := runP (fun i => blankB (txtFn ls (ls.length - 1 - i))) 0 (min (ls.length - trimA ls f) f)
def trimL (ls : List ByteArray) (f : Nat) : List ByteArray := (ls.drop (trimA ls f)).take (ls.length - trimZ ls f - trimA ls f)
def trimH (h : Hk) (f : Nat) : Hk := ⟨h.at_ + (trimA h.lines f : Int), trimL h.lines f⟩
theorem trimA_le (ls : List ByteArray) (f : Nat) : trimA ls f ≤ f ∧ trimA ls f ≤ ls.length := by
  have := runP_le (p := fun i => blankB (txtFn ls i)) (min f ls.length) 0
  unfold trimA; omega
theorem trimZ_le (ls : List ByteArray) (f : Nat) : trimZ ls f ≤ f ∧ trimZ ls f ≤ ls.length - trimA ls f := by
  have := runP_le (p := fun i => blankB (txtFn ls (ls.length - 1 - i))) (min (ls.length - trimA ls f) f) 0
  unfold trimZ; omega
theorem trimL_len (ls : List ByteArray) (f : Nat) : (trimL ls f).length = ls.length - trimZ ls f - trimA ls f := by
  have := trimA_le ls f; have := trimZ_le ls f
  unfold trimL; rw [List.length_take, List.length_drop]; omega
theorem trimL_mem {ls : List ByteArray} {f : Nat} {x : ByteArray} (h : x ∈ trimL ls f) : x ∈ ls := part_mem h

/-- The nearest place at which something holds, of two as near the one ahead: how far it is. -/
def findFrom (p : Int → Bool) (on : Int) : Nat → Nat → Option Int
  | 0, _ => none
  | f + 1, d => if p (on - (d : Int)) then some (-(d : Int)) else if p (on + (d : Int)) then some (d : Int) else findFrom p on f (d + 1)
def findM (p : Int → Bool) (on : Int) : Option Int := findFrom p on 9 0
theorem findFrom_some {p : Int → Bool} {on far : Int} : ∀ (f d : Nat), findFrom p on f d = some far → p (on + far) = true ∧ -((d + f : Nat) : Int) < far ∧ far < ((d + f : Nat) : Int)
  | 0, _, h => by cases h
  | f + 1, d, h => by
    unfold findFrom at h
    split at h
    · rename_i hp; cases h; exact ⟨hp, by omega, by omega⟩
    · split at h
      · rename_i hp; cases h; exact ⟨hp, by omega, by omega⟩
      · obtain ⟨h1, h2, h3⟩ := findFrom_some f (d + 1) h; exact ⟨h1, by omega, by omega⟩
theorem findM_some {p : Int → Bool} {on far : Int} (h : findM p on = some far) : p (on + far) = true ∧ -9 < far ∧ far < 9 := by
  obtain ⟨h1, h2, h3⟩ := findFrom_some 9 0 h; exact ⟨h1, by omega, by omega⟩
theorem findFrom_congr {p q : Int → Bool} {on on' : Int} (h : ∀ t, p (on + t) = q (on' + t)) : ∀ (f d : Nat), findFrom p on f d = findFrom q on' f d
  | 0, _ => rfl
  | f + 1, d => by
    unfold findFrom
    have h1 := h (-(d : Int)); have h2 := h (d : Int)
    rw [show on - (d : Int) = on + -(d : Int) by omega, show on' - (d : Int) = on' + -(d : Int) by omega, h1, h2, findFrom_congr h f (d + 1)]
theorem standB_parts {ls old : List ByteArray} {t : Int} (h : standB ls t old = true) : 0 ≤ t ∧ t + (old.length : Int) ≤ (ls.length : Int) ∧ (ls.drop t.toNat).take old.length = old := by
  unfold standB at h
  simp only [Bool.and_eq_true, decide_eq_true_eq] at h
  exact h

/-- Where hunks are being done to lines. -/
structure PSt where
  done : List ByteArray
  rest : List ByteArray
  far : List Int
  later : Int
def onM (s : PSt) (h : Hk) : Int := h.at_ - 1 + s.later - (s.done.length : Int)
def oldL (h : Hk) : List ByteArray := withX 45 h.lines
def newL (h : Hk) : List ByteArray := withX 43 h.lines
def doM (s : PSt) (h : Hk) (far : Int) : PSt :=
  ⟨s.done ++ s.rest.take (onM s h + far).toNat ++ newL h, s.rest.drop ((onM s h + far).toNat + (oldL h).length), s.far ++ [far], s.later + (far + ((newL h).length : Int) - ((oldL h).length : Int))⟩
def tryM (s : PSt) (h : Hk) : Option Int := findM (fun t => standB s.rest t (oldL h)) (onM s h)
/-- A hunk, with the least fuzz from k on that makes it fit. -/
def passFrom (s : PSt) (h : Hk) : Nat → Nat → Option PSt
  | 0, _ => none
  | f + 1, k => match tryM s (trimH h k) with
    | some far => some (doM s (trimH h k) far)
    | none => passFrom s h f (k + 1)
def passM (s : PSt) (h : Hk) (fuzz : Nat) : Option PSt := passFrom s h (fuzz + 1) 0
def runM (fuzz : Nat) : PSt → List Hk → Option PSt
  | s, [] => some s
  | s, h :: hs => (passM s h fuzz).bind fun s' => runM fuzz s' hs
theorem runM_app (fuzz : Nat) : ∀ (hs : List Hk) (s : PSt) (h : Hk), runM fuzz s (hs ++ [h]) = (runM fuzz s hs).bind fun s' => passM s' h fuzz
  | [], s, h => by simp only [List.nil_append, runM, Option.bind_some]; cases passM s h fuzz <;> rfl
  | x :: hs, s, h => by
    simp only [List.cons_append, runM]
    cases passM s x fuzz with
    | none => rfl
    | some s' => exact runM_app fuzz hs s' h
theorem runM_none {fuzz : Nat} {s : PSt} {hs : List Hk} {k : Nat} (h : runM fuzz s (hs.take k) = none) : runM fuzz s hs = none := by
  induction hs generalizing s k with
  | nil => rw [List.take_nil] at h; exact h
  | cons x hs ih =>
    cases k with
    | zero => cases h
    | succ k =>
      simp only [List.take_succ_cons, runM] at h ⊢
      cases hp : passM s x fuzz with
      | none => rfl
      | some s' => rw [hp] at h; exact ih h
def startM (ls : List ByteArray) : PSt := ⟨[], ls, [], 0⟩
def okM (ls : List ByteArray) (hs : List Hk) (fuzz : Int) : Bool := textB ls && (hunksB hs && (decide (0 ≤ fuzz) && decide (fuzz ≤ 2)))
def outM (ls : List ByteArray) (hs : List Hk) (fuzz : Int) : Option (List ByteArray × List Int) := (runM fuzz.toNat (startM ls) hs).bind fun s => if textB (s.done ++ s.rest) then some (s.done ++ s.rest, s.far) else none
def patch_0 (ls : List ByteArray) (hs : List Hk) (fuzz : Int) : List ByteArray := if okM ls hs fuzz then (match outM ls hs fuzz with | some x => x.1 | none => ls) else []
def patch_1 (ls : List ByteArray) (hs : List Hk) (fuzz : Int) : List Int := if okM ls hs fuzz then (match outM ls hs fuzz with | some x => x.2 | none => []) else []
def patch_2 (ls : List ByteArray) (hs : List Hk) (fuzz : Int) : Bool := okM ls hs fuzz && (outM ls hs fuzz).isSome
/-- What holds behind k hunks. -/
structure PBound (s : PSt) (n k : Nat) : Prop where
  done : s.done.length + s.rest.length ≤ n + 30 * k
  rest : s.rest.length ≤ n
  far : s.far.length = k
  lo : -(100 * (k : Int)) ≤ s.later
  hi : s.later ≤ 100 * (k : Int)
theorem passFrom_bound {s s' : PSt} {h : Hk} {n k : Nat} (hb : PBound s n k) (hl : h.lines.length ≤ 30) : ∀ (f j : Nat), passFrom s h f j = some s' → PBound s' n (k + 1) := by
  intro f
  induction f with
  | zero => intro j e; cases e
  | succ f ih =>
    intro j e
    unfold passFrom at e
    split at e
    · rename_i far ht
      cases e
      obtain ⟨hp, h1, h2⟩ := findM_some ht
      obtain ⟨p1, p2, _⟩ := standB_parts hp
      have hlen : (trimH h j).lines.length ≤ 30 := by show (trimL h.lines j).length ≤ 30; rw [trimL_len]; omega
      have o1 : (oldL (trimH h j)).length ≤ 30 := Nat.le_trans (withX_len _ _) hlen
      have o2 : (newL (trimH h j)).length ≤ 30 := Nat.le_trans (withX_len _ _) hlen
      have b1 := hb.done; have b2 := hb.rest; have b3 := hb.far; have b4 := hb.lo; have b5 := hb.hi
      refine ⟨?_, ?_, ?_, ?_, ?_⟩
      · simp only [doM, List.length_append, List.length_take, List.length_drop]; omega
      · simp only [doM, List.length_drop]; omega
      · simp only [doM, List.length_append, List.length_cons, List.length_nil]; omega
      · simp only [doM]; omega
      · simp only [doM]; omega
    · exact ih (j + 1) e
theorem passM_bound {s s' : PSt} {h : Hk} {n k fuzz : Nat} (hb : PBound s n k) (hl : h.lines.length ≤ 30) (e : passM s h fuzz = some s') : PBound s' n (k + 1) := passFrom_bound hb hl _ _ e
theorem runM_bound {fuzz n : Nat} : ∀ (hs : List Hk) (s s' : PSt) (k : Nat), (∀ h ∈ hs, h.lines.length ≤ 30) → PBound s n k → runM fuzz s hs = some s' → PBound s' n (k + hs.length)
  | [], s, s', k, _, hb, e => by cases e; exact hb
  | h :: hs, s, s', k, hl, hb, e => by
    simp only [runM] at e
    cases hp : passM s h fuzz with
    | none => rw [hp] at e; cases e
    | some s1 =>
      rw [hp] at e
      have := runM_bound hs s1 s' (k + 1) (fun x hx => hl x (by simp [hx])) (passM_bound hb (hl h (by simp)) hp) e
      rwa [show k + (h :: hs).length = k + 1 + hs.length by simp; omega]
theorem start_bound (ls : List ByteArray) : PBound (startM ls) ls.length 0 := ⟨by simp [startM], Nat.le_refl _, rfl, by simp [startM], by simp [startM]⟩
theorem hunksB_mem {hs : List Hk} (h : hunksB hs = true) : hs.length ≤ 4 ∧ ∀ x ∈ hs, hkB x = true ∧ 1 ≤ x.at_ := by
  unfold hunksB at h
  simp only [Bool.and_eq_true, decide_eq_true_eq] at h
  refine ⟨by omega, fun x hx => ?_⟩
  obtain ⟨i, hi⟩ := List.getElem?_of_mem hx
  have hl : i < hs.length := (List.getElem?_eq_some_iff.1 hi).1
  have hall := h.1
  rw [List.all_eq_true] at hall
  have h2 := hall i (List.mem_range.2 hl)
  unfold okAt at h2
  rw [hkFn_get hi] at h2
  simp only [Bool.and_eq_true, decide_eq_true_eq] at h2
  have hp := lst_pos hs i (by rw [List.all_eq_true]; exact fun j hj => hall j (List.mem_range.2 (Nat.lt_trans (List.mem_range.1 hj) hl)))
  exact ⟨h2.1, by omega⟩
end Go.Proofs.Ytedimkcnemhhpaa
