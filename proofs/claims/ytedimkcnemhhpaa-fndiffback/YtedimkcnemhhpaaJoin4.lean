/- Texts of this proof, one behind the other; each says at its head what it shows. -/
import Derived.Test.YtedimkcnemhhpaaJoin3
import Derived.Deep.CutBlock
import Derived.Test.YtedimkcnemhhpaaProg
import Derived.WalkKit
import Derived.Test.YtedimkcnemhhpaaJoin1
import Derived.Laws.IdiomStrings
/- What hunks do to lines. -/
namespace Go.Proofs.Ytedimkcnemhhpaa
open Go.RowKit Go.Shelf

def blankB (x : ByteArray) : Bool := match x.data.toList with
  | [] => false
  | c :: _ => c == 32
theorem blankB_cons {x : ByteArray} (h : 0 < x.size) : blankB x = ((x[0].toNat : Int) == 32) := by
  unfold blankB
  rw [str_cons h]
  show (x[0] == 32) = _
  rw [Bool.eq_iff_iff, beq_iff_eq, beq_iff_eq]
  exact ⟨fun e => by rw [e]; rfl, fun e => UInt8.toNat_inj.1 (by show x[0].toNat = 32; omega)⟩
/-- How many blank lines, at most so many, are taken off ahead; and then behind. -/
def trimA (ls : List ByteArray) (f : Nat) : Nat := runP (fun i => blankB (txtFn ls i)) 0 (min f ls.length)
def trimZ (ls : List ByteArray) (f : Nat) : Nat := runP (fun i => blankB (txtFn ls (ls.length - 1 - i))) 0 (min (ls.length - trimA ls f) f)
def trimL (ls : List ByteArray) (f : Nat) : List ByteArray := (ls.drop (trimA ls f)).take (ls.length - trimZ ls f - trimA ls f)
def trimH (h : Hk) (f : Nat) : Hk := ⟨h.at_ + (trimA h.lines f : Int), trimL h.lines f⟩
theorem trimA_le (ls : List ByteArray) (f : Nat) : trimA ls f ≤ f ∧ trimA ls f ≤ ls.length := by
  have := runP_le (p := fun i => blankB (txtFn ls i)) (min f ls.length) 0
  unfold trimA; omega
theorem trimZ_le (ls : List ByteArray) (f : Nat) : trimZ ls f ≤ f ∧ trimZ ls f ≤ ls.length - trimA ls f := by
  have := runP_le (p := fun i => blankB (txtFn ls (ls.length - 1 - i))) (min (ls.length - trimA ls f) f) 0
  unfold trimZ; omega
theorem trimL_len (ls : List ByteArray) (f : Nat) : (trimL ls f).length = ls.length - trimZ ls f - trimA ls f := by
  have := trimA_le ls f; have := trimZ_le ls f
  unfold trimL; rw [List.length_take, List.length_drop]; omega
theorem trimL_mem {ls : List ByteArray} {f : Nat} {x : ByteArray} (h : x ∈ trimL ls f) : x ∈ ls := part_mem h

/-- The nearest place at which something holds, of two as near the one ahead: how far it is. -/
def findFrom (p : Int → Bool) (on : Int) : Nat → Nat → Option Int
  | 0, _ => none
  | f + 1, d => if p (on - (d : Int)) then some (-(d : Int)) else if p (on + (d : Int)) then some (d : Int) else findFrom p on f (d + 1)
def findM (p : Int → Bool) (on : Int) : Option Int := findFrom p on 9 0
theorem findFrom_some {p : Int → Bool} {on far : Int} : ∀ (f d : Nat), findFrom p on f d = some far → p (on + far) = true ∧ -((d + f : Nat) : Int) < far ∧ far < ((d + f : Nat) : Int)
  | 0, _, h => by cases h
  | f + 1, d, h => by
    unfold findFrom at h
    split at h
    · rename_i hp; cases h; exact ⟨hp, by omega, by omega⟩
    · split at h
      · rename_i hp; cases h; exact ⟨hp, by omega, by omega⟩
      · obtain ⟨h1, h2, h3⟩ := findFrom_some f (d + 1) h; exact ⟨h1, by omega, by omega⟩
theorem findM_some {p : Int → Bool} {on far : Int} (h : findM p on = some far) : p (on + far) = true ∧ -9 < far ∧ far < 9 := by
  obtain ⟨h1, h2, h3⟩ := findFrom_some 9 0 h; exact ⟨h1, by omega, by omega⟩
theorem findFrom_congr {p q : Int → Bool} {on on' : Int} (h : ∀ t, p (on + t) = q (on' + t)) : ∀ (f d : Nat), findFrom p on f d = findFrom q on' f d
  | 0, _ => rfl
  | f + 1, d => by
    unfold findFrom
    have h1 := h (-(d : Int)); have h2 := h (d : Int)
    rw [show on - (d : Int) = on + -(d : Int) by omega, show on' - (d : Int) = on' + -(d : Int) by omega, h1, h2, findFrom_congr h f (d + 1)]
theorem standB_parts {ls old : List ByteArray} {t : Int} (h : standB ls t old = true) : 0 ≤ t ∧ t + (old.length : Int) ≤ (ls.length : Int) ∧ (ls.drop t.toNat).take old.length = old := by
  unfold standB at h
  simp only [Bool.and_eq_true, decide_eq_true_eq] at h
  exact h

/-- Where hunks are being done to lines. -/
structure PSt where
  done : List ByteArray
  rest : List ByteArray
  far : List Int
  later : Int
def onM (s : PSt) (h : Hk) : Int := h.at_ - 1 + s.later - (s.done.length : Int)
def oldL (h : Hk) : List ByteArray := withX 45 h.lines
def newL (h : Hk) : List ByteArray := withX 43 h.lines
def doM (s : PSt) (h : Hk) (far : Int) : PSt :=
  ⟨s.done ++ s.rest.take (onM s h + far).toNat ++ newL h, s.rest.drop ((onM s h + far).toNat + (oldL h).length), s.far ++ [far], s.later + (far + ((newL h).length : Int) - ((oldL h).length : Int))⟩
def tryM (s : PSt) (h : Hk) : Option Int := findM (fun t => standB s.rest t (oldL h)) (onM s h)
/-- A hunk, with the least fuzz from k on that makes it fit. -/
def passFrom (s : PSt) (h : Hk) : Nat → Nat → Option PSt
  | 0, _ => none
  | f + 1, k => match tryM s (trimH h k) with
    | some far => some (doM s (trimH h k) far)
    | none => passFrom s h f (k + 1)
def passM (s : PSt) (h : Hk) (fuzz : Nat) : Option PSt := passFrom s h (fuzz + 1) 0
def runM (fuzz : Nat) : PSt → List Hk → Option PSt
  | s, [] => some s
  | s, h :: hs => (passM s h fuzz).bind fun s' => runM fuzz s' hs
theorem runM_app (fuzz : Nat) : ∀ (hs : List Hk) (s : PSt) (h : Hk), runM fuzz s (hs ++ [h]) = (runM fuzz s hs).bind fun s' => passM s' h fuzz
  | [], s, h => by simp only [List.nil_append, runM, Option.bind_some]; cases passM s h fuzz <;> rfl
  | x :: hs, s, h => by
    simp only [List.cons_append, runM]
    cases passM s x fuzz with
    | none => rfl
    | some s' => exact runM_app fuzz hs s' h
theorem runM_none {fuzz : Nat} {s : PSt} {hs : List Hk} {k : Nat} (h : runM fuzz s (hs.take k) = none) : runM fuzz s hs = none := by
  induction hs generalizing s k with
  | nil => rw [List.take_nil] at h; exact h
  | cons x hs ih =>
    cases k with
    | zero => cases h
    | succ k =>
      simp only [List.take_succ_cons, runM] at h ⊢
      cases hp : passM s x fuzz with
      | none => rfl
      | some s' => rw [hp] at h; exact ih h
def startM (ls : List ByteArray) : PSt := ⟨[], ls, [], 0⟩
def okM (ls : List ByteArray) (hs : List Hk) (fuzz : Int) : Bool := textB ls && (hunksB hs && (decide (0 ≤ fuzz) && decide (fuzz ≤ 2)))
def outM (ls : List ByteArray) (hs : List Hk) (fuzz : Int) : Option (List ByteArray × List Int) := (runM fuzz.toNat (startM ls) hs).bind fun s => if textB (s.done ++ s.rest) then some (s.done ++ s.rest, s.far) else none
def patch_0 (ls : List ByteArray) (hs : List Hk) (fuzz : Int) : List ByteArray := if okM ls hs fuzz then (match outM ls hs fuzz with | some x => x.1 | none => ls) else []
def patch_1 (ls : List ByteArray) (hs : List Hk) (fuzz : Int) : List Int := if okM ls hs fuzz then (match outM ls hs fuzz with | some x => x.2 | none => []) else []
def patch_2 (ls : List ByteArray) (hs : List Hk) (fuzz : Int) : Bool := okM ls hs fuzz && (outM ls hs fuzz).isSome
/-- What holds behind k hunks. -/
structure PBound (s : PSt) (n k : Nat) : Prop where
  done : s.done.length + s.rest.length ≤ n + 30 * k
  rest : s.rest.length ≤ n
  far : s.far.length = k
  lo : -(100 * (k : Int)) ≤ s.later
  hi : s.later ≤ 100 * (k : Int)
theorem passFrom_bound {s s' : PSt} {h : Hk} {n k : Nat} (hb : PBound s n k) (hl : h.lines.length ≤ 30) : ∀ (f j : Nat), passFrom s h f j = some s' → PBound s' n (k + 1) := by
  intro f
  induction f with
  | zero => intro j e; cases e
  | succ f ih =>
    intro j e
    unfold passFrom at e
    split at e
    · rename_i far ht
      cases e
      obtain ⟨hp, h1, h2⟩ := findM_some ht
      obtain ⟨p1, p2, _⟩ := standB_parts hp
      have hlen : (trimH h j).lines.length ≤ 30 := by show (trimL h.lines j).length ≤ 30; rw [trimL_len]; omega
      have o1 : (oldL (trimH h j)).length ≤ 30 := Nat.le_trans (withX_len _ _) hlen
      have o2 : (newL (trimH h j)).length ≤ 30 := Nat.le_trans (withX_len _ _) hlen
      have b1 := hb.done; have b2 := hb.rest; have b3 := hb.far; have b4 := hb.lo; have b5 := hb.hi
      refine ⟨?_, ?_, ?_, ?_, ?_⟩
      · simp only [doM, List.length_append, List.length_take, List.length_drop]; omega
      · simp only [doM, List.length_drop]; omega
      · simp only [doM, List.length_append, List.length_cons, List.length_nil]; omega
      · simp only [doM]; omega
      · simp only [doM]; omega
    · exact ih (j + 1) e
theorem passM_bound {s s' : PSt} {h : Hk} {n k fuzz : Nat} (hb : PBound s n k) (hl : h.lines.length ≤ 30) (e : passM s h fuzz = some s') : PBound s' n (k + 1) := passFrom_bound hb hl _ _ e
theorem runM_bound {fuzz n : Nat} : ∀ (hs : List Hk) (s s' : PSt) (k : Nat), (∀ h ∈ hs, h.lines.length ≤ 30) → PBound s n k → runM fuzz s hs = some s' → PBound s' n (k + hs.length)
  | [], s, s', k, _, hb, e => by cases e; exact hb
  | h :: hs, s, s', k, hl, hb, e => by
    simp only [runM] at e
    cases hp : passM s h fuzz with
    | none => rw [hp] at e; cases e
    | some s1 =>
      rw [hp] at e
      have := runM_bound hs s1 s' (k + 1) (fun x hx => hl x (by simp [hx])) (passM_bound hb (hl h (by simp)) hp) e
      rwa [show k + (h :: hs).length = k + 1 + hs.length by simp; omega]
theorem start_bound (ls : List ByteArray) : PBound (startM ls) ls.length 0 := ⟨by simp [startM], Nat.le_refl _, rfl, by simp [startM], by simp [startM]⟩
theorem hunksB_mem {hs : List Hk} (h : hunksB hs = true) : hs.length ≤ 4 ∧ ∀ x ∈ hs, hkB x = true ∧ 1 ≤ x.at_ := by
  unfold hunksB at h
  simp only [Bool.and_eq_true, decide_eq_true_eq] at h
  refine ⟨by omega, fun x hx => ?_⟩
  obtain ⟨i, hi⟩ := List.getElem?_of_mem hx
  have hl : i < hs.length := (List.getElem?_eq_some_iff.1 hi).1
  have hall := h.1
  rw [List.all_eq_true] at hall
  have h2 := hall i (List.mem_range.2 hl)
  unfold okAt at h2
  rw [hkFn_get hi] at h2
  simp only [Bool.and_eq_true, decide_eq_true_eq] at h2
  have hp := lst_pos hs i (by rw [List.all_eq_true]; exact fun j hj => hall j (List.mem_range.2 (Nat.lt_trans (List.mem_range.1 hj) hl)))
  exact ⟨h2.1, by omega⟩
end Go.Proofs.Ytedimkcnemhhpaa

/- Blank lines taken off a hunk; lines looked for; by the model. -/
namespace Go.Proofs.Ytedimkcnemhhpaa
open Go.RowKit Go.Shelf

theorem new_with {xs : List ByteArray} (h : ∀ x ∈ xs, hkLineB x.data.toList = true) : oldX 45 xs = withX 43 xs := by
  unfold oldX withX
  refine filterMap_eqX fun x hx => ?_
  have := h x hx
  unfold cutX
  cases hl : x.data.toList with
  | nil => rw [hl] at this; cases this
  | cons d t =>
    rw [hl] at this
    simp only [hkLineB, signB, Bool.and_eq_true, Bool.or_eq_true, beq_iff_eq] at this
    rcases this.1 with (h1 | h1) | h1
    · obtain rfl : d = 32 := UInt8.toNat_inj.1 (by show _ = 32; omega)
      rfl
    · obtain rfl : d = 45 := UInt8.toNat_inj.1 (by show _ = 45; omega)
      rfl
    · obtain rfl : d = 43 := UInt8.toNat_inj.1 (by show _ = 43; omega)
      rfl

set_option maxRecDepth 100000 in
set_option maxHeartbeats 2000000 in
theorem l5New_any (h : Hk) (la : Option Addr) (cap : Nat) (w : World) (hlen : h.lines.length ≤ 1048576) (hz : ∀ x ∈ h.lines, 0 < x.size ∧ x.size ≤ maxLen) (ht : TxtsAt w la h.lines) :
    Calls Try.prog 62 #[.agg #[.int .i64 h.at_, .slice la h.lines.length cap]] w fun e w' => ∃ v, e = .returned v ∧ w'.ownsRow w.heap.size 9 1 v (oldX 45 h.lines).length ((oldX 45 h.lines).map Value.string) ∧ Below w.heap.size w w' := by
  obtain ⟨at_, xs⟩ := h
  dsimp only at *
  have HT := hid ht
  have HZ := hid hz
  clear ht hz
  have HA := hid (show Below w.heap.size w (w.alloc (.cells #[.int .i64 at_, .slice la xs.length cap] 46)) from (Below.refl _ w).alloc (Nat.le_refl _) _)
  have TW := hid (twoAt_new w at_ (.slice la xs.length cap) 46)
  have hsz : (w.alloc (.cells #[.int .i64 at_, .slice la xs.length cap] 46)).heap.size = w.heap.size + 1 := by simp
  have HSZ := hid hsz
  clear hsz
  obtain ⟨i0, hi, hz0, hz1, hz2⟩ := info_parts infoTxt
  go_enter Try.func62, Try.ntmps62
  go_wp2_with fail
  generalize w.alloc (.cells #[.int .i64 at_, .slice la xs.length cap] 46) = wb at *
  go_loopw [3, 4] (fun o i wr => ∃ (k : Nat) (ad : Option Addr) (cp : Nat), k ≤ xs.length ∧ i = .int .i64 k ∧ o = .slice ad (oldX 45 (xs.take k)).length cp ∧ wr.ownsRow (w.heap.size + 1) 9 1 (.slice ad (oldX 45 (xs.take k)).length cp) (oldX 45 (xs.take k)).length ((oldX 45 (xs.take k)).map Value.string) ∧ Below (w.heap.size + 1) wb wr) (fun _ i _ => xs.length - (intOf i).toNat)
  case atStart => exact ⟨0, _, 0, Nat.zero_le _, rfl, rfl, by have := World.ownsRow_lit (e := 9) (size := 1) wb #[] 0 (show w.heap.size + 1 ≤ wb.heap.size by rw [unhid HSZ]; exact Nat.le_refl _) (by omega) (by simp); rw [unhid HSZ] at this; exact this, (Below.refl _ _).alloc (by rw [unhid HSZ]; exact Nat.le_refl _) _⟩
  case round =>
    obtain ⟨k, ad, cp, hk, rfl, rfl, hown, hB⟩ := hrel
    have hwl : (oldX 45 (xs.take k)).length ≤ k := Nat.le_trans (oldX_len _ _) (by simp; omega)
    obtain ⟨⟨m0, _⟩, m1, _⟩ := (unhid TW).below hB (Nat.lt_succ_self _)
    have hBw := (unhid HA).trans (hB.mono (Nat.le_succ _))
    have HBw := hid hBw
    by_cases hlt : k < xs.length
    · obtain ⟨x, he⟩ : ∃ e, xs[k]? = some e := ⟨xs[k], List.getElem?_eq_getElem hlt⟩
      obtain ⟨b, o, rfl, hbl, hc⟩ := (unhid HT).get (by intro e; subst e; simp at hlt)
      have c0 := (hBw.cell (p := ⟨b, o + k, .none⟩) hbl).trans (hc k x he)
      obtain ⟨z1, z2⟩ := unhid HZ x (List.mem_of_getElem? he)
      have z3 : x.size ≤ 9223372036854775807 := z2
      have HS := hid (oldX_take 45 xs k x he z1)
      have hbz := hB.size
      rw [unhid HSZ] at hbz
      clear hc he z2 hBw
      generalize oldX 45 (xs.take k) = ys at *
      cases hd : (x[0] == 45)
      · have b1 : (((x[0]).toNat : Int) != 45) = true := by
          rw [beq_eq_false_iff_ne] at hd
          rw [bne_iff_ne]; intro h; exact hd (UInt8.toNat_inj.1 (by show _ = 45; omega))
        have E := hid (show oldX 45 (xs.take (k + 1)) = ys ++ [x.extract 1 x.size] by rw [unhid HS, hd]; simp)
        clear hd HS
        go_wp2_with (at_builtin; refine wpList_append_own _ rfl _ _ 29 rfl (w.heap.size + 1) 9 i0 (.string ⟨#[]⟩) 1 16 Try.underlying29 hi hz0 hz1 hz2 rfl (by decide) _ _ _ rfl (hown.alloc _) ⟨wr.heap.size, 0, none⟩ 1 1 [.string (x.extract 1 x.size)] rfl rfl ?c1 ?c2 ?c3 ?c4 ?c5 ?_)
        case c1 => exact cell_one_new _ _ _
        case c2 => intro u hu; simp at hu; subst hu; rfl
        case c3 => unfold maxLen; omega
        case c4 => omega
        case c5 => simp; omega
        intro v' w1 hown' hgrow _
        obtain ⟨g', cap', rfl⟩ := ownsRow_succ hown'
        have hB1 : Below (w.heap.size + 1) wb w1 := (hB.alloc hbz _).grown hgrow (by simp; omega) (fun j e => (hown.lt j e).1)
        clear hgrow hown
        go_wp2
        go_roundw
        case rel => exact ⟨k + 1, some ⟨g', 0, none⟩, cap', by omega, by go_num, by rw [unhid E]; simp, by rw [unhid E]; simpa using hown', hB1⟩
        case measure => simp [intOf]; omega
      · have b1 : (((x[0]).toNat : Int) != 45) = false := by
          rw [beq_iff_eq] at hd
          rw [hd]; decide
        have E := hid (show oldX 45 (xs.take (k + 1)) = ys by rw [unhid HS, hd]; simp)
        clear hd HS
        go_wp2_with fail
        go_roundw
        case rel => exact ⟨k + 1, ad, cp, by omega, by go_num, by rw [unhid E], by rw [unhid E]; exact hown, hB⟩
        case measure => simp [intOf]; omega
    · have e : k = xs.length := by omega
      subst e
      rw [List.take_of_length_le (Nat.le_refl _)] at hown ⊢
      clear hBw
      go_wp2_with fail
      go_ret
      exact ⟨_, rfl, ownsRow_baseX hown (Nat.le_succ _), unhid HBw⟩

set_option maxRecDepth 100000 in
set_option maxHeartbeats 4000000 in
theorem l5Trim_any (h : Hk) (f : Nat) (la : Option Addr) (cap : Nat) (w : World) (hf : f ≤ 2) (hat : -1000000 ≤ h.at_ ∧ h.at_ ≤ 1000000) (hlen : h.lines.length ≤ 30) (hcap : h.lines.length ≤ cap) (hz : ∀ x ∈ h.lines, 0 < x.size ∧ x.size ≤ maxLen) (ht : TxtsAt w la h.lines) :
    Calls Try.prog 89 #[.agg #[.int .i64 h.at_, .slice la h.lines.length cap], .int .i64 (f : Int)] w fun e w' => ∃ ad cp, e = .returned (.tuple #[.agg #[.int .i64 (trimH h f).at_, .slice ad (trimH h f).lines.length cp], .int .i64 (trimA h.lines f : Nat)]) ∧ TxtsAt w ad (trimH h f).lines ∧ Below w.heap.size w w' := by
  obtain ⟨at_, xs⟩ := h
  dsimp only at *
  obtain ⟨hat1, hat2⟩ := hat
  have HZ := hid hz
  have HT := hid ht
  clear hz ht
  have E1 := hid (show trimA xs f = runP (fun i => blankB (txtFn xs i)) 0 (min f xs.length) from rfl)
  have E2 := hid (show trimZ xs f = runP (fun i => blankB (txtFn xs (xs.length - 1 - i))) 0 (min (xs.length - trimA xs f) f) from rfl)
  have E3 := hid (show (trimH ⟨at_, xs⟩ f).at_ = at_ + (trimA xs f : Int) ∧ (trimH ⟨at_, xs⟩ f).lines.length = xs.length - trimZ xs f - trimA xs f ∧ (trimH ⟨at_, xs⟩ f).lines = (xs.drop (trimA xs f)).take (xs.length - trimZ xs f - trimA xs f) from ⟨rfl, trimL_len xs f, rfl⟩)
  obtain ⟨l1, l2⟩ := trimA_le xs f
  obtain ⟨l3, l4⟩ := trimZ_le xs f
  rw [(unhid E3).1, (unhid E3).2.1, (unhid E3).2.2]
  clear E3
  generalize trimA xs f = t at *
  generalize trimZ xs f = z at *
  have hB : ∀ o o', Below w.heap.size w ((w.alloc o).alloc o') := fun o o' => ((Below.refl _ w).alloc (Nat.le_refl _) o).alloc (by simp) o'
  have hbox : ∀ o', TwoAt ((w.alloc (.cells #[.int .i64 at_, .slice la xs.length cap] 46)).alloc o') w.heap.size at_ (.slice la xs.length cap) := fun o' =>
    (twoAt_new w at_ (.slice la xs.length cap) 46).below ((Below.refl _ _).alloc (Nat.le_refl _) o') (by simp)
  have hout : ∀ o, TwoAt ((w.alloc o).alloc (.cells #[.int .i64 0, .slice none 0 0] 46)) (w.heap.size + 1) 0 (.slice none 0 0) := fun o => by
    have := twoAt_new (w.alloc o) 0 (.slice none 0 0) 46
    simpa using this
  have HB := hid hB; have HBX := hid hbox; have HOU := hid hout
  clear hB hbox hout
  go_enter Try.func89, Try.ntmps89
  go_upto_block 0 with fail
  have hb0 := unhid HB (.cells #[.int .i64 at_, .slice la xs.length cap] 46) (.cells #[.int .i64 0, .slice none 0 0] 46)
  have hx0 := unhid HBX (.cells #[.int .i64 0, .slice none 0 0] 46)
  have ho0 := unhid HOU (.cells #[.int .i64 at_, .slice la xs.length cap] 46)
  clear HB HBX HOU
  generalize (w.alloc (.cells #[.int .i64 at_, .slice la xs.length cap] 46)).alloc (.cells #[.int .i64 0, .slice none 0 0] 46) = W0 at hb0 hx0 ho0 ⊢
  have HB0 := hid hb0
  have HO0 := hid ho0
  obtain ⟨⟨m0, m1⟩, m2, m3⟩ := hx0
  clear hb0 ho0
  go_cut [6, 7] from 8 (fun s6 s7 wx => (∃ ad cp, s6 = .slice ad (xs.length - t) cp ∧ Hid (TxtsAt w ad (xs.drop t)) ∧ xs.length - t ≤ cp) ∧ s7 = .int .i64 ((t : Nat) : Int) ∧ wx = W0)
  case first =>
    clear l1 l2 l3 l4
    go_wp2_with fail
    go_loop [6, 7] (fun o n => ∃ (k : Nat) (ad : Option Addr) (cp : Nat), k ≤ min f xs.length ∧ n = .int .i64 (k : Int) ∧ o = .slice ad (xs.length - k) cp ∧ xs.length - k ≤ cp ∧ Hid (TxtsAt w ad (xs.drop k)) ∧ Hid (∀ i, i < k → blankB (txtFn xs i) = true)) (fun _ n => min f xs.length - (intOf n).toNat)
    case atStart => exact ⟨0, la, cap, Nat.zero_le _, rfl, rfl, hcap, hid (by simpa using unhid HT), hid (fun i hi => absurd hi (Nat.not_lt_zero _))⟩
    case round =>
      obtain ⟨k, ad, cp, hk, rfl, rfl, hcp, HTK, hall⟩ := hrel
      by_cases hlt : k < min f xs.length
      · have hkx : k < xs.length := by omega
        have hkf : k < f := by omega
        have hp : 0 < xs.length - k := by omega
        have hxk := txtFn_some hkx
        obtain ⟨b, o, rfl, hbl, hc⟩ := (unhid HTK).get (by intro e; have := congrArg List.length e; simp at this; omega)
        have c0 := ((unhid HB0).cell (p := ⟨b, o + 0, none⟩) hbl).trans (hc 0 _ (by rw [List.getElem?_drop]; exact hxk))
        rw [Nat.add_zero] at c0
        obtain ⟨z1, z2⟩ := unhid HZ _ (List.mem_of_getElem? hxk)
        have z3 : (txtFn xs k).size ≤ 9223372036854775807 := z2
        have hbl := blankB_cons z1
        have HST := hid (show blankB (txtFn xs k) = false → t = k from fun hb => by rw [unhid E1]; exact runP_eq _ 0 k (by omega) (fun i hi => by rw [Nat.zero_add]; exact unhid hall i hi) (.inr (by rw [Nat.zero_add]; exact hb)))
        have HNX := hid (show blankB (txtFn xs k) = true → ∀ i, i < k + 1 → blankB (txtFn xs i) = true from fun hb i hi => (Nat.lt_succ_iff_lt_or_eq.1 hi).elim (fun h => unhid hall i h) (fun h => by subst h; exact hb))
        clear hc hxk z2
        generalize txtFn xs k = x at *
        cases hbb : blankB x
        · rw [hbb] at hbl
          have b1 := hbl.symm
          have E := hid (unhid HST hbb)
          clear hbl hbb
          go_wp2_with fail
          go_meet
          case rel => exact ⟨⟨_, cp, by rw [unhid E], by rw [unhid E]; exact HTK, by rw [unhid E]; exact hcp⟩, by rw [unhid E], rfl⟩
        · rw [hbb] at hbl
          have b1 := hbl.symm
          have HN := hid (unhid HNX hbb)
          have s1 := fun w => sub_l (some ⟨b, o, none⟩) (xs.length - k) cp 1 (by omega) w
          rw [show ((1 : Nat) : Int) = 1 from rfl] at s1
          have HTK2 := hid (show TxtsAt w (subA (some ⟨b, o, none⟩) cp 1) (xs.drop (k + 1)) by
            have := (unhid HTK).rest (cap := cp) (by rw [List.length_drop]; exact hcp) 1
            rwa [List.drop_drop] at this)
          clear hbl hbb
          go_wp2_with fail
          exact ⟨⟨k + 1, subA (some ⟨b, o, none⟩) cp 1, cp - 1, by omega, by go_num, by rw [Nat.sub_sub], by omega, HTK2, HN⟩, by simp [intOf]; omega⟩
      · have e : k = min f xs.length := by omega
        have E := hid (show t = k by rw [unhid E1]; exact runP_eq _ 0 k (by omega) (fun i hi => by rw [Nat.zero_add]; exact unhid hall i hi) (.inl e))
        by_cases dx : k < f
        · have dy : ¬ 0 < xs.length - k := by omega
          have dz : xs.length - k = 0 := by omega
          clear e dz
          go_wp2_with fail
          go_meet
          case rel => exact ⟨⟨_, cp, by rw [unhid E], by rw [unhid E]; exact HTK, by rw [unhid E]; exact hcp⟩, by rw [unhid E], rfl⟩
        · clear e
          go_wp2_with fail
          go_meet
          case rel => exact ⟨⟨_, cp, by rw [unhid E], by rw [unhid E]; exact HTK, by rw [unhid E]; exact hcp⟩, by rw [unhid E], rfl⟩
  case rest =>
    obtain ⟨⟨ad, cp, rfl, HTA, hcp⟩, rfl, hwc⟩ := hcut
    have hwc' := hwc.symm
    subst hwc'
    go_upto_block 2 with fail
    go_cut [6] from 8 (fun s6 wx => (∃ ad cp, s6 = .slice ad (xs.length - z - t) cp ∧ Hid (TxtsAt w ad ((xs.drop t).take (xs.length - z - t)))) ∧ wx = W0)
    case first =>
      clear l3 l4
      go_wp2_with fail
      go_loop [6, 8] (fun o n => ∃ (k : Nat) (ad : Option Addr) (cp : Nat), k ≤ min (xs.length - t) f ∧ n = .int .i64 (k : Int) ∧ o = .slice ad (xs.length - t - k) cp ∧ xs.length - t - k ≤ cp ∧ Hid (TxtsAt w ad ((xs.drop t).take (xs.length - t - k))) ∧ Hid (∀ i, i < k → blankB (txtFn xs (xs.length - 1 - i)) = true)) (fun _ n => min (xs.length - t) f - (intOf n).toNat)
      case atStart => exact ⟨0, ad, cp, Nat.zero_le _, rfl, rfl, hcp, hid (by rw [Nat.sub_zero]; exact (unhid HTA).head _), hid (fun i hi => absurd hi (Nat.not_lt_zero _))⟩
      case round =>
        clear HTA hcp
        obtain ⟨k, ad, cp, hk, rfl, rfl, hcp, HTK, hall⟩ := hrel
        by_cases hlt : k < min (xs.length - t) f
        · have hkf : k < f := by omega
          have hp : 0 < xs.length - t - k := by omega
          have hkx : xs.length - 1 - k < xs.length := by omega
          have hxk := txtFn_some hkx
          obtain ⟨b, o, rfl, hbl, hc⟩ := (unhid HTK).get (by intro e; have := congrArg List.length e; simp at this; omega)
          have c0 := ((unhid HB0).cell (p := ⟨b, o + (xs.length - t - k - 1), none⟩) hbl).trans (hc (xs.length - t - k - 1) _ (by rw [List.getElem?_take_of_lt (by omega), List.getElem?_drop, show t + (xs.length - t - k - 1) = xs.length - 1 - k by omega]; exact hxk))
          obtain ⟨z1, z2⟩ := unhid HZ _ (List.mem_of_getElem? hxk)
          have z3 : (txtFn xs (xs.length - 1 - k)).size ≤ 9223372036854775807 := z2
          have hbl := blankB_cons z1
          have HST := hid (show blankB (txtFn xs (xs.length - 1 - k)) = false → z = k from fun hb => by rw [unhid E2]; exact runP_eq _ 0 k hk (fun i hi => by rw [Nat.zero_add]; exact unhid hall i hi) (.inr (by rw [Nat.zero_add]; exact hb)))
          have HNX := hid (show blankB (txtFn xs (xs.length - 1 - k)) = true → ∀ i, i < k + 1 → blankB (txtFn xs (xs.length - 1 - i)) = true from fun hb i hi => (Nat.lt_succ_iff_lt_or_eq.1 hi).elim (fun h => unhid hall i h) (fun h => by subst h; exact hb))
          generalize hm : xs.length - t - k = m at *
          have HM := hid hm
          have n1 : ((m : Int) - 1).toNat = m - 1 := by omega
          have hm30 : m ≤ 30 := by omega
          clear hc hxk z2 hm
          generalize txtFn xs (xs.length - 1 - k) = x at *
          cases hbb : blankB x
          · rw [hbb] at hbl
            have b1 := hbl.symm
            have E := hid (unhid HST hbb)
            clear hbl hbb
            go_wp2_with fail
            go_meet
            case rel => exact ⟨⟨_, cp, by rw [unhid E, Nat.sub_right_comm, unhid HM], by rw [unhid E, Nat.sub_right_comm, unhid HM]; exact HTK⟩, rfl⟩
          · rw [hbb] at hbl
            have b1 := hbl.symm
            have HN := hid (unhid HNX hbb)
            have s1 := fun w => sub_h (some ⟨b, o, none⟩) m cp (m - 1) (by omega) w
            rw [show (((m - 1 : Nat)) : Int) = (m : Int) - 1 by omega] at s1
            have HTK2 := hid (show TxtsAt w (some ⟨b, o, none⟩) ((xs.drop t).take (xs.length - t - (k + 1))) by
              have := (unhid HTK).head (m - 1)
              rwa [List.take_take, Nat.min_eq_left (by omega), show m - 1 = xs.length - t - (k + 1) by have := unhid HM; omega] at this)
            clear hbl hbb
            go_wp2_with fail
            exact ⟨⟨k + 1, some ⟨b, o, none⟩, cp, by omega, by go_num, by have := unhid HM; rw [show m - 1 = xs.length - t - (k + 1) by omega], by have := unhid HM; omega, HTK2, HN⟩, by simp [intOf]; omega⟩
        · have e : k = min (xs.length - t) f := by omega
          have E := hid (show z = k by rw [unhid E2]; exact runP_eq _ 0 k hk (fun i hi => by rw [Nat.zero_add]; exact unhid hall i hi) (.inl e))
          by_cases dx : k < f
          · have dy : ¬ 0 < xs.length - t - k := by omega
            clear e
            go_wp2_with fail
            go_meet
            case rel => exact ⟨⟨_, cp, by rw [unhid E, Nat.sub_right_comm], by rw [unhid E, Nat.sub_right_comm]; exact HTK⟩, rfl⟩
          · clear e
            go_wp2_with fail
            go_meet
            case rel => exact ⟨⟨_, cp, by rw [unhid E, Nat.sub_right_comm], by rw [unhid E, Nat.sub_right_comm]; exact HTK⟩, rfl⟩
    case rest =>
      clear HTA hcp
      obtain ⟨⟨ad, cp, rfl, HTA⟩, hwc⟩ := hcut
      have hwc' := hwc.symm
      subst hwc'
      obtain ⟨⟨c0, c1⟩, c2, c3⟩ := unhid HO0
      go_wp2_with fail
      refine bodyPost_ret (v := .tuple #[.agg #[.int .i64 (at_ + (t : Int)), .slice ad (xs.length - z - t) cp], .int .i64 (t : Int)]) (by simp [results, Try.results89, go_sem, World.cell?_setCell_same', c0, c2]) rfl ?_
      exact ⟨ad, ⟨cp, rfl⟩, unhid HTA, ((unhid HB0).setCell (p := ⟨w.heap.size + 1, 0, none⟩) (Nat.le_succ _) _).setCell (p := ⟨w.heap.size + 1, 1, none⟩) (Nat.le_succ _) _⟩
end Go.Proofs.Ytedimkcnemhhpaa

/- Lines looked for, by the model. -/
namespace Go.Proofs.Ytedimkcnemhhpaa
open Go.RowKit Go.Shelf

/-- Whether lines stand at a place that is not ahead of another. -/
def fromB (ls old : List ByteArray) (low t : Int) : Bool := decide (low ≤ t) && standB ls t old
def findZ (ls old : List ByteArray) (at_ low : Int) : Option Int := findFrom (fromB ls old low) at_ 9 0
def foundZ (at_ : Int) : Option Int → Int
  | some far => at_ + far
  | none => -1

set_option maxRecDepth 100000 in
set_option maxHeartbeats 4000000 in
theorem l5Find_any (ls old : List ByteArray) (a b : Option Addr) (cap cap2 : Nat) (at_ low : Int) (w : World) (hx : ls.length ≤ 1000000) (hy : old.length ≤ 1000000) (hat : -100000 ≤ at_ ∧ at_ ≤ 100000) (hlow : -100000 ≤ low ∧ low ≤ 100000) (h : TxtsAt w a ls) (h2 : TxtsAt w b old) :
    Calls Try.prog 90 #[.slice a ls.length cap, .slice b old.length cap2, .int .i64 at_, .int .i64 low] w fun e w' => e = .returned (.int .i64 (foundZ at_ (findZ ls old at_ low))) ∧ Below w.heap.size w w' := by
  obtain ⟨hat1, hat2⟩ := hat
  obtain ⟨hlow1, hlow2⟩ := hlow
  have HA := hid h
  have HB := hid h2
  have HTM := hid (show findZ ls old at_ low = findFrom (fromB ls old low) at_ 9 0 from rfl)
  clear h h2
  go_enter Try.func90, Try.ntmps90
  go_wp2_with fail
  go_loopw [9] (fun i wr => ∃ k : Nat, k ≤ 9 ∧ i = .int .i64 (k : Int) ∧ Hid (findZ ls old at_ low = findFrom (fromB ls old low) at_ (9 - k) k) ∧ Hid (Below w.heap.size w wr)) (fun i _ => 9 - (intOf i).toNat)
  case atStart => exact ⟨0, by omega, rfl, HTM, hid (Below.refl _ _)⟩
  case round =>
    obtain ⟨k, hk, rfl, HK, HBr⟩ := hrel
    by_cases hlt : k < 9
    · have HST := hid (show findZ ls old at_ low = if fromB ls old low (at_ - (k : Int)) then some (-(k : Int)) else if fromB ls old low (at_ + (k : Int)) then some (k : Int) else findFrom (fromB ls old low) at_ (9 - (k + 1)) (k + 1) by
        rw [unhid HK, show 9 - k = (9 - (k + 1)) + 1 by omega]; rfl)
      have h9 : (k : Int) ≤ 8 := by omega
      go_upto_region 4 with fail
      go_cut [26] from 10 to 45 (fun s wx => s = .bool (fromB ls old low (at_ - (k : Int))) ∧ Hid (Below w.heap.size w wx))
      case first =>
        by_cases hl : low ≤ at_ - (k : Int)
        · have E := hid (show fromB ls old low (at_ - (k : Int)) = standB ls (at_ - (k : Int)) old by unfold fromB; rw [decide_eq_true hl]; rfl)
          go_wp2_with fail
          refine (l5Same_any ls old a b cap cap2 (at_ - (k : Int)) wr (by omega) (by omega) (by omega) ((unhid HA).below (unhid HBr)) ((unhid HB).below (unhid HBr))).mono ?_
          rintro r w5 ⟨rfl, hb⟩
          have HB5 := hid ((unhid HBr).trans (hb.mono (unhid HBr).size))
          clear hb
          go_wp2_with fail
          go_meet
          case rel => exact ⟨by rw [unhid E], HB5⟩
        · have E := hid (show fromB ls old low (at_ - (k : Int)) = false by unfold fromB; rw [decide_eq_false hl]; rfl)
          have hl2 : decide (low ≤ at_ - (k : Int)) = false := decide_eq_false hl
          go_wp2_with fail
          go_meet
          case rel => exact ⟨by rw [unhid E], HBr⟩
      case rest =>
        obtain ⟨rfl, HB5⟩ := hcut
        rename_i w5
        clear HBr
        cases hs1 : fromB ls old low (at_ - (k : Int))
        case true =>
          have HST2 := hid (show findZ ls old at_ low = some (-(k : Int)) by rw [unhid HST, hs1]; rfl)
          clear hs1 HST
          go_wp2_with fail
          go_ret
          exact ⟨by rw [unhid HST2]; show _ = Ending.returned (.int .i64 (at_ + -(k : Int))); congr 2, unhid HB5⟩
        case false =>
          have HST2 := hid (show findZ ls old at_ low = if fromB ls old low (at_ + (k : Int)) then some (k : Int) else findFrom (fromB ls old low) at_ (9 - (k + 1)) (k + 1) by rw [unhid HST, hs1]; rfl)
          clear hs1 HST
          go_upto_region 6 with fail
          go_cut [42] from 10 to 45 (fun s wx => s = .bool (fromB ls old low (at_ + (k : Int))) ∧ Hid (Below w.heap.size w wx))
          case first =>
            by_cases hl : low ≤ at_ + (k : Int)
            · have E := hid (show fromB ls old low (at_ + (k : Int)) = standB ls (at_ + (k : Int)) old by unfold fromB; rw [decide_eq_true hl]; rfl)
              go_wp2_with fail
              refine (l5Same_any ls old a b cap cap2 (at_ + (k : Int)) _ (by omega) (by omega) (by omega) ((unhid HA).below (unhid HB5)) ((unhid HB).below (unhid HB5))).mono ?_
              rintro r w5 ⟨rfl, hb⟩
              have HB5 := hid ((unhid HB5).trans (hb.mono (unhid HB5).size))
              clear hb
              go_wp2_with fail
              go_meet
              case rel => exact ⟨by rw [unhid E], HB5⟩
            · have E := hid (show fromB ls old low (at_ + (k : Int)) = false by unfold fromB; rw [decide_eq_false hl]; rfl)
              have hl2 : decide (low ≤ at_ + (k : Int)) = false := decide_eq_false hl
              go_wp2_with fail
              go_meet
              case rel => exact ⟨by rw [unhid E], HB5⟩
          case rest =>
            clear HB5
            obtain ⟨rfl, HB6⟩ := hcut
            cases hs2 : fromB ls old low (at_ + (k : Int))
            case true =>
              have HST3 := hid (show findZ ls old at_ low = some (k : Int) by rw [unhid HST2, hs2]; rfl)
              clear hs2 HST2
              go_wp2_with fail
              go_ret
              exact ⟨by rw [unhid HST3]; rfl, unhid HB6⟩
            case false =>
              have HST3 := hid (show findZ ls old at_ low = findFrom (fromB ls old low) at_ (9 - (k + 1)) (k + 1) by rw [unhid HST2, hs2]; rfl)
              clear hs2 HST2
              go_wp2_with fail
              go_roundw
              case rel => exact ⟨k + 1, by omega, by go_num, HST3, HB6⟩
              case measure => simp [intOf]; omega
    · have e : k = 9 := by omega
      subst e
      have E := hid (show findZ ls old at_ low = none by rw [unhid HK]; rfl)
      go_wp2_with fail
      go_ret
      exact ⟨by rw [unhid E]; rfl, unhid HBr⟩
end Go.Proofs.Ytedimkcnemhhpaa

/- A hunk done to lines, by the model. -/
namespace Go.Proofs.Ytedimkcnemhhpaa
open Go.RowKit Go.Shelf

theorem stand_shift (done rest old : List ByteArray) (t : Int) : fromB (done ++ rest) old (done.length : Int) (t + (done.length : Int)) = standB rest t old := by
  have hd : 0 ≤ t → (done ++ rest).drop (t + (done.length : Int)).toNat = rest.drop t.toNat := fun h0 => by
    rw [show (t + (done.length : Int)).toNat = done.length + t.toNat by omega, ← List.drop_drop, List.drop_left]
  unfold fromB standB
  rw [Bool.eq_iff_iff]
  simp only [Bool.and_eq_true, decide_eq_true_eq, List.length_append]
  constructor
  · rintro ⟨h1, _, h2, h3⟩
    rw [hd (by omega)] at h3
    exact ⟨by omega, by omega, h3⟩
  · rintro ⟨h1, h2, h3⟩
    refine ⟨by omega, by omega, by omega, ?_⟩
    rw [hd h1]; exact h3
theorem findZ_try (s : PSt) (p : Hk) : findZ (s.done ++ s.rest) (oldL p) (p.at_ - 1 + s.later) (s.done.length : Int) = tryM s p := by
  unfold findZ tryM findM
  refine findFrom_congr (fun t => ?_) 9 0
  rw [show p.at_ - 1 + s.later + t = (onM s p + t) + (s.done.length : Int) by unfold onM; omega]
  exact stand_shift _ _ _ _
theorem doM_lines {s : PSt} {p : Hk} {far : Int} {k : Nat} (hk : onM s p + far = (k : Int)) :
    (doM s p far).done ++ (doM s p far).rest = (s.done ++ s.rest).take (s.done.length + k) ++ newL p ++ (s.done ++ s.rest).drop (s.done.length + k + (oldL p).length) := by
  have e : (onM s p + far).toNat = k := by omega
  show s.done ++ s.rest.take (onM s p + far).toNat ++ newL p ++ s.rest.drop ((onM s p + far).toNat + (oldL p).length) = _
  have t1 : (s.done ++ s.rest).take (s.done.length + k) = s.done ++ s.rest.take k := by
    rw [List.take_append, List.take_of_length_le (l := s.done) (by omega), show s.done.length + k - s.done.length = k by omega]
  have t2 : (s.done ++ s.rest).drop (s.done.length + k + (oldL p).length) = s.rest.drop (k + (oldL p).length) := by
    rw [List.drop_append, List.drop_eq_nil_of_le (show s.done.length ≤ s.done.length + k + (oldL p).length by omega), List.nil_append, show s.done.length + k + (oldL p).length - s.done.length = k + (oldL p).length by omega]
  rw [e, t1, t2]
theorem passFrom_some {s s' : PSt} {h : Hk} : ∀ (f k : Nat), passFrom s h f k = some s' → ∃ j far, tryM s (trimH h j) = some far ∧ s' = doM s (trimH h j) far
  | 0, _, e => by cases e
  | f + 1, k, e => by
    unfold passFrom at e
    split at e
    · rename_i far ht; cases e; exact ⟨k, far, ht, rfl⟩
    · exact passFrom_some f (k + 1) e
/-- What l5One answers where a hunk fits. -/
def OneOut (w W : World) (v : Value) (en off : Int) (s s' : PSt) : Prop := en = (s'.done.length : Int) ∧ s'.far = s.far ++ [off] ∧ W.ownsRow w.heap.size 9 1 v (s'.done ++ s'.rest).length ((s'.done ++ s'.rest).map Value.string)

def OnePost (w W : World) (e : Ending) (s : PSt) (h : Hk) (fuzz : Nat) : Prop := ∃ v en off, e = .returned (.tuple #[v, .int .i64 en, .int .i64 off, .bool (passM s h fuzz).isSome]) ∧ Hid (∀ s', passM s h fuzz = some s' → OneOut w W v en off s s') ∧ Below w.heap.size w W

set_option maxRecDepth 100000 in
set_option maxHeartbeats 8000000 in
theorem l5One_any (s : PSt) (h : Hk) (fuzz : Nat) (a la : Option Addr) (cap lcap : Nat) (w : World) (hat : -5000 ≤ h.at_ ∧ h.at_ ≤ 5000) (hl : -5000 ≤ s.later ∧ s.later ≤ 5000) (hls : (s.done ++ s.rest).length ≤ 5000) (hcap : (s.done ++ s.rest).length ≤ cap) (hnil : a = none → cap = 0) (hfz : fuzz ≤ 2) (hlen : h.lines.length ≤ 30) (hlc : h.lines.length ≤ lcap) (hok : linesB h.lines = true) (hz : bigX h.lines) (ht : TxtsAt w a (s.done ++ s.rest)) (ht2 : TxtsAt w la h.lines) :
    Calls Try.prog 61 #[.slice a (s.done ++ s.rest).length cap, .agg #[.int .i64 h.at_, .slice la h.lines.length lcap], .int .i64 (s.done.length : Nat), .int .i64 s.later, .int .i64 (fuzz : Int)] w fun e W => OnePost w W e s h fuzz := by
  have hdl : s.done.length ≤ 5000 := by rw [List.length_append] at hls; omega
  have HZ := hid (show ∀ x ∈ h.lines, 0 < x.size ∧ x.size ≤ maxLen from fun x hx => ⟨linesB_pos hok x hx, hz x hx⟩)
  have HOK := hid (show ∀ x ∈ h.lines, hkLineB x.data.toList = true from fun x hx => List.all_eq_true.1 hok x hx)
  have HAT := hid hat
  have HLT := hid hl
  have HNIL := hid hnil
  have TN := hid (twoAt_new w h.at_ (.slice la h.lines.length lcap) 46)
  have HN := hid (show Below w.heap.size w (w.alloc (.cells #[.int .i64 h.at_, .slice la h.lines.length lcap] 46)) from (Below.refl _ _).alloc (Nat.le_refl _) _)
  have hlt : w.heap.size < (w.alloc (.cells #[.int .i64 h.at_, .slice la h.lines.length lcap] 46)).heap.size := by simp
  have HT := hid (ht.below (unhid HN))
  have HT2 := hid (ht2.below (unhid HN))
  have HPM := hid (show passM s h fuzz = passFrom s h (fuzz + 1 - 0) 0 from rfl)
  have HTRY := hid (findZ_try s)
  generalize hLS : s.done ++ s.rest = LS at *
  have HLS := hid hLS
  clear ht ht2 hz hok hat hl hnil hLS
  go_enter Try.func61, Try.ntmps61
  go_wp2_with fail
  generalize w.alloc (.cells #[.int .i64 h.at_, .slice la h.lines.length lcap] 46) = W0 at *
  generalize hgb : w.heap.size = gb at *
  have HGB := hid hgb
  clear hgb
  go_loopw [14] (fun i wr => ∃ k : Nat, k ≤ fuzz + 1 ∧ i = .int .i64 (k : Int) ∧ Hid (passM s h fuzz = passFrom s h (fuzz + 1 - k) k) ∧ Hid (Below W0.heap.size W0 wr)) (fun i _ => fuzz + 1 - (intOf i).toNat)
  case atStart => exact ⟨0, by omega, rfl, HPM, hid (Below.refl _ _)⟩
  case round =>
    obtain ⟨k, hk, rfl, HK, HB⟩ := hrel
    by_cases hlt2 : k < fuzz + 1
    · obtain ⟨⟨b0, _⟩, b1, _⟩ := (unhid TN).below (unhid HB) hlt
      have hkf : (k : Int) ≤ (fuzz : Int) := by omega
      have HST := hid (show passM s h fuzz = match tryM s (trimH h k) with | some far => some (doM s (trimH h k) far) | none => passFrom s h (fuzz + 1 - (k + 1)) (k + 1) by
        rw [unhid HK, show fuzz + 1 - k = (fuzz + 1 - (k + 1)) + 1 by omega]; rfl)
      obtain ⟨l1, l2⟩ := trimA_le h.lines k
      have hat3 : -5000 ≤ (trimH h k).at_ ∧ (trimH h k).at_ ≤ 5030 := by have := unhid HAT; show -5000 ≤ h.at_ + (trimA h.lines k : Int) ∧ h.at_ + (trimA h.lines k : Int) ≤ 5030; omega
      obtain ⟨hat4, hat5⟩ := hat3
      have hln3 : (trimH h k).lines.length ≤ 30 := by show (trimL h.lines k).length ≤ 30; rw [trimL_len]; omega
      have HZ3 := hid (show ∀ x ∈ (trimH h k).lines, 0 < x.size ∧ x.size ≤ maxLen from fun x hx => unhid HZ x (trimL_mem hx))
      have HO3 := hid (show oldX 43 (trimH h k).lines = oldL (trimH h k) from old_with (fun x hx => unhid HOK x (trimL_mem hx)))
      have HN3 := hid (show oldX 45 (trimH h k).lines = newL (trimH h k) from new_with (fun x hx => unhid HOK x (trimL_mem hx)))
      have HTRY3 := hid (unhid HTRY (trimH h k))
      go_wp2_with fail
      refine (l5Trim_any h k la lcap wr (by omega) (by have := unhid HAT; omega) hlen hlc (unhid HZ) ((unhid HT2).below (unhid HB))).mono ?_
      rintro e W1 ⟨pa, pc, rfl, htp, hb⟩
      have HB1 := hid ((unhid HB).trans (hb.mono (unhid HB).size))
      have HTP := hid (htp.below hb)
      clear hb b0 b1 HB htp
      generalize trimH h k = p at *
      have hNB : Below W1.heap.size W1 (W1.alloc (.cells #[.int .i64 p.at_, .slice pa p.lines.length pc] 46)) := (Below.refl _ _).alloc (Nat.le_refl _) _
      have TP := hid (twoAt_new W1 p.at_ (.slice pa p.lines.length pc) 46)
      have hlt3 : W1.heap.size < (W1.alloc (.cells #[.int .i64 p.at_, .slice pa p.lines.length pc] 46)).heap.size := by simp
      have HB2 := hid ((unhid HB1).trans (hNB.mono (unhid HB1).size))
      have HTP2 := hid ((unhid HTP).below hNB)
      obtain ⟨⟨q0, _⟩, q1, _⟩ := unhid TP
      clear hNB HB1 HTP
      go_wp2_with fail
      generalize W1.alloc (.cells #[.int .i64 p.at_, .slice pa p.lines.length pc] 46) = W2 at *
      generalize W1.heap.size = gp at *
      refine (l5Old_any p pa pc W2 (by omega) (unhid HZ3) (unhid HTP2)).mono ?_
      rintro e W3 ⟨ov, rfl, ho, hb⟩
      rw [unhid HO3] at ho
      have HB3 := hid ((unhid HB2).trans (hb.mono (unhid HB2).size))
      have HTP3 := hid ((unhid HTP2).below hb)
      have TP3 := hid ((unhid TP).below hb hlt3)
      have hlt4 := Nat.lt_of_lt_of_le hlt3 hb.size
      obtain ⟨oa, oc, hov⟩ := ownsRow_sliceX ho
      subst hov
      have HOT := hid (show TxtsAt W3 oa (oldL p) by
        obtain ⟨_, a', c', hv, ht2, _⟩ := txts_owns ho
        injection hv with e1 e2 e3
        subst e1
        exact ht2)
      clear hb ho q0 q1 HB2 HTP2 TP hlt3
      obtain ⟨⟨q0, _⟩, q1, _⟩ := unhid TP3
      go_wp2_with fail
      refine (l5New_any p pa pc W3 (by omega) (unhid HZ3) (unhid HTP3)).mono ?_
      rintro e W4 ⟨nv, rfl, ho, hb⟩
      rw [unhid HN3] at ho
      have HB4 := hid ((unhid HB3).trans (hb.mono (unhid HB3).size))
      have TP4 := hid ((unhid TP3).below hb hlt4)
      have hlt5 := Nat.lt_of_lt_of_le hlt4 hb.size
      have HOT4 := hid ((unhid HOT).below hb)
      obtain ⟨_, na, nc, hnv, hnt, _, _, _⟩ := txts_owns ho
      have HNN := hid (show na = none → nc = 0 by
        intro e
        rcases ho.2 with ⟨hv, h0⟩ | ⟨g, c2, cur, hv, _⟩
        · rw [hv] at hnv; injection hnv with e1 e2 e3; exact e3.symm
        · rw [hv, e] at hnv; cases hnv)
      subst hnv
      have HNT := hid hnt
      clear hb ho q0 q1 HB3 HTP3 TP3 hlt4 HOT hnt
      obtain ⟨⟨q0, _⟩, q1, _⟩ := unhid TP4
      have hol : (oldL p).length ≤ p.lines.length := withX_len _ _
      have hnl : (newL p).length ≤ p.lines.length := withX_len _ _
      obtain ⟨hl1, hl2⟩ := unhid HLT
      go_wp2_with fail
      refine (l5Find_any LS (oldL p) a oa cap oc (p.at_ - 1 + s.later) (s.done.length : Int) W4 (by omega) (by omega) (by omega) (by omega) ((unhid HT).below (unhid HB4)) (unhid HOT4)).mono ?_
      rintro e W5 ⟨rfl, hb⟩
      rw [unhid HTRY3]
      have HB5 := hid ((unhid HB4).trans (hb.mono (unhid HB4).size))
      have TP5 := hid ((unhid TP4).below hb hlt5)
      have hlt6 := Nat.lt_of_lt_of_le hlt5 hb.size
      have HNT5 := hid ((unhid HNT).below hb)
      clear hb q0 q1 HB4 TP4 hlt5 HOT4 HNT
      obtain ⟨⟨q0, _⟩, q1, _⟩ := unhid TP5
      cases htr : tryM s p with
      | none =>
        have HST2 := hid (show passM s h fuzz = passFrom s h (fuzz + 1 - (k + 1)) (k + 1) by rw [unhid HST, htr])
        have E := hid (show foundZ (p.at_ - 1 + s.later) none = -1 from rfl)
        rw [unhid E]
        clear htr HST
        go_wp2_with fail
        go_roundw
        case rel => exact ⟨k + 1, by omega, by go_num, HST2, HB5⟩
        case measure => simp [intOf]; omega
      | some far =>
        have HST2 := hid (show passM s h fuzz = some (doM s p far) by rw [unhid HST, htr])
        obtain ⟨hst, f1, f2⟩ := findM_some htr
        obtain ⟨p1, p2, _⟩ := standB_parts hst
        obtain ⟨m, hm⟩ : ∃ m : Nat, onM s p + far = (m : Int) := ⟨(onM s p + far).toNat, by omega⟩
        have hmr : m + (oldL p).length ≤ s.rest.length := by omega
        have HLN := hid (doM_lines hm)
        have hLl : LS.length = s.done.length + s.rest.length := by rw [← unhid HLS, List.length_append]
        have hend : ((doM s p far).done.length : Int) = ((s.done.length + m : Nat) : Int) + ((newL p).length : Int) := by
          show ((s.done ++ s.rest.take (onM s p + far).toNat ++ newL p).length : Int) = _
          rw [hm]; simp only [List.length_append, List.length_take]; omega
        have HEND := hid hend
        have E := hid (show foundZ (p.at_ - 1 + s.later) (some far) = ((s.done.length + m : Nat) : Int) by show p.at_ - 1 + s.later + far = _; have : onM s p = p.at_ - 1 + s.later - (s.done.length : Int) := rfl; omega)
        have hoff : ((s.done.length + m : Nat) : Int) - (p.at_ - 1 + s.later) = far := by have : onM s p = p.at_ - 1 + s.later - (s.done.length : Int) := rfl; omega
        have HOFF := hid hoff
        rw [unhid E]
        rw [unhid HLS] at HLN
        have hmr2 : s.done.length + m + (oldL p).length ≤ LS.length := by omega
        clear htr HST hst hm hend hoff hmr p1 p2 hLl E
        generalize s.done.length + m = A at *
        have s1 := fun w => sub_h a LS.length cap A (by omega) w
        have s2 := fun w => sub_l a LS.length cap (A + (oldL p).length) (by omega) w
        rw [show ((A + (oldL p).length : Nat) : Int) = (A : Int) + ((oldL p).length : Int) by omega] at s2
        go_wp2_with fail
        -- the lines in one
        have hba : ∀ {q : Prop}, (CW (fun w' => Below W5.heap.size W5 w') → q) ↔ q := CW.all (Below.refl _ W5)
        refine held_begin (fun w' => Below W5.heap.size W5 w') (by kernel_rfl) (drew_belowX _) ?_
        refine held_here [false, true, true, true, false, true, false, true, true, true, true, true, true] (by kernel_rfl) (by kernel_rfl) (fun _ _ _ _ _ h => h) (drew_belowX _) ?_
        dsimp only [pick]
        repeat (go_big_quiet_step (fail))
        refine wpQuiet_nil ?_
        clear hba s1 s2
        have hD := drew_belowX (B := W5.heap.size) W5
        generalize W5.drew = W6 at hD ⊢
        refine held_op 0 (by kernel_rfl) (by kernel_rfl) rfl (fun K hK => ?_)
        go_simp
        have hD2 : Below W5.heap.size W5 (W6.alloc (.cells #[] 9)) := hD.alloc hD.size _
        refine hK.out _ _ hD2 ?_
        clear hK K
        have r0 := World.ownsRow_lit (base := W5.heap.size) (e := 9) (size := 1) W6 #[] 0 hD.size (by simp [maxLen]) rfl
        generalize W6.alloc (.cells #[] 9) = W7 at hD2 r0 ⊢
        generalize W6.heap.size = g0 at r0 ⊢
        clear hD
        have HTA := hid ((unhid HT).below (unhid HB5))
        have htk : (LS.take A).length = A := by rw [List.length_take]; omega
        refine held_app 4 51 W5.heap.size (.slice (some ⟨g0, 0, none⟩) 0 0) [] (LS.take A) a cap (by kernel_rfl) (by kernel_rfl) rfl rfl rfl rfl rfl (by rw [htk]; rfl) r0 (((unhid HTA).head A).below hD2) (unhid HNIL) (by rw [htk]; simp only [List.length_nil]; omega) hD2.size ?_
        intro v1 W8 r1 hg1 _
        have hD3 : Below W5.heap.size W5 W8 := hD2.grown hg1 hD2.size (fun j e => (r0.lt j e).1)
        refine ⟨hD3, ?_⟩
        simp only [Act.put, List.setIfInBounds_toArray, List.set_cons_zero, List.set_cons_succ]
        rw [List.nil_append] at r1
        clear hg1 r0 hD2
        refine held_app 6 53 W5.heap.size v1 (LS.take A) (newL p) na nc (by kernel_rfl) (by kernel_rfl) rfl rfl rfl rfl rfl rfl r1 ((unhid HNT5).below hD3) (unhid HNN) (by rw [htk]; omega) hD3.size ?_
        intro v2 W9 r2 hg2 _
        have hD4 : Below W5.heap.size W5 W9 := hD3.grown hg2 hD3.size (fun j e => (r1.lt j e).1)
        refine ⟨hD4, ?_⟩
        simp only [Act.put, List.setIfInBounds_toArray, List.set_cons_zero, List.set_cons_succ]
        clear hg2 r1 hD3
        have hdr : (LS.drop (A + (oldL p).length)).length = LS.length - (A + (oldL p).length) := List.length_drop
        refine held_app 13 60 W5.heap.size v2 (LS.take A ++ newL p) (LS.drop (A + (oldL p).length)) (subA a cap (A + (oldL p).length)) (cap - (A + (oldL p).length)) (by kernel_rfl) (by kernel_rfl) rfl rfl rfl rfl rfl (by rw [hdr]; rfl) r2 (((unhid HTA).rest hcap _).below hD4) (subA_none (by omega) (unhid HNIL)) (by rw [hdr, List.length_append, htk]; omega) hD4.size ?_
        intro v3 W10 r3 hg3 _
        have hD5 : Below W5.heap.size W5 W10 := hD4.grown hg3 hD4.size (fun j e => (r2.lt j e).1)
        refine ⟨hD5, ?_⟩
        simp only [Act.put, List.setIfInBounds_toArray, List.set_cons_zero, List.set_cons_succ]
        obtain ⟨va, vc, hv3⟩ := ownsRow_sliceX r3
        subst hv3
        clear hg3 r2 hD4
        have hba : ∀ {q : Prop}, (CW (fun w' => Below W5.heap.size W5 w') → q) ↔ q := CW.all (Below.refl _ W5)
        refine held_here [false, false, false, false, false, false, false, false, false, false, false, false, false, false, true] (by kernel_rfl) (by kernel_rfl) (fun _ _ _ _ _ h => h) hD5 ?_
        dsimp only [pick]
        repeat (go_big_quiet_step (fail))
        refine wpQuiet_nil ?_
        clear hba
        refine held_done (by kernel_rfl) ?_
        rw [← unhid HLN] at r3 ⊢
        have HR3 := hid (ownsRow_baseX (N' := w.heap.size) r3 (by rw [unhid HGB]; exact Nat.le_trans (Nat.le_of_lt hlt) (unhid HB5).size))
        have HB6 := hid ((unhid HB5).trans (hD5.mono (unhid HB5).size))
        have TP6 := hid ((unhid TP5).below hD5 hlt6)
        clear r3 hD5 q0 q1 TP5 htk hdr HTA HNT5
        obtain ⟨⟨q0, _⟩, q1, _⟩ := unhid TP6
        go_wp2_with fail
        go_quiet (fail)
        have HF := hid (show (W10.drewN nq).ownsRow w.heap.size 9 1 (.slice va ((doM s p far).done ++ (doM s p far).rest).length vc) ((doM s p far).done ++ (doM s p far).rest).length (((doM s p far).done ++ (doM s p far).rest).map Value.string) ∧ Below w.heap.size w (W10.drewN nq) from
          ⟨owns_belowX (unhid HR3) ⟨rfl, rfl, rfl, Nat.le_refl _, fun _ _ => rfl⟩, by
            have hx := (unhid HN).trans ((unhid HB6).mono (Nat.le_of_lt hlt))
            rw [unhid HGB]
            exact ⟨hx.os, hx.tape, hx.output, hx.size, hx.block⟩⟩)
        generalize W10.drewN nq = W11 at HF ⊢
        go_wp2_with fail
        refine bodyPost_ret (v := .tuple #[.slice va ((doM s p far).done ++ (doM s p far).rest).length vc, .int .i64 ((A : Int) + ((newL p).length : Int)), .int .i64 ((A : Int) - (p.at_ - 1 + s.later)), .bool true]) (by simp [results, Try.results61]) rfl ?_
        refine ⟨_, _, _, by rw [unhid HST2]; rfl, hid (fun s' e => ?_), (unhid HF).2⟩
        rw [unhid HST2] at e
        cases e
        exact ⟨(unhid HEND).symm, by rw [unhid HOFF]; rfl, (unhid HF).1⟩
    · have e : k = fuzz + 1 := by omega
      have E := hid (show passM s h fuzz = none by rw [unhid HK, e, Nat.sub_self]; rfl)
      have hlt3 : decide ((k : Int) ≤ (fuzz : Int)) = false := by rw [decide_eq_false_iff_not]; omega
      clear e
      go_wp2_with fail
      refine bodyPost_ret (v := .tuple #[.slice a LS.length cap, .int .i64 (s.done.length : Int), .int .i64 0, .bool false]) (by simp [results, Try.results61]) rfl ?_
      refine ⟨_, _, _, by rw [unhid E]; rfl, hid (fun s' e => by rw [unhid E] at e; cases e), ?_⟩
      rw [unhid HGB]
      exact (unhid HN).trans ((unhid HB).mono (Nat.le_of_lt hlt))
end Go.Proofs.Ytedimkcnemhhpaa

/- A hunk without blank lines at its ends, by the program. -/
namespace Go.Proofs.Ytedimkcnemhhpaa
open Go.RowKit Go.Shelf

theorem run_max_two (x y m : Int) (h : m = max x y) (w : World) (ts : Array TypeId) (t : TypeId) : (Builtin.max_ ts t #[.int .i64 x, .int .i64 y]).run Try.prog w = .ok (.int .i64 m) w := by
  subst h
  have : (Builtin.max_ ts t #[.int .i64 x, .int .i64 y]).run Try.prog w = .ok (.int .i64 (if x < y then y else x)) w := by simp [Builtin.max_, Builtin.max2]
  rw [this]; congr 2; omega
theorem run_min_two (x y m : Int) (h : m = min x y) (w : World) (ts : Array TypeId) (t : TypeId) : (Builtin.min_ ts t #[.int .i64 x, .int .i64 y]).run Try.prog w = .ok (.int .i64 m) w := by
  subst h
  rw [run_min_int2]; congr 2; omega

set_option maxRecDepth 100000 in
set_option maxHeartbeats 4000000 in
theorem withoutEnds_any (h : Hk) (f : Nat) (la : Option Addr) (cap : Nat) (w : World) (hf : f ≤ 2) (hat : -1000000 ≤ h.at_ ∧ h.at_ ≤ 1000000) (hlen : h.lines.length ≤ 30) (hcap : h.lines.length ≤ cap) (hz : ∀ x ∈ h.lines, 0 < x.size ∧ x.size ≤ maxLen) (ht : TxtsAt w la h.lines) :
    Calls Try.prog 91 #[.agg #[.int .i64 h.at_, .slice la h.lines.length cap], .int .i64 (f : Int)] w fun e w' => e = .returned (.agg #[.int .i64 (trimH h f).at_, .slice (subA la cap (trimA h.lines f)) (trimH h f).lines.length (cap - trimA h.lines f)]) ∧ Below w.heap.size w w' := by
  obtain ⟨at_, xs⟩ := h
  dsimp only at *
  obtain ⟨hat1, hat2⟩ := hat
  have HZ := hid hz
  have HT := hid ht
  clear hz ht
  have E1 := hid (show trimA xs f = runP (fun i => blankB (txtFn xs i)) 0 (min f xs.length) from rfl)
  have E2 := hid (show trimZ xs f = runP (fun i => blankB (txtFn xs (xs.length - 1 - i))) 0 (min (xs.length - trimA xs f) f) from rfl)
  have E3 := hid (show (trimH ⟨at_, xs⟩ f).at_ = at_ + (trimA xs f : Int) ∧ (trimH ⟨at_, xs⟩ f).lines.length = xs.length - trimZ xs f - trimA xs f from ⟨rfl, trimL_len xs f⟩)
  obtain ⟨l1, l2⟩ := trimA_le xs f
  obtain ⟨l3, l4⟩ := trimZ_le xs f
  rw [(unhid E3).1, (unhid E3).2]
  clear E3
  generalize trimA xs f = t at *
  generalize trimZ xs f = z at *
  have hB : ∀ o o', Below w.heap.size w ((w.alloc o).alloc o') := fun o o' => ((Below.refl _ w).alloc (Nat.le_refl _) o).alloc (by simp) o'
  have hs2 : ∀ o o', ((w.alloc o).alloc o').heap.size = w.heap.size + 1 + 1 := fun o o' => by simp
  have hbox : ∀ o', TwoAt ((w.alloc (.cells #[.int .i64 at_, .slice la xs.length cap] 46)).alloc o') w.heap.size at_ (.slice la xs.length cap) := fun o' =>
    (twoAt_new w at_ (.slice la xs.length cap) 46).below ((Below.refl _ _).alloc (Nat.le_refl _) o') (by simp)
  have hout : ∀ o, TwoAt ((w.alloc o).alloc (.cells #[.int .i64 0, .slice none 0 0] 46)) (w.heap.size + 1) 0 (.slice none 0 0) := fun o => by
    have := twoAt_new (w.alloc o) 0 (.slice none 0 0) 46
    simpa using this
  have HB := hid hB; have HS2 := hid hs2; have HBX := hid hbox; have HOU := hid hout
  clear hB hs2 hbox hout
  go_enter Try.func91, Try.ntmps91
  go_wp2_with fail
  have hb0 := unhid HB (.cells #[.int .i64 at_, .slice la xs.length cap] 46) (.cells #[.int .i64 0, .slice none 0 0] 46)
  have hs0 := unhid HS2 (.cells #[.int .i64 at_, .slice la xs.length cap] 46) (.cells #[.int .i64 0, .slice none 0 0] 46)
  have hx0 := unhid HBX (.cells #[.int .i64 0, .slice none 0 0] 46)
  have ho0 := unhid HOU (.cells #[.int .i64 at_, .slice la xs.length cap] 46)
  clear HB HS2 HBX HOU
  generalize (w.alloc (.cells #[.int .i64 at_, .slice la xs.length cap] 46)).alloc (.cells #[.int .i64 0, .slice none 0 0] 46) = W0 at hb0 hs0 hx0 ho0 ⊢
  obtain ⟨⟨m0, m1⟩, m2, m3⟩ := hx0
  go_quiet (fail)
  have HQ := hid (show Below w.heap.size w (W0.drewN nq) ∧ (W0.drewN nq).heap.size = w.heap.size + 1 + 1 ∧ TwoAt (W0.drewN nq) w.heap.size at_ (.slice la xs.length cap) ∧ TwoAt (W0.drewN nq) (w.heap.size + 1) 0 (.slice none 0 0) from
    ⟨⟨hb0.os, hb0.tape, hb0.output, hb0.size, hb0.block⟩, hs0, ⟨⟨m0, m1⟩, m2, m3⟩, ⟨⟨ho0.1.1, ho0.1.2⟩, ho0.2.1, ho0.2.2⟩⟩)
  clear m0 m1 m2 m3 hb0 hs0 ho0
  generalize W0.drewN nq = wq at HQ ⊢
  generalize hgb : w.heap.size = gb at HQ ⊢
  have HGB := hid hgb
  clear hgb
  obtain ⟨⟨m0, m1⟩, m2, m3⟩ := (unhid HQ).2.2.1
  have hTq := hid ((unhid HT).below (by rw [unhid HGB]; exact (unhid HQ).1))
  go_upto_block 0 with fail
  go_cut [5] from 7 (fun s wx => s = .int .i64 ((t : Nat) : Int) ∧ wx = wq)
  case first =>
    clear l1 l2 l3 l4
    have hmin : ∀ w ts tt, (Builtin.min_ ts tt #[.int .i64 (f : Int), .int .i64 (xs.length : Int)]).run Try.prog w = .ok (.int .i64 ((min f xs.length : Nat) : Int)) w := run_min_two _ _ _ (by omega)
    go_wp2_with fail
    go_loop [5] (fun i => ∃ k : Nat, k ≤ min f xs.length ∧ i = .int .i64 (k : Int) ∧ Hid (∀ i, i < k → blankB (txtFn xs i) = true)) (fun i => min f xs.length - (intOf i).toNat)
    case atStart => exact ⟨0, Nat.zero_le _, rfl, hid (fun i hi => absurd hi (Nat.not_lt_zero _))⟩
    case round =>
      obtain ⟨k, hk, rfl, hall⟩ := hrel
      generalize hgm : min f xs.length = m at *
      have HGM := hid hgm
      by_cases hlt : k < m
      · have hkx : k < xs.length := by omega
        clear hgm
        have hxk := txtFn_some hkx
        obtain ⟨b, o, rfl, hbl, hc⟩ := (unhid hTq).get (by intro e; subst e; simp at hkx)
        have c0 := hc k _ hxk
        obtain ⟨z1, z2⟩ := unhid HZ _ (List.mem_of_getElem? hxk)
        have z3 : (txtFn xs k).size ≤ 9223372036854775807 := z2
        have hbl := blankB_cons z1
        have HST := hid (show blankB (txtFn xs k) = false → t = k from fun hb => by rw [unhid E1]; exact runP_eq _ 0 k (by omega) (fun i hi => by rw [Nat.zero_add]; exact unhid hall i hi) (.inr (by rw [Nat.zero_add]; exact hb)))
        have HNX := hid (show blankB (txtFn xs k) = true → ∀ i, i < k + 1 → blankB (txtFn xs i) = true from fun hb i hi => (Nat.lt_succ_iff_lt_or_eq.1 hi).elim (fun h => unhid hall i h) (fun h => by subst h; exact hb))
        clear hc hxk z2
        generalize txtFn xs k = x at *
        cases hbb : blankB x
        · rw [hbb] at hbl
          have b1 := hbl.symm
          have E := hid (unhid HST hbb)
          clear hbl hbb
          go_wp2_with fail
          go_meet
          case rel => exact ⟨by rw [unhid E], rfl⟩
        · rw [hbb] at hbl
          have b1 := hbl.symm
          have HN := hid (unhid HNX hbb)
          clear hbl hbb
          go_wp2_with fail
          exact ⟨⟨k + 1, by omega, by go_num, HN⟩, by simp [intOf]; omega⟩
      · have e : k = m := by omega
        have E := hid (show t = k by rw [unhid E1]; exact runP_eq _ 0 k (by omega) (fun i hi => by rw [Nat.zero_add]; exact unhid hall i hi) (.inl e))
        clear e hgm
        go_wp2_with fail
        go_meet
        case rel => exact ⟨by rw [unhid E], rfl⟩
  case rest =>
    obtain ⟨rfl, hwc⟩ := hcut
    have hwc' := hwc.symm
    subst hwc'
    go_upto_block 2 with fail
    go_cut [6] from 7 (fun s wx => s = .int .i64 ((xs.length : Int) - (z : Int)) ∧ wx = wq)
    case first =>
      clear l3 l4
      obtain ⟨M, hM⟩ : ∃ M : Int, M = max (t : Int) ((xs.length : Int) - (f : Int)) := ⟨_, rfl⟩
      have hmax : ∀ w ts tt, (Builtin.max_ ts tt #[.int .i64 (t : Int), .int .i64 ((xs.length : Int) - (f : Int))]).run Try.prog w = .ok (.int .i64 M) w := run_max_two _ _ _ hM
      have HM := hid hM
      clear hM
      go_wp2_with fail
      go_loop [6] (fun i => ∃ k : Nat, k ≤ min (xs.length - t) f ∧ i = .int .i64 ((xs.length : Int) - (k : Int)) ∧ Hid (∀ i, i < k → blankB (txtFn xs (xs.length - 1 - i)) = true)) (fun i => (intOf i).toNat)
      case atStart => exact ⟨0, Nat.zero_le _, by simp, hid (fun i hi => absurd hi (Nat.not_lt_zero _))⟩
      case round =>
        obtain ⟨k, hk, rfl, hall⟩ := hrel
        by_cases hlt : k < min (xs.length - t) f
        · have hkx : xs.length - 1 - k < xs.length := by omega
          have hxk := txtFn_some hkx
          obtain ⟨b, o, rfl, hbl, hc⟩ := (unhid hTq).get (by intro e; subst e; simp at hkx)
          have c0 := hc _ _ hxk
          obtain ⟨z1, z2⟩ := unhid HZ _ (List.mem_of_getElem? hxk)
          have z3 : (txtFn xs (xs.length - 1 - k)).size ≤ 9223372036854775807 := z2
          have hbl := blankB_cons z1
          have HST := hid (show blankB (txtFn xs (xs.length - 1 - k)) = false → z = k from fun hb => by rw [unhid E2]; exact runP_eq _ 0 k hk (fun i hi => by rw [Nat.zero_add]; exact unhid hall i hi) (.inr (by rw [Nat.zero_add]; exact hb)))
          have HNX := hid (show blankB (txtFn xs (xs.length - 1 - k)) = true → ∀ i, i < k + 1 → blankB (txtFn xs (xs.length - 1 - i)) = true from fun hb i hi => (Nat.lt_succ_iff_lt_or_eq.1 hi).elim (fun h => unhid hall i h) (fun h => by subst h; exact hb))
          have hgt : M < (xs.length : Int) - (k : Int) := by have := unhid HM; omega
          have n1 : ((xs.length : Int) - (k : Int) - 1).toNat = xs.length - 1 - k := by omega
          have n2 : k < xs.length := by omega
          clear hc hxk z2
          generalize txtFn xs (xs.length - 1 - k) = x at *
          cases hbb : blankB x
          · rw [hbb] at hbl
            have b1 := hbl.symm
            have E := hid (unhid HST hbb)
            clear hbl hbb
            go_wp2_with fail
            go_meet
            case rel => exact ⟨by rw [unhid E], rfl⟩
          · rw [hbb] at hbl
            have b1 := hbl.symm
            have HN := hid (unhid HNX hbb)
            clear hbl hbb
            go_wp2_with fail
            exact ⟨⟨k + 1, by omega, by go_num, HN⟩, by simp [intOf]; omega⟩
        · have e : k = min (xs.length - t) f := by omega
          have E := hid (show z = k by rw [unhid E2]; exact runP_eq _ 0 k hk (fun i hi => by rw [Nat.zero_add]; exact unhid hall i hi) (.inl e))
          have hgt : decide (M < (xs.length : Int) - (k : Int)) = false := by rw [decide_eq_false_iff_not]; have := unhid HM; omega
          clear e
          go_wp2_with fail
          go_meet
          case rel => exact ⟨by rw [unhid E], rfl⟩
    case rest =>
      obtain ⟨rfl, hwc⟩ := hcut
      have hwc' := hwc.symm
      subst hwc'
      have e1 : (xs.length : Int) - (z : Int) = ((xs.length - z : Nat) : Int) := by omega
      have s1 := fun w => sub_lh la xs.length cap t (xs.length - z) (by omega) (by omega) w
      rw [e1]
      clear e1
      go_wp2_with fail
      have g0 : ∀ y : CW (fun w' => w'.cell? ⟨gb, 0, none⟩ = some (.int .i64 at_) ∧ w'.cell? ⟨gb, 1, none⟩ = some (.slice la xs.length cap)), y.w.cell? ⟨gb, 0, none⟩ = some (.int .i64 at_) := fun y => y.h.1
      have g1 : ∀ y : CW (fun w' => w'.cell? ⟨gb, 0, none⟩ = some (.int .i64 at_) ∧ w'.cell? ⟨gb, 1, none⟩ = some (.slice la xs.length cap)), y.w.cell? ⟨gb, 1, none⟩ = some (.slice la xs.length cap) := fun y => y.h.2
      have hba : ∀ {q : Prop}, (CW (fun w' => w'.cell? ⟨gb, 0, none⟩ = some (.int .i64 at_) ∧ w'.cell? ⟨gb, 1, none⟩ = some (.slice la xs.length cap)) → q) ↔ q := CW.all (W := wq) ⟨m0, m2⟩
      refine held_begin (fun w' => w'.cell? ⟨gb, 0, none⟩ = some (.int .i64 at_) ∧ w'.cell? ⟨gb, 1, none⟩ = some (.slice la xs.length cap)) (by kernel_rfl) ⟨m0, m2⟩ ?_
      refine held_here [true, true, true, true, true, true, true, true, true, true] (by kernel_rfl) (by kernel_rfl) (fun _ _ _ _ _ h => h) ⟨m0, m2⟩ ?_
      dsimp only [pick]
      repeat (go_big_quiet_step (fail))
      refine wpQuiet_nil ?_
      clear g0 g1 hba
      have HQ2 := hid (show Below gb w wq.drew ∧ TwoAt wq.drew gb at_ (.slice la xs.length cap) ∧ TwoAt wq.drew (gb + 1) 0 (.slice none 0 0) from
        ⟨⟨(unhid HQ).1.os, (unhid HQ).1.tape, (unhid HQ).1.output, (unhid HQ).1.size, (unhid HQ).1.block⟩, (unhid HQ).2.2.1, (unhid HQ).2.2.2⟩)
      clear m0 m1 m2 m3
      generalize wq.drew = W5 at HQ2 ⊢
      obtain ⟨⟨c0, c1⟩, c2, c3⟩ := (unhid HQ2).2.2
      refine held_op 10 (by kernel_rfl) (by kernel_rfl) rfl (fun K hK => ?_)
      go_simp
      have hT1 := (unhid HQ2).2.1.far (q := ⟨gb + 1, 0, none⟩) (by dsimp only; omega) (.int .i64 (at_ + (t : Int)))
      have hT2 := hT1.far (q := ⟨gb + 1, 1, none⟩) (by dsimp only; omega) (.slice (subA la cap t) (xs.length - z - t) (cap - t))
      refine hK.out _ _ ⟨hT2.1.1, hT2.2.1⟩ ?_
      clear hK K hT1 hT2
      refine held_done (by kernel_rfl) ?_
      go_wp2_with fail
      refine bodyPost_ret (v := .agg #[.int .i64 (at_ + (t : Int)), .slice (subA la cap t) (xs.length - z - t) (cap - t)]) (by simp [results, Try.results91, go_sem, World.cell?_setCell_same', c0, c2]) rfl ⟨rfl, ?_⟩
      rw [unhid HGB]
      exact ((unhid HQ2).1.setCell (p := ⟨gb + 1, 0, none⟩) (Nat.le_succ _) _).setCell (p := ⟨gb + 1, 1, none⟩) (Nat.le_succ _) _
end Go.Proofs.Ytedimkcnemhhpaa

/- Lines that hunks are being done to, by the program: read, kept, looked for. -/
namespace Go.Proofs.Ytedimkcnemhhpaa
open Go.RowKit Go.Shelf

/-- Four cells at the head of a block. -/
structure FourAt (W : World) (g : Nat) (a b c d : Value) : Prop where
  c0 : W.cell? ⟨g, 0, none⟩ = some a
  f0 : W.frozen? ⟨g, 0, none⟩ = false
  c1 : W.cell? ⟨g, 1, none⟩ = some b
  f1 : W.frozen? ⟨g, 1, none⟩ = false
  c2 : W.cell? ⟨g, 2, none⟩ = some c
  f2 : W.frozen? ⟨g, 2, none⟩ = false
  c3 : W.cell? ⟨g, 3, none⟩ = some d
  f3 : W.frozen? ⟨g, 3, none⟩ = false
theorem fourAt_new (W : World) (a b c d : Value) (t : TypeId) : FourAt (W.alloc (.cells #[a, b, c, d] t)) W.heap.size a b c d := by
  constructor <;> simp [go_sem]
theorem FourAt.block {W W' : World} {g : Nat} {a b c d : Value} (h : FourAt W g a b c d) (hb : W'.heap[g]? = W.heap[g]?) : FourAt W' g a b c d :=
  ⟨(World.cell?_of_block (w := W) hb).trans h.c0, (World.frozen?_of_block (w := W) hb).trans h.f0, (World.cell?_of_block (w := W) hb).trans h.c1, (World.frozen?_of_block (w := W) hb).trans h.f1,
   (World.cell?_of_block (w := W) hb).trans h.c2, (World.frozen?_of_block (w := W) hb).trans h.f2, (World.cell?_of_block (w := W) hb).trans h.c3, (World.frozen?_of_block (w := W) hb).trans h.f3⟩
theorem FourAt.set0 {W : World} {g : Nat} {a b c d : Value} (h : FourAt W g a b c d) (x : Value) : FourAt (W.setCell ⟨g, 0, none⟩ x) g x b c d := by
  obtain ⟨c0, f0, c1, f1, c2, f2, c3, f3⟩ := h
  constructor <;> simp [go_sem, World.cell?_setCell_same', *]
theorem FourAt.set1 {W : World} {g : Nat} {a b c d : Value} (h : FourAt W g a b c d) (x : Value) : FourAt (W.setCell ⟨g, 1, none⟩ x) g a x c d := by
  obtain ⟨c0, f0, c1, f1, c2, f2, c3, f3⟩ := h
  constructor <;> simp [go_sem, World.cell?_setCell_same', *]
theorem FourAt.set2 {W : World} {g : Nat} {a b c d : Value} (h : FourAt W g a b c d) (x : Value) : FourAt (W.setCell ⟨g, 2, none⟩ x) g a b x d := by
  obtain ⟨c0, f0, c1, f1, c2, f2, c3, f3⟩ := h
  constructor <;> simp [go_sem, World.cell?_setCell_same', *]
theorem FourAt.set3 {W : World} {g : Nat} {a b c d : Value} (h : FourAt W g a b c d) (x : Value) : FourAt (W.setCell ⟨g, 3, none⟩ x) g a b c x := by
  obtain ⟨c0, f0, c1, f1, c2, f2, c3, f3⟩ := h
  constructor <;> simp [go_sem, World.cell?_setCell_same', *]
theorem owns_set {W : World} {N n size e : Nat} {v : Value} {xs : List Value} (h : W.ownsRow N e size v n xs) {p : Addr} (hne : v.ownBlock ≠ some p.block) (y : Value) : (W.setCell p y).ownsRow N e size v n xs :=
  ⟨h.1, h.2.imp id (fun ⟨g, cap, cur, a, b, c, d⟩ => ⟨g, cap, cur, a, b, (Below.heap_setCell _ _ _ _ (fun ee => hne (by rw [a, ← ee]; rfl))).trans c, d⟩)⟩
theorem owns_grown {W W' : World} {N n size e : Nat} {v : Value} {xs : List Value} {row : Option Nat} (h : W.ownsRow N e size v n xs) (hg : W.grownBy W' row) (hne : v.ownBlock = none ∨ v.ownBlock ≠ row) : W'.ownsRow N e size v n xs := h.kept hg hne

/-- The walker at block g: what is still to be read, what is done, how far each hunk was, how much later. -/
structure Wk (w W : World) (g : Nat) (s : PSt) (ra : Option Addr) (rc : Nat) (dv fv : Value) : Prop where
  lo : w.heap.size ≤ g
  lt : g < W.heap.size
  four : FourAt W g (.slice ra s.rest.length rc) dv fv (.int .i64 s.later)
  down : W.ownsRow w.heap.size 9 1 dv s.done.length (s.done.map Value.string)
  fown : W.ownsRow w.heap.size 3 1 fv s.far.length (s.far.map (Value.int .i64))
  dg : dv.ownBlock ≠ some g
  fg : fv.ownBlock ≠ some g
  df : dv.ownBlock = none ∨ dv.ownBlock ≠ fv.ownBlock
  rest : TxtsAt w ra s.rest
  rnil : ra = none → rc = 0
  rcap : s.rest.length ≤ rc
  below : Below w.heap.size w W
theorem Wk.step {w W W' : World} {g : Nat} {s : PSt} {ra : Option Addr} {rc : Nat} {dv fv : Value} (h : Wk w W g s ra rc dv fv) (hb : Below W.heap.size W W') : Wk w W' g s ra rc dv fv :=
  ⟨h.lo, Nat.lt_of_lt_of_le h.lt hb.size, h.four.block (hb.block g h.lt), owns_belowX h.down hb, owns_belowX h.fown hb, h.dg, h.fg, h.df, h.rest, h.rnil, h.rcap, h.below.trans (hb.mono h.below.size)⟩

set_option maxRecDepth 100000 in
set_option maxHeartbeats 1000000 in
theorem left_any (g : Nat) (a : Option Addr) (n cap : Nat) (W : World) (hc : W.cell? ⟨g, 0, none⟩ = some (.slice a n cap)) :
    Calls Try.prog 66 #[.pointer (some ⟨g, 0, none⟩)] W fun e W' => e = .returned (.int .i64 (n : Int)) ∧ W' = W := by
  go_enter Try.func66, Try.ntmps66
  go_wp2_with fail
  go_ret
  exact ⟨rfl, rfl⟩

set_option maxRecDepth 100000 in
set_option maxHeartbeats 2000000 in
theorem take_any (w W : World) (g k : Nat) (s : PSt) (ra : Option Addr) (rc : Nat) (dv fv : Value) (h : Wk w W g s ra rc dv fv) (hk : k ≤ s.rest.length) :
    Calls Try.prog 94 #[.pointer (some ⟨g, 0, none⟩), .int .i64 (k : Int)] W fun e W' => e = .returned (.slice ra k rc) ∧ W' = W.setCell ⟨g, 0, none⟩ (.slice (subA ra rc k) (s.rest.length - k) (rc - k)) := by
  have HH := hid h
  have c0 := h.four.c0
  have f0 := h.four.f0
  have s1 := fun w => sub_h ra s.rest.length rc k (Nat.le_trans hk h.rcap) w
  have s2 := fun w => sub_l ra s.rest.length rc k hk w
  clear h
  go_enter Try.func94, Try.ntmps94
  go_wp2_with fail
  go_ret
  exact ⟨rfl, rfl⟩
theorem Wk.took {w W : World} {g k : Nat} {s : PSt} {ra : Option Addr} {rc : Nat} {dv fv : Value} (h : Wk w W g s ra rc dv fv) (hk : k ≤ s.rest.length) :
    Wk w (W.setCell ⟨g, 0, none⟩ (.slice (subA ra rc k) (s.rest.length - k) (rc - k))) g ⟨s.done, s.rest.drop k, s.far, s.later⟩ (subA ra rc k) (rc - k) dv fv := by
  have hc := h.rcap
  refine ⟨h.lo, by simpa using h.lt, ?_, owns_set h.down h.dg _, owns_set h.fown h.fg _, h.dg, h.fg, h.df, h.rest.rest h.rcap k, subA_none (by omega) h.rnil, by simp only [List.length_drop]; omega, h.below.setCell (p := ⟨g, 0, none⟩) h.lo _⟩
  have := h.four.set0 (.slice (subA ra rc k) (s.rest.length - k) (rc - k))
  rwa [show (s.rest.drop k).length = s.rest.length - k from List.length_drop]
/-- What is appended to what is done. -/
theorem Wk.app {w W W' : World} {g : Nat} {s : PSt} {ra : Option Addr} {rc : Nat} {dv fv dv' : Value} {ys : List ByteArray} (h : Wk w W g s ra rc dv fv) (hown : W'.ownsRow w.heap.size 9 1 dv' (s.done ++ ys).length ((s.done ++ ys).map Value.string)) (hg : W.grownBy W' dv.ownBlock) (hat : dv'.ownBlock = dv.ownBlock ∨ dv'.ownBlock = some W.heap.size) :
    FourAt W' g (.slice ra s.rest.length rc) dv fv (.int .i64 s.later) ∧ Below w.heap.size w W' ∧ Wk w (W'.setCell ⟨g, 1, none⟩ dv') g ⟨s.done ++ ys, s.rest, s.far, s.later⟩ ra rc dv' fv := by
  have h4 : FourAt W' g (.slice ra s.rest.length rc) dv fv (.int .i64 s.later) := h.four.block (hg.block g h.lt (fun e => h.dg e.symm))
  have hne : dv'.ownBlock ≠ some g := by
    rcases hat with e | e <;> rw [e]
    · exact h.dg
    · intro e; cases e; exact Nat.lt_irrefl _ h.lt
  have hB : Below w.heap.size w W' := h.below.grown hg h.below.size (fun k e => (h.down.lt k e).1)
  have hf : fv.ownBlock = none ∨ fv.ownBlock ≠ dv.ownBlock := by
    cases hfv : fv.ownBlock with
    | none => exact .inl rfl
    | some b =>
      refine .inr (fun e => ?_)
      rcases h.df with e2 | e2
      · rw [e2] at e; cases e
      · exact e2 (by rw [hfv]; exact e.symm)
  refine ⟨h4, hB, h.lo, by have := hg.size; have := h.lt; simp; omega, h4.set1 dv', owns_set hown hne _, owns_set (owns_grown h.fown hg hf) h.fg _, hne, h.fg, ?_, h.rest, h.rnil, h.rcap, hB.setCell (p := ⟨g, 1, none⟩) h.lo _⟩
  cases hdv' : dv'.ownBlock with
  | none => exact .inl rfl
  | some b =>
    refine .inr (fun e => ?_)
    rcases hat with e2 | e2
    · rcases hf with e3 | e3
      · rw [e3] at e; cases e
      · exact e3 (by rw [← e, ← hdv', e2])
    · rw [hdv'] at e2
      cases e2
      exact Nat.lt_irrefl _ (h.fown.lt _ e.symm).2

set_option maxRecDepth 100000 in
set_option maxHeartbeats 2000000 in
theorem lookedFor_any (w W : World) (g : Nat) (s : PSt) (ra : Option Addr) (rc : Nat) (dv fv : Value) (h : Hk) (lv : Value) (hw : Wk w W g s ra rc dv fv) (hat : -1000000 ≤ h.at_ ∧ h.at_ ≤ 1000000) (hl : -1000000 ≤ s.later ∧ s.later ≤ 1000000) (hd : s.done.length ≤ 1000000) :
    Calls Try.prog 105 #[.pointer (some ⟨g, 0, none⟩), .agg #[.int .i64 h.at_, lv]] W fun e W' => e = .returned (.int .i64 (onM s h)) ∧ Below W.heap.size W W' := by
  obtain ⟨hat1, hat2⟩ := hat
  obtain ⟨hl1, hl2⟩ := hl
  obtain ⟨da, dc, hdv⟩ := ownsRow_sliceX hw.down
  subst hdv
  have hN : Below W.heap.size W (W.alloc (.cells #[.int .i64 h.at_, lv] 46)) := (Below.refl _ _).alloc (Nat.le_refl _) _
  have hw2 := hw.step hN
  have c1 := hw2.four.c1
  have c3 := hw2.four.c3
  have TN := twoAt_new W h.at_ lv 46
  obtain ⟨⟨t0, _⟩, _⟩ := TN
  have HN := hid hN
  have HE := hid (show onM s h = h.at_ - 1 + s.later - (s.done.length : Int) from rfl)
  rw [unhid HE]
  clear hw hw2 hN
  go_enter Try.func105, Try.ntmps105
  go_wp2_with fail
  generalize W.alloc (.cells #[.int .i64 h.at_, lv] 46) = W1 at *
  go_quiet (fail)
  go_wp2_with fail
  go_ret
  exact ⟨rfl, ⟨(unhid HN).os, (unhid HN).tape, (unhid HN).output, (unhid HN).size, (unhid HN).block⟩⟩

set_option maxRecDepth 100000 in
set_option maxHeartbeats 4000000 in
theorem stand_any (g : Nat) (ls old : List ByteArray) (a b : Option Addr) (cap cap2 : Nat) (on : Int) (W : World) (hc : W.cell? ⟨g, 0, none⟩ = some (.slice a ls.length cap)) (hx : ls.length ≤ 1000000) (hcap : ls.length ≤ cap) (hy : old.length ≤ 1000000) (ho : -1000000 ≤ on ∧ on ≤ 1000000) (h : TxtsAt W a ls) (h2 : TxtsAt W b old) :
    Calls Try.prog 106 #[.pointer (some ⟨g, 0, none⟩), .int .i64 on, .slice b old.length cap2] W fun e W' => e = .returned (.bool (standB ls on old)) ∧ Below W.heap.size W W' := by
  obtain ⟨ho1, ho2⟩ := ho
  by_cases h0 : on < 0
  · have E := hid (show standB ls on old = false by unfold standB; rw [decide_eq_false (by omega)]; rfl)
    go_enter Try.func106, Try.ntmps106
    go_wp2_with fail
    go_ret
    exact ⟨by rw [unhid E]; rfl, Below.refl _ _⟩
  by_cases h1 : (ls.length : Int) < on + (old.length : Int)
  · have E := hid (show standB ls on old = false by unfold standB; rw [decide_eq_false (show ¬ (on + (old.length : Int) ≤ (ls.length : Int)) by omega)]; simp)
    go_enter Try.func106, Try.ntmps106
    go_wp2_with fail
    go_ret
    exact ⟨by rw [unhid E]; rfl, Below.refl _ _⟩
  obtain ⟨k, rfl⟩ : ∃ k : Nat, on = (k : Int) := ⟨on.toNat, by omega⟩
  have hl : k + old.length ≤ ls.length := by omega
  have E := hid (show standB ls (k : Int) old = decide ((ls.drop k).take old.length = old) by unfold standB; rw [decide_eq_true (show (0 : Int) ≤ (k : Int) by omega), decide_eq_true (show (k : Int) + (old.length : Int) ≤ (ls.length : Int) by omega)]; rfl)
  have s1 := fun w => sub_lh a ls.length cap k (k + old.length) (by omega) (by omega) w
  have SE := slicesEqual_any ((ls.drop k).take old.length) old (subA a cap k) b (cap - k) cap2 W (by rw [part_len _ _ _ hl]; unfold maxLen; omega) (by unfold maxLen; omega) (h.part hcap k old.length) h2
  rw [part_len _ _ _ hl] at SE
  have HSE := hid SE
  have e1 : (((k + old.length : Nat)) : Int) = (k : Int) + (old.length : Int) := by omega
  rw [e1, show k + old.length - k = old.length by omega] at s1
  clear SE h h2 h0 e1
  go_enter Try.func106, Try.ntmps106
  go_wp2_with fail
  refine (unhid HSE).mono ?_
  rintro r W1 ⟨rfl, hb⟩
  rw [← unhid E]
  have HB := hid hb
  clear hb HSE
  go_wp2_with fail
  go_ret
  exact ⟨rfl, unhid HB⟩
end Go.Proofs.Ytedimkcnemhhpaa

/- Data in memory of its own: by the list of its blocks. What is written over other blocks leaves it as it was. -/
namespace Go.Proofs.Ytedimkcnemhhpaa
open Go.RowKit

/-- Nothing changes but blocks of a list. -/
structure Only (F : List Nat) (w w' : World) : Prop where
  os : w'.os = w.os
  tape : w'.tape = w.tape
  output : w'.output = w.output
  size : w.heap.size ≤ w'.heap.size
  block : ∀ k, k < w.heap.size → k ∉ F → w'.heap[k]? = w.heap[k]?
theorem Only.refl (F : List Nat) (w : World) : Only F w w := ⟨rfl, rfl, rfl, Nat.le_refl _, fun _ _ _ => rfl⟩
theorem Only.trans {F : List Nat} {a b c : World} (h : Only F a b) (k : Only F b c) : Only F a c :=
  ⟨k.os.trans h.os, k.tape.trans h.tape, k.output.trans h.output, Nat.le_trans h.size k.size, fun i hi hn => (k.block i (Nat.lt_of_lt_of_le hi h.size) hn).trans (h.block i hi hn)⟩
theorem Only.mono {F G : List Nat} {a b : World} (h : Only F a b) (hs : ∀ k ∈ F, k ∈ G) : Only G a b :=
  ⟨h.os, h.tape, h.output, h.size, fun i hi hn => h.block i hi (fun e => hn (hs i e))⟩
theorem Only.ofBelow {F : List Nat} {a b : World} (h : Below a.heap.size a b) : Only F a b := ⟨h.os, h.tape, h.output, h.size, fun i hi _ => h.block i hi⟩
theorem Only.setCell {F : List Nat} {a b : World} (h : Only F a b) {p : Addr} (hp : p.block ∈ F) (v : Value) : Only F a (b.setCell p v) :=
  ⟨h.os, h.tape, h.output, by simpa using h.size, fun i hi hn => (Below.heap_setCell _ _ _ _ (fun e => hn (by rw [e]; exact hp))).trans (h.block i hi hn)⟩
/-- Nothing changes but blocks from N on, ahead of M. -/
structure OnlyIn (N M : Nat) (w w' : World) : Prop where
  os : w'.os = w.os
  tape : w'.tape = w.tape
  output : w'.output = w.output
  size : w.heap.size ≤ w'.heap.size
  block : ∀ k, k < w.heap.size → (k < N ∨ M ≤ k) → w'.heap[k]? = w.heap[k]?
theorem Only.inside {F : List Nat} {N M : Nat} {a b : World} (h : Only F a b) (hF : ∀ k ∈ F, N ≤ k ∧ k < M) : OnlyIn N M a b :=
  ⟨h.os, h.tape, h.output, h.size, fun i hi hn => h.block i hi (fun e => by have := hF i e; omega)⟩
theorem OnlyIn.below {w0 w w' : World} {N M : Nat} (h : OnlyIn N M w w') (hb : Below w0.heap.size w0 w) (hN : w0.heap.size ≤ N) : Below w0.heap.size w0 w' :=
  ⟨h.os.trans hb.os, h.tape.trans hb.tape, h.output.trans hb.output, Nat.le_trans hb.size h.size, fun k hk => (h.block k (Nat.lt_of_lt_of_le hk hb.size) (by omega)).trans (hb.block k hk)⟩

/-- A kind of data in memory of its own. -/
structure Kind where
  D : Type
  own : World → Value → D → List Nat → Prop
  frame : ∀ {W W' : World} {v : Value} {d : D} {F : List Nat}, own W v d F → (∀ k ∈ F, W'.heap[k]? = W.heap[k]?) → own W' v d F
  lt : ∀ {W : World} {v : Value} {d : D} {F : List Nat}, own W v d F → ∀ k ∈ F, k < W.heap.size
def Kind.In (K : Kind) (W : World) (v : Value) (d : K.D) (N M : Nat) : Prop := ∃ F, K.own W v d F ∧ ∀ k ∈ F, N ≤ k ∧ k < M
theorem Kind.In.below {K : Kind} {W W' : World} {v : Value} {d : K.D} {N M : Nat} (h : K.In W v d N M) (hb : Below W.heap.size W W') : K.In W' v d N M := by
  obtain ⟨F, h1, h2⟩ := h
  exact ⟨F, K.frame h1 (fun k hk => hb.block k (K.lt h1 k hk)), h2⟩
theorem Kind.In.wide {K : Kind} {W : World} {v : Value} {d : K.D} {N M N2 M2 : Nat} (h : K.In W v d N M) (hN : N2 ≤ N) (hM : M ≤ M2) : K.In W v d N2 M2 := by
  obtain ⟨F, h1, h2⟩ := h
  exact ⟨F, h1, fun k hk => by have := h2 k hk; omega⟩
theorem Kind.In.spare {K : Kind} {W W' : World} {v : Value} {d : K.D} {N M N2 M2 : Nat} (h : K.In W v d N M) (ho : OnlyIn N2 M2 W W') (hd : M ≤ N2 ∨ M2 ≤ N) : K.In W' v d N M := by
  obtain ⟨F, h1, h2⟩ := h
  exact ⟨F, K.frame h1 (fun k hk => ho.block k (K.lt h1 k hk) (by have := h2 k hk; omega)), h2⟩
end Go.Proofs.Ytedimkcnemhhpaa

/- Lines that hunks are being done to, by the program: kept; a hunk found and done. -/
namespace Go.Proofs.Ytedimkcnemhhpaa
open Go.RowKit Go.Shelf

set_option maxRecDepth 100000 in
set_option maxHeartbeats 4000000 in
theorem keep_any (w W : World) (g k : Nat) (s : PSt) (ra : Option Addr) (rc : Nat) (dv fv : Value) (h : Wk w W g s ra rc dv fv) (hk : k ≤ s.rest.length) (hl : s.rest.length ≤ 1000000) (hd : s.done.length ≤ 1000000) :
    Calls Try.prog 65 #[.pointer (some ⟨g, 0, none⟩), .int .i64 (k : Int)] W fun e W' => ∃ u, e = .returned u ∧ ∃ dv', Wk w W' g ⟨s.done ++ s.rest.take k, s.rest.drop k, s.far, s.later⟩ (subA ra rc k) (rc - k) dv' fv ∧ Only (g :: dv.ownBlock.toList) W W' := by
  obtain ⟨da, dc, hdv⟩ := ownsRow_sliceX h.down
  subst hdv
  have HON := hid (Only.ofBelow (F := g :: (Value.slice da s.done.length dc).ownBlock.toList) (drew_belowX (B := W.heap.size) W))
  have HH := hid (h.step (drew_belowX W))
  have htk := hid (show (s.rest.take k).length = k by rw [List.length_take]; omega)
  clear h
  go_enter Try.func65, Try.ntmps65
  go_wp2_with fail
  have hba : ∀ {q : Prop}, (CW (fun w' => Below w.heap.size w w') → q) ↔ q := CW.all (Below.refl _ w)
  refine held_begin (fun w' => Below w.heap.size w w') (by kernel_rfl) (unhid HH).below ?_
  refine held_here [true, true, true, true, false, true, true, true, true] (by kernel_rfl) (by kernel_rfl) (fun _ _ _ _ _ h => h) (unhid HH).below ?_
  dsimp only [pick]
  repeat (go_big_quiet_step (fail))
  refine wpQuiet_nil ?_
  clear hba
  generalize W.drew = W1 at HH HON ⊢
  have c1 := (unhid HH).four.c1
  refine held_both_call 4 9 94 8 13 (enters_of Try.func94 (by kernel_rfl) rfl) (.slice da s.done.length dc) #[.pointer (some ⟨g, 0, none⟩), .int .i64 (k : Int)] (by kernel_rfl) (by kernel_rfl) (by kernel_rfl) (by kernel_rfl) rfl rfl (by kernel_rfl) (by kernel_rfl) rfl rfl rfl rfl rfl rfl (unhid HH).below (by go_simp) ?_
  refine (take_any w W1 g k s ra rc _ fv (unhid HH) hk).mono ?_
  rintro e W2 ⟨rfl, hW2⟩
  have HH2 := hid ((unhid HH).took hk)
  rw [← hW2] at HH2
  have HON2 := hid ((unhid HON).setCell (p := ⟨g, 0, none⟩) (by simp) (.slice (subA ra rc k) (s.rest.length - k) (rc - k)))
  rw [← hW2] at HON2
  have c1' := (unhid HH2).four.c1
  have HR := hid (unhid HH).rest
  have HNIL := hid (unhid HH).rnil
  clear c1 HH hW2
  refine ⟨_, rfl, (unhid HH2).below, by go_simp, ?_⟩
  clear c1'
  simp only [Act.put, List.setIfInBounds_toArray, List.set_cons_zero, List.set_cons_succ]
  have hwl := (unhid HH2).below.size
  have HRA := hid ((unhid HR).below (unhid HH2).below)
  refine held_app 10 14 w.heap.size (.slice da s.done.length dc) s.done (s.rest.take k) ra rc (by kernel_rfl) (by kernel_rfl) rfl rfl rfl rfl rfl (by rw [unhid htk]; rfl) (unhid HH2).down ((unhid HRA).head k) (unhid HNIL) (by rw [unhid htk]; omega) hwl ?_
  intro v' W' hown hg hat
  obtain ⟨t4, hB', HW'⟩ := (unhid HH2).app hown hg hat
  refine ⟨hB', ?_⟩
  simp only [Act.put, List.setIfInBounds_toArray, List.set_cons_zero, List.set_cons_succ]
  obtain ⟨va, vc, hv⟩ := ownsRow_sliceX hown
  subst hv
  have HF := hid HW'
  have HON3 := hid (show Only (g :: (Value.slice da s.done.length dc).ownBlock.toList) W (W'.setCell ⟨g, 1, none⟩ (.slice va (s.done ++ s.rest.take k).length vc)) from ((unhid HON2).trans ⟨hg.os, hg.tape, hg.output, hg.size, fun i hi hn => hg.block i hi (fun e => hn (by rw [← e]; simp))⟩).setCell (p := ⟨g, 1, none⟩) (by simp) _)
  have f1 := t4.f1
  have c1 := t4.c1
  clear hown hg hat HW' t4
  have hba : ∀ {q : Prop}, (CW (fun w' => Below w.heap.size w w') → q) ↔ q := CW.all (Below.refl _ w)
  refine held_here [false, false, false, false, false, false, false, false, false, false, false, true, true] (by kernel_rfl) (by kernel_rfl) (fun _ _ _ _ _ h => h) hB' ?_
  dsimp only [pick]
  repeat (go_big_quiet_step (fail))
  refine wpQuiet_nil ?_
  clear hba
  refine held_op 13 (by kernel_rfl) (by kernel_rfl) rfl (fun K hK => ?_)
  go_simp
  have HF2 := hid (show ∃ dv', Wk w (W'.setCell ⟨g, 1, none⟩ (.slice va (s.done ++ s.rest.take k).length vc)) g ⟨s.done ++ s.rest.take k, s.rest.drop k, s.far, s.later⟩ (subA ra rc k) (rc - k) dv' fv ∧ Only (g :: (Value.slice da s.done.length dc).ownBlock.toList) W (W'.setCell ⟨g, 1, none⟩ (.slice va (s.done ++ s.rest.take k).length vc)) from ⟨_, unhid HF, unhid HON3⟩)
  simp only [List.length_append, unhid htk] at HF2
  refine hK.out _ _ (by obtain ⟨_, hh, _⟩ := unhid HF2; exact hh.below) ?_
  clear hK K f1 c1 hB' HF
  refine held_done (by kernel_rfl) ?_
  go_wp2_with fail
  exact bodyPost_end (results_none rfl _ _ _) rfl ⟨_, rfl, unhid HF2⟩

set_option maxRecDepth 100000 in
set_option maxHeartbeats 4000000 in
theorem find_any (w W : World) (g : Nat) (s : PSt) (ra : Option Addr) (rc : Nat) (dv fv : Value) (h : Hk) (la : Option Addr) (cap : Nat) (hw : Wk w W g s ra rc dv fv) (hat : -10000 ≤ h.at_ ∧ h.at_ ≤ 10000) (hl : -10000 ≤ s.later ∧ s.later ≤ 10000) (hd : s.done.length ≤ 10000) (hr : s.rest.length ≤ 10000) (hlen : h.lines.length ≤ 10000) (hz : ∀ x ∈ h.lines, 0 < x.size ∧ x.size ≤ maxLen) (ht : TxtsAt W la h.lines) :
    Calls Try.prog 92 #[.pointer (some ⟨g, 0, none⟩), .agg #[.int .i64 h.at_, .slice la h.lines.length cap]] W fun e W' => e = .returned (.tuple #[.int .i64 ((tryM s h).getD 0), .bool (tryM s h).isSome]) ∧ Below W.heap.size W W' := by
  have hol : (oldL h).length ≤ h.lines.length := withX_len _ _
  have hon : -40000 ≤ onM s h ∧ onM s h ≤ 40000 := by obtain ⟨a1, a2⟩ := hat; obtain ⟨a3, a4⟩ := hl; unfold onM; omega
  obtain ⟨on1, on2⟩ := hon
  have HW := hid hw
  have HT := hid ht
  have HZ := hid hz
  have HAT := hid hat
  have HLT := hid hl
  have TN := hid (twoAt_new W h.at_ (.slice la h.lines.length cap) 46)
  have HN := hid (show Below W.heap.size W (W.alloc (.cells #[.int .i64 h.at_, .slice la h.lines.length cap] 46)) from (Below.refl _ _).alloc (Nat.le_refl _) _)
  have HTM := hid (show tryM s h = findFrom (fun t => standB s.rest t (oldL h)) (onM s h) 9 0 from rfl)
  clear hw ht hz hat hl
  obtain ⟨⟨t0, _⟩, t1, _⟩ := unhid TN
  go_enter Try.func92, Try.ntmps92
  go_wp2_with fail
  refine (elderLines_any h la cap _ (by omega) (unhid HZ) ((unhid HT).below (unhid HN))).mono ?_
  rintro e W2 ⟨ov, rfl, ho, hb⟩
  have hlt : W.heap.size < (W.alloc (.cells #[.int .i64 h.at_, .slice la h.lines.length cap] 46)).heap.size := by simp
  have TN2 := hid ((unhid TN).below hb hlt)
  have HB2 := hid ((unhid HN).trans (hb.mono (unhid HN).size))
  have HO2 := hid ho
  clear hb ho t0 t1 TN HN hlt
  obtain ⟨⟨t0, _⟩, t1, _⟩ := unhid TN2
  obtain ⟨oa, oc, hov⟩ := ownsRow_sliceX (unhid HO2)
  subst hov
  go_wp2_with fail
  refine (lookedFor_any w W2 g s ra rc dv fv h (.slice la h.lines.length cap) ((unhid HW).step (unhid HB2)) (by have := unhid HAT; omega) (by have := unhid HLT; omega) (by omega)).mono ?_
  rintro e W3 ⟨rfl, hb⟩
  have HB3 := hid ((unhid HB2).trans (hb.mono (unhid HB2).size))
  have HO3 := hid (show TxtsAt W3 oa (oldL h) by
    obtain ⟨_, a', c', hv, ht2, _⟩ := txts_owns (unhid HO2)
    injection hv with e1 e2 e3
    subst e1
    exact ht2.below hb)
  clear hb t0 t1 TN2 HO2 HB2
  have HOL := hid (show (withX 45 h.lines).length = (oldL h).length from rfl)
  rw [unhid HOL]
  have HW3 := hid ((unhid HW).step (unhid HB3))
  generalize onM s h = on at *
  go_wp2_with fail
  go_loopw [14] (fun i wr => ∃ k : Nat, k ≤ 9 ∧ i = .int .i64 (k : Int) ∧ Hid (tryM s h = findFrom (fun t => standB s.rest t (oldL h)) on (9 - k) k) ∧ Hid (Below W3.heap.size W3 wr)) (fun i _ => 9 - (intOf i).toNat)
  case atStart => exact ⟨0, by omega, rfl, HTM, hid (Below.refl _ _)⟩
  case round =>
    obtain ⟨k, hk, rfl, HK, HBr⟩ := hrel
    by_cases hlt : k < 9
    · have HW4 := hid ((unhid HW3).step (unhid HBr))
      have HO4 := hid ((unhid HO3).below (unhid HBr))
      have c0 := (unhid HW4).four.c0
      have HST := hid (show tryM s h = if standB s.rest (on - (k : Int)) (oldL h) then some (-(k : Int)) else if standB s.rest (on + (k : Int)) (oldL h) then some (k : Int) else findFrom (fun t => standB s.rest t (oldL h)) on (9 - (k + 1)) (k + 1) by
        rw [unhid HK, show 9 - k = (9 - (k + 1)) + 1 by omega]; rfl)
      go_wp2_with fail
      refine (stand_any g s.rest (oldL h) ra oa rc oc (on - (k : Int)) wr c0 (by omega) (unhid HW4).rcap (by omega) (by omega) ((unhid HW4).rest.below (unhid HW4).below) (unhid HO4)).mono ?_
      rintro e W5 ⟨rfl, hb⟩
      have HB5 := hid ((unhid HBr).trans (hb.mono (unhid HBr).size))
      have HW5 := hid ((unhid HW4).step hb)
      have HO5 := hid ((unhid HO4).below hb)
      clear hb HW4 HO4 HBr c0
      cases hs1 : standB s.rest (on - (k : Int)) (oldL h)
      · have HST2 := hid (show tryM s h = if standB s.rest (on + (k : Int)) (oldL h) then some (k : Int) else findFrom (fun t => standB s.rest t (oldL h)) on (9 - (k + 1)) (k + 1) by rw [unhid HST, hs1]; rfl)
        clear hs1 HST
        have c0 := (unhid HW5).four.c0
        go_wp2_with fail
        refine (stand_any g s.rest (oldL h) ra oa rc oc (on + (k : Int)) W5 c0 (by omega) (unhid HW5).rcap (by omega) (by omega) ((unhid HW5).rest.below (unhid HW5).below) (unhid HO5)).mono ?_
        rintro e W6 ⟨rfl, hb⟩
        have HB6 := hid ((unhid HB5).trans (hb.mono (unhid HB5).size))
        clear hb HW5 HO5 HB5 c0
        cases hs2 : standB s.rest (on + (k : Int)) (oldL h)
        · have HST3 := hid (show tryM s h = findFrom (fun t => standB s.rest t (oldL h)) on (9 - (k + 1)) (k + 1) by rw [unhid HST2, hs2]; rfl)
          clear hs2 HST2
          go_wp2_with fail
          go_roundw
          case rel => exact ⟨k + 1, by omega, by go_num, HST3, HB6⟩
          case measure => simp [intOf]; omega
        · have HST3 := hid (show tryM s h = some (k : Int) by rw [unhid HST2, hs2]; rfl)
          clear hs2 HST2
          go_wp2_with fail
          go_ret2
          exact ⟨by rw [unhid HST3]; rfl, (unhid HB3).trans ((unhid HB6).mono (unhid HB3).size)⟩
      · have HST2 := hid (show tryM s h = some (-(k : Int)) by rw [unhid HST, hs1]; rfl)
        clear hs1 HST
        go_wp2_with fail
        go_ret2
        exact ⟨by rw [unhid HST2]; rfl, (unhid HB3).trans ((unhid HB5).mono (unhid HB3).size)⟩
    · have e : k = 9 := by omega
      subst e
      have E := hid (show tryM s h = none by rw [unhid HK]; rfl)
      go_wp2_with fail
      go_ret2
      exact ⟨by rw [unhid E]; rfl, (unhid HB3).trans ((unhid HBr).mono (unhid HB3).size)⟩
end Go.Proofs.Ytedimkcnemhhpaa

/- What the laws write over a text to see whose it is. -/
namespace Go.Proofs.Ytedimkcnemhhpaa
open Go.RowKit Go.Shelf

/-- The figures of a number, ahead of others. -/
def mdig : Nat → Nat → List UInt8 → List UInt8
  | 0, _, acc => acc
  | f + 1, k, acc => if k = 0 then acc else mdig f (k / 10) (UInt8.ofNat (48 + k % 10) :: acc)
def mtext (k : Nat) : ByteArray := ⟨(109 :: mdig 20 k []).toArray⟩
theorem mdig_step (f k : Nat) (acc : List UInt8) (hk : 0 < k) : mdig (f + 1) k acc = mdig f (k / 10) (UInt8.ofNat (48 + k % 10) :: acc) := by
  rw [mdig, if_neg (by omega)]
theorem mdig_zero (f : Nat) (acc : List UInt8) : mdig f 0 acc = acc := by cases f <;> simp [mdig]

theorem ba_cons (c : UInt8) (l : List UInt8) : (⟨#[c]⟩ : ByteArray) ++ ⟨l.toArray⟩ = ⟨(c :: l).toArray⟩ := by
  apply ByteArray.ext
  simp [ByteArray.data_append]
theorem conv_one (w : World) (q : Nat) : Sem.run Try.prog (convert 41 9 (.slice (some ⟨w.heap.size, 0, none⟩) 1 1)) (w.alloc (.cells #[.int .u8 (48 + (q : Int) % 10)] 5)) = .ok (.string ⟨#[UInt8.ofNat (48 + q % 10)]⟩) (w.alloc (.cells #[.int .u8 (48 + (q : Int) % 10)] 5)) := by
  refine run_convert_bytes_back (P := Try.prog) _ 41 9 5 ⟨w.heap.size, 0, none⟩ 1 [UInt8.ofNat (48 + q % 10)] (by kernel_rfl) (by kernel_rfl) (by kernel_rfl) (fun j hj => ?_)
  have : j = 0 := by simpa using hj
  subst this
  have h1 := (cell_new_l w (.int .u8 (48 + (q : Int) % 10)) 5).1
  have h2 : (UInt8.ofNat (48 + q % 10)).toNat = 48 + q % 10 := by simp; omega
  simp only [List.getElem_cons_zero, h2]
  have e : ((⟨w.heap.size, 0, none⟩ : Addr).add 0) = ⟨w.heap.size, 0, none⟩ := rfl
  rw [e, h1]; rfl

set_option maxRecDepth 100000 in
set_option maxHeartbeats 1000000 in
theorem markText_any (k : Nat) (w : World) (hk : 0 < k) (hk2 : k < 100000000) :
    Calls Try.prog 59 #[.int .i64 (k : Int)] w fun x w' => x = .returned (.string (mtext k)) ∧ Below w.heap.size w w' := by
  go_enter Try.func59, Try.ntmps59
  go_wp2_with fail
  go_loopw [0, 3] (fun c o wr => ∃ (f q : Nat) (l : List UInt8), Hid (q < 10 ^ f) ∧ q < 100000000 ∧ l.length + f ≤ 20 ∧ c = .int .i64 (q : Int) ∧ o = .string ⟨l.toArray⟩ ∧ Hid (mdig f q l = mdig 20 k []) ∧ Below w.heap.size w wr) (fun c _ _ => (intOf c).toNat)
  case atStart => exact ⟨20, k, [], hid (by omega), hk2, by simp, rfl, rfl, hid rfl, Below.refl _ _⟩
  case round =>
    obtain ⟨f, q, l, hq, hq2, hl, rfl, rfl, HD, hB⟩ := hrel
    by_cases h0 : 0 < q
    · obtain ⟨f, rfl⟩ : ∃ g, f = g + 1 := ⟨f - 1, by have : f ≠ 0 := (by rintro rfl; have := unhid hq; omega)
                                                     omega⟩
      have hcv := conv_one wr q
      have HS := hid (mdig_step f q l h0)
      have HB := hid ((hB.alloc hB.size (.cells #[.int .u8 (48 + (q : Int) % 10)] 5)))
      go_wp2_with fail
      go_roundw
      case rel =>
        refine ⟨f, q / 10, UInt8.ofNat (48 + q % 10) :: l, hid (by have := unhid hq; rw [Nat.pow_succ] at this; omega), by omega, by simp; omega, by go_num, ?_, hid (by rw [← unhid HS]; exact unhid HD), unhid HB⟩
        rw [ba_cons]
        simp
      case measure => simp [intOf]; omega
    · have e : q = 0 := by omega
      subst e
      go_wp2_with fail
      go_ret
      refine ⟨?_, hB⟩
      have := unhid HD
      rw [mdig_zero] at this
      unfold mtext
      rw [← this, ba_cons]
      rfl

theorem markText_at (c : Int) (k : Nat) (w : World) (hc : c = (k : Int)) (hk : 0 < k) (hk2 : k < 100000000) :
    Calls Try.prog 59 #[.int .i64 c] w fun x w' => x = .returned (.string (mtext k)) ∧ Below w.heap.size w w' := by subst hc; exact markText_any k w hk hk2
theorem grownBy_below {w w' w'' : World} {row : Option Nat} (h : w.grownBy w' row) (hb : Below w'.heap.size w' w'') : w.grownBy w'' row :=
  ⟨hb.os.trans h.os, hb.tape.trans h.tape, hb.output.trans h.output, Nat.le_trans h.size hb.size, fun k hk hr => (hb.block k (Nat.lt_of_lt_of_le hk h.size)).trans (h.block k hk hr)⟩
theorem grown_setCell {w w' : World} {g : Nat} (h : w.grownBy w' (some g)) (o : Nat) (v : Value) : w.grownBy (w'.setCell ⟨g, o, .none⟩ v) (some g) :=
  ⟨h.os, h.tape, h.output, by simpa using h.size, fun k hk hr => (Below.heap_setCell _ _ _ _ (fun e => hr (by have e' : k = g := e; rw [e']))).trans (h.block k hk hr)⟩
theorem ret_int {k : IntKind} {a b : Int} (h : a = b) : Ending.returned (.int k a) = .returned (.int k b) := by rw [h]
end Go.Proofs.Ytedimkcnemhhpaa
