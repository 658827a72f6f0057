/- What a name of a pattern wants, byte by byte, as the program reads it. -/
import Derived.Test.YtiggojpepgbcoaaGlobWant
import Derived.Maps.AppendAt
namespace Go.Proofs.Ytiggojpepgbcoaa
open Go.RowKit Go.Shelf

theorem firstR_le {s : ByteArray} {x : W8} {n : Nat} (h0 : 0 < s.size) (h : firstR s s[0] = some (x, n)) : 1 ≤ n ∧ n ≤ s.size := by
  unfold firstR at h
  split at h
  · cases h; omega
  · split at h
    · cases h; omega
    · split at h
      · unfold classR at h
        split at h
        · cases h
        · split at h
          · cases h
          · rename_i hi _
            cases h
            obtain ⟨i, ei⟩ : ∃ i : Nat, Lib.indexByte s.data.toList 93 = i := ⟨(Lib.indexByte s.data.toList 93).toNat, by omega⟩
            have hil : i < s.size := by rw [Lib.size_eq]; exact (cutB_some 93 _ i ei).1
            rw [ei]; simp; omega
      · split at h
        · cases h; omega
        · cases h

def wantsF : Nat → ByteArray → Option (List W8)
  | 0, s => if s.size = 0 then some [] else none
  | f + 1, s => if h : 0 < s.size then
      match firstR s s[0] with
      | none => none
      | some (x, n) => (wantsF f (s.extract n s.size)).map (x :: ·)
    else some []
def wants (s : ByteArray) : Option (List W8) := wantsF s.size s
theorem wantsF_any : ∀ (f g : Nat) (s : ByteArray), s.size ≤ f → s.size ≤ g → wantsF f s = wantsF g s := by
  intro f
  induction f with
  | zero =>
    intro g s hf _
    have h0 : s.size = 0 := by omega
    cases g with
    | zero => rfl
    | succ g => unfold wantsF; rw [if_pos h0, dif_neg (by omega)]
  | succ f ih =>
    intro g s hf hg
    by_cases h0 : 0 < s.size
    · cases g with
      | zero => omega
      | succ g =>
        unfold wantsF
        rw [dif_pos h0, dif_pos h0]
        cases hr : firstR s s[0] with
        | none => rfl
        | some p =>
          obtain ⟨x, n⟩ := p
          have hn := firstR_le h0 hr
          show (wantsF f (s.extract n s.size)).map _ = (wantsF g (s.extract n s.size)).map _
          rw [ih g _ (by rw [ByteArray.size_extract]; omega) (by rw [ByteArray.size_extract]; omega)]
    · cases g with
      | zero => unfold wantsF; rw [dif_neg h0, if_pos (by omega)]
      | succ g => unfold wantsF; rw [dif_neg h0, dif_neg h0]
theorem wants_nil {s : ByteArray} (h : s.size = 0) : wants s = some [] := by
  unfold wants; rw [h]; unfold wantsF; rw [if_pos h]
theorem wants_none {s : ByteArray} (h0 : 0 < s.size) (h : firstR s s[0] = none) : wants s = none := by
  unfold wants
  rw [wantsF_any s.size (s.size + 1) s (Nat.le_refl _) (Nat.le_succ _)]
  unfold wantsF
  rw [dif_pos h0, h]
theorem wants_some {s : ByteArray} {x : W8} {n : Nat} (h0 : 0 < s.size) (h : firstR s s[0] = some (x, n)) : wants s = (wants (s.extract n s.size)).map (x :: ·) := by
  have hn := firstR_le h0 h
  unfold wants
  rw [wantsF_any s.size (s.size + 1) s (Nat.le_refl _) (Nat.le_succ _)]
  show wantsF (s.size + 1) s = _
  rw [wantsF, dif_pos h0, h]
  show (wantsF s.size (s.extract n s.size)).map _ = _
  rw [wantsF_any s.size (s.extract n s.size).size _ (by rw [ByteArray.size_extract]; omega) (Nat.le_refl _)]

/-- Wants that the program keeps in a row. -/
def Wants (W : World) (base : Nat) (v : Value) (xs : List W8) : Prop :=
  ∃ cells, W.ownsRow base 71 2 v xs.length cells ∧ ∀ i x, xs[i]? = some x → ∃ run fv, cells[2 * i]? = some (.bool run) ∧ cells[2 * i + 1]? = some fv ∧ WantIs W (fun b => base ≤ b ∧ v.ownBlock ≠ some b) x run fv
theorem wants_row_nil (W : World) (base : Nat) : Wants W base (.slice none 0 0) [] := ⟨[], World.ownsRow_nil _ _ _ _, fun i x h => by simp at h⟩
def lenOf : Value → Nat
  | .string x => x.size
  | _ => 0
theorem ownsRow_sh {W : World} {base : Nat} {e : TypeId} {size : Nat} {v : Value} {n : Nat} {xs : List Value} (h : W.ownsRow base e size v n xs) : ∃ a cap, v = .slice a n cap := by
  rcases h.2 with ⟨rfl, rfl⟩ | ⟨g, cap, cur, rfl, _⟩
  · exact ⟨none, 0, rfl⟩
  · exact ⟨_, _, rfl⟩
theorem ownsRow_below {w w' : World} {base : Nat} {e : TypeId} {size : Nat} {v : Value} {n : Nat} {xs : List Value} (h : w.ownsRow base e size v n xs) (hb : Below w.heap.size w w') : w'.ownsRow base e size v n xs := by
  refine ⟨h.1, ?_⟩
  rcases h.2 with h1 | ⟨g, cap, cur, h1, h2, h3, h4⟩
  · exact .inl h1
  · refine .inr ⟨g, cap, cur, h1, h2, ?_, h4⟩
    rw [hb.block g (Array.getElem?_eq_some_iff.1 h3).1]; exact h3
theorem cells_two_new (W : World) (u v : Value) (t : TypeId) (B : Nat) (hB : B = W.heap.size) : ∀ (j : Nat) x, [u, v][j]? = some x → (W.alloc (.cells #[u, v] t)).cell? ((⟨B, 0, none⟩ : Addr).add j) = some x := by
  subst hB
  obtain ⟨c0, c1, -, -⟩ := cell_two_l W u v t
  intro j x hj
  match j with
  | 0 => simp at hj; subst hj; exact c0
  | 1 => simp at hj; subst hj; exact c1
  | j + 2 => simp at hj
theorem infoWant : (Try.prog.info? 71).map (fun i => (i.zero, i.size, i.bytes)) = some (some (.agg #[.bool false, .nilFunc]), 2, 16) := by kernel_rfl

/-- One want more in the row. -/
theorem below_push {w wr w1 w2 : World} {o o' : Obj} {v : Value} (hB : Below w.heap.size w wr) (hB1 : Below wr.heap.size wr w1) (hgrow : ((w1.alloc o).alloc o').grownBy w2 v.ownBlock) (hv : ∀ g, v.ownBlock = some g → w.heap.size ≤ g) : Below w.heap.size w w2 := by
  have h1 := (((hB.trans (hB1.mono hB.size)).alloc (Nat.le_trans hB.size hB1.size) o).alloc (by have := hB.size; have := hB1.size; simp; omega) o')
  exact h1.grown hgrow h1.size hv
theorem wants_push {wr w1 w2 : World} {o o' : Obj} {base : Nat} {v v' : Value} {xs : List W8} {cells : List Value} {x : W8} {run : Bool} {fv : Value}
    (h : ∀ i x, xs[i]? = some x → ∃ run fv, cells[2 * i]? = some (.bool run) ∧ cells[2 * i + 1]? = some fv ∧ WantIs wr (fun b => base ≤ b ∧ v.ownBlock ≠ some b) x run fv)
    (hl : cells.length = xs.length * 2) (hbase : base ≤ wr.heap.size) (hv : ∀ g, v.ownBlock = some g → g < wr.heap.size) (hB1 : Below wr.heap.size wr w1) (hx : WantIs w1 (fun b => wr.heap.size ≤ b) x run fv)
    (hgrow : ((w1.alloc o).alloc o').grownBy w2 v.ownBlock) (hat : v'.ownBlock = v.ownBlock ∨ ∃ g, v'.ownBlock = some g ∧ w1.heap.size ≤ g) :
    ∀ i y, (xs ++ [x])[i]? = some y → ∃ run' fv', (cells ++ [.bool run, fv])[2 * i]? = some (.bool run') ∧ (cells ++ [.bool run, fv])[2 * i + 1]? = some fv' ∧ WantIs w2 (fun b => base ≤ b ∧ v'.ownBlock ≠ some b) y run' fv' := by
  have hW : Below w1.heap.size w1 ((w1.alloc o).alloc o') := ((Below.refl _ w1).alloc (Nat.le_refl _) _).alloc (by simp) _
  have hs1 := hB1.size
  have hs2 := hW.size
  have hs3 := hgrow.size
  have far : ∀ b, b < w1.heap.size → v.ownBlock ≠ some b → w2.heap[b]? = w1.heap[b]? := fun b hb hne => (hgrow.block b (by omega) (by intro e; first | exact hne e | exact hne e.symm)).trans (hW.block b hb)
  intro i y hi
  by_cases hlt : i < xs.length
  · rw [List.getElem?_append_left hlt] at hi
    obtain ⟨r, f, h1, h2, h3⟩ := h i y hi
    refine ⟨r, f, by rw [List.getElem?_append_left (by omega)]; exact h1, by rw [List.getElem?_append_left (by omega)]; exact h2, ?_⟩
    refine h3.kept (by omega) (fun b hb hlb => (far b (by omega) hb.2).trans (hB1.block b hlb)) (fun b hb hlb => ⟨hb.1, ?_⟩)
    rcases hat with e | ⟨g, e, hg⟩
    · rw [e]; exact hb.2
    · rw [e]; intro e'; cases e'; omega
  · rw [List.getElem?_append_right (by omega)] at hi
    have hi0 : i = xs.length := by
      have := (List.getElem?_eq_some_iff.1 hi).1
      simp at this; omega
    subst hi0
    simp at hi
    subst hi
    refine ⟨run, fv, by rw [List.getElem?_append_right (by omega), show 2 * xs.length - cells.length = 0 by omega]; rfl, by rw [List.getElem?_append_right (by omega), show 2 * xs.length + 1 - cells.length = 1 by omega]; rfl, ?_⟩
    refine hx.kept (by omega) (fun b hb hlb => far b hlb (fun e => by have := hv b e; omega)) (fun b hb hlb => ⟨by omega, ?_⟩)
    rcases hat with e | ⟨g, e, hg⟩
    · rw [e]; intro e'; have := hv b e'; omega
    · rw [e]; intro e'; cases e'; omega

set_option maxRecDepth 100000 in
set_option maxHeartbeats 4000000 in
theorem byteWants_any (s : ByteArray) (hs : s.size ≤ 1048576) (w : World) :
    Calls Try.prog 47 #[.string s] w fun e W' => ∃ v, e = .returned (.tuple #[v, .bool ((wants s).any fun l => !l.isEmpty)]) ∧ (∃ a l c, v = .slice a l c) ∧ (∀ xs, wants s = some xs → Wants W' w.heap.size v xs) ∧ Below w.heap.size w W' := by
  go_enter Try.func47, Try.ntmps47
  obtain ⟨i0, hi, hz0, hz1, hz2⟩ := info_parts infoWant
  go_wp2_with fail
  go_loopw [4, 5, 6, 7, 8] (fun v r _ _ _ wr => ∃ (xs : List W8) (rest : ByteArray) (cells : List Value) (ad : Option Addr) (cap : Nat), v = .slice ad xs.length cap ∧ r = .string rest ∧ rest.size + xs.length ≤ s.size ∧ Hid (wants s = (wants rest).map (xs ++ ·)) ∧
      wr.ownsRow w.heap.size 71 2 (.slice ad xs.length cap) xs.length cells ∧ Hid (∀ i x, xs[i]? = some x → ∃ run fv, cells[2 * i]? = some (.bool run) ∧ cells[2 * i + 1]? = some fv ∧ WantIs wr (fun b => w.heap.size ≤ b ∧ (Value.slice ad xs.length cap).ownBlock ≠ some b) x run fv) ∧ Below w.heap.size w wr)
    (fun _ r _ _ _ _ => lenOf r)
  case atStart => exact ⟨[], s, [], none, 0, rfl, rfl, by simp, hid (by simp), World.ownsRow_nil _ _ _ _, hid (fun i x h => by simp at h), Below.refl _ _⟩
  case round =>
    obtain ⟨xs, rest, cells, ad, cap, rfl, rfl, hlen, hw, hown, hwants, hB⟩ := hrel
    have HO := hid hown
    have HB := hid hB
    clear hown hB
    by_cases h0 : 0 < rest.size
    · have he : rest.toList.isEmpty = false := by
        rw [Lib.toList_data, List.isEmpty_eq_false_iff, ← List.length_pos_iff, ← Lib.size_eq]; exact h0
      have rz : rest.size ≤ maxLen := by unfold maxLen; omega
      go_wp2_with fail
      refine (firstWant_any rest rz h0 _).mono ?_
      rintro e w1 ⟨run, fv, sz, ok, rfl, hR, hb⟩
      have HR := hid hR
      have HB1 := hid hb
      clear hR hb
      cases hr : firstR rest rest[0] with
      | none =>
        have hR := unhid HR
        rw [hr] at hR
        obtain ⟨rfl, rfl, rfl, rfl⟩ := hR
        have E := hid (show wants s = none by rw [unhid hw, wants_none h0 hr]; rfl)
        go_wp2_with fail
        go_ret2
        refine ⟨.slice none 0 0, by rw [unhid E]; rfl, ⟨_, _, _, rfl⟩, (fun ys h => by rw [unhid E] at h; cases h), ?_⟩
        exact ((unhid HB).trans ((unhid HB1).mono (unhid HB).size)).alloc (by have := (unhid HB).size; have := (unhid HB1).size; omega) _
      | some p =>
        obtain ⟨x, n⟩ := p
        have hn := firstR_le h0 hr
        have hR := unhid HR
        rw [hr] at hR
        obtain ⟨rfl, rfl, hW⟩ := hR
        have HW := hid hW
        have HS := hid (wants_some h0 hr)
        clear hW hr HR
        have hn1 : (n : Int) ≤ rest.size := by omega
        have hoc : fv.oneCell' = true := by rcases (unhid HW).form with rfl | ⟨f, ca, rfl⟩ <;> rfl
        have HO1 := hid ((ownsRow_below (unhid HO) (unhid HB1)).alloc (.cells #[.bool run, fv] 71))
        have hbase : w.heap.size ≤ w1.heap.size := Nat.le_trans (unhid HB).size (unhid HB1).size
        rcases (unhid HW).form with rfl | ⟨f, ca, rfl⟩
        all_goals
          go_wp2_with (at_builtin; refine wpList_append_own_at _ rfl _ _ 58 rfl w.heap.size 71 i0 (.agg #[.bool false, .nilFunc]) 2 16 Try.underlying58 hi hz0 hz1 hz2 rfl (by decide) _ _ _ rfl ((unhid HO1).alloc _) ⟨w1.heap.size + 1, 0, none⟩ 1 1 [.bool run, _] rfl rfl (cells_two_new _ _ _ _ _ (by simp)) ?c2 ?c3 ?c4 ?c5 ?_)
          case c2 => intro u hu; simp at hu; rcases hu with rfl | rfl <;> rfl
          case c3 => unfold maxLen; omega
          case c4 => omega
          case c5 => simp; omega
          intro v' w2 hown' hgrow _ hat
          obtain ⟨ad', cap', rfl⟩ := ownsRow_sh hown'
          have hP := wants_push (unhid hwants) (unhid HO).1 (unhid HB).size (fun g e => ((unhid HO).lt g e).2) (unhid HB1) (unhid HW) hgrow (hat.imp id fun e => ⟨_, e, by omega⟩)
          have HP := hid hP
          have HO2 := hid hown'
          have HB2 := hid (below_push (unhid HB) (unhid HB1) hgrow (fun g e => ((unhid HO).lt g e).1))
          clear hP hown' hgrow hat
          go_wp2_with fail
          go_roundw
          case rel => exact ⟨xs ++ [x], rest.extract n rest.size, cells ++ [.bool run, _], ad', cap', by simp, rfl, by simp [ByteArray.size_extract]; omega, hid (by rw [unhid hw, unhid HS]; simp [Option.map_map, Function.comp_def]), by simpa using unhid HO2, hid (by simpa using unhid HP), unhid HB2⟩
          case measure => simp [lenOf, ByteArray.size_extract]; omega
    · have he : rest.toList.isEmpty = true := by
        rw [Lib.toList_data, List.isEmpty_iff, ← List.length_eq_zero_iff, ← Lib.size_eq]; omega
      have E := hid (show wants s = some xs by rw [unhid hw, wants_nil (by omega)]; simp)
      have hxs : ((xs.length : Int) > 0) ∨ xs.length = 0 := by omega
      go_wp2_with fail
      go_ret2
      refine ⟨.slice ad xs.length cap, by rw [unhid E]; cases xs <;> rfl, ⟨_, _, _, rfl⟩, (fun ys h => ?_), unhid HB⟩
      rw [unhid E] at h
      cases h
      exact ⟨cells, unhid HO, unhid hwants⟩
end Go.Proofs.Ytiggojpepgbcoaa
