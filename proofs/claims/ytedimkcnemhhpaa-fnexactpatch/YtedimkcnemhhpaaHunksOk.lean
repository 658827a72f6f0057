/- Whether hunks are ok, by the program. -/
import Derived.Test.YtedimkcnemhhpaaHunkOk
namespace Go.Proofs.Ytedimkcnemhhpaa
open Go.RowKit Go.Shelf

def hkFn (hs : List Hk) (i : Nat) : Hk := hs.getD i ⟨0, []⟩
theorem hkFn_get {hs : List Hk} {i : Nat} {h : Hk} (e : hs[i]? = some h) : hkFn hs i = h := by unfold hkFn; rw [List.getD_eq_getElem?_getD, e]; rfl
def endH (h : Hk) : Int := h.at_ + (withX 45 h.lines).length
def lst (hs : List Hk) : Nat → Int
  | 0 => 1
  | k + 1 => endH (hkFn hs k)
def okAt (hs : List Hk) (i : Nat) : Bool := hkB (hkFn hs i) && decide (lst hs i ≤ (hkFn hs i).at_)
def hunksB (hs : List Hk) : Bool := (List.range hs.length).all (okAt hs) && decide ((hs.length : Int) ≤ 4)
theorem lst_pos (hs : List Hk) : ∀ k, (List.range k).all (okAt hs) = true → 1 ≤ lst hs k
  | 0, _ => by simp [lst]
  | k + 1, h => by
    rw [List.range_succ, List.all_append, Bool.and_eq_true] at h
    have ih := lst_pos hs k h.1
    have h2 := h.2
    simp only [List.all_cons, List.all_nil, Bool.and_true, okAt, Bool.and_eq_true, decide_eq_true_eq] at h2
    show 1 ≤ endH (hkFn hs k)
    unfold endH
    omega
theorem no_hunks {hs : List Hk} {k : Nat} (hk : k < hs.length) (h : okAt hs k = false) : hunksB hs = false := by
  unfold hunksB; rw [List.all_eq_false.2 ⟨k, List.mem_range.2 hk, by simp [h]⟩]; rfl
theorem all_snocH {hs : List Hk} {k : Nat} (ha : (List.range k).all (okAt hs) = true) (h : okAt hs k = true) : (List.range (k + 1)).all (okAt hs) = true := by rw [List.range_succ, List.all_append, ha]; simp [h]
theorem ownsRow_sliceX {W : World} {base : Nat} {e : TypeId} {size : Nat} {v : Value} {n : Nat} {xs : List Value} (h : W.ownsRow base e size v n xs) : ∃ a cap, v = .slice a n cap := by
  rcases h.2 with ⟨rfl, rfl⟩ | ⟨g, cap, cur, rfl, _⟩
  · exact ⟨_, _, rfl⟩
  · exact ⟨_, _, rfl⟩
theorem hkB_parts {h : Hk} (x : hkB h = true) : h.at_ ≤ 999 ∧ h.lines.length ≤ 30 ∧ linesB h.lines = true := by
  unfold hkB at x
  simp only [Bool.and_eq_true, decide_eq_true_eq] at x
  exact ⟨x.1, x.2.2.1, x.2.2.2⟩

set_option maxRecDepth 100000 in
set_option maxHeartbeats 4000000 in
theorem HunksOk_any (hs : List Hk) (a : Option Addr) (cap : Nat) (w : World) (hlen : hs.length ≤ maxLen) (hz : bigH hs) (h : HksAt w a hs) :
    Calls Try.prog 18 #[.slice a hs.length cap] w fun e w' => e = .returned (.bool (hunksB hs)) ∧ Below w.heap.size w w' := by
  unfold maxLen at hlen
  have HZ := hid hz
  have HH := hid h
  clear hz h
  go_enter Try.func18, Try.ntmps18
  go_wp2_with fail
  go_loopw [3, 8] (fun l i wr => ∃ k : Nat, k ≤ hs.length ∧ i = .int .i64 k ∧ l = .int .i64 (lst hs k) ∧ Hid ((List.range k).all (okAt hs) = true) ∧ Below w.heap.size w wr) (fun _ i _ => hs.length - (intOf i).toNat)
  case atStart => exact ⟨0, Nat.zero_le _, rfl, rfl, hid rfl, Below.refl _ _⟩
  case round =>
    obtain ⟨k, hk, rfl, rfl, hall, hB⟩ := hrel
    by_cases hlt : k < hs.length
    · obtain ⟨e, he⟩ : ∃ e, hs[k]? = some e := ⟨hs[k], List.getElem?_eq_getElem hlt⟩
      obtain ⟨b, o, rfl, hbl, hc⟩ := (unhid HH).get (by intro e; subst e; simp at hlt)
      obtain ⟨la, lc, c0, c1, ht⟩ := (hc k e he).below hB hbl
      obtain ⟨z1, z2⟩ := unhid HZ e (List.mem_of_getElem? he)
      have HF := hid (hkFn_get he)
      have HP := hid (lst_pos hs k (unhid hall))
      have HB := hid hB
      have HT := hid ht
      have Z1 := hid z1
      have Z2 := hid z2
      have HN := hid (fun x => no_hunks (hs := hs) hlt x)
      have hok : okAt hs k = (hkB e && decide (lst hs k ≤ e.at_)) := by unfold okAt; rw [unhid HF]
      have HOk := hid hok
      have HE := hid (show lst hs (k + 1) = endH e by show endH (hkFn hs k) = _; rw [unhid HF])
      have HW := hid (show Below wr.heap.size wr (wr.alloc (.cells #[.int .i64 e.at_, .slice la e.lines.length lc] 46)) from (Below.refl _ wr).alloc (Nat.le_refl _) _)
      have TW := hid (twoAt_new wr e.at_ (.slice la e.lines.length lc) 46)
      have hsz : wr.heap.size < (wr.alloc (.cells #[.int .i64 e.at_, .slice la e.lines.length lc] 46)).heap.size := by simp
      have HSZ := hid hsz
      clear hc hB he ht z1 z2 hok hsz
      generalize lst hs k = L at *
      by_cases hL : e.at_ < L
      · have E := hid (unhid HN (by rw [unhid HOk, decide_eq_false (by omega), Bool.and_false]))
        go_wp2_with fail
        go_ret
        exact ⟨by rw [unhid E]; rfl, (unhid HB).trans ((unhid HW).mono (unhid HB).size)⟩
      · go_wp2_with fail
        refine (hunkOk_any e la lc _ (unhid Z2) (unhid Z1) ((unhid HT).below (unhid HW))).mono ?_
        rintro r w2 ⟨rfl, hb⟩
        have HW2 := hid ((unhid HW).trans (hb.mono (unhid HW).size))
        have TW2 := hid ((unhid TW).below hb (unhid HSZ))
        have HSZ2 := hid (Nat.lt_of_lt_of_le (unhid HSZ) hb.size)
        clear hb HW TW HSZ c0 c1
        cases hx : hkB e
        · have E := hid (unhid HN (by rw [unhid HOk, hx]; rfl))
          go_wp2_with fail
          go_ret
          exact ⟨by rw [unhid E]; rfl, (unhid HB).trans ((unhid HW2).mono (unhid HB).size)⟩
        · have hall2 := hid (all_snocH (unhid hall) (by rw [unhid HOk, hx, decide_eq_true (by omega)]; rfl))
          obtain ⟨y1, y2, y3⟩ := hkB_parts hx
          have HY := hid (fun x hx => And.intro (linesB_pos y3 x hx) (unhid Z1 x hx))
          have y4 : (withX 45 e.lines).length ≤ 30 := Nat.le_trans (withX_len _ _) y2
          have y5 := unhid HP
          clear y3 hx
          obtain ⟨⟨d0, _⟩, d1, _⟩ := unhid TW2
          have HEn := hid (show endH e = e.at_ + (withX 45 e.lines).length from rfl)
          go_wp2_with fail
          go_region_with (go_at_call 49; refine (elderLines_any e la lc _ (by omega) (unhid HY) ((unhid HT).below ((unhid HW2).trans (drew_belowX _)))).mono ?_; rintro r w3 ⟨v, rfl, ho, hb⟩; obtain ⟨va, vc, rfl⟩ := ownsRow_sliceX ho; have HW3 := hid (((unhid HW2).trans (drew_belowX _)).trans (hb.mono (unhid HW2).size)); obtain ⟨⟨d0, _⟩, d1, _⟩ := ((unhid TW2).below (drew_belowX (B := w2.heap.size) w2) (unhid HSZ2)).below hb (unhid HSZ2); clear hb ho)
          all_goals
            go_wp2_with fail
            go_roundw
            case rel => exact ⟨k + 1, by omega, by go_num, by rw [unhid HE, unhid HEn], hall2, (unhid HB).trans ((unhid HW3).mono (unhid HB).size)⟩
            case measure => simp [intOf]; omega
    · have e : k = hs.length := by omega
      subst e
      have E := hid (show hunksB hs = decide ((hs.length : Int) ≤ 4) by unfold hunksB; rw [unhid hall, Bool.true_and])
      go_wp2_with fail
      go_ret
      exact ⟨by rw [unhid E]; rfl, hB⟩
end Go.Proofs.Ytedimkcnemhhpaa
