/- What the model calls an entry that is ok, and the place of a path in entries. -/
import Derived.Test.YtlnehebihfeegaaEntEq
namespace Go.Proofs.Ytlnehebihfeegaa
open Go.RowKit Go.Shelf

def txtB (c : Int) : Bool := c == 10 || (decide (32 ≤ c) && decide (c ≤ 126))
def textB (l : List UInt8) : Bool := decide (l.length ≤ 80) && l.all fun c => txtB c.toNat
def modeB (m : Int) : Bool := decide (0 ≤ m) && decide (m ≤ 7)
def entB (e : Ent) : Bool := pathB e.path.data.toList && (if e.kind = 1 then modeB e.mode && e.text.data.toList.isEmpty else if e.kind = 2 then modeB e.mode && textB e.text.data.toList else e.kind == 3 && (e.mode == 0 && pathB e.text.data.toList))

set_option maxRecDepth 100000 in
set_option maxHeartbeats 1000000 in
theorem l2Text_any (s : ByteArray) (hs : s.size ≤ maxLen) (w : World) :
    Calls Try.prog 90 #[.string s] w fun e w' => e = .returned (.bool (textB s.data.toList)) ∧ w' = w := by
  unfold maxLen at hs
  go_enter Try.func90, Try.ntmps90
  go_wp2_with fail
  go_loop [3] (fun i => ∃ k : Nat, k ≤ s.size ∧ i = .int .i64 k ∧ Hid ((s.data.toList.take k).all (fun c => txtB c.toNat) = true)) (fun i => s.size - (intOf i).toNat)
  case atStart => exact ⟨0, Nat.zero_le _, rfl, hid (by simp)⟩
  case round =>
    obtain ⟨k, hk, rfl, hall⟩ := hrel
    by_cases hlt : k < s.size
    · have hstep := hid (all_take_succ s k hlt (fun c => txtB c.toNat))
      have h255 : ((s[k]).toNat : Int) ≤ 255 := by have := UInt8.toNat_lt s[k]; omega
      have h000 : (0 : Int) ≤ (s[k]).toNat := by omega
      cases h10 : (((s[k]).toNat : Int) == 10)
      · cases hb : (decide ((32 : Int) ≤ (s[k]).toNat) && decide (((s[k]).toNat : Int) ≤ 126))
        · have ht : txtB ((s[k]).toNat : Int) = false := by unfold txtB; rw [h10, hb]; rfl
          have h10' : (((s[k]).toNat : Int) != 10) = true := by simp [bne, h10]
          go_wp2_with (go_at_call 89; refine (l1In_any _ _ _ _).mono ?_; rintro e w' ⟨rfl, rfl⟩; rw [hb])
          go_ret
          refine ⟨?_, rfl⟩
          have : (s.data.toList.all fun c => txtB c.toNat) = false := List.all_eq_false.2 ⟨s[k], by have := getByte s k hlt; exact List.mem_of_getElem? this, by simp [ht]⟩
          unfold textB
          rw [this]; simp
        · have ht : txtB ((s[k]).toNat : Int) = true := by unfold txtB; rw [h10, hb]; rfl
          have h10' : (((s[k]).toNat : Int) != 10) = true := by simp [bne, h10]
          go_wp2_with (go_at_call 89; refine (l1In_any _ _ _ _).mono ?_; rintro e w' ⟨rfl, rfl⟩; rw [hb])
          go_round
          case rel => exact ⟨k + 1, by omega, by go_num, hid (by rw [unhid hstep, unhid hall, ht]; rfl)⟩
          case measure => simp [intOf]; omega
      · have ht : txtB ((s[k]).toNat : Int) = true := by unfold txtB; rw [h10]; rfl
        have h10' : (((s[k]).toNat : Int) != 10) = false := by simp [bne, h10]
        go_wp2_with (go_at_call 89; refine (l1In_any _ _ _ _).mono ?_; rintro e w' ⟨rfl, rfl⟩)
        go_round
        case rel => exact ⟨k + 1, by omega, by go_num, hid (by rw [unhid hstep, unhid hall, ht]; rfl)⟩
        case measure => simp [intOf]; omega
    · have E := hid (show textB s.data.toList = decide ((s.size : Int) ≤ 80) by
        have h1 : (s.data.toList.all fun c => txtB c.toNat) = true := by have := unhid hall; rwa [List.take_of_length_le (by simp; omega)] at this
        unfold textB
        rw [h1, Bool.and_true, ← Lib.size_eq]
        exact decide_eq_decide.2 (by omega))
      go_wp2_with fail
      go_ret
      exact ⟨by rw [unhid E]; rfl, rfl⟩

set_option maxRecDepth 100000 in
set_option maxHeartbeats 4000000 in
theorem l2Entry_any (e : Ent) (hp : e.path.size ≤ 1048576) (ht : e.text.size ≤ 1048576) (w : World) :
    Calls Try.prog 58 #[.agg e.vals] w fun x w' => x = .returned (.bool (entB e)) ∧ Below w.heap.size w w' := by
  obtain ⟨p, k, m, t⟩ := e
  unfold Ent.vals
  dsimp only at hp ht ⊢
  have tm : t.size ≤ maxLen := by unfold maxLen; omega
  have hE : entB ⟨p, k, m, t⟩ = (pathB p.data.toList && (if k = 1 then modeB m && t.data.toList.isEmpty else if k = 2 then modeB m && textB t.data.toList else k == 3 && (m == 0 && pathB t.data.toList))) := rfl
  have E := hid hE
  clear hE
  have hB0 : Below w.heap.size w (w.alloc (.cells #[.string p, .int .i64 k, .int .i64 m, .string t] 27)) := (Below.refl _ w).alloc (Nat.le_refl _) _
  have hbx : ∀ j v, (#[Value.string p, .int .i64 k, .int .i64 m, .string t])[j]? = some v → (w.alloc (.cells #[.string p, .int .i64 k, .int .i64 m, .string t] 27)).cell? ⟨w.heap.size, j, .none⟩ = some v := fun j v h => by
    have := World.alloc_heap_new w (.cells #[.string p, .int .i64 k, .int .i64 m, .string t] 27)
    unfold World.cell?; dsimp only; rw [this]; exact h
  have x1 := hid (hbx 1 _ rfl)
  have x2 := hid (hbx 2 _ rfl)
  have x3 := hid (hbx 3 _ rfl)
  have HB0 := hid hB0
  clear hB0 hbx
  have hz : w.heap.size < (w.alloc (.cells #[.string p, .int .i64 k, .int .i64 m, .string t] 27)).heap.size := by simp
  cases hpp : pathB p.data.toList
  · go_enter Try.func58, Try.ntmps58
    go_wp2_with fail
    refine (l1Path_any p hp _).mono ?_
    rintro x w1 ⟨rfl, hb⟩
    rw [hpp]
    have HB1 := hid ((unhid HB0).trans (hb.mono (unhid HB0).size))
    clear hb
    go_wp2_with fail
    go_ret
    exact ⟨by rw [unhid E, hpp]; rfl, unhid HB1⟩
  · have tail : ∀ (R : Bool), (if k = 1 then modeB m && t.data.toList.isEmpty else if k = 2 then modeB m && textB t.data.toList else k == 3 && (m == 0 && pathB t.data.toList)) = R → entB ⟨p, k, m, t⟩ = R := fun R h => by rw [unhid E, hpp, h]; rfl
    have TL := hid tail
    clear tail
    by_cases k1 : k = 1
    · subst k1
      cases hm : (decide ((0 : Int) ≤ m) && decide (m ≤ 7))
      · have EE := hid (unhid TL false (by rw [if_pos rfl]; unfold modeB; rw [hm]; rfl))
        go_enter Try.func58, Try.ntmps58
        go_wp2_with fail
        refine (l1Path_any p hp _).mono ?_
        rintro x w1 ⟨rfl, hb⟩
        rw [hpp]
        have c1 := (hb.cell (p := ⟨w.heap.size, 1, .none⟩) hz).trans (unhid x1)
        have c2 := (hb.cell (p := ⟨w.heap.size, 2, .none⟩) hz).trans (unhid x2)
        have c3 := (hb.cell (p := ⟨w.heap.size, 3, .none⟩) hz).trans (unhid x3)
        have HB1 := hid ((unhid HB0).trans (hb.mono (unhid HB0).size))
        clear hb
        go_wp2_with (go_at_call 89; refine (l1In_any _ _ _ _).mono ?_; rintro e w' ⟨rfl, rfl⟩; rw [hm])
        go_ret
        exact ⟨by rw [unhid EE]; rfl, unhid HB1⟩
      · have EE := hid (unhid TL t.toList.isEmpty (by rw [if_pos rfl]; unfold modeB; rw [hm, Lib.toList_data]; rfl))
        go_enter Try.func58, Try.ntmps58
        go_wp2_with fail
        refine (l1Path_any p hp _).mono ?_
        rintro x w1 ⟨rfl, hb⟩
        rw [hpp]
        have c1 := (hb.cell (p := ⟨w.heap.size, 1, .none⟩) hz).trans (unhid x1)
        have c2 := (hb.cell (p := ⟨w.heap.size, 2, .none⟩) hz).trans (unhid x2)
        have c3 := (hb.cell (p := ⟨w.heap.size, 3, .none⟩) hz).trans (unhid x3)
        have HB1 := hid ((unhid HB0).trans (hb.mono (unhid HB0).size))
        clear hb
        go_wp2_with (go_at_call 89; refine (l1In_any _ _ _ _).mono ?_; rintro e w' ⟨rfl, rfl⟩; rw [hm])
        go_ret
        exact ⟨by rw [unhid EE]; rfl, unhid HB1⟩
    · have k1' : (k == 1) = false := by simpa using k1
      by_cases k2 : k = 2
      · subst k2
        cases hm : (decide ((0 : Int) ≤ m) && decide (m ≤ 7))
        · have EE := hid (unhid TL false (by rw [if_neg (by omega), if_pos rfl]; unfold modeB; rw [hm]; rfl))
          go_enter Try.func58, Try.ntmps58
          go_wp2_with fail
          refine (l1Path_any p hp _).mono ?_
          rintro x w1 ⟨rfl, hb⟩
          rw [hpp]
          have c1 := (hb.cell (p := ⟨w.heap.size, 1, .none⟩) hz).trans (unhid x1)
          have c2 := (hb.cell (p := ⟨w.heap.size, 2, .none⟩) hz).trans (unhid x2)
          have c3 := (hb.cell (p := ⟨w.heap.size, 3, .none⟩) hz).trans (unhid x3)
          have HB1 := hid ((unhid HB0).trans (hb.mono (unhid HB0).size))
          clear hb
          go_wp2_with (go_at_call 89; refine (l1In_any _ _ _ _).mono ?_; rintro e w' ⟨rfl, rfl⟩; rw [hm])
          go_ret
          exact ⟨by rw [unhid EE]; rfl, unhid HB1⟩
        · have EE := hid (unhid TL (textB t.data.toList) (by rw [if_neg (by omega), if_pos rfl]; unfold modeB; rw [hm]; rfl))
          go_enter Try.func58, Try.ntmps58
          go_wp2_with fail
          refine (l1Path_any p hp _).mono ?_
          rintro x w1 ⟨rfl, hb⟩
          rw [hpp]
          have c1 := (hb.cell (p := ⟨w.heap.size, 1, .none⟩) hz).trans (unhid x1)
          have c2 := (hb.cell (p := ⟨w.heap.size, 2, .none⟩) hz).trans (unhid x2)
          have c3 := (hb.cell (p := ⟨w.heap.size, 3, .none⟩) hz).trans (unhid x3)
          have HB1 := hid ((unhid HB0).trans (hb.mono (unhid HB0).size))
          clear hb
          go_wp2_with (first | (go_at_call 89; refine (l1In_any _ _ _ _).mono ?_; rintro e w' ⟨rfl, rfl⟩; rw [hm]) | (go_at_call 90; refine (l2Text_any _ tm _).mono ?_; rintro e w' ⟨rfl, rfl⟩))
          go_ret
          exact ⟨by rw [unhid EE]; rfl, unhid HB1⟩
      · have k2' : (k == 2) = false := by simpa using k2
        cases k3 : (k == 3)
        · have EE := hid (unhid TL false (by rw [if_neg k1, if_neg k2, k3]; rfl))
          go_enter Try.func58, Try.ntmps58
          go_wp2_with fail
          refine (l1Path_any p hp _).mono ?_
          rintro x w1 ⟨rfl, hb⟩
          rw [hpp]
          have c1 := (hb.cell (p := ⟨w.heap.size, 1, .none⟩) hz).trans (unhid x1)
          have HB1 := hid ((unhid HB0).trans (hb.mono (unhid HB0).size))
          clear hb
          go_wp2_with fail
          go_ret
          exact ⟨by rw [unhid EE]; rfl, unhid HB1⟩
        · cases m0 : (m == 0)
          · have EE := hid (unhid TL false (by rw [if_neg k1, if_neg k2, k3, m0]; rfl))
            go_enter Try.func58, Try.ntmps58
            go_wp2_with fail
            refine (l1Path_any p hp _).mono ?_
            rintro x w1 ⟨rfl, hb⟩
            rw [hpp]
            have c1 := (hb.cell (p := ⟨w.heap.size, 1, .none⟩) hz).trans (unhid x1)
            have c2 := (hb.cell (p := ⟨w.heap.size, 2, .none⟩) hz).trans (unhid x2)
            have HB1 := hid ((unhid HB0).trans (hb.mono (unhid HB0).size))
            clear hb
            go_wp2_with fail
            go_ret
            exact ⟨by rw [unhid EE]; rfl, unhid HB1⟩
          · have EE := hid (unhid TL (pathB t.data.toList) (by rw [if_neg k1, if_neg k2, k3, m0]; rfl))
            go_enter Try.func58, Try.ntmps58
            go_wp2_with fail
            refine (l1Path_any p hp _).mono ?_
            rintro x w1 ⟨rfl, hb⟩
            rw [hpp]
            have c1 := (hb.cell (p := ⟨w.heap.size, 1, .none⟩) hz).trans (unhid x1)
            have c2 := (hb.cell (p := ⟨w.heap.size, 2, .none⟩) hz).trans (unhid x2)
            have c3 := (hb.cell (p := ⟨w.heap.size, 3, .none⟩) hz).trans (unhid x3)
            have HB1 := hid ((unhid HB0).trans (hb.mono (unhid HB0).size))
            clear hb
            go_wp2_with fail
            refine (l1Path_any t ht _).mono ?_
            rintro x w2 ⟨rfl, hb⟩
            have HB2 := hid ((unhid HB1).trans (hb.mono (unhid HB1).size))
            clear hb
            go_wp2_with fail
            go_ret
            exact ⟨by rw [unhid EE]; rfl, unhid HB2⟩
end Go.Proofs.Ytlnehebihfeegaa
