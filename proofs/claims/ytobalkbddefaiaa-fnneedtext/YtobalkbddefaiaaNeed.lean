/- What is a need, by the program and by its model. -/
import Derived.Test.YtobalkbddefaiaaPack
namespace Go.Proofs.Ytobalkbddefaiaa
open Go.RowKit

/-- Kind and version go together. -/
def askB (k : Int) (v : List UInt8) : Bool := if k = 0 then v.isEmpty else (decide (1 ≤ k) && decide (k ≤ 3)) && versOk v
def needB (n : List UInt8) (k : Int) (v : List UInt8) : Bool := packB n && askB k v

/-- What the function value is that a need asks by. -/
def AskFn (W : World) (base : Nat) (k : Int) (fv : Value) (v : List UInt8) : Prop :=
  (k = 0 ∧ fv = .func (.func 54) #[] #[]) ∨
  ∃ (id b : Nat) (vv : Value), (k = 1 ∧ id = 55 ∨ k = 2 ∧ id = 57 ∨ k = 3 ∧ id = 59) ∧ fv = .func (.func id) #[] #[.pointer (some ⟨b, 0, none⟩)] ∧ base ≤ b ∧ b < W.heap.size ∧ W.cell? ⟨b, 0, none⟩ = some vv ∧ Vers W base vv (versL v)

theorem askB_1 (v : List UInt8) : askB 1 v = versOk v := by simp [askB]
theorem askB_2 (v : List UInt8) : askB 2 v = versOk v := by simp [askB]
theorem askB_3 (v : List UInt8) : askB 3 v = versOk v := by simp [askB]
theorem ask_mk (w w1 : World) (k : Int) (id : Nat) (vv : Value) (v : List UInt8) (t : TypeId) (hk : k = 1 ∧ id = 55 ∨ k = 2 ∧ id = 57 ∨ k = 3 ∧ id = 59) (hz : w.heap.size + 1 ≤ w1.heap.size) {B : Nat}
    (ho : w1.ownsRow B 3 1 vv (versL v).length ((versL v).map (Value.int .i64))) (hb : w.heap.size ≤ B) : AskFn (w1.alloc (.cells #[vv] t)) w.heap.size k (.func (.func id) #[] #[.pointer (some ⟨w1.heap.size, 0, none⟩)]) v :=
  .inr ⟨id, w1.heap.size, vv, hk, rfl, by omega, by simp, (cell_new_l w1 vv t).1, (vers_of (versL_ne v) (ownsRow_base ho hb)).below ((Below.refl _ w1).alloc (Nat.le_refl _) _)⟩

set_option maxRecDepth 100000 in
set_option maxHeartbeats 2000000 in
theorem askOf_any (n v : ByteArray) (k : Int) (hv : v.size ≤ maxLen) (w : World) :
    Calls Try.prog 34 #[.agg #[.string n, .int .i64 k, .string v]] w fun e W' => ∃ fv, e = .returned (.tuple #[fv, .bool (askB k v.data.toList)]) ∧ (askB k v.data.toList = true → AskFn W' w.heap.size k fv v.data.toList) ∧ Below w.heap.size w W' := by
  by_cases k0 : k = 0
  · subst k0
    have E := hid (show askB 0 v.data.toList = v.toList.isEmpty by rw [Lib.toList_data]; simp [askB])
    go_enter Try.func34, Try.ntmps34
    go_wp2
    go_quiet (fail)
    go_wp2
    go_ret2
    refine ⟨.func (.func 54) #[] #[], by rw [unhid E]; rfl, (fun _ => .inl ⟨rfl, rfl⟩), ?_⟩
    exact ⟨rfl, rfl, rfl, by simp, fun j hj => Below.heap_alloc w _ j hj⟩
  · have k0' : (k == 0) = false := by rw [beq_eq_false_iff_ne]; exact k0
    have hB0 : Below w.heap.size w (w.alloc (.cells #[.string n, .int .i64 k, .string v] 30)) := (Below.refl _ w).alloc (Nat.le_refl _) _
    have HB0 := hid hB0
    clear hB0
    have fcell : ∀ w1 : World, Below (w.alloc (.cells #[.string n, .int .i64 k, .string v] 30)).heap.size (w.alloc (.cells #[.string n, .int .i64 k, .string v] 30)) w1 → w1.cell? ⟨w.heap.size, 1, none⟩ = some (.int .i64 k) := fun w1 hb =>
      (hb.cell (p := ⟨w.heap.size, 1, none⟩) (by simp)).trans (by simp [go_sem])
    have Hf := hid fcell
    have hk : k = 1 ∨ k = 2 ∨ k = 3 ∨ (((k == 1) = false ∧ (k == 2) = false ∧ (k == 3) = false) ∧ askB k v.data.toList = false) := by
      by_cases k1 : k = 1
      · exact .inl k1
      · by_cases k2 : k = 2
        · exact .inr (.inl k2)
        · by_cases k3 : k = 3
          · exact .inr (.inr (.inl k3))
          · refine .inr (.inr (.inr ⟨⟨by rw [beq_eq_false_iff_ne]; exact k1, by rw [beq_eq_false_iff_ne]; exact k2, by rw [beq_eq_false_iff_ne]; exact k3⟩, ?_⟩))
            unfold askB
            rw [if_neg k0]
            have : (decide (1 ≤ k) && decide (k ≤ 3)) = false := by simp; omega
            rw [this]; rfl
    clear fcell
    rcases hk with rfl | rfl | rfl | ⟨⟨k1, k2, k3⟩, hask⟩
    all_goals
      go_enter Try.func34, Try.ntmps34
      go_wp2_with fail
      refine (versionOf_any v hv _).mono ?_
      rintro e w1 ⟨vv, rfl, ho, hno, hb⟩
      have hB1 := (unhid HB0).trans (hb.mono (unhid HB0).size)
      have hsh : ∃ a l c, vv = .slice a l c := by
        cases hok : versOk v.data.toList
        · exact ⟨_, _, _, hno hok⟩
        · obtain ⟨a, c, e⟩ := ownsRow_shape (ho hok); exact ⟨_, _, _, e⟩
      have Ho := hid ho
      have HB1 := hid hB1
      have hz1 : w.heap.size + 1 ≤ w1.heap.size := by have := hb.size; simpa using this
      have fc := fun o => cell_alloc_l o (unhid Hf w1 hb)
      obtain ⟨a, l, c, rfl⟩ := hsh
      clear ho hno hb hB1
      go_wp2_with fail
      go_ret2
    · refine ⟨.func (.func 55) #[] #[.pointer (some ⟨w1.heap.size, 0, none⟩)], by rw [askB_1]; rfl, (fun hk => ask_mk w w1 _ _ _ _ _ (.inl ⟨rfl, rfl⟩) hz1 (unhid Ho (by rwa [askB_1] at hk)) (by simp)), (unhid HB1).alloc (unhid HB1).size _⟩
    · refine ⟨.func (.func 57) #[] #[.pointer (some ⟨w1.heap.size, 0, none⟩)], by rw [askB_2]; rfl, (fun hk => ask_mk w w1 _ _ _ _ _ (.inr (.inl ⟨rfl, rfl⟩)) hz1 (unhid Ho (by rwa [askB_2] at hk)) (by simp)), (unhid HB1).alloc (unhid HB1).size _⟩
    · refine ⟨.func (.func 59) #[] #[.pointer (some ⟨w1.heap.size, 0, none⟩)], by rw [askB_3]; rfl, (fun hk => ask_mk w w1 _ _ _ _ _ (.inr (.inr ⟨rfl, rfl⟩)) hz1 (unhid Ho (by rwa [askB_3] at hk)) (by simp)), (unhid HB1).alloc (unhid HB1).size _⟩
    · exact ⟨.nilFunc, by rw [hask]; rfl, (fun hk => by rw [hask] at hk; cases hk), (unhid HB1).alloc (unhid HB1).size _⟩

set_option maxRecDepth 100000 in
set_option maxHeartbeats 2000000 in
theorem NeedOk_any (n v : ByteArray) (k : Int) (hn : n.size ≤ maxLen) (hv : v.size ≤ maxLen) (w : World) :
    Calls Try.prog 16 #[.agg #[.string n, .int .i64 k, .string v]] w fun e W' => e = .returned (.bool (needB n.data.toList k v.data.toList)) ∧ Below w.heap.size w W' := by
  have hB0 : Below w.heap.size w (w.alloc (.cells #[.string n, .int .i64 k, .string v] 30)) := (Below.refl _ w).alloc (Nat.le_refl _) _
  have HB0 := hid hB0
  have fcell : ∀ w1 : World, Below (w.alloc (.cells #[.string n, .int .i64 k, .string v] 30)).heap.size (w.alloc (.cells #[.string n, .int .i64 k, .string v] 30)) w1 → w1.cell? ⟨w.heap.size, 0, none⟩ = some (.string n) := fun w1 hb =>
    (hb.cell (p := ⟨w.heap.size, 0, none⟩) (by simp)).trans (by simp [go_sem])
  have Hf := hid fcell
  clear hB0 fcell
  go_enter Try.func16, Try.ntmps16
  go_wp2_with fail
  refine (askOf_any n v k hv _).mono ?_
  rintro e w1 ⟨fv, rfl, -, hb⟩
  have HB1 := hid ((unhid HB0).trans (hb.mono (unhid HB0).size))
  have fc := unhid Hf w1 hb
  clear hb
  cases ha : askB k v.data.toList
  · have E := hid (show needB n.data.toList k v.data.toList = false by simp [needB, ha])
    go_wp2_with fail
    go_ret
    exact ⟨by rw [unhid E]; rfl, unhid HB1⟩
  · have E := hid (show needB n.data.toList k v.data.toList = packB n.data.toList by simp [needB, ha])
    go_wp2_with fail
    refine (packNameOk_any n hn _).mono ?_
    rintro e w2 ⟨rfl, hb⟩
    rw [← unhid E]
    have HB2 := hid ((unhid HB1).trans (hb.mono (unhid HB1).size))
    clear hb
    go_wp2_with fail
    go_ret
    exact ⟨rfl, unhid HB2⟩

set_option maxRecDepth 100000 in
set_option maxHeartbeats 2000000 in
theorem specNeedOk_any (n v : ByteArray) (k : Int) (hn : n.size ≤ 1048576) (hv : v.size ≤ 1048576) (w : World) :
    Calls Try.prog 17 #[.agg #[.string n, .int .i64 k, .string v]] w fun e W' => e = .returned (.bool (needB n.data.toList k v.data.toList)) ∧ Below w.heap.size w W' := by
  have hnm : n.size ≤ maxLen := by unfold maxLen; omega
  have HB0 := hid (show Below w.heap.size w (w.alloc (.cells #[.string n, .int .i64 k, .string v] 30)) from (Below.refl _ w).alloc (Nat.le_refl _) _)
  cases hp : packB n.data.toList
  · have E := hid (show needB n.data.toList k v.data.toList = false by simp [needB, hp])
    go_enter Try.func17, Try.ntmps17
    go_wp2_with fail
    refine (l3Pack_any n hnm _).mono ?_
    rintro e w1 ⟨rfl, rfl⟩
    rw [hp]
    go_wp2_with fail
    go_ret
    exact ⟨by rw [unhid E]; rfl, unhid HB0⟩
  · by_cases k0 : k = 0
    · subst k0
      cases he : v.toList.isEmpty
      · have E := hid (show needB n.data.toList 0 v.data.toList = false by rw [Lib.toList_data] at he; simp [needB, askB, he])
        have he2 : ¬ v.toList = [] := by intro h; rw [h] at he; cases he
        go_enter Try.func17, Try.ntmps17
        go_wp2_with fail
        refine (l3Pack_any n hnm _).mono ?_
        rintro e w1 ⟨rfl, rfl⟩
        rw [hp]
        go_wp2_with fail
        refine (l1In_any _ _ _ _).mono ?_
        rintro e w1 ⟨rfl, rfl⟩
        go_wp2_with fail
        go_ret
        exact ⟨by rw [unhid E]; rfl, unhid HB0⟩
      · have E := hid (show needB n.data.toList 0 v.data.toList = true by rw [Lib.toList_data] at he; simp [needB, askB, he, hp])
        have he2 : v.toList = [] := List.isEmpty_iff.1 he
        go_enter Try.func17, Try.ntmps17
        go_wp2_with fail
        refine (l3Pack_any n hnm _).mono ?_
        rintro e w1 ⟨rfl, rfl⟩
        rw [hp]
        go_wp2_with fail
        go_ret
        exact ⟨by rw [unhid E]; rfl, unhid HB0⟩
    · have k0' : (k == 0) = false := by rw [beq_eq_false_iff_ne]; exact k0
      cases hr : (decide (1 ≤ k) && decide (k ≤ 3))
      · have E := hid (show needB n.data.toList k v.data.toList = false by unfold needB askB; rw [if_neg k0, hr]; simp)
        have Hr := hid hr
        clear hr k0
        go_enter Try.func17, Try.ntmps17
        go_wp2_with fail
        refine (l3Pack_any n hnm _).mono ?_
        rintro e w1 ⟨rfl, rfl⟩
        rw [hp]
        go_wp2_with fail
        refine (l1In_any _ _ _ _).mono ?_
        rintro e w1 ⟨rfl, rfl⟩
        rw [unhid Hr]
        go_wp2_with fail
        go_ret
        exact ⟨by rw [unhid E]; rfl, unhid HB0⟩
      · have E := hid (show needB n.data.toList k v.data.toList = versOk v.data.toList by unfold needB askB; rw [if_neg k0, hr, hp]; simp)
        have Hr := hid hr
        clear hr k0
        go_enter Try.func17, Try.ntmps17
        go_wp2_with fail
        refine (l3Pack_any n hnm _).mono ?_
        rintro e w1 ⟨rfl, rfl⟩
        rw [hp]
        go_wp2_with fail
        refine (l1In_any _ _ _ _).mono ?_
        rintro e w1 ⟨rfl, rfl⟩
        rw [unhid Hr]
        go_wp2_with fail
        refine (specVersionOk_any v hv _).mono ?_
        rintro e w2 ⟨rfl, hb⟩
        rw [← unhid E]
        have HB1 := hid ((unhid HB0).trans (hb.mono (unhid HB0).size))
        clear hb
        go_wp2_with fail
        go_ret
        exact ⟨rfl, unhid HB1⟩
end Go.Proofs.Ytobalkbddefaiaa
