/- What an entry is kept as: a value of an interface with a type for each kind. -/
import Derived.Test.YtlnehebihfeegaaEntTree
namespace Go.Proofs.Ytlnehebihfeegaa
open Go.RowKit Go.Shelf

theorem isLineByte_any (c : Int) (w : World) :
    Calls Try.prog 170 #[.int .u8 c] w fun e w' => e = .returned (.bool (decide (32 ≤ c) && decide (c ≤ 126))) ∧ w' = w := by
  by_cases h1 : 32 ≤ c <;> by_cases h2 : c ≤ 126 <;>
  · go_enter Try.func170, Try.ntmps170
    go_wp2
    go_ret
    exact ⟨by simp [h1, h2], rfl⟩
theorem isTextByte_any (c : Int) (w : World) :
    Calls Try.prog 169 #[.int .u8 c] w fun e w' => e = .returned (.bool (txtB c)) ∧ w' = w := by
  cases h1 : (decide (32 ≤ c) && decide (c ≤ 126)) <;> cases h2 : (c == 10) <;>
  · have E := hid (show txtB c = ((c == 10) || (decide (32 ≤ c) && decide (c ≤ 126))) from rfl)
    go_enter Try.func169, Try.ntmps169
    go_wp2_with (go_at_call 170; refine (isLineByte_any _ _).mono ?_; rintro e w' ⟨rfl, rfl⟩; rw [h1])
    go_ret
    exact ⟨by rw [unhid E, h1, h2]; rfl, rfl⟩
theorem egText : ∀ args w, (callFunc 169 args).run Try.prog w = .ok (.enter 169 args) w := enters_of Try.func169 (by kernel_rfl) rfl
set_option maxRecDepth 100000 in
theorem textOk_any (s : ByteArray) (hs : s.size ≤ maxLen) (w : World) :
    Calls Try.prog 168 #[.string s] w fun e w' => e = .returned (.bool (textB s.data.toList)) ∧ Below w.heap.size w w' := by
  have hs' : s.size ≤ 9223372036854775807 := hs
  by_cases h : (s.size : Int) ≤ 80
  · have E := hid (show (s.data.toList.all fun c => txtB c.toNat) = textB s.data.toList by unfold textB; rw [← Lib.size_eq, decide_eq_true (by omega)]; rfl)
    go_enter Try.func168, Try.ntmps168
    go_wp2_with fail
    refine (allBytes_any 169 txtB egText isTextByte_any s hs _).mono ?_
    rintro e w2 ⟨rfl, hb⟩
    rw [unhid E]
    go_wp2_with fail
    go_ret
    exact ⟨rfl, hb⟩
  · have E := hid (show textB s.data.toList = false by unfold textB; rw [← Lib.size_eq, decide_eq_false (by omega)]; rfl)
    have h' : decide ((s.size : Int) ≤ 80) = false := decide_eq_false h
    go_enter Try.func168, Try.ntmps168
    go_wp2_with fail
    go_ret
    exact ⟨by rw [unhid E]; rfl, Below.refl _ _⟩
theorem modeOk_any (m : Int) (w : World) : Calls Try.prog 166 #[.int .i64 m] w fun e w' => e = .returned (.bool (modeB m)) ∧ w' = w := by
  have E := hid (show modeB m = (decide (0 ≤ m) && decide (m ≤ 7)) from rfl)
  by_cases h1 : 0 ≤ m <;> by_cases h2 : m ≤ 7 <;>
  · go_enter Try.func166, Try.ntmps166
    go_wp2
    go_ret
    exact ⟨by rw [unhid E]; simp [h1, h2], rfl⟩

theorem dirFine_any (m : Int) (w : World) : Calls Try.prog 165 #[.agg #[.int .i64 m]] w fun e w' => e = .returned (.bool (modeB m)) ∧ Below w.heap.size w w' := by
  go_enter Try.func165, Try.ntmps165
  go_wp2_with (go_at_call 166; refine (modeOk_any _ _).mono ?_; rintro e w' ⟨rfl, rfl⟩)
  go_ret
  exact ⟨rfl, (Below.refl _ _).alloc (Nat.le_refl _) _⟩
theorem linkFine_any (t : ByteArray) (ht : t.size ≤ maxLen) (w : World) : Calls Try.prog 164 #[.agg #[.string t]] w fun e w' => e = .returned (.bool (pathB t.data.toList)) ∧ Below w.heap.size w w' := by
  go_enter Try.func164, Try.ntmps164
  go_wp2_with fail
  refine (PathOk_any t ht _).mono ?_
  rintro e w2 ⟨rfl, hb⟩
  go_wp2_with fail
  go_ret
  exact ⟨rfl, ((Below.refl _ _).alloc (Nat.le_refl _) _).trans (hb.mono (by simp))⟩
set_option maxRecDepth 100000 in
theorem fileFine_any (m : Int) (t : ByteArray) (ht : t.size ≤ maxLen) (w : World) : Calls Try.prog 167 #[.agg #[.int .i64 m, .string t]] w fun e w' => e = .returned (.bool (modeB m && textB t.data.toList)) ∧ Below w.heap.size w w' := by
  cases hm : modeB m
  · go_enter Try.func167, Try.ntmps167
    go_wp2_with (go_at_call 166; refine (modeOk_any _ _).mono ?_; rintro e w' ⟨rfl, rfl⟩; rw [hm])
    go_ret
    exact ⟨rfl, (Below.refl _ _).alloc (Nat.le_refl _) _⟩
  · go_enter Try.func167, Try.ntmps167
    go_wp2_with (go_at_call 166; refine (modeOk_any _ _).mono ?_; rintro e w' ⟨rfl, rfl⟩; rw [hm])
    refine (textOk_any t ht _).mono ?_
    rintro e w2 ⟨rfl, hb⟩
    go_wp2_with fail
    go_ret
    exact ⟨rfl, ((Below.refl _ _).alloc (Nat.le_refl _) _).trans (hb.mono (by simp))⟩

theorem upon_run {P : Program} {o : Oper} {a : Act} {K : Act → World → Prop} {E : Exit → Act → World → Prop} {α : Type} {x y : Result α} {f : α → World → Result Next} (h : x = y) (g : Oper.upon P o a K E (y.andThen f)) : Oper.upon P o a K E (x.andThen f) := h ▸ g

def nodeV (e : Ent) : Value := if e.kind = 1 then .iface 105 (.agg #[.int .i64 e.mode]) else if e.kind = 2 then .iface 107 (.agg #[.int .i64 e.mode, .string e.text]) else .iface 102 (.agg #[.string e.text])

set_option maxRecDepth 100000 in
set_option maxHeartbeats 8000000 in
theorem nodeOf_any (e : Ent) (hp : e.path.size ≤ maxLen) (ht : e.text.size ≤ maxLen) (w : World) :
    Calls Try.prog 74 #[.agg e.vals] w fun x w' => (∃ v, x = .returned (.tuple #[v, .bool (entB e)]) ∧ (v = .nilIface ∨ v = nodeV e) ∧ (entB e = true → v = nodeV e)) ∧ Below w.heap.size w w' := by
  obtain ⟨p, k, m, t⟩ := e
  unfold Ent.vals
  dsimp only at hp ht ⊢
  have hB0 : Below w.heap.size w (w.alloc (.cells #[.string p, .int .i64 k, .int .i64 m, .string t] 27)) := (Below.refl _ w).alloc (Nat.le_refl _) _
  have HB0 := hid hB0
  have hz0 : w.heap.size ≤ (w.alloc (.cells #[.string p, .int .i64 k, .int .i64 m, .string t] 27)).heap.size := by simp
  clear hB0
  have hE : entB ⟨p, k, m, t⟩ = (pathB p.data.toList && (if k = 1 then modeB m && t.data.toList.isEmpty else if k = 2 then modeB m && textB t.data.toList else k == 3 && (m == 0 && pathB t.data.toList))) := rfl
  have E := hid hE
  clear hE
  by_cases k1 : k = 1
  · subst k1
    have hnv : nodeV ⟨p, 1, m, t⟩ = .iface 105 (.agg #[.int .i64 m]) := by unfold nodeV; rw [if_pos rfl]
    have HN := hid hnv
    clear hnv
    cases hte : t.toList.isEmpty
    · have hte' : t.data.toList.isEmpty = false := by rw [← Lib.toList_data]; exact hte
      have EE := hid (show entB ⟨p, 1, m, t⟩ = false by rw [unhid E, if_pos rfl, hte']; simp)
      clear hte'
      go_enter Try.func74, Try.ntmps74
      go_wp2_with fail
      go_ret2
      exact ⟨⟨_, by rw [unhid EE]; rfl, .inl rfl, fun h => by rw [unhid EE] at h; cases h⟩, unhid HB0⟩
    · have hte' : t.data.toList.isEmpty = true := by rw [← Lib.toList_data]; exact hte
      have E1 := hid (show entB ⟨p, 1, m, t⟩ = (pathB p.data.toList && modeB m) by rw [unhid E, if_pos rfl, hte', Bool.and_true])
      clear hte'
      cases hpp : pathB p.data.toList
      · have EE := hid (show entB ⟨p, 1, m, t⟩ = false by rw [unhid E1, hpp]; rfl)
        go_enter Try.func74, Try.ntmps74
        go_wp2_with fail
        refine (PathOk_any p hp _).mono ?_
        rintro x w2 ⟨rfl, hb⟩
        rw [hpp]
        have HB := hid ((unhid HB0).trans (hb.mono hz0))
        clear hb
        go_wp2_with fail
        go_ret2
        exact ⟨⟨_, by rw [unhid EE]; rfl, .inr (unhid HN).symm, fun h => by rw [unhid EE] at h; cases h⟩, unhid HB⟩
      · have EE := hid (show entB ⟨p, 1, m, t⟩ = (modeB m) by rw [unhid E1, hpp]; rfl)
        go_enter Try.func74, Try.ntmps74
        go_wp2_with fail
        refine (PathOk_any p hp _).mono ?_
        rintro x w2 ⟨rfl, hb⟩
        rw [hpp]
        have HB := hid ((unhid HB0).trans (hb.mono hz0))
        clear hb
        go_wp2_with fail
        refine upon_run (y := .ok (165, .agg #[.int .i64 m]) w2) (by kernel_rfl) ?_
        go_wp2_with fail
        refine (dirFine_any m w2).mono ?_
        rintro x w3 ⟨rfl, hb⟩
        have HB3 := hid ((unhid HB).trans (hb.mono (unhid HB).size))
        clear hb
        rw [← unhid EE]
        go_wp2_with fail
        go_ret2
        exact ⟨⟨_, rfl, .inr (unhid HN).symm, fun _ => (unhid HN).symm⟩, unhid HB3⟩
  · have k1' : (k == 1) = false := by simpa using k1
    by_cases k2 : k = 2
    · subst k2
      have hnv : nodeV ⟨p, 2, m, t⟩ = .iface 107 (.agg #[.int .i64 m, .string t]) := by unfold nodeV; rw [if_neg (by omega), if_pos rfl]
      have HN := hid hnv
      have E1 := hid (show entB ⟨p, 2, m, t⟩ = (pathB p.data.toList && (modeB m && textB t.data.toList)) by rw [unhid E, if_neg (by omega), if_pos rfl])
      clear hnv
      cases hpp : pathB p.data.toList
      · have EE := hid (show entB ⟨p, 2, m, t⟩ = false by rw [unhid E1, hpp]; rfl)
        go_enter Try.func74, Try.ntmps74
        go_wp2_with fail
        refine (PathOk_any p hp _).mono ?_
        rintro x w2 ⟨rfl, hb⟩
        rw [hpp]
        have HB := hid ((unhid HB0).trans (hb.mono hz0))
        clear hb
        go_wp2_with fail
        go_ret2
        exact ⟨⟨_, by rw [unhid EE]; rfl, .inr (unhid HN).symm, fun h => by rw [unhid EE] at h; cases h⟩, unhid HB⟩
      · have EE := hid (show entB ⟨p, 2, m, t⟩ = (modeB m && textB t.data.toList) by rw [unhid E1, hpp]; rfl)
        go_enter Try.func74, Try.ntmps74
        go_wp2_with fail
        refine (PathOk_any p hp _).mono ?_
        rintro x w2 ⟨rfl, hb⟩
        rw [hpp]
        have HB := hid ((unhid HB0).trans (hb.mono hz0))
        clear hb
        go_wp2_with fail
        refine upon_run (y := .ok (167, .agg #[.int .i64 m, .string t]) w2) (by kernel_rfl) ?_
        go_wp2_with fail
        refine (fileFine_any m t ht w2).mono ?_
        rintro x w3 ⟨rfl, hb⟩
        have HB3 := hid ((unhid HB).trans (hb.mono (unhid HB).size))
        clear hb
        rw [← unhid EE]
        go_wp2_with fail
        go_ret2
        exact ⟨⟨_, rfl, .inr (unhid HN).symm, fun _ => (unhid HN).symm⟩, unhid HB3⟩
    · have k2' : (k == 2) = false := by simpa using k2
      have hnv : nodeV ⟨p, k, m, t⟩ = .iface 102 (.agg #[.string t]) := by unfold nodeV; rw [if_neg k1, if_neg k2]
      have HN := hid hnv
      have E2 := hid (show entB ⟨p, k, m, t⟩ = (pathB p.data.toList && (k == 3 && (m == 0 && pathB t.data.toList))) by rw [unhid E, if_neg k1, if_neg k2])
      clear hnv
      cases k3 : (k == 3)
      · have EE := hid (show entB ⟨p, k, m, t⟩ = false by rw [unhid E2, k3]; simp)
        clear k1 k2
        go_enter Try.func74, Try.ntmps74
        go_wp2_with fail
        go_ret2
        exact ⟨⟨_, by rw [unhid EE]; rfl, .inl rfl, fun h => by rw [unhid EE] at h; cases h⟩, unhid HB0⟩
      · cases m0 : (m == 0)
        · have EE := hid (show entB ⟨p, k, m, t⟩ = false by rw [unhid E2, m0]; simp)
          clear k1 k2
          go_enter Try.func74, Try.ntmps74
          go_wp2_with fail
          go_ret2
          exact ⟨⟨_, by rw [unhid EE]; rfl, .inl rfl, fun h => by rw [unhid EE] at h; cases h⟩, unhid HB0⟩
        · have E1 := hid (show entB ⟨p, k, m, t⟩ = (pathB p.data.toList && pathB t.data.toList) by rw [unhid E2, k3, m0]; rfl)
          clear k1 k2
          cases hpp : pathB p.data.toList
          · have EE := hid (show entB ⟨p, k, m, t⟩ = false by rw [unhid E1, hpp]; rfl)
            go_enter Try.func74, Try.ntmps74
            go_wp2_with fail
            refine (PathOk_any p hp _).mono ?_
            rintro x w2 ⟨rfl, hb⟩
            rw [hpp]
            have HB := hid ((unhid HB0).trans (hb.mono hz0))
            clear hb
            go_wp2_with fail
            go_ret2
            exact ⟨⟨_, by rw [unhid EE]; rfl, .inr (unhid HN).symm, fun h => by rw [unhid EE] at h; cases h⟩, unhid HB⟩
          · have EE := hid (show entB ⟨p, k, m, t⟩ = (pathB t.data.toList) by rw [unhid E1, hpp]; rfl)
            go_enter Try.func74, Try.ntmps74
            go_wp2_with fail
            refine (PathOk_any p hp _).mono ?_
            rintro x w2 ⟨rfl, hb⟩
            rw [hpp]
            have HB := hid ((unhid HB0).trans (hb.mono hz0))
            clear hb
            go_wp2_with fail
            refine upon_run (y := .ok (164, .agg #[.string t]) w2) (by kernel_rfl) ?_
            go_wp2_with fail
            refine (linkFine_any t ht w2).mono ?_
            rintro x w3 ⟨rfl, hb⟩
            have HB3 := hid ((unhid HB).trans (hb.mono (unhid HB).size))
            clear hb
            rw [← unhid EE]
            go_wp2_with fail
            go_ret2
            exact ⟨⟨_, rfl, .inr (unhid HN).symm, fun _ => (unhid HN).symm⟩, unhid HB3⟩
end Go.Proofs.Ytlnehebihfeegaa
