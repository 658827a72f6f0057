/- Where a link leads; where links lead one behind the other. -/
import Derived.Test.YtlnehebihfeegaaTreeGet
namespace Go.Proofs.Ytlnehebihfeegaa
open Go.RowKit Go.Shelf

set_option maxRecDepth 100000 in
set_option maxHeartbeats 4000000 in
theorem linkText_no (e : Ent) (he : entB e = true) (hk : e.kind ≠ 3) (w : World) : Calls Try.prog 43 #[nodeV e] w fun x w' => x = .returned (.tuple #[.string ⟨#[]⟩, .bool false]) ∧ Below w.heap.size w w' := by
  by_cases k1 : e.kind = 1
  · rw [show nodeV e = .iface 105 (.agg #[.int .i64 e.mode]) by unfold nodeV; rw [if_pos k1]]
    have hta : ∀ w, (Instr.typeAssert (.iface 105 (.agg #[.int .i64 e.mode])) 63 102 true).run Try.prog w = .ok (.tuple #[.agg #[.string ⟨#[]⟩], .bool false]) w := fun _ => by kernel_rfl
    clear k1 hk he
    go_enter Try.func43, Try.ntmps43
    go_wp2_with fail
    go_ret2
    exact ⟨rfl, (Below.refl _ _).alloc (Nat.le_refl _) _⟩
  · by_cases k2 : e.kind = 2
    · rw [show nodeV e = .iface 107 (.agg #[.int .i64 e.mode, .string e.text]) by unfold nodeV; rw [if_neg k1, if_pos k2]]
      have hta : ∀ w, (Instr.typeAssert (.iface 107 (.agg #[.int .i64 e.mode, .string e.text])) 63 102 true).run Try.prog w = .ok (.tuple #[.agg #[.string ⟨#[]⟩], .bool false]) w := fun _ => by kernel_rfl
      clear k1 k2 hk he
      go_enter Try.func43, Try.ntmps43
      go_wp2_with fail
      go_ret2
      exact ⟨rfl, (Below.refl _ _).alloc (Nat.le_refl _) _⟩
    · exfalso
      unfold entB at he
      rw [if_neg k1, if_neg k2] at he
      simp only [Bool.and_eq_true, beq_iff_eq] at he
      exact hk he.2.1
set_option maxRecDepth 100000 in
set_option maxHeartbeats 4000000 in
theorem linkText_yes (e : Ent) (hk : e.kind = 3) (w : World) : Calls Try.prog 43 #[nodeV e] w fun x w' => x = .returned (.tuple #[.string e.text, .bool true]) ∧ Below w.heap.size w w' := by
  rw [show nodeV e = .iface 102 (.agg #[.string e.text]) by unfold nodeV; rw [if_neg (by omega), if_neg (by omega)]]
  have hta : ∀ w, (Instr.typeAssert (.iface 102 (.agg #[.string e.text])) 63 102 true).run Try.prog w = .ok (.tuple #[.agg #[.string e.text], .bool true]) w := fun _ => by kernel_rfl
  clear hk
  go_enter Try.func43, Try.ntmps43
  go_wp2_with fail
  go_ret2
  exact ⟨rfl, (Below.refl _ _).alloc (Nat.le_refl _) _⟩

/-- Where links lead from a path, so many places at most. -/
def folE (es : List Ent) : Nat → ByteArray → Option Ent
  | 0, _ => none
  | n + 1, p => if thereE es p then (if (entFn es (placeE es p)).kind = 3 then folE es n (entFn es (placeE es p)).text else some (entFn es (placeE es p))) else none
def folGot : Option Ent → Ent
  | none => noneE
  | some e => e
theorem fol_no {es : List Ent} {p : ByteArray} {n : Nat} (h : thereE es p = false) : folE es n p = none := by
  cases n
  · rfl
  · simp [folE, h]
theorem fol_end {es : List Ent} {p : ByteArray} {n : Nat} {e : Ent} (h : thereE es p = true) (he : es[placeE es p]? = some e) (hk : e.kind ≠ 3) : folE es (n + 1) p = some e := by
  simp [folE, h, entFn_get he, hk]
theorem fol_on {es : List Ent} {p : ByteArray} {n : Nat} {e : Ent} (h : thereE es p = true) (he : es[placeE es p]? = some e) (hk : e.kind = 3) : folE es (n + 1) p = folE es n e.text := by
  simp [folE, h, entFn_get he, hk]
end Go.Proofs.Ytlnehebihfeegaa
