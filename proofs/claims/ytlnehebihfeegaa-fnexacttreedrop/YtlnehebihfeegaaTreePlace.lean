/- Whether a path has a place in a tree; an entry put at its end. -/
import Derived.Test.YtlnehebihfeegaaTreeMem
namespace Go.Proofs.Ytlnehebihfeegaa
open Go.RowKit Go.Shelf

set_option maxRecDepth 100000 in
set_option maxHeartbeats 4000000 in
theorem isDir_no (w : World) : Calls Try.prog 91 #[.nilIface] w fun x w' => x = .returned (.bool false) ∧ Below w.heap.size w w' := by
  have hta : ∀ w, (Instr.typeAssert .nilIface 63 105 true).run Try.prog w = .ok (.tuple #[.agg #[.int .i64 0], .bool false]) w := fun _ => by kernel_rfl
  go_enter Try.func91, Try.ntmps91
  go_wp2_with fail
  go_ret
  exact ⟨rfl, (Below.refl _ _).alloc (Nat.le_refl _) _⟩
set_option maxRecDepth 100000 in
set_option maxHeartbeats 4000000 in
theorem isDir_node (e : Ent) (w : World) : Calls Try.prog 91 #[nodeV e] w fun x w' => x = .returned (.bool (e.kind == 1)) ∧ Below w.heap.size w w' := by
  by_cases k1 : e.kind = 1
  · rw [show nodeV e = .iface 105 (.agg #[.int .i64 e.mode]) by unfold nodeV; rw [if_pos k1]]
    have hta : ∀ w, (Instr.typeAssert (.iface 105 (.agg #[.int .i64 e.mode])) 63 105 true).run Try.prog w = .ok (.tuple #[.agg #[.int .i64 e.mode], .bool true]) w := fun _ => by kernel_rfl
    rw [k1]
    clear k1
    go_enter Try.func91, Try.ntmps91
    go_wp2_with fail
    go_ret
    exact ⟨rfl, (Below.refl _ _).alloc (Nat.le_refl _) _⟩
  · rw [show (e.kind == 1) = false by simpa using k1]
    by_cases k2 : e.kind = 2
    · rw [show nodeV e = .iface 107 (.agg #[.int .i64 e.mode, .string e.text]) by unfold nodeV; rw [if_neg k1, if_pos k2]]
      have hta : ∀ w, (Instr.typeAssert (.iface 107 (.agg #[.int .i64 e.mode, .string e.text])) 63 105 true).run Try.prog w = .ok (.tuple #[.agg #[.int .i64 0], .bool false]) w := fun _ => by kernel_rfl
      clear k1 k2
      go_enter Try.func91, Try.ntmps91
      go_wp2_with fail
      go_ret
      exact ⟨rfl, (Below.refl _ _).alloc (Nat.le_refl _) _⟩
    · rw [show nodeV e = .iface 102 (.agg #[.string e.text]) by unfold nodeV; rw [if_neg k1, if_neg k2]]
      have hta : ∀ w, (Instr.typeAssert (.iface 102 (.agg #[.string e.text])) 63 105 true).run Try.prog w = .ok (.tuple #[.agg #[.int .i64 0], .bool false]) w := fun _ => by kernel_rfl
      clear k1 k2
      go_enter Try.func91, Try.ntmps91
      go_wp2_with fail
      go_ret
      exact ⟨rfl, (Below.refl _ _).alloc (Nat.le_refl _) _⟩
theorem isDir_get (es : List Ent) (p : ByteArray) (he : p.toList.isEmpty = false) (w : World) : Calls Try.prog 91 #[getV es p] w fun x w' => x = .returned (.bool (dirE es p)) ∧ Below w.heap.size w w' := by
  cases ht : thereE es p
  · rw [show getV es p = .nilIface by unfold getV; rw [ht]; rfl, show dirE es p = false by unfold dirE; rw [he, ht]; rfl]
    exact isDir_no w
  · rw [show getV es p = nodeV (entFn es (placeE es p)) by unfold getV; rw [ht]; rfl, show dirE es p = ((entFn es (placeE es p)).kind == 1) by unfold dirE; rw [he, ht]; simp]
    exact isDir_node _ w

set_option maxRecDepth 100000 in
set_option maxHeartbeats 4000000 in
theorem hasPlace_any (N bt : Nat) (es : List Ent) (p : ByteArray) (w : World) (hp : p.size ≤ maxLen) (hn : es.length ≤ 1000) (ha : Asc (pathsOf es)) (h : TreeAt w N bt es) :
    Calls Try.prog 75 #[.pointer (some ⟨bt, 0, .none⟩), .string p] w fun x w' => x = .returned (.bool (dirE es (pathUpS p))) ∧ Below w.heap.size w w' := by
  have HH := hid h
  have HA := hid ha
  clear h ha
  cases he : (pathUpS p).toList.isEmpty
  · have HE := hid he
    go_enter Try.func75, Try.ntmps75
    go_wp2_with fail
    refine (PathUp_any p hp _).mono ?_
    rintro x w2 ⟨rfl, hb⟩
    have HB := hid hb
    clear hb
    go_wp2_with fail
    refine (mapGet_any N bt es (pathUpS p) w2 hn (unhid HA) ((unhid HH).below (unhid HB))).mono ?_
    rintro x w3 ⟨rfl, hw3⟩
    rw [hw3]
    clear hw3
    have ISD := hid (isDir_get es (pathUpS p) (unhid HE) w2)
    generalize getV es (pathUpS p) = gv at *
    generalize thereE es (pathUpS p) = gt at *
    go_wp2_with fail
    refine (unhid ISD).mono ?_
    rintro x w4 ⟨rfl, hb⟩
    go_wp2_with fail
    go_ret
    exact ⟨rfl, (unhid HB).trans (hb.mono (unhid HB).size)⟩
  · have E := hid (show dirE es (pathUpS p) = true by unfold dirE; rw [he]; rfl)
    go_enter Try.func75, Try.ntmps75
    go_wp2_with fail
    refine (PathUp_any p hp _).mono ?_
    rintro x w2 ⟨rfl, hb⟩
    have HB := hid hb
    clear hb
    go_wp2_with fail
    go_ret
    exact ⟨by rw [unhid E]; rfl, unhid HB⟩
end Go.Proofs.Ytlnehebihfeegaa
