/- Whether a path has a place in a tree; an entry put at its end. -/
import Derived.Test.YthbpekcdionbiaaTreeMem
namespace Go.Proofs.Ythbpekcdionbiaa
open Go.RowKit Go.Shelf

set_option maxRecDepth 100000 in
set_option maxHeartbeats 4000000 in
theorem hasPlace_any (N bt : Nat) (es : List Ent) (p : ByteArray) (w : World) (hp : p.size ≤ maxLen) (hn : es.length ≤ 1000) (ha : Asc (pathsOf es)) (h : TreeAt w N bt es) :
    Calls Try.prog 75 #[.pointer (some ⟨bt, 0, .none⟩), .string p] w fun x w' => x = .returned (.bool (dirE es (pathUpS p))) ∧ Below w.heap.size w w' := by
  have HH := hid h
  have HA := hid ha
  clear h ha
  cases he : (pathUpS p).toList.isEmpty
  · cases ht : thereE es (pathUpS p)
    · have E := hid (show dirE es (pathUpS p) = false by unfold dirE; rw [he, ht]; rfl)
      have V := hid (show getV es (pathUpS p) = .nilIface by unfold getV; rw [ht]; rfl)
      have hta : ∀ w, (Instr.typeAssert .nilIface 63 105 true).run Try.prog w = .ok (.tuple #[.agg #[.int .i64 0], .bool false]) w := fun _ => by kernel_rfl
      go_enter Try.func75, Try.ntmps75
      go_wp2_with fail
      refine (PathUp_any p hp _).mono ?_
      rintro x w2 ⟨rfl, hb⟩
      have HB := hid hb
      clear hb
      go_wp2_with fail
      refine (mapGet_any N bt es (pathUpS p) w2 hn (unhid HA) ((unhid HH).below (unhid HB))).mono ?_
      rintro x w3 ⟨rfl, hw3⟩
      rw [hw3, unhid V, ht]
      clear hw3
      go_wp2_with fail
      go_ret
      exact ⟨by rw [unhid E]; rfl, (unhid HB).alloc (unhid HB).size _⟩
    · obtain ⟨e, hek, _⟩ := there_get ht
      have hf := entFn_get hek
      by_cases k1 : e.kind = 1
      · have E := hid (show dirE es (pathUpS p) = true by unfold dirE; rw [he, ht, hf, k1]; rfl)
        have V := hid (show getV es (pathUpS p) = .iface 105 (.agg #[.int .i64 e.mode]) by unfold getV nodeV; rw [ht, hf, if_pos k1]; rfl)
        have hta : ∀ w, (Instr.typeAssert (.iface 105 (.agg #[.int .i64 e.mode])) 63 105 true).run Try.prog w = .ok (.tuple #[.agg #[.int .i64 e.mode], .bool true]) w := fun _ => by kernel_rfl
        clear hek hf k1
        go_enter Try.func75, Try.ntmps75
        go_wp2_with fail
        refine (PathUp_any p hp _).mono ?_
        rintro x w2 ⟨rfl, hb⟩
        have HB := hid hb
        clear hb
        go_wp2_with fail
        refine (mapGet_any N bt es (pathUpS p) w2 hn (unhid HA) ((unhid HH).below (unhid HB))).mono ?_
        rintro x w3 ⟨rfl, hw3⟩
        rw [hw3, unhid V, ht]
        clear hw3
        go_wp2_with fail
        go_ret
        exact ⟨by rw [unhid E]; rfl, (unhid HB).alloc (unhid HB).size _⟩
      · have E := hid (show dirE es (pathUpS p) = false by unfold dirE; rw [he, ht, hf]; simpa using k1)
        by_cases k2 : e.kind = 2
        · have V := hid (show getV es (pathUpS p) = .iface 107 (.agg #[.int .i64 e.mode, .string e.text]) by unfold getV nodeV; rw [ht, hf, if_neg k1, if_pos k2]; rfl)
          have hta : ∀ w, (Instr.typeAssert (.iface 107 (.agg #[.int .i64 e.mode, .string e.text])) 63 105 true).run Try.prog w = .ok (.tuple #[.agg #[.int .i64 0], .bool false]) w := fun _ => by kernel_rfl
          clear hek hf k1 k2
          go_enter Try.func75, Try.ntmps75
          go_wp2_with fail
          refine (PathUp_any p hp _).mono ?_
          rintro x w2 ⟨rfl, hb⟩
          have HB := hid hb
          clear hb
          go_wp2_with fail
          refine (mapGet_any N bt es (pathUpS p) w2 hn (unhid HA) ((unhid HH).below (unhid HB))).mono ?_
          rintro x w3 ⟨rfl, hw3⟩
          rw [hw3, unhid V, ht]
          clear hw3
          go_wp2_with fail
          go_ret
          exact ⟨by rw [unhid E]; rfl, (unhid HB).alloc (unhid HB).size _⟩
        · have V := hid (show getV es (pathUpS p) = .iface 102 (.agg #[.string e.text]) by unfold getV nodeV; rw [ht, hf, if_neg k1, if_neg k2]; rfl)
          have hta : ∀ w, (Instr.typeAssert (.iface 102 (.agg #[.string e.text])) 63 105 true).run Try.prog w = .ok (.tuple #[.agg #[.int .i64 0], .bool false]) w := fun _ => by kernel_rfl
          clear hek hf k1 k2
          go_enter Try.func75, Try.ntmps75
          go_wp2_with fail
          refine (PathUp_any p hp _).mono ?_
          rintro x w2 ⟨rfl, hb⟩
          have HB := hid hb
          clear hb
          go_wp2_with fail
          refine (mapGet_any N bt es (pathUpS p) w2 hn (unhid HA) ((unhid HH).below (unhid HB))).mono ?_
          rintro x w3 ⟨rfl, hw3⟩
          rw [hw3, unhid V, ht]
          clear hw3
          go_wp2_with fail
          go_ret
          exact ⟨by rw [unhid E]; rfl, (unhid HB).alloc (unhid HB).size _⟩
  · have E := hid (show dirE es (pathUpS p) = true by unfold dirE; rw [he]; rfl)
    go_enter Try.func75, Try.ntmps75
    go_wp2_with fail
    refine (PathUp_any p hp _).mono ?_
    rintro x w2 ⟨rfl, hb⟩
    have HB := hid hb
    clear hb
    go_wp2_with fail
    go_ret
    exact ⟨by rw [unhid E]; rfl, unhid HB⟩
end Go.Proofs.Ythbpekcdionbiaa
