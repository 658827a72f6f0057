/- File: what is handed over of it; the words of the exact laws. (Written by mkshape.py.) -/
import Derived.Test.YtlnpjiabdebmgaaSFile
import Derived.Test.YtlnpjiabdebmgaaOpenKit
namespace Go.Proofs.Ytlnpjiabdebmgaa
open Go.ChangeShapes Go.WideShapes Go.ChangeAt Go.RowKit

set_option maxHeartbeats 1000000 in
set_option maxRecDepth 100000 in
theorem opens_File : Opens fileC 31 := by
  intro H enc W n cs x h hlt
  obtain ⟨xs, m, _, rfl, hl, hlen, hf⟩ := DataW.trod_struct Try.underlying31 h
  have hcn : Try.prog.cellsOf 31 = 2 := by kernel_rfl
  rw [hcn] at hl
  match cs, hl, xs, hlen with
  | [c0, c1], _, [y0, y1], _ =>
    obtain ⟨d0, a0, b0⟩ := opens_txt H enc W m [c0] y0 (hf 0 _ rfl) (fun y hy => hlt y (by simp [hy]))
    obtain ⟨d1, a1, b1⟩ := opens_txt H enc W m [c1] y1 (hf 1 _ rfl) (fun y hy => hlt y (by simp [hy]))
    exact ⟨⟨d0, d1⟩, ⟨[c0], [c1], rfl, a0, a1⟩, ⟨b0, b1⟩⟩
set_option maxRecDepth 100000 in
theorem file_of {H : Type} {enc : TypeId × Value → H} {base : Nat} {W : World} {v : Value} {d0 : DataW H} {p : List MemPlace} (hv : Value.okWide Try.prog W .any base 31 v) (h : DataW.Trod enc Try.prog W 0 (fun _ => true) true 31 v d0 p) (hlt : ∀ x ∈ p, x.block < W.heap.size) : ∃ d : FileD, aggAt fileC W v d ∧ fileC.big d := agg_of Try.underlying31 opens_File hv h hlt
set_option maxRecDepth 100000 in
theorem file_ofS {H : Type} {enc : TypeId × Value → H} {base : Nat} {W : World} {v : Value} {d0 : DataW H} {p : List MemPlace} (hv : Value.okWide Try.prog W .any base 22 v) (h : DataW.Trod enc Try.prog W 0 (fun _ => true) true 22 v d0 p) (hlt : ∀ x ∈ p, x.block < W.heap.size) : ∃ ds, rowAt fileC W v ds ∧ (ds.length ≤ maxLen ∧ ∀ d ∈ ds, fileC.big d) := rowv_of (ty := 33) Try.underlying22 (opens_row Try.underlying22 (by kernel_rfl) (by decide) opens_File) hv h hlt
set_option maxRecDepth 100000 in
theorem vszFile_v (d : FileD) (V : Value) (left : Int) (w : World) (hb : fileC.big d) (hl : 0 ≤ left) (hl2 : left ≤ 1048576) (h : aggAt fileC w V d) : Calls Try.prog 9 #[V, .int .i64 left] w fun x w' => (∃ r : Int, x = .returned (.int .i64 r) ∧ r ≤ left ∧ (r < 0 ∨ r + fileC.sz d = left)) ∧ Below w.heap.size w w' := by
  obtain ⟨cs, rfl, h⟩ := h
  exact vszFile_any d cs left w hb hl hl2 h
set_option maxRecDepth 100000 in
theorem vtoFile_v (d : FileD) (V : Value) (w : World) (hs : fileC.sz d ≤ 1048576) (h : aggAt fileC w V d) : Calls Try.prog 13 #[V] w fun x w' => ∃ (v : Value) (F : List Nat), x = .returned v ∧ (aggK fileC).own w' v d F ∧ (∀ k ∈ F, w.heap.size ≤ k ∧ k < w'.heap.size) ∧ Below w.heap.size w w' := by
  obtain ⟨cs, rfl, h⟩ := h
  exact (vtoFile_any d cs w hs h).mono fun x w' ⟨cs', F, h1, h2, h3, h4⟩ => ⟨_, F, h1, ⟨cs', rfl, h2⟩, h3, h4⟩
set_option maxRecDepth 100000 in
theorem veqFile_v (d : FileD) (v v' : Value) (F F' : List Nat) (w : World) (hb : fileC.big d) (h : (aggK fileC).own w v d F) (h' : (aggK fileC).own w v' d F') : Calls Try.prog 19 #[v, v'] w fun x w' => x = .returned (.bool true) ∧ Below w.heap.size w w' := by
  obtain ⟨cs, rfl, h⟩ := h
  obtain ⟨cs', rfl, h'⟩ := h'
  exact veqFile_same d cs cs' w hb (fileC.toAt h) (fileC.toAt h')
set_option maxRecDepth 100000 in
theorem file_shape {W : World} {v : Value} {d : FileD} {F : List Nat} (h : (aggK fileC).own W v d F) : v = .agg #[.string d.name, .string d.text] := by
  obtain ⟨cs, rfl, h⟩ := h
  obtain ⟨rfl, -⟩ := fileC_own h
  rfl
set_option maxRecDepth 100000 in
theorem vszFileS_v (ds : List fileC.D) (V : Value) (left : Int) (w : World) (hb : ds.length ≤ maxLen ∧ ∀ d ∈ ds, fileC.big d) (hl : 0 ≤ left) (hl2 : left ≤ 1048576) (h : rowAt fileC w V ds) : Calls Try.prog 4 #[V, .int .i64 left] w fun x w' => (∃ r : Int, x = .returned (.int .i64 r) ∧ r ≤ left ∧ (r < 0 ∨ r + (ds.length + szR fileC ds) = left)) ∧ Below w.heap.size w w' := vszFileS_any ds V left w hb hl hl2 h
set_option maxRecDepth 100000 in
theorem vtoFileS_v (ds : List fileC.D) (V : Value) (w : World) (hs : ds.length + szR fileC ds ≤ 1048576) (h : rowAt fileC w V ds) : Calls Try.prog 6 #[V] w fun x w' => ∃ (v : Value) (F : List Nat), x = .returned v ∧ (rowK fileC 33).own w' v ds F ∧ (∀ k ∈ F, w.heap.size ≤ k ∧ k < w'.heap.size) ∧ Below w.heap.size w w' := vtoFileS_any ds V w hs h
set_option maxRecDepth 100000 in
theorem veqFileS_v (ds : List fileC.D) (v v' : Value) (F F' : List Nat) (w : World) (hb : ds.length ≤ maxLen ∧ ∀ d ∈ ds, fileC.big d) (h : (rowK fileC 33).own w v ds F) (h' : (rowK fileC 33).own w v' ds F') : Calls Try.prog 8 #[v, v'] w fun x w' => x = .returned (.bool true) ∧ Below w.heap.size w w' := veqFileS_same ds v v' w hb (rowOwn.toAt h) (rowOwn.toAt h')
end Go.Proofs.Ytlnpjiabdebmgaa
