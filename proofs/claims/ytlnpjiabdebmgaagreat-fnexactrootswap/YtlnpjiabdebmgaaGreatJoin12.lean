/- Texts of this proof, one behind the other; each says at its head what it shows. -/
import Derived.Test.YtlnpjiabdebmgaaGreatJoin4
import Derived.Test.YtlnpjiabdebmgaaGreatJoin11
import Derived.Test.YtlnpjiabdebmgaaGreatJoin2
import Derived.Test.YtlnpjiabdebmgaaGreatJoin5
import Derived.Test.YtlnpjiabdebmgaaGreatJoin1
import Derived.Maps.AppendAt
import Derived.Laws.OwnMore
import Derived.Laws.Cover3
import Derived.Test.YtlnpjiabdebmgaaGreatJoin7
import Derived.Lib.SliceRun
import Derived.Deep.RegionLaw
/- Entry: what is handed over of it; the words of the exact laws. (Written by mkshape.py.) -/
namespace Go.Proofs.YtlnpjiabdebmgaaGreat
open Go.ChangeShapes Go.WideShapes Go.ChangeAt Go.RowKit

set_option maxHeartbeats 1000000 in
set_option maxRecDepth 100000 in
theorem opens_Entry : Opens entryC 123 := by
  intro H enc W n cs x h hlt
  obtain ⟨xs, m, _, rfl, hl, hlen, hf⟩ := DataW.trod_struct Tryz.underlying123 h
  have hcn : Tryz.prog.cellsOf 123 = 4 := by kernel_rfl
  rw [hcn] at hl
  match cs, hl, xs, hlen with
  | [c0, c1, c2, c3], _, [y0, y1, y2, y3], _ =>
    obtain ⟨d0, a0, b0⟩ := opens_txt H enc W m [c0] y0 (hf 0 _ rfl) (fun y hy => hlt y (by simp [hy]))
    obtain ⟨d1, a1, b1⟩ := opens_int H enc W m [c1] y1 (hf 1 _ rfl) (fun y hy => hlt y (by simp [hy]))
    obtain ⟨d2, a2, b2⟩ := opens_int H enc W m [c2] y2 (hf 2 _ rfl) (fun y hy => hlt y (by simp [hy]))
    obtain ⟨d3, a3, b3⟩ := opens_txt H enc W m [c3] y3 (hf 3 _ rfl) (fun y hy => hlt y (by simp [hy]))
    exact ⟨⟨d0, d1, d2, d3⟩, ⟨[c0], [c1, c2, c3], rfl, a0, ⟨[c1], [c2, c3], rfl, a1, ⟨[c2], [c3], rfl, a2, a3⟩⟩⟩, ⟨b0, b1, b2, b3⟩⟩
set_option maxRecDepth 100000 in
theorem entry_of {H : Type} {enc : TypeId × Value → H} {base : Nat} {W : World} {v : Value} {d0 : DataW H} {p : List MemPlace} (hv : Value.okWide Tryz.prog W .any base 123 v) (h : DataW.Trod enc Tryz.prog W 0 (fun _ => true) true 123 v d0 p) (hlt : ∀ x ∈ p, x.block < W.heap.size) : ∃ d : EntryD, aggAt entryC W v d ∧ entryC.big d := agg_of Tryz.underlying123 opens_Entry hv h hlt
set_option maxRecDepth 100000 in
theorem entry_ofS {H : Type} {enc : TypeId × Value → H} {base : Nat} {W : World} {v : Value} {d0 : DataW H} {p : List MemPlace} (hv : Value.okWide Tryz.prog W .any base 23 v) (h : DataW.Trod enc Tryz.prog W 0 (fun _ => true) true 23 v d0 p) (hlt : ∀ x ∈ p, x.block < W.heap.size) : ∃ ds, rowAt entryC W v ds ∧ (ds.length ≤ maxLen ∧ ∀ d ∈ ds, entryC.big d) := rowv_of (ty := 90) Tryz.underlying23 (opens_row Tryz.underlying23 (by kernel_rfl) (by decide) opens_Entry) hv h hlt
set_option maxRecDepth 100000 in
theorem vszEntry_v (d : EntryD) (V : Value) (left : Int) (w : World) (hb : entryC.big d) (hl : 0 ≤ left) (hl2 : left ≤ 1048576) (h : aggAt entryC w V d) : Calls Tryz.prog 100 #[V, .int .i64 left] w fun x w' => (∃ r : Int, x = .returned (.int .i64 r) ∧ r ≤ left ∧ (r < 0 ∨ r + entryC.sz d = left)) ∧ Below w.heap.size w w' := by
  obtain ⟨cs, rfl, h⟩ := h
  exact vszEntry_any d cs left w hb hl hl2 h
set_option maxRecDepth 100000 in
theorem vtoEntry_v (d : EntryD) (V : Value) (w : World) (hs : entryC.sz d ≤ 1048576) (h : aggAt entryC w V d) : Calls Tryz.prog 109 #[V] w fun x w' => ∃ (v : Value) (F : List Nat), x = .returned v ∧ (aggK entryC).own w' v d F ∧ (∀ k ∈ F, w.heap.size ≤ k ∧ k < w'.heap.size) ∧ Below w.heap.size w w' := by
  obtain ⟨cs, rfl, h⟩ := h
  exact (vtoEntry_any d cs w hs h).mono fun x w' ⟨cs', F, h1, h2, h3, h4⟩ => ⟨_, F, h1, ⟨cs', rfl, h2⟩, h3, h4⟩
set_option maxRecDepth 100000 in
theorem veqEntry_v (d : EntryD) (v v' : Value) (F F' : List Nat) (w : World) (hb : entryC.big d) (h : (aggK entryC).own w v d F) (h' : (aggK entryC).own w v' d F') : Calls Tryz.prog 72 #[v, v'] w fun x w' => x = .returned (.bool true) ∧ Below w.heap.size w w' := by
  obtain ⟨cs, rfl, h⟩ := h
  obtain ⟨cs', rfl, h'⟩ := h'
  exact veqEntry_same d cs cs' w hb (entryC.toAt h) (entryC.toAt h')
set_option maxRecDepth 100000 in
theorem entry_shape {W : World} {v : Value} {d : EntryD} {F : List Nat} (h : (aggK entryC).own W v d F) : v = .agg #[.string d.path, .int .i64 d.kind, .int .i64 d.mode, .string d.text] := by
  obtain ⟨cs, rfl, h⟩ := h
  obtain ⟨rfl, -⟩ := entryC_own h
  rfl
set_option maxRecDepth 100000 in
theorem vszEntryS_v (ds : List entryC.D) (V : Value) (left : Int) (w : World) (hb : ds.length ≤ maxLen ∧ ∀ d ∈ ds, entryC.big d) (hl : 0 ≤ left) (hl2 : left ≤ 1048576) (h : rowAt entryC w V ds) : Calls Tryz.prog 52 #[V, .int .i64 left] w fun x w' => (∃ r : Int, x = .returned (.int .i64 r) ∧ r ≤ left ∧ (r < 0 ∨ r + (ds.length + szR entryC ds) = left)) ∧ Below w.heap.size w w' := vszEntryS_any ds V left w hb hl hl2 h
set_option maxRecDepth 100000 in
theorem vtoEntryS_v (ds : List entryC.D) (V : Value) (w : World) (hs : ds.length + szR entryC ds ≤ 1048576) (h : rowAt entryC w V ds) : Calls Tryz.prog 58 #[V] w fun x w' => ∃ (v : Value) (F : List Nat), x = .returned v ∧ (rowK entryC 90).own w' v ds F ∧ (∀ k ∈ F, w.heap.size ≤ k ∧ k < w'.heap.size) ∧ Below w.heap.size w w' := vtoEntryS_any ds V w hs h
set_option maxRecDepth 100000 in
theorem veqEntryS_v (ds : List entryC.D) (v v' : Value) (F F' : List Nat) (w : World) (hb : ds.length ≤ maxLen ∧ ∀ d ∈ ds, entryC.big d) (h : (rowK entryC 90).own w v ds F) (h' : (rowK entryC 90).own w v' ds F') : Calls Tryz.prog 24 #[v, v'] w fun x w' => x = .returned (.bool true) ∧ Below w.heap.size w w' := veqEntryS_same ds v v' w hb (rowOwn.toAt h) (rowOwn.toAt h')
set_option maxRecDepth 100000 in
theorem vmarkEntryS_v (ds : List entryC.D) (v : Value) (F : List Nat) (q : Nat) (c : Int) (hcq : c = (q : Int)) (w : World) (hq : 0 < q) (hq2 : q + cntR entryC ds ≤ 20000000) (h : (rowK entryC 90).own w v ds F) : Calls Tryz.prog 26 #[v, .int .i64 c] w fun x w' => (∃ r : Int, x = .returned (.int .i64 r) ∧ r ≤ ((q + cntR entryC ds : Nat) : Int) ∧ ((q + cntR entryC ds : Nat) : Int) ≤ r) ∧ (rowK entryC 90).own w' v (markR entryC q ds) F ∧ Only F w w' := vmarkEntryS_own ds v F q c hcq w hq hq2 h
set_option maxRecDepth 100000 in
theorem vheldEntryS_v (ds : List entryC.D) (v : Value) (F : List Nat) (q : Nat) (c : Int) (hcq : c = (q : Int)) (w : World) (hq : 0 < q) (hq2 : q + cntR entryC ds ≤ 20000000) (h : (rowK entryC 90).own w v (markR entryC q ds) F) : Calls Tryz.prog 27 #[v, .int .i64 c] w fun x w' => (∃ r : Int, x = .returned (.int .i64 r) ∧ r ≤ ((q + cntR entryC ds : Nat) : Int) ∧ ((q + cntR entryC ds : Nat) : Int) ≤ r) ∧ Below w.heap.size w w' := vheldEntryS_at ds v q c hcq w hq hq2 (rowOwn.toAt h)
end Go.Proofs.YtlnpjiabdebmgaaGreat

/- Need: what is handed over of it; the words of the exact laws. (Written by mkshape.py.) -/
namespace Go.Proofs.YtlnpjiabdebmgaaGreat
open Go.ChangeShapes Go.WideShapes Go.ChangeAt Go.RowKit

set_option maxHeartbeats 1000000 in
set_option maxRecDepth 100000 in
theorem opens_Need : Opens needC 121 := by
  intro H enc W n cs x h hlt
  obtain ⟨xs, m, _, rfl, hl, hlen, hf⟩ := DataW.trod_struct Tryz.underlying121 h
  have hcn : Tryz.prog.cellsOf 121 = 3 := by kernel_rfl
  rw [hcn] at hl
  match cs, hl, xs, hlen with
  | [c0, c1, c2], _, [y0, y1, y2], _ =>
    obtain ⟨d0, a0, b0⟩ := opens_txt H enc W m [c0] y0 (hf 0 _ rfl) (fun y hy => hlt y (by simp [hy]))
    obtain ⟨d1, a1, b1⟩ := opens_int H enc W m [c1] y1 (hf 1 _ rfl) (fun y hy => hlt y (by simp [hy]))
    obtain ⟨d2, a2, b2⟩ := opens_txt H enc W m [c2] y2 (hf 2 _ rfl) (fun y hy => hlt y (by simp [hy]))
    exact ⟨⟨d0, d1, d2⟩, ⟨[c0], [c1, c2], rfl, a0, ⟨[c1], [c2], rfl, a1, a2⟩⟩, ⟨b0, b1, b2⟩⟩
set_option maxRecDepth 100000 in
theorem need_of {H : Type} {enc : TypeId × Value → H} {base : Nat} {W : World} {v : Value} {d0 : DataW H} {p : List MemPlace} (hv : Value.okWide Tryz.prog W .any base 121 v) (h : DataW.Trod enc Tryz.prog W 0 (fun _ => true) true 121 v d0 p) (hlt : ∀ x ∈ p, x.block < W.heap.size) : ∃ d : NeedD, aggAt needC W v d ∧ needC.big d := agg_of Tryz.underlying121 opens_Need hv h hlt
set_option maxRecDepth 100000 in
theorem need_ofS {H : Type} {enc : TypeId × Value → H} {base : Nat} {W : World} {v : Value} {d0 : DataW H} {p : List MemPlace} (hv : Value.okWide Tryz.prog W .any base 22 v) (h : DataW.Trod enc Tryz.prog W 0 (fun _ => true) true 22 v d0 p) (hlt : ∀ x ∈ p, x.block < W.heap.size) : ∃ ds, rowAt needC W v ds ∧ (ds.length ≤ maxLen ∧ ∀ d ∈ ds, needC.big d) := rowv_of (ty := 79) Tryz.underlying22 (opens_row Tryz.underlying22 (by kernel_rfl) (by decide) opens_Need) hv h hlt
set_option maxRecDepth 100000 in
theorem vszNeed_v (d : NeedD) (V : Value) (left : Int) (w : World) (hb : needC.big d) (hl : 0 ≤ left) (hl2 : left ≤ 1048576) (h : aggAt needC w V d) : Calls Tryz.prog 99 #[V, .int .i64 left] w fun x w' => (∃ r : Int, x = .returned (.int .i64 r) ∧ r ≤ left ∧ (r < 0 ∨ r + needC.sz d = left)) ∧ Below w.heap.size w w' := by
  obtain ⟨cs, rfl, h⟩ := h
  exact vszNeed_any d cs left w hb hl hl2 h
set_option maxRecDepth 100000 in
theorem vtoNeed_v (d : NeedD) (V : Value) (w : World) (hs : needC.sz d ≤ 1048576) (h : aggAt needC w V d) : Calls Tryz.prog 108 #[V] w fun x w' => ∃ (v : Value) (F : List Nat), x = .returned v ∧ (aggK needC).own w' v d F ∧ (∀ k ∈ F, w.heap.size ≤ k ∧ k < w'.heap.size) ∧ Below w.heap.size w w' := by
  obtain ⟨cs, rfl, h⟩ := h
  exact (vtoNeed_any d cs w hs h).mono fun x w' ⟨cs', F, h1, h2, h3, h4⟩ => ⟨_, F, h1, ⟨cs', rfl, h2⟩, h3, h4⟩
set_option maxRecDepth 100000 in
theorem veqNeed_v (d : NeedD) (v v' : Value) (F F' : List Nat) (w : World) (hb : needC.big d) (h : (aggK needC).own w v d F) (h' : (aggK needC).own w v' d F') : Calls Tryz.prog 116 #[v, v'] w fun x w' => x = .returned (.bool true) ∧ Below w.heap.size w w' := by
  obtain ⟨cs, rfl, h⟩ := h
  obtain ⟨cs', rfl, h'⟩ := h'
  exact veqNeed_same d cs cs' w hb (needC.toAt h) (needC.toAt h')
set_option maxRecDepth 100000 in
theorem need_shape {W : World} {v : Value} {d : NeedD} {F : List Nat} (h : (aggK needC).own W v d F) : v = .agg #[.string d.name, .int .i64 d.kind, .string d.version] := by
  obtain ⟨cs, rfl, h⟩ := h
  obtain ⟨rfl, -⟩ := needC_own h
  rfl
set_option maxRecDepth 100000 in
theorem vszNeedS_v (ds : List needC.D) (V : Value) (left : Int) (w : World) (hb : ds.length ≤ maxLen ∧ ∀ d ∈ ds, needC.big d) (hl : 0 ≤ left) (hl2 : left ≤ 1048576) (h : rowAt needC w V ds) : Calls Tryz.prog 51 #[V, .int .i64 left] w fun x w' => (∃ r : Int, x = .returned (.int .i64 r) ∧ r ≤ left ∧ (r < 0 ∨ r + (ds.length + szR needC ds) = left)) ∧ Below w.heap.size w w' := vszNeedS_any ds V left w hb hl hl2 h
set_option maxRecDepth 100000 in
theorem vtoNeedS_v (ds : List needC.D) (V : Value) (w : World) (hs : ds.length + szR needC ds ≤ 1048576) (h : rowAt needC w V ds) : Calls Tryz.prog 57 #[V] w fun x w' => ∃ (v : Value) (F : List Nat), x = .returned v ∧ (rowK needC 79).own w' v ds F ∧ (∀ k ∈ F, w.heap.size ≤ k ∧ k < w'.heap.size) ∧ Below w.heap.size w w' := vtoNeedS_any ds V w hs h
set_option maxRecDepth 100000 in
theorem veqNeedS_v (ds : List needC.D) (v v' : Value) (F F' : List Nat) (w : World) (hb : ds.length ≤ maxLen ∧ ∀ d ∈ ds, needC.big d) (h : (rowK needC 79).own w v ds F) (h' : (rowK needC 79).own w v' ds F') : Calls Tryz.prog 67 #[v, v'] w fun x w' => x = .returned (.bool true) ∧ Below w.heap.size w w' := veqNeedS_same ds v v' w hb (rowOwn.toAt h) (rowOwn.toAt h')
set_option maxRecDepth 100000 in
theorem vmarkNeedS_v (ds : List needC.D) (v : Value) (F : List Nat) (q : Nat) (c : Int) (hcq : c = (q : Int)) (w : World) (hq : 0 < q) (hq2 : q + cntR needC ds ≤ 20000000) (h : (rowK needC 79).own w v ds F) : Calls Tryz.prog 80 #[v, .int .i64 c] w fun x w' => (∃ r : Int, x = .returned (.int .i64 r) ∧ r ≤ ((q + cntR needC ds : Nat) : Int) ∧ ((q + cntR needC ds : Nat) : Int) ≤ r) ∧ (rowK needC 79).own w' v (markR needC q ds) F ∧ Only F w w' := vmarkNeedS_own ds v F q c hcq w hq hq2 h
set_option maxRecDepth 100000 in
theorem vheldNeedS_v (ds : List needC.D) (v : Value) (F : List Nat) (q : Nat) (c : Int) (hcq : c = (q : Int)) (w : World) (hq : 0 < q) (hq2 : q + cntR needC ds ≤ 20000000) (h : (rowK needC 79).own w v (markR needC q ds) F) : Calls Tryz.prog 133 #[v, .int .i64 c] w fun x w' => (∃ r : Int, x = .returned (.int .i64 r) ∧ r ≤ ((q + cntR needC ds : Nat) : Int) ∧ ((q + cntR needC ds : Nat) : Int) ≤ r) ∧ Below w.heap.size w w' := vheldNeedS_at ds v q c hcq w hq hq2 (rowOwn.toAt h)
end Go.Proofs.YtlnpjiabdebmgaaGreat

/- Pack: what is handed over of it; the words of the exact laws. (Written by mkshape.py.) -/
namespace Go.Proofs.YtlnpjiabdebmgaaGreat
open Go.ChangeShapes Go.WideShapes Go.ChangeAt Go.RowKit

set_option maxHeartbeats 1000000 in
set_option maxRecDepth 100000 in
theorem opens_Pack : Opens packC 25 := by
  intro H enc W n cs x h hlt
  obtain ⟨xs, m, _, rfl, hl, hlen, hf⟩ := DataW.trod_struct Tryz.underlying25 h
  have hcn : Tryz.prog.cellsOf 25 = 4 := by kernel_rfl
  rw [hcn] at hl
  match cs, hl, xs, hlen with
  | [c0, c1, c2, c3], _, [y0, y1, y2, y3], _ =>
    obtain ⟨d0, a0, b0⟩ := opens_txt H enc W m [c0] y0 (hf 0 _ rfl) (fun y hy => hlt y (by simp [hy]))
    obtain ⟨d1, a1, b1⟩ := opens_txt H enc W m [c1] y1 (hf 1 _ rfl) (fun y hy => hlt y (by simp [hy]))
    obtain ⟨d2, a2, b2⟩ := (opens_row (ty := 79) Tryz.underlying22 (by kernel_rfl) (by decide) opens_Need) H enc W m [c2] y2 (hf 2 _ rfl) (fun y hy => hlt y (by simp [hy]))
    obtain ⟨d3, a3, b3⟩ := (opens_row (ty := 90) Tryz.underlying23 (by kernel_rfl) (by decide) opens_Entry) H enc W m [c3] y3 (hf 3 _ rfl) (fun y hy => hlt y (by simp [hy]))
    exact ⟨⟨d0, d1, d2, d3⟩, ⟨[c0], [c1, c2, c3], rfl, a0, ⟨[c1], [c2, c3], rfl, a1, ⟨[c2], [c3], rfl, a2, a3⟩⟩⟩, ⟨b0, b1, b2, b3⟩⟩
set_option maxRecDepth 100000 in
theorem pack_of {H : Type} {enc : TypeId × Value → H} {base : Nat} {W : World} {v : Value} {d0 : DataW H} {p : List MemPlace} (hv : Value.okWide Tryz.prog W .any base 25 v) (h : DataW.Trod enc Tryz.prog W 0 (fun _ => true) true 25 v d0 p) (hlt : ∀ x ∈ p, x.block < W.heap.size) : ∃ d : PackD, aggAt packC W v d ∧ packC.big d := agg_of Tryz.underlying25 opens_Pack hv h hlt
set_option maxRecDepth 100000 in
theorem pack_ofS {H : Type} {enc : TypeId × Value → H} {base : Nat} {W : World} {v : Value} {d0 : DataW H} {p : List MemPlace} (hv : Value.okWide Tryz.prog W .any base 35 v) (h : DataW.Trod enc Tryz.prog W 0 (fun _ => true) true 35 v d0 p) (hlt : ∀ x ∈ p, x.block < W.heap.size) : ∃ ds, rowAt packC W v ds ∧ (ds.length ≤ maxLen ∧ ∀ d ∈ ds, packC.big d) := rowv_of (ty := 31) Tryz.underlying35 (opens_row Tryz.underlying35 (by kernel_rfl) (by decide) opens_Pack) hv h hlt
set_option maxRecDepth 100000 in
theorem vszPack_v (d : PackD) (V : Value) (left : Int) (w : World) (hb : packC.big d) (hl : 0 ≤ left) (hl2 : left ≤ 1048576) (h : aggAt packC w V d) : Calls Tryz.prog 12 #[V, .int .i64 left] w fun x w' => (∃ r : Int, x = .returned (.int .i64 r) ∧ r ≤ left ∧ (r < 0 ∨ r + packC.sz d = left)) ∧ Below w.heap.size w w' := by
  obtain ⟨cs, rfl, h⟩ := h
  exact vszPack_any d cs left w hb hl hl2 h
set_option maxRecDepth 100000 in
theorem vtoPack_v (d : PackD) (V : Value) (w : World) (hs : packC.sz d ≤ 1048576) (h : aggAt packC w V d) : Calls Tryz.prog 14 #[V] w fun x w' => ∃ (v : Value) (F : List Nat), x = .returned v ∧ (aggK packC).own w' v d F ∧ (∀ k ∈ F, w.heap.size ≤ k ∧ k < w'.heap.size) ∧ Below w.heap.size w w' := by
  obtain ⟨cs, rfl, h⟩ := h
  exact (vtoPack_any d cs w hs h).mono fun x w' ⟨cs', F, h1, h2, h3, h4⟩ => ⟨_, F, h1, ⟨cs', rfl, h2⟩, h3, h4⟩
set_option maxRecDepth 100000 in
theorem veqPack_v (d : PackD) (v v' : Value) (F F' : List Nat) (w : World) (hb : packC.big d) (h : (aggK packC).own w v d F) (h' : (aggK packC).own w v' d F') : Calls Tryz.prog 16 #[v, v'] w fun x w' => x = .returned (.bool true) ∧ Below w.heap.size w w' := by
  obtain ⟨cs, rfl, h⟩ := h
  obtain ⟨cs', rfl, h'⟩ := h'
  exact veqPack_same d cs cs' w hb (packC.toAt h) (packC.toAt h')
set_option maxRecDepth 100000 in
theorem pack_shape {W : World} {v : Value} {d : PackD} {F : List Nat} (h : (aggK packC).own W v d F) : ∃ (a2 : Option Addr) (c2 : Nat) (a3 : Option Addr) (c3 : Nat), v = .agg #[.string d.name, .string d.version, .slice a2 d.needs.length c2, .slice a3 d.tree.length c3] := by
  obtain ⟨cs, rfl, h⟩ := h
  obtain ⟨v2, v3, _, _, rfl, -, x2, x3, -⟩ := packC_own h
  obtain ⟨a2, c2, rfl⟩ := rowOwn.slice x2
  obtain ⟨a3, c3, rfl⟩ := rowOwn.slice x3
  exact ⟨a2, c2, a3, c3, rfl⟩
set_option maxRecDepth 100000 in
theorem cntVPack_le (d : PackD) : cntVPack d ≤ 8 * packC.sz d := by
  rw [packC_sz]
  unfold cntVPack
  have h2 := cntNeedS d.needs
  have h3 := cntEntryS d.tree
  omega
set_option maxRecDepth 100000 in
theorem vmarkPack_v (d : PackD) (v : Value) (F : List Nat) (q : Nat) (c : Int) (hcq : c = (q : Int)) (w : World) (hq : 0 < q) (hq2 : q + cntVPack d ≤ 20000000) (h : (aggK packC).own w v d F) : Calls Tryz.prog 30 #[v, .int .i64 c] w fun x w' => (∃ r : Int, x = .returned (.int .i64 r) ∧ r ≤ ((q + cntVPack d : Nat) : Int) ∧ ((q + cntVPack d : Nat) : Int) ≤ r) ∧ (aggK packC).own w' v (markVPack q d) F ∧ Only F w w' := by
  obtain ⟨cs, rfl, h⟩ := h
  exact (vmarkPack_own d cs F q c hcq w hq hq2 h).mono fun x w' ⟨h1, h2, h3⟩ => ⟨h1, ⟨cs, rfl, h2⟩, h3⟩
set_option maxRecDepth 100000 in
theorem vszPackS_v (ds : List packC.D) (V : Value) (left : Int) (w : World) (hb : ds.length ≤ maxLen ∧ ∀ d ∈ ds, packC.big d) (hl : 0 ≤ left) (hl2 : left ≤ 1048576) (h : rowAt packC w V ds) : Calls Tryz.prog 38 #[V, .int .i64 left] w fun x w' => (∃ r : Int, x = .returned (.int .i64 r) ∧ r ≤ left ∧ (r < 0 ∨ r + (ds.length + szR packC ds) = left)) ∧ Below w.heap.size w w' := vszPackS_any ds V left w hb hl hl2 h
set_option maxRecDepth 100000 in
theorem vtoPackS_v (ds : List packC.D) (V : Value) (w : World) (hs : ds.length + szR packC ds ≤ 1048576) (h : rowAt packC w V ds) : Calls Tryz.prog 41 #[V] w fun x w' => ∃ (v : Value) (F : List Nat), x = .returned v ∧ (rowK packC 31).own w' v ds F ∧ (∀ k ∈ F, w.heap.size ≤ k ∧ k < w'.heap.size) ∧ Below w.heap.size w w' := vtoPackS_any ds V w hs h
set_option maxRecDepth 100000 in
theorem veqPackS_v (ds : List packC.D) (v v' : Value) (F F' : List Nat) (w : World) (hb : ds.length ≤ maxLen ∧ ∀ d ∈ ds, packC.big d) (h : (rowK packC 31).own w v ds F) (h' : (rowK packC 31).own w v' ds F') : Calls Tryz.prog 45 #[v, v'] w fun x w' => x = .returned (.bool true) ∧ Below w.heap.size w w' := veqPackS_same ds v v' w hb (rowOwn.toAt h) (rowOwn.toAt h')
set_option maxRecDepth 100000 in
theorem vmarkPackS_v (ds : List packC.D) (v : Value) (F : List Nat) (q : Nat) (c : Int) (hcq : c = (q : Int)) (w : World) (hq : 0 < q) (hq2 : q + cntR packC ds ≤ 20000000) (h : (rowK packC 31).own w v ds F) : Calls Tryz.prog 46 #[v, .int .i64 c] w fun x w' => (∃ r : Int, x = .returned (.int .i64 r) ∧ r ≤ ((q + cntR packC ds : Nat) : Int) ∧ ((q + cntR packC ds : Nat) : Int) ≤ r) ∧ (rowK packC 31).own w' v (markR packC q ds) F ∧ Only F w w' := vmarkPackS_own ds v F q c hcq w hq hq2 h
set_option maxRecDepth 100000 in
theorem vheldPackS_v (ds : List packC.D) (v : Value) (F : List Nat) (q : Nat) (c : Int) (hcq : c = (q : Int)) (w : World) (hq : 0 < q) (hq2 : q + cntR packC ds ≤ 20000000) (h : (rowK packC 31).own w v (markR packC q ds) F) : Calls Tryz.prog 81 #[v, .int .i64 c] w fun x w' => (∃ r : Int, x = .returned (.int .i64 r) ∧ r ≤ ((q + cntR packC ds : Nat) : Int) ∧ ((q + cntR packC ds : Nat) : Int) ≤ r) ∧ Below w.heap.size w w' := vheldPackS_at ds v q c hcq w hq hq2 (rowOwn.toAt h)
end Go.Proofs.YtlnpjiabdebmgaaGreat

/- Root: what is handed over of it; the words of the exact laws. (Written by mkshape.py.) -/
namespace Go.Proofs.YtlnpjiabdebmgaaGreat
open Go.ChangeShapes Go.WideShapes Go.ChangeAt Go.RowKit

set_option maxHeartbeats 1000000 in
set_option maxRecDepth 100000 in
theorem opens_Root : Opens rootC 37 := by
  intro H enc W n cs x h hlt
  obtain ⟨xs, m, _, rfl, hl, hlen, hf⟩ := DataW.trod_struct Tryz.underlying37 h
  have hcn : Tryz.prog.cellsOf 37 = 1 := by kernel_rfl
  rw [hcn] at hl
  match cs, hl, xs, hlen with
  | [c0], _, [y0], _ =>
    obtain ⟨d0, a0, b0⟩ := (opens_row (ty := 31) Tryz.underlying35 (by kernel_rfl) (by decide) opens_Pack) H enc W m [c0] y0 (hf 0 _ rfl) (fun y hy => hlt y (by simp [hy]))
    exact ⟨⟨d0⟩, a0, b0⟩
set_option maxRecDepth 100000 in
theorem root_of {H : Type} {enc : TypeId × Value → H} {base : Nat} {W : World} {v : Value} {d0 : DataW H} {p : List MemPlace} (hv : Value.okWide Tryz.prog W .any base 37 v) (h : DataW.Trod enc Tryz.prog W 0 (fun _ => true) true 37 v d0 p) (hlt : ∀ x ∈ p, x.block < W.heap.size) : ∃ d : RootD, aggAt rootC W v d ∧ rootC.big d := agg_of Tryz.underlying37 opens_Root hv h hlt
set_option maxRecDepth 100000 in
theorem vszRoot_v (d : RootD) (V : Value) (left : Int) (w : World) (hb : rootC.big d) (hl : 0 ≤ left) (hl2 : left ≤ 1048576) (h : aggAt rootC w V d) : Calls Tryz.prog 17 #[V, .int .i64 left] w fun x w' => (∃ r : Int, x = .returned (.int .i64 r) ∧ r ≤ left ∧ (r < 0 ∨ r + rootC.sz d = left)) ∧ Below w.heap.size w w' := by
  obtain ⟨cs, rfl, h⟩ := h
  exact vszRoot_any d cs left w hb hl hl2 h
set_option maxRecDepth 100000 in
theorem vtoRoot_v (d : RootD) (V : Value) (w : World) (hs : rootC.sz d ≤ 1048576) (h : aggAt rootC w V d) : Calls Tryz.prog 19 #[V] w fun x w' => ∃ (v : Value) (F : List Nat), x = .returned v ∧ (aggK rootC).own w' v d F ∧ (∀ k ∈ F, w.heap.size ≤ k ∧ k < w'.heap.size) ∧ Below w.heap.size w w' := by
  obtain ⟨cs, rfl, h⟩ := h
  exact (vtoRoot_any d cs w hs h).mono fun x w' ⟨cs', F, h1, h2, h3, h4⟩ => ⟨_, F, h1, ⟨cs', rfl, h2⟩, h3, h4⟩
set_option maxRecDepth 100000 in
theorem veqRoot_v (d : RootD) (v v' : Value) (F F' : List Nat) (w : World) (hb : rootC.big d) (h : (aggK rootC).own w v d F) (h' : (aggK rootC).own w v' d F') : Calls Tryz.prog 21 #[v, v'] w fun x w' => x = .returned (.bool true) ∧ Below w.heap.size w w' := by
  obtain ⟨cs, rfl, h⟩ := h
  obtain ⟨cs', rfl, h'⟩ := h'
  exact veqRoot_same d cs cs' w hb (rootC.toAt h) (rootC.toAt h')
set_option maxRecDepth 100000 in
theorem root_shape {W : World} {v : Value} {d : RootD} {F : List Nat} (h : (aggK rootC).own W v d F) : ∃ (a0 : Option Addr) (c0 : Nat), v = .agg #[.slice a0 d.packs.length c0] := by
  obtain ⟨cs, rfl, h⟩ := h
  obtain ⟨v0, _, rfl, -, x0⟩ := rootC_own h
  obtain ⟨a0, c0, rfl⟩ := rowOwn.slice x0
  exact ⟨a0, c0, rfl⟩
set_option maxRecDepth 100000 in
theorem cntVRoot_le (d : RootD) : cntVRoot d ≤ 8 * rootC.sz d := by
  rw [rootC_sz]
  unfold cntVRoot
  have h0 := cntPackS d.packs
  omega
set_option maxRecDepth 100000 in
theorem vmarkRoot_v (d : RootD) (v : Value) (F : List Nat) (q : Nat) (c : Int) (hcq : c = (q : Int)) (w : World) (hq : 0 < q) (hq2 : q + cntVRoot d ≤ 20000000) (h : (aggK rootC).own w v d F) : Calls Tryz.prog 25 #[v, .int .i64 c] w fun x w' => (∃ r : Int, x = .returned (.int .i64 r) ∧ r ≤ ((q + cntVRoot d : Nat) : Int) ∧ ((q + cntVRoot d : Nat) : Int) ≤ r) ∧ (aggK rootC).own w' v (markVRoot q d) F ∧ Only F w w' := by
  obtain ⟨cs, rfl, h⟩ := h
  exact (vmarkRoot_own d cs F q c hcq w hq hq2 h).mono fun x w' ⟨h1, h2, h3⟩ => ⟨h1, ⟨cs, rfl, h2⟩, h3⟩
set_option maxRecDepth 100000 in
theorem vheldRoot_v (d : RootD) (v : Value) (F : List Nat) (q : Nat) (c : Int) (hcq : c = (q : Int)) (w : World) (hq : 0 < q) (hq2 : q + cntVRoot d ≤ 20000000) (h : (aggK rootC).own w v (markVRoot q d) F) : Calls Tryz.prog 31 #[v, .int .i64 c] w fun x w' => (∃ r : Int, x = .returned (.int .i64 r) ∧ r ≤ ((q + cntVRoot d : Nat) : Int) ∧ ((q + cntVRoot d : Nat) : Int) ≤ r) ∧ Below w.heap.size w w' := by
  obtain ⟨cs, rfl, h⟩ := h
  exact vheldRoot_at d cs q c hcq w hq hq2 (rootC.toAt h)
end Go.Proofs.YtlnpjiabdebmgaaGreat

/- RootOk and RootTree of copies in memory of their own. -/
namespace Go.Proofs.YtlnpjiabdebmgaaGreat
open Go.RowKit Go.Shelf

def rootOk_0 (d : RootD) : Bool := rootCode d.packs == 0
theorem rootOk_yes {d : RootD} (h : rootOk_0 d = true) : rootCode d.packs = 0 := by unfold rootOk_0 at h; exact eq_of_beq h
theorem root_in {W : World} {v : Value} {d : RootD} {F : List Nat} (h : (aggK rootC).own W v d F) : ∃ a c, v = .agg #[.slice a d.packs.length c] ∧ rowAt packC W (.slice a d.packs.length c) d.packs ∧ rowOwn packC 31 W (.slice a d.packs.length c) d.packs F := by
  obtain ⟨cs, rfl, h⟩ := h
  obtain ⟨v0, F0, rfl, rfl, h0⟩ := rootC_own h
  obtain ⟨a, c, rfl⟩ := rowOwn.slice h0
  exact ⟨a, c, rfl, rowOwn.toAt h0, h0⟩
theorem root_small {d : RootD} (h : rootC.sz d ≤ 1048576) : smallPs d.packs := smallPs_of (by rw [rootC_sz] at h; exact h)

set_option maxRecDepth 100000 in
set_option maxHeartbeats 1000000 in
theorem specRootOk_any (d : RootD) (a : Option Addr) (c : Nat) (w : World) (hs : smallPs d.packs) (h : rowAt packC w (.slice a d.packs.length c) d.packs) :
    Calls Tryz.prog 18 #[.agg #[.slice a d.packs.length c]] w fun x w' => x = .returned (.bool (rootOk_0 d)) ∧ Below w.heap.size w w' := by
  have HB := hid (show ∀ x, Below w.heap.size w (w.alloc x) from fun x => (Below.refl _ w).alloc (Nat.le_refl _) x)
  have K := hid (fun W (hb : Below w.heap.size w W) => l9Check_any d.packs _ W hs (h.below hb))
  have E := hid (show rootOk_0 d = (rootCode d.packs == 0) from rfl)
  clear hs h
  go_enter Tryz.func18, Tryz.ntmps18
  go_wp2_with fail
  refine (unhid K _ (unhid HB _)).mono ?_
  rintro x w2 ⟨rfl, hb⟩
  have HB2 := hid ((unhid HB _).trans (hb.mono (unhid HB _).size))
  clear hb
  generalize rootCode d.packs = rc at *
  go_wp2_with fail
  go_ret
  exact ⟨by rw [unhid E]; rfl, unhid HB2⟩
set_option maxRecDepth 100000 in
set_option maxHeartbeats 1000000 in
theorem implRootOk_any (d : RootD) (a : Option Addr) (c : Nat) (w : World) (hs : smallPs d.packs) (h : rowAt packC w (.slice a d.packs.length c) d.packs) :
    Calls Tryz.prog 20 #[.agg #[.slice a d.packs.length c]] w fun x w' => x = .returned (.bool (rootOk_0 d)) ∧ Below w.heap.size w w' := by
  have HB := hid (show ∀ x, Below w.heap.size w (w.alloc x) from fun x => (Below.refl _ w).alloc (Nat.le_refl _) x)
  have K := hid (fun W (hb : Below w.heap.size w W) => packsWrong_any d.packs _ W hs (h.below hb))
  have E := hid (show rootOk_0 d = (rootCode d.packs == 0) from rfl)
  clear hs h
  go_enter Tryz.func20, Tryz.ntmps20
  go_wp2_with fail
  refine (unhid K _ (unhid HB _)).mono ?_
  rintro x w2 ⟨rfl, hb⟩
  have HB2 := hid ((unhid HB _).trans (hb.mono (unhid HB _).size))
  clear hb
  generalize rootCode d.packs = rc at *
  go_wp2_with fail
  go_ret
  exact ⟨by rw [unhid E]; rfl, unhid HB2⟩
theorem rootOk_spec (d0 : RootD) (v : Value) (F : List Nat) (W : World) (hs : rootC.sz d0 ≤ 1048576 ∧ rootC.big d0) (h : (aggK rootC).own W v d0 F) : Calls Tryz.prog 18 #[v] W fun r W' => r = .returned (.bool (rootOk_0 d0)) ∧ Below W.heap.size W W' := by
  obtain ⟨a, c, rfl, h1, _⟩ := root_in h
  exact specRootOk_any d0 a c W (root_small hs.1) h1
theorem rootOk_impl (d0 : RootD) (v : Value) (F : List Nat) (W : World) (hs : rootC.sz d0 ≤ 1048576 ∧ rootC.big d0) (h : (aggK rootC).own W v d0 F) : Calls Tryz.prog 20 #[v] W fun r W' => r = .returned (.bool (rootOk_0 d0)) ∧ Below W.heap.size W W' := by
  obtain ⟨a, c, rfl, h1, _⟩ := root_in h
  exact implRootOk_any d0 a c W (root_small hs.1) h1

def rootTreeE (d : RootD) : List Ent := if rootOk_0 d then joinG d.packs else []
theorem joinO_tree : ∀ (acc : List Ent) (ps : List packC.D) (t : List Ent), treeB acc = true → joinO acc ps = some t → treeB t = true
  | acc, [], t, h, e => by rw [joinO] at e; cases e; exact h
  | acc, p :: ps, t, h, e => by
    rw [joinO] at e
    split at e
    · rename_i hq
      rw [Bool.and_eq_true] at hq
      exact joinO_tree _ ps t hq.2 e
    · cases e
theorem joinG_tree (ps : List packC.D) : treeB (joinG ps) = true := by
  unfold joinG
  cases h : joinO [] ps with
  | none => exact treeB_nil
  | some t => exact joinO_tree [] ps t treeB_nil h
theorem rootTree_tree (d : RootD) : treeB (rootTreeE d) = true := by
  unfold rootTreeE
  split
  · exact joinG_tree _
  · exact treeB_nil
def rootTree_0 (d : RootD) : List entryC.D := dEnts (rootTreeE d)
theorem rootTree_small (d : RootD) (_ : rootC.sz d ≤ 1048576 ∧ rootC.big d) (_ : rootC.sz d ≤ 1048576) : ((rootTree_0 d).length ≤ maxLen ∧ ∀ x ∈ rootTree_0 d, entryC.big x) ∧ cntR entryC (rootTree_0 d) ≤ 9000000 := tree_big (rootTree_tree d)

set_option maxRecDepth 100000 in
set_option maxHeartbeats 1000000 in
theorem specRootTree_any (d : RootD) (a : Option Addr) (c : Nat) (w : World) (hs : smallPs d.packs) (h : rowAt packC w (.slice a d.packs.length c) d.packs) :
    Calls Tryz.prog 22 #[.agg #[.slice a d.packs.length c]] w fun x w' => ∃ u, x = .returned u ∧ w'.ownsRow w.heap.size 90 4 u (rootTreeE d).length (valsOf (rootTreeE d)) ∧ Below w.heap.size w w' := by
  have HBX := hid (World.alloc_heap_new w (.cells #[.slice a d.packs.length c] 42))
  have HB := hid (show ∀ x, Below w.heap.size w (w.alloc x) from fun x => (Below.refl _ w).alloc (Nat.le_refl _) x)
  have HLT := hid (show w.heap.size < (w.alloc (.cells #[.slice a d.packs.length c] 42)).heap.size by simp)
  have K := hid (fun W (hb : Below w.heap.size w W) => specRootOk_any d a c W hs (h.below hb))
  have H := hid h
  have HS := hid hs
  clear hs h
  go_enter Tryz.func22, Tryz.ntmps22
  go_wp2_with fail
  have hb0 := unhid HB (.cells #[.slice a d.packs.length c] 42)
  generalize w.alloc (.cells #[.slice a d.packs.length c] 42) = W0 at HBX HLT hb0 ⊢
  refine (unhid K W0 hb0).mono ?_
  rintro x w2 ⟨rfl, hb⟩
  have HB2 := hid (hb0.trans (hb.mono hb0.size))
  have BX := hid ((hb.block _ (unhid HLT)).trans (unhid HBX))
  clear hb hb0 HB HLT HBX
  cases hq : rootOk_0 d with
  | false =>
    have E := hid (show rootTreeE d = [] by unfold rootTreeE; rw [hq]; rfl)
    have HO := hid (owns_empty w2 w.heap.size (unhid HB2).size 90)
    have HB3 := hid ((unhid HB2).alloc (unhid HB2).size (.cells #[] 90))
    go_wp2_with fail
    generalize w2.alloc (.cells #[] 90) = w3 at HO HB3 ⊢
    go_ret
    exact ⟨_, rfl, by rw [unhid E]; exact unhid HO, unhid HB3⟩
  | true =>
    have HF := hid (code_0 (rootOk_yes hq)).1
    have E := hid (show rootTreeE d = joinG d.packs by unfold rootTreeE; rw [hq]; rfl)
    have c0 := cell_arrS (unhid BX) 0 _ rfl
    clear hq
    go_wp2_with fail
    refine (l9Tree_any d.packs _ w2 (unhid HS).1 (unhid HF) ((unhid H).below (unhid HB2))).mono ?_
    rintro x w3 ⟨u, rfl, ho, hb⟩
    have HB3 := hid ((unhid HB2).trans (hb.mono (unhid HB2).size))
    have HO := hid (ownsRow_lowerS ho (unhid HB2).size)
    clear ho hb c0
    go_wp2_with fail
    go_ret
    exact ⟨_, rfl, by rw [unhid E]; exact unhid HO, unhid HB3⟩
set_option maxRecDepth 100000 in
set_option maxHeartbeats 1000000 in
theorem implRootTree_any (d : RootD) (a : Option Addr) (c : Nat) (w : World) (hs : smallPs d.packs) (h : rowAt packC w (.slice a d.packs.length c) d.packs) :
    Calls Tryz.prog 23 #[.agg #[.slice a d.packs.length c]] w fun x w' => ∃ u, x = .returned u ∧ w'.ownsRow w.heap.size 90 4 u (rootTreeE d).length (valsOf (rootTreeE d)) ∧ Below w.heap.size w w' := by
  have HBX := hid (World.alloc_heap_new w (.cells #[.slice a d.packs.length c] 42))
  have HB := hid (show ∀ x, Below w.heap.size w (w.alloc x) from fun x => (Below.refl _ w).alloc (Nat.le_refl _) x)
  have HLT := hid (show w.heap.size < (w.alloc (.cells #[.slice a d.packs.length c] 42)).heap.size by simp)
  have K := hid (fun W (hb : Below w.heap.size w W) => implRootOk_any d a c W hs (h.below hb))
  have H := hid h
  have HS := hid hs
  clear hs h
  go_enter Tryz.func23, Tryz.ntmps23
  go_wp2_with fail
  have hb0 := unhid HB (.cells #[.slice a d.packs.length c] 42)
  generalize w.alloc (.cells #[.slice a d.packs.length c] 42) = W0 at HBX HLT hb0 ⊢
  refine (unhid K W0 hb0).mono ?_
  rintro x w2 ⟨rfl, hb⟩
  have HB2 := hid (hb0.trans (hb.mono hb0.size))
  have BX := hid ((hb.block _ (unhid HLT)).trans (unhid HBX))
  clear hb hb0 HB HLT HBX
  cases hq : rootOk_0 d with
  | false =>
    have E := hid (show rootTreeE d = [] by unfold rootTreeE; rw [hq]; rfl)
    have HO := hid (show w2.ownsRow w.heap.size 90 4 (.slice none 0 0) ([] : List Ent).length (valsOf []) from ⟨rfl, .inl ⟨rfl, rfl⟩⟩)
    go_wp2_with fail
    go_ret
    exact ⟨_, rfl, by rw [unhid E]; exact unhid HO, unhid HB2⟩
  | true =>
    have HF := hid (code_0 (rootOk_yes hq)).1
    have E := hid (show rootTreeE d = joinG d.packs by unfold rootTreeE; rw [hq]; rfl)
    have c0 := cell_arrS (unhid BX) 0 _ rfl
    clear hq
    go_wp2_with fail
    refine (joinAll_any d.packs _ w2 (unhid HS) (unhid HF) ((unhid H).below (unhid HB2))).mono ?_
    rintro x w3 ⟨u, rfl, ho, hb⟩
    have HB3 := hid ((unhid HB2).trans (hb.mono (unhid HB2).size))
    have HO := hid (ownsRow_lowerS ho (unhid HB2).size)
    clear ho hb c0
    go_wp2_with fail
    go_ret
    exact ⟨_, rfl, by rw [unhid E]; exact unhid HO, unhid HB3⟩
theorem rootTree_spec (d0 : RootD) (v : Value) (F : List Nat) (W : World) (hs : rootC.sz d0 ≤ 1048576 ∧ rootC.big d0) (h : (aggK rootC).own W v d0 F) : Calls Tryz.prog 22 #[v] W fun r W' => ∃ (u : Value) (G : List Nat), r = .returned u ∧ (rowK entryC 90).own W' u (rootTree_0 d0) G ∧ (∀ k ∈ G, W.heap.size ≤ k ∧ k < W'.heap.size) ∧ Below W.heap.size W W' := by
  obtain ⟨a, c, rfl, h1, _⟩ := root_in h
  refine (specRootTree_any d0 a c W (root_small hs.1) h1).mono fun r W' ⟨u, h2, h3, h4⟩ => ?_
  obtain ⟨G, g1, g2⟩ := entOwn_of h3
  exact ⟨u, G, h2, g1, g2, h4⟩
theorem rootTree_impl (d0 : RootD) (v : Value) (F : List Nat) (W : World) (hs : rootC.sz d0 ≤ 1048576 ∧ rootC.big d0) (h : (aggK rootC).own W v d0 F) : Calls Tryz.prog 23 #[v] W fun r W' => ∃ (u : Value) (G : List Nat), r = .returned u ∧ (rowK entryC 90).own W' u (rootTree_0 d0) G ∧ (∀ k ∈ G, W.heap.size ≤ k ∧ k < W'.heap.size) ∧ Below W.heap.size W W' := by
  obtain ⟨a, c, rfl, h1, _⟩ := root_in h
  refine (implRootTree_any d0 a c W (root_small hs.1) h1).mono fun r W' ⟨u, h2, h3, h4⟩ => ?_
  obtain ⟨G, g1, g2⟩ := entOwn_of h3
  exact ⟨u, G, h2, g1, g2, h4⟩
end Go.Proofs.YtlnpjiabdebmgaaGreat

/- A row that grows, each of its items with blocks of its own. -/
namespace Go.Proofs.YtlnpjiabdebmgaaGreat
open Go.RowKit

/-- An item: its cells, what they hold, and the blocks that it owns. -/
abbrev It (K : CK) := List Value × K.D × List Nat
def itCells {K : CK} (L : List (It K)) : List Value := L.flatMap (fun t => t.1)
def itD {K : CK} (L : List (It K)) : List K.D := L.map (fun t => t.2.1)
def itF {K : CK} (L : List (It K)) : List Nat := L.flatMap (fun t => t.2.2)
theorem itCells_app {K : CK} (A B : List (It K)) : itCells (A ++ B) = itCells A ++ itCells B := by simp [itCells]
theorem itD_app {K : CK} (A B : List (It K)) : itD (A ++ B) = itD A ++ itD B := by simp [itD]
theorem itF_app {K : CK} (A B : List (It K)) : itF (A ++ B) = itF A ++ itF B := by simp [itF]
theorem itD_len {K : CK} (A : List (It K)) : (itD A).length = A.length := by simp [itD]
theorem itD_take {K : CK} (A : List (It K)) (k : Nat) : itD (A.take k) = (itD A).take k := by simp [itD]
theorem itD_drop {K : CK} (A : List (It K)) (k : Nat) : itD (A.drop k) = (itD A).drop k := by simp [itD]
structure Items (K : CK) (W : World) (N : Nat) (L : List (It K)) : Prop where
  each : ∀ t ∈ L, K.own W t.1 t.2.1 t.2.2
  nodup : (itF L).Nodup
  base : ∀ k ∈ itF L, N ≤ k
theorem mem_itF {K : CK} {L : List (It K)} {t : It K} (ht : t ∈ L) {k : Nat} (hk : k ∈ t.2.2) : k ∈ itF L := List.mem_flatMap.2 ⟨t, ht, hk⟩
theorem Items.lt {K : CK} {W : World} {N : Nat} {L : List (It K)} (h : Items K W N L) : ∀ k ∈ itF L, k < W.heap.size := by
  intro k hk
  obtain ⟨t, ht, hk⟩ := List.mem_flatMap.1 hk
  exact K.lt (h.each t ht) k hk
theorem Items.frame {K : CK} {W W' : World} {N : Nat} {L : List (It K)} (h : Items K W N L) (hf : ∀ k ∈ itF L, W'.heap[k]? = W.heap[k]?) : Items K W' N L :=
  ⟨fun t ht => K.frame (h.each t ht) (fun k hk => hf k (mem_itF ht hk)), h.nodup, h.base⟩
theorem Items.nil {K : CK} (W : World) (N : Nat) : Items K W N ([] : List (It K)) := ⟨fun t ht => (by cases ht), List.nodup_nil, fun k hk => (by cases hk)⟩
theorem itCells_len {K : CK} {W : World} {N : Nat} {L : List (It K)} (h : Items K W N L) : (itCells L).length = L.length * K.n := by
  have h1 := h.each
  clear h
  induction L with
  | nil => simp [itCells]
  | cons t L ih =>
    have := ih (fun t ht => h1 t (List.mem_cons_of_mem _ ht))
    have h2 := K.len (h1 t (by simp))
    simp only [itCells, List.flatMap_cons, List.length_append, List.length_cons] at *
    rw [this, h2, Nat.add_mul]; omega
theorem itF_sub {K : CK} {A B : List (It K)} (h : A.Sublist B) : (itF A).Sublist (itF B) := by
  induction h with
  | slnil => exact List.Sublist.refl _
  | cons a _ ih => exact ih.trans (List.sublist_append_right _ _)
  | cons_cons a _ ih => exact List.Sublist.append (List.Sublist.refl _) ih
theorem Items.sub {K : CK} {W : World} {N : Nat} {A B : List (It K)} (h : Items K W N B) (hs : A.Sublist B) : Items K W N A :=
  ⟨fun t ht => h.each t (hs.subset ht), h.nodup.sublist (itF_sub hs), fun k hk => by
    obtain ⟨t, ht, hk⟩ := List.mem_flatMap.1 hk
    exact h.base k (mem_itF (hs.subset ht) hk)⟩
theorem Items.snoc {K : CK} {W : World} {N M : Nat} {L : List (It K)} {cs : List Value} {d : K.D} {F : List Nat} (h : Items K W N L) (hown : K.own W cs d F) (hM : ∀ k ∈ itF L, k < M) (hF : ∀ k ∈ F, M ≤ k) (hNM : N ≤ M) : Items K W N (L ++ [(cs, d, F)]) := by
  refine ⟨fun t ht => ?_, ?_, fun k hk => ?_⟩
  · rcases List.mem_append.1 ht with ht | ht
    · exact h.each t ht
    · rcases List.mem_singleton.1 ht with rfl; exact hown
  · rw [itF_app]
    refine List.nodup_append.2 ⟨h.nodup, ?_, fun x hx y hy e => ?_⟩
    · simpa [itF] using K.nodup hown
    · subst e
      have h1 := hM x hx
      have h2 := hF x (by simpa [itF] using hy)
      omega
  · rw [itF_app] at hk
    rcases List.mem_append.1 hk with hk | hk
    · exact h.base k hk
    · have := hF k (by simpa [itF] using hk); omega
/-- Where an item lies among the cells. -/
theorem itCells_get {K : CK} : ∀ {L : List (It K)}, (∀ t ∈ L, t.1.length = K.n) → ∀ (i : Nat) (t : It K), L[i]? = some t → ∀ j, j < K.n → (itCells L)[i * K.n + j]? = t.1[j]?
  | [], _, i, t, h, _, _ => by cases h
  | x :: L, hl, 0, t, h, j, hj => by
    simp at h; subst h
    show (x.1 ++ itCells L)[0 * K.n + j]? = _
    rw [Nat.zero_mul, Nat.zero_add, List.getElem?_append_left (by rw [hl x (by simp)]; exact hj)]
  | x :: L, hl, i + 1, t, h, j, hj => by
    have hx := hl x (by simp)
    show (x.1 ++ itCells L)[(i + 1) * K.n + j]? = _
    have e : (i + 1) * K.n = i * K.n + K.n := by rw [Nat.add_mul, Nat.one_mul]
    rw [List.getElem?_append_right (by omega), hx, show (i + 1) * K.n + j - K.n = i * K.n + j by omega]
    exact itCells_get (fun t ht => hl t (List.mem_cons_of_mem _ ht)) i t (by simpa using h) j hj
/-- A row that is owned, in the words of the shapes. -/
structure NRow (K : CK) (ty : Nat) (W : World) (N : Nat) (v : Value) (L : List (It K)) : Prop where
  row : W.ownsRow N ty K.n v L.length (itCells L)
  items : Items K W N L
  apart : ∀ g, v.ownBlock = some g → g ∉ itF L
theorem NRow.own {K : CK} {ty : Nat} {W : World} {N : Nat} {v : Value} {L : List (It K)} (h : NRow K ty W N v L) : ∃ F, rowOwn K ty W v (itD L) F ∧ ∀ k ∈ F, N ≤ k ∧ k < W.heap.size := by
  rcases h.row.2 with ⟨rfl, h0⟩ | ⟨g, cap, cur, hv, hN, hg, hc, _, hsz, hcells⟩
  · have : L = [] := List.length_eq_zero_iff.1 h0
    subst this
    exact ⟨[], .inl ⟨rfl, rfl, none, 0, rfl, fun _ => rfl⟩, fun k hk => by cases hk⟩
  · have hF : (L.map (fun t => t.2.2)).flatten = itF L := by simp [itF, List.flatMap]
    have hap : g ∉ itF L := h.apart g (by rw [hv]; rfl)
    have hgl := (Array.getElem?_eq_some_iff.1 hg).1
    refine ⟨g :: itF L, .inr ⟨g, cap, cur, L.map (fun t => t.2.2), by rw [itD_len]; exact hv, by rw [itD_len]; exact hc, by rw [hF], List.nodup_cons.2 ⟨hap, h.items.nodup⟩, ⟨hg, by rw [itD_len, hsz]; exact Nat.mul_le_mul_right _ hc, by rw [itD_len, List.length_map], fun i d hi => ?_⟩⟩, fun k hk => ?_⟩
    · unfold itD at hi
      rw [List.getElem?_map] at hi
      cases ht : L[i]? with
      | none => rw [ht] at hi; cases hi
      | some t =>
        rw [ht] at hi
        simp at hi
        subst hi
        have hm : t ∈ L := List.mem_of_getElem? ht
        have hown := h.items.each t hm
        refine ⟨t.1, t.2.2, by rw [List.getElem?_map, ht]; rfl, fun j c hj => ?_, hown⟩
        have hjn : j < K.n := by rw [← K.len hown]; exact (List.getElem?_eq_some_iff.1 hj).1
        have h1 := itCells_get (fun t ht => K.len (h.items.each t ht)) i t ht j hjn
        rw [hj, ← hcells] at h1
        have hil : i < L.length := (List.getElem?_eq_some_iff.1 ht).1
        have : (i + 1) * K.n ≤ L.length * K.n := Nat.mul_le_mul_right _ hil
        rw [Nat.add_mul, Nat.one_mul] at this
        rw [List.getElem?_take_of_lt (by omega), Array.getElem?_toList] at h1
        exact h1
    · rcases List.mem_cons.1 hk with rfl | hk
      · exact ⟨hN, hgl⟩
      · exact ⟨h.items.base k hk, h.items.lt k hk⟩
theorem NRow.frame {K : CK} {ty : Nat} {W W' : World} {N : Nat} {v : Value} {L : List (It K)} (h : NRow K ty W N v L) (hf : ∀ k, (v.ownBlock = some k ∨ k ∈ itF L) → W'.heap[k]? = W.heap[k]?) : NRow K ty W' N v L := by
  refine ⟨⟨h.row.1, ?_⟩, h.items.frame (fun k hk => hf k (.inr hk)), h.apart⟩
  rcases h.row.2 with h1 | ⟨g, cap, cur, hv, hN, hg, hr⟩
  · exact .inl h1
  · exact .inr ⟨g, cap, cur, hv, hN, by rw [hf g (.inl (by rw [hv]; rfl))]; exact hg, hr⟩
/-- All that a growing row reaches lies behind N. -/
theorem NRow.base {K : CK} {ty : Nat} {W : World} {N : Nat} {v : Value} {L : List (It K)} (h : NRow K ty W N v L) : ∀ k, (v.ownBlock = some k ∨ k ∈ itF L) → N ≤ k ∧ k < W.heap.size := by
  intro k hk
  rcases hk with hk | hk
  · rcases h.row.2 with ⟨rfl, _⟩ | ⟨g, cap, cur, rfl, hN, hg, _⟩
    · cases hk
    · have : g = k := by simpa [Value.ownBlock] using hk
      subst this
      exact ⟨hN, (Array.getElem?_eq_some_iff.1 hg).1⟩
  · exact ⟨h.items.base k hk, h.items.lt k hk⟩
/-- Items that are read become items that are owned, where they own no block. -/
theorem leaf_items {K : CK} (hleaf : ∀ {W W' : World} {cs : List Value} {d : K.D}, K.at_ W cs d → K.own W' cs d []) {W : World} {v : Value} {ds : List K.D} (h : rowAt K W v ds) : ∃ (a : Option Addr) (cap : Nat) (L : List (It K)), v = .slice a ds.length cap ∧ (a = none → cap = 0) ∧ itD L = ds ∧ L.length = ds.length ∧ itF L = [] ∧ (∀ W' N, Items K W' N L) ∧ (ds = [] ∨ ∃ b o, a = some ⟨b, o, none⟩ ∧ b < W.heap.size ∧ ∀ j u, (itCells L)[j]? = some u → W.cell? ⟨b, o + j, none⟩ = some u) := by
  obtain ⟨a, cap, hv, hn, hc, h⟩ := h
  rcases h with rfl | ⟨b, o, ha, hb, h⟩
  · exact ⟨a, cap, [], hv, hn, rfl, rfl, rfl, fun W' N => Items.nil W' N, .inl rfl⟩
  · have key : ∀ (es : List K.D) (s : Nat), (∀ (i : Nat) d, es[i]? = some d → ∃ cs, K.at_ W cs d ∧ ∀ j c, cs[j]? = some c → W.cell? ⟨b, s + i * K.n + j, none⟩ = some c) → ∃ L : List (It K), itD L = es ∧ L.length = es.length ∧ itF L = [] ∧ (∀ W' N, Items K W' N L) ∧ ∀ j u, (itCells L)[j]? = some u → W.cell? ⟨b, s + j, none⟩ = some u := by
      intro es
      induction es with
      | nil => intro s _; exact ⟨[], rfl, rfl, rfl, fun W' N => Items.nil W' N, fun j u hj => by cases hj⟩
      | cons e es ih =>
        intro s hs
        obtain ⟨cs, h1, h2⟩ := hs 0 e rfl
        obtain ⟨L, g1, g2, g3, g4, g5⟩ := ih (s + K.n) (fun i d hi => by
          obtain ⟨cs, q1, q2⟩ := hs (i + 1) d (by simpa using hi)
          refine ⟨cs, q1, fun j c hj => ?_⟩
          have := q2 j c hj
          rw [Nat.add_mul, Nat.one_mul] at this
          rw [← this]; congr 2; omega)
        have hl := K.alen h1
        refine ⟨(cs, e, []) :: L, by show e :: itD L = _; rw [g1], by simp [g2], by show [] ++ itF L = []; rw [g3]; rfl, fun W' N => ⟨fun t ht => ?_, by show ([] ++ itF L).Nodup; rw [g3]; exact List.nodup_nil, fun k hk => by rw [show itF ((cs, e, []) :: L) = [] ++ itF L from rfl, g3] at hk; cases hk⟩, fun j u hj => ?_⟩
        · rcases List.mem_cons.1 ht with rfl | ht
          · exact hleaf h1
          · exact (g4 W' N).each t ht
        · rw [show itCells ((cs, e, []) :: L) = cs ++ itCells L from rfl] at hj
          rcases Nat.lt_or_ge j cs.length with hjl | hjl
          · rw [List.getElem?_append_left hjl] at hj
            have := h2 j u hj
            rwa [Nat.zero_mul, Nat.add_zero] at this
          · rw [List.getElem?_append_right hjl] at hj
            have := g5 _ _ hj
            rw [hl] at this hjl
            rw [← this]; congr 2; omega
    obtain ⟨L, g1, g2, g3, g4, g5⟩ := key ds o h
    exact ⟨a, cap, L, hv, hn, g1, g2, g3, g4, .inr ⟨b, o, ha, hb, g5⟩⟩
end Go.Proofs.YtlnpjiabdebmgaaGreat

/- Items appended to a row that grows; rows copied, of items that own no block. -/
namespace Go.Proofs.YtlnpjiabdebmgaaGreat
open Go.RowKit Go.Shelf

/-- What a row's type says of its items. -/
structure ET (K : CK) (t e : Nat) : Prop where
  ex : ∃ (i : TypeInfo) (z : Value) (bytes : Nat), Tryz.prog.underlying t = some (.slice e) ∧ Tryz.prog.info? e = some i ∧ i.zero = some z ∧ i.size = K.n ∧ i.bytes = bytes ∧ z.cells.size = K.n ∧ 0 < K.n ∧ bytes ≤ 1000
theorem etNeed : ET needC 28 79 := by
  obtain ⟨i0, hi, hz0, hz1, hz2⟩ := info_parts vinfoNeed
  exact ⟨⟨i0, _, 40, Tryz.underlying28, hi, hz0, hz1, hz2, rfl, by decide, by decide⟩⟩
theorem etEntry : ET entryC 29 90 := by
  obtain ⟨i0, hi, hz0, hz1, hz2⟩ := info_parts vinfoEntry
  exact ⟨⟨i0, _, 48, Tryz.underlying29, hi, hz0, hz1, hz2, rfl, by decide, by decide⟩⟩
theorem etPack : ET packC 40 31 := by
  obtain ⟨i0, hi, hz0, hz1, hz2⟩ := info_parts vinfoPack
  exact ⟨⟨i0, _, 80, Tryz.underlying40, hi, hz0, hz1, hz2, rfl, by decide, by decide⟩⟩
theorem needLeaf {W W' : World} {cs : List Value} {d : needC.D} (h : needC.at_ W cs d) : needC.own W' cs d [] := needC_mk ⟨needC_at h, rfl⟩
theorem entryLeaf {W W' : World} {cs : List Value} {d : entryC.D} (h : entryC.at_ W cs d) : entryC.own W' cs d [] := entryC_mk ⟨entryC_at h, rfl⟩
/-- Every cell of an item is one cell. -/
def OneC (K : CK) : Prop := ∀ (W : World) (cs : List Value) (d : K.D) (F : List Nat), K.own W cs d F → ∀ u ∈ cs, u.oneCell' = true
theorem oneNeed : OneC needC := fun W cs d F h u hu => by
  obtain ⟨rfl, _⟩ := needC_own h
  simp at hu
  rcases hu with rfl | rfl | rfl <;> rfl
theorem oneEntry : OneC entryC := fun W cs d F h u hu => by
  obtain ⟨rfl, _⟩ := entryC_own h
  simp at hu
  rcases hu with rfl | rfl | rfl | rfl <;> rfl
theorem onePack : OneC packC := fun W cs d F h u hu => by
  obtain ⟨v2, v3, F2, F3, rfl, _, h2, h3, _⟩ := packC_own h
  obtain ⟨a2, c2, rfl⟩ := rowOwn.slice h2
  obtain ⟨a3, c3, rfl⟩ := rowOwn.slice h3
  simp at hu
  rcases hu with rfl | rfl | rfl | rfl <;> rfl
theorem itCells_one {K : CK} (h1 : OneC K) {W : World} {N : Nat} {L : List (It K)} (h : Items K W N L) : ∀ u ∈ itCells L, u.oneCell' = true := fun u hu => by
  obtain ⟨t, ht, hu⟩ := List.mem_flatMap.1 hu
  exact h1 W t.1 t.2.1 t.2.2 (h.each t ht) u hu
theorem add_plainR (b o n : Nat) : (⟨b, o, none⟩ : Addr).add n = ⟨b, o + n, none⟩ := by simp [Addr.add]

/-- Items appended. -/
theorem app_items {K : CK} {t e : Nat} (hET : ET K t e) (h1 : OneC K) (w : World) (ty N : Nat) (v : Value) (L M : List (It K)) (b o c : Nat) (h : NRow K e w N v L) (hM : Items K w N (L ++ M)) (hap : ∀ g, v.ownBlock = some g → g ∉ itF M) (hcell : ∀ j u, (itCells M)[j]? = some u → w.cell? ⟨b, o + j, none⟩ = some u) (hn : L.length + M.length ≤ 4194304) (hN : N ≤ w.heap.size) :
    ∃ v' w', (Builtin.append_ #[t, t] ty #[v, .slice (some ⟨b, o, none⟩) M.length c]).run Tryz.prog w = .ok v' w' ∧ NRow K e w' N v' (L ++ M) ∧ w.grownBy w' v.ownBlock ∧ (v'.ownBlock = v.ownBlock ∨ v'.ownBlock = some w.heap.size) ∧ (v' = .slice none 0 0 ↔ v = .slice none 0 0 ∧ M.length = 0) := by
  obtain ⟨i, z, bytes, ht, hi, hz, hs, hb, hzs, hn0, hbs⟩ := hET.ex
  have hMi : Items K w N M := hM.sub (List.sublist_append_right L M)
  have hbb : (L.length + M.length) * bytes ≤ 140737488355328 := Nat.le_trans (Nat.mul_le_mul hn hbs) (by decide)
  obtain ⟨v', w', hr, q1, q2, q3, q4⟩ := run_append_own_at (P := Tryz.prog) w N t ty e i z K.n bytes ht hi hz hs hb hzs hn0 v L.length (itCells L) h.row ⟨b, o, none⟩ M.length c (itCells M) (itCells_len hMi) (fun j u hj => by rw [add_plainR]; exact hcell j u hj) (itCells_one h1 hMi) (by unfold maxLen; omega) hbb hN
  have hav : ∀ g, v.ownBlock = some g → g ∉ itF (L ++ M) := fun g hg => by
    rw [itF_app]; exact not_app (h.apart g hg) (hap g hg)
  refine ⟨v', w', hr, ⟨by rw [List.length_append, itCells_app]; exact q1, hM.frame (fun k hk => q2.block k (hM.lt k hk) (fun e => hav k e.symm hk)), fun g hg => ?_⟩, q2, q4, q3⟩
  rcases q4 with e | e
  · exact hav g (by rw [← e]; exact hg)
  · intro hk
    rw [e] at hg
    have := hM.lt g hk
    simp at hg
    omega
theorem NRow.empty {K : CK} {e : Nat} (w : World) (N : Nat) (hN : N ≤ w.heap.size) : NRow K e (w.alloc (.cells #[] e)) N (.slice (some ⟨w.heap.size, 0, none⟩) 0 0) [] :=
  ⟨⟨by simp [itCells], .inr ⟨w.heap.size, 0, #[], rfl, hN, World.alloc_heap_new _ _, Nat.le_refl _, Nat.zero_le _, by simp, by simp [itCells]⟩⟩, Items.nil _ _, fun g _ hk => by cases hk⟩
theorem NRow.none {K : CK} {e : Nat} (w : World) (N : Nat) : NRow K e w N (.slice .none 0 0) [] :=
  ⟨⟨by simp [itCells], .inl ⟨rfl, rfl⟩⟩, Items.nil _ _, fun g _ hk => by cases hk⟩
/-- A row that was made: its memory is new, and what was there is as it was. -/
def RowMade (K : CK) (e : Nat) (w : World) (ds : List K.D) (v : Value) (w' : World) : Prop := (∃ F, rowOwn K e w' v ds F ∧ ∀ k ∈ F, w.heap.size ≤ k ∧ k < w'.heap.size) ∧ Below w.heap.size w w'
/-- A row read, appended to an empty one. -/
theorem app_leaf {K : CK} {t e : Nat} (hET : ET K t e) (h1 : OneC K) (hleaf : ∀ {W W' : World} {cs : List Value} {d : K.D}, K.at_ W cs d → K.own W' cs d []) (w : World) (ty : Nat) (v : Value) (ds : List K.D) (h : rowAt K w v ds) (hn : ds.length ≤ 4194304) :
    ∃ v' w', (Builtin.append_ #[t, t] ty #[.slice (some ⟨w.heap.size, 0, none⟩) 0 0, v]).run Tryz.prog (w.alloc (.cells #[] e)) = .ok v' w' ∧ (∃ F, rowOwn K e w' v' ds F ∧ ∀ k ∈ F, w.heap.size ≤ k ∧ k < w'.heap.size) ∧ Below w.heap.size w w' := by
  have hB1 : Below w.heap.size w (w.alloc (.cells #[] e)) := (Below.refl _ w).alloc (Nat.le_refl _) _
  have hE := NRow.empty (K := K) (e := e) w w.heap.size (Nat.le_refl _)
  obtain ⟨a, cap, L, rfl, hcn, rfl, hl, hF, hI, hcell⟩ := leaf_items hleaf h
  cases a with
  | none =>
    have h0 : itD L = [] := by
      rcases hcell with h | ⟨b, o, e, _⟩
      · exact h
      · cases e
    obtain rfl := hcn rfl
    obtain ⟨i, z, bytes, ht, hi, hz, hs, hb, hzs, hn0, hbs⟩ := hET.ex
    rw [h0]
    refine ⟨.slice (some ⟨w.heap.size, 0, none⟩) 0 0, _, run_append_owned_none (P := Tryz.prog) (w.alloc (.cells #[] e)) w.heap.size t ty e i K.n ht hi _ _ _ hE.row, hE.own, hB1⟩
  | some ad =>
    rcases hcell with h0 | ⟨b, o, e1, hb, hcell⟩
    · have hL0 : L = [] := by
        rw [← List.length_eq_zero_iff, hl, h0]; rfl
      subst hL0
      obtain ⟨i, z, bytes, ht, hi, hz, hs, hbb, hzs, hn0, hbs⟩ := hET.ex
      obtain ⟨v', w', hr, q1, q2, q3, q4⟩ := run_append_own_at (P := Tryz.prog) (w.alloc (.cells #[] e)) w.heap.size t ty e i z K.n bytes ht hi hz hs hbb hzs hn0 _ 0 (itCells (K := K) []) hE.row ad 0 cap [] (by simp) (fun j u hj => by simp at hj) (fun u hu => by simp at hu) (by unfold maxLen; omega) (by omega) hB1.size
      refine ⟨v', w', hr, NRow.own (L := []) ⟨by simpa [itCells] using q1, Items.nil _ _, fun g _ hk => by cases hk⟩, hB1.grown q2 hB1.size (fun k hk => by simp [Value.ownBlock] at hk; omega)⟩
    · cases e1
      obtain ⟨v', w', hr, q1, q2, q3, q4⟩ := app_items hET h1 (w.alloc (.cells #[] e)) ty w.heap.size _ [] L b o cap hE (by rw [List.nil_append]; exact hI _ _) (fun g _ hk => by rw [hF] at hk; cases hk) (fun j u hj => (hB1.cell (p := ⟨b, o + j, none⟩) hb).trans (hcell j u hj)) (by simp; omega) hB1.size
      rw [hl] at hr
      exact ⟨v', w', hr, q1.own, hB1.grown q2 hB1.size (fun k hk => by simp [Value.ownBlock] at hk; omega)⟩
/-- The same, as an operation. -/
theorem wp_leaf {K : CK} {t e : Nat} (hET : ET K t e) (h1 : OneC K) (hleaf : ∀ {W W' : World} {cs : List Value} {d : K.D}, K.at_ W cs d → K.own W' cs d []) {ops : Array Oper} {rest : List Oper} {o : Oper} {a : Act} (w : World) {Q : Exit → Act → World → Prop} (hgd : o.guard = none) (s x : Operand) (ho : o.op = .call { callee := .builtin .append, args := #[s, x], argTypes := #[t, t] })
    (v : Value) (ds : List K.D) (h : rowAt K w v ds) (hn : ds.length ≤ 4194304) (hs : a.eval s = .slice (some ⟨w.heap.size, 0, none⟩) 0 0) (hx : a.eval x = v)
    (hk : ∀ v' w', RowMade K e w ds v' w' → wpList Tryz.prog ops Q rest (a.put o.dst v') w') : wpList Tryz.prog ops Q (o :: rest) a (w.alloc (.cells #[] e)) := by
  refine wpList_plain hgd fun K' hK => ?_
  obtain ⟨v', w', hr, h2, h3⟩ := app_leaf hET h1 hleaf w o.type v ds h hn
  unfold Oper.wp execOp
  simp only [ho, resolve, invoke, builtin, Sem.run_bind, Sem.run_pure, Result.andThen_ok, List.map_toArray, List.map_cons, List.map_nil, hs, hx, hr]
  exact hK _ _ (hk v' w' ⟨h2, h3⟩)
end Go.Proofs.YtlnpjiabdebmgaaGreat

/- Rows of needs and of entries, copied. -/
namespace Go.Proofs.YtlnpjiabdebmgaaGreat
open Go.RowKit Go.Shelf

/-- What a copy is. -/
def Copied (K : CK) (e : Nat) (w : World) (ds : List K.D) (x : Ending) (w' : World) : Prop := ∃ v, x = .returned v ∧ RowMade K e w ds v w'
theorem rowAt_slice {K : CK} {W : World} {v : Value} {ds : List K.D} (h : rowAt K W v ds) : ∃ a c, v = .slice a ds.length c ∧ (a = none → c = 0) ∧ (a = none → ds = []) := by
  obtain ⟨a, c, hv, hn, _, h⟩ := h
  refine ⟨a, c, hv, hn, fun e => ?_⟩
  rcases h with h | ⟨b, o, e2, _⟩
  · exact h
  · rw [e] at e2; cases e2
set_option maxRecDepth 100000 in
set_option maxHeartbeats 1000000 in
theorem eq_nilNeed (a : Option Addr) (l c : Nat) (w : World) : (binOp .eql 28 (.slice a l c) (.slice none 0 0)).run Tryz.prog w = .ok (.bool a.isNone) w := by
  simp only [binOp]
  simp [run_equal_slice_nil _ _ _ _ _ _ Tryz.underlying28]
set_option maxRecDepth 100000 in
set_option maxHeartbeats 1000000 in
theorem eq_nilEntry (a : Option Addr) (l c : Nat) (w : World) : (binOp .eql 29 (.slice a l c) (.slice none 0 0)).run Tryz.prog w = .ok (.bool a.isNone) w := by
  simp only [binOp]
  simp [run_equal_slice_nil _ _ _ _ _ _ Tryz.underlying29]
set_option maxRecDepth 100000 in
set_option maxHeartbeats 1000000 in
theorem cloneNeedS_any (ds : List needC.D) (v : Value) (w : World) (hn : ds.length ≤ 4194304) (h : rowAt needC w v ds) : Calls Tryz.prog 172 #[v] w (Copied needC 79 w ds) := by
  obtain ⟨i0, hi0, hz0, hzs, hzb⟩ := info_parts vinfoNeed
  obtain ⟨a, c, rfl, h1, h2⟩ := rowAt_slice h
  cases a with
  | none =>
    obtain rfl := h1 rfl
    obtain rfl := h2 rfl
    have hq := fun w => eq_nilNeed none 0 0 w
    go_enter Tryz.func172, Tryz.ntmps172
    go_wp2_with fail
    go_ret
    exact ⟨_, rfl, ⟨[], .inl ⟨rfl, rfl, none, 0, rfl, fun _ => rfl⟩, fun k hk => (by cases hk)⟩, Below.refl _ _⟩
  | some ad =>
    have H := hid h
    clear h h1 h2
    have hq := fun w => eq_nilNeed (some ad) ds.length c w
    go_enter Tryz.func172, Tryz.ntmps172
    go_wp2_with (at_builtin; refine wp_leaf etNeed oneNeed needLeaf w rfl _ _ rfl _ ds (unhid H) hn rfl rfl ?_)
    intro v' w1 HF
    go_wp2_with fail
    go_ret
    exact ⟨_, rfl, HF⟩
set_option maxRecDepth 100000 in
set_option maxHeartbeats 1000000 in
theorem cloneEntryS_any (ds : List entryC.D) (v : Value) (w : World) (hn : ds.length ≤ 4194304) (h : rowAt entryC w v ds) : Calls Tryz.prog 173 #[v] w (Copied entryC 90 w ds) := by
  obtain ⟨i0, hi0, hz0, hzs, hzb⟩ := info_parts vinfoEntry
  obtain ⟨a, c, rfl, h1, h2⟩ := rowAt_slice h
  cases a with
  | none =>
    obtain rfl := h1 rfl
    obtain rfl := h2 rfl
    have hq := fun w => eq_nilEntry none 0 0 w
    go_enter Tryz.func173, Tryz.ntmps173
    go_wp2_with fail
    go_ret
    exact ⟨_, rfl, ⟨[], .inl ⟨rfl, rfl, none, 0, rfl, fun _ => rfl⟩, fun k hk => (by cases hk)⟩, Below.refl _ _⟩
  | some ad =>
    have H := hid h
    clear h h1 h2
    have hq := fun w => eq_nilEntry (some ad) ds.length c w
    go_enter Tryz.func173, Tryz.ntmps173
    go_wp2_with (at_builtin; refine wp_leaf etEntry oneEntry entryLeaf w rfl _ _ rfl _ ds (unhid H) hn rfl rfl ?_)
    intro v' w1 HF
    go_wp2_with fail
    go_ret
    exact ⟨_, rfl, HF⟩
set_option maxRecDepth 100000 in
set_option maxHeartbeats 1000000 in
theorem l2CopyR_any (ds : List entryC.D) (v : Value) (w : World) (hn : ds.length ≤ 4194304) (h : rowAt entryC w v ds) : Calls Tryz.prog 166 #[v] w (Copied entryC 90 w ds) := by
  obtain ⟨i0, hi0, hz0, hzs, hzb⟩ := info_parts vinfoEntry
  obtain ⟨a, c, rfl, _, _⟩ := rowAt_slice h
  have H := hid h
  clear h
  go_enter Tryz.func166, Tryz.ntmps166
  go_wp2_with (at_builtin; refine wp_leaf etEntry oneEntry entryLeaf w rfl _ _ rfl _ ds (unhid H) hn rfl rfl ?_)
  intro v' w1 HF
  go_wp2_with fail
  go_ret
  exact ⟨_, rfl, HF⟩
end Go.Proofs.YtlnpjiabdebmgaaGreat

/- A pack copied: by the program, and by the model. -/
namespace Go.Proofs.YtlnpjiabdebmgaaGreat
open Go.RowKit Go.Shelf

def PackMade (w : World) (d : packC.D) (x : Ending) (w' : World) : Prop := ∃ (cs' : List Value) (F : List Nat), x = .returned (.agg cs'.toArray) ∧ packC.own w' cs' d F ∧ (∀ k ∈ F, w.heap.size ≤ k ∧ k < w'.heap.size) ∧ Below w.heap.size w w'
theorem two_boxesP (w : World) (p r : Obj) : ((w.alloc p).alloc r).heap[w.heap.size]? = some p ∧ ((w.alloc p).alloc r).heap[w.heap.size + 1]? = some r ∧ w.heap.size + 1 < ((w.alloc p).alloc r).heap.size ∧ Below w.heap.size w ((w.alloc p).alloc r) := by
  have s1 : (w.alloc p).heap.size = w.heap.size + 1 := by simp
  have b1 := (Below.refl (w.alloc p).heap.size (w.alloc p)).alloc (Nat.le_refl _) r
  have n0 := World.alloc_heap_new w p
  have n1 := World.alloc_heap_new (w.alloc p) r
  rw [s1] at n1
  exact ⟨by rw [b1.block _ (by omega)]; exact n0, n1, by simp, ((Below.refl _ w).alloc (Nat.le_refl _) p).alloc (by simp) r⟩
set_option maxRecDepth 100000 in
set_option maxHeartbeats 4000000 in
theorem clonePack_any (d : packC.D) (cs : List Value) (w : World) (hs : (PackD.needs d).length ≤ 4194304 ∧ (PackD.tree d).length ≤ 4194304) (h : packC.at_ w cs d) : Calls Tryz.prog 131 #[.agg cs.toArray] w (PackMade w d) := by
  obtain ⟨v2, v3, rfl, h2, h3⟩ := packC_at h
  obtain ⟨name, version, needs, tree⟩ := d
  obtain ⟨hs2, hs3⟩ := hs
  dsimp only at *
  have H2 := hid h2
  have H3 := hid h3
  clear h h2 h3
  go_enter Tryz.func131, Tryz.ntmps131
  go_wp2_with fail
  obtain ⟨hP, hR, hS, hB⟩ := two_boxesP w (.cells #[.string name, .string version, v2, v3] 31) (.cells #[.string ⟨#[]⟩, .string ⟨#[]⟩, .slice none 0 0, .slice none 0 0] 31)
  generalize (w.alloc (.cells #[.string name, .string version, v2, v3] 31)).alloc (.cells #[.string ⟨#[]⟩, .string ⟨#[]⟩, .slice none 0 0, .slice none 0 0] 31) = W0 at hP hR hS hB ⊢
  have JP := hid hP
  have JR := hid hR
  have JS := hid hS
  have JB := hid hB
  clear hP hR hS hB
  refine (cloneNeedS_any needs v2 W0 hs2 ((unhid H2).below (unhid JB))).mono ?_
  rintro x w2 ⟨uu, rfl, ⟨F2, hown, hfr⟩, hb⟩
  obtain ⟨ua2, uc2, hu⟩ := rowOwn.slice hown
  subst hu
  have hP := (hb.block _ (by have := unhid JS; omega)).trans (unhid JP)
  have hR := (hb.block _ (by have := unhid JS; omega)).trans (unhid JR)
  have hS := Nat.lt_of_lt_of_le (unhid JS) hb.size
  have hB := (unhid JB).trans (hb.mono (unhid JB).size)
  have X2 := hid hown
  have Y2 := hid (show ∀ k ∈ F2, w.heap.size + 1 < k ∧ k < w2.heap.size from fun k hk => ⟨Nat.lt_of_lt_of_le (unhid JS) (hfr k hk).1, (hfr k hk).2⟩)
  clear hown hfr hb JP JR JS JB
  obtain ⟨o0, p0⟩ := cell_fz hP 0 _ rfl
  obtain ⟨o1, p1⟩ := cell_fz hP 1 _ rfl
  obtain ⟨o2, p2⟩ := cell_fz hP 2 _ rfl
  obtain ⟨o3, p3⟩ := cell_fz hP 3 _ rfl
  have kk : (w2.setCell ⟨w.heap.size, 2, none⟩ (.slice ua2 needs.length uc2)).cell? ⟨w.heap.size, 3, none⟩ = some v3 := by rw [World.cell?_setCell_other _ _ _ _ (by simp)]; exact o3
  go_wp2_with fail
  have hP : (w2.setCell ⟨w.heap.size, 2, none⟩ (.slice ua2 needs.length uc2)).heap[w.heap.size]? = some (.cells #[.string name, .string version, (.slice ua2 needs.length uc2), v3] 31 (0, 0)) := heap_setCell_same w2 (w.heap.size) 2 _ _ (.slice ua2 needs.length uc2) hP
  have hR := (Below.heap_setCell w2 ⟨w.heap.size, 2, none⟩ (.slice ua2 needs.length uc2) (w.heap.size + 1) (by dsimp only; omega)).trans hR
  have hS : w.heap.size + 1 < (w2.setCell ⟨w.heap.size, 2, none⟩ (.slice ua2 needs.length uc2)).heap.size := by simpa using hS
  have hB : Below w.heap.size w (w2.setCell ⟨w.heap.size, 2, none⟩ (.slice ua2 needs.length uc2)) := hB.setCell (by dsimp only; omega) _
  have X2 := hid (rowOwn.frame (W' := w2.setCell ⟨w.heap.size, 2, none⟩ (.slice ua2 needs.length uc2)) (unhid X2) (fun k hk => Below.heap_setCell _ _ _ _ (by have := ((unhid Y2) k hk).1; dsimp only; omega)))
  have Y2 := hid (show ∀ k ∈ F2, w.heap.size + 1 < k ∧ k < (w2.setCell ⟨w.heap.size, 2, none⟩ (.slice ua2 needs.length uc2)).heap.size from fun k hk => by have := (unhid Y2) k hk; simpa using this)
  clear kk o0 p0 o1 p1 o2 p2 o3 p3
  generalize w2.setCell ⟨w.heap.size, 2, none⟩ (.slice ua2 needs.length uc2) = W3 at *
  have YY2 := hid (show ∀ k ∈ F2, k < W3.heap.size from fun k hk => ((unhid Y2) k hk).2)
  have JP := hid hP
  have JR := hid hR
  have JS := hid hS
  have JB := hid hB
  clear hP hR hS hB
  refine (cloneEntryS_any tree v3 W3 hs3 ((unhid H3).below (unhid JB))).mono ?_
  rintro x w3 ⟨uu, rfl, ⟨F3, hown, hfr⟩, hb⟩
  obtain ⟨ua3, uc3, hu⟩ := rowOwn.slice hown
  subst hu
  have hP := (hb.block _ (by have := unhid JS; omega)).trans (unhid JP)
  have hR := (hb.block _ (by have := unhid JS; omega)).trans (unhid JR)
  have hS := Nat.lt_of_lt_of_le (unhid JS) hb.size
  have hB := (unhid JB).trans (hb.mono (unhid JB).size)
  have X2 := hid (rowOwn.frame (unhid X2) (fun k hk => hb.block k ((unhid Y2) k hk).2))
  have Y2 := hid (show ∀ k ∈ F2, w.heap.size + 1 < k ∧ k < w3.heap.size from fun k hk => ⟨((unhid Y2) k hk).1, Nat.lt_of_lt_of_le ((unhid Y2) k hk).2 hb.size⟩)
  have D23 := hid (show ∀ k ∈ F2, k ∉ F3 from fun k hk e => by have h1 := (hfr k e).1; have h2 := (unhid YY2) k hk; omega)
  have X3 := hid hown
  have Y3 := hid (show ∀ k ∈ F3, w.heap.size + 1 < k ∧ k < w3.heap.size from fun k hk => ⟨Nat.lt_of_lt_of_le (unhid JS) (hfr k hk).1, (hfr k hk).2⟩)
  clear hown hfr hb JP JR JS JB
  obtain ⟨o0, p0⟩ := cell_fz hP 0 _ rfl
  obtain ⟨o1, p1⟩ := cell_fz hP 1 _ rfl
  obtain ⟨o2, p2⟩ := cell_fz hP 2 _ rfl
  obtain ⟨o3, p3⟩ := cell_fz hP 3 _ rfl
  obtain ⟨r0, q0⟩ := cell_fz hR 0 _ rfl
  obtain ⟨r1, q1⟩ := cell_fz hR 1 _ rfl
  obtain ⟨r2, q2⟩ := cell_fz hR 2 _ rfl
  obtain ⟨r3, q3⟩ := cell_fz hR 3 _ rfl
  have k0 : (w3.setCell ⟨w.heap.size, 3, none⟩ (.slice ua3 tree.length uc3)).cell? ⟨w.heap.size, 0, none⟩ = some (.string name) := by rw [World.cell?_setCell_other _ _ _ _ (by simp)]; exact o0
  have k1 : (w3.setCell ⟨w.heap.size, 3, none⟩ (.slice ua3 tree.length uc3)).cell? ⟨w.heap.size, 1, none⟩ = some (.string version) := by rw [World.cell?_setCell_other _ _ _ _ (by simp)]; exact o1
  have k2 : (w3.setCell ⟨w.heap.size, 3, none⟩ (.slice ua3 tree.length uc3)).cell? ⟨w.heap.size, 2, none⟩ = some (.slice ua2 needs.length uc2) := by rw [World.cell?_setCell_other _ _ _ _ (by simp)]; exact o2
  go_wp2_with fail
  have hsame : ∀ k, k ≠ w.heap.size → k ≠ w.heap.size + 1 → (((((w3.setCell ⟨w.heap.size, 3, none⟩ (.slice ua3 tree.length uc3)).setCell ⟨w.heap.size + 1, 0, none⟩ (.string name)).setCell ⟨w.heap.size + 1, 1, none⟩ (.string version)).setCell ⟨w.heap.size + 1, 2, none⟩ (.slice ua2 needs.length uc2)).setCell ⟨w.heap.size + 1, 3, none⟩ (.slice ua3 tree.length uc3)).heap[k]? = w3.heap[k]? := fun k h1 h2 => by rw [Below.heap_setCell _ _ _ _ (by exact h2), Below.heap_setCell _ _ _ _ (by exact h2), Below.heap_setCell _ _ _ _ (by exact h2), Below.heap_setCell _ _ _ _ (by exact h2), Below.heap_setCell _ _ _ _ (by exact h1)]
  have hfin : Below w.heap.size w (((((w3.setCell ⟨w.heap.size, 3, none⟩ (.slice ua3 tree.length uc3)).setCell ⟨w.heap.size + 1, 0, none⟩ (.string name)).setCell ⟨w.heap.size + 1, 1, none⟩ (.string version)).setCell ⟨w.heap.size + 1, 2, none⟩ (.slice ua2 needs.length uc2)).setCell ⟨w.heap.size + 1, 3, none⟩ (.slice ua3 tree.length uc3)) := (((((hB.setCell (by dsimp only; omega) _).setCell (by dsimp only; omega) _).setCell (by dsimp only; omega) _).setCell (by dsimp only; omega) _).setCell (by dsimp only; omega) _)
  refine bodyPost_ret (v := .agg #[.string name, .string version, (.slice ua2 needs.length uc2), (.slice ua3 tree.length uc3)]) (by simp [results, Tryz.results131, go_sem, World.cell?_setCell_same', r0, r1, r2, r3]) rfl ⟨[.string name, .string version, (.slice ua2 needs.length uc2), (.slice ua3 tree.length uc3)], F2 ++ F3, rfl, packC_mk ⟨_, _, F2, F3, rfl, rfl, rowOwn.frame (unhid X2) (fun k hk => hsame k (by have := ((unhid Y2) k hk).1; omega) (by have := ((unhid Y2) k hk).1; omega)), rowOwn.frame (unhid X3) (fun k hk => hsame k (by have := ((unhid Y3) k hk).1; omega) (by have := ((unhid Y3) k hk).1; omega)), unhid D23⟩, ?_, hfin⟩
  intro k hk
  have hsz : (((((w3.setCell ⟨w.heap.size, 3, none⟩ (.slice ua3 tree.length uc3)).setCell ⟨w.heap.size + 1, 0, none⟩ (.string name)).setCell ⟨w.heap.size + 1, 1, none⟩ (.string version)).setCell ⟨w.heap.size + 1, 2, none⟩ (.slice ua2 needs.length uc2)).setCell ⟨w.heap.size + 1, 3, none⟩ (.slice ua3 tree.length uc3)).heap.size = w3.heap.size := by simp
  rw [hsz]
  simp only [List.mem_append] at hk
  rcases hk with hk | hk
  · have := (unhid Y2) k hk
    omega
  · have := (unhid Y3) k hk
    omega
set_option maxRecDepth 100000 in
set_option maxHeartbeats 4000000 in
theorem l9Pack_any (d : packC.D) (cs : List Value) (w : World) (hs : (PackD.needs d).length ≤ 4194304 ∧ (PackD.tree d).length ≤ 4194304) (h : packC.at_ w cs d) : Calls Tryz.prog 127 #[.agg cs.toArray] w (PackMade w d) := by
  obtain ⟨v2, v3, rfl, h2, h3⟩ := packC_at h
  obtain ⟨name, version, needs, tree⟩ := d
  obtain ⟨hs2, hs3⟩ := hs
  dsimp only at *
  have H2 := hid h2
  have H3 := hid h3
  clear h h2 h3
  obtain ⟨hP, hR, hS, hB⟩ := two_boxesP w (.cells #[.string name, .string version, v2, v3] 31) (.cells #[.string ⟨#[]⟩, .string ⟨#[]⟩, .slice none 0 0, .slice none 0 0] 31)
  have HE := hid ((unhid H2).below hB)
  have JP := hid hP
  have JR := hid hR
  have JS := hid hS
  have JB := hid hB
  clear hP hR hS hB
  go_enter Tryz.func127, Tryz.ntmps127
  go_wp2_with (at_builtin; refine wp_leaf etNeed oneNeed needLeaf ((w.alloc (.cells #[.string name, .string version, v2, v3] 31)).alloc (.cells #[.string ⟨#[]⟩, .string ⟨#[]⟩, .slice none 0 0, .slice none 0 0] 31)) rfl _ _ rfl v2 needs (unhid HE) hs2 (by simp [Act.eval]) rfl ?_)
  intro uu w2 hmade
  generalize (w.alloc (.cells #[.string name, .string version, v2, v3] 31)).alloc (.cells #[.string ⟨#[]⟩, .string ⟨#[]⟩, .slice none 0 0, .slice none 0 0] 31) = W0 at *
  obtain ⟨⟨F2, hown, hfr⟩, hb⟩ := hmade
  obtain ⟨ua2, uc2, hu⟩ := rowOwn.slice hown
  subst hu
  have hP := (hb.block _ (by have := unhid JS; omega)).trans (unhid JP)
  have hR := (hb.block _ (by have := unhid JS; omega)).trans (unhid JR)
  have hS := Nat.lt_of_lt_of_le (unhid JS) hb.size
  have hB := (unhid JB).trans (hb.mono (unhid JB).size)
  have X2 := hid hown
  have Y2 := hid (show ∀ k ∈ F2, w.heap.size + 1 < k ∧ k < w2.heap.size from fun k hk => ⟨Nat.lt_of_lt_of_le (unhid JS) (hfr k hk).1, (hfr k hk).2⟩)
  clear hown hfr hb JP JR JS JB
  obtain ⟨o0, p0⟩ := cell_fz hP 0 _ rfl
  obtain ⟨o1, p1⟩ := cell_fz hP 1 _ rfl
  obtain ⟨o2, p2⟩ := cell_fz hP 2 _ rfl
  obtain ⟨o3, p3⟩ := cell_fz hP 3 _ rfl
  have kk : (w2.setCell ⟨w.heap.size, 2, none⟩ (.slice ua2 needs.length uc2)).cell? ⟨w.heap.size, 3, none⟩ = some v3 := by rw [World.cell?_setCell_other _ _ _ _ (by simp)]; exact o3
  go_wp2_with fail
  have hP : (w2.setCell ⟨w.heap.size, 2, none⟩ (.slice ua2 needs.length uc2)).heap[w.heap.size]? = some (.cells #[.string name, .string version, (.slice ua2 needs.length uc2), v3] 31 (0, 0)) := heap_setCell_same w2 (w.heap.size) 2 _ _ (.slice ua2 needs.length uc2) hP
  have hR := (Below.heap_setCell w2 ⟨w.heap.size, 2, none⟩ (.slice ua2 needs.length uc2) (w.heap.size + 1) (by dsimp only; omega)).trans hR
  have hS : w.heap.size + 1 < (w2.setCell ⟨w.heap.size, 2, none⟩ (.slice ua2 needs.length uc2)).heap.size := by simpa using hS
  have hB : Below w.heap.size w (w2.setCell ⟨w.heap.size, 2, none⟩ (.slice ua2 needs.length uc2)) := hB.setCell (by dsimp only; omega) _
  have X2 := hid (rowOwn.frame (W' := w2.setCell ⟨w.heap.size, 2, none⟩ (.slice ua2 needs.length uc2)) (unhid X2) (fun k hk => Below.heap_setCell _ _ _ _ (by have := ((unhid Y2) k hk).1; dsimp only; omega)))
  have Y2 := hid (show ∀ k ∈ F2, w.heap.size + 1 < k ∧ k < (w2.setCell ⟨w.heap.size, 2, none⟩ (.slice ua2 needs.length uc2)).heap.size from fun k hk => by have := (unhid Y2) k hk; simpa using this)
  clear kk o0 p0 o1 p1 o2 p2 o3 p3
  generalize w2.setCell ⟨w.heap.size, 2, none⟩ (.slice ua2 needs.length uc2) = W3 at *
  have YY2 := hid (show ∀ k ∈ F2, k < W3.heap.size from fun k hk => ((unhid Y2) k hk).2)
  have JP := hid hP
  have JR := hid hR
  have JS := hid hS
  have JB := hid hB
  clear hP hR hS hB
  refine (l2CopyR_any tree v3 W3 hs3 ((unhid H3).below (unhid JB))).mono ?_
  rintro x w3 ⟨uu, rfl, ⟨F3, hown, hfr⟩, hb⟩
  obtain ⟨ua3, uc3, hu⟩ := rowOwn.slice hown
  subst hu
  have hP := (hb.block _ (by have := unhid JS; omega)).trans (unhid JP)
  have hR := (hb.block _ (by have := unhid JS; omega)).trans (unhid JR)
  have hS := Nat.lt_of_lt_of_le (unhid JS) hb.size
  have hB := (unhid JB).trans (hb.mono (unhid JB).size)
  have X2 := hid (rowOwn.frame (unhid X2) (fun k hk => hb.block k ((unhid Y2) k hk).2))
  have Y2 := hid (show ∀ k ∈ F2, w.heap.size + 1 < k ∧ k < w3.heap.size from fun k hk => ⟨((unhid Y2) k hk).1, Nat.lt_of_lt_of_le ((unhid Y2) k hk).2 hb.size⟩)
  have D23 := hid (show ∀ k ∈ F2, k ∉ F3 from fun k hk e => by have h1 := (hfr k e).1; have h2 := (unhid YY2) k hk; omega)
  have X3 := hid hown
  have Y3 := hid (show ∀ k ∈ F3, w.heap.size + 1 < k ∧ k < w3.heap.size from fun k hk => ⟨Nat.lt_of_lt_of_le (unhid JS) (hfr k hk).1, (hfr k hk).2⟩)
  clear hown hfr hb JP JR JS JB
  obtain ⟨o0, p0⟩ := cell_fz hP 0 _ rfl
  obtain ⟨o1, p1⟩ := cell_fz hP 1 _ rfl
  obtain ⟨o2, p2⟩ := cell_fz hP 2 _ rfl
  obtain ⟨o3, p3⟩ := cell_fz hP 3 _ rfl
  obtain ⟨r0, q0⟩ := cell_fz hR 0 _ rfl
  obtain ⟨r1, q1⟩ := cell_fz hR 1 _ rfl
  obtain ⟨r2, q2⟩ := cell_fz hR 2 _ rfl
  obtain ⟨r3, q3⟩ := cell_fz hR 3 _ rfl
  have k0 : (w3.setCell ⟨w.heap.size, 3, none⟩ (.slice ua3 tree.length uc3)).cell? ⟨w.heap.size, 0, none⟩ = some (.string name) := by rw [World.cell?_setCell_other _ _ _ _ (by simp)]; exact o0
  have k1 : (w3.setCell ⟨w.heap.size, 3, none⟩ (.slice ua3 tree.length uc3)).cell? ⟨w.heap.size, 1, none⟩ = some (.string version) := by rw [World.cell?_setCell_other _ _ _ _ (by simp)]; exact o1
  have k2 : (w3.setCell ⟨w.heap.size, 3, none⟩ (.slice ua3 tree.length uc3)).cell? ⟨w.heap.size, 2, none⟩ = some (.slice ua2 needs.length uc2) := by rw [World.cell?_setCell_other _ _ _ _ (by simp)]; exact o2
  go_wp2_with fail
  have hsame : ∀ k, k ≠ w.heap.size → k ≠ w.heap.size + 1 → (((((w3.setCell ⟨w.heap.size, 3, none⟩ (.slice ua3 tree.length uc3)).setCell ⟨w.heap.size + 1, 0, none⟩ (.string name)).setCell ⟨w.heap.size + 1, 1, none⟩ (.string version)).setCell ⟨w.heap.size + 1, 2, none⟩ (.slice ua2 needs.length uc2)).setCell ⟨w.heap.size + 1, 3, none⟩ (.slice ua3 tree.length uc3)).heap[k]? = w3.heap[k]? := fun k h1 h2 => by rw [Below.heap_setCell _ _ _ _ (by exact h2), Below.heap_setCell _ _ _ _ (by exact h2), Below.heap_setCell _ _ _ _ (by exact h2), Below.heap_setCell _ _ _ _ (by exact h2), Below.heap_setCell _ _ _ _ (by exact h1)]
  have hfin : Below w.heap.size w (((((w3.setCell ⟨w.heap.size, 3, none⟩ (.slice ua3 tree.length uc3)).setCell ⟨w.heap.size + 1, 0, none⟩ (.string name)).setCell ⟨w.heap.size + 1, 1, none⟩ (.string version)).setCell ⟨w.heap.size + 1, 2, none⟩ (.slice ua2 needs.length uc2)).setCell ⟨w.heap.size + 1, 3, none⟩ (.slice ua3 tree.length uc3)) := (((((hB.setCell (by dsimp only; omega) _).setCell (by dsimp only; omega) _).setCell (by dsimp only; omega) _).setCell (by dsimp only; omega) _).setCell (by dsimp only; omega) _)
  refine bodyPost_ret (v := .agg #[.string name, .string version, (.slice ua2 needs.length uc2), (.slice ua3 tree.length uc3)]) (by simp [results, Tryz.results127, go_sem, World.cell?_setCell_same', r0, r1, r2, r3]) rfl ⟨[.string name, .string version, (.slice ua2 needs.length uc2), (.slice ua3 tree.length uc3)], F2 ++ F3, rfl, packC_mk ⟨_, _, F2, F3, rfl, rfl, rowOwn.frame (unhid X2) (fun k hk => hsame k (by have := ((unhid Y2) k hk).1; omega) (by have := ((unhid Y2) k hk).1; omega)), rowOwn.frame (unhid X3) (fun k hk => hsame k (by have := ((unhid Y3) k hk).1; omega) (by have := ((unhid Y3) k hk).1; omega)), unhid D23⟩, ?_, hfin⟩
  intro k hk
  have hsz : (((((w3.setCell ⟨w.heap.size, 3, none⟩ (.slice ua3 tree.length uc3)).setCell ⟨w.heap.size + 1, 0, none⟩ (.string name)).setCell ⟨w.heap.size + 1, 1, none⟩ (.string version)).setCell ⟨w.heap.size + 1, 2, none⟩ (.slice ua2 needs.length uc2)).setCell ⟨w.heap.size + 1, 3, none⟩ (.slice ua3 tree.length uc3)).heap.size = w3.heap.size := by simp
  rw [hsz]
  simp only [List.mem_append] at hk
  rcases hk with hk | hk
  · have := (unhid Y2) k hk
    omega
  · have := (unhid Y3) k hk
    omega
end Go.Proofs.YtlnpjiabdebmgaaGreat

/- Packs copied, by the program. -/
namespace Go.Proofs.YtlnpjiabdebmgaaGreat
open Go.RowKit Go.Shelf

/-- What an append leaves. -/
structure RowGrew (K : CK) (e : Nat) (w : World) (N : Nat) (v : Value) (L : List (It K)) (v' : Value) (w' : World) : Prop where
  row : NRow K e w' N v' L
  by_ : w.grownBy w' v.ownBlock
  block : v'.ownBlock = v.ownBlock ∨ v'.ownBlock = some w.heap.size
  some_ : v' = .slice none 0 0 ↔ v = .slice none 0 0 ∧ L.length = 0
theorem wp_items {K : CK} {t e : Nat} (hET : ET K t e) (h1 : OneC K) {ops : Array Oper} {rest : List Oper} {o : Oper} {a : Act} (w : World) {Q : Exit → Act → World → Prop} (hgd : o.guard = none) (s x : Operand) (ho : o.op = .call { callee := .builtin .append, args := #[s, x], argTypes := #[t, t] })
    (N : Nat) (v : Value) (L M : List (It K)) (b of c : Nat) (h : NRow K e w N v L) (hM : Items K w N (L ++ M)) (hap : ∀ g, v.ownBlock = some g → g ∉ itF M) (hcell : ∀ j u, (itCells M)[j]? = some u → w.cell? ⟨b, of + j, none⟩ = some u) (hn : L.length + M.length ≤ 4194304) (hN : N ≤ w.heap.size) (hs : a.eval s = v) (hx : a.eval x = .slice (some ⟨b, of, none⟩) M.length c)
    (hk : ∀ v' w', RowGrew K e w N v (L ++ M) v' w' → wpList Tryz.prog ops Q rest (a.put o.dst v') w') : wpList Tryz.prog ops Q (o :: rest) a w := by
  refine wpList_plain hgd fun K' hK => ?_
  obtain ⟨v', w', hr, h2, h3, h4, h5⟩ := app_items hET h1 w o.type N v L M b of c h hM hap hcell hn hN
  unfold Oper.wp execOp
  simp only [ho, resolve, invoke, builtin, Sem.run_bind, Sem.run_pure, Result.andThen_ok, List.map_toArray, List.map_cons, List.map_nil, hs, hx, hr]
  refine hK _ _ (hk v' w' ⟨h2, h3, h4, ?_⟩)
  rw [h5, List.length_append]
  constructor
  · rintro ⟨rfl, h0⟩
    refine ⟨rfl, ?_⟩
    rcases h.row.2 with ⟨_, hl⟩ | ⟨g, cap, cur, hv, _⟩
    · omega
    · cases hv
  · rintro ⟨h0, h1⟩
    exact ⟨h0, by omega⟩
theorem nrow_slice {K : CK} {e : Nat} {w : World} {N : Nat} {v : Value} {L : List (It K)} (h : NRow K e w N v L) : ∃ a c, v = .slice a L.length c := by
  rcases h.row.2 with ⟨rfl, h0⟩ | ⟨g, cap, cur, rfl, _⟩
  · exact ⟨none, 0, by rw [h0]⟩
  · exact ⟨_, cap, rfl⟩
theorem grew_slice {K : CK} {e : Nat} {w : World} {N : Nat} {v : Value} {L : List (It K)} {v' : Value} {w' : World} (h : RowGrew K e w N v L v' w') : ∃ a c, v' = .slice a L.length c := nrow_slice h.row
/-- A pack that is new, behind a row that grows. -/
theorem items_new {W w2 w3 : World} {N : Nat} {v : Value} {L : List (It packC)} {cs : List Value} {d : packC.D} {F : List Nat} (h : NRow packC 31 W N v L) (hN : N ≤ W.heap.size) (hb : Below W.heap.size W w2) (hown : packC.own w2 cs d F) (hF : ∀ k ∈ F, W.heap.size ≤ k) (hb2 : Below w2.heap.size w2 w3) :
    NRow packC 31 w3 N v L ∧ Items packC w3 N (L ++ [(cs, d, F)]) ∧ (∀ g, v.ownBlock = some g → g ∉ itF [((cs, d, F) : It packC)]) := by
  have hfr : ∀ k, (v.ownBlock = some k ∨ k ∈ itF L) → w3.heap[k]? = W.heap[k]? := fun k hk => by
    have := (h.base k hk).2
    rw [hb2.block k (Nat.lt_of_lt_of_le this hb.size), hb.block k this]
  have h3 := h.frame hfr
  refine ⟨h3, h3.items.snoc (packC.frame hown (fun k hk => hb2.block k (packC.lt hown k hk))) (M := W.heap.size) h.items.lt hF hN, fun g hg hk => ?_⟩
  have h1 := (h.base g (.inl hg)).2
  have h2 := hF g (by simpa [itF] using hk)
  omega

set_option maxRecDepth 100000 in
set_option maxHeartbeats 4000000 in
theorem clonePacks_any (ps : List packC.D) (v : Value) (w : World) (hs : smallPs ps) (h : rowAt packC w v ps) :
    Calls Tryz.prog 84 #[v] w fun x w' => ∃ (u : Value) (L : List (It packC)), x = .returned u ∧ NRow packC 31 w' w.heap.size u L ∧ itD L = ps ∧ Below w.heap.size w w' := by
  obtain ⟨a, cap, rfl, -, -, h⟩ := h
  have hlen := hs.1
  have HSM := hid hs
  have H := hid h
  clear h hs
  go_enter Tryz.func84, Tryz.ntmps84
  go_wp2_with fail
  go_loopw [3, 8] (fun s i wr => ∃ (k : Nat) (L : List (It packC)) (ga : Option Addr) (c : Nat), k ≤ ps.length ∧ i = .int .i64 (k : Int) ∧ s = .slice ga k c ∧ Hid (L.length = k) ∧ Hid (itD L = ps.take k) ∧ Hid (NRow packC 31 wr w.heap.size (.slice ga k c) L) ∧ Hid (Below w.heap.size w wr)) (fun _ i _ => ps.length - (intOf i).toNat)
  case atStart => exact ⟨0, [], none, 0, Nat.zero_le _, rfl, rfl, hid rfl, hid (by simp [itD]), hid (NRow.none _ _), hid (Below.refl _ _)⟩
  case round =>
    obtain ⟨k, L, ga, c, hk, rfl, rfl, HK, HL, HR, HB⟩ := hrel
    by_cases hlt : k < ps.length
    · obtain ⟨e, he⟩ : ∃ e, ps[k]? = some e := ⟨ps[k], List.getElem?_eq_getElem hlt⟩
      obtain ⟨b, o, rfl, hbl, hc⟩ := (unhid H).resolve_left (by intro e; subst e; simp at hlt)
      obtain ⟨na, nc, ta, tc, ⟨c0, c1, c2, c3⟩, hat⟩ := pack_cells (unhid HB) hbl hc he
      have hsp := (unhid HSM).2 e (List.mem_of_getElem? he)
      have hsz : (PackD.needs e).length ≤ 4194304 ∧ (PackD.tree e).length ≤ 4194304 := ⟨by have := hsp.needs.1; omega, by have := hsp.tree.1; rw [entsD_len] at this; omega⟩
      have JN := hid (fun W (hb : Below wr.heap.size wr W) => clonePack_any e _ W hsz (packC.below hat hb))
      have HE := hid he
      have HB1 := hid (show ∀ x, Below wr.heap.size wr (wr.alloc x) from fun x => (Below.refl _ wr).alloc (Nat.le_refl _) x)
      clear hat hc he hbl hsp hsz
      go_wp2_with fail
      have hb1 := unhid HB1 (.cells #[.string (PackD.name e), .string (PackD.version e), .slice na (PackD.needs e).length nc, .slice ta (PackD.tree e).length tc] 31)
      generalize wr.alloc (.cells #[.string (PackD.name e), .string (PackD.version e), .slice na (PackD.needs e).length nc, .slice ta (PackD.tree e).length tc] 31) = w1 at hb1 ⊢
      refine (unhid JN w1 hb1).mono ?_
      rintro x w2 ⟨cs, F, rfl, hown, hF, hb⟩
      have hbb := hb1.trans (hb.mono hb1.size)
      obtain ⟨v2, v3, F2, F3, rfl, -, -, -, -⟩ := packC_own hown
      have hb2 := (Below.refl w2.heap.size w2).alloc (Nat.le_refl _) (.cells #[.string (PackD.name e), .string (PackD.version e), v2, v3] 31)
      have hnew := World.alloc_heap_new w2 (.cells #[.string (PackD.name e), .string (PackD.version e), v2, v3] 31)
      obtain ⟨q1, q2, q3⟩ := items_new (unhid HR) (unhid HB).size hbb hown (fun k hk => Nat.le_trans hb1.size (hF k hk).1) hb2
      have HQ := hid (And.intro q1 (And.intro q2 q3))
      have HB2 := hid ((unhid HB).trans ((hbb.trans (hb2.mono hbb.size)).mono (unhid HB).size))
      have HC := hid (show ∀ j u, (itCells [(([.string (PackD.name e), .string (PackD.version e), v2, v3], e, F) : It packC)])[j]? = some u → (w2.alloc (.cells #[.string (PackD.name e), .string (PackD.version e), v2, v3] 31)).cell? ⟨w2.heap.size, 0 + j, none⟩ = some u from fun j u hj => by
        rw [Nat.zero_add]
        refine cell_arrS hnew j u ?_
        have hj' : [.string (PackD.name e), .string (PackD.version e), v2, v3][j]? = some u := by simpa [itCells] using hj
        simpa using hj')
      clear hown hF hb hb1 hbb hb2 hnew q1 q2 q3 JN HB1 c0 c1 c2 c3
      go_wp2_with (at_builtin; refine wp_items etPack onePack _ rfl _ _ rfl w.heap.size _ L [(([.string (PackD.name e), .string (PackD.version e), v2, v3], e, F) : It packC)] w2.heap.size 0 1 (unhid HQ).1 (unhid HQ).2.1 (unhid HQ).2.2 (unhid HC) ?d1 (unhid HB2).size rfl rfl ?_)
      case d1 => rw [unhid HK]; simp only [List.length_singleton]; omega
      intro v' w3 hg
      obtain ⟨ga', c', hv'⟩ := grew_slice hg
      have hl2 : (L ++ [(([.string (PackD.name e), .string (PackD.version e), v2, v3], e, F) : It packC)]).length = k + 1 := by rw [List.length_append, unhid HK]; rfl
      rw [hl2] at hv'
      subst hv'
      have HN := hid hg.row
      have HB3 := hid ((unhid HB2).grown hg.by_ (unhid HB2).size (fun k hk => ((unhid HQ).1.base k (.inl hk)).1))
      have HL2 := hid (show itD (L ++ [(([.string (PackD.name e), .string (PackD.version e), v2, v3], e, F) : It packC)]) = ps.take (k + 1) by
        rw [itD_app, unhid HL, List.take_add_one, unhid HE]; rfl)
      have HK2 := hid hl2
      generalize L ++ [(([.string (PackD.name e), .string (PackD.version e), v2, v3], e, F) : It packC)] = L2 at *
      clear hg HQ HC HB2 hl2
      go_wp2_with fail
      go_roundw
      case rel => exact ⟨k + 1, L2, ga', c', by omega, by go_num, rfl, HK2, HL2, HN, HB3⟩
      case measure => simp [intOf]; omega
    · have e : k = ps.length := by omega
      subst e
      have HL2 := hid (show itD L = ps by have := unhid HL; rwa [List.take_length] at this)
      go_wp2_with fail
      go_ret
      exact ⟨_, L, rfl, unhid HR, unhid HL2, unhid HB⟩
end Go.Proofs.YtlnpjiabdebmgaaGreat

/- slices.Delete of one pack. -/
namespace Go.Proofs.YtlnpjiabdebmgaaGreat
open Go.RowKit Go.Shelf

theorem setCells_sets : ∀ (vs : List Value) (w : World) (g o : Nat), w.setCells g o vs = setsW w g o vs
  | [], _, _, _ => rfl
  | _ :: vs, _, g, o => setCells_sets vs _ g (o + 1)
def zeroP : List Value := [.string ⟨#[]⟩, .string ⟨#[]⟩, .slice none 0 0, .slice none 0 0]
theorem run_clear_pack (w : World) (ty b o c : Nat) (hc : ∀ j, j < 4 → (w.cell? ⟨b, o + j, none⟩).isSome = true) (hf : ∀ j, j < 4 → w.frozen? ⟨b, o + j, none⟩ = false) :
    (Builtin.clear_ #[40] ty #[.slice (some ⟨b, o, none⟩) 1 c]).run Tryz.prog w = .ok (.tuple #[]) (w.setCells b o zeroP) := by
  have hzc : (Builtin.zeroCells (Value.agg #[.string ⟨#[]⟩, .string ⟨#[]⟩, .slice none 0 0, .slice none 0 0]).cells 1).toList = zeroP := by kernel_rfl
  have hst := run_storeCells_cells (P := Tryz.prog) b o zeroP 0 w (by simpa [zeroP] using hc) (by simpa [zeroP] using hf) (by intro v hv'; simp [zeroP] at hv'; rcases hv' with rfl | rfl <;> rfl)
  simp only [Nat.add_zero] at hst
  simp [Builtin.clear_, run_underlying Tryz.underlying40, hzc, hst]
theorem sets_grown : ∀ (l : List Value) (w : World) (g o : Nat), w.grownBy (setsW w g o l) (some g)
  | [], w, g, o => ⟨rfl, rfl, rfl, Nat.le_refl _, fun _ _ _ => rfl⟩
  | v :: l, w, g, o => by
    have h1 := (Below.refl g w).setCell (p := ⟨g, o, none⟩) (Nat.le_refl _) v
    have h2 := sets_grown l (w.setCell ⟨g, o, none⟩ v) g (o + 1)
    exact ⟨h2.os.trans h1.os, h2.tape.trans h1.tape, h2.output.trans h1.output, Nat.le_trans h1.size h2.size, fun k hk hne => (h2.block k (Nat.lt_of_lt_of_le hk h1.size) hne).trans (Below.heap_setCell _ _ _ _ (by intro e; exact hne (by rw [e])))⟩
theorem itCells_split {W : World} {N : Nat} {L : List (It packC)} (h : Items packC W N L) (i : Nat) (hi : i ≤ L.length) : (itCells (L.take i)).length = i * 4 ∧ (itCells (L.drop i)).length = (L.length - i) * 4 ∧ itCells L = itCells (L.take i) ++ itCells (L.drop i) := by
  have h1 := itCells_len (h.sub (List.take_sublist i L))
  have h2 := itCells_len (h.sub (List.drop_sublist i L))
  rw [List.length_take, Nat.min_eq_left hi] at h1
  rw [List.length_drop] at h2
  exact ⟨h1, h2, by rw [← itCells_app, List.take_append_drop]⟩

set_option maxRecDepth 100000 in
set_option maxHeartbeats 4000000 in
theorem Delete_any (L : List (It packC)) (v : Value) (i : Nat) (w : World) (N : Nat) (hi : i < L.length) (h : NRow packC 31 w N v L) :
    Calls Tryz.prog 83 #[v, .int .i64 (i : Int), .int .i64 ((i + 1 : Nat) : Int)] w fun x w' => ∃ u, x = .returned u ∧ NRow packC 31 w' N u (L.take i ++ L.drop (i + 1)) ∧ w.grownBy w' v.ownBlock ∧ u.ownBlock = v.ownBlock := by
  obtain ⟨i0, hi0, hz0, hz1, hz2⟩ := info_parts vinfoPack
  have hrow := h.row.2
  rcases hrow with ⟨_, h0⟩ | ⟨g, cap, cur, rfl, hN, hg, hc, hcm, hsz, hcells⟩
  · omega
  have hcm2 : cap ≤ 9223372036854775807 := by simp only [maxLen] at hcm; omega
  obtain ⟨j, hj⟩ : ∃ j, j = i + 1 := ⟨_, rfl⟩
  rw [← hj]
  have hij : i < j := by omega
  have hjn : j ≤ L.length := by omega
  have hic : i ≤ cap := by omega
  have hjc : j ≤ cap := by omega
  have hne : ¬ i = j := by omega
  generalize hn : L.length = n at *
  have hL := h.items
  obtain ⟨lt1, ld1, es1⟩ := itCells_split hL i (by omega)
  obtain ⟨lt2, ld2, es2⟩ := itCells_split hL j (by omega)
  rw [hn] at ld1 ld2
  have en : packC.n = 4 := rfl
  rw [en] at hsz hcells
  have hcl : ∀ t u, (itCells L)[t]? = some u → cur[t]? = some u := fun t u ht => by
    rw [← hcells] at ht
    have : t < n * 4 := by
      have := (List.getElem?_eq_some_iff.1 ht).1
      rw [List.length_take] at this
      omega
    rwa [List.getElem?_take_of_lt this, Array.getElem?_toList] at ht
  obtain ⟨news, hnews⟩ : ∃ news, news = itCells (L.drop j) := ⟨_, rfl⟩
  rw [← hnews] at ld2
  have hdrew : w.drew.heap[g]? = some (.cells cur 31 (0, 0)) := hg
  obtain ⟨A, hA, hsrc⟩ : ∃ A : Addr, (if cap = j then some (⟨g, 0, none⟩ : Addr) else some ⟨g, j * 4, none⟩) = some A ∧ Hid (∀ t u, news[t]? = some u → w.drew.cell? (A.add t) = some u) := by
    by_cases h : cap = j
    · refine ⟨⟨g, 0, none⟩, by simp [h], fun t u hu => ?_⟩
      have h0 : news.length = 0 := by rw [ld2]; omega
      rw [List.length_eq_zero_iff.1 h0] at hu
      simp at hu
    · refine ⟨⟨g, j * 4, none⟩, by simp [h], fun t u hu => ?_⟩
      rw [add_plainR]
      refine cell_arrS hdrew _ _ (hcl _ _ ?_)
      rw [es2, List.getElem?_append_right (by omega), lt2, ← hnews, show j * 4 + t - j * 4 = t by omega]
      exact hu
  have s1 : Hid (news.length = (n - j) * 4) := ld2
  have s2 : Hid (∀ u ∈ news, u.oneCell' = true) := by
    rw [hnews]
    exact itCells_one onePack (hL.sub (List.drop_sublist j L))
  have hspot : ∀ (W : World) (cu : Array Value), W.heap[g]? = some (.cells cu 31 (0, 0)) → cu.size = cap * 4 → ∀ t, t < cap * 4 → (W.cell? ⟨g, t, none⟩).isSome = true ∧ W.frozen? ⟨g, t, none⟩ = false := fun W cu hW hcu t ht => by
    obtain ⟨x, hx⟩ : ∃ x, cu[t]? = some x := ⟨cu[t]'(by omega), by rw [Array.getElem?_eq_getElem]⟩
    obtain ⟨o1, p1⟩ := cell_fz hW t x hx
    exact ⟨by rw [o1]; rfl, p1⟩
  have s3 : Hid (∀ t, t < news.length → (w.drew.cell? ⟨g, 0 + i * 4 + t, none⟩).isSome = true ∧ w.drew.frozen? ⟨g, 0 + i * 4 + t, none⟩ = false) := fun t ht => by
    rw [ld2] at ht
    rw [Nat.zero_add]
    exact hspot w.drew cur hdrew hsz _ (by omega)
  obtain ⟨W1, hW1⟩ : ∃ W1, W1 = w.drew.setCells g (0 + i * 4) news := ⟨_, rfl⟩
  have hW1s : W1 = setsW w.drew g (i * 4) news := by rw [hW1, setCells_sets, Nat.zero_add]
  have hH1 : W1.heap[g]? = some (.cells (setsA cur (i * 4) news) 31 (0, 0)) := by rw [hW1s]; exact setsW_heap _ _ _ _ _ _ hdrew
  have hcle : ∀ ty, (Builtin.clear_ #[40] ty #[.slice (some ⟨g, (i + (n - j)) * 4, none⟩) (n - (i + (n - j))) (cap - (i + (n - j)))]).run Tryz.prog W1 = .ok (.tuple #[]) (W1.setCells g ((i + (n - j)) * 4) zeroP) := fun ty => by
    rw [show n - (i + (n - j)) = 1 by omega]
    exact run_clear_pack W1 ty g _ _ (fun t ht => (hspot W1 _ hH1 (by rw [setsA_size]; exact hsz) _ (by omega)).1) (fun t ht => (hspot W1 _ hH1 (by rw [setsA_size]; exact hsz) _ (by omega)).2)
  have hpost : NRow packC 31 (W1.setCells g ((i + (n - j)) * 4) zeroP) N (.slice (some ⟨g, 0, none⟩) (i + (n - j)) cap) (L.take i ++ L.drop j) ∧ w.grownBy (W1.setCells g ((i + (n - j)) * 4) zeroP) (some g) := by
    rw [setCells_sets]
    have hg2 : w.grownBy (setsW W1 g ((i + (n - j)) * 4) zeroP) (some g) := by
      have h1 : w.grownBy w.drew (some g) := ⟨rfl, rfl, rfl, Nat.le_refl _, fun _ _ _ => rfl⟩
      have h2 := sets_grown news w.drew g (i * 4)
      rw [← hW1s] at h2
      have h3 := sets_grown zeroP W1 g ((i + (n - j)) * 4)
      exact ⟨h3.os.trans (h2.os.trans h1.os), h3.tape.trans (h2.tape.trans h1.tape), h3.output.trans (h2.output.trans h1.output), Nat.le_trans h1.size (Nat.le_trans h2.size h3.size), fun k hk hne => (h3.block k (Nat.lt_of_lt_of_le hk (Nat.le_trans h1.size h2.size)) hne).trans ((h2.block k (Nat.lt_of_lt_of_le hk h1.size) hne).trans (h1.block k hk hne))⟩
    have hsub : (L.take i ++ L.drop j).Sublist L := by
      have : (L.take i ++ L.drop i) = L := List.take_append_drop i L
      refine List.Sublist.trans (List.Sublist.append (List.Sublist.refl _) ?_) (by rw [this]; exact List.Sublist.refl _)
      rw [hj, ← List.drop_drop]
      exact List.drop_sublist _ _
    have hap : g ∉ itF L := h.apart g rfl
    have hlen : (L.take i ++ L.drop j).length = i + (n - j) := by rw [List.length_append, List.length_take, List.length_drop]; omega
    have hIt := (hL.sub hsub)
    refine ⟨⟨⟨?_, .inr ⟨g, cap, _, by rw [hlen], hN, setsW_heap _ _ _ _ _ _ hH1, by rw [hlen]; omega, hcm, by rw [setsA_size, setsA_size]; exact hsz, ?_⟩⟩, hIt.frame (fun k hk => hg2.block k (hIt.lt k hk) (fun e => hap ((itF_sub hsub).subset (by cases e; exact hk)))), fun g' hg' hm => by
      have : g = g' := by simpa [Value.ownBlock] using hg'
      subst this
      exact hap ((itF_sub hsub).subset hm)⟩, hg2⟩
    · exact itCells_len hIt
    · rw [itCells_app, ← hnews, hlen, en]
      apply List.ext_getElem?
      intro t
      by_cases ht : t < (i + (n - j)) * 4
      · rw [List.getElem?_take_of_lt ht, Array.getElem?_toList, setsA_off _ _ _ _ (.inl ht)]
        by_cases hti : t < i * 4
        · rw [setsA_off _ _ _ _ (.inl hti), List.getElem?_append_left (by omega)]
          have : (itCells (L.take i))[t]? = (itCells L)[t]? := by rw [es1, List.getElem?_append_left (by omega)]
          rw [this]
          cases hq : (itCells L)[t]? with
          | none =>
            have := List.getElem?_eq_none_iff.1 hq
            rw [itCells_len hL, hn, en] at this
            omega
          | some u => exact hcl t u hq
        · rw [List.getElem?_append_right (by omega), lt1]
          have e1 : t = i * 4 + (t - i * 4) := by omega
          have hlt : t - i * 4 < news.length := by rw [ld2]; omega
          have := setsA_at news cur (i * 4) (by rw [ld2, hsz]; omega) (t - i * 4) news[t - i * 4] (List.getElem?_eq_getElem hlt)
          rw [← e1] at this
          rw [this, List.getElem?_eq_getElem hlt]
      · rw [List.getElem?_eq_none (by rw [List.length_take]; omega), List.getElem?_eq_none (by rw [List.length_append, lt1, ld2]; omega)]
  have HP := hid hpost
  have hW : Hid (W1 = w.drew.setCells g (0 + i * 4) news) := hW1
  have HJ := hid hj
  clear hpost h hj hL hcl hdrew hspot hW1 hW1s hH1 es1 es2 lt1 lt2 ld1 ld2 hcells hg hsz hnews
  have mixed : Tryz.prog.follows .mixedOrders = true := by kernel_rfl
  go_enter Tryz.func83, Tryz.ntmps83
  go_wp2_with fail
  go_region_law_o (refine step_append_room rfl (.tmp 22) (.tmp 25) 40 rfl 31 i0 4 Tryz.underlying40 hi0 hz1 g 0 i cap (by simp [Act.eval, Act.put]) A (n - j) (cap - j) news (by simp [Act.eval, Act.put]) s1.out hsrc.out s2.out (by omega) s3.out ?_; rw [← hW.out])
  go_wp2_with fail
  go_ret
  exact ⟨_, rfl, (unhid HP).1, (unhid HP).2, rfl⟩
end Go.Proofs.YtlnpjiabdebmgaaGreat
