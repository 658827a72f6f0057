/- Texts of this proof, one behind the other; each says at its head what it shows. -/
import Derived.Test.YtlnpjiabdebmgaaGreatJoin4
import Derived.Test.YtlnpjiabdebmgaaGreatJoin11
import Derived.Test.YtlnpjiabdebmgaaGreatJoin2
import Derived.Test.YtlnpjiabdebmgaaGreatJoin5
import Derived.Test.YtlnpjiabdebmgaaGreatJoin9
/- Entry: what is handed over of it; the words of the exact laws. (Written by mkshape.py.) -/
namespace Go.Proofs.YtlnpjiabdebmgaaGreat
open Go.ChangeShapes Go.WideShapes Go.ChangeAt Go.RowKit

set_option maxHeartbeats 1000000 in
set_option maxRecDepth 100000 in
theorem opens_Entry : Opens entryC 123 := by
  intro H enc W n cs x h hlt
  obtain ⟨xs, m, _, rfl, hl, hlen, hf⟩ := DataW.trod_struct Tryz.underlying123 h
  have hcn : Tryz.prog.cellsOf 123 = 4 := by kernel_rfl
  rw [hcn] at hl
  match cs, hl, xs, hlen with
  | [c0, c1, c2, c3], _, [y0, y1, y2, y3], _ =>
    obtain ⟨d0, a0, b0⟩ := opens_txt H enc W m [c0] y0 (hf 0 _ rfl) (fun y hy => hlt y (by simp [hy]))
    obtain ⟨d1, a1, b1⟩ := opens_int H enc W m [c1] y1 (hf 1 _ rfl) (fun y hy => hlt y (by simp [hy]))
    obtain ⟨d2, a2, b2⟩ := opens_int H enc W m [c2] y2 (hf 2 _ rfl) (fun y hy => hlt y (by simp [hy]))
    obtain ⟨d3, a3, b3⟩ := opens_txt H enc W m [c3] y3 (hf 3 _ rfl) (fun y hy => hlt y (by simp [hy]))
    exact ⟨⟨d0, d1, d2, d3⟩, ⟨[c0], [c1, c2, c3], rfl, a0, ⟨[c1], [c2, c3], rfl, a1, ⟨[c2], [c3], rfl, a2, a3⟩⟩⟩, ⟨b0, b1, b2, b3⟩⟩
set_option maxRecDepth 100000 in
theorem entry_of {H : Type} {enc : TypeId × Value → H} {base : Nat} {W : World} {v : Value} {d0 : DataW H} {p : List MemPlace} (hv : Value.okWide Tryz.prog W .any base 123 v) (h : DataW.Trod enc Tryz.prog W 0 (fun _ => true) true 123 v d0 p) (hlt : ∀ x ∈ p, x.block < W.heap.size) : ∃ d : EntryD, aggAt entryC W v d ∧ entryC.big d := agg_of Tryz.underlying123 opens_Entry hv h hlt
set_option maxRecDepth 100000 in
theorem entry_ofS {H : Type} {enc : TypeId × Value → H} {base : Nat} {W : World} {v : Value} {d0 : DataW H} {p : List MemPlace} (hv : Value.okWide Tryz.prog W .any base 23 v) (h : DataW.Trod enc Tryz.prog W 0 (fun _ => true) true 23 v d0 p) (hlt : ∀ x ∈ p, x.block < W.heap.size) : ∃ ds, rowAt entryC W v ds ∧ (ds.length ≤ maxLen ∧ ∀ d ∈ ds, entryC.big d) := rowv_of (ty := 90) Tryz.underlying23 (opens_row Tryz.underlying23 (by kernel_rfl) (by decide) opens_Entry) hv h hlt
set_option maxRecDepth 100000 in
theorem vszEntry_v (d : EntryD) (V : Value) (left : Int) (w : World) (hb : entryC.big d) (hl : 0 ≤ left) (hl2 : left ≤ 1048576) (h : aggAt entryC w V d) : Calls Tryz.prog 100 #[V, .int .i64 left] w fun x w' => (∃ r : Int, x = .returned (.int .i64 r) ∧ r ≤ left ∧ (r < 0 ∨ r + entryC.sz d = left)) ∧ Below w.heap.size w w' := by
  obtain ⟨cs, rfl, h⟩ := h
  exact vszEntry_any d cs left w hb hl hl2 h
set_option maxRecDepth 100000 in
theorem vtoEntry_v (d : EntryD) (V : Value) (w : World) (hs : entryC.sz d ≤ 1048576) (h : aggAt entryC w V d) : Calls Tryz.prog 109 #[V] w fun x w' => ∃ (v : Value) (F : List Nat), x = .returned v ∧ (aggK entryC).own w' v d F ∧ (∀ k ∈ F, w.heap.size ≤ k ∧ k < w'.heap.size) ∧ Below w.heap.size w w' := by
  obtain ⟨cs, rfl, h⟩ := h
  exact (vtoEntry_any d cs w hs h).mono fun x w' ⟨cs', F, h1, h2, h3, h4⟩ => ⟨_, F, h1, ⟨cs', rfl, h2⟩, h3, h4⟩
set_option maxRecDepth 100000 in
theorem veqEntry_v (d : EntryD) (v v' : Value) (F F' : List Nat) (w : World) (hb : entryC.big d) (h : (aggK entryC).own w v d F) (h' : (aggK entryC).own w v' d F') : Calls Tryz.prog 72 #[v, v'] w fun x w' => x = .returned (.bool true) ∧ Below w.heap.size w w' := by
  obtain ⟨cs, rfl, h⟩ := h
  obtain ⟨cs', rfl, h'⟩ := h'
  exact veqEntry_same d cs cs' w hb (entryC.toAt h) (entryC.toAt h')
set_option maxRecDepth 100000 in
theorem entry_shape {W : World} {v : Value} {d : EntryD} {F : List Nat} (h : (aggK entryC).own W v d F) : v = .agg #[.string d.path, .int .i64 d.kind, .int .i64 d.mode, .string d.text] := by
  obtain ⟨cs, rfl, h⟩ := h
  obtain ⟨rfl, -⟩ := entryC_own h
  rfl
set_option maxRecDepth 100000 in
theorem vszEntryS_v (ds : List entryC.D) (V : Value) (left : Int) (w : World) (hb : ds.length ≤ maxLen ∧ ∀ d ∈ ds, entryC.big d) (hl : 0 ≤ left) (hl2 : left ≤ 1048576) (h : rowAt entryC w V ds) : Calls Tryz.prog 52 #[V, .int .i64 left] w fun x w' => (∃ r : Int, x = .returned (.int .i64 r) ∧ r ≤ left ∧ (r < 0 ∨ r + (ds.length + szR entryC ds) = left)) ∧ Below w.heap.size w w' := vszEntryS_any ds V left w hb hl hl2 h
set_option maxRecDepth 100000 in
theorem vtoEntryS_v (ds : List entryC.D) (V : Value) (w : World) (hs : ds.length + szR entryC ds ≤ 1048576) (h : rowAt entryC w V ds) : Calls Tryz.prog 58 #[V] w fun x w' => ∃ (v : Value) (F : List Nat), x = .returned v ∧ (rowK entryC 90).own w' v ds F ∧ (∀ k ∈ F, w.heap.size ≤ k ∧ k < w'.heap.size) ∧ Below w.heap.size w w' := vtoEntryS_any ds V w hs h
set_option maxRecDepth 100000 in
theorem veqEntryS_v (ds : List entryC.D) (v v' : Value) (F F' : List Nat) (w : World) (hb : ds.length ≤ maxLen ∧ ∀ d ∈ ds, entryC.big d) (h : (rowK entryC 90).own w v ds F) (h' : (rowK entryC 90).own w v' ds F') : Calls Tryz.prog 24 #[v, v'] w fun x w' => x = .returned (.bool true) ∧ Below w.heap.size w w' := veqEntryS_same ds v v' w hb (rowOwn.toAt h) (rowOwn.toAt h')
set_option maxRecDepth 100000 in
theorem vmarkEntryS_v (ds : List entryC.D) (v : Value) (F : List Nat) (q : Nat) (c : Int) (hcq : c = (q : Int)) (w : World) (hq : 0 < q) (hq2 : q + cntR entryC ds ≤ 20000000) (h : (rowK entryC 90).own w v ds F) : Calls Tryz.prog 26 #[v, .int .i64 c] w fun x w' => (∃ r : Int, x = .returned (.int .i64 r) ∧ r ≤ ((q + cntR entryC ds : Nat) : Int) ∧ ((q + cntR entryC ds : Nat) : Int) ≤ r) ∧ (rowK entryC 90).own w' v (markR entryC q ds) F ∧ Only F w w' := vmarkEntryS_own ds v F q c hcq w hq hq2 h
set_option maxRecDepth 100000 in
theorem vheldEntryS_v (ds : List entryC.D) (v : Value) (F : List Nat) (q : Nat) (c : Int) (hcq : c = (q : Int)) (w : World) (hq : 0 < q) (hq2 : q + cntR entryC ds ≤ 20000000) (h : (rowK entryC 90).own w v (markR entryC q ds) F) : Calls Tryz.prog 27 #[v, .int .i64 c] w fun x w' => (∃ r : Int, x = .returned (.int .i64 r) ∧ r ≤ ((q + cntR entryC ds : Nat) : Int) ∧ ((q + cntR entryC ds : Nat) : Int) ≤ r) ∧ Below w.heap.size w w' := vheldEntryS_at ds v q c hcq w hq hq2 (rowOwn.toAt h)
end Go.Proofs.YtlnpjiabdebmgaaGreat

/- Need: what is handed over of it; the words of the exact laws. (Written by mkshape.py.) -/
namespace Go.Proofs.YtlnpjiabdebmgaaGreat
open Go.ChangeShapes Go.WideShapes Go.ChangeAt Go.RowKit

set_option maxHeartbeats 1000000 in
set_option maxRecDepth 100000 in
theorem opens_Need : Opens needC 121 := by
  intro H enc W n cs x h hlt
  obtain ⟨xs, m, _, rfl, hl, hlen, hf⟩ := DataW.trod_struct Tryz.underlying121 h
  have hcn : Tryz.prog.cellsOf 121 = 3 := by kernel_rfl
  rw [hcn] at hl
  match cs, hl, xs, hlen with
  | [c0, c1, c2], _, [y0, y1, y2], _ =>
    obtain ⟨d0, a0, b0⟩ := opens_txt H enc W m [c0] y0 (hf 0 _ rfl) (fun y hy => hlt y (by simp [hy]))
    obtain ⟨d1, a1, b1⟩ := opens_int H enc W m [c1] y1 (hf 1 _ rfl) (fun y hy => hlt y (by simp [hy]))
    obtain ⟨d2, a2, b2⟩ := opens_txt H enc W m [c2] y2 (hf 2 _ rfl) (fun y hy => hlt y (by simp [hy]))
    exact ⟨⟨d0, d1, d2⟩, ⟨[c0], [c1, c2], rfl, a0, ⟨[c1], [c2], rfl, a1, a2⟩⟩, ⟨b0, b1, b2⟩⟩
set_option maxRecDepth 100000 in
theorem need_of {H : Type} {enc : TypeId × Value → H} {base : Nat} {W : World} {v : Value} {d0 : DataW H} {p : List MemPlace} (hv : Value.okWide Tryz.prog W .any base 121 v) (h : DataW.Trod enc Tryz.prog W 0 (fun _ => true) true 121 v d0 p) (hlt : ∀ x ∈ p, x.block < W.heap.size) : ∃ d : NeedD, aggAt needC W v d ∧ needC.big d := agg_of Tryz.underlying121 opens_Need hv h hlt
set_option maxRecDepth 100000 in
theorem need_ofS {H : Type} {enc : TypeId × Value → H} {base : Nat} {W : World} {v : Value} {d0 : DataW H} {p : List MemPlace} (hv : Value.okWide Tryz.prog W .any base 22 v) (h : DataW.Trod enc Tryz.prog W 0 (fun _ => true) true 22 v d0 p) (hlt : ∀ x ∈ p, x.block < W.heap.size) : ∃ ds, rowAt needC W v ds ∧ (ds.length ≤ maxLen ∧ ∀ d ∈ ds, needC.big d) := rowv_of (ty := 79) Tryz.underlying22 (opens_row Tryz.underlying22 (by kernel_rfl) (by decide) opens_Need) hv h hlt
set_option maxRecDepth 100000 in
theorem vszNeed_v (d : NeedD) (V : Value) (left : Int) (w : World) (hb : needC.big d) (hl : 0 ≤ left) (hl2 : left ≤ 1048576) (h : aggAt needC w V d) : Calls Tryz.prog 99 #[V, .int .i64 left] w fun x w' => (∃ r : Int, x = .returned (.int .i64 r) ∧ r ≤ left ∧ (r < 0 ∨ r + needC.sz d = left)) ∧ Below w.heap.size w w' := by
  obtain ⟨cs, rfl, h⟩ := h
  exact vszNeed_any d cs left w hb hl hl2 h
set_option maxRecDepth 100000 in
theorem vtoNeed_v (d : NeedD) (V : Value) (w : World) (hs : needC.sz d ≤ 1048576) (h : aggAt needC w V d) : Calls Tryz.prog 108 #[V] w fun x w' => ∃ (v : Value) (F : List Nat), x = .returned v ∧ (aggK needC).own w' v d F ∧ (∀ k ∈ F, w.heap.size ≤ k ∧ k < w'.heap.size) ∧ Below w.heap.size w w' := by
  obtain ⟨cs, rfl, h⟩ := h
  exact (vtoNeed_any d cs w hs h).mono fun x w' ⟨cs', F, h1, h2, h3, h4⟩ => ⟨_, F, h1, ⟨cs', rfl, h2⟩, h3, h4⟩
set_option maxRecDepth 100000 in
theorem veqNeed_v (d : NeedD) (v v' : Value) (F F' : List Nat) (w : World) (hb : needC.big d) (h : (aggK needC).own w v d F) (h' : (aggK needC).own w v' d F') : Calls Tryz.prog 116 #[v, v'] w fun x w' => x = .returned (.bool true) ∧ Below w.heap.size w w' := by
  obtain ⟨cs, rfl, h⟩ := h
  obtain ⟨cs', rfl, h'⟩ := h'
  exact veqNeed_same d cs cs' w hb (needC.toAt h) (needC.toAt h')
set_option maxRecDepth 100000 in
theorem need_shape {W : World} {v : Value} {d : NeedD} {F : List Nat} (h : (aggK needC).own W v d F) : v = .agg #[.string d.name, .int .i64 d.kind, .string d.version] := by
  obtain ⟨cs, rfl, h⟩ := h
  obtain ⟨rfl, -⟩ := needC_own h
  rfl
set_option maxRecDepth 100000 in
theorem vszNeedS_v (ds : List needC.D) (V : Value) (left : Int) (w : World) (hb : ds.length ≤ maxLen ∧ ∀ d ∈ ds, needC.big d) (hl : 0 ≤ left) (hl2 : left ≤ 1048576) (h : rowAt needC w V ds) : Calls Tryz.prog 51 #[V, .int .i64 left] w fun x w' => (∃ r : Int, x = .returned (.int .i64 r) ∧ r ≤ left ∧ (r < 0 ∨ r + (ds.length + szR needC ds) = left)) ∧ Below w.heap.size w w' := vszNeedS_any ds V left w hb hl hl2 h
set_option maxRecDepth 100000 in
theorem vtoNeedS_v (ds : List needC.D) (V : Value) (w : World) (hs : ds.length + szR needC ds ≤ 1048576) (h : rowAt needC w V ds) : Calls Tryz.prog 57 #[V] w fun x w' => ∃ (v : Value) (F : List Nat), x = .returned v ∧ (rowK needC 79).own w' v ds F ∧ (∀ k ∈ F, w.heap.size ≤ k ∧ k < w'.heap.size) ∧ Below w.heap.size w w' := vtoNeedS_any ds V w hs h
set_option maxRecDepth 100000 in
theorem veqNeedS_v (ds : List needC.D) (v v' : Value) (F F' : List Nat) (w : World) (hb : ds.length ≤ maxLen ∧ ∀ d ∈ ds, needC.big d) (h : (rowK needC 79).own w v ds F) (h' : (rowK needC 79).own w v' ds F') : Calls Tryz.prog 67 #[v, v'] w fun x w' => x = .returned (.bool true) ∧ Below w.heap.size w w' := veqNeedS_same ds v v' w hb (rowOwn.toAt h) (rowOwn.toAt h')
set_option maxRecDepth 100000 in
theorem vmarkNeedS_v (ds : List needC.D) (v : Value) (F : List Nat) (q : Nat) (c : Int) (hcq : c = (q : Int)) (w : World) (hq : 0 < q) (hq2 : q + cntR needC ds ≤ 20000000) (h : (rowK needC 79).own w v ds F) : Calls Tryz.prog 80 #[v, .int .i64 c] w fun x w' => (∃ r : Int, x = .returned (.int .i64 r) ∧ r ≤ ((q + cntR needC ds : Nat) : Int) ∧ ((q + cntR needC ds : Nat) : Int) ≤ r) ∧ (rowK needC 79).own w' v (markR needC q ds) F ∧ Only F w w' := vmarkNeedS_own ds v F q c hcq w hq hq2 h
set_option maxRecDepth 100000 in
theorem vheldNeedS_v (ds : List needC.D) (v : Value) (F : List Nat) (q : Nat) (c : Int) (hcq : c = (q : Int)) (w : World) (hq : 0 < q) (hq2 : q + cntR needC ds ≤ 20000000) (h : (rowK needC 79).own w v (markR needC q ds) F) : Calls Tryz.prog 133 #[v, .int .i64 c] w fun x w' => (∃ r : Int, x = .returned (.int .i64 r) ∧ r ≤ ((q + cntR needC ds : Nat) : Int) ∧ ((q + cntR needC ds : Nat) : Int) ≤ r) ∧ Below w.heap.size w w' := vheldNeedS_at ds v q c hcq w hq hq2 (rowOwn.toAt h)
end Go.Proofs.YtlnpjiabdebmgaaGreat

/- Pack: what is handed over of it; the words of the exact laws. (Written by mkshape.py.) -/
namespace Go.Proofs.YtlnpjiabdebmgaaGreat
open Go.ChangeShapes Go.WideShapes Go.ChangeAt Go.RowKit

set_option maxHeartbeats 1000000 in
set_option maxRecDepth 100000 in
theorem opens_Pack : Opens packC 25 := by
  intro H enc W n cs x h hlt
  obtain ⟨xs, m, _, rfl, hl, hlen, hf⟩ := DataW.trod_struct Tryz.underlying25 h
  have hcn : Tryz.prog.cellsOf 25 = 4 := by kernel_rfl
  rw [hcn] at hl
  match cs, hl, xs, hlen with
  | [c0, c1, c2, c3], _, [y0, y1, y2, y3], _ =>
    obtain ⟨d0, a0, b0⟩ := opens_txt H enc W m [c0] y0 (hf 0 _ rfl) (fun y hy => hlt y (by simp [hy]))
    obtain ⟨d1, a1, b1⟩ := opens_txt H enc W m [c1] y1 (hf 1 _ rfl) (fun y hy => hlt y (by simp [hy]))
    obtain ⟨d2, a2, b2⟩ := (opens_row (ty := 79) Tryz.underlying22 (by kernel_rfl) (by decide) opens_Need) H enc W m [c2] y2 (hf 2 _ rfl) (fun y hy => hlt y (by simp [hy]))
    obtain ⟨d3, a3, b3⟩ := (opens_row (ty := 90) Tryz.underlying23 (by kernel_rfl) (by decide) opens_Entry) H enc W m [c3] y3 (hf 3 _ rfl) (fun y hy => hlt y (by simp [hy]))
    exact ⟨⟨d0, d1, d2, d3⟩, ⟨[c0], [c1, c2, c3], rfl, a0, ⟨[c1], [c2, c3], rfl, a1, ⟨[c2], [c3], rfl, a2, a3⟩⟩⟩, ⟨b0, b1, b2, b3⟩⟩
set_option maxRecDepth 100000 in
theorem pack_of {H : Type} {enc : TypeId × Value → H} {base : Nat} {W : World} {v : Value} {d0 : DataW H} {p : List MemPlace} (hv : Value.okWide Tryz.prog W .any base 25 v) (h : DataW.Trod enc Tryz.prog W 0 (fun _ => true) true 25 v d0 p) (hlt : ∀ x ∈ p, x.block < W.heap.size) : ∃ d : PackD, aggAt packC W v d ∧ packC.big d := agg_of Tryz.underlying25 opens_Pack hv h hlt
set_option maxRecDepth 100000 in
theorem pack_ofS {H : Type} {enc : TypeId × Value → H} {base : Nat} {W : World} {v : Value} {d0 : DataW H} {p : List MemPlace} (hv : Value.okWide Tryz.prog W .any base 35 v) (h : DataW.Trod enc Tryz.prog W 0 (fun _ => true) true 35 v d0 p) (hlt : ∀ x ∈ p, x.block < W.heap.size) : ∃ ds, rowAt packC W v ds ∧ (ds.length ≤ maxLen ∧ ∀ d ∈ ds, packC.big d) := rowv_of (ty := 31) Tryz.underlying35 (opens_row Tryz.underlying35 (by kernel_rfl) (by decide) opens_Pack) hv h hlt
set_option maxRecDepth 100000 in
theorem vszPack_v (d : PackD) (V : Value) (left : Int) (w : World) (hb : packC.big d) (hl : 0 ≤ left) (hl2 : left ≤ 1048576) (h : aggAt packC w V d) : Calls Tryz.prog 12 #[V, .int .i64 left] w fun x w' => (∃ r : Int, x = .returned (.int .i64 r) ∧ r ≤ left ∧ (r < 0 ∨ r + packC.sz d = left)) ∧ Below w.heap.size w w' := by
  obtain ⟨cs, rfl, h⟩ := h
  exact vszPack_any d cs left w hb hl hl2 h
set_option maxRecDepth 100000 in
theorem vtoPack_v (d : PackD) (V : Value) (w : World) (hs : packC.sz d ≤ 1048576) (h : aggAt packC w V d) : Calls Tryz.prog 14 #[V] w fun x w' => ∃ (v : Value) (F : List Nat), x = .returned v ∧ (aggK packC).own w' v d F ∧ (∀ k ∈ F, w.heap.size ≤ k ∧ k < w'.heap.size) ∧ Below w.heap.size w w' := by
  obtain ⟨cs, rfl, h⟩ := h
  exact (vtoPack_any d cs w hs h).mono fun x w' ⟨cs', F, h1, h2, h3, h4⟩ => ⟨_, F, h1, ⟨cs', rfl, h2⟩, h3, h4⟩
set_option maxRecDepth 100000 in
theorem veqPack_v (d : PackD) (v v' : Value) (F F' : List Nat) (w : World) (hb : packC.big d) (h : (aggK packC).own w v d F) (h' : (aggK packC).own w v' d F') : Calls Tryz.prog 16 #[v, v'] w fun x w' => x = .returned (.bool true) ∧ Below w.heap.size w w' := by
  obtain ⟨cs, rfl, h⟩ := h
  obtain ⟨cs', rfl, h'⟩ := h'
  exact veqPack_same d cs cs' w hb (packC.toAt h) (packC.toAt h')
set_option maxRecDepth 100000 in
theorem pack_shape {W : World} {v : Value} {d : PackD} {F : List Nat} (h : (aggK packC).own W v d F) : ∃ (a2 : Option Addr) (c2 : Nat) (a3 : Option Addr) (c3 : Nat), v = .agg #[.string d.name, .string d.version, .slice a2 d.needs.length c2, .slice a3 d.tree.length c3] := by
  obtain ⟨cs, rfl, h⟩ := h
  obtain ⟨v2, v3, _, _, rfl, -, x2, x3, -⟩ := packC_own h
  obtain ⟨a2, c2, rfl⟩ := rowOwn.slice x2
  obtain ⟨a3, c3, rfl⟩ := rowOwn.slice x3
  exact ⟨a2, c2, a3, c3, rfl⟩
set_option maxRecDepth 100000 in
theorem cntVPack_le (d : PackD) : cntVPack d ≤ 8 * packC.sz d := by
  rw [packC_sz]
  unfold cntVPack
  have h2 := cntNeedS d.needs
  have h3 := cntEntryS d.tree
  omega
set_option maxRecDepth 100000 in
theorem vmarkPack_v (d : PackD) (v : Value) (F : List Nat) (q : Nat) (c : Int) (hcq : c = (q : Int)) (w : World) (hq : 0 < q) (hq2 : q + cntVPack d ≤ 20000000) (h : (aggK packC).own w v d F) : Calls Tryz.prog 30 #[v, .int .i64 c] w fun x w' => (∃ r : Int, x = .returned (.int .i64 r) ∧ r ≤ ((q + cntVPack d : Nat) : Int) ∧ ((q + cntVPack d : Nat) : Int) ≤ r) ∧ (aggK packC).own w' v (markVPack q d) F ∧ Only F w w' := by
  obtain ⟨cs, rfl, h⟩ := h
  exact (vmarkPack_own d cs F q c hcq w hq hq2 h).mono fun x w' ⟨h1, h2, h3⟩ => ⟨h1, ⟨cs, rfl, h2⟩, h3⟩
set_option maxRecDepth 100000 in
theorem vszPackS_v (ds : List packC.D) (V : Value) (left : Int) (w : World) (hb : ds.length ≤ maxLen ∧ ∀ d ∈ ds, packC.big d) (hl : 0 ≤ left) (hl2 : left ≤ 1048576) (h : rowAt packC w V ds) : Calls Tryz.prog 38 #[V, .int .i64 left] w fun x w' => (∃ r : Int, x = .returned (.int .i64 r) ∧ r ≤ left ∧ (r < 0 ∨ r + (ds.length + szR packC ds) = left)) ∧ Below w.heap.size w w' := vszPackS_any ds V left w hb hl hl2 h
set_option maxRecDepth 100000 in
theorem vtoPackS_v (ds : List packC.D) (V : Value) (w : World) (hs : ds.length + szR packC ds ≤ 1048576) (h : rowAt packC w V ds) : Calls Tryz.prog 41 #[V] w fun x w' => ∃ (v : Value) (F : List Nat), x = .returned v ∧ (rowK packC 31).own w' v ds F ∧ (∀ k ∈ F, w.heap.size ≤ k ∧ k < w'.heap.size) ∧ Below w.heap.size w w' := vtoPackS_any ds V w hs h
set_option maxRecDepth 100000 in
theorem veqPackS_v (ds : List packC.D) (v v' : Value) (F F' : List Nat) (w : World) (hb : ds.length ≤ maxLen ∧ ∀ d ∈ ds, packC.big d) (h : (rowK packC 31).own w v ds F) (h' : (rowK packC 31).own w v' ds F') : Calls Tryz.prog 45 #[v, v'] w fun x w' => x = .returned (.bool true) ∧ Below w.heap.size w w' := veqPackS_same ds v v' w hb (rowOwn.toAt h) (rowOwn.toAt h')
set_option maxRecDepth 100000 in
theorem vmarkPackS_v (ds : List packC.D) (v : Value) (F : List Nat) (q : Nat) (c : Int) (hcq : c = (q : Int)) (w : World) (hq : 0 < q) (hq2 : q + cntR packC ds ≤ 20000000) (h : (rowK packC 31).own w v ds F) : Calls Tryz.prog 46 #[v, .int .i64 c] w fun x w' => (∃ r : Int, x = .returned (.int .i64 r) ∧ r ≤ ((q + cntR packC ds : Nat) : Int) ∧ ((q + cntR packC ds : Nat) : Int) ≤ r) ∧ (rowK packC 31).own w' v (markR packC q ds) F ∧ Only F w w' := vmarkPackS_own ds v F q c hcq w hq hq2 h
set_option maxRecDepth 100000 in
theorem vheldPackS_v (ds : List packC.D) (v : Value) (F : List Nat) (q : Nat) (c : Int) (hcq : c = (q : Int)) (w : World) (hq : 0 < q) (hq2 : q + cntR packC ds ≤ 20000000) (h : (rowK packC 31).own w v (markR packC q ds) F) : Calls Tryz.prog 81 #[v, .int .i64 c] w fun x w' => (∃ r : Int, x = .returned (.int .i64 r) ∧ r ≤ ((q + cntR packC ds : Nat) : Int) ∧ ((q + cntR packC ds : Nat) : Int) ≤ r) ∧ Below w.heap.size w w' := vheldPackS_at ds v q c hcq w hq hq2 (rowOwn.toAt h)
end Go.Proofs.YtlnpjiabdebmgaaGreat

/- Root: what is handed over of it; the words of the exact laws. (Written by mkshape.py.) -/
namespace Go.Proofs.YtlnpjiabdebmgaaGreat
open Go.ChangeShapes Go.WideShapes Go.ChangeAt Go.RowKit

set_option maxHeartbeats 1000000 in
set_option maxRecDepth 100000 in
theorem opens_Root : Opens rootC 37 := by
  intro H enc W n cs x h hlt
  obtain ⟨xs, m, _, rfl, hl, hlen, hf⟩ := DataW.trod_struct Tryz.underlying37 h
  have hcn : Tryz.prog.cellsOf 37 = 1 := by kernel_rfl
  rw [hcn] at hl
  match cs, hl, xs, hlen with
  | [c0], _, [y0], _ =>
    obtain ⟨d0, a0, b0⟩ := (opens_row (ty := 31) Tryz.underlying35 (by kernel_rfl) (by decide) opens_Pack) H enc W m [c0] y0 (hf 0 _ rfl) (fun y hy => hlt y (by simp [hy]))
    exact ⟨⟨d0⟩, a0, b0⟩
set_option maxRecDepth 100000 in
theorem root_of {H : Type} {enc : TypeId × Value → H} {base : Nat} {W : World} {v : Value} {d0 : DataW H} {p : List MemPlace} (hv : Value.okWide Tryz.prog W .any base 37 v) (h : DataW.Trod enc Tryz.prog W 0 (fun _ => true) true 37 v d0 p) (hlt : ∀ x ∈ p, x.block < W.heap.size) : ∃ d : RootD, aggAt rootC W v d ∧ rootC.big d := agg_of Tryz.underlying37 opens_Root hv h hlt
set_option maxRecDepth 100000 in
theorem vszRoot_v (d : RootD) (V : Value) (left : Int) (w : World) (hb : rootC.big d) (hl : 0 ≤ left) (hl2 : left ≤ 1048576) (h : aggAt rootC w V d) : Calls Tryz.prog 17 #[V, .int .i64 left] w fun x w' => (∃ r : Int, x = .returned (.int .i64 r) ∧ r ≤ left ∧ (r < 0 ∨ r + rootC.sz d = left)) ∧ Below w.heap.size w w' := by
  obtain ⟨cs, rfl, h⟩ := h
  exact vszRoot_any d cs left w hb hl hl2 h
set_option maxRecDepth 100000 in
theorem vtoRoot_v (d : RootD) (V : Value) (w : World) (hs : rootC.sz d ≤ 1048576) (h : aggAt rootC w V d) : Calls Tryz.prog 19 #[V] w fun x w' => ∃ (v : Value) (F : List Nat), x = .returned v ∧ (aggK rootC).own w' v d F ∧ (∀ k ∈ F, w.heap.size ≤ k ∧ k < w'.heap.size) ∧ Below w.heap.size w w' := by
  obtain ⟨cs, rfl, h⟩ := h
  exact (vtoRoot_any d cs w hs h).mono fun x w' ⟨cs', F, h1, h2, h3, h4⟩ => ⟨_, F, h1, ⟨cs', rfl, h2⟩, h3, h4⟩
set_option maxRecDepth 100000 in
theorem veqRoot_v (d : RootD) (v v' : Value) (F F' : List Nat) (w : World) (hb : rootC.big d) (h : (aggK rootC).own w v d F) (h' : (aggK rootC).own w v' d F') : Calls Tryz.prog 21 #[v, v'] w fun x w' => x = .returned (.bool true) ∧ Below w.heap.size w w' := by
  obtain ⟨cs, rfl, h⟩ := h
  obtain ⟨cs', rfl, h'⟩ := h'
  exact veqRoot_same d cs cs' w hb (rootC.toAt h) (rootC.toAt h')
set_option maxRecDepth 100000 in
theorem root_shape {W : World} {v : Value} {d : RootD} {F : List Nat} (h : (aggK rootC).own W v d F) : ∃ (a0 : Option Addr) (c0 : Nat), v = .agg #[.slice a0 d.packs.length c0] := by
  obtain ⟨cs, rfl, h⟩ := h
  obtain ⟨v0, _, rfl, -, x0⟩ := rootC_own h
  obtain ⟨a0, c0, rfl⟩ := rowOwn.slice x0
  exact ⟨a0, c0, rfl⟩
set_option maxRecDepth 100000 in
theorem cntVRoot_le (d : RootD) : cntVRoot d ≤ 8 * rootC.sz d := by
  rw [rootC_sz]
  unfold cntVRoot
  have h0 := cntPackS d.packs
  omega
set_option maxRecDepth 100000 in
theorem vmarkRoot_v (d : RootD) (v : Value) (F : List Nat) (q : Nat) (c : Int) (hcq : c = (q : Int)) (w : World) (hq : 0 < q) (hq2 : q + cntVRoot d ≤ 20000000) (h : (aggK rootC).own w v d F) : Calls Tryz.prog 25 #[v, .int .i64 c] w fun x w' => (∃ r : Int, x = .returned (.int .i64 r) ∧ r ≤ ((q + cntVRoot d : Nat) : Int) ∧ ((q + cntVRoot d : Nat) : Int) ≤ r) ∧ (aggK rootC).own w' v (markVRoot q d) F ∧ Only F w w' := by
  obtain ⟨cs, rfl, h⟩ := h
  exact (vmarkRoot_own d cs F q c hcq w hq hq2 h).mono fun x w' ⟨h1, h2, h3⟩ => ⟨h1, ⟨cs, rfl, h2⟩, h3⟩
set_option maxRecDepth 100000 in
theorem vheldRoot_v (d : RootD) (v : Value) (F : List Nat) (q : Nat) (c : Int) (hcq : c = (q : Int)) (w : World) (hq : 0 < q) (hq2 : q + cntVRoot d ≤ 20000000) (h : (aggK rootC).own w v (markVRoot q d) F) : Calls Tryz.prog 31 #[v, .int .i64 c] w fun x w' => (∃ r : Int, x = .returned (.int .i64 r) ∧ r ≤ ((q + cntVRoot d : Nat) : Int) ∧ ((q + cntVRoot d : Nat) : Int) ≤ r) ∧ Below w.heap.size w w' := by
  obtain ⟨cs, rfl, h⟩ := h
  exact vheldRoot_at d cs q c hcq w hq hq2 (rootC.toAt h)
end Go.Proofs.YtlnpjiabdebmgaaGreat

/- RootOk and RootTree of copies in memory of their own. -/
namespace Go.Proofs.YtlnpjiabdebmgaaGreat
open Go.RowKit Go.Shelf

def rootOk_0 (d : RootD) : Bool := rootCode d.packs == 0
theorem rootOk_yes {d : RootD} (h : rootOk_0 d = true) : rootCode d.packs = 0 := by unfold rootOk_0 at h; exact eq_of_beq h
theorem root_in {W : World} {v : Value} {d : RootD} {F : List Nat} (h : (aggK rootC).own W v d F) : ∃ a c, v = .agg #[.slice a d.packs.length c] ∧ rowAt packC W (.slice a d.packs.length c) d.packs ∧ rowOwn packC 31 W (.slice a d.packs.length c) d.packs F := by
  obtain ⟨cs, rfl, h⟩ := h
  obtain ⟨v0, F0, rfl, rfl, h0⟩ := rootC_own h
  obtain ⟨a, c, rfl⟩ := rowOwn.slice h0
  exact ⟨a, c, rfl, rowOwn.toAt h0, h0⟩
theorem root_small {d : RootD} (h : rootC.sz d ≤ 1048576) : smallPs d.packs := smallPs_of (by rw [rootC_sz] at h; exact h)

set_option maxRecDepth 100000 in
set_option maxHeartbeats 1000000 in
theorem specRootOk_any (d : RootD) (a : Option Addr) (c : Nat) (w : World) (hs : smallPs d.packs) (h : rowAt packC w (.slice a d.packs.length c) d.packs) :
    Calls Tryz.prog 18 #[.agg #[.slice a d.packs.length c]] w fun x w' => x = .returned (.bool (rootOk_0 d)) ∧ Below w.heap.size w w' := by
  have HB := hid (show ∀ x, Below w.heap.size w (w.alloc x) from fun x => (Below.refl _ w).alloc (Nat.le_refl _) x)
  have K := hid (fun W (hb : Below w.heap.size w W) => l9Check_any d.packs _ W hs (h.below hb))
  have E := hid (show rootOk_0 d = (rootCode d.packs == 0) from rfl)
  clear hs h
  go_enter Tryz.func18, Tryz.ntmps18
  go_wp2_with fail
  refine (unhid K _ (unhid HB _)).mono ?_
  rintro x w2 ⟨rfl, hb⟩
  have HB2 := hid ((unhid HB _).trans (hb.mono (unhid HB _).size))
  clear hb
  generalize rootCode d.packs = rc at *
  go_wp2_with fail
  go_ret
  exact ⟨by rw [unhid E]; rfl, unhid HB2⟩
set_option maxRecDepth 100000 in
set_option maxHeartbeats 1000000 in
theorem implRootOk_any (d : RootD) (a : Option Addr) (c : Nat) (w : World) (hs : smallPs d.packs) (h : rowAt packC w (.slice a d.packs.length c) d.packs) :
    Calls Tryz.prog 20 #[.agg #[.slice a d.packs.length c]] w fun x w' => x = .returned (.bool (rootOk_0 d)) ∧ Below w.heap.size w w' := by
  have HB := hid (show ∀ x, Below w.heap.size w (w.alloc x) from fun x => (Below.refl _ w).alloc (Nat.le_refl _) x)
  have K := hid (fun W (hb : Below w.heap.size w W) => packsWrong_any d.packs _ W hs (h.below hb))
  have E := hid (show rootOk_0 d = (rootCode d.packs == 0) from rfl)
  clear hs h
  go_enter Tryz.func20, Tryz.ntmps20
  go_wp2_with fail
  refine (unhid K _ (unhid HB _)).mono ?_
  rintro x w2 ⟨rfl, hb⟩
  have HB2 := hid ((unhid HB _).trans (hb.mono (unhid HB _).size))
  clear hb
  generalize rootCode d.packs = rc at *
  go_wp2_with fail
  go_ret
  exact ⟨by rw [unhid E]; rfl, unhid HB2⟩
theorem rootOk_spec (d0 : RootD) (v : Value) (F : List Nat) (W : World) (hs : rootC.sz d0 ≤ 1048576 ∧ rootC.big d0) (h : (aggK rootC).own W v d0 F) : Calls Tryz.prog 18 #[v] W fun r W' => r = .returned (.bool (rootOk_0 d0)) ∧ Below W.heap.size W W' := by
  obtain ⟨a, c, rfl, h1, _⟩ := root_in h
  exact specRootOk_any d0 a c W (root_small hs.1) h1
theorem rootOk_impl (d0 : RootD) (v : Value) (F : List Nat) (W : World) (hs : rootC.sz d0 ≤ 1048576 ∧ rootC.big d0) (h : (aggK rootC).own W v d0 F) : Calls Tryz.prog 20 #[v] W fun r W' => r = .returned (.bool (rootOk_0 d0)) ∧ Below W.heap.size W W' := by
  obtain ⟨a, c, rfl, h1, _⟩ := root_in h
  exact implRootOk_any d0 a c W (root_small hs.1) h1

def rootTreeE (d : RootD) : List Ent := if rootOk_0 d then joinG d.packs else []
theorem joinO_tree : ∀ (acc : List Ent) (ps : List packC.D) (t : List Ent), treeB acc = true → joinO acc ps = some t → treeB t = true
  | acc, [], t, h, e => by rw [joinO] at e; cases e; exact h
  | acc, p :: ps, t, h, e => by
    rw [joinO] at e
    split at e
    · rename_i hq
      rw [Bool.and_eq_true] at hq
      exact joinO_tree _ ps t hq.2 e
    · cases e
theorem joinG_tree (ps : List packC.D) : treeB (joinG ps) = true := by
  unfold joinG
  cases h : joinO [] ps with
  | none => exact treeB_nil
  | some t => exact joinO_tree [] ps t treeB_nil h
theorem rootTree_tree (d : RootD) : treeB (rootTreeE d) = true := by
  unfold rootTreeE
  split
  · exact joinG_tree _
  · exact treeB_nil
def rootTree_0 (d : RootD) : List entryC.D := dEnts (rootTreeE d)
theorem rootTree_small (d : RootD) (_ : rootC.sz d ≤ 1048576 ∧ rootC.big d) (_ : rootC.sz d ≤ 1048576) : ((rootTree_0 d).length ≤ maxLen ∧ ∀ x ∈ rootTree_0 d, entryC.big x) ∧ cntR entryC (rootTree_0 d) ≤ 9000000 := tree_big (rootTree_tree d)

set_option maxRecDepth 100000 in
set_option maxHeartbeats 1000000 in
theorem specRootTree_any (d : RootD) (a : Option Addr) (c : Nat) (w : World) (hs : smallPs d.packs) (h : rowAt packC w (.slice a d.packs.length c) d.packs) :
    Calls Tryz.prog 22 #[.agg #[.slice a d.packs.length c]] w fun x w' => ∃ u, x = .returned u ∧ w'.ownsRow w.heap.size 90 4 u (rootTreeE d).length (valsOf (rootTreeE d)) ∧ Below w.heap.size w w' := by
  have HBX := hid (World.alloc_heap_new w (.cells #[.slice a d.packs.length c] 42))
  have HB := hid (show ∀ x, Below w.heap.size w (w.alloc x) from fun x => (Below.refl _ w).alloc (Nat.le_refl _) x)
  have HLT := hid (show w.heap.size < (w.alloc (.cells #[.slice a d.packs.length c] 42)).heap.size by simp)
  have K := hid (fun W (hb : Below w.heap.size w W) => specRootOk_any d a c W hs (h.below hb))
  have H := hid h
  have HS := hid hs
  clear hs h
  go_enter Tryz.func22, Tryz.ntmps22
  go_wp2_with fail
  have hb0 := unhid HB (.cells #[.slice a d.packs.length c] 42)
  generalize w.alloc (.cells #[.slice a d.packs.length c] 42) = W0 at HBX HLT hb0 ⊢
  refine (unhid K W0 hb0).mono ?_
  rintro x w2 ⟨rfl, hb⟩
  have HB2 := hid (hb0.trans (hb.mono hb0.size))
  have BX := hid ((hb.block _ (unhid HLT)).trans (unhid HBX))
  clear hb hb0 HB HLT HBX
  cases hq : rootOk_0 d with
  | false =>
    have E := hid (show rootTreeE d = [] by unfold rootTreeE; rw [hq]; rfl)
    have HO := hid (owns_empty w2 w.heap.size (unhid HB2).size 90)
    have HB3 := hid ((unhid HB2).alloc (unhid HB2).size (.cells #[] 90))
    go_wp2_with fail
    generalize w2.alloc (.cells #[] 90) = w3 at HO HB3 ⊢
    go_ret
    exact ⟨_, rfl, by rw [unhid E]; exact unhid HO, unhid HB3⟩
  | true =>
    have HF := hid (code_0 (rootOk_yes hq)).1
    have E := hid (show rootTreeE d = joinG d.packs by unfold rootTreeE; rw [hq]; rfl)
    have c0 := cell_arrS (unhid BX) 0 _ rfl
    clear hq
    go_wp2_with fail
    refine (l9Tree_any d.packs _ w2 (unhid HS).1 (unhid HF) ((unhid H).below (unhid HB2))).mono ?_
    rintro x w3 ⟨u, rfl, ho, hb⟩
    have HB3 := hid ((unhid HB2).trans (hb.mono (unhid HB2).size))
    have HO := hid (ownsRow_lowerS ho (unhid HB2).size)
    clear ho hb c0
    go_wp2_with fail
    go_ret
    exact ⟨_, rfl, by rw [unhid E]; exact unhid HO, unhid HB3⟩
set_option maxRecDepth 100000 in
set_option maxHeartbeats 1000000 in
theorem implRootTree_any (d : RootD) (a : Option Addr) (c : Nat) (w : World) (hs : smallPs d.packs) (h : rowAt packC w (.slice a d.packs.length c) d.packs) :
    Calls Tryz.prog 23 #[.agg #[.slice a d.packs.length c]] w fun x w' => ∃ u, x = .returned u ∧ w'.ownsRow w.heap.size 90 4 u (rootTreeE d).length (valsOf (rootTreeE d)) ∧ Below w.heap.size w w' := by
  have HBX := hid (World.alloc_heap_new w (.cells #[.slice a d.packs.length c] 42))
  have HB := hid (show ∀ x, Below w.heap.size w (w.alloc x) from fun x => (Below.refl _ w).alloc (Nat.le_refl _) x)
  have HLT := hid (show w.heap.size < (w.alloc (.cells #[.slice a d.packs.length c] 42)).heap.size by simp)
  have K := hid (fun W (hb : Below w.heap.size w W) => implRootOk_any d a c W hs (h.below hb))
  have H := hid h
  have HS := hid hs
  clear hs h
  go_enter Tryz.func23, Tryz.ntmps23
  go_wp2_with fail
  have hb0 := unhid HB (.cells #[.slice a d.packs.length c] 42)
  generalize w.alloc (.cells #[.slice a d.packs.length c] 42) = W0 at HBX HLT hb0 ⊢
  refine (unhid K W0 hb0).mono ?_
  rintro x w2 ⟨rfl, hb⟩
  have HB2 := hid (hb0.trans (hb.mono hb0.size))
  have BX := hid ((hb.block _ (unhid HLT)).trans (unhid HBX))
  clear hb hb0 HB HLT HBX
  cases hq : rootOk_0 d with
  | false =>
    have E := hid (show rootTreeE d = [] by unfold rootTreeE; rw [hq]; rfl)
    have HO := hid (show w2.ownsRow w.heap.size 90 4 (.slice none 0 0) ([] : List Ent).length (valsOf []) from ⟨rfl, .inl ⟨rfl, rfl⟩⟩)
    go_wp2_with fail
    go_ret
    exact ⟨_, rfl, by rw [unhid E]; exact unhid HO, unhid HB2⟩
  | true =>
    have HF := hid (code_0 (rootOk_yes hq)).1
    have E := hid (show rootTreeE d = joinG d.packs by unfold rootTreeE; rw [hq]; rfl)
    have c0 := cell_arrS (unhid BX) 0 _ rfl
    clear hq
    go_wp2_with fail
    refine (joinAll_any d.packs _ w2 (unhid HS) (unhid HF) ((unhid H).below (unhid HB2))).mono ?_
    rintro x w3 ⟨u, rfl, ho, hb⟩
    have HB3 := hid ((unhid HB2).trans (hb.mono (unhid HB2).size))
    have HO := hid (ownsRow_lowerS ho (unhid HB2).size)
    clear ho hb c0
    go_wp2_with fail
    go_ret
    exact ⟨_, rfl, by rw [unhid E]; exact unhid HO, unhid HB3⟩
theorem rootTree_spec (d0 : RootD) (v : Value) (F : List Nat) (W : World) (hs : rootC.sz d0 ≤ 1048576 ∧ rootC.big d0) (h : (aggK rootC).own W v d0 F) : Calls Tryz.prog 22 #[v] W fun r W' => ∃ (u : Value) (G : List Nat), r = .returned u ∧ (rowK entryC 90).own W' u (rootTree_0 d0) G ∧ (∀ k ∈ G, W.heap.size ≤ k ∧ k < W'.heap.size) ∧ Below W.heap.size W W' := by
  obtain ⟨a, c, rfl, h1, _⟩ := root_in h
  refine (specRootTree_any d0 a c W (root_small hs.1) h1).mono fun r W' ⟨u, h2, h3, h4⟩ => ?_
  obtain ⟨G, g1, g2⟩ := entOwn_of h3
  exact ⟨u, G, h2, g1, g2, h4⟩
theorem rootTree_impl (d0 : RootD) (v : Value) (F : List Nat) (W : World) (hs : rootC.sz d0 ≤ 1048576 ∧ rootC.big d0) (h : (aggK rootC).own W v d0 F) : Calls Tryz.prog 23 #[v] W fun r W' => ∃ (u : Value) (G : List Nat), r = .returned u ∧ (rowK entryC 90).own W' u (rootTree_0 d0) G ∧ (∀ k ∈ G, W.heap.size ≤ k ∧ k < W'.heap.size) ∧ Below W.heap.size W W' := by
  obtain ⟨a, c, rfl, h1, _⟩ := root_in h
  refine (implRootTree_any d0 a c W (root_small hs.1) h1).mono fun r W' ⟨u, h2, h3, h4⟩ => ?_
  obtain ⟨G, g1, g2⟩ := entOwn_of h3
  exact ⟨u, G, h2, g1, g2, h4⟩
end Go.Proofs.YtlnpjiabdebmgaaGreat

/- The pack that a path is of. -/
namespace Go.Proofs.YtlnpjiabdebmgaaGreat
open Go.RowKit Go.Shelf

def ownsB (path : ByteArray) (p : packC.D) : Bool := thereE (treeOfP p) path && (entFn (treeOfP p) (placeE (treeOfP p) path)).kind != 1
def ownerP (ps : List packC.D) (path : ByteArray) : ByteArray := match List.find? (α := packC.D) (ownsB path) ps with
  | some p => PackD.name p
  | none => ⟨#[]⟩
def rootOwner_0 (d : RootD) (path : ByteArray) : ByteArray := if rootOk_0 d then ownerP d.packs path else ⟨#[]⟩
theorem owner_at {ps : List packC.D} {path : ByteArray} {k : Nat} {p : packC.D} (hno : ∀ (j : Nat) q, j < k → ps[j]? = some q → ownsB path q = false) (hp : ps[k]? = some p) (h : ownsB path p = true) : ownerP ps path = PackD.name p := by
  obtain ⟨hl, e⟩ := List.getElem?_eq_some_iff.1 hp
  have h1 : List.find? (α := packC.D) (ownsB path) (ps.take k) = none := by
    rw [List.find?_eq_none]
    intro q hq
    obtain ⟨j, hj⟩ := List.getElem?_of_mem hq
    have hjk : j < k := by have := (List.getElem?_eq_some_iff.1 hj).1; rw [List.length_take] at this; omega
    rw [List.getElem?_take_of_lt hjk] at hj
    rw [hno j q hjk hj]
    exact Bool.false_ne_true
  unfold ownerP
  rw [show ps = ps.take k ++ p :: ps.drop (k + 1) by rw [← e, ← List.drop_eq_getElem_cons hl, List.take_append_drop]]
  rw [List.find?_append, h1, List.find?_cons, h]
  rfl
theorem owner_no {ps : List packC.D} {path : ByteArray} (hno : ∀ (j : Nat) q, j < ps.length → ps[j]? = some q → ownsB path q = false) : ownerP ps path = ⟨#[]⟩ := by
  have h1 : List.find? (α := packC.D) (ownsB path) ps = none := by
    rw [List.find?_eq_none]
    intro q hq
    obtain ⟨j, hj⟩ := List.getElem?_of_mem hq
    rw [hno j q (List.getElem?_eq_some_iff.1 hj).1 hj]
    exact Bool.false_ne_true
  unfold ownerP
  rw [h1]

set_option maxRecDepth 100000 in
set_option maxHeartbeats 4000000 in
theorem specRootOwner_any (d : RootD) (path : ByteArray) (a : Option Addr) (c : Nat) (w : World) (hs : smallPs d.packs) (h : rowAt packC w (.slice a d.packs.length c) d.packs) :
    Calls Tryz.prog 36 #[.agg #[.slice a d.packs.length c], .string path] w fun x w' => x = .returned (.string (rootOwner_0 d path)) ∧ Below w.heap.size w w' := by
  have HBX := hid (World.alloc_heap_new w (.cells #[.slice a d.packs.length c] 42))
  have HB := hid (show ∀ x, Below w.heap.size w (w.alloc x) from fun x => (Below.refl _ w).alloc (Nat.le_refl _) x)
  have HLT := hid (show w.heap.size < (w.alloc (.cells #[.slice a d.packs.length c] 42)).heap.size by simp)
  have K := hid (fun W (hb : Below w.heap.size w W) => specRootOk_any d a c W hs (h.below hb))
  have HS := hid hs
  have hlen := hs.1
  obtain ⟨a', c', hv, -, -, hr⟩ := h
  injection hv with e1 _ e3
  subst e1 e3
  have H := hid hr
  clear hs hr
  go_enter Tryz.func36, Tryz.ntmps36
  go_wp2_with fail
  have hb0 := unhid HB (.cells #[.slice a d.packs.length c] 42)
  generalize w.alloc (.cells #[.slice a d.packs.length c] 42) = W0 at HBX HLT hb0 ⊢
  have HB0 := hid hb0
  clear hb0 HB
  go_loopw [5] (fun i wr => ∃ k : Nat, k ≤ d.packs.length ∧ i = .int .i64 (k : Int) ∧ Hid (∀ (j : Nat) q, j < k → d.packs[j]? = some q → ownsB path q = false) ∧ Hid (0 < k → rootOk_0 d = true) ∧ Hid (Below W0.heap.size W0 wr)) (fun i _ => d.packs.length - (intOf i).toNat)
  case atStart => exact ⟨0, Nat.zero_le _, rfl, hid (fun j q hj => absurd hj (Nat.not_lt_zero _)), hid (fun h => absurd h (Nat.lt_irrefl _)), hid (Below.refl _ _)⟩
  case round =>
    obtain ⟨k, hk, rfl, HX, HOK, HB⟩ := hrel
    have HBW := hid ((unhid HB0).trans ((unhid HB).mono (unhid HB0).size))
    have hbox := cell_arrS (((unhid HB).block _ (unhid HLT)).trans (unhid HBX)) 0 _ rfl
    by_cases hlt : k < d.packs.length
    · obtain ⟨e, he⟩ : ∃ e, d.packs[k]? = some e := ⟨d.packs[k], List.getElem?_eq_getElem hlt⟩
      go_wp2_with fail
      refine (unhid K wr (unhid HBW)).mono ?_
      rintro x w2 ⟨rfl, hb⟩
      have HB2 := hid ((unhid HB).trans (hb.mono (unhid HB).size))
      have HBW2 := hid ((unhid HBW).trans (hb.mono (unhid HBW).size))
      clear hb hbox HB
      have hbox := cell_arrS (((unhid HB2).block _ (unhid HLT)).trans (unhid HBX)) 0 _ rfl
      cases hq : rootOk_0 d with
      | false =>
        have E := hid (show rootOwner_0 d path = ⟨#[]⟩ by unfold rootOwner_0; rw [hq]; rfl)
        go_wp2_with fail
        go_ret
        exact ⟨by rw [unhid E]; rfl, unhid HBW2⟩
      | true =>
        have HQ := hid hq
        have E0 := hid (show rootOwner_0 d path = ownerP d.packs path by unfold rootOwner_0; rw [hq]; rfl)
        obtain ⟨b, o, rfl, hbl, hc⟩ := (unhid H).resolve_left (by intro e; rw [e] at hlt; simp at hlt)
        obtain ⟨na, nc, ta, tc, ⟨c0, c1, c2, c3⟩, hat⟩ := pack_cells (unhid HBW2) hbl hc he
        obtain ⟨hte, htl, -⟩ := tree_in hat
        have hst : smallE (treeOfP e) := ((unhid HS).2 e (List.mem_of_getElem? he)).tree
        have JN := hid (l2At_any (treeOfP e) ta tc path w2 hst.1 hte)
        rw [htl] at JN
        have HE := hid he
        have HTE := hid (And.intro hte htl)
        clear hc he hbl hat hte htl hst hq c1 c2
        go_wp2_with fail
        refine (unhid JN).mono ?_
        rintro x w3 ⟨rfl, m, hm⟩
        have hb : Below w2.heap.size w2 w3 := by rw [hm]; exact drewN_below _ _
        have HB3 := hid ((unhid HB2).trans (hb.mono (unhid HB2).size))
        have HBW3 := hid ((unhid HBW2).trans (hb.mono (unhid HBW2).size))
        have HTE3 := hid ((unhid HTE).1.below hb)
        clear hm hb c0 c3 hbox JN
        have hbox := cell_arrS (((unhid HB3).block _ (unhid HLT)).trans (unhid HBX)) 0 _ rfl
        obtain ⟨b', o', eb, hbl, hc⟩ := (unhid H).resolve_left (by intro e; rw [e] at hlt; simp at hlt)
        injection eb with eb
        injection eb with eb1 eb2 _
        subst eb1 eb2
        obtain ⟨na', nc', ta', tc', ⟨c0, c1, c2, c3⟩, hat⟩ := pack_cells (unhid HBW3) hbl hc (unhid HE)
        obtain ⟨hte', htl', -⟩ := tree_in hat
        cases hth : thereE (treeOfP e) path with
        | false =>
          have HNO := hid (show ownsB path e = false by unfold ownsB; rw [hth]; rfl)
          clear hc hbl hat hte' htl' hth c1 c2 c3 c0
          go_wp2_with fail
          go_roundw
          case rel =>
            refine ⟨k + 1, by omega, by go_num, hid (fun j q hj hq => ?_), hid (fun _ => unhid HQ), HB3⟩
            by_cases ej : j = k
            · subst ej; rw [unhid HE] at hq; cases hq; exact unhid HNO
            · exact unhid HX j q (by omega) hq
          case measure => simp [intOf]; omega
        | true =>
          obtain ⟨old, hold, hop⟩ := there_get hth
          have hfo := entFn_get hold
          have hkl : placeE (treeOfP e) path < (PackD.tree e).length := by rw [← htl']; exact (List.getElem?_eq_some_iff.1 hold).1
          obtain ⟨tb, to', rfl, htb, htc⟩ := hte'.get (by intro e; rw [e] at hold; cases hold)
          obtain ⟨k0, k1, k2, k3⟩ := htc _ old hold
          have hob : ownsB path e = (old.kind != 1) := by unfold ownsB; rw [hth, hfo]; rfl
          generalize placeE (treeOfP e) path = pl at *
          cases hkd : (old.kind != 1) with
          | false =>
            have HNO := hid (hob.trans hkd)
            clear hc hbl hat htl' hth c1 c2 hob
            go_wp2_with fail
            go_roundw
            case rel =>
              refine ⟨k + 1, by omega, by go_num, hid (fun j q hj hq => ?_), hid (fun _ => unhid HQ), HB3⟩
              by_cases ej : j = k
              · subst ej; rw [unhid HE] at hq; cases hq; exact unhid HNO
              · exact unhid HX j q (by omega) hq
            case measure => simp [intOf]; omega
          | true =>
            have HYE := hid (show ownerP d.packs path = PackD.name e from owner_at (unhid HX) (unhid HE) (hob.trans hkd))
            clear hc hbl hat htl' hth c1 c2 hob
            go_wp2_with fail
            go_ret
            exact ⟨by rw [unhid E0, unhid HYE]; rfl, unhid HBW3⟩
    · have e : k = d.packs.length := by omega
      subst e
      have E := hid (show rootOwner_0 d path = ⟨#[]⟩ by
        unfold rootOwner_0
        split
        · exact owner_no (unhid HX)
        · rfl)
      go_wp2_with fail
      go_ret
      exact ⟨by rw [unhid E]; rfl, unhid HBW⟩

set_option maxRecDepth 100000 in
set_option maxHeartbeats 4000000 in
theorem implRootOwner_any (d : RootD) (path : ByteArray) (a : Option Addr) (c : Nat) (w : World) (hs : smallPs d.packs) (h : rowAt packC w (.slice a d.packs.length c) d.packs) :
    Calls Tryz.prog 37 #[.agg #[.slice a d.packs.length c], .string path] w fun x w' => x = .returned (.string (rootOwner_0 d path)) ∧ Below w.heap.size w w' := by
  have HBX := hid (World.alloc_heap_new w (.cells #[.slice a d.packs.length c] 42))
  have HB := hid (show ∀ x, Below w.heap.size w (w.alloc x) from fun x => (Below.refl _ w).alloc (Nat.le_refl _) x)
  have HLT := hid (show w.heap.size < (w.alloc (.cells #[.slice a d.packs.length c] 42)).heap.size by simp)
  have K := hid (fun W (hb : Below w.heap.size w W) => implRootOk_any d a c W hs (h.below hb))
  have HS := hid hs
  have hlen := hs.1
  obtain ⟨a', c', hv, -, -, hr⟩ := h
  injection hv with e1 _ e3
  subst e1 e3
  have H := hid hr
  clear hs hr
  go_enter Tryz.func37, Tryz.ntmps37
  go_wp2_with fail
  have hb0 := unhid HB (.cells #[.slice a d.packs.length c] 42)
  generalize w.alloc (.cells #[.slice a d.packs.length c] 42) = W0 at HBX HLT hb0 ⊢
  refine (unhid K W0 hb0).mono ?_
  rintro x w2 ⟨rfl, hb⟩
  have HB0 := hid (hb0.trans (hb.mono hb0.size))
  have hbox := cell_arrS ((hb.block _ (unhid HLT)).trans (unhid HBX)) 0 _ rfl
  clear hb hb0 HB HLT HBX
  cases hq : rootOk_0 d with
  | false =>
    have E := hid (show rootOwner_0 d path = ⟨#[]⟩ by unfold rootOwner_0; rw [hq]; rfl)
    go_wp2_with fail
    go_ret
    exact ⟨by rw [unhid E]; rfl, unhid HB0⟩
  | true =>
    have E0 := hid (show rootOwner_0 d path = ownerP d.packs path by unfold rootOwner_0; rw [hq]; rfl)
    have HF := hid (code_0 (rootOk_yes hq)).1
    clear hq
    go_wp2_with fail
    clear hbox
    go_loopw [15] (fun i wr => ∃ k : Nat, k ≤ d.packs.length ∧ i = .int .i64 (k : Int) ∧ Hid (∀ (j : Nat) q, j < k → d.packs[j]? = some q → ownsB path q = false) ∧ Hid (Below w.heap.size w wr)) (fun i _ => d.packs.length - (intOf i).toNat)
    case atStart => exact ⟨0, Nat.zero_le _, rfl, hid (fun j q hj => absurd hj (Nat.not_lt_zero _)), HB0⟩
    case round =>
      obtain ⟨k, hk, rfl, HX, HB⟩ := hrel
      by_cases hlt : k < d.packs.length
      · obtain ⟨e, he⟩ : ∃ e, d.packs[k]? = some e := ⟨d.packs[k], List.getElem?_eq_getElem hlt⟩
        obtain ⟨b, o, rfl, hbl, hc⟩ := (unhid H).resolve_left (by intro e; rw [e] at hlt; simp at hlt)
        obtain ⟨na, nc, ta, tc, ⟨c0, c1, c2, c3⟩, hat⟩ := pack_cells (unhid HB) hbl hc he
        obtain ⟨hte, htl, -⟩ := tree_in hat
        have hst : smallE (treeOfP e) := ((unhid HS).2 e (List.mem_of_getElem? he)).tree
        have HBR := hid (show ∀ x, Below wr.heap.size wr (wr.alloc x) from fun x => (Below.refl _ wr).alloc (Nat.le_refl _) x)
        have JN := hid (fun W (hb : Below wr.heap.size wr W) => treeGet_any (treeOfP e) ta tc path W hst (hte.below hb))
        rw [htl] at JN
        have HE := hid he
        have HT := hid (pk_tree (form_ok (unhid HF) he))
        clear hc he hbl hat hte htl hst
        go_wp2_with fail
        have hbr := unhid HBR (.cells #[.string (PackD.name e), .string (PackD.version e), .slice na (PackD.needs e).length nc, .slice ta (PackD.tree e).length tc] 31)
        have hbx := World.alloc_heap_new wr (.cells #[.string (PackD.name e), .string (PackD.version e), .slice na (PackD.needs e).length nc, .slice ta (PackD.tree e).length tc] 31)
        have hlx : wr.heap.size < (wr.alloc (.cells #[.string (PackD.name e), .string (PackD.version e), .slice na (PackD.needs e).length nc, .slice ta (PackD.tree e).length tc] 31)).heap.size := by simp
        generalize wr.alloc (.cells #[.string (PackD.name e), .string (PackD.version e), .slice na (PackD.needs e).length nc, .slice ta (PackD.tree e).length tc] 31) = w1 at hbr hbx hlx ⊢
        refine (unhid JN w1 hbr).mono ?_
        rintro x w3 ⟨rfl, hb⟩
        have hbb := hbr.trans (hb.mono hbr.size)
        have HB3 := hid ((unhid HB).trans (hbb.mono (unhid HB).size))
        have BX := hid ((hb.block _ hlx).trans hbx)
        have HLX := hid (Nat.lt_of_lt_of_le hlx hb.size)
        clear hbr hbx hlx hb hbb HBR JN c0 c1 c2 c3
        rw [unhid HT, Bool.true_and]
        cases hth : thereE (treeOfP e) path with
        | false =>
          have HNO := hid (show ownsB path e = false by unfold ownsB; rw [hth]; rfl)
          have hge : gotE (treeOfP e) path = noneE := by unfold gotE; rw [hth, Bool.and_false]; rfl
          rw [hge]
          generalize hov : noneE = old
          obtain ⟨op, ok, om, ot⟩ := old
          unfold Ent.vals
          dsimp only
          have HBA := hid (show ∀ x, Below w.heap.size w (w3.alloc x) from fun x => (unhid HB3).alloc (unhid HB3).size x)
          clear hge hth hov
          go_wp2_with fail
          go_roundw
          case rel =>
            refine ⟨k + 1, by omega, by go_num, hid (fun j q hj hq => ?_), hid (unhid HBA _)⟩
            by_cases ej : j = k
            · subst ej; rw [unhid HE] at hq; cases hq; exact unhid HNO
            · exact unhid HX j q (by omega) hq
          case measure => simp [intOf]; omega
        | true =>
          obtain ⟨old, hold, hop⟩ := there_get hth
          have hfo := entFn_get hold
          have hob : ownsB path e = (old.kind != 1) := by unfold ownsB; rw [hth, hfo]; rfl
          have hge : gotE (treeOfP e) path = old := by unfold gotE; rw [hth, unhid HT, hfo]; rfl
          rw [hge]
          obtain ⟨op, ok, om, ot⟩ := old
          unfold Ent.vals
          dsimp only at hob ⊢
          have HBA := hid (show ∀ x, Below w.heap.size w (w3.alloc x) from fun x => (unhid HB3).alloc (unhid HB3).size x)
          have hbc : (w3.alloc (.cells #[.string op, .int .i64 ok, .int .i64 om, .string ot] 90)).cell? ⟨wr.heap.size, 0, none⟩ = some (.string (PackD.name e)) := by
            have h1 := (((Below.refl _ w3).alloc (Nat.le_refl _) (.cells #[.string op, .int .i64 ok, .int .i64 om, .string ot] 90)).block _ (unhid HLX)).trans (unhid BX)
            exact cell_arrS h1 0 _ rfl
          clear hge hth hfo hold hop
          cases hkd : (ok != 1) with
          | false =>
            have HNO := hid (hob.trans hkd)
            clear hob
            go_wp2_with fail
            go_roundw
            case rel =>
              refine ⟨k + 1, by omega, by go_num, hid (fun j q hj hq => ?_), hid (unhid HBA _)⟩
              by_cases ej : j = k
              · subst ej; rw [unhid HE] at hq; cases hq; exact unhid HNO
              · exact unhid HX j q (by omega) hq
            case measure => simp [intOf]; omega
          | true =>
            have HYE := hid (show ownerP d.packs path = PackD.name e from owner_at (unhid HX) (unhid HE) (hob.trans hkd))
            clear hob
            go_wp2_with fail
            go_ret
            exact ⟨by rw [unhid E0, unhid HYE]; rfl, unhid HBA _⟩
      · have e : k = d.packs.length := by omega
        subst e
        have E := hid (owner_no (unhid HX))
        go_wp2_with fail
        go_ret
        exact ⟨by rw [unhid E0, unhid E]; rfl, unhid HB⟩
theorem rootOwner_spec (d0 : RootD) (d1 : ByteArray) (v : Value) (F : List Nat) (W : World) (hs : rootC.sz d0 ≤ 1048576 ∧ rootC.big d0) (_ : d1.size ≤ 1048576) (h : (aggK rootC).own W v d0 F) : Calls Tryz.prog 36 #[v, .string d1] W fun r W' => r = .returned (.string (rootOwner_0 d0 d1)) ∧ Below W.heap.size W W' := by
  obtain ⟨a, c, rfl, h1, _⟩ := root_in h
  exact specRootOwner_any d0 d1 a c W (root_small hs.1) h1
theorem rootOwner_impl (d0 : RootD) (d1 : ByteArray) (v : Value) (F : List Nat) (W : World) (hs : rootC.sz d0 ≤ 1048576 ∧ rootC.big d0) (_ : d1.size ≤ 1048576) (h : (aggK rootC).own W v d0 F) : Calls Tryz.prog 37 #[v, .string d1] W fun r W' => r = .returned (.string (rootOwner_0 d0 d1)) ∧ Below W.heap.size W W' := by
  obtain ⟨a, c, rfl, h1, _⟩ := root_in h
  exact implRootOwner_any d0 d1 a c W (root_small hs.1) h1
end Go.Proofs.YtlnpjiabdebmgaaGreat
