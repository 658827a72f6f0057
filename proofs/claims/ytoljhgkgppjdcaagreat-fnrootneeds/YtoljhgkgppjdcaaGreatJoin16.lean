/- Texts of this proof, one behind the other; each says at its head what it shows. -/
import Derived.Test.YtoljhgkgppjdcaaGreatJoin15
import Derived.Test.YtoljhgkgppjdcaaGreatJoin5
import Derived.Test.YtoljhgkgppjdcaaGreatJoin12
import Derived.Test.YtoljhgkgppjdcaaGreatJoin6
import Derived.Test.YtoljhgkgppjdcaaGreatJoin3
/- What the laws of roots draw. -/
namespace Go.Proofs.YtoljhgkgppjdcaaGreat
open Go.RowKit Go.Shelf

/-- Packs that are drawn, in whatever row. -/
structure DR (W : World) (v : Value) (ps : List packC.D) : Prop where
  row : rowAt packC W v ps
  ok : ∀ d ∈ ps, DPk d
  few : ps.length ≤ 8
theorem DR.below {W W' : World} {v : Value} {ps : List packC.D} (h : DR W v ps) (hb : Below W.heap.size W W') : DR W' v ps := ⟨h.row.below hb, h.ok, h.few⟩
theorem DR.small {W : World} {v : Value} {ps : List packC.D} (h : DR W v ps) : smallPs ps := ⟨by have := h.few; omega, fun d hd => (h.ok d hd).small⟩
theorem code_on {w w' : World} {a : Option Addr} {len : Nat} (h : Code w w.heap.size a len) (hb : Below w.heap.size w w') : Code w' w'.heap.size a len := by
  rcases h with h | ⟨blk, off, ha, hbk, hc⟩
  · exact .inl h
  · refine .inr ⟨blk, off, ha, Nat.lt_of_lt_of_le hbk hb.size, fun k hk => ?_⟩
    obtain ⟨c, h1, h2⟩ := hc k hk
    exact ⟨c, h1, (hb.cell (p := ⟨blk, off + k, none⟩) hbk).trans h2⟩
theorem aq_dr {w : World} {b : Nat} {a : Option Addr} {len cap q : Nat} {W : World} {v : Value} {ps : List packC.D} (h : AQ w b a len cap q W v ps) {W' : World} (hg : ∀ k, b < k → k < W.heap.size → W'.heap[k]? = W.heap[k]?) : DR W' v ps := ⟨h.keep W' hg, h.ok, h.few⟩
set_option maxRecDepth 100000 in
set_option maxHeartbeats 2000000 in
theorem DrawRootTree_any (w : World) (a : Option Addr) (len cap : Nat) (h : Code w w.heap.size a len) (hl : len ≤ 1048576) (hc : len ≤ cap) :
    Calls Tryz.prog 13 #[.slice a len cap] w fun x w' => ∃ v ps, x = .returned (.agg #[v]) ∧ DR w' v ps ∧ Below w.heap.size w w' := by
  have hB0 : Below w.heap.size w (w.alloc (.cells #[.slice none 0 0] 25)) := (Below.refl _ w).alloc (Nat.le_refl _) _
  have H := hid (code_on h hB0)
  have hR0 := World.alloc_heap_new w (.cells #[.slice none 0 0] 25)
  have hz0 : w.heap.size < (w.alloc (.cells #[.slice none 0 0] 25)).heap.size := by simp
  clear h
  go_enter Tryz.func13, Tryz.ntmps13
  go_wp2_with fail
  generalize w.alloc (.cells #[.slice none 0 0] 25) = w0 at H hB0 hR0 hz0 ⊢
  refine (l1Open_any w0 a len cap (unhid H) hl hc).mono ?_
  rintro e w1 ⟨rfl, ⟨l', c', hR⟩, hB1⟩
  have hR1 := (hB1.block _ hz0).trans hR0
  have hB01 := hB0.trans (hB1.mono hB0.size)
  clear hR0 H
  go_wp2_with fail
  refine (l11AnyRoot_any w1 _ a l' c' 0 hR (by omega)).mono ?_
  rintro e w2 ⟨v, ps, rfl, hQ⟩
  have hb2 : Below w0.heap.size w1 w2 := grown_below hQ.grown (Nat.le_refl _) hB1.size
  have hR2 := (hb2.block _ hz0).trans hR1
  have hat := hQ.keep w2 (fun _ _ _ => rfl)
  obtain ⟨va, vc, rfl, -⟩ := rowAt.slice hat
  have hB02 : Below w.heap.size w w2 := hB01.trans (hb2.mono hB0.size)
  obtain ⟨o0, r0⟩ := cell_fz hR2 0 _ rfl
  have hBw : Below w.heap.size w2 (w2.setCell ⟨w.heap.size, 0, none⟩ (.slice va ps.length vc)) := (Below.refl _ w2).setCell (p := ⟨w.heap.size, 0, none⟩) (Nat.le_refl _) _
  have HF := hid (And.intro (aq_dr hQ (W' := w2.setCell ⟨w.heap.size, 0, none⟩ (.slice va ps.length vc)) (fun k hk _ => Below.heap_setCell _ _ _ _ (by dsimp only; omega))) (hB02.trans hBw))
  clear hQ hb2 hR2 hat hB02 hBw hB01 hB1 hR1 hR hB0
  go_wp2_with fail
  exact bodyPost_ret (v := .agg #[.slice va ps.length vc]) (by simp [results, Tryz.results13, go_sem, World.cell?_setCell_same', o0]) rfl ⟨_, ps, rfl, (unhid HF).1, (unhid HF).2⟩
end Go.Proofs.YtoljhgkgppjdcaaGreat

/- Whether two roots are the same, as the laws ask it: where they are. -/
namespace Go.Proofs.YtoljhgkgppjdcaaGreat
open Go.RowKit Go.Shelf

theorem jr_str (d : Nat) (a b : ByteArray) (w : World) : (Op.equalIn (d + 1) 9 (.string a) (.string b)).run Tryz.prog w = .ok (a == b) w := by
  simp [Op.equalIn, run_underlying Tryz.underlying9]
theorem jr_int (d : Nat) (k m : Int) (w : World) : (Op.equalIn (d + 1) 3 (.int .i64 k) (.int .i64 m)).run Tryz.prog w = .ok (k == m) w := by
  simp [Op.equalIn, run_underlying Tryz.underlying3]
theorem jr_need (d : Nat) (n v : ByteArray) (k : Int) (w : World) : (Op.equalIn (d + 1 + 1) 51 (.agg #[.string n, .int .i64 k, .string v]) (.agg #[.string n, .int .i64 k, .string v])).run Tryz.prog w = .ok true w := by
  have h0 : (program).run Tryz.prog w = .ok Tryz.prog w := by kernel_rfl
  have h1 : Tryz.prog.stoodInHeld 51 = false := by kernel_rfl
  have e0 : (part 9 #[.string n, .int .i64 k, .string v] 0).run Tryz.prog w = .ok (.string n) w := by kernel_rfl
  have e1 : (part 3 #[.string n, .int .i64 k, .string v] 1).run Tryz.prog w = .ok (.int .i64 k) w := by kernel_rfl
  have e2 : (part 9 #[.string n, .int .i64 k, .string v] 2).run Tryz.prog w = .ok (.string v) w := by kernel_rfl
  have b1 : (n == n) = true := by rw [beq_toListBytes]; simp
  have b2 : (v == v) = true := by rw [beq_toListBytes]; simp
  unfold Op.equalIn
  simp only [Sem.run_bind, run_underlying Tryz.underlying51, Result.andThen_ok, h0, h1, Bool.false_eq_true, if_false, List.forIn_toArray, List.forIn_cons, List.forIn_nil]
  rw [if_pos (by decide)]
  simp only [Sem.run_bind, e0, jr_str, Result.andThen_ok, b1, Bool.not_true, Bool.false_eq_true, if_false, Sem.run_pure]
  rw [if_pos (by decide)]
  simp only [Sem.run_bind, e1, jr_int, Result.andThen_ok, beq_self_eq_true, Bool.not_true, Bool.false_eq_true, if_false, Sem.run_pure]
  rw [if_pos (by decide)]
  simp [Sem.run_bind, e2, jr_str, Sem.run_pure, b2]
theorem jr_ne (n v : ByteArray) (k : Int) (w : World) : (binOp .neq 51 (.agg #[.string n, .int .i64 k, .string v]) (.agg #[.string n, .int .i64 k, .string v])).run Tryz.prog w = .ok (.bool false) w := by
  simp only [binOp]
  simp [Op.equal, Op.maxDepth, jr_need 9998]

set_option maxRecDepth 100000 in
set_option maxHeartbeats 4000000 in
theorem jsNeeds_same (ds : List needC.D) (v v' : Value) (w : World) (hl : ds.length ≤ 1048576) (h : rowAt needC w v ds) (h2 : rowAt needC w v' ds) :
    Calls Tryz.prog 173 #[v, v'] w fun r w' => r = .returned (.bool true) ∧ Below w.heap.size w w' := by
  obtain ⟨a, cap, rfl, -, -, h⟩ := h
  obtain ⟨a', cap', rfl, -, -, h2⟩ := h2
  go_enter Tryz.func173, Tryz.ntmps173
  go_wp2_with fail
  go_loopw [5] (fun i wr => ∃ k : Nat, k ≤ ds.length ∧ i = .int .i64 k ∧ Below w.heap.size w wr) (fun i _ => ds.length - (intOf i).toNat)
  case atStart => exact ⟨0, Nat.zero_le _, rfl, Below.refl _ _⟩
  case round =>
    obtain ⟨k, hk, rfl, hB⟩ := hrel
    by_cases hlt : k < ds.length
    · have hne0 : ds ≠ [] := by intro e; subst e; simp at hlt
      obtain ⟨b, o, rfl, hb, hc⟩ := h.resolve_left hne0
      obtain ⟨b', o', rfl, hb', hc'⟩ := h2.resolve_left hne0
      obtain ⟨e, he⟩ : ∃ e, ds[k]? = some e := ⟨ds[k], List.getElem?_eq_getElem hlt⟩
      obtain ⟨c0, c1, c2⟩ := need_cells hB hb hc he
      obtain ⟨d0, d1, d2⟩ := need_cells hB hb' hc' he
      have hne := jr_ne (NeedD.name e) (NeedD.version e) (NeedD.kind e)
      have HB := hid hB
      have HH := hid (And.intro h (And.intro h2 (And.intro hc hc')))
      clear hc hc' hB he h h2
      go_wp2_with fail
      go_quiet (fail)
      go_wp2_with fail
      go_roundw
      case rel => exact ⟨k + 1, by omega, by go_num, (unhid HB).trans (drewN_below _ _)⟩
      case measure => simp [intOf]; omega
    · have e : k = ds.length := by omega
      subst e
      go_wp2_with fail
      go_ret
      exact ⟨rfl, hB⟩
set_option maxRecDepth 100000 in
set_option maxHeartbeats 4000000 in
theorem jsPack_same (d : packC.D) (cs cs' : List Value) (w : World) (hs : smallP d) (h : packC.at_ w cs d) (h2 : packC.at_ w cs' d) :
    Calls Tryz.prog 118 #[.agg cs.toArray, .agg cs'.toArray] w fun r w' => r = .returned (.bool true) ∧ Below w.heap.size w w' := by
  obtain ⟨v2, v3, rfl, p2, p3⟩ := packC_at h
  obtain ⟨u2, u3, rfl, q2, q3⟩ := packC_at h2
  have hB := two_boxes w (.cells #[.string (PackD.name d), .string (PackD.version d), v2, v3] 37) (.cells #[.string (PackD.name d), .string (PackD.version d), u2, u3] 37)
  have hb := alloc2_below w (.cells #[.string (PackD.name d), .string (PackD.version d), v2, v3] 37) (.cells #[.string (PackD.name d), .string (PackD.version d), u2, u3] 37)
  obtain ⟨a3, k3, hv3, -, -, r3⟩ := entsD_at p3
  obtain ⟨b3, e3, hw3, -, -, s3⟩ := entsD_at q3
  subst hv3 hw3
  obtain ⟨na, nc, rfl, -⟩ := rowAt.slice p2
  obtain ⟨ma, mc, rfl, -⟩ := rowAt.slice q2
  have HN := hid (And.intro p2 q2)
  have HT := hid (And.intro r3 s3)
  have hsn := hs.needs.1
  have hst := hs.tree.1
  have et : ∀ xs : List Ent, eqEs xs xs = true := eqEs_self
  clear p2 q2 r3 s3 p3 q3 h h2
  have b1 : (PackD.name d == PackD.name d) = true := by rw [beq_toListBytes]; simp
  have b2 : (PackD.version d == PackD.version d) = true := by rw [beq_toListBytes]; simp
  go_enter Tryz.func118, Tryz.ntmps118
  go_wp2_with fail
  generalize (w.alloc (.cells #[.string (PackD.name d), .string (PackD.version d), .slice na (PackD.needs d).length nc, .slice a3 (entsD (PackD.tree d)).length k3] 37)).alloc (.cells #[.string (PackD.name d), .string (PackD.version d), .slice ma (PackD.needs d).length mc, .slice b3 (entsD (PackD.tree d)).length e3] 37) = w0 at hB hb ⊢
  obtain ⟨hP, hQ, hS⟩ := hB
  have c0 := cell_arrS hP 0 _ rfl
  have c1 := cell_arrS hP 1 _ rfl
  have c2 := cell_arrS hP 2 _ rfl
  have d0 := cell_arrS hQ 0 _ rfl
  have d1 := cell_arrS hQ 1 _ rfl
  have d2 := cell_arrS hQ 2 _ rfl
  go_wp2_with fail
  refine (jsNeeds_same (PackD.needs d) _ _ w0 hsn ((unhid HN).1.below hb) ((unhid HN).2.below hb)).mono ?_
  rintro x w1 ⟨rfl, hb1⟩
  have hP1 := (hb1.block _ (by omega)).trans hP
  have hQ1 := (hb1.block _ hS).trans hQ
  have hB1 := hb.trans (hb1.mono hb.size)
  clear hP hQ c0 c1 c2 d0 d1 d2 hb hb1
  have c3 := cell_arrS hP1 3 _ rfl
  have d3 := cell_arrS hQ1 3 _ rfl
  have JT := hid (jsTree_any (entsD (PackD.tree d)) (entsD (PackD.tree d)) a3 b3 k3 e3 w1 (by unfold maxLen; omega) (by unfold maxLen; omega) ((unhid HT).1.below hB1) ((unhid HT).2.below hB1))
  go_wp2_with fail
  refine (unhid JT).mono ?_
  rintro x w2 ⟨rfl, hb2⟩
  have HB2 := hid (hB1.trans (hb2.mono hB1.size))
  rw [et]
  clear hP1 hQ1 c3 d3 hB1 hb2 JT
  go_wp2_with fail
  go_ret
  exact ⟨rfl, unhid HB2⟩
set_option maxRecDepth 100000 in
set_option maxHeartbeats 4000000 in
theorem jsPacks_same (ps : List packC.D) (v v' : Value) (w : World) (hs : smallPs ps) (h : rowAt packC w v ps) (h2 : rowAt packC w v' ps) :
    Calls Tryz.prog 58 #[v, v'] w fun r w' => r = .returned (.bool true) ∧ Below w.heap.size w w' := by
  obtain ⟨a, cap, rfl, -, -, h⟩ := h
  obtain ⟨a', cap', rfl, -, -, h2⟩ := h2
  have hl := hs.1
  have HS := hid hs
  clear hs
  go_enter Tryz.func58, Tryz.ntmps58
  go_wp2_with fail
  go_loopw [5] (fun i wr => ∃ k : Nat, k ≤ ps.length ∧ i = .int .i64 k ∧ Hid (Below w.heap.size w wr)) (fun i _ => ps.length - (intOf i).toNat)
  case atStart => exact ⟨0, Nat.zero_le _, rfl, Below.refl _ _⟩
  case round =>
    obtain ⟨k, hk, rfl, HB⟩ := hrel
    by_cases hlt : k < ps.length
    · have hne0 : ps ≠ [] := by intro e; subst e; simp at hlt
      obtain ⟨b, o, rfl, hb, hc⟩ := h.resolve_left hne0
      obtain ⟨b', o', rfl, hb', hc'⟩ := h2.resolve_left hne0
      obtain ⟨e, he⟩ : ∃ e, ps[k]? = some e := ⟨ps[k], List.getElem?_eq_getElem hlt⟩
      have hes := (unhid HS).2 e (List.mem_of_getElem? he)
      obtain ⟨na, nc, ta, tc, ⟨c0, c1, c2, c3⟩, hat⟩ := pack_cells (unhid HB) hb hc he
      obtain ⟨na', nc', ta', tc', ⟨d0, d1, d2, d3⟩, hat'⟩ := pack_cells (unhid HB) hb' hc' he
      have hbw : b < wr.heap.size := Nat.lt_of_lt_of_le hb (unhid HB).size
      have hbw' : b' < wr.heap.size := Nat.lt_of_lt_of_le hb' (unhid HB).size
      have gc0 : ∀ x : CW (fun w' => Below wr.heap.size wr w'), x.w.cell? ⟨b, o + k * 4, none⟩ = some (.string (PackD.name e)) := fun x => (x.h.cell (p := ⟨b, o + k * 4, none⟩) hbw).trans c0
      have gc1 : ∀ x : CW (fun w' => Below wr.heap.size wr w'), x.w.cell? ⟨b, o + k * 4 + 1, none⟩ = some (.string (PackD.version e)) := fun x => (x.h.cell (p := ⟨b, o + k * 4 + 1, none⟩) hbw).trans c1
      have gc2 : ∀ x : CW (fun w' => Below wr.heap.size wr w'), x.w.cell? ⟨b, o + k * 4 + 2, none⟩ = some (.slice na (PackD.needs e).length nc) := fun x => (x.h.cell (p := ⟨b, o + k * 4 + 2, none⟩) hbw).trans c2
      have gc3 : ∀ x : CW (fun w' => Below wr.heap.size wr w'), x.w.cell? ⟨b, o + k * 4 + 3, none⟩ = some (.slice ta (PackD.tree e).length tc) := fun x => (x.h.cell (p := ⟨b, o + k * 4 + 3, none⟩) hbw).trans c3
      have gd0 : ∀ x : CW (fun w' => Below wr.heap.size wr w'), x.w.cell? ⟨b', o' + k * 4, none⟩ = some (.string (PackD.name e)) := fun x => (x.h.cell (p := ⟨b', o' + k * 4, none⟩) hbw').trans d0
      have gd1 : ∀ x : CW (fun w' => Below wr.heap.size wr w'), x.w.cell? ⟨b', o' + k * 4 + 1, none⟩ = some (.string (PackD.version e)) := fun x => (x.h.cell (p := ⟨b', o' + k * 4 + 1, none⟩) hbw').trans d1
      have gd2 : ∀ x : CW (fun w' => Below wr.heap.size wr w'), x.w.cell? ⟨b', o' + k * 4 + 2, none⟩ = some (.slice na' (PackD.needs e).length nc') := fun x => (x.h.cell (p := ⟨b', o' + k * 4 + 2, none⟩) hbw').trans d2
      have gd3 : ∀ x : CW (fun w' => Below wr.heap.size wr w'), x.w.cell? ⟨b', o' + k * 4 + 3, none⟩ = some (.slice ta' (PackD.tree e).length tc') := fun x => (x.h.cell (p := ⟨b', o' + k * 4 + 3, none⟩) hbw').trans d3
      have hba : ∀ {q : Prop}, (CW (fun w' => Below wr.heap.size wr w') → q) ↔ q := CW.all (Below.refl _ wr)
      have HH := hid (And.intro h (And.intro h2 (And.intro hc hc')))
      have HAT := hid (And.intro hat hat')
      clear hc hc' he h h2 c0 c1 c2 c3 d0 d1 d2 d3 hat hat'
      go_wp2_with fail
      refine held_begin (fun w' => Below wr.heap.size wr w') (by kernel_rfl) (drew_belowS _) ?_
      refine held_here [true, true, true, true, true, true, true, true] (by kernel_rfl) (by kernel_rfl) (fun _ _ _ _ _ h => h) (drew_belowS _) ?_
      dsimp only [pick]
      repeat (go_big_quiet_step (fail))
      refine wpQuiet_nil ?_
      have hD := drew_belowS (B := wr.heap.size) wr
      generalize hdr : wr.drew = w1 at hD ⊢
      clear hdr gc0 gc1 gc2 gc3 gd0 gd1 gd2 gd3
      refine held_call 8 118 25 (enters_of Tryz.func118 (by kernel_rfl) rfl) #[.agg #[.string (PackD.name e), .string (PackD.version e), .slice na (PackD.needs e).length nc, .slice ta (PackD.tree e).length tc], .agg #[.string (PackD.name e), .string (PackD.version e), .slice na' (PackD.needs e).length nc', .slice ta' (PackD.tree e).length tc']] (by kernel_rfl) (by kernel_rfl) rfl rfl rfl rfl rfl ?_
      refine (jsPack_same e _ _ w1 hes (packC.below (unhid HAT).1 hD) (packC.below (unhid HAT).2 hD)).mono ?_
      rintro x w2 ⟨rfl, hb2⟩
      have hD2 := hD.trans (hb2.mono hD.size)
      refine ⟨_, rfl, hD2, ?_⟩
      simp only [Act.put, List.setIfInBounds_toArray, List.set_cons_zero, List.set_cons_succ]
      refine held_here [false, false, false, false, false, false, false, false, false, true] (by kernel_rfl) (by kernel_rfl) (fun _ _ _ _ _ h => h) hD2 ?_
      dsimp only [pick]
      repeat (go_big_quiet_step (fail))
      refine wpQuiet_nil ?_
      refine held_done (by kernel_rfl) ?_
      have HB2 := hid ((unhid HB).trans (hD2.mono (unhid HB).size))
      clear hba hD hD2 hb2 HB
      go_wp2_with fail
      go_roundw
      case rel => exact ⟨k + 1, by omega, by go_num, HB2⟩
      case measure => simp [intOf]; omega
    · have e : k = ps.length := by omega
      subst e
      go_wp2_with fail
      go_ret
      exact ⟨rfl, unhid HB⟩
set_option maxRecDepth 100000 in
set_option maxHeartbeats 4000000 in
theorem jsRoot_same (ps : List packC.D) (v v' : Value) (w : World) (hs : smallPs ps) (h : rowAt packC w v ps) (h2 : rowAt packC w v' ps) :
    Calls Tryz.prog 24 #[.agg #[v], .agg #[v']] w fun r w' => r = .returned (.bool true) ∧ Below w.heap.size w w' := by
  obtain ⟨a, c, rfl, -⟩ := rowAt.slice h
  obtain ⟨a', c', rfl, -⟩ := rowAt.slice h2
  have hB := two_boxes w (.cells #[.slice a ps.length c] 25) (.cells #[.slice a' ps.length c'] 25)
  have hb := alloc2_below w (.cells #[.slice a ps.length c] 25) (.cells #[.slice a' ps.length c'] 25)
  have H := hid (And.intro h h2)
  clear h h2
  go_enter Tryz.func24, Tryz.ntmps24
  go_wp2_with fail
  generalize (w.alloc (.cells #[.slice a ps.length c] 25)).alloc (.cells #[.slice a' ps.length c'] 25) = w0 at hB hb ⊢
  obtain ⟨hP, hQ, hS⟩ := hB
  have c0 := cell_arrS hP 0 _ rfl
  have d0 := cell_arrS hQ 0 _ rfl
  go_wp2_with fail
  refine (jsPacks_same ps _ _ w0 hs ((unhid H).1.below hb) ((unhid H).2.below hb)).mono ?_
  rintro x w1 ⟨rfl, hb1⟩
  have HB := hid (hb.trans (hb1.mono hb.size))
  clear hP hQ c0 d0 hb hb1
  go_wp2_with fail
  go_ret
  exact ⟨rfl, unhid HB⟩
end Go.Proofs.YtoljhgkgppjdcaaGreat

/- The bytes that a law is handed, read. -/
namespace Go.Proofs.YtoljhgkgppjdcaaGreat
open Go.ChangeShapes Go.WideShapes Go.ChangeAt Go.RowKit

theorem cells5 : Tryz.prog.cellsOf 5 = 1 := by kernel_rfl

theorem code_of {H : Type} {enc : TypeId × Value → H} {W : World} {a0 : Option Addr} {len cap : Nat} {d0 : DataW H} {p0 : List MemPlace}
    (h0 : DataW.Trod enc Tryz.prog W 0 (fun _ => true) true 22 (.slice a0 len cap) d0 p0) (hlt : ∀ x ∈ p0, x.block < W.heap.size) : Code W W.heap.size a0 len ∧ len ≤ cap := by
  obtain ⟨fuel, hf⟩ := h0
  rcases open_ints Tryz.underlying22 Tryz.underlying5 cells5 hf with ⟨hcs, hx⟩ | ⟨a, len', cap', zs, hcs, _, hl, hm, hz, hx, hcell, hwz⟩
  · simp [Value.cells] at hcs
    obtain ⟨rfl, rfl, rfl⟩ := hcs
    exact ⟨.inl rfl, Nat.le_refl _⟩
  · simp [Value.cells] at hcs
    obtain ⟨rfl, rfl, rfl⟩ := hcs
    simp only [Prod.mk.injEq] at hx
    obtain ⟨rfl, rfl⟩ := hx
    simp only [if_true] at hz
    refine ⟨?_, hl⟩
    by_cases hl0 : len = 0
    · exact .inl hl0
    · obtain ⟨b, off, spot⟩ := a
      have hspot : spot = none := by simpa [Addr.add] using World.cell?_spot (hcell 0 (by omega))
      subst hspot
      have hbW : b < W.heap.size := hlt (.cell b off) (MemPlace.mem_row.2 ⟨0, by omega, by simp⟩)
      refine .inr ⟨b, off, rfl, hbW, fun k hk => ?_⟩
      have hk' : k < zs.length := by omega
      have hw := hwz (zs.getD k 0) (by simp [List.getD, List.getElem?_eq_getElem hk'])
      have hc := hcell k hk'
      rw [add_plain] at hc
      generalize zs.getD k 0 = z at hw hc
      have hx : 0 ≤ z ∧ z ≤ 255 := by simpa [Lit.wf, IntKind.min, IntKind.max, IntKind.signed, IntKind.bits] using hw
      exact ⟨z.toNat, by omega, by rw [hc, Int.toNat_of_nonneg hx.1]⟩
end Go.Proofs.YtoljhgkgppjdcaaGreat

/- Roots that the laws read: the contracts, and what keeps. -/
namespace Go.Proofs.YtoljhgkgppjdcaaGreat
open Go.RowKit Go.Shelf

/-- A root that is read. -/
structure RR (W : World) (a : Option Addr) (c : Nat) (ps : List packC.D) : Prop where
  row : rowAt packC W (.slice a ps.length c) ps
  small : smallPs ps
  few : ps.length ≤ 100
theorem RR.below {W W' : World} {a : Option Addr} {c : Nat} {ps : List packC.D} (h : RR W a c ps) (hb : Below W.heap.size W W') : RR W' a c ps := ⟨h.row.below hb, h.small, h.few⟩
theorem rr_of {W : World} {N : Nat} {r : Value} {L : List (It packC)} {ps : List packC.D} (h : NRow packC 37 W N r L) (hL : itD L = ps) (hs : smallPs ps) (hf : ps.length ≤ 100) : ∃ a c, r = .slice a ps.length c ∧ RR W a c ps := by
  obtain ⟨F, h1, _⟩ := h.own
  have h2 := h1.toAt
  rw [hL] at h2
  obtain ⟨a, c, rfl, -⟩ := rowAt.slice h2
  exact ⟨a, c, rfl, h2, hs, hf⟩
/-- A pack that is read. -/
structure PR (W : World) (cs : List Value) (p : packC.D) : Prop where
  at_ : packC.at_ W cs p
  small : smallP p
theorem PR.below {W W' : World} {cs : List Value} {p : packC.D} (h : PR W cs p) (hb : Below W.heap.size W W') : PR W' cs p := ⟨packC.below h.at_ hb, h.small⟩
theorem PR.cells {W : World} {cs : List Value} {p : packC.D} (h : PR W cs p) : ∃ na nc ta tc, cs = [.string (PackD.name p), .string (PackD.version p), .slice na (PackD.needs p).length nc, .slice ta (PackD.tree p).length tc] := by
  obtain ⟨v2, v3, rfl, p2, p3⟩ := packC_at h.at_
  obtain ⟨na, nc, rfl, -⟩ := rowAt.slice p2
  obtain ⟨ta, tc, rfl, -⟩ := rowAt.slice p3
  exact ⟨_, _, _, _, rfl⟩
theorem dr_rr {W : World} {v : Value} {ps : List packC.D} (h : DR W v ps) : ∃ a c, v = .slice a ps.length c ∧ RR W a c ps := by
  obtain ⟨a, c, rfl, -⟩ := rowAt.slice h.row
  exact ⟨a, c, rfl, h.row, h.small, by have := h.few; omega⟩
theorem rin_small {ps : List packC.D} {p : packC.D} (hs : smallPs ps) (hf : ps.length ≤ 100) (hp : smallP p) : smallPs (rootInP ⟨ps⟩ p) ∧ (rootInP ⟨ps⟩ p).length ≤ 100 := by
  have hm := inP_mem p ps
  have hl : (rootInP ⟨ps⟩ p).length ≤ 100 := by
    by_cases h : rootInC ⟨ps⟩ p = 0
    · obtain ⟨-, -, -, h1, h2⟩ := put_facts h
      rw [h1]
      have := ok_len (ok_0.1 h2)
      exact Nat.le_trans this (by omega)
    · cases hk : rootOk_0 ⟨ps⟩ with
      | true => rw [rin_not hk h]; exact hf
      | false => unfold rootInP; rw [hk]; exact Nat.zero_le _
  refine ⟨⟨by omega, fun x hx => ?_⟩, hl⟩
  unfold rootInP at hx
  split at hx
  · rcases hm.2 x hx with rfl | hx
    · exact hp
    · exact hs.2 x hx
  · cases hx
def InOut (ps : List packC.D) (p : packC.D) (W : World) (x : Ending) (w' : World) : Prop := ∃ a c, x = .returned (.tuple #[.agg #[.slice a (rootInP ⟨ps⟩ p).length c], .int .i64 (rootInC ⟨ps⟩ p)]) ∧ RR w' a c (rootInP ⟨ps⟩ p) ∧ Below W.heap.size W w'
theorem in_out_of {ps : List packC.D} {p : packC.D} {W : World} {x : Ending} {w' : World} (hs : smallPs ps) (hf : ps.length ≤ 100) (hp : smallP p) (h : RootInR ⟨ps⟩ p W x w') : InOut ps p W x w' := by
  obtain ⟨r, L, rfl, hN, hL, hb⟩ := h
  obtain ⟨h1, h2⟩ := rin_small hs hf hp
  obtain ⟨a, c, rfl, hr⟩ := rr_of hN hL h1 h2
  exact ⟨a, c, rfl, hr, hb⟩
theorem implIn_r {W : World} {a : Option Addr} {c : Nat} {ps : List packC.D} {cs : List Value} {p : packC.D} (h : RR W a c ps) (hp : PR W cs p) : Calls Tryz.prog 22 #[.agg #[.slice a ps.length c], .agg cs.toArray] W (InOut ps p W) :=
  (implRootIn_any ⟨ps⟩ a c p cs W h.small hp.small h.row hp.at_).mono (fun _ _ h2 => in_out_of h.small h.few hp.small h2)
theorem jsRoot_r {W : World} {a a' : Option Addr} {c c' : Nat} {ps : List packC.D} (h : RR W a c ps) (h2 : RR W a' c' ps) : Calls Tryz.prog 24 #[.agg #[.slice a ps.length c], .agg #[.slice a' ps.length c']] W fun r w' => r = .returned (.bool true) ∧ Below W.heap.size W w' :=
  jsRoot_same ps _ _ W h.small h.row h2.row
/-- What a call that turns a root answers. -/
def Turned (qs : List packC.D) (k : Int) (W : World) (x : Ending) (w' : World) : Prop := ∃ a c, x = .returned (.tuple #[.agg #[.slice a qs.length c], .int .i64 k]) ∧ RR w' a c qs ∧ Below W.heap.size W w'
theorem turned_in {ps qs : List packC.D} {p : packC.D} {k : Int} {W : World} {x : Ending} {w' : World} (e : rootInP ⟨ps⟩ p = qs) (c : rootInC ⟨ps⟩ p = k) (h : InOut ps p W x w') : Turned qs k W x w' := by
  subst e c
  exact h
/-- What stays while nothing that was there is written. -/
def StaysW (Φ : World → Prop) : Prop := ∀ W W' : World, Below W.heap.size W W' → Φ W → Φ W'
structure KW (Φ : World → Prop) (W : World) : Prop where
  keeps : StaysW Φ
  now : Φ W
theorem KW.step {Φ : World → Prop} {W W' : World} (h : KW Φ W) (hb : Below W.heap.size W W') : KW Φ W' := ⟨h.keeps, h.keeps W W' hb h.now⟩
theorem KW.add {Φ Ψ : World → Prop} {W : World} (h : KW Φ W) (hk : StaysW Ψ) (hn : Ψ W) : KW (fun W => Φ W ∧ Ψ W) W := ⟨fun W W' hb hp => ⟨h.keeps W W' hb hp.1, hk W W' hb hp.2⟩, h.now, hn⟩
theorem KW.row {Φ : World → Prop} {W : World} (h : KW Φ W) {a : Option Addr} {c : Nat} {ps : List packC.D} (hr : RR W a c ps) : KW (fun W => Φ W ∧ RR W a c ps) W := h.add (fun _ _ hb hp => hp.below hb) hr
theorem KW.pack {Φ : World → Prop} {W : World} (h : KW Φ W) {cs : List Value} {p : packC.D} (hr : PR W cs p) : KW (fun W => Φ W ∧ PR W cs p) W := h.add (fun _ _ hb hp => hp.below hb) hr
theorem KW.box {Φ : World → Prop} {W : World} (h : KW Φ W) {g : Nat} {o : Obj} (hr : W.heap[g]? = some o) : KW (fun W => Φ W ∧ W.heap[g]? = some o) W := h.add (fun _ _ hb hp => (hb.block _ (Array.getElem?_eq_some_iff.1 hp).1).trans hp) hr
theorem KW.start (w : World) : KW (fun W => Below w.heap.size w W) w := ⟨fun _ _ hb hp => hp.trans (hb.mono hp.size), Below.refl _ w⟩
end Go.Proofs.YtoljhgkgppjdcaaGreat

/- Roots that the laws read: more contracts. -/
namespace Go.Proofs.YtoljhgkgppjdcaaGreat
open Go.RowKit Go.Shelf

/-- Entries that are read. -/
structure ER (W : World) (a : Option Addr) (es : List Ent) : Prop where
  ents : EntsAt W a es
  small : smallE es
theorem ER.below {W W' : World} {a : Option Addr} {es : List Ent} (h : ER W a es) (hb : Below W.heap.size W W') : ER W' a es := ⟨h.ents.below hb, h.small⟩
theorem KW.ents {Φ : World → Prop} {W : World} (h : KW Φ W) {a : Option Addr} {es : List Ent} (hr : ER W a es) : KW (fun W => Φ W ∧ ER W a es) W := h.add (fun _ _ hb hp => hp.below hb) hr
theorem KW.mark {Φ : World → Prop} {W : World} (h : KW Φ W) : KW (fun W' => Φ W' ∧ Below W.heap.size W W') W := h.add (fun _ _ hb hp => hp.trans (hb.mono hp.size)) (Below.refl _ W)
theorem implOk_r {W : World} {a : Option Addr} {c : Nat} {ps : List packC.D} (h : RR W a c ps) : Calls Tryz.prog 17 #[.agg #[.slice a ps.length c]] W fun x w' => x = .returned (.bool (rootOk_0 ⟨ps⟩)) ∧ Below W.heap.size W w' := implRootOk_any ⟨ps⟩ a c W h.small h.row
theorem specOk_r {W : World} {a : Option Addr} {c : Nat} {ps : List packC.D} (h : RR W a c ps) : Calls Tryz.prog 18 #[.agg #[.slice a ps.length c]] W fun x w' => x = .returned (.bool (rootOk_0 ⟨ps⟩)) ∧ Below W.heap.size W w' := specRootOk_any ⟨ps⟩ a c W h.small h.row
/-- The tree of a pack that is read. -/
theorem PR.tree {W : World} {p : packC.D} {n0 t0 : Option Addr} {n1 t1 : Nat} (h : PR W [.string (PackD.name p), .string (PackD.version p), .slice n0 (PackD.needs p).length n1, .slice t0 (PackD.tree p).length t1] p) : EntsAt W t0 (treeOfP p) ∧ (treeOfP p).length = (PackD.tree p).length := by
  obtain ⟨h1, h2, _⟩ := tree_in h.at_
  exact ⟨h1, h2⟩
end Go.Proofs.YtoljhgkgppjdcaaGreat

/- A pack under another name, with the tree of one that is there. -/
namespace Go.Proofs.YtoljhgkgppjdcaaGreat
open Go.RowKit Go.Shelf

def freshP (p : packC.D) : packC.D := (⟨⟨#[102, 114, 101, 115, 104]⟩, ⟨#[49]⟩, [], PackD.tree p⟩ : PackD)
theorem fresh_drawn : ¬ drawn ⟨#[102, 114, 101, 115, 104]⟩ := by unfold drawn; decide
theorem versOk_1 : versOk [49] = true := by decide
theorem fresh_small {p : packC.D} (h : smallP p) : smallP (freshP p) := ⟨by show 5 ≤ 1048576; omega, by show 1 ≤ 1048576; omega, ⟨by show 0 ≤ 1048576; omega, fun d hd => by cases hd⟩, h.tree⟩
theorem fresh_at {W : World} {cs : List Value} {p : packC.D} (h : packC.at_ W cs p) {n2 v : Value} (hc : cs = [.string (PackD.name p), .string (PackD.version p), n2, v]) : packC.at_ W [.string ⟨#[102, 114, 101, 115, 104]⟩, .string ⟨#[49]⟩, .slice none 0 0, v] (freshP p) := by
  obtain ⟨v2, v3, e, p2, p3⟩ := packC_at h
  rw [e] at hc
  simp only [List.cons.injEq, and_true, true_and] at hc
  obtain ⟨-, rfl⟩ := hc
  exact ⟨[_], _, rfl, rfl, ⟨[_], _, rfl, rfl, ⟨[_], _, rfl, ⟨_, rfl, ⟨none, 0, rfl, fun _ => rfl, Nat.le_refl _, .inl rfl⟩⟩, ⟨_, rfl, p3⟩⟩⟩⟩
end Go.Proofs.YtoljhgkgppjdcaaGreat

/- Roots that the laws read: packs under other names. -/
namespace Go.Proofs.YtoljhgkgppjdcaaGreat
open Go.RowKit Go.Shelf

/-- A pack in a row. -/
structure PA (W : World) (b o : Nat) (p : packC.D) (na : Option Addr) (nc : Nat) (ta : Option Addr) (tc : Nat) : Prop where
  lt : b < W.heap.size
  c0 : W.cell? ⟨b, o, none⟩ = some (.string (PackD.name p))
  c1 : W.cell? ⟨b, o + 1, none⟩ = some (.string (PackD.version p))
  c2 : W.cell? ⟨b, o + 2, none⟩ = some (.slice na (PackD.needs p).length nc)
  c3 : W.cell? ⟨b, o + 3, none⟩ = some (.slice ta (PackD.tree p).length tc)
  pr : PR W [.string (PackD.name p), .string (PackD.version p), .slice na (PackD.needs p).length nc, .slice ta (PackD.tree p).length tc] p
theorem PA.below {W W' : World} {b o : Nat} {p : packC.D} {na : Option Addr} {nc : Nat} {ta : Option Addr} {tc : Nat} (h : PA W b o p na nc ta tc) (hb : Below W.heap.size W W') : PA W' b o p na nc ta tc :=
  ⟨Nat.lt_of_lt_of_le h.lt hb.size, (hb.cell (p := ⟨b, o, none⟩) h.lt).trans h.c0, (hb.cell (p := ⟨b, o + 1, none⟩) h.lt).trans h.c1, (hb.cell (p := ⟨b, o + 2, none⟩) h.lt).trans h.c2, (hb.cell (p := ⟨b, o + 3, none⟩) h.lt).trans h.c3, h.pr.below hb⟩
theorem RR.get {W : World} {a : Option Addr} {c k : Nat} {ps : List packC.D} {p : packC.D} (h : RR W a c ps) (hk : ps[k]? = some p) : ∃ b o na nc ta tc, a = some ⟨b, o, none⟩ ∧ PA W b (o + k * 4) p na nc ta tc := by
  obtain ⟨a', c', e, -, -, h2⟩ := h.row
  cases e
  rcases h2 with h2 | ⟨b, o, rfl, hb, hc⟩
  · rw [h2] at hk; cases hk
  · obtain ⟨na, nc, ta, tc, ⟨c0, c1, c2, c3⟩, hat⟩ := pack_cells (Below.refl W.heap.size W) hb hc hk
    exact ⟨b, o, na, nc, ta, tc, rfl, hb, c0, c1, c2, c3, hat, h.small.2 p (List.mem_of_getElem? hk)⟩
theorem KW.pa {Φ : World → Prop} {W : World} (h : KW Φ W) {b o : Nat} {p : packC.D} {na : Option Addr} {nc : Nat} {ta : Option Addr} {tc : Nat} (hr : PA W b o p na nc ta tc) : KW (fun W => Φ W ∧ PA W b o p na nc ta tc) W := h.add (fun _ _ hb hp => hp.below hb) hr
theorem KW.cut {Φ Ψ : World → Prop} {W : World} (h : KW (fun W => Φ W ∧ Ψ W) W) (hk : StaysW Φ) : KW Φ W := ⟨hk, h.now.1⟩
/-- The root that a call answers lies in what the call has made. -/
def TurnedK (qs : List packC.D) (k : Int) (W : World) (x : Ending) (w' : World) : Prop := ∃ a c, x = .returned (.tuple #[.agg #[.slice a qs.length c], .int .i64 k]) ∧ (∀ w'' : World, (∀ j, W.heap.size ≤ j → j < w'.heap.size → w''.heap[j]? = w'.heap[j]?) → RR w'' a c qs) ∧ Below W.heap.size W w'
theorem implIn_k {W : World} {a : Option Addr} {c : Nat} {ps X : List packC.D} {cs : List Value} {p : packC.D} {k : Int} (h : RR W a c ps) (hp : PR W cs p) (eX : rootInP ⟨ps⟩ p = X) (ek : rootInC ⟨ps⟩ p = k) : Calls Tryz.prog 22 #[.agg #[.slice a ps.length c], .agg cs.toArray] W (TurnedK X k W) :=
  (implRootIn_any ⟨ps⟩ a c p cs W h.small hp.small h.row hp.at_).mono (fun _ _ ⟨r, L, h1, hN, hL, hb⟩ => by
    obtain ⟨s1, s2⟩ := rin_small h.small h.few hp.small
    subst eX ek
    obtain ⟨a', c', rfl, -⟩ := rr_of hN hL s1 s2
    refine ⟨a', c', h1, fun w'' hw => ?_, hb⟩
    obtain ⟨a2, c2, e, hr⟩ := rr_of (hN.frame (fun j hj => hw j (hN.base j hj).1 (hN.base j hj).2)) hL s1 s2
    cases e
    exact hr)
theorem PR.fresh {W : World} {p : packC.D} {na : Option Addr} {nc : Nat} {ta : Option Addr} {tc : Nat} (h : PR W [.string (PackD.name p), .string (PackD.version p), .slice na (PackD.needs p).length nc, .slice ta (PackD.tree p).length tc] p) : PR W [.string ⟨#[102, 114, 101, 115, 104]⟩, .string ⟨#[49]⟩, .slice none 0 0, .slice ta (PackD.tree p).length tc] (freshP p) := ⟨fresh_at h.at_ rfl, fresh_small h.small⟩
end Go.Proofs.YtoljhgkgppjdcaaGreat

/- A pack that needs what is there, and one that needs what is not. -/
namespace Go.Proofs.YtoljhgkgppjdcaaGreat
open Go.RowKit Go.Shelf

def freshN (n : needC.D) : packC.D := (⟨⟨#[102, 114, 101, 115, 104]⟩, ⟨#[49]⟩, [n], []⟩ : PackD)
theorem freshN_tree (n : needC.D) : treeOfP (freshN n) = [] := rfl
theorem freshN_name (n : needC.D) : PackD.name (freshN n) = ⟨#[102, 114, 101, 115, 104]⟩ := rfl
theorem freshN_ok {n : needC.D} (h : needOkD n = true) (hn : NeedD.name n ≠ ⟨#[102, 114, 101, 115, 104]⟩) : pkOk (freshN n) = true := by
  have e1 : packB [102, 114, 101, 115, 104] = true := by decide
  have e2 : treeB [] = true := treeB_nil
  unfold pkOk
  show (packB [102, 114, 101, 115, 104] && versOk [49] && ((List.all (α := needC.D) [n] needOkD && decide (1 ≤ 6)) && !twiceB [⟨#[102, 114, 101, 115, 104]⟩, NeedD.name n]) && treeB []) = true
  rw [e1, versOk_1, e2]
  have : twiceB [(⟨#[102, 114, 101, 115, 104]⟩ : ByteArray), NeedD.name n] = false := by unfold twiceB; simp [Ne.symm hn]
  rw [this]
  have : List.all (α := needC.D) [n] needOkD = true := by rw [List.all_cons, h]; rfl
  rw [this]
  rfl
/-- Of a root that is ok, with room. -/
theorem freshN_in {ps : List packC.D} {n : needC.D} (h : rootOk_0 ⟨ps⟩ = true) (hl : ps.length < 5) (hd : ∀ q ∈ ps, drawn (PackD.name q)) (hok : pkOk (freshN n) = true) :
    rootInC ⟨ps⟩ (freshN n) = if hasNeed (withP (freshN n) ps) n then 0 else 4 := by
  have hc := ok_0.1 h
  obtain ⟨f1, f2, -, f4, m, U, u⟩ := (code_iff ps).1 hc
  have hn : PackD.name (freshN n) ∉ namesP ps := fun e => by
    obtain ⟨q, hq, e2⟩ := name_mem.1 e
    have := hd q hq
    rw [e2, freshN_name] at this
    exact fresh_drawn this
  rw [(rin_code h).1]
  refine (in_of hok hn).trans ?_
  have g1 : ∀ x ∈ withP (freshN n) ps, pkOk x = true := fun x hx => by
    rcases (with_mem _ _ _).1 hx with rfl | hx
    · exact hok
    · exact f1 x hx
  have gf : formB (withP (freshN n) ps) = true := (form_iff _).2 ⟨g1, with_asc f2 hn⟩
  have gl : (withP (freshN n) ps).length ≤ 5 := by rw [with_len]; exact hl
  have gn : needsB (withP (freshN n) ps) = hasNeed (withP (freshN n) ps) n := by
    cases hh : hasNeed (withP (freshN n) ps) n with
    | false =>
      cases hb : needsB (withP (freshN n) ps) with
      | false => rfl
      | true =>
        unfold needsB at hb
        rw [List.all_eq_true] at hb
        have := hb (freshN n) ((with_mem _ _ _).2 (.inl rfl))
        rw [List.all_eq_true] at this
        have := this n (by show n ∈ [n]; exact List.mem_singleton.2 rfl)
        rw [hh] at this
        cases this
    | true =>
      unfold needsB at f4 ⊢
      rw [List.all_eq_true] at f4 ⊢
      intro x hx
      rw [List.all_eq_true]
      intro y hy
      rcases (with_mem _ _ _).1 hx with rfl | hx
      · have : y = n := List.mem_singleton.1 (show y ∈ [n] from hy)
        rw [this]; exact hh
      · have := f4 x hx
        rw [List.all_eq_true] at this
        have := this y hy
        unfold hasNeed at this ⊢
        rw [List.any_eq_true] at this ⊢
        obtain ⟨q, hq, h2⟩ := this
        exact ⟨q, (with_mem _ _ _).2 (.inr hq), h2⟩
  have gu : Fits U [] (withP (freshN n) ps) := ⟨u.1, u.2.1, fun x hx => (by cases hx), fun q hq x hx => by
    rcases (with_mem _ _ _).1 hq with rfl | hq
    · cases hx
    · exact u.2.2.2 q hq x hx⟩
  have gm : Mates (withP (freshN n) ps) := by
    rw [mates_perm (with_perm (freshN n) ps)]
    unfold Mates
    rw [List.pairwise_cons, freshN_tree]
    exact ⟨fun q _ x _ e he => (by cases he), m⟩
  cases hh : hasNeed (withP (freshN n) ps) n with
  | false => exact code_needs gf gl (gn.trans hh)
  | true => exact code_fine gf gl (gn.trans hh) ((joinS_iff g1).2 ⟨gm, U, gu⟩)
theorem pk_parts {p : packC.D} (h : pkOk p = true) : packB (PackD.name p).data.toList = true ∧ versOk (PackD.version p).data.toList = true := by
  unfold pkOk at h
  simp only [Bool.and_eq_true] at h
  exact ⟨h.1.1.1, h.1.1.2⟩
def asksP (p : packC.D) (k : Int) : needC.D := (⟨PackD.name p, k, PackD.version p⟩ : NeedD)
def needNo : needC.D := (⟨⟨#[110, 111, 98, 111, 100, 121, 115]⟩, 0, ⟨#[]⟩⟩ : NeedD)
theorem no_drawn : ¬ drawn ⟨#[110, 111, 98, 111, 100, 121, 115]⟩ := by unfold drawn; decide
theorem ne_fresh {x : ByteArray} (h : drawn x) : x ≠ ⟨#[102, 114, 101, 115, 104]⟩ := fun e => fresh_drawn (e ▸ h)
/-- Nobody has it. -/
theorem needs_no {ps : List packC.D} (h : rootOk_0 ⟨ps⟩ = true) (hl : ps.length < 5) (hd : ∀ q ∈ ps, drawn (PackD.name q)) : rootInC ⟨ps⟩ (freshN needNo) = 4 := by
  have hok : pkOk (freshN needNo) = true := freshN_ok (by decide) (by show (⟨#[110, 111, 98, 111, 100, 121, 115]⟩ : ByteArray) ≠ ⟨#[102, 114, 101, 115, 104]⟩; decide)
  rw [freshN_in h hl hd hok, has_none (ps := withP (freshN needNo) ps) (n := needNo) ?_]
  · rfl
  · intro e
    rcases name_with.1 e with e | e
    · exact absurd e (by show ¬ (⟨#[110, 111, 98, 111, 100, 121, 115]⟩ : ByteArray) = ⟨#[102, 114, 101, 115, 104]⟩; decide)
    · obtain ⟨q, hq, e2⟩ := name_mem.1 e
      have := hd q hq
      rw [e2] at this
      exact no_drawn this
theorem asksP_ok {p : packC.D} {k : Int} (h : pkOk p = true) (hk : k = 1 ∨ k = 3) (hd : drawn (PackD.name p)) : pkOk (freshN (asksP p k)) = true := by
  obtain ⟨h1, h2⟩ := pk_parts h
  refine freshN_ok ?_ (ne_fresh hd)
  unfold needOkD needB
  show (packB (PackD.name p).data.toList && askB k (PackD.version p).data.toList) = true
  rw [h1]
  rcases hk with rfl | rfl
  · rw [askB_1, h2]; rfl
  · rw [askB_3, h2]; rfl
theorem ord_self (v : List UInt8) : ordI v v = 0 := by
  unfold ordI
  split
  · exact cmpL_self _
  · rfl
/-- It is there. -/
theorem needs_same {ps : List packC.D} {p : packC.D} (h : rootOk_0 ⟨ps⟩ = true) (hl : ps.length < 5) (hd : ∀ q ∈ ps, drawn (PackD.name q)) (hp : p ∈ ps) : rootInC ⟨ps⟩ (freshN (asksP p 1)) = 0 ∧ rootOutC ⟨rootInP ⟨ps⟩ (freshN (asksP p 1))⟩ (PackD.name p) = 4 := by
  obtain ⟨f1, f2, -⟩ := (code_iff ps).1 (ok_0.1 h)
  have hok := asksP_ok (f1 p hp) (.inl rfl : (1 : Int) = 1 ∨ (1 : Int) = 3) (hd p hp)
  have h0 : rootInC ⟨ps⟩ (freshN (asksP p 1)) = 0 := by
    rw [freshN_in h hl hd hok]
    have : hasNeed (withP (freshN (asksP p 1)) ps) (asksP p 1) = true := by
      unfold hasNeed
      rw [List.any_eq_true]
      refine ⟨p, (with_mem _ _ _).2 (.inr hp), ?_⟩
      unfold fitOne
      show (decide (PackD.name p = PackD.name p) && kindB 1 (ordI (PackD.version p).data.toList (PackD.version p).data.toList)) = true
      rw [ord_self]; simp [kindB]
    rw [this]; rfl
  obtain ⟨-, -, n1, n2, n3⟩ := put_facts h0
  refine ⟨h0, ?_⟩
  rw [n2, (rout_code n3).1]
  have hm : hasBN (PackD.name p) (withP (freshN (asksP p 1)) ps) = true := (hasB_iffN _ _).2 (name_with.2 (.inr (name_mem.2 ⟨p, hp, rfl⟩)))
  unfold outCode
  show (if hasBN (PackD.name p) (withP (freshN (asksP p 1)) ps) = true then rootCode (withoutP (PackD.name p) (withP (freshN (asksP p 1)) ps)) else 3) = 4
  rw [if_pos hm]
  obtain ⟨g1, g2, g3, -⟩ := (code_iff _).1 (ok_0.1 n3)
  refine code_needs ((form_iff _).2 ⟨fun x hx => g1 x ((without_mem _ _ _).1 hx).1, without_asc g2⟩) (Nat.le_trans (List.length_filter_le _ _) g3) ?_
  cases hb : needsB (withoutP (PackD.name p) (withP (freshN (asksP p 1)) ps)) with
  | false => rfl
  | true =>
    unfold needsB at hb
    rw [List.all_eq_true] at hb
    have := hb (freshN (asksP p 1)) ((without_mem _ _ _).2 ⟨(with_mem _ _ _).2 (.inl rfl), fun e => ne_fresh (hd p hp) e.symm⟩)
    rw [List.all_eq_true] at this
    have := this (asksP p 1) (List.mem_singleton.2 rfl)
    rw [has_none (n := asksP p 1) (show PackD.name p ∉ _ from name_without)] at this
    cases this
/-- No less one is there. -/
theorem needs_less {ps : List packC.D} {p : packC.D} (h : rootOk_0 ⟨ps⟩ = true) (hl : ps.length < 5) (hd : ∀ q ∈ ps, drawn (PackD.name q)) (hp : p ∈ ps) : rootInC ⟨ps⟩ (freshN (asksP p 3)) = 4 := by
  obtain ⟨f1, f2, -⟩ := (code_iff ps).1 (ok_0.1 h)
  have hok := asksP_ok (f1 p hp) (.inr rfl : (3 : Int) = 1 ∨ (3 : Int) = 3) (hd p hp)
  rw [freshN_in h hl hd hok]
  have : hasNeed (withP (freshN (asksP p 3)) ps) (asksP p 3) = false := by
    unfold hasNeed
    rw [List.any_eq_false]
    intro q hq
    unfold fitOne
    show ¬ (decide (PackD.name q = PackD.name p) && kindB 3 (ordI (PackD.version q).data.toList (PackD.version p).data.toList)) = true
    rw [Bool.and_eq_true, decide_eq_true_eq]
    rintro ⟨e, h2⟩
    rcases (with_mem _ _ _).1 hq with rfl | hq
    · exact ne_fresh (hd p hp) e.symm
    · obtain ⟨i, hi⟩ := List.getElem?_of_mem hp
      obtain ⟨j, hj⟩ := List.getElem?_of_mem hq
      have hij := asc_inj ((ascP_iff _).1 f2) (namesP_get hj) (by rw [e]; exact namesP_get hi)
      subst hij
      rw [hi] at hj
      cases hj
      rw [ord_self] at h2
      exact absurd h2 (by decide)
  rw [this]; rfl
theorem rout_not {d : RootD} {q : ByteArray} (hk : rootOk_0 d = true) (h : rootOutC d q ≠ 0) : rootOutP d q = d.packs := by
  rw [(rout_code hk).1] at h
  rw [(rout_code hk).2]
  unfold outCode at h
  unfold outP tryP
  split
  case isFalse => rfl
  case isTrue h1 =>
    rw [if_pos h1] at h
    rw [if_neg h]
/-- All that the law asks of one pack. -/
theorem needs_law {ps X : List packC.D} {p : packC.D} (h : rootOk_0 ⟨ps⟩ = true) (hl : ps.length < 5) (hd : ∀ q ∈ ps, drawn (PackD.name q)) (hp : p ∈ ps) (hX : rootInP ⟨ps⟩ (freshN (asksP p 1)) = X) :
    rootInC ⟨ps⟩ (freshN (asksP p 1)) = 0 ∧ rootOutC ⟨X⟩ (PackD.name p) = 4 ∧ rootOutP ⟨X⟩ (PackD.name p) = X ∧ rootInC ⟨ps⟩ (freshN (asksP p 3)) = 4 ∧ rootInP ⟨ps⟩ (freshN (asksP p 3)) = ps := by
  obtain ⟨h0, h1⟩ := needs_same h hl hd hp
  have h2 := needs_less h hl hd hp
  obtain ⟨-, -, -, n2, n3⟩ := put_facts h0
  have e : X = withP (freshN (asksP p 1)) ps := hX.symm.trans n2
  rw [hX] at h1
  subst e
  exact ⟨h0, h1, rout_not n3 (by rw [h1]; decide), h2, rin_not h (by rw [h2]; decide)⟩
theorem freshN_small {n : needC.D} (h1 : (NeedD.name n).size ≤ 1048576) (h2 : (NeedD.version n).size ≤ 1048576) : smallP (freshN n) := ⟨by show 5 ≤ 1048576; omega, by show 1 ≤ 1048576; omega, ⟨by show 1 ≤ 1048576; omega, fun d hd => by cases List.mem_singleton.1 (show d ∈ [n] from hd); exact ⟨h1, h2⟩⟩, ⟨by show 0 ≤ 1048576; omega, fun e he => by cases he⟩⟩
end Go.Proofs.YtoljhgkgppjdcaaGreat

/- Roots that the laws read: packs that need one thing. -/
namespace Go.Proofs.YtoljhgkgppjdcaaGreat
open Go.RowKit Go.Shelf

theorem freshN_at {W : World} {g : Nat} {n : needC.D} {ty : Nat} {cur : Nat × Nat} (hx : W.heap[g]? = some (.cells #[.string (NeedD.name n), .int .i64 (NeedD.kind n), .string (NeedD.version n)] ty cur)) :
    packC.at_ W [.string ⟨#[102, 114, 101, 115, 104]⟩, .string ⟨#[49]⟩, .slice (some ⟨g, 0, none⟩) 1 1, .slice none 0 0] (freshN n) := by
  have hn : rowAt needC W (.slice (some ⟨g, 0, none⟩) 1 1) [n] := by
    refine ⟨some ⟨g, 0, none⟩, 1, rfl, (fun h => nomatch h), Nat.le_refl _, .inr ⟨g, 0, rfl, (Array.getElem?_eq_some_iff.1 hx).1, fun i d hd => ?_⟩⟩
    match i with
    | 0 =>
      cases hd
      refine ⟨[.string (NeedD.name n), .int .i64 (NeedD.kind n), .string (NeedD.version n)], ⟨[_], _, rfl, rfl, ⟨[_], _, rfl, rfl, rfl⟩⟩, fun j c hj => ?_⟩
      show W.cell? ⟨g, 0 + 0 * 3 + j, none⟩ = some c
      rw [Nat.zero_mul, Nat.zero_add]
      match j with
      | 0 => cases hj; exact cell_arrS hx 0 _ rfl
      | 1 => cases hj; exact cell_arrS hx 1 _ rfl
      | 2 => cases hj; exact cell_arrS hx 2 _ rfl
      | j + 3 => cases hj
    | i + 1 => cases hd
  exact ⟨[_], _, rfl, rfl, ⟨[_], _, rfl, rfl, ⟨[_], _, rfl, ⟨_, rfl, hn⟩, ⟨_, rfl, ⟨none, 0, rfl, fun _ => rfl, Nat.le_refl _, .inl rfl⟩⟩⟩⟩⟩
theorem freshN_pr {W : World} {g : Nat} {n : needC.D} {ty : Nat} {cur : Nat × Nat} (hx : W.heap[g]? = some (.cells #[.string (NeedD.name n), .int .i64 (NeedD.kind n), .string (NeedD.version n)] ty cur)) (h1 : (NeedD.name n).size ≤ 1048576) (h2 : (NeedD.version n).size ≤ 1048576) :
    PR W [.string ⟨#[102, 114, 101, 115, 104]⟩, .string ⟨#[49]⟩, .slice (some ⟨g, 0, none⟩) 1 1, .slice none 0 0] (freshN n) := ⟨freshN_at hx, freshN_small h1 h2⟩
theorem outOut_k {W : World} {a : Option Addr} {c : Nat} {ps X : List packC.D} {q : ByteArray} {k : Int} (h : RR W a c ps) (e : rootOutP ⟨ps⟩ q = X) (ek : rootOutC ⟨ps⟩ q = k) (hs : smallPs X) (hf : X.length ≤ 100) : Calls Tryz.prog 25 #[.agg #[.slice a ps.length c], .string q] W (TurnedK X k W) :=
  (implRootOut_any ⟨ps⟩ a c q W h.small h.row).mono (fun _ _ ⟨r, L, h1, hN, hL, hb⟩ => by
    rw [e] at hL
    obtain ⟨a', c', rfl, -⟩ := rr_of hN hL hs hf
    refine ⟨a', c', by rw [h1, ek], fun w'' hw => ?_, hb⟩
    obtain ⟨a2, c2, e2, hr⟩ := rr_of (hN.frame (fun j hj => hw j (hN.base j hj).1 (hN.base j hj).2)) hL hs hf
    cases e2
    exact hr)
end Go.Proofs.YtoljhgkgppjdcaaGreat
