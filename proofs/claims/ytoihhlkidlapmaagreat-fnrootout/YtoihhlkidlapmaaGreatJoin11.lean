/- Texts of this proof, one behind the other; each says at its head what it shows. -/
import Derived.Test.YtoihhlkidlapmaaGreatJoin10
import Derived.Test.YtoihhlkidlapmaaGreatJoin9
import Derived.Test.YtoihhlkidlapmaaGreatJoin3
import Derived.Test.YtoihhlkidlapmaaGreatJoin6
import Derived.Test.YtoihhlkidlapmaaGreatJoin8
import Derived.Test.YtoihhlkidlapmaaGreatJoin1
import Derived.Test.YtoihhlkidlapmaaGreatJoin2
import Derived.Test.YtoihhlkidlapmaaGreatJoin5
namespace Go.Proofs.YtoihhlkidlapmaaGreat
open Go.RowKit Go.Shelf
def withP (p : packC.D) (ps : List packC.D) : List packC.D := ps.take (placeP (namesP ps) (PackD.name p)) ++ p :: ps.drop (placeP (namesP ps) (PackD.name p))
theorem op_none {K : CK} {t e : Nat} (hET : ET K t e) {ops : Array Oper} {o : Oper} {a : Act} (w : World) {Q : Exit → Act → World → Prop} {K' : Act → World → Prop} (d : Nat) (s x : Operand) (ho : o.op = .call { callee := .builtin .append, args := #[s, x], argTypes := #[t, t] }) (hw : Region.wanted o (yielded ops a.tmps) = true) (hd : o.dst = some d)
    (N : Nat) (v : Value) (L : List (It K)) (h : NRow K e w N v L) (hs : a.eval s = v) (hx : a.eval x = .slice none 0 0) (hk : K' (a.put (some d) v) w) : if Region.wanted o (yielded ops a.tmps) = true then Oper.wp Tryz.prog o a w K' Q else K' (a.put o.dst undef) w := by
  rw [if_pos hw]
  obtain ⟨i, z, bytes, ht, hi, _⟩ := hET.ex
  have hr := run_append_owned_none (P := Tryz.prog) w N t o.type e i K.n ht hi v L.length (itCells L) h.row
  unfold Oper.wp execOp
  simp only [ho, resolve, invoke, builtin, Sem.run_bind, Sem.run_pure, Result.andThen_ok, List.map_toArray, List.map_cons, List.map_nil, hs, hx, hr]
  show K' (a.put o.dst v) w
  rw [hd]
  exact hk
theorem items_mid {K : CK} {W : World} {N B k : Nat} {L : List (It K)} {cs : List Value} {d : K.D} {F : List Nat} (h : Items K W N L) (hB : ∀ x ∈ itF L, x < B) (hown : K.own W cs d F) (hF : ∀ x ∈ F, B ≤ x) (hNB : N ≤ B) : Items K W N (L.take k ++ [((cs, d, F) : It K)] ++ L.drop k) := by
  have e : L.take k ++ L.drop k = L := List.take_append_drop k L
  have e2 : itF (L.take k) ++ itF (L.drop k) = itF L := by rw [← itF_app, e]
  have hn := h.nodup
  rw [← e2] at hn hB
  obtain ⟨n1, n2, n3⟩ := List.nodup_append.1 hn
  have hsing : itF [((cs, d, F) : It K)] = F := by simp [itF]
  refine ⟨fun t ht => ?_, ?_, fun x hx => ?_⟩
  · simp only [List.mem_append, List.mem_singleton] at ht
    rcases ht with (ht | rfl) | ht
    · exact h.each t (List.mem_of_mem_take ht)
    · exact hown
    · exact h.each t (List.mem_of_mem_drop ht)
  · rw [itF_app, itF_app, hsing]
    refine List.nodup_append.2 ⟨List.nodup_append.2 ⟨n1, K.nodup hown, fun x hx y hy e => ?_⟩, n2, fun x hx y hy e => ?_⟩
    · subst e
      have h1 := hB x (List.mem_append.2 (.inl hx))
      have h2 := hF x hy
      omega
    · subst e
      rcases List.mem_append.1 hx with hx | hx
      · exact n3 x hx x hy rfl
      · have h1 := hB x (List.mem_append.2 (.inr hy))
        have h2 := hF x hx
        omega
  · rw [itF_app, itF_app, hsing] at hx
    rcases List.mem_append.1 hx with hx | hx
    · rcases List.mem_append.1 hx with hx | hx
      · exact h.base x (by rw [← e2]; exact List.mem_append.2 (.inl hx))
      · have := hF x hx; omega
    · exact h.base x (by rw [← e2]; exact List.mem_append.2 (.inr hx))
theorem lt_ltS (x y : ByteArray) : Op.bytesLess x.toList y.toList = ltS x y := by rfl
set_option linter.unusedSimpArgs false in
set_option maxRecDepth 100000 in
set_option maxHeartbeats 4000000 in
theorem l9With_any (L : List (It packC)) (v : Value) (p : packC.D) (cs : List Value) (w : World) (N : Nat) (hN : N ≤ w.heap.size) (hs : L.length ≤ 1048576) (hps : smallP p) (h : NRow packC 34 w N v L) (hp : packC.at_ w cs p) :
    Calls Tryz.prog 159 #[v, .agg cs.toArray] w fun x w' => ∃ (u : Value) (L' : List (It packC)), x = .returned u ∧ NRow packC 34 w' N u L' ∧ itD L' = withP p (itD L) ∧ (∀ k, (u.ownBlock = some k ∨ k ∈ itF L') → k ∈ itF L ∨ w.heap.size < k) ∧ Below w.heap.size w w' := by
  obtain ⟨v2, v3, rfl, p2, p3⟩ := packC_at hp
  obtain ⟨na, nc, rfl, -⟩ := rowAt.slice p2
  obtain ⟨ta, tc, rfl, -⟩ := rowAt.slice p3
  obtain ⟨a, cap, rfl⟩ := nrow_slice h
  have H := hid h
  have HP := hid hp
  clear h hp p2 p3
  go_enter Tryz.func159, Tryz.ntmps159
  go_wp2_with fail
  have hbx := World.alloc_heap_new w (.cells #[.string (PackD.name p), .string (PackD.version p), .slice na (PackD.needs p).length nc, .slice ta (PackD.tree p).length tc] 34)
  have hb : Below w.heap.size w (w.alloc (.cells #[.string (PackD.name p), .string (PackD.version p), .slice na (PackD.needs p).length nc, .slice ta (PackD.tree p).length tc] 34)) := (Below.refl _ w).alloc (Nat.le_refl _) _
  have hlt : w.heap.size < (w.alloc (.cells #[.string (PackD.name p), .string (PackD.version p), .slice na (PackD.needs p).length nc, .slice ta (PackD.tree p).length tc] 34)).heap.size := by simp
  generalize w.alloc (.cells #[.string (PackD.name p), .string (PackD.version p), .slice na (PackD.needs p).length nc, .slice ta (PackD.tree p).length tc] 34) = W0 at hbx hb hlt ⊢
  have HX0 := hid (And.intro hbx (And.intro hb hlt))
  clear hbx hb hlt
  have hnl : (namesP (itD L)).length = L.length := by rw [namesP_len, itD_len]
  have HNL := hid hnl
  clear hnl
  go_loopw [5] (fun i wr => ∃ k : Nat, k ≤ L.length ∧ i = .int .i64 (k : Int) ∧ Hid (∀ j x, j < k → (namesP (itD L))[j]? = some x → ltS x (PackD.name p) = true) ∧ Hid (wr.heap[w.heap.size]? = some (.cells #[.string (PackD.name p), .string (PackD.version p), .slice na (PackD.needs p).length nc, .slice ta (PackD.tree p).length tc] 34 (0, 0)) ∧ Below w.heap.size w wr ∧ w.heap.size < wr.heap.size)) (fun i _ => L.length - (intOf i).toNat)
  case atStart => exact ⟨0, Nat.zero_le _, rfl, hid (fun j x hj => absurd hj (Nat.not_lt_zero _)), HX0⟩
  case round =>
    clear HX0
    obtain ⟨k, hk, rfl, HK, HX⟩ := hrel
    obtain ⟨b0, b1⟩ := cell_fz (unhid HX).1 0 _ rfl
    by_cases hlt : k < L.length
    · obtain ⟨t, ht⟩ : ∃ t, L[k]? = some t := ⟨L[k], List.getElem?_eq_getElem hlt⟩
      obtain ⟨g, cap', na', nc', ta', tc', hv, hgl, hcs, c0, c1, c2, c3⟩ := item_cells (unhid H) ht (unhid HX).2.1
      obtain ⟨rfl, rfl⟩ : a = some ⟨g, 0, none⟩ ∧ cap = cap' := by injection hv with e1 _ e2; exact ⟨e1, e2⟩
      obtain ⟨cs', d, F⟩ := t
      dsimp only at hcs c0 c1 c2 c3
      have hnm : (namesP (itD L))[k]? = some (PackD.name d) := namesP_get (by unfold itD; rw [List.getElem?_map, ht]; rfl)
      have HNM := hid hnm
      have hq := lt_ltS (PackD.name d) (PackD.name p)
      clear hv ht hcs hnm c1 c2 c3
      cases hl : ltS (PackD.name d) (PackD.name p) with
      | true =>
        rw [hl] at hq
        have HL := hid hl
        clear hl
        have gx : ∀ x : CW (fun w' => Below wr.heap.size wr w'), x.w.cell? ⟨w.heap.size, 0, none⟩ = some (.string (PackD.name p)) := fun x => (x.h.cell (p := ⟨w.heap.size, 0, none⟩) (unhid HX).2.2).trans b0
        have gc : ∀ x : CW (fun w' => Below wr.heap.size wr w'), x.w.cell? ⟨g, k * 4, none⟩ = some (.string (PackD.name d)) := fun x => (x.h.cell (p := ⟨g, k * 4, none⟩) (Nat.lt_trans hgl (unhid HX).2.2)).trans c0
        have gd : decide ((k : Int) < (L.length : Int)) = true := by simp; omega
        have hba : ∀ {q : Prop}, (CW (fun w' => Below wr.heap.size wr w') → q) ↔ q := CW.all (Below.refl _ wr)
        go_wp2_with fail
        refine held_begin (fun w' => Below wr.heap.size wr w') (by kernel_rfl) (drew_belowS _) ?_
        refine held_here [true, true, true, true, true, true, true, true, true, true, true, true, true, true] (by kernel_rfl) (by kernel_rfl) (fun _ _ _ _ _ h => h) (drew_belowS _) ?_
        dsimp only [pick]
        repeat (go_big_quiet_step (fail))
        refine wpQuiet_nil ?_
        refine held_done (by kernel_rfl) ?_
        clear hba gx gc gd hgl c0
        have hbd := drew_belowS (B := wr.heap.size) wr
        have HX2 := hid (show wr.drew.heap[w.heap.size]? = some (.cells #[.string (PackD.name p), .string (PackD.version p), .slice na (PackD.needs p).length nc, .slice ta (PackD.tree p).length tc] 34 (0, 0)) ∧ Below w.heap.size w wr.drew ∧ w.heap.size < wr.drew.heap.size from ⟨(unhid HX).1, (unhid HX).2.1.trans (hbd.mono (unhid HX).2.1.size), (unhid HX).2.2⟩)
        clear HX hbd b0 b1
        generalize wr.drew = wd at *
        go_wp2_with fail
        go_roundw
        case rel =>
          refine ⟨k + 1, by omega, by go_num, hid (fun j x hj hx => ?_), HX2⟩
          by_cases ej : j = k
          · subst ej
            rw [unhid HNM] at hx
            cases hx
            exact unhid HL
          · exact unhid HK j x (by omega) hx
        case measure => simp [intOf]; omega
      | false =>
        rw [hl] at hq
        have HL := hid hl
        clear hl
        have gx : ∀ x : CW (fun w' => Below wr.heap.size wr w'), x.w.cell? ⟨w.heap.size, 0, none⟩ = some (.string (PackD.name p)) := fun x => (x.h.cell (p := ⟨w.heap.size, 0, none⟩) (unhid HX).2.2).trans b0
        have gc : ∀ x : CW (fun w' => Below wr.heap.size wr w'), x.w.cell? ⟨g, k * 4, none⟩ = some (.string (PackD.name d)) := fun x => (x.h.cell (p := ⟨g, k * 4, none⟩) (Nat.lt_trans hgl (unhid HX).2.2)).trans c0
        have gd : decide ((k : Int) < (L.length : Int)) = true := by simp; omega
        have hba : ∀ {q : Prop}, (CW (fun w' => Below wr.heap.size wr w') → q) ↔ q := CW.all (Below.refl _ wr)
        go_wp2_with fail
        refine held_begin (fun w' => Below wr.heap.size wr w') (by kernel_rfl) (drew_belowS _) ?_
        refine held_here [true, true, true, true, true, true, true, true, true, true, true, true, true, true] (by kernel_rfl) (by kernel_rfl) (fun _ _ _ _ _ h => h) (drew_belowS _) ?_
        dsimp only [pick]
        repeat (go_big_quiet_step (fail))
        refine wpQuiet_nil ?_
        refine held_done (by kernel_rfl) ?_
        clear hba gx gc gd hgl c0
        have hbd := drew_belowS (B := wr.heap.size) wr
        have HX2 := hid (show wr.drew.heap[w.heap.size]? = some (.cells #[.string (PackD.name p), .string (PackD.version p), .slice na (PackD.needs p).length nc, .slice ta (PackD.tree p).length tc] 34 (0, 0)) ∧ Below w.heap.size w wr.drew ∧ w.heap.size < wr.drew.heap.size from ⟨(unhid HX).1, (unhid HX).2.1.trans (hbd.mono (unhid HX).2.1.size), (unhid HX).2.2⟩)
        clear HX hbd b0 b1
        generalize wr.drew = wd at *
        go_wp2_with fail
        have hpl : placeP (namesP (itD L)) (PackD.name p) = k := placeP_of _ _ k (by have := unhid HNL; omega) (fun j x hj hx => unhid HK j x hj hx) (fun x hx => by rw [unhid HNM] at hx; cases hx; exact unhid HL)
        have HPL := hid hpl
        clear hpl
        obtain ⟨hbx, hbw, hlw⟩ := unhid HX2
        have hL := (unhid H).items
        have hLt := hL.lt
        have hcl : ∀ t u, (itCells L)[t]? = some u → w.cell? ⟨g, t, none⟩ = some u := fun t u ht => by
          have := (unhid H).row.cells (g := g) rfl t u ht
          rwa [add_plainR, Nat.zero_add] at this
        have hgw : g < w.heap.size := ((unhid H).base g (.inl rfl)).2
        have hcap : L.length ≤ cap ∧ cap ≤ 9223372036854775807 := by
          rcases (unhid H).row.2 with ⟨hv, _⟩ | ⟨_, _, _, hv, _, _, h1, h2, _⟩
          · cases hv
          · injection hv with _ _ e3
            subst e3
            simp only [maxLen] at h2
            exact ⟨h1, by omega⟩
        obtain ⟨sp1, sp2, sp3⟩ := itCells_split hL k hk
        obtain ⟨of, hA, hsrc⟩ : ∃ of : Nat, (if cap = k then some (⟨g, 0, none⟩ : Addr) else some ⟨g, k * 4, none⟩) = some ⟨g, of, none⟩ ∧ Hid (∀ t u, (itCells (L.drop k))[t]? = some u → w.cell? ⟨g, of + t, none⟩ = some u) := by
          by_cases h : cap = k
          · refine ⟨0, by simp [h], fun t u hu => ?_⟩
            have h0 : (itCells (L.drop k)).length = 0 := by rw [sp2]; omega
            rw [List.length_eq_zero_iff.1 h0] at hu
            simp at hu
          · refine ⟨k * 4, by simp [h], fun t u hu => hcl _ _ ?_⟩
            rw [sp3, List.getElem?_append_right (by omega), sp1, show k * 4 + t - k * 4 = t by omega]
            exact hu
        have hof : ¬ cap = k → k * 4 = of := fun h => by
          rw [if_neg h] at hA
          injection hA with e
          injection e
        have hsrc1 : Hid (∀ t u, (itCells (L.take k))[t]? = some u → w.cell? ⟨g, 0 + t, none⟩ = some u) := fun t u hu => by
          rw [Nat.zero_add]
          refine hcl _ _ ?_
          have : t < (itCells (L.take k)).length := (List.getElem?_eq_some_iff.1 hu).1
          rw [sp3, List.getElem?_append_left this]
          exact hu
        have hkc : k ≤ cap := by omega
        clear hcl sp1 sp2 sp3 HX2
        have gb0 : ∀ x : CW (fun w' => Below wd.heap.size wd w'), x.w.cell? ⟨w.heap.size, 0, none⟩ = some (.string (PackD.name p)) := fun x => cell_arrS ((x.h.block _ hlw).trans hbx) 0 _ rfl
        have gb1 : ∀ x : CW (fun w' => Below wd.heap.size wd w'), x.w.cell? ⟨w.heap.size, 1, none⟩ = some (.string (PackD.version p)) := fun x => cell_arrS ((x.h.block _ hlw).trans hbx) 1 _ rfl
        have gb2 : ∀ x : CW (fun w' => Below wd.heap.size wd w'), x.w.cell? ⟨w.heap.size, 2, none⟩ = some (.slice na (PackD.needs p).length nc) := fun x => cell_arrS ((x.h.block _ hlw).trans hbx) 2 _ rfl
        have gb3 : ∀ x : CW (fun w' => Below wd.heap.size wd w'), x.w.cell? ⟨w.heap.size, 3, none⟩ = some (.slice ta (PackD.tree p).length tc) := fun x => cell_arrS ((x.h.block _ hlw).trans hbx) 3 _ rfl
        have hba : ∀ {q : Prop}, (CW (fun w' => Below wd.heap.size wd w') → q) ↔ q := CW.all (Below.refl _ wd)
        have hsz : (PackD.needs p).length ≤ 4194304 ∧ (PackD.tree p).length ≤ 4194304 := ⟨by have := hps.needs.1; omega, by have := hps.tree.1; rw [entsD_len] at this; omega⟩
        refine held_begin (fun w' => Below wd.heap.size wd w') (by kernel_rfl) (drew_belowS _) ?_
        refine held_here [false, true, true, true, false, true, false, false, false, true, true, true] (by kernel_rfl) (by kernel_rfl) (fun _ _ _ _ _ h => h) (drew_belowS _) ?_
        dsimp only [pick]
        repeat (go_big_quiet_step (fail))
        refine wpQuiet_nil ?_
        clear hba gb0 gb1 gb2 gb3
        have hb0 := drew_belowS (B := wd.heap.size) wd
        have hNw : N ≤ wd.drew.heap.size := Nat.le_trans hN (hbw.trans (hb0.mono hbw.size)).size
        have hbw0 := hbw.trans (hb0.mono hbw.size)
        have hlw0 : w.heap.size < wd.drew.heap.size := hlw
        generalize wd.drew = w0 at *
        refine held_op 0 (by kernel_rfl) (by kernel_rfl) rfl (fun K hK => ?_)
        go_simp
        have hE := NRow.empty (K := packC) (e := 34) w0 N hNw
        have hb1 : Below w0.heap.size w0 (w0.alloc (.cells #[] 34)) := (Below.refl _ w0).alloc (Nat.le_refl _) _
        refine hK.out _ _ (hb0.trans (hb1.mono hb0.size)) ?_
        clear hK K
        have hc1 := hb0.trans (hb1.mono hb0.size)
        have hbw1 := hbw0.trans (hb1.mono hbw0.size)
        generalize w0.alloc (.cells #[] 34) = w1 at *
        generalize hgs : w0.heap.size = gs at *
        have hI1 : Items packC w1 N ([] ++ L.take k) := (hL.sub (List.take_sublist k L)).frame (fun x hx => hbw1.block x (hLt x ((itF_sub (List.take_sublist k L)).subset hx)))
        have htl : (L.take k).length = k := by rw [List.length_take]; omega
        have hs1 : gs ≤ w1.heap.size := by have := hb1.size; omega
        refine held_op 4 (by kernel_rfl) (by kernel_rfl) rfl (fun K hK => ?_)
        refine op_items etPack onePack w1 26 _ _ rfl rfl rfl N (.slice (some ⟨gs, 0, none⟩) 0 0) [] (L.take k) g 0 cap hE hI1 (fun g' hg' hm => by
          have h1 : gs = g' := by simpa [Value.ownBlock] using hg'
          have h2 := hLt g' ((itF_sub (List.take_sublist k L)).subset hm)
          omega) (fun j u hj => (hbw1.cell (p := ⟨g, 0 + j, none⟩) hgw).trans (hsrc1.out j u hj)) (by rw [htl]; simp only [List.length_nil]; omega) (by omega) rfl (by simp [Act.eval, htl]) ?_
        intro v4 w4 hg4
        rw [List.nil_append] at hg4
        have hwg : wd.heap.size ≤ gs := by have := hb0.size; omega
        have hc4 : Below wd.heap.size wd w4 := hc1.grown hg4.by_ hc1.size (fun k' hk' => by
          have : gs = k' := by simpa [Value.ownBlock] using hk'
          omega)
        have hbw4 : Below w.heap.size w w4 := hbw.trans (hc4.mono hbw.size)
        have hw4 : gs < w4.heap.size := by
          have h1 := hg4.by_.size
          have h2 : gs < w1.heap.size := by
            rcases hE.row.2 with ⟨hv, _⟩ | ⟨g', _, cu, hv, _, hh, _⟩
            · cases hv
            · have : gs = g' := by injection hv with e1; injection e1 with e1; injection e1
              subst this
              exact (Array.getElem?_eq_some_iff.1 hh).1
          omega
        have ho4 : ∀ g', v4.ownBlock = some g' → gs ≤ g' := fun g' hg' => by
          rcases hg4.block with e | e
          · rw [e] at hg'
            have : gs = g' := by simpa [Value.ownBlock] using hg'
            omega
          · rw [e] at hg'
            simp only [Option.some.injEq] at hg'
            omega
        refine hK.out _ _ hc4 ?_
        clear hK K
        simp only [Act.put, List.setIfInBounds_toArray, List.set_cons_zero, List.set_cons_succ]
        refine held_call 6 147 28 (enters_of Tryz.func147 (by kernel_rfl) rfl) #[.agg #[.string (PackD.name p), .string (PackD.version p), .slice na (PackD.needs p).length nc, .slice ta (PackD.tree p).length tc]] (by kernel_rfl) (by kernel_rfl) rfl rfl rfl rfl rfl ?_
        refine (l9Pack_any p _ w4 hsz (packC.below (unhid HP) hbw4)).mono ?_
        rintro x w5 ⟨csn, Fn, rfl, hown, hF, hb5⟩
        obtain ⟨v2, v3, F2, F3, rfl, -, -, -, -⟩ := packC_own hown
        have hc5 := hc4.trans (hb5.mono hc4.size)
        refine ⟨_, rfl, hc5, ?_⟩
        simp only [Act.put, List.setIfInBounds_toArray, List.set_cons_zero, List.set_cons_succ]
        refine held_op 7 (by kernel_rfl) (by kernel_rfl) rfl (fun K hK => ?_)
        go_simp
        have hnew := World.alloc_heap_new w5 (.cells #[.string (PackD.name p), .string (PackD.version p), v2, v3] 34)
        have hb6 := (Below.refl w5.heap.size w5).alloc (Nat.le_refl _) (.cells #[.string (PackD.name p), .string (PackD.version p), v2, v3] 34)
        obtain ⟨q1, q2, q3⟩ := items_new hg4.row (by omega) hb5 hown (fun k hk => (hF k hk).1) hb6
        have hc6 := hc5.trans (hb6.mono hc5.size)
        have hcl6 : ∀ j u, (itCells [(([.string (PackD.name p), .string (PackD.version p), v2, v3], p, Fn) : It packC)])[j]? = some u → (w5.alloc (.cells #[.string (PackD.name p), .string (PackD.version p), v2, v3] 34)).cell? ⟨w5.heap.size, 0 + j, none⟩ = some u := fun j u hj => by
          rw [Nat.zero_add]
          refine cell_arrS hnew j u ?_
          have hj' : [.string (PackD.name p), .string (PackD.version p), v2, v3][j]? = some u := by simpa [itCells] using hj
          simpa using hj'
        have hs56 : w4.heap.size ≤ (w5.alloc (.cells #[.string (PackD.name p), .string (PackD.version p), v2, v3] 34)).heap.size := Nat.le_trans hb5.size hb6.size
        refine hK.out _ _ hc6 ?_
        clear hK K hnew hb6
        generalize w5.alloc (.cells #[.string (PackD.name p), .string (PackD.version p), v2, v3] 34) = w6 at *
        generalize w5.heap.size = g5 at *
        refine held_op 8 (by kernel_rfl) (by kernel_rfl) rfl (fun K hK => ?_)
        refine op_items etPack onePack w6 30 _ _ rfl rfl rfl N v4 (L.take k) [(([.string (PackD.name p), .string (PackD.version p), v2, v3], p, Fn) : It packC)] g5 0 1 q1 q2 q3 hcl6 (by rw [htl]; simp only [List.length_singleton]; omega) (by omega) rfl rfl ?_
        intro v7 w7 hg7
        have hc7 : Below wd.heap.size wd w7 := hc6.grown hg7.by_ hc6.size (fun k' hk' => by have := ho4 k' hk'; omega)
        have hbw7 : Below w.heap.size w w7 := hbw.trans (hc7.mono hbw.size)
        have hw7 : w6.heap.size ≤ w7.heap.size := hg7.by_.size
        have ho7 : ∀ g', v7.ownBlock = some g' → gs ≤ g' := fun g' hg' => by
          rcases hg7.block with e | e
          · exact ho4 g' (by rw [← e]; exact hg')
          · rw [e] at hg'
            simp only [Option.some.injEq] at hg'
            omega
        refine hK.out _ _ hc7 ?_
        clear hK K
        simp only [Act.put, List.setIfInBounds_toArray, List.set_cons_zero, List.set_cons_succ]
        have hI7 : Items packC w7 N L := hL.frame (fun x hx => hbw7.block x (hLt x hx))
        have hown7 : packC.own w7 [.string (PackD.name p), .string (PackD.version p), v2, v3] p Fn := hg7.row.items.each _ (List.mem_append.2 (.inr (List.mem_singleton.2 rfl)))
        have hM7 := items_mid (k := k) hI7 hLt hown7 (fun x hx => by have := (hF x hx).1; omega) hN
        have hdl : (L.drop k).length = L.length - k := List.length_drop
        have hl7 : (L.take k ++ [(([.string (PackD.name p), .string (PackD.version p), v2, v3], p, Fn) : It packC)]).length = k + 1 := by rw [List.length_append, htl]; rfl
        refine held_op 12 (by kernel_rfl) (by kernel_rfl) rfl (fun K hK => ?_)
        refine op_items etPack onePack w7 34 _ _ rfl rfl rfl N v7 (L.take k ++ [(([.string (PackD.name p), .string (PackD.version p), v2, v3], p, Fn) : It packC)]) (L.drop k) g of (cap - k) hg7.row hM7 (fun g' hg' hm => by
          have h1 := ho7 g' hg'
          have h2 := hLt g' ((itF_sub (List.drop_sublist k L)).subset hm)
          omega) (fun j u hj => (hbw7.cell (p := ⟨g, of + j, none⟩) hgw).trans (hsrc.out j u hj)) (by rw [hl7, hdl]; omega) (by omega) rfl (by simp [Act.eval, hdl, hA]) ?_
        intro v8 w8 hg8
        have hc8 : Below wd.heap.size wd w8 := hc7.grown hg8.by_ hc7.size (fun k' hk' => by have := ho7 k' hk'; omega)
        have hbw8 : Below w.heap.size w w8 := hbw.trans (hc8.mono hbw.size)
        refine hK.out _ _ hc8 ?_
        clear hK K
        simp only [Act.put, List.setIfInBounds_toArray, List.set_cons_zero, List.set_cons_succ]
        have HFIN := hid (show NRow packC 34 w8 N v8 (L.take k ++ [(([.string (PackD.name p), .string (PackD.version p), v2, v3], p, Fn) : It packC)] ++ L.drop k) ∧ itD (L.take k ++ [(([.string (PackD.name p), .string (PackD.version p), v2, v3], p, Fn) : It packC)] ++ L.drop k) = withP p (itD L) ∧ (∀ x, (v8.ownBlock = some x ∨ x ∈ itF (L.take k ++ [(([.string (PackD.name p), .string (PackD.version p), v2, v3], p, Fn) : It packC)] ++ L.drop k)) → x ∈ itF L ∨ w.heap.size < x) ∧ Below w.heap.size w w8 from by
          refine ⟨hg8.row, ?_, fun x hx => ?_, hbw8⟩
          · rw [itD_app, itD_app, itD_take, itD_drop]
            unfold withP
            rw [unhid HPL]
            simp [itD]
          · rcases hx with hx | hx
            · right
              rcases hg8.block with e | e
              · have := ho7 x (by rw [← e]; exact hx)
                omega
              · rw [e] at hx
                simp only [Option.some.injEq] at hx
                omega
            · rw [itF_app, itF_app] at hx
              rcases List.mem_append.1 hx with hx | hx
              · rcases List.mem_append.1 hx with hx | hx
                · exact .inl ((itF_sub (List.take_sublist k L)).subset hx)
                · right
                  have := (hF x (by simpa [itF] using hx)).1
                  omega
              · exact .inl ((itF_sub (List.drop_sublist k L)).subset hx))
        generalize L.take k ++ [(([.string (PackD.name p), .string (PackD.version p), v2, v3], p, Fn) : It packC)] ++ L.drop k = L9 at *
        have hba : ∀ {q : Prop}, (CW (fun w' => Below wd.heap.size wd w') → q) ↔ q := CW.all hc8
        refine held_here [false, false, false, false, false, false, false, false, false, false, false, false, false, true] (by kernel_rfl) (by kernel_rfl) (fun _ _ _ _ _ h => h) hc8 ?_
        dsimp only [pick]
        repeat (go_big_quiet_step (fail))
        refine wpQuiet_nil ?_
        refine held_done (by kernel_rfl) ?_
        clear hba
        go_wp2_with fail
        go_ret
        obtain ⟨f1, f2, f3, f4⟩ := unhid HFIN
        exact ⟨_, L9, rfl, f1, f2, f3, f4⟩
    · have HEk := hid (show k = L.length by omega)
      have gd : decide ((k : Int) < (L.length : Int)) = false := by simp; omega
      have gx : ∀ x : CW (fun w' => Below wr.heap.size wr w'), x.w.cell? ⟨w.heap.size, 0, none⟩ = some (.string (PackD.name p)) := fun x => (x.h.cell (p := ⟨w.heap.size, 0, none⟩) (unhid HX).2.2).trans b0
      have hba : ∀ {q : Prop}, (CW (fun w' => Below wr.heap.size wr w') → q) ↔ q := CW.all (Below.refl _ wr)
      go_wp2_with fail
      refine held_begin (fun w' => Below wr.heap.size wr w') (by kernel_rfl) (drew_belowS _) ?_
      refine held_here [true, true, true, true, true, true, true, true, true, true, true, true, true, true] (by kernel_rfl) (by kernel_rfl) (fun _ _ _ _ _ h => h) (drew_belowS _) ?_
      dsimp only [pick]
      repeat (go_big_quiet_step (fail))
      refine wpQuiet_nil ?_
      refine held_done (by kernel_rfl) ?_
      clear hba gx gd
      have hbd := drew_belowS (B := wr.heap.size) wr
      have HX2 := hid (show wr.drew.heap[w.heap.size]? = some (.cells #[.string (PackD.name p), .string (PackD.version p), .slice na (PackD.needs p).length nc, .slice ta (PackD.tree p).length tc] 34 (0, 0)) ∧ Below w.heap.size w wr.drew ∧ w.heap.size < wr.drew.heap.size from ⟨(unhid HX).1, (unhid HX).2.1.trans (hbd.mono (unhid HX).2.1.size), (unhid HX).2.2⟩)
      clear HX hbd b0 b1
      generalize wr.drew = wd at *
      go_wp2_with fail
      rcases (unhid H).row.2 with ⟨hv0, hL0l⟩ | ⟨g, cap0, cur0, hv0, _⟩
      · injection hv0 with e1 _ e3
        subst e1
        subst e3
        have hL0 : L = [] := List.length_eq_zero_iff.1 hL0l
        subst hL0
        obtain rfl : k = 0 := unhid HEk
        obtain ⟨hbx, hbw, hlw⟩ := unhid HX2
        have gb0 : ∀ x : CW (fun w' => Below wd.heap.size wd w'), x.w.cell? ⟨w.heap.size, 0, none⟩ = some (.string (PackD.name p)) := fun x => cell_arrS ((x.h.block _ hlw).trans hbx) 0 _ rfl
        have gb1 : ∀ x : CW (fun w' => Below wd.heap.size wd w'), x.w.cell? ⟨w.heap.size, 1, none⟩ = some (.string (PackD.version p)) := fun x => cell_arrS ((x.h.block _ hlw).trans hbx) 1 _ rfl
        have gb2 : ∀ x : CW (fun w' => Below wd.heap.size wd w'), x.w.cell? ⟨w.heap.size, 2, none⟩ = some (.slice na (PackD.needs p).length nc) := fun x => cell_arrS ((x.h.block _ hlw).trans hbx) 2 _ rfl
        have gb3 : ∀ x : CW (fun w' => Below wd.heap.size wd w'), x.w.cell? ⟨w.heap.size, 3, none⟩ = some (.slice ta (PackD.tree p).length tc) := fun x => cell_arrS ((x.h.block _ hlw).trans hbx) 3 _ rfl
        have hba : ∀ {q : Prop}, (CW (fun w' => Below wd.heap.size wd w') → q) ↔ q := CW.all (Below.refl _ wd)
        clear HX2
        have hsz : (PackD.needs p).length ≤ 4194304 ∧ (PackD.tree p).length ≤ 4194304 := ⟨by have := hps.needs.1; omega, by have := hps.tree.1; rw [entsD_len] at this; omega⟩
        refine held_begin (fun w' => Below wd.heap.size wd w') (by kernel_rfl) (drew_belowS _) ?_
        refine held_here [false, true, true, true, false, true, false, false, false, true, true, true] (by kernel_rfl) (by kernel_rfl) (fun _ _ _ _ _ h => h) (drew_belowS _) ?_
        dsimp only [pick]
        repeat (go_big_quiet_step (fail))
        refine wpQuiet_nil ?_
        clear hba gb0 gb1 gb2 gb3
        have hb0 := drew_belowS (B := wd.heap.size) wd
        have hNw : N ≤ wd.drew.heap.size := Nat.le_trans hN (hbw.trans (hb0.mono hbw.size)).size
        have hbw0 := hbw.trans (hb0.mono hbw.size)
        have hlw0 : w.heap.size < wd.drew.heap.size := hlw
        generalize wd.drew = w0 at *
        refine held_op 0 (by kernel_rfl) (by kernel_rfl) rfl (fun K hK => ?_)
        go_simp
        have hE := NRow.empty (K := packC) (e := 34) w0 N hNw
        have hb1 : Below w0.heap.size w0 (w0.alloc (.cells #[] 34)) := (Below.refl _ w0).alloc (Nat.le_refl _) _
        refine hK.out _ _ (hb0.trans (hb1.mono hb0.size)) ?_
        clear hK K
        have hc1 := hb0.trans (hb1.mono hb0.size)
        have hbw1 := hbw0.trans (hb1.mono hbw0.size)
        generalize w0.alloc (.cells #[] 34) = w1 at *
        generalize hgs : w0.heap.size = gs at *
        have hs1 : gs ≤ w1.heap.size := by have := hb1.size; omega
        refine held_op 4 (by kernel_rfl) (by kernel_rfl) rfl (fun K hK => ?_)
        refine op_none etPack w1 26 _ _ rfl rfl rfl N (.slice (some ⟨gs, 0, none⟩) 0 0) [] hE rfl (by simp [Act.eval]) ?_
        have hwg : wd.heap.size ≤ gs := by have := hb0.size; omega
        have hw4 : gs < w1.heap.size := by
          rcases hE.row.2 with ⟨hv, _⟩ | ⟨g', _, cu, hv, _, hh, _⟩
          · cases hv
          · have : gs = g' := by injection hv with e1; injection e1 with e1; injection e1
            subst this
            exact (Array.getElem?_eq_some_iff.1 hh).1
        refine hK.out _ _ hc1 ?_
        clear hK K
        simp only [Act.put, List.setIfInBounds_toArray, List.set_cons_zero, List.set_cons_succ]
        refine held_call 6 147 28 (enters_of Tryz.func147 (by kernel_rfl) rfl) #[.agg #[.string (PackD.name p), .string (PackD.version p), .slice na (PackD.needs p).length nc, .slice ta (PackD.tree p).length tc]] (by kernel_rfl) (by kernel_rfl) rfl rfl rfl rfl rfl ?_
        refine (l9Pack_any p _ w1 hsz (packC.below (unhid HP) hbw1)).mono ?_
        rintro x w5 ⟨csn, Fn, rfl, hown, hF, hb5⟩
        obtain ⟨v2, v3, F2, F3, rfl, -, -, -, -⟩ := packC_own hown
        have hc5 := hc1.trans (hb5.mono hc1.size)
        refine ⟨_, rfl, hc5, ?_⟩
        simp only [Act.put, List.setIfInBounds_toArray, List.set_cons_zero, List.set_cons_succ]
        refine held_op 7 (by kernel_rfl) (by kernel_rfl) rfl (fun K hK => ?_)
        go_simp
        have hnew := World.alloc_heap_new w5 (.cells #[.string (PackD.name p), .string (PackD.version p), v2, v3] 34)
        have hb6 := (Below.refl w5.heap.size w5).alloc (Nat.le_refl _) (.cells #[.string (PackD.name p), .string (PackD.version p), v2, v3] 34)
        obtain ⟨q1, q2, q3⟩ := items_new hE (by omega) hb5 hown (fun k hk => (hF k hk).1) hb6
        have hc6 := hc5.trans (hb6.mono hc5.size)
        have hcl6 : ∀ j u, (itCells [(([.string (PackD.name p), .string (PackD.version p), v2, v3], p, Fn) : It packC)])[j]? = some u → (w5.alloc (.cells #[.string (PackD.name p), .string (PackD.version p), v2, v3] 34)).cell? ⟨w5.heap.size, 0 + j, none⟩ = some u := fun j u hj => by
          rw [Nat.zero_add]
          refine cell_arrS hnew j u ?_
          have hj' : [.string (PackD.name p), .string (PackD.version p), v2, v3][j]? = some u := by simpa [itCells] using hj
          simpa using hj'
        have hs56 : w1.heap.size ≤ (w5.alloc (.cells #[.string (PackD.name p), .string (PackD.version p), v2, v3] 34)).heap.size := Nat.le_trans hb5.size hb6.size
        refine hK.out _ _ hc6 ?_
        clear hK K hnew hb6
        generalize w5.alloc (.cells #[.string (PackD.name p), .string (PackD.version p), v2, v3] 34) = w6 at *
        generalize w5.heap.size = g5 at *
        refine held_op 8 (by kernel_rfl) (by kernel_rfl) rfl (fun K hK => ?_)
        refine op_items etPack onePack w6 30 _ _ rfl rfl rfl N (.slice (some ⟨gs, 0, none⟩) 0 0) [] [(([.string (PackD.name p), .string (PackD.version p), v2, v3], p, Fn) : It packC)] g5 0 1 q1 q2 q3 hcl6 (by simp) (by omega) rfl rfl ?_
        intro v7 w7 hg7
        rw [List.nil_append] at hg7
        have ho4 : ∀ g', (Value.slice (some ⟨gs, 0, none⟩) 0 0).ownBlock = some g' → gs ≤ g' := fun g' hg' => by
          have : gs = g' := by simpa [Value.ownBlock] using hg'
          omega
        have hc7 : Below wd.heap.size wd w7 := hc6.grown hg7.by_ hc6.size (fun k' hk' => by have := ho4 k' hk'; omega)
        have hbw7 : Below w.heap.size w w7 := hbw.trans (hc7.mono hbw.size)
        have hw7 : w6.heap.size ≤ w7.heap.size := hg7.by_.size
        have ho7 : ∀ g', v7.ownBlock = some g' → gs ≤ g' := fun g' hg' => by
          rcases hg7.block with e | e
          · exact ho4 g' (by rw [← e]; exact hg')
          · rw [e] at hg'
            simp only [Option.some.injEq] at hg'
            omega
        refine hK.out _ _ hc7 ?_
        clear hK K
        simp only [Act.put, List.setIfInBounds_toArray, List.set_cons_zero, List.set_cons_succ]
        refine held_op 12 (by kernel_rfl) (by kernel_rfl) rfl (fun K hK => ?_)
        refine op_none etPack w7 34 _ _ rfl rfl rfl N v7 [(([.string (PackD.name p), .string (PackD.version p), v2, v3], p, Fn) : It packC)] hg7.row rfl (by simp [Act.eval]) ?_
        refine hK.out _ _ hc7 ?_
        clear hK K
        simp only [Act.put, List.setIfInBounds_toArray, List.set_cons_zero, List.set_cons_succ]
        have HFIN := hid (show NRow packC 34 w7 N v7 [(([.string (PackD.name p), .string (PackD.version p), v2, v3], p, Fn) : It packC)] ∧ itD [(([.string (PackD.name p), .string (PackD.version p), v2, v3], p, Fn) : It packC)] = withP p (itD ([] : List (It packC))) ∧ (∀ x, (v7.ownBlock = some x ∨ x ∈ itF [(([.string (PackD.name p), .string (PackD.version p), v2, v3], p, Fn) : It packC)]) → x ∈ itF ([] : List (It packC)) ∨ w.heap.size < x) ∧ Below w.heap.size w w7 from by
          refine ⟨hg7.row, ?_, fun x hx => ?_, hbw7⟩
          · simp [itD, withP, namesP, placeP]
          · rcases hx with hx | hx
            · right
              have := ho7 x hx
              omega
            · right
              have := (hF x (by simpa [itF] using hx)).1
              omega)
        generalize [(([.string (PackD.name p), .string (PackD.version p), v2, v3], p, Fn) : It packC)] = L9 at *
        have hba : ∀ {q : Prop}, (CW (fun w' => Below wd.heap.size wd w') → q) ↔ q := CW.all hc7
        refine held_here [false, false, false, false, false, false, false, false, false, false, false, false, false, true] (by kernel_rfl) (by kernel_rfl) (fun _ _ _ _ _ h => h) hc7 ?_
        dsimp only [pick]
        repeat (go_big_quiet_step (fail))
        refine wpQuiet_nil ?_
        refine held_done (by kernel_rfl) ?_
        clear hba
        go_wp2_with fail
        go_ret
        obtain ⟨f1, f2, f3, f4⟩ := unhid HFIN
        exact ⟨_, L9, rfl, f1, f2, f3, f4⟩
      · obtain rfl : a = some ⟨g, 0, none⟩ := by injection hv0
        clear hv0
        have hpl : placeP (namesP (itD L)) (PackD.name p) = k := placeP_of _ _ k (by have := unhid HNL; omega) (fun j x hj hx => unhid HK j x hj hx) (fun x hx => by rw [List.getElem?_eq_none (by have := unhid HNL; have := unhid HEk; omega)] at hx; cases hx)
        have HPL := hid hpl
        clear hpl
        obtain ⟨hbx, hbw, hlw⟩ := unhid HX2
        have hL := (unhid H).items
        have hLt := hL.lt
        have hcl : ∀ t u, (itCells L)[t]? = some u → w.cell? ⟨g, t, none⟩ = some u := fun t u ht => by
          have := (unhid H).row.cells (g := g) rfl t u ht
          rwa [add_plainR, Nat.zero_add] at this
        have hgw : g < w.heap.size := ((unhid H).base g (.inl rfl)).2
        have hcap : L.length ≤ cap ∧ cap ≤ 9223372036854775807 := by
          rcases (unhid H).row.2 with ⟨hv, _⟩ | ⟨_, _, _, hv, _, _, h1, h2, _⟩
          · cases hv
          · injection hv with _ _ e3
            subst e3
            simp only [maxLen] at h2
            exact ⟨h1, by omega⟩
        obtain ⟨sp1, sp2, sp3⟩ := itCells_split hL k hk
        obtain ⟨of, hA, hsrc⟩ : ∃ of : Nat, (if cap = k then some (⟨g, 0, none⟩ : Addr) else some ⟨g, k * 4, none⟩) = some ⟨g, of, none⟩ ∧ Hid (∀ t u, (itCells (L.drop k))[t]? = some u → w.cell? ⟨g, of + t, none⟩ = some u) := by
          by_cases h : cap = k
          · refine ⟨0, by simp [h], fun t u hu => ?_⟩
            have h0 : (itCells (L.drop k)).length = 0 := by rw [sp2]; omega
            rw [List.length_eq_zero_iff.1 h0] at hu
            simp at hu
          · refine ⟨k * 4, by simp [h], fun t u hu => hcl _ _ ?_⟩
            rw [sp3, List.getElem?_append_right (by omega), sp1, show k * 4 + t - k * 4 = t by omega]
            exact hu
        have hof : ¬ cap = k → k * 4 = of := fun h => by
          rw [if_neg h] at hA
          injection hA with e
          injection e
        have hsrc1 : Hid (∀ t u, (itCells (L.take k))[t]? = some u → w.cell? ⟨g, 0 + t, none⟩ = some u) := fun t u hu => by
          rw [Nat.zero_add]
          refine hcl _ _ ?_
          have : t < (itCells (L.take k)).length := (List.getElem?_eq_some_iff.1 hu).1
          rw [sp3, List.getElem?_append_left this]
          exact hu
        have hkc : k ≤ cap := by omega
        clear hcl sp1 sp2 sp3 HX2
        have gb0 : ∀ x : CW (fun w' => Below wd.heap.size wd w'), x.w.cell? ⟨w.heap.size, 0, none⟩ = some (.string (PackD.name p)) := fun x => cell_arrS ((x.h.block _ hlw).trans hbx) 0 _ rfl
        have gb1 : ∀ x : CW (fun w' => Below wd.heap.size wd w'), x.w.cell? ⟨w.heap.size, 1, none⟩ = some (.string (PackD.version p)) := fun x => cell_arrS ((x.h.block _ hlw).trans hbx) 1 _ rfl
        have gb2 : ∀ x : CW (fun w' => Below wd.heap.size wd w'), x.w.cell? ⟨w.heap.size, 2, none⟩ = some (.slice na (PackD.needs p).length nc) := fun x => cell_arrS ((x.h.block _ hlw).trans hbx) 2 _ rfl
        have gb3 : ∀ x : CW (fun w' => Below wd.heap.size wd w'), x.w.cell? ⟨w.heap.size, 3, none⟩ = some (.slice ta (PackD.tree p).length tc) := fun x => cell_arrS ((x.h.block _ hlw).trans hbx) 3 _ rfl
        have hba : ∀ {q : Prop}, (CW (fun w' => Below wd.heap.size wd w') → q) ↔ q := CW.all (Below.refl _ wd)
        have hsz : (PackD.needs p).length ≤ 4194304 ∧ (PackD.tree p).length ≤ 4194304 := ⟨by have := hps.needs.1; omega, by have := hps.tree.1; rw [entsD_len] at this; omega⟩
        refine held_begin (fun w' => Below wd.heap.size wd w') (by kernel_rfl) (drew_belowS _) ?_
        refine held_here [false, true, true, true, false, true, false, false, false, true, true, true] (by kernel_rfl) (by kernel_rfl) (fun _ _ _ _ _ h => h) (drew_belowS _) ?_
        dsimp only [pick]
        repeat (go_big_quiet_step (fail))
        refine wpQuiet_nil ?_
        clear hba gb0 gb1 gb2 gb3
        have hb0 := drew_belowS (B := wd.heap.size) wd
        have hNw : N ≤ wd.drew.heap.size := Nat.le_trans hN (hbw.trans (hb0.mono hbw.size)).size
        have hbw0 := hbw.trans (hb0.mono hbw.size)
        have hlw0 : w.heap.size < wd.drew.heap.size := hlw
        generalize wd.drew = w0 at *
        refine held_op 0 (by kernel_rfl) (by kernel_rfl) rfl (fun K hK => ?_)
        go_simp
        have hE := NRow.empty (K := packC) (e := 34) w0 N hNw
        have hb1 : Below w0.heap.size w0 (w0.alloc (.cells #[] 34)) := (Below.refl _ w0).alloc (Nat.le_refl _) _
        refine hK.out _ _ (hb0.trans (hb1.mono hb0.size)) ?_
        clear hK K
        have hc1 := hb0.trans (hb1.mono hb0.size)
        have hbw1 := hbw0.trans (hb1.mono hbw0.size)
        generalize w0.alloc (.cells #[] 34) = w1 at *
        generalize hgs : w0.heap.size = gs at *
        have hI1 : Items packC w1 N ([] ++ L.take k) := (hL.sub (List.take_sublist k L)).frame (fun x hx => hbw1.block x (hLt x ((itF_sub (List.take_sublist k L)).subset hx)))
        have htl : (L.take k).length = k := by rw [List.length_take]; omega
        have hs1 : gs ≤ w1.heap.size := by have := hb1.size; omega
        refine held_op 4 (by kernel_rfl) (by kernel_rfl) rfl (fun K hK => ?_)
        refine op_items etPack onePack w1 26 _ _ rfl rfl rfl N (.slice (some ⟨gs, 0, none⟩) 0 0) [] (L.take k) g 0 cap hE hI1 (fun g' hg' hm => by
          have h1 : gs = g' := by simpa [Value.ownBlock] using hg'
          have h2 := hLt g' ((itF_sub (List.take_sublist k L)).subset hm)
          omega) (fun j u hj => (hbw1.cell (p := ⟨g, 0 + j, none⟩) hgw).trans (hsrc1.out j u hj)) (by rw [htl]; simp only [List.length_nil]; omega) (by omega) rfl (by simp [Act.eval, htl]) ?_
        intro v4 w4 hg4
        rw [List.nil_append] at hg4
        have hwg : wd.heap.size ≤ gs := by have := hb0.size; omega
        have hc4 : Below wd.heap.size wd w4 := hc1.grown hg4.by_ hc1.size (fun k' hk' => by
          have : gs = k' := by simpa [Value.ownBlock] using hk'
          omega)
        have hbw4 : Below w.heap.size w w4 := hbw.trans (hc4.mono hbw.size)
        have hw4 : gs < w4.heap.size := by
          have h1 := hg4.by_.size
          have h2 : gs < w1.heap.size := by
            rcases hE.row.2 with ⟨hv, _⟩ | ⟨g', _, cu, hv, _, hh, _⟩
            · cases hv
            · have : gs = g' := by injection hv with e1; injection e1 with e1; injection e1
              subst this
              exact (Array.getElem?_eq_some_iff.1 hh).1
          omega
        have ho4 : ∀ g', v4.ownBlock = some g' → gs ≤ g' := fun g' hg' => by
          rcases hg4.block with e | e
          · rw [e] at hg'
            have : gs = g' := by simpa [Value.ownBlock] using hg'
            omega
          · rw [e] at hg'
            simp only [Option.some.injEq] at hg'
            omega
        refine hK.out _ _ hc4 ?_
        clear hK K
        simp only [Act.put, List.setIfInBounds_toArray, List.set_cons_zero, List.set_cons_succ]
        refine held_call 6 147 28 (enters_of Tryz.func147 (by kernel_rfl) rfl) #[.agg #[.string (PackD.name p), .string (PackD.version p), .slice na (PackD.needs p).length nc, .slice ta (PackD.tree p).length tc]] (by kernel_rfl) (by kernel_rfl) rfl rfl rfl rfl rfl ?_
        refine (l9Pack_any p _ w4 hsz (packC.below (unhid HP) hbw4)).mono ?_
        rintro x w5 ⟨csn, Fn, rfl, hown, hF, hb5⟩
        obtain ⟨v2, v3, F2, F3, rfl, -, -, -, -⟩ := packC_own hown
        have hc5 := hc4.trans (hb5.mono hc4.size)
        refine ⟨_, rfl, hc5, ?_⟩
        simp only [Act.put, List.setIfInBounds_toArray, List.set_cons_zero, List.set_cons_succ]
        refine held_op 7 (by kernel_rfl) (by kernel_rfl) rfl (fun K hK => ?_)
        go_simp
        have hnew := World.alloc_heap_new w5 (.cells #[.string (PackD.name p), .string (PackD.version p), v2, v3] 34)
        have hb6 := (Below.refl w5.heap.size w5).alloc (Nat.le_refl _) (.cells #[.string (PackD.name p), .string (PackD.version p), v2, v3] 34)
        obtain ⟨q1, q2, q3⟩ := items_new hg4.row (by omega) hb5 hown (fun k hk => (hF k hk).1) hb6
        have hc6 := hc5.trans (hb6.mono hc5.size)
        have hcl6 : ∀ j u, (itCells [(([.string (PackD.name p), .string (PackD.version p), v2, v3], p, Fn) : It packC)])[j]? = some u → (w5.alloc (.cells #[.string (PackD.name p), .string (PackD.version p), v2, v3] 34)).cell? ⟨w5.heap.size, 0 + j, none⟩ = some u := fun j u hj => by
          rw [Nat.zero_add]
          refine cell_arrS hnew j u ?_
          have hj' : [.string (PackD.name p), .string (PackD.version p), v2, v3][j]? = some u := by simpa [itCells] using hj
          simpa using hj'
        have hs56 : w4.heap.size ≤ (w5.alloc (.cells #[.string (PackD.name p), .string (PackD.version p), v2, v3] 34)).heap.size := Nat.le_trans hb5.size hb6.size
        refine hK.out _ _ hc6 ?_
        clear hK K hnew hb6
        generalize w5.alloc (.cells #[.string (PackD.name p), .string (PackD.version p), v2, v3] 34) = w6 at *
        generalize w5.heap.size = g5 at *
        refine held_op 8 (by kernel_rfl) (by kernel_rfl) rfl (fun K hK => ?_)
        refine op_items etPack onePack w6 30 _ _ rfl rfl rfl N v4 (L.take k) [(([.string (PackD.name p), .string (PackD.version p), v2, v3], p, Fn) : It packC)] g5 0 1 q1 q2 q3 hcl6 (by rw [htl]; simp only [List.length_singleton]; omega) (by omega) rfl rfl ?_
        intro v7 w7 hg7
        have hc7 : Below wd.heap.size wd w7 := hc6.grown hg7.by_ hc6.size (fun k' hk' => by have := ho4 k' hk'; omega)
        have hbw7 : Below w.heap.size w w7 := hbw.trans (hc7.mono hbw.size)
        have hw7 : w6.heap.size ≤ w7.heap.size := hg7.by_.size
        have ho7 : ∀ g', v7.ownBlock = some g' → gs ≤ g' := fun g' hg' => by
          rcases hg7.block with e | e
          · exact ho4 g' (by rw [← e]; exact hg')
          · rw [e] at hg'
            simp only [Option.some.injEq] at hg'
            omega
        refine hK.out _ _ hc7 ?_
        clear hK K
        simp only [Act.put, List.setIfInBounds_toArray, List.set_cons_zero, List.set_cons_succ]
        have hI7 : Items packC w7 N L := hL.frame (fun x hx => hbw7.block x (hLt x hx))
        have hown7 : packC.own w7 [.string (PackD.name p), .string (PackD.version p), v2, v3] p Fn := hg7.row.items.each _ (List.mem_append.2 (.inr (List.mem_singleton.2 rfl)))
        have hM7 := items_mid (k := k) hI7 hLt hown7 (fun x hx => by have := (hF x hx).1; omega) hN
        have hdl : (L.drop k).length = L.length - k := List.length_drop
        have hl7 : (L.take k ++ [(([.string (PackD.name p), .string (PackD.version p), v2, v3], p, Fn) : It packC)]).length = k + 1 := by rw [List.length_append, htl]; rfl
        refine held_op 12 (by kernel_rfl) (by kernel_rfl) rfl (fun K hK => ?_)
        refine op_items etPack onePack w7 34 _ _ rfl rfl rfl N v7 (L.take k ++ [(([.string (PackD.name p), .string (PackD.version p), v2, v3], p, Fn) : It packC)]) (L.drop k) g of (cap - k) hg7.row hM7 (fun g' hg' hm => by
          have h1 := ho7 g' hg'
          have h2 := hLt g' ((itF_sub (List.drop_sublist k L)).subset hm)
          omega) (fun j u hj => (hbw7.cell (p := ⟨g, of + j, none⟩) hgw).trans (hsrc.out j u hj)) (by rw [hl7, hdl]; omega) (by omega) rfl (by simp [Act.eval, hdl, hA]) ?_
        intro v8 w8 hg8
        have hc8 : Below wd.heap.size wd w8 := hc7.grown hg8.by_ hc7.size (fun k' hk' => by have := ho7 k' hk'; omega)
        have hbw8 : Below w.heap.size w w8 := hbw.trans (hc8.mono hbw.size)
        refine hK.out _ _ hc8 ?_
        clear hK K
        simp only [Act.put, List.setIfInBounds_toArray, List.set_cons_zero, List.set_cons_succ]
        have HFIN := hid (show NRow packC 34 w8 N v8 (L.take k ++ [(([.string (PackD.name p), .string (PackD.version p), v2, v3], p, Fn) : It packC)] ++ L.drop k) ∧ itD (L.take k ++ [(([.string (PackD.name p), .string (PackD.version p), v2, v3], p, Fn) : It packC)] ++ L.drop k) = withP p (itD L) ∧ (∀ x, (v8.ownBlock = some x ∨ x ∈ itF (L.take k ++ [(([.string (PackD.name p), .string (PackD.version p), v2, v3], p, Fn) : It packC)] ++ L.drop k)) → x ∈ itF L ∨ w.heap.size < x) ∧ Below w.heap.size w w8 from by
          refine ⟨hg8.row, ?_, fun x hx => ?_, hbw8⟩
          · rw [itD_app, itD_app, itD_take, itD_drop]
            unfold withP
            rw [unhid HPL]
            simp [itD]
          · rcases hx with hx | hx
            · right
              rcases hg8.block with e | e
              · have := ho7 x (by rw [← e]; exact hx)
                omega
              · rw [e] at hx
                simp only [Option.some.injEq] at hx
                omega
            · rw [itF_app, itF_app] at hx
              rcases List.mem_append.1 hx with hx | hx
              · rcases List.mem_append.1 hx with hx | hx
                · exact .inl ((itF_sub (List.take_sublist k L)).subset hx)
                · right
                  have := (hF x (by simpa [itF] using hx)).1
                  omega
              · exact .inl ((itF_sub (List.drop_sublist k L)).subset hx))
        generalize L.take k ++ [(([.string (PackD.name p), .string (PackD.version p), v2, v3], p, Fn) : It packC)] ++ L.drop k = L9 at *
        have hba : ∀ {q : Prop}, (CW (fun w' => Below wd.heap.size wd w') → q) ↔ q := CW.all hc8
        refine held_here [false, false, false, false, false, false, false, false, false, false, false, false, false, true] (by kernel_rfl) (by kernel_rfl) (fun _ _ _ _ _ h => h) hc8 ?_
        dsimp only [pick]
        repeat (go_big_quiet_step (fail))
        refine wpQuiet_nil ?_
        refine held_done (by kernel_rfl) ?_
        clear hba
        go_wp2_with fail
        go_ret
        obtain ⟨f1, f2, f3, f4⟩ := unhid HFIN
        exact ⟨_, L9, rfl, f1, f2, f3, f4⟩
end Go.Proofs.YtoihhlkidlapmaaGreat

namespace Go.Proofs.YtoihhlkidlapmaaGreat
open Go.RowKit Go.Shelf
set_option maxRecDepth 100000 in
set_option maxHeartbeats 4000000 in
theorem cloneRoot_any (ps : List packC.D) (u : Value) (w : World) (hs : smallPs ps) (hp : rowAt packC w u ps) :
    Calls Tryz.prog 86 #[.agg #[u]] w fun x w' => ∃ (r : Value) (L : List (It packC)), x = .returned (.agg #[r]) ∧ NRow packC 34 w' w.heap.size r L ∧ itD L = ps ∧ Below w.heap.size w w' := by
  obtain ⟨a1, c1, rfl, -⟩ := rowAt.slice hp
  have HP := hid hp
  clear hp
  go_enter Tryz.func86, Tryz.ntmps86
  go_wp2_with fail
  obtain ⟨hP, hR, hS, hB⟩ := two_boxesP w (.cells #[.slice a1 ps.length c1] 51) (.cells #[.slice none 0 0] 51)
  generalize (w.alloc (.cells #[.slice a1 ps.length c1] 51)).alloc (.cells #[.slice none 0 0] 51) = W0 at hP hR hS hB ⊢
  refine (clonePacks_any ps _ W0 hs ((unhid HP).below hB)).mono ?_
  rintro x w2 ⟨r, L, rfl, hN, hL, hb⟩
  obtain ⟨o1, p1⟩ := cell_fz ((hb.block _ hS).trans hR) 0 _ rfl
  obtain ⟨ra, rc, rfl⟩ := nrow_slice hN
  have HN := hid hN
  have HL := hid hL
  have HB := hid (hB.trans (hb.mono hB.size))
  have HS := hid hS
  clear hb hP hR hB hN hL hS
  go_wp2_with fail
  refine bodyPost_ret (v := .agg #[.slice ra L.length rc]) (by simp [results, Tryz.results86, go_sem, World.cell?_setCell_same', o1]) rfl ⟨_, L, rfl, NRow.lower (N := W0.heap.size) ((unhid HN).frame (fun k hk => Below.heap_setCell _ _ _ _ ?_)) (by have := unhid HS; omega), unhid HL, (unhid HB).setCell (by dsimp only; omega) _⟩
  have := ((unhid HN).base k hk).1
  have := unhid HS
  dsimp only
  omega
set_option maxRecDepth 100000 in
set_option maxHeartbeats 4000000 in
theorem turnRoot_any (ps : List packC.D) (u : Value) (L : List (It packC)) (v : Value) (w : World) (N : Nat) (hN : N ≤ w.heap.size) (hs : smallPs ps) (hs2 : smallPs (itD L)) (hp : rowAt packC w u ps) (hq : NRow packC 34 w N v L) :
    Calls Tryz.prog 87 #[.agg #[u], v] w fun x w' => ∃ (r : Value) (L' : List (It packC)), x = .returned (.tuple #[.agg #[r], .int .i64 (rootCode (itD L))]) ∧ NRow packC 34 w' N r L' ∧ itD L' = tryP ps (itD L) ∧ Below w.heap.size w w' := by
  obtain ⟨a1, c1, rfl, -⟩ := rowAt.slice hp
  obtain ⟨a2, c2, rfl⟩ := nrow_slice hq
  have HP := hid hp
  have HQ := hid hq
  have hat : rowAt packC w (.slice a2 L.length c2) (itD L) := by obtain ⟨F, h1, _⟩ := hq.own; exact h1.toAt
  have HA := hid hat
  clear hp hq hat
  go_enter Tryz.func87, Tryz.ntmps87
  go_wp2_with fail
  obtain ⟨hP, hR, hS, hB⟩ := two_boxesP w (.cells #[.slice a1 ps.length c1] 51) (.cells #[.slice none 0 0] 51)
  generalize (w.alloc (.cells #[.slice a1 ps.length c1] 51)).alloc (.cells #[.slice none 0 0] 51) = W0 at hP hR hS hB ⊢
  refine (packsWrong_any (itD L) _ W0 hs2 ((unhid HA).below hB)).mono ?_
  rintro x w2 ⟨rfl, hb⟩
  have hP2 := (hb.block _ (by omega)).trans hP
  have hR2 := (hb.block _ hS).trans hR
  have hS2 : w.heap.size + 1 < w2.heap.size := Nat.lt_of_lt_of_le hS hb.size
  have hB2 := hB.trans (hb.mono hB.size)
  obtain ⟨o0, p0⟩ := cell_fz hP2 0 _ rfl
  obtain ⟨o1, p1⟩ := cell_fz hR2 0 _ rfl
  clear hb hP hR hB hS hP2
  by_cases h0 : rootCode (itD L) = 0
  · have HE := hid h0
    have HB := hid hB2
    clear hB2
    rw [h0]
    go_wp2_with fail
    refine bodyPost_ret (v := .tuple #[.agg #[.slice a2 L.length c2], .int .i64 0]) (by simp [results, Tryz.results87, go_sem, World.cell?_setCell_same', o1]) rfl ⟨_, L, by rw [unhid HE], (unhid HQ).frame (fun k hk => ?_), by unfold tryP; rw [if_pos (unhid HE)], (unhid HB).setCell (by dsimp only; omega) _⟩
    have := ((unhid HQ).base k hk).2
    rw [Below.heap_setCell _ _ _ _ (by dsimp only; omega), (unhid HB).block k this]
  · have HE := hid h0
    have JN := hid (cloneRoot_any ps _ w2 hs ((unhid HP).below hB2))
    have HB := hid hB2
    have HS2 := hid hS2
    have HR2 := hid hR2
    clear hB2 hS2 hR2 o1 p1
    go_wp2_with fail
    refine (unhid JN).mono ?_
    rintro x w3 ⟨r, L', rfl, hN3, hL3, hb3⟩
    obtain ⟨ra, rc, rfl⟩ := nrow_slice hN3
    obtain ⟨o1, p1⟩ := cell_fz ((hb3.block _ (unhid HS2)).trans (unhid HR2)) 0 _ rfl
    have HN3 := hid hN3
    have HL3 := hid hL3
    have HB3 := hid ((unhid HB).trans (hb3.mono (unhid HB).size))
    clear hN3 hL3 hb3 JN
    go_wp2_with fail
    refine bodyPost_ret (v := .tuple #[.agg #[.slice ra L'.length rc], .int .i64 (rootCode (itD L))]) (by simp [results, Tryz.results87, go_sem, World.cell?_setCell_same', o1]) rfl ⟨_, L', rfl, NRow.lower (N := w2.heap.size) ((unhid HN3).frame (fun k hk => Below.heap_setCell _ _ _ _ ?_)) (by have := (unhid HB).size; omega), by unfold tryP; rw [if_neg (unhid HE)]; exact unhid HL3, (unhid HB3).setCell (by dsimp only; omega) _⟩
    have := ((unhid HN3).base k hk).1
    have := unhid HS2
    dsimp only
    omega
end Go.Proofs.YtoihhlkidlapmaaGreat

namespace Go.Proofs.YtoihhlkidlapmaaGreat
open Go.RowKit Go.Shelf
end Go.Proofs.YtoihhlkidlapmaaGreat

namespace Go.Proofs.YtoihhlkidlapmaaGreat
open Go.ChangeShapes Go.WideShapes Go.ChangeAt Go.RowKit
end Go.Proofs.YtoihhlkidlapmaaGreat

namespace Go.Proofs.YtoihhlkidlapmaaGreat
open Go.ChangeShapes Go.WideShapes Go.ChangeAt Go.RowKit
end Go.Proofs.YtoihhlkidlapmaaGreat

namespace Go.Proofs.YtoihhlkidlapmaaGreat
open Go.ChangeShapes Go.WideShapes Go.ChangeAt Go.RowKit
end Go.Proofs.YtoihhlkidlapmaaGreat

namespace Go.Proofs.YtoihhlkidlapmaaGreat
open Go.ChangeShapes Go.WideShapes Go.ChangeAt Go.RowKit
end Go.Proofs.YtoihhlkidlapmaaGreat

namespace Go.Proofs.YtoihhlkidlapmaaGreat
open Go.RowKit Go.Shelf
def rootOk_0 (d : RootD) : Bool := rootCode d.packs == 0
theorem rootOk_yes {d : RootD} (h : rootOk_0 d = true) : rootCode d.packs = 0 := by unfold rootOk_0 at h; exact eq_of_beq h
set_option maxRecDepth 100000 in
set_option maxHeartbeats 1000000 in
theorem specRootOk_any (d : RootD) (a : Option Addr) (c : Nat) (w : World) (hs : smallPs d.packs) (h : rowAt packC w (.slice a d.packs.length c) d.packs) :
    Calls Tryz.prog 35 #[.agg #[.slice a d.packs.length c]] w fun x w' => x = .returned (.bool (rootOk_0 d)) ∧ Below w.heap.size w w' := by
  have HB := hid (show ∀ x, Below w.heap.size w (w.alloc x) from fun x => (Below.refl _ w).alloc (Nat.le_refl _) x)
  have K := hid (fun W (hb : Below w.heap.size w W) => l9Check_any d.packs _ W hs (h.below hb))
  have E := hid (show rootOk_0 d = (rootCode d.packs == 0) from rfl)
  clear hs h
  go_enter Tryz.func35, Tryz.ntmps35
  go_wp2_with fail
  refine (unhid K _ (unhid HB _)).mono ?_
  rintro x w2 ⟨rfl, hb⟩
  have HB2 := hid ((unhid HB _).trans (hb.mono (unhid HB _).size))
  clear hb
  generalize rootCode d.packs = rc at *
  go_wp2_with fail
  go_ret
  exact ⟨by rw [unhid E]; rfl, unhid HB2⟩
set_option maxRecDepth 100000 in
set_option maxHeartbeats 1000000 in
theorem implRootOk_any (d : RootD) (a : Option Addr) (c : Nat) (w : World) (hs : smallPs d.packs) (h : rowAt packC w (.slice a d.packs.length c) d.packs) :
    Calls Tryz.prog 42 #[.agg #[.slice a d.packs.length c]] w fun x w' => x = .returned (.bool (rootOk_0 d)) ∧ Below w.heap.size w w' := by
  have HB := hid (show ∀ x, Below w.heap.size w (w.alloc x) from fun x => (Below.refl _ w).alloc (Nat.le_refl _) x)
  have K := hid (fun W (hb : Below w.heap.size w W) => packsWrong_any d.packs _ W hs (h.below hb))
  have E := hid (show rootOk_0 d = (rootCode d.packs == 0) from rfl)
  clear hs h
  go_enter Tryz.func42, Tryz.ntmps42
  go_wp2_with fail
  refine (unhid K _ (unhid HB _)).mono ?_
  rintro x w2 ⟨rfl, hb⟩
  have HB2 := hid ((unhid HB _).trans (hb.mono (unhid HB _).size))
  clear hb
  generalize rootCode d.packs = rc at *
  go_wp2_with fail
  go_ret
  exact ⟨by rw [unhid E]; rfl, unhid HB2⟩
def rootTreeE (d : RootD) : List Ent := if rootOk_0 d then joinG d.packs else []
theorem joinO_tree : ∀ (acc : List Ent) (ps : List packC.D) (t : List Ent), treeB acc = true → joinO acc ps = some t → treeB t = true
  | acc, [], t, h, e => by rw [joinO] at e; cases e; exact h
  | acc, p :: ps, t, h, e => by
    rw [joinO] at e
    split at e
    · rename_i hq
      rw [Bool.and_eq_true] at hq
      exact joinO_tree _ ps t hq.2 e
    · cases e
theorem joinG_tree (ps : List packC.D) : treeB (joinG ps) = true := by
  unfold joinG
  cases h : joinO [] ps with
  | none => exact treeB_nil
  | some t => exact joinO_tree [] ps t treeB_nil h
theorem rootTree_tree (d : RootD) : treeB (rootTreeE d) = true := by
  unfold rootTreeE
  split
  · exact joinG_tree _
  · exact treeB_nil
set_option maxRecDepth 100000 in
set_option maxHeartbeats 1000000 in
theorem implRootTree_any (d : RootD) (a : Option Addr) (c : Nat) (w : World) (hs : smallPs d.packs) (h : rowAt packC w (.slice a d.packs.length c) d.packs) :
    Calls Tryz.prog 37 #[.agg #[.slice a d.packs.length c]] w fun x w' => ∃ u, x = .returned u ∧ w'.ownsRow w.heap.size 57 4 u (rootTreeE d).length (valsOf (rootTreeE d)) ∧ Below w.heap.size w w' := by
  have HBX := hid (World.alloc_heap_new w (.cells #[.slice a d.packs.length c] 51))
  have HB := hid (show ∀ x, Below w.heap.size w (w.alloc x) from fun x => (Below.refl _ w).alloc (Nat.le_refl _) x)
  have HLT := hid (show w.heap.size < (w.alloc (.cells #[.slice a d.packs.length c] 51)).heap.size by simp)
  have K := hid (fun W (hb : Below w.heap.size w W) => implRootOk_any d a c W hs (h.below hb))
  have H := hid h
  have HS := hid hs
  clear hs h
  go_enter Tryz.func37, Tryz.ntmps37
  go_wp2_with fail
  have hb0 := unhid HB (.cells #[.slice a d.packs.length c] 51)
  generalize w.alloc (.cells #[.slice a d.packs.length c] 51) = W0 at HBX HLT hb0 ⊢
  refine (unhid K W0 hb0).mono ?_
  rintro x w2 ⟨rfl, hb⟩
  have HB2 := hid (hb0.trans (hb.mono hb0.size))
  have BX := hid ((hb.block _ (unhid HLT)).trans (unhid HBX))
  clear hb hb0 HB HLT HBX
  cases hq : rootOk_0 d with
  | false =>
    have E := hid (show rootTreeE d = [] by unfold rootTreeE; rw [hq]; rfl)
    have HO := hid (show w2.ownsRow w.heap.size 57 4 (.slice none 0 0) ([] : List Ent).length (valsOf []) from ⟨rfl, .inl ⟨rfl, rfl⟩⟩)
    go_wp2_with fail
    go_ret
    exact ⟨_, rfl, by rw [unhid E]; exact unhid HO, unhid HB2⟩
  | true =>
    have HF := hid (code_0 (rootOk_yes hq)).1
    have E := hid (show rootTreeE d = joinG d.packs by unfold rootTreeE; rw [hq]; rfl)
    have c0 := cell_arrS (unhid BX) 0 _ rfl
    clear hq
    go_wp2_with fail
    refine (joinAll_any d.packs _ w2 (unhid HS) (unhid HF) ((unhid H).below (unhid HB2))).mono ?_
    rintro x w3 ⟨u, rfl, ho, hb⟩
    have HB3 := hid ((unhid HB2).trans (hb.mono (unhid HB2).size))
    have HO := hid (ownsRow_lowerS ho (unhid HB2).size)
    clear ho hb c0
    go_wp2_with fail
    go_ret
    exact ⟨_, rfl, by rw [unhid E]; exact unhid HO, unhid HB3⟩
end Go.Proofs.YtoihhlkidlapmaaGreat

namespace Go.Proofs.YtoihhlkidlapmaaGreat
open Go.RowKit Go.Shelf
def rootOutC (d : RootD) (q : ByteArray) : Int := if rootOk_0 d = true then outCode q d.packs else 1
def rootOutP (d : RootD) (q : ByteArray) : List packC.D := if rootOk_0 d = true then outP q d.packs else []
def RootOutR (d : RootD) (q : ByteArray) (w : World) (x : Ending) (w' : World) : Prop := ∃ (r : Value) (L : List (It packC)), x = .returned (.tuple #[.agg #[r], .int .i64 (rootOutC d q)]) ∧ NRow packC 34 w' w.heap.size r L ∧ itD L = rootOutP d q ∧ Below w.heap.size w w'
set_option maxRecDepth 100000 in
set_option maxHeartbeats 4000000 in
theorem specRootOut_any (d : RootD) (a1 : Option Addr) (c1 : Nat) (q : ByteArray) (w : World) (hs : smallPs d.packs) (hp : rowAt packC w (.slice a1 d.packs.length c1) d.packs) :
    Calls Tryz.prog 40 #[.agg #[.slice a1 d.packs.length c1], .string q] w (RootOutR d q w) := by
  have HP := hid hp
  clear hp
  go_enter Tryz.func40, Tryz.ntmps40
  go_wp2_with fail
  obtain ⟨hP, hR, hS, hB⟩ := two_boxesP w (.cells #[.slice a1 d.packs.length c1] 51) (.cells #[.slice none 0 0] 51)
  generalize (w.alloc (.cells #[.slice a1 d.packs.length c1] 51)).alloc (.cells #[.slice none 0 0] 51) = W0 at hP hR hS hB ⊢
  have o0 := cell_arrS hP 0 _ rfl
  go_wp2_with fail
  refine (specRootOk_any d a1 c1 W0 hs ((unhid HP).below hB)).mono ?_
  rintro x w2 ⟨rfl, hb⟩
  clear o0
  have hP2 := (hb.block _ (by omega)).trans hP
  have hR2 := (hb.block _ hS).trans hR
  have hS2 : w.heap.size + 1 < w2.heap.size := Nat.lt_of_lt_of_le hS hb.size
  have hB2 := hB.trans (hb.mono hB.size)
  clear hb hP hR hB hS
  obtain ⟨o0, p0⟩ := cell_fz hP2 0 _ rfl
  obtain ⟨o1, p1⟩ := cell_fz hR2 0 _ rfl
  have HB := hid hB2
  have HS2 := hid hS2
  have HR2 := hid hR2
  cases hok : rootOk_0 d with
  | false =>
    have HE := hid hok
    clear hP2 hR2 hB2 hS2
    go_wp2_with fail
    exact bodyPost_ret (v := .tuple #[.agg #[.slice none 0 0], .int .i64 1]) (by simp [results, Tryz.results40, go_sem, World.cell?_setCell_same', o1]) rfl ⟨_, [], by unfold rootOutC; rw [unhid HE]; rfl, NRow.none _ _, by unfold rootOutP; rw [unhid HE]; rfl, (unhid HB).setCell (by dsimp only; omega) _⟩
  | true =>
    have HE := hid hok
    have JN := hid (l9Copy_any d.packs _ w2 hs ((unhid HP).below hB2))
    clear hP2 hR2 hB2 hS2 o1 p1
    go_wp2_with fail
    refine (unhid JN).mono ?_
    rintro x w3 ⟨u, L, rfl, hN3, hL3, hb3⟩
    obtain ⟨ra, rc, rfl⟩ := nrow_slice hN3
    clear JN
    have HB3 := hid hb3
    have JN := hid (l9Out_any L (.slice ra L.length rc) q w3 w2.heap.size hb3.size (by rw [hL3]; exact hs) hN3)
    have HL3 := hid hL3
    clear hN3 hL3 hb3
    go_wp2_with fail
    refine (unhid JN).mono ?_
    rintro x w4 ⟨r, L', rfl, hN4, hL4, hb4⟩
    obtain ⟨rb, rd, rfl⟩ := nrow_slice hN4
    have hb24 := (unhid HB3).trans (hb4.mono (unhid HB3).size)
    obtain ⟨o1, p1⟩ := cell_fz ((hb24.block _ (unhid HS2)).trans (unhid HR2)) 0 _ rfl
    have HN4 := hid hN4
    have HL4 := hid hL4
    have HB4 := hid ((unhid HB).trans (hb24.mono (unhid HB).size))
    clear hN4 hL4 hb4 hb24 JN
    have hoc : outCode q (itD L) = rootOutC d q := by unfold rootOutC; rw [if_pos (unhid HE), unhid HL3]
    rw [hoc]
    have HX := hid (show outP q (itD L) = rootOutP d q by unfold rootOutP; rw [if_pos (unhid HE), unhid HL3])
    clear hoc hok
    generalize hoc : rootOutC d q = oc
    have HOC := hid hoc
    clear hoc
    go_wp2_with fail
    refine bodyPost_ret (v := .tuple #[.agg #[.slice rb L'.length rd], .int .i64 oc]) (by simp [results, Tryz.results40, go_sem, World.cell?_setCell_same', o1]) rfl ⟨_, L', by rw [unhid HOC], NRow.lower (N := w2.heap.size) ((unhid HN4).frame (fun k hk => Below.heap_setCell _ _ _ _ ?_)) (by have := (unhid HB).size; omega), by rw [unhid HL4, unhid HX], (unhid HB4).setCell (by dsimp only; omega) _⟩
    have := ((unhid HN4).base k hk).1
    have := unhid HS2
    dsimp only
    omega
theorem without_place {ps : List packC.D} {q : ByteArray} {i : Nat} (hf : formB ps = true) (hi : (namesP ps)[i]? = some q) : withoutP q ps = ps.take i ++ ps.drop (i + 1) := by
  have ha := form_asc hf
  obtain ⟨p, hp, hpn⟩ := namesP_some hi
  have hil := (List.getElem?_eq_some_iff.1 hp).1
  have hone : ∀ (j : Nat) (x : packC.D), ps[j]? = some x → j ≠ i → (!decide (PackD.name x = q)) = true := fun j x hx hne => by
    simp only [Bool.not_eq_true', decide_eq_false_iff_not]
    intro e
    have := namesP_get hx
    rw [e] at this
    exact hne (asc_inj ha this hi)
  have hsp : ps = ps.take i ++ (p :: ps.drop (i + 1)) := by
    have h1 : ps.drop i = p :: ps.drop (i + 1) := by
      rw [List.drop_eq_getElem_cons hil]
      congr 1
      have := List.getElem?_eq_getElem hil
      rw [hp] at this
      exact (Option.some.inj this).symm
    rw [← h1, List.take_append_drop]
  have e1 : List.filter (α := packC.D) (fun p => !decide (PackD.name p = q)) (ps.take i) = ps.take i := List.filter_eq_self.2 (fun x hx => by
    obtain ⟨j, hj⟩ := List.getElem?_of_mem hx
    have hji : j < i := by have := (List.getElem?_eq_some_iff.1 hj).1; rw [List.length_take] at this; omega
    rw [List.getElem?_take_of_lt hji] at hj
    exact hone j x hj (by omega))
  have e2 : List.filter (α := packC.D) (fun p => !decide (PackD.name p = q)) (ps.drop (i + 1)) = ps.drop (i + 1) := List.filter_eq_self.2 (fun x hx => by
    obtain ⟨j, hj⟩ := List.getElem?_of_mem hx
    rw [List.getElem?_drop] at hj
    exact hone _ x hj (by omega))
  have e3 : List.filter (α := packC.D) (fun p => !decide (PackD.name p = q)) (p :: ps.drop (i + 1)) = ps.drop (i + 1) := by
    rw [List.filter_cons_of_neg (by simp [hpn]), e2]
  have : withoutP q ps = List.filter (α := packC.D) (fun p => !decide (PackD.name p = q)) (ps.take i ++ (p :: ps.drop (i + 1))) := by unfold withoutP; rw [← hsp]
  rw [this, List.filter_append, e1, e3]
theorem ok_form {ps : List packC.D} (h : rootCode ps = 0) : formB ps = true := by
  cases hf : formB ps with
  | true => rfl
  | false => rw [code_form hf] at h; cases h
theorem ok_len {ps : List packC.D} (h : rootCode ps = 0) : ps.length ≤ 5 := by
  rcases Nat.lt_or_ge 5 ps.length with hl | hl
  · rw [code_full (ok_form h) (by omega)] at h; cases h
  · exact hl
set_option maxRecDepth 100000 in
set_option maxHeartbeats 8000000 in
theorem implRootOut_any (d : RootD) (a1 : Option Addr) (c1 : Nat) (q : ByteArray) (w : World) (hs : smallPs d.packs) (hp : rowAt packC w (.slice a1 d.packs.length c1) d.packs) :
    Calls Tryz.prog 39 #[.agg #[.slice a1 d.packs.length c1], .string q] w (RootOutR d q w) := by
  have HP := hid hp
  clear hp
  go_enter Tryz.func39, Tryz.ntmps39
  go_wp2_with fail
  obtain ⟨hP, hR, hS, hB⟩ := two_boxesP w (.cells #[.slice a1 d.packs.length c1] 51) (.cells #[.slice none 0 0] 51)
  generalize (w.alloc (.cells #[.slice a1 d.packs.length c1] 51)).alloc (.cells #[.slice none 0 0] 51) = W0 at hP hR hS hB ⊢
  have o0 := cell_arrS hP 0 _ rfl
  go_wp2_with fail
  refine (implRootOk_any d a1 c1 W0 hs ((unhid HP).below hB)).mono ?_
  rintro x w2 ⟨rfl, hb⟩
  clear o0
  have hP2 := (hb.block _ (by omega)).trans hP
  have hR2 := (hb.block _ hS).trans hR
  have hS2 : w.heap.size + 1 < w2.heap.size := Nat.lt_of_lt_of_le hS hb.size
  have hB2 := hB.trans (hb.mono hB.size)
  clear hb hP hR hB hS
  obtain ⟨o0, p0⟩ := cell_fz hP2 0 _ rfl
  obtain ⟨o1, p1⟩ := cell_fz hR2 0 _ rfl
  have HB := hid hB2
  cases hok : rootOk_0 d with
  | false =>
    have HE := hid hok
    clear hP2 hR2 hB2 hS2
    go_wp2_with fail
    exact bodyPost_ret (v := .tuple #[.agg #[.slice none 0 0], .int .i64 1]) (by simp [results, Tryz.results39, go_sem, World.cell?_setCell_same', o1]) rfl ⟨_, [], by unfold rootOutC; rw [unhid HE]; rfl, NRow.none _ _, by unfold rootOutP; rw [unhid HE]; rfl, (unhid HB).setCell (by dsimp only; omega) _⟩
  | true =>
    have HE := hid hok
    have hrc := rootOk_yes hok
    have HF := hid (ok_form hrc)
    have hlen := ok_len hrc
    have JN := hid (packPlace_any d.packs _ q w2 hs.1 (form_asc (unhid HF)) ((unhid HP).below hB2))
    clear o1 p1
    go_wp2_with fail
    refine (unhid JN).mono ?_
    rintro x w3 ⟨rfl, hb3⟩
    clear JN o0 p0
    have hP3 := (hb3.block _ (by omega)).trans hP2
    have hR3 := (hb3.block _ hS2).trans hR2
    have hS3 : w.heap.size + 1 < w3.heap.size := Nat.lt_of_lt_of_le hS2 hb3.size
    have hB3 := hB2.trans (hb3.mono hB2.size)
    clear hP2 hR2 hS2 hB2 hb3 HB
    obtain ⟨o0, p0⟩ := cell_fz hP3 0 _ rfl
    have HB := hid hB3
    have HS3 := hid hS3
    have HR3 := hid hR3
    cases hth : thereP (namesP d.packs) q with
    | false =>
      have hno2 : ¬ hasBN q d.packs = true := fun e => there_no (form_asc (unhid HF)) hth ((hasB_iffN q _).1 e)
      have HX := hid (show 3 = rootOutC d q ∧ d.packs = rootOutP d q from ⟨by unfold rootOutC outCode; rw [if_pos hok, if_neg hno2], by unfold rootOutP outP; rw [if_pos hok, if_neg hno2]⟩)
      have JN := hid (cloneRoot_any d.packs _ w3 hs ((unhid HP).below hB3))
      clear hno2 hP3 hR3 hB3 hS3
      go_wp2_with fail
      refine (unhid JN).mono ?_
      rintro x w4 ⟨r, L', rfl, hN4, hL4, hb4⟩
      obtain ⟨rb, rd, rfl⟩ := nrow_slice hN4
      obtain ⟨o1, p1⟩ := cell_fz ((hb4.block _ (unhid HS3)).trans (unhid HR3)) 0 _ rfl
      have HN4 := hid hN4
      have HL4 := hid hL4
      have HB4 := hid ((unhid HB).trans (hb4.mono (unhid HB).size))
      clear hN4 hL4 hb4 JN
      go_wp2_with fail
      refine bodyPost_ret (v := .tuple #[.agg #[.slice rb L'.length rd], .int .i64 3]) (by simp [results, Tryz.results39, go_sem, World.cell?_setCell_same', o1]) rfl ⟨_, L', by rw [← (unhid HX).1], NRow.lower (N := w3.heap.size) ((unhid HN4).frame (fun k hk => Below.heap_setCell _ _ _ _ ?_)) (by have := (unhid HB).size; omega), by rw [unhid HL4]; exact (unhid HX).2, (unhid HB4).setCell (by dsimp only; omega) _⟩
      have := ((unhid HN4).base k hk).1
      have := unhid HS3
      dsimp only
      omega
    | true =>
      have hm := thereT_mem hth
      have hyes : hasBN q d.packs = true := (hasB_iffN q _).2 (List.mem_of_getElem? hm)
      have hwp := without_place (unhid HF) hm
      have hil : placeP (namesP d.packs) q < d.packs.length := by have := (List.getElem?_eq_some_iff.1 hm).1; rwa [namesP_len] at this
      generalize placeP (namesP d.packs) q = i at *
      have HX := hid (show rootCode (d.packs.take i ++ d.packs.drop (i + 1)) = rootOutC d q ∧ tryP d.packs (d.packs.take i ++ d.packs.drop (i + 1)) = rootOutP d q from ⟨by unfold rootOutC outCode; rw [if_pos hok, if_pos hyes, hwp], by unfold rootOutP outP; rw [if_pos hok, if_pos hyes, hwp]⟩)
      have hC0 : OutW w3 w.heap.size w3.drew := ⟨⟨rfl, rfl, rfl, Nat.le_refl _, fun _ _ => rfl⟩, _, hR3⟩
      have HC0 := hid hC0
      clear hm hyes hwp hth hP3 hR3 hB3 hS3
      go_wp2_with fail
      have gq0 : ∀ x : CW (OutW w3 w.heap.size), x.w.cell? ⟨w.heap.size, 0, none⟩ = some (.slice a1 d.packs.length c1) := fun x => (x.h.1.cell (p := ⟨w.heap.size, 0, none⟩) (by dsimp only; omega)).trans o0
      have hba : ∀ {q : Prop}, (CW (OutW w3 w.heap.size) → q) ↔ q := CW.all hC0
      refine held_begin (OutW w3 w.heap.size) (by kernel_rfl) hC0 ?_
      refine held_here [true, true, true, false, true, true, true] (by kernel_rfl) (by kernel_rfl) (fun _ _ _ _ _ h => h) hC0 ?_
      dsimp only [pick]
      repeat (go_big_quiet_step (fail))
      refine wpQuiet_nil ?_
      clear hba gq0 hC0 o0 p0
      have hs0 : w.heap.size + 1 < w3.drew.heap.size := unhid HS3
      have hbd : Below w.heap.size w w3.drew := (unhid HB).trans ⟨rfl, rfl, rfl, Nat.le_refl _, fun _ _ => rfl⟩
      clear HR3
      generalize w3.drew = w4 at *
      refine held_call 3 89 26 (enters_of Tryz.func89 (by kernel_rfl) rfl) #[.slice a1 d.packs.length c1] (by kernel_rfl) (by kernel_rfl) rfl rfl rfl rfl rfl ?_
      refine (clonePacks_any d.packs _ w4 hs ((unhid HP).below hbd)).mono ?_
      rintro x w5 ⟨v5, L, rfl, hN5, hL5, hb5⟩
      have hC5 := (unhid HC0).next hs0 hb5
      have hs5 := Nat.lt_of_lt_of_le hs0 hb5.size
      have hB5 := hbd.trans (hb5.mono hbd.size)
      have hL5l : L.length = d.packs.length := by rw [← hL5, itD_len]
      refine ⟨_, rfl, hC5, ?_⟩
      simp only [Act.put, List.setIfInBounds_toArray, List.set_cons_zero, List.set_cons_succ]
      refine held_call 7 88 30 (enters_of Tryz.func88 (by kernel_rfl) rfl) #[v5, .int .i64 (i : Int), .int .i64 ((i + 1 : Nat) : Int)] (by kernel_rfl) (by kernel_rfl) rfl rfl rfl rfl (by simp [Act.eval]) ?_
      refine (Delete_any L v5 i w5 w4.heap.size (by omega) hN5).mono ?_
      rintro x w6 ⟨v6, rfl, hN6, hg6, _⟩
      have hb6 : Below w4.heap.size w5 w6 := (Below.refl _ w5).grown hg6 hb5.size (fun k hk => (hN5.base k (.inl hk)).1)
      have hb46 : Below w4.heap.size w4 w6 := hb5.trans hb6
      have hC6 := (unhid HC0).next hs0 hb46
      have hs6 := Nat.lt_of_lt_of_le hs0 hb46.size
      have hB6 := hbd.trans (hb46.mono hbd.size)
      have hD6 : itD (L.take i ++ L.drop (i + 1)) = d.packs.take i ++ d.packs.drop (i + 1) := by rw [itD_app, itD_take, itD_drop, hL5]
      have hs2 : smallPs (itD (L.take i ++ L.drop (i + 1))) := by
        rw [hD6]
        refine ⟨by rw [List.length_append, List.length_take, List.length_drop]; have := hs.1; omega, fun p hp => ?_⟩
        rcases List.mem_append.1 hp with hp | hp
        · exact hs.2 p (List.mem_of_mem_take hp)
        · exact hs.2 p (List.mem_of_mem_drop hp)
      refine ⟨_, rfl, hC6, ?_⟩
      simp only [Act.put, List.setIfInBounds_toArray, List.set_cons_zero, List.set_cons_succ]
      refine held_call 8 87 31 (enters_of Tryz.func87 (by kernel_rfl) rfl) #[.agg #[.slice a1 d.packs.length c1], v6] (by kernel_rfl) (by kernel_rfl) rfl rfl rfl rfl rfl ?_
      refine (turnRoot_any d.packs _ (L.take i ++ L.drop (i + 1)) v6 w6 w4.heap.size hb46.size hs hs2 ((unhid HP).below hB6) hN6).mono ?_
      rintro x w7 ⟨r7, L', rfl, hN7, hL7, hb7⟩
      obtain ⟨rb, rd, rfl⟩ := nrow_slice hN7
      have hC7 := hC6.next hs6 hb7
      have hB7 := hB6.trans (hb7.mono hB6.size)
      rw [hD6] at hL7 ⊢
      rw [(unhid HX).1]
      have HN7 := hid hN7
      have HL7 := hid (hL7.trans (unhid HX).2)
      have HB7 := hid hB7
      have HS4 := hid hs0
      have HBD := hid hbd
      generalize hoc : rootOutC d q = oc
      have HOC := hid hoc
      refine ⟨_, rfl, hC7, ?_⟩
      simp only [Act.put, List.setIfInBounds_toArray, List.set_cons_zero, List.set_cons_succ]
      clear hoc hs0 hbd HC0 hN5 hL5 hb5 hC5 hs5 hB5 hL5l hN6 hg6 hb6 hb46 hC6 hs6 hB6 hD6 hs2 hN7 hL7 hb7 hB7 HX
      have hba : ∀ {q : Prop}, (CW (OutW w3 w.heap.size) → q) ↔ q := CW.all hC7
      refine held_here [false, false, false, false, false, false, false, false, false, true, true] (by kernel_rfl) (by kernel_rfl) (fun _ _ _ _ _ h => h) hC7 ?_
      dsimp only [pick]
      repeat (go_big_quiet_step (fail))
      refine wpQuiet_nil ?_
      obtain ⟨z, hz⟩ := hC7.2
      obtain ⟨o1, p1⟩ := cell_fz hz 0 _ rfl
      have hC8 := hC7.store (.slice rb L'.length rd)
      clear hba
      refine held_op 11 (by kernel_rfl) (by kernel_rfl) rfl (fun K hK => ?_)
      go_simp
      refine hK.out _ _ hC8 ?_
      clear hK K
      have hba : ∀ {q : Prop}, (CW (OutW w3 w.heap.size) → q) ↔ q := CW.all hC8
      refine held_here [false, false, false, false, false, false, false, false, false, false, false, false, true] (by kernel_rfl) (by kernel_rfl) (fun _ _ _ _ _ h => h) hC8 ?_
      dsimp only [pick]
      repeat (go_big_quiet_step (fail))
      refine wpQuiet_nil ?_
      clear hba
      refine held_done (by kernel_rfl) ?_
      go_wp2_with fail
      refine bodyPost_ret (v := .tuple #[.agg #[.slice rb L'.length rd], .int .i64 oc]) (by simp [results, Tryz.results39, go_sem, World.cell?_setCell_same', o1]) rfl ⟨_, L', by rw [unhid HOC], NRow.lower (N := w4.heap.size) ((unhid HN7).frame (fun k hk => Below.heap_setCell _ _ _ _ ?_)) (by have := (unhid HBD).size; omega), unhid HL7, (unhid HB7).setCell (by dsimp only; omega) _⟩
      have := ((unhid HN7).base k hk).1
      have := unhid HS4
      dsimp only
      omega
end Go.Proofs.YtoihhlkidlapmaaGreat

namespace Go.Proofs.YtoihhlkidlapmaaGreat
open Go.RowKit Go.Shelf
end Go.Proofs.YtoihhlkidlapmaaGreat

namespace Go.Proofs.YtoihhlkidlapmaaGreat
open Go.RowKit Go.Shelf
def inCode (p : packC.D) (ps : List packC.D) : Int := if pkOk p = true then (if hasBN (PackD.name p) ps = true then 2 else rootCode (withP p ps)) else 1
def inP (p : packC.D) (ps : List packC.D) : List packC.D := if pkOk p = true then (if hasBN (PackD.name p) ps = true then ps else tryP ps (withP p ps)) else ps
theorem with_small {p : packC.D} {ps : List packC.D} (h : smallPs ps) (hl : ps.length ≤ 1000) (hp : smallP p) : smallPs (withP p ps) := by
  refine ⟨by unfold withP; rw [List.length_append, List.length_cons, List.length_take, List.length_drop]; omega, fun x hx => ?_⟩
  unfold withP at hx
  rcases List.mem_append.1 hx with hx | hx
  · exact h.2 x (List.mem_of_mem_take hx)
  · rcases List.mem_cons.1 hx with rfl | hx
    · exact hp
    · exact h.2 x (List.mem_of_mem_drop hx)
set_option maxRecDepth 100000 in
set_option maxHeartbeats 4000000 in
theorem l9In_any (L : List (It packC)) (u : Value) (p : packC.D) (cs : List Value) (w : World) (N : Nat) (hN : N ≤ w.heap.size) (hs : smallPs (itD L)) (hlen : L.length ≤ 1000) (hps : smallP p) (hp : NRow packC 34 w N u L) (hcp : packC.at_ w cs p) :
    Calls Tryz.prog 97 #[.agg #[u], .agg cs.toArray] w fun x w' => ∃ (r : Value) (L' : List (It packC)), x = .returned (.tuple #[.agg #[r], .int .i64 (inCode p (itD L))]) ∧ NRow packC 34 w' N r L' ∧ itD L' = inP p (itD L) ∧ Below w.heap.size w w' := by
  obtain ⟨v2, v3, rfl, p2, p3⟩ := packC_at hcp
  obtain ⟨na, nc, rfl, -⟩ := rowAt.slice p2
  obtain ⟨ta, tc, rfl, -⟩ := rowAt.slice p3
  obtain ⟨a1, c1, rfl⟩ := nrow_slice hp
  have HCP := hid hcp
  have HP := hid hp
  have HA := hid (show rowAt packC w (.slice a1 L.length c1) (itD L) from by obtain ⟨F, h1, _⟩ := hp.own; exact h1.toAt)
  have HS := hid hs
  have hln := itD_len L
  have HLEN := hid (show (itD L).length ≤ 1000 by omega)
  generalize hpss : itD L = ps at *
  have HPS := hid hpss
  clear hp hpss hcp p2 p3
  go_enter Tryz.func97, Tryz.ntmps97
  go_wp2_with fail
  obtain ⟨hP, hQ, hR, hS, hB⟩ := three_boxes w (.cells #[.slice a1 L.length c1] 51) (.cells #[.string (PackD.name p), .string (PackD.version p), .slice na (PackD.needs p).length nc, .slice ta (PackD.tree p).length tc] 34) (.cells #[.slice none 0 0] 51)
  generalize ((w.alloc (.cells #[.slice a1 L.length c1] 51)).alloc (.cells #[.string (PackD.name p), .string (PackD.version p), .slice na (PackD.needs p).length nc, .slice ta (PackD.tree p).length tc] 34)).alloc (.cells #[.slice none 0 0] 51) = W0 at hP hQ hR hS hB ⊢
  have q0 := cell_arrS hQ 0 _ rfl
  have q1 := cell_arrS hQ 1 _ rfl
  have q2 := cell_arrS hQ 2 _ rfl
  have q3 := cell_arrS hQ 3 _ rfl
  go_wp2_with fail
  refine (specPackOk_any p _ W0 hps (packC.below (unhid HCP) hB)).mono ?_
  rintro x w1 ⟨rfl, hb⟩
  clear q0 q1 q2 q3
  have hP1 := (hb.block _ (by omega)).trans hP
  have hQ1 := (hb.block _ (by omega)).trans hQ
  have hR1 := (hb.block _ hS).trans hR
  have hS1 : w.heap.size + 1 + 1 < w1.heap.size := Nat.lt_of_lt_of_le hS hb.size
  have hB1 := hB.trans (hb.mono hB.size)
  clear hb hP hQ hR hB hS
  obtain ⟨o0, p0⟩ := cell_fz hP1 0 _ rfl
  obtain ⟨o1, p1⟩ := cell_fz hR1 0 _ rfl
  have q0 := cell_arrS hQ1 0 _ rfl
  cases hok : pkOk p with
  | false =>
    have HE := hid (show 1 = inCode p ps ∧ ps = inP p ps from ⟨by unfold inCode; rw [hok]; rfl, by unfold inP; rw [hok]; rfl⟩)
    have HB := hid hB1
    clear hP1 hQ1 hR1 hB1 hok
    go_wp2_with fail
    refine bodyPost_ret (v := .tuple #[.agg #[.slice a1 L.length c1], .int .i64 1]) (by simp [results, Tryz.results97, go_sem, World.cell?_setCell_same', o1]) rfl ⟨_, L, by rw [← (unhid HE).1], ?_, by rw [unhid HPS]; exact (unhid HE).2, (unhid HB).setCell (by dsimp only; omega) _⟩
    refine (unhid HP).frame (fun k hk => ?_)
    have h1 := ((unhid HP).base k hk).2
    rw [Below.heap_setCell _ _ _ _ (by dsimp only; omega), (unhid HB).block k h1]
  | true =>
    go_wp2_with fail
    refine (l8Pack_any ps _ (PackD.name p) w1 hs.1 ((unhid HA).below hB1)).mono ?_
    rintro x w2 ⟨⟨r, rfl, hr⟩, hb⟩
    clear o0 p0 o1 p1 q0
    have hP2 := (hb.block _ (by omega)).trans hP1
    have hQ2 := (hb.block _ (by omega)).trans hQ1
    have hR2 := (hb.block _ hS1).trans hR1
    have hS2 : w.heap.size + 1 + 1 < w2.heap.size := Nat.lt_of_lt_of_le hS1 hb.size
    have hB2 := hB1.trans (hb.mono hB1.size)
    clear hb hP1 hQ1 hR1 hB1 hS1 hs
    obtain ⟨o0, p0⟩ := cell_fz hP2 0 _ rfl
    obtain ⟨o1, p1⟩ := cell_fz hR2 0 _ rfl
    rcases hr with ⟨rfl, hno⟩ | ⟨k, rfl, hyes⟩
    · have hno2 : ¬ hasBN (PackD.name p) ps = true := fun e => hno ((hasB_iffN _ ps).1 e)
      have HE := hid (show rootCode (withP p ps) = inCode p ps ∧ tryP ps (withP p ps) = inP p ps from ⟨by unfold inCode; rw [if_pos hok, if_neg hno2], by unfold inP; rw [if_pos hok, if_neg hno2]⟩)
      clear hno hno2 hok
      have HB := hid hB2
      have hC0 : OutW w2 (w.heap.size + 1) w2.drew := ⟨⟨rfl, rfl, rfl, Nat.le_refl _, fun _ _ => rfl⟩, _, hR2⟩
      have HC0 := hid hC0
      have HS2 := hid hS2
      clear hR2 hB2 o1 p1 hP2
      go_wp2_with fail
      have gq0 : ∀ x : CW (OutW w2 (w.heap.size + 1)), x.w.cell? ⟨w.heap.size, 0, none⟩ = some (.slice a1 L.length c1) := fun x => (x.h.1.cell (p := ⟨w.heap.size, 0, none⟩) (by dsimp only; omega)).trans o0
      have gp0 : ∀ x : CW (OutW w2 (w.heap.size + 1)), x.w.cell? ⟨w.heap.size + 1, 0, none⟩ = some (.string (PackD.name p)) := fun x => cell_arrS ((x.h.1.block _ (by omega)).trans hQ2) 0 _ rfl
      have gp1 : ∀ x : CW (OutW w2 (w.heap.size + 1)), x.w.cell? ⟨w.heap.size + 1, 1, none⟩ = some (.string (PackD.version p)) := fun x => cell_arrS ((x.h.1.block _ (by omega)).trans hQ2) 1 _ rfl
      have gp2 : ∀ x : CW (OutW w2 (w.heap.size + 1)), x.w.cell? ⟨w.heap.size + 1, 2, none⟩ = some (.slice na (PackD.needs p).length nc) := fun x => cell_arrS ((x.h.1.block _ (by omega)).trans hQ2) 2 _ rfl
      have gp3 : ∀ x : CW (OutW w2 (w.heap.size + 1)), x.w.cell? ⟨w.heap.size + 1, 3, none⟩ = some (.slice ta (PackD.tree p).length tc) := fun x => cell_arrS ((x.h.1.block _ (by omega)).trans hQ2) 3 _ rfl
      have hba : ∀ {q : Prop}, (CW (OutW w2 (w.heap.size + 1)) → q) ↔ q := CW.all hC0
      refine held_begin (OutW w2 (w.heap.size + 1)) (by kernel_rfl) hC0 ?_
      refine held_here [true, true, true, true] (by kernel_rfl) (by kernel_rfl) (fun _ _ _ _ _ h => h) hC0 ?_
      dsimp only [pick]
      repeat (go_big_quiet_step (fail))
      refine wpQuiet_nil ?_
      clear hba gq0 gp0 gp1 gp2 gp3 hC0 o0 p0 hQ2
      have hs0 : w.heap.size + 1 + 1 < w2.drew.heap.size := unhid HS2
      have hbd : Below w.heap.size w w2.drew := (unhid HB).trans ⟨rfl, rfl, rfl, Nat.le_refl _, fun _ _ => rfl⟩
      have HBD := hid hbd
      have HSW := hid hs0
      generalize w2.drew = w3 at *
      have hsL : L.length ≤ 1048576 := by have := (unhid HS).1; omega
      have hPd : NRow packC 34 w3 N (.slice a1 L.length c1) L := (unhid HP).frame (fun k hk => hbd.block k ((unhid HP).base k hk).2)
      refine held_call 4 159 23 (enters_of Tryz.func159 (by kernel_rfl) rfl) #[.slice a1 L.length c1, .agg #[.string (PackD.name p), .string (PackD.version p), .slice na (PackD.needs p).length nc, .slice ta (PackD.tree p).length tc]] (by kernel_rfl) (by kernel_rfl) rfl rfl rfl rfl rfl ?_
      refine (l9With_any L _ p _ w3 N (Nat.le_trans hN hbd.size) hsL hps hPd (packC.below (unhid HCP) hbd)).mono ?_
      rintro x w4 ⟨v4, L4, rfl, hN4, hD4, hW4, hb⟩
      have hC4 := (unhid HC0).next hs0 hb
      have hs4 := Nat.lt_of_lt_of_le hs0 hb.size
      have hb4 := hbd.trans (hb.mono hbd.size)
      have hat : rowAt packC w4 v4 (withP p ps) := by
        obtain ⟨F, h1, _⟩ := hN4.own
        have := h1.toAt
        rwa [hD4, unhid HPS] at this
      refine ⟨_, rfl, hC4, ?_⟩
      simp only [Act.put, List.setIfInBounds_toArray, List.set_cons_zero, List.set_cons_succ]
      refine held_call 5 145 24 (enters_of Tryz.func145 (by kernel_rfl) rfl) #[.agg #[.slice a1 L.length c1], v4] (by kernel_rfl) (by kernel_rfl) rfl rfl rfl rfl rfl ?_
      refine (l9Try_any (withP p ps) a1 L.length c1 v4 w4 (with_small (unhid HS) (unhid HLEN) hps) hat).mono ?_
      rintro x w5 ⟨r5, rfl, hat5, hb5⟩
      obtain ⟨ra, rn, rc, hr5⟩ : ∃ ra rn rc, r5 = .slice ra rn rc := by
        rcases hat5 with ⟨_, rfl⟩ | ⟨_, rfl⟩
        · obtain ⟨x, y, rfl⟩ := nrow_slice hN4
          exact ⟨_, _, _, rfl⟩
        · exact ⟨_, _, _, rfl⟩
      have hfin : ∃ L', itD L' = tryP ps (withP p ps) ∧ ∀ z, NRow packC 34 (w5.setCell ⟨w.heap.size + 1 + 1, 0, none⟩ z) N r5 L' := by
        rcases hat5 with ⟨h0, rfl⟩ | ⟨h0, rfl⟩
        · refine ⟨L4, by rw [hD4, unhid HPS]; unfold tryP; rw [if_pos h0], fun z => hN4.frame (fun k hk => ?_)⟩
          have hl := (hN4.base k hk).2
          rw [Below.heap_setCell _ _ _ _ ?_, hb5.block k hl]
          dsimp only
          have hw3s : w.heap.size + 1 + 1 < w3.heap.size := unhid HSW
          rcases hW4 k hk with hk | hk
          · have h2 := (unhid HP).items.lt k hk
            omega
          · omega
        · refine ⟨L, by rw [unhid HPS]; unfold tryP; rw [if_neg h0], fun z => (unhid HP).frame (fun k hk => ?_)⟩
          have hl := ((unhid HP).base k hk).2
          rw [Below.heap_setCell _ _ _ _ (by dsimp only; omega), hb5.block k (Nat.lt_of_lt_of_le hl hb4.size), hb4.block k hl]
      subst hr5
      have HFIN := hid hfin
      clear hfin
      have hC5 := hC4.next hs4 hb5
      have hB5 := hb4.trans (hb5.mono hb4.size)
      refine ⟨_, rfl, hC5, ?_⟩
      simp only [Act.put, List.setIfInBounds_toArray, List.set_cons_zero, List.set_cons_succ]
      have HB5 := hid hB5
      clear hs0 hbd HBD HC0 hat hb hC4 hs4 hb4 hat5 hb5 hB5 HB hPd hN4 hW4 hD4 HSW
      have hba : ∀ {q : Prop}, (CW (OutW w2 (w.heap.size + 1)) → q) ↔ q := CW.all hC5
      refine held_here [false, false, false, false, false, false, true, true] (by kernel_rfl) (by kernel_rfl) (fun _ _ _ _ _ h => h) hC5 ?_
      dsimp only [pick]
      repeat (go_big_quiet_step (fail))
      refine wpQuiet_nil ?_
      obtain ⟨z, hz⟩ := hC5.2
      obtain ⟨o1, p1⟩ := cell_fz hz 0 _ rfl
      have hC6 := hC5.store (.slice ra rn rc)
      clear hba
      refine held_op 8 (by kernel_rfl) (by kernel_rfl) rfl (fun K hK => ?_)
      go_simp
      refine hK.out _ _ hC6 ?_
      clear hK K
      have hba : ∀ {q : Prop}, (CW (OutW w2 (w.heap.size + 1)) → q) ↔ q := CW.all hC6
      refine held_here [false, false, false, false, false, false, false, false, false, true] (by kernel_rfl) (by kernel_rfl) (fun _ _ _ _ _ h => h) hC6 ?_
      dsimp only [pick]
      repeat (go_big_quiet_step (fail))
      refine wpQuiet_nil ?_
      clear hba
      refine held_done (by kernel_rfl) ?_
      go_wp2_with fail
      obtain ⟨L', h1, h2⟩ := unhid HFIN
      exact bodyPost_ret (v := .tuple #[.agg #[.slice ra rn rc], .int .i64 (rootCode (withP p ps))]) (by simp [results, Tryz.results97, go_sem, World.cell?_setCell_same', o1]) rfl ⟨_, L', by rw [← (unhid HE).1], h2 _, by rw [h1]; exact (unhid HE).2, (unhid HB5).setCell (by dsimp only; omega) _⟩
    · have hm : hasBN (PackD.name p) ps = true := (hasB_iffN _ ps).2 (List.mem_of_getElem? hyes)
      have HE := hid (show 2 = inCode p ps ∧ ps = inP p ps from ⟨by unfold inCode; rw [if_pos hok, if_pos hm], by unfold inP; rw [if_pos hok, if_pos hm]⟩)
      have HB := hid hB2
      clear hyes hm hP2 hQ2 hR2 hB2 hok
      go_wp2_with fail
      refine bodyPost_ret (v := .tuple #[.agg #[.slice a1 L.length c1], .int .i64 2]) (by simp [results, Tryz.results97, go_sem, World.cell?_setCell_same', o1]) rfl ⟨_, L, by rw [← (unhid HE).1], ?_, by rw [unhid HPS]; exact (unhid HE).2, (unhid HB).setCell (by dsimp only; omega) _⟩
      refine (unhid HP).frame (fun k hk => ?_)
      have h1 := ((unhid HP).base k hk).2
      rw [Below.heap_setCell _ _ _ _ (by dsimp only; omega), (unhid HB).block k h1]
end Go.Proofs.YtoihhlkidlapmaaGreat

namespace Go.Proofs.YtoihhlkidlapmaaGreat
open Go.RowKit Go.Shelf
end Go.Proofs.YtoihhlkidlapmaaGreat

namespace Go.Proofs.YtoihhlkidlapmaaGreat
open Go.RowKit Go.Shelf
end Go.Proofs.YtoihhlkidlapmaaGreat

namespace Go.Proofs.YtoihhlkidlapmaaGreat
open Go.RowKit Go.Shelf
end Go.Proofs.YtoihhlkidlapmaaGreat

namespace Go.Proofs.YtoihhlkidlapmaaGreat
open Go.RowKit Go.Shelf
end Go.Proofs.YtoihhlkidlapmaaGreat

namespace Go.Proofs.YtoihhlkidlapmaaGreat
open Go.RowKit Go.Shelf
end Go.Proofs.YtoihhlkidlapmaaGreat

namespace Go.Proofs.YtoihhlkidlapmaaGreat
open Go.RowKit Go.Shelf
end Go.Proofs.YtoihhlkidlapmaaGreat

namespace Go.Proofs.YtoihhlkidlapmaaGreat
open Go.RowKit Go.Shelf
end Go.Proofs.YtoihhlkidlapmaaGreat

namespace Go.Proofs.YtoihhlkidlapmaaGreat
open Go.RowKit Go.Shelf
def AscP (ps : List packC.D) : Prop := List.Pairwise (α := packC.D) (fun p q => ltS (PackD.name p) (PackD.name q) = true) ps
theorem ltS_irr (x : ByteArray) : ltS x x = false := lt_irr _
theorem ltS_ne {x y : ByteArray} (h : ltS x y = true) : x ≠ y := fun e => by rw [e, ltS_irr] at h; cases h
theorem ascP_iff (ps : List packC.D) : AscP ps ↔ Asc (namesP ps) := by
  unfold AscP
  rw [List.pairwise_iff_getElem]
  constructor
  · intro h i j x y hij hx hy
    obtain ⟨p, hp, rfl⟩ := namesP_some hx
    obtain ⟨q, hq, rfl⟩ := namesP_some hy
    obtain ⟨h1, e1⟩ := List.getElem?_eq_some_iff.1 hp
    obtain ⟨h2, e2⟩ := List.getElem?_eq_some_iff.1 hq
    have := h i j h1 h2 hij
    rwa [e1, e2] at this
  · intro h i j h1 h2 hij
    exact h i j _ _ hij (namesP_get (List.getElem?_eq_getElem h1)) (namesP_get (List.getElem?_eq_getElem h2))
theorem form_iff (ps : List packC.D) : formB ps = true ↔ (∀ p ∈ ps, pkOk p = true) ∧ AscP ps := by
  constructor
  · intro h
    refine ⟨fun p hp => ?_, (ascP_iff ps).2 (form_asc h)⟩
    obtain ⟨i, hi⟩ := List.getElem?_of_mem hp
    exact form_ok h hi
  · rintro ⟨h1, h2⟩
    unfold formB
    rw [List.all_eq_true]
    intro i hi
    rw [List.mem_range] at hi
    have hi' := List.getElem?_eq_getElem hi
    match i with
    | 0 => rw [okAt_0 hi']; exact h1 _ (List.getElem_mem hi)
    | i + 1 =>
      have hq := List.getElem?_eq_getElem (show i < ps.length from Nat.lt_of_succ_lt hi)
      rw [okAt_s hi' hq, h1 _ (List.getElem_mem hi), Bool.true_and]
      exact List.pairwise_iff_getElem.1 h2 i (i + 1) (Nat.lt_of_succ_lt hi) hi (Nat.lt_succ_self i)
theorem name_mem {ps : List packC.D} {q : ByteArray} : q ∈ namesP ps ↔ ∃ p ∈ ps, PackD.name p = q := by
  unfold namesP
  rw [List.mem_map]
theorem without_mem (q : ByteArray) (ps : List packC.D) (x : packC.D) : x ∈ withoutP q ps ↔ x ∈ ps ∧ PackD.name x ≠ q := by
  unfold withoutP
  rw [List.mem_filter]
  simp
def Mates (ps : List packC.D) : Prop := List.Pairwise (α := packC.D) (fun p q => Compat (treeOfP p) (treeOfP q)) ps
theorem compat_symm {L xs : List Ent} (h : Compat L xs) : Compat xs L := fun x hx e he hp => by
  obtain ⟨a, b⟩ := h e he x hx hp.symm
  subst a
  exact ⟨rfl, b⟩
theorem up_fits {xs ys : List Ent} (hx : Up xs) (hy : Up ys) (h : ∀ x ∈ xs, x ∈ ys) : xs.length ≤ ys.length := by
  classical
  have : xs = ys.filter fun y => decide (y ∈ xs) := up_ext hx (List.Pairwise.filter _ hy) (fun x => by
    rw [List.mem_filter]
    simp only [decide_eq_true_eq]
    exact ⟨fun hm => ⟨h x hm, hm⟩, fun hm => hm.2⟩)
  rw [this]
  exact List.length_filter_le _ _
def Fits (U acc : List Ent) (ps : List packC.D) : Prop := Up U ∧ U.length ≤ 16 ∧ (∀ x ∈ acc, x ∈ U) ∧ ∀ p ∈ ps, ∀ x ∈ treeOfP p, x ∈ U
theorem join_tree {acc T : List Ent} (ha : treeB acc = true) (hT : treeB T = true) (hc : Compat acc T) (hl : (joinTo acc T).length ≤ 16) : treeB (joinTo acc T) = true := by
  obtain ⟨a1, a2, a3, a4⟩ := (tree_iff acc).1 ha
  obtain ⟨t1, t2, t3, t4⟩ := (tree_iff T).1 hT
  have hm := ((join_iff T acc a2 t2 a1 t1).2 hc).1
  have hdir : ∀ q, DirIn acc q ∨ DirIn T q → DirIn (joinTo acc T) q := fun q h => by
    rcases h with (h | ⟨x, hx, h2⟩) | (h | ⟨x, hx, h2⟩)
    · exact .inl h
    · exact .inr ⟨x, (hm x).2 (.inl hx), h2⟩
    · exact .inl h
    · exact .inr ⟨x, (hm x).2 (.inr hx), h2⟩
  refine (tree_iff _).2 ⟨fun x hx => ?_, joinTo_up a2 T, fun x hx => ?_, hl⟩
  · rcases (hm x).1 hx with h | h
    · exact a1 x h
    · exact t1 x h
  · rcases (hm x).1 hx with h | h
    · exact hdir _ (.inl (a3 x h))
    · exact hdir _ (.inr (t3 x h))
theorem joinO_iff : ∀ (ps : List packC.D) (acc : List Ent), treeB acc = true → (∀ p ∈ ps, treeB (treeOfP p) = true) →
    ((∃ t, joinO acc ps = some t) ↔ (∀ p ∈ ps, Compat acc (treeOfP p)) ∧ Mates ps ∧ ∃ U, Fits U acc ps) ∧ (∀ t, joinO acc ps = some t → treeB t = true ∧ ∀ x, x ∈ t ↔ x ∈ acc ∨ ∃ p ∈ ps, x ∈ treeOfP p)
  | [], acc, ha, _ => by
    refine ⟨⟨fun _ => ⟨fun p hp => (by cases hp), List.Pairwise.nil, acc, tree_up ha, tree_16 ha, fun x hx => hx, fun p hp => (by cases hp)⟩, fun _ => ⟨acc, rfl⟩⟩, fun t ht => ?_⟩
    cases ht
    exact ⟨ha, fun x => by simp⟩
  | p :: ps, acc, ha, hps => by
    have hT := hps p (by simp)
    have ua := tree_up ha
    have uT := tree_up hT
    obtain ⟨j1, j2⟩ := join_iff (treeOfP p) acc ua uT (tree_all ha) (tree_all hT)
    have hstep : joinO acc (p :: ps) = if okJ acc (treeOfP p) && treeB (joinTo acc (treeOfP p)) then joinO (joinTo acc (treeOfP p)) ps else none := rfl
    refine ⟨⟨?_, ?_⟩, ?_⟩
    · rintro ⟨t, ht⟩
      rw [hstep] at ht
      split at ht
      case isFalse => cases ht
      case isTrue hc =>
        rw [Bool.and_eq_true] at hc
        have hcp := j1.1 hc.1
        obtain ⟨m1, -⟩ := j2 hcp
        obtain ⟨i1, i2⟩ := joinO_iff ps (joinTo acc (treeOfP p)) hc.2 (fun q hq => hps q (by simp [hq]))
        obtain ⟨c1, c2, U, u1, u2, u3, u4⟩ := i1.1 ⟨t, ht⟩
        refine ⟨fun q hq => ?_, List.pairwise_cons.2 ⟨fun q hq x hx e he hp => c1 q hq x hx e ((m1 e).2 (.inr he)) hp, c2⟩, U, u1, u2, fun x hx => u3 x ((m1 x).2 (.inl hx)), fun q hq x hx => ?_⟩
        · rcases List.mem_cons.1 hq with rfl | hq
          · exact hcp
          · exact fun x hx e he hp => c1 q hq x hx e ((m1 e).2 (.inl he)) hp
        · rcases List.mem_cons.1 hq with rfl | hq
          · exact u3 x ((m1 x).2 (.inr hx))
          · exact u4 q hq x hx
    · rintro ⟨c1, c2, U, u1, u2, u3, u4⟩
      have hcp := c1 p (by simp)
      obtain ⟨m1, -⟩ := j2 hcp
      have hl : (joinTo acc (treeOfP p)).length ≤ 16 := Nat.le_trans (up_fits (joinTo_up ua _) u1 (fun x hx => by
        rcases (m1 x).1 hx with h | h
        · exact u3 x h
        · exact u4 p (by simp) x h)) u2
      have ht := join_tree ha hT hcp hl
      have c2' := List.pairwise_cons.1 c2
      obtain ⟨i1, -⟩ := joinO_iff ps (joinTo acc (treeOfP p)) ht (fun q hq => hps q (by simp [hq]))
      rw [hstep, if_pos (by rw [j1.2 hcp, ht]; rfl)]
      refine i1.2 ⟨fun q hq x hx e he hp => ?_, c2'.2, U, u1, u2, fun x hx => ?_, fun q hq => u4 q (by simp [hq])⟩
      · rcases (m1 e).1 he with h | h
        · exact c1 q (by simp [hq]) x hx e h hp
        · exact c2'.1 q hq x hx e h hp
      · rcases (m1 x).1 hx with h | h
        · exact u3 x h
        · exact u4 p (by simp) x h
    · intro t ht
      rw [hstep] at ht
      split at ht
      case isFalse => cases ht
      case isTrue hc =>
        rw [Bool.and_eq_true] at hc
        obtain ⟨m1, -⟩ := j2 (j1.1 hc.1)
        obtain ⟨-, i2⟩ := joinO_iff ps (joinTo acc (treeOfP p)) hc.2 (fun q hq => hps q (by simp [hq]))
        obtain ⟨k1, k2⟩ := i2 t ht
        refine ⟨k1, fun x => ?_⟩
        rw [k2, m1]
        constructor
        · rintro ((h | h) | ⟨q, hq, h⟩)
          · exact .inl h
          · exact .inr ⟨p, by simp, h⟩
          · exact .inr ⟨q, by simp [hq], h⟩
        · rintro (h | ⟨q, hq, h⟩)
          · exact .inl (.inl h)
          · rcases List.mem_cons.1 hq with rfl | hq
            · exact .inl (.inr h)
            · exact .inr ⟨q, hq, h⟩
theorem joinS_iff {ps : List packC.D} (h : ∀ p ∈ ps, pkOk p = true) : joinS ps = true ↔ Mates ps ∧ ∃ U, Fits U [] ps := by
  obtain ⟨i1, -⟩ := joinO_iff ps [] treeB_nil (fun p hp => pk_tree (h p hp))
  unfold joinS
  rw [Option.isSome_iff_exists, i1]
  exact ⟨fun ⟨_, h2, h3⟩ => ⟨h2, h3⟩, fun ⟨h2, h3⟩ => ⟨fun p _ x _ e he => (by cases he), h2, h3⟩⟩
theorem joinG_mem {ps : List packC.D} (h : ∀ p ∈ ps, pkOk p = true) (hj : joinS ps = true) (x : Ent) : x ∈ joinG ps ↔ ∃ p ∈ ps, x ∈ treeOfP p := by
  obtain ⟨-, i2⟩ := joinO_iff ps [] treeB_nil (fun p hp => pk_tree (h p hp))
  unfold joinS at hj
  obtain ⟨t, ht⟩ := Option.isSome_iff_exists.1 hj
  have : joinG ps = t := by unfold joinG; rw [ht]; rfl
  rw [this, (i2 t ht).2]
  constructor
  · rintro (h | h)
    · cases h
    · exact h
  · exact .inr
theorem code_iff (ps : List packC.D) : rootCode ps = 0 ↔ (∀ p ∈ ps, pkOk p = true) ∧ AscP ps ∧ ps.length ≤ 5 ∧ needsB ps = true ∧ Mates ps ∧ ∃ U, Fits U [] ps := by
  constructor
  · intro h
    obtain ⟨h1, h2, h3, h4⟩ := code_0 h
    obtain ⟨f1, f2⟩ := (form_iff ps).1 h1
    exact ⟨f1, f2, h2, h3, (joinS_iff f1).1 h4⟩
  · rintro ⟨f1, f2, h2, h3, h4⟩
    exact code_fine ((form_iff ps).2 ⟨f1, f2⟩) h2 h3 ((joinS_iff f1).2 h4)
end Go.Proofs.YtoihhlkidlapmaaGreat

namespace Go.Proofs.YtoihhlkidlapmaaGreat
open Go.RowKit
end Go.Proofs.YtoihhlkidlapmaaGreat
