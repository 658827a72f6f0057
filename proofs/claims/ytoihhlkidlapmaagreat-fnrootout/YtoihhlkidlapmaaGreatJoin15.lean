/- Texts of this proof, one behind the other; each says at its head what it shows. -/
import Derived.Test.YtoihhlkidlapmaaGreatJoin14
import Derived.Test.YtoihhlkidlapmaaGreatJoin5
import Derived.Test.YtoihhlkidlapmaaGreatJoin9
import Derived.Test.YtoihhlkidlapmaaGreatJoin12
import Derived.Test.YtoihhlkidlapmaaGreatJoin8
import Derived.Test.YtoihhlkidlapmaaGreatJoin11
import Derived.Test.YtoihhlkidlapmaaGreatJoin1
namespace Go.Proofs.YtoihhlkidlapmaaGreat
open Go.RowKit Go.Shelf
theorem DK.lower {W : World} {N M : Nat} {nv tv : Value} {nL : List (It needC)} {es : List Ent} (h : DK W M nv nL tv es) (hN : N ≤ M) : DK W N nv nL tv es := ⟨NRow.lower h.needs hN, NRow.lower h.tree hN, h.leaf, h.apart⟩
theorem DK.grown {W W' : World} {N b : Nat} {nv tv : Value} {nL : List (It needC)} {es : List Ent} (h : DK W N nv nL tv es) (hg : W.grownBy W' (some b)) (hb : b < N) : DK W' N nv nL tv es := h.frame (fun k h1 h2 => hg.block k h2 (by intro e; injection e; omega))
theorem slice_of_needs {W : World} {N : Nat} {v : Value} {L : List (It needC)} (h : NRow needC 36 W N v L) : ∃ a n c, v = .slice a n c := by obtain ⟨a, c, e⟩ := nrow_slice h; exact ⟨_, _, _, e⟩
theorem slice_of_tree {W : World} {N : Nat} {v : Value} {es : List Ent} (h : NRow entryC 57 W N v (entIts es)) : ∃ a c, v = .slice a es.length c := by
  obtain ⟨a, c, e⟩ := nrow_slice h
  rw [entIts_len] at e
  exact ⟨a, c, e⟩
theorem DK.set {W : World} {N g j : Nat} {u nv tv : Value} {nL : List (It needC)} {es : List Ent} (h : DK W N nv nL tv es) (hg : ∀ k, (nv.ownBlock = some k ∨ tv.ownBlock = some k) → k ≠ g) : DK (W.setCell ⟨g, j, none⟩ u) N nv nL tv es :=
  ⟨h.needs.frame (fun k hk => Below.heap_setCell _ _ _ _ (by rcases hk with hk | hk; exact hg k (.inl hk); rw [h.leaf] at hk; cases hk)), h.tree.frame (fun k hk => Below.heap_setCell _ _ _ _ (by rcases hk with hk | hk; exact hg k (.inr hk); rw [entIts_F] at hk; cases hk)), h.leaf, h.apart⟩
theorem leaf_app {W : World} {N : Nat} {A B : List (It needC)} (ha : Items needC W N A) (hb : Items needC W N B) (h1 : itF A = []) (h2 : itF B = []) : Items needC W N (A ++ B) :=
  ⟨fun t ht => by
    rcases List.mem_append.1 ht with ht | ht
    · exact ha.each t ht
    · exact hb.each t ht, by rw [itF_app, h1, h2]; exact List.nodup_nil, fun k hk => by rw [itF_app, h1, h2] at hk; cases hk⟩
set_option maxRecDepth 100000 in
set_option maxHeartbeats 16000000 in
theorem l11AnyPack_any (w : World) (b : Nat) (a : Option Addr) (len cap p : Nat) (h : Rd w b a len cap p) (hp : p ≤ 400000) :
    Calls Tryz.prog 95 #[.pointer (some ⟨b, 0, none⟩)] w fun x w' => ∃ name ver nv nL tv es, x = .returned (.agg #[.string name, .string ver, nv, tv]) ∧ drawn name ∧ DQ w b a len cap (p + 200) w' ver nv nL tv es := by
  have hbl := h.lt
  have H := hid (h.alloc (.cells #[.string ⟨#[]⟩, .string ⟨#[]⟩, .slice none 0 0, .slice none 0 0] 34))
  have hR0 := World.alloc_heap_new w (.cells #[.string ⟨#[]⟩, .string ⟨#[]⟩, .slice none 0 0, .slice none 0 0] 34)
  have hG0 : w.grownBy (w.alloc (.cells #[.string ⟨#[]⟩, .string ⟨#[]⟩, .slice none 0 0, .slice none 0 0] 34)) (some b) := World.grownBy_alloc w _ (some b)
  have hS0 : (w.alloc (.cells #[.string ⟨#[]⟩, .string ⟨#[]⟩, .slice none 0 0, .slice none 0 0] 34)).heap.size = w.heap.size + 1 := by simp
  clear h
  go_enter Tryz.func95, Tryz.ntmps95
  go_wp2_with fail
  generalize w.alloc (.cells #[.string ⟨#[]⟩, .string ⟨#[]⟩, .slice none 0 0, .slice none 0 0] 34) = w0 at H hR0 hG0 hS0 ⊢
  refine (of_any drawn _ b a len cap p ((unhid H).alloc _) (by omega) (w.heap.size + 1) 4 4 (by omega) (by omega) (by omega) ?h5).mono ?_
  case h5 => exact fun k hk => row_drawn _ _ _ _ hS0.symm (by kernel_rfl) k hk
  rintro e w1 ⟨name, hname, rfl, hR1, hG⟩
  have hG01 := grown_trans (World.grownBy_alloc w0 _ (some b)) hG
  have hRb1 := (hG01.block _ (by omega) (by intro e; injection e; omega)).trans hR0
  have hS1 : w.heap.size + 1 ≤ w1.heap.size := by have := hG01.size; omega
  have hG1 := grown_trans hG0 hG01
  clear hR0 hG0 hS0 hG hG01 H
  go_wp2_with fail
  refine (l11Pack_any w1 b a len cap (p + 1) name hR1 (by omega)).mono ?_
  rintro x w2 ⟨ver, nv, nL, tv, ts, rfl, hQ, hL1⟩
  obtain ⟨na, nn, nc, rfl⟩ := slice_of_needs hQ.k.needs
  obtain ⟨ta, tc, rfl⟩ := slice_of_tree hQ.k.tree
  obtain ⟨p2, hp2, hR2⟩ := hQ.rd
  have hRb2 := (hQ.grown.block _ (by omega) (by intro e; injection e; omega)).trans hRb1
  have hS2 := Nat.le_trans hS1 hQ.grown.size
  have hG2 := grown_trans hG1 hQ.grown
  have hK2 : DK w2 (w.heap.size + 1) (.slice na nn nc) nL (.slice ta ts.length tc) ts := hQ.k.lower (by omega)
  have HQ := hid (And.intro hQ.ver (And.intro hQ.nice (And.intro hQ.few (And.intro hQ.sn hQ.ln))))
  clear hQ hRb1 hS1 hG1 hR1
  have hP2 := World.alloc_heap_new w2 (.cells #[.string name, .string ver, .slice na nn nc, .slice ta ts.length tc] 34)
  have hG3 : w2.grownBy (w2.alloc (.cells #[.string name, .string ver, .slice na nn nc, .slice ta ts.length tc] 34)) (some b) := World.grownBy_alloc w2 _ (some b)
  have hR3 := hR2.alloc (.cells #[.string name, .string ver, .slice na nn nc, .slice ta ts.length tc] 34)
  have hz3 : w2.heap.size + 1 ≤ (w2.alloc (.cells #[.string name, .string ver, .slice na nn nc, .slice ta ts.length tc] 34)).heap.size := by simp
  have hKB := hid (fun g (e : (Value.slice na nn nc).ownBlock = some g ∨ (Value.slice ta ts.length tc).ownBlock = some g) => (show w.heap.size + 1 ≤ g ∧ g < w2.heap.size from by rcases e with e | e; exact hK2.needs.base g (.inl e); exact hK2.tree.base g (.inl e)))
  go_wp2_with fail
  generalize w2.alloc (.cells #[.string name, .string ver, .slice na nn nc, .slice ta ts.length tc] 34) = w3 at hP2 hG3 hR3 hz3 ⊢
  refine (pick_any w3 b a len cap p2 hR3 (by omega) 14 (by omega) (by omega)).mono ?_
  rintro e w4 ⟨m, hm, rfl, hR4, hG4⟩
  have hG24 := grown_trans hG3 hG4
  have hP4 := (hG4.block w2.heap.size (by omega) (by intro e; injection e; omega)).trans hP2
  have hRb4 := (hG24.block _ (by omega) (by intro e; injection e; omega)).trans hRb2
  have hz4 : w2.heap.size + 1 ≤ w4.heap.size := Nat.le_trans hz3 hG4.size
  have hG := grown_trans hG2 hG24
  have hK4 := hK2.grown hG24 (by omega)
  clear hP2 hG3 hR3 hz3 hG4 hG24 hG2 hRb2 hR2 hK2
  have hne : ¬ w2.heap.size = w.heap.size := by omega
  have hne2 : ¬ w.heap.size = w2.heap.size := by omega
  have HN := hid hname
  by_cases h0 : m = 0
  · subst h0
    go_wp2_with fail
    refine (of_any drawn _ b a len cap (p2 + 1) (hR4.alloc _) (by omega) w4.heap.size 2 2 (by have := hR4.lt; omega) (by omega) (by omega) ?h6).mono ?_
    case h6 => exact fun k hk => row_drawn _ _ _ _ rfl (by kernel_rfl) k hk
    rintro e w5 ⟨name2, hn2, rfl, hR5, hG5⟩
    have hG45 := grown_trans (World.grownBy_alloc w4 _ (some b)) hG5
    have HN := hid hn2
    have hP5 := (hG45.block w2.heap.size (by omega) (by intro e; injection e; omega)).trans hP4
    have hRb5 := (hG45.block w.heap.size (by omega) (by intro e; injection e; omega)).trans hRb4
    have hK5 := hK4.grown hG45 (by omega)
    have hGw5 := grown_trans hG hG45
    have hz5 := Nat.le_trans hz4 hG45.size
    have hPB := heap_setCell_same w5 w2.heap.size 0 _ _ (.string name2) hP5
    have hRbB := (Below.heap_setCell w5 ⟨w2.heap.size, 0, none⟩ (.string name2) w.heap.size (by dsimp only; omega)).trans hRb5
    have hBw : Below w2.heap.size w5 (w5.setCell ⟨w2.heap.size, 0, none⟩ (.string name2)) := (Below.refl _ w5).setCell (p := ⟨w2.heap.size, 0, none⟩) (Nat.le_refl _) _
    have HF := hid (dq_end (q := p + 200) (.string name2) (.string ver) (.slice na nn nc) (.slice ta ts.length tc) hbl (unhid HQ).1 (hK5.set (fun k hk => by have := (unhid hKB k hk).2; omega)) (unhid HQ).2.1 (unhid HQ).2.2.1 (unhid HQ).2.2.2.1 (unhid HQ).2.2.2.2 (Rd.low hR5 hBw (by omega)) (by omega) (grown_low hGw5 (hBw.mono (by omega))))
    obtain ⟨d0, g0⟩ := cell_fz hP5 0 _ rfl
    obtain ⟨c0, f0⟩ := cell_fz hPB 0 _ rfl
    obtain ⟨o0, r0⟩ := cell_fz hRbB 0 _ rfl
    obtain ⟨c1, f1⟩ := cell_fz hPB 1 _ rfl
    obtain ⟨o1, r1⟩ := cell_fz hRbB 1 _ rfl
    obtain ⟨c2, f2⟩ := cell_fz hPB 2 _ rfl
    obtain ⟨o2, r2⟩ := cell_fz hRbB 2 _ rfl
    obtain ⟨c3, f3⟩ := cell_fz hPB 3 _ rfl
    obtain ⟨o3, r3⟩ := cell_fz hRbB 3 _ rfl
    clear hPB hRbB hP5 hRb5 hK5 hGw5 hBw hP4 hRb4 hK4 hG hG45 hR4 hR5
    go_wp2_with fail
    exact bodyPost_ret (v := .agg #[.string name2, .string ver, .slice na nn nc, .slice ta ts.length tc]) (by simp [results, Tryz.results95, go_sem, World.cell?_setCell_same', o0, o1, o2, o3]) rfl ⟨name2, ver, _, _, _, ts, rfl, unhid HN, unhid HF⟩
  · have e0 : ((m : Int) == 0) = false := by rw [beq_eq_false_iff_ne]; omega
    have e0i : ¬ ((m : Int) = 0) := by omega
    by_cases h1 : m = 1
    · subst h1
      go_wp2_with fail
      refine (l11AnyVersion_any w4 b a len cap (p2 + 1) hR4 (by omega)).mono ?_
      rintro e w5 ⟨ver2, hv2, rfl, hR5, hG45⟩
      have hP5 := (hG45.block w2.heap.size (by omega) (by intro e; injection e; omega)).trans hP4
      have hRb5 := (hG45.block w.heap.size (by omega) (by intro e; injection e; omega)).trans hRb4
      have hK5 := hK4.grown hG45 (by omega)
      have hGw5 := grown_trans hG hG45
      have hz5 := Nat.le_trans hz4 hG45.size
      have hPB := heap_setCell_same w5 w2.heap.size 1 _ _ (.string ver2) hP5
      have hRbB := (Below.heap_setCell w5 ⟨w2.heap.size, 1, none⟩ (.string ver2) w.heap.size (by dsimp only; omega)).trans hRb5
      have hBw : Below w2.heap.size w5 (w5.setCell ⟨w2.heap.size, 1, none⟩ (.string ver2)) := (Below.refl _ w5).setCell (p := ⟨w2.heap.size, 1, none⟩) (Nat.le_refl _) _
      have HF := hid (dq_end (q := p + 200) (.string name) (.string ver2) (.slice na nn nc) (.slice ta ts.length tc) hbl hv2 (hK5.set (fun k hk => by have := (unhid hKB k hk).2; omega)) (unhid HQ).2.1 (unhid HQ).2.2.1 (unhid HQ).2.2.2.1 (unhid HQ).2.2.2.2 (Rd.low hR5 hBw (by omega)) (by omega) (grown_low hGw5 (hBw.mono (by omega))))
      obtain ⟨d0, g0⟩ := cell_fz hP5 1 _ rfl
      obtain ⟨c0, f0⟩ := cell_fz hPB 0 _ rfl
      obtain ⟨o0, r0⟩ := cell_fz hRbB 0 _ rfl
      obtain ⟨c1, f1⟩ := cell_fz hPB 1 _ rfl
      obtain ⟨o1, r1⟩ := cell_fz hRbB 1 _ rfl
      obtain ⟨c2, f2⟩ := cell_fz hPB 2 _ rfl
      obtain ⟨o2, r2⟩ := cell_fz hRbB 2 _ rfl
      obtain ⟨c3, f3⟩ := cell_fz hPB 3 _ rfl
      obtain ⟨o3, r3⟩ := cell_fz hRbB 3 _ rfl
      clear hPB hRbB hP5 hRb5 hK5 hGw5 hBw hP4 hRb4 hK4 hG hG45 hR4 hR5
      go_wp2_with fail
      exact bodyPost_ret (v := .agg #[.string name, .string ver2, .slice na nn nc, .slice ta ts.length tc]) (by simp [results, Tryz.results95, go_sem, World.cell?_setCell_same', o0, o1, o2, o3]) rfl ⟨name, ver2, _, _, _, ts, rfl, unhid HN, unhid HF⟩
    · have e1 : ((m : Int) == 1) = false := by rw [beq_eq_false_iff_ne]; omega
      have e1i : ¬ ((m : Int) = 1) := by omega
      by_cases h2 : m = 2
      · subst h2
        have hC0 : (fun w' : World => w'.heap[w2.heap.size]? = some (.cells #[.string name, .string ver, .slice na nn nc, .slice ta ts.length tc] 34 (0, 0))) w4.drew := hP4
        have gp2 : ∀ x : CW (fun w' : World => w'.heap[w2.heap.size]? = some (.cells #[.string name, .string ver, .slice na nn nc, .slice ta ts.length tc] 34 (0, 0))), x.w.cell? ⟨w2.heap.size, 2, none⟩ = some (.slice na nn nc) := fun x => cell_arrS x.h 2 _ rfl
        have hba : ∀ {q : Prop}, (CW (fun w' : World => w'.heap[w2.heap.size]? = some (.cells #[.string name, .string ver, .slice na nn nc, .slice ta ts.length tc] 34 (0, 0))) → q) ↔ q := CW.all hC0
        go_wp2_with fail
        refine heldE_begin 9 (fun w' : World => w'.heap[w2.heap.size]? = some (.cells #[.string name, .string ver, .slice na nn nc, .slice ta ts.length tc] 34 (0, 0))) (by kernel_rfl) ?_
        refine heldE_here [true, true, true, false, true] (by kernel_rfl) (by kernel_rfl) (fun _ _ _ _ _ h => h) hC0 ?_
        dsimp only [pick]
        repeat (go_big_quiet_step (fail))
        refine wpQuiet_nil ?_
        have hR5 := hR4.of_below (drew_belowS (B := w4.heap.size) w4)
        have hK5 : DK w4.drew (w.heap.size + 1) (.slice na nn nc) nL (.slice ta ts.length tc) ts := hK4.frame (fun k _ _ => rfl)
        have hG5 : w.grownBy w4.drew (some b) := grown_low hG (drew_belowS _)
        have hRb5 : w4.drew.heap[w.heap.size]? = some (.cells #[.string ⟨#[]⟩, .string ⟨#[]⟩, .slice none 0 0, .slice none 0 0] 34 (0, 0)) := hRb4
        have hz5 : w2.heap.size + 1 ≤ w4.drew.heap.size := hz4
        clear hba gp2 hR4 hK4 hG hRb4 hz4 hP4
        generalize w4.drew = w5 at *
        refine heldE_op 3 (by kernel_rfl) (by kernel_rfl) rfl (fun K hK => ?_)
        refine call_op 156 27 (enters_of Tryz.func156 (by kernel_rfl) rfl) #[.pointer (some ⟨b, 0, none⟩)] rfl rfl rfl rfl ?_
        refine (l11AnyNeed_any w5 b a len cap _ hR5 (by omega)).mono ?_
        rintro e w6 ⟨nx, nv1, nk, hnx, hnv, rfl, ⟨p6, hp6, hR6⟩, hG56⟩
        have hP6 := (hG56.block w2.heap.size (by omega) (by intro e; injection e; omega)).trans hC0
        have hRb6 := (hG56.block w.heap.size (by omega) (by intro e; injection e; omega)).trans hRb5
        have hK6 := hK5.grown hG56 (by omega)
        have hG6 := grown_trans hG5 hG56
        have hz6 := Nat.le_trans hz5 hG56.size
        refine ⟨_, rfl, hK.out _ _ hP6 ?_⟩
        simp only [Act.put, List.setIfInBounds_toArray, List.set_cons_zero, List.set_cons_succ]
        clear hK K hC0 hR5 hK5 hG5 hRb5 hz5 hG56
        refine heldE_op 5 (by kernel_rfl) (by kernel_rfl) rfl (fun K hK => ?_)
        refine call_op 157 29 (enters_of Tryz.func157 (by kernel_rfl) rfl) #[.pointer (some ⟨b, 0, none⟩)] rfl rfl rfl rfl ?_
        refine (l11Need_any w6 b a len cap _ hR6 (by omega)).mono ?_
        rintro e w7 ⟨mx, mv1, mk, hmx, hmv, rfl, ⟨p7, hp7, hR7⟩, hG67⟩
        have hP7 := (hG67.block w2.heap.size (by omega) (by intro e; injection e; omega)).trans hP6
        have hRb7 := (hG67.block w.heap.size (by omega) (by intro e; injection e; omega)).trans hRb6
        have hK7 := hK6.grown hG67 (by omega)
        have hG7 := grown_trans hG6 hG67
        have hz7 := Nat.le_trans hz6 hG67.size
        refine ⟨_, rfl, hK.out _ _ hP7 ?_⟩
        simp only [Act.put, List.setIfInBounds_toArray, List.set_cons_zero, List.set_cons_succ]
        clear hK K hP6 hR6 hK6 hG6 hRb6 hz6 hG67
        refine heldE_op 6 (by kernel_rfl) (by kernel_rfl) rfl (fun K hK => ?_)
        go_simp
        have hN8 := World.alloc_heap_new w7 (.cells #[.string nx, .int .i64 nk, .string nv1, .string mx, .int .i64 mk, .string mv1] 36)
        have hG78 : w7.grownBy (w7.alloc (.cells #[.string nx, .int .i64 nk, .string nv1, .string mx, .int .i64 mk, .string mv1] 36)) (some b) := World.grownBy_alloc w7 _ (some b)
        have hR8 := hR7.alloc (.cells #[.string nx, .int .i64 nk, .string nv1, .string mx, .int .i64 mk, .string mv1] 36)
        have hz8' : w7.heap.size + 1 ≤ (w7.alloc (.cells #[.string nx, .int .i64 nk, .string nv1, .string mx, .int .i64 mk, .string mv1] 36)).heap.size := by simp
        have hP8 := (hG78.block w2.heap.size (by omega) (by intro e; injection e; omega)).trans hP7
        refine hK.out _ _ hP8 ?_
        clear hK K
        generalize w7.alloc (.cells #[.string nx, .int .i64 nk, .string nv1, .string mx, .int .i64 mk, .string mv1] 36) = w8 at hN8 hG78 hR8 hz8' hP8 ⊢
        have hRb8 := (hG78.block w.heap.size (by omega) (by intro e; injection e; omega)).trans hRb7
        have hK8 := hK7.grown hG78 (by omega)
        have hG8 := grown_trans hG7 hG78
        have hz8 := Nat.le_trans hz7 hG78.size
        have hI2 : Items needC w8 (w.heap.size + 1) [(([.string nx, .int .i64 nk, .string nv1], (⟨nx, nk, nv1⟩ : NeedD), []) : It needC), (([.string mx, .int .i64 mk, .string mv1], (⟨mx, mk, mv1⟩ : NeedD), []) : It needC)] := leaf_app (A := [_]) (B := [_]) (need_items w8 _ nx nv1 nk) (need_items w8 _ mx mv1 mk) (by simp [itF]) (by simp [itF])
        have hI3 := leaf_app hK8.needs.items hI2 hK8.leaf (by simp [itF])
        have hln := hL1
        refine heldE_op 7 (by kernel_rfl) (by kernel_rfl) rfl (fun K hK => ?_)
        refine op_items etNeed oneNeed w8 31 _ _ rfl rfl rfl (w.heap.size + 1) (.slice na nn nc) nL [(([.string nx, .int .i64 nk, .string nv1], (⟨nx, nk, nv1⟩ : NeedD), []) : It needC), (([.string mx, .int .i64 mk, .string mv1], (⟨mx, mk, mv1⟩ : NeedD), []) : It needC)] w7.heap.size 0 2 hK8.needs hI3 (fun g _ hk => by simp [itF] at hk) (fun j u hj => by rw [Nat.zero_add]; exact cell_arrS hN8 _ _ (by simpa [itCells] using hj)) (by simp; omega) (by omega) rfl (by simp [Act.eval]) ?_
        intro nw wA hgr
        have hgA : w8.grownBy wA (Value.slice na nn nc).ownBlock := hgr.by_
        have hBA : Below (w.heap.size + 1) w8 wA := ⟨hgA.os, hgA.tape, hgA.output, hgA.size, fun k hk => hgA.block k (by omega) (fun e => by have := (hK8.needs.base k (.inl e.symm)).1; omega)⟩
        have hPA := (hgA.block w2.heap.size (by omega) (fun e => by have := (unhid hKB _ (.inl e.symm)).2; omega)).trans hP8
        have hRbA := (hBA.block w.heap.size (by omega)).trans hRb8
        refine hK.out _ _ hPA ?_
        simp only [Act.put, List.setIfInBounds_toArray, List.set_cons_zero, List.set_cons_succ]
        clear hK K
        have hba : ∀ {q : Prop}, (CW (fun w' : World => w'.heap[w2.heap.size]? = some (.cells #[.string name, .string ver, .slice na nn nc, .slice ta ts.length tc] 34 (0, 0))) → q) ↔ q := CW.all hPA
        refine heldE_here [false, false, false, false, false, false, false, false, true] (by kernel_rfl) (by kernel_rfl) (fun _ _ _ _ _ h => h) hPA ?_
        dsimp only [pick]
        repeat (go_big_quiet_step (fail))
        refine wpQuiet_nil ?_
        clear hba
        obtain ⟨na2, nn2, nc2, rfl⟩ : ∃ a n c, nw = .slice a n c := by obtain ⟨a, c, e⟩ := grew_slice hgr; exact ⟨_, _, _, e⟩
        have hTA : NRow entryC 57 wA (w.heap.size + 1) (.slice ta ts.length tc) (entIts ts) := hK8.tree.frame (fun k hk => hgA.block k (hK8.tree.base k hk).2 (fun e => by
          rcases hk with hk | hk
          · exact hK8.apart k e.symm hk
          · rw [entIts_F] at hk; cases hk))
        have hblk : ∀ g, (Value.slice na2 nn2 nc2).ownBlock = some g → (Value.slice na nn nc).ownBlock = some g ∨ g = w8.heap.size := fun g e => by
          rcases hgr.block with h | h
          · exact .inl (by rw [← h]; exact e)
          · rw [h] at e; injection e with e; exact .inr e.symm
        have hKA : DK wA (w.heap.size + 1) (.slice na2 nn2 nc2) (nL ++ [(([.string nx, .int .i64 nk, .string nv1], (⟨nx, nk, nv1⟩ : NeedD), []) : It needC), (([.string mx, .int .i64 mk, .string mv1], (⟨mx, mk, mv1⟩ : NeedD), []) : It needC)]) (.slice ta ts.length tc) ts := ⟨hgr.row, hTA, by rw [itF_app, hK8.leaf]; simp [itF], fun g e1 e2 => by
          rcases hblk g e1 with h | h
          · exact hK8.apart g h e2
          · have := (unhid hKB g (.inr e2)).2; omega⟩
        have hRA := Rd.low hR8 hBA (by omega)
        have hGA := grown_low hG8 (hBA.mono (by omega))
        have hzA := hgA.size
        obtain ⟨c2, f2⟩ := cell_fz hPA 2 _ rfl
        have hBw : Below w2.heap.size wA (wA.setCell ⟨w2.heap.size, 2, none⟩ (.slice na2 nn2 nc2)) := (Below.refl _ wA).setCell (p := ⟨w2.heap.size, 2, none⟩) (Nat.le_refl _) _
        have HF := hid (dq_end (q := p + 200) (.string name) (.string ver) (.slice na2 nn2 nc2) (.slice ta ts.length tc) hbl (unhid HQ).1 (hKA.set (g := w2.heap.size) (j := 2) (u := .slice na2 nn2 nc2) (fun k hk => by
          rcases hk with hk | hk
          · rcases hblk k hk with h | h
            · have := (unhid hKB k (.inl h)).2; omega
            · omega
          · have := (unhid hKB k (.inr hk)).2; omega)) (unhid HQ).2.1 (unhid HQ).2.2.1 (fun n hn => by
            rw [itD_app] at hn
            rcases List.mem_append.1 hn with hn | hn
            · exact (unhid HQ).2.2.2.1 n hn
            · rcases List.mem_cons.1 (show n ∈ [(⟨nx, nk, nv1⟩ : NeedD), (⟨mx, mk, mv1⟩ : NeedD)] from hn) with hn | hn
              · rw [hn]; exact ⟨hnx, hnv⟩
              · rw [List.mem_singleton.1 hn]; exact ⟨hmx, hmv⟩) (by simp; omega) (Rd.low hRA hBw (by omega)) (by omega) (grown_low hGA (hBw.mono (by omega))))
        have hPB := hid (heap_setCell_same wA w2.heap.size 2 _ _ (.slice na2 nn2 nc2) hPA)
        have hRbB := hid ((Below.heap_setCell wA ⟨w2.heap.size, 2, none⟩ (.slice na2 nn2 nc2) w.heap.size (by dsimp only; omega)).trans hRbA)
        refine heldE_last (by kernel_rfl) (by kernel_rfl) rfl (fun K hK => ?_)
        go_simp
        refine hK.out _ _ ?_
        clear hK K c2 f2
        refine heldE_done (by kernel_rfl) ?_
        generalize wA.setCell ⟨w2.heap.size, 2, none⟩ (.slice na2 nn2 nc2) = wB at *
        obtain ⟨c0, f0⟩ := cell_fz (unhid hPB) 0 _ rfl
        obtain ⟨c1, f1⟩ := cell_fz (unhid hPB) 1 _ rfl
        obtain ⟨c2, f2⟩ := cell_fz (unhid hPB) 2 _ rfl
        obtain ⟨c3, f3⟩ := cell_fz (unhid hPB) 3 _ rfl
        obtain ⟨o0, r0⟩ := cell_fz (unhid hRbB) 0 _ rfl
        obtain ⟨o1, r1⟩ := cell_fz (unhid hRbB) 1 _ rfl
        obtain ⟨o2, r2⟩ := cell_fz (unhid hRbB) 2 _ rfl
        obtain ⟨o3, r3⟩ := cell_fz (unhid hRbB) 3 _ rfl
        clear hPB hRbB hPA hRbA hKA hTA hblk hBA hgA hgr hRA hGA hBw hP8 hRb8 hK8 hG8 hI2 hI3 hN8 hG78 hR8 hP7 hRb7 hK7 hG7 hR7
        go_wp2_with fail
        exact bodyPost_ret (v := .agg #[.string name, .string ver, .slice na2 nn2 nc2, .slice ta ts.length tc]) (by simp [results, Tryz.results95, go_sem, World.cell?_setCell_same', o0, o1, o2, o3]) rfl ⟨name, ver, _, _, _, ts, rfl, unhid HN, unhid HF⟩
      · have e2 : ((m : Int) == 2) = false := by rw [beq_eq_false_iff_ne]; omega
        have e2i : ¬ ((m : Int) = 2) := by omega
        by_cases h3 : m = 3
        · subst h3
          go_wp2_with fail
          refine (l11AnyTree_any w4 b a len cap (p2 + 1) hR4 (by omega)).mono ?_
          rintro x w5 ⟨tv2, rfl, es2, hT⟩
          have hG45 := hT.grown
          obtain ⟨p5, hp5, hR5⟩ := hT.rd
          obtain ⟨g2, k2, rfl, ho2⟩ := hT.v
          have hT2 : NRow entryC 57 w5 w4.heap.size (.slice (some ⟨g2, 0, none⟩) es2.length k2) (entIts es2) := ents_nrow ho2
          have hTB := fun g (e : (Value.slice (some ⟨g2, 0, none⟩) es2.length k2).ownBlock = some g) => (hT2.base g (.inl e)).1
          have HT3 := hid (And.intro hT.nice hT.few)
          clear hT ho2
          have hP5 := (hG45.block w2.heap.size (by omega) (by intro e; injection e; omega)).trans hP4
          have hRb5 := (hG45.block w.heap.size (by omega) (by intro e; injection e; omega)).trans hRb4
          have hK5 := hK4.grown hG45 (by omega)
          have hGw5 := grown_trans hG hG45
          have hz5 := Nat.le_trans hz4 hG45.size
          have hPB := heap_setCell_same w5 w2.heap.size 3 _ _ (.slice (some ⟨g2, 0, none⟩) es2.length k2) hP5
          have hRbB := (Below.heap_setCell w5 ⟨w2.heap.size, 3, none⟩ (.slice (some ⟨g2, 0, none⟩) es2.length k2) w.heap.size (by dsimp only; omega)).trans hRb5
          have hBw : Below w2.heap.size w5 (w5.setCell ⟨w2.heap.size, 3, none⟩ (.slice (some ⟨g2, 0, none⟩) es2.length k2)) := (Below.refl _ w5).setCell (p := ⟨w2.heap.size, 3, none⟩) (Nat.le_refl _) _
          have HF := hid (dq_end (q := p + 200) (.string name) (.string ver) (.slice na nn nc) (.slice (some ⟨g2, 0, none⟩) es2.length k2) hbl (unhid HQ).1 ((⟨hK5.needs, NRow.lower hT2 (by omega), hK5.leaf, fun g e1 e2 => by have h1 := (unhid hKB g (.inl e1)).2; have h2 := hTB g e2; omega⟩ : DK w5 (w.heap.size + 1) (.slice na nn nc) nL (.slice (some ⟨g2, 0, none⟩) es2.length k2) es2).set (fun k hk => by rcases hk with hk | hk; have := (unhid hKB k (.inl hk)).2; omega; have := hTB k hk; omega)) (unhid HT3).1 (unhid HT3).2 (unhid HQ).2.2.2.1 (unhid HQ).2.2.2.2 (Rd.low hR5 hBw (by omega)) (by omega) (grown_low hGw5 (hBw.mono (by omega))))
          obtain ⟨d0, g0⟩ := cell_fz hP5 3 _ rfl
          obtain ⟨c0, f0⟩ := cell_fz hPB 0 _ rfl
          obtain ⟨o0, r0⟩ := cell_fz hRbB 0 _ rfl
          obtain ⟨c1, f1⟩ := cell_fz hPB 1 _ rfl
          obtain ⟨o1, r1⟩ := cell_fz hRbB 1 _ rfl
          obtain ⟨c2, f2⟩ := cell_fz hPB 2 _ rfl
          obtain ⟨o2, r2⟩ := cell_fz hRbB 2 _ rfl
          obtain ⟨c3, f3⟩ := cell_fz hPB 3 _ rfl
          obtain ⟨o3, r3⟩ := cell_fz hRbB 3 _ rfl
          clear hT2 hTB hPB hRbB hP5 hRb5 hK5 hGw5 hBw hP4 hRb4 hK4 hG hG45 hR4 hR5
          go_wp2_with fail
          exact bodyPost_ret (v := .agg #[.string name, .string ver, .slice na nn nc, .slice (some ⟨g2, 0, none⟩) es2.length k2]) (by simp [results, Tryz.results95, go_sem, World.cell?_setCell_same', o0, o1, o2, o3]) rfl ⟨name, ver, _, _, _, es2, rfl, unhid HN, unhid HF⟩
        · have e3 : ((m : Int) == 3) = false := by rw [beq_eq_false_iff_ne]; omega
          have e3i : ¬ ((m : Int) = 3) := by omega
          have hPB := hP4
          have hRbB := hRb4
          have HF := hid (dq_end (q := p + 200) (.string name) (.string ver) (.slice na nn nc) (.slice ta ts.length tc) hbl (unhid HQ).1 hK4 (unhid HQ).2.1 (unhid HQ).2.2.1 (unhid HQ).2.2.2.1 (unhid HQ).2.2.2.2 hR4 (by omega) hG)
          obtain ⟨c0, f0⟩ := cell_fz hPB 0 _ rfl
          obtain ⟨c1, f1⟩ := cell_fz hPB 1 _ rfl
          obtain ⟨c2, f2⟩ := cell_fz hPB 2 _ rfl
          obtain ⟨c3, f3⟩ := cell_fz hPB 3 _ rfl
          obtain ⟨o0, r0⟩ := cell_fz hRbB 0 _ rfl
          obtain ⟨o1, r1⟩ := cell_fz hRbB 1 _ rfl
          obtain ⟨o2, r2⟩ := cell_fz hRbB 2 _ rfl
          obtain ⟨o3, r3⟩ := cell_fz hRbB 3 _ rfl
          clear hPB hRbB hP4 hRb4 hR4 hG hK4
          go_wp2_with fail
          exact bodyPost_ret (v := .agg #[.string name, .string ver, .slice na nn nc, .slice ta ts.length tc]) (by simp [results, Tryz.results95, go_sem, World.cell?_setCell_same', o0, o1, o2, o3]) rfl ⟨name, ver, _, nL, _, ts, rfl, unhid HN, unhid HF⟩
end Go.Proofs.YtoihhlkidlapmaaGreat

namespace Go.Proofs.YtoihhlkidlapmaaGreat
open Go.RowKit
def wpAnyF (kl : Nat) (P : Program) (md : Region.Mode) (ops : Array Oper) (Q : Exit → Act → World → Prop) (S : World → Prop) : Nat → Array Bool → Act → World → Prop
  | 0, listed, a, w => Region.ready md ops listed = [] ∧ Q .normal a w
  | fuel + 1, listed, a, w =>
    (Region.ready md ops listed = [] → Q .normal a w) ∧
    ∀ i ∈ Region.ready md ops listed, wpOp P ops Q i (fun a' w' => (i ≠ kl → listed.getD kl true = false → S w') ∧ wpAnyF kl P md ops Q S fuel (listed.setIfInBounds i true) a' w') a w
theorem wpAny_of_heldF {kl : Nat} {P : Program} {ops : Array Oper} {Q : Exit → Act → World → Prop} {md : Region.Mode} {S : World → Prop} : ∀ (fuel : Nat) (listed : Array Bool) (a : Act) (w : World), wpAnyF kl P md ops Q S fuel listed a w → wpAny P md ops Q fuel listed a w
  | 0, _, _, _, h => h
  | fuel + 1, _, _, _, h => ⟨h.1, fun i hi => wpOp_mono (fun a' w' h' => wpAny_of_heldF fuel _ a' w' h'.2) (h.2 i hi)⟩
theorem getD_set_self {l : Array Bool} {k : Nat} : (l.setIfInBounds k true).getD k true = true := by
  rcases Nat.lt_or_ge k l.size with h | h
  · simp [h]
  · simp [Array.getD]
theorem wpAnyF_first {kl : Nat} {P : Program} {ops : Array Oper} {Q : Exit → Act → World → Prop} {md : Region.Mode} {S : World → Prop} {i : Nat} {oi : Oper} {v : Value} (hi : ops[i]? = some oi) (hsel : ∀ (j : Nat) (o : Oper) cs b, ops[j]? = some o → o.op ≠ .select cs b)
    (hQ : ∀ c a w, Q (.panic c) (a.put oi.dst v) w → Q (.panic c) a w) (hkl : waitsB md ops kl i = true) :
    ∀ (fuel : Nat) (listed : Array Bool) (a : Act) (w : World),
      (∀ j oj, ops[j]? = some oj → j ≠ i → listed.getD j true = false → (∀ e ∈ oj.after, Region.binds md e = true → e.on ≠ i) → oi.apart ops oj = true) →
      i ∈ Region.ready md ops listed → listed.getD kl true = false → YieldsIf P ops S oi v a → S w →
      wpAnyF kl P md ops Q S fuel (listed.setIfInBounds i true) (a.put oi.dst v) w → wpAnyF kl P md ops Q S (fuel + 1) listed a w := by
  intro fuel
  induction fuel with
  | zero =>
    intro listed a w _ hr _ hy hS H
    refine ⟨fun h => (by rw [h] at hr; cases hr), fun j hj => ?_⟩
    by_cases hji : j = i
    · subst hji; exact hy.wpOp hi hS ⟨fun _ _ => hS, H⟩
    · have := ready_mono hj hji
      rw [H.1] at this
      cases this
  | succ fuel ih =>
    intro listed a w hfree hr hk0 hy hS H
    refine ⟨fun h => (by rw [h] at hr; cases hr), fun j hj => ?_⟩
    by_cases hji : j = i
    · subst hji; exact hy.wpOp hi hS ⟨fun _ _ => hS, H⟩
    · have hjk : j ≠ kl := fun e => waits_not hkl hr (e ▸ hj)
      have hik : i ≠ kl := fun e => waits_not hkl hr (e ▸ hr)
      have h1 := H.2 j (ready_mono hj hji)
      obtain ⟨hjun, oj, hoj, hall⟩ := mem_ready.1 hj
      have hnot : ∀ e ∈ oj.after, Region.binds md e = true → e.on ≠ i := fun e he hb heq => by
        have h1 := hall e he hb
        have h0 := (mem_ready.1 hr).1
        rw [heq] at h1
        rcases Nat.lt_or_ge i listed.size with h' | h'
        · simp [h'] at h0 h1; rw [h0] at h1; cases h1
        · simp [Array.getElem?_eq_none h'] at h1
      have h2 := wpOp_putIf hoj (hfree j oj hoj hji hjun hnot) (fun cs b => hsel i oi cs b hi) (fun cs b => hsel j oj cs b hoj) hQ hy h1
      have hfree' : ∀ k ok, ops[k]? = some ok → k ≠ i → (listed.setIfInBounds j true).getD k true = false →
          (∀ e ∈ ok.after, Region.binds md e = true → e.on ≠ i) → oi.apart ops ok = true := fun k ok hk hki hun hno => by
        refine hfree k ok hk hki ?_ hno
        by_cases hjk : j = k
        · subst hjk; exact hjun
        · rw [getD_set_ne true hjk] at hun; exact hun
      have hSj : ∀ w', ((j ≠ kl → (listed.setIfInBounds i true).getD kl true = false → S w') → S w') := fun w' h => h hjk (by rw [getD_set_ne true hik]; exact hk0)
      refine wpOp_mono (fun a' w' h3 => ⟨fun _ _ => hSj w' h3.2.1, ih (listed.setIfInBounds j true) a' w' hfree' (ready_mono hr (Ne.symm hji)) (by rw [getD_set_ne true hjk]; exact hk0) h3.1 (hSj w' h3.2.1) ?_⟩) h2
      rw [Array.setIfInBounds_comm _ _ hji]
      exact h3.2.2
theorem wpAnyF_pure {kl : Nat} {P : Program} {ops : Array Oper} {Q : Exit → Act → World → Prop} {md : Region.Mode} {S T : World → Prop} (hT : ∀ w, T w) {i : Nat} {oi : Oper} {v : Value} (hi : ops[i]? = some oi) (hsel : ∀ (j : Nat) (o : Oper) cs b, ops[j]? = some o → o.op ≠ .select cs b)
    (hQ : ∀ c a w, Q (.panic c) (a.put oi.dst v) w → Q (.panic c) a w) (hik : i ≠ kl) :
    ∀ (fuel : Nat) (listed : Array Bool) (a : Act) (w : World),
      (∀ j oj, ops[j]? = some oj → j ≠ i → listed.getD j true = false → (∀ e ∈ oj.after, Region.binds md e = true → e.on ≠ i) → oi.apart ops oj = true) →
      i ∈ Region.ready md ops listed → YieldsIf P ops T oi v a → (listed.getD kl true = false → S w) →
      wpAnyF kl P md ops Q S fuel (listed.setIfInBounds i true) (a.put oi.dst v) w → wpAnyF kl P md ops Q S (fuel + 1) listed a w := by
  intro fuel
  induction fuel with
  | zero =>
    intro listed a w _ hr hy hS H
    refine ⟨fun h => (by rw [h] at hr; cases hr), fun j hj => ?_⟩
    by_cases hji : j = i
    · subst hji; exact hy.wpOp hi (hT w) ⟨fun _ => hS, H⟩
    · have := ready_mono hj hji
      rw [H.1] at this
      cases this
  | succ fuel ih =>
    intro listed a w hfree hr hy hS H
    refine ⟨fun h => (by rw [h] at hr; cases hr), fun j hj => ?_⟩
    by_cases hji : j = i
    · subst hji; exact hy.wpOp hi (hT w) ⟨fun _ => hS, H⟩
    · have h1 := H.2 j (ready_mono hj hji)
      obtain ⟨hjun, oj, hoj, hall⟩ := mem_ready.1 hj
      have hnot : ∀ e ∈ oj.after, Region.binds md e = true → e.on ≠ i := fun e he hb heq => by
        have h1 := hall e he hb
        have h0 := (mem_ready.1 hr).1
        rw [heq] at h1
        rcases Nat.lt_or_ge i listed.size with h' | h'
        · simp [h'] at h0 h1; rw [h0] at h1; cases h1
        · simp [Array.getElem?_eq_none h'] at h1
      have h2 := wpOp_putIf hoj (hfree j oj hoj hji hjun hnot) (fun cs b => hsel i oi cs b hi) (fun cs b => hsel j oj cs b hoj) hQ hy h1
      have hfree' : ∀ k ok, ops[k]? = some ok → k ≠ i → (listed.setIfInBounds j true).getD k true = false →
          (∀ e ∈ ok.after, Region.binds md e = true → e.on ≠ i) → oi.apart ops ok = true := fun k ok hk hki hun hno => by
        refine hfree k ok hk hki ?_ hno
        by_cases hjk : j = k
        · subst hjk; exact hjun
        · rw [getD_set_ne true hjk] at hun; exact hun
      refine wpOp_mono (fun a' w' h3 => ⟨fun hjk hf => h3.2.1 hjk (by rw [getD_set_ne true hik]; exact hf), ih (listed.setIfInBounds j true) a' w' hfree' (ready_mono hr (Ne.symm hji)) h3.1 (fun hf => ?_) ?_⟩) h2
      · by_cases hjk : j = kl
        · subst hjk; rw [getD_set_self] at hf; cases hf
        · rw [getD_set_ne true hjk] at hf
          exact h3.2.1 hjk (by rw [getD_set_ne true hik]; exact hf)
      · rw [Array.setIfInBounds_comm _ _ hji]
        exact h3.2.2
def heldPB (kl : Nat) (md : Region.Mode) (ops : Array Oper) : List Nat → Array Bool → Bool
  | [], _ => true
  | i :: is, listed => (Region.ready md ops listed).contains i && Region.free md ops listed i && ((ops[i]?).map plainOp).getD false && !(i == kl) && heldPB kl md ops is (listed.setIfInBounds i true)
def openB (kl : Nat) (listed : Array Bool) : Bool := !(listed.getD kl true)
theorem heldF_list {kl : Nat} {P : Program} {md : Region.Mode} {ops : Array Oper} {Q : Exit → Act → World → Prop} {S : World → Prop} (hs : Region.noSelect ops = true) (hQ : ∀ c a t v w, Q (.panic c) (Act.put a (some t) v) w → Q (.panic c) a w) (fuel : Nat) : ∀ (is : List Nat) (l : List Oper) (listed : Array Bool) (a : Act) (w : World), is.map (fun i => ops[i]?) = l.map some → heldEB kl md ops is listed = true → listed.getD kl true = false → S w →
    wpQuiet P ops S (fun a' => wpAnyF kl P md ops Q S fuel (markAll is listed) a' w) l a → wpAnyF kl P md ops Q S (is.length + fuel) listed a w
  | [], [], listed, a, w, _, _, _, _, h => by rw [List.length_nil, Nat.zero_add]; exact h
  | [], _ :: _, _, _, _, e, _, _, _, _ => by cases e
  | _ :: _, [], _, _, _, e, _, _, _, _ => by cases e
  | i :: is, o :: l, listed, a, w, e, hB, hk, hS, h => by
    simp only [List.map_cons, List.cons.injEq] at e
    simp only [heldEB, Bool.and_eq_true] at hB
    obtain ⟨⟨⟨⟨h1, h2⟩, h3⟩, h5⟩, h4⟩ := hB
    rw [e.1] at h3
    obtain ⟨v, hy, hK⟩ := yieldsIf_quiet (by simpa using h3) h
    have hr : i ∈ Region.ready md ops listed := by simpa using h1
    have hik : i ≠ kl := fun e => waits_not h5 hr (e ▸ hr)
    rw [show (i :: is).length + fuel = (is.length + fuel) + 1 by simp; omega]
    exact wpAnyF_first e.1 (Region.noSelect_spec hs) (fun c a w hq => by cases hd : o.dst with | none => rw [hd] at hq; exact hq | some t => rw [hd] at hq; exact hQ _ _ _ _ _ hq) h5 _ _ _ _ (Region.free_spec e.1 h2) hr hk hy hS (heldF_list hs hQ fuel is l _ _ w e.2 h4 (by rw [getD_set_ne true hik]; exact hk) hS hK)
theorem heldF_plist {kl : Nat} {P : Program} {md : Region.Mode} {ops : Array Oper} {Q : Exit → Act → World → Prop} {S T : World → Prop} (hT : ∀ w, T w) (hs : Region.noSelect ops = true) (hQ : ∀ c a t v w, Q (.panic c) (Act.put a (some t) v) w → Q (.panic c) a w) (fuel : Nat) : ∀ (is : List Nat) (l : List Oper) (listed : Array Bool) (a : Act) (w : World), is.map (fun i => ops[i]?) = l.map some → heldPB kl md ops is listed = true → (listed.getD kl true = false → S w) →
    wpQuiet P ops T (fun a' => wpAnyF kl P md ops Q S fuel (markAll is listed) a' w) l a → wpAnyF kl P md ops Q S (is.length + fuel) listed a w
  | [], [], listed, a, w, _, _, _, h => by rw [List.length_nil, Nat.zero_add]; exact h
  | [], _ :: _, _, _, _, e, _, _, _ => by cases e
  | _ :: _, [], _, _, _, e, _, _, _ => by cases e
  | i :: is, o :: l, listed, a, w, e, hB, hS, h => by
    simp only [List.map_cons, List.cons.injEq] at e
    simp only [heldPB, Bool.and_eq_true] at hB
    obtain ⟨⟨⟨⟨h1, h2⟩, h3⟩, h5⟩, h4⟩ := hB
    rw [e.1] at h3
    obtain ⟨v, hy, hK⟩ := yieldsIf_quiet (by simpa using h3) h
    have hik : i ≠ kl := by simpa using h5
    rw [show (i :: is).length + fuel = (is.length + fuel) + 1 by simp; omega]
    exact wpAnyF_pure hT e.1 (Region.noSelect_spec hs) (fun c a w hq => by cases hd : o.dst with | none => rw [hd] at hq; exact hq | some t => rw [hd] at hq; exact hQ _ _ _ _ _ hq) hik _ _ _ _ (Region.free_spec e.1 h2) (by simpa using h1) hy hS (heldF_plist hT hs hQ fuel is l _ _ w e.2 h4 (fun hf => hS (by rwa [getD_set_ne true hik] at hf)) hK)
theorem heldF_begin {P : Program} {id : Nat} {Q : Exit → Act → World → Prop} {a : Act} {w : World} {l : List Oper} (kl : Nat) (C : World → Prop) (hm : P.follows .mixedOrders = true)
    (h : wpAnyF kl P .any l.toArray Q (fun w' => ∃ x : CW C, w' = x.w) l.length (Array.replicate l.length false) a w.drew) : (Code.region id l.toArray true).wp P Q a w :=
  wp_region_any hm (wpAny_of_heldF _ _ _ _ (by simpa using h))
theorem heldF_here {kl : Nat} {P : Program} {md : Region.Mode} {Q : Exit → Act → World → Prop} {C : World → Prop} {F : Nat} {listed : Array Bool} {a : Act} {w : World} {l : List Oper} (m : List Bool) (hs : Region.noSelect l.toArray = true) (hB : (decide (m.length ≤ l.length) && decide ((maskIx 0 m).length ≤ F) && heldEB kl md l.toArray (maskIx 0 m) listed && openB kl listed) = true) (hQ : ∀ c a t v w, Q (.panic c) (Act.put a (some t) v) w → Q (.panic c) a w) (hC : C w)
    (h : wpQuiet P l.toArray (fun w' => ∃ x : CW C, w' = x.w) (fun a' => wpAnyF kl P md l.toArray Q (fun w' => ∃ x : CW C, w' = x.w) (F - (maskIx 0 m).length) (markAll (maskIx 0 m) listed) a' w) (pick l m) a) :
    wpAnyF kl P md l.toArray Q (fun w' => ∃ x : CW C, w' = x.w) F listed a w := by
  simp only [Bool.and_eq_true, decide_eq_true_eq] at hB
  obtain ⟨⟨⟨h1, h2⟩, h3⟩, h4⟩ := hB
  have := heldF_list (P := P) (md := md) (Q := Q) (S := fun w' => ∃ x : CW C, w' = x.w) hs hQ (F - (maskIx 0 m).length) (maskIx 0 m) (pick l m) listed a w (pick_ix l l m 0 h1 (by simp)) h3 (by simpa [openB] using h4) ⟨⟨w, hC⟩, rfl⟩ h
  rwa [show (maskIx 0 m).length + (F - (maskIx 0 m).length) = F by omega] at this
theorem heldF_pure {kl : Nat} {P : Program} {md : Region.Mode} {Q : Exit → Act → World → Prop} {C : World → Prop} {F : Nat} {listed : Array Bool} {a : Act} {w : World} {l : List Oper} (m : List Bool) (hs : Region.noSelect l.toArray = true) (hB : (decide (m.length ≤ l.length) && decide ((maskIx 0 m).length ≤ F) && heldPB kl md l.toArray (maskIx 0 m) listed) = true) (hQ : ∀ c a t v w, Q (.panic c) (Act.put a (some t) v) w → Q (.panic c) a w) (hC : C w)
    (h : wpQuiet P l.toArray (fun w' => ∃ x : CW (fun _ : World => True), w' = x.w) (fun a' => wpAnyF kl P md l.toArray Q (fun w' => ∃ x : CW C, w' = x.w) (F - (maskIx 0 m).length) (markAll (maskIx 0 m) listed) a' w) (pick l m) a) :
    wpAnyF kl P md l.toArray Q (fun w' => ∃ x : CW C, w' = x.w) F listed a w := by
  simp only [Bool.and_eq_true, decide_eq_true_eq] at hB
  obtain ⟨⟨h1, h2⟩, h3⟩ := hB
  have := heldF_plist (P := P) (md := md) (Q := Q) (S := fun w' => ∃ x : CW C, w' = x.w) (T := fun w' => ∃ x : CW (fun _ : World => True), w' = x.w) (fun w => ⟨⟨w, trivial⟩, rfl⟩) hs hQ (F - (maskIx 0 m).length) (maskIx 0 m) (pick l m) listed a w (pick_ix l l m 0 h1 (by simp)) h3 (fun _ => ⟨⟨w, hC⟩, rfl⟩) h
  rwa [show (maskIx 0 m).length + (F - (maskIx 0 m).length) = F by omega] at this
theorem heldF_ready {kl : Nat} {P : Program} {md : Region.Mode} {ops : Array Oper} {Q : Exit → Act → World → Prop} {C : World → Prop} {F : Nat} {listed : Array Bool} {a : Act} {w : World} {o : Oper} (k : Nat) (hr : Region.ready md ops listed = [k]) (hF : decide (0 < F) = true) (ho : ops[k]? = some o)
    (h : ∀ K' : Act → World → Prop, Shut (∀ a w, (k ≠ kl → C w) → wpAnyF kl P md ops Q (fun w' => ∃ x : CW C, w' = x.w) (F - 1) (listed.setIfInBounds k true) a w → K' a w) → if Region.wanted o (yielded ops a.tmps) = true then Oper.wp P o a w K' Q else K' (a.put o.dst undef) w) :
    wpAnyF kl P md ops Q (fun w' => ∃ x : CW C, w' = x.w) F listed a w := by
  have hF' : F = (F - 1) + 1 := by simp only [decide_eq_true_eq] at hF; omega
  rw [hF']
  refine ⟨fun h0 => (by rw [hr] at h0; cases h0), fun i hi => ?_⟩
  rw [hr] at hi
  rcases List.mem_singleton.1 hi with rfl
  exact wpOp_step ho (fun K' hK => h K' (fun a w hS hW => hK a w ⟨fun hne _ => ⟨⟨w, hS hne⟩, rfl⟩, hW⟩))
theorem heldF_op {kl : Nat} {P : Program} {md : Region.Mode} {ops : Array Oper} {Q : Exit → Act → World → Prop} {C : World → Prop} {F : Nat} {listed : Array Bool} {a : Act} {w : World} {o : Oper} (k : Nat) (hr : Region.ready md ops listed = [k]) (hF : decide (0 < F) = true) (ho : ops[k]? = some o)
    (h : ∀ K' : Act → World → Prop, Shut (∀ a w, C w → wpAnyF kl P md ops Q (fun w' => ∃ x : CW C, w' = x.w) (F - 1) (listed.setIfInBounds k true) a w → K' a w) → if Region.wanted o (yielded ops a.tmps) = true then Oper.wp P o a w K' Q else K' (a.put o.dst undef) w) :
    wpAnyF kl P md ops Q (fun w' => ∃ x : CW C, w' = x.w) F listed a w :=
  heldF_ready k hr hF ho (fun K' hK => h K' (fun a w hc hw => hK.out a w (fun _ => hc) hw))
theorem heldF_last {kl : Nat} {P : Program} {md : Region.Mode} {ops : Array Oper} {Q : Exit → Act → World → Prop} {C : World → Prop} {F : Nat} {listed : Array Bool} {a : Act} {w : World} {o : Oper} (hr : Region.ready md ops listed = [kl]) (hF : decide (0 < F) = true) (ho : ops[kl]? = some o)
    (h : ∀ K' : Act → World → Prop, Shut (∀ a w, wpAnyF kl P md ops Q (fun w' => ∃ x : CW C, w' = x.w) (F - 1) (listed.setIfInBounds kl true) a w → K' a w) → if Region.wanted o (yielded ops a.tmps) = true then Oper.wp P o a w K' Q else K' (a.put o.dst undef) w) :
    wpAnyF kl P md ops Q (fun w' => ∃ x : CW C, w' = x.w) F listed a w :=
  heldF_ready kl hr hF ho (fun K' hK => h K' (fun a w hw => hK.out a w (fun hne => absurd rfl hne) hw))
theorem heldF_done {kl : Nat} {P : Program} {md : Region.Mode} {ops : Array Oper} {Q : Exit → Act → World → Prop} {S : World → Prop} {F : Nat} {listed : Array Bool} {a : Act} {w : World} (hr : Region.ready md ops listed = []) (h : Q .normal a w) : wpAnyF kl P md ops Q S F listed a w := by
  cases F with
  | zero => exact ⟨hr, h⟩
  | succ F => exact ⟨fun _ => h, by rw [hr]; simp⟩
end Go.Proofs.YtoihhlkidlapmaaGreat

namespace Go.Proofs.YtoihhlkidlapmaaGreat
open Go.RowKit Go.Shelf
structure DPk (d : packC.D) : Prop where
  small : smallP d
  name : drawn (PackD.name d)
  nice : ∀ e ∈ treeOfP d, niceE e
theorem DQ.pack {w : World} {b : Nat} {a : Option Addr} {len cap q : Nat} {W : World} {name ver : ByteArray} {nv tv : Value} {nL : List (It needC)} {es : List Ent} (h : DQ w b a len cap q W ver nv nL tv es) (hn : drawn name) : DPk (⟨name, ver, itD nL, dEnts es⟩ : PackD) := by
  have hs := drawn_short hn
  have hv : ver.size ≤ 100 := h.ver
  have ht : treeOfP (⟨name, ver, itD nL, dEnts es⟩ : PackD) = es := entsD_back es
  refine ⟨⟨show name.size ≤ 1048576 by omega, show ver.size ≤ 1048576 by omega, ⟨show (itD nL).length ≤ 1048576 by rw [itD_len]; have := h.ln; omega, fun d hd => ?_⟩, ?_⟩, hn, by rw [ht]; exact h.nice⟩
  · have := h.sn d hd
    exact ⟨by omega, by omega⟩
  · show smallE (entsD (dEnts es))
    rw [entsD_back]
    exact ⟨by have := h.few; omega, fun e he => ⟨by have := nice_short (h.nice e he).1; omega, by have : e.text.size ≤ 100 := (h.nice e he).2; omega⟩⟩
structure RQ (w : World) (b : Nat) (a : Option Addr) (len cap q : Nat) (W : World) (v : Value) (L : List (It packC)) : Prop where
  row : NRow packC 34 W (w.heap.size + 1) v L
  ok : ∀ d ∈ itD L, DPk d
  few : L.length ≤ 7
  rd : ∃ p', p' ≤ q ∧ Rd W b a len cap p'
  grown : w.grownBy W (some b)
theorem inP_mem (p : packC.D) (ps : List packC.D) : (inP p ps).length ≤ ps.length + 1 ∧ ∀ x ∈ inP p ps, x = p ∨ x ∈ ps := by
  have hwith : (withP p ps).length ≤ ps.length + 1 ∧ (∀ x ∈ withP p ps, x = p ∨ x ∈ ps) := by
    unfold withP
    refine ⟨by rw [List.length_append, List.length_cons, List.length_take, List.length_drop]; omega, fun x hx => ?_⟩
    rcases List.mem_append.1 hx with hx | hx
    · exact .inr (List.mem_of_mem_take hx)
    · rcases List.mem_cons.1 hx with rfl | hx
      · exact .inl rfl
      · exact .inr (List.mem_of_mem_drop hx)
  have hsame : ps.length ≤ ps.length + 1 ∧ (∀ x ∈ ps, x = p ∨ x ∈ ps) := ⟨by omega, fun x hx => .inr hx⟩
  unfold inP tryP
  split
  · split
    · exact hsame
    · split
      · exact hwith
      · exact hsame
  · exact hsame
theorem nrow_grown {W W' : World} {N b : Nat} {v : Value} {L : List (It packC)} (h : NRow packC 34 W N v L) (hg : W.grownBy W' (some b)) (hb : b < N) : NRow packC 34 W' N v L :=
  h.frame (fun k hk => hg.block k (h.base k hk).2 (by have := (h.base k hk).1; intro e; injection e; omega))
def RI (w : World) (b : Nat) (a : Option Addr) (len cap p k : Nat) (v : Value) (L : List (It packC)) (wr : World) : Prop :=
  wr.heap[w.heap.size]? = some (.cells #[.slice none 0 0] 51 (0, 0)) ∧ wr.heap[w.heap.size + 1]? = some (.cells #[v] 51 (0, 0)) ∧ w.heap.size + 1 < wr.heap.size ∧ NRow packC 34 wr (w.heap.size + 2) v L ∧ (∀ d ∈ itD L, DPk d) ∧ L.length + k ≤ 4 ∧ w.grownBy wr (some b) ∧ ∃ p', p' ≤ p + 1 + (4 - k) * 100 ∧ Rd wr b a len cap p'
set_option maxRecDepth 100000 in
set_option maxHeartbeats 8000000 in
theorem l11Root_any (w : World) (b : Nat) (a : Option Addr) (len cap p : Nat) (h : Rd w b a len cap p) (hp : p ≤ 300000) :
    Calls Tryz.prog 135 #[.pointer (some ⟨b, 0, none⟩)] w fun x w' => ∃ v L, x = .returned (.agg #[v]) ∧ RQ w b a len cap (p + 500) w' v L := by
  have hbl := h.lt
  have hR0 := (two_boxes w (.cells #[.slice none 0 0] 51) (.cells #[.slice none 0 0] 51))
  have H := hid ((h.alloc (.cells #[.slice none 0 0] 51)).alloc (.cells #[.slice none 0 0] 51))
  have hG0 : w.grownBy ((w.alloc (.cells #[.slice none 0 0] 51)).alloc (.cells #[.slice none 0 0] 51)) (some b) := grown_trans (World.grownBy_alloc w _ (some b)) (World.grownBy_alloc _ _ (some b))
  clear h
  go_enter Tryz.func135, Tryz.ntmps135
  go_wp2_with fail
  generalize (w.alloc (.cells #[.slice none 0 0] 51)).alloc (.cells #[.slice none 0 0] 51) = w0 at H hR0 hG0 ⊢
  obtain ⟨hRb0, hX0, hS0⟩ := hR0
  refine (pick_any w0 b a len cap p (unhid H) (by omega) 5 (by omega) (by omega)).mono ?_
  rintro e w1 ⟨m, hm, rfl, hR1, hG1⟩
  have HI := hid (show w1.heap[w.heap.size]? = some (.cells #[.slice none 0 0] 51 (0, 0)) ∧ w1.heap[w.heap.size + 1]? = some (.cells #[.slice none 0 0] 51 (0, 0)) ∧ w.heap.size + 1 < w1.heap.size ∧ w.grownBy w1 (some b) ∧ Rd w1 b a len cap (p + 1) from
    ⟨(hG1.block _ (by omega) (by intro e; injection e; omega)).trans hRb0, (hG1.block _ (by omega) (by intro e; injection e; omega)).trans hX0, Nat.lt_of_lt_of_le hS0 hG1.size, grown_trans hG0 hG1, hR1⟩)
  clear hRb0 hX0 hS0 hG0 hG1 hR1 H
  go_wp2_with fail
  have HR := hid (show RI w b a len cap p m (.slice none 0 0) [] w1 from ⟨(unhid HI).1, (unhid HI).2.1, (unhid HI).2.2.1, NRow.none _ _, (fun d hd => by cases hd), (by simp; omega), (unhid HI).2.2.2.1, p + 1, (by omega), (unhid HI).2.2.2.2⟩)
  clear HI
  go_loopw [4] (fun i wr => ∃ (k : Nat) (v : Value) (L : List (It packC)), k ≤ 4 ∧ i = .int .i64 (k : Int) ∧ Hid (RI w b a len cap p k v L wr)) (fun i _ => (intOf i).toNat)
  case atStart => exact ⟨m, _, [], by omega, rfl, HR⟩
  case round =>
    clear HR
    obtain ⟨k, v, L, hk, rfl, HI⟩ := hrel
    obtain ⟨hRb, hX, hS, hN, hok, hfew, hG, p', hp', hRd⟩ := unhid HI
    obtain ⟨va, vn, vc, rfl⟩ : ∃ a n c, v = .slice a n c := by obtain ⟨a, c, e⟩ := nrow_slice hN; exact ⟨_, _, _, e⟩
    clear HI
    by_cases h0 : k = 0
    · subst h0
      obtain ⟨c0, f0⟩ := cell_fz hX 0 _ rfl
      obtain ⟨o0, r0⟩ := cell_fz hRb 0 _ rfl
      have hBw : Below w.heap.size wr (wr.setCell ⟨w.heap.size, 0, none⟩ (.slice va vn vc)) := (Below.refl _ wr).setCell (p := ⟨w.heap.size, 0, none⟩) (Nat.le_refl _) _
      have HF := hid (show RQ w b a len cap (p + 500) (wr.setCell ⟨w.heap.size, 0, none⟩ (.slice va vn vc)) (.slice va vn vc) L from ⟨NRow.lower (N := w.heap.size + 2) (hN.frame (fun k hk => Below.heap_setCell _ _ _ _ (by have := (hN.base k hk).1; dsimp only; omega))) (by omega), hok, by omega, ⟨p', by omega, Rd.low hRd hBw hbl⟩, grown_low hG hBw⟩)
      clear hX hRb hN hG hRd hBw
      go_wp2_with fail
      exact bodyPost_ret (v := .agg #[.slice va vn vc]) (by simp [results, Tryz.results135, go_sem, World.cell?_setCell_same', o0]) rfl ⟨_, L, rfl, unhid HF⟩
    · have hk0 : (0 : Int) < (k : Int) := by omega
      have hC0 : (fun w' : World => w'.heap[w.heap.size + 1]? = some (.cells #[.slice va vn vc] 51 (0, 0))) wr.drew := hX
      have gp : ∀ x : CW (fun w' : World => w'.heap[w.heap.size + 1]? = some (.cells #[.slice va vn vc] 51 (0, 0))), x.w.cell? ⟨w.heap.size + 1, 0, none⟩ = some (.slice va vn vc) := fun x => cell_arrS x.h 0 _ rfl
      have hba : ∀ {q : Prop}, (CW (fun w' : World => w'.heap[w.heap.size + 1]? = some (.cells #[.slice va vn vc] 51 (0, 0))) → q) ↔ q := CW.all hC0
      go_wp2_with fail
      refine heldF_begin 10 (fun w' : World => w'.heap[w.heap.size + 1]? = some (.cells #[.slice va vn vc] 51 (0, 0))) (by kernel_rfl) ?_
      refine heldF_here [true, true, true] (by kernel_rfl) (by kernel_rfl) (fun _ _ _ _ _ h => h) hC0 ?_
      dsimp only [pick]
      repeat (go_big_quiet_step (fail))
      refine wpQuiet_nil ?_
      have hR5 := hRd.of_below (drew_belowS (B := wr.heap.size) wr)
      have hN5 : NRow packC 34 wr.drew (w.heap.size + 2) (.slice va vn vc) L := hN.frame (fun k _ => rfl)
      have hG5 : w.grownBy wr.drew (some b) := grown_low hG (drew_belowS _)
      have hRb5 : wr.drew.heap[w.heap.size]? = some (.cells #[.slice none 0 0] 51 (0, 0)) := hRb
      have hz5 : w.heap.size + 1 < wr.drew.heap.size := hS
      clear hba gp hX hRb hS hN hG hRd
      generalize wr.drew = w5 at *
      refine heldF_op 3 (by kernel_rfl) (by kernel_rfl) rfl (fun K hK => ?_)
      go_simp
      have hG56 : w5.grownBy (w5.alloc (.cells #[.string ⟨#[111, 110, 101]⟩, .string ⟨#[116, 119, 111]⟩, .string ⟨#[116, 104, 114, 101, 101]⟩, .string ⟨#[122, 105, 112]⟩] 9)) (some b) := World.grownBy_alloc w5 _ (some b)
      have hX6 := (hG56.block (w.heap.size + 1) (by omega) (by intro e; injection e; omega)).trans hC0
      refine hK.out _ _ hX6 ?_
      clear hK K
      have OF := hid (of_any drawn (w5.alloc (.cells #[.string ⟨#[111, 110, 101]⟩, .string ⟨#[116, 119, 111]⟩, .string ⟨#[116, 104, 114, 101, 101]⟩, .string ⟨#[122, 105, 112]⟩] 9)) b a len cap p' (hR5.alloc _) (by omega) w5.heap.size 4 4 (by omega) (by omega) (by omega) (fun k hk => row_drawn _ _ _ _ rfl (by kernel_rfl) k hk))
      generalize w5.alloc (.cells #[.string ⟨#[111, 110, 101]⟩, .string ⟨#[116, 119, 111]⟩, .string ⟨#[116, 104, 114, 101, 101]⟩, .string ⟨#[122, 105, 112]⟩] 9) = w6 at hG56 hX6 OF ⊢
      refine heldF_op 4 (by kernel_rfl) (by kernel_rfl) rfl (fun K hK => ?_)
      refine call_op 57 17 (enters_of Tryz.func57 (by kernel_rfl) rfl) #[.pointer (some ⟨b, 0, none⟩), .slice (some ⟨w5.heap.size, 0, none⟩) 4 4] rfl rfl rfl rfl ?_
      refine (unhid OF).mono ?_
      rintro e w7 ⟨name, hname, rfl, hR7, hG67⟩
      have hG57 := grown_trans hG56 hG67
      have hX7 := (hG67.block (w.heap.size + 1) (by have := hG56.size; omega) (by intro e; injection e; omega)).trans hX6
      have hRb7 := (hG57.block w.heap.size (by omega) (by intro e; injection e; omega)).trans hRb5
      have hN7 := nrow_grown hN5 hG57 (by omega)
      have hG7 := grown_trans hG5 hG57
      have hz7 := Nat.lt_of_lt_of_le hz5 hG57.size
      refine ⟨_, rfl, hK.out _ _ hX7 ?_⟩
      simp only [Act.put, List.setIfInBounds_toArray, List.set_cons_zero, List.set_cons_succ]
      clear hK K OF hG56 hX6 hG67 hG57 hC0 hR5 hN5 hG5 hRb5 hz5
      refine heldF_op 5 (by kernel_rfl) (by kernel_rfl) rfl (fun K hK => ?_)
      refine call_op 154 18 (enters_of Tryz.func154 (by kernel_rfl) rfl) #[.pointer (some ⟨b, 0, none⟩), .string name] rfl rfl rfl rfl ?_
      refine (l11Pack_any w7 b a len cap _ name hR7 (by omega)).mono ?_
      rintro x w8 ⟨ver, nv, nL, tv, ts, rfl, hQ, -⟩
      have hX8 := (hQ.grown.block (w.heap.size + 1) hz7 (by intro e; injection e; omega)).trans hX7
      have hRb8 := (hQ.grown.block w.heap.size (by omega) (by intro e; injection e; omega)).trans hRb7
      have hN8 := nrow_grown hN7 hQ.grown (by omega)
      have hG8 := grown_trans hG7 hQ.grown
      have hz8 := Nat.lt_of_lt_of_le hz7 hQ.grown.size
      obtain ⟨p8, hp8, hR8⟩ := hQ.rd
      have hdp := hQ.pack hname
      obtain ⟨F8, hown8, hf8⟩ := hQ.k.own name ver
      refine ⟨_, rfl, hK.out _ _ hX8 ?_⟩
      simp only [Act.put, List.setIfInBounds_toArray, List.set_cons_zero, List.set_cons_succ]
      clear hK K hX7 hRb7 hN7 hG7 hR7
      have hsm : smallPs (itD L) := ⟨by rw [itD_len]; omega, fun q hq => (hok q hq).small⟩
      refine heldF_op 6 (by kernel_rfl) (by kernel_rfl) rfl (fun K hK => ?_)
      refine call_op 97 19 (enters_of Tryz.func97 (by kernel_rfl) rfl) #[.agg #[.slice va vn vc], .agg #[.string name, .string ver, nv, tv]] rfl rfl rfl rfl ?_
      refine (l9In_any L (.slice va vn vc) (⟨name, ver, itD nL, dEnts ts⟩ : PackD) [.string name, .string ver, nv, tv] w8 (w.heap.size + 2) (by omega) hsm (by omega) hdp.small hN8 (packC.toAt hown8)).mono ?_
      rintro x w9 ⟨r9, L9, rfl, hN9, hL9, hB9⟩
      have hX9 := (hB9.block (w.heap.size + 1) hz8).trans hX8
      have hRb9 := (hB9.block w.heap.size (by omega)).trans hRb8
      have hG9 := grown_low hG8 (hB9.mono (by omega))
      have hR9 := hR8.of_below hB9
      have hz9 := Nat.lt_of_lt_of_le hz8 hB9.size
      have hin := inP_mem (⟨name, ver, itD nL, dEnts ts⟩ : PackD) (itD L)
      rw [← hL9, itD_len, itD_len] at hin
      obtain ⟨ra, rn, rc, rfl⟩ : ∃ a n c, r9 = .slice a n c := by obtain ⟨a, c, e⟩ := nrow_slice hN9; exact ⟨_, _, _, e⟩
      have HN9 := hid hN9
      have HOK := hid (show ∀ d ∈ itD L9, DPk d from fun d hd => by
        rcases hin.2 d hd with rfl | h
        · exact hdp
        · exact hok d h)
      have HLN := hid hin.1
      generalize inCode _ (itD L) = ic
      refine ⟨_, rfl, hK.out _ _ hX9 ?_⟩
      simp only [Act.put, List.setIfInBounds_toArray, List.set_cons_zero, List.set_cons_succ]
      clear hK K hX8 hRb8 hN8 hG8 hR8 hB9 hQ hown8 hf8 hin hL9 hsm hN9
      have hba : ∀ {q : Prop}, (CW (fun _ : World => True) → q) ↔ q := CW.all (C := fun _ : World => True) (W := w9) trivial
      refine heldF_pure [false, false, false, false, false, false, false, true, true, true] (by kernel_rfl) (by kernel_rfl) (fun _ _ _ _ _ h => h) hX9 ?_
      dsimp only [pick]
      repeat (go_big_quiet_step (fail))
      refine wpQuiet_nil ?_
      clear hba
      obtain ⟨c0, f0⟩ := cell_fz hX9 0 _ rfl
      refine heldF_last (by kernel_rfl) (by kernel_rfl) rfl (fun K hK => ?_)
      go_simp
      refine hK.out _ _ ?_
      clear hK K c0 f0
      refine heldF_done (by kernel_rfl) ?_
      have hBw : Below (w.heap.size + 1) w9 (w9.setCell ⟨w.heap.size + 1, 0, none⟩ (.slice ra rn rc)) := (Below.refl _ w9).setCell (p := ⟨w.heap.size + 1, 0, none⟩) (Nat.le_refl _) _
      have HX := hid (show RI w b a len cap p (k - 1) (.slice ra rn rc) L9 (w9.setCell ⟨w.heap.size + 1, 0, none⟩ (.slice ra rn rc)) from
        ⟨(hBw.block w.heap.size (by omega)).trans hRb9, heap_setCell_same w9 (w.heap.size + 1) 0 _ _ (.slice ra rn rc) hX9, by simpa using hz9, (unhid HN9).frame (fun k hk => Below.heap_setCell _ _ _ _ (by have := ((unhid HN9).base k hk).1; dsimp only; omega)), unhid HOK, by have := unhid HLN; omega, grown_low hG9 (hBw.mono (by omega)), p8, by omega, Rd.low hR9 hBw (by omega)⟩)
      clear hX9 hRb9 hG9 hR9 hBw
      generalize w9.setCell ⟨w.heap.size + 1, 0, none⟩ (.slice ra rn rc) = wB at *
      go_wp2_with fail
      go_roundw
      case rel => exact ⟨k - 1, _, L9, by omega, by go_num, HX⟩
      case measure => simp [intOf]; omega
end Go.Proofs.YtoihhlkidlapmaaGreat

namespace Go.Proofs.YtoihhlkidlapmaaGreat
open Go.RowKit Go.Shelf
structure AQ (w : World) (b : Nat) (a : Option Addr) (len cap q : Nat) (W : World) (v : Value) (ps : List packC.D) : Prop where
  keep : ∀ W' : World, (∀ k, b < k → k < W.heap.size → W'.heap[k]? = W.heap[k]?) → rowAt packC W' v ps
  ok : ∀ d ∈ ps, DPk d
  few : ps.length ≤ 8
  rd : ∃ p', p' ≤ q ∧ Rd W b a len cap p'
  grown : w.grownBy W (some b)
theorem nrow_keep {W : World} {N b : Nat} {v : Value} {L : List (It packC)} (h : NRow packC 34 W N v L) (hb : b < N) : ∀ W' : World, (∀ k, b < k → k < W.heap.size → W'.heap[k]? = W.heap[k]?) → rowAt packC W' v (itD L) := fun W' hg => by
  obtain ⟨F, h1, _⟩ := (h.frame (fun k hk => hg k (Nat.lt_of_lt_of_le hb (h.base k hk).1) (h.base k hk).2)).own
  exact h1.toAt
theorem row_tail {W : World} {g c : Nat} {ps : List packC.D} {A : Option Addr} (h : rowAt packC W (.slice (some ⟨g, 0, none⟩) ps.length c) ps) (hA : A = if c = 1 then some ⟨g, 0, none⟩ else some ⟨g, 4, none⟩) (h0 : 0 < ps.length) : rowAt packC W (.slice A (ps.length - 1) (c - 1)) (ps.drop 1) := by
  obtain ⟨a', c', e, hn, hc, hr⟩ := h
  injection e with e1 _ e3
  subst e1 e3
  refine ⟨A, c - 1, by rw [List.length_drop], fun e => ?_, by rw [List.length_drop]; omega, ?_⟩
  · rw [hA] at e
    split at e <;> cases e
  · rcases hr with rfl | ⟨b, o, ea, hb, hcell⟩
    · exact absurd h0 (Nat.lt_irrefl 0)
    · injection ea with ea
      injection ea with e1 e2
      subst e1 e2
      by_cases hc1 : c = 1
      · left
        rw [List.drop_eq_nil_iff]
        omega
      · right
        refine ⟨g, 4, by rw [hA, if_neg hc1], hb, fun i d hi => ?_⟩
        rw [List.getElem?_drop] at hi
        obtain ⟨cs, h1, h2⟩ := hcell (1 + i) d hi
        refine ⟨cs, h1, fun j u hj => ?_⟩
        have := h2 j u hj
        have en : packC.n = 4 := rfl
        rw [en] at this ⊢
        rw [← this]
        congr 2
        omega
set_option maxRecDepth 100000 in
set_option maxHeartbeats 16000000 in
theorem l11AnyRoot_any (w : World) (b : Nat) (a : Option Addr) (len cap p : Nat) (h : Rd w b a len cap p) (hp : p ≤ 200000) :
    Calls Tryz.prog 77 #[.pointer (some ⟨b, 0, none⟩)] w fun x w' => ∃ v ps, x = .returned (.agg #[v]) ∧ AQ w b a len cap (p + 1000) w' v ps := by
  have hbl := h.lt
  have H := hid (h.alloc (.cells #[.slice none 0 0] 51))
  have hR0 := World.alloc_heap_new w (.cells #[.slice none 0 0] 51)
  have hG0 : w.grownBy (w.alloc (.cells #[.slice none 0 0] 51)) (some b) := World.grownBy_alloc w _ (some b)
  have hS0 : w.heap.size + 1 ≤ (w.alloc (.cells #[.slice none 0 0] 51)).heap.size := by simp
  clear h
  go_enter Tryz.func77, Tryz.ntmps77
  go_wp2_with fail
  generalize w.alloc (.cells #[.slice none 0 0] 51) = w0 at H hR0 hG0 hS0 ⊢
  refine (l11Root_any w0 b a len cap p (unhid H) (by omega)).mono ?_
  rintro e w1 ⟨v1, L1, rfl, hQ⟩
  have hRb1 := (hQ.grown.block _ (by omega) (by intro e; injection e; omega)).trans hR0
  have hS1 := Nat.le_trans hS0 hQ.grown.size
  have hG1 := grown_trans hG0 hQ.grown
  obtain ⟨p1, hp1, hR1⟩ := hQ.rd
  have hat1 : rowAt packC w1 v1 (itD L1) := by obtain ⟨F, h1, _⟩ := hQ.row.own; exact h1.toAt
  have HOK := hid hQ.ok
  have hfew := hQ.few
  have JN := hid (l9Copy_any (itD L1) v1 w1 ⟨by rw [itD_len]; omega, fun d hd => (hQ.ok d hd).small⟩ hat1)
  obtain ⟨va, vc, rfl⟩ := nrow_slice hQ.row
  clear hQ hR0 hG0 hS0 hat1 H
  go_wp2_with fail
  refine (unhid JN).mono ?_
  rintro x w2 ⟨v2, L, rfl, hN2, hL2, hB2⟩
  have hRb2 := (hB2.block _ (by omega)).trans hRb1
  have hS2 := Nat.le_trans hS1 hB2.size
  have hG2 := grown_low hG1 (hB2.mono (by omega))
  have hR2 := hR1.of_below hB2
  rw [← hL2] at HOK
  have hfL : L.length ≤ 7 := by
    have : L.length = L1.length := by rw [← itD_len, hL2, itD_len]
    omega
  obtain ⟨ua, uc, rfl⟩ := nrow_slice hN2
  have hN2' : NRow packC 34 w2 (w.heap.size + 1) (.slice ua L.length uc) L := NRow.lower hN2 hS1
  have HBS := hid (fun k (e : (Value.slice ua L.length uc).ownBlock = some k ∨ k ∈ itF L) => (hN2.base k e).2)
  clear JN hRb1 hS1 hG1 hR1 hB2 hL2 hN2
  go_wp2_with fail
  have hX3 := World.alloc_heap_new w2 (.cells #[.slice ua L.length uc] 51)
  have hG23 : w2.grownBy (w2.alloc (.cells #[.slice ua L.length uc] 51)) (some b) := World.grownBy_alloc w2 _ (some b)
  have hR3 := hR2.alloc (.cells #[.slice ua L.length uc] 51)
  have hz3 : w2.heap.size + 1 ≤ (w2.alloc (.cells #[.slice ua L.length uc] 51)).heap.size := by simp
  generalize w2.alloc (.cells #[.slice ua L.length uc] 51) = w3 at hX3 hG23 hR3 hz3 ⊢
  refine (pick_any w3 b a len cap p1 hR3 (by omega) 12 (by omega) (by omega)).mono ?_
  rintro e w4 ⟨m, hm, rfl, hR4, hG34⟩
  have hG24 := grown_trans hG23 hG34
  have hX4 := (hG34.block w2.heap.size (by omega) (by intro e; injection e; omega)).trans hX3
  have hRb4 := (hG24.block w.heap.size (by omega) (by intro e; injection e; omega)).trans hRb2
  have hN4 := nrow_grown hN2' hG24 (by omega)
  have hG4 := grown_trans hG2 hG24
  have hz4 : w2.heap.size + 1 ≤ w4.heap.size := Nat.le_trans hz3 hG34.size
  clear hX3 hG23 hR3 hz3 hG34 hG24 hG2 hRb2 hR2 hN2'
  obtain ⟨c0, f0⟩ := cell_fz hX4 0 _ rfl
  obtain ⟨o0, r0⟩ := cell_fz hRb4 0 _ rfl
  have hne : ¬ w2.heap.size = w.heap.size := by omega
  have hne2 : ¬ w.heap.size = w2.heap.size := by omega
  by_cases h0 : m = 0
  · subst h0
    have hC0 : (fun w' : World => w'.heap[w2.heap.size]? = some (.cells #[.slice ua L.length uc] 51 (0, 0))) w4.drew := hX4
    have gp : ∀ x : CW (fun w' : World => w'.heap[w2.heap.size]? = some (.cells #[.slice ua L.length uc] 51 (0, 0))), x.w.cell? ⟨w2.heap.size, 0, none⟩ = some (.slice ua L.length uc) := fun x => cell_arrS x.h 0 _ rfl
    have hba : ∀ {q : Prop}, (CW (fun w' : World => w'.heap[w2.heap.size]? = some (.cells #[.slice ua L.length uc] 51 (0, 0))) → q) ↔ q := CW.all hC0
    go_wp2_with fail
    refine heldE_begin 7 (fun w' : World => w'.heap[w2.heap.size]? = some (.cells #[.slice ua L.length uc] 51 (0, 0))) (by kernel_rfl) ?_
    refine heldE_here [true, true, true] (by kernel_rfl) (by kernel_rfl) (fun _ _ _ _ _ h => h) hC0 ?_
    dsimp only [pick]
    repeat (go_big_quiet_step (fail))
    refine wpQuiet_nil ?_
    have hR5 := hR4.of_below (drew_belowS (B := w4.heap.size) w4)
    have hN5 : NRow packC 34 w4.drew (w.heap.size + 1) (.slice ua L.length uc) L := hN4.frame (fun k _ => rfl)
    have hG5 : w.grownBy w4.drew (some b) := grown_low hG4 (drew_belowS _)
    have hRb5 : w4.drew.heap[w.heap.size]? = some (.cells #[.slice none 0 0] 51 (0, 0)) := hRb4
    have hz5 : w2.heap.size + 1 ≤ w4.drew.heap.size := hz4
    clear hba gp hX4 hRb4 hN4 hG4 hR4 c0 f0 o0 r0 hz4
    generalize w4.drew = w5 at *
    refine heldE_op 3 (by kernel_rfl) (by kernel_rfl) rfl (fun K hK => ?_)
    refine call_op 95 14 (enters_of Tryz.func95 (by kernel_rfl) rfl) #[.pointer (some ⟨b, 0, none⟩)] rfl rfl rfl rfl ?_
    refine (l11AnyPack_any w5 b a len cap _ hR5 (by omega)).mono ?_
    rintro e w6 ⟨name, ver, nv, nL, tv, ts, rfl, hname, hQ⟩
    have hX6 := (hQ.grown.block w2.heap.size (by omega) (by intro e; injection e; omega)).trans hC0
    have hRb6 := (hQ.grown.block w.heap.size (by omega) (by intro e; injection e; omega)).trans hRb5
    have hN6 := nrow_grown hN5 hQ.grown (by omega)
    have hG6 := grown_trans hG5 hQ.grown
    have hz6 := Nat.le_trans hz5 hQ.grown.size
    have hw56 := hQ.grown.size
    obtain ⟨p6, hp6, hR6⟩ := hQ.rd
    have hdp := hQ.pack hname
    obtain ⟨F6, hown6, hf6⟩ := hQ.k.own name ver
    refine ⟨_, rfl, hK.out _ _ hX6 ?_⟩
    simp only [Act.put, List.setIfInBounds_toArray, List.set_cons_zero, List.set_cons_succ]
    clear hK K hC0 hR5 hN5 hG5 hRb5
    refine heldE_op 4 (by kernel_rfl) (by kernel_rfl) rfl (fun K hK => ?_)
    go_simp
    have hP7 := World.alloc_heap_new w6 (.cells #[.string name, .string ver, nv, tv] 34)
    have hG67 : w6.grownBy (w6.alloc (.cells #[.string name, .string ver, nv, tv] 34)) (some b) := World.grownBy_alloc w6 _ (some b)
    have hb67 : Below w6.heap.size w6 (w6.alloc (.cells #[.string name, .string ver, nv, tv] 34)) := (Below.refl _ w6).alloc (Nat.le_refl _) _
    have hR7 := hR6.alloc (.cells #[.string name, .string ver, nv, tv] 34)
    have hX7 := (hG67.block w2.heap.size (by omega) (by intro e; injection e; omega)).trans hX6
    refine hK.out _ _ hX7 ?_
    clear hK K
    generalize w6.alloc (.cells #[.string name, .string ver, nv, tv] 34) = w7 at hP7 hG67 hR7 hX7 hb67 ⊢
    have hRb7 := (hG67.block w.heap.size (by omega) (by intro e; injection e; omega)).trans hRb6
    have hN7 := nrow_grown hN6 hG67 (by omega)
    have hG7 := grown_trans hG6 hG67
    have hz7 := Nat.le_trans hz6 hG67.size
    have hown7 : packC.own w7 [.string name, .string ver, nv, tv] (⟨name, ver, itD nL, dEnts ts⟩ : PackD) F6 := packC.frame hown6 (fun k hk => hb67.block k (hf6 k hk).2)
    have hM7 : Items packC w7 (w.heap.size + 1) (L ++ [(([.string name, .string ver, nv, tv], (⟨name, ver, itD nL, dEnts ts⟩ : PackD), F6) : It packC)]) := hN7.items.snoc (M := w5.heap.size) hown7 (fun k hk => by have := unhid HBS k (.inr hk); omega) (fun k hk => by have := (hf6 k hk).1; omega) (by omega)
    have hap7 : ∀ g, (Value.slice ua L.length uc).ownBlock = some g → g ∉ itF [(([.string name, .string ver, nv, tv], (⟨name, ver, itD nL, dEnts ts⟩ : PackD), F6) : It packC)] := fun g hg hk => by
      have h1 := unhid HBS g (.inl hg)
      have h2 := (hf6 g (by simpa [itF] using hk)).1
      omega
    refine heldE_op 5 (by kernel_rfl) (by kernel_rfl) rfl (fun K hK => ?_)
    refine op_items etPack onePack w7 16 _ _ rfl rfl rfl (w.heap.size + 1) (.slice ua L.length uc) L [(([.string name, .string ver, nv, tv], (⟨name, ver, itD nL, dEnts ts⟩ : PackD), F6) : It packC)] w6.heap.size 0 1 hN7 hM7 hap7 (fun j u hj => by rw [Nat.zero_add]; exact cell_arrS hP7 _ _ (by simpa [itCells] using hj)) (by simp; omega) (by omega) rfl (by simp [Act.eval]) ?_
    intro nw wA hgr
    have hgA : w7.grownBy wA (Value.slice ua L.length uc).ownBlock := hgr.by_
    have hBA : Below (w.heap.size + 1) w7 wA := ⟨hgA.os, hgA.tape, hgA.output, hgA.size, fun k hk => hgA.block k (by omega) (fun e => by have := (hN7.base k (.inl e.symm)).1; omega)⟩
    have hXA := (hgA.block w2.heap.size (by omega) (fun e => by have := unhid HBS _ (.inl e.symm); omega)).trans hX7
    have hRbA := (hBA.block w.heap.size (by omega)).trans hRb7
    refine hK.out _ _ hXA ?_
    simp only [Act.put, List.setIfInBounds_toArray, List.set_cons_zero, List.set_cons_succ]
    clear hK K
    have hba : ∀ {q : Prop}, (CW (fun w' : World => w'.heap[w2.heap.size]? = some (.cells #[.slice ua L.length uc] 51 (0, 0))) → q) ↔ q := CW.all hXA
    refine heldE_here [false, false, false, false, false, false, true] (by kernel_rfl) (by kernel_rfl) (fun _ _ _ _ _ h => h) hXA ?_
    dsimp only [pick]
    repeat (go_big_quiet_step (fail))
    refine wpQuiet_nil ?_
    clear hba
    obtain ⟨ra, rn, rc, rfl⟩ : ∃ a n c, nw = .slice a n c := by obtain ⟨a, c, e⟩ := grew_slice hgr; exact ⟨_, _, _, e⟩
    have hNA := hgr.row
    have hzA := hgA.size
    have hnX : ∀ k, ((Value.slice ra rn rc).ownBlock = some k ∨ k ∈ itF (L ++ [(([.string name, .string ver, nv, tv], (⟨name, ver, itD nL, dEnts ts⟩ : PackD), F6) : It packC)])) → k ≠ w2.heap.size := fun k hk => by
      rcases hk with hk | hk
      · rcases hgr.block with h | h
        · rw [h] at hk; have := unhid HBS k (.inl hk); omega
        · rw [h] at hk; injection hk with hk; omega
      · rw [itF_app] at hk
        rcases List.mem_append.1 hk with hk | hk
        · have := unhid HBS k (.inr hk); omega
        · have := (hf6 k (by simpa [itF] using hk)).1; omega
    have hRA := Rd.low hR7 hBA (by omega)
    have hGA := grown_low hG7 (hBA.mono (by omega))
    obtain ⟨c0, f0⟩ := cell_fz hXA 0 _ rfl
    have hBw : Below w2.heap.size wA (wA.setCell ⟨w2.heap.size, 0, none⟩ (.slice ra rn rc)) := (Below.refl _ wA).setCell (p := ⟨w2.heap.size, 0, none⟩) (Nat.le_refl _) _
    have hBw2 : Below w.heap.size wA ((wA.setCell ⟨w2.heap.size, 0, none⟩ (.slice ra rn rc)).setCell ⟨w.heap.size, 0, none⟩ (.slice ra rn rc)) := (hBw.mono (show w.heap.size ≤ w2.heap.size by omega)).setCell (p := ⟨w.heap.size, 0, none⟩) (Nat.le_refl _) _
    have HF := hid (show AQ w b a len cap (p + 1000) ((wA.setCell ⟨w2.heap.size, 0, none⟩ (.slice ra rn rc)).setCell ⟨w.heap.size, 0, none⟩ (.slice ra rn rc)) (.slice ra rn rc) (itD (L ++ [(([.string name, .string ver, nv, tv], (⟨name, ver, itD nL, dEnts ts⟩ : PackD), F6) : It packC)])) from ⟨nrow_keep (hNA.frame (fun k hk => by
      rw [Below.heap_setCell _ _ _ _ (by have := (hNA.base k hk).1; dsimp only; omega), Below.heap_setCell _ _ _ _ (hnX k hk)])) (by omega), fun d hd => by
        rw [itD_app] at hd
        rcases List.mem_append.1 hd with hd | hd
        · exact unhid HOK d hd
        · rw [List.mem_singleton.1 (show d ∈ [(⟨name, ver, itD nL, dEnts ts⟩ : PackD)] from hd)]; exact hdp, by rw [itD_len, List.length_append]; simp; omega, ⟨p6, by omega, Rd.low hRA hBw2 hbl⟩, grown_low hGA hBw2⟩)
    have hXB := hid (heap_setCell_same wA w2.heap.size 0 _ _ (.slice ra rn rc) hXA)
    have hRbB := hid ((Below.heap_setCell wA ⟨w2.heap.size, 0, none⟩ (.slice ra rn rc) w.heap.size (by dsimp only; omega)).trans hRbA)
    refine heldE_last (by kernel_rfl) (by kernel_rfl) rfl (fun K hK => ?_)
    go_simp
    refine hK.out _ _ ?_
    clear hK K c0 f0
    refine heldE_done (by kernel_rfl) ?_
    clear hBw hBw2 hXA hRbA hNA hnX hRA hGA hgr hgA hBA hM7 hap7 hN7 hG7 hR7 hX7 hRb7 hown7 hP7 hG67 hb67 hown6 hf6 hQ hN6 hG6 hR6 hRb6 hX6
    generalize wA.setCell ⟨w2.heap.size, 0, none⟩ (.slice ra rn rc) = wB at *
    obtain ⟨c0, f0⟩ := cell_fz (unhid hXB) 0 _ rfl
    obtain ⟨o0, r0⟩ := cell_fz (unhid hRbB) 0 _ rfl
    clear hXB hRbB
    go_wp2_with fail
    exact bodyPost_ret (v := .agg #[.slice ra rn rc]) (by simp [results, Tryz.results77, go_sem, World.cell?_setCell_same', o0]) rfl ⟨_, _, rfl, unhid HF⟩
  · have e0 : ((m : Int) == 0) = false := by rw [beq_eq_false_iff_ne]; omega
    have e0i : ¬ ((m : Int) = 0) := by omega
    have HSAME := hid (fun (v : Value) => (show Below w.heap.size w4 (w4.setCell ⟨w.heap.size, 0, none⟩ v) from (Below.refl _ w4).setCell (p := ⟨w.heap.size, 0, none⟩) (Nat.le_refl _) v))
    have HN4 := hid hN4
    by_cases h1 : m = 1
    · subst h1
      by_cases hl0 : 0 < L.length
      · obtain ⟨g, rfl⟩ : ∃ g, ua = some ⟨g, 0, none⟩ := by
          rcases hN4.row.2 with ⟨_, h⟩ | ⟨g, cap', cur, e, _⟩
          · omega
          · exact ⟨g, by injection e⟩
        have hc1 : L.length ≤ uc := by
          rcases hN4.row.2 with ⟨e, _⟩ | ⟨g, cap', cur, e, _, _, hc, _⟩
          · cases e
          · injection e with _ _ e3; omega
        have hl1 : (0 : Int) < (L.length : Int) := by omega
        have h1l : 1 ≤ L.length := hl0
        have HF := hid (fun (A : Option Addr) (hA : A = if uc = 1 then some ⟨g, 0, none⟩ else some ⟨g, 4, none⟩) => (show AQ w b a len cap (p + 1000) ((w4.setCell ⟨w2.heap.size, 0, none⟩ (.slice A (L.length - 1) (uc - 1))).setCell ⟨w.heap.size, 0, none⟩ (.slice A (L.length - 1) (uc - 1))) (.slice A (L.length - 1) (uc - 1)) ((itD L).drop 1) from by
          have hB1 : Below w.heap.size w4 (w4.setCell ⟨w2.heap.size, 0, none⟩ (.slice A (L.length - 1) (uc - 1))) := (Below.refl _ w4).setCell (p := ⟨w2.heap.size, 0, none⟩) (by dsimp only; omega) _
          have hB2 := hB1.setCell (p := ⟨w.heap.size, 0, none⟩) (Nat.le_refl _) (.slice A (L.length - 1) (uc - 1))
          refine ⟨fun W' hg => ?_, fun d hd => unhid HOK d (List.mem_of_mem_drop hd), by rw [List.length_drop, itD_len]; omega, ⟨_, by omega, Rd.low hR4 hB2 hbl⟩, grown_low hG4 hB2⟩
          have hN5 : NRow packC 34 ((w4.setCell ⟨w2.heap.size, 0, none⟩ (.slice A (L.length - 1) (uc - 1))).setCell ⟨w.heap.size, 0, none⟩ (.slice A (L.length - 1) (uc - 1))) (w.heap.size + 1) (.slice (some ⟨g, 0, none⟩) L.length uc) L := (unhid HN4).frame (fun k hk => by
            rw [Below.heap_setCell _ _ _ _ (by have := ((unhid HN4).base k hk).1; dsimp only; omega), Below.heap_setCell _ _ _ _ (by have := unhid HBS k hk; dsimp only; omega)])
          have h1 := nrow_keep hN5 (b := b) (by omega) W' hg
          have h2 := row_tail (ps := itD L) (A := A) (by rw [itD_len]; exact h1) hA (by rw [itD_len]; omega)
          rwa [itD_len] at h2))
        clear hX4 hRb4 hN4 hR4 hG4
        by_cases huc : uc = 1
        · subst huc
          have HG := hid (unhid HF (some ⟨g, 0, none⟩) (by rw [if_pos rfl]))
          simp only [Nat.sub_self, show L.length - 1 = 0 by omega] at HG
          go_wp2_with fail
          exact bodyPost_ret (v := .agg #[.slice (some ⟨g, 0, none⟩) 0 0]) (by simp [results, Tryz.results77, go_sem, World.cell?_setCell_same', o0]) rfl ⟨_, _, rfl, unhid HG⟩
        · have HG := hid (unhid HF (some ⟨g, 4, none⟩) (by rw [if_neg huc]))
          go_wp2_with fail
          exact bodyPost_ret (v := .agg #[.slice (some ⟨g, 4, none⟩) (L.length - 1) (uc - 1)]) (by simp [results, Tryz.results77, go_sem, World.cell?_setCell_same', o0]) rfl ⟨_, _, rfl, unhid HG⟩
      · have hl1 : ¬ ((0 : Int) < (L.length : Int)) := by omega
        have hl2 : L.length = 0 := by omega
        have HF := hid (show AQ w b a len cap (p + 1000) (w4.setCell ⟨w.heap.size, 0, none⟩ (.slice ua L.length uc)) (.slice ua L.length uc) (itD L) from ⟨nrow_keep ((unhid HN4).frame (fun k hk => Below.heap_setCell _ _ _ _ (by have := ((unhid HN4).base k hk).1; dsimp only; omega))) (by omega), unhid HOK, by rw [itD_len]; omega, ⟨_, by omega, Rd.low hR4 (unhid HSAME _) hbl⟩, grown_low hG4 (unhid HSAME _)⟩)
        clear hX4 hRb4 hN4 hG4 hR4 hl2
        go_wp2_with fail
        exact bodyPost_ret (v := .agg #[.slice ua L.length uc]) (by simp [results, Tryz.results77, go_sem, World.cell?_setCell_same', o0]) rfl ⟨_, _, rfl, unhid HF⟩
    · have e1 : ((m : Int) == 1) = false := by rw [beq_eq_false_iff_ne]; omega
      have e1i : ¬ ((m : Int) = 1) := by omega
      have HF := hid (show AQ w b a len cap (p + 1000) (w4.setCell ⟨w.heap.size, 0, none⟩ (.slice ua L.length uc)) (.slice ua L.length uc) (itD L) from ⟨nrow_keep ((unhid HN4).frame (fun k hk => Below.heap_setCell _ _ _ _ (by have := ((unhid HN4).base k hk).1; dsimp only; omega))) (by omega), unhid HOK, by rw [itD_len]; omega, ⟨_, by omega, Rd.low hR4 (unhid HSAME _) hbl⟩, grown_low hG4 (unhid HSAME _)⟩)
      clear hX4 hRb4 hN4 hG4 hR4
      go_wp2_with fail
      exact bodyPost_ret (v := .agg #[.slice ua L.length uc]) (by simp [results, Tryz.results77, go_sem, World.cell?_setCell_same', o0]) rfl ⟨_, _, rfl, unhid HF⟩
end Go.Proofs.YtoihhlkidlapmaaGreat

namespace Go.Proofs.YtoihhlkidlapmaaGreat
open Go.RowKit
structure Drawn (w W : World) (v : Value) (es : List Ent) : Prop where
  v : TreeV W w.heap.size v es
  nice : ∀ e ∈ es, niceE e
  few : es.length ≤ 17
  below : Below w.heap.size w W
theorem Drawn.small {w W : World} {v : Value} {es : List Ent} (h : Drawn w W v es) : smallE es :=
  ⟨by have := h.few; omega, fun e he => ⟨by have := nice_short (h.nice e he).1; omega, by have : e.text.size ≤ 100 := (h.nice e he).2; omega⟩⟩
end Go.Proofs.YtoihhlkidlapmaaGreat

namespace Go.Proofs.YtoihhlkidlapmaaGreat
open Go.RowKit Go.Shelf
structure DR (W : World) (v : Value) (ps : List packC.D) : Prop where
  row : rowAt packC W v ps
  ok : ∀ d ∈ ps, DPk d
  few : ps.length ≤ 8
theorem DR.below {W W' : World} {v : Value} {ps : List packC.D} (h : DR W v ps) (hb : Below W.heap.size W W') : DR W' v ps := ⟨h.row.below hb, h.ok, h.few⟩
theorem DR.small {W : World} {v : Value} {ps : List packC.D} (h : DR W v ps) : smallPs ps := ⟨by have := h.few; omega, fun d hd => (h.ok d hd).small⟩
theorem code_on {w w' : World} {a : Option Addr} {len : Nat} (h : Code w w.heap.size a len) (hb : Below w.heap.size w w') : Code w' w'.heap.size a len := by
  rcases h with h | ⟨blk, off, ha, hbk, hc⟩
  · exact .inl h
  · refine .inr ⟨blk, off, ha, Nat.lt_of_lt_of_le hbk hb.size, fun k hk => ?_⟩
    obtain ⟨c, h1, h2⟩ := hc k hk
    exact ⟨c, h1, (hb.cell (p := ⟨blk, off + k, none⟩) hbk).trans h2⟩
theorem aq_dr {w : World} {b : Nat} {a : Option Addr} {len cap q : Nat} {W : World} {v : Value} {ps : List packC.D} (h : AQ w b a len cap q W v ps) {W' : World} (hg : ∀ k, b < k → k < W.heap.size → W'.heap[k]? = W.heap[k]?) : DR W' v ps := ⟨h.keep W' hg, h.ok, h.few⟩
end Go.Proofs.YtoihhlkidlapmaaGreat

namespace Go.Proofs.YtoihhlkidlapmaaGreat
open Go.RowKit Go.Shelf
theorem jr_str (d : Nat) (a b : ByteArray) (w : World) : (Op.equalIn (d + 1) 9 (.string a) (.string b)).run Tryz.prog w = .ok (a == b) w := by
  simp [Op.equalIn, run_underlying Tryz.underlying9]
theorem jr_int (d : Nat) (k m : Int) (w : World) : (Op.equalIn (d + 1) 3 (.int .i64 k) (.int .i64 m)).run Tryz.prog w = .ok (k == m) w := by
  simp [Op.equalIn, run_underlying Tryz.underlying3]
theorem jr_need (d : Nat) (n v : ByteArray) (k : Int) (w : World) : (Op.equalIn (d + 1 + 1) 36 (.agg #[.string n, .int .i64 k, .string v]) (.agg #[.string n, .int .i64 k, .string v])).run Tryz.prog w = .ok true w := by
  have h0 : (program).run Tryz.prog w = .ok Tryz.prog w := by kernel_rfl
  have h1 : Tryz.prog.stoodInHeld 36 = false := by kernel_rfl
  have e0 : (part 9 #[.string n, .int .i64 k, .string v] 0).run Tryz.prog w = .ok (.string n) w := by kernel_rfl
  have e1 : (part 3 #[.string n, .int .i64 k, .string v] 1).run Tryz.prog w = .ok (.int .i64 k) w := by kernel_rfl
  have e2 : (part 9 #[.string n, .int .i64 k, .string v] 2).run Tryz.prog w = .ok (.string v) w := by kernel_rfl
  have b1 : (n == n) = true := by rw [beq_toListBytes]; simp
  have b2 : (v == v) = true := by rw [beq_toListBytes]; simp
  unfold Op.equalIn
  simp only [Sem.run_bind, run_underlying Tryz.underlying36, Result.andThen_ok, h0, h1, Bool.false_eq_true, if_false, List.forIn_toArray, List.forIn_cons, List.forIn_nil]
  rw [if_pos (by decide)]
  simp only [Sem.run_bind, e0, jr_str, Result.andThen_ok, b1, Bool.not_true, Bool.false_eq_true, if_false, Sem.run_pure]
  rw [if_pos (by decide)]
  simp only [Sem.run_bind, e1, jr_int, Result.andThen_ok, beq_self_eq_true, Bool.not_true, Bool.false_eq_true, if_false, Sem.run_pure]
  rw [if_pos (by decide)]
  simp [Sem.run_bind, e2, jr_str, Sem.run_pure, b2]
theorem jr_ne (n v : ByteArray) (k : Int) (w : World) : (binOp .neq 36 (.agg #[.string n, .int .i64 k, .string v]) (.agg #[.string n, .int .i64 k, .string v])).run Tryz.prog w = .ok (.bool false) w := by
  simp only [binOp]
  simp [Op.equal, Op.maxDepth, jr_need 9998]
set_option maxRecDepth 100000 in
set_option maxHeartbeats 4000000 in
theorem jsNeeds_same (ds : List needC.D) (v v' : Value) (w : World) (hl : ds.length ≤ 1048576) (h : rowAt needC w v ds) (h2 : rowAt needC w v' ds) :
    Calls Tryz.prog 216 #[v, v'] w fun r w' => r = .returned (.bool true) ∧ Below w.heap.size w w' := by
  obtain ⟨a, cap, rfl, -, -, h⟩ := h
  obtain ⟨a', cap', rfl, -, -, h2⟩ := h2
  go_enter Tryz.func216, Tryz.ntmps216
  go_wp2_with fail
  go_loopw [5] (fun i wr => ∃ k : Nat, k ≤ ds.length ∧ i = .int .i64 k ∧ Below w.heap.size w wr) (fun i _ => ds.length - (intOf i).toNat)
  case atStart => exact ⟨0, Nat.zero_le _, rfl, Below.refl _ _⟩
  case round =>
    obtain ⟨k, hk, rfl, hB⟩ := hrel
    by_cases hlt : k < ds.length
    · have hne0 : ds ≠ [] := by intro e; subst e; simp at hlt
      obtain ⟨b, o, rfl, hb, hc⟩ := h.resolve_left hne0
      obtain ⟨b', o', rfl, hb', hc'⟩ := h2.resolve_left hne0
      obtain ⟨e, he⟩ : ∃ e, ds[k]? = some e := ⟨ds[k], List.getElem?_eq_getElem hlt⟩
      obtain ⟨c0, c1, c2⟩ := need_cells hB hb hc he
      obtain ⟨d0, d1, d2⟩ := need_cells hB hb' hc' he
      have hne := jr_ne (NeedD.name e) (NeedD.version e) (NeedD.kind e)
      have HB := hid hB
      have HH := hid (And.intro h (And.intro h2 (And.intro hc hc')))
      clear hc hc' hB he h h2
      go_wp2_with fail
      go_quiet (fail)
      go_wp2_with fail
      go_roundw
      case rel => exact ⟨k + 1, by omega, by go_num, (unhid HB).trans (drewN_below _ _)⟩
      case measure => simp [intOf]; omega
    · have e : k = ds.length := by omega
      subst e
      go_wp2_with fail
      go_ret
      exact ⟨rfl, hB⟩
set_option maxRecDepth 100000 in
set_option maxHeartbeats 4000000 in
theorem jsPack_same (d : packC.D) (cs cs' : List Value) (w : World) (hs : smallP d) (h : packC.at_ w cs d) (h2 : packC.at_ w cs' d) :
    Calls Tryz.prog 148 #[.agg cs.toArray, .agg cs'.toArray] w fun r w' => r = .returned (.bool true) ∧ Below w.heap.size w w' := by
  obtain ⟨v2, v3, rfl, p2, p3⟩ := packC_at h
  obtain ⟨u2, u3, rfl, q2, q3⟩ := packC_at h2
  have hB := two_boxes w (.cells #[.string (PackD.name d), .string (PackD.version d), v2, v3] 34) (.cells #[.string (PackD.name d), .string (PackD.version d), u2, u3] 34)
  have hb := alloc2_below w (.cells #[.string (PackD.name d), .string (PackD.version d), v2, v3] 34) (.cells #[.string (PackD.name d), .string (PackD.version d), u2, u3] 34)
  obtain ⟨a3, k3, hv3, -, -, r3⟩ := entsD_at p3
  obtain ⟨b3, e3, hw3, -, -, s3⟩ := entsD_at q3
  subst hv3 hw3
  obtain ⟨na, nc, rfl, -⟩ := rowAt.slice p2
  obtain ⟨ma, mc, rfl, -⟩ := rowAt.slice q2
  have HN := hid (And.intro p2 q2)
  have HT := hid (And.intro r3 s3)
  have hsn := hs.needs.1
  have hst := hs.tree.1
  have et : ∀ xs : List Ent, eqEs xs xs = true := eqEs_self
  clear p2 q2 r3 s3 p3 q3 h h2
  have b1 : (PackD.name d == PackD.name d) = true := by rw [beq_toListBytes]; simp
  have b2 : (PackD.version d == PackD.version d) = true := by rw [beq_toListBytes]; simp
  go_enter Tryz.func148, Tryz.ntmps148
  go_wp2_with fail
  generalize (w.alloc (.cells #[.string (PackD.name d), .string (PackD.version d), .slice na (PackD.needs d).length nc, .slice a3 (entsD (PackD.tree d)).length k3] 34)).alloc (.cells #[.string (PackD.name d), .string (PackD.version d), .slice ma (PackD.needs d).length mc, .slice b3 (entsD (PackD.tree d)).length e3] 34) = w0 at hB hb ⊢
  obtain ⟨hP, hQ, hS⟩ := hB
  have c0 := cell_arrS hP 0 _ rfl
  have c1 := cell_arrS hP 1 _ rfl
  have c2 := cell_arrS hP 2 _ rfl
  have d0 := cell_arrS hQ 0 _ rfl
  have d1 := cell_arrS hQ 1 _ rfl
  have d2 := cell_arrS hQ 2 _ rfl
  go_wp2_with fail
  refine (jsNeeds_same (PackD.needs d) _ _ w0 hsn ((unhid HN).1.below hb) ((unhid HN).2.below hb)).mono ?_
  rintro x w1 ⟨rfl, hb1⟩
  have hP1 := (hb1.block _ (by omega)).trans hP
  have hQ1 := (hb1.block _ hS).trans hQ
  have hB1 := hb.trans (hb1.mono hb.size)
  clear hP hQ c0 c1 c2 d0 d1 d2 hb hb1
  have c3 := cell_arrS hP1 3 _ rfl
  have d3 := cell_arrS hQ1 3 _ rfl
  have JT := hid (jsTree_any (entsD (PackD.tree d)) (entsD (PackD.tree d)) a3 b3 k3 e3 w1 (by unfold maxLen; omega) (by unfold maxLen; omega) ((unhid HT).1.below hB1) ((unhid HT).2.below hB1))
  go_wp2_with fail
  refine (unhid JT).mono ?_
  rintro x w2 ⟨rfl, hb2⟩
  have HB2 := hid (hB1.trans (hb2.mono hB1.size))
  rw [et]
  clear hP1 hQ1 c3 d3 hB1 hb2 JT
  go_wp2_with fail
  go_ret
  exact ⟨rfl, unhid HB2⟩
set_option maxRecDepth 100000 in
set_option maxHeartbeats 4000000 in
theorem jsPacks_same (ps : List packC.D) (v v' : Value) (w : World) (hs : smallPs ps) (h : rowAt packC w v ps) (h2 : rowAt packC w v' ps) :
    Calls Tryz.prog 92 #[v, v'] w fun r w' => r = .returned (.bool true) ∧ Below w.heap.size w w' := by
  obtain ⟨a, cap, rfl, -, -, h⟩ := h
  obtain ⟨a', cap', rfl, -, -, h2⟩ := h2
  have hl := hs.1
  have HS := hid hs
  clear hs
  go_enter Tryz.func92, Tryz.ntmps92
  go_wp2_with fail
  go_loopw [5] (fun i wr => ∃ k : Nat, k ≤ ps.length ∧ i = .int .i64 k ∧ Hid (Below w.heap.size w wr)) (fun i _ => ps.length - (intOf i).toNat)
  case atStart => exact ⟨0, Nat.zero_le _, rfl, Below.refl _ _⟩
  case round =>
    obtain ⟨k, hk, rfl, HB⟩ := hrel
    by_cases hlt : k < ps.length
    · have hne0 : ps ≠ [] := by intro e; subst e; simp at hlt
      obtain ⟨b, o, rfl, hb, hc⟩ := h.resolve_left hne0
      obtain ⟨b', o', rfl, hb', hc'⟩ := h2.resolve_left hne0
      obtain ⟨e, he⟩ : ∃ e, ps[k]? = some e := ⟨ps[k], List.getElem?_eq_getElem hlt⟩
      have hes := (unhid HS).2 e (List.mem_of_getElem? he)
      obtain ⟨na, nc, ta, tc, ⟨c0, c1, c2, c3⟩, hat⟩ := pack_cells (unhid HB) hb hc he
      obtain ⟨na', nc', ta', tc', ⟨d0, d1, d2, d3⟩, hat'⟩ := pack_cells (unhid HB) hb' hc' he
      have hbw : b < wr.heap.size := Nat.lt_of_lt_of_le hb (unhid HB).size
      have hbw' : b' < wr.heap.size := Nat.lt_of_lt_of_le hb' (unhid HB).size
      have gc0 : ∀ x : CW (fun w' => Below wr.heap.size wr w'), x.w.cell? ⟨b, o + k * 4, none⟩ = some (.string (PackD.name e)) := fun x => (x.h.cell (p := ⟨b, o + k * 4, none⟩) hbw).trans c0
      have gc1 : ∀ x : CW (fun w' => Below wr.heap.size wr w'), x.w.cell? ⟨b, o + k * 4 + 1, none⟩ = some (.string (PackD.version e)) := fun x => (x.h.cell (p := ⟨b, o + k * 4 + 1, none⟩) hbw).trans c1
      have gc2 : ∀ x : CW (fun w' => Below wr.heap.size wr w'), x.w.cell? ⟨b, o + k * 4 + 2, none⟩ = some (.slice na (PackD.needs e).length nc) := fun x => (x.h.cell (p := ⟨b, o + k * 4 + 2, none⟩) hbw).trans c2
      have gc3 : ∀ x : CW (fun w' => Below wr.heap.size wr w'), x.w.cell? ⟨b, o + k * 4 + 3, none⟩ = some (.slice ta (PackD.tree e).length tc) := fun x => (x.h.cell (p := ⟨b, o + k * 4 + 3, none⟩) hbw).trans c3
      have gd0 : ∀ x : CW (fun w' => Below wr.heap.size wr w'), x.w.cell? ⟨b', o' + k * 4, none⟩ = some (.string (PackD.name e)) := fun x => (x.h.cell (p := ⟨b', o' + k * 4, none⟩) hbw').trans d0
      have gd1 : ∀ x : CW (fun w' => Below wr.heap.size wr w'), x.w.cell? ⟨b', o' + k * 4 + 1, none⟩ = some (.string (PackD.version e)) := fun x => (x.h.cell (p := ⟨b', o' + k * 4 + 1, none⟩) hbw').trans d1
      have gd2 : ∀ x : CW (fun w' => Below wr.heap.size wr w'), x.w.cell? ⟨b', o' + k * 4 + 2, none⟩ = some (.slice na' (PackD.needs e).length nc') := fun x => (x.h.cell (p := ⟨b', o' + k * 4 + 2, none⟩) hbw').trans d2
      have gd3 : ∀ x : CW (fun w' => Below wr.heap.size wr w'), x.w.cell? ⟨b', o' + k * 4 + 3, none⟩ = some (.slice ta' (PackD.tree e).length tc') := fun x => (x.h.cell (p := ⟨b', o' + k * 4 + 3, none⟩) hbw').trans d3
      have hba : ∀ {q : Prop}, (CW (fun w' => Below wr.heap.size wr w') → q) ↔ q := CW.all (Below.refl _ wr)
      have HH := hid (And.intro h (And.intro h2 (And.intro hc hc')))
      have HAT := hid (And.intro hat hat')
      clear hc hc' he h h2 c0 c1 c2 c3 d0 d1 d2 d3 hat hat'
      go_wp2_with fail
      refine held_begin (fun w' => Below wr.heap.size wr w') (by kernel_rfl) (drew_belowS _) ?_
      refine held_here [true, true, true, true, true, true, true, true] (by kernel_rfl) (by kernel_rfl) (fun _ _ _ _ _ h => h) (drew_belowS _) ?_
      dsimp only [pick]
      repeat (go_big_quiet_step (fail))
      refine wpQuiet_nil ?_
      have hD := drew_belowS (B := wr.heap.size) wr
      generalize hdr : wr.drew = w1 at hD ⊢
      clear hdr gc0 gc1 gc2 gc3 gd0 gd1 gd2 gd3
      refine held_call 8 148 25 (enters_of Tryz.func148 (by kernel_rfl) rfl) #[.agg #[.string (PackD.name e), .string (PackD.version e), .slice na (PackD.needs e).length nc, .slice ta (PackD.tree e).length tc], .agg #[.string (PackD.name e), .string (PackD.version e), .slice na' (PackD.needs e).length nc', .slice ta' (PackD.tree e).length tc']] (by kernel_rfl) (by kernel_rfl) rfl rfl rfl rfl rfl ?_
      refine (jsPack_same e _ _ w1 hes (packC.below (unhid HAT).1 hD) (packC.below (unhid HAT).2 hD)).mono ?_
      rintro x w2 ⟨rfl, hb2⟩
      have hD2 := hD.trans (hb2.mono hD.size)
      refine ⟨_, rfl, hD2, ?_⟩
      simp only [Act.put, List.setIfInBounds_toArray, List.set_cons_zero, List.set_cons_succ]
      refine held_here [false, false, false, false, false, false, false, false, false, true] (by kernel_rfl) (by kernel_rfl) (fun _ _ _ _ _ h => h) hD2 ?_
      dsimp only [pick]
      repeat (go_big_quiet_step (fail))
      refine wpQuiet_nil ?_
      refine held_done (by kernel_rfl) ?_
      have HB2 := hid ((unhid HB).trans (hD2.mono (unhid HB).size))
      clear hba hD hD2 hb2 HB
      go_wp2_with fail
      go_roundw
      case rel => exact ⟨k + 1, by omega, by go_num, HB2⟩
      case measure => simp [intOf]; omega
    · have e : k = ps.length := by omega
      subst e
      go_wp2_with fail
      go_ret
      exact ⟨rfl, unhid HB⟩
set_option maxRecDepth 100000 in
set_option maxHeartbeats 4000000 in
theorem jsRoot_same (ps : List packC.D) (v v' : Value) (w : World) (hs : smallPs ps) (h : rowAt packC w v ps) (h2 : rowAt packC w v' ps) :
    Calls Tryz.prog 41 #[.agg #[v], .agg #[v']] w fun r w' => r = .returned (.bool true) ∧ Below w.heap.size w w' := by
  obtain ⟨a, c, rfl, -⟩ := rowAt.slice h
  obtain ⟨a', c', rfl, -⟩ := rowAt.slice h2
  have hB := two_boxes w (.cells #[.slice a ps.length c] 51) (.cells #[.slice a' ps.length c'] 51)
  have hb := alloc2_below w (.cells #[.slice a ps.length c] 51) (.cells #[.slice a' ps.length c'] 51)
  have H := hid (And.intro h h2)
  clear h h2
  go_enter Tryz.func41, Tryz.ntmps41
  go_wp2_with fail
  generalize (w.alloc (.cells #[.slice a ps.length c] 51)).alloc (.cells #[.slice a' ps.length c'] 51) = w0 at hB hb ⊢
  obtain ⟨hP, hQ, hS⟩ := hB
  have c0 := cell_arrS hP 0 _ rfl
  have d0 := cell_arrS hQ 0 _ rfl
  go_wp2_with fail
  refine (jsPacks_same ps _ _ w0 hs ((unhid H).1.below hb) ((unhid H).2.below hb)).mono ?_
  rintro x w1 ⟨rfl, hb1⟩
  have HB := hid (hb.trans (hb1.mono hb.size))
  clear hP hQ c0 d0 hb hb1
  go_wp2_with fail
  go_ret
  exact ⟨rfl, unhid HB⟩
end Go.Proofs.YtoihhlkidlapmaaGreat

namespace Go.Proofs.YtoihhlkidlapmaaGreat
open Go.ChangeShapes Go.WideShapes Go.ChangeAt Go.RowKit
theorem cells5 : Tryz.prog.cellsOf 5 = 1 := by kernel_rfl
theorem code_of {H : Type} {enc : TypeId × Value → H} {W : World} {a0 : Option Addr} {len cap : Nat} {d0 : DataW H} {p0 : List MemPlace}
    (h0 : DataW.Trod enc Tryz.prog W 0 (fun _ => true) true 22 (.slice a0 len cap) d0 p0) (hlt : ∀ x ∈ p0, x.block < W.heap.size) : Code W W.heap.size a0 len ∧ len ≤ cap := by
  obtain ⟨fuel, hf⟩ := h0
  rcases open_ints Tryz.underlying22 Tryz.underlying5 cells5 hf with ⟨hcs, hx⟩ | ⟨a, len', cap', zs, hcs, _, hl, hm, hz, hx, hcell, hwz⟩
  · simp [Value.cells] at hcs
    obtain ⟨rfl, rfl, rfl⟩ := hcs
    exact ⟨.inl rfl, Nat.le_refl _⟩
  · simp [Value.cells] at hcs
    obtain ⟨rfl, rfl, rfl⟩ := hcs
    simp only [Prod.mk.injEq] at hx
    obtain ⟨rfl, rfl⟩ := hx
    simp only [if_true] at hz
    refine ⟨?_, hl⟩
    by_cases hl0 : len = 0
    · exact .inl hl0
    · obtain ⟨b, off, spot⟩ := a
      have hspot : spot = none := by simpa [Addr.add] using World.cell?_spot (hcell 0 (by omega))
      subst hspot
      have hbW : b < W.heap.size := hlt (.cell b off) (MemPlace.mem_row.2 ⟨0, by omega, by simp⟩)
      refine .inr ⟨b, off, rfl, hbW, fun k hk => ?_⟩
      have hk' : k < zs.length := by omega
      have hw := hwz (zs.getD k 0) (by simp [List.getD, List.getElem?_eq_getElem hk'])
      have hc := hcell k hk'
      rw [add_plain] at hc
      generalize zs.getD k 0 = z at hw hc
      have hx : 0 ≤ z ∧ z ≤ 255 := by simpa [Lit.wf, IntKind.min, IntKind.max, IntKind.signed, IntKind.bits] using hw
      exact ⟨z.toNat, by omega, by rw [hc, Int.toNat_of_nonneg hx.1]⟩
end Go.Proofs.YtoihhlkidlapmaaGreat

namespace Go.Proofs.YtoihhlkidlapmaaGreat
open Go.RowKit Go.Shelf
structure RR (W : World) (a : Option Addr) (c : Nat) (ps : List packC.D) : Prop where
  row : rowAt packC W (.slice a ps.length c) ps
  small : smallPs ps
  few : ps.length ≤ 100
theorem RR.below {W W' : World} {a : Option Addr} {c : Nat} {ps : List packC.D} (h : RR W a c ps) (hb : Below W.heap.size W W') : RR W' a c ps := ⟨h.row.below hb, h.small, h.few⟩
theorem rr_of {W : World} {N : Nat} {r : Value} {L : List (It packC)} {ps : List packC.D} (h : NRow packC 34 W N r L) (hL : itD L = ps) (hs : smallPs ps) (hf : ps.length ≤ 100) : ∃ a c, r = .slice a ps.length c ∧ RR W a c ps := by
  obtain ⟨F, h1, _⟩ := h.own
  have h2 := h1.toAt
  rw [hL] at h2
  obtain ⟨a, c, rfl, -⟩ := rowAt.slice h2
  exact ⟨a, c, rfl, h2, hs, hf⟩
structure PR (W : World) (cs : List Value) (p : packC.D) : Prop where
  at_ : packC.at_ W cs p
  small : smallP p
theorem PR.below {W W' : World} {cs : List Value} {p : packC.D} (h : PR W cs p) (hb : Below W.heap.size W W') : PR W' cs p := ⟨packC.below h.at_ hb, h.small⟩
theorem PR.cells {W : World} {cs : List Value} {p : packC.D} (h : PR W cs p) : ∃ na nc ta tc, cs = [.string (PackD.name p), .string (PackD.version p), .slice na (PackD.needs p).length nc, .slice ta (PackD.tree p).length tc] := by
  obtain ⟨v2, v3, rfl, p2, p3⟩ := packC_at h.at_
  obtain ⟨na, nc, rfl, -⟩ := rowAt.slice p2
  obtain ⟨ta, tc, rfl, -⟩ := rowAt.slice p3
  exact ⟨_, _, _, _, rfl⟩
theorem dr_rr {W : World} {v : Value} {ps : List packC.D} (h : DR W v ps) : ∃ a c, v = .slice a ps.length c ∧ RR W a c ps := by
  obtain ⟨a, c, rfl, -⟩ := rowAt.slice h.row
  exact ⟨a, c, rfl, h.row, h.small, by have := h.few; omega⟩
theorem jsRoot_r {W : World} {a a' : Option Addr} {c c' : Nat} {ps : List packC.D} (h : RR W a c ps) (h2 : RR W a' c' ps) : Calls Tryz.prog 41 #[.agg #[.slice a ps.length c], .agg #[.slice a' ps.length c']] W fun r w' => r = .returned (.bool true) ∧ Below W.heap.size W w' :=
  jsRoot_same ps _ _ W h.small h.row h2.row
def Turned (qs : List packC.D) (k : Int) (W : World) (x : Ending) (w' : World) : Prop := ∃ a c, x = .returned (.tuple #[.agg #[.slice a qs.length c], .int .i64 k]) ∧ RR w' a c qs ∧ Below W.heap.size W w'
theorem int_ne_self (k : Int) : (k != k) = false := by simp
theorem int_eq_self (k : Int) : (k == k) = true := by simp
def StaysW (Φ : World → Prop) : Prop := ∀ W W' : World, Below W.heap.size W W' → Φ W → Φ W'
structure KW (Φ : World → Prop) (W : World) : Prop where
  keeps : StaysW Φ
  now : Φ W
theorem KW.step {Φ : World → Prop} {W W' : World} (h : KW Φ W) (hb : Below W.heap.size W W') : KW Φ W' := ⟨h.keeps, h.keeps W W' hb h.now⟩
theorem KW.add {Φ Ψ : World → Prop} {W : World} (h : KW Φ W) (hk : StaysW Ψ) (hn : Ψ W) : KW (fun W => Φ W ∧ Ψ W) W := ⟨fun W W' hb hp => ⟨h.keeps W W' hb hp.1, hk W W' hb hp.2⟩, h.now, hn⟩
theorem KW.row {Φ : World → Prop} {W : World} (h : KW Φ W) {a : Option Addr} {c : Nat} {ps : List packC.D} (hr : RR W a c ps) : KW (fun W => Φ W ∧ RR W a c ps) W := h.add (fun _ _ hb hp => hp.below hb) hr
theorem KW.pack {Φ : World → Prop} {W : World} (h : KW Φ W) {cs : List Value} {p : packC.D} (hr : PR W cs p) : KW (fun W => Φ W ∧ PR W cs p) W := h.add (fun _ _ hb hp => hp.below hb) hr
theorem KW.box {Φ : World → Prop} {W : World} (h : KW Φ W) {g : Nat} {o : Obj} (hr : W.heap[g]? = some o) : KW (fun W => Φ W ∧ W.heap[g]? = some o) W := h.add (fun _ _ hb hp => (hb.block _ (Array.getElem?_eq_some_iff.1 hp).1).trans hp) hr
theorem KW.start (w : World) : KW (fun W => Below w.heap.size w W) w := ⟨fun _ _ hb hp => hp.trans (hb.mono hp.size), Below.refl _ w⟩
end Go.Proofs.YtoihhlkidlapmaaGreat
