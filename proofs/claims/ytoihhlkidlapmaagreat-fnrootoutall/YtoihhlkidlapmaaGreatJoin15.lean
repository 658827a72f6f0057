/- Texts of this proof, one behind the other; each says at its head what it shows. -/
import Derived.Test.YtoihhlkidlapmaaGreatJoin14
import Derived.Test.YtoihhlkidlapmaaGreatJoin9
import Derived.Test.YtoihhlkidlapmaaGreatJoin5
import Derived.Test.YtoihhlkidlapmaaGreatJoin12
import Derived.Test.YtoihhlkidlapmaaGreatJoin8
import Derived.Test.YtoihhlkidlapmaaGreatJoin11
import Derived.Test.YtoihhlkidlapmaaGreatJoin1
import Derived.Test.YtoihhlkidlapmaaGreatJoin6
import Derived.Maps.AppendAt
namespace Go.Proofs.YtoihhlkidlapmaaGreat
open Go.RowKit Go.Shelf
structure AQ (w : World) (b : Nat) (a : Option Addr) (len cap q : Nat) (W : World) (v : Value) (ps : List packC.D) : Prop where
  keep : ∀ W' : World, (∀ k, b < k → k < W.heap.size → W'.heap[k]? = W.heap[k]?) → rowAt packC W' v ps
  ok : ∀ d ∈ ps, DPk d
  few : ps.length ≤ 8
  rd : ∃ p', p' ≤ q ∧ Rd W b a len cap p'
  grown : w.grownBy W (some b)
theorem nrow_keep {W : World} {N b : Nat} {v : Value} {L : List (It packC)} (h : NRow packC 34 W N v L) (hb : b < N) : ∀ W' : World, (∀ k, b < k → k < W.heap.size → W'.heap[k]? = W.heap[k]?) → rowAt packC W' v (itD L) := fun W' hg => by
  obtain ⟨F, h1, _⟩ := (h.frame (fun k hk => hg k (Nat.lt_of_lt_of_le hb (h.base k hk).1) (h.base k hk).2)).own
  exact h1.toAt
theorem row_tail {W : World} {g c : Nat} {ps : List packC.D} {A : Option Addr} (h : rowAt packC W (.slice (some ⟨g, 0, none⟩) ps.length c) ps) (hA : A = if c = 1 then some ⟨g, 0, none⟩ else some ⟨g, 4, none⟩) (h0 : 0 < ps.length) : rowAt packC W (.slice A (ps.length - 1) (c - 1)) (ps.drop 1) := by
  obtain ⟨a', c', e, hn, hc, hr⟩ := h
  injection e with e1 _ e3
  subst e1 e3
  refine ⟨A, c - 1, by rw [List.length_drop], fun e => ?_, by rw [List.length_drop]; omega, ?_⟩
  · rw [hA] at e
    split at e <;> cases e
  · rcases hr with rfl | ⟨b, o, ea, hb, hcell⟩
    · exact absurd h0 (Nat.lt_irrefl 0)
    · injection ea with ea
      injection ea with e1 e2
      subst e1 e2
      by_cases hc1 : c = 1
      · left
        rw [List.drop_eq_nil_iff]
        omega
      · right
        refine ⟨g, 4, by rw [hA, if_neg hc1], hb, fun i d hi => ?_⟩
        rw [List.getElem?_drop] at hi
        obtain ⟨cs, h1, h2⟩ := hcell (1 + i) d hi
        refine ⟨cs, h1, fun j u hj => ?_⟩
        have := h2 j u hj
        have en : packC.n = 4 := rfl
        rw [en] at this ⊢
        rw [← this]
        congr 2
        omega
set_option maxRecDepth 100000 in
set_option maxHeartbeats 16000000 in
theorem l11AnyRoot_any (w : World) (b : Nat) (a : Option Addr) (len cap p : Nat) (h : Rd w b a len cap p) (hp : p ≤ 200000) :
    Calls Tryz.prog 77 #[.pointer (some ⟨b, 0, none⟩)] w fun x w' => ∃ v ps, x = .returned (.agg #[v]) ∧ AQ w b a len cap (p + 1000) w' v ps := by
  have hbl := h.lt
  have H := hid (h.alloc (.cells #[.slice none 0 0] 51))
  have hR0 := World.alloc_heap_new w (.cells #[.slice none 0 0] 51)
  have hG0 : w.grownBy (w.alloc (.cells #[.slice none 0 0] 51)) (some b) := World.grownBy_alloc w _ (some b)
  have hS0 : w.heap.size + 1 ≤ (w.alloc (.cells #[.slice none 0 0] 51)).heap.size := by simp
  clear h
  go_enter Tryz.func77, Tryz.ntmps77
  go_wp2_with fail
  generalize w.alloc (.cells #[.slice none 0 0] 51) = w0 at H hR0 hG0 hS0 ⊢
  refine (l11Root_any w0 b a len cap p (unhid H) (by omega)).mono ?_
  rintro e w1 ⟨v1, L1, rfl, hQ⟩
  have hRb1 := (hQ.grown.block _ (by omega) (by intro e; injection e; omega)).trans hR0
  have hS1 := Nat.le_trans hS0 hQ.grown.size
  have hG1 := grown_trans hG0 hQ.grown
  obtain ⟨p1, hp1, hR1⟩ := hQ.rd
  have hat1 : rowAt packC w1 v1 (itD L1) := by obtain ⟨F, h1, _⟩ := hQ.row.own; exact h1.toAt
  have HOK := hid hQ.ok
  have hfew := hQ.few
  have JN := hid (l9Copy_any (itD L1) v1 w1 ⟨by rw [itD_len]; omega, fun d hd => (hQ.ok d hd).small⟩ hat1)
  obtain ⟨va, vc, rfl⟩ := nrow_slice hQ.row
  clear hQ hR0 hG0 hS0 hat1 H
  go_wp2_with fail
  refine (unhid JN).mono ?_
  rintro x w2 ⟨v2, L, rfl, hN2, hL2, hB2⟩
  have hRb2 := (hB2.block _ (by omega)).trans hRb1
  have hS2 := Nat.le_trans hS1 hB2.size
  have hG2 := grown_low hG1 (hB2.mono (by omega))
  have hR2 := hR1.of_below hB2
  rw [← hL2] at HOK
  have hfL : L.length ≤ 7 := by
    have : L.length = L1.length := by rw [← itD_len, hL2, itD_len]
    omega
  obtain ⟨ua, uc, rfl⟩ := nrow_slice hN2
  have hN2' : NRow packC 34 w2 (w.heap.size + 1) (.slice ua L.length uc) L := NRow.lower hN2 hS1
  have HBS := hid (fun k (e : (Value.slice ua L.length uc).ownBlock = some k ∨ k ∈ itF L) => (hN2.base k e).2)
  clear JN hRb1 hS1 hG1 hR1 hB2 hL2 hN2
  go_wp2_with fail
  have hX3 := World.alloc_heap_new w2 (.cells #[.slice ua L.length uc] 51)
  have hG23 : w2.grownBy (w2.alloc (.cells #[.slice ua L.length uc] 51)) (some b) := World.grownBy_alloc w2 _ (some b)
  have hR3 := hR2.alloc (.cells #[.slice ua L.length uc] 51)
  have hz3 : w2.heap.size + 1 ≤ (w2.alloc (.cells #[.slice ua L.length uc] 51)).heap.size := by simp
  generalize w2.alloc (.cells #[.slice ua L.length uc] 51) = w3 at hX3 hG23 hR3 hz3 ⊢
  refine (pick_any w3 b a len cap p1 hR3 (by omega) 12 (by omega) (by omega)).mono ?_
  rintro e w4 ⟨m, hm, rfl, hR4, hG34⟩
  have hG24 := grown_trans hG23 hG34
  have hX4 := (hG34.block w2.heap.size (by omega) (by intro e; injection e; omega)).trans hX3
  have hRb4 := (hG24.block w.heap.size (by omega) (by intro e; injection e; omega)).trans hRb2
  have hN4 := nrow_grown hN2' hG24 (by omega)
  have hG4 := grown_trans hG2 hG24
  have hz4 : w2.heap.size + 1 ≤ w4.heap.size := Nat.le_trans hz3 hG34.size
  clear hX3 hG23 hR3 hz3 hG34 hG24 hG2 hRb2 hR2 hN2'
  obtain ⟨c0, f0⟩ := cell_fz hX4 0 _ rfl
  obtain ⟨o0, r0⟩ := cell_fz hRb4 0 _ rfl
  have hne : ¬ w2.heap.size = w.heap.size := by omega
  have hne2 : ¬ w.heap.size = w2.heap.size := by omega
  by_cases h0 : m = 0
  · subst h0
    have hC0 : (fun w' : World => w'.heap[w2.heap.size]? = some (.cells #[.slice ua L.length uc] 51 (0, 0))) w4.drew := hX4
    have gp : ∀ x : CW (fun w' : World => w'.heap[w2.heap.size]? = some (.cells #[.slice ua L.length uc] 51 (0, 0))), x.w.cell? ⟨w2.heap.size, 0, none⟩ = some (.slice ua L.length uc) := fun x => cell_arrS x.h 0 _ rfl
    have hba : ∀ {q : Prop}, (CW (fun w' : World => w'.heap[w2.heap.size]? = some (.cells #[.slice ua L.length uc] 51 (0, 0))) → q) ↔ q := CW.all hC0
    go_wp2_with fail
    refine heldE_begin 7 (fun w' : World => w'.heap[w2.heap.size]? = some (.cells #[.slice ua L.length uc] 51 (0, 0))) (by kernel_rfl) ?_
    refine heldE_here [true, true, true] (by kernel_rfl) (by kernel_rfl) (fun _ _ _ _ _ h => h) hC0 ?_
    dsimp only [pick]
    repeat (go_big_quiet_step (fail))
    refine wpQuiet_nil ?_
    have hR5 := hR4.of_below (drew_belowS (B := w4.heap.size) w4)
    have hN5 : NRow packC 34 w4.drew (w.heap.size + 1) (.slice ua L.length uc) L := hN4.frame (fun k _ => rfl)
    have hG5 : w.grownBy w4.drew (some b) := grown_low hG4 (drew_belowS _)
    have hRb5 : w4.drew.heap[w.heap.size]? = some (.cells #[.slice none 0 0] 51 (0, 0)) := hRb4
    have hz5 : w2.heap.size + 1 ≤ w4.drew.heap.size := hz4
    clear hba gp hX4 hRb4 hN4 hG4 hR4 c0 f0 o0 r0 hz4
    generalize w4.drew = w5 at *
    refine heldE_op 3 (by kernel_rfl) (by kernel_rfl) rfl (fun K hK => ?_)
    refine call_op 95 14 (enters_of Tryz.func95 (by kernel_rfl) rfl) #[.pointer (some ⟨b, 0, none⟩)] rfl rfl rfl rfl ?_
    refine (l11AnyPack_any w5 b a len cap _ hR5 (by omega)).mono ?_
    rintro e w6 ⟨name, ver, nv, nL, tv, ts, rfl, hname, hQ⟩
    have hX6 := (hQ.grown.block w2.heap.size (by omega) (by intro e; injection e; omega)).trans hC0
    have hRb6 := (hQ.grown.block w.heap.size (by omega) (by intro e; injection e; omega)).trans hRb5
    have hN6 := nrow_grown hN5 hQ.grown (by omega)
    have hG6 := grown_trans hG5 hQ.grown
    have hz6 := Nat.le_trans hz5 hQ.grown.size
    have hw56 := hQ.grown.size
    obtain ⟨p6, hp6, hR6⟩ := hQ.rd
    have hdp := hQ.pack hname
    obtain ⟨F6, hown6, hf6⟩ := hQ.k.own name ver
    refine ⟨_, rfl, hK.out _ _ hX6 ?_⟩
    simp only [Act.put, List.setIfInBounds_toArray, List.set_cons_zero, List.set_cons_succ]
    clear hK K hC0 hR5 hN5 hG5 hRb5
    refine heldE_op 4 (by kernel_rfl) (by kernel_rfl) rfl (fun K hK => ?_)
    go_simp
    have hP7 := World.alloc_heap_new w6 (.cells #[.string name, .string ver, nv, tv] 34)
    have hG67 : w6.grownBy (w6.alloc (.cells #[.string name, .string ver, nv, tv] 34)) (some b) := World.grownBy_alloc w6 _ (some b)
    have hb67 : Below w6.heap.size w6 (w6.alloc (.cells #[.string name, .string ver, nv, tv] 34)) := (Below.refl _ w6).alloc (Nat.le_refl _) _
    have hR7 := hR6.alloc (.cells #[.string name, .string ver, nv, tv] 34)
    have hX7 := (hG67.block w2.heap.size (by omega) (by intro e; injection e; omega)).trans hX6
    refine hK.out _ _ hX7 ?_
    clear hK K
    generalize w6.alloc (.cells #[.string name, .string ver, nv, tv] 34) = w7 at hP7 hG67 hR7 hX7 hb67 ⊢
    have hRb7 := (hG67.block w.heap.size (by omega) (by intro e; injection e; omega)).trans hRb6
    have hN7 := nrow_grown hN6 hG67 (by omega)
    have hG7 := grown_trans hG6 hG67
    have hz7 := Nat.le_trans hz6 hG67.size
    have hown7 : packC.own w7 [.string name, .string ver, nv, tv] (⟨name, ver, itD nL, dEnts ts⟩ : PackD) F6 := packC.frame hown6 (fun k hk => hb67.block k (hf6 k hk).2)
    have hM7 : Items packC w7 (w.heap.size + 1) (L ++ [(([.string name, .string ver, nv, tv], (⟨name, ver, itD nL, dEnts ts⟩ : PackD), F6) : It packC)]) := hN7.items.snoc (M := w5.heap.size) hown7 (fun k hk => by have := unhid HBS k (.inr hk); omega) (fun k hk => by have := (hf6 k hk).1; omega) (by omega)
    have hap7 : ∀ g, (Value.slice ua L.length uc).ownBlock = some g → g ∉ itF [(([.string name, .string ver, nv, tv], (⟨name, ver, itD nL, dEnts ts⟩ : PackD), F6) : It packC)] := fun g hg hk => by
      have h1 := unhid HBS g (.inl hg)
      have h2 := (hf6 g (by simpa [itF] using hk)).1
      omega
    refine heldE_op 5 (by kernel_rfl) (by kernel_rfl) rfl (fun K hK => ?_)
    refine op_items etPack onePack w7 16 _ _ rfl rfl rfl (w.heap.size + 1) (.slice ua L.length uc) L [(([.string name, .string ver, nv, tv], (⟨name, ver, itD nL, dEnts ts⟩ : PackD), F6) : It packC)] w6.heap.size 0 1 hN7 hM7 hap7 (fun j u hj => by rw [Nat.zero_add]; exact cell_arrS hP7 _ _ (by simpa [itCells] using hj)) (by simp; omega) (by omega) rfl (by simp [Act.eval]) ?_
    intro nw wA hgr
    have hgA : w7.grownBy wA (Value.slice ua L.length uc).ownBlock := hgr.by_
    have hBA : Below (w.heap.size + 1) w7 wA := ⟨hgA.os, hgA.tape, hgA.output, hgA.size, fun k hk => hgA.block k (by omega) (fun e => by have := (hN7.base k (.inl e.symm)).1; omega)⟩
    have hXA := (hgA.block w2.heap.size (by omega) (fun e => by have := unhid HBS _ (.inl e.symm); omega)).trans hX7
    have hRbA := (hBA.block w.heap.size (by omega)).trans hRb7
    refine hK.out _ _ hXA ?_
    simp only [Act.put, List.setIfInBounds_toArray, List.set_cons_zero, List.set_cons_succ]
    clear hK K
    have hba : ∀ {q : Prop}, (CW (fun w' : World => w'.heap[w2.heap.size]? = some (.cells #[.slice ua L.length uc] 51 (0, 0))) → q) ↔ q := CW.all hXA
    refine heldE_here [false, false, false, false, false, false, true] (by kernel_rfl) (by kernel_rfl) (fun _ _ _ _ _ h => h) hXA ?_
    dsimp only [pick]
    repeat (go_big_quiet_step (fail))
    refine wpQuiet_nil ?_
    clear hba
    obtain ⟨ra, rn, rc, rfl⟩ : ∃ a n c, nw = .slice a n c := by obtain ⟨a, c, e⟩ := grew_slice hgr; exact ⟨_, _, _, e⟩
    have hNA := hgr.row
    have hzA := hgA.size
    have hnX : ∀ k, ((Value.slice ra rn rc).ownBlock = some k ∨ k ∈ itF (L ++ [(([.string name, .string ver, nv, tv], (⟨name, ver, itD nL, dEnts ts⟩ : PackD), F6) : It packC)])) → k ≠ w2.heap.size := fun k hk => by
      rcases hk with hk | hk
      · rcases hgr.block with h | h
        · rw [h] at hk; have := unhid HBS k (.inl hk); omega
        · rw [h] at hk; injection hk with hk; omega
      · rw [itF_app] at hk
        rcases List.mem_append.1 hk with hk | hk
        · have := unhid HBS k (.inr hk); omega
        · have := (hf6 k (by simpa [itF] using hk)).1; omega
    have hRA := Rd.low hR7 hBA (by omega)
    have hGA := grown_low hG7 (hBA.mono (by omega))
    obtain ⟨c0, f0⟩ := cell_fz hXA 0 _ rfl
    have hBw : Below w2.heap.size wA (wA.setCell ⟨w2.heap.size, 0, none⟩ (.slice ra rn rc)) := (Below.refl _ wA).setCell (p := ⟨w2.heap.size, 0, none⟩) (Nat.le_refl _) _
    have hBw2 : Below w.heap.size wA ((wA.setCell ⟨w2.heap.size, 0, none⟩ (.slice ra rn rc)).setCell ⟨w.heap.size, 0, none⟩ (.slice ra rn rc)) := (hBw.mono (show w.heap.size ≤ w2.heap.size by omega)).setCell (p := ⟨w.heap.size, 0, none⟩) (Nat.le_refl _) _
    have HF := hid (show AQ w b a len cap (p + 1000) ((wA.setCell ⟨w2.heap.size, 0, none⟩ (.slice ra rn rc)).setCell ⟨w.heap.size, 0, none⟩ (.slice ra rn rc)) (.slice ra rn rc) (itD (L ++ [(([.string name, .string ver, nv, tv], (⟨name, ver, itD nL, dEnts ts⟩ : PackD), F6) : It packC)])) from ⟨nrow_keep (hNA.frame (fun k hk => by
      rw [Below.heap_setCell _ _ _ _ (by have := (hNA.base k hk).1; dsimp only; omega), Below.heap_setCell _ _ _ _ (hnX k hk)])) (by omega), fun d hd => by
        rw [itD_app] at hd
        rcases List.mem_append.1 hd with hd | hd
        · exact unhid HOK d hd
        · rw [List.mem_singleton.1 (show d ∈ [(⟨name, ver, itD nL, dEnts ts⟩ : PackD)] from hd)]; exact hdp, by rw [itD_len, List.length_append]; simp; omega, ⟨p6, by omega, Rd.low hRA hBw2 hbl⟩, grown_low hGA hBw2⟩)
    have hXB := hid (heap_setCell_same wA w2.heap.size 0 _ _ (.slice ra rn rc) hXA)
    have hRbB := hid ((Below.heap_setCell wA ⟨w2.heap.size, 0, none⟩ (.slice ra rn rc) w.heap.size (by dsimp only; omega)).trans hRbA)
    refine heldE_last (by kernel_rfl) (by kernel_rfl) rfl (fun K hK => ?_)
    go_simp
    refine hK.out _ _ ?_
    clear hK K c0 f0
    refine heldE_done (by kernel_rfl) ?_
    clear hBw hBw2 hXA hRbA hNA hnX hRA hGA hgr hgA hBA hM7 hap7 hN7 hG7 hR7 hX7 hRb7 hown7 hP7 hG67 hb67 hown6 hf6 hQ hN6 hG6 hR6 hRb6 hX6
    generalize wA.setCell ⟨w2.heap.size, 0, none⟩ (.slice ra rn rc) = wB at *
    obtain ⟨c0, f0⟩ := cell_fz (unhid hXB) 0 _ rfl
    obtain ⟨o0, r0⟩ := cell_fz (unhid hRbB) 0 _ rfl
    clear hXB hRbB
    go_wp2_with fail
    exact bodyPost_ret (v := .agg #[.slice ra rn rc]) (by simp [results, Tryz.results77, go_sem, World.cell?_setCell_same', o0]) rfl ⟨_, _, rfl, unhid HF⟩
  · have e0 : ((m : Int) == 0) = false := by rw [beq_eq_false_iff_ne]; omega
    have e0i : ¬ ((m : Int) = 0) := by omega
    have HSAME := hid (fun (v : Value) => (show Below w.heap.size w4 (w4.setCell ⟨w.heap.size, 0, none⟩ v) from (Below.refl _ w4).setCell (p := ⟨w.heap.size, 0, none⟩) (Nat.le_refl _) v))
    have HN4 := hid hN4
    by_cases h1 : m = 1
    · subst h1
      by_cases hl0 : 0 < L.length
      · obtain ⟨g, rfl⟩ : ∃ g, ua = some ⟨g, 0, none⟩ := by
          rcases hN4.row.2 with ⟨_, h⟩ | ⟨g, cap', cur, e, _⟩
          · omega
          · exact ⟨g, by injection e⟩
        have hc1 : L.length ≤ uc := by
          rcases hN4.row.2 with ⟨e, _⟩ | ⟨g, cap', cur, e, _, _, hc, _⟩
          · cases e
          · injection e with _ _ e3; omega
        have hl1 : (0 : Int) < (L.length : Int) := by omega
        have h1l : 1 ≤ L.length := hl0
        have HF := hid (fun (A : Option Addr) (hA : A = if uc = 1 then some ⟨g, 0, none⟩ else some ⟨g, 4, none⟩) => (show AQ w b a len cap (p + 1000) ((w4.setCell ⟨w2.heap.size, 0, none⟩ (.slice A (L.length - 1) (uc - 1))).setCell ⟨w.heap.size, 0, none⟩ (.slice A (L.length - 1) (uc - 1))) (.slice A (L.length - 1) (uc - 1)) ((itD L).drop 1) from by
          have hB1 : Below w.heap.size w4 (w4.setCell ⟨w2.heap.size, 0, none⟩ (.slice A (L.length - 1) (uc - 1))) := (Below.refl _ w4).setCell (p := ⟨w2.heap.size, 0, none⟩) (by dsimp only; omega) _
          have hB2 := hB1.setCell (p := ⟨w.heap.size, 0, none⟩) (Nat.le_refl _) (.slice A (L.length - 1) (uc - 1))
          refine ⟨fun W' hg => ?_, fun d hd => unhid HOK d (List.mem_of_mem_drop hd), by rw [List.length_drop, itD_len]; omega, ⟨_, by omega, Rd.low hR4 hB2 hbl⟩, grown_low hG4 hB2⟩
          have hN5 : NRow packC 34 ((w4.setCell ⟨w2.heap.size, 0, none⟩ (.slice A (L.length - 1) (uc - 1))).setCell ⟨w.heap.size, 0, none⟩ (.slice A (L.length - 1) (uc - 1))) (w.heap.size + 1) (.slice (some ⟨g, 0, none⟩) L.length uc) L := (unhid HN4).frame (fun k hk => by
            rw [Below.heap_setCell _ _ _ _ (by have := ((unhid HN4).base k hk).1; dsimp only; omega), Below.heap_setCell _ _ _ _ (by have := unhid HBS k hk; dsimp only; omega)])
          have h1 := nrow_keep hN5 (b := b) (by omega) W' hg
          have h2 := row_tail (ps := itD L) (A := A) (by rw [itD_len]; exact h1) hA (by rw [itD_len]; omega)
          rwa [itD_len] at h2))
        clear hX4 hRb4 hN4 hR4 hG4
        by_cases huc : uc = 1
        · subst huc
          have HG := hid (unhid HF (some ⟨g, 0, none⟩) (by rw [if_pos rfl]))
          simp only [Nat.sub_self, show L.length - 1 = 0 by omega] at HG
          go_wp2_with fail
          exact bodyPost_ret (v := .agg #[.slice (some ⟨g, 0, none⟩) 0 0]) (by simp [results, Tryz.results77, go_sem, World.cell?_setCell_same', o0]) rfl ⟨_, _, rfl, unhid HG⟩
        · have HG := hid (unhid HF (some ⟨g, 4, none⟩) (by rw [if_neg huc]))
          go_wp2_with fail
          exact bodyPost_ret (v := .agg #[.slice (some ⟨g, 4, none⟩) (L.length - 1) (uc - 1)]) (by simp [results, Tryz.results77, go_sem, World.cell?_setCell_same', o0]) rfl ⟨_, _, rfl, unhid HG⟩
      · have hl1 : ¬ ((0 : Int) < (L.length : Int)) := by omega
        have hl2 : L.length = 0 := by omega
        have HF := hid (show AQ w b a len cap (p + 1000) (w4.setCell ⟨w.heap.size, 0, none⟩ (.slice ua L.length uc)) (.slice ua L.length uc) (itD L) from ⟨nrow_keep ((unhid HN4).frame (fun k hk => Below.heap_setCell _ _ _ _ (by have := ((unhid HN4).base k hk).1; dsimp only; omega))) (by omega), unhid HOK, by rw [itD_len]; omega, ⟨_, by omega, Rd.low hR4 (unhid HSAME _) hbl⟩, grown_low hG4 (unhid HSAME _)⟩)
        clear hX4 hRb4 hN4 hG4 hR4 hl2
        go_wp2_with fail
        exact bodyPost_ret (v := .agg #[.slice ua L.length uc]) (by simp [results, Tryz.results77, go_sem, World.cell?_setCell_same', o0]) rfl ⟨_, _, rfl, unhid HF⟩
    · have e1 : ((m : Int) == 1) = false := by rw [beq_eq_false_iff_ne]; omega
      have e1i : ¬ ((m : Int) = 1) := by omega
      have HF := hid (show AQ w b a len cap (p + 1000) (w4.setCell ⟨w.heap.size, 0, none⟩ (.slice ua L.length uc)) (.slice ua L.length uc) (itD L) from ⟨nrow_keep ((unhid HN4).frame (fun k hk => Below.heap_setCell _ _ _ _ (by have := ((unhid HN4).base k hk).1; dsimp only; omega))) (by omega), unhid HOK, by rw [itD_len]; omega, ⟨_, by omega, Rd.low hR4 (unhid HSAME _) hbl⟩, grown_low hG4 (unhid HSAME _)⟩)
      clear hX4 hRb4 hN4 hG4 hR4
      go_wp2_with fail
      exact bodyPost_ret (v := .agg #[.slice ua L.length uc]) (by simp [results, Tryz.results77, go_sem, World.cell?_setCell_same', o0]) rfl ⟨_, _, rfl, unhid HF⟩
end Go.Proofs.YtoihhlkidlapmaaGreat

namespace Go.Proofs.YtoihhlkidlapmaaGreat
open Go.RowKit
structure Drawn (w W : World) (v : Value) (es : List Ent) : Prop where
  v : TreeV W w.heap.size v es
  nice : ∀ e ∈ es, niceE e
  few : es.length ≤ 17
  below : Below w.heap.size w W
theorem Drawn.small {w W : World} {v : Value} {es : List Ent} (h : Drawn w W v es) : smallE es :=
  ⟨by have := h.few; omega, fun e he => ⟨by have := nice_short (h.nice e he).1; omega, by have : e.text.size ≤ 100 := (h.nice e he).2; omega⟩⟩
end Go.Proofs.YtoihhlkidlapmaaGreat

namespace Go.Proofs.YtoihhlkidlapmaaGreat
open Go.RowKit Go.Shelf
structure DR (W : World) (v : Value) (ps : List packC.D) : Prop where
  row : rowAt packC W v ps
  ok : ∀ d ∈ ps, DPk d
  few : ps.length ≤ 8
theorem DR.below {W W' : World} {v : Value} {ps : List packC.D} (h : DR W v ps) (hb : Below W.heap.size W W') : DR W' v ps := ⟨h.row.below hb, h.ok, h.few⟩
theorem DR.small {W : World} {v : Value} {ps : List packC.D} (h : DR W v ps) : smallPs ps := ⟨by have := h.few; omega, fun d hd => (h.ok d hd).small⟩
theorem code_on {w w' : World} {a : Option Addr} {len : Nat} (h : Code w w.heap.size a len) (hb : Below w.heap.size w w') : Code w' w'.heap.size a len := by
  rcases h with h | ⟨blk, off, ha, hbk, hc⟩
  · exact .inl h
  · refine .inr ⟨blk, off, ha, Nat.lt_of_lt_of_le hbk hb.size, fun k hk => ?_⟩
    obtain ⟨c, h1, h2⟩ := hc k hk
    exact ⟨c, h1, (hb.cell (p := ⟨blk, off + k, none⟩) hbk).trans h2⟩
theorem aq_dr {w : World} {b : Nat} {a : Option Addr} {len cap q : Nat} {W : World} {v : Value} {ps : List packC.D} (h : AQ w b a len cap q W v ps) {W' : World} (hg : ∀ k, b < k → k < W.heap.size → W'.heap[k]? = W.heap[k]?) : DR W' v ps := ⟨h.keep W' hg, h.ok, h.few⟩
set_option maxRecDepth 100000 in
set_option maxHeartbeats 2000000 in
theorem DrawRootTree_any (w : World) (a : Option Addr) (len cap : Nat) (h : Code w w.heap.size a len) (hl : len ≤ 1048576) (hc : len ≤ cap) :
    Calls Tryz.prog 43 #[.slice a len cap] w fun x w' => ∃ v ps, x = .returned (.agg #[v]) ∧ DR w' v ps ∧ Below w.heap.size w w' := by
  have hB0 : Below w.heap.size w (w.alloc (.cells #[.slice none 0 0] 51)) := (Below.refl _ w).alloc (Nat.le_refl _) _
  have H := hid (code_on h hB0)
  have hR0 := World.alloc_heap_new w (.cells #[.slice none 0 0] 51)
  have hz0 : w.heap.size < (w.alloc (.cells #[.slice none 0 0] 51)).heap.size := by simp
  clear h
  go_enter Tryz.func43, Tryz.ntmps43
  go_wp2_with fail
  generalize w.alloc (.cells #[.slice none 0 0] 51) = w0 at H hB0 hR0 hz0 ⊢
  refine (l1Open_any w0 a len cap (unhid H) hl hc).mono ?_
  rintro e w1 ⟨rfl, ⟨l', c', hR⟩, hB1⟩
  have hR1 := (hB1.block _ hz0).trans hR0
  have hB01 := hB0.trans (hB1.mono hB0.size)
  clear hR0 H
  go_wp2_with fail
  refine (l11AnyRoot_any w1 _ a l' c' 0 hR (by omega)).mono ?_
  rintro e w2 ⟨v, ps, rfl, hQ⟩
  have hb2 : Below w0.heap.size w1 w2 := grown_below hQ.grown (Nat.le_refl _) hB1.size
  have hR2 := (hb2.block _ hz0).trans hR1
  have hat := hQ.keep w2 (fun _ _ _ => rfl)
  obtain ⟨va, vc, rfl, -⟩ := rowAt.slice hat
  have hB02 : Below w.heap.size w w2 := hB01.trans (hb2.mono hB0.size)
  obtain ⟨o0, r0⟩ := cell_fz hR2 0 _ rfl
  have hBw : Below w.heap.size w2 (w2.setCell ⟨w.heap.size, 0, none⟩ (.slice va ps.length vc)) := (Below.refl _ w2).setCell (p := ⟨w.heap.size, 0, none⟩) (Nat.le_refl _) _
  have HF := hid (And.intro (aq_dr hQ (W' := w2.setCell ⟨w.heap.size, 0, none⟩ (.slice va ps.length vc)) (fun k hk _ => Below.heap_setCell _ _ _ _ (by dsimp only; omega))) (hB02.trans hBw))
  clear hQ hb2 hR2 hat hB02 hBw hB01 hB1 hR1 hR hB0
  go_wp2_with fail
  exact bodyPost_ret (v := .agg #[.slice va ps.length vc]) (by simp [results, Tryz.results43, go_sem, World.cell?_setCell_same', o0]) rfl ⟨_, ps, rfl, (unhid HF).1, (unhid HF).2⟩
end Go.Proofs.YtoihhlkidlapmaaGreat

namespace Go.Proofs.YtoihhlkidlapmaaGreat
open Go.RowKit Go.Shelf
end Go.Proofs.YtoihhlkidlapmaaGreat

namespace Go.Proofs.YtoihhlkidlapmaaGreat
open Go.ChangeShapes Go.WideShapes Go.ChangeAt Go.RowKit
theorem cells5 : Tryz.prog.cellsOf 5 = 1 := by kernel_rfl
theorem code_of {H : Type} {enc : TypeId × Value → H} {W : World} {a0 : Option Addr} {len cap : Nat} {d0 : DataW H} {p0 : List MemPlace}
    (h0 : DataW.Trod enc Tryz.prog W 0 (fun _ => true) true 22 (.slice a0 len cap) d0 p0) (hlt : ∀ x ∈ p0, x.block < W.heap.size) : Code W W.heap.size a0 len ∧ len ≤ cap := by
  obtain ⟨fuel, hf⟩ := h0
  rcases open_ints Tryz.underlying22 Tryz.underlying5 cells5 hf with ⟨hcs, hx⟩ | ⟨a, len', cap', zs, hcs, _, hl, hm, hz, hx, hcell, hwz⟩
  · simp [Value.cells] at hcs
    obtain ⟨rfl, rfl, rfl⟩ := hcs
    exact ⟨.inl rfl, Nat.le_refl _⟩
  · simp [Value.cells] at hcs
    obtain ⟨rfl, rfl, rfl⟩ := hcs
    simp only [Prod.mk.injEq] at hx
    obtain ⟨rfl, rfl⟩ := hx
    simp only [if_true] at hz
    refine ⟨?_, hl⟩
    by_cases hl0 : len = 0
    · exact .inl hl0
    · obtain ⟨b, off, spot⟩ := a
      have hspot : spot = none := by simpa [Addr.add] using World.cell?_spot (hcell 0 (by omega))
      subst hspot
      have hbW : b < W.heap.size := hlt (.cell b off) (MemPlace.mem_row.2 ⟨0, by omega, by simp⟩)
      refine .inr ⟨b, off, rfl, hbW, fun k hk => ?_⟩
      have hk' : k < zs.length := by omega
      have hw := hwz (zs.getD k 0) (by simp [List.getD, List.getElem?_eq_getElem hk'])
      have hc := hcell k hk'
      rw [add_plain] at hc
      generalize zs.getD k 0 = z at hw hc
      have hx : 0 ≤ z ∧ z ≤ 255 := by simpa [Lit.wf, IntKind.min, IntKind.max, IntKind.signed, IntKind.bits] using hw
      exact ⟨z.toNat, by omega, by rw [hc, Int.toNat_of_nonneg hx.1]⟩
end Go.Proofs.YtoihhlkidlapmaaGreat

namespace Go.Proofs.YtoihhlkidlapmaaGreat
open Go.RowKit Go.Shelf
structure RR (W : World) (a : Option Addr) (c : Nat) (ps : List packC.D) : Prop where
  row : rowAt packC W (.slice a ps.length c) ps
  small : smallPs ps
  few : ps.length ≤ 100
theorem RR.below {W W' : World} {a : Option Addr} {c : Nat} {ps : List packC.D} (h : RR W a c ps) (hb : Below W.heap.size W W') : RR W' a c ps := ⟨h.row.below hb, h.small, h.few⟩
theorem rr_of {W : World} {N : Nat} {r : Value} {L : List (It packC)} {ps : List packC.D} (h : NRow packC 34 W N r L) (hL : itD L = ps) (hs : smallPs ps) (hf : ps.length ≤ 100) : ∃ a c, r = .slice a ps.length c ∧ RR W a c ps := by
  obtain ⟨F, h1, _⟩ := h.own
  have h2 := h1.toAt
  rw [hL] at h2
  obtain ⟨a, c, rfl, -⟩ := rowAt.slice h2
  exact ⟨a, c, rfl, h2, hs, hf⟩
structure PR (W : World) (cs : List Value) (p : packC.D) : Prop where
  at_ : packC.at_ W cs p
  small : smallP p
theorem PR.below {W W' : World} {cs : List Value} {p : packC.D} (h : PR W cs p) (hb : Below W.heap.size W W') : PR W' cs p := ⟨packC.below h.at_ hb, h.small⟩
theorem PR.cells {W : World} {cs : List Value} {p : packC.D} (h : PR W cs p) : ∃ na nc ta tc, cs = [.string (PackD.name p), .string (PackD.version p), .slice na (PackD.needs p).length nc, .slice ta (PackD.tree p).length tc] := by
  obtain ⟨v2, v3, rfl, p2, p3⟩ := packC_at h.at_
  obtain ⟨na, nc, rfl, -⟩ := rowAt.slice p2
  obtain ⟨ta, tc, rfl, -⟩ := rowAt.slice p3
  exact ⟨_, _, _, _, rfl⟩
theorem dr_rr {W : World} {v : Value} {ps : List packC.D} (h : DR W v ps) : ∃ a c, v = .slice a ps.length c ∧ RR W a c ps := by
  obtain ⟨a, c, rfl, -⟩ := rowAt.slice h.row
  exact ⟨a, c, rfl, h.row, h.small, by have := h.few; omega⟩
def StaysW (Φ : World → Prop) : Prop := ∀ W W' : World, Below W.heap.size W W' → Φ W → Φ W'
structure KW (Φ : World → Prop) (W : World) : Prop where
  keeps : StaysW Φ
  now : Φ W
theorem KW.step {Φ : World → Prop} {W W' : World} (h : KW Φ W) (hb : Below W.heap.size W W') : KW Φ W' := ⟨h.keeps, h.keeps W W' hb h.now⟩
theorem KW.add {Φ Ψ : World → Prop} {W : World} (h : KW Φ W) (hk : StaysW Ψ) (hn : Ψ W) : KW (fun W => Φ W ∧ Ψ W) W := ⟨fun W W' hb hp => ⟨h.keeps W W' hb hp.1, hk W W' hb hp.2⟩, h.now, hn⟩
theorem KW.row {Φ : World → Prop} {W : World} (h : KW Φ W) {a : Option Addr} {c : Nat} {ps : List packC.D} (hr : RR W a c ps) : KW (fun W => Φ W ∧ RR W a c ps) W := h.add (fun _ _ hb hp => hp.below hb) hr
theorem KW.pack {Φ : World → Prop} {W : World} (h : KW Φ W) {cs : List Value} {p : packC.D} (hr : PR W cs p) : KW (fun W => Φ W ∧ PR W cs p) W := h.add (fun _ _ hb hp => hp.below hb) hr
theorem KW.box {Φ : World → Prop} {W : World} (h : KW Φ W) {g : Nat} {o : Obj} (hr : W.heap[g]? = some o) : KW (fun W => Φ W ∧ W.heap[g]? = some o) W := h.add (fun _ _ hb hp => (hb.block _ (Array.getElem?_eq_some_iff.1 hp).1).trans hp) hr
theorem KW.start (w : World) : KW (fun W => Below w.heap.size w W) w := ⟨fun _ _ hb hp => hp.trans (hb.mono hp.size), Below.refl _ w⟩
end Go.Proofs.YtoihhlkidlapmaaGreat

namespace Go.Proofs.YtoihhlkidlapmaaGreat
open Go.RowKit Go.Shelf
structure ER (W : World) (a : Option Addr) (es : List Ent) : Prop where
  ents : EntsAt W a es
  small : smallE es
theorem ER.below {W W' : World} {a : Option Addr} {es : List Ent} (h : ER W a es) (hb : Below W.heap.size W W') : ER W' a es := ⟨h.ents.below hb, h.small⟩
theorem KW.ents {Φ : World → Prop} {W : World} (h : KW Φ W) {a : Option Addr} {es : List Ent} (hr : ER W a es) : KW (fun W => Φ W ∧ ER W a es) W := h.add (fun _ _ hb hp => hp.below hb) hr
theorem KW.mark {Φ : World → Prop} {W : World} (h : KW Φ W) : KW (fun W' => Φ W' ∧ Below W.heap.size W W') W := h.add (fun _ _ hb hp => hp.trans (hb.mono hp.size)) (Below.refl _ W)
theorem implOk_r {W : World} {a : Option Addr} {c : Nat} {ps : List packC.D} (h : RR W a c ps) : Calls Tryz.prog 42 #[.agg #[.slice a ps.length c]] W fun x w' => x = .returned (.bool (rootOk_0 ⟨ps⟩)) ∧ Below W.heap.size W w' := implRootOk_any ⟨ps⟩ a c W h.small h.row
theorem specOk_r {W : World} {a : Option Addr} {c : Nat} {ps : List packC.D} (h : RR W a c ps) : Calls Tryz.prog 35 #[.agg #[.slice a ps.length c]] W fun x w' => x = .returned (.bool (rootOk_0 ⟨ps⟩)) ∧ Below W.heap.size W w' := specRootOk_any ⟨ps⟩ a c W h.small h.row
theorem PR.tree {W : World} {p : packC.D} {n0 t0 : Option Addr} {n1 t1 : Nat} (h : PR W [.string (PackD.name p), .string (PackD.version p), .slice n0 (PackD.needs p).length n1, .slice t0 (PackD.tree p).length t1] p) : EntsAt W t0 (treeOfP p) ∧ (treeOfP p).length = (PackD.tree p).length := by
  obtain ⟨h1, h2, _⟩ := tree_in h.at_
  exact ⟨h1, h2⟩
end Go.Proofs.YtoihhlkidlapmaaGreat

namespace Go.Proofs.YtoihhlkidlapmaaGreat
open Go.RowKit Go.Shelf
def freshP (p : packC.D) : packC.D := (⟨⟨#[102, 114, 101, 115, 104]⟩, ⟨#[49]⟩, [], PackD.tree p⟩ : PackD)
theorem fresh_small {p : packC.D} (h : smallP p) : smallP (freshP p) := ⟨by show 5 ≤ 1048576; omega, by show 1 ≤ 1048576; omega, ⟨by show 0 ≤ 1048576; omega, fun d hd => by cases hd⟩, h.tree⟩
theorem fresh_at {W : World} {cs : List Value} {p : packC.D} (h : packC.at_ W cs p) {n2 v : Value} (hc : cs = [.string (PackD.name p), .string (PackD.version p), n2, v]) : packC.at_ W [.string ⟨#[102, 114, 101, 115, 104]⟩, .string ⟨#[49]⟩, .slice none 0 0, v] (freshP p) := by
  obtain ⟨v2, v3, e, p2, p3⟩ := packC_at h
  rw [e] at hc
  simp only [List.cons.injEq, and_true, true_and] at hc
  obtain ⟨-, rfl⟩ := hc
  exact ⟨[_], _, rfl, rfl, ⟨[_], _, rfl, rfl, ⟨[_], _, rfl, ⟨_, rfl, ⟨none, 0, rfl, fun _ => rfl, Nat.le_refl _, .inl rfl⟩⟩, ⟨_, rfl, p3⟩⟩⟩⟩
end Go.Proofs.YtoihhlkidlapmaaGreat

namespace Go.Proofs.YtoihhlkidlapmaaGreat
open Go.RowKit Go.Shelf
structure PA (W : World) (b o : Nat) (p : packC.D) (na : Option Addr) (nc : Nat) (ta : Option Addr) (tc : Nat) : Prop where
  lt : b < W.heap.size
  c0 : W.cell? ⟨b, o, none⟩ = some (.string (PackD.name p))
  c1 : W.cell? ⟨b, o + 1, none⟩ = some (.string (PackD.version p))
  c2 : W.cell? ⟨b, o + 2, none⟩ = some (.slice na (PackD.needs p).length nc)
  c3 : W.cell? ⟨b, o + 3, none⟩ = some (.slice ta (PackD.tree p).length tc)
  pr : PR W [.string (PackD.name p), .string (PackD.version p), .slice na (PackD.needs p).length nc, .slice ta (PackD.tree p).length tc] p
theorem PA.below {W W' : World} {b o : Nat} {p : packC.D} {na : Option Addr} {nc : Nat} {ta : Option Addr} {tc : Nat} (h : PA W b o p na nc ta tc) (hb : Below W.heap.size W W') : PA W' b o p na nc ta tc :=
  ⟨Nat.lt_of_lt_of_le h.lt hb.size, (hb.cell (p := ⟨b, o, none⟩) h.lt).trans h.c0, (hb.cell (p := ⟨b, o + 1, none⟩) h.lt).trans h.c1, (hb.cell (p := ⟨b, o + 2, none⟩) h.lt).trans h.c2, (hb.cell (p := ⟨b, o + 3, none⟩) h.lt).trans h.c3, h.pr.below hb⟩
theorem RR.get {W : World} {a : Option Addr} {c k : Nat} {ps : List packC.D} {p : packC.D} (h : RR W a c ps) (hk : ps[k]? = some p) : ∃ b o na nc ta tc, a = some ⟨b, o, none⟩ ∧ PA W b (o + k * 4) p na nc ta tc := by
  obtain ⟨a', c', e, -, -, h2⟩ := h.row
  cases e
  rcases h2 with h2 | ⟨b, o, rfl, hb, hc⟩
  · rw [h2] at hk; cases hk
  · obtain ⟨na, nc, ta, tc, ⟨c0, c1, c2, c3⟩, hat⟩ := pack_cells (Below.refl W.heap.size W) hb hc hk
    exact ⟨b, o, na, nc, ta, tc, rfl, hb, c0, c1, c2, c3, hat, h.small.2 p (List.mem_of_getElem? hk)⟩
theorem KW.pa {Φ : World → Prop} {W : World} (h : KW Φ W) {b o : Nat} {p : packC.D} {na : Option Addr} {nc : Nat} {ta : Option Addr} {tc : Nat} (hr : PA W b o p na nc ta tc) : KW (fun W => Φ W ∧ PA W b o p na nc ta tc) W := h.add (fun _ _ hb hp => hp.below hb) hr
theorem KW.cut {Φ Ψ : World → Prop} {W : World} (h : KW (fun W => Φ W ∧ Ψ W) W) (hk : StaysW Φ) : KW Φ W := ⟨hk, h.now.1⟩
def TurnedK (qs : List packC.D) (k : Int) (W : World) (x : Ending) (w' : World) : Prop := ∃ a c, x = .returned (.tuple #[.agg #[.slice a qs.length c], .int .i64 k]) ∧ (∀ w'' : World, (∀ j, W.heap.size ≤ j → j < w'.heap.size → w''.heap[j]? = w'.heap[j]?) → RR w'' a c qs) ∧ Below W.heap.size W w'
theorem PR.fresh {W : World} {p : packC.D} {na : Option Addr} {nc : Nat} {ta : Option Addr} {tc : Nat} (h : PR W [.string (PackD.name p), .string (PackD.version p), .slice na (PackD.needs p).length nc, .slice ta (PackD.tree p).length tc] p) : PR W [.string ⟨#[102, 114, 101, 115, 104]⟩, .string ⟨#[49]⟩, .slice none 0 0, .slice ta (PackD.tree p).length tc] (freshP p) := ⟨fresh_at h.at_ rfl, fresh_small h.small⟩
end Go.Proofs.YtoihhlkidlapmaaGreat

namespace Go.Proofs.YtoihhlkidlapmaaGreat
open Go.RowKit Go.Shelf
end Go.Proofs.YtoihhlkidlapmaaGreat

namespace Go.Proofs.YtoihhlkidlapmaaGreat
open Go.RowKit Go.Shelf
theorem set4_same (w : World) (g : Nat) (a b c d : Value) (ty : Nat) (v0 v1 v2 v3 : Value) (h : w.heap[g]? = some (.cells #[a, b, c, d] ty (0, 0))) : ((((w.setCell ⟨g, 0, none⟩ v0).setCell ⟨g, 1, none⟩ v1).setCell ⟨g, 2, none⟩ v2).setCell ⟨g, 3, none⟩ v3).heap[g]? = some (.cells #[v0, v1, v2, v3] ty (0, 0)) :=
  heap_setCell_same _ g 3 _ _ v3 (heap_setCell_same _ g 2 _ _ v2 (heap_setCell_same _ g 1 _ _ v1 (heap_setCell_same w g 0 _ _ v0 h)))
theorem set4_below {B : Nat} {W w : World} {g : Nat} (v0 v1 v2 v3 : Value) (h : Below B W w) (hg : B ≤ g) : Below B W ((((w.setCell ⟨g, 0, none⟩ v0).setCell ⟨g, 1, none⟩ v1).setCell ⟨g, 2, none⟩ v2).setCell ⟨g, 3, none⟩ v3) :=
  (((h.setCell (p := ⟨g, 0, none⟩) hg v0).setCell (p := ⟨g, 1, none⟩) hg v1).setCell (p := ⟨g, 2, none⟩) hg v2).setCell (p := ⟨g, 3, none⟩) hg v3
end Go.Proofs.YtoihhlkidlapmaaGreat

namespace Go.Proofs.YtoihhlkidlapmaaGreat
open Go.RowKit Go.Shelf Go.Maps
theorem ownsRow_keep {W W' : World} {N e n size : Nat} {v : Value} {xs : List Value} (h : W.ownsRow N e size v n xs) (hk : ∀ j, v.ownBlock = some j → W'.heap[j]? = W.heap[j]?) : W'.ownsRow N e size v n xs := by
  refine ⟨h.1, ?_⟩
  rcases h.2 with h0 | ⟨g, cap, cur, hv, hg, hh, h2⟩
  · exact .inl h0
  · exact .inr ⟨g, cap, cur, hv, hg, (hk g (by rw [hv]; rfl)).trans hh, h2⟩
theorem ownsRow_sl {W : World} {N e n size : Nat} {v : Value} {xs : List Value} (h : W.ownsRow N e size v n xs) : ∃ a c, v = .slice a n c := by
  rcases h.2 with ⟨rfl, rfl⟩ | ⟨g, cap, cur, hv, _⟩
  · exact ⟨none, 0, rfl⟩
  · exact ⟨_, cap, hv⟩
theorem PlaceMap.keep {W W' : World} {mb n : Nat} {names : List ByteArray} {D : DataW Unit} (h : PlaceMap W mb n names D) (hk : W'.heap[mb]? = W.heap[mb]?) : PlaceMap W' mb n names D := by
  refine ⟨?_, h.has, h.at_⟩
  obtain ⟨es, clock, h1, h2⟩ := h.own
  exact ⟨es, clock, hk.trans h1, h2⟩
theorem PlaceMap.lt {W : World} {mb n : Nat} {names : List ByteArray} {D : DataW Unit} (h : PlaceMap W mb n names D) : mb < W.heap.size := h.own.lt
theorem infoInt3 : (Tryz.prog.info? 3).map (fun i => (i.zero, i.size, i.bytes)) = some (some (.int .i64 0), 1, 8) := by kernel_rfl
theorem int_oneN (x : Int) : ∀ u ∈ [Value.int .i64 x], u.oneCell' = true := fun u hu => by rw [List.mem_singleton.1 hu]; rfl
theorem app_int (w : World) (base ty : Nat) (v : Value) (n : Nat) (xs : List Value) (x : Int) (g : Nat) (hown : w.ownsRow base 3 1 v n xs) (h : w.cell? ⟨g, 0, none⟩ = some (.int .i64 x)) (hn : n ≤ 4294967296) (hb : base ≤ w.heap.size) :
    ∃ v' w', (Builtin.append_ #[88, 88] ty #[v, .slice (some ⟨g, 0, none⟩) 1 1]).run Tryz.prog w = .ok v' w' ∧ w'.ownsRow base 3 1 v' (n + 1) (xs ++ [.int .i64 x]) ∧ w.grownBy w' v.ownBlock ∧ (v'.ownBlock = v.ownBlock ∨ v'.ownBlock = some w.heap.size) := by
  obtain ⟨i0, hi, hz0, hz1, hz2⟩ := info_parts infoInt3
  obtain ⟨v', w', hr, h2, h3, _, h5⟩ := run_append_own_at (P := Tryz.prog) w base 88 ty 3 i0 (.int .i64 0) 1 8 Tryz.underlying88 hi hz0 hz1 hz2 rfl (by decide) v n xs hown ⟨g, 0, none⟩ 1 1 [.int .i64 x] (by simp) (by
    intro j u hj
    have : j = 0 := by
      have := (List.getElem?_eq_some_iff.1 hj).1
      simpa using this
    subst this
    simp at hj
    subst hj
    exact h) (int_oneN x) (by unfold maxLen; omega) (by omega) hb
  exact ⟨v', w', hr, h2, h3, h5⟩
theorem wp_int {ops : Array Oper} {rest : List Oper} {o : Oper} {a : Act} {w : World} {Q : Exit → Act → World → Prop} (hgd : o.guard = none) (s y : Operand) (ho : o.op = .call { callee := .builtin .append, args := #[s, y], argTypes := #[88, 88] })
    (base : Nat) (v : Value) (n : Nat) (xs : List Value) (x : Int) (g : Nat) (hs : a.eval s = v) (hx : a.eval y = .slice (some ⟨g, 0, none⟩) 1 1) (hown : w.ownsRow base 3 1 v n xs) (h : w.cell? ⟨g, 0, none⟩ = some (.int .i64 x)) (hn : n ≤ 4294967296) (hb : base ≤ w.heap.size)
    (hk : ∀ v' w', w'.ownsRow base 3 1 v' (n + 1) (xs ++ [.int .i64 x]) → w.grownBy w' v.ownBlock → (v'.ownBlock = v.ownBlock ∨ v'.ownBlock = some w.heap.size) → wpList Tryz.prog ops Q rest (a.put o.dst v') w') : wpList Tryz.prog ops Q (o :: rest) a w := by
  refine wpList_plain hgd fun K hK => ?_
  obtain ⟨v', w', hr, h2, h3, h5⟩ := app_int w base o.type v n xs x g hown h hn hb
  unfold Oper.wp execOp
  simp only [ho, resolve, invoke, builtin, Sem.run_bind, Sem.run_pure, Result.andThen_ok, List.map_toArray, List.map_cons, List.map_nil, hs, hx, hr]
  exact hK _ _ (hk v' w' h2 h3 h5)
theorem app_nameL (w : World) (base ty : Nat) (v : Value) (xs : List ByteArray) (x : ByteArray) (g : Nat) (hown : w.ownsRow base 9 1 v xs.length (xs.map Value.string)) (h : w.cell? ⟨g, 0, none⟩ = some (.string x)) (hn : xs.length ≤ 4294967296) (hb : base ≤ w.heap.size) :
    ∃ v' w', (Builtin.append_ #[24, 24] ty #[v, .slice (some ⟨g, 0, none⟩) 1 1]).run Tryz.prog w = .ok v' w' ∧ w'.ownsRow base 9 1 v' (xs ++ [x]).length ((xs ++ [x]).map Value.string) ∧ w.grownBy w' v.ownBlock ∧ (v'.ownBlock = v.ownBlock ∨ v'.ownBlock = some w.heap.size) := by
  obtain ⟨i0, hi, hz0, hz1, hz2⟩ := info_parts infoStr
  obtain ⟨v', w', hr, h2, h3, _, h5⟩ := run_append_own_at (P := Tryz.prog) w base 24 ty 9 i0 (.string ⟨#[]⟩) 1 16 Tryz.underlying24 hi hz0 hz1 hz2 rfl (by decide) v xs.length _ hown ⟨g, 0, none⟩ 1 1 [.string x] (by simp) (by
    intro j u hj
    have : j = 0 := by
      have := (List.getElem?_eq_some_iff.1 hj).1
      simpa using this
    subst this
    simp at hj
    subst hj
    exact h) (str_oneN x) (by unfold maxLen; omega) (by omega) hb
  refine ⟨v', w', hr, ?_, h3, h5⟩
  rw [List.map_append, List.length_append]
  exact h2
theorem name_op {ops : Array Oper} {Q : Exit → Act → World → Prop} {K : Act → World → Prop} {a : Act} {w : World} {o : Oper} {s y : Operand} (d : Nat) (base : Nat) (v : Value) (xs : List ByteArray) (x : ByteArray) (g : Nat)
    (hop : o.op = .call { callee := .builtin .append, args := #[s, y], argTypes := #[24, 24] }) (hw : Region.wanted o (yielded ops a.tmps) = true) (hd : o.dst = some d) (hs : a.eval s = v) (hx : a.eval y = .slice (some ⟨g, 0, none⟩) 1 1)
    (hown : w.ownsRow base 9 1 v xs.length (xs.map Value.string)) (h : w.cell? ⟨g, 0, none⟩ = some (.string x)) (hn : xs.length ≤ 4294967296) (hb : base ≤ w.heap.size)
    (hk : ∀ v' w', w'.ownsRow base 9 1 v' (xs ++ [x]).length ((xs ++ [x]).map Value.string) → w.grownBy w' v.ownBlock → (v'.ownBlock = v.ownBlock ∨ v'.ownBlock = some w.heap.size) → K (a.put (some d) v') w') : if Region.wanted o (yielded ops a.tmps) = true then Oper.wp Tryz.prog o a w K Q else K (a.put o.dst undef) w := by
  rw [if_pos hw]
  obtain ⟨v', w', hr, h2, h3, h5⟩ := app_nameL w base o.type v xs x g hown h hn hb
  unfold Oper.wp execOp
  simp only [hop, resolve, invoke, builtin, Sem.run_bind, Sem.run_pure, Result.andThen_ok, List.map_toArray, List.map_cons, List.map_nil, hs, hx, hr]
  show K (a.put o.dst v') w'
  rw [hd]
  exact hk v' w' h2 h3 h5
structure WS where
  wt : List Nat
  ask : Nat → Nat
  out : List ByteArray
def intsV (l : List Nat) : List Value := l.map fun i : Nat => Value.int .i64 (i : Int)
structure WK (W : World) (N g : Nat) (pv : Value) (ps : List packC.D) (st : Nat → Int) (S : WS) (mb kb : Nat) (D : DataW Unit) (wv nv : Value) : Prop where
  box : W.heap[g]? = some (.cells #[pv, .map (some mb), .slice (some ⟨kb, 0, none⟩) ps.length ps.length, wv, nv] 90 (0, 0))
  marks : ∃ cur : Array Value, W.heap[kb]? = some (.cells cur 217 (0, 0)) ∧ cur.size = ps.length * 2 ∧ ∀ i, i < ps.length → cur[i * 2]? = some (.int .i64 (st i)) ∧ cur[i * 2 + 1]? = some (.int .i64 (S.ask i : Int))
  map : PlaceMap W mb ps.length (namesP ps) D
  waits : W.ownsRow N 3 1 wv S.wt.length (intsV S.wt.reverse)
  names : W.ownsRow N 9 1 nv S.out.length (S.out.map Value.string)
  lo : N ≤ g ∧ N ≤ mb ∧ N ≤ kb
  ap : mb ≠ g ∧ kb ≠ g ∧ kb ≠ mb
  wap : wv.ownBlock ≠ some g ∧ wv.ownBlock ≠ some mb ∧ wv.ownBlock ≠ some kb
  nap : nv.ownBlock ≠ some g ∧ nv.ownBlock ≠ some mb ∧ nv.ownBlock ≠ some kb
  wn : ∀ j, wv.ownBlock = some j → nv.ownBlock ≠ some j
theorem WK.glt {W : World} {N g : Nat} {pv : Value} {ps : List packC.D} {st : Nat → Int} {S : WS} {mb kb : Nat} {D : DataW Unit} {wv nv : Value} (h : WK W N g pv ps st S mb kb D wv nv) : g < W.heap.size ∧ mb < W.heap.size ∧ kb < W.heap.size := by
  obtain ⟨cur, h1, _⟩ := h.marks
  exact ⟨(Array.getElem?_eq_some_iff.1 h.box).1, h.map.lt, (Array.getElem?_eq_some_iff.1 h1).1⟩
theorem WK.keep {W W' : World} {N g : Nat} {pv : Value} {ps : List packC.D} {st : Nat → Int} {S : WS} {mb kb : Nat} {D : DataW Unit} {wv nv : Value} (h : WK W N g pv ps st S mb kb D wv nv) (hk : ∀ j, N ≤ j → j < W.heap.size → W'.heap[j]? = W.heap[j]?) : WK W' N g pv ps st S mb kb D wv nv := by
  obtain ⟨l1, l2, l3⟩ := h.glt
  obtain ⟨cur, h1, h2⟩ := h.marks
  exact ⟨(hk g h.lo.1 l1).trans h.box, ⟨cur, (hk kb h.lo.2.2 l3).trans h1, h2⟩, h.map.keep (hk mb h.lo.2.1 l2), ownsRow_keep h.waits (fun j e => hk j (h.waits.lt j e).1 (h.waits.lt j e).2), ownsRow_keep h.names (fun j e => hk j (h.names.lt j e).1 (h.names.lt j e).2), h.lo, h.ap, h.wap, h.nap, h.wn⟩
theorem WK.below {W W' : World} {N g : Nat} {pv : Value} {ps : List packC.D} {st : Nat → Int} {S : WS} {mb kb : Nat} {D : DataW Unit} {wv nv : Value} (h : WK W N g pv ps st S mb kb D wv nv) (hb : Below W.heap.size W W') : WK W' N g pv ps st S mb kb D wv nv := h.keep (fun j _ hj => hb.block j hj)
theorem WK.mark {W W' : World} {N g : Nat} {pv : Value} {ps : List packC.D} {st st' : Nat → Int} {S S' : WS} {mb kb : Nat} {D : DataW Unit} {wv nv : Value} (h : WK W N g pv ps st S mb kb D wv nv) (i o : Nat) (x : Int) (_ho : i * 2 + o < ps.length * 2) (hW : W' = W.setCell ⟨kb, i * 2 + o, none⟩ (.int .i64 x))
    (e1 : S'.wt = S.wt) (e2 : S'.out = S.out) (hc : ∀ j, j < ps.length → (.int .i64 (st' j) = if i * 2 + o = j * 2 then Value.int .i64 x else .int .i64 (st j)) ∧ (.int .i64 (S'.ask j : Int) = if i * 2 + o = j * 2 + 1 then Value.int .i64 x else .int .i64 (S.ask j : Int))) : WK W' N g pv ps st' S' mb kb D wv nv := by
  subst hW
  obtain ⟨cur, h1, h2, h3⟩ := h.marks
  have hne : ∀ j, j ≠ kb → (W.setCell ⟨kb, i * 2 + o, none⟩ (.int .i64 x)).heap[j]? = W.heap[j]? := fun j hj => Below.heap_setCell _ _ _ _ hj
  refine ⟨(hne g (Ne.symm h.ap.2.1)).trans h.box, ⟨cur.setIfInBounds (i * 2 + o) (.int .i64 x), heap_setCell_same W kb (i * 2 + o) cur _ _ h1, by rw [Array.size_setIfInBounds]; exact h2, fun j hj => ?_⟩, h.map.keep (hne mb (Ne.symm h.ap.2.2)), by rw [e1]; exact ownsRow_keep h.waits (fun j e => hne j (fun ej => h.wap.2.2 (by rw [e, ej]))), by rw [e2]; exact ownsRow_keep h.names (fun j e => hne j (fun ej => h.nap.2.2 (by rw [e, ej]))), h.lo, h.ap, h.wap, h.nap, h.wn⟩
  obtain ⟨c1, c2⟩ := hc j hj
  obtain ⟨d1, d2⟩ := h3 j hj
  rw [Array.getElem?_setIfInBounds, Array.getElem?_setIfInBounds]
  constructor
  · rw [c1]
    split
    · rw [if_pos (by omega)]
    · exact d1
  · rw [c2]
    split
    · rw [if_pos (by omega)]
    · exact d2
theorem WK.field {W W' : World} {N g : Nat} {pv : Value} {ps : List packC.D} {st : Nat → Int} {S S' : WS} {mb kb : Nat} {D : DataW Unit} {wv nv wv' nv' : Value} (h : WK W N g pv ps st S mb kb D wv nv) (hbox : W'.heap[g]? = some (.cells #[pv, .map (some mb), .slice (some ⟨kb, 0, none⟩) ps.length ps.length, wv', nv'] 90 (0, 0)))
    (hk : ∀ j, j = mb ∨ j = kb → W'.heap[j]? = W.heap[j]?) (e : S'.ask = S.ask) (hw : W'.ownsRow N 3 1 wv' S'.wt.length (intsV S'.wt.reverse)) (hn : W'.ownsRow N 9 1 nv' S'.out.length (S'.out.map Value.string))
    (hwap : wv'.ownBlock ≠ some g ∧ wv'.ownBlock ≠ some mb ∧ wv'.ownBlock ≠ some kb) (hnap : nv'.ownBlock ≠ some g ∧ nv'.ownBlock ≠ some mb ∧ nv'.ownBlock ≠ some kb) (hwn : ∀ j, wv'.ownBlock = some j → nv'.ownBlock ≠ some j) : WK W' N g pv ps st S' mb kb D wv' nv' := by
  obtain ⟨cur, h1, h2, h3⟩ := h.marks
  exact ⟨hbox, ⟨cur, (hk kb (.inr rfl)).trans h1, h2, fun i hi => by rw [e]; exact h3 i hi⟩, h.map.keep (hk mb (.inl rfl)), hw, hn, h.lo, h.ap, hwap, hnap, hwn⟩
theorem WK.cells {W : World} {N g : Nat} {pv : Value} {ps : List packC.D} {st : Nat → Int} {S : WS} {mb kb : Nat} {D : DataW Unit} {wv nv : Value} (h : WK W N g pv ps st S mb kb D wv nv) : (W.cell? ⟨g, 0, none⟩ = some pv ∧ W.cell? ⟨g, 1, none⟩ = some (.map (some mb)) ∧ W.cell? ⟨g, 2, none⟩ = some (.slice (some ⟨kb, 0, none⟩) ps.length ps.length) ∧ W.cell? ⟨g, 3, none⟩ = some wv ∧ W.cell? ⟨g, 4, none⟩ = some nv) ∧ W.frozen? ⟨g, 3, none⟩ = false ∧ W.frozen? ⟨g, 4, none⟩ = false :=
  ⟨⟨cell_arrS h.box 0 _ rfl, cell_arrS h.box 1 _ rfl, cell_arrS h.box 2 _ rfl, cell_arrS h.box 3 _ rfl, cell_arrS h.box 4 _ rfl⟩, (cell_fz h.box 3 _ rfl).2, (cell_fz h.box 4 _ rfl).2⟩
theorem WK.markAt {W : World} {N g : Nat} {pv : Value} {ps : List packC.D} {st : Nat → Int} {S : WS} {mb kb : Nat} {D : DataW Unit} {wv nv : Value} (h : WK W N g pv ps st S mb kb D wv nv) {i : Nat} (hi : i < ps.length) : (W.cell? ⟨kb, i * 2, none⟩ = some (.int .i64 (st i)) ∧ W.cell? ⟨kb, i * 2 + 1, none⟩ = some (.int .i64 (S.ask i : Int))) ∧ W.frozen? ⟨kb, i * 2, none⟩ = false ∧ W.frozen? ⟨kb, i * 2 + 1, none⟩ = false := by
  obtain ⟨cur, h1, h2, h3⟩ := h.marks
  exact ⟨⟨(cell_fz h1 _ _ (h3 i hi).1).1, (cell_fz h1 _ _ (h3 i hi).2).1⟩, (cell_fz h1 _ _ (h3 i hi).1).2, (cell_fz h1 _ _ (h3 i hi).2).2⟩
theorem WK.last {W : World} {N g : Nat} {pv : Value} {ps : List packC.D} {st : Nat → Int} {S : WS} {mb kb : Nat} {D : DataW Unit} {wv nv : Value} (h : WK W N g pv ps st S mb kb D wv nv) {i : Nat} {rest : List Nat} (e : S.wt = i :: rest) : ∃ wb wc, wv = .slice (some ⟨wb, 0, none⟩) (rest.length + 1) wc ∧ W.cell? ⟨wb, rest.length, none⟩ = some (.int .i64 (i : Int)) ∧ wb < W.heap.size ∧ rest.length + 1 ≤ wc ∧ W.ownsRow N 3 1 (.slice (some ⟨wb, 0, none⟩) rest.length wc) rest.length (intsV rest.reverse) := by
  have hw := h.waits
  rw [e] at hw
  rcases hw.2 with ⟨_, h0⟩ | ⟨wb, wc, cur, hv, hN, hh, h1, h2, h3, h4⟩
  · cases h0
  · have hi : (i :: rest).length = rest.length + 1 := rfl
    rw [hi] at hv h1 h4
    rw [Nat.mul_one] at h4
    have hl : (intsV (i :: rest).reverse) = intsV rest.reverse ++ [.int .i64 (i : Int)] := by unfold intsV; rw [List.reverse_cons, List.map_append]; rfl
    rw [hl] at h4
    have hil : (intsV rest.reverse).length = rest.length := by unfold intsV; rw [List.length_map, List.length_reverse]
    refine ⟨wb, wc, hv, ?_, (Array.getElem?_eq_some_iff.1 hh).1, h1, by rw [hil, Nat.mul_one], .inr ⟨wb, wc, cur, rfl, hN, hh, by omega, h2, h3, ?_⟩⟩
    · refine cell_arrS hh _ _ ?_
      have h5 : (cur.toList.take (rest.length + 1))[rest.length]? = some (.int .i64 (i : Int)) := by rw [h4, List.getElem?_append_right (by omega), hil, Nat.sub_self]; rfl
      rw [List.getElem?_take_of_lt (by omega), Array.getElem?_toList] at h5
      exact h5
    · rw [Nat.mul_one]
      have h6 := congrArg (List.take rest.length) h4
      rw [List.take_take, Nat.min_eq_left (Nat.le_succ _), List.take_left' hil] at h6
      exact h6
end Go.Proofs.YtoihhlkidlapmaaGreat

namespace Go.Proofs.YtoihhlkidlapmaaGreat
open Go.RowKit Go.Shelf Go.Maps
def stI (nm : List ByteArray) (S : WS) (i : Nat) : Int := match nm[i]? with
  | some x => if memB x S.out = true then 2 else if i ∈ S.wt then 1 else 0
  | none => 0
def StOk (nm : List ByteArray) (S : WS) (st : Nat → Int) : Prop := ∀ i, i < nm.length → st i = stI nm S i
theorem stI_at {nm : List ByteArray} {S : WS} {i : Nat} {x : ByteArray} (h : nm[i]? = some x) : stI nm S i = if memB x S.out = true then 2 else if i ∈ S.wt then 1 else 0 := by unfold stI; rw [h]
def WS.push (S : WS) (i : Nat) : WS := ⟨i :: S.wt, S.ask, S.out⟩
theorem intsV_push (S : WS) (i : Nat) : intsV (S.push i).wt.reverse = intsV S.wt.reverse ++ [.int .i64 (i : Int)] := by
  show intsV (i :: S.wt).reverse = _
  unfold intsV
  rw [List.reverse_cons, List.map_append]
  rfl
def enC (S : WS) (i : Nat) (x : ByteArray) : Int := if memB x S.out = true then 0 else if i ∈ S.wt then 4 else 0
def enS (S : WS) (i : Nat) (x : ByteArray) : WS := if memB x S.out = true then S else if i ∈ S.wt then S else S.push i
theorem stI_push {nm : List ByteArray} {S : WS} {i : Nat} {x : ByteArray} (h : nm[i]? = some x) (hx : memB x S.out = false) {j : Nat} (hj : j < nm.length) : stI nm (S.push i) j = if j = i then 1 else stI nm S j := by
  obtain ⟨y, hy⟩ : ∃ y, nm[j]? = some y := ⟨nm[j], List.getElem?_eq_getElem hj⟩
  rw [stI_at hy, stI_at hy]
  show (if memB y S.out = true then (2 : Int) else if j ∈ i :: S.wt then 1 else 0) = _
  by_cases e : j = i
  · subst e
    rw [h] at hy
    cases hy
    rw [hx]
    simp
  · rw [if_neg e]
    have : (j ∈ i :: S.wt) ↔ j ∈ S.wt := by rw [List.mem_cons]; exact ⟨fun h => h.resolve_left e, .inr⟩
    simp only [this]
def EnR (N g : Nat) (pv : Value) (ps : List packC.D) (mb kb : Nat) (D : DataW Unit) (nv : Value) (c : Int) (S : WS) (W : World) (e : Ending) (W' : World) : Prop := ∃ st wv, e = .returned (.int .i64 c) ∧ WK W' N g pv ps st S mb kb D wv nv ∧ StOk (namesP ps) S st ∧ Below N W W'
set_option maxRecDepth 100000 in
set_option maxHeartbeats 8000000 in
theorem enter_none (N g : Nat) (pv : Value) (ps : List packC.D) (st : Nat → Int) (S : WS) (mb kb : Nat) (D : DataW Unit) (wv nv : Value) (x : ByteArray) (W : World) (hx : x.size ≤ maxLen) (h : WK W N g pv ps st S mb kb D wv nv) (hs : StOk (namesP ps) S st) (hno : x ∉ namesP ps) :
    Calls Tryz.prog 120 #[.pointer (some ⟨g, 0, none⟩), .string x] W (EnR N g pv ps mb kb D nv 3 S W) := by
  obtain ⟨c, hlk, -⟩ := h.map.look x hx
  rw [memB_no hno] at hlk
  obtain ⟨⟨c0, c1, c2, c3, c4⟩, -, -⟩ := h.cells
  have H := hid h
  have HS := hid hs
  clear h hno hs
  go_enter Tryz.func120, Tryz.ntmps120
  go_wp2_with fail
  go_ret
  exact ⟨st, wv, rfl, unhid H, unhid HS, Below.refl _ _⟩
set_option maxRecDepth 100000 in
set_option maxHeartbeats 16000000 in
theorem enter_at (N g : Nat) (pv : Value) (ps : List packC.D) (st : Nat → Int) (S : WS) (mb kb : Nat) (D : DataW Unit) (wv nv : Value) (x : ByteArray) (i : Nat) (W : World) (hx : x.size ≤ maxLen) (hwl : S.wt.length ≤ 1048576) (h : WK W N g pv ps st S mb kb D wv nv) (hs : StOk (namesP ps) S st) (hi : (namesP ps)[i]? = some x) :
    Calls Tryz.prog 120 #[.pointer (some ⟨g, 0, none⟩), .string x] W (EnR N g pv ps mb kb D nv (enC S i x) (enS S i x) W) := by
  have hil : i < (namesP ps).length := (List.getElem?_eq_some_iff.1 hi).1
  have hip : i < ps.length := by rwa [namesP_len] at hil
  obtain ⟨c, hlk, hc⟩ := h.map.look x hx
  obtain rfl := hc i hi
  rw [memB_yes (List.mem_of_getElem? hi)] at hlk
  obtain ⟨⟨c0, c1, c2, c3, c4⟩, f3, -⟩ := h.cells
  obtain ⟨⟨k0, k1⟩, fk, -⟩ := h.markAt hip
  have hst := hs i hil
  rw [stI_at hi] at hst
  rw [hst] at k0
  have H := hid h
  have HS := hid hs
  have HI := hid hi
  clear h hs hi hst hc
  cases hm : memB x S.out with
  | true =>
    have E := hid (show enC S i x = 0 ∧ enS S i x = S by unfold enC enS; rw [hm]; exact ⟨rfl, rfl⟩)
    rw [hm, if_pos rfl] at k0
    clear hm
    go_enter Tryz.func120, Tryz.ntmps120
    go_wp2_with fail
    go_ret
    exact ⟨st, wv, by rw [(unhid E).1]; rfl, by rw [(unhid E).2]; exact unhid H, by rw [(unhid E).2]; exact unhid HS, Below.refl _ _⟩
  | false =>
    rw [hm, if_neg (by decide)] at k0
    have HM := hid hm
    by_cases hw : i ∈ S.wt
    · have E := hid (show enC S i x = 4 ∧ enS S i x = S by unfold enC enS; rw [hm, if_pos hw, if_pos hw]; exact ⟨rfl, rfl⟩)
      rw [if_pos hw] at k0
      clear hm hw
      go_enter Tryz.func120, Tryz.ntmps120
      go_wp2_with fail
      go_ret
      exact ⟨st, wv, by rw [(unhid E).1]; rfl, by rw [(unhid E).2]; exact unhid H, by rw [(unhid E).2]; exact unhid HS, Below.refl _ _⟩
    · have E := hid (show enC S i x = 0 ∧ enS S i x = S.push i by unfold enC enS; rw [hm, if_neg hw, if_neg hw]; exact ⟨rfl, rfl⟩)
      rw [if_neg hw] at k0
      clear hm hw
      have H1 := hid ((unhid H).mark (W' := W.setCell ⟨kb, i * 2 + 0, none⟩ (.int .i64 1)) (st' := fun j => if j = i then 1 else st j) (S' := S) i 0 1 (by omega) rfl rfl rfl (fun j hj => ⟨by
        by_cases e : j = i
        · subst e; rw [if_pos rfl, if_pos (by omega)]
        · rw [if_neg e, if_neg (by omega)], by rw [if_neg (by omega)]⟩))
      obtain ⟨⟨d0, d1, d2, d3, d4⟩, g3, -⟩ := (unhid H1).cells
      rw [Nat.add_zero] at d3
      have HL := hid (unhid H).lo
      have HBW := hid (show Below N W (W.setCell ⟨kb, i * 2, none⟩ (.int .i64 1)) from (Below.refl _ W).setCell (p := ⟨kb, i * 2, none⟩) (unhid HL).2.2 _)
      rw [Nat.add_zero] at H1
      have HW := hid ((unhid H1).waits.alloc (.cells #[.int .i64 (i : Int)] 3))
      have HC := hid (show ((W.setCell ⟨kb, i * 2, none⟩ (.int .i64 1)).alloc (.cells #[.int .i64 (i : Int)] 3)).cell? ⟨W.heap.size, 0, none⟩ = some (.int .i64 (i : Int)) by have h1 := cell_newN (W.setCell ⟨kb, i * 2, none⟩ (.int .i64 1)) (.int .i64 (i : Int)) 3; rwa [show (W.setCell ⟨kb, i * 2, none⟩ (.int .i64 1)).heap.size = W.heap.size by simp] at h1)
      have HSZ := hid (show N ≤ ((W.setCell ⟨kb, i * 2, none⟩ (.int .i64 1)).alloc (.cells #[.int .i64 (i : Int)] 3)).heap.size from by have := (unhid HL).1; have := (unhid H).glt.1; simp; omega)
      clear d0 d1 d2 d4 g3
      go_enter Tryz.func120, Tryz.ntmps120
      go_wp2_with (at_builtin; refine wp_int rfl _ _ rfl N wv S.wt.length _ (i : Int) W.heap.size rfl rfl (unhid HW) (unhid HC) (by omega) (unhid HSZ) ?_)
      intro v' W2 hown hg hat
      obtain ⟨va, vc, hvv⟩ := ownsRow_sl hown
      subst hvv
      have hA : Below (W.setCell ⟨kb, i * 2, none⟩ (.int .i64 1)).heap.size (W.setCell ⟨kb, i * 2, none⟩ (.int .i64 1)) ((W.setCell ⟨kb, i * 2, none⟩ (.int .i64 1)).alloc (.cells #[.int .i64 (i : Int)] 3)) := (Below.refl _ _).alloc (Nat.le_refl _) _
      have hsz : ((W.setCell ⟨kb, i * 2, none⟩ (.int .i64 1)).alloc (.cells #[.int .i64 (i : Int)] 3)).heap.size = W.heap.size + 1 := by simp
      have H2 := (unhid H1).below hA
      obtain ⟨l1, l2, l3⟩ := H2.glt
      obtain ⟨p1, p2, p3⟩ := H2.wap
      have hb2 := (hg.block g l1 (fun e => p1 e.symm)).trans H2.box
      obtain ⟨e3, f3⟩ := cell_fz hb2 3 _ rfl
      have hnew : ∀ j, (Value.slice va (S.wt.length + 1) vc).ownBlock = some j → j ≠ g ∧ j ≠ mb ∧ j ≠ kb ∧ nv.ownBlock ≠ some j := fun j ej => by
        rcases hat with e | e
        · rw [e] at ej
          exact ⟨fun q => p1 (by rw [ej, q]), fun q => p2 (by rw [ej, q]), fun q => p3 (by rw [ej, q]), H2.wn j ej⟩
        · rw [e] at ej
          injection ej with ej
          refine ⟨by omega, by omega, by omega, fun q => ?_⟩
          have := (H2.names.lt j q).2
          omega
      have hnk : ∀ j, nv.ownBlock = some j → W2.heap[j]? = ((W.setCell ⟨kb, i * 2, none⟩ (.int .i64 1)).alloc (.cells #[.int .i64 (i : Int)] 3)).heap[j]? := fun j ej => hg.block j (H2.names.lt j ej).2 (fun q => H2.wn j q.symm ej)
      have HF := hid (H2.field (W' := W2.setCell ⟨g, 3, none⟩ (.slice va (S.wt.length + 1) vc)) (S' := S.push i) (wv' := .slice va (S.wt.length + 1) vc) (nv' := nv) (heap_setCell_same W2 g 3 _ _ (.slice va (S.wt.length + 1) vc) hb2) (fun j hj => (Below.heap_setCell _ _ _ _ (by rcases hj with rfl | rfl; exact H2.ap.1; exact H2.ap.2.1)).trans (hg.block j (by rcases hj with rfl | rfl; exact l2; exact l3) (fun q => by rcases hj with rfl | rfl; exact p2 q.symm; exact p3 q.symm))) rfl
        (by rw [intsV_push]; exact ownsRow_keep hown (fun j ej => Below.heap_setCell _ _ _ _ (hnew j ej).1))
        (ownsRow_keep (ownsRow_keep H2.names hnk) (fun j ej => Below.heap_setCell _ _ _ _ (fun q => H2.nap.1 (by rw [ej]; exact congrArg some q))))
        ⟨fun q => (hnew g q).1 rfl, fun q => (hnew mb q).2.1 rfl, fun q => (hnew kb q).2.2.1 rfl⟩ H2.nap (fun j ej => (hnew j ej).2.2.2))
      have hNg := (unhid HL).1
      have HB := hid (show Below N W (W2.setCell ⟨g, 3, none⟩ (.slice va (S.wt.length + 1) vc)) from Below.setCell (p := ⟨g, 3, none⟩) (by
        have h1 : Below N W ((W.setCell ⟨kb, i * 2, none⟩ (.int .i64 1)).alloc (.cells #[.int .i64 (i : Int)] 3)) := (unhid HBW).trans (hA.mono (by have := (unhid HL).1; have := (unhid H).glt.1; simp; omega))
        exact ⟨hg.os.trans h1.os, hg.tape.trans h1.tape, hg.output.trans h1.output, Nat.le_trans h1.size hg.size, fun k hk => (hg.block k (by omega) (fun e => by have := (H2.waits.lt k e.symm).1; omega)).trans (h1.block k hk)⟩) (unhid HL).1 _)
      clear hown hg hat hA H2 l1 l2 l3 p1 p2 p3 hb2 hnew hnk HW HC HSZ
      go_wp2_with fail
      go_ret
      refine ⟨_, _, by rw [(unhid E).1]; rfl, by rw [(unhid E).2]; exact unhid HF, ?_, unhid HB⟩
      rw [(unhid E).2]
      intro j hj
      rw [stI_push (unhid HI) (unhid HM) hj]
      show (if j = i then (1 : Int) else st j) = _
      rw [unhid HS j hj]
end Go.Proofs.YtoihhlkidlapmaaGreat

namespace Go.Proofs.YtoihhlkidlapmaaGreat
open Go.RowKit Go.Shelf Go.Maps
set_option maxRecDepth 100000 in
set_option maxHeartbeats 8000000 in
theorem fits_any (N g : Nat) (pa : Option Addr) (pc : Nat) (ps : List packC.D) (st : Nat → Int) (S : WS) (mb kb : Nat) (D : DataW Unit) (wv nv : Value) (n : needC.D) (W : World) (hsm : smallPs ps) (hok : allPk ps = true) (hnd : (namesP ps).Nodup) (hp : rowAt packC W (.slice pa ps.length pc) ps) (h : WK W N g (.slice pa ps.length pc) ps st S mb kb D wv nv) (hn : needOkD n = true) (hsn : (NeedD.name n).size ≤ 1048576 ∧ (NeedD.version n).size ≤ 1048576) :
    Calls Tryz.prog 186 #[.pointer (some ⟨g, 0, none⟩), .agg #[.string (NeedD.name n), .int .i64 (NeedD.kind n), .string (NeedD.version n)]] W fun e W' => e = .returned (.bool (hasNeed ps n)) ∧ Below W.heap.size W W' := by
  have HR := hid hp
  obtain ⟨a', c', ev, -, -, hrow⟩ := hp
  injection ev with ea _ ec
  subst ea ec
  have HROW := hid hrow
  have HSM := hid hsm
  have HOK := hid hok
  have HND := hid hnd
  have H := hid h
  have HN := hid hn
  have SN := hid hsn
  have hgl := h.glt
  clear hrow hsm hok hnd h hn hsn
  go_enter Tryz.func186, Tryz.ntmps186
  go_wp2_with fail
  have hbox := World.alloc_heap_new W (.cells #[.string (NeedD.name n), .int .i64 (NeedD.kind n), .string (NeedD.version n)] 36)
  have hB0 : Below W.heap.size W (W.alloc (.cells #[.string (NeedD.name n), .int .i64 (NeedD.kind n), .string (NeedD.version n)] 36)) := (Below.refl _ W).alloc (Nat.le_refl _) _
  have hlw : W.heap.size < (W.alloc (.cells #[.string (NeedD.name n), .int .i64 (NeedD.kind n), .string (NeedD.version n)] 36)).heap.size := by simp
  generalize W.alloc (.cells #[.string (NeedD.name n), .int .i64 (NeedD.kind n), .string (NeedD.version n)] 36) = W1 at hbox hB0 hlw ⊢
  have BX1 := hid hbox
  have HB1 := hid hB0
  have HLW1 := hid hlw
  have H1 := hid ((unhid H).below hB0)
  obtain ⟨c, hlk2, hc⟩ := ((unhid H1).map.keep (W' := W1.drew) rfl).look (NeedD.name n) (le_maxLen (unhid SN).1)
  have HC := hid hc
  clear hbox hB0 hlw hc
  have g0 : ∀ x : CW (fun w' => Below W1.heap.size W1 w'), x.w.cell? ⟨W.heap.size, 0, none⟩ = some (.string (NeedD.name n)) := fun x => cell_arrS ((x.h.block _ (unhid HLW1)).trans (unhid BX1)) 0 _ rfl
  have g1 : ∀ x : CW (fun w' => Below W1.heap.size W1 w'), x.w.cell? ⟨W.heap.size, 1, none⟩ = some (.int .i64 (NeedD.kind n)) := fun x => cell_arrS ((x.h.block _ (unhid HLW1)).trans (unhid BX1)) 1 _ rfl
  have g2 : ∀ x : CW (fun w' => Below W1.heap.size W1 w'), x.w.cell? ⟨W.heap.size, 2, none⟩ = some (.string (NeedD.version n)) := fun x => cell_arrS ((x.h.block _ (unhid HLW1)).trans (unhid BX1)) 2 _ rfl
  have k0 : ∀ x : CW (fun w' => Below W1.heap.size W1 w'), x.w.cell? ⟨g, 0, none⟩ = some (.slice pa ps.length pc) := fun x => cell_arrS ((x.h.block _ (unhid H1).glt.1).trans (unhid H1).box) 0 _ rfl
  have k1 : ∀ x : CW (fun w' => Below W1.heap.size W1 w'), x.w.cell? ⟨g, 1, none⟩ = some (.map (some mb)) := fun x => cell_arrS ((x.h.block _ (unhid H1).glt.1).trans (unhid H1).box) 1 _ rfl
  have hba : ∀ {q : Prop}, (CW (fun w' => Below W1.heap.size W1 w') → q) ↔ q := CW.all (Below.refl _ W1)
  refine held_begin (fun w' => Below W1.heap.size W1 w') (by kernel_rfl) (drew_belowS _) ?_
  refine held_here [true, true, true, true, true, true] (by kernel_rfl) (by kernel_rfl) (fun _ _ _ _ _ h => h) (drew_belowS _) ?_
  dsimp only [pick]
  repeat (go_big_quiet_step (fail))
  refine wpQuiet_nil ?_
  have hD := drew_belowS (B := W1.heap.size) W1
  generalize W1.drew = W2 at hD hlk2 ⊢
  refine held_op 6 (by kernel_rfl) (by kernel_rfl) rfl (fun K hK => ?_)
  go_simp
  refine hK.out _ _ hD ?_
  refine held_here [false, false, false, false, false, false, false, true, true, true, true, true] (by kernel_rfl) (by kernel_rfl) (fun _ _ _ _ _ h => h) hD ?_
  dsimp only [pick]
  repeat (go_big_quiet_step (fail))
  refine wpQuiet_nil ?_
  refine held_done (by kernel_rfl) ?_
  clear hba g0 g1 g2 k0 k1 hlk2
  have HB2 := hid ((unhid HB1).trans (hD.mono (unhid HB1).size))
  have BX2 := hid ((hD.block _ (unhid HLW1)).trans (unhid BX1))
  have HLW2 := hid (Nat.lt_of_lt_of_le (unhid HLW1) hD.size)
  have H2 := hid ((unhid H1).below hD)
  clear hD H1 BX1 HLW1 HB1
  have g0 : ∀ x : CW (fun w' => Below W2.heap.size W2 w'), x.w.cell? ⟨W.heap.size, 0, none⟩ = some (.string (NeedD.name n)) := fun x => cell_arrS ((x.h.block _ (unhid HLW2)).trans (unhid BX2)) 0 _ rfl
  have g1 : ∀ x : CW (fun w' => Below W2.heap.size W2 w'), x.w.cell? ⟨W.heap.size, 1, none⟩ = some (.int .i64 (NeedD.kind n)) := fun x => cell_arrS ((x.h.block _ (unhid HLW2)).trans (unhid BX2)) 1 _ rfl
  have g2 : ∀ x : CW (fun w' => Below W2.heap.size W2 w'), x.w.cell? ⟨W.heap.size, 2, none⟩ = some (.string (NeedD.version n)) := fun x => cell_arrS ((x.h.block _ (unhid HLW2)).trans (unhid BX2)) 2 _ rfl
  have k0 : ∀ x : CW (fun w' => Below W2.heap.size W2 w'), x.w.cell? ⟨g, 0, none⟩ = some (.slice pa ps.length pc) := fun x => cell_arrS ((x.h.block _ (unhid H2).glt.1).trans (unhid H2).box) 0 _ rfl
  have hba : ∀ {q : Prop}, (CW (fun w' => Below W2.heap.size W2 w') → q) ↔ q := CW.all (Below.refl _ W2)
  by_cases hin : NeedD.name n ∈ namesP ps
  · rw [memB_yes hin]
    obtain ⟨i, hi⟩ := List.getElem?_of_mem hin
    obtain rfl := unhid HC i hi
    obtain ⟨q, hq, hqn⟩ := namesP_some hi
    have hil : i < ps.length := (List.getElem?_eq_some_iff.1 hq).1
    have hne : ps ≠ [] := by intro e; subst e; simp at hil
    obtain ⟨b, o, rfl, hbl, hc⟩ := (unhid HROW).resolve_left hne
    have SQ := hid ((unhid HSM).2 q (List.mem_of_getElem? hq))
    have EH := hid (show fitsB (NeedD.name n).data.toList (NeedD.kind n) (NeedD.version n).data.toList (NeedD.name n).data.toList (PackD.version q).data.toList = hasNeed ps n by
      rw [has_atN (unhid HND) hq hqn]
      have h1 : pkOk q = true := List.all_eq_true.1 (unhid HOK) q (List.mem_of_getElem? hq)
      have h2 : versOk (PackD.version q).data.toList = true := by
        unfold pkOk at h1
        simp only [Bool.and_eq_true] at h1
        exact h1.1.1.2
      have h3 : needB (NeedD.name n).data.toList (NeedD.kind n) (NeedD.version n).data.toList = true := unhid HN
      unfold fitsB
      rw [h2, h3]
      simp)
    obtain ⟨-, -, -, -, ⟨-, d1, -, -⟩, -⟩ := pack_cells (unhid HB2) hbl hc hq
    have hbw : b < W2.heap.size := Nat.lt_of_lt_of_le hbl (unhid HB2).size
    have g3 : ∀ x : CW (fun w' => Below W2.heap.size W2 w'), x.w.cell? ⟨b, o + i * 4 + 1, none⟩ = some (.string (PackD.version q)) := fun x => (x.h.cell (p := ⟨b, o + i * 4 + 1, none⟩) hbw).trans d1
    clear hi hq hqn d1 hc hne hbl hin
    go_wp2_with fail
    refine held_begin (fun w' => Below W2.heap.size W2 w') (by kernel_rfl) (drew_belowS _) ?_
    refine held_here [true, true, true, true, true, true, true, true, true, true, true, true, true] (by kernel_rfl) (by kernel_rfl) (fun _ _ _ _ _ h => h) (drew_belowS _) ?_
    dsimp only [pick]
    repeat (go_big_quiet_step (fail))
    refine wpQuiet_nil ?_
    have hD := drew_belowS (B := W2.heap.size) W2
    generalize W2.drew = W3 at hD ⊢
    clear g0 g1 g2 g3 k0
    refine held_call 13 248 30 (enters_of Tryz.func248 (by kernel_rfl) rfl) #[.agg #[.string (NeedD.name n), .int .i64 (NeedD.kind n), .string (NeedD.version n)], .string (NeedD.name n), .string (PackD.version q)] (by kernel_rfl) (by kernel_rfl) rfl rfl rfl rfl rfl ?_
    refine (NeedFits_any (NeedD.name n) (NeedD.version n) (NeedD.name n) (PackD.version q) (NeedD.kind n) (le_maxLen (unhid SN).1) (le_maxLen (unhid SN).2) (le_maxLen (unhid SQ).version) W3).mono ?_
    rintro x W4 ⟨rfl, hb⟩
    have hD2 := hD.trans (hb.mono hD.size)
    have HB4 := hid ((unhid HB2).trans (hD2.mono (unhid HB2).size))
    refine ⟨_, rfl, hD2, ?_⟩
    simp only [Act.put, List.setIfInBounds_toArray, List.set_cons_zero, List.set_cons_succ]
    rw [unhid EH]
    clear hb
    refine held_here [false, false, false, false, false, false, false, false, false, false, false, false, false, false, true, true] (by kernel_rfl) (by kernel_rfl) (fun _ _ _ _ _ h => h) hD2 ?_
    dsimp only [pick]
    repeat (go_big_quiet_step (fail))
    refine wpQuiet_nil ?_
    refine held_done (by kernel_rfl) ?_
    clear hba hD hD2
    go_wp2_with fail
    go_ret
    exact ⟨rfl, unhid HB4⟩
  · rw [memB_no hin]
    have EH := hid (has_none hin)
    clear hin
    go_wp2_with fail
    refine held_begin (fun w' => Below W2.heap.size W2 w') (by kernel_rfl) (drew_belowS _) ?_
    refine held_here [true, true, true, true, true, true, true, true, true, true, true, true, true] (by kernel_rfl) (by kernel_rfl) (fun _ _ _ _ _ h => h) (drew_belowS _) ?_
    dsimp only [pick]
    repeat (go_big_quiet_step (fail))
    refine wpQuiet_nil ?_
    have hD := drew_belowS (B := W2.heap.size) W2
    generalize W2.drew = W3 at hD ⊢
    clear g0 g1 g2 k0
    refine held_skip 13 30 (by kernel_rfl) (by kernel_rfl) rfl rfl rfl hD ?_
    simp only [Act.put, List.setIfInBounds_toArray, List.set_cons_zero, List.set_cons_succ]
    refine held_here [false, false, false, false, false, false, false, false, false, false, false, false, false, false, true, true] (by kernel_rfl) (by kernel_rfl) (fun _ _ _ _ _ h => h) hD ?_
    dsimp only [pick]
    repeat (go_big_quiet_step (fail))
    refine wpQuiet_nil ?_
    refine held_done (by kernel_rfl) ?_
    have HB4 := hid ((unhid HB2).trans (hD.mono (unhid HB2).size))
    clear hba hD
    go_wp2_with fail
    go_ret
    exact ⟨by rw [unhid EH]; rfl, unhid HB4⟩
end Go.Proofs.YtoihhlkidlapmaaGreat
