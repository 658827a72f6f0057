/- Texts of this proof, one behind the other; each says at its head what it shows. -/
import Derived.Test.YtoljhgkgppjdcaaGreatJoin15
import Derived.Test.YtoljhgkgppjdcaaGreatJoin9
import Derived.Test.YtoljhgkgppjdcaaGreatJoin8
import Derived.Test.YtoljhgkgppjdcaaGreatJoin13
import Derived.Test.YtoljhgkgppjdcaaGreatJoin5
import Derived.Test.YtoljhgkgppjdcaaGreatJoin12
import Derived.Test.YtoljhgkgppjdcaaGreatJoin6
import Derived.Test.YtoljhgkgppjdcaaGreatJoin3
/- Any roots that are drawn. -/
namespace Go.Proofs.YtoljhgkgppjdcaaGreat
open Go.RowKit Go.Shelf

/-- What the draw of any root gives: packs that are read also where the reader has gone on. -/
structure AQ (w : World) (b : Nat) (a : Option Addr) (len cap q : Nat) (W : World) (v : Value) (ps : List packC.D) : Prop where
  keep : ∀ W' : World, (∀ k, b < k → k < W.heap.size → W'.heap[k]? = W.heap[k]?) → rowAt packC W' v ps
  ok : ∀ d ∈ ps, DPk d
  few : ps.length ≤ 8
  rd : ∃ p', p' ≤ q ∧ Rd W b a len cap p'
  grown : w.grownBy W (some b)
theorem nrow_keep {W : World} {N b : Nat} {v : Value} {L : List (It packC)} (h : NRow packC 37 W N v L) (hb : b < N) : ∀ W' : World, (∀ k, b < k → k < W.heap.size → W'.heap[k]? = W.heap[k]?) → rowAt packC W' v (itD L) := fun W' hg => by
  obtain ⟨F, h1, _⟩ := (h.frame (fun k hk => hg k (Nat.lt_of_lt_of_le hb (h.base k hk).1) (h.base k hk).2)).own
  exact h1.toAt
theorem row_tail {W : World} {g c : Nat} {ps : List packC.D} {A : Option Addr} (h : rowAt packC W (.slice (some ⟨g, 0, none⟩) ps.length c) ps) (hA : A = if c = 1 then some ⟨g, 0, none⟩ else some ⟨g, 4, none⟩) (h0 : 0 < ps.length) : rowAt packC W (.slice A (ps.length - 1) (c - 1)) (ps.drop 1) := by
  obtain ⟨a', c', e, hn, hc, hr⟩ := h
  injection e with e1 _ e3
  subst e1 e3
  refine ⟨A, c - 1, by rw [List.length_drop], fun e => ?_, by rw [List.length_drop]; omega, ?_⟩
  · rw [hA] at e
    split at e <;> cases e
  · rcases hr with rfl | ⟨b, o, ea, hb, hcell⟩
    · exact absurd h0 (Nat.lt_irrefl 0)
    · injection ea with ea
      injection ea with e1 e2
      subst e1 e2
      by_cases hc1 : c = 1
      · left
        rw [List.drop_eq_nil_iff]
        omega
      · right
        refine ⟨g, 4, by rw [hA, if_neg hc1], hb, fun i d hi => ?_⟩
        rw [List.getElem?_drop] at hi
        obtain ⟨cs, h1, h2⟩ := hcell (1 + i) d hi
        refine ⟨cs, h1, fun j u hj => ?_⟩
        have := h2 j u hj
        have en : packC.n = 4 := rfl
        rw [en] at this ⊢
        rw [← this]
        congr 2
        omega

set_option maxRecDepth 100000 in
set_option maxHeartbeats 16000000 in
theorem l11AnyRoot_any (w : World) (b : Nat) (a : Option Addr) (len cap p : Nat) (h : Rd w b a len cap p) (hp : p ≤ 200000) :
    Calls Tryz.prog 41 #[.pointer (some ⟨b, 0, none⟩)] w fun x w' => ∃ v ps, x = .returned (.agg #[v]) ∧ AQ w b a len cap (p + 1000) w' v ps := by
  have hbl := h.lt
  have H := hid (h.alloc (.cells #[.slice none 0 0] 25))
  have hR0 := World.alloc_heap_new w (.cells #[.slice none 0 0] 25)
  have hG0 : w.grownBy (w.alloc (.cells #[.slice none 0 0] 25)) (some b) := World.grownBy_alloc w _ (some b)
  have hS0 : w.heap.size + 1 ≤ (w.alloc (.cells #[.slice none 0 0] 25)).heap.size := by simp
  clear h
  go_enter Tryz.func41, Tryz.ntmps41
  go_wp2_with fail
  generalize w.alloc (.cells #[.slice none 0 0] 25) = w0 at H hR0 hG0 hS0 ⊢
  refine (l11Root_any w0 b a len cap p (unhid H) (by omega)).mono ?_
  rintro e w1 ⟨v1, L1, rfl, hQ⟩
  have hRb1 := (hQ.grown.block _ (by omega) (by intro e; injection e; omega)).trans hR0
  have hS1 := Nat.le_trans hS0 hQ.grown.size
  have hG1 := grown_trans hG0 hQ.grown
  obtain ⟨p1, hp1, hR1⟩ := hQ.rd
  have hat1 : rowAt packC w1 v1 (itD L1) := by obtain ⟨F, h1, _⟩ := hQ.row.own; exact h1.toAt
  have HOK := hid hQ.ok
  have hfew := hQ.few
  have JN := hid (l9Copy_any (itD L1) v1 w1 ⟨by rw [itD_len]; omega, fun d hd => (hQ.ok d hd).small⟩ hat1)
  obtain ⟨va, vc, rfl⟩ := nrow_slice hQ.row
  clear hQ hR0 hG0 hS0 hat1 H
  go_wp2_with fail
  refine (unhid JN).mono ?_
  rintro x w2 ⟨v2, L, rfl, hN2, hL2, hB2⟩
  have hRb2 := (hB2.block _ (by omega)).trans hRb1
  have hS2 := Nat.le_trans hS1 hB2.size
  have hG2 := grown_low hG1 (hB2.mono (by omega))
  have hR2 := hR1.of_below hB2
  rw [← hL2] at HOK
  have hfL : L.length ≤ 7 := by
    have : L.length = L1.length := by rw [← itD_len, hL2, itD_len]
    omega
  obtain ⟨ua, uc, rfl⟩ := nrow_slice hN2
  have hN2' : NRow packC 37 w2 (w.heap.size + 1) (.slice ua L.length uc) L := NRow.lower hN2 hS1
  have HBS := hid (fun k (e : (Value.slice ua L.length uc).ownBlock = some k ∨ k ∈ itF L) => (hN2.base k e).2)
  clear JN hRb1 hS1 hG1 hR1 hB2 hL2 hN2
  go_wp2_with fail
  have hX3 := World.alloc_heap_new w2 (.cells #[.slice ua L.length uc] 25)
  have hG23 : w2.grownBy (w2.alloc (.cells #[.slice ua L.length uc] 25)) (some b) := World.grownBy_alloc w2 _ (some b)
  have hR3 := hR2.alloc (.cells #[.slice ua L.length uc] 25)
  have hz3 : w2.heap.size + 1 ≤ (w2.alloc (.cells #[.slice ua L.length uc] 25)).heap.size := by simp
  generalize w2.alloc (.cells #[.slice ua L.length uc] 25) = w3 at hX3 hG23 hR3 hz3 ⊢
  refine (pick_any w3 b a len cap p1 hR3 (by omega) 12 (by omega) (by omega)).mono ?_
  rintro e w4 ⟨m, hm, rfl, hR4, hG34⟩
  have hG24 := grown_trans hG23 hG34
  have hX4 := (hG34.block w2.heap.size (by omega) (by intro e; injection e; omega)).trans hX3
  have hRb4 := (hG24.block w.heap.size (by omega) (by intro e; injection e; omega)).trans hRb2
  have hN4 := nrow_grown hN2' hG24 (by omega)
  have hG4 := grown_trans hG2 hG24
  have hz4 : w2.heap.size + 1 ≤ w4.heap.size := Nat.le_trans hz3 hG34.size
  clear hX3 hG23 hR3 hz3 hG34 hG24 hG2 hRb2 hR2 hN2'
  obtain ⟨c0, f0⟩ := cell_fz hX4 0 _ rfl
  obtain ⟨o0, r0⟩ := cell_fz hRb4 0 _ rfl
  have hne : ¬ w2.heap.size = w.heap.size := by omega
  have hne2 : ¬ w.heap.size = w2.heap.size := by omega
  by_cases h0 : m = 0
  · subst h0
    have hC0 : (fun w' : World => w'.heap[w2.heap.size]? = some (.cells #[.slice ua L.length uc] 25 (0, 0))) w4.drew := hX4
    have gp : ∀ x : CW (fun w' : World => w'.heap[w2.heap.size]? = some (.cells #[.slice ua L.length uc] 25 (0, 0))), x.w.cell? ⟨w2.heap.size, 0, none⟩ = some (.slice ua L.length uc) := fun x => cell_arrS x.h 0 _ rfl
    have hba : ∀ {q : Prop}, (CW (fun w' : World => w'.heap[w2.heap.size]? = some (.cells #[.slice ua L.length uc] 25 (0, 0))) → q) ↔ q := CW.all hC0
    go_wp2_with fail
    refine heldE_begin 7 (fun w' : World => w'.heap[w2.heap.size]? = some (.cells #[.slice ua L.length uc] 25 (0, 0))) (by kernel_rfl) ?_
    refine heldE_here [true, true, true] (by kernel_rfl) (by kernel_rfl) (fun _ _ _ _ _ h => h) hC0 ?_
    dsimp only [pick]
    repeat (go_big_quiet_step (fail))
    refine wpQuiet_nil ?_
    have hR5 := hR4.of_below (drew_belowS (B := w4.heap.size) w4)
    have hN5 : NRow packC 37 w4.drew (w.heap.size + 1) (.slice ua L.length uc) L := hN4.frame (fun k _ => rfl)
    have hG5 : w.grownBy w4.drew (some b) := grown_low hG4 (drew_belowS _)
    have hRb5 : w4.drew.heap[w.heap.size]? = some (.cells #[.slice none 0 0] 25 (0, 0)) := hRb4
    have hz5 : w2.heap.size + 1 ≤ w4.drew.heap.size := hz4
    clear hba gp hX4 hRb4 hN4 hG4 hR4 c0 f0 o0 r0 hz4
    generalize w4.drew = w5 at *
    refine heldE_op 3 (by kernel_rfl) (by kernel_rfl) rfl (fun K hK => ?_)
    refine call_op 50 14 (enters_of Tryz.func50 (by kernel_rfl) rfl) #[.pointer (some ⟨b, 0, none⟩)] rfl rfl rfl rfl ?_
    refine (l11AnyPack_any w5 b a len cap _ hR5 (by omega)).mono ?_
    rintro e w6 ⟨name, ver, nv, nL, tv, ts, rfl, hname, hQ⟩
    have hX6 := (hQ.grown.block w2.heap.size (by omega) (by intro e; injection e; omega)).trans hC0
    have hRb6 := (hQ.grown.block w.heap.size (by omega) (by intro e; injection e; omega)).trans hRb5
    have hN6 := nrow_grown hN5 hQ.grown (by omega)
    have hG6 := grown_trans hG5 hQ.grown
    have hz6 := Nat.le_trans hz5 hQ.grown.size
    have hw56 := hQ.grown.size
    obtain ⟨p6, hp6, hR6⟩ := hQ.rd
    have hdp := hQ.pack hname
    obtain ⟨F6, hown6, hf6⟩ := hQ.k.own name ver
    refine ⟨_, rfl, hK.out _ _ hX6 ?_⟩
    simp only [Act.put, List.setIfInBounds_toArray, List.set_cons_zero, List.set_cons_succ]
    clear hK K hC0 hR5 hN5 hG5 hRb5
    refine heldE_op 4 (by kernel_rfl) (by kernel_rfl) rfl (fun K hK => ?_)
    go_simp
    have hP7 := World.alloc_heap_new w6 (.cells #[.string name, .string ver, nv, tv] 37)
    have hG67 : w6.grownBy (w6.alloc (.cells #[.string name, .string ver, nv, tv] 37)) (some b) := World.grownBy_alloc w6 _ (some b)
    have hb67 : Below w6.heap.size w6 (w6.alloc (.cells #[.string name, .string ver, nv, tv] 37)) := (Below.refl _ w6).alloc (Nat.le_refl _) _
    have hR7 := hR6.alloc (.cells #[.string name, .string ver, nv, tv] 37)
    have hX7 := (hG67.block w2.heap.size (by omega) (by intro e; injection e; omega)).trans hX6
    refine hK.out _ _ hX7 ?_
    clear hK K
    generalize w6.alloc (.cells #[.string name, .string ver, nv, tv] 37) = w7 at hP7 hG67 hR7 hX7 hb67 ⊢
    have hRb7 := (hG67.block w.heap.size (by omega) (by intro e; injection e; omega)).trans hRb6
    have hN7 := nrow_grown hN6 hG67 (by omega)
    have hG7 := grown_trans hG6 hG67
    have hz7 := Nat.le_trans hz6 hG67.size
    have hown7 : packC.own w7 [.string name, .string ver, nv, tv] (⟨name, ver, itD nL, dEnts ts⟩ : PackD) F6 := packC.frame hown6 (fun k hk => hb67.block k (hf6 k hk).2)
    have hM7 : Items packC w7 (w.heap.size + 1) (L ++ [(([.string name, .string ver, nv, tv], (⟨name, ver, itD nL, dEnts ts⟩ : PackD), F6) : It packC)]) := hN7.items.snoc (M := w5.heap.size) hown7 (fun k hk => by have := unhid HBS k (.inr hk); omega) (fun k hk => by have := (hf6 k hk).1; omega) (by omega)
    have hap7 : ∀ g, (Value.slice ua L.length uc).ownBlock = some g → g ∉ itF [(([.string name, .string ver, nv, tv], (⟨name, ver, itD nL, dEnts ts⟩ : PackD), F6) : It packC)] := fun g hg hk => by
      have h1 := unhid HBS g (.inl hg)
      have h2 := (hf6 g (by simpa [itF] using hk)).1
      omega
    refine heldE_op 5 (by kernel_rfl) (by kernel_rfl) rfl (fun K hK => ?_)
    refine op_items etPack onePack w7 16 _ _ rfl rfl rfl (w.heap.size + 1) (.slice ua L.length uc) L [(([.string name, .string ver, nv, tv], (⟨name, ver, itD nL, dEnts ts⟩ : PackD), F6) : It packC)] w6.heap.size 0 1 hN7 hM7 hap7 (fun j u hj => by rw [Nat.zero_add]; exact cell_arrS hP7 _ _ (by simpa [itCells] using hj)) (by simp; omega) (by omega) rfl (by simp [Act.eval]) ?_
    intro nw wA hgr
    have hgA : w7.grownBy wA (Value.slice ua L.length uc).ownBlock := hgr.by_
    have hBA : Below (w.heap.size + 1) w7 wA := ⟨hgA.os, hgA.tape, hgA.output, hgA.size, fun k hk => hgA.block k (by omega) (fun e => by have := (hN7.base k (.inl e.symm)).1; omega)⟩
    have hXA := (hgA.block w2.heap.size (by omega) (fun e => by have := unhid HBS _ (.inl e.symm); omega)).trans hX7
    have hRbA := (hBA.block w.heap.size (by omega)).trans hRb7
    refine hK.out _ _ hXA ?_
    simp only [Act.put, List.setIfInBounds_toArray, List.set_cons_zero, List.set_cons_succ]
    clear hK K
    have hba : ∀ {q : Prop}, (CW (fun w' : World => w'.heap[w2.heap.size]? = some (.cells #[.slice ua L.length uc] 25 (0, 0))) → q) ↔ q := CW.all hXA
    refine heldE_here [false, false, false, false, false, false, true] (by kernel_rfl) (by kernel_rfl) (fun _ _ _ _ _ h => h) hXA ?_
    dsimp only [pick]
    repeat (go_big_quiet_step (fail))
    refine wpQuiet_nil ?_
    clear hba
    obtain ⟨ra, rn, rc, rfl⟩ : ∃ a n c, nw = .slice a n c := by obtain ⟨a, c, e⟩ := grew_slice hgr; exact ⟨_, _, _, e⟩
    have hNA := hgr.row
    have hzA := hgA.size
    have hnX : ∀ k, ((Value.slice ra rn rc).ownBlock = some k ∨ k ∈ itF (L ++ [(([.string name, .string ver, nv, tv], (⟨name, ver, itD nL, dEnts ts⟩ : PackD), F6) : It packC)])) → k ≠ w2.heap.size := fun k hk => by
      rcases hk with hk | hk
      · rcases hgr.block with h | h
        · rw [h] at hk; have := unhid HBS k (.inl hk); omega
        · rw [h] at hk; injection hk with hk; omega
      · rw [itF_app] at hk
        rcases List.mem_append.1 hk with hk | hk
        · have := unhid HBS k (.inr hk); omega
        · have := (hf6 k (by simpa [itF] using hk)).1; omega
    have hRA := Rd.low hR7 hBA (by omega)
    have hGA := grown_low hG7 (hBA.mono (by omega))
    obtain ⟨c0, f0⟩ := cell_fz hXA 0 _ rfl
    have hBw : Below w2.heap.size wA (wA.setCell ⟨w2.heap.size, 0, none⟩ (.slice ra rn rc)) := (Below.refl _ wA).setCell (p := ⟨w2.heap.size, 0, none⟩) (Nat.le_refl _) _
    have hBw2 : Below w.heap.size wA ((wA.setCell ⟨w2.heap.size, 0, none⟩ (.slice ra rn rc)).setCell ⟨w.heap.size, 0, none⟩ (.slice ra rn rc)) := (hBw.mono (show w.heap.size ≤ w2.heap.size by omega)).setCell (p := ⟨w.heap.size, 0, none⟩) (Nat.le_refl _) _
    have HF := hid (show AQ w b a len cap (p + 1000) ((wA.setCell ⟨w2.heap.size, 0, none⟩ (.slice ra rn rc)).setCell ⟨w.heap.size, 0, none⟩ (.slice ra rn rc)) (.slice ra rn rc) (itD (L ++ [(([.string name, .string ver, nv, tv], (⟨name, ver, itD nL, dEnts ts⟩ : PackD), F6) : It packC)])) from ⟨nrow_keep (hNA.frame (fun k hk => by
      rw [Below.heap_setCell _ _ _ _ (by have := (hNA.base k hk).1; dsimp only; omega), Below.heap_setCell _ _ _ _ (hnX k hk)])) (by omega), fun d hd => by
        rw [itD_app] at hd
        rcases List.mem_append.1 hd with hd | hd
        · exact unhid HOK d hd
        · rw [List.mem_singleton.1 (show d ∈ [(⟨name, ver, itD nL, dEnts ts⟩ : PackD)] from hd)]; exact hdp, by rw [itD_len, List.length_append]; simp; omega, ⟨p6, by omega, Rd.low hRA hBw2 hbl⟩, grown_low hGA hBw2⟩)
    have hXB := hid (heap_setCell_same wA w2.heap.size 0 _ _ (.slice ra rn rc) hXA)
    have hRbB := hid ((Below.heap_setCell wA ⟨w2.heap.size, 0, none⟩ (.slice ra rn rc) w.heap.size (by dsimp only; omega)).trans hRbA)
    refine heldE_last (by kernel_rfl) (by kernel_rfl) rfl (fun K hK => ?_)
    go_simp
    refine hK.out _ _ ?_
    clear hK K c0 f0
    refine heldE_done (by kernel_rfl) ?_
    clear hBw hBw2 hXA hRbA hNA hnX hRA hGA hgr hgA hBA hM7 hap7 hN7 hG7 hR7 hX7 hRb7 hown7 hP7 hG67 hb67 hown6 hf6 hQ hN6 hG6 hR6 hRb6 hX6
    generalize wA.setCell ⟨w2.heap.size, 0, none⟩ (.slice ra rn rc) = wB at *
    obtain ⟨c0, f0⟩ := cell_fz (unhid hXB) 0 _ rfl
    obtain ⟨o0, r0⟩ := cell_fz (unhid hRbB) 0 _ rfl
    clear hXB hRbB
    go_wp2_with fail
    exact bodyPost_ret (v := .agg #[.slice ra rn rc]) (by simp [results, Tryz.results41, go_sem, World.cell?_setCell_same', o0]) rfl ⟨_, _, rfl, unhid HF⟩
  · have e0 : ((m : Int) == 0) = false := by rw [beq_eq_false_iff_ne]; omega
    have e0i : ¬ ((m : Int) = 0) := by omega
    have HSAME := hid (fun (v : Value) => (show Below w.heap.size w4 (w4.setCell ⟨w.heap.size, 0, none⟩ v) from (Below.refl _ w4).setCell (p := ⟨w.heap.size, 0, none⟩) (Nat.le_refl _) v))
    have HN4 := hid hN4
    by_cases h1 : m = 1
    · subst h1
      by_cases hl0 : 0 < L.length
      · obtain ⟨g, rfl⟩ : ∃ g, ua = some ⟨g, 0, none⟩ := by
          rcases hN4.row.2 with ⟨_, h⟩ | ⟨g, cap', cur, e, _⟩
          · omega
          · exact ⟨g, by injection e⟩
        have hc1 : L.length ≤ uc := by
          rcases hN4.row.2 with ⟨e, _⟩ | ⟨g, cap', cur, e, _, _, hc, _⟩
          · cases e
          · injection e with _ _ e3; omega
        have hl1 : (0 : Int) < (L.length : Int) := by omega
        have h1l : 1 ≤ L.length := hl0
        have HF := hid (fun (A : Option Addr) (hA : A = if uc = 1 then some ⟨g, 0, none⟩ else some ⟨g, 4, none⟩) => (show AQ w b a len cap (p + 1000) ((w4.setCell ⟨w2.heap.size, 0, none⟩ (.slice A (L.length - 1) (uc - 1))).setCell ⟨w.heap.size, 0, none⟩ (.slice A (L.length - 1) (uc - 1))) (.slice A (L.length - 1) (uc - 1)) ((itD L).drop 1) from by
          have hB1 : Below w.heap.size w4 (w4.setCell ⟨w2.heap.size, 0, none⟩ (.slice A (L.length - 1) (uc - 1))) := (Below.refl _ w4).setCell (p := ⟨w2.heap.size, 0, none⟩) (by dsimp only; omega) _
          have hB2 := hB1.setCell (p := ⟨w.heap.size, 0, none⟩) (Nat.le_refl _) (.slice A (L.length - 1) (uc - 1))
          refine ⟨fun W' hg => ?_, fun d hd => unhid HOK d (List.mem_of_mem_drop hd), by rw [List.length_drop, itD_len]; omega, ⟨_, by omega, Rd.low hR4 hB2 hbl⟩, grown_low hG4 hB2⟩
          have hN5 : NRow packC 37 ((w4.setCell ⟨w2.heap.size, 0, none⟩ (.slice A (L.length - 1) (uc - 1))).setCell ⟨w.heap.size, 0, none⟩ (.slice A (L.length - 1) (uc - 1))) (w.heap.size + 1) (.slice (some ⟨g, 0, none⟩) L.length uc) L := (unhid HN4).frame (fun k hk => by
            rw [Below.heap_setCell _ _ _ _ (by have := ((unhid HN4).base k hk).1; dsimp only; omega), Below.heap_setCell _ _ _ _ (by have := unhid HBS k hk; dsimp only; omega)])
          have h1 := nrow_keep hN5 (b := b) (by omega) W' hg
          have h2 := row_tail (ps := itD L) (A := A) (by rw [itD_len]; exact h1) hA (by rw [itD_len]; omega)
          rwa [itD_len] at h2))
        clear hX4 hRb4 hN4 hR4 hG4
        by_cases huc : uc = 1
        · subst huc
          have HG := hid (unhid HF (some ⟨g, 0, none⟩) (by rw [if_pos rfl]))
          simp only [Nat.sub_self, show L.length - 1 = 0 by omega] at HG
          go_wp2_with fail
          exact bodyPost_ret (v := .agg #[.slice (some ⟨g, 0, none⟩) 0 0]) (by simp [results, Tryz.results41, go_sem, World.cell?_setCell_same', o0]) rfl ⟨_, _, rfl, unhid HG⟩
        · have HG := hid (unhid HF (some ⟨g, 4, none⟩) (by rw [if_neg huc]))
          go_wp2_with fail
          exact bodyPost_ret (v := .agg #[.slice (some ⟨g, 4, none⟩) (L.length - 1) (uc - 1)]) (by simp [results, Tryz.results41, go_sem, World.cell?_setCell_same', o0]) rfl ⟨_, _, rfl, unhid HG⟩
      · have hl1 : ¬ ((0 : Int) < (L.length : Int)) := by omega
        have hl2 : L.length = 0 := by omega
        have HF := hid (show AQ w b a len cap (p + 1000) (w4.setCell ⟨w.heap.size, 0, none⟩ (.slice ua L.length uc)) (.slice ua L.length uc) (itD L) from ⟨nrow_keep ((unhid HN4).frame (fun k hk => Below.heap_setCell _ _ _ _ (by have := ((unhid HN4).base k hk).1; dsimp only; omega))) (by omega), unhid HOK, by rw [itD_len]; omega, ⟨_, by omega, Rd.low hR4 (unhid HSAME _) hbl⟩, grown_low hG4 (unhid HSAME _)⟩)
        clear hX4 hRb4 hN4 hG4 hR4 hl2
        go_wp2_with fail
        exact bodyPost_ret (v := .agg #[.slice ua L.length uc]) (by simp [results, Tryz.results41, go_sem, World.cell?_setCell_same', o0]) rfl ⟨_, _, rfl, unhid HF⟩
    · have e1 : ((m : Int) == 1) = false := by rw [beq_eq_false_iff_ne]; omega
      have e1i : ¬ ((m : Int) = 1) := by omega
      have HF := hid (show AQ w b a len cap (p + 1000) (w4.setCell ⟨w.heap.size, 0, none⟩ (.slice ua L.length uc)) (.slice ua L.length uc) (itD L) from ⟨nrow_keep ((unhid HN4).frame (fun k hk => Below.heap_setCell _ _ _ _ (by have := ((unhid HN4).base k hk).1; dsimp only; omega))) (by omega), unhid HOK, by rw [itD_len]; omega, ⟨_, by omega, Rd.low hR4 (unhid HSAME _) hbl⟩, grown_low hG4 (unhid HSAME _)⟩)
      clear hX4 hRb4 hN4 hG4 hR4
      go_wp2_with fail
      exact bodyPost_ret (v := .agg #[.slice ua L.length uc]) (by simp [results, Tryz.results41, go_sem, World.cell?_setCell_same', o0]) rfl ⟨_, _, rfl, unhid HF⟩
end Go.Proofs.YtoljhgkgppjdcaaGreat

/- What the laws over trees draw. -/
namespace Go.Proofs.YtoljhgkgppjdcaaGreat
open Go.RowKit

/-- Drawn entries, in a row of their own. -/
structure Drawn (w W : World) (v : Value) (es : List Ent) : Prop where
  v : TreeV W w.heap.size v es
  nice : ∀ e ∈ es, niceE e
  few : es.length ≤ 17
  below : Below w.heap.size w W
theorem Drawn.small {w W : World} {v : Value} {es : List Ent} (h : Drawn w W v es) : smallE es :=
  ⟨by have := h.few; omega, fun e he => ⟨by have := nice_short (h.nice e he).1; omega, by have : e.text.size ≤ 100 := (h.nice e he).2; omega⟩⟩
end Go.Proofs.YtoljhgkgppjdcaaGreat

/- What the laws of roots draw. -/
namespace Go.Proofs.YtoljhgkgppjdcaaGreat
open Go.RowKit Go.Shelf

/-- Packs that are drawn, in whatever row. -/
structure DR (W : World) (v : Value) (ps : List packC.D) : Prop where
  row : rowAt packC W v ps
  ok : ∀ d ∈ ps, DPk d
  few : ps.length ≤ 8
theorem DR.below {W W' : World} {v : Value} {ps : List packC.D} (h : DR W v ps) (hb : Below W.heap.size W W') : DR W' v ps := ⟨h.row.below hb, h.ok, h.few⟩
theorem DR.small {W : World} {v : Value} {ps : List packC.D} (h : DR W v ps) : smallPs ps := ⟨by have := h.few; omega, fun d hd => (h.ok d hd).small⟩
theorem grown_self (W : World) (r : Option Nat) : W.grownBy W r := ⟨rfl, rfl, rfl, Nat.le_refl _, fun _ _ _ => rfl⟩
theorem code_on {w w' : World} {a : Option Addr} {len : Nat} (h : Code w w.heap.size a len) (hb : Below w.heap.size w w') : Code w' w'.heap.size a len := by
  rcases h with h | ⟨blk, off, ha, hbk, hc⟩
  · exact .inl h
  · refine .inr ⟨blk, off, ha, Nat.lt_of_lt_of_le hbk hb.size, fun k hk => ?_⟩
    obtain ⟨c, h1, h2⟩ := hc k hk
    exact ⟨c, h1, (hb.cell (p := ⟨blk, off + k, none⟩) hbk).trans h2⟩
theorem aq_dr {w : World} {b : Nat} {a : Option Addr} {len cap q : Nat} {W : World} {v : Value} {ps : List packC.D} (h : AQ w b a len cap q W v ps) {W' : World} (hg : ∀ k, b < k → k < W.heap.size → W'.heap[k]? = W.heap[k]?) : DR W' v ps := ⟨h.keep W' hg, h.ok, h.few⟩
theorem grown_below0 {w w1 W : World} (hB : Below w.heap.size w w1) (hg : w1.grownBy W (some w1.heap.size)) : Below w.heap.size w W := hB.trans (grown_below hg hB.size hB.size)
set_option maxRecDepth 100000 in
set_option maxHeartbeats 2000000 in
theorem DrawRootTree_any (w : World) (a : Option Addr) (len cap : Nat) (h : Code w w.heap.size a len) (hl : len ≤ 1048576) (hc : len ≤ cap) :
    Calls Tryz.prog 13 #[.slice a len cap] w fun x w' => ∃ v ps, x = .returned (.agg #[v]) ∧ DR w' v ps ∧ Below w.heap.size w w' := by
  have hB0 : Below w.heap.size w (w.alloc (.cells #[.slice none 0 0] 25)) := (Below.refl _ w).alloc (Nat.le_refl _) _
  have H := hid (code_on h hB0)
  have hR0 := World.alloc_heap_new w (.cells #[.slice none 0 0] 25)
  have hz0 : w.heap.size < (w.alloc (.cells #[.slice none 0 0] 25)).heap.size := by simp
  clear h
  go_enter Tryz.func13, Tryz.ntmps13
  go_wp2_with fail
  generalize w.alloc (.cells #[.slice none 0 0] 25) = w0 at H hB0 hR0 hz0 ⊢
  refine (l1Open_any w0 a len cap (unhid H) hl hc).mono ?_
  rintro e w1 ⟨rfl, ⟨l', c', hR⟩, hB1⟩
  have hR1 := (hB1.block _ hz0).trans hR0
  have hB01 := hB0.trans (hB1.mono hB0.size)
  clear hR0 H
  go_wp2_with fail
  refine (l11AnyRoot_any w1 _ a l' c' 0 hR (by omega)).mono ?_
  rintro e w2 ⟨v, ps, rfl, hQ⟩
  have hb2 : Below w0.heap.size w1 w2 := grown_below hQ.grown (Nat.le_refl _) hB1.size
  have hR2 := (hb2.block _ hz0).trans hR1
  have hat := hQ.keep w2 (fun _ _ _ => rfl)
  obtain ⟨va, vc, rfl, -⟩ := rowAt.slice hat
  have hB02 : Below w.heap.size w w2 := hB01.trans (hb2.mono hB0.size)
  obtain ⟨o0, r0⟩ := cell_fz hR2 0 _ rfl
  have hBw : Below w.heap.size w2 (w2.setCell ⟨w.heap.size, 0, none⟩ (.slice va ps.length vc)) := (Below.refl _ w2).setCell (p := ⟨w.heap.size, 0, none⟩) (Nat.le_refl _) _
  have HF := hid (And.intro (aq_dr hQ (W' := w2.setCell ⟨w.heap.size, 0, none⟩ (.slice va ps.length vc)) (fun k hk _ => Below.heap_setCell _ _ _ _ (by dsimp only; omega))) (hB02.trans hBw))
  clear hQ hb2 hR2 hat hB02 hBw hB01 hB1 hR1 hR hB0
  go_wp2_with fail
  exact bodyPost_ret (v := .agg #[.slice va ps.length vc]) (by simp [results, Tryz.results13, go_sem, World.cell?_setCell_same', o0]) rfl ⟨_, ps, rfl, (unhid HF).1, (unhid HF).2⟩
set_option maxRecDepth 100000 in
set_option maxHeartbeats 2000000 in
theorem DrawRootIn_any (w : World) (a : Option Addr) (len cap : Nat) (h : Code w w.heap.size a len) (hl : len ≤ 1048576) (hc : len ≤ cap) :
    Calls Tryz.prog 21 #[.slice a len cap] w fun x w' => ∃ v ps cs p, x = .returned (.tuple #[.agg #[v], .agg cs]) ∧ DR w' v ps ∧ packC.at_ w' cs.toList p ∧ DPk p ∧ Below w.heap.size w w' := by
  have hB0 : Below w.heap.size w ((w.alloc (.cells #[.slice none 0 0] 25)).alloc (.cells #[.string ⟨#[]⟩, .string ⟨#[]⟩, .slice none 0 0, .slice none 0 0] 37)) := alloc2_below w _ _
  have H := hid (code_on h hB0)
  obtain ⟨hR0, hP0, hz0⟩ := two_boxes w (.cells #[.slice none 0 0] 25) (.cells #[.string ⟨#[]⟩, .string ⟨#[]⟩, .slice none 0 0, .slice none 0 0] 37)
  clear h
  go_enter Tryz.func21, Tryz.ntmps21
  go_wp2_with fail
  generalize (w.alloc (.cells #[.slice none 0 0] 25)).alloc (.cells #[.string ⟨#[]⟩, .string ⟨#[]⟩, .slice none 0 0, .slice none 0 0] 37) = w0 at H hB0 hR0 hP0 hz0 ⊢
  refine (l1Open_any w0 a len cap (unhid H) hl hc).mono ?_
  rintro e w1 ⟨rfl, ⟨l', c', hR⟩, hB1⟩
  have hR1 := (hB1.block _ (by omega)).trans hR0
  have hP1 := (hB1.block _ (by omega)).trans hP0
  have hB01 := hB0.trans (hB1.mono hB0.size)
  clear hR0 hP0 H
  go_wp2_with fail
  refine (l11AnyRoot_any w1 _ a l' c' 0 hR (by omega)).mono ?_
  rintro e w2 ⟨v, ps, rfl, hQ⟩
  have hb2 : Below w0.heap.size w1 w2 := grown_below hQ.grown (Nat.le_refl _) hB1.size
  have hR2 := (hb2.block _ (by omega)).trans hR1
  have hP2 := (hb2.block _ (by omega)).trans hP1
  have hat := hQ.keep w2 (fun _ _ _ => rfl)
  obtain ⟨va, vc, rfl, -⟩ := rowAt.slice hat
  have hB02 : Below w.heap.size w w2 := hB01.trans (hb2.mono hB0.size)
  obtain ⟨p2, hp2, hRd⟩ := hQ.rd
  have HQ := hid hQ
  clear hb2 hR1 hP1 hB01 hat hQ hR
  go_wp2_with fail
  refine (l11AnyPack_any w2 _ a l' c' p2 hRd (by omega)).mono ?_
  rintro e w3 ⟨name, ver, nv, nL, tv, ts, rfl, hname, hQ3⟩
  have hb3 : Below w0.heap.size w2 w3 := grown_below hQ3.grown (Nat.le_refl _) (Nat.le_trans hB1.size (unhid HQ).grown.size)
  have hR3 := (hb3.block _ (by omega)).trans hR2
  have hP3 := (hb3.block _ (by omega)).trans hP2
  have hB03 : Below w.heap.size w w3 := hB02.trans (hb3.mono hB0.size)
  have hdp := hQ3.pack hname
  obtain ⟨na, nn, nc, rfl⟩ := slice_of_needs hQ3.k.needs
  obtain ⟨ta, tc, rfl⟩ := slice_of_tree hQ3.k.tree
  obtain ⟨o0, r0⟩ := cell_fz hR3 0 _ rfl
  obtain ⟨q0, s0⟩ := cell_fz hP3 0 _ rfl
  obtain ⟨q1, s1⟩ := cell_fz hP3 1 _ rfl
  obtain ⟨q2, s2⟩ := cell_fz hP3 2 _ rfl
  obtain ⟨q3, s3⟩ := cell_fz hP3 3 _ rfl
  have hw12 := (unhid HQ).grown.size
  have hw01 := hB1.size
  have hoff : ∀ k, w0.heap.size ≤ k → (((((w3.setCell ⟨w.heap.size, 0, none⟩ (.slice va ps.length vc)).setCell ⟨w.heap.size + 1, 0, none⟩ (.string name)).setCell ⟨w.heap.size + 1, 1, none⟩ (.string ver)).setCell ⟨w.heap.size + 1, 2, none⟩ (.slice na nn nc)).setCell ⟨w.heap.size + 1, 3, none⟩ (.slice ta ts.length tc)).heap[k]? = w3.heap[k]? := fun k hk => (sets4_off _ (w.heap.size + 1) _ _ _ _ k (by omega)).trans (Below.heap_setCell _ _ _ _ (by dsimp only; omega))
  have hBw : Below w.heap.size w3 (((((w3.setCell ⟨w.heap.size, 0, none⟩ (.slice va ps.length vc)).setCell ⟨w.heap.size + 1, 0, none⟩ (.string name)).setCell ⟨w.heap.size + 1, 1, none⟩ (.string ver)).setCell ⟨w.heap.size + 1, 2, none⟩ (.slice na nn nc)).setCell ⟨w.heap.size + 1, 3, none⟩ (.slice ta ts.length tc)) := setsW_below [.string name, .string ver, .slice na nn nc, .slice ta ts.length tc] w3 (w3.setCell ⟨w.heap.size, 0, none⟩ (.slice va ps.length vc)) w.heap.size (w.heap.size + 1) 0 ((Below.refl _ w3).setCell (p := ⟨w.heap.size, 0, none⟩) (Nat.le_refl _) _) (by omega)
  have hdk := hQ3.k.frame (W' := ((((w3.setCell ⟨w.heap.size, 0, none⟩ (.slice va ps.length vc)).setCell ⟨w.heap.size + 1, 0, none⟩ (.string name)).setCell ⟨w.heap.size + 1, 1, none⟩ (.string ver)).setCell ⟨w.heap.size + 1, 2, none⟩ (.slice na nn nc)).setCell ⟨w.heap.size + 1, 3, none⟩ (.slice ta ts.length tc)) (fun k h1 _ => hoff k (by omega))
  obtain ⟨F3, hown3, -⟩ := hdk.own name ver
  have HF := hid (And.intro (aq_dr (unhid HQ) (W' := ((((w3.setCell ⟨w.heap.size, 0, none⟩ (.slice va ps.length vc)).setCell ⟨w.heap.size + 1, 0, none⟩ (.string name)).setCell ⟨w.heap.size + 1, 1, none⟩ (.string ver)).setCell ⟨w.heap.size + 1, 2, none⟩ (.slice na nn nc)).setCell ⟨w.heap.size + 1, 3, none⟩ (.slice ta ts.length tc)) (fun k hk hk2 => (hoff k (by omega)).trans (hQ3.grown.block k hk2 (by intro e; injection e; omega)))) (And.intro (packC.toAt hown3) (hB03.trans hBw)))
  clear hQ3 hb3 hR3 hP3 hB03 hB02 hoff hBw hdk hown3 hRd hR2 hP2 hB1 hB0
  go_wp2_with fail
  exact bodyPost_ret (v := .tuple #[.agg #[.slice va ps.length vc], .agg #[.string name, .string ver, .slice na nn nc, .slice ta ts.length tc]]) (by simp [results, Tryz.results21, go_sem, World.cell?_setCell_same', o0, q0, q1, q2, q3]) rfl ⟨_, ps, _, _, rfl, (unhid HF).1, (unhid HF).2.1, hdp, (unhid HF).2.2⟩
end Go.Proofs.YtoljhgkgppjdcaaGreat

/- Whether two roots are the same, as the laws ask it: where they are. -/
namespace Go.Proofs.YtoljhgkgppjdcaaGreat
open Go.RowKit Go.Shelf

theorem jr_str (d : Nat) (a b : ByteArray) (w : World) : (Op.equalIn (d + 1) 9 (.string a) (.string b)).run Tryz.prog w = .ok (a == b) w := by
  simp [Op.equalIn, run_underlying Tryz.underlying9]
theorem jr_int (d : Nat) (k m : Int) (w : World) : (Op.equalIn (d + 1) 3 (.int .i64 k) (.int .i64 m)).run Tryz.prog w = .ok (k == m) w := by
  simp [Op.equalIn, run_underlying Tryz.underlying3]
theorem jr_need (d : Nat) (n v : ByteArray) (k : Int) (w : World) : (Op.equalIn (d + 1 + 1) 51 (.agg #[.string n, .int .i64 k, .string v]) (.agg #[.string n, .int .i64 k, .string v])).run Tryz.prog w = .ok true w := by
  have h0 : (program).run Tryz.prog w = .ok Tryz.prog w := by kernel_rfl
  have h1 : Tryz.prog.stoodInHeld 51 = false := by kernel_rfl
  have e0 : (part 9 #[.string n, .int .i64 k, .string v] 0).run Tryz.prog w = .ok (.string n) w := by kernel_rfl
  have e1 : (part 3 #[.string n, .int .i64 k, .string v] 1).run Tryz.prog w = .ok (.int .i64 k) w := by kernel_rfl
  have e2 : (part 9 #[.string n, .int .i64 k, .string v] 2).run Tryz.prog w = .ok (.string v) w := by kernel_rfl
  have b1 : (n == n) = true := by rw [beq_toListBytes]; simp
  have b2 : (v == v) = true := by rw [beq_toListBytes]; simp
  unfold Op.equalIn
  simp only [Sem.run_bind, run_underlying Tryz.underlying51, Result.andThen_ok, h0, h1, Bool.false_eq_true, if_false, List.forIn_toArray, List.forIn_cons, List.forIn_nil]
  rw [if_pos (by decide)]
  simp only [Sem.run_bind, e0, jr_str, Result.andThen_ok, b1, Bool.not_true, Bool.false_eq_true, if_false, Sem.run_pure]
  rw [if_pos (by decide)]
  simp only [Sem.run_bind, e1, jr_int, Result.andThen_ok, beq_self_eq_true, Bool.not_true, Bool.false_eq_true, if_false, Sem.run_pure]
  rw [if_pos (by decide)]
  simp [Sem.run_bind, e2, jr_str, Sem.run_pure, b2]
theorem jr_ne (n v : ByteArray) (k : Int) (w : World) : (binOp .neq 51 (.agg #[.string n, .int .i64 k, .string v]) (.agg #[.string n, .int .i64 k, .string v])).run Tryz.prog w = .ok (.bool false) w := by
  simp only [binOp]
  simp [Op.equal, Op.maxDepth, jr_need 9998]

set_option maxRecDepth 100000 in
set_option maxHeartbeats 4000000 in
theorem jsNeeds_same (ds : List needC.D) (v v' : Value) (w : World) (hl : ds.length ≤ 1048576) (h : rowAt needC w v ds) (h2 : rowAt needC w v' ds) :
    Calls Tryz.prog 173 #[v, v'] w fun r w' => r = .returned (.bool true) ∧ Below w.heap.size w w' := by
  obtain ⟨a, cap, rfl, -, -, h⟩ := h
  obtain ⟨a', cap', rfl, -, -, h2⟩ := h2
  go_enter Tryz.func173, Tryz.ntmps173
  go_wp2_with fail
  go_loopw [5] (fun i wr => ∃ k : Nat, k ≤ ds.length ∧ i = .int .i64 k ∧ Below w.heap.size w wr) (fun i _ => ds.length - (intOf i).toNat)
  case atStart => exact ⟨0, Nat.zero_le _, rfl, Below.refl _ _⟩
  case round =>
    obtain ⟨k, hk, rfl, hB⟩ := hrel
    by_cases hlt : k < ds.length
    · have hne0 : ds ≠ [] := by intro e; subst e; simp at hlt
      obtain ⟨b, o, rfl, hb, hc⟩ := h.resolve_left hne0
      obtain ⟨b', o', rfl, hb', hc'⟩ := h2.resolve_left hne0
      obtain ⟨e, he⟩ : ∃ e, ds[k]? = some e := ⟨ds[k], List.getElem?_eq_getElem hlt⟩
      obtain ⟨c0, c1, c2⟩ := need_cells hB hb hc he
      obtain ⟨d0, d1, d2⟩ := need_cells hB hb' hc' he
      have hne := jr_ne (NeedD.name e) (NeedD.version e) (NeedD.kind e)
      have HB := hid hB
      have HH := hid (And.intro h (And.intro h2 (And.intro hc hc')))
      clear hc hc' hB he h h2
      go_wp2_with fail
      go_quiet (fail)
      go_wp2_with fail
      go_roundw
      case rel => exact ⟨k + 1, by omega, by go_num, (unhid HB).trans (drewN_below _ _)⟩
      case measure => simp [intOf]; omega
    · have e : k = ds.length := by omega
      subst e
      go_wp2_with fail
      go_ret
      exact ⟨rfl, hB⟩
set_option maxRecDepth 100000 in
set_option maxHeartbeats 4000000 in
theorem jsPack_same (d : packC.D) (cs cs' : List Value) (w : World) (hs : smallP d) (h : packC.at_ w cs d) (h2 : packC.at_ w cs' d) :
    Calls Tryz.prog 118 #[.agg cs.toArray, .agg cs'.toArray] w fun r w' => r = .returned (.bool true) ∧ Below w.heap.size w w' := by
  obtain ⟨v2, v3, rfl, p2, p3⟩ := packC_at h
  obtain ⟨u2, u3, rfl, q2, q3⟩ := packC_at h2
  have hB := two_boxes w (.cells #[.string (PackD.name d), .string (PackD.version d), v2, v3] 37) (.cells #[.string (PackD.name d), .string (PackD.version d), u2, u3] 37)
  have hb := alloc2_below w (.cells #[.string (PackD.name d), .string (PackD.version d), v2, v3] 37) (.cells #[.string (PackD.name d), .string (PackD.version d), u2, u3] 37)
  obtain ⟨a3, k3, hv3, -, -, r3⟩ := entsD_at p3
  obtain ⟨b3, e3, hw3, -, -, s3⟩ := entsD_at q3
  subst hv3 hw3
  obtain ⟨na, nc, rfl, -⟩ := rowAt.slice p2
  obtain ⟨ma, mc, rfl, -⟩ := rowAt.slice q2
  have HN := hid (And.intro p2 q2)
  have HT := hid (And.intro r3 s3)
  have hsn := hs.needs.1
  have hst := hs.tree.1
  have et : ∀ xs : List Ent, eqEs xs xs = true := eqEs_self
  clear p2 q2 r3 s3 p3 q3 h h2
  have b1 : (PackD.name d == PackD.name d) = true := by rw [beq_toListBytes]; simp
  have b2 : (PackD.version d == PackD.version d) = true := by rw [beq_toListBytes]; simp
  go_enter Tryz.func118, Tryz.ntmps118
  go_wp2_with fail
  generalize (w.alloc (.cells #[.string (PackD.name d), .string (PackD.version d), .slice na (PackD.needs d).length nc, .slice a3 (entsD (PackD.tree d)).length k3] 37)).alloc (.cells #[.string (PackD.name d), .string (PackD.version d), .slice ma (PackD.needs d).length mc, .slice b3 (entsD (PackD.tree d)).length e3] 37) = w0 at hB hb ⊢
  obtain ⟨hP, hQ, hS⟩ := hB
  have c0 := cell_arrS hP 0 _ rfl
  have c1 := cell_arrS hP 1 _ rfl
  have c2 := cell_arrS hP 2 _ rfl
  have d0 := cell_arrS hQ 0 _ rfl
  have d1 := cell_arrS hQ 1 _ rfl
  have d2 := cell_arrS hQ 2 _ rfl
  go_wp2_with fail
  refine (jsNeeds_same (PackD.needs d) _ _ w0 hsn ((unhid HN).1.below hb) ((unhid HN).2.below hb)).mono ?_
  rintro x w1 ⟨rfl, hb1⟩
  have hP1 := (hb1.block _ (by omega)).trans hP
  have hQ1 := (hb1.block _ hS).trans hQ
  have hB1 := hb.trans (hb1.mono hb.size)
  clear hP hQ c0 c1 c2 d0 d1 d2 hb hb1
  have c3 := cell_arrS hP1 3 _ rfl
  have d3 := cell_arrS hQ1 3 _ rfl
  have JT := hid (jsTree_any (entsD (PackD.tree d)) (entsD (PackD.tree d)) a3 b3 k3 e3 w1 (by unfold maxLen; omega) (by unfold maxLen; omega) ((unhid HT).1.below hB1) ((unhid HT).2.below hB1))
  go_wp2_with fail
  refine (unhid JT).mono ?_
  rintro x w2 ⟨rfl, hb2⟩
  have HB2 := hid (hB1.trans (hb2.mono hB1.size))
  rw [et]
  clear hP1 hQ1 c3 d3 hB1 hb2 JT
  go_wp2_with fail
  go_ret
  exact ⟨rfl, unhid HB2⟩
set_option maxRecDepth 100000 in
set_option maxHeartbeats 4000000 in
theorem jsPacks_same (ps : List packC.D) (v v' : Value) (w : World) (hs : smallPs ps) (h : rowAt packC w v ps) (h2 : rowAt packC w v' ps) :
    Calls Tryz.prog 58 #[v, v'] w fun r w' => r = .returned (.bool true) ∧ Below w.heap.size w w' := by
  obtain ⟨a, cap, rfl, -, -, h⟩ := h
  obtain ⟨a', cap', rfl, -, -, h2⟩ := h2
  have hl := hs.1
  have HS := hid hs
  clear hs
  go_enter Tryz.func58, Tryz.ntmps58
  go_wp2_with fail
  go_loopw [5] (fun i wr => ∃ k : Nat, k ≤ ps.length ∧ i = .int .i64 k ∧ Hid (Below w.heap.size w wr)) (fun i _ => ps.length - (intOf i).toNat)
  case atStart => exact ⟨0, Nat.zero_le _, rfl, Below.refl _ _⟩
  case round =>
    obtain ⟨k, hk, rfl, HB⟩ := hrel
    by_cases hlt : k < ps.length
    · have hne0 : ps ≠ [] := by intro e; subst e; simp at hlt
      obtain ⟨b, o, rfl, hb, hc⟩ := h.resolve_left hne0
      obtain ⟨b', o', rfl, hb', hc'⟩ := h2.resolve_left hne0
      obtain ⟨e, he⟩ : ∃ e, ps[k]? = some e := ⟨ps[k], List.getElem?_eq_getElem hlt⟩
      have hes := (unhid HS).2 e (List.mem_of_getElem? he)
      obtain ⟨na, nc, ta, tc, ⟨c0, c1, c2, c3⟩, hat⟩ := pack_cells (unhid HB) hb hc he
      obtain ⟨na', nc', ta', tc', ⟨d0, d1, d2, d3⟩, hat'⟩ := pack_cells (unhid HB) hb' hc' he
      have hbw : b < wr.heap.size := Nat.lt_of_lt_of_le hb (unhid HB).size
      have hbw' : b' < wr.heap.size := Nat.lt_of_lt_of_le hb' (unhid HB).size
      have gc0 : ∀ x : CW (fun w' => Below wr.heap.size wr w'), x.w.cell? ⟨b, o + k * 4, none⟩ = some (.string (PackD.name e)) := fun x => (x.h.cell (p := ⟨b, o + k * 4, none⟩) hbw).trans c0
      have gc1 : ∀ x : CW (fun w' => Below wr.heap.size wr w'), x.w.cell? ⟨b, o + k * 4 + 1, none⟩ = some (.string (PackD.version e)) := fun x => (x.h.cell (p := ⟨b, o + k * 4 + 1, none⟩) hbw).trans c1
      have gc2 : ∀ x : CW (fun w' => Below wr.heap.size wr w'), x.w.cell? ⟨b, o + k * 4 + 2, none⟩ = some (.slice na (PackD.needs e).length nc) := fun x => (x.h.cell (p := ⟨b, o + k * 4 + 2, none⟩) hbw).trans c2
      have gc3 : ∀ x : CW (fun w' => Below wr.heap.size wr w'), x.w.cell? ⟨b, o + k * 4 + 3, none⟩ = some (.slice ta (PackD.tree e).length tc) := fun x => (x.h.cell (p := ⟨b, o + k * 4 + 3, none⟩) hbw).trans c3
      have gd0 : ∀ x : CW (fun w' => Below wr.heap.size wr w'), x.w.cell? ⟨b', o' + k * 4, none⟩ = some (.string (PackD.name e)) := fun x => (x.h.cell (p := ⟨b', o' + k * 4, none⟩) hbw').trans d0
      have gd1 : ∀ x : CW (fun w' => Below wr.heap.size wr w'), x.w.cell? ⟨b', o' + k * 4 + 1, none⟩ = some (.string (PackD.version e)) := fun x => (x.h.cell (p := ⟨b', o' + k * 4 + 1, none⟩) hbw').trans d1
      have gd2 : ∀ x : CW (fun w' => Below wr.heap.size wr w'), x.w.cell? ⟨b', o' + k * 4 + 2, none⟩ = some (.slice na' (PackD.needs e).length nc') := fun x => (x.h.cell (p := ⟨b', o' + k * 4 + 2, none⟩) hbw').trans d2
      have gd3 : ∀ x : CW (fun w' => Below wr.heap.size wr w'), x.w.cell? ⟨b', o' + k * 4 + 3, none⟩ = some (.slice ta' (PackD.tree e).length tc') := fun x => (x.h.cell (p := ⟨b', o' + k * 4 + 3, none⟩) hbw').trans d3
      have hba : ∀ {q : Prop}, (CW (fun w' => Below wr.heap.size wr w') → q) ↔ q := CW.all (Below.refl _ wr)
      have HH := hid (And.intro h (And.intro h2 (And.intro hc hc')))
      have HAT := hid (And.intro hat hat')
      clear hc hc' he h h2 c0 c1 c2 c3 d0 d1 d2 d3 hat hat'
      go_wp2_with fail
      refine held_begin (fun w' => Below wr.heap.size wr w') (by kernel_rfl) (drew_belowS _) ?_
      refine held_here [true, true, true, true, true, true, true, true] (by kernel_rfl) (by kernel_rfl) (fun _ _ _ _ _ h => h) (drew_belowS _) ?_
      dsimp only [pick]
      repeat (go_big_quiet_step (fail))
      refine wpQuiet_nil ?_
      have hD := drew_belowS (B := wr.heap.size) wr
      generalize hdr : wr.drew = w1 at hD ⊢
      clear hdr gc0 gc1 gc2 gc3 gd0 gd1 gd2 gd3
      refine held_call 8 118 25 (enters_of Tryz.func118 (by kernel_rfl) rfl) #[.agg #[.string (PackD.name e), .string (PackD.version e), .slice na (PackD.needs e).length nc, .slice ta (PackD.tree e).length tc], .agg #[.string (PackD.name e), .string (PackD.version e), .slice na' (PackD.needs e).length nc', .slice ta' (PackD.tree e).length tc']] (by kernel_rfl) (by kernel_rfl) rfl rfl rfl rfl rfl ?_
      refine (jsPack_same e _ _ w1 hes (packC.below (unhid HAT).1 hD) (packC.below (unhid HAT).2 hD)).mono ?_
      rintro x w2 ⟨rfl, hb2⟩
      have hD2 := hD.trans (hb2.mono hD.size)
      refine ⟨_, rfl, hD2, ?_⟩
      simp only [Act.put, List.setIfInBounds_toArray, List.set_cons_zero, List.set_cons_succ]
      refine held_here [false, false, false, false, false, false, false, false, false, true] (by kernel_rfl) (by kernel_rfl) (fun _ _ _ _ _ h => h) hD2 ?_
      dsimp only [pick]
      repeat (go_big_quiet_step (fail))
      refine wpQuiet_nil ?_
      refine held_done (by kernel_rfl) ?_
      have HB2 := hid ((unhid HB).trans (hD2.mono (unhid HB).size))
      clear hba hD hD2 hb2 HB
      go_wp2_with fail
      go_roundw
      case rel => exact ⟨k + 1, by omega, by go_num, HB2⟩
      case measure => simp [intOf]; omega
    · have e : k = ps.length := by omega
      subst e
      go_wp2_with fail
      go_ret
      exact ⟨rfl, unhid HB⟩
set_option maxRecDepth 100000 in
set_option maxHeartbeats 4000000 in
theorem jsRoot_same (ps : List packC.D) (v v' : Value) (w : World) (hs : smallPs ps) (h : rowAt packC w v ps) (h2 : rowAt packC w v' ps) :
    Calls Tryz.prog 24 #[.agg #[v], .agg #[v']] w fun r w' => r = .returned (.bool true) ∧ Below w.heap.size w w' := by
  obtain ⟨a, c, rfl, -⟩ := rowAt.slice h
  obtain ⟨a', c', rfl, -⟩ := rowAt.slice h2
  have hB := two_boxes w (.cells #[.slice a ps.length c] 25) (.cells #[.slice a' ps.length c'] 25)
  have hb := alloc2_below w (.cells #[.slice a ps.length c] 25) (.cells #[.slice a' ps.length c'] 25)
  have H := hid (And.intro h h2)
  clear h h2
  go_enter Tryz.func24, Tryz.ntmps24
  go_wp2_with fail
  generalize (w.alloc (.cells #[.slice a ps.length c] 25)).alloc (.cells #[.slice a' ps.length c'] 25) = w0 at hB hb ⊢
  obtain ⟨hP, hQ, hS⟩ := hB
  have c0 := cell_arrS hP 0 _ rfl
  have d0 := cell_arrS hQ 0 _ rfl
  go_wp2_with fail
  refine (jsPacks_same ps _ _ w0 hs ((unhid H).1.below hb) ((unhid H).2.below hb)).mono ?_
  rintro x w1 ⟨rfl, hb1⟩
  have HB := hid (hb.trans (hb1.mono hb.size))
  clear hP hQ c0 d0 hb hb1
  go_wp2_with fail
  go_ret
  exact ⟨rfl, unhid HB⟩
end Go.Proofs.YtoljhgkgppjdcaaGreat

/- The bytes that a law is handed, read. -/
namespace Go.Proofs.YtoljhgkgppjdcaaGreat
open Go.ChangeShapes Go.WideShapes Go.ChangeAt Go.RowKit

theorem cells5 : Tryz.prog.cellsOf 5 = 1 := by kernel_rfl

theorem code_of {H : Type} {enc : TypeId × Value → H} {W : World} {a0 : Option Addr} {len cap : Nat} {d0 : DataW H} {p0 : List MemPlace}
    (h0 : DataW.Trod enc Tryz.prog W 0 (fun _ => true) true 22 (.slice a0 len cap) d0 p0) (hlt : ∀ x ∈ p0, x.block < W.heap.size) : Code W W.heap.size a0 len ∧ len ≤ cap := by
  obtain ⟨fuel, hf⟩ := h0
  rcases open_ints Tryz.underlying22 Tryz.underlying5 cells5 hf with ⟨hcs, hx⟩ | ⟨a, len', cap', zs, hcs, _, hl, hm, hz, hx, hcell, hwz⟩
  · simp [Value.cells] at hcs
    obtain ⟨rfl, rfl, rfl⟩ := hcs
    exact ⟨.inl rfl, Nat.le_refl _⟩
  · simp [Value.cells] at hcs
    obtain ⟨rfl, rfl, rfl⟩ := hcs
    simp only [Prod.mk.injEq] at hx
    obtain ⟨rfl, rfl⟩ := hx
    simp only [if_true] at hz
    refine ⟨?_, hl⟩
    by_cases hl0 : len = 0
    · exact .inl hl0
    · obtain ⟨b, off, spot⟩ := a
      have hspot : spot = none := by simpa [Addr.add] using World.cell?_spot (hcell 0 (by omega))
      subst hspot
      have hbW : b < W.heap.size := hlt (.cell b off) (MemPlace.mem_row.2 ⟨0, by omega, by simp⟩)
      refine .inr ⟨b, off, rfl, hbW, fun k hk => ?_⟩
      have hk' : k < zs.length := by omega
      have hw := hwz (zs.getD k 0) (by simp [List.getD, List.getElem?_eq_getElem hk'])
      have hc := hcell k hk'
      rw [add_plain] at hc
      generalize zs.getD k 0 = z at hw hc
      have hx : 0 ≤ z ∧ z ≤ 255 := by simpa [Lit.wf, IntKind.min, IntKind.max, IntKind.signed, IntKind.bits] using hw
      exact ⟨z.toNat, by omega, by rw [hc, Int.toNat_of_nonneg hx.1]⟩
end Go.Proofs.YtoljhgkgppjdcaaGreat

/- Roots that the laws read: the contracts, and what keeps. -/
namespace Go.Proofs.YtoljhgkgppjdcaaGreat
open Go.RowKit Go.Shelf

/-- A root that is read. -/
structure RR (W : World) (a : Option Addr) (c : Nat) (ps : List packC.D) : Prop where
  row : rowAt packC W (.slice a ps.length c) ps
  small : smallPs ps
  few : ps.length ≤ 100
theorem RR.below {W W' : World} {a : Option Addr} {c : Nat} {ps : List packC.D} (h : RR W a c ps) (hb : Below W.heap.size W W') : RR W' a c ps := ⟨h.row.below hb, h.small, h.few⟩
theorem rr_of {W : World} {N : Nat} {r : Value} {L : List (It packC)} {ps : List packC.D} (h : NRow packC 37 W N r L) (hL : itD L = ps) (hs : smallPs ps) (hf : ps.length ≤ 100) : ∃ a c, r = .slice a ps.length c ∧ RR W a c ps := by
  obtain ⟨F, h1, _⟩ := h.own
  have h2 := h1.toAt
  rw [hL] at h2
  obtain ⟨a, c, rfl, -⟩ := rowAt.slice h2
  exact ⟨a, c, rfl, h2, hs, hf⟩
/-- A pack that is read. -/
structure PR (W : World) (cs : List Value) (p : packC.D) : Prop where
  at_ : packC.at_ W cs p
  small : smallP p
theorem PR.below {W W' : World} {cs : List Value} {p : packC.D} (h : PR W cs p) (hb : Below W.heap.size W W') : PR W' cs p := ⟨packC.below h.at_ hb, h.small⟩
theorem PR.cells {W : World} {cs : List Value} {p : packC.D} (h : PR W cs p) : ∃ na nc ta tc, cs = [.string (PackD.name p), .string (PackD.version p), .slice na (PackD.needs p).length nc, .slice ta (PackD.tree p).length tc] := by
  obtain ⟨v2, v3, rfl, p2, p3⟩ := packC_at h.at_
  obtain ⟨na, nc, rfl, -⟩ := rowAt.slice p2
  obtain ⟨ta, tc, rfl, -⟩ := rowAt.slice p3
  exact ⟨_, _, _, _, rfl⟩
theorem dr_rr {W : World} {v : Value} {ps : List packC.D} (h : DR W v ps) : ∃ a c, v = .slice a ps.length c ∧ RR W a c ps := by
  obtain ⟨a, c, rfl, -⟩ := rowAt.slice h.row
  exact ⟨a, c, rfl, h.row, h.small, by have := h.few; omega⟩
theorem rin_small {ps : List packC.D} {p : packC.D} (hs : smallPs ps) (hf : ps.length ≤ 100) (hp : smallP p) : smallPs (rootInP ⟨ps⟩ p) ∧ (rootInP ⟨ps⟩ p).length ≤ 100 := by
  have hm := inP_mem p ps
  have hl : (rootInP ⟨ps⟩ p).length ≤ 100 := by
    by_cases h : rootInC ⟨ps⟩ p = 0
    · obtain ⟨-, -, -, h1, h2⟩ := put_facts h
      rw [h1]
      have := ok_len (ok_0.1 h2)
      exact Nat.le_trans this (by omega)
    · cases hk : rootOk_0 ⟨ps⟩ with
      | true => rw [rin_not hk h]; exact hf
      | false => unfold rootInP; rw [hk]; exact Nat.zero_le _
  refine ⟨⟨by omega, fun x hx => ?_⟩, hl⟩
  unfold rootInP at hx
  split at hx
  · rcases hm.2 x hx with rfl | hx
    · exact hp
    · exact hs.2 x hx
  · cases hx
def InOut (ps : List packC.D) (p : packC.D) (W : World) (x : Ending) (w' : World) : Prop := ∃ a c, x = .returned (.tuple #[.agg #[.slice a (rootInP ⟨ps⟩ p).length c], .int .i64 (rootInC ⟨ps⟩ p)]) ∧ RR w' a c (rootInP ⟨ps⟩ p) ∧ Below W.heap.size W w'
theorem in_out_of {ps : List packC.D} {p : packC.D} {W : World} {x : Ending} {w' : World} (hs : smallPs ps) (hf : ps.length ≤ 100) (hp : smallP p) (h : RootInR ⟨ps⟩ p W x w') : InOut ps p W x w' := by
  obtain ⟨r, L, rfl, hN, hL, hb⟩ := h
  obtain ⟨h1, h2⟩ := rin_small hs hf hp
  obtain ⟨a, c, rfl, hr⟩ := rr_of hN hL h1 h2
  exact ⟨a, c, rfl, hr, hb⟩
theorem implIn_r {W : World} {a : Option Addr} {c : Nat} {ps : List packC.D} {cs : List Value} {p : packC.D} (h : RR W a c ps) (hp : PR W cs p) : Calls Tryz.prog 22 #[.agg #[.slice a ps.length c], .agg cs.toArray] W (InOut ps p W) :=
  (implRootIn_any ⟨ps⟩ a c p cs W h.small hp.small h.row hp.at_).mono (fun _ _ h2 => in_out_of h.small h.few hp.small h2)
theorem specIn_r {W : World} {a : Option Addr} {c : Nat} {ps : List packC.D} {cs : List Value} {p : packC.D} (h : RR W a c ps) (hp : PR W cs p) : Calls Tryz.prog 23 #[.agg #[.slice a ps.length c], .agg cs.toArray] W (InOut ps p W) :=
  (specRootIn_any ⟨ps⟩ a c p cs W h.small hp.small h.row hp.at_).mono (fun _ _ h2 => in_out_of h.small h.few hp.small h2)
theorem jsRoot_r {W : World} {a a' : Option Addr} {c c' : Nat} {ps : List packC.D} (h : RR W a c ps) (h2 : RR W a' c' ps) : Calls Tryz.prog 24 #[.agg #[.slice a ps.length c], .agg #[.slice a' ps.length c']] W fun r w' => r = .returned (.bool true) ∧ Below W.heap.size W w' :=
  jsRoot_same ps _ _ W h.small h.row h2.row
/-- What a call that turns a root answers. -/
def Turned (qs : List packC.D) (k : Int) (W : World) (x : Ending) (w' : World) : Prop := ∃ a c, x = .returned (.tuple #[.agg #[.slice a qs.length c], .int .i64 k]) ∧ RR w' a c qs ∧ Below W.heap.size W w'
theorem turned_in {ps qs : List packC.D} {p : packC.D} {k : Int} {W : World} {x : Ending} {w' : World} (e : rootInP ⟨ps⟩ p = qs) (c : rootInC ⟨ps⟩ p = k) (h : InOut ps p W x w') : Turned qs k W x w' := by
  subst e c
  exact h
theorem int_ne_self (k : Int) : (k != k) = false := by simp
theorem int_eq_self (k : Int) : (k == k) = true := by simp
/-- What stays while nothing that was there is written. -/
def StaysW (Φ : World → Prop) : Prop := ∀ W W' : World, Below W.heap.size W W' → Φ W → Φ W'
structure KW (Φ : World → Prop) (W : World) : Prop where
  keeps : StaysW Φ
  now : Φ W
theorem KW.step {Φ : World → Prop} {W W' : World} (h : KW Φ W) (hb : Below W.heap.size W W') : KW Φ W' := ⟨h.keeps, h.keeps W W' hb h.now⟩
theorem KW.add {Φ Ψ : World → Prop} {W : World} (h : KW Φ W) (hk : StaysW Ψ) (hn : Ψ W) : KW (fun W => Φ W ∧ Ψ W) W := ⟨fun W W' hb hp => ⟨h.keeps W W' hb hp.1, hk W W' hb hp.2⟩, h.now, hn⟩
theorem KW.row {Φ : World → Prop} {W : World} (h : KW Φ W) {a : Option Addr} {c : Nat} {ps : List packC.D} (hr : RR W a c ps) : KW (fun W => Φ W ∧ RR W a c ps) W := h.add (fun _ _ hb hp => hp.below hb) hr
theorem KW.pack {Φ : World → Prop} {W : World} (h : KW Φ W) {cs : List Value} {p : packC.D} (hr : PR W cs p) : KW (fun W => Φ W ∧ PR W cs p) W := h.add (fun _ _ hb hp => hp.below hb) hr
theorem KW.box {Φ : World → Prop} {W : World} (h : KW Φ W) {g : Nat} {o : Obj} (hr : W.heap[g]? = some o) : KW (fun W => Φ W ∧ W.heap[g]? = some o) W := h.add (fun _ _ hb hp => (hb.block _ (Array.getElem?_eq_some_iff.1 hp).1).trans hp) hr
theorem KW.start (w : World) : KW (fun W => Below w.heap.size w W) w := ⟨fun _ _ hb hp => hp.trans (hb.mono hp.size), Below.refl _ w⟩
end Go.Proofs.YtoljhgkgppjdcaaGreat

/- Roots that the laws read: more contracts. -/
namespace Go.Proofs.YtoljhgkgppjdcaaGreat
open Go.RowKit Go.Shelf

theorem rowIn_ents {W : World} {a : Option Addr} {N M : Nat} {es : List Ent} (h : RowIn W a N M es) : EntsAt W a es := by
  rcases h with h | ⟨g, rfl, _, _, hR⟩
  · exact .inl h
  · refine .inr ⟨g, 0, rfl, hR.lt, fun i e hi => ?_⟩
    have := (hR.cells i (List.getElem?_eq_some_iff.1 hi).1).1
    rw [entFn_get hi] at this
    rwa [Nat.zero_add]
/-- Entries that are read. -/
structure ER (W : World) (a : Option Addr) (es : List Ent) : Prop where
  ents : EntsAt W a es
  small : smallE es
theorem ER.below {W W' : World} {a : Option Addr} {es : List Ent} (h : ER W a es) (hb : Below W.heap.size W W') : ER W' a es := ⟨h.ents.below hb, h.small⟩
theorem KW.ents {Φ : World → Prop} {W : World} (h : KW Φ W) {a : Option Addr} {es : List Ent} (hr : ER W a es) : KW (fun W => Φ W ∧ ER W a es) W := h.add (fun _ _ hb hp => hp.below hb) hr
theorem KW.mark {Φ : World → Prop} {W : World} (h : KW Φ W) : KW (fun W' => Φ W' ∧ Below W.heap.size W W') W := h.add (fun _ _ hb hp => hp.trans (hb.mono hp.size)) (Below.refl _ W)
theorem implOk_r {W : World} {a : Option Addr} {c : Nat} {ps : List packC.D} (h : RR W a c ps) : Calls Tryz.prog 17 #[.agg #[.slice a ps.length c]] W fun x w' => x = .returned (.bool (rootOk_0 ⟨ps⟩)) ∧ Below W.heap.size W w' := implRootOk_any ⟨ps⟩ a c W h.small h.row
theorem specOk_r {W : World} {a : Option Addr} {c : Nat} {ps : List packC.D} (h : RR W a c ps) : Calls Tryz.prog 18 #[.agg #[.slice a ps.length c]] W fun x w' => x = .returned (.bool (rootOk_0 ⟨ps⟩)) ∧ Below W.heap.size W w' := specRootOk_any ⟨ps⟩ a c W h.small h.row
theorem tree_smallE {es : List Ent} (h : treeB es = true) : smallE es := ⟨by have := tree_16 h; omega, fun e he => ⟨by have := ent_path_len (tree_all h e he); omega, by have := ent_text_len (tree_all h e he); omega⟩⟩
theorem tree_r {W : World} {a : Option Addr} {c : Nat} {ps : List packC.D} (h : RR W a c ps) : Calls Tryz.prog 14 #[.agg #[.slice a ps.length c]] W fun x w' => ∃ a' c', x = .returned (.slice a' (rootTreeE ⟨ps⟩).length c') ∧ ER w' a' (rootTreeE ⟨ps⟩) ∧ Below W.heap.size W w' :=
  (implRootTree_any ⟨ps⟩ a c W h.small h.row).mono (fun _ _ ⟨u, h1, h2, h3⟩ => by
    obtain ⟨a', c', rfl, hr⟩ := rowIn_of_owns h2
    exact ⟨a', c', h1, ⟨rowIn_ents hr, tree_smallE (rootTree_tree ⟨ps⟩)⟩, h3⟩)
theorem out_r {W : World} {a : Option Addr} {c : Nat} {ps qs : List packC.D} {q : ByteArray} {k : Int} (h : RR W a c ps) (e : rootOutP ⟨ps⟩ q = qs) (ek : rootOutC ⟨ps⟩ q = k) (hs : smallPs qs) (hf : qs.length ≤ 100) : Calls Tryz.prog 25 #[.agg #[.slice a ps.length c], .string q] W (Turned qs k W) :=
  (implRootOut_any ⟨ps⟩ a c q W h.small h.row).mono (fun _ _ ⟨r, L, h1, h2, h3, h4⟩ => by
    rw [e] at h3
    obtain ⟨a', c', rfl, hr⟩ := rr_of h2 h3 hs hf
    exact ⟨a', c', by rw [h1, ek], hr, h4⟩)
theorem get_r {W : World} {a : Option Addr} {es : List Ent} {e : Ent} {cap : Nat} (p : ByteArray) (h : ER W a es) (h1 : (treeB es && thereE es p) = true) (h2 : gotE es p = e) : Calls Tryz.prog 19 #[.slice a es.length cap, .string p] W fun x w' => x = .returned (.tuple #[.agg #[.string e.path, .int .i64 e.kind, .int .i64 e.mode, .string e.text], .bool true]) ∧ Below W.heap.size W w' :=
  (treeGet_any es a cap p W h.small h.ents).mono (fun _ _ ⟨h3, h4⟩ => ⟨by rw [h3, h1, h2]; rfl, h4⟩)
theorem jsTree_r {W : World} {a b : Option Addr} {es : List Ent} {c d : Nat} (h : ER W a es) (h2 : ER W b es) : Calls Tryz.prog 15 #[.slice a es.length c, .slice b es.length d] W fun x w' => x = .returned (.bool true) ∧ Below W.heap.size W w' :=
  (jsTree_any es es a b c d W (by have := h.small.1; unfold maxLen; omega) (by have := h.small.1; unfold maxLen; omega) h.ents h2.ents).mono (fun _ _ ⟨h3, h4⟩ => ⟨by rw [h3, eqEs_self], h4⟩)
/-- The tree of a pack that is read. -/
theorem PR.tree {W : World} {p : packC.D} {n0 t0 : Option Addr} {n1 t1 : Nat} (h : PR W [.string (PackD.name p), .string (PackD.version p), .slice n0 (PackD.needs p).length n1, .slice t0 (PackD.tree p).length t1] p) : EntsAt W t0 (treeOfP p) ∧ (treeOfP p).length = (PackD.tree p).length := by
  obtain ⟨h1, h2, _⟩ := tree_in h.at_
  exact ⟨h1, h2⟩
theorem KW.ent {Φ : World → Prop} {W : World} (h : KW Φ W) {b o : Nat} {e : Ent} (hb : b < W.heap.size) (hr : EntAt W b o e) : KW (fun W => Φ W ∧ (b < W.heap.size ∧ EntAt W b o e)) W := h.add (fun _ _ hb hp => ⟨Nat.lt_of_lt_of_le hp.1 hb.size, hp.2.below hb hp.1⟩) ⟨hb, hr⟩
/-- What the law of a pack that is put in asks of the root. -/
theorem put_law {ps X : List packC.D} {p : packC.D} (hX : rootInP ⟨ps⟩ p = X) (h : rootInC ⟨ps⟩ p = 0) : (∀ x ∈ treeOfP p, (treeB (rootTreeE ⟨X⟩) && thereE (rootTreeE ⟨X⟩) x.path) = true ∧ gotE (rootTreeE ⟨X⟩) x.path = x) ∧ rootOutC ⟨X⟩ (PackD.name p) = 0 ∧ rootOutP ⟨X⟩ (PackD.name p) = ps ∧ rootInC ⟨X⟩ p = 2 ∧ rootOk_0 ⟨X⟩ = true := by
  obtain ⟨h1, h2, h3, h4, h5⟩ := put_facts h
  have e : X = withP p ps := hX.symm.trans h4
  subst e
  obtain ⟨o1, o2, o3⟩ := in_out h
  exact ⟨fun x hx => tree_in_root (ok_0.1 h5) ((with_mem p ps p).2 (.inl rfl)) hx, o1, o2, o3, h5⟩
end Go.Proofs.YtoljhgkgppjdcaaGreat

/- A pack under another name, with the tree of one that is there. -/
namespace Go.Proofs.YtoljhgkgppjdcaaGreat
open Go.RowKit Go.Shelf

def freshP (p : packC.D) : packC.D := (⟨⟨#[102, 114, 101, 115, 104]⟩, ⟨#[49]⟩, [], PackD.tree p⟩ : PackD)
theorem fresh_tree (p : packC.D) : treeOfP (freshP p) = treeOfP p := rfl
theorem fresh_name (p : packC.D) : PackD.name (freshP p) = ⟨#[102, 114, 101, 115, 104]⟩ := rfl
theorem fresh_needs (p : packC.D) : PackD.needs (freshP p) = [] := rfl
theorem fresh_drawn : ¬ drawn ⟨#[102, 114, 101, 115, 104]⟩ := by unfold drawn; decide
theorem versOk_1 : versOk [49] = true := by decide
theorem fresh_ok {p : packC.D} (h : pkOk p = true) : pkOk (freshP p) = true := by
  have ht := pk_tree h
  have e1 : packB [102, 114, 101, 115, 104] = true := by decide
  unfold pkOk
  show (packB [102, 114, 101, 115, 104] && versOk [49] && ((List.all (α := needC.D) [] needOkD && decide (0 ≤ 6)) && !twiceB [⟨#[102, 114, 101, 115, 104]⟩]) && treeB (treeOfP p)) = true
  rw [e1, versOk_1, ht]
  have : twiceB [(⟨#[102, 114, 101, 115, 104]⟩ : ByteArray)] = false := by unfold twiceB; simp
  rw [this]
  rfl
/-- Whether a tree has something that is no dir. -/
def anyFile (es : List Ent) : Bool := es.any fun e => e.kind != 1
theorem anyFile_take {es : List Ent} {k : Nat} {e : Ent} (h : es[k]? = some e) : anyFile (es.take (k + 1)) = (anyFile (es.take k) || e.kind != 1) := by
  unfold anyFile
  rw [List.take_add_one, h, List.any_append]
  simp
theorem needsB_more {ps qs : List packC.D} (h : needsB ps = true) (hs : ∀ x ∈ ps, x ∈ qs) (hn : ∀ x ∈ qs, x ∈ ps ∨ PackD.needs x = []) : needsB qs = true := by
  unfold needsB at *
  rw [List.all_eq_true] at *
  intro x hx
  rw [List.all_eq_true]
  intro n hm
  rcases hn x hx with hx | hx
  · have := h x hx
    rw [List.all_eq_true] at this
    have := this n hm
    unfold hasNeed at *
    rw [List.any_eq_true] at *
    obtain ⟨q, hq, h2⟩ := this
    exact ⟨q, hs q hq, h2⟩
  · unfold needsOf at hm
    rw [hx] at hm
    cases hm
theorem up_one {es : List Ent} (hu : Up es) {x y : Ent} (hx : x ∈ es) (hy : y ∈ es) (h : x.path = y.path) : x = y := by
  obtain ⟨i, hi⟩ := List.getElem?_of_mem hx
  obtain ⟨j, hj⟩ := List.getElem?_of_mem hy
  obtain ⟨il, ie⟩ := List.getElem?_eq_some_iff.1 hi
  obtain ⟨jl, je⟩ := List.getElem?_eq_some_iff.1 hj
  rcases Nat.lt_trichotomy i j with hlt | heq | hgt
  · have := List.pairwise_iff_getElem.1 hu i j il jl hlt
    rw [ie, je, h, ltS_irr] at this; cases this
  · subst heq; rw [hi] at hj; cases hj; rfl
  · have := List.pairwise_iff_getElem.1 hu j i jl il hgt
    rw [ie, je, h, ltS_irr] at this; cases this
theorem self_mate {es : List Ent} (hu : Up es) : Compat es es ↔ anyFile es = false := by
  unfold anyFile
  rw [List.any_eq_false]
  constructor
  · intro h x hx
    have := (h x hx x hx rfl).2
    simp [this]
  · intro h x hx e he hp
    have := h x hx
    exact ⟨up_one hu he hx hp, by simpa using this⟩
/-- Of a root that is ok, with room. -/
theorem clash_law {ps : List packC.D} {p : packC.D} (h : rootOk_0 ⟨ps⟩ = true) (hl : ps.length < 5) (hd : ∀ q ∈ ps, drawn (PackD.name q)) (hp : p ∈ ps) : rootInC ⟨ps⟩ (freshP p) = if anyFile (treeOfP p) then 5 else 0 := by
  have hc := ok_0.1 h
  obtain ⟨f1, f2, -, f4, m, U, u⟩ := (code_iff ps).1 hc
  have hn : PackD.name (freshP p) ∉ namesP ps := fun e => by
    obtain ⟨q, hq, e2⟩ := name_mem.1 e
    have := hd q hq
    rw [e2, fresh_name] at this
    exact fresh_drawn this
  have hok := fresh_ok (f1 p hp)
  have ut := tree_up (pk_tree (f1 p hp))
  rw [(rin_code h).1]
  refine (in_of hok hn).trans ?_
  have g1 : ∀ x ∈ withP (freshP p) ps, pkOk x = true := fun x hx => by
    rcases (with_mem _ _ _).1 hx with rfl | hx
    · exact hok
    · exact f1 x hx
  have gf : formB (withP (freshP p) ps) = true := (form_iff _).2 ⟨g1, with_asc f2 hn⟩
  have gl : (withP (freshP p) ps).length ≤ 5 := by rw [with_len]; exact hl
  have gn : needsB (withP (freshP p) ps) = true := needsB_more f4 (fun x hx => (with_mem _ _ _).2 (.inr hx)) (fun x hx => by
    rcases (with_mem _ _ _).1 hx with rfl | hx
    · exact .inr rfl
    · exact .inl hx)
  have gu : Fits U [] (withP (freshP p) ps) := ⟨u.1, u.2.1, fun x hx => (by cases hx), fun q hq x hx => by
    rcases (with_mem _ _ _).1 hq with rfl | hq
    · rw [fresh_tree] at hx; exact u.2.2.2 p hp x hx
    · exact u.2.2.2 q hq x hx⟩
  have gm : Mates (withP (freshP p) ps) ↔ anyFile (treeOfP p) = false := by
    rw [mates_perm (with_perm (freshP p) ps)]
    unfold Mates
    rw [List.pairwise_cons, fresh_tree]
    constructor
    · rintro ⟨h1, -⟩
      exact (self_mate ut).1 (h1 p hp)
    · intro hf
      refine ⟨fun q hq => ?_, m⟩
      obtain ⟨i, hi⟩ := List.getElem?_of_mem hp
      obtain ⟨j, hj⟩ := List.getElem?_of_mem hq
      obtain ⟨il, ie⟩ := List.getElem?_eq_some_iff.1 hi
      obtain ⟨jl, je⟩ := List.getElem?_eq_some_iff.1 hj
      rcases Nat.lt_trichotomy i j with hlt | heq | hgt
      · have := List.pairwise_iff_getElem.1 m i j il jl hlt
        rwa [ie, je] at this
      · subst heq; rw [hi] at hj; cases hj; exact (self_mate ut).2 hf
      · have := List.pairwise_iff_getElem.1 m j i jl il hgt
        rw [ie, je] at this
        exact compat_symm this
  cases ha : anyFile (treeOfP p) with
  | true =>
    refine code_join gf gl gn ?_
    cases hj : joinS (withP (freshP p) ps) with
    | false => rfl
    | true =>
      have := gm.1 ((joinS_iff g1).1 hj).1
      rw [ha] at this
      cases this
  | false => exact code_fine gf gl gn ((joinS_iff g1).2 ⟨gm.2 ha, U, gu⟩)
theorem fresh_small {p : packC.D} (h : smallP p) : smallP (freshP p) := ⟨by show 5 ≤ 1048576; omega, by show 1 ≤ 1048576; omega, ⟨by show 0 ≤ 1048576; omega, fun d hd => by cases hd⟩, h.tree⟩
theorem fresh_at {W : World} {cs : List Value} {p : packC.D} (h : packC.at_ W cs p) {n2 v : Value} (hc : cs = [.string (PackD.name p), .string (PackD.version p), n2, v]) : packC.at_ W [.string ⟨#[102, 114, 101, 115, 104]⟩, .string ⟨#[49]⟩, .slice none 0 0, v] (freshP p) := by
  obtain ⟨v2, v3, e, p2, p3⟩ := packC_at h
  rw [e] at hc
  simp only [List.cons.injEq, and_true, true_and] at hc
  obtain ⟨-, rfl⟩ := hc
  exact ⟨[_], _, rfl, rfl, ⟨[_], _, rfl, rfl, ⟨[_], _, rfl, ⟨_, rfl, ⟨none, 0, rfl, fun _ => rfl, Nat.le_refl _, .inl rfl⟩⟩, ⟨_, rfl, p3⟩⟩⟩⟩
end Go.Proofs.YtoljhgkgppjdcaaGreat

/- Roots that the laws read: packs under other names. -/
namespace Go.Proofs.YtoljhgkgppjdcaaGreat
open Go.RowKit Go.Shelf

/-- A pack in a row. -/
structure PA (W : World) (b o : Nat) (p : packC.D) (na : Option Addr) (nc : Nat) (ta : Option Addr) (tc : Nat) : Prop where
  lt : b < W.heap.size
  c0 : W.cell? ⟨b, o, none⟩ = some (.string (PackD.name p))
  c1 : W.cell? ⟨b, o + 1, none⟩ = some (.string (PackD.version p))
  c2 : W.cell? ⟨b, o + 2, none⟩ = some (.slice na (PackD.needs p).length nc)
  c3 : W.cell? ⟨b, o + 3, none⟩ = some (.slice ta (PackD.tree p).length tc)
  pr : PR W [.string (PackD.name p), .string (PackD.version p), .slice na (PackD.needs p).length nc, .slice ta (PackD.tree p).length tc] p
theorem PA.below {W W' : World} {b o : Nat} {p : packC.D} {na : Option Addr} {nc : Nat} {ta : Option Addr} {tc : Nat} (h : PA W b o p na nc ta tc) (hb : Below W.heap.size W W') : PA W' b o p na nc ta tc :=
  ⟨Nat.lt_of_lt_of_le h.lt hb.size, (hb.cell (p := ⟨b, o, none⟩) h.lt).trans h.c0, (hb.cell (p := ⟨b, o + 1, none⟩) h.lt).trans h.c1, (hb.cell (p := ⟨b, o + 2, none⟩) h.lt).trans h.c2, (hb.cell (p := ⟨b, o + 3, none⟩) h.lt).trans h.c3, h.pr.below hb⟩
theorem RR.get {W : World} {a : Option Addr} {c k : Nat} {ps : List packC.D} {p : packC.D} (h : RR W a c ps) (hk : ps[k]? = some p) : ∃ b o na nc ta tc, a = some ⟨b, o, none⟩ ∧ PA W b (o + k * 4) p na nc ta tc := by
  obtain ⟨a', c', e, -, -, h2⟩ := h.row
  cases e
  rcases h2 with h2 | ⟨b, o, rfl, hb, hc⟩
  · rw [h2] at hk; cases hk
  · obtain ⟨na, nc, ta, tc, ⟨c0, c1, c2, c3⟩, hat⟩ := pack_cells (Below.refl W.heap.size W) hb hc hk
    exact ⟨b, o, na, nc, ta, tc, rfl, hb, c0, c1, c2, c3, hat, h.small.2 p (List.mem_of_getElem? hk)⟩
theorem KW.pa {Φ : World → Prop} {W : World} (h : KW Φ W) {b o : Nat} {p : packC.D} {na : Option Addr} {nc : Nat} {ta : Option Addr} {tc : Nat} (hr : PA W b o p na nc ta tc) : KW (fun W => Φ W ∧ PA W b o p na nc ta tc) W := h.add (fun _ _ hb hp => hp.below hb) hr
theorem KW.cut {Φ Ψ : World → Prop} {W : World} (h : KW (fun W => Φ W ∧ Ψ W) W) (hk : StaysW Φ) : KW Φ W := ⟨hk, h.now.1⟩
/-- The root that a call answers lies in what the call has made. -/
def TurnedK (qs : List packC.D) (k : Int) (W : World) (x : Ending) (w' : World) : Prop := ∃ a c, x = .returned (.tuple #[.agg #[.slice a qs.length c], .int .i64 k]) ∧ (∀ w'' : World, (∀ j, W.heap.size ≤ j → j < w'.heap.size → w''.heap[j]? = w'.heap[j]?) → RR w'' a c qs) ∧ Below W.heap.size W w'
theorem implIn_k {W : World} {a : Option Addr} {c : Nat} {ps X : List packC.D} {cs : List Value} {p : packC.D} {k : Int} (h : RR W a c ps) (hp : PR W cs p) (eX : rootInP ⟨ps⟩ p = X) (ek : rootInC ⟨ps⟩ p = k) : Calls Tryz.prog 22 #[.agg #[.slice a ps.length c], .agg cs.toArray] W (TurnedK X k W) :=
  (implRootIn_any ⟨ps⟩ a c p cs W h.small hp.small h.row hp.at_).mono (fun _ _ ⟨r, L, h1, hN, hL, hb⟩ => by
    obtain ⟨s1, s2⟩ := rin_small h.small h.few hp.small
    subst eX ek
    obtain ⟨a', c', rfl, -⟩ := rr_of hN hL s1 s2
    refine ⟨a', c', h1, fun w'' hw => ?_, hb⟩
    obtain ⟨a2, c2, e, hr⟩ := rr_of (hN.frame (fun j hj => hw j (hN.base j hj).1 (hN.base j hj).2)) hL s1 s2
    cases e
    exact hr)
theorem PR.fresh {W : World} {p : packC.D} {na : Option Addr} {nc : Nat} {ta : Option Addr} {tc : Nat} (h : PR W [.string (PackD.name p), .string (PackD.version p), .slice na (PackD.needs p).length nc, .slice ta (PackD.tree p).length tc] p) : PR W [.string ⟨#[102, 114, 101, 115, 104]⟩, .string ⟨#[49]⟩, .slice none 0 0, .slice ta (PackD.tree p).length tc] (freshP p) := ⟨fresh_at h.at_ rfl, fresh_small h.small⟩
end Go.Proofs.YtoljhgkgppjdcaaGreat
