/- Texts of this proof, one behind the other; each says at its head what it shows. -/
import Derived.Test.YtoihhlkidlapmaaGreatJoin14
import Derived.Test.YtoihhlkidlapmaaGreatJoin8
import Derived.Test.YtoihhlkidlapmaaGreatJoin12
import Derived.Test.YtoihhlkidlapmaaGreatJoin5
import Derived.Test.YtoihhlkidlapmaaGreatJoin10
import Derived.Test.YtoihhlkidlapmaaGreatJoin6
import Derived.Test.YtoihhlkidlapmaaGreatJoin11
import Derived.Test.YtoihhlkidlapmaaGreatJoin3
import Derived.Test.YtoihhlkidlapmaaGreatProg
import Derived.WalkSpells
import Derived.Maps.AppendAt
import Derived.Laws.OwnMore
import Derived.Test.YtoihhlkidlapmaaGreatJoin9
import Derived.Maps.OwnSet
import Derived.StringKeys
/- Any roots that are drawn. -/
namespace Go.Proofs.YtoihhlkidlapmaaGreat
open Go.RowKit Go.Shelf

/-- What the draw of any root gives: packs that are read also where the reader has gone on. -/
structure AQ (w : World) (b : Nat) (a : Option Addr) (len cap q : Nat) (W : World) (v : Value) (ps : List packC.D) : Prop where
  keep : ∀ W' : World, (∀ k, b < k → k < W.heap.size → W'.heap[k]? = W.heap[k]?) → rowAt packC W' v ps
  ok : ∀ d ∈ ps, DPk d
  few : ps.length ≤ 8
  rd : ∃ p', p' ≤ q ∧ Rd W b a len cap p'
  grown : w.grownBy W (some b)
theorem nrow_keep {W : World} {N b : Nat} {v : Value} {L : List (It packC)} (h : NRow packC 34 W N v L) (hb : b < N) : ∀ W' : World, (∀ k, b < k → k < W.heap.size → W'.heap[k]? = W.heap[k]?) → rowAt packC W' v (itD L) := fun W' hg => by
  obtain ⟨F, h1, _⟩ := (h.frame (fun k hk => hg k (Nat.lt_of_lt_of_le hb (h.base k hk).1) (h.base k hk).2)).own
  exact h1.toAt
theorem row_tail {W : World} {g c : Nat} {ps : List packC.D} {A : Option Addr} (h : rowAt packC W (.slice (some ⟨g, 0, none⟩) ps.length c) ps) (hA : A = if c = 1 then some ⟨g, 0, none⟩ else some ⟨g, 4, none⟩) (h0 : 0 < ps.length) : rowAt packC W (.slice A (ps.length - 1) (c - 1)) (ps.drop 1) := by
  obtain ⟨a', c', e, hn, hc, hr⟩ := h
  injection e with e1 _ e3
  subst e1 e3
  refine ⟨A, c - 1, by rw [List.length_drop], fun e => ?_, by rw [List.length_drop]; omega, ?_⟩
  · rw [hA] at e
    split at e <;> cases e
  · rcases hr with rfl | ⟨b, o, ea, hb, hcell⟩
    · exact absurd h0 (Nat.lt_irrefl 0)
    · injection ea with ea
      injection ea with e1 e2
      subst e1 e2
      by_cases hc1 : c = 1
      · left
        rw [List.drop_eq_nil_iff]
        omega
      · right
        refine ⟨g, 4, by rw [hA, if_neg hc1], hb, fun i d hi => ?_⟩
        rw [List.getElem?_drop] at hi
        obtain ⟨cs, h1, h2⟩ := hcell (1 + i) d hi
        refine ⟨cs, h1, fun j u hj => ?_⟩
        have := h2 j u hj
        have en : packC.n = 4 := rfl
        rw [en] at this ⊢
        rw [← this]
        congr 2
        omega

set_option maxRecDepth 100000 in
set_option maxHeartbeats 16000000 in
theorem l11AnyRoot_any (w : World) (b : Nat) (a : Option Addr) (len cap p : Nat) (h : Rd w b a len cap p) (hp : p ≤ 200000) :
    Calls Tryz.prog 77 #[.pointer (some ⟨b, 0, none⟩)] w fun x w' => ∃ v ps, x = .returned (.agg #[v]) ∧ AQ w b a len cap (p + 1000) w' v ps := by
  have hbl := h.lt
  have H := hid (h.alloc (.cells #[.slice none 0 0] 51))
  have hR0 := World.alloc_heap_new w (.cells #[.slice none 0 0] 51)
  have hG0 : w.grownBy (w.alloc (.cells #[.slice none 0 0] 51)) (some b) := World.grownBy_alloc w _ (some b)
  have hS0 : w.heap.size + 1 ≤ (w.alloc (.cells #[.slice none 0 0] 51)).heap.size := by simp
  clear h
  go_enter Tryz.func77, Tryz.ntmps77
  go_wp2_with fail
  generalize w.alloc (.cells #[.slice none 0 0] 51) = w0 at H hR0 hG0 hS0 ⊢
  refine (l11Root_any w0 b a len cap p (unhid H) (by omega)).mono ?_
  rintro e w1 ⟨v1, L1, rfl, hQ⟩
  have hRb1 := (hQ.grown.block _ (by omega) (by intro e; injection e; omega)).trans hR0
  have hS1 := Nat.le_trans hS0 hQ.grown.size
  have hG1 := grown_trans hG0 hQ.grown
  obtain ⟨p1, hp1, hR1⟩ := hQ.rd
  have hat1 : rowAt packC w1 v1 (itD L1) := by obtain ⟨F, h1, _⟩ := hQ.row.own; exact h1.toAt
  have HOK := hid hQ.ok
  have hfew := hQ.few
  have JN := hid (l9Copy_any (itD L1) v1 w1 ⟨by rw [itD_len]; omega, fun d hd => (hQ.ok d hd).small⟩ hat1)
  obtain ⟨va, vc, rfl⟩ := nrow_slice hQ.row
  clear hQ hR0 hG0 hS0 hat1 H
  go_wp2_with fail
  refine (unhid JN).mono ?_
  rintro x w2 ⟨v2, L, rfl, hN2, hL2, hB2⟩
  have hRb2 := (hB2.block _ (by omega)).trans hRb1
  have hS2 := Nat.le_trans hS1 hB2.size
  have hG2 := grown_low hG1 (hB2.mono (by omega))
  have hR2 := hR1.of_below hB2
  rw [← hL2] at HOK
  have hfL : L.length ≤ 7 := by
    have : L.length = L1.length := by rw [← itD_len, hL2, itD_len]
    omega
  obtain ⟨ua, uc, rfl⟩ := nrow_slice hN2
  have hN2' : NRow packC 34 w2 (w.heap.size + 1) (.slice ua L.length uc) L := NRow.lower hN2 hS1
  have HBS := hid (fun k (e : (Value.slice ua L.length uc).ownBlock = some k ∨ k ∈ itF L) => (hN2.base k e).2)
  clear JN hRb1 hS1 hG1 hR1 hB2 hL2 hN2
  go_wp2_with fail
  have hX3 := World.alloc_heap_new w2 (.cells #[.slice ua L.length uc] 51)
  have hG23 : w2.grownBy (w2.alloc (.cells #[.slice ua L.length uc] 51)) (some b) := World.grownBy_alloc w2 _ (some b)
  have hR3 := hR2.alloc (.cells #[.slice ua L.length uc] 51)
  have hz3 : w2.heap.size + 1 ≤ (w2.alloc (.cells #[.slice ua L.length uc] 51)).heap.size := by simp
  generalize w2.alloc (.cells #[.slice ua L.length uc] 51) = w3 at hX3 hG23 hR3 hz3 ⊢
  refine (pick_any w3 b a len cap p1 hR3 (by omega) 12 (by omega) (by omega)).mono ?_
  rintro e w4 ⟨m, hm, rfl, hR4, hG34⟩
  have hG24 := grown_trans hG23 hG34
  have hX4 := (hG34.block w2.heap.size (by omega) (by intro e; injection e; omega)).trans hX3
  have hRb4 := (hG24.block w.heap.size (by omega) (by intro e; injection e; omega)).trans hRb2
  have hN4 := nrow_grown hN2' hG24 (by omega)
  have hG4 := grown_trans hG2 hG24
  have hz4 : w2.heap.size + 1 ≤ w4.heap.size := Nat.le_trans hz3 hG34.size
  clear hX3 hG23 hR3 hz3 hG34 hG24 hG2 hRb2 hR2 hN2'
  obtain ⟨c0, f0⟩ := cell_fz hX4 0 _ rfl
  obtain ⟨o0, r0⟩ := cell_fz hRb4 0 _ rfl
  have hne : ¬ w2.heap.size = w.heap.size := by omega
  have hne2 : ¬ w.heap.size = w2.heap.size := by omega
  by_cases h0 : m = 0
  · subst h0
    have hC0 : (fun w' : World => w'.heap[w2.heap.size]? = some (.cells #[.slice ua L.length uc] 51 (0, 0))) w4.drew := hX4
    have gp : ∀ x : CW (fun w' : World => w'.heap[w2.heap.size]? = some (.cells #[.slice ua L.length uc] 51 (0, 0))), x.w.cell? ⟨w2.heap.size, 0, none⟩ = some (.slice ua L.length uc) := fun x => cell_arrS x.h 0 _ rfl
    have hba : ∀ {q : Prop}, (CW (fun w' : World => w'.heap[w2.heap.size]? = some (.cells #[.slice ua L.length uc] 51 (0, 0))) → q) ↔ q := CW.all hC0
    go_wp2_with fail
    refine heldE_begin 7 (fun w' : World => w'.heap[w2.heap.size]? = some (.cells #[.slice ua L.length uc] 51 (0, 0))) (by kernel_rfl) ?_
    refine heldE_here [true, true, true] (by kernel_rfl) (by kernel_rfl) (fun _ _ _ _ _ h => h) hC0 ?_
    dsimp only [pick]
    repeat (go_big_quiet_step (fail))
    refine wpQuiet_nil ?_
    have hR5 := hR4.of_below (drew_belowS (B := w4.heap.size) w4)
    have hN5 : NRow packC 34 w4.drew (w.heap.size + 1) (.slice ua L.length uc) L := hN4.frame (fun k _ => rfl)
    have hG5 : w.grownBy w4.drew (some b) := grown_low hG4 (drew_belowS _)
    have hRb5 : w4.drew.heap[w.heap.size]? = some (.cells #[.slice none 0 0] 51 (0, 0)) := hRb4
    have hz5 : w2.heap.size + 1 ≤ w4.drew.heap.size := hz4
    clear hba gp hX4 hRb4 hN4 hG4 hR4 c0 f0 o0 r0 hz4
    generalize w4.drew = w5 at *
    refine heldE_op 3 (by kernel_rfl) (by kernel_rfl) rfl (fun K hK => ?_)
    refine call_op 95 14 (enters_of Tryz.func95 (by kernel_rfl) rfl) #[.pointer (some ⟨b, 0, none⟩)] rfl rfl rfl rfl ?_
    refine (l11AnyPack_any w5 b a len cap _ hR5 (by omega)).mono ?_
    rintro e w6 ⟨name, ver, nv, nL, tv, ts, rfl, hname, hQ⟩
    have hX6 := (hQ.grown.block w2.heap.size (by omega) (by intro e; injection e; omega)).trans hC0
    have hRb6 := (hQ.grown.block w.heap.size (by omega) (by intro e; injection e; omega)).trans hRb5
    have hN6 := nrow_grown hN5 hQ.grown (by omega)
    have hG6 := grown_trans hG5 hQ.grown
    have hz6 := Nat.le_trans hz5 hQ.grown.size
    have hw56 := hQ.grown.size
    obtain ⟨p6, hp6, hR6⟩ := hQ.rd
    have hdp := hQ.pack hname
    obtain ⟨F6, hown6, hf6⟩ := hQ.k.own name ver
    refine ⟨_, rfl, hK.out _ _ hX6 ?_⟩
    simp only [Act.put, List.setIfInBounds_toArray, List.set_cons_zero, List.set_cons_succ]
    clear hK K hC0 hR5 hN5 hG5 hRb5
    refine heldE_op 4 (by kernel_rfl) (by kernel_rfl) rfl (fun K hK => ?_)
    go_simp
    have hP7 := World.alloc_heap_new w6 (.cells #[.string name, .string ver, nv, tv] 34)
    have hG67 : w6.grownBy (w6.alloc (.cells #[.string name, .string ver, nv, tv] 34)) (some b) := World.grownBy_alloc w6 _ (some b)
    have hb67 : Below w6.heap.size w6 (w6.alloc (.cells #[.string name, .string ver, nv, tv] 34)) := (Below.refl _ w6).alloc (Nat.le_refl _) _
    have hR7 := hR6.alloc (.cells #[.string name, .string ver, nv, tv] 34)
    have hX7 := (hG67.block w2.heap.size (by omega) (by intro e; injection e; omega)).trans hX6
    refine hK.out _ _ hX7 ?_
    clear hK K
    generalize w6.alloc (.cells #[.string name, .string ver, nv, tv] 34) = w7 at hP7 hG67 hR7 hX7 hb67 ⊢
    have hRb7 := (hG67.block w.heap.size (by omega) (by intro e; injection e; omega)).trans hRb6
    have hN7 := nrow_grown hN6 hG67 (by omega)
    have hG7 := grown_trans hG6 hG67
    have hz7 := Nat.le_trans hz6 hG67.size
    have hown7 : packC.own w7 [.string name, .string ver, nv, tv] (⟨name, ver, itD nL, dEnts ts⟩ : PackD) F6 := packC.frame hown6 (fun k hk => hb67.block k (hf6 k hk).2)
    have hM7 : Items packC w7 (w.heap.size + 1) (L ++ [(([.string name, .string ver, nv, tv], (⟨name, ver, itD nL, dEnts ts⟩ : PackD), F6) : It packC)]) := hN7.items.snoc (M := w5.heap.size) hown7 (fun k hk => by have := unhid HBS k (.inr hk); omega) (fun k hk => by have := (hf6 k hk).1; omega) (by omega)
    have hap7 : ∀ g, (Value.slice ua L.length uc).ownBlock = some g → g ∉ itF [(([.string name, .string ver, nv, tv], (⟨name, ver, itD nL, dEnts ts⟩ : PackD), F6) : It packC)] := fun g hg hk => by
      have h1 := unhid HBS g (.inl hg)
      have h2 := (hf6 g (by simpa [itF] using hk)).1
      omega
    refine heldE_op 5 (by kernel_rfl) (by kernel_rfl) rfl (fun K hK => ?_)
    refine op_items etPack onePack w7 16 _ _ rfl rfl rfl (w.heap.size + 1) (.slice ua L.length uc) L [(([.string name, .string ver, nv, tv], (⟨name, ver, itD nL, dEnts ts⟩ : PackD), F6) : It packC)] w6.heap.size 0 1 hN7 hM7 hap7 (fun j u hj => by rw [Nat.zero_add]; exact cell_arrS hP7 _ _ (by simpa [itCells] using hj)) (by simp; omega) (by omega) rfl (by simp [Act.eval]) ?_
    intro nw wA hgr
    have hgA : w7.grownBy wA (Value.slice ua L.length uc).ownBlock := hgr.by_
    have hBA : Below (w.heap.size + 1) w7 wA := ⟨hgA.os, hgA.tape, hgA.output, hgA.size, fun k hk => hgA.block k (by omega) (fun e => by have := (hN7.base k (.inl e.symm)).1; omega)⟩
    have hXA := (hgA.block w2.heap.size (by omega) (fun e => by have := unhid HBS _ (.inl e.symm); omega)).trans hX7
    have hRbA := (hBA.block w.heap.size (by omega)).trans hRb7
    refine hK.out _ _ hXA ?_
    simp only [Act.put, List.setIfInBounds_toArray, List.set_cons_zero, List.set_cons_succ]
    clear hK K
    have hba : ∀ {q : Prop}, (CW (fun w' : World => w'.heap[w2.heap.size]? = some (.cells #[.slice ua L.length uc] 51 (0, 0))) → q) ↔ q := CW.all hXA
    refine heldE_here [false, false, false, false, false, false, true] (by kernel_rfl) (by kernel_rfl) (fun _ _ _ _ _ h => h) hXA ?_
    dsimp only [pick]
    repeat (go_big_quiet_step (fail))
    refine wpQuiet_nil ?_
    clear hba
    obtain ⟨ra, rn, rc, rfl⟩ : ∃ a n c, nw = .slice a n c := by obtain ⟨a, c, e⟩ := grew_slice hgr; exact ⟨_, _, _, e⟩
    have hNA := hgr.row
    have hzA := hgA.size
    have hnX : ∀ k, ((Value.slice ra rn rc).ownBlock = some k ∨ k ∈ itF (L ++ [(([.string name, .string ver, nv, tv], (⟨name, ver, itD nL, dEnts ts⟩ : PackD), F6) : It packC)])) → k ≠ w2.heap.size := fun k hk => by
      rcases hk with hk | hk
      · rcases hgr.block with h | h
        · rw [h] at hk; have := unhid HBS k (.inl hk); omega
        · rw [h] at hk; injection hk with hk; omega
      · rw [itF_app] at hk
        rcases List.mem_append.1 hk with hk | hk
        · have := unhid HBS k (.inr hk); omega
        · have := (hf6 k (by simpa [itF] using hk)).1; omega
    have hRA := Rd.low hR7 hBA (by omega)
    have hGA := grown_low hG7 (hBA.mono (by omega))
    obtain ⟨c0, f0⟩ := cell_fz hXA 0 _ rfl
    have hBw : Below w2.heap.size wA (wA.setCell ⟨w2.heap.size, 0, none⟩ (.slice ra rn rc)) := (Below.refl _ wA).setCell (p := ⟨w2.heap.size, 0, none⟩) (Nat.le_refl _) _
    have hBw2 : Below w.heap.size wA ((wA.setCell ⟨w2.heap.size, 0, none⟩ (.slice ra rn rc)).setCell ⟨w.heap.size, 0, none⟩ (.slice ra rn rc)) := (hBw.mono (show w.heap.size ≤ w2.heap.size by omega)).setCell (p := ⟨w.heap.size, 0, none⟩) (Nat.le_refl _) _
    have HF := hid (show AQ w b a len cap (p + 1000) ((wA.setCell ⟨w2.heap.size, 0, none⟩ (.slice ra rn rc)).setCell ⟨w.heap.size, 0, none⟩ (.slice ra rn rc)) (.slice ra rn rc) (itD (L ++ [(([.string name, .string ver, nv, tv], (⟨name, ver, itD nL, dEnts ts⟩ : PackD), F6) : It packC)])) from ⟨nrow_keep (hNA.frame (fun k hk => by
      rw [Below.heap_setCell _ _ _ _ (by have := (hNA.base k hk).1; dsimp only; omega), Below.heap_setCell _ _ _ _ (hnX k hk)])) (by omega), fun d hd => by
        rw [itD_app] at hd
        rcases List.mem_append.1 hd with hd | hd
        · exact unhid HOK d hd
        · rw [List.mem_singleton.1 (show d ∈ [(⟨name, ver, itD nL, dEnts ts⟩ : PackD)] from hd)]; exact hdp, by rw [itD_len, List.length_append]; simp; omega, ⟨p6, by omega, Rd.low hRA hBw2 hbl⟩, grown_low hGA hBw2⟩)
    have hXB := hid (heap_setCell_same wA w2.heap.size 0 _ _ (.slice ra rn rc) hXA)
    have hRbB := hid ((Below.heap_setCell wA ⟨w2.heap.size, 0, none⟩ (.slice ra rn rc) w.heap.size (by dsimp only; omega)).trans hRbA)
    refine heldE_last (by kernel_rfl) (by kernel_rfl) rfl (fun K hK => ?_)
    go_simp
    refine hK.out _ _ ?_
    clear hK K c0 f0
    refine heldE_done (by kernel_rfl) ?_
    clear hBw hBw2 hXA hRbA hNA hnX hRA hGA hgr hgA hBA hM7 hap7 hN7 hG7 hR7 hX7 hRb7 hown7 hP7 hG67 hb67 hown6 hf6 hQ hN6 hG6 hR6 hRb6 hX6
    generalize wA.setCell ⟨w2.heap.size, 0, none⟩ (.slice ra rn rc) = wB at *
    obtain ⟨c0, f0⟩ := cell_fz (unhid hXB) 0 _ rfl
    obtain ⟨o0, r0⟩ := cell_fz (unhid hRbB) 0 _ rfl
    clear hXB hRbB
    go_wp2_with fail
    exact bodyPost_ret (v := .agg #[.slice ra rn rc]) (by simp [results, Tryz.results77, go_sem, World.cell?_setCell_same', o0]) rfl ⟨_, _, rfl, unhid HF⟩
  · have e0 : ((m : Int) == 0) = false := by rw [beq_eq_false_iff_ne]; omega
    have e0i : ¬ ((m : Int) = 0) := by omega
    have HSAME := hid (fun (v : Value) => (show Below w.heap.size w4 (w4.setCell ⟨w.heap.size, 0, none⟩ v) from (Below.refl _ w4).setCell (p := ⟨w.heap.size, 0, none⟩) (Nat.le_refl _) v))
    have HN4 := hid hN4
    by_cases h1 : m = 1
    · subst h1
      by_cases hl0 : 0 < L.length
      · obtain ⟨g, rfl⟩ : ∃ g, ua = some ⟨g, 0, none⟩ := by
          rcases hN4.row.2 with ⟨_, h⟩ | ⟨g, cap', cur, e, _⟩
          · omega
          · exact ⟨g, by injection e⟩
        have hc1 : L.length ≤ uc := by
          rcases hN4.row.2 with ⟨e, _⟩ | ⟨g, cap', cur, e, _, _, hc, _⟩
          · cases e
          · injection e with _ _ e3; omega
        have hl1 : (0 : Int) < (L.length : Int) := by omega
        have h1l : 1 ≤ L.length := hl0
        have HF := hid (fun (A : Option Addr) (hA : A = if uc = 1 then some ⟨g, 0, none⟩ else some ⟨g, 4, none⟩) => (show AQ w b a len cap (p + 1000) ((w4.setCell ⟨w2.heap.size, 0, none⟩ (.slice A (L.length - 1) (uc - 1))).setCell ⟨w.heap.size, 0, none⟩ (.slice A (L.length - 1) (uc - 1))) (.slice A (L.length - 1) (uc - 1)) ((itD L).drop 1) from by
          have hB1 : Below w.heap.size w4 (w4.setCell ⟨w2.heap.size, 0, none⟩ (.slice A (L.length - 1) (uc - 1))) := (Below.refl _ w4).setCell (p := ⟨w2.heap.size, 0, none⟩) (by dsimp only; omega) _
          have hB2 := hB1.setCell (p := ⟨w.heap.size, 0, none⟩) (Nat.le_refl _) (.slice A (L.length - 1) (uc - 1))
          refine ⟨fun W' hg => ?_, fun d hd => unhid HOK d (List.mem_of_mem_drop hd), by rw [List.length_drop, itD_len]; omega, ⟨_, by omega, Rd.low hR4 hB2 hbl⟩, grown_low hG4 hB2⟩
          have hN5 : NRow packC 34 ((w4.setCell ⟨w2.heap.size, 0, none⟩ (.slice A (L.length - 1) (uc - 1))).setCell ⟨w.heap.size, 0, none⟩ (.slice A (L.length - 1) (uc - 1))) (w.heap.size + 1) (.slice (some ⟨g, 0, none⟩) L.length uc) L := (unhid HN4).frame (fun k hk => by
            rw [Below.heap_setCell _ _ _ _ (by have := ((unhid HN4).base k hk).1; dsimp only; omega), Below.heap_setCell _ _ _ _ (by have := unhid HBS k hk; dsimp only; omega)])
          have h1 := nrow_keep hN5 (b := b) (by omega) W' hg
          have h2 := row_tail (ps := itD L) (A := A) (by rw [itD_len]; exact h1) hA (by rw [itD_len]; omega)
          rwa [itD_len] at h2))
        clear hX4 hRb4 hN4 hR4 hG4
        by_cases huc : uc = 1
        · subst huc
          have HG := hid (unhid HF (some ⟨g, 0, none⟩) (by rw [if_pos rfl]))
          simp only [Nat.sub_self, show L.length - 1 = 0 by omega] at HG
          go_wp2_with fail
          exact bodyPost_ret (v := .agg #[.slice (some ⟨g, 0, none⟩) 0 0]) (by simp [results, Tryz.results77, go_sem, World.cell?_setCell_same', o0]) rfl ⟨_, _, rfl, unhid HG⟩
        · have HG := hid (unhid HF (some ⟨g, 4, none⟩) (by rw [if_neg huc]))
          go_wp2_with fail
          exact bodyPost_ret (v := .agg #[.slice (some ⟨g, 4, none⟩) (L.length - 1) (uc - 1)]) (by simp [results, Tryz.results77, go_sem, World.cell?_setCell_same', o0]) rfl ⟨_, _, rfl, unhid HG⟩
      · have hl1 : ¬ ((0 : Int) < (L.length : Int)) := by omega
        have hl2 : L.length = 0 := by omega
        have HF := hid (show AQ w b a len cap (p + 1000) (w4.setCell ⟨w.heap.size, 0, none⟩ (.slice ua L.length uc)) (.slice ua L.length uc) (itD L) from ⟨nrow_keep ((unhid HN4).frame (fun k hk => Below.heap_setCell _ _ _ _ (by have := ((unhid HN4).base k hk).1; dsimp only; omega))) (by omega), unhid HOK, by rw [itD_len]; omega, ⟨_, by omega, Rd.low hR4 (unhid HSAME _) hbl⟩, grown_low hG4 (unhid HSAME _)⟩)
        clear hX4 hRb4 hN4 hG4 hR4 hl2
        go_wp2_with fail
        exact bodyPost_ret (v := .agg #[.slice ua L.length uc]) (by simp [results, Tryz.results77, go_sem, World.cell?_setCell_same', o0]) rfl ⟨_, _, rfl, unhid HF⟩
    · have e1 : ((m : Int) == 1) = false := by rw [beq_eq_false_iff_ne]; omega
      have e1i : ¬ ((m : Int) = 1) := by omega
      have HF := hid (show AQ w b a len cap (p + 1000) (w4.setCell ⟨w.heap.size, 0, none⟩ (.slice ua L.length uc)) (.slice ua L.length uc) (itD L) from ⟨nrow_keep ((unhid HN4).frame (fun k hk => Below.heap_setCell _ _ _ _ (by have := ((unhid HN4).base k hk).1; dsimp only; omega))) (by omega), unhid HOK, by rw [itD_len]; omega, ⟨_, by omega, Rd.low hR4 (unhid HSAME _) hbl⟩, grown_low hG4 (unhid HSAME _)⟩)
      clear hX4 hRb4 hN4 hG4 hR4
      go_wp2_with fail
      exact bodyPost_ret (v := .agg #[.slice ua L.length uc]) (by simp [results, Tryz.results77, go_sem, World.cell?_setCell_same', o0]) rfl ⟨_, _, rfl, unhid HF⟩
end Go.Proofs.YtoihhlkidlapmaaGreat

/- What the laws over trees draw. -/
namespace Go.Proofs.YtoihhlkidlapmaaGreat
open Go.RowKit

/-- Drawn entries, in a row of their own. -/
structure Drawn (w W : World) (v : Value) (es : List Ent) : Prop where
  v : TreeV W w.heap.size v es
  nice : ∀ e ∈ es, niceE e
  few : es.length ≤ 17
  below : Below w.heap.size w W
theorem Drawn.small {w W : World} {v : Value} {es : List Ent} (h : Drawn w W v es) : smallE es :=
  ⟨by have := h.few; omega, fun e he => ⟨by have := nice_short (h.nice e he).1; omega, by have : e.text.size ≤ 100 := (h.nice e he).2; omega⟩⟩
end Go.Proofs.YtoihhlkidlapmaaGreat

/- What the laws of roots draw. -/
namespace Go.Proofs.YtoihhlkidlapmaaGreat
open Go.RowKit Go.Shelf

/-- Packs that are drawn, in whatever row. -/
structure DR (W : World) (v : Value) (ps : List packC.D) : Prop where
  row : rowAt packC W v ps
  ok : ∀ d ∈ ps, DPk d
  few : ps.length ≤ 8
theorem DR.below {W W' : World} {v : Value} {ps : List packC.D} (h : DR W v ps) (hb : Below W.heap.size W W') : DR W' v ps := ⟨h.row.below hb, h.ok, h.few⟩
theorem DR.small {W : World} {v : Value} {ps : List packC.D} (h : DR W v ps) : smallPs ps := ⟨by have := h.few; omega, fun d hd => (h.ok d hd).small⟩
theorem code_on {w w' : World} {a : Option Addr} {len : Nat} (h : Code w w.heap.size a len) (hb : Below w.heap.size w w') : Code w' w'.heap.size a len := by
  rcases h with h | ⟨blk, off, ha, hbk, hc⟩
  · exact .inl h
  · refine .inr ⟨blk, off, ha, Nat.lt_of_lt_of_le hbk hb.size, fun k hk => ?_⟩
    obtain ⟨c, h1, h2⟩ := hc k hk
    exact ⟨c, h1, (hb.cell (p := ⟨blk, off + k, none⟩) hbk).trans h2⟩
theorem aq_dr {w : World} {b : Nat} {a : Option Addr} {len cap q : Nat} {W : World} {v : Value} {ps : List packC.D} (h : AQ w b a len cap q W v ps) {W' : World} (hg : ∀ k, b < k → k < W.heap.size → W'.heap[k]? = W.heap[k]?) : DR W' v ps := ⟨h.keep W' hg, h.ok, h.few⟩
end Go.Proofs.YtoihhlkidlapmaaGreat

/- Whether two roots are the same, as the laws ask it: where they are. -/
namespace Go.Proofs.YtoihhlkidlapmaaGreat
open Go.RowKit Go.Shelf


end Go.Proofs.YtoihhlkidlapmaaGreat

/- The bytes that a law is handed, read. -/
namespace Go.Proofs.YtoihhlkidlapmaaGreat
open Go.ChangeShapes Go.WideShapes Go.ChangeAt Go.RowKit

theorem cells5 : Tryz.prog.cellsOf 5 = 1 := by kernel_rfl

theorem code_of {H : Type} {enc : TypeId × Value → H} {W : World} {a0 : Option Addr} {len cap : Nat} {d0 : DataW H} {p0 : List MemPlace}
    (h0 : DataW.Trod enc Tryz.prog W 0 (fun _ => true) true 22 (.slice a0 len cap) d0 p0) (hlt : ∀ x ∈ p0, x.block < W.heap.size) : Code W W.heap.size a0 len ∧ len ≤ cap := by
  obtain ⟨fuel, hf⟩ := h0
  rcases open_ints Tryz.underlying22 Tryz.underlying5 cells5 hf with ⟨hcs, hx⟩ | ⟨a, len', cap', zs, hcs, _, hl, hm, hz, hx, hcell, hwz⟩
  · simp [Value.cells] at hcs
    obtain ⟨rfl, rfl, rfl⟩ := hcs
    exact ⟨.inl rfl, Nat.le_refl _⟩
  · simp [Value.cells] at hcs
    obtain ⟨rfl, rfl, rfl⟩ := hcs
    simp only [Prod.mk.injEq] at hx
    obtain ⟨rfl, rfl⟩ := hx
    simp only [if_true] at hz
    refine ⟨?_, hl⟩
    by_cases hl0 : len = 0
    · exact .inl hl0
    · obtain ⟨b, off, spot⟩ := a
      have hspot : spot = none := by simpa [Addr.add] using World.cell?_spot (hcell 0 (by omega))
      subst hspot
      have hbW : b < W.heap.size := hlt (.cell b off) (MemPlace.mem_row.2 ⟨0, by omega, by simp⟩)
      refine .inr ⟨b, off, rfl, hbW, fun k hk => ?_⟩
      have hk' : k < zs.length := by omega
      have hw := hwz (zs.getD k 0) (by simp [List.getD, List.getElem?_eq_getElem hk'])
      have hc := hcell k hk'
      rw [add_plain] at hc
      generalize zs.getD k 0 = z at hw hc
      have hx : 0 ≤ z ∧ z ≤ 255 := by simpa [Lit.wf, IntKind.min, IntKind.max, IntKind.signed, IntKind.bits] using hw
      exact ⟨z.toNat, by omega, by rw [hc, Int.toNat_of_nonneg hx.1]⟩
end Go.Proofs.YtoihhlkidlapmaaGreat

/- Roots that the laws read: the contracts, and what keeps. -/
namespace Go.Proofs.YtoihhlkidlapmaaGreat
open Go.RowKit Go.Shelf

/-- A root that is read. -/
structure RR (W : World) (a : Option Addr) (c : Nat) (ps : List packC.D) : Prop where
  row : rowAt packC W (.slice a ps.length c) ps
  small : smallPs ps
  few : ps.length ≤ 100
theorem RR.below {W W' : World} {a : Option Addr} {c : Nat} {ps : List packC.D} (h : RR W a c ps) (hb : Below W.heap.size W W') : RR W' a c ps := ⟨h.row.below hb, h.small, h.few⟩
/-- A pack that is read. -/
structure PR (W : World) (cs : List Value) (p : packC.D) : Prop where
  at_ : packC.at_ W cs p
  small : smallP p
theorem PR.below {W W' : World} {cs : List Value} {p : packC.D} (h : PR W cs p) (hb : Below W.heap.size W W') : PR W' cs p := ⟨packC.below h.at_ hb, h.small⟩
theorem PR.cells {W : World} {cs : List Value} {p : packC.D} (h : PR W cs p) : ∃ na nc ta tc, cs = [.string (PackD.name p), .string (PackD.version p), .slice na (PackD.needs p).length nc, .slice ta (PackD.tree p).length tc] := by
  obtain ⟨v2, v3, rfl, p2, p3⟩ := packC_at h.at_
  obtain ⟨na, nc, rfl, -⟩ := rowAt.slice p2
  obtain ⟨ta, tc, rfl, -⟩ := rowAt.slice p3
  exact ⟨_, _, _, _, rfl⟩
theorem dr_rr {W : World} {v : Value} {ps : List packC.D} (h : DR W v ps) : ∃ a c, v = .slice a ps.length c ∧ RR W a c ps := by
  obtain ⟨a, c, rfl, -⟩ := rowAt.slice h.row
  exact ⟨a, c, rfl, h.row, h.small, by have := h.few; omega⟩
/-- What stays while nothing that was there is written. -/
def StaysW (Φ : World → Prop) : Prop := ∀ W W' : World, Below W.heap.size W W' → Φ W → Φ W'
structure KW (Φ : World → Prop) (W : World) : Prop where
  keeps : StaysW Φ
  now : Φ W
theorem KW.step {Φ : World → Prop} {W W' : World} (h : KW Φ W) (hb : Below W.heap.size W W') : KW Φ W' := ⟨h.keeps, h.keeps W W' hb h.now⟩
theorem KW.add {Φ Ψ : World → Prop} {W : World} (h : KW Φ W) (hk : StaysW Ψ) (hn : Ψ W) : KW (fun W => Φ W ∧ Ψ W) W := ⟨fun W W' hb hp => ⟨h.keeps W W' hb hp.1, hk W W' hb hp.2⟩, h.now, hn⟩
theorem KW.row {Φ : World → Prop} {W : World} (h : KW Φ W) {a : Option Addr} {c : Nat} {ps : List packC.D} (hr : RR W a c ps) : KW (fun W => Φ W ∧ RR W a c ps) W := h.add (fun _ _ hb hp => hp.below hb) hr
theorem KW.pack {Φ : World → Prop} {W : World} (h : KW Φ W) {cs : List Value} {p : packC.D} (hr : PR W cs p) : KW (fun W => Φ W ∧ PR W cs p) W := h.add (fun _ _ hb hp => hp.below hb) hr
theorem KW.box {Φ : World → Prop} {W : World} (h : KW Φ W) {g : Nat} {o : Obj} (hr : W.heap[g]? = some o) : KW (fun W => Φ W ∧ W.heap[g]? = some o) W := h.add (fun _ _ hb hp => (hb.block _ (Array.getElem?_eq_some_iff.1 hp).1).trans hp) hr
theorem KW.start (w : World) : KW (fun W => Below w.heap.size w W) w := ⟨fun _ _ hb hp => hp.trans (hb.mono hp.size), Below.refl _ w⟩
end Go.Proofs.YtoihhlkidlapmaaGreat

/- Roots that the laws read: more contracts. -/
namespace Go.Proofs.YtoihhlkidlapmaaGreat
open Go.RowKit Go.Shelf

theorem rowIn_ents {W : World} {a : Option Addr} {N M : Nat} {es : List Ent} (h : RowIn W a N M es) : EntsAt W a es := by
  rcases h with h | ⟨g, rfl, _, _, hR⟩
  · exact .inl h
  · refine .inr ⟨g, 0, rfl, hR.lt, fun i e hi => ?_⟩
    have := (hR.cells i (List.getElem?_eq_some_iff.1 hi).1).1
    rw [entFn_get hi] at this
    rwa [Nat.zero_add]
/-- Entries that are read. -/
structure ER (W : World) (a : Option Addr) (es : List Ent) : Prop where
  ents : EntsAt W a es
  small : smallE es
theorem ER.below {W W' : World} {a : Option Addr} {es : List Ent} (h : ER W a es) (hb : Below W.heap.size W W') : ER W' a es := ⟨h.ents.below hb, h.small⟩
theorem KW.ents {Φ : World → Prop} {W : World} (h : KW Φ W) {a : Option Addr} {es : List Ent} (hr : ER W a es) : KW (fun W => Φ W ∧ ER W a es) W := h.add (fun _ _ hb hp => hp.below hb) hr
theorem KW.mark {Φ : World → Prop} {W : World} (h : KW Φ W) : KW (fun W' => Φ W' ∧ Below W.heap.size W W') W := h.add (fun _ _ hb hp => hp.trans (hb.mono hp.size)) (Below.refl _ W)
theorem specOk_r {W : World} {a : Option Addr} {c : Nat} {ps : List packC.D} (h : RR W a c ps) : Calls Tryz.prog 35 #[.agg #[.slice a ps.length c]] W fun x w' => x = .returned (.bool (rootOk_0 ⟨ps⟩)) ∧ Below W.heap.size W w' := specRootOk_any ⟨ps⟩ a c W h.small h.row
theorem tree_smallE {es : List Ent} (h : treeB es = true) : smallE es := ⟨by have := tree_16 h; omega, fun e he => ⟨by have := ent_path_len (tree_all h e he); omega, by have := ent_text_len (tree_all h e he); omega⟩⟩
theorem tree_r {W : World} {a : Option Addr} {c : Nat} {ps : List packC.D} (h : RR W a c ps) : Calls Tryz.prog 37 #[.agg #[.slice a ps.length c]] W fun x w' => ∃ a' c', x = .returned (.slice a' (rootTreeE ⟨ps⟩).length c') ∧ ER w' a' (rootTreeE ⟨ps⟩) ∧ Below W.heap.size W w' :=
  (implRootTree_any ⟨ps⟩ a c W h.small h.row).mono (fun _ _ ⟨u, h1, h2, h3⟩ => by
    obtain ⟨a', c', rfl, hr⟩ := rowIn_of_owns h2
    exact ⟨a', c', h1, ⟨rowIn_ents hr, tree_smallE (rootTree_tree ⟨ps⟩)⟩, h3⟩)
/-- The tree of a pack that is read. -/
theorem PR.tree {W : World} {p : packC.D} {n0 t0 : Option Addr} {n1 t1 : Nat} (h : PR W [.string (PackD.name p), .string (PackD.version p), .slice n0 (PackD.needs p).length n1, .slice t0 (PackD.tree p).length t1] p) : EntsAt W t0 (treeOfP p) ∧ (treeOfP p).length = (PackD.tree p).length := by
  obtain ⟨h1, h2, _⟩ := tree_in h.at_
  exact ⟨h1, h2⟩
end Go.Proofs.YtoihhlkidlapmaaGreat

/- A pack under another name, with the tree of one that is there. -/
namespace Go.Proofs.YtoihhlkidlapmaaGreat
open Go.RowKit Go.Shelf

def freshP (p : packC.D) : packC.D := (⟨⟨#[102, 114, 101, 115, 104]⟩, ⟨#[49]⟩, [], PackD.tree p⟩ : PackD)
theorem fresh_small {p : packC.D} (h : smallP p) : smallP (freshP p) := ⟨by show 5 ≤ 1048576; omega, by show 1 ≤ 1048576; omega, ⟨by show 0 ≤ 1048576; omega, fun d hd => by cases hd⟩, h.tree⟩
theorem fresh_at {W : World} {cs : List Value} {p : packC.D} (h : packC.at_ W cs p) {n2 v : Value} (hc : cs = [.string (PackD.name p), .string (PackD.version p), n2, v]) : packC.at_ W [.string ⟨#[102, 114, 101, 115, 104]⟩, .string ⟨#[49]⟩, .slice none 0 0, v] (freshP p) := by
  obtain ⟨v2, v3, e, p2, p3⟩ := packC_at h
  rw [e] at hc
  simp only [List.cons.injEq, and_true, true_and] at hc
  obtain ⟨-, rfl⟩ := hc
  exact ⟨[_], _, rfl, rfl, ⟨[_], _, rfl, rfl, ⟨[_], _, rfl, ⟨_, rfl, ⟨none, 0, rfl, fun _ => rfl, Nat.le_refl _, .inl rfl⟩⟩, ⟨_, rfl, p3⟩⟩⟩⟩
end Go.Proofs.YtoihhlkidlapmaaGreat

/- Roots that the laws read: packs under other names. -/
namespace Go.Proofs.YtoihhlkidlapmaaGreat
open Go.RowKit Go.Shelf

/-- A pack in a row. -/
structure PA (W : World) (b o : Nat) (p : packC.D) (na : Option Addr) (nc : Nat) (ta : Option Addr) (tc : Nat) : Prop where
  lt : b < W.heap.size
  c0 : W.cell? ⟨b, o, none⟩ = some (.string (PackD.name p))
  c1 : W.cell? ⟨b, o + 1, none⟩ = some (.string (PackD.version p))
  c2 : W.cell? ⟨b, o + 2, none⟩ = some (.slice na (PackD.needs p).length nc)
  c3 : W.cell? ⟨b, o + 3, none⟩ = some (.slice ta (PackD.tree p).length tc)
  pr : PR W [.string (PackD.name p), .string (PackD.version p), .slice na (PackD.needs p).length nc, .slice ta (PackD.tree p).length tc] p
theorem PA.below {W W' : World} {b o : Nat} {p : packC.D} {na : Option Addr} {nc : Nat} {ta : Option Addr} {tc : Nat} (h : PA W b o p na nc ta tc) (hb : Below W.heap.size W W') : PA W' b o p na nc ta tc :=
  ⟨Nat.lt_of_lt_of_le h.lt hb.size, (hb.cell (p := ⟨b, o, none⟩) h.lt).trans h.c0, (hb.cell (p := ⟨b, o + 1, none⟩) h.lt).trans h.c1, (hb.cell (p := ⟨b, o + 2, none⟩) h.lt).trans h.c2, (hb.cell (p := ⟨b, o + 3, none⟩) h.lt).trans h.c3, h.pr.below hb⟩
theorem RR.get {W : World} {a : Option Addr} {c k : Nat} {ps : List packC.D} {p : packC.D} (h : RR W a c ps) (hk : ps[k]? = some p) : ∃ b o na nc ta tc, a = some ⟨b, o, none⟩ ∧ PA W b (o + k * 4) p na nc ta tc := by
  obtain ⟨a', c', e, -, -, h2⟩ := h.row
  cases e
  rcases h2 with h2 | ⟨b, o, rfl, hb, hc⟩
  · rw [h2] at hk; cases hk
  · obtain ⟨na, nc, ta, tc, ⟨c0, c1, c2, c3⟩, hat⟩ := pack_cells (Below.refl W.heap.size W) hb hc hk
    exact ⟨b, o, na, nc, ta, tc, rfl, hb, c0, c1, c2, c3, hat, h.small.2 p (List.mem_of_getElem? hk)⟩
theorem KW.pa {Φ : World → Prop} {W : World} (h : KW Φ W) {b o : Nat} {p : packC.D} {na : Option Addr} {nc : Nat} {ta : Option Addr} {tc : Nat} (hr : PA W b o p na nc ta tc) : KW (fun W => Φ W ∧ PA W b o p na nc ta tc) W := h.add (fun _ _ hb hp => hp.below hb) hr
theorem KW.cut {Φ Ψ : World → Prop} {W : World} (h : KW (fun W => Φ W ∧ Ψ W) W) (hk : StaysW Φ) : KW Φ W := ⟨hk, h.now.1⟩
theorem PR.fresh {W : World} {p : packC.D} {na : Option Addr} {nc : Nat} {ta : Option Addr} {tc : Nat} (h : PR W [.string (PackD.name p), .string (PackD.version p), .slice na (PackD.needs p).length nc, .slice ta (PackD.tree p).length tc] p) : PR W [.string ⟨#[102, 114, 101, 115, 104]⟩, .string ⟨#[49]⟩, .slice none 0 0, .slice ta (PackD.tree p).length tc] (freshP p) := ⟨fresh_at h.at_ rfl, fresh_small h.small⟩
end Go.Proofs.YtoihhlkidlapmaaGreat

/- Whose a path of a root's tree is. -/
namespace Go.Proofs.YtoihhlkidlapmaaGreat
open Go.RowKit Go.Shelf

end Go.Proofs.YtoihhlkidlapmaaGreat

/- Roots that the laws read: their trees. -/
namespace Go.Proofs.YtoihhlkidlapmaaGreat
open Go.RowKit Go.Shelf

end Go.Proofs.YtoihhlkidlapmaaGreat

/- What the law of owners draws: a root and a path. -/
namespace Go.Proofs.YtoihhlkidlapmaaGreat
open Go.RowKit Go.Shelf

set_option maxRecDepth 100000 in
set_option maxHeartbeats 2000000 in
theorem l11At_e (w : World) (b : Nat) (a : Option Addr) (len cap p : Nat) (es : List Ent) (ta : Option Addr) (c : Nat) (h : Rd w b a len cap p) (hp : p ≤ 800000) (hn : es.length ≤ 1048576) (hE : EntsAt w ta es) (hb : ∀ g o, ta = some ⟨g, o, none⟩ → g ≠ b) :
    Calls Tryz.prog 78 #[.pointer (some ⟨b, 0, none⟩), .slice ta es.length c] w fun x w' => ∃ y, x = .returned (.string y) ∧ w.grownBy w' (some b) := by
  have H := hid h
  clear h
  by_cases h0 : es = []
  · subst h0
    go_enter Tryz.func78, Tryz.ntmps78
    go_wp2_with fail
    refine (l11AnyPath_any w b a len cap p (unhid H) (by omega)).mono ?_
    rintro e w1 ⟨y, hy, rfl, hR, hG⟩
    have HF := hid hG
    clear hR hG
    go_wp2_with fail
    go_ret
    exact ⟨y, rfl, unhid HF⟩
  · have hl0 : (0 : Int) < (es.length : Int) := by have := List.length_pos_iff.2 h0; omega
    obtain ⟨g, o, rfl, hgl, hc⟩ := hE.get h0
    have hgb := hb g o rfl
    have HC := hid hc
    clear h0 hE hb hc
    go_enter Tryz.func78, Tryz.ntmps78
    go_wp2_with fail
    refine (pick_any w b a len cap p (unhid H) (by omega) 4 (by omega) (by omega)).mono ?_
    rintro e w1 ⟨r, hr, rfl, hR, hG⟩
    have HR := hid hR
    have HG := hid hG
    have hz1 : g < w1.heap.size := Nat.lt_of_lt_of_le hgl hG.size
    clear hR hG
    by_cases hr0 : r = 0
    · subst hr0
      go_wp2_with fail
      refine (l11AnyPath_any w1 b a len cap (p + 1) (unhid HR) (by omega)).mono ?_
      rintro e w2 ⟨y, hy, rfl, hR, hG⟩
      have HF := hid (grown_trans (unhid HG) hG)
      clear hR hG
      go_wp2_with fail
      go_ret
      exact ⟨y, rfl, unhid HF⟩
    · have hr1 : (0 : Int) < (r : Int) := by omega
      go_wp2_with fail
      refine (pick_any w1 b a len cap (p + 1) (unhid HR) (by omega) es.length (by omega) (by omega)).mono ?_
      rintro e w2 ⟨j, hj, rfl, hR, hG⟩
      have hjl : j < es.length := by omega
      have c0 := (World.cell?_of_block (w := w) ((hG.block g hz1 (by intro e; injection e; omega)).trans ((unhid HG).block g hgl (by intro e; injection e; omega)))).trans ((unhid HC) j es[j] (List.getElem?_eq_getElem hjl)).c0
      have HF := hid (grown_trans (unhid HG) hG)
      generalize es[j].path = y at c0
      clear hR hG
      go_wp2_with fail
      go_ret
      exact ⟨y, rfl, unhid HF⟩
theorem implOwner_r {W : World} {a : Option Addr} {c : Nat} {ps : List packC.D} (h : RR W a c ps) (path : ByteArray) : Calls Tryz.prog 33 #[.agg #[.slice a ps.length c], .string path] W fun x w' => x = .returned (.string (rootOwner_0 ⟨ps⟩ path)) ∧ Below W.heap.size W w' := implRootOwner_any ⟨ps⟩ path a c W h.small h.row
theorem specOwner_r {W : World} {a : Option Addr} {c : Nat} {ps : List packC.D} (h : RR W a c ps) (path : ByteArray) : Calls Tryz.prog 34 #[.agg #[.slice a ps.length c], .string path] W fun x w' => x = .returned (.string (rootOwner_0 ⟨ps⟩ path)) ∧ Below W.heap.size W w' := specRootOwner_any ⟨ps⟩ path a c W h.small h.row
theorem getE_r {W : World} {a : Option Addr} {es : List Ent} {cap : Nat} (p : ByteArray) (h : ER W a es) : Calls Tryz.prog 36 #[.slice a es.length cap, .string p] W fun x w' => x = .returned (.tuple #[.agg #[.string (gotE es p).path, .int .i64 (gotE es p).kind, .int .i64 (gotE es p).mode, .string (gotE es p).text], .bool (treeB es && thereE es p)]) ∧ Below W.heap.size W w' :=
  (treeGet_any es a cap p W h.small h.ents).mono (fun _ _ ⟨h3, h4⟩ => ⟨h3, h4⟩)
theorem getO_r {W : World} {na : Option Addr} {nc : Nat} {ta : Option Addr} {tc : Nat} {q : packC.D} (p : ByteArray) (h : PR W [.string (PackD.name q), .string (PackD.version q), .slice na (PackD.needs q).length nc, .slice ta (PackD.tree q).length tc] q) : Calls Tryz.prog 36 #[.slice ta (PackD.tree q).length tc, .string p] W fun r w' => r = .returned (.tuple #[.agg #[.string (gotE (treeOfP q) p).path, .int .i64 (gotE (treeOfP q) p).kind, .int .i64 (gotE (treeOfP q) p).mode, .string (gotE (treeOfP q) p).text], .bool (treeB (treeOfP q) && thereE (treeOfP q) p)]) ∧ Below W.heap.size W w' := by
  obtain ⟨h1, h2⟩ := h.tree
  rw [← h2]
  exact (treeGet_any (treeOfP q) ta tc p W h.small.tree h1).mono (fun _ _ ⟨h3, h4⟩ => ⟨h3, h4⟩)
/-- What a region keeps that lays a root where the answer lies. -/
structure CO (w2 : World) (b g : Nat) (w' : World) : Prop where
  box : ∃ v, w'.heap[g]? = some (.cells #[v] 51 (0, 0))
  size : w2.heap.size ≤ w'.heap.size
  rest : ∀ k, k < w2.heap.size → k ≠ b → k ≠ g → w'.heap[k]? = w2.heap[k]?
theorem CO.grown {w2 W W' : World} {b g : Nat} (h : CO w2 b g W) (hg : W.grownBy W' (some b)) (hlt : g < w2.heap.size) (hne : g ≠ b) : CO w2 b g W' := by
  obtain ⟨v, hv⟩ := h.box
  exact ⟨⟨v, (hg.block g (Nat.lt_of_lt_of_le hlt h.size) (by intro e; injection e; omega)).trans hv⟩, Nat.le_trans h.size hg.size, fun k hk h1 h2 => (hg.block k (Nat.lt_of_lt_of_le hk h.size) (by intro e; injection e; omega)).trans (h.rest k hk h1 h2)⟩
theorem CO.below {w2 W W' : World} {b g : Nat} (h : CO w2 b g W) (hg : Below W.heap.size W W') (hlt : g < w2.heap.size) : CO w2 b g W' := by
  obtain ⟨v, hv⟩ := h.box
  exact ⟨⟨v, (hg.block g (Nat.lt_of_lt_of_le hlt h.size)).trans hv⟩, Nat.le_trans h.size hg.size, fun k hk h1 h2 => (hg.block k (Nat.lt_of_lt_of_le hk h.size)).trans (h.rest k hk h1 h2)⟩
theorem CO.set {w2 W : World} {b g : Nat} (h : CO w2 b g W) (v : Value) : CO w2 b g (W.setCell ⟨g, 0, none⟩ v) := by
  obtain ⟨u, hv⟩ := h.box
  exact ⟨⟨v, heap_setCell_same W g 0 _ _ v hv⟩, by simpa using h.size, fun k hk h1 h2 => (Below.heap_setCell _ _ _ _ h2).trans (h.rest k hk h1 h2)⟩
set_option maxRecDepth 100000 in
set_option maxHeartbeats 4000000 in
theorem DrawRootOwner_any (w : World) (a : Option Addr) (len cap : Nat) (h : Code w w.heap.size a len) (hl : len ≤ 1048576) (hc : len ≤ cap) :
    Calls Tryz.prog 32 #[.slice a len cap] w fun x w' => ∃ v ps y, x = .returned (.tuple #[.agg #[v], .string y]) ∧ DR w' v ps ∧ Below w.heap.size w w' := by
  have hB0 : Below w.heap.size w (w.alloc (.cells #[.slice none 0 0] 51)) := (Below.refl _ w).alloc (Nat.le_refl _) _
  have H := hid (code_on h hB0)
  have hR0 := World.alloc_heap_new w (.cells #[.slice none 0 0] 51)
  have hz0 : w.heap.size < (w.alloc (.cells #[.slice none 0 0] 51)).heap.size := by simp
  clear h
  go_enter Tryz.func32, Tryz.ntmps32
  go_wp2_with fail
  generalize w.alloc (.cells #[.slice none 0 0] 51) = w0 at H hB0 hR0 hz0 ⊢
  refine (l1Open_any w0 a len cap (unhid H) hl hc).mono ?_
  rintro e w1 ⟨rfl, ⟨l', c', hR⟩, hB1⟩
  have hR1 := (hB1.block _ hz0).trans hR0
  have hB01 := hB0.trans (hB1.mono hB0.size)
  clear hR0 H
  go_wp2_with fail
  refine (l11AnyRoot_any w1 _ a l' c' 0 hR (by omega)).mono ?_
  rintro e w2 ⟨v, ps, rfl, hQ⟩
  have hb2 : Below w0.heap.size w1 w2 := grown_below hQ.grown (Nat.le_refl _) hB1.size
  have hR2 := (hb2.block _ hz0).trans hR1
  have hat := hQ.keep w2 (fun _ _ _ => rfl)
  obtain ⟨va, vc, rfl, -⟩ := rowAt.slice hat
  have hB02 : Below w.heap.size w w2 := hB01.trans (hb2.mono hB0.size)
  obtain ⟨p2, hp2, hRd⟩ := hQ.rd
  have hlb := hRd.lt
  have HQ := hid hQ
  clear hb2 hR1 hB01 hat hQ hR hB1
  go_wp2_with fail
  have hX3 := World.alloc_heap_new w2 (.cells #[.slice va ps.length vc] 51)
  have hb23 : Below w2.heap.size w2 (w2.alloc (.cells #[.slice va ps.length vc] 51)) := (Below.refl _ w2).alloc (Nat.le_refl _) _
  have hR3 := hRd.alloc (.cells #[.slice va ps.length vc] 51)
  have hz3 : w2.heap.size < (w2.alloc (.cells #[.slice va ps.length vc] 51)).heap.size := by simp
  generalize w2.alloc (.cells #[.slice va ps.length vc] 51) = w3 at hX3 hb23 hR3 hz3 ⊢
  have hRb3 := (hb23.block w.heap.size (by omega)).trans hR2
  have hD3 : DR w3 (.slice va ps.length vc) ps := aq_dr (unhid HQ) (fun k _ h2 => hb23.block k h2)
  have hB03 : Below w.heap.size w w3 := hB02.trans (hb23.mono hB02.size)
  have hC0 : CO w3 w0.heap.size w.heap.size w3.drew := ⟨⟨_, hRb3⟩, Nat.le_refl _, fun _ _ _ _ => rfl⟩
  have gp : ∀ x : CW (CO w3 w0.heap.size w.heap.size), x.w.cell? ⟨w2.heap.size, 0, none⟩ = some (.slice va ps.length vc) := fun x => cell_arrS ((x.h.rest w2.heap.size hz3 (by omega) (by omega)).trans hX3) 0 _ rfl
  have hba : ∀ {q : Prop}, (CW (CO w3 w0.heap.size w.heap.size) → q) ↔ q := CW.all hC0
  clear hR2 hRd hB02 hB0
  refine held_begin (CO w3 w0.heap.size w.heap.size) (by kernel_rfl) hC0 ?_
  refine held_here [true, true, true] (by kernel_rfl) (by kernel_rfl) (fun _ _ _ _ _ h => h) hC0 ?_
  dsimp only [pick]
  repeat (go_big_quiet_step (fail))
  refine wpQuiet_nil ?_
  clear gp hba
  have hR4 := hR3.of_below (drew_belowS (B := w3.heap.size) w3)
  have hD4 : DR w3.drew (.slice va ps.length vc) ps := hD3.below (drew_belowS _)
  have hB04 : Below w.heap.size w w3.drew := hB03.trans ((drew_belowS (B := w3.heap.size) w3).mono hB03.size)
  have hz4 : w3.heap.size ≤ w3.drew.heap.size := Nat.le_refl _
  have hb34 := drew_belowS (B := w3.heap.size) w3
  generalize w3.drew = w4 at hC0 hR4 hD4 hB04 hz4 hb34 ⊢
  have hr := hD4.row
  refine held_call 3 45 13 (enters_of Tryz.func45 (by kernel_rfl) rfl) #[.agg #[.slice va ps.length vc]] (by kernel_rfl) (by kernel_rfl) rfl rfl rfl rfl rfl ?_
  refine (specRootTree_any ⟨ps⟩ va vc w4 hD4.small hr).mono ?_
  rintro x w5 ⟨u, rfl, hu, hb5⟩
  have hsm := tree_smallE (rootTree_tree ⟨ps⟩)
  obtain ⟨ta, tc, rfl, hri⟩ := rowIn_of_owns hu
  have hea := rowIn_ents hri
  have hC5 := hC0.below hb5 (by omega)
  refine ⟨_, rfl, hC5, ?_⟩
  simp only [Act.put, List.setIfInBounds_toArray, List.set_cons_zero, List.set_cons_succ]
  refine held_call 4 78 14 (enters_of Tryz.func78 (by kernel_rfl) rfl) #[.pointer (some ⟨w0.heap.size, 0, none⟩), .slice ta (rootTreeE ⟨ps⟩).length tc] (by kernel_rfl) (by kernel_rfl) rfl rfl rfl rfl rfl ?_
  refine (l11At_e w5 w0.heap.size a l' c' p2 (rootTreeE ⟨ps⟩) ta tc (hR4.of_below hb5) (by omega) hsm.1 hea (fun g o e => ?hg)).mono ?_
  case hg =>
    rcases hri with h | ⟨g', e', h1, _, _⟩
    · have hnil : (rootTreeE ⟨ps⟩).length = 0 := by rw [h]; rfl
      rcases hu.2 with ⟨h1, _⟩ | ⟨g2, cap2, cur, h1, h2, _⟩
      · injection h1 with h1 _ _
        rw [h1] at e; cases e
      · injection h1 with h1 _ _
        rw [h1] at e
        have : g2 = g := by injection e with e; injection e
        omega
    · rw [e'] at e
      have : g' = g := by injection e with e; injection e
      omega
  rintro x w6 ⟨y, rfl, hg6⟩
  have hC6 := hC5.grown hg6 (by omega) (by omega)
  refine ⟨_, rfl, hC6, ?_⟩
  simp only [Act.put, List.setIfInBounds_toArray, List.set_cons_zero, List.set_cons_succ]
  obtain ⟨bv, hbv⟩ := hC6.box
  obtain ⟨o0, r0⟩ := cell_fz hbv 0 _ rfl
  have hC7 := hC6.set (.slice va ps.length vc)
  have hBw : Below w.heap.size w6 (w6.setCell ⟨w.heap.size, 0, none⟩ (.slice va ps.length vc)) := (Below.refl _ w6).setCell (p := ⟨w.heap.size, 0, none⟩) (Nat.le_refl _) _
  have hB06 : Below w.heap.size w w6 := (hB04.trans (hb5.mono hB04.size)).trans (grown_below hg6 (by omega) (Nat.le_trans hB04.size hb5.size))
  have HF := hid (And.intro (aq_dr (unhid HQ) (W' := w6.setCell ⟨w.heap.size, 0, none⟩ (.slice va ps.length vc)) (fun k h1 h2 => (Below.heap_setCell _ _ _ _ (by dsimp only; omega)).trans ((hC6.rest k (by omega) (by omega) (by omega)).trans (hb23.block k h2)))) (hB06.trans hBw))
  have hcell := heap_setCell_same w6 w.heap.size 0 _ _ (.slice va ps.length vc) hbv
  clear hu hri hea hsm hD4 hr hb5 hC5 hg6 hC0 hR4 hD3 hR3 HQ hB06 hBw hB04 hB03
  refine held_op 5 (by kernel_rfl) (by kernel_rfl) rfl (fun KK hK => ?_)
  go_simp
  refine hK.out _ _ hC7 ?_
  clear hK KK
  have hba : ∀ {q : Prop}, (CW (CO w3 w0.heap.size w.heap.size) → q) ↔ q := CW.all hC7
  refine held_here [false, false, false, false, false, false, true] (by kernel_rfl) (by kernel_rfl) (fun _ _ _ _ _ h => h) hC7 ?_
  dsimp only [pick]
  repeat (go_big_quiet_step (fail))
  refine wpQuiet_nil ?_
  clear hba
  refine held_done (by kernel_rfl) ?_
  obtain ⟨o1, r1⟩ := cell_fz hcell 0 _ rfl
  go_wp2_with fail
  exact bodyPost_ret (v := .tuple #[.agg #[.slice va ps.length vc], .string y]) (by simp [results, Tryz.results32, go_sem, o1]) rfl ⟨_, ps, y, rfl, (unhid HF).1, (unhid HF).2⟩
end Go.Proofs.YtoihhlkidlapmaaGreat

/- What is needed, ahead of who needs it: a walk that goes down, as mathematics; the same walk with a list of those that wait; what comes of it. -/
namespace Go.Proofs.YtoihhlkidlapmaaGreat






end Go.Proofs.YtoihhlkidlapmaaGreat

/- Rows of hunks: what they hold, the laws' own copies of them, their sizes; two rows of the same hunks are the same. -/
namespace Go.Proofs.YtoihhlkidlapmaaGreat
open Go.RowKit Go.Shelf

structure Hk where
  at_ : Int
  lines : List ByteArray
/-- The two cells of a hunk. -/
def HkAt (W : World) (b o : Nat) (h : Hk) : Prop := ∃ la cap, W.cell? ⟨b, o, .none⟩ = some (.int .i64 h.at_) ∧ W.cell? ⟨b, o + 1, .none⟩ = some (.slice la h.lines.length cap) ∧ TxtsAt W la h.lines
theorem HkAt.below {W W' : World} {b o : Nat} {h : Hk} (x : HkAt W b o h) (hb : Below W.heap.size W W') (hl : b < W.heap.size) : HkAt W' b o h := by
  obtain ⟨la, cap, c0, c1, ht⟩ := x
  exact ⟨la, cap, (hb.cell (p := ⟨b, o, .none⟩) hl).trans c0, (hb.cell (p := ⟨b, o + 1, .none⟩) hl).trans c1, ht.below hb⟩
/-- A row of hunks that is read. -/
def HksAt (W : World) (a : Option Addr) (hs : List Hk) : Prop := hs = [] ∨ ∃ b o, a = some ⟨b, o, .none⟩ ∧ b < W.heap.size ∧ ∀ (i : Nat) h, hs[i]? = some h → HkAt W b (o + i * 2) h
theorem HksAt.below {W W' : World} {a : Option Addr} {hs : List Hk} (h : HksAt W a hs) (hb : Below W.heap.size W W') : HksAt W' a hs := by
  rcases h with h | ⟨b, o, rfl, hl, hc⟩
  · exact .inl h
  · exact .inr ⟨b, o, rfl, Nat.lt_of_lt_of_le hl hb.size, fun i e hi => (hc i e hi).below hb hl⟩
theorem HksAt.get {W : World} {a : Option Addr} {hs : List Hk} (h : HksAt W a hs) (hne : hs ≠ []) : ∃ b o, a = some ⟨b, o, .none⟩ ∧ b < W.heap.size ∧ ∀ (i : Nat) h, hs[i]? = some h → HkAt W b (o + i * 2) h := h.resolve_left hne

/-- Two cells at the head of a block. -/
def TwoAt (W : World) (b : Nat) (x : Int) (v : Value) : Prop := (W.cell? ⟨b, 0, .none⟩ = some (.int .i64 x) ∧ W.frozen? ⟨b, 0, .none⟩ = false) ∧ W.cell? ⟨b, 1, .none⟩ = some v ∧ W.frozen? ⟨b, 1, .none⟩ = false
theorem TwoAt.below {W W' : World} {b B : Nat} {x : Int} {v : Value} (h : TwoAt W b x v) (hb : Below B W W') (hB : b < B) : TwoAt W' b x v :=
  ⟨⟨(hb.cell (p := ⟨b, 0, .none⟩) hB).trans h.1.1, (hb.frozen (p := ⟨b, 0, .none⟩) hB).trans h.1.2⟩, (hb.cell (p := ⟨b, 1, .none⟩) hB).trans h.2.1, (hb.frozen (p := ⟨b, 1, .none⟩) hB).trans h.2.2⟩
theorem TwoAt.far {W : World} {b : Nat} {x : Int} {v : Value} (h : TwoAt W b x v) {q : Addr} (hq : b ≠ q.block) (y : Value) : TwoAt (W.setCell q y) b x v := by
  have hb := Below.heap_setCell W q y b hq
  exact ⟨⟨(World.cell?_of_block (w := W) hb).trans h.1.1, (World.frozen?_of_block (w := W) hb).trans h.1.2⟩, (World.cell?_of_block (w := W) hb).trans h.2.1, (World.frozen?_of_block (w := W) hb).trans h.2.2⟩
end Go.Proofs.YtoihhlkidlapmaaGreat

/- The laws' own copies of hunks; two rows of the same hunks are the same. -/
namespace Go.Proofs.YtoihhlkidlapmaaGreat
open Go.RowKit Go.Shelf

/-- A block that is a row of n hunks. -/
def HkRow (W : World) (g T n : Nat) (f : Nat → Int × Value) : Prop := ∃ cur : Array Value, W.heap[g]? = some (.cells cur T (0, 0)) ∧ cur.size = n * 2 ∧ ∀ i, i < n → cur[i * 2]? = some (.int .i64 (f i).1) ∧ cur[i * 2 + 1]? = some (f i).2
theorem HkRow.lt {W : World} {g T n : Nat} {f : Nat → Int × Value} (x : HkRow W g T n f) : g < W.heap.size := by
  obtain ⟨cur, h1, _⟩ := x; exact (Array.getElem?_eq_some_iff.1 h1).1
theorem HkRow.block {W W' : World} {g T n : Nat} {f : Nat → Int × Value} (x : HkRow W g T n f) (e : W'.heap[g]? = W.heap[g]?) : HkRow W' g T n f := by
  obtain ⟨cur, h1, h2, h3⟩ := x; exact ⟨cur, e.trans h1, h2, h3⟩
theorem HkRow.below {W W' : World} {B g T n : Nat} {f : Nat → Int × Value} (x : HkRow W g T n f) (hb : Below B W W') (hg : g < B) : HkRow W' g T n f := x.block (hb.block g hg)
theorem HkRow.cells {W : World} {g T n : Nat} {f : Nat → Int × Value} (x : HkRow W g T n f) (k : Nat) (hk : k < n) : (W.cell? ⟨g, k * 2, .none⟩ = some (.int .i64 (f k).1) ∧ W.frozen? ⟨g, k * 2, .none⟩ = false) ∧ W.cell? ⟨g, k * 2 + 1, .none⟩ = some (f k).2 ∧ W.frozen? ⟨g, k * 2 + 1, .none⟩ = false := by
  obtain ⟨cur, h1, h2, h3⟩ := x
  obtain ⟨a, b⟩ := h3 k hk
  exact ⟨⟨by simp [World.cell?, h1, a], by simp [World.frozen?, h1]⟩, by simp [World.cell?, h1, b], by simp [World.frozen?, h1]⟩
def updH (f : Nat → Int × Value) (k : Nat) (e : Int × Value) : Nat → Int × Value := fun j => if j = k then e else f j
theorem HkRow.set {W : World} {g T n : Nat} {f : Nat → Int × Value} (x : HkRow W g T n f) (k : Nat) (hk : k < n) (e : Int × Value) :
    HkRow ((W.setCell ⟨g, k * 2, .none⟩ (.int .i64 e.1)).setCell ⟨g, k * 2 + 1, .none⟩ e.2) g T n (updH f k e) := by
  obtain ⟨cur, h1, h2, h3⟩ := x
  refine ⟨(cur.setIfInBounds (k * 2) (.int .i64 e.1)).setIfInBounds (k * 2 + 1) e.2, ?_, by simpa using h2, fun i hi => ?_⟩
  · exact heap_setCell_same _ g _ _ T _ (heap_setCell_same _ g _ _ T _ h1)
  · unfold updH
    simp only [Array.getElem?_setIfInBounds, Array.size_setIfInBounds]
    by_cases e1 : i = k
    · subst e1
      have eu : (if i = i then e else f i) = e := if_pos rfl
      rw [eu]
      refine ⟨?_, ?_⟩
      · rw [if_neg (by omega), if_pos rfl, if_pos (by omega)]
      · rw [if_pos rfl, if_pos (by omega)]
    · rw [if_neg e1]
      obtain ⟨a, b⟩ := h3 i hi
      refine ⟨?_, ?_⟩
      · rw [if_neg (by omega), if_neg (by omega)]; exact a
      · rw [if_neg (by omega), if_neg (by omega)]; exact b
/-- What a copy of the first k hunks is. -/
def HkDone (W : World) (g k : Nat) (hs : List Hk) (f : Nat → Int × Value) : Prop := ∀ (i : Nat) h, i < k → hs[i]? = some h → ∃ la, f i = (h.at_, .slice (some ⟨la, 0, .none⟩) h.lines.length h.lines.length) ∧ g < la ∧ TxtsAt W (some ⟨la, 0, .none⟩) h.lines
theorem HkDone.below {W W' : World} {g k : Nat} {hs : List Hk} {f : Nat → Int × Value} (x : HkDone W g k hs f) (hb : Below W.heap.size W W') : HkDone W' g k hs f := fun i h hi he => by
  obtain ⟨la, h1, h2, h3⟩ := x i h hi he
  exact ⟨la, h1, h2, h3.below hb⟩
theorem HkDone.set {W : World} {g k : Nat} {hs : List Hk} {f : Nat → Int × Value} (x : HkDone W g k hs f) (o : Nat) (v : Value) : HkDone (W.setCell ⟨g, o, .none⟩ v) g k hs f := fun i h hi he => by
  obtain ⟨la, h1, h2, h3⟩ := x i h hi he
  exact ⟨la, h1, h2, h3.block g (fun b o e => by cases e; omega) (by simp) (fun b _ hne => Below.heap_setCell W ⟨g, _, .none⟩ v b (by dsimp only; exact hne))⟩

end Go.Proofs.YtoihhlkidlapmaaGreat

/- Lines of texts and of hunks, by the program and by its model. -/
namespace Go.Proofs.YtoihhlkidlapmaaGreat
open Go.RowKit Go.Shelf



end Go.Proofs.YtoihhlkidlapmaaGreat

/- Rows of texts: whether two are the same, what they begin and end with alike, with signs ahead. -/
namespace Go.Proofs.YtoihhlkidlapmaaGreat
open Go.RowKit Go.Shelf



end Go.Proofs.YtoihhlkidlapmaaGreat

/- Rows of texts in memory of their own; what is written over them. -/
namespace Go.Proofs.YtoihhlkidlapmaaGreat
open Go.RowKit Go.Shelf

def TxtOwn (W : World) (v : Value) (xs : List ByteArray) (F : List Nat) : Prop := (xs = [] ∧ F = [] ∧ ∃ a c, v = .slice a 0 c ∧ (a = none → c = 0)) ∨
  ∃ g cap cur, F = [g] ∧ v = .slice (some ⟨g, 0, none⟩) xs.length cap ∧ W.heap[g]? = some (.cells cur 9 (0, 0)) ∧ xs.length ≤ cap ∧ xs.length ≤ cur.size ∧ ∀ (i : Nat) x, xs[i]? = some x → cur[i]? = some (.string x)
theorem TxtOwn.frame {W W' : World} {v : Value} {xs : List ByteArray} {F : List Nat} (h : TxtOwn W v xs F) (hf : ∀ k ∈ F, W'.heap[k]? = W.heap[k]?) : TxtOwn W' v xs F := by
  rcases h with h | ⟨g, cap, cur, rfl, hv, hh, h1, h2, h3⟩
  · exact .inl h
  · exact .inr ⟨g, cap, cur, rfl, hv, (hf g (by simp)).trans hh, h1, h2, h3⟩
theorem TxtOwn.lt {W : World} {v : Value} {xs : List ByteArray} {F : List Nat} (h : TxtOwn W v xs F) : ∀ k ∈ F, k < W.heap.size := by
  rcases h with ⟨_, rfl, _⟩ | ⟨g, cap, cur, rfl, hv, hh, _⟩
  · intro k hk; cases hk
  · intro k hk; rcases List.mem_singleton.1 hk with rfl; exact (Array.getElem?_eq_some_iff.1 hh).1
theorem TxtOwn.at {W : World} {v : Value} {xs : List ByteArray} {F : List Nat} (h : TxtOwn W v xs F) : ∃ a cap, v = .slice a xs.length cap ∧ TxtsAt W a xs ∧ (a = none → cap = 0) ∧ xs.length ≤ cap ∨ v = .slice a 0 cap ∧ xs = [] ∧ (a = none → cap = 0) := by
  rcases h with ⟨rfl, _, a, c, hv, hn⟩ | ⟨g, cap, cur, rfl, hv, hh, h1, h2, h3⟩
  · exact ⟨a, c, .inr ⟨hv, rfl, hn⟩⟩
  · refine ⟨_, cap, .inl ⟨hv, .inr ⟨g, 0, rfl, (Array.getElem?_eq_some_iff.1 hh).1, fun i x hi => ?_⟩, (fun e => by cases e), h1⟩⟩
    have := h3 i x hi
    simp [World.cell?, hh, this]
theorem TxtOwn.read {W : World} {v : Value} {xs : List ByteArray} {F : List Nat} (h : TxtOwn W v xs F) : ∃ a cap, v = .slice a xs.length cap ∧ TxtsAt W a xs ∧ (a = none → cap = 0) := by
  obtain ⟨a, cap, ⟨h1, h2, h3, _⟩ | ⟨h1, rfl, h3⟩⟩ := h.at
  · exact ⟨a, cap, h1, h2, h3⟩
  · exact ⟨a, cap, h1, .inl rfl, h3⟩



end Go.Proofs.YtoihhlkidlapmaaGreat

/- Rows of texts, in the form of shapes: what the laws' own functions of them do. -/
namespace Go.Proofs.YtoihhlkidlapmaaGreat
open Go.ChangeShapes Go.WideShapes Go.ChangeAt Go.RowKit Go.Shelf

end Go.Proofs.YtoihhlkidlapmaaGreat

/- Rows of texts: one appended to another, in the form of shapes. -/
namespace Go.Proofs.YtoihhlkidlapmaaGreat
open Go.RowKit Go.Shelf

end Go.Proofs.YtoihhlkidlapmaaGreat

/- Packs and what they need, as names; the model of Closure. -/
namespace Go.Proofs.YtoihhlkidlapmaaGreat
open Go.RowKit Go.Shelf

def memB (q : ByteArray) (xs : List ByteArray) : Bool := xs.any fun x => decide (x = q)
theorem memB_iff {q : ByteArray} {xs : List ByteArray} : memB q xs = true ↔ q ∈ xs := by
  unfold memB
  rw [List.any_eq_true]
  constructor
  · rintro ⟨x, hx, e⟩
    rw [decide_eq_true_eq] at e
    exact e ▸ hx
  · exact fun h => ⟨q, h, decide_eq_true rfl⟩
theorem memB_yes {q : ByteArray} {xs : List ByteArray} (h : q ∈ xs) : memB q xs = true := memB_iff.2 h
theorem memB_no {q : ByteArray} {xs : List ByteArray} (h : q ∉ xs) : memB q xs = false := by
  cases e : memB q xs with
  | false => rfl
  | true => exact absurd (memB_iff.1 e) h
theorem nodup_inj {xs : List ByteArray} (h : xs.Nodup) {i j : Nat} {x : ByteArray} (hi : xs[i]? = some x) (hj : xs[j]? = some x) : i = j := by
  rw [List.nodup_iff_pairwise_ne, List.pairwise_iff_getElem] at h
  obtain ⟨hil, ei⟩ := List.getElem?_eq_some_iff.1 hi
  obtain ⟨hjl, ej⟩ := List.getElem?_eq_some_iff.1 hj
  rcases Nat.lt_trichotomy i j with h1 | h1 | h1
  · exact absurd (ei.trans ej.symm) (h i j hil hjl h1)
  · exact h1
  · exact absurd (ej.trans ei.symm) (h j i hjl hil h1)



end Go.Proofs.YtoihhlkidlapmaaGreat

/- Closure, by the model. -/
namespace Go.Proofs.YtoihhlkidlapmaaGreat
open Go.RowKit Go.Shelf




end Go.Proofs.YtoihhlkidlapmaaGreat

/- Closure, by the program: packs that are ok, their names, and where each is. -/
namespace Go.Proofs.YtoihhlkidlapmaaGreat
open Go.RowKit Go.Shelf Go.Maps




/-- A map from names to where each is. -/
structure PlaceMap (W : World) (mb n : Nat) (names : List ByteArray) (D : DataW Unit) : Prop where
  own : W.ownsMap Tryz.prog 9 (plainElem Tryz.prog 3) mb n D
  has : ∀ x : ByteArray, Maps.has D (.string x.data.toList) = memB x names
  at_ : ∀ (x : ByteArray) (i : Nat), names[i]? = some x → D.atKey (.string x.data.toList) (.lit (.int .i64 0)) = .lit (.int .i64 (i : Int))
theorem bytes_eq {x y : ByteArray} (h : x.data.toList = y.data.toList) : x = y := by
  cases x with | mk a => cases y with | mk b => congr; exact Array.ext' h
theorem isKey_str (l : List UInt8) : WideAt.IsKeyLit (.string l) := by trivial
theorem PlaceMap.frame {W W' : World} {mb n : Nat} {names : List ByteArray} {D : DataW Unit} (h : PlaceMap W mb n names D) {row : Option Nat} (hg : W.grownBy W' row) (hne : some mb ≠ row) : PlaceMap W' mb n names D := ⟨h.own.kept hg hne, h.has, h.at_⟩
theorem PlaceMap.next {W : World} {mb n k : Nat} {names : List ByteArray} {x : ByteArray} {D : DataW Unit} (hn : names.Nodup) (hx : names[k]? = some x) (hD : IsMap D) (hh : ∀ y : ByteArray, Maps.has D (.string y.data.toList) = memB y (names.take k)) (ha : ∀ (y : ByteArray) (i : Nat), (names.take k)[i]? = some y → D.atKey (.string y.data.toList) (.lit (.int .i64 0)) = .lit (.int .i64 (i : Int)))
    (ho : W.ownsMap Tryz.prog 9 (plainElem Tryz.prog 3) mb n (D.put (.string x.data.toList) (.lit (.int .i64 (k : Int))))) : PlaceMap W mb n (names.take (k + 1)) (D.put (.string x.data.toList) (.lit (.int .i64 (k : Int)))) := by
  have e := take_next hx
  refine ⟨ho, fun y => ?_, fun y i hi => ?_⟩
  · by_cases hyx : y = x
    · subst hyx
      rw [has_put_same hD (isKey_str _), memB_yes (by rw [e]; simp)]
    · rw [has_put_other (fun h => hyx (bytes_eq (by injection h))), hh y]
      cases h : memB y (names.take k) with
      | true => rw [memB_yes (by rw [e]; exact List.mem_append_left _ (memB_iff.1 h))]
      | false => rw [memB_no (fun hm => by
          rw [e] at hm
          rcases List.mem_append.1 hm with hm | hm
          · rw [memB_yes hm] at h; cases h
          · exact hyx (List.mem_singleton.1 hm))]
  · have hik : i < k + 1 := by have := (List.getElem?_eq_some_iff.1 hi).1; rw [List.length_take] at this; omega
    have hni : names[i]? = some y := by rwa [List.getElem?_take_of_lt hik] at hi
    by_cases hyx : y = x
    · subst hyx
      have ei := nodup_inj hn hni hx
      subst ei
      rw [atKey_put_same hD (isKey_str _)]
    · rw [atKey_put_other (fun h => hyx (bytes_eq (by injection h)))]
      have hne : i ≠ k := fun e => by subst e; rw [hx] at hni; cases hni; exact hyx rfl
      exact ha y i (by rw [List.getElem?_take_of_lt (by omega)]; exact hni)
end Go.Proofs.YtoihhlkidlapmaaGreat

/- What is of a pack is in its tree. -/
namespace Go.Proofs.YtoihhlkidlapmaaGreat
open Go.ChangeShapes Go.WideShapes Go.ChangeAt Go.RowKit Go.Shelf

set_option maxRecDepth 100000 in
set_option maxHeartbeats 16000000 in
theorem walk_FnRootOwner (a0 : Option Addr) (len0 cap0 : Nat) (w : World) (h0 : Code w w.heap.size a0 len0) (hc0 : len0 ≤ cap0) :
    Calls Tryz.prog 9 #[.slice a0 len0 cap0] w fun e w' => e = .returned (.bool true) ∧ Below w.heap.size w w' := by
  have H0 := hid h0
  clear h0
  by_cases hl0 : (1048576 : Int) < len0
  · go_enter Tryz.func9, Tryz.ntmps9
    go_wp2_with fail
    go_ret
    exact ⟨rfl, Below.refl _ _⟩
  go_enter Tryz.func9, Tryz.ntmps9
  have K := hid (KW.start w)
  go_wp2_with fail
  refine (DrawRootOwner_any w a0 len0 cap0 (code_on (unhid H0) ((unhid K).now)) (by omega) hc0).mono ?_
  rintro e W1 ⟨v, ps, path, rfl, hD, hb⟩
  obtain ⟨ra, rc, rfl, hr⟩ := dr_rr hD
  have K := hid ((unhid K).step hb)
  have K := hid ((unhid K).row hr)
  clear hb hr hD
  go_wp2_with fail
  have hx0 := World.alloc_heap_new W1 (.cells #[.slice ra ps.length rc] 51)
  have hb := (Below.refl W1.heap.size W1).alloc (Nat.le_refl _) (.cells #[.slice ra ps.length rc] 51)
  generalize (W1.alloc (.cells #[.slice ra ps.length rc] 51)) = W2 at hx0 hb ⊢
  have K := hid ((unhid K).step hb)
  have K := hid ((unhid K).box hx0)
  clear hb hx0
  refine (implOwner_r ((unhid K).now.1.2) path).mono ?_
  rintro e W3 ⟨rfl, hb⟩
  have K := hid ((unhid K).step hb)
  clear hb
  obtain ⟨own, HOW⟩ : ∃ o, Hid (rootOwner_0 ⟨ps⟩ path = o) := ⟨_, hid rfl⟩
  rw [unhid HOW]
  have q1 : (own.toList != own.toList) = false := by simp
  have q2 : (own.toList == own.toList) = true := by simp
  have Brk0 := cell_arrS ((unhid K).now.2) 0 _ rfl
  go_wp2_with fail
  clear Brk0
  refine (specOwner_r ((unhid K).now.1.2) path).mono ?_
  rintro e W4 ⟨rfl, hb⟩
  have K := hid ((unhid K).step hb)
  clear hb
  rw [unhid HOW]
  have Brk0 := cell_arrS ((unhid K).now.2) 0 _ rfl
  go_wp2_with fail
  clear Brk0
  refine (specOk_r ((unhid K).now.1.2)).mono ?_
  rintro e W5 ⟨rfl, hb⟩
  have K := hid ((unhid K).step hb)
  clear hb
  obtain ⟨ok, HOK⟩ : ∃ b, Hid (rootOk_0 ⟨ps⟩ = b) := ⟨_, hid rfl⟩
  rw [unhid HOK]
  cases ok
  case false =>
    have Brk0 := cell_arrS ((unhid K).now.2) 0 _ rfl
    go_wp2_with fail
    clear Brk0
    refine (specOwner_r ((unhid K).now.1.2) path).mono ?_
    rintro e W6 ⟨rfl, hb⟩
    have K := hid ((unhid K).step hb)
    clear hb
    rw [unhid HOW]
    have Brk0 := cell_arrS ((unhid K).now.2) 0 _ rfl
    go_wp2_with fail
    clear Brk0
    go_ret
    exact ⟨rfl, (unhid K).now.1.1⟩
  case true =>
    have HL := hid (owner_law (path := path) (unhid HOK))
    rw [unhid HOW] at HL
    have Brk0 := cell_arrS ((unhid K).now.2) 0 _ rfl
    go_wp2_with fail
    clear Brk0
    refine (tree_r ((unhid K).now.1.2)).mono ?_
    rintro e W7 ⟨ta, tc, rfl, hr, hb⟩
    have K := hid ((unhid K).step hb)
    clear hb
    have K := hid ((unhid K).ents hr)
    clear hr
    have Brk0 := cell_arrS ((unhid K).now.1.2) 0 _ rfl
    go_wp2_with fail
    clear Brk0
    refine (getE_r path ((unhid K).now.2)).mono ?_
    rintro e W8 ⟨rfl, hb⟩
    have K := hid ((unhid K).step hb)
    clear hb
    obtain ⟨y, HY⟩ : ∃ y, Hid (gotE (rootTreeE ⟨ps⟩) path = y) := ⟨_, hid rfl⟩
    obtain ⟨th, HTH⟩ : ∃ b, Hid ((treeB (rootTreeE ⟨ps⟩) && thereE (rootTreeE ⟨ps⟩) path) = b) := ⟨_, hid rfl⟩
    rw [unhid HY, unhid HTH]
    rw [unhid HY, unhid HTH] at HL
    have HPK := hid ((code_iff ps).1 (ok_0.1 (unhid HOK))).1
    have hfew := ((unhid K).now.1.1.2).few
    have Brk0 := fun x => Go.Lib.cell?_alloc_some x (cell_arrS ((unhid K).now.1.2) 0 _ rfl)
    go_upto_region 8 with fail
    clear Brk0
    have hx0 := World.alloc_heap_new W8 (.cells #[.string y.path, .int .i64 y.kind, .int .i64 y.mode, .string y.text] 57)
    have hb := (Below.refl W8.heap.size W8).alloc (Nat.le_refl _) (.cells #[.string y.path, .int .i64 y.kind, .int .i64 y.mode, .string y.text] 57)
    generalize (W8.alloc (.cells #[.string y.path, .int .i64 y.kind, .int .i64 y.mode, .string y.text] 57)) = W9 at hx0 hb ⊢
    have K := hid ((unhid K).step hb)
    have K := hid ((unhid K).box hx0)
    clear hb hx0
    cases th
    case false =>
      have e0 : own = ⟨#[]⟩ := (unhid HL).1 (by simp)
      subst e0
      have Brk0 := cell_arrS ((unhid K).now.1.1.2) 0 _ rfl
      have Byk0 := cell_arrS ((unhid K).now.2) 0 _ rfl
      have Byk1 := cell_arrS ((unhid K).now.2) 1 _ rfl
      have Byk2 := cell_arrS ((unhid K).now.2) 2 _ rfl
      have Byk3 := cell_arrS ((unhid K).now.2) 3 _ rfl
      go_wp2_with fail
      clear Brk0 Byk0 Byk1 Byk2 Byk3
      go_ret
      exact ⟨rfl, (unhid K).now.1.1.1.1⟩
    case true =>
      by_cases hk : y.kind = 1
      · rw [hk] at HL
        rw [hk] at K
        have e0 : own = ⟨#[]⟩ := (unhid HL).1 (by simp)
        subst e0
        have Brk0 := cell_arrS ((unhid K).now.1.1.2) 0 _ rfl
        have Byk0 := cell_arrS ((unhid K).now.2) 0 _ rfl
        have Byk1 := cell_arrS ((unhid K).now.2) 1 _ rfl
        have Byk2 := cell_arrS ((unhid K).now.2) 2 _ rfl
        have Byk3 := cell_arrS ((unhid K).now.2) 3 _ rfl
        go_wp2_with fail
        clear Brk0 Byk0 Byk1 Byk2 Byk3
        go_ret
        exact ⟨rfl, (unhid K).now.1.1.1.1⟩
      · have hk0 : (y.kind == 1) = false := by rw [beq_eq_false_iff_ne]; exact hk
        have hl := (unhid HL).2 (by rw [hk0]; rfl)
        have q4 : own.toList.isEmpty = false := by
          rw [← Bool.not_eq_true, List.isEmpty_iff]
          intro h
          rw [Lib.toList_data] at h
          exact hl.1 (bytes_eq h)
        have HL2 := hid hl.2
        clear hl HL
        have K := hid ((unhid K).mark)
        have Brk0 := cell_arrS ((unhid K).now.1.1.1.2) 0 _ rfl
        have Byk0 := cell_arrS ((unhid K).now.1.2) 0 _ rfl
        have Byk1 := cell_arrS ((unhid K).now.1.2) 1 _ rfl
        have Byk2 := cell_arrS ((unhid K).now.1.2) 2 _ rfl
        have Byk3 := cell_arrS ((unhid K).now.1.2) 3 _ rfl
        go_wp2_with fail
        clear Brk0 Byk0 Byk1 Byk2 Byk3
        go_loopw [8, 9, 10] (fun i _ _ wr => ∃ m : Nat, m ≤ ps.length ∧ i = .int .i64 (m : Int) ∧ Hid (Below W9.heap.size W9 wr)) (fun i _ _ _ => ps.length - (intOf i).toNat)
        case atStart => exact ⟨0, Nat.zero_le _, rfl, hid (Below.refl _ _)⟩
        case round =>
          obtain ⟨m, hm, rfl, HBr⟩ := hrel
          have hb := unhid HBr
          have K := hid ((unhid K).step hb)
          clear hb HBr
          by_cases hlm : m < ps.length
          · obtain ⟨p, hp⟩ : ∃ p, ps[m]? = some p := ⟨ps[m], List.getElem?_eq_getElem hlm⟩
            obtain ⟨pb, po, na, nc, sta, stc, hra, hpa⟩ := RR.get ((unhid K).now.1.1.1.1.2) hp
            subst hra
            have K := hid ((unhid K).pa hpa)
            clear hpa
            have HQ := hid ((unhid HL2) p (List.mem_of_getElem? hp))
            clear hp
            have Brk0 := cell_arrS ((unhid K).now.1.1.1.1.2) 0 _ rfl
            have Byk0 := cell_arrS ((unhid K).now.1.1.2) 0 _ rfl
            have Byk1 := cell_arrS ((unhid K).now.1.1.2) 1 _ rfl
            have Byk2 := cell_arrS ((unhid K).now.1.1.2) 2 _ rfl
            have Byk3 := cell_arrS ((unhid K).now.1.1.2) 3 _ rfl
            have Pak0 := ((unhid K).now.2).c0
            have Pak1 := ((unhid K).now.2).c3
            go_wp2_with fail
            clear Brk0 Byk0 Byk1 Byk2 Byk3 Pak0 Pak1
            refine (getO_r path ((unhid K).now.2).pr).mono ?_
            rintro e W10 ⟨rfl, hb⟩
            have K := hid ((unhid K).step hb)
            clear hb
            rw [unhid HQ]
            obtain ⟨z, HZ⟩ : ∃ z, Hid (gotE (treeOfP p) path = z) := ⟨_, hid rfl⟩
            rw [unhid HZ]
            have q5 := txt_iff (PackD.name p) own
            generalize decide (PackD.name p = own) = bb at q5 ⊢
            have Brk0 := fun x => Go.Lib.cell?_alloc_some x (cell_arrS ((unhid K).now.1.1.1.1.2) 0 _ rfl)
            have Byk0 := fun x => Go.Lib.cell?_alloc_some x (cell_arrS ((unhid K).now.1.1.2) 0 _ rfl)
            have Byk1 := fun x => Go.Lib.cell?_alloc_some x (cell_arrS ((unhid K).now.1.1.2) 1 _ rfl)
            have Byk2 := fun x => Go.Lib.cell?_alloc_some x (cell_arrS ((unhid K).now.1.1.2) 2 _ rfl)
            have Byk3 := fun x => Go.Lib.cell?_alloc_some x (cell_arrS ((unhid K).now.1.1.2) 3 _ rfl)
            have Pak0 := fun x => Go.Lib.cell?_alloc_some x (((unhid K).now.2).c0)
            have Pak1 := fun x => Go.Lib.cell?_alloc_some x (((unhid K).now.2).c3)
            go_upto_region 14 with fail
            clear Brk0 Byk0 Byk1 Byk2 Byk3 Pak0 Pak1
            have hx0 := World.alloc_heap_new W10 (.cells #[.string z.path, .int .i64 z.kind, .int .i64 z.mode, .string z.text] 57)
            have hb := (Below.refl W10.heap.size W10).alloc (Nat.le_refl _) (.cells #[.string z.path, .int .i64 z.kind, .int .i64 z.mode, .string z.text] 57)
            generalize (W10.alloc (.cells #[.string z.path, .int .i64 z.kind, .int .i64 z.mode, .string z.text] 57)) = W11 at hx0 hb ⊢
            have K := hid ((unhid K).step hb)
            have K := hid ((unhid K).box hx0)
            clear hb hx0
            cases bb
            case false =>
              have Brk0 := cell_arrS ((unhid K).now.1.1.1.1.1.2) 0 _ rfl
              have Byk0 := cell_arrS ((unhid K).now.1.1.1.2) 0 _ rfl
              have Byk1 := cell_arrS ((unhid K).now.1.1.1.2) 1 _ rfl
              have Byk2 := cell_arrS ((unhid K).now.1.1.1.2) 2 _ rfl
              have Byk3 := cell_arrS ((unhid K).now.1.1.1.2) 3 _ rfl
              have Pak0 := ((unhid K).now.1.2).c0
              have Pak1 := ((unhid K).now.1.2).c3
              go_wp2_with fail
              clear Brk0 Byk0 Byk1 Byk2 Byk3 Pak0 Pak1
              go_roundw
              case rel => exact ⟨m + 1, by omega, by go_num, hid ((unhid K).now.1.1.2)⟩
              case measure => simp [intOf]; omega
            case true =>
              have Brk0 := cell_arrS ((unhid K).now.1.1.1.1.1.2) 0 _ rfl
              have Byk0 := cell_arrS ((unhid K).now.1.1.1.2) 0 _ rfl
              have Byk1 := cell_arrS ((unhid K).now.1.1.1.2) 1 _ rfl
              have Byk2 := cell_arrS ((unhid K).now.1.1.1.2) 2 _ rfl
              have Byk3 := cell_arrS ((unhid K).now.1.1.1.2) 3 _ rfl
              have Pak0 := ((unhid K).now.1.2).c0
              have Pak1 := ((unhid K).now.1.2).c3
              go_wp2_with fail
              clear Brk0 Byk0 Byk1 Byk2 Byk3 Pak0 Pak1
              go_roundw
              case rel => exact ⟨m + 1, by omega, by go_num, hid ((unhid K).now.1.1.2)⟩
              case measure => simp [intOf]; omega
          · have e : m = ps.length := by omega
            subst e
            have Brk0 := cell_arrS ((unhid K).now.1.1.1.2) 0 _ rfl
            have Byk0 := cell_arrS ((unhid K).now.1.2) 0 _ rfl
            have Byk1 := cell_arrS ((unhid K).now.1.2) 1 _ rfl
            have Byk2 := cell_arrS ((unhid K).now.1.2) 2 _ rfl
            have Byk3 := cell_arrS ((unhid K).now.1.2) 3 _ rfl
            go_wp2_with fail
            clear Brk0 Byk0 Byk1 Byk2 Byk3
            go_ret
            exact ⟨rfl, (unhid K).now.1.1.1.1.1⟩
end Go.Proofs.YtoihhlkidlapmaaGreat
