/- Texts of this proof, one behind the other; each says at its head what it shows. -/
import Derived.Test.YtlnehebihfeegaaJoin6
import Derived.Laws.StructEq
import Derived.Test.YtlnehebihfeegaaJoin4
/- Entries put by path, by the model. -/
namespace Go.Proofs.Ytlnehebihfeegaa
open Go.RowKit Go.Shelf

theorem ownsRow_some {W : World} {N n size : Nat} {v : Value} {e : TypeId} {xs : List Value} (h : W.ownsRow N e size v n xs) (hn : 0 < n) : ∃ g cap, v = .slice (some ⟨g, 0, none⟩) n cap := by
  rcases h.2 with ⟨rfl, h0⟩ | ⟨g, cap, cur, rfl, _⟩
  · omega
  · exact ⟨g, cap, rfl⟩
def sortL (xs : List Ent) : List Ent := xs.foldl insAt []
theorem sortL_snoc (xs : List Ent) (x : Ent) : sortL (xs ++ [x]) = insAt (sortL xs) x := by unfold sortL; rw [List.foldl_append]; rfl
theorem insAt_len (es : List Ent) (e : Ent) : (insAt es e).length = es.length + 1 := by unfold insAt; have := placeE_le es e.path; simp; omega
theorem sortL_len : ∀ xs, (sortL xs).length = xs.length := snoc_ind rfl (fun xs x ih => by rw [sortL_snoc, insAt_len, ih]; simp)

set_option maxRecDepth 100000 in
set_option maxHeartbeats 8000000 in
theorem l2Sorted_any (xs : List Ent) (b o cap : Nat) (w : World) (hn : xs.length ≤ 900) (h : ∀ (i : Nat) e, xs[i]? = some e → EntAt w b (o + i * 4) e) (hb : b < w.heap.size) :
    Calls Try.prog 88 #[.slice (some ⟨b, o, none⟩) xs.length cap] w fun x w' => ∃ v, x = .returned v ∧ w'.ownsRow w.heap.size 27 4 v (sortL xs).length (valsOf (sortL xs)) ∧ Below w.heap.size w w' := by
  obtain ⟨i0, hi0, hz0, hzs, hzb⟩ := info_parts infoEntry
  have HI := hid (And.intro hi0 (And.intro hz0 (And.intro hzs hzb)))
  have HH := hid h
  have HF0 := hid (And.intro (owns_empty w w.heap.size (Nat.le_refl _) 27) ((Below.refl w.heap.size w).alloc (Nat.le_refl _) (.cells #[] 27)))
  clear hi0 hz0 hzs hzb h
  go_enter Try.func88, Try.ntmps88
  go_wp2_with fail
  go_loopw [3, 4] (fun v i wr => ∃ j : Nat, j ≤ xs.length ∧ i = .int .i64 (j : Int) ∧ (∃ g c, v = .slice (some ⟨g, 0, none⟩) (sortL (xs.take j)).length c) ∧ Hid (wr.ownsRow w.heap.size 27 4 v (sortL (xs.take j)).length (valsOf (sortL (xs.take j)))) ∧ Hid (Below w.heap.size w wr)) (fun _ i _ => xs.length - (intOf i).toNat)
  case atStart => exact ⟨0, Nat.zero_le _, rfl, ⟨_, 0, rfl⟩, hid (by simp [sortL, valsOf]; exact (unhid HF0).1), hid (unhid HF0).2⟩
  case round =>
    obtain ⟨j, hj, rfl, ⟨g, c, rfl⟩, HO, HB⟩ := hrel
    by_cases hlt : j < xs.length
    · obtain ⟨e, he⟩ : ∃ e, xs[j]? = some e := ⟨xs[j], List.getElem?_eq_getElem hlt⟩
      have hsn : sortL (xs.take (j + 1)) = insAt (sortL (xs.take j)) e := by rw [List.take_add_one, he]; exact sortL_snoc _ _
      have hll := sortL_len (xs.take j)
      rw [List.length_take, Nat.min_eq_left (by omega)] at hll
      have hl9 : (sortL (xs.take j)).length ≤ 900 := by omega
      clear hll
      obtain ⟨c0, c1, c2, c3⟩ := ((unhid HH) j e he).below (unhid HB) hb
      have HE := hid ((unhid HH) j e he)
      obtain ⟨a1, cap1, ev, hRI⟩ := rowIn_of_owns (unhid HO)
      injection ev with ev1 ev2 ev3
      subst ev1
      have HAT := hid hRI.at
      have hcl : (sortL (xs.take j)).length ≤ c := by
        rcases (unhid HO).2 with ⟨hv, h0⟩ | ⟨g', cap', cur', hv, _, _, hcc, _⟩
        · cases hv
        · cases hv; exact hcc
      have hgl : g < wr.heap.size := by
        rcases (unhid HO).2 with ⟨hv, h0⟩ | ⟨g', cap', cur', hv, _, hh, _⟩
        · cases hv
        · cases hv; exact (Array.getElem?_eq_some_iff.1 hh).1
      have HGE := hid (show ∀ (i : Nat) x, (sortL (xs.take j))[i]? = some x → EntAt wr g (0 + i * 4) x by
        rcases unhid HAT with h0 | ⟨b', o', eb, _, hcc⟩
        · intro i x hi; rw [h0] at hi; simp at hi
        · cases eb; exact hcc)
      have AT := hid (l2At_any (sortL (xs.take j)) (some ⟨g, 0, none⟩) c e.path wr (by omega) (unhid HAT))
      have HSN0 := hid hsn
      clear hRI he hsn ev2 ev3
      generalize sortL (xs.take j) = L at *
      go_wp2_with fail
      refine (unhid AT).mono ?_
      rintro x w3 ⟨rfl, n3, e3⟩
      have hB3 : Below wr.heap.size wr w3 := by rw [e3]; exact drewN_below _ _
      have hkn : placeE L e.path ≤ L.length := placeE_le _ _
      have HSN := hid (show (sortL (xs.take (j + 1))).length = placeE L e.path + 1 + (L.length - placeE L e.path) ∧ valsOf (sortL (xs.take (j + 1))) = valsOf (L.take (placeE L e.path)) ++ valsOf [e] ++ valsOf (L.drop (placeE L e.path)) by
        rw [unhid HSN0]; refine ⟨by rw [insAt_len]; omega, ?_⟩; unfold insAt; rw [valsOf_app, valsOf_app])
      have HB2 := hid ((unhid HB).trans (hB3.mono (unhid HB).size))
      have HG3 := hid (entAt_below (unhid HGE) (.inr hgl) hB3)
      have HE3 := hid ((unhid HE).below (unhid HB2) hb)
      have hwl : w.heap.size ≤ w3.heap.size := (unhid HB2).size
      have hgl3 : g < w3.heap.size := Nat.lt_of_lt_of_le hgl hB3.size
      have hbl3 : b < w3.heap.size := Nat.lt_of_lt_of_le hb hwl
      generalize hth : thereE L e.path = th
      clear hth
      generalize placeE L e.path = k at hkn HSN ⊢
      clear hB3 e3 AT HGE HE c0 c1 c2 c3 HAT HSN0 HB HO n3 hgl
      generalize hnl : L.length = n at *
      have HNL := hid hnl
      clear hnl
      go_wp2_with fail
      have hi1 : (0 : Int) ≤ (k : Int) := by omega
      have hi2 : (k : Int) ≤ (n : Int) := by omega
      have hi3 : (k : Int) ≤ (c : Int) := by omega
      have hi4 : (n : Int) ≤ (c : Int) := by omega
      have hi5 : (0 : Int) ≤ (j : Int) := by omega
      have hi6 : (j : Int) < (xs.length : Int) := by omega
      have HC1 := hid (show ∀ W, Below w3.heap.size w3 W → ∀ j u, (valsOf (L.take k))[j]? = some u → W.cell? ((⟨g, 0, none⟩ : Addr).add j) = some u from fun W hW => ents_cells (ents_take (entAt_below (unhid HG3) (.inr hgl3) hW)))
      have HC2 := hid (show ∀ W, Below w3.heap.size w3 W → ∀ j u, (valsOf (L.drop k))[j]? = some u → W.cell? ((⟨g, offD c k, none⟩ : Addr).add j) = some u from fun W hW => ents_cells (fun i x hi => by have := ents_dropD (entAt_below (unhid HG3) (.inr hgl3) hW) (show L.length ≤ c by rw [unhid HNL]; omega) i x hi; rwa [Nat.zero_add] at this))
      have ht1 : (L.take k).length = k := by rw [List.length_take, unhid HNL]; omega
      have ht2 : (L.drop k).length = n - k := by rw [List.length_drop, unhid HNL]
      refine wp_region_held_drew (S := fun w' => Below w3.heap.size w3 w') (by kernel_rfl) (drew_below _) (fun hS => ?_)
      refine wpAnyH_take (i := 1) (v := .slice (some ⟨g, 0, none⟩) n c) rfl (by kernel_rfl) (by kernel_rfl) (by kernel_rfl) (fun _ _ _ h => h) (Or.inl ⟨by rfl, fun w' hw => by go_simp⟩) hS ?_
      refine wpAnyH_take (i := 2) (v := .int .i64 (k : Int)) rfl (by kernel_rfl) (by kernel_rfl) (by kernel_rfl) (fun _ _ _ h => h) (Or.inl ⟨by rfl, fun w' hw => by go_simp⟩) hS ?_
      refine wpAnyH_take (i := 3) (v := .slice (some ⟨g, 0, none⟩) k c) rfl (by kernel_rfl) (by kernel_rfl) (by kernel_rfl) (fun _ _ _ h => h) (Or.inl ⟨by rfl, fun w' hw => by go_simp⟩) hS ?_
      refine wpAnyH_take (i := 5) (v := .slice (some ⟨b, o, none⟩) xs.length cap) rfl (by kernel_rfl) (by kernel_rfl) (by kernel_rfl) (fun _ _ _ h => h) (Or.inl ⟨by rfl, fun w' hw => by go_simp⟩) hS ?_
      refine wpAnyH_take (i := 6) (v := .int .i64 (j : Int)) rfl (by kernel_rfl) (by kernel_rfl) (by kernel_rfl) (fun _ _ _ h => h) (Or.inl ⟨by rfl, fun w' hw => by go_simp⟩) hS ?_
      refine wpAnyH_take (i := 7) (v := .pointer (some ⟨b, o + j * 4, none⟩)) rfl (by kernel_rfl) (by kernel_rfl) (by kernel_rfl) (fun _ _ _ h => h) (Or.inl ⟨by rfl, fun w' hw => by go_simp⟩) hS ?_
      refine wpAnyH_take (i := 8) (v := .agg #[.string e.path, .int .i64 e.kind, .int .i64 e.mode, .string e.text]) rfl (by kernel_rfl) (by kernel_rfl) (by kernel_rfl) (fun _ _ _ h => h) (Or.inl ⟨by rfl, fun w' hw => by obtain ⟨k0, k1, k2, k3⟩ := (unhid HE3).below hw hbl3; go_simp⟩) hS ?_
      refine wpAnyH_take (i := 11) (v := .slice (some ⟨g, 0, none⟩) n c) rfl (by kernel_rfl) (by kernel_rfl) (by kernel_rfl) (fun _ _ _ h => h) (Or.inl ⟨by rfl, fun w' hw => by go_simp⟩) hS ?_
      refine wpAnyH_take (i := 12) (v := .int .i64 (k : Int)) rfl (by kernel_rfl) (by kernel_rfl) (by kernel_rfl) (fun _ _ _ h => h) (Or.inl ⟨by rfl, fun w' hw => by go_simp⟩) hS ?_
      refine wpAnyH_take (i := 13) (v := .slice (some ⟨g, offD c k, none⟩) (n - k) (c - k)) rfl (by kernel_rfl) (by kernel_rfl) (by kernel_rfl) (fun _ _ _ h => h) (Or.inl ⟨by rfl, fun w' hw => by 
        unfold offD
        by_cases hck : c = k
        · rw [if_pos hck]; go_simp
        · rw [if_neg hck]; go_simp⟩) hS ?_
      generalize w3.drew = W at hS ⊢
      refine wpAnyH_ready (rs := [0, 9]) (by kernel_rfl) (by simp) ?_
      refine AllReadyH.cons rfl (fun K hK => ?_) (AllReadyH.cons rfl (fun K hK => ?_) AllReadyH.nil)
      · go_simp
        have r0 := owns_empty W w3.heap.size hS.size 27
        have hS1 := hS.alloc hS.size (.cells #[] 27)
        refine hK.out _ _ hS1 (fun _ => ?_)
        clear hK K hS
        generalize W.alloc (.cells #[] 27) = W2 at hS1 r0 ⊢
        generalize W.heap.size = g0 at r0 ⊢
        have hS := hS1
        clear hS1
        refine wpAnyH_ready (rs := [4, 9]) (by kernel_rfl) (by simp) ?_
        refine AllReadyH.cons rfl (fun K hK => ?_) (AllReadyH.cons rfl (fun K hK => ?_) AllReadyH.nil)
        · refine step_append_at (by rfl) _ _ 23 (by rfl) w3.heap.size 27 i0 _ 4 48 Try.underlying23 (unhid HI).1 (unhid HI).2.1 (unhid HI).2.2.1 (unhid HI).2.2.2 rfl (by decide) (Value.slice (some ⟨g0, 0, none⟩) 0 0) (0) ([]) (by rfl) r0 ⟨g, 0, none⟩ (k) (c) (valsOf (L.take k)) (by rfl) (by rw [valsOf_len, ht1]) (unhid HC1 _ hS) (valsOf_one _) (by unfold maxLen; omega) (by omega) hS.size ?_
          intro v1 W3 r1 hg1 hat1
          rw [Nat.zero_add, List.nil_append] at r1
          obtain ⟨a1, c1, rfl⟩ := ownsRow_slice r1
          have hS1 := hS.grown hg1 hS.size (fun g eg => (r0.lt g eg).1)
          refine hK.out _ _ hS1 (fun _ => ?_)
          clear hK K hS r0 hg1 hat1
          have hS := hS1
          clear hS1
          refine wpAnyH_ready (rs := [9]) (by kernel_rfl) (by simp) ?_
          refine AllReadyH.cons rfl (fun K hK => ?_) AllReadyH.nil
          go_simp
          have o2 : OneAt (W3.alloc (.cells #[.string e.path, .int .i64 e.kind, .int .i64 e.mode, .string e.text] 27)) W3.heap.size e := World.alloc_heap_new _ _
          have hS1 := hS.alloc hS.size (.cells #[.string e.path, .int .i64 e.kind, .int .i64 e.mode, .string e.text] 27)
          have m2 : (Value.slice a1 k c1).ownBlock ≠ some W3.heap.size := fun eq => Nat.lt_irrefl _ (r1.lt _ eq).2
          have r1' := r1.alloc (.cells #[.string e.path, .int .i64 e.kind, .int .i64 e.mode, .string e.text] 27)
          clear r1
          have r1 := r1'
          clear r1'
          refine hK.out _ _ hS1 (fun _ => ?_)
          clear hK K hS
          generalize W3.alloc (.cells #[.string e.path, .int .i64 e.kind, .int .i64 e.mode, .string e.text] 27) = W4 at hS1 o2 r1 ⊢
          generalize W3.heap.size = g2 at o2 m2 ⊢
          have hS := hS1
          clear hS1
          refine wpAnyH_ready (rs := [10]) (by kernel_rfl) (by simp) ?_
          refine AllReadyH.cons rfl (fun K hK => ?_) AllReadyH.nil
          refine step_append_at (by rfl) _ _ 23 (by rfl) w3.heap.size 27 i0 _ 4 48 Try.underlying23 (unhid HI).1 (unhid HI).2.1 (unhid HI).2.2.1 (unhid HI).2.2.2 rfl (by decide) (Value.slice a1 k c1) (k) (valsOf (L.take k)) (by rfl) r1 ⟨g2, 0, none⟩ (1) (1) (valsOf [e]) (by rfl) (by rw [valsOf_len]; rfl) (o2.cells) (valsOf_one _) (by unfold maxLen; omega) (by omega) hS.size ?_
          intro v2 W5 r2 hg1 hat1
          obtain ⟨a2, c2, rfl⟩ := ownsRow_slice r2
          have hS1 := hS.grown hg1 hS.size (fun g eg => (r1.lt g eg).1)
          refine hK.out _ _ hS1 (fun _ => ?_)
          clear hK K hS r1 hg1 hat1 o2 m2
          have hS := hS1
          clear hS1
          refine wpAnyH_ready (rs := [14]) (by kernel_rfl) (by simp) ?_
          refine AllReadyH.cons rfl (fun K hK => ?_) AllReadyH.nil
          refine step_append_at (by rfl) _ _ 23 (by rfl) w3.heap.size 27 i0 _ 4 48 Try.underlying23 (unhid HI).1 (unhid HI).2.1 (unhid HI).2.2.1 (unhid HI).2.2.2 rfl (by decide) (Value.slice a2 (k + 1) c2) (k + 1) (valsOf (L.take k) ++ valsOf [e]) (by rfl) r2 ⟨g, offD c k, none⟩ ((n - k)) ((c - k)) (valsOf (L.drop k)) (by rfl) (by rw [valsOf_len, ht2]) (unhid HC2 _ hS) (valsOf_one _) (by unfold maxLen; omega) (by omega) hS.size ?_
          intro v3 W6 r3 hg1 hat1
          obtain ⟨a3, c3, rfl⟩ := ownsRow_slice r3
          have hS1 := hS.grown hg1 hS.size (fun g eg => (r2.lt g eg).1)
          refine hK.out _ _ hS1 (fun _ => ?_)
          clear hK K hS r2 hg1 hat1
          have hS := hS1
          clear hS1
          refine wpAnyH_take (i := 15) (v := .slice a3 (k + 1 + (n - k)) c3) rfl (by kernel_rfl) (by kernel_rfl) (by kernel_rfl) (fun _ _ _ h => h) (Or.inl ⟨by rfl, fun w' hw => by go_simp⟩) hS ?_
          refine wpAnyH_done (by kernel_rfl) ?_ _
          have HF := hid (show W6.ownsRow w.heap.size 27 4 (.slice a3 (k + 1 + (n - k)) c3) (sortL (xs.take (j + 1))).length (valsOf (sortL (xs.take (j + 1)))) ∧ Below w.heap.size w W6 from ⟨by rw [(unhid HSN).1, (unhid HSN).2]; exact ownsRow_base r3 (by omega), (unhid HB2).trans (hS.mono (by omega))⟩)
          obtain ⟨g3, cc3, hv3⟩ := ownsRow_some (unhid HF).1 (by rw [(unhid HSN).1]; omega)
          have HV3 := hid hv3
          clear r3 hS hv3
          go_wp2_with fail
          go_roundw
          case rel => exact ⟨j + 1, by omega, by go_num, ⟨g3, cc3, unhid HV3⟩, hid (unhid HF).1, hid (unhid HF).2⟩
          case measure => simp [intOf]; omega
        · go_simp
          have o2 : OneAt (W2.alloc (.cells #[.string e.path, .int .i64 e.kind, .int .i64 e.mode, .string e.text] 27)) W2.heap.size e := World.alloc_heap_new _ _
          have hS1 := hS.alloc hS.size (.cells #[.string e.path, .int .i64 e.kind, .int .i64 e.mode, .string e.text] 27)
          have m2 : (Value.slice (some ⟨g0, 0, none⟩) 0 0).ownBlock ≠ some W2.heap.size := fun eq => Nat.lt_irrefl _ (r0.lt _ eq).2
          have r0' := r0.alloc (.cells #[.string e.path, .int .i64 e.kind, .int .i64 e.mode, .string e.text] 27)
          clear r0
          have r0 := r0'
          clear r0'
          refine hK.out _ _ hS1 (fun _ => ?_)
          clear hK K hS
          generalize W2.alloc (.cells #[.string e.path, .int .i64 e.kind, .int .i64 e.mode, .string e.text] 27) = W3 at hS1 o2 r0 ⊢
          generalize W2.heap.size = g2 at o2 m2 ⊢
          have hS := hS1
          clear hS1
          refine wpAnyH_ready (rs := [4]) (by kernel_rfl) (by simp) ?_
          refine AllReadyH.cons rfl (fun K hK => ?_) AllReadyH.nil
          refine step_append_at (by rfl) _ _ 23 (by rfl) w3.heap.size 27 i0 _ 4 48 Try.underlying23 (unhid HI).1 (unhid HI).2.1 (unhid HI).2.2.1 (unhid HI).2.2.2 rfl (by decide) (Value.slice (some ⟨g0, 0, none⟩) 0 0) (0) ([]) (by rfl) r0 ⟨g, 0, none⟩ (k) (c) (valsOf (L.take k)) (by rfl) (by rw [valsOf_len, ht1]) (unhid HC1 _ hS) (valsOf_one _) (by unfold maxLen; omega) (by omega) hS.size ?_
          intro v1 W4 r1 hg1 hat1
          rw [Nat.zero_add, List.nil_append] at r1
          obtain ⟨a1, c1, rfl⟩ := ownsRow_slice r1
          have hS1 := hS.grown hg1 hS.size (fun g eg => (r0.lt g eg).1)
          have o2' := o2.grown hg1 (fun eq => m2 eq.symm)
          have m2' : (Value.slice a1 k c1).ownBlock ≠ some g2 := by
            rcases hat1 with h | h <;> rw [h]
            · exact m2
            · intro eq; injection eq with eq; have := o2.lt; omega
          clear o2 m2
          have o2 := o2'
          clear o2'
          have m2 := m2'
          clear m2'
          refine hK.out _ _ hS1 (fun _ => ?_)
          clear hK K hS r0 hg1 hat1
          have hS := hS1
          clear hS1
          refine wpAnyH_ready (rs := [10]) (by kernel_rfl) (by simp) ?_
          refine AllReadyH.cons rfl (fun K hK => ?_) AllReadyH.nil
          refine step_append_at (by rfl) _ _ 23 (by rfl) w3.heap.size 27 i0 _ 4 48 Try.underlying23 (unhid HI).1 (unhid HI).2.1 (unhid HI).2.2.1 (unhid HI).2.2.2 rfl (by decide) (Value.slice a1 k c1) (k) (valsOf (L.take k)) (by rfl) r1 ⟨g2, 0, none⟩ (1) (1) (valsOf [e]) (by rfl) (by rw [valsOf_len]; rfl) (o2.cells) (valsOf_one _) (by unfold maxLen; omega) (by omega) hS.size ?_
          intro v2 W5 r2 hg1 hat1
          obtain ⟨a2, c2, rfl⟩ := ownsRow_slice r2
          have hS1 := hS.grown hg1 hS.size (fun g eg => (r1.lt g eg).1)
          refine hK.out _ _ hS1 (fun _ => ?_)
          clear hK K hS r1 hg1 hat1 o2 m2
          have hS := hS1
          clear hS1
          refine wpAnyH_ready (rs := [14]) (by kernel_rfl) (by simp) ?_
          refine AllReadyH.cons rfl (fun K hK => ?_) AllReadyH.nil
          refine step_append_at (by rfl) _ _ 23 (by rfl) w3.heap.size 27 i0 _ 4 48 Try.underlying23 (unhid HI).1 (unhid HI).2.1 (unhid HI).2.2.1 (unhid HI).2.2.2 rfl (by decide) (Value.slice a2 (k + 1) c2) (k + 1) (valsOf (L.take k) ++ valsOf [e]) (by rfl) r2 ⟨g, offD c k, none⟩ ((n - k)) ((c - k)) (valsOf (L.drop k)) (by rfl) (by rw [valsOf_len, ht2]) (unhid HC2 _ hS) (valsOf_one _) (by unfold maxLen; omega) (by omega) hS.size ?_
          intro v3 W6 r3 hg1 hat1
          obtain ⟨a3, c3, rfl⟩ := ownsRow_slice r3
          have hS1 := hS.grown hg1 hS.size (fun g eg => (r2.lt g eg).1)
          refine hK.out _ _ hS1 (fun _ => ?_)
          clear hK K hS r2 hg1 hat1
          have hS := hS1
          clear hS1
          refine wpAnyH_take (i := 15) (v := .slice a3 (k + 1 + (n - k)) c3) rfl (by kernel_rfl) (by kernel_rfl) (by kernel_rfl) (fun _ _ _ h => h) (Or.inl ⟨by rfl, fun w' hw => by go_simp⟩) hS ?_
          refine wpAnyH_done (by kernel_rfl) ?_ _
          have HF := hid (show W6.ownsRow w.heap.size 27 4 (.slice a3 (k + 1 + (n - k)) c3) (sortL (xs.take (j + 1))).length (valsOf (sortL (xs.take (j + 1)))) ∧ Below w.heap.size w W6 from ⟨by rw [(unhid HSN).1, (unhid HSN).2]; exact ownsRow_base r3 (by omega), (unhid HB2).trans (hS.mono (by omega))⟩)
          obtain ⟨g3, cc3, hv3⟩ := ownsRow_some (unhid HF).1 (by rw [(unhid HSN).1]; omega)
          have HV3 := hid hv3
          clear r3 hS hv3
          go_wp2_with fail
          go_roundw
          case rel => exact ⟨j + 1, by omega, by go_num, ⟨g3, cc3, unhid HV3⟩, hid (unhid HF).1, hid (unhid HF).2⟩
          case measure => simp [intOf]; omega
      · go_simp
        have o2 : OneAt (W.alloc (.cells #[.string e.path, .int .i64 e.kind, .int .i64 e.mode, .string e.text] 27)) W.heap.size e := World.alloc_heap_new _ _
        have hS1 := hS.alloc hS.size (.cells #[.string e.path, .int .i64 e.kind, .int .i64 e.mode, .string e.text] 27)
        refine hK.out _ _ hS1 (fun _ => ?_)
        clear hK K hS
        generalize W.alloc (.cells #[.string e.path, .int .i64 e.kind, .int .i64 e.mode, .string e.text] 27) = W2 at hS1 o2 ⊢
        generalize W.heap.size = g2 at o2 ⊢
        have hS := hS1
        clear hS1
        refine wpAnyH_ready (rs := [0]) (by kernel_rfl) (by simp) ?_
        refine AllReadyH.cons rfl (fun K hK => ?_) AllReadyH.nil
        go_simp
        have r0 := owns_empty W2 w3.heap.size hS.size 27
        have hS1 := hS.alloc hS.size (.cells #[] 27)
        have o2' := o2.alloc (.cells #[] 27)
        have m2 : (Value.slice (some ⟨W2.heap.size, 0, none⟩) 0 0).ownBlock ≠ some g2 := fun eq => by injection eq with eq; have eq2 : W2.heap.size = g2 := eq; have := o2.lt; omega
        clear o2
        have o2 := o2'
        clear o2'
        refine hK.out _ _ hS1 (fun _ => ?_)
        clear hK K hS
        generalize W2.alloc (.cells #[] 27) = W3 at hS1 r0 o2 ⊢
        generalize W2.heap.size = g0 at r0 m2 ⊢
        have hS := hS1
        clear hS1
        refine wpAnyH_ready (rs := [4]) (by kernel_rfl) (by simp) ?_
        refine AllReadyH.cons rfl (fun K hK => ?_) AllReadyH.nil
        refine step_append_at (by rfl) _ _ 23 (by rfl) w3.heap.size 27 i0 _ 4 48 Try.underlying23 (unhid HI).1 (unhid HI).2.1 (unhid HI).2.2.1 (unhid HI).2.2.2 rfl (by decide) (Value.slice (some ⟨g0, 0, none⟩) 0 0) (0) ([]) (by rfl) r0 ⟨g, 0, none⟩ (k) (c) (valsOf (L.take k)) (by rfl) (by rw [valsOf_len, ht1]) (unhid HC1 _ hS) (valsOf_one _) (by unfold maxLen; omega) (by omega) hS.size ?_
        intro v1 W4 r1 hg1 hat1
        rw [Nat.zero_add, List.nil_append] at r1
        obtain ⟨a1, c1, rfl⟩ := ownsRow_slice r1
        have hS1 := hS.grown hg1 hS.size (fun g eg => (r0.lt g eg).1)
        have o2' := o2.grown hg1 (fun eq => m2 eq.symm)
        have m2' : (Value.slice a1 k c1).ownBlock ≠ some g2 := by
          rcases hat1 with h | h <;> rw [h]
          · exact m2
          · intro eq; injection eq with eq; have := o2.lt; omega
        clear o2 m2
        have o2 := o2'
        clear o2'
        have m2 := m2'
        clear m2'
        refine hK.out _ _ hS1 (fun _ => ?_)
        clear hK K hS r0 hg1 hat1
        have hS := hS1
        clear hS1
        refine wpAnyH_ready (rs := [10]) (by kernel_rfl) (by simp) ?_
        refine AllReadyH.cons rfl (fun K hK => ?_) AllReadyH.nil
        refine step_append_at (by rfl) _ _ 23 (by rfl) w3.heap.size 27 i0 _ 4 48 Try.underlying23 (unhid HI).1 (unhid HI).2.1 (unhid HI).2.2.1 (unhid HI).2.2.2 rfl (by decide) (Value.slice a1 k c1) (k) (valsOf (L.take k)) (by rfl) r1 ⟨g2, 0, none⟩ (1) (1) (valsOf [e]) (by rfl) (by rw [valsOf_len]; rfl) (o2.cells) (valsOf_one _) (by unfold maxLen; omega) (by omega) hS.size ?_
        intro v2 W5 r2 hg1 hat1
        obtain ⟨a2, c2, rfl⟩ := ownsRow_slice r2
        have hS1 := hS.grown hg1 hS.size (fun g eg => (r1.lt g eg).1)
        refine hK.out _ _ hS1 (fun _ => ?_)
        clear hK K hS r1 hg1 hat1 o2 m2
        have hS := hS1
        clear hS1
        refine wpAnyH_ready (rs := [14]) (by kernel_rfl) (by simp) ?_
        refine AllReadyH.cons rfl (fun K hK => ?_) AllReadyH.nil
        refine step_append_at (by rfl) _ _ 23 (by rfl) w3.heap.size 27 i0 _ 4 48 Try.underlying23 (unhid HI).1 (unhid HI).2.1 (unhid HI).2.2.1 (unhid HI).2.2.2 rfl (by decide) (Value.slice a2 (k + 1) c2) (k + 1) (valsOf (L.take k) ++ valsOf [e]) (by rfl) r2 ⟨g, offD c k, none⟩ ((n - k)) ((c - k)) (valsOf (L.drop k)) (by rfl) (by rw [valsOf_len, ht2]) (unhid HC2 _ hS) (valsOf_one _) (by unfold maxLen; omega) (by omega) hS.size ?_
        intro v3 W6 r3 hg1 hat1
        obtain ⟨a3, c3, rfl⟩ := ownsRow_slice r3
        have hS1 := hS.grown hg1 hS.size (fun g eg => (r2.lt g eg).1)
        refine hK.out _ _ hS1 (fun _ => ?_)
        clear hK K hS r2 hg1 hat1
        have hS := hS1
        clear hS1
        refine wpAnyH_take (i := 15) (v := .slice a3 (k + 1 + (n - k)) c3) rfl (by kernel_rfl) (by kernel_rfl) (by kernel_rfl) (fun _ _ _ h => h) (Or.inl ⟨by rfl, fun w' hw => by go_simp⟩) hS ?_
        refine wpAnyH_done (by kernel_rfl) ?_ _
        have HF := hid (show W6.ownsRow w.heap.size 27 4 (.slice a3 (k + 1 + (n - k)) c3) (sortL (xs.take (j + 1))).length (valsOf (sortL (xs.take (j + 1)))) ∧ Below w.heap.size w W6 from ⟨by rw [(unhid HSN).1, (unhid HSN).2]; exact ownsRow_base r3 (by omega), (unhid HB2).trans (hS.mono (by omega))⟩)
        obtain ⟨g3, cc3, hv3⟩ := ownsRow_some (unhid HF).1 (by rw [(unhid HSN).1]; omega)
        have HV3 := hid hv3
        clear r3 hS hv3
        go_wp2_with fail
        go_roundw
        case rel => exact ⟨j + 1, by omega, by go_num, ⟨g3, cc3, unhid HV3⟩, hid (unhid HF).1, hid (unhid HF).2⟩
        case measure => simp [intOf]; omega
    · have e : j = xs.length := by omega
      subst e
      rw [List.take_of_length_le (Nat.le_refl _)] at HO ⊢
      go_wp2_with fail
      go_ret
      exact ⟨_, rfl, unhid HO, unhid HB⟩
end Go.Proofs.Ytlnehebihfeegaa

/- Two trees in one, by the model. -/
namespace Go.Proofs.Ytlnehebihfeegaa
open Go.RowKit Go.Shelf

/-- Whether two entries are the same, as the language compares them. -/
def eqV (x y : Ent) : Bool := x.path == y.path && (x.kind == y.kind && (x.mode == y.mode && x.text == y.text))
theorem beqS_iff (a b : ByteArray) : (a == b) = true ↔ a = b := by
  rw [beq_toListBytes]
  exact eqS_iff a b
theorem in_str (d : Nat) (a b : ByteArray) (w : World) : (Op.equalIn (d + 1) 9 (.string a) (.string b)).run Try.prog w = .ok (a == b) w := by
  simp [Op.equalIn, run_underlying Try.underlying9]
theorem in_ent (d : Nat) (x y : Ent) (w : World) : (Op.equalIn (d + 1 + 1) 27 (.agg x.vals) (.agg y.vals)).run Try.prog w = .ok (eqV x y) w := by
  obtain ⟨p, k, m, t⟩ := x
  obtain ⟨p2, k2, m2, t2⟩ := y
  have h0 : (program).run Try.prog w = .ok Try.prog w := by kernel_rfl
  have h1 : Try.prog.stoodInHeld 27 = false := by kernel_rfl
  have e0 : ∀ (p : ByteArray) (k m : Int) (t : ByteArray), (part 9 #[.string p, .int .i64 k, .int .i64 m, .string t] 0).run Try.prog w = .ok (.string p) w := fun p k m t => by kernel_rfl
  have e1 : ∀ (p : ByteArray) (k m : Int) (t : ByteArray), (part 3 #[.string p, .int .i64 k, .int .i64 m, .string t] 1).run Try.prog w = .ok (.int .i64 k) w := fun p k m t => by kernel_rfl
  have e2 : ∀ (p : ByteArray) (k m : Int) (t : ByteArray), (part 3 #[.string p, .int .i64 k, .int .i64 m, .string t] 2).run Try.prog w = .ok (.int .i64 m) w := fun p k m t => by kernel_rfl
  have e3 : ∀ (p : ByteArray) (k m : Int) (t : ByteArray), (part 9 #[.string p, .int .i64 k, .int .i64 m, .string t] 3).run Try.prog w = .ok (.string t) w := fun p k m t => by kernel_rfl
  unfold Ent.vals eqV
  unfold Op.equalIn
  simp only [Sem.run_bind, run_underlying Try.underlying27, Result.andThen_ok, h0, h1, Bool.false_eq_true, if_false, List.forIn_toArray, List.forIn_cons, List.forIn_nil]
  rw [if_pos (by decide)]
  simp only [Sem.run_bind, e0, in_str, Result.andThen_ok]
  cases (p == p2)
  · simp [Sem.run_pure]
  · simp only [Bool.not_true, Bool.false_eq_true, if_false, Sem.run_pure, Result.andThen_ok]
    rw [if_pos (by decide)]
    simp only [Sem.run_bind, e1, in_int, Result.andThen_ok]
    cases (k == k2)
    · simp [Sem.run_pure]
    · simp only [Bool.not_true, Bool.false_eq_true, if_false, Sem.run_pure, Result.andThen_ok]
      rw [if_pos (by decide)]
      simp only [Sem.run_bind, e2, in_int, Result.andThen_ok]
      cases (m == m2)
      · simp [Sem.run_pure]
      · simp only [Bool.not_true, Bool.false_eq_true, if_false, Sem.run_pure, Result.andThen_ok]
        rw [if_pos (by decide)]
        simp only [Sem.run_bind, e3, in_str, Result.andThen_ok]
        cases (t == t2) <;> simp [Sem.run_pure]
theorem ne_ents (x y : Ent) (w : World) : (binOp .neq 27 (.agg x.vals) (.agg y.vals)).run Try.prog w = .ok (.bool (!eqV x y)) w := by
  simp only [binOp]
  simp [Op.equal, Op.maxDepth, in_ent 9998]
theorem same_eq {x old : Ent} (hx : entB x = true) (ho : entB old = true) (hp : old.path = x.path) : sameB old x = (old.kind == 1 && eqV x old) := by
  unfold sameB eqV
  cases hk : (old.kind == 1)
  · rfl
  · have hk1 : old.kind = 1 := by simpa using hk
    have hto : old.text.data.toList = [] := by unfold entB at ho; rw [if_pos hk1] at ho; simp only [Bool.and_eq_true] at ho; have := ho.2.2; simpa using this
    rw [hp, hk1]
    cases hkx : (x.kind == 1)
    · simp
    · have hx1 : x.kind = 1 := by simpa using hkx
      have htx : x.text.data.toList = [] := by unfold entB at hx; rw [if_pos hx1] at hx; simp only [Bool.and_eq_true] at hx; have := hx.2.2; simpa using this
      have htt : x.text = old.text := ByteArray.ext (Array.ext' (by rw [htx, hto]))
      have hm : (old.mode == x.mode) = (x.mode == old.mode) := by rw [Bool.eq_iff_iff, beq_iff_eq, beq_iff_eq]; exact ⟨fun h => h.symm, fun h => h.symm⟩
      rw [htt, hm, (beqS_iff _ _).2 rfl, (beqS_iff _ _).2 rfl]
      simp
theorem eqV_eq {x y : Ent} (h : eqV x y = true) : x = y := by
  unfold eqV at h
  simp only [Bool.and_eq_true] at h
  obtain ⟨h1, h2, h3, h4⟩ := h
  have e1 := (beqS_iff _ _).1 h1
  have e4 := (beqS_iff _ _).1 h4
  have e2 := eq_of_beq h2
  have e3 := eq_of_beq h3
  cases x; cases y; dsimp only at e1 e2 e3 e4; subst e1 e2 e3 e4; rfl
theorem put_same {L : List Ent} {x : Ent} (hth : thereE L x.path = true) (he : entFn L (placeE L x.path) = x) : putT L x = L := by
  obtain ⟨old, hold, _⟩ := there_get hth
  rw [entFn_get hold] at he
  subst he
  unfold putT
  rw [hth, if_pos rfl]
  apply List.ext_getElem?
  intro i
  rw [List.getElem?_set]
  split
  · rename_i hi
    subst hi
    rw [if_pos (List.getElem?_eq_some_iff.1 hold).1, hold]
  · rfl
theorem put_new {L : List Ent} {x : Ent} (hth : thereE L x.path = false) : putT L x = insAt L x := by unfold putT; rw [hth]; rfl
def joinL (es fs : List Ent) : List Ent := if okJ es fs then joinTo es fs else []

set_option maxRecDepth 100000 in
set_option maxHeartbeats 8000000 in
theorem l2Join_any (es fs : List Ent) (b o cap b2 o2 cap2 : Nat) (w : World) (hte : treeB es = true) (htf : treeB fs = true) (h : ∀ (i : Nat) e, es[i]? = some e → EntAt w b (o + i * 4) e) (hb : b < w.heap.size) (hf : ∀ (i : Nat) e, fs[i]? = some e → EntAt w b2 (o2 + i * 4) e) (hb2 : b2 < w.heap.size) :
    Calls Try.prog 66 #[.slice (some ⟨b, o, none⟩) es.length cap, .slice (some ⟨b2, o2, none⟩) fs.length cap2] w fun x w' => ∃ v, x = .returned (.tuple #[v, .bool (okJ es fs && treeB (joinTo es fs))]) ∧ w'.ownsRow w.heap.size 27 4 v (joinL es fs).length (valsOf (joinL es fs)) ∧ Below w.heap.size w w' := by
  obtain ⟨i0, hi0, hz0, hzs, hzb⟩ := info_parts infoEntry
  have HI := hid (And.intro hi0 (And.intro hz0 (And.intro hzs hzb)))
  have hle := tree_16 hte
  have hlf := tree_16 htf
  have hae := tree_all hte
  have haf := tree_all htf
  have HH := hid hf
  have HC := hid (l2Copy_some es b o cap w (by omega) h (.inr hb))
  clear hi0 hz0 hzs hzb h hf hb
  go_enter Try.func66, Try.ntmps66
  go_wp2_with fail
  refine (unhid HC).mono ?_
  rintro x w1 ⟨g1, c1, rfl, hown, hB1⟩
  have HF0 := hid (And.intro hown hB1)
  clear hown hB1 HC
  go_wp2_with fail
  go_loopw [6, 7] (fun v i wr => ∃ j : Nat, j ≤ fs.length ∧ i = .int .i64 (j : Int) ∧ (∃ g c, v = .slice (some ⟨g, 0, none⟩) (joinTo es (fs.take j)).length c) ∧ Hid (wr.ownsRow w.heap.size 27 4 v (joinTo es (fs.take j)).length (valsOf (joinTo es (fs.take j)))) ∧ Hid (okJ es (fs.take j) = true) ∧ Hid (Below w.heap.size w wr)) (fun _ i _ => fs.length - (intOf i).toNat)
  case atStart => exact ⟨0, Nat.zero_le _, rfl, ⟨g1, c1, rfl⟩, hid (unhid HF0).1, hid rfl, hid (unhid HF0).2⟩
  case round =>
    obtain ⟨j, hj, rfl, ⟨g, c, rfl⟩, HO, HA, HB⟩ := hrel
    by_cases hlt : j < fs.length
    · obtain ⟨e, he⟩ : ∃ e, fs[j]? = some e := ⟨fs[j], List.getElem?_eq_getElem hlt⟩
      have hsn : joinTo es (fs.take (j + 1)) = putT (joinTo es (fs.take j)) e := by rw [List.take_add_one, he]; exact joinTo_snoc _ _ _
      have hon : okJ es (fs.take (j + 1)) = (okJ es (fs.take j) && stepJ (joinTo es (fs.take j)) e) := by rw [List.take_add_one, he]; exact okJ_snoc _ _ _
      have hl9 : (joinTo es (fs.take j)).length ≤ 900 := by have := joinTo_len es (fs.take j); rw [List.length_take] at this; omega
      have hall : ∀ x ∈ joinTo es (fs.take j), entB x = true := fun x hx => by
        rcases joinTo_mem es _ x hx with h | h
        · exact hae x h
        · exact haf x (List.mem_of_mem_take h)
      have hxe := haf e (List.mem_of_getElem? he)
      have hpr : okJ es (fs.take (j + 1)) = false → okJ es fs = false := okJ_prefix (List.take_prefix _ _)
      obtain ⟨c0, c1', c2, c3⟩ := ((unhid HH) j e he).below (unhid HB) hb2
      have HE := hid ((unhid HH) j e he)
      obtain ⟨a1, cap1, ev, hRI⟩ := rowIn_of_owns (unhid HO)
      injection ev with ev1 ev2 ev3
      subst ev1
      have HAT := hid hRI.at
      have hcl : (joinTo es (fs.take j)).length ≤ c := by
        rcases (unhid HO).2 with ⟨hv, h0⟩ | ⟨g', cap', cur', hv, _, _, hcc, _⟩
        · cases hv
        · cases hv; exact hcc
      have hgl : g < wr.heap.size := by
        rcases (unhid HO).2 with ⟨hv, h0⟩ | ⟨g', cap', cur', hv, _, hh, _⟩
        · cases hv
        · cases hv; exact (Array.getElem?_eq_some_iff.1 hh).1
      have HGE := hid (show ∀ (i : Nat) x, (joinTo es (fs.take j))[i]? = some x → EntAt wr g (0 + i * 4) x by
        rcases unhid HAT with h0 | ⟨b', o', eb, _, hcc⟩
        · intro i x hi; rw [h0] at hi; simp at hi
        · cases eb; exact hcc)
      have AT := hid (l2At_any (joinTo es (fs.take j)) (some ⟨g, 0, none⟩) c e.path wr (by omega) (unhid HAT))
      have HSN0 := hid (And.intro hsn (And.intro hon hpr))
      have HXE := hid (And.intro hxe hall)
      clear hRI he hsn hon hpr hall hxe ev2 ev3
      generalize joinTo es (fs.take j) = L at *
      go_wp2_with fail
      refine (unhid AT).mono ?_
      rintro x w3 ⟨rfl, n3, e3⟩
      have hB3 : Below wr.heap.size wr w3 := by rw [e3]; exact drewN_below _ _
      have hkn : placeE L e.path ≤ L.length := placeE_le _ _
      have HB2 := hid ((unhid HB).trans (hB3.mono (unhid HB).size))
      have HG3 := hid (entAt_below (unhid HGE) (.inr hgl) hB3)
      have HE3 := hid ((unhid HE).below (unhid HB2) hb2)
      have HO3 := hid (ownsRow_kept (unhid HO) (fun g eg => hB3.block g ((unhid HO).lt g eg).2))
      have hwl : w.heap.size ≤ w3.heap.size := (unhid HB2).size
      have hgl3 : g < w3.heap.size := Nat.lt_of_lt_of_le hgl hB3.size
      have hbl3 : b2 < w3.heap.size := Nat.lt_of_lt_of_le hb2 hwl
      clear hB3 e3 AT HGE HE c0 c1' c2 c3 HAT HB HO n3 hgl
      cases hth : thereE L e.path
      · have HSN := hid (show (joinTo es (fs.take (j + 1))).length = placeE L e.path + 1 + (L.length - placeE L e.path) ∧ valsOf (joinTo es (fs.take (j + 1))) = valsOf (L.take (placeE L e.path)) ++ valsOf [e] ++ valsOf (L.drop (placeE L e.path)) by
          rw [(unhid HSN0).1, put_new hth]; refine ⟨by rw [insAt_len]; omega, ?_⟩; unfold insAt; rw [valsOf_app, valsOf_app])
        have HOK := hid (show okJ es (fs.take (j + 1)) = true by rw [(unhid HSN0).2.1, unhid HA]; unfold stepJ; rw [hth]; rfl)
        clear hth HSN0 HXE HO3
        generalize placeE L e.path = k at hkn HSN ⊢
        generalize hnl : L.length = n at *
        have HNL := hid hnl
        clear hnl
        go_wp2_with fail
        go_quiet (fail)
        have hBq : Below w3.heap.size w3 (w3.drewN nq) := drewN_below _ _
        have HB2' := hid ((unhid HB2).trans (hBq.mono hwl))
        have HG3' := hid (entAt_below (unhid HG3) (.inr hgl3) hBq)
        have HE3' := hid ((unhid HE3).below hBq hbl3)
        have hwl' : w.heap.size ≤ (w3.drewN nq).heap.size := hwl
        have hgl3' : g < (w3.drewN nq).heap.size := hgl3
        have hbl3' : b2 < (w3.drewN nq).heap.size := hbl3
        clear hBq HB2 HG3 HE3 hwl hgl3 hbl3
        have HB2 := HB2'; have HG3 := HG3'; have HE3 := HE3'; have hwl := hwl'; have hgl3 := hgl3'; have hbl3 := hbl3'
        clear HB2' HG3' HE3' hwl' hgl3' hbl3'
        generalize w3.drewN nq = w3 at *
        go_wp2_with fail
        have hi1 : (0 : Int) ≤ (k : Int) := by omega
        have hi2 : (k : Int) ≤ (n : Int) := by omega
        have hi3 : (k : Int) ≤ (c : Int) := by omega
        have hi4 : (n : Int) ≤ (c : Int) := by omega
        have hi5 : (0 : Int) ≤ (j : Int) := by omega
        have hi6 : (j : Int) < (fs.length : Int) := by omega
        have HC1 := hid (show ∀ W, Below w3.heap.size w3 W → ∀ j u, (valsOf (L.take k))[j]? = some u → W.cell? ((⟨g, 0, none⟩ : Addr).add j) = some u from fun W hW => ents_cells (ents_take (entAt_below (unhid HG3) (.inr hgl3) hW)))
        have HC2 := hid (show ∀ W, Below w3.heap.size w3 W → ∀ j u, (valsOf (L.drop k))[j]? = some u → W.cell? ((⟨g, offD c k, none⟩ : Addr).add j) = some u from fun W hW => ents_cells (fun i x hi => by have := ents_dropD (entAt_below (unhid HG3) (.inr hgl3) hW) (show L.length ≤ c by rw [unhid HNL]; omega) i x hi; rwa [Nat.zero_add] at this))
        have ht1 : (L.take k).length = k := by rw [List.length_take, unhid HNL]; omega
        have ht2 : (L.drop k).length = n - k := by rw [List.length_drop, unhid HNL]
        refine wp_region_held_drew (S := fun w' => Below w3.heap.size w3 w') (by kernel_rfl) (drew_below _) (fun hS => ?_)
        refine wpAnyH_take (i := 1) (v := .slice (some ⟨g, 0, none⟩) n c) rfl (by kernel_rfl) (by kernel_rfl) (by kernel_rfl) (fun _ _ _ h => h) (Or.inl ⟨by rfl, fun w' hw => by go_simp⟩) hS ?_
        refine wpAnyH_take (i := 2) (v := .int .i64 (k : Int)) rfl (by kernel_rfl) (by kernel_rfl) (by kernel_rfl) (fun _ _ _ h => h) (Or.inl ⟨by rfl, fun w' hw => by go_simp⟩) hS ?_
        refine wpAnyH_take (i := 3) (v := .slice (some ⟨g, 0, none⟩) k c) rfl (by kernel_rfl) (by kernel_rfl) (by kernel_rfl) (fun _ _ _ h => h) (Or.inl ⟨by rfl, fun w' hw => by go_simp⟩) hS ?_
        refine wpAnyH_take (i := 5) (v := .slice (some ⟨b2, o2, none⟩) fs.length cap2) rfl (by kernel_rfl) (by kernel_rfl) (by kernel_rfl) (fun _ _ _ h => h) (Or.inl ⟨by rfl, fun w' hw => by go_simp⟩) hS ?_
        refine wpAnyH_take (i := 6) (v := .int .i64 (j : Int)) rfl (by kernel_rfl) (by kernel_rfl) (by kernel_rfl) (fun _ _ _ h => h) (Or.inl ⟨by rfl, fun w' hw => by go_simp⟩) hS ?_
        refine wpAnyH_take (i := 7) (v := .pointer (some ⟨b2, o2 + j * 4, none⟩)) rfl (by kernel_rfl) (by kernel_rfl) (by kernel_rfl) (fun _ _ _ h => h) (Or.inl ⟨by rfl, fun w' hw => by go_simp⟩) hS ?_
        refine wpAnyH_take (i := 8) (v := .agg #[.string e.path, .int .i64 e.kind, .int .i64 e.mode, .string e.text]) rfl (by kernel_rfl) (by kernel_rfl) (by kernel_rfl) (fun _ _ _ h => h) (Or.inl ⟨by rfl, fun w' hw => by obtain ⟨k0, k1, k2, k3⟩ := (unhid HE3).below hw hbl3; go_simp⟩) hS ?_
        refine wpAnyH_take (i := 11) (v := .slice (some ⟨g, 0, none⟩) n c) rfl (by kernel_rfl) (by kernel_rfl) (by kernel_rfl) (fun _ _ _ h => h) (Or.inl ⟨by rfl, fun w' hw => by go_simp⟩) hS ?_
        refine wpAnyH_take (i := 12) (v := .int .i64 (k : Int)) rfl (by kernel_rfl) (by kernel_rfl) (by kernel_rfl) (fun _ _ _ h => h) (Or.inl ⟨by rfl, fun w' hw => by go_simp⟩) hS ?_
        refine wpAnyH_take (i := 13) (v := .slice (some ⟨g, offD c k, none⟩) (n - k) (c - k)) rfl (by kernel_rfl) (by kernel_rfl) (by kernel_rfl) (fun _ _ _ h => h) (Or.inl ⟨by rfl, fun w' hw => by 
          unfold offD
          by_cases hck : c = k
          · rw [if_pos hck]; go_simp
          · rw [if_neg hck]; go_simp⟩) hS ?_
        generalize w3.drew = W at hS ⊢
        refine wpAnyH_ready (rs := [0, 9]) (by kernel_rfl) (by simp) ?_
        refine AllReadyH.cons rfl (fun K hK => ?_) (AllReadyH.cons rfl (fun K hK => ?_) AllReadyH.nil)
        · go_simp
          have r0 := owns_empty W w3.heap.size hS.size 27
          have hS1 := hS.alloc hS.size (.cells #[] 27)
          refine hK.out _ _ hS1 (fun _ => ?_)
          clear hK K hS
          generalize W.alloc (.cells #[] 27) = W2 at hS1 r0 ⊢
          generalize W.heap.size = g0 at r0 ⊢
          have hS := hS1
          clear hS1
          refine wpAnyH_ready (rs := [4, 9]) (by kernel_rfl) (by simp) ?_
          refine AllReadyH.cons rfl (fun K hK => ?_) (AllReadyH.cons rfl (fun K hK => ?_) AllReadyH.nil)
          · refine step_append_at (by rfl) _ _ 23 (by rfl) w3.heap.size 27 i0 _ 4 48 Try.underlying23 (unhid HI).1 (unhid HI).2.1 (unhid HI).2.2.1 (unhid HI).2.2.2 rfl (by decide) (Value.slice (some ⟨g0, 0, none⟩) 0 0) (0) ([]) (by rfl) r0 ⟨g, 0, none⟩ (k) (c) (valsOf (L.take k)) (by rfl) (by rw [valsOf_len, ht1]) (unhid HC1 _ hS) (valsOf_one _) (by unfold maxLen; omega) (by omega) hS.size ?_
            intro v1 W3 r1 hg1 hat1
            rw [Nat.zero_add, List.nil_append] at r1
            obtain ⟨a1, c1, rfl⟩ := ownsRow_slice r1
            have hS1 := hS.grown hg1 hS.size (fun g eg => (r0.lt g eg).1)
            refine hK.out _ _ hS1 (fun _ => ?_)
            clear hK K hS r0 hg1 hat1
            have hS := hS1
            clear hS1
            refine wpAnyH_ready (rs := [9]) (by kernel_rfl) (by simp) ?_
            refine AllReadyH.cons rfl (fun K hK => ?_) AllReadyH.nil
            go_simp
            have o2 : OneAt (W3.alloc (.cells #[.string e.path, .int .i64 e.kind, .int .i64 e.mode, .string e.text] 27)) W3.heap.size e := World.alloc_heap_new _ _
            have hS1 := hS.alloc hS.size (.cells #[.string e.path, .int .i64 e.kind, .int .i64 e.mode, .string e.text] 27)
            have m2 : (Value.slice a1 k c1).ownBlock ≠ some W3.heap.size := fun eq => Nat.lt_irrefl _ (r1.lt _ eq).2
            have r1' := r1.alloc (.cells #[.string e.path, .int .i64 e.kind, .int .i64 e.mode, .string e.text] 27)
            clear r1
            have r1 := r1'
            clear r1'
            refine hK.out _ _ hS1 (fun _ => ?_)
            clear hK K hS
            generalize W3.alloc (.cells #[.string e.path, .int .i64 e.kind, .int .i64 e.mode, .string e.text] 27) = W4 at hS1 o2 r1 ⊢
            generalize W3.heap.size = g2 at o2 m2 ⊢
            have hS := hS1
            clear hS1
            refine wpAnyH_ready (rs := [10]) (by kernel_rfl) (by simp) ?_
            refine AllReadyH.cons rfl (fun K hK => ?_) AllReadyH.nil
            refine step_append_at (by rfl) _ _ 23 (by rfl) w3.heap.size 27 i0 _ 4 48 Try.underlying23 (unhid HI).1 (unhid HI).2.1 (unhid HI).2.2.1 (unhid HI).2.2.2 rfl (by decide) (Value.slice a1 k c1) (k) (valsOf (L.take k)) (by rfl) r1 ⟨g2, 0, none⟩ (1) (1) (valsOf [e]) (by rfl) (by rw [valsOf_len]; rfl) (o2.cells) (valsOf_one _) (by unfold maxLen; omega) (by omega) hS.size ?_
            intro v2 W5 r2 hg1 hat1
            obtain ⟨a2, c2, rfl⟩ := ownsRow_slice r2
            have hS1 := hS.grown hg1 hS.size (fun g eg => (r1.lt g eg).1)
            refine hK.out _ _ hS1 (fun _ => ?_)
            clear hK K hS r1 hg1 hat1 o2 m2
            have hS := hS1
            clear hS1
            refine wpAnyH_ready (rs := [14]) (by kernel_rfl) (by simp) ?_
            refine AllReadyH.cons rfl (fun K hK => ?_) AllReadyH.nil
            refine step_append_at (by rfl) _ _ 23 (by rfl) w3.heap.size 27 i0 _ 4 48 Try.underlying23 (unhid HI).1 (unhid HI).2.1 (unhid HI).2.2.1 (unhid HI).2.2.2 rfl (by decide) (Value.slice a2 (k + 1) c2) (k + 1) (valsOf (L.take k) ++ valsOf [e]) (by rfl) r2 ⟨g, offD c k, none⟩ ((n - k)) ((c - k)) (valsOf (L.drop k)) (by rfl) (by rw [valsOf_len, ht2]) (unhid HC2 _ hS) (valsOf_one _) (by unfold maxLen; omega) (by omega) hS.size ?_
            intro v3 W6 r3 hg1 hat1
            obtain ⟨a3, c3, rfl⟩ := ownsRow_slice r3
            have hS1 := hS.grown hg1 hS.size (fun g eg => (r2.lt g eg).1)
            refine hK.out _ _ hS1 (fun _ => ?_)
            clear hK K hS r2 hg1 hat1
            have hS := hS1
            clear hS1
            refine wpAnyH_take (i := 15) (v := .slice a3 (k + 1 + (n - k)) c3) rfl (by kernel_rfl) (by kernel_rfl) (by kernel_rfl) (fun _ _ _ h => h) (Or.inl ⟨by rfl, fun w' hw => by go_simp⟩) hS ?_
            refine wpAnyH_done (by kernel_rfl) ?_ _
            have HF := hid (show W6.ownsRow w.heap.size 27 4 (.slice a3 (k + 1 + (n - k)) c3) (joinTo es (fs.take (j + 1))).length (valsOf (joinTo es (fs.take (j + 1)))) ∧ Below w.heap.size w W6 from ⟨by rw [(unhid HSN).1, (unhid HSN).2]; exact ownsRow_base r3 (by omega), (unhid HB2).trans (hS.mono (by omega))⟩)
            obtain ⟨g3, cc3, hv3⟩ := ownsRow_some (unhid HF).1 (by rw [(unhid HSN).1]; omega)
            have HV3 := hid hv3
            clear r3 hS hv3
            go_wp2_with fail
            go_roundw
            case rel => exact ⟨j + 1, by omega, by go_num, ⟨g3, cc3, unhid HV3⟩, hid (unhid HF).1, HOK, hid (unhid HF).2⟩
            case measure => simp [intOf]; omega
          · go_simp
            have o2 : OneAt (W2.alloc (.cells #[.string e.path, .int .i64 e.kind, .int .i64 e.mode, .string e.text] 27)) W2.heap.size e := World.alloc_heap_new _ _
            have hS1 := hS.alloc hS.size (.cells #[.string e.path, .int .i64 e.kind, .int .i64 e.mode, .string e.text] 27)
            have m2 : (Value.slice (some ⟨g0, 0, none⟩) 0 0).ownBlock ≠ some W2.heap.size := fun eq => Nat.lt_irrefl _ (r0.lt _ eq).2
            have r0' := r0.alloc (.cells #[.string e.path, .int .i64 e.kind, .int .i64 e.mode, .string e.text] 27)
            clear r0
            have r0 := r0'
            clear r0'
            refine hK.out _ _ hS1 (fun _ => ?_)
            clear hK K hS
            generalize W2.alloc (.cells #[.string e.path, .int .i64 e.kind, .int .i64 e.mode, .string e.text] 27) = W3 at hS1 o2 r0 ⊢
            generalize W2.heap.size = g2 at o2 m2 ⊢
            have hS := hS1
            clear hS1
            refine wpAnyH_ready (rs := [4]) (by kernel_rfl) (by simp) ?_
            refine AllReadyH.cons rfl (fun K hK => ?_) AllReadyH.nil
            refine step_append_at (by rfl) _ _ 23 (by rfl) w3.heap.size 27 i0 _ 4 48 Try.underlying23 (unhid HI).1 (unhid HI).2.1 (unhid HI).2.2.1 (unhid HI).2.2.2 rfl (by decide) (Value.slice (some ⟨g0, 0, none⟩) 0 0) (0) ([]) (by rfl) r0 ⟨g, 0, none⟩ (k) (c) (valsOf (L.take k)) (by rfl) (by rw [valsOf_len, ht1]) (unhid HC1 _ hS) (valsOf_one _) (by unfold maxLen; omega) (by omega) hS.size ?_
            intro v1 W4 r1 hg1 hat1
            rw [Nat.zero_add, List.nil_append] at r1
            obtain ⟨a1, c1, rfl⟩ := ownsRow_slice r1
            have hS1 := hS.grown hg1 hS.size (fun g eg => (r0.lt g eg).1)
            have o2' := o2.grown hg1 (fun eq => m2 eq.symm)
            have m2' : (Value.slice a1 k c1).ownBlock ≠ some g2 := by
              rcases hat1 with h | h <;> rw [h]
              · exact m2
              · intro eq; injection eq with eq; have := o2.lt; omega
            clear o2 m2
            have o2 := o2'
            clear o2'
            have m2 := m2'
            clear m2'
            refine hK.out _ _ hS1 (fun _ => ?_)
            clear hK K hS r0 hg1 hat1
            have hS := hS1
            clear hS1
            refine wpAnyH_ready (rs := [10]) (by kernel_rfl) (by simp) ?_
            refine AllReadyH.cons rfl (fun K hK => ?_) AllReadyH.nil
            refine step_append_at (by rfl) _ _ 23 (by rfl) w3.heap.size 27 i0 _ 4 48 Try.underlying23 (unhid HI).1 (unhid HI).2.1 (unhid HI).2.2.1 (unhid HI).2.2.2 rfl (by decide) (Value.slice a1 k c1) (k) (valsOf (L.take k)) (by rfl) r1 ⟨g2, 0, none⟩ (1) (1) (valsOf [e]) (by rfl) (by rw [valsOf_len]; rfl) (o2.cells) (valsOf_one _) (by unfold maxLen; omega) (by omega) hS.size ?_
            intro v2 W5 r2 hg1 hat1
            obtain ⟨a2, c2, rfl⟩ := ownsRow_slice r2
            have hS1 := hS.grown hg1 hS.size (fun g eg => (r1.lt g eg).1)
            refine hK.out _ _ hS1 (fun _ => ?_)
            clear hK K hS r1 hg1 hat1 o2 m2
            have hS := hS1
            clear hS1
            refine wpAnyH_ready (rs := [14]) (by kernel_rfl) (by simp) ?_
            refine AllReadyH.cons rfl (fun K hK => ?_) AllReadyH.nil
            refine step_append_at (by rfl) _ _ 23 (by rfl) w3.heap.size 27 i0 _ 4 48 Try.underlying23 (unhid HI).1 (unhid HI).2.1 (unhid HI).2.2.1 (unhid HI).2.2.2 rfl (by decide) (Value.slice a2 (k + 1) c2) (k + 1) (valsOf (L.take k) ++ valsOf [e]) (by rfl) r2 ⟨g, offD c k, none⟩ ((n - k)) ((c - k)) (valsOf (L.drop k)) (by rfl) (by rw [valsOf_len, ht2]) (unhid HC2 _ hS) (valsOf_one _) (by unfold maxLen; omega) (by omega) hS.size ?_
            intro v3 W6 r3 hg1 hat1
            obtain ⟨a3, c3, rfl⟩ := ownsRow_slice r3
            have hS1 := hS.grown hg1 hS.size (fun g eg => (r2.lt g eg).1)
            refine hK.out _ _ hS1 (fun _ => ?_)
            clear hK K hS r2 hg1 hat1
            have hS := hS1
            clear hS1
            refine wpAnyH_take (i := 15) (v := .slice a3 (k + 1 + (n - k)) c3) rfl (by kernel_rfl) (by kernel_rfl) (by kernel_rfl) (fun _ _ _ h => h) (Or.inl ⟨by rfl, fun w' hw => by go_simp⟩) hS ?_
            refine wpAnyH_done (by kernel_rfl) ?_ _
            have HF := hid (show W6.ownsRow w.heap.size 27 4 (.slice a3 (k + 1 + (n - k)) c3) (joinTo es (fs.take (j + 1))).length (valsOf (joinTo es (fs.take (j + 1)))) ∧ Below w.heap.size w W6 from ⟨by rw [(unhid HSN).1, (unhid HSN).2]; exact ownsRow_base r3 (by omega), (unhid HB2).trans (hS.mono (by omega))⟩)
            obtain ⟨g3, cc3, hv3⟩ := ownsRow_some (unhid HF).1 (by rw [(unhid HSN).1]; omega)
            have HV3 := hid hv3
            clear r3 hS hv3
            go_wp2_with fail
            go_roundw
            case rel => exact ⟨j + 1, by omega, by go_num, ⟨g3, cc3, unhid HV3⟩, hid (unhid HF).1, HOK, hid (unhid HF).2⟩
            case measure => simp [intOf]; omega
        · go_simp
          have o2 : OneAt (W.alloc (.cells #[.string e.path, .int .i64 e.kind, .int .i64 e.mode, .string e.text] 27)) W.heap.size e := World.alloc_heap_new _ _
          have hS1 := hS.alloc hS.size (.cells #[.string e.path, .int .i64 e.kind, .int .i64 e.mode, .string e.text] 27)
          refine hK.out _ _ hS1 (fun _ => ?_)
          clear hK K hS
          generalize W.alloc (.cells #[.string e.path, .int .i64 e.kind, .int .i64 e.mode, .string e.text] 27) = W2 at hS1 o2 ⊢
          generalize W.heap.size = g2 at o2 ⊢
          have hS := hS1
          clear hS1
          refine wpAnyH_ready (rs := [0]) (by kernel_rfl) (by simp) ?_
          refine AllReadyH.cons rfl (fun K hK => ?_) AllReadyH.nil
          go_simp
          have r0 := owns_empty W2 w3.heap.size hS.size 27
          have hS1 := hS.alloc hS.size (.cells #[] 27)
          have o2' := o2.alloc (.cells #[] 27)
          have m2 : (Value.slice (some ⟨W2.heap.size, 0, none⟩) 0 0).ownBlock ≠ some g2 := fun eq => by injection eq with eq; have eq2 : W2.heap.size = g2 := eq; have := o2.lt; omega
          clear o2
          have o2 := o2'
          clear o2'
          refine hK.out _ _ hS1 (fun _ => ?_)
          clear hK K hS
          generalize W2.alloc (.cells #[] 27) = W3 at hS1 r0 o2 ⊢
          generalize W2.heap.size = g0 at r0 m2 ⊢
          have hS := hS1
          clear hS1
          refine wpAnyH_ready (rs := [4]) (by kernel_rfl) (by simp) ?_
          refine AllReadyH.cons rfl (fun K hK => ?_) AllReadyH.nil
          refine step_append_at (by rfl) _ _ 23 (by rfl) w3.heap.size 27 i0 _ 4 48 Try.underlying23 (unhid HI).1 (unhid HI).2.1 (unhid HI).2.2.1 (unhid HI).2.2.2 rfl (by decide) (Value.slice (some ⟨g0, 0, none⟩) 0 0) (0) ([]) (by rfl) r0 ⟨g, 0, none⟩ (k) (c) (valsOf (L.take k)) (by rfl) (by rw [valsOf_len, ht1]) (unhid HC1 _ hS) (valsOf_one _) (by unfold maxLen; omega) (by omega) hS.size ?_
          intro v1 W4 r1 hg1 hat1
          rw [Nat.zero_add, List.nil_append] at r1
          obtain ⟨a1, c1, rfl⟩ := ownsRow_slice r1
          have hS1 := hS.grown hg1 hS.size (fun g eg => (r0.lt g eg).1)
          have o2' := o2.grown hg1 (fun eq => m2 eq.symm)
          have m2' : (Value.slice a1 k c1).ownBlock ≠ some g2 := by
            rcases hat1 with h | h <;> rw [h]
            · exact m2
            · intro eq; injection eq with eq; have := o2.lt; omega
          clear o2 m2
          have o2 := o2'
          clear o2'
          have m2 := m2'
          clear m2'
          refine hK.out _ _ hS1 (fun _ => ?_)
          clear hK K hS r0 hg1 hat1
          have hS := hS1
          clear hS1
          refine wpAnyH_ready (rs := [10]) (by kernel_rfl) (by simp) ?_
          refine AllReadyH.cons rfl (fun K hK => ?_) AllReadyH.nil
          refine step_append_at (by rfl) _ _ 23 (by rfl) w3.heap.size 27 i0 _ 4 48 Try.underlying23 (unhid HI).1 (unhid HI).2.1 (unhid HI).2.2.1 (unhid HI).2.2.2 rfl (by decide) (Value.slice a1 k c1) (k) (valsOf (L.take k)) (by rfl) r1 ⟨g2, 0, none⟩ (1) (1) (valsOf [e]) (by rfl) (by rw [valsOf_len]; rfl) (o2.cells) (valsOf_one _) (by unfold maxLen; omega) (by omega) hS.size ?_
          intro v2 W5 r2 hg1 hat1
          obtain ⟨a2, c2, rfl⟩ := ownsRow_slice r2
          have hS1 := hS.grown hg1 hS.size (fun g eg => (r1.lt g eg).1)
          refine hK.out _ _ hS1 (fun _ => ?_)
          clear hK K hS r1 hg1 hat1 o2 m2
          have hS := hS1
          clear hS1
          refine wpAnyH_ready (rs := [14]) (by kernel_rfl) (by simp) ?_
          refine AllReadyH.cons rfl (fun K hK => ?_) AllReadyH.nil
          refine step_append_at (by rfl) _ _ 23 (by rfl) w3.heap.size 27 i0 _ 4 48 Try.underlying23 (unhid HI).1 (unhid HI).2.1 (unhid HI).2.2.1 (unhid HI).2.2.2 rfl (by decide) (Value.slice a2 (k + 1) c2) (k + 1) (valsOf (L.take k) ++ valsOf [e]) (by rfl) r2 ⟨g, offD c k, none⟩ ((n - k)) ((c - k)) (valsOf (L.drop k)) (by rfl) (by rw [valsOf_len, ht2]) (unhid HC2 _ hS) (valsOf_one _) (by unfold maxLen; omega) (by omega) hS.size ?_
          intro v3 W6 r3 hg1 hat1
          obtain ⟨a3, c3, rfl⟩ := ownsRow_slice r3
          have hS1 := hS.grown hg1 hS.size (fun g eg => (r2.lt g eg).1)
          refine hK.out _ _ hS1 (fun _ => ?_)
          clear hK K hS r2 hg1 hat1
          have hS := hS1
          clear hS1
          refine wpAnyH_take (i := 15) (v := .slice a3 (k + 1 + (n - k)) c3) rfl (by kernel_rfl) (by kernel_rfl) (by kernel_rfl) (fun _ _ _ h => h) (Or.inl ⟨by rfl, fun w' hw => by go_simp⟩) hS ?_
          refine wpAnyH_done (by kernel_rfl) ?_ _
          have HF := hid (show W6.ownsRow w.heap.size 27 4 (.slice a3 (k + 1 + (n - k)) c3) (joinTo es (fs.take (j + 1))).length (valsOf (joinTo es (fs.take (j + 1)))) ∧ Below w.heap.size w W6 from ⟨by rw [(unhid HSN).1, (unhid HSN).2]; exact ownsRow_base r3 (by omega), (unhid HB2).trans (hS.mono (by omega))⟩)
          obtain ⟨g3, cc3, hv3⟩ := ownsRow_some (unhid HF).1 (by rw [(unhid HSN).1]; omega)
          have HV3 := hid hv3
          clear r3 hS hv3
          go_wp2_with fail
          go_roundw
          case rel => exact ⟨j + 1, by omega, by go_num, ⟨g3, cc3, unhid HV3⟩, hid (unhid HF).1, HOK, hid (unhid HF).2⟩
          case measure => simp [intOf]; omega
      · obtain ⟨old, hold, hop⟩ := there_get hth
        have hfo := entFn_get hold
        have hkl : placeE L e.path < L.length := (List.getElem?_eq_some_iff.1 hold).1
        obtain ⟨k0, k1, k2, k3⟩ := (unhid HG3) _ old hold
        simp only [Nat.zero_add] at k0 k1 k2 k3
        obtain ⟨m0, m1, m2, m3⟩ := unhid HE3
        have hse := same_eq (unhid HXE).1 ((unhid HXE).2 old (List.mem_of_getElem? hold)) hop
        cases hk1 : (old.kind == 1)
        · have hno : okJ es fs = false := (unhid HSN0).2.2 (by rw [(unhid HSN0).2.1]; unfold stepJ; rw [hth, hfo, hse, hk1]; simp)
          have E := hid (show (okJ es fs && treeB (joinTo es fs)) = false ∧ joinL es fs = [] by unfold joinL; rw [hno]; exact ⟨rfl, rfl⟩)
          have hkb : (old.kind != 1) = true := by rw [bne, hk1]; rfl
          clear hold hfo hse hop hno hk1
          go_wp2_with fail
          go_quiet (fail)
          have HF := hid (And.intro (owns_empty (w3.drewN nq) w.heap.size hwl 27) (((unhid HB2).trans (drewN_below w3 nq)).alloc (w := w3.drewN nq) hwl (.cells #[] 27)))
          generalize w3.drewN nq = w4 at HF ⊢
          go_wp2_with fail
          go_ret2
          exact ⟨_, by rw [(unhid E).1]; rfl, by rw [(unhid E).2]; exact (unhid HF).1, (unhid HF).2⟩
        · have hne := fun w => ne_ents e old w
          unfold Ent.vals at hne
          have hkb : (old.kind != 1) = false := by rw [bne, hk1]; rfl
          cases hev : eqV e old
          · have hno : okJ es fs = false := (unhid HSN0).2.2 (by rw [(unhid HSN0).2.1]; unfold stepJ; rw [hth, hfo, hse, hev]; simp)
            have E := hid (show (okJ es fs && treeB (joinTo es fs)) = false ∧ joinL es fs = [] by unfold joinL; rw [hno]; exact ⟨rfl, rfl⟩)
            rw [hev] at hne
            clear hold hfo hse hop hno hk1
            go_wp2_with fail
            go_quiet (fail)
            have HF := hid (And.intro (owns_empty (w3.drewN nq) w.heap.size hwl 27) (((unhid HB2).trans (drewN_below w3 nq)).alloc (w := w3.drewN nq) hwl (.cells #[] 27)))
            generalize w3.drewN nq = w4 at HF ⊢
            go_wp2_with fail
            go_ret2
            exact ⟨_, by rw [(unhid E).1]; rfl, by rw [(unhid E).2]; exact (unhid HF).1, (unhid HF).2⟩
          · have heo := eqV_eq hev
            have HSN := hid (show joinTo es (fs.take (j + 1)) = L by rw [(unhid HSN0).1]; exact put_same hth (by rw [hfo, heo]))
            have HOK := hid (show okJ es (fs.take (j + 1)) = true by rw [(unhid HSN0).2.1, unhid HA]; unfold stepJ; rw [hfo, hse, hk1, hev]; simp)
            rw [hev] at hne
            clear hold hfo hse hop hk1 heo
            go_wp2_with fail
            go_quiet (fail)
            have hBq : Below w3.heap.size w3 (w3.drewN nq) := drewN_below _ _
            have HF := hid (And.intro (ownsRow_kept (unhid HO3) (fun g eg => hBq.block g ((unhid HO3).lt g eg).2)) ((unhid HB2).trans (drewN_below w3 nq)))
            generalize w3.drewN nq = w4 at HF ⊢
            go_wp2_with fail
            go_roundw
            case rel => exact ⟨j + 1, by omega, by go_num, ⟨g, c, by rw [unhid HSN]⟩, hid (by rw [unhid HSN]; exact (unhid HF).1), HOK, hid (unhid HF).2⟩
            case measure => simp [intOf]; omega
    · have e : j = fs.length := by omega
      subst e
      rw [List.take_of_length_le (Nat.le_refl _)] at HO HA ⊢
      obtain ⟨a1, cap1, ev, hRI⟩ := rowIn_of_owns (unhid HO)
      have hsm : smallE (joinTo es fs) := small_all (by have := joinTo_len es fs; omega) (fun x hx => by
        rcases joinTo_mem es _ x hx with h | h
        · exact hae x h
        · exact haf x h)
      injection ev with ev1 ev2 ev3
      subst ev1
      have TOK := hid (specTreeOk_any (joinTo es fs) (some ⟨g, 0, none⟩) c wr hsm hRI.at)
      have E := hid (show (okJ es fs && treeB (joinTo es fs)) = treeB (joinTo es fs) ∧ joinL es fs = joinTo es fs by unfold joinL; rw [unhid HA]; exact ⟨rfl, rfl⟩)
      clear hRI hsm ev2 ev3
      go_wp2_with fail
      refine (unhid TOK).mono ?_
      rintro x w9 ⟨rfl, hB9⟩
      have HF := hid (And.intro (ownsRow_kept (unhid HO) (fun g eg => hB9.block g ((unhid HO).lt g eg).2)) ((unhid HB).trans (hB9.mono (unhid HB).size)))
      clear hB9 TOK
      go_wp2_with fail
      go_ret2
      exact ⟨_, by rw [(unhid E).1]; rfl, by rw [(unhid E).2]; exact (unhid HF).1, (unhid HF).2⟩
end Go.Proofs.Ytlnehebihfeegaa

/- Two trees in one: the model's answer. -/
namespace Go.Proofs.Ytlnehebihfeegaa
open Go.RowKit Go.Shelf

theorem joinR_len (es fs : List Ent) : (joinR es fs).length ≤ 100 := by
  unfold joinR
  split
  · rename_i h
    unfold joinOk at h
    simp only [Bool.and_eq_true] at h
    have h1 := joinTo_len es fs
    have h2 := tree_16 h.1
    have h3 := tree_16 h.2.1
    omega
  · simp

set_option maxRecDepth 100000 in
set_option maxHeartbeats 2000000 in
theorem specTreeJoin_any (es fs : List Ent) (b o cap b2 o2 cap2 : Nat) (w : World) (hs : smallE es) (hs2 : smallE fs) (h : ∀ (i : Nat) e, es[i]? = some e → EntAt w b (o + i * 4) e) (hb : b < w.heap.size) (hf : ∀ (i : Nat) e, fs[i]? = some e → EntAt w b2 (o2 + i * 4) e) (hb2 : b2 < w.heap.size) :
    Calls Try.prog 36 #[.slice (some ⟨b, o, none⟩) es.length cap, .slice (some ⟨b2, o2, none⟩) fs.length cap2] w fun x w' => ∃ v, x = .returned (.tuple #[v, .bool (joinOk es fs)]) ∧ w'.ownsRow w.heap.size 27 4 v (joinR es fs).length (valsOf (joinR es fs)) ∧ Below w.heap.size w w' := by
  have OK := hid (specTreeOk_any es (some ⟨b, o, none⟩) cap w hs (.inr ⟨b, o, rfl, hb, h⟩))
  have H1 := hid (And.intro h hf)
  have HS2 := hid hs2
  clear h hf hs hs2
  go_enter Try.func36, Try.ntmps36
  go_wp2_with fail
  refine (unhid OK).mono ?_
  rintro x w2 ⟨rfl, hB2⟩
  have H2 := hid (show Below w.heap.size w w2 ∧ (∀ (i : Nat) e, es[i]? = some e → EntAt w2 b (o + i * 4) e) ∧ ∀ (i : Nat) e, fs[i]? = some e → EntAt w2 b2 (o2 + i * 4) e from ⟨hB2, entAt_below (unhid H1).1 (.inr hb) hB2, entAt_below (unhid H1).2 (.inr hb2) hB2⟩)
  have hb' : b < w2.heap.size := Nat.lt_of_lt_of_le hb hB2.size
  have hb2' : b2 < w2.heap.size := Nat.lt_of_lt_of_le hb2 hB2.size
  clear hB2 H1 OK
  cases htb : treeB es
  · have E := hid (show joinOk es fs = false ∧ joinR es fs = [] by unfold joinR joinOk; rw [htb]; exact ⟨rfl, rfl⟩)
    have HF := hid (And.intro (owns_empty w2 w.heap.size (unhid H2).1.size 27) ((unhid H2).1.alloc (unhid H2).1.size (.cells #[] 27)))
    go_wp2_with fail
    go_ret2
    exact ⟨_, by rw [(unhid E).1]; rfl, by rw [(unhid E).2]; exact (unhid HF).1, (unhid HF).2⟩
  · go_wp2_with fail
    refine (specTreeOk_any fs (some ⟨b2, o2, none⟩) cap2 w2 (unhid HS2) (.inr ⟨b2, o2, rfl, hb2', (unhid H2).2.2⟩)).mono ?_
    rintro x w3 ⟨rfl, hB3⟩
    have H3 := hid (show Below w.heap.size w w3 ∧ (∀ (i : Nat) e, es[i]? = some e → EntAt w3 b (o + i * 4) e) ∧ ∀ (i : Nat) e, fs[i]? = some e → EntAt w3 b2 (o2 + i * 4) e from ⟨(unhid H2).1.trans (hB3.mono (unhid H2).1.size), entAt_below (unhid H2).2.1 (.inr hb') hB3, entAt_below (unhid H2).2.2 (.inr hb2') hB3⟩)
    have hb3 : b < w3.heap.size := Nat.lt_of_lt_of_le hb' hB3.size
    have hb23 : b2 < w3.heap.size := Nat.lt_of_lt_of_le hb2' hB3.size
    clear hB3 H2
    cases htb2 : treeB fs
    · have E := hid (show joinOk es fs = false ∧ joinR es fs = [] by unfold joinR joinOk; rw [htb, htb2]; exact ⟨rfl, rfl⟩)
      have HF := hid (And.intro (owns_empty w3 w.heap.size (unhid H3).1.size 27) ((unhid H3).1.alloc (unhid H3).1.size (.cells #[] 27)))
      go_wp2_with fail
      go_ret2
      exact ⟨_, by rw [(unhid E).1]; rfl, by rw [(unhid E).2]; exact (unhid HF).1, (unhid HF).2⟩
    · go_wp2_with fail
      refine (l2Join_any es fs b o cap b2 o2 cap2 w3 htb htb2 (unhid H3).2.1 hb3 (unhid H3).2.2 hb23).mono ?_
      rintro x w4 ⟨v, rfl, hown, hB4⟩
      obtain ⟨va, vc, rfl⟩ := ownsRow_slice hown
      have hB := (unhid H3).1.trans (hB4.mono (unhid H3).1.size)
      cases hj : (okJ es fs && treeB (joinTo es fs))
      · have E := hid (show joinOk es fs = false ∧ joinR es fs = [] by unfold joinR joinOk; rw [htb, htb2, hj]; exact ⟨rfl, rfl⟩)
        have HF := hid (And.intro (owns_empty w4 w.heap.size hB.size 27) (hB.alloc hB.size (.cells #[] 27)))
        clear hown hB4 hB
        go_wp2_with fail
        go_ret2
        exact ⟨_, by rw [(unhid E).1]; rfl, by rw [(unhid E).2]; exact (unhid HF).1, (unhid HF).2⟩
      · have E := hid (show joinOk es fs = true ∧ joinR es fs = joinL es fs by
          have hj1 : okJ es fs = true := by simp only [Bool.and_eq_true] at hj; exact hj.1
          unfold joinR joinOk joinL; rw [htb, htb2, hj, hj1]; exact ⟨rfl, rfl⟩)
        have HF := hid (And.intro (ownsRow_base hown (unhid H3).1.size) hB)
        clear hown hB4 hB
        go_wp2_with fail
        go_ret2
        exact ⟨_, by rw [(unhid E).1]; rfl, by rw [(unhid E).2]; exact (unhid HF).1, (unhid HF).2⟩
end Go.Proofs.Ytlnehebihfeegaa

/- What a law over an answer that is a row of entries keeps from call to call. -/
namespace Go.Proofs.Ytlnehebihfeegaa
open Go.RowKit Go.Shelf

/-- The model's answer, the argument's copy and the program's answer lie one behind the other; nothing that was there ahead has changed. -/
structure St (w W : World) (aS aX aG : Option Addr) (M1 M2 M3 : Nat) (rs xs gs : List Ent) : Prop where
  b : Below w.heap.size w W
  s : RowIn W aS w.heap.size M1 rs
  x : RowIn W aX M1 M2 xs
  g : RowIn W aG M2 M3 gs
  m1 : w.heap.size ≤ M1
  m2 : M1 ≤ M2
  m3 : M2 ≤ M3
  m4 : M3 ≤ W.heap.size
theorem St.below {w W W' : World} {aS aX aG : Option Addr} {M1 M2 M3 : Nat} {rs xs gs : List Ent} (h : St w W aS aX aG M1 M2 M3 rs xs gs) (hb : Below W.heap.size W W') : St w W' aS aX aG M1 M2 M3 rs xs gs :=
  ⟨h.b.trans (hb.mono h.b.size), h.s.below hb, h.x.below hb, h.g.below hb, h.m1, h.m2, h.m3, Nat.le_trans h.m4 hb.size⟩
theorem St.markX {w W W' : World} {aS aX aG : Option Addr} {M1 M2 M3 : Nat} {rs xs xs' gs : List Ent} (h : St w W aS aX aG M1 M2 M3 rs xs gs) (hs : Spares M1 M2 W W') (hx : RowIn W' aX M1 M2 xs') : St w W' aS aX aG M1 M2 M3 rs xs' gs :=
  ⟨hs.below h.b h.m1, hs.row h.s (.inl (Nat.le_refl _)), hx, hs.row h.g (.inr (Nat.le_refl _)), h.m1, h.m2, h.m3, Nat.le_trans h.m4 hs.size⟩
theorem St.markG {w W W' : World} {aS aX aG : Option Addr} {M1 M2 M3 : Nat} {rs xs gs gs' : List Ent} (h : St w W aS aX aG M1 M2 M3 rs xs gs) (hs : Spares M2 M3 W W') (hg : RowIn W' aG M2 M3 gs') : St w W' aS aX aG M1 M2 M3 rs xs gs' :=
  ⟨hs.below h.b (Nat.le_trans h.m1 h.m2), hs.row h.s (.inl h.m2), hs.row h.x (.inl (Nat.le_refl _)), hg, h.m1, h.m2, h.m3, Nat.le_trans h.m4 hs.size⟩
theorem St.init (w : World) : St w w none none none w.heap.size w.heap.size w.heap.size [] [] [] :=
  ⟨Below.refl _ _, .inl rfl, .inl rfl, .inl rfl, Nat.le_refl _, Nat.le_refl _, Nat.le_refl _, Nat.le_refl _⟩
theorem St.init_b {w W : World} (h : Below w.heap.size w W) : St w W none none none w.heap.size w.heap.size w.heap.size [] [] [] :=
  ⟨h, .inl rfl, .inl rfl, .inl rfl, Nat.le_refl _, Nat.le_refl _, Nat.le_refl _, h.size⟩
/-- The model has answered. -/
theorem St.setS {w W W' : World} {aS : Option Addr} {rs : List Ent} (h : Below w.heap.size w W) (hb : Below W.heap.size W W') (hs : RowIn W' aS W.heap.size W'.heap.size rs) : St w W' aS none none W'.heap.size W'.heap.size W'.heap.size rs [] [] :=
  ⟨h.trans (hb.mono h.size), hs.wide h.size (Nat.le_refl _), .inl rfl, .inl rfl, Nat.le_trans h.size hb.size, Nat.le_refl _, Nat.le_refl _, Nat.le_refl _⟩
/-- The argument was copied. -/
theorem St.setX {w W W' : World} {aS aX : Option Addr} {M : Nat} {rs xs : List Ent} (h : St w W aS none none M M M rs [] []) (hb : Below W.heap.size W W') (hx : RowIn W' aX W.heap.size W'.heap.size xs) : St w W' aS aX none M W'.heap.size W'.heap.size rs xs [] :=
  ⟨h.b.trans (hb.mono h.b.size), h.s.below hb, hx.wide h.m4 (Nat.le_refl _), .inl rfl, h.m1, Nat.le_trans h.m4 hb.size, Nat.le_refl _, Nat.le_refl _⟩
/-- The program has answered. -/
theorem St.setG {w W W' : World} {aS aX aG : Option Addr} {M1 M2 M3 : Nat} {rs xs gs : List Ent} (h : St w W aS aX none M1 M2 M3 rs xs []) (hb : Below W.heap.size W W') (hg : RowIn W' aG W.heap.size W'.heap.size gs) : St w W' aS aX aG M1 M2 W'.heap.size rs xs gs :=
  ⟨h.b.trans (hb.mono h.b.size), h.s.below hb, h.x.below hb, hg.wide (Nat.le_trans h.m3 h.m4) (Nat.le_refl _), h.m1, h.m2, Nat.le_trans h.m3 (Nat.le_trans h.m4 hb.size), Nat.le_refl _⟩
theorem EntRow.rowIn {W : World} {g N M : Nat} {es : List Ent} (x : EntRow W g 27 es.length (entFn es)) (hN : N ≤ g) (hM : g < M) : RowIn W (some ⟨g, 0, none⟩) N M es := by
  obtain ⟨cur, h1, h2, h3⟩ := x
  exact .inr ⟨g, rfl, hN, hM, cur, h1, by omega, h3⟩
theorem EntRow.ents {W : World} {g : Nat} {es : List Ent} (x : EntRow W g 27 es.length (entFn es)) : ∀ (i : Nat) e, es[i]? = some e → EntAt W g (0 + i * 4) e := fun i e hi => by
  have := (x.cells i (List.getElem?_eq_some_iff.1 hi).1).1
  rw [entFn_get hi] at this
  rwa [Nat.zero_add]
theorem RowIn.len_marks {W : World} {a : Option Addr} {N M q n : Nat} (h : RowIn W a N M (marks q n)) : EntsAt W a (marks q n) := h.at
end Go.Proofs.Ytlnehebihfeegaa
