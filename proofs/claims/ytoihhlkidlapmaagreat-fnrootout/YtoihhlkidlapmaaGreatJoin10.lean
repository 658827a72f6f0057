/- Texts of this proof, one behind the other; each says at its head what it shows. -/
import Derived.Test.YtoihhlkidlapmaaGreatJoin8
import Derived.Test.YtoihhlkidlapmaaGreatJoin5
import Derived.Test.YtoihhlkidlapmaaGreatJoin1
import Derived.Test.YtoihhlkidlapmaaGreatJoin3
import Derived.Test.YtoihhlkidlapmaaGreatJoin9
namespace Go.Proofs.YtoihhlkidlapmaaGreat
open Go.RowKit Go.Shelf
set_option maxRecDepth 100000 in
set_option maxHeartbeats 8000000 in
theorem l2Join_N (es fs : List Ent) (b o cap : Nat) (a2 : Option Addr) (cap2 : Nat) (w : World) (hte : treeB es = true) (htf : treeB fs = true) (h : ∀ (i : Nat) e, es[i]? = some e → EntAt w b (o + i * 4) e) (hb : b < w.heap.size) (hf : EntsAt w a2 fs) :
    Calls Tryz.prog 153 #[.slice (some ⟨b, o, none⟩) es.length cap, .slice a2 fs.length cap2] w fun x w' => ∃ v, x = .returned (.tuple #[v, .bool (okJ es fs && treeB (joinTo es fs))]) ∧ (∃ g c, v = .slice (some ⟨g, 0, none⟩) (joinL es fs).length c) ∧ w'.ownsRow w.heap.size 57 4 v (joinL es fs).length (valsOf (joinL es fs)) ∧ Below w.heap.size w w' := by
  obtain ⟨i0, hi0, hz0, hzs, hzb⟩ := info_parts infoEntry
  have HI := hid (And.intro hi0 (And.intro hz0 (And.intro hzs hzb)))
  have hle := tree_16 hte
  have hlf := tree_16 htf
  have hae := tree_all hte
  have haf := tree_all htf
  have HH := hid hf
  have HC := hid (l2Copy_some es b o cap w (by omega) h (.inr hb))
  clear hi0 hz0 hzs hzb h hf hb
  go_enter Tryz.func153, Tryz.ntmps153
  go_wp2_with fail
  refine (unhid HC).mono ?_
  rintro x w1 ⟨g1, c1, rfl, hown, hB1⟩
  have HF0 := hid (And.intro hown hB1)
  clear hown hB1 HC
  go_wp2_with fail
  go_loopw [6, 7] (fun v i wr => ∃ j : Nat, j ≤ fs.length ∧ i = .int .i64 (j : Int) ∧ (∃ g c, v = .slice (some ⟨g, 0, none⟩) (joinTo es (fs.take j)).length c) ∧ Hid (wr.ownsRow w.heap.size 57 4 v (joinTo es (fs.take j)).length (valsOf (joinTo es (fs.take j)))) ∧ Hid (okJ es (fs.take j) = true) ∧ Hid (Below w.heap.size w wr)) (fun _ i _ => fs.length - (intOf i).toNat)
  case atStart => exact ⟨0, Nat.zero_le _, rfl, ⟨g1, c1, rfl⟩, hid (unhid HF0).1, hid rfl, hid (unhid HF0).2⟩
  case round =>
    obtain ⟨j, hj, rfl, ⟨g, c, rfl⟩, HO, HA, HB⟩ := hrel
    by_cases hlt : j < fs.length
    · obtain ⟨e, he⟩ : ∃ e, fs[j]? = some e := ⟨fs[j], List.getElem?_eq_getElem hlt⟩
      obtain ⟨b2, o2, rfl, hb2, hcc⟩ := (unhid HH).get (by intro e; subst e; simp at hlt)
      have HCC := hid hcc
      clear hcc HH
      have hsn : joinTo es (fs.take (j + 1)) = putT (joinTo es (fs.take j)) e := by rw [List.take_add_one, he]; exact joinTo_snoc _ _ _
      have hon : okJ es (fs.take (j + 1)) = (okJ es (fs.take j) && stepJ (joinTo es (fs.take j)) e) := by rw [List.take_add_one, he]; exact okJ_snoc _ _ _
      have hl9 : (joinTo es (fs.take j)).length ≤ 900 := by have := joinTo_len es (fs.take j); rw [List.length_take] at this; omega
      have hall : ∀ x ∈ joinTo es (fs.take j), entB x = true := fun x hx => by
        rcases joinTo_mem es _ x hx with h | h
        · exact hae x h
        · exact haf x (List.mem_of_mem_take h)
      have hxe := haf e (List.mem_of_getElem? he)
      have hpr : okJ es (fs.take (j + 1)) = false → okJ es fs = false := okJ_prefix (List.take_prefix _ _)
      obtain ⟨c0, c1', c2, c3⟩ := ((unhid HCC) j e he).below (unhid HB) hb2
      have HE := hid ((unhid HCC) j e he)
      obtain ⟨a1, cap1, ev, hRI⟩ := rowIn_of_owns (unhid HO)
      injection ev with ev1 ev2 ev3
      subst ev1
      have HAT := hid hRI.at
      have hcl : (joinTo es (fs.take j)).length ≤ c := by
        rcases (unhid HO).2 with ⟨hv, h0⟩ | ⟨g', cap', cur', hv, _, _, hcc, _⟩
        · cases hv
        · cases hv; exact hcc
      have hgl : g < wr.heap.size := by
        rcases (unhid HO).2 with ⟨hv, h0⟩ | ⟨g', cap', cur', hv, _, hh, _⟩
        · cases hv
        · cases hv; exact (Array.getElem?_eq_some_iff.1 hh).1
      have HGE := hid (show ∀ (i : Nat) x, (joinTo es (fs.take j))[i]? = some x → EntAt wr g (0 + i * 4) x by
        rcases unhid HAT with h0 | ⟨b', o', eb, _, hcc⟩
        · intro i x hi; rw [h0] at hi; simp at hi
        · cases eb; exact hcc)
      have AT := hid (l2At_any (joinTo es (fs.take j)) (some ⟨g, 0, none⟩) c e.path wr (by omega) (unhid HAT))
      have HSN0 := hid (And.intro hsn (And.intro hon hpr))
      have HXE := hid (And.intro hxe hall)
      clear hRI he hsn hon hpr hall hxe ev2 ev3
      generalize joinTo es (fs.take j) = L at *
      go_wp2_with fail
      refine (unhid AT).mono ?_
      rintro x w3 ⟨rfl, n3, e3⟩
      have hB3 : Below wr.heap.size wr w3 := by rw [e3]; exact drewN_below _ _
      have hkn : placeE L e.path ≤ L.length := placeE_le _ _
      have HB2 := hid ((unhid HB).trans (hB3.mono (unhid HB).size))
      have HG3 := hid (entAt_below (unhid HGE) (.inr hgl) hB3)
      have HE3 := hid ((unhid HE).below (unhid HB2) hb2)
      have HO3 := hid (ownsRow_kept (unhid HO) (fun g eg => hB3.block g ((unhid HO).lt g eg).2))
      have hwl : w.heap.size ≤ w3.heap.size := (unhid HB2).size
      have hgl3 : g < w3.heap.size := Nat.lt_of_lt_of_le hgl hB3.size
      have hbl3 : b2 < w3.heap.size := Nat.lt_of_lt_of_le hb2 hwl
      clear hB3 e3 AT HGE HE c0 c1' c2 c3 HAT HB HO n3 hgl
      cases hth : thereE L e.path
      · have HSN := hid (show (joinTo es (fs.take (j + 1))).length = placeE L e.path + 1 + (L.length - placeE L e.path) ∧ valsOf (joinTo es (fs.take (j + 1))) = valsOf (L.take (placeE L e.path)) ++ valsOf [e] ++ valsOf (L.drop (placeE L e.path)) by
          rw [(unhid HSN0).1, put_new hth]; refine ⟨by rw [insAt_len]; omega, ?_⟩; unfold insAt; rw [valsOf_app, valsOf_app])
        have HOK := hid (show okJ es (fs.take (j + 1)) = true by rw [(unhid HSN0).2.1, unhid HA]; unfold stepJ; rw [hth]; rfl)
        clear hth HSN0 HXE HO3
        generalize placeE L e.path = k at hkn HSN ⊢
        generalize hnl : L.length = n at *
        have HNL := hid hnl
        clear hnl
        go_wp2_with fail
        go_quiet (fail)
        have hBq : Below w3.heap.size w3 (w3.drewN nq) := drewN_below _ _
        have HB2' := hid ((unhid HB2).trans (hBq.mono hwl))
        have HG3' := hid (entAt_below (unhid HG3) (.inr hgl3) hBq)
        have HE3' := hid ((unhid HE3).below hBq hbl3)
        have hwl' : w.heap.size ≤ (w3.drewN nq).heap.size := hwl
        have hgl3' : g < (w3.drewN nq).heap.size := hgl3
        have hbl3' : b2 < (w3.drewN nq).heap.size := hbl3
        clear hBq HB2 HG3 HE3 hwl hgl3 hbl3
        have HB2 := HB2'; have HG3 := HG3'; have HE3 := HE3'; have hwl := hwl'; have hgl3 := hgl3'; have hbl3 := hbl3'
        clear HB2' HG3' HE3' hwl' hgl3' hbl3'
        generalize w3.drewN nq = w3 at *
        go_wp2_with fail
        have hi1 : (0 : Int) ≤ (k : Int) := by omega
        have hi2 : (k : Int) ≤ (n : Int) := by omega
        have hi3 : (k : Int) ≤ (c : Int) := by omega
        have hi4 : (n : Int) ≤ (c : Int) := by omega
        have hi5 : (0 : Int) ≤ (j : Int) := by omega
        have hi6 : (j : Int) < (fs.length : Int) := by omega
        have HC1 := hid (show ∀ W, Below w3.heap.size w3 W → ∀ j u, (valsOf (L.take k))[j]? = some u → W.cell? ((⟨g, 0, none⟩ : Addr).add j) = some u from fun W hW => ents_cells (ents_take (entAt_below (unhid HG3) (.inr hgl3) hW)))
        have HC2 := hid (show ∀ W, Below w3.heap.size w3 W → ∀ j u, (valsOf (L.drop k))[j]? = some u → W.cell? ((⟨g, offD c k, none⟩ : Addr).add j) = some u from fun W hW => ents_cells (fun i x hi => by have := ents_dropD (entAt_below (unhid HG3) (.inr hgl3) hW) (show L.length ≤ c by rw [unhid HNL]; omega) i x hi; rwa [Nat.zero_add] at this))
        have ht1 : (L.take k).length = k := by rw [List.length_take, unhid HNL]; omega
        have ht2 : (L.drop k).length = n - k := by rw [List.length_drop, unhid HNL]
        refine wp_region_held_drew (S := fun w' => Below w3.heap.size w3 w') (by kernel_rfl) (drew_below _) (fun hS => ?_)
        refine wpAnyH_take (i := 1) (v := .slice (some ⟨g, 0, none⟩) n c) rfl (by kernel_rfl) (by kernel_rfl) (by kernel_rfl) (fun _ _ _ h => h) (Or.inl ⟨by rfl, fun w' hw => by go_simp⟩) hS ?_
        refine wpAnyH_take (i := 2) (v := .int .i64 (k : Int)) rfl (by kernel_rfl) (by kernel_rfl) (by kernel_rfl) (fun _ _ _ h => h) (Or.inl ⟨by rfl, fun w' hw => by go_simp⟩) hS ?_
        refine wpAnyH_take (i := 3) (v := .slice (some ⟨g, 0, none⟩) k c) rfl (by kernel_rfl) (by kernel_rfl) (by kernel_rfl) (fun _ _ _ h => h) (Or.inl ⟨by rfl, fun w' hw => by go_simp⟩) hS ?_
        refine wpAnyH_take (i := 5) (v := .slice (some ⟨b2, o2, none⟩) fs.length cap2) rfl (by kernel_rfl) (by kernel_rfl) (by kernel_rfl) (fun _ _ _ h => h) (Or.inl ⟨by rfl, fun w' hw => by go_simp⟩) hS ?_
        refine wpAnyH_take (i := 6) (v := .int .i64 (j : Int)) rfl (by kernel_rfl) (by kernel_rfl) (by kernel_rfl) (fun _ _ _ h => h) (Or.inl ⟨by rfl, fun w' hw => by go_simp⟩) hS ?_
        refine wpAnyH_take (i := 7) (v := .pointer (some ⟨b2, o2 + j * 4, none⟩)) rfl (by kernel_rfl) (by kernel_rfl) (by kernel_rfl) (fun _ _ _ h => h) (Or.inl ⟨by rfl, fun w' hw => by go_simp⟩) hS ?_
        refine wpAnyH_take (i := 8) (v := .agg #[.string e.path, .int .i64 e.kind, .int .i64 e.mode, .string e.text]) rfl (by kernel_rfl) (by kernel_rfl) (by kernel_rfl) (fun _ _ _ h => h) (Or.inl ⟨by rfl, fun w' hw => by obtain ⟨k0, k1, k2, k3⟩ := (unhid HE3).below hw hbl3; go_simp⟩) hS ?_
        refine wpAnyH_take (i := 11) (v := .slice (some ⟨g, 0, none⟩) n c) rfl (by kernel_rfl) (by kernel_rfl) (by kernel_rfl) (fun _ _ _ h => h) (Or.inl ⟨by rfl, fun w' hw => by go_simp⟩) hS ?_
        refine wpAnyH_take (i := 12) (v := .int .i64 (k : Int)) rfl (by kernel_rfl) (by kernel_rfl) (by kernel_rfl) (fun _ _ _ h => h) (Or.inl ⟨by rfl, fun w' hw => by go_simp⟩) hS ?_
        refine wpAnyH_take (i := 13) (v := .slice (some ⟨g, offD c k, none⟩) (n - k) (c - k)) rfl (by kernel_rfl) (by kernel_rfl) (by kernel_rfl) (fun _ _ _ h => h) (Or.inl ⟨by rfl, fun w' hw => by 
          unfold offD
          by_cases hck : c = k
          · rw [if_pos hck]; go_simp
          · rw [if_neg hck]; go_simp⟩) hS ?_
        generalize w3.drew = W at hS ⊢
        refine wpAnyH_ready (rs := [0, 9]) (by kernel_rfl) (by simp) ?_
        refine AllReadyH.cons rfl (fun K hK => ?_) (AllReadyH.cons rfl (fun K hK => ?_) AllReadyH.nil)
        · go_simp
          have r0 := owns_empty W w3.heap.size hS.size 57
          have hS1 := hS.alloc hS.size (.cells #[] 57)
          refine hK.out _ _ hS1 (fun _ => ?_)
          clear hK K hS
          generalize W.alloc (.cells #[] 57) = W2 at hS1 r0 ⊢
          generalize W.heap.size = g0 at r0 ⊢
          have hS := hS1
          clear hS1
          refine wpAnyH_ready (rs := [4, 9]) (by kernel_rfl) (by simp) ?_
          refine AllReadyH.cons rfl (fun K hK => ?_) (AllReadyH.cons rfl (fun K hK => ?_) AllReadyH.nil)
          · refine step_append_at (by rfl) _ _ 32 (by rfl) w3.heap.size 57 i0 _ 4 48 Tryz.underlying32 (unhid HI).1 (unhid HI).2.1 (unhid HI).2.2.1 (unhid HI).2.2.2 rfl (by decide) (Value.slice (some ⟨g0, 0, none⟩) 0 0) (0) ([]) (by rfl) r0 ⟨g, 0, none⟩ (k) (c) (valsOf (L.take k)) (by rfl) (by rw [valsOf_len, ht1]) (unhid HC1 _ hS) (valsOf_one _) (by unfold maxLen; omega) (by omega) hS.size ?_
            intro v1 W3 r1 hg1 hat1
            rw [Nat.zero_add, List.nil_append] at r1
            obtain ⟨a1, c1, rfl⟩ := ownsRow_slice r1
            have hS1 := hS.grown hg1 hS.size (fun g eg => (r0.lt g eg).1)
            refine hK.out _ _ hS1 (fun _ => ?_)
            clear hK K hS r0 hg1 hat1
            have hS := hS1
            clear hS1
            refine wpAnyH_ready (rs := [9]) (by kernel_rfl) (by simp) ?_
            refine AllReadyH.cons rfl (fun K hK => ?_) AllReadyH.nil
            go_simp
            have o2 : OneAt (W3.alloc (.cells #[.string e.path, .int .i64 e.kind, .int .i64 e.mode, .string e.text] 57)) W3.heap.size e := World.alloc_heap_new _ _
            have hS1 := hS.alloc hS.size (.cells #[.string e.path, .int .i64 e.kind, .int .i64 e.mode, .string e.text] 57)
            have m2 : (Value.slice a1 k c1).ownBlock ≠ some W3.heap.size := fun eq => Nat.lt_irrefl _ (r1.lt _ eq).2
            have r1' := r1.alloc (.cells #[.string e.path, .int .i64 e.kind, .int .i64 e.mode, .string e.text] 57)
            clear r1
            have r1 := r1'
            clear r1'
            refine hK.out _ _ hS1 (fun _ => ?_)
            clear hK K hS
            generalize W3.alloc (.cells #[.string e.path, .int .i64 e.kind, .int .i64 e.mode, .string e.text] 57) = W4 at hS1 o2 r1 ⊢
            generalize W3.heap.size = g2 at o2 m2 ⊢
            have hS := hS1
            clear hS1
            refine wpAnyH_ready (rs := [10]) (by kernel_rfl) (by simp) ?_
            refine AllReadyH.cons rfl (fun K hK => ?_) AllReadyH.nil
            refine step_append_at (by rfl) _ _ 32 (by rfl) w3.heap.size 57 i0 _ 4 48 Tryz.underlying32 (unhid HI).1 (unhid HI).2.1 (unhid HI).2.2.1 (unhid HI).2.2.2 rfl (by decide) (Value.slice a1 k c1) (k) (valsOf (L.take k)) (by rfl) r1 ⟨g2, 0, none⟩ (1) (1) (valsOf [e]) (by rfl) (by rw [valsOf_len]; rfl) (o2.cells) (valsOf_one _) (by unfold maxLen; omega) (by omega) hS.size ?_
            intro v2 W5 r2 hg1 hat1
            obtain ⟨a2, c2, rfl⟩ := ownsRow_slice r2
            have hS1 := hS.grown hg1 hS.size (fun g eg => (r1.lt g eg).1)
            refine hK.out _ _ hS1 (fun _ => ?_)
            clear hK K hS r1 hg1 hat1 o2 m2
            have hS := hS1
            clear hS1
            refine wpAnyH_ready (rs := [14]) (by kernel_rfl) (by simp) ?_
            refine AllReadyH.cons rfl (fun K hK => ?_) AllReadyH.nil
            refine step_append_at (by rfl) _ _ 32 (by rfl) w3.heap.size 57 i0 _ 4 48 Tryz.underlying32 (unhid HI).1 (unhid HI).2.1 (unhid HI).2.2.1 (unhid HI).2.2.2 rfl (by decide) (Value.slice a2 (k + 1) c2) (k + 1) (valsOf (L.take k) ++ valsOf [e]) (by rfl) r2 ⟨g, offD c k, none⟩ ((n - k)) ((c - k)) (valsOf (L.drop k)) (by rfl) (by rw [valsOf_len, ht2]) (unhid HC2 _ hS) (valsOf_one _) (by unfold maxLen; omega) (by omega) hS.size ?_
            intro v3 W6 r3 hg1 hat1
            obtain ⟨a3, c3, rfl⟩ := ownsRow_slice r3
            have hS1 := hS.grown hg1 hS.size (fun g eg => (r2.lt g eg).1)
            refine hK.out _ _ hS1 (fun _ => ?_)
            clear hK K hS r2 hg1 hat1
            have hS := hS1
            clear hS1
            refine wpAnyH_take (i := 15) (v := .slice a3 (k + 1 + (n - k)) c3) rfl (by kernel_rfl) (by kernel_rfl) (by kernel_rfl) (fun _ _ _ h => h) (Or.inl ⟨by rfl, fun w' hw => by go_simp⟩) hS ?_
            refine wpAnyH_done (by kernel_rfl) ?_ _
            have HF := hid (show W6.ownsRow w.heap.size 57 4 (.slice a3 (k + 1 + (n - k)) c3) (joinTo es (fs.take (j + 1))).length (valsOf (joinTo es (fs.take (j + 1)))) ∧ Below w.heap.size w W6 from ⟨by rw [(unhid HSN).1, (unhid HSN).2]; exact ownsRow_base r3 (by omega), (unhid HB2).trans (hS.mono (by omega))⟩)
            obtain ⟨g3, cc3, hv3⟩ := ownsRow_some (unhid HF).1 (by rw [(unhid HSN).1]; omega)
            have HV3 := hid hv3
            clear r3 hS hv3
            go_wp2_with fail
            go_roundw
            case rel => exact ⟨j + 1, by omega, by go_num, ⟨g3, cc3, unhid HV3⟩, hid (unhid HF).1, HOK, hid (unhid HF).2⟩
            case measure => simp [intOf]; omega
          · go_simp
            have o2 : OneAt (W2.alloc (.cells #[.string e.path, .int .i64 e.kind, .int .i64 e.mode, .string e.text] 57)) W2.heap.size e := World.alloc_heap_new _ _
            have hS1 := hS.alloc hS.size (.cells #[.string e.path, .int .i64 e.kind, .int .i64 e.mode, .string e.text] 57)
            have m2 : (Value.slice (some ⟨g0, 0, none⟩) 0 0).ownBlock ≠ some W2.heap.size := fun eq => Nat.lt_irrefl _ (r0.lt _ eq).2
            have r0' := r0.alloc (.cells #[.string e.path, .int .i64 e.kind, .int .i64 e.mode, .string e.text] 57)
            clear r0
            have r0 := r0'
            clear r0'
            refine hK.out _ _ hS1 (fun _ => ?_)
            clear hK K hS
            generalize W2.alloc (.cells #[.string e.path, .int .i64 e.kind, .int .i64 e.mode, .string e.text] 57) = W3 at hS1 o2 r0 ⊢
            generalize W2.heap.size = g2 at o2 m2 ⊢
            have hS := hS1
            clear hS1
            refine wpAnyH_ready (rs := [4]) (by kernel_rfl) (by simp) ?_
            refine AllReadyH.cons rfl (fun K hK => ?_) AllReadyH.nil
            refine step_append_at (by rfl) _ _ 32 (by rfl) w3.heap.size 57 i0 _ 4 48 Tryz.underlying32 (unhid HI).1 (unhid HI).2.1 (unhid HI).2.2.1 (unhid HI).2.2.2 rfl (by decide) (Value.slice (some ⟨g0, 0, none⟩) 0 0) (0) ([]) (by rfl) r0 ⟨g, 0, none⟩ (k) (c) (valsOf (L.take k)) (by rfl) (by rw [valsOf_len, ht1]) (unhid HC1 _ hS) (valsOf_one _) (by unfold maxLen; omega) (by omega) hS.size ?_
            intro v1 W4 r1 hg1 hat1
            rw [Nat.zero_add, List.nil_append] at r1
            obtain ⟨a1, c1, rfl⟩ := ownsRow_slice r1
            have hS1 := hS.grown hg1 hS.size (fun g eg => (r0.lt g eg).1)
            have o2' := o2.grown hg1 (fun eq => m2 eq.symm)
            have m2' : (Value.slice a1 k c1).ownBlock ≠ some g2 := by
              rcases hat1 with h | h <;> rw [h]
              · exact m2
              · intro eq; injection eq with eq; have := o2.lt; omega
            clear o2 m2
            have o2 := o2'
            clear o2'
            have m2 := m2'
            clear m2'
            refine hK.out _ _ hS1 (fun _ => ?_)
            clear hK K hS r0 hg1 hat1
            have hS := hS1
            clear hS1
            refine wpAnyH_ready (rs := [10]) (by kernel_rfl) (by simp) ?_
            refine AllReadyH.cons rfl (fun K hK => ?_) AllReadyH.nil
            refine step_append_at (by rfl) _ _ 32 (by rfl) w3.heap.size 57 i0 _ 4 48 Tryz.underlying32 (unhid HI).1 (unhid HI).2.1 (unhid HI).2.2.1 (unhid HI).2.2.2 rfl (by decide) (Value.slice a1 k c1) (k) (valsOf (L.take k)) (by rfl) r1 ⟨g2, 0, none⟩ (1) (1) (valsOf [e]) (by rfl) (by rw [valsOf_len]; rfl) (o2.cells) (valsOf_one _) (by unfold maxLen; omega) (by omega) hS.size ?_
            intro v2 W5 r2 hg1 hat1
            obtain ⟨a2, c2, rfl⟩ := ownsRow_slice r2
            have hS1 := hS.grown hg1 hS.size (fun g eg => (r1.lt g eg).1)
            refine hK.out _ _ hS1 (fun _ => ?_)
            clear hK K hS r1 hg1 hat1 o2 m2
            have hS := hS1
            clear hS1
            refine wpAnyH_ready (rs := [14]) (by kernel_rfl) (by simp) ?_
            refine AllReadyH.cons rfl (fun K hK => ?_) AllReadyH.nil
            refine step_append_at (by rfl) _ _ 32 (by rfl) w3.heap.size 57 i0 _ 4 48 Tryz.underlying32 (unhid HI).1 (unhid HI).2.1 (unhid HI).2.2.1 (unhid HI).2.2.2 rfl (by decide) (Value.slice a2 (k + 1) c2) (k + 1) (valsOf (L.take k) ++ valsOf [e]) (by rfl) r2 ⟨g, offD c k, none⟩ ((n - k)) ((c - k)) (valsOf (L.drop k)) (by rfl) (by rw [valsOf_len, ht2]) (unhid HC2 _ hS) (valsOf_one _) (by unfold maxLen; omega) (by omega) hS.size ?_
            intro v3 W6 r3 hg1 hat1
            obtain ⟨a3, c3, rfl⟩ := ownsRow_slice r3
            have hS1 := hS.grown hg1 hS.size (fun g eg => (r2.lt g eg).1)
            refine hK.out _ _ hS1 (fun _ => ?_)
            clear hK K hS r2 hg1 hat1
            have hS := hS1
            clear hS1
            refine wpAnyH_take (i := 15) (v := .slice a3 (k + 1 + (n - k)) c3) rfl (by kernel_rfl) (by kernel_rfl) (by kernel_rfl) (fun _ _ _ h => h) (Or.inl ⟨by rfl, fun w' hw => by go_simp⟩) hS ?_
            refine wpAnyH_done (by kernel_rfl) ?_ _
            have HF := hid (show W6.ownsRow w.heap.size 57 4 (.slice a3 (k + 1 + (n - k)) c3) (joinTo es (fs.take (j + 1))).length (valsOf (joinTo es (fs.take (j + 1)))) ∧ Below w.heap.size w W6 from ⟨by rw [(unhid HSN).1, (unhid HSN).2]; exact ownsRow_base r3 (by omega), (unhid HB2).trans (hS.mono (by omega))⟩)
            obtain ⟨g3, cc3, hv3⟩ := ownsRow_some (unhid HF).1 (by rw [(unhid HSN).1]; omega)
            have HV3 := hid hv3
            clear r3 hS hv3
            go_wp2_with fail
            go_roundw
            case rel => exact ⟨j + 1, by omega, by go_num, ⟨g3, cc3, unhid HV3⟩, hid (unhid HF).1, HOK, hid (unhid HF).2⟩
            case measure => simp [intOf]; omega
        · go_simp
          have o2 : OneAt (W.alloc (.cells #[.string e.path, .int .i64 e.kind, .int .i64 e.mode, .string e.text] 57)) W.heap.size e := World.alloc_heap_new _ _
          have hS1 := hS.alloc hS.size (.cells #[.string e.path, .int .i64 e.kind, .int .i64 e.mode, .string e.text] 57)
          refine hK.out _ _ hS1 (fun _ => ?_)
          clear hK K hS
          generalize W.alloc (.cells #[.string e.path, .int .i64 e.kind, .int .i64 e.mode, .string e.text] 57) = W2 at hS1 o2 ⊢
          generalize W.heap.size = g2 at o2 ⊢
          have hS := hS1
          clear hS1
          refine wpAnyH_ready (rs := [0]) (by kernel_rfl) (by simp) ?_
          refine AllReadyH.cons rfl (fun K hK => ?_) AllReadyH.nil
          go_simp
          have r0 := owns_empty W2 w3.heap.size hS.size 57
          have hS1 := hS.alloc hS.size (.cells #[] 57)
          have o2' := o2.alloc (.cells #[] 57)
          have m2 : (Value.slice (some ⟨W2.heap.size, 0, none⟩) 0 0).ownBlock ≠ some g2 := fun eq => by injection eq with eq; have eq2 : W2.heap.size = g2 := eq; have := o2.lt; omega
          clear o2
          have o2 := o2'
          clear o2'
          refine hK.out _ _ hS1 (fun _ => ?_)
          clear hK K hS
          generalize W2.alloc (.cells #[] 57) = W3 at hS1 r0 o2 ⊢
          generalize W2.heap.size = g0 at r0 m2 ⊢
          have hS := hS1
          clear hS1
          refine wpAnyH_ready (rs := [4]) (by kernel_rfl) (by simp) ?_
          refine AllReadyH.cons rfl (fun K hK => ?_) AllReadyH.nil
          refine step_append_at (by rfl) _ _ 32 (by rfl) w3.heap.size 57 i0 _ 4 48 Tryz.underlying32 (unhid HI).1 (unhid HI).2.1 (unhid HI).2.2.1 (unhid HI).2.2.2 rfl (by decide) (Value.slice (some ⟨g0, 0, none⟩) 0 0) (0) ([]) (by rfl) r0 ⟨g, 0, none⟩ (k) (c) (valsOf (L.take k)) (by rfl) (by rw [valsOf_len, ht1]) (unhid HC1 _ hS) (valsOf_one _) (by unfold maxLen; omega) (by omega) hS.size ?_
          intro v1 W4 r1 hg1 hat1
          rw [Nat.zero_add, List.nil_append] at r1
          obtain ⟨a1, c1, rfl⟩ := ownsRow_slice r1
          have hS1 := hS.grown hg1 hS.size (fun g eg => (r0.lt g eg).1)
          have o2' := o2.grown hg1 (fun eq => m2 eq.symm)
          have m2' : (Value.slice a1 k c1).ownBlock ≠ some g2 := by
            rcases hat1 with h | h <;> rw [h]
            · exact m2
            · intro eq; injection eq with eq; have := o2.lt; omega
          clear o2 m2
          have o2 := o2'
          clear o2'
          have m2 := m2'
          clear m2'
          refine hK.out _ _ hS1 (fun _ => ?_)
          clear hK K hS r0 hg1 hat1
          have hS := hS1
          clear hS1
          refine wpAnyH_ready (rs := [10]) (by kernel_rfl) (by simp) ?_
          refine AllReadyH.cons rfl (fun K hK => ?_) AllReadyH.nil
          refine step_append_at (by rfl) _ _ 32 (by rfl) w3.heap.size 57 i0 _ 4 48 Tryz.underlying32 (unhid HI).1 (unhid HI).2.1 (unhid HI).2.2.1 (unhid HI).2.2.2 rfl (by decide) (Value.slice a1 k c1) (k) (valsOf (L.take k)) (by rfl) r1 ⟨g2, 0, none⟩ (1) (1) (valsOf [e]) (by rfl) (by rw [valsOf_len]; rfl) (o2.cells) (valsOf_one _) (by unfold maxLen; omega) (by omega) hS.size ?_
          intro v2 W5 r2 hg1 hat1
          obtain ⟨a2, c2, rfl⟩ := ownsRow_slice r2
          have hS1 := hS.grown hg1 hS.size (fun g eg => (r1.lt g eg).1)
          refine hK.out _ _ hS1 (fun _ => ?_)
          clear hK K hS r1 hg1 hat1 o2 m2
          have hS := hS1
          clear hS1
          refine wpAnyH_ready (rs := [14]) (by kernel_rfl) (by simp) ?_
          refine AllReadyH.cons rfl (fun K hK => ?_) AllReadyH.nil
          refine step_append_at (by rfl) _ _ 32 (by rfl) w3.heap.size 57 i0 _ 4 48 Tryz.underlying32 (unhid HI).1 (unhid HI).2.1 (unhid HI).2.2.1 (unhid HI).2.2.2 rfl (by decide) (Value.slice a2 (k + 1) c2) (k + 1) (valsOf (L.take k) ++ valsOf [e]) (by rfl) r2 ⟨g, offD c k, none⟩ ((n - k)) ((c - k)) (valsOf (L.drop k)) (by rfl) (by rw [valsOf_len, ht2]) (unhid HC2 _ hS) (valsOf_one _) (by unfold maxLen; omega) (by omega) hS.size ?_
          intro v3 W6 r3 hg1 hat1
          obtain ⟨a3, c3, rfl⟩ := ownsRow_slice r3
          have hS1 := hS.grown hg1 hS.size (fun g eg => (r2.lt g eg).1)
          refine hK.out _ _ hS1 (fun _ => ?_)
          clear hK K hS r2 hg1 hat1
          have hS := hS1
          clear hS1
          refine wpAnyH_take (i := 15) (v := .slice a3 (k + 1 + (n - k)) c3) rfl (by kernel_rfl) (by kernel_rfl) (by kernel_rfl) (fun _ _ _ h => h) (Or.inl ⟨by rfl, fun w' hw => by go_simp⟩) hS ?_
          refine wpAnyH_done (by kernel_rfl) ?_ _
          have HF := hid (show W6.ownsRow w.heap.size 57 4 (.slice a3 (k + 1 + (n - k)) c3) (joinTo es (fs.take (j + 1))).length (valsOf (joinTo es (fs.take (j + 1)))) ∧ Below w.heap.size w W6 from ⟨by rw [(unhid HSN).1, (unhid HSN).2]; exact ownsRow_base r3 (by omega), (unhid HB2).trans (hS.mono (by omega))⟩)
          obtain ⟨g3, cc3, hv3⟩ := ownsRow_some (unhid HF).1 (by rw [(unhid HSN).1]; omega)
          have HV3 := hid hv3
          clear r3 hS hv3
          go_wp2_with fail
          go_roundw
          case rel => exact ⟨j + 1, by omega, by go_num, ⟨g3, cc3, unhid HV3⟩, hid (unhid HF).1, HOK, hid (unhid HF).2⟩
          case measure => simp [intOf]; omega
      · obtain ⟨old, hold, hop⟩ := there_get hth
        have hfo := entFn_get hold
        have hkl : placeE L e.path < L.length := (List.getElem?_eq_some_iff.1 hold).1
        obtain ⟨k0, k1, k2, k3⟩ := (unhid HG3) _ old hold
        simp only [Nat.zero_add] at k0 k1 k2 k3
        obtain ⟨m0, m1, m2, m3⟩ := unhid HE3
        have hse := same_eq (unhid HXE).1 ((unhid HXE).2 old (List.mem_of_getElem? hold)) hop
        cases hk1 : (old.kind == 1)
        · have hno : okJ es fs = false := (unhid HSN0).2.2 (by rw [(unhid HSN0).2.1]; unfold stepJ; rw [hth, hfo, hse, hk1]; simp)
          have E := hid (show (okJ es fs && treeB (joinTo es fs)) = false ∧ joinL es fs = [] by unfold joinL; rw [hno]; exact ⟨rfl, rfl⟩)
          have hkb : (old.kind != 1) = true := by rw [bne, hk1]; rfl
          clear hold hfo hse hop hno hk1
          go_wp2_with fail
          go_quiet (fail)
          have HF := hid (And.intro (owns_empty (w3.drewN nq) w.heap.size hwl 57) (((unhid HB2).trans (drewN_below w3 nq)).alloc (w := w3.drewN nq) hwl (.cells #[] 57)))
          generalize w3.drewN nq = w4 at HF ⊢
          go_wp2_with fail
          go_ret2
          exact ⟨_, by rw [(unhid E).1]; rfl, by rw [(unhid E).2]; exact ⟨_, _, rfl⟩, by rw [(unhid E).2]; exact (unhid HF).1, (unhid HF).2⟩
        · have hne := fun w => ne_ents e old w
          unfold Ent.vals at hne
          have hkb : (old.kind != 1) = false := by rw [bne, hk1]; rfl
          cases hev : eqV e old
          · have hno : okJ es fs = false := (unhid HSN0).2.2 (by rw [(unhid HSN0).2.1]; unfold stepJ; rw [hth, hfo, hse, hev]; simp)
            have E := hid (show (okJ es fs && treeB (joinTo es fs)) = false ∧ joinL es fs = [] by unfold joinL; rw [hno]; exact ⟨rfl, rfl⟩)
            rw [hev] at hne
            clear hold hfo hse hop hno hk1
            go_wp2_with fail
            go_quiet (fail)
            have HF := hid (And.intro (owns_empty (w3.drewN nq) w.heap.size hwl 57) (((unhid HB2).trans (drewN_below w3 nq)).alloc (w := w3.drewN nq) hwl (.cells #[] 57)))
            generalize w3.drewN nq = w4 at HF ⊢
            go_wp2_with fail
            go_ret2
            exact ⟨_, by rw [(unhid E).1]; rfl, by rw [(unhid E).2]; exact ⟨_, _, rfl⟩, by rw [(unhid E).2]; exact (unhid HF).1, (unhid HF).2⟩
          · have heo := eqV_eq hev
            have HSN := hid (show joinTo es (fs.take (j + 1)) = L by rw [(unhid HSN0).1]; exact put_same hth (by rw [hfo, heo]))
            have HOK := hid (show okJ es (fs.take (j + 1)) = true by rw [(unhid HSN0).2.1, unhid HA]; unfold stepJ; rw [hfo, hse, hk1, hev]; simp)
            rw [hev] at hne
            clear hold hfo hse hop hk1 heo
            go_wp2_with fail
            go_quiet (fail)
            have hBq : Below w3.heap.size w3 (w3.drewN nq) := drewN_below _ _
            have HF := hid (And.intro (ownsRow_kept (unhid HO3) (fun g eg => hBq.block g ((unhid HO3).lt g eg).2)) ((unhid HB2).trans (drewN_below w3 nq)))
            generalize w3.drewN nq = w4 at HF ⊢
            go_wp2_with fail
            go_roundw
            case rel => exact ⟨j + 1, by omega, by go_num, ⟨g, c, by rw [unhid HSN]⟩, hid (by rw [unhid HSN]; exact (unhid HF).1), HOK, hid (unhid HF).2⟩
            case measure => simp [intOf]; omega
    · have e : j = fs.length := by omega
      subst e
      rw [List.take_of_length_le (Nat.le_refl _)] at HO HA ⊢
      obtain ⟨a1, cap1, ev, hRI⟩ := rowIn_of_owns (unhid HO)
      have hsm : smallE (joinTo es fs) := small_all (by have := joinTo_len es fs; omega) (fun x hx => by
        rcases joinTo_mem es _ x hx with h | h
        · exact hae x h
        · exact haf x h)
      injection ev with ev1 ev2 ev3
      subst ev1
      have TOK := hid (specTreeOk_any (joinTo es fs) (some ⟨g, 0, none⟩) c wr hsm hRI.at)
      have E := hid (show (okJ es fs && treeB (joinTo es fs)) = treeB (joinTo es fs) ∧ joinL es fs = joinTo es fs by unfold joinL; rw [unhid HA]; exact ⟨rfl, rfl⟩)
      clear hRI hsm ev2 ev3
      go_wp2_with fail
      refine (unhid TOK).mono ?_
      rintro x w9 ⟨rfl, hB9⟩
      have HF := hid (And.intro (ownsRow_kept (unhid HO) (fun g eg => hB9.block g ((unhid HO).lt g eg).2)) ((unhid HB).trans (hB9.mono (unhid HB).size)))
      clear hB9 TOK
      go_wp2_with fail
      go_ret2
      exact ⟨_, by rw [(unhid E).1]; rfl, by rw [(unhid E).2]; exact ⟨_, _, rfl⟩, by rw [(unhid E).2]; exact (unhid HF).1, (unhid HF).2⟩
end Go.Proofs.YtoihhlkidlapmaaGreat

namespace Go.Proofs.YtoihhlkidlapmaaGreat
open Go.RowKit Go.Shelf
def treeOfP (p : packC.D) : List Ent := entsD (PackD.tree p)
def joinO : List Ent → List packC.D → Option (List Ent)
  | acc, [] => some acc
  | acc, p :: ps => if okJ acc (treeOfP p) && treeB (joinTo acc (treeOfP p)) then joinO (joinTo acc (treeOfP p)) ps else none
def joinG (ps : List packC.D) : List Ent := (joinO [] ps).getD []
def joinS (ps : List packC.D) : Bool := (joinO [] ps).isSome
theorem joinO_yes {acc : List Ent} {ps : List packC.D} {k : Nat} {p : packC.D} (hp : ps[k]? = some p) (h : (okJ acc (treeOfP p) && treeB (joinTo acc (treeOfP p))) = true) : joinO acc (ps.drop k) = joinO (joinTo acc (treeOfP p)) (ps.drop (k + 1)) := by
  obtain ⟨hl, e⟩ := List.getElem?_eq_some_iff.1 hp
  rw [List.drop_eq_getElem_cons hl, e, joinO, if_pos h]
theorem joinO_no {acc : List Ent} {ps : List packC.D} {k : Nat} {p : packC.D} (hp : ps[k]? = some p) (h : (okJ acc (treeOfP p) && treeB (joinTo acc (treeOfP p))) = false) : joinO acc (ps.drop k) = none := by
  obtain ⟨hl, e⟩ := List.getElem?_eq_some_iff.1 hp
  rw [List.drop_eq_getElem_cons hl, e, joinO, if_neg (by rw [h]; exact Bool.false_ne_true)]
theorem pk_tree {p : packC.D} (h : pkOk p = true) : treeB (treeOfP p) = true := by
  unfold pkOk at h
  simp only [Bool.and_eq_true] at h
  exact h.2
theorem tree_in {W : World} {e : packC.D} {na ta : Option Addr} {nc tc : Nat} (h : packC.at_ W [.string (PackD.name e), .string (PackD.version e), .slice na (PackD.needs e).length nc, .slice ta (PackD.tree e).length tc] e) : EntsAt W ta (treeOfP e) ∧ (treeOfP e).length = (PackD.tree e).length ∧ (ta = none → tc = 0) := by
  obtain ⟨v2, v3, e1, h2, h3⟩ := packC_at h
  injection e1 with _ e1
  injection e1 with _ e1
  injection e1 with _ e1
  injection e1 with e2 _
  subst e2
  obtain ⟨a, cap, ev, hn, hc, hr⟩ := entsD_at h3
  injection ev with ea _ ec
  subst ea ec
  exact ⟨hr, entsD_len _, hn⟩
theorem ents_all {W : World} {b o : Nat} {es : List Ent} (h : EntsAt W (some ⟨b, o, none⟩) es) : ∀ (i : Nat) e, es[i]? = some e → EntAt W b (o + i * 4) e := by
  rcases h with rfl | ⟨b', o', e, _, hc⟩
  · intro i e hi; cases hi
  · cases e; exact hc
theorem treeB_nil : treeB [] = true := by rfl
set_option maxRecDepth 100000 in
set_option maxHeartbeats 4000000 in
theorem l9Tree_any (ps : List packC.D) (v : Value) (w : World) (hlen : ps.length ≤ 1048576) (hf : formB ps = true) (h : rowAt packC w v ps) :
    Calls Tryz.prog 94 #[v] w fun x w' => ∃ u, x = .returned (.tuple #[u, .bool (joinS ps)]) ∧ w'.ownsRow w.heap.size 57 4 u (joinG ps).length (valsOf (joinG ps)) ∧ Below w.heap.size w w' := by
  obtain ⟨a, cap, rfl, -, -, h⟩ := h
  have HF := hid hf
  have H := hid h
  clear h hf
  have HO0 := hid (owns_empty w w.heap.size (Nat.le_refl _) 57)
  have HB0 := hid (show Below w.heap.size w (w.alloc (.cells #[] 57)) from (Below.refl _ w).alloc (Nat.le_refl _) _)
  go_enter Tryz.func94, Tryz.ntmps94
  go_wp2_with fail
  generalize w.alloc (.cells #[] 57) = wa at HO0 HB0 ⊢
  go_loopw [4, 5] (fun s i wr => ∃ (k : Nat) (acc : List Ent) (g c : Nat), k ≤ ps.length ∧ i = .int .i64 (k : Int) ∧ s = .slice (some ⟨g, 0, none⟩) acc.length c ∧ Hid (joinO [] ps = joinO acc (ps.drop k)) ∧ Hid (treeB acc = true) ∧ Hid (wr.ownsRow w.heap.size 57 4 (.slice (some ⟨g, 0, none⟩) acc.length c) acc.length (valsOf acc)) ∧ Hid (Below w.heap.size w wr)) (fun _ i _ => ps.length - (intOf i).toNat)
  case atStart => exact ⟨0, [], _, _, Nat.zero_le _, rfl, rfl, hid rfl, hid treeB_nil, HO0, HB0⟩
  case round =>
    clear HO0 HB0
    obtain ⟨k, acc, g, c, hk, rfl, rfl, HJ, HT, HO, HB⟩ := hrel
    by_cases hlt : k < ps.length
    · obtain ⟨e, he⟩ : ∃ e, ps[k]? = some e := ⟨ps[k], List.getElem?_eq_getElem hlt⟩
      obtain ⟨b, o, rfl, hbl, hc⟩ := (unhid H).resolve_left (by intro e; subst e; simp at hlt)
      obtain ⟨na, nc, ta, tc, ⟨c0, c1, c2, c3⟩, hat⟩ := pack_cells (unhid HB) hbl hc he
      obtain ⟨hte, htl, htn⟩ := tree_in hat
      have HTE := hid (pk_tree (form_ok (unhid HF) he))
      have hgl := ((unhid HO).lt g rfl).2
      obtain ⟨a1, cap1, ev, hRI⟩ := rowIn_of_owns (unhid HO)
      injection ev with ev1 ev2 ev3
      subst ev1
      have JN := hid (l2Join_N acc (treeOfP e) g 0 c ta tc wr (unhid HT) (unhid HTE) (ents_all hRI.at) hgl hte)
      rw [htl] at JN
      have HE := hid he
      clear c0 c1 c2 hat hc he hbl hte htn hgl hRI ev2 ev3 htl
      go_wp2_with fail
      refine (unhid JN).mono ?_
      rintro x w2 ⟨u, rfl, ⟨g2, cc, rfl⟩, ho, hb⟩
      have HB2 := hid ((unhid HB).trans (hb.mono (unhid HB).size))
      have HO2 := hid (ownsRow_lowerS ho (unhid HB).size)
      clear ho hb JN c3
      cases hq : (okJ acc (treeOfP e) && treeB (joinTo acc (treeOfP e))) with
      | false =>
        have EN := hid (show joinO [] ps = none from (unhid HJ).trans (joinO_no (unhid HE) hq))
        have HOE := hid (owns_empty w2 w.heap.size (unhid HB2).size 57)
        have HBE := hid (show Below w.heap.size w (w2.alloc (.cells #[] 57)) from (unhid HB2).alloc (unhid HB2).size _)
        clear HO2 hq
        go_wp2_with fail
        generalize w2.alloc (.cells #[] 57) = w3 at HOE HBE ⊢
        go_ret2
        exact ⟨_, by unfold joinS; rw [unhid EN]; rfl, by unfold joinG; rw [unhid EN]; exact unhid HOE, unhid HBE⟩
      | true =>
        have hj : joinL acc (treeOfP e) = joinTo acc (treeOfP e) := by
          rw [Bool.and_eq_true] at hq
          unfold joinL
          rw [if_pos hq.1]
        have HJ2 := hid ((unhid HJ).trans (joinO_yes (unhid HE) hq))
        have HT2 := hid (show treeB (joinTo acc (treeOfP e)) = true by rw [Bool.and_eq_true] at hq; exact hq.2)
        rw [hj] at HO2 ⊢
        generalize joinTo acc (treeOfP e) = acc2 at *
        clear hj hq
        go_wp2_with fail
        go_roundw
        case rel => exact ⟨k + 1, acc2, g2, cc, by omega, by go_num, rfl, HJ2, HT2, HO2, HB2⟩
        case measure => simp [intOf]; omega
    · have e : k = ps.length := by omega
      subst e
      have EN := hid (show joinO [] ps = some acc by
        have := unhid HJ
        rwa [List.drop_eq_nil_of_le (Nat.le_refl _)] at this)
      go_wp2_with fail
      go_ret2
      exact ⟨_, by unfold joinS; rw [unhid EN]; rfl, by unfold joinG; rw [unhid EN]; exact unhid HO, unhid HB⟩
set_option maxRecDepth 100000 in
set_option maxHeartbeats 4000000 in
theorem joinAll_any (ps : List packC.D) (v : Value) (w : World) (hs : smallPs ps) (hf : formB ps = true) (h : rowAt packC w v ps) :
    Calls Tryz.prog 84 #[v] w fun x w' => ∃ u, x = .returned (.tuple #[u, .bool (joinS ps)]) ∧ w'.ownsRow w.heap.size 57 4 u (joinG ps).length (valsOf (joinG ps)) ∧ Below w.heap.size w w' := by
  obtain ⟨a, cap, rfl, -, -, h⟩ := h
  have hlen := hs.1
  have HSM := hid hs
  have HF := hid hf
  have H := hid h
  clear h hf hs
  have HO0 := hid (show w.ownsRow w.heap.size 57 4 (.slice none 0 0) ([] : List Ent).length (valsOf []) from ⟨rfl, .inl ⟨rfl, rfl⟩⟩)
  go_enter Tryz.func84, Tryz.ntmps84
  go_wp2_with fail
  go_loopw [4, 11] (fun s i wr => ∃ (k : Nat) (acc : List Ent) (ga : Option Addr) (c : Nat), k ≤ ps.length ∧ i = .int .i64 (k : Int) ∧ s = .slice ga acc.length c ∧ Hid (joinO [] ps = joinO acc (ps.drop k)) ∧ Hid (treeB acc = true) ∧ Hid (wr.ownsRow w.heap.size 57 4 (.slice ga acc.length c) acc.length (valsOf acc)) ∧ Hid (Below w.heap.size w wr)) (fun _ i _ => ps.length - (intOf i).toNat)
  case atStart => exact ⟨0, [], _, _, Nat.zero_le _, rfl, rfl, hid rfl, hid treeB_nil, HO0, hid (Below.refl _ _)⟩
  case round =>
    clear HO0
    obtain ⟨k, acc, ga, c, hk, rfl, rfl, HJ, HT, HO, HB⟩ := hrel
    by_cases hlt : k < ps.length
    · obtain ⟨e, he⟩ : ∃ e, ps[k]? = some e := ⟨ps[k], List.getElem?_eq_getElem hlt⟩
      obtain ⟨b, o, rfl, hbl, hc⟩ := (unhid H).resolve_left (by intro e; subst e; simp at hlt)
      obtain ⟨na, nc, ta, tc, ⟨c0, c1, c2, c3⟩, hat⟩ := pack_cells (unhid HB) hbl hc he
      obtain ⟨hte, htl, htn⟩ := tree_in hat
      have HTE := hid (pk_tree (form_ok (unhid HF) he))
      have hst : smallE (treeOfP e) := ((unhid HSM).2 e (List.mem_of_getElem? he)).tree
      have hsa : smallE acc := small_all (by have := tree_16 (unhid HT); omega) (tree_all (unhid HT))
      obtain ⟨a1, cap1, ev, hRI⟩ := rowIn_of_owns (unhid HO)
      injection ev with ev1 ev2 ev3
      subst ev1
      have JN := hid (fun W (hb : Below wr.heap.size wr W) => treeJoin_any acc (treeOfP e) ga ta c tc W hsa hst (hRI.at.below hb) (hte.below hb))
      rw [htl] at JN
      have HE := hid he
      have HB1 := hid (show ∀ x, Below wr.heap.size wr (wr.alloc x) from fun x => (Below.refl _ wr).alloc (Nat.le_refl _) x)
      clear hat hc he hbl hte htn hRI ev2 ev3 htl hst hsa
      go_wp2_with fail
      have hb1 := unhid HB1 (.cells #[.string (PackD.name e), .string (PackD.version e), .slice na (PackD.needs e).length nc, .slice ta (PackD.tree e).length tc] 34)
      generalize wr.alloc (.cells #[.string (PackD.name e), .string (PackD.version e), .slice na (PackD.needs e).length nc, .slice ta (PackD.tree e).length tc] 34) = w1 at hb1 ⊢
      refine (unhid JN w1 hb1).mono ?_
      rintro x w2 ⟨u, rfl, ho, hb⟩
      have hbb := hb1.trans (hb.mono hb1.size)
      have HB2 := hid ((unhid HB).trans (hbb.mono (unhid HB).size))
      have HO2 := hid (ownsRow_lowerS ho ((unhid HB).trans (hb1.mono (unhid HB).size)).size)
      have hjo : joinOk acc (treeOfP e) = (okJ acc (treeOfP e) && treeB (joinTo acc (treeOfP e))) := by unfold joinOk; rw [unhid HT, unhid HTE]; rfl
      obtain ⟨u1, u2, hu⟩ := ownsRow_slice ho
      subst hu
      clear ho hb JN c3 c0 c1 c2 hb1 hbb HB1
      cases hq : (okJ acc (treeOfP e) && treeB (joinTo acc (treeOfP e))) with
      | false =>
        have EN := hid (show joinO [] ps = none from (unhid HJ).trans (joinO_no (unhid HE) hq))
        have HOE := hid (show w2.ownsRow w.heap.size 57 4 (.slice none 0 0) ([] : List Ent).length (valsOf []) from ⟨rfl, .inl ⟨rfl, rfl⟩⟩)
        rw [hq] at hjo
        rw [hjo]
        clear HO2 hq hjo
        go_wp2_with fail
        go_ret2
        exact ⟨_, by unfold joinS; rw [unhid EN]; rfl, by unfold joinG; rw [unhid EN]; exact unhid HOE, unhid HB2⟩
      | true =>
        have hj : joinR acc (treeOfP e) = joinTo acc (treeOfP e) := by
          unfold joinR
          rw [hjo, hq, if_pos rfl]
        have HJ2 := hid ((unhid HJ).trans (joinO_yes (unhid HE) hq))
        have HT2 := hid (show treeB (joinTo acc (treeOfP e)) = true by rw [Bool.and_eq_true] at hq; exact hq.2)
        rw [hq] at hjo
        rw [hjo]
        rw [hj] at HO2 ⊢
        generalize joinTo acc (treeOfP e) = acc2 at *
        clear hj hq hjo
        go_wp2_with fail
        go_roundw
        case rel => exact ⟨k + 1, acc2, u1, u2, by omega, by go_num, rfl, HJ2, HT2, HO2, HB2⟩
        case measure => simp [intOf]; omega
    · have e : k = ps.length := by omega
      subst e
      have EN := hid (show joinO [] ps = some acc by
        have := unhid HJ
        rwa [List.drop_eq_nil_of_le (Nat.le_refl _)] at this)
      go_wp2_with fail
      go_ret2
      exact ⟨_, by unfold joinS; rw [unhid EN]; rfl, by unfold joinG; rw [unhid EN]; exact unhid HO, unhid HB⟩
end Go.Proofs.YtoihhlkidlapmaaGreat

namespace Go.Proofs.YtoihhlkidlapmaaGreat
open Go.RowKit Go.Shelf
structure RootD where
  packs : List packC.D
end Go.Proofs.YtoihhlkidlapmaaGreat

namespace Go.Proofs.YtoihhlkidlapmaaGreat
open Go.RowKit Go.Shelf
def rootCode (ps : List packC.D) : Int := if formB ps then (if ps.length ≤ 5 then (if needsB ps then (if joinS ps then 0 else 5) else 4) else 6) else 1
theorem code_form {ps : List packC.D} (h : formB ps = false) : rootCode ps = 1 := by unfold rootCode; rw [h]; rfl
theorem code_full {ps : List packC.D} (h : formB ps = true) (h2 : ¬ ps.length ≤ 5) : rootCode ps = 6 := by unfold rootCode; rw [if_pos h, if_neg h2]
theorem code_needs {ps : List packC.D} (h : formB ps = true) (h2 : ps.length ≤ 5) (h3 : needsB ps = false) : rootCode ps = 4 := by unfold rootCode; rw [if_pos h, if_pos h2, h3]; rfl
theorem code_join {ps : List packC.D} (h : formB ps = true) (h2 : ps.length ≤ 5) (h3 : needsB ps = true) (h4 : joinS ps = false) : rootCode ps = 5 := by unfold rootCode; rw [if_pos h, if_pos h2, if_pos h3, h4]; rfl
theorem code_fine {ps : List packC.D} (h : formB ps = true) (h2 : ps.length ≤ 5) (h3 : needsB ps = true) (h4 : joinS ps = true) : rootCode ps = 0 := by unfold rootCode; rw [if_pos h, if_pos h2, if_pos h3, if_pos h4]
theorem code_0 {ps : List packC.D} (h : rootCode ps = 0) : formB ps = true ∧ ps.length ≤ 5 ∧ needsB ps = true ∧ joinS ps = true := by
  unfold rootCode at h
  split at h
  · split at h
    · split at h
      · split at h
        · exact ⟨by assumption, by assumption, by assumption, by assumption⟩
        · cases h
      · cases h
    · cases h
  · cases h
set_option maxRecDepth 100000 in
set_option maxHeartbeats 8000000 in
theorem l9Check_any (ps : List packC.D) (v : Value) (w : World) (hs : smallPs ps) (h : rowAt packC w v ps) :
    Calls Tryz.prog 80 #[v] w fun x w' => x = .returned (.int .i64 (rootCode ps)) ∧ Below w.heap.size w w' := by
  have HR := hid h
  obtain ⟨a, cap, rfl, -, -, h⟩ := h
  have hlen := hs.1
  have HSM := hid hs
  have H := hid h
  clear h hs
  go_enter Tryz.func80, Tryz.ntmps80
  go_wp2_with fail
  go_loopw [3] (fun i wr => ∃ k : Nat, k ≤ ps.length ∧ i = .int .i64 (k : Int) ∧ Hid ((List.range k).all (okAt ps) = true) ∧ Hid (Below w.heap.size w wr)) (fun i _ => ps.length - (intOf i).toNat)
  case atStart => exact ⟨0, Nat.zero_le _, rfl, hid rfl, hid (Below.refl _ _)⟩
  case round =>
    obtain ⟨k, hk, rfl, HA, HB⟩ := hrel
    by_cases hlt : k < ps.length
    · obtain ⟨e, he⟩ : ∃ e, ps[k]? = some e := ⟨ps[k], List.getElem?_eq_getElem hlt⟩
      obtain ⟨b, o, rfl, hbl, hc⟩ := (unhid H).resolve_left (by intro e; subst e; simp at hlt)
      obtain ⟨na, nc, ta, tc, ⟨c0, c1, c2, c3⟩, hat⟩ := pack_cells (unhid HB) hbl hc he
      have hbw : b < wr.heap.size := Nat.lt_of_lt_of_le hbl (unhid HB).size
      have HBW := hid hbw
      have HE := hid he
      have SP := hid ((unhid HSM).2 e (List.mem_of_getElem? he))
      have PK := hid (fun W (hb : Below wr.heap.size wr W) => specPackOk_any e _ W (unhid SP) (packC.below hat hb))
      have g0 : ∀ x : CW (fun w' => Below wr.heap.size wr w'), x.w.cell? ⟨b, o + k * 4, none⟩ = some (.string (PackD.name e)) := fun x => (x.h.cell (p := ⟨b, o + k * 4, none⟩) hbw).trans c0
      have g1 : ∀ x : CW (fun w' => Below wr.heap.size wr w'), x.w.cell? ⟨b, o + k * 4 + 1, none⟩ = some (.string (PackD.version e)) := fun x => (x.h.cell (p := ⟨b, o + k * 4 + 1, none⟩) hbw).trans c1
      have g2 : ∀ x : CW (fun w' => Below wr.heap.size wr w'), x.w.cell? ⟨b, o + k * 4 + 2, none⟩ = some (.slice na (PackD.needs e).length nc) := fun x => (x.h.cell (p := ⟨b, o + k * 4 + 2, none⟩) hbw).trans c2
      have g3 : ∀ x : CW (fun w' => Below wr.heap.size wr w'), x.w.cell? ⟨b, o + k * 4 + 3, none⟩ = some (.slice ta (PackD.tree e).length tc) := fun x => (x.h.cell (p := ⟨b, o + k * 4 + 3, none⟩) hbw).trans c3
      have hba : ∀ {q : Prop}, (CW (fun w' => Below wr.heap.size wr w') → q) ↔ q := CW.all (Below.refl _ wr)
      by_cases hk0 : k = 0
      · subst hk0
        have EK := hid (okAt_0 he)
        have g5 : ∀ x : CW (fun w' => Below wr.heap.size wr w'), x.w.cell? ⟨b, o, none⟩ = some (.string (PackD.name e)) := fun x => by have := g0 x; rwa [Nat.zero_mul] at this
        have g6 : ∀ x : CW (fun w' => Below wr.heap.size wr w'), x.w.cell? ⟨b, o + 1, none⟩ = some (.string (PackD.version e)) := fun x => by have := g1 x; rwa [Nat.zero_mul] at this
        have g7 : ∀ x : CW (fun w' => Below wr.heap.size wr w'), x.w.cell? ⟨b, o + 2, none⟩ = some (.slice na (PackD.needs e).length nc) := fun x => by have := g2 x; rwa [Nat.zero_mul] at this
        have g8 : ∀ x : CW (fun w' => Below wr.heap.size wr w'), x.w.cell? ⟨b, o + 3, none⟩ = some (.slice ta (PackD.tree e).length tc) := fun x => by have := g3 x; rwa [Nat.zero_mul] at this
        clear hc he hbl hat c0 c1 c2 c3 g0 g1 g2 g3
        go_wp2_with fail
        refine held_begin (fun w' => Below wr.heap.size wr w') (by kernel_rfl) (drew_belowS _) ?_
        refine held_here [true, true, true, true] (by kernel_rfl) (by kernel_rfl) (fun _ _ _ _ _ h => h) (drew_belowS _) ?_
        dsimp only [pick]
        repeat (go_big_quiet_step (fail))
        refine wpQuiet_nil ?_
        have hD := drew_belowS (B := wr.heap.size) wr
        generalize wr.drew = W1 at hD ⊢
        refine held_call 4 122 16 (enters_of Tryz.func122 (by kernel_rfl) rfl) #[.agg #[.string (PackD.name e), .string (PackD.version e), .slice na (PackD.needs e).length nc, .slice ta (PackD.tree e).length tc]] (by kernel_rfl) (by kernel_rfl) rfl rfl rfl rfl rfl ?_
        refine (unhid PK W1 hD).mono ?_
        rintro r w2 ⟨rfl, hb⟩
        have hD2 := hD.trans (hb.mono hD.size)
        have HB4 := hid ((unhid HB).trans (hD2.mono (unhid HB).size))
        refine ⟨_, rfl, hD2, ?_⟩
        simp only [Act.put, List.setIfInBounds_toArray, List.set_cons_zero, List.set_cons_succ]
        clear hb
        cases hq : pkOk e with
        | false =>
          refine held_here [false, false, false, false, false, true, true, true, true, true, true, true, true, true, true, true, true, true, true, true, true, true, true, true] (by kernel_rfl) (by kernel_rfl) (fun _ _ _ _ _ h => h) hD2 ?_
          dsimp only [pick]
          repeat (go_big_quiet_step (fail))
          refine wpQuiet_nil ?_
          refine held_done (by kernel_rfl) ?_
          have E := hid (code_form (show formB ps = false by unfold formB; rw [all_range_no hlt (by rw [unhid EK, hq])]))
          clear hba hD hD2 g5 g6 g7 g8
          go_wp2_with fail
          go_ret
          exact ⟨by rw [unhid E]; rfl, unhid HB4⟩
        | true =>
          have HQ := hid hq
          clear hq
          refine held_here [false, false, false, false, false, true, true, true, true, true, true, true, true, true, true, true, true, true, true, true, true, true, true, true] (by kernel_rfl) (by kernel_rfl) (fun _ _ _ _ _ h => h) hD2 ?_
          dsimp only [pick]
          repeat (go_big_quiet_step (fail))
          refine wpQuiet_nil ?_
          refine held_done (by kernel_rfl) ?_
          clear hba hD hD2 g5 g6 g7 g8
          go_wp2_with fail
          go_roundw
          case rel => exact ⟨1, by omega, by go_num, hid (all_range_snoc rfl (by rw [unhid EK, unhid HQ])), HB4⟩
          case measure => simp [intOf]; omega
      · obtain ⟨j, rfl⟩ : ∃ j, k = j + 1 := ⟨k - 1, by omega⟩
        obtain ⟨d, hd⟩ : ∃ d, ps[j]? = some d := ⟨ps[j], List.getElem?_eq_getElem (by omega)⟩
        obtain ⟨-, -, -, -, ⟨d0, -, -, -⟩, -⟩ := pack_cells (unhid HB) hbl hc hd
        have EK := hid (okAt_s he hd)
        have g4 : ∀ x : CW (fun w' => Below wr.heap.size wr w'), x.w.cell? ⟨b, o + j * 4, none⟩ = some (.string (PackD.name d)) := fun x => (x.h.cell (p := ⟨b, o + j * 4, none⟩) hbw).trans d0
        have hjj : ((j + 1 : Nat) : Int) - 1 = (j : Int) := by omega
        have hpos : decide ((0 : Int) < ((j + 1 : Nat) : Int)) = true := decide_eq_true (by omega)
        have hnp : (decide (((j + 1 : Nat) : Int) < 0) || (((j + 1 : Nat) : Int) == 0)) = false := by
          rw [decide_eq_false (by omega), Bool.false_or]
          exact beq_eq_false_iff_ne.2 (by omega)
        clear hc he hbl hat c0 c1 c2 c3 hd d0
        go_wp2_with fail
        refine held_begin (fun w' => Below wr.heap.size wr w') (by kernel_rfl) (drew_belowS _) ?_
        refine held_here [true, true, true, true] (by kernel_rfl) (by kernel_rfl) (fun _ _ _ _ _ h => h) (drew_belowS _) ?_
        dsimp only [pick]
        repeat (go_big_quiet_step (fail))
        refine wpQuiet_nil ?_
        have hD := drew_belowS (B := wr.heap.size) wr
        generalize wr.drew = W1 at hD ⊢
        refine held_call 4 122 16 (enters_of Tryz.func122 (by kernel_rfl) rfl) #[.agg #[.string (PackD.name e), .string (PackD.version e), .slice na (PackD.needs e).length nc, .slice ta (PackD.tree e).length tc]] (by kernel_rfl) (by kernel_rfl) rfl rfl rfl rfl rfl ?_
        refine (unhid PK W1 hD).mono ?_
        rintro r w2 ⟨rfl, hb⟩
        have hD2 := hD.trans (hb.mono hD.size)
        have HB4 := hid ((unhid HB).trans (hD2.mono (unhid HB).size))
        refine ⟨_, rfl, hD2, ?_⟩
        simp only [Act.put, List.setIfInBounds_toArray, List.set_cons_zero, List.set_cons_succ]
        clear hb
        cases hq : pkOk e with
        | false =>
          refine held_here [false, false, false, false, false, true, true, true, true, true, true, true, true, true, true, true, true, true, true, true, true, true, true, true] (by kernel_rfl) (by kernel_rfl) (fun _ _ _ _ _ h => h) hD2 ?_
          dsimp only [pick]
          repeat (go_big_quiet_step (fail))
          refine wpQuiet_nil ?_
          refine held_done (by kernel_rfl) ?_
          have E := hid (code_form (show formB ps = false by unfold formB; rw [all_range_no hlt (by rw [unhid EK, hq]; rfl)]))
          clear hba hD hD2 g0 g1 g2 g3 g4 hpos hnp
          go_wp2_with fail
          go_ret
          exact ⟨by rw [unhid E]; rfl, unhid HB4⟩
        | true =>
          have HQ := hid hq
          clear hq
          cases hls : ltS (PackD.name d) (PackD.name e) with
          | false =>
            have hl2 : Op.bytesLess (PackD.name d).toList (PackD.name e).toList = false := hls
            refine held_here [false, false, false, false, false, true, true, true, true, true, true, true, true, true, true, true, true, true, true, true, true, true, true, true] (by kernel_rfl) (by kernel_rfl) (fun _ _ _ _ _ h => h) hD2 ?_
            dsimp only [pick]
            repeat (go_big_quiet_step (fail))
            refine wpQuiet_nil ?_
            refine held_done (by kernel_rfl) ?_
            have E := hid (code_form (show formB ps = false by unfold formB; rw [all_range_no hlt (by rw [unhid EK, hls, Bool.and_false])]))
            clear hba hD hD2 g0 g1 g2 g3 g4 hpos hnp hls hl2
            go_wp2_with fail
            go_ret
            exact ⟨by rw [unhid E]; rfl, unhid HB4⟩
          | true =>
            have hl2 : Op.bytesLess (PackD.name d).toList (PackD.name e).toList = true := hls
            have HLS := hid hls
            refine held_here [false, false, false, false, false, true, true, true, true, true, true, true, true, true, true, true, true, true, true, true, true, true, true, true] (by kernel_rfl) (by kernel_rfl) (fun _ _ _ _ _ h => h) hD2 ?_
            dsimp only [pick]
            repeat (go_big_quiet_step (fail))
            refine wpQuiet_nil ?_
            refine held_done (by kernel_rfl) ?_
            clear hba hD hD2 g0 g1 g2 g3 g4 hpos hnp hls hl2
            go_wp2_with fail
            go_roundw
            case rel => exact ⟨j + 1 + 1, by omega, by go_num, hid (all_range_snoc (unhid HA) (by rw [unhid EK, unhid HQ, unhid HLS]; rfl)), HB4⟩
            case measure => simp [intOf]; omega
    · have e : k = ps.length := by omega
      subst e
      have HF := hid (show formB ps = true from unhid HA)
      clear HA
      go_wp2_with fail
      refine (l9Tree_any ps _ wr hlen (unhid HF) ((unhid HR).below (unhid HB))).mono ?_
      rintro x w2 ⟨u, rfl, -, hb⟩
      have HB2 := hid ((unhid HB).trans (hb.mono (unhid HB).size))
      clear hb
      by_cases h5 : ps.length ≤ 5
      · go_wp2_with fail
        refine (l9Needs_any ps _ w2 (unhid HSM) (unhid HF) ((unhid HR).below (unhid HB2))).mono ?_
        rintro x w3 ⟨rfl, hb⟩
        have HB3 := hid ((unhid HB2).trans (hb.mono (unhid HB2).size))
        clear hb
        cases hn : needsB ps with
        | false =>
          have E := hid (code_needs (unhid HF) h5 hn)
          go_wp2_with fail
          go_ret
          exact ⟨by rw [unhid E]; rfl, unhid HB3⟩
        | true =>
          cases hj : joinS ps with
          | false =>
            have E := hid (code_join (unhid HF) h5 hn hj)
            go_wp2_with fail
            go_ret
            exact ⟨by rw [unhid E]; rfl, unhid HB3⟩
          | true =>
            have E := hid (code_fine (unhid HF) h5 hn hj)
            go_wp2_with fail
            go_ret
            exact ⟨by rw [unhid E]; rfl, unhid HB3⟩
      · have E := hid (code_full (unhid HF) h5)
        go_wp2_with fail
        go_ret
        exact ⟨by rw [unhid E]; rfl, unhid HB2⟩
def formCode (ps : List packC.D) : Int := if formB ps then 0 else 1
def fullCode (ps : List packC.D) : Int := if ps.length ≤ 5 then 0 else 6
def clashCode (ps : List packC.D) : Int := if joinS ps then 0 else 5
set_option maxRecDepth 100000 in
set_option maxHeartbeats 1000000 in
theorem askForm_any (ps : List packC.D) (v : Value) (w : World) (hs : smallPs ps) (h : rowAt packC w v ps) :
    Calls Tryz.prog 149 #[v] w fun x w' => x = .returned (.int .i64 (formCode ps)) ∧ Below w.heap.size w w' := by
  have K := hid (packsByName_any ps v w hs h)
  obtain ⟨a, c, rfl, -⟩ := rowAt.slice h
  clear hs h
  go_enter Tryz.func149, Tryz.ntmps149
  go_wp2_with fail
  refine (unhid K).mono ?_
  rintro x w2 ⟨rfl, hb⟩
  have HB := hid hb
  clear hb
  cases hq : formB ps with
  | false =>
    go_wp2_with fail
    go_ret
    exact ⟨by unfold formCode; rw [hq]; rfl, unhid HB⟩
  | true =>
    go_wp2_with fail
    go_ret
    exact ⟨by unfold formCode; rw [hq]; rfl, unhid HB⟩
set_option maxRecDepth 100000 in
set_option maxHeartbeats 1000000 in
theorem askFull_any (ps : List packC.D) (v : Value) (w : World) (hs : smallPs ps) (h : rowAt packC w v ps) :
    Calls Tryz.prog 150 #[v] w fun x w' => x = .returned (.int .i64 (fullCode ps)) ∧ Below w.heap.size w w' := by
  obtain ⟨a, c, rfl, -⟩ := rowAt.slice h
  have hlen := hs.1
  clear hs h
  by_cases h5 : ps.length ≤ 5
  · go_enter Tryz.func150, Tryz.ntmps150
    go_wp2_with fail
    go_ret
    exact ⟨by unfold fullCode; rw [if_pos h5]; rfl, Below.refl _ _⟩
  · go_enter Tryz.func150, Tryz.ntmps150
    go_wp2_with fail
    go_ret
    exact ⟨by unfold fullCode; rw [if_neg h5]; rfl, Below.refl _ _⟩
set_option maxRecDepth 100000 in
set_option maxHeartbeats 1000000 in
theorem askClash_any (ps : List packC.D) (v : Value) (w : World) (hs : smallPs ps) (hf : formB ps = true) (h : rowAt packC w v ps) :
    Calls Tryz.prog 152 #[v] w fun x w' => x = .returned (.int .i64 (clashCode ps)) ∧ Below w.heap.size w w' := by
  have K := hid (joinAll_any ps v w hs hf h)
  obtain ⟨a, c, rfl, -⟩ := rowAt.slice h
  clear hs h hf
  go_enter Tryz.func152, Tryz.ntmps152
  go_wp2_with fail
  refine (unhid K).mono ?_
  rintro x w2 ⟨u, rfl, ho, hb⟩
  have HB := hid hb
  clear hb ho
  cases hq : joinS ps with
  | false =>
    go_wp2_with fail
    go_ret
    exact ⟨by unfold clashCode; rw [hq]; rfl, unhid HB⟩
  | true =>
    go_wp2_with fail
    go_ret
    exact ⟨by unfold clashCode; rw [hq]; rfl, unhid HB⟩
set_option maxRecDepth 100000 in
set_option maxHeartbeats 4000000 in
theorem packsWrong_any (ps : List packC.D) (v : Value) (w : World) (hs : smallPs ps) (h : rowAt packC w v ps) :
    Calls Tryz.prog 93 #[v] w fun x w' => x = .returned (.int .i64 (rootCode ps)) ∧ Below w.heap.size w w' := by
  obtain ⟨a, c, rfl, -⟩ := rowAt.slice h
  have HR := hid h
  have HS := hid hs
  have hlen := hs.1
  clear hs h
  go_enter Tryz.func93, Tryz.ntmps93
  go_wp2_with fail
  have hbx := World.alloc_heap_new w (.cells #[.func (.func 149) #[] #[], .func (.func 150) #[] #[], .func (.func 151) #[] #[], .func (.func 152) #[] #[]] 188)
  have hb0 : Below w.heap.size w (w.alloc (.cells #[.func (.func 149) #[] #[], .func (.func 150) #[] #[], .func (.func 151) #[] #[], .func (.func 152) #[] #[]] 188)) := (Below.refl _ w).alloc (Nat.le_refl _) _
  have hlt0 : w.heap.size < (w.alloc (.cells #[.func (.func 149) #[] #[], .func (.func 150) #[] #[], .func (.func 151) #[] #[], .func (.func 152) #[] #[]] 188)).heap.size := by simp
  generalize w.alloc (.cells #[.func (.func 149) #[] #[], .func (.func 150) #[] #[], .func (.func 151) #[] #[], .func (.func 152) #[] #[]] 188) = W0 at hbx hb0 hlt0 ⊢
  have BX := hid hbx
  have HB0 := hid hb0
  have HLT := hid hlt0
  clear hbx hb0 hlt0
  go_loopw [8] (fun i wr => ∃ k : Nat, k ≤ 4 ∧ i = .int .i64 (k : Int) ∧ Hid ((1 ≤ k → formB ps = true) ∧ (2 ≤ k → ps.length ≤ 5) ∧ (3 ≤ k → needsB ps = true) ∧ (4 ≤ k → joinS ps = true)) ∧ Hid (Below W0.heap.size W0 wr)) (fun i _ => 4 - (intOf i).toNat)
  case atStart => exact ⟨0, Nat.zero_le _, rfl, hid ⟨fun h => by omega, fun h => by omega, fun h => by omega, fun h => by omega⟩, hid (Below.refl _ _)⟩
  case round =>
    obtain ⟨k, hk, rfl, HA, HB⟩ := hrel
    have HBW := hid ((unhid HB0).trans ((unhid HB).mono (unhid HB0).size))
    have hblk := ((unhid HB).block _ (unhid HLT)).trans (unhid BX)
    have c0 := cell_arrS hblk 0 _ rfl
    have c1 := cell_arrS hblk 1 _ rfl
    have c2 := cell_arrS hblk 2 _ rfl
    have c3 := cell_arrS hblk 3 _ rfl
    clear hblk
    have HRW := hid ((unhid HR).below (unhid HBW))
    rcases (show k = 0 ∨ k = 1 ∨ k = 2 ∨ k = 3 ∨ k = 4 by omega) with rfl | rfl | rfl | rfl | rfl
    · go_wp2_with fail
      refine (askForm_any ps _ wr (unhid HS) (unhid HRW)).mono ?_
      rintro x w2 ⟨rfl, hb⟩
      have HB2 := hid ((unhid HB).trans (hb.mono (unhid HB).size))
      have HBZ := hid ((unhid HBW).trans (hb.mono (unhid HBW).size))
      clear hb c0 c1 c2 c3
      cases hq : formB ps with
      | false =>
        have e : formCode ps = 1 := by unfold formCode; rw [hq]; rfl
        have E := hid (code_form hq)
        rw [e]
        go_wp2_with fail
        go_ret
        exact ⟨by rw [unhid E]; rfl, unhid HBZ⟩
      | true =>
        have e : formCode ps = 0 := by unfold formCode; rw [hq]; rfl
        have HQ := hid hq
        rw [e]
        clear hq e
        go_wp2_with fail
        go_roundw
        case rel => exact ⟨1, by omega, by go_num, hid ⟨fun _ => unhid HQ, fun h => by omega, fun h => by omega, fun h => by omega⟩, HB2⟩
        case measure => simp [intOf]
    · have HF := hid ((unhid HA).1 (by omega))
      go_wp2_with fail
      refine (askFull_any ps _ wr (unhid HS) (unhid HRW)).mono ?_
      rintro x w2 ⟨rfl, hb⟩
      have HB2 := hid ((unhid HB).trans (hb.mono (unhid HB).size))
      have HBZ := hid ((unhid HBW).trans (hb.mono (unhid HBW).size))
      clear hb c0 c1 c2 c3
      by_cases hq : ps.length ≤ 5
      · have e : fullCode ps = 0 := by unfold fullCode; rw [if_pos hq]
        have HQ := hid hq
        rw [e]
        clear e hq
        go_wp2_with fail
        go_roundw
        case rel => exact ⟨2, by omega, by go_num, hid ⟨fun _ => unhid HF, fun _ => unhid HQ, fun h => by omega, fun h => by omega⟩, HB2⟩
        case measure => simp [intOf]
      · have e : fullCode ps = 6 := by unfold fullCode; rw [if_neg hq]
        have E := hid (code_full (unhid HF) hq)
        rw [e]
        go_wp2_with fail
        go_ret
        exact ⟨by rw [unhid E]; rfl, unhid HBZ⟩
    · have HF := hid ((unhid HA).1 (by omega))
      have H5 := hid ((unhid HA).2.1 (by omega))
      go_wp2_with fail
      refine (askNeeds_any ps _ wr (unhid HS) (unhid HF) (unhid HRW)).mono ?_
      rintro x w2 ⟨rfl, hb⟩
      have HB2 := hid ((unhid HB).trans (hb.mono (unhid HB).size))
      have HBZ := hid ((unhid HBW).trans (hb.mono (unhid HBW).size))
      clear hb c0 c1 c2 c3
      cases hq : needsB ps with
      | false =>
        have e : needCode ps = 4 := by unfold needCode; rw [hq]; rfl
        have E := hid (code_needs (unhid HF) (unhid H5) hq)
        rw [e]
        go_wp2_with fail
        go_ret
        exact ⟨by rw [unhid E]; rfl, unhid HBZ⟩
      | true =>
        have e : needCode ps = 0 := by unfold needCode; rw [hq]; rfl
        have HQ := hid hq
        rw [e]
        clear hq e
        go_wp2_with fail
        go_roundw
        case rel => exact ⟨3, by omega, by go_num, hid ⟨fun _ => unhid HF, fun _ => unhid H5, fun _ => unhid HQ, fun h => by omega⟩, HB2⟩
        case measure => simp [intOf]
    · have HF := hid ((unhid HA).1 (by omega))
      have H5 := hid ((unhid HA).2.1 (by omega))
      have HN := hid ((unhid HA).2.2.1 (by omega))
      go_wp2_with fail
      refine (askClash_any ps _ wr (unhid HS) (unhid HF) (unhid HRW)).mono ?_
      rintro x w2 ⟨rfl, hb⟩
      have HB2 := hid ((unhid HB).trans (hb.mono (unhid HB).size))
      have HBZ := hid ((unhid HBW).trans (hb.mono (unhid HBW).size))
      clear hb c0 c1 c2 c3
      cases hq : joinS ps with
      | false =>
        have e : clashCode ps = 5 := by unfold clashCode; rw [hq]; rfl
        have E := hid (code_join (unhid HF) (unhid H5) (unhid HN) hq)
        rw [e]
        go_wp2_with fail
        go_ret
        exact ⟨by rw [unhid E]; rfl, unhid HBZ⟩
      | true =>
        have e : clashCode ps = 0 := by unfold clashCode; rw [hq]; rfl
        have HQ := hid hq
        rw [e]
        clear hq e
        go_wp2_with fail
        go_roundw
        case rel => exact ⟨4, by omega, by go_num, hid ⟨fun _ => unhid HF, fun _ => unhid H5, fun _ => unhid HN, fun _ => unhid HQ⟩, HB2⟩
        case measure => simp [intOf]
    · have E := hid (code_fine ((unhid HA).1 (by omega)) ((unhid HA).2.1 (by omega)) ((unhid HA).2.2.1 (by omega)) ((unhid HA).2.2.2 (by omega)))
      clear c0 c1 c2 c3
      go_wp2_with fail
      go_ret
      exact ⟨by rw [unhid E]; rfl, unhid HBW⟩
end Go.Proofs.YtoihhlkidlapmaaGreat

namespace Go.Proofs.YtoihhlkidlapmaaGreat
open Go.RowKit Go.Shelf
set_option maxRecDepth 100000 in
set_option maxHeartbeats 4000000 in
theorem l9Try_any (qs : List packC.D) (a1 : Option Addr) (n1 c1 : Nat) (v : Value) (w : World) (hs : smallPs qs) (hq : rowAt packC w v qs) :
    Calls Tryz.prog 145 #[.agg #[.slice a1 n1 c1], v] w fun x w' => ∃ r, x = .returned (.tuple #[.agg #[r], .int .i64 (rootCode qs)]) ∧ ((rootCode qs = 0 ∧ r = v) ∨ (rootCode qs ≠ 0 ∧ r = .slice a1 n1 c1)) ∧ Below w.heap.size w w' := by
  obtain ⟨a2, c2, rfl, -⟩ := rowAt.slice hq
  have HQ := hid hq
  clear hq
  go_enter Tryz.func145, Tryz.ntmps145
  go_wp2_with fail
  obtain ⟨hP, hR, hS, hB⟩ := two_boxesP w (.cells #[.slice a1 n1 c1] 51) (.cells #[.slice none 0 0] 51)
  generalize (w.alloc (.cells #[.slice a1 n1 c1] 51)).alloc (.cells #[.slice none 0 0] 51) = W0 at hP hR hS hB ⊢
  refine (l9Check_any qs _ W0 hs ((unhid HQ).below hB)).mono ?_
  rintro x w2 ⟨rfl, hb⟩
  obtain ⟨o0, p0⟩ := cell_fz ((hb.block _ (by omega)).trans hP) 0 _ rfl
  obtain ⟨o1, p1⟩ := cell_fz ((hb.block _ hS).trans hR) 0 _ rfl
  have HB := hid (hB.trans (hb.mono hB.size))
  clear hb hP hR hB
  by_cases h0 : rootCode qs = 0
  · have HE := hid h0
    rw [h0]
    go_wp2_with fail
    exact bodyPost_ret (v := .tuple #[.agg #[.slice a2 qs.length c2], .int .i64 0]) (by simp [results, Tryz.results145, go_sem, World.cell?_setCell_same', o1]) rfl ⟨_, by rw [unhid HE], .inl ⟨unhid HE, rfl⟩, (unhid HB).setCell (by dsimp only; omega) _⟩
  · have HE := hid h0
    go_wp2_with fail
    exact bodyPost_ret (v := .tuple #[.agg #[.slice a1 n1 c1], .int .i64 (rootCode qs)]) (by simp [results, Tryz.results145, go_sem, World.cell?_setCell_same', o1]) rfl ⟨_, rfl, .inr ⟨unhid HE, rfl⟩, (unhid HB).setCell (by dsimp only; omega) _⟩
def tryP (ps qs : List packC.D) : List packC.D := if rootCode qs = 0 then qs else ps
def hasBN (q : ByteArray) (ps : List packC.D) : Bool := (namesP ps).any fun x => decide (x = q)
theorem hasB_iffN (q : ByteArray) (ps : List packC.D) : hasBN q ps = true ↔ q ∈ namesP ps := by simp [hasBN]
def outCode (q : ByteArray) (ps : List packC.D) : Int := if hasBN q ps then rootCode (withoutP q ps) else 3
def outP (q : ByteArray) (ps : List packC.D) : List packC.D := if hasBN q ps then tryP ps (withoutP q ps) else ps
theorem without_small {q : ByteArray} {ps : List packC.D} (h : smallPs ps) : smallPs (withoutP q ps) := by
  refine ⟨Nat.le_trans (List.length_filter_le _ _) h.1, fun p hp => h.2 p ?_⟩
  unfold withoutP at hp
  exact (List.mem_filter.1 hp).1
def OutW (w : World) (g : Nat) (w' : World) : Prop := Below (g + 1) w w' ∧ ∃ z, w'.heap[g + 1]? = some (.cells #[z] 51 (0, 0))
theorem OutW.next {w w1 w2 : World} {g : Nat} (h : OutW w g w1) (hg : g + 1 < w1.heap.size) (hb : Below w1.heap.size w1 w2) : OutW w g w2 := by
  obtain ⟨h1, z, hz⟩ := h
  exact ⟨h1.trans (hb.mono (by omega)), z, (hb.block _ hg).trans hz⟩
theorem OutW.store {w w1 : World} {g : Nat} (h : OutW w g w1) (u : Value) : OutW w g (w1.setCell ⟨g + 1, 0, none⟩ u) := by
  obtain ⟨h1, z, hz⟩ := h
  exact ⟨h1.setCell (by dsimp only; omega) _, u, heap_setCell_same w1 (g + 1) 0 _ _ u hz⟩
set_option maxRecDepth 100000 in
set_option maxHeartbeats 4000000 in
theorem l9Out_any (L : List (It packC)) (u : Value) (q : ByteArray) (w : World) (N : Nat) (hN : N ≤ w.heap.size) (hs : smallPs (itD L)) (hp : NRow packC 34 w N u L) :
    Calls Tryz.prog 90 #[.agg #[u], .string q] w fun x w' => ∃ (r : Value) (L' : List (It packC)), x = .returned (.tuple #[.agg #[r], .int .i64 (outCode q (itD L))]) ∧ NRow packC 34 w' N r L' ∧ itD L' = outP q (itD L) ∧ Below w.heap.size w w' := by
  obtain ⟨a1, c1, rfl⟩ := nrow_slice hp
  have HP := hid hp
  have HA := hid (show rowAt packC w (.slice a1 L.length c1) (itD L) from by obtain ⟨F, h1, _⟩ := hp.own; exact h1.toAt)
  have HS := hid hs
  have hln := itD_len L
  generalize hps : itD L = ps at *
  have HPS := hid hps
  clear hp hps
  go_enter Tryz.func90, Tryz.ntmps90
  go_wp2_with fail
  obtain ⟨hP, hR, hS, hB⟩ := two_boxesP w (.cells #[.slice a1 L.length c1] 51) (.cells #[.slice none 0 0] 51)
  generalize (w.alloc (.cells #[.slice a1 L.length c1] 51)).alloc (.cells #[.slice none 0 0] 51) = W0 at hP hR hS hB ⊢
  have o0 := cell_arrS hP 0 _ rfl
  go_wp2_with fail
  refine (l8Pack_any ps _ q W0 hs.1 ((unhid HA).below hB)).mono ?_
  rintro x w2 ⟨⟨r, rfl, hr⟩, hb⟩
  clear o0
  have hP2 := (hb.block _ (by omega)).trans hP
  have hR2 := (hb.block _ hS).trans hR
  have hS2 : w.heap.size + 1 < w2.heap.size := Nat.lt_of_lt_of_le hS hb.size
  have hB2 := hB.trans (hb.mono hB.size)
  clear hb hP hR hB hS hs
  obtain ⟨o0, p0⟩ := cell_fz hP2 0 _ rfl
  obtain ⟨o1, p1⟩ := cell_fz hR2 0 _ rfl
  rcases hr with ⟨rfl, hno⟩ | ⟨k, rfl, hyes⟩
  · have hno2 : ¬ hasBN q ps = true := fun e => hno ((hasB_iffN q ps).1 e)
    have HE := hid (show 3 = outCode q ps ∧ ps = outP q ps from ⟨by unfold outCode; rw [if_neg hno2], by unfold outP; rw [if_neg hno2]⟩)
    have HB := hid hB2
    clear hno hno2 hP2 hR2 hB2
    go_wp2_with fail
    refine bodyPost_ret (v := .tuple #[.agg #[.slice a1 L.length c1], .int .i64 3]) (by simp [results, Tryz.results90, go_sem, World.cell?_setCell_same', o1]) rfl ⟨_, L, by rw [← (unhid HE).1], ?_, by rw [unhid HPS]; exact (unhid HE).2, (unhid HB).setCell (by dsimp only; omega) _⟩
    refine (unhid HP).frame (fun k hk => ?_)
    have h1 := ((unhid HP).base k hk).2
    rw [Below.heap_setCell _ _ _ _ (by dsimp only; omega), (unhid HB).block k h1]
  · have hm : hasBN q ps = true := (hasB_iffN q ps).2 (List.mem_of_getElem? hyes)
    have HE := hid (show rootCode (withoutP q ps) = outCode q ps ∧ tryP ps (withoutP q ps) = outP q ps from ⟨by unfold outCode; rw [if_pos hm], by unfold outP; rw [if_pos hm]⟩)
    have HB := hid hB2
    have hC0 : OutW w2 w.heap.size w2.drew := ⟨⟨rfl, rfl, rfl, Nat.le_refl _, fun _ _ => rfl⟩, _, hR2⟩
    have HC0 := hid hC0
    have HS2 := hid hS2
    clear hyes hm hR2 hB2 o1 p1 hP2
    go_wp2_with fail
    have gq0 : ∀ x : CW (OutW w2 w.heap.size), x.w.cell? ⟨w.heap.size, 0, none⟩ = some (.slice a1 L.length c1) := fun x => (x.h.1.cell (p := ⟨w.heap.size, 0, none⟩) (by dsimp only; omega)).trans o0
    have hba : ∀ {q : Prop}, (CW (OutW w2 w.heap.size) → q) ↔ q := CW.all hC0
    refine held_begin (OutW w2 w.heap.size) (by kernel_rfl) hC0 ?_
    refine held_here [true, true, true, true] (by kernel_rfl) (by kernel_rfl) (fun _ _ _ _ _ h => h) hC0 ?_
    dsimp only [pick]
    repeat (go_big_quiet_step (fail))
    refine wpQuiet_nil ?_
    clear hba gq0 hC0 o0 p0
    have hs0 : w.heap.size + 1 < w2.drew.heap.size := unhid HS2
    have hbd : Below w.heap.size w w2.drew := (unhid HB).trans ⟨rfl, rfl, rfl, Nat.le_refl _, fun _ _ => rfl⟩
    have HBD := hid hbd
    generalize w2.drew = w3 at *
    have hsL : L.length ≤ 1048576 := by have := (unhid HS).1; omega
    have hPd : NRow packC 34 w3 N (.slice a1 L.length c1) L := (unhid HP).frame (fun k hk => hbd.block k ((unhid HP).base k hk).2)
    refine held_call 4 146 16 (enters_of Tryz.func146 (by kernel_rfl) rfl) #[.slice a1 L.length c1, .string q] (by kernel_rfl) (by kernel_rfl) rfl rfl rfl rfl rfl ?_
    refine (l9Without_any L _ q w3 N (Nat.le_trans hN hbd.size) hsL hPd).mono ?_
    rintro x w4 ⟨v4, rfl, hN4, hW4, hb⟩
    have hC4 := (unhid HC0).next hs0 hb
    have hs4 := Nat.lt_of_lt_of_le hs0 hb.size
    have hb4 := hbd.trans (hb.mono hbd.size)
    have hat : rowAt packC w4 v4 (withoutP q ps) := by
      obtain ⟨F, h1, _⟩ := hN4.own
      have := h1.toAt
      rwa [withoutI_D, unhid HPS] at this
    refine ⟨_, rfl, hC4, ?_⟩
    simp only [Act.put, List.setIfInBounds_toArray, List.set_cons_zero, List.set_cons_succ]
    refine held_call 5 145 17 (enters_of Tryz.func145 (by kernel_rfl) rfl) #[.agg #[.slice a1 L.length c1], v4] (by kernel_rfl) (by kernel_rfl) rfl rfl rfl rfl rfl ?_
    refine (l9Try_any (withoutP q ps) a1 L.length c1 v4 w4 (without_small (unhid HS)) hat).mono ?_
    rintro x w5 ⟨r5, rfl, hat5, hb5⟩
    obtain ⟨ra, rn, rc, hr5⟩ : ∃ ra rn rc, r5 = .slice ra rn rc := by
      rcases hat5 with ⟨_, rfl⟩ | ⟨_, rfl⟩
      · obtain ⟨x, y, rfl⟩ := nrow_slice hN4
        exact ⟨_, _, _, rfl⟩
      · exact ⟨_, _, _, rfl⟩
    have hfin : ∃ L', itD L' = tryP ps (withoutP q ps) ∧ ∀ z, NRow packC 34 (w5.setCell ⟨w.heap.size + 1, 0, none⟩ z) N r5 L' := by
      rcases hat5 with ⟨h0, rfl⟩ | ⟨h0, rfl⟩
      · refine ⟨withoutI q L, by rw [withoutI_D, unhid HPS]; unfold tryP; rw [if_pos h0], fun z => hN4.frame (fun k hk => ?_)⟩
        have hl := (hN4.base k hk).2
        rw [Below.heap_setCell _ _ _ _ ?_, hb5.block k hl]
        dsimp only
        rcases hk with hk | hk
        · have := hW4 k hk; omega
        · have h2 := (unhid HP).items.lt k ((itF_sub (withoutI_sub q L)).subset hk)
          omega
      · refine ⟨L, by rw [unhid HPS]; unfold tryP; rw [if_neg h0], fun z => (unhid HP).frame (fun k hk => ?_)⟩
        have hl := ((unhid HP).base k hk).2
        rw [Below.heap_setCell _ _ _ _ (by dsimp only; omega), hb5.block k (Nat.lt_of_lt_of_le hl hb4.size), hb4.block k hl]
    subst hr5
    have HFIN := hid hfin
    clear hfin
    have hC5 := hC4.next hs4 hb5
    have hB5 := hb4.trans (hb5.mono hb4.size)
    refine ⟨_, rfl, hC5, ?_⟩
    simp only [Act.put, List.setIfInBounds_toArray, List.set_cons_zero, List.set_cons_succ]
    have HB5 := hid hB5
    clear hs0 hbd HBD HC0 hat hb hC4 hs4 hb4 hat5 hb5 hB5 HB hPd hN4 hW4
    have hba : ∀ {q : Prop}, (CW (OutW w2 w.heap.size) → q) ↔ q := CW.all hC5
    refine held_here [false, false, false, false, false, false, true, true] (by kernel_rfl) (by kernel_rfl) (fun _ _ _ _ _ h => h) hC5 ?_
    dsimp only [pick]
    repeat (go_big_quiet_step (fail))
    refine wpQuiet_nil ?_
    obtain ⟨z, hz⟩ := hC5.2
    obtain ⟨o1, p1⟩ := cell_fz hz 0 _ rfl
    have hC6 := hC5.store (.slice ra rn rc)
    clear hba
    refine held_op 8 (by kernel_rfl) (by kernel_rfl) rfl (fun K hK => ?_)
    go_simp
    refine hK.out _ _ hC6 ?_
    clear hK K
    have hba : ∀ {q : Prop}, (CW (OutW w2 w.heap.size) → q) ↔ q := CW.all hC6
    refine held_here [false, false, false, false, false, false, false, false, false, true] (by kernel_rfl) (by kernel_rfl) (fun _ _ _ _ _ h => h) hC6 ?_
    dsimp only [pick]
    repeat (go_big_quiet_step (fail))
    refine wpQuiet_nil ?_
    clear hba
    refine held_done (by kernel_rfl) ?_
    go_wp2_with fail
    obtain ⟨L', h1, h2⟩ := unhid HFIN
    exact bodyPost_ret (v := .tuple #[.agg #[.slice ra rn rc], .int .i64 (rootCode (withoutP q ps))]) (by simp [results, Tryz.results90, go_sem, World.cell?_setCell_same', o1]) rfl ⟨_, L', by rw [← (unhid HE).1], h2 _, by rw [h1]; exact (unhid HE).2, (unhid HB5).setCell (by dsimp only; omega) _⟩
end Go.Proofs.YtoihhlkidlapmaaGreat
