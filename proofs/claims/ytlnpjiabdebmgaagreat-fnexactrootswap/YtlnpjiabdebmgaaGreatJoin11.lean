/- Texts of this proof, one behind the other; each says at its head what it shows. -/
import Derived.Test.YtlnpjiabdebmgaaGreatJoin10
import Derived.Test.YtlnpjiabdebmgaaGreatJoin7
import Derived.Test.YtlnpjiabdebmgaaGreatJoin1
import Derived.Test.YtlnpjiabdebmgaaGreatJoin5
import Derived.Test.YtlnpjiabdebmgaaGreatJoin8
import Derived.Test.YtlnpjiabdebmgaaGreatJoin9
import Derived.Deep.Slices
import Derived.Lib.SmallJoins
/- Two trees in one, by the model: the second may be nil. -/
namespace Go.Proofs.YtlnpjiabdebmgaaGreat
open Go.RowKit Go.Shelf

set_option maxRecDepth 100000 in
set_option maxHeartbeats 8000000 in
theorem l2Join_N (es fs : List Ent) (b o cap : Nat) (a2 : Option Addr) (cap2 : Nat) (w : World) (hte : treeB es = true) (htf : treeB fs = true) (h : ∀ (i : Nat) e, es[i]? = some e → EntAt w b (o + i * 4) e) (hb : b < w.heap.size) (hf : EntsAt w a2 fs) :
    Calls Tryz.prog 122 #[.slice (some ⟨b, o, none⟩) es.length cap, .slice a2 fs.length cap2] w fun x w' => ∃ v, x = .returned (.tuple #[v, .bool (okJ es fs && treeB (joinTo es fs))]) ∧ (∃ g c, v = .slice (some ⟨g, 0, none⟩) (joinL es fs).length c) ∧ w'.ownsRow w.heap.size 90 4 v (joinL es fs).length (valsOf (joinL es fs)) ∧ Below w.heap.size w w' := by
  obtain ⟨i0, hi0, hz0, hzs, hzb⟩ := info_parts infoEntry
  have HI := hid (And.intro hi0 (And.intro hz0 (And.intro hzs hzb)))
  have hle := tree_16 hte
  have hlf := tree_16 htf
  have hae := tree_all hte
  have haf := tree_all htf
  have HH := hid hf
  have HC := hid (l2Copy_some es b o cap w (by omega) h (.inr hb))
  clear hi0 hz0 hzs hzb h hf hb
  go_enter Tryz.func122, Tryz.ntmps122
  go_wp2_with fail
  refine (unhid HC).mono ?_
  rintro x w1 ⟨g1, c1, rfl, hown, hB1⟩
  have HF0 := hid (And.intro hown hB1)
  clear hown hB1 HC
  go_wp2_with fail
  go_loopw [6, 7] (fun v i wr => ∃ j : Nat, j ≤ fs.length ∧ i = .int .i64 (j : Int) ∧ (∃ g c, v = .slice (some ⟨g, 0, none⟩) (joinTo es (fs.take j)).length c) ∧ Hid (wr.ownsRow w.heap.size 90 4 v (joinTo es (fs.take j)).length (valsOf (joinTo es (fs.take j)))) ∧ Hid (okJ es (fs.take j) = true) ∧ Hid (Below w.heap.size w wr)) (fun _ i _ => fs.length - (intOf i).toNat)
  case atStart => exact ⟨0, Nat.zero_le _, rfl, ⟨g1, c1, rfl⟩, hid (unhid HF0).1, hid rfl, hid (unhid HF0).2⟩
  case round =>
    obtain ⟨j, hj, rfl, ⟨g, c, rfl⟩, HO, HA, HB⟩ := hrel
    by_cases hlt : j < fs.length
    · obtain ⟨e, he⟩ : ∃ e, fs[j]? = some e := ⟨fs[j], List.getElem?_eq_getElem hlt⟩
      obtain ⟨b2, o2, rfl, hb2, hcc⟩ := (unhid HH).get (by intro e; subst e; simp at hlt)
      have HCC := hid hcc
      clear hcc HH
      have hsn : joinTo es (fs.take (j + 1)) = putT (joinTo es (fs.take j)) e := by rw [List.take_add_one, he]; exact joinTo_snoc _ _ _
      have hon : okJ es (fs.take (j + 1)) = (okJ es (fs.take j) && stepJ (joinTo es (fs.take j)) e) := by rw [List.take_add_one, he]; exact okJ_snoc _ _ _
      have hl9 : (joinTo es (fs.take j)).length ≤ 900 := by have := joinTo_len es (fs.take j); rw [List.length_take] at this; omega
      have hall : ∀ x ∈ joinTo es (fs.take j), entB x = true := fun x hx => by
        rcases joinTo_mem es _ x hx with h | h
        · exact hae x h
        · exact haf x (List.mem_of_mem_take h)
      have hxe := haf e (List.mem_of_getElem? he)
      have hpr : okJ es (fs.take (j + 1)) = false → okJ es fs = false := okJ_prefix (List.take_prefix _ _)
      obtain ⟨c0, c1', c2, c3⟩ := ((unhid HCC) j e he).below (unhid HB) hb2
      have HE := hid ((unhid HCC) j e he)
      obtain ⟨a1, cap1, ev, hRI⟩ := rowIn_of_owns (unhid HO)
      injection ev with ev1 ev2 ev3
      subst ev1
      have HAT := hid hRI.at
      have hcl : (joinTo es (fs.take j)).length ≤ c := by
        rcases (unhid HO).2 with ⟨hv, h0⟩ | ⟨g', cap', cur', hv, _, _, hcc, _⟩
        · cases hv
        · cases hv; exact hcc
      have hgl : g < wr.heap.size := by
        rcases (unhid HO).2 with ⟨hv, h0⟩ | ⟨g', cap', cur', hv, _, hh, _⟩
        · cases hv
        · cases hv; exact (Array.getElem?_eq_some_iff.1 hh).1
      have HGE := hid (show ∀ (i : Nat) x, (joinTo es (fs.take j))[i]? = some x → EntAt wr g (0 + i * 4) x by
        rcases unhid HAT with h0 | ⟨b', o', eb, _, hcc⟩
        · intro i x hi; rw [h0] at hi; simp at hi
        · cases eb; exact hcc)
      have AT := hid (l2At_any (joinTo es (fs.take j)) (some ⟨g, 0, none⟩) c e.path wr (by omega) (unhid HAT))
      have HSN0 := hid (And.intro hsn (And.intro hon hpr))
      have HXE := hid (And.intro hxe hall)
      clear hRI he hsn hon hpr hall hxe ev2 ev3
      generalize joinTo es (fs.take j) = L at *
      go_wp2_with fail
      refine (unhid AT).mono ?_
      rintro x w3 ⟨rfl, n3, e3⟩
      have hB3 : Below wr.heap.size wr w3 := by rw [e3]; exact drewN_below _ _
      have hkn : placeE L e.path ≤ L.length := placeE_le _ _
      have HB2 := hid ((unhid HB).trans (hB3.mono (unhid HB).size))
      have HG3 := hid (entAt_below (unhid HGE) (.inr hgl) hB3)
      have HE3 := hid ((unhid HE).below (unhid HB2) hb2)
      have HO3 := hid (ownsRow_kept (unhid HO) (fun g eg => hB3.block g ((unhid HO).lt g eg).2))
      have hwl : w.heap.size ≤ w3.heap.size := (unhid HB2).size
      have hgl3 : g < w3.heap.size := Nat.lt_of_lt_of_le hgl hB3.size
      have hbl3 : b2 < w3.heap.size := Nat.lt_of_lt_of_le hb2 hwl
      clear hB3 e3 AT HGE HE c0 c1' c2 c3 HAT HB HO n3 hgl
      cases hth : thereE L e.path
      · have HSN := hid (show (joinTo es (fs.take (j + 1))).length = placeE L e.path + 1 + (L.length - placeE L e.path) ∧ valsOf (joinTo es (fs.take (j + 1))) = valsOf (L.take (placeE L e.path)) ++ valsOf [e] ++ valsOf (L.drop (placeE L e.path)) by
          rw [(unhid HSN0).1, put_new hth]; refine ⟨by rw [insAt_len]; omega, ?_⟩; unfold insAt; rw [valsOf_app, valsOf_app])
        have HOK := hid (show okJ es (fs.take (j + 1)) = true by rw [(unhid HSN0).2.1, unhid HA]; unfold stepJ; rw [hth]; rfl)
        clear hth HSN0 HXE HO3
        generalize placeE L e.path = k at hkn HSN ⊢
        generalize hnl : L.length = n at *
        have HNL := hid hnl
        clear hnl
        go_wp2_with fail
        go_quiet (fail)
        have hBq : Below w3.heap.size w3 (w3.drewN nq) := drewN_below _ _
        have HB2' := hid ((unhid HB2).trans (hBq.mono hwl))
        have HG3' := hid (entAt_below (unhid HG3) (.inr hgl3) hBq)
        have HE3' := hid ((unhid HE3).below hBq hbl3)
        have hwl' : w.heap.size ≤ (w3.drewN nq).heap.size := hwl
        have hgl3' : g < (w3.drewN nq).heap.size := hgl3
        have hbl3' : b2 < (w3.drewN nq).heap.size := hbl3
        clear hBq HB2 HG3 HE3 hwl hgl3 hbl3
        have HB2 := HB2'; have HG3 := HG3'; have HE3 := HE3'; have hwl := hwl'; have hgl3 := hgl3'; have hbl3 := hbl3'
        clear HB2' HG3' HE3' hwl' hgl3' hbl3'
        generalize w3.drewN nq = w3 at *
        go_wp2_with fail
        have hi1 : (0 : Int) ≤ (k : Int) := by omega
        have hi2 : (k : Int) ≤ (n : Int) := by omega
        have hi3 : (k : Int) ≤ (c : Int) := by omega
        have hi4 : (n : Int) ≤ (c : Int) := by omega
        have hi5 : (0 : Int) ≤ (j : Int) := by omega
        have hi6 : (j : Int) < (fs.length : Int) := by omega
        have HC1 := hid (show ∀ W, Below w3.heap.size w3 W → ∀ j u, (valsOf (L.take k))[j]? = some u → W.cell? ((⟨g, 0, none⟩ : Addr).add j) = some u from fun W hW => ents_cells (ents_take (entAt_below (unhid HG3) (.inr hgl3) hW)))
        have HC2 := hid (show ∀ W, Below w3.heap.size w3 W → ∀ j u, (valsOf (L.drop k))[j]? = some u → W.cell? ((⟨g, offD c k, none⟩ : Addr).add j) = some u from fun W hW => ents_cells (fun i x hi => by have := ents_dropD (entAt_below (unhid HG3) (.inr hgl3) hW) (show L.length ≤ c by rw [unhid HNL]; omega) i x hi; rwa [Nat.zero_add] at this))
        have ht1 : (L.take k).length = k := by rw [List.length_take, unhid HNL]; omega
        have ht2 : (L.drop k).length = n - k := by rw [List.length_drop, unhid HNL]
        refine wp_region_held_drew (S := fun w' => Below w3.heap.size w3 w') (by kernel_rfl) (drew_below _) (fun hS => ?_)
        refine wpAnyH_take (i := 1) (v := .slice (some ⟨g, 0, none⟩) n c) rfl (by kernel_rfl) (by kernel_rfl) (by kernel_rfl) (fun _ _ _ h => h) (Or.inl ⟨by rfl, fun w' hw => by go_simp⟩) hS ?_
        refine wpAnyH_take (i := 2) (v := .int .i64 (k : Int)) rfl (by kernel_rfl) (by kernel_rfl) (by kernel_rfl) (fun _ _ _ h => h) (Or.inl ⟨by rfl, fun w' hw => by go_simp⟩) hS ?_
        refine wpAnyH_take (i := 3) (v := .slice (some ⟨g, 0, none⟩) k c) rfl (by kernel_rfl) (by kernel_rfl) (by kernel_rfl) (fun _ _ _ h => h) (Or.inl ⟨by rfl, fun w' hw => by go_simp⟩) hS ?_
        refine wpAnyH_take (i := 5) (v := .slice (some ⟨b2, o2, none⟩) fs.length cap2) rfl (by kernel_rfl) (by kernel_rfl) (by kernel_rfl) (fun _ _ _ h => h) (Or.inl ⟨by rfl, fun w' hw => by go_simp⟩) hS ?_
        refine wpAnyH_take (i := 6) (v := .int .i64 (j : Int)) rfl (by kernel_rfl) (by kernel_rfl) (by kernel_rfl) (fun _ _ _ h => h) (Or.inl ⟨by rfl, fun w' hw => by go_simp⟩) hS ?_
        refine wpAnyH_take (i := 7) (v := .pointer (some ⟨b2, o2 + j * 4, none⟩)) rfl (by kernel_rfl) (by kernel_rfl) (by kernel_rfl) (fun _ _ _ h => h) (Or.inl ⟨by rfl, fun w' hw => by go_simp⟩) hS ?_
        refine wpAnyH_take (i := 8) (v := .agg #[.string e.path, .int .i64 e.kind, .int .i64 e.mode, .string e.text]) rfl (by kernel_rfl) (by kernel_rfl) (by kernel_rfl) (fun _ _ _ h => h) (Or.inl ⟨by rfl, fun w' hw => by obtain ⟨k0, k1, k2, k3⟩ := (unhid HE3).below hw hbl3; go_simp⟩) hS ?_
        refine wpAnyH_take (i := 11) (v := .slice (some ⟨g, 0, none⟩) n c) rfl (by kernel_rfl) (by kernel_rfl) (by kernel_rfl) (fun _ _ _ h => h) (Or.inl ⟨by rfl, fun w' hw => by go_simp⟩) hS ?_
        refine wpAnyH_take (i := 12) (v := .int .i64 (k : Int)) rfl (by kernel_rfl) (by kernel_rfl) (by kernel_rfl) (fun _ _ _ h => h) (Or.inl ⟨by rfl, fun w' hw => by go_simp⟩) hS ?_
        refine wpAnyH_take (i := 13) (v := .slice (some ⟨g, offD c k, none⟩) (n - k) (c - k)) rfl (by kernel_rfl) (by kernel_rfl) (by kernel_rfl) (fun _ _ _ h => h) (Or.inl ⟨by rfl, fun w' hw => by 
          unfold offD
          by_cases hck : c = k
          · rw [if_pos hck]; go_simp
          · rw [if_neg hck]; go_simp⟩) hS ?_
        generalize w3.drew = W at hS ⊢
        refine wpAnyH_ready (rs := [0, 9]) (by kernel_rfl) (by simp) ?_
        refine AllReadyH.cons rfl (fun K hK => ?_) (AllReadyH.cons rfl (fun K hK => ?_) AllReadyH.nil)
        · go_simp
          have r0 := owns_empty W w3.heap.size hS.size 90
          have hS1 := hS.alloc hS.size (.cells #[] 90)
          refine hK.out _ _ hS1 (fun _ => ?_)
          clear hK K hS
          generalize W.alloc (.cells #[] 90) = W2 at hS1 r0 ⊢
          generalize W.heap.size = g0 at r0 ⊢
          have hS := hS1
          clear hS1
          refine wpAnyH_ready (rs := [4, 9]) (by kernel_rfl) (by simp) ?_
          refine AllReadyH.cons rfl (fun K hK => ?_) (AllReadyH.cons rfl (fun K hK => ?_) AllReadyH.nil)
          · refine step_append_at (by rfl) _ _ 29 (by rfl) w3.heap.size 90 i0 _ 4 48 Tryz.underlying29 (unhid HI).1 (unhid HI).2.1 (unhid HI).2.2.1 (unhid HI).2.2.2 rfl (by decide) (Value.slice (some ⟨g0, 0, none⟩) 0 0) (0) ([]) (by rfl) r0 ⟨g, 0, none⟩ (k) (c) (valsOf (L.take k)) (by rfl) (by rw [valsOf_len, ht1]) (unhid HC1 _ hS) (valsOf_one _) (by unfold maxLen; omega) (by omega) hS.size ?_
            intro v1 W3 r1 hg1 hat1
            rw [Nat.zero_add, List.nil_append] at r1
            obtain ⟨a1, c1, rfl⟩ := ownsRow_slice r1
            have hS1 := hS.grown hg1 hS.size (fun g eg => (r0.lt g eg).1)
            refine hK.out _ _ hS1 (fun _ => ?_)
            clear hK K hS r0 hg1 hat1
            have hS := hS1
            clear hS1
            refine wpAnyH_ready (rs := [9]) (by kernel_rfl) (by simp) ?_
            refine AllReadyH.cons rfl (fun K hK => ?_) AllReadyH.nil
            go_simp
            have o2 : OneAt (W3.alloc (.cells #[.string e.path, .int .i64 e.kind, .int .i64 e.mode, .string e.text] 90)) W3.heap.size e := World.alloc_heap_new _ _
            have hS1 := hS.alloc hS.size (.cells #[.string e.path, .int .i64 e.kind, .int .i64 e.mode, .string e.text] 90)
            have m2 : (Value.slice a1 k c1).ownBlock ≠ some W3.heap.size := fun eq => Nat.lt_irrefl _ (r1.lt _ eq).2
            have r1' := r1.alloc (.cells #[.string e.path, .int .i64 e.kind, .int .i64 e.mode, .string e.text] 90)
            clear r1
            have r1 := r1'
            clear r1'
            refine hK.out _ _ hS1 (fun _ => ?_)
            clear hK K hS
            generalize W3.alloc (.cells #[.string e.path, .int .i64 e.kind, .int .i64 e.mode, .string e.text] 90) = W4 at hS1 o2 r1 ⊢
            generalize W3.heap.size = g2 at o2 m2 ⊢
            have hS := hS1
            clear hS1
            refine wpAnyH_ready (rs := [10]) (by kernel_rfl) (by simp) ?_
            refine AllReadyH.cons rfl (fun K hK => ?_) AllReadyH.nil
            refine step_append_at (by rfl) _ _ 29 (by rfl) w3.heap.size 90 i0 _ 4 48 Tryz.underlying29 (unhid HI).1 (unhid HI).2.1 (unhid HI).2.2.1 (unhid HI).2.2.2 rfl (by decide) (Value.slice a1 k c1) (k) (valsOf (L.take k)) (by rfl) r1 ⟨g2, 0, none⟩ (1) (1) (valsOf [e]) (by rfl) (by rw [valsOf_len]; rfl) (o2.cells) (valsOf_one _) (by unfold maxLen; omega) (by omega) hS.size ?_
            intro v2 W5 r2 hg1 hat1
            obtain ⟨a2, c2, rfl⟩ := ownsRow_slice r2
            have hS1 := hS.grown hg1 hS.size (fun g eg => (r1.lt g eg).1)
            refine hK.out _ _ hS1 (fun _ => ?_)
            clear hK K hS r1 hg1 hat1 o2 m2
            have hS := hS1
            clear hS1
            refine wpAnyH_ready (rs := [14]) (by kernel_rfl) (by simp) ?_
            refine AllReadyH.cons rfl (fun K hK => ?_) AllReadyH.nil
            refine step_append_at (by rfl) _ _ 29 (by rfl) w3.heap.size 90 i0 _ 4 48 Tryz.underlying29 (unhid HI).1 (unhid HI).2.1 (unhid HI).2.2.1 (unhid HI).2.2.2 rfl (by decide) (Value.slice a2 (k + 1) c2) (k + 1) (valsOf (L.take k) ++ valsOf [e]) (by rfl) r2 ⟨g, offD c k, none⟩ ((n - k)) ((c - k)) (valsOf (L.drop k)) (by rfl) (by rw [valsOf_len, ht2]) (unhid HC2 _ hS) (valsOf_one _) (by unfold maxLen; omega) (by omega) hS.size ?_
            intro v3 W6 r3 hg1 hat1
            obtain ⟨a3, c3, rfl⟩ := ownsRow_slice r3
            have hS1 := hS.grown hg1 hS.size (fun g eg => (r2.lt g eg).1)
            refine hK.out _ _ hS1 (fun _ => ?_)
            clear hK K hS r2 hg1 hat1
            have hS := hS1
            clear hS1
            refine wpAnyH_take (i := 15) (v := .slice a3 (k + 1 + (n - k)) c3) rfl (by kernel_rfl) (by kernel_rfl) (by kernel_rfl) (fun _ _ _ h => h) (Or.inl ⟨by rfl, fun w' hw => by go_simp⟩) hS ?_
            refine wpAnyH_done (by kernel_rfl) ?_ _
            have HF := hid (show W6.ownsRow w.heap.size 90 4 (.slice a3 (k + 1 + (n - k)) c3) (joinTo es (fs.take (j + 1))).length (valsOf (joinTo es (fs.take (j + 1)))) ∧ Below w.heap.size w W6 from ⟨by rw [(unhid HSN).1, (unhid HSN).2]; exact ownsRow_base r3 (by omega), (unhid HB2).trans (hS.mono (by omega))⟩)
            obtain ⟨g3, cc3, hv3⟩ := ownsRow_some (unhid HF).1 (by rw [(unhid HSN).1]; omega)
            have HV3 := hid hv3
            clear r3 hS hv3
            go_wp2_with fail
            go_roundw
            case rel => exact ⟨j + 1, by omega, by go_num, ⟨g3, cc3, unhid HV3⟩, hid (unhid HF).1, HOK, hid (unhid HF).2⟩
            case measure => simp [intOf]; omega
          · go_simp
            have o2 : OneAt (W2.alloc (.cells #[.string e.path, .int .i64 e.kind, .int .i64 e.mode, .string e.text] 90)) W2.heap.size e := World.alloc_heap_new _ _
            have hS1 := hS.alloc hS.size (.cells #[.string e.path, .int .i64 e.kind, .int .i64 e.mode, .string e.text] 90)
            have m2 : (Value.slice (some ⟨g0, 0, none⟩) 0 0).ownBlock ≠ some W2.heap.size := fun eq => Nat.lt_irrefl _ (r0.lt _ eq).2
            have r0' := r0.alloc (.cells #[.string e.path, .int .i64 e.kind, .int .i64 e.mode, .string e.text] 90)
            clear r0
            have r0 := r0'
            clear r0'
            refine hK.out _ _ hS1 (fun _ => ?_)
            clear hK K hS
            generalize W2.alloc (.cells #[.string e.path, .int .i64 e.kind, .int .i64 e.mode, .string e.text] 90) = W3 at hS1 o2 r0 ⊢
            generalize W2.heap.size = g2 at o2 m2 ⊢
            have hS := hS1
            clear hS1
            refine wpAnyH_ready (rs := [4]) (by kernel_rfl) (by simp) ?_
            refine AllReadyH.cons rfl (fun K hK => ?_) AllReadyH.nil
            refine step_append_at (by rfl) _ _ 29 (by rfl) w3.heap.size 90 i0 _ 4 48 Tryz.underlying29 (unhid HI).1 (unhid HI).2.1 (unhid HI).2.2.1 (unhid HI).2.2.2 rfl (by decide) (Value.slice (some ⟨g0, 0, none⟩) 0 0) (0) ([]) (by rfl) r0 ⟨g, 0, none⟩ (k) (c) (valsOf (L.take k)) (by rfl) (by rw [valsOf_len, ht1]) (unhid HC1 _ hS) (valsOf_one _) (by unfold maxLen; omega) (by omega) hS.size ?_
            intro v1 W4 r1 hg1 hat1
            rw [Nat.zero_add, List.nil_append] at r1
            obtain ⟨a1, c1, rfl⟩ := ownsRow_slice r1
            have hS1 := hS.grown hg1 hS.size (fun g eg => (r0.lt g eg).1)
            have o2' := o2.grown hg1 (fun eq => m2 eq.symm)
            have m2' : (Value.slice a1 k c1).ownBlock ≠ some g2 := by
              rcases hat1 with h | h <;> rw [h]
              · exact m2
              · intro eq; injection eq with eq; have := o2.lt; omega
            clear o2 m2
            have o2 := o2'
            clear o2'
            have m2 := m2'
            clear m2'
            refine hK.out _ _ hS1 (fun _ => ?_)
            clear hK K hS r0 hg1 hat1
            have hS := hS1
            clear hS1
            refine wpAnyH_ready (rs := [10]) (by kernel_rfl) (by simp) ?_
            refine AllReadyH.cons rfl (fun K hK => ?_) AllReadyH.nil
            refine step_append_at (by rfl) _ _ 29 (by rfl) w3.heap.size 90 i0 _ 4 48 Tryz.underlying29 (unhid HI).1 (unhid HI).2.1 (unhid HI).2.2.1 (unhid HI).2.2.2 rfl (by decide) (Value.slice a1 k c1) (k) (valsOf (L.take k)) (by rfl) r1 ⟨g2, 0, none⟩ (1) (1) (valsOf [e]) (by rfl) (by rw [valsOf_len]; rfl) (o2.cells) (valsOf_one _) (by unfold maxLen; omega) (by omega) hS.size ?_
            intro v2 W5 r2 hg1 hat1
            obtain ⟨a2, c2, rfl⟩ := ownsRow_slice r2
            have hS1 := hS.grown hg1 hS.size (fun g eg => (r1.lt g eg).1)
            refine hK.out _ _ hS1 (fun _ => ?_)
            clear hK K hS r1 hg1 hat1 o2 m2
            have hS := hS1
            clear hS1
            refine wpAnyH_ready (rs := [14]) (by kernel_rfl) (by simp) ?_
            refine AllReadyH.cons rfl (fun K hK => ?_) AllReadyH.nil
            refine step_append_at (by rfl) _ _ 29 (by rfl) w3.heap.size 90 i0 _ 4 48 Tryz.underlying29 (unhid HI).1 (unhid HI).2.1 (unhid HI).2.2.1 (unhid HI).2.2.2 rfl (by decide) (Value.slice a2 (k + 1) c2) (k + 1) (valsOf (L.take k) ++ valsOf [e]) (by rfl) r2 ⟨g, offD c k, none⟩ ((n - k)) ((c - k)) (valsOf (L.drop k)) (by rfl) (by rw [valsOf_len, ht2]) (unhid HC2 _ hS) (valsOf_one _) (by unfold maxLen; omega) (by omega) hS.size ?_
            intro v3 W6 r3 hg1 hat1
            obtain ⟨a3, c3, rfl⟩ := ownsRow_slice r3
            have hS1 := hS.grown hg1 hS.size (fun g eg => (r2.lt g eg).1)
            refine hK.out _ _ hS1 (fun _ => ?_)
            clear hK K hS r2 hg1 hat1
            have hS := hS1
            clear hS1
            refine wpAnyH_take (i := 15) (v := .slice a3 (k + 1 + (n - k)) c3) rfl (by kernel_rfl) (by kernel_rfl) (by kernel_rfl) (fun _ _ _ h => h) (Or.inl ⟨by rfl, fun w' hw => by go_simp⟩) hS ?_
            refine wpAnyH_done (by kernel_rfl) ?_ _
            have HF := hid (show W6.ownsRow w.heap.size 90 4 (.slice a3 (k + 1 + (n - k)) c3) (joinTo es (fs.take (j + 1))).length (valsOf (joinTo es (fs.take (j + 1)))) ∧ Below w.heap.size w W6 from ⟨by rw [(unhid HSN).1, (unhid HSN).2]; exact ownsRow_base r3 (by omega), (unhid HB2).trans (hS.mono (by omega))⟩)
            obtain ⟨g3, cc3, hv3⟩ := ownsRow_some (unhid HF).1 (by rw [(unhid HSN).1]; omega)
            have HV3 := hid hv3
            clear r3 hS hv3
            go_wp2_with fail
            go_roundw
            case rel => exact ⟨j + 1, by omega, by go_num, ⟨g3, cc3, unhid HV3⟩, hid (unhid HF).1, HOK, hid (unhid HF).2⟩
            case measure => simp [intOf]; omega
        · go_simp
          have o2 : OneAt (W.alloc (.cells #[.string e.path, .int .i64 e.kind, .int .i64 e.mode, .string e.text] 90)) W.heap.size e := World.alloc_heap_new _ _
          have hS1 := hS.alloc hS.size (.cells #[.string e.path, .int .i64 e.kind, .int .i64 e.mode, .string e.text] 90)
          refine hK.out _ _ hS1 (fun _ => ?_)
          clear hK K hS
          generalize W.alloc (.cells #[.string e.path, .int .i64 e.kind, .int .i64 e.mode, .string e.text] 90) = W2 at hS1 o2 ⊢
          generalize W.heap.size = g2 at o2 ⊢
          have hS := hS1
          clear hS1
          refine wpAnyH_ready (rs := [0]) (by kernel_rfl) (by simp) ?_
          refine AllReadyH.cons rfl (fun K hK => ?_) AllReadyH.nil
          go_simp
          have r0 := owns_empty W2 w3.heap.size hS.size 90
          have hS1 := hS.alloc hS.size (.cells #[] 90)
          have o2' := o2.alloc (.cells #[] 90)
          have m2 : (Value.slice (some ⟨W2.heap.size, 0, none⟩) 0 0).ownBlock ≠ some g2 := fun eq => by injection eq with eq; have eq2 : W2.heap.size = g2 := eq; have := o2.lt; omega
          clear o2
          have o2 := o2'
          clear o2'
          refine hK.out _ _ hS1 (fun _ => ?_)
          clear hK K hS
          generalize W2.alloc (.cells #[] 90) = W3 at hS1 r0 o2 ⊢
          generalize W2.heap.size = g0 at r0 m2 ⊢
          have hS := hS1
          clear hS1
          refine wpAnyH_ready (rs := [4]) (by kernel_rfl) (by simp) ?_
          refine AllReadyH.cons rfl (fun K hK => ?_) AllReadyH.nil
          refine step_append_at (by rfl) _ _ 29 (by rfl) w3.heap.size 90 i0 _ 4 48 Tryz.underlying29 (unhid HI).1 (unhid HI).2.1 (unhid HI).2.2.1 (unhid HI).2.2.2 rfl (by decide) (Value.slice (some ⟨g0, 0, none⟩) 0 0) (0) ([]) (by rfl) r0 ⟨g, 0, none⟩ (k) (c) (valsOf (L.take k)) (by rfl) (by rw [valsOf_len, ht1]) (unhid HC1 _ hS) (valsOf_one _) (by unfold maxLen; omega) (by omega) hS.size ?_
          intro v1 W4 r1 hg1 hat1
          rw [Nat.zero_add, List.nil_append] at r1
          obtain ⟨a1, c1, rfl⟩ := ownsRow_slice r1
          have hS1 := hS.grown hg1 hS.size (fun g eg => (r0.lt g eg).1)
          have o2' := o2.grown hg1 (fun eq => m2 eq.symm)
          have m2' : (Value.slice a1 k c1).ownBlock ≠ some g2 := by
            rcases hat1 with h | h <;> rw [h]
            · exact m2
            · intro eq; injection eq with eq; have := o2.lt; omega
          clear o2 m2
          have o2 := o2'
          clear o2'
          have m2 := m2'
          clear m2'
          refine hK.out _ _ hS1 (fun _ => ?_)
          clear hK K hS r0 hg1 hat1
          have hS := hS1
          clear hS1
          refine wpAnyH_ready (rs := [10]) (by kernel_rfl) (by simp) ?_
          refine AllReadyH.cons rfl (fun K hK => ?_) AllReadyH.nil
          refine step_append_at (by rfl) _ _ 29 (by rfl) w3.heap.size 90 i0 _ 4 48 Tryz.underlying29 (unhid HI).1 (unhid HI).2.1 (unhid HI).2.2.1 (unhid HI).2.2.2 rfl (by decide) (Value.slice a1 k c1) (k) (valsOf (L.take k)) (by rfl) r1 ⟨g2, 0, none⟩ (1) (1) (valsOf [e]) (by rfl) (by rw [valsOf_len]; rfl) (o2.cells) (valsOf_one _) (by unfold maxLen; omega) (by omega) hS.size ?_
          intro v2 W5 r2 hg1 hat1
          obtain ⟨a2, c2, rfl⟩ := ownsRow_slice r2
          have hS1 := hS.grown hg1 hS.size (fun g eg => (r1.lt g eg).1)
          refine hK.out _ _ hS1 (fun _ => ?_)
          clear hK K hS r1 hg1 hat1 o2 m2
          have hS := hS1
          clear hS1
          refine wpAnyH_ready (rs := [14]) (by kernel_rfl) (by simp) ?_
          refine AllReadyH.cons rfl (fun K hK => ?_) AllReadyH.nil
          refine step_append_at (by rfl) _ _ 29 (by rfl) w3.heap.size 90 i0 _ 4 48 Tryz.underlying29 (unhid HI).1 (unhid HI).2.1 (unhid HI).2.2.1 (unhid HI).2.2.2 rfl (by decide) (Value.slice a2 (k + 1) c2) (k + 1) (valsOf (L.take k) ++ valsOf [e]) (by rfl) r2 ⟨g, offD c k, none⟩ ((n - k)) ((c - k)) (valsOf (L.drop k)) (by rfl) (by rw [valsOf_len, ht2]) (unhid HC2 _ hS) (valsOf_one _) (by unfold maxLen; omega) (by omega) hS.size ?_
          intro v3 W6 r3 hg1 hat1
          obtain ⟨a3, c3, rfl⟩ := ownsRow_slice r3
          have hS1 := hS.grown hg1 hS.size (fun g eg => (r2.lt g eg).1)
          refine hK.out _ _ hS1 (fun _ => ?_)
          clear hK K hS r2 hg1 hat1
          have hS := hS1
          clear hS1
          refine wpAnyH_take (i := 15) (v := .slice a3 (k + 1 + (n - k)) c3) rfl (by kernel_rfl) (by kernel_rfl) (by kernel_rfl) (fun _ _ _ h => h) (Or.inl ⟨by rfl, fun w' hw => by go_simp⟩) hS ?_
          refine wpAnyH_done (by kernel_rfl) ?_ _
          have HF := hid (show W6.ownsRow w.heap.size 90 4 (.slice a3 (k + 1 + (n - k)) c3) (joinTo es (fs.take (j + 1))).length (valsOf (joinTo es (fs.take (j + 1)))) ∧ Below w.heap.size w W6 from ⟨by rw [(unhid HSN).1, (unhid HSN).2]; exact ownsRow_base r3 (by omega), (unhid HB2).trans (hS.mono (by omega))⟩)
          obtain ⟨g3, cc3, hv3⟩ := ownsRow_some (unhid HF).1 (by rw [(unhid HSN).1]; omega)
          have HV3 := hid hv3
          clear r3 hS hv3
          go_wp2_with fail
          go_roundw
          case rel => exact ⟨j + 1, by omega, by go_num, ⟨g3, cc3, unhid HV3⟩, hid (unhid HF).1, HOK, hid (unhid HF).2⟩
          case measure => simp [intOf]; omega
      · obtain ⟨old, hold, hop⟩ := there_get hth
        have hfo := entFn_get hold
        have hkl : placeE L e.path < L.length := (List.getElem?_eq_some_iff.1 hold).1
        obtain ⟨k0, k1, k2, k3⟩ := (unhid HG3) _ old hold
        simp only [Nat.zero_add] at k0 k1 k2 k3
        obtain ⟨m0, m1, m2, m3⟩ := unhid HE3
        have hse := same_eq (unhid HXE).1 ((unhid HXE).2 old (List.mem_of_getElem? hold)) hop
        cases hk1 : (old.kind == 1)
        · have hno : okJ es fs = false := (unhid HSN0).2.2 (by rw [(unhid HSN0).2.1]; unfold stepJ; rw [hth, hfo, hse, hk1]; simp)
          have E := hid (show (okJ es fs && treeB (joinTo es fs)) = false ∧ joinL es fs = [] by unfold joinL; rw [hno]; exact ⟨rfl, rfl⟩)
          have hkb : (old.kind != 1) = true := by rw [bne, hk1]; rfl
          clear hold hfo hse hop hno hk1
          go_wp2_with fail
          go_quiet (fail)
          have HF := hid (And.intro (owns_empty (w3.drewN nq) w.heap.size hwl 90) (((unhid HB2).trans (drewN_below w3 nq)).alloc (w := w3.drewN nq) hwl (.cells #[] 90)))
          generalize w3.drewN nq = w4 at HF ⊢
          go_wp2_with fail
          go_ret2
          exact ⟨_, by rw [(unhid E).1]; rfl, by rw [(unhid E).2]; exact ⟨_, _, rfl⟩, by rw [(unhid E).2]; exact (unhid HF).1, (unhid HF).2⟩
        · have hne := fun w => ne_ents e old w
          unfold Ent.vals at hne
          have hkb : (old.kind != 1) = false := by rw [bne, hk1]; rfl
          cases hev : eqV e old
          · have hno : okJ es fs = false := (unhid HSN0).2.2 (by rw [(unhid HSN0).2.1]; unfold stepJ; rw [hth, hfo, hse, hev]; simp)
            have E := hid (show (okJ es fs && treeB (joinTo es fs)) = false ∧ joinL es fs = [] by unfold joinL; rw [hno]; exact ⟨rfl, rfl⟩)
            rw [hev] at hne
            clear hold hfo hse hop hno hk1
            go_wp2_with fail
            go_quiet (fail)
            have HF := hid (And.intro (owns_empty (w3.drewN nq) w.heap.size hwl 90) (((unhid HB2).trans (drewN_below w3 nq)).alloc (w := w3.drewN nq) hwl (.cells #[] 90)))
            generalize w3.drewN nq = w4 at HF ⊢
            go_wp2_with fail
            go_ret2
            exact ⟨_, by rw [(unhid E).1]; rfl, by rw [(unhid E).2]; exact ⟨_, _, rfl⟩, by rw [(unhid E).2]; exact (unhid HF).1, (unhid HF).2⟩
          · have heo := eqV_eq hev
            have HSN := hid (show joinTo es (fs.take (j + 1)) = L by rw [(unhid HSN0).1]; exact put_same hth (by rw [hfo, heo]))
            have HOK := hid (show okJ es (fs.take (j + 1)) = true by rw [(unhid HSN0).2.1, unhid HA]; unfold stepJ; rw [hfo, hse, hk1, hev]; simp)
            rw [hev] at hne
            clear hold hfo hse hop hk1 heo
            go_wp2_with fail
            go_quiet (fail)
            have hBq : Below w3.heap.size w3 (w3.drewN nq) := drewN_below _ _
            have HF := hid (And.intro (ownsRow_kept (unhid HO3) (fun g eg => hBq.block g ((unhid HO3).lt g eg).2)) ((unhid HB2).trans (drewN_below w3 nq)))
            generalize w3.drewN nq = w4 at HF ⊢
            go_wp2_with fail
            go_roundw
            case rel => exact ⟨j + 1, by omega, by go_num, ⟨g, c, by rw [unhid HSN]⟩, hid (by rw [unhid HSN]; exact (unhid HF).1), HOK, hid (unhid HF).2⟩
            case measure => simp [intOf]; omega
    · have e : j = fs.length := by omega
      subst e
      rw [List.take_of_length_le (Nat.le_refl _)] at HO HA ⊢
      obtain ⟨a1, cap1, ev, hRI⟩ := rowIn_of_owns (unhid HO)
      have hsm : smallE (joinTo es fs) := small_all (by have := joinTo_len es fs; omega) (fun x hx => by
        rcases joinTo_mem es _ x hx with h | h
        · exact hae x h
        · exact haf x h)
      injection ev with ev1 ev2 ev3
      subst ev1
      have TOK := hid (specTreeOk_any (joinTo es fs) (some ⟨g, 0, none⟩) c wr hsm hRI.at)
      have E := hid (show (okJ es fs && treeB (joinTo es fs)) = treeB (joinTo es fs) ∧ joinL es fs = joinTo es fs by unfold joinL; rw [unhid HA]; exact ⟨rfl, rfl⟩)
      clear hRI hsm ev2 ev3
      go_wp2_with fail
      refine (unhid TOK).mono ?_
      rintro x w9 ⟨rfl, hB9⟩
      have HF := hid (And.intro (ownsRow_kept (unhid HO) (fun g eg => hB9.block g ((unhid HO).lt g eg).2)) ((unhid HB).trans (hB9.mono (unhid HB).size)))
      clear hB9 TOK
      go_wp2_with fail
      go_ret2
      exact ⟨_, by rw [(unhid E).1]; rfl, by rw [(unhid E).2]; exact ⟨_, _, rfl⟩, by rw [(unhid E).2]; exact (unhid HF).1, (unhid HF).2⟩
end Go.Proofs.YtlnpjiabdebmgaaGreat

/- The trees of packs in one, by the model and by the program. -/
namespace Go.Proofs.YtlnpjiabdebmgaaGreat
open Go.RowKit Go.Shelf

def treeOfP (p : packC.D) : List Ent := entsD (PackD.tree p)
def joinO : List Ent → List packC.D → Option (List Ent)
  | acc, [] => some acc
  | acc, p :: ps => if okJ acc (treeOfP p) && treeB (joinTo acc (treeOfP p)) then joinO (joinTo acc (treeOfP p)) ps else none
def joinG (ps : List packC.D) : List Ent := (joinO [] ps).getD []
def joinS (ps : List packC.D) : Bool := (joinO [] ps).isSome
theorem joinO_yes {acc : List Ent} {ps : List packC.D} {k : Nat} {p : packC.D} (hp : ps[k]? = some p) (h : (okJ acc (treeOfP p) && treeB (joinTo acc (treeOfP p))) = true) : joinO acc (ps.drop k) = joinO (joinTo acc (treeOfP p)) (ps.drop (k + 1)) := by
  obtain ⟨hl, e⟩ := List.getElem?_eq_some_iff.1 hp
  rw [List.drop_eq_getElem_cons hl, e, joinO, if_pos h]
theorem joinO_no {acc : List Ent} {ps : List packC.D} {k : Nat} {p : packC.D} (hp : ps[k]? = some p) (h : (okJ acc (treeOfP p) && treeB (joinTo acc (treeOfP p))) = false) : joinO acc (ps.drop k) = none := by
  obtain ⟨hl, e⟩ := List.getElem?_eq_some_iff.1 hp
  rw [List.drop_eq_getElem_cons hl, e, joinO, if_neg (by rw [h]; exact Bool.false_ne_true)]
theorem pk_tree {p : packC.D} (h : pkOk p = true) : treeB (treeOfP p) = true := by
  unfold pkOk at h
  simp only [Bool.and_eq_true] at h
  exact h.2
theorem tree_in {W : World} {e : packC.D} {na ta : Option Addr} {nc tc : Nat} (h : packC.at_ W [.string (PackD.name e), .string (PackD.version e), .slice na (PackD.needs e).length nc, .slice ta (PackD.tree e).length tc] e) : EntsAt W ta (treeOfP e) ∧ (treeOfP e).length = (PackD.tree e).length ∧ (ta = none → tc = 0) := by
  obtain ⟨v2, v3, e1, h2, h3⟩ := packC_at h
  injection e1 with _ e1
  injection e1 with _ e1
  injection e1 with _ e1
  injection e1 with e2 _
  subst e2
  obtain ⟨a, cap, ev, hn, hc, hr⟩ := entsD_at h3
  injection ev with ea _ ec
  subst ea ec
  exact ⟨hr, entsD_len _, hn⟩
theorem ents_all {W : World} {b o : Nat} {es : List Ent} (h : EntsAt W (some ⟨b, o, none⟩) es) : ∀ (i : Nat) e, es[i]? = some e → EntAt W b (o + i * 4) e := by
  rcases h with rfl | ⟨b', o', e, _, hc⟩
  · intro i e hi; cases hi
  · cases e; exact hc
theorem treeB_nil : treeB [] = true := by rfl

set_option maxRecDepth 100000 in
set_option maxHeartbeats 4000000 in
theorem l9Tree_any (ps : List packC.D) (v : Value) (w : World) (hlen : ps.length ≤ 1048576) (hf : formB ps = true) (h : rowAt packC w v ps) :
    Calls Tryz.prog 70 #[v] w fun x w' => ∃ u, x = .returned (.tuple #[u, .bool (joinS ps)]) ∧ w'.ownsRow w.heap.size 90 4 u (joinG ps).length (valsOf (joinG ps)) ∧ Below w.heap.size w w' := by
  obtain ⟨a, cap, rfl, -, -, h⟩ := h
  have HF := hid hf
  have H := hid h
  clear h hf
  have HO0 := hid (owns_empty w w.heap.size (Nat.le_refl _) 90)
  have HB0 := hid (show Below w.heap.size w (w.alloc (.cells #[] 90)) from (Below.refl _ w).alloc (Nat.le_refl _) _)
  go_enter Tryz.func70, Tryz.ntmps70
  go_wp2_with fail
  generalize w.alloc (.cells #[] 90) = wa at HO0 HB0 ⊢
  go_loopw [4, 5] (fun s i wr => ∃ (k : Nat) (acc : List Ent) (g c : Nat), k ≤ ps.length ∧ i = .int .i64 (k : Int) ∧ s = .slice (some ⟨g, 0, none⟩) acc.length c ∧ Hid (joinO [] ps = joinO acc (ps.drop k)) ∧ Hid (treeB acc = true) ∧ Hid (wr.ownsRow w.heap.size 90 4 (.slice (some ⟨g, 0, none⟩) acc.length c) acc.length (valsOf acc)) ∧ Hid (Below w.heap.size w wr)) (fun _ i _ => ps.length - (intOf i).toNat)
  case atStart => exact ⟨0, [], _, _, Nat.zero_le _, rfl, rfl, hid rfl, hid treeB_nil, HO0, HB0⟩
  case round =>
    clear HO0 HB0
    obtain ⟨k, acc, g, c, hk, rfl, rfl, HJ, HT, HO, HB⟩ := hrel
    by_cases hlt : k < ps.length
    · obtain ⟨e, he⟩ : ∃ e, ps[k]? = some e := ⟨ps[k], List.getElem?_eq_getElem hlt⟩
      obtain ⟨b, o, rfl, hbl, hc⟩ := (unhid H).resolve_left (by intro e; subst e; simp at hlt)
      obtain ⟨na, nc, ta, tc, ⟨c0, c1, c2, c3⟩, hat⟩ := pack_cells (unhid HB) hbl hc he
      obtain ⟨hte, htl, htn⟩ := tree_in hat
      have HTE := hid (pk_tree (form_ok (unhid HF) he))
      have hgl := ((unhid HO).lt g rfl).2
      obtain ⟨a1, cap1, ev, hRI⟩ := rowIn_of_owns (unhid HO)
      injection ev with ev1 ev2 ev3
      subst ev1
      have JN := hid (l2Join_N acc (treeOfP e) g 0 c ta tc wr (unhid HT) (unhid HTE) (ents_all hRI.at) hgl hte)
      rw [htl] at JN
      have HE := hid he
      clear c0 c1 c2 hat hc he hbl hte htn hgl hRI ev2 ev3 htl
      go_wp2_with fail
      refine (unhid JN).mono ?_
      rintro x w2 ⟨u, rfl, ⟨g2, cc, rfl⟩, ho, hb⟩
      have HB2 := hid ((unhid HB).trans (hb.mono (unhid HB).size))
      have HO2 := hid (ownsRow_lowerS ho (unhid HB).size)
      clear ho hb JN c3
      cases hq : (okJ acc (treeOfP e) && treeB (joinTo acc (treeOfP e))) with
      | false =>
        have EN := hid (show joinO [] ps = none from (unhid HJ).trans (joinO_no (unhid HE) hq))
        have HOE := hid (owns_empty w2 w.heap.size (unhid HB2).size 90)
        have HBE := hid (show Below w.heap.size w (w2.alloc (.cells #[] 90)) from (unhid HB2).alloc (unhid HB2).size _)
        clear HO2 hq
        go_wp2_with fail
        generalize w2.alloc (.cells #[] 90) = w3 at HOE HBE ⊢
        go_ret2
        exact ⟨_, by unfold joinS; rw [unhid EN]; rfl, by unfold joinG; rw [unhid EN]; exact unhid HOE, unhid HBE⟩
      | true =>
        have hj : joinL acc (treeOfP e) = joinTo acc (treeOfP e) := by
          rw [Bool.and_eq_true] at hq
          unfold joinL
          rw [if_pos hq.1]
        have HJ2 := hid ((unhid HJ).trans (joinO_yes (unhid HE) hq))
        have HT2 := hid (show treeB (joinTo acc (treeOfP e)) = true by rw [Bool.and_eq_true] at hq; exact hq.2)
        rw [hj] at HO2 ⊢
        generalize joinTo acc (treeOfP e) = acc2 at *
        clear hj hq
        go_wp2_with fail
        go_roundw
        case rel => exact ⟨k + 1, acc2, g2, cc, by omega, by go_num, rfl, HJ2, HT2, HO2, HB2⟩
        case measure => simp [intOf]; omega
    · have e : k = ps.length := by omega
      subst e
      have EN := hid (show joinO [] ps = some acc by
        have := unhid HJ
        rwa [List.drop_eq_nil_of_le (Nat.le_refl _)] at this)
      go_wp2_with fail
      go_ret2
      exact ⟨_, by unfold joinS; rw [unhid EN]; rfl, by unfold joinG; rw [unhid EN]; exact unhid HO, unhid HB⟩

set_option maxRecDepth 100000 in
set_option maxHeartbeats 4000000 in
theorem joinAll_any (ps : List packC.D) (v : Value) (w : World) (hs : smallPs ps) (hf : formB ps = true) (h : rowAt packC w v ps) :
    Calls Tryz.prog 71 #[v] w fun x w' => ∃ u, x = .returned (.tuple #[u, .bool (joinS ps)]) ∧ w'.ownsRow w.heap.size 90 4 u (joinG ps).length (valsOf (joinG ps)) ∧ Below w.heap.size w w' := by
  obtain ⟨a, cap, rfl, -, -, h⟩ := h
  have hlen := hs.1
  have HSM := hid hs
  have HF := hid hf
  have H := hid h
  clear h hf hs
  have HO0 := hid (show w.ownsRow w.heap.size 90 4 (.slice none 0 0) ([] : List Ent).length (valsOf []) from ⟨rfl, .inl ⟨rfl, rfl⟩⟩)
  go_enter Tryz.func71, Tryz.ntmps71
  go_wp2_with fail
  go_loopw [4, 11] (fun s i wr => ∃ (k : Nat) (acc : List Ent) (ga : Option Addr) (c : Nat), k ≤ ps.length ∧ i = .int .i64 (k : Int) ∧ s = .slice ga acc.length c ∧ Hid (joinO [] ps = joinO acc (ps.drop k)) ∧ Hid (treeB acc = true) ∧ Hid (wr.ownsRow w.heap.size 90 4 (.slice ga acc.length c) acc.length (valsOf acc)) ∧ Hid (Below w.heap.size w wr)) (fun _ i _ => ps.length - (intOf i).toNat)
  case atStart => exact ⟨0, [], _, _, Nat.zero_le _, rfl, rfl, hid rfl, hid treeB_nil, HO0, hid (Below.refl _ _)⟩
  case round =>
    clear HO0
    obtain ⟨k, acc, ga, c, hk, rfl, rfl, HJ, HT, HO, HB⟩ := hrel
    by_cases hlt : k < ps.length
    · obtain ⟨e, he⟩ : ∃ e, ps[k]? = some e := ⟨ps[k], List.getElem?_eq_getElem hlt⟩
      obtain ⟨b, o, rfl, hbl, hc⟩ := (unhid H).resolve_left (by intro e; subst e; simp at hlt)
      obtain ⟨na, nc, ta, tc, ⟨c0, c1, c2, c3⟩, hat⟩ := pack_cells (unhid HB) hbl hc he
      obtain ⟨hte, htl, htn⟩ := tree_in hat
      have HTE := hid (pk_tree (form_ok (unhid HF) he))
      have hst : smallE (treeOfP e) := ((unhid HSM).2 e (List.mem_of_getElem? he)).tree
      have hsa : smallE acc := small_all (by have := tree_16 (unhid HT); omega) (tree_all (unhid HT))
      obtain ⟨a1, cap1, ev, hRI⟩ := rowIn_of_owns (unhid HO)
      injection ev with ev1 ev2 ev3
      subst ev1
      have JN := hid (fun W (hb : Below wr.heap.size wr W) => treeJoin_any acc (treeOfP e) ga ta c tc W hsa hst (hRI.at.below hb) (hte.below hb))
      rw [htl] at JN
      have HE := hid he
      have HB1 := hid (show ∀ x, Below wr.heap.size wr (wr.alloc x) from fun x => (Below.refl _ wr).alloc (Nat.le_refl _) x)
      clear hat hc he hbl hte htn hRI ev2 ev3 htl hst hsa
      go_wp2_with fail
      have hb1 := unhid HB1 (.cells #[.string (PackD.name e), .string (PackD.version e), .slice na (PackD.needs e).length nc, .slice ta (PackD.tree e).length tc] 31)
      generalize wr.alloc (.cells #[.string (PackD.name e), .string (PackD.version e), .slice na (PackD.needs e).length nc, .slice ta (PackD.tree e).length tc] 31) = w1 at hb1 ⊢
      refine (unhid JN w1 hb1).mono ?_
      rintro x w2 ⟨u, rfl, ho, hb⟩
      have hbb := hb1.trans (hb.mono hb1.size)
      have HB2 := hid ((unhid HB).trans (hbb.mono (unhid HB).size))
      have HO2 := hid (ownsRow_lowerS ho ((unhid HB).trans (hb1.mono (unhid HB).size)).size)
      have hjo : joinOk acc (treeOfP e) = (okJ acc (treeOfP e) && treeB (joinTo acc (treeOfP e))) := by unfold joinOk; rw [unhid HT, unhid HTE]; rfl
      obtain ⟨u1, u2, hu⟩ := ownsRow_slice ho
      subst hu
      clear ho hb JN c3 c0 c1 c2 hb1 hbb HB1
      cases hq : (okJ acc (treeOfP e) && treeB (joinTo acc (treeOfP e))) with
      | false =>
        have EN := hid (show joinO [] ps = none from (unhid HJ).trans (joinO_no (unhid HE) hq))
        have HOE := hid (show w2.ownsRow w.heap.size 90 4 (.slice none 0 0) ([] : List Ent).length (valsOf []) from ⟨rfl, .inl ⟨rfl, rfl⟩⟩)
        rw [hq] at hjo
        rw [hjo]
        clear HO2 hq hjo
        go_wp2_with fail
        go_ret2
        exact ⟨_, by unfold joinS; rw [unhid EN]; rfl, by unfold joinG; rw [unhid EN]; exact unhid HOE, unhid HB2⟩
      | true =>
        have hj : joinR acc (treeOfP e) = joinTo acc (treeOfP e) := by
          unfold joinR
          rw [hjo, hq, if_pos rfl]
        have HJ2 := hid ((unhid HJ).trans (joinO_yes (unhid HE) hq))
        have HT2 := hid (show treeB (joinTo acc (treeOfP e)) = true by rw [Bool.and_eq_true] at hq; exact hq.2)
        rw [hq] at hjo
        rw [hjo]
        rw [hj] at HO2 ⊢
        generalize joinTo acc (treeOfP e) = acc2 at *
        clear hj hq hjo
        go_wp2_with fail
        go_roundw
        case rel => exact ⟨k + 1, acc2, u1, u2, by omega, by go_num, rfl, HJ2, HT2, HO2, HB2⟩
        case measure => simp [intOf]; omega
    · have e : k = ps.length := by omega
      subst e
      have EN := hid (show joinO [] ps = some acc by
        have := unhid HJ
        rwa [List.drop_eq_nil_of_le (Nat.le_refl _)] at this)
      go_wp2_with fail
      go_ret2
      exact ⟨_, by unfold joinS; rw [unhid EN]; rfl, by unfold joinG; rw [unhid EN]; exact unhid HO, unhid HB⟩
end Go.Proofs.YtlnpjiabdebmgaaGreat

/- Whether packs are by name, by the program. -/
namespace Go.Proofs.YtlnpjiabdebmgaaGreat
open Go.RowKit Go.Shelf

set_option maxRecDepth 100000 in
set_option maxHeartbeats 4000000 in
theorem packsByName_any (ps : List packC.D) (v : Value) (w : World) (hs : smallPs ps) (h : rowAt packC w v ps) :
    Calls Tryz.prog 163 #[v] w fun x w' => x = .returned (.bool (formB ps)) ∧ Below w.heap.size w w' := by
  obtain ⟨a, cap, rfl, -, -, h⟩ := h
  obtain ⟨hlen, hz⟩ := hs
  have HZ := hid hz
  have H := hid h
  clear hz h
  go_enter Tryz.func163, Tryz.ntmps163
  go_wp2_with fail
  go_loopw [7] (fun i wr => ∃ k : Nat, k ≤ ps.length ∧ i = .int .i64 (k : Int) ∧ Hid ((List.range k).all (okAt ps) = true) ∧ Hid (Below w.heap.size w wr)) (fun i _ => ps.length - (intOf i).toNat)
  case atStart => exact ⟨0, Nat.zero_le _, rfl, hid rfl, hid (Below.refl _ _)⟩
  case round =>
    obtain ⟨k, hk, rfl, HA, HB⟩ := hrel
    by_cases hlt : k < ps.length
    · obtain ⟨e, he⟩ : ∃ e, ps[k]? = some e := ⟨ps[k], List.getElem?_eq_getElem hlt⟩
      obtain ⟨b, o, rfl, hbl, hc⟩ := (unhid H).resolve_left (by intro e; subst e; simp at hlt)
      obtain ⟨na, nc, ta, tc, ⟨c0, c1, c2, c3⟩, hat⟩ := pack_cells (unhid HB) hbl hc he
      have HAT := hid hat
      have HE := hid he
      have SP := hid (unhid HZ e (List.mem_of_getElem? he))
      have HC := hid hc
      have HBL := hid hbl
      have HB0 := hid (show ∀ x, Below w.heap.size w (wr.alloc x) from fun x => (unhid HB).alloc (unhid HB).size x)
      have HB1 := hid (show ∀ x, Below wr.heap.size wr (wr.alloc x) from fun x => (Below.refl _ wr).alloc (Nat.le_refl _) x)
      clear hc he hbl hat
      go_wp2_with fail
      have hbox := World.alloc_heap_new wr (.cells #[.string (PackD.name e), .string (PackD.version e), .slice na (PackD.needs e).length nc, .slice ta (PackD.tree e).length tc] 31)
      have hB1 := unhid HB1 (.cells #[.string (PackD.name e), .string (PackD.version e), .slice na (PackD.needs e).length nc, .slice ta (PackD.tree e).length tc] 31)
      have hB0 := unhid HB0 (.cells #[.string (PackD.name e), .string (PackD.version e), .slice na (PackD.needs e).length nc, .slice ta (PackD.tree e).length tc] 31)
      have hlw : wr.heap.size < (wr.alloc (.cells #[.string (PackD.name e), .string (PackD.version e), .slice na (PackD.needs e).length nc, .slice ta (PackD.tree e).length tc] 31)).heap.size := by simp
      generalize wr.alloc (.cells #[.string (PackD.name e), .string (PackD.version e), .slice na (PackD.needs e).length nc, .slice ta (PackD.tree e).length tc] 31) = W0 at hbox hB1 hB0 hlw ⊢
      have BX := hid hbox
      have HB2 := hid hB0
      have HB3 := hid hB1
      have HLW := hid hlw
      clear hbox hB0 hB1 hlw HB0 HB1 c0 c1 c2 c3
      have g0 : ∀ x : CW (fun w' => Below W0.heap.size W0 w'), x.w.cell? ⟨wr.heap.size, 0, none⟩ = some (.string (PackD.name e)) := fun x => cell_arrS ((x.h.block _ (unhid HLW)).trans (unhid BX)) 0 _ rfl
      have g1 : ∀ x : CW (fun w' => Below W0.heap.size W0 w'), x.w.cell? ⟨wr.heap.size, 1, none⟩ = some (.string (PackD.version e)) := fun x => cell_arrS ((x.h.block _ (unhid HLW)).trans (unhid BX)) 1 _ rfl
      have g2 : ∀ x : CW (fun w' => Below W0.heap.size W0 w'), x.w.cell? ⟨wr.heap.size, 2, none⟩ = some (.slice na (PackD.needs e).length nc) := fun x => cell_arrS ((x.h.block _ (unhid HLW)).trans (unhid BX)) 2 _ rfl
      have g3 : ∀ x : CW (fun w' => Below W0.heap.size W0 w'), x.w.cell? ⟨wr.heap.size, 3, none⟩ = some (.slice ta (PackD.tree e).length tc) := fun x => cell_arrS ((x.h.block _ (unhid HLW)).trans (unhid BX)) 3 _ rfl
      have hba : ∀ {q : Prop}, (CW (fun w' => Below W0.heap.size W0 w') → q) ↔ q := CW.all (Below.refl _ W0)
      have HAT0 := hid (packC.below (unhid HAT) (unhid HB3))
      -- behind a name that is not behind the one ahead of it nothing is asked
      by_cases hk0 : k = 0
      · subst hk0
        have EK := hid (okAt_0 (unhid HE))
        refine held_begin (fun w' => Below W0.heap.size W0 w') (by kernel_rfl) (drew_belowS _) ?_
        refine held_here [true, true, true, true, true, true, true, true, true, true, true, true, true, true, true] (by kernel_rfl) (by kernel_rfl) (fun _ _ _ _ _ h => h) (drew_belowS _) ?_
        dsimp only [pick]
        repeat (go_big_quiet_step (fail))
        refine wpQuiet_nil ?_
        have hD := drew_belowS (B := W0.heap.size) W0
        generalize W0.drew = W1 at hD ⊢
        clear g0 g1 g2 g3
        refine held_call 15 15 27 (enters_of Tryz.func15 (by kernel_rfl) rfl) #[.agg #[.string (PackD.name e), .string (PackD.version e), .slice na (PackD.needs e).length nc, .slice ta (PackD.tree e).length tc]] (by kernel_rfl) (by kernel_rfl) rfl rfl rfl rfl rfl ?_
        refine (packOk_any e _ W1 (unhid SP) (packC.below (unhid HAT0) hD)).mono ?_
        rintro r w2 ⟨rfl, hb⟩
        have hD2 := hD.trans (hb.mono hD.size)
        have HB4 := hid ((unhid HB2).trans (hD2.mono (unhid HB2).size))
        refine ⟨_, rfl, hD2, ?_⟩
        simp only [Act.put, List.setIfInBounds_toArray, List.set_cons_zero, List.set_cons_succ]
        clear hb
        cases hq : pkOk e with
        | false =>
          refine held_here [false, false, false, false, false, false, false, false, false, false, false, false, false, false, false, false, true, true] (by kernel_rfl) (by kernel_rfl) (fun _ _ _ _ _ h => h) hD2 ?_
          dsimp only [pick]
          repeat (go_big_quiet_step (fail))
          refine wpQuiet_nil ?_
          refine held_done (by kernel_rfl) ?_
          clear hba hD hD2
          go_wp2_with fail
          go_ret
          exact ⟨by unfold formB; rw [all_range_no hlt (by rw [unhid EK, hq])]; rfl, unhid HB4⟩
        | true =>
          have HQ := hid hq
          clear hq
          refine held_here [false, false, false, false, false, false, false, false, false, false, false, false, false, false, false, false, true, true] (by kernel_rfl) (by kernel_rfl) (fun _ _ _ _ _ h => h) hD2 ?_
          dsimp only [pick]
          repeat (go_big_quiet_step (fail))
          refine wpQuiet_nil ?_
          refine held_done (by kernel_rfl) ?_
          clear hba hD hD2
          go_wp2_with fail
          go_roundw
          case rel => exact ⟨1, by omega, by go_num, hid (all_range_snoc rfl (by rw [unhid EK, unhid HQ])), HB4⟩
          case measure => simp [intOf]; omega
      · obtain ⟨j, rfl⟩ : ∃ j, k = j + 1 := ⟨k - 1, by omega⟩
        obtain ⟨d, hd⟩ : ∃ d, ps[j]? = some d := ⟨ps[j], List.getElem?_eq_getElem (by omega)⟩
        obtain ⟨-, -, -, -, ⟨d0, -, -, -⟩, -⟩ := pack_cells (unhid HB) (unhid HBL) (unhid HC) hd
        have EK := hid (okAt_s (unhid HE) hd)
        have hbw : b < wr.heap.size := Nat.lt_of_lt_of_le (unhid HBL) (unhid HB).size
        have g4 : ∀ x : CW (fun w' => Below W0.heap.size W0 w'), x.w.cell? ⟨b, o + j * 4, none⟩ = some (.string (PackD.name d)) := fun x => (x.h.cell (p := ⟨b, o + j * 4, none⟩) (Nat.lt_of_lt_of_le hbw (unhid HB3).size)).trans (((unhid HB3).cell (p := ⟨b, o + j * 4, none⟩) hbw).trans d0)
        have hjj : ((j + 1 : Nat) : Int) - 1 = (j : Int) := by omega
        have HD := hid hd
        clear hd d0
        have hle := le_not_lt (PackD.name e) (PackD.name d)
        cases hls : ltS (PackD.name d) (PackD.name e) with
        | false =>
          rw [hls] at hle
          have hle2 : (Op.bytesLess (PackD.name e).toList (PackD.name d).toList || (PackD.name e).toList == (PackD.name d).toList) = true := hle
          clear hle
          refine held_begin (fun w' => Below W0.heap.size W0 w') (by kernel_rfl) (drew_belowS _) ?_
          refine held_here [true, true, true, true, true, true, true, true, true, true, true, true, true, true, true] (by kernel_rfl) (by kernel_rfl) (fun _ _ _ _ _ h => h) (drew_belowS _) ?_
          dsimp only [pick]
          repeat (go_big_quiet_step (fail))
          refine wpQuiet_nil ?_
          have hD := drew_belowS (B := W0.heap.size) W0
          generalize W0.drew = W1 at hD ⊢
          clear g0 g1 g2 g3 g4
          refine held_skip 15 27 (by kernel_rfl) (by kernel_rfl) rfl rfl rfl hD ?_
          have hD2 := hD
          have HB4 := hid ((unhid HB2).trans (hD2.mono (unhid HB2).size))
          simp only [Act.put, List.setIfInBounds_toArray, List.set_cons_zero, List.set_cons_succ]
          refine held_here [false, false, false, false, false, false, false, false, false, false, false, false, false, false, false, false, true, true] (by kernel_rfl) (by kernel_rfl) (fun _ _ _ _ _ h => h) hD2 ?_
          dsimp only [pick]
          repeat (go_big_quiet_step (fail))
          refine wpQuiet_nil ?_
          refine held_done (by kernel_rfl) ?_
          clear hba hD hD2
          go_wp2_with fail
          go_ret
          exact ⟨by unfold formB; rw [all_range_no hlt (by rw [unhid EK, hls, Bool.and_false])]; rfl, unhid HB4⟩
        | true =>
          rw [hls] at hle
          have hle2 : (Op.bytesLess (PackD.name e).toList (PackD.name d).toList || (PackD.name e).toList == (PackD.name d).toList) = false := hle
          have HLS := hid hls
          clear hle hls
          refine held_begin (fun w' => Below W0.heap.size W0 w') (by kernel_rfl) (drew_belowS _) ?_
          refine held_here [true, true, true, true, true, true, true, true, true, true, true, true, true, true, true] (by kernel_rfl) (by kernel_rfl) (fun _ _ _ _ _ h => h) (drew_belowS _) ?_
          dsimp only [pick]
          repeat (go_big_quiet_step (fail))
          refine wpQuiet_nil ?_
          have hD := drew_belowS (B := W0.heap.size) W0
          generalize W0.drew = W1 at hD ⊢
          clear g0 g1 g2 g3 g4
          refine held_call 15 15 27 (enters_of Tryz.func15 (by kernel_rfl) rfl) #[.agg #[.string (PackD.name e), .string (PackD.version e), .slice na (PackD.needs e).length nc, .slice ta (PackD.tree e).length tc]] (by kernel_rfl) (by kernel_rfl) rfl rfl rfl rfl rfl ?_
          refine (packOk_any e _ W1 (unhid SP) (packC.below (unhid HAT0) hD)).mono ?_
          rintro r w2 ⟨rfl, hb⟩
          have hD2 := hD.trans (hb.mono hD.size)
          have HB4 := hid ((unhid HB2).trans (hD2.mono (unhid HB2).size))
          refine ⟨_, rfl, hD2, ?_⟩
          simp only [Act.put, List.setIfInBounds_toArray, List.set_cons_zero, List.set_cons_succ]
          clear hb
          cases hq : pkOk e with
          | false =>
            refine held_here [false, false, false, false, false, false, false, false, false, false, false, false, false, false, false, false, true, true] (by kernel_rfl) (by kernel_rfl) (fun _ _ _ _ _ h => h) hD2 ?_
            dsimp only [pick]
            repeat (go_big_quiet_step (fail))
            refine wpQuiet_nil ?_
            refine held_done (by kernel_rfl) ?_
            clear hba hD hD2
            go_wp2_with fail
            go_ret
            exact ⟨by unfold formB; rw [all_range_no hlt (by rw [unhid EK, hq]; rfl)]; rfl, unhid HB4⟩
          | true =>
            have HQ := hid hq
            clear hq
            refine held_here [false, false, false, false, false, false, false, false, false, false, false, false, false, false, false, false, true, true] (by kernel_rfl) (by kernel_rfl) (fun _ _ _ _ _ h => h) hD2 ?_
            dsimp only [pick]
            repeat (go_big_quiet_step (fail))
            refine wpQuiet_nil ?_
            refine held_done (by kernel_rfl) ?_
            clear hba hD hD2
            go_wp2_with fail
            go_roundw
            case rel => exact ⟨j + 1 + 1, by omega, by go_num, hid (all_range_snoc (unhid HA) (by rw [unhid EK, unhid HQ, unhid HLS]; rfl)), HB4⟩
            case measure => simp [intOf]; omega
    · have e : k = ps.length := by omega
      subst e
      go_wp2_with fail
      go_ret
      exact ⟨by unfold formB; rw [unhid HA]; rfl, unhid HB⟩
end Go.Proofs.YtlnpjiabdebmgaaGreat

/- Root: what the laws' own functions of it do. (Written by mkshape.py.) -/
namespace Go.Proofs.YtlnpjiabdebmgaaGreat
open Go.RowKit Go.Shelf

structure RootD where
  packs : List packC.D
def rootC : CK := isoC (rowC packC 31) RootD (fun d => d.packs) (fun p => ⟨p⟩)
theorem rootC_at {W : World} {cs : List Value} {d : RootD} (h : rootC.at_ W cs d) : ∃ v0 : Value, cs = [v0] ∧ rowAt packC W v0 d.packs := by
  obtain ⟨v0, rfl, h0⟩ := h
  exact ⟨v0, rfl, h0⟩
def rootC_is (W : World) (cs : List Value) (d : RootD) (F : List Nat) : Prop := ∃ (v0 : Value) (F0 : List Nat), cs = [v0] ∧ F = F0 ∧ rowOwn packC 31 W v0 d.packs F0
theorem rootC_own {W : World} {cs : List Value} {d : RootD} {F : List Nat} (h : rootC.own W cs d F) : rootC_is W cs d F := by
  obtain ⟨v0, rfl, h0⟩ := h
  exact ⟨v0, _, rfl, by simp, h0⟩
theorem rootC_mk {W : World} {cs : List Value} {d : RootD} {F : List Nat} (h : rootC_is W cs d F) : rootC.own W cs d F := by
  obtain ⟨v0, F0, rfl, rfl, h0⟩ := h
  exact ⟨v0, rfl, h0⟩
theorem rootC_sz (d : RootD) : rootC.sz d = (d.packs.length + szR packC d.packs) := by
  show (d.packs.length + szR packC d.packs) = _
  omega

set_option maxRecDepth 100000 in
set_option maxHeartbeats 4000000 in
theorem vszRoot_any (d : RootD) (cs : List Value) (left : Int) (w : World) (hb : rootC.big d) (hl : 0 ≤ left) (hl2 : left ≤ 1048576) (h : rootC.at_ w cs d) :
    Calls Tryz.prog 17 #[.agg cs.toArray, .int .i64 left] w fun x w' => (∃ r : Int, x = .returned (.int .i64 r) ∧ r ≤ left ∧ (r < 0 ∨ r + rootC.sz d = left)) ∧ Below w.heap.size w w' := by
  rw [rootC_sz]
  obtain ⟨v0, rfl, h0⟩ := rootC_at h
  obtain ⟨packs⟩ := d
  dsimp only at *
  have b0 := hb
  have H0 := hid h0
  have B0 := hid b0
  clear h h0 b0
  have HB := hid (show ∀ o, Below w.heap.size w (w.alloc o) from fun o => (Below.refl _ w).alloc (Nat.le_refl _) o)
  go_enter Tryz.func17, Tryz.ntmps17
  go_wp2_with fail
  refine (vszPackS_any packs v0 left _ (unhid B0) (by omega) (by omega) ((unhid H0).below (unhid HB _))).mono ?_
  rintro x w0 ⟨⟨r0, rfl, q0a, q0b⟩, hb⟩
  have HBy := hid ((unhid HB _).trans (hb.mono (unhid HB _).size))
  have hlt : w.heap.size < w0.heap.size := by have := hb.size; simp at this; omega
  clear hb
  have HBx := HBy
  clear HBy
  have Q0 := hid q0b
  clear q0b
  by_cases g0 : r0 < 0
  · go_wp2_with fail
    go_ret
    exact ⟨⟨-1, rfl, by omega, .inl (by omega)⟩, unhid HBx⟩
  go_wp2_with fail
  go_ret
  exact ⟨⟨r0, rfl, by omega, .inr (by have t0 := (unhid Q0).resolve_left (by omega); omega)⟩, unhid HBx⟩

set_option maxRecDepth 100000 in
set_option maxHeartbeats 4000000 in
theorem vtoRoot_any (d : RootD) (cs : List Value) (w : World) (hs : rootC.sz d ≤ 1048576) (h : rootC.at_ w cs d) :
    Calls Tryz.prog 19 #[.agg cs.toArray] w fun x w' => ∃ (cs' : List Value) (F : List Nat), x = .returned (.agg cs'.toArray) ∧ rootC.own w' cs' d F ∧ (∀ k ∈ F, w.heap.size ≤ k ∧ k < w'.heap.size) ∧ Below w.heap.size w w' := by
  rw [rootC_sz] at hs
  obtain ⟨v0, rfl, h0⟩ := rootC_at h
  obtain ⟨packs⟩ := d
  dsimp only at *
  have H0 := hid h0
  clear h h0
  go_enter Tryz.func19, Tryz.ntmps19
  go_wp2_with fail
  obtain ⟨hP, hR, hO, hS, hB⟩ := three_boxes w (.cells #[v0] 37) (.cells #[.slice none 0 0] 42) (.cells #[.slice none 0 0] 42)
  generalize ((w.alloc (.cells #[v0] 37)).alloc (.cells #[.slice none 0 0] 42)).alloc (.cells #[.slice none 0 0] 42) = W0 at hP hR hO hS hB ⊢
  have JP := hid hP
  clear hP
  have JR := hid hR
  clear hR
  have JO := hid hO
  clear hO
  have JS := hid hS
  clear hS
  have JB := hid hB
  clear hB
  refine (vtoPackS_any packs v0 W0 (by omega) ((unhid H0).below (unhid JB))).mono ?_
  rintro x w0 ⟨uu, F0, rfl, hown, hfr, hb⟩
  obtain ⟨ua0, uc0, hu⟩ := rowOwn.slice hown
  subst hu
  have hP := (hb.block _ (by have := unhid JS; omega)).trans (unhid JP)
  have hR := (hb.block _ (by have := unhid JS; omega)).trans (unhid JR)
  have hO := (hb.block _ (by have := unhid JS; omega)).trans (unhid JO)
  have hS := Nat.lt_of_lt_of_le (unhid JS) hb.size
  have hB := (unhid JB).trans (hb.mono (unhid JB).size)
  have X0 := hid hown
  have Y0 := hid (show ∀ k ∈ F0, w.heap.size + 1 + 1 < k ∧ k < w0.heap.size from fun k hk => ⟨Nat.lt_of_lt_of_le (unhid JS) (hfr k hk).1, (hfr k hk).2⟩)
  clear hown hfr hb JP JR JO JS JB
  obtain ⟨o0, p0⟩ := cell_fz hO 0 _ rfl
  obtain ⟨r0, q0⟩ := cell_fz hR 0 _ rfl
  go_wp2_with fail
  have hsame : ∀ k, k ≠ w.heap.size + 1 + 1 → k ≠ w.heap.size + 1 → ((w0.setCell ⟨w.heap.size + 1 + 1, 0, none⟩ ((.slice ua0 packs.length uc0))).setCell ⟨w.heap.size + 1, 0, none⟩ ((.slice ua0 packs.length uc0))).heap[k]? = w0.heap[k]? := fun k h1 h2 => by rw [Below.heap_setCell _ _ _ _ (by exact h2), Below.heap_setCell _ _ _ _ (by exact h1)]
  have hfin : Below w.heap.size w ((w0.setCell ⟨w.heap.size + 1 + 1, 0, none⟩ ((.slice ua0 packs.length uc0))).setCell ⟨w.heap.size + 1, 0, none⟩ ((.slice ua0 packs.length uc0))) := ((hB.setCell (by dsimp only; omega) _).setCell (by dsimp only; omega) _)
  refine bodyPost_ret (v := .agg #[(.slice ua0 packs.length uc0)]) (by simp [results, Tryz.results19, go_sem, World.cell?_setCell_same', r0]) rfl ⟨[(.slice ua0 packs.length uc0)], F0, rfl, rootC_mk ⟨_, F0, rfl, rfl, rowOwn.frame (unhid X0) (fun k hk => hsame k (by have := ((unhid Y0) k hk).1; omega) (by have := ((unhid Y0) k hk).1; omega))⟩, ?_, hfin⟩
  intro k hk
  have hsz : ((w0.setCell ⟨w.heap.size + 1 + 1, 0, none⟩ ((.slice ua0 packs.length uc0))).setCell ⟨w.heap.size + 1, 0, none⟩ ((.slice ua0 packs.length uc0))).heap.size = w0.heap.size := by simp
  rw [hsz]
  have := (unhid Y0) k hk
  omega

theorem vinfoRoot : (Tryz.prog.info? 42).map (fun i => (i.zero, i.size, i.bytes)) = some (some (.agg #[.slice none 0 0]), 1, 24) := by kernel_rfl
set_option maxRecDepth 100000 in
set_option maxHeartbeats 4000000 in
theorem veqRoot_same (d : RootD) (cs cs' : List Value) (w : World) (hb : rootC.big d) (h : rootC.at_ w cs d) (h' : rootC.at_ w cs' d) :
    Calls Tryz.prog 21 #[.agg cs.toArray, .agg cs'.toArray] w fun r w' => r = .returned (.bool true) ∧ Below w.heap.size w w' := by
  obtain ⟨v0, rfl, h0⟩ := rootC_at h
  obtain ⟨u0, rfl, g0⟩ := rootC_at h'
  obtain ⟨packs⟩ := d
  dsimp only at *
  have hb0 := hb
  have H0 := hid h0
  have G0 := hid g0
  have B0 := hid hb0
  clear h h' hb hb0 h0 g0
  have HW := hid (alloc2_below w)
  go_enter Tryz.func21, Tryz.ntmps21
  go_wp2_with fail
  obtain ⟨hP, hR, hS⟩ := two_boxes w (.cells #[v0] 42) (.cells #[u0] 42)
  have hB := (unhid HW) (.cells #[v0] 42) (.cells #[u0] 42)
  generalize (w.alloc (.cells #[v0] 42)).alloc (.cells #[u0] 42) = W0 at hP hR hS hB ⊢
  have JP := hid hP
  clear hP
  have JR := hid hR
  clear hR
  have JS := hid hS
  clear hS
  have JB := hid hB
  clear hB
  refine (veqPackS_same packs v0 u0 W0 (unhid B0) ((unhid H0).below (unhid JB)) ((unhid G0).below (unhid JB))).mono ?_
  rintro x w0 ⟨rfl, hb⟩
  have hP := (hb.block _ (by have := unhid JS; omega)).trans (unhid JP)
  have hR := (hb.block _ (by have := unhid JS; omega)).trans (unhid JR)
  have hS := Nat.lt_of_lt_of_le (unhid JS) hb.size
  have hB := (unhid JB).trans (hb.mono (unhid JB).size)
  clear hb JP JR JS JB
  go_wp2_with fail
  go_ret
  exact ⟨rfl, hB⟩

theorem cntRoot_is (d : RootD) : rootC.cnt d = cntR packC d.packs := rfl
theorem cntRoot (d : RootD) : rootC.cnt d ≤ 1 + 8 * rootC.sz d := by
  rw [cntRoot_is d, rootC_sz d]
  have h0 := cntPackS d.packs
  omega
theorem cntRootS (ds : List rootC.D) : cntR rootC ds ≤ 8 * (ds.length + szR rootC ds) := cntR_bound (by omega) cntRoot ds
def cntVRoot (d : RootD) : Nat := cntR packC d.packs
def markVRoot (q : Nat) (d : RootD) : RootD := ⟨markR packC (q) d.packs⟩
set_option maxRecDepth 100000 in
set_option maxHeartbeats 4000000 in
theorem vmarkRoot_own (d : RootD) (cs : List Value) (F : List Nat) (q : Nat) (c : Int) (hcq : c = (q : Int)) (w : World) (hq : 0 < q) (hq2 : q + cntVRoot d ≤ 20000000) (h : rootC.own w cs d F) :
    Calls Tryz.prog 25 #[.agg cs.toArray, .int .i64 c] w fun x w' => (∃ r : Int, x = .returned (.int .i64 r) ∧ r ≤ ((q + cntVRoot d : Nat) : Int) ∧ ((q + cntVRoot d : Nat) : Int) ≤ r) ∧ rootC.own w' cs (markVRoot q d) F ∧ Only F w w' := by
  subst hcq
  unfold cntVRoot at *
  obtain ⟨v0, F0, rfl, rfl, x0⟩ := rootC_own h
  obtain ⟨F0, hF0⟩ : ∃ F0, F0 = F := ⟨F, rfl⟩
  subst hF0
  obtain ⟨ua0, uc0, rfl⟩ := rowOwn.slice x0
  have X0 := hid x0
  have L0 := hid (rowOwn.lt x0)
  clear h x0
  go_enter Tryz.func25, Tryz.ntmps25
  go_wp2_with fail
  have hP := World.alloc_heap_new w (.cells #[.slice ua0 d.packs.length uc0] 42)
  have hB : Below w.heap.size w (w.alloc (.cells #[.slice ua0 d.packs.length uc0] 42)) := (Below.refl _ w).alloc (Nat.le_refl _) _
  have hS : w.heap.size < (w.alloc (.cells #[.slice ua0 d.packs.length uc0] 42)).heap.size := by simp
  generalize w.alloc (.cells #[.slice ua0 d.packs.length uc0] 42) = W0 at hP hB hS ⊢
  have X0 := hid ((unhid X0).below hB)
  have HK := hid (Only.ofBelow (F := F0) hB)
  have JP := hid hP
  have JS := hid hS
  clear hB hP hS
  refine (vmarkPackS_own d.packs (.slice ua0 d.packs.length uc0) F0 (q) _ (by omega) W0 (by omega) (by omega) (unhid X0)).mono ?_
  rintro x w0 ⟨⟨r0, rfl, ra0, rb0⟩, hown, ho⟩
  have JP := hid ((ho.block _ (unhid JS) (fun e => Nat.lt_irrefl _ ((unhid L0) _ e))).trans (unhid JP))
  have JS := hid (Nat.lt_of_lt_of_le (unhid JS) ho.size)
  have HK := hid ((unhid HK).trans (ho.mono (fun i hi => by simp [hi])))
  have X0 := hid hown
  clear hown ho
  go_wp2_with fail
  go_ret
  exact ⟨⟨_, rfl, by omega, by omega⟩, rootC_mk ⟨_, F0, rfl, rfl, unhid X0⟩, unhid HK⟩
set_option maxRecDepth 100000 in
set_option maxHeartbeats 4000000 in
theorem vheldRoot_at (d : RootD) (cs : List Value) (q : Nat) (c : Int) (hcq : c = (q : Int)) (w : World) (hq : 0 < q) (hq2 : q + cntVRoot d ≤ 20000000) (h : rootC.at_ w cs (markVRoot q d)) :
    Calls Tryz.prog 31 #[.agg cs.toArray, .int .i64 c] w fun x w' => (∃ r : Int, x = .returned (.int .i64 r) ∧ r ≤ ((q + cntVRoot d : Nat) : Int) ∧ ((q + cntVRoot d : Nat) : Int) ≤ r) ∧ Below w.heap.size w w' := by
  subst hcq
  unfold cntVRoot at *
  obtain ⟨v0, rfl, r0⟩ := rootC_at h
  have R0 : Hid (rowAt packC w v0 (markR packC (q) d.packs)) := hid r0
  clear h r0
  show Calls Tryz.prog 31 #[.agg #[v0], .int .i64 (q : Int)] w _
  go_enter Tryz.func31, Tryz.ntmps31
  go_wp2_with fail
  have hP := World.alloc_heap_new w (.cells #[v0] 42)
  have hB : Below w.heap.size w (w.alloc (.cells #[v0] 42)) := (Below.refl _ w).alloc (Nat.le_refl _) _
  have hS : w.heap.size < (w.alloc (.cells #[v0] 42)).heap.size := by simp
  generalize w.alloc (.cells #[v0] 42) = W0 at hP hB hS ⊢
  have HB := hid hB
  have JP := hid hP
  have JS := hid hS
  clear hB hP hS
  refine (vheldPackS_at d.packs v0 (q) _ (by omega) W0 (by omega) (by omega) (rowAt.below (unhid R0) (unhid HB))).mono ?_
  rintro x w0 ⟨⟨r0, rfl, ra0, rb0⟩, hb⟩
  have JP := hid ((hb.block _ (unhid JS)).trans (unhid JP))
  have JS := hid (Nat.lt_of_lt_of_le (unhid JS) hb.size)
  have HB := hid ((unhid HB).trans (hb.mono (unhid HB).size))
  have rn0 : ¬ (r0 < 0) := by omega
  clear hb
  go_wp2_with fail
  go_ret
  exact ⟨⟨_, rfl, by omega, by omega⟩, unhid HB⟩
end Go.Proofs.YtlnpjiabdebmgaaGreat

/- What is wrong with packs; whether a root is ok, and its tree. -/
namespace Go.Proofs.YtlnpjiabdebmgaaGreat
open Go.RowKit Go.Shelf

def rootCode (ps : List packC.D) : Int := if formB ps then (if ps.length ≤ 5 then (if needsB ps then (if joinS ps then 0 else 5) else 4) else 6) else 1
theorem code_form {ps : List packC.D} (h : formB ps = false) : rootCode ps = 1 := by unfold rootCode; rw [h]; rfl
theorem code_full {ps : List packC.D} (h : formB ps = true) (h2 : ¬ ps.length ≤ 5) : rootCode ps = 6 := by unfold rootCode; rw [if_pos h, if_neg h2]
theorem code_needs {ps : List packC.D} (h : formB ps = true) (h2 : ps.length ≤ 5) (h3 : needsB ps = false) : rootCode ps = 4 := by unfold rootCode; rw [if_pos h, if_pos h2, h3]; rfl
theorem code_join {ps : List packC.D} (h : formB ps = true) (h2 : ps.length ≤ 5) (h3 : needsB ps = true) (h4 : joinS ps = false) : rootCode ps = 5 := by unfold rootCode; rw [if_pos h, if_pos h2, if_pos h3, h4]; rfl
theorem code_fine {ps : List packC.D} (h : formB ps = true) (h2 : ps.length ≤ 5) (h3 : needsB ps = true) (h4 : joinS ps = true) : rootCode ps = 0 := by unfold rootCode; rw [if_pos h, if_pos h2, if_pos h3, if_pos h4]
theorem code_0 {ps : List packC.D} (h : rootCode ps = 0) : formB ps = true ∧ ps.length ≤ 5 ∧ needsB ps = true ∧ joinS ps = true := by
  unfold rootCode at h
  split at h
  · split at h
    · split at h
      · split at h
        · exact ⟨by assumption, by assumption, by assumption, by assumption⟩
        · cases h
      · cases h
    · cases h
  · cases h

set_option maxRecDepth 100000 in
set_option maxHeartbeats 8000000 in
theorem l9Check_any (ps : List packC.D) (v : Value) (w : World) (hs : smallPs ps) (h : rowAt packC w v ps) :
    Calls Tryz.prog 68 #[v] w fun x w' => x = .returned (.int .i64 (rootCode ps)) ∧ Below w.heap.size w w' := by
  have HR := hid h
  obtain ⟨a, cap, rfl, -, -, h⟩ := h
  have hlen := hs.1
  have HSM := hid hs
  have H := hid h
  clear h hs
  go_enter Tryz.func68, Tryz.ntmps68
  go_wp2_with fail
  go_loopw [3] (fun i wr => ∃ k : Nat, k ≤ ps.length ∧ i = .int .i64 (k : Int) ∧ Hid ((List.range k).all (okAt ps) = true) ∧ Hid (Below w.heap.size w wr)) (fun i _ => ps.length - (intOf i).toNat)
  case atStart => exact ⟨0, Nat.zero_le _, rfl, hid rfl, hid (Below.refl _ _)⟩
  case round =>
    obtain ⟨k, hk, rfl, HA, HB⟩ := hrel
    by_cases hlt : k < ps.length
    · obtain ⟨e, he⟩ : ∃ e, ps[k]? = some e := ⟨ps[k], List.getElem?_eq_getElem hlt⟩
      obtain ⟨b, o, rfl, hbl, hc⟩ := (unhid H).resolve_left (by intro e; subst e; simp at hlt)
      obtain ⟨na, nc, ta, tc, ⟨c0, c1, c2, c3⟩, hat⟩ := pack_cells (unhid HB) hbl hc he
      have hbw : b < wr.heap.size := Nat.lt_of_lt_of_le hbl (unhid HB).size
      have HBW := hid hbw
      have HE := hid he
      have SP := hid ((unhid HSM).2 e (List.mem_of_getElem? he))
      have PK := hid (fun W (hb : Below wr.heap.size wr W) => specPackOk_any e _ W (unhid SP) (packC.below hat hb))
      have g0 : ∀ x : CW (fun w' => Below wr.heap.size wr w'), x.w.cell? ⟨b, o + k * 4, none⟩ = some (.string (PackD.name e)) := fun x => (x.h.cell (p := ⟨b, o + k * 4, none⟩) hbw).trans c0
      have g1 : ∀ x : CW (fun w' => Below wr.heap.size wr w'), x.w.cell? ⟨b, o + k * 4 + 1, none⟩ = some (.string (PackD.version e)) := fun x => (x.h.cell (p := ⟨b, o + k * 4 + 1, none⟩) hbw).trans c1
      have g2 : ∀ x : CW (fun w' => Below wr.heap.size wr w'), x.w.cell? ⟨b, o + k * 4 + 2, none⟩ = some (.slice na (PackD.needs e).length nc) := fun x => (x.h.cell (p := ⟨b, o + k * 4 + 2, none⟩) hbw).trans c2
      have g3 : ∀ x : CW (fun w' => Below wr.heap.size wr w'), x.w.cell? ⟨b, o + k * 4 + 3, none⟩ = some (.slice ta (PackD.tree e).length tc) := fun x => (x.h.cell (p := ⟨b, o + k * 4 + 3, none⟩) hbw).trans c3
      have hba : ∀ {q : Prop}, (CW (fun w' => Below wr.heap.size wr w') → q) ↔ q := CW.all (Below.refl _ wr)
      by_cases hk0 : k = 0
      · subst hk0
        have EK := hid (okAt_0 he)
        have g5 : ∀ x : CW (fun w' => Below wr.heap.size wr w'), x.w.cell? ⟨b, o, none⟩ = some (.string (PackD.name e)) := fun x => by have := g0 x; rwa [Nat.zero_mul] at this
        have g6 : ∀ x : CW (fun w' => Below wr.heap.size wr w'), x.w.cell? ⟨b, o + 1, none⟩ = some (.string (PackD.version e)) := fun x => by have := g1 x; rwa [Nat.zero_mul] at this
        have g7 : ∀ x : CW (fun w' => Below wr.heap.size wr w'), x.w.cell? ⟨b, o + 2, none⟩ = some (.slice na (PackD.needs e).length nc) := fun x => by have := g2 x; rwa [Nat.zero_mul] at this
        have g8 : ∀ x : CW (fun w' => Below wr.heap.size wr w'), x.w.cell? ⟨b, o + 3, none⟩ = some (.slice ta (PackD.tree e).length tc) := fun x => by have := g3 x; rwa [Nat.zero_mul] at this
        clear hc he hbl hat c0 c1 c2 c3 g0 g1 g2 g3
        go_wp2_with fail
        refine held_begin (fun w' => Below wr.heap.size wr w') (by kernel_rfl) (drew_belowS _) ?_
        refine held_here [true, true, true, true] (by kernel_rfl) (by kernel_rfl) (fun _ _ _ _ _ h => h) (drew_belowS _) ?_
        dsimp only [pick]
        repeat (go_big_quiet_step (fail))
        refine wpQuiet_nil ?_
        have hD := drew_belowS (B := wr.heap.size) wr
        generalize wr.drew = W1 at hD ⊢
        refine held_call 4 13 16 (enters_of Tryz.func13 (by kernel_rfl) rfl) #[.agg #[.string (PackD.name e), .string (PackD.version e), .slice na (PackD.needs e).length nc, .slice ta (PackD.tree e).length tc]] (by kernel_rfl) (by kernel_rfl) rfl rfl rfl rfl rfl ?_
        refine (unhid PK W1 hD).mono ?_
        rintro r w2 ⟨rfl, hb⟩
        have hD2 := hD.trans (hb.mono hD.size)
        have HB4 := hid ((unhid HB).trans (hD2.mono (unhid HB).size))
        refine ⟨_, rfl, hD2, ?_⟩
        simp only [Act.put, List.setIfInBounds_toArray, List.set_cons_zero, List.set_cons_succ]
        clear hb
        cases hq : pkOk e with
        | false =>
          refine held_here [false, false, false, false, false, true, true, true, true, true, true, true, true, true, true, true, true, true, true, true, true, true, true, true] (by kernel_rfl) (by kernel_rfl) (fun _ _ _ _ _ h => h) hD2 ?_
          dsimp only [pick]
          repeat (go_big_quiet_step (fail))
          refine wpQuiet_nil ?_
          refine held_done (by kernel_rfl) ?_
          have E := hid (code_form (show formB ps = false by unfold formB; rw [all_range_no hlt (by rw [unhid EK, hq])]))
          clear hba hD hD2 g5 g6 g7 g8
          go_wp2_with fail
          go_ret
          exact ⟨by rw [unhid E]; rfl, unhid HB4⟩
        | true =>
          have HQ := hid hq
          clear hq
          refine held_here [false, false, false, false, false, true, true, true, true, true, true, true, true, true, true, true, true, true, true, true, true, true, true, true] (by kernel_rfl) (by kernel_rfl) (fun _ _ _ _ _ h => h) hD2 ?_
          dsimp only [pick]
          repeat (go_big_quiet_step (fail))
          refine wpQuiet_nil ?_
          refine held_done (by kernel_rfl) ?_
          clear hba hD hD2 g5 g6 g7 g8
          go_wp2_with fail
          go_roundw
          case rel => exact ⟨1, by omega, by go_num, hid (all_range_snoc rfl (by rw [unhid EK, unhid HQ])), HB4⟩
          case measure => simp [intOf]; omega
      · obtain ⟨j, rfl⟩ : ∃ j, k = j + 1 := ⟨k - 1, by omega⟩
        obtain ⟨d, hd⟩ : ∃ d, ps[j]? = some d := ⟨ps[j], List.getElem?_eq_getElem (by omega)⟩
        obtain ⟨-, -, -, -, ⟨d0, -, -, -⟩, -⟩ := pack_cells (unhid HB) hbl hc hd
        have EK := hid (okAt_s he hd)
        have g4 : ∀ x : CW (fun w' => Below wr.heap.size wr w'), x.w.cell? ⟨b, o + j * 4, none⟩ = some (.string (PackD.name d)) := fun x => (x.h.cell (p := ⟨b, o + j * 4, none⟩) hbw).trans d0
        have hjj : ((j + 1 : Nat) : Int) - 1 = (j : Int) := by omega
        have hpos : decide ((0 : Int) < ((j + 1 : Nat) : Int)) = true := decide_eq_true (by omega)
        have hnp : (decide (((j + 1 : Nat) : Int) < 0) || (((j + 1 : Nat) : Int) == 0)) = false := by
          rw [decide_eq_false (by omega), Bool.false_or]
          exact beq_eq_false_iff_ne.2 (by omega)
        clear hc he hbl hat c0 c1 c2 c3 hd d0
        go_wp2_with fail
        refine held_begin (fun w' => Below wr.heap.size wr w') (by kernel_rfl) (drew_belowS _) ?_
        refine held_here [true, true, true, true] (by kernel_rfl) (by kernel_rfl) (fun _ _ _ _ _ h => h) (drew_belowS _) ?_
        dsimp only [pick]
        repeat (go_big_quiet_step (fail))
        refine wpQuiet_nil ?_
        have hD := drew_belowS (B := wr.heap.size) wr
        generalize wr.drew = W1 at hD ⊢
        refine held_call 4 13 16 (enters_of Tryz.func13 (by kernel_rfl) rfl) #[.agg #[.string (PackD.name e), .string (PackD.version e), .slice na (PackD.needs e).length nc, .slice ta (PackD.tree e).length tc]] (by kernel_rfl) (by kernel_rfl) rfl rfl rfl rfl rfl ?_
        refine (unhid PK W1 hD).mono ?_
        rintro r w2 ⟨rfl, hb⟩
        have hD2 := hD.trans (hb.mono hD.size)
        have HB4 := hid ((unhid HB).trans (hD2.mono (unhid HB).size))
        refine ⟨_, rfl, hD2, ?_⟩
        simp only [Act.put, List.setIfInBounds_toArray, List.set_cons_zero, List.set_cons_succ]
        clear hb
        cases hq : pkOk e with
        | false =>
          refine held_here [false, false, false, false, false, true, true, true, true, true, true, true, true, true, true, true, true, true, true, true, true, true, true, true] (by kernel_rfl) (by kernel_rfl) (fun _ _ _ _ _ h => h) hD2 ?_
          dsimp only [pick]
          repeat (go_big_quiet_step (fail))
          refine wpQuiet_nil ?_
          refine held_done (by kernel_rfl) ?_
          have E := hid (code_form (show formB ps = false by unfold formB; rw [all_range_no hlt (by rw [unhid EK, hq]; rfl)]))
          clear hba hD hD2 g0 g1 g2 g3 g4 hpos hnp
          go_wp2_with fail
          go_ret
          exact ⟨by rw [unhid E]; rfl, unhid HB4⟩
        | true =>
          have HQ := hid hq
          clear hq
          cases hls : ltS (PackD.name d) (PackD.name e) with
          | false =>
            have hl2 : Op.bytesLess (PackD.name d).toList (PackD.name e).toList = false := hls
            refine held_here [false, false, false, false, false, true, true, true, true, true, true, true, true, true, true, true, true, true, true, true, true, true, true, true] (by kernel_rfl) (by kernel_rfl) (fun _ _ _ _ _ h => h) hD2 ?_
            dsimp only [pick]
            repeat (go_big_quiet_step (fail))
            refine wpQuiet_nil ?_
            refine held_done (by kernel_rfl) ?_
            have E := hid (code_form (show formB ps = false by unfold formB; rw [all_range_no hlt (by rw [unhid EK, hls, Bool.and_false])]))
            clear hba hD hD2 g0 g1 g2 g3 g4 hpos hnp hls hl2
            go_wp2_with fail
            go_ret
            exact ⟨by rw [unhid E]; rfl, unhid HB4⟩
          | true =>
            have hl2 : Op.bytesLess (PackD.name d).toList (PackD.name e).toList = true := hls
            have HLS := hid hls
            refine held_here [false, false, false, false, false, true, true, true, true, true, true, true, true, true, true, true, true, true, true, true, true, true, true, true] (by kernel_rfl) (by kernel_rfl) (fun _ _ _ _ _ h => h) hD2 ?_
            dsimp only [pick]
            repeat (go_big_quiet_step (fail))
            refine wpQuiet_nil ?_
            refine held_done (by kernel_rfl) ?_
            clear hba hD hD2 g0 g1 g2 g3 g4 hpos hnp hls hl2
            go_wp2_with fail
            go_roundw
            case rel => exact ⟨j + 1 + 1, by omega, by go_num, hid (all_range_snoc (unhid HA) (by rw [unhid EK, unhid HQ, unhid HLS]; rfl)), HB4⟩
            case measure => simp [intOf]; omega
    · have e : k = ps.length := by omega
      subst e
      have HF := hid (show formB ps = true from unhid HA)
      clear HA
      go_wp2_with fail
      refine (l9Tree_any ps _ wr hlen (unhid HF) ((unhid HR).below (unhid HB))).mono ?_
      rintro x w2 ⟨u, rfl, -, hb⟩
      have HB2 := hid ((unhid HB).trans (hb.mono (unhid HB).size))
      clear hb
      by_cases h5 : ps.length ≤ 5
      · go_wp2_with fail
        refine (l9Needs_any ps _ w2 (unhid HSM) (unhid HF) ((unhid HR).below (unhid HB2))).mono ?_
        rintro x w3 ⟨rfl, hb⟩
        have HB3 := hid ((unhid HB2).trans (hb.mono (unhid HB2).size))
        clear hb
        cases hn : needsB ps with
        | false =>
          have E := hid (code_needs (unhid HF) h5 hn)
          go_wp2_with fail
          go_ret
          exact ⟨by rw [unhid E]; rfl, unhid HB3⟩
        | true =>
          cases hj : joinS ps with
          | false =>
            have E := hid (code_join (unhid HF) h5 hn hj)
            go_wp2_with fail
            go_ret
            exact ⟨by rw [unhid E]; rfl, unhid HB3⟩
          | true =>
            have E := hid (code_fine (unhid HF) h5 hn hj)
            go_wp2_with fail
            go_ret
            exact ⟨by rw [unhid E]; rfl, unhid HB3⟩
      · have E := hid (code_full (unhid HF) h5)
        go_wp2_with fail
        go_ret
        exact ⟨by rw [unhid E]; rfl, unhid HB2⟩

def formCode (ps : List packC.D) : Int := if formB ps then 0 else 1
def fullCode (ps : List packC.D) : Int := if ps.length ≤ 5 then 0 else 6
def clashCode (ps : List packC.D) : Int := if joinS ps then 0 else 5
set_option maxRecDepth 100000 in
set_option maxHeartbeats 1000000 in
theorem askForm_any (ps : List packC.D) (v : Value) (w : World) (hs : smallPs ps) (h : rowAt packC w v ps) :
    Calls Tryz.prog 118 #[v] w fun x w' => x = .returned (.int .i64 (formCode ps)) ∧ Below w.heap.size w w' := by
  have K := hid (packsByName_any ps v w hs h)
  obtain ⟨a, c, rfl, -⟩ := rowAt.slice h
  clear hs h
  go_enter Tryz.func118, Tryz.ntmps118
  go_wp2_with fail
  refine (unhid K).mono ?_
  rintro x w2 ⟨rfl, hb⟩
  have HB := hid hb
  clear hb
  cases hq : formB ps with
  | false =>
    go_wp2_with fail
    go_ret
    exact ⟨by unfold formCode; rw [hq]; rfl, unhid HB⟩
  | true =>
    go_wp2_with fail
    go_ret
    exact ⟨by unfold formCode; rw [hq]; rfl, unhid HB⟩
set_option maxRecDepth 100000 in
set_option maxHeartbeats 1000000 in
theorem askFull_any (ps : List packC.D) (v : Value) (w : World) (hs : smallPs ps) (h : rowAt packC w v ps) :
    Calls Tryz.prog 119 #[v] w fun x w' => x = .returned (.int .i64 (fullCode ps)) ∧ Below w.heap.size w w' := by
  obtain ⟨a, c, rfl, -⟩ := rowAt.slice h
  have hlen := hs.1
  clear hs h
  by_cases h5 : ps.length ≤ 5
  · go_enter Tryz.func119, Tryz.ntmps119
    go_wp2_with fail
    go_ret
    exact ⟨by unfold fullCode; rw [if_pos h5]; rfl, Below.refl _ _⟩
  · go_enter Tryz.func119, Tryz.ntmps119
    go_wp2_with fail
    go_ret
    exact ⟨by unfold fullCode; rw [if_neg h5]; rfl, Below.refl _ _⟩
set_option maxRecDepth 100000 in
set_option maxHeartbeats 1000000 in
theorem askClash_any (ps : List packC.D) (v : Value) (w : World) (hs : smallPs ps) (hf : formB ps = true) (h : rowAt packC w v ps) :
    Calls Tryz.prog 121 #[v] w fun x w' => x = .returned (.int .i64 (clashCode ps)) ∧ Below w.heap.size w w' := by
  have K := hid (joinAll_any ps v w hs hf h)
  obtain ⟨a, c, rfl, -⟩ := rowAt.slice h
  clear hs h hf
  go_enter Tryz.func121, Tryz.ntmps121
  go_wp2_with fail
  refine (unhid K).mono ?_
  rintro x w2 ⟨u, rfl, ho, hb⟩
  have HB := hid hb
  clear hb ho
  cases hq : joinS ps with
  | false =>
    go_wp2_with fail
    go_ret
    exact ⟨by unfold clashCode; rw [hq]; rfl, unhid HB⟩
  | true =>
    go_wp2_with fail
    go_ret
    exact ⟨by unfold clashCode; rw [hq]; rfl, unhid HB⟩

set_option maxRecDepth 100000 in
set_option maxHeartbeats 4000000 in
theorem packsWrong_any (ps : List packC.D) (v : Value) (w : World) (hs : smallPs ps) (h : rowAt packC w v ps) :
    Calls Tryz.prog 69 #[v] w fun x w' => x = .returned (.int .i64 (rootCode ps)) ∧ Below w.heap.size w w' := by
  obtain ⟨a, c, rfl, -⟩ := rowAt.slice h
  have HR := hid h
  have HS := hid hs
  have hlen := hs.1
  clear hs h
  go_enter Tryz.func69, Tryz.ntmps69
  go_wp2_with fail
  have hbx := World.alloc_heap_new w (.cells #[.func (.func 118) #[] #[], .func (.func 119) #[] #[], .func (.func 120) #[] #[], .func (.func 121) #[] #[]] 151)
  have hb0 : Below w.heap.size w (w.alloc (.cells #[.func (.func 118) #[] #[], .func (.func 119) #[] #[], .func (.func 120) #[] #[], .func (.func 121) #[] #[]] 151)) := (Below.refl _ w).alloc (Nat.le_refl _) _
  have hlt0 : w.heap.size < (w.alloc (.cells #[.func (.func 118) #[] #[], .func (.func 119) #[] #[], .func (.func 120) #[] #[], .func (.func 121) #[] #[]] 151)).heap.size := by simp
  generalize w.alloc (.cells #[.func (.func 118) #[] #[], .func (.func 119) #[] #[], .func (.func 120) #[] #[], .func (.func 121) #[] #[]] 151) = W0 at hbx hb0 hlt0 ⊢
  have BX := hid hbx
  have HB0 := hid hb0
  have HLT := hid hlt0
  clear hbx hb0 hlt0
  go_loopw [8] (fun i wr => ∃ k : Nat, k ≤ 4 ∧ i = .int .i64 (k : Int) ∧ Hid ((1 ≤ k → formB ps = true) ∧ (2 ≤ k → ps.length ≤ 5) ∧ (3 ≤ k → needsB ps = true) ∧ (4 ≤ k → joinS ps = true)) ∧ Hid (Below W0.heap.size W0 wr)) (fun i _ => 4 - (intOf i).toNat)
  case atStart => exact ⟨0, Nat.zero_le _, rfl, hid ⟨fun h => by omega, fun h => by omega, fun h => by omega, fun h => by omega⟩, hid (Below.refl _ _)⟩
  case round =>
    obtain ⟨k, hk, rfl, HA, HB⟩ := hrel
    have HBW := hid ((unhid HB0).trans ((unhid HB).mono (unhid HB0).size))
    have hblk := ((unhid HB).block _ (unhid HLT)).trans (unhid BX)
    have c0 := cell_arrS hblk 0 _ rfl
    have c1 := cell_arrS hblk 1 _ rfl
    have c2 := cell_arrS hblk 2 _ rfl
    have c3 := cell_arrS hblk 3 _ rfl
    clear hblk
    have HRW := hid ((unhid HR).below (unhid HBW))
    rcases (show k = 0 ∨ k = 1 ∨ k = 2 ∨ k = 3 ∨ k = 4 by omega) with rfl | rfl | rfl | rfl | rfl
    · go_wp2_with fail
      refine (askForm_any ps _ wr (unhid HS) (unhid HRW)).mono ?_
      rintro x w2 ⟨rfl, hb⟩
      have HB2 := hid ((unhid HB).trans (hb.mono (unhid HB).size))
      have HBZ := hid ((unhid HBW).trans (hb.mono (unhid HBW).size))
      clear hb c0 c1 c2 c3
      cases hq : formB ps with
      | false =>
        have e : formCode ps = 1 := by unfold formCode; rw [hq]; rfl
        have E := hid (code_form hq)
        rw [e]
        go_wp2_with fail
        go_ret
        exact ⟨by rw [unhid E]; rfl, unhid HBZ⟩
      | true =>
        have e : formCode ps = 0 := by unfold formCode; rw [hq]; rfl
        have HQ := hid hq
        rw [e]
        clear hq e
        go_wp2_with fail
        go_roundw
        case rel => exact ⟨1, by omega, by go_num, hid ⟨fun _ => unhid HQ, fun h => by omega, fun h => by omega, fun h => by omega⟩, HB2⟩
        case measure => simp [intOf]
    · have HF := hid ((unhid HA).1 (by omega))
      go_wp2_with fail
      refine (askFull_any ps _ wr (unhid HS) (unhid HRW)).mono ?_
      rintro x w2 ⟨rfl, hb⟩
      have HB2 := hid ((unhid HB).trans (hb.mono (unhid HB).size))
      have HBZ := hid ((unhid HBW).trans (hb.mono (unhid HBW).size))
      clear hb c0 c1 c2 c3
      by_cases hq : ps.length ≤ 5
      · have e : fullCode ps = 0 := by unfold fullCode; rw [if_pos hq]
        have HQ := hid hq
        rw [e]
        clear e hq
        go_wp2_with fail
        go_roundw
        case rel => exact ⟨2, by omega, by go_num, hid ⟨fun _ => unhid HF, fun _ => unhid HQ, fun h => by omega, fun h => by omega⟩, HB2⟩
        case measure => simp [intOf]
      · have e : fullCode ps = 6 := by unfold fullCode; rw [if_neg hq]
        have E := hid (code_full (unhid HF) hq)
        rw [e]
        go_wp2_with fail
        go_ret
        exact ⟨by rw [unhid E]; rfl, unhid HBZ⟩
    · have HF := hid ((unhid HA).1 (by omega))
      have H5 := hid ((unhid HA).2.1 (by omega))
      go_wp2_with fail
      refine (askNeeds_any ps _ wr (unhid HS) (unhid HF) (unhid HRW)).mono ?_
      rintro x w2 ⟨rfl, hb⟩
      have HB2 := hid ((unhid HB).trans (hb.mono (unhid HB).size))
      have HBZ := hid ((unhid HBW).trans (hb.mono (unhid HBW).size))
      clear hb c0 c1 c2 c3
      cases hq : needsB ps with
      | false =>
        have e : needCode ps = 4 := by unfold needCode; rw [hq]; rfl
        have E := hid (code_needs (unhid HF) (unhid H5) hq)
        rw [e]
        go_wp2_with fail
        go_ret
        exact ⟨by rw [unhid E]; rfl, unhid HBZ⟩
      | true =>
        have e : needCode ps = 0 := by unfold needCode; rw [hq]; rfl
        have HQ := hid hq
        rw [e]
        clear hq e
        go_wp2_with fail
        go_roundw
        case rel => exact ⟨3, by omega, by go_num, hid ⟨fun _ => unhid HF, fun _ => unhid H5, fun _ => unhid HQ, fun h => by omega⟩, HB2⟩
        case measure => simp [intOf]
    · have HF := hid ((unhid HA).1 (by omega))
      have H5 := hid ((unhid HA).2.1 (by omega))
      have HN := hid ((unhid HA).2.2.1 (by omega))
      go_wp2_with fail
      refine (askClash_any ps _ wr (unhid HS) (unhid HF) (unhid HRW)).mono ?_
      rintro x w2 ⟨rfl, hb⟩
      have HB2 := hid ((unhid HB).trans (hb.mono (unhid HB).size))
      have HBZ := hid ((unhid HBW).trans (hb.mono (unhid HBW).size))
      clear hb c0 c1 c2 c3
      cases hq : joinS ps with
      | false =>
        have e : clashCode ps = 5 := by unfold clashCode; rw [hq]; rfl
        have E := hid (code_join (unhid HF) (unhid H5) (unhid HN) hq)
        rw [e]
        go_wp2_with fail
        go_ret
        exact ⟨by rw [unhid E]; rfl, unhid HBZ⟩
      | true =>
        have e : clashCode ps = 0 := by unfold clashCode; rw [hq]; rfl
        have HQ := hid hq
        rw [e]
        clear hq e
        go_wp2_with fail
        go_roundw
        case rel => exact ⟨4, by omega, by go_num, hid ⟨fun _ => unhid HF, fun _ => unhid H5, fun _ => unhid HN, fun _ => unhid HQ⟩, HB2⟩
        case measure => simp [intOf]
    · have E := hid (code_fine ((unhid HA).1 (by omega)) ((unhid HA).2.1 (by omega)) ((unhid HA).2.2.1 (by omega)) ((unhid HA).2.2.2 (by omega)))
      clear c0 c1 c2 c3
      go_wp2_with fail
      go_ret
      exact ⟨by rw [unhid E]; rfl, unhid HBW⟩
end Go.Proofs.YtlnpjiabdebmgaaGreat

/- A row of entries that a call has made, in the words of the shapes. -/
namespace Go.Proofs.YtlnpjiabdebmgaaGreat
open Go.RowKit Go.Shelf

theorem dEnts_get {es : List Ent} {i : Nat} {d : entryC.D} (h : (dEnts es)[i]? = some d) : ∃ e, es[i]? = some e ∧ d = dEnt e := by
  unfold dEnts at h
  rw [List.getElem?_map] at h
  cases he : es[i]? with
  | none => rw [he] at h; cases h
  | some e => rw [he] at h; exact ⟨e, rfl, by simpa using h.symm⟩
theorem entOwn_of {W : World} {N : Nat} {v : Value} {es : List Ent} (h : W.ownsRow N 90 4 v es.length (valsOf es)) : ∃ F, rowOwn entryC 90 W v (dEnts es) F ∧ ∀ k ∈ F, N ≤ k ∧ k < W.heap.size := by
  have hdl := dEnts_len es
  obtain ⟨a, cap, hv, hR⟩ := rowIn_of_owns h
  rcases h.2 with ⟨rfl, h0⟩ | ⟨g, cap', cur, hv2, hN, hg, hc, _, hsz, hcells⟩
  · have : es = [] := List.length_eq_zero_iff.1 h0
    subst this
    exact ⟨[], .inl ⟨rfl, rfl, none, 0, rfl, fun _ => rfl⟩, fun k hk => by cases hk⟩
  · have hgl := (Array.getElem?_eq_some_iff.1 hg).1
    refine ⟨[g], .inr ⟨g, cap', cur, List.replicate es.length [], by rw [hdl]; exact hv2, by rw [hdl]; exact hc, by simp, by simp, ⟨hg, by rw [hdl]; show es.length * 4 ≤ _; omega, by rw [hdl, List.length_replicate], fun i d hi => ?_⟩⟩, fun k hk => by rcases List.mem_singleton.1 hk with rfl; exact ⟨hN, hgl⟩⟩
    obtain ⟨e, he, rfl⟩ := dEnts_get hi
    have hil : i < es.length := (List.getElem?_eq_some_iff.1 he).1
    have hne : es ≠ [] := by intro e; subst e; simp at hil
    obtain ⟨g2, ha, _, _, cur2, h1, h2, h3⟩ := hR.resolve_left hne
    have eg : g2 = g := by
      rw [hv] at hv2
      injection hv2 with e1
      rw [ha] at e1
      injection e1 with e1
      injection e1
    subst eg
    rw [hg] at h1
    injection h1 with h1
    injection h1 with h1
    subst h1
    obtain ⟨q0, q1, q2, q3⟩ := h3 i hil
    rw [entFn_get he] at q0 q1 q2 q3
    refine ⟨[.string e.path, .int .i64 e.kind, .int .i64 e.mode, .string e.text], [], by simp [hil], fun j c hj => ?_, entryC_mk ⟨rfl, rfl⟩⟩
    rcases j with _ | _ | _ | _ | j
    · simp at hj; subst hj; exact q0
    · simp at hj; subst hj; exact q1
    · simp at hj; subst hj; exact q2
    · simp at hj; subst hj; exact q3
    · simp at hj
theorem cnt_dEnts (es : List Ent) : cntR entryC (dEnts es) = es.length * 4 := by
  induction es with
  | nil => rfl
  | cons e es ih =>
    have h1 : cntR entryC (dEnts (e :: es)) = entryC.cnt (dEnt e) + cntR entryC (dEnts es) := rfl
    have h2 : entryC.cnt (dEnt e) = 4 := rfl
    rw [h1, h2, ih, List.length_cons]; omega
theorem mode_bound {m : Int} (h : modeB m = true) : 0 ≤ m ∧ m ≤ 7 := by
  unfold modeB at h
  simp only [Bool.and_eq_true, decide_eq_true_eq] at h
  exact h
theorem big_ent {e : Ent} (h : entB e = true) : entryC.big (dEnt e) := by
  have hp := ent_path_len h
  have ht := ent_text_len h
  unfold entB at h
  simp only [Bool.and_eq_true] at h
  have h2 := h.2
  refine ⟨show e.path.size ≤ maxLen by unfold maxLen; omega, show -9223372036854775808 ≤ e.kind ∧ e.kind ≤ 9223372036854775807 from ?_, show -9223372036854775808 ≤ e.mode ∧ e.mode ≤ 9223372036854775807 from ?_, show e.text.size ≤ maxLen by unfold maxLen; omega⟩
  · split at h2
    · omega
    · split at h2
      · omega
      · simp only [Bool.and_eq_true, beq_iff_eq] at h2
        omega
  · split at h2
    · simp only [Bool.and_eq_true] at h2
      have := mode_bound h2.1
      omega
    · split at h2
      · simp only [Bool.and_eq_true] at h2
        have := mode_bound h2.1
        omega
      · simp only [Bool.and_eq_true, beq_iff_eq] at h2
        omega
theorem tree_big {es : List Ent} (h : treeB es = true) : ((dEnts es).length ≤ maxLen ∧ ∀ d ∈ dEnts es, entryC.big d) ∧ cntR entryC (dEnts es) ≤ 9000000 := by
  have h16 := tree_16 h
  refine ⟨⟨by rw [dEnts_len]; unfold maxLen; omega, fun d hd => ?_⟩, by rw [cnt_dEnts]; omega⟩
  unfold dEnts at hd
  obtain ⟨e, he, rfl⟩ := List.mem_map.1 hd
  exact big_ent (tree_all h e he)
end Go.Proofs.YtlnpjiabdebmgaaGreat

/- What data that is handed over holds, by its shape. -/
namespace Go.Proofs.YtlnpjiabdebmgaaGreat
open Go.ChangeShapes Go.WideShapes Go.ChangeAt Go.RowKit

def Opens (K : CK) (ty : Nat) : Prop := ∀ (H : Type) (enc : TypeId × Value → H) (W : World) (n : Nat) (cs : List Value) (x : DataW H × List MemPlace), DataW.trod enc Tryz.prog W 0 (fun _ => true) true n ty cs = some x → (∀ y ∈ x.2, y.block < W.heap.size) → ∃ d, K.at_ W cs d ∧ K.big d
theorem opens_txt : Opens txtC 9 := fun H enc W n cs x h _ => by
  obtain ⟨s, e, _, z⟩ := DataW.trod_string (by kernel_rfl) h
  exact ⟨s, e, z⟩
theorem opens_int : Opens intC 3 := fun H enc W n cs x h _ => by
  obtain ⟨k, e, _, hk⟩ := DataW.trod_int (k := .i64) (by kernel_rfl) h
  exact ⟨k, e, show -9223372036854775808 ≤ k ∧ k ≤ 9223372036854775807 by simpa [Lit.wf, IntKind.min, IntKind.max, IntKind.signed, IntKind.bits] using hk⟩
theorem list_ofS {α : Type} {p : Nat → α → Prop} : ∀ n, (∀ i, i < n → ∃ e, p i e) → ∃ es : List α, es.length = n ∧ ∀ (i : Nat) e, es[i]? = some e → p i e
  | 0, _ => ⟨[], rfl, fun i e h => by simp at h⟩
  | n + 1, h => by
    obtain ⟨es, hl, hp⟩ := list_ofS n (fun i hi => h i (by omega))
    obtain ⟨e, he⟩ := h n (by omega)
    refine ⟨es ++ [e], by simp [hl], fun i x hx => ?_⟩
    rcases Nat.lt_or_ge i es.length with hi | hi
    · rw [List.getElem?_append_left hi] at hx; exact hp i x hx
    · rw [List.getElem?_append_right hi] at hx
      have : i - es.length = 0 := by
        rcases Nat.eq_zero_or_pos (i - es.length) with h0 | h0
        · exact h0
        · rw [List.getElem?_eq_none (by simp; omega)] at hx; cases hx
      rw [this] at hx
      simp at hx
      subst hx
      have : i = n := by omega
      rw [this]; exact he
theorem add_plainS (b o n : Nat) : (⟨b, o, none⟩ : Addr).add n = ⟨b, o + n, none⟩ := by simp [Addr.add]
theorem opens_row {K : CK} {ety sty ty : Nat} (hs : Tryz.prog.underlying sty = some (.slice ety)) (hc : Tryz.prog.cellsOf ety = K.n) (hpos : 0 < K.n) (ho : Opens K ety) : Opens (rowC K ty) sty := by
  intro H enc W n cs x h hlt
  rcases Deep.open_slice hs h with ⟨rfl, rfl⟩ | ⟨a, len, cap, m, n', D, Pl, rfl, _, hl, hm, hmm, rfl, hcell⟩
  · exact ⟨[], ⟨_, rfl, none, 0, rfl, fun _ => rfl, Nat.le_refl _, .inl rfl⟩, Nat.zero_le _, fun d hd => by cases hd⟩
  · rw [hc] at hcell hlt
    simp only [if_true] at hmm
    by_cases hl0 : len = 0
    · subst hl0
      exact ⟨[], ⟨_, rfl, some a, cap, rfl, (fun e => by cases e), Nat.zero_le _, .inl rfl⟩, Nat.zero_le _, fun d hd => by cases hd⟩
    · obtain ⟨b, off, spot⟩ := a
      have hspot : spot = none := by
        obtain ⟨cs, h1, _⟩ := hcell 0 (by omega)
        obtain ⟨_, hlen, hc'⟩ := World.cells?_some h1
        have := hc' 0 (by omega)
        rw [List.getElem?_eq_getElem (by omega)] at this
        simpa [Addr.add] using World.cell?_spot this
      subst hspot
      have hbW : b < W.heap.size := hlt (.cell b off) (List.mem_append_left _ (MemPlace.mem_row.2 ⟨0, Nat.mul_pos (by omega) hpos, by simp⟩))
      obtain ⟨es, hes, hall⟩ := list_ofS (p := fun i (e : K.D) => (∃ cs, K.at_ W cs e ∧ ∀ j c, cs[j]? = some c → W.cell? ⟨b, off + i * K.n + j, none⟩ = some c) ∧ K.big e) len (fun i hi => by
        obtain ⟨cs', h1, h2⟩ := hcell i (by omega)
        rw [add_plainS] at h1
        obtain ⟨d, hd1, hd2⟩ := ho H enc W _ cs' _ h2 (fun y hy => hlt y (List.mem_append_right _ (List.mem_flatMap.2 ⟨i, List.mem_range.2 (by omega), hy⟩)))
        obtain ⟨_, hlen, hc'⟩ := World.cells?_some h1
        refine ⟨d, ⟨cs', hd1, fun j c hj => ?_⟩, hd2⟩
        have := hc' j (by have := (List.getElem?_eq_some_iff.1 hj).1; omega)
        rw [hj, add_plainS] at this
        exact this)
      subst hes
      refine ⟨es, ⟨_, rfl, _, cap, rfl, (fun e => by cases e), hl, .inr ⟨b, off, rfl, hbW, fun i e hi => (hall i e hi).1⟩⟩, by omega, fun d hd => ?_⟩
      obtain ⟨i, hi⟩ := List.getElem?_of_mem hd
      exact (hall i d hi).2
set_option maxRecDepth 100000 in
theorem agg_of {H : Type} {enc : TypeId × Value → H} {K : CK} {ty base : Nat} {fs : Array Field} {W : World} {v : Value} {d0 : DataW H} {p : List MemPlace} (hs : Tryz.prog.underlying ty = some (.struct fs)) (ho : Opens K ty) (hv : Value.okWide Tryz.prog W .any base ty v) (h : DataW.Trod enc Tryz.prog W 0 (fun _ => true) true ty v d0 p) (hlt : ∀ x ∈ p, x.block < W.heap.size) :
    ∃ d, aggAt K W v d ∧ K.big d := by
  obtain ⟨cs, rfl, _⟩ := okWide_struct hs hv
  obtain ⟨fuel, hf⟩ := h
  obtain ⟨d, h1, h2⟩ := ho H enc W fuel _ _ hf hlt
  exact ⟨d, ⟨cs.toList, by simp, by simpa [Value.cells] using h1⟩, h2⟩
set_option maxRecDepth 100000 in
theorem rowv_of {H : Type} {enc : TypeId × Value → H} {K : CK} {ety sty base ty : Nat} {W : World} {v : Value} {d0 : DataW H} {p : List MemPlace} (hs : Tryz.prog.underlying sty = some (.slice ety)) (ho : Opens (rowC K ty) sty) (hv : Value.okWide Tryz.prog W .any base sty v) (h : DataW.Trod enc Tryz.prog W 0 (fun _ => true) true sty v d0 p) (hlt : ∀ x ∈ p, x.block < W.heap.size) :
    ∃ ds, rowAt K W v ds ∧ (ds.length ≤ maxLen ∧ ∀ d ∈ ds, K.big d) := by
  obtain ⟨a0, len, cap, rfl⟩ := okWide_slice hs hv
  obtain ⟨fuel, hf⟩ := h
  obtain ⟨ds, ⟨v', e, h1⟩, h2⟩ := ho H enc W fuel _ _ hf hlt
  have : v' = .slice a0 len cap := by simpa [Value.cells] using e.symm
  subst this
  exact ⟨ds, h1, h2⟩
theorem aggAt.below {K : CK} {W W' : World} {v : Value} {d : K.D} (h : aggAt K W v d) (hb : Below W.heap.size W W') : aggAt K W' v d := by
  obtain ⟨cs, h1, h2⟩ := h
  exact ⟨cs, h1, K.below h2 hb⟩
theorem vfresh {K : Kind} {W W' : World} {v : Value} {d : K.D} {F : List Nat} (h : K.own W v d F) (hb : Below W.heap.size W W') : K.own W' v d F := K.frame h (fun k hk => hb.block k (K.lt h k hk))
theorem vonly {K : Kind} {W W' : World} {v : Value} {d : K.D} {F G : List Nat} (h : K.own W v d F) (ho : Only G W W') (hd : ∀ k ∈ F, k ∉ G) : K.own W' v d F := K.frame h (fun k hk => ho.block k (K.lt h k hk) (hd k hk))
end Go.Proofs.YtlnpjiabdebmgaaGreat
