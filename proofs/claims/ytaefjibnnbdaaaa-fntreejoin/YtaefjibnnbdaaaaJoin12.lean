/- Texts of this proof, one behind the other; each says at its head what it shows. -/
import Derived.Test.YtaefjibnnbdaaaaJoin11
import Derived.Test.YtaefjibnnbdaaaaJoin9
import Derived.Test.YtaefjibnnbdaaaaJoin6
import Derived.Test.YtaefjibnnbdaaaaJoin5
/- A place of a tree moved, by the model. -/
namespace Go.Proofs.Ytaefjibnnbdaaaa
open Go.RowKit Go.Shelf

def mvTo (p q : ByteArray) (es : List Ent) (k : Nat) : List Ent := (es.take k).map (mvS p q)
def moveL (p q : ByteArray) (es : List Ent) : List Ent := if (mayS es p q && mvAllS p q es) then sortL (es.map (mvS p q)) else es

set_option maxRecDepth 100000 in
set_option maxHeartbeats 8000000 in
theorem l2Move_any (es : List Ent) (p q : ByteArray) (b o cap : Nat) (w : World) (htb : treeB es = true) (hp : p.size ≤ 1048576) (hq : q.size ≤ 1048576) (h : ∀ (i : Nat) e, es[i]? = some e → EntAt w b (o + i * 4) e) (hb : b < w.heap.size) :
    Calls Try.prog 58 #[.slice (some ⟨b, o, none⟩) es.length cap, .string p, .string q] w fun x w' => ∃ v, x = .returned (.tuple #[v, .bool (mayS es p q && mvAllS p q es)]) ∧ w'.ownsRow w.heap.size 27 4 v (moveL p q es).length (valsOf (moveL p q es)) ∧ Below w.heap.size w w' := by
  obtain ⟨i0, hi0, hz0, hzs, hzb⟩ := info_parts infoEntry
  have HI := hid (And.intro hi0 (And.intro hz0 (And.intro hzs hzb)))
  have hl16 := tree_16 htb
  have H := hid h
  clear h hi0 hz0 hzs hzb
  cases h1 : thereE es p
  · have E := hid (show (mayS es p q && mvAllS p q es) = false ∧ moveL p q es = es by unfold moveL; rw [show mayS es p q = false by simp [mayS, h1]]; exact ⟨rfl, rfl⟩)
    go_enter Try.func58, Try.ntmps58
    go_wp2_with fail
    refine (l2At_any es _ _ p w (by omega) (.inr ⟨b, o, rfl, hb, unhid H⟩)).mono ?_
    rintro x w1 ⟨rfl, n1, e1⟩
    rw [h1]
    have hB1 : Below w.heap.size w w1 := by rw [e1]; exact drewN_below _ _
    have H1 := hid (show Below w.heap.size w w1 ∧ ∀ (i : Nat) e, es[i]? = some e → EntAt w1 b (o + i * 4) e from ⟨hB1, entAt_below (unhid H) (.inr hb) hB1⟩)
    have hb1 : b < w1.heap.size := Nat.lt_of_lt_of_le hb hB1.size
    clear hB1 e1 n1
    go_wp2_with fail
    refine (l2At_any es _ _ q w1 (by omega) (.inr ⟨b, o, rfl, hb1, (unhid H1).2⟩)).mono ?_
    rintro x w2 ⟨rfl, n2, e2⟩
    have hB2 : Below w1.heap.size w1 w2 := by rw [e2]; exact drewN_below _ _
    have H2 := hid (show Below w.heap.size w w2 ∧ ∀ (i : Nat) e, es[i]? = some e → EntAt w2 b (o + i * 4) e from ⟨(unhid H1).1.trans (hB2.mono (unhid H1).1.size), entAt_below (unhid H1).2 (.inr hb1) hB2⟩)
    have hb2 : b < w2.heap.size := Nat.lt_of_lt_of_le hb1 hB2.size
    clear hB2 e2 n2 H1 hb1
    go_wp2_with fail
    refine (l2Copy_any es b o cap w2 (by omega) (unhid H2).2 (.inr hb2)).mono ?_
    rintro x w9 ⟨v, rfl, hown, hB⟩
    obtain ⟨va, vc, rfl⟩ := ownsRow_slice hown
    have HF := hid (And.intro (ownsRow_base hown (unhid H2).1.size) ((unhid H2).1.trans (hB.mono (unhid H2).1.size)))
    clear hown hB
    go_wp2_with fail
    go_ret2
    exact ⟨_, by rw [(unhid E).1]; rfl, by rw [(unhid E).2]; exact (unhid HF).1, (unhid HF).2⟩

  · cases h2 : thereE es q
    · cases h3 : pathB q.data.toList
      · have E := hid (show (mayS es p q && mvAllS p q es) = false ∧ moveL p q es = es by unfold moveL; rw [show mayS es p q = false by simp [mayS, h1, h2, h3]]; exact ⟨rfl, rfl⟩)
        go_enter Try.func58, Try.ntmps58
        go_wp2_with fail
        refine (l2At_any es _ _ p w (by omega) (.inr ⟨b, o, rfl, hb, unhid H⟩)).mono ?_
        rintro x w1 ⟨rfl, n1, e1⟩
        rw [h1]
        have hB1 : Below w.heap.size w w1 := by rw [e1]; exact drewN_below _ _
        have H1 := hid (show Below w.heap.size w w1 ∧ ∀ (i : Nat) e, es[i]? = some e → EntAt w1 b (o + i * 4) e from ⟨hB1, entAt_below (unhid H) (.inr hb) hB1⟩)
        have hb1 : b < w1.heap.size := Nat.lt_of_lt_of_le hb hB1.size
        clear hB1 e1 n1
        go_wp2_with fail
        refine (l2At_any es _ _ q w1 (by omega) (.inr ⟨b, o, rfl, hb1, (unhid H1).2⟩)).mono ?_
        rintro x w2 ⟨rfl, n2, e2⟩
        have hB2 : Below w1.heap.size w1 w2 := by rw [e2]; exact drewN_below _ _
        have H2 := hid (show Below w.heap.size w w2 ∧ ∀ (i : Nat) e, es[i]? = some e → EntAt w2 b (o + i * 4) e from ⟨(unhid H1).1.trans (hB2.mono (unhid H1).1.size), entAt_below (unhid H1).2 (.inr hb1) hB2⟩)
        have hb2 : b < w2.heap.size := Nat.lt_of_lt_of_le hb1 hB2.size
        clear hB2 e2 n2 H1 hb1
        rw [h2]
        go_wp2_with fail
        refine (l1Path_any q hq w2).mono ?_
        rintro x w3 ⟨rfl, hB⟩
        rw [h3]
        have H3 := hid (show Below w.heap.size w w3 ∧ ∀ (i : Nat) e, es[i]? = some e → EntAt w3 b (o + i * 4) e from ⟨(unhid H2).1.trans (hB.mono (unhid H2).1.size), entAt_below (unhid H2).2 (.inr hb2) hB⟩)
        have hb3 : b < w3.heap.size := Nat.lt_of_lt_of_le hb2 hB.size
        clear hB H2 hb2
        go_wp2_with fail
        refine (l2Copy_any es b o cap w3 (by omega) (unhid H3).2 (.inr hb3)).mono ?_
        rintro x w9 ⟨v, rfl, hown, hB⟩
        obtain ⟨va, vc, rfl⟩ := ownsRow_slice hown
        have HF := hid (And.intro (ownsRow_base hown (unhid H3).1.size) ((unhid H3).1.trans (hB.mono (unhid H3).1.size)))
        clear hown hB
        go_wp2_with fail
        go_ret2
        exact ⟨_, by rw [(unhid E).1]; rfl, by rw [(unhid E).2]; exact (unhid HF).1, (unhid HF).2⟩

      · have hq54 := pathB_size _ h3
        rw [← Lib.size_eq] at hq54
        cases h4 : belowB p.data.toList q.data.toList
        · cases h5 : dirE es (upS q)
          · have E := hid (show (mayS es p q && mvAllS p q es) = false ∧ moveL p q es = es by unfold moveL; rw [show mayS es p q = false by simp [mayS, h1, h2, h3, h4, h5]]; exact ⟨rfl, rfl⟩)
            go_enter Try.func58, Try.ntmps58
            go_wp2_with fail
            refine (l2At_any es _ _ p w (by omega) (.inr ⟨b, o, rfl, hb, unhid H⟩)).mono ?_
            rintro x w1 ⟨rfl, n1, e1⟩
            rw [h1]
            have hB1 : Below w.heap.size w w1 := by rw [e1]; exact drewN_below _ _
            have H1 := hid (show Below w.heap.size w w1 ∧ ∀ (i : Nat) e, es[i]? = some e → EntAt w1 b (o + i * 4) e from ⟨hB1, entAt_below (unhid H) (.inr hb) hB1⟩)
            have hb1 : b < w1.heap.size := Nat.lt_of_lt_of_le hb hB1.size
            clear hB1 e1 n1
            go_wp2_with fail
            refine (l2At_any es _ _ q w1 (by omega) (.inr ⟨b, o, rfl, hb1, (unhid H1).2⟩)).mono ?_
            rintro x w2 ⟨rfl, n2, e2⟩
            have hB2 : Below w1.heap.size w1 w2 := by rw [e2]; exact drewN_below _ _
            have H2 := hid (show Below w.heap.size w w2 ∧ ∀ (i : Nat) e, es[i]? = some e → EntAt w2 b (o + i * 4) e from ⟨(unhid H1).1.trans (hB2.mono (unhid H1).1.size), entAt_below (unhid H1).2 (.inr hb1) hB2⟩)
            have hb2 : b < w2.heap.size := Nat.lt_of_lt_of_le hb1 hB2.size
            clear hB2 e2 n2 H1 hb1
            rw [h2]
            go_wp2_with fail
            refine (l1Path_any q hq w2).mono ?_
            rintro x w3 ⟨rfl, hB⟩
            rw [h3]
            have H3 := hid (show Below w.heap.size w w3 ∧ ∀ (i : Nat) e, es[i]? = some e → EntAt w3 b (o + i * 4) e from ⟨(unhid H2).1.trans (hB.mono (unhid H2).1.size), entAt_below (unhid H2).2 (.inr hb2) hB⟩)
            have hb3 : b < w3.heap.size := Nat.lt_of_lt_of_le hb2 hB.size
            clear hB H2 hb2
            go_wp2_with fail
            refine (l1Below_any p q (by unfold maxLen; omega) (by unfold maxLen; omega) w3).mono ?_
            rintro x w4 ⟨rfl, e4⟩
            subst e4
            rw [h4]
            go_wp2_with fail
            refine (l1Up_any q (by unfold maxLen; omega) w4).mono ?_
            rintro x w5 ⟨rfl, e5⟩
            subst e5
            go_wp2_with fail
            refine (l2Dir_any es _ cap (upS q) w5 (by omega) (.inr ⟨b, o, rfl, hb3, (unhid H3).2⟩)).mono ?_
            rintro x w6 ⟨rfl, n6, e6⟩
            have hB : Below w5.heap.size w5 w6 := by rw [e6]; exact drewN_below _ _
            rw [h5]
            have H6 := hid (show Below w.heap.size w w6 ∧ ∀ (i : Nat) e, es[i]? = some e → EntAt w6 b (o + i * 4) e from ⟨(unhid H3).1.trans (hB.mono (unhid H3).1.size), entAt_below (unhid H3).2 (.inr hb3) hB⟩)
            have hb6 : b < w6.heap.size := Nat.lt_of_lt_of_le hb3 hB.size
            clear hB H3 hb3 e6 n6
            go_wp2_with fail
            refine (l2Copy_any es b o cap w6 (by omega) (unhid H6).2 (.inr hb6)).mono ?_
            rintro x w9 ⟨v, rfl, hown, hB⟩
            obtain ⟨va, vc, rfl⟩ := ownsRow_slice hown
            have HF := hid (And.intro (ownsRow_base hown (unhid H6).1.size) ((unhid H6).1.trans (hB.mono (unhid H6).1.size)))
            clear hown hB
            go_wp2_with fail
            go_ret2
            exact ⟨_, by rw [(unhid E).1]; rfl, by rw [(unhid E).2]; exact (unhid HF).1, (unhid HF).2⟩

          · have E := hid (show (mayS es p q && mvAllS p q es) = mvAllS p q es ∧ moveL p q es = (if mvAllS p q es then sortL (es.map (mvS p q)) else es) by unfold moveL; rw [show mayS es p q = true by simp [mayS, h1, h2, h3, h4, h5]]; exact ⟨rfl, rfl⟩)
            go_enter Try.func58, Try.ntmps58
            go_wp2_with fail
            refine (l2At_any es _ _ p w (by omega) (.inr ⟨b, o, rfl, hb, unhid H⟩)).mono ?_
            rintro x w1 ⟨rfl, n1, e1⟩
            rw [h1]
            have hB1 : Below w.heap.size w w1 := by rw [e1]; exact drewN_below _ _
            have H1 := hid (show Below w.heap.size w w1 ∧ ∀ (i : Nat) e, es[i]? = some e → EntAt w1 b (o + i * 4) e from ⟨hB1, entAt_below (unhid H) (.inr hb) hB1⟩)
            have hb1 : b < w1.heap.size := Nat.lt_of_lt_of_le hb hB1.size
            clear hB1 e1 n1
            go_wp2_with fail
            refine (l2At_any es _ _ q w1 (by omega) (.inr ⟨b, o, rfl, hb1, (unhid H1).2⟩)).mono ?_
            rintro x w2 ⟨rfl, n2, e2⟩
            have hB2 : Below w1.heap.size w1 w2 := by rw [e2]; exact drewN_below _ _
            have H2 := hid (show Below w.heap.size w w2 ∧ ∀ (i : Nat) e, es[i]? = some e → EntAt w2 b (o + i * 4) e from ⟨(unhid H1).1.trans (hB2.mono (unhid H1).1.size), entAt_below (unhid H1).2 (.inr hb1) hB2⟩)
            have hb2 : b < w2.heap.size := Nat.lt_of_lt_of_le hb1 hB2.size
            clear hB2 e2 n2 H1 hb1
            rw [h2]
            go_wp2_with fail
            refine (l1Path_any q hq w2).mono ?_
            rintro x w3 ⟨rfl, hB⟩
            rw [h3]
            have H3 := hid (show Below w.heap.size w w3 ∧ ∀ (i : Nat) e, es[i]? = some e → EntAt w3 b (o + i * 4) e from ⟨(unhid H2).1.trans (hB.mono (unhid H2).1.size), entAt_below (unhid H2).2 (.inr hb2) hB⟩)
            have hb3 : b < w3.heap.size := Nat.lt_of_lt_of_le hb2 hB.size
            clear hB H2 hb2
            go_wp2_with fail
            refine (l1Below_any p q (by unfold maxLen; omega) (by unfold maxLen; omega) w3).mono ?_
            rintro x w4 ⟨rfl, e4⟩
            subst e4
            rw [h4]
            go_wp2_with fail
            refine (l1Up_any q (by unfold maxLen; omega) w4).mono ?_
            rintro x w5 ⟨rfl, e5⟩
            subst e5
            go_wp2_with fail
            refine (l2Dir_any es _ cap (upS q) w5 (by omega) (.inr ⟨b, o, rfl, hb3, (unhid H3).2⟩)).mono ?_
            rintro x w6 ⟨rfl, n6, e6⟩
            have hB : Below w5.heap.size w5 w6 := by rw [e6]; exact drewN_below _ _
            rw [h5]
            have H6 := hid (show Below w.heap.size w w6 ∧ ∀ (i : Nat) e, es[i]? = some e → EntAt w6 b (o + i * 4) e from ⟨(unhid H3).1.trans (hB.mono (unhid H3).1.size), entAt_below (unhid H3).2 (.inr hb3) hB⟩)
            have hb6 : b < w6.heap.size := Nat.lt_of_lt_of_le hb3 hB.size
            clear hB H3 hb3 e6 n6
            go_wp2_with fail
            have HF0 := hid (owns_empty w6 w6.heap.size (Nat.le_refl _) 27)
            have hw6 : w.heap.size ≤ w6.heap.size := (unhid H6).1.size
            go_loopw [12, 13] (fun v i wr => ∃ k : Nat, k ≤ es.length ∧ i = .int .i64 (k : Int) ∧ (∃ g c, v = .slice (some ⟨g, 0, none⟩) k c) ∧ Hid (wr.ownsRow w6.heap.size 27 4 v k (valsOf (mvTo p q es k))) ∧ Hid (mvAllS p q (es.take k) = true) ∧ Hid (Below w6.heap.size w6 wr)) (fun _ i _ => es.length - (intOf i).toNat)
            case atStart => exact ⟨0, Nat.zero_le _, rfl, ⟨_, 0, rfl⟩, hid (unhid HF0), hid rfl, hid ((Below.refl _ _).alloc (Nat.le_refl _) _)⟩
            case round =>
              obtain ⟨k, hk, rfl, ⟨g, c, rfl⟩, HO, HA, HB6⟩ := hrel
              by_cases hlt : k < es.length
              · obtain ⟨e, he⟩ : ∃ e, es[k]? = some e := ⟨es[k], List.getElem?_eq_getElem hlt⟩
                have hem := List.mem_of_getElem? he
                have hpe := pathB_size _ (ent_pathB (tree_all htb e hem))
                rw [← Lib.size_eq] at hpe
                obtain ⟨c0, c1, c2, c3⟩ := ((unhid H6).2 k e he).below (unhid HB6) hb6
                have hsz : w6.heap.size ≤ wr.heap.size := (unhid HB6).size
                have htk : mvTo p q es (k + 1) = mvTo p q es k ++ [mvS p q e] := by unfold mvTo; rw [List.take_add_one, he, List.map_append]; rfl
                have hal : mvAllS p q (es.take (k + 1)) = (mvAllS p q (es.take k) && pathB (mvS p q e).path.data.toList) := by unfold mvAllS; rw [List.take_add_one, he, List.all_append]; simp
                have HTK := hid htk
                have HAL := hid hal
                have HE := hid he
                obtain ⟨W1, hW1⟩ : ∃ W1, W1 = wr.alloc (.cells #[.string e.path, .int .i64 e.kind, .int .i64 e.mode, .string e.text] 27) := ⟨_, rfl⟩
                have hbx : W1.heap[wr.heap.size]? = some (.cells #[.string e.path, .int .i64 e.kind, .int .i64 e.mode, .string e.text] 27 (0, 0)) := by rw [hW1]; exact World.alloc_heap_new _ _
                have hBW : Below wr.heap.size wr W1 := by rw [hW1]; exact (Below.refl _ wr).alloc (Nat.le_refl _) _
                have hO1 := ownsRow_kept (unhid HO) (fun g eg => hBW.block g ((unhid HO).lt g eg).2)
                have hgne : g ≠ wr.heap.size := fun eg => by have := ((unhid HO).lt g rfl).2; omega
                have HB61 := hid ((unhid HB6).trans (hBW.mono (unhid HB6).size))
                obtain ⟨⟨d0, d1, d2, d3⟩, f0, f1, f2, f3⟩ := four_cells hbx
                have HX1 := hid hbx
                have HO1 := hid hO1
                have hz1 : wr.heap.size < W1.heap.size := (Array.getElem?_eq_some_iff.1 hbx).1
                have HW1 := hid hW1
                rw [hW1] at d0 d1 d2 d3 f0 f1 f2 f3
                clear he hem hBW hO1 HB6 hbx htk hal hW1
                cases hbl : belowB p.data.toList e.path.data.toList
                · have hmv : mvS p q e = e := by unfold mvS; rw [hbl]; rfl
                  have hpb : pathB e.path.data.toList = true := ent_pathB (tree_all htb e (List.mem_of_getElem? (unhid HE)))
                  rw [hmv] at HTK HAL
                  go_wp2_with fail
                  rw [← unhid HW1]
                  refine (l1Below_any p e.path (by unfold maxLen; omega) (by unfold maxLen; omega) W1).mono ?_
                  rintro x W2 ⟨rfl, e2⟩
                  subst e2
                  rw [hbl]
                  obtain ⟨⟨d0, d1, d2, d3⟩, f0, f1, f2, f3⟩ := four_cells (unhid HX1)
                  go_wp2_with fail
                  refine (l1Path_any e.path (by omega) W2).mono ?_
                  rintro x W3 ⟨rfl, hB⟩
                  rw [hpb]
                  have HAN := hid (show mvAllS p q (es.take (k + 1)) = true by rw [unhid HAL, unhid HA, hpb]; rfl)
                  have hO3 := ownsRow_kept (unhid HO1) (fun g eg => hB.block g ((unhid HO1).lt g eg).2)
                  have hX3 := (hB.block _ hz1).trans (unhid HX1)
                  have hB63 := (unhid HB61).trans (hB.mono (unhid HB61).size)
                  obtain ⟨⟨d0, d1, d2, d3⟩, -⟩ := four_cells hX3
                  have hz3 : w6.heap.size ≤ W3.heap.size := hB63.size
                  have HO3 := hid (hO3.alloc (.cells #[.string e.path, .int .i64 e.kind, .int .i64 e.mode, .string e.text] 27))
                  have HB3 := hid (hB63.alloc hB63.size (.cells #[.string e.path, .int .i64 e.kind, .int .i64 e.mode, .string e.text] 27))
                  clear hO3 hX3 hB63 hB HX1 HO1 HB61
                  go_wp2_with (at_builtin; refine wpList_append_own _ rfl _ _ 23 rfl w6.heap.size 27 i0 _ 4 48 Try.underlying23 (unhid HI).1 (unhid HI).2.1 (unhid HI).2.2.1 (unhid HI).2.2.2 rfl (by decide) _ k (valsOf (mvTo p q es k)) rfl (unhid HO3) ⟨W3.heap.size, 0, none⟩ 1 1 [.string e.path, .int .i64 e.kind, .int .i64 e.mode, .string e.text] rfl rfl (lit_cells W3 _ _ _ _ _) ?c2 ?c3 ?c4 ?c5 ?_)
                  case c2 => intro u hu; simp at hu; rcases hu with rfl | rfl | rfl | rfl <;> rfl
                  case c3 => unfold maxLen; omega
                  case c4 => omega
                  case c5 => simp; omega
                  intro v' W4 hown hg _
                  obtain ⟨g4, cap4, hv4⟩ := ownsRow_some hown (by omega)
                  subst hv4
                  have HF := hid (show W4.ownsRow w6.heap.size 27 4 (.slice (some ⟨g4, 0, none⟩) (k + 1) cap4) (k + 1) (valsOf (mvTo p q es (k + 1))) ∧ Below w6.heap.size w6 W4 from
                    ⟨by rw [unhid HTK, valsOf_snoc]; exact hown, (unhid HB3).grown hg (unhid HB3).size (fun k e => ((unhid HO3).lt k e).1)⟩)
                  clear hown hg
                  go_wp2_with fail
                  go_roundw
                  case rel => exact ⟨k + 1, by omega, by go_num, ⟨g4, cap4, rfl⟩, hid (unhid HF).1, HAN, hid (unhid HF).2⟩
                  case measure => simp [intOf]; omega
                · have hmv : mvS p q e = { e with path := movedP p q e.path } := by unfold mvS; rw [hbl]; rfl
                  rw [hmv] at HTK HAL
                  have hps : p.size ≤ e.path.size := by
                    rcases belowB_cases hbl with h0 | ⟨t, h0⟩
                    · rw [Lib.size_eq, Lib.size_eq, h0]; omega
                    · rw [Lib.size_eq, Lib.size_eq, h0]; simp
                  have hmz : (movedP p q e.path).size ≤ 1048576 := by
                    have h0 := movedP_list p q e.path
                    have h1 : (movedP p q e.path).size = q.size + (e.path.size - p.size) := by rw [Lib.size_eq, h0, List.length_append, List.length_drop, ← Lib.size_eq, ← Lib.size_eq, ← Lib.size_eq]
                    omega
                  go_wp2_with fail
                  rw [← unhid HW1]
                  refine (l1Below_any p e.path (by unfold maxLen; omega) (by unfold maxLen; omega) W1).mono ?_
                  rintro x W2 ⟨rfl, e2⟩
                  subst e2
                  rw [hbl]
                  obtain ⟨⟨d0, d1, d2, d3⟩, f0, f1, f2, f3⟩ := four_cells (unhid HX1)
                  have hps2 : (p.size : Int) ≤ (e.path.size : Int) := by omega
                  go_wp2_with fail
                  rw [show q ++ e.path.extract p.size e.path.size = movedP p q e.path from rfl]
                  obtain ⟨W5, hW5⟩ : ∃ W5, W5 = W2.setCell ⟨wr.heap.size, 0, none⟩ (.string (movedP p q e.path)) := ⟨_, rfl⟩
                  rw [← hW5]
                  have hX5 : W5.heap[wr.heap.size]? = some (.cells #[.string (movedP p q e.path), .int .i64 e.kind, .int .i64 e.mode, .string e.text] 27 (0, 0)) := by rw [hW5, heap_setCell_same _ _ 0 _ _ _ (unhid HX1)]; rfl
                  have hO5 : W5.ownsRow w6.heap.size 27 4 (.slice (some ⟨g, 0, none⟩) k c) k (valsOf (mvTo p q es k)) := by rw [hW5]; exact ownsRow_kept (unhid HO1) (fun g' eg => Below.heap_setCell _ _ _ _ (fun eq => by cases eg; exact hgne eq))
                  have hB65 : Below w6.heap.size w6 W5 := by rw [hW5]; exact (unhid HB61).setCell (p := ⟨wr.heap.size, 0, none⟩) hsz _
                  have hz5 : wr.heap.size < W5.heap.size := (Array.getElem?_eq_some_iff.1 hX5).1
                  clear HX1 HO1 HB61 d0 d1 d2 d3 f0 f1 f2 f3 hW5 hz1
                  have HX1 := hid hX5
                  have HO1 := hid hO5
                  have HB61 := hid hB65
                  have hz1 := hz5
                  clear hX5 hO5 hB65 hz5
                  refine (l1Path_any (movedP p q e.path) hmz W5).mono ?_
                  rintro x W3 ⟨rfl, hB⟩
                  cases hpb : pathB (movedP p q e.path).data.toList
                  · have hno : mvAllS p q es = false := List.all_eq_false.2 ⟨e, List.mem_of_getElem? (unhid HE), by rw [hmv]; simp [hpb]⟩
                    have E2 := hid (show (mayS es p q && mvAllS p q es) = false ∧ moveL p q es = es by rw [(unhid E).1, (unhid E).2, hno]; exact ⟨rfl, rfl⟩)
                    have hB63 := (unhid HB61).trans (hB.mono (unhid HB61).size)
                    have H7 := hid (show Below w.heap.size w W3 ∧ ∀ (i : Nat) e, es[i]? = some e → EntAt W3 b (o + i * 4) e from ⟨(unhid H6).1.trans (hB63.mono hw6), entAt_below (unhid H6).2 (.inr hb6) hB63⟩)
                    have hb7 : b < W3.heap.size := Nat.lt_of_lt_of_le hb6 hB63.size
                    clear hB hB63 hno HX1 HO1 HB61
                    go_wp2_with fail
                    refine (l2Copy_any es b o cap W3 (by omega) (unhid H7).2 (.inr hb7)).mono ?_
                    rintro x w9 ⟨v, rfl, hown, hB⟩
                    obtain ⟨va, vc, rfl⟩ := ownsRow_slice hown
                    have HF := hid (And.intro (ownsRow_base hown (unhid H7).1.size) ((unhid H7).1.trans (hB.mono (unhid H7).1.size)))
                    clear hown hB
                    go_wp2_with fail
                    go_ret2
                    exact ⟨_, by rw [(unhid E2).1]; rfl, by rw [(unhid E2).2]; exact (unhid HF).1, (unhid HF).2⟩
                  · have HAN := hid (show mvAllS p q (es.take (k + 1)) = true by rw [unhid HAL, unhid HA]; simpa using hpb)
                    have hO3 := ownsRow_kept (unhid HO1) (fun g eg => hB.block g ((unhid HO1).lt g eg).2)
                    have hX3 := (hB.block _ hz1).trans (unhid HX1)
                    have hB63 := (unhid HB61).trans (hB.mono (unhid HB61).size)
                    obtain ⟨⟨d0, d1, d2, d3⟩, -⟩ := four_cells hX3
                    have hz3 : w6.heap.size ≤ W3.heap.size := hB63.size
                    have HO3 := hid (hO3.alloc (.cells #[.string (movedP p q e.path), .int .i64 e.kind, .int .i64 e.mode, .string e.text] 27))
                    have HB3 := hid (hB63.alloc hB63.size (.cells #[.string (movedP p q e.path), .int .i64 e.kind, .int .i64 e.mode, .string e.text] 27))
                    clear hO3 hX3 hB63 hB HX1 HO1 HB61
                    go_wp2_with (at_builtin; refine wpList_append_own _ rfl _ _ 23 rfl w6.heap.size 27 i0 _ 4 48 Try.underlying23 (unhid HI).1 (unhid HI).2.1 (unhid HI).2.2.1 (unhid HI).2.2.2 rfl (by decide) _ k (valsOf (mvTo p q es k)) rfl (unhid HO3) ⟨W3.heap.size, 0, none⟩ 1 1 [.string (movedP p q e.path), .int .i64 e.kind, .int .i64 e.mode, .string e.text] rfl rfl (lit_cells W3 _ _ _ _ _) ?c2 ?c3 ?c4 ?c5 ?_)
                    case c2 => intro u hu; simp at hu; rcases hu with rfl | rfl | rfl | rfl <;> rfl
                    case c3 => unfold maxLen; omega
                    case c4 => omega
                    case c5 => simp; omega
                    intro v' W4 hown hg _
                    obtain ⟨g4, cap4, hv4⟩ := ownsRow_some hown (by omega)
                    subst hv4
                    have HF := hid (show W4.ownsRow w6.heap.size 27 4 (.slice (some ⟨g4, 0, none⟩) (k + 1) cap4) (k + 1) (valsOf (mvTo p q es (k + 1))) ∧ Below w6.heap.size w6 W4 from
                      ⟨by rw [unhid HTK, valsOf_snoc]; exact hown, (unhid HB3).grown hg (unhid HB3).size (fun k e => ((unhid HO3).lt k e).1)⟩)
                    clear hown hg
                    go_wp2_with fail
                    go_roundw
                    case rel => exact ⟨k + 1, by omega, by go_num, ⟨g4, cap4, rfl⟩, hid (unhid HF).1, HAN, hid (unhid HF).2⟩
                    case measure => simp [intOf]; omega
              · have ek : k = es.length := by omega
                subst ek
                rw [List.take_of_length_le (Nat.le_refl _)] at HA
                have hmt : mvTo p q es es.length = es.map (mvS p q) := by unfold mvTo; rw [List.take_of_length_le (Nat.le_refl _)]
                rw [hmt] at HO
                have hml : (es.map (mvS p q)).length = es.length := List.length_map _
                have E2 := hid (show (mayS es p q && mvAllS p q es) = true ∧ moveL p q es = sortL (es.map (mvS p q)) by rw [(unhid E).1, (unhid E).2, unhid HA]; exact ⟨rfl, rfl⟩)
                have hO := unhid HO
                rw [← hml] at hO
                obtain ⟨a1, cap1, ev, hRI⟩ := rowIn_of_owns hO
                have hgl : g < wr.heap.size := ((unhid HO).lt g rfl).2
                have HGE := hid (show ∀ (i : Nat) x, (es.map (mvS p q))[i]? = some x → EntAt wr g (0 + i * 4) x by

                  injection ev with ev1 ev2 ev3
                  subst ev1
                  rcases hRI.at with h0 | ⟨b', o', eb, _, hcc⟩
                  · intro i x hi; rw [h0] at hi; simp at hi
                  · cases eb; exact hcc)
                have SRT := hid (l2Sorted_any (es.map (mvS p q)) g 0 c wr (by rw [hml]; omega) (unhid HGE) hgl)
                rw [hml] at SRT
                have HB := hid ((unhid H6).1.trans ((unhid HB6).mono hw6))
                clear hO ev hRI hmt hml HGE hgl
                go_wp2_with fail
                refine (unhid SRT).mono ?_
                rintro x w9 ⟨v, rfl, hown, hB⟩
                obtain ⟨va, vc, rfl⟩ := ownsRow_slice hown
                have HF := hid (And.intro (ownsRow_base hown (unhid HB).size) ((unhid HB).trans (hB.mono (unhid HB).size)))
                clear hown hB
                go_wp2_with fail
                go_ret2
                exact ⟨_, by rw [(unhid E2).1]; rfl, by rw [(unhid E2).2]; exact (unhid HF).1, (unhid HF).2⟩

        · have E := hid (show (mayS es p q && mvAllS p q es) = false ∧ moveL p q es = es by unfold moveL; rw [show mayS es p q = false by simp [mayS, h1, h2, h3, h4]]; exact ⟨rfl, rfl⟩)
          go_enter Try.func58, Try.ntmps58
          go_wp2_with fail
          refine (l2At_any es _ _ p w (by omega) (.inr ⟨b, o, rfl, hb, unhid H⟩)).mono ?_
          rintro x w1 ⟨rfl, n1, e1⟩
          rw [h1]
          have hB1 : Below w.heap.size w w1 := by rw [e1]; exact drewN_below _ _
          have H1 := hid (show Below w.heap.size w w1 ∧ ∀ (i : Nat) e, es[i]? = some e → EntAt w1 b (o + i * 4) e from ⟨hB1, entAt_below (unhid H) (.inr hb) hB1⟩)
          have hb1 : b < w1.heap.size := Nat.lt_of_lt_of_le hb hB1.size
          clear hB1 e1 n1
          go_wp2_with fail
          refine (l2At_any es _ _ q w1 (by omega) (.inr ⟨b, o, rfl, hb1, (unhid H1).2⟩)).mono ?_
          rintro x w2 ⟨rfl, n2, e2⟩
          have hB2 : Below w1.heap.size w1 w2 := by rw [e2]; exact drewN_below _ _
          have H2 := hid (show Below w.heap.size w w2 ∧ ∀ (i : Nat) e, es[i]? = some e → EntAt w2 b (o + i * 4) e from ⟨(unhid H1).1.trans (hB2.mono (unhid H1).1.size), entAt_below (unhid H1).2 (.inr hb1) hB2⟩)
          have hb2 : b < w2.heap.size := Nat.lt_of_lt_of_le hb1 hB2.size
          clear hB2 e2 n2 H1 hb1
          rw [h2]
          go_wp2_with fail
          refine (l1Path_any q hq w2).mono ?_
          rintro x w3 ⟨rfl, hB⟩
          rw [h3]
          have H3 := hid (show Below w.heap.size w w3 ∧ ∀ (i : Nat) e, es[i]? = some e → EntAt w3 b (o + i * 4) e from ⟨(unhid H2).1.trans (hB.mono (unhid H2).1.size), entAt_below (unhid H2).2 (.inr hb2) hB⟩)
          have hb3 : b < w3.heap.size := Nat.lt_of_lt_of_le hb2 hB.size
          clear hB H2 hb2
          go_wp2_with fail
          refine (l1Below_any p q (by unfold maxLen; omega) (by unfold maxLen; omega) w3).mono ?_
          rintro x w4 ⟨rfl, e4⟩
          subst e4
          rw [h4]
          go_wp2_with fail
          refine (l2Copy_any es b o cap w4 (by omega) (unhid H3).2 (.inr hb3)).mono ?_
          rintro x w9 ⟨v, rfl, hown, hB⟩
          obtain ⟨va, vc, rfl⟩ := ownsRow_slice hown
          have HF := hid (And.intro (ownsRow_base hown (unhid H3).1.size) ((unhid H3).1.trans (hB.mono (unhid H3).1.size)))
          clear hown hB
          go_wp2_with fail
          go_ret2
          exact ⟨_, by rw [(unhid E).1]; rfl, by rw [(unhid E).2]; exact (unhid HF).1, (unhid HF).2⟩

    · have E := hid (show (mayS es p q && mvAllS p q es) = false ∧ moveL p q es = es by unfold moveL; rw [show mayS es p q = false by simp [mayS, h1, h2]]; exact ⟨rfl, rfl⟩)
      go_enter Try.func58, Try.ntmps58
      go_wp2_with fail
      refine (l2At_any es _ _ p w (by omega) (.inr ⟨b, o, rfl, hb, unhid H⟩)).mono ?_
      rintro x w1 ⟨rfl, n1, e1⟩
      rw [h1]
      have hB1 : Below w.heap.size w w1 := by rw [e1]; exact drewN_below _ _
      have H1 := hid (show Below w.heap.size w w1 ∧ ∀ (i : Nat) e, es[i]? = some e → EntAt w1 b (o + i * 4) e from ⟨hB1, entAt_below (unhid H) (.inr hb) hB1⟩)
      have hb1 : b < w1.heap.size := Nat.lt_of_lt_of_le hb hB1.size
      clear hB1 e1 n1
      go_wp2_with fail
      refine (l2At_any es _ _ q w1 (by omega) (.inr ⟨b, o, rfl, hb1, (unhid H1).2⟩)).mono ?_
      rintro x w2 ⟨rfl, n2, e2⟩
      have hB2 : Below w1.heap.size w1 w2 := by rw [e2]; exact drewN_below _ _
      have H2 := hid (show Below w.heap.size w w2 ∧ ∀ (i : Nat) e, es[i]? = some e → EntAt w2 b (o + i * 4) e from ⟨(unhid H1).1.trans (hB2.mono (unhid H1).1.size), entAt_below (unhid H1).2 (.inr hb1) hB2⟩)
      have hb2 : b < w2.heap.size := Nat.lt_of_lt_of_le hb1 hB2.size
      clear hB2 e2 n2 H1 hb1
      rw [h2]
      go_wp2_with fail
      refine (l2Copy_any es b o cap w2 (by omega) (unhid H2).2 (.inr hb2)).mono ?_
      rintro x w9 ⟨v, rfl, hown, hB⟩
      obtain ⟨va, vc, rfl⟩ := ownsRow_slice hown
      have HF := hid (And.intro (ownsRow_base hown (unhid H2).1.size) ((unhid H2).1.trans (hB.mono (unhid H2).1.size)))
      clear hown hB
      go_wp2_with fail
      go_ret2
      exact ⟨_, by rw [(unhid E).1]; rfl, by rw [(unhid E).2]; exact (unhid HF).1, (unhid HF).2⟩

end Go.Proofs.Ytaefjibnnbdaaaa

/- What is moved in a tree: the model's answer. -/
namespace Go.Proofs.Ytaefjibnnbdaaaa
open Go.RowKit Go.Shelf

theorem moveR_len (p q : ByteArray) (es : List Ent) : (moveR p q es).length ≤ 100 := by
  have := (kept_asc es).2
  unfold moveR
  split
  · have h := putAll_len ((keptE es).map (mvE p q))
    rw [List.length_map] at h
    omega
  · omega

set_option maxRecDepth 100000 in
set_option maxHeartbeats 2000000 in
theorem specTreeMove_any (es : List Ent) (p q : ByteArray) (b o cap : Nat) (w : World) (hs : smallE es) (hp : p.size ≤ 1048576) (hq : q.size ≤ 1048576) (h : ∀ (i : Nat) e, es[i]? = some e → EntAt w b (o + i * 4) e) (hb : b < w.heap.size) :
    Calls Try.prog 20 #[.slice (some ⟨b, o, none⟩) es.length cap, .string p, .string q] w fun x w' => ∃ v, x = .returned (.tuple #[v, .bool (moveOk p q es)]) ∧ w'.ownsRow w.heap.size 27 4 v (moveR p q es).length (valsOf (moveR p q es)) ∧ Below w.heap.size w w' := by
  have hat1 : EntsAt w (some ⟨b, o, none⟩) es := .inr ⟨b, o, rfl, hb, h⟩
  have OK := hid (specTreeOk_any es (some ⟨b, o, none⟩) cap w hs hat1)
  have H1 := hid h
  clear hat1 h hs
  go_enter Try.func20, Try.ntmps20
  go_wp2_with fail
  refine (unhid OK).mono ?_
  rintro x w2 ⟨rfl, hB2⟩
  have H2 := hid (show Below w.heap.size w w2 ∧ ∀ (i : Nat) e, es[i]? = some e → EntAt w2 b (o + i * 4) e from ⟨hB2, entAt_below (unhid H1) (.inr hb) hB2⟩)
  have hb2 : b < w2.heap.size := Nat.lt_of_lt_of_le hb hB2.size
  clear hB2 H1 OK
  cases htb : treeB es
  · have E := hid (show moveR p q es = [] ∧ moveOk p q es = false by unfold moveR moveOk; rw [keptE_no htb]; exact ⟨by simp [mayB, thereE, placeE], by simp [mayB, thereE, placeE]⟩)
    have HF := hid (And.intro (owns_empty w2 w.heap.size (unhid H2).1.size 27) ((unhid H2).1.alloc (unhid H2).1.size (.cells #[] 27)))
    go_wp2_with fail
    go_ret2
    exact ⟨_, by rw [(unhid E).2]; rfl, by rw [(unhid E).1]; exact (unhid HF).1, (unhid HF).2⟩
  · have E := hid (show moveOk p q es = (mayS es p q && mvAllS p q es) ∧ moveR p q es = moveL p q es from move_spec (p := p) (q := q) htb)
    go_wp2_with fail
    refine (l2Move_any es p q b o cap w2 htb hp hq (unhid H2).2 hb2).mono ?_
    rintro x w4 ⟨v, rfl, hown, hB4⟩
    obtain ⟨va, vc, rfl⟩ := ownsRow_slice hown
    have HF := hid (And.intro (ownsRow_base hown (unhid H2).1.size) ((unhid H2).1.trans (hB4.mono (unhid H2).1.size)))
    clear hown hB4
    generalize hmb : (mayS es p q && mvAllS p q es) = mb at *
    clear hmb
    go_wp2_with fail
    go_ret2
    exact ⟨_, by rw [(unhid E).1]; rfl, by rw [(unhid E).2]; exact (unhid HF).1, (unhid HF).2⟩
end Go.Proofs.Ytaefjibnnbdaaaa

/- What was moved is a tree, and moved back it is as it was. -/
namespace Go.Proofs.Ytaefjibnnbdaaaa
open Go.RowKit Go.Shelf

theorem putAll_iff : ∀ xs : List Ent, (xs.map (·.path)).Nodup → (∀ x, x ∈ putAll xs ↔ x ∈ xs) ∧ (putAll xs).length = xs.length := snoc_ind (fun _ => ⟨fun _ => Iff.rfl, rfl⟩) (fun xs x ih h => by
  rw [List.map_append, List.nodup_append] at h
  obtain ⟨i1, i2⟩ := ih h.1
  have hu := putAll_up xs
  have hne : ∀ y ∈ xs, y.path ≠ x.path := fun y hy => h.2.2 y.path (List.mem_map.2 ⟨y, hy, rfl⟩) x.path (by simp)
  rw [putAll_snoc]
  refine ⟨fun y => ?_, ?_⟩
  · rw [putT_iff hu, i1, List.mem_append, List.mem_singleton]
    constructor
    · rintro (h | ⟨h, _⟩)
      · exact .inr h
      · exact .inl h
    · rintro (h | h)
      · exact .inr ⟨h, hne y h⟩
      · exact .inl h
  · have ht : thereE (putAll xs) x.path = false := by
      cases ht : thereE (putAll xs) x.path
      · rfl
      · obtain ⟨y, hy, hp⟩ := (there_iff hu _).1 ht
        exact absurd hp (hne y ((i1 y).1 hy))
    unfold putT
    rw [ht]
    simp only [Bool.false_eq_true, if_false]
    rw [insAt_len, i2]; simp)
theorem lastIx_app (b : UInt8) (c : List UInt8) (hc : 0 ≤ lastIx b c) : ∀ a : List UInt8, lastIx b (a ++ c) = a.length + lastIx b c
  | [] => by simp
  | x :: a => by
    have ih := lastIx_app b c hc a
    rw [List.cons_append]
    rw [show lastIx b (x :: (a ++ c)) = if 0 ≤ lastIx b (a ++ c) then lastIx b (a ++ c) + 1 else if x == b then 0 else -1 from rfl, ih, if_pos (by omega)]
    simp; omega
theorem lastIx_slash (t : List UInt8) : 0 ≤ lastIx 47 (47 :: t) := by
  unfold lastIx
  split
  · omega
  · simp
theorem take_slash (a t : List UInt8) : (a ++ 47 :: t).take (lastIx 47 (a ++ 47 :: t)).toNat = a ++ (47 :: t).take (lastIx 47 (47 :: t)).toNat := by
  have h := lastIx_slash t
  rw [lastIx_app 47 (47 :: t) h a]
  have : ((a.length : Int) + lastIx 47 (47 :: t)).toNat = a.length + (lastIx 47 (47 :: t)).toNat := by omega
  rw [this, List.take_length_add_append]
theorem upS_list {s : ByteArray} (hi : 0 ≤ lastIx 47 s.data.toList) : (upS s).data.toList = s.data.toList.take (lastIx 47 s.data.toList).toNat := by
  unfold upS
  rw [if_neg (by omega), Lib.extract_data]
  simp
theorem upS_moved {p q s : ByteArray} {t : List UInt8} (hs : s.data.toList = p.data.toList ++ 47 :: t) : upS (movedP p q s) = movedP p q (upS s) ∧ (upS s).data.toList = p.data.toList ++ (47 :: t).take (lastIx 47 (47 :: t)).toNat := by
  have h1 : (movedP p q s).data.toList = q.data.toList ++ 47 :: t := by rw [movedP_list, hs, List.drop_left]
  have i0 := lastIx_slash t
  have i1 : 0 ≤ lastIx 47 s.data.toList := by rw [hs, lastIx_app 47 _ i0]; omega
  have i2 : 0 ≤ lastIx 47 (movedP p q s).data.toList := by rw [h1, lastIx_app 47 _ i0]; omega
  have e1 : (upS s).data.toList = p.data.toList ++ (47 :: t).take (lastIx 47 (47 :: t)).toNat := by rw [upS_list i1, hs, take_slash]
  refine ⟨?_, e1⟩
  apply bytes_ext
  rw [upS_list i2, h1, take_slash, movedP_list, e1, List.drop_left]
theorem below_trans {a b c : List UInt8} (h : belowB a b = true) (g : belowB b c = true) : belowB a c = true := by
  rcases belowB_cases h with rfl | ⟨t, rfl⟩
  · exact g
  · rcases belowB_cases g with rfl | ⟨u, rfl⟩
    · exact belowB_app _ _
    · rw [List.append_assoc]
      exact belowB_app _ _
theorem mv_back {p q s : ByteArray} (h : belowB p.data.toList s.data.toList = true) : movedP q p (movedP p q s) = s := by
  apply bytes_ext
  rw [movedP_list, movedP_list, List.drop_left]
  exact (below_drop h).1.symm
theorem below_there {es : List Ent} {q : ByteArray} (h : treeB es = true) (hq : pathB q.data.toList = true) (hno : thereE es q = false) : ∀ e ∈ es, belowB q.data.toList e.path.data.toList = false := fun e he => by
  cases hb : belowB q.data.toList e.path.data.toList
  · rfl
  · rw [in_there h _ e he (Nat.le_refl _) (inB_mk hq (ent_pathB (tree_all h e he)) hb)] at hno; cases hno

structure MoveF (es : List Ent) (p q : ByteArray) (X : List Ent) : Prop where
  mem : ∀ x, x ∈ X ↔ ∃ e ∈ es, x = mvS p q e
  tree : treeB X = true
  len : X.length = es.length
  gone : thereE X p = false
  back : moveOk q p X = true
  same : moveR q p X = es
theorem move_facts {es : List Ent} {p q : ByteArray} (h : treeB es = true) (hm : moveOk p q es = true) : MoveF es p q (moveR p q es) ∧ pathB p.data.toList = true ∧ pathB q.data.toList = true ∧ ∀ e ∈ es, pathB (mvS p q e).path.data.toList = true := by
  obtain ⟨e1, e2⟩ := move_spec (p := p) (q := q) h
  rw [e1] at hm
  rw [hm, if_pos rfl] at e2
  rw [Bool.and_eq_true] at hm
  obtain ⟨hmay, hall⟩ := hm
  unfold mayS at hmay
  simp only [Bool.and_eq_true, Bool.not_eq_true'] at hmay
  obtain ⟨tp, nq, hq, nbelow, dq⟩ := hmay
  have hu := tree_up h
  obtain ⟨x0, hx0, hx0p⟩ := (there_iff hu p).1 tp
  have hp : pathB p.data.toList = true := by rw [← hx0p]; exact ent_pathB (tree_all h x0 hx0)
  have hpb : ∀ e ∈ es, pathB (mvS p q e).path.data.toList = true := fun e he => List.all_eq_true.1 hall e he
  have hnd := moved_nodup (p := p) h hq nq
  obtain ⟨m1, m2⟩ := putAll_iff _ hnd
  have hX : moveR p q es = putAll (es.map (mvS p q)) := by rw [e2, sort_put _ hnd]
  have hmem : ∀ x, x ∈ moveR p q es ↔ ∃ e ∈ es, x = mvS p q e := fun x => by
    rw [hX, m1, List.mem_map]
    constructor
    · rintro ⟨e, he, rfl⟩; exact ⟨e, he, rfl⟩
    · rintro ⟨e, he, rfl⟩; exact ⟨e, he, rfl⟩
  have hlen : (moveR p q es).length = es.length := by rw [hX, m2]; simp
  have huX : Up (moveR p q es) := by rw [hX]; exact putAll_up _
  have nbq : ∀ e ∈ es, belowB q.data.toList e.path.data.toList = false := below_there h hq nq
  have stay : ∀ d ∈ es, belowB p.data.toList d.path.data.toList = false → d ∈ moveR p q es := fun d hd hb => (hmem d).2 ⟨d, hd, by unfold mvS; rw [hb]; rfl⟩
  have went : ∀ d ∈ es, belowB p.data.toList d.path.data.toList = true → { d with path := movedP p q d.path } ∈ moveR p q es := fun d hd hb => (hmem _).2 ⟨d, hd, by unfold mvS; rw [hb]; rfl⟩
  obtain ⟨g1, _, g3, g4⟩ := (tree_iff es).1 h
  have hT : treeB (moveR p q es) = true := by
    refine (tree_iff _).2 ⟨fun x hx => ?_, huX, fun x hx => ?_, by rw [hlen]; exact g4⟩
    · obtain ⟨e, he, rfl⟩ := (hmem x).1 hx
      have h1 := g1 e he
      have h2 := hpb e he
      unfold mvS at h2 ⊢
      split
      · rename_i hb
        rw [if_pos hb] at h2
        unfold entB at h1 ⊢
        rw [Bool.and_eq_true] at h1 ⊢
        exact ⟨h2, h1.2⟩
      · exact h1
    · obtain ⟨e, he, rfl⟩ := (hmem x).1 hx
      have hpe := ent_pathB (g1 e he)
      unfold mvS
      cases hb : belowB p.data.toList e.path.data.toList
      · simp only [Bool.false_eq_true, if_false]
        rcases g3 e he with h0 | ⟨d, hd, hdp, hk⟩
        · exact .inl h0
        · by_cases hem : (upS e.path).toList.isEmpty = true
          · exact .inl hem
          · refine .inr ⟨d, stay d hd ?_, hdp, hk⟩
            cases hbd : belowB p.data.toList d.path.data.toList
            · rfl
            · have := (inB_parts (up_in hpe (by simpa using hem))).2.2
              rw [← hdp] at this
              rw [below_trans hbd this] at hb
              cases hb
      · simp only [if_true]
        rcases belowB_cases hb with heq | ⟨t, ht⟩
        · have hep : e.path = p := bytes_ext heq
          have hmq : movedP p q e.path = q := by
            rw [hep]
            apply bytes_ext
            rw [movedP_list]; simp
          show DirIn (moveR p q es) (upS (movedP p q e.path))
          rw [hmq]
          rcases (dir_iff hu _).1 dq with h0 | ⟨d, hd, hdp, hk⟩
          · exact .inl h0
          · by_cases hem : (upS q).toList.isEmpty = true
            · exact .inl hem
            · refine .inr ⟨d, stay d hd ?_, hdp, hk⟩
              cases hbd : belowB p.data.toList d.path.data.toList
              · rfl
              · have := (inB_parts (up_in hq (by simpa using hem))).2.2
                rw [← hdp] at this
                rw [below_trans hbd this] at nbelow
                cases nbelow
        · obtain ⟨um, ul⟩ := upS_moved (q := q) ht
          show DirIn (moveR p q es) (upS (movedP p q e.path))
          rw [um]
          rcases g3 e he with h0 | ⟨d, hd, hdp, hk⟩
          · exfalso
            rw [Lib.toList_data, ul] at h0
            have := pathB_ne _ hp
            simp at h0
            exact this (by simpa using h0.1)
          · have hbd : belowB p.data.toList d.path.data.toList = true := by
              rw [hdp, ul]
              have i0 := lastIx_slash t
              cases hz : (lastIx 47 (47 :: t)).toNat with
              | zero => simp [belowB_refl]
              | succ n => rw [List.take_succ_cons]; exact belowB_app _ _
            exact .inr ⟨_, went d hd hbd, by show movedP p q d.path = _; rw [hdp], hk⟩
  have hgone : thereE (moveR p q es) p = false := by
    cases ht : thereE (moveR p q es) p
    · rfl
    · exfalso
      obtain ⟨x, hx, hxp⟩ := (there_iff huX p).1 ht
      obtain ⟨e, he, rfl⟩ := (hmem x).1 hx
      unfold mvS at hxp
      cases hb : belowB p.data.toList e.path.data.toList
      · rw [hb] at hxp
        simp only [Bool.false_eq_true, if_false] at hxp
        rw [hxp, belowB_refl] at hb; cases hb
      · rw [hb] at hxp
        simp only [if_true] at hxp
        have h1 := movedP_below (q := q) hb
        rw [hxp] at h1
        rw [← hx0p, nbq x0 hx0] at h1
        cases h1
  have hqX : thereE (moveR p q es) q = true := by
    refine (there_iff huX q).2 ⟨_, went x0 hx0 (by rw [hx0p]; exact belowB_refl _), ?_⟩
    show movedP p q x0.path = q
    rw [hx0p]
    apply bytes_ext
    rw [movedP_list]; simp
  have nqp : belowB q.data.toList p.data.toList = false := by rw [← hx0p]; exact nbq x0 hx0
  have hdp : dirE (moveR p q es) (upS p) = true := by
    refine (dir_iff huX _).2 ?_
    have hx := g3 x0 hx0
    rw [hx0p] at hx
    rcases hx with h0 | ⟨d, hd, hdd, hk⟩
    · exact .inl h0
    · by_cases hem : (upS p).toList.isEmpty = true
      · exact .inl hem
      · refine .inr ⟨d, stay d hd ?_, hdd, hk⟩
        refine belowB_long ?_
        rw [hdd]
        have hin := inB_parts (up_in hp (by simpa using hem))
        have hi : 0 ≤ lastIx 47 p.data.toList := by
          refine Int.not_lt.1 (fun hlt => hem ?_)
          unfold upS; rw [if_pos hlt]; decide +kernel
        have hg := (List.getElem?_eq_some_iff.1 (lastIx_get 47 p.data.toList hi)).1
        rw [upS_list hi, List.length_take]; omega
  have hback : ∀ e ∈ es, mvS q p (mvS p q e) = e := fun e he => by
    unfold mvS
    cases hb : belowB p.data.toList e.path.data.toList
    · simp only [Bool.false_eq_true, if_false]
      rw [nbq e he]; rfl
    · simp only [if_true]
      rw [movedP_below (q := q) hb, if_pos rfl, mv_back hb]
  have hmay2 : mayS (moveR p q es) q p = true := by
    unfold mayS
    rw [hqX, hgone, hp, nqp, hdp]; rfl
  have hall2 : mvAllS q p (moveR p q es) = true := by
    unfold mvAllS
    rw [List.all_eq_true]
    intro x hx
    obtain ⟨e, he, rfl⟩ := (hmem x).1 hx
    rw [hback e he]
    exact ent_pathB (g1 e he)
  obtain ⟨b1, b2⟩ := move_spec (p := q) (q := p) hT
  rw [hmay2, hall2, Bool.and_self] at b1 b2
  rw [if_pos rfl] at b2
  have hnd2 := moved_nodup (p := q) hT hp hgone
  obtain ⟨n1, _⟩ := putAll_iff _ hnd2
  refine ⟨⟨hmem, hT, hlen, hgone, b1, ?_⟩, hp, hq, hpb⟩
  rw [b2, sort_put _ hnd2]
  refine up_ext (putAll_up _) hu (fun x => ?_)
  rw [n1, List.mem_map]
  constructor
  · rintro ⟨y, hy, rfl⟩
    obtain ⟨e, he, rfl⟩ := (hmem y).1 hy
    rw [hback e he]; exact he
  · intro hx
    exact ⟨mvS p q x, (hmem _).2 ⟨x, hx, rfl⟩, hback x hx⟩
end Go.Proofs.Ytaefjibnnbdaaaa

/- A part of a tree: what a pattern takes, and the dirs that it is in. -/
namespace Go.Proofs.Ytaefjibnnbdaaaa
open Go.RowKit Go.Shelf

theorem up_sub : ∀ (K L : List Ent), Up K → Up L → (∀ x ∈ L, x ∈ K) → L.length ≤ K.length
  | [], L, _, _, h => by
    cases L with
    | nil => simp
    | cons l L => exact absurd (h l (by simp)) (by simp)
  | k :: K, [], _, _, _ => by simp
  | k :: K, l :: L, hK, hL, h => by
    have hirr : ∀ a : ByteArray, ltS a a = false := fun a => lt_irr _
    have hK' := List.pairwise_cons.1 hK
    have hL' := List.pairwise_cons.1 hL
    by_cases e : l = k
    · subst e
      have := up_sub K L hK'.2 hL'.2 (fun x hx => by
        rcases List.mem_cons.1 (h x (by simp [hx])) with e | hm
        · subst e; have := hL'.1 x hx; rw [hirr] at this; cases this
        · exact hm)
      simp; omega
    · have hl : l ∈ K := (List.mem_cons.1 (h l (by simp))).resolve_left e
      have hlt := hK'.1 l hl
      have := up_sub K (l :: L) hK'.2 hL (fun x hx => by
        rcases List.mem_cons.1 (h x hx) with e2 | hm
        · subst e2
          rcases List.mem_cons.1 hx with e3 | hm2
          · exact absurd e3.symm e
          · have := lt_trans' hlt (hL'.1 x hm2); rw [hirr] at this; cases this
        · exact hm)
      simp at this ⊢; omega
/-- What is in the way up from a place. -/
theorem below_up {x a : ByteArray} (ha : pathB a.data.toList = true) (hx : pathB x.data.toList = true) : belowB x.data.toList a.data.toList = true ↔ x = a ∨ ((pathUpS a).toList.isEmpty = false ∧ belowB x.data.toList (pathUpS a).data.toList = true) := by
  have hpu : pathUpS a = upS a := by unfold pathUpS; rw [ha]; rfl
  rw [hpu]
  constructor
  · intro h
    by_cases e : a.data.toList = x.data.toList
    · exact .inl (bytes_ext e.symm)
    · have hin := inB_mk hx ha h
      obtain ⟨h1, h2, _⟩ := in_up hin e
      rw [← upS_list h1] at h2
      have h3 := inB_parts h2
      refine .inr ⟨?_, h3.2.2⟩
      rw [Lib.toList_data]
      have := pathB_ne _ h3.2.1
      simpa using this
  · rintro (rfl | ⟨h1, h2⟩)
    · exact belowB_refl _
    · exact below_trans h2 (inB_parts (up_in ha h1)).2.2
def takenB (g : ByteArray) (e : Ent) : Bool := hasB g.data.toList e.path.data.toList
def neededB (g : ByteArray) (ks : List Ent) (d : ByteArray) : Bool := ks.any fun e => belowB d.data.toList e.path.data.toList && takenB g e
/-- The part, as the model tells it. -/
def partL (g : ByteArray) (ks : List Ent) : List Ent := ks.filter fun e => takenB g e || (e.kind == 1 && neededB g ks e.path)
theorem dir_above {ks : List Ent} (h : treeB ks = true) : ∀ (n : Nat) (e x : Ent), e ∈ ks → x ∈ ks → e.path.size ≤ n → belowB x.path.data.toList e.path.data.toList = true → x.path ≠ e.path → x.kind = 1
  | n, e, x, he, hx, hn, hb, hne => by
    have hpe := ent_pathB (tree_all h e he)
    have hpx := ent_pathB (tree_all h x hx)
    rcases (below_up hpe hpx).1 hb with e1 | ⟨h1, h2⟩
    · exact absurd e1 hne
    · have hpu : pathUpS e.path = upS e.path := by unfold pathUpS; rw [hpe]; rfl
      rw [hpu] at h1 h2
      obtain ⟨_, hu, g3, _⟩ := (tree_iff ks).1 h
      rcases g3 e he with h0 | ⟨d, hd, hdp, hk⟩
      · rw [h0] at h1; cases h1
      · by_cases hxd : x.path = d.path
        · rw [path_uniq hu hx hd hxd]; exact hk
        · have hi : 0 ≤ lastIx 47 e.path.data.toList := by
            refine Int.not_lt.1 (fun hlt => ?_)
            unfold upS at h1; rw [if_pos hlt] at h1
            revert h1; decide +kernel
          have hg := (List.getElem?_eq_some_iff.1 (lastIx_get 47 e.path.data.toList hi)).1
          have hsz : d.path.size < e.path.size := by
            rw [hdp, Lib.size_eq, Lib.size_eq, upS_list hi, List.length_take]; omega
          match n with
          | 0 => omega
          | n + 1 => exact dir_above h n d x hd hx (by omega) (by rw [hdp]; exact h2) hxd
theorem partL_iff {g : ByteArray} {ks : List Ent} (h : treeB ks = true) (x : Ent) : x ∈ partL g ks ↔ x ∈ ks ∧ ∃ e ∈ ks, takenB g e = true ∧ belowB x.path.data.toList e.path.data.toList = true := by
  unfold partL
  rw [List.mem_filter]
  constructor
  · rintro ⟨hx, hc⟩
    refine ⟨hx, ?_⟩
    rw [Bool.or_eq_true] at hc
    rcases hc with hc | hc
    · exact ⟨x, hx, hc, belowB_refl _⟩
    · rw [Bool.and_eq_true] at hc
      obtain ⟨e, he, hb⟩ := List.any_eq_true.1 hc.2
      rw [Bool.and_eq_true] at hb
      exact ⟨e, he, hb.2, hb.1⟩
  · rintro ⟨hx, e, he, ht, hb⟩
    refine ⟨hx, ?_⟩
    rw [Bool.or_eq_true]
    by_cases hp : x.path = e.path
    · have := path_uniq (tree_up h) hx he hp
      subst this
      exact .inl ht
    · right
      rw [Bool.and_eq_true]
      refine ⟨by rw [dir_above h _ e x he hx (Nat.le_refl _) hb hp]; rfl, List.any_eq_true.2 ⟨e, he, by rw [hb, ht]; rfl⟩⟩
theorem partL_up {g : ByteArray} {ks : List Ent} (h : Up ks) : Up (partL g ks) := List.Pairwise.filter _ h
theorem partL_len (g : ByteArray) (ks : List Ent) : (partL g ks).length ≤ ks.length := List.length_filter_le _ _
end Go.Proofs.Ytaefjibnnbdaaaa

/- What is put with all dirs that it is in. -/
namespace Go.Proofs.Ytaefjibnnbdaaaa
open Go.RowKit Go.Shelf

theorem getV_mem {ks : List Ent} (h : Up ks) {e : Ent} (he : e ∈ ks) : getV ks e.path = nodeV e := by
  have := there_mem h he
  unfold getV
  rw [this.1, this.2]; rfl
theorem empty_iff (a : ByteArray) : a.toList.isEmpty = true ↔ a = ⟨#[]⟩ := by
  constructor
  · exact empty_of
  · rintro rfl; decide +kernel

def textLen : Value → Nat
  | .string x => x.size
  | _ => 0

set_option maxRecDepth 100000 in
set_option maxHeartbeats 4000000 in
theorem withDirs_any (N N2 bp : Nat) (ps ks : List Ent) (ap an : Option Addr) (cp cn : Nat) (p : ByteArray) (w : World) (hT : treeB ks = true) (hp : ∃ e ∈ ks, e.path = p) (hps : ∀ x ∈ ps, x ∈ ks) (hup : Up ps) (hN : N ≤ bp) (hNw : N ≤ w.heap.size)
    (hrows : RowsAt w N2 (.slice ap ks.length cp) (.slice an ks.length cn) ks) (hl1 : ∀ g, (Value.slice ap ks.length cp).ownBlock = some g → g < N) (hl2 : ∀ g, (Value.slice an ks.length cn).ownBlock = some g → g < N) (hpart : TreeAt w N bp ps) :
    Calls Try.prog 80 #[.pointer (some ⟨bp, 0, none⟩), .agg #[.slice ap ks.length cp, .slice an ks.length cn], .string p] w fun x w' => (∃ v, x = .returned v) ∧ ∃ L, TreeAt w' N bp L ∧ Up L ∧ (∀ x, x ∈ L ↔ x ∈ ps ∨ (x ∈ ks ∧ belowB x.path.data.toList p.data.toList = true)) ∧ Kept N bp w w' := by
  obtain ⟨w0, hw0⟩ : ∃ w0, w0 = w.alloc (.cells #[.slice ap ks.length cp, .slice an ks.length cn] 58) := ⟨_, rfl⟩
  have hB0 : Below w.heap.size w w0 := by rw [hw0]; exact (Below.refl _ w).alloc (Nat.le_refl _) _
  have hbox : w0.heap[w.heap.size]? = some (.cells #[.slice ap ks.length cp, .slice an ks.length cn] 58 (0, 0)) := by rw [hw0]; exact World.alloc_heap_new _ _
  have hu := tree_up hT
  have h16 := tree_16 hT
  have hbpl := hpart.lt
  have HS := hid (show TreeAt w0 N bp ps ∧ RowsAt w0 N2 (.slice ap ks.length cp) (.slice an ks.length cn) ks from ⟨hpart.below hB0, ownsRow_kept hrows.1 (fun g e => hB0.block g (hrows.1.lt g e).2), ownsRow_kept hrows.2 (fun g e => hB0.block g (hrows.2.lt g e).2)⟩)
  have HK0 := hid (Kept.of_below (bt := bp) hB0 hNw)
  have HX := hid (And.intro hbox (And.intro hl1 hl2))
  have HW0 := hid hw0
  have hlt0 : w.heap.size < w0.heap.size := (Array.getElem?_eq_some_iff.1 hbox).1
  have HPS := hid (And.intro hps (And.intro hup (And.intro hT hu)))
  have HP := hid hp
  clear hw0 hB0 hbox hrows hpart hps hup hT hp hl1 hl2
  go_enter Try.func80, Try.ntmps80
  go_wp2_with fail
  rw [← unhid HW0]
  go_loopw [6, 7, 8] (fun at' _ _ wr => ∃ (a : ByteArray) (L : List Ent), at' = .string a ∧ a.size ≤ 54 ∧ Hid ((a = ⟨#[]⟩ ∨ ∃ e ∈ ks, e.path = a) ∧ (a ≠ ⟨#[]⟩ → belowB a.data.toList p.data.toList = true) ∧ TreeAt wr N bp L ∧ Up L ∧ (∀ x, x ∈ L ↔ x ∈ ps ∨ (x ∈ ks ∧ belowB x.path.data.toList p.data.toList = true ∧ (a = ⟨#[]⟩ ∨ belowB x.path.data.toList a.data.toList = false))) ∧ Kept N bp w0 wr)) (fun a _ _ _ => textLen a)
  case atStart =>
    obtain ⟨e0, he0, hp0⟩ := unhid HP
    have hsz := ent_path_len (tree_all (unhid HPS).2.2.1 e0 he0)
    have hpb := ent_pathB (tree_all (unhid HPS).2.2.1 e0 he0)
    rw [hp0] at hsz hpb
    refine ⟨p, ps, rfl, hsz, hid ⟨.inr ⟨e0, he0, hp0⟩, fun _ => belowB_refl _, (unhid HS).1, (unhid HPS).2.1, fun x => ?_, ⟨Below.refl _ _, fun _ _ _ h _ => h⟩⟩⟩
    constructor
    · exact .inl
    · rintro (h | ⟨_, h1, h2 | h2⟩)
      · exact h
      · exfalso; rw [h2] at hpb; revert hpb; decide +kernel
      · rw [h1] at h2; cases h2
  case round =>
    obtain ⟨a, L, rfl, hsz, HI⟩ := hrel
    cases hem : a.toList.isEmpty
    · obtain ⟨e, he, hea⟩ := (unhid HI).1.resolve_left (fun e => by rw [e] at hem; revert hem; decide +kernel)
      subst hea
      have hpb := ent_pathB (tree_all (unhid HPS).2.2.1 e he)
      have hne : e.path ≠ ⟨#[]⟩ := fun e0 => by rw [e0] at hem; revert hem; decide +kernel
      have hlen : L.length ≤ 16 := Nat.le_trans (up_sub ks L (unhid HPS).2.2.2 (unhid HI).2.2.2.1 (fun x hx => by
        rcases ((unhid HI).2.2.2.2.1 x).1 hx with h | h
        · exact (unhid HPS).1 x h
        · exact h.1)) h16
      have hbw : wr.heap[w.heap.size]? = some (.cells #[.slice ap ks.length cp, .slice an ks.length cn] 58 (0, 0)) := (unhid HI).2.2.2.2.2.2 _ _ (by omega) (unhid HX).1 (fun _ _ _ e => by cases e; decide)
      have hrw : RowsAt wr N2 (.slice ap ks.length cp) (.slice an ks.length cn) ks := ⟨ownsRow_kept (unhid HS).2.1 (fun g eg => (unhid HI).2.2.2.2.2.1.block g ((unhid HX).2.1 g eg)), ownsRow_kept (unhid HS).2.2 (fun g eg => (unhid HI).2.2.2.2.2.1.block g ((unhid HX).2.2 g eg))⟩
      have GET := hid (mapGet_any N2 w.heap.size ks e.path wr (by omega) (up_asc (unhid HPS).2.2.2) ⟨_, _, hbw, hrw.1, hrw.2⟩)
      have PUT := hid (mapPut_any N bp L e wr (by omega) (up_asc (unhid HI).2.2.2.1) hN (unhid HI).2.2.1)
      have GM := hid (getV_mem (unhid HPS).2.2.2 he)
      have TM := hid (there_mem (unhid HPS).2.2.2 he).1
      have HE := hid he
      obtain ⟨T0, nv, hnv⟩ := nodeV_shape e
      rw [hnv] at PUT GM
      have hsm : (pathUpS e.path).size < e.path.size := by
        have hpu : pathUpS e.path = upS e.path := by unfold pathUpS; rw [hpb]; rfl
        rw [hpu]
        by_cases hi : 0 ≤ lastIx 47 e.path.data.toList
        · have hg := (List.getElem?_eq_some_iff.1 (lastIx_get 47 e.path.data.toList hi)).1
          rw [Lib.size_eq, Lib.size_eq, upS_list hi, List.length_take]; omega
        · unfold upS; rw [if_pos (by omega)]
          show 0 < e.path.size
          rw [Lib.size_eq]
          have := pathB_ne _ hpb
          exact List.length_pos_iff.2 this
      have NEXT := hid (show (pathUpS e.path = ⟨#[]⟩ ∨ ∃ d ∈ ks, d.path = pathUpS e.path) ∧ (pathUpS e.path ≠ ⟨#[]⟩ → belowB (pathUpS e.path).data.toList p.data.toList = true) ∧ (∀ x, x ∈ putT L e ↔ x ∈ ps ∨ (x ∈ ks ∧ belowB x.path.data.toList p.data.toList = true ∧ (pathUpS e.path = ⟨#[]⟩ ∨ belowB x.path.data.toList (pathUpS e.path).data.toList = false))) by
        obtain ⟨i1, i2, i3, i4, i5, i6⟩ := unhid HI
        have hpu : pathUpS e.path = upS e.path := by unfold pathUpS; rw [hpb]; rfl
        have hT := (unhid HPS).2.2.1
        refine ⟨?_, fun hn => ?_, fun x => ?_⟩
        · rcases ((tree_iff ks).1 hT).2.2.1 e he with h0 | ⟨d, hd, hdp, _⟩
          · left; rw [hpu]; exact (empty_iff _).1 h0
          · right; exact ⟨d, hd, by rw [hpu]; exact hdp⟩
        · have h1 : (upS e.path).toList.isEmpty = false := by
            cases h : (upS e.path).toList.isEmpty
            · rfl
            · exact absurd (by rw [hpu]; exact (empty_iff _).1 h) hn
          rw [hpu]
          exact below_trans (inB_parts (up_in hpb h1)).2.2 (i2 hne)
        · rw [putT_iff i4, i5]
          constructor
          · rintro (rfl | ⟨h1 | ⟨h1, h2, h3⟩, _⟩)
            · refine .inr ⟨he, i2 hne, ?_⟩
              by_cases h0 : pathUpS x.path = ⟨#[]⟩
              · exact .inl h0
              · right
                refine belowB_long ?_
                have := hsm
                rw [Lib.size_eq, Lib.size_eq] at this
                exact this
            · exact .inl h1
            · refine .inr ⟨h1, h2, ?_⟩
              by_cases h0 : pathUpS e.path = ⟨#[]⟩
              · exact .inl h0
              · right
                have h4 : belowB x.path.data.toList e.path.data.toList = false := h3.resolve_left hne
                cases hb : belowB x.path.data.toList (pathUpS e.path).data.toList
                · rfl
                · have := (below_up hpb (ent_pathB (tree_all hT x h1))).2 (.inr ⟨by
                    cases h : (pathUpS e.path).toList.isEmpty
                    · rfl
                    · exact absurd ((empty_iff _).1 h) h0, hb⟩)
                  rw [this] at h4; cases h4
          · intro h
            by_cases hxe : x = e
            · exact .inl hxe
            · refine .inr ⟨?_, fun hp2 => ?_⟩
              · rcases h with h | ⟨h1, h2, h3⟩
                · exact .inl h
                · refine .inr ⟨h1, h2, .inr ?_⟩
                  cases hb : belowB x.path.data.toList e.path.data.toList
                  · rfl
                  · rcases (below_up hpb (ent_pathB (tree_all hT x h1))).1 hb with e1 | ⟨e1, e2⟩
                    · exact absurd (path_uniq (unhid HPS).2.2.2 h1 he e1) hxe
                    · rcases h3 with h3 | h3
                      · rw [h3] at e1; revert e1; decide +kernel
                      · rw [h3] at e2; cases e2
              · have hxk : x ∈ ks := by
                  rcases h with h | h
                  · exact (unhid HPS).1 x h
                  · exact h.1
                exact hxe (path_uniq (unhid HPS).2.2.2 hxk he hp2))
      have HK := hid (And.intro (unhid HI).2.2.2.1 (unhid HI).2.2.2.2.2)
      clear HI hbw hrw he hne hlen hpb
      go_wp2_with fail
      refine (unhid GET).mono ?_
      rintro x w1 ⟨rfl, e1⟩
      subst e1
      rw [unhid GM, unhid TM]
      go_wp2_with fail
      refine (unhid PUT).mono ?_
      rintro x w2 ⟨⟨v, rfl⟩, hT2, hK2⟩
      have HT2 := hid (And.intro hT2 ((unhid HK).2.trans hK2))
      clear hT2 hK2
      go_wp2_with fail
      refine (PathUp_any e.path (by unfold maxLen; omega) w2).mono ?_
      rintro x w3 ⟨rfl, hB3⟩
      have HT3 := hid (And.intro ((unhid HT2).1.below hB3) ((unhid HT2).2.trans (Kept.of_below hB3 (by have := (unhid HT2).2.1.size; have := hNw; omega))))
      clear hB3 HT2
      have hup2 := hid (putT_up (e := e) (unhid HK).1)
      go_wp2_with fail
      go_roundw
      case rel => exact ⟨pathUpS e.path, putT L e, rfl, by omega, hid ⟨(unhid NEXT).1, (unhid NEXT).2.1, (unhid HT3).1, unhid hup2, (unhid NEXT).2.2, (unhid HT3).2⟩⟩
      case measure => exact hsm
    · have ha0 := (empty_iff a).1 hem
      subst ha0
      have HI2 := HI
      go_wp2_with fail
      go_end0
      obtain ⟨-, -, i3, i4, i5, i6⟩ := unhid HI2
      refine ⟨⟨_, rfl⟩, L, i3, i4, fun x => ?_, (unhid HK0).trans i6⟩
      rw [i5]
      constructor
      · rintro (h | ⟨h1, h2, _⟩)
        · exact .inl h
        · exact .inr ⟨h1, h2⟩
      · rintro (h | ⟨h1, h2⟩)
        · exact .inl h
        · exact .inr ⟨h1, h2, .inl (by trivial)⟩
end Go.Proofs.Ytaefjibnnbdaaaa

/- A part of a tree, by the program. -/
namespace Go.Proofs.Ytaefjibnnbdaaaa
open Go.RowKit Go.Shelf

attribute [local go_sem] Oper.semAt_some

def partR (g : ByteArray) (es : List Ent) : List Ent := partL g (keptE es)

set_option maxRecDepth 100000 in
set_option maxHeartbeats 4000000 in
theorem treePart_any (es : List Ent) (a : Option Addr) (cap : Nat) (g : ByteArray) (w : World) (hs : smallE es) (hg : g.size ≤ 1048576) (h : EntsAt w a es) :
    Calls Try.prog 39 #[.slice a es.length cap, .string g] w fun x w' => ∃ v, x = .returned v ∧ w'.ownsRow w.heap.size 27 4 v (partR g es).length (valsOf (partR g es)) ∧ Below w.heap.size w w' := by
  have H := hid (treeOf_any es a cap w hs h)
  clear hs h
  refine (callsIn_wide (n := 3)).1 ?_
  refine callsIn_of_wp_marks Try.func39 rfl trivial ?_ rfl
  simp only [Try.ntmps39, List.size_toArray, List.length_cons, List.length_nil, Nat.reduceAdd, Nat.reduceSub, Array.replicate_succ, Array.replicate_zero, List.push_toArray, List.append_toArray, List.nil_append, List.cons_append]
  gi_wp2
  refine ⟨trivial, (callsIn_wide.2 (unhid H)).mono ?_⟩
  rintro x w1 ⟨vp, vn, rfl, ⟨t2, t3⟩, hB⟩
  obtain ⟨ap, cp, rfl⟩ := ownsRow_slice t2
  obtain ⟨an, cn, rfl⟩ := ownsRow_slice t3
  obtain ⟨wt, hwt⟩ : ∃ wt, wt = w1.alloc (.cells #[.slice ap (keptE es).length cp, .slice an (keptE es).length cn] 58) := ⟨_, rfl⟩
  have hBt : Below w1.heap.size w1 wt := by rw [hwt]; exact (Below.refl _ w1).alloc (Nat.le_refl _) _
  have hBT : Below w.heap.size w wt := hB.trans (hBt.mono hB.size)
  have hRT : wt.heap[w1.heap.size]? = some (.cells #[.slice ap (keptE es).length cp, .slice an (keptE es).length cn] 58 (0, 0)) ∧ RowsAt wt w.heap.size (.slice ap (keptE es).length cp) (.slice an (keptE es).length cn) (keptE es) := ⟨by rw [hwt]; exact World.alloc_heap_new _ _, ownsRow_kept t2 (fun g e => hBt.block g (t2.lt g e).2), ownsRow_kept t3 (fun g e => hBt.block g (t3.lt g e).2)⟩
  have hlow := And.intro (fun g (e : (Value.slice ap (keptE es).length cp).ownBlock = some g) => (t2.lt g e).2) (fun g (e : (Value.slice an (keptE es).length cn).ownBlock = some g) => (t3.lt g e).2)
  have HT := hid (And.intro hBT (And.intro hRT hlow))
  have HWT := hid hwt
  have hw1 := hB.size
  clear hRT hBT hBt hB t2 t3 hwt H hlow
  gi_wp2
  rw [← unhid HWT]
  refine ⟨trivial, (callsIn_wide.2 (globOf_full g (by unfold maxLen; omega) wt)).mono ?_⟩
  rintro x w2 ⟨fv, rfl, hfv, hfn, hb2⟩
  obtain ⟨w3, hw3⟩ : ∃ w3, w3 = w2.alloc (.cells #[fv] 95) := ⟨_, rfl⟩
  have hB3 : Below w2.heap.size w2 w3 := by rw [hw3]; exact (Below.refl _ w2).alloc (Nat.le_refl _) _
  have hbt3 : w3.heap[w2.heap.size]? = some (.cells #[fv] 95 (0, 0)) := by rw [hw3]; exact World.alloc_heap_new _ _
  have HW3 := hid hw3
  clear hw3
  cases ho : globOkB g.data.toList
  · have hf0 := hfn ho
    subst hf0
    have HB := hid ((unhid HT).1.trans ((hb2.mono (unhid HT).1.size).trans (hB3.mono (Nat.le_trans (unhid HT).1.size hb2.size))))
    have E := hid (show partR g es = [] by
      unfold partR partL
      rw [List.filter_eq_nil_iff]
      intro x _
      have h1 : ∀ y, takenB g y = false := fun y => by unfold takenB hasB; rw [ho]; rfl
      have h2 : neededB g (keptE es) x.path = false := by unfold neededB; simp [h1]
      rw [h1, h2]; simp)
    clear hfv hfn hb2 hB3 hbt3
    gi_wp2
    rw [← unhid HW3]
    refine ⟨.slice none 0 0, ?_, _, rfl, by rw [unhid E]; exact World.ownsRow_nil _ _ _ _, unhid HB⟩
    simp [results, Try.f39, go_sem]
  · obtain ⟨b, v, xs, rfl, hbl, hcb, hN, hxs⟩ := hfv ho
    clear hfv hfn
    have hxn : namesW g.data.toList = xs := filter_some _ _ _ hxs
    have hl40 : g.data.toList.length ≤ 40 ∧ (cutB 47 g.data.toList).length ≤ 5 := by
      unfold globOkB at ho; simp only [Bool.and_eq_true, decide_eq_true_eq] at ho; exact ⟨ho.1.2, ho.1.1⟩
    have hxl : xs.length ≤ 1000 := by have := congrArg List.length hxs; simp at this; omega
    have hsm : ∀ x ∈ xs, small9 x := fun x hx => by
      have : some x ∈ (cutB 47 g.data.toList).map (fun p => nameW ⟨⟨p⟩⟩) := by rw [hxs]; exact List.mem_map.2 ⟨x, hx, rfl⟩
      obtain ⟨p, hp, hn⟩ := List.mem_map.1 this
      refine nameW_small hn ?_
      have := cutB_le 47 _ _ hp
      rw [Lib.size_eq]
      show p.length ≤ 1000
      omega
    have hz3 : w3.heap.size = w2.heap.size + 1 := by rw [unhid HW3]; simp
    obtain ⟨w4, hw4⟩ : ∃ w4, w4 = w3.alloc (.cells #[.slice none 0 0, .slice none 0 0] 58) := ⟨_, rfl⟩
    obtain ⟨w5, hw5⟩ : ∃ w5, w5 = w4.alloc (.cells #[.pointer (some ⟨w1.heap.size, 0, none⟩)] 104) := ⟨_, rfl⟩
    have hz4 : w4.heap.size = w2.heap.size + 1 + 1 := by rw [hw4]; simp [hz3]
    have hz5 : w5.heap.size = w2.heap.size + 1 + 1 + 1 := by rw [hw5]; simp [hz4]
    have hB34 : Below w3.heap.size w3 w4 := by rw [hw4]; exact (Below.refl _ w3).alloc (Nat.le_refl _) _
    have hB45 : Below w4.heap.size w4 w5 := by rw [hw5]; exact (Below.refl _ w4).alloc (Nat.le_refl _) _
    have hB25 : Below w2.heap.size w2 w5 := hB3.trans ((hB34.mono hB3.size).trans (hB45.mono (by omega)))
    have hBt5 : Below wt.heap.size wt w5 := hb2.trans (hB25.mono hb2.size)
    obtain ⟨hBT, ⟨hbt, hrp, hrn⟩, hlp, hln⟩ := unhid HT
    have hbtl : w1.heap.size < wt.heap.size := (Array.getElem?_eq_some_iff.1 hbt).1
    have hBw : Below w.heap.size w w5 := hBT.trans (hBt5.mono hBT.size)
    have hbox5 : w5.heap[w2.heap.size]? = some (.cells #[.func (.func 106) #[] #[.pointer (some ⟨b, 0, none⟩)]] 95 (0, 0)) := (hB45.block _ (by omega)).trans ((hB34.block _ (by omega)).trans hbt3)
    have hbn5 : w5.heap[w2.heap.size + 1 + 1]? = some (.cells #[.pointer (some ⟨w1.heap.size, 0, none⟩)] 104 (0, 0)) := by have := World.alloc_heap_new w4 (.cells #[.pointer (some ⟨w1.heap.size, 0, none⟩)] 104); rw [hz4] at this; rw [hw5]; exact this
    have hrows5 : RowsAt w5 w.heap.size (.slice ap (keptE es).length cp) (.slice an (keptE es).length cn) (keptE es) := ⟨ownsRow_kept hrp (fun g e => hBt5.block g (hrp.lt g e).2), ownsRow_kept hrn (fun g e => hBt5.block g (hrn.lt g e).2)⟩
    have hbt5 := (hBt5.block _ hbtl).trans hbt
    have hTI : TreeIn (w2.heap.size + 1 + 1) w1.heap.size w.heap.size (.slice ap (keptE es).length cp) (.slice an (keptE es).length cn) (keptE es) w5 := ⟨(cell_of_box_l hbn5).1, hbt5, hrows5⟩
    have hLT : TreeAt w5 (w2.heap.size + 1) (w2.heap.size + 1) [] := ⟨.slice none 0 0, .slice none 0 0, (hB45.block _ (by omega)).trans (by have := World.alloc_heap_new w3 (.cells #[.slice none 0 0, .slice none 0 0] 58); rw [hz3] at this; rw [hw4]; exact this), World.ownsRow_nil _ _ _ _, World.ownsRow_nil _ _ _ _⟩
    have HN := hid (And.intro hN (And.intro hsm (And.intro hxl (And.intro hcb (And.intro hxn (And.intro hbox5 (And.intro hB25 (And.intro hrows5 hbt5))))))))
    have HAL := hid (all_in Fence.wide 2 trivial rfl w1.heap.size w4)
    rw [hz4, ← hw5] at HAL
    have HW4 := hid hw4
    have hlp' : ∀ g, (Value.slice ap (keptE es).length cp).ownBlock = some g → g < w2.heap.size + 1 := fun g e => by have := hlp g e; have := hb2.size; omega
    have hln' : ∀ g, (Value.slice an (keptE es).length cn).ownBlock = some g → g < w2.heap.size + 1 := fun g e => by have := hln g e; have := hb2.size; omega
    have HLO := hid (And.intro hlp' hln')
    have hw2t := hb2.size
    clear hw4 hw5 hB34 hB45 hB25 hBt5 hrp hrn hlp hln hbt hbt3 hxs hl40 hxl hsm hxn hN hcb hB3 hb2 hlp' hln' hBT
    gi_wp2
    rw [← unhid HW3, ← unhid HW4]
    refine ⟨trivial, (unhid HAL).mono ?_⟩
    rintro x w6 ⟨rfl, e6⟩
    subst e6
    have hkl := (kept_asc es).2
    have hka := (kept_asc es).1
    have hkt : ∀ e ∈ keptE es, treeB (keptE es) = true := fun x hx => by
      cases htb : treeB es
      · rw [keptE_no htb] at hx; simp at hx
      · rw [keptE_yes htb]; exact htb
    have HPR := hid (show partR g es = partL g (keptE es) from rfl)
    generalize hks : keptE es = ks at *
    clear hks HT HWT HW3 HW4 HAL
    have hBr : Below (w2.heap.size + 1) w6 w6 := Below.refl _ _
    gi_wp2
    refine wpIn_rangeFunc_ownF rfl (by omega) (gf := 87) (lb := #[.pointer (some ⟨w2.heap.size + 1 + 1, 0, none⟩)]) rfl trivial (enters_of Try.func87 (by kernel_rfl) rfl)
      (all_stops Fence.wide _ trivial rfl (by omega) (w2.heap.size + 1 + 1) w1.heap.size w.heap.size (.slice ap ks.length cp) (.slice an ks.length cn) ks (by omega) (fun e => e ∈ ks) (fun _ h => h) _ hTI) (fun h g x => g (h x)) (fun W l o o' _ hl hc _ h => treeIn_grown h (grownBy_putObj' _ l o') (fun r e => by cases e; exact ⟨_, hl, hc⟩)) (Below.refl _ _) (fun _ => rfl)
      (fun pre W => ((∃ ps, TreeAt W (w2.heap.size + 1) (w2.heap.size + 1) ps ∧ Up ps ∧ (∀ x, x ∈ ps ↔ x ∈ ks ∧ ∃ e ∈ pre.map (·.1), takenB g e = true ∧ belowB x.path.data.toList e.path.data.toList = true)) ∧ TreeIn (w2.heap.size + 1 + 1) w1.heap.size w.heap.size (.slice ap ks.length cp) (.slice an ks.length cn) ks W ∧ W.heap[w2.heap.size + 1 + 1]? = some (.cells #[.pointer (some ⟨w1.heap.size, 0, none⟩)] 104 (0, 0))) ∧ Below (w2.heap.size + 1) w6 W)
      (fun _ _ _ => False)
      (OwnFrom.and (Own.from (fun s A B row hs hg hr => ⟨by obtain ⟨ps, h1, h2⟩ := hs.1; exact ⟨ps, treeAt_grown h1 hg hr, h2⟩, treeIn_grown hs.2.1 hg hr, cells_grown hg hr hs.2.2⟩) _) (ownFrom_below (by omega) (by omega)))
      (fun c => fun _ _ _ _ h _ _ => h)
      ⟨⟨⟨[], hLT, List.Pairwise.nil, fun x => ⟨(fun h => by cases h), (fun h => by obtain ⟨_, e, he, _⟩ := h; cases he)⟩⟩, hTI, hbn5⟩, hBr⟩
      (fun x => { tmps := #[.slice a es.length cap, .string g, undef, undef, .slice none 0 0, .pointer (some ⟨w1.heap.size, 0, none⟩), .bool (treeB es), .pointer (some ⟨w2.heap.size, 0, none⟩), .bool true, .pointer (some ⟨w2.heap.size + 1, 0, none⟩), .string x.1.path,
        .tuple #[.agg #[.slice ap ks.length cp, .slice an ks.length cn], .bool (treeB es)], .slice a es.length cap, .tuple #[.agg #[.slice ap ks.length cp, .slice an ks.length cn], .bool (treeB es)], .agg #[.slice ap ks.length cp, .slice an ks.length cn], .bool (treeB es), .tuple #[.func (.func 106) #[] #[.pointer (some ⟨b, 0, none⟩)], .bool true], .string g, .tuple #[.func (.func 106) #[] #[.pointer (some ⟨b, 0, none⟩)], .bool true], .func (.func 106) #[] #[.pointer (some ⟨b, 0, none⟩)], .bool true, .bool true, .bool false, .agg #[.slice none 0 0, .slice none 0 0],
        .pointer (some ⟨w1.heap.size, 0, none⟩), .func (.func 87) #[] #[.pointer (some ⟨w2.heap.size + 1 + 1, 0, none⟩)], .string x.1.path, nodeV x.1, undef, undef, undef, undef, undef, undef, undef, undef], defers := [] }) ?assign ?body ?done ?stop
    case assign =>
      intro l x W K hK
      gi_wp2
      exact hK
    case stop => intro D c pre W _ _ h _; exact h.elim
    case body =>
      rintro l pre ⟨e, hx⟩ W ⟨⟨⟨ps, hL, hup, hmem⟩, hTI2, hbn⟩, hB⟩ hpl
      dsimp only
      have hT := hkt e hx
      have heb := tree_all hT e hx
      have hpx : e.path.size ≤ maxLen := by have := ent_path_len heb; unfold maxLen; omega
      have hpb := ent_pathB heb
      obtain ⟨T0, nv, hnv⟩ := nodeV_shape e
      rw [hnv]
      obtain ⟨n1, n2, n3, n4, n5, n6, n7, n8, n9⟩ := unhid HN
      have hb6 : W.heap[w2.heap.size]? = some (.cells #[.func (.func 106) #[] #[.pointer (some ⟨b, 0, none⟩)]] 95 (0, 0)) := (hB.block _ (by omega)).trans n6
      have hB2W : Below w2.heap.size w2 W := n7.trans (hB.mono (by omega))
      have htl : w2.heap.size < W.heap.size := (Array.getElem?_eq_some_iff.1 hb6).1
      have henter := eg36
      refine wpIn_block ?_
      refine wpIn_seq ?_
      refine region_in (by kernel_rfl) (by kernel_rfl) (by rintro ⟨_, _, h⟩; exact h) ?_
      refine wpAny_of_held (S := fun w' => Below W.heap.size W w') _ _ _ _ ?_
      have hS : Below W.heap.size W W.drew := drew_below _
      refine wpAnyH_take (i := 0) (v := .func (.func 106) #[] #[.pointer (some ⟨b, 0, none⟩)]) rfl (by kernel_rfl) (by kernel_rfl) (by kernel_rfl) (fun _ _ _ h => h) (Or.inl ⟨by rfl, fun w' hw => by have k0 := (cell_of_box_l ((Below.block hw _ htl).trans hb6)).1; go_simp⟩) hS ?_
      refine wpAnyH_take (i := 1) (v := .string e.path) rfl (by kernel_rfl) (by kernel_rfl) (by kernel_rfl) (fun _ _ _ h => h) (Or.inl ⟨by rfl, fun w' hw => by go_simp⟩) hS ?_
      generalize W.drew = W0 at hS ⊢
      refine wpAnyH_ready (rs := [2]) (by kernel_rfl) (by simp) ?_
      refine AllReadyH.cons rfl (fun K hK => ?_) AllReadyH.nil
      go_simp
      refine (partsOf_any e.path 47 W0).mono ?_
      rintro x W1 ⟨rfl, hW1⟩
      have h01 : Below W0.heap.size W0 W1 := by rw [hW1]; exact ((Below.refl _ W0).alloc (Nat.le_refl _) _).alloc (by simp) _
      have q0 : W1.cell? ⟨W0.heap.size, 0, none⟩ = some (.string e.path) := by rw [hW1]; exact cell_alloc_l _ (cell_new_l W0 _ _).1
      have q1 : W1.cell? ⟨W0.heap.size + 1, 0, none⟩ = some (.int .u8 47) := by rw [hW1]; have := (cell_new_l (W0.alloc (.cells #[.string e.path] 9)) (.int .u8 47) 5).1; rwa [World.size_alloc] at this
      have hS1 := hS.trans (h01.mono hS.size)
      refine hK.out _ _ hS1 (fun _ => ?_)
      clear hK K hW1 h01
      have h21 : Below w2.heap.size w2 W1 := hB2W.trans (hS1.mono (Nat.le_of_lt htl))
      have TK := hid (globTakes_any e.path hpx xs b W0.heap.size (W0.heap.size + 1) v (fun b => wt.heap.size ≤ b) W1 ((h21.cell (p := ⟨b, 0, none⟩) hbl).trans n4) (n1.kept h21.size (fun k _ hk => h21.block k hk) (fun _ h _ => h)) n2 n3 q0 q1)
      clear q0 q1
      refine wpAnyH_ready (rs := [3]) (by kernel_rfl) (by simp) ?_
      refine AllReadyH.cons rfl (fun K hK => ?_) AllReadyH.nil
      go_simp
      refine (unhid TK).mono ?_
      rintro x W2 ⟨⟨ys, hys, rfl⟩, hb12⟩
      have EM : matchO (xs.map opt9) ys = takenB g e := by rw [mat_vals, parts_vals hys, ← n5]; unfold takenB hasB; rw [ho, hpb]; rfl
      rw [EM]
      have hS2 := hS1.trans (hb12.mono hS1.size)
      refine hK.out _ _ hS2 (fun _ => ?_)
      clear hK K hb12 hys EM TK hS1 hS h21
      refine wpAnyH_done (by kernel_rfl) ?_ _
      have hO := KeepsOthers_of_below hS2
      have hL2 := hL.below hS2
      have hT2 := treeIn_below hTI2 hS2
      have hbn2 := (hS2.block _ (Array.getElem?_eq_some_iff.1 hbn).1).trans hbn
      have hbl2 : w2.heap.size + 1 ≤ W.heap.size := htl
      have hB2 : Below (w2.heap.size + 1) w6 W2 := hB.trans (hS2.mono hbl2)
      have hms : (pre ++ [(⟨e, hx⟩ : { e : Ent // e ∈ ks })]).map (·.1) = pre.map (·.1) ++ [e] := by simp
      clear n1 n2 n3 n4 n5 n6 hb6 hB2W henter hS2
      cases htk : takenB g e
      · have HF := hid (show KeepsOthers W W2 ∧ (TreeIn (w2.heap.size + 1 + 1) w1.heap.size w.heap.size (.slice ap ks.length cp) (.slice an ks.length cn) ks W → TreeIn (w2.heap.size + 1 + 1) w1.heap.size w.heap.size (.slice ap ks.length cp) (.slice an ks.length cn) ks W2) ∧ (((∃ ps, TreeAt W2 (w2.heap.size + 1) (w2.heap.size + 1) ps ∧ Up ps ∧ (∀ x, x ∈ ps ↔ x ∈ ks ∧ ∃ y ∈ (pre ++ [(⟨e, hx⟩ : { e : Ent // e ∈ ks })]).map (·.1), takenB g y = true ∧ belowB x.path.data.toList y.path.data.toList = true)) ∧ TreeIn (w2.heap.size + 1 + 1) w1.heap.size w.heap.size (.slice ap ks.length cp) (.slice an ks.length cn) ks W2 ∧ W2.heap[w2.heap.size + 1 + 1]? = some (.cells #[.pointer (some ⟨w1.heap.size, 0, none⟩)] 104 (0, 0))) ∧ Below (w2.heap.size + 1) w6 W2) from
          ⟨hO, fun _ => hT2, ⟨⟨ps, hL2, hup, fun x => by
            rw [hmem, hms]
            constructor
            · rintro ⟨h1, y, hy, h2⟩; exact ⟨h1, y, List.mem_append_left _ hy, h2⟩
            · rintro ⟨h1, y, hy, h2, h3⟩
              rcases List.mem_append.1 hy with hy | hy
              · exact ⟨h1, y, hy, h2, h3⟩
              · rw [List.mem_singleton.1 hy, htk] at h2; cases h2⟩, hT2, hbn2⟩, hB2⟩)
        clear hO hL2 hT2 hbn2 hB2 hms
        gi_wp2
        exact unhid HF
      · have hbt2 : W2.heap[w1.heap.size]? = some (.cells #[.slice ap ks.length cp, .slice an ks.length cn] 58 (0, 0)) := (hB2.block _ (by omega)).trans n9
        have hrw2 : RowsAt W2 w.heap.size (.slice ap ks.length cp) (.slice an ks.length cn) ks := ⟨ownsRow_kept n8.1 (fun g eg => hB2.block g ((unhid HLO).1 g eg)), ownsRow_kept n8.2 (fun g eg => hB2.block g ((unhid HLO).2 g eg))⟩
        have WD := hid (withDirs_any (w2.heap.size + 1) w.heap.size (w2.heap.size + 1) ps ks ap an cp cn e.path W2 hT ⟨e, hx, rfl⟩ (fun x hx => ((hmem x).1 hx).1) hup (Nat.le_refl _) (by have := hB2.size; have := hL2.lt; omega) hrw2 (unhid HLO).1 (unhid HLO).2 hL2)
        obtain ⟨d0, d1, -, -⟩ := two_cells hbt2
        have HI := hid (And.intro hO (And.intro hL2 (And.intro hT2 (And.intro hbn2 (And.intro hB2 (And.intro hms hmem))))))
        clear hO hL2 hT2 hbn2 hB2 hms hbt2 hrw2
        gi_wp2
        refine ⟨trivial, (CallsIn.inRound l (callsIn_wide.2 (unhid WD))).mono ?_⟩
        rintro x W3 ⟨⟨v, rfl⟩, L, hT3, hU3, hM3, hB3, hO3⟩
        obtain ⟨hO, hL2, hT2, hbn2, hB2, hms, hmem⟩ := unhid HI
        have hap2 : Apart (.cells #[.pointer (some ⟨w1.heap.size, 0, none⟩)] 104 (0, 0)) := apart_of (by decide)
        have HF := hid (show KeepsOthers W W3 ∧ (TreeIn (w2.heap.size + 1 + 1) w1.heap.size w.heap.size (.slice ap ks.length cp) (.slice an ks.length cn) ks W → TreeIn (w2.heap.size + 1 + 1) w1.heap.size w.heap.size (.slice ap ks.length cp) (.slice an ks.length cn) ks W3) ∧ (((∃ ps, TreeAt W3 (w2.heap.size + 1) (w2.heap.size + 1) ps ∧ Up ps ∧ (∀ x, x ∈ ps ↔ x ∈ ks ∧ ∃ y ∈ (pre ++ [(⟨e, hx⟩ : { e : Ent // e ∈ ks })]).map (·.1), takenB g y = true ∧ belowB x.path.data.toList y.path.data.toList = true)) ∧ TreeIn (w2.heap.size + 1 + 1) w1.heap.size w.heap.size (.slice ap ks.length cp) (.slice an ks.length cn) ks W3 ∧ W3.heap[w2.heap.size + 1 + 1]? = some (.cells #[.pointer (some ⟨w1.heap.size, 0, none⟩)] 104 (0, 0))) ∧ Below (w2.heap.size + 1) w6 W3) by
          have hTF : TreeIn (w2.heap.size + 1 + 1) w1.heap.size w.heap.size (.slice ap ks.length cp) (.slice an ks.length cn) ks W3 := treeIn_kept2 hT2 (fun k hk => hB3.block k hk) (by omega) (unhid HLO).1 (unhid HLO).2 (fun o ho hap => hO3 _ o (by omega) ho hap) ⟨_, _, _, hbn2, by decide⟩
          refine ⟨hO.trans ⟨hB3.size, fun k o hk hc => by
            by_cases hkb : k = w2.heap.size + 1
            · subst hkb; obtain ⟨_, _, q1, _⟩ := hL2; rw [hk] at q1; cases q1; cases hc
            · exact hO3 k o hkb hk (fun cs t f e => by subst e; cases hc)⟩, fun _ => hTF, ⟨⟨L, hT3, hU3, fun x => ?_⟩, hTF, hO3 _ _ (by omega) hbn2 hap2⟩, hB2.trans hB3⟩
          rw [hM3, hmem, hms]
          constructor
          · rintro (⟨h1, y, hy, h2⟩ | ⟨h1, h2⟩)
            · exact ⟨h1, y, List.mem_append_left _ hy, h2⟩
            · exact ⟨h1, e, by simp, htk, h2⟩
          · rintro ⟨h1, y, hy, h2, h3⟩
            rcases List.mem_append.1 hy with hy | hy
            · exact .inl ⟨h1, y, hy, h2, h3⟩
            · rw [List.mem_singleton.1 hy] at h3; exact .inr ⟨h1, h3⟩)
        clear hT3 hU3 hM3 hB3 hO3 hO hL2 hT2 hbn2 hB2 hms hap2
        gi_wp2
        exact unhid HF
    case done =>
      rintro D ys W hD hys ⟨⟨⟨ps, hL, hup, hmem⟩, hTI2, hbn⟩, hB⟩ hK
      have hps : ps = partL g ks := by
        refine up_ext hup (partL_up (asc_up hka)) (fun x => ?_)
        rw [hmem, hys]
        constructor
        · rintro ⟨h1, h2⟩; exact (partL_iff (hkt x h1) x).2 ⟨h1, h2⟩
        · intro h
          have h1 : x ∈ ks := (List.mem_filter.1 h).1
          exact (partL_iff (hkt x h1) x).1 h
      subst hps
      have hlen : (partL g ks).length ≤ 1000 := by have := partL_len g ks; omega
      have ENT := hid (entries_any (w2.heap.size + 1) (w2.heap.size + 1) (partL g ks) W hlen (fun e he => tree_all (hkt e (List.mem_filter.1 he).1) e (List.mem_filter.1 he).1) hL)
      have hBW : Below w.heap.size w W := hBw.trans (hB.mono (by omega))
      have HI := hid (And.intro hBW hK)
      have hDl := (Array.getElem?_eq_some_iff.1 hK).1
      clear hL hTI2 hbn hB hK hlen hmem hup hBW
      gi_wp2
      refine ⟨trivial, (callsIn_wide.2 (unhid ENT)).mono ?_⟩
      rintro x W3 ⟨v, rfl, hown, hb3⟩
      obtain ⟨va, vc, rfl⟩ := ownsRow_slice hown
      obtain ⟨hB, hK⟩ := unhid HI
      have hK3 := (hb3.block _ hDl).trans hK
      have hB3 := hB.trans (hb3.mono hB.size)
      have HF := hid (And.intro hown (And.intro hB3 (And.intro hK3 hB.size)))
      clear hown hb3 hB hK hK3 hB3
      gi_wp2
      refine ⟨by simp, .inl ⟨_, _, rfl, run_takeDeferred (unhid HF).2.2.1, ?_⟩⟩
      obtain ⟨hown, hB3, hK3, hszW⟩ := unhid HF
      have hg := grownBy_putObj' W3 D (.deferred none)
      have hr : ∀ r, some D = some r → ∃ o : Obj, W3.heap[r]? = some o ∧ o.isCells = false := fun r e => by cases e; exact ⟨_, hK3, rfl⟩
      refine ⟨.slice va (partL g ks).length vc, ?_, _, rfl, by rw [unhid HPR]; exact ownsRow_base (row_grown hg hr hown) hszW, hB3.trans (belowK_b (w := w) (Nat.le_refl _) _ D _ _ (by omega) hK3 rfl rfl)⟩
      simp [results, Try.f39, go_sem]
end Go.Proofs.Ytaefjibnnbdaaaa

/- A part of a tree, by the model. -/
namespace Go.Proofs.Ytaefjibnnbdaaaa
open Go.RowKit Go.Shelf

set_option maxRecDepth 100000 in
set_option maxHeartbeats 4000000 in
theorem l2Needed_any (es : List Ent) (g d : ByteArray) (a : Option Addr) (cap : Nat) (w : World) (hs : smallE es) (hg : g.size ≤ 1048576) (hd : d.size ≤ 1048576) (h : EntsAt w a es) :
    Calls Try.prog 76 #[.slice a es.length cap, .string g, .string d] w fun x w' => x = .returned (.bool (neededB g es d)) ∧ Below w.heap.size w w' := by
  have hn := hs.1
  have HS := hid hs
  have HH := hid h
  clear hs h
  go_enter Try.func76, Try.ntmps76
  go_wp2_with fail
  go_loopw [7] (fun i wr => ∃ k : Nat, k ≤ es.length ∧ i = .int .i64 (k : Int) ∧ Hid (neededB g (es.take k) d = false) ∧ Hid (Below w.heap.size w wr)) (fun i _ => es.length - (intOf i).toNat)
  case atStart => exact ⟨0, Nat.zero_le _, rfl, hid rfl, hid (Below.refl _ _)⟩
  case round =>
    obtain ⟨k, hk, rfl, HNO, HB⟩ := hrel
    by_cases hlt : k < es.length
    · obtain ⟨e, he⟩ : ∃ e, es[k]? = some e := ⟨es[k], List.getElem?_eq_getElem hlt⟩
      obtain ⟨bb, o, rfl, hbl, hc⟩ := (unhid HH).get (by intro e0; subst e0; simp at hlt)
      have c0 := ((hc k e he).below (unhid HB) hbl).c0
      have hpe := ((unhid HS).2 e (List.mem_of_getElem? he)).1
      have HST := hid (show neededB g (es.take (k + 1)) d = (neededB g (es.take k) d || (belowB d.data.toList e.path.data.toList && takenB g e)) by unfold neededB; rw [List.take_add_one, he, List.any_append]; simp)
      have HY := hid (show (belowB d.data.toList e.path.data.toList && takenB g e) = true → neededB g es d = true from fun h => List.any_eq_true.2 ⟨e, List.mem_of_getElem? he, h⟩)
      clear he hc
      cases hb : belowB d.data.toList e.path.data.toList
      · rw [hb] at HST
        go_wp2_with fail
        refine (l1Below_any d e.path (by unfold maxLen; omega) (by unfold maxLen; omega) _).mono ?_
        rintro x w2 ⟨rfl, e2⟩
        subst e2
        rw [hb]
        go_wp2_with fail
        go_roundw
        case rel => exact ⟨k + 1, by omega, by go_num, hid (by rw [unhid HST, unhid HNO]; rfl), HB⟩
        case measure => simp [intOf]; omega
      · rw [hb] at HST HY
        go_wp2_with fail
        refine (l1Below_any d e.path (by unfold maxLen; omega) (by unfold maxLen; omega) _).mono ?_
        rintro x w2 ⟨rfl, e2⟩
        subst e2
        rw [hb]
        go_wp2_with fail
        refine (specGlobHas_any g e.path hg hpe _).mono ?_
        rintro x w3 ⟨rfl, hb3⟩
        have HB3 := hid ((unhid HB).trans (hb3.mono (unhid HB).size))
        clear hb3 HB
        rw [show hasB g.data.toList e.path.data.toList = takenB g e from rfl]
        cases ht : takenB g e
        · rw [ht] at HST
          go_wp2_with fail
          go_roundw
          case rel => exact ⟨k + 1, by omega, by go_num, hid (by rw [unhid HST, unhid HNO]; rfl), HB3⟩
          case measure => simp [intOf]; omega
        · have E := hid (unhid HY (by rw [ht]; rfl))
          go_wp2_with fail
          go_ret
          exact ⟨by rw [unhid E]; rfl, unhid HB3⟩
    · have e : k = es.length := by omega
      subst e
      rw [List.take_of_length_le (Nat.le_refl _)] at HNO
      go_wp2_with fail
      go_ret
      exact ⟨by rw [unhid HNO]; rfl, unhid HB⟩

def keepB (g : ByteArray) (ks : List Ent) (e : Ent) : Bool := takenB g e || (e.kind == 1 && neededB g ks e.path)
def keptP (g : ByteArray) (ks : List Ent) (xs : List Ent) : List Ent := xs.filter (keepB g ks)
theorem keptP_yes {g : ByteArray} {ks es : List Ent} {k : Nat} {e : Ent} (he : es[k]? = some e) (h : keepB g ks e = true) : keptP g ks (es.take (k + 1)) = keptP g ks (es.take k) ++ [e] := by
  unfold keptP; rw [List.take_add_one, he, List.filter_append]; simp [h]
theorem keptP_no {g : ByteArray} {ks es : List Ent} {k : Nat} {e : Ent} (he : es[k]? = some e) (h : keepB g ks e = false) : keptP g ks (es.take (k + 1)) = keptP g ks (es.take k) := by
  unfold keptP; rw [List.take_add_one, he, List.filter_append]; simp [h]

set_option maxRecDepth 100000 in
set_option maxHeartbeats 4000000 in
theorem specTreePart_full (es : List Ent) (g : ByteArray) (b o cap : Nat) (w : World) (hs : smallE es) (hg : g.size ≤ 1048576) (h : ∀ (i : Nat) e, es[i]? = some e → EntAt w b (o + i * 4) e) (hb : b < w.heap.size) :
    Calls Try.prog 37 #[.slice (some ⟨b, o, none⟩) es.length cap, .string g] w fun x w' => ∃ v, x = .returned v ∧ w'.ownsRow w.heap.size 27 4 v (partR g es).length (valsOf (partR g es)) ∧ Below w.heap.size w w' ∧ SomeV v := by
  obtain ⟨i0, hi0, hz0, hzs, hzb⟩ := info_parts infoEntry
  have HI := hid (And.intro hi0 (And.intro hz0 (And.intro hzs hzb)))
  have hn := hs.1
  have HS := hid hs
  have HH := hid h
  have HF0 := hid (And.intro (owns_empty w w.heap.size (Nat.le_refl _) 27) ((Below.refl w.heap.size w).alloc (Nat.le_refl _) (.cells #[] 27)))
  clear hi0 hz0 hzs hzb hs h
  have atW : ∀ W, Below w.heap.size w W → EntsAt W (some ⟨b, o, none⟩) es := fun W hW => .inr ⟨b, o, rfl, Nat.lt_of_lt_of_le hb hW.size, entAt_below (unhid HH) (.inr hb) hW⟩
  have ATW := hid atW
  clear atW
  cases hT : treeB es
  · have E := hid (show partR g es = [] by unfold partR; rw [keptE_no hT]; rfl)
    by_cases h0 : es = []
    · subst h0
      go_enter Try.func37, Try.ntmps37
      go_wp2_with fail
      go_loopw [5, 6] (fun v i wr => i = .int .i64 0 ∧ v = .slice (some ⟨w.heap.size, 0, none⟩) 0 0 ∧ wr = w.alloc (.cells #[] 27)) (fun _ _ _ => 0)
      case atStart => exact ⟨rfl, rfl, rfl⟩
      case round =>
        obtain ⟨rfl, rfl, rfl⟩ := hrel
        go_wp2_with fail
        go_ret
        exact ⟨_, rfl, by rw [unhid E]; exact (unhid HF0).1, (unhid HF0).2, ⟨_, _, _, rfl⟩⟩
    · have hl0 : (0 : Int) < (es.length : Int) := by have := List.length_pos_iff.2 h0; omega
      clear h0
      go_enter Try.func37, Try.ntmps37
      go_wp2_with fail
      go_loopw [5, 6] (fun v i wr => i = .int .i64 0 ∧ v = .slice (some ⟨w.heap.size, 0, none⟩) 0 0 ∧ wr = w.alloc (.cells #[] 27)) (fun _ _ _ => 0)
      case atStart => exact ⟨rfl, rfl, rfl⟩
      case round =>
        obtain ⟨rfl, rfl, rfl⟩ := hrel
        go_wp2_with fail
        refine (specTreeOk_any es _ cap _ (unhid HS) (unhid ATW _ (unhid HF0).2)).mono ?_
        rintro x w2 ⟨rfl, hb2⟩
        rw [hT]
        have HF := hid (And.intro (ownsRow_kept (unhid HF0).1 (fun g e => hb2.block g ((unhid HF0).1.lt g e).2)) ((unhid HF0).2.trans (hb2.mono (unhid HF0).2.size)))
        clear hb2
        go_wp2_with fail
        go_ret
        exact ⟨_, rfl, by rw [unhid E]; exact (unhid HF).1, (unhid HF).2, ⟨_, _, _, rfl⟩⟩
  · have E := hid (show partR g es = keptP g es es by unfold partR; rw [keptE_yes hT]; rfl)
    have HT := hid hT
    clear hT
    go_enter Try.func37, Try.ntmps37
    go_wp2_with fail
    go_loopw [5, 6] (fun v i wr => ∃ k : Nat, k ≤ es.length ∧ i = .int .i64 (k : Int) ∧ Hid (wr.ownsRow w.heap.size 27 4 v (keptP g es (es.take k)).length (valsOf (keptP g es (es.take k)))) ∧ Hid (Below w.heap.size w wr) ∧ SomeV v) (fun _ i _ => es.length - (intOf i).toNat)
    case atStart => exact ⟨0, Nat.zero_le _, rfl, hid (by simp [keptP, valsOf]; exact (unhid HF0).1), hid (unhid HF0).2, ⟨_, _, _, rfl⟩⟩
    case round =>
      obtain ⟨k, hk, rfl, HO, HB, hsv⟩ := hrel
      obtain ⟨va, vc, rfl⟩ := ownsRow_slice (unhid HO)
      have HSV := hid hsv
      clear hsv
      by_cases hlt : k < es.length
      · obtain ⟨e, he⟩ : ∃ e, es[k]? = some e := ⟨es[k], List.getElem?_eq_getElem hlt⟩
        have hpe := ((unhid HS).2 e (List.mem_of_getElem? he)).1
        have hdl : (keptP g es (es.take k)).length ≤ es.length := Nat.le_trans (List.length_filter_le _ _) (by simp; omega)
        have HE := hid he
        have HY := hid (fun h => keptP_yes (g := g) (ks := es) he h)
        have HNO := hid (fun h => keptP_no (g := g) (ks := es) he h)
        clear he
        go_wp2_with fail
        refine (specTreeOk_any es _ cap _ (unhid HS) (unhid ATW _ (unhid HB))).mono ?_
        rintro x w2 ⟨rfl, hb2⟩
        rw [unhid HT]
        have HO2 := hid (ownsRow_kept (unhid HO) (fun g e => hb2.block g ((unhid HO).lt g e).2))
        have HB2 := hid ((unhid HB).trans (hb2.mono (unhid HB).size))
        clear hb2 HO HB
        obtain ⟨c0, c1, c2, c3⟩ := ((unhid HH) k e (unhid HE)).below (unhid HB2) hb
        go_wp2_with fail
        refine (specGlobHas_any g e.path hg hpe _).mono ?_
        rintro x w3 ⟨rfl, hb3⟩
        have HO3 := hid (ownsRow_kept (unhid HO2) (fun g e => hb3.block g ((unhid HO2).lt g e).2))
        have HB3 := hid ((unhid HB2).trans (hb3.mono (unhid HB2).size))
        clear hb3 HO2 HB2 c0 c1 c2 c3
        rw [show hasB g.data.toList e.path.data.toList = takenB g e from rfl]
        cases htk : takenB g e
        · cases hkb : (e.kind == 1)
          case true =>
            obtain ⟨c0, c1, c2, c3⟩ := ((unhid HH) k e (unhid HE)).below (unhid HB3) hb
            go_wp2_with fail
            refine (l2Needed_any es g e.path _ cap _ (unhid HS) hg hpe (unhid ATW _ (unhid HB3))).mono ?_
            rintro x w4 ⟨rfl, hb4⟩
            have HO4 := hid (ownsRow_kept (unhid HO3) (fun g e => hb4.block g ((unhid HO3).lt g e).2))
            have HB4 := hid ((unhid HB3).trans (hb4.mono (unhid HB3).size))
            clear hb4 HO3 HB3 c0 c1 c2 c3
            cases hnd : neededB g es e.path
            · have HYE := hid (unhid HNO (by unfold keepB; rw [htk, hkb, hnd]; rfl))
              obtain ⟨c0, c1, c2, c3⟩ := ((unhid HH) k e (unhid HE)).below (unhid HB4) hb
              go_wp2_with fail
              go_roundw
              case rel => exact ⟨k + 1, by omega, by go_num, hid (by rw [unhid HYE]; exact unhid HO4), HB4, unhid HSV⟩
              case measure => simp [intOf]; omega
            · have HYE := hid (unhid HY (by unfold keepB; rw [htk, hkb, hnd]; rfl))
              obtain ⟨c0, c1, c2, c3⟩ := ((unhid HH) k e (unhid HE)).below (unhid HB4) hb
              have hsz := (unhid HB4).size
              have HOa := hid ((unhid HO4).alloc (.cells #[.string e.path, .int .i64 e.kind, .int .i64 e.mode, .string e.text] 27))
              have HBa := hid ((unhid HB4).alloc hsz (.cells #[.string e.path, .int .i64 e.kind, .int .i64 e.mode, .string e.text] 27))
              go_wp2_with (at_builtin; refine wpList_append_own _ rfl _ _ 23 rfl w.heap.size 27 i0 _ 4 48 Try.underlying23 (unhid HI).1 (unhid HI).2.1 (unhid HI).2.2.1 (unhid HI).2.2.2 rfl (by decide) _ (keptP g es (es.take k)).length (valsOf (keptP g es (es.take k))) rfl (unhid HOa) ⟨w4.heap.size, 0, none⟩ 1 1 [.string e.path, .int .i64 e.kind, .int .i64 e.mode, .string e.text] rfl rfl (lit_cells w4 _ _ _ _ _) ?c2 ?c3 ?c4 ?c5 ?_)
              case c2 => intro u hu; simp at hu; rcases hu with rfl | rfl | rfl | rfl <;> rfl
              case c3 => unfold maxLen; omega
              case c4 => omega
              case c5 => simp; omega
              intro v' w9 hown hgr _
              obtain ⟨a2, cap2, rfl⟩ := ownsRow_slice hown
              have HF := hid (show w9.ownsRow w.heap.size 27 4 (.slice a2 ((keptP g es (es.take k)).length + 1) cap2) (keptP g es (es.take (k + 1))).length (valsOf (keptP g es (es.take (k + 1)))) ∧ Below w.heap.size w w9 from
                ⟨by rw [unhid HYE, List.length_append, valsOf_snoc]; exact hown, (unhid HBa).grown hgr (unhid HBa).size (fun k e => ((unhid HOa).lt k e).1)⟩)
              clear hown hgr
              go_wp2_with fail
              go_roundw
              case rel => exact ⟨k + 1, by omega, by go_num, hid (unhid HF).1, hid (unhid HF).2, owns_some (unhid HF).1 (by rw [unhid HYE]; simp)⟩
              case measure => simp [intOf]; omega
          case false =>
            have HYE := hid (unhid HNO (by unfold keepB; rw [htk, hkb]; rfl))
            obtain ⟨c0, c1, c2, c3⟩ := ((unhid HH) k e (unhid HE)).below (unhid HB3) hb
            go_wp2_with fail
            go_roundw
            case rel => exact ⟨k + 1, by omega, by go_num, hid (by rw [unhid HYE]; exact unhid HO3), HB3, unhid HSV⟩
            case measure => simp [intOf]; omega
        · have HYE := hid (unhid HY (by unfold keepB; rw [htk]; rfl))
          obtain ⟨c0, c1, c2, c3⟩ := ((unhid HH) k e (unhid HE)).below (unhid HB3) hb
          have hsz := (unhid HB3).size
          have HOa := hid ((unhid HO3).alloc (.cells #[.string e.path, .int .i64 e.kind, .int .i64 e.mode, .string e.text] 27))
          have HBa := hid ((unhid HB3).alloc hsz (.cells #[.string e.path, .int .i64 e.kind, .int .i64 e.mode, .string e.text] 27))
          go_wp2_with (at_builtin; refine wpList_append_own _ rfl _ _ 23 rfl w.heap.size 27 i0 _ 4 48 Try.underlying23 (unhid HI).1 (unhid HI).2.1 (unhid HI).2.2.1 (unhid HI).2.2.2 rfl (by decide) _ (keptP g es (es.take k)).length (valsOf (keptP g es (es.take k))) rfl (unhid HOa) ⟨w3.heap.size, 0, none⟩ 1 1 [.string e.path, .int .i64 e.kind, .int .i64 e.mode, .string e.text] rfl rfl (lit_cells w3 _ _ _ _ _) ?c2 ?c3 ?c4 ?c5 ?_)
          case c2 => intro u hu; simp at hu; rcases hu with rfl | rfl | rfl | rfl <;> rfl
          case c3 => unfold maxLen; omega
          case c4 => omega
          case c5 => simp; omega
          intro v' w9 hown hgr _
          obtain ⟨a2, cap2, rfl⟩ := ownsRow_slice hown
          have HF := hid (show w9.ownsRow w.heap.size 27 4 (.slice a2 ((keptP g es (es.take k)).length + 1) cap2) (keptP g es (es.take (k + 1))).length (valsOf (keptP g es (es.take (k + 1)))) ∧ Below w.heap.size w w9 from
            ⟨by rw [unhid HYE, List.length_append, valsOf_snoc]; exact hown, (unhid HBa).grown hgr (unhid HBa).size (fun k e => ((unhid HOa).lt k e).1)⟩)
          clear hown hgr
          go_wp2_with fail
          go_roundw
          case rel => exact ⟨k + 1, by omega, by go_num, hid (unhid HF).1, hid (unhid HF).2, owns_some (unhid HF).1 (by rw [unhid HYE]; simp)⟩
          case measure => simp [intOf]; omega
      · have e : k = es.length := by omega
        subst e
        rw [List.take_of_length_le (Nat.le_refl _)] at HO HSV ⊢
        go_wp2_with fail
        go_ret
        exact ⟨_, rfl, by rw [unhid E]; exact unhid HO, unhid HB, unhid HSV⟩
theorem specTreePart_any (es : List Ent) (g : ByteArray) (b o cap : Nat) (w : World) (hs : smallE es) (hg : g.size ≤ 1048576) (h : ∀ (i : Nat) e, es[i]? = some e → EntAt w b (o + i * 4) e) (hb : b < w.heap.size) :
    Calls Try.prog 37 #[.slice (some ⟨b, o, none⟩) es.length cap, .string g] w fun x w' => ∃ v, x = .returned v ∧ w'.ownsRow w.heap.size 27 4 v (partR g es).length (valsOf (partR g es)) ∧ Below w.heap.size w w' :=
  (specTreePart_full es g b o cap w hs hg h hb).mono (fun _ _ ⟨v, h1, h2, h3, _⟩ => ⟨v, h1, h2, h3⟩)
end Go.Proofs.Ytaefjibnnbdaaaa

/- How long a part of a tree is. -/
namespace Go.Proofs.Ytaefjibnnbdaaaa
open Go.RowKit

theorem partR_len (g : ByteArray) (es : List Ent) : (partR g es).length ≤ 100 := by
  have h1 := partL_len g (keptE es)
  have h2 := (kept_asc es).2
  unfold partR
  omega
end Go.Proofs.Ytaefjibnnbdaaaa
