/- Texts of this proof, one behind the other; each says at its head what it shows. -/
import Derived.Test.YtoihhlkidlapmaaGreatJoin1
import Derived.Test.YtoihhlkidlapmaaGreatJoin4
import Derived.Test.YtoihhlkidlapmaaGreatJoin2
import Derived.Maps.AppendAt
/- Pack: what the laws' own functions of it do. (Written by mkshape.py.) -/
namespace Go.Proofs.YtoihhlkidlapmaaGreat
open Go.RowKit Go.Shelf

structure PackD where
  name : ByteArray
  version : ByteArray
  needs : List needC.D
  tree : List entryC.D
def packC : CK := isoC (pairC txtC (pairC txtC (pairC (rowC needC 36) (rowC entryC 57)))) PackD (fun d => (d.name, (d.version, (d.needs, d.tree)))) (fun p => ⟨p.1, p.2.1, p.2.2.1, p.2.2.2⟩)
theorem packC_at {W : World} {cs : List Value} {d : PackD} (h : packC.at_ W cs d) : ∃ v2 v3 : Value, cs = [.string d.name, .string d.version, v2, v3] ∧ rowAt needC W v2 d.needs ∧ rowAt entryC W v3 d.tree := by
  obtain ⟨c0, e0, rfl, rfl, ⟨c1, e1, rfl, rfl, ⟨c2, e2, rfl, ⟨v2, rfl, h2⟩, ⟨v3, rfl, h3⟩⟩⟩⟩ := h
  exact ⟨v2, v3, rfl, h2, h3⟩
def packC_is (W : World) (cs : List Value) (d : PackD) (F : List Nat) : Prop := ∃ (v2 v3 : Value) (F2 F3 : List Nat), cs = [.string d.name, .string d.version, v2, v3] ∧ F = F2 ++ F3 ∧ rowOwn needC 36 W v2 d.needs F2 ∧ rowOwn entryC 57 W v3 d.tree F3 ∧ (∀ k ∈ F2, k ∉ F3)
theorem packC_own {W : World} {cs : List Value} {d : PackD} {F : List Nat} (h : packC.own W cs d F) : packC_is W cs d F := by
  obtain ⟨c0, e0, F0, G0, rfl, rfl, ⟨rfl, rfl⟩, ⟨c1, e1, F1, G1, rfl, rfl, ⟨rfl, rfl⟩, ⟨c2, e2, F2, G2, rfl, rfl, ⟨v2, rfl, h2⟩, ⟨v3, rfl, h3⟩, a2⟩, a1⟩, a0⟩ := h
  exact ⟨v2, v3, F2, _, rfl, by simp, h2, h3, fun k hk e => a2 k hk (by simp [e])⟩
theorem packC_mk {W : World} {cs : List Value} {d : PackD} {F : List Nat} (h : packC_is W cs d F) : packC.own W cs d F := by
  obtain ⟨v2, v3, F2, F3, rfl, rfl, h2, h3, a23⟩ := h
  exact ⟨[_], _, [], F2 ++ F3, rfl, by simp, ⟨rfl, rfl⟩, ⟨[_], _, [], F2 ++ F3, rfl, by simp, ⟨rfl, rfl⟩, ⟨[_], _, F2, F3, rfl, by simp, ⟨v2, rfl, h2⟩, ⟨v3, rfl, h3⟩, fun k hk => a23 k hk⟩, fun k hk => by cases hk⟩, fun k hk => by cases hk⟩
theorem packC_sz (d : PackD) : packC.sz d = d.name.size + d.version.size + (d.needs.length + szR needC d.needs) + (d.tree.length + szR entryC d.tree) := by
  show d.name.size + (d.version.size + ((d.needs.length + szR needC d.needs) + ((d.tree.length + szR entryC d.tree)))) = _
  omega

set_option maxRecDepth 100000 in
set_option maxHeartbeats 4000000 in
theorem vszPack_any (d : PackD) (cs : List Value) (left : Int) (w : World) (hb : packC.big d) (hl : 0 ≤ left) (hl2 : left ≤ 1048576) (h : packC.at_ w cs d) :
    Calls Tryz.prog 71 #[.agg cs.toArray, .int .i64 left] w fun x w' => (∃ r : Int, x = .returned (.int .i64 r) ∧ r ≤ left ∧ (r < 0 ∨ r + packC.sz d = left)) ∧ Below w.heap.size w w' := by
  rw [packC_sz]
  obtain ⟨v2, v3, rfl, h2, h3⟩ := packC_at h
  obtain ⟨name, version, needs, tree⟩ := d
  dsimp only at *
  obtain ⟨b0, b1, b2, b3⟩ := hb
  have b0' : name.size ≤ 9223372036854775807 := b0
  have b1' : version.size ≤ 9223372036854775807 := b1
  have H2 := hid h2
  have B2 := hid b2
  have H3 := hid h3
  have B3 := hid b3
  clear h h2 h3 b0 b1 b2 b3
  have HB := hid (show ∀ o, Below w.heap.size w (w.alloc o) from fun o => (Below.refl _ w).alloc (Nat.le_refl _) o)
  go_enter Tryz.func71, Tryz.ntmps71
  by_cases g0 : left - (name.size : Int) < 0
  · go_wp2_with fail
    go_ret
    exact ⟨⟨-1, rfl, by omega, .inl (by omega)⟩, unhid HB _⟩
  by_cases g1 : (left - (name.size : Int)) - (version.size : Int) < 0
  · go_wp2_with fail
    go_ret
    exact ⟨⟨-1, rfl, by omega, .inl (by omega)⟩, unhid HB _⟩
  go_wp2_with fail
  refine (vszNeedS_any needs v2 ((left - (name.size : Int)) - (version.size : Int)) _ (unhid B2) (by omega) (by omega) ((unhid H2).below (unhid HB _))).mono ?_
  rintro x w2 ⟨⟨r2, rfl, q2a, q2b⟩, hb⟩
  have HBy := hid ((unhid HB _).trans (hb.mono (unhid HB _).size))
  have k3 : w2.cell? ⟨w.heap.size, 3, none⟩ = some v3 := (hb.cell (p := ⟨w.heap.size, 3, none⟩) (by simp)).trans (cell_arrS (World.alloc_heap_new w _) _ _ rfl)
  have hlt : w.heap.size < w2.heap.size := by have := hb.size; simp at this; omega
  clear hb
  have HBx := HBy
  clear HBy
  have Q2 := hid q2b
  clear q2b
  by_cases g2 : r2 < 0
  · go_wp2_with fail
    go_ret
    exact ⟨⟨-1, rfl, by omega, .inl (by omega)⟩, unhid HBx⟩
  go_wp2_with fail
  refine (vszEntryS_any tree v3 r2 _ (unhid B3) (by omega) (by omega) ((unhid H3).below (unhid HBx))).mono ?_
  rintro x w3 ⟨⟨r3, rfl, q3a, q3b⟩, hb⟩
  have HBy := hid ((unhid HBx).trans (hb.mono (unhid HBx).size))
  have hlt : w.heap.size < w3.heap.size := by have := hb.size; omega
  clear hb HBx
  have HBx := HBy
  clear HBy
  have Q3 := hid q3b
  clear q3b
  by_cases g3 : r3 < 0
  · go_wp2_with fail
    go_ret
    exact ⟨⟨-1, rfl, by omega, .inl (by omega)⟩, unhid HBx⟩
  go_wp2_with fail
  go_ret
  exact ⟨⟨r3, rfl, by omega, .inr (by have t2 := (unhid Q2).resolve_left (by omega); have t3 := (unhid Q3).resolve_left (by omega); omega)⟩, unhid HBx⟩

set_option maxRecDepth 100000 in
set_option maxHeartbeats 4000000 in
theorem vszPackS_any (ds : List packC.D) (v : Value) (left : Int) (w : World) (hb : ds.length ≤ maxLen ∧ ∀ d ∈ ds, packC.big d) (hl : 0 ≤ left) (hl2 : left ≤ 1048576) (h : rowAt packC w v ds) :
    Calls Tryz.prog 23 #[v, .int .i64 left] w fun x w' => (∃ r : Int, x = .returned (.int .i64 r) ∧ r ≤ left ∧ (r < 0 ∨ r + (ds.length + szR packC ds) = left)) ∧ Below w.heap.size w w' := by
  obtain ⟨a, cap, rfl, -, -, h⟩ := h
  obtain ⟨hlen0, hz⟩ := hb
  have hlen : ds.length ≤ 9223372036854775807 := hlen0
  clear hlen0
  have HZ := hid hz
  have H := hid h
  clear hz h
  by_cases h0 : left - (ds.length : Int) < 0
  · go_enter Tryz.func23, Tryz.ntmps23
    go_wp2_with fail
    go_ret
    exact ⟨⟨-1, rfl, by omega, .inl (by omega)⟩, Below.refl _ _⟩
  · go_enter Tryz.func23, Tryz.ntmps23
    go_wp2_with fail
    go_loopw [1, 5] (fun l i wr => ∃ (k : Nat) (q : Int), k ≤ ds.length ∧ i = .int .i64 k ∧ l = .int .i64 q ∧ 0 ≤ q ∧ Hid (q + ds.length + szR packC (ds.take k) = left) ∧ q ≤ left ∧ Hid (Below w.heap.size w wr)) (fun _ i _ => ds.length - (intOf i).toNat)
    case atStart => exact ⟨0, _, Nat.zero_le _, rfl, rfl, by omega, hid (by simp [szR]), by omega, hid (Below.refl _ _)⟩
    case round =>
      obtain ⟨k, q, hk, rfl, rfl, hq, hsum, hq2, HB⟩ := hrel
      by_cases hlt : k < ds.length
      · obtain ⟨e, he⟩ : ∃ e, ds[k]? = some e := ⟨ds[k], List.getElem?_eq_getElem hlt⟩
        obtain ⟨b, o, rfl, hbl, hc⟩ := (unhid H).resolve_left (by intro e; subst e; simp at hlt)
        obtain ⟨cs, hat, hcell⟩ := hc k e he
        have HAT := hid (packC.below hat (unhid HB))
        have hcs := packC_at hat
        have HS := hid (szR_take packC ds k e he)
        have HM := hid (List.mem_of_getElem? he)
        obtain ⟨v2, v3, rfl, -, -⟩ := hcs
        have c0 : wr.cell? ⟨b, o + k * 4, none⟩ = some (.string e.name) := ((unhid HB).cell (p := ⟨b, o + k * 4 + 0, none⟩) hbl).trans (hcell 0 _ rfl)
        have c1 : wr.cell? ⟨b, o + k * 4 + 1, none⟩ = some (.string e.version) := ((unhid HB).cell (p := ⟨b, o + k * 4 + 1, none⟩) hbl).trans (hcell 1 _ rfl)
        have c2 : wr.cell? ⟨b, o + k * 4 + 2, none⟩ = some (v2) := ((unhid HB).cell (p := ⟨b, o + k * 4 + 2, none⟩) hbl).trans (hcell 2 _ rfl)
        have c3 : wr.cell? ⟨b, o + k * 4 + 3, none⟩ = some (v3) := ((unhid HB).cell (p := ⟨b, o + k * 4 + 3, none⟩) hbl).trans (hcell 3 _ rfl)
        clear hc he hat hcell hbl
        go_wp2_with fail
        refine (vszPack_any e _ q _ (unhid HZ e (unhid HM)) hq (by omega) (unhid HAT)).mono ?_
        rintro x w2 ⟨⟨r, rfl, hr1, hr2⟩, hb⟩
        have HB2 := hid ((unhid HB).trans (hb.mono (unhid HB).size))
        have HR := hid hr2
        clear hb hr2 c0 c1 c2 c3
        by_cases hr0 : r < 0
        · go_wp2_with fail
          go_ret
          exact ⟨⟨-1, rfl, by omega, .inl (by omega)⟩, unhid HB2⟩
        · go_wp2_with fail
          go_roundw
          case rel => exact ⟨k + 1, r, by omega, by go_num, rfl, by omega, hid (by have h1 := (unhid HR).resolve_left (by omega); have h2 := unhid hsum; rw [unhid HS]; omega), by omega, HB2⟩
          case measure => simp [intOf]; omega
      · have e : k = ds.length := by omega
        subst e
        go_wp2_with fail
        go_ret
        exact ⟨⟨q, rfl, by omega, .inr (by have h2 := unhid hsum; rw [List.take_length] at h2; omega)⟩, unhid HB⟩

set_option maxRecDepth 100000 in
set_option maxHeartbeats 4000000 in
theorem vtoPack_any (d : PackD) (cs : List Value) (w : World) (hs : packC.sz d ≤ 1048576) (h : packC.at_ w cs d) :
    Calls Tryz.prog 72 #[.agg cs.toArray] w fun x w' => ∃ (cs' : List Value) (F : List Nat), x = .returned (.agg cs'.toArray) ∧ packC.own w' cs' d F ∧ (∀ k ∈ F, w.heap.size ≤ k ∧ k < w'.heap.size) ∧ Below w.heap.size w w' := by
  rw [packC_sz] at hs
  obtain ⟨v2, v3, rfl, h2, h3⟩ := packC_at h
  obtain ⟨name, version, needs, tree⟩ := d
  dsimp only at *
  have H2 := hid h2
  have H3 := hid h3
  clear h h2 h3
  go_enter Tryz.func72, Tryz.ntmps72
  go_wp2_with fail
  obtain ⟨hP, hR, hO, hS, hB⟩ := three_boxes w (.cells #[.string name, .string version, v2, v3] 103) (.cells #[.string ⟨#[]⟩, .string ⟨#[]⟩, .slice none 0 0, .slice none 0 0] 34) (.cells #[.string name, .string version, .slice none 0 0, .slice none 0 0] 34)
  generalize ((w.alloc (.cells #[.string name, .string version, v2, v3] 103)).alloc (.cells #[.string ⟨#[]⟩, .string ⟨#[]⟩, .slice none 0 0, .slice none 0 0] 34)).alloc (.cells #[.string name, .string version, .slice none 0 0, .slice none 0 0] 34) = W0 at hP hR hO hS hB ⊢
  have JP := hid hP
  clear hP
  have JR := hid hR
  clear hR
  have JO := hid hO
  clear hO
  have JS := hid hS
  clear hS
  have JB := hid hB
  clear hB
  refine (vtoNeedS_any needs v2 W0 (by omega) ((unhid H2).below (unhid JB))).mono ?_
  rintro x w2 ⟨uu, F2, rfl, hown, hfr, hb⟩
  obtain ⟨ua2, uc2, hu⟩ := rowOwn.slice hown
  subst hu
  have hP := (hb.block _ (by have := unhid JS; omega)).trans (unhid JP)
  have hR := (hb.block _ (by have := unhid JS; omega)).trans (unhid JR)
  have hO := (hb.block _ (by have := unhid JS; omega)).trans (unhid JO)
  have hS := Nat.lt_of_lt_of_le (unhid JS) hb.size
  have hB := (unhid JB).trans (hb.mono (unhid JB).size)
  have X2 := hid hown
  have Y2 := hid (show ∀ k ∈ F2, w.heap.size + 1 + 1 < k ∧ k < w2.heap.size from fun k hk => ⟨Nat.lt_of_lt_of_le (unhid JS) (hfr k hk).1, (hfr k hk).2⟩)
  clear hown hfr hb JP JR JO JS JB
  obtain ⟨o0, p0⟩ := cell_fz hO 0 _ rfl
  obtain ⟨o1, p1⟩ := cell_fz hO 1 _ rfl
  obtain ⟨o2, p2⟩ := cell_fz hO 2 _ rfl
  obtain ⟨o3, p3⟩ := cell_fz hO 3 _ rfl
  have kk : (w2.setCell ⟨w.heap.size + 1 + 1, 2, none⟩ (.slice ua2 needs.length uc2)).cell? ⟨w.heap.size, 3, none⟩ = some v3 := by rw [World.cell?_setCell_other _ _ _ _ (by simp)]; exact cell_arrS hP 3 _ rfl
  skip
  go_wp2_with fail
  have hP := (Below.heap_setCell w2 ⟨w.heap.size + 1 + 1, 2, none⟩ (.slice ua2 needs.length uc2) w.heap.size (by dsimp only; omega)).trans hP
  have hR := (Below.heap_setCell w2 ⟨w.heap.size + 1 + 1, 2, none⟩ (.slice ua2 needs.length uc2) (w.heap.size + 1) (by dsimp only; omega)).trans hR
  have hO : (w2.setCell ⟨w.heap.size + 1 + 1, 2, none⟩ (.slice ua2 needs.length uc2)).heap[w.heap.size + 1 + 1]? = some (.cells #[.string name, .string version, (.slice ua2 needs.length uc2), .slice none 0 0] 34 (0, 0)) := heap_setCell_same w2 (w.heap.size + 1 + 1) 2 _ _ (.slice ua2 needs.length uc2) hO
  have hS : w.heap.size + 1 + 1 < (w2.setCell ⟨w.heap.size + 1 + 1, 2, none⟩ (.slice ua2 needs.length uc2)).heap.size := by simpa using hS
  have hB : Below w.heap.size w (w2.setCell ⟨w.heap.size + 1 + 1, 2, none⟩ (.slice ua2 needs.length uc2)) := hB.setCell (by dsimp only; omega) _
  have X2 := hid (rowOwn.frame (W' := w2.setCell ⟨w.heap.size + 1 + 1, 2, none⟩ (.slice ua2 needs.length uc2)) (unhid X2) (fun k hk => Below.heap_setCell _ _ _ _ (by have := ((unhid Y2) k hk).1; dsimp only; omega)))
  have Y2 := hid (show ∀ k ∈ F2, w.heap.size + 1 + 1 < k ∧ k < (w2.setCell ⟨w.heap.size + 1 + 1, 2, none⟩ (.slice ua2 needs.length uc2)).heap.size from fun k hk => by have := (unhid Y2) k hk; simpa using this)
  clear kk o0 p0 o1 p1 o2 p2 o3 p3
  generalize w2.setCell ⟨w.heap.size + 1 + 1, 2, none⟩ (.slice ua2 needs.length uc2) = W3 at *
  have YY2 := hid (show ∀ k ∈ F2, k < W3.heap.size from fun k hk => ((unhid Y2) k hk).2)
  have JP := hid hP
  clear hP
  have JR := hid hR
  clear hR
  have JO := hid hO
  clear hO
  have JS := hid hS
  clear hS
  have JB := hid hB
  clear hB
  refine (vtoEntryS_any tree v3 W3 (by omega) ((unhid H3).below (unhid JB))).mono ?_
  rintro x w3 ⟨uu, F3, rfl, hown, hfr, hb⟩
  obtain ⟨ua3, uc3, hu⟩ := rowOwn.slice hown
  subst hu
  have hP := (hb.block _ (by have := unhid JS; omega)).trans (unhid JP)
  have hR := (hb.block _ (by have := unhid JS; omega)).trans (unhid JR)
  have hO := (hb.block _ (by have := unhid JS; omega)).trans (unhid JO)
  have hS := Nat.lt_of_lt_of_le (unhid JS) hb.size
  have hB := (unhid JB).trans (hb.mono (unhid JB).size)
  have X2 := hid (rowOwn.frame (unhid X2) (fun k hk => hb.block k ((unhid Y2) k hk).2))
  have Y2 := hid (show ∀ k ∈ F2, w.heap.size + 1 + 1 < k ∧ k < w3.heap.size from fun k hk => ⟨((unhid Y2) k hk).1, Nat.lt_of_lt_of_le ((unhid Y2) k hk).2 hb.size⟩)
  have D23 := hid (show ∀ k ∈ F2, k ∉ F3 from fun k hk e => by have h1 := (hfr k e).1; have h2 := (unhid YY2) k hk; omega)
  have X3 := hid hown
  have Y3 := hid (show ∀ k ∈ F3, w.heap.size + 1 + 1 < k ∧ k < w3.heap.size from fun k hk => ⟨Nat.lt_of_lt_of_le (unhid JS) (hfr k hk).1, (hfr k hk).2⟩)
  clear hown hfr hb JP JR JO JS JB
  obtain ⟨o0, p0⟩ := cell_fz hO 0 _ rfl
  obtain ⟨o1, p1⟩ := cell_fz hO 1 _ rfl
  obtain ⟨o2, p2⟩ := cell_fz hO 2 _ rfl
  obtain ⟨o3, p3⟩ := cell_fz hO 3 _ rfl
  obtain ⟨r0, q0⟩ := cell_fz hR 0 _ rfl
  obtain ⟨r1, q1⟩ := cell_fz hR 1 _ rfl
  obtain ⟨r2, q2⟩ := cell_fz hR 2 _ rfl
  obtain ⟨r3, q3⟩ := cell_fz hR 3 _ rfl
  go_wp2_with fail
  have hsame : ∀ k, k ≠ w.heap.size + 1 + 1 → k ≠ w.heap.size + 1 → (((((w3.setCell ⟨w.heap.size + 1 + 1, 3, none⟩ ((.slice ua3 tree.length uc3))).setCell ⟨w.heap.size + 1, 0, none⟩ (.string name)).setCell ⟨w.heap.size + 1, 1, none⟩ (.string version)).setCell ⟨w.heap.size + 1, 2, none⟩ ((.slice ua2 needs.length uc2))).setCell ⟨w.heap.size + 1, 3, none⟩ ((.slice ua3 tree.length uc3))).heap[k]? = w3.heap[k]? := fun k h1 h2 => by rw [Below.heap_setCell _ _ _ _ (by exact h2), Below.heap_setCell _ _ _ _ (by exact h2), Below.heap_setCell _ _ _ _ (by exact h2), Below.heap_setCell _ _ _ _ (by exact h2), Below.heap_setCell _ _ _ _ (by exact h1)]
  have hfin : Below w.heap.size w (((((w3.setCell ⟨w.heap.size + 1 + 1, 3, none⟩ ((.slice ua3 tree.length uc3))).setCell ⟨w.heap.size + 1, 0, none⟩ (.string name)).setCell ⟨w.heap.size + 1, 1, none⟩ (.string version)).setCell ⟨w.heap.size + 1, 2, none⟩ ((.slice ua2 needs.length uc2))).setCell ⟨w.heap.size + 1, 3, none⟩ ((.slice ua3 tree.length uc3))) := (((((hB.setCell (by dsimp only; omega) _).setCell (by dsimp only; omega) _).setCell (by dsimp only; omega) _).setCell (by dsimp only; omega) _).setCell (by dsimp only; omega) _)
  refine bodyPost_ret (v := .agg #[.string name, .string version, (.slice ua2 needs.length uc2), (.slice ua3 tree.length uc3)]) (by simp [results, Tryz.results72, go_sem, World.cell?_setCell_same', r0, r1, r2, r3]) rfl ⟨[.string name, .string version, (.slice ua2 needs.length uc2), (.slice ua3 tree.length uc3)], F2 ++ F3, rfl, packC_mk ⟨_, _, F2, F3, rfl, rfl, rowOwn.frame (unhid X2) (fun k hk => hsame k (by have := ((unhid Y2) k hk).1; omega) (by have := ((unhid Y2) k hk).1; omega)), rowOwn.frame (unhid X3) (fun k hk => hsame k (by have := ((unhid Y3) k hk).1; omega) (by have := ((unhid Y3) k hk).1; omega)), unhid D23⟩, ?_, hfin⟩
  intro k hk
  have hsz : (((((w3.setCell ⟨w.heap.size + 1 + 1, 3, none⟩ ((.slice ua3 tree.length uc3))).setCell ⟨w.heap.size + 1, 0, none⟩ (.string name)).setCell ⟨w.heap.size + 1, 1, none⟩ (.string version)).setCell ⟨w.heap.size + 1, 2, none⟩ ((.slice ua2 needs.length uc2))).setCell ⟨w.heap.size + 1, 3, none⟩ ((.slice ua3 tree.length uc3))).heap.size = w3.heap.size := by simp
  rw [hsz]
  simp only [List.mem_append] at hk
  rcases hk with hk | hk
  · have := (unhid Y2) k hk
    omega
  · have := (unhid Y3) k hk
    omega

theorem vinfoPack : (Tryz.prog.info? 34).map (fun i => (i.zero, i.size, i.bytes)) = some (some (.agg #[.string ⟨#[]⟩, .string ⟨#[]⟩, .slice none 0 0, .slice none 0 0]), 4, 80) := by kernel_rfl
theorem vmkPackS (W : World) (n : Nat) (hn : n ≤ 1048576) : ∃ M : Array Value, (Instr.makeSlice 23 (.int .i64 (n : Int)) (.int .i64 (n : Int))).run Tryz.prog W = .ok (.slice (some ⟨W.heap.size, 0, .none⟩) n n) (W.alloc (.cells M 34)) ∧ M.size = n * 4 := by
  obtain ⟨i, hi, hz0, hz1, hz2⟩ := info_parts vinfoPack
  refine ⟨madeCells #[.string ⟨#[]⟩, .string ⟨#[]⟩, .slice none 0 0, .slice none 0 0] (n * 4), ?_, by simp [madeCells]⟩
  have := run_make (P := Tryz.prog) W 23 34 i _ Tryz.underlying23 hi hz0 .i64 .i64 n n (by omega) (Int.le_refl _) (by rw [hz2]; omega) (by omega)
  simpa [hz1, Value.cells] using this
set_option maxRecDepth 100000 in
set_option maxHeartbeats 4000000 in
theorem vtoPackS_any (ds : List packC.D) (v : Value) (w : World) (hs : ds.length + szR packC ds ≤ 1048576) (h : rowAt packC w v ds) :
    Calls Tryz.prog 25 #[v] w fun x w' => ∃ (u : Value) (F : List Nat), x = .returned u ∧ rowOwn packC 34 w' u ds F ∧ (∀ k ∈ F, w.heap.size ≤ k ∧ k < w'.heap.size) ∧ Below w.heap.size w w' := by
  obtain ⟨a, cap, rfl, -, -, h⟩ := h
  obtain ⟨M, hmk, hM⟩ := vmkPackS w ds.length (by omega)
  have H := hid h
  have HM := hid hM
  have HS := hid hs
  have hlen : ds.length ≤ 1048576 := by omega
  clear h hM hs
  go_enter Tryz.func25, Tryz.ntmps25
  go_wp2_with fail
  clear hmk
  have hB0 : Below w.heap.size w (w.alloc (.cells M 34)) := (Below.refl _ _).alloc (Nat.le_refl _) _
  have hN0 := World.alloc_heap_new w (.cells M 34)
  generalize w.alloc (.cells M 34) = wq at hB0 hN0 ⊢
  have HR := hid hN0
  clear hN0
  go_loopw [4] (fun i wr => ∃ k : Nat, k ≤ ds.length ∧ i = .int .i64 k ∧ Hid (∃ Fs, RowPart packC 34 wr w.heap.size ds.length k ds Fs ∧ ∀ j ∈ Fs.flatten, w.heap.size < j) ∧ Hid (Below w.heap.size w wr)) (fun i _ => ds.length - (intOf i).toNat)
  case atStart => exact ⟨0, Nat.zero_le _, rfl, hid ⟨[], ⟨⟨M, ⟨unhid HR, by simp, by simp, fun i x hi => by simp at hi⟩, unhid HM⟩, by simp⟩, fun j hj => by simp at hj⟩, hid hB0⟩
  case round =>
    clear HR hB0 HM
    obtain ⟨k, hk, rfl, HD, HB⟩ := hrel
    by_cases hlt : k < ds.length
    · obtain ⟨e, he⟩ : ∃ e, ds[k]? = some e := ⟨ds[k], List.getElem?_eq_getElem hlt⟩
      obtain ⟨b, o, rfl, hbl, hc⟩ := (unhid H).resolve_left (by intro e; subst e; simp at hlt)
      obtain ⟨cs, hat, hcell⟩ := hc k e he
      have HAT := hid (packC.below hat (unhid HB))
      have hcs := packC_at hat
      have hse : packC.sz e ≤ 1048576 := by have h1 := szR_mem (List.mem_of_getElem? he); have h2 := unhid HS; omega
      obtain ⟨v2, v3, rfl, -, -⟩ := hcs
      have c0 : wr.cell? ⟨b, o + k * 4, none⟩ = some (.string e.name) := ((unhid HB).cell (p := ⟨b, o + k * 4 + 0, none⟩) hbl).trans (hcell 0 _ rfl)
      have c1 : wr.cell? ⟨b, o + k * 4 + 1, none⟩ = some (.string e.version) := ((unhid HB).cell (p := ⟨b, o + k * 4 + 1, none⟩) hbl).trans (hcell 1 _ rfl)
      have c2 : wr.cell? ⟨b, o + k * 4 + 2, none⟩ = some (v2) := ((unhid HB).cell (p := ⟨b, o + k * 4 + 2, none⟩) hbl).trans (hcell 2 _ rfl)
      have c3 : wr.cell? ⟨b, o + k * 4 + 3, none⟩ = some (v3) := ((unhid HB).cell (p := ⟨b, o + k * 4 + 3, none⟩) hbl).trans (hcell 3 _ rfl)
      have HE := hid he
      have HSE := hid hse
      clear hc he hat hcell hbl hse
      go_wp2_with fail
      refine (vtoPack_any e _ _ (unhid HSE) (unhid HAT)).mono ?_
      rintro x w2 ⟨cs', Fk, rfl, hown, hfr, hb⟩
      have HOWN := hid hown
      obtain ⟨u2, u3, _, _, rfl, -, x2, x3, -⟩ := packC_own hown
      obtain ⟨ua2, uc2, rfl⟩ := rowOwn.slice x2
      obtain ⟨ua3, uc3, rfl⟩ := rowOwn.slice x3
      obtain ⟨Fs, hp, hfl⟩ := unhid HD
      obtain ⟨⟨y0, d0⟩, f0⟩ := part_cell (n := 4) rfl hp hb hlt 0 (by omega)
      obtain ⟨⟨y1, d1⟩, f1⟩ := part_cell (n := 4) rfl hp hb hlt 1 (by omega)
      obtain ⟨⟨y2, d2⟩, f2⟩ := part_cell (n := 4) rfl hp hb hlt 2 (by omega)
      obtain ⟨⟨y3, d3⟩, f3⟩ := part_cell (n := 4) rfl hp hb hlt 3 (by omega)
      rw [Nat.add_zero] at d0 f0
      have HF := hid (copy_store rfl hp hfl (Nat.le_refl _) (unhid HE) hb (unhid HOWN) (fun j hj => (hfr j hj).1))
      have HB2 := hid ((unhid HB).trans (hb.mono (unhid HB).size))
      have HB3 := hid (setsW_below [.string e.name, .string e.version, (.slice ua2 e.needs.length uc2), (.slice ua3 e.tree.length uc3)] w w2 w.heap.size w.heap.size (k * 4) (unhid HB2) (Nat.le_refl _))
      clear hb hown HOWN HD HB HB2 hp hfl hfr c0 c1 c2 c3 x2 x3
      go_wp2_with fail
      go_roundw
      case rel => exact ⟨k + 1, by omega, by go_num, HF, HB3⟩
      case measure => simp [intOf]; omega
    · have e : k = ds.length := by omega
      subst e
      go_wp2_with fail
      go_ret
      obtain ⟨Fs, ⟨⟨cur, hA, hsz⟩, hnd⟩, hfl⟩ := unhid HD
      rw [List.take_of_length_le (Nat.le_refl _)] at hA
      refine ⟨_, w.heap.size :: Fs.flatten, rfl, .inr ⟨w.heap.size, ds.length, cur, Fs, rfl, Nat.le_refl _, rfl, hnd, hA⟩, fun j hj => ⟨?_, hA.lt j hj⟩, unhid HB⟩
      rcases List.mem_cons.1 hj with rfl | hj
      · exact Nat.le_refl _
      · exact Nat.le_of_lt (hfl j hj)

set_option maxRecDepth 100000 in
set_option maxHeartbeats 4000000 in
theorem veqPack_same (d : PackD) (cs cs' : List Value) (w : World) (hb : packC.big d) (h : packC.at_ w cs d) (h' : packC.at_ w cs' d) :
    Calls Tryz.prog 73 #[.agg cs.toArray, .agg cs'.toArray] w fun r w' => r = .returned (.bool true) ∧ Below w.heap.size w w' := by
  obtain ⟨v2, v3, rfl, h2, h3⟩ := packC_at h
  obtain ⟨u2, u3, rfl, g2, g3⟩ := packC_at h'
  obtain ⟨name, version, needs, tree⟩ := d
  dsimp only at *
  obtain ⟨hb0, hb1, hb2, hb3⟩ := hb
  have H2 := hid h2
  have G2 := hid g2
  have B2 := hid hb2
  have H3 := hid h3
  have G3 := hid g3
  have B3 := hid hb3
  clear h h' hb0 hb1 hb2 hb3 h2 g2 h3 g3
  have HW := hid (alloc2_below w)
  have s0 := txt_selfS name
  have s1 := txt_selfS version
  go_enter Tryz.func73, Tryz.ntmps73
  go_wp2_with fail
  obtain ⟨hP, hR, hS⟩ := two_boxes w (.cells #[.string name, .string version, v2, v3] 34) (.cells #[.string name, .string version, u2, u3] 34)
  have hB := (unhid HW) (.cells #[.string name, .string version, v2, v3] 34) (.cells #[.string name, .string version, u2, u3] 34)
  generalize (w.alloc (.cells #[.string name, .string version, v2, v3] 34)).alloc (.cells #[.string name, .string version, u2, u3] 34) = W0 at hP hR hS hB ⊢
  have JP := hid hP
  clear hP
  have JR := hid hR
  clear hR
  have JS := hid hS
  clear hS
  have JB := hid hB
  clear hB
  refine (veqNeedS_same needs v2 u2 W0 (unhid B2) ((unhid H2).below (unhid JB)) ((unhid G2).below (unhid JB))).mono ?_
  rintro x w2 ⟨rfl, hb⟩
  have hP := (hb.block _ (by have := unhid JS; omega)).trans (unhid JP)
  have hR := (hb.block _ (by have := unhid JS; omega)).trans (unhid JR)
  have hS := Nat.lt_of_lt_of_le (unhid JS) hb.size
  have hB := (unhid JB).trans (hb.mono (unhid JB).size)
  clear hb JP JR JS JB
  have k3 := cell_arrS hP 3 _ rfl
  have l3 := cell_arrS hR 3 _ rfl
  go_wp2_with fail
  clear k3 l3
  have JP := hid hP
  clear hP
  have JR := hid hR
  clear hR
  have JS := hid hS
  clear hS
  have JB := hid hB
  clear hB
  refine (veqEntryS_same tree v3 u3 w2 (unhid B3) ((unhid H3).below (unhid JB)) ((unhid G3).below (unhid JB))).mono ?_
  rintro x w3 ⟨rfl, hb⟩
  have hP := (hb.block _ (by have := unhid JS; omega)).trans (unhid JP)
  have hR := (hb.block _ (by have := unhid JS; omega)).trans (unhid JR)
  have hS := Nat.lt_of_lt_of_le (unhid JS) hb.size
  have hB := (unhid JB).trans (hb.mono (unhid JB).size)
  clear hb JP JR JS JB
  go_wp2_with fail
  go_ret
  exact ⟨rfl, hB⟩

set_option maxRecDepth 100000 in
set_option maxHeartbeats 4000000 in
theorem veqPackS_same (ds : List packC.D) (v v' : Value) (w : World) (hb : ds.length ≤ maxLen ∧ ∀ d ∈ ds, packC.big d) (h : rowAt packC w v ds) (h2 : rowAt packC w v' ds) :
    Calls Tryz.prog 28 #[v, v'] w fun r w' => r = .returned (.bool true) ∧ Below w.heap.size w w' := by
  obtain ⟨a, cap, rfl, -, -, h⟩ := h
  obtain ⟨a2, cap2, rfl, -, -, h2⟩ := h2
  obtain ⟨hlen0, hz⟩ := hb
  have hlen : ds.length ≤ 9223372036854775807 := hlen0
  have hl' : ((ds.length : Int) != (ds.length : Int)) = false := by simp
  have HZ := hid hz
  have H := hid h
  have G := hid h2
  clear hz h h2 hlen0
  go_enter Tryz.func28, Tryz.ntmps28
  go_wp2_with fail
  go_loopw [5] (fun i wr => ∃ k : Nat, k ≤ ds.length ∧ i = .int .i64 k ∧ Hid (Below w.heap.size w wr)) (fun i _ => ds.length - (intOf i).toNat)
  case atStart => exact ⟨0, Nat.zero_le _, rfl, hid (Below.refl _ _)⟩
  case round =>
    obtain ⟨k, hk, rfl, HB⟩ := hrel
    by_cases hlt : k < ds.length
    · obtain ⟨e, he⟩ : ∃ e, ds[k]? = some e := ⟨ds[k], List.getElem?_eq_getElem hlt⟩
      obtain ⟨b, o, rfl, hbl, hc⟩ := (unhid H).resolve_left (by intro e; subst e; simp at hlt)
      obtain ⟨b2, o2, rfl, hbl2, hc2⟩ := (unhid G).resolve_left (by intro e; subst e; simp at hlt)
      obtain ⟨cs, hat, hcell⟩ := hc k e he
      obtain ⟨cs2, hat2, hcell2⟩ := hc2 k e he
      have HAT := hid (packC.below hat (unhid HB))
      have HAT2 := hid (packC.below hat2 (unhid HB))
      have hcs := packC_at hat
      have hcs2 := packC_at hat2
      obtain ⟨v2, v3, rfl, -, -⟩ := hcs
      obtain ⟨u2, u3, rfl, -, -⟩ := hcs2
      have c0 : wr.cell? ⟨b, o + k * 4, none⟩ = some (.string e.name) := ((unhid HB).cell (p := ⟨b, o + k * 4 + 0, none⟩) hbl).trans (hcell 0 _ rfl)
      have g0 : wr.cell? ⟨b2, o2 + k * 4, none⟩ = some (.string e.name) := ((unhid HB).cell (p := ⟨b2, o2 + k * 4 + 0, none⟩) hbl2).trans (hcell2 0 _ rfl)
      have c1 : wr.cell? ⟨b, o + k * 4 + 1, none⟩ = some (.string e.version) := ((unhid HB).cell (p := ⟨b, o + k * 4 + 1, none⟩) hbl).trans (hcell 1 _ rfl)
      have g1 : wr.cell? ⟨b2, o2 + k * 4 + 1, none⟩ = some (.string e.version) := ((unhid HB).cell (p := ⟨b2, o2 + k * 4 + 1, none⟩) hbl2).trans (hcell2 1 _ rfl)
      have c2 : wr.cell? ⟨b, o + k * 4 + 2, none⟩ = some (v2) := ((unhid HB).cell (p := ⟨b, o + k * 4 + 2, none⟩) hbl).trans (hcell 2 _ rfl)
      have g2 : wr.cell? ⟨b2, o2 + k * 4 + 2, none⟩ = some (u2) := ((unhid HB).cell (p := ⟨b2, o2 + k * 4 + 2, none⟩) hbl2).trans (hcell2 2 _ rfl)
      have c3 : wr.cell? ⟨b, o + k * 4 + 3, none⟩ = some (v3) := ((unhid HB).cell (p := ⟨b, o + k * 4 + 3, none⟩) hbl).trans (hcell 3 _ rfl)
      have g3 : wr.cell? ⟨b2, o2 + k * 4 + 3, none⟩ = some (u3) := ((unhid HB).cell (p := ⟨b2, o2 + k * 4 + 3, none⟩) hbl2).trans (hcell2 3 _ rfl)
      have ZL := hid (unhid HZ e (List.mem_of_getElem? he))
      clear hc hc2 he hat hat2 hcell hcell2 hbl hbl2
      go_wp2_with fail
      go_region_with (go_at_call 73; refine (veqPack_same e _ _ _ (unhid ZL) (packC.below (unhid HAT) (drew_belowS _)) (packC.below (unhid HAT2) (drew_belowS _))).mono ?_; rintro r w2 ⟨rfl, hb⟩; have HB2 := hid (((unhid HB).trans (drew_belowS _)).trans (hb.mono (unhid HB).size)); clear hb)
      all_goals
        go_wp2_with fail
        go_roundw
        case rel => exact ⟨k + 1, by omega, by go_num, HB2⟩
        case measure => simp [intOf]; omega
    · have e : k = ds.length := by omega
      subst e
      go_wp2_with fail
      go_ret
      exact ⟨rfl, unhid HB⟩
theorem cntPack_is (d : PackD) : packC.cnt d = 1 + (1 + (cntR needC d.needs + (cntR entryC d.tree))) := rfl
theorem cntPack (d : PackD) : packC.cnt d ≤ 4 + 8 * packC.sz d := by
  rw [cntPack_is d, packC_sz d]
  have h2 := cntNeedS d.needs
  have h3 := cntEntryS d.tree
  omega
theorem cntPackS (ds : List packC.D) : cntR packC ds ≤ 8 * (ds.length + szR packC ds) := cntR_bound (by omega) cntPack ds
theorem lenPackS (ds : List packC.D) : ds.length ≤ cntR packC ds := len_cntR (fun d => by rw [cntPack_is d]; omega) ds
set_option maxRecDepth 100000 in
set_option maxHeartbeats 4000000 in
theorem vmarkPackS_own (ds : List packC.D) (v : Value) (F : List Nat) (q : Nat) (c : Int) (hcq : c = (q : Int)) (w : World) (hq : 0 < q) (hq2 : q + cntR packC ds ≤ 20000000) (h : rowOwn packC 34 w v ds F) :
    Calls Tryz.prog 29 #[v, .int .i64 c] w fun x w' => (∃ r : Int, x = .returned (.int .i64 r) ∧ r ≤ ((q + cntR packC ds : Nat) : Int) ∧ ((q + cntR packC ds : Nat) : Int) ≤ r) ∧ rowOwn packC 34 w' v (markR packC q ds) F ∧ Only F w w' := by
  subst hcq
  have hlen := lenPackS ds
  rcases h with ⟨rfl, rfl, a, c, rfl, hnil⟩ | ⟨g, cap, cur, Fs, rfl, hcap, rfl, hnd, ha⟩
  · go_enter Tryz.func29, Tryz.ntmps29
    go_wp2_with fail
    go_loopw [1, 5] (fun c i wr => i = .int .i64 0 ∧ c = .int .i64 (q : Int) ∧ wr = w) (fun _ i _ => 0)
    case atStart => exact ⟨rfl, rfl, rfl⟩
    case round =>
      obtain ⟨rfl, rfl, rfl⟩ := hrel
      go_wp2_with fail
      go_ret
      exact ⟨⟨_, rfl, by simp [cntR], by simp [cntR]⟩, .inl ⟨rfl, rfl, a, c, rfl, hnil⟩, Only.refl _ _⟩
  · have HA := hid ha
    have HN := hid hnd
    clear ha hnd
    go_enter Tryz.func29, Tryz.ntmps29
    go_wp2_with fail
    go_loopw [1, 5] (fun c i wr => ∃ k : Nat, k ≤ ds.length ∧ i = .int .i64 (k : Int) ∧ c = .int .i64 ((q + cntR packC (ds.take k) : Nat) : Int) ∧ Hid (∃ cur2 : Array Value, RowAll packC 34 wr g (markU packC q ds k) cur2 Fs) ∧ Hid (Only (g :: Fs.flatten) w wr)) (fun _ i _ => ds.length - (intOf i).toNat)
    case atStart => exact ⟨0, Nat.zero_le _, rfl, by simp [cntR], hid ⟨cur, by simpa [markU] using unhid HA⟩, hid (Only.refl _ _)⟩
    case round =>
      obtain ⟨k, hk, rfl, rfl, HC, HO⟩ := hrel
      have hcl := cntR_le packC ds k
      by_cases hlt : k < ds.length
      · obtain ⟨e, he⟩ : ∃ e, ds[k]? = some e := ⟨ds[k], List.getElem?_eq_getElem hlt⟩
        have hct1 := cntR_take packC ds k e he
        have hcl2 := cntR_le packC ds (k + 1)
        rw [hct1, cntPack_is e] at hcl2
        have E := hid hct1
        obtain ⟨cur2, hA⟩ := unhid HC
        obtain ⟨cs, Fk, h1, hgF, hown, hI⟩ := item_open hA (unhid HN) he
        obtain ⟨v2, v3, F2, F3, rfl, rfl, x2, x3, a23⟩ := packC_own hown
        obtain ⟨ua2, uc2, rfl⟩ := rowOwn.slice x2
        obtain ⟨ua3, uc3, rfl⟩ := rowOwn.slice x3
        simp only [List.mem_append, not_or] at hgF
        have HG := hid hgF
        have A23 := hid a23
        have HAA := hid hA
        have HE := hid he
        have H1 := hid h1
        generalize hct : cntR packC (ds.take k) = t at *
        have HCT := hid hct
        have hI : ItemAt wr g 34 (k * 4) cur2 [.string e.name, .string e.version, .slice ua2 e.needs.length uc2, .slice ua3 e.tree.length uc3] := hI
        have X2 := hid x2
        have X3 := hid x3
        have HK := hid (Only.refl (g :: (F2 ++ F3)) wr)
        clear hct hA he h1 hown hct1 HC x2 x3 a23 hgF
        obtain ⟨c0, f0⟩ := hI.cell 0 _ rfl
        rw [Nat.add_zero] at c0 f0
        obtain ⟨c1, f1⟩ := hI.cell 1 _ rfl
        obtain ⟨c2, f2⟩ := hI.cell 2 _ rfl
        obtain ⟨c3, f3⟩ := hI.cell 3 _ rfl
        go_wp2_with fail
        clear c0 f0 c1 f1 c2 f2 c3 f3
        have HI := hid hI
        clear hI
        refine (markText_at _ (q + t) wr (by omega) (by omega) (by omega)).mono ?_
        rintro x wq1 ⟨rfl, hb⟩
        have hI := (unhid HI).below hb
        have HK := hid ((unhid HK).trans (Only.ofBelow hb))
        have X2 := hid ((unhid X2).below hb)
        have X3 := hid ((unhid X3).below hb)
        clear hb HI
        obtain ⟨c0, f0⟩ := hI.cell 0 _ rfl
        rw [Nat.add_zero] at c0 f0
        obtain ⟨c1, f1⟩ := hI.cell 1 _ rfl
        obtain ⟨c2, f2⟩ := hI.cell 2 _ rfl
        obtain ⟨c3, f3⟩ := hI.cell 3 _ rfl
        have hI2 : ItemAt (wq1.setCell ⟨g, k * 4, none⟩ (.string (mtext (q + t)))) g 34 (k * 4) cur2 [.string (mtext (q + t)), .string e.version, .slice ua2 e.needs.length uc2, .slice ua3 e.tree.length uc3] := (hI.set 0 (.string (mtext (q + t))) (by simp))
        have HK2 : Hid (Only (g :: (F2 ++ F3)) wr (wq1.setCell ⟨g, k * 4, none⟩ (.string (mtext (q + t))))) := hid ((unhid HK).setCell (p := ⟨g, k * 4, none⟩) (by simp) (.string (mtext (q + t))))
        have X2b : Hid (rowOwn needC 36 (wq1.setCell ⟨g, k * 4, none⟩ (.string (mtext (q + t)))) (.slice ua2 e.needs.length uc2) e.needs F2) := hid (rowOwn.setS (unhid X2) (unhid HG).1)
        have X3b : Hid (rowOwn entryC 57 (wq1.setCell ⟨g, k * 4, none⟩ (.string (mtext (q + t)))) (.slice ua3 e.tree.length uc3) e.tree F3) := hid (rowOwn.setS (unhid X3) (unhid HG).2)
        have z2 := (hI2.cell 2 _ rfl).1
        have z3 := (hI2.cell 3 _ rfl).1
        go_wp2_with fail
        clear c0 f0 c1 f1 c2 f2 c3 f3
        clear z2 z3
        clear hI HK X2 X3
        generalize (wq1.setCell ⟨g, k * 4, none⟩ (.string (mtext (q + t)))) = wq2 at *
        have hI := hI2
        have HK := HK2
        have X2 := X2b
        have X3 := X3b
        clear hI2 HK2 X2b X3b
        have HI := hid hI
        clear hI
        refine (markText_at _ (q + t + 1) wq2 (by omega) (by omega) (by omega)).mono ?_
        rintro x wq3 ⟨rfl, hb⟩
        have hI := (unhid HI).below hb
        have HK := hid ((unhid HK).trans (Only.ofBelow hb))
        have X2 := hid ((unhid X2).below hb)
        have X3 := hid ((unhid X3).below hb)
        clear hb HI
        obtain ⟨c0, f0⟩ := hI.cell 0 _ rfl
        rw [Nat.add_zero] at c0 f0
        obtain ⟨c1, f1⟩ := hI.cell 1 _ rfl
        obtain ⟨c2, f2⟩ := hI.cell 2 _ rfl
        obtain ⟨c3, f3⟩ := hI.cell 3 _ rfl
        have hI2 : ItemAt (wq3.setCell ⟨g, k * 4 + 1, none⟩ (.string (mtext (q + t + 1)))) g 34 (k * 4) cur2 [.string (mtext (q + t)), .string (mtext (q + t + 1)), .slice ua2 e.needs.length uc2, .slice ua3 e.tree.length uc3] := (hI.set 1 (.string (mtext (q + t + 1))) (by simp))
        have HK2 : Hid (Only (g :: (F2 ++ F3)) wr (wq3.setCell ⟨g, k * 4 + 1, none⟩ (.string (mtext (q + t + 1))))) := hid ((unhid HK).setCell (p := ⟨g, k * 4 + 1, none⟩) (by simp) (.string (mtext (q + t + 1))))
        have X2b : Hid (rowOwn needC 36 (wq3.setCell ⟨g, k * 4 + 1, none⟩ (.string (mtext (q + t + 1)))) (.slice ua2 e.needs.length uc2) e.needs F2) := hid (rowOwn.setS (unhid X2) (unhid HG).1)
        have X3b : Hid (rowOwn entryC 57 (wq3.setCell ⟨g, k * 4 + 1, none⟩ (.string (mtext (q + t + 1)))) (.slice ua3 e.tree.length uc3) e.tree F3) := hid (rowOwn.setS (unhid X3) (unhid HG).2)
        have z2 := (hI2.cell 2 _ rfl).1
        have z3 := (hI2.cell 3 _ rfl).1
        go_wp2_with fail
        clear c0 f0 c1 f1 c2 f2 c3 f3
        clear z2 z3
        clear hI HK X2 X3
        generalize (wq3.setCell ⟨g, k * 4 + 1, none⟩ (.string (mtext (q + t + 1)))) = wq4 at *
        have hI := hI2
        have HK := HK2
        have X2 := X2b
        have X3 := X3b
        clear hI2 HK2 X2b X3b
        have HI := hid hI
        clear hI
        refine (vmarkNeedS_own e.needs (.slice ua2 e.needs.length uc2) F2 (q + t + 1 + 1) _ (by omega) wq4 (by omega) (by omega) (unhid X2)).mono ?_
        rintro x wq5 ⟨⟨r2, rfl, ra2, rb2⟩, hown, ho⟩
        have hI := (unhid HI).only ho (unhid HG).1
        have HK := hid ((unhid HK).trans (ho.mono (fun i hi => List.mem_cons_of_mem _ (by simp [hi]))))
        have X3 := hid ((unhid X3).only ho (fun k hk e => (unhid A23) k e hk))
        have X2 := hid hown
        clear hown ho HI
        obtain ⟨c0, f0⟩ := hI.cell 0 _ rfl
        rw [Nat.add_zero] at c0 f0
        obtain ⟨c1, f1⟩ := hI.cell 1 _ rfl
        obtain ⟨c2, f2⟩ := hI.cell 2 _ rfl
        obtain ⟨c3, f3⟩ := hI.cell 3 _ rfl
        go_wp2_with fail
        clear c0 f0 c1 f1 c2 f2 c3 f3
        have HI := hid hI
        clear hI
        refine (vmarkEntryS_own e.tree (.slice ua3 e.tree.length uc3) F3 (q + t + 1 + 1 + cntR needC e.needs) _ (by omega) wq5 (by omega) (by omega) (unhid X3)).mono ?_
        rintro x wq6 ⟨⟨r3, rfl, ra3, rb3⟩, hown, ho⟩
        have hI := (unhid HI).only ho (unhid HG).2
        have HK := hid ((unhid HK).trans (ho.mono (fun i hi => List.mem_cons_of_mem _ (by simp [hi]))))
        have X2 := hid ((unhid X2).only ho (fun k hk e => (unhid A23) k hk e))
        have X3 := hid hown
        clear hown ho HI
        obtain ⟨c0, f0⟩ := hI.cell 0 _ rfl
        rw [Nat.add_zero] at c0 f0
        obtain ⟨c1, f1⟩ := hI.cell 1 _ rfl
        obtain ⟨c2, f2⟩ := hI.cell 2 _ rfl
        obtain ⟨c3, f3⟩ := hI.cell 3 _ rfl
        have HI := hid hI
        have HKE := hid (unhid HK)
        have HF := hid (show ∃ cur', RowAll packC 34 wq6 g (markU packC q ds (k + 1)) cur' Fs by
          have hi := unhid HI
          refine item_close (unhid HAA) (unhid HN) (unhid HE) (unhid H1) hi ?_ (unhid HKE)
          rw [unhid HCT]
          exact packC_mk ⟨_, _, F2, F3, rfl, rfl, unhid X2, unhid X3, unhid A23⟩)
        have HO2 := hid ((unhid HO).trans ((unhid HKE).mono (fun i hi => by rcases List.mem_cons.1 hi with rfl | hi; exact List.mem_cons_self; exact List.mem_cons_of_mem _ (mem_flatS (unhid H1) hi))))
        clear HI HKE HAA HE H1 HK HO X2 X3 hI
        go_wp2_with fail
        go_roundw
        case rel => exact ⟨k + 1, by omega, by go_num, int_eqS (by rw [unhid E, cntPack_is e]; omega), HF, HO2⟩
        case measure => simp [intOf]; omega
      · have e : k = ds.length := by omega
        subst e
        go_wp2_with fail
        go_ret
        refine ⟨⟨_, rfl, by rw [List.take_of_length_le (Nat.le_refl _)]; exact Int.le_refl _, by rw [List.take_of_length_le (Nat.le_refl _)]; exact Int.le_refl _⟩, ?_, unhid HO⟩
        obtain ⟨cur2, hA⟩ := unhid HC
        rw [markU_all] at hA
        exact .inr ⟨g, cap, cur2, Fs, by rw [markR_len], by rw [markR_len]; exact hcap, rfl, unhid HN, hA⟩
end Go.Proofs.YtoihhlkidlapmaaGreat

/- What an entry is kept as: a value of an interface with a type for each kind. -/
namespace Go.Proofs.YtoihhlkidlapmaaGreat
open Go.RowKit Go.Shelf

theorem isLineByte_any (c : Int) (w : World) :
    Calls Tryz.prog 314 #[.int .u8 c] w fun e w' => e = .returned (.bool (decide (32 ≤ c) && decide (c ≤ 126))) ∧ w' = w := by
  by_cases h1 : 32 ≤ c <;> by_cases h2 : c ≤ 126 <;>
  · go_enter Tryz.func314, Tryz.ntmps314
    go_wp2
    go_ret
    exact ⟨by simp [h1, h2], rfl⟩
theorem isTextByte_any (c : Int) (w : World) :
    Calls Tryz.prog 313 #[.int .u8 c] w fun e w' => e = .returned (.bool (txtB c)) ∧ w' = w := by
  cases h1 : (decide (32 ≤ c) && decide (c ≤ 126)) <;> cases h2 : (c == 10) <;>
  · have E := hid (show txtB c = ((c == 10) || (decide (32 ≤ c) && decide (c ≤ 126))) from rfl)
    go_enter Tryz.func313, Tryz.ntmps313
    go_wp2_with (go_at_call 314; refine (isLineByte_any _ _).mono ?_; rintro e w' ⟨rfl, rfl⟩; rw [h1])
    go_ret
    exact ⟨by rw [unhid E, h1, h2]; rfl, rfl⟩
theorem egText : ∀ args w, (callFunc 313 args).run Tryz.prog w = .ok (.enter 313 args) w := enters_of Tryz.func313 (by kernel_rfl) rfl
set_option maxRecDepth 100000 in
theorem textOk_any (s : ByteArray) (hs : s.size ≤ maxLen) (w : World) :
    Calls Tryz.prog 312 #[.string s] w fun e w' => e = .returned (.bool (textB s.data.toList)) ∧ Below w.heap.size w w' := by
  have hs' : s.size ≤ 9223372036854775807 := hs
  by_cases h : (s.size : Int) ≤ 80
  · have E := hid (show (s.data.toList.all fun c => txtB c.toNat) = textB s.data.toList by unfold textB; rw [← Lib.size_eq, decide_eq_true (by omega)]; rfl)
    go_enter Tryz.func312, Tryz.ntmps312
    go_wp2_with fail
    refine (allBytes_any 313 txtB egText isTextByte_any s hs _).mono ?_
    rintro e w2 ⟨rfl, hb⟩
    rw [unhid E]
    go_wp2_with fail
    go_ret
    exact ⟨rfl, hb⟩
  · have E := hid (show textB s.data.toList = false by unfold textB; rw [← Lib.size_eq, decide_eq_false (by omega)]; rfl)
    have h' : decide ((s.size : Int) ≤ 80) = false := decide_eq_false h
    go_enter Tryz.func312, Tryz.ntmps312
    go_wp2_with fail
    go_ret
    exact ⟨by rw [unhid E]; rfl, Below.refl _ _⟩
theorem modeOk_any (m : Int) (w : World) : Calls Tryz.prog 310 #[.int .i64 m] w fun e w' => e = .returned (.bool (modeB m)) ∧ w' = w := by
  have E := hid (show modeB m = (decide (0 ≤ m) && decide (m ≤ 7)) from rfl)
  by_cases h1 : 0 ≤ m <;> by_cases h2 : m ≤ 7 <;>
  · go_enter Tryz.func310, Tryz.ntmps310
    go_wp2
    go_ret
    exact ⟨by rw [unhid E]; simp [h1, h2], rfl⟩

theorem dirFine_any (m : Int) (w : World) : Calls Tryz.prog 309 #[.agg #[.int .i64 m]] w fun e w' => e = .returned (.bool (modeB m)) ∧ Below w.heap.size w w' := by
  go_enter Tryz.func309, Tryz.ntmps309
  go_wp2_with (go_at_call 310; refine (modeOk_any _ _).mono ?_; rintro e w' ⟨rfl, rfl⟩)
  go_ret
  exact ⟨rfl, (Below.refl _ _).alloc (Nat.le_refl _) _⟩
theorem linkFine_any (t : ByteArray) (ht : t.size ≤ maxLen) (w : World) : Calls Tryz.prog 315 #[.agg #[.string t]] w fun e w' => e = .returned (.bool (pathB t.data.toList)) ∧ Below w.heap.size w w' := by
  go_enter Tryz.func315, Tryz.ntmps315
  go_wp2_with fail
  refine (PathOk_any t ht _).mono ?_
  rintro e w2 ⟨rfl, hb⟩
  go_wp2_with fail
  go_ret
  exact ⟨rfl, ((Below.refl _ _).alloc (Nat.le_refl _) _).trans (hb.mono (by simp))⟩
set_option maxRecDepth 100000 in
theorem fileFine_any (m : Int) (t : ByteArray) (ht : t.size ≤ maxLen) (w : World) : Calls Tryz.prog 311 #[.agg #[.int .i64 m, .string t]] w fun e w' => e = .returned (.bool (modeB m && textB t.data.toList)) ∧ Below w.heap.size w w' := by
  cases hm : modeB m
  · go_enter Tryz.func311, Tryz.ntmps311
    go_wp2_with (go_at_call 310; refine (modeOk_any _ _).mono ?_; rintro e w' ⟨rfl, rfl⟩; rw [hm])
    go_ret
    exact ⟨rfl, (Below.refl _ _).alloc (Nat.le_refl _) _⟩
  · go_enter Tryz.func311, Tryz.ntmps311
    go_wp2_with (go_at_call 310; refine (modeOk_any _ _).mono ?_; rintro e w' ⟨rfl, rfl⟩; rw [hm])
    refine (textOk_any t ht _).mono ?_
    rintro e w2 ⟨rfl, hb⟩
    go_wp2_with fail
    go_ret
    exact ⟨rfl, ((Below.refl _ _).alloc (Nat.le_refl _) _).trans (hb.mono (by simp))⟩

theorem upon_run {P : Program} {o : Oper} {a : Act} {K : Act → World → Prop} {E : Exit → Act → World → Prop} {α : Type} {x y : Result α} {f : α → World → Result Next} (h : x = y) (g : Oper.upon P o a K E (y.andThen f)) : Oper.upon P o a K E (x.andThen f) := h ▸ g

def nodeV (e : Ent) : Value := if e.kind = 1 then .iface 176 (.agg #[.int .i64 e.mode]) else if e.kind = 2 then .iface 178 (.agg #[.int .i64 e.mode, .string e.text]) else .iface 180 (.agg #[.string e.text])

set_option maxRecDepth 100000 in
set_option maxHeartbeats 8000000 in
theorem nodeOf_any (e : Ent) (hp : e.path.size ≤ maxLen) (ht : e.text.size ≤ maxLen) (w : World) :
    Calls Tryz.prog 209 #[.agg e.vals] w fun x w' => (∃ v, x = .returned (.tuple #[v, .bool (entB e)]) ∧ (v = .nilIface ∨ v = nodeV e) ∧ (entB e = true → v = nodeV e)) ∧ Below w.heap.size w w' := by
  obtain ⟨p, k, m, t⟩ := e
  unfold Ent.vals
  dsimp only at hp ht ⊢
  have hB0 : Below w.heap.size w (w.alloc (.cells #[.string p, .int .i64 k, .int .i64 m, .string t] 57)) := (Below.refl _ w).alloc (Nat.le_refl _) _
  have HB0 := hid hB0
  have hz0 : w.heap.size ≤ (w.alloc (.cells #[.string p, .int .i64 k, .int .i64 m, .string t] 57)).heap.size := by simp
  clear hB0
  have hE : entB ⟨p, k, m, t⟩ = (pathB p.data.toList && (if k = 1 then modeB m && t.data.toList.isEmpty else if k = 2 then modeB m && textB t.data.toList else k == 3 && (m == 0 && pathB t.data.toList))) := rfl
  have E := hid hE
  clear hE
  by_cases k1 : k = 1
  · subst k1
    have hnv : nodeV ⟨p, 1, m, t⟩ = .iface 176 (.agg #[.int .i64 m]) := by unfold nodeV; rw [if_pos rfl]
    have HN := hid hnv
    clear hnv
    cases hte : t.toList.isEmpty
    · have hte' : t.data.toList.isEmpty = false := by rw [← Lib.toList_data]; exact hte
      have EE := hid (show entB ⟨p, 1, m, t⟩ = false by rw [unhid E, if_pos rfl, hte']; simp)
      clear hte'
      go_enter Tryz.func209, Tryz.ntmps209
      go_wp2_with fail
      go_ret2
      exact ⟨⟨_, by rw [unhid EE]; rfl, .inl rfl, fun h => by rw [unhid EE] at h; cases h⟩, unhid HB0⟩
    · have hte' : t.data.toList.isEmpty = true := by rw [← Lib.toList_data]; exact hte
      have E1 := hid (show entB ⟨p, 1, m, t⟩ = (pathB p.data.toList && modeB m) by rw [unhid E, if_pos rfl, hte', Bool.and_true])
      clear hte'
      cases hpp : pathB p.data.toList
      · have EE := hid (show entB ⟨p, 1, m, t⟩ = false by rw [unhid E1, hpp]; rfl)
        go_enter Tryz.func209, Tryz.ntmps209
        go_wp2_with fail
        refine (PathOk_any p hp _).mono ?_
        rintro x w2 ⟨rfl, hb⟩
        rw [hpp]
        have HB := hid ((unhid HB0).trans (hb.mono hz0))
        clear hb
        go_wp2_with fail
        go_ret2
        exact ⟨⟨_, by rw [unhid EE]; rfl, .inr (unhid HN).symm, fun h => by rw [unhid EE] at h; cases h⟩, unhid HB⟩
      · have EE := hid (show entB ⟨p, 1, m, t⟩ = (modeB m) by rw [unhid E1, hpp]; rfl)
        go_enter Tryz.func209, Tryz.ntmps209
        go_wp2_with fail
        refine (PathOk_any p hp _).mono ?_
        rintro x w2 ⟨rfl, hb⟩
        rw [hpp]
        have HB := hid ((unhid HB0).trans (hb.mono hz0))
        clear hb
        go_wp2_with fail
        refine upon_run (y := .ok (309, .agg #[.int .i64 m]) w2) (by kernel_rfl) ?_
        go_wp2_with fail
        refine (dirFine_any m w2).mono ?_
        rintro x w3 ⟨rfl, hb⟩
        have HB3 := hid ((unhid HB).trans (hb.mono (unhid HB).size))
        clear hb
        rw [← unhid EE]
        go_wp2_with fail
        go_ret2
        exact ⟨⟨_, rfl, .inr (unhid HN).symm, fun _ => (unhid HN).symm⟩, unhid HB3⟩
  · have k1' : (k == 1) = false := by simpa using k1
    by_cases k2 : k = 2
    · subst k2
      have hnv : nodeV ⟨p, 2, m, t⟩ = .iface 178 (.agg #[.int .i64 m, .string t]) := by unfold nodeV; rw [if_neg (by omega), if_pos rfl]
      have HN := hid hnv
      have E1 := hid (show entB ⟨p, 2, m, t⟩ = (pathB p.data.toList && (modeB m && textB t.data.toList)) by rw [unhid E, if_neg (by omega), if_pos rfl])
      clear hnv
      cases hpp : pathB p.data.toList
      · have EE := hid (show entB ⟨p, 2, m, t⟩ = false by rw [unhid E1, hpp]; rfl)
        go_enter Tryz.func209, Tryz.ntmps209
        go_wp2_with fail
        refine (PathOk_any p hp _).mono ?_
        rintro x w2 ⟨rfl, hb⟩
        rw [hpp]
        have HB := hid ((unhid HB0).trans (hb.mono hz0))
        clear hb
        go_wp2_with fail
        go_ret2
        exact ⟨⟨_, by rw [unhid EE]; rfl, .inr (unhid HN).symm, fun h => by rw [unhid EE] at h; cases h⟩, unhid HB⟩
      · have EE := hid (show entB ⟨p, 2, m, t⟩ = (modeB m && textB t.data.toList) by rw [unhid E1, hpp]; rfl)
        go_enter Tryz.func209, Tryz.ntmps209
        go_wp2_with fail
        refine (PathOk_any p hp _).mono ?_
        rintro x w2 ⟨rfl, hb⟩
        rw [hpp]
        have HB := hid ((unhid HB0).trans (hb.mono hz0))
        clear hb
        go_wp2_with fail
        refine upon_run (y := .ok (311, .agg #[.int .i64 m, .string t]) w2) (by kernel_rfl) ?_
        go_wp2_with fail
        refine (fileFine_any m t ht w2).mono ?_
        rintro x w3 ⟨rfl, hb⟩
        have HB3 := hid ((unhid HB).trans (hb.mono (unhid HB).size))
        clear hb
        rw [← unhid EE]
        go_wp2_with fail
        go_ret2
        exact ⟨⟨_, rfl, .inr (unhid HN).symm, fun _ => (unhid HN).symm⟩, unhid HB3⟩
    · have k2' : (k == 2) = false := by simpa using k2
      have hnv : nodeV ⟨p, k, m, t⟩ = .iface 180 (.agg #[.string t]) := by unfold nodeV; rw [if_neg k1, if_neg k2]
      have HN := hid hnv
      have E2 := hid (show entB ⟨p, k, m, t⟩ = (pathB p.data.toList && (k == 3 && (m == 0 && pathB t.data.toList))) by rw [unhid E, if_neg k1, if_neg k2])
      clear hnv
      cases k3 : (k == 3)
      · have EE := hid (show entB ⟨p, k, m, t⟩ = false by rw [unhid E2, k3]; simp)
        clear k1 k2
        go_enter Tryz.func209, Tryz.ntmps209
        go_wp2_with fail
        go_ret2
        exact ⟨⟨_, by rw [unhid EE]; rfl, .inl rfl, fun h => by rw [unhid EE] at h; cases h⟩, unhid HB0⟩
      · cases m0 : (m == 0)
        · have EE := hid (show entB ⟨p, k, m, t⟩ = false by rw [unhid E2, m0]; simp)
          clear k1 k2
          go_enter Tryz.func209, Tryz.ntmps209
          go_wp2_with fail
          go_ret2
          exact ⟨⟨_, by rw [unhid EE]; rfl, .inl rfl, fun h => by rw [unhid EE] at h; cases h⟩, unhid HB0⟩
        · have E1 := hid (show entB ⟨p, k, m, t⟩ = (pathB p.data.toList && pathB t.data.toList) by rw [unhid E2, k3, m0]; rfl)
          clear k1 k2
          cases hpp : pathB p.data.toList
          · have EE := hid (show entB ⟨p, k, m, t⟩ = false by rw [unhid E1, hpp]; rfl)
            go_enter Tryz.func209, Tryz.ntmps209
            go_wp2_with fail
            refine (PathOk_any p hp _).mono ?_
            rintro x w2 ⟨rfl, hb⟩
            rw [hpp]
            have HB := hid ((unhid HB0).trans (hb.mono hz0))
            clear hb
            go_wp2_with fail
            go_ret2
            exact ⟨⟨_, by rw [unhid EE]; rfl, .inr (unhid HN).symm, fun h => by rw [unhid EE] at h; cases h⟩, unhid HB⟩
          · have EE := hid (show entB ⟨p, k, m, t⟩ = (pathB t.data.toList) by rw [unhid E1, hpp]; rfl)
            go_enter Tryz.func209, Tryz.ntmps209
            go_wp2_with fail
            refine (PathOk_any p hp _).mono ?_
            rintro x w2 ⟨rfl, hb⟩
            rw [hpp]
            have HB := hid ((unhid HB0).trans (hb.mono hz0))
            clear hb
            go_wp2_with fail
            refine upon_run (y := .ok (315, .agg #[.string t]) w2) (by kernel_rfl) ?_
            go_wp2_with fail
            refine (linkFine_any t ht w2).mono ?_
            rintro x w3 ⟨rfl, hb⟩
            have HB3 := hid ((unhid HB).trans (hb.mono (unhid HB).size))
            clear hb
            rw [← unhid EE]
            go_wp2_with fail
            go_ret2
            exact ⟨⟨_, rfl, .inr (unhid HN).symm, fun _ => (unhid HN).symm⟩, unhid HB3⟩
end Go.Proofs.YtoihhlkidlapmaaGreat

/- The library's search in texts that ascend. -/
namespace Go.Proofs.YtoihhlkidlapmaaGreat
open Go.RowKit Go.Shelf

/-- A row of texts that is read. -/
def TextsAt (W : World) (a : Option Addr) (ps : List ByteArray) : Prop := ps = [] ∨ ∃ b o, a = some ⟨b, o, .none⟩ ∧ b < W.heap.size ∧ ∀ (i : Nat) x, ps[i]? = some x → W.cell? ⟨b, o + i, .none⟩ = some (.string x)
theorem TextsAt.get {W : World} {a : Option Addr} {ps : List ByteArray} (h : TextsAt W a ps) (hne : ps ≠ []) : ∃ b o, a = some ⟨b, o, .none⟩ ∧ b < W.heap.size ∧ ∀ (i : Nat) x, ps[i]? = some x → W.cell? ⟨b, o + i, .none⟩ = some (.string x) := h.resolve_left hne
/-- Texts that ascend. -/
def Asc (ps : List ByteArray) : Prop := ∀ (i j : Nat) x y, i < j → ps[i]? = some x → ps[j]? = some y → ltS x y = true
def placeP (ps : List ByteArray) (q : ByteArray) : Nat := (ps.takeWhile fun x => ltS x q).length
def thereP (ps : List ByteArray) (q : ByteArray) : Bool := (ps[placeP ps q]?).any fun x => eqS x q
theorem placeP_of : ∀ (ps : List ByteArray) (q : ByteArray) (k : Nat), k ≤ ps.length → (∀ (i : Nat) x, i < k → ps[i]? = some x → ltS x q = true) → (∀ x, ps[k]? = some x → ltS x q = false) → placeP ps q = k
  | [], _, k, hk, _, _ => by simp at hk; subst hk; rfl
  | e :: es, p, 0, _, _, h2 => by
    have := h2 e rfl
    unfold placeP; rw [List.takeWhile_cons]; simp [this]
  | e :: es, p, k + 1, hk, h1, h2 => by
    have h0 := h1 0 e (Nat.succ_pos _) rfl
    have ih := placeP_of es p k (by simpa using hk) (fun i x hi hx => h1 (i + 1) x (by omega) (by simpa using hx)) (fun x hx => h2 x (by simpa using hx))
    unfold placeP at ih ⊢
    rw [List.takeWhile_cons]; simp [h0, ih]

theorem isNaN1_any (s : ByteArray) (w : World) : Calls Tryz.prog 211 #[.string s] w fun e w' => e = .returned (.bool false) ∧ w' = w := by
  go_enter Tryz.func211, Tryz.ntmps211
  go_wp2
  go_ret
  exact ⟨by simp, rfl⟩
theorem isNaN2_any (s : ByteArray) (w : World) : Calls Tryz.prog 257 #[.string s] w fun e w' => e = .returned (.bool false) ∧ w' = w := by
  go_enter Tryz.func257, Tryz.ntmps257
  go_wp2
  go_ret
  exact ⟨by simp, rfl⟩
theorem Less_any (x y : ByteArray) (w : World) : Calls Tryz.prog 197 #[.string x, .string y] w fun e w' => e = .returned (.bool (ltS x y)) ∧ w' = w := by
  have E := hid (show ltS x y = Op.bytesLess x.toList y.toList from rfl)
  go_enter Tryz.func197, Tryz.ntmps197
  go_wp2_with (go_at_call 257; refine (isNaN2_any _ _).mono ?_; rintro e w' ⟨rfl, rfl⟩)
  go_ret
  exact ⟨by rw [unhid E]; rfl, rfl⟩

set_option maxRecDepth 100000 in
set_option maxHeartbeats 4000000 in
theorem BinarySearch_any (ps : List ByteArray) (a : Option Addr) (cap : Nat) (q : ByteArray) (w : World) (hlen : ps.length ≤ 1048576) (hs : Asc ps) (h : TextsAt w a ps) :
    Calls Tryz.prog 139 #[.slice a ps.length cap, .string q] w fun x w' => x = .returned (.tuple #[.int .i64 (placeP ps q), .bool (thereP ps q)]) ∧ w' = w := by
  have HS := hid hs
  clear hs
  go_enter Tryz.func139, Tryz.ntmps139
  go_wp2_with fail
  go_loop [7, 8, 9] (fun i j _ => ∃ (k m : Nat), k ≤ m ∧ m ≤ ps.length ∧ i = .int .i64 k ∧ j = .int .i64 m ∧ Hid (∀ (t : Nat) x, t < k → ps[t]? = some x → ltS x q = true) ∧ Hid (∀ (t : Nat) x, m ≤ t → ps[t]? = some x → ltS x q = false)) (fun i j _ => (intOf j).toNat - (intOf i).toNat)
  case atStart => exact ⟨0, ps.length, Nat.zero_le _, Nat.le_refl _, rfl, rfl, hid (fun t x ht => by omega), hid (fun t x ht hx => by have := (List.getElem?_eq_some_iff.1 hx).1; omega)⟩
  case round =>
    obtain ⟨k, m, hkm, hm, rfl, rfl, hlo, hhi⟩ := hrel
    by_cases hlt : k < m
    · obtain ⟨x, hx⟩ : ∃ x, ps[(k + m) / 2]? = some x := ⟨ps[(k + m) / 2], List.getElem?_eq_getElem (by omega)⟩
      obtain ⟨b, o, rfl, hbl, hc⟩ := h.get (by intro e; subst e; simp at hm; omega)
      have c0 := hc _ x hx
      have HX := hid hx
      have HC := hid hc
      have hlt' : (k : Int) < m := by omega
      have hsm : (k : Int) + m ≤ 4194304 := by omega
      have hall : ∀ (t : Nat) y, t ≤ (k + m) / 2 → ps[t]? = some y → ltS x q = true → ltS y q = true := fun t y ht hy hq => by
        by_cases e : t = (k + m) / 2
        · subst e; rw [hx] at hy; cases hy; exact hq
        · exact lt_tra _ _ _ (unhid HS t _ y x (by omega) hy hx) hq
      have hnone : ∀ (t : Nat) y, (k + m) / 2 ≤ t → ps[t]? = some y → ltS x q = false → ltS y q = false := fun t y ht hy hq => by
        by_cases e : t = (k + m) / 2
        · subst e; rw [hx] at hy; cases hy; exact hq
        · cases hyq : ltS y q
          · rfl
          · have := lt_tra _ _ _ (unhid HS _ t x y (by omega) hx hy) hyq
            unfold ltS at hq; rw [this] at hq; cases hq
      have HA := hid (And.intro hall hnone)
      clear hc hx h hall hnone
      go_wp2_with fail
      refine (Less_any x q _).mono ?_
      rintro r w' ⟨rfl, rfl⟩
      cases hq : ltS x q
      · go_wp2_with fail
        go_round
        case rel => exact ⟨k, (k + m) / 2, by omega, by omega, rfl, by go_num, hlo, hid (fun t y ht hy => (unhid HA).2 t y ht hy hq)⟩
        case measure => simp [intOf]; omega
      · go_wp2_with fail
        go_round
        case rel => exact ⟨(k + m) / 2 + 1, m, by omega, hm, by go_num, rfl, hid (fun t y ht hy => (unhid HA).1 t y (by omega) hy hq), hhi⟩
        case measure => simp [intOf]; omega
    · have hkm' : k = m := by omega
      subst hkm'
      have hlt' : ¬ (k : Int) < k := by omega
      have hpl : placeP ps q = k := placeP_of ps q k hm (unhid hlo) (fun x hx => unhid hhi k x (Nat.le_refl _) hx)
      by_cases hkl : k < ps.length
      · obtain ⟨x, hx⟩ : ∃ x, ps[k]? = some x := ⟨ps[k], List.getElem?_eq_getElem hkl⟩
        obtain ⟨b, o, rfl, hbl, hc⟩ := h.get (by intro e; subst e; simp at hkl)
        have c0 := hc _ x hx
        have hth : thereP ps q = (x.toList == q.toList) := by unfold thereP; rw [hpl, hx]; rfl
        have HP := hid (And.intro hpl hth)
        have hkl' : (k : Int) < ps.length := by omega
        clear hpl hth hx hc h
        cases he : (x.toList == q.toList)
        all_goals
          go_wp2_with (go_at_call 211; refine (isNaN1_any _ _).mono ?_; rintro e w' ⟨rfl, rfl⟩)
          go_ret2
          exact ⟨by rw [(unhid HP).1, (unhid HP).2, he]; rfl, rfl⟩
      · have hth : thereP ps q = false := by unfold thereP; rw [hpl, List.getElem?_eq_none (by omega)]; rfl
        have HP := hid (And.intro hpl hth)
        have hkl' : ¬ (k : Int) < ps.length := by omega
        clear hpl hth h
        go_wp2_with fail
        go_ret2
        exact ⟨by rw [(unhid HP).1, (unhid HP).2]; rfl, rfl⟩
end Go.Proofs.YtoihhlkidlapmaaGreat

/- The library's Insert at a row's end. -/
namespace Go.Proofs.YtoihhlkidlapmaaGreat
open Go.RowKit Go.Shelf

theorem infoNode : (Tryz.prog.info? 121).map (fun i => (i.zero, i.size, i.bytes)) = some (some .nilIface, 1, 16) := by kernel_rfl
theorem ownsRow_sh {W : World} {base : Nat} {e : TypeId} {size : Nat} {v : Value} {n : Nat} {xs : List Value} (h : W.ownsRow base e size v n xs) : (v = .slice .none 0 0 ∧ n = 0) ∨ ∃ g cap, v = .slice (some ⟨g, 0, .none⟩) n cap ∧ n ≤ cap := by
  rcases h.2 with h | ⟨g, cap, cur, rfl, _, _, hc, _⟩
  · exact .inl h
  · exact .inr ⟨_, _, rfl, hc⟩
theorem nodeV_one (e : Ent) : (nodeV e).oneCell' = true := by
  unfold nodeV; split
  · rfl
  · split <;> rfl

set_option maxRecDepth 100000 in
set_option maxHeartbeats 4000000 in
theorem InsertS_end (N : Nat) (v : Value) (n : Nat) (xs : List Value) (b : Nat) (p : ByteArray) (w : World) (hn : n ≤ 1000) (hN : N ≤ w.heap.size) (h : w.ownsRow N 9 1 v n xs) (hb : w.cell? ⟨b, 0, .none⟩ = some (.string p)) :
    Calls Tryz.prog 234 #[v, .int .i64 n, .slice (some ⟨b, 0, .none⟩) 1 1] w fun x w' => ∃ v', x = .returned v' ∧ w'.ownsRow N 9 1 v' (n + 1) (xs ++ [.string p]) ∧ w.grownBy w' v.ownBlock ∧ (v'.ownBlock = v.ownBlock ∨ v'.ownBlock = some w.heap.size) := by
  obtain ⟨i0, hi, hz0, hz1, hz2⟩ := info_parts info9
  have H := hid h
  have hnew : ∀ (j : Nat) u, [.string p][j]? = some u → w.cell? ((⟨b, 0, .none⟩ : Addr).add j) = some u := fun j u hj => by
    match j with
    | 0 => simp at hj; subst hj; exact hb
    | j + 1 => simp at hj
  have HN := hid hnew
  clear hnew
  rcases ownsRow_sh h with ⟨rfl, rfl⟩ | ⟨g, cap, rfl, hc⟩
  · clear h
    go_enter Tryz.func234, Tryz.ntmps234
    go_wp2_with (at_builtin; refine wpList_append_own_at _ rfl _ _ 24 rfl N 9 i0 (.string ⟨#[]⟩) 1 16 Tryz.underlying24 hi hz0 hz1 hz2 rfl (by decide) _ _ _ rfl (unhid H) ⟨b, 0, .none⟩ 1 1 [.string p] rfl rfl (unhid HN) ?c2 ?c3 ?c4 ?c5 ?_)
    case c2 => intro u hu; simp at hu; subst hu; rfl
    case c3 => unfold maxLen; omega
    case c4 => omega
    case c5 => exact hN
    intro v' w1 hown hgrow _ hat
    have HH := hid (And.intro hown (And.intro hgrow hat))
    clear hown hgrow hat
    go_wp2_with fail
    go_ret
    exact ⟨_, rfl, (unhid HH).1, (unhid HH).2⟩
  · clear h
    by_cases hcn : cap = n
    · subst hcn
      go_enter Tryz.func234, Tryz.ntmps234
      go_wp2_with (at_builtin; refine wpList_append_own_at _ rfl _ _ 24 rfl N 9 i0 (.string ⟨#[]⟩) 1 16 Tryz.underlying24 hi hz0 hz1 hz2 rfl (by decide) _ _ _ rfl (unhid H) ⟨b, 0, .none⟩ 1 1 [.string p] rfl rfl (unhid HN) ?c2 ?c3 ?c4 ?c5 ?_)
      case c2 => intro u hu; simp at hu; subst hu; rfl
      case c3 => unfold maxLen; omega
      case c4 => omega
      case c5 => exact hN
      intro v' w1 hown hgrow _ hat
      have HH := hid (And.intro hown (And.intro hgrow hat))
      clear hown hgrow hat
      go_wp2_with fail
      go_ret
      exact ⟨_, rfl, (unhid HH).1, (unhid HH).2⟩
    · have hcn' : ¬ n = cap := fun e => hcn e.symm
      go_enter Tryz.func234, Tryz.ntmps234
      go_wp2_with (at_builtin; refine wpList_append_own_at _ rfl _ _ 24 rfl N 9 i0 (.string ⟨#[]⟩) 1 16 Tryz.underlying24 hi hz0 hz1 hz2 rfl (by decide) _ _ _ rfl (unhid H) ⟨b, 0, .none⟩ 1 1 [.string p] rfl rfl (unhid HN) ?c2 ?c3 ?c4 ?c5 ?_)
      case c2 => intro u hu; simp at hu; subst hu; rfl
      case c3 => unfold maxLen; omega
      case c4 => omega
      case c5 => exact hN
      intro v' w1 hown hgrow _ hat
      have HH := hid (And.intro hown (And.intro hgrow hat))
      clear hown hgrow hat
      go_wp2_with fail
      go_ret
      exact ⟨_, rfl, (unhid HH).1, (unhid HH).2⟩

set_option maxRecDepth 100000 in
set_option maxHeartbeats 4000000 in
theorem InsertN_end (N : Nat) (v : Value) (n : Nat) (xs : List Value) (b : Nat) (e : Ent) (w : World) (hn : n ≤ 1000) (hN : N ≤ w.heap.size) (h : w.ownsRow N 121 1 v n xs) (hb : w.cell? ⟨b, 0, .none⟩ = some (nodeV e)) :
    Calls Tryz.prog 235 #[v, .int .i64 n, .slice (some ⟨b, 0, .none⟩) 1 1] w fun x w' => ∃ v', x = .returned v' ∧ w'.ownsRow N 121 1 v' (n + 1) (xs ++ [nodeV e]) ∧ w.grownBy w' v.ownBlock ∧ (v'.ownBlock = v.ownBlock ∨ v'.ownBlock = some w.heap.size) := by
  obtain ⟨i0, hi, hz0, hz1, hz2⟩ := info_parts infoNode
  have H := hid h
  have hnew : ∀ (j : Nat) u, [nodeV e][j]? = some u → w.cell? ((⟨b, 0, .none⟩ : Addr).add j) = some u := fun j u hj => by
    match j with
    | 0 => simp at hj; subst hj; exact hb
    | j + 1 => simp at hj
  have HN := hid hnew
  clear hnew
  rcases ownsRow_sh h with ⟨rfl, rfl⟩ | ⟨g, cap, rfl, hc⟩
  · clear h
    go_enter Tryz.func235, Tryz.ntmps235
    go_wp2_with (at_builtin; refine wpList_append_own_at _ rfl _ _ 113 rfl N 121 i0 (.nilIface) 1 16 Tryz.underlying113 hi hz0 hz1 hz2 rfl (by decide) _ _ _ rfl (unhid H) ⟨b, 0, .none⟩ 1 1 [nodeV e] rfl rfl (unhid HN) ?c2 ?c3 ?c4 ?c5 ?_)
    case c2 => intro u hu; simp at hu; subst hu; exact nodeV_one e
    case c3 => unfold maxLen; omega
    case c4 => omega
    case c5 => exact hN
    intro v' w1 hown hgrow _ hat
    have HH := hid (And.intro hown (And.intro hgrow hat))
    clear hown hgrow hat
    go_wp2_with fail
    go_ret
    exact ⟨_, rfl, (unhid HH).1, (unhid HH).2⟩
  · clear h
    by_cases hcn : cap = n
    · subst hcn
      go_enter Tryz.func235, Tryz.ntmps235
      go_wp2_with (at_builtin; refine wpList_append_own_at _ rfl _ _ 113 rfl N 121 i0 (.nilIface) 1 16 Tryz.underlying113 hi hz0 hz1 hz2 rfl (by decide) _ _ _ rfl (unhid H) ⟨b, 0, .none⟩ 1 1 [nodeV e] rfl rfl (unhid HN) ?c2 ?c3 ?c4 ?c5 ?_)
      case c2 => intro u hu; simp at hu; subst hu; exact nodeV_one e
      case c3 => unfold maxLen; omega
      case c4 => omega
      case c5 => exact hN
      intro v' w1 hown hgrow _ hat
      have HH := hid (And.intro hown (And.intro hgrow hat))
      clear hown hgrow hat
      go_wp2_with fail
      go_ret
      exact ⟨_, rfl, (unhid HH).1, (unhid HH).2⟩
    · have hcn' : ¬ n = cap := fun e => hcn e.symm
      go_enter Tryz.func235, Tryz.ntmps235
      go_wp2_with (at_builtin; refine wpList_append_own_at _ rfl _ _ 113 rfl N 121 i0 (.nilIface) 1 16 Tryz.underlying113 hi hz0 hz1 hz2 rfl (by decide) _ _ _ rfl (unhid H) ⟨b, 0, .none⟩ 1 1 [nodeV e] rfl rfl (unhid HN) ?c2 ?c3 ?c4 ?c5 ?_)
      case c2 => intro u hu; simp at hu; subst hu; exact nodeV_one e
      case c3 => unfold maxLen; omega
      case c4 => omega
      case c5 => exact hN
      intro v' w1 hown hgrow _ hat
      have HH := hid (And.intro hown (And.intro hgrow hat))
      clear hown hgrow hat
      go_wp2_with fail
      go_ret
      exact ⟨_, rfl, (unhid HH).1, (unhid HH).2⟩

end Go.Proofs.YtoihhlkidlapmaaGreat

/- A tree as the program keeps it; what is at a path of it; whether a path has a place in it. -/
namespace Go.Proofs.YtoihhlkidlapmaaGreat
open Go.RowKit Go.Shelf

def pathsOf (es : List Ent) : List ByteArray := es.map (·.path)
/-- The tree of entries at a block: two rows, of paths and of what stands there, from a bound on. -/
def TreeAt (W : World) (N bt : Nat) (es : List Ent) : Prop := ∃ vp vn, W.heap[bt]? = some (.cells #[vp, vn] 117 (0, 0)) ∧ W.ownsRow N 9 1 vp es.length (es.map fun e => .string e.path) ∧ W.ownsRow N 121 1 vn es.length (es.map nodeV)
theorem TreeAt.lt {W : World} {N bt : Nat} {es : List Ent} (h : TreeAt W N bt es) : bt < W.heap.size := by
  obtain ⟨vp, vn, h1, _⟩ := h; exact (Array.getElem?_eq_some_iff.1 h1).1
theorem ownsRow_kept {w w' : World} {base : Nat} {e : TypeId} {size : Nat} {v : Value} {n : Nat} {xs : List Value} (h : w.ownsRow base e size v n xs) (hk : ∀ g, v.ownBlock = some g → w'.heap[g]? = w.heap[g]?) : w'.ownsRow base e size v n xs := by
  refine ⟨h.1, ?_⟩
  rcases h.2 with h1 | ⟨g, cap, cur, rfl, h2, h3, h4⟩
  · exact .inl h1
  · exact .inr ⟨g, cap, cur, rfl, h2, by rw [hk g rfl]; exact h3, h4⟩
theorem TreeAt.below {W W' : World} {N bt : Nat} {es : List Ent} (h : TreeAt W N bt es) (hb : Below W.heap.size W W') : TreeAt W' N bt es := by
  obtain ⟨vp, vn, h1, h2, h3⟩ := h
  exact ⟨vp, vn, (hb.block bt (Array.getElem?_eq_some_iff.1 h1).1).trans h1, ownsRow_kept h2 (fun g e => hb.block g (h2.lt g e).2), ownsRow_kept h3 (fun g e => hb.block g (h3.lt g e).2)⟩
theorem texts_of {W : World} {N : Nat} {v : Value} {es : List Ent} (h : W.ownsRow N 9 1 v es.length (es.map fun e => .string e.path)) : ∃ a cap, v = .slice a (pathsOf es).length cap ∧ TextsAt W a (pathsOf es) := by
  have hl : (pathsOf es).length = es.length := by simp [pathsOf]
  rcases h.2 with ⟨rfl, h0⟩ | ⟨g, cap, cur, rfl, _, hg, hc, _, hsz, hcells⟩
  · exact ⟨.none, 0, by rw [hl, h0], .inl (by rw [← List.length_eq_zero_iff, hl, h0])⟩
  · refine ⟨_, cap, by rw [hl], .inr ⟨g, 0, rfl, (Array.getElem?_eq_some_iff.1 hg).1, fun i x hi => ?_⟩⟩
    have hil : i < es.length := by rw [← hl]; exact (List.getElem?_eq_some_iff.1 hi).1
    have h1 : (cur.toList.take (es.length * 1))[i]? = some (.string x) := by
      rw [hcells, List.getElem?_map]
      unfold pathsOf at hi
      rw [List.getElem?_map] at hi
      cases he : es[i]? with
      | none => rw [he] at hi; cases hi
      | some e => rw [he] at hi; cases hi; rfl
    rw [List.getElem?_take_of_lt (by omega), Array.getElem?_toList] at h1
    simp [World.cell?, hg, h1]
theorem node_of {W : World} {N : Nat} {v : Value} {es : List Ent} {i : Nat} {e : Ent} (h : W.ownsRow N 121 1 v es.length (es.map nodeV)) (he : es[i]? = some e) : ∃ g cap, v = .slice (some ⟨g, 0, .none⟩) es.length cap ∧ W.cell? ⟨g, i, .none⟩ = some (nodeV e) ∧ es.length ≤ cap := by
  have hil : i < es.length := (List.getElem?_eq_some_iff.1 he).1
  rcases h.2 with ⟨rfl, h0⟩ | ⟨g, cap, cur, rfl, _, hg, hc, _, hsz, hcells⟩
  · omega
  · refine ⟨g, cap, rfl, ?_, hc⟩
    have h1 : (cur.toList.take (es.length * 1))[i]? = some (nodeV e) := by rw [hcells, List.getElem?_map, he]; rfl
    rw [List.getElem?_take_of_lt (by omega), Array.getElem?_toList] at h1
    simp [World.cell?, hg, h1]
theorem placeP_E : ∀ (es : List Ent) (p : ByteArray), placeP (pathsOf es) p = placeE es p
  | [], _ => rfl
  | e :: es, p => by
    have ih := placeP_E es p
    unfold placeP placeE pathsOf at *
    rw [List.map_cons, List.takeWhile_cons, List.takeWhile_cons]
    cases ltS e.path p
    · rfl
    · simp only [if_true, List.length_cons, ih]
theorem thereP_E (es : List Ent) (p : ByteArray) : thereP (pathsOf es) p = thereE es p := by
  unfold thereP thereE
  rw [placeP_E]
  unfold pathsOf
  rw [List.getElem?_map]
  cases es[placeE es p]? <;> rfl
theorem there_get {es : List Ent} {p : ByteArray} (h : thereE es p = true) : ∃ e, es[placeE es p]? = some e ∧ e.path = p := by
  unfold thereE at h
  cases hx : es[placeE es p]? with
  | none => rw [hx] at h; cases h
  | some e => rw [hx] at h; exact ⟨e, rfl, (eqS_iff _ _).1 h⟩
def getV (es : List Ent) (p : ByteArray) : Value := if thereE es p then nodeV (entFn es (placeE es p)) else .nilIface

set_option maxRecDepth 100000 in
set_option maxHeartbeats 2000000 in
theorem mapGet_any (N bt : Nat) (es : List Ent) (p : ByteArray) (w : World) (hn : es.length ≤ 1000) (ha : Asc (pathsOf es)) (h : TreeAt w N bt es) :
    Calls Tryz.prog 82 #[.pointer (some ⟨bt, 0, .none⟩), .string p] w fun x w' => x = .returned (.tuple #[getV es p, .bool (thereE es p)]) ∧ w' = w := by
  obtain ⟨vp, vn, h1, h2, h3⟩ := h
  have c0 : w.cell? ⟨bt, 0, .none⟩ = some vp := by simp [World.cell?, h1]
  have c1 : w.cell? ⟨bt, 1, .none⟩ = some vn := by simp [World.cell?, h1]
  obtain ⟨a, cap, rfl, hT⟩ := texts_of h2
  have hl : (pathsOf es).length ≤ 1048576 := by simp [pathsOf]; omega
  have HT := hid (And.intro hl (And.intro ha hT))
  clear hT ha hl h2
  cases ht : thereE es p
  · have E := hid (show getV es p = .nilIface by unfold getV; rw [ht]; rfl)
    clear h1 h3
    go_enter Tryz.func82, Tryz.ntmps82
    go_wp2_with fail
    refine (BinarySearch_any (pathsOf es) a cap p _ (unhid HT).1 (unhid HT).2.1 (unhid HT).2.2).mono ?_
    rintro x w2 ⟨rfl, rfl⟩
    rw [thereP_E, ht]
    go_wp2_with fail
    go_ret2
    exact ⟨by rw [unhid E]; rfl, rfl⟩
  · obtain ⟨e, he, _⟩ := there_get ht
    obtain ⟨g, cap2, rfl, hc, hle⟩ := node_of h3 he
    have hpl : placeE es p < es.length := (List.getElem?_eq_some_iff.1 he).1
    have E := hid (show getV es p = nodeV e by unfold getV; rw [ht, entFn_get he]; rfl)
    clear h1 h3 he
    go_enter Tryz.func82, Tryz.ntmps82
    go_wp2_with fail
    refine (BinarySearch_any (pathsOf es) a cap p _ (unhid HT).1 (unhid HT).2.1 (unhid HT).2.2).mono ?_
    rintro x w2 ⟨rfl, rfl⟩
    rw [thereP_E, ht, placeP_E]
    go_wp2_with fail
    go_ret2
    exact ⟨by rw [unhid E]; rfl, rfl⟩
end Go.Proofs.YtoihhlkidlapmaaGreat

/- Whether a path has a place in a tree; an entry put at its end. -/
namespace Go.Proofs.YtoihhlkidlapmaaGreat
open Go.RowKit Go.Shelf

set_option maxRecDepth 100000 in
set_option maxHeartbeats 4000000 in
theorem isDir_no (w : World) : Calls Tryz.prog 258 #[.nilIface] w fun x w' => x = .returned (.bool false) ∧ Below w.heap.size w w' := by
  have hta : ∀ w, (Instr.typeAssert .nilIface 121 176 true).run Tryz.prog w = .ok (.tuple #[.agg #[.int .i64 0], .bool false]) w := fun _ => by kernel_rfl
  go_enter Tryz.func258, Tryz.ntmps258
  go_wp2_with fail
  go_ret
  exact ⟨rfl, (Below.refl _ _).alloc (Nat.le_refl _) _⟩
set_option maxRecDepth 100000 in
set_option maxHeartbeats 4000000 in
theorem isDir_node (e : Ent) (w : World) : Calls Tryz.prog 258 #[nodeV e] w fun x w' => x = .returned (.bool (e.kind == 1)) ∧ Below w.heap.size w w' := by
  by_cases k1 : e.kind = 1
  · rw [show nodeV e = .iface 176 (.agg #[.int .i64 e.mode]) by unfold nodeV; rw [if_pos k1]]
    have hta : ∀ w, (Instr.typeAssert (.iface 176 (.agg #[.int .i64 e.mode])) 121 176 true).run Tryz.prog w = .ok (.tuple #[.agg #[.int .i64 e.mode], .bool true]) w := fun _ => by kernel_rfl
    rw [k1]
    clear k1
    go_enter Tryz.func258, Tryz.ntmps258
    go_wp2_with fail
    go_ret
    exact ⟨rfl, (Below.refl _ _).alloc (Nat.le_refl _) _⟩
  · rw [show (e.kind == 1) = false by simpa using k1]
    by_cases k2 : e.kind = 2
    · rw [show nodeV e = .iface 178 (.agg #[.int .i64 e.mode, .string e.text]) by unfold nodeV; rw [if_neg k1, if_pos k2]]
      have hta : ∀ w, (Instr.typeAssert (.iface 178 (.agg #[.int .i64 e.mode, .string e.text])) 121 176 true).run Tryz.prog w = .ok (.tuple #[.agg #[.int .i64 0], .bool false]) w := fun _ => by kernel_rfl
      clear k1 k2
      go_enter Tryz.func258, Tryz.ntmps258
      go_wp2_with fail
      go_ret
      exact ⟨rfl, (Below.refl _ _).alloc (Nat.le_refl _) _⟩
    · rw [show nodeV e = .iface 180 (.agg #[.string e.text]) by unfold nodeV; rw [if_neg k1, if_neg k2]]
      have hta : ∀ w, (Instr.typeAssert (.iface 180 (.agg #[.string e.text])) 121 176 true).run Tryz.prog w = .ok (.tuple #[.agg #[.int .i64 0], .bool false]) w := fun _ => by kernel_rfl
      clear k1 k2
      go_enter Tryz.func258, Tryz.ntmps258
      go_wp2_with fail
      go_ret
      exact ⟨rfl, (Below.refl _ _).alloc (Nat.le_refl _) _⟩
theorem isDir_get (es : List Ent) (p : ByteArray) (he : p.toList.isEmpty = false) (w : World) : Calls Tryz.prog 258 #[getV es p] w fun x w' => x = .returned (.bool (dirE es p)) ∧ Below w.heap.size w w' := by
  cases ht : thereE es p
  · rw [show getV es p = .nilIface by unfold getV; rw [ht]; rfl, show dirE es p = false by unfold dirE; rw [he, ht]; rfl]
    exact isDir_no w
  · rw [show getV es p = nodeV (entFn es (placeE es p)) by unfold getV; rw [ht]; rfl, show dirE es p = ((entFn es (placeE es p)).kind == 1) by unfold dirE; rw [he, ht]; simp]
    exact isDir_node _ w

set_option maxRecDepth 100000 in
set_option maxHeartbeats 4000000 in
theorem hasPlace_any (N bt : Nat) (es : List Ent) (p : ByteArray) (w : World) (hp : p.size ≤ maxLen) (hn : es.length ≤ 1000) (ha : Asc (pathsOf es)) (h : TreeAt w N bt es) :
    Calls Tryz.prog 210 #[.pointer (some ⟨bt, 0, .none⟩), .string p] w fun x w' => x = .returned (.bool (dirE es (pathUpS p))) ∧ Below w.heap.size w w' := by
  have HH := hid h
  have HA := hid ha
  clear h ha
  cases he : (pathUpS p).toList.isEmpty
  · have HE := hid he
    go_enter Tryz.func210, Tryz.ntmps210
    go_wp2_with fail
    refine (PathUp_any p hp _).mono ?_
    rintro x w2 ⟨rfl, hb⟩
    have HB := hid hb
    clear hb
    go_wp2_with fail
    refine (mapGet_any N bt es (pathUpS p) w2 hn (unhid HA) ((unhid HH).below (unhid HB))).mono ?_
    rintro x w3 ⟨rfl, hw3⟩
    rw [hw3]
    clear hw3
    have ISD := hid (isDir_get es (pathUpS p) (unhid HE) w2)
    generalize getV es (pathUpS p) = gv at *
    generalize thereE es (pathUpS p) = gt at *
    go_wp2_with fail
    refine (unhid ISD).mono ?_
    rintro x w4 ⟨rfl, hb⟩
    go_wp2_with fail
    go_ret
    exact ⟨rfl, (unhid HB).trans (hb.mono (unhid HB).size)⟩
  · have E := hid (show dirE es (pathUpS p) = true by unfold dirE; rw [he]; rfl)
    go_enter Tryz.func210, Tryz.ntmps210
    go_wp2_with fail
    refine (PathUp_any p hp _).mono ?_
    rintro x w2 ⟨rfl, hb⟩
    have HB := hid hb
    clear hb
    go_wp2_with fail
    go_ret
    exact ⟨by rw [unhid E]; rfl, unhid HB⟩
end Go.Proofs.YtoihhlkidlapmaaGreat

/- An entry put at a tree's end. -/
namespace Go.Proofs.YtoihhlkidlapmaaGreat
open Go.RowKit Go.Shelf

theorem type_ne {W : World} {g b : Nat} {cur cur' : Array Value} {e e' : TypeId} {f f' : Nat × Nat} (h : W.heap[g]? = some (.cells cur e f)) (h' : W.heap[b]? = some (.cells cur' e' f')) (hne : e ≠ e') : g ≠ b := by
  rintro rfl; rw [h] at h'; cases h'; exact hne rfl
theorem row_ne {W : World} {N n b size : Nat} {v : Value} {e e' : TypeId} {xs : List Value} {cur' : Array Value} {f' : Nat × Nat} (h : W.ownsRow N e size v n xs) (h' : W.heap[b]? = some (.cells cur' e' f')) (hne : e ≠ e') : some b ≠ v.ownBlock := by
  intro eq
  rcases h.2 with ⟨rfl, _⟩ | ⟨g, cap, cur, rfl, _, hg, _⟩
  · cases eq
  · cases eq; exact type_ne hg h' hne rfl
/-- A block that is neither a row of texts nor one of what stands at paths. -/
def Apart (o : Obj) : Prop := ∀ cs t f, o = .cells cs t f → t ≠ 9 ∧ t ≠ 121
theorem two_cells {W : World} {bt : Nat} {u v : Value} {t : TypeId} (h : W.heap[bt]? = some (.cells #[u, v] t (0, 0))) : W.cell? ⟨bt, 0, .none⟩ = some u ∧ W.cell? ⟨bt, 1, .none⟩ = some v ∧ W.frozen? ⟨bt, 0, .none⟩ = false ∧ W.frozen? ⟨bt, 1, .none⟩ = false := by
  refine ⟨?_, ?_, ?_, ?_⟩ <;> simp [World.cell?, World.frozen?, h]

theorem nodeV_shape (e : Ent) : ∃ T nv, nodeV e = .iface T nv := by
  unfold nodeV; split
  · exact ⟨_, _, rfl⟩
  · split <;> exact ⟨_, _, rfl⟩
set_option maxRecDepth 100000 in
set_option maxHeartbeats 4000000 in
theorem mapPut_end (N bt : Nat) (es : List Ent) (e : Ent) (w : World) (hn : es.length ≤ 900) (ha : Asc (pathsOf es)) (hN : N ≤ bt) (hpl : placeE es e.path = es.length) (h : TreeAt w N bt es) :
    Calls Tryz.prog 172 #[.pointer (some ⟨bt, 0, .none⟩), .string e.path, nodeV e] w fun x w' => (∃ v, x = .returned v) ∧ TreeAt w' N bt (es ++ [e]) ∧ Below N w w' ∧ ∀ k o, k ≠ bt → w.heap[k]? = some o → Apart o → w'.heap[k]? = some o := by
  have hbl := h.lt
  obtain ⟨vp, vn, h1, h2, h3⟩ := h
  obtain ⟨a, cap, hva, hT⟩ := texts_of h2
  have hpn : (pathsOf es).length = es.length := by simp [pathsOf]
  have hl : (pathsOf es).length ≤ 1048576 := by omega
  have ht : thereP (pathsOf es) e.path = false := by rw [thereP_E]; unfold thereE; rw [hpl, List.getElem?_eq_none (Nat.le_refl _)]; rfl
  have hpp : placeP (pathsOf es) e.path = es.length := by rw [placeP_E, hpl]
  have hS := BinarySearch_any (pathsOf es) a cap e.path w hl ha hT
  rw [hpp, ht, hpn] at hS
  rw [hpn] at hva
  subst hva
  obtain ⟨T, nv, hV⟩ := nodeV_shape e
  have hIN := fun v n xs b w => InsertN_end N v n xs b e w
  simp only [hV] at hIN
  rw [hV]
  have HV := hid hV
  have HIN := hid hIN
  clear hV hIN
  have HS := hid hS
  obtain ⟨c0, c1, f0, f1⟩ := two_cells h1
  have H2 := hid h2
  have H3 := hid h3
  have H1 := hid h1
  clear hT ha hl ht hpp h1 h2 h3 hpn hpl hS
  go_enter Tryz.func172, Tryz.ntmps172
  go_wp2_with fail
  refine (unhid HS).mono ?_
  rintro x w1 ⟨rfl, hw1⟩
  rw [hw1]
  clear hw1
  go_wp2_with fail
  refine (InsertS_end N _ es.length _ w.heap.size e.path (w.alloc (.cells #[.string e.path] 9)) (by omega) (by simp; omega) ((unhid H2).alloc _) (cell_new_l w _ _).1).mono ?_
  rintro x w2 ⟨v2, rfl, hown2, hgrow2, -⟩
  obtain ⟨g2, cap2, rfl⟩ := ownsRow_succ hown2
  have h1a : (w.alloc (.cells #[.string e.path] 9)).heap[bt]? = some (.cells #[.slice a es.length cap, vn] 117 (0, 0)) := (Below.heap_alloc _ _ _ hbl).trans (unhid H1)
  have h12 : w2.heap[bt]? = some (.cells #[.slice a es.length cap, vn] 117 (0, 0)) := (hgrow2.block bt (by simp; omega) (row_ne ((unhid H2).alloc (.cells #[.string e.path] 9)) h1a (by decide))).trans h1a
  obtain ⟨c0, c1, f0, f1⟩ := two_cells h12
  have h32 : w2.ownsRow N 121 1 vn es.length (es.map nodeV) := by
    refine ownsRow_kept ((unhid H3).alloc (.cells #[.string e.path] 9)) (fun g hg => hgrow2.block g (((unhid H3).alloc (.cells #[.string e.path] 9)).lt g hg).2 ?_)
    rcases ((unhid H3).alloc (.cells #[.string e.path] 9)).2 with ⟨rfl, _⟩ | ⟨g', cap', cur', rfl, _, hgc, _⟩
    · cases hg
    · cases hg; exact row_ne ((unhid H2).alloc (.cells #[.string e.path] 9)) hgc (by decide)
  have hg2w : g2 ≠ bt := fun eq => by
    rcases hown2.2 with ⟨h, _⟩ | ⟨g', cap', cur', hv, _, hgc, _⟩
    · cases h
    · cases hv; exact type_ne hgc h12 (by decide) eq
  have HB2 := hid (And.intro hown2 (And.intro hgrow2 (And.intro h12 h32)))
  have hsz2 : w.heap.size + 1 ≤ w2.heap.size := by have := hgrow2.size; simpa using this
  clear hown2 hgrow2 h12 h32 h1a
  go_wp2_with fail
  obtain ⟨W3, hW3⟩ : ∃ W3, W3 = (w2.setCell ⟨bt, 0, .none⟩ (.slice (some ⟨g2, 0, .none⟩) (es.length + 1) cap2)).alloc (.cells #[.iface T nv] 121) := ⟨_, rfl⟩
  rw [← hW3]
  obtain ⟨hown2, hgrow2, h12, h32⟩ := unhid HB2
  have hbl2 : bt < w2.heap.size := by omega
  have h13 : W3.heap[bt]? = some (.cells #[.slice (some ⟨g2, 0, .none⟩) (es.length + 1) cap2, vn] 117 (0, 0)) := by
    rw [hW3, Below.heap_alloc _ _ _ (by simp; omega), heap_setCell_same _ bt 0 _ _ _ h12]; rfl
  have hk3 : ∀ g, g < w2.heap.size → g ≠ bt → W3.heap[g]? = w2.heap[g]? := fun g hg hne => by
    rw [hW3, Below.heap_alloc _ _ _ (by simpa using hg), Below.heap_setCell _ _ _ _ hne]
  have h33 : W3.ownsRow N 121 1 vn es.length (es.map nodeV) := ownsRow_kept h32 (fun g hg => hk3 g (h32.lt g hg).2 (fun eq => (row_ne h32 h12 (by decide)) (by rw [hg, eq])))
  have hown3 : W3.ownsRow N 9 1 (.slice (some ⟨g2, 0, .none⟩) (es.length + 1) cap2) (es.length + 1) (es.map (fun e => .string e.path) ++ [.string e.path]) := ownsRow_kept hown2 (fun g hg => hk3 g (hown2.lt g hg).2 (fun eq => by cases hg; exact hg2w eq))
  have hs3 : W3.heap.size = w2.heap.size + 1 := by rw [hW3]; simp
  have hc3 : W3.cell? ⟨w2.heap.size, 0, .none⟩ = some (.iface T nv) := by
    rw [hW3]; have := (cell_new_l (w2.setCell ⟨bt, 0, .none⟩ (.slice (some ⟨g2, 0, .none⟩) (es.length + 1) cap2)) (.iface T nv) 121).1; simpa using this
  refine (unhid HIN vn es.length _ w2.heap.size W3 (by omega) (by omega) h33 hc3).mono ?_
  rintro x w4 ⟨v4, rfl, hown4, hgrow4, -⟩
  obtain ⟨g4, cap4, rfl⟩ := ownsRow_succ hown4
  have h14 : w4.heap[bt]? = some (.cells #[.slice (some ⟨g2, 0, .none⟩) (es.length + 1) cap2, vn] 117 (0, 0)) := (hgrow4.block bt (by omega) (row_ne h33 h13 (by decide))).trans h13
  have hrow4 : w4.ownsRow N 9 1 (.slice (some ⟨g2, 0, .none⟩) (es.length + 1) cap2) (es.length + 1) (es.map (fun e => .string e.path) ++ [.string e.path]) := ownsRow_kept hown3 (fun g hg => hgrow4.block g (hown3.lt g hg).2 (by
    rcases hown3.2 with ⟨h, _⟩ | ⟨g', cap', cur', hv, _, hgc, _⟩
    · cases h
    · cases hv; cases hg; exact row_ne h33 hgc (by decide)))
  obtain ⟨c0, c1, f0, f1⟩ := two_cells h14
  have hg4w : g4 ≠ bt := fun eq => by
    rcases hown4.2 with ⟨h, _⟩ | ⟨g', cap', cur', hv, _, hgc, _⟩
    · cases h
    · cases hv; exact type_ne hgc h14 (by decide) eq
  have hF : TreeAt (w4.setCell ⟨bt, 1, .none⟩ (.slice (some ⟨g4, 0, .none⟩) (es.length + 1) cap4)) N bt (es ++ [e]) := by
    refine ⟨.slice (some ⟨g2, 0, .none⟩) (es.length + 1) cap2, .slice (some ⟨g4, 0, .none⟩) (es.length + 1) cap4, ?_, ?_, ?_⟩
    · rw [heap_setCell_same _ bt 1 _ _ _ h14]; rfl
    · rw [List.length_append, List.map_append]
      exact ownsRow_kept hrow4 (fun g hg => Below.heap_setCell _ _ _ _ (fun eq => by cases hg; exact hg2w eq))
    · rw [List.length_append, List.map_append]
      rw [← unhid HV] at hown4
      exact ownsRow_kept hown4 (fun g hg => Below.heap_setCell _ _ _ _ (fun eq => by cases hg; exact hg4w eq))
  have hB : Below N w (w4.setCell ⟨bt, 1, .none⟩ (.slice (some ⟨g4, 0, .none⟩) (es.length + 1) cap4)) := by
    have b1 : Below N w (w.alloc (.cells #[.string e.path] 9)) := (Below.refl _ _).alloc (by omega) _
    have b2 : Below N w w2 := b1.grown hgrow2 (by simp; omega) (fun g hg => (((unhid H2).alloc (.cells #[.string e.path] 9)).lt g hg).1)
    have b3 : Below N w W3 := by rw [hW3]; exact (b2.setCell hN _).alloc (by simp; omega) _
    have b4 : Below N w w4 := b3.grown hgrow4 (by omega) (fun g hg => (h33.lt g hg).1)
    exact b4.setCell hN _
  have hO : ∀ k o, k ≠ bt → w.heap[k]? = some o → Apart o → (w4.setCell ⟨bt, 1, .none⟩ (.slice (some ⟨g4, 0, .none⟩) (es.length + 1) cap4)).heap[k]? = some o := by
    intro k o hk ho hap
    have hkl : k < w.heap.size := (Array.getElem?_eq_some_iff.1 ho).1
    have a1 : (w.alloc (.cells #[.string e.path] 9)).heap[k]? = some o := (Below.heap_alloc _ _ _ hkl).trans ho
    have a2 : w2.heap[k]? = some o := (hgrow2.block k (by simp; omega) (fun eq => by
      rcases ((unhid H2).alloc (.cells #[.string e.path] 9)).2 with ⟨h, _⟩ | ⟨g', cap', cur', hv, _, hgc, _⟩
      · rw [h] at eq; cases eq
      · rw [hv] at eq; cases eq; rw [a1] at hgc; cases hgc; exact (hap _ _ _ rfl).1 rfl)).trans a1
    have a3 : W3.heap[k]? = some o := (hk3 k (by omega) hk).trans a2
    have a4 : w4.heap[k]? = some o := (hgrow4.block k (by omega) (fun eq => by
      rcases h33.2 with ⟨h, _⟩ | ⟨g', cap', cur', hv, _, hgc, _⟩
      · rw [h] at eq; cases eq
      · rw [hv] at eq; cases eq; rw [a3] at hgc; cases hgc; exact (hap _ _ _ rfl).2 rfl)).trans a3
    exact (Below.heap_setCell _ _ _ _ hk).trans a4
  have HF := hid (And.intro hF (And.intro hB hO))
  clear hF hB hO hown4 hgrow4 h14 hrow4 h13 hk3 h33 hown3 hc3 hW3 hown2 hgrow2 h12 h32 HB2
  go_wp2_with fail
  go_end0
  exact ⟨⟨_, rfl⟩, unhid HF⟩
end Go.Proofs.YtoihhlkidlapmaaGreat

/- An entry put at the end of a tree, if it can be. -/
namespace Go.Proofs.YtoihhlkidlapmaaGreat
open Go.RowKit Go.Shelf

def putB (es : List Ent) (e : Ent) : Bool := entB e && (dirE es (pathUpS e.path) && decide (es.length ≠ 16))
def nextE (es : List Ent) (e : Ent) : List Ent := if putB es e then es ++ [e] else es
theorem nextE_no {es : List Ent} {e : Ent} (h : putB es e = false) : nextE es e = es := by unfold nextE; rw [h]; rfl
theorem nextE_yes {es : List Ent} {e : Ent} (h : putB es e = true) : nextE es e = es ++ [e] := by unfold nextE; rw [h]; rfl
def Kept (N bt : Nat) (w w' : World) : Prop := Below N w w' ∧ ∀ k o, k ≠ bt → w.heap[k]? = some o → Apart o → w'.heap[k]? = some o
theorem Kept.of_below {N bt : Nat} {w w' : World} (h : Below w.heap.size w w') (hN : N ≤ w.heap.size) : Kept N bt w w' := ⟨h.mono hN, fun k _ _ ho _ => (h.block k (Array.getElem?_eq_some_iff.1 ho).1).trans ho⟩
theorem Kept.trans {N bt : Nat} {a b c : World} (h : Kept N bt a b) (g : Kept N bt b c) : Kept N bt a c := ⟨h.1.trans g.1, fun k o hk ho hap => g.2 k o hk (h.2 k o hk ho hap) hap⟩

set_option maxRecDepth 100000 in
set_option maxHeartbeats 8000000 in
theorem putEntry_end (N bt : Nat) (es : List Ent) (e : Ent) (w : World) (hp : e.path.size ≤ maxLen) (htx : e.text.size ≤ maxLen) (hn : es.length ≤ 16) (ha : Asc (pathsOf es)) (hN : N ≤ bt) (hpl : placeE es e.path = es.length) (h : TreeAt w N bt es) :
    Calls Tryz.prog 138 #[.pointer (some ⟨bt, 0, .none⟩), .agg e.vals] w fun x w' => x = .returned (.bool (putB es e)) ∧ TreeAt w' N bt (nextE es e) ∧ Kept N bt w w' := by
  have hbl := h.lt
  have hth : thereE es e.path = false := by unfold thereE; rw [hpl, List.getElem?_eq_none (Nat.le_refl _)]; rfl
  have hgv : getV es e.path = .nilIface := by unfold getV; rw [hth]; rfl
  have HT := hid (And.intro hth (And.intro hgv (And.intro ha hpl)))
  have hNw : N ≤ w.heap.size := by omega
  have h0 : TreeAt (w.alloc (.cells #[.string e.path, .int .i64 e.kind, .int .i64 e.mode, .string e.text] 57)) N bt es := h.below ((Below.refl _ w).alloc (Nat.le_refl _) _)
  have hk0 : Kept N bt w (w.alloc (.cells #[.string e.path, .int .i64 e.kind, .int .i64 e.mode, .string e.text] 57)) := Kept.of_below ((Below.refl _ w).alloc (Nat.le_refl _) _) hNw
  have hnw := World.alloc_heap_new w (.cells #[.string e.path, .int .i64 e.kind, .int .i64 e.mode, .string e.text] 57)
  have hs0 : w.heap.size < (w.alloc (.cells #[.string e.path, .int .i64 e.kind, .int .i64 e.mode, .string e.text] 57)).heap.size := by simp
  have H0 := hid (And.intro h0 hk0)
  have X0 := hid (show (w.alloc (.cells #[.string e.path, .int .i64 e.kind, .int .i64 e.mode, .string e.text] 57)).cell? ⟨w.heap.size, 0, .none⟩ = some (.string e.path) by unfold World.cell?; dsimp only; rw [hnw]; rfl)
  have X1 := hid (show (w.alloc (.cells #[.string e.path, .int .i64 e.kind, .int .i64 e.mode, .string e.text] 57)).cell? ⟨w.heap.size, 1, .none⟩ = some (.int .i64 e.kind) by unfold World.cell?; dsimp only; rw [hnw]; rfl)
  clear hth hgv ha hpl h h0 hk0 hnw
  have hN0 := hid (nodeOf_any e hp htx (w.alloc (.cells #[.string e.path, .int .i64 e.kind, .int .i64 e.mode, .string e.text] 57)))
  cases he : entB e
  · have E := hid (show putB es e = false by unfold putB; rw [he]; rfl)
    go_enter Tryz.func138, Tryz.ntmps138
    unfold Ent.vals
    go_wp2_with fail
    refine (unhid hN0).mono ?_
    rintro x w1 ⟨⟨v, rfl, hv, -⟩, hb⟩
    rw [he]
    have HK := hid (And.intro ((unhid H0).1.below hb) ((unhid H0).2.trans (Kept.of_below hb (by simp; omega))))
    clear hb
    go_wp2_with fail
    go_ret
    exact ⟨by rw [unhid E]; rfl, by rw [nextE_no (unhid E)]; exact (unhid HK).1, (unhid HK).2⟩
  · cases hd : dirE es (pathUpS e.path)
    · have E := hid (show putB es e = false by unfold putB; rw [hd]; simp)
      go_enter Tryz.func138, Tryz.ntmps138
      unfold Ent.vals
      go_wp2_with fail
      refine (unhid hN0).mono ?_
      rintro x w1 ⟨⟨v, rfl, hv, -⟩, hb⟩
      rw [he]
      have HK := hid (And.intro ((unhid H0).1.below hb) ((unhid H0).2.trans (Kept.of_below hb (by simp; omega))))
      have c0 := (hb.cell (p := ⟨w.heap.size, 0, .none⟩) hs0).trans (unhid X0)
      clear hb
      go_wp2_with fail
      refine (hasPlace_any N bt es e.path w1 hp (by omega) (unhid HT).2.2.1 (unhid HK).1).mono ?_
      rintro x w2 ⟨rfl, hb⟩
      rw [hd]
      have HK2 := hid (And.intro ((unhid HK).1.below hb) ((unhid HK).2.trans (Kept.of_below hb (Nat.le_trans hNw (unhid HK).2.1.size))))
      clear hb
      go_wp2_with fail
      go_ret
      exact ⟨by rw [unhid E]; rfl, by rw [nextE_no (unhid E)]; exact (unhid HK2).1, (unhid HK2).2⟩
    · by_cases h16 : es.length = 16
      · have E := hid (show putB es e = false by unfold putB; rw [h16]; simp)
        go_enter Tryz.func138, Tryz.ntmps138
        unfold Ent.vals
        go_wp2_with fail
        refine (unhid hN0).mono ?_
        rintro x w1 ⟨⟨v, rfl, hv, -⟩, hb⟩
        rw [he]
        have HK := hid (And.intro ((unhid H0).1.below hb) ((unhid H0).2.trans (Kept.of_below hb (by simp; omega))))
        have c0 := (hb.cell (p := ⟨w.heap.size, 0, .none⟩) hs0).trans (unhid X0)
        have hs1 := Nat.lt_of_lt_of_le hs0 hb.size
        clear hb
        go_wp2_with fail
        refine (hasPlace_any N bt es e.path w1 hp (by omega) (unhid HT).2.2.1 (unhid HK).1).mono ?_
        rintro x w2 ⟨rfl, hb⟩
        rw [hd]
        have HK2 := hid (And.intro ((unhid HK).1.below hb) ((unhid HK).2.trans (Kept.of_below hb (Nat.le_trans hNw (unhid HK).2.1.size))))
        have d0 := (hb.cell (p := ⟨w.heap.size, 0, .none⟩) hs1).trans c0
        clear hb c0
        go_wp2_with fail
        go_quiet ((go_at_call 82; refine Calls.quiet_of_same (v := .tuple #[.nilIface, .bool false]) ((mapGet_any N bt es e.path _ (by omega) (unhid HT).2.2.1 ((unhid HK2).1.below (drewN_below _ _))).mono ?_); rintro x w3 ⟨rfl, rfl⟩; exact ⟨by rw [(unhid HT).2.1, (unhid HT).1], rfl⟩))
        have HK3 := hid (And.intro ((unhid HK2).1.below (drewN_below w2 nq)) ((unhid HK2).2.trans (Kept.of_below (drewN_below w2 nq) (Nat.le_trans hNw (unhid HK2).2.1.size))))
        have d3 : (w2.drewN nq).cell? ⟨w.heap.size, 0, .none⟩ = some (.string e.path) := d0
        clear d0
        generalize w2.drewN nq = w3 at HK3 d3 ⊢
        go_wp2_with fail
        go_quiet (fail)
        have HK4 := hid (And.intro ((unhid HK3).1.below (drewN_below w3 nq)) ((unhid HK3).2.trans (Kept.of_below (drewN_below w3 nq) (Nat.le_trans hNw (unhid HK3).2.1.size))))
        have d4 : (w3.drewN nq).cell? ⟨w.heap.size, 0, .none⟩ = some (.string e.path) := d3
        clear d3
        generalize w3.drewN nq = w4 at HK4 d4 ⊢
        obtain ⟨vp, vn, t1, t2, t3⟩ := (unhid HK4).1
        obtain ⟨c0, c1, f0, f1⟩ := two_cells t1
        obtain ⟨va, vcap, rfl⟩ : ∃ va vcap, vp = .slice va es.length vcap := by
          rcases ownsRow_sh t2 with ⟨rfl, h0⟩ | ⟨g, cap, rfl, _⟩
          · exact ⟨.none, 0, by rw [h0]⟩
          · exact ⟨_, _, rfl⟩
        clear t1 t2 t3 c1 f0 f1
        have h16' : ((es.length : Int) == 16) = true := by simp [h16]
        clear h16
        go_wp2_with fail
        go_ret
        exact ⟨by rw [unhid E]; rfl, by rw [nextE_no (unhid E)]; exact (unhid HK4).1, (unhid HK4).2⟩
      · have E := hid (show putB es e = true by unfold putB; rw [he, hd]; simpa using h16)
        go_enter Tryz.func138, Tryz.ntmps138
        unfold Ent.vals
        go_wp2_with fail
        refine (unhid hN0).mono ?_
        rintro x w1 ⟨⟨v, rfl, -, hv⟩, hb⟩
        obtain rfl := hv he
        rw [he]
        have HK := hid (And.intro ((unhid H0).1.below hb) ((unhid H0).2.trans (Kept.of_below hb (by simp; omega))))
        have c0 := (hb.cell (p := ⟨w.heap.size, 0, .none⟩) hs0).trans (unhid X0)
        have hs1 := Nat.lt_of_lt_of_le hs0 hb.size
        clear hb hv
        go_wp2_with fail
        refine (hasPlace_any N bt es e.path w1 hp (by omega) (unhid HT).2.2.1 (unhid HK).1).mono ?_
        rintro x w2 ⟨rfl, hb⟩
        rw [hd]
        have HK2 := hid (And.intro ((unhid HK).1.below hb) ((unhid HK).2.trans (Kept.of_below hb (Nat.le_trans hNw (unhid HK).2.1.size))))
        have d0 := (hb.cell (p := ⟨w.heap.size, 0, .none⟩) hs1).trans c0
        clear hb c0
        go_wp2_with fail
        go_quiet ((go_at_call 82; refine Calls.quiet_of_same (v := .tuple #[.nilIface, .bool false]) ((mapGet_any N bt es e.path _ (by omega) (unhid HT).2.2.1 ((unhid HK2).1.below (drewN_below _ _))).mono ?_); rintro x w3 ⟨rfl, rfl⟩; exact ⟨by rw [(unhid HT).2.1, (unhid HT).1], rfl⟩))
        have HK3 := hid (And.intro ((unhid HK2).1.below (drewN_below w2 nq)) ((unhid HK2).2.trans (Kept.of_below (drewN_below w2 nq) (Nat.le_trans hNw (unhid HK2).2.1.size))))
        have d3 : (w2.drewN nq).cell? ⟨w.heap.size, 0, .none⟩ = some (.string e.path) := d0
        clear d0
        generalize w2.drewN nq = w3 at HK3 d3 ⊢
        go_wp2_with fail
        go_quiet (fail)
        have HK4 := hid (And.intro ((unhid HK3).1.below (drewN_below w3 nq)) ((unhid HK3).2.trans (Kept.of_below (drewN_below w3 nq) (Nat.le_trans hNw (unhid HK3).2.1.size))))
        have d4 : (w3.drewN nq).cell? ⟨w.heap.size, 0, .none⟩ = some (.string e.path) := d3
        clear d3
        generalize w3.drewN nq = w4 at HK4 d4 ⊢
        obtain ⟨vp, vn, t1, t2, t3⟩ := (unhid HK4).1
        obtain ⟨c0, c1, f0, f1⟩ := two_cells t1
        obtain ⟨va, vcap, rfl⟩ : ∃ va vcap, vp = .slice va es.length vcap := by
          rcases ownsRow_sh t2 with ⟨rfl, h0⟩ | ⟨g, cap, rfl, _⟩
          · exact ⟨.none, 0, by rw [h0]⟩
          · exact ⟨_, _, rfl⟩
        clear t1 t2 t3 c1 f0 f1
        have h16' : ((es.length : Int) == 16) = false := by rw [beq_eq_false_iff_ne]; omega
        clear h16
        go_wp2_with fail
        have HP := hid (mapPut_end N bt es e w4.drew (by omega) (unhid HT).2.2.1 hN (unhid HT).2.2.2 ((unhid HK4).1.below (drew_below _)))
        go_region_with (go_at_call 172; refine (unhid HP).mono ?_; rintro x w5 ⟨⟨y, rfl⟩, hT5, hB5, hO5⟩; have HK5 := hid (And.intro hT5 ((unhid HK4).2.trans ((Kept.of_below (drew_below w4) (Nat.le_trans hNw (unhid HK4).2.1.size)).trans ⟨hB5, hO5⟩))); clear hT5 hB5 hO5)
        all_goals
          go_wp2_with fail
          go_ret
          exact ⟨by rw [unhid E]; rfl, by rw [nextE_yes (unhid E)]; exact (unhid HK5).1, (unhid HK5).2⟩
end Go.Proofs.YtoihhlkidlapmaaGreat
