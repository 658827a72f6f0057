/- Where links of a tree lead, by the program. -/
import Derived.Test.YtlnehebihfeegaaLinkText
namespace Go.Proofs.Ytlnehebihfeegaa
open Go.RowKit Go.Shelf

set_option maxRecDepth 100000 in
set_option maxHeartbeats 4000000 in
theorem treeFollow_any (es : List Ent) (a : Option Addr) (cap : Nat) (p : ByteArray) (w : World) (hs : smallE es) (h : EntsAt w a es) :
    Calls Try.prog 14 #[.slice a es.length cap, .string p] w fun x w' => x = .returned (.tuple #[.agg (folGot (folE (keptE es) 17 p)).vals, .bool (folE (keptE es) 17 p).isSome]) ∧ Below w.heap.size w w' := by
  have hk := kept_asc es
  have KENT : ∀ (i : Nat) (e : Ent), (keptE es)[i]? = some e → entB e = true := fun i e he => by
    cases hb : treeB es
    · rw [keptE_no hb] at he; simp at he
    · rw [keptE_yes hb] at he; exact tree_ent hb he
  have HT0 := fun wA hE => treeOf_any es a cap wA hs hE
  obtain ⟨ks, hke⟩ : ∃ ks, keptE es = ks := ⟨_, rfl⟩
  rw [hke] at hk KENT ⊢
  simp only [hke] at HT0
  clear hke
  obtain ⟨wA, hwA⟩ : ∃ wA, wA = w.alloc (.cells #[.string ⟨#[]⟩, .int .i64 0, .int .i64 0, .string ⟨#[]⟩] 27) := ⟨_, rfl⟩
  have hsz : wA.heap.size = w.heap.size + 1 := by rw [hwA]; simp
  have hBA : Below w.heap.size w wA := by rw [hwA]; exact (Below.refl _ w).alloc (Nat.le_refl _) _
  have hbox : wA.heap[w.heap.size]? = some (.cells #[.string ⟨#[]⟩, .int .i64 0, .int .i64 0, .string ⟨#[]⟩] 27 (0, 0)) := by rw [hwA]; exact World.alloc_heap_new _ _
  have H := hid (HT0 wA (h.below (by rw [hwA]; exact (Below.refl _ w).alloc (Nat.le_refl _) _)))
  have HA := hid (And.intro hsz (And.intro hBA hbox))
  have HWA := hid hwA
  clear hs h hwA hsz hBA hbox HT0
  go_enter Try.func14, Try.ntmps14
  go_wp2_with fail
  rw [← unhid HWA]
  refine (unhid H).mono ?_
  rintro x w1 ⟨vp, vn, rfl, ⟨t2, t3⟩, hB⟩
  obtain ⟨ap, cp, rfl⟩ := ownsRow_slice t2
  obtain ⟨an, cn, rfl⟩ := ownsRow_slice t3
  obtain ⟨hsz, hBA, hbox⟩ := unhid HA
  obtain ⟨wt, hwt⟩ : ∃ wt, wt = w1.alloc (.cells #[.slice ap ks.length cp, .slice an ks.length cn] 59) := ⟨_, rfl⟩
  have hB1 : Below w.heap.size w w1 := hBA.trans (hB.mono (by omega))
  have hBt : Below w1.heap.size w1 wt := by rw [hwt]; exact (Below.refl _ w1).alloc (Nat.le_refl _) _
  have hBT : Below w.heap.size w wt := hB1.trans (hBt.mono hB1.size)
  have hT : TreeAt wt wA.heap.size w1.heap.size ks := ⟨_, _, by rw [hwt]; exact World.alloc_heap_new _ _, ownsRow_kept t2 (fun g e => hBt.block g (t2.lt g e).2), ownsRow_kept t3 (fun g e => hBt.block g (t3.lt g e).2)⟩
  have hw1 : wA.heap.size ≤ w1.heap.size := hB.size
  have hbt : wt.heap[w.heap.size]? = some (.cells #[.string ⟨#[]⟩, .int .i64 0, .int .i64 0, .string ⟨#[]⟩] 27 (0, 0)) := (hBt.block _ (by omega)).trans ((hB.block _ (by omega)).trans hbox)
  have HKS := hid (And.intro hk KENT)
  have HT := hid (And.intro hBT (And.intro hbt hT))
  have HWT := hid hwt
  clear hT hbt hBT hBt hB1 hwt hB t2 t3 hbox hBA hk HA HWA H KENT
  go_wp2_with fail
  rw [← unhid HWT]
  go_loopw [8, 19] (fun q i wr => ∃ (k : Nat) (qs : ByteArray), k ≤ 17 ∧ i = .int .i64 k ∧ q = .string qs ∧ Hid (folE ks 17 p = folE ks (17 - k) qs) ∧ Hid (Below w.heap.size w wr ∧ wr.heap[w.heap.size]? = some (.cells #[.string ⟨#[]⟩, .int .i64 0, .int .i64 0, .string ⟨#[]⟩] 27 (0, 0)) ∧ TreeAt wr wA.heap.size w1.heap.size ks)) (fun _ i _ => 17 - (intOf i).toNat)
  case atStart => exact ⟨0, p, by omega, rfl, rfl, hid rfl, HT⟩
  case round =>
    obtain ⟨k, qs, hk, rfl, rfl, hfol, HST⟩ := hrel
    obtain ⟨hB, hbx, hT⟩ := unhid HST
    have hks := unhid HKS
    by_cases hlt : k < 17
    · have GET := hid (mapGet_any _ _ ks qs wr (by omega) hks.1.1 hT)
      cases hth : thereE ks qs
      · have hnone : folE ks 17 p = none := (unhid hfol).trans (fol_no hth)
        rw [show getV ks qs = .nilIface by unfold getV; rw [hth]; rfl, hth] at GET
        obtain ⟨⟨d0, d1, d2, d3⟩, f0, f1, f2, f3⟩ := four_cells hbx
        have E := hid hnone
        have HB := hid hB
        clear hB hbx hT hth hnone HST HT HKS hks hfol
        go_wp2_with fail
        refine (unhid GET).mono ?_
        rintro x w2 ⟨rfl, e2⟩
        rw [e2]
        clear e2
        go_wp2_with fail
        refine bodyPost_ret (v := .tuple #[.agg #[.string ⟨#[]⟩, .int .i64 0, .int .i64 0, .string ⟨#[]⟩], .bool false]) (by simp [results, Try.results14, go_sem, World.cell?_setCell_same', d0, d1, d2, d3]) rfl ⟨by rw [unhid E]; rfl, ((((unhid HB).setCell (Nat.le_refl _) _).setCell (Nat.le_refl _) _).setCell (Nat.le_refl _) _).setCell (Nat.le_refl _) _⟩
      · obtain ⟨e, he, hep⟩ := there_get hth
        subst hep
        obtain ⟨j, hj⟩ : ∃ j, 17 - k = j + 1 := ⟨16 - k, by omega⟩
        rw [show getV ks e.path = nodeV e by unfold getV; rw [hth, entFn_get he]; rfl, hth] at GET
        have hwl : w.heap.size < wr.heap.size := (Array.getElem?_eq_some_iff.1 hbx).1
        by_cases hk3 : e.kind = 3
        · have HF2 : Hid (folE ks 17 p = folE ks (17 - (k + 1)) e.text) := hid (by rw [unhid hfol, hj, fol_on hth he hk3, show 17 - (k + 1) = j by omega])
          have LINK := hid (linkText_yes e hk3 wr)
          obtain ⟨T0, nv, hnv⟩ := nodeV_shape e
          rw [hnv] at GET LINK
          have HS2 := hid (And.intro hB (And.intro hbx hT))
          clear hB hbx hT hth HST HT HKS hks hfol he hnv hk3 hj
          go_wp2_with fail
          refine (unhid GET).mono ?_
          rintro x w2 ⟨rfl, e2⟩
          rw [e2]
          clear e2 GET
          go_wp2_with fail
          refine (unhid LINK).mono ?_
          rintro x w3 ⟨rfl, hB3⟩
          have HS3 := hid (show Below w.heap.size w w3 ∧ w3.heap[w.heap.size]? = some (.cells #[.string ⟨#[]⟩, .int .i64 0, .int .i64 0, .string ⟨#[]⟩] 27 (0, 0)) ∧ TreeAt w3 wA.heap.size w1.heap.size ks from ⟨(unhid HS2).1.trans (hB3.mono (Nat.le_of_lt hwl)), (hB3.block _ hwl).trans (unhid HS2).2.1, (unhid HS2).2.2.below hB3⟩)
          clear hB3 HS2 LINK
          go_wp2_with fail
          go_roundw
          case rel => exact ⟨k + 1, e.text, by omega, by go_num, rfl, HF2, HS3⟩
          case measure => simp [intOf]; omega
        · have hsome : folE ks 17 p = some e := by rw [unhid hfol, hj, fol_end hth he hk3]
          have heb := hks.2 _ e he
          have LINK := hid (linkText_no e heb hk3 wr)
          have hent := fun w => entryOf_any e heb w
          obtain ⟨T0, nv, hnv⟩ := nodeV_shape e
          rw [hnv] at GET LINK hent
          have ENT := hid hent
          have E := hid hsome
          have HS2 := hid (And.intro hB hbx)
          clear hB hbx hT hth HST HT HKS hks hfol he hnv hk3 hj hsome heb hent
          go_wp2_with fail
          refine (unhid GET).mono ?_
          rintro x w2 ⟨rfl, e2⟩
          rw [e2]
          clear e2 GET
          go_wp2_with fail
          refine (unhid LINK).mono ?_
          rintro x w3 ⟨rfl, hB3⟩
          have hwl3 : w.heap.size < w3.heap.size := Nat.lt_of_lt_of_le hwl hB3.size
          have HS3 := hid (And.intro ((unhid HS2).1.trans (hB3.mono (Nat.le_of_lt hwl))) ((hB3.block _ hwl).trans (unhid HS2).2))
          clear hB3 HS2 LINK
          go_wp2_with fail
          refine (unhid ENT _).mono ?_
          rintro x w4 ⟨rfl, hB4⟩
          obtain ⟨⟨d0, d1, d2, d3⟩, f0, f1, f2, f3⟩ := four_cells ((hB4.block _ hwl3).trans (unhid HS3).2)
          have HB3 := hid ((unhid HS3).1.trans (hB4.mono (Nat.le_of_lt hwl3)))
          clear hB4 HS3 ENT
          unfold Ent.vals
          go_wp2_with fail
          refine bodyPost_ret (v := .tuple #[.agg #[.string e.path, .int .i64 e.kind, .int .i64 e.mode, .string e.text], .bool true]) (by simp [results, Try.results14, go_sem, World.cell?_setCell_same', d0, d1, d2, d3]) rfl ⟨by rw [unhid E]; rfl, ((((unhid HB3).setCell (Nat.le_refl _) _).setCell (Nat.le_refl _) _).setCell (Nat.le_refl _) _).setCell (Nat.le_refl _) _⟩
    · have hnone : folE ks 17 p = none := by rw [unhid hfol, show 17 - k = 0 by omega]; rfl
      obtain ⟨⟨d0, d1, d2, d3⟩, f0, f1, f2, f3⟩ := four_cells hbx
      have E := hid hnone
      have HB := hid hB
      clear hB hbx hT hnone HST HT HKS hks hfol
      go_wp2_with fail
      refine bodyPost_ret (v := .tuple #[.agg #[.string ⟨#[]⟩, .int .i64 0, .int .i64 0, .string ⟨#[]⟩], .bool false]) (by simp [results, Try.results14, go_sem, World.cell?_setCell_same', d0, d1, d2, d3]) rfl ⟨by rw [unhid E]; rfl, ((((unhid HB).setCell (Nat.le_refl _) _).setCell (Nat.le_refl _) _).setCell (Nat.le_refl _) _).setCell (Nat.le_refl _) _⟩
end Go.Proofs.Ytlnehebihfeegaa
