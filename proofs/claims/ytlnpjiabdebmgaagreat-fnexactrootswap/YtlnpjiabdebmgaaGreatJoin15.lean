/- Texts of this proof, one behind the other; each says at its head what it shows. -/
import Derived.Test.YtlnpjiabdebmgaaGreatJoin14
import Derived.Test.YtlnpjiabdebmgaaGreatJoin3
import Derived.Test.YtlnpjiabdebmgaaGreatJoin12
import Derived.Test.YtlnpjiabdebmgaaGreatJoin7
import Derived.Test.YtlnpjiabdebmgaaGreatJoin8
/- RootIn, by the model. -/
namespace Go.Proofs.YtlnpjiabdebmgaaGreat
open Go.RowKit Go.Shelf

def rootInC (d : RootD) (p : packC.D) : Int := if rootOk_0 d = true then inCode p d.packs else 1
def rootInP (d : RootD) (p : packC.D) : List packC.D := if rootOk_0 d = true then inP p d.packs else []
def RootInR (d : RootD) (p : packC.D) (w : World) (x : Ending) (w' : World) : Prop := ∃ (r : Value) (L : List (It packC)), x = .returned (.tuple #[.agg #[r], .int .i64 (rootInC d p)]) ∧ NRow packC 31 w' w.heap.size r L ∧ itD L = rootInP d p ∧ Below w.heap.size w w'
set_option maxRecDepth 100000 in
set_option maxHeartbeats 4000000 in
theorem specRootIn_any (d : RootD) (a1 : Option Addr) (c1 : Nat) (p : packC.D) (cs : List Value) (w : World) (hs : smallPs d.packs) (hps : smallP p) (hp : rowAt packC w (.slice a1 d.packs.length c1) d.packs) (hcp : packC.at_ w cs p) :
    Calls Tryz.prog 28 #[.agg #[.slice a1 d.packs.length c1], .agg cs.toArray] w (RootInR d p w) := by
  obtain ⟨v2, v3, rfl, p2, p3⟩ := packC_at hcp
  obtain ⟨na, nc, rfl, -⟩ := rowAt.slice p2
  obtain ⟨ta, tc, rfl, -⟩ := rowAt.slice p3
  have HCP := hid hcp
  have HP := hid hp
  clear hp hcp p2 p3
  go_enter Tryz.func28, Tryz.ntmps28
  go_wp2_with fail
  obtain ⟨hP, hQ, hR, hS, hB⟩ := three_boxes w (.cells #[.slice a1 d.packs.length c1] 42) (.cells #[.string (PackD.name p), .string (PackD.version p), .slice na (PackD.needs p).length nc, .slice ta (PackD.tree p).length tc] 31) (.cells #[.slice none 0 0] 42)
  generalize ((w.alloc (.cells #[.slice a1 d.packs.length c1] 42)).alloc (.cells #[.string (PackD.name p), .string (PackD.version p), .slice na (PackD.needs p).length nc, .slice ta (PackD.tree p).length tc] 31)).alloc (.cells #[.slice none 0 0] 42) = W0 at hP hQ hR hS hB ⊢
  have o0 := cell_arrS hP 0 _ rfl
  go_wp2_with fail
  refine (specRootOk_any d a1 c1 W0 hs ((unhid HP).below hB)).mono ?_
  rintro x w2 ⟨rfl, hb⟩
  clear o0
  have hP2 := (hb.block _ (by omega)).trans hP
  have hQ2 := (hb.block _ (by omega)).trans hQ
  have hR2 := (hb.block _ hS).trans hR
  have hS2 : w.heap.size + 1 + 1 < w2.heap.size := Nat.lt_of_lt_of_le hS hb.size
  have hB2 := hB.trans (hb.mono hB.size)
  clear hb hP hQ hR hB hS
  obtain ⟨o0, p0⟩ := cell_fz hP2 0 _ rfl
  obtain ⟨o1, p1⟩ := cell_fz hR2 0 _ rfl
  have HB := hid hB2
  have HS2 := hid hS2
  cases hok : rootOk_0 d with
  | false =>
    have HE := hid hok
    clear hP2 hQ2 hR2 hB2 hS2
    go_wp2_with fail
    exact bodyPost_ret (v := .tuple #[.agg #[.slice none 0 0], .int .i64 1]) (by simp [results, Tryz.results28, go_sem, World.cell?_setCell_same', o1]) rfl ⟨_, [], by unfold rootInC; rw [unhid HE]; rfl, NRow.none _ _, by unfold rootInP; rw [unhid HE]; rfl, (unhid HB).setCell (by dsimp only; omega) _⟩
  | true =>
    have hlen := ok_len (rootOk_yes hok)
    have HE := hid (show inCode p d.packs = rootInC d p ∧ inP p d.packs = rootInP d p from ⟨by unfold rootInC; rw [if_pos hok], by unfold rootInP; rw [if_pos hok]⟩)
    have hC0 : OutW w2 (w.heap.size + 1) w2.drew := ⟨⟨rfl, rfl, rfl, Nat.le_refl _, fun _ _ => rfl⟩, _, hR2⟩
    have HC0 := hid hC0
    clear hR2 hB2 o1 p1 hP2 hok
    go_wp2_with fail
    have gq0 : ∀ x : CW (OutW w2 (w.heap.size + 1)), x.w.cell? ⟨w.heap.size, 0, none⟩ = some (.slice a1 d.packs.length c1) := fun x => (x.h.1.cell (p := ⟨w.heap.size, 0, none⟩) (by dsimp only; omega)).trans o0
    have gp0 : ∀ x : CW (OutW w2 (w.heap.size + 1)), x.w.cell? ⟨w.heap.size + 1, 0, none⟩ = some (.string (PackD.name p)) := fun x => cell_arrS ((x.h.1.block _ (by omega)).trans hQ2) 0 _ rfl
    have gp1 : ∀ x : CW (OutW w2 (w.heap.size + 1)), x.w.cell? ⟨w.heap.size + 1, 1, none⟩ = some (.string (PackD.version p)) := fun x => cell_arrS ((x.h.1.block _ (by omega)).trans hQ2) 1 _ rfl
    have gp2 : ∀ x : CW (OutW w2 (w.heap.size + 1)), x.w.cell? ⟨w.heap.size + 1, 2, none⟩ = some (.slice na (PackD.needs p).length nc) := fun x => cell_arrS ((x.h.1.block _ (by omega)).trans hQ2) 2 _ rfl
    have gp3 : ∀ x : CW (OutW w2 (w.heap.size + 1)), x.w.cell? ⟨w.heap.size + 1, 3, none⟩ = some (.slice ta (PackD.tree p).length tc) := fun x => cell_arrS ((x.h.1.block _ (by omega)).trans hQ2) 3 _ rfl
    have hba : ∀ {q : Prop}, (CW (OutW w2 (w.heap.size + 1)) → q) ↔ q := CW.all hC0
    refine held_begin (OutW w2 (w.heap.size + 1)) (by kernel_rfl) hC0 ?_
    refine held_here [true, false, true] (by kernel_rfl) (by kernel_rfl) (fun _ _ _ _ _ h => h) hC0 ?_
    dsimp only [pick]
    repeat (go_big_quiet_step (fail))
    refine wpQuiet_nil ?_
    clear hba gq0 gp0 gp1 gp2 gp3 hC0 o0 p0 hQ2
    have hs0 : w.heap.size + 1 + 1 < w2.drew.heap.size := unhid HS2
    have hbd : Below w.heap.size w w2.drew := (unhid HB).trans ⟨rfl, rfl, rfl, Nat.le_refl _, fun _ _ => rfl⟩
    generalize w2.drew = w3 at *
    refine held_call 1 75 11 (enters_of Tryz.func75 (by kernel_rfl) rfl) #[.agg #[.slice a1 d.packs.length c1]] (by kernel_rfl) (by kernel_rfl) rfl rfl rfl rfl rfl ?_
    refine (l9Copy_any d.packs _ w3 hs ((unhid HP).below hbd)).mono ?_
    rintro x w4 ⟨u4, L, rfl, hN4, hL4, hb⟩
    have hC4 := (unhid HC0).next hs0 hb
    have hs4 := Nat.lt_of_lt_of_le hs0 hb.size
    have hb4 := hbd.trans (hb.mono hbd.size)
    refine ⟨_, rfl, hC4, ?_⟩
    simp only [Act.put, List.setIfInBounds_toArray, List.set_cons_zero, List.set_cons_succ]
    refine held_call 3 74 13 (enters_of Tryz.func74 (by kernel_rfl) rfl) #[.agg #[u4], .agg #[.string (PackD.name p), .string (PackD.version p), .slice na (PackD.needs p).length nc, .slice ta (PackD.tree p).length tc]] (by kernel_rfl) (by kernel_rfl) rfl rfl rfl rfl rfl ?_
    refine (l9In_any L u4 p _ w4 w3.heap.size hb.size (by rw [hL4]; exact hs) (by rw [← itD_len L, hL4]; omega) hps hN4 (packC.below (unhid HCP) hb4)).mono ?_
    rintro x w5 ⟨r, L', rfl, hN5, hL5, hb5⟩
    obtain ⟨rb, rd, rfl⟩ := nrow_slice hN5
    have hC5 := hC4.next hs4 hb5
    have hB5 := hb4.trans (hb5.mono hb4.size)
    rw [hL4] at hL5 ⊢
    rw [(unhid HE).1]
    have HN5 := hid hN5
    have HL5 := hid (hL5.trans (unhid HE).2)
    have HB5 := hid hB5
    have HS3 := hid hs0
    have HBD := hid hbd
    generalize hoc : rootInC d p = oc
    have HOC := hid hoc
    refine ⟨_, rfl, hC5, ?_⟩
    simp only [Act.put, List.setIfInBounds_toArray, List.set_cons_zero, List.set_cons_succ]
    clear hoc hs0 hbd HC0 hN4 hL4 hb hC4 hs4 hb4 hN5 hL5 hb5 hB5 HE
    have hba : ∀ {q : Prop}, (CW (OutW w2 (w.heap.size + 1)) → q) ↔ q := CW.all hC5
    refine held_here [false, false, false, false, true, true] (by kernel_rfl) (by kernel_rfl) (fun _ _ _ _ _ h => h) hC5 ?_
    dsimp only [pick]
    repeat (go_big_quiet_step (fail))
    refine wpQuiet_nil ?_
    obtain ⟨z, hz⟩ := hC5.2
    obtain ⟨o1, p1⟩ := cell_fz hz 0 _ rfl
    have hC6 := hC5.store (.slice rb L'.length rd)
    clear hba
    refine held_op 6 (by kernel_rfl) (by kernel_rfl) rfl (fun K hK => ?_)
    go_simp
    refine hK.out _ _ hC6 ?_
    clear hK K
    have hba : ∀ {q : Prop}, (CW (OutW w2 (w.heap.size + 1)) → q) ↔ q := CW.all hC6
    refine held_here [false, false, false, false, false, false, false, true] (by kernel_rfl) (by kernel_rfl) (fun _ _ _ _ _ h => h) hC6 ?_
    dsimp only [pick]
    repeat (go_big_quiet_step (fail))
    refine wpQuiet_nil ?_
    clear hba
    refine held_done (by kernel_rfl) ?_
    go_wp2_with fail
    refine bodyPost_ret (v := .tuple #[.agg #[.slice rb L'.length rd], .int .i64 oc]) (by simp [results, Tryz.results28, go_sem, World.cell?_setCell_same', o1]) rfl ⟨_, L', by rw [unhid HOC], NRow.lower (N := w3.heap.size) ((unhid HN5).frame (fun k hk => Below.heap_setCell _ _ _ _ ?_)) (by have := (unhid HBD).size; omega), unhid HL5, (unhid HB5).setCell (by dsimp only; omega) _⟩
    have := ((unhid HN5).base k hk).1
    have := unhid HS3
    dsimp only
    omega
end Go.Proofs.YtlnpjiabdebmgaaGreat

/- RootIn, by the program. -/
namespace Go.Proofs.YtlnpjiabdebmgaaGreat
open Go.RowKit Go.Shelf

theorem put_small {p : packC.D} {ps : List packC.D} (h : smallPs ps) (hl : ps.length ≤ 1000) (hp : smallP p) : smallPs (putP p ps) := by
  unfold putP
  split
  · refine ⟨by rw [List.length_append, List.length_cons, List.length_take, List.length_drop]; omega, fun x hx => ?_⟩
    rcases List.mem_append.1 hx with hx | hx
    · exact h.2 x (List.mem_of_mem_take hx)
    · rcases List.mem_cons.1 hx with rfl | hx
      · exact hp
      · exact h.2 x (List.mem_of_mem_drop hx)
  · exact with_small h hl hp
set_option maxRecDepth 100000 in
set_option maxHeartbeats 8000000 in
theorem implRootIn_any (d : RootD) (a1 : Option Addr) (c1 : Nat) (p : packC.D) (cs : List Value) (w : World) (hs : smallPs d.packs) (hps : smallP p) (hp : rowAt packC w (.slice a1 d.packs.length c1) d.packs) (hcp : packC.at_ w cs p) :
    Calls Tryz.prog 29 #[.agg #[.slice a1 d.packs.length c1], .agg cs.toArray] w (RootInR d p w) := by
  obtain ⟨v2, v3, rfl, p2, p3⟩ := packC_at hcp
  obtain ⟨na, nc, rfl, -⟩ := rowAt.slice p2
  obtain ⟨ta, tc, rfl, -⟩ := rowAt.slice p3
  have HCP := hid hcp
  have HP := hid hp
  clear hp hcp p2 p3
  go_enter Tryz.func29, Tryz.ntmps29
  go_wp2_with fail
  obtain ⟨hP, hQ, hR, hS, hB⟩ := three_boxes w (.cells #[.slice a1 d.packs.length c1] 42) (.cells #[.string (PackD.name p), .string (PackD.version p), .slice na (PackD.needs p).length nc, .slice ta (PackD.tree p).length tc] 31) (.cells #[.slice none 0 0] 42)
  generalize ((w.alloc (.cells #[.slice a1 d.packs.length c1] 42)).alloc (.cells #[.string (PackD.name p), .string (PackD.version p), .slice na (PackD.needs p).length nc, .slice ta (PackD.tree p).length tc] 31)).alloc (.cells #[.slice none 0 0] 42) = W0 at hP hQ hR hS hB ⊢
  have o0 := cell_arrS hP 0 _ rfl
  go_wp2_with fail
  refine (implRootOk_any d a1 c1 W0 hs ((unhid HP).below hB)).mono ?_
  rintro x w2 ⟨rfl, hb⟩
  clear o0
  have hP2 := (hb.block _ (by omega)).trans hP
  have hQ2 := (hb.block _ (by omega)).trans hQ
  have hR2 := (hb.block _ hS).trans hR
  have hS2 : w.heap.size + 1 + 1 < w2.heap.size := Nat.lt_of_lt_of_le hS hb.size
  have hB2 := hB.trans (hb.mono hB.size)
  clear hb hP hQ hR hB hS
  obtain ⟨o0, p0⟩ := cell_fz hP2 0 _ rfl
  obtain ⟨o1, p1⟩ := cell_fz hR2 0 _ rfl
  have q0 := cell_arrS hQ2 0 _ rfl
  have HB := hid hB2
  cases hok : rootOk_0 d with
  | false =>
    have HE := hid hok
    clear hP2 hQ2 hR2 hB2 hS2
    go_wp2_with fail
    exact bodyPost_ret (v := .tuple #[.agg #[.slice none 0 0], .int .i64 1]) (by simp [results, Tryz.results29, go_sem, World.cell?_setCell_same', o1]) rfl ⟨_, [], by unfold rootInC; rw [unhid HE]; rfl, NRow.none _ _, by unfold rootInP; rw [unhid HE]; rfl, (unhid HB).setCell (by dsimp only; omega) _⟩
  | true =>
    have hrc := rootOk_yes hok
    have HF := hid (ok_form hrc)
    have hlen := ok_len hrc
    have HE := hid (show inCode p d.packs = rootInC d p ∧ inP p d.packs = rootInP d p from ⟨by unfold rootInC; rw [if_pos hok], by unfold rootInP; rw [if_pos hok]⟩)
    have JN := hid (packPlace_any d.packs _ (PackD.name p) w2 hs.1 (form_asc (unhid HF)) ((unhid HP).below hB2))
    clear o1 p1 hok hrc
    go_wp2_with fail
    refine (unhid JN).mono ?_
    rintro x w3 ⟨rfl, hb3⟩
    clear JN o0 p0 q0
    have hP3 := (hb3.block _ (by omega)).trans hP2
    have hQ3 := (hb3.block _ (by omega)).trans hQ2
    have hR3 := (hb3.block _ hS2).trans hR2
    have hS3 : w.heap.size + 1 + 1 < w3.heap.size := Nat.lt_of_lt_of_le hS2 hb3.size
    have hB3 := hB2.trans (hb3.mono hB2.size)
    clear hP2 hQ2 hR2 hS2 hB2 hb3 HB
    have JN := hid (packOk_any p _ w3 hps (packC.below (unhid HCP) hB3))
    have q0 := cell_arrS hQ3 0 _ rfl
    have q1 := cell_arrS hQ3 1 _ rfl
    have q2 := cell_arrS hQ3 2 _ rfl
    have q3 := cell_arrS hQ3 3 _ rfl
    go_wp2_with fail
    refine (unhid JN).mono ?_
    rintro x w4 ⟨rfl, hb4⟩
    clear JN q0 q1 q2 q3
    have hP4 := (hb4.block _ (by omega)).trans hP3
    have hQ4 := (hb4.block _ (by omega)).trans hQ3
    have hR4 := (hb4.block _ hS3).trans hR3
    have hS4 : w.heap.size + 1 + 1 < w4.heap.size := Nat.lt_of_lt_of_le hS3 hb4.size
    have hB4 := hB3.trans (hb4.mono hB3.size)
    clear hP3 hQ3 hR3 hS3 hB3 hb4
    obtain ⟨o0, p0⟩ := cell_fz hP4 0 _ rfl
    have HB := hid hB4
    have HS4 := hid hS4
    have HR4 := hid hR4
    cases hpk : pkOk p with
    | false =>
      have HX := hid (show 1 = rootInC d p ∧ d.packs = rootInP d p from by rw [← (unhid HE).1, ← (unhid HE).2]; exact ⟨by unfold inCode; rw [hpk]; rfl, by unfold inP; rw [hpk]; rfl⟩)
      have JN := hid (cloneRoot_any d.packs _ w4 hs ((unhid HP).below hB4))
      clear hP4 hQ4 hR4 hB4 hS4 hpk
      go_wp2_with fail
      refine (unhid JN).mono ?_
      rintro x w5 ⟨r, L', rfl, hN5, hL5, hb5⟩
      obtain ⟨rb, rd, rfl⟩ := nrow_slice hN5
      obtain ⟨o1, p1⟩ := cell_fz ((hb5.block _ (unhid HS4)).trans (unhid HR4)) 0 _ rfl
      have HN5 := hid hN5
      have HL5 := hid hL5
      have HB5 := hid ((unhid HB).trans (hb5.mono (unhid HB).size))
      clear hN5 hL5 hb5 JN
      go_wp2_with fail
      refine bodyPost_ret (v := .tuple #[.agg #[.slice rb L'.length rd], .int .i64 1]) (by simp [results, Tryz.results29, go_sem, World.cell?_setCell_same', o1]) rfl ⟨_, L', by rw [← (unhid HX).1], NRow.lower (N := w4.heap.size) ((unhid HN5).frame (fun k hk => Below.heap_setCell _ _ _ _ ?_)) (by have := (unhid HB).size; omega), by rw [unhid HL5]; exact (unhid HX).2, (unhid HB5).setCell (by dsimp only; omega) _⟩
      have := ((unhid HN5).base k hk).1
      have := unhid HS4
      dsimp only
      omega
    | true =>
      cases hth : thereP (namesP d.packs) (PackD.name p) with
      | true =>
        have hyes : hasB (PackD.name p) d.packs = true := (hasB_iff _ _).2 (List.mem_of_getElem? (thereT_mem hth))
        have HX := hid (show 2 = rootInC d p ∧ d.packs = rootInP d p from by rw [← (unhid HE).1, ← (unhid HE).2]; exact ⟨by unfold inCode; rw [if_pos hpk, if_pos hyes], by unfold inP; rw [if_pos hpk, if_pos hyes]⟩)
        have JN := hid (cloneRoot_any d.packs _ w4 hs ((unhid HP).below hB4))
        clear hP4 hQ4 hR4 hB4 hS4 hpk hyes hth
        go_wp2_with fail
        refine (unhid JN).mono ?_
        rintro x w5 ⟨r, L', rfl, hN5, hL5, hb5⟩
        obtain ⟨rb, rd, rfl⟩ := nrow_slice hN5
        obtain ⟨o1, p1⟩ := cell_fz ((hb5.block _ (unhid HS4)).trans (unhid HR4)) 0 _ rfl
        have HN5 := hid hN5
        have HL5 := hid hL5
        have HB5 := hid ((unhid HB).trans (hb5.mono (unhid HB).size))
        clear hN5 hL5 hb5 JN
        go_wp2_with fail
        refine bodyPost_ret (v := .tuple #[.agg #[.slice rb L'.length rd], .int .i64 2]) (by simp [results, Tryz.results29, go_sem, World.cell?_setCell_same', o1]) rfl ⟨_, L', by rw [← (unhid HX).1], NRow.lower (N := w4.heap.size) ((unhid HN5).frame (fun k hk => Below.heap_setCell _ _ _ _ ?_)) (by have := (unhid HB).size; omega), by rw [unhid HL5]; exact (unhid HX).2, (unhid HB5).setCell (by dsimp only; omega) _⟩
        have := ((unhid HN5).base k hk).1
        have := unhid HS4
        dsimp only
        omega
      | false =>
        have hno : ¬ hasB (PackD.name p) d.packs = true := fun e => there_no (form_asc (unhid HF)) hth ((hasB_iff _ _).1 e)
        have hput : putP p d.packs = withP p d.packs := by unfold putP; rw [if_neg (by rw [hth]; decide)]
        have HX := hid (show rootCode (putP p d.packs) = rootInC d p ∧ tryP d.packs (putP p d.packs) = rootInP d p from by rw [← (unhid HE).1, ← (unhid HE).2, hput]; exact ⟨by unfold inCode; rw [if_pos hpk, if_neg hno], by unfold inP; rw [if_pos hpk, if_neg hno]⟩)
        have hC0 : OutW w4 (w.heap.size + 1) w4.drew := ⟨⟨rfl, rfl, rfl, Nat.le_refl _, fun _ _ => rfl⟩, _, hR4⟩
        have HC0 := hid hC0
        clear hpk hno hput hth hR4 hB4 hS4 hP4
        go_wp2_with fail
        have gq0 : ∀ x : CW (OutW w4 (w.heap.size + 1)), x.w.cell? ⟨w.heap.size, 0, none⟩ = some (.slice a1 d.packs.length c1) := fun x => (x.h.1.cell (p := ⟨w.heap.size, 0, none⟩) (by dsimp only; omega)).trans o0
        have gp0 : ∀ x : CW (OutW w4 (w.heap.size + 1)), x.w.cell? ⟨w.heap.size + 1, 0, none⟩ = some (.string (PackD.name p)) := fun x => cell_arrS ((x.h.1.block _ (by omega)).trans hQ4) 0 _ rfl
        have gp1 : ∀ x : CW (OutW w4 (w.heap.size + 1)), x.w.cell? ⟨w.heap.size + 1, 1, none⟩ = some (.string (PackD.version p)) := fun x => cell_arrS ((x.h.1.block _ (by omega)).trans hQ4) 1 _ rfl
        have gp2 : ∀ x : CW (OutW w4 (w.heap.size + 1)), x.w.cell? ⟨w.heap.size + 1, 2, none⟩ = some (.slice na (PackD.needs p).length nc) := fun x => cell_arrS ((x.h.1.block _ (by omega)).trans hQ4) 2 _ rfl
        have gp3 : ∀ x : CW (OutW w4 (w.heap.size + 1)), x.w.cell? ⟨w.heap.size + 1, 3, none⟩ = some (.slice ta (PackD.tree p).length tc) := fun x => cell_arrS ((x.h.1.block _ (by omega)).trans hQ4) 3 _ rfl
        have hba : ∀ {q : Prop}, (CW (OutW w4 (w.heap.size + 1)) → q) ↔ q := CW.all hC0
        refine held_begin (OutW w4 (w.heap.size + 1)) (by kernel_rfl) hC0 ?_
        refine held_here [true, true, true, true] (by kernel_rfl) (by kernel_rfl) (fun _ _ _ _ _ h => h) hC0 ?_
        dsimp only [pick]
        repeat (go_big_quiet_step (fail))
        refine wpQuiet_nil ?_
        clear hba gq0 gp0 gp1 gp2 gp3 hC0 o0 p0 hQ4
        have hs0 : w.heap.size + 1 + 1 < w4.drew.heap.size := unhid HS4
        have hbd : Below w.heap.size w w4.drew := (unhid HB).trans ⟨rfl, rfl, rfl, Nat.le_refl _, fun _ _ => rfl⟩
        generalize w4.drew = w5 at *
        refine held_call 4 79 34 (enters_of Tryz.func79 (by kernel_rfl) rfl) #[.slice a1 d.packs.length c1, .agg #[.string (PackD.name p), .string (PackD.version p), .slice na (PackD.needs p).length nc, .slice ta (PackD.tree p).length tc]] (by kernel_rfl) (by kernel_rfl) rfl rfl rfl rfl rfl ?_
        refine (withPack_any d.packs p _ _ w5 hs (by omega) hps (form_asc (unhid HF)) ((unhid HP).below hbd) (packC.below (unhid HCP) hbd)).mono ?_
        rintro x w6 ⟨v6, L, rfl, hN6, hL6, hb6⟩
        have hC6 := (unhid HC0).next hs0 hb6
        have hs6 := Nat.lt_of_lt_of_le hs0 hb6.size
        have hB6 := hbd.trans (hb6.mono hbd.size)
        refine ⟨_, rfl, hC6, ?_⟩
        simp only [Act.put, List.setIfInBounds_toArray, List.set_cons_zero, List.set_cons_succ]
        refine held_call 5 78 35 (enters_of Tryz.func78 (by kernel_rfl) rfl) #[.agg #[.slice a1 d.packs.length c1], v6] (by kernel_rfl) (by kernel_rfl) rfl rfl rfl rfl rfl ?_
        refine (turnRoot_any d.packs _ L v6 w6 w5.heap.size hb6.size hs (by rw [hL6]; exact put_small hs (by omega) hps) ((unhid HP).below hB6) hN6).mono ?_
        rintro x w7 ⟨r7, L', rfl, hN7, hL7, hb7⟩
        obtain ⟨rb, rd, rfl⟩ := nrow_slice hN7
        have hC7 := hC6.next hs6 hb7
        have hB7 := hB6.trans (hb7.mono hB6.size)
        rw [hL6] at hL7 ⊢
        rw [(unhid HX).1]
        have HN7 := hid hN7
        have HL7 := hid (hL7.trans (unhid HX).2)
        have HB7 := hid hB7
        have HS5 := hid hs0
        have HBD := hid hbd
        generalize hoc : rootInC d p = oc
        have HOC := hid hoc
        refine ⟨_, rfl, hC7, ?_⟩
        simp only [Act.put, List.setIfInBounds_toArray, List.set_cons_zero, List.set_cons_succ]
        clear hoc hs0 hbd HC0 hN6 hL6 hb6 hC6 hs6 hB6 hN7 hL7 hb7 hB7 HX HE
        have hba : ∀ {q : Prop}, (CW (OutW w4 (w.heap.size + 1)) → q) ↔ q := CW.all hC7
        refine held_here [false, false, false, false, false, false, true, true] (by kernel_rfl) (by kernel_rfl) (fun _ _ _ _ _ h => h) hC7 ?_
        dsimp only [pick]
        repeat (go_big_quiet_step (fail))
        refine wpQuiet_nil ?_
        obtain ⟨z, hz⟩ := hC7.2
        obtain ⟨o1, p1⟩ := cell_fz hz 0 _ rfl
        have hC8 := hC7.store (.slice rb L'.length rd)
        clear hba
        refine held_op 8 (by kernel_rfl) (by kernel_rfl) rfl (fun K hK => ?_)
        go_simp
        refine hK.out _ _ hC8 ?_
        clear hK K
        have hba : ∀ {q : Prop}, (CW (OutW w4 (w.heap.size + 1)) → q) ↔ q := CW.all hC8
        refine held_here [false, false, false, false, false, false, false, false, false, true] (by kernel_rfl) (by kernel_rfl) (fun _ _ _ _ _ h => h) hC8 ?_
        dsimp only [pick]
        repeat (go_big_quiet_step (fail))
        refine wpQuiet_nil ?_
        clear hba
        refine held_done (by kernel_rfl) ?_
        go_wp2_with fail
        refine bodyPost_ret (v := .tuple #[.agg #[.slice rb L'.length rd], .int .i64 oc]) (by simp [results, Tryz.results29, go_sem, World.cell?_setCell_same', o1]) rfl ⟨_, L', by rw [unhid HOC], NRow.lower (N := w5.heap.size) ((unhid HN7).frame (fun k hk => Below.heap_setCell _ _ _ _ ?_)) (by have := (unhid HBD).size; omega), unhid HL7, (unhid HB7).setCell (by dsimp only; omega) _⟩
        have := ((unhid HN7).base k hk).1
        have := unhid HS5
        dsimp only
        omega
end Go.Proofs.YtlnpjiabdebmgaaGreat

/- Whether a pack is elder than another, by the program. -/
namespace Go.Proofs.YtlnpjiabdebmgaaGreat
open Go.RowKit Go.Shelf

def elderI (p q : packC.D) : Int := ordI (PackD.version p).data.toList (PackD.version q).data.toList
set_option maxRecDepth 100000 in
set_option maxHeartbeats 4000000 in
theorem isElder_any (p q : packC.D) (cs ds : List Value) (w : World) (hp : smallP p) (hq : smallP q) (h : packC.at_ w cs p) (h2 : packC.at_ w ds q) :
    Calls Tryz.prog 86 #[.agg cs.toArray, .agg ds.toArray] w fun x w' => x = .returned (.bool (decide (elderI p q < 0))) ∧ Below w.heap.size w w' := by
  obtain ⟨v2, v3, rfl, p2, p3⟩ := packC_at h
  obtain ⟨na, nc, rfl, -⟩ := rowAt.slice p2
  obtain ⟨ta, tc, rfl, -⟩ := rowAt.slice p3
  obtain ⟨v2, v3, rfl, q2, q3⟩ := packC_at h2
  obtain ⟨nb, nd, rfl, -⟩ := rowAt.slice q2
  obtain ⟨tb, td, rfl, -⟩ := rowAt.slice q3
  have hB := fun x y => (two_boxesP w x y).2.2.2
  have HB := hid hB
  have HV := hid (fun W => VersionOrder_any (PackD.version p) (PackD.version q) (by have := hp.version; unfold maxLen; omega) (by have := hq.version; unfold maxLen; omega) W)
  clear h h2 p2 p3 q2 q3 hB
  go_enter Tryz.func86, Tryz.ntmps86
  go_wp2_with fail
  refine (unhid HV _).mono ?_
  rintro x w2 ⟨rfl, hb⟩
  have HB2 := hid ((unhid HB _ _).trans (hb.mono (unhid HB _ _).size))
  clear hb HV
  have HE := hid (show elderI p q = ordI (PackD.version p).data.toList (PackD.version q).data.toList from rfl)
  generalize ordI (PackD.version p).data.toList (PackD.version q).data.toList = r at *
  go_wp2_with fail
  go_ret
  exact ⟨by rw [unhid HE]; rfl, unhid HB2⟩
end Go.Proofs.YtlnpjiabdebmgaaGreat

/- A pack in the place of an elder one, by the model. -/
namespace Go.Proofs.YtlnpjiabdebmgaaGreat
open Go.RowKit Go.Shelf

/-- How the pack of its name that is there stands to it. -/
def oldI (p : packC.D) (ps : List packC.D) : Int := match ps[placeP (namesP ps) (PackD.name p)]? with
  | some o => elderI o p
  | none => 0
def swapQ (p : packC.D) (ps : List packC.D) : List packC.D := withP p (withoutP (PackD.name p) ps)
def swapCode (p : packC.D) (ps : List packC.D) : Int := if pkOk p = true then (if hasB (PackD.name p) ps = true then (if 0 ≤ oldI p ps then 7 else rootCode (swapQ p ps)) else 3) else 1
def swapP (p : packC.D) (ps : List packC.D) : List packC.D := if pkOk p = true then (if hasB (PackD.name p) ps = true then (if 0 ≤ oldI p ps then ps else tryP ps (swapQ p ps)) else ps) else ps
def SwapR (N : Nat) (p : packC.D) (ps : List packC.D) (w : World) (x : Ending) (w' : World) : Prop := ∃ (r : Value) (L' : List (It packC)), x = .returned (.tuple #[.agg #[r], .int .i64 (swapCode p ps)]) ∧ NRow packC 31 w' N r L' ∧ itD L' = swapP p ps ∧ Below w.heap.size w w'
theorem oldI_at {p o : packC.D} {ps : List packC.D} {k : Nat} (hf : formB ps = true) (hk : (namesP ps)[k]? = some (PackD.name p)) (ho : ps[k]? = some o) : oldI p ps = elderI o p := by
  unfold oldI
  rw [(place_mem (form_asc hf) hk).1, ho]
set_option maxRecDepth 100000 in
set_option maxHeartbeats 8000000 in
theorem l9Swap_any (L : List (It packC)) (u : Value) (p : packC.D) (cs : List Value) (w : World) (N : Nat) (hN : N ≤ w.heap.size) (hs : smallPs (itD L)) (hlen : L.length ≤ 1000) (hf : formB (itD L) = true) (hps : smallP p) (hp : NRow packC 31 w N u L) (hcp : packC.at_ w cs p) :
    Calls Tryz.prog 85 #[.agg #[u], .agg cs.toArray] w (SwapR N p (itD L) w) := by
  obtain ⟨v2, v3, rfl, p2, p3⟩ := packC_at hcp
  obtain ⟨na, nc, rfl, -⟩ := rowAt.slice p2
  obtain ⟨ta, tc, rfl, -⟩ := rowAt.slice p3
  obtain ⟨a1, c1, rfl⟩ := nrow_slice hp
  have HCP := hid hcp
  have HP := hid hp
  have HA := hid (show rowAt packC w (.slice a1 L.length c1) (itD L) from by obtain ⟨F, h1, _⟩ := hp.own; exact h1.toAt)
  have HS := hid hs
  have hln := itD_len L
  have HLEN := hid (show (itD L).length ≤ 1000 by omega)
  have HF := hid hf
  generalize hpss : itD L = ps at *
  have HPS := hid hpss
  clear hp hpss hcp p2 p3 hf
  go_enter Tryz.func85, Tryz.ntmps85
  go_wp2_with fail
  obtain ⟨hP, hQ, hR, hS, hB⟩ := three_boxes w (.cells #[.slice a1 L.length c1] 42) (.cells #[.string (PackD.name p), .string (PackD.version p), .slice na (PackD.needs p).length nc, .slice ta (PackD.tree p).length tc] 31) (.cells #[.slice none 0 0] 42)
  generalize ((w.alloc (.cells #[.slice a1 L.length c1] 42)).alloc (.cells #[.string (PackD.name p), .string (PackD.version p), .slice na (PackD.needs p).length nc, .slice ta (PackD.tree p).length tc] 31)).alloc (.cells #[.slice none 0 0] 42) = W0 at hP hQ hR hS hB ⊢
  have o0 := cell_arrS hP 0 _ rfl
  have q0 := cell_arrS hQ 0 _ rfl
  go_wp2_with fail
  refine (l8Pack_any ps _ (PackD.name p) W0 hs.1 ((unhid HA).below hB)).mono ?_
  rintro x w1 ⟨⟨r, rfl, hr⟩, hb⟩
  clear o0 q0
  have hP1 := (hb.block _ (by omega)).trans hP
  have hQ1 := (hb.block _ (by omega)).trans hQ
  have hR1 := (hb.block _ hS).trans hR
  have hS1 : w.heap.size + 1 + 1 < w1.heap.size := Nat.lt_of_lt_of_le hS hb.size
  have hB1 := hB.trans (hb.mono hB.size)
  have HR := hid hr
  clear hb hP hQ hR hB hS hr
  have q0 := cell_arrS hQ1 0 _ rfl
  have q1 := cell_arrS hQ1 1 _ rfl
  have q2 := cell_arrS hQ1 2 _ rfl
  have q3 := cell_arrS hQ1 3 _ rfl
  go_wp2_with fail
  refine (specPackOk_any p _ w1 hps (packC.below (unhid HCP) hB1)).mono ?_
  rintro x w2 ⟨rfl, hb⟩
  clear q0 q1 q2 q3
  have hP2 := (hb.block _ (by omega)).trans hP1
  have hQ2 := (hb.block _ (by omega)).trans hQ1
  have hR2 := (hb.block _ hS1).trans hR1
  have hS2 : w.heap.size + 1 + 1 < w2.heap.size := Nat.lt_of_lt_of_le hS1 hb.size
  have hB2 := hB1.trans (hb.mono hB1.size)
  clear hb hP1 hQ1 hR1 hB1 hS1 hs
  obtain ⟨o0, p0⟩ := cell_fz hP2 0 _ rfl
  obtain ⟨o1, p1⟩ := cell_fz hR2 0 _ rfl
  have HB := hid hB2
  have hstay : ∀ z, NRow packC 31 (w2.setCell ⟨w.heap.size + 1 + 1, 0, none⟩ z) N (.slice a1 L.length c1) L := fun z => (unhid HP).frame (fun k hk => by
    have h1 := ((unhid HP).base k hk).2
    rw [Below.heap_setCell _ _ _ _ (by dsimp only; omega), (unhid HB).block k h1])
  have HST := hid hstay
  clear hstay
  cases hok : pkOk p with
  | false =>
    have HE := hid (show 1 = swapCode p ps ∧ ps = swapP p ps from ⟨by unfold swapCode; rw [hok]; rfl, by unfold swapP; rw [hok]; rfl⟩)
    clear hP2 hQ2 hR2 hB2 hok
    go_wp2_with fail
    exact bodyPost_ret (v := .tuple #[.agg #[.slice a1 L.length c1], .int .i64 1]) (by simp [results, Tryz.results85, go_sem, World.cell?_setCell_same', o1]) rfl ⟨_, L, by rw [← (unhid HE).1], unhid HST _, by rw [unhid HPS]; exact (unhid HE).2, (unhid HB).setCell (by dsimp only; omega) _⟩
  | true =>
    rcases unhid HR with ⟨rfl, hno⟩ | ⟨k, rfl, hyes⟩
    · have hno2 : ¬ hasB (PackD.name p) ps = true := fun e => hno ((hasB_iff _ ps).1 e)
      have HE := hid (show 3 = swapCode p ps ∧ ps = swapP p ps from ⟨by unfold swapCode; rw [if_pos hok, if_neg hno2], by unfold swapP; rw [if_pos hok, if_neg hno2]⟩)
      clear hno hno2 hok hP2 hQ2 hR2 hB2
      go_wp2_with fail
      exact bodyPost_ret (v := .tuple #[.agg #[.slice a1 L.length c1], .int .i64 3]) (by simp [results, Tryz.results85, go_sem, World.cell?_setCell_same', o1]) rfl ⟨_, L, by rw [← (unhid HE).1], unhid HST _, by rw [unhid HPS]; exact (unhid HE).2, (unhid HB).setCell (by dsimp only; omega) _⟩
    · have hm : hasB (PackD.name p) ps = true := (hasB_iff _ ps).2 (List.mem_of_getElem? hyes)
      obtain ⟨t, ht, hto⟩ : ∃ t, L[k]? = some t ∧ ps[k]? = some t.2.1 := by
        obtain ⟨o, ho, _⟩ := namesP_some hyes
        rw [← unhid HPS] at ho
        unfold itD at ho
        rw [List.getElem?_map] at ho
        cases ht : L[k]? with
        | none => rw [ht] at ho; cases ho
        | some t => exact ⟨t, rfl, by rw [← unhid HPS]; unfold itD; rw [List.getElem?_map, ht]; rfl⟩
      have hold := oldI_at (unhid HF) hyes hto
      have hkl : k < L.length := (List.getElem?_eq_some_iff.1 ht).1
      obtain ⟨g, cap', na', nc', ta', tc', hv, hgl, hcs, c0, c2, c3, c4⟩ := item_cells (unhid HP) ht (unhid HB)
      obtain ⟨rfl, rfl⟩ : a1 = some ⟨g, 0, none⟩ ∧ c1 = cap' := by injection hv with e1 _ e2; exact ⟨e1, e2⟩
      have hso : smallP t.2.1 := (unhid HS).2 _ (List.mem_of_getElem? hto)
      generalize t.2.1 = o at *
      have hgw : g < w2.heap.size := Nat.lt_of_lt_of_le hgl (unhid HB).size
      have gq0 : ∀ x : CW (fun w' => Below w2.heap.size w2 w'), x.w.cell? ⟨w.heap.size, 0, none⟩ = some (.slice (some ⟨g, 0, none⟩) L.length c1) := fun x => (x.h.cell (p := ⟨w.heap.size, 0, none⟩) (by dsimp only; omega)).trans o0
      have gp1 : ∀ x : CW (fun w' => Below w2.heap.size w2 w'), x.w.cell? ⟨w.heap.size + 1, 1, none⟩ = some (.string (PackD.version p)) := fun x => cell_arrS ((x.h.block _ (by omega)).trans hQ2) 1 _ rfl
      have gc : ∀ x : CW (fun w' => Below w2.heap.size w2 w'), x.w.cell? ⟨g, k * 4 + 1, none⟩ = some (.string (PackD.version o)) := fun x => (x.h.cell (p := ⟨g, k * 4 + 1, none⟩) hgw).trans c2
      have gd : decide ((k : Int) < (L.length : Int)) = true := by simp; omega
      have hba : ∀ {q : Prop}, (CW (fun w' => Below w2.heap.size w2 w') → q) ↔ q := CW.all (Below.refl _ w2)
      have JN := hid (fun W => specVersionOrder_any (PackD.version o) (PackD.version p) hso.version hps.version W)
      have HEO := hid (show oldI p ps = ordI (PackD.version o).data.toList (PackD.version p).data.toList from hold)
      have HHM := hid hm
      have HOK := hid hok
      clear hyes hm ht hto hold hv hcs c0 c2 c3 c4 hok
      go_wp2_with fail
      refine held_begin (fun w' => Below w2.heap.size w2 w') (by kernel_rfl) (drew_belowS _) ?_
      refine held_here [true, true, true, true, true, true, true, true] (by kernel_rfl) (by kernel_rfl) (fun _ _ _ _ _ h => h) (drew_belowS _) ?_
      dsimp only [pick]
      repeat (go_big_quiet_step (fail))
      refine wpQuiet_nil ?_
      have hD := drew_belowS (B := w2.heap.size) w2
      generalize hdr : w2.drew = w3 at hD ⊢
      clear gq0 gp1 gc hdr
      refine held_call 8 135 30 (enters_of Tryz.func135 (by kernel_rfl) rfl) #[.string (PackD.version o), .string (PackD.version p)] (by kernel_rfl) (by kernel_rfl) rfl rfl rfl rfl rfl ?_
      refine (unhid JN w3).mono ?_
      rintro x w4 ⟨rfl, hb⟩
      have hD4 := hD.trans (hb.mono hD.size)
      clear hb hD JN
      generalize ordI (PackD.version o).data.toList (PackD.version p).data.toList = oi at *
      refine ⟨_, rfl, hD4, ?_⟩
      simp only [Act.put, List.setIfInBounds_toArray, List.set_cons_zero, List.set_cons_succ]
      refine held_here [false, false, false, false, false, false, false, false, false, true, true] (by kernel_rfl) (by kernel_rfl) (fun _ _ _ _ _ h => h) hD4 ?_
      dsimp only [pick]
      repeat (go_big_quiet_step (fail))
      refine wpQuiet_nil ?_
      refine held_done (by kernel_rfl) ?_
      clear hba gd o0 p0 o1 p1
      have hP4 := (hD4.block _ (by omega)).trans hP2
      have hQ4 := (hD4.block _ (by omega)).trans hQ2
      have hR4 := (hD4.block _ hS2).trans hR2
      have hS4 : w.heap.size + 1 + 1 < w4.heap.size := Nat.lt_of_lt_of_le hS2 hD4.size
      have hB4 := (unhid HB).trans (hD4.mono (unhid HB).size)
      clear hP2 hQ2 hR2 hB2 hS2 hD4 HB HST
      have HB := hid hB4
      obtain ⟨o0, p0⟩ := cell_fz hP4 0 _ rfl
      obtain ⟨o1, p1⟩ := cell_fz hR4 0 _ rfl
      by_cases h0 : 0 ≤ oi
      · have HE := hid (show 7 = swapCode p ps ∧ ps = swapP p ps from ⟨by unfold swapCode; rw [if_pos (unhid HOK), if_pos (unhid HHM), if_pos (by rw [unhid HEO]; exact h0)], by unfold swapP; rw [if_pos (unhid HOK), if_pos (unhid HHM), if_pos (by rw [unhid HEO]; exact h0)]⟩)
        clear hP4 hQ4 hR4 hB4
        go_wp2_with fail
        exact bodyPost_ret (v := .tuple #[.agg #[.slice (some ⟨g, 0, none⟩) L.length c1], .int .i64 7]) (by simp [results, Tryz.results85, go_sem, World.cell?_setCell_same', o1]) rfl ⟨_, L, by rw [← (unhid HE).1], (unhid HP).frame (fun k hk => by
          have h1 := ((unhid HP).base k hk).2
          rw [Below.heap_setCell _ _ _ _ (by dsimp only; omega), (unhid HB).block k h1]), by rw [unhid HPS]; exact (unhid HE).2, (unhid HB).setCell (by dsimp only; omega) _⟩
      · have HE := hid (show rootCode (swapQ p ps) = swapCode p ps ∧ tryP ps (swapQ p ps) = swapP p ps from ⟨by unfold swapCode; rw [if_pos (unhid HOK), if_pos (unhid HHM), if_neg (by rw [unhid HEO]; exact h0)], by unfold swapP; rw [if_pos (unhid HOK), if_pos (unhid HHM), if_neg (by rw [unhid HEO]; exact h0)]⟩)
        have hC0 : OutW w4 (w.heap.size + 1) w4.drew := ⟨⟨rfl, rfl, rfl, Nat.le_refl _, fun _ _ => rfl⟩, _, hR4⟩
        have HC0 := hid hC0
        have HS4 := hid hS4
        clear hR4 hB4 o1 p1 hP4
        go_wp2_with fail
        have gq0 : ∀ x : CW (OutW w4 (w.heap.size + 1)), x.w.cell? ⟨w.heap.size, 0, none⟩ = some (.slice (some ⟨g, 0, none⟩) L.length c1) := fun x => (x.h.1.cell (p := ⟨w.heap.size, 0, none⟩) (by dsimp only; omega)).trans o0
        have gp0 : ∀ x : CW (OutW w4 (w.heap.size + 1)), x.w.cell? ⟨w.heap.size + 1, 0, none⟩ = some (.string (PackD.name p)) := fun x => cell_arrS ((x.h.1.block _ (by omega)).trans hQ4) 0 _ rfl
        have gp1 : ∀ x : CW (OutW w4 (w.heap.size + 1)), x.w.cell? ⟨w.heap.size + 1, 1, none⟩ = some (.string (PackD.version p)) := fun x => cell_arrS ((x.h.1.block _ (by omega)).trans hQ4) 1 _ rfl
        have gp2 : ∀ x : CW (OutW w4 (w.heap.size + 1)), x.w.cell? ⟨w.heap.size + 1, 2, none⟩ = some (.slice na (PackD.needs p).length nc) := fun x => cell_arrS ((x.h.1.block _ (by omega)).trans hQ4) 2 _ rfl
        have gp3 : ∀ x : CW (OutW w4 (w.heap.size + 1)), x.w.cell? ⟨w.heap.size + 1, 3, none⟩ = some (.slice ta (PackD.tree p).length tc) := fun x => cell_arrS ((x.h.1.block _ (by omega)).trans hQ4) 3 _ rfl
        have hba : ∀ {q : Prop}, (CW (OutW w4 (w.heap.size + 1)) → q) ↔ q := CW.all hC0
        refine held_begin (OutW w4 (w.heap.size + 1)) (by kernel_rfl) hC0 ?_
        refine held_here [true, true, true, true, true, false, true] (by kernel_rfl) (by kernel_rfl) (fun _ _ _ _ _ h => h) hC0 ?_
        dsimp only [pick]
        repeat (go_big_quiet_step (fail))
        refine wpQuiet_nil ?_
        clear hba gq0 gp0 gp1 gp2 gp3 hC0 o0 p0 hQ4
        have hs0 : w.heap.size + 1 + 1 < w4.drew.heap.size := unhid HS4
        have hbd : Below w.heap.size w w4.drew := (unhid HB).trans ⟨rfl, rfl, rfl, Nat.le_refl _, fun _ _ => rfl⟩
        have HSW := hid hs0
        generalize w4.drew = w5 at *
        have hsL : L.length ≤ 1048576 := by omega
        have hPd : NRow packC 31 w5 N (.slice (some ⟨g, 0, none⟩) L.length c1) L := (unhid HP).frame (fun k hk => hbd.block k ((unhid HP).base k hk).2)
        refine held_call 5 134 38 (enters_of Tryz.func134 (by kernel_rfl) rfl) #[.slice (some ⟨g, 0, none⟩) L.length c1, .string (PackD.name p)] (by kernel_rfl) (by kernel_rfl) rfl rfl rfl rfl rfl ?_
        refine (l9Without_any L _ (PackD.name p) w5 N (Nat.le_trans hN hbd.size) hsL hPd).mono ?_
        rintro x w6 ⟨v6, rfl, hN6, hW6, hb⟩
        have hC6 := (unhid HC0).next hs0 hb
        have hs6 := Nat.lt_of_lt_of_le hs0 hb.size
        have hb6 := hbd.trans (hb.mono hbd.size)
        have HSZ6 := hid hb.size
        refine ⟨_, rfl, hC6, ?_⟩
        simp only [Act.put, List.setIfInBounds_toArray, List.set_cons_zero, List.set_cons_succ]
        refine held_call 7 126 40 (enters_of Tryz.func126 (by kernel_rfl) rfl) #[v6, .agg #[.string (PackD.name p), .string (PackD.version p), .slice na (PackD.needs p).length nc, .slice ta (PackD.tree p).length tc]] (by kernel_rfl) (by kernel_rfl) rfl rfl rfl rfl rfl ?_
        refine (l9With_any (withoutI (PackD.name p) L) v6 p _ w6 N (Nat.le_trans hN hb6.size) (Nat.le_trans (withoutI_sub _ L).length_le hsL) hps hN6 (packC.below (unhid HCP) hb6)).mono ?_
        rintro x w7 ⟨v7, L7, rfl, hN7, hD7, hW7, hb⟩
        have hC7 := hC6.next hs6 hb
        have hs7 := Nat.lt_of_lt_of_le hs6 hb.size
        have hb7 := hb6.trans (hb.mono hb6.size)
        have hD7' : itD L7 = swapQ p ps := by rw [hD7, withoutI_D, unhid HPS]; rfl
        have hat : rowAt packC w7 v7 (swapQ p ps) := by
          obtain ⟨F, h1, _⟩ := hN7.own
          have := h1.toAt
          rwa [hD7'] at this
        refine ⟨_, rfl, hC7, ?_⟩
        simp only [Act.put, List.setIfInBounds_toArray, List.set_cons_zero, List.set_cons_succ]
        refine held_call 8 125 41 (enters_of Tryz.func125 (by kernel_rfl) rfl) #[.agg #[.slice (some ⟨g, 0, none⟩) L.length c1], v7] (by kernel_rfl) (by kernel_rfl) rfl rfl rfl rfl rfl ?_
        refine (l9Try_any (swapQ p ps) (some ⟨g, 0, none⟩) L.length c1 v7 w7 (with_small (without_small (unhid HS)) (Nat.le_trans (List.length_filter_le _ _) (unhid HLEN)) hps) hat).mono ?_
        rintro x w8 ⟨r8, rfl, hat8, hb8⟩
        obtain ⟨ra, rn, rc, hr8⟩ : ∃ ra rn rc, r8 = .slice ra rn rc := by
          rcases hat8 with ⟨_, rfl⟩ | ⟨_, rfl⟩
          · obtain ⟨x, y, rfl⟩ := nrow_slice hN7
            exact ⟨_, _, _, rfl⟩
          · exact ⟨_, _, _, rfl⟩
        have hfin : ∃ L', itD L' = tryP ps (swapQ p ps) ∧ ∀ z, NRow packC 31 (w8.setCell ⟨w.heap.size + 1 + 1, 0, none⟩ z) N r8 L' := by
          rcases hat8 with ⟨h0, rfl⟩ | ⟨h0, rfl⟩
          · refine ⟨L7, by rw [hD7']; unfold tryP; rw [if_pos h0], fun z => hN7.frame (fun k hk => ?_)⟩
            have hl := (hN7.base k hk).2
            rw [Below.heap_setCell _ _ _ _ ?_, hb8.block k hl]
            dsimp only
            have hw5s : w.heap.size + 1 + 1 < w5.heap.size := unhid HSW
            have hw6s := unhid HSZ6
            rcases hW7 k hk with hk | hk
            · have h2 := (unhid HP).items.lt k ((itF_sub (withoutI_sub _ L)).subset hk)
              omega
            · omega
          · refine ⟨L, by rw [unhid HPS]; unfold tryP; rw [if_neg h0], fun z => (unhid HP).frame (fun k hk => ?_)⟩
            have hl := ((unhid HP).base k hk).2
            rw [Below.heap_setCell _ _ _ _ (by dsimp only; omega), hb8.block k (Nat.lt_of_lt_of_le hl hb7.size), hb7.block k hl]
        subst hr8
        have HFIN := hid hfin
        clear hfin
        have hC8 := hC7.next hs7 hb8
        have hB8 := hb7.trans (hb8.mono hb7.size)
        refine ⟨_, rfl, hC8, ?_⟩
        simp only [Act.put, List.setIfInBounds_toArray, List.set_cons_zero, List.set_cons_succ]
        have HB8 := hid hB8
        clear hs0 hbd HC0 hat hb hC6 hs6 hb6 hC7 hs7 hb7 hat8 hb8 hB8 HB hPd hN6 hW6 hN7 hW7 hD7 hD7' HSW HSZ6
        have hba : ∀ {q : Prop}, (CW (OutW w4 (w.heap.size + 1)) → q) ↔ q := CW.all hC8
        refine held_here [false, false, false, false, false, false, false, false, false, true, true] (by kernel_rfl) (by kernel_rfl) (fun _ _ _ _ _ h => h) hC8 ?_
        dsimp only [pick]
        repeat (go_big_quiet_step (fail))
        refine wpQuiet_nil ?_
        obtain ⟨z, hz⟩ := hC8.2
        obtain ⟨o1, p1⟩ := cell_fz hz 0 _ rfl
        have hC9 := hC8.store (.slice ra rn rc)
        clear hba
        refine held_op 11 (by kernel_rfl) (by kernel_rfl) rfl (fun K hK => ?_)
        go_simp
        refine hK.out _ _ hC9 ?_
        clear hK K
        have hba : ∀ {q : Prop}, (CW (OutW w4 (w.heap.size + 1)) → q) ↔ q := CW.all hC9
        refine held_here [false, false, false, false, false, false, false, false, false, false, false, false, true] (by kernel_rfl) (by kernel_rfl) (fun _ _ _ _ _ h => h) hC9 ?_
        dsimp only [pick]
        repeat (go_big_quiet_step (fail))
        refine wpQuiet_nil ?_
        clear hba
        refine held_done (by kernel_rfl) ?_
        go_wp2_with fail
        obtain ⟨L', h1, h2⟩ := unhid HFIN
        exact bodyPost_ret (v := .tuple #[.agg #[.slice ra rn rc], .int .i64 (rootCode (swapQ p ps))]) (by simp [results, Tryz.results85, go_sem, World.cell?_setCell_same', o1]) rfl ⟨_, L', by rw [← (unhid HE).1], h2 _, by rw [h1]; exact (unhid HE).2, (unhid HB8).setCell (by dsimp only; omega) _⟩
end Go.Proofs.YtlnpjiabdebmgaaGreat

/- RootSwap, by the model. -/
namespace Go.Proofs.YtlnpjiabdebmgaaGreat
open Go.RowKit Go.Shelf

def rootSwapC (d : RootD) (p : packC.D) : Int := if rootOk_0 d = true then swapCode p d.packs else 1
def rootSwapP (d : RootD) (p : packC.D) : List packC.D := if rootOk_0 d = true then swapP p d.packs else []
def RootSwapR (d : RootD) (p : packC.D) (w : World) (x : Ending) (w' : World) : Prop := ∃ (r : Value) (L : List (It packC)), x = .returned (.tuple #[.agg #[r], .int .i64 (rootSwapC d p)]) ∧ NRow packC 31 w' w.heap.size r L ∧ itD L = rootSwapP d p ∧ Below w.heap.size w w'
set_option maxRecDepth 100000 in
set_option maxHeartbeats 4000000 in
theorem specRootSwap_any (d : RootD) (a1 : Option Addr) (c1 : Nat) (p : packC.D) (cs : List Value) (w : World) (hs : smallPs d.packs) (hps : smallP p) (hp : rowAt packC w (.slice a1 d.packs.length c1) d.packs) (hcp : packC.at_ w cs p) :
    Calls Tryz.prog 34 #[.agg #[.slice a1 d.packs.length c1], .agg cs.toArray] w (RootSwapR d p w) := by
  obtain ⟨v2, v3, rfl, p2, p3⟩ := packC_at hcp
  obtain ⟨na, nc, rfl, -⟩ := rowAt.slice p2
  obtain ⟨ta, tc, rfl, -⟩ := rowAt.slice p3
  have HCP := hid hcp
  have HP := hid hp
  clear hp hcp p2 p3
  go_enter Tryz.func34, Tryz.ntmps34
  go_wp2_with fail
  obtain ⟨hP, hQ, hR, hS, hB⟩ := three_boxes w (.cells #[.slice a1 d.packs.length c1] 42) (.cells #[.string (PackD.name p), .string (PackD.version p), .slice na (PackD.needs p).length nc, .slice ta (PackD.tree p).length tc] 31) (.cells #[.slice none 0 0] 42)
  generalize ((w.alloc (.cells #[.slice a1 d.packs.length c1] 42)).alloc (.cells #[.string (PackD.name p), .string (PackD.version p), .slice na (PackD.needs p).length nc, .slice ta (PackD.tree p).length tc] 31)).alloc (.cells #[.slice none 0 0] 42) = W0 at hP hQ hR hS hB ⊢
  have o0 := cell_arrS hP 0 _ rfl
  go_wp2_with fail
  refine (specRootOk_any d a1 c1 W0 hs ((unhid HP).below hB)).mono ?_
  rintro x w2 ⟨rfl, hb⟩
  clear o0
  have hP2 := (hb.block _ (by omega)).trans hP
  have hQ2 := (hb.block _ (by omega)).trans hQ
  have hR2 := (hb.block _ hS).trans hR
  have hS2 : w.heap.size + 1 + 1 < w2.heap.size := Nat.lt_of_lt_of_le hS hb.size
  have hB2 := hB.trans (hb.mono hB.size)
  clear hb hP hQ hR hB hS
  obtain ⟨o0, p0⟩ := cell_fz hP2 0 _ rfl
  obtain ⟨o1, p1⟩ := cell_fz hR2 0 _ rfl
  have HB := hid hB2
  have HS2 := hid hS2
  cases hok : rootOk_0 d with
  | false =>
    have HE := hid hok
    clear hP2 hQ2 hR2 hB2 hS2
    go_wp2_with fail
    exact bodyPost_ret (v := .tuple #[.agg #[.slice none 0 0], .int .i64 1]) (by simp [results, Tryz.results34, go_sem, World.cell?_setCell_same', o1]) rfl ⟨_, [], by unfold rootSwapC; rw [unhid HE]; rfl, NRow.none _ _, by unfold rootSwapP; rw [unhid HE]; rfl, (unhid HB).setCell (by dsimp only; omega) _⟩
  | true =>
    have hlen := ok_len (rootOk_yes hok)
    have HFO := hid (ok_form (rootOk_yes hok))
    have HE := hid (show swapCode p d.packs = rootSwapC d p ∧ swapP p d.packs = rootSwapP d p from ⟨by unfold rootSwapC; rw [if_pos hok], by unfold rootSwapP; rw [if_pos hok]⟩)
    have hC0 : OutW w2 (w.heap.size + 1) w2.drew := ⟨⟨rfl, rfl, rfl, Nat.le_refl _, fun _ _ => rfl⟩, _, hR2⟩
    have HC0 := hid hC0
    clear hR2 hB2 o1 p1 hP2 hok
    go_wp2_with fail
    have gq0 : ∀ x : CW (OutW w2 (w.heap.size + 1)), x.w.cell? ⟨w.heap.size, 0, none⟩ = some (.slice a1 d.packs.length c1) := fun x => (x.h.1.cell (p := ⟨w.heap.size, 0, none⟩) (by dsimp only; omega)).trans o0
    have gp0 : ∀ x : CW (OutW w2 (w.heap.size + 1)), x.w.cell? ⟨w.heap.size + 1, 0, none⟩ = some (.string (PackD.name p)) := fun x => cell_arrS ((x.h.1.block _ (by omega)).trans hQ2) 0 _ rfl
    have gp1 : ∀ x : CW (OutW w2 (w.heap.size + 1)), x.w.cell? ⟨w.heap.size + 1, 1, none⟩ = some (.string (PackD.version p)) := fun x => cell_arrS ((x.h.1.block _ (by omega)).trans hQ2) 1 _ rfl
    have gp2 : ∀ x : CW (OutW w2 (w.heap.size + 1)), x.w.cell? ⟨w.heap.size + 1, 2, none⟩ = some (.slice na (PackD.needs p).length nc) := fun x => cell_arrS ((x.h.1.block _ (by omega)).trans hQ2) 2 _ rfl
    have gp3 : ∀ x : CW (OutW w2 (w.heap.size + 1)), x.w.cell? ⟨w.heap.size + 1, 3, none⟩ = some (.slice ta (PackD.tree p).length tc) := fun x => cell_arrS ((x.h.1.block _ (by omega)).trans hQ2) 3 _ rfl
    have hba : ∀ {q : Prop}, (CW (OutW w2 (w.heap.size + 1)) → q) ↔ q := CW.all hC0
    refine held_begin (OutW w2 (w.heap.size + 1)) (by kernel_rfl) hC0 ?_
    refine held_here [true, false, true] (by kernel_rfl) (by kernel_rfl) (fun _ _ _ _ _ h => h) hC0 ?_
    dsimp only [pick]
    repeat (go_big_quiet_step (fail))
    refine wpQuiet_nil ?_
    clear hba gq0 gp0 gp1 gp2 gp3 hC0 o0 p0 hQ2
    have hs0 : w.heap.size + 1 + 1 < w2.drew.heap.size := unhid HS2
    have hbd : Below w.heap.size w w2.drew := (unhid HB).trans ⟨rfl, rfl, rfl, Nat.le_refl _, fun _ _ => rfl⟩
    generalize w2.drew = w3 at *
    refine held_call 1 75 11 (enters_of Tryz.func75 (by kernel_rfl) rfl) #[.agg #[.slice a1 d.packs.length c1]] (by kernel_rfl) (by kernel_rfl) rfl rfl rfl rfl rfl ?_
    refine (l9Copy_any d.packs _ w3 hs ((unhid HP).below hbd)).mono ?_
    rintro x w4 ⟨u4, L, rfl, hN4, hL4, hb⟩
    have hC4 := (unhid HC0).next hs0 hb
    have hs4 := Nat.lt_of_lt_of_le hs0 hb.size
    have hb4 := hbd.trans (hb.mono hbd.size)
    refine ⟨_, rfl, hC4, ?_⟩
    simp only [Act.put, List.setIfInBounds_toArray, List.set_cons_zero, List.set_cons_succ]
    refine held_call 3 85 13 (enters_of Tryz.func85 (by kernel_rfl) rfl) #[.agg #[u4], .agg #[.string (PackD.name p), .string (PackD.version p), .slice na (PackD.needs p).length nc, .slice ta (PackD.tree p).length tc]] (by kernel_rfl) (by kernel_rfl) rfl rfl rfl rfl rfl ?_
    refine (l9Swap_any L u4 p _ w4 w3.heap.size hb.size (by rw [hL4]; exact hs) (by rw [← itD_len L, hL4]; omega) (by rw [hL4]; exact unhid HFO) hps hN4 (packC.below (unhid HCP) hb4)).mono ?_
    rintro x w5 ⟨r, L', rfl, hN5, hL5, hb5⟩
    obtain ⟨rb, rd, rfl⟩ := nrow_slice hN5
    have hC5 := hC4.next hs4 hb5
    have hB5 := hb4.trans (hb5.mono hb4.size)
    rw [hL4] at hL5 ⊢
    rw [(unhid HE).1]
    have HN5 := hid hN5
    have HL5 := hid (hL5.trans (unhid HE).2)
    have HB5 := hid hB5
    have HS3 := hid hs0
    have HBD := hid hbd
    generalize hoc : rootSwapC d p = oc
    have HOC := hid hoc
    refine ⟨_, rfl, hC5, ?_⟩
    simp only [Act.put, List.setIfInBounds_toArray, List.set_cons_zero, List.set_cons_succ]
    clear hoc hs0 hbd HC0 hN4 hL4 hb hC4 hs4 hb4 hN5 hL5 hb5 hB5 HE
    have hba : ∀ {q : Prop}, (CW (OutW w2 (w.heap.size + 1)) → q) ↔ q := CW.all hC5
    refine held_here [false, false, false, false, true, true] (by kernel_rfl) (by kernel_rfl) (fun _ _ _ _ _ h => h) hC5 ?_
    dsimp only [pick]
    repeat (go_big_quiet_step (fail))
    refine wpQuiet_nil ?_
    obtain ⟨z, hz⟩ := hC5.2
    obtain ⟨o1, p1⟩ := cell_fz hz 0 _ rfl
    have hC6 := hC5.store (.slice rb L'.length rd)
    clear hba
    refine held_op 6 (by kernel_rfl) (by kernel_rfl) rfl (fun K hK => ?_)
    go_simp
    refine hK.out _ _ hC6 ?_
    clear hK K
    have hba : ∀ {q : Prop}, (CW (OutW w2 (w.heap.size + 1)) → q) ↔ q := CW.all hC6
    refine held_here [false, false, false, false, false, false, false, true] (by kernel_rfl) (by kernel_rfl) (fun _ _ _ _ _ h => h) hC6 ?_
    dsimp only [pick]
    repeat (go_big_quiet_step (fail))
    refine wpQuiet_nil ?_
    clear hba
    refine held_done (by kernel_rfl) ?_
    go_wp2_with fail
    refine bodyPost_ret (v := .tuple #[.agg #[.slice rb L'.length rd], .int .i64 oc]) (by simp [results, Tryz.results34, go_sem, World.cell?_setCell_same', o1]) rfl ⟨_, L', by rw [unhid HOC], NRow.lower (N := w3.heap.size) ((unhid HN5).frame (fun k hk => Below.heap_setCell _ _ _ _ ?_)) (by have := (unhid HBD).size; omega), unhid HL5, (unhid HB5).setCell (by dsimp only; omega) _⟩
    have := ((unhid HN5).base k hk).1
    have := unhid HS3
    dsimp only
    omega
end Go.Proofs.YtlnpjiabdebmgaaGreat

/- RootSwap, by the program. -/
namespace Go.Proofs.YtlnpjiabdebmgaaGreat
open Go.RowKit Go.Shelf

set_option maxRecDepth 100000 in
set_option maxHeartbeats 8000000 in
theorem implRootSwap_any (d : RootD) (a1 : Option Addr) (c1 : Nat) (p : packC.D) (cs : List Value) (w : World) (hs : smallPs d.packs) (hps : smallP p) (hp : rowAt packC w (.slice a1 d.packs.length c1) d.packs) (hcp : packC.at_ w cs p) :
    Calls Tryz.prog 35 #[.agg #[.slice a1 d.packs.length c1], .agg cs.toArray] w (RootSwapR d p w) := by
  obtain ⟨v2, v3, rfl, p2, p3⟩ := packC_at hcp
  obtain ⟨na, nc, rfl, -⟩ := rowAt.slice p2
  obtain ⟨ta, tc, rfl, -⟩ := rowAt.slice p3
  have HCP := hid hcp
  have HP := hid hp
  clear hp hcp p2 p3
  go_enter Tryz.func35, Tryz.ntmps35
  go_wp2_with fail
  obtain ⟨hP, hQ, hR, hS, hB⟩ := three_boxes w (.cells #[.slice a1 d.packs.length c1] 42) (.cells #[.string (PackD.name p), .string (PackD.version p), .slice na (PackD.needs p).length nc, .slice ta (PackD.tree p).length tc] 31) (.cells #[.slice none 0 0] 42)
  generalize ((w.alloc (.cells #[.slice a1 d.packs.length c1] 42)).alloc (.cells #[.string (PackD.name p), .string (PackD.version p), .slice na (PackD.needs p).length nc, .slice ta (PackD.tree p).length tc] 31)).alloc (.cells #[.slice none 0 0] 42) = W0 at hP hQ hR hS hB ⊢
  have o0 := cell_arrS hP 0 _ rfl
  go_wp2_with fail
  refine (implRootOk_any d a1 c1 W0 hs ((unhid HP).below hB)).mono ?_
  rintro x w2 ⟨rfl, hb⟩
  clear o0
  have hP2 := (hb.block _ (by omega)).trans hP
  have hQ2 := (hb.block _ (by omega)).trans hQ
  have hR2 := (hb.block _ hS).trans hR
  have hS2 : w.heap.size + 1 + 1 < w2.heap.size := Nat.lt_of_lt_of_le hS hb.size
  have hB2 := hB.trans (hb.mono hB.size)
  clear hb hP hQ hR hB hS
  obtain ⟨o0, p0⟩ := cell_fz hP2 0 _ rfl
  obtain ⟨o1, p1⟩ := cell_fz hR2 0 _ rfl
  have q0 := cell_arrS hQ2 0 _ rfl
  have HB := hid hB2
  cases hok : rootOk_0 d with
  | false =>
    have HE := hid hok
    clear hP2 hQ2 hR2 hB2 hS2
    go_wp2_with fail
    exact bodyPost_ret (v := .tuple #[.agg #[.slice none 0 0], .int .i64 1]) (by simp [results, Tryz.results35, go_sem, World.cell?_setCell_same', o1]) rfl ⟨_, [], by unfold rootSwapC; rw [unhid HE]; rfl, NRow.none _ _, by unfold rootSwapP; rw [unhid HE]; rfl, (unhid HB).setCell (by dsimp only; omega) _⟩
  | true =>
    have hrc := rootOk_yes hok
    have HF := hid (ok_form hrc)
    have hlen := ok_len hrc
    have HE := hid (show swapCode p d.packs = rootSwapC d p ∧ swapP p d.packs = rootSwapP d p from ⟨by unfold rootSwapC; rw [if_pos hok], by unfold rootSwapP; rw [if_pos hok]⟩)
    have JN := hid (packPlace_any d.packs _ (PackD.name p) w2 hs.1 (form_asc (unhid HF)) ((unhid HP).below hB2))
    clear o1 p1 hok hrc
    go_wp2_with fail
    refine (unhid JN).mono ?_
    rintro x w3 ⟨rfl, hb3⟩
    clear JN o0 p0 q0
    have hP3 := (hb3.block _ (by omega)).trans hP2
    have hQ3 := (hb3.block _ (by omega)).trans hQ2
    have hR3 := (hb3.block _ hS2).trans hR2
    have hS3 : w.heap.size + 1 + 1 < w3.heap.size := Nat.lt_of_lt_of_le hS2 hb3.size
    have hB3 := hB2.trans (hb3.mono hB2.size)
    clear hP2 hQ2 hR2 hS2 hB2 hb3 HB
    have JN := hid (packOk_any p _ w3 hps (packC.below (unhid HCP) hB3))
    have q0 := cell_arrS hQ3 0 _ rfl
    have q1 := cell_arrS hQ3 1 _ rfl
    have q2 := cell_arrS hQ3 2 _ rfl
    have q3 := cell_arrS hQ3 3 _ rfl
    go_wp2_with fail
    refine (unhid JN).mono ?_
    rintro x w4 ⟨rfl, hb4⟩
    clear JN q0 q1 q2 q3
    have hP4 := (hb4.block _ (by omega)).trans hP3
    have hQ4 := (hb4.block _ (by omega)).trans hQ3
    have hR4 := (hb4.block _ hS3).trans hR3
    have hS4 : w.heap.size + 1 + 1 < w4.heap.size := Nat.lt_of_lt_of_le hS3 hb4.size
    have hB4 := hB3.trans (hb4.mono hB3.size)
    clear hP3 hQ3 hR3 hS3 hB3 hb4
    obtain ⟨o0, p0⟩ := cell_fz hP4 0 _ rfl
    have HB := hid hB4
    have HS4 := hid hS4
    have HR4 := hid hR4
    cases hpk : pkOk p with
    | false =>
      have HX := hid (show 1 = rootSwapC d p ∧ d.packs = rootSwapP d p from by rw [← (unhid HE).1, ← (unhid HE).2]; exact ⟨by unfold swapCode; rw [hpk]; rfl, by unfold swapP; rw [hpk]; rfl⟩)
      have JN := hid (cloneRoot_any d.packs _ w4 hs ((unhid HP).below hB4))
      clear hP4 hQ4 hR4 hB4 hS4 hpk
      go_wp2_with fail
      refine (unhid JN).mono ?_
      rintro x w5 ⟨r, L', rfl, hN5, hL5, hb5⟩
      obtain ⟨rb, rd, rfl⟩ := nrow_slice hN5
      obtain ⟨o1, p1⟩ := cell_fz ((hb5.block _ (unhid HS4)).trans (unhid HR4)) 0 _ rfl
      have HN5 := hid hN5
      have HL5 := hid hL5
      have HB5 := hid ((unhid HB).trans (hb5.mono (unhid HB).size))
      clear hN5 hL5 hb5 JN
      go_wp2_with fail
      refine bodyPost_ret (v := .tuple #[.agg #[.slice rb L'.length rd], .int .i64 1]) (by simp [results, Tryz.results35, go_sem, World.cell?_setCell_same', o1]) rfl ⟨_, L', by rw [← (unhid HX).1], NRow.lower (N := w4.heap.size) ((unhid HN5).frame (fun k hk => Below.heap_setCell _ _ _ _ ?_)) (by have := (unhid HB).size; omega), by rw [unhid HL5]; exact (unhid HX).2, (unhid HB5).setCell (by dsimp only; omega) _⟩
      have := ((unhid HN5).base k hk).1
      have := unhid HS4
      dsimp only
      omega
    | true =>
      cases hth : thereP (namesP d.packs) (PackD.name p) with
      | false =>
        have hno : ¬ hasB (PackD.name p) d.packs = true := fun e => there_no (form_asc (unhid HF)) hth ((hasB_iff _ _).1 e)
        have HX := hid (show 3 = rootSwapC d p ∧ d.packs = rootSwapP d p from by rw [← (unhid HE).1, ← (unhid HE).2]; exact ⟨by unfold swapCode; rw [if_pos hpk, if_neg hno], by unfold swapP; rw [if_pos hpk, if_neg hno]⟩)
        have JN := hid (cloneRoot_any d.packs _ w4 hs ((unhid HP).below hB4))
        clear hP4 hQ4 hR4 hB4 hS4 hpk hno hth
        go_wp2_with fail
        refine (unhid JN).mono ?_
        rintro x w5 ⟨r, L', rfl, hN5, hL5, hb5⟩
        obtain ⟨rb, rd, rfl⟩ := nrow_slice hN5
        obtain ⟨o1, p1⟩ := cell_fz ((hb5.block _ (unhid HS4)).trans (unhid HR4)) 0 _ rfl
        have HN5 := hid hN5
        have HL5 := hid hL5
        have HB5 := hid ((unhid HB).trans (hb5.mono (unhid HB).size))
        clear hN5 hL5 hb5 JN
        go_wp2_with fail
        refine bodyPost_ret (v := .tuple #[.agg #[.slice rb L'.length rd], .int .i64 3]) (by simp [results, Tryz.results35, go_sem, World.cell?_setCell_same', o1]) rfl ⟨_, L', by rw [← (unhid HX).1], NRow.lower (N := w4.heap.size) ((unhid HN5).frame (fun k hk => Below.heap_setCell _ _ _ _ ?_)) (by have := (unhid HB).size; omega), by rw [unhid HL5]; exact (unhid HX).2, (unhid HB5).setCell (by dsimp only; omega) _⟩
        have := ((unhid HN5).base k hk).1
        have := unhid HS4
        dsimp only
        omega
      | true =>
        have hm := thereT_mem hth
        have hyes : hasB (PackD.name p) d.packs = true := (hasB_iff _ _).2 (List.mem_of_getElem? hm)
        have hput : putP p d.packs = swapQ p d.packs := by unfold putP swapQ; rw [if_pos hth, swap_with (unhid HF) hm]
        obtain ⟨o, ho, hon⟩ := namesP_some hm
        have hold := oldI_at (unhid HF) hm ho
        have hil : placeP (namesP d.packs) (PackD.name p) < d.packs.length := (List.getElem?_eq_some_iff.1 ho).1
        have hso : smallP o := hs.2 o (List.mem_of_getElem? ho)
        obtain ⟨a, cap, hv, -, -, hrow⟩ := unhid HP
        obtain ⟨b, of, rfl, hbl, hc⟩ := hrow.resolve_left (fun e => by rw [e] at hil; exact absurd hil (Nat.not_lt_zero _))
        obtain ⟨rfl, rfl⟩ : a1 = some ⟨b, of, none⟩ ∧ c1 = cap := by injection hv with e1 _ e2; exact ⟨e1, e2⟩
        obtain ⟨ma, mc, ka, kc, ⟨c0, c2, c3, c4⟩, hato⟩ := pack_cells (unhid HB) hbl hc ho
        have hbw : b < w4.heap.size := Nat.lt_of_lt_of_le hbl (unhid HB).size
        generalize placeP (namesP d.packs) (PackD.name p) = k at *
        have gq0 : ∀ x : CW (fun w' => Below w4.heap.size w4 w'), x.w.cell? ⟨w.heap.size, 0, none⟩ = some (.slice (some ⟨b, of, none⟩) d.packs.length c1) := fun x => (x.h.cell (p := ⟨w.heap.size, 0, none⟩) (by dsimp only; omega)).trans o0
        have gp0 : ∀ x : CW (fun w' => Below w4.heap.size w4 w'), x.w.cell? ⟨w.heap.size + 1, 0, none⟩ = some (.string (PackD.name p)) := fun x => cell_arrS ((x.h.block _ (by omega)).trans hQ4) 0 _ rfl
        have gp1 : ∀ x : CW (fun w' => Below w4.heap.size w4 w'), x.w.cell? ⟨w.heap.size + 1, 1, none⟩ = some (.string (PackD.version p)) := fun x => cell_arrS ((x.h.block _ (by omega)).trans hQ4) 1 _ rfl
        have gp2 : ∀ x : CW (fun w' => Below w4.heap.size w4 w'), x.w.cell? ⟨w.heap.size + 1, 2, none⟩ = some (.slice na (PackD.needs p).length nc) := fun x => cell_arrS ((x.h.block _ (by omega)).trans hQ4) 2 _ rfl
        have gp3 : ∀ x : CW (fun w' => Below w4.heap.size w4 w'), x.w.cell? ⟨w.heap.size + 1, 3, none⟩ = some (.slice ta (PackD.tree p).length tc) := fun x => cell_arrS ((x.h.block _ (by omega)).trans hQ4) 3 _ rfl
        have gc0 : ∀ x : CW (fun w' => Below w4.heap.size w4 w'), x.w.cell? ⟨b, of + k * 4, none⟩ = some (.string (PackD.name o)) := fun x => (x.h.cell (p := ⟨b, of + k * 4, none⟩) hbw).trans c0
        have gc1 : ∀ x : CW (fun w' => Below w4.heap.size w4 w'), x.w.cell? ⟨b, of + k * 4 + 1, none⟩ = some (.string (PackD.version o)) := fun x => (x.h.cell (p := ⟨b, of + k * 4 + 1, none⟩) hbw).trans c2
        have gc2 : ∀ x : CW (fun w' => Below w4.heap.size w4 w'), x.w.cell? ⟨b, of + k * 4 + 2, none⟩ = some (.slice ma (PackD.needs o).length mc) := fun x => (x.h.cell (p := ⟨b, of + k * 4 + 2, none⟩) hbw).trans c3
        have gc3 : ∀ x : CW (fun w' => Below w4.heap.size w4 w'), x.w.cell? ⟨b, of + k * 4 + 3, none⟩ = some (.slice ka (PackD.tree o).length kc) := fun x => (x.h.cell (p := ⟨b, of + k * 4 + 3, none⟩) hbw).trans c4
        have hba : ∀ {q : Prop}, (CW (fun w' => Below w4.heap.size w4 w') → q) ↔ q := CW.all (Below.refl _ w4)
        have HAO := hid hato
        have HEO := hid hold
        have HPUT := hid hput
        have HHM := hid hyes
        have HOK := hid hpk
        clear hm hyes hput ho hon hold hv hrow hc c0 c2 c3 c4 hato hth hpk
        go_wp2_with fail
        refine held_begin (fun w' => Below w4.heap.size w4 w') (by kernel_rfl) (drew_belowS _) ?_
        refine held_here [true, true, true, true, true, true] (by kernel_rfl) (by kernel_rfl) (fun _ _ _ _ _ h => h) (drew_belowS _) ?_
        dsimp only [pick]
        repeat (go_big_quiet_step (fail))
        refine wpQuiet_nil ?_
        have hD := drew_belowS (B := w4.heap.size) w4
        generalize hdr : w4.drew = w5 at hD ⊢
        clear gq0 gp0 gp1 gp2 gp3 gc0 gc1 gc2 gc3 hdr
        refine held_call 6 86 38 (enters_of Tryz.func86 (by kernel_rfl) rfl) #[.agg #[.string (PackD.name o), .string (PackD.version o), .slice ma (PackD.needs o).length mc, .slice ka (PackD.tree o).length kc], .agg #[.string (PackD.name p), .string (PackD.version p), .slice na (PackD.needs p).length nc, .slice ta (PackD.tree p).length tc]] (by kernel_rfl) (by kernel_rfl) rfl rfl rfl rfl rfl ?_
        refine (isElder_any o p _ _ w5 hso hps (packC.below (unhid HAO) hD) (packC.below (unhid HCP) ((unhid HB).trans (hD.mono (unhid HB).size)))).mono ?_
        rintro x w6 ⟨rfl, hb⟩
        have hD6 := hD.trans (hb.mono hD.size)
        clear hb hD
        refine ⟨_, rfl, hD6, ?_⟩
        simp only [Act.put, List.setIfInBounds_toArray, List.set_cons_zero, List.set_cons_succ]
        have hbi : decide (elderI o p < 0) = !decide (0 ≤ elderI o p) := by by_cases h : elderI o p < 0 <;> simp [h] <;> omega
        rw [hbi]
        clear hbi
        have HOI := hid (show oldI p d.packs = elderI o p from unhid HEO)
        clear HEO
        generalize elderI o p = oi at *
        refine held_here [false, false, false, false, false, false, false, true, true] (by kernel_rfl) (by kernel_rfl) (fun _ _ _ _ _ h => h) hD6 ?_
        dsimp only [pick]
        repeat (go_big_quiet_step (fail))
        refine wpQuiet_nil ?_
        refine held_done (by kernel_rfl) ?_
        clear hba o0 p0
        have hP6 := (hD6.block _ (by omega)).trans hP4
        have hQ6 := (hD6.block _ (by omega)).trans hQ4
        have hR6 := (hD6.block _ (unhid HS4)).trans (unhid HR4)
        have hS6 : w.heap.size + 1 + 1 < w6.heap.size := Nat.lt_of_lt_of_le (unhid HS4) hD6.size
        have hB6 := (unhid HB).trans (hD6.mono (unhid HB).size)
        clear hP4 hQ4 hR4 hB4 hS4 hD6 HB HS4 HR4
        generalize w6 = w4 at *
        have hP4 := hP6
        have hQ4 := hQ6
        have hR4 := hR6
        have hS4 := hS6
        have hB4 := hB6
        clear hP6 hQ6 hR6 hS6 hB6
        have HB := hid hB4
        have HS4 := hid hS4
        have HR4 := hid hR4
        obtain ⟨o0, p0⟩ := cell_fz hP4 0 _ rfl
        by_cases h0 : 0 ≤ oi
        · have HX := hid (show 7 = rootSwapC d p ∧ d.packs = rootSwapP d p from by rw [← (unhid HE).1, ← (unhid HE).2]; exact ⟨by unfold swapCode; rw [if_pos (unhid HOK), if_pos (unhid HHM), if_pos (by rw [unhid HOI]; exact h0)], by unfold swapP; rw [if_pos (unhid HOK), if_pos (unhid HHM), if_pos (by rw [unhid HOI]; exact h0)]⟩)
          have JN := hid (cloneRoot_any d.packs _ w4 hs ((unhid HP).below hB4))
          clear hP4 hQ4 hR4 hB4 hS4
          go_wp2_with fail
          refine (unhid JN).mono ?_
          rintro x w5 ⟨r, L', rfl, hN5, hL5, hb5⟩
          obtain ⟨rb, rd, rfl⟩ := nrow_slice hN5
          obtain ⟨o1, p1⟩ := cell_fz ((hb5.block _ (unhid HS4)).trans (unhid HR4)) 0 _ rfl
          have HN5 := hid hN5
          have HL5 := hid hL5
          have HB5 := hid ((unhid HB).trans (hb5.mono (unhid HB).size))
          clear hN5 hL5 hb5 JN
          go_wp2_with fail
          refine bodyPost_ret (v := .tuple #[.agg #[.slice rb L'.length rd], .int .i64 7]) (by simp [results, Tryz.results35, go_sem, World.cell?_setCell_same', o1]) rfl ⟨_, L', by rw [← (unhid HX).1], NRow.lower (N := w4.heap.size) ((unhid HN5).frame (fun k hk => Below.heap_setCell _ _ _ _ ?_)) (by have := (unhid HB).size; omega), by rw [unhid HL5]; exact (unhid HX).2, (unhid HB5).setCell (by dsimp only; omega) _⟩
          have := ((unhid HN5).base k hk).1
          have := unhid HS4
          dsimp only
          omega
        · have HX := hid (show rootCode (putP p d.packs) = rootSwapC d p ∧ tryP d.packs (putP p d.packs) = rootSwapP d p from by rw [← (unhid HE).1, ← (unhid HE).2, unhid HPUT]; exact ⟨by unfold swapCode; rw [if_pos (unhid HOK), if_pos (unhid HHM), if_neg (by rw [unhid HOI]; exact h0)], by unfold swapP; rw [if_pos (unhid HOK), if_pos (unhid HHM), if_neg (by rw [unhid HOI]; exact h0)]⟩)
          have hC0 : OutW w4 (w.heap.size + 1) w4.drew := ⟨⟨rfl, rfl, rfl, Nat.le_refl _, fun _ _ => rfl⟩, _, hR4⟩
          have HC0 := hid hC0
          clear hR4 hB4 hS4 hP4
          go_wp2_with fail
          have gq0 : ∀ x : CW (OutW w4 (w.heap.size + 1)), x.w.cell? ⟨w.heap.size, 0, none⟩ = some (.slice (some ⟨b, of, none⟩) d.packs.length c1) := fun x => (x.h.1.cell (p := ⟨w.heap.size, 0, none⟩) (by dsimp only; omega)).trans o0
          have gp0 : ∀ x : CW (OutW w4 (w.heap.size + 1)), x.w.cell? ⟨w.heap.size + 1, 0, none⟩ = some (.string (PackD.name p)) := fun x => cell_arrS ((x.h.1.block _ (by omega)).trans hQ4) 0 _ rfl
          have gp1 : ∀ x : CW (OutW w4 (w.heap.size + 1)), x.w.cell? ⟨w.heap.size + 1, 1, none⟩ = some (.string (PackD.version p)) := fun x => cell_arrS ((x.h.1.block _ (by omega)).trans hQ4) 1 _ rfl
          have gp2 : ∀ x : CW (OutW w4 (w.heap.size + 1)), x.w.cell? ⟨w.heap.size + 1, 2, none⟩ = some (.slice na (PackD.needs p).length nc) := fun x => cell_arrS ((x.h.1.block _ (by omega)).trans hQ4) 2 _ rfl
          have gp3 : ∀ x : CW (OutW w4 (w.heap.size + 1)), x.w.cell? ⟨w.heap.size + 1, 3, none⟩ = some (.slice ta (PackD.tree p).length tc) := fun x => cell_arrS ((x.h.1.block _ (by omega)).trans hQ4) 3 _ rfl
          have hba : ∀ {q : Prop}, (CW (OutW w4 (w.heap.size + 1)) → q) ↔ q := CW.all hC0
          refine held_begin (OutW w4 (w.heap.size + 1)) (by kernel_rfl) hC0 ?_
          refine held_here [true, true, true, true] (by kernel_rfl) (by kernel_rfl) (fun _ _ _ _ _ h => h) hC0 ?_
          dsimp only [pick]
          repeat (go_big_quiet_step (fail))
          refine wpQuiet_nil ?_
          clear hba gq0 gp0 gp1 gp2 gp3 hC0 o0 p0 hQ4
          have hs0 : w.heap.size + 1 + 1 < w4.drew.heap.size := unhid HS4
          have hbd : Below w.heap.size w w4.drew := (unhid HB).trans ⟨rfl, rfl, rfl, Nat.le_refl _, fun _ _ => rfl⟩
          generalize w4.drew = w5 at *
          refine held_call 4 79 46 (enters_of Tryz.func79 (by kernel_rfl) rfl) #[.slice (some ⟨b, of, none⟩) d.packs.length c1, .agg #[.string (PackD.name p), .string (PackD.version p), .slice na (PackD.needs p).length nc, .slice ta (PackD.tree p).length tc]] (by kernel_rfl) (by kernel_rfl) rfl rfl rfl rfl rfl ?_
          refine (withPack_any d.packs p _ _ w5 hs (by omega) hps (form_asc (unhid HF)) ((unhid HP).below hbd) (packC.below (unhid HCP) hbd)).mono ?_
          rintro x w6 ⟨v6, L, rfl, hN6, hL6, hb6⟩
          have hC6 := (unhid HC0).next hs0 hb6
          have hs6 := Nat.lt_of_lt_of_le hs0 hb6.size
          have hB6 := hbd.trans (hb6.mono hbd.size)
          refine ⟨_, rfl, hC6, ?_⟩
          simp only [Act.put, List.setIfInBounds_toArray, List.set_cons_zero, List.set_cons_succ]
          refine held_call 5 78 47 (enters_of Tryz.func78 (by kernel_rfl) rfl) #[.agg #[.slice (some ⟨b, of, none⟩) d.packs.length c1], v6] (by kernel_rfl) (by kernel_rfl) rfl rfl rfl rfl rfl ?_
          refine (turnRoot_any d.packs _ L v6 w6 w5.heap.size hb6.size hs (by rw [hL6]; exact put_small hs (by omega) hps) ((unhid HP).below hB6) hN6).mono ?_
          rintro x w7 ⟨r7, L', rfl, hN7, hL7, hb7⟩
          obtain ⟨rb, rd, rfl⟩ := nrow_slice hN7
          have hC7 := hC6.next hs6 hb7
          have hB7 := hB6.trans (hb7.mono hB6.size)
          rw [hL6] at hL7 ⊢
          rw [(unhid HX).1]
          have HN7 := hid hN7
          have HL7 := hid (hL7.trans (unhid HX).2)
          have HB7 := hid hB7
          have HS5 := hid hs0
          have HBD := hid hbd
          generalize hoc : rootSwapC d p = oc
          have HOC := hid hoc
          refine ⟨_, rfl, hC7, ?_⟩
          simp only [Act.put, List.setIfInBounds_toArray, List.set_cons_zero, List.set_cons_succ]
          clear hoc hs0 hbd HC0 hN6 hL6 hb6 hC6 hs6 hB6 hN7 hL7 hb7 hB7 HX HE
          have hba : ∀ {q : Prop}, (CW (OutW w4 (w.heap.size + 1)) → q) ↔ q := CW.all hC7
          refine held_here [false, false, false, false, false, false, true, true] (by kernel_rfl) (by kernel_rfl) (fun _ _ _ _ _ h => h) hC7 ?_
          dsimp only [pick]
          repeat (go_big_quiet_step (fail))
          refine wpQuiet_nil ?_
          obtain ⟨z, hz⟩ := hC7.2
          obtain ⟨o1, p1⟩ := cell_fz hz 0 _ rfl
          have hC8 := hC7.store (.slice rb L'.length rd)
          clear hba
          refine held_op 8 (by kernel_rfl) (by kernel_rfl) rfl (fun K hK => ?_)
          go_simp
          refine hK.out _ _ hC8 ?_
          clear hK K
          have hba : ∀ {q : Prop}, (CW (OutW w4 (w.heap.size + 1)) → q) ↔ q := CW.all hC8
          refine held_here [false, false, false, false, false, false, false, false, false, true] (by kernel_rfl) (by kernel_rfl) (fun _ _ _ _ _ h => h) hC8 ?_
          dsimp only [pick]
          repeat (go_big_quiet_step (fail))
          refine wpQuiet_nil ?_
          clear hba
          refine held_done (by kernel_rfl) ?_
          go_wp2_with fail
          refine bodyPost_ret (v := .tuple #[.agg #[.slice rb L'.length rd], .int .i64 oc]) (by simp [results, Tryz.results35, go_sem, World.cell?_setCell_same', o1]) rfl ⟨_, L', by rw [unhid HOC], NRow.lower (N := w5.heap.size) ((unhid HN7).frame (fun k hk => Below.heap_setCell _ _ _ _ ?_)) (by have := (unhid HBD).size; omega), unhid HL7, (unhid HB7).setCell (by dsimp only; omega) _⟩
          have := ((unhid HN7).base k hk).1
          have := unhid HS5
          dsimp only
          omega
end Go.Proofs.YtlnpjiabdebmgaaGreat

/- RootOut of copies in memory of their own. -/
namespace Go.Proofs.YtlnpjiabdebmgaaGreat
open Go.RowKit Go.Shelf

def rootOut_0 (d : RootD) (q : ByteArray) : RootD := ⟨rootOutP d q⟩
def rootOut_1 (d : RootD) (q : ByteArray) : Int := rootOutC d q
theorem rootOut_sub (d : RootD) (q : ByteArray) : (rootOutP d q).Sublist d.packs := by
  unfold rootOutP outP tryP
  split
  · split
    · split
      · exact List.filter_sublist
      · exact List.Sublist.refl _
    · exact List.Sublist.refl _
  · exact List.nil_sublist _
theorem cntR_sub {K : CK} {A B : List K.D} (h : A.Sublist B) : cntR K A ≤ cntR K B := by
  induction h with
  | slnil => exact Nat.le_refl _
  | cons a _ ih => exact Nat.le_trans ih (by simp [cntR])
  | cons_cons a _ ih => simp only [cntR]; omega
theorem rootOut_small (d : RootD) (q : ByteArray) (h : rootC.sz d ≤ 1048576 ∧ rootC.big d) (_ : q.size ≤ 1048576) (_ : rootC.sz d ≤ 1048576) : (rootC.big (rootOut_0 d q)) ∧ (cntVRoot (rootOut_0 d q)) ≤ 9000000 := by
  have hs := rootOut_sub d q
  have hb : d.packs.length ≤ maxLen ∧ ∀ p ∈ d.packs, packC.big p := h.2
  refine ⟨show (rootOutP d q).length ≤ maxLen ∧ ∀ p ∈ rootOutP d q, packC.big p from ⟨Nat.le_trans hs.length_le hb.1, fun p hp => hb.2 p (hs.subset hp)⟩, ?_⟩
  have h1 : cntVRoot (rootOut_0 d q) ≤ cntVRoot d := cntR_sub hs
  have h2 := cntVRoot_le d
  omega
def RootOutV (d : RootD) (q : ByteArray) (W : World) (r : Ending) (W' : World) : Prop := ∃ (u : Value) (G : List Nat), r = .returned (.tuple #[u, .int .i64 (rootOut_1 d q)]) ∧ (aggK rootC).own W' u (rootOut_0 d q) G ∧ (∀ k ∈ G, W.heap.size ≤ k ∧ k < W'.heap.size) ∧ Below W.heap.size W W'
theorem rootOut_v {d : RootD} {q : ByteArray} {W : World} {r : Ending} {W' : World} (h : RootOutR d q W r W') : ∃ (u : Value) (G : List Nat), r = .returned (.tuple #[u, .int .i64 (rootOut_1 d q)]) ∧ (aggK rootC).own W' u (rootOut_0 d q) G ∧ (∀ k ∈ G, W.heap.size ≤ k ∧ k < W'.heap.size) ∧ Below W.heap.size W W' := by
  obtain ⟨r, L, rfl, hN, hL, hb⟩ := h
  obtain ⟨F, ho, hf⟩ := hN.own
  rw [hL] at ho
  exact ⟨.agg #[r], F, rfl, ⟨[r], rfl, rootC_mk ⟨r, F, rfl, rfl, ho⟩⟩, hf, hb⟩
theorem rootOut_spec (d0 : RootD) (d1 : ByteArray) (v : Value) (F : List Nat) (W : World) (hs : rootC.sz d0 ≤ 1048576 ∧ rootC.big d0) (_ : d1.size ≤ 1048576) (h : (aggK rootC).own W v d0 F) : Calls Tryz.prog 32 #[v, .string d1] W fun r W' => ∃ (u : Value) (G : List Nat), r = .returned (.tuple #[u, .int .i64 (rootOut_1 d0 d1)]) ∧ (aggK rootC).own W' u (rootOut_0 d0 d1) G ∧ (∀ k ∈ G, W.heap.size ≤ k ∧ k < W'.heap.size) ∧ Below W.heap.size W W' := by
  obtain ⟨a, c, rfl, h1, _⟩ := root_in h
  exact (specRootOut_any d0 a c d1 W (root_small hs.1) h1).mono (fun _ _ h => rootOut_v h)
theorem rootOut_impl (d0 : RootD) (d1 : ByteArray) (v : Value) (F : List Nat) (W : World) (hs : rootC.sz d0 ≤ 1048576 ∧ rootC.big d0) (_ : d1.size ≤ 1048576) (h : (aggK rootC).own W v d0 F) : Calls Tryz.prog 33 #[v, .string d1] W fun r W' => ∃ (u : Value) (G : List Nat), r = .returned (.tuple #[u, .int .i64 (rootOut_1 d0 d1)]) ∧ (aggK rootC).own W' u (rootOut_0 d0 d1) G ∧ (∀ k ∈ G, W.heap.size ≤ k ∧ k < W'.heap.size) ∧ Below W.heap.size W W' := by
  obtain ⟨a, c, rfl, h1, _⟩ := root_in h
  exact (implRootOut_any d0 a c d1 W (root_small hs.1) h1).mono (fun _ _ h => rootOut_v h)
end Go.Proofs.YtlnpjiabdebmgaaGreat

/- RootIn of copies in memory of their own. -/
namespace Go.Proofs.YtlnpjiabdebmgaaGreat
open Go.RowKit Go.Shelf

def rootIn_0 (d : RootD) (p : packC.D) : RootD := ⟨rootInP d p⟩
def rootIn_1 (d : RootD) (p : packC.D) : Int := rootInC d p
theorem cntR_app {K : CK} (A B : List K.D) : cntR K (A ++ B) = cntR K A + cntR K B := by
  induction A with
  | nil => simp [cntR]
  | cons a A ih => simp only [List.cons_append, cntR, ih]; omega
theorem cntR_put {K : CK} (A : List K.D) (p : K.D) (i j : Nat) (h : i ≤ j) : cntR K (A.take i ++ p :: A.drop j) ≤ cntR K A + K.cnt p := by
  have h1 : (A.take i ++ A.drop j).Sublist A := by
    have : A.take i ++ A.drop i = A := List.take_append_drop i A
    refine List.Sublist.trans (List.Sublist.append (List.Sublist.refl _) ?_) (by rw [this]; exact List.Sublist.refl _)
    rw [show j = i + (j - i) by omega, ← List.drop_drop]
    exact List.drop_sublist _ _
  have h2 := cntR_sub (K := K) h1
  rw [cntR_app] at h2 ⊢
  simp only [cntR]
  omega
/-- What is put into a row is of the row, or the one that is put. -/
theorem rootIn_mem (d : RootD) (p : packC.D) : (rootInP d p).length ≤ d.packs.length + 1 ∧ (∀ x ∈ rootInP d p, x = p ∨ x ∈ d.packs) ∧ cntR packC (rootInP d p) ≤ cntR packC d.packs + packC.cnt p := by
  have hwith : (withP p d.packs).length ≤ d.packs.length + 1 ∧ (∀ x ∈ withP p d.packs, x = p ∨ x ∈ d.packs) ∧ cntR packC (withP p d.packs) ≤ cntR packC d.packs + packC.cnt p := by
    unfold withP
    refine ⟨by rw [List.length_append, List.length_cons, List.length_take, List.length_drop]; omega, fun x hx => ?_, cntR_put (K := packC) d.packs p _ _ (Nat.le_refl _)⟩
    rcases List.mem_append.1 hx with hx | hx
    · exact .inr (List.mem_of_mem_take hx)
    · rcases List.mem_cons.1 hx with rfl | hx
      · exact .inl rfl
      · exact .inr (List.mem_of_mem_drop hx)
  have hsame : d.packs.length ≤ d.packs.length + 1 ∧ (∀ x ∈ d.packs, x = p ∨ x ∈ d.packs) ∧ cntR packC d.packs ≤ cntR packC d.packs + packC.cnt p := ⟨by omega, fun x hx => .inr hx, by omega⟩
  unfold rootInP inP tryP
  split
  · split
    · split
      · exact hsame
      · split
        · exact hwith
        · exact hsame
    · exact hsame
  · exact ⟨Nat.zero_le _, fun x hx => (by cases hx), Nat.zero_le _⟩
theorem rootIn_small (d : RootD) (p : packC.D) (h : rootC.sz d ≤ 1048576 ∧ rootC.big d) (hp : packC.sz p ≤ 1048576 ∧ packC.big p) (ht : rootC.sz d + packC.sz p ≤ 1048576) : (rootC.big (rootIn_0 d p)) ∧ (cntVRoot (rootIn_0 d p)) ≤ 9000000 := by
  obtain ⟨h1, h2, h3⟩ := rootIn_mem d p
  have hb : d.packs.length ≤ maxLen ∧ ∀ p ∈ d.packs, packC.big p := h.2
  have hl : d.packs.length ≤ rootC.sz d := by rw [rootC_sz]; omega
  refine ⟨show (rootInP d p).length ≤ maxLen ∧ ∀ x ∈ rootInP d p, packC.big x from ⟨by unfold maxLen; omega, fun x hx => ?_⟩, ?_⟩
  · rcases h2 x hx with rfl | hx
    · exact hp.2
    · exact hb.2 x hx
  · have h4 : cntVRoot (rootIn_0 d p) ≤ cntVRoot d + packC.cnt p := h3
    have h5 := cntVRoot_le d
    have h6 := cntPack p
    omega
theorem rootIn_v {d : RootD} {p : packC.D} {W : World} {r : Ending} {W' : World} (h : RootInR d p W r W') : ∃ (u : Value) (G : List Nat), r = .returned (.tuple #[u, .int .i64 (rootIn_1 d p)]) ∧ (aggK rootC).own W' u (rootIn_0 d p) G ∧ (∀ k ∈ G, W.heap.size ≤ k ∧ k < W'.heap.size) ∧ Below W.heap.size W W' := by
  obtain ⟨r, L, rfl, hN, hL, hb⟩ := h
  obtain ⟨F, ho, hf⟩ := hN.own
  rw [hL] at ho
  exact ⟨.agg #[r], F, rfl, ⟨[r], rfl, rootC_mk ⟨r, F, rfl, rfl, ho⟩⟩, hf, hb⟩
theorem rootIn_spec (d0 : RootD) (d1 : packC.D) (v : Value) (F : List Nat) (v1 : Value) (F1 : List Nat) (W : World) (hs : rootC.sz d0 ≤ 1048576 ∧ rootC.big d0) (hs1 : packC.sz d1 ≤ 1048576 ∧ packC.big d1) (h : (aggK rootC).own W v d0 F) (h1 : (aggK packC).own W v1 d1 F1) : Calls Tryz.prog 28 #[v, v1] W fun r W' => ∃ (u : Value) (G : List Nat), r = .returned (.tuple #[u, .int .i64 (rootIn_1 d0 d1)]) ∧ (aggK rootC).own W' u (rootIn_0 d0 d1) G ∧ (∀ k ∈ G, W.heap.size ≤ k ∧ k < W'.heap.size) ∧ Below W.heap.size W W' := by
  obtain ⟨a, c, rfl, h2, _⟩ := root_in h
  obtain ⟨cs, rfl, h3⟩ := h1
  exact (specRootIn_any d0 a c d1 cs W (root_small hs.1) (smallP_of hs1.1) h2 (packC.toAt h3)).mono (fun _ _ h => rootIn_v h)
theorem rootIn_impl (d0 : RootD) (d1 : packC.D) (v : Value) (F : List Nat) (v1 : Value) (F1 : List Nat) (W : World) (hs : rootC.sz d0 ≤ 1048576 ∧ rootC.big d0) (hs1 : packC.sz d1 ≤ 1048576 ∧ packC.big d1) (h : (aggK rootC).own W v d0 F) (h1 : (aggK packC).own W v1 d1 F1) : Calls Tryz.prog 29 #[v, v1] W fun r W' => ∃ (u : Value) (G : List Nat), r = .returned (.tuple #[u, .int .i64 (rootIn_1 d0 d1)]) ∧ (aggK rootC).own W' u (rootIn_0 d0 d1) G ∧ (∀ k ∈ G, W.heap.size ≤ k ∧ k < W'.heap.size) ∧ Below W.heap.size W W' := by
  obtain ⟨a, c, rfl, h2, _⟩ := root_in h
  obtain ⟨cs, rfl, h3⟩ := h1
  exact (implRootIn_any d0 a c d1 cs W (root_small hs.1) (smallP_of hs1.1) h2 (packC.toAt h3)).mono (fun _ _ h => rootIn_v h)
end Go.Proofs.YtlnpjiabdebmgaaGreat

/- RootSwap of copies in memory of their own. -/
namespace Go.Proofs.YtlnpjiabdebmgaaGreat
open Go.RowKit Go.Shelf

def rootSwap_0 (d : RootD) (p : packC.D) : RootD := ⟨rootSwapP d p⟩
def rootSwap_1 (d : RootD) (p : packC.D) : Int := rootSwapC d p
theorem rootSwap_mem (d : RootD) (p : packC.D) : (rootSwapP d p).length ≤ d.packs.length + 1 ∧ (∀ x ∈ rootSwapP d p, x = p ∨ x ∈ d.packs) ∧ cntR packC (rootSwapP d p) ≤ cntR packC d.packs + packC.cnt p := by
  have hsub : (withoutP (PackD.name p) d.packs).Sublist d.packs := List.filter_sublist
  have hwith : (swapQ p d.packs).length ≤ d.packs.length + 1 ∧ (∀ x ∈ swapQ p d.packs, x = p ∨ x ∈ d.packs) ∧ cntR packC (swapQ p d.packs) ≤ cntR packC d.packs + packC.cnt p := by
    have hl := hsub.length_le
    unfold swapQ withP
    refine ⟨by rw [List.length_append, List.length_cons, List.length_take, List.length_drop]; omega, fun x hx => ?_, Nat.le_trans (cntR_put (K := packC) (withoutP (PackD.name p) d.packs) p _ _ (Nat.le_refl _)) (Nat.add_le_add_right (cntR_sub hsub) _)⟩
    rcases List.mem_append.1 hx with hx | hx
    · exact .inr (hsub.subset (List.mem_of_mem_take hx))
    · rcases List.mem_cons.1 hx with rfl | hx
      · exact .inl rfl
      · exact .inr (hsub.subset (List.mem_of_mem_drop hx))
  have hsame : d.packs.length ≤ d.packs.length + 1 ∧ (∀ x ∈ d.packs, x = p ∨ x ∈ d.packs) ∧ cntR packC d.packs ≤ cntR packC d.packs + packC.cnt p := ⟨by omega, fun x hx => .inr hx, by omega⟩
  unfold rootSwapP swapP tryP
  split
  · split
    · split
      · split
        · exact hsame
        · split
          · exact hwith
          · exact hsame
      · exact hsame
    · exact hsame
  · exact ⟨Nat.zero_le _, fun x hx => (by cases hx), Nat.zero_le _⟩
theorem rootSwap_small (d : RootD) (p : packC.D) (h : rootC.sz d ≤ 1048576 ∧ rootC.big d) (hp : packC.sz p ≤ 1048576 ∧ packC.big p) (ht : rootC.sz d + packC.sz p ≤ 1048576) : (rootC.big (rootSwap_0 d p)) ∧ (cntVRoot (rootSwap_0 d p)) ≤ 9000000 := by
  obtain ⟨h1, h2, h3⟩ := rootSwap_mem d p
  have hb : d.packs.length ≤ maxLen ∧ ∀ p ∈ d.packs, packC.big p := h.2
  have hl : d.packs.length ≤ rootC.sz d := by rw [rootC_sz]; omega
  refine ⟨show (rootSwapP d p).length ≤ maxLen ∧ ∀ x ∈ rootSwapP d p, packC.big x from ⟨by unfold maxLen; omega, fun x hx => ?_⟩, ?_⟩
  · rcases h2 x hx with rfl | hx
    · exact hp.2
    · exact hb.2 x hx
  · have h4 : cntVRoot (rootSwap_0 d p) ≤ cntVRoot d + packC.cnt p := h3
    have h5 := cntVRoot_le d
    have h6 := cntPack p
    omega
theorem rootSwap_v {d : RootD} {p : packC.D} {W : World} {r : Ending} {W' : World} (h : RootSwapR d p W r W') : ∃ (u : Value) (G : List Nat), r = .returned (.tuple #[u, .int .i64 (rootSwap_1 d p)]) ∧ (aggK rootC).own W' u (rootSwap_0 d p) G ∧ (∀ k ∈ G, W.heap.size ≤ k ∧ k < W'.heap.size) ∧ Below W.heap.size W W' := by
  obtain ⟨r, L, rfl, hN, hL, hb⟩ := h
  obtain ⟨F, ho, hf⟩ := hN.own
  rw [hL] at ho
  exact ⟨.agg #[r], F, rfl, ⟨[r], rfl, rootC_mk ⟨r, F, rfl, rfl, ho⟩⟩, hf, hb⟩
theorem rootSwap_spec (d0 : RootD) (d1 : packC.D) (v : Value) (F : List Nat) (v1 : Value) (F1 : List Nat) (W : World) (hs : rootC.sz d0 ≤ 1048576 ∧ rootC.big d0) (hs1 : packC.sz d1 ≤ 1048576 ∧ packC.big d1) (h : (aggK rootC).own W v d0 F) (h1 : (aggK packC).own W v1 d1 F1) : Calls Tryz.prog 34 #[v, v1] W fun r W' => ∃ (u : Value) (G : List Nat), r = .returned (.tuple #[u, .int .i64 (rootSwap_1 d0 d1)]) ∧ (aggK rootC).own W' u (rootSwap_0 d0 d1) G ∧ (∀ k ∈ G, W.heap.size ≤ k ∧ k < W'.heap.size) ∧ Below W.heap.size W W' := by
  obtain ⟨a, c, rfl, h2, _⟩ := root_in h
  obtain ⟨cs, rfl, h3⟩ := h1
  exact (specRootSwap_any d0 a c d1 cs W (root_small hs.1) (smallP_of hs1.1) h2 (packC.toAt h3)).mono (fun _ _ h => rootSwap_v h)
theorem rootSwap_impl (d0 : RootD) (d1 : packC.D) (v : Value) (F : List Nat) (v1 : Value) (F1 : List Nat) (W : World) (hs : rootC.sz d0 ≤ 1048576 ∧ rootC.big d0) (hs1 : packC.sz d1 ≤ 1048576 ∧ packC.big d1) (h : (aggK rootC).own W v d0 F) (h1 : (aggK packC).own W v1 d1 F1) : Calls Tryz.prog 35 #[v, v1] W fun r W' => ∃ (u : Value) (G : List Nat), r = .returned (.tuple #[u, .int .i64 (rootSwap_1 d0 d1)]) ∧ (aggK rootC).own W' u (rootSwap_0 d0 d1) G ∧ (∀ k ∈ G, W.heap.size ≤ k ∧ k < W'.heap.size) ∧ Below W.heap.size W W' := by
  obtain ⟨a, c, rfl, h2, _⟩ := root_in h
  obtain ⟨cs, rfl, h3⟩ := h1
  exact (implRootSwap_any d0 a c d1 cs W (root_small hs.1) (smallP_of hs1.1) h2 (packC.toAt h3)).mono (fun _ _ h => rootSwap_v h)
end Go.Proofs.YtlnpjiabdebmgaaGreat
