/- Texts of this proof, one behind the other; each says at its head what it shows. -/
import Derived.Test.YtoljhgkgppjdcaaGreatJoin11
import Derived.Test.YtoljhgkgppjdcaaGreatJoin7
import Derived.Test.YtoljhgkgppjdcaaGreatJoin6
import Derived.Test.YtoljhgkgppjdcaaGreatJoin8
import Derived.Test.YtoljhgkgppjdcaaGreatJoin10
import Derived.Test.YtoljhgkgppjdcaaGreatJoin3
import Derived.Test.YtoljhgkgppjdcaaGreatJoin5
import Derived.Test.YtoljhgkgppjdcaaGreatJoin9
import Derived.Test.YtoljhgkgppjdcaaGreatJoin1
import Derived.Deep.Draws
import Derived.Laws.AppendOwn
import Derived.RangeFuncBox
namespace Go.Proofs.YtoljhgkgppjdcaaGreat
open Go.RowKit Go.Shelf
theorem put_small {p : packC.D} {ps : List packC.D} (h : smallPs ps) (hl : ps.length ≤ 1000) (hp : smallP p) : smallPs (putP p ps) := by
  unfold putP
  split
  · refine ⟨by rw [List.length_append, List.length_cons, List.length_take, List.length_drop]; omega, fun x hx => ?_⟩
    rcases List.mem_append.1 hx with hx | hx
    · exact h.2 x (List.mem_of_mem_take hx)
    · rcases List.mem_cons.1 hx with rfl | hx
      · exact hp
      · exact h.2 x (List.mem_of_mem_drop hx)
  · exact with_small h hl hp
set_option maxRecDepth 100000 in
set_option maxHeartbeats 8000000 in
theorem implRootIn_any (d : RootD) (a1 : Option Addr) (c1 : Nat) (p : packC.D) (cs : List Value) (w : World) (hs : smallPs d.packs) (hps : smallP p) (hp : rowAt packC w (.slice a1 d.packs.length c1) d.packs) (hcp : packC.at_ w cs p) :
    Calls Tryz.prog 22 #[.agg #[.slice a1 d.packs.length c1], .agg cs.toArray] w (RootInR d p w) := by
  obtain ⟨v2, v3, rfl, p2, p3⟩ := packC_at hcp
  obtain ⟨na, nc, rfl, -⟩ := rowAt.slice p2
  obtain ⟨ta, tc, rfl, -⟩ := rowAt.slice p3
  have HCP := hid hcp
  have HP := hid hp
  clear hp hcp p2 p3
  go_enter Tryz.func22, Tryz.ntmps22
  go_wp2_with fail
  obtain ⟨hP, hQ, hR, hS, hB⟩ := three_boxes w (.cells #[.slice a1 d.packs.length c1] 25) (.cells #[.string (PackD.name p), .string (PackD.version p), .slice na (PackD.needs p).length nc, .slice ta (PackD.tree p).length tc] 37) (.cells #[.slice none 0 0] 25)
  generalize ((w.alloc (.cells #[.slice a1 d.packs.length c1] 25)).alloc (.cells #[.string (PackD.name p), .string (PackD.version p), .slice na (PackD.needs p).length nc, .slice ta (PackD.tree p).length tc] 37)).alloc (.cells #[.slice none 0 0] 25) = W0 at hP hQ hR hS hB ⊢
  have o0 := cell_arrS hP 0 _ rfl
  go_wp2_with fail
  refine (implRootOk_any d a1 c1 W0 hs ((unhid HP).below hB)).mono ?_
  rintro x w2 ⟨rfl, hb⟩
  clear o0
  have hP2 := (hb.block _ (by omega)).trans hP
  have hQ2 := (hb.block _ (by omega)).trans hQ
  have hR2 := (hb.block _ hS).trans hR
  have hS2 : w.heap.size + 1 + 1 < w2.heap.size := Nat.lt_of_lt_of_le hS hb.size
  have hB2 := hB.trans (hb.mono hB.size)
  clear hb hP hQ hR hB hS
  obtain ⟨o0, p0⟩ := cell_fz hP2 0 _ rfl
  obtain ⟨o1, p1⟩ := cell_fz hR2 0 _ rfl
  have q0 := cell_arrS hQ2 0 _ rfl
  have HB := hid hB2
  cases hok : rootOk_0 d with
  | false =>
    have HE := hid hok
    clear hP2 hQ2 hR2 hB2 hS2
    go_wp2_with fail
    exact bodyPost_ret (v := .tuple #[.agg #[.slice none 0 0], .int .i64 1]) (by simp [results, Tryz.results22, go_sem, World.cell?_setCell_same', o1]) rfl ⟨_, [], by unfold rootInC; rw [unhid HE]; rfl, NRow.none _ _, by unfold rootInP; rw [unhid HE]; rfl, (unhid HB).setCell (by dsimp only; omega) _⟩
  | true =>
    have hrc := rootOk_yes hok
    have HF := hid (ok_form hrc)
    have hlen := ok_len hrc
    have HE := hid (show inCode p d.packs = rootInC d p ∧ inP p d.packs = rootInP d p from ⟨by unfold rootInC; rw [if_pos hok], by unfold rootInP; rw [if_pos hok]⟩)
    have JN := hid (packPlace_any d.packs _ (PackD.name p) w2 hs.1 (form_asc (unhid HF)) ((unhid HP).below hB2))
    clear o1 p1 hok hrc
    go_wp2_with fail
    refine (unhid JN).mono ?_
    rintro x w3 ⟨rfl, hb3⟩
    clear JN o0 p0 q0
    have hP3 := (hb3.block _ (by omega)).trans hP2
    have hQ3 := (hb3.block _ (by omega)).trans hQ2
    have hR3 := (hb3.block _ hS2).trans hR2
    have hS3 : w.heap.size + 1 + 1 < w3.heap.size := Nat.lt_of_lt_of_le hS2 hb3.size
    have hB3 := hB2.trans (hb3.mono hB2.size)
    clear hP2 hQ2 hR2 hS2 hB2 hb3 HB
    have JN := hid (packOk_any p _ w3 hps (packC.below (unhid HCP) hB3))
    have q0 := cell_arrS hQ3 0 _ rfl
    have q1 := cell_arrS hQ3 1 _ rfl
    have q2 := cell_arrS hQ3 2 _ rfl
    have q3 := cell_arrS hQ3 3 _ rfl
    go_wp2_with fail
    refine (unhid JN).mono ?_
    rintro x w4 ⟨rfl, hb4⟩
    clear JN q0 q1 q2 q3
    have hP4 := (hb4.block _ (by omega)).trans hP3
    have hQ4 := (hb4.block _ (by omega)).trans hQ3
    have hR4 := (hb4.block _ hS3).trans hR3
    have hS4 : w.heap.size + 1 + 1 < w4.heap.size := Nat.lt_of_lt_of_le hS3 hb4.size
    have hB4 := hB3.trans (hb4.mono hB3.size)
    clear hP3 hQ3 hR3 hS3 hB3 hb4
    obtain ⟨o0, p0⟩ := cell_fz hP4 0 _ rfl
    have HB := hid hB4
    have HS4 := hid hS4
    have HR4 := hid hR4
    cases hpk : pkOk p with
    | false =>
      have HX := hid (show 1 = rootInC d p ∧ d.packs = rootInP d p from by rw [← (unhid HE).1, ← (unhid HE).2]; exact ⟨by unfold inCode; rw [hpk]; rfl, by unfold inP; rw [hpk]; rfl⟩)
      have JN := hid (cloneRoot_any d.packs _ w4 hs ((unhid HP).below hB4))
      clear hP4 hQ4 hR4 hB4 hS4 hpk
      go_wp2_with fail
      refine (unhid JN).mono ?_
      rintro x w5 ⟨r, L', rfl, hN5, hL5, hb5⟩
      obtain ⟨rb, rd, rfl⟩ := nrow_slice hN5
      obtain ⟨o1, p1⟩ := cell_fz ((hb5.block _ (unhid HS4)).trans (unhid HR4)) 0 _ rfl
      have HN5 := hid hN5
      have HL5 := hid hL5
      have HB5 := hid ((unhid HB).trans (hb5.mono (unhid HB).size))
      clear hN5 hL5 hb5 JN
      go_wp2_with fail
      refine bodyPost_ret (v := .tuple #[.agg #[.slice rb L'.length rd], .int .i64 1]) (by simp [results, Tryz.results22, go_sem, World.cell?_setCell_same', o1]) rfl ⟨_, L', by rw [← (unhid HX).1], NRow.lower (N := w4.heap.size) ((unhid HN5).frame (fun k hk => Below.heap_setCell _ _ _ _ ?_)) (by have := (unhid HB).size; omega), by rw [unhid HL5]; exact (unhid HX).2, (unhid HB5).setCell (by dsimp only; omega) _⟩
      have := ((unhid HN5).base k hk).1
      have := unhid HS4
      dsimp only
      omega
    | true =>
      cases hth : thereP (namesP d.packs) (PackD.name p) with
      | true =>
        have hyes : hasBN (PackD.name p) d.packs = true := (hasB_iffN _ _).2 (List.mem_of_getElem? (thereT_mem hth))
        have HX := hid (show 2 = rootInC d p ∧ d.packs = rootInP d p from by rw [← (unhid HE).1, ← (unhid HE).2]; exact ⟨by unfold inCode; rw [if_pos hpk, if_pos hyes], by unfold inP; rw [if_pos hpk, if_pos hyes]⟩)
        have JN := hid (cloneRoot_any d.packs _ w4 hs ((unhid HP).below hB4))
        clear hP4 hQ4 hR4 hB4 hS4 hpk hyes hth
        go_wp2_with fail
        refine (unhid JN).mono ?_
        rintro x w5 ⟨r, L', rfl, hN5, hL5, hb5⟩
        obtain ⟨rb, rd, rfl⟩ := nrow_slice hN5
        obtain ⟨o1, p1⟩ := cell_fz ((hb5.block _ (unhid HS4)).trans (unhid HR4)) 0 _ rfl
        have HN5 := hid hN5
        have HL5 := hid hL5
        have HB5 := hid ((unhid HB).trans (hb5.mono (unhid HB).size))
        clear hN5 hL5 hb5 JN
        go_wp2_with fail
        refine bodyPost_ret (v := .tuple #[.agg #[.slice rb L'.length rd], .int .i64 2]) (by simp [results, Tryz.results22, go_sem, World.cell?_setCell_same', o1]) rfl ⟨_, L', by rw [← (unhid HX).1], NRow.lower (N := w4.heap.size) ((unhid HN5).frame (fun k hk => Below.heap_setCell _ _ _ _ ?_)) (by have := (unhid HB).size; omega), by rw [unhid HL5]; exact (unhid HX).2, (unhid HB5).setCell (by dsimp only; omega) _⟩
        have := ((unhid HN5).base k hk).1
        have := unhid HS4
        dsimp only
        omega
      | false =>
        have hno : ¬ hasBN (PackD.name p) d.packs = true := fun e => there_no (form_asc (unhid HF)) hth ((hasB_iffN _ _).1 e)
        have hput : putP p d.packs = withP p d.packs := by unfold putP; rw [if_neg (by rw [hth]; decide)]
        have HX := hid (show rootCode (putP p d.packs) = rootInC d p ∧ tryP d.packs (putP p d.packs) = rootInP d p from by rw [← (unhid HE).1, ← (unhid HE).2, hput]; exact ⟨by unfold inCode; rw [if_pos hpk, if_neg hno], by unfold inP; rw [if_pos hpk, if_neg hno]⟩)
        have hC0 : OutW w4 (w.heap.size + 1) w4.drew := ⟨⟨rfl, rfl, rfl, Nat.le_refl _, fun _ _ => rfl⟩, _, hR4⟩
        have HC0 := hid hC0
        clear hpk hno hput hth hR4 hB4 hS4 hP4
        go_wp2_with fail
        have gq0 : ∀ x : CW (OutW w4 (w.heap.size + 1)), x.w.cell? ⟨w.heap.size, 0, none⟩ = some (.slice a1 d.packs.length c1) := fun x => (x.h.1.cell (p := ⟨w.heap.size, 0, none⟩) (by dsimp only; omega)).trans o0
        have gp0 : ∀ x : CW (OutW w4 (w.heap.size + 1)), x.w.cell? ⟨w.heap.size + 1, 0, none⟩ = some (.string (PackD.name p)) := fun x => cell_arrS ((x.h.1.block _ (by omega)).trans hQ4) 0 _ rfl
        have gp1 : ∀ x : CW (OutW w4 (w.heap.size + 1)), x.w.cell? ⟨w.heap.size + 1, 1, none⟩ = some (.string (PackD.version p)) := fun x => cell_arrS ((x.h.1.block _ (by omega)).trans hQ4) 1 _ rfl
        have gp2 : ∀ x : CW (OutW w4 (w.heap.size + 1)), x.w.cell? ⟨w.heap.size + 1, 2, none⟩ = some (.slice na (PackD.needs p).length nc) := fun x => cell_arrS ((x.h.1.block _ (by omega)).trans hQ4) 2 _ rfl
        have gp3 : ∀ x : CW (OutW w4 (w.heap.size + 1)), x.w.cell? ⟨w.heap.size + 1, 3, none⟩ = some (.slice ta (PackD.tree p).length tc) := fun x => cell_arrS ((x.h.1.block _ (by omega)).trans hQ4) 3 _ rfl
        have hba : ∀ {q : Prop}, (CW (OutW w4 (w.heap.size + 1)) → q) ↔ q := CW.all hC0
        refine held_begin (OutW w4 (w.heap.size + 1)) (by kernel_rfl) hC0 ?_
        refine held_here [true, true, true, true] (by kernel_rfl) (by kernel_rfl) (fun _ _ _ _ _ h => h) hC0 ?_
        dsimp only [pick]
        repeat (go_big_quiet_step (fail))
        refine wpQuiet_nil ?_
        clear hba gq0 gp0 gp1 gp2 gp3 hC0 o0 p0 hQ4
        have hs0 : w.heap.size + 1 + 1 < w4.drew.heap.size := unhid HS4
        have hbd : Below w.heap.size w w4.drew := (unhid HB).trans ⟨rfl, rfl, rfl, Nat.le_refl _, fun _ _ => rfl⟩
        generalize w4.drew = w5 at *
        refine held_call 4 55 34 (enters_of Tryz.func55 (by kernel_rfl) rfl) #[.slice a1 d.packs.length c1, .agg #[.string (PackD.name p), .string (PackD.version p), .slice na (PackD.needs p).length nc, .slice ta (PackD.tree p).length tc]] (by kernel_rfl) (by kernel_rfl) rfl rfl rfl rfl rfl ?_
        refine (withPack_any d.packs p _ _ w5 hs (by omega) hps (form_asc (unhid HF)) ((unhid HP).below hbd) (packC.below (unhid HCP) hbd)).mono ?_
        rintro x w6 ⟨v6, L, rfl, hN6, hL6, hb6⟩
        have hC6 := (unhid HC0).next hs0 hb6
        have hs6 := Nat.lt_of_lt_of_le hs0 hb6.size
        have hB6 := hbd.trans (hb6.mono hbd.size)
        refine ⟨_, rfl, hC6, ?_⟩
        simp only [Act.put, List.setIfInBounds_toArray, List.set_cons_zero, List.set_cons_succ]
        refine held_call 5 54 35 (enters_of Tryz.func54 (by kernel_rfl) rfl) #[.agg #[.slice a1 d.packs.length c1], v6] (by kernel_rfl) (by kernel_rfl) rfl rfl rfl rfl rfl ?_
        refine (turnRoot_any d.packs _ L v6 w6 w5.heap.size hb6.size hs (by rw [hL6]; exact put_small hs (by omega) hps) ((unhid HP).below hB6) hN6).mono ?_
        rintro x w7 ⟨r7, L', rfl, hN7, hL7, hb7⟩
        obtain ⟨rb, rd, rfl⟩ := nrow_slice hN7
        have hC7 := hC6.next hs6 hb7
        have hB7 := hB6.trans (hb7.mono hB6.size)
        rw [hL6] at hL7 ⊢
        rw [(unhid HX).1]
        have HN7 := hid hN7
        have HL7 := hid (hL7.trans (unhid HX).2)
        have HB7 := hid hB7
        have HS5 := hid hs0
        have HBD := hid hbd
        generalize hoc : rootInC d p = oc
        have HOC := hid hoc
        refine ⟨_, rfl, hC7, ?_⟩
        simp only [Act.put, List.setIfInBounds_toArray, List.set_cons_zero, List.set_cons_succ]
        clear hoc hs0 hbd HC0 hN6 hL6 hb6 hC6 hs6 hB6 hN7 hL7 hb7 hB7 HX HE
        have hba : ∀ {q : Prop}, (CW (OutW w4 (w.heap.size + 1)) → q) ↔ q := CW.all hC7
        refine held_here [false, false, false, false, false, false, true, true] (by kernel_rfl) (by kernel_rfl) (fun _ _ _ _ _ h => h) hC7 ?_
        dsimp only [pick]
        repeat (go_big_quiet_step (fail))
        refine wpQuiet_nil ?_
        obtain ⟨z, hz⟩ := hC7.2
        obtain ⟨o1, p1⟩ := cell_fz hz 0 _ rfl
        have hC8 := hC7.store (.slice rb L'.length rd)
        clear hba
        refine held_op 8 (by kernel_rfl) (by kernel_rfl) rfl (fun K hK => ?_)
        go_simp
        refine hK.out _ _ hC8 ?_
        clear hK K
        have hba : ∀ {q : Prop}, (CW (OutW w4 (w.heap.size + 1)) → q) ↔ q := CW.all hC8
        refine held_here [false, false, false, false, false, false, false, false, false, true] (by kernel_rfl) (by kernel_rfl) (fun _ _ _ _ _ h => h) hC8 ?_
        dsimp only [pick]
        repeat (go_big_quiet_step (fail))
        refine wpQuiet_nil ?_
        clear hba
        refine held_done (by kernel_rfl) ?_
        go_wp2_with fail
        refine bodyPost_ret (v := .tuple #[.agg #[.slice rb L'.length rd], .int .i64 oc]) (by simp [results, Tryz.results22, go_sem, World.cell?_setCell_same', o1]) rfl ⟨_, L', by rw [unhid HOC], NRow.lower (N := w5.heap.size) ((unhid HN7).frame (fun k hk => Below.heap_setCell _ _ _ _ ?_)) (by have := (unhid HBD).size; omega), unhid HL7, (unhid HB7).setCell (by dsimp only; omega) _⟩
        have := ((unhid HN7).base k hk).1
        have := unhid HS5
        dsimp only
        omega
end Go.Proofs.YtoljhgkgppjdcaaGreat

namespace Go.Proofs.YtoljhgkgppjdcaaGreat
open Go.RowKit Go.Shelf
def elderI (p q : packC.D) : Int := ordI (PackD.version p).data.toList (PackD.version q).data.toList
set_option maxRecDepth 100000 in
set_option maxHeartbeats 4000000 in
theorem isElder_any (p q : packC.D) (cs ds : List Value) (w : World) (hp : smallP p) (hq : smallP q) (h : packC.at_ w cs p) (h2 : packC.at_ w ds q) :
    Calls Tryz.prog 63 #[.agg cs.toArray, .agg ds.toArray] w fun x w' => x = .returned (.bool (decide (elderI p q < 0))) ∧ Below w.heap.size w w' := by
  obtain ⟨v2, v3, rfl, p2, p3⟩ := packC_at h
  obtain ⟨na, nc, rfl, -⟩ := rowAt.slice p2
  obtain ⟨ta, tc, rfl, -⟩ := rowAt.slice p3
  obtain ⟨v2, v3, rfl, q2, q3⟩ := packC_at h2
  obtain ⟨nb, nd, rfl, -⟩ := rowAt.slice q2
  obtain ⟨tb, td, rfl, -⟩ := rowAt.slice q3
  have hB := fun x y => (two_boxesP w x y).2.2.2
  have HB := hid hB
  have HV := hid (fun W => VersionOrder_any (PackD.version p) (PackD.version q) (by have := hp.version; unfold maxLen; omega) (by have := hq.version; unfold maxLen; omega) W)
  clear h h2 p2 p3 q2 q3 hB
  go_enter Tryz.func63, Tryz.ntmps63
  go_wp2_with fail
  refine (unhid HV _).mono ?_
  rintro x w2 ⟨rfl, hb⟩
  have HB2 := hid ((unhid HB _ _).trans (hb.mono (unhid HB _ _).size))
  clear hb HV
  have HE := hid (show elderI p q = ordI (PackD.version p).data.toList (PackD.version q).data.toList from rfl)
  generalize ordI (PackD.version p).data.toList (PackD.version q).data.toList = r at *
  go_wp2_with fail
  go_ret
  exact ⟨by rw [unhid HE]; rfl, unhid HB2⟩
end Go.Proofs.YtoljhgkgppjdcaaGreat

namespace Go.Proofs.YtoljhgkgppjdcaaGreat
open Go.RowKit Go.Shelf
def oldI (p : packC.D) (ps : List packC.D) : Int := match ps[placeP (namesP ps) (PackD.name p)]? with
  | some o => elderI o p
  | none => 0
def swapQ (p : packC.D) (ps : List packC.D) : List packC.D := withP p (withoutP (PackD.name p) ps)
def swapCode (p : packC.D) (ps : List packC.D) : Int := if pkOk p = true then (if hasBN (PackD.name p) ps = true then (if 0 ≤ oldI p ps then 7 else rootCode (swapQ p ps)) else 3) else 1
def swapP (p : packC.D) (ps : List packC.D) : List packC.D := if pkOk p = true then (if hasBN (PackD.name p) ps = true then (if 0 ≤ oldI p ps then ps else tryP ps (swapQ p ps)) else ps) else ps
def SwapR (N : Nat) (p : packC.D) (ps : List packC.D) (w : World) (x : Ending) (w' : World) : Prop := ∃ (r : Value) (L' : List (It packC)), x = .returned (.tuple #[.agg #[r], .int .i64 (swapCode p ps)]) ∧ NRow packC 37 w' N r L' ∧ itD L' = swapP p ps ∧ Below w.heap.size w w'
theorem oldI_at {p o : packC.D} {ps : List packC.D} {k : Nat} (hf : formB ps = true) (hk : (namesP ps)[k]? = some (PackD.name p)) (ho : ps[k]? = some o) : oldI p ps = elderI o p := by
  unfold oldI
  rw [(place_mem (form_asc hf) hk).1, ho]
set_option maxRecDepth 100000 in
set_option maxHeartbeats 8000000 in
theorem l9Swap_any (L : List (It packC)) (u : Value) (p : packC.D) (cs : List Value) (w : World) (N : Nat) (hN : N ≤ w.heap.size) (hs : smallPs (itD L)) (hlen : L.length ≤ 1000) (hf : formB (itD L) = true) (hps : smallP p) (hp : NRow packC 37 w N u L) (hcp : packC.at_ w cs p) :
    Calls Tryz.prog 64 #[.agg #[u], .agg cs.toArray] w (SwapR N p (itD L) w) := by
  obtain ⟨v2, v3, rfl, p2, p3⟩ := packC_at hcp
  obtain ⟨na, nc, rfl, -⟩ := rowAt.slice p2
  obtain ⟨ta, tc, rfl, -⟩ := rowAt.slice p3
  obtain ⟨a1, c1, rfl⟩ := nrow_slice hp
  have HCP := hid hcp
  have HP := hid hp
  have HA := hid (show rowAt packC w (.slice a1 L.length c1) (itD L) from by obtain ⟨F, h1, _⟩ := hp.own; exact h1.toAt)
  have HS := hid hs
  have hln := itD_len L
  have HLEN := hid (show (itD L).length ≤ 1000 by omega)
  have HF := hid hf
  generalize hpss : itD L = ps at *
  have HPS := hid hpss
  clear hp hpss hcp p2 p3 hf
  go_enter Tryz.func64, Tryz.ntmps64
  go_wp2_with fail
  obtain ⟨hP, hQ, hR, hS, hB⟩ := three_boxes w (.cells #[.slice a1 L.length c1] 25) (.cells #[.string (PackD.name p), .string (PackD.version p), .slice na (PackD.needs p).length nc, .slice ta (PackD.tree p).length tc] 37) (.cells #[.slice none 0 0] 25)
  generalize ((w.alloc (.cells #[.slice a1 L.length c1] 25)).alloc (.cells #[.string (PackD.name p), .string (PackD.version p), .slice na (PackD.needs p).length nc, .slice ta (PackD.tree p).length tc] 37)).alloc (.cells #[.slice none 0 0] 25) = W0 at hP hQ hR hS hB ⊢
  have o0 := cell_arrS hP 0 _ rfl
  have q0 := cell_arrS hQ 0 _ rfl
  go_wp2_with fail
  refine (l8Pack_any ps _ (PackD.name p) W0 hs.1 ((unhid HA).below hB)).mono ?_
  rintro x w1 ⟨⟨r, rfl, hr⟩, hb⟩
  clear o0 q0
  have hP1 := (hb.block _ (by omega)).trans hP
  have hQ1 := (hb.block _ (by omega)).trans hQ
  have hR1 := (hb.block _ hS).trans hR
  have hS1 : w.heap.size + 1 + 1 < w1.heap.size := Nat.lt_of_lt_of_le hS hb.size
  have hB1 := hB.trans (hb.mono hB.size)
  have HR := hid hr
  clear hb hP hQ hR hB hS hr
  have q0 := cell_arrS hQ1 0 _ rfl
  have q1 := cell_arrS hQ1 1 _ rfl
  have q2 := cell_arrS hQ1 2 _ rfl
  have q3 := cell_arrS hQ1 3 _ rfl
  go_wp2_with fail
  refine (specPackOk_any p _ w1 hps (packC.below (unhid HCP) hB1)).mono ?_
  rintro x w2 ⟨rfl, hb⟩
  clear q0 q1 q2 q3
  have hP2 := (hb.block _ (by omega)).trans hP1
  have hQ2 := (hb.block _ (by omega)).trans hQ1
  have hR2 := (hb.block _ hS1).trans hR1
  have hS2 : w.heap.size + 1 + 1 < w2.heap.size := Nat.lt_of_lt_of_le hS1 hb.size
  have hB2 := hB1.trans (hb.mono hB1.size)
  clear hb hP1 hQ1 hR1 hB1 hS1 hs
  obtain ⟨o0, p0⟩ := cell_fz hP2 0 _ rfl
  obtain ⟨o1, p1⟩ := cell_fz hR2 0 _ rfl
  have HB := hid hB2
  have hstay : ∀ z, NRow packC 37 (w2.setCell ⟨w.heap.size + 1 + 1, 0, none⟩ z) N (.slice a1 L.length c1) L := fun z => (unhid HP).frame (fun k hk => by
    have h1 := ((unhid HP).base k hk).2
    rw [Below.heap_setCell _ _ _ _ (by dsimp only; omega), (unhid HB).block k h1])
  have HST := hid hstay
  clear hstay
  cases hok : pkOk p with
  | false =>
    have HE := hid (show 1 = swapCode p ps ∧ ps = swapP p ps from ⟨by unfold swapCode; rw [hok]; rfl, by unfold swapP; rw [hok]; rfl⟩)
    clear hP2 hQ2 hR2 hB2 hok
    go_wp2_with fail
    exact bodyPost_ret (v := .tuple #[.agg #[.slice a1 L.length c1], .int .i64 1]) (by simp [results, Tryz.results64, go_sem, World.cell?_setCell_same', o1]) rfl ⟨_, L, by rw [← (unhid HE).1], unhid HST _, by rw [unhid HPS]; exact (unhid HE).2, (unhid HB).setCell (by dsimp only; omega) _⟩
  | true =>
    rcases unhid HR with ⟨rfl, hno⟩ | ⟨k, rfl, hyes⟩
    · have hno2 : ¬ hasBN (PackD.name p) ps = true := fun e => hno ((hasB_iffN _ ps).1 e)
      have HE := hid (show 3 = swapCode p ps ∧ ps = swapP p ps from ⟨by unfold swapCode; rw [if_pos hok, if_neg hno2], by unfold swapP; rw [if_pos hok, if_neg hno2]⟩)
      clear hno hno2 hok hP2 hQ2 hR2 hB2
      go_wp2_with fail
      exact bodyPost_ret (v := .tuple #[.agg #[.slice a1 L.length c1], .int .i64 3]) (by simp [results, Tryz.results64, go_sem, World.cell?_setCell_same', o1]) rfl ⟨_, L, by rw [← (unhid HE).1], unhid HST _, by rw [unhid HPS]; exact (unhid HE).2, (unhid HB).setCell (by dsimp only; omega) _⟩
    · have hm : hasBN (PackD.name p) ps = true := (hasB_iffN _ ps).2 (List.mem_of_getElem? hyes)
      obtain ⟨t, ht, hto⟩ : ∃ t, L[k]? = some t ∧ ps[k]? = some t.2.1 := by
        obtain ⟨o, ho, _⟩ := namesP_some hyes
        rw [← unhid HPS] at ho
        unfold itD at ho
        rw [List.getElem?_map] at ho
        cases ht : L[k]? with
        | none => rw [ht] at ho; cases ho
        | some t => exact ⟨t, rfl, by rw [← unhid HPS]; unfold itD; rw [List.getElem?_map, ht]; rfl⟩
      have hold := oldI_at (unhid HF) hyes hto
      have hkl : k < L.length := (List.getElem?_eq_some_iff.1 ht).1
      obtain ⟨g, cap', na', nc', ta', tc', hv, hgl, hcs, c0, c2, c3, c4⟩ := item_cells (unhid HP) ht (unhid HB)
      obtain ⟨rfl, rfl⟩ : a1 = some ⟨g, 0, none⟩ ∧ c1 = cap' := by injection hv with e1 _ e2; exact ⟨e1, e2⟩
      have hso : smallP t.2.1 := (unhid HS).2 _ (List.mem_of_getElem? hto)
      generalize t.2.1 = o at *
      have hgw : g < w2.heap.size := Nat.lt_of_lt_of_le hgl (unhid HB).size
      have gq0 : ∀ x : CW (fun w' => Below w2.heap.size w2 w'), x.w.cell? ⟨w.heap.size, 0, none⟩ = some (.slice (some ⟨g, 0, none⟩) L.length c1) := fun x => (x.h.cell (p := ⟨w.heap.size, 0, none⟩) (by dsimp only; omega)).trans o0
      have gp1 : ∀ x : CW (fun w' => Below w2.heap.size w2 w'), x.w.cell? ⟨w.heap.size + 1, 1, none⟩ = some (.string (PackD.version p)) := fun x => cell_arrS ((x.h.block _ (by omega)).trans hQ2) 1 _ rfl
      have gc : ∀ x : CW (fun w' => Below w2.heap.size w2 w'), x.w.cell? ⟨g, k * 4 + 1, none⟩ = some (.string (PackD.version o)) := fun x => (x.h.cell (p := ⟨g, k * 4 + 1, none⟩) hgw).trans c2
      have gd : decide ((k : Int) < (L.length : Int)) = true := by simp; omega
      have hba : ∀ {q : Prop}, (CW (fun w' => Below w2.heap.size w2 w') → q) ↔ q := CW.all (Below.refl _ w2)
      have JN := hid (fun W => specVersionOrder_any (PackD.version o) (PackD.version p) hso.version hps.version W)
      have HEO := hid (show oldI p ps = ordI (PackD.version o).data.toList (PackD.version p).data.toList from hold)
      have HHM := hid hm
      have HOK := hid hok
      clear hyes hm ht hto hold hv hcs c0 c2 c3 c4 hok
      go_wp2_with fail
      refine held_begin (fun w' => Below w2.heap.size w2 w') (by kernel_rfl) (drew_belowS _) ?_
      refine held_here [true, true, true, true, true, true, true, true] (by kernel_rfl) (by kernel_rfl) (fun _ _ _ _ _ h => h) (drew_belowS _) ?_
      dsimp only [pick]
      repeat (go_big_quiet_step (fail))
      refine wpQuiet_nil ?_
      have hD := drew_belowS (B := w2.heap.size) w2
      generalize hdr : w2.drew = w3 at hD ⊢
      clear gq0 gp1 gc hdr
      refine held_call 8 120 30 (enters_of Tryz.func120 (by kernel_rfl) rfl) #[.string (PackD.version o), .string (PackD.version p)] (by kernel_rfl) (by kernel_rfl) rfl rfl rfl rfl rfl ?_
      refine (unhid JN w3).mono ?_
      rintro x w4 ⟨rfl, hb⟩
      have hD4 := hD.trans (hb.mono hD.size)
      clear hb hD JN
      generalize ordI (PackD.version o).data.toList (PackD.version p).data.toList = oi at *
      refine ⟨_, rfl, hD4, ?_⟩
      simp only [Act.put, List.setIfInBounds_toArray, List.set_cons_zero, List.set_cons_succ]
      refine held_here [false, false, false, false, false, false, false, false, false, true, true] (by kernel_rfl) (by kernel_rfl) (fun _ _ _ _ _ h => h) hD4 ?_
      dsimp only [pick]
      repeat (go_big_quiet_step (fail))
      refine wpQuiet_nil ?_
      refine held_done (by kernel_rfl) ?_
      clear hba gd o0 p0 o1 p1
      have hP4 := (hD4.block _ (by omega)).trans hP2
      have hQ4 := (hD4.block _ (by omega)).trans hQ2
      have hR4 := (hD4.block _ hS2).trans hR2
      have hS4 : w.heap.size + 1 + 1 < w4.heap.size := Nat.lt_of_lt_of_le hS2 hD4.size
      have hB4 := (unhid HB).trans (hD4.mono (unhid HB).size)
      clear hP2 hQ2 hR2 hB2 hS2 hD4 HB HST
      have HB := hid hB4
      obtain ⟨o0, p0⟩ := cell_fz hP4 0 _ rfl
      obtain ⟨o1, p1⟩ := cell_fz hR4 0 _ rfl
      by_cases h0 : 0 ≤ oi
      · have HE := hid (show 7 = swapCode p ps ∧ ps = swapP p ps from ⟨by unfold swapCode; rw [if_pos (unhid HOK), if_pos (unhid HHM), if_pos (by rw [unhid HEO]; exact h0)], by unfold swapP; rw [if_pos (unhid HOK), if_pos (unhid HHM), if_pos (by rw [unhid HEO]; exact h0)]⟩)
        clear hP4 hQ4 hR4 hB4
        go_wp2_with fail
        exact bodyPost_ret (v := .tuple #[.agg #[.slice (some ⟨g, 0, none⟩) L.length c1], .int .i64 7]) (by simp [results, Tryz.results64, go_sem, World.cell?_setCell_same', o1]) rfl ⟨_, L, by rw [← (unhid HE).1], (unhid HP).frame (fun k hk => by
          have h1 := ((unhid HP).base k hk).2
          rw [Below.heap_setCell _ _ _ _ (by dsimp only; omega), (unhid HB).block k h1]), by rw [unhid HPS]; exact (unhid HE).2, (unhid HB).setCell (by dsimp only; omega) _⟩
      · have HE := hid (show rootCode (swapQ p ps) = swapCode p ps ∧ tryP ps (swapQ p ps) = swapP p ps from ⟨by unfold swapCode; rw [if_pos (unhid HOK), if_pos (unhid HHM), if_neg (by rw [unhid HEO]; exact h0)], by unfold swapP; rw [if_pos (unhid HOK), if_pos (unhid HHM), if_neg (by rw [unhid HEO]; exact h0)]⟩)
        have hC0 : OutW w4 (w.heap.size + 1) w4.drew := ⟨⟨rfl, rfl, rfl, Nat.le_refl _, fun _ _ => rfl⟩, _, hR4⟩
        have HC0 := hid hC0
        have HS4 := hid hS4
        clear hR4 hB4 o1 p1 hP4
        go_wp2_with fail
        have gq0 : ∀ x : CW (OutW w4 (w.heap.size + 1)), x.w.cell? ⟨w.heap.size, 0, none⟩ = some (.slice (some ⟨g, 0, none⟩) L.length c1) := fun x => (x.h.1.cell (p := ⟨w.heap.size, 0, none⟩) (by dsimp only; omega)).trans o0
        have gp0 : ∀ x : CW (OutW w4 (w.heap.size + 1)), x.w.cell? ⟨w.heap.size + 1, 0, none⟩ = some (.string (PackD.name p)) := fun x => cell_arrS ((x.h.1.block _ (by omega)).trans hQ4) 0 _ rfl
        have gp1 : ∀ x : CW (OutW w4 (w.heap.size + 1)), x.w.cell? ⟨w.heap.size + 1, 1, none⟩ = some (.string (PackD.version p)) := fun x => cell_arrS ((x.h.1.block _ (by omega)).trans hQ4) 1 _ rfl
        have gp2 : ∀ x : CW (OutW w4 (w.heap.size + 1)), x.w.cell? ⟨w.heap.size + 1, 2, none⟩ = some (.slice na (PackD.needs p).length nc) := fun x => cell_arrS ((x.h.1.block _ (by omega)).trans hQ4) 2 _ rfl
        have gp3 : ∀ x : CW (OutW w4 (w.heap.size + 1)), x.w.cell? ⟨w.heap.size + 1, 3, none⟩ = some (.slice ta (PackD.tree p).length tc) := fun x => cell_arrS ((x.h.1.block _ (by omega)).trans hQ4) 3 _ rfl
        have hba : ∀ {q : Prop}, (CW (OutW w4 (w.heap.size + 1)) → q) ↔ q := CW.all hC0
        refine held_begin (OutW w4 (w.heap.size + 1)) (by kernel_rfl) hC0 ?_
        refine held_here [true, true, true, true, true, false, true] (by kernel_rfl) (by kernel_rfl) (fun _ _ _ _ _ h => h) hC0 ?_
        dsimp only [pick]
        repeat (go_big_quiet_step (fail))
        refine wpQuiet_nil ?_
        clear hba gq0 gp0 gp1 gp2 gp3 hC0 o0 p0 hQ4
        have hs0 : w.heap.size + 1 + 1 < w4.drew.heap.size := unhid HS4
        have hbd : Below w.heap.size w w4.drew := (unhid HB).trans ⟨rfl, rfl, rfl, Nat.le_refl _, fun _ _ => rfl⟩
        have HSW := hid hs0
        generalize w4.drew = w5 at *
        have hsL : L.length ≤ 1048576 := by omega
        have hPd : NRow packC 37 w5 N (.slice (some ⟨g, 0, none⟩) L.length c1) L := (unhid HP).frame (fun k hk => hbd.block k ((unhid HP).base k hk).2)
        refine held_call 5 121 38 (enters_of Tryz.func121 (by kernel_rfl) rfl) #[.slice (some ⟨g, 0, none⟩) L.length c1, .string (PackD.name p)] (by kernel_rfl) (by kernel_rfl) rfl rfl rfl rfl rfl ?_
        refine (l9Without_any L _ (PackD.name p) w5 N (Nat.le_trans hN hbd.size) hsL hPd).mono ?_
        rintro x w6 ⟨v6, rfl, hN6, hW6, hb⟩
        have hC6 := (unhid HC0).next hs0 hb
        have hs6 := Nat.lt_of_lt_of_le hs0 hb.size
        have hb6 := hbd.trans (hb.mono hbd.size)
        have HSZ6 := hid hb.size
        refine ⟨_, rfl, hC6, ?_⟩
        simp only [Act.put, List.setIfInBounds_toArray, List.set_cons_zero, List.set_cons_succ]
        refine held_call 7 116 40 (enters_of Tryz.func116 (by kernel_rfl) rfl) #[v6, .agg #[.string (PackD.name p), .string (PackD.version p), .slice na (PackD.needs p).length nc, .slice ta (PackD.tree p).length tc]] (by kernel_rfl) (by kernel_rfl) rfl rfl rfl rfl rfl ?_
        refine (l9With_any (withoutI (PackD.name p) L) v6 p _ w6 N (Nat.le_trans hN hb6.size) (Nat.le_trans (withoutI_sub _ L).length_le hsL) hps hN6 (packC.below (unhid HCP) hb6)).mono ?_
        rintro x w7 ⟨v7, L7, rfl, hN7, hD7, hW7, hb⟩
        have hC7 := hC6.next hs6 hb
        have hs7 := Nat.lt_of_lt_of_le hs6 hb.size
        have hb7 := hb6.trans (hb.mono hb6.size)
        have hD7' : itD L7 = swapQ p ps := by rw [hD7, withoutI_D, unhid HPS]; rfl
        have hat : rowAt packC w7 v7 (swapQ p ps) := by
          obtain ⟨F, h1, _⟩ := hN7.own
          have := h1.toAt
          rwa [hD7'] at this
        refine ⟨_, rfl, hC7, ?_⟩
        simp only [Act.put, List.setIfInBounds_toArray, List.set_cons_zero, List.set_cons_succ]
        refine held_call 8 115 41 (enters_of Tryz.func115 (by kernel_rfl) rfl) #[.agg #[.slice (some ⟨g, 0, none⟩) L.length c1], v7] (by kernel_rfl) (by kernel_rfl) rfl rfl rfl rfl rfl ?_
        refine (l9Try_any (swapQ p ps) (some ⟨g, 0, none⟩) L.length c1 v7 w7 (with_small (without_small (unhid HS)) (Nat.le_trans (List.length_filter_le _ _) (unhid HLEN)) hps) hat).mono ?_
        rintro x w8 ⟨r8, rfl, hat8, hb8⟩
        obtain ⟨ra, rn, rc, hr8⟩ : ∃ ra rn rc, r8 = .slice ra rn rc := by
          rcases hat8 with ⟨_, rfl⟩ | ⟨_, rfl⟩
          · obtain ⟨x, y, rfl⟩ := nrow_slice hN7
            exact ⟨_, _, _, rfl⟩
          · exact ⟨_, _, _, rfl⟩
        have hfin : ∃ L', itD L' = tryP ps (swapQ p ps) ∧ ∀ z, NRow packC 37 (w8.setCell ⟨w.heap.size + 1 + 1, 0, none⟩ z) N r8 L' := by
          rcases hat8 with ⟨h0, rfl⟩ | ⟨h0, rfl⟩
          · refine ⟨L7, by rw [hD7']; unfold tryP; rw [if_pos h0], fun z => hN7.frame (fun k hk => ?_)⟩
            have hl := (hN7.base k hk).2
            rw [Below.heap_setCell _ _ _ _ ?_, hb8.block k hl]
            dsimp only
            have hw5s : w.heap.size + 1 + 1 < w5.heap.size := unhid HSW
            have hw6s := unhid HSZ6
            rcases hW7 k hk with hk | hk
            · have h2 := (unhid HP).items.lt k ((itF_sub (withoutI_sub _ L)).subset hk)
              omega
            · omega
          · refine ⟨L, by rw [unhid HPS]; unfold tryP; rw [if_neg h0], fun z => (unhid HP).frame (fun k hk => ?_)⟩
            have hl := ((unhid HP).base k hk).2
            rw [Below.heap_setCell _ _ _ _ (by dsimp only; omega), hb8.block k (Nat.lt_of_lt_of_le hl hb7.size), hb7.block k hl]
        subst hr8
        have HFIN := hid hfin
        clear hfin
        have hC8 := hC7.next hs7 hb8
        have hB8 := hb7.trans (hb8.mono hb7.size)
        refine ⟨_, rfl, hC8, ?_⟩
        simp only [Act.put, List.setIfInBounds_toArray, List.set_cons_zero, List.set_cons_succ]
        have HB8 := hid hB8
        clear hs0 hbd HC0 hat hb hC6 hs6 hb6 hC7 hs7 hb7 hat8 hb8 hB8 HB hPd hN6 hW6 hN7 hW7 hD7 hD7' HSW HSZ6
        have hba : ∀ {q : Prop}, (CW (OutW w4 (w.heap.size + 1)) → q) ↔ q := CW.all hC8
        refine held_here [false, false, false, false, false, false, false, false, false, true, true] (by kernel_rfl) (by kernel_rfl) (fun _ _ _ _ _ h => h) hC8 ?_
        dsimp only [pick]
        repeat (go_big_quiet_step (fail))
        refine wpQuiet_nil ?_
        obtain ⟨z, hz⟩ := hC8.2
        obtain ⟨o1, p1⟩ := cell_fz hz 0 _ rfl
        have hC9 := hC8.store (.slice ra rn rc)
        clear hba
        refine held_op 11 (by kernel_rfl) (by kernel_rfl) rfl (fun K hK => ?_)
        go_simp
        refine hK.out _ _ hC9 ?_
        clear hK K
        have hba : ∀ {q : Prop}, (CW (OutW w4 (w.heap.size + 1)) → q) ↔ q := CW.all hC9
        refine held_here [false, false, false, false, false, false, false, false, false, false, false, false, true] (by kernel_rfl) (by kernel_rfl) (fun _ _ _ _ _ h => h) hC9 ?_
        dsimp only [pick]
        repeat (go_big_quiet_step (fail))
        refine wpQuiet_nil ?_
        clear hba
        refine held_done (by kernel_rfl) ?_
        go_wp2_with fail
        obtain ⟨L', h1, h2⟩ := unhid HFIN
        exact bodyPost_ret (v := .tuple #[.agg #[.slice ra rn rc], .int .i64 (rootCode (swapQ p ps))]) (by simp [results, Tryz.results64, go_sem, World.cell?_setCell_same', o1]) rfl ⟨_, L', by rw [← (unhid HE).1], h2 _, by rw [h1]; exact (unhid HE).2, (unhid HB8).setCell (by dsimp only; omega) _⟩
end Go.Proofs.YtoljhgkgppjdcaaGreat

namespace Go.Proofs.YtoljhgkgppjdcaaGreat
open Go.RowKit Go.Shelf
def rootSwapC (d : RootD) (p : packC.D) : Int := if rootOk_0 d = true then swapCode p d.packs else 1
def rootSwapP (d : RootD) (p : packC.D) : List packC.D := if rootOk_0 d = true then swapP p d.packs else []
def RootSwapR (d : RootD) (p : packC.D) (w : World) (x : Ending) (w' : World) : Prop := ∃ (r : Value) (L : List (It packC)), x = .returned (.tuple #[.agg #[r], .int .i64 (rootSwapC d p)]) ∧ NRow packC 37 w' w.heap.size r L ∧ itD L = rootSwapP d p ∧ Below w.heap.size w w'
set_option maxRecDepth 100000 in
set_option maxHeartbeats 4000000 in
theorem specRootSwap_any (d : RootD) (a1 : Option Addr) (c1 : Nat) (p : packC.D) (cs : List Value) (w : World) (hs : smallPs d.packs) (hps : smallP p) (hp : rowAt packC w (.slice a1 d.packs.length c1) d.packs) (hcp : packC.at_ w cs p) :
    Calls Tryz.prog 28 #[.agg #[.slice a1 d.packs.length c1], .agg cs.toArray] w (RootSwapR d p w) := by
  obtain ⟨v2, v3, rfl, p2, p3⟩ := packC_at hcp
  obtain ⟨na, nc, rfl, -⟩ := rowAt.slice p2
  obtain ⟨ta, tc, rfl, -⟩ := rowAt.slice p3
  have HCP := hid hcp
  have HP := hid hp
  clear hp hcp p2 p3
  go_enter Tryz.func28, Tryz.ntmps28
  go_wp2_with fail
  obtain ⟨hP, hQ, hR, hS, hB⟩ := three_boxes w (.cells #[.slice a1 d.packs.length c1] 25) (.cells #[.string (PackD.name p), .string (PackD.version p), .slice na (PackD.needs p).length nc, .slice ta (PackD.tree p).length tc] 37) (.cells #[.slice none 0 0] 25)
  generalize ((w.alloc (.cells #[.slice a1 d.packs.length c1] 25)).alloc (.cells #[.string (PackD.name p), .string (PackD.version p), .slice na (PackD.needs p).length nc, .slice ta (PackD.tree p).length tc] 37)).alloc (.cells #[.slice none 0 0] 25) = W0 at hP hQ hR hS hB ⊢
  have o0 := cell_arrS hP 0 _ rfl
  go_wp2_with fail
  refine (specRootOk_any d a1 c1 W0 hs ((unhid HP).below hB)).mono ?_
  rintro x w2 ⟨rfl, hb⟩
  clear o0
  have hP2 := (hb.block _ (by omega)).trans hP
  have hQ2 := (hb.block _ (by omega)).trans hQ
  have hR2 := (hb.block _ hS).trans hR
  have hS2 : w.heap.size + 1 + 1 < w2.heap.size := Nat.lt_of_lt_of_le hS hb.size
  have hB2 := hB.trans (hb.mono hB.size)
  clear hb hP hQ hR hB hS
  obtain ⟨o0, p0⟩ := cell_fz hP2 0 _ rfl
  obtain ⟨o1, p1⟩ := cell_fz hR2 0 _ rfl
  have HB := hid hB2
  have HS2 := hid hS2
  cases hok : rootOk_0 d with
  | false =>
    have HE := hid hok
    clear hP2 hQ2 hR2 hB2 hS2
    go_wp2_with fail
    exact bodyPost_ret (v := .tuple #[.agg #[.slice none 0 0], .int .i64 1]) (by simp [results, Tryz.results28, go_sem, World.cell?_setCell_same', o1]) rfl ⟨_, [], by unfold rootSwapC; rw [unhid HE]; rfl, NRow.none _ _, by unfold rootSwapP; rw [unhid HE]; rfl, (unhid HB).setCell (by dsimp only; omega) _⟩
  | true =>
    have hlen := ok_len (rootOk_yes hok)
    have HFO := hid (ok_form (rootOk_yes hok))
    have HE := hid (show swapCode p d.packs = rootSwapC d p ∧ swapP p d.packs = rootSwapP d p from ⟨by unfold rootSwapC; rw [if_pos hok], by unfold rootSwapP; rw [if_pos hok]⟩)
    have hC0 : OutW w2 (w.heap.size + 1) w2.drew := ⟨⟨rfl, rfl, rfl, Nat.le_refl _, fun _ _ => rfl⟩, _, hR2⟩
    have HC0 := hid hC0
    clear hR2 hB2 o1 p1 hP2 hok
    go_wp2_with fail
    have gq0 : ∀ x : CW (OutW w2 (w.heap.size + 1)), x.w.cell? ⟨w.heap.size, 0, none⟩ = some (.slice a1 d.packs.length c1) := fun x => (x.h.1.cell (p := ⟨w.heap.size, 0, none⟩) (by dsimp only; omega)).trans o0
    have gp0 : ∀ x : CW (OutW w2 (w.heap.size + 1)), x.w.cell? ⟨w.heap.size + 1, 0, none⟩ = some (.string (PackD.name p)) := fun x => cell_arrS ((x.h.1.block _ (by omega)).trans hQ2) 0 _ rfl
    have gp1 : ∀ x : CW (OutW w2 (w.heap.size + 1)), x.w.cell? ⟨w.heap.size + 1, 1, none⟩ = some (.string (PackD.version p)) := fun x => cell_arrS ((x.h.1.block _ (by omega)).trans hQ2) 1 _ rfl
    have gp2 : ∀ x : CW (OutW w2 (w.heap.size + 1)), x.w.cell? ⟨w.heap.size + 1, 2, none⟩ = some (.slice na (PackD.needs p).length nc) := fun x => cell_arrS ((x.h.1.block _ (by omega)).trans hQ2) 2 _ rfl
    have gp3 : ∀ x : CW (OutW w2 (w.heap.size + 1)), x.w.cell? ⟨w.heap.size + 1, 3, none⟩ = some (.slice ta (PackD.tree p).length tc) := fun x => cell_arrS ((x.h.1.block _ (by omega)).trans hQ2) 3 _ rfl
    have hba : ∀ {q : Prop}, (CW (OutW w2 (w.heap.size + 1)) → q) ↔ q := CW.all hC0
    refine held_begin (OutW w2 (w.heap.size + 1)) (by kernel_rfl) hC0 ?_
    refine held_here [true, false, true] (by kernel_rfl) (by kernel_rfl) (fun _ _ _ _ _ h => h) hC0 ?_
    dsimp only [pick]
    repeat (go_big_quiet_step (fail))
    refine wpQuiet_nil ?_
    clear hba gq0 gp0 gp1 gp2 gp3 hC0 o0 p0 hQ2
    have hs0 : w.heap.size + 1 + 1 < w2.drew.heap.size := unhid HS2
    have hbd : Below w.heap.size w w2.drew := (unhid HB).trans ⟨rfl, rfl, rfl, Nat.le_refl _, fun _ _ => rfl⟩
    generalize w2.drew = w3 at *
    refine held_call 1 57 11 (enters_of Tryz.func57 (by kernel_rfl) rfl) #[.agg #[.slice a1 d.packs.length c1]] (by kernel_rfl) (by kernel_rfl) rfl rfl rfl rfl rfl ?_
    refine (l9Copy_any d.packs _ w3 hs ((unhid HP).below hbd)).mono ?_
    rintro x w4 ⟨u4, L, rfl, hN4, hL4, hb⟩
    have hC4 := (unhid HC0).next hs0 hb
    have hs4 := Nat.lt_of_lt_of_le hs0 hb.size
    have hb4 := hbd.trans (hb.mono hbd.size)
    refine ⟨_, rfl, hC4, ?_⟩
    simp only [Act.put, List.setIfInBounds_toArray, List.set_cons_zero, List.set_cons_succ]
    refine held_call 3 64 13 (enters_of Tryz.func64 (by kernel_rfl) rfl) #[.agg #[u4], .agg #[.string (PackD.name p), .string (PackD.version p), .slice na (PackD.needs p).length nc, .slice ta (PackD.tree p).length tc]] (by kernel_rfl) (by kernel_rfl) rfl rfl rfl rfl rfl ?_
    refine (l9Swap_any L u4 p _ w4 w3.heap.size hb.size (by rw [hL4]; exact hs) (by rw [← itD_len L, hL4]; omega) (by rw [hL4]; exact unhid HFO) hps hN4 (packC.below (unhid HCP) hb4)).mono ?_
    rintro x w5 ⟨r, L', rfl, hN5, hL5, hb5⟩
    obtain ⟨rb, rd, rfl⟩ := nrow_slice hN5
    have hC5 := hC4.next hs4 hb5
    have hB5 := hb4.trans (hb5.mono hb4.size)
    rw [hL4] at hL5 ⊢
    rw [(unhid HE).1]
    have HN5 := hid hN5
    have HL5 := hid (hL5.trans (unhid HE).2)
    have HB5 := hid hB5
    have HS3 := hid hs0
    have HBD := hid hbd
    generalize hoc : rootSwapC d p = oc
    have HOC := hid hoc
    refine ⟨_, rfl, hC5, ?_⟩
    simp only [Act.put, List.setIfInBounds_toArray, List.set_cons_zero, List.set_cons_succ]
    clear hoc hs0 hbd HC0 hN4 hL4 hb hC4 hs4 hb4 hN5 hL5 hb5 hB5 HE
    have hba : ∀ {q : Prop}, (CW (OutW w2 (w.heap.size + 1)) → q) ↔ q := CW.all hC5
    refine held_here [false, false, false, false, true, true] (by kernel_rfl) (by kernel_rfl) (fun _ _ _ _ _ h => h) hC5 ?_
    dsimp only [pick]
    repeat (go_big_quiet_step (fail))
    refine wpQuiet_nil ?_
    obtain ⟨z, hz⟩ := hC5.2
    obtain ⟨o1, p1⟩ := cell_fz hz 0 _ rfl
    have hC6 := hC5.store (.slice rb L'.length rd)
    clear hba
    refine held_op 6 (by kernel_rfl) (by kernel_rfl) rfl (fun K hK => ?_)
    go_simp
    refine hK.out _ _ hC6 ?_
    clear hK K
    have hba : ∀ {q : Prop}, (CW (OutW w2 (w.heap.size + 1)) → q) ↔ q := CW.all hC6
    refine held_here [false, false, false, false, false, false, false, true] (by kernel_rfl) (by kernel_rfl) (fun _ _ _ _ _ h => h) hC6 ?_
    dsimp only [pick]
    repeat (go_big_quiet_step (fail))
    refine wpQuiet_nil ?_
    clear hba
    refine held_done (by kernel_rfl) ?_
    go_wp2_with fail
    refine bodyPost_ret (v := .tuple #[.agg #[.slice rb L'.length rd], .int .i64 oc]) (by simp [results, Tryz.results28, go_sem, World.cell?_setCell_same', o1]) rfl ⟨_, L', by rw [unhid HOC], NRow.lower (N := w3.heap.size) ((unhid HN5).frame (fun k hk => Below.heap_setCell _ _ _ _ ?_)) (by have := (unhid HBD).size; omega), unhid HL5, (unhid HB5).setCell (by dsimp only; omega) _⟩
    have := ((unhid HN5).base k hk).1
    have := unhid HS3
    dsimp only
    omega
end Go.Proofs.YtoljhgkgppjdcaaGreat

namespace Go.Proofs.YtoljhgkgppjdcaaGreat
open Go.RowKit Go.Shelf
set_option maxRecDepth 100000 in
set_option maxHeartbeats 8000000 in
theorem implRootSwap_any (d : RootD) (a1 : Option Addr) (c1 : Nat) (p : packC.D) (cs : List Value) (w : World) (hs : smallPs d.packs) (hps : smallP p) (hp : rowAt packC w (.slice a1 d.packs.length c1) d.packs) (hcp : packC.at_ w cs p) :
    Calls Tryz.prog 27 #[.agg #[.slice a1 d.packs.length c1], .agg cs.toArray] w (RootSwapR d p w) := by
  obtain ⟨v2, v3, rfl, p2, p3⟩ := packC_at hcp
  obtain ⟨na, nc, rfl, -⟩ := rowAt.slice p2
  obtain ⟨ta, tc, rfl, -⟩ := rowAt.slice p3
  have HCP := hid hcp
  have HP := hid hp
  clear hp hcp p2 p3
  go_enter Tryz.func27, Tryz.ntmps27
  go_wp2_with fail
  obtain ⟨hP, hQ, hR, hS, hB⟩ := three_boxes w (.cells #[.slice a1 d.packs.length c1] 25) (.cells #[.string (PackD.name p), .string (PackD.version p), .slice na (PackD.needs p).length nc, .slice ta (PackD.tree p).length tc] 37) (.cells #[.slice none 0 0] 25)
  generalize ((w.alloc (.cells #[.slice a1 d.packs.length c1] 25)).alloc (.cells #[.string (PackD.name p), .string (PackD.version p), .slice na (PackD.needs p).length nc, .slice ta (PackD.tree p).length tc] 37)).alloc (.cells #[.slice none 0 0] 25) = W0 at hP hQ hR hS hB ⊢
  have o0 := cell_arrS hP 0 _ rfl
  go_wp2_with fail
  refine (implRootOk_any d a1 c1 W0 hs ((unhid HP).below hB)).mono ?_
  rintro x w2 ⟨rfl, hb⟩
  clear o0
  have hP2 := (hb.block _ (by omega)).trans hP
  have hQ2 := (hb.block _ (by omega)).trans hQ
  have hR2 := (hb.block _ hS).trans hR
  have hS2 : w.heap.size + 1 + 1 < w2.heap.size := Nat.lt_of_lt_of_le hS hb.size
  have hB2 := hB.trans (hb.mono hB.size)
  clear hb hP hQ hR hB hS
  obtain ⟨o0, p0⟩ := cell_fz hP2 0 _ rfl
  obtain ⟨o1, p1⟩ := cell_fz hR2 0 _ rfl
  have q0 := cell_arrS hQ2 0 _ rfl
  have HB := hid hB2
  cases hok : rootOk_0 d with
  | false =>
    have HE := hid hok
    clear hP2 hQ2 hR2 hB2 hS2
    go_wp2_with fail
    exact bodyPost_ret (v := .tuple #[.agg #[.slice none 0 0], .int .i64 1]) (by simp [results, Tryz.results27, go_sem, World.cell?_setCell_same', o1]) rfl ⟨_, [], by unfold rootSwapC; rw [unhid HE]; rfl, NRow.none _ _, by unfold rootSwapP; rw [unhid HE]; rfl, (unhid HB).setCell (by dsimp only; omega) _⟩
  | true =>
    have hrc := rootOk_yes hok
    have HF := hid (ok_form hrc)
    have hlen := ok_len hrc
    have HE := hid (show swapCode p d.packs = rootSwapC d p ∧ swapP p d.packs = rootSwapP d p from ⟨by unfold rootSwapC; rw [if_pos hok], by unfold rootSwapP; rw [if_pos hok]⟩)
    have JN := hid (packPlace_any d.packs _ (PackD.name p) w2 hs.1 (form_asc (unhid HF)) ((unhid HP).below hB2))
    clear o1 p1 hok hrc
    go_wp2_with fail
    refine (unhid JN).mono ?_
    rintro x w3 ⟨rfl, hb3⟩
    clear JN o0 p0 q0
    have hP3 := (hb3.block _ (by omega)).trans hP2
    have hQ3 := (hb3.block _ (by omega)).trans hQ2
    have hR3 := (hb3.block _ hS2).trans hR2
    have hS3 : w.heap.size + 1 + 1 < w3.heap.size := Nat.lt_of_lt_of_le hS2 hb3.size
    have hB3 := hB2.trans (hb3.mono hB2.size)
    clear hP2 hQ2 hR2 hS2 hB2 hb3 HB
    have JN := hid (packOk_any p _ w3 hps (packC.below (unhid HCP) hB3))
    have q0 := cell_arrS hQ3 0 _ rfl
    have q1 := cell_arrS hQ3 1 _ rfl
    have q2 := cell_arrS hQ3 2 _ rfl
    have q3 := cell_arrS hQ3 3 _ rfl
    go_wp2_with fail
    refine (unhid JN).mono ?_
    rintro x w4 ⟨rfl, hb4⟩
    clear JN q0 q1 q2 q3
    have hP4 := (hb4.block _ (by omega)).trans hP3
    have hQ4 := (hb4.block _ (by omega)).trans hQ3
    have hR4 := (hb4.block _ hS3).trans hR3
    have hS4 : w.heap.size + 1 + 1 < w4.heap.size := Nat.lt_of_lt_of_le hS3 hb4.size
    have hB4 := hB3.trans (hb4.mono hB3.size)
    clear hP3 hQ3 hR3 hS3 hB3 hb4
    obtain ⟨o0, p0⟩ := cell_fz hP4 0 _ rfl
    have HB := hid hB4
    have HS4 := hid hS4
    have HR4 := hid hR4
    cases hpk : pkOk p with
    | false =>
      have HX := hid (show 1 = rootSwapC d p ∧ d.packs = rootSwapP d p from by rw [← (unhid HE).1, ← (unhid HE).2]; exact ⟨by unfold swapCode; rw [hpk]; rfl, by unfold swapP; rw [hpk]; rfl⟩)
      have JN := hid (cloneRoot_any d.packs _ w4 hs ((unhid HP).below hB4))
      clear hP4 hQ4 hR4 hB4 hS4 hpk
      go_wp2_with fail
      refine (unhid JN).mono ?_
      rintro x w5 ⟨r, L', rfl, hN5, hL5, hb5⟩
      obtain ⟨rb, rd, rfl⟩ := nrow_slice hN5
      obtain ⟨o1, p1⟩ := cell_fz ((hb5.block _ (unhid HS4)).trans (unhid HR4)) 0 _ rfl
      have HN5 := hid hN5
      have HL5 := hid hL5
      have HB5 := hid ((unhid HB).trans (hb5.mono (unhid HB).size))
      clear hN5 hL5 hb5 JN
      go_wp2_with fail
      refine bodyPost_ret (v := .tuple #[.agg #[.slice rb L'.length rd], .int .i64 1]) (by simp [results, Tryz.results27, go_sem, World.cell?_setCell_same', o1]) rfl ⟨_, L', by rw [← (unhid HX).1], NRow.lower (N := w4.heap.size) ((unhid HN5).frame (fun k hk => Below.heap_setCell _ _ _ _ ?_)) (by have := (unhid HB).size; omega), by rw [unhid HL5]; exact (unhid HX).2, (unhid HB5).setCell (by dsimp only; omega) _⟩
      have := ((unhid HN5).base k hk).1
      have := unhid HS4
      dsimp only
      omega
    | true =>
      cases hth : thereP (namesP d.packs) (PackD.name p) with
      | false =>
        have hno : ¬ hasBN (PackD.name p) d.packs = true := fun e => there_no (form_asc (unhid HF)) hth ((hasB_iffN _ _).1 e)
        have HX := hid (show 3 = rootSwapC d p ∧ d.packs = rootSwapP d p from by rw [← (unhid HE).1, ← (unhid HE).2]; exact ⟨by unfold swapCode; rw [if_pos hpk, if_neg hno], by unfold swapP; rw [if_pos hpk, if_neg hno]⟩)
        have JN := hid (cloneRoot_any d.packs _ w4 hs ((unhid HP).below hB4))
        clear hP4 hQ4 hR4 hB4 hS4 hpk hno hth
        go_wp2_with fail
        refine (unhid JN).mono ?_
        rintro x w5 ⟨r, L', rfl, hN5, hL5, hb5⟩
        obtain ⟨rb, rd, rfl⟩ := nrow_slice hN5
        obtain ⟨o1, p1⟩ := cell_fz ((hb5.block _ (unhid HS4)).trans (unhid HR4)) 0 _ rfl
        have HN5 := hid hN5
        have HL5 := hid hL5
        have HB5 := hid ((unhid HB).trans (hb5.mono (unhid HB).size))
        clear hN5 hL5 hb5 JN
        go_wp2_with fail
        refine bodyPost_ret (v := .tuple #[.agg #[.slice rb L'.length rd], .int .i64 3]) (by simp [results, Tryz.results27, go_sem, World.cell?_setCell_same', o1]) rfl ⟨_, L', by rw [← (unhid HX).1], NRow.lower (N := w4.heap.size) ((unhid HN5).frame (fun k hk => Below.heap_setCell _ _ _ _ ?_)) (by have := (unhid HB).size; omega), by rw [unhid HL5]; exact (unhid HX).2, (unhid HB5).setCell (by dsimp only; omega) _⟩
        have := ((unhid HN5).base k hk).1
        have := unhid HS4
        dsimp only
        omega
      | true =>
        have hm := thereT_mem hth
        have hyes : hasBN (PackD.name p) d.packs = true := (hasB_iffN _ _).2 (List.mem_of_getElem? hm)
        have hput : putP p d.packs = swapQ p d.packs := by unfold putP swapQ; rw [if_pos hth, swap_with (unhid HF) hm]
        obtain ⟨o, ho, hon⟩ := namesP_some hm
        have hold := oldI_at (unhid HF) hm ho
        have hil : placeP (namesP d.packs) (PackD.name p) < d.packs.length := (List.getElem?_eq_some_iff.1 ho).1
        have hso : smallP o := hs.2 o (List.mem_of_getElem? ho)
        obtain ⟨a, cap, hv, -, -, hrow⟩ := unhid HP
        obtain ⟨b, of, rfl, hbl, hc⟩ := hrow.resolve_left (fun e => by rw [e] at hil; exact absurd hil (Nat.not_lt_zero _))
        obtain ⟨rfl, rfl⟩ : a1 = some ⟨b, of, none⟩ ∧ c1 = cap := by injection hv with e1 _ e2; exact ⟨e1, e2⟩
        obtain ⟨ma, mc, ka, kc, ⟨c0, c2, c3, c4⟩, hato⟩ := pack_cells (unhid HB) hbl hc ho
        have hbw : b < w4.heap.size := Nat.lt_of_lt_of_le hbl (unhid HB).size
        generalize placeP (namesP d.packs) (PackD.name p) = k at *
        have gq0 : ∀ x : CW (fun w' => Below w4.heap.size w4 w'), x.w.cell? ⟨w.heap.size, 0, none⟩ = some (.slice (some ⟨b, of, none⟩) d.packs.length c1) := fun x => (x.h.cell (p := ⟨w.heap.size, 0, none⟩) (by dsimp only; omega)).trans o0
        have gp0 : ∀ x : CW (fun w' => Below w4.heap.size w4 w'), x.w.cell? ⟨w.heap.size + 1, 0, none⟩ = some (.string (PackD.name p)) := fun x => cell_arrS ((x.h.block _ (by omega)).trans hQ4) 0 _ rfl
        have gp1 : ∀ x : CW (fun w' => Below w4.heap.size w4 w'), x.w.cell? ⟨w.heap.size + 1, 1, none⟩ = some (.string (PackD.version p)) := fun x => cell_arrS ((x.h.block _ (by omega)).trans hQ4) 1 _ rfl
        have gp2 : ∀ x : CW (fun w' => Below w4.heap.size w4 w'), x.w.cell? ⟨w.heap.size + 1, 2, none⟩ = some (.slice na (PackD.needs p).length nc) := fun x => cell_arrS ((x.h.block _ (by omega)).trans hQ4) 2 _ rfl
        have gp3 : ∀ x : CW (fun w' => Below w4.heap.size w4 w'), x.w.cell? ⟨w.heap.size + 1, 3, none⟩ = some (.slice ta (PackD.tree p).length tc) := fun x => cell_arrS ((x.h.block _ (by omega)).trans hQ4) 3 _ rfl
        have gc0 : ∀ x : CW (fun w' => Below w4.heap.size w4 w'), x.w.cell? ⟨b, of + k * 4, none⟩ = some (.string (PackD.name o)) := fun x => (x.h.cell (p := ⟨b, of + k * 4, none⟩) hbw).trans c0
        have gc1 : ∀ x : CW (fun w' => Below w4.heap.size w4 w'), x.w.cell? ⟨b, of + k * 4 + 1, none⟩ = some (.string (PackD.version o)) := fun x => (x.h.cell (p := ⟨b, of + k * 4 + 1, none⟩) hbw).trans c2
        have gc2 : ∀ x : CW (fun w' => Below w4.heap.size w4 w'), x.w.cell? ⟨b, of + k * 4 + 2, none⟩ = some (.slice ma (PackD.needs o).length mc) := fun x => (x.h.cell (p := ⟨b, of + k * 4 + 2, none⟩) hbw).trans c3
        have gc3 : ∀ x : CW (fun w' => Below w4.heap.size w4 w'), x.w.cell? ⟨b, of + k * 4 + 3, none⟩ = some (.slice ka (PackD.tree o).length kc) := fun x => (x.h.cell (p := ⟨b, of + k * 4 + 3, none⟩) hbw).trans c4
        have hba : ∀ {q : Prop}, (CW (fun w' => Below w4.heap.size w4 w') → q) ↔ q := CW.all (Below.refl _ w4)
        have HAO := hid hato
        have HEO := hid hold
        have HPUT := hid hput
        have HHM := hid hyes
        have HOK := hid hpk
        clear hm hyes hput ho hon hold hv hrow hc c0 c2 c3 c4 hato hth hpk
        go_wp2_with fail
        refine held_begin (fun w' => Below w4.heap.size w4 w') (by kernel_rfl) (drew_belowS _) ?_
        refine held_here [true, true, true, true, true, true] (by kernel_rfl) (by kernel_rfl) (fun _ _ _ _ _ h => h) (drew_belowS _) ?_
        dsimp only [pick]
        repeat (go_big_quiet_step (fail))
        refine wpQuiet_nil ?_
        have hD := drew_belowS (B := w4.heap.size) w4
        generalize hdr : w4.drew = w5 at hD ⊢
        clear gq0 gp0 gp1 gp2 gp3 gc0 gc1 gc2 gc3 hdr
        refine held_call 6 63 38 (enters_of Tryz.func63 (by kernel_rfl) rfl) #[.agg #[.string (PackD.name o), .string (PackD.version o), .slice ma (PackD.needs o).length mc, .slice ka (PackD.tree o).length kc], .agg #[.string (PackD.name p), .string (PackD.version p), .slice na (PackD.needs p).length nc, .slice ta (PackD.tree p).length tc]] (by kernel_rfl) (by kernel_rfl) rfl rfl rfl rfl rfl ?_
        refine (isElder_any o p _ _ w5 hso hps (packC.below (unhid HAO) hD) (packC.below (unhid HCP) ((unhid HB).trans (hD.mono (unhid HB).size)))).mono ?_
        rintro x w6 ⟨rfl, hb⟩
        have hD6 := hD.trans (hb.mono hD.size)
        clear hb hD
        refine ⟨_, rfl, hD6, ?_⟩
        simp only [Act.put, List.setIfInBounds_toArray, List.set_cons_zero, List.set_cons_succ]
        have hbi : decide (elderI o p < 0) = !decide (0 ≤ elderI o p) := by by_cases h : elderI o p < 0 <;> simp [h] <;> omega
        rw [hbi]
        clear hbi
        have HOI := hid (show oldI p d.packs = elderI o p from unhid HEO)
        clear HEO
        generalize elderI o p = oi at *
        refine held_here [false, false, false, false, false, false, false, true, true] (by kernel_rfl) (by kernel_rfl) (fun _ _ _ _ _ h => h) hD6 ?_
        dsimp only [pick]
        repeat (go_big_quiet_step (fail))
        refine wpQuiet_nil ?_
        refine held_done (by kernel_rfl) ?_
        clear hba o0 p0
        have hP6 := (hD6.block _ (by omega)).trans hP4
        have hQ6 := (hD6.block _ (by omega)).trans hQ4
        have hR6 := (hD6.block _ (unhid HS4)).trans (unhid HR4)
        have hS6 : w.heap.size + 1 + 1 < w6.heap.size := Nat.lt_of_lt_of_le (unhid HS4) hD6.size
        have hB6 := (unhid HB).trans (hD6.mono (unhid HB).size)
        clear hP4 hQ4 hR4 hB4 hS4 hD6 HB HS4 HR4
        generalize w6 = w4 at *
        have hP4 := hP6
        have hQ4 := hQ6
        have hR4 := hR6
        have hS4 := hS6
        have hB4 := hB6
        clear hP6 hQ6 hR6 hS6 hB6
        have HB := hid hB4
        have HS4 := hid hS4
        have HR4 := hid hR4
        obtain ⟨o0, p0⟩ := cell_fz hP4 0 _ rfl
        by_cases h0 : 0 ≤ oi
        · have HX := hid (show 7 = rootSwapC d p ∧ d.packs = rootSwapP d p from by rw [← (unhid HE).1, ← (unhid HE).2]; exact ⟨by unfold swapCode; rw [if_pos (unhid HOK), if_pos (unhid HHM), if_pos (by rw [unhid HOI]; exact h0)], by unfold swapP; rw [if_pos (unhid HOK), if_pos (unhid HHM), if_pos (by rw [unhid HOI]; exact h0)]⟩)
          have JN := hid (cloneRoot_any d.packs _ w4 hs ((unhid HP).below hB4))
          clear hP4 hQ4 hR4 hB4 hS4
          go_wp2_with fail
          refine (unhid JN).mono ?_
          rintro x w5 ⟨r, L', rfl, hN5, hL5, hb5⟩
          obtain ⟨rb, rd, rfl⟩ := nrow_slice hN5
          obtain ⟨o1, p1⟩ := cell_fz ((hb5.block _ (unhid HS4)).trans (unhid HR4)) 0 _ rfl
          have HN5 := hid hN5
          have HL5 := hid hL5
          have HB5 := hid ((unhid HB).trans (hb5.mono (unhid HB).size))
          clear hN5 hL5 hb5 JN
          go_wp2_with fail
          refine bodyPost_ret (v := .tuple #[.agg #[.slice rb L'.length rd], .int .i64 7]) (by simp [results, Tryz.results27, go_sem, World.cell?_setCell_same', o1]) rfl ⟨_, L', by rw [← (unhid HX).1], NRow.lower (N := w4.heap.size) ((unhid HN5).frame (fun k hk => Below.heap_setCell _ _ _ _ ?_)) (by have := (unhid HB).size; omega), by rw [unhid HL5]; exact (unhid HX).2, (unhid HB5).setCell (by dsimp only; omega) _⟩
          have := ((unhid HN5).base k hk).1
          have := unhid HS4
          dsimp only
          omega
        · have HX := hid (show rootCode (putP p d.packs) = rootSwapC d p ∧ tryP d.packs (putP p d.packs) = rootSwapP d p from by rw [← (unhid HE).1, ← (unhid HE).2, unhid HPUT]; exact ⟨by unfold swapCode; rw [if_pos (unhid HOK), if_pos (unhid HHM), if_neg (by rw [unhid HOI]; exact h0)], by unfold swapP; rw [if_pos (unhid HOK), if_pos (unhid HHM), if_neg (by rw [unhid HOI]; exact h0)]⟩)
          have hC0 : OutW w4 (w.heap.size + 1) w4.drew := ⟨⟨rfl, rfl, rfl, Nat.le_refl _, fun _ _ => rfl⟩, _, hR4⟩
          have HC0 := hid hC0
          clear hR4 hB4 hS4 hP4
          go_wp2_with fail
          have gq0 : ∀ x : CW (OutW w4 (w.heap.size + 1)), x.w.cell? ⟨w.heap.size, 0, none⟩ = some (.slice (some ⟨b, of, none⟩) d.packs.length c1) := fun x => (x.h.1.cell (p := ⟨w.heap.size, 0, none⟩) (by dsimp only; omega)).trans o0
          have gp0 : ∀ x : CW (OutW w4 (w.heap.size + 1)), x.w.cell? ⟨w.heap.size + 1, 0, none⟩ = some (.string (PackD.name p)) := fun x => cell_arrS ((x.h.1.block _ (by omega)).trans hQ4) 0 _ rfl
          have gp1 : ∀ x : CW (OutW w4 (w.heap.size + 1)), x.w.cell? ⟨w.heap.size + 1, 1, none⟩ = some (.string (PackD.version p)) := fun x => cell_arrS ((x.h.1.block _ (by omega)).trans hQ4) 1 _ rfl
          have gp2 : ∀ x : CW (OutW w4 (w.heap.size + 1)), x.w.cell? ⟨w.heap.size + 1, 2, none⟩ = some (.slice na (PackD.needs p).length nc) := fun x => cell_arrS ((x.h.1.block _ (by omega)).trans hQ4) 2 _ rfl
          have gp3 : ∀ x : CW (OutW w4 (w.heap.size + 1)), x.w.cell? ⟨w.heap.size + 1, 3, none⟩ = some (.slice ta (PackD.tree p).length tc) := fun x => cell_arrS ((x.h.1.block _ (by omega)).trans hQ4) 3 _ rfl
          have hba : ∀ {q : Prop}, (CW (OutW w4 (w.heap.size + 1)) → q) ↔ q := CW.all hC0
          refine held_begin (OutW w4 (w.heap.size + 1)) (by kernel_rfl) hC0 ?_
          refine held_here [true, true, true, true] (by kernel_rfl) (by kernel_rfl) (fun _ _ _ _ _ h => h) hC0 ?_
          dsimp only [pick]
          repeat (go_big_quiet_step (fail))
          refine wpQuiet_nil ?_
          clear hba gq0 gp0 gp1 gp2 gp3 hC0 o0 p0 hQ4
          have hs0 : w.heap.size + 1 + 1 < w4.drew.heap.size := unhid HS4
          have hbd : Below w.heap.size w w4.drew := (unhid HB).trans ⟨rfl, rfl, rfl, Nat.le_refl _, fun _ _ => rfl⟩
          generalize w4.drew = w5 at *
          refine held_call 4 55 46 (enters_of Tryz.func55 (by kernel_rfl) rfl) #[.slice (some ⟨b, of, none⟩) d.packs.length c1, .agg #[.string (PackD.name p), .string (PackD.version p), .slice na (PackD.needs p).length nc, .slice ta (PackD.tree p).length tc]] (by kernel_rfl) (by kernel_rfl) rfl rfl rfl rfl rfl ?_
          refine (withPack_any d.packs p _ _ w5 hs (by omega) hps (form_asc (unhid HF)) ((unhid HP).below hbd) (packC.below (unhid HCP) hbd)).mono ?_
          rintro x w6 ⟨v6, L, rfl, hN6, hL6, hb6⟩
          have hC6 := (unhid HC0).next hs0 hb6
          have hs6 := Nat.lt_of_lt_of_le hs0 hb6.size
          have hB6 := hbd.trans (hb6.mono hbd.size)
          refine ⟨_, rfl, hC6, ?_⟩
          simp only [Act.put, List.setIfInBounds_toArray, List.set_cons_zero, List.set_cons_succ]
          refine held_call 5 54 47 (enters_of Tryz.func54 (by kernel_rfl) rfl) #[.agg #[.slice (some ⟨b, of, none⟩) d.packs.length c1], v6] (by kernel_rfl) (by kernel_rfl) rfl rfl rfl rfl rfl ?_
          refine (turnRoot_any d.packs _ L v6 w6 w5.heap.size hb6.size hs (by rw [hL6]; exact put_small hs (by omega) hps) ((unhid HP).below hB6) hN6).mono ?_
          rintro x w7 ⟨r7, L', rfl, hN7, hL7, hb7⟩
          obtain ⟨rb, rd, rfl⟩ := nrow_slice hN7
          have hC7 := hC6.next hs6 hb7
          have hB7 := hB6.trans (hb7.mono hB6.size)
          rw [hL6] at hL7 ⊢
          rw [(unhid HX).1]
          have HN7 := hid hN7
          have HL7 := hid (hL7.trans (unhid HX).2)
          have HB7 := hid hB7
          have HS5 := hid hs0
          have HBD := hid hbd
          generalize hoc : rootSwapC d p = oc
          have HOC := hid hoc
          refine ⟨_, rfl, hC7, ?_⟩
          simp only [Act.put, List.setIfInBounds_toArray, List.set_cons_zero, List.set_cons_succ]
          clear hoc hs0 hbd HC0 hN6 hL6 hb6 hC6 hs6 hB6 hN7 hL7 hb7 hB7 HX HE
          have hba : ∀ {q : Prop}, (CW (OutW w4 (w.heap.size + 1)) → q) ↔ q := CW.all hC7
          refine held_here [false, false, false, false, false, false, true, true] (by kernel_rfl) (by kernel_rfl) (fun _ _ _ _ _ h => h) hC7 ?_
          dsimp only [pick]
          repeat (go_big_quiet_step (fail))
          refine wpQuiet_nil ?_
          obtain ⟨z, hz⟩ := hC7.2
          obtain ⟨o1, p1⟩ := cell_fz hz 0 _ rfl
          have hC8 := hC7.store (.slice rb L'.length rd)
          clear hba
          refine held_op 8 (by kernel_rfl) (by kernel_rfl) rfl (fun K hK => ?_)
          go_simp
          refine hK.out _ _ hC8 ?_
          clear hK K
          have hba : ∀ {q : Prop}, (CW (OutW w4 (w.heap.size + 1)) → q) ↔ q := CW.all hC8
          refine held_here [false, false, false, false, false, false, false, false, false, true] (by kernel_rfl) (by kernel_rfl) (fun _ _ _ _ _ h => h) hC8 ?_
          dsimp only [pick]
          repeat (go_big_quiet_step (fail))
          refine wpQuiet_nil ?_
          clear hba
          refine held_done (by kernel_rfl) ?_
          go_wp2_with fail
          refine bodyPost_ret (v := .tuple #[.agg #[.slice rb L'.length rd], .int .i64 oc]) (by simp [results, Tryz.results27, go_sem, World.cell?_setCell_same', o1]) rfl ⟨_, L', by rw [unhid HOC], NRow.lower (N := w5.heap.size) ((unhid HN7).frame (fun k hk => Below.heap_setCell _ _ _ _ ?_)) (by have := (unhid HBD).size; omega), unhid HL7, (unhid HB7).setCell (by dsimp only; omega) _⟩
          have := ((unhid HN7).base k hk).1
          have := unhid HS5
          dsimp only
          omega
end Go.Proofs.YtoljhgkgppjdcaaGreat

namespace Go.Proofs.YtoljhgkgppjdcaaGreat
open Go.RowKit Go.Shelf
end Go.Proofs.YtoljhgkgppjdcaaGreat

namespace Go.Proofs.YtoljhgkgppjdcaaGreat
open Go.RowKit Go.Shelf
theorem name_mem {ps : List packC.D} {q : ByteArray} : q ∈ namesP ps ↔ ∃ p ∈ ps, PackD.name p = q := by
  unfold namesP
  rw [List.mem_map]
theorem with_mem (p : packC.D) (ps : List packC.D) (x : packC.D) : x ∈ withP p ps ↔ x = p ∨ x ∈ ps := by
  unfold withP
  rw [List.mem_append, List.mem_cons]
  conv => rhs; rw [← List.take_append_drop (placeP (namesP ps) (PackD.name p)) ps, List.mem_append]
  constructor
  · rintro (h | h | h)
    · exact .inr (.inl h)
    · exact .inl h
    · exact .inr (.inr h)
  · rintro (h | h | h)
    · exact .inr (.inl h)
    · exact .inl h
    · exact .inr (.inr h)
theorem without_mem (q : ByteArray) (ps : List packC.D) (x : packC.D) : x ∈ withoutP q ps ↔ x ∈ ps ∧ PackD.name x ≠ q := by
  unfold withoutP
  rw [List.mem_filter]
  simp
theorem name_with {p : packC.D} {ps : List packC.D} {q : ByteArray} : q ∈ namesP (withP p ps) ↔ q = PackD.name p ∨ q ∈ namesP ps := by
  rw [name_mem, name_mem]
  constructor
  · rintro ⟨x, hx, rfl⟩
    rcases (with_mem p ps x).1 hx with rfl | hx
    · exact .inl rfl
    · exact .inr ⟨x, hx, rfl⟩
  · rintro (rfl | ⟨x, hx, rfl⟩)
    · exact ⟨p, (with_mem p ps p).2 (.inl rfl), rfl⟩
    · exact ⟨x, (with_mem p ps x).2 (.inr hx), rfl⟩
end Go.Proofs.YtoljhgkgppjdcaaGreat

namespace Go.Proofs.YtoljhgkgppjdcaaGreat
open Go.RowKit
theorem cmpL_self (xs : List Int) : cmpL xs xs = 0 := by
  induction xs with
  | nil => rfl
  | cons a s ih => unfold cmpL; rw [if_neg (by omega), if_neg (by omega), ih]
end Go.Proofs.YtoljhgkgppjdcaaGreat

namespace Go.Proofs.YtoljhgkgppjdcaaGreat
open Go.RowKit Go.Shelf
theorem in_0 {p : packC.D} {ps : List packC.D} (h : inCode p ps = 0) : pkOk p = true ∧ PackD.name p ∉ namesP ps ∧ rootCode (withP p ps) = 0 ∧ inP p ps = withP p ps := by
  unfold inCode at h
  split at h
  case isFalse => cases h
  case isTrue h1 =>
    split at h
    case isTrue => cases h
    case isFalse h2 =>
      refine ⟨h1, fun e => h2 ((hasB_iffN _ _).2 e), h, ?_⟩
      unfold inP tryP
      rw [if_pos h1, if_neg h2, if_pos h]
theorem in_of {p : packC.D} {ps : List packC.D} (h1 : pkOk p = true) (h2 : PackD.name p ∉ namesP ps) : inCode p ps = rootCode (withP p ps) := by
  unfold inCode
  rw [if_pos h1, if_neg (fun e => h2 ((hasB_iffN _ _).1 e))]
theorem in_not {p : packC.D} {ps : List packC.D} (h : inCode p ps ≠ 0) : inP p ps = ps := by
  unfold inCode at h
  unfold inP tryP
  split
  case isFalse => rfl
  case isTrue h1 =>
    rw [if_pos h1] at h
    split
    case isTrue => rfl
    case isFalse h2 =>
      rw [if_neg h2] at h
      rw [if_neg h]
theorem rin_code {d : RootD} {p : packC.D} (h : rootOk_0 d = true) : rootInC d p = inCode p d.packs ∧ rootInP d p = inP p d.packs := by
  unfold rootInC rootInP
  rw [if_pos h, if_pos h]; exact ⟨rfl, rfl⟩
theorem rout_code {d : RootD} {q : ByteArray} (h : rootOk_0 d = true) : rootOutC d q = outCode q d.packs ∧ rootOutP d q = outP q d.packs := by
  unfold rootOutC rootOutP
  rw [if_pos h, if_pos h]; exact ⟨rfl, rfl⟩
theorem rswap_code {d : RootD} {p : packC.D} (h : rootOk_0 d = true) : rootSwapC d p = swapCode p d.packs ∧ rootSwapP d p = swapP p d.packs := by
  unfold rootSwapC rootSwapP
  rw [if_pos h, if_pos h]; exact ⟨rfl, rfl⟩
theorem ok_0 {ps : List packC.D} : rootOk_0 ⟨ps⟩ = true ↔ rootCode ps = 0 := by unfold rootOk_0; rw [beq_iff_eq]
theorem rin_0 {d : RootD} {p : packC.D} (h : rootInC d p = 0) : rootOk_0 d = true := by
  unfold rootInC at h
  cases hk : rootOk_0 d with
  | true => rfl
  | false => rw [hk] at h; cases h
theorem put_facts {d : RootD} {p : packC.D} (h : rootInC d p = 0) : rootOk_0 d = true ∧ pkOk p = true ∧ PackD.name p ∉ namesP d.packs ∧ rootInP d p = withP p d.packs ∧ rootOk_0 ⟨withP p d.packs⟩ = true := by
  have hk := rin_0 h
  rw [(rin_code hk).1] at h
  obtain ⟨h1, h2, h3, h4⟩ := in_0 h
  exact ⟨hk, h1, h2, by rw [(rin_code hk).2]; exact h4, ok_0.2 h3⟩
theorem rin_not {d : RootD} {p : packC.D} (hk : rootOk_0 d = true) (h : rootInC d p ≠ 0) : rootInP d p = d.packs := by
  rw [(rin_code hk).1] at h
  rw [(rin_code hk).2]
  exact in_not h
theorem swap_facts {d : RootD} {p : packC.D} (hk : rootOk_0 d = true) (h : rootSwapC d p = 0) : pkOk p = true ∧ PackD.name p ∈ namesP d.packs ∧ rootSwapP d p = withP p (withoutP (PackD.name p) d.packs) ∧ rootOk_0 ⟨withP p (withoutP (PackD.name p) d.packs)⟩ = true := by
  rw [(rswap_code hk).1] at h
  rw [(rswap_code hk).2]
  unfold swapCode at h
  split at h
  case isFalse => cases h
  case isTrue h1 =>
    split at h
    case isFalse => cases h
    case isTrue h2 =>
      split at h
      case isTrue => cases h
      case isFalse h3 =>
        refine ⟨h1, (hasB_iffN _ _).1 h2, ?_, ok_0.2 h⟩
        unfold swapP tryP
        rw [if_pos h1, if_pos h2, if_neg h3, if_pos h]; rfl
theorem swap_not {d : RootD} {p : packC.D} (hk : rootOk_0 d = true) (h : rootSwapC d p ≠ 0) : rootSwapP d p = d.packs := by
  rw [(rswap_code hk).1] at h
  rw [(rswap_code hk).2]
  unfold swapCode at h
  unfold swapP tryP
  split
  case isFalse => rfl
  case isTrue h1 =>
    rw [if_pos h1] at h
    split
    case isFalse => rfl
    case isTrue h2 =>
      rw [if_pos h2] at h
      split
      case isTrue => rfl
      case isFalse h3 =>
        rw [if_neg h3] at h
        rw [if_neg h]
theorem name_without {q : ByteArray} {ps : List packC.D} : q ∉ namesP (withoutP q ps) := fun e => by
  obtain ⟨x, hx, hn⟩ := name_mem.1 e
  exact ((without_mem q ps x).1 hx).2 hn
theorem swap_again {d : RootD} {p : packC.D} (hk : rootOk_0 d = true) (h : rootSwapC d p = 0) : rootSwapC ⟨withP p (withoutP (PackD.name p) d.packs)⟩ p = 7 := by
  obtain ⟨h1, h2, h3, h4⟩ := swap_facts hk h
  have hm : hasBN (PackD.name p) (withP p (withoutP (PackD.name p) d.packs)) = true := (hasB_iffN _ _).2 (name_with.2 (.inl rfl))
  have hf := ok_form (ok_0.1 h4)
  rw [(rswap_code h4).1]
  obtain ⟨i, hi⟩ := List.getElem?_of_mem ((with_mem p (withoutP (PackD.name p) d.packs) p).2 (.inl rfl))
  have ho := oldI_at hf (namesP_get hi) hi
  unfold swapCode
  rw [if_pos h1]
  show (if hasBN (PackD.name p) (withP p (withoutP (PackD.name p) d.packs)) = true then (if 0 ≤ oldI p (withP p (withoutP (PackD.name p) d.packs)) then (7 : Int) else _) else 3) = 7
  rw [if_pos hm, if_pos]
  rw [ho]
  unfold elderI ordI
  split
  · rw [cmpL_self]; exact Int.le_refl _
  · exact Int.le_refl _
theorem swap_same {d : RootD} {p : packC.D} (hk : rootOk_0 d = true) (h : rootSwapC d p = 0) (ho : rootOutC d (PackD.name p) = 0) : rootOutP d (PackD.name p) = withoutP (PackD.name p) d.packs ∧ rootInC ⟨withoutP (PackD.name p) d.packs⟩ p = 0 ∧ rootInP ⟨withoutP (PackD.name p) d.packs⟩ p = withP p (withoutP (PackD.name p) d.packs) := by
  obtain ⟨h1, h2, h3, h4⟩ := swap_facts hk h
  have hm : hasBN (PackD.name p) d.packs = true := (hasB_iffN _ _).2 h2
  rw [(rout_code hk).1] at ho
  unfold outCode at ho
  rw [if_pos hm] at ho
  have e1 : rootOutP d (PackD.name p) = withoutP (PackD.name p) d.packs := by
    rw [(rout_code hk).2]
    unfold outP tryP
    rw [if_pos hm, if_pos ho]
  have hk2 : rootOk_0 ⟨withoutP (PackD.name p) d.packs⟩ = true := ok_0.2 ho
  have e2 : rootInC ⟨withoutP (PackD.name p) d.packs⟩ p = 0 := by
    rw [(rin_code hk2).1]
    exact (in_of h1 name_without).trans (ok_0.1 h4)
  exact ⟨e1, e2, (put_facts e2).2.2.2.1⟩
end Go.Proofs.YtoljhgkgppjdcaaGreat

namespace Go.Proofs.YtoljhgkgppjdcaaGreat
open Go.RowKit
structure Rd (w : World) (b : Nat) (a : Option Addr) (len cap p : Nat) : Prop where
  c0 : w.cell? ⟨b, 0, none⟩ = some (.slice a len cap)
  c1 : w.cell? ⟨b, 1, none⟩ = some (.int .i64 p)
  f1 : w.frozen? ⟨b, 1, none⟩ = false
  l : len ≤ 2000
  d : len = 0 ∨ ∃ blk off, a = some ⟨blk, off, none⟩ ∧ blk < b ∧ ∀ k, k < len → ∃ c : Nat, c < 256 ∧ w.cell? ⟨blk, off + k, none⟩ = some (.int .u8 c)
theorem wrap_in (x : Int) (h0 : 0 ≤ x) (h : x < 4611686018427387904) : IntKind.i64.wrap x = x := by
  rw [IntKind.wrap_i64]; omega
theorem xor_i64 (a b : Int) (ha0 : 0 ≤ a) (ha : a < 4611686018427387904) (hb0 : 0 ≤ b) (hb : b < 4611686018427387904) : 0 ≤ bits .xor .i64 a b := by
  obtain ⟨x, rfl⟩ := Int.eq_ofNat_of_zero_le ha0
  obtain ⟨y, rfl⟩ := Int.eq_ofNat_of_zero_le hb0
  have hx : x ^^^ y < 2 ^ 62 := Nat.xor_lt_two_pow (by omega) (by omega)
  have h1 : (BitVec.ofInt 64 (x : Int)).toNat = x := by
    rw [BitVec.ofInt_natCast, BitVec.toNat_ofNat]; exact Nat.mod_eq_of_lt (by omega)
  have h2 : (BitVec.ofInt 64 (y : Int)).toNat = y := by
    rw [BitVec.ofInt_natCast, BitVec.toNat_ofNat]; exact Nat.mod_eq_of_lt (by omega)
  show 0 ≤ IntKind.i64.wrap ((BitVec.ofInt 64 (x : Int) ^^^ BitVec.ofInt 64 (y : Int)).toNat : Int)
  rw [BitVec.toNat_xor, h1, h2, wrap_in _ (by omega) (by omega)]
  omega
theorem set1_grown (w : World) (b : Nat) (v : Value) : w.grownBy (w.setCell ⟨b, 1, none⟩ v) (some b) :=
  ⟨rfl, rfl, rfl, by simp, fun k _ hne => Below.heap_setCell w ⟨b, 1, none⟩ v k (fun e => hne (by rw [e]))⟩
theorem Rd.step {w : World} {b : Nat} {a : Option Addr} {len cap p : Nat} (h : Rd w b a len cap p) : Rd (w.setCell ⟨b, 1, none⟩ (.int .i64 ((p : Int) + 1))) b a len cap (p + 1) where
  c0 := by rw [World.cell?_setCell_other (h := by simp)]; exact h.c0
  c1 := by rw [World.cell?_setCell_same' _ _ _ (by rw [h.c1]; rfl)]; simp
  f1 := by rw [World.frozen?_setCell]; exact h.f1
  l := h.l
  d := by
    rcases h.d with h0 | ⟨blk, off, ha, hb, hc⟩
    · exact .inl h0
    · refine .inr ⟨blk, off, ha, hb, fun k hk => ?_⟩
      obtain ⟨c, h1, h2⟩ := hc k hk
      exact ⟨c, h1, (World.cell?_of_block (w := w) (Below.heap_setCell w ⟨b, 1, none⟩ _ blk (by simp; omega))).trans h2⟩
theorem Rd.drewN {w : World} {b : Nat} {a : Option Addr} {len cap p : Nat} (h : Rd w b a len cap p) (m : Nat) : Rd (w.drewN m) b a len cap p := ⟨h.c0, h.c1, h.f1, h.l, h.d⟩
theorem grown_drewN {w w' : World} {r : Option Nat} (h : w.grownBy w' r) (m : Nat) : w.grownBy (w'.drewN m) r := ⟨h.os, h.tape, h.output, h.size, h.block⟩
set_option maxRecDepth 100000 in
set_option maxHeartbeats 1000000 in
theorem pick_any (w : World) (b : Nat) (a : Option Addr) (len cap p : Nat) (h : Rd w b a len cap p) (hp : p ≤ 1048576) (n : Int) (h1 : 1 ≤ n) (h2 : n ≤ 1048576) :
    Calls Tryz.prog 61 #[.pointer (some ⟨b, 0, none⟩), .int .i64 n] w fun e w' => ∃ r : Nat, (r : Int) < n ∧ e = .returned (.int .i64 r) ∧ Rd w' b a len cap (p + 1) ∧ w.grownBy w' (some b) := by
  have hst := hid h.step
  have hgr := hid (set1_grown w b (.int .i64 ((p : Int) + 1)))
  obtain ⟨c0, c1, f1, l, d⟩ := h
  have D := hid d
  clear d
  by_cases hl : len = 0
  · subst hl
    go_enter Tryz.func61, Tryz.ntmps61
    go_wp2
    go_ret
    exact ⟨0, by omega, rfl, unhid hst, unhid hgr⟩
  · have hl0 : ((len : Int) == 0) = false := by rw [beq_eq_false_iff_ne]; omega
    obtain ⟨blk, off, rfl, hb, hc⟩ := (unhid D).resolve_left hl
    by_cases hk : p < len
    · obtain ⟨c, hc1, hc2⟩ := hc p hk
      have Hc := hid hc
      clear hc
      go_enter Tryz.func61, Tryz.ntmps61
      go_wp2
      go_ret
      refine ⟨((c : Int) % n).toNat, ?_, ?_, unhid hst, unhid hgr⟩
      · have := Int.emod_lt_of_pos (c : Int) (show 0 < n by omega); have := Int.emod_nonneg (c : Int) (show n ≠ 0 by omega); omega
      · rw [Int.toNat_of_nonneg (Int.emod_nonneg _ (by omega))]; rfl
    · obtain ⟨q, hq, hql⟩ : ∃ q : Nat, (p : Int).tmod len = q ∧ q < len := ⟨p % len, by rw [Int.tmod_eq_emod_of_nonneg (by omega)]; simp, Nat.mod_lt _ (by omega)⟩
      obtain ⟨q2, hq2, hql2⟩ : ∃ q2 : Nat, ((p : Int) * 7 + 3).tmod len = q2 ∧ q2 < len := ⟨(p * 7 + 3) % len, by rw [Int.tmod_eq_emod_of_nonneg (by omega)]; simp, Nat.mod_lt _ (by omega)⟩
      obtain ⟨d, hd, hdl⟩ : ∃ d : Nat, (p : Int).tdiv len = d ∧ d ≤ p := ⟨p / len, by rw [Int.tdiv_eq_ediv_of_nonneg (by omega)]; simp, Nat.div_le_self _ _⟩
      obtain ⟨x, hx1, hx2⟩ := hc _ hql
      obtain ⟨y, hy1, hy2⟩ := hc _ hql2
      have Hc := hid hc
      clear hc
      have w1 := wrap_in ((p : Int) * 7) (by omega) (by omega)
      have w2 := wrap_in ((p : Int) * 7 + 3) (by omega) (by omega)
      have e1 := wrap_in ((x : Int) * 131) (by omega) (by omega)
      have e2 := wrap_in ((y : Int) * 1117) (by omega) (by omega)
      have e3 := wrap_in ((x : Int) * 131 + (y : Int) * 1117) (by omega) (by omega)
      have e4 := wrap_in ((p : Int) * 29) (by omega) (by omega)
      have e5 := wrap_in ((x : Int) * 131 + (y : Int) * 1117 + (p : Int) * 29) (by omega) (by omega)
      have e6 := wrap_in ((d : Int) * 53) (by omega) (by omega)
      have e7 := wrap_in ((x : Int) * 131 + (y : Int) * 1117 + (p : Int) * 29 + (d : Int) * 53) (by omega) (by omega)
      go_enter Tryz.func61, Tryz.ntmps61
      go_wp2
      refine wp_region_quiet_lit (by kernel_rfl) (by kernel_rfl) ?_
      repeat (quiet_step (fail))
      refine wpQuiet_nil ?_
      intro _ hw'
      obtain ⟨nq, hw''⟩ := hw'
      subst hw''
      go_wp2
      go_ret
      have hx0 := xor_i64 ((x : Int) * 131 + (y : Int) * 1117 + (p : Int) * 29 + (d : Int) * 53) (((x : Int) * 131 + (y : Int) * 1117 + (p : Int) * 29 + (d : Int) * 53) / 64) (by omega) (by omega) (by omega) (by omega)
      generalize hX : bits .xor .i64 ((x : Int) * 131 + (y : Int) * 1117 + (p : Int) * 29 + (d : Int) * 53) (((x : Int) * 131 + (y : Int) * 1117 + (p : Int) * 29 + (d : Int) * 53) / 64) = X at hx0 ⊢
      have t0 : X.tmod n = X % n := Int.tmod_eq_emod_of_nonneg hx0
      have t1 := Int.emod_lt_of_pos X (show 0 < n by omega)
      have t2 := Int.emod_nonneg X (show n ≠ 0 by omega)
      refine ⟨(X % n).toNat, by omega, ?_, (unhid hst).drewN _, grown_drewN (unhid hgr) _⟩
      rw [Int.toNat_of_nonneg t2, ← t0]
      rfl
end Go.Proofs.YtoljhgkgppjdcaaGreat

namespace Go.Proofs.YtoljhgkgppjdcaaGreat
open Go.RowKit
theorem grown_trans {x y z : World} {b : Nat} (h : x.grownBy y (some b)) (g : y.grownBy z (some b)) : x.grownBy z (some b) :=
  ⟨g.os.trans h.os, g.tape.trans h.tape, g.output.trans h.output, Nat.le_trans h.size g.size, fun k hk hne => (g.block k (Nat.lt_of_lt_of_le hk h.size) hne).trans (h.block k hk hne)⟩
theorem grown_below {x y : World} {b B : Nat} (h : x.grownBy y (some b)) (hB : B ≤ b) (hs : B ≤ x.heap.size) : Below B x y :=
  ⟨h.os, h.tape, h.output, h.size, fun k hk => h.block k (by omega) (fun e => by cases e; omega)⟩
theorem Rd.lt {w : World} {b : Nat} {a : Option Addr} {len cap p : Nat} (h : Rd w b a len cap p) : b < w.heap.size := by
  have h0 := h.c0
  unfold World.cell? at h0
  cases hh : w.heap[b]? with
  | none => simp [hh] at h0
  | some o => exact (Array.getElem?_eq_some_iff.1 hh).1
theorem Rd.of_below {w w' : World} {b : Nat} {a : Option Addr} {len cap p : Nat} (h : Rd w b a len cap p) (hB : Below w.heap.size w w') : Rd w' b a len cap p where
  c0 := (hB.cell (p := ⟨b, 0, none⟩) h.lt).trans h.c0
  c1 := (hB.cell (p := ⟨b, 1, none⟩) h.lt).trans h.c1
  f1 := (hB.frozen (p := ⟨b, 1, none⟩) h.lt).trans h.f1
  l := h.l
  d := by
    rcases h.d with h0 | ⟨blk, off, ha, hb, hc⟩
    · exact .inl h0
    · refine .inr ⟨blk, off, ha, hb, fun k hk => ?_⟩
      obtain ⟨c, h1, h2⟩ := hc k hk
      exact ⟨c, h1, (hB.cell (p := ⟨blk, off + k, none⟩) (by have := h.lt; simp; omega)).trans h2⟩
theorem Rd.alloc {w : World} {b : Nat} {a : Option Addr} {len cap p : Nat} (h : Rd w b a len cap p) (o : Obj) : Rd (w.alloc o) b a len cap p :=
  h.of_below ((Below.refl _ w).alloc (Nat.le_refl _) o)
set_option maxRecDepth 100000 in
set_option maxHeartbeats 1000000 in
theorem of_any (P : ByteArray → Prop) (w : World) (b : Nat) (a : Option Addr) (len cap p : Nat) (h : Rd w b a len cap p) (hp : p ≤ 1048576) (g m c : Nat) (hg : g ≠ b) (h1 : 1 ≤ m) (h2 : m ≤ 1048576)
    (hl : ∀ k, k < m → ∃ x, P x ∧ w.cell? ⟨g, k, none⟩ = some (.string x)) :
    Calls Tryz.prog 62 #[.pointer (some ⟨b, 0, none⟩), .slice (some ⟨g, 0, none⟩) m c] w fun e w' => ∃ x, P x ∧ e = .returned (.string x) ∧ Rd w' b a len cap (p + 1) ∧ w.grownBy w' (some b) := by
  have H := hid h
  have Hl := hid hl
  have hlt : g < w.heap.size := by
    obtain ⟨x, _, hx⟩ := hl 0 (by omega)
    unfold World.cell? at hx
    cases hh : w.heap[g]? with
    | none => simp [hh] at hx
    | some o => exact (Array.getElem?_eq_some_iff.1 hh).1
  clear h hl
  go_enter Tryz.func62, Tryz.ntmps62
  go_wp2_with fail
  refine (pick_any w b a len cap p (unhid H) hp m (by omega) (by omega)).mono ?_
  rintro e w1 ⟨r, hr, rfl, hR, hG⟩
  have hr' : r < m := by omega
  obtain ⟨x, hP, hx⟩ := unhid Hl r hr'
  have hx1 : w1.cell? ⟨g, r, none⟩ = some (.string x) := (World.cell?_of_block (w := w) (hG.block g hlt (fun e => hg (by cases e; rfl)))).trans hx
  have HR := hid hR
  have HG := hid hG
  clear hR hG hx
  go_wp2_with fail
  go_ret
  exact ⟨x, hP, rfl, unhid HR, unhid HG⟩
def short (x : ByteArray) : Prop := x.size ≤ 100
def shortV : Value → Bool
  | .string x => decide (x.size ≤ 100)
  | _ => false
theorem row_short (w : World) (cs : Array Value) (t : TypeId) (h : cs.toList.all shortV = true) (k : Nat) (hk : k < cs.size) : ∃ x, short x ∧ (w.alloc (.cells cs t)).cell? ⟨w.heap.size, k, none⟩ = some (.string x) := by
  have h1 : (w.alloc (.cells cs t)).cell? ⟨w.heap.size, k, none⟩ = cs[k]? := by
    have := World.alloc_heap_new w (.cells cs t)
    unfold World.cell?
    dsimp only
    rw [this]
    simp
  rw [List.all_eq_true] at h
  have h2 := h cs[k] (by simp)
  rw [h1, Array.getElem?_eq_getElem hk]
  revert h2
  cases cs[k] <;> simp [shortV, short]
def Code (w : World) (B : Nat) (a : Option Addr) (len : Nat) : Prop :=
  len = 0 ∨ ∃ blk off, a = some ⟨blk, off, none⟩ ∧ blk < B ∧ ∀ k, k < len → ∃ c : Nat, c < 256 ∧ w.cell? ⟨blk, off + k, none⟩ = some (.int .u8 c)
theorem Code.less {w : World} {B : Nat} {a : Option Addr} {len m : Nat} (h : Code w B a len) (hm : m ≤ len) : Code w B a m := by
  rcases h with h | ⟨blk, off, ha, hb, hc⟩
  · exact .inl (by omega)
  · exact .inr ⟨blk, off, ha, hb, fun k hk => hc k (by omega)⟩
theorem rd_new (w : World) (a : Option Addr) (len cap : Nat) (t : TypeId) (h : Code w w.heap.size a len) (hl : len ≤ 2000) : Rd (w.alloc (.cells #[.slice a len cap, .int .i64 0] t)) w.heap.size a len cap 0 := by
  have hn := World.alloc_heap_new w (.cells #[.slice a len cap, .int .i64 0] t)
  refine ⟨?_, ?_, ?_, hl, ?_⟩
  · unfold World.cell?; dsimp only; rw [hn]; simp
  · unfold World.cell?; dsimp only; rw [hn]; simp
  · unfold World.frozen?; dsimp only; rw [hn]; simp
  · rcases h with h | ⟨blk, off, ha, hb, hc⟩
    · exact .inl h
    · refine .inr ⟨blk, off, ha, hb, fun k hk => ?_⟩
      obtain ⟨c, h1, h2⟩ := hc k hk
      exact ⟨c, h1, (((Below.refl w.heap.size w).alloc (Nat.le_refl _) _).cell (p := ⟨blk, off + k, none⟩) hb).trans h2⟩
set_option maxRecDepth 100000 in
set_option maxHeartbeats 1000000 in
theorem l1Open_any (w : World) (a : Option Addr) (len cap : Nat) (h : Code w w.heap.size a len) (hl : len ≤ 1048576) (hc : len ≤ cap) :
    Calls Tryz.prog 42 #[.slice a len cap] w fun e w' => e = .returned (.pointer (some ⟨w.heap.size, 0, none⟩)) ∧ (∃ l' c', Rd w' w.heap.size a l' c' 0) ∧ Below w.heap.size w w' := by
  have H := hid h
  clear h
  by_cases h2 : (2000 : Int) < len
  · go_enter Tryz.func42, Tryz.ntmps42
    go_wp2
    go_ret
    exact ⟨rfl, ⟨_, _, rd_new w a 2000 cap _ ((unhid H).less (by omega)) (Nat.le_refl _)⟩, (Below.refl _ _).alloc (Nat.le_refl _) _⟩
  · go_enter Tryz.func42, Tryz.ntmps42
    go_wp2
    go_ret
    exact ⟨rfl, ⟨_, _, rd_new w a len cap _ (unhid H) (by omega)⟩, (Below.refl _ _).alloc (Nat.le_refl _) _⟩
end Go.Proofs.YtoljhgkgppjdcaaGreat

namespace Go.Proofs.YtoljhgkgppjdcaaGreat
open Go.RowKit
def niceB (l : List UInt8) : Bool := decide (l.length ≤ 100) && (l.take 2 != [102, 114] && l.take 2 != [110, 101])
def nice (x : ByteArray) : Prop := niceB x.data.toList = true
def niceV : Value → Bool
  | .string x => niceB x.data.toList
  | _ => false
theorem nice_short {x : ByteArray} (h : nice x) : x.size ≤ 100 := by
  unfold nice niceB at h
  simp only [Bool.and_eq_true, decide_eq_true_eq] at h
  have := h.1
  simpa using this
theorem row_nice (w : World) (cs : Array Value) (t : TypeId) (h : cs.toList.all niceV = true) (k : Nat) (hk : k < cs.size) : ∃ x, nice x ∧ (w.alloc (.cells cs t)).cell? ⟨w.heap.size, k, none⟩ = some (.string x) := by
  have h1 : (w.alloc (.cells cs t)).cell? ⟨w.heap.size, k, none⟩ = cs[k]? := by
    have := World.alloc_heap_new w (.cells cs t)
    unfold World.cell?
    dsimp only
    rw [this]
    simp
  rw [List.all_eq_true] at h
  have h2 := h cs[k] (by simp)
  rw [h1, Array.getElem?_eq_getElem hk]
  revert h2
  cases cs[k] <;> simp [niceV, nice]
set_option maxRecDepth 100000 in
set_option maxHeartbeats 1000000 in
theorem l11Path_nice (w : World) (b : Nat) (a : Option Addr) (len cap p : Nat) (h : Rd w b a len cap p) (hp : p ≤ 1048576) :
    Calls Tryz.prog 177 #[.pointer (some ⟨b, 0, none⟩)] w fun e w' => ∃ x, nice x ∧ e = .returned (.string x) ∧ Rd w' b a len cap (p + 1) ∧ w.grownBy w' (some b) := by
  have H := hid h
  clear h
  go_enter Tryz.func177, Tryz.ntmps177
  go_wp2_with fail
  have hb := (unhid H).lt
  refine (of_any nice _ b a len cap p ?h1 hp w.heap.size 12 12 ?h2 (by omega) (by omega) ?h5).mono ?_
  case h1 => exact (unhid H).alloc _
  case h2 => omega
  case h5 => exact fun k hk => row_nice w _ _ (by kernel_rfl) k hk
  rintro e w1 ⟨x, hx, rfl, hR, hG⟩
  have hG' := grown_trans (World.grownBy_alloc w _ (some b)) hG
  have HR := hid hR
  have HG := hid hG'
  clear hR hG hG'
  go_wp2_with fail
  go_ret
  exact ⟨x, hx, rfl, unhid HR, unhid HG⟩
set_option maxRecDepth 100000 in
set_option maxHeartbeats 1000000 in
theorem l11AnyPath_nice (w : World) (b : Nat) (a : Option Addr) (len cap p : Nat) (h : Rd w b a len cap p) (hp : p ≤ 1000000) :
    Calls Tryz.prog 122 #[.pointer (some ⟨b, 0, none⟩)] w fun e w' => ∃ x, nice x ∧ e = .returned (.string x) ∧ Rd w' b a len cap (p + 1 + 1) ∧ w.grownBy w' (some b) := by
  have H := hid h
  clear h
  go_enter Tryz.func122, Tryz.ntmps122
  go_wp2_with fail
  refine (pick_any w b a len cap p (unhid H) (by omega) 6 (by omega) (by omega)).mono ?_
  rintro e w1 ⟨r, hr, rfl, hR, hG⟩
  have HR := hid hR
  have HG := hid hG
  clear hR hG
  by_cases h0 : r = 0
  · have h0' : ((r : Int) == 0) = true := by simp [h0]
    go_wp2_with fail
    have hb := (unhid HR).lt
    refine (of_any nice _ b a len cap (p + 1) ?h1 (by omega) w1.heap.size 12 12 ?h2 (by omega) (by omega) ?h5).mono ?_
    case h1 => exact (unhid HR).alloc _
    case h2 => omega
    case h5 => exact fun k hk => row_nice w1 _ _ (by kernel_rfl) k hk
    rintro e w2 ⟨x, hx, rfl, hR, hG⟩
    have hG' := grown_trans (unhid HG) (grown_trans (World.grownBy_alloc w1 _ (some b)) hG)
    have HR2 := hid hR
    have HG2 := hid hG'
    clear hR hG hG'
    go_wp2_with fail
    go_ret
    exact ⟨x, hx, rfl, unhid HR2, unhid HG2⟩
  · have h0' : ((r : Int) == 0) = false := by rw [beq_eq_false_iff_ne]; omega
    go_wp2_with fail
    refine (l11Path_nice w1 b a len cap (p + 1) (unhid HR) (by omega)).mono ?_
    rintro e w2 ⟨x, hx, rfl, hR, hG⟩
    have hG' := grown_trans (unhid HG) hG
    have HR2 := hid hR
    have HG2 := hid hG'
    clear hR hG hG'
    go_wp2_with fail
    go_ret
    exact ⟨x, hx, rfl, unhid HR2, unhid HG2⟩
set_option maxRecDepth 100000 in
set_option maxHeartbeats 1000000 in
theorem one_any (P : Int → Prop) (w : World) (b : Nat) (a : Option Addr) (len cap p : Nat) (h : Rd w b a len cap p) (hp : p ≤ 1048576) (g m c : Nat) (hg : g ≠ b) (h1 : 1 ≤ m) (h2 : m ≤ 1048576)
    (hl : ∀ k, k < m → ∃ x, P x ∧ w.cell? ⟨g, k, none⟩ = some (.int .i64 x)) :
    Calls Tryz.prog 192 #[.pointer (some ⟨b, 0, none⟩), .slice (some ⟨g, 0, none⟩) m c] w fun e w' => ∃ x, P x ∧ e = .returned (.int .i64 x) ∧ Rd w' b a len cap (p + 1) ∧ w.grownBy w' (some b) := by
  have H := hid h
  have Hl := hid hl
  have hlt : g < w.heap.size := by
    obtain ⟨x, _, hx⟩ := hl 0 (by omega)
    unfold World.cell? at hx
    cases hh : w.heap[g]? with
    | none => simp [hh] at hx
    | some o => exact (Array.getElem?_eq_some_iff.1 hh).1
  clear h hl
  go_enter Tryz.func192, Tryz.ntmps192
  go_wp2_with fail
  refine (pick_any w b a len cap p (unhid H) hp m (by omega) (by omega)).mono ?_
  rintro e w1 ⟨r, hr, rfl, hR, hG⟩
  have hr' : r < m := by omega
  obtain ⟨x, hP, hx⟩ := unhid Hl r hr'
  have hx1 : w1.cell? ⟨g, r, none⟩ = some (.int .i64 x) := (World.cell?_of_block (w := w) (hG.block g hlt (fun e => hg (by cases e; rfl)))).trans hx
  have HR := hid hR
  have HG := hid hG
  clear hR hG hx
  go_wp2_with fail
  go_ret
  exact ⟨x, hP, rfl, unhid HR, unhid HG⟩
def intV (P : Int → Bool) : Value → Bool
  | .int .i64 x => P x
  | _ => false
theorem row_int (P : Int → Bool) (w : World) (cs : Array Value) (t : TypeId) (B : Nat) (hB : B = w.heap.size) (h : cs.toList.all (intV P) = true) (k : Nat) (hk : k < cs.size) : ∃ x, P x = true ∧ (w.alloc (.cells cs t)).cell? ⟨B, k, none⟩ = some (.int .i64 x) := by
  subst hB
  have h1 : (w.alloc (.cells cs t)).cell? ⟨w.heap.size, k, none⟩ = cs[k]? := by
    have := World.alloc_heap_new w (.cells cs t)
    unfold World.cell?
    dsimp only
    rw [this]
    simp
  rw [List.all_eq_true] at h
  have h2 := h cs[k] (by simp)
  rw [h1, Array.getElem?_eq_getElem hk]
  revert h2
  unfold intV
  split <;> simp_all
theorem ba_eq {x y : ByteArray} (h : x.data.toList = y.data.toList) : x = y := by
  obtain ⟨⟨l⟩⟩ := x; obtain ⟨⟨m⟩⟩ := y; simp at h; subst h; rfl
def rep (s : ByteArray) (n : Nat) : ByteArray := ⟨⟨(List.replicate n s.data.toList).flatten⟩⟩
theorem rep_add (s : ByteArray) (a b : Nat) : rep s a ++ rep s b = rep s (a + b) := by
  apply ba_eq
  rw [ByteArray.data_append, Array.toList_append]
  show (List.replicate a s.data.toList).flatten ++ (List.replicate b s.data.toList).flatten = (List.replicate (a + b) s.data.toList).flatten
  rw [← List.flatten_append, List.replicate_append_replicate]
theorem rep_size (s : ByteArray) (a : Nat) : (rep s a).size = a * s.size := by
  show (List.replicate a s.data.toList).flatten.length = a * s.data.toList.length
  simp
theorem rep_one (s : ByteArray) : rep s 1 = s := by
  apply ba_eq
  show (List.replicate 1 s.data.toList).flatten = s.data.toList
  simp
set_option maxRecDepth 100000 in
set_option maxHeartbeats 1000000 in
theorem many_rep (s : ByteArray) (N : Nat) (hs : s.size ≤ 10) (hN : N ≤ 100) (w : World) : Calls Tryz.prog 132 #[.string s, .int .i64 N] w fun e w' => e = .returned (.string (rep s N)) ∧ w' = w := by
  have R1 := hid (rep_one s)
  have z0 := rep_size s
  have hz : ∀ n, n ≤ 200 → (rep s n).size ≤ 2000 := fun n hn => by rw [rep_size]; exact Nat.le_trans (Nat.mul_le_mul hn hs) (by omega)
  have HZ := hid hz
  clear z0 hz
  go_enter Tryz.func132, Tryz.ntmps132
  go_wp2_with fail
  go_loop [0, 1, 5] (fun t n o => ∃ a b k : Nat, t = .string (rep s b) ∧ n = .int .i64 k ∧ o = .string (rep s a) ∧ a + b * k = N ∧ b ≤ 200 ∧ 1 ≤ b ∧ (0 < k → b ≤ N)) (fun _ n _ => (intOf n).toNat)
  case atStart => exact ⟨0, 1, N, by rw [unhid R1], rfl, rfl, by omega, by omega, by omega, fun h => h⟩
  case round =>
    obtain ⟨a, b, k, rfl, rfl, rfl, hs, hb, hb1, hbk⟩ := hrel
    have hkN : k ≤ N := by have := Nat.le_mul_of_pos_left k (show 0 < b by omega); omega
    have ea := hid (rep_add s a b)
    have eb := hid (rep_add s b b)
    by_cases hk : 0 < k
    · have hbN := hbk hk
      have haN : a ≤ N := by omega
      have za := unhid HZ a (by omega)
      have zb := unhid HZ b (by omega)
      have hk0 : (0 : Int) < k := by omega
      by_cases ho : k % 2 = 1
      · have ho' : ((k : Int) % 2 == 1) = true := by simp; omega
        obtain ⟨q, rfl⟩ : ∃ q, k = 2 * q + 1 := ⟨k / 2, by omega⟩
        have e1 : b * (2 * q + 1) = 2 * (b * q) + b := by rw [Nat.mul_add, Nat.mul_one, ← Nat.mul_assoc, Nat.mul_comm b 2, Nat.mul_assoc]
        have e2 : (b + b) * q = 2 * (b * q) := by rw [← Nat.two_mul, Nat.mul_assoc]
        have hq : 0 < q → b ≤ b * q := fun h => Nat.le_mul_of_pos_right b h
        have E := hid (And.intro e1 (And.intro e2 hq))
        clear e1 e2 hq
        go_wp2_with fail
        go_round
        case rel => obtain ⟨e1, e2, hq⟩ := unhid E; exact ⟨a + b, b + b, q, by rw [unhid eb], by congr 1 <;> omega, by rw [unhid ea], by omega, by omega, by omega, fun h => by have := hq h; omega⟩
        case measure => simp [intOf]; omega
      · have ho' : ((k : Int) % 2 == 1) = false := by simp; omega
        obtain ⟨q, rfl⟩ : ∃ q, k = 2 * q := ⟨k / 2, by omega⟩
        have e1 : b * (2 * q) = 2 * (b * q) := by rw [← Nat.mul_assoc, Nat.mul_comm b 2, Nat.mul_assoc]
        have e2 : (b + b) * q = 2 * (b * q) := by rw [← Nat.two_mul, Nat.mul_assoc]
        have hq : 0 < q → b ≤ b * q := fun h => Nat.le_mul_of_pos_right b h
        have E := hid (And.intro e1 (And.intro e2 hq))
        clear e1 e2 hq
        go_wp2_with fail
        go_round
        case rel => obtain ⟨e1, e2, hq⟩ := unhid E; exact ⟨a, b + b, q, by rw [unhid eb], by congr 1 <;> omega, rfl, by omega, by omega, by omega, fun h => by have := hq h; omega⟩
        case measure => simp [intOf]; omega
    · have hk0 : ¬ (0 : Int) < k := by omega
      have : k = 0 := by omega
      subst this
      have : a = N := by omega
      subst this
      go_wp2_with fail
      go_ret
      exact ⟨rfl, rfl⟩
theorem row_short2 (w : World) (cs : Array Value) (t : TypeId) (B : Nat) (hB : B = w.heap.size) (h : cs.toList.all shortV = true) (k : Nat) (hk : k < cs.size) : ∃ x, short x ∧ (w.alloc (.cells cs t)).cell? ⟨B, k, none⟩ = some (.string x) := by
  subst hB; exact row_short w cs t h k hk
theorem texts_short (y : ByteArray) (hy : y.size ≤ 100) : (#[Value.string ⟨#[]⟩, .string ⟨#[111, 110, 101, 10]⟩, .string ⟨#[111, 110, 101, 10, 116, 119, 111, 10, 116, 104, 114, 101, 101, 10]⟩, .string ⟨#[110, 111, 32, 101, 110, 100]⟩, .string ⟨#[97, 10, 98, 10, 99, 10, 100, 10, 101, 10, 102, 10, 103, 10]⟩, .string y] : Array Value).toList.all shortV = true := by
  have : decide (y.size ≤ 100) = true := decide_eq_true hy
  simp only [List.all_cons, List.all_nil, Bool.and_true, shortV, this]
  decide
set_option maxRecDepth 100000 in
set_option maxHeartbeats 1000000 in
theorem l11Text_any (w : World) (b : Nat) (a : Option Addr) (len cap p : Nat) (h : Rd w b a len cap p) (hp : p ≤ 1048576) :
    Calls Tryz.prog 229 #[.pointer (some ⟨b, 0, none⟩)] w fun e w' => ∃ x, short x ∧ e = .returned (.string x) ∧ Rd w' b a len cap (p + 1) ∧ w.grownBy w' (some b) := by
  have H := hid h
  clear h
  have hz : (rep ⟨#[116]⟩ 80).size ≤ 100 := by rw [rep_size]; decide
  go_enter Tryz.func229, Tryz.ntmps229
  go_wp2_with fail
  refine (many_rep ⟨#[116]⟩ 80 (by decide) (by omega) w).mono ?_
  rintro e w0 ⟨rfl, rfl⟩
  generalize rep ⟨#[116]⟩ 80 = y at hz
  go_wp2_with fail
  have hb := (unhid H).lt
  refine (of_any short _ b a len cap p ?h1 hp w0.heap.size 6 6 ?h2 (by omega) (by omega) ?h5).mono ?_
  case h1 => exact (unhid H).alloc _
  case h2 => omega
  case h5 => exact fun k hk => row_short w0 _ _ (texts_short y hz) k hk
  rintro e w1 ⟨x, hx, rfl, hR, hG⟩
  have hG' := grown_trans (World.grownBy_alloc w0 _ (some b)) hG
  have HR := hid hR
  have HG := hid hG'
  clear hR hG hG'
  go_wp2_with fail
  go_ret
  exact ⟨x, hx, rfl, unhid HR, unhid HG⟩
end Go.Proofs.YtoljhgkgppjdcaaGreat
