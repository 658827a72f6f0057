/- Texts of this proof, one behind the other; each says at its head what it shows. -/
import Derived.Test.YtoihhlkidlapmaaGreatJoin10
import Derived.Test.YtoihhlkidlapmaaGreatJoin9
import Derived.Test.YtoihhlkidlapmaaGreatJoin2
import Derived.Test.YtoihhlkidlapmaaGreatJoin8
import Derived.Test.YtoihhlkidlapmaaGreatJoin5
import Derived.Test.YtoihhlkidlapmaaGreatJoin1
import Derived.Deep.Draws
import Derived.Laws.AppendOwn
import Derived.RangeFuncBox
import Derived.Test.YtoihhlkidlapmaaGreatJoin7
import Derived.Deep.RegionHeld
import Derived.Lib.Bytes
namespace Go.Proofs.YtoihhlkidlapmaaGreat
open Go.RowKit Go.Shelf
def rootOutC (d : RootD) (q : ByteArray) : Int := if rootOk_0 d = true then outCode q d.packs else 1
def rootOutP (d : RootD) (q : ByteArray) : List packC.D := if rootOk_0 d = true then outP q d.packs else []
def RootOutR (d : RootD) (q : ByteArray) (w : World) (x : Ending) (w' : World) : Prop := ∃ (r : Value) (L : List (It packC)), x = .returned (.tuple #[.agg #[r], .int .i64 (rootOutC d q)]) ∧ NRow packC 34 w' w.heap.size r L ∧ itD L = rootOutP d q ∧ Below w.heap.size w w'
theorem without_place {ps : List packC.D} {q : ByteArray} {i : Nat} (hf : formB ps = true) (hi : (namesP ps)[i]? = some q) : withoutP q ps = ps.take i ++ ps.drop (i + 1) := by
  have ha := form_asc hf
  obtain ⟨p, hp, hpn⟩ := namesP_some hi
  have hil := (List.getElem?_eq_some_iff.1 hp).1
  have hone : ∀ (j : Nat) (x : packC.D), ps[j]? = some x → j ≠ i → (!decide (PackD.name x = q)) = true := fun j x hx hne => by
    simp only [Bool.not_eq_true', decide_eq_false_iff_not]
    intro e
    have := namesP_get hx
    rw [e] at this
    exact hne (asc_inj ha this hi)
  have hsp : ps = ps.take i ++ (p :: ps.drop (i + 1)) := by
    have h1 : ps.drop i = p :: ps.drop (i + 1) := by
      rw [List.drop_eq_getElem_cons hil]
      congr 1
      have := List.getElem?_eq_getElem hil
      rw [hp] at this
      exact (Option.some.inj this).symm
    rw [← h1, List.take_append_drop]
  have e1 : List.filter (α := packC.D) (fun p => !decide (PackD.name p = q)) (ps.take i) = ps.take i := List.filter_eq_self.2 (fun x hx => by
    obtain ⟨j, hj⟩ := List.getElem?_of_mem hx
    have hji : j < i := by have := (List.getElem?_eq_some_iff.1 hj).1; rw [List.length_take] at this; omega
    rw [List.getElem?_take_of_lt hji] at hj
    exact hone j x hj (by omega))
  have e2 : List.filter (α := packC.D) (fun p => !decide (PackD.name p = q)) (ps.drop (i + 1)) = ps.drop (i + 1) := List.filter_eq_self.2 (fun x hx => by
    obtain ⟨j, hj⟩ := List.getElem?_of_mem hx
    rw [List.getElem?_drop] at hj
    exact hone _ x hj (by omega))
  have e3 : List.filter (α := packC.D) (fun p => !decide (PackD.name p = q)) (p :: ps.drop (i + 1)) = ps.drop (i + 1) := by
    rw [List.filter_cons_of_neg (by simp [hpn]), e2]
  have : withoutP q ps = List.filter (α := packC.D) (fun p => !decide (PackD.name p = q)) (ps.take i ++ (p :: ps.drop (i + 1))) := by unfold withoutP; rw [← hsp]
  rw [this, List.filter_append, e1, e3]
theorem ok_form {ps : List packC.D} (h : rootCode ps = 0) : formB ps = true := by
  cases hf : formB ps with
  | true => rfl
  | false => rw [code_form hf] at h; cases h
theorem ok_len {ps : List packC.D} (h : rootCode ps = 0) : ps.length ≤ 5 := by
  rcases Nat.lt_or_ge 5 ps.length with hl | hl
  · rw [code_full (ok_form h) (by omega)] at h; cases h
  · exact hl
set_option maxRecDepth 100000 in
set_option maxHeartbeats 8000000 in
theorem implRootOut_any (d : RootD) (a1 : Option Addr) (c1 : Nat) (q : ByteArray) (w : World) (hs : smallPs d.packs) (hp : rowAt packC w (.slice a1 d.packs.length c1) d.packs) :
    Calls Tryz.prog 39 #[.agg #[.slice a1 d.packs.length c1], .string q] w (RootOutR d q w) := by
  have HP := hid hp
  clear hp
  go_enter Tryz.func39, Tryz.ntmps39
  go_wp2_with fail
  obtain ⟨hP, hR, hS, hB⟩ := two_boxesP w (.cells #[.slice a1 d.packs.length c1] 51) (.cells #[.slice none 0 0] 51)
  generalize (w.alloc (.cells #[.slice a1 d.packs.length c1] 51)).alloc (.cells #[.slice none 0 0] 51) = W0 at hP hR hS hB ⊢
  have o0 := cell_arrS hP 0 _ rfl
  go_wp2_with fail
  refine (implRootOk_any d a1 c1 W0 hs ((unhid HP).below hB)).mono ?_
  rintro x w2 ⟨rfl, hb⟩
  clear o0
  have hP2 := (hb.block _ (by omega)).trans hP
  have hR2 := (hb.block _ hS).trans hR
  have hS2 : w.heap.size + 1 < w2.heap.size := Nat.lt_of_lt_of_le hS hb.size
  have hB2 := hB.trans (hb.mono hB.size)
  clear hb hP hR hB hS
  obtain ⟨o0, p0⟩ := cell_fz hP2 0 _ rfl
  obtain ⟨o1, p1⟩ := cell_fz hR2 0 _ rfl
  have HB := hid hB2
  cases hok : rootOk_0 d with
  | false =>
    have HE := hid hok
    clear hP2 hR2 hB2 hS2
    go_wp2_with fail
    exact bodyPost_ret (v := .tuple #[.agg #[.slice none 0 0], .int .i64 1]) (by simp [results, Tryz.results39, go_sem, World.cell?_setCell_same', o1]) rfl ⟨_, [], by unfold rootOutC; rw [unhid HE]; rfl, NRow.none _ _, by unfold rootOutP; rw [unhid HE]; rfl, (unhid HB).setCell (by dsimp only; omega) _⟩
  | true =>
    have HE := hid hok
    have hrc := rootOk_yes hok
    have HF := hid (ok_form hrc)
    have hlen := ok_len hrc
    have JN := hid (packPlace_any d.packs _ q w2 hs.1 (form_asc (unhid HF)) ((unhid HP).below hB2))
    clear o1 p1
    go_wp2_with fail
    refine (unhid JN).mono ?_
    rintro x w3 ⟨rfl, hb3⟩
    clear JN o0 p0
    have hP3 := (hb3.block _ (by omega)).trans hP2
    have hR3 := (hb3.block _ hS2).trans hR2
    have hS3 : w.heap.size + 1 < w3.heap.size := Nat.lt_of_lt_of_le hS2 hb3.size
    have hB3 := hB2.trans (hb3.mono hB2.size)
    clear hP2 hR2 hS2 hB2 hb3 HB
    obtain ⟨o0, p0⟩ := cell_fz hP3 0 _ rfl
    have HB := hid hB3
    have HS3 := hid hS3
    have HR3 := hid hR3
    cases hth : thereP (namesP d.packs) q with
    | false =>
      have hno2 : ¬ hasBN q d.packs = true := fun e => there_no (form_asc (unhid HF)) hth ((hasB_iffN q _).1 e)
      have HX := hid (show 3 = rootOutC d q ∧ d.packs = rootOutP d q from ⟨by unfold rootOutC outCode; rw [if_pos hok, if_neg hno2], by unfold rootOutP outP; rw [if_pos hok, if_neg hno2]⟩)
      have JN := hid (cloneRoot_any d.packs _ w3 hs ((unhid HP).below hB3))
      clear hno2 hP3 hR3 hB3 hS3
      go_wp2_with fail
      refine (unhid JN).mono ?_
      rintro x w4 ⟨r, L', rfl, hN4, hL4, hb4⟩
      obtain ⟨rb, rd, rfl⟩ := nrow_slice hN4
      obtain ⟨o1, p1⟩ := cell_fz ((hb4.block _ (unhid HS3)).trans (unhid HR3)) 0 _ rfl
      have HN4 := hid hN4
      have HL4 := hid hL4
      have HB4 := hid ((unhid HB).trans (hb4.mono (unhid HB).size))
      clear hN4 hL4 hb4 JN
      go_wp2_with fail
      refine bodyPost_ret (v := .tuple #[.agg #[.slice rb L'.length rd], .int .i64 3]) (by simp [results, Tryz.results39, go_sem, World.cell?_setCell_same', o1]) rfl ⟨_, L', by rw [← (unhid HX).1], NRow.lower (N := w3.heap.size) ((unhid HN4).frame (fun k hk => Below.heap_setCell _ _ _ _ ?_)) (by have := (unhid HB).size; omega), by rw [unhid HL4]; exact (unhid HX).2, (unhid HB4).setCell (by dsimp only; omega) _⟩
      have := ((unhid HN4).base k hk).1
      have := unhid HS3
      dsimp only
      omega
    | true =>
      have hm := thereT_mem hth
      have hyes : hasBN q d.packs = true := (hasB_iffN q _).2 (List.mem_of_getElem? hm)
      have hwp := without_place (unhid HF) hm
      have hil : placeP (namesP d.packs) q < d.packs.length := by have := (List.getElem?_eq_some_iff.1 hm).1; rwa [namesP_len] at this
      generalize placeP (namesP d.packs) q = i at *
      have HX := hid (show rootCode (d.packs.take i ++ d.packs.drop (i + 1)) = rootOutC d q ∧ tryP d.packs (d.packs.take i ++ d.packs.drop (i + 1)) = rootOutP d q from ⟨by unfold rootOutC outCode; rw [if_pos hok, if_pos hyes, hwp], by unfold rootOutP outP; rw [if_pos hok, if_pos hyes, hwp]⟩)
      have hC0 : OutW w3 w.heap.size w3.drew := ⟨⟨rfl, rfl, rfl, Nat.le_refl _, fun _ _ => rfl⟩, _, hR3⟩
      have HC0 := hid hC0
      clear hm hyes hwp hth hP3 hR3 hB3 hS3
      go_wp2_with fail
      have gq0 : ∀ x : CW (OutW w3 w.heap.size), x.w.cell? ⟨w.heap.size, 0, none⟩ = some (.slice a1 d.packs.length c1) := fun x => (x.h.1.cell (p := ⟨w.heap.size, 0, none⟩) (by dsimp only; omega)).trans o0
      have hba : ∀ {q : Prop}, (CW (OutW w3 w.heap.size) → q) ↔ q := CW.all hC0
      refine held_begin (OutW w3 w.heap.size) (by kernel_rfl) hC0 ?_
      refine held_here [true, true, true, false, true, true, true] (by kernel_rfl) (by kernel_rfl) (fun _ _ _ _ _ h => h) hC0 ?_
      dsimp only [pick]
      repeat (go_big_quiet_step (fail))
      refine wpQuiet_nil ?_
      clear hba gq0 hC0 o0 p0
      have hs0 : w.heap.size + 1 < w3.drew.heap.size := unhid HS3
      have hbd : Below w.heap.size w w3.drew := (unhid HB).trans ⟨rfl, rfl, rfl, Nat.le_refl _, fun _ _ => rfl⟩
      clear HR3
      generalize w3.drew = w4 at *
      refine held_call 3 89 26 (enters_of Tryz.func89 (by kernel_rfl) rfl) #[.slice a1 d.packs.length c1] (by kernel_rfl) (by kernel_rfl) rfl rfl rfl rfl rfl ?_
      refine (clonePacks_any d.packs _ w4 hs ((unhid HP).below hbd)).mono ?_
      rintro x w5 ⟨v5, L, rfl, hN5, hL5, hb5⟩
      have hC5 := (unhid HC0).next hs0 hb5
      have hs5 := Nat.lt_of_lt_of_le hs0 hb5.size
      have hB5 := hbd.trans (hb5.mono hbd.size)
      have hL5l : L.length = d.packs.length := by rw [← hL5, itD_len]
      refine ⟨_, rfl, hC5, ?_⟩
      simp only [Act.put, List.setIfInBounds_toArray, List.set_cons_zero, List.set_cons_succ]
      refine held_call 7 88 30 (enters_of Tryz.func88 (by kernel_rfl) rfl) #[v5, .int .i64 (i : Int), .int .i64 ((i + 1 : Nat) : Int)] (by kernel_rfl) (by kernel_rfl) rfl rfl rfl rfl (by simp [Act.eval]) ?_
      refine (Delete_any L v5 i w5 w4.heap.size (by omega) hN5).mono ?_
      rintro x w6 ⟨v6, rfl, hN6, hg6, _⟩
      have hb6 : Below w4.heap.size w5 w6 := (Below.refl _ w5).grown hg6 hb5.size (fun k hk => (hN5.base k (.inl hk)).1)
      have hb46 : Below w4.heap.size w4 w6 := hb5.trans hb6
      have hC6 := (unhid HC0).next hs0 hb46
      have hs6 := Nat.lt_of_lt_of_le hs0 hb46.size
      have hB6 := hbd.trans (hb46.mono hbd.size)
      have hD6 : itD (L.take i ++ L.drop (i + 1)) = d.packs.take i ++ d.packs.drop (i + 1) := by rw [itD_app, itD_take, itD_drop, hL5]
      have hs2 : smallPs (itD (L.take i ++ L.drop (i + 1))) := by
        rw [hD6]
        refine ⟨by rw [List.length_append, List.length_take, List.length_drop]; have := hs.1; omega, fun p hp => ?_⟩
        rcases List.mem_append.1 hp with hp | hp
        · exact hs.2 p (List.mem_of_mem_take hp)
        · exact hs.2 p (List.mem_of_mem_drop hp)
      refine ⟨_, rfl, hC6, ?_⟩
      simp only [Act.put, List.setIfInBounds_toArray, List.set_cons_zero, List.set_cons_succ]
      refine held_call 8 87 31 (enters_of Tryz.func87 (by kernel_rfl) rfl) #[.agg #[.slice a1 d.packs.length c1], v6] (by kernel_rfl) (by kernel_rfl) rfl rfl rfl rfl rfl ?_
      refine (turnRoot_any d.packs _ (L.take i ++ L.drop (i + 1)) v6 w6 w4.heap.size hb46.size hs hs2 ((unhid HP).below hB6) hN6).mono ?_
      rintro x w7 ⟨r7, L', rfl, hN7, hL7, hb7⟩
      obtain ⟨rb, rd, rfl⟩ := nrow_slice hN7
      have hC7 := hC6.next hs6 hb7
      have hB7 := hB6.trans (hb7.mono hB6.size)
      rw [hD6] at hL7 ⊢
      rw [(unhid HX).1]
      have HN7 := hid hN7
      have HL7 := hid (hL7.trans (unhid HX).2)
      have HB7 := hid hB7
      have HS4 := hid hs0
      have HBD := hid hbd
      generalize hoc : rootOutC d q = oc
      have HOC := hid hoc
      refine ⟨_, rfl, hC7, ?_⟩
      simp only [Act.put, List.setIfInBounds_toArray, List.set_cons_zero, List.set_cons_succ]
      clear hoc hs0 hbd HC0 hN5 hL5 hb5 hC5 hs5 hB5 hL5l hN6 hg6 hb6 hb46 hC6 hs6 hB6 hD6 hs2 hN7 hL7 hb7 hB7 HX
      have hba : ∀ {q : Prop}, (CW (OutW w3 w.heap.size) → q) ↔ q := CW.all hC7
      refine held_here [false, false, false, false, false, false, false, false, false, true, true] (by kernel_rfl) (by kernel_rfl) (fun _ _ _ _ _ h => h) hC7 ?_
      dsimp only [pick]
      repeat (go_big_quiet_step (fail))
      refine wpQuiet_nil ?_
      obtain ⟨z, hz⟩ := hC7.2
      obtain ⟨o1, p1⟩ := cell_fz hz 0 _ rfl
      have hC8 := hC7.store (.slice rb L'.length rd)
      clear hba
      refine held_op 11 (by kernel_rfl) (by kernel_rfl) rfl (fun K hK => ?_)
      go_simp
      refine hK.out _ _ hC8 ?_
      clear hK K
      have hba : ∀ {q : Prop}, (CW (OutW w3 w.heap.size) → q) ↔ q := CW.all hC8
      refine held_here [false, false, false, false, false, false, false, false, false, false, false, false, true] (by kernel_rfl) (by kernel_rfl) (fun _ _ _ _ _ h => h) hC8 ?_
      dsimp only [pick]
      repeat (go_big_quiet_step (fail))
      refine wpQuiet_nil ?_
      clear hba
      refine held_done (by kernel_rfl) ?_
      go_wp2_with fail
      refine bodyPost_ret (v := .tuple #[.agg #[.slice rb L'.length rd], .int .i64 oc]) (by simp [results, Tryz.results39, go_sem, World.cell?_setCell_same', o1]) rfl ⟨_, L', by rw [unhid HOC], NRow.lower (N := w4.heap.size) ((unhid HN7).frame (fun k hk => Below.heap_setCell _ _ _ _ ?_)) (by have := (unhid HBD).size; omega), unhid HL7, (unhid HB7).setCell (by dsimp only; omega) _⟩
      have := ((unhid HN7).base k hk).1
      have := unhid HS4
      dsimp only
      omega
end Go.Proofs.YtoihhlkidlapmaaGreat

namespace Go.Proofs.YtoihhlkidlapmaaGreat
open Go.RowKit Go.Shelf
end Go.Proofs.YtoihhlkidlapmaaGreat

namespace Go.Proofs.YtoihhlkidlapmaaGreat
open Go.RowKit Go.Shelf
def inCode (p : packC.D) (ps : List packC.D) : Int := if pkOk p = true then (if hasBN (PackD.name p) ps = true then 2 else rootCode (withP p ps)) else 1
def inP (p : packC.D) (ps : List packC.D) : List packC.D := if pkOk p = true then (if hasBN (PackD.name p) ps = true then ps else tryP ps (withP p ps)) else ps
theorem with_small {p : packC.D} {ps : List packC.D} (h : smallPs ps) (hl : ps.length ≤ 1000) (hp : smallP p) : smallPs (withP p ps) := by
  refine ⟨by unfold withP; rw [List.length_append, List.length_cons, List.length_take, List.length_drop]; omega, fun x hx => ?_⟩
  unfold withP at hx
  rcases List.mem_append.1 hx with hx | hx
  · exact h.2 x (List.mem_of_mem_take hx)
  · rcases List.mem_cons.1 hx with rfl | hx
    · exact hp
    · exact h.2 x (List.mem_of_mem_drop hx)
set_option maxRecDepth 100000 in
set_option maxHeartbeats 4000000 in
theorem l9In_any (L : List (It packC)) (u : Value) (p : packC.D) (cs : List Value) (w : World) (N : Nat) (hN : N ≤ w.heap.size) (hs : smallPs (itD L)) (hlen : L.length ≤ 1000) (hps : smallP p) (hp : NRow packC 34 w N u L) (hcp : packC.at_ w cs p) :
    Calls Tryz.prog 97 #[.agg #[u], .agg cs.toArray] w fun x w' => ∃ (r : Value) (L' : List (It packC)), x = .returned (.tuple #[.agg #[r], .int .i64 (inCode p (itD L))]) ∧ NRow packC 34 w' N r L' ∧ itD L' = inP p (itD L) ∧ Below w.heap.size w w' := by
  obtain ⟨v2, v3, rfl, p2, p3⟩ := packC_at hcp
  obtain ⟨na, nc, rfl, -⟩ := rowAt.slice p2
  obtain ⟨ta, tc, rfl, -⟩ := rowAt.slice p3
  obtain ⟨a1, c1, rfl⟩ := nrow_slice hp
  have HCP := hid hcp
  have HP := hid hp
  have HA := hid (show rowAt packC w (.slice a1 L.length c1) (itD L) from by obtain ⟨F, h1, _⟩ := hp.own; exact h1.toAt)
  have HS := hid hs
  have hln := itD_len L
  have HLEN := hid (show (itD L).length ≤ 1000 by omega)
  generalize hpss : itD L = ps at *
  have HPS := hid hpss
  clear hp hpss hcp p2 p3
  go_enter Tryz.func97, Tryz.ntmps97
  go_wp2_with fail
  obtain ⟨hP, hQ, hR, hS, hB⟩ := three_boxes w (.cells #[.slice a1 L.length c1] 51) (.cells #[.string (PackD.name p), .string (PackD.version p), .slice na (PackD.needs p).length nc, .slice ta (PackD.tree p).length tc] 34) (.cells #[.slice none 0 0] 51)
  generalize ((w.alloc (.cells #[.slice a1 L.length c1] 51)).alloc (.cells #[.string (PackD.name p), .string (PackD.version p), .slice na (PackD.needs p).length nc, .slice ta (PackD.tree p).length tc] 34)).alloc (.cells #[.slice none 0 0] 51) = W0 at hP hQ hR hS hB ⊢
  have q0 := cell_arrS hQ 0 _ rfl
  have q1 := cell_arrS hQ 1 _ rfl
  have q2 := cell_arrS hQ 2 _ rfl
  have q3 := cell_arrS hQ 3 _ rfl
  go_wp2_with fail
  refine (specPackOk_any p _ W0 hps (packC.below (unhid HCP) hB)).mono ?_
  rintro x w1 ⟨rfl, hb⟩
  clear q0 q1 q2 q3
  have hP1 := (hb.block _ (by omega)).trans hP
  have hQ1 := (hb.block _ (by omega)).trans hQ
  have hR1 := (hb.block _ hS).trans hR
  have hS1 : w.heap.size + 1 + 1 < w1.heap.size := Nat.lt_of_lt_of_le hS hb.size
  have hB1 := hB.trans (hb.mono hB.size)
  clear hb hP hQ hR hB hS
  obtain ⟨o0, p0⟩ := cell_fz hP1 0 _ rfl
  obtain ⟨o1, p1⟩ := cell_fz hR1 0 _ rfl
  have q0 := cell_arrS hQ1 0 _ rfl
  cases hok : pkOk p with
  | false =>
    have HE := hid (show 1 = inCode p ps ∧ ps = inP p ps from ⟨by unfold inCode; rw [hok]; rfl, by unfold inP; rw [hok]; rfl⟩)
    have HB := hid hB1
    clear hP1 hQ1 hR1 hB1 hok
    go_wp2_with fail
    refine bodyPost_ret (v := .tuple #[.agg #[.slice a1 L.length c1], .int .i64 1]) (by simp [results, Tryz.results97, go_sem, World.cell?_setCell_same', o1]) rfl ⟨_, L, by rw [← (unhid HE).1], ?_, by rw [unhid HPS]; exact (unhid HE).2, (unhid HB).setCell (by dsimp only; omega) _⟩
    refine (unhid HP).frame (fun k hk => ?_)
    have h1 := ((unhid HP).base k hk).2
    rw [Below.heap_setCell _ _ _ _ (by dsimp only; omega), (unhid HB).block k h1]
  | true =>
    go_wp2_with fail
    refine (l8Pack_any ps _ (PackD.name p) w1 hs.1 ((unhid HA).below hB1)).mono ?_
    rintro x w2 ⟨⟨r, rfl, hr⟩, hb⟩
    clear o0 p0 o1 p1 q0
    have hP2 := (hb.block _ (by omega)).trans hP1
    have hQ2 := (hb.block _ (by omega)).trans hQ1
    have hR2 := (hb.block _ hS1).trans hR1
    have hS2 : w.heap.size + 1 + 1 < w2.heap.size := Nat.lt_of_lt_of_le hS1 hb.size
    have hB2 := hB1.trans (hb.mono hB1.size)
    clear hb hP1 hQ1 hR1 hB1 hS1 hs
    obtain ⟨o0, p0⟩ := cell_fz hP2 0 _ rfl
    obtain ⟨o1, p1⟩ := cell_fz hR2 0 _ rfl
    rcases hr with ⟨rfl, hno⟩ | ⟨k, rfl, hyes⟩
    · have hno2 : ¬ hasBN (PackD.name p) ps = true := fun e => hno ((hasB_iffN _ ps).1 e)
      have HE := hid (show rootCode (withP p ps) = inCode p ps ∧ tryP ps (withP p ps) = inP p ps from ⟨by unfold inCode; rw [if_pos hok, if_neg hno2], by unfold inP; rw [if_pos hok, if_neg hno2]⟩)
      clear hno hno2 hok
      have HB := hid hB2
      have hC0 : OutW w2 (w.heap.size + 1) w2.drew := ⟨⟨rfl, rfl, rfl, Nat.le_refl _, fun _ _ => rfl⟩, _, hR2⟩
      have HC0 := hid hC0
      have HS2 := hid hS2
      clear hR2 hB2 o1 p1 hP2
      go_wp2_with fail
      have gq0 : ∀ x : CW (OutW w2 (w.heap.size + 1)), x.w.cell? ⟨w.heap.size, 0, none⟩ = some (.slice a1 L.length c1) := fun x => (x.h.1.cell (p := ⟨w.heap.size, 0, none⟩) (by dsimp only; omega)).trans o0
      have gp0 : ∀ x : CW (OutW w2 (w.heap.size + 1)), x.w.cell? ⟨w.heap.size + 1, 0, none⟩ = some (.string (PackD.name p)) := fun x => cell_arrS ((x.h.1.block _ (by omega)).trans hQ2) 0 _ rfl
      have gp1 : ∀ x : CW (OutW w2 (w.heap.size + 1)), x.w.cell? ⟨w.heap.size + 1, 1, none⟩ = some (.string (PackD.version p)) := fun x => cell_arrS ((x.h.1.block _ (by omega)).trans hQ2) 1 _ rfl
      have gp2 : ∀ x : CW (OutW w2 (w.heap.size + 1)), x.w.cell? ⟨w.heap.size + 1, 2, none⟩ = some (.slice na (PackD.needs p).length nc) := fun x => cell_arrS ((x.h.1.block _ (by omega)).trans hQ2) 2 _ rfl
      have gp3 : ∀ x : CW (OutW w2 (w.heap.size + 1)), x.w.cell? ⟨w.heap.size + 1, 3, none⟩ = some (.slice ta (PackD.tree p).length tc) := fun x => cell_arrS ((x.h.1.block _ (by omega)).trans hQ2) 3 _ rfl
      have hba : ∀ {q : Prop}, (CW (OutW w2 (w.heap.size + 1)) → q) ↔ q := CW.all hC0
      refine held_begin (OutW w2 (w.heap.size + 1)) (by kernel_rfl) hC0 ?_
      refine held_here [true, true, true, true] (by kernel_rfl) (by kernel_rfl) (fun _ _ _ _ _ h => h) hC0 ?_
      dsimp only [pick]
      repeat (go_big_quiet_step (fail))
      refine wpQuiet_nil ?_
      clear hba gq0 gp0 gp1 gp2 gp3 hC0 o0 p0 hQ2
      have hs0 : w.heap.size + 1 + 1 < w2.drew.heap.size := unhid HS2
      have hbd : Below w.heap.size w w2.drew := (unhid HB).trans ⟨rfl, rfl, rfl, Nat.le_refl _, fun _ _ => rfl⟩
      have HBD := hid hbd
      have HSW := hid hs0
      generalize w2.drew = w3 at *
      have hsL : L.length ≤ 1048576 := by have := (unhid HS).1; omega
      have hPd : NRow packC 34 w3 N (.slice a1 L.length c1) L := (unhid HP).frame (fun k hk => hbd.block k ((unhid HP).base k hk).2)
      refine held_call 4 159 23 (enters_of Tryz.func159 (by kernel_rfl) rfl) #[.slice a1 L.length c1, .agg #[.string (PackD.name p), .string (PackD.version p), .slice na (PackD.needs p).length nc, .slice ta (PackD.tree p).length tc]] (by kernel_rfl) (by kernel_rfl) rfl rfl rfl rfl rfl ?_
      refine (l9With_any L _ p _ w3 N (Nat.le_trans hN hbd.size) hsL hps hPd (packC.below (unhid HCP) hbd)).mono ?_
      rintro x w4 ⟨v4, L4, rfl, hN4, hD4, hW4, hb⟩
      have hC4 := (unhid HC0).next hs0 hb
      have hs4 := Nat.lt_of_lt_of_le hs0 hb.size
      have hb4 := hbd.trans (hb.mono hbd.size)
      have hat : rowAt packC w4 v4 (withP p ps) := by
        obtain ⟨F, h1, _⟩ := hN4.own
        have := h1.toAt
        rwa [hD4, unhid HPS] at this
      refine ⟨_, rfl, hC4, ?_⟩
      simp only [Act.put, List.setIfInBounds_toArray, List.set_cons_zero, List.set_cons_succ]
      refine held_call 5 145 24 (enters_of Tryz.func145 (by kernel_rfl) rfl) #[.agg #[.slice a1 L.length c1], v4] (by kernel_rfl) (by kernel_rfl) rfl rfl rfl rfl rfl ?_
      refine (l9Try_any (withP p ps) a1 L.length c1 v4 w4 (with_small (unhid HS) (unhid HLEN) hps) hat).mono ?_
      rintro x w5 ⟨r5, rfl, hat5, hb5⟩
      obtain ⟨ra, rn, rc, hr5⟩ : ∃ ra rn rc, r5 = .slice ra rn rc := by
        rcases hat5 with ⟨_, rfl⟩ | ⟨_, rfl⟩
        · obtain ⟨x, y, rfl⟩ := nrow_slice hN4
          exact ⟨_, _, _, rfl⟩
        · exact ⟨_, _, _, rfl⟩
      have hfin : ∃ L', itD L' = tryP ps (withP p ps) ∧ ∀ z, NRow packC 34 (w5.setCell ⟨w.heap.size + 1 + 1, 0, none⟩ z) N r5 L' := by
        rcases hat5 with ⟨h0, rfl⟩ | ⟨h0, rfl⟩
        · refine ⟨L4, by rw [hD4, unhid HPS]; unfold tryP; rw [if_pos h0], fun z => hN4.frame (fun k hk => ?_)⟩
          have hl := (hN4.base k hk).2
          rw [Below.heap_setCell _ _ _ _ ?_, hb5.block k hl]
          dsimp only
          have hw3s : w.heap.size + 1 + 1 < w3.heap.size := unhid HSW
          rcases hW4 k hk with hk | hk
          · have h2 := (unhid HP).items.lt k hk
            omega
          · omega
        · refine ⟨L, by rw [unhid HPS]; unfold tryP; rw [if_neg h0], fun z => (unhid HP).frame (fun k hk => ?_)⟩
          have hl := ((unhid HP).base k hk).2
          rw [Below.heap_setCell _ _ _ _ (by dsimp only; omega), hb5.block k (Nat.lt_of_lt_of_le hl hb4.size), hb4.block k hl]
      subst hr5
      have HFIN := hid hfin
      clear hfin
      have hC5 := hC4.next hs4 hb5
      have hB5 := hb4.trans (hb5.mono hb4.size)
      refine ⟨_, rfl, hC5, ?_⟩
      simp only [Act.put, List.setIfInBounds_toArray, List.set_cons_zero, List.set_cons_succ]
      have HB5 := hid hB5
      clear hs0 hbd HBD HC0 hat hb hC4 hs4 hb4 hat5 hb5 hB5 HB hPd hN4 hW4 hD4 HSW
      have hba : ∀ {q : Prop}, (CW (OutW w2 (w.heap.size + 1)) → q) ↔ q := CW.all hC5
      refine held_here [false, false, false, false, false, false, true, true] (by kernel_rfl) (by kernel_rfl) (fun _ _ _ _ _ h => h) hC5 ?_
      dsimp only [pick]
      repeat (go_big_quiet_step (fail))
      refine wpQuiet_nil ?_
      obtain ⟨z, hz⟩ := hC5.2
      obtain ⟨o1, p1⟩ := cell_fz hz 0 _ rfl
      have hC6 := hC5.store (.slice ra rn rc)
      clear hba
      refine held_op 8 (by kernel_rfl) (by kernel_rfl) rfl (fun K hK => ?_)
      go_simp
      refine hK.out _ _ hC6 ?_
      clear hK K
      have hba : ∀ {q : Prop}, (CW (OutW w2 (w.heap.size + 1)) → q) ↔ q := CW.all hC6
      refine held_here [false, false, false, false, false, false, false, false, false, true] (by kernel_rfl) (by kernel_rfl) (fun _ _ _ _ _ h => h) hC6 ?_
      dsimp only [pick]
      repeat (go_big_quiet_step (fail))
      refine wpQuiet_nil ?_
      clear hba
      refine held_done (by kernel_rfl) ?_
      go_wp2_with fail
      obtain ⟨L', h1, h2⟩ := unhid HFIN
      exact bodyPost_ret (v := .tuple #[.agg #[.slice ra rn rc], .int .i64 (rootCode (withP p ps))]) (by simp [results, Tryz.results97, go_sem, World.cell?_setCell_same', o1]) rfl ⟨_, L', by rw [← (unhid HE).1], h2 _, by rw [h1]; exact (unhid HE).2, (unhid HB5).setCell (by dsimp only; omega) _⟩
    · have hm : hasBN (PackD.name p) ps = true := (hasB_iffN _ ps).2 (List.mem_of_getElem? hyes)
      have HE := hid (show 2 = inCode p ps ∧ ps = inP p ps from ⟨by unfold inCode; rw [if_pos hok, if_pos hm], by unfold inP; rw [if_pos hok, if_pos hm]⟩)
      have HB := hid hB2
      clear hyes hm hP2 hQ2 hR2 hB2 hok
      go_wp2_with fail
      refine bodyPost_ret (v := .tuple #[.agg #[.slice a1 L.length c1], .int .i64 2]) (by simp [results, Tryz.results97, go_sem, World.cell?_setCell_same', o1]) rfl ⟨_, L, by rw [← (unhid HE).1], ?_, by rw [unhid HPS]; exact (unhid HE).2, (unhid HB).setCell (by dsimp only; omega) _⟩
      refine (unhid HP).frame (fun k hk => ?_)
      have h1 := ((unhid HP).base k hk).2
      rw [Below.heap_setCell _ _ _ _ (by dsimp only; omega), (unhid HB).block k h1]
end Go.Proofs.YtoihhlkidlapmaaGreat

namespace Go.Proofs.YtoihhlkidlapmaaGreat
open Go.RowKit Go.Shelf
end Go.Proofs.YtoihhlkidlapmaaGreat

namespace Go.Proofs.YtoihhlkidlapmaaGreat
open Go.RowKit Go.Shelf
end Go.Proofs.YtoihhlkidlapmaaGreat

namespace Go.Proofs.YtoihhlkidlapmaaGreat
open Go.RowKit Go.Shelf
end Go.Proofs.YtoihhlkidlapmaaGreat

namespace Go.Proofs.YtoihhlkidlapmaaGreat
open Go.RowKit Go.Shelf
end Go.Proofs.YtoihhlkidlapmaaGreat

namespace Go.Proofs.YtoihhlkidlapmaaGreat
open Go.RowKit Go.Shelf
end Go.Proofs.YtoihhlkidlapmaaGreat

namespace Go.Proofs.YtoihhlkidlapmaaGreat
open Go.RowKit Go.Shelf
end Go.Proofs.YtoihhlkidlapmaaGreat

namespace Go.Proofs.YtoihhlkidlapmaaGreat
open Go.RowKit Go.Shelf
end Go.Proofs.YtoihhlkidlapmaaGreat

namespace Go.Proofs.YtoihhlkidlapmaaGreat
open Go.RowKit Go.Shelf
def AscP (ps : List packC.D) : Prop := List.Pairwise (α := packC.D) (fun p q => ltS (PackD.name p) (PackD.name q) = true) ps
theorem ltS_irr (x : ByteArray) : ltS x x = false := lt_irr _
theorem ltS_ne {x y : ByteArray} (h : ltS x y = true) : x ≠ y := fun e => by rw [e, ltS_irr] at h; cases h
theorem ascP_iff (ps : List packC.D) : AscP ps ↔ Asc (namesP ps) := by
  unfold AscP
  rw [List.pairwise_iff_getElem]
  constructor
  · intro h i j x y hij hx hy
    obtain ⟨p, hp, rfl⟩ := namesP_some hx
    obtain ⟨q, hq, rfl⟩ := namesP_some hy
    obtain ⟨h1, e1⟩ := List.getElem?_eq_some_iff.1 hp
    obtain ⟨h2, e2⟩ := List.getElem?_eq_some_iff.1 hq
    have := h i j h1 h2 hij
    rwa [e1, e2] at this
  · intro h i j h1 h2 hij
    exact h i j _ _ hij (namesP_get (List.getElem?_eq_getElem h1)) (namesP_get (List.getElem?_eq_getElem h2))
theorem form_iff (ps : List packC.D) : formB ps = true ↔ (∀ p ∈ ps, pkOk p = true) ∧ AscP ps := by
  constructor
  · intro h
    refine ⟨fun p hp => ?_, (ascP_iff ps).2 (form_asc h)⟩
    obtain ⟨i, hi⟩ := List.getElem?_of_mem hp
    exact form_ok h hi
  · rintro ⟨h1, h2⟩
    unfold formB
    rw [List.all_eq_true]
    intro i hi
    rw [List.mem_range] at hi
    have hi' := List.getElem?_eq_getElem hi
    match i with
    | 0 => rw [okAt_0 hi']; exact h1 _ (List.getElem_mem hi)
    | i + 1 =>
      have hq := List.getElem?_eq_getElem (show i < ps.length from Nat.lt_of_succ_lt hi)
      rw [okAt_s hi' hq, h1 _ (List.getElem_mem hi), Bool.true_and]
      exact List.pairwise_iff_getElem.1 h2 i (i + 1) (Nat.lt_of_succ_lt hi) hi (Nat.lt_succ_self i)
theorem name_mem {ps : List packC.D} {q : ByteArray} : q ∈ namesP ps ↔ ∃ p ∈ ps, PackD.name p = q := by
  unfold namesP
  rw [List.mem_map]
def Mates (ps : List packC.D) : Prop := List.Pairwise (α := packC.D) (fun p q => Compat (treeOfP p) (treeOfP q)) ps
theorem up_fits {xs ys : List Ent} (hx : Up xs) (hy : Up ys) (h : ∀ x ∈ xs, x ∈ ys) : xs.length ≤ ys.length := by
  classical
  have : xs = ys.filter fun y => decide (y ∈ xs) := up_ext hx (List.Pairwise.filter _ hy) (fun x => by
    rw [List.mem_filter]
    simp only [decide_eq_true_eq]
    exact ⟨fun hm => ⟨h x hm, hm⟩, fun hm => hm.2⟩)
  rw [this]
  exact List.length_filter_le _ _
def Fits (U acc : List Ent) (ps : List packC.D) : Prop := Up U ∧ U.length ≤ 16 ∧ (∀ x ∈ acc, x ∈ U) ∧ ∀ p ∈ ps, ∀ x ∈ treeOfP p, x ∈ U
theorem join_tree {acc T : List Ent} (ha : treeB acc = true) (hT : treeB T = true) (hc : Compat acc T) (hl : (joinTo acc T).length ≤ 16) : treeB (joinTo acc T) = true := by
  obtain ⟨a1, a2, a3, a4⟩ := (tree_iff acc).1 ha
  obtain ⟨t1, t2, t3, t4⟩ := (tree_iff T).1 hT
  have hm := ((join_iff T acc a2 t2 a1 t1).2 hc).1
  have hdir : ∀ q, DirIn acc q ∨ DirIn T q → DirIn (joinTo acc T) q := fun q h => by
    rcases h with (h | ⟨x, hx, h2⟩) | (h | ⟨x, hx, h2⟩)
    · exact .inl h
    · exact .inr ⟨x, (hm x).2 (.inl hx), h2⟩
    · exact .inl h
    · exact .inr ⟨x, (hm x).2 (.inr hx), h2⟩
  refine (tree_iff _).2 ⟨fun x hx => ?_, joinTo_up a2 T, fun x hx => ?_, hl⟩
  · rcases (hm x).1 hx with h | h
    · exact a1 x h
    · exact t1 x h
  · rcases (hm x).1 hx with h | h
    · exact hdir _ (.inl (a3 x h))
    · exact hdir _ (.inr (t3 x h))
theorem joinO_iff : ∀ (ps : List packC.D) (acc : List Ent), treeB acc = true → (∀ p ∈ ps, treeB (treeOfP p) = true) →
    ((∃ t, joinO acc ps = some t) ↔ (∀ p ∈ ps, Compat acc (treeOfP p)) ∧ Mates ps ∧ ∃ U, Fits U acc ps) ∧ (∀ t, joinO acc ps = some t → treeB t = true ∧ ∀ x, x ∈ t ↔ x ∈ acc ∨ ∃ p ∈ ps, x ∈ treeOfP p)
  | [], acc, ha, _ => by
    refine ⟨⟨fun _ => ⟨fun p hp => (by cases hp), List.Pairwise.nil, acc, tree_up ha, tree_16 ha, fun x hx => hx, fun p hp => (by cases hp)⟩, fun _ => ⟨acc, rfl⟩⟩, fun t ht => ?_⟩
    cases ht
    exact ⟨ha, fun x => by simp⟩
  | p :: ps, acc, ha, hps => by
    have hT := hps p (by simp)
    have ua := tree_up ha
    have uT := tree_up hT
    obtain ⟨j1, j2⟩ := join_iff (treeOfP p) acc ua uT (tree_all ha) (tree_all hT)
    have hstep : joinO acc (p :: ps) = if okJ acc (treeOfP p) && treeB (joinTo acc (treeOfP p)) then joinO (joinTo acc (treeOfP p)) ps else none := rfl
    refine ⟨⟨?_, ?_⟩, ?_⟩
    · rintro ⟨t, ht⟩
      rw [hstep] at ht
      split at ht
      case isFalse => cases ht
      case isTrue hc =>
        rw [Bool.and_eq_true] at hc
        have hcp := j1.1 hc.1
        obtain ⟨m1, -⟩ := j2 hcp
        obtain ⟨i1, i2⟩ := joinO_iff ps (joinTo acc (treeOfP p)) hc.2 (fun q hq => hps q (by simp [hq]))
        obtain ⟨c1, c2, U, u1, u2, u3, u4⟩ := i1.1 ⟨t, ht⟩
        refine ⟨fun q hq => ?_, List.pairwise_cons.2 ⟨fun q hq x hx e he hp => c1 q hq x hx e ((m1 e).2 (.inr he)) hp, c2⟩, U, u1, u2, fun x hx => u3 x ((m1 x).2 (.inl hx)), fun q hq x hx => ?_⟩
        · rcases List.mem_cons.1 hq with rfl | hq
          · exact hcp
          · exact fun x hx e he hp => c1 q hq x hx e ((m1 e).2 (.inl he)) hp
        · rcases List.mem_cons.1 hq with rfl | hq
          · exact u3 x ((m1 x).2 (.inr hx))
          · exact u4 q hq x hx
    · rintro ⟨c1, c2, U, u1, u2, u3, u4⟩
      have hcp := c1 p (by simp)
      obtain ⟨m1, -⟩ := j2 hcp
      have hl : (joinTo acc (treeOfP p)).length ≤ 16 := Nat.le_trans (up_fits (joinTo_up ua _) u1 (fun x hx => by
        rcases (m1 x).1 hx with h | h
        · exact u3 x h
        · exact u4 p (by simp) x h)) u2
      have ht := join_tree ha hT hcp hl
      have c2' := List.pairwise_cons.1 c2
      obtain ⟨i1, -⟩ := joinO_iff ps (joinTo acc (treeOfP p)) ht (fun q hq => hps q (by simp [hq]))
      rw [hstep, if_pos (by rw [j1.2 hcp, ht]; rfl)]
      refine i1.2 ⟨fun q hq x hx e he hp => ?_, c2'.2, U, u1, u2, fun x hx => ?_, fun q hq => u4 q (by simp [hq])⟩
      · rcases (m1 e).1 he with h | h
        · exact c1 q (by simp [hq]) x hx e h hp
        · exact c2'.1 q hq x hx e h hp
      · rcases (m1 x).1 hx with h | h
        · exact u3 x h
        · exact u4 p (by simp) x h
    · intro t ht
      rw [hstep] at ht
      split at ht
      case isFalse => cases ht
      case isTrue hc =>
        rw [Bool.and_eq_true] at hc
        obtain ⟨m1, -⟩ := j2 (j1.1 hc.1)
        obtain ⟨-, i2⟩ := joinO_iff ps (joinTo acc (treeOfP p)) hc.2 (fun q hq => hps q (by simp [hq]))
        obtain ⟨k1, k2⟩ := i2 t ht
        refine ⟨k1, fun x => ?_⟩
        rw [k2, m1]
        constructor
        · rintro ((h | h) | ⟨q, hq, h⟩)
          · exact .inl h
          · exact .inr ⟨p, by simp, h⟩
          · exact .inr ⟨q, by simp [hq], h⟩
        · rintro (h | ⟨q, hq, h⟩)
          · exact .inl (.inl h)
          · rcases List.mem_cons.1 hq with rfl | hq
            · exact .inl (.inr h)
            · exact .inr ⟨q, hq, h⟩
theorem joinS_iff {ps : List packC.D} (h : ∀ p ∈ ps, pkOk p = true) : joinS ps = true ↔ Mates ps ∧ ∃ U, Fits U [] ps := by
  obtain ⟨i1, -⟩ := joinO_iff ps [] treeB_nil (fun p hp => pk_tree (h p hp))
  unfold joinS
  rw [Option.isSome_iff_exists, i1]
  exact ⟨fun ⟨_, h2, h3⟩ => ⟨h2, h3⟩, fun ⟨h2, h3⟩ => ⟨fun p _ x _ e he => (by cases he), h2, h3⟩⟩
theorem code_iff (ps : List packC.D) : rootCode ps = 0 ↔ (∀ p ∈ ps, pkOk p = true) ∧ AscP ps ∧ ps.length ≤ 5 ∧ needsB ps = true ∧ Mates ps ∧ ∃ U, Fits U [] ps := by
  constructor
  · intro h
    obtain ⟨h1, h2, h3, h4⟩ := code_0 h
    obtain ⟨f1, f2⟩ := (form_iff ps).1 h1
    exact ⟨f1, f2, h2, h3, (joinS_iff f1).1 h4⟩
  · rintro ⟨f1, f2, h2, h3, h4⟩
    exact code_fine ((form_iff ps).2 ⟨f1, f2⟩) h2 h3 ((joinS_iff f1).2 h4)
end Go.Proofs.YtoihhlkidlapmaaGreat

namespace Go.Proofs.YtoihhlkidlapmaaGreat
open Go.RowKit
end Go.Proofs.YtoihhlkidlapmaaGreat

namespace Go.Proofs.YtoihhlkidlapmaaGreat
open Go.RowKit Go.Shelf
theorem rout_code {d : RootD} {q : ByteArray} (h : rootOk_0 d = true) : rootOutC d q = outCode q d.packs ∧ rootOutP d q = outP q d.packs := by
  unfold rootOutC rootOutP
  rw [if_pos h, if_pos h]; exact ⟨rfl, rfl⟩
theorem ok_0 {ps : List packC.D} : rootOk_0 ⟨ps⟩ = true ↔ rootCode ps = 0 := by unfold rootOk_0; rw [beq_iff_eq]
end Go.Proofs.YtoihhlkidlapmaaGreat

namespace Go.Proofs.YtoihhlkidlapmaaGreat
open Go.RowKit
structure Rd (w : World) (b : Nat) (a : Option Addr) (len cap p : Nat) : Prop where
  c0 : w.cell? ⟨b, 0, none⟩ = some (.slice a len cap)
  c1 : w.cell? ⟨b, 1, none⟩ = some (.int .i64 p)
  f1 : w.frozen? ⟨b, 1, none⟩ = false
  l : len ≤ 2000
  d : len = 0 ∨ ∃ blk off, a = some ⟨blk, off, none⟩ ∧ blk < b ∧ ∀ k, k < len → ∃ c : Nat, c < 256 ∧ w.cell? ⟨blk, off + k, none⟩ = some (.int .u8 c)
theorem wrap_in (x : Int) (h0 : 0 ≤ x) (h : x < 4611686018427387904) : IntKind.i64.wrap x = x := by
  rw [IntKind.wrap_i64]; omega
theorem xor_i64 (a b : Int) (ha0 : 0 ≤ a) (ha : a < 4611686018427387904) (hb0 : 0 ≤ b) (hb : b < 4611686018427387904) : 0 ≤ bits .xor .i64 a b := by
  obtain ⟨x, rfl⟩ := Int.eq_ofNat_of_zero_le ha0
  obtain ⟨y, rfl⟩ := Int.eq_ofNat_of_zero_le hb0
  have hx : x ^^^ y < 2 ^ 62 := Nat.xor_lt_two_pow (by omega) (by omega)
  have h1 : (BitVec.ofInt 64 (x : Int)).toNat = x := by
    rw [BitVec.ofInt_natCast, BitVec.toNat_ofNat]; exact Nat.mod_eq_of_lt (by omega)
  have h2 : (BitVec.ofInt 64 (y : Int)).toNat = y := by
    rw [BitVec.ofInt_natCast, BitVec.toNat_ofNat]; exact Nat.mod_eq_of_lt (by omega)
  show 0 ≤ IntKind.i64.wrap ((BitVec.ofInt 64 (x : Int) ^^^ BitVec.ofInt 64 (y : Int)).toNat : Int)
  rw [BitVec.toNat_xor, h1, h2, wrap_in _ (by omega) (by omega)]
  omega
theorem set1_grown (w : World) (b : Nat) (v : Value) : w.grownBy (w.setCell ⟨b, 1, none⟩ v) (some b) :=
  ⟨rfl, rfl, rfl, by simp, fun k _ hne => Below.heap_setCell w ⟨b, 1, none⟩ v k (fun e => hne (by rw [e]))⟩
theorem Rd.step {w : World} {b : Nat} {a : Option Addr} {len cap p : Nat} (h : Rd w b a len cap p) : Rd (w.setCell ⟨b, 1, none⟩ (.int .i64 ((p : Int) + 1))) b a len cap (p + 1) where
  c0 := by rw [World.cell?_setCell_other (h := by simp)]; exact h.c0
  c1 := by rw [World.cell?_setCell_same' _ _ _ (by rw [h.c1]; rfl)]; simp
  f1 := by rw [World.frozen?_setCell]; exact h.f1
  l := h.l
  d := by
    rcases h.d with h0 | ⟨blk, off, ha, hb, hc⟩
    · exact .inl h0
    · refine .inr ⟨blk, off, ha, hb, fun k hk => ?_⟩
      obtain ⟨c, h1, h2⟩ := hc k hk
      exact ⟨c, h1, (World.cell?_of_block (w := w) (Below.heap_setCell w ⟨b, 1, none⟩ _ blk (by simp; omega))).trans h2⟩
theorem Rd.drewN {w : World} {b : Nat} {a : Option Addr} {len cap p : Nat} (h : Rd w b a len cap p) (m : Nat) : Rd (w.drewN m) b a len cap p := ⟨h.c0, h.c1, h.f1, h.l, h.d⟩
theorem grown_drewN {w w' : World} {r : Option Nat} (h : w.grownBy w' r) (m : Nat) : w.grownBy (w'.drewN m) r := ⟨h.os, h.tape, h.output, h.size, h.block⟩
set_option maxRecDepth 100000 in
set_option maxHeartbeats 1000000 in
theorem pick_any (w : World) (b : Nat) (a : Option Addr) (len cap p : Nat) (h : Rd w b a len cap p) (hp : p ≤ 1048576) (n : Int) (h1 : 1 ≤ n) (h2 : n ≤ 1048576) :
    Calls Tryz.prog 56 #[.pointer (some ⟨b, 0, none⟩), .int .i64 n] w fun e w' => ∃ r : Nat, (r : Int) < n ∧ e = .returned (.int .i64 r) ∧ Rd w' b a len cap (p + 1) ∧ w.grownBy w' (some b) := by
  have hst := hid h.step
  have hgr := hid (set1_grown w b (.int .i64 ((p : Int) + 1)))
  obtain ⟨c0, c1, f1, l, d⟩ := h
  have D := hid d
  clear d
  by_cases hl : len = 0
  · subst hl
    go_enter Tryz.func56, Tryz.ntmps56
    go_wp2
    go_ret
    exact ⟨0, by omega, rfl, unhid hst, unhid hgr⟩
  · have hl0 : ((len : Int) == 0) = false := by rw [beq_eq_false_iff_ne]; omega
    obtain ⟨blk, off, rfl, hb, hc⟩ := (unhid D).resolve_left hl
    by_cases hk : p < len
    · obtain ⟨c, hc1, hc2⟩ := hc p hk
      have Hc := hid hc
      clear hc
      go_enter Tryz.func56, Tryz.ntmps56
      go_wp2
      go_ret
      refine ⟨((c : Int) % n).toNat, ?_, ?_, unhid hst, unhid hgr⟩
      · have := Int.emod_lt_of_pos (c : Int) (show 0 < n by omega); have := Int.emod_nonneg (c : Int) (show n ≠ 0 by omega); omega
      · rw [Int.toNat_of_nonneg (Int.emod_nonneg _ (by omega))]; rfl
    · obtain ⟨q, hq, hql⟩ : ∃ q : Nat, (p : Int).tmod len = q ∧ q < len := ⟨p % len, by rw [Int.tmod_eq_emod_of_nonneg (by omega)]; simp, Nat.mod_lt _ (by omega)⟩
      obtain ⟨q2, hq2, hql2⟩ : ∃ q2 : Nat, ((p : Int) * 7 + 3).tmod len = q2 ∧ q2 < len := ⟨(p * 7 + 3) % len, by rw [Int.tmod_eq_emod_of_nonneg (by omega)]; simp, Nat.mod_lt _ (by omega)⟩
      obtain ⟨d, hd, hdl⟩ : ∃ d : Nat, (p : Int).tdiv len = d ∧ d ≤ p := ⟨p / len, by rw [Int.tdiv_eq_ediv_of_nonneg (by omega)]; simp, Nat.div_le_self _ _⟩
      obtain ⟨x, hx1, hx2⟩ := hc _ hql
      obtain ⟨y, hy1, hy2⟩ := hc _ hql2
      have Hc := hid hc
      clear hc
      have w1 := wrap_in ((p : Int) * 7) (by omega) (by omega)
      have w2 := wrap_in ((p : Int) * 7 + 3) (by omega) (by omega)
      have e1 := wrap_in ((x : Int) * 131) (by omega) (by omega)
      have e2 := wrap_in ((y : Int) * 1117) (by omega) (by omega)
      have e3 := wrap_in ((x : Int) * 131 + (y : Int) * 1117) (by omega) (by omega)
      have e4 := wrap_in ((p : Int) * 29) (by omega) (by omega)
      have e5 := wrap_in ((x : Int) * 131 + (y : Int) * 1117 + (p : Int) * 29) (by omega) (by omega)
      have e6 := wrap_in ((d : Int) * 53) (by omega) (by omega)
      have e7 := wrap_in ((x : Int) * 131 + (y : Int) * 1117 + (p : Int) * 29 + (d : Int) * 53) (by omega) (by omega)
      go_enter Tryz.func56, Tryz.ntmps56
      go_wp2
      refine wp_region_quiet_lit (by kernel_rfl) (by kernel_rfl) ?_
      repeat (quiet_step (fail))
      refine wpQuiet_nil ?_
      intro _ hw'
      obtain ⟨nq, hw''⟩ := hw'
      subst hw''
      go_wp2
      go_ret
      have hx0 := xor_i64 ((x : Int) * 131 + (y : Int) * 1117 + (p : Int) * 29 + (d : Int) * 53) (((x : Int) * 131 + (y : Int) * 1117 + (p : Int) * 29 + (d : Int) * 53) / 64) (by omega) (by omega) (by omega) (by omega)
      generalize hX : bits .xor .i64 ((x : Int) * 131 + (y : Int) * 1117 + (p : Int) * 29 + (d : Int) * 53) (((x : Int) * 131 + (y : Int) * 1117 + (p : Int) * 29 + (d : Int) * 53) / 64) = X at hx0 ⊢
      have t0 : X.tmod n = X % n := Int.tmod_eq_emod_of_nonneg hx0
      have t1 := Int.emod_lt_of_pos X (show 0 < n by omega)
      have t2 := Int.emod_nonneg X (show n ≠ 0 by omega)
      refine ⟨(X % n).toNat, by omega, ?_, (unhid hst).drewN _, grown_drewN (unhid hgr) _⟩
      rw [Int.toNat_of_nonneg t2, ← t0]
      rfl
end Go.Proofs.YtoihhlkidlapmaaGreat

namespace Go.Proofs.YtoihhlkidlapmaaGreat
open Go.RowKit
theorem grown_trans {x y z : World} {b : Nat} (h : x.grownBy y (some b)) (g : y.grownBy z (some b)) : x.grownBy z (some b) :=
  ⟨g.os.trans h.os, g.tape.trans h.tape, g.output.trans h.output, Nat.le_trans h.size g.size, fun k hk hne => (g.block k (Nat.lt_of_lt_of_le hk h.size) hne).trans (h.block k hk hne)⟩
theorem grown_below {x y : World} {b B : Nat} (h : x.grownBy y (some b)) (hB : B ≤ b) (hs : B ≤ x.heap.size) : Below B x y :=
  ⟨h.os, h.tape, h.output, h.size, fun k hk => h.block k (by omega) (fun e => by cases e; omega)⟩
theorem Rd.lt {w : World} {b : Nat} {a : Option Addr} {len cap p : Nat} (h : Rd w b a len cap p) : b < w.heap.size := by
  have h0 := h.c0
  unfold World.cell? at h0
  cases hh : w.heap[b]? with
  | none => simp [hh] at h0
  | some o => exact (Array.getElem?_eq_some_iff.1 hh).1
theorem Rd.of_below {w w' : World} {b : Nat} {a : Option Addr} {len cap p : Nat} (h : Rd w b a len cap p) (hB : Below w.heap.size w w') : Rd w' b a len cap p where
  c0 := (hB.cell (p := ⟨b, 0, none⟩) h.lt).trans h.c0
  c1 := (hB.cell (p := ⟨b, 1, none⟩) h.lt).trans h.c1
  f1 := (hB.frozen (p := ⟨b, 1, none⟩) h.lt).trans h.f1
  l := h.l
  d := by
    rcases h.d with h0 | ⟨blk, off, ha, hb, hc⟩
    · exact .inl h0
    · refine .inr ⟨blk, off, ha, hb, fun k hk => ?_⟩
      obtain ⟨c, h1, h2⟩ := hc k hk
      exact ⟨c, h1, (hB.cell (p := ⟨blk, off + k, none⟩) (by have := h.lt; simp; omega)).trans h2⟩
theorem Rd.alloc {w : World} {b : Nat} {a : Option Addr} {len cap p : Nat} (h : Rd w b a len cap p) (o : Obj) : Rd (w.alloc o) b a len cap p :=
  h.of_below ((Below.refl _ w).alloc (Nat.le_refl _) o)
set_option maxRecDepth 100000 in
set_option maxHeartbeats 1000000 in
theorem of_any (P : ByteArray → Prop) (w : World) (b : Nat) (a : Option Addr) (len cap p : Nat) (h : Rd w b a len cap p) (hp : p ≤ 1048576) (g m c : Nat) (hg : g ≠ b) (h1 : 1 ≤ m) (h2 : m ≤ 1048576)
    (hl : ∀ k, k < m → ∃ x, P x ∧ w.cell? ⟨g, k, none⟩ = some (.string x)) :
    Calls Tryz.prog 57 #[.pointer (some ⟨b, 0, none⟩), .slice (some ⟨g, 0, none⟩) m c] w fun e w' => ∃ x, P x ∧ e = .returned (.string x) ∧ Rd w' b a len cap (p + 1) ∧ w.grownBy w' (some b) := by
  have H := hid h
  have Hl := hid hl
  have hlt : g < w.heap.size := by
    obtain ⟨x, _, hx⟩ := hl 0 (by omega)
    unfold World.cell? at hx
    cases hh : w.heap[g]? with
    | none => simp [hh] at hx
    | some o => exact (Array.getElem?_eq_some_iff.1 hh).1
  clear h hl
  go_enter Tryz.func57, Tryz.ntmps57
  go_wp2_with fail
  refine (pick_any w b a len cap p (unhid H) hp m (by omega) (by omega)).mono ?_
  rintro e w1 ⟨r, hr, rfl, hR, hG⟩
  have hr' : r < m := by omega
  obtain ⟨x, hP, hx⟩ := unhid Hl r hr'
  have hx1 : w1.cell? ⟨g, r, none⟩ = some (.string x) := (World.cell?_of_block (w := w) (hG.block g hlt (fun e => hg (by cases e; rfl)))).trans hx
  have HR := hid hR
  have HG := hid hG
  clear hR hG hx
  go_wp2_with fail
  go_ret
  exact ⟨x, hP, rfl, unhid HR, unhid HG⟩
def short (x : ByteArray) : Prop := x.size ≤ 100
def shortV : Value → Bool
  | .string x => decide (x.size ≤ 100)
  | _ => false
theorem row_short (w : World) (cs : Array Value) (t : TypeId) (h : cs.toList.all shortV = true) (k : Nat) (hk : k < cs.size) : ∃ x, short x ∧ (w.alloc (.cells cs t)).cell? ⟨w.heap.size, k, none⟩ = some (.string x) := by
  have h1 : (w.alloc (.cells cs t)).cell? ⟨w.heap.size, k, none⟩ = cs[k]? := by
    have := World.alloc_heap_new w (.cells cs t)
    unfold World.cell?
    dsimp only
    rw [this]
    simp
  rw [List.all_eq_true] at h
  have h2 := h cs[k] (by simp)
  rw [h1, Array.getElem?_eq_getElem hk]
  revert h2
  cases cs[k] <;> simp [shortV, short]
def Code (w : World) (B : Nat) (a : Option Addr) (len : Nat) : Prop :=
  len = 0 ∨ ∃ blk off, a = some ⟨blk, off, none⟩ ∧ blk < B ∧ ∀ k, k < len → ∃ c : Nat, c < 256 ∧ w.cell? ⟨blk, off + k, none⟩ = some (.int .u8 c)
theorem Code.less {w : World} {B : Nat} {a : Option Addr} {len m : Nat} (h : Code w B a len) (hm : m ≤ len) : Code w B a m := by
  rcases h with h | ⟨blk, off, ha, hb, hc⟩
  · exact .inl (by omega)
  · exact .inr ⟨blk, off, ha, hb, fun k hk => hc k (by omega)⟩
theorem rd_new (w : World) (a : Option Addr) (len cap : Nat) (t : TypeId) (h : Code w w.heap.size a len) (hl : len ≤ 2000) : Rd (w.alloc (.cells #[.slice a len cap, .int .i64 0] t)) w.heap.size a len cap 0 := by
  have hn := World.alloc_heap_new w (.cells #[.slice a len cap, .int .i64 0] t)
  refine ⟨?_, ?_, ?_, hl, ?_⟩
  · unfold World.cell?; dsimp only; rw [hn]; simp
  · unfold World.cell?; dsimp only; rw [hn]; simp
  · unfold World.frozen?; dsimp only; rw [hn]; simp
  · rcases h with h | ⟨blk, off, ha, hb, hc⟩
    · exact .inl h
    · refine .inr ⟨blk, off, ha, hb, fun k hk => ?_⟩
      obtain ⟨c, h1, h2⟩ := hc k hk
      exact ⟨c, h1, (((Below.refl w.heap.size w).alloc (Nat.le_refl _) _).cell (p := ⟨blk, off + k, none⟩) hb).trans h2⟩
set_option maxRecDepth 100000 in
set_option maxHeartbeats 1000000 in
theorem l1Open_any (w : World) (a : Option Addr) (len cap : Nat) (h : Code w w.heap.size a len) (hl : len ≤ 1048576) (hc : len ≤ cap) :
    Calls Tryz.prog 55 #[.slice a len cap] w fun e w' => e = .returned (.pointer (some ⟨w.heap.size, 0, none⟩)) ∧ (∃ l' c', Rd w' w.heap.size a l' c' 0) ∧ Below w.heap.size w w' := by
  have H := hid h
  clear h
  by_cases h2 : (2000 : Int) < len
  · go_enter Tryz.func55, Tryz.ntmps55
    go_wp2
    go_ret
    exact ⟨rfl, ⟨_, _, rd_new w a 2000 cap _ ((unhid H).less (by omega)) (Nat.le_refl _)⟩, (Below.refl _ _).alloc (Nat.le_refl _) _⟩
  · go_enter Tryz.func55, Tryz.ntmps55
    go_wp2
    go_ret
    exact ⟨rfl, ⟨_, _, rd_new w a len cap _ (unhid H) (by omega)⟩, (Below.refl _ _).alloc (Nat.le_refl _) _⟩
end Go.Proofs.YtoihhlkidlapmaaGreat

namespace Go.Proofs.YtoihhlkidlapmaaGreat
open Go.RowKit
def niceB (l : List UInt8) : Bool := decide (l.length ≤ 100) && (l.take 2 != [102, 114] && l.take 2 != [110, 101])
def nice (x : ByteArray) : Prop := niceB x.data.toList = true
def niceV : Value → Bool
  | .string x => niceB x.data.toList
  | _ => false
theorem nice_short {x : ByteArray} (h : nice x) : x.size ≤ 100 := by
  unfold nice niceB at h
  simp only [Bool.and_eq_true, decide_eq_true_eq] at h
  have := h.1
  simpa using this
theorem row_nice (w : World) (cs : Array Value) (t : TypeId) (h : cs.toList.all niceV = true) (k : Nat) (hk : k < cs.size) : ∃ x, nice x ∧ (w.alloc (.cells cs t)).cell? ⟨w.heap.size, k, none⟩ = some (.string x) := by
  have h1 : (w.alloc (.cells cs t)).cell? ⟨w.heap.size, k, none⟩ = cs[k]? := by
    have := World.alloc_heap_new w (.cells cs t)
    unfold World.cell?
    dsimp only
    rw [this]
    simp
  rw [List.all_eq_true] at h
  have h2 := h cs[k] (by simp)
  rw [h1, Array.getElem?_eq_getElem hk]
  revert h2
  cases cs[k] <;> simp [niceV, nice]
set_option maxRecDepth 100000 in
set_option maxHeartbeats 1000000 in
theorem l11Path_nice (w : World) (b : Nat) (a : Option Addr) (len cap p : Nat) (h : Rd w b a len cap p) (hp : p ≤ 1048576) :
    Calls Tryz.prog 208 #[.pointer (some ⟨b, 0, none⟩)] w fun e w' => ∃ x, nice x ∧ e = .returned (.string x) ∧ Rd w' b a len cap (p + 1) ∧ w.grownBy w' (some b) := by
  have H := hid h
  clear h
  go_enter Tryz.func208, Tryz.ntmps208
  go_wp2_with fail
  have hb := (unhid H).lt
  refine (of_any nice _ b a len cap p ?h1 hp w.heap.size 12 12 ?h2 (by omega) (by omega) ?h5).mono ?_
  case h1 => exact (unhid H).alloc _
  case h2 => omega
  case h5 => exact fun k hk => row_nice w _ _ (by kernel_rfl) k hk
  rintro e w1 ⟨x, hx, rfl, hR, hG⟩
  have hG' := grown_trans (World.grownBy_alloc w _ (some b)) hG
  have HR := hid hR
  have HG := hid hG'
  clear hR hG hG'
  go_wp2_with fail
  go_ret
  exact ⟨x, hx, rfl, unhid HR, unhid HG⟩
set_option maxRecDepth 100000 in
set_option maxHeartbeats 1000000 in
theorem l11AnyPath_nice (w : World) (b : Nat) (a : Option Addr) (len cap p : Nat) (h : Rd w b a len cap p) (hp : p ≤ 1000000) :
    Calls Tryz.prog 136 #[.pointer (some ⟨b, 0, none⟩)] w fun e w' => ∃ x, nice x ∧ e = .returned (.string x) ∧ Rd w' b a len cap (p + 1 + 1) ∧ w.grownBy w' (some b) := by
  have H := hid h
  clear h
  go_enter Tryz.func136, Tryz.ntmps136
  go_wp2_with fail
  refine (pick_any w b a len cap p (unhid H) (by omega) 6 (by omega) (by omega)).mono ?_
  rintro e w1 ⟨r, hr, rfl, hR, hG⟩
  have HR := hid hR
  have HG := hid hG
  clear hR hG
  by_cases h0 : r = 0
  · have h0' : ((r : Int) == 0) = true := by simp [h0]
    go_wp2_with fail
    have hb := (unhid HR).lt
    refine (of_any nice _ b a len cap (p + 1) ?h1 (by omega) w1.heap.size 12 12 ?h2 (by omega) (by omega) ?h5).mono ?_
    case h1 => exact (unhid HR).alloc _
    case h2 => omega
    case h5 => exact fun k hk => row_nice w1 _ _ (by kernel_rfl) k hk
    rintro e w2 ⟨x, hx, rfl, hR, hG⟩
    have hG' := grown_trans (unhid HG) (grown_trans (World.grownBy_alloc w1 _ (some b)) hG)
    have HR2 := hid hR
    have HG2 := hid hG'
    clear hR hG hG'
    go_wp2_with fail
    go_ret
    exact ⟨x, hx, rfl, unhid HR2, unhid HG2⟩
  · have h0' : ((r : Int) == 0) = false := by rw [beq_eq_false_iff_ne]; omega
    go_wp2_with fail
    refine (l11Path_nice w1 b a len cap (p + 1) (unhid HR) (by omega)).mono ?_
    rintro e w2 ⟨x, hx, rfl, hR, hG⟩
    have hG' := grown_trans (unhid HG) hG
    have HR2 := hid hR
    have HG2 := hid hG'
    clear hR hG hG'
    go_wp2_with fail
    go_ret
    exact ⟨x, hx, rfl, unhid HR2, unhid HG2⟩
set_option maxRecDepth 100000 in
set_option maxHeartbeats 1000000 in
theorem one_any (P : Int → Prop) (w : World) (b : Nat) (a : Option Addr) (len cap p : Nat) (h : Rd w b a len cap p) (hp : p ≤ 1048576) (g m c : Nat) (hg : g ≠ b) (h1 : 1 ≤ m) (h2 : m ≤ 1048576)
    (hl : ∀ k, k < m → ∃ x, P x ∧ w.cell? ⟨g, k, none⟩ = some (.int .i64 x)) :
    Calls Tryz.prog 225 #[.pointer (some ⟨b, 0, none⟩), .slice (some ⟨g, 0, none⟩) m c] w fun e w' => ∃ x, P x ∧ e = .returned (.int .i64 x) ∧ Rd w' b a len cap (p + 1) ∧ w.grownBy w' (some b) := by
  have H := hid h
  have Hl := hid hl
  have hlt : g < w.heap.size := by
    obtain ⟨x, _, hx⟩ := hl 0 (by omega)
    unfold World.cell? at hx
    cases hh : w.heap[g]? with
    | none => simp [hh] at hx
    | some o => exact (Array.getElem?_eq_some_iff.1 hh).1
  clear h hl
  go_enter Tryz.func225, Tryz.ntmps225
  go_wp2_with fail
  refine (pick_any w b a len cap p (unhid H) hp m (by omega) (by omega)).mono ?_
  rintro e w1 ⟨r, hr, rfl, hR, hG⟩
  have hr' : r < m := by omega
  obtain ⟨x, hP, hx⟩ := unhid Hl r hr'
  have hx1 : w1.cell? ⟨g, r, none⟩ = some (.int .i64 x) := (World.cell?_of_block (w := w) (hG.block g hlt (fun e => hg (by cases e; rfl)))).trans hx
  have HR := hid hR
  have HG := hid hG
  clear hR hG hx
  go_wp2_with fail
  go_ret
  exact ⟨x, hP, rfl, unhid HR, unhid HG⟩
def intV (P : Int → Bool) : Value → Bool
  | .int .i64 x => P x
  | _ => false
theorem row_int (P : Int → Bool) (w : World) (cs : Array Value) (t : TypeId) (B : Nat) (hB : B = w.heap.size) (h : cs.toList.all (intV P) = true) (k : Nat) (hk : k < cs.size) : ∃ x, P x = true ∧ (w.alloc (.cells cs t)).cell? ⟨B, k, none⟩ = some (.int .i64 x) := by
  subst hB
  have h1 : (w.alloc (.cells cs t)).cell? ⟨w.heap.size, k, none⟩ = cs[k]? := by
    have := World.alloc_heap_new w (.cells cs t)
    unfold World.cell?
    dsimp only
    rw [this]
    simp
  rw [List.all_eq_true] at h
  have h2 := h cs[k] (by simp)
  rw [h1, Array.getElem?_eq_getElem hk]
  revert h2
  unfold intV
  split <;> simp_all
theorem ba_eq {x y : ByteArray} (h : x.data.toList = y.data.toList) : x = y := by
  obtain ⟨⟨l⟩⟩ := x; obtain ⟨⟨m⟩⟩ := y; simp at h; subst h; rfl
def rep (s : ByteArray) (n : Nat) : ByteArray := ⟨⟨(List.replicate n s.data.toList).flatten⟩⟩
theorem rep_add (s : ByteArray) (a b : Nat) : rep s a ++ rep s b = rep s (a + b) := by
  apply ba_eq
  rw [ByteArray.data_append, Array.toList_append]
  show (List.replicate a s.data.toList).flatten ++ (List.replicate b s.data.toList).flatten = (List.replicate (a + b) s.data.toList).flatten
  rw [← List.flatten_append, List.replicate_append_replicate]
theorem rep_size (s : ByteArray) (a : Nat) : (rep s a).size = a * s.size := by
  show (List.replicate a s.data.toList).flatten.length = a * s.data.toList.length
  simp
theorem rep_one (s : ByteArray) : rep s 1 = s := by
  apply ba_eq
  show (List.replicate 1 s.data.toList).flatten = s.data.toList
  simp
set_option maxRecDepth 100000 in
set_option maxHeartbeats 1000000 in
theorem many_rep (s : ByteArray) (N : Nat) (hs : s.size ≤ 10) (hN : N ≤ 100) (w : World) : Calls Tryz.prog 163 #[.string s, .int .i64 N] w fun e w' => e = .returned (.string (rep s N)) ∧ w' = w := by
  have R1 := hid (rep_one s)
  have z0 := rep_size s
  have hz : ∀ n, n ≤ 200 → (rep s n).size ≤ 2000 := fun n hn => by rw [rep_size]; exact Nat.le_trans (Nat.mul_le_mul hn hs) (by omega)
  have HZ := hid hz
  clear z0 hz
  go_enter Tryz.func163, Tryz.ntmps163
  go_wp2_with fail
  go_loop [0, 1, 5] (fun t n o => ∃ a b k : Nat, t = .string (rep s b) ∧ n = .int .i64 k ∧ o = .string (rep s a) ∧ a + b * k = N ∧ b ≤ 200 ∧ 1 ≤ b ∧ (0 < k → b ≤ N)) (fun _ n _ => (intOf n).toNat)
  case atStart => exact ⟨0, 1, N, by rw [unhid R1], rfl, rfl, by omega, by omega, by omega, fun h => h⟩
  case round =>
    obtain ⟨a, b, k, rfl, rfl, rfl, hs, hb, hb1, hbk⟩ := hrel
    have hkN : k ≤ N := by have := Nat.le_mul_of_pos_left k (show 0 < b by omega); omega
    have ea := hid (rep_add s a b)
    have eb := hid (rep_add s b b)
    by_cases hk : 0 < k
    · have hbN := hbk hk
      have haN : a ≤ N := by omega
      have za := unhid HZ a (by omega)
      have zb := unhid HZ b (by omega)
      have hk0 : (0 : Int) < k := by omega
      by_cases ho : k % 2 = 1
      · have ho' : ((k : Int) % 2 == 1) = true := by simp; omega
        obtain ⟨q, rfl⟩ : ∃ q, k = 2 * q + 1 := ⟨k / 2, by omega⟩
        have e1 : b * (2 * q + 1) = 2 * (b * q) + b := by rw [Nat.mul_add, Nat.mul_one, ← Nat.mul_assoc, Nat.mul_comm b 2, Nat.mul_assoc]
        have e2 : (b + b) * q = 2 * (b * q) := by rw [← Nat.two_mul, Nat.mul_assoc]
        have hq : 0 < q → b ≤ b * q := fun h => Nat.le_mul_of_pos_right b h
        have E := hid (And.intro e1 (And.intro e2 hq))
        clear e1 e2 hq
        go_wp2_with fail
        go_round
        case rel => obtain ⟨e1, e2, hq⟩ := unhid E; exact ⟨a + b, b + b, q, by rw [unhid eb], by congr 1 <;> omega, by rw [unhid ea], by omega, by omega, by omega, fun h => by have := hq h; omega⟩
        case measure => simp [intOf]; omega
      · have ho' : ((k : Int) % 2 == 1) = false := by simp; omega
        obtain ⟨q, rfl⟩ : ∃ q, k = 2 * q := ⟨k / 2, by omega⟩
        have e1 : b * (2 * q) = 2 * (b * q) := by rw [← Nat.mul_assoc, Nat.mul_comm b 2, Nat.mul_assoc]
        have e2 : (b + b) * q = 2 * (b * q) := by rw [← Nat.two_mul, Nat.mul_assoc]
        have hq : 0 < q → b ≤ b * q := fun h => Nat.le_mul_of_pos_right b h
        have E := hid (And.intro e1 (And.intro e2 hq))
        clear e1 e2 hq
        go_wp2_with fail
        go_round
        case rel => obtain ⟨e1, e2, hq⟩ := unhid E; exact ⟨a, b + b, q, by rw [unhid eb], by congr 1 <;> omega, rfl, by omega, by omega, by omega, fun h => by have := hq h; omega⟩
        case measure => simp [intOf]; omega
    · have hk0 : ¬ (0 : Int) < k := by omega
      have : k = 0 := by omega
      subst this
      have : a = N := by omega
      subst this
      go_wp2_with fail
      go_ret
      exact ⟨rfl, rfl⟩
theorem row_short2 (w : World) (cs : Array Value) (t : TypeId) (B : Nat) (hB : B = w.heap.size) (h : cs.toList.all shortV = true) (k : Nat) (hk : k < cs.size) : ∃ x, short x ∧ (w.alloc (.cells cs t)).cell? ⟨B, k, none⟩ = some (.string x) := by
  subst hB; exact row_short w cs t h k hk
theorem texts_short (y : ByteArray) (hy : y.size ≤ 100) : (#[Value.string ⟨#[]⟩, .string ⟨#[111, 110, 101, 10]⟩, .string ⟨#[111, 110, 101, 10, 116, 119, 111, 10, 116, 104, 114, 101, 101, 10]⟩, .string ⟨#[110, 111, 32, 101, 110, 100]⟩, .string ⟨#[97, 10, 98, 10, 99, 10, 100, 10, 101, 10, 102, 10, 103, 10]⟩, .string y] : Array Value).toList.all shortV = true := by
  have : decide (y.size ≤ 100) = true := decide_eq_true hy
  simp only [List.all_cons, List.all_nil, Bool.and_true, shortV, this]
  decide
set_option maxRecDepth 100000 in
set_option maxHeartbeats 1000000 in
theorem l11Text_any (w : World) (b : Nat) (a : Option Addr) (len cap p : Nat) (h : Rd w b a len cap p) (hp : p ≤ 1048576) :
    Calls Tryz.prog 261 #[.pointer (some ⟨b, 0, none⟩)] w fun e w' => ∃ x, short x ∧ e = .returned (.string x) ∧ Rd w' b a len cap (p + 1) ∧ w.grownBy w' (some b) := by
  have H := hid h
  clear h
  have hz : (rep ⟨#[116]⟩ 80).size ≤ 100 := by rw [rep_size]; decide
  go_enter Tryz.func261, Tryz.ntmps261
  go_wp2_with fail
  refine (many_rep ⟨#[116]⟩ 80 (by decide) (by omega) w).mono ?_
  rintro e w0 ⟨rfl, rfl⟩
  generalize rep ⟨#[116]⟩ 80 = y at hz
  go_wp2_with fail
  have hb := (unhid H).lt
  refine (of_any short _ b a len cap p ?h1 hp w0.heap.size 6 6 ?h2 (by omega) (by omega) ?h5).mono ?_
  case h1 => exact (unhid H).alloc _
  case h2 => omega
  case h5 => exact fun k hk => row_short w0 _ _ (texts_short y hz) k hk
  rintro e w1 ⟨x, hx, rfl, hR, hG⟩
  have hG' := grown_trans (World.grownBy_alloc w0 _ (some b)) hG
  have HR := hid hR
  have HG := hid hG'
  clear hR hG hG'
  go_wp2_with fail
  go_ret
  exact ⟨x, hx, rfl, unhid HR, unhid HG⟩
end Go.Proofs.YtoihhlkidlapmaaGreat

namespace Go.Proofs.YtoihhlkidlapmaaGreat
open Go.RowKit
def niceE (e : Ent) : Prop := nice e.path ∧ short e.text
theorem grown_set' {x y : World} {b : Nat} (h : x.grownBy y (some b)) {p : Addr} (hp : x.heap.size ≤ p.block) (v : Value) : x.grownBy (y.setCell p v) (some b) :=
  ⟨h.os, h.tape, h.output, by simpa using h.size, fun k hk hne => (Below.heap_setCell y p v k (by omega)).trans (h.block k hk hne)⟩
theorem Rd.set' {w : World} {b : Nat} {a : Option Addr} {len cap p : Nat} (h : Rd w b a len cap p) {q : Addr} (hq : b < q.block) (v : Value) : Rd (w.setCell q v) b a len cap p where
  c0 := (World.cell?_of_block (w := w) (Below.heap_setCell w q v b (by omega))).trans h.c0
  c1 := (World.cell?_of_block (w := w) (Below.heap_setCell w q v b (by omega))).trans h.c1
  f1 := (World.frozen?_of_block (w := w) (Below.heap_setCell w q v b (by omega))).trans h.f1
  l := h.l
  d := by
    rcases h.d with h0 | ⟨blk, off, ha, hb, hc⟩
    · exact .inl h0
    · refine .inr ⟨blk, off, ha, hb, fun k hk => ?_⟩
      obtain ⟨c, h1, h2⟩ := hc k hk
      exact ⟨c, h1, (World.cell?_of_block (w := w) (Below.heap_setCell w q v blk (by omega))).trans h2⟩
set_option maxRecDepth 100000 in
set_option maxHeartbeats 4000000 in
theorem l11Entry_any (w : World) (b : Nat) (a : Option Addr) (len cap p : Nat) (h : Rd w b a len cap p) (hp : p ≤ 900000) :
    Calls Tryz.prog 223 #[.pointer (some ⟨b, 0, none⟩)] w fun x w' => ∃ e : Ent, niceE e ∧ x = .returned (.agg e.vals) ∧ (∃ p', p' ≤ p + 4 ∧ Rd w' b a len cap p') ∧ w.grownBy w' (some b) := by
  have H := hid (h.alloc (.cells #[.string ⟨#[]⟩, .int .i64 0, .int .i64 0, .string ⟨#[]⟩] 57))
  have hbl := h.lt
  clear h
  go_enter Tryz.func223, Tryz.ntmps223
  go_wp2_with fail
  refine (l11Path_nice _ b a len cap p (unhid H) (by omega)).mono ?_
  rintro e w1 ⟨x, hx, rfl, hR, hG⟩
  have O0 : OneAt (w.alloc (.cells #[.string ⟨#[]⟩, .int .i64 0, .int .i64 0, .string ⟨#[]⟩] 57)) w.heap.size Ent.none := World.alloc_heap_new _ _
  have O1 := hid (O0.grown hG (by intro e; injection e; omega))
  have G1 := hid (grown_trans (World.grownBy_alloc w _ (some b)) hG)
  have R1 := hid hR
  have hz1 : w.heap.size + 1 ≤ w1.heap.size := by have := hG.size; simpa using this
  clear hR hG O0 H
  go_wp2_with fail
  refine (one_any (fun k => (decide (1 ≤ k) && decide (k ≤ 3)) = true) _ b a len cap (p + 1) ((unhid R1).alloc _) (by omega) w1.heap.size 5 5 (by have := (unhid R1).lt; omega) (by omega) (by omega) ?h5).mono ?_
  case h5 => exact fun k hk => row_int (fun k => decide (1 ≤ k) && decide (k ≤ 3)) _ _ _ _ rfl (by kernel_rfl) k hk
  rintro e w2 ⟨kd, hkd, rfl, hR, hG0⟩
  have hG := grown_trans (World.grownBy_alloc w1 _ (some b)) hG0
  have O2 := hid ((unhid O1).grown hG (by intro e; injection e; omega))
  have G2 := hid (grown_trans (unhid G1) hG)
  have R2 := hid hR
  have hz2 : w.heap.size + 2 ≤ w2.heap.size := by have := hG0.size; simp at this; omega
  clear hR hG hG0 O1 G1 R1
  go_wp2_with fail
  refine (pick_any w2 b a len cap _ (unhid R2) (by omega) 8 (by omega) (by omega)).mono ?_
  rintro e w3 ⟨md, hmd, rfl, hR, hG⟩
  have O3 := hid (((unhid O2).grown hG (by intro e; injection e; omega)).alloc (.cells #[.string x, .int .i64 kd, .int .i64 md, .string ⟨#[]⟩] 57))
  have N3 := hid (show OneAt (w3.alloc (.cells #[.string x, .int .i64 kd, .int .i64 md, .string ⟨#[]⟩] 57)) w3.heap.size ⟨x, kd, md, ⟨#[]⟩⟩ from World.alloc_heap_new _ _)
  have G3 := hid (grown_trans (grown_trans (unhid G2) hG) (World.grownBy_alloc w3 (.cells #[.string x, .int .i64 kd, .int .i64 md, .string ⟨#[]⟩] 57) (some b)))
  have R3 := hid (hR.alloc (.cells #[.string x, .int .i64 kd, .int .i64 md, .string ⟨#[]⟩] 57))
  have hz3 : w.heap.size + 2 ≤ w3.heap.size := Nat.le_trans hz2 hG.size
  have P3 := hid (And.intro ((unhid O2).grown hG (by intro e; injection e; omega)) (And.intro (grown_trans (unhid G2) hG) hR))
  clear hR hG O2 G2 R2
  have hne' : ¬ w3.heap.size = w.heap.size := by omega
  have hne2 : ¬ w.heap.size = w3.heap.size := by omega
  have hk3 : kd = 1 ∨ kd = 2 ∨ kd = 3 := by simp only [Bool.and_eq_true, decide_eq_true_eq] at hkd; omega
  clear hkd
  obtain ⟨⟨d0, d1, d2, d3⟩, g0, g1, g2, g3⟩ := four_cells (unhid N3)
  obtain ⟨⟨c0, c1, c2, c3⟩, f0, f1, f2, f3⟩ := four_cells (unhid O3)
  rcases hk3 with rfl | rfl | rfl
  · go_wp2_with fail
    refine bodyPost_ret (v := .agg #[.string x, .int .i64 1, .int .i64 md, .string ⟨#[]⟩]) (by simp [results, Tryz.results223, go_sem, World.cell?_setCell_same', c0, c1, c2, c3]) rfl ⟨⟨x, 1, md, ⟨#[]⟩⟩, ⟨hx, (by unfold short; decide : short ⟨#[]⟩)⟩, rfl, ⟨_, ?_, (((((unhid R3).set' ?_ _).set' ?_ _).set' ?_ _).set' ?_ _)⟩, grown_set' (grown_set' (grown_set' (grown_set' (unhid G3) ?_ _) ?_ _) ?_ _) ?_ _⟩
    all_goals (try dsimp only); omega
  · go_wp2_with fail
    clear c0 c1 c2 c3 f0 f1 f2 f3 d0 d1 d2 d3 g0 g1 g2 g3
    refine (l11Text_any _ b a len cap _ (unhid R3) (by omega)).mono ?_
    rintro e w4 ⟨y, hy, rfl, hR, hG⟩
    have hz4 := hG.size
    simp only [World.size_alloc] at hz4
    have O4 := hid ((unhid O3).grown hG (by intro e; injection e; omega))
    have N4 := hid ((unhid N3).grown hG (by intro e; injection e; omega))
    have G4 := hid (grown_trans (unhid G3) hG)
    have R4 := hid hR
    clear hR hG O3 N3 G3 R3
    obtain ⟨⟨d0, d1, d2, d3⟩, g0, g1, g2, g3⟩ := four_cells (unhid N4)
    obtain ⟨⟨c0, c1, c2, c3⟩, f0, f1, f2, f3⟩ := four_cells (unhid O4)
    go_wp2_with fail
    refine bodyPost_ret (v := .agg #[.string x, .int .i64 2, .int .i64 md, .string y]) (by simp [results, Tryz.results223, go_sem, World.cell?_setCell_same', c0, c1, c2, c3]) rfl ⟨⟨x, 2, md, y⟩, ⟨hx, hy⟩, rfl, ⟨_, ?_, (((((unhid R4).set' ?_ _).set' ?_ _).set' ?_ _).set' ?_ _).set' ?_ _⟩, grown_set' (grown_set' (grown_set' (grown_set' (grown_set' (unhid G4) ?_ _) ?_ _) ?_ _) ?_ _) ?_ _⟩
    all_goals (try dsimp only); omega
  · go_wp2_with fail
    clear c0 c1 c2 c3 f0 f1 f2 f3 d0 d1 d2 d3 g0 g1 g2 g3
    refine (l11Path_nice _ b a len cap _ ((unhid P3).2.2.alloc _) (by omega)).mono ?_
    rintro e w4 ⟨y, hy, rfl, hR, hG⟩
    have hz4 := hG.size
    simp only [World.size_alloc] at hz4
    have O4 := hid (((unhid P3).1.alloc _).grown hG (by intro e; injection e; omega))
    have N4 := hid ((show OneAt (w3.alloc (.cells #[.string x, .int .i64 3, .int .i64 0, .string ⟨#[]⟩] 57)) w3.heap.size ⟨x, 3, 0, ⟨#[]⟩⟩ from World.alloc_heap_new _ _).grown hG (by intro e; injection e; omega))
    have G4 := hid (grown_trans (grown_trans (unhid P3).2.1 (World.grownBy_alloc w3 _ (some b))) hG)
    have R4 := hid hR
    clear hR hG O3 N3 G3 R3
    obtain ⟨⟨d0, d1, d2, d3⟩, g0, g1, g2, g3⟩ := four_cells (unhid N4)
    obtain ⟨⟨c0, c1, c2, c3⟩, f0, f1, f2, f3⟩ := four_cells (unhid O4)
    go_wp2_with fail
    refine bodyPost_ret (v := .agg #[.string x, .int .i64 3, .int .i64 0, .string y]) (by simp [results, Tryz.results223, go_sem, World.cell?_setCell_same', c0, c1, c2, c3]) rfl ⟨⟨x, 3, 0, y⟩, ⟨hx, nice_short hy⟩, rfl, ⟨_, ?_, (((((unhid R4).set' ?_ _).set' ?_ _).set' ?_ _).set' ?_ _).set' ?_ _⟩, grown_set' (grown_set' (grown_set' (grown_set' (grown_set' (unhid G4) ?_ _) ?_ _) ?_ _) ?_ _) ?_ _⟩
    all_goals (try dsimp only); omega
end Go.Proofs.YtoihhlkidlapmaaGreat

namespace Go.Proofs.YtoihhlkidlapmaaGreat
open Go.RowKit
theorem odd_short (y : ByteArray) (hy : y.size ≤ 100) : (#[Value.string ⟨#[1]⟩, .string y, .string ⟨#[120]⟩, .string ⟨#[]⟩] : Array Value).toList.all shortV = true := by
  have : decide (y.size ≤ 100) = true := decide_eq_true hy
  simp only [List.all_cons, List.all_nil, Bool.and_true, shortV, this]
  decide
set_option maxRecDepth 100000 in
set_option maxHeartbeats 4000000 in
theorem l11AnyEntry_any (w : World) (b : Nat) (a : Option Addr) (len cap p : Nat) (h : Rd w b a len cap p) (hp : p ≤ 900000) :
    Calls Tryz.prog 162 #[.pointer (some ⟨b, 0, none⟩)] w fun x w' => ∃ e : Ent, niceE e ∧ x = .returned (.agg e.vals) ∧ (∃ p', p' ≤ p + 8 ∧ Rd w' b a len cap p') ∧ w.grownBy w' (some b) := by
  have H := hid (h.alloc (.cells #[.string ⟨#[]⟩, .int .i64 0, .int .i64 0, .string ⟨#[]⟩] 57))
  have hbl := h.lt
  clear h
  go_enter Tryz.func162, Tryz.ntmps162
  go_wp2_with fail
  refine (l11Entry_any _ b a len cap p (unhid H) (by omega)).mono ?_
  rintro e w1 ⟨⟨x, k, m, t⟩, hx, rfl, ⟨p1, hp1, hR⟩, hG⟩
  unfold Ent.vals
  dsimp only
  have hz1 : w.heap.size + 1 ≤ w1.heap.size := by have := hG.size; simpa using this
  have O0 : OneAt (w.alloc (.cells #[.string ⟨#[]⟩, .int .i64 0, .int .i64 0, .string ⟨#[]⟩] 57)) w.heap.size Ent.none := World.alloc_heap_new _ _
  have O1 := hid ((O0.grown hG (by intro e; injection e; omega)).alloc (.cells #[.string x, .int .i64 k, .int .i64 m, .string t] 57))
  have N1 := hid (show OneAt (w1.alloc (.cells #[.string x, .int .i64 k, .int .i64 m, .string t] 57)) w1.heap.size ⟨x, k, m, t⟩ from World.alloc_heap_new _ _)
  have G1 := hid (grown_trans (grown_trans (World.grownBy_alloc w _ (some b)) hG) (World.grownBy_alloc w1 (.cells #[.string x, .int .i64 k, .int .i64 m, .string t] 57) (some b)))
  have R1 := hid (hR.alloc (.cells #[.string x, .int .i64 k, .int .i64 m, .string t] 57))
  clear hR hG O0 H
  have hne' : ¬ w1.heap.size = w.heap.size := by omega
  have hne2 : ¬ w.heap.size = w1.heap.size := by omega
  have hzW : (w1.alloc (.cells #[.string x, .int .i64 k, .int .i64 m, .string t] 57)).heap.size = w1.heap.size + 1 := by simp
  go_wp2_with fail
  generalize w1.alloc (.cells #[.string x, .int .i64 k, .int .i64 m, .string t] 57) = W at *
  refine (pick_any W b a len cap p1 (unhid R1) (by omega) 14 (by omega) (by omega)).mono ?_
  rintro e w2 ⟨r, hr, rfl, hR, hG⟩
  have O2 := hid ((unhid O1).grown hG (by intro e; injection e; omega))
  have N2 := hid ((unhid N1).grown hG (by intro e; injection e; omega))
  have G2 := hid (grown_trans (unhid G1) hG)
  have R2 := hid hR
  have hz2 : w1.heap.size + 1 ≤ w2.heap.size := by have := hG.size; omega
  clear hR hG O1 N1 G1 R1 hzW
  have hr5 : r = 0 ∨ r = 1 ∨ r = 2 ∨ r = 3 ∨ 4 ≤ r := by omega
  rcases hr5 with rfl | rfl | rfl | rfl | hr4
  · go_wp2_with fail
    refine (l11AnyPath_nice _ b a len cap _ (unhid R2) (by omega)).mono ?_
    rintro e w3 ⟨y, hy, rfl, hR, hG0⟩
    have hG : w2.grownBy w3 (some b) := hG0
    clear hG0
    have O3 := hid ((unhid O2).grown hG (by intro e; injection e; omega))
    have N3 := hid ((unhid N2).grown hG (by intro e; injection e; omega))
    have G3 := hid (grown_trans (unhid G2) hG)
    have R3 := hid hR
    have hz3 := hG.size
    clear hR hG O2 N2 G2 R2
    obtain ⟨⟨d0, d1, d2, d3⟩, g0, g1, g2, g3⟩ := four_cells (unhid N3)
    obtain ⟨⟨c0, c1, c2, c3⟩, f0, f1, f2, f3⟩ := four_cells (unhid O3)
    dsimp only at d0 d1 d2 d3
    go_wp2_with fail
    refine bodyPost_ret (v := .agg #[.string y, .int .i64 k, .int .i64 m, .string t]) (by simp [results, Tryz.results162, go_sem, World.cell?_setCell_same', c0, c1, c2, c3]) rfl ⟨⟨y, k, m, t⟩, ⟨hy, hx.2⟩, rfl, ⟨_, ?_, (((((unhid R3).set' ?_ _).set' ?_ _).set' ?_ _).set' ?_ _).set' ?_ _⟩, grown_set' (grown_set' (grown_set' (grown_set' (grown_set' (unhid G3) ?_ _) ?_ _) ?_ _) ?_ _) ?_ _⟩
    all_goals (try dsimp only); omega
  · go_wp2_with fail
    refine (pick_any _ b a len cap _ (unhid R2) (by omega) 5 (by omega) (by omega)).mono ?_
    rintro e w3 ⟨y, hy, rfl, hR, hG0⟩
    have hG : w2.grownBy w3 (some b) := hG0
    clear hG0
    have O3 := hid ((unhid O2).grown hG (by intro e; injection e; omega))
    have N3 := hid ((unhid N2).grown hG (by intro e; injection e; omega))
    have G3 := hid (grown_trans (unhid G2) hG)
    have R3 := hid hR
    have hz3 := hG.size
    clear hR hG O2 N2 G2 R2
    obtain ⟨⟨d0, d1, d2, d3⟩, g0, g1, g2, g3⟩ := four_cells (unhid N3)
    obtain ⟨⟨c0, c1, c2, c3⟩, f0, f1, f2, f3⟩ := four_cells (unhid O3)
    dsimp only at d0 d1 d2 d3
    go_wp2_with fail
    refine bodyPost_ret (v := .agg #[.string x, .int .i64 y, .int .i64 m, .string t]) (by simp [results, Tryz.results162, go_sem, World.cell?_setCell_same', c0, c1, c2, c3]) rfl ⟨⟨x, y, m, t⟩, hx, rfl, ⟨_, ?_, (((((unhid R3).set' ?_ _).set' ?_ _).set' ?_ _).set' ?_ _).set' ?_ _⟩, grown_set' (grown_set' (grown_set' (grown_set' (grown_set' (unhid G3) ?_ _) ?_ _) ?_ _) ?_ _) ?_ _⟩
    all_goals (try dsimp only); omega
  · go_wp2_with fail
    refine (one_any (fun k => (decide (-1 ≤ k) && decide (k ≤ 8)) = true) _ b a len cap _ ((unhid R2).alloc _) (by omega) w2.heap.size 3 3 (by have := (unhid R2).lt; omega) (by omega) (by omega) ?h5).mono ?_
    case h5 => exact fun k hk => row_int (fun k => decide (-1 ≤ k) && decide (k ≤ 8)) _ _ _ _ rfl (by kernel_rfl) k hk
    rintro e w3 ⟨y, hy, rfl, hR, hG0⟩
    have hG : w2.grownBy w3 (some b) := grown_trans (World.grownBy_alloc w2 _ (some b)) hG0
    clear hG0
    have O3 := hid ((unhid O2).grown hG (by intro e; injection e; omega))
    have N3 := hid ((unhid N2).grown hG (by intro e; injection e; omega))
    have G3 := hid (grown_trans (unhid G2) hG)
    have R3 := hid hR
    have hz3 := hG.size
    clear hR hG O2 N2 G2 R2
    obtain ⟨⟨d0, d1, d2, d3⟩, g0, g1, g2, g3⟩ := four_cells (unhid N3)
    obtain ⟨⟨c0, c1, c2, c3⟩, f0, f1, f2, f3⟩ := four_cells (unhid O3)
    dsimp only at d0 d1 d2 d3
    go_wp2_with fail
    refine bodyPost_ret (v := .agg #[.string x, .int .i64 k, .int .i64 y, .string t]) (by simp [results, Tryz.results162, go_sem, World.cell?_setCell_same', c0, c1, c2, c3]) rfl ⟨⟨x, k, y, t⟩, hx, rfl, ⟨_, ?_, (((((unhid R3).set' ?_ _).set' ?_ _).set' ?_ _).set' ?_ _).set' ?_ _⟩, grown_set' (grown_set' (grown_set' (grown_set' (grown_set' (unhid G3) ?_ _) ?_ _) ?_ _) ?_ _) ?_ _⟩
    all_goals (try dsimp only); omega
  · go_wp2_with fail
    have hzz : (rep ⟨#[117]⟩ 81).size ≤ 100 := by rw [rep_size]; decide
    refine (many_rep ⟨#[117]⟩ 81 (by decide) (by omega) w2).mono ?_
    rintro e w2' ⟨rfl, e2⟩
    rw [e2]
    clear e2 w2'
    generalize rep ⟨#[117]⟩ 81 = yy at hzz
    go_wp2_with fail
    refine (of_any short _ b a len cap _ ((unhid R2).alloc _) (by omega) w2.heap.size 4 4 (by have := (unhid R2).lt; omega) (by omega) (by omega) ?h5).mono ?_
    case h5 => exact fun k hk => row_short2 _ _ _ _ rfl (odd_short yy hzz) k hk
    rintro e w3 ⟨y, hy, rfl, hR, hG0⟩
    have hG : w2.grownBy w3 (some b) := grown_trans (World.grownBy_alloc w2 _ (some b)) hG0
    clear hG0
    have O3 := hid ((unhid O2).grown hG (by intro e; injection e; omega))
    have N3 := hid ((unhid N2).grown hG (by intro e; injection e; omega))
    have G3 := hid (grown_trans (unhid G2) hG)
    have R3 := hid hR
    have hz3 := hG.size
    clear hR hG O2 N2 G2 R2
    obtain ⟨⟨d0, d1, d2, d3⟩, g0, g1, g2, g3⟩ := four_cells (unhid N3)
    obtain ⟨⟨c0, c1, c2, c3⟩, f0, f1, f2, f3⟩ := four_cells (unhid O3)
    dsimp only at d0 d1 d2 d3
    go_wp2_with fail
    refine bodyPost_ret (v := .agg #[.string x, .int .i64 k, .int .i64 m, .string y]) (by simp [results, Tryz.results162, go_sem, World.cell?_setCell_same', c0, c1, c2, c3]) rfl ⟨⟨x, k, m, y⟩, ⟨hx.1, hy⟩, rfl, ⟨_, ?_, (((((unhid R3).set' ?_ _).set' ?_ _).set' ?_ _).set' ?_ _).set' ?_ _⟩, grown_set' (grown_set' (grown_set' (grown_set' (grown_set' (unhid G3) ?_ _) ?_ _) ?_ _) ?_ _) ?_ _⟩
    all_goals (try dsimp only); omega
  · have b0 : ((r : Int) == 0) = false := by rw [beq_eq_false_iff_ne]; omega
    have b1 : ((r : Int) == 1) = false := by rw [beq_eq_false_iff_ne]; omega
    have b2 : ((r : Int) == 2) = false := by rw [beq_eq_false_iff_ne]; omega
    have b3 : ((r : Int) == 3) = false := by rw [beq_eq_false_iff_ne]; omega
    obtain ⟨⟨d0, d1, d2, d3⟩, g0, g1, g2, g3⟩ := four_cells (unhid N2)
    obtain ⟨⟨c0, c1, c2, c3⟩, f0, f1, f2, f3⟩ := four_cells (unhid O2)
    dsimp only at d0 d1 d2 d3
    go_wp2_with fail
    refine bodyPost_ret (v := .agg #[.string x, .int .i64 k, .int .i64 m, .string t]) (by simp [results, Tryz.results162, go_sem, World.cell?_setCell_same', c0, c1, c2, c3]) rfl ⟨⟨x, k, m, t⟩, hx, rfl, ⟨_, ?_, ((((unhid R2).set' ?_ _).set' ?_ _).set' ?_ _).set' ?_ _⟩, grown_set' (grown_set' (grown_set' (grown_set' (unhid G2) ?_ _) ?_ _) ?_ _) ?_ _⟩
    all_goals (try dsimp only); omega
end Go.Proofs.YtoihhlkidlapmaaGreat

namespace Go.Proofs.YtoihhlkidlapmaaGreat
open Go.RowKit
def fig (n : Nat) : UInt8 := UInt8.ofNat (48 + n)
def decL (n : Nat) : List UInt8 := if n < 10 then [fig n] else decL (n / 10) ++ [fig (n % 10)]
termination_by n
decreasing_by omega
def decA (n : Nat) : ByteArray := ⟨(decL n).toArray⟩
theorem decL_small {n : Nat} (h : n < 10) : decL n = [fig n] := by rw [decL, if_pos h]
theorem decL_more {n : Nat} (h : ¬ n < 10) : decL n = decL (n / 10) ++ [fig (n % 10)] := by rw [decL, if_neg h]
theorem decA_small {n : Nat} (h : n < 10) : decA n = ⟨#[fig n]⟩ := by unfold decA; rw [decL_small h]
theorem decA_more {n : Nat} (h : ¬ n < 10) : decA n = decA (n / 10) ++ ⟨#[fig (n % 10)]⟩ := by
  unfold decA; rw [decL_more h]
  apply ByteArray.ext
  simp [ByteArray.data_append]
theorem decL_len : ∀ (f n : Nat), n < 10 ^ f → (decL n).length ≤ f + 1
  | 0, n, h => by rw [decL_small (by omega)]; simp
  | f + 1, n, h => by
    by_cases hn : n < 10
    · rw [decL_small hn]; simp
    · rw [decL_more hn]
      have := decL_len f (n / 10) (by rw [Nat.pow_succ] at h; omega)
      simp; omega
theorem decA_size {n : Nat} (h : n < 10 ^ 18) : (decA n).size ≤ 19 := by
  have := decL_len 18 n h
  simpa [decA, ByteArray.size] using this
theorem drew_below0 {B : Nat} (w : World) : Below B w w.drew := ⟨rfl, rfl, rfl, Nat.le_refl _, fun _ _ => rfl⟩
theorem conv_byte (W : World) (g n : Nat) (hn : n < 10) (h : W.cell? ⟨g, 0, none⟩ = some (.int .u8 (48 + (n : Int)))) : Sem.run Tryz.prog (convert 22 9 (.slice (some ⟨g, 0, none⟩) 1 1)) W = .ok (.string ⟨#[fig n]⟩) W := by
  refine run_convert_bytes_back (P := Tryz.prog) _ 22 9 5 ⟨g, 0, none⟩ 1 [fig n] (by kernel_rfl) (by kernel_rfl) (by kernel_rfl) (fun j hj => ?_)
  have : j = 0 := by simpa using hj
  subst this
  simp [Addr.add, h, fig, UInt8.toNat_ofNat']
  omega
set_option maxRecDepth 100000 in
set_option maxHeartbeats 2000000 in
theorem l1Dec_any : ∀ (f n : Nat) (w : World), n < 10 ^ f → f ≤ 18 →
    Calls Tryz.prog 224 #[.int .i64 (n : Int)] w fun x w' => x = .returned (.string (decA n)) ∧ Below w.heap.size w w' := by
  intro f
  induction f with
  | zero =>
    intro n w hn _
    have : n = 0 := by omega
    subst this
    have hcv := conv_byte (w.alloc (.cells #[.int .u8 48] 5)) w.heap.size 0 (by omega) (by simp [go_sem])
    have E := hid (decA_small (n := 0) (by omega))
    go_enter Tryz.func224, Tryz.ntmps224
    go_wp2_with fail
    go_ret
    exact ⟨by rw [unhid E]; rfl, (Below.refl _ w).alloc (Nat.le_refl _) _⟩
  | succ f ih =>
    intro n w hn hf
    have hbig : n < 1000000000000000000 := Nat.lt_of_lt_of_le hn (Nat.pow_le_pow_right (by omega) hf)
    by_cases h10 : n < 10
    · have hcv := conv_byte (w.alloc (.cells #[.int .u8 (48 + (n : Int))] 5)) w.heap.size n h10 (by simp [go_sem])
      have E := hid (decA_small h10)
      go_enter Tryz.func224, Tryz.ntmps224
      go_wp2_with fail
      go_ret
      exact ⟨by rw [unhid E]; rfl, (Below.refl _ w).alloc (Nat.le_refl _) _⟩
    · have E := hid (decA_more h10)
      have IH := hid (fun W => ih (n / 10) W (by rw [Nat.pow_succ] at hn; omega) (by omega))
      have hsz : (decA (n / 10)).size ≤ 19 := decA_size (by omega)
      have q1 : ((n : Int) / 10) = ((n / 10 : Nat) : Int) := by omega
      have q2 : ((n : Int) % 10) = ((n % 10 : Nat) : Int) := by omega
      have hd : n % 10 < 10 := by omega
      have hm : n / 10 < 1000000000000000000 := by omega
      generalize decA (n / 10) = y at *
      generalize n / 10 = m at *
      generalize n % 10 = d at *
      clear ih hn
      go_enter Tryz.func224, Tryz.ntmps224
      go_wp2_with fail
      have t1 : ((n : Int)).tmod 10 = (d : Int) := by rw [Int.tmod_eq_emod_of_nonneg (by omega)]; exact q2
      have v1 : IntKind.i64.wrap (m : Int) = (m : Int) := by simp [IntKind.wrap, IntKind.signed, IntKind.bits]; omega
      have v2 : IntKind.i64.wrap (48 + (d : Int)) = 48 + (d : Int) := by simp [IntKind.wrap, IntKind.signed, IntKind.bits]; omega
      have v3 : IntKind.u8.wrap (48 + (d : Int)) = 48 + (d : Int) := by simp [IntKind.wrap, IntKind.signed, IntKind.bits]; omega
      have hsz2 : y.size ≤ 9223372036854775806 := by omega
      have hz1 : (⟨#[fig d]⟩ : ByteArray).size = 1 := rfl
      refine wp_region_held_drew (S := fun w' => Below w.heap.size w w') (by kernel_rfl) (drew_below0 _) (fun hS => ?_)
      refine wpAnyH_take (i := 0) (v := .int .i64 (n : Int)) rfl (by kernel_rfl) (by kernel_rfl) (by kernel_rfl) (fun _ _ _ h => h) (Or.inl ⟨by rfl, fun w hw => by go_simp⟩) hS ?_
      refine wpAnyH_take (i := 1) (v := .int .i64 (m : Int)) rfl (by kernel_rfl) (by kernel_rfl) (by kernel_rfl) (fun _ _ _ h => h) (Or.inl ⟨by rfl, fun w hw => by go_simp⟩) hS ?_
      refine wpAnyH_take (i := 3) (v := .int .i64 (n : Int)) rfl (by kernel_rfl) (by kernel_rfl) (by kernel_rfl) (fun _ _ _ h => h) (Or.inl ⟨by rfl, fun w hw => by go_simp⟩) hS ?_
      refine wpAnyH_take (i := 4) (v := .int .i64 (d : Int)) rfl (by kernel_rfl) (by kernel_rfl) (by kernel_rfl) (fun _ _ _ h => h) (Or.inl ⟨by rfl, fun w hw => by go_simp⟩) hS ?_
      refine wpAnyH_take (i := 5) (v := .int .i64 (48 + (d : Int))) rfl (by kernel_rfl) (by kernel_rfl) (by kernel_rfl) (fun _ _ _ h => h) (Or.inl ⟨by rfl, fun w hw => by go_simp⟩) hS ?_
      refine wpAnyH_take (i := 6) (v := .int .u8 (48 + (d : Int))) rfl (by kernel_rfl) (by kernel_rfl) (by kernel_rfl) (fun _ _ _ h => h) (Or.inl ⟨by rfl, fun w hw => by go_simp⟩) hS ?_
      generalize w.drew = W at hS ⊢
      refine wpAnyH_ready (rs := [2, 7]) (by kernel_rfl) (by simp) ?_
      refine AllReadyH.cons rfl (fun K hK => ?_) (AllReadyH.cons rfl (fun K hK => ?_) AllReadyH.nil)
      · go_simp
        refine (unhid IH W).mono ?_
        rintro x W1 ⟨rfl, hB⟩
        have hS1 := hS.trans (hB.mono hS.size)
        refine hK.out _ _ hS1 (fun _ => ?_)
        clear hK K hS hB
        have hS := hS1
        clear hS1
        refine wpAnyH_ready (rs := [7]) (by kernel_rfl) (by simp) ?_
        refine AllReadyH.cons rfl (fun K hK => ?_) AllReadyH.nil
        go_simp
        have hcell : (W1.alloc (.cells #[.int .u8 (48 + (d : Int))] 5)).cell? ⟨W1.heap.size, 0, none⟩ = some (.int .u8 (48 + (d : Int))) := by simp [go_sem]
        have hg : W1.heap.size < (W1.alloc (.cells #[.int .u8 (48 + (d : Int))] 5)).heap.size := by simp
        have hS1 := hS.alloc hS.size (.cells #[.int .u8 (48 + (d : Int))] 5)
        refine hK.out _ _ hS1 (fun _ => ?_)
        clear hK K hS
        generalize W1.alloc (.cells #[.int .u8 (48 + (d : Int))] 5) = W2 at hS1 hcell hg ⊢
        generalize W1.heap.size = g at hcell hg ⊢
        have hS := hS1
        clear hS1
        refine wpAnyH_ready (rs := [8]) (by kernel_rfl) (by simp) ?_
        refine AllReadyH.cons rfl (fun K hK => ?_) AllReadyH.nil
        have hcv := conv_byte W2 g d hd hcell
        go_simp
        refine hK.out _ _ hS (fun _ => ?_)
        clear hK K hcv
        refine wpAnyH_take (i := 9) (v := .string (y ++ ⟨#[fig d]⟩)) rfl (by kernel_rfl) (by kernel_rfl) (by kernel_rfl) (fun _ _ _ h => h) (Or.inl ⟨by rfl, fun w hw => by go_simp⟩) hS ?_
        refine wpAnyH_take (i := 10) (v := .string (y ++ ⟨#[fig d]⟩)) rfl (by kernel_rfl) (by kernel_rfl) (by kernel_rfl) (fun _ _ _ h => h) (Or.inl ⟨by rfl, fun w hw => by go_simp⟩) hS ?_
        refine wpAnyH_done (by kernel_rfl) ?_ _
        go_wp2_with fail
        go_ret
        exact ⟨by rw [unhid E]; rfl, hS⟩
      · go_simp
        have hcell : (W.alloc (.cells #[.int .u8 (48 + (d : Int))] 5)).cell? ⟨W.heap.size, 0, none⟩ = some (.int .u8 (48 + (d : Int))) := by simp [go_sem]
        have hg : W.heap.size < (W.alloc (.cells #[.int .u8 (48 + (d : Int))] 5)).heap.size := by simp
        have hS1 := hS.alloc hS.size (.cells #[.int .u8 (48 + (d : Int))] 5)
        refine hK.out _ _ hS1 (fun _ => ?_)
        clear hK K hS
        generalize W.alloc (.cells #[.int .u8 (48 + (d : Int))] 5) = W1 at hS1 hcell hg ⊢
        generalize W.heap.size = g at hcell hg ⊢
        have hS := hS1
        clear hS1
        refine wpAnyH_ready (rs := [2, 8]) (by kernel_rfl) (by simp) ?_
        refine AllReadyH.cons rfl (fun K hK => ?_) (AllReadyH.cons rfl (fun K hK => ?_) AllReadyH.nil)
        · go_simp
          refine (unhid IH W1).mono ?_
          rintro x W2 ⟨rfl, hB⟩
          have hS1 := hS.trans (hB.mono hS.size)
          have hcell1 := (hB.cell (p := ⟨g, 0, none⟩) hg).trans hcell
          have hg1 := Nat.lt_of_lt_of_le hg hB.size
          refine hK.out _ _ hS1 (fun _ => ?_)
          clear hK K hS hB
          have hS := hS1
          clear hS1
          clear hcell hg
          have hcell := hcell1
          have hg := hg1
          clear hcell1 hg1
          refine wpAnyH_ready (rs := [8]) (by kernel_rfl) (by simp) ?_
          refine AllReadyH.cons rfl (fun K hK => ?_) AllReadyH.nil
          have hcv := conv_byte W2 g d hd hcell
          go_simp
          refine hK.out _ _ hS (fun _ => ?_)
          clear hK K hcv
          refine wpAnyH_take (i := 9) (v := .string (y ++ ⟨#[fig d]⟩)) rfl (by kernel_rfl) (by kernel_rfl) (by kernel_rfl) (fun _ _ _ h => h) (Or.inl ⟨by rfl, fun w hw => by go_simp⟩) hS ?_
          refine wpAnyH_take (i := 10) (v := .string (y ++ ⟨#[fig d]⟩)) rfl (by kernel_rfl) (by kernel_rfl) (by kernel_rfl) (fun _ _ _ h => h) (Or.inl ⟨by rfl, fun w hw => by go_simp⟩) hS ?_
          refine wpAnyH_done (by kernel_rfl) ?_ _
          go_wp2_with fail
          go_ret
          exact ⟨by rw [unhid E]; rfl, hS⟩
        · have hcv := conv_byte W1 g d hd hcell
          go_simp
          refine hK.out _ _ hS (fun _ => ?_)
          clear hK K hcv
          refine wpAnyH_ready (rs := [2]) (by kernel_rfl) (by simp) ?_
          refine AllReadyH.cons rfl (fun K hK => ?_) AllReadyH.nil
          go_simp
          refine (unhid IH W1).mono ?_
          rintro x W2 ⟨rfl, hB⟩
          have hS1 := hS.trans (hB.mono hS.size)
          refine hK.out _ _ hS1 (fun _ => ?_)
          clear hK K hS hB
          have hS := hS1
          clear hS1
          refine wpAnyH_take (i := 9) (v := .string (y ++ ⟨#[fig d]⟩)) rfl (by kernel_rfl) (by kernel_rfl) (by kernel_rfl) (fun _ _ _ h => h) (Or.inl ⟨by rfl, fun w hw => by go_simp⟩) hS ?_
          refine wpAnyH_take (i := 10) (v := .string (y ++ ⟨#[fig d]⟩)) rfl (by kernel_rfl) (by kernel_rfl) (by kernel_rfl) (fun _ _ _ h => h) (Or.inl ⟨by rfl, fun w hw => by go_simp⟩) hS ?_
          refine wpAnyH_done (by kernel_rfl) ?_ _
          go_wp2_with fail
          go_ret
          exact ⟨by rw [unhid E]; rfl, hS⟩
end Go.Proofs.YtoihhlkidlapmaaGreat
