/- Texts of this proof, one behind the other; each says at its head what it shows. -/
import Derived.Test.YtoihhlkidlapmaaGreatJoin14
import Derived.Deep.LoopGhost
import Derived.Test.YtoihhlkidlapmaaGreatJoin5
import Derived.Test.YtoihhlkidlapmaaGreatJoin10
import Derived.Test.YtoihhlkidlapmaaGreatJoin13
import Derived.Test.YtoihhlkidlapmaaGreatJoin8
import Derived.Test.YtoihhlkidlapmaaGreatJoin1
import Derived.Test.YtoihhlkidlapmaaGreatJoin9
import Derived.Deep.CutBlock
import Derived.Maps.OwnRows
import Derived.Maps.GroupsBeside
namespace Go.Proofs.YtoihhlkidlapmaaGreat
open Go.RowKit Go.Shelf Go.Maps
def GoR (N g : Nat) (pv : Value) (ps : List packC.D) (mb kb : Nat) (D : DataW Unit) (c : Int) (S : WS) (W : World) (e : Ending) (W' : World) : Prop := ∃ st wv nv, e = .returned (.int .i64 c) ∧ WK W' N g pv ps st S mb kb D wv nv ∧ StOk (namesP ps) S st ∧ Below N W W'
def WS.pop (S : WS) (rest : List Nat) (x : ByteArray) : WS := ⟨rest, S.ask, S.out ++ [x]⟩
def WS.more (S : WS) (i : Nat) : WS := ⟨S.wt, fun j => if j = i then S.ask i + 1 else S.ask j, S.out⟩
set_option maxRecDepth 100000 in
set_option maxHeartbeats 16000000 in
theorem goOn_out (N g : Nat) (pa : Option Addr) (pc : Nat) (ps : List packC.D) (st : Nat → Int) (S : WS) (mb kb : Nat) (D : DataW Unit) (wv nv : Value) (i : Nat) (rest : List Nat) (p : packC.D) (W : World) (hsm : smallPs ps) (hnd : (namesP ps).Nodup) (hol : S.out.length ≤ 1048576) (hask : S.ask i = (PackD.needs p).length) (hw : S.wt = i :: rest) (hi : ps[i]? = some p) (hrl : rest.length ≤ 1048576) (hP : ∀ W' : World, Below N W W' → rowAt packC W' (.slice pa ps.length pc) ps) (h : WK W N g (.slice pa ps.length pc) ps st S mb kb D wv nv) (hs : StOk (namesP ps) S st) :
    Calls Tryz.prog 121 #[.pointer (some ⟨g, 0, none⟩)] W (GoR N g (.slice pa ps.length pc) ps mb kb D 0 (S.pop rest (PackD.name p)) W) := by
  have hil : i < ps.length := (List.getElem?_eq_some_iff.1 hi).1
  obtain ⟨wb, wc, rfl, l0, hwb, hwc, hpop⟩ := h.last hw
  have hp := hP W (Below.refl _ _)
  have HP := hid hP
  obtain ⟨a', c', ev, -, -, hrow⟩ := hp
  injection ev with ea _ ec
  subst ea ec
  obtain ⟨b, o, rfl, hbl, hc⟩ := hrow.resolve_left (by intro e; rw [e] at hil; simp at hil)
  obtain ⟨na, nc, ta, tc, ⟨c0, c1, c2, c3⟩, hat⟩ := pack_cells (Below.refl W.heap.size W) hbl hc hi
  have hgl := h.glt
  obtain ⟨⟨b0, b1, b2, b3, b4⟩, -, -⟩ := h.cells
  obtain ⟨⟨k0, k1⟩, -, -⟩ := h.markAt hil
  have H := hid h
  have HS := hid hs
  have HI := hid hi
  have HAT := hid hat
  have HPOP := hid hpop
  have SP := hid (hsm.2 p (List.mem_of_getElem? hi))
  have HLT := hid (And.intro hwb (And.intro hbl hgl))
  clear hrow hc h hs hi hat hpop hwb hbl hgl hP
  go_enter Tryz.func121, Tryz.ntmps121
  go_wp2_with fail
  have g0 : ∀ x : CW (fun w' => Below W.heap.size W w'), x.w.cell? ⟨g, 0, none⟩ = some (.slice (some ⟨b, o, none⟩) ps.length pc) := fun x => (x.h.cell (p := ⟨g, 0, none⟩) (unhid HLT).2.2.1).trans b0
  have g2 : ∀ x : CW (fun w' => Below W.heap.size W w'), x.w.cell? ⟨g, 2, none⟩ = some (.slice (some ⟨kb, 0, none⟩) ps.length ps.length) := fun x => (x.h.cell (p := ⟨g, 2, none⟩) (unhid HLT).2.2.1).trans b2
  have g3 : ∀ x : CW (fun w' => Below W.heap.size W w'), x.w.cell? ⟨g, 3, none⟩ = some (.slice (some ⟨wb, 0, none⟩) (rest.length + 1) wc) := fun x => (x.h.cell (p := ⟨g, 3, none⟩) (unhid HLT).2.2.1).trans b3
  have gl : ∀ x : CW (fun w' => Below W.heap.size W w'), x.w.cell? ⟨wb, rest.length, none⟩ = some (.int .i64 (i : Int)) := fun x => (x.h.cell (p := ⟨wb, rest.length, none⟩) (unhid HLT).1).trans l0
  have q0 : ∀ x : CW (fun w' => Below W.heap.size W w'), x.w.cell? ⟨b, o + i * 4, none⟩ = some (.string (PackD.name p)) := fun x => (x.h.cell (p := ⟨b, o + i * 4, none⟩) (unhid HLT).2.1).trans c0
  have q1 : ∀ x : CW (fun w' => Below W.heap.size W w'), x.w.cell? ⟨b, o + i * 4 + 1, none⟩ = some (.string (PackD.version p)) := fun x => (x.h.cell (p := ⟨b, o + i * 4 + 1, none⟩) (unhid HLT).2.1).trans c1
  have q2 : ∀ x : CW (fun w' => Below W.heap.size W w'), x.w.cell? ⟨b, o + i * 4 + 2, none⟩ = some (.slice na (PackD.needs p).length nc) := fun x => (x.h.cell (p := ⟨b, o + i * 4 + 2, none⟩) (unhid HLT).2.1).trans c2
  have q3 : ∀ x : CW (fun w' => Below W.heap.size W w'), x.w.cell? ⟨b, o + i * 4 + 3, none⟩ = some (.slice ta (PackD.tree p).length tc) := fun x => (x.h.cell (p := ⟨b, o + i * 4 + 3, none⟩) (unhid HLT).2.1).trans c3
  have hba : ∀ {q : Prop}, (CW (fun w' => Below W.heap.size W w') → q) ↔ q := CW.all (Below.refl _ W)
  refine held_begin (fun w' => Below W.heap.size W w') (by kernel_rfl) (drew_belowS _) ?_
  refine held_here [true, true, true, true, true, true, true, true, true, true, true, true, true, true, true, true, true, true, true, true, true, true, true, true, true] (by kernel_rfl) (by kernel_rfl) (fun _ _ _ _ _ h => h) (drew_belowS _) ?_
  dsimp only [pick]
  repeat (go_big_quiet_step (fail))
  refine wpQuiet_nil ?_
  clear hba g0 g2 g3 gl q0 q1 q2 q3
  have hD := drew_belowS (B := W.heap.size) W
  have HSZ := hid (show W.drew.heap.size = W.heap.size from rfl)
  generalize W.drew = W1 at hD HSZ ⊢
  have hbx := World.alloc_heap_new W1 (.cells #[.string ⟨#[]⟩, .string ⟨#[]⟩, .slice none 0 0, .slice none 0 0] 34)
  have hb1 : Below W1.heap.size W1 (W1.alloc (.cells #[.string ⟨#[]⟩, .string ⟨#[]⟩, .slice none 0 0, .slice none 0 0] 34)) := (Below.refl _ W1).alloc (Nat.le_refl _) _
  have hD1 := hD.trans (hb1.mono hD.size)
  refine held_op 25 (by kernel_rfl) (by kernel_rfl) rfl (fun K hK => ?_)
  go_simp
  refine hK.out _ _ hD1 ?_
  clear hK K
  generalize W1.alloc (.cells #[.string ⟨#[]⟩, .string ⟨#[]⟩, .slice none 0 0, .slice none 0 0] 34) = W2 at hbx hb1 hD1 ⊢
  obtain ⟨o0, p0⟩ := cell_fz hbx 0 _ rfl
  obtain ⟨o1, p1⟩ := cell_fz hbx 1 _ rfl
  obtain ⟨o2, p2⟩ := cell_fz hbx 2 _ rfl
  obtain ⟨o3, p3⟩ := cell_fz hbx 3 _ rfl
  have hD2 := set4_below (.string (PackD.name p)) (.string (PackD.version p)) (.slice na (PackD.needs p).length nc) (.slice ta (PackD.tree p).length tc) hD1 (show W.heap.size ≤ W1.heap.size from hD.size)
  have hX2 := set4_same W2 W1.heap.size _ _ _ _ _ (.string (PackD.name p)) (.string (PackD.version p)) (.slice na (PackD.needs p).length nc) (.slice ta (PackD.tree p).length tc) hbx
  refine held_op 26 (by kernel_rfl) (by kernel_rfl) rfl (fun K hK => ?_)
  go_simp
  refine hK.out _ _ hD2 ?_
  clear hK K o0 p0 o1 p1 o2 p2 o3 p3 hbx hb1 hD1
  generalize (((W2.setCell ⟨W1.heap.size, 0, none⟩ (.string (PackD.name p))).setCell ⟨W1.heap.size, 1, none⟩ (.string (PackD.version p))).setCell ⟨W1.heap.size, 2, none⟩ (.slice na (PackD.needs p).length nc)).setCell ⟨W1.heap.size, 3, none⟩ (.slice ta (PackD.tree p).length tc) = W3 at hD2 hX2 ⊢
  have hba : ∀ {q : Prop}, (CW (fun w' => Below W.heap.size W w') → q) ↔ q := CW.all (Below.refl _ W)
  refine held_here [false, false, false, false, false, false, false, false, false, false, false, false, false, false, false, false, false, false, false, false, false, false, false, false, false, false, false, true] (by kernel_rfl) (by kernel_rfl) (fun _ _ _ _ _ h => h) hD2 ?_
  dsimp only [pick]
  repeat (go_big_quiet_step (fail))
  refine wpQuiet_nil ?_
  refine held_done (by kernel_rfl) ?_
  clear hba
  have hsz := unhid HSZ
  rw [hsz] at hX2 ⊢
  clear hD hsz HSZ
  have HB := hid hD2
  have BX := hid hX2
  clear hD2 hX2 b0 b1 b2 b3 b4 c0 c1 c2 c3 l0 k0 k1
  have H3 := hid ((unhid H).below (unhid HB))
  obtain ⟨⟨k0, k1⟩, f0, -⟩ := (unhid H3).markAt hil
  rw [hask] at k1
  have HASK := hid hask
  clear hask
  go_wp2_with fail
  have gm : ∀ x : CW (fun w' => Below W3.heap.size W3 w'), x.w.cell? ⟨kb, i * 2 + 1, none⟩ = some (.int .i64 ((PackD.needs p).length : Int)) := fun x => (x.h.cell (p := ⟨kb, i * 2 + 1, none⟩) (unhid H3).glt.2.2).trans k1
  have gb : ∀ x : CW (fun w' => Below W3.heap.size W3 w'), x.w.cell? ⟨W.heap.size, 2, none⟩ = some (.slice na (PackD.needs p).length nc) := fun x => cell_arrS ((x.h.block _ (Array.getElem?_eq_some_iff.1 (unhid BX)).1).trans (unhid BX)) 2 _ rfl
  have hba : ∀ {q : Prop}, (CW (fun w' => Below W3.heap.size W3 w') → q) ↔ q := CW.all (Below.refl _ W3)
  refine held_begin (fun w' => Below W3.heap.size W3 w') (by kernel_rfl) (drew_belowS _) ?_
  refine held_here [true, true, true, true, true, true, true, true] (by kernel_rfl) (by kernel_rfl) (fun _ _ _ _ _ h => h) (drew_belowS _) ?_
  dsimp only [pick]
  repeat (go_big_quiet_step (fail))
  refine wpQuiet_nil ?_
  refine held_done (by kernel_rfl) ?_
  clear hba gm gb k0 k1 f0
  have hD := drew_belowS (B := W3.heap.size) W3
  generalize W3.drew = W4 at hD ⊢
  have H4 := hid ((unhid H3).below hD)
  have HB4 := hid ((unhid HB).trans (hD.mono (unhid HB).size))
  have BX4 := hid ((hD.block _ (Array.getElem?_eq_some_iff.1 (unhid BX)).1).trans (unhid BX))
  clear hD H3 HB BX
  obtain ⟨⟨k0, k1⟩, f0, -⟩ := (unhid H4).markAt hil
  have H5 := hid ((unhid H4).mark (W' := W4.setCell ⟨kb, i * 2 + 0, none⟩ (.int .i64 2)) (st' := fun j => if j = i then 2 else st j) (S' := S) i 0 2 (by omega) rfl rfl rfl (fun j hj => ⟨by
    by_cases e : j = i
    · subst e; rw [if_pos rfl, if_pos (by omega)]
    · rw [if_neg e, if_neg (by omega)], by rw [if_neg (by omega)]⟩))
  rw [Nat.add_zero] at H5
  obtain ⟨⟨-, -, -, d3, -⟩, e3, -⟩ := (unhid H5).cells
  clear k1
  have hN : N ≤ W.heap.size := by have h1 := (unhid H).lo.1; have h2 := (unhid HLT).2.2.1; omega
  have HBN := hid (Below.setCell (p := ⟨g, 3, none⟩) (Below.setCell (p := ⟨kb, i * 2, none⟩) ((unhid HB4).mono hN) (unhid H).lo.2.2 (.int .i64 2)) (unhid H).lo.1 (.slice (some ⟨wb, 0, none⟩) rest.length wc))
  have hwg : wb ≠ g ∧ wb ≠ mb ∧ wb ≠ kb := ⟨fun e => (unhid H).wap.1 (by rw [e]; rfl), fun e => (unhid H).wap.2.1 (by rw [e]; rfl), fun e => (unhid H).wap.2.2 (by rw [e]; rfl)⟩
  have hb6 := heap_setCell_same (W4.setCell ⟨kb, i * 2, none⟩ (.int .i64 2)) g 3 _ _ (.slice (some ⟨wb, 0, none⟩) rest.length wc) (unhid H5).box
  have h6o : ∀ j, j ≠ g → ((W4.setCell ⟨kb, i * 2, none⟩ (.int .i64 2)).setCell ⟨g, 3, none⟩ (.slice (some ⟨wb, 0, none⟩) rest.length wc)).heap[j]? = (W4.setCell ⟨kb, i * 2, none⟩ (.int .i64 2)).heap[j]? := fun j hj => Below.heap_setCell _ _ _ _ hj
  have H6 := hid ((unhid H5).field (S' := ⟨rest, S.ask, S.out⟩) (nv' := nv) hb6 (fun j hj => h6o j (by rcases hj with rfl | rfl; exact (unhid H5).ap.1; exact (unhid H5).ap.2.1)) rfl
    (ownsRow_keep (ownsRow_keep ((unhid HPOP)) (fun j ej => by
      obtain rfl : wb = j := by injection ej
      exact (unhid HB4).block _ (unhid HLT).1)) (fun j ej => by
      obtain rfl : wb = j := by injection ej
      exact (h6o _ hwg.1).trans (Below.heap_setCell _ _ _ _ hwg.2.2)))
    (ownsRow_keep (unhid H5).names (fun j ej => h6o j (fun q => (unhid H5).nap.1 (by rw [ej]; exact congrArg some q))))
    ⟨fun e => hwg.1 (by injection e), fun e => hwg.2.1 (by injection e), fun e => hwg.2.2 (by injection e)⟩ (unhid H5).nap (fun j ej => (unhid H5).wn j (by rw [← ej]; rfl)))
  have BX6 := hid (show ((W4.setCell ⟨kb, i * 2, none⟩ (.int .i64 2)).setCell ⟨g, 3, none⟩ (.slice (some ⟨wb, 0, none⟩) rest.length wc)).heap[W.heap.size]? = _ from (h6o _ (by have := (unhid HLT).2.2.1; omega)).trans ((Below.heap_setCell _ _ _ _ (by have := (unhid HLT).2.2.2.2; dsimp only; omega)).trans (unhid BX4)))
  clear hb6 h6o hwg
  go_wp2_with fail
  generalize (W4.setCell ⟨kb, i * 2, none⟩ (.int .i64 2)).setCell ⟨g, 3, none⟩ (.slice (some ⟨wb, 0, none⟩) rest.length wc) = W6 at H6 BX6 HBN ⊢
  clear H5 d3 e3 k0 f0 H4 HB4 BX4 HPOP
  refine heldE_begin 11 (fun w' => w'.heap[g]? = W6.heap[g]? ∧ w'.heap[W.heap.size]? = W6.heap[W.heap.size]?) (by kernel_rfl) ?_
  have hC : (fun w' : World => w'.heap[g]? = W6.heap[g]? ∧ w'.heap[W.heap.size]? = W6.heap[W.heap.size]?) W6.drew := ⟨rfl, rfl⟩
  have gn : ∀ x : CW (fun w' => w'.heap[g]? = W6.heap[g]? ∧ w'.heap[W.heap.size]? = W6.heap[W.heap.size]?), x.w.cell? ⟨g, 4, none⟩ = some nv := fun x => cell_arrS (x.h.1.trans (unhid H6).box) 4 _ rfl
  have gb : ∀ x : CW (fun w' => w'.heap[g]? = W6.heap[g]? ∧ w'.heap[W.heap.size]? = W6.heap[W.heap.size]?), x.w.cell? ⟨W.heap.size, 0, none⟩ = some (.string (PackD.name p)) := fun x => cell_arrS (x.h.2.trans (unhid BX6)) 0 _ rfl
  have hba : ∀ {q : Prop}, (CW (fun w' => w'.heap[g]? = W6.heap[g]? ∧ w'.heap[W.heap.size]? = W6.heap[W.heap.size]?) → q) ↔ q := CW.all (C := fun w' => w'.heap[g]? = W6.heap[g]? ∧ w'.heap[W.heap.size]? = W6.heap[W.heap.size]?) hC
  refine heldE_here [true, true, true, true, true, true, true] (by kernel_rfl) (by kernel_rfl) (fun _ _ _ _ _ h => h) hC ?_
  dsimp only [pick]
  repeat (go_big_quiet_step (fail))
  refine wpQuiet_nil ?_
  clear hba gn gb
  have HNV := hid (show ∀ j, nv.ownBlock = some j → j ≠ W.heap.size from fun j ej => by have := ((unhid H).names.lt j ej).2; omega)
  have HGW := hid (show g < W.heap.size from (unhid HLT).2.2.1)
  have H7 := hid (show WK W6.drew N g (.slice (some ⟨b, o, none⟩) ps.length pc) ps (fun j => if j = i then 2 else st j) ⟨rest, S.ask, S.out⟩ mb kb D (.slice (some ⟨wb, 0, none⟩) rest.length wc) nv from (unhid H6).keep (fun _ _ _ => rfl))
  have HB7 := hid (show Below N W W6.drew from (unhid HBN).trans (drew_belowS _))
  have BX7 := hid (show W6.drew.heap[W.heap.size]? = W6.heap[W.heap.size]? from rfl)
  have BG7 := hid (show W6.drew.heap[g]? = W6.heap[g]? from rfl)
  have HX6 := hid (Array.getElem?_eq_some_iff.1 (unhid BX6)).1
  have HSZ := hid (show W6.drew.heap.size = W6.heap.size from rfl)
  generalize W6.drew = W7 at hC H7 HB7 BX7 BG7 HSZ ⊢
  clear hC HBN
  have hb8 : Below W7.heap.size W7 (W7.alloc (.cells #[.string (PackD.name p)] 9)) := (Below.refl _ W7).alloc (Nat.le_refl _) _
  have hc8 := cell_newN W7 (.string (PackD.name p)) 9
  have hz8 : (W7.alloc (.cells #[.string (PackD.name p)] 9)).heap.size = W7.heap.size + 1 := by simp
  have hC8 : (W7.alloc (.cells #[.string (PackD.name p)] 9)).heap[g]? = W6.heap[g]? ∧ (W7.alloc (.cells #[.string (PackD.name p)] 9)).heap[W.heap.size]? = W6.heap[W.heap.size]? := ⟨(hb8.block g (unhid H7).glt.1).trans (unhid BG7), (hb8.block _ (by have h1 := unhid HX6; have h2 := unhid HSZ; omega)).trans (unhid BX7)⟩
  refine heldE_op 7 (by kernel_rfl) (by kernel_rfl) rfl (fun K hK => ?_)
  go_simp
  refine hK.out _ _ hC8 ?_
  clear hK K
  have H8 := hid ((unhid H7).below hb8)
  have HB8 := hid ((unhid HB7).trans (hb8.mono (by have h1 := (unhid H7).lo.1; have h2 := (unhid H7).glt.1; omega)))
  have HZ8 := hid hz8
  generalize W7.alloc (.cells #[.string (PackD.name p)] 9) = W8 at hc8 hC8 H8 HB8 HZ8 ⊢
  clear hb8 hz8 H7 HB7 BX7 BG7
  refine heldE_op 8 (by kernel_rfl) (by kernel_rfl) rfl (fun K hK => ?_)
  refine name_op 66 N nv S.out (PackD.name p) W7.heap.size rfl rfl rfl rfl rfl (unhid H8).names hc8 (by omega) (by have h1 := (unhid H8).lo.1; have h2 := (unhid H8).glt.1; omega) ?_
  intro v' W9 hown hg hat
  obtain ⟨va, vc, hvv⟩ := ownsRow_sl hown
  rw [show (S.out ++ [PackD.name p]).length = S.out.length + 1 by simp] at hvv
  subst hvv
  obtain ⟨l1, l2, l3⟩ := (unhid H8).glt
  obtain ⟨p1, p2, p3⟩ := (unhid H8).nap
  have hC9 : W9.heap[g]? = W6.heap[g]? ∧ W9.heap[W.heap.size]? = W6.heap[W.heap.size]? := ⟨(hg.block g l1 (fun e => p1 e.symm)).trans hC8.1, (hg.block _ (by have h1 := unhid HX6; have h2 := unhid HSZ; have h3 := unhid HZ8; omega) (fun e => unhid HNV _ e.symm rfl)).trans hC8.2⟩
  refine hK.out _ _ hC9 ?_
  clear hK K
  simp only [Act.put, List.setIfInBounds_toArray, List.set_cons_zero, List.set_cons_succ]
  refine heldE_op 9 (by kernel_rfl) (by kernel_rfl) rfl (fun K hK => ?_)
  go_simp
  refine hK.out _ _ hC9 ?_
  clear hK K
  refine heldE_op 10 (by kernel_rfl) (by kernel_rfl) rfl (fun K hK => ?_)
  go_simp
  refine hK.out _ _ hC9 ?_
  clear hK K
  have hb9 := (hg.block g l1 (fun e => p1 e.symm)).trans (unhid H8).box
  have hnew : ∀ j, (Value.slice va (S.out.length + 1) vc).ownBlock = some j → j ≠ g ∧ j ≠ mb ∧ j ≠ kb ∧ (Value.slice (some ⟨wb, 0, none⟩) rest.length wc).ownBlock ≠ some j := fun j ej => by
    rcases hat with e | e
    · rw [e] at ej
      exact ⟨fun q => p1 (by rw [ej, q]), fun q => p2 (by rw [ej, q]), fun q => p3 (by rw [ej, q]), fun q => (unhid H8).wn j q ej⟩
    · rw [e] at ej
      injection ej with ej
      refine ⟨by omega, by omega, by omega, fun q => ?_⟩
      have := ((unhid H8).waits.lt j q).2
      omega
  have hwk : ∀ j, (Value.slice (some ⟨wb, 0, none⟩) rest.length wc).ownBlock = some j → W9.heap[j]? = W8.heap[j]? := fun j ej => hg.block j ((unhid H8).waits.lt j ej).2 (fun q => (unhid H8).wn j ej q.symm)
  have HF := hid ((unhid H8).field (W' := W9.setCell ⟨g, 4, none⟩ (.slice va (S.out.length + 1) vc)) (S' := S.pop rest (PackD.name p)) (wv' := .slice (some ⟨wb, 0, none⟩) rest.length wc) (nv' := .slice va (S.out.length + 1) vc) (heap_setCell_same W9 g 4 _ _ (.slice va (S.out.length + 1) vc) hb9) (fun j hj => (Below.heap_setCell _ _ _ _ (by rcases hj with rfl | rfl; exact (unhid H8).ap.1; exact (unhid H8).ap.2.1)).trans (hg.block j (by rcases hj with rfl | rfl; exact l2; exact l3) (fun q => by rcases hj with rfl | rfl; exact p2 q.symm; exact p3 q.symm))) rfl
    (ownsRow_keep (ownsRow_keep (unhid H8).waits hwk) (fun j ej => Below.heap_setCell _ _ _ _ (fun q => (unhid H8).wap.1 (by rw [ej]; exact congrArg some q))))
    (ownsRow_keep hown (fun j ej => Below.heap_setCell _ _ _ _ (hnew j ej).1))
    (unhid H8).wap ⟨fun q => (hnew g q).1 rfl, fun q => (hnew mb q).2.1 rfl, fun q => (hnew kb q).2.2.1 rfl⟩ (fun j ej q => (hnew j q).2.2.2 ej))
  have hNg := (unhid H8).lo.1
  have HB := hid (show Below N W (W9.setCell ⟨g, 4, none⟩ (.slice va (S.out.length + 1) vc)) from Below.setCell (p := ⟨g, 4, none⟩) (by
    have h1 := unhid HB8
    exact ⟨hg.os.trans h1.os, hg.tape.trans h1.tape, hg.output.trans h1.output, Nat.le_trans h1.size hg.size, fun k hk => (hg.block k (by omega) (fun e => by have := ((unhid H8).names.lt k e.symm).1; omega)).trans (h1.block k hk)⟩) hNg _)
  obtain ⟨e4, f4⟩ := cell_fz hb9 4 _ rfl
  clear hown hg hat hb9 hnew hwk hc8 hC8 l1 l2 l3 p1 p2 p3
  refine heldE_last (by kernel_rfl) (by kernel_rfl) rfl (fun K hK => ?_)
  go_simp
  refine hK.out _ _ ?_
  clear hK K e4 f4
  refine heldE_done (by kernel_rfl) ?_
  go_wp2_with fail
  go_ret
  refine ⟨_, _, _, rfl, unhid HF, fun j hj => ?_, unhid HB⟩
  obtain ⟨y, hy⟩ : ∃ y, (namesP ps)[j]? = some y := ⟨(namesP ps)[j], List.getElem?_eq_getElem hj⟩
  have hii := namesP_get (unhid HI)
  rw [stI_at hy]
  show (if j = i then (2 : Int) else st j) = if memB y (S.out ++ [PackD.name p]) = true then 2 else if j ∈ rest then 1 else 0
  by_cases e : j = i
  · subst e
    rw [hii] at hy
    cases hy
    rw [if_pos rfl, memB_yes (by simp), if_pos rfl]
  · rw [if_neg e, unhid HS j hj, stI_at hy]
    have hne : y ≠ PackD.name p := fun q => e (nodup_inj hnd hy (by rw [q]; exact hii))
    have hm : memB y (S.out ++ [PackD.name p]) = memB y S.out := by
      cases h : memB y S.out with
      | true => exact memB_yes (List.mem_append_left _ (memB_iff.1 h))
      | false => exact memB_no (fun q => by
          rcases List.mem_append.1 q with q | q
          · rw [memB_yes q] at h; cases h
          · exact hne (List.mem_singleton.1 q))
    have hr : (j ∈ rest) ↔ j ∈ S.wt := by rw [hw, List.mem_cons]; exact ⟨.inr, fun h => h.resolve_left e⟩
    rw [hm]
    simp only [hr]
set_option maxRecDepth 100000 in
set_option maxHeartbeats 16000000 in
theorem goOn_ask (N g : Nat) (pa : Option Addr) (pc : Nat) (ps : List packC.D) (st : Nat → Int) (S : WS) (mb kb : Nat) (D : DataW Unit) (wv nv : Value) (i : Nat) (rest : List Nat) (p : packC.D) (n : needC.D) (c : Int) (S' : WS) (W : World) (hsm : smallPs ps) (hok : allPk ps = true) (hnd : (namesP ps).Nodup) (hwl : S.wt.length ≤ 1048576) (hask : S.ask i < (PackD.needs p).length) (hnn : (needsOf p)[S.ask i]? = some n) (hres : (hasNeed ps n = false ∧ c = 3 ∧ S' = S.more i) ∨ (hasNeed ps n = true ∧ ∃ j, (namesP ps)[j]? = some (NeedD.name n) ∧ c = enC (S.more i) j (NeedD.name n) ∧ S' = enS (S.more i) j (NeedD.name n))) (hw : S.wt = i :: rest) (hi : ps[i]? = some p) (hrl : rest.length ≤ 1048576) (hP : ∀ W' : World, Below N W W' → rowAt packC W' (.slice pa ps.length pc) ps) (h : WK W N g (.slice pa ps.length pc) ps st S mb kb D wv nv) (hs : StOk (namesP ps) S st) :
    Calls Tryz.prog 121 #[.pointer (some ⟨g, 0, none⟩)] W (GoR N g (.slice pa ps.length pc) ps mb kb D c S' W) := by
  have hil : i < ps.length := (List.getElem?_eq_some_iff.1 hi).1
  obtain ⟨wb, wc, rfl, l0, hwb, hwc, hpop⟩ := h.last hw
  have hp := hP W (Below.refl _ _)
  have HP := hid hP
  obtain ⟨a', c', ev, -, -, hrow⟩ := hp
  injection ev with ea _ ec
  subst ea ec
  obtain ⟨b, o, rfl, hbl, hc⟩ := hrow.resolve_left (by intro e; rw [e] at hil; simp at hil)
  obtain ⟨na, nc, ta, tc, ⟨c0, c1, c2, c3⟩, hat⟩ := pack_cells (Below.refl W.heap.size W) hbl hc hi
  have hgl := h.glt
  obtain ⟨⟨b0, b1, b2, b3, b4⟩, -, -⟩ := h.cells
  obtain ⟨⟨k0, k1⟩, -, -⟩ := h.markAt hil
  have H := hid h
  have HS := hid hs
  have HI := hid hi
  have HAT := hid hat
  have HPOP := hid hpop
  have SP := hid (hsm.2 p (List.mem_of_getElem? hi))
  have HLT := hid (And.intro hwb (And.intro hbl hgl))
  clear hrow hc h hs hi hat hpop hwb hbl hgl hP
  go_enter Tryz.func121, Tryz.ntmps121
  go_wp2_with fail
  have g0 : ∀ x : CW (fun w' => Below W.heap.size W w'), x.w.cell? ⟨g, 0, none⟩ = some (.slice (some ⟨b, o, none⟩) ps.length pc) := fun x => (x.h.cell (p := ⟨g, 0, none⟩) (unhid HLT).2.2.1).trans b0
  have g2 : ∀ x : CW (fun w' => Below W.heap.size W w'), x.w.cell? ⟨g, 2, none⟩ = some (.slice (some ⟨kb, 0, none⟩) ps.length ps.length) := fun x => (x.h.cell (p := ⟨g, 2, none⟩) (unhid HLT).2.2.1).trans b2
  have g3 : ∀ x : CW (fun w' => Below W.heap.size W w'), x.w.cell? ⟨g, 3, none⟩ = some (.slice (some ⟨wb, 0, none⟩) (rest.length + 1) wc) := fun x => (x.h.cell (p := ⟨g, 3, none⟩) (unhid HLT).2.2.1).trans b3
  have gl : ∀ x : CW (fun w' => Below W.heap.size W w'), x.w.cell? ⟨wb, rest.length, none⟩ = some (.int .i64 (i : Int)) := fun x => (x.h.cell (p := ⟨wb, rest.length, none⟩) (unhid HLT).1).trans l0
  have q0 : ∀ x : CW (fun w' => Below W.heap.size W w'), x.w.cell? ⟨b, o + i * 4, none⟩ = some (.string (PackD.name p)) := fun x => (x.h.cell (p := ⟨b, o + i * 4, none⟩) (unhid HLT).2.1).trans c0
  have q1 : ∀ x : CW (fun w' => Below W.heap.size W w'), x.w.cell? ⟨b, o + i * 4 + 1, none⟩ = some (.string (PackD.version p)) := fun x => (x.h.cell (p := ⟨b, o + i * 4 + 1, none⟩) (unhid HLT).2.1).trans c1
  have q2 : ∀ x : CW (fun w' => Below W.heap.size W w'), x.w.cell? ⟨b, o + i * 4 + 2, none⟩ = some (.slice na (PackD.needs p).length nc) := fun x => (x.h.cell (p := ⟨b, o + i * 4 + 2, none⟩) (unhid HLT).2.1).trans c2
  have q3 : ∀ x : CW (fun w' => Below W.heap.size W w'), x.w.cell? ⟨b, o + i * 4 + 3, none⟩ = some (.slice ta (PackD.tree p).length tc) := fun x => (x.h.cell (p := ⟨b, o + i * 4 + 3, none⟩) (unhid HLT).2.1).trans c3
  have hba : ∀ {q : Prop}, (CW (fun w' => Below W.heap.size W w') → q) ↔ q := CW.all (Below.refl _ W)
  refine held_begin (fun w' => Below W.heap.size W w') (by kernel_rfl) (drew_belowS _) ?_
  refine held_here [true, true, true, true, true, true, true, true, true, true, true, true, true, true, true, true, true, true, true, true, true, true, true, true, true] (by kernel_rfl) (by kernel_rfl) (fun _ _ _ _ _ h => h) (drew_belowS _) ?_
  dsimp only [pick]
  repeat (go_big_quiet_step (fail))
  refine wpQuiet_nil ?_
  clear hba g0 g2 g3 gl q0 q1 q2 q3
  have hD := drew_belowS (B := W.heap.size) W
  have HSZ := hid (show W.drew.heap.size = W.heap.size from rfl)
  generalize W.drew = W1 at hD HSZ ⊢
  have hbx := World.alloc_heap_new W1 (.cells #[.string ⟨#[]⟩, .string ⟨#[]⟩, .slice none 0 0, .slice none 0 0] 34)
  have hb1 : Below W1.heap.size W1 (W1.alloc (.cells #[.string ⟨#[]⟩, .string ⟨#[]⟩, .slice none 0 0, .slice none 0 0] 34)) := (Below.refl _ W1).alloc (Nat.le_refl _) _
  have hD1 := hD.trans (hb1.mono hD.size)
  refine held_op 25 (by kernel_rfl) (by kernel_rfl) rfl (fun K hK => ?_)
  go_simp
  refine hK.out _ _ hD1 ?_
  clear hK K
  generalize W1.alloc (.cells #[.string ⟨#[]⟩, .string ⟨#[]⟩, .slice none 0 0, .slice none 0 0] 34) = W2 at hbx hb1 hD1 ⊢
  obtain ⟨o0, p0⟩ := cell_fz hbx 0 _ rfl
  obtain ⟨o1, p1⟩ := cell_fz hbx 1 _ rfl
  obtain ⟨o2, p2⟩ := cell_fz hbx 2 _ rfl
  obtain ⟨o3, p3⟩ := cell_fz hbx 3 _ rfl
  have hD2 := set4_below (.string (PackD.name p)) (.string (PackD.version p)) (.slice na (PackD.needs p).length nc) (.slice ta (PackD.tree p).length tc) hD1 (show W.heap.size ≤ W1.heap.size from hD.size)
  have hX2 := set4_same W2 W1.heap.size _ _ _ _ _ (.string (PackD.name p)) (.string (PackD.version p)) (.slice na (PackD.needs p).length nc) (.slice ta (PackD.tree p).length tc) hbx
  refine held_op 26 (by kernel_rfl) (by kernel_rfl) rfl (fun K hK => ?_)
  go_simp
  refine hK.out _ _ hD2 ?_
  clear hK K o0 p0 o1 p1 o2 p2 o3 p3 hbx hb1 hD1
  generalize (((W2.setCell ⟨W1.heap.size, 0, none⟩ (.string (PackD.name p))).setCell ⟨W1.heap.size, 1, none⟩ (.string (PackD.version p))).setCell ⟨W1.heap.size, 2, none⟩ (.slice na (PackD.needs p).length nc)).setCell ⟨W1.heap.size, 3, none⟩ (.slice ta (PackD.tree p).length tc) = W3 at hD2 hX2 ⊢
  have hba : ∀ {q : Prop}, (CW (fun w' => Below W.heap.size W w') → q) ↔ q := CW.all (Below.refl _ W)
  refine held_here [false, false, false, false, false, false, false, false, false, false, false, false, false, false, false, false, false, false, false, false, false, false, false, false, false, false, false, true] (by kernel_rfl) (by kernel_rfl) (fun _ _ _ _ _ h => h) hD2 ?_
  dsimp only [pick]
  repeat (go_big_quiet_step (fail))
  refine wpQuiet_nil ?_
  refine held_done (by kernel_rfl) ?_
  clear hba
  have hsz := unhid HSZ
  rw [hsz] at hX2 ⊢
  clear hD hsz HSZ
  have HB := hid hD2
  have BX := hid hX2
  clear hD2 hX2 b0 b1 b2 b3 b4 c0 c1 c2 c3 l0 k0 k1
  have H3 := hid ((unhid H).below (unhid HB))
  obtain ⟨⟨k0, k1⟩, f0, f1⟩ := (unhid H3).markAt hil
  have hne : (((S.ask i : Nat) : Int) == ((PackD.needs p).length : Int)) = false := by rw [beq_eq_false_iff_ne]; omega
  have hnl : (PackD.needs p).length ≤ 1048576 := (unhid SP).needs.1
  obtain ⟨b2, o2, rfl, hbl2, n0, n1, n2⟩ := need_in (unhid HAT) hnn
  have HNC := hid (And.intro hbl2 (And.intro n0 (And.intro n1 n2)))
  have SN := hid ((unhid SP).needs.2 n (List.mem_of_getElem? hnn))
  have HNO := hid (show needOkD n = true from by
    have h1 : pkOk p = true := List.all_eq_true.1 hok p (List.mem_of_getElem? (unhid HI))
    unfold pkOk at h1
    simp only [Bool.and_eq_true, decide_eq_true_eq] at h1
    exact List.all_eq_true.1 h1.1.2.1.1 n (List.mem_of_getElem? hnn))
  have HRES := hid hres
  clear hbl2 n0 n1 n2 hnn hres
  go_wp2_with fail
  have gm : ∀ x : CW (fun w' => Below W3.heap.size W3 w'), x.w.cell? ⟨kb, i * 2 + 1, none⟩ = some (.int .i64 (S.ask i : Int)) := fun x => (x.h.cell (p := ⟨kb, i * 2 + 1, none⟩) (unhid H3).glt.2.2).trans k1
  have gb : ∀ x : CW (fun w' => Below W3.heap.size W3 w'), x.w.cell? ⟨W.heap.size, 2, none⟩ = some (.slice (some ⟨b2, o2, none⟩) (PackD.needs p).length nc) := fun x => cell_arrS ((x.h.block _ (Array.getElem?_eq_some_iff.1 (unhid BX)).1).trans (unhid BX)) 2 _ rfl
  have hba : ∀ {q : Prop}, (CW (fun w' => Below W3.heap.size W3 w') → q) ↔ q := CW.all (Below.refl _ W3)
  refine held_begin (fun w' => Below W3.heap.size W3 w') (by kernel_rfl) (drew_belowS _) ?_
  refine held_here [true, true, true, true, true, true, true, true] (by kernel_rfl) (by kernel_rfl) (fun _ _ _ _ _ h => h) (drew_belowS _) ?_
  dsimp only [pick]
  repeat (go_big_quiet_step (fail))
  refine wpQuiet_nil ?_
  refine held_done (by kernel_rfl) ?_
  clear hba gm gb k0 k1 f0 f1 hne
  have hD := drew_belowS (B := W3.heap.size) W3
  generalize W3.drew = W4 at hD ⊢
  have H4 := hid ((unhid H3).below hD)
  have HB4 := hid ((unhid HB).trans (hD.mono (unhid HB).size))
  have BX4 := hid ((hD.block _ (Array.getElem?_eq_some_iff.1 (unhid BX)).1).trans (unhid BX))
  clear hD H3 HB BX
  go_wp2_with fail
  -- the next of its needs
  have gm : ∀ x : CW (fun w' => Below W4.heap.size W4 w'), x.w.cell? ⟨kb, i * 2 + 1, none⟩ = some (.int .i64 (S.ask i : Int)) := fun x => (x.h.cell (p := ⟨kb, i * 2 + 1, none⟩) (unhid H4).glt.2.2).trans ((unhid H4).markAt hil).1.2
  have gb : ∀ x : CW (fun w' => Below W4.heap.size W4 w'), x.w.cell? ⟨W.heap.size, 2, none⟩ = some (.slice (some ⟨b2, o2, none⟩) (PackD.needs p).length nc) := fun x => cell_arrS ((x.h.block _ (Array.getElem?_eq_some_iff.1 (unhid BX4)).1).trans (unhid BX4)) 2 _ rfl
  have hb2 := Nat.lt_of_lt_of_le (unhid HNC).1 (unhid HB4).size
  have e0 : ∀ x : CW (fun w' => Below W4.heap.size W4 w'), x.w.cell? ⟨b2, o2 + S.ask i * 3, none⟩ = some (.string (NeedD.name n)) := fun x => (x.h.cell (p := ⟨b2, o2 + S.ask i * 3, none⟩) hb2).trans (((unhid HB4).cell (p := ⟨b2, o2 + S.ask i * 3, none⟩) (unhid HNC).1).trans (unhid HNC).2.1)
  have e1 : ∀ x : CW (fun w' => Below W4.heap.size W4 w'), x.w.cell? ⟨b2, o2 + S.ask i * 3 + 1, none⟩ = some (.int .i64 (NeedD.kind n)) := fun x => (x.h.cell (p := ⟨b2, o2 + S.ask i * 3 + 1, none⟩) hb2).trans (((unhid HB4).cell (p := ⟨b2, o2 + S.ask i * 3 + 1, none⟩) (unhid HNC).1).trans (unhid HNC).2.2.1)
  have e2 : ∀ x : CW (fun w' => Below W4.heap.size W4 w'), x.w.cell? ⟨b2, o2 + S.ask i * 3 + 2, none⟩ = some (.string (NeedD.version n)) := fun x => (x.h.cell (p := ⟨b2, o2 + S.ask i * 3 + 2, none⟩) hb2).trans (((unhid HB4).cell (p := ⟨b2, o2 + S.ask i * 3 + 2, none⟩) (unhid HNC).1).trans (unhid HNC).2.2.2)
  have hba : ∀ {q : Prop}, (CW (fun w' => Below W4.heap.size W4 w') → q) ↔ q := CW.all (Below.refl _ W4)
  refine held_begin (fun w' => Below W4.heap.size W4 w') (by kernel_rfl) (drew_belowS _) ?_
  refine held_here [true, true, true, true, true, true, true, true] (by kernel_rfl) (by kernel_rfl) (fun _ _ _ _ _ h => h) (drew_belowS _) ?_
  dsimp only [pick]
  repeat (go_big_quiet_step (fail))
  refine wpQuiet_nil ?_
  clear hba gm gb e0 e1 e2 hb2
  have hD := drew_belowS (B := W4.heap.size) W4
  generalize W4.drew = W5 at hD ⊢
  have hbx := World.alloc_heap_new W5 (.cells #[.string ⟨#[]⟩, .int .i64 0, .string ⟨#[]⟩] 36)
  have hb1 : Below W5.heap.size W5 (W5.alloc (.cells #[.string ⟨#[]⟩, .int .i64 0, .string ⟨#[]⟩] 36)) := (Below.refl _ W5).alloc (Nat.le_refl _) _
  have hD1 := hD.trans (hb1.mono hD.size)
  refine held_op 8 (by kernel_rfl) (by kernel_rfl) rfl (fun K hK => ?_)
  go_simp
  refine hK.out _ _ hD1 ?_
  clear hK K
  generalize W5.alloc (.cells #[.string ⟨#[]⟩, .int .i64 0, .string ⟨#[]⟩] 36) = W6 at hbx hb1 hD1 ⊢
  obtain ⟨o0, p0⟩ := cell_fz hbx 0 _ rfl
  obtain ⟨o1, p1⟩ := cell_fz hbx 1 _ rfl
  obtain ⟨oo2, p2⟩ := cell_fz hbx 2 _ rfl
  have hD2 := setsW_below [.string (NeedD.name n), .int .i64 (NeedD.kind n), .string (NeedD.version n)] W4 W6 W4.heap.size W5.heap.size 0 hD1 hD.size
  have hX2 := heap_setCell_same _ W5.heap.size 2 _ _ (.string (NeedD.version n)) (heap_setCell_same _ W5.heap.size 1 _ _ (.int .i64 (NeedD.kind n)) (heap_setCell_same W6 W5.heap.size 0 _ _ (.string (NeedD.name n)) hbx))
  refine held_op 9 (by kernel_rfl) (by kernel_rfl) rfl (fun K hK => ?_)
  go_simp
  refine hK.out _ _ hD2 ?_
  clear hK K o0 p0 o1 p1 oo2 p2 hbx hb1 hD1
  refine held_done (by kernel_rfl) ?_
  have hD2 : Below W4.heap.size W4 (((W6.setCell ⟨W5.heap.size, 0, none⟩ (.string (NeedD.name n))).setCell ⟨W5.heap.size, 1, none⟩ (.int .i64 (NeedD.kind n))).setCell ⟨W5.heap.size, 2, none⟩ (.string (NeedD.version n))) := hD2
  generalize ((W6.setCell ⟨W5.heap.size, 0, none⟩ (.string (NeedD.name n))).setCell ⟨W5.heap.size, 1, none⟩ (.int .i64 (NeedD.kind n))).setCell ⟨W5.heap.size, 2, none⟩ (.string (NeedD.version n)) = W7 at hD2 hX2 ⊢
  have H7 := hid ((unhid H4).below hD2)
  have HB7 := hid ((unhid HB4).trans (hD2.mono (unhid HB4).size))
  have BN7 := hid hX2
  have HG5 := hid (show W4.heap.size ≤ W5.heap.size from hD.size)
  have HB4S := HB4
  clear hD hD2 hX2 H4 HB4 BX4
  obtain ⟨⟨k0, k1⟩, f0, f1⟩ := (unhid H7).markAt hil
  have hkb : kb < W5.heap.size := by have h1 := (unhid HLT).2.2.2.2; have h2 := (unhid HB7).size; have h3 := unhid HG5; have h4 := (unhid HB4S).size; omega
  have H8 := hid ((unhid H7).mark (W' := W7.setCell ⟨kb, i * 2 + 1, none⟩ (.int .i64 ((S.ask i : Int) + 1))) (st' := st) (S' := S.more i) i 1 ((S.ask i : Int) + 1) (by omega) rfl rfl rfl (fun j hj => ⟨by rw [if_neg (by omega)], by
    show Value.int .i64 (((if j = i then S.ask i + 1 else S.ask j : Nat)) : Int) = _
    by_cases e : j = i
    · subst e; rw [if_pos rfl, if_pos (by omega)]; rfl
    · rw [if_neg e, if_neg (by omega)]⟩))
  have hN : N ≤ W.heap.size := by have h1 := (unhid H).lo.1; have h2 := (unhid HLT).2.2.1; omega
  have HB8 := hid (Below.setCell (p := ⟨kb, i * 2 + 1, none⟩) ((unhid HB7).mono hN) (unhid H).lo.2.2 (.int .i64 ((S.ask i : Int) + 1)))
  have hx8 : (W7.setCell ⟨kb, i * 2 + 1, none⟩ (.int .i64 ((S.ask i : Int) + 1))).heap[W5.heap.size]? = _ := (Below.heap_setCell _ _ _ _ (by dsimp only; omega)).trans (unhid BN7)
  have d0 := cell_arrS hx8 0 _ rfl
  have d1 := cell_arrS hx8 1 _ rfl
  have d2 := cell_arrS hx8 2 _ rfl
  have hz8 := (Array.getElem?_eq_some_iff.1 hx8).1
  have BN8 := hid hx8
  have HZ8 := hid hz8
  clear hx8 hz8 BN7
  go_wp2_with fail
  generalize W7.setCell ⟨kb, i * 2 + 1, none⟩ (.int .i64 ((S.ask i : Int) + 1)) = W8 at H8 HB8 BN8 HZ8 ⊢
  clear H7 HB7 k0 k1 f0 f1 d0 d1 d2
  refine (fits_any N g _ pc ps st (S.more i) mb kb D _ nv n W8 hsm hok hnd (unhid HP W8 (unhid HB8)) (unhid H8) (unhid HNO) (unhid SN)).mono ?_
  rintro e W9 ⟨rfl, hb⟩
  have H9 := hid ((unhid H8).below hb)
  have HB9 := hid ((unhid HB8).trans (hb.mono (by have h1 := (unhid H8).lo.1; have h2 := (unhid H8).glt.1; omega)))
  have BN9 := hid ((hb.block _ (unhid HZ8)).trans (unhid BN8))
  clear hb H8 HB8 BN8 HZ8
  have HST := hid (show StOk (namesP ps) (S.more i) st from fun j hj => by
    obtain ⟨y, hy⟩ : ∃ y, (namesP ps)[j]? = some y := ⟨(namesP ps)[j], List.getElem?_eq_getElem hj⟩
    rw [unhid HS j hj, stI_at hy, stI_at hy]
    rfl)
  rcases unhid HRES with ⟨hno, rfl, rfl⟩ | ⟨hyes, j, hj, rfl, rfl⟩
  · rw [hno]
    clear hno HRES
    go_wp2_with fail
    go_ret
    exact ⟨_, _, _, rfl, unhid H9, unhid HST, unhid HB9⟩
  · rw [hyes]
    have HJ := hid hj
    have d0 := cell_arrS (unhid BN9) 0 _ rfl
    clear hyes hj HRES
    go_wp2_with fail
    refine (enter_at N g _ ps st (S.more i) mb kb D _ nv (NeedD.name n) j W9 (le_maxLen (unhid SN).1) hwl (unhid H9) (unhid HST) (unhid HJ)).mono ?_
    rintro e W10 ⟨st', wv', rfl, hwk, hst', hb⟩
    have HF := hid (And.intro hwk (And.intro hst' ((unhid HB9).trans hb)))
    clear hwk hst' hb d0
    go_wp2_with fail
    go_ret
    exact ⟨_, _, _, rfl, (unhid HF).1, (unhid HF).2.1, (unhid HF).2.2⟩
end Go.Proofs.YtoihhlkidlapmaaGreat

namespace Go.Proofs.YtoihhlkidlapmaaGreat
open Go.RowKit Go.Shelf Go.Maps
def nmI (ps : List packC.D) (i : Nat) : ByteArray := (namesP ps).getD i ⟨#[]⟩
def asksI (ps : List packC.D) (i : Nat) : List (ByteArray × Bool) := match ps[i]? with
  | some p => asksOf ps p
  | none => []
theorem nmI_at {ps : List packC.D} {i : Nat} {p : packC.D} (h : ps[i]? = some p) : nmI ps i = PackD.name p := by unfold nmI; rw [List.getD_eq_getElem?_getD, namesP_get h]; rfl
theorem asksI_at {ps : List packC.D} {i : Nat} {p : packC.D} (h : ps[i]? = some p) : asksI ps i = asksOf ps p := by unfold asksI; rw [h]
theorem nmI_get {ps : List packC.D} {i : Nat} (h : i < ps.length) : (namesP ps)[i]? = some (nmI ps i) := by
  obtain ⟨p, hp⟩ : ∃ p, ps[i]? = some p := ⟨ps[i], List.getElem?_eq_getElem h⟩
  rw [nmI_at hp]; exact namesP_get hp
theorem nmI_inj {ps : List packC.D} (hn : (namesP ps).Nodup) {i j : Nat} (hi : i < ps.length) (hj : j < ps.length) (e : nmI ps i = nmI ps j) : i = j := nodup_inj hn (nmI_get hi) (by rw [e]; exact nmI_get hj)
structure InvS (ps : List packC.D) (S : WS) : Prop where
  nd : S.wt.Nodup
  wt : ∀ i ∈ S.wt, i < ps.length ∧ nmI ps i ∉ S.out ∧ S.ask i ≤ (asksI ps i).length
  new : ∀ i, i < ps.length → i ∉ S.wt → nmI ps i ∉ S.out → S.ask i = 0
  out : S.out.Nodup ∧ ∀ x ∈ S.out, x ∈ namesP ps
def stkS (ps : List packC.D) (S : WS) : List (ByteArray × List (ByteArray × Bool)) := S.wt.map fun i => (nmI ps i, (asksI ps i).drop (S.ask i))
theorem InvS.len {ps : List packC.D} {S : WS} (h : InvS ps S) : S.wt.length ≤ ps.length ∧ S.out.length ≤ ps.length := by
  constructor
  · have := nodup_len S.wt (List.range ps.length) h.nd (fun i hi => List.mem_range.2 (h.wt i hi).1)
    rwa [List.length_range] at this
  · have := nodup_len S.out (namesP ps) h.out.1 h.out.2
    rwa [namesP_len] at this
def leftS (ps : List packC.D) (S : WS) (i : Nat) : Nat := ((asksI ps i).length - S.ask i) + (if memB (nmI ps i) S.out = true then 0 else if i ∈ S.wt then 1 else 2)
def sumN (f : Nat → Nat) (n : Nat) : Nat := ((List.range n).map f).sum
theorem sumN_succ (f : Nat → Nat) (n : Nat) : sumN f (n + 1) = sumN f n + f n := by
  unfold sumN
  rw [List.range_succ, List.map_append, List.sum_append]
  simp
theorem sumN_le {f g : Nat → Nat} : ∀ n, (∀ i, i < n → g i ≤ f i) → sumN g n ≤ sumN f n
  | 0, _ => Nat.le_refl _
  | n + 1, h => by
    rw [sumN_succ, sumN_succ]
    have := sumN_le n (fun i hi => h i (by omega))
    have := h n (by omega)
    omega
theorem sumN_lt {f g : Nat → Nat} : ∀ n, (∀ i, i < n → g i ≤ f i) → (∃ i, i < n ∧ g i < f i) → sumN g n < sumN f n
  | 0, _, ⟨i, hi, _⟩ => absurd hi (Nat.not_lt_zero _)
  | n + 1, h, ⟨i, hi, hlt⟩ => by
    rw [sumN_succ, sumN_succ]
    by_cases e : i = n
    · subst e
      have := sumN_le i (fun j hj => h j (by omega))
      omega
    · have := sumN_lt n (fun j hj => h j (by omega)) ⟨i, by omega, hlt⟩
      have := h n (by omega)
      omega
def leftT (ps : List packC.D) (S : WS) : Nat := sumN (leftS ps S) ps.length
theorem stk_fst (ps : List packC.D) (l : List Nat) (S : WS) : (l.map fun i => (nmI ps i, (asksI ps i).drop (S.ask i))).map Prod.fst = l.map (nmI ps) := by rw [List.map_map]; rfl
theorem mem_stk {ps : List packC.D} (hn : (namesP ps).Nodup) {l : List Nat} (hl : ∀ i ∈ l, i < ps.length) {j : Nat} (hj : j < ps.length) : nmI ps j ∈ l.map (nmI ps) ↔ j ∈ l := by
  rw [List.mem_map]
  constructor
  · rintro ⟨i, hi, e⟩
    rw [← nmI_inj hn (hl i hi) hj e]; exact hi
  · exact fun h => ⟨j, h, rfl⟩
theorem pop_step {ps : List packC.D} {S : WS} {i : Nat} {rest : List Nat} (hn : (namesP ps).Nodup) (h : InvS ps S) (hw : S.wt = i :: rest) (ha : S.ask i = (asksI ps i).length) (N : Nat) :
    InvS ps (S.pop rest (nmI ps i)) ∧ finishF (graphP ps) N (stkS ps S) S.out = finishF (graphP ps) N (stkS ps (S.pop rest (nmI ps i))) (S.pop rest (nmI ps i)).out ∧ leftT ps (S.pop rest (nmI ps i)) < leftT ps S := by
  have hnd := h.nd
  rw [hw, List.nodup_cons] at hnd
  obtain ⟨hi1, hi2, hi3⟩ := h.wt i (by rw [hw]; simp)
  refine ⟨⟨hnd.2, fun j hj => ?_, fun j hj hjr hjo => ?_, ?_, fun x hx => ?_⟩, ?_, ?_⟩
  · obtain ⟨h1, h2, h3⟩ := h.wt j (by rw [hw]; exact List.mem_cons_of_mem _ hj)
    refine ⟨h1, fun hm => ?_, h3⟩
    rcases List.mem_append.1 hm with hm | hm
    · exact h2 hm
    · have e := nmI_inj hn h1 hi1 (List.mem_singleton.1 hm)
      subst e
      exact hnd.1 hj
  · have hne : j ≠ i := fun e => hjo (by subst e; exact List.mem_append_right _ (by simp))
    exact h.new j hj (by rw [hw]; exact fun hm => (List.mem_cons.1 hm).elim hne hjr) (fun hm => hjo (List.mem_append_left _ hm))
  · exact List.nodup_append.2 ⟨h.out.1, by simp, fun a ha b hb e => by rw [List.mem_singleton.1 hb] at e; exact hi2 (e ▸ ha)⟩
  · rcases List.mem_append.1 hx with hx | hx
    · exact h.out.2 x hx
    · rw [List.mem_singleton.1 hx]; exact List.mem_of_getElem? (nmI_get hi1)
  · have e1 : stkS ps S = (nmI ps i, []) :: stkS ps (S.pop rest (nmI ps i)) := by
      unfold stkS
      rw [hw, List.map_cons, ha, List.drop_length]
      rfl
    rw [e1, finish_out]
    rfl
  · refine sumN_lt _ (fun j hj => ?_) ⟨i, hi1, ?_⟩
    · show (_ - S.ask j) + _ ≤ (_ - S.ask j) + _
      refine Nat.add_le_add_left ?_ _
      show (if memB (nmI ps j) (S.out ++ [nmI ps i]) = true then 0 else if j ∈ rest then 1 else 2) ≤ _
      by_cases hm : nmI ps j ∈ S.out
      · rw [memB_yes hm, memB_yes (List.mem_append_left _ hm)]; simp
      · rw [memB_no hm]
        by_cases e : j = i
        · subst e; rw [memB_yes (by simp)]; simp
        · rw [memB_no (fun q => by
            rcases List.mem_append.1 q with q | q
            · exact hm q
            · exact e (nmI_inj hn hj hi1 (List.mem_singleton.1 q)))]
          rw [if_neg Bool.false_ne_true, if_neg Bool.false_ne_true]
          by_cases hr : j ∈ rest
          · rw [if_pos hr, if_pos (by rw [hw]; exact List.mem_cons_of_mem _ hr)]; exact Nat.le_refl _
          · rw [if_neg hr, if_neg (by rw [hw]; exact fun q => (List.mem_cons.1 q).elim e hr)]; exact Nat.le_refl _
    · show (_ - S.ask i) + _ < (_ - S.ask i) + _
      refine Nat.add_lt_add_left ?_ _
      show (if memB (nmI ps i) (S.out ++ [nmI ps i]) = true then 0 else _) < _
      rw [memB_yes (by simp), memB_no hi2, if_pos rfl, if_neg Bool.false_ne_true, if_pos (by rw [hw]; simp)]
      exact Nat.zero_lt_one
theorem more_inv {ps : List packC.D} {S : WS} {i : Nat} {rest : List Nat} (h : InvS ps S) (hw : S.wt = i :: rest) (ha : S.ask i < (asksI ps i).length) : InvS ps (S.more i) := by
  refine ⟨h.nd, fun j hj => ?_, fun j hj hjw hjo => ?_, h.out⟩
  · obtain ⟨h1, h2, h3⟩ := h.wt j hj
    refine ⟨h1, h2, ?_⟩
    show (if j = i then S.ask i + 1 else S.ask j) ≤ _
    by_cases e : j = i
    · subst e; rw [if_pos rfl]; exact ha
    · rw [if_neg e]; exact h3
  · have hne : j ≠ i := fun e => hjw (by subst e; show j ∈ S.wt; rw [hw]; simp)
    show (if j = i then S.ask i + 1 else S.ask j) = 0
    rw [if_neg hne]
    exact h.new j hj hjw hjo
theorem more_left {ps : List packC.D} {S : WS} {i : Nat} (hi : i < ps.length) (ha : S.ask i < (asksI ps i).length) : leftT ps (S.more i) < leftT ps S := by
  refine sumN_lt _ (fun j hj => ?_) ⟨i, hi, ?_⟩
  · show (_ - (if j = i then S.ask i + 1 else S.ask j)) + _ ≤ (_ - S.ask j) + _
    refine Nat.add_le_add_right ?_ _
    by_cases e : j = i
    · subst e; rw [if_pos rfl]; omega
    · rw [if_neg e]; exact Nat.le_refl _
  · show (_ - (if i = i then S.ask i + 1 else S.ask i)) + _ < (_ - S.ask i) + _
    refine Nat.add_lt_add_right ?_ _
    rw [if_pos rfl]; omega
theorem push_inv {ps : List packC.D} {S : WS} {j : Nat} (h : InvS ps S) (hj : j < ps.length) (hw : j ∉ S.wt) (ho : nmI ps j ∉ S.out) : InvS ps (S.push j) := by
  refine ⟨List.nodup_cons.2 ⟨hw, h.nd⟩, fun k hk => ?_, fun k hk hkw hko => h.new k hk (fun q => hkw (List.mem_cons_of_mem _ q)) hko, h.out⟩
  rcases List.mem_cons.1 hk with rfl | hk
  · exact ⟨hj, ho, by show S.ask k ≤ _; rw [h.new k hj hw ho]; exact Nat.zero_le _⟩
  · exact h.wt k hk
theorem push_left {ps : List packC.D} {S : WS} {j : Nat} : leftT ps (S.push j) ≤ leftT ps S := by
  refine sumN_le _ (fun k hk => ?_)
  show (_ - S.ask k) + _ ≤ (_ - S.ask k) + _
  refine Nat.add_le_add_left ?_ _
  show (if memB (nmI ps k) S.out = true then 0 else if k ∈ j :: S.wt then 1 else 2) ≤ _
  by_cases hm : memB (nmI ps k) S.out = true
  · rw [if_pos hm, if_pos hm]; exact Nat.le_refl _
  · rw [if_neg hm, if_neg hm]
    by_cases hk : k ∈ S.wt
    · rw [if_pos hk, if_pos (List.mem_cons_of_mem _ hk)]; exact Nat.le_refl _
    · rw [if_neg hk]; split <;> omega
theorem ask_step {ps : List packC.D} {S : WS} {i j : Nat} {rest : List Nat} {n : needC.D} {p : packC.D} (hn : (namesP ps).Nodup) (h : InvS ps S) (hw : S.wt = i :: rest) (hp : ps[i]? = some p) (hnn : (needsOf p)[S.ask i]? = some n) :
    (hasNeed ps n = false → (finishF (graphP ps) ps.length (stkS ps S) S.out).2 = 3) ∧
    (hasNeed ps n = true → (namesP ps)[j]? = some (NeedD.name n) → InvS ps (enS (S.more i) j (NeedD.name n)) ∧ leftT ps (enS (S.more i) j (NeedD.name n)) < leftT ps S ∧
      (enC (S.more i) j (NeedD.name n) = 0 → finishF (graphP ps) ps.length (stkS ps (enS (S.more i) j (NeedD.name n))) (enS (S.more i) j (NeedD.name n)).out = finishF (graphP ps) ps.length (stkS ps S) S.out) ∧
      (enC (S.more i) j (NeedD.name n) ≠ 0 → (finishF (graphP ps) ps.length (stkS ps S) S.out).2 = enC (S.more i) j (NeedD.name n))) := by
  have hnd := h.nd
  rw [hw, List.nodup_cons] at hnd
  obtain ⟨hi1, hi2, hi3⟩ := h.wt i (by rw [hw]; simp)
  have hag := asks_get (ps := ps) hnn
  have hal : S.ask i < (asksI ps i).length := by rw [asksI_at hp]; exact (List.getElem?_eq_some_iff.1 hag).1
  have hd : (asksI ps i).drop (S.ask i) = (NeedD.name n, hasNeed ps n) :: (asksI ps i).drop (S.ask i + 1) := by
    rw [asksI_at hp] at hal ⊢
    rw [List.drop_eq_getElem_cons hal]
    congr 1
    rw [List.getElem?_eq_getElem hal] at hag
    exact Option.some.inj hag
  have e1 : stkS ps S = (nmI ps i, (NeedD.name n, hasNeed ps n) :: (asksI ps i).drop (S.ask i + 1)) :: rest.map fun k => (nmI ps k, (asksI ps k).drop (S.ask k)) := by
    unfold stkS
    rw [hw, List.map_cons, hd]
  have e2 : stkS ps (S.more i) = (nmI ps i, (asksI ps i).drop (S.ask i + 1)) :: rest.map fun k => (nmI ps k, (asksI ps k).drop (S.ask k)) := by
    show (S.wt.map fun k => (nmI ps k, (asksI ps k).drop (if k = i then S.ask i + 1 else S.ask k))) = _
    rw [hw, List.map_cons, if_pos rfl]
    congr 1
    apply List.map_congr_left
    intro k hk
    rw [if_neg (fun (e : k = i) => hnd.1 (e ▸ hk))]
  refine ⟨fun hno => ?_, fun hyes hj => ?_⟩
  · rw [e1, hno]
    exact finish_none _ _ _ _ _ _ _
  · have hjl : j < ps.length := by have := (List.getElem?_eq_some_iff.1 hj).1; rwa [namesP_len] at this
    have hjn : NeedD.name n = nmI ps j := by have := nmI_get hjl; rw [hj] at this; exact Option.some.inj this
    rw [hyes] at e1
    have hrl : (rest.map fun k => (nmI ps k, (asksI ps k).drop (S.ask k))).length < ps.length := by
      have := h.len.1
      rw [hw, List.length_cons] at this
      rw [List.length_map]; omega
    obtain ⟨f1, f2, f3⟩ := finish_enter (graphP ps) ps.length (nmI ps i) (NeedD.name n) ((asksI ps i).drop (S.ask i + 1)) (rest.map fun k => (nmI ps k, (asksI ps k).drop (S.ask k))) S.out hrl
    rw [← e1, ← e2] at f1
    rw [← e1, ← e2] at f2
    rw [← e1] at f3
    have hmem : NeedD.name n ∈ nmI ps i :: (rest.map fun k => (nmI ps k, (asksI ps k).drop (S.ask k))).map Prod.fst ↔ j ∈ S.wt := by
      rw [stk_fst, hjn, hw, ← List.map_cons]
      exact mem_stk hn (fun k hk => (h.wt k (by rw [hw]; exact hk)).1) hjl
    rw [hmem] at f2 f3
    obtain ⟨q, hq, hqn⟩ := namesP_some hj
    have hG : graphP ps (NeedD.name n) = some (asksOf ps q) := by rw [← hqn]; exact graph_at hn hq
    have hm := more_inv h hw hal
    have hl := more_left (ps := ps) hi1 hal
    unfold enC enS
    by_cases ho : NeedD.name n ∈ S.out
    · rw [show memB (NeedD.name n) (S.more i).out = true from memB_yes ho, if_pos rfl, if_pos rfl]
      exact ⟨hm, hl, fun _ => (f1 ho).symm, fun h => absurd rfl h⟩
    · rw [show memB (NeedD.name n) (S.more i).out = false from memB_no ho, if_neg Bool.false_ne_true, if_neg Bool.false_ne_true]
      by_cases hjw : j ∈ S.wt
      · rw [if_pos (show j ∈ (S.more i).wt from hjw), if_pos (show j ∈ (S.more i).wt from hjw)]
        exact ⟨hm, hl, fun h => absurd h (by decide), fun _ => f3 ho (by rw [hG]; simp) hjw⟩
      · rw [if_neg (show j ∉ (S.more i).wt from hjw), if_neg (show j ∉ (S.more i).wt from hjw)]
        refine ⟨push_inv hm hjl hjw (by rw [← hjn]; exact ho), Nat.lt_of_le_of_lt push_left hl, fun _ => ?_, fun h => absurd rfl h⟩
        rw [f2 _ ho hG hjw]
        have e3 : stkS ps ((S.more i).push j) = (NeedD.name n, asksOf ps q) :: stkS ps (S.more i) := by
          show ((j :: S.wt).map fun k => (nmI ps k, (asksI ps k).drop (if k = i then S.ask i + 1 else S.ask k))) = _
          rw [List.map_cons]
          have hji : j ≠ i := fun e => hjw (by rw [hw, e]; simp)
          rw [if_neg hji, h.new j hjl hjw (by rw [← hjn]; exact ho), List.drop_zero, ← hjn, asksI_at hq]
          rfl
        rw [e3]
        rfl
end Go.Proofs.YtoihhlkidlapmaaGreat

namespace Go.Proofs.YtoihhlkidlapmaaGreat
open Go.RowKit Go.Shelf Go.Maps
def AddR (N g : Nat) (pv : Value) (ps : List packC.D) (mb kb : Nat) (D : DataW Unit) (r : List ByteArray × Int) (W : World) (e : Ending) (W' : World) : Prop := ∃ S st wv nv, e = .returned (.int .i64 r.2) ∧ WK W' N g pv ps st S mb kb D wv nv ∧ StOk (namesP ps) S st ∧ InvS ps S ∧ (r.2 = 0 → S.wt = [] ∧ S.out = r.1) ∧ Below N W W'
set_option maxRecDepth 100000 in
set_option maxHeartbeats 16000000 in
theorem add_any (N g : Nat) (pa : Option Addr) (pc : Nat) (ps : List packC.D) (st : Nat → Int) (S : WS) (mb kb : Nat) (D : DataW Unit) (wv nv : Value) (x : ByteArray) (W : World) (hsm : smallPs ps) (hok : allPk ps = true) (hnd : (namesP ps).Nodup) (hx : x.size ≤ maxLen) (hP : ∀ W' : World, Below N W W' → rowAt packC W' (.slice pa ps.length pc) ps) (h : WK W N g (.slice pa ps.length pc) ps st S mb kb D wv nv) (hs : StOk (namesP ps) S st) (hinv : InvS ps S) (hw0 : S.wt = []) :
    Calls Tryz.prog 64 #[.pointer (some ⟨g, 0, none⟩), .string x] W (AddR N g (.slice pa ps.length pc) ps mb kb D (clsF (graphP ps) (ps.length + 1) x S.out []) W) := by
  obtain ⟨R, HR⟩ : ∃ R, Hid (clsF (graphP ps) (ps.length + 1) x S.out [] = R) := ⟨_, hid rfl⟩
  rw [unhid HR]
  have HP := hid hP
  have hlen := hsm.1
  have HE := hid (show ∃ c S', Calls Tryz.prog 120 #[.pointer (some ⟨g, 0, none⟩), .string x] W (EnR N g (.slice pa ps.length pc) ps mb kb D nv c S' W) ∧ InvS ps S' ∧ (c = 0 → finishF (graphP ps) ps.length (stkS ps S') S'.out = R) ∧ (c ≠ 0 → R.2 = c) from by
    obtain ⟨t1, t2, t3⟩ := cls_top (graphP ps) ps.length x S.out
    rw [unhid HR] at t1 t2 t3
    have h0 : finishF (graphP ps) ps.length (stkS ps S) S.out = (S.out, 0) := by unfold stkS; rw [hw0]; rfl
    by_cases hin : x ∈ namesP ps
    · obtain ⟨i, hi⟩ := List.getElem?_of_mem hin
      have hil : i < ps.length := by have := (List.getElem?_eq_some_iff.1 hi).1; rwa [namesP_len] at this
      have hnx : x = nmI ps i := by have := nmI_get hil; rw [hi] at this; exact Option.some.inj this
      refine ⟨enC S i x, enS S i x, enter_at N g _ ps st S mb kb D wv nv x i W hx (by rw [hw0]; exact Nat.zero_le _) h hs hi, ?_⟩
      unfold enC enS
      by_cases ho : x ∈ S.out
      · rw [memB_yes ho, if_pos rfl, if_pos rfl]
        exact ⟨hinv, fun _ => h0.trans (t1 ho).symm, fun h => absurd rfl h⟩
      · rw [memB_no ho, if_neg Bool.false_ne_true, if_neg Bool.false_ne_true, if_neg (by rw [hw0]; simp), if_neg (by rw [hw0]; simp)]
        obtain ⟨q, hq, hqn⟩ := namesP_some hi
        have hG : graphP ps x = some (asksOf ps q) := by rw [← hqn]; exact graph_at hnd hq
        refine ⟨push_inv hinv hil (by rw [hw0]; simp) (by rw [← hnx]; exact ho), fun _ => ?_, fun h => absurd rfl h⟩
        rw [t3 _ ho hG]
        show finishF (graphP ps) ps.length ((i :: S.wt).map fun k => (nmI ps k, (asksI ps k).drop (S.ask k))) S.out = _
        rw [hw0, List.map_cons, hinv.new i hil (by rw [hw0]; simp) (by rw [← hnx]; exact ho), List.drop_zero, ← hnx, asksI_at hq]
        rfl
    · refine ⟨3, S, enter_none N g _ ps st S mb kb D wv nv x W hx h hs hin, hinv, fun h => absurd h (by decide), fun _ => ?_⟩
      rw [t2 (fun hm => hin (hinv.out.2 x hm)) (graph_none hin)])
  clear h hs hinv hP hx HR hw0
  obtain ⟨c, S1, hcall, hI1, hz, hnz⟩ := unhid HE
  have HCALL := hid hcall
  have HI1 := hid hI1
  have HZ := hid (And.intro hz hnz)
  clear hcall hI1 hz hnz HE
  go_enter Tryz.func64, Tryz.ntmps64
  go_wp2_with fail
  refine (unhid HCALL).mono ?_
  rintro e W1 ⟨st1, wv1, rfl, hk1, hs1, hb1⟩
  have HK1 := hid (And.intro hk1 (And.intro hs1 hb1))
  clear hk1 hs1 hb1 HCALL
  go_wp2_with fail
  go_loopg [5] (leftT ps S1 + 1) (fun k s wr => ∃ (cc : Int) (S2 : WS) (st2 : Nat → Int) (wv2 nv2 : Value), s = .int .i64 cc ∧ Hid (WK wr N g (.slice pa ps.length pc) ps st2 S2 mb kb D wv2 nv2) ∧ Hid (StOk (namesP ps) S2 st2) ∧ Hid (InvS ps S2) ∧ Hid (leftT ps S2 < k) ∧ Hid ((cc = 0 → finishF (graphP ps) ps.length (stkS ps S2) S2.out = R) ∧ (cc ≠ 0 → R.2 = cc)) ∧ Hid (Below N W wr))
  case atStart => exact ⟨c, S1, st1, wv1, nv, rfl, hid (unhid HK1).1, hid (unhid HK1).2.1, HI1, hid (Nat.lt_succ_self _), HZ, hid (unhid HK1).2.2⟩
  case round =>
    obtain ⟨cc, S2, st2, wv2, nv2, rfl, HK, HST, HI, HL, HC, HB⟩ := hrel
    clear HK1 HI1 HZ
    obtain ⟨⟨b0, b1, b2, b3, b4⟩, -, -⟩ := (unhid HK).cells
    by_cases hcc : cc = 0
    · subst hcc
      cases hwt : S2.wt with
      | nil =>
        have hfin := (unhid HC).1 rfl
        have HF := hid (show R.2 = 0 ∧ S2.wt = [] ∧ S2.out = R.1 from by
          unfold stkS at hfin
          rw [hwt] at hfin
          have e : R = (S2.out, 0) := hfin.symm
          rw [e]
          exact ⟨rfl, hwt, rfl⟩)
        obtain ⟨wa, wc, hv⟩ := ownsRow_sl (unhid HK).waits
        rw [hwt] at hv
        subst hv
        clear hwt hfin b0 b1 b2 b4
        go_wp2_with fail
        go_ret
        exact ⟨S2, st2, _, nv2, by rw [(unhid HF).1]; rfl, unhid HK, unhid HST, unhid HI, fun _ => (unhid HF).2, unhid HB⟩
      | cons i rest =>
        obtain ⟨wb, wc, rfl, -, -, -, -⟩ := (unhid HK).last hwt
        obtain ⟨hi1, hi2, hi3⟩ := (unhid HI).wt i (by rw [hwt]; simp)
        obtain ⟨p, hp⟩ : ∃ p, ps[i]? = some p := ⟨ps[i], List.getElem?_eq_getElem hi1⟩
        have hll := (unhid HI).len
        have hrl : rest.length ≤ 1048576 := by have := hll.1; rw [hwt, List.length_cons] at this; omega
        have hal : (asksI ps i).length = (PackD.needs p).length := by rw [asksI_at hp]; exact asks_len ps p
        have HP2 := hid (fun W' (hb : Below N wr W') => unhid HP W' ((unhid HB).trans hb))
        have HG := hid (show ∃ (c' : Int) (S3 : WS), Calls Tryz.prog 121 #[.pointer (some ⟨g, 0, none⟩)] wr (GoR N g (.slice pa ps.length pc) ps mb kb D c' S3 wr) ∧ InvS ps S3 ∧ leftT ps S3 < leftT ps S2 ∧ (c' = 0 → finishF (graphP ps) ps.length (stkS ps S3) S3.out = R) ∧ (c' ≠ 0 → R.2 = c') from by
          have hfin := (unhid HC).1 rfl
          by_cases ha : S2.ask i = (PackD.needs p).length
          · obtain ⟨q1, q2, q3⟩ := pop_step hnd (unhid HI) hwt (ha.trans hal.symm) ps.length
            rw [nmI_at hp] at q1 q2 q3
            exact ⟨0, _, goOn_out N g pa pc ps st2 S2 mb kb D _ nv2 i rest p wr hsm hnd (by have := hll.2; omega) ha hwt hp hrl (unhid HP2) (unhid HK) (unhid HST), q1, q3, fun _ => q2.symm.trans hfin, fun h => absurd rfl h⟩
          · have ha2 : S2.ask i < (PackD.needs p).length := by omega
            obtain ⟨n, hnn⟩ : ∃ n, (needsOf p)[S2.ask i]? = some n := ⟨(needsOf p)[S2.ask i]'ha2, List.getElem?_eq_getElem ha2⟩
            have hwl : S2.wt.length ≤ 1048576 := by have := hll.1; omega
            cases hh : hasNeed ps n with
            | false =>
              refine ⟨3, S2.more i, goOn_ask N g pa pc ps st2 S2 mb kb D _ nv2 i rest p n 3 (S2.more i) wr hsm hok hnd hwl ha2 hnn (.inl ⟨hh, rfl, rfl⟩) hwt hp hrl (unhid HP2) (unhid HK) (unhid HST), more_inv (unhid HI) hwt (by omega), more_left hi1 (by omega), fun h => absurd h (by decide), fun _ => ?_⟩
              rw [← hfin]
              exact (ask_step (j := 0) hnd (unhid HI) hwt hp hnn).1 hh
            | true =>
              obtain ⟨j, hj⟩ := List.getElem?_of_mem (has_in hh)
              obtain ⟨q1, q2, q3, q4⟩ := (ask_step hnd (unhid HI) hwt hp hnn).2 hh hj
              exact ⟨_, _, goOn_ask N g pa pc ps st2 S2 mb kb D _ nv2 i rest p n _ _ wr hsm hok hnd hwl ha2 hnn (.inr ⟨hh, j, hj, rfl, rfl⟩) hwt hp hrl (unhid HP2) (unhid HK) (unhid HST), q1, q2, fun h => (q3 h).trans hfin, fun h => by rw [← hfin]; exact q4 h⟩)
        have hwl1 : S2.wt.length = rest.length + 1 := by rw [hwt]; rfl
        obtain ⟨c', S3, hcall, hI3, hl3, hz3, hn3⟩ := unhid HG
        have HCALL := hid hcall
        have HI3 := hid hI3
        have HL3 := hid (show leftT ps S3 < leftT ps S2 from hl3)
        have HZ3 := hid (And.intro hz3 hn3)
        clear hcall hI3 hl3 hz3 hn3 HG hwt hwl1 hi1 hi2 hi3 hp hll hal HP2 b0 b1 b2 b4
        go_wp2_with fail
        refine (unhid HCALL).mono ?_
        rintro e W2 ⟨st3, wv3, nv3, rfl, hk3, hs3, hb3⟩
        have HK3 := hid (And.intro hk3 (And.intro hs3 ((unhid HB).trans hb3)))
        clear hk3 hs3 hb3 HCALL b3
        go_wp2_with fail
        go_roundg (leftT ps S3 + 1)
        case measure => have h1 := unhid HL3; have h2 := unhid HL; omega
        case rel => exact ⟨c', S3, st3, wv3, nv3, rfl, hid (unhid HK3).1, hid (unhid HK3).2.1, HI3, hid (Nat.lt_succ_self _), HZ3, hid (unhid HK3).2.2⟩
    · have hr := (unhid HC).2 hcc
      have hccb : (cc == 0) = false := by rw [beq_eq_false_iff_ne]; exact hcc
      have HR2 := hid hr
      have HNE := hid hcc
      clear hcc hr b0 b1 b2 b4
      go_wp2_with fail
      go_ret
      exact ⟨S2, st2, wv2, nv2, by rw [unhid HR2]; rfl, unhid HK, unhid HST, unhid HI, fun h => absurd ((unhid HR2).symm.trans h) (unhid HNE), unhid HB⟩
theorem infoMark : (Tryz.prog.info? 217).map (fun i => (i.zero, i.size, i.bytes)) = some (some (.agg #[.int .i64 0, .int .i64 0]), 2, 16) := by kernel_rfl
theorem mkMarks (W : World) (n : Nat) (hn : n ≤ 1048576) : ∃ M : Array Value, (Instr.makeSlice 87 (.int .i64 (n : Int)) (.int .i64 (n : Int))).run Tryz.prog W = .ok (.slice (some ⟨W.heap.size, 0, .none⟩) n n) (W.alloc (.cells M 217)) ∧ M.size = n * 2 ∧ ∀ j, j < n * 2 → M[j]? = some (.int .i64 0) := by
  obtain ⟨i, hi, hz0, hz1, hz2⟩ := info_parts infoMark
  refine ⟨madeCells #[.int .i64 0, .int .i64 0] (n * 2), ?_, by simp [madeCells], fun j hj => ?_⟩
  · have := run_make (P := Tryz.prog) W 87 217 i _ Tryz.underlying87 hi hz0 .i64 .i64 n n (by omega) (Int.le_refl _) (by rw [hz2]; omega) (by omega)
    simpa [hz1, Value.cells] using this
  · have h2 : j % 2 = 0 ∨ j % 2 = 1 := by omega
    rcases h2 with h2 | h2 <;> simp [madeCells, hj, h2]
theorem mkMap (W : World) (n : Nat) : (Instr.makeMap 86 (some (.int .i64 (n : Int)))).run Tryz.prog W = .ok (.map (some W.heap.size)) (W.alloc (.map #[] 0)) := by
  simp [Instr.makeMap, run_underlying Tryz.underlying86, asInt, asIntOf]
def NewR (ps : List packC.D) (pv : Value) (w : World) (e : Ending) (w' : World) : Prop := ∃ (g mb kb : Nat) (D : DataW Unit), e = .returned (.pointer (some ⟨g, 0, none⟩)) ∧ WK w' w.heap.size g pv ps (fun _ => 0) ⟨[], fun _ => 0, []⟩ mb kb D (.slice none 0 0) (.slice none 0 0) ∧ Below w.heap.size w w'
set_option maxRecDepth 100000 in
set_option maxHeartbeats 16000000 in
theorem newWalk_any (pa : Option Addr) (pc : Nat) (ps : List packC.D) (w : World) (hsm : smallPs ps) (hnd : (namesP ps).Nodup) (hp : rowAt packC w (.slice pa ps.length pc) ps) :
    Calls Tryz.prog 63 #[.slice pa ps.length pc] w (NewR ps (.slice pa ps.length pc) w) := by
  obtain ⟨a', c', ev, -, -, hrow⟩ := hp
  injection ev with ea _ ec
  subst ea ec
  have hlen := hsm.1
  have HSM := hid hsm
  have H := hid hrow
  have HND := hid hnd
  have hmm := mkMap w ps.length
  have HM0 := hid (show PlaceMap (w.alloc (.map #[] 0)) w.heap.size 0 ((namesP ps).take 0) (.map []) from ⟨World.ownsMap_made _ _ _ _, fun x => rfl, fun x i hi => by simp at hi⟩)
  have HB0 := hid (show Below w.heap.size w (w.alloc (.map #[] 0)) from (Below.refl _ w).alloc (Nat.le_refl _) _)
  have HZ0 := hid (show w.heap.size < (w.alloc (.map #[] 0)).heap.size by simp)
  clear hsm hrow hnd
  go_enter Tryz.func63, Tryz.ntmps63
  go_wp2_with fail
  generalize w.alloc (.map #[] 0) = w1 at HM0 HB0 HZ0 ⊢
  clear hmm
  go_loopw [11] (fun i wr => ∃ (k : Nat) (D : DataW Unit), k ≤ ps.length ∧ i = .int .i64 (k : Int) ∧ Hid (PlaceMap wr w.heap.size k ((namesP ps).take k) D ∧ IsMap D) ∧ Hid (Below w.heap.size w wr) ∧ Hid (w.heap.size < wr.heap.size)) (fun i _ => ps.length - (intOf i).toNat)
  case atStart => exact ⟨0, _, Nat.zero_le _, rfl, hid ⟨unhid HM0, isMap_empty⟩, HB0, HZ0⟩
  case round =>
    clear HM0 HB0 HZ0
    obtain ⟨k, D, hk, rfl, HM, HB, HZ⟩ := hrel
    by_cases hlt : k < ps.length
    · obtain ⟨e, he⟩ : ∃ e, ps[k]? = some e := ⟨ps[k], List.getElem?_eq_getElem hlt⟩
      obtain ⟨b, o, rfl, hbl, hc⟩ := (unhid H).resolve_left (by intro e; subst e; simp at hlt)
      obtain ⟨na, nc, ta, tc, ⟨c0, c1, c2, c3⟩, -⟩ := pack_cells (unhid HB) hbl hc he
      have HX := hid (namesP_get he)
      have hxs : (PackD.name e).size ≤ maxLen := le_maxLen ((unhid HSM).2 e (List.mem_of_getElem? he)).name
      have hkey := Go.WideMaps.keyOf_string_mk (P := Tryz.prog) Tryz.underlying9 hxs
      have HOA := hid (fun x => (unhid HM).1.own.alloc x)
      have HBA := hid (show ∀ x, Below w.heap.size w (wr.alloc x) from fun x => (unhid HB).alloc (unhid HB).size x)
      have HZA := hid (show ∀ x, w.heap.size < (wr.alloc x).heap.size from fun x => by have := unhid HZ; simp; omega)
      have hpl := plainElem_int (H := Unit) (P := Tryz.prog) Tryz.underlying3 (wf_nat (k := k) (by omega))
      clear hc he hbl hxs
      go_wp2_with (at_mapUpdate; refine wpList_mapUpdate_own _ rfl _ _ _ 86 rfl 9 3 law9 Tryz.underlying86 (plainElem Tryz.prog 3) w.heap.size k D rfl (unhid HOA _) (by unfold maxLen; omega) _ _ _ rfl rfl hkey _ [] hpl ?_)
      intro w2 hown hg
      have HM2 := hid (PlaceMap.next (unhid HND) (unhid HX) (unhid HM).2 (unhid HM).1.has (unhid HM).1.at_ hown)
      have HI2 := hid ((unhid HM).2.put (.string (PackD.name e).data.toList) (.lit (.int .i64 (k : Int))))
      have HB2 := hid (grown_belowN (unhid HBA _) hg (fun j ej => by injection ej with ej; omega))
      have HZ2 := hid (Nat.lt_of_lt_of_le (unhid HZA _) hg.size)
      clear hown hg HOA HBA HZA hpl hkey c0 c1 c2 c3
      go_wp2_with fail
      go_roundw
      case rel => exact ⟨k + 1, _, by omega, by go_num, hid ⟨unhid HM2, unhid HI2⟩, HB2, HZ2⟩
      case measure => simp [intOf]; omega
    · have e : k = ps.length := by omega
      subst e
      obtain ⟨M, hmk, hM1, hM2⟩ := mkMarks wr ps.length hlen
      have HMK := hid (And.intro hM1 hM2)
      clear hM1 hM2
      go_wp2_with fail
      go_ret
      have hM := unhid HM
      rw [List.take_of_length_le (by rw [namesP_len]; exact Nat.le_refl _)] at hM
      have hz := unhid HZ
      have hb1 : Below wr.heap.size wr (wr.alloc (.cells M 217)) := (Below.refl _ wr).alloc (Nat.le_refl _) _
      have hb2 : Below (wr.alloc (.cells M 217)).heap.size (wr.alloc (.cells M 217)) ((wr.alloc (.cells M 217)).alloc (.cells #[.slice pa ps.length pc, .map (some w.heap.size), .slice (some ⟨wr.heap.size, 0, none⟩) ps.length ps.length, .slice none 0 0, .slice none 0 0] 90)) := (Below.refl _ _).alloc (Nat.le_refl _) _
      have hs1 : (wr.alloc (.cells M 217)).heap.size = wr.heap.size + 1 := by simp
      have hn1 := World.alloc_heap_new wr (.cells M 217)
      have hn2 := World.alloc_heap_new (wr.alloc (.cells M 217)) (.cells #[.slice pa ps.length pc, .map (some w.heap.size), .slice (some ⟨wr.heap.size, 0, none⟩) ps.length ps.length, .slice none 0 0, .slice none 0 0] 90)
      rw [hs1] at hn2
      refine ⟨wr.heap.size + 1, w.heap.size, wr.heap.size, D, rfl, ⟨hn2, ⟨M, (hb2.block _ (by omega)).trans hn1, (unhid HMK).1, fun i hi => ⟨(unhid HMK).2 _ (by omega), (unhid HMK).2 _ (by omega)⟩⟩, (hM.1.keep (hb1.block _ hz)).keep (hb2.block _ (by omega)), ⟨rfl, .inl ⟨rfl, rfl⟩⟩, ⟨rfl, .inl ⟨rfl, rfl⟩⟩, ⟨by omega, Nat.le_refl _, by omega⟩, ⟨by omega, by omega, by omega⟩, ⟨by simp [Value.ownBlock], by simp [Value.ownBlock], by simp [Value.ownBlock]⟩, ⟨by simp [Value.ownBlock], by simp [Value.ownBlock], by simp [Value.ownBlock]⟩, fun j ej => by cases ej⟩, (unhid HB).trans ((hb1.trans (hb2.mono (by omega))).mono (by omega))⟩
set_option maxRecDepth 100000 in
set_option maxHeartbeats 2000000 in
theorem namesOfPacks_any (ps : List packC.D) (v : Value) (w : World) (hl : ps.length ≤ 1048576) (h : rowAt packC w v ps) :
    Calls Tryz.prog 62 #[v] w fun x w' => ∃ u, x = .returned u ∧ w'.ownsRow w.heap.size 9 1 u (namesP ps).length ((namesP ps).map Value.string) ∧ Below w.heap.size w w' := by
  have H := hid (packNames_any ps v w hl h)
  clear h
  go_enter Tryz.func62, Tryz.ntmps62
  go_wp2_with fail
  refine (unhid H).mono ?_
  rintro x w2 ⟨u, rfl, ho, hb⟩
  have HF := hid (And.intro ho hb)
  obtain ⟨a, c, rfl⟩ := ownsRow_sl ho
  clear ho hb H
  go_wp2_with fail
  go_ret
  exact ⟨_, rfl, (unhid HF).1, (unhid HF).2⟩
def CloR (ps : List packC.D) (xs : List ByteArray) (w : World) (e : Ending) (w' : World) : Prop := ∃ v, e = .returned (.tuple #[v, .int .i64 (closure_1 ps xs)]) ∧ w'.ownsRow w.heap.size 9 1 v (closure_0 ps xs).length ((closure_0 ps xs).map Value.string) ∧ Below w.heap.size w w'
theorem cloR_no {ps : List packC.D} {xs : List ByteArray} {w w' : World} {c : Int} (h : closeR ps xs = ([], c)) (hb : Below w.heap.size w w') : CloR ps xs w (.returned (.tuple #[.slice none 0 0, .int .i64 c])) w' :=
  ⟨_, by unfold closure_1; rw [h], by unfold closure_0; rw [h]; exact ownsRow_none _ _, hb⟩
set_option maxRecDepth 100000 in
set_option maxHeartbeats 16000000 in
theorem implClosure_any (ps : List packC.D) (pa : Option Addr) (pc : Nat) (xs : List ByteArray) (V : Value) (w : World) (hsm : smallPs ps) (hx : xs.length ≤ 1048576) (hxs : ∀ x ∈ xs, x.size ≤ maxLen) (hp : rowAt packC w (.slice pa ps.length pc) ps) (h : rowAt txtC w V xs) :
    Calls Tryz.prog 16 #[.slice pa ps.length pc, V] w (CloR ps xs w) := by
  obtain ⟨xa, xc, rfl, ht, -, -⟩ := rowAt_txts h
  have HT := hid ht
  have HP := hid hp
  have HSM := hid hsm
  have HXS := hid hxs
  have hlen := hsm.1
  have HL := hid (listOkPack_any ps _ w hsm hp)
  clear h ht hp hsm hxs
  go_enter Tryz.func16, Tryz.ntmps16
  go_wp2_with fail
  refine (unhid HL).mono ?_
  rintro e w1 ⟨rfl, hb⟩
  have HB1 := hid hb
  clear hb HL
  cases hok : allPk ps with
  | false =>
    have E := hid (show closeR ps xs = ([], 1) by unfold closeR packsCode; rw [hok]; rfl)
    go_wp2_with fail
    go_ret2
    exact cloR_no (unhid E) (unhid HB1)
  | true =>
    have HOK := hid hok
    clear hok
    go_wp2_with fail
    refine (namesOfPacks_any ps _ w1 hlen ((unhid HP).below (unhid HB1))).mono ?_
    rintro e w2 ⟨u, rfl, ho, hb⟩
    obtain ⟨ua, uc, hu⟩ := ownsRow_sl ho
    subst hu
    have HO := hid ho
    have HB2 := hid ((unhid HB1).trans (hb.mono (unhid HB1).size))
    clear ho hb
    go_wp2_with fail
    refine (anyTwice_any (namesP ps) _ w1.heap.size w2 (by rw [namesP_len]; omega) (unhid HO)).mono ?_
    rintro e w3 ⟨rfl, hg⟩
    have HB3 := hid (grown_belowN (unhid HB2) hg (fun j ej => Nat.le_trans (unhid HB1).size ((unhid HO).lt j ej).1))
    clear hg HO HB2
    cases htw : twiceB (namesP ps) with
    | true =>
      have E := hid (show closeR ps xs = ([], 2) by unfold closeR packsCode; rw [unhid HOK, htw]; rfl)
      go_wp2_with fail
      go_ret2
      exact cloR_no (unhid E) (unhid HB3)
    | false =>
      have HND := hid (show (namesP ps).Nodup by unfold twiceB at htw; simpa using htw)
      have E := hid (show closeR ps xs = closeL (fun x o => clsF (graphP ps) (ps.length + 1) x o []) xs [] by unfold closeR; rw [packs_code (unhid HOK) (unhid HND), if_pos rfl])
      clear htw
      go_wp2_with fail
      refine (newWalk_any pa pc ps w3 (unhid HSM) (unhid HND) ((unhid HP).below (unhid HB3))).mono ?_
      rintro e w4 ⟨g, mb, kb, D, rfl, hwk, hb⟩
      have HWK := hid hwk
      have HB4 := hid hb
      clear hwk hb
      go_wp2_with fail
      go_loopw [22] (fun i wr => ∃ (k : Nat) (S : WS) (st : Nat → Int) (wv nv : Value), k ≤ xs.length ∧ i = .int .i64 (k : Int) ∧ Hid (WK wr w3.heap.size g (.slice pa ps.length pc) ps st S mb kb D wv nv ∧ StOk (namesP ps) S st ∧ InvS ps S ∧ S.wt = []) ∧ Hid (closeL (fun x o => clsF (graphP ps) (ps.length + 1) x o []) (xs.take k) [] = (S.out, 0)) ∧ Hid (Below w3.heap.size w3 wr)) (fun i _ => xs.length - (intOf i).toNat)
      case atStart =>
        refine ⟨0, ⟨[], fun _ => 0, []⟩, fun _ => 0, _, _, Nat.zero_le _, rfl, hid ⟨unhid HWK, fun j hj => ?_, ⟨List.nodup_nil, fun i hi => (by cases hi), fun i _ _ _ => rfl, List.nodup_nil, fun x hx => (by cases hx)⟩, rfl⟩, hid rfl, HB4⟩
        obtain ⟨y, hy⟩ : ∃ y, (namesP ps)[j]? = some y := ⟨(namesP ps)[j], List.getElem?_eq_getElem hj⟩
        rw [stI_at hy]
        rfl
      case round =>
        clear HWK HB4
        obtain ⟨k, S, st, wv, nv, hk, rfl, HK, HC, HB⟩ := hrel
        by_cases hlt : k < xs.length
        · obtain ⟨x, hxk⟩ : ∃ x, xs[k]? = some x := ⟨xs[k], List.getElem?_eq_getElem hlt⟩
          obtain ⟨b, o, rfl, hbl, hcell⟩ := (unhid HT).get (by intro e; subst e; simp at hlt)
          have HBW := hid ((unhid HB3).trans ((unhid HB).mono (unhid HB3).size))
          have c0 := ((unhid HBW).cell (p := ⟨b, o + k, none⟩) hbl).trans (hcell k x hxk)
          have hC := unhid HC
          have HCA := hid (close_at (f := fun x o => clsF (graphP ps) (ps.length + 1) x o []) hxk (by rw [hC]))
          have hxz : x.size ≤ maxLen := unhid HXS x (List.mem_of_getElem? hxk)
          rw [hC] at HCA
          clear hcell hbl hxk hC
          go_wp2_with fail
          refine (add_any w3.heap.size g pa pc ps st S mb kb D wv nv x wr (unhid HSM) (unhid HOK) (unhid HND) hxz (fun W' hb => (unhid HP).below ((unhid HBW).trans (hb.mono (unhid HB3).size))) (unhid HK).1 (unhid HK).2.1 (unhid HK).2.2.1 (unhid HK).2.2.2).mono ?_
          rintro e w5 ⟨S2, st2, wv2, nv2, rfl, hwk, hst, hin, hz, hb⟩
          have HK2 := hid (And.intro hwk (And.intro hst hin))
          have HZ := hid hz
          have HB5 := hid ((unhid HB).trans hb)
          clear hwk hst hin hz hb c0 HK HBW HB hxz
          by_cases hz : (clsF (graphP ps) (ps.length + 1) x S.out []).2 = 0
          · have EN := hid ((unhid HCA).2 hz)
            have HZ2 := hid (unhid HZ hz)
            have HZZ := hid hz
            rw [hz]
            clear hz HZ
            go_wp2_with fail
            go_roundw
            case rel => exact ⟨k + 1, S2, st2, wv2, nv2, by omega, by go_num, hid ⟨(unhid HK2).1, (unhid HK2).2.1, (unhid HK2).2.2, (unhid HZ2).1⟩, hid (by rw [unhid EN, (unhid HZ2).2]; exact Prod.ext rfl (unhid HZZ)), HB5⟩
            case measure => simp [intOf]; omega
          · have EN := hid ((unhid E).trans ((unhid HCA).1 hz))
            have HB6 := hid ((unhid HB3).trans ((unhid HB5).mono (unhid HB3).size))
            clear HZ HCA HC
            generalize (clsF (graphP ps) (ps.length + 1) x S.out []).2 = cz at *
            have hzb : (cz != 0) = true := by simpa using hz
            go_wp2_with fail
            go_ret2
            exact cloR_no (unhid EN) (unhid HB6)
        · have e : k = xs.length := by omega
          subst e
          have hC := unhid HC
          rw [List.take_of_length_le (Nat.le_refl _)] at hC
          have E2 := hid ((unhid E).trans hC)
          obtain ⟨⟨b0, b1, b2, b3, b4⟩, -, -⟩ := (unhid HK).1.cells
          obtain ⟨va, vc, hv⟩ := ownsRow_sl (unhid HK).1.names
          subst hv
          have HF := hid (And.intro (ownsRow_lowerS (unhid HK).1.names (unhid HB3).size) ((unhid HB3).trans ((unhid HB).mono (unhid HB3).size)))
          clear hC b0 b1 b2 b3
          go_wp2_with fail
          go_ret2
          exact ⟨_, by unfold closure_1; rw [unhid E2]; rfl, by unfold closure_0; rw [unhid E2]; exact (unhid HF).1, (unhid HF).2⟩
end Go.Proofs.YtoihhlkidlapmaaGreat

namespace Go.Proofs.YtoihhlkidlapmaaGreat
open Go.RowKit Go.Shelf
end Go.Proofs.YtoihhlkidlapmaaGreat

namespace Go.Proofs.YtoihhlkidlapmaaGreat
open Go.RowKit Go.Shelf Go.Maps
theorem close_err {f : ByteArray → List ByteArray → List ByteArray × Int} : ∀ (xs out : List ByteArray), (closeL f xs out).2 ≠ 0 → (closeL f xs out).1 = []
  | [], out, h => absurd rfl h
  | x :: xs, out, h => by
    rw [closeL] at h ⊢
    by_cases h2 : (f x out).2 = 0
    · rw [if_pos h2] at h ⊢; exact close_err xs _ h
    · rw [if_neg h2]
theorem closure_good {ps : List packC.D} {xs : List ByteArray} (h : closure_1 ps xs = 0) : packsCode ps = 0 ∧ GoodL (graphP ps) (closure_0 ps xs) ∧ closeL (fun x o => clsF (graphP ps) (ps.length + 1) x o []) xs [] = (closure_0 ps xs, 0) ∧ ∀ x ∈ xs, x ∈ closure_0 ps xs := by
  unfold closure_1 closeR at h
  unfold closure_0 closeR
  by_cases hc : packsCode ps = 0
  · rw [if_pos hc] at h ⊢
    obtain ⟨g, _, m⟩ := close_ok (G := graphP ps) (N := ps.length + 1) xs [] h (good_nil _)
    exact ⟨hc, g, Prod.ext rfl h, m⟩
  · rw [if_neg hc] at h; exact absurd h hc
theorem closure_bad {ps : List packC.D} {xs : List ByteArray} (h : closure_1 ps xs ≠ 0) : closure_0 ps xs = [] := by
  unfold closure_1 closeR at h
  unfold closure_0 closeR
  by_cases hc : packsCode ps = 0
  · rw [if_pos hc] at h ⊢; exact close_err _ _ h
  · rw [if_neg hc]
theorem closure_in (ps : List packC.D) (xs : List ByteArray) : (closure_0 ps xs).length ≤ ps.length ∧ ∀ x ∈ closure_0 ps xs, x ∈ namesP ps := by
  by_cases h : closure_1 ps xs = 0
  · obtain ⟨_, g, _⟩ := closure_good h
    exact ⟨good_len g, good_in g⟩
  · rw [closure_bad h]
    exact ⟨Nat.zero_le _, fun x hx => by cases hx⟩
theorem names_small {ps : List packC.D} (hs : smallPs ps) : ∀ x ∈ namesP ps, x.size ≤ 1048576 := fun x hx => by
  obtain ⟨i, hi⟩ := List.getElem?_of_mem hx
  obtain ⟨p, hp, rfl⟩ := namesP_some hi
  exact (hs.2 p (List.mem_of_getElem? hp)).name
end Go.Proofs.YtoihhlkidlapmaaGreat

namespace Go.Proofs.YtoihhlkidlapmaaGreat
open Go.RowKit Go.Shelf
end Go.Proofs.YtoihhlkidlapmaaGreat

namespace Go.Proofs.YtoihhlkidlapmaaGreat
open Go.RowKit Go.Shelf
theorem own_ge {W : World} {N n : Nat} {v : Value} {xs : List ByteArray} (h : W.ownsRow N 9 1 v n (xs.map Value.string)) : ∀ k, v.ownBlock = some k → N ≤ k ∧ k < W.heap.size := fun k hk => by
  rcases h.2 with ⟨rfl, _⟩ | ⟨g, cap, cur, rfl, hg, hh, _⟩
  · cases hk
  · have : g = k := by injection hk
    subst this
    exact ⟨hg, (Array.getElem?_eq_some_iff.1 hh).1⟩
end Go.Proofs.YtoihhlkidlapmaaGreat

namespace Go.Proofs.YtoihhlkidlapmaaGreat
open Go.RowKit Go.Shelf Go.Maps
theorem needs_code {α : Type} {f : α → List α → List α × Int} (hf : ∀ y o, (f y o).2 = 0 ∨ (f y o).2 = 3 ∨ (f y o).2 = 4) : ∀ (ns : List (α × Bool)) (out : List α), (needsF f ns out).2 = 0 ∨ (needsF f ns out).2 = 3 ∨ (needsF f ns out).2 = 4
  | [], _ => .inl rfl
  | n :: ns, out => by
    rw [needsF]
    split
    · exact .inr (.inl rfl)
    · split
      · exact needs_code hf ns _
      · exact hf _ _
theorem cls_code {α : Type} [DecidableEq α] (G : α → Option (List (α × Bool))) : ∀ (f : Nat) (x : α) (out op : List α), (clsF G f x out op).2 = 0 ∨ (clsF G f x out op).2 = 3 ∨ (clsF G f x out op).2 = 4
  | 0, _, _, _ => .inr (.inr rfl)
  | f + 1, x, out, op => by
    rw [clsF]
    split
    · exact .inl rfl
    · cases G x with
      | none => exact .inr (.inl rfl)
      | some ns =>
        dsimp only
        split
        · exact .inr (.inr rfl)
        · split
          · exact .inl rfl
          · exact needs_code (fun y o => cls_code G f y o (op ++ [x])) ns out
theorem closeL_code {α : Type} {f : α → List α → List α × Int} (hf : ∀ y o, (f y o).2 = 0 ∨ (f y o).2 = 3 ∨ (f y o).2 = 4) : ∀ (xs out : List α), (closeL f xs out).2 = 0 ∨ (closeL f xs out).2 = 3 ∨ (closeL f xs out).2 = 4
  | [], _ => .inl rfl
  | x :: xs, out => by
    rw [closeL]
    split
    · exact closeL_code hf xs _
    · exact hf _ _
theorem closure_code {ps : List packC.D} (h : packsCode ps = 0) (xs : List ByteArray) : closure_1 ps xs = 0 ∨ closure_1 ps xs = 3 ∨ closure_1 ps xs = 4 := by
  unfold closure_1 closeR
  rw [if_pos h]
  exact closeL_code (fun y o => cls_code _ _ _ _ _) _ _
theorem good_needs {ps : List packC.D} {out : List ByteArray} (hn : (namesP ps).Nodup) (hg : GoodL (graphP ps) out) {k i j : Nat} {x : ByteArray} {p : packC.D} {n : needC.D} (hx : out[k]? = some x) (hp : ps[i]? = some p) (he : PackD.name p = x) (hj : (needsOf p)[j]? = some n) : NeedD.name n ∈ out.take k := by
  obtain ⟨-, ns, h1, h2⟩ := hg k x hx
  subst he
  rw [graph_at hn hp] at h1
  cases h1
  exact (h2 _ (List.mem_of_getElem? (asks_get (ps := ps) hj))).2
structure TR (W : World) (a : Option Addr) (c : Nat) (xs : List ByteArray) : Prop where
  row : rowAt txtC W (.slice a xs.length c) xs
  few : xs.length ≤ 1000
  small : ∀ x ∈ xs, x.size ≤ 1048576
theorem TR.below {W W' : World} {a : Option Addr} {c : Nat} {xs : List ByteArray} (h : TR W a c xs) (hb : Below W.heap.size W W') : TR W' a c xs := ⟨h.row.below hb, h.few, h.small⟩
theorem TR.txts {W : World} {a : Option Addr} {c : Nat} {xs : List ByteArray} (h : TR W a c xs) : TxtsAt W a xs ∧ (a = none → c = 0) ∧ xs.length ≤ c := by
  obtain ⟨a', c', e, h1, h2, h3⟩ := rowAt_txts h.row
  injection e with e1 _ e3
  subst e1 e3
  exact ⟨h1, h2, h3⟩
theorem TR.get {W : World} {a : Option Addr} {c : Nat} {xs : List ByteArray} (h : TR W a c xs) {i : Nat} {x : ByteArray} (hi : xs[i]? = some x) : ∃ b o, a = some ⟨b, o, none⟩ ∧ b < W.heap.size ∧ W.cell? ⟨b, o + i, none⟩ = some (.string x) := by
  obtain ⟨b, o, h1, h2, h3⟩ := h.txts.1.get (by intro e; subst e; simp at hi)
  exact ⟨b, o, h1, h2, h3 i x hi⟩
theorem KW.txts {Φ : World → Prop} {W : World} (h : KW Φ W) {a : Option Addr} {c : Nat} {xs : List ByteArray} (hr : TR W a c xs) : KW (fun W => Φ W ∧ TR W a c xs) W := h.add (fun _ _ hb hp => hp.below hb) hr
def CloT (ps : List packC.D) (xs : List ByteArray) (W : World) (x : Ending) (w' : World) : Prop := ∃ a c, x = .returned (.tuple #[.slice a (closure_0 ps xs).length c, .int .i64 (closure_1 ps xs)]) ∧ TR w' a c (closure_0 ps xs) ∧ Below W.heap.size W w'
theorem cloT_of {ps : List packC.D} {xs : List ByteArray} {W w' : World} {v : Value} (hs : smallPs ps) (hf : ps.length ≤ 100) (ho : w'.ownsRow W.heap.size 9 1 v (closure_0 ps xs).length ((closure_0 ps xs).map Value.string)) (hb : Below W.heap.size W w') : CloT ps xs W (.returned (.tuple #[v, .int .i64 (closure_1 ps xs)])) w' := by
  obtain ⟨a, c, rfl, -, -, -⟩ := ownsRow_txts ho
  obtain ⟨h1, h2⟩ := closure_in ps xs
  exact ⟨a, c, rfl, ⟨ownsRow_at ho, by omega, fun x hx => names_small hs x (h2 x hx)⟩, hb⟩
theorem implClo_r {W : World} {pa xa : Option Addr} {pc xc : Nat} {ps : List packC.D} {xs : List ByteArray} (h : RR W pa pc ps) (hx : TR W xa xc xs) : Calls Tryz.prog 16 #[.slice pa ps.length pc, .slice xa xs.length xc] W (CloT ps xs W) := by
  refine (implClosure_any ps pa pc xs _ W h.small (by have := hx.few; omega) (fun x hm => le_maxLen (hx.small x hm)) h.row hx.row).mono ?_
  rintro e w' ⟨v, rfl, ho, hb⟩
  exact cloT_of h.small h.few ho hb
end Go.Proofs.YtoihhlkidlapmaaGreat

namespace Go.Proofs.YtoihhlkidlapmaaGreat
open Go.RowKit Go.Shelf Go.Maps Go.ChangeShapes
end Go.Proofs.YtoihhlkidlapmaaGreat

namespace Go.Proofs.YtoihhlkidlapmaaGreat
end Go.Proofs.YtoihhlkidlapmaaGreat

namespace Go.Proofs.YtoihhlkidlapmaaGreat
open Go.RowKit Go.Shelf Go.Maps Go.ChangeShapes
def ltT (a b : ByteArray) : Bool := !leB b.data.toList a.data.toList
theorem lt_le {a b : ByteArray} (h : ltT a b = true) : leB a.data.toList b.data.toList = true := by
  have := leB_to a.data.toList b.data.toList
  unfold ltT at h
  cases h2 : leB b.data.toList a.data.toList with
  | true => rw [h2] at h; cases h
  | false => rw [h2, Bool.or_false] at this; exact this
theorem lt_trans {a b c : ByteArray} (h1 : ltT a b = true) (h2 : ltT b c = true) : ltT a c = true := by
  cases h : ltT a c with
  | true => rfl
  | false =>
    unfold ltT at h
    have h3 : leB c.data.toList a.data.toList = true := by simpa using h
    have h4 := leB_tr _ _ _ h3 (lt_le h1)
    unfold ltT at h2
    rw [h4] at h2; cases h2
end Go.Proofs.YtoihhlkidlapmaaGreat

namespace Go.Proofs.YtoihhlkidlapmaaGreat
open Go.RowKit Go.Shelf Go.Maps Go.ChangeShapes Go.Sort
end Go.Proofs.YtoihhlkidlapmaaGreat

namespace Go.Proofs.YtoihhlkidlapmaaGreat
open Go.RowKit Go.Shelf Go.Maps Go.ChangeShapes
end Go.Proofs.YtoihhlkidlapmaaGreat

namespace Go.Proofs.YtoihhlkidlapmaaGreat
open Go.RowKit Go.Shelf Go.Maps Go.ChangeShapes
end Go.Proofs.YtoihhlkidlapmaaGreat

namespace Go.Proofs.YtoihhlkidlapmaaGreat
open Go.RowKit Go.Shelf Go.Maps Go.ChangeShapes
end Go.Proofs.YtoihhlkidlapmaaGreat

namespace Go.Proofs.YtoihhlkidlapmaaGreat
open Go.RowKit Go.Shelf Go.Maps Go.ChangeShapes
end Go.Proofs.YtoihhlkidlapmaaGreat

namespace Go.Proofs.YtoihhlkidlapmaaGreat
open Go.RowKit Go.Shelf
end Go.Proofs.YtoihhlkidlapmaaGreat

namespace Go.Proofs.YtoihhlkidlapmaaGreat
open Go.RowKit Go.Shelf Go.Maps
theorem ascP_nodup {ps : List packC.D} (h : AscP ps) : (namesP ps).Nodup := by
  have h2 := (ascP_iff ps).1 h
  unfold List.Nodup
  rw [List.pairwise_iff_getElem]
  intro i j hi hj hij
  exact ltS_ne (h2 i j _ _ hij (List.getElem?_eq_getElem hi) (List.getElem?_eq_getElem hj))
theorem root_packs {ps : List packC.D} (h : rootCode ps = 0) : packsCode ps = 0 := by
  obtain ⟨f1, f2, -⟩ := (code_iff ps).1 h
  exact packs_code (List.all_eq_true.2 f1) (ascP_nodup f2)
theorem sub_code {ps qs : List packC.D} (h : rootCode ps = 0) (hs : qs.Sublist ps) : (needsB qs = true → rootCode qs = 0) ∧ (needsB qs = false → rootCode qs = 4) := by
  obtain ⟨f1, f2, h1, h2, m, U, u1, u2, u3, u4⟩ := (code_iff ps).1 h
  have g1 : ∀ p ∈ qs, pkOk p = true := fun p hp => f1 p (hs.subset hp)
  have g2 : AscP qs := List.Pairwise.sublist hs f2
  have g3 : qs.length ≤ 5 := Nat.le_trans hs.length_le h1
  have g4 : Mates qs := List.Pairwise.sublist hs m
  have g5 : Fits U [] qs := ⟨u1, u2, fun x hx => (by cases hx), fun p hp => u4 p (hs.subset hp)⟩
  exact ⟨fun hn => (code_iff qs).2 ⟨g1, g2, g3, hn, g4, U, g5⟩, fun hn => code_needs ((form_iff qs).2 ⟨g1, g2⟩) g3 hn⟩
theorem fit_name {n : needC.D} {q : packC.D} (h : fitOne n q = true) : PackD.name q = NeedD.name n := by
  unfold fitOne at h
  rw [Bool.and_eq_true, decide_eq_true_eq] at h
  exact h.1
end Go.Proofs.YtoihhlkidlapmaaGreat

namespace Go.Proofs.YtoihhlkidlapmaaGreat
open Go.RowKit Go.Shelf Go.Maps
theorem needs_no3 {α : Type} {P : α → Prop} {f : α → List α → List α × Int} (hf : ∀ y o, P y → (f y o).2 ≠ 3) : ∀ (ns : List (α × Bool)) (out : List α), (∀ n ∈ ns, n.2 = true ∧ P n.1) → (needsF f ns out).2 ≠ 3
  | [], _, _ => by rw [needsF]; simp
  | n :: ns, out, h => by
    have h1 := h n (by simp)
    rw [needsF, if_neg (by rw [h1.1]; decide)]
    split
    · exact needs_no3 hf ns _ (fun m hm => h m (List.mem_cons_of_mem _ hm))
    · exact hf _ _ h1.2
theorem cls_no3 {α : Type} [DecidableEq α] {G : α → Option (List (α × Bool))} (hG : ∀ x ns, G x = some ns → ∀ n ∈ ns, n.2 = true ∧ G n.1 ≠ none) : ∀ (f : Nat) (x : α) (out op : List α), G x ≠ none → (clsF G f x out op).2 ≠ 3
  | 0, _, _, _, _ => by rw [clsF]; simp
  | f + 1, x, out, op, hx => by
    rw [clsF]
    split
    · simp
    · cases h : G x with
      | none => exact absurd h hx
      | some ns =>
        dsimp only
        split
        · simp
        · split
          · simp
          · exact needs_no3 (P := fun y => G y ≠ none) (fun y o hy => cls_no3 hG f y o _ hy) ns out (hG x ns h)
theorem closeL_no3 {α : Type} {f : α → List α → List α × Int} : ∀ (xs out : List α), (∀ x ∈ xs, ∀ o, (f x o).2 ≠ 3) → (closeL f xs out).2 ≠ 3
  | [], _, _ => by rw [closeL]; simp
  | x :: xs, out, h => by
    rw [closeL]
    split
    · exact closeL_no3 xs _ (fun y hy => h y (List.mem_cons_of_mem _ hy))
    · exact h x (by simp) _
theorem all_code {ps : List packC.D} (h : rootCode ps = 0) : closure_1 ps (namesP ps) = 0 ∨ closure_1 ps (namesP ps) = 4 := by
  have hp0 := root_packs h
  have hnd := (packs_ok hp0).2
  obtain ⟨-, -, -, hnb, -⟩ := (code_iff ps).1 h
  have hnone : ∀ x ∈ namesP ps, graphP ps x ≠ none := fun x hx => by
    obtain ⟨i, hi⟩ := List.getElem?_of_mem hx
    obtain ⟨p, hp, rfl⟩ := namesP_some hi
    rw [graph_at hnd hp]; simp
  have h3 : closure_1 ps (namesP ps) ≠ 3 := by
    unfold closure_1 closeR
    rw [if_pos hp0]
    refine closeL_no3 _ _ (fun x hx o => cls_no3 (fun c ns hG n hn => ?_) _ x o [] (hnone x hx))
    unfold graphP at hG
    cases hf : List.find? (α := packC.D) (fun q => decide (PackD.name q = c)) ps with
    | none => rw [hf] at hG; cases hG
    | some q =>
      rw [hf] at hG
      cases hG
      unfold asksOf at hn
      obtain ⟨m, hm, rfl⟩ := List.mem_map.1 hn
      unfold needsB at hnb
      have hb := List.all_eq_true.1 (List.all_eq_true.1 hnb q (List.mem_of_find?_eq_some hf)) m hm
      exact ⟨hb, hnone _ (has_in hb)⟩
  rcases closure_code hp0 (namesP ps) with h1 | h1 | h1
  · exact .inl h1
  · exact absurd h1 h3
  · exact .inr h1
def firstP (ps : List packC.D) (out : List ByteArray) (i : Nat) : List packC.D := List.filter (α := packC.D) (fun p => memB (PackD.name p) (out.take i)) ps
theorem first_mem {ps : List packC.D} {out : List ByteArray} {i : Nat} {p : packC.D} : p ∈ firstP ps out i ↔ p ∈ ps ∧ PackD.name p ∈ out.take i := by
  unfold firstP
  rw [List.mem_filter, memB_iff]
theorem all_law {ps : List packC.D} (h : rootCode ps = 0) (h0 : closure_1 ps (namesP ps) = 0) :
    (closure_0 ps (namesP ps)).length = ps.length ∧ firstP ps (closure_0 ps (namesP ps)) 0 = [] ∧ firstP ps (closure_0 ps (namesP ps)) (closure_0 ps (namesP ps)).length = ps ∧
    (∀ i, rootCode (firstP ps (closure_0 ps (namesP ps)) i) = 0) ∧
    ∀ (i : Nat) x, (closure_0 ps (namesP ps))[i]? = some x → rootOutC ⟨firstP ps (closure_0 ps (namesP ps)) (i + 1)⟩ x = 0 ∧ rootOutP ⟨firstP ps (closure_0 ps (namesP ps)) (i + 1)⟩ x = firstP ps (closure_0 ps (namesP ps)) i := by
  obtain ⟨hp0, hg, -, hin⟩ := closure_good h0
  have hnd := (packs_ok hp0).2
  obtain ⟨-, -, -, hnb, -⟩ := (code_iff ps).1 h
  generalize closure_0 ps (namesP ps) = out at hg hin ⊢
  have hlen : out.length = ps.length := by
    have h1 := good_len hg
    have h2 := nodup_len (namesP ps) out hnd hin
    rw [namesP_len] at h2
    omega
  have hok : ∀ i, rootCode (firstP ps out i) = 0 := fun i => by
    refine (sub_code h List.filter_sublist).1 ?_
    unfold needsB
    refine List.all_eq_true.2 (fun p hp => List.all_eq_true.2 (fun n hn => ?_))
    obtain ⟨hp1, hp2⟩ := first_mem.1 hp
    obtain ⟨k, hk⟩ := List.getElem?_of_mem hp2
    have hki : k < i := by have := (List.getElem?_eq_some_iff.1 hk).1; rw [List.length_take] at this; omega
    rw [List.getElem?_take_of_lt hki] at hk
    obtain ⟨pi, hpi⟩ := List.getElem?_of_mem hp1
    obtain ⟨j, hj⟩ := List.getElem?_of_mem hn
    have hmem := good_needs hnd hg hk hpi rfl hj
    unfold needsB at hnb
    have hb := List.all_eq_true.1 (List.all_eq_true.1 hnb p hp1) n hn
    unfold hasNeed at hb ⊢
    obtain ⟨r, hr, hfit⟩ := List.any_eq_true.1 hb
    refine List.any_eq_true.2 ⟨r, first_mem.2 ⟨hr, ?_⟩, hfit⟩
    rw [fit_name hfit]
    have : out.take k = (out.take i).take k := by rw [List.take_take, Nat.min_eq_left (by omega)]
    rw [this] at hmem
    exact List.mem_of_mem_take hmem
  refine ⟨hlen, ?_, ?_, hok, fun i x hx => ?_⟩
  · refine List.filter_eq_nil_iff.2 (fun p _ => ?_)
    rw [List.take_zero]
    simp [memB]
  · refine List.filter_eq_self.2 (fun p hp => ?_)
    rw [List.take_length]
    obtain ⟨i, hi⟩ := List.getElem?_of_mem hp
    exact memB_yes (hin _ (List.mem_of_getElem? (namesP_get hi)))
  · have hxn : x ∈ namesP ps := good_in hg x (List.mem_of_getElem? hx)
    have hnot : x ∉ out.take i := (hg i x hx).1
    have ht : out.take (i + 1) = out.take i ++ [x] := by rw [List.take_add_one, hx]; rfl
    have hw : withoutP x (firstP ps out (i + 1)) = firstP ps out i := by
      unfold withoutP firstP
      rw [List.filter_filter]
      refine List.filter_congr (fun p _ => ?_)
      rw [Bool.eq_iff_iff, Bool.and_eq_true, memB_iff, memB_iff, ht, List.mem_append, List.mem_singleton]
      constructor
      · rintro ⟨h1, h2 | h2⟩
        · exact h2
        · rw [h2] at h1; simp at h1
      · intro h2
        refine ⟨?_, .inl h2⟩
        have : PackD.name p ≠ x := fun e => hnot (e ▸ h2)
        simp [this]
    obtain ⟨p, hp, hpx⟩ := name_mem.1 hxn
    have hb : hasBN x (firstP ps out (i + 1)) = true := (hasB_iffN x _).2 (name_mem.2 ⟨p, first_mem.2 ⟨hp, by rw [hpx, ht]; simp⟩, hpx⟩)
    have hr := rout_code (d := ⟨firstP ps out (i + 1)⟩) (q := x) (ok_0.2 (hok (i + 1)))
    rw [hr.1, hr.2]
    show outCode x (firstP ps out (i + 1)) = 0 ∧ outP x (firstP ps out (i + 1)) = _
    unfold outCode outP tryP
    rw [if_pos hb, if_pos hb, hw, if_pos (hok i)]
    exact ⟨hok i, rfl⟩
theorem first_small {ps : List packC.D} {out : List ByteArray} {i : Nat} (hs : smallPs ps) (hf : ps.length ≤ 100) : smallPs (firstP ps out i) ∧ (firstP ps out i).length ≤ 100 := by
  have hl : (firstP ps out i).length ≤ ps.length := List.length_filter_le _ _
  exact ⟨⟨by omega, fun x hx => hs.2 x (first_mem.1 hx).1⟩, by omega⟩
theorem names_next {ps : List packC.D} {k : Nat} {p : packC.D} (h : ps[k]? = some p) : (namesP ps).take (k + 1) = (namesP ps).take k ++ [PackD.name p] := by
  rw [List.take_add_one, namesP_get h]; rfl
end Go.Proofs.YtoihhlkidlapmaaGreat

namespace Go.Proofs.YtoihhlkidlapmaaGreat
open Go.RowKit Go.Shelf Go.Maps
theorem TR.of_owns {W : World} {N : Nat} {a : Option Addr} {c : Nat} {xs : List ByteArray} (h : W.ownsRow N 9 1 (.slice a xs.length c) xs.length (xs.map Value.string)) (hf : xs.length ≤ 1000) (hs : ∀ x ∈ xs, x.size ≤ 1048576) : TR W a c xs := ⟨ownsRow_at h, hf, hs⟩
end Go.Proofs.YtoihhlkidlapmaaGreat

namespace Go.Proofs.YtoihhlkidlapmaaGreat
open Go.RowKit Go.Shelf
theorem outOut_k {W : World} {a : Option Addr} {c : Nat} {ps X : List packC.D} {q : ByteArray} {k : Int} (h : RR W a c ps) (e : rootOutP ⟨ps⟩ q = X) (ek : rootOutC ⟨ps⟩ q = k) (hs : smallPs X) (hf : X.length ≤ 100) : Calls Tryz.prog 39 #[.agg #[.slice a ps.length c], .string q] W (TurnedK X k W) :=
  (implRootOut_any ⟨ps⟩ a c q W h.small h.row).mono (fun _ _ ⟨r, L, h1, hN, hL, hb⟩ => by
    rw [e] at hL
    obtain ⟨a', c', rfl, -⟩ := rr_of hN hL hs hf
    refine ⟨a', c', by rw [h1, ek], fun w'' hw => ?_, hb⟩
    obtain ⟨a2, c2, e2, hr⟩ := rr_of (hN.frame (fun j hj => hw j (hN.base j hj).1 (hN.base j hj).2)) hL hs hf
    cases e2
    exact hr)
end Go.Proofs.YtoihhlkidlapmaaGreat
