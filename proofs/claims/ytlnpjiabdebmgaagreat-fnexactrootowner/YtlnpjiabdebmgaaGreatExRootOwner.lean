/- For all arguments the program's RootOwner answers as its model does; it writes into no argument, and what it answers is its own. -/
import Derived.Test.YtlnpjiabdebmgaaGreatJoin12
import Derived.Test.YtlnpjiabdebmgaaGreatJoin10
namespace Go.Proofs.YtlnpjiabdebmgaaGreat
open Go.ChangeShapes Go.WideShapes Go.ChangeAt Go.RowKit Go.Shelf
open Go.ChangeMaps (open_string shut_string)

set_option maxRecDepth 100000 in
set_option maxHeartbeats 16000000 in
theorem walk_FnExactRootOwner (d0 : RootD) (V0 : Value) (d1 : ByteArray) (w : World) (hz0 : (rootC.big d0)) (h0 : aggAt rootC w V0 d0) (hz1 : d1.size ≤ maxLen) :
    Calls Tryz.prog 9 #[V0, .string d1] w fun x w' => x = .returned (.bool true) ∧ Below w.heap.size w w' := by
  have hs1 : d1.size ≤ 9223372036854775807 := hz1
  clear hz1
  obtain ⟨cs0, rfl, hat0⟩ := h0
  obtain ⟨pv0_0, rfl, pr0_0⟩ := rootC_at hat0
  obtain ⟨P0a0, P0c0, rfl, -⟩ := rowAt.slice pr0_0
  have h0 : aggAt rootC w (.agg #[.slice P0a0 d0.packs.length P0c0]) d0 := ⟨_, rfl, hat0⟩
  clear hat0 pr0_0
  have HA0 := hid h0
  have HZ0 := hid hz0
  clear h0 hz0
  by_cases hneg1 : (1048576 : Int) < (d1.size : Int)
  · go_enter Tryz.func9, Tryz.ntmps9
    go_wp2_with fail
    go_ret
    exact ⟨rfl, (Below.refl _ _).alloc (Nat.le_refl _) _⟩
  go_enter Tryz.func9, Tryz.ntmps9
  go_wp2_with fail
  have hbx0 := World.alloc_heap_new w (.cells #[.slice P0a0 d0.packs.length P0c0] 37)
  have hb : Below w.heap.size w (w.alloc (.cells #[.slice P0a0 d0.packs.length P0c0] 37)) := (Below.refl _ w).alloc (Nat.le_refl _) _
  have hszb : w.heap.size + 1 ≤ (w.alloc (.cells #[.slice P0a0 d0.packs.length P0c0] 37)).heap.size := by simp
  generalize (w.alloc (.cells #[.slice P0a0 d0.packs.length P0c0] 37)) = wb at hb hszb hbx0 ⊢
  have HB0 := hid hb
  have HORD := hid hszb
  clear hb hszb
  have BP0 := hid hbx0
  clear hbx0
  refine (vszRoot_v d0 _ 1048576 wb (unhid HZ0) (by omega) (by omega) (aggAt.below (unhid HA0) (unhid HB0))).mono ?_
  rintro x s0 ⟨⟨r0, rfl, hr0a, hr0b⟩, hb⟩
  have HB1 := hid ((unhid HB0).trans (hb.mono (unhid HB0).size))
  have BP0 := hid ((hb.block _ (by have o1 := unhid HORD; omega)).trans (unhid BP0))
  have HORD := hid (show w.heap.size + 1 ≤ s0.heap.size from by have o1 := unhid HORD; have o2 := hb.size; omega)
  clear hb
  clear HB0
  by_cases hneg0 : r0 < 0
  · go_wp2_with fail
    go_ret
    exact ⟨rfl, unhid HB1⟩
  have HT0 := hid (hr0b.resolve_left hneg0)
  have hr0c : 0 ≤ r0 := by omega
  clear hr0b
  have htot : (rootC.sz d0) ≤ 1048576 := by skip; have t0 := unhid HT0; omega
  have M0 := hid (show (rootC.sz d0) ≤ 1048576 ∧ (rootC.big d0) from ⟨by omega, unhid HZ0⟩)
  have M1 := hid (show d1.size ≤ 1048576 by omega)
  clear htot HT0
  have hself0 : ((rootOwner_0 d0 d1).toList != (rootOwner_0 d0 d1).toList) = false := by simp
  have BP0k0 := cell_arrS (unhid BP0) 0 _ rfl
  go_wp2_with fail
  clear BP0k0
  clear hr0a hr0c hneg0 hneg1
  refine (vtoRoot_v d0 _ s0 (unhid M0).1 (aggAt.below (unhid HA0) (unhid HB1))).mono ?_
  rintro x w3 ⟨v1, F2, rfl, hown, hfr, hb⟩
  obtain ⟨v1a0, v1c0, hsh⟩ := root_shape hown
  subst hsh
  have HB2 := hid ((unhid HB1).trans (hb.mono (unhid HB1).size))
  have BP0 := hid ((hb.block _ (by have o1 := unhid HORD; omega)).trans (unhid BP0))
  have HORD := hid (show w.heap.size + 1 ≤ w3.heap.size from by have o1 := unhid HORD; have o2 := hb.size; omega)
  clear hb HB1
  have X4 := hid hown
  have bX4 := hid hfr
  clear hown hfr
  have BP0k0 := cell_arrS (unhid BP0) 0 _ rfl
  go_wp2_with fail
  clear BP0k0
  refine (rootOwner_spec d0 d1 (.agg #[.slice v1a0 d0.packs.length v1c0]) F2 w3 (unhid M0) (unhid M1) (unhid X4)).mono ?_
  rintro x w5 ⟨rfl, hb⟩
  have HB3 := hid ((unhid HB2).trans (hb.mono (unhid HB2).size))
  have BP0 := hid ((hb.block _ (by have o1 := unhid HORD; omega)).trans (unhid BP0))
  have HORD := hid (show w.heap.size + 1 ≤ w5.heap.size from by have o1 := unhid HORD; have o2 := hb.size; omega)
  have X4 := hid (vfresh (unhid X4) hb)
  clear hb HB2
  clear X4 bX4
  have BP0k0 := cell_arrS (unhid BP0) 0 _ rfl
  go_wp2_with fail
  clear BP0k0
  refine (vtoRoot_v d0 _ w5 (unhid M0).1 (aggAt.below (unhid HA0) (unhid HB3))).mono ?_
  rintro x w8 ⟨v6, F7, rfl, hown, hfr, hb⟩
  obtain ⟨v6a0, v6c0, hsh⟩ := root_shape hown
  subst hsh
  have HORDO := HORD
  have HLOHI := hid (show w5.heap.size ≤ w8.heap.size from hb.size)
  have HB4 := hid ((unhid HB3).trans (hb.mono (unhid HB3).size))
  have BP0 := hid ((hb.block _ (by have o1 := unhid HORD; omega)).trans (unhid BP0))
  have HORD := hid (show w.heap.size + 1 ≤ w8.heap.size from by have o1 := unhid HORD; have o2 := hb.size; omega)
  clear hb HB3
  have HORD := hid (show w.heap.size + 1 ≤ w5.heap.size ∧ w5.heap.size ≤ w8.heap.size ∧ w8.heap.size ≤ w8.heap.size from by have o1 := unhid HORDO; have o2 := unhid HORD; have o3 := unhid HLOHI; omega)
  clear HORDO HLOHI
  have X9 := hid hown
  have bX9 := hid hfr
  clear hown hfr
  have BP0k0 := cell_arrS (unhid BP0) 0 _ rfl
  go_wp2_with fail
  clear BP0k0
  have hbx := World.alloc_heap_new w8 (.cells #[.slice v6a0 d0.packs.length v6c0] 42)
  have hb : Below w8.heap.size w8 (w8.alloc (.cells #[.slice v6a0 d0.packs.length v6c0] 42)) := (Below.refl _ w8).alloc (Nat.le_refl _) _
  have hlt : w8.heap.size < (w8.alloc (.cells #[.slice v6a0 d0.packs.length v6c0] 42)).heap.size := by simp
  generalize w8.alloc (.cells #[.slice v6a0 d0.packs.length v6c0] 42) = w10 at hbx hb hlt ⊢
  have HLT := hid hlt
  have BXX9 := hid hbx
  clear hbx hlt
  have HORDO := HORD
  have HB5 := hid ((unhid HB4).trans (hb.mono (unhid HB4).size))
  have BP0 := hid ((hb.block _ (by have o1 := unhid HORD; omega)).trans (unhid BP0))
  have HORD := hid (show w.heap.size + 1 ≤ w5.heap.size ∧ w5.heap.size ≤ w8.heap.size ∧ w8.heap.size ≤ w10.heap.size from by have o1 := unhid HORD; have o2 := hb.size; omega)
  have X9 := hid (vfresh (unhid X9) hb)
  clear hb HB4
  have HORD := hid (show w.heap.size + 1 ≤ w5.heap.size ∧ w5.heap.size ≤ w8.heap.size ∧ w8.heap.size < w10.heap.size ∧ w10.heap.size ≤ w10.heap.size from by have o1 := unhid HORDO; have o2 := unhid HORD; have o3 := unhid HLT; omega)
  clear HORDO HLT
  have BP0k0 := cell_arrS (unhid BP0) 0 _ rfl
  have BXX9k0 := cell_arrS (unhid BXX9) 0 _ rfl
  go_wp2_with fail
  clear BP0k0 BXX9k0
  refine (rootOwner_impl d0 d1 (.agg #[.slice v6a0 d0.packs.length v6c0]) F7 w10 (unhid M0) (unhid M1) (unhid X9)).mono ?_
  rintro x w11 ⟨rfl, hb⟩
  have HB6 := hid ((unhid HB5).trans (hb.mono (unhid HB5).size))
  have BP0 := hid ((hb.block _ (by have o1 := unhid HORD; omega)).trans (unhid BP0))
  have BXX9 := hid ((hb.block _ (by have o1 := unhid HORD; omega)).trans (unhid BXX9))
  have HORD := hid (show w.heap.size + 1 ≤ w5.heap.size ∧ w5.heap.size ≤ w8.heap.size ∧ w8.heap.size < w10.heap.size ∧ w10.heap.size ≤ w11.heap.size from by have o1 := unhid HORD; have o2 := hb.size; omega)
  have X9 := hid (vfresh (unhid X9) hb)
  clear hb HB5
  have BP0k0 := cell_arrS (unhid BP0) 0 _ rfl
  have BXX9k0 := cell_arrS (unhid BXX9) 0 _ rfl
  go_wp2_with fail
  clear BP0k0 BXX9k0
  have BXX9k0 : ∀ x : CW (fun w' => Below w11.heap.size w11 w'), x.w.cell? ⟨w8.heap.size, 0, none⟩ = some (.slice v6a0 d0.packs.length v6c0) := fun x => cell_arrS ((x.h.block _ (by have o1 := unhid HORD; omega)).trans (unhid BXX9)) 0 _ rfl
  have BP0k0 : ∀ x : CW (fun w' => Below w11.heap.size w11 w'), x.w.cell? ⟨w.heap.size, 0, none⟩ = some (.slice P0a0 d0.packs.length P0c0) := fun x => cell_arrS ((x.h.block _ (by have o1 := unhid HORD; omega)).trans (unhid BP0)) 0 _ rfl
  have hba : ∀ {q : Prop}, (CW (fun w' => Below w11.heap.size w11 w') → q) ↔ q := CW.all (Below.refl _ w11)
  refine held_begin (fun w' => Below w11.heap.size w11 w') (by kernel_rfl) (drew_belowS _) ?_
  refine held_here [true, true] (by kernel_rfl) (by kernel_rfl) (fun _ _ _ _ _ h => h) (drew_belowS _) ?_
  dsimp only [pick]
  repeat (go_big_quiet_step (fail))
  refine wpQuiet_nil ?_
  clear hba BXX9k0 BP0k0
  have hb := drew_belowS (B := w11.heap.size) w11
  generalize hdr : w11.drew = w12 at hb ⊢
  clear hdr
  have HC := hid hb
  have HB7 := hid ((unhid HB6).trans (hb.mono (unhid HB6).size))
  have BP0 := hid ((hb.block _ (by have o1 := unhid HORD; omega)).trans (unhid BP0))
  have BXX9 := hid ((hb.block _ (by have o1 := unhid HORD; omega)).trans (unhid BXX9))
  have HORD := hid (show w.heap.size + 1 ≤ w5.heap.size ∧ w5.heap.size ≤ w8.heap.size ∧ w8.heap.size < w10.heap.size ∧ w10.heap.size ≤ w12.heap.size from by have o1 := unhid HORD; have o2 := hb.size; omega)
  have X9 := hid (vfresh (unhid X9) hb)
  clear hb HB6
  refine held_call 2 19 31 (enters_of Tryz.func19 (by kernel_rfl) rfl) #[.agg #[.slice P0a0 d0.packs.length P0c0]] (by kernel_rfl) (by kernel_rfl) rfl rfl rfl rfl rfl ?_
  refine (vtoRoot_v d0 _ w12 (unhid M0).1 (aggAt.below (unhid HA0) (unhid HB7))).mono ?_
  rintro x w13 ⟨v15, F16, rfl, hown, hfr, hb⟩
  obtain ⟨v15a0, v15c0, hsh⟩ := root_shape hown
  subst hsh
  have HC := hid ((unhid HC).trans (hb.mono (unhid HC).size))
  have HB8 := hid ((unhid HB7).trans (hb.mono (unhid HB7).size))
  have BP0 := hid ((hb.block _ (by have o1 := unhid HORD; omega)).trans (unhid BP0))
  have BXX9 := hid ((hb.block _ (by have o1 := unhid HORD; omega)).trans (unhid BXX9))
  have HORD := hid (show w.heap.size + 1 ≤ w5.heap.size ∧ w5.heap.size ≤ w8.heap.size ∧ w8.heap.size < w10.heap.size ∧ w10.heap.size ≤ w13.heap.size from by have o1 := unhid HORD; have o2 := hb.size; omega)
  have X9 := hid (vfresh (unhid X9) hb)
  clear hb HB7
  refine ⟨_, rfl, unhid HC, ?_⟩
  simp only [Act.put, List.setIfInBounds_toArray, List.set_cons_zero, List.set_cons_succ]
  refine held_call 3 21 32 (enters_of Tryz.func21 (by kernel_rfl) rfl) #[(.agg #[.slice v6a0 d0.packs.length v6c0]), .agg #[.slice v15a0 d0.packs.length v15c0]] (by kernel_rfl) (by kernel_rfl) rfl rfl rfl rfl rfl ?_
  refine (veqRoot_v d0 _ _ F7 F16 w13 (unhid M0).2 (unhid X9) hown).mono ?_
  rintro x w14 ⟨rfl, hb⟩
  clear hown hfr
  have HC := hid ((unhid HC).trans (hb.mono (unhid HC).size))
  have HB9 := hid ((unhid HB8).trans (hb.mono (unhid HB8).size))
  have BP0 := hid ((hb.block _ (by have o1 := unhid HORD; omega)).trans (unhid BP0))
  have BXX9 := hid ((hb.block _ (by have o1 := unhid HORD; omega)).trans (unhid BXX9))
  have HORD := hid (show w.heap.size + 1 ≤ w5.heap.size ∧ w5.heap.size ≤ w8.heap.size ∧ w8.heap.size < w10.heap.size ∧ w10.heap.size ≤ w14.heap.size from by have o1 := unhid HORD; have o2 := hb.size; omega)
  have X9 := hid (vfresh (unhid X9) hb)
  clear hb HB8
  refine ⟨_, rfl, unhid HC, ?_⟩
  simp only [Act.put, List.setIfInBounds_toArray, List.set_cons_zero, List.set_cons_succ]
  have hba : ∀ {q : Prop}, (CW (fun w' => Below w11.heap.size w11 w') → q) ↔ q := CW.all (Below.refl _ w11)
  refine held_here [false, false, false, false, true] (by kernel_rfl) (by kernel_rfl) (fun _ _ _ _ _ h => h) (unhid HC) ?_
  dsimp only [pick]
  repeat (go_big_quiet_step (fail))
  refine wpQuiet_nil ?_
  refine held_done (by kernel_rfl) ?_
  clear hba HC
  have BP0k0 := cell_arrS (unhid BP0) 0 _ rfl
  have BXX9k0 := cell_arrS (unhid BXX9) 0 _ rfl
  go_wp2_with fail
  clear BP0k0 BXX9k0
  go_ret
  exact ⟨rfl, unhid HB9⟩

set_option maxRecDepth 100000 in
set_option maxHeartbeats 1000000 in
theorem lifted_FnExactRootOwner (os : Os) (started : os.Started) (H : Type) (enc : TypeId × Value → H) :
    ReturnsInHanded {} Tryz.checked os 9 .any (Rows.fnExactRootOwnerSpec.pre6 enc Tryz.prog Tryz.f9 Rows.fnExactRootOwnerRow.domain false) (Rows.fnExactRootOwnerSpec.post enc Tryz.prog Tryz.f9 false true false false) := by
  refine returnsInHanded_of_change (C := Tryz.checked) own started (by kernel_rfl) Tryz.func9
    (ChangeSpec.witness6 (enc := enc) (C := Tryz.checked) false ⟨#[], #[.agg #[.slice none 0 0], .string ⟨#[]⟩], []⟩ 8 (by kernel_rfl) (by kernel_rfl) (by kernel_rfl) (by kernel_rfl)) ?_
  intro W base args ds gs before hval0 hW _ _
  have hval : ∀ (j : Nat) t v, Tryz.f9.params[j]? = some t → args[j]? = some v → Value.okWide Tryz.prog W .any base t v := hval0
  have hW' := hW
  obtain ⟨p, q, hA0, hV, rfl, hfz, hnd⟩ := hW
  have hA : DataW.TrodAll enc Tryz.prog W 0 (fun _ => true) true Tryz.f9.params.toList args.toList ds p := hA0
  rw [Tryz.params9] at hA hval
  obtain ⟨v0, vs0, d0, ds0, p0, q0, e0, rfl, rfl, h0, r0⟩ := trodAll_cons hA
  obtain ⟨v1, vs1, d1, ds1, p1, q1, e1, rfl, rfl, h1, r1⟩ := trodAll_cons r0
  obtain ⟨rfl, rfl, rfl⟩ := trodAll_nil r1
  obtain rfl : args = #[v0, v1] := by cases args; simp_all
  obtain ⟨rfl, rfl⟩ := trodVars_none hV
  have hlt : ∀ x ∈ p0 ++ p1, x.block < W.heap.size := fun x hx => by simpa using hW'.lt x (by simpa using hx)
  have t0 := h0
  have l0 : ∀ x ∈ p0, x.block < W.heap.size := fun x hx => hlt x (by simp [hx])
  have t1 := h1
  have l1 : ∀ x ∈ p1, x.block < W.heap.size := fun x hx => hlt x (by simp [hx])
  obtain ⟨f0, hat0, hbig0⟩ := root_of (hval 0 37 v0 rfl rfl) h0 l0
  obtain ⟨s1, rfl, rfl, rfl, w1⟩ := open_string Tryz.underlying9 (hval 1 9 v1 rfl rfl) h1
  clear hA0 hval0
  refine (walk_FnExactRootOwner f0 v0 s1 W hbig0 hat0 w1).mono fun e W' ⟨he, hb⟩ => ?_
  subst he
  exact ⟨_, rfl, post_below (gs := []) (pv := []) hW' (fun _ _ _ => trodAll_cons_mk (shut_bool Tryz.underlying4 _) trodAll_mk0) (trodAll_cons_mk (Below.trod laidOut (by kernel_rfl) (of_decide_eq_true (by kernel_rfl)) t0 hb l0) (trodAll_cons_mk (Below.trod laidOut (by kernel_rfl) (of_decide_eq_true (by kernel_rfl)) t1 hb l1) trodAll_mk0)) rfl (by simp) hb⟩

theorem fnExactRootOwner_holds : Rows.FnExactRootOwnerSaid :=
  OpenClaim.holds_of_wide 9 Tryz.f9 rfl rfl rfl rfl rfl rfl rfl ⟨rfl, rfl, rfl, rfl, rfl⟩ rfl rfl rfl rfl rfl (by kernel_rfl) Tryz.func9 (by kernel_rfl)
    (of_decide_eq_true (by kernel_rfl)) (by unfold Func.isWrapper; first | (rw [if_pos (by decide +kernel)]; kernel_rfl) | (rw [if_neg (by decide +kernel)]; exact ⟨rfl, rfl⟩))
    (fun os started H enc _ => lifted_FnExactRootOwner os started H enc)
end Go.Proofs.YtlnpjiabdebmgaaGreat

