/- For every tree and pattern the program answers the part of the tree that its model does, and what it answers is its own. -/
import Derived.Test.YtaefjibnnbdaaaaJoin3
import Derived.Test.YtaefjibnnbdaaaaJoin11
namespace Go.Proofs.Ytaefjibnnbdaaaa
open Go.ChangeShapes Go.WideShapes Go.ChangeAt Go.RowKit Go.Shelf
open Go.ChangeMaps (open_string shut_string)


set_option maxRecDepth 100000 in
set_option maxHeartbeats 4000000 in
theorem walk_FnExactTreePart (es : List Ent) (a : Option Addr) (cap : Nat) (p : ByteArray) (w : World) (hz : bigE es) (hlen : es.length ≤ maxLen) (h : EntsAt w a es) :
    Calls Try.prog 13 #[.slice a es.length cap, .string p] w fun x w' => x = .returned (.bool true) ∧ Below w.heap.size w w' := by
  have SZ := hid (szEntryS_any es a cap 1048576 w hz hlen (by omega) (by omega) h)
  have H := hid h
  have HL := hid hlen
  clear hz h hlen
  by_cases hlp : (1048576 : Int) < p.size
  · go_enter Try.func13, Try.ntmps13
    go_wp2_with fail
    go_ret
    exact ⟨rfl, Below.refl _ _⟩
  go_enter Try.func13, Try.ntmps13
  go_wp2_with fail
  refine (unhid SZ).mono ?_
  rintro x w1 ⟨⟨r, rfl, hr1, hr2⟩, hB⟩
  have HB1 := hid hB
  clear hB SZ
  by_cases h0 : r < 0
  · go_wp2_with fail
    go_ret
    exact ⟨rfl, unhid HB1⟩
  · have HS := hid (small_of (es := es) (by omega))
    have hlen1 := (unhid HS).1
    obtain ⟨rs, hRL, hSP, hIM⟩ : ∃ (rs : List Ent), rs.length ≤ 100 ∧ (∀ (g : Nat) (W : World), EntRow W g 27 es.length (entFn es) → Calls Try.prog 37 #[.slice (some ⟨g, 0, none⟩) es.length es.length, .string p] W fun x w' => ∃ a c, x = .returned (.slice a rs.length c) ∧ RowIn w' a W.heap.size w'.heap.size rs ∧ Below W.heap.size W w') ∧
        (∀ (a : Option Addr) (cap : Nat) (W : World), EntsAt W a es → Calls Try.prog 39 #[.slice a es.length cap, .string p] W fun x w' => ∃ a c, x = .returned (.slice a rs.length c) ∧ RowIn w' a W.heap.size w'.heap.size rs ∧ Below W.heap.size W w') :=
      ⟨partR p es, partR_len p es, fun g W hg => (specTreePart_any es p g 0 es.length W (unhid HS) (by omega) hg.ents hg.lt).mono (fun x w' ⟨v, h1, h2, h3⟩ => by
      obtain ⟨a, c, rfl, h4⟩ := rowIn_of_owns h2
      exact ⟨a, c, h1, h4, h3⟩),
       fun a cap W hW => (treePart_any es a cap p W (unhid HS) (by omega) hW).mono (fun x w' ⟨v, h1, h2, h3⟩ => by
      obtain ⟨a, c, rfl, h4⟩ := rowIn_of_owns h2
      exact ⟨a, c, h1, h4, h3⟩)⟩
    have SP := hid hSP
    have IM := hid hIM
    clear hSP hIM hr2
    go_wp2_with fail
    refine (toEntryS_any es a cap w1 hlen1 ((unhid H).below (unhid HB1))).mono ?_
    rintro x w2 ⟨g, rfl, hg, hrow, hB⟩
    have HB2 := hid ((unhid HB1).trans (hB.mono (unhid HB1).size))
    have HR2 := hid hrow
    clear hB hg hrow HB1
    go_wp2_with fail
    refine (unhid SP _ w2 (unhid HR2)).mono ?_
    rintro x w3 ⟨aS, cS, rfl, hR, hB⟩
    have HT0 := hid (St.setS (unhid HB2) hB hR)
    clear hB hR HB2 HR2
    go_wp2_with fail
    refine (toEntryS_any es a cap w3 hlen1 ((unhid H).below (unhid HT0).b)).mono ?_
    rintro x w4 ⟨gx, rfl, hg, hrow, hB⟩
    have HT1 := hid ((unhid HT0).setX hB (hrow.rowIn hg hrow.lt))
    clear hB hrow hg HT0
    go_wp2_with fail
    refine (unhid IM _ _ w4 (unhid HT1).x.at).mono ?_
    rintro x w5 ⟨aG, cG, rfl, hR, hB⟩
    have HT2 := hid ((unhid HT1).setG hB hR)
    clear hB hR HT1
    go_wp2_with fail
    refine (eqEntryS_any rs rs _ _ _ _ w5 (by unfold maxLen; omega) (by unfold maxLen; omega) (unhid HT2).g.at (unhid HT2).s.at).mono ?_
    rintro x w6 ⟨rfl, hB⟩
    rw [eqEs_self]
    have HT3 := hid ((unhid HT2).below hB)
    clear hB HT2
    go_wp2_with fail
    refine (toEntryS_any es a cap w6 hlen1 ((unhid H).below (unhid HT3).b)).mono ?_
    rintro x w7 ⟨gf, rfl, hg, hrow, hB⟩
    have HRF := hid (hrow.at (Nat.le_refl _))
    clear hrow hg
    have HT4 := hid ((unhid HT3).below hB)
    clear hB HT3
    go_wp2_with fail
    refine (eqEntryS_any es es _ _ _ _ w7 (unhid HL) (unhid HL) (unhid HT4).x.at (unhid HRF)).mono ?_
    rintro x w8 ⟨rfl, hB⟩
    rw [eqEs_self]
    clear HRF
    have HT5 := hid ((unhid HT4).below hB)
    clear hB HT4
    go_wp2_with fail
    refine (markEntryS_any es _ _ 1 w3.heap.size w4.heap.size w8 hlen1 (by omega) (by omega) (unhid HT5).x).mono ?_
    rintro x w9 ⟨rfl, hR, hSp⟩
    have HT6 := hid ((unhid HT5).markX hSp hR)
    clear hR hSp HT5
    have hk0 : ¬ ((1 + es.length * 4 : Nat) : Int) < 0 := by omega
    go_wp2_with fail
    refine (eqEntryS_any rs rs _ _ _ _ w9 (by unfold maxLen; omega) (by unfold maxLen; omega) (unhid HT6).g.at (unhid HT6).s.at).mono ?_
    rintro x w10 ⟨rfl, hB⟩
    rw [eqEs_self]
    have HT7 := hid ((unhid HT6).below hB)
    clear hB HT6
    go_wp2_with fail
    refine (markEntryS_any rs _ _ 1 w4.heap.size w5.heap.size w10 (by omega) (by omega) (by omega) (unhid HT7).g).mono ?_
    rintro x w11 ⟨rfl, hR, hSp⟩
    have HT8 := hid ((unhid HT7).markG hSp hR)
    clear hR hSp HT7
    go_wp2_with fail
    refine (heldEntryS_any rs.length _ _ 1 w11 (by omega) (by omega) (by omega) (unhid HT8).g.at).mono ?_
    rintro x w12 ⟨rfl, hB⟩
    have HT9 := hid ((unhid HT8).below hB)
    clear hB HT8
    go_wp2_with fail
    refine (toEntryS_any es a cap w12 hlen1 ((unhid H).below (unhid HT9).b)).mono ?_
    rintro x w13 ⟨gh, rfl, hg, hrow, hB⟩
    have HRH := hid (hrow.at (Nat.le_refl _))
    clear hrow hg
    have HT10 := hid ((unhid HT9).below hB)
    clear hB HT9
    go_wp2_with fail
    refine (unhid IM _ _ w13 (unhid HRH)).mono ?_
    rintro x w14 ⟨aH, cH, rfl, hR, hB⟩
    have HRG := hid hR.at
    clear hR HRH
    have HT11 := hid ((unhid HT10).below hB)
    clear hB HT10
    go_wp2_with fail
    refine (eqEntryS_any rs rs _ _ _ _ w14 (by unfold maxLen; omega) (by unfold maxLen; omega) (unhid HRG) (unhid HT11).s.at).mono ?_
    rintro x w15 ⟨rfl, hB⟩
    rw [eqEs_self]
    clear HRG
    have HT12 := hid ((unhid HT11).below hB)
    clear hB HT11
    go_wp2_with fail
    refine (heldEntryS_any rs.length _ _ 1 w15 (by omega) (by omega) (by omega) (unhid HT12).g.at).mono ?_
    rintro x w16 ⟨rfl, hB⟩
    have HB := hid ((unhid HT12).below hB).b
    clear hB HT12
    go_wp2_with fail
    go_ret
    exact ⟨rfl, unhid HB⟩

set_option maxRecDepth 100000 in
set_option maxHeartbeats 1000000 in
theorem lifted_FnExactTreePart (os : Os) (started : os.Started) (H : Type) (enc : TypeId × Value → H) :
    ReturnsInHanded {} Try.checked os 13 .any (Rows.fnExactTreePartSpec.pre6 enc Try.prog Try.f13 Rows.fnExactTreePartRow.domain false) (Rows.fnExactTreePartSpec.post enc Try.prog Try.f13 false true false false) := by
  refine returnsInHanded_of_change (C := Try.checked) own started (by kernel_rfl) Try.func13
    (ChangeSpec.witness6 (enc := enc) (C := Try.checked) false ⟨#[], #[.slice none 0 0, .string ⟨#[]⟩], []⟩ 8 (by kernel_rfl) (by kernel_rfl) (by kernel_rfl) (by kernel_rfl)) ?_
  intro W base args ds gs before hval0 hW _ _
  have hval : ∀ (j : Nat) t v, Try.f13.params[j]? = some t → args[j]? = some v → Value.okWide Try.prog W .any base t v := hval0
  have hW' := hW
  obtain ⟨p, q, hA0, hV, rfl, hfz, hnd⟩ := hW
  have hA : DataW.TrodAll enc Try.prog W 0 (fun _ => true) true Try.f13.params.toList args.toList ds p := hA0
  rw [Try.params13] at hA hval
  obtain ⟨v0, vs0, d0, ds0, p0, q0, e0, rfl, rfl, h0, r0⟩ := trodAll_cons hA
  obtain ⟨v1, vs1, d1, ds1, p1, q1, e1, rfl, rfl, h1, r1⟩ := trodAll_cons r0
  obtain ⟨rfl, rfl, rfl⟩ := trodAll_nil r1
  obtain rfl : args = #[v0, v1] := by cases args; simp_all
  obtain ⟨rfl, rfl⟩ := trodVars_none hV
  have hlt : ∀ x ∈ p0 ++ p1, x.block < W.heap.size := fun x hx => by simpa using hW'.lt x (by simpa using hx)
  have t0 := h0
  have l0 : ∀ x ∈ p0, x.block < W.heap.size := fun x hx => hlt x (by simp [hx])
  have t1 := h1
  have l1 : ∀ x ∈ p1, x.block < W.heap.size := fun x hx => hlt x (by simp [hx])
  obtain ⟨es0, a0, cap0, rfl, hbig0, hlen0, hents0⟩ := ents_of (okWide_slice Try.underlying47 (hval 0 47 v0 rfl rfl)) h0 l0
  obtain ⟨s1, rfl, rfl, rfl, w1⟩ := open_string Try.underlying9 (hval 1 9 v1 rfl rfl) h1
  clear hA0 hval0
  refine (walk_FnExactTreePart es0 a0 cap0 s1 W hbig0 hlen0 hents0).mono fun e W' ⟨he, hb⟩ => ?_
  subst he
  exact ⟨_, rfl, post_below (gs := []) (pv := []) hW' (fun _ _ _ => trodAll_cons_mk (shut_bool Try.underlying4 _) trodAll_mk0) (trodAll_cons_mk (Below.trod laidOut (by kernel_rfl) (of_decide_eq_true (by kernel_rfl)) t0 hb l0) (trodAll_cons_mk (Below.trod laidOut (by kernel_rfl) (of_decide_eq_true (by kernel_rfl)) t1 hb l1) trodAll_mk0)) rfl (by simp) hb⟩

theorem fnExactTreePart_holds : Rows.FnExactTreePartSaid :=
  OpenClaim.holds_of_wide 13 Try.f13 rfl rfl rfl rfl rfl rfl rfl ⟨rfl, rfl, rfl, rfl, rfl⟩ rfl rfl rfl rfl rfl (by kernel_rfl) Try.func13 (by kernel_rfl)
    (of_decide_eq_true (by kernel_rfl)) (by unfold Func.isWrapper; first | (rw [if_pos (by decide +kernel)]; kernel_rfl) | (rw [if_neg (by decide +kernel)]; exact ⟨rfl, rfl⟩))
    (fun os started H enc _ => lifted_FnExactTreePart os started H enc)
end Go.Proofs.Ytaefjibnnbdaaaa
