/- For every two trees the program joins them as its model does, and what it answers is its own. -/
import Derived.Test.YtlnehebihfeegaaJoin7
namespace Go.Proofs.Ytlnehebihfeegaa
open Go.ChangeShapes Go.WideShapes Go.ChangeAt Go.RowKit Go.Shelf
open Go.ChangeMaps (open_string shut_string)

/-- As St, with the copies of two arguments. -/
structure St2 (w W : World) (aS aX aY aG : Option Addr) (M1 M2 M3 M4 : Nat) (rs xs ys gs : List Ent) : Prop where
  b : Below w.heap.size w W
  s : RowIn W aS w.heap.size M1 rs
  x : RowIn W aX M1 M2 xs
  y : RowIn W aY M2 M3 ys
  g : RowIn W aG M3 M4 gs
  m1 : w.heap.size ≤ M1
  m2 : M1 ≤ M2
  m3 : M2 ≤ M3
  m4 : M3 ≤ M4
  m5 : M4 ≤ W.heap.size
theorem St2.below {w W W' : World} {aS aX aY aG : Option Addr} {M1 M2 M3 M4 : Nat} {rs xs ys gs : List Ent} (h : St2 w W aS aX aY aG M1 M2 M3 M4 rs xs ys gs) (hb : Below W.heap.size W W') : St2 w W' aS aX aY aG M1 M2 M3 M4 rs xs ys gs :=
  ⟨h.b.trans (hb.mono h.b.size), h.s.below hb, h.x.below hb, h.y.below hb, h.g.below hb, h.m1, h.m2, h.m3, h.m4, Nat.le_trans h.m5 hb.size⟩
theorem St2.markX {w W W' : World} {aS aX aY aG : Option Addr} {M1 M2 M3 M4 : Nat} {rs xs xs' ys gs : List Ent} (h : St2 w W aS aX aY aG M1 M2 M3 M4 rs xs ys gs) (hs : Spares M1 M2 W W') (hx : RowIn W' aX M1 M2 xs') : St2 w W' aS aX aY aG M1 M2 M3 M4 rs xs' ys gs :=
  ⟨hs.below h.b h.m1, hs.row h.s (.inl (Nat.le_refl _)), hx, hs.row h.y (.inr (Nat.le_refl _)), hs.row h.g (.inr h.m3), h.m1, h.m2, h.m3, h.m4, Nat.le_trans h.m5 hs.size⟩
theorem St2.markY {w W W' : World} {aS aX aY aG : Option Addr} {M1 M2 M3 M4 : Nat} {rs xs ys ys' gs : List Ent} (h : St2 w W aS aX aY aG M1 M2 M3 M4 rs xs ys gs) (hs : Spares M2 M3 W W') (hy : RowIn W' aY M2 M3 ys') : St2 w W' aS aX aY aG M1 M2 M3 M4 rs xs ys' gs :=
  ⟨hs.below h.b (Nat.le_trans h.m1 h.m2), hs.row h.s (.inl h.m2), hs.row h.x (.inl (Nat.le_refl _)), hy, hs.row h.g (.inr (Nat.le_refl _)), h.m1, h.m2, h.m3, h.m4, Nat.le_trans h.m5 hs.size⟩
theorem St2.markG {w W W' : World} {aS aX aY aG : Option Addr} {M1 M2 M3 M4 : Nat} {rs xs ys gs gs' : List Ent} (h : St2 w W aS aX aY aG M1 M2 M3 M4 rs xs ys gs) (hs : Spares M3 M4 W W') (hg : RowIn W' aG M3 M4 gs') : St2 w W' aS aX aY aG M1 M2 M3 M4 rs xs ys gs' :=
  ⟨hs.below h.b (Nat.le_trans h.m1 (Nat.le_trans h.m2 h.m3)), hs.row h.s (.inl (Nat.le_trans h.m2 h.m3)), hs.row h.x (.inl h.m3), hs.row h.y (.inl (Nat.le_refl _)), hg, h.m1, h.m2, h.m3, h.m4, Nat.le_trans h.m5 hs.size⟩
theorem St2.setY {w W W' : World} {aS aX aY : Option Addr} {M1 M2 : Nat} {rs xs ys : List Ent} (h : St w W aS aX none M1 M2 M2 rs xs []) (hb : Below W.heap.size W W') (hy : RowIn W' aY W.heap.size W'.heap.size ys) : St2 w W' aS aX aY none M1 M2 W'.heap.size W'.heap.size rs xs ys [] :=
  ⟨h.b.trans (hb.mono h.b.size), h.s.below hb, h.x.below hb, hy.wide h.m4 (Nat.le_refl _), .inl rfl, h.m1, h.m2, Nat.le_trans h.m4 hb.size, Nat.le_refl _, Nat.le_refl _⟩
theorem St2.setG {w W W' : World} {aS aX aY aG : Option Addr} {M1 M2 M3 M4 : Nat} {rs xs ys gs : List Ent} (h : St2 w W aS aX aY none M1 M2 M3 M4 rs xs ys []) (hb : Below W.heap.size W W') (hg : RowIn W' aG W.heap.size W'.heap.size gs) : St2 w W' aS aX aY aG M1 M2 M3 W'.heap.size rs xs ys gs :=
  ⟨h.b.trans (hb.mono h.b.size), h.s.below hb, h.x.below hb, h.y.below hb, hg.wide (Nat.le_trans h.m4 h.m5) (Nat.le_refl _), h.m1, h.m2, h.m3, Nat.le_trans h.m4 (Nat.le_trans h.m5 hb.size), Nat.le_refl _⟩
theorem markEntryS_int (es : List Ent) (a : Option Addr) (cap : Nat) (c : Int) (q N M : Nat) (w : World) (hc : c = (q : Int)) (hn : es.length ≤ 1048576) (hq : 0 < q) (hq2 : q ≤ 20000000) (h : RowIn w a N M es) :
    Calls Try.prog 32 #[.slice a es.length cap, .int .i64 c] w fun x w' => x = .returned (.int .i64 ((q + es.length * 4 : Nat) : Int)) ∧ RowIn w' a N M (marks q es.length) ∧ Spares N M w w' := by subst hc; exact markEntryS_any es a cap q N M w hn hq hq2 h

set_option maxRecDepth 100000 in
set_option maxHeartbeats 4000000 in
theorem walk_FnExactTreeJoin (es : List Ent) (a : Option Addr) (cap : Nat) (fs : List Ent) (b : Option Addr) (cap2 : Nat) (w : World) (hz : bigE es) (hlen : es.length ≤ maxLen) (h : EntsAt w a es) (hz2 : bigE fs) (hlen2 : fs.length ≤ maxLen) (h2 : EntsAt w b fs) :
    Calls Try.prog 10 #[.slice a es.length cap, .slice b fs.length cap2] w fun x w' => x = .returned (.bool true) ∧ Below w.heap.size w w' := by
  have SZ := hid (szEntryS_any es a cap 1048576 w hz hlen (by omega) (by omega) h)
  have H := hid (And.intro h h2)
  have HL := hid (And.intro hlen hlen2)
  have HZ := hid hz2
  clear hz h hlen hz2 hlen2 h2
  go_enter Try.func10, Try.ntmps10
  go_wp2_with fail
  refine (unhid SZ).mono ?_
  rintro x w1 ⟨⟨r, rfl, hr1, hr2⟩, hB⟩
  have HB1 := hid hB
  clear hB SZ
  by_cases h0 : r < 0
  · go_wp2_with fail
    go_ret
    exact ⟨rfl, unhid HB1⟩
  have HS := hid (small_of (es := es) (by omega))
  clear hr2
  go_wp2_with fail
  refine (szEntryS_any fs b cap2 r w1 (unhid HZ) (unhid HL).2 (by omega) (by omega) ((unhid H).2.below (unhid HB1))).mono ?_
  rintro x w1b ⟨⟨r2, rfl, hr3, hr4⟩, hB⟩
  have HB1b := hid ((unhid HB1).trans (hB.mono (unhid HB1).size))
  clear hB HB1
  by_cases h02 : r2 < 0
  · go_wp2_with fail
    go_ret
    exact ⟨rfl, unhid HB1b⟩
  have HS2 := hid (small_of (es := fs) (by omega))
  clear hr4
  have hl1 := (unhid HS).1
  have hl2 := (unhid HS2).1
  obtain ⟨rs, rb, hRL, hSP, hIM⟩ : ∃ (rs : List Ent) (rb : Bool), rs.length ≤ 100 ∧ (∀ (g g2 : Nat) (W : World), EntRow W g 27 es.length (entFn es) → EntRow W g2 27 fs.length (entFn fs) → Calls Try.prog 36 #[.slice (some ⟨g, 0, none⟩) es.length es.length, .slice (some ⟨g2, 0, none⟩) fs.length fs.length] W fun x w' => ∃ a c, x = .returned (.tuple #[.slice a rs.length c, .bool rb]) ∧ RowIn w' a W.heap.size w'.heap.size rs ∧ Below W.heap.size W w') ∧
      (∀ (a b : Option Addr) (cap cap2 : Nat) (W : World), EntsAt W a es → EntsAt W b fs → Calls Try.prog 37 #[.slice a es.length cap, .slice b fs.length cap2] W fun x w' => ∃ a c, x = .returned (.tuple #[.slice a rs.length c, .bool rb]) ∧ RowIn w' a W.heap.size w'.heap.size rs ∧ Below W.heap.size W w') :=
    ⟨joinR es fs, joinOk es fs, joinR_len es fs, fun g g2 W hg hg2 => (specTreeJoin_any es fs g 0 es.length g2 0 fs.length W (unhid HS) (unhid HS2) hg.ents hg.lt hg2.ents hg2.lt).mono (fun x w' ⟨v, h1, h2, h3⟩ => by
      obtain ⟨a, c, rfl, h4⟩ := rowIn_of_owns h2
      exact ⟨a, c, h1, h4, h3⟩),
     fun a b cap cap2 W hW hW2 => (treeJoin_any es fs a b cap cap2 W (unhid HS) (unhid HS2) hW hW2).mono (fun x w' ⟨v, h1, h2, h3⟩ => by
      obtain ⟨a, c, rfl, h4⟩ := rowIn_of_owns h2
      exact ⟨a, c, h1, h4, h3⟩)⟩
  have SP := hid hSP
  have IM := hid hIM
  clear hSP hIM
  go_wp2_with fail
  refine (toEntryS_any es a cap w1b (hl1) ((unhid H).1.below (unhid HB1b))).mono ?_
  rintro x w2 ⟨gp, rfl, hg, hrow, hB⟩
  have HB2 := hid ((unhid HB1b).trans (hB.mono (unhid HB1b).size))
  have HR2 := hid hrow
  clear hB hg hrow HB1b
  go_wp2_with fail
  refine (toEntryS_any fs b cap2 w2 (hl2) ((unhid H).2.below (unhid HB2))).mono ?_
  rintro x w3 ⟨gq, rfl, hg, hrow, hB⟩
  have HB3 := hid ((unhid HB2).trans (hB.mono (unhid HB2).size))
  have HR3 := hid (And.intro ((unhid HR2).below hB (unhid HR2).lt) hrow)
  clear hB hg hrow HB2 HR2
  go_wp2_with fail
  refine (unhid SP _ _ w3 (unhid HR3).1 (unhid HR3).2).mono ?_
  rintro x w4 ⟨aS, cS, rfl, hR, hB⟩
  have HT0 := hid (St.setS (unhid HB3) hB hR)
  clear hB hR HB3 HR3
  go_wp2_with fail
  refine (toEntryS_any es a cap w4 (hl1) ((unhid H).1.below (unhid HT0).b)).mono ?_
  rintro x w5 ⟨gx, rfl, hg, hrow, hB⟩
  have HT1 := hid ((unhid HT0).setX hB (hrow.rowIn hg hrow.lt))
  clear hB hrow hg HT0
  go_wp2_with fail
  refine (toEntryS_any fs b cap2 w5 (hl2) ((unhid H).2.below (unhid HT1).b)).mono ?_
  rintro x w6 ⟨gy, rfl, hg, hrow, hB⟩
  have HT2 := hid (St2.setY (unhid HT1) hB (hrow.rowIn hg hrow.lt))
  clear hB hrow hg HT1
  go_wp2_with fail
  refine (unhid IM _ _ _ _ w6 (unhid HT2).x.at (unhid HT2).y.at).mono ?_
  rintro x w7 ⟨aG, cG, rfl, hR, hB⟩
  have HT3 := hid ((unhid HT2).setG hB hR)
  clear hB hR HT2
  go_wp2_with fail
  refine (eqEntryS_any rs rs _ _ _ _ w7 (by unfold maxLen; omega) (by unfold maxLen; omega) (unhid HT3).g.at (unhid HT3).s.at).mono ?_
  rintro x w8 ⟨rfl, hB⟩
  rw [eqEs_self]
  have HT4 := hid ((unhid HT3).below hB)
  clear hB HT3
  go_wp2_with fail
  refine (toEntryS_any es a cap w8 (hl1) ((unhid H).1.below (unhid HT4).b)).mono ?_
  rintro x w9 ⟨gf, rfl, hg, hrow, hB⟩
  have HRF := hid (hrow.at (Nat.le_refl _))
  clear hrow hg
  have HT5 := hid ((unhid HT4).below hB)
  clear hB HT4
  go_wp2_with fail
  refine (eqEntryS_any es es _ _ _ _ w9 ((unhid HL).1) ((unhid HL).1) (unhid HT5).x.at (unhid HRF)).mono ?_
  rintro x w10 ⟨rfl, hB⟩
  rw [eqEs_self]
  clear HRF
  have HT6 := hid ((unhid HT5).below hB)
  clear hB HT5
  go_wp2_with fail
  refine (toEntryS_any fs b cap2 w10 (hl2) ((unhid H).2.below (unhid HT6).b)).mono ?_
  rintro x w11 ⟨gf2, rfl, hg, hrow, hB⟩
  have HRF := hid (hrow.at (Nat.le_refl _))
  clear hrow hg
  have HT7 := hid ((unhid HT6).below hB)
  clear hB HT6
  go_wp2_with fail
  refine (eqEntryS_any fs fs _ _ _ _ w11 ((unhid HL).2) ((unhid HL).2) (unhid HT7).y.at (unhid HRF)).mono ?_
  rintro x w12 ⟨rfl, hB⟩
  rw [eqEs_self]
  clear HRF
  have HT8 := hid ((unhid HT7).below hB)
  clear hB HT7
  go_wp2_with fail
  refine (markEntryS_any es _ _ 1 w4.heap.size w5.heap.size w12 hl1 (by omega) (by omega) (unhid HT8).x).mono ?_
  rintro x w13 ⟨rfl, hR, hSp⟩
  have HT9 := hid ((unhid HT8).markX hSp hR)
  clear hR hSp HT8
  go_wp2_with fail
  refine (markEntryS_int fs _ _ _ (1 + es.length * 4) w5.heap.size w6.heap.size w13 (by omega) hl2 (by omega) (by omega) (unhid HT9).y).mono ?_
  rintro x w14 ⟨rfl, hR, hSp⟩
  have HT10 := hid ((unhid HT9).markY hSp hR)
  clear hR hSp HT9
  have hk0 : ¬ ((1 + es.length * 4 + fs.length * 4 : Nat) : Int) < 0 := by omega
  go_wp2_with fail
  refine (eqEntryS_any rs rs _ _ _ _ w14 (by unfold maxLen; omega) (by unfold maxLen; omega) (unhid HT10).g.at (unhid HT10).s.at).mono ?_
  rintro x w15 ⟨rfl, hB⟩
  rw [eqEs_self]
  have HT11 := hid ((unhid HT10).below hB)
  clear hB HT10
  go_wp2_with fail
  refine (markEntryS_any rs _ _ 1 w6.heap.size w7.heap.size w15 (by omega) (by omega) (by omega) (unhid HT11).g).mono ?_
  rintro x w16 ⟨rfl, hR, hSp⟩
  have HT12 := hid ((unhid HT11).markG hSp hR)
  clear hR hSp HT11
  go_wp2_with fail
  refine (heldEntryS_any rs.length _ _ 1 w16 (by omega) (by omega) (by omega) (unhid HT12).g.at).mono ?_
  rintro x w17 ⟨rfl, hB⟩
  have HT13 := hid ((unhid HT12).below hB)
  clear hB HT12
  go_wp2_with fail
  refine (toEntryS_any es a cap w17 (hl1) ((unhid H).1.below (unhid HT13).b)).mono ?_
  rintro x w18 ⟨gh, rfl, hg, hrow, hB⟩
  have HRH := hid hrow
  clear hrow hg
  have HB18 := hid hB
  have HT14 := hid ((unhid HT13).below hB)
  clear hB HT13
  go_wp2_with fail
  refine (toEntryS_any fs b cap2 w18 (hl2) ((unhid H).2.below (unhid HT14).b)).mono ?_
  rintro x w19 ⟨gh2, rfl, hg, hrow, hB⟩
  have HRH2 := hid (hrow.at (Nat.le_refl _))
  have HRH1 := hid (((unhid HRH).below hB (unhid HRH).lt).at (Nat.le_refl _))
  clear hrow hg HRH HB18
  have HT15 := hid ((unhid HT14).below hB)
  clear hB HT14
  go_wp2_with fail
  refine (unhid IM _ _ _ _ w19 (unhid HRH1) (unhid HRH2)).mono ?_
  rintro x w20 ⟨aH, cH, rfl, hR, hB⟩
  have HRG := hid hR.at
  clear hR HRH1 HRH2
  have HT16 := hid ((unhid HT15).below hB)
  clear hB HT15
  go_wp2_with fail
  refine (eqEntryS_any rs rs _ _ _ _ w20 (by unfold maxLen; omega) (by unfold maxLen; omega) (unhid HRG) (unhid HT16).s.at).mono ?_
  rintro x w21 ⟨rfl, hB⟩
  rw [eqEs_self]
  clear HRG
  have HT17 := hid ((unhid HT16).below hB)
  clear hB HT16
  go_wp2_with fail
  refine (heldEntryS_any rs.length _ _ 1 w21 (by omega) (by omega) (by omega) (unhid HT17).g.at).mono ?_
  rintro x w22 ⟨rfl, hB⟩
  have HB := hid ((unhid HT17).below hB).b
  clear hB HT17
  go_wp2_with fail
  go_ret
  exact ⟨rfl, unhid HB⟩

set_option maxRecDepth 100000 in
set_option maxHeartbeats 1000000 in
theorem lifted_FnExactTreeJoin (os : Os) (started : os.Started) (H : Type) (enc : TypeId × Value → H) :
    ReturnsInHanded {} Try.checked os 10 .any (Rows.fnExactTreeJoinSpec.pre6 enc Try.prog Try.f10 Rows.fnExactTreeJoinRow.domain false) (Rows.fnExactTreeJoinSpec.post enc Try.prog Try.f10 false true false false) := by
  refine returnsInHanded_of_change (C := Try.checked) own started (by kernel_rfl) Try.func10
    (ChangeSpec.witness6 (enc := enc) (C := Try.checked) false ⟨#[], #[.slice none 0 0, .slice none 0 0], []⟩ 8 (by kernel_rfl) (by kernel_rfl) (by kernel_rfl) (by kernel_rfl)) ?_
  intro W base args ds gs before hval0 hW _ _
  have hval : ∀ (j : Nat) t v, Try.f10.params[j]? = some t → args[j]? = some v → Value.okWide Try.prog W .any base t v := hval0
  have hW' := hW
  obtain ⟨p, q, hA0, hV, rfl, hfz, hnd⟩ := hW
  have hA : DataW.TrodAll enc Try.prog W 0 (fun _ => true) true Try.f10.params.toList args.toList ds p := hA0
  rw [Try.params10] at hA hval
  obtain ⟨v0, vs0, d0, ds0, p0, q0, e0, rfl, rfl, h0, r0⟩ := trodAll_cons hA
  obtain ⟨v1, vs1, d1, ds1, p1, q1, e1, rfl, rfl, h1, r1⟩ := trodAll_cons r0
  obtain ⟨rfl, rfl, rfl⟩ := trodAll_nil r1
  obtain rfl : args = #[v0, v1] := by cases args; simp_all
  obtain ⟨rfl, rfl⟩ := trodVars_none hV
  have hlt : ∀ x ∈ p0 ++ p1, x.block < W.heap.size := fun x hx => by simpa using hW'.lt x (by simpa using hx)
  have t0 := h0
  have l0 : ∀ x ∈ p0, x.block < W.heap.size := fun x hx => hlt x (by simp [hx])
  have t1 := h1
  have l1 : ∀ x ∈ p1, x.block < W.heap.size := fun x hx => hlt x (by simp [hx])
  obtain ⟨es0, a0, cap0, rfl, hbig0, hlen0, hents0⟩ := ents_of (okWide_slice Try.underlying38 (hval 0 38 v0 rfl rfl)) h0 l0
  obtain ⟨es1, a1, cap1, rfl, hbig1, hlen1, hents1⟩ := ents_of (okWide_slice Try.underlying38 (hval 1 38 v1 rfl rfl)) h1 l1
  clear hA0 hval0
  refine (walk_FnExactTreeJoin es0 a0 cap0 es1 a1 cap1 W hbig0 hlen0 hents0 hbig1 hlen1 hents1).mono fun e W' ⟨he, hb⟩ => ?_
  subst he
  exact ⟨_, rfl, post_below (gs := []) (pv := []) hW' (fun _ _ _ => trodAll_cons_mk (shut_bool Try.underlying4 _) trodAll_mk0) (trodAll_cons_mk (Below.trod laidOut (by kernel_rfl) (of_decide_eq_true (by kernel_rfl)) t0 hb l0) (trodAll_cons_mk (Below.trod laidOut (by kernel_rfl) (of_decide_eq_true (by kernel_rfl)) t1 hb l1) trodAll_mk0)) rfl (by simp) hb⟩

theorem fnExactTreeJoin_holds : Rows.FnExactTreeJoinSaid :=
  OpenClaim.holds_of_wide 10 Try.f10 rfl rfl rfl rfl rfl rfl rfl ⟨rfl, rfl, rfl, rfl, rfl⟩ rfl rfl rfl rfl rfl (by kernel_rfl) Try.func10 (by kernel_rfl)
    (of_decide_eq_true (by kernel_rfl)) (by unfold Func.isWrapper; first | (rw [if_pos (by decide +kernel)]; kernel_rfl) | (rw [if_neg (by decide +kernel)]; exact ⟨rfl, rfl⟩))
    (fun os started H enc _ => lifted_FnExactTreeJoin os started H enc)
end Go.Proofs.Ytlnehebihfeegaa
