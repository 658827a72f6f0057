/- Texts of this proof, one behind the other; each says at its head what it shows. -/
import Derived.Test.YtoihhlkidlapmaaGreatJoin16
import Derived.Test.YtoihhlkidlapmaaGreatJoin15
import Derived.Test.YtoihhlkidlapmaaGreatJoin11
namespace Go.Proofs.YtoihhlkidlapmaaGreat
open Go.RowKit Go.Shelf Go.Maps
theorem ascP_nodup {ps : List packC.D} (h : AscP ps) : (namesP ps).Nodup := by
  have h2 := (ascP_iff ps).1 h
  unfold List.Nodup
  rw [List.pairwise_iff_getElem]
  intro i j hi hj hij
  exact ltS_ne (h2 i j _ _ hij (List.getElem?_eq_getElem hi) (List.getElem?_eq_getElem hj))
theorem root_packs {ps : List packC.D} (h : rootCode ps = 0) : packsCode ps = 0 := by
  obtain ⟨f1, f2, -⟩ := (code_iff ps).1 h
  exact packs_code (List.all_eq_true.2 f1) (ascP_nodup f2)
theorem sub_code {ps qs : List packC.D} (h : rootCode ps = 0) (hs : qs.Sublist ps) : (needsB qs = true → rootCode qs = 0) ∧ (needsB qs = false → rootCode qs = 4) := by
  obtain ⟨f1, f2, h1, h2, m, U, u1, u2, u3, u4⟩ := (code_iff ps).1 h
  have g1 : ∀ p ∈ qs, pkOk p = true := fun p hp => f1 p (hs.subset hp)
  have g2 : AscP qs := List.Pairwise.sublist hs f2
  have g3 : qs.length ≤ 5 := Nat.le_trans hs.length_le h1
  have g4 : Mates qs := List.Pairwise.sublist hs m
  have g5 : Fits U [] qs := ⟨u1, u2, fun x hx => (by cases hx), fun p hp => u4 p (hs.subset hp)⟩
  exact ⟨fun hn => (code_iff qs).2 ⟨g1, g2, g3, hn, g4, U, g5⟩, fun hn => code_needs ((form_iff qs).2 ⟨g1, g2⟩) g3 hn⟩
theorem fit_name {n : needC.D} {q : packC.D} (h : fitOne n q = true) : PackD.name q = NeedD.name n := by
  unfold fitOne at h
  rw [Bool.and_eq_true, decide_eq_true_eq] at h
  exact h.1
theorem without_sub (q : ByteArray) (ps : List packC.D) : (withoutP q ps).Sublist ps := List.filter_sublist
theorem out_law {ps : List packC.D} {q : ByteArray} (h : rootCode ps = 0) :
    (outCode q ps = 0 ∨ outCode q ps = 3 ∨ outCode q ps = 4) ∧ (outCode q ps ≠ 0 → outP q ps = ps) ∧ (outCode q ps = 4 → needers_0 ps q ≠ []) ∧
    (outCode q ps = 0 → outP q ps = withoutP q ps ∧ rootCode (withoutP q ps) = 0 ∧ needers_0 ps q = [] ∧ (withoutP q ps).length + 1 = ps.length) := by
  have hp0 := root_packs h
  have e0 : needers_0 ps q = needersT ps q := by unfold needers_0; rw [if_pos hp0]
  obtain ⟨s0, s4⟩ := sub_code h (without_sub q ps)
  obtain ⟨-, hs, hcl, -⟩ := needers_facts ps q
  obtain ⟨f1, f2, h1, hnb, -⟩ := (code_iff ps).1 h
  by_cases hin : hasBN q ps = true
  · have ec : outCode q ps = rootCode (withoutP q ps) := by unfold outCode; rw [if_pos hin]
    have ep : outP q ps = tryP ps (withoutP q ps) := by unfold outP; rw [if_pos hin]
    rw [ec, ep]
    cases hn : needsB (withoutP q ps) with
    | true =>
      have hz := s0 hn
      rw [hz]
      refine ⟨.inl rfl, fun h => absurd rfl h, fun h => (by cases h), fun _ => ⟨by unfold tryP; rw [if_pos hz], rfl, ?_, ?_⟩⟩
      · rw [e0]
        have hno : ∀ x ∈ needersT ps q, False := fun x hx => hs (fun _ => False) (fun c hc hne hex => by
          obtain ⟨p, hp, rfl⟩ := mem_edges.1 hc
          obtain ⟨y, hy, hor⟩ := hex
          obtain ⟨n, hm, rfl⟩ := List.mem_map.1 hy
          rcases hor with hor | hor
          · have hpw := (without_mem q ps p).2 ⟨hp, hne⟩
            unfold needsB at hn
            have hn1 := List.all_eq_true.1 hn p hpw
            have hn2 := List.all_eq_true.1 hn1 n hm
            have := has_in hn2
            rw [hor] at this
            exact name_without this
          · exact hor) x hx
        exact List.eq_nil_iff_forall_not_mem.2 hno
      · obtain ⟨p, hp, hpq⟩ := name_mem.1 ((hasB_iffN q ps).1 hin)
        subst hpq
        have hnd := ascP_nodup f2
        have hperm : (p :: withoutP (PackD.name p) ps).Perm ps := by
          have hndp : ps.Nodup := by
            refine List.Pairwise.imp (fun {a b} hab e => ?_) f2
            subst e; rw [ltS_irr] at hab; cases hab
          refine (List.perm_ext_iff_of_nodup (List.nodup_cons.2 ⟨fun hm => ((without_mem _ _ _).1 hm).2 rfl, List.Nodup.sublist (without_sub _ _) hndp⟩) hndp).2 (fun x => ?_)
          rw [List.mem_cons, without_mem]
          constructor
          · rintro (rfl | h); exact hp; exact h.1
          · intro hx
            by_cases e : PackD.name x = PackD.name p
            · obtain ⟨i, hi⟩ := List.getElem?_of_mem hx
              obtain ⟨j, hj⟩ := List.getElem?_of_mem hp
              have := nodup_inj hnd (namesP_get hi) (by rw [e]; exact namesP_get hj)
              subst this
              rw [hi] at hj
              cases hj
              exact .inl rfl
            · exact .inr ⟨hx, e⟩
        exact hperm.length_eq
    | false =>
      have hz := s4 hn
      rw [hz]
      refine ⟨.inr (.inr rfl), fun _ => by unfold tryP; rw [if_neg (by rw [hz]; decide)], fun _ => ?_, fun h => (by cases h)⟩
      rw [e0]
      have hn' := hn
      unfold needsB at hn'
      obtain ⟨p, hpw, hpn⟩ := List.all_eq_false.1 hn'
      have hpn2 : (needsOf p).all (hasNeed (withoutP q ps)) = false := by simpa using hpn
      obtain ⟨n, hm, hno⟩ := List.all_eq_false.1 hpn2
      have hno2 : hasNeed (withoutP q ps) n = false := by simpa using hno
      obtain ⟨hp, hpq⟩ := (without_mem q ps p).1 hpw
      unfold needsB at hnb
      have hb1 := List.all_eq_true.1 (List.all_eq_true.1 hnb p hp) n hm
      unfold hasNeed at hb1 hno2
      obtain ⟨r, hr, hfit⟩ := List.any_eq_true.1 hb1
      have hrq : PackD.name r = q := by
        by_cases e : PackD.name r = q
        · exact e
        · have := List.any_eq_false.1 hno2 r ((without_mem q ps r).2 ⟨hr, e⟩)
          exact absurd hfit this
      have hin2 := hcl (PackD.name p, List.map (α := needC.D) (fun n => NeedD.name n) (needsOf p)) (mem_edges.2 ⟨p, hp, rfl⟩) hpq ⟨NeedD.name n, List.mem_map.2 ⟨n, hm, rfl⟩, .inl ((fit_name hfit).symm.trans hrq)⟩
      intro e
      have hin3 : PackD.name p ∈ needersT ps q := hin2
      rw [e] at hin3
      cases hin3
  · have ec : outCode q ps = 3 := by unfold outCode; rw [if_neg hin]
    have ep : outP q ps = ps := by unfold outP; rw [if_neg hin]
    rw [ec, ep]
    exact ⟨.inr (.inl rfl), fun _ => rfl, fun h => (by cases h), fun h => (by cases h)⟩
theorem out_tree {ps : List packC.D} {q : ByteArray} (h : rootCode ps = 0) (hX : rootCode (withoutP q ps) = 0) {p : packC.D} (hp : p ∈ ps) {x : Ent} (hx : x ∈ treeOfP p) :
    (PackD.name p ≠ q → (treeB (rootTreeE ⟨withoutP q ps⟩) && thereE (rootTreeE ⟨withoutP q ps⟩) x.path) = true ∧ gotE (rootTreeE ⟨withoutP q ps⟩) x.path = x) ∧
    (PackD.name p = q → (treeB (rootTreeE ⟨withoutP q ps⟩) && thereE (rootTreeE ⟨withoutP q ps⟩) x.path) = true → x.kind = 1) := by
  refine ⟨fun hne => tree_in_root hX ((without_mem q ps p).2 ⟨hp, hne⟩) hx, fun hpq ht => ?_⟩
  obtain ⟨f1, -, -, -, m, u⟩ := (code_iff _).1 hX
  have e : rootTreeE ⟨withoutP q ps⟩ = joinG (withoutP q ps) := by unfold rootTreeE; rw [if_pos (ok_0.2 hX)]
  rw [e] at ht
  have htr : treeB (joinG (withoutP q ps)) = true := joinG_tree _
  rw [htr, Bool.true_and] at ht
  obtain ⟨y, hy, hyp⟩ := (there_iff (tree_up htr) x.path).1 ht
  obtain ⟨r, hr, hyr⟩ := (joinG_mem f1 ((joinS_iff f1).2 ⟨m, u⟩) y).1 hy
  obtain ⟨hr1, hr2⟩ := (without_mem q ps r).1 hr
  obtain ⟨-, -, -, -, mp, -⟩ := (code_iff ps).1 h
  obtain ⟨i, hi⟩ := List.getElem?_of_mem hp
  obtain ⟨j, hj⟩ := List.getElem?_of_mem hr1
  obtain ⟨hil, ei⟩ := List.getElem?_eq_some_iff.1 hi
  obtain ⟨hjl, ej⟩ := List.getElem?_eq_some_iff.1 hj
  have hm := List.pairwise_iff_getElem.1 mp
  rcases Nat.lt_trichotomy i j with hl | hl | hl
  · have hc := hm i j hil hjl hl
    rw [ei, ej] at hc
    exact (compat_symm hc x hx y hyr hyp).2
  · subst hl
    rw [hi] at hj
    cases hj
    exact absurd hpq hr2
  · have hc := hm j i hjl hil hl
    rw [ei, ej] at hc
    exact (hc x hx y hyr hyp).2
theorem outP_small {ps : List packC.D} {q : ByteArray} (hs : smallPs ps) (hf : ps.length ≤ 100) : smallPs (rootOutP ⟨ps⟩ q) ∧ (rootOutP ⟨ps⟩ q).length ≤ 100 := by
  have hw := without_small (q := q) hs
  have hl : (withoutP q ps).length ≤ 100 := Nat.le_trans (without_sub q ps).length_le hf
  unfold rootOutP
  split
  · unfold outP
    split
    · unfold tryP
      split
      · exact ⟨hw, hl⟩
      · exact ⟨hs, hf⟩
    · exact ⟨hs, hf⟩
  · exact ⟨⟨Nat.zero_le _, fun x hx => by cases hx⟩, Nat.zero_le _⟩
theorem specOut_r {W : World} {a : Option Addr} {c : Nat} {ps qs : List packC.D} {q : ByteArray} {k : Int} (h : RR W a c ps) (e : rootOutP ⟨ps⟩ q = qs) (ek : rootOutC ⟨ps⟩ q = k) (hs : smallPs qs) (hf : qs.length ≤ 100) : Calls Tryz.prog 40 #[.agg #[.slice a ps.length c], .string q] W (Turned qs k W) :=
  (specRootOut_any ⟨ps⟩ a c q W h.small h.row).mono (fun _ _ ⟨r, L, h1, h2, h3, h4⟩ => by
    rw [e] at h3
    obtain ⟨a', c', rfl, hr⟩ := rr_of h2 h3 hs hf
    exact ⟨a', c', by rw [h1, ek], hr, h4⟩)
set_option maxRecDepth 100000 in
set_option maxHeartbeats 4000000 in
theorem DrawRootOut_any (w : World) (a : Option Addr) (len cap : Nat) (h : Code w w.heap.size a len) (hl : len ≤ 1048576) (hc : len ≤ cap) :
    Calls Tryz.prog 38 #[.slice a len cap] w fun x w' => ∃ v ps y, x = .returned (.tuple #[.agg #[v], .string y]) ∧ DR w' v ps ∧ short y ∧ Below w.heap.size w w' := by
  have hB0 : Below w.heap.size w (w.alloc (.cells #[.slice none 0 0] 51)) := (Below.refl _ w).alloc (Nat.le_refl _) _
  have H := hid (code_on h hB0)
  have hR0 := World.alloc_heap_new w (.cells #[.slice none 0 0] 51)
  have hz0 : w.heap.size < (w.alloc (.cells #[.slice none 0 0] 51)).heap.size := by simp
  clear h
  go_enter Tryz.func38, Tryz.ntmps38
  go_wp2_with fail
  generalize w.alloc (.cells #[.slice none 0 0] 51) = w0 at H hB0 hR0 hz0 ⊢
  refine (l1Open_any w0 a len cap (unhid H) hl hc).mono ?_
  rintro e w1 ⟨rfl, ⟨l', c', hR⟩, hB1⟩
  have hR1 := (hB1.block _ hz0).trans hR0
  have hB01 := hB0.trans (hB1.mono hB0.size)
  clear hR0 H
  go_wp2_with fail
  refine (l11AnyRoot_any w1 _ a l' c' 0 hR (by omega)).mono ?_
  rintro e w2 ⟨v, ps, rfl, hQ⟩
  have hb2 : Below w0.heap.size w1 w2 := grown_below hQ.grown (Nat.le_refl _) hB1.size
  have hR2 := (hb2.block _ hz0).trans hR1
  have hat := hQ.keep w2 (fun _ _ _ => rfl)
  obtain ⟨va, vc, rfl, -⟩ := rowAt.slice hat
  have hB02 : Below w.heap.size w w2 := hB01.trans (hb2.mono hB0.size)
  obtain ⟨p2, hp2, hRd⟩ := hQ.rd
  have hlb := hRd.lt
  have HQ := hid hQ
  clear hb2 hR1 hB01 hat hQ hR hB1
  go_wp2_with fail
  refine (of_any short _ w0.heap.size a l' c' p2 (hRd.alloc _) (by omega) w2.heap.size 5 5 (by omega) (by omega) (by omega) ?h5).mono ?_
  case h5 => exact fun k hk => row_short_at _ _ _ _ rfl (by kernel_rfl) k hk
  rintro e w3 ⟨y, hy, rfl, hR3, hG⟩
  have hG3 := grown_trans (World.grownBy_alloc w2 _ (some w0.heap.size)) hG
  have hR3b := (hG3.block w.heap.size (by omega) (by intro e; injection e; omega)).trans hR2
  have hB03 : Below w.heap.size w w3 := hB02.trans ((grown_below hG3 (Nat.le_refl _) (by omega)).mono hB0.size)
  obtain ⟨o0, r0⟩ := cell_fz hR3b 0 _ rfl
  have hBw : Below w.heap.size w3 (w3.setCell ⟨w.heap.size, 0, none⟩ (.slice va ps.length vc)) := (Below.refl _ w3).setCell (p := ⟨w.heap.size, 0, none⟩) (Nat.le_refl _) _
  have HF := hid (And.intro (aq_dr (unhid HQ) (W' := w3.setCell ⟨w.heap.size, 0, none⟩ (.slice va ps.length vc)) (fun k h1 h2 => (Below.heap_setCell _ _ _ _ (by dsimp only; omega)).trans (hG3.block k h2 (by intro e; injection e; omega)))) (hB03.trans hBw))
  clear hG hG3 hR3b hB03 hB02 hBw hR3 hRd HQ hR2
  go_wp2_with fail
  exact bodyPost_ret (v := .tuple #[.agg #[.slice va ps.length vc], .string y]) (by simp [results, Tryz.results38, go_sem, World.cell?_setCell_same', o0]) rfl ⟨_, ps, y, rfl, (unhid HF).1, hy, (unhid HF).2⟩
end Go.Proofs.YtoihhlkidlapmaaGreat

namespace Go.Proofs.YtoihhlkidlapmaaGreat
open Go.RowKit Go.Shelf
theorem getE_r {W : World} {a : Option Addr} {es : List Ent} {cap : Nat} (p : ByteArray) (h : ER W a es) : Calls Tryz.prog 36 #[.slice a es.length cap, .string p] W fun x w' => x = .returned (.tuple #[.agg #[.string (gotE es p).path, .int .i64 (gotE es p).kind, .int .i64 (gotE es p).mode, .string (gotE es p).text], .bool (treeB es && thereE es p)]) ∧ Below W.heap.size W w' :=
  (treeGet_any es a cap p W h.small h.ents).mono (fun _ _ ⟨h3, h4⟩ => ⟨h3, h4⟩)
structure CO (w2 : World) (b g : Nat) (w' : World) : Prop where
  box : ∃ v, w'.heap[g]? = some (.cells #[v] 51 (0, 0))
  size : w2.heap.size ≤ w'.heap.size
  rest : ∀ k, k < w2.heap.size → k ≠ b → k ≠ g → w'.heap[k]? = w2.heap[k]?
theorem CO.grown {w2 W W' : World} {b g : Nat} (h : CO w2 b g W) (hg : W.grownBy W' (some b)) (hlt : g < w2.heap.size) (hne : g ≠ b) : CO w2 b g W' := by
  obtain ⟨v, hv⟩ := h.box
  exact ⟨⟨v, (hg.block g (Nat.lt_of_lt_of_le hlt h.size) (by intro e; injection e; omega)).trans hv⟩, Nat.le_trans h.size hg.size, fun k hk h1 h2 => (hg.block k (Nat.lt_of_lt_of_le hk h.size) (by intro e; injection e; omega)).trans (h.rest k hk h1 h2)⟩
theorem CO.below {w2 W W' : World} {b g : Nat} (h : CO w2 b g W) (hg : Below W.heap.size W W') (hlt : g < w2.heap.size) : CO w2 b g W' := by
  obtain ⟨v, hv⟩ := h.box
  exact ⟨⟨v, (hg.block g (Nat.lt_of_lt_of_le hlt h.size)).trans hv⟩, Nat.le_trans h.size hg.size, fun k hk h1 h2 => (hg.block k (Nat.lt_of_lt_of_le hk h.size)).trans (h.rest k hk h1 h2)⟩
theorem CO.set {w2 W : World} {b g : Nat} (h : CO w2 b g W) (v : Value) : CO w2 b g (W.setCell ⟨g, 0, none⟩ v) := by
  obtain ⟨u, hv⟩ := h.box
  exact ⟨⟨v, heap_setCell_same W g 0 _ _ v hv⟩, by simpa using h.size, fun k hk h1 h2 => (Below.heap_setCell _ _ _ _ h2).trans (h.rest k hk h1 h2)⟩
end Go.Proofs.YtoihhlkidlapmaaGreat

namespace Go.Proofs.YtoihhlkidlapmaaGreat
open Go.ChangeShapes Go.WideShapes Go.ChangeAt Go.RowKit Go.Shelf
set_option maxRecDepth 100000 in
set_option maxHeartbeats 16000000 in
theorem walk_FnRootOut (a0 : Option Addr) (len0 cap0 : Nat) (w : World) (h0 : Code w w.heap.size a0 len0) (hc0 : len0 ≤ cap0) :
    Calls Tryz.prog 10 #[.slice a0 len0 cap0] w fun e w' => e = .returned (.bool true) ∧ Below w.heap.size w w' := by
  have H0 := hid h0
  clear h0
  by_cases hl0 : (1048576 : Int) < len0
  · go_enter Tryz.func10, Tryz.ntmps10
    go_wp2_with fail
    go_ret
    exact ⟨rfl, Below.refl _ _⟩
  go_enter Tryz.func10, Tryz.ntmps10
  have K := hid (KW.start w)
  go_wp2_with fail
  refine (DrawRootOut_any w a0 len0 cap0 (code_on (unhid H0) ((unhid K).now)) (by omega) hc0).mono ?_
  rintro e W1 ⟨v, ps, nm, rfl, hD, hnm, hb⟩
  obtain ⟨ra, rc, rfl, hr⟩ := dr_rr hD
  have hns : nm.size ≤ maxLen := by have h1 : nm.size ≤ 100 := hnm; exact le_maxLen (by omega)
  have K := hid ((unhid K).step hb)
  have K := hid ((unhid K).row hr)
  clear hb hr hD hnm
  go_wp2_with fail
  have hx0 := World.alloc_heap_new W1 (.cells #[.slice ra ps.length rc] 51)
  have hb := (Below.refl W1.heap.size W1).alloc (Nat.le_refl _) (.cells #[.slice ra ps.length rc] 51)
  generalize (W1.alloc (.cells #[.slice ra ps.length rc] 51)) = W2 at hx0 hb ⊢
  have K := hid ((unhid K).step hb)
  have K := hid ((unhid K).box hx0)
  clear hb hx0
  obtain ⟨X, HX⟩ : ∃ X, Hid (rootOutP ⟨ps⟩ nm = X) := ⟨_, hid rfl⟩
  obtain ⟨k, HK⟩ : ∃ k, Hid (rootOutC ⟨ps⟩ nm = k) := ⟨_, hid rfl⟩
  have HXS := hid (outP_small (q := nm) ((unhid K).now.1.2).small ((unhid K).now.1.2).few)
  rw [unhid HX] at HXS
  have e1 := int_ne_self k
  have e2 := int_eq_self k
  have Brk0 := cell_arrS ((unhid K).now.2) 0 _ rfl
  go_wp2_with fail
  clear Brk0
  refine (out_r ((unhid K).now.1.2) (unhid HX) (unhid HK) (unhid HXS).1 (unhid HXS).2).mono ?_
  rintro e W3 ⟨xa, xc, rfl, hr, hb⟩
  have K := hid ((unhid K).step hb)
  clear hb
  have K := hid ((unhid K).row hr)
  clear hr
  have Brk0 := fun x => Go.Lib.cell?_alloc_some x (cell_arrS ((unhid K).now.1.2) 0 _ rfl)
  go_wp2_with fail
  clear Brk0
  have hx0 := World.alloc_heap_new W3 (.cells #[.slice xa X.length xc] 51)
  have hb := (Below.refl W3.heap.size W3).alloc (Nat.le_refl _) (.cells #[.slice xa X.length xc] 51)
  generalize (W3.alloc (.cells #[.slice xa X.length xc] 51)) = W4 at hx0 hb ⊢
  have K := hid ((unhid K).step hb)
  have K := hid ((unhid K).box hx0)
  clear hb hx0
  refine (specOut_r ((unhid K).now.1.1.1.2) (unhid HX) (unhid HK) (unhid HXS).1 (unhid HXS).2).mono ?_
  rintro e W5 ⟨ya, yc, rfl, hr, hb⟩
  have K := hid ((unhid K).step hb)
  clear hb
  have K := hid ((unhid K).row hr)
  clear hr
  have Brk0 := fun x => Go.Lib.cell?_alloc_some x (cell_arrS ((unhid K).now.1.1.1.2) 0 _ rfl)
  have Bxk0 := fun x => Go.Lib.cell?_alloc_some x (cell_arrS ((unhid K).now.1.2) 0 _ rfl)
  go_wp2_with fail
  clear Brk0 Bxk0
  have hx0 := World.alloc_heap_new W5 (.cells #[.slice ya X.length yc] 51)
  have hb := (Below.refl W5.heap.size W5).alloc (Nat.le_refl _) (.cells #[.slice ya X.length yc] 51)
  generalize (W5.alloc (.cells #[.slice ya X.length yc] 51)) = W6 at hx0 hb ⊢
  have K := hid ((unhid K).step hb)
  have K := hid ((unhid K).box hx0)
  clear hb hx0
  refine (jsRoot_r ((unhid K).now.1.1.1.2) ((unhid K).now.1.2)).mono ?_
  rintro e W7 ⟨rfl, hb⟩
  have K := hid ((unhid K).step hb)
  clear hb
  have Brk0 := cell_arrS ((unhid K).now.1.1.1.1.2) 0 _ rfl
  have Bxk0 := cell_arrS ((unhid K).now.1.1.2) 0 _ rfl
  have Byk0 := cell_arrS ((unhid K).now.2) 0 _ rfl
  go_wp2_with fail
  clear Brk0 Bxk0 Byk0
  refine (specOk_r ((unhid K).now.1.1.1.1.1.2)).mono ?_
  rintro e W8 ⟨rfl, hb⟩
  have K := hid ((unhid K).step hb)
  clear hb
  obtain ⟨ok, HOK⟩ : ∃ b, Hid (rootOk_0 ⟨ps⟩ = b) := ⟨_, hid rfl⟩
  rw [unhid HOK]
  cases ok
  case false =>
    have Brk0 := cell_arrS ((unhid K).now.1.1.1.1.2) 0 _ rfl
    have Bxk0 := cell_arrS ((unhid K).now.1.1.2) 0 _ rfl
    have Byk0 := cell_arrS ((unhid K).now.2) 0 _ rfl
    go_wp2_with fail
    clear Brk0 Bxk0 Byk0
    refine (jsRoot_r ((unhid K).now.1.1.1.2) ((unhid K).now.1.2)).mono ?_
    rintro e W9 ⟨rfl, hb⟩
    have K := hid ((unhid K).step hb)
    clear hb
    have Brk0 := cell_arrS ((unhid K).now.1.1.1.1.2) 0 _ rfl
    have Bxk0 := cell_arrS ((unhid K).now.1.1.2) 0 _ rfl
    have Byk0 := cell_arrS ((unhid K).now.2) 0 _ rfl
    go_wp2_with fail
    clear Brk0 Bxk0 Byk0
    go_ret
    exact ⟨rfl, (unhid K).now.1.1.1.1.1.1⟩
  case true =>
    have hco := ok_0.1 (unhid HOK)
    have hkk := (rout_code (d := ⟨ps⟩) (q := nm) (unhid HOK)).1.symm.trans (unhid HK)
    have hxx := (rout_code (d := ⟨ps⟩) (q := nm) (unhid HOK)).2.symm.trans (unhid HX)
    have hlw := out_law (q := nm) hco
    rw [show outCode nm ps = k from hkk, show outP nm ps = X from hxx] at hlw
    have HLW := hid hlw
    clear hlw hkk hxx
    have Brk0 := cell_arrS ((unhid K).now.1.1.1.1.2) 0 _ rfl
    have Bxk0 := cell_arrS ((unhid K).now.1.1.2) 0 _ rfl
    have Byk0 := cell_arrS ((unhid K).now.2) 0 _ rfl
    go_wp2_with fail
    clear Brk0 Bxk0 Byk0
    refine (implNe_r ((unhid K).now.1.1.1.1.1.2) hns).mono ?_
    rintro e W10 ⟨oa, oc, rfl, hx, hb⟩
    have K := hid ((unhid K).step hb)
    clear hb
    have K := hid ((unhid K).txts hx)
    clear hx
    obtain ⟨nl, HNL⟩ : ∃ n, Hid ((needers_0 ps nm).length = n) := ⟨_, hid rfl⟩
    rw [unhid HNL]
    have hnl : nl ≤ 1000 := by have h1 := ((unhid K).now.2).few; have h2 := unhid HNL; omega
    rcases (unhid HLW).1 with h0 | h0 | h0
    · subst h0
      obtain ⟨hx1, hx2, hx3, hx4⟩ := (unhid HLW).2.2.2 rfl
      have hn0 : nl = 0 := by have := unhid HNL; rw [hx3] at this; exact this.symm
      subst hn0
      have HX1 := hid hx1
      have HX2 := hid hx2
      have hlen : X.length + 1 = ps.length := by rw [hx1]; exact hx4
      have HT := hid (fun p hp x hx => out_tree (q := nm) hco hx2 (p := p) hp (x := x) hx)
      rw [← hx1] at HT HX2
      clear hx1 hx2 hx3 hx4 hnl
      have Brk0 := cell_arrS ((unhid K).now.1.1.1.1.1.2) 0 _ rfl
      have Bxk0 := cell_arrS ((unhid K).now.1.1.1.2) 0 _ rfl
      have Byk0 := cell_arrS ((unhid K).now.1.2) 0 _ rfl
      go_wp2_with fail
      clear Brk0 Bxk0 Byk0
      refine (tree_r ((unhid K).now.1.1.1.1.2)).mono ?_
      rintro e W11 ⟨ta, tc, rfl, hr, hb⟩
      have K := hid ((unhid K).step hb)
      clear hb
      have K := hid ((unhid K).ents hr)
      clear hr
      have hfew := ((unhid K).now.1.1.1.1.1.1.1.2).few
      have HPK := hid ((code_iff ps).1 hco).1
      have HLEN := hid hlen
      clear hlen
      have K := hid ((unhid K).mark)
      have Brk0 := cell_arrS ((unhid K).now.1.1.1.1.1.1.1.2) 0 _ rfl
      have Bxk0 := cell_arrS ((unhid K).now.1.1.1.1.1.2) 0 _ rfl
      have Byk0 := cell_arrS ((unhid K).now.1.1.1.2) 0 _ rfl
      go_wp2_with fail
      clear Brk0 Bxk0 Byk0
      go_loopw [11, 12, 13, 14] (fun i _ _ _ wr => ∃ m : Nat, m ≤ ps.length ∧ i = .int .i64 (m : Int) ∧ Hid (Below W11.heap.size W11 wr)) (fun i _ _ _ _ => ps.length - (intOf i).toNat)
      case atStart => exact ⟨0, Nat.zero_le _, rfl, hid (Below.refl _ _)⟩
      case round =>
        obtain ⟨m, hm, rfl, HBr⟩ := hrel
        have hb := unhid HBr
        have K := hid ((unhid K).step hb)
        clear hb HBr
        by_cases hlm : m < ps.length
        · obtain ⟨p, hp⟩ : ∃ p, ps[m]? = some p := ⟨ps[m], List.getElem?_eq_getElem hlm⟩
          obtain ⟨pb, po, na, nc, sta, stc, hra, hpa⟩ := RR.get ((unhid K).now.1.1.1.1.1.1.1.1.2) hp
          subst hra
          have K := hid ((unhid K).pa hpa)
          clear hpa
          have HMP := hid (List.mem_of_getElem? hp)
          clear hp
          have htl : (PackD.tree p).length ≤ 1048576 := by have h1 := ((unhid K).now.2).pr.tree.2; have h2 : (treeOfP p).length ≤ 1048576 := ((unhid K).now.2).pr.small.tree.1; omega
          have K := hid ((unhid K).mark)
          have Brk0 := cell_arrS ((unhid K).now.1.1.1.1.1.1.1.1.1.2) 0 _ rfl
          have Bxk0 := cell_arrS ((unhid K).now.1.1.1.1.1.1.1.2) 0 _ rfl
          have Byk0 := cell_arrS ((unhid K).now.1.1.1.1.1.2) 0 _ rfl
          have Pak0 := ((unhid K).now.1.2).c0
          have Pak1 := ((unhid K).now.1.2).c3
          go_wp2_with fail
          clear Brk0 Bxk0 Byk0 Pak0 Pak1
          go_loopw [12, 13, 14] (fun j _ _ wx => ∃ t : Nat, t ≤ (PackD.tree p).length ∧ j = .int .i64 (t : Int) ∧ Hid (Below wr.heap.size wr wx)) (fun j _ _ _ => (PackD.tree p).length - (intOf j).toNat)
          case atStart => exact ⟨0, Nat.zero_le _, rfl, hid (Below.refl _ _)⟩
          case round =>
            obtain ⟨t, ht, rfl, HBi⟩ := hrel
            have hb := unhid HBi
            have K := hid ((unhid K).step hb)
            clear hb HBi
            by_cases hlt : t < (PackD.tree p).length
            · obtain ⟨hea, hel⟩ := ((unhid K).now.1.2).pr.tree
              obtain ⟨x, he⟩ : ∃ x, (treeOfP p)[t]? = some x := ⟨(treeOfP p)[t]'(by rw [hel]; exact hlt), List.getElem?_eq_getElem _⟩
              obtain ⟨eb, eo, hta, hbl, hc⟩ := hea.get (by intro e; rw [e] at he; simp at he)
              have hce := hc t x he
              subst hta
              have K := hid ((unhid K).ent hbl hce)
              have HTX := hid ((unhid HT) p (unhid HMP) x (List.mem_of_getElem? he))
              clear hc hbl hce he hea hel
              have Brk0 := cell_arrS ((unhid K).now.1.1.1.1.1.1.1.1.1.1.2) 0 _ rfl
              have Bxk0 := cell_arrS ((unhid K).now.1.1.1.1.1.1.1.1.2) 0 _ rfl
              have Byk0 := cell_arrS ((unhid K).now.1.1.1.1.1.1.2) 0 _ rfl
              have Pak0 := ((unhid K).now.1.1.2).c0
              have Pak1 := ((unhid K).now.1.1.2).c3
              have Eek0 := ((unhid K).now.2).2.c0
              have Eek1 := ((unhid K).now.2).2.c1
              have Eek2 := ((unhid K).now.2).2.c2
              have Eek3 := ((unhid K).now.2).2.c3
              go_wp2_with fail
              clear Brk0 Bxk0 Byk0 Pak0 Pak1 Eek0 Eek1 Eek2 Eek3
              refine (getE_r x.path ((unhid K).now.1.1.1.1.2)).mono ?_
              rintro e W12 ⟨rfl, hb⟩
              have K := hid ((unhid K).step hb)
              clear hb
              obtain ⟨z, HZ⟩ : ∃ z, Hid (gotE (rootTreeE ⟨X⟩) x.path = z) := ⟨_, hid rfl⟩
              obtain ⟨th, HTH⟩ : ∃ b, Hid ((treeB (rootTreeE ⟨X⟩) && thereE (rootTreeE ⟨X⟩) x.path) = b) := ⟨_, hid rfl⟩
              rw [unhid HZ, unhid HTH]
              rw [unhid HZ, unhid HTH] at HTX
              have Brk0 := fun x => Go.Lib.cell?_alloc_some x (cell_arrS ((unhid K).now.1.1.1.1.1.1.1.1.1.1.2) 0 _ rfl)
              have Bxk0 := fun x => Go.Lib.cell?_alloc_some x (cell_arrS ((unhid K).now.1.1.1.1.1.1.1.1.2) 0 _ rfl)
              have Byk0 := fun x => Go.Lib.cell?_alloc_some x (cell_arrS ((unhid K).now.1.1.1.1.1.1.2) 0 _ rfl)
              have Pak0 := fun x => Go.Lib.cell?_alloc_some x (((unhid K).now.1.1.2).c0)
              have Pak1 := fun x => Go.Lib.cell?_alloc_some x (((unhid K).now.1.1.2).c3)
              have Eek0 := fun x => Go.Lib.cell?_alloc_some x (((unhid K).now.2).2.c0)
              have Eek1 := fun x => Go.Lib.cell?_alloc_some x (((unhid K).now.2).2.c1)
              have Eek2 := fun x => Go.Lib.cell?_alloc_some x (((unhid K).now.2).2.c2)
              have Eek3 := fun x => Go.Lib.cell?_alloc_some x (((unhid K).now.2).2.c3)
              go_upto_region 19 with fail
              clear Brk0 Bxk0 Byk0 Pak0 Pak1 Eek0 Eek1 Eek2 Eek3
              have hx0 := World.alloc_heap_new W12 (.cells #[.string z.path, .int .i64 z.kind, .int .i64 z.mode, .string z.text] 57)
              have hb := (Below.refl W12.heap.size W12).alloc (Nat.le_refl _) (.cells #[.string z.path, .int .i64 z.kind, .int .i64 z.mode, .string z.text] 57)
              generalize (W12.alloc (.cells #[.string z.path, .int .i64 z.kind, .int .i64 z.mode, .string z.text] 57)) = W13 at hx0 hb ⊢
              have K := hid ((unhid K).step hb)
              have K := hid ((unhid K).box hx0)
              clear hb hx0
              have hq := txt_iff (PackD.name p) nm
              by_cases hpn : PackD.name p = nm
              · rw [decide_eq_true hpn] at hq
                cases th
                case false =>
                  have Brk0 := cell_arrS ((unhid K).now.1.1.1.1.1.1.1.1.1.1.1.2) 0 _ rfl
                  have Bxk0 := cell_arrS ((unhid K).now.1.1.1.1.1.1.1.1.1.2) 0 _ rfl
                  have Byk0 := cell_arrS ((unhid K).now.1.1.1.1.1.1.1.2) 0 _ rfl
                  have Pak0 := ((unhid K).now.1.1.1.2).c0
                  have Pak1 := ((unhid K).now.1.1.1.2).c3
                  have Eek0 := ((unhid K).now.1.2).2.c0
                  have Eek1 := ((unhid K).now.1.2).2.c1
                  have Eek2 := ((unhid K).now.1.2).2.c2
                  have Eek3 := ((unhid K).now.1.2).2.c3
                  have Bzk0 := cell_arrS ((unhid K).now.2) 0 _ rfl
                  have Bzk1 := cell_arrS ((unhid K).now.2) 1 _ rfl
                  have Bzk2 := cell_arrS ((unhid K).now.2) 2 _ rfl
                  have Bzk3 := cell_arrS ((unhid K).now.2) 3 _ rfl
                  go_quiet (fail)
                  go_wp2_with fail
                  go_roundw
                  case rel => exact ⟨t + 1, by omega, by go_num, hid (((unhid K).now.1.1.2).trans (drewN_below _ _))⟩
                  case measure => simp [intOf]; omega
                case true =>
                  have hkd := (unhid HTX).2 hpn rfl
                  have hkd2 : (x.kind != 1) = false := by rw [hkd]; rfl
                  clear hkd
                  have Brk0 := cell_arrS ((unhid K).now.1.1.1.1.1.1.1.1.1.1.1.2) 0 _ rfl
                  have Bxk0 := cell_arrS ((unhid K).now.1.1.1.1.1.1.1.1.1.2) 0 _ rfl
                  have Byk0 := cell_arrS ((unhid K).now.1.1.1.1.1.1.1.2) 0 _ rfl
                  have Pak0 := ((unhid K).now.1.1.1.2).c0
                  have Pak1 := ((unhid K).now.1.1.1.2).c3
                  have Eek0 := ((unhid K).now.1.2).2.c0
                  have Eek1 := ((unhid K).now.1.2).2.c1
                  have Eek2 := ((unhid K).now.1.2).2.c2
                  have Eek3 := ((unhid K).now.1.2).2.c3
                  have Bzk0 := cell_arrS ((unhid K).now.2) 0 _ rfl
                  have Bzk1 := cell_arrS ((unhid K).now.2) 1 _ rfl
                  have Bzk2 := cell_arrS ((unhid K).now.2) 2 _ rfl
                  have Bzk3 := cell_arrS ((unhid K).now.2) 3 _ rfl
                  go_quiet (fail)
                  go_wp2_with fail
                  go_roundw
                  case rel => exact ⟨t + 1, by omega, by go_num, hid (((unhid K).now.1.1.2).trans (drewN_below _ _))⟩
                  case measure => simp [intOf]; omega
              · rw [decide_eq_false hpn] at hq
                obtain ⟨hth, hzx⟩ := (unhid HTX).1 hpn
                subst hth
                subst hzx
                have hne := fun w => ne_ents z z w
                rw [eqV_self] at hne
                unfold Ent.vals at hne
                have Brk0 := cell_arrS ((unhid K).now.1.1.1.1.1.1.1.1.1.1.1.2) 0 _ rfl
                have Bxk0 := cell_arrS ((unhid K).now.1.1.1.1.1.1.1.1.1.2) 0 _ rfl
                have Byk0 := cell_arrS ((unhid K).now.1.1.1.1.1.1.1.2) 0 _ rfl
                have Pak0 := ((unhid K).now.1.1.1.2).c0
                have Pak1 := ((unhid K).now.1.1.1.2).c3
                have Eek0 := ((unhid K).now.1.2).2.c0
                have Eek1 := ((unhid K).now.1.2).2.c1
                have Eek2 := ((unhid K).now.1.2).2.c2
                have Eek3 := ((unhid K).now.1.2).2.c3
                have Bzk0 := cell_arrS ((unhid K).now.2) 0 _ rfl
                have Bzk1 := cell_arrS ((unhid K).now.2) 1 _ rfl
                have Bzk2 := cell_arrS ((unhid K).now.2) 2 _ rfl
                have Bzk3 := cell_arrS ((unhid K).now.2) 3 _ rfl
                go_quiet (fail)
                go_wp2_with fail
                go_roundw
                case rel => exact ⟨t + 1, by omega, by go_num, hid (((unhid K).now.1.1.2).trans (drewN_below _ _))⟩
                case measure => simp [intOf]; omega
            · have et : t = (PackD.tree p).length := by omega
              subst et
              have Brk0 := cell_arrS ((unhid K).now.1.1.1.1.1.1.1.1.1.2) 0 _ rfl
              have Bxk0 := cell_arrS ((unhid K).now.1.1.1.1.1.1.1.2) 0 _ rfl
              have Byk0 := cell_arrS ((unhid K).now.1.1.1.1.1.2) 0 _ rfl
              have Pak0 := ((unhid K).now.1.2).c0
              have Pak1 := ((unhid K).now.1.2).c3
              go_wp2_with fail
              clear Brk0 Bxk0 Byk0 Pak0 Pak1
              go_roundw
              case rel => exact ⟨m + 1, by omega, by go_num, hid ((unhid K).now.1.1.2)⟩
              case measure => simp [intOf]; omega
        · have e : m = ps.length := by omega
          subst e
          have hokx : rootOk_0 ⟨X⟩ = true := ok_0.2 (unhid HX2)
          have HOX := hid hokx
          clear hokx
          have Brk0 := cell_arrS ((unhid K).now.1.1.1.1.1.1.1.2) 0 _ rfl
          have Bxk0 := cell_arrS ((unhid K).now.1.1.1.1.1.2) 0 _ rfl
          have Byk0 := cell_arrS ((unhid K).now.1.1.1.2) 0 _ rfl
          go_wp2_with fail
          clear Brk0 Bxk0 Byk0
          refine (show Calls Tryz.prog 42 #[.agg #[.slice xa X.length xc]] wr fun x w' => x = .returned (.bool true) ∧ Below wr.heap.size wr w' from (implOk_r ((unhid K).now.1.1.1.1.1.1.2)).mono (fun _ _ h => ⟨by rw [h.1, unhid HOX], h.2⟩)).mono ?_
          rintro e W14 ⟨rfl, hb⟩
          have K := hid ((unhid K).step hb)
          clear hb
          have hlen := unhid HLEN
          have hle : ((X.length : Int) + 1 == (ps.length : Int)) = true := by rw [beq_iff_eq]; omega
          have hxf := ((unhid K).now.1.1.1.1.1.1.2).few
          clear hlen
          have Brk0 := cell_arrS ((unhid K).now.1.1.1.1.1.1.1.2) 0 _ rfl
          have Bxk0 := cell_arrS ((unhid K).now.1.1.1.1.1.2) 0 _ rfl
          have Byk0 := cell_arrS ((unhid K).now.1.1.1.2) 0 _ rfl
          go_wp2_with fail
          clear Brk0 Bxk0 Byk0
          go_ret
          exact ⟨rfl, (unhid K).now.1.1.1.1.1.1.1.1.1⟩
    · subst h0
      have hX0 := (unhid HLW).2.1 (by decide)
      subst hX0
      have Brk0 := cell_arrS ((unhid K).now.1.1.1.1.1.2) 0 _ rfl
      have Bxk0 := cell_arrS ((unhid K).now.1.1.1.2) 0 _ rfl
      have Byk0 := cell_arrS ((unhid K).now.1.2) 0 _ rfl
      go_wp2_with fail
      clear Brk0 Bxk0 Byk0
      refine (jsRoot_r ((unhid K).now.1.1.1.1.2) ((unhid K).now.1.1.1.1.1.1.2)).mono ?_
      rintro e W15 ⟨rfl, hb⟩
      have K := hid ((unhid K).step hb)
      clear hb
      have Brk0 := cell_arrS ((unhid K).now.1.1.1.1.1.2) 0 _ rfl
      have Bxk0 := cell_arrS ((unhid K).now.1.1.1.2) 0 _ rfl
      have Byk0 := cell_arrS ((unhid K).now.1.2) 0 _ rfl
      go_wp2_with fail
      clear Brk0 Bxk0 Byk0
      go_ret
      exact ⟨rfl, (unhid K).now.1.1.1.1.1.1.1⟩
    · subst h0
      have hX0 := (unhid HLW).2.1 (by decide)
      have hne0 := (unhid HLW).2.2.1 rfl
      have hn1 : 0 < nl := by have h1 := unhid HNL; have h2 := List.length_pos_iff.2 hne0; omega
      have hn2 : (0 : Int) < (nl : Int) := by omega
      subst hX0
      have Brk0 := cell_arrS ((unhid K).now.1.1.1.1.1.2) 0 _ rfl
      have Bxk0 := cell_arrS ((unhid K).now.1.1.1.2) 0 _ rfl
      have Byk0 := cell_arrS ((unhid K).now.1.2) 0 _ rfl
      go_wp2_with fail
      clear Brk0 Bxk0 Byk0
      refine (jsRoot_r ((unhid K).now.1.1.1.1.2) ((unhid K).now.1.1.1.1.1.1.2)).mono ?_
      rintro e W16 ⟨rfl, hb⟩
      have K := hid ((unhid K).step hb)
      clear hb
      have Brk0 := cell_arrS ((unhid K).now.1.1.1.1.1.2) 0 _ rfl
      have Bxk0 := cell_arrS ((unhid K).now.1.1.1.2) 0 _ rfl
      have Byk0 := cell_arrS ((unhid K).now.1.2) 0 _ rfl
      go_wp2_with fail
      clear Brk0 Bxk0 Byk0
      go_ret
      exact ⟨rfl, (unhid K).now.1.1.1.1.1.1.1⟩
end Go.Proofs.YtoihhlkidlapmaaGreat
