/- Texts of this proof, one behind the other; each says at its head what it shows. -/
import Derived.Test.YtoihhlkidlapmaaGreatJoin13
import Derived.Test.YtoihhlkidlapmaaGreatJoin12
import Derived.Test.YtoihhlkidlapmaaGreatJoin10
/- The model of Needers: the rounds. -/
namespace Go.Proofs.YtoihhlkidlapmaaGreat
open Go.RowKit Go.Shelf Go.Maps Go.ChangeShapes

def asksB (p : packC.D) (xs : List ByteArray) : Bool := List.any (α := needC.D) (needsOf p) (fun n => memB (NeedD.name n) xs)
theorem asksB_no {p : packC.D} {xs : List ByteArray} {k : Nat} : (∀ j : Nat, j < k → ∀ n : needC.D, (needsOf p)[j]? = some n → memB (NeedD.name n) xs = false) → (needsOf p).length ≤ k → asksB p xs = false := fun h hk => by
  unfold asksB
  rw [List.any_eq_false]
  intro n hn
  obtain ⟨j, hj⟩ := List.getElem?_of_mem hn
  have hl := (List.getElem?_eq_some_iff.1 hj).1
  rw [h j (by omega) n hj]; simp
theorem asksB_yes {p : packC.D} {xs : List ByteArray} {n : needC.D} (hn : n ∈ needsOf p) (h : memB (NeedD.name n) xs = true) : asksB p xs = true := List.any_eq_true.2 ⟨n, hn, h⟩
theorem asks_same (p : packC.D) (nm : ByteArray) (out : List ByteArray) : asksN nm out (PackD.name p, List.map (α := needC.D) (fun n => NeedD.name n) (needsOf p)) = (!decide (PackD.name p = nm) && asksB p (nm :: out)) := by
  rw [Bool.eq_iff_iff, asksN_iff, Bool.and_eq_true]
  refine and_congr (by simp) ?_
  unfold asksB
  rw [List.any_eq_true]
  constructor
  · rintro ⟨x, hx, h⟩
    obtain ⟨n, hn, rfl⟩ := List.mem_map.1 hx
    exact ⟨n, hn, memB_yes (List.mem_cons.2 h)⟩
  · rintro ⟨n, hn, h⟩
    exact ⟨NeedD.name n, List.mem_map.2 ⟨n, hn, rfl⟩, List.mem_cons.1 (memB_iff.1 h)⟩
/-- The row under way. -/
def outI (ps : List packC.D) (nm : ByteArray) (n i : Nat) : List ByteArray := ((edgesP ps).take i).foldl (stepN addT nm) (roundsN addT (edgesP ps) nm n)
theorem outI_0 (ps : List packC.D) (nm : ByteArray) (n : Nat) : outI ps nm n 0 = roundsN addT (edgesP ps) nm n := rfl
theorem outI_all (ps : List packC.D) (nm : ByteArray) (n : Nat) : outI ps nm n ps.length = roundsN addT (edgesP ps) nm (n + 1) := by
  unfold outI
  rw [List.take_of_length_le (by rw [edges_len]; exact Nat.le_refl _)]
  rfl
theorem outI_next {ps : List packC.D} {i : Nat} {p : packC.D} (nm : ByteArray) (n : Nat) (hp : ps[i]? = some p) : outI ps nm n (i + 1) = if (!decide (PackD.name p = nm) && asksB p (nm :: outI ps nm n i)) = true then addT (outI ps nm n i) (PackD.name p) else outI ps nm n i := by
  unfold outI
  rw [List.take_add_one, edges_at hp, List.foldl_append]
  show stepN addT nm _ _ = _
  unfold stepN
  rw [asks_same]
theorem outI_facts (ps : List packC.D) (nm : ByteArray) (n i : Nat) : AscT (outI ps nm n i) ∧ (outI ps nm n i).length ≤ ps.length := by
  have h1 : AscT (outI ps nm n i) := asc_fold nm _ _ (asc_rounds _ _ _)
  obtain ⟨-, h2⟩ := rounds_facts addsT (edgesP ps) nm n
  have h3 := fold_in addsT (V := (edgesP ps).map Prod.fst) (nm := nm) ((edgesP ps).take i) (roundsN addT (edgesP ps) nm n) (fun p hp => List.mem_map.2 ⟨p, List.mem_of_mem_take hp, rfl⟩) h2
  have h4 := nodup_len (outI ps nm n i) (namesP ps) (asc_nodup h1) (fun x hx => by rw [← edges_names]; exact (h3 x hx).1)
  rw [namesP_len] at h4
  exact ⟨h1, h4⟩
set_option maxRecDepth 100000 in
set_option maxHeartbeats 4000000 in
theorem l8Has2_any (xs : List ByteArray) (V : Value) (q : ByteArray) (w : World) (hs : xs.length ≤ 2097152) (h : rowAt txtC w V xs) :
    Calls Tryz.prog 125 #[V, .string q] w fun x w' => x = .returned (.bool (memB q xs)) ∧ w' = w := by
  obtain ⟨a, cap, rfl, ht, -, -⟩ := rowAt_txts h
  have H := hid ht
  clear h ht
  go_enter Tryz.func125, Tryz.ntmps125
  go_wp2_with fail
  go_loopw [5] (fun i wr => ∃ k : Nat, k ≤ xs.length ∧ i = .int .i64 (k : Int) ∧ Hid (∀ j, j < k → xs[j]? ≠ some q) ∧ wr = w) (fun i _ => xs.length - (intOf i).toNat)
  case atStart => exact ⟨0, Nat.zero_le _, rfl, hid (fun j hj => absurd hj (Nat.not_lt_zero _)), (by first | rfl | trivial)⟩
  case round =>
    obtain ⟨k, hk, rfl, HX, rfl⟩ := hrel
    by_cases hlt : k < xs.length
    · obtain ⟨e, he⟩ : ∃ e, xs[k]? = some e := ⟨xs[k], List.getElem?_eq_getElem hlt⟩
      obtain ⟨b, o, rfl, hbl, hc⟩ := (unhid H).get (by intro e; subst e; simp at hlt)
      have c0 := hc k e he
      have HE := hid he
      have hq := txt_iff e q
      clear hc he hbl
      by_cases hxy : e = q
      · rw [decide_eq_true hxy] at hq
        have HXY := hid hxy
        clear hxy
        go_wp2_with fail
        go_ret
        exact ⟨by rw [memB_yes (by rw [← unhid HXY]; exact List.mem_of_getElem? (unhid HE))]; rfl, rfl⟩
      · rw [decide_eq_false hxy] at hq
        have HXY := hid hxy
        clear hxy
        go_wp2_with fail
        go_roundw
        case rel =>
          refine ⟨k + 1, by omega, by go_num, hid (fun j hj => ?_), (by first | rfl | trivial)⟩
          by_cases ej : j = k
          · subst ej
            rw [unhid HE]
            exact fun e => unhid HXY (Option.some.inj e)
          · exact unhid HX j (by omega)
        case measure => simp [intOf]; omega
    · have e : k = xs.length := by omega
      subst e
      go_wp2_with fail
      go_ret
      refine ⟨?_, rfl⟩
      rw [memB_no (fun hm => by
        obtain ⟨j, hj⟩ := List.getElem?_of_mem hm
        exact unhid HX j (List.getElem?_eq_some_iff.1 hj).1 hj)]
      rfl

set_option maxRecDepth 100000 in
set_option maxHeartbeats 4000000 in
theorem l8Needs_any (p : packC.D) (na ta : Option Addr) (nc tc : Nat) (xs : List ByteArray) (V : Value) (w : World) (hs : smallP p) (hat : packC.at_ w [.string (PackD.name p), .string (PackD.version p), .slice na (PackD.needs p).length nc, .slice ta (PackD.tree p).length tc] p) (hx : xs.length ≤ 2097152) (h : rowAt txtC w V xs) :
    Calls Tryz.prog 69 #[.agg #[.string (PackD.name p), .string (PackD.version p), .slice na (PackD.needs p).length nc, .slice ta (PackD.tree p).length tc], V] w fun x w' => x = .returned (.bool (asksB p xs)) ∧ Below w.heap.size w w' := by
  obtain ⟨xa, xc, rfl, -, -, -⟩ := rowAt_txts h
  have hX := World.alloc_heap_new w (.cells #[.string (PackD.name p), .string (PackD.version p), .slice na (PackD.needs p).length nc, .slice ta (PackD.tree p).length tc] 34)
  have hB : Below w.heap.size w (w.alloc (.cells #[.string (PackD.name p), .string (PackD.version p), .slice na (PackD.needs p).length nc, .slice ta (PackD.tree p).length tc] 34)) := (Below.refl _ w).alloc (Nat.le_refl _) _
  have HAT := hid (packC.below hat hB)
  have H := hid (h.below hB)
  have HX := hid hX
  have HB := hid hB
  have hnl := hs.needs.1
  clear h hat hX hB hs
  go_enter Tryz.func69, Tryz.ntmps69
  go_wp2_with fail
  generalize w.alloc (.cells #[.string (PackD.name p), .string (PackD.version p), .slice na (PackD.needs p).length nc, .slice ta (PackD.tree p).length tc] 34) = w0 at HAT H HX HB ⊢
  have c2 := cell_arrS (unhid HX) 2 _ rfl
  go_loopw [5] (fun i wr => ∃ k : Nat, k ≤ (PackD.needs p).length ∧ i = .int .i64 (k : Int) ∧ Hid (∀ j : Nat, j < k → ∀ n : needC.D, (needsOf p)[j]? = some n → memB (NeedD.name n) xs = false) ∧ wr = w0) (fun i _ => (PackD.needs p).length - (intOf i).toNat)
  case atStart => exact ⟨0, Nat.zero_le _, rfl, hid (fun j hj => absurd hj (Nat.not_lt_zero _)), (by first | rfl | trivial)⟩
  case round =>
    obtain ⟨k, hk, rfl, HL, rfl⟩ := hrel
    by_cases hlt : k < (PackD.needs p).length
    · obtain ⟨n, hn⟩ : ∃ n, (needsOf p)[k]? = some n := ⟨(needsOf p)[k]'hlt, List.getElem?_eq_getElem hlt⟩
      obtain ⟨nb, no, rfl, hnb, e0, -, -⟩ := need_in (unhid HAT) hn
      have HN := hid hn
      clear hn hnb
      go_wp2_with fail
      refine (l8Has2_any xs _ (NeedD.name n) wr hx (unhid H)).mono ?_
      rintro x w2 ⟨rfl, rfl⟩
      cases hm : memB (NeedD.name n) xs with
      | true =>
        have E := hid (asksB_yes (List.mem_of_getElem? (unhid HN)) hm)
        go_wp2_with fail
        go_ret
        exact ⟨by rw [unhid E]; rfl, unhid HB⟩
      | false =>
        have HL2 := hid (show ∀ j : Nat, j < k + 1 → ∀ n : needC.D, (needsOf p)[j]? = some n → memB (NeedD.name n) xs = false from fun j hj n2 h2 => by
          by_cases e : j = k
          · subst e; rw [unhid HN] at h2; cases h2; exact hm
          · exact unhid HL j (by omega) n2 h2)
        go_wp2_with fail
        go_roundw
        case rel => exact ⟨k + 1, by omega, by go_num, HL2, (by first | rfl | trivial)⟩
        case measure => simp [intOf]; omega
    · have e : k = (PackD.needs p).length := by omega
      subst e
      have E := hid (asksB_no (unhid HL) (Nat.le_refl _))
      go_wp2_with fail
      go_ret
      exact ⟨by rw [unhid E]; rfl, unhid HB⟩
set_option maxRecDepth 100000 in
set_option maxHeartbeats 16000000 in
theorem specNeeders_any (ps : List packC.D) (pa : Option Addr) (pc : Nat) (nm : ByteArray) (w : World) (hs : smallPs ps) (hp : rowAt packC w (.slice pa ps.length pc) ps) :
    Calls Tryz.prog 22 #[.slice pa ps.length pc, .string nm] w fun e w' => (∃ v, e = .returned v ∧ w'.ownsRow w.heap.size 9 1 v (needers_0 ps nm).length ((needers_0 ps nm).map Value.string)) ∧ Below w.heap.size w w' := by
  have HP := hid hp
  have HSM := hid hs
  have hlen := hs.1
  have hO := ownsRow_made0 w
  have hB : Below w.heap.size w (w.alloc (.cells #[] 9)) := (Below.refl _ w).alloc (Nat.le_refl _) _
  have HL := hid (l8Packs_any ps _ (w.alloc (.cells #[] 9)) hs (hp.below hB))
  have HO := hid hO
  have HB := hid hB
  clear hp hs hO hB
  go_enter Tryz.func22, Tryz.ntmps22
  go_wp2_with fail
  generalize w.alloc (.cells #[] 9) = w0 at HL HO HB ⊢
  refine (unhid HL).mono ?_
  rintro e w1 ⟨rfl, hb⟩
  have HO1 := hid (ownsRow_belowS (unhid HO) hb)
  have HB1 := hid ((unhid HB).trans (hb.mono (unhid HB).size))
  clear hb HL HO HB
  by_cases hc : packsCode ps = 0
  · have E := hid hc
    rw [hc]
    clear hc
    go_wp2_with fail
    go_loopw [5, 6, 7] (fun s n _ wr => ∃ (k ob oc : Nat), k ≤ ps.length ∧ n = .int .i64 (k : Int) ∧ s = .slice (some ⟨ob, 0, none⟩) (outI ps nm k 0).length oc ∧ Hid (wr.ownsRow w.heap.size 9 1 (.slice (some ⟨ob, 0, none⟩) (outI ps nm k 0).length oc) (outI ps nm k 0).length ((outI ps nm k 0).map Value.string)) ∧ Hid (Below w.heap.size w wr)) (fun _ n _ _ => ps.length - (intOf n).toNat)
    case atStart => exact ⟨0, _, _, Nat.zero_le _, rfl, rfl, HO1, HB1⟩
    case round =>
      clear HO1 HB1
      obtain ⟨k, ob, oc, hk, rfl, rfl, HO, HB⟩ := hrel
      by_cases hlt : k < ps.length
      · go_wp2_with fail
        go_loopw [5, 7] (fun s i wx => ∃ (m ob oc : Nat), m ≤ ps.length ∧ i = .int .i64 (m : Int) ∧ s = .slice (some ⟨ob, 0, none⟩) (outI ps nm k m).length oc ∧ Hid (wx.ownsRow w.heap.size 9 1 (.slice (some ⟨ob, 0, none⟩) (outI ps nm k m).length oc) (outI ps nm k m).length ((outI ps nm k m).map Value.string)) ∧ Hid (Below w.heap.size w wx)) (fun _ i _ => ps.length - (intOf i).toNat)
        case atStart => exact ⟨0, _, _, Nat.zero_le _, rfl, rfl, HO, HB⟩
        case round =>
          clear HO HB
          obtain ⟨m, ob, oc, hm, rfl, rfl, HO, HB⟩ := hrel
          by_cases hlm : m < ps.length
          · obtain ⟨p, hpk⟩ : ∃ p, ps[m]? = some p := ⟨ps[m], List.getElem?_eq_getElem hlm⟩
            obtain ⟨a', c', ev, -, -, hrow⟩ := unhid HP
            injection ev with ea _ ec
            subst ea ec
            obtain ⟨b, o, rfl, hbl, hc⟩ := hrow.resolve_left (by intro e; subst e; simp at hlm)
            obtain ⟨na, nc, ta, tc, ⟨c0, c1, c2, c3⟩, hat⟩ := pack_cells (unhid HB) hbl hc hpk
            have hbw : b < wr.heap.size := Nat.lt_of_lt_of_le hbl (unhid HB).size
            have g0 : ∀ x : CW (fun w' => Below wr.heap.size wr w'), x.w.cell? ⟨b, o + m * 4, none⟩ = some (.string (PackD.name p)) := fun x => (x.h.cell (p := ⟨b, o + m * 4, none⟩) hbw).trans c0
            have g1 : ∀ x : CW (fun w' => Below wr.heap.size wr w'), x.w.cell? ⟨b, o + m * 4 + 1, none⟩ = some (.string (PackD.version p)) := fun x => (x.h.cell (p := ⟨b, o + m * 4 + 1, none⟩) hbw).trans c1
            have g2 : ∀ x : CW (fun w' => Below wr.heap.size wr w'), x.w.cell? ⟨b, o + m * 4 + 2, none⟩ = some (.slice na (PackD.needs p).length nc) := fun x => (x.h.cell (p := ⟨b, o + m * 4 + 2, none⟩) hbw).trans c2
            have g3 : ∀ x : CW (fun w' => Below wr.heap.size wr w'), x.w.cell? ⟨b, o + m * 4 + 3, none⟩ = some (.slice ta (PackD.tree p).length tc) := fun x => (x.h.cell (p := ⟨b, o + m * 4 + 3, none⟩) hbw).trans c3
            have HAT := hid hat
            have HPK := hid hpk
            have HC0 := hid c0
            have HSP := hid ((unhid HSM).2 p (List.mem_of_getElem? hpk))
            have hF := outI_facts ps nm k m
            have HN := hid (outI_next nm k hpk)
            have hq := txt_iff (PackD.name p) nm
            have hC := drew_belowS (B := wr.heap.size) wr
            have hba : ∀ {q : Prop}, (CW (fun w' => Below wr.heap.size wr w') → q) ↔ q := CW.all (Below.refl _ wr)
            clear hrow hc c0 c1 c2 c3 hat hpk hbl
            by_cases hpn : PackD.name p = nm
            · rw [decide_eq_true hpn] at hq
              have HE := hid (show outI ps nm k (m + 1) = outI ps nm k m by rw [unhid HN, decide_eq_true hpn]; rfl)
              clear hpn
              go_wp2_with fail
              refine held_begin (fun w' => Below wr.heap.size wr w') (by kernel_rfl) hC ?_
              refine held_here [true, true, true, true, true, true, true, true, true, true, true, true, true, false, true] (by kernel_rfl) (by kernel_rfl) (fun _ _ _ _ _ h => h) hC ?_
              dsimp only [pick]
              repeat (go_big_quiet_step (fail))
              refine wpQuiet_nil ?_
              clear g0 g1 g2 g3
              generalize wr.drew = w2 at hC ⊢
              refine held_skip 13 38 (by kernel_rfl) (by kernel_rfl) rfl rfl rfl hC ?_
              simp only [Act.put, List.setIfInBounds_toArray, List.set_cons_zero, List.set_cons_succ]
              refine held_skip 15 40 (by kernel_rfl) (by kernel_rfl) rfl rfl rfl hC ?_
              simp only [Act.put, List.setIfInBounds_toArray, List.set_cons_zero, List.set_cons_succ]
              refine held_skip 16 41 (by kernel_rfl) (by kernel_rfl) rfl rfl rfl hC ?_
              simp only [Act.put, List.setIfInBounds_toArray, List.set_cons_zero, List.set_cons_succ]
              clear hba
              have hba : ∀ {q : Prop}, (CW (fun w' => Below wr.heap.size wr w') → q) ↔ q := CW.all (Below.refl _ wr)
              refine held_here [false, false, false, false, false, false, false, false, false, false, false, false, false, false, false, false, false, true] (by kernel_rfl) (by kernel_rfl) (fun _ _ _ _ _ h => h) hC ?_
              dsimp only [pick]
              repeat (go_big_quiet_step (fail))
              refine wpQuiet_nil ?_
              clear hba
              refine held_done (by kernel_rfl) ?_
              have HB2 := hid ((unhid HB).trans (hC.mono (unhid HB).size))
              have HO2 := hid (show w2.ownsRow w.heap.size 9 1 (.slice (some ⟨ob, 0, none⟩) (outI ps nm k (m + 1)).length oc) (outI ps nm k (m + 1)).length ((outI ps nm k (m + 1)).map Value.string) by rw [unhid HE]; exact ownsRow_belowS (unhid HO) hC)
              have HV := hid (show Value.slice (some ⟨ob, 0, none⟩) (outI ps nm k m).length oc = .slice (some ⟨ob, 0, none⟩) (outI ps nm k (m + 1)).length oc by rw [unhid HE])
              clear hC hF
              go_wp2_with fail
              go_roundw
              case rel => exact ⟨m + 1, ob, oc, by omega, by go_num, unhid HV, HO2, HB2⟩
              case measure => simp [intOf]; omega
            · rw [decide_eq_false hpn] at hq
              have HN2 := hid (show outI ps nm k (m + 1) = if asksB p (nm :: outI ps nm k m) = true then addT (outI ps nm k m) (PackD.name p) else outI ps nm k m by have h := unhid HN; rw [decide_eq_false hpn, Bool.not_false, Bool.true_and] at h; exact h)
              clear hpn HN
              go_wp2_with fail
              refine held_begin (fun w' => Below wr.heap.size wr w') (by kernel_rfl) hC ?_
              refine held_here [true, true, true, true, true, true, true, true, true, true, true, true, true, false, true] (by kernel_rfl) (by kernel_rfl) (fun _ _ _ _ _ h => h) hC ?_
              dsimp only [pick]
              repeat (go_big_quiet_step (fail))
              refine wpQuiet_nil ?_
              clear g0 g1 g2 g3 hba
              generalize wr.drew = w2 at hC ⊢
              refine held_op 13 (by kernel_rfl) (by kernel_rfl) rfl (fun KK hK => ?_)
              go_simp
              have hx3 := World.alloc_heap_new w2 (.cells #[.string nm] 9)
              have hb3 : Below w2.heap.size w2 (w2.alloc (.cells #[.string nm] 9)) := (Below.refl _ w2).alloc (Nat.le_refl _) _
              have hC3 := hC.trans (hb3.mono hC.size)
              refine hK.out _ _ hC3 ?_
              clear hK KK
              generalize w2.alloc (.cells #[.string nm] 9) = w3 at hx3 hb3 hC3 ⊢
              have hO3 : w3.ownsRow w2.heap.size 9 1 (.slice (some ⟨w2.heap.size, 0, none⟩) 1 1) [nm].length ([nm].map Value.string) := ⟨rfl, .inr ⟨w2.heap.size, 1, _, rfl, Nat.le_refl _, hx3, Nat.le_refl _, by decide, rfl, rfl⟩⟩
              refine held_op 15 (by kernel_rfl) (by kernel_rfl) rfl (fun KK hK => ?_)
              refine row_op 40 w2.heap.size (.slice (some ⟨w2.heap.size, 0, none⟩) 1 1) [nm] (outI ps nm k m) (.slice (some ⟨ob, 0, none⟩) (outI ps nm k m).length oc) rfl (by kernel_rfl) rfl rfl rfl hO3 (ownsRow_at (ownsRow_belowS (unhid HO) hC3)) (by rw [List.length_singleton]; omega) hb3.size (fun v4 w4 hV hg => ?_)
              have hC4 : Below wr.heap.size wr w4 := hC3.grown hg hC3.size (fun j hj => Nat.le_trans hC.size (own_geN hO3 j hj).1)
              refine hK.out _ _ hC4 ?_
              simp only [Act.put, List.setIfInBounds_toArray, List.set_cons_zero, List.set_cons_succ]
              clear hK KK
              have hV4 := ownsRow_at hV
              obtain ⟨va, vc, rfl, -, -, -⟩ := ownsRow_txts hV
              refine held_call 16 69 41 (enters_of Tryz.func69 (by kernel_rfl) rfl) #[.agg #[.string (PackD.name p), .string (PackD.version p), .slice na (PackD.needs p).length nc, .slice ta (PackD.tree p).length tc], .slice va ([nm] ++ outI ps nm k m).length vc] (by kernel_rfl) (by kernel_rfl) rfl rfl rfl rfl rfl ?_
              refine (l8Needs_any p na ta nc tc ([nm] ++ outI ps nm k m) _ w4 (unhid HSP) (packC.below (unhid HAT) hC4) (by rw [List.length_append, List.length_singleton]; omega) hV4).mono ?_
              rintro x w5 ⟨rfl, hb5⟩
              have hC5 := hC4.trans (hb5.mono hC4.size)
              rw [List.singleton_append]
              refine ⟨_, rfl, hC5, ?_⟩
              simp only [Act.put, List.setIfInBounds_toArray, List.set_cons_zero, List.set_cons_succ]
              clear hC hx3 hb3 hC3 hO3 hV hg hC4 hV4 hb5
              have hba : ∀ {q : Prop}, (CW (fun w' => Below wr.heap.size wr w') → q) ↔ q := CW.all (Below.refl _ wr)
              refine held_here [false, false, false, false, false, false, false, false, false, false, false, false, false, false, false, false, false, true] (by kernel_rfl) (by kernel_rfl) (fun _ _ _ _ _ h => h) hC5 ?_
              dsimp only [pick]
              repeat (go_big_quiet_step (fail))
              refine wpQuiet_nil ?_
              clear hba
              refine held_done (by kernel_rfl) ?_
              cases hask : asksB p (nm :: outI ps nm k m) with
              | false =>
                have HE := hid (show outI ps nm k (m + 1) = outI ps nm k m by rw [unhid HN2, hask]; rfl)
                clear hask
                have HB2 := hid ((unhid HB).trans (hC5.mono (unhid HB).size))
                have HO2 := hid (show w5.ownsRow w.heap.size 9 1 (.slice (some ⟨ob, 0, none⟩) (outI ps nm k (m + 1)).length oc) (outI ps nm k (m + 1)).length ((outI ps nm k (m + 1)).map Value.string) by rw [unhid HE]; exact ownsRow_belowS (unhid HO) hC5)
                have HV := hid (show Value.slice (some ⟨ob, 0, none⟩) (outI ps nm k m).length oc = .slice (some ⟨ob, 0, none⟩) (outI ps nm k (m + 1)).length oc by rw [unhid HE])
                clear hC5 hF
                go_wp2_with fail
                go_roundw
                case rel => exact ⟨m + 1, ob, oc, by omega, by go_num, unhid HV, HO2, HB2⟩
                case measure => simp [intOf]; omega
              | true =>
                have HE := hid (show outI ps nm k (m + 1) = addT (outI ps nm k m) (PackD.name p) by rw [unhid HN2, hask]; rfl)
                have c0 := (hC5.cell (p := ⟨b, o + m * 4, none⟩) hbw).trans (unhid HC0)
                clear hask
                go_wp2_with fail
                refine (l8Add_any (outI ps nm k m) (PackD.name p) w.heap.size ob oc w5 (by omega) hF.1 (Nat.le_trans (unhid HB).size hC5.size) (ownsRow_belowS (unhid HO) hC5)).mono ?_
                rintro x w6 ⟨g, c, rfl, hO6, hb6⟩
                have HB6 := hid (((unhid HB).trans (hC5.mono (unhid HB).size)).trans (hb6.mono (Nat.le_trans (unhid HB).size hC5.size)))
                have HO6 := hid hO6
                rw [← unhid HE] at HO6 ⊢
                clear hO6 hb6 hC5 c0 hF
                go_wp2_with fail
                go_roundw
                case rel => exact ⟨m + 1, g, c, by omega, by go_num, rfl, HO6, HB6⟩
                case measure => simp [intOf]; omega
          · have e : m = ps.length := by omega
            subst e
            have HE := hid (show outI ps nm (k + 1) 0 = outI ps nm k ps.length by rw [outI_0, outI_all])
            have HO2 := hid (show wr.ownsRow w.heap.size 9 1 (.slice (some ⟨ob, 0, none⟩) (outI ps nm (k + 1) 0).length oc) (outI ps nm (k + 1) 0).length ((outI ps nm (k + 1) 0).map Value.string) by rw [unhid HE]; exact unhid HO)
            have HV := hid (show Value.slice (some ⟨ob, 0, none⟩) (outI ps nm k ps.length).length oc = .slice (some ⟨ob, 0, none⟩) (outI ps nm (k + 1) 0).length oc by rw [unhid HE])
            go_wp2_with fail
            go_roundw
            case rel => exact ⟨k + 1, ob, oc, by omega, by go_num, unhid HV, HO2, HB⟩
            case measure => simp [intOf]; omega
      · have e : k = ps.length := by omega
        subst e
        have HE := hid (show needers_0 ps nm = outI ps nm ps.length 0 by unfold needers_0; rw [if_pos (unhid E)]; rfl)
        go_wp2_with fail
        go_ret
        refine ⟨⟨_, rfl, ?_⟩, unhid HB⟩
        rw [unhid HE]
        exact unhid HO
  · have E := hid hc
    have hcc : (packsCode ps != 0) = true := by rw [bne_iff_ne]; exact hc
    have hcb : ¬ (packsCode ps = 0) := hc
    go_wp2_with fail
    go_ret
    refine ⟨⟨_, rfl, ?_⟩, unhid HB1⟩
    unfold needers_0
    rw [if_neg (unhid E)]
    exact unhid HO1
end Go.Proofs.YtoihhlkidlapmaaGreat

/- The law of Needers: what is drawn, the contracts, and what needs what. -/
namespace Go.Proofs.YtoihhlkidlapmaaGreat
open Go.RowKit Go.Shelf Go.Maps Go.ChangeShapes

theorem needers_small (ps : List packC.D) (nm : ByteArray) : (needers_0 ps nm).length ≤ ps.length ∧ ∀ x ∈ needers_0 ps nm, x ∈ namesP ps ∧ x ≠ nm := by
  unfold needers_0
  split
  · obtain ⟨h1, -, -, h4⟩ := needers_facts ps nm
    have := nodup_len (needersT ps nm) (namesP ps) (asc_nodup h1) (fun x hx => (h4 x hx).1)
    rw [namesP_len] at this
    exact ⟨this, h4⟩
  · exact ⟨Nat.zero_le _, fun x hx => by cases hx⟩
/-- Who needs a pack has it in what it needs. -/
theorem need_law {ps : List packC.D} {nm : ByteArray} {p : packC.D} (hne : PackD.name p ≠ nm) (h : closure_1 ps [PackD.name p] = 0) : PackD.name p ∈ needers_0 ps nm ↔ nm ∈ closure_0 ps [PackD.name p] := by
  obtain ⟨hc, hg, he, hin⟩ := closure_good h
  have hnd := (packs_ok hc).2
  have e0 : needers_0 ps nm = needersT ps nm := by unfold needers_0; rw [if_pos hc]
  obtain ⟨-, hs, hcl, -⟩ := needers_facts ps nm
  rw [e0]
  constructor
  · intro hx
    refine hs (fun z => z ∈ closure_0 ps [PackD.name p] → nm ∈ closure_0 ps [PackD.name p]) (fun c hc hne2 hx2 hall => ?_) _ hx (hin _ (by simp))
    obtain ⟨q, hq, rfl⟩ := mem_edges.1 hc
    obtain ⟨y, hy, hor⟩ := hx2
    obtain ⟨m, hm, rfl⟩ := List.mem_map.1 hy
    obtain ⟨k, hk⟩ := List.getElem?_of_mem hall
    obtain ⟨qi, hqi⟩ := List.getElem?_of_mem hq
    obtain ⟨j, hj⟩ := List.getElem?_of_mem hm
    have hmem := List.mem_of_mem_take (good_needs hnd hg hk hqi rfl hj)
    rcases hor with hor | hor
    · rw [← hor]; exact hmem
    · exact hor hmem
  · intro hx
    by_cases hm : PackD.name p ∈ needersT ps nm
    · exact hm
    · exfalso
      have hcls : closure_0 ps [PackD.name p] = (clsF (graphP ps) (ps.length + 1) (PackD.name p) [] []).1 := by
        have e1 : (clsF (graphP ps) (ps.length + 1) (PackD.name p) [] []).2 = 0 := by
          have h2 : (closeL (fun x o => clsF (graphP ps) (ps.length + 1) x o []) [PackD.name p] []).2 = 0 := by rw [he]
          rw [closeL] at h2
          by_cases hz : (clsF (graphP ps) (ps.length + 1) (PackD.name p) [] []).2 = 0
          · exact hz
          · rw [if_neg hz] at h2; exact absurd h2 hz
        unfold closure_0 closeR
        rw [if_pos hc, closeL, if_pos e1, closeL]
      rw [hcls] at hx
      have hr := cls_reach (G := graphP ps) (P := fun z => z ≠ nm ∧ z ∉ needersT ps nm) (fun c ns hP hG n hn => by
        unfold graphP at hG
        cases hf : List.find? (α := packC.D) (fun q => decide (PackD.name q = c)) ps with
        | none => rw [hf] at hG; cases hG
        | some q =>
          rw [hf] at hG
          cases hG
          have hqc : PackD.name q = c := by have := List.find?_some hf; simpa using this
          have hq := List.mem_of_find?_eq_some hf
          unfold asksOf at hn
          obtain ⟨m, hm2, rfl⟩ := List.mem_map.1 hn
          have hback : ∀ y, y = nm ∨ y ∈ needersT ps nm → y = NeedD.name m → False := fun y hy e => by
            refine hP.2 ?_
            have := hcl (PackD.name q, List.map (α := needC.D) (fun n => NeedD.name n) (needsOf q)) (mem_edges.2 ⟨q, hq, rfl⟩) (by rw [hqc]; exact hP.1) ⟨NeedD.name m, List.mem_map.2 ⟨m, hm2, rfl⟩, by rw [← e]; exact hy⟩
            rwa [← hqc]
          exact ⟨fun e => hback _ (.inl e) rfl, fun e => hback _ (.inr e) rfl⟩) (ps.length + 1) (PackD.name p) [] [] ⟨hne, hm⟩ nm hx
      rcases hr with hr | hr
      · cases hr
      · exact hr.1 rfl
theorem need_lawB {ps : List packC.D} {nm : ByteArray} {p : packC.D} (hne : PackD.name p ≠ nm) (h : closure_1 ps [PackD.name p] = 0) : memB (PackD.name p) (needers_0 ps nm) = memB nm (closure_0 ps [PackD.name p]) := by
  rw [Bool.eq_iff_iff, memB_iff, memB_iff]
  exact need_law hne h
def NeT (ps : List packC.D) (nm : ByteArray) (W : World) (x : Ending) (w' : World) : Prop := ∃ a c, x = .returned (.slice a (needers_0 ps nm).length c) ∧ TR w' a c (needers_0 ps nm) ∧ Below W.heap.size W w'
theorem neT_of {ps : List packC.D} {nm : ByteArray} {W w' : World} {v : Value} (hs : smallPs ps) (hf : ps.length ≤ 100) (h : rowAt txtC w' v (needers_0 ps nm)) (hb : Below W.heap.size W w') : NeT ps nm W (.returned v) w' := by
  obtain ⟨h1, h2⟩ := needers_small ps nm
  obtain ⟨a, c, rfl, -⟩ := rowAt_txts h
  exact ⟨a, c, rfl, ⟨h, by omega, fun x hx => names_small hs x (h2 x hx).1⟩, hb⟩
theorem implNe_r {W : World} {pa : Option Addr} {pc : Nat} {ps : List packC.D} {nm : ByteArray} (h : RR W pa pc ps) (hn : nm.size ≤ maxLen) : Calls Tryz.prog 21 #[.slice pa ps.length pc, .string nm] W (NeT ps nm W) := by
  refine (implNeeders_any ps pa pc nm W h.small hn h.row).mono ?_
  rintro e w' ⟨v, rfl, ho, hb⟩
  exact neT_of h.small h.few ho.at hb
theorem specNe_r {W : World} {pa : Option Addr} {pc : Nat} {ps : List packC.D} {nm : ByteArray} (h : RR W pa pc ps) : Calls Tryz.prog 22 #[.slice pa ps.length pc, .string nm] W (NeT ps nm W) := by
  refine (specNeeders_any ps pa pc nm W h.small h.row).mono ?_
  rintro e w' ⟨⟨v, rfl, ho⟩, hb⟩
  exact neT_of h.small h.few (ownsRow_at ho) hb
set_option maxRecDepth 100000 in
set_option maxHeartbeats 4000000 in
theorem DrawNeeders_any (w : World) (a : Option Addr) (len cap : Nat) (h : Code w w.heap.size a len) (hl : len ≤ 1048576) (hc : len ≤ cap) :
    Calls Tryz.prog 20 #[.slice a len cap] w fun x w' => ∃ v ps nm, x = .returned (.tuple #[v, .string nm]) ∧ DR w' v ps ∧ short nm ∧ Below w.heap.size w w' := by
  have H := hid h
  clear h
  go_enter Tryz.func20, Tryz.ntmps20
  go_wp2_with fail
  refine (l1Open_any w a len cap (unhid H) hl hc).mono ?_
  rintro e w1 ⟨rfl, ⟨l', c', hR⟩, hB1⟩
  clear H
  go_wp2_with fail
  refine (l11Packs_any w1 w.heap.size a l' c' 0 hR (by omega)).mono ?_
  rintro e w2 ⟨v, L, rfl, hQ⟩
  obtain ⟨p2, hp2, hR2⟩ := hQ.rd
  obtain ⟨ua, uc, rfl⟩ := nrow_slice hQ.row
  have hlt := hR.lt
  have hB2 := hB1.trans (grown_below hQ.grown (Nat.le_refl _) hB1.size)
  have HQ := hid hQ
  clear hQ hR hB1
  go_wp2_with fail
  refine (of_any short _ w.heap.size a l' c' p2 (hR2.alloc _) (by omega) w2.heap.size 4 4 (by have := hR2.lt; omega) (by omega) (by omega) ?h5).mono ?_
  case h5 => exact fun k hk => row_short_at _ _ _ _ rfl (by kernel_rfl) k hk
  rintro e w3 ⟨nm, hnm, rfl, hR3, hG⟩
  have hG3 := grown_trans (World.grownBy_alloc w2 _ (some w.heap.size)) hG
  have hP : rowAt packC w3 (.slice ua L.length uc) (itD L) := by
    obtain ⟨F, h1, _⟩ := ((unhid HQ).row.frame (W' := w3) (fun k hk => hG3.block k ((unhid HQ).row.base k hk).2 (by have := ((unhid HQ).row.base k hk).1; intro e; injection e; omega))).own
    exact h1.toAt
  have HF := hid (And.intro (show DR w3 (.slice ua L.length uc) (itD L) from ⟨hP, (unhid HQ).ok, by rw [itD_len]; have := (unhid HQ).few; omega⟩) (hB2.trans (grown_below hG3 (Nat.le_refl _) hB2.size)))
  clear hP hG hG3 hR3 hR2 HQ hB2
  go_wp2_with fail
  exact bodyPost_ret (v := .tuple #[.slice ua L.length uc, .string nm]) (by simp [results, Tryz.results20, go_sem]) rfl ⟨_, _, nm, rfl, (unhid HF).1, hnm, (unhid HF).2⟩
end Go.Proofs.YtoihhlkidlapmaaGreat

/- Who needs a pack has it in what it needs. -/
namespace Go.Proofs.YtoihhlkidlapmaaGreat
open Go.ChangeShapes Go.WideShapes Go.ChangeAt Go.RowKit Go.Shelf

set_option maxRecDepth 100000 in
set_option maxHeartbeats 16000000 in
theorem walk_FnNeeders (a0 : Option Addr) (len0 cap0 : Nat) (w : World) (h0 : Code w w.heap.size a0 len0) (hc0 : len0 ≤ cap0) :
    Calls Tryz.prog 4 #[.slice a0 len0 cap0] w fun e w' => e = .returned (.bool true) ∧ Below w.heap.size w w' := by
  have H0 := hid h0
  clear h0
  by_cases hl0 : (1048576 : Int) < len0
  · go_enter Tryz.func4, Tryz.ntmps4
    go_wp2_with fail
    go_ret
    exact ⟨rfl, Below.refl _ _⟩
  go_enter Tryz.func4, Tryz.ntmps4
  have K := hid (KW.start w)
  go_wp2_with fail
  refine (DrawNeeders_any w a0 len0 cap0 (code_on (unhid H0) ((unhid K).now)) (by omega) hc0).mono ?_
  rintro e W1 ⟨v, ps, nm, rfl, hD, hnm, hb⟩
  obtain ⟨pa, pc, rfl, hr⟩ := dr_rr hD
  have hns : nm.size ≤ maxLen := by have h1 : nm.size ≤ 100 := hnm; exact le_maxLen (by omega)
  have K := hid ((unhid K).step hb)
  have K := hid ((unhid K).row hr)
  clear hb hr hD hnm
  go_wp2_with fail
  refine (implNe_r ((unhid K).now.2) hns).mono ?_
  rintro e W2 ⟨oa, oc, rfl, hx, hb⟩
  have K := hid ((unhid K).step hb)
  clear hb
  have K := hid ((unhid K).txts hx)
  clear hx
  go_wp2_with fail
  refine (specNe_r ((unhid K).now.1.2)).mono ?_
  rintro e W3 ⟨ta, tc, rfl, hx, hb⟩
  have K := hid ((unhid K).step hb)
  clear hb
  have K := hid ((unhid K).txts hx)
  clear hx
  go_wp2_with fail
  refine (jsTexts_t ((unhid K).now.1.2) ((unhid K).now.2)).mono ?_
  rintro e W4 ⟨rfl, hb⟩
  have K := hid ((unhid K).step hb)
  clear hb
  have hfew := ((unhid K).now.1.1.2).few
  have K := hid ((unhid K).mark)
  go_wp2_with fail
  go_loopw [6, 7, 8] (fun i _ _ wr => ∃ m : Nat, m ≤ ps.length ∧ i = .int .i64 (m : Int) ∧ Hid (Below W4.heap.size W4 wr)) (fun i _ _ _ => ps.length - (intOf i).toNat)
  case atStart => exact ⟨0, Nat.zero_le _, rfl, hid (Below.refl _ _)⟩
  case round =>
    obtain ⟨m, hm, rfl, HBr⟩ := hrel
    have hb := unhid HBr
    have K := hid ((unhid K).step hb)
    clear hb HBr
    by_cases hlm : m < ps.length
    · obtain ⟨p, hp⟩ : ∃ p, ps[m]? = some p := ⟨ps[m], List.getElem?_eq_getElem hlm⟩
      obtain ⟨pb, po, na, nc, sta, stc, hra, hpa⟩ := RR.get ((unhid K).now.1.1.1.2) hp
      subst hra
      have K := hid ((unhid K).pa hpa)
      have hps := ((unhid K).now.1.1.1.1.2).small.2 p (List.mem_of_getElem? hp)
      have HPS := hid hps.name
      clear hpa hp hps
      have c0 := ((unhid K).now.2).c0
      go_wp2_with fail
      clear c0
      have hx0 := World.alloc_heap_new wr (.cells #[.string (PackD.name p)] 9)
      have hb := (Below.refl wr.heap.size wr).alloc (Nat.le_refl _) (.cells #[.string (PackD.name p)] 9)
      generalize wr.alloc (.cells #[.string (PackD.name p)] 9) = W5 at hx0 hb ⊢
      have K := hid ((unhid K).step hb)
      clear hb
      have hx := TR.one hx0 (unhid HPS)
      clear hx0
      have K := hid ((unhid K).txts hx)
      clear hx
      refine (implClo_r ((unhid K).now.1.1.1.1.1.2) ((unhid K).now.2)).mono ?_
      rintro e W6 ⟨ga, gc, rfl, hx, hb⟩
      have K := hid ((unhid K).step hb)
      clear hb
      have K := hid ((unhid K).txts hx)
      clear hx
      have c0 := ((unhid K).now.1.1.2).c0
      have hq := txt_iff (PackD.name p) nm
      obtain ⟨kc, HK⟩ : ∃ k, Hid (closure_1 ps [PackD.name p] = k) := ⟨_, hid rfl⟩
      rw [unhid HK]
      by_cases hk : kc = 0
      · subst hk
        by_cases hpn : PackD.name p = nm
        · rw [decide_eq_true hpn] at hq
          clear hpn
          go_wp2_with fail
          go_roundw
          case rel => exact ⟨m + 1, by omega, by go_num, hid ((unhid K).now.1.1.1.2)⟩
          case measure => simp [intOf]; omega
        · rw [decide_eq_false hpn] at hq
          have HLW := hid (need_lawB hpn (unhid HK))
          clear hpn
          go_wp2_with fail
          clear c0
          refine (jsHas_t (PackD.name p) ((unhid K).now.1.1.1.1.1.2)).mono ?_
          rintro e W7 ⟨rfl, hb⟩
          have K := hid ((unhid K).step hb)
          clear hb
          go_wp2_with fail
          refine (jsHas_t (nm) ((unhid K).now.2)).mono ?_
          rintro e W8 ⟨rfl, hb⟩
          have K := hid ((unhid K).step hb)
          clear hb
          rw [unhid HLW]
          generalize memB nm (closure_0 ps [PackD.name p]) = bb
          cases bb
          case false =>
            go_wp2_with fail
            go_roundw
            case rel => exact ⟨m + 1, by omega, by go_num, hid ((unhid K).now.1.1.1.2)⟩
            case measure => simp [intOf]; omega
          case true =>
            go_wp2_with fail
            go_roundw
            case rel => exact ⟨m + 1, by omega, by go_num, hid ((unhid K).now.1.1.1.2)⟩
            case measure => simp [intOf]; omega
      · have hk0 : (kc == 0) = false := by rw [beq_eq_false_iff_ne]; exact hk
        go_wp2_with fail
        go_roundw
        case rel => exact ⟨m + 1, by omega, by go_num, hid ((unhid K).now.1.1.1.2)⟩
        case measure => simp [intOf]; omega
    · have e : m = ps.length := by omega
      subst e
      have HNO := hid (memB_no (fun h => ((needers_small ps nm).2 nm h).2 rfl))
      go_wp2_with fail
      refine (jsHas_t (nm) ((unhid K).now.1.1.2)).mono ?_
      rintro e W9 ⟨rfl, hb⟩
      have K := hid ((unhid K).step hb)
      clear hb
      rw [unhid HNO]
      go_wp2_with fail
      go_ret
      exact ⟨rfl, (unhid K).now.1.1.1.1⟩
end Go.Proofs.YtoihhlkidlapmaaGreat
