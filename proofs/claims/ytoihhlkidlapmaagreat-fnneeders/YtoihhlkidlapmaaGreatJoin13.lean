/- Texts of this proof, one behind the other; each says at its head what it shows. -/
import Derived.Test.YtoihhlkidlapmaaGreatJoin12
import Derived.Test.YtoihhlkidlapmaaGreatJoin1
/- Needers, by the program: the walk. -/
namespace Go.Proofs.YtoihhlkidlapmaaGreat
open Go.RowKit Go.Shelf Go.Maps Go.ChangeShapes

def NeR (ps : List packC.D) (nm : ByteArray) (w : World) (e : Ending) (w' : World) : Prop := ∃ v, e = .returned v ∧ OffOwn w' w.heap.size v (needers_0 ps nm) ∧ Below w.heap.size w w'
theorem neR_no {ps : List packC.D} {nm : ByteArray} {w w' : World} (h : packsCode ps ≠ 0) (hb : Below w.heap.size w w') : NeR ps nm w (.returned (.slice none 0 0)) w' :=
  ⟨_, rfl, by unfold needers_0; rw [if_neg h]; exact .inl ⟨rfl, _, _, rfl, fun _ => rfl⟩, hb⟩
theorem shuns_all {W : World} {b : Nat} {l : List (ByteArray × Nat)} {D : DataW Unit} (h : Groups W b l D) {W' : World} (hb : Below W.heap.size W W') (hlt : b < W.heap.size) : W'.Shuns b (fun g => W.heap.size ≤ g) :=
  World.Shuns.kept (World.Shuns.reno (No := fun _ => False) (fun _ _ _ _ _ _ _ h => h) h.own (fun _ h => .inr h)) (below_grown none hb) hlt (by simp)
theorem names_smallN {ps : List packC.D} (hs : smallPs ps) : ∀ x ∈ namesP ps, x.size ≤ 1048576 := fun x hx => by
  obtain ⟨i, hi⟩ := List.getElem?_of_mem hx
  obtain ⟨p, hp, rfl⟩ := namesP_some hi
  exact (hs.2 p (List.mem_of_getElem? hp)).name
theorem ownsRow_frameN {W W' : World} {N e n size : Nat} {v : Value} {xs : List Value} (h : W.ownsRow N e size v n xs) (hk : ∀ k, N ≤ k → k < W.heap.size → W'.heap[k]? = W.heap[k]?) : W'.ownsRow N e size v n xs := by
  refine ⟨h.1, ?_⟩
  rcases h.2 with h0 | ⟨g, cap, cur, hv, hg, hh, h2⟩
  · exact .inl h0
  · exact .inr ⟨g, cap, cur, hv, hg, (hk g hg (Array.getElem?_eq_some_iff.1 hh).1).trans hh, h2⟩
theorem cons_take {α : Type} {x : α} {l : List α} {k : Nat} (y : α) (hk : k ≤ (x :: l).length) : (x :: (l ++ [y])).take k = (x :: l).take k := by
  rw [← List.cons_append, List.take_append_of_le_length hk]
set_option maxRecDepth 100000 in
set_option maxHeartbeats 16000000 in
theorem implNeeders_any (ps : List packC.D) (pa : Option Addr) (pc : Nat) (nm : ByteArray) (w : World) (hsm : smallPs ps) (hnm : nm.size ≤ maxLen) (hp : rowAt packC w (.slice pa ps.length pc) ps) :
    Calls Tryz.prog 21 #[.slice pa ps.length pc, .string nm] w (NeR ps nm w) := by
  have HP := hid hp
  have HSM := hid hsm
  have hlen := hsm.1
  have HL := hid (listOkPack_any ps _ w hsm hp)
  clear hp hsm
  go_enter Tryz.func21, Tryz.ntmps21
  go_wp2_with fail
  refine (unhid HL).mono ?_
  rintro e w1 ⟨rfl, hb⟩
  have HB1 := hid hb
  clear hb HL
  cases hok : allPk ps with
  | false =>
    have E := hid (show packsCode ps ≠ 0 by unfold packsCode; rw [hok, if_neg (by decide)]; decide)
    go_wp2_with fail
    go_ret
    exact neR_no (unhid E) (unhid HB1)
  | true =>
    have HOK := hid hok
    clear hok
    go_wp2_with fail
    refine (namesOfPacks_any ps _ w1 hlen ((unhid HP).below (unhid HB1))).mono ?_
    rintro e w2 ⟨u, rfl, ho, hb⟩
    obtain ⟨ua, uc, hu⟩ := ownsRow_sl ho
    subst hu
    have HO := hid ho
    have HB2 := hid ((unhid HB1).trans (hb.mono (unhid HB1).size))
    clear ho hb
    go_wp2_with fail
    refine (anyTwice_any (namesP ps) _ w1.heap.size w2 (by rw [namesP_len]; omega) (unhid HO)).mono ?_
    rintro e w3 ⟨rfl, hg⟩
    have HB3 := hid (grown_belowN (unhid HB2) hg (fun j ej => Nat.le_trans (unhid HB1).size ((unhid HO).lt j ej).1))
    clear hg HO HB2
    cases htw : twiceB (namesP ps) with
    | true =>
      have E := hid (show packsCode ps ≠ 0 by unfold packsCode; rw [unhid HOK, htw]; decide)
      go_wp2_with fail
      go_ret
      exact neR_no (unhid E) (unhid HB3)
    | false =>
      have HND := hid (show (namesP ps).Nodup by unfold twiceB at htw; simpa using htw)
      have E := hid (packs_code (unhid HOK) (unhid HND))
      clear htw
      go_wp2_with fail
      refine (needersByName_any ps _ w3 (unhid HSM) ((unhid HP).below (unhid HB3))).mono ?_
      rintro e W1 ⟨D, rfl, hG, hz, hb⟩
      have HG := hid hG
      have HZ := hid hz
      have HB4 := hid ((unhid HB3).trans (hb.mono (unhid HB3).size))
      have HPW := hid ((unhid HP).below (unhid HB4))
      clear hG hz hb HB3
      obtain ⟨F0, hmk, hF1, hF2⟩ := mkFound W1 ps.length hlen
      have HMK := hid (And.intro hF1 hF2)
      clear hF1 hF2
      go_wp2_with fail
      clear hmk
      have hs1 : (W1.alloc (.cells F0 4)).heap.size = W1.heap.size + 1 := by simp
      have hb1 : Below W1.heap.size W1 (W1.alloc (.cells F0 4)) := (Below.refl _ W1).alloc (Nat.le_refl _) _
      have hb2 : Below (W1.alloc (.cells F0 4)).heap.size (W1.alloc (.cells F0 4)) ((W1.alloc (.cells F0 4)).alloc (.cells #[.string nm] 9)) := (Below.refl _ _).alloc (Nat.le_refl _) _
      have hn1 := World.alloc_heap_new W1 (.cells F0 4)
      have hn2 := World.alloc_heap_new (W1.alloc (.cells F0 4)) (.cells #[.string nm] 9)
      rw [hs1] at hn2
      have HN0 := hid (show NS W1 W1.heap.size nm ps [] (fun _ => false) (.slice (some ⟨W1.heap.size + 1, 0, none⟩) 1 1) ((W1.alloc (.cells F0 4)).alloc (.cells #[.string nm] 9)) from
        ⟨hb1.trans (hb2.mono hb1.size), ⟨F0, (hb2.block _ (by omega)).trans hn1, (unhid HMK).1, (unhid HMK).2⟩, ⟨rfl, .inr ⟨W1.heap.size + 1, 1, _, rfl, Nat.le_refl _, hn2, Nat.le_refl _, by decide, rfl, rfl⟩⟩, Nat.le_refl _, found_none ps nm⟩)
      clear hs1 hb1 hb2 hn1 hn2 HMK
      generalize (W1.alloc (.cells F0 4)).alloc (.cells #[.string nm] 9) = w5 at HN0 ⊢
      go_loopw [7, 8] (fun nv i wr => ∃ (k : Nat) (rest : List ByteArray) (fnd : Nat → Bool), k ≤ (nm :: rest).length ∧ i = .int .i64 (k : Int) ∧ Hid (NS W1 W1.heap.size nm ps rest fnd nv wr) ∧ Hid (DoneS ps nm ((nm :: rest).take k) rest)) (fun _ i _ => ps.length + 1 - (intOf i).toNat)
      case atStart => exact ⟨0, [], _, Nat.zero_le _, rfl, HN0, hid (fun y hy => by cases hy)⟩
      case round =>
        clear HN0
        obtain ⟨k, rest, fnd, hk, rfl, HN, HD⟩ := hrel
        have hrl := found_len (unhid HN).state
        obtain ⟨na, nc, rfl, htx, -, hblk⟩ := ownsRow_txts (unhid HN).own
        by_cases hlt : k < (nm :: rest).length
        · obtain ⟨y, hy⟩ : ∃ y, (nm :: rest)[k]? = some y := ⟨(nm :: rest)[k], List.getElem?_eq_getElem hlt⟩
          obtain ⟨b, o, rfl, hbl, hc⟩ := htx.get (by simp)
          have c0 := hc k y hy
          have HY := hid hy
          have hys : y.size ≤ maxLen := by
            rcases List.mem_cons.1 (List.mem_of_getElem? hy) with e | hm
            · rw [e]; exact hnm
            · exact le_maxLen (names_smallN (unhid HSM) y ((unhid HN).state.in_ y hm).1)
          have hkey := Go.WideMaps.keyOf_string_mk (P := Tryz.prog) Tryz.underlying9 hys
          have HGr := hid ((unhid HG).keep (unhid HN).below)
          have HSH := hid (shuns_all (unhid HG) (unhid HN).below (unhid HZ))
          have hll : (prs 0 ps).length < maxLen := by
            have h1 := prs_len (c := 1048576) 0 ps (fun q hq => ((unhid HSM).2 q hq).needs.1)
            have h2 : ps.length * 1048576 ≤ 1048576 * 1048576 := Nat.mul_le_mul_right _ hlen
            unfold maxLen; omega
          have HLL := hid hll
          clear hy hc hbl htx hblk hys hll
          have hl2 : (k : Int) < (rest.length : Int) + 1 := by have : (nm :: rest).length = rest.length + 1 := rfl; omega
          have hzb : (prs 0 ps).length ≤ 1099511627776 := by
            have h1 := prs_len (c := 1048576) 0 ps (fun q hq => ((unhid HSM).2 q hq).needs.1)
            have h2 : ps.length * 1048576 ≤ 1048576 * 1048576 := Nat.mul_le_mul_right _ hlen
            omega
          have HZB := hid hzb
          clear hzb
          go_wp2_with (at_lookup; refine wpList_lookup_groups_shuns _ rfl _ _ 93 rfl 9 88 3 .i64 law9 Tryz.underlying93 (zeroInts _) (w3.heap.size + 1) w3.heap.size (prs 0 ps).length D rfl (unhid HGr).own (unhid HLL) _ _ rfl hkey ?_)
          intro v zs hat hoi hzl _ hsh
          have hzs := (unhid HGr).zs hat hoi
          obtain ⟨va, vc, rfl, hcz⟩ := ints_cells hoi
          have HV := hid (show zs = [] ∨ ∃ g, va = some ⟨g, 0, none⟩ ∧ g < W1.heap.size ∧ ∀ (i : Nat) z, zs[i]? = some z → W1.cell? ⟨g, i, none⟩ = some (.int .i64 z) from by
            rcases hcz with h | ⟨g, h1, h2, h3, h4⟩
            · exact .inl h
            · have h5 := hsh _ (unhid HSH) g h2
              have h6 : g < W1.heap.size := by omega
              exact .inr ⟨g, h1, h6, fun i z hi => ((unhid HN).below.cell (p := ⟨g, i, none⟩) h6).symm.trans (h4 i z hi)⟩)
          have HZS := hid hzs
          have hzl2 : zs.length ≤ 1099511627776 := Nat.le_trans hzl (unhid HZB)
          have HKL := hid hlt
          clear hat hoi hsh hcz hzs hkey c0 hzl hk hlt
          go_wp2_with fail
          go_loopw [7, 42] (fun nv t wx => ∃ (m : Nat) (rest : List ByteArray) (fnd : Nat → Bool), m ≤ zs.length ∧ t = .int .i64 (m : Int) ∧ Hid (NS W1 W1.heap.size nm ps rest fnd nv wx) ∧ Hid (DoneS ps nm ((nm :: rest).take k) rest) ∧ Hid ((nm :: rest)[k]? = some y) ∧ Hid (∀ j : Nat, j < m → ∀ (i : Nat) (p : packC.D), zs[j]? = some (i : Int) → ps[i]? = some p → PackD.name p ≠ nm → PackD.name p ∈ rest)) (fun _ t _ => zs.length - (intOf t).toNat)
          case atStart => exact ⟨0, rest, fnd, Nat.zero_le _, rfl, HN, HD, HY, hid (fun j hj => absurd hj (Nat.not_lt_zero _))⟩
          case round =>
            clear HN HD HY hrl hl2 HGr HSH HKL
            obtain ⟨m, rest, fnd, hm, rfl, HN, HD, HY, HI⟩ := hrel
            have hrl := found_len (unhid HN).state
            obtain ⟨na, nc, rfl, -, -, -⟩ := ownsRow_txts (unhid HN).own
            by_cases hlm : m < zs.length
            · obtain ⟨z, hz⟩ : ∃ z, zs[m]? = some z := ⟨zs[m], List.getElem?_eq_getElem hlm⟩
              obtain ⟨g, rfl, hgl, hgc⟩ := (unhid HV).resolve_left (by intro e; subst e; simp at hlm)
              obtain ⟨q, hq, rfl⟩ := mem_places.1 (by rw [← unhid HZS]; exact List.mem_of_getElem? hz)
              obtain ⟨q', p, hp, e0, -⟩ := mem_prs.1 hq
              rw [Nat.zero_add] at e0
              subst e0
              have d0 := ((unhid HN).below.cell (p := ⟨g, m, none⟩) hgl).trans (hgc m _ hz)
              obtain ⟨pa', pc', ev, -, -, hrow⟩ := unhid HPW
              injection ev with ea _ ec
              subst ea ec
              obtain ⟨b, o, rfl, hbl, hc⟩ := hrow.resolve_left (by intro e; subst e; simp at hp)
              obtain ⟨na2, nc2, ta2, tc2, ⟨c0, c1, c2, c3⟩, -⟩ := pack_cells (unhid HN).below hbl hc hp
              have hql : q < ps.length := (List.getElem?_eq_some_iff.1 hp).1
              obtain ⟨F, hF1, hF2, hF3⟩ := (unhid HN).found
              have f0 := cell_arrS hF1 q _ (hF3 q hql)
              have hxq := txt_iff (PackD.name p) nm
              have HZM := hid hz
              have HQ := hid hq
              have HPP := hid hp
              have hqf : q < 1048576 := by omega
              clear hz hgc hq hp hrow hc c1 c2 c3 hgl
              have same : (fnd q = true ∨ PackD.name p = nm) → Hid (∀ j : Nat, j < m + 1 → ∀ (i : Nat) (p : packC.D), zs[j]? = some (i : Int) → ps[i]? = some p → PackD.name p ≠ nm → PackD.name p ∈ rest) := fun hs => hid (fun j hj i p2 h1 h2 h3 => by
                by_cases ej : j = m
                · subst ej
                  rw [unhid HZM] at h1
                  have ei : q = i := by injection h1 with h1; omega
                  subst ei
                  rw [unhid HPP] at h2
                  cases h2
                  rcases hs with hs | hs
                  · exact ((unhid HN).state.at_ q p (unhid HPP)).1 hs
                  · exact absurd hs h3
                · exact unhid HI j (by omega) i p2 h1 h2 h3)
              have SAME := hid same
              clear same
              cases hfq : fnd q with
              | true =>
                rw [hfq] at f0
                have HI2 := (unhid SAME) (.inl hfq)
                clear hfq hF1 hF2 hF3 SAME
                go_wp2_with fail
                go_roundw
                case rel => exact ⟨m + 1, rest, fnd, by omega, by go_num, HN, HD, HY, HI2⟩
                case measure => simp [intOf]; omega
              | false =>
                rw [hfq] at f0
                by_cases hpn : PackD.name p = nm
                · have HI2 := (unhid SAME) (.inr hpn)
                  rw [decide_eq_true hpn] at hxq
                  clear hfq hF1 hF2 hF3 SAME hpn
                  go_wp2_with fail
                  go_roundw
                  case rel => exact ⟨m + 1, rest, fnd, by omega, by go_num, HN, HD, HY, HI2⟩
                  case measure => simp [intOf]; omega
                · rw [decide_eq_false hpn] at hxq
                  have HPN := hid hpn
                  have HFQ := hid hfq
                  have HF3 := hid hF3
                  have hqF : q < F.size := by omega
                  obtain ⟨f1, f2⟩ := cell_fz hF1 q _ (hF3 q hql)
                  clear hpn hfq hF3 SAME f1
                  go_upto_region 15 with fail
                  have hX6 := heap_setCell_same wr W1.heap.size q _ _ (.bool true) hF1
                  have hB6 : Below W1.heap.size wr (wr.setCell ⟨W1.heap.size, q, none⟩ (.bool true)) := (Below.refl _ wr).setCell (p := ⟨W1.heap.size, q, none⟩) (Nat.le_refl _) _
                  have hO6 := ownsRow_frameN (W' := wr.setCell ⟨W1.heap.size, q, none⟩ (.bool true)) (unhid HN).own (fun k h1 _ => Below.heap_setCell _ _ _ _ (by dsimp only; omega))
                  have hs6 : (wr.setCell ⟨W1.heap.size, q, none⟩ (.bool true)).heap.size = wr.heap.size := by simp
                  clear f0 f2 c0 d0 hF1
                  generalize wr.setCell ⟨W1.heap.size, q, none⟩ (.bool true) = w6 at hX6 hB6 hO6 hs6 ⊢
                  have hs15 := (unhid HN).below.size
                  have hx7 : (w6.alloc (.cells #[.string (PackD.name p)] 9)).cell? ⟨w6.heap.size, 0, none⟩ = some (.string (PackD.name p)) := cell_arrS (World.alloc_heap_new w6 (.cells #[.string (PackD.name p)] 9)) 0 _ rfl
                  have hb7 := (Below.refl w6.heap.size w6).alloc (Nat.le_refl _) (.cells #[.string (PackD.name p)] 9)
                  have hXl : W1.heap.size < w6.heap.size := (Array.getElem?_eq_some_iff.1 hX6).1
                  have HO7 := hid (ownsRow_belowS hO6 hb7)
                  have HX7 := hid hx7
                  have HS7 := hid (show W1.heap.size + 1 ≤ (w6.alloc (.cells #[.string (PackD.name p)] 9)).heap.size by have := hb7.size; omega)
                  have HLE := hid (show (nm :: rest).length ≤ 4294967296 by rw [List.length_cons]; omega)
                  have HB7 := hid (hB6.trans (hb7.mono (show W1.heap.size ≤ w6.heap.size by omega)))
                  have HF7 := hid ((hb7.block _ hXl).trans hX6)
                  clear hx7 hb7 hB6 hO6 hX6 hs6
                  go_wp2_with (at_builtin; refine wp_nameL rfl _ _ rfl (W1.heap.size + 1) _ (nm :: rest) (PackD.name p) _ rfl rfl (unhid HO7) (unhid HX7) (unhid HLE) (unhid HS7) ?_)
                  intro v' w8 hO8 hg8 hblk
                  have hO8 : w8.ownsRow (W1.heap.size + 1) 9 1 v' (nm :: (rest ++ [PackD.name p])).length ((nm :: (rest ++ [PackD.name p])).map Value.string) := by simpa using hO8
                  obtain ⟨za, zc, rfl, -, -, -⟩ := ownsRow_txts hO8
                  have hown := (unhid HO7).lt
                  have hfar : ∀ j, j < W1.heap.size + 1 → w8.heap[j]? = (w6.alloc (.cells #[.string (PackD.name p)] 9)).heap[j]? := fun j hj => hg8.block j (Nat.lt_of_lt_of_le hj (unhid HS7)) (fun e => by have := (hown j e.symm).1; omega)
                  have hB8 : Below W1.heap.size (w6.alloc (.cells #[.string (PackD.name p)] 9)) w8 := ⟨hg8.os, hg8.tape, hg8.output, hg8.size, fun j hj => hfar j (by omega)⟩
                  have hy : y = nm ∨ y ∈ rest := List.mem_cons.1 (List.mem_of_getElem? (unhid HY))
                  have hkl : k < (nm :: rest).length := (List.getElem?_eq_some_iff.1 (unhid HY)).1
                  have HNS := hid (show NS W1 W1.heap.size nm ps (rest ++ [PackD.name p]) (fun j => if j = q then true else fnd j) (.slice za (nm :: (rest ++ [PackD.name p])).length zc) w8 from
                    ⟨((unhid HN).below.trans (unhid HB7)).trans hB8, ⟨F.setIfInBounds q (.bool true), (hfar _ (by omega)).trans (unhid HF7), by simp [hF2], fun i hi => by
                      by_cases eq : i = q
                      · subst eq; simp [hqF]
                      · rw [Array.getElem?_setIfInBounds_ne (fun e => eq e.symm), if_neg eq]; exact unhid HF3 i hi⟩, hO8, Nat.le_refl _, found_add (unhid HND) (unhid HN).state (unhid HPP) (unhid HFQ) (unhid HPN) hy (unhid HQ)⟩)
                  have HDS := hid (show DoneS ps nm ((nm :: (rest ++ [PackD.name p])).take k) (rest ++ [PackD.name p]) by rw [cons_take _ (Nat.le_of_lt hkl)]; exact done_more (unhid HD) _)
                  have HYS := hid (show (nm :: (rest ++ [PackD.name p]))[k]? = some y by rw [← List.cons_append, List.getElem?_append_left hkl]; exact unhid HY)
                  have HIS := hid (show ∀ j : Nat, j < m + 1 → ∀ (i : Nat) (p2 : packC.D), zs[j]? = some (i : Int) → ps[i]? = some p2 → PackD.name p2 ≠ nm → PackD.name p2 ∈ rest ++ [PackD.name p] from fun j hj i p2 h1 h2 h3 => by
                    by_cases ej : j = m
                    · subst ej
                      rw [unhid HZM] at h1
                      have ei : q = i := by injection h1 with h1; omega
                      subst ei
                      rw [unhid HPP] at h2
                      cases h2
                      simp
                    · exact List.mem_append_left _ (unhid HI j (by omega) i p2 h1 h2 h3))
                  clear hO8 hg8 hblk hown hfar hB8 hy hkl HO7 HX7 HB7 HF7
                  go_wp2_with fail
                  go_roundw
                  case rel => exact ⟨m + 1, _, _, by omega, by go_num, HNS, HDS, HYS, HIS⟩
                  case measure => simp [intOf]; omega
            · have e : m = zs.length := by omega
              subst e
              have hkl : k < (nm :: rest).length := (List.getElem?_eq_some_iff.1 (unhid HY)).1
              have hkl2 : k < rest.length + 1 := hkl
              have HDS := hid (show DoneS ps nm ((nm :: rest).take (k + 1)) rest from fun y2 hy2 i p h1 h2 h3 => by
                rw [List.take_add_one, unhid HY] at hy2
                rcases List.mem_append.1 hy2 with hy2 | hy2
                · exact unhid HD y2 hy2 i p h1 h2 h3
                · have e2 : y2 = y := List.mem_singleton.1 (show y2 ∈ [y] from hy2)
                  subst e2
                  have hz : (i : Int) ∈ zs := by rw [unhid HZS]; exact mem_places.2 ⟨i, h1, rfl⟩
                  obtain ⟨j, hj⟩ := List.getElem?_of_mem hz
                  exact unhid HI j (List.getElem?_eq_some_iff.1 hj).1 i p hj h2 h3)
              clear HD HI HY
              go_wp2_with fail
              go_roundw
              case rel => exact ⟨k + 1, rest, fnd, by omega, by go_num, HN, HDS⟩
              case measure => simp [intOf]; omega
        · have hlc : (nm :: rest).length = rest.length + 1 := rfl
          have e : k = rest.length + 1 := by omega
          subst e
          have HEND := hid (found_end (unhid HN).state (by have h := unhid HD; rwa [List.take_of_length_le (by omega)] at h))
          have hno : ¬ ((rest.length : Int) + 1 < (rest.length : Int) + 1) := by omega
          obtain ⟨g, cap, cur, hv, hg, hh, hcl, -, hcs, hcur⟩ := (unhid HN).own.2.resolve_left (by rintro ⟨_, h⟩; simp at h)
          injection hv with hva _ hvc
          subst hva hvc
          have hcell : ∀ (i : Nat) x, rest[i]? = some x → cur[1 + i]? = some (.string x) := fun i x hi => by
            have hl : i < rest.length := (List.getElem?_eq_some_iff.1 hi).1
            rw [← Array.getElem?_toList, ← List.getElem?_take_of_lt (l := cur.toList) (i := 1 + i) (j := (nm :: rest).length * 1) (by omega), hcur, List.map_cons, Nat.add_comm 1 i, List.getElem?_cons_succ, List.getElem?_map, hi]; rfl
          have HH := hid hh
          have HCL := hid hcell
          have HBF := hid ((unhid HB4).trans ((unhid HN).below.mono (unhid HB4).size))
          have hgW : w.heap.size ≤ g := by have := (unhid HB4).size; omega
          clear hcur hcell hh htx hblk HD hk hlt
          by_cases hc1 : nc = 1
          · have hr0 : rest = [] := List.length_eq_zero_iff.1 (by omega)
            subst hr0
            subst hc1
            go_wp2_with fail
            refine (sh_slices_Sort_string_none _ _ _).mono ?_
            rintro x w9 ⟨rfl, rfl⟩
            go_wp2_with fail
            go_ret
            refine ⟨_, rfl, ?_, unhid HBF⟩
            unfold needers_0
            rw [if_pos (unhid E), ← unhid HEND]
            exact .inl ⟨by simp [sortT], _, _, rfl, fun e => by cases e⟩
          · go_wp2_with fail
            refine (sort_off rest g 1 (nc - 1) cur wr (by omega) (unhid HH) (by omega) (unhid HCL)).mono ?_
            rintro x w9 ⟨rfl, ⟨cur', h1, h2, h3⟩, hgr⟩
            have HR := hid (And.intro h1 (And.intro h2 (And.intro h3 hgr)))
            clear h1 h2 h3 hgr
            go_wp2_with fail
            go_ret
            obtain ⟨h1, h2, h3, hgr⟩ := unhid HR
            refine ⟨_, rfl, ?_, (unhid HBF).grown hgr (unhid HBF).size (fun j hj => by cases hj; exact hgW)⟩
            unfold needers_0
            rw [if_pos (unhid E), ← unhid HEND]
            have hsl := sortT_len rest
            exact .inr ⟨g, 1, nc - 1, cur', by rw [hsl]; rfl, hgW, h1, by omega, by omega, h3⟩
end Go.Proofs.YtoihhlkidlapmaaGreat

/- The model of Needers. -/
namespace Go.Proofs.YtoihhlkidlapmaaGreat
open Go.RowKit Go.Shelf Go.Maps Go.ChangeShapes

theorem row_op {ops : Array Oper} {Q : Exit → Act → World → Prop} {K : Act → World → Prop} {a : Act} {w : World} {o : Oper} {s x : Operand} (d base : Nat) (v : Value) (xs ys : List ByteArray) (V : Value)
    (hop : o.op = .call { callee := .builtin .append, args := #[s, x], argTypes := #[24, 24] }) (hw : Region.wanted o (yielded ops a.tmps) = true) (hd : o.dst = some d) (hs : a.eval s = v) (hx : a.eval x = V)
    (hown : w.ownsRow base 9 1 v xs.length (xs.map Value.string)) (h : rowAt txtC w V ys) (hn : xs.length + ys.length ≤ 4294967296) (hb : base ≤ w.heap.size)
    (hk : ∀ v' w', w'.ownsRow base 9 1 v' (xs ++ ys).length ((xs ++ ys).map Value.string) → w.grownBy w' v.ownBlock → K (a.put (some d) v') w') : if Region.wanted o (yielded ops a.tmps) = true then Oper.wp Tryz.prog o a w K Q else K (a.put o.dst undef) w := by
  rw [if_pos hw]
  obtain ⟨v', w', hr, h2, h3⟩ := app_row w base o.type v xs ys V hown h hn hb
  unfold Oper.wp execOp
  simp only [hop, resolve, invoke, builtin, Sem.run_bind, Sem.run_pure, Result.andThen_ok, List.map_toArray, List.map_cons, List.map_nil, hs, hx, hr]
  show K (a.put o.dst v') w'
  rw [hd]
  exact hk v' w' h2 h3
theorem own_geN {W : World} {N e size n : Nat} {v : Value} {xs : List Value} (h : W.ownsRow N e size v n xs) : ∀ k, v.ownBlock = some k → N ≤ k ∧ k < W.heap.size := fun k hk => h.lt k hk
theorem own_some {W : World} {N : Nat} {v : Value} {xs : List ByteArray} (h : W.ownsRow N 9 1 v xs.length (xs.map Value.string)) (hx : xs ≠ []) : ∃ g c, v = .slice (some ⟨g, 0, none⟩) xs.length c := by
  rcases h.2 with ⟨rfl, h0⟩ | ⟨g, cap, cur, rfl, _⟩
  · exact absurd (List.length_eq_zero_iff.1 h0) hx
  · exact ⟨g, cap, rfl⟩
theorem rowAt_part {W : World} {b o c : Nat} {xs : List ByteArray} (h : rowAt txtC W (.slice (some ⟨b, o, none⟩) xs.length c) xs) (i : Nat) (hi : i ≤ xs.length) : rowAt txtC W (.slice (some ⟨b, o, none⟩) i c) (xs.take i) ∧ (c ≠ i → rowAt txtC W (.slice (some ⟨b, o + i, none⟩) (xs.length - i) (c - i)) (xs.drop i)) ∧ (c = i → xs.drop i = []) := by
  obtain ⟨a', c', e, h1, -, h3⟩ := rowAt_txts h
  injection e with e1 _ e3
  subst e1 e3
  have hc : b < W.heap.size ∨ xs = [] := by
    rcases h1 with h1 | ⟨b', o', e, hb, _⟩
    · exact .inr h1
    · cases e; exact .inl hb
  have hcell : ∀ (i : Nat) x, xs[i]? = some x → W.cell? ⟨b, o + i, none⟩ = some (.string x) := fun i x hx => by
    rcases h1 with h1 | ⟨b', o', e, _, hc⟩
    · rw [h1] at hx; simp at hx
    · cases e; exact hc i x hx
  have hlt : (xs.take i).length = i := by rw [List.length_take]; omega
  have hld : (xs.drop i).length = xs.length - i := List.length_drop
  refine ⟨?_, fun _ => ?_, fun e => List.drop_eq_nil_iff.2 (by omega)⟩
  · have := rowAt_of_txts (W := W) (a := some ⟨b, o, none⟩) (cap := c) (xs := xs.take i) (by
      rcases hc with hc | hc
      · exact .inr ⟨b, o, rfl, hc, fun j x hj => by
          have hl := (List.getElem?_eq_some_iff.1 hj).1
          rw [hlt] at hl
          rw [List.getElem?_take_of_lt hl] at hj
          exact hcell j x hj⟩
      · exact .inl (by rw [hc, List.take_nil])) (fun e => by cases e) (by omega)
    rwa [hlt] at this
  · have := rowAt_of_txts (W := W) (a := some ⟨b, o + i, none⟩) (cap := c - i) (xs := xs.drop i) (by
      rcases hc with hc | hc
      · exact .inr ⟨b, o + i, rfl, hc, fun j x hj => by
          rw [List.getElem?_drop] at hj
          rw [Nat.add_assoc]
          exact hcell (i + j) x hj⟩
      · exact .inl (by rw [hc, List.drop_nil])) (fun e => by cases e) (by omega)
    rwa [hld] at this
theorem less_lt (x s : ByteArray) : Op.bytesLess x.toList s.toList = ltT x s := by
  unfold ltT leB
  rw [Go.Proofs.bytesLess_eq, Lib.toList_data, Lib.toList_data, ← decide_not]
  exact decide_eq_decide.2 List.not_le.symm
theorem ins_at {s : ByteArray} : ∀ {out : List ByteArray} {i : Nat}, i ≤ out.length → (∀ j x, j < i → out[j]? = some x → ltT x s = true) → (∀ x, out[i]? = some x → ltT x s = false) → insT s out = out.take i ++ [s] ++ out.drop i
  | [], i, hi, _, _ => by
    have : i = 0 := by simpa using hi
    subst this; rfl
  | y :: ys, 0, _, _, h => by
    rw [insT, h y rfl]; rfl
  | y :: ys, i + 1, hi, h1, h2 => by
    rw [insT, h1 0 y (by omega) rfl, if_pos rfl, ins_at (by simpa using hi) (fun j x hj hx => h1 (j + 1) x (by omega) hx) (fun x hx => h2 x hx)]
    rfl
theorem add_at {s : ByteArray} {out : List ByteArray} {i : Nat} (ha : AscT out) (hi : i ≤ out.length) (h1 : ∀ j x, j < i → out[j]? = some x → ltT x s = true) (h2 : ∀ x, out[i]? = some x → ltT x s = false) :
    (out[i]? = some s → addT out s = out) ∧ (out[i]? ≠ some s → addT out s = out.take i ++ [s] ++ out.drop i) := by
  refine ⟨fun h => ?_, fun h => ?_⟩
  · unfold addT; rw [if_pos (memB_yes (List.mem_of_getElem? h))]
  · have hno : s ∉ out := fun hm => by
      obtain ⟨j, hj⟩ := List.getElem?_of_mem hm
      rcases Nat.lt_trichotomy j i with hl | hl | hl
      · exact lt_ne (h1 j s hl hj) rfl
      · subst hl; exact h hj
      · have hil : i < out.length := by have := (List.getElem?_eq_some_iff.1 hj).1; omega
        have h3 := h2 out[i] (List.getElem?_eq_getElem hil)
        have hjl := (List.getElem?_eq_some_iff.1 hj).1
        have h4 : ltT out[i] out[j] = true := (List.pairwise_iff_getElem.1 ha) i j hil hjl hl
        have h5 : out[j] = s := (List.getElem?_eq_some_iff.1 hj).2
        rw [h5, h3] at h4
        cases h4
    unfold addT
    rw [if_neg (fun e => hno (memB_iff.1 e)), ins_at hi h1 h2]
set_option maxRecDepth 100000 in
set_option maxHeartbeats 16000000 in
theorem l8Add_any (out : List ByteArray) (s : ByteArray) (N ob oc : Nat) (w : World) (hn : out.length ≤ 1048576) (ha : AscT out) (hN : N ≤ w.heap.size) (h : w.ownsRow N 9 1 (.slice (some ⟨ob, 0, none⟩) out.length oc) out.length (out.map Value.string)) :
    Calls Tryz.prog 70 #[.slice (some ⟨ob, 0, none⟩) out.length oc, .string s] w fun x w' => ∃ g c, x = .returned (.slice (some ⟨g, 0, none⟩) (addT out s).length c) ∧ w'.ownsRow N 9 1 (.slice (some ⟨g, 0, none⟩) (addT out s).length c) (addT out s).length ((addT out s).map Value.string) ∧ Below w.heap.size w w' := by
  have H := hid h
  have hat := ownsRow_at h
  obtain ⟨-, -, -, ht, -, -⟩ := ownsRow_txts h
  obtain ⟨a', c', e, ht, -, hcap⟩ := rowAt_txts hat
  injection e with e1 _ e3
  subst e1 e3
  have HAT := hid hat
  have HA := hid ha
  clear h ha hat
  go_enter Tryz.func70, Tryz.ntmps70
  go_wp2_with fail
  go_loopw [5] (fun i wr => ∃ k : Nat, k ≤ out.length ∧ i = .int .i64 (k : Int) ∧ Hid (∀ j x, j < k → out[j]? = some x → ltT x s = true) ∧ wr = w) (fun i _ => out.length - (intOf i).toNat)
  case atStart => exact ⟨0, Nat.zero_le _, rfl, hid (fun j x hj => absurd hj (Nat.not_lt_zero _)), (by first | rfl | trivial)⟩
  case round =>
    obtain ⟨k, hk, rfl, HL, rfl⟩ := hrel
    by_cases hlt : k < out.length
    · obtain ⟨x, hx⟩ : ∃ x, out[k]? = some x := ⟨out[k], List.getElem?_eq_getElem hlt⟩
      obtain ⟨b', o', e, hbl, hc⟩ := ht.get (by intro e; subst e; simp at hlt)
      cases e
      have c0 := hc k x hx
      rw [Nat.zero_add] at c0
      have HX := hid hx
      have hll := less_lt x s
      have hxq := txt_iff x s
      clear hc hx
      cases hl : ltT x s with
      | true =>
        rw [hl] at hll
        have HL2 := hid (show ∀ j y, j < k + 1 → out[j]? = some y → ltT y s = true from fun j y hj hy => by
          by_cases e : j = k
          · subst e; rw [unhid HX] at hy; cases hy; exact hl
          · exact unhid HL j y (by omega) hy)
        clear hl
        go_wp2_with fail
        go_roundw
        case rel => exact ⟨k + 1, by omega, by go_num, HL2, (by first | rfl | trivial)⟩
        case measure => simp [intOf]; omega
      | false =>
        rw [hl] at hll
        obtain ⟨a1, a2⟩ := add_at (unhid HA) hk (unhid HL) (fun y hy => by rw [unhid HX] at hy; cases hy; exact hl)
        by_cases hxs : x = s
        · rw [decide_eq_true hxs] at hxq
          have e0 := a1 (by rw [unhid HX, hxs])
          have HE := hid e0
          clear hl a1 a2 hxs e0
          go_wp2_with fail
          go_ret
          refine ⟨ob, oc, by rw [unhid HE]; rfl, ?_, Below.refl _ _⟩
          rw [unhid HE]
          exact unhid H
        · rw [decide_eq_false hxs] at hxq
          have e0 := a2 (by rw [unhid HX]; intro e; injection e with e; exact hxs e)
          have HE := hid e0
          clear hl a1 a2 hxs e0
          go_wp2_with fail
          by_cases hck : oc = k
          · have hck0 : oc - k = 0 := by omega
            have hC := drew_belowS (B := wr.heap.size) wr
            refine held_begin (fun w' => Below wr.heap.size wr w') (by kernel_rfl) hC ?_
            have hba : ∀ {q : Prop}, (CW (fun w' => Below wr.heap.size wr w') → q) ↔ q := CW.all hC
            refine held_here [false, true, true, true, false, true, false, false, true, true, true] (by kernel_rfl) (by kernel_rfl) (fun _ _ _ _ _ h => h) hC ?_
            dsimp only [pick]
            repeat (go_big_quiet_step (fail))
            refine wpQuiet_nil ?_
            clear hba
            generalize wr.drew = w0 at hC ⊢
            refine held_op2 0 6 (by kernel_rfl) (by kernel_rfl) rfl rfl (fun KK hK => ?_) (fun KK hK => ?_)
            · go_simp
              have hx := World.alloc_heap_new w0 (.cells #[] 9)
              have hb : Below w0.heap.size w0 (w0.alloc (.cells #[] 9)) := (Below.refl _ w0).alloc (Nat.le_refl _) _
              have hz : w0.heap.size < (w0.alloc (.cells #[] 9)).heap.size := by simp
              have hA0 := ownsRow_lowerS (ownsRow_made0 w0) (N := wr.heap.size) (hC.size)
              have hC := hC.trans (hb.mono hC.size)
              refine hK.out _ _ hC ?_
              clear hK KK
              generalize w0.alloc (.cells #[] 9) = w1 at hx hb hz hC hA0 ⊢
              have hA := hA0
              clear hx hA0
              refine held_op2 4 6 (by kernel_rfl) (by kernel_rfl) rfl rfl (fun KK hK => ?_) (fun KK hK => ?_)
              · refine row_op 37 wr.heap.size (.slice (some ⟨w0.heap.size, 0, none⟩) 0 0) [] (out.take k) (.slice (some ⟨ob, 0, none⟩) k k) rfl (by kernel_rfl) rfl rfl rfl hA (by have h := (rowAt_part ((unhid HAT).below hC) k hk).1; rwa [hck] at h) (by rw [List.length_take]; simp; omega) hC.size (fun v4 w2 hV hg => ?_)
                rw [List.nil_append] at hV
                have hC4 : Below wr.heap.size wr w2 := hC.grown hg hC.size (fun j hj => (own_geN hA j hj).1)
                refine hK.out _ _ hC4 ?_
                simp only [Act.put, List.setIfInBounds_toArray, List.set_cons_zero, List.set_cons_succ]
                clear hK KK hA
                have hC := hC4
                clear hC4
                have hzz := hg.size
                refine held_op 6 (by kernel_rfl) (by kernel_rfl) rfl (fun KK hK => ?_)
                go_simp
                have hx := World.alloc_heap_new w2 (.cells #[.string s] 9)
                have hb : Below w2.heap.size w2 (w2.alloc (.cells #[.string s] 9)) := (Below.refl _ w2).alloc (Nat.le_refl _) _
                have hz : w2.heap.size < (w2.alloc (.cells #[.string s] 9)).heap.size := by simp
                have hC := hC.trans (hb.mono hC.size)
                refine hK.out _ _ hC ?_
                clear hK KK
                generalize w2.alloc (.cells #[.string s] 9) = w3 at hx hb hz hC ⊢
                have hS := hx
                have hV := ownsRow_belowS hV hb
                refine held_op 7 (by kernel_rfl) (by kernel_rfl) rfl (fun KK hK => ?_)
                refine name_op 40 wr.heap.size v4 (out.take k) s (w2.heap.size) rfl (by kernel_rfl) rfl rfl rfl hV (cell_arrS hS 0 _ rfl) (by rw [List.length_take]; omega) hC.size (fun v7 w7 hV7 hg7 _ => ?_)
                have hC7 : Below wr.heap.size wr w7 := hC.grown hg7 hC.size (fun j hj => (own_geN hV j hj).1)
                refine hK.out _ _ hC7 ?_
                simp only [Act.put, List.setIfInBounds_toArray, List.set_cons_zero, List.set_cons_succ]
                clear hK KK
                refine held_op 11 (by kernel_rfl) (by kernel_rfl) rfl (fun KK hK => ?_)
                refine row_op 44 wr.heap.size v7 (out.take k ++ [s]) (out.drop k) (.slice (some ⟨ob, 0, none⟩) (out.length - k) 0) rfl (by kernel_rfl) rfl rfl rfl hV7 (by rw [(rowAt_part ((unhid HAT).below hC7) k hk).2.2 hck, show out.length - k = 0 by omega]; exact rowAt_of_txts (xs := []) (.inl rfl) (fun e => by cases e) (Nat.zero_le _)) (by rw [List.length_append, List.length_take, List.length_drop, List.length_singleton]; omega) hC7.size (fun v11 w11 hV11 hg11 => ?_)
                have hC11 : Below wr.heap.size wr w11 := hC7.grown hg11 hC7.size (fun j hj => (own_geN hV7 j hj).1)
                refine hK.out _ _ hC11 ?_
                simp only [Act.put, List.setIfInBounds_toArray, List.set_cons_zero, List.set_cons_succ]
                clear hK KK
                rw [← unhid HE] at hV11
                obtain ⟨g11, c11, rfl⟩ := own_some hV11 (by rw [unhid HE]; simp)
                have HV := hid (ownsRow_lowerS hV11 hN)
                have HC := hid hC11
                clear hV11 hg11 hV7 hg7 hC7 hV hS
                have hba : ∀ {q : Prop}, (CW (fun w' => Below wr.heap.size wr w') → q) ↔ q := CW.all hC11
                refine held_here [false, false, false, false, false, false, false, false, false, false, false, false, true] (by kernel_rfl) (by kernel_rfl) (fun _ _ _ _ _ h => h) hC11 ?_
                dsimp only [pick]
                repeat (go_big_quiet_step (fail))
                refine wpQuiet_nil ?_
                clear hba
                refine held_done (by kernel_rfl) ?_
                clear hC11
                go_wp2_with fail
                go_ret
                exact ⟨g11, c11, rfl, unhid HV, unhid HC⟩
              · go_simp
                have hx := World.alloc_heap_new w1 (.cells #[.string s] 9)
                have hb : Below w1.heap.size w1 (w1.alloc (.cells #[.string s] 9)) := (Below.refl _ w1).alloc (Nat.le_refl _) _
                have hz : w1.heap.size < (w1.alloc (.cells #[.string s] 9)).heap.size := by simp
                have hC := hC.trans (hb.mono hC.size)
                refine hK.out _ _ hC ?_
                clear hK KK
                generalize w1.alloc (.cells #[.string s] 9) = w2 at hx hb hz hC ⊢
                have hS := hx
                have hA := ownsRow_belowS hA hb
                refine held_op 4 (by kernel_rfl) (by kernel_rfl) rfl (fun KK hK => ?_)
                refine row_op 37 wr.heap.size (.slice (some ⟨w0.heap.size, 0, none⟩) 0 0) [] (out.take k) (.slice (some ⟨ob, 0, none⟩) k k) rfl (by kernel_rfl) rfl rfl rfl hA (by have h := (rowAt_part ((unhid HAT).below hC) k hk).1; rwa [hck] at h) (by rw [List.length_take]; simp; omega) hC.size (fun v4 w3 hV hg => ?_)
                rw [List.nil_append] at hV
                have hC4 : Below wr.heap.size wr w3 := hC.grown hg hC.size (fun j hj => (own_geN hA j hj).1)
                have hS := (hg.block _ (Array.getElem?_eq_some_iff.1 hS).1 (by intro e; simp [Value.ownBlock] at e; omega)).trans hS
                refine hK.out _ _ hC4 ?_
                simp only [Act.put, List.setIfInBounds_toArray, List.set_cons_zero, List.set_cons_succ]
                clear hK KK hA
                have hC := hC4
                clear hC4
                have hzz := hg.size
                refine held_op 7 (by kernel_rfl) (by kernel_rfl) rfl (fun KK hK => ?_)
                refine name_op 40 wr.heap.size v4 (out.take k) s (w1.heap.size) rfl (by kernel_rfl) rfl rfl rfl hV (cell_arrS hS 0 _ rfl) (by rw [List.length_take]; omega) hC.size (fun v7 w7 hV7 hg7 _ => ?_)
                have hC7 : Below wr.heap.size wr w7 := hC.grown hg7 hC.size (fun j hj => (own_geN hV j hj).1)
                refine hK.out _ _ hC7 ?_
                simp only [Act.put, List.setIfInBounds_toArray, List.set_cons_zero, List.set_cons_succ]
                clear hK KK
                refine held_op 11 (by kernel_rfl) (by kernel_rfl) rfl (fun KK hK => ?_)
                refine row_op 44 wr.heap.size v7 (out.take k ++ [s]) (out.drop k) (.slice (some ⟨ob, 0, none⟩) (out.length - k) 0) rfl (by kernel_rfl) rfl rfl rfl hV7 (by rw [(rowAt_part ((unhid HAT).below hC7) k hk).2.2 hck, show out.length - k = 0 by omega]; exact rowAt_of_txts (xs := []) (.inl rfl) (fun e => by cases e) (Nat.zero_le _)) (by rw [List.length_append, List.length_take, List.length_drop, List.length_singleton]; omega) hC7.size (fun v11 w11 hV11 hg11 => ?_)
                have hC11 : Below wr.heap.size wr w11 := hC7.grown hg11 hC7.size (fun j hj => (own_geN hV7 j hj).1)
                refine hK.out _ _ hC11 ?_
                simp only [Act.put, List.setIfInBounds_toArray, List.set_cons_zero, List.set_cons_succ]
                clear hK KK
                rw [← unhid HE] at hV11
                obtain ⟨g11, c11, rfl⟩ := own_some hV11 (by rw [unhid HE]; simp)
                have HV := hid (ownsRow_lowerS hV11 hN)
                have HC := hid hC11
                clear hV11 hg11 hV7 hg7 hC7 hV hS
                have hba : ∀ {q : Prop}, (CW (fun w' => Below wr.heap.size wr w') → q) ↔ q := CW.all hC11
                refine held_here [false, false, false, false, false, false, false, false, false, false, false, false, true] (by kernel_rfl) (by kernel_rfl) (fun _ _ _ _ _ h => h) hC11 ?_
                dsimp only [pick]
                repeat (go_big_quiet_step (fail))
                refine wpQuiet_nil ?_
                clear hba
                refine held_done (by kernel_rfl) ?_
                clear hC11
                go_wp2_with fail
                go_ret
                exact ⟨g11, c11, rfl, unhid HV, unhid HC⟩
            · go_simp
              have hx := World.alloc_heap_new w0 (.cells #[.string s] 9)
              have hb : Below w0.heap.size w0 (w0.alloc (.cells #[.string s] 9)) := (Below.refl _ w0).alloc (Nat.le_refl _) _
              have hz : w0.heap.size < (w0.alloc (.cells #[.string s] 9)).heap.size := by simp
              have hC := hC.trans (hb.mono hC.size)
              refine hK.out _ _ hC ?_
              clear hK KK
              generalize w0.alloc (.cells #[.string s] 9) = w1 at hx hb hz hC ⊢
              have hS := hx
              clear hx
              refine held_op 0 (by kernel_rfl) (by kernel_rfl) rfl (fun KK hK => ?_)
              go_simp
              have hx := World.alloc_heap_new w1 (.cells #[] 9)
              have hb : Below w1.heap.size w1 (w1.alloc (.cells #[] 9)) := (Below.refl _ w1).alloc (Nat.le_refl _) _
              have hz : w1.heap.size < (w1.alloc (.cells #[] 9)).heap.size := by simp
              have hA0 := ownsRow_lowerS (ownsRow_made0 w1) (N := wr.heap.size) (hC.size)
              have hC := hC.trans (hb.mono hC.size)
              refine hK.out _ _ hC ?_
              clear hK KK
              generalize w1.alloc (.cells #[] 9) = w2 at hx hb hz hC hA0 ⊢
              have hA := hA0
              have hS := (hb.block _ (Array.getElem?_eq_some_iff.1 hS).1).trans hS
              refine held_op 4 (by kernel_rfl) (by kernel_rfl) rfl (fun KK hK => ?_)
              refine row_op 37 wr.heap.size (.slice (some ⟨w1.heap.size, 0, none⟩) 0 0) [] (out.take k) (.slice (some ⟨ob, 0, none⟩) k k) rfl (by kernel_rfl) rfl rfl rfl hA (by have h := (rowAt_part ((unhid HAT).below hC) k hk).1; rwa [hck] at h) (by rw [List.length_take]; simp; omega) hC.size (fun v4 w3 hV hg => ?_)
              rw [List.nil_append] at hV
              have hC4 : Below wr.heap.size wr w3 := hC.grown hg hC.size (fun j hj => (own_geN hA j hj).1)
              have hS := (hg.block _ (Array.getElem?_eq_some_iff.1 hS).1 (by intro e; simp [Value.ownBlock] at e; omega)).trans hS
              refine hK.out _ _ hC4 ?_
              simp only [Act.put, List.setIfInBounds_toArray, List.set_cons_zero, List.set_cons_succ]
              clear hK KK hA
              have hC := hC4
              clear hC4
              have hzz := hg.size
              refine held_op 7 (by kernel_rfl) (by kernel_rfl) rfl (fun KK hK => ?_)
              refine name_op 40 wr.heap.size v4 (out.take k) s (w0.heap.size) rfl (by kernel_rfl) rfl rfl rfl hV (cell_arrS hS 0 _ rfl) (by rw [List.length_take]; omega) hC.size (fun v7 w7 hV7 hg7 _ => ?_)
              have hC7 : Below wr.heap.size wr w7 := hC.grown hg7 hC.size (fun j hj => (own_geN hV j hj).1)
              refine hK.out _ _ hC7 ?_
              simp only [Act.put, List.setIfInBounds_toArray, List.set_cons_zero, List.set_cons_succ]
              clear hK KK
              refine held_op 11 (by kernel_rfl) (by kernel_rfl) rfl (fun KK hK => ?_)
              refine row_op 44 wr.heap.size v7 (out.take k ++ [s]) (out.drop k) (.slice (some ⟨ob, 0, none⟩) (out.length - k) 0) rfl (by kernel_rfl) rfl rfl rfl hV7 (by rw [(rowAt_part ((unhid HAT).below hC7) k hk).2.2 hck, show out.length - k = 0 by omega]; exact rowAt_of_txts (xs := []) (.inl rfl) (fun e => by cases e) (Nat.zero_le _)) (by rw [List.length_append, List.length_take, List.length_drop, List.length_singleton]; omega) hC7.size (fun v11 w11 hV11 hg11 => ?_)
              have hC11 : Below wr.heap.size wr w11 := hC7.grown hg11 hC7.size (fun j hj => (own_geN hV7 j hj).1)
              refine hK.out _ _ hC11 ?_
              simp only [Act.put, List.setIfInBounds_toArray, List.set_cons_zero, List.set_cons_succ]
              clear hK KK
              rw [← unhid HE] at hV11
              obtain ⟨g11, c11, rfl⟩ := own_some hV11 (by rw [unhid HE]; simp)
              have HV := hid (ownsRow_lowerS hV11 hN)
              have HC := hid hC11
              clear hV11 hg11 hV7 hg7 hC7 hV hS
              have hba : ∀ {q : Prop}, (CW (fun w' => Below wr.heap.size wr w') → q) ↔ q := CW.all hC11
              refine held_here [false, false, false, false, false, false, false, false, false, false, false, false, true] (by kernel_rfl) (by kernel_rfl) (fun _ _ _ _ _ h => h) hC11 ?_
              dsimp only [pick]
              repeat (go_big_quiet_step (fail))
              refine wpQuiet_nil ?_
              clear hba
              refine held_done (by kernel_rfl) ?_
              clear hC11
              go_wp2_with fail
              go_ret
              exact ⟨g11, c11, rfl, unhid HV, unhid HC⟩
          · have hck0 : ¬ oc - k = 0 := by omega
            have hC := drew_belowS (B := wr.heap.size) wr
            refine held_begin (fun w' => Below wr.heap.size wr w') (by kernel_rfl) hC ?_
            have hba : ∀ {q : Prop}, (CW (fun w' => Below wr.heap.size wr w') → q) ↔ q := CW.all hC
            refine held_here [false, true, true, true, false, true, false, false, true, true, true] (by kernel_rfl) (by kernel_rfl) (fun _ _ _ _ _ h => h) hC ?_
            dsimp only [pick]
            repeat (go_big_quiet_step (fail))
            refine wpQuiet_nil ?_
            clear hba
            generalize wr.drew = w0 at hC ⊢
            refine held_op2 0 6 (by kernel_rfl) (by kernel_rfl) rfl rfl (fun KK hK => ?_) (fun KK hK => ?_)
            · go_simp
              have hx := World.alloc_heap_new w0 (.cells #[] 9)
              have hb : Below w0.heap.size w0 (w0.alloc (.cells #[] 9)) := (Below.refl _ w0).alloc (Nat.le_refl _) _
              have hz : w0.heap.size < (w0.alloc (.cells #[] 9)).heap.size := by simp
              have hA0 := ownsRow_lowerS (ownsRow_made0 w0) (N := wr.heap.size) (hC.size)
              have hC := hC.trans (hb.mono hC.size)
              refine hK.out _ _ hC ?_
              clear hK KK
              generalize w0.alloc (.cells #[] 9) = w1 at hx hb hz hC hA0 ⊢
              have hA := hA0
              clear hx hA0
              refine held_op2 4 6 (by kernel_rfl) (by kernel_rfl) rfl rfl (fun KK hK => ?_) (fun KK hK => ?_)
              · refine row_op 37 wr.heap.size (.slice (some ⟨w0.heap.size, 0, none⟩) 0 0) [] (out.take k) (.slice (some ⟨ob, 0, none⟩) k oc) rfl (by kernel_rfl) rfl rfl rfl hA (rowAt_part ((unhid HAT).below hC) k hk |>.1) (by rw [List.length_take]; simp; omega) hC.size (fun v4 w2 hV hg => ?_)
                rw [List.nil_append] at hV
                have hC4 : Below wr.heap.size wr w2 := hC.grown hg hC.size (fun j hj => (own_geN hA j hj).1)
                refine hK.out _ _ hC4 ?_
                simp only [Act.put, List.setIfInBounds_toArray, List.set_cons_zero, List.set_cons_succ]
                clear hK KK hA
                have hC := hC4
                clear hC4
                have hzz := hg.size
                refine held_op 6 (by kernel_rfl) (by kernel_rfl) rfl (fun KK hK => ?_)
                go_simp
                have hx := World.alloc_heap_new w2 (.cells #[.string s] 9)
                have hb : Below w2.heap.size w2 (w2.alloc (.cells #[.string s] 9)) := (Below.refl _ w2).alloc (Nat.le_refl _) _
                have hz : w2.heap.size < (w2.alloc (.cells #[.string s] 9)).heap.size := by simp
                have hC := hC.trans (hb.mono hC.size)
                refine hK.out _ _ hC ?_
                clear hK KK
                generalize w2.alloc (.cells #[.string s] 9) = w3 at hx hb hz hC ⊢
                have hS := hx
                have hV := ownsRow_belowS hV hb
                refine held_op 7 (by kernel_rfl) (by kernel_rfl) rfl (fun KK hK => ?_)
                refine name_op 40 wr.heap.size v4 (out.take k) s (w2.heap.size) rfl (by kernel_rfl) rfl rfl rfl hV (cell_arrS hS 0 _ rfl) (by rw [List.length_take]; omega) hC.size (fun v7 w7 hV7 hg7 _ => ?_)
                have hC7 : Below wr.heap.size wr w7 := hC.grown hg7 hC.size (fun j hj => (own_geN hV j hj).1)
                refine hK.out _ _ hC7 ?_
                simp only [Act.put, List.setIfInBounds_toArray, List.set_cons_zero, List.set_cons_succ]
                clear hK KK
                refine held_op 11 (by kernel_rfl) (by kernel_rfl) rfl (fun KK hK => ?_)
                refine row_op 44 wr.heap.size v7 (out.take k ++ [s]) (out.drop k) (.slice (some ⟨ob, k, none⟩) (out.length - k) (oc - k)) rfl (by kernel_rfl) rfl rfl rfl hV7 (by have := (rowAt_part ((unhid HAT).below hC7) k hk).2.1 hck; rwa [Nat.zero_add] at this) (by rw [List.length_append, List.length_take, List.length_drop, List.length_singleton]; omega) hC7.size (fun v11 w11 hV11 hg11 => ?_)
                have hC11 : Below wr.heap.size wr w11 := hC7.grown hg11 hC7.size (fun j hj => (own_geN hV7 j hj).1)
                refine hK.out _ _ hC11 ?_
                simp only [Act.put, List.setIfInBounds_toArray, List.set_cons_zero, List.set_cons_succ]
                clear hK KK
                rw [← unhid HE] at hV11
                obtain ⟨g11, c11, rfl⟩ := own_some hV11 (by rw [unhid HE]; simp)
                have HV := hid (ownsRow_lowerS hV11 hN)
                have HC := hid hC11
                clear hV11 hg11 hV7 hg7 hC7 hV hS
                have hba : ∀ {q : Prop}, (CW (fun w' => Below wr.heap.size wr w') → q) ↔ q := CW.all hC11
                refine held_here [false, false, false, false, false, false, false, false, false, false, false, false, true] (by kernel_rfl) (by kernel_rfl) (fun _ _ _ _ _ h => h) hC11 ?_
                dsimp only [pick]
                repeat (go_big_quiet_step (fail))
                refine wpQuiet_nil ?_
                clear hba
                refine held_done (by kernel_rfl) ?_
                clear hC11
                go_wp2_with fail
                go_ret
                exact ⟨g11, c11, rfl, unhid HV, unhid HC⟩
              · go_simp
                have hx := World.alloc_heap_new w1 (.cells #[.string s] 9)
                have hb : Below w1.heap.size w1 (w1.alloc (.cells #[.string s] 9)) := (Below.refl _ w1).alloc (Nat.le_refl _) _
                have hz : w1.heap.size < (w1.alloc (.cells #[.string s] 9)).heap.size := by simp
                have hC := hC.trans (hb.mono hC.size)
                refine hK.out _ _ hC ?_
                clear hK KK
                generalize w1.alloc (.cells #[.string s] 9) = w2 at hx hb hz hC ⊢
                have hS := hx
                have hA := ownsRow_belowS hA hb
                refine held_op 4 (by kernel_rfl) (by kernel_rfl) rfl (fun KK hK => ?_)
                refine row_op 37 wr.heap.size (.slice (some ⟨w0.heap.size, 0, none⟩) 0 0) [] (out.take k) (.slice (some ⟨ob, 0, none⟩) k oc) rfl (by kernel_rfl) rfl rfl rfl hA (rowAt_part ((unhid HAT).below hC) k hk |>.1) (by rw [List.length_take]; simp; omega) hC.size (fun v4 w3 hV hg => ?_)
                rw [List.nil_append] at hV
                have hC4 : Below wr.heap.size wr w3 := hC.grown hg hC.size (fun j hj => (own_geN hA j hj).1)
                have hS := (hg.block _ (Array.getElem?_eq_some_iff.1 hS).1 (by intro e; simp [Value.ownBlock] at e; omega)).trans hS
                refine hK.out _ _ hC4 ?_
                simp only [Act.put, List.setIfInBounds_toArray, List.set_cons_zero, List.set_cons_succ]
                clear hK KK hA
                have hC := hC4
                clear hC4
                have hzz := hg.size
                refine held_op 7 (by kernel_rfl) (by kernel_rfl) rfl (fun KK hK => ?_)
                refine name_op 40 wr.heap.size v4 (out.take k) s (w1.heap.size) rfl (by kernel_rfl) rfl rfl rfl hV (cell_arrS hS 0 _ rfl) (by rw [List.length_take]; omega) hC.size (fun v7 w7 hV7 hg7 _ => ?_)
                have hC7 : Below wr.heap.size wr w7 := hC.grown hg7 hC.size (fun j hj => (own_geN hV j hj).1)
                refine hK.out _ _ hC7 ?_
                simp only [Act.put, List.setIfInBounds_toArray, List.set_cons_zero, List.set_cons_succ]
                clear hK KK
                refine held_op 11 (by kernel_rfl) (by kernel_rfl) rfl (fun KK hK => ?_)
                refine row_op 44 wr.heap.size v7 (out.take k ++ [s]) (out.drop k) (.slice (some ⟨ob, k, none⟩) (out.length - k) (oc - k)) rfl (by kernel_rfl) rfl rfl rfl hV7 (by have := (rowAt_part ((unhid HAT).below hC7) k hk).2.1 hck; rwa [Nat.zero_add] at this) (by rw [List.length_append, List.length_take, List.length_drop, List.length_singleton]; omega) hC7.size (fun v11 w11 hV11 hg11 => ?_)
                have hC11 : Below wr.heap.size wr w11 := hC7.grown hg11 hC7.size (fun j hj => (own_geN hV7 j hj).1)
                refine hK.out _ _ hC11 ?_
                simp only [Act.put, List.setIfInBounds_toArray, List.set_cons_zero, List.set_cons_succ]
                clear hK KK
                rw [← unhid HE] at hV11
                obtain ⟨g11, c11, rfl⟩ := own_some hV11 (by rw [unhid HE]; simp)
                have HV := hid (ownsRow_lowerS hV11 hN)
                have HC := hid hC11
                clear hV11 hg11 hV7 hg7 hC7 hV hS
                have hba : ∀ {q : Prop}, (CW (fun w' => Below wr.heap.size wr w') → q) ↔ q := CW.all hC11
                refine held_here [false, false, false, false, false, false, false, false, false, false, false, false, true] (by kernel_rfl) (by kernel_rfl) (fun _ _ _ _ _ h => h) hC11 ?_
                dsimp only [pick]
                repeat (go_big_quiet_step (fail))
                refine wpQuiet_nil ?_
                clear hba
                refine held_done (by kernel_rfl) ?_
                clear hC11
                go_wp2_with fail
                go_ret
                exact ⟨g11, c11, rfl, unhid HV, unhid HC⟩
            · go_simp
              have hx := World.alloc_heap_new w0 (.cells #[.string s] 9)
              have hb : Below w0.heap.size w0 (w0.alloc (.cells #[.string s] 9)) := (Below.refl _ w0).alloc (Nat.le_refl _) _
              have hz : w0.heap.size < (w0.alloc (.cells #[.string s] 9)).heap.size := by simp
              have hC := hC.trans (hb.mono hC.size)
              refine hK.out _ _ hC ?_
              clear hK KK
              generalize w0.alloc (.cells #[.string s] 9) = w1 at hx hb hz hC ⊢
              have hS := hx
              clear hx
              refine held_op 0 (by kernel_rfl) (by kernel_rfl) rfl (fun KK hK => ?_)
              go_simp
              have hx := World.alloc_heap_new w1 (.cells #[] 9)
              have hb : Below w1.heap.size w1 (w1.alloc (.cells #[] 9)) := (Below.refl _ w1).alloc (Nat.le_refl _) _
              have hz : w1.heap.size < (w1.alloc (.cells #[] 9)).heap.size := by simp
              have hA0 := ownsRow_lowerS (ownsRow_made0 w1) (N := wr.heap.size) (hC.size)
              have hC := hC.trans (hb.mono hC.size)
              refine hK.out _ _ hC ?_
              clear hK KK
              generalize w1.alloc (.cells #[] 9) = w2 at hx hb hz hC hA0 ⊢
              have hA := hA0
              have hS := (hb.block _ (Array.getElem?_eq_some_iff.1 hS).1).trans hS
              refine held_op 4 (by kernel_rfl) (by kernel_rfl) rfl (fun KK hK => ?_)
              refine row_op 37 wr.heap.size (.slice (some ⟨w1.heap.size, 0, none⟩) 0 0) [] (out.take k) (.slice (some ⟨ob, 0, none⟩) k oc) rfl (by kernel_rfl) rfl rfl rfl hA (rowAt_part ((unhid HAT).below hC) k hk |>.1) (by rw [List.length_take]; simp; omega) hC.size (fun v4 w3 hV hg => ?_)
              rw [List.nil_append] at hV
              have hC4 : Below wr.heap.size wr w3 := hC.grown hg hC.size (fun j hj => (own_geN hA j hj).1)
              have hS := (hg.block _ (Array.getElem?_eq_some_iff.1 hS).1 (by intro e; simp [Value.ownBlock] at e; omega)).trans hS
              refine hK.out _ _ hC4 ?_
              simp only [Act.put, List.setIfInBounds_toArray, List.set_cons_zero, List.set_cons_succ]
              clear hK KK hA
              have hC := hC4
              clear hC4
              have hzz := hg.size
              refine held_op 7 (by kernel_rfl) (by kernel_rfl) rfl (fun KK hK => ?_)
              refine name_op 40 wr.heap.size v4 (out.take k) s (w0.heap.size) rfl (by kernel_rfl) rfl rfl rfl hV (cell_arrS hS 0 _ rfl) (by rw [List.length_take]; omega) hC.size (fun v7 w7 hV7 hg7 _ => ?_)
              have hC7 : Below wr.heap.size wr w7 := hC.grown hg7 hC.size (fun j hj => (own_geN hV j hj).1)
              refine hK.out _ _ hC7 ?_
              simp only [Act.put, List.setIfInBounds_toArray, List.set_cons_zero, List.set_cons_succ]
              clear hK KK
              refine held_op 11 (by kernel_rfl) (by kernel_rfl) rfl (fun KK hK => ?_)
              refine row_op 44 wr.heap.size v7 (out.take k ++ [s]) (out.drop k) (.slice (some ⟨ob, k, none⟩) (out.length - k) (oc - k)) rfl (by kernel_rfl) rfl rfl rfl hV7 (by have := (rowAt_part ((unhid HAT).below hC7) k hk).2.1 hck; rwa [Nat.zero_add] at this) (by rw [List.length_append, List.length_take, List.length_drop, List.length_singleton]; omega) hC7.size (fun v11 w11 hV11 hg11 => ?_)
              have hC11 : Below wr.heap.size wr w11 := hC7.grown hg11 hC7.size (fun j hj => (own_geN hV7 j hj).1)
              refine hK.out _ _ hC11 ?_
              simp only [Act.put, List.setIfInBounds_toArray, List.set_cons_zero, List.set_cons_succ]
              clear hK KK
              rw [← unhid HE] at hV11
              obtain ⟨g11, c11, rfl⟩ := own_some hV11 (by rw [unhid HE]; simp)
              have HV := hid (ownsRow_lowerS hV11 hN)
              have HC := hid hC11
              clear hV11 hg11 hV7 hg7 hC7 hV hS
              have hba : ∀ {q : Prop}, (CW (fun w' => Below wr.heap.size wr w') → q) ↔ q := CW.all hC11
              refine held_here [false, false, false, false, false, false, false, false, false, false, false, false, true] (by kernel_rfl) (by kernel_rfl) (fun _ _ _ _ _ h => h) hC11 ?_
              dsimp only [pick]
              repeat (go_big_quiet_step (fail))
              refine wpQuiet_nil ?_
              clear hba
              refine held_done (by kernel_rfl) ?_
              clear hC11
              go_wp2_with fail
              go_ret
              exact ⟨g11, c11, rfl, unhid HV, unhid HC⟩
    · have e : k = out.length := by omega
      have HE := hid ((add_at (unhid HA) hk (unhid HL) (fun y hy => by rw [List.getElem?_eq_none (by omega)] at hy; cases hy)).2 (by rw [List.getElem?_eq_none (by omega)]; simp))
      have hnl : ¬ (k : Int) < (out.length : Int) := by omega
      clear ht e
      go_wp2_with fail
      by_cases hck : oc = k
      · have hck0 : oc - k = 0 := by omega
        have hC := drew_belowS (B := wr.heap.size) wr
        refine held_begin (fun w' => Below wr.heap.size wr w') (by kernel_rfl) hC ?_
        have hba : ∀ {q : Prop}, (CW (fun w' => Below wr.heap.size wr w') → q) ↔ q := CW.all hC
        refine held_here [false, true, true, true, false, true, false, false, true, true, true] (by kernel_rfl) (by kernel_rfl) (fun _ _ _ _ _ h => h) hC ?_
        dsimp only [pick]
        repeat (go_big_quiet_step (fail))
        refine wpQuiet_nil ?_
        clear hba
        generalize wr.drew = w0 at hC ⊢
        refine held_op2 0 6 (by kernel_rfl) (by kernel_rfl) rfl rfl (fun KK hK => ?_) (fun KK hK => ?_)
        · go_simp
          have hx := World.alloc_heap_new w0 (.cells #[] 9)
          have hb : Below w0.heap.size w0 (w0.alloc (.cells #[] 9)) := (Below.refl _ w0).alloc (Nat.le_refl _) _
          have hz : w0.heap.size < (w0.alloc (.cells #[] 9)).heap.size := by simp
          have hA0 := ownsRow_lowerS (ownsRow_made0 w0) (N := wr.heap.size) (hC.size)
          have hC := hC.trans (hb.mono hC.size)
          refine hK.out _ _ hC ?_
          clear hK KK
          generalize w0.alloc (.cells #[] 9) = w1 at hx hb hz hC hA0 ⊢
          have hA := hA0
          clear hx hA0
          refine held_op2 4 6 (by kernel_rfl) (by kernel_rfl) rfl rfl (fun KK hK => ?_) (fun KK hK => ?_)
          · refine row_op 37 wr.heap.size (.slice (some ⟨w0.heap.size, 0, none⟩) 0 0) [] (out.take k) (.slice (some ⟨ob, 0, none⟩) k k) rfl (by kernel_rfl) rfl rfl rfl hA (by have h := (rowAt_part ((unhid HAT).below hC) k hk).1; rwa [hck] at h) (by rw [List.length_take]; simp; omega) hC.size (fun v4 w2 hV hg => ?_)
            rw [List.nil_append] at hV
            have hC4 : Below wr.heap.size wr w2 := hC.grown hg hC.size (fun j hj => (own_geN hA j hj).1)
            refine hK.out _ _ hC4 ?_
            simp only [Act.put, List.setIfInBounds_toArray, List.set_cons_zero, List.set_cons_succ]
            clear hK KK hA
            have hC := hC4
            clear hC4
            have hzz := hg.size
            refine held_op 6 (by kernel_rfl) (by kernel_rfl) rfl (fun KK hK => ?_)
            go_simp
            have hx := World.alloc_heap_new w2 (.cells #[.string s] 9)
            have hb : Below w2.heap.size w2 (w2.alloc (.cells #[.string s] 9)) := (Below.refl _ w2).alloc (Nat.le_refl _) _
            have hz : w2.heap.size < (w2.alloc (.cells #[.string s] 9)).heap.size := by simp
            have hC := hC.trans (hb.mono hC.size)
            refine hK.out _ _ hC ?_
            clear hK KK
            generalize w2.alloc (.cells #[.string s] 9) = w3 at hx hb hz hC ⊢
            have hS := hx
            have hV := ownsRow_belowS hV hb
            refine held_op 7 (by kernel_rfl) (by kernel_rfl) rfl (fun KK hK => ?_)
            refine name_op 40 wr.heap.size v4 (out.take k) s (w2.heap.size) rfl (by kernel_rfl) rfl rfl rfl hV (cell_arrS hS 0 _ rfl) (by rw [List.length_take]; omega) hC.size (fun v7 w7 hV7 hg7 _ => ?_)
            have hC7 : Below wr.heap.size wr w7 := hC.grown hg7 hC.size (fun j hj => (own_geN hV j hj).1)
            refine hK.out _ _ hC7 ?_
            simp only [Act.put, List.setIfInBounds_toArray, List.set_cons_zero, List.set_cons_succ]
            clear hK KK
            refine held_op 11 (by kernel_rfl) (by kernel_rfl) rfl (fun KK hK => ?_)
            refine row_op 44 wr.heap.size v7 (out.take k ++ [s]) (out.drop k) (.slice (some ⟨ob, 0, none⟩) (out.length - k) 0) rfl (by kernel_rfl) rfl rfl rfl hV7 (by rw [(rowAt_part ((unhid HAT).below hC7) k hk).2.2 hck, show out.length - k = 0 by omega]; exact rowAt_of_txts (xs := []) (.inl rfl) (fun e => by cases e) (Nat.zero_le _)) (by rw [List.length_append, List.length_take, List.length_drop, List.length_singleton]; omega) hC7.size (fun v11 w11 hV11 hg11 => ?_)
            have hC11 : Below wr.heap.size wr w11 := hC7.grown hg11 hC7.size (fun j hj => (own_geN hV7 j hj).1)
            refine hK.out _ _ hC11 ?_
            simp only [Act.put, List.setIfInBounds_toArray, List.set_cons_zero, List.set_cons_succ]
            clear hK KK
            rw [← unhid HE] at hV11
            obtain ⟨g11, c11, rfl⟩ := own_some hV11 (by rw [unhid HE]; simp)
            have HV := hid (ownsRow_lowerS hV11 hN)
            have HC := hid hC11
            clear hV11 hg11 hV7 hg7 hC7 hV hS
            have hba : ∀ {q : Prop}, (CW (fun w' => Below wr.heap.size wr w') → q) ↔ q := CW.all hC11
            refine held_here [false, false, false, false, false, false, false, false, false, false, false, false, true] (by kernel_rfl) (by kernel_rfl) (fun _ _ _ _ _ h => h) hC11 ?_
            dsimp only [pick]
            repeat (go_big_quiet_step (fail))
            refine wpQuiet_nil ?_
            clear hba
            refine held_done (by kernel_rfl) ?_
            clear hC11
            go_wp2_with fail
            go_ret
            exact ⟨g11, c11, rfl, unhid HV, unhid HC⟩
          · go_simp
            have hx := World.alloc_heap_new w1 (.cells #[.string s] 9)
            have hb : Below w1.heap.size w1 (w1.alloc (.cells #[.string s] 9)) := (Below.refl _ w1).alloc (Nat.le_refl _) _
            have hz : w1.heap.size < (w1.alloc (.cells #[.string s] 9)).heap.size := by simp
            have hC := hC.trans (hb.mono hC.size)
            refine hK.out _ _ hC ?_
            clear hK KK
            generalize w1.alloc (.cells #[.string s] 9) = w2 at hx hb hz hC ⊢
            have hS := hx
            have hA := ownsRow_belowS hA hb
            refine held_op 4 (by kernel_rfl) (by kernel_rfl) rfl (fun KK hK => ?_)
            refine row_op 37 wr.heap.size (.slice (some ⟨w0.heap.size, 0, none⟩) 0 0) [] (out.take k) (.slice (some ⟨ob, 0, none⟩) k k) rfl (by kernel_rfl) rfl rfl rfl hA (by have h := (rowAt_part ((unhid HAT).below hC) k hk).1; rwa [hck] at h) (by rw [List.length_take]; simp; omega) hC.size (fun v4 w3 hV hg => ?_)
            rw [List.nil_append] at hV
            have hC4 : Below wr.heap.size wr w3 := hC.grown hg hC.size (fun j hj => (own_geN hA j hj).1)
            have hS := (hg.block _ (Array.getElem?_eq_some_iff.1 hS).1 (by intro e; simp [Value.ownBlock] at e; omega)).trans hS
            refine hK.out _ _ hC4 ?_
            simp only [Act.put, List.setIfInBounds_toArray, List.set_cons_zero, List.set_cons_succ]
            clear hK KK hA
            have hC := hC4
            clear hC4
            have hzz := hg.size
            refine held_op 7 (by kernel_rfl) (by kernel_rfl) rfl (fun KK hK => ?_)
            refine name_op 40 wr.heap.size v4 (out.take k) s (w1.heap.size) rfl (by kernel_rfl) rfl rfl rfl hV (cell_arrS hS 0 _ rfl) (by rw [List.length_take]; omega) hC.size (fun v7 w7 hV7 hg7 _ => ?_)
            have hC7 : Below wr.heap.size wr w7 := hC.grown hg7 hC.size (fun j hj => (own_geN hV j hj).1)
            refine hK.out _ _ hC7 ?_
            simp only [Act.put, List.setIfInBounds_toArray, List.set_cons_zero, List.set_cons_succ]
            clear hK KK
            refine held_op 11 (by kernel_rfl) (by kernel_rfl) rfl (fun KK hK => ?_)
            refine row_op 44 wr.heap.size v7 (out.take k ++ [s]) (out.drop k) (.slice (some ⟨ob, 0, none⟩) (out.length - k) 0) rfl (by kernel_rfl) rfl rfl rfl hV7 (by rw [(rowAt_part ((unhid HAT).below hC7) k hk).2.2 hck, show out.length - k = 0 by omega]; exact rowAt_of_txts (xs := []) (.inl rfl) (fun e => by cases e) (Nat.zero_le _)) (by rw [List.length_append, List.length_take, List.length_drop, List.length_singleton]; omega) hC7.size (fun v11 w11 hV11 hg11 => ?_)
            have hC11 : Below wr.heap.size wr w11 := hC7.grown hg11 hC7.size (fun j hj => (own_geN hV7 j hj).1)
            refine hK.out _ _ hC11 ?_
            simp only [Act.put, List.setIfInBounds_toArray, List.set_cons_zero, List.set_cons_succ]
            clear hK KK
            rw [← unhid HE] at hV11
            obtain ⟨g11, c11, rfl⟩ := own_some hV11 (by rw [unhid HE]; simp)
            have HV := hid (ownsRow_lowerS hV11 hN)
            have HC := hid hC11
            clear hV11 hg11 hV7 hg7 hC7 hV hS
            have hba : ∀ {q : Prop}, (CW (fun w' => Below wr.heap.size wr w') → q) ↔ q := CW.all hC11
            refine held_here [false, false, false, false, false, false, false, false, false, false, false, false, true] (by kernel_rfl) (by kernel_rfl) (fun _ _ _ _ _ h => h) hC11 ?_
            dsimp only [pick]
            repeat (go_big_quiet_step (fail))
            refine wpQuiet_nil ?_
            clear hba
            refine held_done (by kernel_rfl) ?_
            clear hC11
            go_wp2_with fail
            go_ret
            exact ⟨g11, c11, rfl, unhid HV, unhid HC⟩
        · go_simp
          have hx := World.alloc_heap_new w0 (.cells #[.string s] 9)
          have hb : Below w0.heap.size w0 (w0.alloc (.cells #[.string s] 9)) := (Below.refl _ w0).alloc (Nat.le_refl _) _
          have hz : w0.heap.size < (w0.alloc (.cells #[.string s] 9)).heap.size := by simp
          have hC := hC.trans (hb.mono hC.size)
          refine hK.out _ _ hC ?_
          clear hK KK
          generalize w0.alloc (.cells #[.string s] 9) = w1 at hx hb hz hC ⊢
          have hS := hx
          clear hx
          refine held_op 0 (by kernel_rfl) (by kernel_rfl) rfl (fun KK hK => ?_)
          go_simp
          have hx := World.alloc_heap_new w1 (.cells #[] 9)
          have hb : Below w1.heap.size w1 (w1.alloc (.cells #[] 9)) := (Below.refl _ w1).alloc (Nat.le_refl _) _
          have hz : w1.heap.size < (w1.alloc (.cells #[] 9)).heap.size := by simp
          have hA0 := ownsRow_lowerS (ownsRow_made0 w1) (N := wr.heap.size) (hC.size)
          have hC := hC.trans (hb.mono hC.size)
          refine hK.out _ _ hC ?_
          clear hK KK
          generalize w1.alloc (.cells #[] 9) = w2 at hx hb hz hC hA0 ⊢
          have hA := hA0
          have hS := (hb.block _ (Array.getElem?_eq_some_iff.1 hS).1).trans hS
          refine held_op 4 (by kernel_rfl) (by kernel_rfl) rfl (fun KK hK => ?_)
          refine row_op 37 wr.heap.size (.slice (some ⟨w1.heap.size, 0, none⟩) 0 0) [] (out.take k) (.slice (some ⟨ob, 0, none⟩) k k) rfl (by kernel_rfl) rfl rfl rfl hA (by have h := (rowAt_part ((unhid HAT).below hC) k hk).1; rwa [hck] at h) (by rw [List.length_take]; simp; omega) hC.size (fun v4 w3 hV hg => ?_)
          rw [List.nil_append] at hV
          have hC4 : Below wr.heap.size wr w3 := hC.grown hg hC.size (fun j hj => (own_geN hA j hj).1)
          have hS := (hg.block _ (Array.getElem?_eq_some_iff.1 hS).1 (by intro e; simp [Value.ownBlock] at e; omega)).trans hS
          refine hK.out _ _ hC4 ?_
          simp only [Act.put, List.setIfInBounds_toArray, List.set_cons_zero, List.set_cons_succ]
          clear hK KK hA
          have hC := hC4
          clear hC4
          have hzz := hg.size
          refine held_op 7 (by kernel_rfl) (by kernel_rfl) rfl (fun KK hK => ?_)
          refine name_op 40 wr.heap.size v4 (out.take k) s (w0.heap.size) rfl (by kernel_rfl) rfl rfl rfl hV (cell_arrS hS 0 _ rfl) (by rw [List.length_take]; omega) hC.size (fun v7 w7 hV7 hg7 _ => ?_)
          have hC7 : Below wr.heap.size wr w7 := hC.grown hg7 hC.size (fun j hj => (own_geN hV j hj).1)
          refine hK.out _ _ hC7 ?_
          simp only [Act.put, List.setIfInBounds_toArray, List.set_cons_zero, List.set_cons_succ]
          clear hK KK
          refine held_op 11 (by kernel_rfl) (by kernel_rfl) rfl (fun KK hK => ?_)
          refine row_op 44 wr.heap.size v7 (out.take k ++ [s]) (out.drop k) (.slice (some ⟨ob, 0, none⟩) (out.length - k) 0) rfl (by kernel_rfl) rfl rfl rfl hV7 (by rw [(rowAt_part ((unhid HAT).below hC7) k hk).2.2 hck, show out.length - k = 0 by omega]; exact rowAt_of_txts (xs := []) (.inl rfl) (fun e => by cases e) (Nat.zero_le _)) (by rw [List.length_append, List.length_take, List.length_drop, List.length_singleton]; omega) hC7.size (fun v11 w11 hV11 hg11 => ?_)
          have hC11 : Below wr.heap.size wr w11 := hC7.grown hg11 hC7.size (fun j hj => (own_geN hV7 j hj).1)
          refine hK.out _ _ hC11 ?_
          simp only [Act.put, List.setIfInBounds_toArray, List.set_cons_zero, List.set_cons_succ]
          clear hK KK
          rw [← unhid HE] at hV11
          obtain ⟨g11, c11, rfl⟩ := own_some hV11 (by rw [unhid HE]; simp)
          have HV := hid (ownsRow_lowerS hV11 hN)
          have HC := hid hC11
          clear hV11 hg11 hV7 hg7 hC7 hV hS
          have hba : ∀ {q : Prop}, (CW (fun w' => Below wr.heap.size wr w') → q) ↔ q := CW.all hC11
          refine held_here [false, false, false, false, false, false, false, false, false, false, false, false, true] (by kernel_rfl) (by kernel_rfl) (fun _ _ _ _ _ h => h) hC11 ?_
          dsimp only [pick]
          repeat (go_big_quiet_step (fail))
          refine wpQuiet_nil ?_
          clear hba
          refine held_done (by kernel_rfl) ?_
          clear hC11
          go_wp2_with fail
          go_ret
          exact ⟨g11, c11, rfl, unhid HV, unhid HC⟩
      · have hck0 : ¬ oc - k = 0 := by omega
        have hC := drew_belowS (B := wr.heap.size) wr
        refine held_begin (fun w' => Below wr.heap.size wr w') (by kernel_rfl) hC ?_
        have hba : ∀ {q : Prop}, (CW (fun w' => Below wr.heap.size wr w') → q) ↔ q := CW.all hC
        refine held_here [false, true, true, true, false, true, false, false, true, true, true] (by kernel_rfl) (by kernel_rfl) (fun _ _ _ _ _ h => h) hC ?_
        dsimp only [pick]
        repeat (go_big_quiet_step (fail))
        refine wpQuiet_nil ?_
        clear hba
        generalize wr.drew = w0 at hC ⊢
        refine held_op2 0 6 (by kernel_rfl) (by kernel_rfl) rfl rfl (fun KK hK => ?_) (fun KK hK => ?_)
        · go_simp
          have hx := World.alloc_heap_new w0 (.cells #[] 9)
          have hb : Below w0.heap.size w0 (w0.alloc (.cells #[] 9)) := (Below.refl _ w0).alloc (Nat.le_refl _) _
          have hz : w0.heap.size < (w0.alloc (.cells #[] 9)).heap.size := by simp
          have hA0 := ownsRow_lowerS (ownsRow_made0 w0) (N := wr.heap.size) (hC.size)
          have hC := hC.trans (hb.mono hC.size)
          refine hK.out _ _ hC ?_
          clear hK KK
          generalize w0.alloc (.cells #[] 9) = w1 at hx hb hz hC hA0 ⊢
          have hA := hA0
          clear hx hA0
          refine held_op2 4 6 (by kernel_rfl) (by kernel_rfl) rfl rfl (fun KK hK => ?_) (fun KK hK => ?_)
          · refine row_op 37 wr.heap.size (.slice (some ⟨w0.heap.size, 0, none⟩) 0 0) [] (out.take k) (.slice (some ⟨ob, 0, none⟩) k oc) rfl (by kernel_rfl) rfl rfl rfl hA (rowAt_part ((unhid HAT).below hC) k hk |>.1) (by rw [List.length_take]; simp; omega) hC.size (fun v4 w2 hV hg => ?_)
            rw [List.nil_append] at hV
            have hC4 : Below wr.heap.size wr w2 := hC.grown hg hC.size (fun j hj => (own_geN hA j hj).1)
            refine hK.out _ _ hC4 ?_
            simp only [Act.put, List.setIfInBounds_toArray, List.set_cons_zero, List.set_cons_succ]
            clear hK KK hA
            have hC := hC4
            clear hC4
            have hzz := hg.size
            refine held_op 6 (by kernel_rfl) (by kernel_rfl) rfl (fun KK hK => ?_)
            go_simp
            have hx := World.alloc_heap_new w2 (.cells #[.string s] 9)
            have hb : Below w2.heap.size w2 (w2.alloc (.cells #[.string s] 9)) := (Below.refl _ w2).alloc (Nat.le_refl _) _
            have hz : w2.heap.size < (w2.alloc (.cells #[.string s] 9)).heap.size := by simp
            have hC := hC.trans (hb.mono hC.size)
            refine hK.out _ _ hC ?_
            clear hK KK
            generalize w2.alloc (.cells #[.string s] 9) = w3 at hx hb hz hC ⊢
            have hS := hx
            have hV := ownsRow_belowS hV hb
            refine held_op 7 (by kernel_rfl) (by kernel_rfl) rfl (fun KK hK => ?_)
            refine name_op 40 wr.heap.size v4 (out.take k) s (w2.heap.size) rfl (by kernel_rfl) rfl rfl rfl hV (cell_arrS hS 0 _ rfl) (by rw [List.length_take]; omega) hC.size (fun v7 w7 hV7 hg7 _ => ?_)
            have hC7 : Below wr.heap.size wr w7 := hC.grown hg7 hC.size (fun j hj => (own_geN hV j hj).1)
            refine hK.out _ _ hC7 ?_
            simp only [Act.put, List.setIfInBounds_toArray, List.set_cons_zero, List.set_cons_succ]
            clear hK KK
            refine held_op 11 (by kernel_rfl) (by kernel_rfl) rfl (fun KK hK => ?_)
            refine row_op 44 wr.heap.size v7 (out.take k ++ [s]) (out.drop k) (.slice (some ⟨ob, k, none⟩) (out.length - k) (oc - k)) rfl (by kernel_rfl) rfl rfl rfl hV7 (by have := (rowAt_part ((unhid HAT).below hC7) k hk).2.1 hck; rwa [Nat.zero_add] at this) (by rw [List.length_append, List.length_take, List.length_drop, List.length_singleton]; omega) hC7.size (fun v11 w11 hV11 hg11 => ?_)
            have hC11 : Below wr.heap.size wr w11 := hC7.grown hg11 hC7.size (fun j hj => (own_geN hV7 j hj).1)
            refine hK.out _ _ hC11 ?_
            simp only [Act.put, List.setIfInBounds_toArray, List.set_cons_zero, List.set_cons_succ]
            clear hK KK
            rw [← unhid HE] at hV11
            obtain ⟨g11, c11, rfl⟩ := own_some hV11 (by rw [unhid HE]; simp)
            have HV := hid (ownsRow_lowerS hV11 hN)
            have HC := hid hC11
            clear hV11 hg11 hV7 hg7 hC7 hV hS
            have hba : ∀ {q : Prop}, (CW (fun w' => Below wr.heap.size wr w') → q) ↔ q := CW.all hC11
            refine held_here [false, false, false, false, false, false, false, false, false, false, false, false, true] (by kernel_rfl) (by kernel_rfl) (fun _ _ _ _ _ h => h) hC11 ?_
            dsimp only [pick]
            repeat (go_big_quiet_step (fail))
            refine wpQuiet_nil ?_
            clear hba
            refine held_done (by kernel_rfl) ?_
            clear hC11
            go_wp2_with fail
            go_ret
            exact ⟨g11, c11, rfl, unhid HV, unhid HC⟩
          · go_simp
            have hx := World.alloc_heap_new w1 (.cells #[.string s] 9)
            have hb : Below w1.heap.size w1 (w1.alloc (.cells #[.string s] 9)) := (Below.refl _ w1).alloc (Nat.le_refl _) _
            have hz : w1.heap.size < (w1.alloc (.cells #[.string s] 9)).heap.size := by simp
            have hC := hC.trans (hb.mono hC.size)
            refine hK.out _ _ hC ?_
            clear hK KK
            generalize w1.alloc (.cells #[.string s] 9) = w2 at hx hb hz hC ⊢
            have hS := hx
            have hA := ownsRow_belowS hA hb
            refine held_op 4 (by kernel_rfl) (by kernel_rfl) rfl (fun KK hK => ?_)
            refine row_op 37 wr.heap.size (.slice (some ⟨w0.heap.size, 0, none⟩) 0 0) [] (out.take k) (.slice (some ⟨ob, 0, none⟩) k oc) rfl (by kernel_rfl) rfl rfl rfl hA (rowAt_part ((unhid HAT).below hC) k hk |>.1) (by rw [List.length_take]; simp; omega) hC.size (fun v4 w3 hV hg => ?_)
            rw [List.nil_append] at hV
            have hC4 : Below wr.heap.size wr w3 := hC.grown hg hC.size (fun j hj => (own_geN hA j hj).1)
            have hS := (hg.block _ (Array.getElem?_eq_some_iff.1 hS).1 (by intro e; simp [Value.ownBlock] at e; omega)).trans hS
            refine hK.out _ _ hC4 ?_
            simp only [Act.put, List.setIfInBounds_toArray, List.set_cons_zero, List.set_cons_succ]
            clear hK KK hA
            have hC := hC4
            clear hC4
            have hzz := hg.size
            refine held_op 7 (by kernel_rfl) (by kernel_rfl) rfl (fun KK hK => ?_)
            refine name_op 40 wr.heap.size v4 (out.take k) s (w1.heap.size) rfl (by kernel_rfl) rfl rfl rfl hV (cell_arrS hS 0 _ rfl) (by rw [List.length_take]; omega) hC.size (fun v7 w7 hV7 hg7 _ => ?_)
            have hC7 : Below wr.heap.size wr w7 := hC.grown hg7 hC.size (fun j hj => (own_geN hV j hj).1)
            refine hK.out _ _ hC7 ?_
            simp only [Act.put, List.setIfInBounds_toArray, List.set_cons_zero, List.set_cons_succ]
            clear hK KK
            refine held_op 11 (by kernel_rfl) (by kernel_rfl) rfl (fun KK hK => ?_)
            refine row_op 44 wr.heap.size v7 (out.take k ++ [s]) (out.drop k) (.slice (some ⟨ob, k, none⟩) (out.length - k) (oc - k)) rfl (by kernel_rfl) rfl rfl rfl hV7 (by have := (rowAt_part ((unhid HAT).below hC7) k hk).2.1 hck; rwa [Nat.zero_add] at this) (by rw [List.length_append, List.length_take, List.length_drop, List.length_singleton]; omega) hC7.size (fun v11 w11 hV11 hg11 => ?_)
            have hC11 : Below wr.heap.size wr w11 := hC7.grown hg11 hC7.size (fun j hj => (own_geN hV7 j hj).1)
            refine hK.out _ _ hC11 ?_
            simp only [Act.put, List.setIfInBounds_toArray, List.set_cons_zero, List.set_cons_succ]
            clear hK KK
            rw [← unhid HE] at hV11
            obtain ⟨g11, c11, rfl⟩ := own_some hV11 (by rw [unhid HE]; simp)
            have HV := hid (ownsRow_lowerS hV11 hN)
            have HC := hid hC11
            clear hV11 hg11 hV7 hg7 hC7 hV hS
            have hba : ∀ {q : Prop}, (CW (fun w' => Below wr.heap.size wr w') → q) ↔ q := CW.all hC11
            refine held_here [false, false, false, false, false, false, false, false, false, false, false, false, true] (by kernel_rfl) (by kernel_rfl) (fun _ _ _ _ _ h => h) hC11 ?_
            dsimp only [pick]
            repeat (go_big_quiet_step (fail))
            refine wpQuiet_nil ?_
            clear hba
            refine held_done (by kernel_rfl) ?_
            clear hC11
            go_wp2_with fail
            go_ret
            exact ⟨g11, c11, rfl, unhid HV, unhid HC⟩
        · go_simp
          have hx := World.alloc_heap_new w0 (.cells #[.string s] 9)
          have hb : Below w0.heap.size w0 (w0.alloc (.cells #[.string s] 9)) := (Below.refl _ w0).alloc (Nat.le_refl _) _
          have hz : w0.heap.size < (w0.alloc (.cells #[.string s] 9)).heap.size := by simp
          have hC := hC.trans (hb.mono hC.size)
          refine hK.out _ _ hC ?_
          clear hK KK
          generalize w0.alloc (.cells #[.string s] 9) = w1 at hx hb hz hC ⊢
          have hS := hx
          clear hx
          refine held_op 0 (by kernel_rfl) (by kernel_rfl) rfl (fun KK hK => ?_)
          go_simp
          have hx := World.alloc_heap_new w1 (.cells #[] 9)
          have hb : Below w1.heap.size w1 (w1.alloc (.cells #[] 9)) := (Below.refl _ w1).alloc (Nat.le_refl _) _
          have hz : w1.heap.size < (w1.alloc (.cells #[] 9)).heap.size := by simp
          have hA0 := ownsRow_lowerS (ownsRow_made0 w1) (N := wr.heap.size) (hC.size)
          have hC := hC.trans (hb.mono hC.size)
          refine hK.out _ _ hC ?_
          clear hK KK
          generalize w1.alloc (.cells #[] 9) = w2 at hx hb hz hC hA0 ⊢
          have hA := hA0
          have hS := (hb.block _ (Array.getElem?_eq_some_iff.1 hS).1).trans hS
          refine held_op 4 (by kernel_rfl) (by kernel_rfl) rfl (fun KK hK => ?_)
          refine row_op 37 wr.heap.size (.slice (some ⟨w1.heap.size, 0, none⟩) 0 0) [] (out.take k) (.slice (some ⟨ob, 0, none⟩) k oc) rfl (by kernel_rfl) rfl rfl rfl hA (rowAt_part ((unhid HAT).below hC) k hk |>.1) (by rw [List.length_take]; simp; omega) hC.size (fun v4 w3 hV hg => ?_)
          rw [List.nil_append] at hV
          have hC4 : Below wr.heap.size wr w3 := hC.grown hg hC.size (fun j hj => (own_geN hA j hj).1)
          have hS := (hg.block _ (Array.getElem?_eq_some_iff.1 hS).1 (by intro e; simp [Value.ownBlock] at e; omega)).trans hS
          refine hK.out _ _ hC4 ?_
          simp only [Act.put, List.setIfInBounds_toArray, List.set_cons_zero, List.set_cons_succ]
          clear hK KK hA
          have hC := hC4
          clear hC4
          have hzz := hg.size
          refine held_op 7 (by kernel_rfl) (by kernel_rfl) rfl (fun KK hK => ?_)
          refine name_op 40 wr.heap.size v4 (out.take k) s (w0.heap.size) rfl (by kernel_rfl) rfl rfl rfl hV (cell_arrS hS 0 _ rfl) (by rw [List.length_take]; omega) hC.size (fun v7 w7 hV7 hg7 _ => ?_)
          have hC7 : Below wr.heap.size wr w7 := hC.grown hg7 hC.size (fun j hj => (own_geN hV j hj).1)
          refine hK.out _ _ hC7 ?_
          simp only [Act.put, List.setIfInBounds_toArray, List.set_cons_zero, List.set_cons_succ]
          clear hK KK
          refine held_op 11 (by kernel_rfl) (by kernel_rfl) rfl (fun KK hK => ?_)
          refine row_op 44 wr.heap.size v7 (out.take k ++ [s]) (out.drop k) (.slice (some ⟨ob, k, none⟩) (out.length - k) (oc - k)) rfl (by kernel_rfl) rfl rfl rfl hV7 (by have := (rowAt_part ((unhid HAT).below hC7) k hk).2.1 hck; rwa [Nat.zero_add] at this) (by rw [List.length_append, List.length_take, List.length_drop, List.length_singleton]; omega) hC7.size (fun v11 w11 hV11 hg11 => ?_)
          have hC11 : Below wr.heap.size wr w11 := hC7.grown hg11 hC7.size (fun j hj => (own_geN hV7 j hj).1)
          refine hK.out _ _ hC11 ?_
          simp only [Act.put, List.setIfInBounds_toArray, List.set_cons_zero, List.set_cons_succ]
          clear hK KK
          rw [← unhid HE] at hV11
          obtain ⟨g11, c11, rfl⟩ := own_some hV11 (by rw [unhid HE]; simp)
          have HV := hid (ownsRow_lowerS hV11 hN)
          have HC := hid hC11
          clear hV11 hg11 hV7 hg7 hC7 hV hS
          have hba : ∀ {q : Prop}, (CW (fun w' => Below wr.heap.size wr w') → q) ↔ q := CW.all hC11
          refine held_here [false, false, false, false, false, false, false, false, false, false, false, false, true] (by kernel_rfl) (by kernel_rfl) (fun _ _ _ _ _ h => h) hC11 ?_
          dsimp only [pick]
          repeat (go_big_quiet_step (fail))
          refine wpQuiet_nil ?_
          clear hba
          refine held_done (by kernel_rfl) ?_
          clear hC11
          go_wp2_with fail
          go_ret
          exact ⟨g11, c11, rfl, unhid HV, unhid HC⟩
end Go.Proofs.YtoihhlkidlapmaaGreat
