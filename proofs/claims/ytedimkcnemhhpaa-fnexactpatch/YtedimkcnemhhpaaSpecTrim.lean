/- Blank lines taken off a hunk; lines looked for; by the model. -/
import Derived.Test.YtedimkcnemhhpaaPatchM
import Derived.Deep.CutBlock
namespace Go.Proofs.Ytedimkcnemhhpaa
open Go.RowKit Go.Shelf

theorem new_with {xs : List ByteArray} (h : ∀ x ∈ xs, hkLineB x.data.toList = true) : oldX 45 xs = withX 43 xs := by
  unfold oldX withX
  refine filterMap_eqX fun x hx => ?_
  have := h x hx
  unfold cutX
  cases hl : x.data.toList with
  | nil => rw [hl] at this; cases this
  | cons d t =>
    rw [hl] at this
    simp only [hkLineB, signB, Bool.and_eq_true, Bool.or_eq_true, beq_iff_eq] at this
    rcases this.1 with (h1 | h1) | h1
    · obtain rfl : d = 32 := UInt8.toNat_inj.1 (by show _ = 32; omega)
      rfl
    · obtain rfl : d = 45 := UInt8.toNat_inj.1 (by show _ = 45; omega)
      rfl
    · obtain rfl : d = 43 := UInt8.toNat_inj.1 (by show _ = 43; omega)
      rfl

set_option maxRecDepth 100000 in
set_option maxHeartbeats 2000000 in
theorem l5New_any (h : Hk) (la : Option Addr) (cap : Nat) (w : World) (hlen : h.lines.length ≤ 1048576) (hz : ∀ x ∈ h.lines, 0 < x.size ∧ x.size ≤ maxLen) (ht : TxtsAt w la h.lines) :
    Calls Try.prog 62 #[.agg #[.int .i64 h.at_, .slice la h.lines.length cap]] w fun e w' => ∃ v, e = .returned v ∧ w'.ownsRow w.heap.size 9 1 v (oldX 45 h.lines).length ((oldX 45 h.lines).map Value.string) ∧ Below w.heap.size w w' := by
  obtain ⟨at_, xs⟩ := h
  dsimp only at *
  have HT := hid ht
  have HZ := hid hz
  clear ht hz
  have HA := hid (show Below w.heap.size w (w.alloc (.cells #[.int .i64 at_, .slice la xs.length cap] 46)) from (Below.refl _ w).alloc (Nat.le_refl _) _)
  have TW := hid (twoAt_new w at_ (.slice la xs.length cap) 46)
  have hsz : (w.alloc (.cells #[.int .i64 at_, .slice la xs.length cap] 46)).heap.size = w.heap.size + 1 := by simp
  have HSZ := hid hsz
  clear hsz
  obtain ⟨i0, hi, hz0, hz1, hz2⟩ := info_parts infoTxt
  go_enter Try.func62, Try.ntmps62
  go_wp2_with fail
  generalize w.alloc (.cells #[.int .i64 at_, .slice la xs.length cap] 46) = wb at *
  go_loopw [3, 4] (fun o i wr => ∃ (k : Nat) (ad : Option Addr) (cp : Nat), k ≤ xs.length ∧ i = .int .i64 k ∧ o = .slice ad (oldX 45 (xs.take k)).length cp ∧ wr.ownsRow (w.heap.size + 1) 9 1 (.slice ad (oldX 45 (xs.take k)).length cp) (oldX 45 (xs.take k)).length ((oldX 45 (xs.take k)).map Value.string) ∧ Below (w.heap.size + 1) wb wr) (fun _ i _ => xs.length - (intOf i).toNat)
  case atStart => exact ⟨0, _, 0, Nat.zero_le _, rfl, rfl, by have := World.ownsRow_lit (e := 9) (size := 1) wb #[] 0 (show w.heap.size + 1 ≤ wb.heap.size by rw [unhid HSZ]; exact Nat.le_refl _) (by omega) (by simp); rw [unhid HSZ] at this; exact this, (Below.refl _ _).alloc (by rw [unhid HSZ]; exact Nat.le_refl _) _⟩
  case round =>
    obtain ⟨k, ad, cp, hk, rfl, rfl, hown, hB⟩ := hrel
    have hwl : (oldX 45 (xs.take k)).length ≤ k := Nat.le_trans (oldX_len _ _) (by simp; omega)
    obtain ⟨⟨m0, _⟩, m1, _⟩ := (unhid TW).below hB (Nat.lt_succ_self _)
    have hBw := (unhid HA).trans (hB.mono (Nat.le_succ _))
    have HBw := hid hBw
    by_cases hlt : k < xs.length
    · obtain ⟨x, he⟩ : ∃ e, xs[k]? = some e := ⟨xs[k], List.getElem?_eq_getElem hlt⟩
      obtain ⟨b, o, rfl, hbl, hc⟩ := (unhid HT).get (by intro e; subst e; simp at hlt)
      have c0 := (hBw.cell (p := ⟨b, o + k, .none⟩) hbl).trans (hc k x he)
      obtain ⟨z1, z2⟩ := unhid HZ x (List.mem_of_getElem? he)
      have z3 : x.size ≤ 9223372036854775807 := z2
      have HS := hid (oldX_take 45 xs k x he z1)
      have hbz := hB.size
      rw [unhid HSZ] at hbz
      clear hc he z2 hBw
      generalize oldX 45 (xs.take k) = ys at *
      cases hd : (x[0] == 45)
      · have b1 : (((x[0]).toNat : Int) != 45) = true := by
          rw [beq_eq_false_iff_ne] at hd
          rw [bne_iff_ne]; intro h; exact hd (UInt8.toNat_inj.1 (by show _ = 45; omega))
        have E := hid (show oldX 45 (xs.take (k + 1)) = ys ++ [x.extract 1 x.size] by rw [unhid HS, hd]; simp)
        clear hd HS
        go_wp2_with (at_builtin; refine wpList_append_own _ rfl _ _ 29 rfl (w.heap.size + 1) 9 i0 (.string ⟨#[]⟩) 1 16 Try.underlying29 hi hz0 hz1 hz2 rfl (by decide) _ _ _ rfl (hown.alloc _) ⟨wr.heap.size, 0, none⟩ 1 1 [.string (x.extract 1 x.size)] rfl rfl ?c1 ?c2 ?c3 ?c4 ?c5 ?_)
        case c1 => exact cell_one_new _ _ _
        case c2 => intro u hu; simp at hu; subst hu; rfl
        case c3 => unfold maxLen; omega
        case c4 => omega
        case c5 => simp; omega
        intro v' w1 hown' hgrow _
        obtain ⟨g', cap', rfl⟩ := ownsRow_succ hown'
        have hB1 : Below (w.heap.size + 1) wb w1 := (hB.alloc hbz _).grown hgrow (by simp; omega) (fun j e => (hown.lt j e).1)
        clear hgrow hown
        go_wp2
        go_roundw
        case rel => exact ⟨k + 1, some ⟨g', 0, none⟩, cap', by omega, by go_num, by rw [unhid E]; simp, by rw [unhid E]; simpa using hown', hB1⟩
        case measure => simp [intOf]; omega
      · have b1 : (((x[0]).toNat : Int) != 45) = false := by
          rw [beq_iff_eq] at hd
          rw [hd]; decide
        have E := hid (show oldX 45 (xs.take (k + 1)) = ys by rw [unhid HS, hd]; simp)
        clear hd HS
        go_wp2_with fail
        go_roundw
        case rel => exact ⟨k + 1, ad, cp, by omega, by go_num, by rw [unhid E], by rw [unhid E]; exact hown, hB⟩
        case measure => simp [intOf]; omega
    · have e : k = xs.length := by omega
      subst e
      rw [List.take_of_length_le (Nat.le_refl _)] at hown ⊢
      clear hBw
      go_wp2_with fail
      go_ret
      exact ⟨_, rfl, ownsRow_baseX hown (Nat.le_succ _), unhid HBw⟩

set_option maxRecDepth 100000 in
set_option maxHeartbeats 4000000 in
theorem l5Trim_any (h : Hk) (f : Nat) (la : Option Addr) (cap : Nat) (w : World) (hf : f ≤ 2) (hat : -1000000 ≤ h.at_ ∧ h.at_ ≤ 1000000) (hlen : h.lines.length ≤ 30) (hcap : h.lines.length ≤ cap) (hz : ∀ x ∈ h.lines, 0 < x.size ∧ x.size ≤ maxLen) (ht : TxtsAt w la h.lines) :
    Calls Try.prog 89 #[.agg #[.int .i64 h.at_, .slice la h.lines.length cap], .int .i64 (f : Int)] w fun e w' => ∃ ad cp, e = .returned (.tuple #[.agg #[.int .i64 (trimH h f).at_, .slice ad (trimH h f).lines.length cp], .int .i64 (trimA h.lines f : Nat)]) ∧ TxtsAt w ad (trimH h f).lines ∧ Below w.heap.size w w' := by
  obtain ⟨at_, xs⟩ := h
  dsimp only at *
  obtain ⟨hat1, hat2⟩ := hat
  have HZ := hid hz
  have HT := hid ht
  clear hz ht
  have E1 := hid (show trimA xs f = runP (fun i => blankB (txtFn xs i)) 0 (min f xs.length) from rfl)
  have E2 := hid (show trimZ xs f = runP (fun i => blankB (txtFn xs (xs.length - 1 - i))) 0 (min (xs.length - trimA xs f) f) from rfl)
  have E3 := hid (show (trimH ⟨at_, xs⟩ f).at_ = at_ + (trimA xs f : Int) ∧ (trimH ⟨at_, xs⟩ f).lines.length = xs.length - trimZ xs f - trimA xs f ∧ (trimH ⟨at_, xs⟩ f).lines = (xs.drop (trimA xs f)).take (xs.length - trimZ xs f - trimA xs f) from ⟨rfl, trimL_len xs f, rfl⟩)
  obtain ⟨l1, l2⟩ := trimA_le xs f
  obtain ⟨l3, l4⟩ := trimZ_le xs f
  rw [(unhid E3).1, (unhid E3).2.1, (unhid E3).2.2]
  clear E3
  generalize trimA xs f = t at *
  generalize trimZ xs f = z at *
  have hB : ∀ o o', Below w.heap.size w ((w.alloc o).alloc o') := fun o o' => ((Below.refl _ w).alloc (Nat.le_refl _) o).alloc (by simp) o'
  have hbox : ∀ o', TwoAt ((w.alloc (.cells #[.int .i64 at_, .slice la xs.length cap] 46)).alloc o') w.heap.size at_ (.slice la xs.length cap) := fun o' =>
    (twoAt_new w at_ (.slice la xs.length cap) 46).below ((Below.refl _ _).alloc (Nat.le_refl _) o') (by simp)
  have hout : ∀ o, TwoAt ((w.alloc o).alloc (.cells #[.int .i64 0, .slice none 0 0] 46)) (w.heap.size + 1) 0 (.slice none 0 0) := fun o => by
    have := twoAt_new (w.alloc o) 0 (.slice none 0 0) 46
    simpa using this
  have HB := hid hB; have HBX := hid hbox; have HOU := hid hout
  clear hB hbox hout
  go_enter Try.func89, Try.ntmps89
  go_upto_block 0 with fail
  have hb0 := unhid HB (.cells #[.int .i64 at_, .slice la xs.length cap] 46) (.cells #[.int .i64 0, .slice none 0 0] 46)
  have hx0 := unhid HBX (.cells #[.int .i64 0, .slice none 0 0] 46)
  have ho0 := unhid HOU (.cells #[.int .i64 at_, .slice la xs.length cap] 46)
  clear HB HBX HOU
  generalize (w.alloc (.cells #[.int .i64 at_, .slice la xs.length cap] 46)).alloc (.cells #[.int .i64 0, .slice none 0 0] 46) = W0 at hb0 hx0 ho0 ⊢
  have HB0 := hid hb0
  have HO0 := hid ho0
  obtain ⟨⟨m0, m1⟩, m2, m3⟩ := hx0
  clear hb0 ho0
  go_cut [6, 7] from 8 (fun s6 s7 wx => (∃ ad cp, s6 = .slice ad (xs.length - t) cp ∧ Hid (TxtsAt w ad (xs.drop t)) ∧ xs.length - t ≤ cp) ∧ s7 = .int .i64 ((t : Nat) : Int) ∧ wx = W0)
  case first =>
    clear l1 l2 l3 l4
    go_wp2_with fail
    go_loop [6, 7] (fun o n => ∃ (k : Nat) (ad : Option Addr) (cp : Nat), k ≤ min f xs.length ∧ n = .int .i64 (k : Int) ∧ o = .slice ad (xs.length - k) cp ∧ xs.length - k ≤ cp ∧ Hid (TxtsAt w ad (xs.drop k)) ∧ Hid (∀ i, i < k → blankB (txtFn xs i) = true)) (fun _ n => min f xs.length - (intOf n).toNat)
    case atStart => exact ⟨0, la, cap, Nat.zero_le _, rfl, rfl, hcap, hid (by simpa using unhid HT), hid (fun i hi => absurd hi (Nat.not_lt_zero _))⟩
    case round =>
      obtain ⟨k, ad, cp, hk, rfl, rfl, hcp, HTK, hall⟩ := hrel
      by_cases hlt : k < min f xs.length
      · have hkx : k < xs.length := by omega
        have hkf : k < f := by omega
        have hp : 0 < xs.length - k := by omega
        have hxk := txtFn_some hkx
        obtain ⟨b, o, rfl, hbl, hc⟩ := (unhid HTK).get (by intro e; have := congrArg List.length e; simp at this; omega)
        have c0 := ((unhid HB0).cell (p := ⟨b, o + 0, none⟩) hbl).trans (hc 0 _ (by rw [List.getElem?_drop]; exact hxk))
        rw [Nat.add_zero] at c0
        obtain ⟨z1, z2⟩ := unhid HZ _ (List.mem_of_getElem? hxk)
        have z3 : (txtFn xs k).size ≤ 9223372036854775807 := z2
        have hbl := blankB_cons z1
        have HST := hid (show blankB (txtFn xs k) = false → t = k from fun hb => by rw [unhid E1]; exact runP_eq _ 0 k (by omega) (fun i hi => by rw [Nat.zero_add]; exact unhid hall i hi) (.inr (by rw [Nat.zero_add]; exact hb)))
        have HNX := hid (show blankB (txtFn xs k) = true → ∀ i, i < k + 1 → blankB (txtFn xs i) = true from fun hb i hi => (Nat.lt_succ_iff_lt_or_eq.1 hi).elim (fun h => unhid hall i h) (fun h => by subst h; exact hb))
        clear hc hxk z2
        generalize txtFn xs k = x at *
        cases hbb : blankB x
        · rw [hbb] at hbl
          have b1 := hbl.symm
          have E := hid (unhid HST hbb)
          clear hbl hbb
          go_wp2_with fail
          go_meet
          case rel => exact ⟨⟨_, cp, by rw [unhid E], by rw [unhid E]; exact HTK, by rw [unhid E]; exact hcp⟩, by rw [unhid E], rfl⟩
        · rw [hbb] at hbl
          have b1 := hbl.symm
          have HN := hid (unhid HNX hbb)
          have s1 := fun w => sub_l (some ⟨b, o, none⟩) (xs.length - k) cp 1 (by omega) w
          rw [show ((1 : Nat) : Int) = 1 from rfl] at s1
          have HTK2 := hid (show TxtsAt w (subA (some ⟨b, o, none⟩) cp 1) (xs.drop (k + 1)) by
            have := (unhid HTK).rest (cap := cp) (by rw [List.length_drop]; exact hcp) 1
            rwa [List.drop_drop] at this)
          clear hbl hbb
          go_wp2_with fail
          exact ⟨⟨k + 1, subA (some ⟨b, o, none⟩) cp 1, cp - 1, by omega, by go_num, by rw [Nat.sub_sub], by omega, HTK2, HN⟩, by simp [intOf]; omega⟩
      · have e : k = min f xs.length := by omega
        have E := hid (show t = k by rw [unhid E1]; exact runP_eq _ 0 k (by omega) (fun i hi => by rw [Nat.zero_add]; exact unhid hall i hi) (.inl e))
        by_cases dx : k < f
        · have dy : ¬ 0 < xs.length - k := by omega
          have dz : xs.length - k = 0 := by omega
          clear e dz
          go_wp2_with fail
          go_meet
          case rel => exact ⟨⟨_, cp, by rw [unhid E], by rw [unhid E]; exact HTK, by rw [unhid E]; exact hcp⟩, by rw [unhid E], rfl⟩
        · clear e
          go_wp2_with fail
          go_meet
          case rel => exact ⟨⟨_, cp, by rw [unhid E], by rw [unhid E]; exact HTK, by rw [unhid E]; exact hcp⟩, by rw [unhid E], rfl⟩
  case rest =>
    obtain ⟨⟨ad, cp, rfl, HTA, hcp⟩, rfl, hwc⟩ := hcut
    have hwc' := hwc.symm
    subst hwc'
    go_upto_block 2 with fail
    go_cut [6] from 8 (fun s6 wx => (∃ ad cp, s6 = .slice ad (xs.length - z - t) cp ∧ Hid (TxtsAt w ad ((xs.drop t).take (xs.length - z - t)))) ∧ wx = W0)
    case first =>
      clear l3 l4
      go_wp2_with fail
      go_loop [6, 8] (fun o n => ∃ (k : Nat) (ad : Option Addr) (cp : Nat), k ≤ min (xs.length - t) f ∧ n = .int .i64 (k : Int) ∧ o = .slice ad (xs.length - t - k) cp ∧ xs.length - t - k ≤ cp ∧ Hid (TxtsAt w ad ((xs.drop t).take (xs.length - t - k))) ∧ Hid (∀ i, i < k → blankB (txtFn xs (xs.length - 1 - i)) = true)) (fun _ n => min (xs.length - t) f - (intOf n).toNat)
      case atStart => exact ⟨0, ad, cp, Nat.zero_le _, rfl, rfl, hcp, hid (by rw [Nat.sub_zero]; exact (unhid HTA).head _), hid (fun i hi => absurd hi (Nat.not_lt_zero _))⟩
      case round =>
        clear HTA hcp
        obtain ⟨k, ad, cp, hk, rfl, rfl, hcp, HTK, hall⟩ := hrel
        by_cases hlt : k < min (xs.length - t) f
        · have hkf : k < f := by omega
          have hp : 0 < xs.length - t - k := by omega
          have hkx : xs.length - 1 - k < xs.length := by omega
          have hxk := txtFn_some hkx
          obtain ⟨b, o, rfl, hbl, hc⟩ := (unhid HTK).get (by intro e; have := congrArg List.length e; simp at this; omega)
          have c0 := ((unhid HB0).cell (p := ⟨b, o + (xs.length - t - k - 1), none⟩) hbl).trans (hc (xs.length - t - k - 1) _ (by rw [List.getElem?_take_of_lt (by omega), List.getElem?_drop, show t + (xs.length - t - k - 1) = xs.length - 1 - k by omega]; exact hxk))
          obtain ⟨z1, z2⟩ := unhid HZ _ (List.mem_of_getElem? hxk)
          have z3 : (txtFn xs (xs.length - 1 - k)).size ≤ 9223372036854775807 := z2
          have hbl := blankB_cons z1
          have HST := hid (show blankB (txtFn xs (xs.length - 1 - k)) = false → z = k from fun hb => by rw [unhid E2]; exact runP_eq _ 0 k hk (fun i hi => by rw [Nat.zero_add]; exact unhid hall i hi) (.inr (by rw [Nat.zero_add]; exact hb)))
          have HNX := hid (show blankB (txtFn xs (xs.length - 1 - k)) = true → ∀ i, i < k + 1 → blankB (txtFn xs (xs.length - 1 - i)) = true from fun hb i hi => (Nat.lt_succ_iff_lt_or_eq.1 hi).elim (fun h => unhid hall i h) (fun h => by subst h; exact hb))
          generalize hm : xs.length - t - k = m at *
          have HM := hid hm
          have n1 : ((m : Int) - 1).toNat = m - 1 := by omega
          have hm30 : m ≤ 30 := by omega
          clear hc hxk z2 hm
          generalize txtFn xs (xs.length - 1 - k) = x at *
          cases hbb : blankB x
          · rw [hbb] at hbl
            have b1 := hbl.symm
            have E := hid (unhid HST hbb)
            clear hbl hbb
            go_wp2_with fail
            go_meet
            case rel => exact ⟨⟨_, cp, by rw [unhid E, Nat.sub_right_comm, unhid HM], by rw [unhid E, Nat.sub_right_comm, unhid HM]; exact HTK⟩, rfl⟩
          · rw [hbb] at hbl
            have b1 := hbl.symm
            have HN := hid (unhid HNX hbb)
            have s1 := fun w => sub_h (some ⟨b, o, none⟩) m cp (m - 1) (by omega) w
            rw [show (((m - 1 : Nat)) : Int) = (m : Int) - 1 by omega] at s1
            have HTK2 := hid (show TxtsAt w (some ⟨b, o, none⟩) ((xs.drop t).take (xs.length - t - (k + 1))) by
              have := (unhid HTK).head (m - 1)
              rwa [List.take_take, Nat.min_eq_left (by omega), show m - 1 = xs.length - t - (k + 1) by have := unhid HM; omega] at this)
            clear hbl hbb
            go_wp2_with fail
            exact ⟨⟨k + 1, some ⟨b, o, none⟩, cp, by omega, by go_num, by have := unhid HM; rw [show m - 1 = xs.length - t - (k + 1) by omega], by have := unhid HM; omega, HTK2, HN⟩, by simp [intOf]; omega⟩
        · have e : k = min (xs.length - t) f := by omega
          have E := hid (show z = k by rw [unhid E2]; exact runP_eq _ 0 k hk (fun i hi => by rw [Nat.zero_add]; exact unhid hall i hi) (.inl e))
          by_cases dx : k < f
          · have dy : ¬ 0 < xs.length - t - k := by omega
            clear e
            go_wp2_with fail
            go_meet
            case rel => exact ⟨⟨_, cp, by rw [unhid E, Nat.sub_right_comm], by rw [unhid E, Nat.sub_right_comm]; exact HTK⟩, rfl⟩
          · clear e
            go_wp2_with fail
            go_meet
            case rel => exact ⟨⟨_, cp, by rw [unhid E, Nat.sub_right_comm], by rw [unhid E, Nat.sub_right_comm]; exact HTK⟩, rfl⟩
    case rest =>
      clear HTA hcp
      obtain ⟨⟨ad, cp, rfl, HTA⟩, hwc⟩ := hcut
      have hwc' := hwc.symm
      subst hwc'
      obtain ⟨⟨c0, c1⟩, c2, c3⟩ := unhid HO0
      go_wp2_with fail
      refine bodyPost_ret (v := .tuple #[.agg #[.int .i64 (at_ + (t : Int)), .slice ad (xs.length - z - t) cp], .int .i64 (t : Int)]) (by simp [results, Try.results89, go_sem, World.cell?_setCell_same', c0, c2]) rfl ?_
      exact ⟨ad, ⟨cp, rfl⟩, unhid HTA, ((unhid HB0).setCell (p := ⟨w.heap.size + 1, 0, none⟩) (Nat.le_succ _) _).setCell (p := ⟨w.heap.size + 1, 1, none⟩) (Nat.le_succ _) _⟩
end Go.Proofs.Ytedimkcnemhhpaa
