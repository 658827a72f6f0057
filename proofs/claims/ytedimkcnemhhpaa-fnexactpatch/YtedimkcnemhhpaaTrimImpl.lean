/- A hunk without blank lines at its ends, by the program. -/
import Derived.Test.YtedimkcnemhhpaaPatchM
import Derived.Deep.CutBlock
namespace Go.Proofs.Ytedimkcnemhhpaa
open Go.RowKit Go.Shelf

theorem run_max_two (x y m : Int) (h : m = max x y) (w : World) (ts : Array TypeId) (t : TypeId) : (Builtin.max_ ts t #[.int .i64 x, .int .i64 y]).run Try.prog w = .ok (.int .i64 m) w := by
  subst h
  have : (Builtin.max_ ts t #[.int .i64 x, .int .i64 y]).run Try.prog w = .ok (.int .i64 (if x < y then y else x)) w := by simp [Builtin.max_, Builtin.max2]
  rw [this]; congr 2; omega
theorem run_min_two (x y m : Int) (h : m = min x y) (w : World) (ts : Array TypeId) (t : TypeId) : (Builtin.min_ ts t #[.int .i64 x, .int .i64 y]).run Try.prog w = .ok (.int .i64 m) w := by
  subst h
  rw [run_min_int2]; congr 2; omega

set_option maxRecDepth 100000 in
set_option maxHeartbeats 4000000 in
theorem withoutEnds_any (h : Hk) (f : Nat) (la : Option Addr) (cap : Nat) (w : World) (hf : f ≤ 2) (hat : -1000000 ≤ h.at_ ∧ h.at_ ≤ 1000000) (hlen : h.lines.length ≤ 30) (hcap : h.lines.length ≤ cap) (hz : ∀ x ∈ h.lines, 0 < x.size ∧ x.size ≤ maxLen) (ht : TxtsAt w la h.lines) :
    Calls Try.prog 91 #[.agg #[.int .i64 h.at_, .slice la h.lines.length cap], .int .i64 (f : Int)] w fun e w' => e = .returned (.agg #[.int .i64 (trimH h f).at_, .slice (subA la cap (trimA h.lines f)) (trimH h f).lines.length (cap - trimA h.lines f)]) ∧ Below w.heap.size w w' := by
  obtain ⟨at_, xs⟩ := h
  dsimp only at *
  obtain ⟨hat1, hat2⟩ := hat
  have HZ := hid hz
  have HT := hid ht
  clear hz ht
  have E1 := hid (show trimA xs f = runP (fun i => blankB (txtFn xs i)) 0 (min f xs.length) from rfl)
  have E2 := hid (show trimZ xs f = runP (fun i => blankB (txtFn xs (xs.length - 1 - i))) 0 (min (xs.length - trimA xs f) f) from rfl)
  have E3 := hid (show (trimH ⟨at_, xs⟩ f).at_ = at_ + (trimA xs f : Int) ∧ (trimH ⟨at_, xs⟩ f).lines.length = xs.length - trimZ xs f - trimA xs f from ⟨rfl, trimL_len xs f⟩)
  obtain ⟨l1, l2⟩ := trimA_le xs f
  obtain ⟨l3, l4⟩ := trimZ_le xs f
  rw [(unhid E3).1, (unhid E3).2]
  clear E3
  generalize trimA xs f = t at *
  generalize trimZ xs f = z at *
  have hB : ∀ o o', Below w.heap.size w ((w.alloc o).alloc o') := fun o o' => ((Below.refl _ w).alloc (Nat.le_refl _) o).alloc (by simp) o'
  have hs2 : ∀ o o', ((w.alloc o).alloc o').heap.size = w.heap.size + 1 + 1 := fun o o' => by simp
  have hbox : ∀ o', TwoAt ((w.alloc (.cells #[.int .i64 at_, .slice la xs.length cap] 46)).alloc o') w.heap.size at_ (.slice la xs.length cap) := fun o' =>
    (twoAt_new w at_ (.slice la xs.length cap) 46).below ((Below.refl _ _).alloc (Nat.le_refl _) o') (by simp)
  have hout : ∀ o, TwoAt ((w.alloc o).alloc (.cells #[.int .i64 0, .slice none 0 0] 46)) (w.heap.size + 1) 0 (.slice none 0 0) := fun o => by
    have := twoAt_new (w.alloc o) 0 (.slice none 0 0) 46
    simpa using this
  have HB := hid hB; have HS2 := hid hs2; have HBX := hid hbox; have HOU := hid hout
  clear hB hs2 hbox hout
  go_enter Try.func91, Try.ntmps91
  go_wp2_with fail
  have hb0 := unhid HB (.cells #[.int .i64 at_, .slice la xs.length cap] 46) (.cells #[.int .i64 0, .slice none 0 0] 46)
  have hs0 := unhid HS2 (.cells #[.int .i64 at_, .slice la xs.length cap] 46) (.cells #[.int .i64 0, .slice none 0 0] 46)
  have hx0 := unhid HBX (.cells #[.int .i64 0, .slice none 0 0] 46)
  have ho0 := unhid HOU (.cells #[.int .i64 at_, .slice la xs.length cap] 46)
  clear HB HS2 HBX HOU
  generalize (w.alloc (.cells #[.int .i64 at_, .slice la xs.length cap] 46)).alloc (.cells #[.int .i64 0, .slice none 0 0] 46) = W0 at hb0 hs0 hx0 ho0 ⊢
  obtain ⟨⟨m0, m1⟩, m2, m3⟩ := hx0
  go_quiet (fail)
  have HQ := hid (show Below w.heap.size w (W0.drewN nq) ∧ (W0.drewN nq).heap.size = w.heap.size + 1 + 1 ∧ TwoAt (W0.drewN nq) w.heap.size at_ (.slice la xs.length cap) ∧ TwoAt (W0.drewN nq) (w.heap.size + 1) 0 (.slice none 0 0) from
    ⟨⟨hb0.os, hb0.tape, hb0.output, hb0.size, hb0.block⟩, hs0, ⟨⟨m0, m1⟩, m2, m3⟩, ⟨⟨ho0.1.1, ho0.1.2⟩, ho0.2.1, ho0.2.2⟩⟩)
  clear m0 m1 m2 m3 hb0 hs0 ho0
  generalize W0.drewN nq = wq at HQ ⊢
  generalize hgb : w.heap.size = gb at HQ ⊢
  have HGB := hid hgb
  clear hgb
  obtain ⟨⟨m0, m1⟩, m2, m3⟩ := (unhid HQ).2.2.1
  have hTq := hid ((unhid HT).below (by rw [unhid HGB]; exact (unhid HQ).1))
  go_upto_block 0 with fail
  go_cut [5] from 7 (fun s wx => s = .int .i64 ((t : Nat) : Int) ∧ wx = wq)
  case first =>
    clear l1 l2 l3 l4
    have hmin : ∀ w ts tt, (Builtin.min_ ts tt #[.int .i64 (f : Int), .int .i64 (xs.length : Int)]).run Try.prog w = .ok (.int .i64 ((min f xs.length : Nat) : Int)) w := run_min_two _ _ _ (by omega)
    go_wp2_with fail
    go_loop [5] (fun i => ∃ k : Nat, k ≤ min f xs.length ∧ i = .int .i64 (k : Int) ∧ Hid (∀ i, i < k → blankB (txtFn xs i) = true)) (fun i => min f xs.length - (intOf i).toNat)
    case atStart => exact ⟨0, Nat.zero_le _, rfl, hid (fun i hi => absurd hi (Nat.not_lt_zero _))⟩
    case round =>
      obtain ⟨k, hk, rfl, hall⟩ := hrel
      generalize hgm : min f xs.length = m at *
      have HGM := hid hgm
      by_cases hlt : k < m
      · have hkx : k < xs.length := by omega
        clear hgm
        have hxk := txtFn_some hkx
        obtain ⟨b, o, rfl, hbl, hc⟩ := (unhid hTq).get (by intro e; subst e; simp at hkx)
        have c0 := hc k _ hxk
        obtain ⟨z1, z2⟩ := unhid HZ _ (List.mem_of_getElem? hxk)
        have z3 : (txtFn xs k).size ≤ 9223372036854775807 := z2
        have hbl := blankB_cons z1
        have HST := hid (show blankB (txtFn xs k) = false → t = k from fun hb => by rw [unhid E1]; exact runP_eq _ 0 k (by omega) (fun i hi => by rw [Nat.zero_add]; exact unhid hall i hi) (.inr (by rw [Nat.zero_add]; exact hb)))
        have HNX := hid (show blankB (txtFn xs k) = true → ∀ i, i < k + 1 → blankB (txtFn xs i) = true from fun hb i hi => (Nat.lt_succ_iff_lt_or_eq.1 hi).elim (fun h => unhid hall i h) (fun h => by subst h; exact hb))
        clear hc hxk z2
        generalize txtFn xs k = x at *
        cases hbb : blankB x
        · rw [hbb] at hbl
          have b1 := hbl.symm
          have E := hid (unhid HST hbb)
          clear hbl hbb
          go_wp2_with fail
          go_meet
          case rel => exact ⟨by rw [unhid E], rfl⟩
        · rw [hbb] at hbl
          have b1 := hbl.symm
          have HN := hid (unhid HNX hbb)
          clear hbl hbb
          go_wp2_with fail
          exact ⟨⟨k + 1, by omega, by go_num, HN⟩, by simp [intOf]; omega⟩
      · have e : k = m := by omega
        have E := hid (show t = k by rw [unhid E1]; exact runP_eq _ 0 k (by omega) (fun i hi => by rw [Nat.zero_add]; exact unhid hall i hi) (.inl e))
        clear e hgm
        go_wp2_with fail
        go_meet
        case rel => exact ⟨by rw [unhid E], rfl⟩
  case rest =>
    obtain ⟨rfl, hwc⟩ := hcut
    have hwc' := hwc.symm
    subst hwc'
    go_upto_block 2 with fail
    go_cut [6] from 7 (fun s wx => s = .int .i64 ((xs.length : Int) - (z : Int)) ∧ wx = wq)
    case first =>
      clear l3 l4
      obtain ⟨M, hM⟩ : ∃ M : Int, M = max (t : Int) ((xs.length : Int) - (f : Int)) := ⟨_, rfl⟩
      have hmax : ∀ w ts tt, (Builtin.max_ ts tt #[.int .i64 (t : Int), .int .i64 ((xs.length : Int) - (f : Int))]).run Try.prog w = .ok (.int .i64 M) w := run_max_two _ _ _ hM
      have HM := hid hM
      clear hM
      go_wp2_with fail
      go_loop [6] (fun i => ∃ k : Nat, k ≤ min (xs.length - t) f ∧ i = .int .i64 ((xs.length : Int) - (k : Int)) ∧ Hid (∀ i, i < k → blankB (txtFn xs (xs.length - 1 - i)) = true)) (fun i => (intOf i).toNat)
      case atStart => exact ⟨0, Nat.zero_le _, by simp, hid (fun i hi => absurd hi (Nat.not_lt_zero _))⟩
      case round =>
        obtain ⟨k, hk, rfl, hall⟩ := hrel
        by_cases hlt : k < min (xs.length - t) f
        · have hkx : xs.length - 1 - k < xs.length := by omega
          have hxk := txtFn_some hkx
          obtain ⟨b, o, rfl, hbl, hc⟩ := (unhid hTq).get (by intro e; subst e; simp at hkx)
          have c0 := hc _ _ hxk
          obtain ⟨z1, z2⟩ := unhid HZ _ (List.mem_of_getElem? hxk)
          have z3 : (txtFn xs (xs.length - 1 - k)).size ≤ 9223372036854775807 := z2
          have hbl := blankB_cons z1
          have HST := hid (show blankB (txtFn xs (xs.length - 1 - k)) = false → z = k from fun hb => by rw [unhid E2]; exact runP_eq _ 0 k hk (fun i hi => by rw [Nat.zero_add]; exact unhid hall i hi) (.inr (by rw [Nat.zero_add]; exact hb)))
          have HNX := hid (show blankB (txtFn xs (xs.length - 1 - k)) = true → ∀ i, i < k + 1 → blankB (txtFn xs (xs.length - 1 - i)) = true from fun hb i hi => (Nat.lt_succ_iff_lt_or_eq.1 hi).elim (fun h => unhid hall i h) (fun h => by subst h; exact hb))
          have hgt : M < (xs.length : Int) - (k : Int) := by have := unhid HM; omega
          have n1 : ((xs.length : Int) - (k : Int) - 1).toNat = xs.length - 1 - k := by omega
          have n2 : k < xs.length := by omega
          clear hc hxk z2
          generalize txtFn xs (xs.length - 1 - k) = x at *
          cases hbb : blankB x
          · rw [hbb] at hbl
            have b1 := hbl.symm
            have E := hid (unhid HST hbb)
            clear hbl hbb
            go_wp2_with fail
            go_meet
            case rel => exact ⟨by rw [unhid E], rfl⟩
          · rw [hbb] at hbl
            have b1 := hbl.symm
            have HN := hid (unhid HNX hbb)
            clear hbl hbb
            go_wp2_with fail
            exact ⟨⟨k + 1, by omega, by go_num, HN⟩, by simp [intOf]; omega⟩
        · have e : k = min (xs.length - t) f := by omega
          have E := hid (show z = k by rw [unhid E2]; exact runP_eq _ 0 k hk (fun i hi => by rw [Nat.zero_add]; exact unhid hall i hi) (.inl e))
          have hgt : decide (M < (xs.length : Int) - (k : Int)) = false := by rw [decide_eq_false_iff_not]; have := unhid HM; omega
          clear e
          go_wp2_with fail
          go_meet
          case rel => exact ⟨by rw [unhid E], rfl⟩
    case rest =>
      obtain ⟨rfl, hwc⟩ := hcut
      have hwc' := hwc.symm
      subst hwc'
      have e1 : (xs.length : Int) - (z : Int) = ((xs.length - z : Nat) : Int) := by omega
      have s1 := fun w => sub_lh la xs.length cap t (xs.length - z) (by omega) (by omega) w
      rw [e1]
      clear e1
      go_wp2_with fail
      have g0 : ∀ y : CW (fun w' => w'.cell? ⟨gb, 0, none⟩ = some (.int .i64 at_) ∧ w'.cell? ⟨gb, 1, none⟩ = some (.slice la xs.length cap)), y.w.cell? ⟨gb, 0, none⟩ = some (.int .i64 at_) := fun y => y.h.1
      have g1 : ∀ y : CW (fun w' => w'.cell? ⟨gb, 0, none⟩ = some (.int .i64 at_) ∧ w'.cell? ⟨gb, 1, none⟩ = some (.slice la xs.length cap)), y.w.cell? ⟨gb, 1, none⟩ = some (.slice la xs.length cap) := fun y => y.h.2
      have hba : ∀ {q : Prop}, (CW (fun w' => w'.cell? ⟨gb, 0, none⟩ = some (.int .i64 at_) ∧ w'.cell? ⟨gb, 1, none⟩ = some (.slice la xs.length cap)) → q) ↔ q := CW.all (W := wq) ⟨m0, m2⟩
      refine held_begin (fun w' => w'.cell? ⟨gb, 0, none⟩ = some (.int .i64 at_) ∧ w'.cell? ⟨gb, 1, none⟩ = some (.slice la xs.length cap)) (by kernel_rfl) ⟨m0, m2⟩ ?_
      refine held_here [true, true, true, true, true, true, true, true, true, true] (by kernel_rfl) (by kernel_rfl) (fun _ _ _ _ _ h => h) ⟨m0, m2⟩ ?_
      dsimp only [pick]
      repeat (go_big_quiet_step (fail))
      refine wpQuiet_nil ?_
      clear g0 g1 hba
      have HQ2 := hid (show Below gb w wq.drew ∧ TwoAt wq.drew gb at_ (.slice la xs.length cap) ∧ TwoAt wq.drew (gb + 1) 0 (.slice none 0 0) from
        ⟨⟨(unhid HQ).1.os, (unhid HQ).1.tape, (unhid HQ).1.output, (unhid HQ).1.size, (unhid HQ).1.block⟩, (unhid HQ).2.2.1, (unhid HQ).2.2.2⟩)
      clear m0 m1 m2 m3
      generalize wq.drew = W5 at HQ2 ⊢
      obtain ⟨⟨c0, c1⟩, c2, c3⟩ := (unhid HQ2).2.2
      refine held_op 10 (by kernel_rfl) (by kernel_rfl) rfl (fun K hK => ?_)
      go_simp
      have hT1 := (unhid HQ2).2.1.far (q := ⟨gb + 1, 0, none⟩) (by dsimp only; omega) (.int .i64 (at_ + (t : Int)))
      have hT2 := hT1.far (q := ⟨gb + 1, 1, none⟩) (by dsimp only; omega) (.slice (subA la cap t) (xs.length - z - t) (cap - t))
      refine hK.out _ _ ⟨hT2.1.1, hT2.2.1⟩ ?_
      clear hK K hT1 hT2
      refine held_done (by kernel_rfl) ?_
      go_wp2_with fail
      refine bodyPost_ret (v := .agg #[.int .i64 (at_ + (t : Int)), .slice (subA la cap t) (xs.length - z - t) (cap - t)]) (by simp [results, Try.results91, go_sem, World.cell?_setCell_same', c0, c2]) rfl ⟨rfl, ?_⟩
      rw [unhid HGB]
      exact ((unhid HQ2).1.setCell (p := ⟨gb + 1, 0, none⟩) (Nat.le_succ _) _).setCell (p := ⟨gb + 1, 1, none⟩) (Nat.le_succ _) _
end Go.Proofs.Ytedimkcnemhhpaa
