/- Of every code: a drawn path is in as many places as it has slashes: FnPathUps answers true; the code is as it was. No condition. -/
import Derived.Test.YtoifchmgdkiejaaRowCode
import Derived.Test.YtoifchmgdkiejaaPathMath2
namespace Go.Proofs.Ytoifchmgdkiejaa
open Go.ChangeShapes Go.WideShapes Go.ChangeAt Go.RowKit

theorem cutB_count : ∀ l : List UInt8, (cutB 47 l).length = l.count 47 + 1
  | [] => by simp [cutB]
  | c :: l => by
    have ih := cutB_count l
    unfold cutB
    by_cases hc : (c == 47) = true
    · simp [hc, ih, List.count_cons]
    · rw [if_neg hc]
      split
      · rename_i e; exact absurd e (cutB_ne 47 l)
      · rename_i h t e
        rw [e] at ih
        simp only [List.length_cons] at ih ⊢
        rw [List.count_cons, ih]
        simp [hc]
theorem up_parts {x : ByteArray} (h : pathB x.data.toList = true) (n : Nat) (hn : (cutB 47 x.data.toList).length = n + 1 + 1) :
    pathB (pathUpS x).data.toList = true ∧ (cutB 47 (pathUpS x).data.toList).length = n + 1 ∧ inB (pathUpS x).data.toList x.data.toList = true := by
  have hi : 0 ≤ lastIx 47 x.data.toList := by
    rcases Int.lt_or_le (lastIx 47 x.data.toList) 0 with hlt | hge
    · rw [(cutB_lastIx 47 _).1 hlt] at hn; simp at hn
    · exact hge
  rw [up_some h hi]
  refine ⟨pathB_up _ h hi, ?_, inB_up _ h hi⟩
  rw [cutB_take 47 _ hi, List.length_dropLast, hn]; rfl
theorem one_part {x : ByteArray} (h : pathB x.data.toList = true) (hn : (cutB 47 x.data.toList).length = 1) : pathUpS x = ⟨#[]⟩ ∧ pathLastS x = x := by
  have hi : lastIx 47 x.data.toList < 0 := by
    rcases Int.lt_or_le (lastIx 47 x.data.toList) 0 with hlt | hge
    · exact hlt
    · obtain ⟨a, b, t, e⟩ := (cutB_lastIx 47 x.data.toList).2.1 hge
      rw [e] at hn; simp at hn
  exact ⟨up_none hi, last_none h hi⟩
theorem path_parts {l : List UInt8} (h : pathB l = true) : (cutB 47 l).length ≤ 5 := by
  simp only [pathB, Bool.and_eq_true, decide_eq_true_eq] at h
  exact h.1

set_option maxRecDepth 100000 in
set_option maxHeartbeats 2000000 in
theorem walk_FnPathUps (w : World) (a : Option Addr) (len cap : Nat) (h : Code w w.heap.size a len) (hc : len ≤ cap) :
    Calls Try.prog 6 #[.slice a len cap] w fun e w' => e = .returned (.bool true) ∧ Below w.heap.size w w' := by
  have H := hid h
  clear h
  by_cases hl : (1048576 : Int) < len
  · go_enter Try.func6, Try.ntmps6
    go_wp2
    go_ret
    exact ⟨rfl, Below.refl _ _⟩
  · go_enter Try.func6, Try.ntmps6
    go_wp2_with fail
    refine (DrawPathUp_any w a len cap (unhid H) (by omega) hc).mono ?_
    rintro e w1 ⟨s, rfl, hs0, hb1⟩
    have hs : s.size ≤ 100 := hs0
    have hm : s.size ≤ maxLen := by unfold maxLen; omega
    have hq : s.size ≤ 1048576 := by omega
    have HB1 := hid hb1
    clear hb1 hs0
    go_wp2_with fail
    refine (PathOk_any s hm _).mono ?_
    rintro e w2 ⟨rfl, hb⟩
    have HB2 := hid ((unhid HB1).trans (hb.mono (unhid HB1).size))
    clear hb HB1
    go_wp2_with fail
    refine (specPathOk_any s hq _).mono ?_
    rintro e w3 ⟨rfl, hb⟩
    have HB3 := hid ((unhid HB2).trans (hb.mono (unhid HB2).size))
    clear hb HB2
    cases hp : pathB s.data.toList
    · go_wp2_with fail
      refine (specPathOk_any s hq _).mono ?_
      rintro e w4 ⟨rfl, hb⟩
      rw [hp]
      have HB4 := hid ((unhid HB3).trans (hb.mono (unhid HB3).size))
      clear hb HB3
      go_wp2_with fail
      go_ret
      exact ⟨rfl, unhid HB4⟩
    · have hcnt := cutB_count s.data.toList
      have hp5 := path_parts hp
      have hb3 := unhid HB3
      go_wp2_with fail
      go_loop [5, 6] (fun n i => ∃ k : Nat, k ≤ s.size ∧ i = .int .i64 k ∧ n = .int .i64 ((s.data.toList.take k).count 47)) (fun _ i => s.size - (intOf i).toNat)
      case atStart => exact ⟨0, Nat.zero_le _, rfl, rfl⟩
      case round =>
        obtain ⟨k, hk, rfl, rfl⟩ := hrel
        have hcl : (s.data.toList.take k).count 47 ≤ k := Nat.le_trans (List.count_le_length) (List.length_take_le _ _)
        by_cases hlt : k < s.size
        · have HS := hid (take_snoc s k hlt)
          by_cases hb : s[k] = 47
          · have hb' : (((s[k]).toNat : Int) == 47) = true := by simp [hb]
            go_wp2_with fail
            refine ⟨⟨k + 1, by omega, by go_num, ?_⟩, by simp [intOf]; omega⟩
            rw [unhid HS, List.count_append, hb]; simp
          · have hb' : (((s[k]).toNat : Int) == 47) = false := by
              rw [beq_eq_false_iff_ne]; intro h; exact hb (UInt8.toNat_inj.1 (by simp; omega))
            go_wp2_with fail
            refine ⟨⟨k + 1, by omega, by go_num, ?_⟩, by simp [intOf]; omega⟩
            rw [unhid HS, List.count_append]; simp [hb]
        · have hN : (s.data.toList.take k).count 47 + 1 = (cutB 47 s.data.toList).length := by rw [hcnt, List.take_of_length_le (by simp; omega)]
          go_wp2_with fail
          generalize (s.data.toList.take k).count 47 = N at *
          have HN := hid hN
          have hN4 : N ≤ 4 := by omega
          clear hN hcnt hp5
          go_loopw [7, 8] (fun xv i wr => ∃ (j : Nat) (x : ByteArray), j ≤ N ∧ i = .int .i64 j ∧ xv = .string x ∧ x.size ≤ 100 ∧ Hid (pathB x.data.toList = true ∧ (cutB 47 x.data.toList).length + j = N + 1 ∧ inB x.data.toList s.data.toList = true) ∧ Below w.heap.size w wr)
            (fun _ i _ => N - (intOf i).toNat)
          case atStart => exact ⟨0, s, by omega, rfl, rfl, hs, hid ⟨hp, (unhid HN).symm, inB_refl _ hp⟩, hb3⟩
          case round =>
            obtain ⟨j, x, hj, rfl, rfl, hxs, hx, hB⟩ := hrel
            have xm : x.size ≤ maxLen := by unfold maxLen; omega
            obtain ⟨x1, x2, x3⟩ := unhid hx
            have HB := hid hB
            clear hB hb3
            by_cases hlt2 : j < N
            · obtain ⟨u1, u2, u3⟩ := up_parts x1 (N - j - 1) (by omega)
              have U1 := hid u1
              have U2 := hid u2
              have U3 := hid (inB_trans u3 x3)
              have z := size_up x
              have um : (pathUpS x).size ≤ maxLen := by unfold maxLen; omega
              clear u1 u2 u3 x1 x2 x3
              go_wp2_with fail
              refine (PathUp_any x xm _).mono ?_
              rintro e w5 ⟨rfl, hb⟩
              have HB5 := hid ((unhid HB).trans (hb.mono (unhid HB).size))
              clear hb HB
              go_wp2_with fail
              refine (PathIn_any _ s um hm _).mono ?_
              rintro e w6 ⟨rfl, hb⟩
              rw [unhid U3]
              have HB6 := hid ((unhid HB5).trans (hb.mono (unhid HB5).size))
              clear hb HB5
              go_wp2_with fail
              go_roundw
              case rel => exact ⟨j + 1, pathUpS x, by omega, by go_num, rfl, by omega, hid ⟨unhid U1, by have := unhid U2; omega, unhid U3⟩, unhid HB6⟩
              case measure => simp [intOf]; omega
            · obtain ⟨y1, y2⟩ := one_part x1 (by omega)
              have Y1 := hid y1
              have Y2 := hid y2
              clear y1 y2 x1 x2 x3
              go_wp2_with fail
              refine (PathUp_any x xm _).mono ?_
              rintro e w5 ⟨rfl, hb⟩
              rw [unhid Y1]
              have HB5 := hid ((unhid HB).trans (hb.mono (unhid HB).size))
              clear hb HB
              go_wp2_with fail
              refine (PathLast_any x xm _).mono ?_
              rintro e w6 ⟨rfl, hb⟩
              rw [unhid Y2]
              have HB6 := hid ((unhid HB5).trans (hb.mono (unhid HB5).size))
              clear hb HB5
              have hN5 : (N : Int) < 5 := by omega
              go_wp2_with fail
              go_ret
              exact ⟨rfl, unhid HB6⟩

set_option maxRecDepth 100000 in
theorem lifted_FnPathUps (os : Os) (started : os.Started) (H : Type) (enc : TypeId × Value → H) :
    ReturnsInHanded {} Try.checked os 6 .any (Rows.fnPathUpsSpec.pre6 enc Try.prog Try.f6 Rows.fnPathUpsRow.domain false) (Rows.fnPathUpsSpec.post enc Try.prog Try.f6 false true false false) := by
  refine returnsInHanded_of_change (C := Try.checked) own started (by kernel_rfl) Try.func6
    (ChangeSpec.witness6 (enc := enc) (C := Try.checked) false ⟨#[], #[.slice none 0 0], []⟩ 8 (by kernel_rfl) (by kernel_rfl) (by kernel_rfl) (by kernel_rfl)) ?_
  intro W base args ds gs before hval0 hW _ _
  have hval : ∀ (j : Nat) t v, Try.f6.params[j]? = some t → args[j]? = some v → Value.okWide Try.prog W .any base t v := hval0
  have hW' := hW
  obtain ⟨p, q, hA0, hV, rfl, hfz, hnd⟩ := hW
  have hA : DataW.TrodAll enc Try.prog W 0 (fun _ => true) true Try.f6.params.toList args.toList ds p := hA0
  rw [Try.params6] at hA hval
  obtain ⟨v0, vs0, d0, ds0, p0, q0, e0, rfl, rfl, h0, r0⟩ := trodAll_cons hA
  obtain ⟨rfl, rfl, rfl⟩ := trodAll_nil r0
  obtain rfl : args = #[v0] := by cases args; simp_all
  obtain ⟨rfl, rfl⟩ := trodVars_none hV
  obtain ⟨a0, len, cap, rfl⟩ := okWide_slice Try.underlying22 (hval 0 22 v0 rfl rfl)
  clear hA0 hval0
  simp only [List.append_nil] at hW'
  have hlt : ∀ x ∈ p0, x.block < W.heap.size := fun x hx => by simpa using hW'.lt x hx
  obtain ⟨hcode, hcap⟩ := code_of h0 hlt
  refine (walk_FnPathUps W a0 len cap hcode hcap).mono fun e W' ⟨he, hb⟩ => ?_
  subst he
  exact ⟨_, rfl, post_below (ds := [d0]) (gs := []) (pa := p0 ++ []) (pv := []) (by simpa using hW') (fun _ _ _ => trodAll_cons_mk (shut_bool Try.underlying4 _) trodAll_mk0)
    (trodAll_cons_mk (Below.trod laidOut (by kernel_rfl) (of_decide_eq_true (by kernel_rfl)) h0 hb hlt) trodAll_mk0) rfl (by simp) hb⟩

theorem fnPathUps_holds : Rows.FnPathUpsSaid :=
  OpenClaim.holds_of_wide 6 Try.f6 rfl rfl rfl rfl rfl rfl rfl ⟨rfl, rfl, rfl, rfl, rfl⟩ rfl rfl rfl rfl rfl (by kernel_rfl) Try.func6 (by kernel_rfl)
    (of_decide_eq_true (by kernel_rfl)) (by unfold Func.isWrapper; first | (rw [if_pos (by decide +kernel)]; kernel_rfl) | (rw [if_neg (by decide +kernel)]; exact ⟨rfl, rfl⟩))
    (fun os started H enc _ => lifted_FnPathUps os started H enc)
end Go.Proofs.Ytoifchmgdkiejaa
