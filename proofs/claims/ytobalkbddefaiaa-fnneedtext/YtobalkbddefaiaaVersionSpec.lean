/- Numbers and versions, as the model reads them: the same as the program. -/
import Derived.Test.YtobalkbddefaiaaVersion
namespace Go.Proofs.Ytobalkbddefaiaa
open Go.RowKit Go.Shelf

/-- What the model's number of figures is; -1 if they are none. -/
def numI (l : List UInt8) : Int := if plainNum l && decide (l.length ≤ 6) then valI l else -1

theorem foldl_pow (l : List UInt8) : ∀ a : Int, 0 ≤ a → a * 10 ^ l.length ≤ l.foldl (fun n c => n * 10 + digI c) a := by
  induction l with
  | nil => intro a _; simp
  | cons c l ih =>
    intro a ha
    have hd := digI_nn c
    have h := ih (a * 10 + digI c) (by omega)
    simp only [List.foldl_cons, List.length_cons]
    have hp : (0 : Int) ≤ 10 ^ l.length := Int.le_of_lt (Int.pow_pos (by omega))
    have e : a * 10 ^ (l.length + 1) = a * 10 * 10 ^ l.length := by rw [Int.pow_succ, Int.mul_comm (10 ^ l.length) 10, Int.mul_assoc]
    rw [e]
    refine Int.le_trans (Int.mul_le_mul_of_nonneg_right (by omega) hp) h
theorem long_num (l : List UInt8) (h : plainNum l = true) (hl : 6 < l.length) : 999 < valI l := by
  cases l with
  | nil => simp at hl
  | cons c l =>
    simp only [plainNum, Bool.and_eq_true, Bool.not_eq_true', List.all_cons] at h
    have h48 : ¬ c = 48 := by
      intro e
      have h2 := h.1.2
      have h3 : (decide (1 < (c :: l).length) && ((c :: l)[0]? == some 48)) = true := by
        rw [decide_eq_true (by omega), e]; simp
      rw [h3] at h2
      cases h2
    have hf : figB c.toNat = true := h.2.1
    simp only [figB, Bool.and_eq_true, decide_eq_true_eq] at hf
    have hne : (c.toNat : Int) ≠ 48 := fun e => h48 (UInt8.toNat_inj.1 (by simp; omega))
    have hd : 1 ≤ digI c := by unfold digI; omega
    have hp := foldl_pow l (digI c) (by omega)
    have hv : valI (c :: l) = l.foldl (fun n c => n * 10 + digI c) (digI c) := by simp [valI]
    rw [hv]
    have hlen : 6 ≤ l.length := by simp at hl; omega
    obtain ⟨m, hm⟩ : ∃ m, l.length = 6 + m := ⟨l.length - 6, by omega⟩
    have hpow : (1000000 : Int) ≤ 10 ^ l.length := by
      rw [hm, Int.pow_add]
      have : (1 : Int) ≤ 10 ^ m := Int.pow_pos (by omega)
      have h6 : (10 : Int) ^ 6 = 1000000 := by decide
      rw [h6]
      omega
    have : (10 : Int) ^ l.length ≤ digI c * 10 ^ l.length := by
      have h0 : (0 : Int) ≤ 10 ^ l.length := by omega
      have := Int.mul_le_mul_of_nonneg_right hd h0
      simpa using this
    omega
theorem num_in (l : List UInt8) : (decide (0 ≤ numI l) && decide (numI l ≤ 999)) = numOk l 999 := by
  have hn := valI_nn l
  unfold numI numOk
  cases hp : plainNum l
  · simp
  · by_cases hl : l.length ≤ 6
    · simp [hl, hn]
    · have := long_num l hp (by omega)
      simp [hl]; omega
theorem num_val (l : List UInt8) (h : numOk l 999 = true) : numI l = valI l := by
  have h2 := num_in l
  rw [h] at h2
  simp only [Bool.and_eq_true, decide_eq_true_eq] at h2
  unfold numI at h2 ⊢
  split
  · rfl
  · rename_i hc; rw [if_neg hc] at h2; omega

theorem all_take_lt {s : ByteArray} {k : Nat} (h : k < s.size) {p : UInt8 → Bool} (hp : p s[k] = false) : s.data.toList.all p = false :=
  List.all_eq_false.2 ⟨s[k], List.mem_of_getElem? (getByte s k h), by simp [hp]⟩
theorem take_val (s : ByteArray) (k : Nat) (h : k < s.size) : valI (s.data.toList.take (k + 1)) = valI (s.data.toList.take k) * 10 + digI s[k] := by rw [take_snoc s k h, valI_snoc]
theorem pow_six : ∀ n : Nat, n ≤ 6 → (10 : Int) ^ n ≤ 1000000 := by decide
theorem val_small (l : List UInt8) (h : l.all (fun c => figB c.toNat) = true) : valI l < 10 ^ l.length := by
  have : ∀ (l : List UInt8) (a : Int), l.all (fun c => figB c.toNat) = true → 0 ≤ a → l.foldl (fun n c => n * 10 + digI c) a < (a + 1) * 10 ^ l.length := by
    intro l
    induction l with
    | nil => intro a _ _; simp; omega
    | cons c l ih =>
      intro a h ha
      simp only [List.all_cons, Bool.and_eq_true] at h
      have hf := h.1
      simp only [figB, Bool.and_eq_true, decide_eq_true_eq] at hf
      have hd : 0 ≤ digI c ∧ digI c ≤ 9 := by unfold digI; omega
      have h2 := ih (a * 10 + digI c) h.2 (by omega)
      simp only [List.foldl_cons, List.length_cons]
      have hp : (0 : Int) ≤ 10 ^ l.length := Int.le_of_lt (Int.pow_pos (by omega))
      have e : (a + 1) * 10 ^ (l.length + 1) = (a + 1) * 10 * 10 ^ l.length := by rw [Int.pow_succ, Int.mul_comm (10 ^ l.length) 10, Int.mul_assoc]
      rw [e]
      exact Int.lt_of_lt_of_le h2 (Int.mul_le_mul_of_nonneg_right (by omega) hp)
  have h2 := this l 0 h (by omega)
  simpa [valI] using h2

set_option maxRecDepth 100000 in
set_option maxHeartbeats 1000000 in
theorem l1Num_any (s : ByteArray) (hs : s.size ≤ maxLen) (w : World) :
    Calls Try.prog 49 #[.string s] w fun e w' => e = .returned (.int .i64 (numI s.data.toList)) ∧ w' = w := by
  unfold maxLen at hs
  go_enter Try.func49, Try.ntmps49
  go_wp2
  go_loop [3, 4] (fun n i => ∃ k : Nat, k ≤ s.size ∧ k ≤ 6 ∧ i = .int .i64 k ∧ n = .int .i64 (valI (s.data.toList.take k)) ∧ Hid ((s.data.toList.take k).all (fun c => figB c.toNat) = true)) (fun _ i => s.size - (intOf i).toNat)
  case atStart => exact ⟨0, Nat.zero_le _, by omega, rfl, rfl, hid (by simp)⟩
  case round =>
    obtain ⟨k, hk, hk6, rfl, rfl, hall⟩ := hrel
    have v0 := valI_nn (s.data.toList.take k)
    have v1 : valI (s.data.toList.take k) ≤ 1000000 := by
      have h1 := val_small _ (unhid hall)
      have h2 : (s.data.toList.take k).length ≤ 6 := by have := List.length_take_le k s.data.toList; omega
      have h3 := pow_six _ h2
      omega
    by_cases hlt : k < s.size
    · have Hs := hid (take_val s k hlt)
      have Ha := hid (all_take_succ s k hlt (fun c => figB c.toNat))
      have hd := digI_nn s[k]
      have ed : ((s[k].toNat : Int) - 48) % 256 = digI s[k] := rfl
      have bad : figB (s[k].toNat : Int) = false → numI s.data.toList = -1 := fun hf => by
        have := all_take_lt hlt (p := fun c => figB c.toNat) hf
        unfold numI plainNum
        rw [this]; simp
      have Hbad := hid bad
      clear bad
      by_cases f1 : (s[k].toNat : Int) < 48
      · go_wp2
        go_ret
        exact ⟨by rw [unhid Hbad (by simp [figB]; omega)]; rfl, rfl⟩
      · by_cases f2 : (57 : Int) < s[k].toNat
        · go_wp2
          go_ret
          exact ⟨by rw [unhid Hbad (by simp [figB]; omega)]; rfl, rfl⟩
        · by_cases h6 : (6 : Int) ≤ k
          · go_wp2
            go_ret
            have : numI s.data.toList = -1 := by
              unfold numI
              rw [if_neg]; simp; intro _; omega
            exact ⟨by rw [this]; rfl, rfl⟩
          · have hfig : figB (s[k].toNat : Int) = true := by simp [figB]; omega
            have ed2 : digI s[k] = (s[k].toNat : Int) - 48 := by unfold digI; omega
            have Ed2 := hid ed2
            clear ed2
            go_wp2
            refine ⟨⟨k + 1, by omega, by omega, by go_num, ?_, hid ?_⟩, by simp [intOf]; omega⟩
            · rw [unhid Hs, unhid Ed2]
            · rw [unhid Ha, unhid hall, hfig]; rfl
    · have hall' : (s.data.toList.all fun c => figB c.toNat) = true := by
        have := unhid hall; rwa [List.take_of_length_le (by simp; omega)] at this
      have hval : s.data.toList.take k = s.data.toList := List.take_of_length_le (by simp; omega)
      have hlen : s.data.toList.length = s.size := (Lib.size_eq s).symm
      have Hall := hid hall'
      have Hval := hid hval
      have Hlen := hid hlen
      clear hall' hval hlen
      by_cases h0 : s.size = 0
      · have h0' : ((s.size : Int) == 0) = true := by simp [h0]
        go_wp2
        go_ret
        have : numI s.data.toList = -1 := by
          have he : s.data.toList = [] := List.length_eq_zero_iff.1 (by rw [unhid Hlen]; exact h0)
          rw [he]; rfl
        exact ⟨by rw [this]; rfl, rfl⟩
      · have h0' : ((s.size : Int) == 0) = false := by rw [beq_eq_false_iff_ne]; omega
        by_cases h1 : (1 : Int) < s.size
        · by_cases hz : s[0] = 48
          · have hz' : (((s[0]).toNat : Int) == 48) = true := by simp [hz]
            go_wp2
            go_ret
            have : numI s.data.toList = -1 := by
              have hg := getByte s 0 (by omega)
              unfold numI plainNum
              rw [hg, hz, unhid Hlen, decide_eq_true (show 1 < s.size by omega)]; simp
            exact ⟨by rw [this]; rfl, rfl⟩
          · have hz' : (((s[0]).toNat : Int) == 48) = false := by
              rw [beq_eq_false_iff_ne]; intro h; exact hz (UInt8.toNat_inj.1 (by simp; omega))
            go_wp2
            go_ret
            have : numI s.data.toList = valI s.data.toList := by
              have hg := getByte s 0 (by omega)
              have hne : s.data.toList.isEmpty = false := by rw [List.isEmpty_eq_false_iff, ← List.length_pos_iff, unhid Hlen]; omega
              have h48 : (some s[0] == some 48) = false := by simp [hz]
              unfold numI plainNum
              rw [hg, unhid Hall, unhid Hlen, hne, h48, decide_eq_true (show s.size ≤ 6 by omega)]; simp
            exact ⟨by rw [this, unhid Hval]; rfl, rfl⟩
        · go_wp2
          go_ret
          have : numI s.data.toList = valI s.data.toList := by
            have hne : s.data.toList.isEmpty = false := by rw [List.isEmpty_eq_false_iff, ← List.length_pos_iff, unhid Hlen]; omega
            unfold numI plainNum
            rw [unhid Hall, unhid Hlen, hne, decide_eq_true (show s.size ≤ 6 by omega), decide_eq_false (show ¬ 1 < s.size by omega)]; simp
          exact ⟨by rw [this, unhid Hval]; rfl, rfl⟩

theorem ownsRow_base {W : World} {base base' : Nat} {e : TypeId} {size : Nat} {v : Value} {n : Nat} {xs : List Value} (h : W.ownsRow base e size v n xs) (hb : base' ≤ base) : W.ownsRow base' e size v n xs := by
  rcases h.2 with h2 | ⟨g, cap, cur, hv, hg, rest⟩
  · exact ⟨h.1, .inl h2⟩
  · exact ⟨h.1, .inr ⟨g, cap, cur, hv, by omega, rest⟩⟩
def numsTake (xs : List ByteArray) (k : Nat) : List Value := (((datas xs).take k).map valI).map (Value.int .i64)
theorem numsTake_succ (xs : List ByteArray) (k : Nat) (x : ByteArray) (h : xs[k]? = some x) : numsTake xs (k + 1) = numsTake xs k ++ [.int .i64 (valI x.data.toList)] := by
  unfold numsTake
  rw [List.take_add_one, List.getElem?_map, h]
  simp

set_option maxRecDepth 100000 in
set_option maxHeartbeats 2000000 in
theorem l3Parts_any (s : ByteArray) (hs : s.size ≤ 1048576) (w : World) :
    Calls Try.prog 27 #[.string s] w fun e w' => ∃ v, e = .returned (.tuple #[v, .bool (versOk s.data.toList)]) ∧ (versOk s.data.toList = true → w'.ownsRow w.heap.size 3 1 v (versL s.data.toList).length ((versL s.data.toList).map (Value.int .i64))) ∧ Below w.heap.size w w' := by
  obtain ⟨i0, hi, hz0, hz1, hz2⟩ := info_parts info3
  go_enter Try.func27, Try.ntmps27
  go_wp2_with fail
  refine (l1Cut_any s 46 _ hs (by omega) (by omega) _).mono ?_
  rintro e w1 ⟨v, xs, rfl, hxs, hown, hB⟩
  have hne : xs ≠ [] := by
    intro h; subst h; exact cutB_ne _ _ hxs.symm
  obtain ⟨n, hn⟩ : ∃ n, xs.length = n + 1 := ⟨xs.length - 1, by have := List.length_pos_iff.2 hne; omega⟩
  rw [hn] at hown
  obtain ⟨g, cap, rfl⟩ := ownsRow_succ hown
  have hg : g < w1.heap.size := (hown.lt g rfl).2
  have hcell : ∀ (k : Nat) x, xs[k]? = some x → w1.cell? ⟨g, k, none⟩ = some (.string x) := fun k x hx => by
    have hk : k < xs.length := (List.getElem?_eq_some_iff.1 hx).1
    rw [hown.cellAt k (by omega), List.getElem?_map, hx]; rfl
  have hlen : ∀ x ∈ xs, x.size ≤ maxLen := fun x hx => by
    have h1 : x.data.toList ∈ cutB 46 s.data.toList := by rw [← hxs]; exact List.mem_map.2 ⟨x, hx, rfl⟩
    have h2 := cutB_le 46 _ _ h1
    rw [← Lib.size_eq, ← Lib.size_eq] at h2
    unfold maxLen; omega
  have hns : n ≤ 1048576 := by
    have := cutB_length 46 s.data.toList
    rw [← hxs, ← Lib.size_eq] at this
    simp [datas] at this
    omega
  have Hcell := hid hcell
  have Hlen := hid hlen
  have Hxs := hid hxs
  have Hn := hid hn
  have HB := hid hB
  clear hown hcell hlen hxs hn hB
  go_wp2_with fail
  go_loopw [5, 6, 7] (fun o i _ wr => ∃ (k g' cap' : Nat), k ≤ n + 1 ∧ o = .slice (some ⟨g', 0, none⟩) k cap' ∧ i = .int .i64 k ∧ Hid (((datas xs).take k).all (fun p => numOk p 999) = true) ∧ wr.ownsRow w1.heap.size 3 1 (.slice (some ⟨g', 0, none⟩) k cap') k (numsTake xs k) ∧ Below w1.heap.size w1 wr)
    (fun _ i _ _ => n + 1 - (intOf i).toNat)
  case atStart => exact ⟨0, w1.heap.size, 0, by omega, rfl, rfl, hid (by simp), World.ownsRow_lit w1 #[] 0 (Nat.le_refl _) (by omega) (by simp), (Below.refl _ _).alloc (Nat.le_refl _) _⟩
  case round =>
    obtain ⟨k, g', cap', hk, rfl, rfl, hall, hown, hB1⟩ := hrel
    have HB1 := hid hB1
    have Hown := hid hown
    have hsz := hB1.size
    clear hB1 hown
    by_cases hlt : k < n + 1
    · obtain ⟨x, hx⟩ : ∃ x, xs[k]? = some x := ⟨xs[k]'(by rw [unhid Hn]; exact hlt), List.getElem?_eq_getElem _⟩
      have hck : wr.cell? ⟨g, k, none⟩ = some (.string x) := ((unhid HB1).cell (p := ⟨g, k, none⟩) hg).trans (unhid Hcell k x hx)
      have hlk := unhid Hlen x (List.mem_of_getElem? hx)
      have Hx := hid hx
      clear hx
      cases hb : numOk x.data.toList 999
      · have hin := num_in x.data.toList
        rw [hb] at hin
        have Hin := hid hin
        clear hin
        go_wp2_with fail
        refine (l1Num_any x hlk _).mono ?_
        rintro e w2 ⟨rfl, rfl⟩
        go_wp2_with fail
        refine (l1In_any _ _ _ _).mono ?_
        rintro e w2 ⟨rfl, rfl⟩
        rw [unhid Hin]
        go_wp2_with fail
        go_ret2
        have hf : versOk s.data.toList = false := by
          unfold versOk
          rw [← unhid Hxs, List.all_eq_false.2 ⟨x.data.toList, List.mem_map.2 ⟨x, List.mem_of_getElem? (unhid Hx), rfl⟩, by simp [hb]⟩]; simp
        exact ⟨.slice (some ⟨g', 0, none⟩) k cap', by rw [hf]; rfl, (fun h => by rw [hf] at h; cases h), (unhid HB).trans ((unhid HB1).mono (unhid HB).size)⟩
      · have hin := num_in x.data.toList
        rw [hb] at hin
        have Hin := hid hin
        have Hv := hid (num_val _ hb)
        clear hin
        go_wp2_with fail
        refine (l1Num_any x hlk _).mono ?_
        rintro e w2 ⟨rfl, rfl⟩
        go_wp2_with fail
        refine (l1In_any _ _ _ _).mono ?_
        rintro e w2 ⟨rfl, rfl⟩
        rw [unhid Hin]
        go_wp2_with (at_builtin; refine wpList_append_own _ rfl _ _ 43 rfl w1.heap.size 3 i0 (.int .i64 0) 1 8 Try.underlying43 hi hz0 hz1 hz2 rfl (by decide) _ _ _ rfl ((unhid Hown).alloc _) ⟨_, 0, none⟩ 1 1 [.int .i64 (numI x.data.toList)] rfl rfl ?c1 ?c2 ?c3 ?c4 ?c5 ?_)
        case c1 => exact cell_one_new _ _ _
        case c2 => intro u hu; simp at hu; subst hu; rfl
        case c3 => unfold maxLen; omega
        case c4 => omega
        case c5 => simp; omega
        intro v' w3 hown' hgrow _
        obtain ⟨g2, cap2, rfl⟩ := ownsRow_succ hown'
        have hB3 := ((unhid HB1).alloc (unhid HB1).size (.cells #[.int .i64 (numI x.data.toList)] 3)).grown hgrow (by simp; omega) (fun j e => ((unhid Hown).lt j e).1)
        have HO3 := hid hown'
        have HB3 := hid hB3
        clear hown' hgrow hB3
        go_wp2_with fail
        go_roundw
        case rel => exact ⟨k + 1, g2, cap2, by omega, rfl, by go_num, hid (by rw [List.take_add_one, List.getElem?_map, unhid Hx, List.all_append, unhid hall]; simp [hb]), by rw [numsTake_succ xs k x (unhid Hx), ← unhid Hv]; exact unhid HO3, unhid HB3⟩
        case measure => simp [intOf]; omega
    · go_wp2_with fail
      go_ret2
      obtain rfl : k = n + 1 := by omega
      have hl : (datas xs).length = n + 1 := by rw [← unhid Hn]; simp [datas]
      have hall' : ((datas xs).all fun p => numOk p 999) = true := by have := unhid hall; rwa [List.take_of_length_le (by omega)] at this
      have hf : versOk s.data.toList = decide ((n : Int) + 1 ≤ 4) := by
        unfold versOk
        rw [← unhid Hxs, hall', hl, Bool.and_true]
        simp; omega
      have hL : (versL s.data.toList).length = n + 1 := by rw [versL, List.length_map, ← unhid Hxs, hl]
      refine ⟨.slice (some ⟨g', 0, none⟩) (n + 1) cap', by rw [hf]; rfl, (fun _ => ?_), (unhid HB).trans ((unhid HB1).mono (unhid HB).size)⟩
      have ho := ownsRow_base (unhid Hown) (unhid HB).size
      rw [hL]
      have e : (versL s.data.toList).map (Value.int .i64) = numsTake xs (n + 1) := by
        rw [versL, numsTake, ← unhid Hxs, List.take_of_length_le (by omega)]
      rw [e]; exact ho
end Go.Proofs.Ytobalkbddefaiaa
