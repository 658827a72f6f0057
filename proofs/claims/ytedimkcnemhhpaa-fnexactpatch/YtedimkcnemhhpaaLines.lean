/- Lines of texts and of hunks, by the program and by its model. -/
import Derived.Test.YtedimkcnemhhpaaHunksTo
import Derived.WalkSpells
namespace Go.Proofs.Ytedimkcnemhhpaa
open Go.RowKit Go.Shelf

def lineC (c : Int) : Bool := decide (32 ≤ c) && decide (c ≤ 126)
def lineB (l : List UInt8) : Bool := decide (l.length ≤ 80) && l.all fun c => lineC c.toNat
def signB (c : Int) : Bool := c == 32 || c == 45 || c == 43
def hkLineB : List UInt8 → Bool
  | [] => false
  | c :: t => signB c.toNat && lineB t

set_option maxHeartbeats 1000000 in
theorem isLineByte_any (c : Int) (w : World) :
    Calls Try.prog 104 #[.int .u8 c] w fun e w' => e = .returned (.bool (lineC c)) ∧ w' = w := by
  by_cases h1 : 32 ≤ c <;> by_cases h2 : c ≤ 126
  all_goals
    go_enter Try.func104, Try.ntmps104
    go_wp2
    go_ret
    exact ⟨by simp [lineC, h1, h2], rfl⟩
theorem egL : ∀ args w, (callFunc 104 args).run Try.prog w = .ok (.enter 104 args) w := enters_of Try.func104 (by kernel_rfl) rfl
theorem egT : ∀ args w, (callFunc 87 args).run Try.prog w = .ok (.enter 87 args) w := enters_of Try.func87 (by kernel_rfl) rfl
theorem egK : ∀ args w, (callFunc 85 args).run Try.prog w = .ok (.enter 85 args) w := enters_of Try.func85 (by kernel_rfl) rfl

set_option maxRecDepth 100000 in
set_option maxHeartbeats 1000000 in
theorem textLineOk_any (s : ByteArray) (hs : s.size ≤ maxLen) (w : World) :
    Calls Try.prog 87 #[.string s] w fun e w' => e = .returned (.bool (lineB s.data.toList)) ∧ Below w.heap.size w w' := by
  have hl : s.data.toList.length = s.size := (Lib.size_eq s).symm
  by_cases h1 : (s.size : Int) ≤ 80
  · have E := hid (show lineB s.data.toList = s.data.toList.all fun c => lineC c.toNat by unfold lineB; rw [hl, decide_eq_true (by omega)]; rfl)
    clear hl
    go_enter Try.func87, Try.ntmps87
    go_wp2_with fail
    refine (allBytes_any 104 lineC egL isLineByte_any s hs _).mono ?_
    rintro e w' ⟨rfl, hb⟩
    have HB := hid hb
    clear hb
    rw [← unhid E]
    go_wp2_with fail
    go_ret
    exact ⟨rfl, unhid HB⟩
  · have E := hid (show lineB s.data.toList = false by unfold lineB; rw [hl, decide_eq_false (by omega)]; rfl)
    clear hl
    go_enter Try.func87, Try.ntmps87
    go_wp2_with fail
    go_ret
    exact ⟨by rw [unhid E]; rfl, Below.refl _ _⟩

set_option maxHeartbeats 1000000 in
theorem isSign_any (c : Int) (w : World) :
    Calls Try.prog 102 #[.int .u8 c] w fun e w' => e = .returned (.bool (signB c)) ∧ w' = w := by
  cases h1 : (c == 32)
  case' false => cases h2 : (c == 45)
  case' false.false => cases h3 : (c == 43)
  all_goals
    go_enter Try.func102, Try.ntmps102
    go_wp2
    go_ret
    exact ⟨by simp_all [signB], rfl⟩

theorem str_nil {s : ByteArray} (h : s.size = 0) : s = ⟨#[]⟩ := by
  have : s.data.toList = [] := List.length_eq_zero_iff.1 (by rw [← Lib.size_eq]; exact h)
  exact ByteArray.ext (Array.ext' this)
theorem str_cons {s : ByteArray} (h : 0 < s.size) : s.data.toList = s[0] :: (s.extract 1 s.size).data.toList := by
  have h0 : 0 < s.data.toList.length := by rw [← Lib.size_eq]; exact h
  rw [Lib.extract_data, List.take_of_length_le (by simp)]
  have := List.drop_eq_getElem_cons h0
  rw [List.drop_zero] at this
  exact this
theorem ne_empty {s : ByteArray} (h : 0 < s.size) : (s.toList == []) = false := by
  rw [Lib.toList_data, beq_eq_false_iff_ne, str_cons h]; simp
theorem empty_list : (⟨#[]⟩ : ByteArray).toList = [] := by rw [Lib.toList_data]

set_option maxRecDepth 100000 in
set_option maxHeartbeats 2000000 in
theorem hunkLineOk_any (s : ByteArray) (hs : s.size ≤ maxLen) (w : World) :
    Calls Try.prog 85 #[.string s] w fun e w' => e = .returned (.bool (hkLineB s.data.toList)) ∧ Below w.heap.size w w' := by
  by_cases h0 : s.size = 0
  · obtain rfl := str_nil h0
    go_enter Try.func85, Try.ntmps85
    go_wp2_with fail
    go_ret
    exact ⟨rfl, Below.refl _ _⟩
  · have hp : 0 < s.size := by omega
    have q1 := ne_empty hp
    have q0 := empty_list
    have q2 : (s.toList != []) = true := by simp only [bne, q1]; rfl
    have q3 : (s.toList == (⟨#[]⟩ : ByteArray).toList) = false := by rw [q0]; exact q1
    have q4 : (s.toList != (⟨#[]⟩ : ByteArray).toList) = true := by rw [q0]; exact q2
    have E := hid (show hkLineB s.data.toList = (signB s[0].toNat && lineB (s.extract 1 s.size).data.toList) by rw [str_cons hp]; rfl)
    have hs' : s.size ≤ 9223372036854775807 := hs
    have z1 : (s.extract 1 s.size).size ≤ maxLen := by rw [ByteArray.size_extract]; unfold maxLen; omega
    go_enter Try.func85, Try.ntmps85
    go_wp2_with fail
    refine (isSign_any _ _).mono ?_
    rintro e w' ⟨rfl, rfl⟩
    cases hx : signB s[0].toNat
    · have E2 := hid (show hkLineB s.data.toList = false by rw [unhid E, hx]; rfl)
      clear E hx
      go_wp2_with fail
      go_ret
      exact ⟨by rw [unhid E2]; rfl, Below.refl _ _⟩
    · have E2 := hid (show hkLineB s.data.toList = lineB (s.extract 1 s.size).data.toList by rw [unhid E, hx]; rfl)
      clear E hx
      go_wp2_with fail
      refine (textLineOk_any _ z1 _).mono ?_
      rintro e w' ⟨rfl, hb⟩
      have HB := hid hb
      clear hb
      rw [← unhid E2]
      go_wp2_with fail
      go_ret
      exact ⟨rfl, unhid HB⟩

set_option maxRecDepth 100000 in
set_option maxHeartbeats 2000000 in
theorem listOk_any (g : Nat) (T : List UInt8 → Bool) (eg : ∀ args w, (callFunc g args).run Try.prog w = .ok (.enter g args) w)
    (hT : ∀ (s : ByteArray) (w : World), s.size ≤ maxLen → Calls Try.prog g #[.string s] w fun e w' => e = .returned (.bool (T s.data.toList)) ∧ Below w.heap.size w w')
    (xs : List ByteArray) (a : Option Addr) (cap : Nat) (most : Int) (w : World) (hz : bigX xs) (hlen : xs.length ≤ maxLen) (h : TxtsAt w a xs) :
    Calls Try.prog 84 #[.slice a xs.length cap, .int .i64 most, .func (.func g) #[] #[]] w fun e w' => e = .returned (.bool (decide ((xs.length : Int) ≤ most) && xs.all fun x => T x.data.toList)) ∧ Below w.heap.size w w' := by
  unfold maxLen at hlen
  have HT := hid hT
  have HZ := hid hz
  clear hT hz
  by_cases h0 : (xs.length : Int) ≤ most
  · have E := hid (show (decide ((xs.length : Int) ≤ most) && xs.all fun x => T x.data.toList) = xs.all fun x => T x.data.toList by rw [decide_eq_true h0]; rfl)
    go_enter Try.func84, Try.ntmps84
    go_wp2_with fail
    go_loopw [15] (fun i wr => ∃ k : Nat, k ≤ xs.length ∧ i = .int .i64 k ∧ Hid ((xs.take k).all (fun x => T x.data.toList) = true) ∧ Below w.heap.size w wr) (fun i _ => xs.length - (intOf i).toNat)
    case atStart => exact ⟨0, Nat.zero_le _, rfl, hid (by simp), Below.refl _ _⟩
    case round =>
      obtain ⟨k, hk, rfl, hall, hB⟩ := hrel
      by_cases hlt : k < xs.length
      · obtain ⟨e, he⟩ : ∃ e, xs[k]? = some e := ⟨xs[k], List.getElem?_eq_getElem hlt⟩
        obtain ⟨b, o, rfl, hbl, hc⟩ := h.get (by intro e; subst e; simp at hlt)
        have c0 := (hB.cell (p := ⟨b, o + k, .none⟩) hbl).trans (hc k e he)
        have HS := hid (show xs.take (k + 1) = xs.take k ++ [e] by rw [List.take_add_one, he]; rfl)
        have HM := hid (List.mem_of_getElem? he)
        have HB := hid hB
        have HH := hid hc
        clear hc hB he h
        go_wp2_with fail
        refine (unhid HT e _ (unhid HZ e (unhid HM))).mono ?_
        rintro x w2 ⟨rfl, hb⟩
        have HB2 := hid ((unhid HB).trans (hb.mono (unhid HB).size))
        clear hb c0
        cases hx : T e.data.toList
        · go_wp2_with fail
          go_ret
          refine ⟨?_, unhid HB2⟩
          have : (xs.all fun x => T x.data.toList) = false := List.all_eq_false.2 ⟨e, unhid HM, by simp [hx]⟩
          rw [unhid E, this]; rfl
        · go_wp2_with fail
          go_roundw
          case rel => exact ⟨k + 1, by omega, by go_num, hid (by rw [unhid HS, List.all_append, unhid hall]; simp [hx]), unhid HB2⟩
          case measure => simp [intOf]; omega
      · have e : k = xs.length := by omega
        subst e
        go_wp2_with fail
        go_ret
        refine ⟨?_, hB⟩
        have := unhid hall
        rw [List.take_of_length_le (Nat.le_refl _)] at this
        rw [unhid E, this]; rfl
  · have E := hid (show (decide ((xs.length : Int) ≤ most) && xs.all fun x => T x.data.toList) = false by rw [decide_eq_false h0]; rfl)
    go_enter Try.func84, Try.ntmps84
    go_wp2_with fail
    go_ret
    exact ⟨by rw [unhid E]; rfl, Below.refl _ _⟩

theorem byte64 (c : UInt8) : wrap64 (c.toNat : Int) = (c.toNat : Int) := by
  have := c.toNat_lt
  unfold wrap64; omega
theorem byte_mem (s : ByteArray) (k : Nat) (h : k < s.size) : s[k] ∈ s.data.toList := by
  have : k < s.data.toList.length := by rw [← Lib.size_eq]; exact h
  exact List.getElem_mem this
set_option maxRecDepth 100000 in
set_option maxHeartbeats 2000000 in
theorem l5Seen_any (s : ByteArray) (hs : s.size ≤ maxLen) (w : World) :
    Calls Try.prog 83 #[.string s] w fun e w' => e = .returned (.bool (lineB s.data.toList)) ∧ w' = w := by
  unfold maxLen at hs
  have hl : s.data.toList.length = s.size := (Lib.size_eq s).symm
  have E := hid (show lineB s.data.toList = (decide ((s.size : Int) ≤ 80) && s.data.toList.all fun c => lineC c.toNat) by unfold lineB; rw [hl]; congr 1; simp; omega)
  clear hl
  go_enter Try.func83, Try.ntmps83
  go_wp2_with fail
  go_loop [3] (fun i => ∃ k : Nat, k ≤ s.size ∧ i = .int .i64 k ∧ Hid ((s.data.toList.take k).all (fun c => lineC c.toNat) = true)) (fun i => s.size - (intOf i).toNat)
  case atStart => exact ⟨0, by omega, rfl, hid (by simp)⟩
  case round =>
    obtain ⟨k, hk, rfl, hall⟩ := hrel
    by_cases hlt : k < s.size
    · have HS := hid (show s.data.toList.take (k + 1) = s.data.toList.take k ++ [s[k]] from take_snoc s k hlt)
      go_wp2_with fail
      refine (l1In_any _ _ _ _).mono ?_
      rintro e w' ⟨rfl, rfl⟩
      have hb : wrap64 (s[k].toNat : Int) = (s[k].toNat : Int) := byte64 s[k]
      rw [hb]
      cases hx : (decide ((32 : Int) ≤ s[k].toNat) && decide ((s[k].toNat : Int) ≤ 126))
      · have E2 := hid (show lineB s.data.toList = false by
          rw [unhid E, List.all_eq_false.2 ⟨s[k], byte_mem s k hlt, by unfold lineC; rw [hx]; simp⟩, Bool.and_false])
        clear hx hb
        go_wp2_with fail
        go_ret
        exact ⟨by rw [unhid E2]; rfl, rfl⟩
      · have HX := hid hx
        clear hx hb
        go_wp2_with fail
        refine ⟨⟨k + 1, by omega, by go_num, hid ?_⟩, by simp [intOf]; omega⟩
        rw [unhid HS, List.all_append, unhid hall]
        simp only [List.all_cons, List.all_nil, Bool.and_true, Bool.true_and]
        exact unhid HX
    · have e : k = s.size := by omega
      subst e
      have E2 := hid (show lineB s.data.toList = decide ((s.size : Int) ≤ 80) by
        have := unhid hall
        rw [List.take_of_length_le (by simp)] at this
        rw [unhid E, this, Bool.and_true])
      go_wp2_with fail
      go_ret
      exact ⟨by rw [unhid E2]; rfl, rfl⟩
end Go.Proofs.Ytedimkcnemhhpaa
