/- Lines of a hunk that are there ahead of it, or behind it, by the program and by its model. -/
import Derived.Test.YtedimkcnemhhpaaLines
import Derived.Maps.AppendAt
namespace Go.Proofs.Ytedimkcnemhhpaa
open Go.RowKit Go.Shelf

theorem ownsRow_baseX {W : World} {N N' n size : Nat} {v : Value} {e : TypeId} {xs : List Value} (h : W.ownsRow N e size v n xs) (hN : N' ≤ N) : W.ownsRow N' e size v n xs :=
  ⟨h.1, h.2.imp id (fun ⟨g, cap, cur, a, b, c⟩ => ⟨g, cap, cur, a, Nat.le_trans hN b, c⟩)⟩
theorem filterMap_eqX {α β : Type} {f g : α → Option β} : ∀ {l : List α}, (∀ x ∈ l, f x = g x) → l.filterMap f = l.filterMap g
  | [], _ => rfl
  | a :: l, h => by
    rw [List.filterMap_cons, List.filterMap_cons, h a (by simp), filterMap_eqX fun x hx => h x (by simp [hx])]
/-- A line without its sign, if that is a blank or a given one. -/
def cutX (c : UInt8) (x : ByteArray) : Option ByteArray := match x.data.toList with
  | [] => none
  | d :: _ => if d == 32 || d == c then some (x.extract 1 x.size) else none
def withX (c : UInt8) (xs : List ByteArray) : List ByteArray := xs.filterMap (cutX c)
theorem withX_take (c : UInt8) (xs : List ByteArray) (k : Nat) (x : ByteArray) (h : xs[k]? = some x) : withX c (xs.take (k + 1)) = withX c (xs.take k) ++ (cutX c x).toList := by
  unfold withX
  rw [List.take_add_one, h, List.filterMap_append]
  congr 1
theorem withX_len (c : UInt8) (xs : List ByteArray) : (withX c xs).length ≤ xs.length := List.length_filterMap_le _ _
theorem cutX_cons {c : UInt8} {x : ByteArray} (h : 0 < x.size) : cutX c x = if x[0] == 32 || x[0] == c then some (x.extract 1 x.size) else none := by
  unfold cutX; rw [str_cons h]

set_option maxRecDepth 100000 in
set_option maxHeartbeats 2000000 in
theorem linesWith_any (h : Hk) (c : UInt8) (la : Option Addr) (cap : Nat) (w : World) (hlen : h.lines.length ≤ 1048576) (hz : ∀ x ∈ h.lines, 0 < x.size ∧ x.size ≤ maxLen) (ht : TxtsAt w la h.lines) :
    Calls Try.prog 86 #[.agg #[.int .i64 h.at_, .slice la h.lines.length cap], .int .u8 c.toNat] w fun e w' => ∃ v, e = .returned v ∧ w'.ownsRow w.heap.size 9 1 v (withX c h.lines).length ((withX c h.lines).map Value.string) ∧ Below w.heap.size w w' := by
  obtain ⟨at_, xs⟩ := h
  dsimp only at *
  have HT := hid ht
  have HZ := hid hz
  clear ht hz
  have hA : ∀ o, Below w.heap.size w (w.alloc o) := fun o => (Below.refl _ w).alloc (Nat.le_refl _) o
  have HA := hid hA
  clear hA
  obtain ⟨i0, hi, hz0, hz1, hz2⟩ := info_parts infoTxt
  go_enter Try.func86, Try.ntmps86
  go_wp2_with fail
  go_loopw [5, 11] (fun o i wr => ∃ (k : Nat) (ad : Option Addr) (cp : Nat), k ≤ xs.length ∧ i = .int .i64 k ∧ o = .slice ad (withX c (xs.take k)).length cp ∧ wr.ownsRow w.heap.size 9 1 (.slice ad (withX c (xs.take k)).length cp) (withX c (xs.take k)).length ((withX c (xs.take k)).map Value.string) ∧ Below w.heap.size w wr) (fun _ i _ => xs.length - (intOf i).toNat)
  case atStart => exact ⟨0, none, 0, Nat.zero_le _, rfl, rfl, World.ownsRow_nil _ _ _ _, unhid HA _⟩
  case round =>
    obtain ⟨k, ad, cp, hk, rfl, rfl, hown, hB⟩ := hrel
    have hwl : (withX c (xs.take k)).length ≤ k := Nat.le_trans (withX_len _ _) (by simp; omega)
    by_cases hlt : k < xs.length
    · obtain ⟨x, he⟩ : ∃ e, xs[k]? = some e := ⟨xs[k], List.getElem?_eq_getElem hlt⟩
      obtain ⟨b, o, rfl, hbl, hc⟩ := (unhid HT).get (by intro e; subst e; simp at hlt)
      have c0 := (hB.cell (p := ⟨b, o + k, .none⟩) hbl).trans (hc k x he)
      obtain ⟨z1, z2⟩ := unhid HZ x (List.mem_of_getElem? he)
      have z3 : x.size ≤ 9223372036854775807 := z2
      have HS := hid (withX_take c xs k x he)
      have HC := hid (cutX_cons (c := c) z1)
      clear hc he z2
      generalize withX c (xs.take k) = ys at *
      cases hd : (x[0] == 32 || x[0] == c)
      · have b1 : (((x[0]).toNat : Int) == 32) = false := by
          rw [Bool.or_eq_false_iff, beq_eq_false_iff_ne] at hd
          rw [beq_eq_false_iff_ne]; intro h; exact hd.1 (UInt8.toNat_inj.1 (by show _ = 32; omega))
        have b2 : (((x[0]).toNat : Int) == (c.toNat : Int)) = false := by
          rw [Bool.or_eq_false_iff, beq_eq_false_iff_ne, beq_eq_false_iff_ne] at hd
          rw [beq_eq_false_iff_ne]; intro h; exact hd.2 (UInt8.toNat_inj.1 (by omega))
        have E := hid (show withX c (xs.take (k + 1)) = ys by rw [unhid HS, unhid HC, hd]; simp)
        clear hd HC HS
        go_wp2_with fail
        go_roundw
        case rel => exact ⟨k + 1, ad, cp, by omega, by go_num, by rw [unhid E], by rw [unhid E]; exact hown, hB⟩
        case measure => simp [intOf]; omega
      · have E := hid (show withX c (xs.take (k + 1)) = ys ++ [x.extract 1 x.size] by rw [unhid HS, unhid HC, hd]; simp)
        have hor : (((x[0]).toNat : Int) == 32) = true ∨ ((((x[0]).toNat : Int) == 32) = false ∧ (((x[0]).toNat : Int) == (c.toNat : Int)) = true) := by
          cases hq : (((x[0]).toNat : Int) == 32)
          · refine .inr ⟨rfl, ?_⟩
            rw [Bool.or_eq_true, beq_iff_eq, beq_iff_eq] at hd
            rcases hd with hd | hd
            · rw [hd] at hq; exact absurd hq (by decide)
            · rw [hd]; simp
          · exact .inl rfl
        clear hd HC HS
        rcases hor with b1 | ⟨b1, b2⟩
        all_goals
          go_wp2_with (at_builtin; refine wpList_append_own _ rfl _ _ 29 rfl w.heap.size 9 i0 (.string ⟨#[]⟩) 1 16 Try.underlying29 hi hz0 hz1 hz2 rfl (by decide) _ _ _ rfl (hown.alloc _) ⟨wr.heap.size, 0, none⟩ 1 1 [.string (x.extract 1 x.size)] rfl rfl ?c1 ?c2 ?c3 ?c4 ?c5 ?_)
          case c1 => exact cell_one_new _ _ _
          case c2 => intro u hu; simp at hu; subst hu; rfl
          case c3 => unfold maxLen; omega
          case c4 => omega
          case c5 => have := hB.size; simp; omega
          intro v' w1 hown' hgrow _
          obtain ⟨g', cap', rfl⟩ := ownsRow_succ hown'
          have hB1 : Below w.heap.size w w1 := (hB.alloc hB.size _).grown hgrow (by have := hB.size; simp; omega) (fun j e => (hown.lt j e).1)
          clear hgrow hown
          go_wp2
          go_roundw
          case rel => exact ⟨k + 1, some ⟨g', 0, none⟩, cap', by omega, by go_num, by rw [unhid E]; simp, by rw [unhid E]; simpa using hown', hB1⟩
          case measure => simp [intOf]; omega
    · have e : k = xs.length := by omega
      subst e
      rw [List.take_of_length_le (Nat.le_refl _)] at hown ⊢
      go_wp2_with fail
      go_ret
      exact ⟨_, rfl, hown, hB⟩

set_option maxRecDepth 100000 in
set_option maxHeartbeats 1000000 in
theorem elderLines_any (h : Hk) (la : Option Addr) (cap : Nat) (w : World) (hlen : h.lines.length ≤ 1048576) (hz : ∀ x ∈ h.lines, 0 < x.size ∧ x.size ≤ maxLen) (ht : TxtsAt w la h.lines) :
    Calls Try.prog 49 #[.agg #[.int .i64 h.at_, .slice la h.lines.length cap]] w fun e w' => ∃ v, e = .returned v ∧ w'.ownsRow w.heap.size 9 1 v (withX 45 h.lines).length ((withX 45 h.lines).map Value.string) ∧ Below w.heap.size w w' := by
  have HT := hid ht
  have HZ := hid hz
  clear ht hz
  have hA : ∀ o, Below w.heap.size w (w.alloc o) := fun o => (Below.refl _ w).alloc (Nat.le_refl _) o
  have HA := hid hA
  clear hA
  go_enter Try.func49, Try.ntmps49
  go_wp2_with fail
  refine (linesWith_any h 45 la cap _ hlen (unhid HZ) ((unhid HT).below (unhid HA _))).mono ?_
  rintro e w1 ⟨v, rfl, ho, hb⟩
  have HO := hid (ownsRow_baseX ho (unhid HA _).size)
  have HB := hid ((unhid HA _).trans (hb.mono (unhid HA _).size))
  clear ho hb
  go_wp2_with fail
  go_ret
  exact ⟨v, rfl, unhid HO, unhid HB⟩

def oldX (c : UInt8) (xs : List ByteArray) : List ByteArray := xs.filterMap fun x => if x.data.toList.head? == some c then none else some (x.extract 1 x.size)
theorem oldX_take (c : UInt8) (xs : List ByteArray) (k : Nat) (x : ByteArray) (h : xs[k]? = some x) (hp : 0 < x.size) : oldX c (xs.take (k + 1)) = oldX c (xs.take k) ++ (if x[0] == c then [] else [x.extract 1 x.size]) := by
  unfold oldX
  rw [List.take_add_one, h, List.filterMap_append]
  congr 1
  simp only [Option.toList, List.filterMap_cons, List.filterMap_nil, str_cons hp, List.head?_cons]
  cases hx : (x[0] == c)
  · have : (some x[0] == some c) = false := hx
    simp [this]
  · have : (some x[0] == some c) = true := hx
    simp [this]
theorem oldX_len (c : UInt8) (xs : List ByteArray) : (oldX c xs).length ≤ xs.length := List.length_filterMap_le _ _
theorem old_with {xs : List ByteArray} (h : ∀ x ∈ xs, hkLineB x.data.toList = true) : oldX 43 xs = withX 45 xs := by
  unfold oldX withX
  refine filterMap_eqX fun x hx => ?_
  have := h x hx
  unfold cutX
  cases hl : x.data.toList with
  | nil => rw [hl] at this; cases this
  | cons d t =>
    rw [hl] at this
    simp only [hkLineB, signB, Bool.and_eq_true, Bool.or_eq_true, beq_iff_eq] at this
    rcases this.1 with (h1 | h1) | h1
    · obtain rfl : d = 32 := UInt8.toNat_inj.1 (by show _ = 32; omega)
      rfl
    · obtain rfl : d = 45 := UInt8.toNat_inj.1 (by show _ = 45; omega)
      rfl
    · obtain rfl : d = 43 := UInt8.toNat_inj.1 (by show _ = 43; omega)
      rfl

set_option maxRecDepth 100000 in
set_option maxHeartbeats 2000000 in
theorem l5Old_any (h : Hk) (la : Option Addr) (cap : Nat) (w : World) (hlen : h.lines.length ≤ 1048576) (hz : ∀ x ∈ h.lines, 0 < x.size ∧ x.size ≤ maxLen) (ht : TxtsAt w la h.lines) :
    Calls Try.prog 46 #[.agg #[.int .i64 h.at_, .slice la h.lines.length cap]] w fun e w' => ∃ v, e = .returned v ∧ w'.ownsRow w.heap.size 9 1 v (oldX 43 h.lines).length ((oldX 43 h.lines).map Value.string) ∧ Below w.heap.size w w' := by
  obtain ⟨at_, xs⟩ := h
  dsimp only at *
  have HT := hid ht
  have HZ := hid hz
  clear ht hz
  have HA := hid (show Below w.heap.size w (w.alloc (.cells #[.int .i64 at_, .slice la xs.length cap] 46)) from (Below.refl _ w).alloc (Nat.le_refl _) _)
  have TW := hid (twoAt_new w at_ (.slice la xs.length cap) 46)
  have hsz : (w.alloc (.cells #[.int .i64 at_, .slice la xs.length cap] 46)).heap.size = w.heap.size + 1 := by simp
  have HSZ := hid hsz
  clear hsz
  obtain ⟨i0, hi, hz0, hz1, hz2⟩ := info_parts infoTxt
  go_enter Try.func46, Try.ntmps46
  go_wp2_with fail
  generalize w.alloc (.cells #[.int .i64 at_, .slice la xs.length cap] 46) = wb at *
  go_loopw [3, 4] (fun o i wr => ∃ (k : Nat) (ad : Option Addr) (cp : Nat), k ≤ xs.length ∧ i = .int .i64 k ∧ o = .slice ad (oldX 43 (xs.take k)).length cp ∧ wr.ownsRow (w.heap.size + 1) 9 1 (.slice ad (oldX 43 (xs.take k)).length cp) (oldX 43 (xs.take k)).length ((oldX 43 (xs.take k)).map Value.string) ∧ Below (w.heap.size + 1) wb wr) (fun _ i _ => xs.length - (intOf i).toNat)
  case atStart => exact ⟨0, _, 0, Nat.zero_le _, rfl, rfl, by have := World.ownsRow_lit (e := 9) (size := 1) wb #[] 0 (show w.heap.size + 1 ≤ wb.heap.size by rw [unhid HSZ]; exact Nat.le_refl _) (by omega) (by simp); rw [unhid HSZ] at this; exact this, (Below.refl _ _).alloc (by rw [unhid HSZ]; exact Nat.le_refl _) _⟩
  case round =>
    obtain ⟨k, ad, cp, hk, rfl, rfl, hown, hB⟩ := hrel
    have hwl : (oldX 43 (xs.take k)).length ≤ k := Nat.le_trans (oldX_len _ _) (by simp; omega)
    obtain ⟨⟨m0, _⟩, m1, _⟩ := (unhid TW).below hB (Nat.lt_succ_self _)
    have hBw := (unhid HA).trans (hB.mono (Nat.le_succ _))
    have HBw := hid hBw
    by_cases hlt : k < xs.length
    · obtain ⟨x, he⟩ : ∃ e, xs[k]? = some e := ⟨xs[k], List.getElem?_eq_getElem hlt⟩
      obtain ⟨b, o, rfl, hbl, hc⟩ := (unhid HT).get (by intro e; subst e; simp at hlt)
      have c0 := (hBw.cell (p := ⟨b, o + k, .none⟩) hbl).trans (hc k x he)
      obtain ⟨z1, z2⟩ := unhid HZ x (List.mem_of_getElem? he)
      have z3 : x.size ≤ 9223372036854775807 := z2
      have HS := hid (oldX_take 43 xs k x he z1)
      have hbz := hB.size
      rw [unhid HSZ] at hbz
      clear hc he z2 hBw
      generalize oldX 43 (xs.take k) = ys at *
      cases hd : (x[0] == 43)
      · have b1 : (((x[0]).toNat : Int) != 43) = true := by
          rw [beq_eq_false_iff_ne] at hd
          rw [bne_iff_ne]; intro h; exact hd (UInt8.toNat_inj.1 (by show _ = 43; omega))
        have E := hid (show oldX 43 (xs.take (k + 1)) = ys ++ [x.extract 1 x.size] by rw [unhid HS, hd]; simp)
        clear hd HS
        go_wp2_with (at_builtin; refine wpList_append_own _ rfl _ _ 29 rfl (w.heap.size + 1) 9 i0 (.string ⟨#[]⟩) 1 16 Try.underlying29 hi hz0 hz1 hz2 rfl (by decide) _ _ _ rfl (hown.alloc _) ⟨wr.heap.size, 0, none⟩ 1 1 [.string (x.extract 1 x.size)] rfl rfl ?c1 ?c2 ?c3 ?c4 ?c5 ?_)
        case c1 => exact cell_one_new _ _ _
        case c2 => intro u hu; simp at hu; subst hu; rfl
        case c3 => unfold maxLen; omega
        case c4 => omega
        case c5 => simp; omega
        intro v' w1 hown' hgrow _
        obtain ⟨g', cap', rfl⟩ := ownsRow_succ hown'
        have hB1 : Below (w.heap.size + 1) wb w1 := (hB.alloc hbz _).grown hgrow (by simp; omega) (fun j e => (hown.lt j e).1)
        clear hgrow hown
        go_wp2
        go_roundw
        case rel => exact ⟨k + 1, some ⟨g', 0, none⟩, cap', by omega, by go_num, by rw [unhid E]; simp, by rw [unhid E]; simpa using hown', hB1⟩
        case measure => simp [intOf]; omega
      · have b1 : (((x[0]).toNat : Int) != 43) = false := by
          rw [beq_iff_eq] at hd
          rw [hd]; decide
        have E := hid (show oldX 43 (xs.take (k + 1)) = ys by rw [unhid HS, hd]; simp)
        clear hd HS
        go_wp2_with fail
        go_roundw
        case rel => exact ⟨k + 1, ad, cp, by omega, by go_num, by rw [unhid E], by rw [unhid E]; exact hown, hB⟩
        case measure => simp [intOf]; omega
    · have e : k = xs.length := by omega
      subst e
      rw [List.take_of_length_le (Nat.le_refl _)] at hown ⊢
      clear hBw
      go_wp2_with fail
      go_ret
      exact ⟨_, rfl, ownsRow_baseX hown (Nat.le_succ _), unhid HBw⟩
end Go.Proofs.Ytedimkcnemhhpaa
