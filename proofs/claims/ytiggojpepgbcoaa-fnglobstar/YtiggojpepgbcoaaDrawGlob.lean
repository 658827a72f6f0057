/- What the draws of texts and patterns give: one of a short list of texts each. -/
import Derived.Test.YtiggojpepgbcoaaDrawPath
import Derived.Test.YtiggojpepgbcoaaGlobHas
import Derived.Test.YtiggojpepgbcoaaPathIn
namespace Go.Proofs.Ytiggojpepgbcoaa
open Go.RowKit Go.Shelf

def pathTexts : List (List UInt8) := [[97], [98], [97, 47, 98], [97, 47, 99], [97, 47, 98, 47, 99], [108, 105, 98], [108, 105, 98, 47, 120], [108, 105, 98, 47, 120, 46, 99], [100, 111, 99, 47, 121], [98, 105, 110], [98, 105, 110, 47, 122], [97, 47, 98, 47, 99, 47, 100, 47, 101], [], [47], [97, 47], [47, 97], [46], [46, 46], [97, 47, 47, 98], [65], [97, 47, 98, 47, 99, 47, 100, 47, 101, 47, 102], [101, 108, 101, 118, 101, 110, 108, 101, 116, 116, 101], [97, 32, 98], [120, 47, 46, 46, 47, 121]]
def globTexts : List (List UInt8) := [[97], [42], [42, 42], [97, 47, 42], [97, 47, 42, 42], [42, 42, 47, 99], [108, 105, 98, 47, 42, 46, 99], [108, 105, 98, 47, 63], [91, 97, 98, 93], [91, 33, 97, 93, 47, 42], [98, 42], [42, 42, 47, 98, 47, 42, 42], [42, 47, 42], [100, 111, 99, 47, 42, 42], [120, 42, 121, 42, 122], [91, 97, 45, 93], [], [47], [97, 47, 47, 98], [91], [91, 93], [91, 33, 93], [91, 97], [65], [97, 47, 98, 47, 99, 47, 100, 47, 101, 47, 102], [42, 42, 42, 42, 42, 42, 42, 42, 42, 42, 42, 42, 42, 42, 42, 42, 42, 42, 42, 42, 42, 42, 42, 42, 42, 42, 42, 42, 42, 42, 42, 42, 42, 42, 42, 42, 42, 42, 42, 42, 42], [42, 42, 42, 42, 42, 42, 42, 42, 42, 42, 42, 42, 42, 42, 42, 42, 42, 42, 42, 42, 42, 42, 42, 42, 42, 42, 42, 42, 42, 42, 42, 42, 42, 42, 42, 42, 42, 42, 42, 42]]
def oneOf (L : List (List UInt8)) (x : ByteArray) : Prop := x.data.toList ∈ L
def oneOfV (L : List (List UInt8)) : Value → Bool
  | .string x => L.contains x.data.toList
  | _ => false
theorem row_one (L : List (List UInt8)) (w : World) (cs : Array Value) (t : TypeId) (h : cs.toList.all (oneOfV L) = true) (k : Nat) (hk : k < cs.size) : ∃ x, oneOf L x ∧ (w.alloc (.cells cs t)).cell? ⟨w.heap.size, k, none⟩ = some (.string x) := by
  have h1 : (w.alloc (.cells cs t)).cell? ⟨w.heap.size, k, none⟩ = cs[k]? := by
    have := World.alloc_heap_new w (.cells cs t)
    unfold World.cell?
    dsimp only
    rw [this]
    simp
  rw [List.all_eq_true] at h
  have h2 := h cs[k] (by simp)
  rw [h1, Array.getElem?_eq_getElem hk]
  generalize cs[k] = v at h2
  cases v <;> first | cases h2 | exact ⟨_, List.contains_iff_mem.1 h2, rfl⟩

set_option maxRecDepth 100000 in
set_option maxHeartbeats 1000000 in
theorem l11Path_is (w : World) (b : Nat) (a : Option Addr) (len cap p : Nat) (h : Rd w b a len cap p) (hp : p ≤ 1048576) :
    Calls Try.prog 34 #[.pointer (some ⟨b, 0, none⟩)] w fun e w' => ∃ x, oneOf pathTexts x ∧ e = .returned (.string x) ∧ Rd w' b a len cap (p + 1) ∧ w.grownBy w' (some b) := by
  have H := hid h
  clear h
  go_enter Try.func34, Try.ntmps34
  go_wp2_with fail
  have hb := (unhid H).lt
  refine (of_any (oneOf pathTexts) _ b a len cap p ?h1 hp w.heap.size 12 12 ?h2 (by omega) (by omega) ?h5).mono ?_
  case h1 => exact (unhid H).alloc _
  case h2 => omega
  case h5 => exact fun k hk => row_one pathTexts w _ _ (by decide +kernel) k hk
  rintro e w1 ⟨x, hx, rfl, hR, hG⟩
  have hG' := grown_trans (World.grownBy_alloc w _ (some b)) hG
  have HR := hid hR
  have HG := hid hG'
  clear hR hG hG'
  go_wp2_with fail
  go_ret
  exact ⟨x, hx, rfl, unhid HR, unhid HG⟩

set_option maxRecDepth 100000 in
set_option maxHeartbeats 1000000 in
theorem l11AnyPath_is (w : World) (b : Nat) (a : Option Addr) (len cap p : Nat) (h : Rd w b a len cap p) (hp : p ≤ 1000000) :
    Calls Try.prog 21 #[.pointer (some ⟨b, 0, none⟩)] w fun e w' => ∃ x, oneOf pathTexts x ∧ e = .returned (.string x) ∧ Rd w' b a len cap (p + 1 + 1) ∧ w.grownBy w' (some b) := by
  have H := hid h
  clear h
  go_enter Try.func21, Try.ntmps21
  go_wp2_with fail
  refine (pick_any w b a len cap p (unhid H) (by omega) 6 (by omega) (by omega)).mono ?_
  rintro e w1 ⟨r, hr, rfl, hR, hG⟩
  have HR := hid hR
  have HG := hid hG
  clear hR hG
  by_cases h0 : r = 0
  · have h0' : ((r : Int) == 0) = true := by simp [h0]
    go_wp2_with fail
    have hb := (unhid HR).lt
    refine (of_any (oneOf pathTexts) _ b a len cap (p + 1) ?h1 (by omega) w1.heap.size 12 12 ?h2 (by omega) (by omega) ?h5).mono ?_
    case h1 => exact (unhid HR).alloc _
    case h2 => omega
    case h5 => exact fun k hk => row_one pathTexts w1 _ _ (by decide +kernel) k hk
    rintro e w2 ⟨x, hx, rfl, hR, hG⟩
    have hG' := grown_trans (unhid HG) (grown_trans (World.grownBy_alloc w1 _ (some b)) hG)
    have HR2 := hid hR
    have HG2 := hid hG'
    clear hR hG hG'
    go_wp2_with fail
    go_ret
    exact ⟨x, hx, rfl, unhid HR2, unhid HG2⟩
  · have h0' : ((r : Int) == 0) = false := by rw [beq_eq_false_iff_ne]; omega
    go_wp2_with fail
    refine (l11Path_is w1 b a len cap (p + 1) (unhid HR) (by omega)).mono ?_
    rintro e w2 ⟨x, hx, rfl, hR, hG⟩
    have hG' := grown_trans (unhid HG) hG
    have HR2 := hid hR
    have HG2 := hid hG'
    clear hR hG hG'
    go_wp2_with fail
    go_ret
    exact ⟨x, hx, rfl, unhid HR2, unhid HG2⟩

set_option maxRecDepth 100000 in
set_option maxHeartbeats 1000000 in
theorem DrawPathOk_is (w : World) (a : Option Addr) (len cap : Nat) (h : Code w w.heap.size a len) (hl : len ≤ 1048576) (hc : len ≤ cap) :
    Calls Try.prog 15 #[.slice a len cap] w fun e w' => ∃ x, e = .returned (.string x) ∧ oneOf pathTexts x ∧ Below w.heap.size w w' := by
  have H := hid h
  clear h
  go_enter Try.func15, Try.ntmps15
  go_wp2_with fail
  refine (l1Open_any w a len cap (unhid H) hl hc).mono ?_
  rintro e w1 ⟨rfl, ⟨l', c', hR⟩, hB⟩
  have HR := hid hR
  have HB := hid hB
  clear hR hB
  go_wp2_with fail
  refine (l11AnyPath_is w1 _ a l' c' 0 (unhid HR) (by omega)).mono ?_
  rintro e w2 ⟨x, hx, rfl, hR, hG⟩
  have hB2 := (unhid HB).trans (grown_below hG (Nat.le_refl _) (unhid HB).size)
  have HB2 := hid hB2
  clear hR hG hB2
  go_wp2_with fail
  go_ret
  exact ⟨x, rfl, hx, unhid HB2⟩

def stars (n : Nat) : ByteArray := ⟨⟨List.replicate n 42⟩⟩
theorem stars_add (a b : Nat) : stars a ++ stars b = stars (a + b) := by
  apply ba_same
  rw [ByteArray.data_append, Array.toList_append]
  show List.replicate a (42 : UInt8) ++ List.replicate b 42 = List.replicate (a + b) 42
  simp
theorem stars_size (a : Nat) : (stars a).size = a := by rw [Lib.size_eq]; exact List.length_replicate ..
set_option maxRecDepth 100000 in
set_option maxHeartbeats 1000000 in
theorem many_any (N : Nat) (hN : N ≤ 100) (w : World) : Calls Try.prog 32 #[.string ⟨#[42]⟩, .int .i64 N] w fun e w' => e = .returned (.string (stars N)) ∧ w' = w := by
  have e0 : (⟨#[42]⟩ : ByteArray) = stars 1 := rfl
  rw [e0]
  go_enter Try.func32, Try.ntmps32
  go_wp2_with fail
  go_loop [0, 1, 5] (fun s n o => ∃ a b k : Nat, s = .string (stars b) ∧ n = .int .i64 k ∧ o = .string (stars a) ∧ a + b * k = N ∧ b ≤ 200 ∧ 1 ≤ b ∧ (0 < k → b ≤ N)) (fun _ n _ => (intOf n).toNat)
  case atStart => exact ⟨0, 1, N, rfl, rfl, rfl, by omega, by omega, by omega, fun h => h⟩
  case round =>
    obtain ⟨a, b, k, rfl, rfl, rfl, hs, hb, hb1, hbk⟩ := hrel
    have hkN : k ≤ N := by have := Nat.le_mul_of_pos_left k (show 0 < b by omega); omega
    have za := stars_size a
    have zb := stars_size b
    have ea := hid (stars_add a b)
    have eb := hid (stars_add b b)
    by_cases hk : 0 < k
    · have hbN := hbk hk
      have haN : a ≤ N := by omega
      have hk0 : (0 : Int) < k := by omega
      by_cases ho : k % 2 = 1
      · have ho' : ((k : Int) % 2 == 1) = true := by simp; omega
        obtain ⟨q, rfl⟩ : ∃ q, k = 2 * q + 1 := ⟨k / 2, by omega⟩
        have e1 : b * (2 * q + 1) = 2 * (b * q) + b := by rw [Nat.mul_add, Nat.mul_one, ← Nat.mul_assoc, Nat.mul_comm b 2, Nat.mul_assoc]
        have e2 : (b + b) * q = 2 * (b * q) := by rw [← Nat.two_mul, Nat.mul_assoc]
        have hq : 0 < q → b ≤ b * q := fun h => Nat.le_mul_of_pos_right b h
        have E := hid (And.intro e1 (And.intro e2 hq))
        clear e1 e2 hq
        go_wp2_with fail
        go_round
        case rel => obtain ⟨e1, e2, hq⟩ := unhid E; exact ⟨a + b, b + b, q, by rw [unhid eb], by congr 1 <;> omega, by rw [unhid ea], by omega, by omega, by omega, fun h => by have := hq h; omega⟩
        case measure => simp [intOf]; omega
      · have ho' : ((k : Int) % 2 == 1) = false := by simp; omega
        obtain ⟨q, rfl⟩ : ∃ q, k = 2 * q := ⟨k / 2, by omega⟩
        have e1 : b * (2 * q) = 2 * (b * q) := by rw [← Nat.mul_assoc, Nat.mul_comm b 2, Nat.mul_assoc]
        have e2 : (b + b) * q = 2 * (b * q) := by rw [← Nat.two_mul, Nat.mul_assoc]
        have hq : 0 < q → b ≤ b * q := fun h => Nat.le_mul_of_pos_right b h
        have E := hid (And.intro e1 (And.intro e2 hq))
        clear e1 e2 hq
        go_wp2_with fail
        go_round
        case rel => obtain ⟨e1, e2, hq⟩ := unhid E; exact ⟨a, b + b, q, by rw [unhid eb], by congr 1 <;> omega, rfl, by omega, by omega, by omega, fun h => by have := hq h; omega⟩
        case measure => simp [intOf]; omega
    · have hk0 : ¬ (0 : Int) < k := by omega
      have : k = 0 := by omega
      subst this
      have : a = N := by omega
      subst this
      go_wp2_with fail
      go_ret
      exact ⟨rfl, rfl⟩
theorem many41 (w : World) : Calls Try.prog 32 #[.string ⟨#[42]⟩, .int .i64 41] w fun e w' => e = .returned (.string ⟨#[42, 42, 42, 42, 42, 42, 42, 42, 42, 42, 42, 42, 42, 42, 42, 42, 42, 42, 42, 42, 42, 42, 42, 42, 42, 42, 42, 42, 42, 42, 42, 42, 42, 42, 42, 42, 42, 42, 42, 42, 42]⟩) ∧ w' = w := many_any 41 (by omega) w
theorem many40 (w : World) : Calls Try.prog 32 #[.string ⟨#[42]⟩, .int .i64 40] w fun e w' => e = .returned (.string ⟨#[42, 42, 42, 42, 42, 42, 42, 42, 42, 42, 42, 42, 42, 42, 42, 42, 42, 42, 42, 42, 42, 42, 42, 42, 42, 42, 42, 42, 42, 42, 42, 42, 42, 42, 42, 42, 42, 42, 42, 42]⟩) ∧ w' = w := many_any 40 (by omega) w

set_option maxRecDepth 100000 in
set_option maxHeartbeats 1000000 in
theorem l11Glob_is (w : World) (b : Nat) (a : Option Addr) (len cap p : Nat) (h : Rd w b a len cap p) (hp : p ≤ 1048576) :
    Calls Try.prog 33 #[.pointer (some ⟨b, 0, none⟩)] w fun e w' => ∃ x, oneOf globTexts x ∧ e = .returned (.string x) ∧ Rd w' b a len cap (p + 1) ∧ w.grownBy w' (some b) := by
  have H := hid h
  clear h
  go_enter Try.func33, Try.ntmps33
  go_wp2_with fail
  have hb := (unhid H).lt
  refine (of_any (oneOf globTexts) _ b a len cap p ?h1 hp w.heap.size 16 16 ?h2 (by omega) (by omega) ?h5).mono ?_
  case h1 => exact (unhid H).alloc _
  case h2 => omega
  case h5 => exact fun k hk => row_one globTexts w _ _ (by decide +kernel) k hk
  rintro e w1 ⟨x, hx, rfl, hR, hG⟩
  have hG' := grown_trans (World.grownBy_alloc w _ (some b)) hG
  have HR := hid hR
  have HG := hid hG'
  clear hR hG hG'
  go_wp2_with fail
  go_ret
  exact ⟨x, hx, rfl, unhid HR, unhid HG⟩

set_option maxRecDepth 100000 in
set_option maxHeartbeats 1000000 in
theorem l11AnyGlob_is (w : World) (b : Nat) (a : Option Addr) (len cap p : Nat) (h : Rd w b a len cap p) (hp : p ≤ 1000000) :
    Calls Try.prog 20 #[.pointer (some ⟨b, 0, none⟩)] w fun e w' => ∃ x, oneOf globTexts x ∧ e = .returned (.string x) ∧ Rd w' b a len cap (p + 1 + 1) ∧ w.grownBy w' (some b) := by
  have H := hid h
  clear h
  go_enter Try.func20, Try.ntmps20
  go_wp2_with fail
  refine (pick_any w b a len cap p (unhid H) (by omega) 6 (by omega) (by omega)).mono ?_
  rintro e w1 ⟨r, hr, rfl, hR, hG⟩
  have HR := hid hR
  have HG := hid hG
  clear hR hG
  by_cases h0 : r = 0
  · have h0' : ((r : Int) == 0) = true := by simp [h0]
    go_wp2_with fail
    refine (many41 _).mono ?_
    rintro e w5 ⟨rfl, hw5⟩
    rw [hw5]
    clear hw5
    go_wp2_with fail
    refine (many40 _).mono ?_
    rintro e w6 ⟨rfl, hw6⟩
    rw [hw6]
    clear hw6
    go_wp2_with fail
    have hb := (unhid HR).lt
    refine (of_any (oneOf globTexts) _ b a len cap (p + 1) ?h1 (by omega) w1.heap.size 11 11 ?h2 (by omega) (by omega) ?h5).mono ?_
    case h1 => exact (unhid HR).alloc _
    case h2 => omega
    case h5 => exact fun k hk => row_one globTexts w1 _ _ (by decide +kernel) k hk
    rintro e w2 ⟨x, hx, rfl, hR, hG⟩
    have hG' := grown_trans (unhid HG) (grown_trans (World.grownBy_alloc w1 _ (some b)) hG)
    have HR2 := hid hR
    have HG2 := hid hG'
    clear hR hG hG'
    go_wp2_with fail
    go_ret
    exact ⟨x, hx, rfl, unhid HR2, unhid HG2⟩
  · have h0' : ((r : Int) == 0) = false := by rw [beq_eq_false_iff_ne]; omega
    go_wp2_with fail
    refine (l11Glob_is w1 b a len cap (p + 1) (unhid HR) (by omega)).mono ?_
    rintro e w2 ⟨x, hx, rfl, hR, hG⟩
    have hG' := grown_trans (unhid HG) hG
    have HR2 := hid hR
    have HG2 := hid hG'
    clear hR hG hG'
    go_wp2_with fail
    go_ret
    exact ⟨x, hx, rfl, unhid HR2, unhid HG2⟩

set_option maxRecDepth 100000 in
set_option maxHeartbeats 1000000 in
theorem DrawGlobHas_is (w : World) (a : Option Addr) (len cap : Nat) (h : Code w w.heap.size a len) (hl : len ≤ 1048576) (hc : len ≤ cap) :
    Calls Try.prog 9 #[.slice a len cap] w fun e w' => ∃ g s, e = .returned (.tuple #[.string g, .string s]) ∧ oneOf globTexts g ∧ oneOf pathTexts s ∧ Below w.heap.size w w' := by
  have H := hid h
  clear h
  go_enter Try.func9, Try.ntmps9
  go_wp2_with fail
  refine (l1Open_any w a len cap (unhid H) hl hc).mono ?_
  rintro e w1 ⟨rfl, ⟨l', c', hR⟩, hB⟩
  have HR := hid hR
  have HB := hid hB
  clear hR hB
  go_wp2_with fail
  refine (l11AnyGlob_is w1 _ a l' c' 0 (unhid HR) (by omega)).mono ?_
  rintro e w2 ⟨g, hg, rfl, hR, hG⟩
  have hB2 := (unhid HB).trans (grown_below hG (Nat.le_refl _) (unhid HB).size)
  have HB2 := hid hB2
  have HR2 := hid hR
  clear hR hG hB2
  go_wp2_with fail
  refine (l11AnyPath_is w2 _ a l' c' _ (unhid HR2) (by omega)).mono ?_
  rintro e w3 ⟨x, hx, rfl, hR, hG⟩
  have hB3 := (unhid HB2).trans (grown_below hG (Nat.le_refl _) (unhid HB2).size)
  have HB3 := hid hB3
  clear hR hG hB3
  go_wp2_with fail
  go_ret2
  exact ⟨g, x, rfl, hg, hx, unhid HB3⟩
end Go.Proofs.Ytiggojpepgbcoaa
