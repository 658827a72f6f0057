/- Which of two versions is elder, by the program and by its model. -/
import Derived.Test.YtobalkbddefaiaaOrder
namespace Go.Proofs.Ytobalkbddefaiaa
open Go.RowKit

theorem versL_ne (l : List UInt8) : versL l ≠ [] := by
  unfold versL; intro h; exact cutB_ne 46 l (List.map_eq_nil_iff.1 h)
theorem versL_nn (l : List UInt8) : ∀ x ∈ versL l, 0 ≤ x := by
  intro x hx
  obtain ⟨p, _, rfl⟩ := List.mem_map.1 hx
  exact valI_nn p
theorem versL_len (l : List UInt8) (h : versOk l = true) : (versL l).length ≤ 4 := by
  simp only [versOk, Bool.and_eq_true, decide_eq_true_eq] at h
  simpa [versL] using h.1

/-- What a slice of a version's numbers is. -/
def Vers (w : World) (base : Nat) (v : Value) (xs : List Int) : Prop := ∃ g cap, v = .slice (some ⟨g, 0, none⟩) xs.length cap ∧ base ≤ g ∧ g < w.heap.size ∧ Nums w g xs
theorem vers_of {w : World} {base : Nat} {v : Value} {xs : List Int} (hne : xs ≠ []) (h : w.ownsRow base 3 1 v xs.length (xs.map (Value.int .i64))) : Vers w base v xs := by
  obtain ⟨n, hn⟩ : ∃ n, xs.length = n + 1 := ⟨xs.length - 1, by have := List.length_pos_iff.2 hne; omega⟩
  have h' := h
  rw [hn] at h'
  obtain ⟨g, cap, rfl⟩ := ownsRow_succ h'
  have hl := h.lt g rfl
  refine ⟨g, cap, by rw [hn], hl.1, hl.2, fun k x hx => ?_⟩
  have hk : k < xs.length := (List.getElem?_eq_some_iff.1 hx).1
  rw [h'.cellAt k (by omega), List.getElem?_map, hx]; rfl
theorem Vers.below {w w' : World} {base : Nat} {v : Value} {xs : List Int} (h : Vers w base v xs) (hb : Below w.heap.size w w') : Vers w' base v xs := by
  obtain ⟨g, cap, hv, hg, hl, hn⟩ := h
  exact ⟨g, cap, hv, hg, Nat.lt_of_lt_of_le hl hb.size, fun k x hx => (hb.cell (p := ⟨g, k, none⟩) hl).trans (hn k x hx)⟩

/-- What the order of two versions is. -/
def ordI (a b : List UInt8) : Int := if versOk a && versOk b then cmpL (versL a) (versL b) else 0

set_option maxRecDepth 100000 in
set_option maxHeartbeats 2000000 in
theorem VersionOrder_any (a b : ByteArray) (ha : a.size ≤ maxLen) (hb : b.size ≤ maxLen) (w : World) :
    Calls Try.prog 8 #[.string a, .string b] w fun e w' => e = .returned (.int .i64 (ordI a.data.toList b.data.toList)) ∧ Below w.heap.size w w' := by
  go_enter Try.func8, Try.ntmps8
  go_wp2_with fail
  refine (versionOf_any a ha _).mono ?_
  rintro e w1 ⟨va, rfl, oa, -, b1⟩
  have OA := hid oa
  have B1 := hid b1
  clear oa b1
  go_wp2_with fail
  refine (versionOf_any b hb _).mono ?_
  rintro e w2 ⟨vb, rfl, ob, -, b2⟩
  have OB := hid ob
  have B2 := hid b2
  have B12 := hid ((unhid B1).trans (b2.mono (unhid B1).size))
  clear ob b2
  cases ka : versOk a.data.toList
  · have E := hid (show ordI a.data.toList b.data.toList = 0 by simp [ordI, ka])
    go_wp2_with fail
    go_ret
    exact ⟨by rw [unhid E]; rfl, unhid B12⟩
  · cases kb : versOk b.data.toList
    · have E := hid (show ordI a.data.toList b.data.toList = 0 by simp [ordI, kb])
      go_wp2_with fail
      go_ret
      exact ⟨by rw [unhid E]; rfl, unhid B12⟩
    · have E := hid (show ordI a.data.toList b.data.toList = cmpL (versL a.data.toList) (versL b.data.toList) by simp [ordI, ka, kb])
      have la := versL_len _ ka
      have lb := versL_len _ kb
      obtain ⟨g, c, rfl, _, _, ng⟩ := (vers_of (versL_ne _) (unhid OA ka)).below (unhid B2)
      obtain ⟨h, d, rfl, _, _, nh⟩ := vers_of (versL_ne _) (unhid OB kb)
      have NG := hid ng
      have NH := hid nh
      clear ng nh OA OB
      generalize hx : versL a.data.toList = xs at *
      generalize hy : versL b.data.toList = ys at *
      clear hx hy
      go_wp2_with fail
      refine (order_any g h _ _ c d xs ys rfl rfl (by omega) (by omega) _ (unhid NG) (unhid NH)).mono ?_
      rintro e w3 ⟨rfl, rfl⟩
      go_wp2_with fail
      go_ret
      exact ⟨by rw [unhid E]; rfl, unhid B12⟩

set_option maxRecDepth 100000 in
set_option maxHeartbeats 4000000 in
theorem l3Order_any (g h n m c d : Nat) (xs ys : List Int) (hn : xs.length = n) (hm : ys.length = m) (bn : n ≤ 1000000) (bm : m ≤ 1000000) (px : ∀ x ∈ xs, 0 ≤ x) (py : ∀ y ∈ ys, 0 ≤ y) (w : World) (hx : Nums w g xs) (hy : Nums w h ys) :
    Calls Try.prog 28 #[.slice (some ⟨g, 0, none⟩) n c, .slice (some ⟨h, 0, none⟩) m d] w fun e w' => e = .returned (.int .i64 (cmpL xs ys)) ∧ w' = w := by
  have HX := hid hx
  have HY := hid hy
  have PX := hid px
  have PY := hid py
  have Hn := hid hn
  have Hm := hid hm
  clear hx hy hn hm px py
  go_enter Try.func28, Try.ntmps28
  go_wp2
  go_loop [5, 6, 7] (fun i _ _ => ∃ k : Nat, k ≤ n + m ∧ i = .int .i64 k ∧ Hid (cmpL xs ys = cmpL (xs.drop k) (ys.drop k))) (fun i _ _ => n + m - (intOf i).toNat)
  case atStart => exact ⟨0, by omega, rfl, hid (by simp)⟩
  case round =>
    obtain ⟨k, hk, rfl, hc⟩ := hrel
    by_cases hlt : (k : Int) < n
    · obtain ⟨x, hx⟩ : ∃ x, xs[k]? = some x := ⟨xs[k]'(by rw [unhid Hn]; omega), List.getElem?_eq_getElem _⟩
      have cx := unhid HX k x hx
      have x0 := unhid PX x (List.mem_of_getElem? hx)
      have Hx := hid hx
      clear hx
      by_cases hlt2 : (k : Int) < m
      · obtain ⟨y, hy⟩ : ∃ y, ys[k]? = some y := ⟨ys[k]'(by rw [unhid Hm]; omega), List.getElem?_eq_getElem _⟩
        have cy := unhid HY k y hy
        have Hd := hid (cmpL_drop (unhid Hx) hy)
        clear hy
        by_cases h1 : x < y
        · go_wp2_with fail
          go_ret
          exact ⟨by rw [unhid hc, unhid Hd, if_pos h1]; rfl, rfl⟩
        · by_cases h2 : y < x
          · go_wp2_with fail
            go_ret
            exact ⟨by rw [unhid hc, unhid Hd, if_neg (by omega), if_pos h2]; rfl, rfl⟩
          · go_wp2_with fail
            refine ⟨⟨k + 1, by omega, by go_num, hid (by rw [unhid hc, unhid Hd, if_neg (by omega), if_neg (by omega)])⟩, by simp [intOf]; omega⟩
      · have h1 : ¬ x < -1 := by omega
        have h2 : (-1 : Int) < x := by omega
        go_wp2_with fail
        go_ret
        exact ⟨by rw [unhid hc, cmpL_left (unhid Hx) (by rw [unhid Hm]; omega)]; rfl, rfl⟩
    · by_cases hlt2 : (k : Int) < m
      · obtain ⟨y, hy⟩ : ∃ y, ys[k]? = some y := ⟨ys[k]'(by rw [unhid Hm]; omega), List.getElem?_eq_getElem _⟩
        have cy := unhid HY k y hy
        have y0 := unhid PY y (List.mem_of_getElem? hy)
        have h1 : (-1 : Int) < y := by omega
        have Hy := hid hy
        clear hy
        go_wp2_with fail
        go_ret
        exact ⟨by rw [unhid hc, cmpL_right (by rw [unhid Hn]; omega) (unhid Hy)]; rfl, rfl⟩
      · go_wp2_with fail
        go_ret
        exact ⟨by rw [unhid hc, cmpL_end (by rw [unhid Hn]; omega) (by rw [unhid Hm]; omega)]; rfl, rfl⟩

set_option maxRecDepth 100000 in
set_option maxHeartbeats 2000000 in
theorem specVersionOrder_any (a b : ByteArray) (ha : a.size ≤ 1048576) (hb : b.size ≤ 1048576) (w : World) :
    Calls Try.prog 9 #[.string a, .string b] w fun e w' => e = .returned (.int .i64 (ordI a.data.toList b.data.toList)) ∧ Below w.heap.size w w' := by
  go_enter Try.func9, Try.ntmps9
  go_wp2_with fail
  refine (l3Parts_any a ha _).mono ?_
  rintro e w1 ⟨va, rfl, oa, b1⟩
  have OA := hid oa
  have B1 := hid b1
  clear oa b1
  go_wp2_with fail
  refine (l3Parts_any b hb _).mono ?_
  rintro e w2 ⟨vb, rfl, ob, b2⟩
  have OB := hid ob
  have B2 := hid b2
  have B12 := hid ((unhid B1).trans (b2.mono (unhid B1).size))
  clear ob b2
  cases ka : versOk a.data.toList
  · have E := hid (show ordI a.data.toList b.data.toList = 0 by simp [ordI, ka])
    go_wp2_with fail
    go_ret
    exact ⟨by rw [unhid E]; rfl, unhid B12⟩
  · cases kb : versOk b.data.toList
    · have E := hid (show ordI a.data.toList b.data.toList = 0 by simp [ordI, kb])
      go_wp2_with fail
      go_ret
      exact ⟨by rw [unhid E]; rfl, unhid B12⟩
    · have E := hid (show ordI a.data.toList b.data.toList = cmpL (versL a.data.toList) (versL b.data.toList) by simp [ordI, ka, kb])
      have la := versL_len _ ka
      have lb := versL_len _ kb
      have pa := versL_nn a.data.toList
      have pb := versL_nn b.data.toList
      obtain ⟨g, c, rfl, _, _, ng⟩ := (vers_of (versL_ne _) (unhid OA ka)).below (unhid B2)
      obtain ⟨h, d, rfl, _, _, nh⟩ := vers_of (versL_ne _) (unhid OB kb)
      have NG := hid ng
      have NH := hid nh
      have PA := hid pa
      have PB := hid pb
      clear ng nh OA OB pa pb
      generalize hx : versL a.data.toList = xs at *
      generalize hy : versL b.data.toList = ys at *
      clear hx hy
      go_wp2_with fail
      refine (l3Order_any g h _ _ c d xs ys rfl rfl (by omega) (by omega) (unhid PA) (unhid PB) _ (unhid NG) (unhid NH)).mono ?_
      rintro e w3 ⟨rfl, rfl⟩
      go_wp2_with fail
      go_ret
      exact ⟨by rw [unhid E]; rfl, unhid B12⟩
end Go.Proofs.Ytobalkbddefaiaa
