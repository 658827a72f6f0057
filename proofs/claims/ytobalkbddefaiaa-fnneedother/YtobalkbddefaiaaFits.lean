/- Whether a pack is what is needed: by the program and by its model. -/
import Derived.Test.YtobalkbddefaiaaLawNeed
namespace Go.Proofs.Ytobalkbddefaiaa
open Go.RowKit

/-- What a kind asks of the order of two versions. -/
def kindB (k o : Int) : Bool := if k = 1 then o == 0 else if k = 2 then decide (0 ≤ o) else if k = 3 then decide (o < 0) else true
def fitsB (n : List UInt8) (k : Int) (v name ver : List UInt8) : Bool := needB n k v && versOk ver && (n == name) && kindB k (ordI ver v)

set_option maxRecDepth 100000 in
set_option maxHeartbeats 1000000 in
theorem same_any (g h n m c d : Nat) (xs ys : List Int) (hn : xs.length = n) (hm : ys.length = m) (bn : n ≤ 1000000) (bm : m ≤ 1000000) (w : World) (hx : Nums w g xs) (hy : Nums w h ys) :
    Calls Try.prog 56 #[.slice (some ⟨g, 0, none⟩) n c, .slice (some ⟨h, 0, none⟩) m d] w fun e w' => e = .returned (.bool (cmpL xs ys == 0)) ∧ w' = w := by
  have H := hid (order_any g h n m c d xs ys hn hm bn bm w hx hy)
  clear hx hy hn hm
  go_enter Try.func56, Try.ntmps56
  go_wp2_with fail
  refine (unhid H).mono ?_
  rintro e w1 ⟨rfl, rfl⟩
  go_wp2_with fail
  go_ret
  exact ⟨rfl, rfl⟩

set_option maxRecDepth 100000 in
set_option maxHeartbeats 1000000 in
theorem elder_any (g h n m c d : Nat) (xs ys : List Int) (hn : xs.length = n) (hm : ys.length = m) (bn : n ≤ 1000000) (bm : m ≤ 1000000) (w : World) (hx : Nums w g xs) (hy : Nums w h ys) :
    Calls Try.prog 58 #[.slice (some ⟨g, 0, none⟩) n c, .slice (some ⟨h, 0, none⟩) m d] w fun e w' => e = .returned (.bool (decide (cmpL xs ys < 0))) ∧ w' = w := by
  have H := hid (order_any g h n m c d xs ys hn hm bn bm w hx hy)
  clear hx hy hn hm
  go_enter Try.func58, Try.ntmps58
  go_wp2_with fail
  refine (unhid H).mono ?_
  rintro e w1 ⟨rfl, rfl⟩
  go_wp2_with fail
  go_ret
  exact ⟨rfl, rfl⟩

set_option maxRecDepth 100000 in
set_option maxHeartbeats 1000000 in
theorem ask2_any (b g h n m c d : Nat) (xs ys : List Int) (hn : xs.length = n) (hm : ys.length = m) (bn : n ≤ 1000000) (bm : m ≤ 1000000) (w : World) (hc : w.cell? ⟨b, 0, none⟩ = some (.slice (some ⟨h, 0, none⟩) m d)) (hx : Nums w g xs) (hy : Nums w h ys) :
    Calls Try.prog 55 #[.slice (some ⟨g, 0, none⟩) n c, .pointer (some ⟨b, 0, none⟩)] w fun e w' => e = .returned (.bool (kindB 1 (cmpL xs ys))) ∧ w' = w := by
  have H := hid (same_any g h n m c d xs ys hn hm bn bm w hx hy)
  clear hx hy hn hm
  go_enter Try.func55, Try.ntmps55
  go_wp2_with fail
  refine (unhid H).mono ?_
  rintro e w1 ⟨rfl, rfl⟩
  go_wp2_with fail
  go_ret
  exact ⟨rfl, rfl⟩

set_option maxRecDepth 100000 in
set_option maxHeartbeats 1000000 in
theorem ask3_any (b g h n m c d : Nat) (xs ys : List Int) (hn : xs.length = n) (hm : ys.length = m) (bn : n ≤ 1000000) (bm : m ≤ 1000000) (w : World) (hc : w.cell? ⟨b, 0, none⟩ = some (.slice (some ⟨h, 0, none⟩) m d)) (hx : Nums w g xs) (hy : Nums w h ys) :
    Calls Try.prog 57 #[.slice (some ⟨g, 0, none⟩) n c, .pointer (some ⟨b, 0, none⟩)] w fun e w' => e = .returned (.bool (kindB 2 (cmpL xs ys))) ∧ w' = w := by
  have H := hid (elder_any g h n m c d xs ys hn hm bn bm w hx hy)
  have E := hid (show kindB 2 (cmpL xs ys) = !decide (cmpL xs ys < 0) by rw [← decide_not]; exact decide_eq_decide.2 (by omega))
  clear hx hy hn hm
  go_enter Try.func57, Try.ntmps57
  go_wp2_with fail
  refine (unhid H).mono ?_
  rintro e w1 ⟨rfl, rfl⟩
  go_wp2_with fail
  go_ret
  exact ⟨by rw [unhid E]; first | rfl | simp, rfl⟩

set_option maxRecDepth 100000 in
set_option maxHeartbeats 1000000 in
theorem ask4_any (b g h n m c d : Nat) (xs ys : List Int) (hn : xs.length = n) (hm : ys.length = m) (bn : n ≤ 1000000) (bm : m ≤ 1000000) (w : World) (hc : w.cell? ⟨b, 0, none⟩ = some (.slice (some ⟨h, 0, none⟩) m d)) (hx : Nums w g xs) (hy : Nums w h ys) :
    Calls Try.prog 59 #[.slice (some ⟨g, 0, none⟩) n c, .pointer (some ⟨b, 0, none⟩)] w fun e w' => e = .returned (.bool (kindB 3 (cmpL xs ys))) ∧ w' = w := by
  have H := hid (elder_any g h n m c d xs ys hn hm bn bm w hx hy)
  clear hx hy hn hm
  go_enter Try.func59, Try.ntmps59
  go_wp2_with fail
  refine (unhid H).mono ?_
  rintro e w1 ⟨rfl, rfl⟩
  go_wp2_with fail
  go_ret
  exact ⟨rfl, rfl⟩

set_option maxRecDepth 100000 in
set_option maxHeartbeats 1000000 in
theorem ask1_any (v : Value) (w : World) :
    Calls Try.prog 54 #[v] w fun e w' => e = .returned (.bool true) ∧ w' = w := by
  go_enter Try.func54, Try.ntmps54
  go_wp2_with fail
  go_ret
  exact ⟨rfl, rfl⟩

set_option maxRecDepth 100000 in
set_option maxHeartbeats 2000000 in
theorem l3Fits_any (n v name ver : ByteArray) (k : Int) (hv : v.size ≤ 1048576) (hr : ver.size ≤ 1048576) (w : World) :
    Calls Try.prog 42 #[.agg #[.string n, .int .i64 k, .string v], .string name, .string ver] w fun e W' => e = .returned (.bool ((n.data.toList == name.data.toList) && kindB k (ordI ver.data.toList v.data.toList))) ∧ Below w.heap.size w W' := by
  have HB0 := hid (show Below w.heap.size w (w.alloc (.cells #[.string n, .int .i64 k, .string v] 30)) from (Below.refl _ w).alloc (Nat.le_refl _) _)
  have fcell : ∀ w1 : World, Below (w.alloc (.cells #[.string n, .int .i64 k, .string v] 30)).heap.size (w.alloc (.cells #[.string n, .int .i64 k, .string v] 30)) w1 → w1.cell? ⟨w.heap.size, 1, none⟩ = some (.int .i64 k) := fun w1 hb =>
    (hb.cell (p := ⟨w.heap.size, 1, none⟩) (by simp)).trans (by simp [go_sem])
  have Hf := hid fcell
  clear fcell
  cases hne : (n.toList == name.toList)
  · have E := hid (show ((n.data.toList == name.data.toList) && kindB k (ordI ver.data.toList v.data.toList)) = false by rw [← Lib.toList_data, ← Lib.toList_data, hne]; rfl)
    go_enter Try.func42, Try.ntmps42
    go_wp2_with fail
    go_ret
    exact ⟨by rw [unhid E]; rfl, unhid HB0⟩
  · have E : ((n.data.toList == name.data.toList) && kindB k (ordI ver.data.toList v.data.toList)) = kindB k (ordI ver.data.toList v.data.toList) := by rw [← Lib.toList_data, ← Lib.toList_data, hne]; rfl
    rw [E]
    clear E
    have C := specVersionOrder_any ver v hr hv
    generalize ordI ver.data.toList v.data.toList = o at C ⊢
    have C' := hid C
    clear C
    go_enter Try.func42, Try.ntmps42
    go_wp2_with fail
    refine (unhid C' _).mono ?_
    rintro e w1 ⟨rfl, hb⟩
    have f1 := unhid Hf w1 hb
    have HB1 := hid ((unhid HB0).trans (hb.mono (unhid HB0).size))
    clear hb Hf C'
    by_cases k1 : k = 1
    · subst k1
      go_wp2_with fail
      go_ret
      exact ⟨rfl, unhid HB1⟩
    · by_cases k2 : k = 2
      · subst k2
        go_wp2_with fail
        go_ret
        exact ⟨by simp [kindB], unhid HB1⟩
      · by_cases k3 : k = 3
        · subst k3
          go_wp2_with fail
          go_ret
          exact ⟨rfl, unhid HB1⟩
        · have E := hid (show kindB k o = true by simp [kindB, k1, k2, k3])
          have h1 : (k == 1) = false := by rw [beq_eq_false_iff_ne]; exact k1
          have h2 : (k == 2) = false := by rw [beq_eq_false_iff_ne]; exact k2
          have h3 : (k == 3) = false := by rw [beq_eq_false_iff_ne]; exact k3
          go_wp2_with fail
          go_ret
          exact ⟨by rw [unhid E]; rfl, unhid HB1⟩

set_option maxRecDepth 100000 in
set_option maxHeartbeats 2000000 in
theorem specNeedFits_any (n v name ver : ByteArray) (k : Int) (hn : n.size ≤ 1048576) (hv : v.size ≤ 1048576) (hr : ver.size ≤ 1048576) (w : World) :
    Calls Try.prog 22 #[.agg #[.string n, .int .i64 k, .string v], .string name, .string ver] w fun e W' => e = .returned (.bool (fitsB n.data.toList k v.data.toList name.data.toList ver.data.toList)) ∧ Below w.heap.size w W' := by
  have HB0 := hid (show Below w.heap.size w (w.alloc (.cells #[.string n, .int .i64 k, .string v] 30)) from (Below.refl _ w).alloc (Nat.le_refl _) _)
  have fcell : ∀ w1 : World, Below (w.alloc (.cells #[.string n, .int .i64 k, .string v] 30)).heap.size (w.alloc (.cells #[.string n, .int .i64 k, .string v] 30)) w1 → w1.cell? ⟨w.heap.size, 0, none⟩ = some (.string n) ∧ w1.cell? ⟨w.heap.size, 1, none⟩ = some (.int .i64 k) ∧ w1.cell? ⟨w.heap.size, 2, none⟩ = some (.string v) := fun w1 hb =>
    ⟨(hb.cell (p := ⟨w.heap.size, 0, none⟩) (by simp)).trans (by simp [go_sem]), (hb.cell (p := ⟨w.heap.size, 1, none⟩) (by simp)).trans (by simp [go_sem]), (hb.cell (p := ⟨w.heap.size, 2, none⟩) (by simp)).trans (by simp [go_sem])⟩
  have Hf := hid fcell
  clear fcell
  go_enter Try.func22, Try.ntmps22
  go_wp2_with fail
  refine (specNeedOk_any n v k hn hv _).mono ?_
  rintro e w1 ⟨rfl, hb⟩
  have B1 := hid hb
  clear hb
  cases hx : needB n.data.toList k v.data.toList
  · have E := hid (show fitsB n.data.toList k v.data.toList name.data.toList ver.data.toList = false by simp [fitsB, hx])
    go_wp2_with fail
    go_ret
    exact ⟨by rw [unhid E]; rfl, (unhid HB0).trans ((unhid B1).mono (unhid HB0).size)⟩
  · go_wp2_with fail
    refine (specVersionOk_any ver hr _).mono ?_
    rintro e w2 ⟨rfl, hb⟩
    have B2 := hid ((unhid B1).trans (hb.mono (unhid B1).size))
    obtain ⟨f1, f2, f3⟩ := unhid Hf w2 (unhid B2)
    clear hb
    cases hy : versOk ver.data.toList
    · have E := hid (show fitsB n.data.toList k v.data.toList name.data.toList ver.data.toList = false by simp [fitsB, hy])
      go_wp2_with fail
      go_ret
      exact ⟨by rw [unhid E]; rfl, (unhid HB0).trans ((unhid B2).mono (unhid HB0).size)⟩
    · have E := hid (show fitsB n.data.toList k v.data.toList name.data.toList ver.data.toList = ((n.data.toList == name.data.toList) && kindB k (ordI ver.data.toList v.data.toList)) by simp [fitsB, hx, hy])
      go_wp2_with fail
      refine (l3Fits_any n v name ver k hv hr _).mono ?_
      rintro e w3 ⟨rfl, hb⟩
      have B3 := hid ((unhid B2).trans (hb.mono (unhid B2).size))
      clear hb
      rw [← unhid E]
      go_wp2_with fail
      go_ret
      exact ⟨rfl, (unhid HB0).trans ((unhid B3).mono (unhid HB0).size)⟩

theorem fitsB_0 {n v name ver : List UInt8} (h1 : needB n 0 v = true) (h2 : versOk ver = true) (h3 : (n == name) = true) : fitsB n 0 v name ver = true := by simp [fitsB, h1, h2, h3, kindB]
theorem fitsB_k {n v name ver : List UInt8} {k : Int} (h1 : needB n k v = true) (h2 : versOk ver = true) (h4 : versOk v = true) (h3 : (n == name) = true) : fitsB n k v name ver = kindB k (cmpL (versL ver) (versL v)) := by simp [fitsB, h1, h2, h3, ordI, h4]

set_option maxRecDepth 100000 in
set_option maxHeartbeats 4000000 in
theorem NeedFits_any (n v name ver : ByteArray) (k : Int) (hn : n.size ≤ maxLen) (hv : v.size ≤ maxLen) (hr : ver.size ≤ maxLen) (w : World) :
    Calls Try.prog 21 #[.agg #[.string n, .int .i64 k, .string v], .string name, .string ver] w fun e W' => e = .returned (.bool (fitsB n.data.toList k v.data.toList name.data.toList ver.data.toList)) ∧ Below w.heap.size w W' := by
  have HB0 := hid (show Below w.heap.size w (w.alloc (.cells #[.string n, .int .i64 k, .string v] 30)) from (Below.refl _ w).alloc (Nat.le_refl _) _)
  have fcell : ∀ w1 : World, Below (w.alloc (.cells #[.string n, .int .i64 k, .string v] 30)).heap.size (w.alloc (.cells #[.string n, .int .i64 k, .string v] 30)) w1 → w1.cell? ⟨w.heap.size, 0, none⟩ = some (.string n) ∧ w1.cell? ⟨w.heap.size, 1, none⟩ = some (.int .i64 k) ∧ w1.cell? ⟨w.heap.size, 2, none⟩ = some (.string v) := fun w1 hb =>
    ⟨(hb.cell (p := ⟨w.heap.size, 0, none⟩) (by simp)).trans (by simp [go_sem]), (hb.cell (p := ⟨w.heap.size, 1, none⟩) (by simp)).trans (by simp [go_sem]), (hb.cell (p := ⟨w.heap.size, 2, none⟩) (by simp)).trans (by simp [go_sem])⟩
  have Hf := hid fcell
  clear fcell
  go_enter Try.func21, Try.ntmps21
  go_wp2_with fail
  refine (versionOf_any ver hr _).mono ?_
  rintro e w1 ⟨va, rfl, oa, -, b1⟩
  have OA := hid oa
  have B1 := hid b1
  obtain ⟨f1, f2, f3⟩ := unhid Hf w1 b1
  clear oa b1
  go_wp2_with fail
  refine (askOf_any n v k hv _).mono ?_
  rintro e w2 ⟨fv, rfl, hfv, b2⟩
  have FV := hid hfv
  have B2 := hid b2
  have B12 := hid ((unhid B1).trans (b2.mono (unhid B1).size))
  obtain ⟨g1, g2, g3⟩ := unhid Hf w2 (unhid B12)
  clear hfv b2 f1 f2 f3
  cases hy : versOk ver.data.toList
  · have E := hid (show fitsB n.data.toList k v.data.toList name.data.toList ver.data.toList = false by simp [fitsB, hy])
    go_wp2_with fail
    go_ret
    exact ⟨by rw [unhid E]; rfl, (unhid HB0).trans ((unhid B12).mono (unhid HB0).size)⟩
  · cases ha : askB k v.data.toList
    · have E := hid (show fitsB n.data.toList k v.data.toList name.data.toList ver.data.toList = false by simp [fitsB, needB, ha])
      go_wp2_with fail
      go_ret
      exact ⟨by rw [unhid E]; rfl, (unhid HB0).trans ((unhid B12).mono (unhid HB0).size)⟩
    · go_wp2_with fail
      refine (packNameOk_any n hn _).mono ?_
      rintro e w3 ⟨rfl, hb⟩
      have B3 := hid hb
      have B123 := hid ((unhid B12).trans (hb.mono (unhid B12).size))
      clear hb g1 g2 g3
      obtain ⟨g1, g2, g3⟩ := unhid Hf w3 (unhid B123)
      cases hp : packB n.data.toList
      · have E := hid (show fitsB n.data.toList k v.data.toList name.data.toList ver.data.toList = false by simp [fitsB, needB, hp])
        go_wp2_with fail
        go_ret
        exact ⟨by rw [unhid E]; rfl, (unhid HB0).trans ((unhid B123).mono (unhid HB0).size)⟩
      · have hN : needB n.data.toList k v.data.toList = true := by simp [needB, hp, ha]
        cases hne : (name.toList == n.toList)
        · have hne' : (n.data.toList == name.data.toList) = false := by rw [← Lib.toList_data, ← Lib.toList_data]; rw [beq_eq_false_iff_ne] at hne ⊢; exact hne.symm
          have E := hid (show fitsB n.data.toList k v.data.toList name.data.toList ver.data.toList = false by simp only [fitsB, hne', Bool.and_false, Bool.false_and])
          clear hne'
          go_wp2_with fail
          go_ret
          exact ⟨by rw [unhid E]; rfl, (unhid HB0).trans ((unhid B123).mono (unhid HB0).size)⟩
        · have hne' : (n.data.toList == name.data.toList) = true := by rw [← Lib.toList_data, ← Lib.toList_data]; rw [beq_iff_eq] at hne ⊢; exact hne.symm
          have HN := hid hN
          have HNE := hid hne'
          clear hN hne'
          rcases unhid FV ha with ⟨rfl, rfl⟩ | ⟨id, b, vv, hk, rfl, hb1, hb2, hc, hV⟩
          · have E := hid (fitsB_0 (unhid HN) hy (unhid HNE))
            go_wp2_with fail
            refine (ask1_any _ _).mono ?_
            rintro e w4 ⟨rfl, rfl⟩
            go_wp2_with fail
            go_ret
            exact ⟨by rw [unhid E]; rfl, (unhid HB0).trans ((unhid B123).mono (unhid HB0).size)⟩
          · have hva : versOk v.data.toList = true := by rcases hk with ⟨rfl, -⟩ | ⟨rfl, -⟩ | ⟨rfl, -⟩ <;> simpa [askB] using ha
            have E := hid (fitsB_k (unhid HN) hy hva (unhid HNE))
            have la := versL_len _ hy
            have lb := versL_len _ hva
            obtain ⟨g, c, rfl, _, hgl, ng⟩ := ((vers_of (versL_ne _) (unhid OA hy)).below (unhid B2)).below (unhid B3)
            obtain ⟨h, d, rfl, _, _, nh⟩ := hV.below (unhid B3)
            have hc3 : w3.cell? ⟨b, 0, none⟩ = some (.slice (some ⟨h, 0, none⟩) (versL v.data.toList).length d) := ((unhid B3).cell (p := ⟨b, 0, none⟩) hb2).trans hc
            have NG := hid ng
            have NH := hid nh
            have HC := hid hc3
            clear ng nh OA FV hc3 hc hV
            generalize hx : versL ver.data.toList = xs at *
            generalize hy : versL v.data.toList = ys at *
            clear hx hy
            rcases hk with ⟨rfl, rfl⟩ | ⟨rfl, rfl⟩ | ⟨rfl, rfl⟩
            · go_wp2_with fail
              refine (ask2_any b g h _ _ c d xs ys rfl rfl (by omega) (by omega) _ (unhid HC) (unhid NG) (unhid NH)).mono ?_
              rintro e w4 ⟨rfl, rfl⟩
              go_wp2_with fail
              go_ret
              exact ⟨by rw [unhid E]; rfl, (unhid HB0).trans ((unhid B123).mono (unhid HB0).size)⟩
            · go_wp2_with fail
              refine (ask3_any b g h _ _ c d xs ys rfl rfl (by omega) (by omega) _ (unhid HC) (unhid NG) (unhid NH)).mono ?_
              rintro e w4 ⟨rfl, rfl⟩
              go_wp2_with fail
              go_ret
              exact ⟨by rw [unhid E]; rfl, (unhid HB0).trans ((unhid B123).mono (unhid HB0).size)⟩
            · go_wp2_with fail
              refine (ask4_any b g h _ _ c d xs ys rfl rfl (by omega) (by omega) _ (unhid HC) (unhid NG) (unhid NH)).mono ?_
              rintro e w4 ⟨rfl, rfl⟩
              go_wp2_with fail
              go_ret
              exact ⟨by rw [unhid E]; rfl, (unhid HB0).trans ((unhid B123).mono (unhid HB0).size)⟩
end Go.Proofs.Ytobalkbddefaiaa
