/- Texts of this proof, one behind the other; each says at its head what it shows. -/
import Derived.Test.YtoihhlkidlapmaaGreatJoin8
import Derived.Shelf.Small.Strs
import Derived.Test.YtoihhlkidlapmaaGreatProg
import Derived.Test.YtoihhlkidlapmaaGreatJoin5
import Derived.Test.YtoihhlkidlapmaaGreatJoin6
/- Whether a pack is what is needed: by the program and by its model. -/
namespace Go.Proofs.YtoihhlkidlapmaaGreat
open Go.RowKit

/-- What a kind asks of the order of two versions. -/
def kindB (k o : Int) : Bool := if k = 1 then o == 0 else if k = 2 then decide (0 ≤ o) else if k = 3 then decide (o < 0) else true
def fitsB (n : List UInt8) (k : Int) (v name ver : List UInt8) : Bool := needB n k v && versOk ver && (n == name) && kindB k (ordI ver v)

set_option maxRecDepth 100000 in
set_option maxHeartbeats 1000000 in
theorem same_any (g h n m c d : Nat) (xs ys : List Int) (hn : xs.length = n) (hm : ys.length = m) (bn : n ≤ 1000000) (bm : m ≤ 1000000) (w : World) (hx : Nums w g xs) (hy : Nums w h ys) :
    Calls Tryz.prog 244 #[.slice (some ⟨g, 0, none⟩) n c, .slice (some ⟨h, 0, none⟩) m d] w fun e w' => e = .returned (.bool (cmpL xs ys == 0)) ∧ w' = w := by
  have H := hid (order_any g h n m c d xs ys hn hm bn bm w hx hy)
  clear hx hy hn hm
  go_enter Tryz.func244, Tryz.ntmps244
  go_wp2_with fail
  refine (unhid H).mono ?_
  rintro e w1 ⟨rfl, rfl⟩
  go_wp2_with fail
  go_ret
  exact ⟨rfl, rfl⟩

set_option maxRecDepth 100000 in
set_option maxHeartbeats 1000000 in
theorem elder_any (g h n m c d : Nat) (xs ys : List Int) (hn : xs.length = n) (hm : ys.length = m) (bn : n ≤ 1000000) (bm : m ≤ 1000000) (w : World) (hx : Nums w g xs) (hy : Nums w h ys) :
    Calls Tryz.prog 246 #[.slice (some ⟨g, 0, none⟩) n c, .slice (some ⟨h, 0, none⟩) m d] w fun e w' => e = .returned (.bool (decide (cmpL xs ys < 0))) ∧ w' = w := by
  have H := hid (order_any g h n m c d xs ys hn hm bn bm w hx hy)
  clear hx hy hn hm
  go_enter Tryz.func246, Tryz.ntmps246
  go_wp2_with fail
  refine (unhid H).mono ?_
  rintro e w1 ⟨rfl, rfl⟩
  go_wp2_with fail
  go_ret
  exact ⟨rfl, rfl⟩

set_option maxRecDepth 100000 in
set_option maxHeartbeats 1000000 in
theorem ask2_any (b g h n m c d : Nat) (xs ys : List Int) (hn : xs.length = n) (hm : ys.length = m) (bn : n ≤ 1000000) (bm : m ≤ 1000000) (w : World) (hc : w.cell? ⟨b, 0, none⟩ = some (.slice (some ⟨h, 0, none⟩) m d)) (hx : Nums w g xs) (hy : Nums w h ys) :
    Calls Tryz.prog 243 #[.slice (some ⟨g, 0, none⟩) n c, .pointer (some ⟨b, 0, none⟩)] w fun e w' => e = .returned (.bool (kindB 1 (cmpL xs ys))) ∧ w' = w := by
  have H := hid (same_any g h n m c d xs ys hn hm bn bm w hx hy)
  clear hx hy hn hm
  go_enter Tryz.func243, Tryz.ntmps243
  go_wp2_with fail
  refine (unhid H).mono ?_
  rintro e w1 ⟨rfl, rfl⟩
  go_wp2_with fail
  go_ret
  exact ⟨rfl, rfl⟩

set_option maxRecDepth 100000 in
set_option maxHeartbeats 1000000 in
theorem ask3_any (b g h n m c d : Nat) (xs ys : List Int) (hn : xs.length = n) (hm : ys.length = m) (bn : n ≤ 1000000) (bm : m ≤ 1000000) (w : World) (hc : w.cell? ⟨b, 0, none⟩ = some (.slice (some ⟨h, 0, none⟩) m d)) (hx : Nums w g xs) (hy : Nums w h ys) :
    Calls Tryz.prog 245 #[.slice (some ⟨g, 0, none⟩) n c, .pointer (some ⟨b, 0, none⟩)] w fun e w' => e = .returned (.bool (kindB 2 (cmpL xs ys))) ∧ w' = w := by
  have H := hid (elder_any g h n m c d xs ys hn hm bn bm w hx hy)
  have E := hid (show kindB 2 (cmpL xs ys) = !decide (cmpL xs ys < 0) by rw [← decide_not]; exact decide_eq_decide.2 (by omega))
  clear hx hy hn hm
  go_enter Tryz.func245, Tryz.ntmps245
  go_wp2_with fail
  refine (unhid H).mono ?_
  rintro e w1 ⟨rfl, rfl⟩
  go_wp2_with fail
  go_ret
  exact ⟨by rw [unhid E]; first | rfl | simp, rfl⟩

set_option maxRecDepth 100000 in
set_option maxHeartbeats 1000000 in
theorem ask4_any (b g h n m c d : Nat) (xs ys : List Int) (hn : xs.length = n) (hm : ys.length = m) (bn : n ≤ 1000000) (bm : m ≤ 1000000) (w : World) (hc : w.cell? ⟨b, 0, none⟩ = some (.slice (some ⟨h, 0, none⟩) m d)) (hx : Nums w g xs) (hy : Nums w h ys) :
    Calls Tryz.prog 247 #[.slice (some ⟨g, 0, none⟩) n c, .pointer (some ⟨b, 0, none⟩)] w fun e w' => e = .returned (.bool (kindB 3 (cmpL xs ys))) ∧ w' = w := by
  have H := hid (elder_any g h n m c d xs ys hn hm bn bm w hx hy)
  clear hx hy hn hm
  go_enter Tryz.func247, Tryz.ntmps247
  go_wp2_with fail
  refine (unhid H).mono ?_
  rintro e w1 ⟨rfl, rfl⟩
  go_wp2_with fail
  go_ret
  exact ⟨rfl, rfl⟩

set_option maxRecDepth 100000 in
set_option maxHeartbeats 1000000 in
theorem ask1_any (v : Value) (w : World) :
    Calls Tryz.prog 242 #[v] w fun e w' => e = .returned (.bool true) ∧ w' = w := by
  go_enter Tryz.func242, Tryz.ntmps242
  go_wp2_with fail
  go_ret
  exact ⟨rfl, rfl⟩

set_option maxRecDepth 100000 in
set_option maxHeartbeats 2000000 in
theorem l3Fits_any (n v name ver : ByteArray) (k : Int) (hv : v.size ≤ 1048576) (hr : ver.size ≤ 1048576) (w : World) :
    Calls Tryz.prog 126 #[.agg #[.string n, .int .i64 k, .string v], .string name, .string ver] w fun e W' => e = .returned (.bool ((n.data.toList == name.data.toList) && kindB k (ordI ver.data.toList v.data.toList))) ∧ Below w.heap.size w W' := by
  have HB0 := hid (show Below w.heap.size w (w.alloc (.cells #[.string n, .int .i64 k, .string v] 36)) from (Below.refl _ w).alloc (Nat.le_refl _) _)
  have fcell : ∀ w1 : World, Below (w.alloc (.cells #[.string n, .int .i64 k, .string v] 36)).heap.size (w.alloc (.cells #[.string n, .int .i64 k, .string v] 36)) w1 → w1.cell? ⟨w.heap.size, 1, none⟩ = some (.int .i64 k) := fun w1 hb =>
    (hb.cell (p := ⟨w.heap.size, 1, none⟩) (by simp)).trans (by simp [go_sem])
  have Hf := hid fcell
  clear fcell
  cases hne : (n.toList == name.toList)
  · have E := hid (show ((n.data.toList == name.data.toList) && kindB k (ordI ver.data.toList v.data.toList)) = false by rw [← Lib.toList_data, ← Lib.toList_data, hne]; rfl)
    go_enter Tryz.func126, Tryz.ntmps126
    go_wp2_with fail
    go_ret
    exact ⟨by rw [unhid E]; rfl, unhid HB0⟩
  · have E : ((n.data.toList == name.data.toList) && kindB k (ordI ver.data.toList v.data.toList)) = kindB k (ordI ver.data.toList v.data.toList) := by rw [← Lib.toList_data, ← Lib.toList_data, hne]; rfl
    rw [E]
    clear E
    have C := specVersionOrder_any ver v hr hv
    generalize ordI ver.data.toList v.data.toList = o at C ⊢
    have C' := hid C
    clear C
    go_enter Tryz.func126, Tryz.ntmps126
    go_wp2_with fail
    refine (unhid C' _).mono ?_
    rintro e w1 ⟨rfl, hb⟩
    have f1 := unhid Hf w1 hb
    have HB1 := hid ((unhid HB0).trans (hb.mono (unhid HB0).size))
    clear hb Hf C'
    by_cases k1 : k = 1
    · subst k1
      go_wp2_with fail
      go_ret
      exact ⟨rfl, unhid HB1⟩
    · by_cases k2 : k = 2
      · subst k2
        go_wp2_with fail
        go_ret
        exact ⟨by simp [kindB], unhid HB1⟩
      · by_cases k3 : k = 3
        · subst k3
          go_wp2_with fail
          go_ret
          exact ⟨rfl, unhid HB1⟩
        · have E := hid (show kindB k o = true by simp [kindB, k1, k2, k3])
          have h1 : (k == 1) = false := by rw [beq_eq_false_iff_ne]; exact k1
          have h2 : (k == 2) = false := by rw [beq_eq_false_iff_ne]; exact k2
          have h3 : (k == 3) = false := by rw [beq_eq_false_iff_ne]; exact k3
          go_wp2_with fail
          go_ret
          exact ⟨by rw [unhid E]; rfl, unhid HB1⟩

theorem fitsB_0 {n v name ver : List UInt8} (h1 : needB n 0 v = true) (h2 : versOk ver = true) (h3 : (n == name) = true) : fitsB n 0 v name ver = true := by simp [fitsB, h1, h2, h3, kindB]
theorem fitsB_k {n v name ver : List UInt8} {k : Int} (h1 : needB n k v = true) (h2 : versOk ver = true) (h4 : versOk v = true) (h3 : (n == name) = true) : fitsB n k v name ver = kindB k (cmpL (versL ver) (versL v)) := by simp [fitsB, h1, h2, h3, ordI, h4]

set_option maxRecDepth 100000 in
set_option maxHeartbeats 4000000 in
theorem NeedFits_any (n v name ver : ByteArray) (k : Int) (hn : n.size ≤ maxLen) (hv : v.size ≤ maxLen) (hr : ver.size ≤ maxLen) (w : World) :
    Calls Tryz.prog 248 #[.agg #[.string n, .int .i64 k, .string v], .string name, .string ver] w fun e W' => e = .returned (.bool (fitsB n.data.toList k v.data.toList name.data.toList ver.data.toList)) ∧ Below w.heap.size w W' := by
  have HB0 := hid (show Below w.heap.size w (w.alloc (.cells #[.string n, .int .i64 k, .string v] 36)) from (Below.refl _ w).alloc (Nat.le_refl _) _)
  have fcell : ∀ w1 : World, Below (w.alloc (.cells #[.string n, .int .i64 k, .string v] 36)).heap.size (w.alloc (.cells #[.string n, .int .i64 k, .string v] 36)) w1 → w1.cell? ⟨w.heap.size, 0, none⟩ = some (.string n) ∧ w1.cell? ⟨w.heap.size, 1, none⟩ = some (.int .i64 k) ∧ w1.cell? ⟨w.heap.size, 2, none⟩ = some (.string v) := fun w1 hb =>
    ⟨(hb.cell (p := ⟨w.heap.size, 0, none⟩) (by simp)).trans (by simp [go_sem]), (hb.cell (p := ⟨w.heap.size, 1, none⟩) (by simp)).trans (by simp [go_sem]), (hb.cell (p := ⟨w.heap.size, 2, none⟩) (by simp)).trans (by simp [go_sem])⟩
  have Hf := hid fcell
  clear fcell
  go_enter Tryz.func248, Tryz.ntmps248
  go_wp2_with fail
  refine (versionOf_any ver hr _).mono ?_
  rintro e w1 ⟨va, rfl, oa, -, b1⟩
  have OA := hid oa
  have B1 := hid b1
  obtain ⟨f1, f2, f3⟩ := unhid Hf w1 b1
  clear oa b1
  go_wp2_with fail
  refine (askOf_any n v k hv _).mono ?_
  rintro e w2 ⟨fv, rfl, hfv, b2⟩
  have FV := hid hfv
  have B2 := hid b2
  have B12 := hid ((unhid B1).trans (b2.mono (unhid B1).size))
  obtain ⟨g1, g2, g3⟩ := unhid Hf w2 (unhid B12)
  clear hfv b2 f1 f2 f3
  cases hy : versOk ver.data.toList
  · have E := hid (show fitsB n.data.toList k v.data.toList name.data.toList ver.data.toList = false by simp [fitsB, hy])
    go_wp2_with fail
    go_ret
    exact ⟨by rw [unhid E]; rfl, (unhid HB0).trans ((unhid B12).mono (unhid HB0).size)⟩
  · cases ha : askB k v.data.toList
    · have E := hid (show fitsB n.data.toList k v.data.toList name.data.toList ver.data.toList = false by simp [fitsB, needB, ha])
      go_wp2_with fail
      go_ret
      exact ⟨by rw [unhid E]; rfl, (unhid HB0).trans ((unhid B12).mono (unhid HB0).size)⟩
    · go_wp2_with fail
      refine (packNameOk_any n hn _).mono ?_
      rintro e w3 ⟨rfl, hb⟩
      have B3 := hid hb
      have B123 := hid ((unhid B12).trans (hb.mono (unhid B12).size))
      clear hb g1 g2 g3
      obtain ⟨g1, g2, g3⟩ := unhid Hf w3 (unhid B123)
      cases hp : packB n.data.toList
      · have E := hid (show fitsB n.data.toList k v.data.toList name.data.toList ver.data.toList = false by simp [fitsB, needB, hp])
        go_wp2_with fail
        go_ret
        exact ⟨by rw [unhid E]; rfl, (unhid HB0).trans ((unhid B123).mono (unhid HB0).size)⟩
      · have hN : needB n.data.toList k v.data.toList = true := by simp [needB, hp, ha]
        cases hne : (name.toList == n.toList)
        · have hne' : (n.data.toList == name.data.toList) = false := by rw [← Lib.toList_data, ← Lib.toList_data]; rw [beq_eq_false_iff_ne] at hne ⊢; exact hne.symm
          have E := hid (show fitsB n.data.toList k v.data.toList name.data.toList ver.data.toList = false by simp only [fitsB, hne', Bool.and_false, Bool.false_and])
          clear hne'
          go_wp2_with fail
          go_ret
          exact ⟨by rw [unhid E]; rfl, (unhid HB0).trans ((unhid B123).mono (unhid HB0).size)⟩
        · have hne' : (n.data.toList == name.data.toList) = true := by rw [← Lib.toList_data, ← Lib.toList_data]; rw [beq_iff_eq] at hne ⊢; exact hne.symm
          have HN := hid hN
          have HNE := hid hne'
          clear hN hne'
          rcases unhid FV ha with ⟨rfl, rfl⟩ | ⟨id, b, vv, hk, rfl, hb1, hb2, hc, hV⟩
          · have E := hid (fitsB_0 (unhid HN) hy (unhid HNE))
            go_wp2_with fail
            refine (ask1_any _ _).mono ?_
            rintro e w4 ⟨rfl, rfl⟩
            go_wp2_with fail
            go_ret
            exact ⟨by rw [unhid E]; rfl, (unhid HB0).trans ((unhid B123).mono (unhid HB0).size)⟩
          · have hva : versOk v.data.toList = true := by rcases hk with ⟨rfl, -⟩ | ⟨rfl, -⟩ | ⟨rfl, -⟩ <;> simpa [askB] using ha
            have E := hid (fitsB_k (unhid HN) hy hva (unhid HNE))
            have la := versL_len _ hy
            have lb := versL_len _ hva
            obtain ⟨g, c, rfl, _, hgl, ng⟩ := ((vers_of (versL_ne _) (unhid OA hy)).below (unhid B2)).below (unhid B3)
            obtain ⟨h, d, rfl, _, _, nh⟩ := hV.below (unhid B3)
            have hc3 : w3.cell? ⟨b, 0, none⟩ = some (.slice (some ⟨h, 0, none⟩) (versL v.data.toList).length d) := ((unhid B3).cell (p := ⟨b, 0, none⟩) hb2).trans hc
            have NG := hid ng
            have NH := hid nh
            have HC := hid hc3
            clear ng nh OA FV hc3 hc hV
            generalize hx : versL ver.data.toList = xs at *
            generalize hy : versL v.data.toList = ys at *
            clear hx hy
            rcases hk with ⟨rfl, rfl⟩ | ⟨rfl, rfl⟩ | ⟨rfl, rfl⟩
            · go_wp2_with fail
              refine (ask2_any b g h _ _ c d xs ys rfl rfl (by omega) (by omega) _ (unhid HC) (unhid NG) (unhid NH)).mono ?_
              rintro e w4 ⟨rfl, rfl⟩
              go_wp2_with fail
              go_ret
              exact ⟨by rw [unhid E]; rfl, (unhid HB0).trans ((unhid B123).mono (unhid HB0).size)⟩
            · go_wp2_with fail
              refine (ask3_any b g h _ _ c d xs ys rfl rfl (by omega) (by omega) _ (unhid HC) (unhid NG) (unhid NH)).mono ?_
              rintro e w4 ⟨rfl, rfl⟩
              go_wp2_with fail
              go_ret
              exact ⟨by rw [unhid E]; rfl, (unhid HB0).trans ((unhid B123).mono (unhid HB0).size)⟩
            · go_wp2_with fail
              refine (ask4_any b g h _ _ c d xs ys rfl rfl (by omega) (by omega) _ (unhid HC) (unhid NG) (unhid NH)).mono ?_
              rintro e w4 ⟨rfl, rfl⟩
              go_wp2_with fail
              go_ret
              exact ⟨by rw [unhid E]; rfl, (unhid HB0).trans ((unhid B123).mono (unhid HB0).size)⟩
end Go.Proofs.YtoihhlkidlapmaaGreat

/- Whether all that packs need is there, by the model. -/
namespace Go.Proofs.YtoihhlkidlapmaaGreat
open Go.RowKit Go.Shelf

def fitOne (n : needC.D) (q : packC.D) : Bool := decide (PackD.name q = NeedD.name n) && kindB (NeedD.kind n) (ordI (PackD.version q).data.toList (NeedD.version n).data.toList)
def hasNeed (ps : List packC.D) (n : needC.D) : Bool := List.any (α := packC.D) ps (fitOne n)
def needsOf (p : packC.D) : List needC.D := PackD.needs p
def needsB (ps : List packC.D) : Bool := List.all (α := packC.D) ps fun p => (needsOf p).all (hasNeed ps)
theorem has_none {ps : List packC.D} {n : needC.D} (h : NeedD.name n ∉ namesP ps) : hasNeed ps n = false := by
  unfold hasNeed
  rw [List.any_eq_false]
  intro q hq
  obtain ⟨i, hi⟩ := List.getElem?_of_mem hq
  have : PackD.name q ≠ NeedD.name n := fun e => h (by rw [← e]; exact List.mem_of_getElem? (namesP_get hi))
  unfold fitOne
  rw [decide_eq_false this]
  simp
theorem has_at {ps : List packC.D} {n : needC.D} {i : Nat} {q : packC.D} (ha : Asc (namesP ps)) (hq : ps[i]? = some q) (hn : PackD.name q = NeedD.name n) : hasNeed ps n = kindB (NeedD.kind n) (ordI (PackD.version q).data.toList (NeedD.version n).data.toList) := by
  cases hk : kindB (NeedD.kind n) (ordI (PackD.version q).data.toList (NeedD.version n).data.toList) with
  | true =>
    unfold hasNeed
    rw [List.any_eq_true]
    exact ⟨q, List.mem_of_getElem? hq, by unfold fitOne; rw [decide_eq_true hn, hk]; rfl⟩
  | false =>
    unfold hasNeed
    rw [List.any_eq_false]
    intro p hp
    obtain ⟨j, hj⟩ := List.getElem?_of_mem hp
    unfold fitOne
    by_cases hpn : PackD.name p = NeedD.name n
    · have e : i = j := asc_inj ha (namesP_get hq) (by rw [namesP_get hj, hpn, hn])
      subst e
      rw [hq] at hj
      cases hj
      rw [hk]; simp
    · rw [decide_eq_false hpn]; simp
theorem need_in {W : World} {e : packC.D} {na ta : Option Addr} {nc tc : Nat} (h : packC.at_ W [.string (PackD.name e), .string (PackD.version e), .slice na (PackD.needs e).length nc, .slice ta (PackD.tree e).length tc] e) {j : Nat} {n : needC.D} (hn : (needsOf e)[j]? = some n) :
    ∃ b o, na = some ⟨b, o, none⟩ ∧ b < W.heap.size ∧ (W.cell? ⟨b, o + j * 3, none⟩ = some (.string (NeedD.name n)) ∧ W.cell? ⟨b, o + j * 3 + 1, none⟩ = some (.int .i64 (NeedD.kind n)) ∧ W.cell? ⟨b, o + j * 3 + 2, none⟩ = some (.string (NeedD.version n))) := by
  obtain ⟨v2, v3, e1, h2, h3⟩ := packC_at h
  injection e1 with _ e1
  injection e1 with _ e1
  injection e1 with e2 _
  subst e2
  obtain ⟨a, cap, ev, -, -, hr⟩ := h2
  injection ev with ea _ _
  subst ea
  rcases hr with hr | ⟨b, o, ha, hl, hc⟩
  · have : needsOf e = [] := hr
    rw [this] at hn; cases hn
  · exact ⟨b, o, ha, hl, need_cells (Below.refl _ W) hl hc hn⟩

set_option maxRecDepth 100000 in
set_option maxHeartbeats 8000000 in
theorem l9Needs_any (ps : List packC.D) (v : Value) (w : World) (hs : smallPs ps) (hf : formB ps = true) (h : rowAt packC w v ps) :
    Calls Tryz.prog 137 #[v] w fun x w' => x = .returned (.bool (needsB ps)) ∧ Below w.heap.size w w' := by
  have HR := hid h
  obtain ⟨a, cap, rfl, -, -, h⟩ := h
  have hlen := hs.1
  have HSM := hid hs
  have HF := hid hf
  have H := hid h
  clear h hs hf
  go_enter Tryz.func137, Tryz.ntmps137
  go_wp2_with fail
  go_loopw [3] (fun i wr => ∃ k : Nat, k ≤ ps.length ∧ i = .int .i64 (k : Int) ∧ Hid ((ps.take k).all (fun p => (needsOf p).all (hasNeed ps)) = true) ∧ Hid (Below w.heap.size w wr)) (fun i _ => ps.length - (intOf i).toNat)
  case atStart => exact ⟨0, Nat.zero_le _, rfl, hid (by simp), hid (Below.refl _ _)⟩
  case round =>
    obtain ⟨k, hk, rfl, HA, HB⟩ := hrel
    by_cases hlt : k < ps.length
    · obtain ⟨e, he⟩ : ∃ e, ps[k]? = some e := ⟨ps[k], List.getElem?_eq_getElem hlt⟩
      obtain ⟨b, o, rfl, hbl, hc⟩ := (unhid H).resolve_left (by intro e; subst e; simp at hlt)
      have HBL := hid hbl
      have HC := hid hc
      have HE := hid he
      have SP := hid ((unhid HSM).2 e (List.mem_of_getElem? he))
      have hnl : (PackD.needs e).length ≤ 1048576 := (unhid SP).needs.1
      clear hbl hc he
      go_wp2_with fail
      go_loopw [4] (fun j wq => ∃ m : Nat, m ≤ (PackD.needs e).length ∧ j = .int .i64 (m : Int) ∧ Hid (((needsOf e).take m).all (hasNeed ps) = true) ∧ Hid (Below w.heap.size w wq)) (fun j _ => (PackD.needs e).length - (intOf j).toNat)
      case atStart => exact ⟨0, Nat.zero_le _, rfl, hid (by simp), HB⟩
      case round =>
        clear HB
        obtain ⟨m, hm, rfl, HX, HB⟩ := hrel
        obtain ⟨na, nc, ta, tc, ⟨c0, c1, c2, c3⟩, hat⟩ := pack_cells (unhid HB) (unhid HBL) (unhid HC) (unhid HE)
        clear c0 c1 c3
        by_cases hlt2 : m < (PackD.needs e).length
        · obtain ⟨n, hn⟩ : ∃ n, (needsOf e)[m]? = some n := ⟨(needsOf e)[m]'hlt2, List.getElem?_eq_getElem hlt2⟩
          obtain ⟨b2, o2, rfl, hbl2, n0, n1, n2⟩ := need_in hat hn
          have HNN := hid hn
          have SN := hid ((unhid SP).needs.2 n (List.mem_of_getElem? hn))
          have HB0 := hid (show ∀ x, Below w.heap.size w (wr.alloc x) from fun x => (unhid HB).alloc (unhid HB).size x)
          have HB1 := hid (show ∀ x, Below wr.heap.size wr (wr.alloc x) from fun x => (Below.refl _ wr).alloc (Nat.le_refl _) x)
          clear hn hat hbl2
          go_wp2_with fail
          have hbox := World.alloc_heap_new wr (.cells #[.string (NeedD.name n), .int .i64 (NeedD.kind n), .string (NeedD.version n)] 36)
          have hB1 := unhid HB1 (.cells #[.string (NeedD.name n), .int .i64 (NeedD.kind n), .string (NeedD.version n)] 36)
          have hB0 := unhid HB0 (.cells #[.string (NeedD.name n), .int .i64 (NeedD.kind n), .string (NeedD.version n)] 36)
          have hlw : wr.heap.size < (wr.alloc (.cells #[.string (NeedD.name n), .int .i64 (NeedD.kind n), .string (NeedD.version n)] 36)).heap.size := by simp
          generalize wr.alloc (.cells #[.string (NeedD.name n), .int .i64 (NeedD.kind n), .string (NeedD.version n)] 36) = W0 at hbox hB1 hB0 hlw ⊢
          have BX := hid hbox
          have HB2 := hid hB0
          have HLW := hid hlw
          clear hbox hB0 hB1 hlw HB0 HB1 c2 n0 n1 n2
          refine (l8Pack_any ps _ (NeedD.name n) W0 hlen ((unhid HR).below (unhid HB2))).mono ?_
          rintro x W1 ⟨⟨r, rfl, hr⟩, hb⟩
          have HB3 := hid ((unhid HB2).trans (hb.mono (unhid HB2).size))
          have BX1 := hid ((hb.block _ (unhid HLW)).trans (unhid BX))
          have HLW1 := hid (Nat.lt_of_lt_of_le (unhid HLW) hb.size)
          clear hb BX HLW HB2
          have g0 : ∀ x : CW (fun w' => Below W1.heap.size W1 w'), x.w.cell? ⟨wr.heap.size, 0, none⟩ = some (.string (NeedD.name n)) := fun x => cell_arrS ((x.h.block _ (unhid HLW1)).trans (unhid BX1)) 0 _ rfl
          have g1 : ∀ x : CW (fun w' => Below W1.heap.size W1 w'), x.w.cell? ⟨wr.heap.size, 1, none⟩ = some (.int .i64 (NeedD.kind n)) := fun x => cell_arrS ((x.h.block _ (unhid HLW1)).trans (unhid BX1)) 1 _ rfl
          have g2 : ∀ x : CW (fun w' => Below W1.heap.size W1 w'), x.w.cell? ⟨wr.heap.size, 2, none⟩ = some (.string (NeedD.version n)) := fun x => cell_arrS ((x.h.block _ (unhid HLW1)).trans (unhid BX1)) 2 _ rfl
          have hba : ∀ {q : Prop}, (CW (fun w' => Below W1.heap.size W1 w') → q) ↔ q := CW.all (Below.refl _ W1)
          rcases hr with ⟨rfl, hno⟩ | ⟨i, rfl, hi⟩
          · have EH := hid (has_none hno)
            clear hno
            go_wp2_with fail
            refine held_begin (fun w' => Below W1.heap.size W1 w') (by kernel_rfl) (drew_belowS _) ?_
            refine held_here [true, true, true, true, true, true, true, true, true, true, true] (by kernel_rfl) (by kernel_rfl) (fun _ _ _ _ _ h => h) (drew_belowS _) ?_
            dsimp only [pick]
            repeat (go_big_quiet_step (fail))
            refine wpQuiet_nil ?_
            have hD := drew_belowS (B := W1.heap.size) W1
            generalize W1.drew = W2 at hD ⊢
            clear g0 g1 g2
            refine held_skip 11 46 (by kernel_rfl) (by kernel_rfl) rfl rfl rfl hD ?_
            simp only [Act.put, List.setIfInBounds_toArray, List.set_cons_zero, List.set_cons_succ]
            refine held_here [false, false, false, false, false, false, false, false, false, false, false, false, true, true] (by kernel_rfl) (by kernel_rfl) (fun _ _ _ _ _ h => h) hD ?_
            dsimp only [pick]
            repeat (go_big_quiet_step (fail))
            refine wpQuiet_nil ?_
            refine held_done (by kernel_rfl) ?_
            have HB4 := hid ((unhid HB3).trans (hD.mono (unhid HB3).size))
            clear hba hD
            go_wp2_with fail
            go_ret
            exact ⟨by unfold needsB; rw [all_no (unhid HE) (all_no (unhid HNN) (unhid EH))]; rfl, unhid HB4⟩
          · obtain ⟨q, hq, hqn⟩ := namesP_some hi
            have hil : i < ps.length := (List.getElem?_eq_some_iff.1 hq).1
            have hi0 : decide ((i : Int) < 0) = false := decide_eq_false (by omega)
            have EH := hid (has_at (form_asc (unhid HF)) hq hqn)
            have SQ := hid ((unhid HSM).2 q (List.mem_of_getElem? hq))
            obtain ⟨-, -, -, -, ⟨-, d1, -, -⟩, -⟩ := pack_cells (unhid HB3) (unhid HBL) (unhid HC) hq
            have hbw : b < W1.heap.size := Nat.lt_of_lt_of_le (unhid HBL) (unhid HB3).size
            have g3 : ∀ x : CW (fun w' => Below W1.heap.size W1 w'), x.w.cell? ⟨b, o + i * 4 + 1, none⟩ = some (.string (PackD.version q)) := fun x => (x.h.cell (p := ⟨b, o + i * 4 + 1, none⟩) hbw).trans d1
            clear hi hq hqn d1
            go_wp2_with fail
            refine held_begin (fun w' => Below W1.heap.size W1 w') (by kernel_rfl) (drew_belowS _) ?_
            refine held_here [true, true, true, true, true, true, true, true, true, true, true] (by kernel_rfl) (by kernel_rfl) (fun _ _ _ _ _ h => h) (drew_belowS _) ?_
            dsimp only [pick]
            repeat (go_big_quiet_step (fail))
            refine wpQuiet_nil ?_
            have hD := drew_belowS (B := W1.heap.size) W1
            generalize W1.drew = W2 at hD ⊢
            clear g0 g1 g2 g3
            refine held_call 11 126 46 (enters_of Tryz.func126 (by kernel_rfl) rfl) #[.agg #[.string (NeedD.name n), .int .i64 (NeedD.kind n), .string (NeedD.version n)], .string (NeedD.name n), .string (PackD.version q)] (by kernel_rfl) (by kernel_rfl) rfl rfl rfl rfl rfl ?_
            refine (l3Fits_any (NeedD.name n) (NeedD.version n) (NeedD.name n) (PackD.version q) (NeedD.kind n) (unhid SN).2 (unhid SQ).version W2).mono ?_
            rintro x W3 ⟨rfl, hb⟩
            have hD2 := hD.trans (hb.mono hD.size)
            have HB4 := hid ((unhid HB3).trans (hD2.mono (unhid HB3).size))
            refine ⟨_, rfl, hD2, ?_⟩
            simp only [Act.put, List.setIfInBounds_toArray, List.set_cons_zero, List.set_cons_succ]
            clear hb
            rw [show ((NeedD.name n).data.toList == (NeedD.name n).data.toList) = true by simp, Bool.true_and, ← unhid EH]
            cases hh : hasNeed ps n with
            | false =>
              refine held_here [false, false, false, false, false, false, false, false, false, false, false, false, true, true] (by kernel_rfl) (by kernel_rfl) (fun _ _ _ _ _ h => h) hD2 ?_
              dsimp only [pick]
              repeat (go_big_quiet_step (fail))
              refine wpQuiet_nil ?_
              refine held_done (by kernel_rfl) ?_
              clear hba hD hD2
              go_wp2_with fail
              go_ret
              exact ⟨by unfold needsB; rw [all_no (unhid HE) (all_no (unhid HNN) hh)]; rfl, unhid HB4⟩
            | true =>
              have HH := hid hh
              clear hh
              refine held_here [false, false, false, false, false, false, false, false, false, false, false, false, true, true] (by kernel_rfl) (by kernel_rfl) (fun _ _ _ _ _ h => h) hD2 ?_
              dsimp only [pick]
              repeat (go_big_quiet_step (fail))
              refine wpQuiet_nil ?_
              refine held_done (by kernel_rfl) ?_
              clear hba hD hD2
              go_wp2_with fail
              go_roundw
              case rel => exact ⟨m + 1, by omega, by go_num, hid (all_take_next (unhid HNN) (unhid HX) (unhid HH)), HB4⟩
              case measure => simp [intOf]; omega
        · have e2 : m = (PackD.needs e).length := by omega
          have HAL := hid (show (needsOf e).all (hasNeed ps) = true by
            have := unhid HX
            rwa [e2, List.take_of_length_le (by exact Nat.le_refl _)] at this)
          clear hat
          go_wp2_with fail
          go_roundw
          case rel => exact ⟨k + 1, by omega, by go_num, hid (all_take_next (p := fun p => (needsOf p).all (hasNeed ps)) (unhid HE) (unhid HA) (unhid HAL)), HB⟩
          case measure => simp [intOf]; omega
    · have e : k = ps.length := by omega
      subst e
      go_wp2_with fail
      go_ret
      refine ⟨?_, unhid HB⟩
      have := unhid HA
      rw [List.take_of_length_le (Nat.le_refl _)] at this
      unfold needsB
      rw [this]; rfl
end Go.Proofs.YtoihhlkidlapmaaGreat

/- Contracts of the library that are laid at the program. -/
namespace Go.Proofs.YtoihhlkidlapmaaGreat
open Go.Shelf Go.RowKit
def sh_lays106_ren : Go.Shelf.Ren := ⟨fun | 106 => 143 | 213 => 213 | 265 => 259 | n => n, fun | 9 => 9 | 3 => 3 | n => n, fun | n => n⟩
theorem sh_lays106 : Go.Proofs.Lays.n106 Tryz.prog sh_lays106_ren := {
  mixed := by kernel_rfl
  f106 := Tryz.func143.trans (congrArg some (by kernel_rfl))
  f213 := Tryz.func213.trans (congrArg some (by kernel_rfl))
  f265 := Tryz.func259.trans (congrArg some (by kernel_rfl))
  t3 := Tryz.underlying3
  a3 := Tryz.isAgg3
  z3 := Tryz.sizeOf3
  v3 := Tryz.zeroValue3
  t9 := Tryz.underlying9
  a9 := Tryz.isAgg9
  z9 := Tryz.sizeOf9
  v9 := Tryz.zeroValue9 }
theorem sh_strings_Compare (a b : ByteArray) (w : World) :
    Calls Tryz.prog 143 #[.string a, .string b] w fun e w' => e = .returned (.int .i64 (Lib.compareBytes a.data.toList b.data.toList)) ∧ w' = w := Any.strings_Compare sh_lays106 a b w
end Go.Proofs.YtoihhlkidlapmaaGreat

/- Where a pack is among packs by name, by the program. -/
namespace Go.Proofs.YtoihhlkidlapmaaGreat
open Go.RowKit Go.Shelf

theorem cmp_bytes : ∀ (a b : List UInt8), (Lib.compareBytes a b < 0 ↔ Op.bytesLess a b = true) ∧ (Lib.compareBytes a b = 0 ↔ a = b)
  | [], [] => by simp [Lib.compareBytes, Op.bytesLess]
  | [], _ :: _ => by simp [Lib.compareBytes, Op.bytesLess]
  | _ :: _, [] => by simp [Lib.compareBytes, Op.bytesLess]
  | x :: a, y :: b => by
    obtain ⟨i1, i2⟩ := cmp_bytes a b
    unfold Lib.compareBytes Op.bytesLess
    by_cases h1 : x < y
    · simp only [h1, if_true]
      have hne : x ≠ y := fun e => by subst e; exact UInt8.lt_irrefl _ h1
      simp [hne]
    · by_cases h2 : y < x
      · have hne : x ≠ y := fun e => by subst e; exact UInt8.lt_irrefl _ h2
        simp [h1, h2, hne]
      · have : x = y := UInt8.le_antisymm (UInt8.not_lt.1 h2) (UInt8.not_lt.1 h1)
        subst this
        simp only [h1, if_false, i1, i2]
        simp
theorem cmp_lt (x q : ByteArray) : decide (Lib.compareBytes x.data.toList q.data.toList < 0) = ltS x q := by
  unfold ltS
  rw [Lib.toList_data, Lib.toList_data]
  cases h : Op.bytesLess x.data.toList q.data.toList with
  | true => exact decide_eq_true ((cmp_bytes _ _).1.2 h)
  | false => exact decide_eq_false (fun e => by rw [(cmp_bytes _ _).1.1 e] at h; cases h)
theorem cmp_eq0 (x q : ByteArray) : (Lib.compareBytes x.data.toList q.data.toList == 0) = eqS x q := by
  unfold eqS
  rw [Lib.toList_data, Lib.toList_data]
  by_cases h : x.data.toList = q.data.toList
  · rw [(cmp_bytes _ _).2.2 h, h]; simp
  · have h1 : Lib.compareBytes x.data.toList q.data.toList ≠ 0 := fun e => h ((cmp_bytes _ _).2.1 e)
    rw [beq_eq_false_iff_ne.2 h1, beq_eq_false_iff_ne.2 h]

set_option maxRecDepth 100000 in
set_option maxHeartbeats 1000000 in
theorem place1_any (e : packC.D) (na : Option Addr) (nc : Nat) (ta : Option Addr) (tc : Nat) (q : ByteArray) (w : World) :
    Calls Tryz.prog 142 #[.agg #[.string (PackD.name e), .string (PackD.version e), .slice na (PackD.needs e).length nc, .slice ta (PackD.tree e).length tc], .string q] w fun x w' => (∃ r : Int, x = .returned (.int .i64 r) ∧ Hid (decide (r < 0) = ltS (PackD.name e) q ∧ (r == 0) = eqS (PackD.name e) q)) ∧ Below w.heap.size w w' := by
  have HB := hid (show ∀ x, Below w.heap.size w (w.alloc x) from fun x => (Below.refl _ w).alloc (Nat.le_refl _) x)
  go_enter Tryz.func142, Tryz.ntmps142
  go_wp2_with (go_at_call 143; refine (sh_strings_Compare _ _ _).mono ?_; rintro e w' ⟨rfl, rfl⟩)
  go_ret
  exact ⟨⟨_, rfl, hid ⟨cmp_lt _ _, cmp_eq0 _ _⟩⟩, unhid HB _⟩

set_option maxRecDepth 100000 in
set_option maxHeartbeats 4000000 in
theorem searchPack_any (ps : List packC.D) (v : Value) (q : ByteArray) (w : World) (hlen : ps.length ≤ 1048576) (hs : Asc (namesP ps)) (h : rowAt packC w v ps) :
    Calls Tryz.prog 141 #[v, .string q, .func (.func 142) #[] #[]] w fun x w' => x = .returned (.tuple #[.int .i64 (placeP (namesP ps) q), .bool (thereP (namesP ps) q)]) ∧ Below w.heap.size w w' := by
  obtain ⟨a, cap, rfl, -, -, h⟩ := h
  have HS := hid hs
  have H := hid h
  clear hs h
  go_enter Tryz.func141, Tryz.ntmps141
  go_wp2_with fail
  go_loopw [9, 10, 11] (fun i j _ wr => ∃ (k m : Nat), k ≤ m ∧ m ≤ ps.length ∧ i = .int .i64 k ∧ j = .int .i64 m ∧ Hid (∀ (t : Nat) x, t < k → (namesP ps)[t]? = some x → ltS x q = true) ∧ Hid (∀ (t : Nat) x, m ≤ t → (namesP ps)[t]? = some x → ltS x q = false) ∧ Hid (Below w.heap.size w wr)) (fun i j _ _ => (intOf j).toNat - (intOf i).toNat)
  case atStart => exact ⟨0, ps.length, Nat.zero_le _, Nat.le_refl _, rfl, rfl, hid (fun t x ht => by omega), hid (fun t x ht hx => by have := (List.getElem?_eq_some_iff.1 hx).1; rw [namesP_len] at this; omega), hid (Below.refl _ _)⟩
  case round =>
    obtain ⟨k, m, hkm, hm, rfl, rfl, hlo, hhi, HB⟩ := hrel
    by_cases hlt : k < m
    · obtain ⟨e, he⟩ : ∃ e, ps[(k + m) / 2]? = some e := ⟨ps[(k + m) / 2], List.getElem?_eq_getElem (by omega)⟩
      obtain ⟨b, o, rfl, hbl, hc⟩ := (unhid H).resolve_left (by intro e; subst e; simp at hm; omega)
      obtain ⟨na, nc, ta, tc, ⟨c0, c1, c2, c3⟩, -⟩ := pack_cells (unhid HB) hbl hc he
      have hx := namesP_get he
      have hlt' : (k : Int) < m := by omega
      have hsm : (k : Int) + m ≤ 4194304 := by omega
      have hall : ∀ (t : Nat) y, t ≤ (k + m) / 2 → (namesP ps)[t]? = some y → ltS (PackD.name e) q = true → ltS y q = true := fun t y ht hy hq => by
        by_cases e : t = (k + m) / 2
        · subst e; rw [hx] at hy; cases hy; exact hq
        · exact lt_tra _ _ _ (unhid HS t _ y _ (by omega) hy hx) hq
      have hnone : ∀ (t : Nat) y, (k + m) / 2 ≤ t → (namesP ps)[t]? = some y → ltS (PackD.name e) q = false → ltS y q = false := fun t y ht hy hq => by
        by_cases e : t = (k + m) / 2
        · subst e; rw [hx] at hy; cases hy; exact hq
        · cases hyq : ltS y q
          · rfl
          · have := lt_tra _ _ _ (unhid HS _ t _ y (by omega) hx hy) hyq
            unfold ltS at hq; rw [this] at hq; cases hq
      have HA := hid (And.intro hall hnone)
      clear hc hx he hall hnone
      go_wp2_with fail
      refine (place1_any e na nc ta tc q _).mono ?_
      rintro r w2 ⟨⟨r, rfl, HR⟩, hb⟩
      have HB2 := hid ((unhid HB).trans (hb.mono (unhid HB).size))
      clear hb c0 c1 c2 c3
      by_cases hr : r < 0
      · have HQ := hid (show ltS (PackD.name e) q = true by rw [← (unhid HR).1]; exact decide_eq_true hr)
        go_wp2_with fail
        go_roundw
        case rel => exact ⟨(k + m) / 2 + 1, m, by omega, hm, by go_num, rfl, hid (fun t y ht hy => (unhid HA).1 t y (by omega) hy (unhid HQ)), hhi, HB2⟩
        case measure => simp [intOf]; omega
      · have HQ := hid (show ltS (PackD.name e) q = false by rw [← (unhid HR).1]; exact decide_eq_false hr)
        go_wp2_with fail
        go_roundw
        case rel => exact ⟨k, (k + m) / 2, by omega, by omega, rfl, by go_num, hlo, hid (fun t y ht hy => (unhid HA).2 t y ht hy (unhid HQ)), HB2⟩
        case measure => simp [intOf]; omega
    · have hkm' : k = m := by omega
      subst hkm'
      have hlt' : ¬ (k : Int) < k := by omega
      have hpl : placeP (namesP ps) q = k := placeP_of (namesP ps) q k (by rw [namesP_len]; exact hm) (unhid hlo) (fun x hx => unhid hhi k x (Nat.le_refl _) hx)
      by_cases hkl : k < ps.length
      · obtain ⟨e, he⟩ : ∃ e, ps[k]? = some e := ⟨ps[k], List.getElem?_eq_getElem hkl⟩
        obtain ⟨b, o, rfl, hbl, hc⟩ := (unhid H).resolve_left (by intro e; subst e; simp at hkl)
        obtain ⟨na, nc, ta, tc, ⟨c0, c1, c2, c3⟩, -⟩ := pack_cells (unhid HB) hbl hc he
        have hth : thereP (namesP ps) q = eqS (PackD.name e) q := by unfold thereP; rw [hpl, namesP_get he]; rfl
        have HP := hid (And.intro hpl hth)
        have hkl' : (k : Int) < ps.length := by omega
        clear hpl hth he hc
        go_wp2_with fail
        refine (place1_any e na nc ta tc q _).mono ?_
        rintro r w2 ⟨⟨r, rfl, HR⟩, hb⟩
        have HB2 := hid ((unhid HB).trans (hb.mono (unhid HB).size))
        clear hb c0 c1 c2 c3
        go_wp2_with fail
        go_ret2
        exact ⟨by rw [(unhid HP).1, (unhid HP).2, ← (unhid HR).2]; rfl, unhid HB2⟩
      · have hth : thereP (namesP ps) q = false := by unfold thereP; rw [hpl, List.getElem?_eq_none (by rw [namesP_len]; omega)]; rfl
        have HP := hid (And.intro hpl hth)
        have hkl' : ¬ (k : Int) < ps.length := by omega
        clear hpl hth
        go_wp2_with fail
        go_ret2
        exact ⟨by rw [(unhid HP).1, (unhid HP).2]; rfl, unhid HB⟩

set_option maxRecDepth 100000 in
set_option maxHeartbeats 1000000 in
theorem packPlace_any (ps : List packC.D) (v : Value) (q : ByteArray) (w : World) (hlen : ps.length ≤ 1048576) (hs : Asc (namesP ps)) (h : rowAt packC w v ps) :
    Calls Tryz.prog 85 #[v, .string q] w fun x w' => x = .returned (.tuple #[.int .i64 (placeP (namesP ps) q), .bool (thereP (namesP ps) q)]) ∧ Below w.heap.size w w' := by
  have H := hid (searchPack_any ps v q w hlen hs h)
  clear hs h
  go_enter Tryz.func85, Tryz.ntmps85
  go_wp2_with fail
  refine (unhid H).mono ?_
  rintro x w2 ⟨rfl, hb⟩
  have HB := hid hb
  clear hb
  go_wp2_with fail
  go_ret2
  exact ⟨rfl, unhid HB⟩
end Go.Proofs.YtoihhlkidlapmaaGreat

/- Whether all that packs need is there, by the program. -/
namespace Go.Proofs.YtoihhlkidlapmaaGreat
open Go.RowKit Go.Shelf

theorem thereT_mem {xs : List ByteArray} {q : ByteArray} (h : thereP xs q = true) : xs[placeP xs q]? = some q := by
  unfold thereP at h
  cases hx : xs[placeP xs q]? with
  | none => rw [hx] at h; cases h
  | some x =>
    rw [hx] at h
    have : eqS x q = true := h
    rw [(eqS_iff x q).1 this]
theorem place_mem {xs : List ByteArray} {q : ByteArray} (ha : Asc xs) {j : Nat} (hj : xs[j]? = some q) : placeP xs q = j ∧ thereP xs q = true := by
  have hp : placeP xs q = j := placeP_of xs q j (Nat.le_of_lt (List.getElem?_eq_some_iff.1 hj).1) (fun i x hi hx => ha i j x q hi hx hj) (fun x hx => by
    rw [hj] at hx
    cases hx
    exact lt_irr _)
  refine ⟨hp, ?_⟩
  unfold thereP
  rw [hp, hj]
  exact (eqS_iff q q).2 rfl
theorem there_no {xs : List ByteArray} {q : ByteArray} (ha : Asc xs) (h : thereP xs q = false) : q ∉ xs := fun hm => by
  obtain ⟨j, hj⟩ := List.getElem?_of_mem hm
  rw [(place_mem ha hj).2] at h
  cases h

set_option maxRecDepth 100000 in
set_option maxHeartbeats 4000000 in
theorem needThere_any (ps : List packC.D) (v : Value) (n : needC.D) (w : World) (hs : smallPs ps) (hf : formB ps = true) (hn : needOkD n = true) (hsn : (NeedD.name n).size ≤ 1048576 ∧ (NeedD.version n).size ≤ 1048576) (h : rowAt packC w v ps) :
    Calls Tryz.prog 219 #[v, .agg #[.string (NeedD.name n), .int .i64 (NeedD.kind n), .string (NeedD.version n)]] w fun x w' => x = .returned (.bool (hasNeed ps n)) ∧ Below w.heap.size w w' := by
  have HR := hid h
  obtain ⟨a, cap, rfl, -, -, h⟩ := h
  have hlen := hs.1
  have HSM := hid hs
  have HF := hid hf
  have HN := hid hn
  have SN := hid hsn
  have H := hid h
  clear h hs hf hn hsn
  go_enter Tryz.func219, Tryz.ntmps219
  go_wp2_with fail
  have hbox := World.alloc_heap_new w (.cells #[.string (NeedD.name n), .int .i64 (NeedD.kind n), .string (NeedD.version n)] 36)
  have hB0 : Below w.heap.size w (w.alloc (.cells #[.string (NeedD.name n), .int .i64 (NeedD.kind n), .string (NeedD.version n)] 36)) := (Below.refl _ w).alloc (Nat.le_refl _) _
  have hlw : w.heap.size < (w.alloc (.cells #[.string (NeedD.name n), .int .i64 (NeedD.kind n), .string (NeedD.version n)] 36)).heap.size := by simp
  generalize w.alloc (.cells #[.string (NeedD.name n), .int .i64 (NeedD.kind n), .string (NeedD.version n)] 36) = W0 at hbox hB0 hlw ⊢
  have BX := hid hbox
  have HB := hid hB0
  have HLW := hid hlw
  clear hbox hB0 hlw
  have hpb : placeP (namesP ps) (NeedD.name n) ≤ ps.length := by
    rw [← namesP_len]
    exact (List.takeWhile_prefix _).length_le
  refine (packPlace_any ps _ (NeedD.name n) W0 hlen (form_asc (unhid HF)) ((unhid HR).below (unhid HB))).mono ?_
  rintro x W1 ⟨rfl, hb⟩
  have HB3 := hid ((unhid HB).trans (hb.mono (unhid HB).size))
  have BX1 := hid ((hb.block _ (unhid HLW)).trans (unhid BX))
  have HLW1 := hid (Nat.lt_of_lt_of_le (unhid HLW) hb.size)
  clear hb BX HLW HB
  have g0 : ∀ x : CW (fun w' => Below W1.heap.size W1 w'), x.w.cell? ⟨w.heap.size, 0, none⟩ = some (.string (NeedD.name n)) := fun x => cell_arrS ((x.h.block _ (unhid HLW1)).trans (unhid BX1)) 0 _ rfl
  have g1 : ∀ x : CW (fun w' => Below W1.heap.size W1 w'), x.w.cell? ⟨w.heap.size, 1, none⟩ = some (.int .i64 (NeedD.kind n)) := fun x => cell_arrS ((x.h.block _ (unhid HLW1)).trans (unhid BX1)) 1 _ rfl
  have g2 : ∀ x : CW (fun w' => Below W1.heap.size W1 w'), x.w.cell? ⟨w.heap.size, 2, none⟩ = some (.string (NeedD.version n)) := fun x => cell_arrS ((x.h.block _ (unhid HLW1)).trans (unhid BX1)) 2 _ rfl
  have hba : ∀ {q : Prop}, (CW (fun w' => Below W1.heap.size W1 w') → q) ↔ q := CW.all (Below.refl _ W1)
  cases hth : thereP (namesP ps) (NeedD.name n) with
  | false =>
    have EH := hid (has_none (there_no (form_asc (unhid HF)) hth))
    generalize placeP (namesP ps) (NeedD.name n) = pl at *
    clear hth
    go_wp2_with fail
    refine held_begin (fun w' => Below W1.heap.size W1 w') (by kernel_rfl) (drew_belowS _) ?_
    refine held_here [true, true, true, true, true, true, true, true, true, true] (by kernel_rfl) (by kernel_rfl) (fun _ _ _ _ _ h => h) (drew_belowS _) ?_
    dsimp only [pick]
    repeat (go_big_quiet_step (fail))
    refine wpQuiet_nil ?_
    have hD := drew_belowS (B := W1.heap.size) W1
    generalize W1.drew = W2 at hD ⊢
    clear g0 g1 g2
    refine held_skip 10 24 (by kernel_rfl) (by kernel_rfl) rfl rfl rfl hD ?_
    simp only [Act.put, List.setIfInBounds_toArray, List.set_cons_zero, List.set_cons_succ]
    refine held_here [false, false, false, false, false, false, false, false, false, false, false, true, true] (by kernel_rfl) (by kernel_rfl) (fun _ _ _ _ _ h => h) hD ?_
    dsimp only [pick]
    repeat (go_big_quiet_step (fail))
    refine wpQuiet_nil ?_
    refine held_done (by kernel_rfl) ?_
    have HB4 := hid ((unhid HB3).trans (hD.mono (unhid HB3).size))
    clear hba hD
    go_wp2_with fail
    go_ret
    exact ⟨by rw [unhid EH]; rfl, unhid HB4⟩
  | true =>
    have hi := thereT_mem hth
    generalize placeP (namesP ps) (NeedD.name n) = i at *
    clear hth
    obtain ⟨q, hq, hqn⟩ := namesP_some hi
    have hil : i < ps.length := (List.getElem?_eq_some_iff.1 hq).1
    have hne : ps ≠ [] := by intro e; subst e; simp at hil
    obtain ⟨b, o, rfl, hbl, hc⟩ := (unhid H).resolve_left hne
    have SQ := hid ((unhid HSM).2 q (List.mem_of_getElem? hq))
    have EH := hid (show fitsB (NeedD.name n).data.toList (NeedD.kind n) (NeedD.version n).data.toList (NeedD.name n).data.toList (PackD.version q).data.toList = hasNeed ps n by
      rw [has_at (form_asc (unhid HF)) hq hqn]
      have h1 : pkOk q = true := form_ok (unhid HF) hq
      have h2 : versOk (PackD.version q).data.toList = true := by
        unfold pkOk at h1
        simp only [Bool.and_eq_true] at h1
        exact h1.1.1.2
      have h3 : needB (NeedD.name n).data.toList (NeedD.kind n) (NeedD.version n).data.toList = true := unhid HN
      unfold fitsB
      rw [h2, h3]
      simp)
    obtain ⟨-, -, -, -, ⟨-, d1, -, -⟩, -⟩ := pack_cells (unhid HB3) hbl hc hq
    have hbw : b < W1.heap.size := Nat.lt_of_lt_of_le hbl (unhid HB3).size
    have g3 : ∀ x : CW (fun w' => Below W1.heap.size W1 w'), x.w.cell? ⟨b, o + i * 4 + 1, none⟩ = some (.string (PackD.version q)) := fun x => (x.h.cell (p := ⟨b, o + i * 4 + 1, none⟩) hbw).trans d1
    clear hi hq hqn d1 hc hne hbl
    go_wp2_with fail
    refine held_begin (fun w' => Below W1.heap.size W1 w') (by kernel_rfl) (drew_belowS _) ?_
    refine held_here [true, true, true, true, true, true, true, true, true, true] (by kernel_rfl) (by kernel_rfl) (fun _ _ _ _ _ h => h) (drew_belowS _) ?_
    dsimp only [pick]
    repeat (go_big_quiet_step (fail))
    refine wpQuiet_nil ?_
    have hD := drew_belowS (B := W1.heap.size) W1
    generalize W1.drew = W2 at hD ⊢
    clear g0 g1 g2 g3
    refine held_call 10 248 24 (enters_of Tryz.func248 (by kernel_rfl) rfl) #[.agg #[.string (NeedD.name n), .int .i64 (NeedD.kind n), .string (NeedD.version n)], .string (NeedD.name n), .string (PackD.version q)] (by kernel_rfl) (by kernel_rfl) rfl rfl rfl rfl rfl ?_
    refine (NeedFits_any (NeedD.name n) (NeedD.version n) (NeedD.name n) (PackD.version q) (NeedD.kind n) (le_maxLen (unhid SN).1) (le_maxLen (unhid SN).2) (le_maxLen (unhid SQ).version) W2).mono ?_
    rintro x W3 ⟨rfl, hb⟩
    have hD2 := hD.trans (hb.mono hD.size)
    have HB4 := hid ((unhid HB3).trans (hD2.mono (unhid HB3).size))
    refine ⟨_, rfl, hD2, ?_⟩
    simp only [Act.put, List.setIfInBounds_toArray, List.set_cons_zero, List.set_cons_succ]
    rw [unhid EH]
    clear hb
    refine held_here [false, false, false, false, false, false, false, false, false, false, false, true, true] (by kernel_rfl) (by kernel_rfl) (fun _ _ _ _ _ h => h) hD2 ?_
    dsimp only [pick]
    repeat (go_big_quiet_step (fail))
    refine wpQuiet_nil ?_
    refine held_done (by kernel_rfl) ?_
    clear hba hD hD2
    go_wp2_with fail
    go_ret
    exact ⟨rfl, unhid HB4⟩

set_option maxRecDepth 100000 in
set_option maxHeartbeats 1000000 in
theorem askNeeds1_any (ps : List packC.D) (v : Value) (n : needC.D) (g : Nat) (w : World) (hs : smallPs ps) (hf : formB ps = true) (hn : needOkD n = true) (hsn : (NeedD.name n).size ≤ 1048576 ∧ (NeedD.version n).size ≤ 1048576) (hg : w.cell? ⟨g, 0, none⟩ = some v) (hgl : g < w.heap.size) (h : rowAt packC w v ps) :
    Calls Tryz.prog 218 #[.agg #[.string (NeedD.name n), .int .i64 (NeedD.kind n), .string (NeedD.version n)], .pointer (some ⟨g, 0, none⟩)] w fun x w' => x = .returned (.bool (hasNeed ps n)) ∧ Below w.heap.size w w' := by
  have HB := hid (show ∀ x, Below w.heap.size w (w.alloc x) from fun x => (Below.refl _ w).alloc (Nat.le_refl _) x)
  have HT := hid (fun W (hb : Below w.heap.size w W) => needThere_any ps v n W hs hf hn hsn (h.below hb))
  obtain ⟨va, vc, hv, -⟩ := rowAt.slice h
  subst hv
  have HG := hid (fun x => ((unhid HB x).cell (p := ⟨g, 0, none⟩) hgl).trans hg)
  have c0 := unhid HG (.cells #[.string (NeedD.name n), .int .i64 (NeedD.kind n), .string (NeedD.version n)] 36)
  clear hs hf hn hsn h hgl
  go_enter Tryz.func218, Tryz.ntmps218
  go_wp2_with fail
  refine (unhid HT _ (unhid HB _)).mono ?_
  rintro x w2 ⟨rfl, hb⟩
  have HB2 := hid ((unhid HB _).trans (hb.mono (unhid HB _).size))
  clear hb c0 hg
  go_wp2_with fail
  go_ret
  exact ⟨rfl, unhid HB2⟩

set_option maxRecDepth 100000 in
set_option maxHeartbeats 4000000 in
theorem listOkThere_any (ps : List packC.D) (vp : Value) (g : Nat) (ds : List needC.D) (v : Value) (w : World) (hsp : smallPs ps) (hf : formB ps = true) (hn : ds.all needOkD = true) (hl6 : ds.length ≤ 6) (hs : smallN ds) (hg : w.cell? ⟨g, 0, none⟩ = some vp) (hgl : g < w.heap.size) (hp : rowAt packC w vp ps) (h : rowAt needC w v ds) :
    Calls Tryz.prog 116 #[v, .int .i64 6, .func (.func 218) #[] #[.pointer (some ⟨g, 0, none⟩)]] w fun x w' => x = .returned (.bool (ds.all (hasNeed ps))) ∧ Below w.heap.size w w' := by
  obtain ⟨a, cap, rfl, -, -, h⟩ := h
  obtain ⟨hlen, hz⟩ := hs
  have HZ := hid hz
  have H := hid h
  have HT := hid (fun W (hb : Below w.heap.size w W) n hn hsn => askNeeds1_any ps vp n g W hsp hf hn hsn ((hb.cell (p := ⟨g, 0, none⟩) hgl).trans hg) (Nat.lt_of_lt_of_le hgl hb.size) (hp.below hb))
  have HN := hid hn
  clear hz h hsp hf hn hg hp
  go_enter Tryz.func116, Tryz.ntmps116
  go_wp2_with fail
  go_loopw [15] (fun i wr => ∃ k : Nat, k ≤ ds.length ∧ i = .int .i64 (k : Int) ∧ Hid ((ds.take k).all (hasNeed ps) = true) ∧ Hid (Below w.heap.size w wr)) (fun i _ => ds.length - (intOf i).toNat)
  case atStart => exact ⟨0, Nat.zero_le _, rfl, hid (by simp), hid (Below.refl _ _)⟩
  case round =>
    obtain ⟨k, hk, rfl, HA, HB⟩ := hrel
    by_cases hlt : k < ds.length
    · obtain ⟨e, he⟩ : ∃ e, ds[k]? = some e := ⟨ds[k], List.getElem?_eq_getElem hlt⟩
      obtain ⟨b, o, rfl, hbl, hc⟩ := (unhid H).resolve_left (by intro e; subst e; simp at hlt)
      obtain ⟨c0, c1, c2⟩ := need_cells (unhid HB) hbl hc he
      have HS := hid (unhid HZ e (List.mem_of_getElem? he))
      have HE := hid he
      have HNE := hid (List.all_eq_true.1 (unhid HN) e (List.mem_of_getElem? he))
      have HBA := hid (show ∀ x, Below w.heap.size w (wr.alloc x) from fun x => (unhid HB).alloc (unhid HB).size x)
      clear hc he hbl HB
      go_wp2_with fail
      refine (unhid HT _ (unhid HBA _) e (unhid HNE) (unhid HS)).mono ?_
      rintro x w2 ⟨rfl, hb⟩
      have HB2 := hid ((unhid HBA _).trans (hb.mono (unhid HBA _).size))
      clear hb c0 c1 c2 HBA
      cases hq : hasNeed ps e with
      | false =>
        go_wp2_with fail
        go_ret
        exact ⟨by rw [all_no (unhid HE) hq]; rfl, unhid HB2⟩
      | true =>
        have HQ := hid hq
        clear hq
        go_wp2_with fail
        go_roundw
        case rel => exact ⟨k + 1, by omega, by go_num, hid (all_take_next (unhid HE) (unhid HA) (unhid HQ)), HB2⟩
        case measure => simp [intOf]; omega
    · have e : k = ds.length := by omega
      subst e
      go_wp2_with fail
      go_ret
      refine ⟨?_, unhid HB⟩
      have := unhid HA
      rw [List.take_of_length_le (Nat.le_refl _)] at this
      rw [this]
      rfl

def needCode (ps : List packC.D) : Int := if needsB ps then 0 else 4
set_option maxRecDepth 100000 in
set_option maxHeartbeats 4000000 in
theorem askNeeds_any (ps : List packC.D) (v : Value) (w : World) (hs : smallPs ps) (hf : formB ps = true) (h : rowAt packC w v ps) :
    Calls Tryz.prog 151 #[v] w fun x w' => x = .returned (.int .i64 (needCode ps)) ∧ Below w.heap.size w w' := by
  have HR := hid h
  obtain ⟨a, cap, rfl, -, -, h⟩ := h
  have hlen := hs.1
  have HSM := hid hs
  have HF := hid hf
  have H := hid h
  clear h hs hf
  go_enter Tryz.func151, Tryz.ntmps151
  go_wp2_with fail
  have hbox := World.alloc_heap_new w (.cells #[.slice a ps.length cap] 23)
  have hB0 : Below w.heap.size w (w.alloc (.cells #[.slice a ps.length cap] 23)) := (Below.refl _ w).alloc (Nat.le_refl _) _
  have hlw : w.heap.size < (w.alloc (.cells #[.slice a ps.length cap] 23)).heap.size := by simp
  generalize w.alloc (.cells #[.slice a ps.length cap] 23) = W0 at hbox hB0 hlw ⊢
  have BX := hid hbox
  have HB00 := hid hB0
  have HLW := hid hlw
  clear hbox hB0 hlw
  go_loopw [7] (fun i wr => ∃ k : Nat, k ≤ ps.length ∧ i = .int .i64 (k : Int) ∧ Hid ((ps.take k).all (fun p => (needsOf p).all (hasNeed ps)) = true) ∧ Hid (Below W0.heap.size W0 wr)) (fun i _ => ps.length - (intOf i).toNat)
  case atStart => exact ⟨0, Nat.zero_le _, rfl, hid (by simp), hid (Below.refl _ _)⟩
  case round =>
    obtain ⟨k, hk, rfl, HA, HB⟩ := hrel
    by_cases hlt : k < ps.length
    · obtain ⟨e, he⟩ : ∃ e, ps[k]? = some e := ⟨ps[k], List.getElem?_eq_getElem hlt⟩
      obtain ⟨b, o, rfl, hbl, hc⟩ := (unhid H).resolve_left (by intro e; subst e; simp at hlt)
      have HBW := hid ((unhid HB00).trans ((unhid HB).mono (unhid HB00).size))
      obtain ⟨na, nc, ta, tc, ⟨c0, c1, c2, c3⟩, hat⟩ := pack_cells (unhid HBW) hbl hc he
      have HAT := hid hat
      have HE := hid he
      have SP := hid ((unhid HSM).2 e (List.mem_of_getElem? he))
      have POK := hid (form_ok (unhid HF) he)
      have HBA := hid (show ∀ x, Below W0.heap.size W0 (wr.alloc x) from fun x => (unhid HB).alloc (unhid HB).size x)
      have HBR := hid (show ∀ x, Below wr.heap.size wr (wr.alloc x) from fun x => (Below.refl _ wr).alloc (Nat.le_refl _) x)
      clear hc he hbl hat HB
      go_wp2_with fail
      have hgc := ((unhid HBA (.cells #[.string (PackD.name e), .string (PackD.version e), .slice na (PackD.needs e).length nc, .slice ta (PackD.tree e).length tc] 34)).block _ (unhid HLW)).trans (unhid BX)
      have hba := unhid HBA (.cells #[.string (PackD.name e), .string (PackD.version e), .slice na (PackD.needs e).length nc, .slice ta (PackD.tree e).length tc] 34)
      have hbr := unhid HBR (.cells #[.string (PackD.name e), .string (PackD.version e), .slice na (PackD.needs e).length nc, .slice ta (PackD.tree e).length tc] 34)
      generalize wr.alloc (.cells #[.string (PackD.name e), .string (PackD.version e), .slice na (PackD.needs e).length nc, .slice ta (PackD.tree e).length tc] 34) = W1 at hgc hba hbr ⊢
      have hnn : (needsOf e).all needOkD = true ∧ (needsOf e).length ≤ 6 := by
        have h1 := unhid POK
        unfold pkOk at h1
        simp only [Bool.and_eq_true, decide_eq_true_eq] at h1
        exact h1.1.2.1
      have hrow : rowAt needC W1 (.slice na (PackD.needs e).length nc) (needsOf e) := by
        obtain ⟨v2, v3, e1, h2, h3⟩ := packC_at (unhid HAT)
        injection e1 with _ e1
        injection e1 with _ e1
        injection e1 with e2 _
        rw [e2]
        exact h2.below hbr
      have HBS := hid ((unhid HB00).trans (hba.mono (unhid HB00).size))
      have HBA1 := hid hba
      have HG := hid (cell_arrS hgc 0 _ rfl)
      have HROW := hid hrow
      have HNN := hid hnn
      have HLT := hid (Nat.lt_of_lt_of_le (unhid HLW) hba.size)
      clear hgc hba hbr hnn hrow HBA HBR c0 c1 c2 c3
      refine (listOkThere_any ps _ w.heap.size (needsOf e) _ W1 (unhid HSM) (unhid HF) (unhid HNN).1 (unhid HNN).2 (unhid SP).needs (unhid HG) (unhid HLT) ((unhid HR).below (unhid HBS)) (unhid HROW)).mono ?_
      rintro x w2 ⟨rfl, hb⟩
      have HB2 := hid ((unhid HBA1).trans (hb.mono (unhid HBA1).size))
      have HBZ := hid ((unhid HB00).trans ((unhid HB2).mono (unhid HB00).size))
      clear hb
      cases hq : (needsOf e).all (hasNeed ps) with
      | false =>
        have E := hid (show needsB ps = false from all_no (p := fun p => (needsOf p).all (hasNeed ps)) (unhid HE) hq)
        go_wp2_with fail
        go_ret
        exact ⟨by unfold needCode; rw [unhid E]; rfl, unhid HBZ⟩
      | true =>
        have HQ := hid hq
        clear hq
        go_wp2_with fail
        go_roundw
        case rel => exact ⟨k + 1, by omega, by go_num, hid (all_take_next (p := fun p => (needsOf p).all (hasNeed ps)) (unhid HE) (unhid HA) (unhid HQ)), HB2⟩
        case measure => simp [intOf]; omega
    · have e : k = ps.length := by omega
      subst e
      have E := hid (show needsB ps = true by
        have := unhid HA
        rwa [List.take_of_length_le (Nat.le_refl _)] at this)
      have HBZ := hid ((unhid HB00).trans ((unhid HB).mono (unhid HB00).size))
      go_wp2_with fail
      go_ret
      exact ⟨by unfold needCode; rw [unhid E]; rfl, unhid HBZ⟩
end Go.Proofs.YtoihhlkidlapmaaGreat

/- Two trees in one, by the model: the second may be nil. -/
namespace Go.Proofs.YtoihhlkidlapmaaGreat
open Go.RowKit Go.Shelf

set_option maxRecDepth 100000 in
set_option maxHeartbeats 8000000 in
theorem l2Join_N (es fs : List Ent) (b o cap : Nat) (a2 : Option Addr) (cap2 : Nat) (w : World) (hte : treeB es = true) (htf : treeB fs = true) (h : ∀ (i : Nat) e, es[i]? = some e → EntAt w b (o + i * 4) e) (hb : b < w.heap.size) (hf : EntsAt w a2 fs) :
    Calls Tryz.prog 153 #[.slice (some ⟨b, o, none⟩) es.length cap, .slice a2 fs.length cap2] w fun x w' => ∃ v, x = .returned (.tuple #[v, .bool (okJ es fs && treeB (joinTo es fs))]) ∧ (∃ g c, v = .slice (some ⟨g, 0, none⟩) (joinL es fs).length c) ∧ w'.ownsRow w.heap.size 57 4 v (joinL es fs).length (valsOf (joinL es fs)) ∧ Below w.heap.size w w' := by
  obtain ⟨i0, hi0, hz0, hzs, hzb⟩ := info_parts infoEntry
  have HI := hid (And.intro hi0 (And.intro hz0 (And.intro hzs hzb)))
  have hle := tree_16 hte
  have hlf := tree_16 htf
  have hae := tree_all hte
  have haf := tree_all htf
  have HH := hid hf
  have HC := hid (l2Copy_some es b o cap w (by omega) h (.inr hb))
  clear hi0 hz0 hzs hzb h hf hb
  go_enter Tryz.func153, Tryz.ntmps153
  go_wp2_with fail
  refine (unhid HC).mono ?_
  rintro x w1 ⟨g1, c1, rfl, hown, hB1⟩
  have HF0 := hid (And.intro hown hB1)
  clear hown hB1 HC
  go_wp2_with fail
  go_loopw [6, 7] (fun v i wr => ∃ j : Nat, j ≤ fs.length ∧ i = .int .i64 (j : Int) ∧ (∃ g c, v = .slice (some ⟨g, 0, none⟩) (joinTo es (fs.take j)).length c) ∧ Hid (wr.ownsRow w.heap.size 57 4 v (joinTo es (fs.take j)).length (valsOf (joinTo es (fs.take j)))) ∧ Hid (okJ es (fs.take j) = true) ∧ Hid (Below w.heap.size w wr)) (fun _ i _ => fs.length - (intOf i).toNat)
  case atStart => exact ⟨0, Nat.zero_le _, rfl, ⟨g1, c1, rfl⟩, hid (unhid HF0).1, hid rfl, hid (unhid HF0).2⟩
  case round =>
    obtain ⟨j, hj, rfl, ⟨g, c, rfl⟩, HO, HA, HB⟩ := hrel
    by_cases hlt : j < fs.length
    · obtain ⟨e, he⟩ : ∃ e, fs[j]? = some e := ⟨fs[j], List.getElem?_eq_getElem hlt⟩
      obtain ⟨b2, o2, rfl, hb2, hcc⟩ := (unhid HH).get (by intro e; subst e; simp at hlt)
      have HCC := hid hcc
      clear hcc HH
      have hsn : joinTo es (fs.take (j + 1)) = putT (joinTo es (fs.take j)) e := by rw [List.take_add_one, he]; exact joinTo_snoc _ _ _
      have hon : okJ es (fs.take (j + 1)) = (okJ es (fs.take j) && stepJ (joinTo es (fs.take j)) e) := by rw [List.take_add_one, he]; exact okJ_snoc _ _ _
      have hl9 : (joinTo es (fs.take j)).length ≤ 900 := by have := joinTo_len es (fs.take j); rw [List.length_take] at this; omega
      have hall : ∀ x ∈ joinTo es (fs.take j), entB x = true := fun x hx => by
        rcases joinTo_mem es _ x hx with h | h
        · exact hae x h
        · exact haf x (List.mem_of_mem_take h)
      have hxe := haf e (List.mem_of_getElem? he)
      have hpr : okJ es (fs.take (j + 1)) = false → okJ es fs = false := okJ_prefix (List.take_prefix _ _)
      obtain ⟨c0, c1', c2, c3⟩ := ((unhid HCC) j e he).below (unhid HB) hb2
      have HE := hid ((unhid HCC) j e he)
      obtain ⟨a1, cap1, ev, hRI⟩ := rowIn_of_owns (unhid HO)
      injection ev with ev1 ev2 ev3
      subst ev1
      have HAT := hid hRI.at
      have hcl : (joinTo es (fs.take j)).length ≤ c := by
        rcases (unhid HO).2 with ⟨hv, h0⟩ | ⟨g', cap', cur', hv, _, _, hcc, _⟩
        · cases hv
        · cases hv; exact hcc
      have hgl : g < wr.heap.size := by
        rcases (unhid HO).2 with ⟨hv, h0⟩ | ⟨g', cap', cur', hv, _, hh, _⟩
        · cases hv
        · cases hv; exact (Array.getElem?_eq_some_iff.1 hh).1
      have HGE := hid (show ∀ (i : Nat) x, (joinTo es (fs.take j))[i]? = some x → EntAt wr g (0 + i * 4) x by
        rcases unhid HAT with h0 | ⟨b', o', eb, _, hcc⟩
        · intro i x hi; rw [h0] at hi; simp at hi
        · cases eb; exact hcc)
      have AT := hid (l2At_any (joinTo es (fs.take j)) (some ⟨g, 0, none⟩) c e.path wr (by omega) (unhid HAT))
      have HSN0 := hid (And.intro hsn (And.intro hon hpr))
      have HXE := hid (And.intro hxe hall)
      clear hRI he hsn hon hpr hall hxe ev2 ev3
      generalize joinTo es (fs.take j) = L at *
      go_wp2_with fail
      refine (unhid AT).mono ?_
      rintro x w3 ⟨rfl, n3, e3⟩
      have hB3 : Below wr.heap.size wr w3 := by rw [e3]; exact drewN_below _ _
      have hkn : placeE L e.path ≤ L.length := placeE_le _ _
      have HB2 := hid ((unhid HB).trans (hB3.mono (unhid HB).size))
      have HG3 := hid (entAt_below (unhid HGE) (.inr hgl) hB3)
      have HE3 := hid ((unhid HE).below (unhid HB2) hb2)
      have HO3 := hid (ownsRow_kept (unhid HO) (fun g eg => hB3.block g ((unhid HO).lt g eg).2))
      have hwl : w.heap.size ≤ w3.heap.size := (unhid HB2).size
      have hgl3 : g < w3.heap.size := Nat.lt_of_lt_of_le hgl hB3.size
      have hbl3 : b2 < w3.heap.size := Nat.lt_of_lt_of_le hb2 hwl
      clear hB3 e3 AT HGE HE c0 c1' c2 c3 HAT HB HO n3 hgl
      cases hth : thereE L e.path
      · have HSN := hid (show (joinTo es (fs.take (j + 1))).length = placeE L e.path + 1 + (L.length - placeE L e.path) ∧ valsOf (joinTo es (fs.take (j + 1))) = valsOf (L.take (placeE L e.path)) ++ valsOf [e] ++ valsOf (L.drop (placeE L e.path)) by
          rw [(unhid HSN0).1, put_new hth]; refine ⟨by rw [insAt_len]; omega, ?_⟩; unfold insAt; rw [valsOf_app, valsOf_app])
        have HOK := hid (show okJ es (fs.take (j + 1)) = true by rw [(unhid HSN0).2.1, unhid HA]; unfold stepJ; rw [hth]; rfl)
        clear hth HSN0 HXE HO3
        generalize placeE L e.path = k at hkn HSN ⊢
        generalize hnl : L.length = n at *
        have HNL := hid hnl
        clear hnl
        go_wp2_with fail
        go_quiet (fail)
        have hBq : Below w3.heap.size w3 (w3.drewN nq) := drewN_below _ _
        have HB2' := hid ((unhid HB2).trans (hBq.mono hwl))
        have HG3' := hid (entAt_below (unhid HG3) (.inr hgl3) hBq)
        have HE3' := hid ((unhid HE3).below hBq hbl3)
        have hwl' : w.heap.size ≤ (w3.drewN nq).heap.size := hwl
        have hgl3' : g < (w3.drewN nq).heap.size := hgl3
        have hbl3' : b2 < (w3.drewN nq).heap.size := hbl3
        clear hBq HB2 HG3 HE3 hwl hgl3 hbl3
        have HB2 := HB2'; have HG3 := HG3'; have HE3 := HE3'; have hwl := hwl'; have hgl3 := hgl3'; have hbl3 := hbl3'
        clear HB2' HG3' HE3' hwl' hgl3' hbl3'
        generalize w3.drewN nq = w3 at *
        go_wp2_with fail
        have hi1 : (0 : Int) ≤ (k : Int) := by omega
        have hi2 : (k : Int) ≤ (n : Int) := by omega
        have hi3 : (k : Int) ≤ (c : Int) := by omega
        have hi4 : (n : Int) ≤ (c : Int) := by omega
        have hi5 : (0 : Int) ≤ (j : Int) := by omega
        have hi6 : (j : Int) < (fs.length : Int) := by omega
        have HC1 := hid (show ∀ W, Below w3.heap.size w3 W → ∀ j u, (valsOf (L.take k))[j]? = some u → W.cell? ((⟨g, 0, none⟩ : Addr).add j) = some u from fun W hW => ents_cells (ents_take (entAt_below (unhid HG3) (.inr hgl3) hW)))
        have HC2 := hid (show ∀ W, Below w3.heap.size w3 W → ∀ j u, (valsOf (L.drop k))[j]? = some u → W.cell? ((⟨g, offD c k, none⟩ : Addr).add j) = some u from fun W hW => ents_cells (fun i x hi => by have := ents_dropD (entAt_below (unhid HG3) (.inr hgl3) hW) (show L.length ≤ c by rw [unhid HNL]; omega) i x hi; rwa [Nat.zero_add] at this))
        have ht1 : (L.take k).length = k := by rw [List.length_take, unhid HNL]; omega
        have ht2 : (L.drop k).length = n - k := by rw [List.length_drop, unhid HNL]
        refine wp_region_held_drew (S := fun w' => Below w3.heap.size w3 w') (by kernel_rfl) (drew_below _) (fun hS => ?_)
        refine wpAnyH_take (i := 1) (v := .slice (some ⟨g, 0, none⟩) n c) rfl (by kernel_rfl) (by kernel_rfl) (by kernel_rfl) (fun _ _ _ h => h) (Or.inl ⟨by rfl, fun w' hw => by go_simp⟩) hS ?_
        refine wpAnyH_take (i := 2) (v := .int .i64 (k : Int)) rfl (by kernel_rfl) (by kernel_rfl) (by kernel_rfl) (fun _ _ _ h => h) (Or.inl ⟨by rfl, fun w' hw => by go_simp⟩) hS ?_
        refine wpAnyH_take (i := 3) (v := .slice (some ⟨g, 0, none⟩) k c) rfl (by kernel_rfl) (by kernel_rfl) (by kernel_rfl) (fun _ _ _ h => h) (Or.inl ⟨by rfl, fun w' hw => by go_simp⟩) hS ?_
        refine wpAnyH_take (i := 5) (v := .slice (some ⟨b2, o2, none⟩) fs.length cap2) rfl (by kernel_rfl) (by kernel_rfl) (by kernel_rfl) (fun _ _ _ h => h) (Or.inl ⟨by rfl, fun w' hw => by go_simp⟩) hS ?_
        refine wpAnyH_take (i := 6) (v := .int .i64 (j : Int)) rfl (by kernel_rfl) (by kernel_rfl) (by kernel_rfl) (fun _ _ _ h => h) (Or.inl ⟨by rfl, fun w' hw => by go_simp⟩) hS ?_
        refine wpAnyH_take (i := 7) (v := .pointer (some ⟨b2, o2 + j * 4, none⟩)) rfl (by kernel_rfl) (by kernel_rfl) (by kernel_rfl) (fun _ _ _ h => h) (Or.inl ⟨by rfl, fun w' hw => by go_simp⟩) hS ?_
        refine wpAnyH_take (i := 8) (v := .agg #[.string e.path, .int .i64 e.kind, .int .i64 e.mode, .string e.text]) rfl (by kernel_rfl) (by kernel_rfl) (by kernel_rfl) (fun _ _ _ h => h) (Or.inl ⟨by rfl, fun w' hw => by obtain ⟨k0, k1, k2, k3⟩ := (unhid HE3).below hw hbl3; go_simp⟩) hS ?_
        refine wpAnyH_take (i := 11) (v := .slice (some ⟨g, 0, none⟩) n c) rfl (by kernel_rfl) (by kernel_rfl) (by kernel_rfl) (fun _ _ _ h => h) (Or.inl ⟨by rfl, fun w' hw => by go_simp⟩) hS ?_
        refine wpAnyH_take (i := 12) (v := .int .i64 (k : Int)) rfl (by kernel_rfl) (by kernel_rfl) (by kernel_rfl) (fun _ _ _ h => h) (Or.inl ⟨by rfl, fun w' hw => by go_simp⟩) hS ?_
        refine wpAnyH_take (i := 13) (v := .slice (some ⟨g, offD c k, none⟩) (n - k) (c - k)) rfl (by kernel_rfl) (by kernel_rfl) (by kernel_rfl) (fun _ _ _ h => h) (Or.inl ⟨by rfl, fun w' hw => by 
          unfold offD
          by_cases hck : c = k
          · rw [if_pos hck]; go_simp
          · rw [if_neg hck]; go_simp⟩) hS ?_
        generalize w3.drew = W at hS ⊢
        refine wpAnyH_ready (rs := [0, 9]) (by kernel_rfl) (by simp) ?_
        refine AllReadyH.cons rfl (fun K hK => ?_) (AllReadyH.cons rfl (fun K hK => ?_) AllReadyH.nil)
        · go_simp
          have r0 := owns_empty W w3.heap.size hS.size 57
          have hS1 := hS.alloc hS.size (.cells #[] 57)
          refine hK.out _ _ hS1 (fun _ => ?_)
          clear hK K hS
          generalize W.alloc (.cells #[] 57) = W2 at hS1 r0 ⊢
          generalize W.heap.size = g0 at r0 ⊢
          have hS := hS1
          clear hS1
          refine wpAnyH_ready (rs := [4, 9]) (by kernel_rfl) (by simp) ?_
          refine AllReadyH.cons rfl (fun K hK => ?_) (AllReadyH.cons rfl (fun K hK => ?_) AllReadyH.nil)
          · refine step_append_at (by rfl) _ _ 32 (by rfl) w3.heap.size 57 i0 _ 4 48 Tryz.underlying32 (unhid HI).1 (unhid HI).2.1 (unhid HI).2.2.1 (unhid HI).2.2.2 rfl (by decide) (Value.slice (some ⟨g0, 0, none⟩) 0 0) (0) ([]) (by rfl) r0 ⟨g, 0, none⟩ (k) (c) (valsOf (L.take k)) (by rfl) (by rw [valsOf_len, ht1]) (unhid HC1 _ hS) (valsOf_one _) (by unfold maxLen; omega) (by omega) hS.size ?_
            intro v1 W3 r1 hg1 hat1
            rw [Nat.zero_add, List.nil_append] at r1
            obtain ⟨a1, c1, rfl⟩ := ownsRow_slice r1
            have hS1 := hS.grown hg1 hS.size (fun g eg => (r0.lt g eg).1)
            refine hK.out _ _ hS1 (fun _ => ?_)
            clear hK K hS r0 hg1 hat1
            have hS := hS1
            clear hS1
            refine wpAnyH_ready (rs := [9]) (by kernel_rfl) (by simp) ?_
            refine AllReadyH.cons rfl (fun K hK => ?_) AllReadyH.nil
            go_simp
            have o2 : OneAt (W3.alloc (.cells #[.string e.path, .int .i64 e.kind, .int .i64 e.mode, .string e.text] 57)) W3.heap.size e := World.alloc_heap_new _ _
            have hS1 := hS.alloc hS.size (.cells #[.string e.path, .int .i64 e.kind, .int .i64 e.mode, .string e.text] 57)
            have m2 : (Value.slice a1 k c1).ownBlock ≠ some W3.heap.size := fun eq => Nat.lt_irrefl _ (r1.lt _ eq).2
            have r1' := r1.alloc (.cells #[.string e.path, .int .i64 e.kind, .int .i64 e.mode, .string e.text] 57)
            clear r1
            have r1 := r1'
            clear r1'
            refine hK.out _ _ hS1 (fun _ => ?_)
            clear hK K hS
            generalize W3.alloc (.cells #[.string e.path, .int .i64 e.kind, .int .i64 e.mode, .string e.text] 57) = W4 at hS1 o2 r1 ⊢
            generalize W3.heap.size = g2 at o2 m2 ⊢
            have hS := hS1
            clear hS1
            refine wpAnyH_ready (rs := [10]) (by kernel_rfl) (by simp) ?_
            refine AllReadyH.cons rfl (fun K hK => ?_) AllReadyH.nil
            refine step_append_at (by rfl) _ _ 32 (by rfl) w3.heap.size 57 i0 _ 4 48 Tryz.underlying32 (unhid HI).1 (unhid HI).2.1 (unhid HI).2.2.1 (unhid HI).2.2.2 rfl (by decide) (Value.slice a1 k c1) (k) (valsOf (L.take k)) (by rfl) r1 ⟨g2, 0, none⟩ (1) (1) (valsOf [e]) (by rfl) (by rw [valsOf_len]; rfl) (o2.cells) (valsOf_one _) (by unfold maxLen; omega) (by omega) hS.size ?_
            intro v2 W5 r2 hg1 hat1
            obtain ⟨a2, c2, rfl⟩ := ownsRow_slice r2
            have hS1 := hS.grown hg1 hS.size (fun g eg => (r1.lt g eg).1)
            refine hK.out _ _ hS1 (fun _ => ?_)
            clear hK K hS r1 hg1 hat1 o2 m2
            have hS := hS1
            clear hS1
            refine wpAnyH_ready (rs := [14]) (by kernel_rfl) (by simp) ?_
            refine AllReadyH.cons rfl (fun K hK => ?_) AllReadyH.nil
            refine step_append_at (by rfl) _ _ 32 (by rfl) w3.heap.size 57 i0 _ 4 48 Tryz.underlying32 (unhid HI).1 (unhid HI).2.1 (unhid HI).2.2.1 (unhid HI).2.2.2 rfl (by decide) (Value.slice a2 (k + 1) c2) (k + 1) (valsOf (L.take k) ++ valsOf [e]) (by rfl) r2 ⟨g, offD c k, none⟩ ((n - k)) ((c - k)) (valsOf (L.drop k)) (by rfl) (by rw [valsOf_len, ht2]) (unhid HC2 _ hS) (valsOf_one _) (by unfold maxLen; omega) (by omega) hS.size ?_
            intro v3 W6 r3 hg1 hat1
            obtain ⟨a3, c3, rfl⟩ := ownsRow_slice r3
            have hS1 := hS.grown hg1 hS.size (fun g eg => (r2.lt g eg).1)
            refine hK.out _ _ hS1 (fun _ => ?_)
            clear hK K hS r2 hg1 hat1
            have hS := hS1
            clear hS1
            refine wpAnyH_take (i := 15) (v := .slice a3 (k + 1 + (n - k)) c3) rfl (by kernel_rfl) (by kernel_rfl) (by kernel_rfl) (fun _ _ _ h => h) (Or.inl ⟨by rfl, fun w' hw => by go_simp⟩) hS ?_
            refine wpAnyH_done (by kernel_rfl) ?_ _
            have HF := hid (show W6.ownsRow w.heap.size 57 4 (.slice a3 (k + 1 + (n - k)) c3) (joinTo es (fs.take (j + 1))).length (valsOf (joinTo es (fs.take (j + 1)))) ∧ Below w.heap.size w W6 from ⟨by rw [(unhid HSN).1, (unhid HSN).2]; exact ownsRow_base r3 (by omega), (unhid HB2).trans (hS.mono (by omega))⟩)
            obtain ⟨g3, cc3, hv3⟩ := ownsRow_some (unhid HF).1 (by rw [(unhid HSN).1]; omega)
            have HV3 := hid hv3
            clear r3 hS hv3
            go_wp2_with fail
            go_roundw
            case rel => exact ⟨j + 1, by omega, by go_num, ⟨g3, cc3, unhid HV3⟩, hid (unhid HF).1, HOK, hid (unhid HF).2⟩
            case measure => simp [intOf]; omega
          · go_simp
            have o2 : OneAt (W2.alloc (.cells #[.string e.path, .int .i64 e.kind, .int .i64 e.mode, .string e.text] 57)) W2.heap.size e := World.alloc_heap_new _ _
            have hS1 := hS.alloc hS.size (.cells #[.string e.path, .int .i64 e.kind, .int .i64 e.mode, .string e.text] 57)
            have m2 : (Value.slice (some ⟨g0, 0, none⟩) 0 0).ownBlock ≠ some W2.heap.size := fun eq => Nat.lt_irrefl _ (r0.lt _ eq).2
            have r0' := r0.alloc (.cells #[.string e.path, .int .i64 e.kind, .int .i64 e.mode, .string e.text] 57)
            clear r0
            have r0 := r0'
            clear r0'
            refine hK.out _ _ hS1 (fun _ => ?_)
            clear hK K hS
            generalize W2.alloc (.cells #[.string e.path, .int .i64 e.kind, .int .i64 e.mode, .string e.text] 57) = W3 at hS1 o2 r0 ⊢
            generalize W2.heap.size = g2 at o2 m2 ⊢
            have hS := hS1
            clear hS1
            refine wpAnyH_ready (rs := [4]) (by kernel_rfl) (by simp) ?_
            refine AllReadyH.cons rfl (fun K hK => ?_) AllReadyH.nil
            refine step_append_at (by rfl) _ _ 32 (by rfl) w3.heap.size 57 i0 _ 4 48 Tryz.underlying32 (unhid HI).1 (unhid HI).2.1 (unhid HI).2.2.1 (unhid HI).2.2.2 rfl (by decide) (Value.slice (some ⟨g0, 0, none⟩) 0 0) (0) ([]) (by rfl) r0 ⟨g, 0, none⟩ (k) (c) (valsOf (L.take k)) (by rfl) (by rw [valsOf_len, ht1]) (unhid HC1 _ hS) (valsOf_one _) (by unfold maxLen; omega) (by omega) hS.size ?_
            intro v1 W4 r1 hg1 hat1
            rw [Nat.zero_add, List.nil_append] at r1
            obtain ⟨a1, c1, rfl⟩ := ownsRow_slice r1
            have hS1 := hS.grown hg1 hS.size (fun g eg => (r0.lt g eg).1)
            have o2' := o2.grown hg1 (fun eq => m2 eq.symm)
            have m2' : (Value.slice a1 k c1).ownBlock ≠ some g2 := by
              rcases hat1 with h | h <;> rw [h]
              · exact m2
              · intro eq; injection eq with eq; have := o2.lt; omega
            clear o2 m2
            have o2 := o2'
            clear o2'
            have m2 := m2'
            clear m2'
            refine hK.out _ _ hS1 (fun _ => ?_)
            clear hK K hS r0 hg1 hat1
            have hS := hS1
            clear hS1
            refine wpAnyH_ready (rs := [10]) (by kernel_rfl) (by simp) ?_
            refine AllReadyH.cons rfl (fun K hK => ?_) AllReadyH.nil
            refine step_append_at (by rfl) _ _ 32 (by rfl) w3.heap.size 57 i0 _ 4 48 Tryz.underlying32 (unhid HI).1 (unhid HI).2.1 (unhid HI).2.2.1 (unhid HI).2.2.2 rfl (by decide) (Value.slice a1 k c1) (k) (valsOf (L.take k)) (by rfl) r1 ⟨g2, 0, none⟩ (1) (1) (valsOf [e]) (by rfl) (by rw [valsOf_len]; rfl) (o2.cells) (valsOf_one _) (by unfold maxLen; omega) (by omega) hS.size ?_
            intro v2 W5 r2 hg1 hat1
            obtain ⟨a2, c2, rfl⟩ := ownsRow_slice r2
            have hS1 := hS.grown hg1 hS.size (fun g eg => (r1.lt g eg).1)
            refine hK.out _ _ hS1 (fun _ => ?_)
            clear hK K hS r1 hg1 hat1 o2 m2
            have hS := hS1
            clear hS1
            refine wpAnyH_ready (rs := [14]) (by kernel_rfl) (by simp) ?_
            refine AllReadyH.cons rfl (fun K hK => ?_) AllReadyH.nil
            refine step_append_at (by rfl) _ _ 32 (by rfl) w3.heap.size 57 i0 _ 4 48 Tryz.underlying32 (unhid HI).1 (unhid HI).2.1 (unhid HI).2.2.1 (unhid HI).2.2.2 rfl (by decide) (Value.slice a2 (k + 1) c2) (k + 1) (valsOf (L.take k) ++ valsOf [e]) (by rfl) r2 ⟨g, offD c k, none⟩ ((n - k)) ((c - k)) (valsOf (L.drop k)) (by rfl) (by rw [valsOf_len, ht2]) (unhid HC2 _ hS) (valsOf_one _) (by unfold maxLen; omega) (by omega) hS.size ?_
            intro v3 W6 r3 hg1 hat1
            obtain ⟨a3, c3, rfl⟩ := ownsRow_slice r3
            have hS1 := hS.grown hg1 hS.size (fun g eg => (r2.lt g eg).1)
            refine hK.out _ _ hS1 (fun _ => ?_)
            clear hK K hS r2 hg1 hat1
            have hS := hS1
            clear hS1
            refine wpAnyH_take (i := 15) (v := .slice a3 (k + 1 + (n - k)) c3) rfl (by kernel_rfl) (by kernel_rfl) (by kernel_rfl) (fun _ _ _ h => h) (Or.inl ⟨by rfl, fun w' hw => by go_simp⟩) hS ?_
            refine wpAnyH_done (by kernel_rfl) ?_ _
            have HF := hid (show W6.ownsRow w.heap.size 57 4 (.slice a3 (k + 1 + (n - k)) c3) (joinTo es (fs.take (j + 1))).length (valsOf (joinTo es (fs.take (j + 1)))) ∧ Below w.heap.size w W6 from ⟨by rw [(unhid HSN).1, (unhid HSN).2]; exact ownsRow_base r3 (by omega), (unhid HB2).trans (hS.mono (by omega))⟩)
            obtain ⟨g3, cc3, hv3⟩ := ownsRow_some (unhid HF).1 (by rw [(unhid HSN).1]; omega)
            have HV3 := hid hv3
            clear r3 hS hv3
            go_wp2_with fail
            go_roundw
            case rel => exact ⟨j + 1, by omega, by go_num, ⟨g3, cc3, unhid HV3⟩, hid (unhid HF).1, HOK, hid (unhid HF).2⟩
            case measure => simp [intOf]; omega
        · go_simp
          have o2 : OneAt (W.alloc (.cells #[.string e.path, .int .i64 e.kind, .int .i64 e.mode, .string e.text] 57)) W.heap.size e := World.alloc_heap_new _ _
          have hS1 := hS.alloc hS.size (.cells #[.string e.path, .int .i64 e.kind, .int .i64 e.mode, .string e.text] 57)
          refine hK.out _ _ hS1 (fun _ => ?_)
          clear hK K hS
          generalize W.alloc (.cells #[.string e.path, .int .i64 e.kind, .int .i64 e.mode, .string e.text] 57) = W2 at hS1 o2 ⊢
          generalize W.heap.size = g2 at o2 ⊢
          have hS := hS1
          clear hS1
          refine wpAnyH_ready (rs := [0]) (by kernel_rfl) (by simp) ?_
          refine AllReadyH.cons rfl (fun K hK => ?_) AllReadyH.nil
          go_simp
          have r0 := owns_empty W2 w3.heap.size hS.size 57
          have hS1 := hS.alloc hS.size (.cells #[] 57)
          have o2' := o2.alloc (.cells #[] 57)
          have m2 : (Value.slice (some ⟨W2.heap.size, 0, none⟩) 0 0).ownBlock ≠ some g2 := fun eq => by injection eq with eq; have eq2 : W2.heap.size = g2 := eq; have := o2.lt; omega
          clear o2
          have o2 := o2'
          clear o2'
          refine hK.out _ _ hS1 (fun _ => ?_)
          clear hK K hS
          generalize W2.alloc (.cells #[] 57) = W3 at hS1 r0 o2 ⊢
          generalize W2.heap.size = g0 at r0 m2 ⊢
          have hS := hS1
          clear hS1
          refine wpAnyH_ready (rs := [4]) (by kernel_rfl) (by simp) ?_
          refine AllReadyH.cons rfl (fun K hK => ?_) AllReadyH.nil
          refine step_append_at (by rfl) _ _ 32 (by rfl) w3.heap.size 57 i0 _ 4 48 Tryz.underlying32 (unhid HI).1 (unhid HI).2.1 (unhid HI).2.2.1 (unhid HI).2.2.2 rfl (by decide) (Value.slice (some ⟨g0, 0, none⟩) 0 0) (0) ([]) (by rfl) r0 ⟨g, 0, none⟩ (k) (c) (valsOf (L.take k)) (by rfl) (by rw [valsOf_len, ht1]) (unhid HC1 _ hS) (valsOf_one _) (by unfold maxLen; omega) (by omega) hS.size ?_
          intro v1 W4 r1 hg1 hat1
          rw [Nat.zero_add, List.nil_append] at r1
          obtain ⟨a1, c1, rfl⟩ := ownsRow_slice r1
          have hS1 := hS.grown hg1 hS.size (fun g eg => (r0.lt g eg).1)
          have o2' := o2.grown hg1 (fun eq => m2 eq.symm)
          have m2' : (Value.slice a1 k c1).ownBlock ≠ some g2 := by
            rcases hat1 with h | h <;> rw [h]
            · exact m2
            · intro eq; injection eq with eq; have := o2.lt; omega
          clear o2 m2
          have o2 := o2'
          clear o2'
          have m2 := m2'
          clear m2'
          refine hK.out _ _ hS1 (fun _ => ?_)
          clear hK K hS r0 hg1 hat1
          have hS := hS1
          clear hS1
          refine wpAnyH_ready (rs := [10]) (by kernel_rfl) (by simp) ?_
          refine AllReadyH.cons rfl (fun K hK => ?_) AllReadyH.nil
          refine step_append_at (by rfl) _ _ 32 (by rfl) w3.heap.size 57 i0 _ 4 48 Tryz.underlying32 (unhid HI).1 (unhid HI).2.1 (unhid HI).2.2.1 (unhid HI).2.2.2 rfl (by decide) (Value.slice a1 k c1) (k) (valsOf (L.take k)) (by rfl) r1 ⟨g2, 0, none⟩ (1) (1) (valsOf [e]) (by rfl) (by rw [valsOf_len]; rfl) (o2.cells) (valsOf_one _) (by unfold maxLen; omega) (by omega) hS.size ?_
          intro v2 W5 r2 hg1 hat1
          obtain ⟨a2, c2, rfl⟩ := ownsRow_slice r2
          have hS1 := hS.grown hg1 hS.size (fun g eg => (r1.lt g eg).1)
          refine hK.out _ _ hS1 (fun _ => ?_)
          clear hK K hS r1 hg1 hat1 o2 m2
          have hS := hS1
          clear hS1
          refine wpAnyH_ready (rs := [14]) (by kernel_rfl) (by simp) ?_
          refine AllReadyH.cons rfl (fun K hK => ?_) AllReadyH.nil
          refine step_append_at (by rfl) _ _ 32 (by rfl) w3.heap.size 57 i0 _ 4 48 Tryz.underlying32 (unhid HI).1 (unhid HI).2.1 (unhid HI).2.2.1 (unhid HI).2.2.2 rfl (by decide) (Value.slice a2 (k + 1) c2) (k + 1) (valsOf (L.take k) ++ valsOf [e]) (by rfl) r2 ⟨g, offD c k, none⟩ ((n - k)) ((c - k)) (valsOf (L.drop k)) (by rfl) (by rw [valsOf_len, ht2]) (unhid HC2 _ hS) (valsOf_one _) (by unfold maxLen; omega) (by omega) hS.size ?_
          intro v3 W6 r3 hg1 hat1
          obtain ⟨a3, c3, rfl⟩ := ownsRow_slice r3
          have hS1 := hS.grown hg1 hS.size (fun g eg => (r2.lt g eg).1)
          refine hK.out _ _ hS1 (fun _ => ?_)
          clear hK K hS r2 hg1 hat1
          have hS := hS1
          clear hS1
          refine wpAnyH_take (i := 15) (v := .slice a3 (k + 1 + (n - k)) c3) rfl (by kernel_rfl) (by kernel_rfl) (by kernel_rfl) (fun _ _ _ h => h) (Or.inl ⟨by rfl, fun w' hw => by go_simp⟩) hS ?_
          refine wpAnyH_done (by kernel_rfl) ?_ _
          have HF := hid (show W6.ownsRow w.heap.size 57 4 (.slice a3 (k + 1 + (n - k)) c3) (joinTo es (fs.take (j + 1))).length (valsOf (joinTo es (fs.take (j + 1)))) ∧ Below w.heap.size w W6 from ⟨by rw [(unhid HSN).1, (unhid HSN).2]; exact ownsRow_base r3 (by omega), (unhid HB2).trans (hS.mono (by omega))⟩)
          obtain ⟨g3, cc3, hv3⟩ := ownsRow_some (unhid HF).1 (by rw [(unhid HSN).1]; omega)
          have HV3 := hid hv3
          clear r3 hS hv3
          go_wp2_with fail
          go_roundw
          case rel => exact ⟨j + 1, by omega, by go_num, ⟨g3, cc3, unhid HV3⟩, hid (unhid HF).1, HOK, hid (unhid HF).2⟩
          case measure => simp [intOf]; omega
      · obtain ⟨old, hold, hop⟩ := there_get hth
        have hfo := entFn_get hold
        have hkl : placeE L e.path < L.length := (List.getElem?_eq_some_iff.1 hold).1
        obtain ⟨k0, k1, k2, k3⟩ := (unhid HG3) _ old hold
        simp only [Nat.zero_add] at k0 k1 k2 k3
        obtain ⟨m0, m1, m2, m3⟩ := unhid HE3
        have hse := same_eq (unhid HXE).1 ((unhid HXE).2 old (List.mem_of_getElem? hold)) hop
        cases hk1 : (old.kind == 1)
        · have hno : okJ es fs = false := (unhid HSN0).2.2 (by rw [(unhid HSN0).2.1]; unfold stepJ; rw [hth, hfo, hse, hk1]; simp)
          have E := hid (show (okJ es fs && treeB (joinTo es fs)) = false ∧ joinL es fs = [] by unfold joinL; rw [hno]; exact ⟨rfl, rfl⟩)
          have hkb : (old.kind != 1) = true := by rw [bne, hk1]; rfl
          clear hold hfo hse hop hno hk1
          go_wp2_with fail
          go_quiet (fail)
          have HF := hid (And.intro (owns_empty (w3.drewN nq) w.heap.size hwl 57) (((unhid HB2).trans (drewN_below w3 nq)).alloc (w := w3.drewN nq) hwl (.cells #[] 57)))
          generalize w3.drewN nq = w4 at HF ⊢
          go_wp2_with fail
          go_ret2
          exact ⟨_, by rw [(unhid E).1]; rfl, by rw [(unhid E).2]; exact ⟨_, _, rfl⟩, by rw [(unhid E).2]; exact (unhid HF).1, (unhid HF).2⟩
        · have hne := fun w => ne_ents e old w
          unfold Ent.vals at hne
          have hkb : (old.kind != 1) = false := by rw [bne, hk1]; rfl
          cases hev : eqV e old
          · have hno : okJ es fs = false := (unhid HSN0).2.2 (by rw [(unhid HSN0).2.1]; unfold stepJ; rw [hth, hfo, hse, hev]; simp)
            have E := hid (show (okJ es fs && treeB (joinTo es fs)) = false ∧ joinL es fs = [] by unfold joinL; rw [hno]; exact ⟨rfl, rfl⟩)
            rw [hev] at hne
            clear hold hfo hse hop hno hk1
            go_wp2_with fail
            go_quiet (fail)
            have HF := hid (And.intro (owns_empty (w3.drewN nq) w.heap.size hwl 57) (((unhid HB2).trans (drewN_below w3 nq)).alloc (w := w3.drewN nq) hwl (.cells #[] 57)))
            generalize w3.drewN nq = w4 at HF ⊢
            go_wp2_with fail
            go_ret2
            exact ⟨_, by rw [(unhid E).1]; rfl, by rw [(unhid E).2]; exact ⟨_, _, rfl⟩, by rw [(unhid E).2]; exact (unhid HF).1, (unhid HF).2⟩
          · have heo := eqV_eq hev
            have HSN := hid (show joinTo es (fs.take (j + 1)) = L by rw [(unhid HSN0).1]; exact put_same hth (by rw [hfo, heo]))
            have HOK := hid (show okJ es (fs.take (j + 1)) = true by rw [(unhid HSN0).2.1, unhid HA]; unfold stepJ; rw [hfo, hse, hk1, hev]; simp)
            rw [hev] at hne
            clear hold hfo hse hop hk1 heo
            go_wp2_with fail
            go_quiet (fail)
            have hBq : Below w3.heap.size w3 (w3.drewN nq) := drewN_below _ _
            have HF := hid (And.intro (ownsRow_kept (unhid HO3) (fun g eg => hBq.block g ((unhid HO3).lt g eg).2)) ((unhid HB2).trans (drewN_below w3 nq)))
            generalize w3.drewN nq = w4 at HF ⊢
            go_wp2_with fail
            go_roundw
            case rel => exact ⟨j + 1, by omega, by go_num, ⟨g, c, by rw [unhid HSN]⟩, hid (by rw [unhid HSN]; exact (unhid HF).1), HOK, hid (unhid HF).2⟩
            case measure => simp [intOf]; omega
    · have e : j = fs.length := by omega
      subst e
      rw [List.take_of_length_le (Nat.le_refl _)] at HO HA ⊢
      obtain ⟨a1, cap1, ev, hRI⟩ := rowIn_of_owns (unhid HO)
      have hsm : smallE (joinTo es fs) := small_all (by have := joinTo_len es fs; omega) (fun x hx => by
        rcases joinTo_mem es _ x hx with h | h
        · exact hae x h
        · exact haf x h)
      injection ev with ev1 ev2 ev3
      subst ev1
      have TOK := hid (specTreeOk_any (joinTo es fs) (some ⟨g, 0, none⟩) c wr hsm hRI.at)
      have E := hid (show (okJ es fs && treeB (joinTo es fs)) = treeB (joinTo es fs) ∧ joinL es fs = joinTo es fs by unfold joinL; rw [unhid HA]; exact ⟨rfl, rfl⟩)
      clear hRI hsm ev2 ev3
      go_wp2_with fail
      refine (unhid TOK).mono ?_
      rintro x w9 ⟨rfl, hB9⟩
      have HF := hid (And.intro (ownsRow_kept (unhid HO) (fun g eg => hB9.block g ((unhid HO).lt g eg).2)) ((unhid HB).trans (hB9.mono (unhid HB).size)))
      clear hB9 TOK
      go_wp2_with fail
      go_ret2
      exact ⟨_, by rw [(unhid E).1]; rfl, by rw [(unhid E).2]; exact ⟨_, _, rfl⟩, by rw [(unhid E).2]; exact (unhid HF).1, (unhid HF).2⟩
end Go.Proofs.YtoihhlkidlapmaaGreat

/- The trees of packs in one, by the model and by the program. -/
namespace Go.Proofs.YtoihhlkidlapmaaGreat
open Go.RowKit Go.Shelf

def treeOfP (p : packC.D) : List Ent := entsD (PackD.tree p)
def joinO : List Ent → List packC.D → Option (List Ent)
  | acc, [] => some acc
  | acc, p :: ps => if okJ acc (treeOfP p) && treeB (joinTo acc (treeOfP p)) then joinO (joinTo acc (treeOfP p)) ps else none
def joinG (ps : List packC.D) : List Ent := (joinO [] ps).getD []
def joinS (ps : List packC.D) : Bool := (joinO [] ps).isSome
theorem joinO_yes {acc : List Ent} {ps : List packC.D} {k : Nat} {p : packC.D} (hp : ps[k]? = some p) (h : (okJ acc (treeOfP p) && treeB (joinTo acc (treeOfP p))) = true) : joinO acc (ps.drop k) = joinO (joinTo acc (treeOfP p)) (ps.drop (k + 1)) := by
  obtain ⟨hl, e⟩ := List.getElem?_eq_some_iff.1 hp
  rw [List.drop_eq_getElem_cons hl, e, joinO, if_pos h]
theorem joinO_no {acc : List Ent} {ps : List packC.D} {k : Nat} {p : packC.D} (hp : ps[k]? = some p) (h : (okJ acc (treeOfP p) && treeB (joinTo acc (treeOfP p))) = false) : joinO acc (ps.drop k) = none := by
  obtain ⟨hl, e⟩ := List.getElem?_eq_some_iff.1 hp
  rw [List.drop_eq_getElem_cons hl, e, joinO, if_neg (by rw [h]; exact Bool.false_ne_true)]
theorem pk_tree {p : packC.D} (h : pkOk p = true) : treeB (treeOfP p) = true := by
  unfold pkOk at h
  simp only [Bool.and_eq_true] at h
  exact h.2
theorem tree_in {W : World} {e : packC.D} {na ta : Option Addr} {nc tc : Nat} (h : packC.at_ W [.string (PackD.name e), .string (PackD.version e), .slice na (PackD.needs e).length nc, .slice ta (PackD.tree e).length tc] e) : EntsAt W ta (treeOfP e) ∧ (treeOfP e).length = (PackD.tree e).length ∧ (ta = none → tc = 0) := by
  obtain ⟨v2, v3, e1, h2, h3⟩ := packC_at h
  injection e1 with _ e1
  injection e1 with _ e1
  injection e1 with _ e1
  injection e1 with e2 _
  subst e2
  obtain ⟨a, cap, ev, hn, hc, hr⟩ := entsD_at h3
  injection ev with ea _ ec
  subst ea ec
  exact ⟨hr, entsD_len _, hn⟩
theorem ents_all {W : World} {b o : Nat} {es : List Ent} (h : EntsAt W (some ⟨b, o, none⟩) es) : ∀ (i : Nat) e, es[i]? = some e → EntAt W b (o + i * 4) e := by
  rcases h with rfl | ⟨b', o', e, _, hc⟩
  · intro i e hi; cases hi
  · cases e; exact hc
theorem treeB_nil : treeB [] = true := by rfl

set_option maxRecDepth 100000 in
set_option maxHeartbeats 4000000 in
theorem l9Tree_any (ps : List packC.D) (v : Value) (w : World) (hlen : ps.length ≤ 1048576) (hf : formB ps = true) (h : rowAt packC w v ps) :
    Calls Tryz.prog 94 #[v] w fun x w' => ∃ u, x = .returned (.tuple #[u, .bool (joinS ps)]) ∧ w'.ownsRow w.heap.size 57 4 u (joinG ps).length (valsOf (joinG ps)) ∧ Below w.heap.size w w' := by
  obtain ⟨a, cap, rfl, -, -, h⟩ := h
  have HF := hid hf
  have H := hid h
  clear h hf
  have HO0 := hid (owns_empty w w.heap.size (Nat.le_refl _) 57)
  have HB0 := hid (show Below w.heap.size w (w.alloc (.cells #[] 57)) from (Below.refl _ w).alloc (Nat.le_refl _) _)
  go_enter Tryz.func94, Tryz.ntmps94
  go_wp2_with fail
  generalize w.alloc (.cells #[] 57) = wa at HO0 HB0 ⊢
  go_loopw [4, 5] (fun s i wr => ∃ (k : Nat) (acc : List Ent) (g c : Nat), k ≤ ps.length ∧ i = .int .i64 (k : Int) ∧ s = .slice (some ⟨g, 0, none⟩) acc.length c ∧ Hid (joinO [] ps = joinO acc (ps.drop k)) ∧ Hid (treeB acc = true) ∧ Hid (wr.ownsRow w.heap.size 57 4 (.slice (some ⟨g, 0, none⟩) acc.length c) acc.length (valsOf acc)) ∧ Hid (Below w.heap.size w wr)) (fun _ i _ => ps.length - (intOf i).toNat)
  case atStart => exact ⟨0, [], _, _, Nat.zero_le _, rfl, rfl, hid rfl, hid treeB_nil, HO0, HB0⟩
  case round =>
    clear HO0 HB0
    obtain ⟨k, acc, g, c, hk, rfl, rfl, HJ, HT, HO, HB⟩ := hrel
    by_cases hlt : k < ps.length
    · obtain ⟨e, he⟩ : ∃ e, ps[k]? = some e := ⟨ps[k], List.getElem?_eq_getElem hlt⟩
      obtain ⟨b, o, rfl, hbl, hc⟩ := (unhid H).resolve_left (by intro e; subst e; simp at hlt)
      obtain ⟨na, nc, ta, tc, ⟨c0, c1, c2, c3⟩, hat⟩ := pack_cells (unhid HB) hbl hc he
      obtain ⟨hte, htl, htn⟩ := tree_in hat
      have HTE := hid (pk_tree (form_ok (unhid HF) he))
      have hgl := ((unhid HO).lt g rfl).2
      obtain ⟨a1, cap1, ev, hRI⟩ := rowIn_of_owns (unhid HO)
      injection ev with ev1 ev2 ev3
      subst ev1
      have JN := hid (l2Join_N acc (treeOfP e) g 0 c ta tc wr (unhid HT) (unhid HTE) (ents_all hRI.at) hgl hte)
      rw [htl] at JN
      have HE := hid he
      clear c0 c1 c2 hat hc he hbl hte htn hgl hRI ev2 ev3 htl
      go_wp2_with fail
      refine (unhid JN).mono ?_
      rintro x w2 ⟨u, rfl, ⟨g2, cc, rfl⟩, ho, hb⟩
      have HB2 := hid ((unhid HB).trans (hb.mono (unhid HB).size))
      have HO2 := hid (ownsRow_lowerS ho (unhid HB).size)
      clear ho hb JN c3
      cases hq : (okJ acc (treeOfP e) && treeB (joinTo acc (treeOfP e))) with
      | false =>
        have EN := hid (show joinO [] ps = none from (unhid HJ).trans (joinO_no (unhid HE) hq))
        have HOE := hid (owns_empty w2 w.heap.size (unhid HB2).size 57)
        have HBE := hid (show Below w.heap.size w (w2.alloc (.cells #[] 57)) from (unhid HB2).alloc (unhid HB2).size _)
        clear HO2 hq
        go_wp2_with fail
        generalize w2.alloc (.cells #[] 57) = w3 at HOE HBE ⊢
        go_ret2
        exact ⟨_, by unfold joinS; rw [unhid EN]; rfl, by unfold joinG; rw [unhid EN]; exact unhid HOE, unhid HBE⟩
      | true =>
        have hj : joinL acc (treeOfP e) = joinTo acc (treeOfP e) := by
          rw [Bool.and_eq_true] at hq
          unfold joinL
          rw [if_pos hq.1]
        have HJ2 := hid ((unhid HJ).trans (joinO_yes (unhid HE) hq))
        have HT2 := hid (show treeB (joinTo acc (treeOfP e)) = true by rw [Bool.and_eq_true] at hq; exact hq.2)
        rw [hj] at HO2 ⊢
        generalize joinTo acc (treeOfP e) = acc2 at *
        clear hj hq
        go_wp2_with fail
        go_roundw
        case rel => exact ⟨k + 1, acc2, g2, cc, by omega, by go_num, rfl, HJ2, HT2, HO2, HB2⟩
        case measure => simp [intOf]; omega
    · have e : k = ps.length := by omega
      subst e
      have EN := hid (show joinO [] ps = some acc by
        have := unhid HJ
        rwa [List.drop_eq_nil_of_le (Nat.le_refl _)] at this)
      go_wp2_with fail
      go_ret2
      exact ⟨_, by unfold joinS; rw [unhid EN]; rfl, by unfold joinG; rw [unhid EN]; exact unhid HO, unhid HB⟩

set_option maxRecDepth 100000 in
set_option maxHeartbeats 4000000 in
theorem joinAll_any (ps : List packC.D) (v : Value) (w : World) (hs : smallPs ps) (hf : formB ps = true) (h : rowAt packC w v ps) :
    Calls Tryz.prog 84 #[v] w fun x w' => ∃ u, x = .returned (.tuple #[u, .bool (joinS ps)]) ∧ w'.ownsRow w.heap.size 57 4 u (joinG ps).length (valsOf (joinG ps)) ∧ Below w.heap.size w w' := by
  obtain ⟨a, cap, rfl, -, -, h⟩ := h
  have hlen := hs.1
  have HSM := hid hs
  have HF := hid hf
  have H := hid h
  clear h hf hs
  have HO0 := hid (show w.ownsRow w.heap.size 57 4 (.slice none 0 0) ([] : List Ent).length (valsOf []) from ⟨rfl, .inl ⟨rfl, rfl⟩⟩)
  go_enter Tryz.func84, Tryz.ntmps84
  go_wp2_with fail
  go_loopw [4, 11] (fun s i wr => ∃ (k : Nat) (acc : List Ent) (ga : Option Addr) (c : Nat), k ≤ ps.length ∧ i = .int .i64 (k : Int) ∧ s = .slice ga acc.length c ∧ Hid (joinO [] ps = joinO acc (ps.drop k)) ∧ Hid (treeB acc = true) ∧ Hid (wr.ownsRow w.heap.size 57 4 (.slice ga acc.length c) acc.length (valsOf acc)) ∧ Hid (Below w.heap.size w wr)) (fun _ i _ => ps.length - (intOf i).toNat)
  case atStart => exact ⟨0, [], _, _, Nat.zero_le _, rfl, rfl, hid rfl, hid treeB_nil, HO0, hid (Below.refl _ _)⟩
  case round =>
    clear HO0
    obtain ⟨k, acc, ga, c, hk, rfl, rfl, HJ, HT, HO, HB⟩ := hrel
    by_cases hlt : k < ps.length
    · obtain ⟨e, he⟩ : ∃ e, ps[k]? = some e := ⟨ps[k], List.getElem?_eq_getElem hlt⟩
      obtain ⟨b, o, rfl, hbl, hc⟩ := (unhid H).resolve_left (by intro e; subst e; simp at hlt)
      obtain ⟨na, nc, ta, tc, ⟨c0, c1, c2, c3⟩, hat⟩ := pack_cells (unhid HB) hbl hc he
      obtain ⟨hte, htl, htn⟩ := tree_in hat
      have HTE := hid (pk_tree (form_ok (unhid HF) he))
      have hst : smallE (treeOfP e) := ((unhid HSM).2 e (List.mem_of_getElem? he)).tree
      have hsa : smallE acc := small_all (by have := tree_16 (unhid HT); omega) (tree_all (unhid HT))
      obtain ⟨a1, cap1, ev, hRI⟩ := rowIn_of_owns (unhid HO)
      injection ev with ev1 ev2 ev3
      subst ev1
      have JN := hid (fun W (hb : Below wr.heap.size wr W) => treeJoin_any acc (treeOfP e) ga ta c tc W hsa hst (hRI.at.below hb) (hte.below hb))
      rw [htl] at JN
      have HE := hid he
      have HB1 := hid (show ∀ x, Below wr.heap.size wr (wr.alloc x) from fun x => (Below.refl _ wr).alloc (Nat.le_refl _) x)
      clear hat hc he hbl hte htn hRI ev2 ev3 htl hst hsa
      go_wp2_with fail
      have hb1 := unhid HB1 (.cells #[.string (PackD.name e), .string (PackD.version e), .slice na (PackD.needs e).length nc, .slice ta (PackD.tree e).length tc] 34)
      generalize wr.alloc (.cells #[.string (PackD.name e), .string (PackD.version e), .slice na (PackD.needs e).length nc, .slice ta (PackD.tree e).length tc] 34) = w1 at hb1 ⊢
      refine (unhid JN w1 hb1).mono ?_
      rintro x w2 ⟨u, rfl, ho, hb⟩
      have hbb := hb1.trans (hb.mono hb1.size)
      have HB2 := hid ((unhid HB).trans (hbb.mono (unhid HB).size))
      have HO2 := hid (ownsRow_lowerS ho ((unhid HB).trans (hb1.mono (unhid HB).size)).size)
      have hjo : joinOk acc (treeOfP e) = (okJ acc (treeOfP e) && treeB (joinTo acc (treeOfP e))) := by unfold joinOk; rw [unhid HT, unhid HTE]; rfl
      obtain ⟨u1, u2, hu⟩ := ownsRow_slice ho
      subst hu
      clear ho hb JN c3 c0 c1 c2 hb1 hbb HB1
      cases hq : (okJ acc (treeOfP e) && treeB (joinTo acc (treeOfP e))) with
      | false =>
        have EN := hid (show joinO [] ps = none from (unhid HJ).trans (joinO_no (unhid HE) hq))
        have HOE := hid (show w2.ownsRow w.heap.size 57 4 (.slice none 0 0) ([] : List Ent).length (valsOf []) from ⟨rfl, .inl ⟨rfl, rfl⟩⟩)
        rw [hq] at hjo
        rw [hjo]
        clear HO2 hq hjo
        go_wp2_with fail
        go_ret2
        exact ⟨_, by unfold joinS; rw [unhid EN]; rfl, by unfold joinG; rw [unhid EN]; exact unhid HOE, unhid HB2⟩
      | true =>
        have hj : joinR acc (treeOfP e) = joinTo acc (treeOfP e) := by
          unfold joinR
          rw [hjo, hq, if_pos rfl]
        have HJ2 := hid ((unhid HJ).trans (joinO_yes (unhid HE) hq))
        have HT2 := hid (show treeB (joinTo acc (treeOfP e)) = true by rw [Bool.and_eq_true] at hq; exact hq.2)
        rw [hq] at hjo
        rw [hjo]
        rw [hj] at HO2 ⊢
        generalize joinTo acc (treeOfP e) = acc2 at *
        clear hj hq hjo
        go_wp2_with fail
        go_roundw
        case rel => exact ⟨k + 1, acc2, u1, u2, by omega, by go_num, rfl, HJ2, HT2, HO2, HB2⟩
        case measure => simp [intOf]; omega
    · have e : k = ps.length := by omega
      subst e
      have EN := hid (show joinO [] ps = some acc by
        have := unhid HJ
        rwa [List.drop_eq_nil_of_le (Nat.le_refl _)] at this)
      go_wp2_with fail
      go_ret2
      exact ⟨_, by unfold joinS; rw [unhid EN]; rfl, by unfold joinG; rw [unhid EN]; exact unhid HO, unhid HB⟩
end Go.Proofs.YtoihhlkidlapmaaGreat

/- Root: what the laws' own functions of it do. (Written by mkshape.py.) -/
namespace Go.Proofs.YtoihhlkidlapmaaGreat
open Go.RowKit Go.Shelf

structure RootD where
  packs : List packC.D






end Go.Proofs.YtoihhlkidlapmaaGreat
