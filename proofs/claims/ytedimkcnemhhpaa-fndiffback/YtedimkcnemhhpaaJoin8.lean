/- Texts of this proof, one behind the other; each says at its head what it shows. -/
import Derived.Test.YtedimkcnemhhpaaJoin7
/- What the laws' draws of patches give. -/
namespace Go.Proofs.Ytedimkcnemhhpaa
open Go.RowKit Go.Shelf

theorem one_cells (W : World) (cs : Array Value) (t : TypeId) (g : Nat) (hg : g = W.heap.size) : ∀ (j : Nat) u, cs.toList[j]? = some u → ∃ x, (some (⟨g, 0, none⟩ : Addr)) = some x ∧ (W.alloc (.cells cs t)).cell? (x.add j) = some u := fun j u hj => ⟨_, rfl, by
  subst hg
  rw [add_plainT, Nat.zero_add]
  exact cell_arr (World.alloc_heap_new W _) _ _ (by simpa using hj)⟩
theorem draw_src {W : World} {B : Nat} {v : Value} {hs : List Hk} (h : DrawH W B v hs) : ∃ (vs : List Value) (ad : Option Addr) (c : Nat), v = .slice ad hs.length c ∧ W.ownsRow B 46 2 v hs.length vs ∧ HkVs W B v.ownBlock hs vs ∧ (ad = none → hs.length = 0 ∧ c = 0) ∧ (∀ j u, vs[j]? = some u → ∃ x, ad = some x ∧ W.cell? (x.add j) = some u) := by
  obtain ⟨vs, h1, h2⟩ := h
  obtain ⟨ad, c, hv, hz, _, hu⟩ := ownAt h1
  exact ⟨vs, ad, c, hv, h1, h2, hz, hu⟩
theorem DrawH.lo {W : World} {B : Nat} {v : Value} {hs : List Hk} (h : DrawH W B v hs) : ∀ j, v.ownBlock = some j → B ≤ j ∧ j < W.heap.size := fun j e => by
  obtain ⟨vs, h1, _⟩ := h
  exact ⟨(h1.lt j e).1, (h1.lt j e).2⟩

set_option maxRecDepth 100000 in
set_option maxHeartbeats 4000000 in
theorem l11AnyHunks_any (w : World) (b : Nat) (a : Option Addr) (len cap p : Nat) (h : Rd w b a len cap p) (hp : p ≤ 40000) :
    Calls Try.prog 71 #[.pointer (some ⟨b, 0, none⟩)] w fun e w' => ∃ v, e = .returned v ∧ ∃ hs, hs.length ≤ 4 ∧ smallD hs ∧ DrawH w' w.heap.size v hs ∧ (∃ q, q ≤ p + 70 ∧ Rd w' b a len cap q) ∧ w.grownBy w' (some b) := by
  have hbl := h.lt
  have H := hid (h.alloc (.cells #[] 46))
  have HE := hid (World.ownsRow_lit (base := w.heap.size) (e := 46) (size := 2) w #[] 0 (Nat.le_refl _) (by simp [maxLen]) rfl)
  have HG := hid (World.grownBy_alloc w (.cells #[] 46) (some b))
  have hs0 : (w.alloc (.cells #[] 46)).heap.size = w.heap.size + 1 := by simp
  have HS0 := hid hs0
  clear h hs0
  go_enter Try.func71, Try.ntmps71
  go_wp2_with fail
  refine (l11Hunks_any _ b a len cap p (unhid H) (by omega)).mono ?_
  rintro e W1 ⟨v, rfl, hs, hl, hsm, hD, ⟨q, hq, hR⟩, hG⟩
  have HG1 := hid (grown_trans (unhid HG) hG)
  have HR1 := hid hR
  have hne : (Value.slice (some ⟨w.heap.size, 0, none⟩) 0 0).ownBlock ≠ some b := fun e => by injection e with e; have e2 : w.heap.size = b := e; omega
  have HE1 := hid (owns_grown (unhid HE) hG (.inr hne))
  have HSM := hid hsm
  rw [unhid HS0] at hD
  obtain ⟨vs, ad, c, rfl, -, hv, hz, hu⟩ := draw_src hD
  have HK := hid ((hv.apart (row' := (Value.slice (some ⟨w.heap.size, 0, none⟩) 0 0).ownBlock) (fun g e => by injection e with e; have e2 : w.heap.size = g := e; omega)).low (B' := w.heap.size) (by omega))
  have HUP := hid hu
  have HZ := hid hz
  have hb1 : w.heap.size ≤ W1.heap.size := (unhid HG1).size
  clear hD hv hz hu hG hR hne HE HG H hsm HS0
  go_wp2_with (at_builtin; refine wp_drawh rfl _ _ rfl w.heap.size (.slice (some ⟨w.heap.size, 0, none⟩) 0 0) [] hs [] vs ad c rfl rfl (unhid HE1) ⟨rfl, fun i x hi => by cases hi⟩ (unhid HK) (unhid HZ) (unhid HUP) (by simp only [List.length_nil]; omega) hb1 ?_)
  intro v2 W2 hd hg
  have hlo : ∀ j, (Value.slice (some ⟨w.heap.size, 0, none⟩) 0 0).ownBlock = some j → w.heap.size ≤ j := fun j e => ((unhid HE1).lt j e).1
  have HD2 := hid hd
  have HG2 := hid (grown_own (unhid HG1) hg hlo)
  have HR2 := hid ((unhid HR1).grown hg (fun j e => Nat.lt_of_lt_of_le hbl (hlo j e)))
  clear hd hg hlo HG1 HR1 HE1 HK HUP HZ hb1
  go_wp2_with fail
  refine (pick_any W2 b a len cap q (unhid HR2) (by omega) 12 (by omega) (by omega)).mono ?_
  rintro e W3 ⟨r, hr, rfl, hR, hG⟩
  have HR3 := hid hR
  have HG3 := hid (grown_trans (unhid HG2) hG)
  have HD3 := hid ((unhid HD2).grown hbl hG)
  clear hR hG HR2 HG2 HD2
  by_cases h0 : r = 0
  · subst h0
    go_wp2_with fail
    refine (one_any (fun x => (fun _ : Int => true) x = true) _ b a len cap (q + 1) ((unhid HR3).alloc _) (by omega) W3.heap.size 4 4 (by have := (unhid HR3).lt; omega) (by omega) (by omega) (fun k hk => row_int (fun _ => true) W3 #[.int .i64 0, .int .i64 1, .int .i64 1000, .int .i64 30] 3 _ rfl (by kernel_rfl) k hk)).mono ?_
    rintro e W4 ⟨x, -, rfl, hR, hG⟩
    have hG' := grown_trans (World.grownBy_alloc W3 (.cells #[.int .i64 0, .int .i64 1, .int .i64 1000, .int .i64 30] 3) (some b)) hG
    have HR4 := hid hR
    have HG4 := hid (grown_trans (unhid HG3) hG')
    have HD4 := hid ((unhid HD3).grown hbl hG')
    clear hR hG hG' HR3 HG3 HD3
    go_wp2_with fail
    refine (of_any short _ b a len cap (q + 1 + 1) ((unhid HR4).alloc _) (by omega) W4.heap.size 4 4 (by have := (unhid HR4).lt; omega) (by omega) (by omega) (fun k hk => row_short W4 #[.string ⟨#[]⟩, .string ⟨#[120]⟩, .string ⟨#[32, 10]⟩, .string ⟨#[43, 111, 107]⟩] 9 (by kernel_rfl) k hk)).mono ?_
    rintro e W5 ⟨y, hy, rfl, hR, hG⟩
    have hG' := grown_trans (World.grownBy_alloc W4 (.cells #[.string ⟨#[]⟩, .string ⟨#[120]⟩, .string ⟨#[32, 10]⟩, .string ⟨#[43, 111, 107]⟩] 9) (some b)) hG
    have HG5 := hid (grown_trans (unhid HG4) hG')
    have hd5 := (unhid HD4).grown hbl hG'
    have HY := hid hy
    have hB1 : Below W5.heap.size W5 (W5.alloc (.cells #[.string y] 9)) := (Below.refl _ _).alloc (Nat.le_refl _) _
    have hs1 : (W5.alloc (.cells #[.string y] 9)).heap.size = W5.heap.size + 1 := by simp
    have hT := one_new W5 y
    have hw5 := (unhid HG5).size
    have hR1 := hR.alloc (.cells #[.string y] 9)
    have hG1 := grown_trans (unhid HG5) (World.grownBy_alloc W5 (.cells #[.string y] 9) (some b))
    have hd1 := hd5.later hB1
    generalize hW6 : W5.alloc (.cells #[.string y] 9) = W6 at hB1 hs1 hT hR1 hG1 hd1
    have hB2 : Below W6.heap.size W6 (W6.alloc (.cells #[.int .i64 x, .slice (some ⟨W5.heap.size, 0, none⟩) 1 1] 46)) := (Below.refl _ _).alloc (Nat.le_refl _) _
    have hd2 := hd1.later hB2
    have hlo5 := hd5.lo
    obtain ⟨vs3, ad3, c3, rfl, ho, hv, -, -⟩ := draw_src hd2
    have HO := hid ho
    have HV := hid hv
    have HK := hid (oneHk (W6.alloc (.cells #[.int .i64 x, .slice (some ⟨W5.heap.size, 0, none⟩) 1 1] 46)) w.heap.size (Value.slice ad3 hs.length c3).ownBlock ⟨x, [y]⟩ (some ⟨W5.heap.size, 0, none⟩) 1 (hT.below hB2) (Nat.le_refl _) (fun _ blk o e => by
      injection e with e
      injection e with e1 e2 e3
      subst e1
      refine ⟨hw5, fun e2 => ?_⟩
      have := (hlo5 _ e2).2
      omega))
    have HUP := hid (one_cells W6 #[.int .i64 x, .slice (some ⟨W5.heap.size, 0, none⟩) 1 1] 46 (W5.heap.size + 1) hs1.symm)
    have HR6 := hid (hR1.alloc (.cells #[.int .i64 x, .slice (some ⟨W5.heap.size, 0, none⟩) 1 1] 46))
    have HG6 := hid (grown_trans hG1 (World.grownBy_alloc W6 (.cells #[.int .i64 x, .slice (some ⟨W5.heap.size, 0, none⟩) 1 1] 46) (some b)))
    have hbase : w.heap.size ≤ (W6.alloc (.cells #[.int .i64 x, .slice (some ⟨W5.heap.size, 0, none⟩) 1 1] 46)).heap.size := (unhid HG6).size
    have HLO := hid hd2.lo
    clear hR hG hG' HG4 HD4 hy hB1 hs1 hT hw5 hR1 hG1 hd1 hB2 hd2 hlo5 hd5 ho hv HR4 HG5
    subst hW6
    go_wp2_with (at_builtin; refine wp_drawh rfl _ _ rfl w.heap.size (.slice ad3 hs.length c3) hs [⟨x, [y]⟩] vs3 [.int .i64 x, .slice (some ⟨W5.heap.size, 0, none⟩) 1 1] (some ⟨W5.heap.size + 1, 0, none⟩) 1 rfl rfl (unhid HO) (unhid HV) (unhid HK) (fun e => by cases e) (unhid HUP) (by simp only [List.length_cons, List.length_nil]; omega) hbase ?_)
    intro v' W10 hd hg
    have HD := hid hd
    have HG := hid (grown_own (unhid HG6) hg (fun j e => (unhid HLO j e).1))
    have HR := hid ((unhid HR6).grown hg (fun j e => by have := (unhid HLO j e).1; omega))
    clear hd hg HG6 HR6 HO HV HK HUP HLO
    go_wp2_with fail
    go_ret
    exact ⟨v', rfl, hs ++ [⟨x, [y]⟩], by rw [List.length_append]; simp only [List.length_cons, List.length_nil]; omega, smallD_app (unhid HSM) (fun z hz => by rw [List.mem_singleton.1 hz]; exact ⟨by simp only [List.length_cons, List.length_nil]; omega, fun u hu => by rw [List.mem_singleton.1 hu]; exact Nat.le_trans (unhid HY) (by omega)⟩), unhid HD, ⟨q + 1 + 1 + 1, by omega, unhid HR⟩, unhid HG⟩
  · have h0' : ((r : Int) == 0) = false := by rw [beq_eq_false_iff_ne]; omega
    by_cases h1 : r = 1
    · subst h1
      obtain ⟨vs3, ad3, c3, rfl, ho, hv, hz, hu⟩ := draw_src (unhid HD3)
      have HO := hid ho
      have HV := hid hv
      have HZ := hid hz
      have HUP := hid hu
      have HLO := hid (unhid HD3).lo
      have hbase : w.heap.size ≤ W3.heap.size := (unhid HG3).size
      clear ho hv hz hu HD3
      go_wp2_with (at_builtin; refine wp_drawh rfl _ _ rfl w.heap.size (.slice ad3 hs.length c3) hs hs vs3 vs3 ad3 c3 rfl rfl (unhid HO) (unhid HV) (unhid HV) (unhid HZ) (unhid HUP) (by omega) hbase ?_)
      intro v' W10 hd hg
      have HD := hid hd
      have HG := hid (grown_own (unhid HG3) hg (fun j e => (unhid HLO j e).1))
      have HR := hid ((unhid HR3).grown hg (fun j e => by have := (unhid HLO j e).1; omega))
      clear hd hg HG3 HR3 HO HV HZ HUP HLO
      go_wp2_with fail
      go_ret
      exact ⟨v', rfl, hs ++ hs, by rw [List.length_append]; omega, smallD_app (unhid HSM) (unhid HSM), unhid HD, ⟨q + 1, by omega, unhid HR⟩, unhid HG⟩
    · have h1' : ((r : Int) == 1) = false := by rw [beq_eq_false_iff_ne]; omega
      go_wp2_with fail
      go_ret
      exact ⟨v2, rfl, hs, by omega, unhid HSM, unhid HD3, ⟨q + 1, by omega, unhid HR3⟩, unhid HG3⟩

/-- What DrawPatch and DrawDiffOf give. -/
structure DrawnP (w W : World) (v hv : Value) (xs : List ByteArray) (hs : List Hk) : Prop where
  v : ∃ a c, v = .slice a xs.length c ∧ TxtsAt W a xs ∧ (a = none → c = 0) ∧ xs.length ≤ c
  hv : ∃ a c, hv = .slice a hs.length c ∧ HksC W a hs ∧ hs.length ≤ c
  lx : xs.length ≤ 12
  sx : smallX xs
  lh : hs.length ≤ 4
  sh : smallK hs
  low : Below w.heap.size w W
structure DrawnD (w W : World) (v v2 : Value) (xs ys : List ByteArray) : Prop where
  v : ∃ a c, v = .slice a xs.length c ∧ TxtsAt W a xs ∧ (a = none → c = 0) ∧ xs.length ≤ c
  v2 : ∃ a c, v2 = .slice a ys.length c ∧ TxtsAt W a ys ∧ (a = none → c = 0) ∧ ys.length ≤ c
  lx : xs.length ≤ 60
  ly : ys.length ≤ 60
  sx : smallX xs
  sy : smallX ys
  low : Below w.heap.size w W
theorem smallX_short {xs : List ByteArray} (h : shortX xs) (hl : xs.length ≤ 1000) : smallX xs := ⟨by omega, fun x hx => Nat.le_trans (h x hx) (by omega)⟩
theorem totX_short {xs : List ByteArray} (h : ∀ x ∈ xs, x.size ≤ 300) : totX xs ≤ xs.length * 300 := by
  induction xs with
  | nil => simp [totX]
  | cons x xs ih =>
    have h1 := h x (by simp)
    have h2 := ih (fun y hy => h y (by simp [hy]))
    have h3 : totX (x :: xs) = x.size + totX xs := by simp [totX]
    rw [h3, List.length_cons]
    omega
theorem totH_smallD {hs : List Hk} (h : smallD hs) : totH hs ≤ hs.length * 36120 := by
  induction hs with
  | nil => simp [totH]
  | cons x xs ih =>
    have h1 := h x (by simp)
    have h2 := ih (fun y hy => h y (by simp [hy]))
    have h4 := totX_short h1.2
    have h3 : totH (x :: xs) = x.lines.length + totX x.lines + totH xs := by simp [totH]
    rw [h3, List.length_cons]
    omega
theorem smallK_D {hs : List Hk} (h : smallD hs) (hl : hs.length ≤ 4) : smallK hs := smallK_of (by have := totH_smallD h; omega)

set_option maxRecDepth 100000 in
set_option maxHeartbeats 8000000 in
theorem DrawPatch_any (w : World) (a : Option Addr) (len cap : Nat) (h : Code w w.heap.size a len) (hl : len ≤ 1048576) (hc : len ≤ cap) :
    Calls Try.prog 38 #[.slice a len cap] w fun e W => ∃ v hv fz xs hs, e = .returned (.tuple #[v, hv, .int .i64 fz]) ∧ DrawnP w W v hv xs hs ∧ -1 ≤ fz ∧ fz ≤ 3 := by
  have H := hid h
  clear h
  go_enter Try.func38, Try.ntmps38
  go_wp2_with fail
  refine (l1Open_any w a len cap (unhid H) hl hc).mono ?_
  rintro e W1 ⟨rfl, ⟨l', c', hR⟩, hB⟩
  have HR1 := hid hR
  have HB := hid hB
  have hbl := hR.lt
  have hbw := Nat.le_refl w.heap.size
  have hbw2 : w.heap.size = w.heap.size := rfl
  generalize hbb : w.heap.size = b at HR1 hbl ⊢
  have hbw : w.heap.size = b := hbb
  clear hR hB H hbw2 hbb
  go_wp2_with fail
  refine (l11Lines_any W1 b a l' c' 0 (unhid HR1) (by omega)).mono ?_
  rintro e W2 ⟨v, rfl, xs, hlx, hx, ⟨q, hq, hR⟩, hG⟩
  obtain ⟨la, lc, hv, ht, hnil, hcap⟩ := owns_cap hx.own
  have HNE := hid (show ∀ b' o, la = some ⟨b', o, none⟩ → b' ≠ b from fun b' o e1 e2 => hx.ne (by rw [hv, e1, ← e2]; rfl))
  subst hv
  have HX := hid hx.short
  have HR2 := hid hR
  have HG2 := hid hG
  have HT2 := hid ht
  have HNIL := hid hnil
  have HCAP := hid hcap
  clear hx hR hG ht hnil hcap HR1
  go_wp2_with fail
  refine (l11Near_any W2 b a l' c' (q) (unhid HR2) (by omega) xs la lc (unhid HT2) (unhid HNIL) (by omega) (unhid HX)).mono ?_
  rintro e W3 ⟨vy, rfl, ys, hly, hyy, ⟨qy, hqy, hR⟩, hG⟩
  obtain ⟨lay, lcy, hv, ht2, hn2, hc2⟩ := owns_cap hyy.own
  have hne2 : ∀ b' o, lay = some ⟨b', o, none⟩ → b' ≠ b := fun b' o e1 e2 => hyy.ne (by rw [hv, e1, ← e2]; rfl)
  subst hv
  have HY := hid hyy.short
  have HTy := hid ht2
  have HR3 := hid hR
  have HG3 := hid (grown_trans (unhid HG2) hG)
  have HT3 := hid ((unhid HT2).grownX (unhid HNE) hG)
  clear hR hG HR2 HG2 HT2
  have HT2 := HTy
  clear HTy hyy ht2 hn2 hc2 hne2
  go_wp2_with fail
  refine (specDiffOf_any xs ys la lay lc lcy W3 (by unfold maxLen; omega) (by unfold maxLen; omega) (fun x hx => Nat.le_trans (unhid HX x hx) (by simp [maxLen])) (fun x hx => Nat.le_trans (unhid HY x hx) (by simp [maxLen])) (unhid HT3) (unhid HT2)).mono ?_
  rintro e W4 ⟨v, rfl, ho, hb⟩
  have hs2 := (unhid HG3).size
  have HD4 := hid ((hksOwn_draw ho).low (B' := W1.heap.size) (by omega))
  have hR := (unhid HR3).of_below hb
  have hG := below_grownX (b := b) hb (Nat.le_refl _)
  have HSM := hid (diff_smallD xs ys)
  have hlh := diff_len xs ys
  clear ho hb hs2 HT2 HY
  have HR4 := hid hR
  have HG4 := hid (grown_trans (unhid HG3) hG)
  have HT4 := hid ((unhid HT3).grownX (unhid HNE) hG)
  clear hR hG HR3 HG3 HT3
  generalize diffL xs ys = hs at *
  go_wp2_with fail
  refine (pick_any W4 b a l' c' (qy) (unhid HR4) (by omega) 4 (by omega) (by omega)).mono ?_
  rintro e W5 ⟨r4, hr4, rfl, hR, hG⟩
  have HR5 := hid hR
  have HG5 := hid (grown_trans (unhid HG4) hG)
  have HT5 := hid ((unhid HT4).grownX (unhid HNE) hG)
  have HD5 := hid ((unhid HD4).grown hbl hG)
  clear HD4
  clear hR hG HR4 HG4 HT4
  by_cases h04 : r4 = 0
  · subst h04
    go_wp2_with fail
    refine (l11AnyHunks_any W5 b a l' c' (qy + 1) (unhid HR5) (by omega)).mono ?_
    rintro e W6 ⟨v6, rfl, hs6, hl6, hsm6, hD6, ⟨q6, hq6, hR⟩, hG⟩
    have hs5 := (unhid HG5).size
    have HD6 := hid (hD6.low (B' := W1.heap.size) hs5)
    clear HSM HD5 hs5 hD6
    have HSM := hid hsm6
    clear hsm6
    have HR6 := hid hR
    have HG6 := hid (grown_trans (unhid HG5) hG)
    have HT6 := hid ((unhid HT5).grownX (unhid HNE) hG)
    clear hR hG HR5 HG5 HT5
    go_wp2_with fail
    refine (pick_any W6 b a l' c' (q6) (unhid HR6) (by omega) 2 (by omega) (by omega)).mono ?_
    rintro e W7 ⟨r2, hr2, rfl, hR, hG⟩
    have HR7 := hid hR
    have HG7 := hid (grown_trans (unhid HG6) hG)
    have HT7 := hid ((unhid HT6).grownX (unhid HNE) hG)
    have HD7 := hid ((unhid HD6).grown hbl hG)
    clear HD6
    clear hR hG HR6 HG6 HT6
    by_cases h02 : r2 = 0
    · subst h02
      go_wp2_with fail
      refine (l11Near_any W7 b a l' c' (q6 + 1) (unhid HR7) (by omega) xs la lc (unhid HT7) (unhid HNIL) (by omega) (unhid HX)).mono ?_
      rintro e W8 ⟨vz, rfl, ys2, hlz, hyz, ⟨qz, hqz, hR⟩, hG⟩
      obtain ⟨laz, lcz, hv, ht2, hn2, hc2⟩ := owns_cap hyz.own
      have hne2 : ∀ b' o, laz = some ⟨b', o, none⟩ → b' ≠ b := fun b' o e1 e2 => hyz.ne (by rw [hv, e1, ← e2]; rfl)
      subst hv
      have HD8 := hid ((unhid HD7).grown hbl hG)
      clear HD7 HX HNIL HNE HCAP HT7
      have HX := hid hyz.short
      have HNIL := hid hn2
      have HCAP := hid hc2
      have HNE := hid hne2
      have HT8 := hid ht2
      have HR8 := hid hR
      have HG8 := hid (grown_trans (unhid HG7) hG)
      clear hyz hn2 hc2 hne2 ht2 hR hG HR7 HG7
      go_wp2_with fail
      refine (pick_any W8 b a l' c' (qz) (unhid HR8) (by omega) 5 (by omega) (by omega)).mono ?_
      rintro e W9 ⟨r5, hr5, rfl, hR, hG⟩
      have HR9 := hid hR
      have HG9 := hid (grown_trans (unhid HG8) hG)
      have HT9 := hid ((unhid HT8).grownX (unhid HNE) hG)
      have HD9 := hid ((unhid HD8).grown hbl hG)
      clear HD8
      clear hR hG HR8 HG8 HT8
      go_wp2_with fail
      go_ret3
      obtain ⟨ha, hcc, rfl, hC, hCC⟩ := (unhid HD9).read
      exact ⟨_, _, _, ys2, hs6, rfl, ⟨⟨_, _, rfl, unhid HT9, unhid HNIL, unhid HCAP⟩, ⟨_, _, rfl, hC, hCC⟩, by omega, smallX_short (unhid HX) (by omega), by omega, smallK_D (unhid HSM) (by omega), (unhid HB).trans (grown_below (unhid HG9) (Nat.le_of_eq hbw) (unhid HB).size)⟩, by omega, by omega⟩
    · have h02' : ((r2 : Int) == 0) = false := by rw [beq_eq_false_iff_ne]; omega
      go_wp2_with fail
      refine (pick_any W7 b a l' c' (q6 + 1) (unhid HR7) (by omega) 5 (by omega) (by omega)).mono ?_
      rintro e W8 ⟨r5, hr5, rfl, hR, hG⟩
      have HR8 := hid hR
      have HG8 := hid (grown_trans (unhid HG7) hG)
      have HT8 := hid ((unhid HT7).grownX (unhid HNE) hG)
      have HD8 := hid ((unhid HD7).grown hbl hG)
      clear HD7
      clear hR hG HR7 HG7 HT7
      go_wp2_with fail
      go_ret3
      obtain ⟨ha, hcc, rfl, hC, hCC⟩ := (unhid HD8).read
      exact ⟨_, _, _, xs, hs6, rfl, ⟨⟨_, _, rfl, unhid HT8, unhid HNIL, unhid HCAP⟩, ⟨_, _, rfl, hC, hCC⟩, by omega, smallX_short (unhid HX) (by omega), by omega, smallK_D (unhid HSM) (by omega), (unhid HB).trans (grown_below (unhid HG8) (Nat.le_of_eq hbw) (unhid HB).size)⟩, by omega, by omega⟩
  · have h04' : ((r4 : Int) == 0) = false := by rw [beq_eq_false_iff_ne]; omega
    go_wp2_with fail
    refine (pick_any W5 b a l' c' (qy + 1) (unhid HR5) (by omega) 2 (by omega) (by omega)).mono ?_
    rintro e W6 ⟨r2, hr2, rfl, hR, hG⟩
    have HR6 := hid hR
    have HG6 := hid (grown_trans (unhid HG5) hG)
    have HT6 := hid ((unhid HT5).grownX (unhid HNE) hG)
    have HD6 := hid ((unhid HD5).grown hbl hG)
    clear HD5
    clear hR hG HR5 HG5 HT5
    by_cases h02 : r2 = 0
    · subst h02
      go_wp2_with fail
      refine (l11Near_any W6 b a l' c' (qy + 1 + 1) (unhid HR6) (by omega) xs la lc (unhid HT6) (unhid HNIL) (by omega) (unhid HX)).mono ?_
      rintro e W7 ⟨vz, rfl, ys2, hlz, hyz, ⟨qz, hqz, hR⟩, hG⟩
      obtain ⟨laz, lcz, hv, ht2, hn2, hc2⟩ := owns_cap hyz.own
      have hne2 : ∀ b' o, laz = some ⟨b', o, none⟩ → b' ≠ b := fun b' o e1 e2 => hyz.ne (by rw [hv, e1, ← e2]; rfl)
      subst hv
      have HD7 := hid ((unhid HD6).grown hbl hG)
      clear HD6 HX HNIL HNE HCAP HT6
      have HX := hid hyz.short
      have HNIL := hid hn2
      have HCAP := hid hc2
      have HNE := hid hne2
      have HT7 := hid ht2
      have HR7 := hid hR
      have HG7 := hid (grown_trans (unhid HG6) hG)
      clear hyz hn2 hc2 hne2 ht2 hR hG HR6 HG6
      go_wp2_with fail
      refine (pick_any W7 b a l' c' (qz) (unhid HR7) (by omega) 5 (by omega) (by omega)).mono ?_
      rintro e W8 ⟨r5, hr5, rfl, hR, hG⟩
      have HR8 := hid hR
      have HG8 := hid (grown_trans (unhid HG7) hG)
      have HT8 := hid ((unhid HT7).grownX (unhid HNE) hG)
      have HD8 := hid ((unhid HD7).grown hbl hG)
      clear HD7
      clear hR hG HR7 HG7 HT7
      go_wp2_with fail
      go_ret3
      obtain ⟨ha, hcc, rfl, hC, hCC⟩ := (unhid HD8).read
      exact ⟨_, _, _, ys2, hs, rfl, ⟨⟨_, _, rfl, unhid HT8, unhid HNIL, unhid HCAP⟩, ⟨_, _, rfl, hC, hCC⟩, by omega, smallX_short (unhid HX) (by omega), by omega, smallK_D (unhid HSM) (by omega), (unhid HB).trans (grown_below (unhid HG8) (Nat.le_of_eq hbw) (unhid HB).size)⟩, by omega, by omega⟩
    · have h02' : ((r2 : Int) == 0) = false := by rw [beq_eq_false_iff_ne]; omega
      go_wp2_with fail
      refine (pick_any W6 b a l' c' (qy + 1 + 1) (unhid HR6) (by omega) 5 (by omega) (by omega)).mono ?_
      rintro e W7 ⟨r5, hr5, rfl, hR, hG⟩
      have HR7 := hid hR
      have HG7 := hid (grown_trans (unhid HG6) hG)
      have HT7 := hid ((unhid HT6).grownX (unhid HNE) hG)
      have HD7 := hid ((unhid HD6).grown hbl hG)
      clear HD6
      clear hR hG HR6 HG6 HT6
      go_wp2_with fail
      go_ret3
      obtain ⟨ha, hcc, rfl, hC, hCC⟩ := (unhid HD7).read
      exact ⟨_, _, _, xs, hs, rfl, ⟨⟨_, _, rfl, unhid HT7, unhid HNIL, unhid HCAP⟩, ⟨_, _, rfl, hC, hCC⟩, by omega, smallX_short (unhid HX) (by omega), by omega, smallK_D (unhid HSM) (by omega), (unhid HB).trans (grown_below (unhid HG7) (Nat.le_of_eq hbw) (unhid HB).size)⟩, by omega, by omega⟩

theorem TxtsAt.rowX {W W' : World} {a : Option Addr} {xs : List ByteArray} {row : Option Nat} (h : TxtsAt W a xs) (hg : W.grownBy W' row) (hne : ∀ b' o, a = some ⟨b', o, none⟩ → row ≠ some b') : TxtsAt W' a xs := by
  rcases h with h | ⟨b', o, rfl, hb, hc⟩
  · exact .inl h
  · exact .inr ⟨b', o, rfl, Nat.lt_of_lt_of_le hb hg.size, fun i x hi => (World.cell?_of_block (w := W) (hg.block b' hb (fun e => hne b' o rfl e.symm))).trans (hc i x hi)⟩

set_option maxRecDepth 100000 in
set_option maxHeartbeats 8000000 in
theorem DrawDiffOf_any (w : World) (a : Option Addr) (len cap : Nat) (h : Code w w.heap.size a len) (hl : len ≤ 1048576) (hc : len ≤ cap) :
    Calls Try.prog 34 #[.slice a len cap] w fun e W => ∃ v v2 xs ys, e = .returned (.tuple #[v, v2]) ∧ DrawnD w W v v2 xs ys := by
  have H := hid h
  clear h
  go_enter Try.func34, Try.ntmps34
  go_wp2_with fail
  refine (l1Open_any w a len cap (unhid H) hl hc).mono ?_
  rintro e W1 ⟨rfl, ⟨l', c', hR⟩, hB⟩
  have HR1 := hid hR
  have HB := hid hB
  have hbl := hR.lt
  generalize hbb : w.heap.size = b at HR1 hbl ⊢
  have hbw : w.heap.size = b := hbb
  clear hR hB H hbb
  go_wp2_with fail
  refine (l11Lines_any W1 b a l' c' 0 (unhid HR1) (by omega)).mono ?_
  rintro e W2 ⟨v, rfl, xs, hlx, hx, ⟨q, hq, hR⟩, hG⟩
  have HO2 := hid hx.own
  obtain ⟨oa, oc, hv⟩ := ownsRow_sliceX hx.own
  subst hv
  have HX := hid hx.short
  have HR2 := hid hR
  have HG2 := hid hG
  clear hx hR hG HR1
  go_wp2_with fail
  refine (pick_any W2 b a l' c' q (unhid HR2) (by omega) 14 (by omega) (by omega)).mono ?_
  rintro e W3 ⟨r, hr, rfl, hR, hG⟩
  have HR3 := hid hR
  have HG3 := hid (grown_trans (unhid HG2) hG)
  have HO3 := hid (owns_grown (unhid HO2) hG (.inr (fun e => by have := ((unhid HO2).lt b e).1; omega)))
  clear hR hG HR2 HG2 HO2
  by_cases h0 : r = 0
  · subst h0
    obtain ⟨oax, ocx, hov, hot, hon, hocap⟩ := owns_cap (unhid HO3)
    injection hov with e1 e2 e3
    subst e1
    subst e3
    clear e2
    have HT3 := hid hot
    have HNIL := hid hon
    have HCAP := hid hocap
    have HLT := hid (show ∀ b' o, oa = some ⟨b', o, none⟩ → b < b' ∧ b' < W3.heap.size from fun b' o e1 => by have := (unhid HO3).lt b' (by rw [e1]; rfl); omega)
    clear hot hon hocap HO3
    have hb3 := (unhid HR3).lt
    have hs13 := (unhid HG3).size
    go_wp2_with fail
    refine (l11Lines_any W3 b a l' c' (q + 1) (unhid HR3) (by omega)).mono ?_
    rintro e W4 ⟨v, rfl, ys, hly, hy, ⟨q4, hq4, hR⟩, hG⟩
    have hs3 := hG.size
    have HT4 := hid (((unhid HT3).grownX (fun b' o e => by have := unhid HLT b' o e; omega) hG).below ((Below.refl _ _).alloc (Nat.le_refl _) (.cells #[.string ⟨#[1]⟩] 9)))
    have HO4 := hid (hy.own.alloc (.cells #[.string ⟨#[1]⟩] 9))
    have HY := hid hy.short
    have TN := hid (one_new W4 ⟨#[1]⟩)
    have HG4 := hid (grown_trans (grown_trans (unhid HG3) hG) (World.grownBy_alloc W4 (.cells #[.string ⟨#[1]⟩] 9) (some b)))
    have hbase : W3.heap.size ≤ (W4.alloc (.cells #[.string ⟨#[1]⟩] 9)).heap.size := by simp; omega
    clear hy hR hG hs3 HR3 HG3 HT3
    go_wp2_with (at_builtin; refine wp_app rfl _ _ rfl W3.heap.size v ys [⟨#[1]⟩] (some ⟨W4.heap.size, 0, none⟩) 1 rfl rfl (unhid HO4) (unhid TN) (fun e => by cases e) (by simp only [List.length_cons, List.length_nil]; omega) hbase ?_)
    intro v' W5 ho hg _
    have hlo : ∀ j, v.ownBlock = some j → W3.heap.size ≤ j := fun j e => ((unhid HO4).lt j e).1
    have HT5 := hid ((unhid HT4).rowX hg (fun b' o e e2 => by have := (unhid HLT b' o e).2; have := hlo b' e2; omega))
    have HG5 := hid (grown_own (unhid HG4) hg (fun j e => by have := hlo j e; omega))
    have ho2 : W5.ownsRow W3.heap.size 9 1 v' (ys ++ [(⟨#[1]⟩ : ByteArray)]).length ((ys ++ [(⟨#[1]⟩ : ByteArray)]).map Value.string) := by simpa using ho
    obtain ⟨lb, lcb, hv, ht2, hn2, hc2⟩ := owns_cap ho2
    subst hv
    have HT2 := hid ht2
    have HN2 := hid (And.intro hn2 hc2)
    have HY2 := hid (show shortX (ys ++ [⟨#[1]⟩]) from fun y hy => by
      rcases List.mem_append.1 hy with hy | hy
      · exact unhid HY y hy
      · rw [List.mem_singleton.1 hy]; unfold short; decide)
    have hl2 : (ys ++ [(⟨#[1]⟩ : ByteArray)]).length ≤ 9 := by rw [List.length_append]; simp only [List.length_cons, List.length_nil]; omega
    clear ho ho2 hg hlo ht2 hn2 hc2 HO4 TN HT4 HG4 HY HLT hbase hs13
    generalize ys ++ [(⟨#[1]⟩ : ByteArray)] = zs at *
    go_wp2_with fail
    go_ret2
    exact ⟨_, _, xs, zs, rfl, ⟨⟨_, _, rfl, unhid HT5, unhid HNIL, unhid HCAP⟩, ⟨_, _, rfl, unhid HT2, (unhid HN2).1, (unhid HN2).2⟩, by omega, by omega, smallX_short (unhid HX) (by omega), smallX_short (unhid HY2) (by omega), (unhid HB).trans (grown_below (unhid HG5) (Nat.le_of_eq hbw) (unhid HB).size)⟩⟩
  · have h0' : ((r : Int) == 0) = false := by rw [beq_eq_false_iff_ne]; omega
    by_cases h1 : r = 1
    · subst h1
      go_wp2_with fail
      go_loopw [5] (fun o wr => ∃ (q : Nat) (xs : List ByteArray) (oa : Option Addr) (oc : Nat), o = .slice oa xs.length oc ∧ xs.length ≤ 31 ∧ q ≤ 100 + xs.length ∧ Hid (wr.ownsRow W1.heap.size 9 1 (.slice oa xs.length oc) xs.length (xs.map Value.string)) ∧ Hid (shortX xs) ∧ Hid (Rd wr b a l' c' q) ∧ Hid (W1.grownBy wr (some b))) (fun o _ => match o with | .slice _ n _ => 31 - n | _ => 0)
      case atStart => exact ⟨q + 1, xs, _, _, rfl, by omega, by omega, HO3, HX, HR3, HG3⟩
      case round =>
        clear HO3 HX HR3 HG3 hlx
        obtain ⟨q, xs, oa, oc, rfl, hlx, hq, HO, HX, HR, HG⟩ := hrel
        go_wp2_with fail
        refine (pick_any wr b a l' c' q (unhid HR) (by omega) 2 (by omega) (by omega)).mono ?_
        rintro e W4 ⟨r2, hr2, rfl, hR, hG⟩
        have HR4 := hid hR
        have HG4 := hid (grown_trans (unhid HG) hG)
        have HO4 := hid (owns_grown (unhid HO) hG (.inr (fun e => by have := ((unhid HO).lt b e).1; omega)))
        clear hR hG HR HG HO
        by_cases hlt : (xs.length : Int) < 30 + (r2 : Int)
        · have TN := hid (one_new W4 ⟨#[109]⟩)
          have HO5 := hid ((unhid HO4).alloc (.cells #[.string ⟨#[109]⟩] 9))
          have HR5 := hid ((unhid HR4).alloc (.cells #[.string ⟨#[109]⟩] 9))
          have HG5 := hid (grown_trans (unhid HG4) (World.grownBy_alloc W4 (.cells #[.string ⟨#[109]⟩] 9) (some b)))
          have hbase : W1.heap.size ≤ (W4.alloc (.cells #[.string ⟨#[109]⟩] 9)).heap.size := (unhid HG5).size
          clear HO4 HR4 HG4
          go_wp2_with (at_builtin; refine wp_app rfl _ _ rfl W1.heap.size (.slice oa xs.length oc) xs [⟨#[109]⟩] (some ⟨W4.heap.size, 0, none⟩) 1 rfl rfl (unhid HO5) (unhid TN) (fun e => by cases e) (by simp only [List.length_cons, List.length_nil]; omega) hbase ?_)
          intro v' W6 ho hg _
          have hlo : ∀ j, (Value.slice oa xs.length oc).ownBlock = some j → W1.heap.size ≤ j := fun j e => ((unhid HO5).lt j e).1
          have HG6 := hid (grown_own (unhid HG5) hg hlo)
          have HR6 := hid ((unhid HR5).grown hg (fun j e => Nat.lt_of_lt_of_le hbl (hlo j e)))
          have ho2 : W6.ownsRow W1.heap.size 9 1 v' (xs ++ [(⟨#[109]⟩ : ByteArray)]).length ((xs ++ [(⟨#[109]⟩ : ByteArray)]).map Value.string) := by simpa using ho
          obtain ⟨oa2, oc2, hv⟩ := ownsRow_sliceX ho2
          subst hv
          have HO6 := hid ho2
          have HX6 := hid (show shortX (xs ++ [⟨#[109]⟩]) from fun y hy => by
            rcases List.mem_append.1 hy with hy | hy
            · exact unhid HX y hy
            · rw [List.mem_singleton.1 hy]; unfold short; decide)
          have hl6 : (xs ++ [(⟨#[109]⟩ : ByteArray)]).length ≤ xs.length + 1 := by simp
          have hl7 : xs.length + 1 ≤ (xs ++ [(⟨#[109]⟩ : ByteArray)]).length := by simp
          clear ho ho2 hg hlo HO5 HR5 HG5 TN HX hbase
          generalize xs ++ [(⟨#[109]⟩ : ByteArray)] = zs at *
          go_wp2_with fail
          go_roundw
          case rel => exact ⟨q + 1, zs, oa2, oc2, rfl, by omega, by omega, HO6, HX6, HR6, HG6⟩
          case measure => show 31 - zs.length < 31 - xs.length; omega
        · obtain ⟨oax, ocx, hov, hot, hon, hocap⟩ := owns_cap (unhid HO4)
          injection hov with e1 e2 e3
          subst e1
          subst e3
          clear e2
          have HT := hid hot
          have HNIL := hid hon
          have HCAP := hid hocap
          have HNE := hid (show ∀ b' o, oa = some ⟨b', o, none⟩ → b' ≠ b from fun b' o e1 e2 => by have := ((unhid HO4).lt b (by rw [e1, e2]; rfl)).1; omega)
          clear hot hon hocap
          go_wp2_with fail
          refine (l11Near_any W4 b a l' c' (q + 1) (unhid HR4) (by omega) xs oa oc (unhid HT) (unhid HNIL) (by omega) (unhid HX)).mono ?_
          rintro e W9 ⟨v9, rfl, ys, hl9, hy, ⟨q9, hq9, hR⟩, hG⟩
          obtain ⟨lb, lcb, hv, ht2, hn2, hc2⟩ := owns_cap hy.own
          subst hv
          have HT9 := hid ((unhid HT).grownX (unhid HNE) hG)
          have HY := hid hy.short
          have HG9 := hid (grown_trans (unhid HG4) hG)
          have HT2 := hid ht2
          have HN2 := hid (And.intro hn2 hc2)
          clear hR hG hy ht2 hn2 hc2 HT HO4 HR4 HG4
          go_wp2_with fail
          go_ret2
          exact ⟨_, _, xs, ys, rfl, ⟨⟨_, _, rfl, unhid HT9, unhid HNIL, unhid HCAP⟩, ⟨_, _, rfl, unhid HT2, (unhid HN2).1, (unhid HN2).2⟩, by omega, by omega, smallX_short (unhid HX) (by omega), smallX_short (unhid HY) (by omega), (unhid HB).trans (grown_below (unhid HG9) (Nat.le_of_eq hbw) (unhid HB).size)⟩⟩
    · have h1' : ((r : Int) == 1) = false := by rw [beq_eq_false_iff_ne]; omega
      obtain ⟨oax, ocx, hov, hot, hon, hocap⟩ := owns_cap (unhid HO3)
      injection hov with e1 e2 e3
      subst e1
      subst e3
      clear e2
      have HT := hid hot
      have HNIL := hid hon
      have HCAP := hid hocap
      have HNE := hid (show ∀ b' o, oa = some ⟨b', o, none⟩ → b' ≠ b from fun b' o e1 e2 => by have := ((unhid HO3).lt b (by rw [e1, e2]; rfl)).1; omega)
      clear hot hon hocap
      go_wp2_with fail
      refine (l11Near_any W3 b a l' c' (q + 1) (unhid HR3) (by omega) xs oa oc (unhid HT) (unhid HNIL) (by omega) (unhid HX)).mono ?_
      rintro e W9 ⟨v9, rfl, ys, hl9, hy, ⟨q9, hq9, hR⟩, hG⟩
      obtain ⟨lb, lcb, hv, ht2, hn2, hc2⟩ := owns_cap hy.own
      subst hv
      have HT9 := hid ((unhid HT).grownX (unhid HNE) hG)
      have HY := hid hy.short
      have HG9 := hid (grown_trans (unhid HG3) hG)
      have HT2 := hid ht2
      have HN2 := hid (And.intro hn2 hc2)
      clear hR hG hy ht2 hn2 hc2 HT HO3 HR3 HG3
      go_wp2_with fail
      go_ret2
      exact ⟨_, _, xs, ys, rfl, ⟨⟨_, _, rfl, unhid HT9, unhid HNIL, unhid HCAP⟩, ⟨_, _, rfl, unhid HT2, (unhid HN2).1, (unhid HN2).2⟩, by omega, by omega, smallX_short (unhid HX) (by omega), smallX_short (unhid HY) (by omega), (unhid HB).trans (grown_below (unhid HG9) (Nat.le_of_eq hbw) (unhid HB).size)⟩⟩
end Go.Proofs.Ytedimkcnemhhpaa
