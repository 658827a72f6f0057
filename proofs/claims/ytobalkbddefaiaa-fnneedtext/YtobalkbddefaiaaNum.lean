/- Numbers in decimals, as the program reads them and as its model does. -/
import Derived.Test.YtobalkbddefaiaaCut
namespace Go.Proofs.Ytobalkbddefaiaa
open Go.RowKit Go.Shelf

attribute [local go_sem] Oper.semAt_some

/-- What a byte less a nought is, in a byte. -/
def digI (c : UInt8) : Int := ((c.toNat : Int) - 48) % 256
def valI (l : List UInt8) : Int := l.foldl (fun n c => n * 10 + digI c) 0
/-- Figures, at least one, no nought ahead of others. -/
def plainNum (l : List UInt8) : Bool := !l.isEmpty && !(decide (1 < l.length) && (l[0]? == some 48)) && l.all fun c => figB c.toNat
def numOk (l : List UInt8) (most : Int) : Bool := plainNum l && decide (valI l ≤ most)
def numVal (l : List UInt8) (most : Int) : Int := if numOk l most then valI l else 0

theorem digI_nn (c : UInt8) : 0 ≤ digI c ∧ digI c ≤ 255 := by unfold digI; omega
theorem valI_snoc (l : List UInt8) (c : UInt8) : valI (l ++ [c]) = valI l * 10 + digI c := by simp [valI]
theorem valI_nn (l : List UInt8) : 0 ≤ valI l := by
  have : ∀ (l : List UInt8) (a : Int), 0 ≤ a → 0 ≤ l.foldl (fun n c => n * 10 + digI c) a := by
    intro l
    induction l with
    | nil => intro a h; exact h
    | cons c l ih => intro a h; simp only [List.foldl_cons]; exact ih _ (by have := digI_nn c; omega)
  exact this l 0 (by omega)
theorem valI_pre {p l : List UInt8} (h : p <+: l) : valI p ≤ valI l := by
  obtain ⟨t, rfl⟩ := h
  have : ∀ (l : List UInt8) (a : Int), 0 ≤ a → a ≤ l.foldl (fun n c => n * 10 + digI c) a := by
    intro l
    induction l with
    | nil => intro a _; exact Int.le_refl _
    | cons c l ih => intro a h; have := digI_nn c; have := ih (a * 10 + digI c) (by omega); simp only [List.foldl_cons]; omega
  unfold valI
  rw [List.foldl_append]
  exact this t _ (valI_nn p)

theorem egFig : ∀ args w, (callFunc 51 args).run Try.prog w = .ok (.enter 51 args) w := enters_of Try.func51 (by kernel_rfl) rfl

set_option maxRecDepth 100000 in
set_option maxHeartbeats 2000000 in
theorem numberOf_any (s : ByteArray) (hs : s.size ≤ maxLen) (most : Int) (hm0 : 0 ≤ most) (hm : most ≤ 1000000) (w : World) :
    Calls Try.prog 46 #[.string s, .int .i64 most] w fun e W' => e = .returned (.tuple #[.int .i64 (numVal s.data.toList most), .bool (numOk s.data.toList most)]) ∧ Below w.heap.size w W' := by
  refine (callsIn_wide (n := 3)).1 ?_
  refine callsIn_of_wp_marks Try.func46 rfl trivial ?_ rfl
  simp only [Try.ntmps46, List.size_toArray, List.length_cons, List.length_nil, Nat.reduceAdd, Nat.reduceSub, Array.replicate_succ, Array.replicate_zero, List.push_toArray, List.append_toArray, List.nil_append, List.cons_append]
  have hB0 : Below w.heap.size w (((w.alloc (.cells #[.int .i64 most] 3)).alloc (.cells #[.int .i64 0] 3)).alloc (.cells #[.bool false] 4)) := (((Below.refl _ w).alloc (Nat.le_refl _) _).alloc (by simp) _).alloc (by simp; omega) _
  have HB0 := hid hB0
  clear hB0
  by_cases he : s.toList = []
  · have he' : s.toList.isEmpty = true := by simp [he]
    gi_wp2
    refine ⟨trivial, ?_⟩
    gi_wp2
    have hn : numOk s.data.toList most = false := by
      rw [Lib.toList_data] at he
      simp [numOk, plainNum, he]
    refine ⟨.tuple #[.int .i64 0, .bool false], ?_, ?_, unhid HB0⟩
    · simp [results, Try.f46, go_sem]
    · rw [numVal, hn]; rfl
  · have he' : s.toList.isEmpty = false := by simp [he]
    have h0 : 0 < s.size := by
      rw [Lib.toList_data] at he
      have := List.length_pos_iff.2 he
      rwa [← Lib.size_eq] at this
    by_cases hz : (1 : Int) < s.size ∧ s[0] = 48
    · obtain ⟨hz1, hz2⟩ := hz
      have hz3 : (((s[0]).toNat : Int) == 48) = true := by simp [hz2]
      gi_wp2
      refine ⟨trivial, ?_⟩
      gi_wp2
      have hn : numOk s.data.toList most = false := by
        have := getByte s 0 h0
        rw [hz2] at this
        have hl : 1 < s.data.toList.length := by rw [← Lib.size_eq]; omega
        have hd : decide (1 < s.data.toList.length) = true := decide_eq_true hl
        unfold numOk plainNum
        rw [this, hd]; simp
      refine ⟨.tuple #[.int .i64 0, .bool false], ?_, ?_, unhid HB0⟩
      · simp [results, Try.f46, go_sem]
      · rw [numVal, hn]; rfl
    · have hz' : ((1 : Int) < s.size ∧ (((s[0]).toNat : Int) == 48) = true) → False := fun ⟨a, b⟩ => hz ⟨a, UInt8.toNat_inj.1 (by simp at b ⊢; omega)⟩
      have hq : ((1 : Int) < s.size ∧ (((s[0]).toNat : Int) == 48) = false) ∨ (s.size : Int) ≤ 1 := by
        by_cases h1 : (1 : Int) < s.size
        · refine .inl ⟨h1, ?_⟩
          cases h : (((s[0]).toNat : Int) == 48)
          · rfl
          · exact (hz' ⟨h1, h⟩).elim
        · exact .inr (by omega)
      cases hall : s.data.toList.all fun c => figB c.toNat
      · have hn : numOk s.data.toList most = false := by simp only [numOk, plainNum, hall, Bool.and_false, Bool.false_and]
        have Hn := hid hn
        have Hall := hid hall
        clear hn hall hz' hz
        rcases hq with ⟨h1, h2⟩ | h1
        all_goals
          gi_wp2
          refine ⟨trivial, (callsIn_wide.2 (allBytes_any 51 figB egFig isFigure_any s hs _)).mono ?_⟩
          rintro e w1 ⟨rfl, hb⟩
          rw [unhid Hall]
          have hb' : Below (w.heap.size + 1 + 1 + 1) (((w.alloc (.cells #[.int .i64 most] 3)).alloc (.cells #[.int .i64 0] 3)).alloc (.cells #[.bool false] 4)) w1 := hb.mono (by simp)
          have HB1 := hid ((unhid HB0).trans (hb'.mono (by omega)))
          have c1 : w1.cell? ⟨w.heap.size + 1, 0, none⟩ = some (.int .i64 0) := (hb'.cell (p := ⟨w.heap.size + 1, 0, none⟩) (by simp)).trans (by simp [go_sem])
          have c2 : w1.cell? ⟨w.heap.size + 1 + 1, 0, none⟩ = some (.bool false) := (hb'.cell (p := ⟨w.heap.size + 1 + 1, 0, none⟩) (by simp)).trans (by simp [go_sem])
          have d1 : w1.frozen? ⟨w.heap.size + 1, 0, none⟩ = false := (hb'.frozen (p := ⟨w.heap.size + 1, 0, none⟩) (by simp)).trans (by simp [go_sem])
          have d2 : w1.frozen? ⟨w.heap.size + 1 + 1, 0, none⟩ = false := (hb'.frozen (p := ⟨w.heap.size + 1 + 1, 0, none⟩) (by simp)).trans (by simp [go_sem])
          clear hb hb'
          gi_wp2
          refine ⟨.tuple #[.int .i64 0, .bool false], ?_, ?_, ((unhid HB1).setCell (p := ⟨w.heap.size + 1, 0, none⟩) (by simp) _).setCell (p := ⟨w.heap.size + 1 + 1, 0, none⟩) (by simp; omega) _⟩
          · simp [results, Try.f46, go_sem, c1, c2]
          · rw [numVal, unhid Hn]; rfl
      · have hpl : plainNum s.data.toList = true := by
          have hne : s.data.toList ≠ [] := by rw [Lib.toList_data] at he; exact he
          have hz2 : (decide (1 < s.data.toList.length) && (s.data.toList[0]? == some 48)) = false := by
            rw [getByte s 0 h0, ← Lib.size_eq]
            cases h : (decide (1 < s.size) && (some s[0] == some 48))
            · rfl
            · simp at h; exact (hz ⟨by omega, h.2⟩).elim
          unfold plainNum
          rw [hz2, hall]; simp; exact fun h => hne (by simp [h])
        have Hpl := hid hpl
        have Hall := hid hall
        clear hpl hall hz' hz
        rcases hq with ⟨h1, h2⟩ | h1
        · gi_wp2
          refine ⟨trivial, (callsIn_wide.2 (allBytes_any 51 figB egFig isFigure_any s hs _)).mono ?_⟩
          rintro e w1 ⟨rfl, hb⟩
          rw [unhid Hall]
          have hb' : Below (w.heap.size + 1 + 1 + 1) (((w.alloc (.cells #[.int .i64 most] 3)).alloc (.cells #[.int .i64 0] 3)).alloc (.cells #[.bool false] 4)) w1 := hb.mono (by simp)
          have hz3 : w.heap.size + 1 + 1 + 1 ≤ w1.heap.size := by have := hb.size; simpa using this
          have hB1 := (unhid HB0).trans (hb'.mono (by omega))
          have c0 : w1.cell? ⟨w.heap.size, 0, none⟩ = some (.int .i64 most) := (hb'.cell (p := ⟨w.heap.size, 0, none⟩) (by simp; omega)).trans (by simp [go_sem])
          have c1 : w1.cell? ⟨w.heap.size + 1, 0, none⟩ = some (.int .i64 0) := (hb'.cell (p := ⟨w.heap.size + 1, 0, none⟩) (by simp)).trans (by simp [go_sem])
          have c2 : w1.cell? ⟨w.heap.size + 1 + 1, 0, none⟩ = some (.bool false) := (hb'.cell (p := ⟨w.heap.size + 1 + 1, 0, none⟩) (by simp)).trans (by simp [go_sem])
          have d1 : w1.frozen? ⟨w.heap.size + 1, 0, none⟩ = false := (hb'.frozen (p := ⟨w.heap.size + 1, 0, none⟩) (by simp)).trans (by simp [go_sem])
          have d2 : w1.frozen? ⟨w.heap.size + 1 + 1, 0, none⟩ = false := (hb'.frozen (p := ⟨w.heap.size + 1 + 1, 0, none⟩) (by simp)).trans (by simp [go_sem])
          clear hb hb'
          have HC := hid (And.intro hB1 (And.intro c0 (And.intro c1 (And.intro c2 (And.intro d1 d2)))))
          clear hB1 c0 c1 c2 d1 d2
          gi_wp2_with (refine ⟨trivial, ?_⟩; gi_at_call 63; refine (bytesOf_in Fence.wide _ trivial rfl _ _).mono ?_; rintro e w' ⟨rfl, rfl⟩)
          obtain ⟨hB1, c0, c1, c2, d1, d2⟩ := unhid HC
          have n0 := cell_new_l w1 (.int .i64 0) 3
          have n1 := cell_new_l (w1.alloc (.cells #[.int .i64 0] 3)) (.string s) 9
          simp only [World.size_alloc] at n1
          have hB2 : Below w.heap.size w ((w1.alloc (.cells #[.int .i64 0] 3)).alloc (.cells #[.string s] 9)) := (hB1.alloc (by omega) _).alloc (by simp; omega) _
          refine wpIn_rangeFunc_ownF rfl (by omega) (gf := 67) (lb := #[.pointer (some ⟨w1.heap.size + 1, 0, none⟩)]) rfl trivial (enters_of Try.func67 (by kernel_rfl) rfl)
            (bytes_stops Fence.wide _ trivial rfl (by omega) (w1.heap.size + 1) s hs _ (by simp) n1.1) Keeps.t (Keeps.b) (Below.refl _ _) (fun _ => rfl)
            (fun pre W => ((valI pre ≤ most ∧ W.cell? ⟨w1.heap.size, 0, none⟩ = some (.int .i64 (valI pre)) ∧ W.frozen? ⟨w1.heap.size, 0, none⟩ = false) ∧ W.cell? ⟨w.heap.size, 0, none⟩ = some (.int .i64 most) ∧ (W.cell? ⟨w.heap.size + 1, 0, none⟩ = some (.int .i64 0) ∧ W.frozen? ⟨w.heap.size + 1, 0, none⟩ = false) ∧ W.cell? ⟨w.heap.size + 1 + 1, 0, none⟩ = some (.bool false) ∧ W.frozen? ⟨w.heap.size + 1 + 1, 0, none⟩ = false) ∧ Below w.heap.size w W)
            (fun c pre W => ((c = .ret ∧ most < valI pre) ∧ W.cell? ⟨w.heap.size + 1, 0, none⟩ = some (.int .i64 0) ∧ W.cell? ⟨w.heap.size + 1 + 1, 0, none⟩ = some (.bool false)) ∧ Below w.heap.size w W)
            (OwnFrom.and (Own.from (fun s A B row hs hg hr => ⟨⟨hs.1.1, cell_kept hs.1.2.1 hg hr, (frozen_kept hs.1.2.1 hg hr).trans hs.1.2.2⟩, cell_kept hs.2.1 hg hr, ⟨cell_kept hs.2.2.1.1 hg hr, (frozen_kept hs.2.2.1.1 hg hr).trans hs.2.2.1.2⟩, cell_kept hs.2.2.2.1 hg hr, (frozen_kept hs.2.2.2.1 hg hr).trans hs.2.2.2.2⟩) _) (ownFrom_below (Nat.le_refl _) (by simp; omega)))
            (fun c => OwnFrom.and (Own.from (fun s A B row hs hg hr => ⟨hs.1, cell_kept hs.2.1 hg hr, cell_kept hs.2.2 hg hr⟩) _) (ownFrom_below (Nat.le_refl _) (by simp; omega)))
            ⟨⟨⟨hm0, cell_alloc_l _ n0.1, frozen_alloc_l _ n0.1 n0.2⟩, cell_alloc_l _ (cell_alloc_l _ c0), ⟨cell_alloc_l _ (cell_alloc_l _ c1), frozen_alloc_l _ (cell_alloc_l _ c1) (frozen_alloc_l _ c1 d1)⟩, cell_alloc_l _ (cell_alloc_l _ c2), frozen_alloc_l _ (cell_alloc_l _ c2) (frozen_alloc_l _ c2 d2)⟩, hB2⟩
            (fun x => { tmps := #[.string s, .int .i64 most, undef, .pointer (some ⟨w.heap.size, 0, none⟩), .pointer (some ⟨w.heap.size + 1, 0, none⟩), .pointer (some ⟨w.heap.size + 1 + 1, 0, none⟩), .pointer (some ⟨w1.heap.size, 0, none⟩), .int .u8 x.toNat, .string s, .bool false, .bool false, .string s, .int .i64 s.size, .bool true, .bool true, .string s, .int .u8 (s[0]).toNat, .bool false, .bool false, .bool false, .bool false, .string s, .bool true, .bool false, .bool false, .string s, .func (.func 67) #[] #[.pointer (some ⟨w1.heap.size + 1, 0, none⟩)], .int .u8 x.toNat, undef, undef, undef, undef, undef, undef, undef, undef, undef, undef], defers := [] }) ?assign ?body ?done ?stop
          case assign =>
            intro l x W K hK
            gi_wp2
            exact hK
          case body =>
            rintro l pre x W ⟨⟨⟨hv, hn, fn⟩, k0, ⟨k1, e1⟩, k2, e2⟩, hB⟩ _
            have hv0 := valI_nn pre
            have hd := digI_nn x
            have ed : ((x.toNat : Int) - 48) % 256 = digI x := rfl
            have Hs := hid (valI_snoc pre x)
            clear c0 c1 c2 d1 d2 n0 n1 hB1 hB2
            by_cases hgt : most < valI pre * 10 + digI x
            · gi_wp2
              refine ⟨((KeepsOthers.setCell _ _ _).trans (KeepsOthers.setCell _ _ _)).trans (KeepsOthers.setCell _ _ _), ⟨⟨rfl, by rw [unhid Hs]; exact hgt⟩, ?_, ?_⟩, ((hB.setCell (p := ⟨w1.heap.size, 0, none⟩) (by simp; omega) _).setCell (p := ⟨w.heap.size + 1, 0, none⟩) (by simp) _).setCell (p := ⟨w.heap.size + 1 + 1, 0, none⟩) (by simp; omega) _⟩
              · exact (set_far _ _ _ _ (by omega)).trans (set_same ((set_far _ _ _ _ (by omega)).trans k1))
              · exact set_same ((set_far _ _ _ _ (by omega)).trans ((set_far _ _ _ _ (by omega)).trans k2))
            · gi_wp2
              refine ⟨KeepsOthers.setCell _ _ _, Keeps.setCell _ _ _ (by simp), ⟨⟨by rw [unhid Hs]; omega, by rw [unhid Hs]; exact set_same hn, by rw [World.frozen?_setCell]; exact fn⟩, (set_far _ _ _ _ (by omega)).trans k0, ⟨(set_far _ _ _ _ (by omega)).trans k1, by rw [World.frozen?_setCell]; exact e1⟩, (set_far _ _ _ _ (by omega)).trans k2, by rw [World.frozen?_setCell]; exact e2⟩, hB.setCell (p := ⟨w1.heap.size, 0, none⟩) (by simp; omega) _⟩
          case done =>
            rintro D ys W hD rfl ⟨⟨⟨hv, hn, fn⟩, k0, ⟨k1, e1⟩, k2, e2⟩, hB⟩ hK
            clear c0 c1 c2 d1 d2 n0 n1 hB1 hB2
            have hok : numOk s.data.toList most = true := by simp [numOk, unhid Hpl, hv]
            have Hok := hid hok
            clear hok
            gi_wp2
            have hK' := ((KeepsOthers.setCell W ⟨w.heap.size + 1, 0, none⟩ (.int .i64 (valI s.data.toList))).trans (KeepsOthers.setCell _ ⟨w.heap.size + 1 + 1, 0, none⟩ (.bool true))).same D _ hK rfl
            refine ⟨by simp, .inl ⟨_, _, rfl, run_takeDeferred hK', ?_⟩⟩
            have r1 : ((W.setCell ⟨w.heap.size + 1, 0, none⟩ (.int .i64 (valI s.data.toList))).setCell ⟨w.heap.size + 1 + 1, 0, none⟩ (.bool true)).cell? ⟨w.heap.size + 1, 0, none⟩ = some (.int .i64 (valI s.data.toList)) := (set_far _ _ _ _ (by omega)).trans (set_same k1)
            have r2 : ((W.setCell ⟨w.heap.size + 1, 0, none⟩ (.int .i64 (valI s.data.toList))).setCell ⟨w.heap.size + 1 + 1, 0, none⟩ (.bool true)).cell? ⟨w.heap.size + 1 + 1, 0, none⟩ = some (.bool true) := set_same ((set_far _ _ _ _ (by omega)).trans k2)
            have s1 := cell_kept r1 (grownBy_putObj' _ D (.deferred none)) (fun r e => by cases e; exact ⟨_, hK', rfl⟩)
            have s2 := cell_kept r2 (grownBy_putObj' _ D (.deferred none)) (fun r e => by cases e; exact ⟨_, hK', rfl⟩)
            refine ⟨.tuple #[.int .i64 (valI s.data.toList), .bool true], ?_, ?_, ((hB.setCell (p := ⟨w.heap.size + 1, 0, none⟩) (by simp) _).setCell (p := ⟨w.heap.size + 1 + 1, 0, none⟩) (by simp; omega) _).trans (belowK_b (w := w) (Nat.le_refl _) _ D _ _ (by simp at hD; omega) hK' rfl rfl)⟩
            · simp [results, Try.f46, go_sem, s1, s2]
            · rw [numVal, unhid Hok]; rfl
          case stop =>
            rintro D c pre W hD hpre ⟨⟨⟨rfl, hgt⟩, k1, k2⟩, hB⟩ hK
            clear c0 c1 c2 d1 d2 n0 n1 hB1 hB2
            have hno : numOk s.data.toList most = false := by
              have := valI_pre hpre
              simp [numOk]; intro; omega
            have Hno := hid hno
            clear hno
            gi_wp2
            refine ⟨by simp, .inl ⟨_, _, rfl, run_takeDeferred hK, ?_⟩⟩
            have s1 := cell_kept k1 (grownBy_putObj' _ D (.deferred none)) (fun r e => by cases e; exact ⟨_, hK, rfl⟩)
            have s2 := cell_kept k2 (grownBy_putObj' _ D (.deferred none)) (fun r e => by cases e; exact ⟨_, hK, rfl⟩)
            refine ⟨.tuple #[.int .i64 0, .bool false], ?_, ?_, hB.trans (belowK_b (w := w) (Nat.le_refl _) W D _ _ (by simp at hD; omega) hK rfl rfl)⟩
            · simp [results, Try.f46, go_sem, s1, s2]
            · rw [numVal, unhid Hno]; rfl
        · gi_wp2
          refine ⟨trivial, (callsIn_wide.2 (allBytes_any 51 figB egFig isFigure_any s hs _)).mono ?_⟩
          rintro e w1 ⟨rfl, hb⟩
          rw [unhid Hall]
          have hb' : Below (w.heap.size + 1 + 1 + 1) (((w.alloc (.cells #[.int .i64 most] 3)).alloc (.cells #[.int .i64 0] 3)).alloc (.cells #[.bool false] 4)) w1 := hb.mono (by simp)
          have hz3 : w.heap.size + 1 + 1 + 1 ≤ w1.heap.size := by have := hb.size; simpa using this
          have hB1 := (unhid HB0).trans (hb'.mono (by omega))
          have c0 : w1.cell? ⟨w.heap.size, 0, none⟩ = some (.int .i64 most) := (hb'.cell (p := ⟨w.heap.size, 0, none⟩) (by simp; omega)).trans (by simp [go_sem])
          have c1 : w1.cell? ⟨w.heap.size + 1, 0, none⟩ = some (.int .i64 0) := (hb'.cell (p := ⟨w.heap.size + 1, 0, none⟩) (by simp)).trans (by simp [go_sem])
          have c2 : w1.cell? ⟨w.heap.size + 1 + 1, 0, none⟩ = some (.bool false) := (hb'.cell (p := ⟨w.heap.size + 1 + 1, 0, none⟩) (by simp)).trans (by simp [go_sem])
          have d1 : w1.frozen? ⟨w.heap.size + 1, 0, none⟩ = false := (hb'.frozen (p := ⟨w.heap.size + 1, 0, none⟩) (by simp)).trans (by simp [go_sem])
          have d2 : w1.frozen? ⟨w.heap.size + 1 + 1, 0, none⟩ = false := (hb'.frozen (p := ⟨w.heap.size + 1 + 1, 0, none⟩) (by simp)).trans (by simp [go_sem])
          clear hb hb'
          have HC := hid (And.intro hB1 (And.intro c0 (And.intro c1 (And.intro c2 (And.intro d1 d2)))))
          clear hB1 c0 c1 c2 d1 d2
          gi_wp2_with (refine ⟨trivial, ?_⟩; gi_at_call 63; refine (bytesOf_in Fence.wide _ trivial rfl _ _).mono ?_; rintro e w' ⟨rfl, rfl⟩)
          obtain ⟨hB1, c0, c1, c2, d1, d2⟩ := unhid HC
          have n0 := cell_new_l w1 (.int .i64 0) 3
          have n1 := cell_new_l (w1.alloc (.cells #[.int .i64 0] 3)) (.string s) 9
          simp only [World.size_alloc] at n1
          have hB2 : Below w.heap.size w ((w1.alloc (.cells #[.int .i64 0] 3)).alloc (.cells #[.string s] 9)) := (hB1.alloc (by omega) _).alloc (by simp; omega) _
          refine wpIn_rangeFunc_ownF rfl (by omega) (gf := 67) (lb := #[.pointer (some ⟨w1.heap.size + 1, 0, none⟩)]) rfl trivial (enters_of Try.func67 (by kernel_rfl) rfl)
            (bytes_stops Fence.wide _ trivial rfl (by omega) (w1.heap.size + 1) s hs _ (by simp) n1.1) Keeps.t (Keeps.b) (Below.refl _ _) (fun _ => rfl)
            (fun pre W => ((valI pre ≤ most ∧ W.cell? ⟨w1.heap.size, 0, none⟩ = some (.int .i64 (valI pre)) ∧ W.frozen? ⟨w1.heap.size, 0, none⟩ = false) ∧ W.cell? ⟨w.heap.size, 0, none⟩ = some (.int .i64 most) ∧ (W.cell? ⟨w.heap.size + 1, 0, none⟩ = some (.int .i64 0) ∧ W.frozen? ⟨w.heap.size + 1, 0, none⟩ = false) ∧ W.cell? ⟨w.heap.size + 1 + 1, 0, none⟩ = some (.bool false) ∧ W.frozen? ⟨w.heap.size + 1 + 1, 0, none⟩ = false) ∧ Below w.heap.size w W)
            (fun c pre W => ((c = .ret ∧ most < valI pre) ∧ W.cell? ⟨w.heap.size + 1, 0, none⟩ = some (.int .i64 0) ∧ W.cell? ⟨w.heap.size + 1 + 1, 0, none⟩ = some (.bool false)) ∧ Below w.heap.size w W)
            (OwnFrom.and (Own.from (fun s A B row hs hg hr => ⟨⟨hs.1.1, cell_kept hs.1.2.1 hg hr, (frozen_kept hs.1.2.1 hg hr).trans hs.1.2.2⟩, cell_kept hs.2.1 hg hr, ⟨cell_kept hs.2.2.1.1 hg hr, (frozen_kept hs.2.2.1.1 hg hr).trans hs.2.2.1.2⟩, cell_kept hs.2.2.2.1 hg hr, (frozen_kept hs.2.2.2.1 hg hr).trans hs.2.2.2.2⟩) _) (ownFrom_below (Nat.le_refl _) (by simp; omega)))
            (fun c => OwnFrom.and (Own.from (fun s A B row hs hg hr => ⟨hs.1, cell_kept hs.2.1 hg hr, cell_kept hs.2.2 hg hr⟩) _) (ownFrom_below (Nat.le_refl _) (by simp; omega)))
            ⟨⟨⟨hm0, cell_alloc_l _ n0.1, frozen_alloc_l _ n0.1 n0.2⟩, cell_alloc_l _ (cell_alloc_l _ c0), ⟨cell_alloc_l _ (cell_alloc_l _ c1), frozen_alloc_l _ (cell_alloc_l _ c1) (frozen_alloc_l _ c1 d1)⟩, cell_alloc_l _ (cell_alloc_l _ c2), frozen_alloc_l _ (cell_alloc_l _ c2) (frozen_alloc_l _ c2 d2)⟩, hB2⟩
            (fun x => { tmps := #[.string s, .int .i64 most, undef, .pointer (some ⟨w.heap.size, 0, none⟩), .pointer (some ⟨w.heap.size + 1, 0, none⟩), .pointer (some ⟨w.heap.size + 1 + 1, 0, none⟩), .pointer (some ⟨w1.heap.size, 0, none⟩), .int .u8 x.toNat, .string s, .bool false, .bool false, .string s, .int .i64 s.size, .bool false, .bool false, undef, undef, undef, .bool false, .bool false, .bool false, .string s, .bool true, .bool false, .bool false, .string s, .func (.func 67) #[] #[.pointer (some ⟨w1.heap.size + 1, 0, none⟩)], .int .u8 x.toNat, undef, undef, undef, undef, undef, undef, undef, undef, undef, undef], defers := [] }) ?assign ?body ?done ?stop
          case assign =>
            intro l x W K hK
            gi_wp2
            exact hK
          case body =>
            rintro l pre x W ⟨⟨⟨hv, hn, fn⟩, k0, ⟨k1, e1⟩, k2, e2⟩, hB⟩ _
            have hv0 := valI_nn pre
            have hd := digI_nn x
            have ed : ((x.toNat : Int) - 48) % 256 = digI x := rfl
            have Hs := hid (valI_snoc pre x)
            clear c0 c1 c2 d1 d2 n0 n1 hB1 hB2
            by_cases hgt : most < valI pre * 10 + digI x
            · gi_wp2
              refine ⟨((KeepsOthers.setCell _ _ _).trans (KeepsOthers.setCell _ _ _)).trans (KeepsOthers.setCell _ _ _), ⟨⟨rfl, by rw [unhid Hs]; exact hgt⟩, ?_, ?_⟩, ((hB.setCell (p := ⟨w1.heap.size, 0, none⟩) (by simp; omega) _).setCell (p := ⟨w.heap.size + 1, 0, none⟩) (by simp) _).setCell (p := ⟨w.heap.size + 1 + 1, 0, none⟩) (by simp; omega) _⟩
              · exact (set_far _ _ _ _ (by omega)).trans (set_same ((set_far _ _ _ _ (by omega)).trans k1))
              · exact set_same ((set_far _ _ _ _ (by omega)).trans ((set_far _ _ _ _ (by omega)).trans k2))
            · gi_wp2
              refine ⟨KeepsOthers.setCell _ _ _, Keeps.setCell _ _ _ (by simp), ⟨⟨by rw [unhid Hs]; omega, by rw [unhid Hs]; exact set_same hn, by rw [World.frozen?_setCell]; exact fn⟩, (set_far _ _ _ _ (by omega)).trans k0, ⟨(set_far _ _ _ _ (by omega)).trans k1, by rw [World.frozen?_setCell]; exact e1⟩, (set_far _ _ _ _ (by omega)).trans k2, by rw [World.frozen?_setCell]; exact e2⟩, hB.setCell (p := ⟨w1.heap.size, 0, none⟩) (by simp; omega) _⟩
          case done =>
            rintro D ys W hD rfl ⟨⟨⟨hv, hn, fn⟩, k0, ⟨k1, e1⟩, k2, e2⟩, hB⟩ hK
            clear c0 c1 c2 d1 d2 n0 n1 hB1 hB2
            have hok : numOk s.data.toList most = true := by simp [numOk, unhid Hpl, hv]
            have Hok := hid hok
            clear hok
            gi_wp2
            have hK' := ((KeepsOthers.setCell W ⟨w.heap.size + 1, 0, none⟩ (.int .i64 (valI s.data.toList))).trans (KeepsOthers.setCell _ ⟨w.heap.size + 1 + 1, 0, none⟩ (.bool true))).same D _ hK rfl
            refine ⟨by simp, .inl ⟨_, _, rfl, run_takeDeferred hK', ?_⟩⟩
            have r1 : ((W.setCell ⟨w.heap.size + 1, 0, none⟩ (.int .i64 (valI s.data.toList))).setCell ⟨w.heap.size + 1 + 1, 0, none⟩ (.bool true)).cell? ⟨w.heap.size + 1, 0, none⟩ = some (.int .i64 (valI s.data.toList)) := (set_far _ _ _ _ (by omega)).trans (set_same k1)
            have r2 : ((W.setCell ⟨w.heap.size + 1, 0, none⟩ (.int .i64 (valI s.data.toList))).setCell ⟨w.heap.size + 1 + 1, 0, none⟩ (.bool true)).cell? ⟨w.heap.size + 1 + 1, 0, none⟩ = some (.bool true) := set_same ((set_far _ _ _ _ (by omega)).trans k2)
            have s1 := cell_kept r1 (grownBy_putObj' _ D (.deferred none)) (fun r e => by cases e; exact ⟨_, hK', rfl⟩)
            have s2 := cell_kept r2 (grownBy_putObj' _ D (.deferred none)) (fun r e => by cases e; exact ⟨_, hK', rfl⟩)
            refine ⟨.tuple #[.int .i64 (valI s.data.toList), .bool true], ?_, ?_, ((hB.setCell (p := ⟨w.heap.size + 1, 0, none⟩) (by simp) _).setCell (p := ⟨w.heap.size + 1 + 1, 0, none⟩) (by simp; omega) _).trans (belowK_b (w := w) (Nat.le_refl _) _ D _ _ (by simp at hD; omega) hK' rfl rfl)⟩
            · simp [results, Try.f46, go_sem, s1, s2]
            · rw [numVal, unhid Hok]; rfl
          case stop =>
            rintro D c pre W hD hpre ⟨⟨⟨rfl, hgt⟩, k1, k2⟩, hB⟩ hK
            clear c0 c1 c2 d1 d2 n0 n1 hB1 hB2
            have hno : numOk s.data.toList most = false := by
              have := valI_pre hpre
              simp [numOk]; intro; omega
            have Hno := hid hno
            clear hno
            gi_wp2
            refine ⟨by simp, .inl ⟨_, _, rfl, run_takeDeferred hK, ?_⟩⟩
            have s1 := cell_kept k1 (grownBy_putObj' _ D (.deferred none)) (fun r e => by cases e; exact ⟨_, hK, rfl⟩)
            have s2 := cell_kept k2 (grownBy_putObj' _ D (.deferred none)) (fun r e => by cases e; exact ⟨_, hK, rfl⟩)
            refine ⟨.tuple #[.int .i64 0, .bool false], ?_, ?_, hB.trans (belowK_b (w := w) (Nat.le_refl _) W D _ _ (by simp at hD; omega) hK rfl rfl)⟩
            · simp [results, Try.f46, go_sem, s1, s2]
            · rw [numVal, unhid Hno]; rfl
end Go.Proofs.Ytobalkbddefaiaa
