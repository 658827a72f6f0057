/- The laws' own copies of hunks; two rows of the same hunks are the same. -/
import Derived.Test.YtedimkcnemhhpaaHunks
namespace Go.Proofs.Ytedimkcnemhhpaa
open Go.RowKit Go.Shelf

set_option maxRecDepth 100000 in
set_option maxHeartbeats 2000000 in
theorem toHunk_any (h : Hk) (la : Option Addr) (cap : Nat) (w : World) (hlen : h.lines.length ≤ 1048576) (ht : TxtsAt w la h.lines) :
    Calls Try.prog 47 #[.agg #[.int .i64 h.at_, .slice la h.lines.length cap]] w fun x w' => ∃ g, x = .returned (.agg #[.int .i64 h.at_, .slice (some ⟨g, 0, .none⟩) h.lines.length h.lines.length]) ∧ w.heap.size ≤ g ∧ TxtsAt w' (some ⟨g, 0, .none⟩) h.lines ∧ Below w.heap.size w w' := by
  have HT := hid ht
  clear ht
  obtain ⟨at_, lines⟩ := h
  dsimp only at HT hlen ⊢
  have hs1 : ∀ o, (w.alloc o).heap.size = w.heap.size + 1 := fun o => by simp
  have hs2 : ∀ o o', ((w.alloc o).alloc o').heap.size = w.heap.size + 1 + 1 := fun o o' => by simp
  have hs3 : ∀ o o' o'', (((w.alloc o).alloc o').alloc o'').heap.size = w.heap.size + 1 + 1 + 1 := fun o o' o'' => by simp
  have hB : ∀ o o' o'', Below w.heap.size w (((w.alloc o).alloc o').alloc o'') := fun o o' o'' => (((Below.refl _ w).alloc (Nat.le_refl _) o).alloc (by simp) o').alloc (by simp; omega) o''
  have hR : ∀ o o'', TwoAt (((w.alloc o).alloc (.cells #[.int .i64 0, .slice none 0 0] 46)).alloc o'') (w.heap.size + 1) 0 (.slice none 0 0) := fun o o'' => by
    have h1 := twoAt_new (w.alloc o) 0 (.slice none 0 0) 46
    have h2 := h1.below ((Below.refl _ _).alloc (Nat.le_refl _) o'') (by rw [hs1, hs2]; omega)
    rwa [hs1] at h2
  have hO : ∀ o o', TwoAt (((w.alloc o).alloc o').alloc (.cells #[.int .i64 at_, .slice none 0 0] 46)) (w.heap.size + 1 + 1) at_ (.slice none 0 0) := fun o o' => by
    have h1 := twoAt_new ((w.alloc o).alloc o') at_ (.slice none 0 0) 46
    rwa [hs2] at h1
  have HB := hid hB
  have HR := hid hR
  have HO := hid hO
  have HS3 := hid hs3
  clear hB hR hO hs1 hs2 hs3
  go_enter Try.func47, Try.ntmps47
  go_wp2_with fail
  refine (toStringS_any lines la cap _ hlen ((unhid HT).below (unhid HB _ _ _))).mono ?_
  rintro x w1 ⟨g, rfl, hg, hrow, hb⟩
  have B1 := hid ((unhid HB _ _ _).trans (hb.mono (unhid HB _ _ _).size))
  obtain ⟨⟨c0, f0⟩, c1, f1⟩ := (unhid HR _ _).below hb (by rw [unhid HS3]; omega)
  obtain ⟨⟨d0, g0⟩, d1, g1⟩ := (unhid HO _ _).below hb (by rw [unhid HS3]; omega)
  rw [unhid HS3] at hg
  have HRow := hid hrow
  clear hb HB HR HO HS3 hrow
  go_wp2_with fail
  refine bodyPost_ret (v := .agg #[.int .i64 at_, .slice (some ⟨g, 0, .none⟩) lines.length lines.length]) (by simp [results, Try.results47, go_sem, World.cell?_setCell_same', c0, c1]) rfl ⟨g, rfl, by omega, ?_, ?_⟩
  · refine ((unhid HRow).block ?_).at (Nat.le_refl _)
    rw [Below.heap_setCell _ _ _ _ (by dsimp only; omega), Below.heap_setCell _ _ _ _ (by dsimp only; omega), Below.heap_setCell _ _ _ _ (by dsimp only; omega)]
  · exact (((unhid B1).setCell (by dsimp only; omega) _).setCell (by dsimp only; omega) _).setCell (by dsimp only; omega) _

/-- A block that is a row of n hunks. -/
def HkRow (W : World) (g T n : Nat) (f : Nat → Int × Value) : Prop := ∃ cur : Array Value, W.heap[g]? = some (.cells cur T (0, 0)) ∧ cur.size = n * 2 ∧ ∀ i, i < n → cur[i * 2]? = some (.int .i64 (f i).1) ∧ cur[i * 2 + 1]? = some (f i).2
theorem HkRow.lt {W : World} {g T n : Nat} {f : Nat → Int × Value} (x : HkRow W g T n f) : g < W.heap.size := by
  obtain ⟨cur, h1, _⟩ := x; exact (Array.getElem?_eq_some_iff.1 h1).1
theorem HkRow.block {W W' : World} {g T n : Nat} {f : Nat → Int × Value} (x : HkRow W g T n f) (e : W'.heap[g]? = W.heap[g]?) : HkRow W' g T n f := by
  obtain ⟨cur, h1, h2, h3⟩ := x; exact ⟨cur, e.trans h1, h2, h3⟩
theorem HkRow.below {W W' : World} {B g T n : Nat} {f : Nat → Int × Value} (x : HkRow W g T n f) (hb : Below B W W') (hg : g < B) : HkRow W' g T n f := x.block (hb.block g hg)
theorem HkRow.cells {W : World} {g T n : Nat} {f : Nat → Int × Value} (x : HkRow W g T n f) (k : Nat) (hk : k < n) : (W.cell? ⟨g, k * 2, .none⟩ = some (.int .i64 (f k).1) ∧ W.frozen? ⟨g, k * 2, .none⟩ = false) ∧ W.cell? ⟨g, k * 2 + 1, .none⟩ = some (f k).2 ∧ W.frozen? ⟨g, k * 2 + 1, .none⟩ = false := by
  obtain ⟨cur, h1, h2, h3⟩ := x
  obtain ⟨a, b⟩ := h3 k hk
  exact ⟨⟨by simp [World.cell?, h1, a], by simp [World.frozen?, h1]⟩, by simp [World.cell?, h1, b], by simp [World.frozen?, h1]⟩
def updH (f : Nat → Int × Value) (k : Nat) (e : Int × Value) : Nat → Int × Value := fun j => if j = k then e else f j
theorem HkRow.set {W : World} {g T n : Nat} {f : Nat → Int × Value} (x : HkRow W g T n f) (k : Nat) (hk : k < n) (e : Int × Value) :
    HkRow ((W.setCell ⟨g, k * 2, .none⟩ (.int .i64 e.1)).setCell ⟨g, k * 2 + 1, .none⟩ e.2) g T n (updH f k e) := by
  obtain ⟨cur, h1, h2, h3⟩ := x
  refine ⟨(cur.setIfInBounds (k * 2) (.int .i64 e.1)).setIfInBounds (k * 2 + 1) e.2, ?_, by simpa using h2, fun i hi => ?_⟩
  · exact heap_setCell_same _ g _ _ T _ (heap_setCell_same _ g _ _ T _ h1)
  · unfold updH
    simp only [Array.getElem?_setIfInBounds, Array.size_setIfInBounds]
    by_cases e1 : i = k
    · subst e1
      have eu : (if i = i then e else f i) = e := if_pos rfl
      rw [eu]
      refine ⟨?_, ?_⟩
      · rw [if_neg (by omega), if_pos rfl, if_pos (by omega)]
      · rw [if_pos rfl, if_pos (by omega)]
    · rw [if_neg e1]
      obtain ⟨a, b⟩ := h3 i hi
      refine ⟨?_, ?_⟩
      · rw [if_neg (by omega), if_neg (by omega)]; exact a
      · rw [if_neg (by omega), if_neg (by omega)]; exact b
theorem infoHk : (Try.prog.info? 46).map (fun i => (i.zero, i.size, i.bytes)) = some (some (.agg #[.int .i64 0, .slice none 0 0]), 2, 32) := by kernel_rfl
theorem mkHunks (W : World) (n : Nat) (hn : n ≤ 1048576) : ∃ M : Array Value, (Instr.makeSlice 25 (.int .i64 (n : Int)) (.int .i64 (n : Int))).run Try.prog W = .ok (.slice (some ⟨W.heap.size, 0, .none⟩) n n) (W.alloc (.cells M 46)) ∧ HkRow (W.alloc (.cells M 46)) W.heap.size 46 n (fun _ => (0, .slice none 0 0)) := by
  obtain ⟨i, hi, hz0, hz1, hz2⟩ := info_parts infoHk
  refine ⟨madeCells #[.int .i64 0, .slice none 0 0] (n * 2), ?_, _, World.alloc_heap_new W _, by simp [madeCells], fun j hj => ?_⟩
  · have := run_make (P := Try.prog) W 25 46 i _ Try.underlying25 hi hz0 .i64 .i64 n n (by omega) (Int.le_refl _) (by rw [hz2]; omega) (by omega)
    simpa [hz1, Value.cells] using this
  · unfold madeCells
    simp only [Array.getElem?_map, Array.getElem?_range]
    have e0 : j * 2 % 2 = 0 := by omega
    have e1 : (j * 2 + 1) % 2 = 1 := by omega
    rw [if_pos (by omega), if_pos (by omega)]
    simp [e0, e1]

/-- What a copy of the first k hunks is. -/
def HkDone (W : World) (g k : Nat) (hs : List Hk) (f : Nat → Int × Value) : Prop := ∀ (i : Nat) h, i < k → hs[i]? = some h → ∃ la, f i = (h.at_, .slice (some ⟨la, 0, .none⟩) h.lines.length h.lines.length) ∧ g < la ∧ TxtsAt W (some ⟨la, 0, .none⟩) h.lines
theorem HkDone.below {W W' : World} {g k : Nat} {hs : List Hk} {f : Nat → Int × Value} (x : HkDone W g k hs f) (hb : Below W.heap.size W W') : HkDone W' g k hs f := fun i h hi he => by
  obtain ⟨la, h1, h2, h3⟩ := x i h hi he
  exact ⟨la, h1, h2, h3.below hb⟩
theorem HkDone.set {W : World} {g k : Nat} {hs : List Hk} {f : Nat → Int × Value} (x : HkDone W g k hs f) (o : Nat) (v : Value) : HkDone (W.setCell ⟨g, o, .none⟩ v) g k hs f := fun i h hi he => by
  obtain ⟨la, h1, h2, h3⟩ := x i h hi he
  exact ⟨la, h1, h2, h3.block g (fun b o e => by cases e; omega) (by simp) (fun b _ hne => Below.heap_setCell W ⟨g, _, .none⟩ v b (by dsimp only; exact hne))⟩

set_option maxRecDepth 100000 in
set_option maxHeartbeats 2000000 in
theorem toHunkS_any (hs : List Hk) (a : Option Addr) (cap : Nat) (w : World) (hlen : hs.length ≤ 1048576) (hz : ∀ h ∈ hs, h.lines.length ≤ 1048576) (h : HksAt w a hs) :
    Calls Try.prog 17 #[.slice a hs.length cap] w fun x w' => ∃ g, x = .returned (.slice (some ⟨g, 0, .none⟩) hs.length hs.length) ∧ w.heap.size ≤ g ∧ HksAt w' (some ⟨g, 0, .none⟩) hs ∧ Below w.heap.size w w' := by
  obtain ⟨M, hmk, hrow⟩ := mkHunks w hs.length hlen
  have HR := hid hrow
  have HZ := hid hz
  clear hrow hz
  go_enter Try.func17, Try.ntmps17
  go_wp2_with fail
  clear hmk
  have hB0 : Below w.heap.size w (w.alloc (.cells M 46)) := (Below.refl _ _).alloc (Nat.le_refl _) _
  generalize w.alloc (.cells M 46) = wq at HR hB0 ⊢
  go_loopw [4] (fun i wr => ∃ k : Nat, k ≤ hs.length ∧ i = .int .i64 k ∧ (∃ f, HkRow wr w.heap.size 46 hs.length f ∧ HkDone wr w.heap.size k hs f) ∧ Below w.heap.size w wr) (fun i _ => hs.length - (intOf i).toNat)
  case atStart => exact ⟨0, Nat.zero_le _, rfl, ⟨_, unhid HR, fun i _ hi => absurd hi (Nat.not_lt_zero _)⟩, hB0⟩
  case round =>
    clear HR hB0
    obtain ⟨k, hk, rfl, ⟨f, hR, hD⟩, hB⟩ := hrel
    by_cases hlt : k < hs.length
    · obtain ⟨e, he⟩ : ∃ e, hs[k]? = some e := ⟨hs[k], List.getElem?_eq_getElem hlt⟩
      obtain ⟨b, o, rfl, hbl, hc⟩ := h.get (by intro e; subst e; simp at hlt)
      obtain ⟨la, lc, c0, c1, ht⟩ := (hc k e he).below hB hbl
      have zl := unhid HZ e (List.mem_of_getElem? he)
      have HS := hid he
      have HB := hid hB
      have HR := hid hR
      have HD := hid hD
      have HH := hid hc
      have HT := hid ht
      have ZL := hid zl
      clear hc hB he hR h hD ht zl
      go_wp2_with fail
      refine (toHunk_any e la lc _ (unhid ZL) (unhid HT)).mono ?_
      rintro x w2 ⟨g2, rfl, hg2, ht2, hb⟩
      have hgl := (unhid HR).lt
      have hR2 := (unhid HR).below hb hgl
      obtain ⟨⟨d0, f0⟩, d1, f1⟩ := hR2.cells k hlt
      have HR2 := hid hR2
      have HD2 := hid ((unhid HD).below hb)
      have HT2 := hid ht2
      have HB2 := hid ((unhid HB).trans (hb.mono (unhid HB).size))
      have HG2 := hid (Nat.lt_of_lt_of_le hgl hg2)
      clear hb c0 c1 hR2 HR HD ht2 hg2 hgl
      go_wp2_with fail
      go_roundw
      case rel =>
        refine ⟨k + 1, by omega, by go_num, ⟨_, (unhid HR2).set k hlt (e.at_, .slice (some ⟨g2, 0, .none⟩) e.lines.length e.lines.length), fun i hh hi hg => ?_⟩, ((unhid HB2).setCell (Nat.le_refl _) _).setCell (Nat.le_refl _) _⟩
        unfold updH
        by_cases ei : i = k
        · subst ei
          rw [unhid HS] at hg
          cases hg
          refine ⟨g2, if_pos rfl, unhid HG2, ?_⟩
          refine ((unhid HT2).block w.heap.size (fun b o ee => by cases ee; have := unhid HG2; omega) (by simp) (fun b _ hne => Below.heap_setCell _ ⟨w.heap.size, _, .none⟩ _ b (by dsimp only; exact hne))).block w.heap.size (fun b o ee => by cases ee; have := unhid HG2; omega) (by simp) (fun b _ hne => Below.heap_setCell _ ⟨w.heap.size, _, .none⟩ _ b (by dsimp only; exact hne))
        · have := (((unhid HD2).set (k * 2) (.int .i64 e.at_)).set (k * 2 + 1) (.slice (some ⟨g2, 0, .none⟩) e.lines.length e.lines.length)) i hh (by omega) hg
          rw [if_neg ei]
          exact this
      case measure => simp [intOf]; omega
    · have e : k = hs.length := by omega
      subst e
      go_wp2_with fail
      go_ret
      refine ⟨w.heap.size, rfl, Nat.le_refl _, .inr ⟨w.heap.size, 0, rfl, hR.lt, fun i e hi => ?_⟩, hB⟩
      have hl : i < hs.length := (List.getElem?_eq_some_iff.1 hi).1
      obtain ⟨la, hf, hg, ht⟩ := hD i e hl hi
      obtain ⟨⟨c0, _⟩, c1, _⟩ := hR.cells i hl
      rw [hf] at c0 c1
      rw [Nat.zero_add]
      exact ⟨_, _, c0, c1, ht⟩

set_option maxRecDepth 100000 in
set_option maxHeartbeats 2000000 in
theorem eqHunk_same (h : Hk) (la lb : Option Addr) (cap cap2 : Nat) (w : World) (hlen : h.lines.length ≤ maxLen) (ha : TxtsAt w la h.lines) (hb : TxtsAt w lb h.lines) :
    Calls Try.prog 50 #[.agg #[.int .i64 h.at_, .slice la h.lines.length cap], .agg #[.int .i64 h.at_, .slice lb h.lines.length cap2]] w fun r w' => r = .returned (.bool true) ∧ Below w.heap.size w w' := by
  have HA := hid ha
  have HB := hid hb
  clear ha hb
  have hW : ∀ o o', Below w.heap.size w ((w.alloc o).alloc o') := fun o o' => ((Below.refl _ w).alloc (Nat.le_refl _) o).alloc (by simp) o'
  have HW := hid hW
  clear hW
  have hq : (h.at_ != h.at_) = false := by simp
  go_enter Try.func50, Try.ntmps50
  go_wp2_with fail
  refine (eqStringS_same h.lines la lb cap cap2 _ hlen ((unhid HA).below (unhid HW _ _)) ((unhid HB).below (unhid HW _ _))).mono ?_
  rintro x w1 ⟨rfl, hb⟩
  have B1 := hid ((unhid HW _ _).trans (hb.mono (unhid HW _ _).size))
  clear hb
  go_wp2_with fail
  go_ret
  exact ⟨rfl, unhid B1⟩

set_option maxRecDepth 100000 in
set_option maxHeartbeats 4000000 in
theorem eqHunkS_same (hs : List Hk) (a b : Option Addr) (cap cap2 : Nat) (w : World) (hx : hs.length ≤ maxLen) (hz : ∀ h ∈ hs, h.lines.length ≤ maxLen) (h : HksAt w a hs) (h2 : HksAt w b hs) :
    Calls Try.prog 19 #[.slice a hs.length cap, .slice b hs.length cap2] w fun r w' => r = .returned (.bool true) ∧ Below w.heap.size w w' := by
  unfold maxLen at hx
  have hl' : ((hs.length : Int) != (hs.length : Int)) = false := by simp
  have HZ := hid hz
  clear hz
  go_enter Try.func19, Try.ntmps19
  go_wp2_with fail
  go_loopw [5] (fun i wr => ∃ k : Nat, k ≤ hs.length ∧ i = .int .i64 k ∧ Below w.heap.size w wr) (fun i _ => hs.length - (intOf i).toNat)
  case atStart => exact ⟨0, Nat.zero_le _, rfl, Below.refl _ _⟩
  case round =>
    obtain ⟨k, hk, rfl, hB⟩ := hrel
    by_cases hlt : k < hs.length
    · obtain ⟨e, he⟩ : ∃ e, hs[k]? = some e := ⟨hs[k], List.getElem?_eq_getElem hlt⟩
      obtain ⟨bb, o, rfl, hbl, hc⟩ := h.get (by intro e; subst e; simp at hlt)
      obtain ⟨bb2, o2, rfl, hbl2, hc2⟩ := h2.get (by intro e; subst e; simp at hlt)
      obtain ⟨la, lc, c0, c1, ht⟩ := (hc k e he).below hB hbl
      obtain ⟨la2, lc2, d0, d1, ht2⟩ := (hc2 k e he).below hB hbl2
      have zl := hid (unhid HZ e (List.mem_of_getElem? he))
      have HB := hid hB
      have HT := hid ht
      have HT2 := hid ht2
      have HH := hid (And.intro h (And.intro h2 (And.intro hc hc2)))
      clear hc hc2 hB he h h2 ht ht2
      go_wp2_with fail
      go_region_with (go_at_call 50; refine (eqHunk_same e la la2 lc lc2 _ (unhid zl) ((unhid HT).below (drew_belowX _)) ((unhid HT2).below (drew_belowX _))).mono ?_; rintro r w2 ⟨rfl, hb⟩; have HB2 := hid (((unhid HB).trans (drew_belowX _)).trans (hb.mono (unhid HB).size)); clear hb)
      all_goals
        go_wp2_with fail
        go_roundw
        case rel => exact ⟨k + 1, by omega, by go_num, unhid HB2⟩
        case measure => simp [intOf]; omega
    · have e : k = hs.length := by omega
      subst e
      go_wp2_with fail
      go_ret
      exact ⟨rfl, hB⟩
end Go.Proofs.Ytedimkcnemhhpaa
