/- Rows of hunks: what they hold, the laws' own copies of them, their sizes; two rows of the same hunks are the same. -/
import Derived.Test.YtedimkcnemhhpaaTxts
namespace Go.Proofs.Ytedimkcnemhhpaa
open Go.RowKit Go.Shelf

structure Hk where
  at_ : Int
  lines : List ByteArray
def HkVal (W : World) (v : Value) (h : Hk) : Prop := ∃ la cap, v = .agg #[.int .i64 h.at_, .slice la h.lines.length cap] ∧ TxtsAt W la h.lines
/-- The two cells of a hunk. -/
def HkAt (W : World) (b o : Nat) (h : Hk) : Prop := ∃ la cap, W.cell? ⟨b, o, .none⟩ = some (.int .i64 h.at_) ∧ W.cell? ⟨b, o + 1, .none⟩ = some (.slice la h.lines.length cap) ∧ TxtsAt W la h.lines
theorem HkAt.below {W W' : World} {b o : Nat} {h : Hk} (x : HkAt W b o h) (hb : Below W.heap.size W W') (hl : b < W.heap.size) : HkAt W' b o h := by
  obtain ⟨la, cap, c0, c1, ht⟩ := x
  exact ⟨la, cap, (hb.cell (p := ⟨b, o, .none⟩) hl).trans c0, (hb.cell (p := ⟨b, o + 1, .none⟩) hl).trans c1, ht.below hb⟩
/-- A row of hunks that is read. -/
def HksAt (W : World) (a : Option Addr) (hs : List Hk) : Prop := hs = [] ∨ ∃ b o, a = some ⟨b, o, .none⟩ ∧ b < W.heap.size ∧ ∀ (i : Nat) h, hs[i]? = some h → HkAt W b (o + i * 2) h
theorem HksAt.below {W W' : World} {a : Option Addr} {hs : List Hk} (h : HksAt W a hs) (hb : Below W.heap.size W W') : HksAt W' a hs := by
  rcases h with h | ⟨b, o, rfl, hl, hc⟩
  · exact .inl h
  · exact .inr ⟨b, o, rfl, Nat.lt_of_lt_of_le hl hb.size, fun i e hi => (hc i e hi).below hb hl⟩
theorem HksAt.get {W : World} {a : Option Addr} {hs : List Hk} (h : HksAt W a hs) (hne : hs ≠ []) : ∃ b o, a = some ⟨b, o, .none⟩ ∧ b < W.heap.size ∧ ∀ (i : Nat) h, hs[i]? = some h → HkAt W b (o + i * 2) h := h.resolve_left hne
def totH (hs : List Hk) : Nat := (hs.map fun h => h.lines.length + totX h.lines).sum
theorem totH_take (hs : List Hk) (k : Nat) (h : Hk) (e : hs[k]? = some h) : totH (hs.take (k + 1)) = totH (hs.take k) + h.lines.length + totX h.lines := by
  unfold totH
  rw [List.take_add_one, e]
  simp; omega
theorem totH_mem {hs : List Hk} {h : Hk} (e : h ∈ hs) : h.lines.length + totX h.lines ≤ totH hs := by
  unfold totH
  induction hs with
  | nil => cases e
  | cons x hs ih =>
    rcases List.mem_cons.1 e with rfl | e
    · simp
    · have := ih e; simp; omega
def bigH (hs : List Hk) : Prop := ∀ h ∈ hs, bigX h.lines ∧ h.lines.length ≤ maxLen

set_option maxRecDepth 100000 in
set_option maxHeartbeats 1000000 in
theorem szHunk_any (h : Hk) (la : Option Addr) (cap : Nat) (left : Int) (w : World) (hz : bigX h.lines) (hlen : h.lines.length ≤ maxLen) (hl : 0 ≤ left) (hl2 : left ≤ 1048576) (ht : TxtsAt w la h.lines) :
    Calls Try.prog 44 #[.agg #[.int .i64 h.at_, .slice la h.lines.length cap], .int .i64 left] w fun x w' => (∃ r : Int, x = .returned (.int .i64 r) ∧ r ≤ left ∧ (r < 0 ∨ r + h.lines.length + totX h.lines = left)) ∧ Below w.heap.size w w' := by
  have hB : ∀ o, Below w.heap.size w (w.alloc o) := fun o => (Below.refl _ w).alloc (Nat.le_refl _) o
  have HB := hid hB
  have HT := hid ht
  clear hB ht
  go_enter Try.func44, Try.ntmps44
  go_wp2_with fail
  refine (szStringS_any h.lines la cap left _ hz hlen hl hl2 ((unhid HT).below (unhid HB _))).mono ?_
  rintro x w2 ⟨⟨r, rfl, hr1, hr2⟩, hw⟩
  subst hw
  have HR := hid hr2
  clear hr2
  by_cases hr0 : r < 0
  · go_wp2_with fail
    go_ret
    exact ⟨⟨-1, rfl, by omega, .inl (by omega)⟩, unhid HB _⟩
  · go_wp2_with fail
    go_ret
    exact ⟨⟨r, rfl, hr1, unhid HR⟩, unhid HB _⟩

set_option maxRecDepth 100000 in
set_option maxHeartbeats 2000000 in
theorem szHunkS_any (hs : List Hk) (a : Option Addr) (cap : Nat) (left : Int) (w : World) (hz : bigH hs) (hlen : hs.length ≤ maxLen) (hl : 0 ≤ left) (hl2 : left ≤ 1048576) (h : HksAt w a hs) :
    Calls Try.prog 15 #[.slice a hs.length cap, .int .i64 left] w fun x w' => (∃ r : Int, x = .returned (.int .i64 r) ∧ r ≤ left ∧ (r < 0 ∨ r + hs.length + totH hs = left)) ∧ Below w.heap.size w w' := by
  unfold maxLen at hlen
  by_cases h0 : left - (hs.length : Int) < 0
  · go_enter Try.func15, Try.ntmps15
    go_wp2_with fail
    go_ret
    exact ⟨⟨-1, rfl, by omega, .inl (by omega)⟩, Below.refl _ _⟩
  · go_enter Try.func15, Try.ntmps15
    go_wp2_with fail
    go_loopw [1, 5] (fun l i wr => ∃ (k : Nat) (q : Int), k ≤ hs.length ∧ i = .int .i64 k ∧ l = .int .i64 q ∧ 0 ≤ q ∧ q + hs.length + totH (hs.take k) = left ∧ Below w.heap.size w wr) (fun _ i _ => hs.length - (intOf i).toNat)
    case atStart => exact ⟨0, _, Nat.zero_le _, rfl, rfl, by omega, by simp [totH], Below.refl _ _⟩
    case round =>
      obtain ⟨k, q, hk, rfl, rfl, hq, hsum, hB⟩ := hrel
      by_cases hlt : k < hs.length
      · obtain ⟨e, he⟩ : ∃ e, hs[k]? = some e := ⟨hs[k], List.getElem?_eq_getElem hlt⟩
        obtain ⟨b, o, rfl, hbl, hc⟩ := h.get (by intro e; subst e; simp at hlt)
        obtain ⟨la, lc, c0, c1, ht⟩ := ((hc k e he).below hB hbl)
        obtain ⟨z1, z2⟩ := hz e (List.mem_of_getElem? he)
        have HS := hid (totH_take hs k e he)
        have HE := hid (And.intro hz hc)
        have HB := hid hB
        have HT := hid ht
        have Z1 := hid z1
        have Z2 := hid z2
        clear hz hc hB he ht z1 z2
        go_wp2_with fail
        refine (szHunk_any e la lc q _ (unhid Z1) (unhid Z2) hq (by omega) (unhid HT)).mono ?_
        rintro x w2 ⟨⟨r, rfl, hr1, hr2⟩, hb⟩
        have HB2 := hid ((unhid HB).trans (hb.mono (unhid HB).size))
        clear hb c0 c1
        by_cases hr0 : r < 0
        · go_wp2_with fail
          go_ret
          exact ⟨⟨-1, rfl, by omega, .inl (by omega)⟩, unhid HB2⟩
        · have HR3 := hid (hr2.resolve_left hr0)
          clear hr2
          go_wp2_with fail
          go_roundw
          case rel => exact ⟨k + 1, r, by omega, by go_num, rfl, by omega, by have := unhid HR3; rw [unhid HS]; omega, unhid HB2⟩
          case measure => simp [intOf]; omega
      · have e : k = hs.length := by omega
        subst e
        rw [List.take_of_length_le (Nat.le_refl _)] at hsum
        go_wp2_with fail
        go_ret
        exact ⟨⟨q, rfl, by omega, .inr hsum⟩, hB⟩

/-- Two cells at the head of a block. -/
def TwoAt (W : World) (b : Nat) (x : Int) (v : Value) : Prop := (W.cell? ⟨b, 0, .none⟩ = some (.int .i64 x) ∧ W.frozen? ⟨b, 0, .none⟩ = false) ∧ W.cell? ⟨b, 1, .none⟩ = some v ∧ W.frozen? ⟨b, 1, .none⟩ = false
theorem twoAt_new (W : World) (x : Int) (v : Value) (t : TypeId) : TwoAt (W.alloc (.cells #[.int .i64 x, v] t)) W.heap.size x v := by
  refine ⟨⟨?_, ?_⟩, ?_, ?_⟩ <;> simp [go_sem]
theorem TwoAt.below {W W' : World} {b B : Nat} {x : Int} {v : Value} (h : TwoAt W b x v) (hb : Below B W W') (hB : b < B) : TwoAt W' b x v :=
  ⟨⟨(hb.cell (p := ⟨b, 0, .none⟩) hB).trans h.1.1, (hb.frozen (p := ⟨b, 0, .none⟩) hB).trans h.1.2⟩, (hb.cell (p := ⟨b, 1, .none⟩) hB).trans h.2.1, (hb.frozen (p := ⟨b, 1, .none⟩) hB).trans h.2.2⟩
theorem TwoAt.set0 {W : World} {b : Nat} {x : Int} {v : Value} (h : TwoAt W b x v) (y : Int) : TwoAt (W.setCell ⟨b, 0, .none⟩ (.int .i64 y)) b y v := by
  obtain ⟨⟨c0, f0⟩, c1, f1⟩ := h
  refine ⟨⟨?_, ?_⟩, ?_, ?_⟩ <;> simp [go_sem, World.cell?_setCell_same', c0, c1, f0, f1]
theorem TwoAt.far {W : World} {b : Nat} {x : Int} {v : Value} (h : TwoAt W b x v) {q : Addr} (hq : b ≠ q.block) (y : Value) : TwoAt (W.setCell q y) b x v := by
  have hb := Below.heap_setCell W q y b hq
  exact ⟨⟨(World.cell?_of_block (w := W) hb).trans h.1.1, (World.frozen?_of_block (w := W) hb).trans h.1.2⟩, (World.cell?_of_block (w := W) hb).trans h.2.1, (World.frozen?_of_block (w := W) hb).trans h.2.2⟩
end Go.Proofs.Ytedimkcnemhhpaa
