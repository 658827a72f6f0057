/- Entries of trees as the program keeps them in rows; the laws' own copies of them, their sizes, whether two rows are the same. -/
import Derived.Test.YtlnehebihfeegaaLastIx
import Derived.Deep.OwnRows
import Derived.Maps.OwnIn
import Derived.Deep.RegionWith
namespace Go.Proofs.Ytlnehebihfeegaa
open Go.RowKit Go.Shelf

structure Ent where
  path : ByteArray
  kind : Int
  mode : Int
  text : ByteArray
def Ent.vals (e : Ent) : Array Value := #[.string e.path, .int .i64 e.kind, .int .i64 e.mode, .string e.text]
def Ent.none : Ent := ⟨⟨#[]⟩, 0, 0, ⟨#[]⟩⟩

/-- The four cells of an entry. -/
structure EntAt (W : World) (b o : Nat) (e : Ent) : Prop where
  c0 : W.cell? ⟨b, o, .none⟩ = some (.string e.path)
  c1 : W.cell? ⟨b, o + 1, .none⟩ = some (.int .i64 e.kind)
  c2 : W.cell? ⟨b, o + 2, .none⟩ = some (.int .i64 e.mode)
  c3 : W.cell? ⟨b, o + 3, .none⟩ = some (.string e.text)

set_option maxRecDepth 100000 in
set_option maxHeartbeats 1000000 in
theorem szEntry_any (e : Ent) (left : Int) (w : World) (hp : e.path.size ≤ maxLen) (ht : e.text.size ≤ maxLen) (hl : 0 ≤ left) (hl2 : left ≤ 1048576) :
    Calls Try.prog 29 #[.agg e.vals, .int .i64 left] w fun x w' => (∃ r : Int, x = .returned (.int .i64 r) ∧ r ≤ left ∧ (r < 0 ∨ r = left - e.path.size - e.text.size)) ∧ Below w.heap.size w w' := by
  unfold maxLen at hp ht
  obtain ⟨p, k, m, t⟩ := e
  unfold Ent.vals
  dsimp only at hp ht ⊢
  have hB : ∀ o, Below w.heap.size w (w.alloc o) := fun o => (Below.refl _ w).alloc (Nat.le_refl _) o
  have HB := hid hB
  clear hB
  by_cases h1 : left - (p.size : Int) < 0
  · go_enter Try.func29, Try.ntmps29
    go_wp2_with fail
    go_ret
    exact ⟨⟨-1, rfl, by omega, .inl (by omega)⟩, unhid HB _⟩
  · by_cases h2 : left - (p.size : Int) - (t.size : Int) < 0
    · go_enter Try.func29, Try.ntmps29
      go_wp2_with fail
      go_ret
      exact ⟨⟨-1, rfl, by omega, .inl (by omega)⟩, unhid HB _⟩
    · go_enter Try.func29, Try.ntmps29
      go_wp2_with fail
      go_ret
      exact ⟨⟨_, rfl, by omega, .inr rfl⟩, unhid HB _⟩

set_option maxRecDepth 100000 in
set_option maxHeartbeats 1000000 in
theorem toEntry_any (e : Ent) (w : World) :
    Calls Try.prog 31 #[.agg e.vals] w fun x w' => x = .returned (.agg e.vals) ∧ Below w.heap.size w w' := by
  obtain ⟨p, k, m, t⟩ := e
  unfold Ent.vals
  dsimp only
  have hB : ∀ o o' o'', Below w.heap.size w (((w.alloc o).alloc o').alloc o'') := fun o o' o'' => (((Below.refl _ w).alloc (Nat.le_refl _) o).alloc (by simp) o').alloc (by simp; omega) o''
  have HB := hid hB
  clear hB
  go_enter Try.func31, Try.ntmps31
  go_wp2_with fail
  refine bodyPost_ret (v := .agg #[.string p, .int .i64 k, .int .i64 m, .string t]) (by simp [results, Try.results31, go_sem]) rfl ⟨rfl, ?_⟩
  exact unhid HB _ _ _

theorem EntAt.below {W W' : World} {B b o : Nat} {e : Ent} (h : EntAt W b o e) (hb : Below B W W') (hl : b < B) : EntAt W' b o e :=
  ⟨(hb.cell (p := ⟨b, o, .none⟩) hl).trans h.c0, (hb.cell (p := ⟨b, o + 1, .none⟩) hl).trans h.c1, (hb.cell (p := ⟨b, o + 2, .none⟩) hl).trans h.c2, (hb.cell (p := ⟨b, o + 3, .none⟩) hl).trans h.c3⟩
/-- A row of entries that is read. -/
def EntsAt (W : World) (a : Option Addr) (es : List Ent) : Prop := es = [] ∨ ∃ b o, a = some ⟨b, o, .none⟩ ∧ b < W.heap.size ∧ ∀ (i : Nat) e, es[i]? = some e → EntAt W b (o + i * 4) e
theorem EntsAt.below {W W' : World} {a : Option Addr} {es : List Ent} (h : EntsAt W a es) (hb : Below W.heap.size W W') : EntsAt W' a es := by
  rcases h with h | ⟨b, o, rfl, hl, hc⟩
  · exact .inl h
  · exact .inr ⟨b, o, rfl, Nat.lt_of_lt_of_le hl hb.size, fun i e hi => (hc i e hi).below hb hl⟩
theorem EntsAt.get {W : World} {a : Option Addr} {es : List Ent} (h : EntsAt W a es) (hne : es ≠ []) : ∃ b o, a = some ⟨b, o, .none⟩ ∧ b < W.heap.size ∧ ∀ (i : Nat) e, es[i]? = some e → EntAt W b (o + i * 4) e := h.resolve_left hne
def totE (es : List Ent) : Nat := (es.map fun e => e.path.size + e.text.size).sum
theorem totE_take (es : List Ent) (k : Nat) (e : Ent) (h : es[k]? = some e) : totE (es.take (k + 1)) = totE (es.take k) + e.path.size + e.text.size := by
  unfold totE
  rw [List.take_add_one, h]
  simp; omega
theorem totE_mem {es : List Ent} {e : Ent} (h : e ∈ es) : e.path.size + e.text.size ≤ totE es := by
  unfold totE
  induction es with
  | nil => cases h
  | cons x es ih =>
    rcases List.mem_cons.1 h with rfl | h
    · simp
    · have := ih h; simp; omega
def bigE (es : List Ent) : Prop := ∀ e ∈ es, e.path.size ≤ maxLen ∧ e.text.size ≤ maxLen

set_option maxRecDepth 100000 in
set_option maxHeartbeats 2000000 in
theorem szEntryS_any (es : List Ent) (a : Option Addr) (cap : Nat) (left : Int) (w : World) (hz : bigE es) (hlen : es.length ≤ maxLen) (hl : 0 ≤ left) (hl2 : left ≤ 1048576) (h : EntsAt w a es) :
    Calls Try.prog 22 #[.slice a es.length cap, .int .i64 left] w fun x w' => (∃ r : Int, x = .returned (.int .i64 r) ∧ r ≤ left ∧ (r < 0 ∨ r + es.length + totE es = left)) ∧ Below w.heap.size w w' := by
  unfold maxLen at hlen
  by_cases h0 : left - (es.length : Int) < 0
  · go_enter Try.func22, Try.ntmps22
    go_wp2_with fail
    go_ret
    exact ⟨⟨-1, rfl, by omega, .inl (by omega)⟩, Below.refl _ _⟩
  · go_enter Try.func22, Try.ntmps22
    go_wp2_with fail
    go_loopw [1, 5] (fun l i wr => ∃ (k : Nat) (q : Int), k ≤ es.length ∧ i = .int .i64 k ∧ l = .int .i64 q ∧ 0 ≤ q ∧ q + es.length + totE (es.take k) = left ∧ Below w.heap.size w wr) (fun _ i _ => es.length - (intOf i).toNat)
    case atStart => exact ⟨0, _, Nat.zero_le _, rfl, rfl, by omega, by simp [totE], Below.refl _ _⟩
    case round =>
      obtain ⟨k, q, hk, rfl, rfl, hq, hs, hB⟩ := hrel
      by_cases hlt : k < es.length
      · obtain ⟨e, he⟩ : ∃ e, es[k]? = some e := ⟨es[k], List.getElem?_eq_getElem hlt⟩
        obtain ⟨b, o, rfl, hbl, hc⟩ := h.get (by intro e; subst e; simp at hlt)
        obtain ⟨c0, c1, c2, c3⟩ := ((hc k e he).below hB hbl)
        obtain ⟨z1, z2⟩ := hz e (List.mem_of_getElem? he)
        have HS := hid (totE_take es k e he)
        have HE := hid (And.intro hz hc)
        have HB := hid hB
        clear hz hc hB he
        go_wp2_with fail
        refine (szEntry_any e q _ z1 z2 hq (by omega)).mono ?_
        rintro x w2 ⟨⟨r, rfl, hr1, hr2⟩, hb⟩
        have HB2 := hid ((unhid HB).trans (hb.mono (unhid HB).size))
        clear hb c0 c1 c2 c3
        by_cases hr0 : r < 0
        · go_wp2_with fail
          go_ret
          exact ⟨⟨-1, rfl, by omega, .inl (by omega)⟩, unhid HB2⟩
        · have HR3 := hid (hr2.resolve_left hr0)
          clear hr2
          go_wp2_with fail
          go_roundw
          case rel => exact ⟨k + 1, r, by omega, by go_num, rfl, by omega, by have := unhid HR3; rw [unhid HS]; omega, unhid HB2⟩
          case measure => simp [intOf]; omega
      · have e : k = es.length := by omega
        subst e
        rw [List.take_of_length_le (Nat.le_refl _)] at hs
        go_wp2_with fail
        go_ret
        exact ⟨⟨q, rfl, by omega, .inr hs⟩, hB⟩

/-- A block that is a row of n entries. -/
def EntRow (W : World) (g T n : Nat) (f : Nat → Ent) : Prop := ∃ cur : Array Value, W.heap[g]? = some (.cells cur T (0, 0)) ∧ cur.size = n * 4 ∧ ∀ i, i < n → cur[i * 4]? = some (.string (f i).path) ∧ cur[i * 4 + 1]? = some (.int .i64 (f i).kind) ∧ cur[i * 4 + 2]? = some (.int .i64 (f i).mode) ∧ cur[i * 4 + 3]? = some (.string (f i).text)
theorem EntRow.lt {W : World} {g T n : Nat} {f : Nat → Ent} (x : EntRow W g T n f) : g < W.heap.size := by
  obtain ⟨cur, h1, _⟩ := x; exact (Array.getElem?_eq_some_iff.1 h1).1
theorem EntRow.block {W W' : World} {g T n : Nat} {f : Nat → Ent} (x : EntRow W g T n f) (e : W'.heap[g]? = W.heap[g]?) : EntRow W' g T n f := by
  obtain ⟨cur, h1, h2, h3⟩ := x; exact ⟨cur, e.trans h1, h2, h3⟩
theorem EntRow.below {W W' : World} {B g T n : Nat} {f : Nat → Ent} (x : EntRow W g T n f) (hb : Below B W W') (hg : g < B) : EntRow W' g T n f := x.block (hb.block g hg)
theorem EntRow.congr {W : World} {g T n : Nat} {f f' : Nat → Ent} (x : EntRow W g T n f) (e : ∀ j, j < n → f j = f' j) : EntRow W g T n f' := by
  obtain ⟨cur, h1, h2, h3⟩ := x; exact ⟨cur, h1, h2, fun j hj => by rw [← e j hj]; exact h3 j hj⟩
theorem EntRow.cells {W : World} {g T n : Nat} {f : Nat → Ent} (x : EntRow W g T n f) (k : Nat) (hk : k < n) : EntAt W g (k * 4) (f k) ∧ (W.frozen? ⟨g, k * 4, .none⟩ = false ∧ W.frozen? ⟨g, k * 4 + 1, .none⟩ = false ∧ W.frozen? ⟨g, k * 4 + 2, .none⟩ = false ∧ W.frozen? ⟨g, k * 4 + 3, .none⟩ = false) := by
  obtain ⟨cur, h1, h2, h3⟩ := x
  obtain ⟨a, b, c, d⟩ := h3 k hk
  exact ⟨⟨by simp [World.cell?, h1, a], by simp [World.cell?, h1, b], by simp [World.cell?, h1, c], by simp [World.cell?, h1, d]⟩, by simp [World.frozen?, h1], by simp [World.frozen?, h1], by simp [World.frozen?, h1], by simp [World.frozen?, h1]⟩
def upd {α : Type} (f : Nat → α) (k : Nat) (e : α) : Nat → α := fun j => if j = k then e else f j
theorem EntRow.set {W : World} {g T n : Nat} {f : Nat → Ent} (x : EntRow W g T n f) (k : Nat) (hk : k < n) (e : Ent) :
    EntRow ((((W.setCell ⟨g, k * 4, .none⟩ (.string e.path)).setCell ⟨g, k * 4 + 1, .none⟩ (.int .i64 e.kind)).setCell ⟨g, k * 4 + 2, .none⟩ (.int .i64 e.mode)).setCell ⟨g, k * 4 + 3, .none⟩ (.string e.text)) g T n (upd f k e) := by
  obtain ⟨cur, h1, h2, h3⟩ := x
  refine ⟨(((cur.setIfInBounds (k * 4) (.string e.path)).setIfInBounds (k * 4 + 1) (.int .i64 e.kind)).setIfInBounds (k * 4 + 2) (.int .i64 e.mode)).setIfInBounds (k * 4 + 3) (.string e.text), ?_, by simpa using h2, fun i hi => ?_⟩
  · exact heap_setCell_same _ g _ _ T _ (heap_setCell_same _ g _ _ T _ (heap_setCell_same _ g _ _ T _ (heap_setCell_same _ g _ _ T _ h1)))
  · unfold upd
    simp only [Array.getElem?_setIfInBounds, Array.size_setIfInBounds]
    by_cases e1 : i = k
    · subst e1
      have eu : (if i = i then e else f i) = e := if_pos rfl
      rw [eu]
      refine ⟨?_, ?_, ?_, ?_⟩
      · rw [if_neg (by omega), if_neg (by omega), if_neg (by omega), if_pos rfl, if_pos (by omega)]
      · rw [if_neg (by omega), if_neg (by omega), if_pos rfl, if_pos (by omega)]
      · rw [if_neg (by omega), if_pos rfl, if_pos (by omega)]
      · rw [if_pos rfl, if_pos (by omega)]
    · rw [if_neg e1]
      obtain ⟨a, b, c, d⟩ := h3 i hi
      refine ⟨?_, ?_, ?_, ?_⟩
      · rw [if_neg (by omega), if_neg (by omega), if_neg (by omega), if_neg (by omega)]; exact a
      · rw [if_neg (by omega), if_neg (by omega), if_neg (by omega), if_neg (by omega)]; exact b
      · rw [if_neg (by omega), if_neg (by omega), if_neg (by omega), if_neg (by omega)]; exact c
      · rw [if_neg (by omega), if_neg (by omega), if_neg (by omega), if_neg (by omega)]; exact d
def entFn (es : List Ent) (i : Nat) : Ent := es.getD i Ent.none
theorem entFn_get {es : List Ent} {i : Nat} {e : Ent} (h : es[i]? = some e) : entFn es i = e := by unfold entFn; rw [List.getD_eq_getElem?_getD, h]; rfl
/-- Entries that a row owns, all of it. -/
theorem EntRow.at {W : World} {g T n : Nat} {es : List Ent} (x : EntRow W g T n (entFn es)) (hn : es.length ≤ n) : EntsAt W (some ⟨g, 0, .none⟩) es :=
  .inr ⟨g, 0, rfl, x.lt, fun i e hi => by
    have hl : i < es.length := (List.getElem?_eq_some_iff.1 hi).1
    have := (x.cells i (by omega)).1
    rw [entFn_get hi] at this
    rwa [Nat.zero_add]⟩
theorem infoEnt : (Try.prog.info? 27).map (fun i => (i.zero, i.size, i.bytes)) = some (some (.agg #[.string ⟨#[]⟩, .int .i64 0, .int .i64 0, .string ⟨#[]⟩]), 4, 48) := by kernel_rfl
theorem mkEnts (W : World) (n : Nat) (hn : n ≤ 1048576) : ∃ M : Array Value, (Instr.makeSlice 23 (.int .i64 (n : Int)) (.int .i64 (n : Int))).run Try.prog W = .ok (.slice (some ⟨W.heap.size, 0, .none⟩) n n) (W.alloc (.cells M 27)) ∧ EntRow (W.alloc (.cells M 27)) W.heap.size 27 n (fun _ => Ent.none) := by
  obtain ⟨i, hi, hz0, hz1, hz2⟩ := info_parts infoEnt
  refine ⟨madeCells #[.string ⟨#[]⟩, .int .i64 0, .int .i64 0, .string ⟨#[]⟩] (n * 4), ?_, _, World.alloc_heap_new W _, by simp [madeCells], fun j hj => ?_⟩
  · have := run_make (P := Try.prog) W 23 27 i _ Try.underlying23 hi hz0 .i64 .i64 n n (by omega) (Int.le_refl _) (by rw [hz2]; omega) (by omega)
    simpa [hz1, Value.cells] using this
  · unfold madeCells
    simp only [Array.getElem?_map, Array.getElem?_range]
    have e0 : j * 4 % 4 = 0 := by omega
    have e1 : (j * 4 + 1) % 4 = 1 := by omega
    have e2 : (j * 4 + 2) % 4 = 2 := by omega
    have e3 : (j * 4 + 3) % 4 = 3 := by omega
    rw [if_pos (by omega), if_pos (by omega), if_pos (by omega), if_pos (by omega)]
    simp [e0, e1, e2, e3, Ent.none]

theorem gb_refl (w : World) (r : Option Nat) : w.grownBy w r := ⟨rfl, rfl, rfl, Nat.le_refl _, fun _ _ _ => rfl⟩
set_option maxRecDepth 100000 in
set_option maxHeartbeats 2000000 in
theorem toEntryS_any (es : List Ent) (a : Option Addr) (cap : Nat) (w : World) (hlen : es.length ≤ 1048576) (h : EntsAt w a es) :
    Calls Try.prog 23 #[.slice a es.length cap] w fun x w' => ∃ g, x = .returned (.slice (some ⟨g, 0, .none⟩) es.length es.length) ∧ w.heap.size ≤ g ∧ EntRow w' g 27 es.length (entFn es) ∧ Below w.heap.size w w' := by
  obtain ⟨M, hmk, hrow⟩ := mkEnts w es.length hlen
  have HR := hid hrow
  clear hrow
  go_enter Try.func23, Try.ntmps23
  go_wp2_with fail
  clear hmk
  have hB0 : Below w.heap.size w (w.alloc (.cells M 27)) := (Below.refl _ _).alloc (Nat.le_refl _) _
  generalize w.alloc (.cells M 27) = wq at HR hB0 ⊢
  go_loopw [4] (fun i wr => ∃ k : Nat, k ≤ es.length ∧ i = .int .i64 k ∧ EntRow wr w.heap.size 27 es.length (fun j => if j < k then entFn es j else Ent.none) ∧ Below w.heap.size w wr) (fun i _ => es.length - (intOf i).toNat)
  case atStart => exact ⟨0, Nat.zero_le _, rfl, (unhid HR).congr (fun j _ => by simp), hB0⟩
  case round =>
    clear HR hB0
    obtain ⟨k, hk, rfl, hR, hB⟩ := hrel
    by_cases hlt : k < es.length
    · obtain ⟨e, he⟩ : ∃ e, es[k]? = some e := ⟨es[k], List.getElem?_eq_getElem hlt⟩
      obtain ⟨b, o, rfl, hbl, hc⟩ := h.get (by intro e; subst e; simp at hlt)
      obtain ⟨c0, c1, c2, c3⟩ := ((hc k e he).below hB hbl)
      have HS := hid (show entFn es k = e from entFn_get he)
      have HB := hid hB
      have HR := hid hR
      have HH := hid hc
      clear hc hB he hR h
      go_wp2_with fail
      refine (toEntry_any e _).mono ?_
      rintro x w2 ⟨rfl, hb⟩
      have hgl := (unhid HR).lt
      have hR2 := (unhid HR).below hb hgl
      obtain ⟨⟨d0, d1, d2, d3⟩, f0, f1, f2, f3⟩ := hR2.cells k hlt
      have HR2 := hid hR2
      have HB2 := hid ((unhid HB).trans (hb.mono (unhid HB).size))
      clear hb c0 c1 c2 c3 hR2 HR
      unfold Ent.vals
      go_wp2_with fail
      go_roundw
      case rel =>
        refine ⟨k + 1, by omega, by go_num, ((unhid HR2).set k hlt e).congr (fun j hj => ?_), ((((unhid HB2).setCell (Nat.le_refl _) _).setCell (Nat.le_refl _) _).setCell (Nat.le_refl _) _).setCell (Nat.le_refl _) _⟩
        unfold upd
        by_cases ej : j = k
        · rw [if_pos ej, if_pos (by omega), ej, unhid HS]
        · rw [if_neg ej]
          show (if j < k then entFn es j else Ent.none) = _
          by_cases hj2 : j < k
          · rw [if_pos hj2, if_pos (by omega)]
          · rw [if_neg hj2, if_neg (by omega)]
      case measure => simp [intOf]; omega
    · have e : k = es.length := by omega
      subst e
      go_wp2_with fail
      go_ret
      exact ⟨w.heap.size, rfl, Nat.le_refl _, hR.congr (fun j hj => by rw [if_pos hj]), hB⟩

def eqE (x y : Ent) : Bool := (x.path.toList == y.path.toList) && (x.kind == y.kind) && (x.mode == y.mode) && (x.text.toList == y.text.toList)
set_option maxRecDepth 100000 in
set_option maxHeartbeats 2000000 in
theorem eqEntry_any (x y : Ent) (w : World) :
    Calls Try.prog 28 #[.agg x.vals, .agg y.vals] w fun r w' => r = .returned (.bool (eqE x y)) ∧ Below w.heap.size w w' := by
  obtain ⟨p, k, m, t⟩ := x
  obtain ⟨p2, k2, m2, t2⟩ := y
  unfold Ent.vals
  have hE : eqE ⟨p, k, m, t⟩ ⟨p2, k2, m2, t2⟩ = ((p.toList == p2.toList) && (k == k2) && (m == m2) && (t.toList == t2.toList)) := rfl
  have E := hid hE
  clear hE
  dsimp only
  have hB : ∀ o o', Below w.heap.size w ((w.alloc o).alloc o') := fun o o' => ((Below.refl _ w).alloc (Nat.le_refl _) o).alloc (by simp) o'
  have HB := hid hB
  clear hB
  cases h1 : (p.toList == p2.toList)
  · go_enter Try.func28, Try.ntmps28
    go_wp2_with fail
    go_ret
    exact ⟨by rw [unhid E, h1]; rfl, unhid HB _ _⟩
  · cases h2 : (k == k2)
    · go_enter Try.func28, Try.ntmps28
      go_wp2_with fail
      go_ret
      exact ⟨by rw [unhid E, h1, h2]; rfl, unhid HB _ _⟩
    · cases h3 : (m == m2)
      · go_enter Try.func28, Try.ntmps28
        go_wp2_with fail
        go_ret
        exact ⟨by rw [unhid E, h1, h2, h3]; rfl, unhid HB _ _⟩
      · cases h4 : (t.toList == t2.toList)
        all_goals
          go_enter Try.func28, Try.ntmps28
          go_wp2_with fail
          go_ret
          exact ⟨by rw [unhid E, h1, h2, h3, h4]; rfl, unhid HB _ _⟩
theorem eqE_self (x : Ent) : eqE x x = true := by unfold eqE; simp
theorem eqE_iff (x y : Ent) : eqE x y = true ↔ x = y := by
  unfold eqE
  simp only [Bool.and_eq_true, beq_iff_eq]
  constructor
  · rintro ⟨⟨⟨a, b⟩, c⟩, d⟩
    obtain ⟨p, k, m, t⟩ := x
    obtain ⟨p2, k2, m2, t2⟩ := y
    dsimp only at a b c d
    rw [Lib.toList_data, Lib.toList_data] at a d
    rw [ba_ext a, b, c, ba_ext d]
  · rintro rfl; exact ⟨⟨⟨rfl, rfl⟩, rfl⟩, rfl⟩

end Go.Proofs.Ytlnehebihfeegaa
