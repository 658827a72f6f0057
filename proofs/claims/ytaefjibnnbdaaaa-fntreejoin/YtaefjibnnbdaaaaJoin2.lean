/- Texts of this proof, one behind the other; each says at its head what it shows. -/
import Derived.Test.YtaefjibnnbdaaaaJoin1
import Derived.Deep.OwnRows
import Derived.Maps.OwnIn
import Derived.Deep.RegionWith
import Derived.Laws.Cover1
import Derived.Test.YtaefjibnnbdaaaaProg
import Derived.WalkKit
import Derived.Deep.QuietTactic
import Derived.BigQuiet
import Derived.Maps.AppendAt
/- Entries of trees as the program keeps them in rows; the laws' own copies of them, their sizes, whether two rows are the same. -/
namespace Go.Proofs.Ytaefjibnnbdaaaa
open Go.RowKit Go.Shelf

structure Ent where
  path : ByteArray
  kind : Int
  mode : Int
  text : ByteArray
def Ent.vals (e : Ent) : Array Value := #[.string e.path, .int .i64 e.kind, .int .i64 e.mode, .string e.text]
def Ent.none : Ent := ⟨⟨#[]⟩, 0, 0, ⟨#[]⟩⟩

/-- The four cells of an entry. -/
structure EntAt (W : World) (b o : Nat) (e : Ent) : Prop where
  c0 : W.cell? ⟨b, o, .none⟩ = some (.string e.path)
  c1 : W.cell? ⟨b, o + 1, .none⟩ = some (.int .i64 e.kind)
  c2 : W.cell? ⟨b, o + 2, .none⟩ = some (.int .i64 e.mode)
  c3 : W.cell? ⟨b, o + 3, .none⟩ = some (.string e.text)

set_option maxRecDepth 100000 in
set_option maxHeartbeats 1000000 in
theorem szEntry_any (e : Ent) (left : Int) (w : World) (hp : e.path.size ≤ maxLen) (ht : e.text.size ≤ maxLen) (hl : 0 ≤ left) (hl2 : left ≤ 1048576) :
    Calls Try.prog 74 #[.agg e.vals, .int .i64 left] w fun x w' => (∃ r : Int, x = .returned (.int .i64 r) ∧ r ≤ left ∧ (r < 0 ∨ r = left - e.path.size - e.text.size)) ∧ Below w.heap.size w w' := by
  unfold maxLen at hp ht
  obtain ⟨p, k, m, t⟩ := e
  unfold Ent.vals
  dsimp only at hp ht ⊢
  have hB : ∀ o, Below w.heap.size w (w.alloc o) := fun o => (Below.refl _ w).alloc (Nat.le_refl _) o
  have HB := hid hB
  clear hB
  by_cases h1 : left - (p.size : Int) < 0
  · go_enter Try.func74, Try.ntmps74
    go_wp2_with fail
    go_ret
    exact ⟨⟨-1, rfl, by omega, .inl (by omega)⟩, unhid HB _⟩
  · by_cases h2 : left - (p.size : Int) - (t.size : Int) < 0
    · go_enter Try.func74, Try.ntmps74
      go_wp2_with fail
      go_ret
      exact ⟨⟨-1, rfl, by omega, .inl (by omega)⟩, unhid HB _⟩
    · go_enter Try.func74, Try.ntmps74
      go_wp2_with fail
      go_ret
      exact ⟨⟨_, rfl, by omega, .inr rfl⟩, unhid HB _⟩

set_option maxRecDepth 100000 in
set_option maxHeartbeats 1000000 in
theorem toEntry_any (e : Ent) (w : World) :
    Calls Try.prog 77 #[.agg e.vals] w fun x w' => x = .returned (.agg e.vals) ∧ Below w.heap.size w w' := by
  obtain ⟨p, k, m, t⟩ := e
  unfold Ent.vals
  dsimp only
  have hB : ∀ o o' o'', Below w.heap.size w (((w.alloc o).alloc o').alloc o'') := fun o o' o'' => (((Below.refl _ w).alloc (Nat.le_refl _) o).alloc (by simp) o').alloc (by simp; omega) o''
  have HB := hid hB
  clear hB
  go_enter Try.func77, Try.ntmps77
  go_wp2_with fail
  refine bodyPost_ret (v := .agg #[.string p, .int .i64 k, .int .i64 m, .string t]) (by simp [results, Try.results77, go_sem]) rfl ⟨rfl, ?_⟩
  exact unhid HB _ _ _

theorem EntAt.below {W W' : World} {B b o : Nat} {e : Ent} (h : EntAt W b o e) (hb : Below B W W') (hl : b < B) : EntAt W' b o e :=
  ⟨(hb.cell (p := ⟨b, o, .none⟩) hl).trans h.c0, (hb.cell (p := ⟨b, o + 1, .none⟩) hl).trans h.c1, (hb.cell (p := ⟨b, o + 2, .none⟩) hl).trans h.c2, (hb.cell (p := ⟨b, o + 3, .none⟩) hl).trans h.c3⟩
/-- A row of entries that is read. -/
def EntsAt (W : World) (a : Option Addr) (es : List Ent) : Prop := es = [] ∨ ∃ b o, a = some ⟨b, o, .none⟩ ∧ b < W.heap.size ∧ ∀ (i : Nat) e, es[i]? = some e → EntAt W b (o + i * 4) e
theorem EntsAt.below {W W' : World} {a : Option Addr} {es : List Ent} (h : EntsAt W a es) (hb : Below W.heap.size W W') : EntsAt W' a es := by
  rcases h with h | ⟨b, o, rfl, hl, hc⟩
  · exact .inl h
  · exact .inr ⟨b, o, rfl, Nat.lt_of_lt_of_le hl hb.size, fun i e hi => (hc i e hi).below hb hl⟩
theorem EntsAt.get {W : World} {a : Option Addr} {es : List Ent} (h : EntsAt W a es) (hne : es ≠ []) : ∃ b o, a = some ⟨b, o, .none⟩ ∧ b < W.heap.size ∧ ∀ (i : Nat) e, es[i]? = some e → EntAt W b (o + i * 4) e := h.resolve_left hne
def totE (es : List Ent) : Nat := (es.map fun e => e.path.size + e.text.size).sum
theorem totE_take (es : List Ent) (k : Nat) (e : Ent) (h : es[k]? = some e) : totE (es.take (k + 1)) = totE (es.take k) + e.path.size + e.text.size := by
  unfold totE
  rw [List.take_add_one, h]
  simp; omega
theorem totE_mem {es : List Ent} {e : Ent} (h : e ∈ es) : e.path.size + e.text.size ≤ totE es := by
  unfold totE
  induction es with
  | nil => cases h
  | cons x es ih =>
    rcases List.mem_cons.1 h with rfl | h
    · simp
    · have := ih h; simp; omega
def bigE (es : List Ent) : Prop := ∀ e ∈ es, e.path.size ≤ maxLen ∧ e.text.size ≤ maxLen

set_option maxRecDepth 100000 in
set_option maxHeartbeats 2000000 in
theorem szEntryS_any (es : List Ent) (a : Option Addr) (cap : Nat) (left : Int) (w : World) (hz : bigE es) (hlen : es.length ≤ maxLen) (hl : 0 ≤ left) (hl2 : left ≤ 1048576) (h : EntsAt w a es) :
    Calls Try.prog 36 #[.slice a es.length cap, .int .i64 left] w fun x w' => (∃ r : Int, x = .returned (.int .i64 r) ∧ r ≤ left ∧ (r < 0 ∨ r + es.length + totE es = left)) ∧ Below w.heap.size w w' := by
  unfold maxLen at hlen
  by_cases h0 : left - (es.length : Int) < 0
  · go_enter Try.func36, Try.ntmps36
    go_wp2_with fail
    go_ret
    exact ⟨⟨-1, rfl, by omega, .inl (by omega)⟩, Below.refl _ _⟩
  · go_enter Try.func36, Try.ntmps36
    go_wp2_with fail
    go_loopw [1, 5] (fun l i wr => ∃ (k : Nat) (q : Int), k ≤ es.length ∧ i = .int .i64 k ∧ l = .int .i64 q ∧ 0 ≤ q ∧ q + es.length + totE (es.take k) = left ∧ Below w.heap.size w wr) (fun _ i _ => es.length - (intOf i).toNat)
    case atStart => exact ⟨0, _, Nat.zero_le _, rfl, rfl, by omega, by simp [totE], Below.refl _ _⟩
    case round =>
      obtain ⟨k, q, hk, rfl, rfl, hq, hs, hB⟩ := hrel
      by_cases hlt : k < es.length
      · obtain ⟨e, he⟩ : ∃ e, es[k]? = some e := ⟨es[k], List.getElem?_eq_getElem hlt⟩
        obtain ⟨b, o, rfl, hbl, hc⟩ := h.get (by intro e; subst e; simp at hlt)
        obtain ⟨c0, c1, c2, c3⟩ := ((hc k e he).below hB hbl)
        obtain ⟨z1, z2⟩ := hz e (List.mem_of_getElem? he)
        have HS := hid (totE_take es k e he)
        have HE := hid (And.intro hz hc)
        have HB := hid hB
        clear hz hc hB he
        go_wp2_with fail
        refine (szEntry_any e q _ z1 z2 hq (by omega)).mono ?_
        rintro x w2 ⟨⟨r, rfl, hr1, hr2⟩, hb⟩
        have HB2 := hid ((unhid HB).trans (hb.mono (unhid HB).size))
        clear hb c0 c1 c2 c3
        by_cases hr0 : r < 0
        · go_wp2_with fail
          go_ret
          exact ⟨⟨-1, rfl, by omega, .inl (by omega)⟩, unhid HB2⟩
        · have HR3 := hid (hr2.resolve_left hr0)
          clear hr2
          go_wp2_with fail
          go_roundw
          case rel => exact ⟨k + 1, r, by omega, by go_num, rfl, by omega, by have := unhid HR3; rw [unhid HS]; omega, unhid HB2⟩
          case measure => simp [intOf]; omega
      · have e : k = es.length := by omega
        subst e
        rw [List.take_of_length_le (Nat.le_refl _)] at hs
        go_wp2_with fail
        go_ret
        exact ⟨⟨q, rfl, by omega, .inr hs⟩, hB⟩

/-- A block that is a row of n entries. -/
def EntRow (W : World) (g T n : Nat) (f : Nat → Ent) : Prop := ∃ cur : Array Value, W.heap[g]? = some (.cells cur T (0, 0)) ∧ cur.size = n * 4 ∧ ∀ i, i < n → cur[i * 4]? = some (.string (f i).path) ∧ cur[i * 4 + 1]? = some (.int .i64 (f i).kind) ∧ cur[i * 4 + 2]? = some (.int .i64 (f i).mode) ∧ cur[i * 4 + 3]? = some (.string (f i).text)
theorem EntRow.lt {W : World} {g T n : Nat} {f : Nat → Ent} (x : EntRow W g T n f) : g < W.heap.size := by
  obtain ⟨cur, h1, _⟩ := x; exact (Array.getElem?_eq_some_iff.1 h1).1
theorem EntRow.block {W W' : World} {g T n : Nat} {f : Nat → Ent} (x : EntRow W g T n f) (e : W'.heap[g]? = W.heap[g]?) : EntRow W' g T n f := by
  obtain ⟨cur, h1, h2, h3⟩ := x; exact ⟨cur, e.trans h1, h2, h3⟩
theorem EntRow.below {W W' : World} {B g T n : Nat} {f : Nat → Ent} (x : EntRow W g T n f) (hb : Below B W W') (hg : g < B) : EntRow W' g T n f := x.block (hb.block g hg)
theorem EntRow.congr {W : World} {g T n : Nat} {f f' : Nat → Ent} (x : EntRow W g T n f) (e : ∀ j, j < n → f j = f' j) : EntRow W g T n f' := by
  obtain ⟨cur, h1, h2, h3⟩ := x; exact ⟨cur, h1, h2, fun j hj => by rw [← e j hj]; exact h3 j hj⟩
theorem EntRow.cells {W : World} {g T n : Nat} {f : Nat → Ent} (x : EntRow W g T n f) (k : Nat) (hk : k < n) : EntAt W g (k * 4) (f k) ∧ (W.frozen? ⟨g, k * 4, .none⟩ = false ∧ W.frozen? ⟨g, k * 4 + 1, .none⟩ = false ∧ W.frozen? ⟨g, k * 4 + 2, .none⟩ = false ∧ W.frozen? ⟨g, k * 4 + 3, .none⟩ = false) := by
  obtain ⟨cur, h1, h2, h3⟩ := x
  obtain ⟨a, b, c, d⟩ := h3 k hk
  exact ⟨⟨by simp [World.cell?, h1, a], by simp [World.cell?, h1, b], by simp [World.cell?, h1, c], by simp [World.cell?, h1, d]⟩, by simp [World.frozen?, h1], by simp [World.frozen?, h1], by simp [World.frozen?, h1], by simp [World.frozen?, h1]⟩
def upd {α : Type} (f : Nat → α) (k : Nat) (e : α) : Nat → α := fun j => if j = k then e else f j
theorem EntRow.set {W : World} {g T n : Nat} {f : Nat → Ent} (x : EntRow W g T n f) (k : Nat) (hk : k < n) (e : Ent) :
    EntRow ((((W.setCell ⟨g, k * 4, .none⟩ (.string e.path)).setCell ⟨g, k * 4 + 1, .none⟩ (.int .i64 e.kind)).setCell ⟨g, k * 4 + 2, .none⟩ (.int .i64 e.mode)).setCell ⟨g, k * 4 + 3, .none⟩ (.string e.text)) g T n (upd f k e) := by
  obtain ⟨cur, h1, h2, h3⟩ := x
  refine ⟨(((cur.setIfInBounds (k * 4) (.string e.path)).setIfInBounds (k * 4 + 1) (.int .i64 e.kind)).setIfInBounds (k * 4 + 2) (.int .i64 e.mode)).setIfInBounds (k * 4 + 3) (.string e.text), ?_, by simpa using h2, fun i hi => ?_⟩
  · exact heap_setCell_same _ g _ _ T _ (heap_setCell_same _ g _ _ T _ (heap_setCell_same _ g _ _ T _ (heap_setCell_same _ g _ _ T _ h1)))
  · unfold upd
    simp only [Array.getElem?_setIfInBounds, Array.size_setIfInBounds]
    by_cases e1 : i = k
    · subst e1
      have eu : (if i = i then e else f i) = e := if_pos rfl
      rw [eu]
      refine ⟨?_, ?_, ?_, ?_⟩
      · rw [if_neg (by omega), if_neg (by omega), if_neg (by omega), if_pos rfl, if_pos (by omega)]
      · rw [if_neg (by omega), if_neg (by omega), if_pos rfl, if_pos (by omega)]
      · rw [if_neg (by omega), if_pos rfl, if_pos (by omega)]
      · rw [if_pos rfl, if_pos (by omega)]
    · rw [if_neg e1]
      obtain ⟨a, b, c, d⟩ := h3 i hi
      refine ⟨?_, ?_, ?_, ?_⟩
      · rw [if_neg (by omega), if_neg (by omega), if_neg (by omega), if_neg (by omega)]; exact a
      · rw [if_neg (by omega), if_neg (by omega), if_neg (by omega), if_neg (by omega)]; exact b
      · rw [if_neg (by omega), if_neg (by omega), if_neg (by omega), if_neg (by omega)]; exact c
      · rw [if_neg (by omega), if_neg (by omega), if_neg (by omega), if_neg (by omega)]; exact d
def entFn (es : List Ent) (i : Nat) : Ent := es.getD i Ent.none
theorem entFn_get {es : List Ent} {i : Nat} {e : Ent} (h : es[i]? = some e) : entFn es i = e := by unfold entFn; rw [List.getD_eq_getElem?_getD, h]; rfl
/-- Entries that a row owns, all of it. -/
theorem EntRow.at {W : World} {g T n : Nat} {es : List Ent} (x : EntRow W g T n (entFn es)) (hn : es.length ≤ n) : EntsAt W (some ⟨g, 0, .none⟩) es :=
  .inr ⟨g, 0, rfl, x.lt, fun i e hi => by
    have hl : i < es.length := (List.getElem?_eq_some_iff.1 hi).1
    have := (x.cells i (by omega)).1
    rw [entFn_get hi] at this
    rwa [Nat.zero_add]⟩
theorem infoEnt : (Try.prog.info? 27).map (fun i => (i.zero, i.size, i.bytes)) = some (some (.agg #[.string ⟨#[]⟩, .int .i64 0, .int .i64 0, .string ⟨#[]⟩]), 4, 48) := by kernel_rfl
theorem mkEnts (W : World) (n : Nat) (hn : n ≤ 1048576) : ∃ M : Array Value, (Instr.makeSlice 23 (.int .i64 (n : Int)) (.int .i64 (n : Int))).run Try.prog W = .ok (.slice (some ⟨W.heap.size, 0, .none⟩) n n) (W.alloc (.cells M 27)) ∧ EntRow (W.alloc (.cells M 27)) W.heap.size 27 n (fun _ => Ent.none) := by
  obtain ⟨i, hi, hz0, hz1, hz2⟩ := info_parts infoEnt
  refine ⟨madeCells #[.string ⟨#[]⟩, .int .i64 0, .int .i64 0, .string ⟨#[]⟩] (n * 4), ?_, _, World.alloc_heap_new W _, by simp [madeCells], fun j hj => ?_⟩
  · have := run_make (P := Try.prog) W 23 27 i _ Try.underlying23 hi hz0 .i64 .i64 n n (by omega) (Int.le_refl _) (by rw [hz2]; omega) (by omega)
    simpa [hz1, Value.cells] using this
  · unfold madeCells
    simp only [Array.getElem?_map, Array.getElem?_range]
    have e0 : j * 4 % 4 = 0 := by omega
    have e1 : (j * 4 + 1) % 4 = 1 := by omega
    have e2 : (j * 4 + 2) % 4 = 2 := by omega
    have e3 : (j * 4 + 3) % 4 = 3 := by omega
    rw [if_pos (by omega), if_pos (by omega), if_pos (by omega), if_pos (by omega)]
    simp [e0, e1, e2, e3, Ent.none]

theorem gb_refl (w : World) (r : Option Nat) : w.grownBy w r := ⟨rfl, rfl, rfl, Nat.le_refl _, fun _ _ _ => rfl⟩
set_option maxRecDepth 100000 in
set_option maxHeartbeats 2000000 in
theorem toEntryS_any (es : List Ent) (a : Option Addr) (cap : Nat) (w : World) (hlen : es.length ≤ 1048576) (h : EntsAt w a es) :
    Calls Try.prog 38 #[.slice a es.length cap] w fun x w' => ∃ g, x = .returned (.slice (some ⟨g, 0, .none⟩) es.length es.length) ∧ w.heap.size ≤ g ∧ EntRow w' g 27 es.length (entFn es) ∧ Below w.heap.size w w' := by
  obtain ⟨M, hmk, hrow⟩ := mkEnts w es.length hlen
  have HR := hid hrow
  clear hrow
  go_enter Try.func38, Try.ntmps38
  go_wp2_with fail
  clear hmk
  have hB0 : Below w.heap.size w (w.alloc (.cells M 27)) := (Below.refl _ _).alloc (Nat.le_refl _) _
  generalize w.alloc (.cells M 27) = wq at HR hB0 ⊢
  go_loopw [4] (fun i wr => ∃ k : Nat, k ≤ es.length ∧ i = .int .i64 k ∧ EntRow wr w.heap.size 27 es.length (fun j => if j < k then entFn es j else Ent.none) ∧ Below w.heap.size w wr) (fun i _ => es.length - (intOf i).toNat)
  case atStart => exact ⟨0, Nat.zero_le _, rfl, (unhid HR).congr (fun j _ => by simp), hB0⟩
  case round =>
    clear HR hB0
    obtain ⟨k, hk, rfl, hR, hB⟩ := hrel
    by_cases hlt : k < es.length
    · obtain ⟨e, he⟩ : ∃ e, es[k]? = some e := ⟨es[k], List.getElem?_eq_getElem hlt⟩
      obtain ⟨b, o, rfl, hbl, hc⟩ := h.get (by intro e; subst e; simp at hlt)
      obtain ⟨c0, c1, c2, c3⟩ := ((hc k e he).below hB hbl)
      have HS := hid (show entFn es k = e from entFn_get he)
      have HB := hid hB
      have HR := hid hR
      have HH := hid hc
      clear hc hB he hR h
      go_wp2_with fail
      refine (toEntry_any e _).mono ?_
      rintro x w2 ⟨rfl, hb⟩
      have hgl := (unhid HR).lt
      have hR2 := (unhid HR).below hb hgl
      obtain ⟨⟨d0, d1, d2, d3⟩, f0, f1, f2, f3⟩ := hR2.cells k hlt
      have HR2 := hid hR2
      have HB2 := hid ((unhid HB).trans (hb.mono (unhid HB).size))
      clear hb c0 c1 c2 c3 hR2 HR
      unfold Ent.vals
      go_wp2_with fail
      go_roundw
      case rel =>
        refine ⟨k + 1, by omega, by go_num, ((unhid HR2).set k hlt e).congr (fun j hj => ?_), ((((unhid HB2).setCell (Nat.le_refl _) _).setCell (Nat.le_refl _) _).setCell (Nat.le_refl _) _).setCell (Nat.le_refl _) _⟩
        unfold upd
        by_cases ej : j = k
        · rw [if_pos ej, if_pos (by omega), ej, unhid HS]
        · rw [if_neg ej]
          show (if j < k then entFn es j else Ent.none) = _
          by_cases hj2 : j < k
          · rw [if_pos hj2, if_pos (by omega)]
          · rw [if_neg hj2, if_neg (by omega)]
      case measure => simp [intOf]; omega
    · have e : k = es.length := by omega
      subst e
      go_wp2_with fail
      go_ret
      exact ⟨w.heap.size, rfl, Nat.le_refl _, hR.congr (fun j hj => by rw [if_pos hj]), hB⟩

def eqE (x y : Ent) : Bool := (x.path.toList == y.path.toList) && (x.kind == y.kind) && (x.mode == y.mode) && (x.text.toList == y.text.toList)
set_option maxRecDepth 100000 in
set_option maxHeartbeats 2000000 in
theorem eqEntry_any (x y : Ent) (w : World) :
    Calls Try.prog 81 #[.agg x.vals, .agg y.vals] w fun r w' => r = .returned (.bool (eqE x y)) ∧ Below w.heap.size w w' := by
  obtain ⟨p, k, m, t⟩ := x
  obtain ⟨p2, k2, m2, t2⟩ := y
  unfold Ent.vals
  have hE : eqE ⟨p, k, m, t⟩ ⟨p2, k2, m2, t2⟩ = ((p.toList == p2.toList) && (k == k2) && (m == m2) && (t.toList == t2.toList)) := rfl
  have E := hid hE
  clear hE
  dsimp only
  have hB : ∀ o o', Below w.heap.size w ((w.alloc o).alloc o') := fun o o' => ((Below.refl _ w).alloc (Nat.le_refl _) o).alloc (by simp) o'
  have HB := hid hB
  clear hB
  cases h1 : (p.toList == p2.toList)
  · go_enter Try.func81, Try.ntmps81
    go_wp2_with fail
    go_ret
    exact ⟨by rw [unhid E, h1]; rfl, unhid HB _ _⟩
  · cases h2 : (k == k2)
    · go_enter Try.func81, Try.ntmps81
      go_wp2_with fail
      go_ret
      exact ⟨by rw [unhid E, h1, h2]; rfl, unhid HB _ _⟩
    · cases h3 : (m == m2)
      · go_enter Try.func81, Try.ntmps81
        go_wp2_with fail
        go_ret
        exact ⟨by rw [unhid E, h1, h2, h3]; rfl, unhid HB _ _⟩
      · cases h4 : (t.toList == t2.toList)
        all_goals
          go_enter Try.func81, Try.ntmps81
          go_wp2_with fail
          go_ret
          exact ⟨by rw [unhid E, h1, h2, h3, h4]; rfl, unhid HB _ _⟩
theorem eqE_self (x : Ent) : eqE x x = true := by unfold eqE; simp
theorem eqE_iff (x y : Ent) : eqE x y = true ↔ x = y := by
  unfold eqE
  simp only [Bool.and_eq_true, beq_iff_eq]
  constructor
  · rintro ⟨⟨⟨a, b⟩, c⟩, d⟩
    obtain ⟨p, k, m, t⟩ := x
    obtain ⟨p2, k2, m2, t2⟩ := y
    dsimp only at a b c d
    rw [Lib.toList_data, Lib.toList_data] at a d
    rw [ba_ext a, b, c, ba_ext d]
  · rintro rfl; exact ⟨⟨⟨rfl, rfl⟩, rfl⟩, rfl⟩

end Go.Proofs.Ytaefjibnnbdaaaa

/- Whether two rows of entries are the same, by the laws. -/
namespace Go.Proofs.Ytaefjibnnbdaaaa
open Go.RowKit Go.Shelf

theorem drewN_below {B : Nat} (w : World) (m : Nat) : Below B w (w.drewN m) := ⟨rfl, rfl, rfl, Nat.le_refl _, fun _ _ => rfl⟩
theorem drew_below {B : Nat} (w : World) : Below B w w.drew := ⟨rfl, rfl, rfl, Nat.le_refl _, fun _ _ => rfl⟩
def eqEs (xs ys : List Ent) : Bool := decide (xs.length = ys.length) && (List.range xs.length).all fun i => eqE (entFn xs i) (entFn ys i)
theorem eqEs_self (xs : List Ent) : eqEs xs xs = true := by unfold eqEs; simp [eqE_self]

set_option maxRecDepth 100000 in
set_option maxHeartbeats 4000000 in
theorem eqEntryS_any (xs ys : List Ent) (a b : Option Addr) (cap cap2 : Nat) (w : World) (hx : xs.length ≤ maxLen) (hy : ys.length ≤ maxLen) (h : EntsAt w a xs) (h2 : EntsAt w b ys) :
    Calls Try.prog 40 #[.slice a xs.length cap, .slice b ys.length cap2] w fun r w' => r = .returned (.bool (eqEs xs ys)) ∧ Below w.heap.size w w' := by
  unfold maxLen at hx hy
  by_cases hl : xs.length = ys.length
  · have hl' : ((xs.length : Int) != (ys.length : Int)) = false := by rw [hl]; simp
    have hE : eqEs xs ys = (List.range xs.length).all fun i => eqE (entFn xs i) (entFn ys i) := by unfold eqEs; rw [decide_eq_true hl]; rfl
    have E := hid hE
    have HL := hid hl
    clear hE
    go_enter Try.func40, Try.ntmps40
    clear hl
    go_wp2_with fail
    go_loopw [5] (fun i wr => ∃ k : Nat, k ≤ xs.length ∧ i = .int .i64 k ∧ Hid ((List.range k).all (fun i => eqE (entFn xs i) (entFn ys i)) = true) ∧ Below w.heap.size w wr) (fun i _ => xs.length - (intOf i).toNat)
    case atStart => exact ⟨0, Nat.zero_le _, rfl, hid rfl, Below.refl _ _⟩
    case round =>
      obtain ⟨k, hk, rfl, hall, hB⟩ := hrel
      by_cases hlt : k < xs.length
      · have hlt2 : k < ys.length := by rw [← unhid HL]; exact hlt
        obtain ⟨e, he⟩ : ∃ e, xs[k]? = some e := ⟨xs[k], List.getElem?_eq_getElem hlt⟩
        obtain ⟨e2, he2⟩ : ∃ e, ys[k]? = some e := ⟨ys[k], List.getElem?_eq_getElem hlt2⟩
        obtain ⟨bb, o, rfl, hbl, hc⟩ := h.get (by intro e; subst e; simp at hlt)
        obtain ⟨bb2, o2, rfl, hbl2, hc2⟩ := h2.get (by intro e; subst e; simp at hlt2)
        obtain ⟨c0, c1, c2, c3⟩ := ((hc k e he).below hB hbl)
        obtain ⟨d0, d1, d2, d3⟩ := ((hc2 k e2 he2).below hB hbl2)
        have HS := hid (show entFn xs k = e from entFn_get he)
        have HS2 := hid (show entFn ys k = e2 from entFn_get he2)
        have HB := hid hB
        have HH := hid (And.intro h (And.intro h2 (And.intro hc hc2)))
        clear hc hc2 hB he he2 h h2
        cases hq : eqE e e2
        · go_wp2_with fail
          go_region_with (go_at_call 81; refine (eqEntry_any e e2 _).mono ?_; rintro r w2 ⟨rfl, hb⟩; rw [hq]; have HB2 := hid (((unhid HB).trans (drew_below _)).trans (hb.mono (unhid HB).size)); clear hb)
          all_goals
            go_wp2_with fail
            go_ret
            refine ⟨?_, unhid HB2⟩
            have : (List.range xs.length).all (fun i => eqE (entFn xs i) (entFn ys i)) = false := List.all_eq_false.2 ⟨k, List.mem_range.2 hlt, by rw [unhid HS, unhid HS2, hq]; simp⟩
            rw [unhid E, this]; rfl
        · go_wp2_with fail
          go_region_with (go_at_call 81; refine (eqEntry_any e e2 _).mono ?_; rintro r w2 ⟨rfl, hb⟩; rw [hq]; have HB2 := hid (((unhid HB).trans (drew_below _)).trans (hb.mono (unhid HB).size)); clear hb)
          all_goals
            go_wp2_with fail
            go_roundw
            case rel => exact ⟨k + 1, by omega, by go_num, hid (by rw [List.range_succ, List.all_append, unhid hall]; simp [unhid HS, unhid HS2, hq]), unhid HB2⟩
            case measure => simp [intOf]; omega
      · have e : k = xs.length := by omega
        subst e
        go_wp2_with fail
        go_ret
        exact ⟨by rw [unhid E, unhid hall]; rfl, hB⟩
  · have hl' : ((xs.length : Int) != (ys.length : Int)) = true := by rw [bne_iff_ne]; omega
    have E := hid (show eqEs xs ys = false by unfold eqEs; rw [decide_eq_false hl]; rfl)
    clear hl
    go_enter Try.func40, Try.ntmps40
    go_wp2_with fail
    go_ret
    exact ⟨by rw [unhid E]; rfl, Below.refl _ _⟩
end Go.Proofs.Ytaefjibnnbdaaaa

/- What the model calls an entry that is ok, and the place of a path in entries. -/
namespace Go.Proofs.Ytaefjibnnbdaaaa
open Go.RowKit Go.Shelf

def txtB (c : Int) : Bool := c == 10 || (decide (32 ≤ c) && decide (c ≤ 126))
def textB (l : List UInt8) : Bool := decide (l.length ≤ 80) && l.all fun c => txtB c.toNat
def modeB (m : Int) : Bool := decide (0 ≤ m) && decide (m ≤ 7)
def entB (e : Ent) : Bool := pathB e.path.data.toList && (if e.kind = 1 then modeB e.mode && e.text.data.toList.isEmpty else if e.kind = 2 then modeB e.mode && textB e.text.data.toList else e.kind == 3 && (e.mode == 0 && pathB e.text.data.toList))

set_option maxRecDepth 100000 in
set_option maxHeartbeats 1000000 in
theorem l2Text_any (s : ByteArray) (hs : s.size ≤ maxLen) (w : World) :
    Calls Try.prog 94 #[.string s] w fun e w' => e = .returned (.bool (textB s.data.toList)) ∧ w' = w := by
  unfold maxLen at hs
  go_enter Try.func94, Try.ntmps94
  go_wp2_with fail
  go_loop [3] (fun i => ∃ k : Nat, k ≤ s.size ∧ i = .int .i64 k ∧ Hid ((s.data.toList.take k).all (fun c => txtB c.toNat) = true)) (fun i => s.size - (intOf i).toNat)
  case atStart => exact ⟨0, Nat.zero_le _, rfl, hid (by simp)⟩
  case round =>
    obtain ⟨k, hk, rfl, hall⟩ := hrel
    by_cases hlt : k < s.size
    · have hstep := hid (all_take_succ s k hlt (fun c => txtB c.toNat))
      have h255 : ((s[k]).toNat : Int) ≤ 255 := by have := UInt8.toNat_lt s[k]; omega
      have h000 : (0 : Int) ≤ (s[k]).toNat := by omega
      cases h10 : (((s[k]).toNat : Int) == 10)
      · cases hb : (decide ((32 : Int) ≤ (s[k]).toNat) && decide (((s[k]).toNat : Int) ≤ 126))
        · have ht : txtB ((s[k]).toNat : Int) = false := by unfold txtB; rw [h10, hb]; rfl
          have h10' : (((s[k]).toNat : Int) != 10) = true := by simp [bne, h10]
          go_wp2_with (go_at_call 93; refine (l1In_any _ _ _ _).mono ?_; rintro e w' ⟨rfl, rfl⟩; rw [hb])
          go_ret
          refine ⟨?_, rfl⟩
          have : (s.data.toList.all fun c => txtB c.toNat) = false := List.all_eq_false.2 ⟨s[k], by have := getByte s k hlt; exact List.mem_of_getElem? this, by simp [ht]⟩
          unfold textB
          rw [this]; simp
        · have ht : txtB ((s[k]).toNat : Int) = true := by unfold txtB; rw [h10, hb]; rfl
          have h10' : (((s[k]).toNat : Int) != 10) = true := by simp [bne, h10]
          go_wp2_with (go_at_call 93; refine (l1In_any _ _ _ _).mono ?_; rintro e w' ⟨rfl, rfl⟩; rw [hb])
          go_round
          case rel => exact ⟨k + 1, by omega, by go_num, hid (by rw [unhid hstep, unhid hall, ht]; rfl)⟩
          case measure => simp [intOf]; omega
      · have ht : txtB ((s[k]).toNat : Int) = true := by unfold txtB; rw [h10]; rfl
        have h10' : (((s[k]).toNat : Int) != 10) = false := by simp [bne, h10]
        go_wp2_with (go_at_call 93; refine (l1In_any _ _ _ _).mono ?_; rintro e w' ⟨rfl, rfl⟩)
        go_round
        case rel => exact ⟨k + 1, by omega, by go_num, hid (by rw [unhid hstep, unhid hall, ht]; rfl)⟩
        case measure => simp [intOf]; omega
    · have E := hid (show textB s.data.toList = decide ((s.size : Int) ≤ 80) by
        have h1 : (s.data.toList.all fun c => txtB c.toNat) = true := by have := unhid hall; rwa [List.take_of_length_le (by simp; omega)] at this
        unfold textB
        rw [h1, Bool.and_true, ← Lib.size_eq]
        exact decide_eq_decide.2 (by omega))
      go_wp2_with fail
      go_ret
      exact ⟨by rw [unhid E]; rfl, rfl⟩

set_option maxRecDepth 100000 in
set_option maxHeartbeats 4000000 in
theorem l2Entry_any (e : Ent) (hp : e.path.size ≤ 1048576) (ht : e.text.size ≤ 1048576) (w : World) :
    Calls Try.prog 59 #[.agg e.vals] w fun x w' => x = .returned (.bool (entB e)) ∧ Below w.heap.size w w' := by
  obtain ⟨p, k, m, t⟩ := e
  unfold Ent.vals
  dsimp only at hp ht ⊢
  have tm : t.size ≤ maxLen := by unfold maxLen; omega
  have hE : entB ⟨p, k, m, t⟩ = (pathB p.data.toList && (if k = 1 then modeB m && t.data.toList.isEmpty else if k = 2 then modeB m && textB t.data.toList else k == 3 && (m == 0 && pathB t.data.toList))) := rfl
  have E := hid hE
  clear hE
  have hB0 : Below w.heap.size w (w.alloc (.cells #[.string p, .int .i64 k, .int .i64 m, .string t] 27)) := (Below.refl _ w).alloc (Nat.le_refl _) _
  have hbx : ∀ j v, (#[Value.string p, .int .i64 k, .int .i64 m, .string t])[j]? = some v → (w.alloc (.cells #[.string p, .int .i64 k, .int .i64 m, .string t] 27)).cell? ⟨w.heap.size, j, .none⟩ = some v := fun j v h => by
    have := World.alloc_heap_new w (.cells #[.string p, .int .i64 k, .int .i64 m, .string t] 27)
    unfold World.cell?; dsimp only; rw [this]; exact h
  have x1 := hid (hbx 1 _ rfl)
  have x2 := hid (hbx 2 _ rfl)
  have x3 := hid (hbx 3 _ rfl)
  have HB0 := hid hB0
  clear hB0 hbx
  have hz : w.heap.size < (w.alloc (.cells #[.string p, .int .i64 k, .int .i64 m, .string t] 27)).heap.size := by simp
  cases hpp : pathB p.data.toList
  · go_enter Try.func59, Try.ntmps59
    go_wp2_with fail
    refine (l1Path_any p hp _).mono ?_
    rintro x w1 ⟨rfl, hb⟩
    rw [hpp]
    have HB1 := hid ((unhid HB0).trans (hb.mono (unhid HB0).size))
    clear hb
    go_wp2_with fail
    go_ret
    exact ⟨by rw [unhid E, hpp]; rfl, unhid HB1⟩
  · have tail : ∀ (R : Bool), (if k = 1 then modeB m && t.data.toList.isEmpty else if k = 2 then modeB m && textB t.data.toList else k == 3 && (m == 0 && pathB t.data.toList)) = R → entB ⟨p, k, m, t⟩ = R := fun R h => by rw [unhid E, hpp, h]; rfl
    have TL := hid tail
    clear tail
    by_cases k1 : k = 1
    · subst k1
      cases hm : (decide ((0 : Int) ≤ m) && decide (m ≤ 7))
      · have EE := hid (unhid TL false (by rw [if_pos rfl]; unfold modeB; rw [hm]; rfl))
        go_enter Try.func59, Try.ntmps59
        go_wp2_with fail
        refine (l1Path_any p hp _).mono ?_
        rintro x w1 ⟨rfl, hb⟩
        rw [hpp]
        have c1 := (hb.cell (p := ⟨w.heap.size, 1, .none⟩) hz).trans (unhid x1)
        have c2 := (hb.cell (p := ⟨w.heap.size, 2, .none⟩) hz).trans (unhid x2)
        have c3 := (hb.cell (p := ⟨w.heap.size, 3, .none⟩) hz).trans (unhid x3)
        have HB1 := hid ((unhid HB0).trans (hb.mono (unhid HB0).size))
        clear hb
        go_wp2_with (go_at_call 93; refine (l1In_any _ _ _ _).mono ?_; rintro e w' ⟨rfl, rfl⟩; rw [hm])
        go_ret
        exact ⟨by rw [unhid EE]; rfl, unhid HB1⟩
      · have EE := hid (unhid TL t.toList.isEmpty (by rw [if_pos rfl]; unfold modeB; rw [hm, Lib.toList_data]; rfl))
        go_enter Try.func59, Try.ntmps59
        go_wp2_with fail
        refine (l1Path_any p hp _).mono ?_
        rintro x w1 ⟨rfl, hb⟩
        rw [hpp]
        have c1 := (hb.cell (p := ⟨w.heap.size, 1, .none⟩) hz).trans (unhid x1)
        have c2 := (hb.cell (p := ⟨w.heap.size, 2, .none⟩) hz).trans (unhid x2)
        have c3 := (hb.cell (p := ⟨w.heap.size, 3, .none⟩) hz).trans (unhid x3)
        have HB1 := hid ((unhid HB0).trans (hb.mono (unhid HB0).size))
        clear hb
        go_wp2_with (go_at_call 93; refine (l1In_any _ _ _ _).mono ?_; rintro e w' ⟨rfl, rfl⟩; rw [hm])
        go_ret
        exact ⟨by rw [unhid EE]; rfl, unhid HB1⟩
    · have k1' : (k == 1) = false := by simpa using k1
      by_cases k2 : k = 2
      · subst k2
        cases hm : (decide ((0 : Int) ≤ m) && decide (m ≤ 7))
        · have EE := hid (unhid TL false (by rw [if_neg (by omega), if_pos rfl]; unfold modeB; rw [hm]; rfl))
          go_enter Try.func59, Try.ntmps59
          go_wp2_with fail
          refine (l1Path_any p hp _).mono ?_
          rintro x w1 ⟨rfl, hb⟩
          rw [hpp]
          have c1 := (hb.cell (p := ⟨w.heap.size, 1, .none⟩) hz).trans (unhid x1)
          have c2 := (hb.cell (p := ⟨w.heap.size, 2, .none⟩) hz).trans (unhid x2)
          have c3 := (hb.cell (p := ⟨w.heap.size, 3, .none⟩) hz).trans (unhid x3)
          have HB1 := hid ((unhid HB0).trans (hb.mono (unhid HB0).size))
          clear hb
          go_wp2_with (go_at_call 93; refine (l1In_any _ _ _ _).mono ?_; rintro e w' ⟨rfl, rfl⟩; rw [hm])
          go_ret
          exact ⟨by rw [unhid EE]; rfl, unhid HB1⟩
        · have EE := hid (unhid TL (textB t.data.toList) (by rw [if_neg (by omega), if_pos rfl]; unfold modeB; rw [hm]; rfl))
          go_enter Try.func59, Try.ntmps59
          go_wp2_with fail
          refine (l1Path_any p hp _).mono ?_
          rintro x w1 ⟨rfl, hb⟩
          rw [hpp]
          have c1 := (hb.cell (p := ⟨w.heap.size, 1, .none⟩) hz).trans (unhid x1)
          have c2 := (hb.cell (p := ⟨w.heap.size, 2, .none⟩) hz).trans (unhid x2)
          have c3 := (hb.cell (p := ⟨w.heap.size, 3, .none⟩) hz).trans (unhid x3)
          have HB1 := hid ((unhid HB0).trans (hb.mono (unhid HB0).size))
          clear hb
          go_wp2_with (first | (go_at_call 93; refine (l1In_any _ _ _ _).mono ?_; rintro e w' ⟨rfl, rfl⟩; rw [hm]) | (go_at_call 94; refine (l2Text_any _ tm _).mono ?_; rintro e w' ⟨rfl, rfl⟩))
          go_ret
          exact ⟨by rw [unhid EE]; rfl, unhid HB1⟩
      · have k2' : (k == 2) = false := by simpa using k2
        cases k3 : (k == 3)
        · have EE := hid (unhid TL false (by rw [if_neg k1, if_neg k2, k3]; rfl))
          go_enter Try.func59, Try.ntmps59
          go_wp2_with fail
          refine (l1Path_any p hp _).mono ?_
          rintro x w1 ⟨rfl, hb⟩
          rw [hpp]
          have c1 := (hb.cell (p := ⟨w.heap.size, 1, .none⟩) hz).trans (unhid x1)
          have HB1 := hid ((unhid HB0).trans (hb.mono (unhid HB0).size))
          clear hb
          go_wp2_with fail
          go_ret
          exact ⟨by rw [unhid EE]; rfl, unhid HB1⟩
        · cases m0 : (m == 0)
          · have EE := hid (unhid TL false (by rw [if_neg k1, if_neg k2, k3, m0]; rfl))
            go_enter Try.func59, Try.ntmps59
            go_wp2_with fail
            refine (l1Path_any p hp _).mono ?_
            rintro x w1 ⟨rfl, hb⟩
            rw [hpp]
            have c1 := (hb.cell (p := ⟨w.heap.size, 1, .none⟩) hz).trans (unhid x1)
            have c2 := (hb.cell (p := ⟨w.heap.size, 2, .none⟩) hz).trans (unhid x2)
            have HB1 := hid ((unhid HB0).trans (hb.mono (unhid HB0).size))
            clear hb
            go_wp2_with fail
            go_ret
            exact ⟨by rw [unhid EE]; rfl, unhid HB1⟩
          · have EE := hid (unhid TL (pathB t.data.toList) (by rw [if_neg k1, if_neg k2, k3, m0]; rfl))
            go_enter Try.func59, Try.ntmps59
            go_wp2_with fail
            refine (l1Path_any p hp _).mono ?_
            rintro x w1 ⟨rfl, hb⟩
            rw [hpp]
            have c1 := (hb.cell (p := ⟨w.heap.size, 1, .none⟩) hz).trans (unhid x1)
            have c2 := (hb.cell (p := ⟨w.heap.size, 2, .none⟩) hz).trans (unhid x2)
            have c3 := (hb.cell (p := ⟨w.heap.size, 3, .none⟩) hz).trans (unhid x3)
            have HB1 := hid ((unhid HB0).trans (hb.mono (unhid HB0).size))
            clear hb
            go_wp2_with fail
            refine (l1Path_any t ht _).mono ?_
            rintro x w2 ⟨rfl, hb⟩
            have HB2 := hid ((unhid HB1).trans (hb.mono (unhid HB1).size))
            clear hb
            go_wp2_with fail
            go_ret
            exact ⟨by rw [unhid EE]; rfl, unhid HB2⟩
end Go.Proofs.Ytaefjibnnbdaaaa

/- The place of a path in entries, by the model; the order of texts. -/
namespace Go.Proofs.Ytaefjibnnbdaaaa
open Go.RowKit Go.Shelf

theorem lt_irr : ∀ x : List UInt8, Op.bytesLess x x = false
  | [] => rfl
  | a :: x => by
    have h : ¬ a < a := by rw [UInt8.lt_iff_toNat_lt]; omega
    simp [Op.bytesLess, lt_irr x, h]
theorem lt_tot : ∀ x y : List UInt8, Op.bytesLess x y = false → Op.bytesLess y x = false → x = y
  | [], [], _, _ => rfl
  | [], _ :: _, h, _ => by simp [Op.bytesLess] at h
  | _ :: _, [], _, h => by simp [Op.bytesLess] at h
  | a :: x, b :: y, h, g => by
    simp only [Op.bytesLess, Bool.or_eq_false_iff, decide_eq_false_iff_not, Bool.and_eq_false_iff, beq_eq_false_iff_ne] at h g
    have e : a = b := by
      apply UInt8.toNat_inj.1
      have h1 := h.1
      have g1 := g.1
      rw [UInt8.lt_iff_toNat_lt] at h1 g1
      omega
    subst e
    rw [lt_tot x y (h.2.resolve_left (fun h => h rfl)) (g.2.resolve_left (fun h => h rfl))]
theorem lt_tra : ∀ x y z : List UInt8, Op.bytesLess x y = true → Op.bytesLess y z = true → Op.bytesLess x z = true
  | _, [], _, h, _ => by simp [Op.bytesLess] at h
  | _, _ :: _, [], _, h => by simp [Op.bytesLess] at h
  | [], _ :: _, _ :: _, _, _ => rfl
  | a :: x, b :: y, c :: z, h, g => by
    simp only [Op.bytesLess, Bool.or_eq_true, decide_eq_true_eq, Bool.and_eq_true, beq_iff_eq] at h g ⊢
    rw [UInt8.lt_iff_toNat_lt] at *
    rcases h with h | ⟨rfl, h⟩ <;> rcases g with g | ⟨rfl, g⟩
    · exact .inl (by omega)
    · exact .inl h
    · exact .inl g
    · exact .inr ⟨rfl, lt_tra x y z h g⟩

def ltS (a b : ByteArray) : Bool := Op.bytesLess a.toList b.toList
def eqS (a b : ByteArray) : Bool := a.toList == b.toList
theorem eqS_iff (a b : ByteArray) : eqS a b = true ↔ a = b := by
  unfold eqS
  rw [beq_iff_eq, Lib.toList_data, Lib.toList_data]
  exact ⟨ba_ext, fun h => by rw [h]⟩
/-- Where a path is in entries, or would come; whether it is there. -/
def placeE (es : List Ent) (p : ByteArray) : Nat := (es.takeWhile fun e => ltS e.path p).length
def thereE (es : List Ent) (p : ByteArray) : Bool := (es[placeE es p]?).any fun e => eqS e.path p
theorem placeE_le (es : List Ent) (p : ByteArray) : placeE es p ≤ es.length := by
  unfold placeE; exact (List.takeWhile_prefix _).length_le
theorem place_of : ∀ (es : List Ent) (p : ByteArray) (k : Nat), k ≤ es.length → (∀ (i : Nat) e, i < k → es[i]? = some e → ltS e.path p = true) → (∀ e, es[k]? = some e → ltS e.path p = false) → placeE es p = k
  | [], _, k, hk, _, _ => by simp at hk; subst hk; rfl
  | e :: es, p, 0, _, _, h2 => by
    have := h2 e rfl
    unfold placeE; rw [List.takeWhile_cons]; simp [this]
  | e :: es, p, k + 1, hk, h1, h2 => by
    have h0 := h1 0 e (Nat.succ_pos _) rfl
    have ih := place_of es p k (by simpa using hk) (fun i x hi hx => h1 (i + 1) x (by omega) (by simpa using hx)) (fun x hx => h2 x (by simpa using hx))
    unfold placeE at ih ⊢
    rw [List.takeWhile_cons]; simp [h0, ih]
theorem place_lt {es : List Ent} {p : ByteArray} {i : Nat} {e : Ent} (hi : i < placeE es p) (he : es[i]? = some e) : ltS e.path p = true := by
  unfold placeE at hi
  have hp := List.takeWhile_prefix (l := es) (fun e => ltS e.path p)
  obtain ⟨t, ht⟩ := hp
  have : (es.takeWhile fun e => ltS e.path p)[i]? = some e := by
    rw [← ht, List.getElem?_append_left hi] at he; exact he
  have := List.mem_of_getElem? this
  exact List.all_eq_true.1 (List.all_takeWhile (p := fun e : Ent => ltS e.path p) (l := es)) e this

set_option maxRecDepth 100000 in
set_option maxHeartbeats 2000000 in
theorem l2At_any (es : List Ent) (a : Option Addr) (cap : Nat) (p : ByteArray) (w : World) (hlen : es.length ≤ 1048576) (h : EntsAt w a es) :
    Calls Try.prog 64 #[.slice a es.length cap, .string p] w fun x w' => x = .returned (.tuple #[.int .i64 (placeE es p), .bool (thereE es p)]) ∧ ∃ n, w' = w.drewN n := by
  go_enter Try.func64, Try.ntmps64
  go_wp2_with fail
  go_loop [6] (fun i => ∃ k : Nat, k ≤ es.length ∧ i = .int .i64 k ∧ Hid (∀ (i : Nat) e, i < k → es[i]? = some e → ltS e.path p = true)) (fun i => es.length - (intOf i).toNat)
  case atStart => exact ⟨0, Nat.zero_le _, rfl, hid (fun i e hi => by omega)⟩
  case round =>
    obtain ⟨k, hk, rfl, hall⟩ := hrel
    by_cases hlt : k < es.length
    · obtain ⟨e, he⟩ : ∃ e, es[k]? = some e := ⟨es[k], List.getElem?_eq_getElem hlt⟩
      obtain ⟨b, o, rfl, hbl, hc⟩ := h.get (by intro e; subst e; simp at hlt)
      obtain ⟨c0, c1, c2, c3⟩ := hc k e he
      have HE := hid he
      clear hc he h
      cases hq : Op.bytesLess e.path.toList p.toList
      · have hpl : placeE es p = k := place_of es p k hk (unhid hall) (fun x hx => by rw [unhid HE] at hx; cases hx; exact hq)
        have hth : thereE es p = (e.path.toList == p.toList) := by unfold thereE; rw [hpl, unhid HE]; rfl
        have HP := hid (And.intro hpl hth)
        clear hpl hth
        go_wp2_with fail
        go_quiet (fail)
        go_wp2_with fail
        go_ret2
        exact ⟨by rw [(unhid HP).1, (unhid HP).2]; rfl, _, rfl⟩
      · go_wp2_with fail
        go_round
        case rel => exact ⟨k + 1, by omega, by go_num, hid (fun i x hi hx => by
          by_cases ei : i = k
          · subst ei; rw [unhid HE] at hx; cases hx; exact hq
          · exact unhid hall i x (by omega) hx)⟩
        case measure => simp [intOf]; omega
    · have hpl : placeE es p = k := place_of es p k hk (unhid hall) (fun x hx => by have := (List.getElem?_eq_some_iff.1 hx).1; omega)
      have hth : thereE es p = false := by unfold thereE; rw [hpl, List.getElem?_eq_none (by omega)]; rfl
      have HP := hid (And.intro hpl hth)
      have hlt' : ¬ (k : Int) < es.length := by omega
      clear hpl hth h
      go_wp2_with fail
      go_quiet (fail)
      go_wp2_with fail
      go_ret2
      exact ⟨by rw [(unhid HP).1, (unhid HP).2]; rfl, _, rfl⟩
end Go.Proofs.Ytaefjibnnbdaaaa

/- A region that draws its order, whose operations read what lay below a bound and whose callees leave that as it was: walked once. -/
namespace Go.Proofs.Ytaefjibnnbdaaaa
open Go.RowKit

/-- A world in which what lay below a bound is as it was. -/
structure BW (B : Nat) (W : World) where
  w : World
  h : Below B W w
theorem BW.all {B : Nat} {W : World} {p : Prop} : (BW B W → p) ↔ p := ⟨fun h => h ⟨W, Below.refl _ _⟩, fun h _ => h⟩
theorem BW.cell {B : Nat} {W : World} {b o : Nat} {v : Value} (hb : b < B) (h : W.cell? ⟨b, o, none⟩ = some v) (x : BW B W) : x.w.cell? ⟨b, o, none⟩ = some v := (x.h.cell (p := ⟨b, o, none⟩) hb).trans h
theorem Calls.bw {P : Program} {f : FuncId} {args : Array Value} {v : Value} {B : Nat} {W : World} {x : BW B W} (hB : B ≤ W.heap.size) (h : Calls P f args x.w fun e w' => e = .returned v ∧ Below x.w.heap.size x.w w') :
    Calls P f args x.w fun e w'' => e = .returned v ∧ ∃ y : BW B W, w'' = y.w :=
  h.mono fun _ w' ⟨he, hb⟩ => ⟨he, ⟨w', x.h.trans (hb.mono (Nat.le_trans hB x.h.size))⟩, rfl⟩
theorem calm_region {P : Program} {id : Nat} {Q : Exit → Act → World → Prop} {a : Act} {w : World} {l : List Oper} (B : Nat) (hm : P.follows .mixedOrders = true) (hB : Region.lexB .any l.toArray = true)
    (h : wpQuiet P l.toArray (fun w' => ∃ x : BW B w, w' = x.w) (fun a' => ∀ w', (∃ x : BW B w, w' = x.w) → Q .normal a' w') l a) : (Code.region id l.toArray true).wp P Q a w :=
  wp_region_quiet (C := fun w' => ∃ x : BW B w, w' = x.w) hm hB ⟨⟨w.drew, ⟨rfl, rfl, rfl, Nat.le_refl _, fun _ _ => rfl⟩⟩, rfl⟩ (by simpa using h)

/-- A world of a class. -/
structure CW (C : World → Prop) where
  w : World
  h : C w
theorem CW.all {C : World → Prop} {W : World} (h : C W) {p : Prop} : (CW C → p) ↔ p := ⟨fun f => f ⟨W, h⟩, fun h _ => h⟩
theorem Calls.cw {P : Program} {f : FuncId} {args : Array Value} {v : Value} {C : World → Prop} {x : CW C} (h : Calls P f args x.w fun e w' => e = .returned v ∧ C w') :
    Calls P f args x.w fun e w'' => e = .returned v ∧ ∃ y : CW C, w'' = y.w :=
  h.mono fun _ w' ⟨he, hc⟩ => ⟨he, ⟨w', hc⟩, rfl⟩
theorem class_region {P : Program} {id : Nat} {Q : Exit → Act → World → Prop} {a : Act} {w : World} {l : List Oper} (C : World → Prop) (hC : C w.drew) (hm : P.follows .mixedOrders = true) (hB : Region.lexB .any l.toArray = true)
    (h : wpQuiet P l.toArray (fun w' => ∃ x : CW C, w' = x.w) (fun a' => ∀ w', (∃ x : CW C, w' = x.w) → Q .normal a' w') l a) : (Code.region id l.toArray true).wp P Q a w :=
  wp_region_quiet (C := fun w' => ∃ x : CW C, w' = x.w) hm hB ⟨⟨w.drew, hC⟩, rfl⟩ (by simpa using h)
end Go.Proofs.Ytaefjibnnbdaaaa

/- Whether a place is a dir of entries, by the model. -/
namespace Go.Proofs.Ytaefjibnnbdaaaa
open Go.RowKit Go.Shelf

def dirE (es : List Ent) (q : ByteArray) : Bool := q.toList.isEmpty || (thereE es q && (entFn es (placeE es q)).kind == 1)
def sortAt (es : List Ent) (i : Nat) : Bool := entB (entFn es i) && (i == 0 || ltS (entFn es (i - 1)).path (entFn es i).path)
def treeB (es : List Ent) : Bool := (List.range es.length).all (sortAt es) && (List.range es.length).all (fun i => dirE es (upS (entFn es i).path)) && decide (es.length ≤ 16)

theorem EntsAt.drewN {W : World} {a : Option Addr} {es : List Ent} (h : EntsAt W a es) (n : Nat) : EntsAt (W.drewN n) a es := h.below (drewN_below _ _)
set_option maxRecDepth 100000 in
set_option maxHeartbeats 2000000 in
theorem l2Dir_any (es : List Ent) (a : Option Addr) (cap : Nat) (q : ByteArray) (w : World) (hlen : es.length ≤ 1048576) (h : EntsAt w a es) :
    Calls Try.prog 60 #[.slice a es.length cap, .string q] w fun x w' => x = .returned (.bool (dirE es q)) ∧ ∃ n, w' = w.drewN n := by
  have HH := hid h
  cases he : q.toList.isEmpty
  · cases ht : thereE es q
    · have E := hid (show dirE es q = false by unfold dirE; rw [he, ht]; rfl)
      clear h
      go_enter Try.func60, Try.ntmps60
      go_wp2_with fail
      refine (l2At_any es a cap q _ hlen (unhid HH)).mono ?_
      rintro x w' ⟨rfl, n, rfl⟩
      rw [ht]
      go_wp2_with fail
      go_ret
      exact ⟨by rw [unhid E]; rfl, _, rfl⟩
    · obtain ⟨e, hek, heq⟩ : ∃ e, es[placeE es q]? = some e ∧ eqS e.path q = true := by
        unfold thereE at ht
        cases hx : es[placeE es q]? with
        | none => rw [hx] at ht; cases ht
        | some e => rw [hx] at ht; exact ⟨e, rfl, ht⟩
      have hkl : placeE es q < es.length := (List.getElem?_eq_some_iff.1 hek).1
      obtain ⟨b, o, rfl, hbl, hc⟩ := h.get (by intro e; subst e; simp at hkl)
      obtain ⟨c0, c1, c2, c3⟩ := hc _ e hek
      have E := hid (show dirE es q = (e.kind == 1) by unfold dirE; rw [he, ht, entFn_get hek]; rfl)
      clear hc hek heq h
      go_enter Try.func60, Try.ntmps60
      go_wp2_with fail
      refine (l2At_any es _ cap q _ hlen (unhid HH)).mono ?_
      rintro x w' ⟨rfl, n, rfl⟩
      rw [ht]
      go_wp2_with fail
      go_ret
      exact ⟨by rw [unhid E]; rfl, _, rfl⟩
  · have E := hid (show dirE es q = true by unfold dirE; rw [he]; rfl)
    clear h
    go_enter Try.func60, Try.ntmps60
    go_wp2_with fail
    refine (l2At_any es a cap q _ hlen (unhid HH)).mono ?_
    rintro x w' ⟨rfl, n, rfl⟩
    go_wp2_with fail
    go_ret
    exact ⟨by rw [unhid E]; rfl, _, rfl⟩

end Go.Proofs.Ytaefjibnnbdaaaa

/- Whether entries are a tree, by the model. -/
namespace Go.Proofs.Ytaefjibnnbdaaaa
open Go.RowKit Go.Shelf

def smallE (es : List Ent) : Prop := es.length ≤ 1048576 ∧ ∀ e ∈ es, e.path.size ≤ 1048576 ∧ e.text.size ≤ 1048576
theorem all_range_no {n k : Nat} {f : Nat → Bool} (hk : k < n) (h : f k = false) : (List.range n).all f = false := List.all_eq_false.2 ⟨k, List.mem_range.2 hk, by simp [h]⟩
theorem all_range_snoc {k : Nat} {f : Nat → Bool} (ha : (List.range k).all f = true) (h : f k = true) : (List.range (k + 1)).all f = true := by rw [List.range_succ, List.all_append, ha]; simp [h]

set_option maxRecDepth 100000 in
set_option maxHeartbeats 8000000 in
theorem specTreeOk_any (es : List Ent) (a : Option Addr) (cap : Nat) (w : World) (hs : smallE es) (h : EntsAt w a es) :
    Calls Try.prog 22 #[.slice a es.length cap] w fun x w' => x = .returned (.bool (treeB es)) ∧ Below w.heap.size w w' := by
  obtain ⟨hlen, hz⟩ := hs
  have HH := hid h
  have HZ := hid hz
  clear h hz
  go_enter Try.func22, Try.ntmps22
  go_wp2_with fail
  go_loopw [3] (fun i wr => ∃ k : Nat, k ≤ es.length ∧ i = .int .i64 k ∧ Hid ((List.range k).all (sortAt es) = true) ∧ Below w.heap.size w wr) (fun i _ => es.length - (intOf i).toNat)
  case atStart => exact ⟨0, Nat.zero_le _, rfl, hid rfl, Below.refl _ _⟩
  case round =>
    obtain ⟨k, hk, rfl, hall, hB⟩ := hrel
    by_cases hlt : k < es.length
    · obtain ⟨e, he⟩ : ∃ e, es[k]? = some e := ⟨es[k], List.getElem?_eq_getElem hlt⟩
      obtain ⟨b, o, rfl, hbl, hc⟩ := (unhid HH).get (by intro e; subst e; simp at hlt)
      obtain ⟨c0, c1, c2, c3⟩ := (hc k e he).below hB hbl
      obtain ⟨z1, z2⟩ := unhid HZ e (List.mem_of_getElem? he)
      have hf := entFn_get he
      have HB := hid hB
      have hbw := Nat.lt_of_lt_of_le hbl hB.size
      have g0 := BW.cell (B := wr.heap.size) hbw c0
      have g1 := BW.cell (B := wr.heap.size) hbw c1
      have g2 := BW.cell (B := wr.heap.size) hbw c2
      have g3 := BW.cell (B := wr.heap.size) hbw c3
      cases he1 : entB e
      · have hno : sortAt es k = false := by unfold sortAt; rw [hf, he1]; rfl
        have E := hid (show treeB es = false by unfold treeB; rw [all_range_no hlt hno]; rfl)
        clear hc he hf hno hB c0 c1 c2 c3
        go_wp2_with fail
        have hba := @BW.all wr.heap.size wr
        refine calm_region wr.heap.size (by kernel_rfl) (by kernel_rfl) ?_
        repeat (go_big_quiet_step ((go_at_call 59; refine Calls.bw (v := .bool false) (Nat.le_refl _) ((l2Entry_any e z1 z2 _).mono ?_); rintro r w2 ⟨rfl, hb⟩; exact ⟨by rw [he1], hb⟩)))
        refine wpQuiet_nil ?_
        intro _ hw
        obtain ⟨⟨w2, hB2⟩, hw⟩ := hw
        subst hw
        have HB2 := hid ((unhid HB).trans (hB2.mono (unhid HB).size))
        clear hB2 hba g0 g1 g2 g3
        go_wp2_with fail
        go_ret
        exact ⟨by rw [unhid E]; rfl, unhid HB2⟩
      · rcases k with _ | j
        · have hyes : sortAt es 0 = true := by unfold sortAt; rw [hf, he1]; rfl
          have HY := hid (all_range_snoc (unhid hall) hyes)
          simp only [Nat.zero_mul, Nat.add_zero] at g0 g1 g2 g3
          clear hc he hf hyes hB c0 c1 c2 c3
          go_wp2_with fail
          have hba := @BW.all wr.heap.size wr
          refine calm_region wr.heap.size (by kernel_rfl) (by kernel_rfl) ?_
          repeat (go_big_quiet_step ((go_at_call 59; refine Calls.bw (v := .bool true) (Nat.le_refl _) ((l2Entry_any e z1 z2 _).mono ?_); rintro r w2 ⟨rfl, hb⟩; exact ⟨by rw [he1], hb⟩)))
          refine wpQuiet_nil ?_
          intro _ hw
          obtain ⟨⟨w2, hB2⟩, hw⟩ := hw
          subst hw
          have HB2 := hid ((unhid HB).trans (hB2.mono (unhid HB).size))
          clear hB2 hba g0 g1 g2 g3
          go_wp2_with fail
          go_roundw
          case rel => exact ⟨1, by omega, rfl, HY, unhid HB2⟩
          case measure => simp [intOf]; omega
        · obtain ⟨e0, he0⟩ : ∃ e, es[j]? = some e := ⟨es[j], List.getElem?_eq_getElem (by omega)⟩
          have hf0 := entFn_get he0
          have d0 := ((hc j e0 he0).below hB hbl).c0
          have y0 := BW.cell (B := wr.heap.size) hbw d0
          have hk0' : (0 : Int) < (j : Int) + 1 := by omega
          cases hq : Op.bytesLess e0.path.toList e.path.toList
          · have hno : sortAt es (j + 1) = false := by unfold sortAt ltS; rw [hf, Nat.add_sub_cancel, hf0, he1, hq]; rfl
            have E := hid (show treeB es = false by unfold treeB; rw [all_range_no hlt hno]; rfl)
            clear hc he hf hno hB c0 c1 c2 c3 he0 hf0 d0
            go_wp2_with fail
            have hba := @BW.all wr.heap.size wr
            refine calm_region wr.heap.size (by kernel_rfl) (by kernel_rfl) ?_
            repeat (go_big_quiet_step ((go_at_call 59; refine Calls.bw (v := .bool true) (Nat.le_refl _) ((l2Entry_any e z1 z2 _).mono ?_); rintro r w2 ⟨rfl, hb⟩; exact ⟨by rw [he1], hb⟩)))
            refine wpQuiet_nil ?_
            intro _ hw
            obtain ⟨⟨w2, hB2⟩, hw⟩ := hw
            subst hw
            have HB2 := hid ((unhid HB).trans (hB2.mono (unhid HB).size))
            clear hB2 hba g0 g1 g2 g3
            go_wp2_with fail
            go_ret
            exact ⟨by rw [unhid E]; rfl, unhid HB2⟩
          · have hyes : sortAt es (j + 1) = true := by unfold sortAt ltS; rw [hf, Nat.add_sub_cancel, hf0, he1, hq]; rfl
            have HY := hid (all_range_snoc (unhid hall) hyes)
            clear hc he hf hyes hB c0 c1 c2 c3 he0 hf0 d0
            go_wp2_with fail
            have hba := @BW.all wr.heap.size wr
            refine calm_region wr.heap.size (by kernel_rfl) (by kernel_rfl) ?_
            repeat (go_big_quiet_step ((go_at_call 59; refine Calls.bw (v := .bool true) (Nat.le_refl _) ((l2Entry_any e z1 z2 _).mono ?_); rintro r w2 ⟨rfl, hb⟩; exact ⟨by rw [he1], hb⟩)))
            refine wpQuiet_nil ?_
            intro _ hw
            obtain ⟨⟨w2, hB2⟩, hw⟩ := hw
            subst hw
            have HB2 := hid ((unhid HB).trans (hB2.mono (unhid HB).size))
            clear hB2 hba g0 g1 g2 g3
            go_wp2_with fail
            go_roundw
            case rel => exact ⟨j + 1 + 1, by omega, by go_num, HY, unhid HB2⟩
            case measure => simp [intOf]; omega
    · have hke : k = es.length := by omega
      have HSO := hid (show (List.range es.length).all (sortAt es) = true by rw [← hke]; exact unhid hall)
      have HB := hid hB
      have hlt' : ¬ (k : Int) < es.length := by omega
      clear hall hke hB
      go_wp2_with fail
      go_loopw [4] (fun i wr => ∃ k : Nat, k ≤ es.length ∧ i = .int .i64 k ∧ Hid ((List.range k).all (fun i => dirE es (upS (entFn es i).path)) = true) ∧ Below w.heap.size w wr) (fun i _ => es.length - (intOf i).toNat)
      case atStart => exact ⟨0, Nat.zero_le _, rfl, hid rfl, unhid HB⟩
      case round =>
        obtain ⟨k, hk, rfl, hall, hB⟩ := hrel
        clear HB
        by_cases hlt : k < es.length
        · obtain ⟨e, he⟩ : ∃ e, es[k]? = some e := ⟨es[k], List.getElem?_eq_getElem hlt⟩
          have hAt := (unhid HH).below (W' := wr) ⟨hB.os, hB.tape, hB.output, hB.size, hB.block⟩
          obtain ⟨b, o, rfl, hbl, hc⟩ := (unhid HH).get (by intro e; subst e; simp at hlt)
          obtain ⟨c0, c1, c2, c3⟩ := (hc k e he).below hB hbl
          obtain ⟨z1, z2⟩ := unhid HZ e (List.mem_of_getElem? he)
          have zm : e.path.size ≤ maxLen := by unfold maxLen; omega
          have HF := hid (entFn_get he)
          have HB := hid hB
          have HA := hid hAt
          clear hc he hB hAt
          cases hd : dirE es (upS e.path)
          · have E := hid (show treeB es = false by unfold treeB; rw [all_range_no (f := fun i => dirE es (upS (entFn es i).path)) hlt (by rw [unhid HF]; exact hd)]; simp)
            go_wp2_with (first | (go_at_call 61; refine (l1Up_any _ zm _).mono ?_; rintro r w2 ⟨rfl, rfl⟩) | (go_at_call 60; refine (l2Dir_any es _ cap _ _ hlen (unhid HA)).mono ?_; rintro r w2 ⟨rfl, n, rfl⟩; rw [hd]))
            go_ret
            exact ⟨by rw [unhid E]; rfl, (unhid HB).trans (drewN_below _ _)⟩
          · go_wp2_with (first | (go_at_call 61; refine (l1Up_any _ zm _).mono ?_; rintro r w2 ⟨rfl, rfl⟩) | (go_at_call 60; refine (l2Dir_any es _ cap _ _ hlen (unhid HA)).mono ?_; rintro r w2 ⟨rfl, n, rfl⟩; rw [hd]))
            go_roundw
            case rel => exact ⟨k + 1, by omega, by go_num, hid (all_range_snoc (unhid hall) (by rw [unhid HF]; exact hd)), (unhid HB).trans (drewN_below _ _)⟩
            case measure => simp [intOf]; omega
        · have hke : k = es.length := by omega
          have E := hid (show treeB es = decide ((es.length : Int) ≤ 16) by
            unfold treeB
            rw [unhid HSO, show (List.range es.length).all (fun i => dirE es (upS (entFn es i).path)) = true by rw [← hke]; exact unhid hall]
            exact decide_eq_decide.2 (by omega))
          have hlt' : ¬ (k : Int) < es.length := by omega
          clear hke
          go_wp2_with fail
          go_ret
          exact ⟨by rw [unhid E]; rfl, hB⟩
end Go.Proofs.Ytaefjibnnbdaaaa

/- What an entry is kept as: a value of an interface with a type for each kind. -/
namespace Go.Proofs.Ytaefjibnnbdaaaa
open Go.RowKit Go.Shelf

theorem isLineByte_any (c : Int) (w : World) :
    Calls Try.prog 174 #[.int .u8 c] w fun e w' => e = .returned (.bool (decide (32 ≤ c) && decide (c ≤ 126))) ∧ w' = w := by
  by_cases h1 : 32 ≤ c <;> by_cases h2 : c ≤ 126 <;>
  · go_enter Try.func174, Try.ntmps174
    go_wp2
    go_ret
    exact ⟨by simp [h1, h2], rfl⟩
theorem isTextByte_any (c : Int) (w : World) :
    Calls Try.prog 173 #[.int .u8 c] w fun e w' => e = .returned (.bool (txtB c)) ∧ w' = w := by
  cases h1 : (decide (32 ≤ c) && decide (c ≤ 126)) <;> cases h2 : (c == 10) <;>
  · have E := hid (show txtB c = ((c == 10) || (decide (32 ≤ c) && decide (c ≤ 126))) from rfl)
    go_enter Try.func173, Try.ntmps173
    go_wp2_with (go_at_call 174; refine (isLineByte_any _ _).mono ?_; rintro e w' ⟨rfl, rfl⟩; rw [h1])
    go_ret
    exact ⟨by rw [unhid E, h1, h2]; rfl, rfl⟩
theorem egText : ∀ args w, (callFunc 173 args).run Try.prog w = .ok (.enter 173 args) w := enters_of Try.func173 (by kernel_rfl) rfl
set_option maxRecDepth 100000 in
theorem textOk_any (s : ByteArray) (hs : s.size ≤ maxLen) (w : World) :
    Calls Try.prog 172 #[.string s] w fun e w' => e = .returned (.bool (textB s.data.toList)) ∧ Below w.heap.size w w' := by
  have hs' : s.size ≤ 9223372036854775807 := hs
  by_cases h : (s.size : Int) ≤ 80
  · have E := hid (show (s.data.toList.all fun c => txtB c.toNat) = textB s.data.toList by unfold textB; rw [← Lib.size_eq, decide_eq_true (by omega)]; rfl)
    go_enter Try.func172, Try.ntmps172
    go_wp2_with fail
    refine (allBytes_any 173 txtB egText isTextByte_any s hs _).mono ?_
    rintro e w2 ⟨rfl, hb⟩
    rw [unhid E]
    go_wp2_with fail
    go_ret
    exact ⟨rfl, hb⟩
  · have E := hid (show textB s.data.toList = false by unfold textB; rw [← Lib.size_eq, decide_eq_false (by omega)]; rfl)
    have h' : decide ((s.size : Int) ≤ 80) = false := decide_eq_false h
    go_enter Try.func172, Try.ntmps172
    go_wp2_with fail
    go_ret
    exact ⟨by rw [unhid E]; rfl, Below.refl _ _⟩
theorem modeOk_any (m : Int) (w : World) : Calls Try.prog 170 #[.int .i64 m] w fun e w' => e = .returned (.bool (modeB m)) ∧ w' = w := by
  have E := hid (show modeB m = (decide (0 ≤ m) && decide (m ≤ 7)) from rfl)
  by_cases h1 : 0 ≤ m <;> by_cases h2 : m ≤ 7 <;>
  · go_enter Try.func170, Try.ntmps170
    go_wp2
    go_ret
    exact ⟨by rw [unhid E]; simp [h1, h2], rfl⟩

theorem dirFine_any (m : Int) (w : World) : Calls Try.prog 169 #[.agg #[.int .i64 m]] w fun e w' => e = .returned (.bool (modeB m)) ∧ Below w.heap.size w w' := by
  go_enter Try.func169, Try.ntmps169
  go_wp2_with (go_at_call 170; refine (modeOk_any _ _).mono ?_; rintro e w' ⟨rfl, rfl⟩)
  go_ret
  exact ⟨rfl, (Below.refl _ _).alloc (Nat.le_refl _) _⟩
theorem linkFine_any (t : ByteArray) (ht : t.size ≤ maxLen) (w : World) : Calls Try.prog 168 #[.agg #[.string t]] w fun e w' => e = .returned (.bool (pathB t.data.toList)) ∧ Below w.heap.size w w' := by
  go_enter Try.func168, Try.ntmps168
  go_wp2_with fail
  refine (PathOk_any t ht _).mono ?_
  rintro e w2 ⟨rfl, hb⟩
  go_wp2_with fail
  go_ret
  exact ⟨rfl, ((Below.refl _ _).alloc (Nat.le_refl _) _).trans (hb.mono (by simp))⟩
set_option maxRecDepth 100000 in
theorem fileFine_any (m : Int) (t : ByteArray) (ht : t.size ≤ maxLen) (w : World) : Calls Try.prog 171 #[.agg #[.int .i64 m, .string t]] w fun e w' => e = .returned (.bool (modeB m && textB t.data.toList)) ∧ Below w.heap.size w w' := by
  cases hm : modeB m
  · go_enter Try.func171, Try.ntmps171
    go_wp2_with (go_at_call 170; refine (modeOk_any _ _).mono ?_; rintro e w' ⟨rfl, rfl⟩; rw [hm])
    go_ret
    exact ⟨rfl, (Below.refl _ _).alloc (Nat.le_refl _) _⟩
  · go_enter Try.func171, Try.ntmps171
    go_wp2_with (go_at_call 170; refine (modeOk_any _ _).mono ?_; rintro e w' ⟨rfl, rfl⟩; rw [hm])
    refine (textOk_any t ht _).mono ?_
    rintro e w2 ⟨rfl, hb⟩
    go_wp2_with fail
    go_ret
    exact ⟨rfl, ((Below.refl _ _).alloc (Nat.le_refl _) _).trans (hb.mono (by simp))⟩

theorem upon_run {P : Program} {o : Oper} {a : Act} {K : Act → World → Prop} {E : Exit → Act → World → Prop} {α : Type} {x y : Result α} {f : α → World → Result Next} (h : x = y) (g : Oper.upon P o a K E (y.andThen f)) : Oper.upon P o a K E (x.andThen f) := h ▸ g

def nodeV (e : Ent) : Value := if e.kind = 1 then .iface 110 (.agg #[.int .i64 e.mode]) else if e.kind = 2 then .iface 112 (.agg #[.int .i64 e.mode, .string e.text]) else .iface 107 (.agg #[.string e.text])

set_option maxRecDepth 100000 in
set_option maxHeartbeats 8000000 in
theorem nodeOf_any (e : Ent) (hp : e.path.size ≤ maxLen) (ht : e.text.size ≤ maxLen) (w : World) :
    Calls Try.prog 84 #[.agg e.vals] w fun x w' => (∃ v, x = .returned (.tuple #[v, .bool (entB e)]) ∧ (v = .nilIface ∨ v = nodeV e) ∧ (entB e = true → v = nodeV e)) ∧ Below w.heap.size w w' := by
  obtain ⟨p, k, m, t⟩ := e
  unfold Ent.vals
  dsimp only at hp ht ⊢
  have hB0 : Below w.heap.size w (w.alloc (.cells #[.string p, .int .i64 k, .int .i64 m, .string t] 27)) := (Below.refl _ w).alloc (Nat.le_refl _) _
  have HB0 := hid hB0
  have hz0 : w.heap.size ≤ (w.alloc (.cells #[.string p, .int .i64 k, .int .i64 m, .string t] 27)).heap.size := by simp
  clear hB0
  have hE : entB ⟨p, k, m, t⟩ = (pathB p.data.toList && (if k = 1 then modeB m && t.data.toList.isEmpty else if k = 2 then modeB m && textB t.data.toList else k == 3 && (m == 0 && pathB t.data.toList))) := rfl
  have E := hid hE
  clear hE
  by_cases k1 : k = 1
  · subst k1
    have hnv : nodeV ⟨p, 1, m, t⟩ = .iface 110 (.agg #[.int .i64 m]) := by unfold nodeV; rw [if_pos rfl]
    have HN := hid hnv
    clear hnv
    cases hte : t.toList.isEmpty
    · have hte' : t.data.toList.isEmpty = false := by rw [← Lib.toList_data]; exact hte
      have EE := hid (show entB ⟨p, 1, m, t⟩ = false by rw [unhid E, if_pos rfl, hte']; simp)
      clear hte'
      go_enter Try.func84, Try.ntmps84
      go_wp2_with fail
      go_ret2
      exact ⟨⟨_, by rw [unhid EE]; rfl, .inl rfl, fun h => by rw [unhid EE] at h; cases h⟩, unhid HB0⟩
    · have hte' : t.data.toList.isEmpty = true := by rw [← Lib.toList_data]; exact hte
      have E1 := hid (show entB ⟨p, 1, m, t⟩ = (pathB p.data.toList && modeB m) by rw [unhid E, if_pos rfl, hte', Bool.and_true])
      clear hte'
      cases hpp : pathB p.data.toList
      · have EE := hid (show entB ⟨p, 1, m, t⟩ = false by rw [unhid E1, hpp]; rfl)
        go_enter Try.func84, Try.ntmps84
        go_wp2_with fail
        refine (PathOk_any p hp _).mono ?_
        rintro x w2 ⟨rfl, hb⟩
        rw [hpp]
        have HB := hid ((unhid HB0).trans (hb.mono hz0))
        clear hb
        go_wp2_with fail
        go_ret2
        exact ⟨⟨_, by rw [unhid EE]; rfl, .inr (unhid HN).symm, fun h => by rw [unhid EE] at h; cases h⟩, unhid HB⟩
      · have EE := hid (show entB ⟨p, 1, m, t⟩ = (modeB m) by rw [unhid E1, hpp]; rfl)
        go_enter Try.func84, Try.ntmps84
        go_wp2_with fail
        refine (PathOk_any p hp _).mono ?_
        rintro x w2 ⟨rfl, hb⟩
        rw [hpp]
        have HB := hid ((unhid HB0).trans (hb.mono hz0))
        clear hb
        go_wp2_with fail
        refine upon_run (y := .ok (169, .agg #[.int .i64 m]) w2) (by kernel_rfl) ?_
        go_wp2_with fail
        refine (dirFine_any m w2).mono ?_
        rintro x w3 ⟨rfl, hb⟩
        have HB3 := hid ((unhid HB).trans (hb.mono (unhid HB).size))
        clear hb
        rw [← unhid EE]
        go_wp2_with fail
        go_ret2
        exact ⟨⟨_, rfl, .inr (unhid HN).symm, fun _ => (unhid HN).symm⟩, unhid HB3⟩
  · have k1' : (k == 1) = false := by simpa using k1
    by_cases k2 : k = 2
    · subst k2
      have hnv : nodeV ⟨p, 2, m, t⟩ = .iface 112 (.agg #[.int .i64 m, .string t]) := by unfold nodeV; rw [if_neg (by omega), if_pos rfl]
      have HN := hid hnv
      have E1 := hid (show entB ⟨p, 2, m, t⟩ = (pathB p.data.toList && (modeB m && textB t.data.toList)) by rw [unhid E, if_neg (by omega), if_pos rfl])
      clear hnv
      cases hpp : pathB p.data.toList
      · have EE := hid (show entB ⟨p, 2, m, t⟩ = false by rw [unhid E1, hpp]; rfl)
        go_enter Try.func84, Try.ntmps84
        go_wp2_with fail
        refine (PathOk_any p hp _).mono ?_
        rintro x w2 ⟨rfl, hb⟩
        rw [hpp]
        have HB := hid ((unhid HB0).trans (hb.mono hz0))
        clear hb
        go_wp2_with fail
        go_ret2
        exact ⟨⟨_, by rw [unhid EE]; rfl, .inr (unhid HN).symm, fun h => by rw [unhid EE] at h; cases h⟩, unhid HB⟩
      · have EE := hid (show entB ⟨p, 2, m, t⟩ = (modeB m && textB t.data.toList) by rw [unhid E1, hpp]; rfl)
        go_enter Try.func84, Try.ntmps84
        go_wp2_with fail
        refine (PathOk_any p hp _).mono ?_
        rintro x w2 ⟨rfl, hb⟩
        rw [hpp]
        have HB := hid ((unhid HB0).trans (hb.mono hz0))
        clear hb
        go_wp2_with fail
        refine upon_run (y := .ok (171, .agg #[.int .i64 m, .string t]) w2) (by kernel_rfl) ?_
        go_wp2_with fail
        refine (fileFine_any m t ht w2).mono ?_
        rintro x w3 ⟨rfl, hb⟩
        have HB3 := hid ((unhid HB).trans (hb.mono (unhid HB).size))
        clear hb
        rw [← unhid EE]
        go_wp2_with fail
        go_ret2
        exact ⟨⟨_, rfl, .inr (unhid HN).symm, fun _ => (unhid HN).symm⟩, unhid HB3⟩
    · have k2' : (k == 2) = false := by simpa using k2
      have hnv : nodeV ⟨p, k, m, t⟩ = .iface 107 (.agg #[.string t]) := by unfold nodeV; rw [if_neg k1, if_neg k2]
      have HN := hid hnv
      have E2 := hid (show entB ⟨p, k, m, t⟩ = (pathB p.data.toList && (k == 3 && (m == 0 && pathB t.data.toList))) by rw [unhid E, if_neg k1, if_neg k2])
      clear hnv
      cases k3 : (k == 3)
      · have EE := hid (show entB ⟨p, k, m, t⟩ = false by rw [unhid E2, k3]; simp)
        clear k1 k2
        go_enter Try.func84, Try.ntmps84
        go_wp2_with fail
        go_ret2
        exact ⟨⟨_, by rw [unhid EE]; rfl, .inl rfl, fun h => by rw [unhid EE] at h; cases h⟩, unhid HB0⟩
      · cases m0 : (m == 0)
        · have EE := hid (show entB ⟨p, k, m, t⟩ = false by rw [unhid E2, m0]; simp)
          clear k1 k2
          go_enter Try.func84, Try.ntmps84
          go_wp2_with fail
          go_ret2
          exact ⟨⟨_, by rw [unhid EE]; rfl, .inl rfl, fun h => by rw [unhid EE] at h; cases h⟩, unhid HB0⟩
        · have E1 := hid (show entB ⟨p, k, m, t⟩ = (pathB p.data.toList && pathB t.data.toList) by rw [unhid E2, k3, m0]; rfl)
          clear k1 k2
          cases hpp : pathB p.data.toList
          · have EE := hid (show entB ⟨p, k, m, t⟩ = false by rw [unhid E1, hpp]; rfl)
            go_enter Try.func84, Try.ntmps84
            go_wp2_with fail
            refine (PathOk_any p hp _).mono ?_
            rintro x w2 ⟨rfl, hb⟩
            rw [hpp]
            have HB := hid ((unhid HB0).trans (hb.mono hz0))
            clear hb
            go_wp2_with fail
            go_ret2
            exact ⟨⟨_, by rw [unhid EE]; rfl, .inr (unhid HN).symm, fun h => by rw [unhid EE] at h; cases h⟩, unhid HB⟩
          · have EE := hid (show entB ⟨p, k, m, t⟩ = (pathB t.data.toList) by rw [unhid E1, hpp]; rfl)
            go_enter Try.func84, Try.ntmps84
            go_wp2_with fail
            refine (PathOk_any p hp _).mono ?_
            rintro x w2 ⟨rfl, hb⟩
            rw [hpp]
            have HB := hid ((unhid HB0).trans (hb.mono hz0))
            clear hb
            go_wp2_with fail
            refine upon_run (y := .ok (168, .agg #[.string t]) w2) (by kernel_rfl) ?_
            go_wp2_with fail
            refine (linkFine_any t ht w2).mono ?_
            rintro x w3 ⟨rfl, hb⟩
            have HB3 := hid ((unhid HB).trans (hb.mono (unhid HB).size))
            clear hb
            rw [← unhid EE]
            go_wp2_with fail
            go_ret2
            exact ⟨⟨_, rfl, .inr (unhid HN).symm, fun _ => (unhid HN).symm⟩, unhid HB3⟩
end Go.Proofs.Ytaefjibnnbdaaaa

/- The library's search in texts that ascend. -/
namespace Go.Proofs.Ytaefjibnnbdaaaa
open Go.RowKit Go.Shelf

/-- A row of texts that is read. -/
def TextsAt (W : World) (a : Option Addr) (ps : List ByteArray) : Prop := ps = [] ∨ ∃ b o, a = some ⟨b, o, .none⟩ ∧ b < W.heap.size ∧ ∀ (i : Nat) x, ps[i]? = some x → W.cell? ⟨b, o + i, .none⟩ = some (.string x)
theorem TextsAt.get {W : World} {a : Option Addr} {ps : List ByteArray} (h : TextsAt W a ps) (hne : ps ≠ []) : ∃ b o, a = some ⟨b, o, .none⟩ ∧ b < W.heap.size ∧ ∀ (i : Nat) x, ps[i]? = some x → W.cell? ⟨b, o + i, .none⟩ = some (.string x) := h.resolve_left hne
/-- Texts that ascend. -/
def Asc (ps : List ByteArray) : Prop := ∀ (i j : Nat) x y, i < j → ps[i]? = some x → ps[j]? = some y → ltS x y = true
def placeP (ps : List ByteArray) (q : ByteArray) : Nat := (ps.takeWhile fun x => ltS x q).length
def thereP (ps : List ByteArray) (q : ByteArray) : Bool := (ps[placeP ps q]?).any fun x => eqS x q
theorem placeP_of : ∀ (ps : List ByteArray) (q : ByteArray) (k : Nat), k ≤ ps.length → (∀ (i : Nat) x, i < k → ps[i]? = some x → ltS x q = true) → (∀ x, ps[k]? = some x → ltS x q = false) → placeP ps q = k
  | [], _, k, hk, _, _ => by simp at hk; subst hk; rfl
  | e :: es, p, 0, _, _, h2 => by
    have := h2 e rfl
    unfold placeP; rw [List.takeWhile_cons]; simp [this]
  | e :: es, p, k + 1, hk, h1, h2 => by
    have h0 := h1 0 e (Nat.succ_pos _) rfl
    have ih := placeP_of es p k (by simpa using hk) (fun i x hi hx => h1 (i + 1) x (by omega) (by simpa using hx)) (fun x hx => h2 x (by simpa using hx))
    unfold placeP at ih ⊢
    rw [List.takeWhile_cons]; simp [h0, ih]

theorem isNaN1_any (s : ByteArray) (w : World) : Calls Try.prog 112 #[.string s] w fun e w' => e = .returned (.bool false) ∧ w' = w := by
  go_enter Try.func112, Try.ntmps112
  go_wp2
  go_ret
  exact ⟨by simp, rfl⟩
theorem isNaN2_any (s : ByteArray) (w : World) : Calls Try.prog 131 #[.string s] w fun e w' => e = .returned (.bool false) ∧ w' = w := by
  go_enter Try.func131, Try.ntmps131
  go_wp2
  go_ret
  exact ⟨by simp, rfl⟩
theorem Less_any (x y : ByteArray) (w : World) : Calls Try.prog 111 #[.string x, .string y] w fun e w' => e = .returned (.bool (ltS x y)) ∧ w' = w := by
  have E := hid (show ltS x y = Op.bytesLess x.toList y.toList from rfl)
  go_enter Try.func111, Try.ntmps111
  go_wp2_with (go_at_call 131; refine (isNaN2_any _ _).mono ?_; rintro e w' ⟨rfl, rfl⟩)
  go_ret
  exact ⟨by rw [unhid E]; rfl, rfl⟩

set_option maxRecDepth 100000 in
set_option maxHeartbeats 4000000 in
theorem BinarySearch_any (ps : List ByteArray) (a : Option Addr) (cap : Nat) (q : ByteArray) (w : World) (hlen : ps.length ≤ 1048576) (hs : Asc ps) (h : TextsAt w a ps) :
    Calls Try.prog 83 #[.slice a ps.length cap, .string q] w fun x w' => x = .returned (.tuple #[.int .i64 (placeP ps q), .bool (thereP ps q)]) ∧ w' = w := by
  have HS := hid hs
  clear hs
  go_enter Try.func83, Try.ntmps83
  go_wp2_with fail
  go_loop [7, 8, 9] (fun i j _ => ∃ (k m : Nat), k ≤ m ∧ m ≤ ps.length ∧ i = .int .i64 k ∧ j = .int .i64 m ∧ Hid (∀ (t : Nat) x, t < k → ps[t]? = some x → ltS x q = true) ∧ Hid (∀ (t : Nat) x, m ≤ t → ps[t]? = some x → ltS x q = false)) (fun i j _ => (intOf j).toNat - (intOf i).toNat)
  case atStart => exact ⟨0, ps.length, Nat.zero_le _, Nat.le_refl _, rfl, rfl, hid (fun t x ht => by omega), hid (fun t x ht hx => by have := (List.getElem?_eq_some_iff.1 hx).1; omega)⟩
  case round =>
    obtain ⟨k, m, hkm, hm, rfl, rfl, hlo, hhi⟩ := hrel
    by_cases hlt : k < m
    · obtain ⟨x, hx⟩ : ∃ x, ps[(k + m) / 2]? = some x := ⟨ps[(k + m) / 2], List.getElem?_eq_getElem (by omega)⟩
      obtain ⟨b, o, rfl, hbl, hc⟩ := h.get (by intro e; subst e; simp at hm; omega)
      have c0 := hc _ x hx
      have HX := hid hx
      have HC := hid hc
      have hlt' : (k : Int) < m := by omega
      have hsm : (k : Int) + m ≤ 4194304 := by omega
      have hall : ∀ (t : Nat) y, t ≤ (k + m) / 2 → ps[t]? = some y → ltS x q = true → ltS y q = true := fun t y ht hy hq => by
        by_cases e : t = (k + m) / 2
        · subst e; rw [hx] at hy; cases hy; exact hq
        · exact lt_tra _ _ _ (unhid HS t _ y x (by omega) hy hx) hq
      have hnone : ∀ (t : Nat) y, (k + m) / 2 ≤ t → ps[t]? = some y → ltS x q = false → ltS y q = false := fun t y ht hy hq => by
        by_cases e : t = (k + m) / 2
        · subst e; rw [hx] at hy; cases hy; exact hq
        · cases hyq : ltS y q
          · rfl
          · have := lt_tra _ _ _ (unhid HS _ t x y (by omega) hx hy) hyq
            unfold ltS at hq; rw [this] at hq; cases hq
      have HA := hid (And.intro hall hnone)
      clear hc hx h hall hnone
      go_wp2_with fail
      refine (Less_any x q _).mono ?_
      rintro r w' ⟨rfl, rfl⟩
      cases hq : ltS x q
      · go_wp2_with fail
        go_round
        case rel => exact ⟨k, (k + m) / 2, by omega, by omega, rfl, by go_num, hlo, hid (fun t y ht hy => (unhid HA).2 t y ht hy hq)⟩
        case measure => simp [intOf]; omega
      · go_wp2_with fail
        go_round
        case rel => exact ⟨(k + m) / 2 + 1, m, by omega, hm, by go_num, rfl, hid (fun t y ht hy => (unhid HA).1 t y (by omega) hy hq), hhi⟩
        case measure => simp [intOf]; omega
    · have hkm' : k = m := by omega
      subst hkm'
      have hlt' : ¬ (k : Int) < k := by omega
      have hpl : placeP ps q = k := placeP_of ps q k hm (unhid hlo) (fun x hx => unhid hhi k x (Nat.le_refl _) hx)
      by_cases hkl : k < ps.length
      · obtain ⟨x, hx⟩ : ∃ x, ps[k]? = some x := ⟨ps[k], List.getElem?_eq_getElem hkl⟩
        obtain ⟨b, o, rfl, hbl, hc⟩ := h.get (by intro e; subst e; simp at hkl)
        have c0 := hc _ x hx
        have hth : thereP ps q = (x.toList == q.toList) := by unfold thereP; rw [hpl, hx]; rfl
        have HP := hid (And.intro hpl hth)
        have hkl' : (k : Int) < ps.length := by omega
        clear hpl hth hx hc h
        cases he : (x.toList == q.toList)
        all_goals
          go_wp2_with (go_at_call 112; refine (isNaN1_any _ _).mono ?_; rintro e w' ⟨rfl, rfl⟩)
          go_ret2
          exact ⟨by rw [(unhid HP).1, (unhid HP).2, he]; rfl, rfl⟩
      · have hth : thereP ps q = false := by unfold thereP; rw [hpl, List.getElem?_eq_none (by omega)]; rfl
        have HP := hid (And.intro hpl hth)
        have hkl' : ¬ (k : Int) < ps.length := by omega
        clear hpl hth h
        go_wp2_with fail
        go_ret2
        exact ⟨by rw [(unhid HP).1, (unhid HP).2]; rfl, rfl⟩
end Go.Proofs.Ytaefjibnnbdaaaa

/- The library's Insert at a row's end. -/
namespace Go.Proofs.Ytaefjibnnbdaaaa
open Go.RowKit Go.Shelf

theorem infoNode : (Try.prog.info? 62).map (fun i => (i.zero, i.size, i.bytes)) = some (some .nilIface, 1, 16) := by kernel_rfl
theorem ownsRow_sh {W : World} {base : Nat} {e : TypeId} {size : Nat} {v : Value} {n : Nat} {xs : List Value} (h : W.ownsRow base e size v n xs) : (v = .slice .none 0 0 ∧ n = 0) ∨ ∃ g cap, v = .slice (some ⟨g, 0, .none⟩) n cap ∧ n ≤ cap := by
  rcases h.2 with h | ⟨g, cap, cur, rfl, _, _, hc, _⟩
  · exact .inl h
  · exact .inr ⟨_, _, rfl, hc⟩
theorem nodeV_one (e : Ent) : (nodeV e).oneCell' = true := by
  unfold nodeV; split
  · rfl
  · split <;> rfl

set_option maxRecDepth 100000 in
set_option maxHeartbeats 4000000 in
theorem InsertS_end (N : Nat) (v : Value) (n : Nat) (xs : List Value) (b : Nat) (p : ByteArray) (w : World) (hn : n ≤ 1000) (hN : N ≤ w.heap.size) (h : w.ownsRow N 9 1 v n xs) (hb : w.cell? ⟨b, 0, .none⟩ = some (.string p)) :
    Calls Try.prog 88 #[v, .int .i64 n, .slice (some ⟨b, 0, .none⟩) 1 1] w fun x w' => ∃ v', x = .returned v' ∧ w'.ownsRow N 9 1 v' (n + 1) (xs ++ [.string p]) ∧ w.grownBy w' v.ownBlock ∧ (v'.ownBlock = v.ownBlock ∨ v'.ownBlock = some w.heap.size) := by
  obtain ⟨i0, hi, hz0, hz1, hz2⟩ := info_parts info9
  have H := hid h
  have hnew : ∀ (j : Nat) u, [.string p][j]? = some u → w.cell? ((⟨b, 0, .none⟩ : Addr).add j) = some u := fun j u hj => by
    match j with
    | 0 => simp at hj; subst hj; exact hb
    | j + 1 => simp at hj
  have HN := hid hnew
  clear hnew
  rcases ownsRow_sh h with ⟨rfl, rfl⟩ | ⟨g, cap, rfl, hc⟩
  · clear h
    go_enter Try.func88, Try.ntmps88
    go_wp2_with (at_builtin; refine wpList_append_own_at _ rfl _ _ 53 rfl N 9 i0 (.string ⟨#[]⟩) 1 16 Try.underlying53 hi hz0 hz1 hz2 rfl (by decide) _ _ _ rfl (unhid H) ⟨b, 0, .none⟩ 1 1 [.string p] rfl rfl (unhid HN) ?c2 ?c3 ?c4 ?c5 ?_)
    case c2 => intro u hu; simp at hu; subst hu; rfl
    case c3 => unfold maxLen; omega
    case c4 => omega
    case c5 => exact hN
    intro v' w1 hown hgrow _ hat
    have HH := hid (And.intro hown (And.intro hgrow hat))
    clear hown hgrow hat
    go_wp2_with fail
    go_ret
    exact ⟨_, rfl, (unhid HH).1, (unhid HH).2⟩
  · clear h
    by_cases hcn : cap = n
    · subst hcn
      go_enter Try.func88, Try.ntmps88
      go_wp2_with (at_builtin; refine wpList_append_own_at _ rfl _ _ 53 rfl N 9 i0 (.string ⟨#[]⟩) 1 16 Try.underlying53 hi hz0 hz1 hz2 rfl (by decide) _ _ _ rfl (unhid H) ⟨b, 0, .none⟩ 1 1 [.string p] rfl rfl (unhid HN) ?c2 ?c3 ?c4 ?c5 ?_)
      case c2 => intro u hu; simp at hu; subst hu; rfl
      case c3 => unfold maxLen; omega
      case c4 => omega
      case c5 => exact hN
      intro v' w1 hown hgrow _ hat
      have HH := hid (And.intro hown (And.intro hgrow hat))
      clear hown hgrow hat
      go_wp2_with fail
      go_ret
      exact ⟨_, rfl, (unhid HH).1, (unhid HH).2⟩
    · have hcn' : ¬ n = cap := fun e => hcn e.symm
      go_enter Try.func88, Try.ntmps88
      go_wp2_with (at_builtin; refine wpList_append_own_at _ rfl _ _ 53 rfl N 9 i0 (.string ⟨#[]⟩) 1 16 Try.underlying53 hi hz0 hz1 hz2 rfl (by decide) _ _ _ rfl (unhid H) ⟨b, 0, .none⟩ 1 1 [.string p] rfl rfl (unhid HN) ?c2 ?c3 ?c4 ?c5 ?_)
      case c2 => intro u hu; simp at hu; subst hu; rfl
      case c3 => unfold maxLen; omega
      case c4 => omega
      case c5 => exact hN
      intro v' w1 hown hgrow _ hat
      have HH := hid (And.intro hown (And.intro hgrow hat))
      clear hown hgrow hat
      go_wp2_with fail
      go_ret
      exact ⟨_, rfl, (unhid HH).1, (unhid HH).2⟩

set_option maxRecDepth 100000 in
set_option maxHeartbeats 4000000 in
theorem InsertN_end (N : Nat) (v : Value) (n : Nat) (xs : List Value) (b : Nat) (e : Ent) (w : World) (hn : n ≤ 1000) (hN : N ≤ w.heap.size) (h : w.ownsRow N 62 1 v n xs) (hb : w.cell? ⟨b, 0, .none⟩ = some (nodeV e)) :
    Calls Try.prog 89 #[v, .int .i64 n, .slice (some ⟨b, 0, .none⟩) 1 1] w fun x w' => ∃ v', x = .returned v' ∧ w'.ownsRow N 62 1 v' (n + 1) (xs ++ [nodeV e]) ∧ w.grownBy w' v.ownBlock ∧ (v'.ownBlock = v.ownBlock ∨ v'.ownBlock = some w.heap.size) := by
  obtain ⟨i0, hi, hz0, hz1, hz2⟩ := info_parts infoNode
  have H := hid h
  have hnew : ∀ (j : Nat) u, [nodeV e][j]? = some u → w.cell? ((⟨b, 0, .none⟩ : Addr).add j) = some u := fun j u hj => by
    match j with
    | 0 => simp at hj; subst hj; exact hb
    | j + 1 => simp at hj
  have HN := hid hnew
  clear hnew
  rcases ownsRow_sh h with ⟨rfl, rfl⟩ | ⟨g, cap, rfl, hc⟩
  · clear h
    go_enter Try.func89, Try.ntmps89
    go_wp2_with (at_builtin; refine wpList_append_own_at _ rfl _ _ 54 rfl N 62 i0 (.nilIface) 1 16 Try.underlying54 hi hz0 hz1 hz2 rfl (by decide) _ _ _ rfl (unhid H) ⟨b, 0, .none⟩ 1 1 [nodeV e] rfl rfl (unhid HN) ?c2 ?c3 ?c4 ?c5 ?_)
    case c2 => intro u hu; simp at hu; subst hu; exact nodeV_one e
    case c3 => unfold maxLen; omega
    case c4 => omega
    case c5 => exact hN
    intro v' w1 hown hgrow _ hat
    have HH := hid (And.intro hown (And.intro hgrow hat))
    clear hown hgrow hat
    go_wp2_with fail
    go_ret
    exact ⟨_, rfl, (unhid HH).1, (unhid HH).2⟩
  · clear h
    by_cases hcn : cap = n
    · subst hcn
      go_enter Try.func89, Try.ntmps89
      go_wp2_with (at_builtin; refine wpList_append_own_at _ rfl _ _ 54 rfl N 62 i0 (.nilIface) 1 16 Try.underlying54 hi hz0 hz1 hz2 rfl (by decide) _ _ _ rfl (unhid H) ⟨b, 0, .none⟩ 1 1 [nodeV e] rfl rfl (unhid HN) ?c2 ?c3 ?c4 ?c5 ?_)
      case c2 => intro u hu; simp at hu; subst hu; exact nodeV_one e
      case c3 => unfold maxLen; omega
      case c4 => omega
      case c5 => exact hN
      intro v' w1 hown hgrow _ hat
      have HH := hid (And.intro hown (And.intro hgrow hat))
      clear hown hgrow hat
      go_wp2_with fail
      go_ret
      exact ⟨_, rfl, (unhid HH).1, (unhid HH).2⟩
    · have hcn' : ¬ n = cap := fun e => hcn e.symm
      go_enter Try.func89, Try.ntmps89
      go_wp2_with (at_builtin; refine wpList_append_own_at _ rfl _ _ 54 rfl N 62 i0 (.nilIface) 1 16 Try.underlying54 hi hz0 hz1 hz2 rfl (by decide) _ _ _ rfl (unhid H) ⟨b, 0, .none⟩ 1 1 [nodeV e] rfl rfl (unhid HN) ?c2 ?c3 ?c4 ?c5 ?_)
      case c2 => intro u hu; simp at hu; subst hu; exact nodeV_one e
      case c3 => unfold maxLen; omega
      case c4 => omega
      case c5 => exact hN
      intro v' w1 hown hgrow _ hat
      have HH := hid (And.intro hown (And.intro hgrow hat))
      clear hown hgrow hat
      go_wp2_with fail
      go_ret
      exact ⟨_, rfl, (unhid HH).1, (unhid HH).2⟩

end Go.Proofs.Ytaefjibnnbdaaaa

/- A tree as the program keeps it; what is at a path of it; whether a path has a place in it. -/
namespace Go.Proofs.Ytaefjibnnbdaaaa
open Go.RowKit Go.Shelf

def pathsOf (es : List Ent) : List ByteArray := es.map (·.path)
/-- The tree of entries at a block: two rows, of paths and of what stands there, from a bound on. -/
def TreeAt (W : World) (N bt : Nat) (es : List Ent) : Prop := ∃ vp vn, W.heap[bt]? = some (.cells #[vp, vn] 58 (0, 0)) ∧ W.ownsRow N 9 1 vp es.length (es.map fun e => .string e.path) ∧ W.ownsRow N 62 1 vn es.length (es.map nodeV)
theorem TreeAt.lt {W : World} {N bt : Nat} {es : List Ent} (h : TreeAt W N bt es) : bt < W.heap.size := by
  obtain ⟨vp, vn, h1, _⟩ := h; exact (Array.getElem?_eq_some_iff.1 h1).1
theorem ownsRow_kept {w w' : World} {base : Nat} {e : TypeId} {size : Nat} {v : Value} {n : Nat} {xs : List Value} (h : w.ownsRow base e size v n xs) (hk : ∀ g, v.ownBlock = some g → w'.heap[g]? = w.heap[g]?) : w'.ownsRow base e size v n xs := by
  refine ⟨h.1, ?_⟩
  rcases h.2 with h1 | ⟨g, cap, cur, rfl, h2, h3, h4⟩
  · exact .inl h1
  · exact .inr ⟨g, cap, cur, rfl, h2, by rw [hk g rfl]; exact h3, h4⟩
theorem TreeAt.below {W W' : World} {N bt : Nat} {es : List Ent} (h : TreeAt W N bt es) (hb : Below W.heap.size W W') : TreeAt W' N bt es := by
  obtain ⟨vp, vn, h1, h2, h3⟩ := h
  exact ⟨vp, vn, (hb.block bt (Array.getElem?_eq_some_iff.1 h1).1).trans h1, ownsRow_kept h2 (fun g e => hb.block g (h2.lt g e).2), ownsRow_kept h3 (fun g e => hb.block g (h3.lt g e).2)⟩
theorem texts_of {W : World} {N : Nat} {v : Value} {es : List Ent} (h : W.ownsRow N 9 1 v es.length (es.map fun e => .string e.path)) : ∃ a cap, v = .slice a (pathsOf es).length cap ∧ TextsAt W a (pathsOf es) := by
  have hl : (pathsOf es).length = es.length := by simp [pathsOf]
  rcases h.2 with ⟨rfl, h0⟩ | ⟨g, cap, cur, rfl, _, hg, hc, _, hsz, hcells⟩
  · exact ⟨.none, 0, by rw [hl, h0], .inl (by rw [← List.length_eq_zero_iff, hl, h0])⟩
  · refine ⟨_, cap, by rw [hl], .inr ⟨g, 0, rfl, (Array.getElem?_eq_some_iff.1 hg).1, fun i x hi => ?_⟩⟩
    have hil : i < es.length := by rw [← hl]; exact (List.getElem?_eq_some_iff.1 hi).1
    have h1 : (cur.toList.take (es.length * 1))[i]? = some (.string x) := by
      rw [hcells, List.getElem?_map]
      unfold pathsOf at hi
      rw [List.getElem?_map] at hi
      cases he : es[i]? with
      | none => rw [he] at hi; cases hi
      | some e => rw [he] at hi; cases hi; rfl
    rw [List.getElem?_take_of_lt (by omega), Array.getElem?_toList] at h1
    simp [World.cell?, hg, h1]
theorem node_of {W : World} {N : Nat} {v : Value} {es : List Ent} {i : Nat} {e : Ent} (h : W.ownsRow N 62 1 v es.length (es.map nodeV)) (he : es[i]? = some e) : ∃ g cap, v = .slice (some ⟨g, 0, .none⟩) es.length cap ∧ W.cell? ⟨g, i, .none⟩ = some (nodeV e) ∧ es.length ≤ cap := by
  have hil : i < es.length := (List.getElem?_eq_some_iff.1 he).1
  rcases h.2 with ⟨rfl, h0⟩ | ⟨g, cap, cur, rfl, _, hg, hc, _, hsz, hcells⟩
  · omega
  · refine ⟨g, cap, rfl, ?_, hc⟩
    have h1 : (cur.toList.take (es.length * 1))[i]? = some (nodeV e) := by rw [hcells, List.getElem?_map, he]; rfl
    rw [List.getElem?_take_of_lt (by omega), Array.getElem?_toList] at h1
    simp [World.cell?, hg, h1]
theorem placeP_E : ∀ (es : List Ent) (p : ByteArray), placeP (pathsOf es) p = placeE es p
  | [], _ => rfl
  | e :: es, p => by
    have ih := placeP_E es p
    unfold placeP placeE pathsOf at *
    rw [List.map_cons, List.takeWhile_cons, List.takeWhile_cons]
    cases ltS e.path p
    · rfl
    · simp only [if_true, List.length_cons, ih]
theorem thereP_E (es : List Ent) (p : ByteArray) : thereP (pathsOf es) p = thereE es p := by
  unfold thereP thereE
  rw [placeP_E]
  unfold pathsOf
  rw [List.getElem?_map]
  cases es[placeE es p]? <;> rfl
theorem there_get {es : List Ent} {p : ByteArray} (h : thereE es p = true) : ∃ e, es[placeE es p]? = some e ∧ e.path = p := by
  unfold thereE at h
  cases hx : es[placeE es p]? with
  | none => rw [hx] at h; cases h
  | some e => rw [hx] at h; exact ⟨e, rfl, (eqS_iff _ _).1 h⟩
def getV (es : List Ent) (p : ByteArray) : Value := if thereE es p then nodeV (entFn es (placeE es p)) else .nilIface

set_option maxRecDepth 100000 in
set_option maxHeartbeats 2000000 in
theorem mapGet_any (N bt : Nat) (es : List Ent) (p : ByteArray) (w : World) (hn : es.length ≤ 1000) (ha : Asc (pathsOf es)) (h : TreeAt w N bt es) :
    Calls Try.prog 45 #[.pointer (some ⟨bt, 0, .none⟩), .string p] w fun x w' => x = .returned (.tuple #[getV es p, .bool (thereE es p)]) ∧ w' = w := by
  obtain ⟨vp, vn, h1, h2, h3⟩ := h
  have c0 : w.cell? ⟨bt, 0, .none⟩ = some vp := by simp [World.cell?, h1]
  have c1 : w.cell? ⟨bt, 1, .none⟩ = some vn := by simp [World.cell?, h1]
  obtain ⟨a, cap, rfl, hT⟩ := texts_of h2
  have hl : (pathsOf es).length ≤ 1048576 := by simp [pathsOf]; omega
  have HT := hid (And.intro hl (And.intro ha hT))
  clear hT ha hl h2
  cases ht : thereE es p
  · have E := hid (show getV es p = .nilIface by unfold getV; rw [ht]; rfl)
    clear h1 h3
    go_enter Try.func45, Try.ntmps45
    go_wp2_with fail
    refine (BinarySearch_any (pathsOf es) a cap p _ (unhid HT).1 (unhid HT).2.1 (unhid HT).2.2).mono ?_
    rintro x w2 ⟨rfl, rfl⟩
    rw [thereP_E, ht]
    go_wp2_with fail
    go_ret2
    exact ⟨by rw [unhid E]; rfl, rfl⟩
  · obtain ⟨e, he, _⟩ := there_get ht
    obtain ⟨g, cap2, rfl, hc, hle⟩ := node_of h3 he
    have hpl : placeE es p < es.length := (List.getElem?_eq_some_iff.1 he).1
    have E := hid (show getV es p = nodeV e by unfold getV; rw [ht, entFn_get he]; rfl)
    clear h1 h3 he
    go_enter Try.func45, Try.ntmps45
    go_wp2_with fail
    refine (BinarySearch_any (pathsOf es) a cap p _ (unhid HT).1 (unhid HT).2.1 (unhid HT).2.2).mono ?_
    rintro x w2 ⟨rfl, rfl⟩
    rw [thereP_E, ht, placeP_E]
    go_wp2_with fail
    go_ret2
    exact ⟨by rw [unhid E]; rfl, rfl⟩
end Go.Proofs.Ytaefjibnnbdaaaa

/- Whether a path has a place in a tree; an entry put at its end. -/
namespace Go.Proofs.Ytaefjibnnbdaaaa
open Go.RowKit Go.Shelf

set_option maxRecDepth 100000 in
set_option maxHeartbeats 4000000 in
theorem isDir_no (w : World) : Calls Try.prog 101 #[.nilIface] w fun x w' => x = .returned (.bool false) ∧ Below w.heap.size w w' := by
  have hta : ∀ w, (Instr.typeAssert .nilIface 62 110 true).run Try.prog w = .ok (.tuple #[.agg #[.int .i64 0], .bool false]) w := fun _ => by kernel_rfl
  go_enter Try.func101, Try.ntmps101
  go_wp2_with fail
  go_ret
  exact ⟨rfl, (Below.refl _ _).alloc (Nat.le_refl _) _⟩
set_option maxRecDepth 100000 in
set_option maxHeartbeats 4000000 in
theorem isDir_node (e : Ent) (w : World) : Calls Try.prog 101 #[nodeV e] w fun x w' => x = .returned (.bool (e.kind == 1)) ∧ Below w.heap.size w w' := by
  by_cases k1 : e.kind = 1
  · rw [show nodeV e = .iface 110 (.agg #[.int .i64 e.mode]) by unfold nodeV; rw [if_pos k1]]
    have hta : ∀ w, (Instr.typeAssert (.iface 110 (.agg #[.int .i64 e.mode])) 62 110 true).run Try.prog w = .ok (.tuple #[.agg #[.int .i64 e.mode], .bool true]) w := fun _ => by kernel_rfl
    rw [k1]
    clear k1
    go_enter Try.func101, Try.ntmps101
    go_wp2_with fail
    go_ret
    exact ⟨rfl, (Below.refl _ _).alloc (Nat.le_refl _) _⟩
  · rw [show (e.kind == 1) = false by simpa using k1]
    by_cases k2 : e.kind = 2
    · rw [show nodeV e = .iface 112 (.agg #[.int .i64 e.mode, .string e.text]) by unfold nodeV; rw [if_neg k1, if_pos k2]]
      have hta : ∀ w, (Instr.typeAssert (.iface 112 (.agg #[.int .i64 e.mode, .string e.text])) 62 110 true).run Try.prog w = .ok (.tuple #[.agg #[.int .i64 0], .bool false]) w := fun _ => by kernel_rfl
      clear k1 k2
      go_enter Try.func101, Try.ntmps101
      go_wp2_with fail
      go_ret
      exact ⟨rfl, (Below.refl _ _).alloc (Nat.le_refl _) _⟩
    · rw [show nodeV e = .iface 107 (.agg #[.string e.text]) by unfold nodeV; rw [if_neg k1, if_neg k2]]
      have hta : ∀ w, (Instr.typeAssert (.iface 107 (.agg #[.string e.text])) 62 110 true).run Try.prog w = .ok (.tuple #[.agg #[.int .i64 0], .bool false]) w := fun _ => by kernel_rfl
      clear k1 k2
      go_enter Try.func101, Try.ntmps101
      go_wp2_with fail
      go_ret
      exact ⟨rfl, (Below.refl _ _).alloc (Nat.le_refl _) _⟩
theorem isDir_get (es : List Ent) (p : ByteArray) (he : p.toList.isEmpty = false) (w : World) : Calls Try.prog 101 #[getV es p] w fun x w' => x = .returned (.bool (dirE es p)) ∧ Below w.heap.size w w' := by
  cases ht : thereE es p
  · rw [show getV es p = .nilIface by unfold getV; rw [ht]; rfl, show dirE es p = false by unfold dirE; rw [he, ht]; rfl]
    exact isDir_no w
  · rw [show getV es p = nodeV (entFn es (placeE es p)) by unfold getV; rw [ht]; rfl, show dirE es p = ((entFn es (placeE es p)).kind == 1) by unfold dirE; rw [he, ht]; simp]
    exact isDir_node _ w

set_option maxRecDepth 100000 in
set_option maxHeartbeats 4000000 in
theorem hasPlace_any (N bt : Nat) (es : List Ent) (p : ByteArray) (w : World) (hp : p.size ≤ maxLen) (hn : es.length ≤ 1000) (ha : Asc (pathsOf es)) (h : TreeAt w N bt es) :
    Calls Try.prog 85 #[.pointer (some ⟨bt, 0, .none⟩), .string p] w fun x w' => x = .returned (.bool (dirE es (pathUpS p))) ∧ Below w.heap.size w w' := by
  have HH := hid h
  have HA := hid ha
  clear h ha
  cases he : (pathUpS p).toList.isEmpty
  · have HE := hid he
    go_enter Try.func85, Try.ntmps85
    go_wp2_with fail
    refine (PathUp_any p hp _).mono ?_
    rintro x w2 ⟨rfl, hb⟩
    have HB := hid hb
    clear hb
    go_wp2_with fail
    refine (mapGet_any N bt es (pathUpS p) w2 hn (unhid HA) ((unhid HH).below (unhid HB))).mono ?_
    rintro x w3 ⟨rfl, hw3⟩
    rw [hw3]
    clear hw3
    have ISD := hid (isDir_get es (pathUpS p) (unhid HE) w2)
    generalize getV es (pathUpS p) = gv at *
    generalize thereE es (pathUpS p) = gt at *
    go_wp2_with fail
    refine (unhid ISD).mono ?_
    rintro x w4 ⟨rfl, hb⟩
    go_wp2_with fail
    go_ret
    exact ⟨rfl, (unhid HB).trans (hb.mono (unhid HB).size)⟩
  · have E := hid (show dirE es (pathUpS p) = true by unfold dirE; rw [he]; rfl)
    go_enter Try.func85, Try.ntmps85
    go_wp2_with fail
    refine (PathUp_any p hp _).mono ?_
    rintro x w2 ⟨rfl, hb⟩
    have HB := hid hb
    clear hb
    go_wp2_with fail
    go_ret
    exact ⟨by rw [unhid E]; rfl, unhid HB⟩
end Go.Proofs.Ytaefjibnnbdaaaa
