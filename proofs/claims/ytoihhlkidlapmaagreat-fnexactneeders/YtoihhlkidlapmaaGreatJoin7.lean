/- Texts of this proof, one behind the other; each says at its head what it shows. -/
import Derived.Test.YtoihhlkidlapmaaGreatJoin6
import Derived.Test.YtoihhlkidlapmaaGreatJoin2
import Derived.Maps.OwnSet
import Derived.StringKeys
import Derived.Test.YtoihhlkidlapmaaGreatJoin4
import Derived.Test.YtoihhlkidlapmaaGreatJoin1
import Derived.Test.YtoihhlkidlapmaaGreatJoin5
import Derived.Shelf.Spec.SlicesInsertGrow
import Derived.Deep.RegionHeld
import Derived.Maps.AppendAt
import Derived.Laws.Entries
import Derived.Deep.Slices
import Derived.Lib.SmallJoins
import Derived.Laws.StructEq
import Derived.Laws.OwnMore
import Derived.Laws.Cover3
import Derived.Lib.SliceRun
import Derived.Deep.RegionLaw
import Derived.Shelf.Small.Strs
import Derived.Test.YtoihhlkidlapmaaGreatProg
import Derived.Test.YtoihhlkidlapmaaGreatJoin3
import Derived.Deep.Draws
import Derived.Laws.AppendOwn
import Derived.RangeFuncBox
import Derived.Lib.Bytes
import Derived.Laws.EntriesVeiled
import Derived.Deep.QuietTactic
import Derived.BigQuiet
import Derived.Maps.OwnIn
import Derived.Deep.OwnRows
/- Closure, by the program: packs that are ok, their names, and where each is. -/
namespace Go.Proofs.YtoihhlkidlapmaaGreat
open Go.RowKit Go.Shelf Go.Maps

set_option maxRecDepth 100000 in
set_option maxHeartbeats 4000000 in
theorem listOkPack_any (ps : List packC.D) (v : Value) (w : World) (hs : smallPs ps) (h : rowAt packC w v ps) :
    Calls Tryz.prog 59 #[v, .int .i64 (ps.length : Int), .func (.func 60) #[] #[]] w fun x w' => x = .returned (.bool (allPk ps)) ∧ Below w.heap.size w w' := by
  obtain ⟨a, cap, rfl, -, -, h⟩ := h
  have hlen := hs.1
  have HSM := hid hs
  have H := hid h
  clear h hs
  go_enter Tryz.func59, Tryz.ntmps59
  go_wp2_with fail
  go_loopw [15] (fun i wr => ∃ k : Nat, k ≤ ps.length ∧ i = .int .i64 (k : Int) ∧ Hid (allPk (ps.take k) = true) ∧ Hid (Below w.heap.size w wr)) (fun i _ => ps.length - (intOf i).toNat)
  case atStart => exact ⟨0, Nat.zero_le _, rfl, hid rfl, hid (Below.refl _ _)⟩
  case round =>
    obtain ⟨k, hk, rfl, HA, HB⟩ := hrel
    by_cases hlt : k < ps.length
    · obtain ⟨e, he⟩ : ∃ e, ps[k]? = some e := ⟨ps[k], List.getElem?_eq_getElem hlt⟩
      obtain ⟨b, o, rfl, hbl, hc⟩ := (unhid H).resolve_left (by intro e; subst e; simp at hlt)
      obtain ⟨na, nc, ta, tc, ⟨c0, c1, c2, c3⟩, hat⟩ := pack_cells (unhid HB) hbl hc he
      have HAT := hid hat
      have HS := hid ((unhid HSM).2 e (List.mem_of_getElem? he))
      have HE := hid he
      have HBA := hid (show ∀ x, Below w.heap.size w (wr.alloc x) from fun x => (unhid HB).alloc (unhid HB).size x)
      have HBR := hid (show ∀ x, Below wr.heap.size wr (wr.alloc x) from fun x => (Below.refl _ wr).alloc (Nat.le_refl _) x)
      clear hc he hbl HB hat
      go_wp2_with fail
      refine (packOk_any e _ _ (unhid HS) (packC.below (unhid HAT) (unhid HBR _))).mono ?_
      rintro x w2 ⟨rfl, hb⟩
      have HB2 := hid ((unhid HBA _).trans (hb.mono (unhid HBA _).size))
      clear hb c0 c1 c2 c3 HBA HBR
      cases hq : pkOk e with
      | false =>
        have E := hid (allPk_no (unhid HE) hq)
        go_wp2_with fail
        go_ret
        exact ⟨by rw [unhid E]; rfl, unhid HB2⟩
      | true =>
        have HQ := hid hq
        clear hq
        go_wp2_with fail
        go_roundw
        case rel => exact ⟨k + 1, by omega, by go_num, hid (all_take_next (p := fun q : packC.D => pkOk q) (unhid HE) (unhid HA) (unhid HQ)), HB2⟩
        case measure => simp [intOf]; omega
    · have e : k = ps.length := by omega
      subst e
      have E := hid (show allPk ps = true by have := unhid HA; rw [List.take_of_length_le (Nat.le_refl _)] at this; exact this)
      go_wp2_with fail
      go_ret
      exact ⟨by rw [unhid E]; rfl, unhid HB⟩

set_option maxRecDepth 100000 in
set_option maxHeartbeats 1000000 in
theorem packNames1_any (e : packC.D) (na : Option Addr) (nc : Nat) (ta : Option Addr) (tc : Nat) (w : World) :
    Calls Tryz.prog 119 #[.agg #[.string (PackD.name e), .string (PackD.version e), .slice na (PackD.needs e).length nc, .slice ta (PackD.tree e).length tc]] w fun x w' => x = .returned (.string (PackD.name e)) ∧ Below w.heap.size w w' := by
  have HB := hid (show ∀ x, Below w.heap.size w (w.alloc x) from fun x => (Below.refl _ w).alloc (Nat.le_refl _) x)
  go_enter Tryz.func119, Tryz.ntmps119
  go_wp2_with fail
  go_ret
  exact ⟨rfl, unhid HB _⟩

set_option maxRecDepth 100000 in
set_option maxHeartbeats 4000000 in
theorem packNames_any (ps : List packC.D) (v : Value) (w : World) (hl : ps.length ≤ 1048576) (h : rowAt packC w v ps) :
    Calls Tryz.prog 118 #[v, .func (.func 119) #[] #[]] w fun x w' => ∃ u, x = .returned u ∧ w'.ownsRow w.heap.size 9 1 u (namesP ps).length ((namesP ps).map Value.string) ∧ Below w.heap.size w w' := by
  obtain ⟨a, cap, rfl, -, -, h⟩ := h
  have H := hid h
  clear h
  go_enter Tryz.func118, Tryz.ntmps118
  go_wp2_with fail
  go_loopw [5, 10] (fun s i wr => ∃ (k : Nat) (oa : Option Addr) (oc : Nat), k ≤ ps.length ∧ i = .int .i64 (k : Int) ∧ s = .slice oa k oc ∧ Hid (wr.ownsRow w.heap.size 9 1 (.slice oa k oc) ((namesP ps).take k).length (((namesP ps).take k).map Value.string)) ∧ Hid (Below w.heap.size w wr)) (fun _ i _ => ps.length - (intOf i).toNat)
  case atStart => exact ⟨0, _, _, Nat.zero_le _, rfl, rfl, hid (ownsRow_none _ _), hid (Below.refl _ _)⟩
  case round =>
    obtain ⟨k, oa, oc, hk, rfl, rfl, HO, HB⟩ := hrel
    by_cases hlt : k < ps.length
    · obtain ⟨e, he⟩ : ∃ e, ps[k]? = some e := ⟨ps[k], List.getElem?_eq_getElem hlt⟩
      obtain ⟨b, o, rfl, hbl, hc⟩ := (unhid H).resolve_left (by intro e; subst e; simp at hlt)
      obtain ⟨na, nc, ta, tc, ⟨c0, c1, c2, c3⟩, -⟩ := pack_cells (unhid HB) hbl hc he
      have HX := hid (namesP_get he)
      have HBA := hid (show ∀ x, Below w.heap.size w (wr.alloc x) from fun x => (unhid HB).alloc (unhid HB).size x)
      have HOA := hid (fun x => (unhid HO).alloc x)
      have hlo := hid (show ∀ j, (Value.slice oa k oc).ownBlock = some j → w.heap.size ≤ j from fun j ej => ((unhid HO).lt j ej).1)
      clear hc he hbl HB HO
      go_wp2_with fail
      refine (packNames1_any e na nc ta tc _).mono ?_
      rintro x w2 ⟨rfl, hb⟩
      have HB2a := hid ((unhid HBA _).trans (hb.mono (unhid HBA _).size))
      have HO2 := hid ((ownsRow_belowS (unhid HOA _) hb).alloc (.cells #[.string (PackD.name e)] 9))
      have HB2 := hid ((unhid HB2a).alloc (unhid HB2a).size (.cells #[.string (PackD.name e)] 9))
      have HC2 := hid (cell_newN w2 (.string (PackD.name e)) 9)
      have HKL := hid (show ((namesP ps).take k).length ≤ 1048576 by rw [List.length_take]; omega)
      have HSZ := hid (unhid HB2).size
      clear hb c0 c1 c2 c3 HBA HOA HB2a
      go_wp2_with (at_builtin; refine wp_name rfl _ _ rfl w.heap.size (.slice oa k oc) ((namesP ps).take k) (PackD.name e) w2.heap.size rfl rfl (unhid HO2) (unhid HC2) (by have := unhid HKL; omega) (unhid HSZ) ?_)
      intro v' w4 hown hg
      have ho3 := ownsRow_take (unhid HX) (W := w4) (N := w.heap.size) (v := v') (by simpa using hown)
      have HB3 := hid (grown_belowN (unhid HB2) hg (unhid hlo))
      obtain ⟨oa2, oc2, hv, -⟩ := ownsRow_txts ho3
      have hk1 : ((namesP ps).take (k + 1)).length = k + 1 := by rw [List.length_take, namesP_len]; omega
      rw [hk1] at hv
      subst hv
      have HO3 := hid ho3
      clear hown hg hlo HC2 HB2 HO2 HSZ HKL ho3 hk1
      go_wp2_with fail
      go_roundw
      case rel => exact ⟨k + 1, oa2, oc2, by omega, by go_num, rfl, HO3, HB3⟩
      case measure => simp [intOf]; omega
    · have e : k = ps.length := by omega
      subst e
      go_wp2_with fail
      go_ret
      have := unhid HO
      rw [List.take_of_length_le (by rw [namesP_len]; exact Nat.le_refl _)] at this
      exact ⟨_, rfl, this, unhid HB⟩

/-- A map from names to where each is. -/
structure PlaceMap (W : World) (mb n : Nat) (names : List ByteArray) (D : DataW Unit) : Prop where
  own : W.ownsMap Tryz.prog 9 (plainElem Tryz.prog 3) mb n D
  has : ∀ x : ByteArray, Maps.has D (.string x.data.toList) = memB x names
  at_ : ∀ (x : ByteArray) (i : Nat), names[i]? = some x → D.atKey (.string x.data.toList) (.lit (.int .i64 0)) = .lit (.int .i64 (i : Int))
theorem law9 : Keyed Tryz.prog 9 := string_keyed Tryz.underlying9
theorem zero3 (w : World) : (zeroValue 3).run Tryz.prog w = .ok (.int .i64 0) w := by kernel_rfl
theorem wf_nat {k : Nat} (h : k ≤ 1048576) : (Lit.int .i64 (k : Int)).wf = true := by
  simp [Lit.wf, IntKind.min, IntKind.max, IntKind.signed, IntKind.bits]; omega
theorem bytes_eq {x y : ByteArray} (h : x.data.toList = y.data.toList) : x = y := by
  cases x with | mk a => cases y with | mk b => congr; exact Array.ext' h
theorem isKey_str (l : List UInt8) : WideAt.IsKeyLit (.string l) := by trivial
theorem PlaceMap.frame {W W' : World} {mb n : Nat} {names : List ByteArray} {D : DataW Unit} (h : PlaceMap W mb n names D) {row : Option Nat} (hg : W.grownBy W' row) (hne : some mb ≠ row) : PlaceMap W' mb n names D := ⟨h.own.kept hg hne, h.has, h.at_⟩
theorem PlaceMap.next {W : World} {mb n k : Nat} {names : List ByteArray} {x : ByteArray} {D : DataW Unit} (hn : names.Nodup) (hx : names[k]? = some x) (hD : IsMap D) (hh : ∀ y : ByteArray, Maps.has D (.string y.data.toList) = memB y (names.take k)) (ha : ∀ (y : ByteArray) (i : Nat), (names.take k)[i]? = some y → D.atKey (.string y.data.toList) (.lit (.int .i64 0)) = .lit (.int .i64 (i : Int)))
    (ho : W.ownsMap Tryz.prog 9 (plainElem Tryz.prog 3) mb n (D.put (.string x.data.toList) (.lit (.int .i64 (k : Int))))) : PlaceMap W mb n (names.take (k + 1)) (D.put (.string x.data.toList) (.lit (.int .i64 (k : Int)))) := by
  have e := take_next hx
  refine ⟨ho, fun y => ?_, fun y i hi => ?_⟩
  · by_cases hyx : y = x
    · subst hyx
      rw [has_put_same hD (isKey_str _), memB_yes (by rw [e]; simp)]
    · rw [has_put_other (fun h => hyx (bytes_eq (by injection h))), hh y]
      cases h : memB y (names.take k) with
      | true => rw [memB_yes (by rw [e]; exact List.mem_append_left _ (memB_iff.1 h))]
      | false => rw [memB_no (fun hm => by
          rw [e] at hm
          rcases List.mem_append.1 hm with hm | hm
          · rw [memB_yes hm] at h; cases h
          · exact hyx (List.mem_singleton.1 hm))]
  · have hik : i < k + 1 := by have := (List.getElem?_eq_some_iff.1 hi).1; rw [List.length_take] at this; omega
    have hni : names[i]? = some y := by rwa [List.getElem?_take_of_lt hik] at hi
    by_cases hyx : y = x
    · subst hyx
      have ei := nodup_inj hn hni hx
      subst ei
      rw [atKey_put_same hD (isKey_str _)]
    · rw [atKey_put_other (fun h => hyx (bytes_eq (by injection h)))]
      have hne : i ≠ k := fun e => by subst e; rw [hx] at hni; cases hni; exact hyx rfl
      exact ha y i (by rw [List.getElem?_take_of_lt (by omega)]; exact hni)
/-- A name is looked up. -/
theorem PlaceMap.look {W : World} {mb n : Nat} {names : List ByteArray} {D : DataW Unit} (h : PlaceMap W mb n names D) (x : ByteArray) (hx : x.size ≤ maxLen) : ∃ c : Int, (Instr.lookup 86 (.map (some mb)) (.string x) true).run Tryz.prog W = .ok (.tuple #[.int .i64 c, .bool (memB x names)]) W ∧ ∀ i : Nat, names[i]? = some x → c = (i : Int) := by
  obtain ⟨v, ps, hrun, hv⟩ := h.own.look_ok law9 Tryz.underlying86 (zero3 W) (plainElem_int Tryz.underlying3 (by decide)) (Go.WideMaps.keyOf_string_mk Tryz.underlying9 hx)
  obtain ⟨c, rfl, hc, hwc⟩ := plainElem_int_inv Tryz.underlying3 hv
  refine ⟨c, by rw [hrun, h.has], fun i hi => ?_⟩
  have h1 := congrArg Prod.fst hc
  have h2 := h.at_ x i hi
  rw [h2] at h1
  have h3 : (DataW.lit (.int .i64 (i : Int)) : DataW Unit) = .lit (.int .i64 c) := h1
  exact (Lit.int.inj (DataW.lit.inj h3)).2.symm
end Go.Proofs.YtoihhlkidlapmaaGreat

/- What the program's iterator over a tree tells. -/
namespace Go.Proofs.YtoihhlkidlapmaaGreat
open Go.RowKit Go.Shelf





theorem row_cells {W : World} {N n size : Nat} {v : Value} {e : TypeId} {xs : List Value} {g : Nat} (h : W.ownsRow N e size v n xs) (hg : v.ownBlock = some g) : ∃ cur, W.heap[g]? = some (.cells cur e (0, 0)) := by
  rcases h.2 with ⟨rfl, _⟩ | ⟨g', cap, cur, rfl, _, hh, _⟩
  · cases hg
  · cases hg; exact ⟨cur, hh⟩

end Go.Proofs.YtoihhlkidlapmaaGreat

/- A region inside a round of a range over a function, by what holds of it outside. -/
namespace Go.Proofs.YtoihhlkidlapmaaGreat
open Go.RowKit Go.Shelf



end Go.Proofs.YtoihhlkidlapmaaGreat

/- What a tree has at a path, by the program. -/
namespace Go.Proofs.YtoihhlkidlapmaaGreat
open Go.RowKit Go.Shelf


end Go.Proofs.YtoihhlkidlapmaaGreat

/- The entries of a tree, in a row of their own. -/
namespace Go.Proofs.YtoihhlkidlapmaaGreat
open Go.RowKit Go.Shelf

attribute [local go_sem] Oper.semAt_some

def valsOf (es : List Ent) : List Value := es.flatMap fun e => e.vals.toList

theorem cells_grown {W W' : World} {row : Option Nat} (hg : W.grownBy W' row) (hr : ∀ r, row = some r → ∃ o : Obj, W.heap[r]? = some o ∧ o.isCells = false) {b : Nat} {cs : Array Value} {t : TypeId} {f : Nat × Nat} (hb : W.heap[b]? = some (.cells cs t f)) : W'.heap[b]? = some (.cells cs t f) :=
  (hg.block b (Array.getElem?_eq_some_iff.1 hb).1 (fun e => by obtain ⟨o, ho, hc⟩ := hr b e.symm; rw [hb] at ho; cases ho; cases hc)).trans hb
theorem row_grown {W W' : World} {row : Option Nat} (hg : W.grownBy W' row) (hr : ∀ r, row = some r → ∃ o : Obj, W.heap[r]? = some o ∧ o.isCells = false) {N n size : Nat} {v : Value} {e : TypeId} {xs : List Value} (h : W.ownsRow N e size v n xs) : W'.ownsRow N e size v n xs :=
  ownsRow_kept h (fun g eg => by obtain ⟨cur, hc⟩ := row_cells h eg; rw [cells_grown hg hr hc, hc])

theorem ownsRow_base {W : World} {N N' n size : Nat} {v : Value} {e : TypeId} {xs : List Value} (h : W.ownsRow N e size v n xs) (hN : N' ≤ N) : W.ownsRow N' e size v n xs :=
  ⟨h.1, h.2.imp id (fun ⟨g, cap, cur, a, b, c⟩ => ⟨g, cap, cur, a, Nat.le_trans hN b, c⟩)⟩

end Go.Proofs.YtoihhlkidlapmaaGreat

/- What the laws write over a row to see whose it is. -/
namespace Go.Proofs.YtoihhlkidlapmaaGreat
open Go.RowKit Go.Shelf

/-- A block whose first cells are n entries. -/
def RowE (W : World) (g n : Nat) (f : Nat → Ent) : Prop := ∃ cur : Array Value, W.heap[g]? = some (.cells cur 57 (0, 0)) ∧ n * 4 ≤ cur.size ∧ ∀ i, i < n → cur[i * 4]? = some (.string (f i).path) ∧ cur[i * 4 + 1]? = some (.int .i64 (f i).kind) ∧ cur[i * 4 + 2]? = some (.int .i64 (f i).mode) ∧ cur[i * 4 + 3]? = some (.string (f i).text)
theorem RowE.lt {W : World} {g n : Nat} {f : Nat → Ent} (x : RowE W g n f) : g < W.heap.size := by
  obtain ⟨cur, h1, _⟩ := x; exact (Array.getElem?_eq_some_iff.1 h1).1
theorem RowE.block {W W' : World} {g n : Nat} {f : Nat → Ent} (x : RowE W g n f) (e : W'.heap[g]? = W.heap[g]?) : RowE W' g n f := by
  obtain ⟨cur, h1, h2, h3⟩ := x; exact ⟨cur, e.trans h1, h2, h3⟩
theorem RowE.below {W W' : World} {B g n : Nat} {f : Nat → Ent} (x : RowE W g n f) (hb : Below B W W') (hg : g < B) : RowE W' g n f := x.block (hb.block g hg)
theorem RowE.congr {W : World} {g n : Nat} {f f' : Nat → Ent} (x : RowE W g n f) (e : ∀ j, j < n → f j = f' j) : RowE W g n f' := by
  obtain ⟨cur, h1, h2, h3⟩ := x; exact ⟨cur, h1, h2, fun j hj => by rw [← e j hj]; exact h3 j hj⟩
theorem RowE.cells {W : World} {g n : Nat} {f : Nat → Ent} (x : RowE W g n f) (k : Nat) (hk : k < n) : EntAt W g (k * 4) (f k) ∧ (W.frozen? ⟨g, k * 4, .none⟩ = false ∧ W.frozen? ⟨g, k * 4 + 1, .none⟩ = false ∧ W.frozen? ⟨g, k * 4 + 2, .none⟩ = false ∧ W.frozen? ⟨g, k * 4 + 3, .none⟩ = false) := by
  obtain ⟨cur, h1, h2, h3⟩ := x
  obtain ⟨a, b, c, d⟩ := h3 k hk
  exact ⟨⟨by simp [World.cell?, h1, a], by simp [World.cell?, h1, b], by simp [World.cell?, h1, c], by simp [World.cell?, h1, d]⟩, by simp [World.frozen?, h1], by simp [World.frozen?, h1], by simp [World.frozen?, h1], by simp [World.frozen?, h1]⟩

/-- The entry that the laws write at a place. -/
def markE (q i : Nat) : Ent := ⟨mtext (q + i * 4), ((q + i * 4 + 1 : Nat) : Int), ((q + i * 4 + 2 : Nat) : Int), mtext (q + i * 4 + 3)⟩

end Go.Proofs.YtoihhlkidlapmaaGreat

/- Rows of entries between two bounds; what is written over them is there, and nothing else changes. -/
namespace Go.Proofs.YtoihhlkidlapmaaGreat
open Go.RowKit Go.Shelf

/-- Entries in a row of their own, whose block is from N on, ahead of M. -/
def RowIn (W : World) (a : Option Addr) (N M : Nat) (es : List Ent) : Prop := es = [] ∨ ∃ g, a = some ⟨g, 0, .none⟩ ∧ N ≤ g ∧ g < M ∧ RowE W g es.length (entFn es)
theorem RowIn.at {W : World} {a : Option Addr} {N M : Nat} {es : List Ent} (h : RowIn W a N M es) : EntsAt W a es := by
  rcases h with h | ⟨g, rfl, _, _, hR⟩
  · exact .inl h
  · refine .inr ⟨g, 0, rfl, hR.lt, fun i e hi => ?_⟩
    have := (hR.cells i (List.getElem?_eq_some_iff.1 hi).1).1
    rw [entFn_get hi] at this
    rwa [Nat.zero_add]
/-- Nothing changes but blocks from N on, ahead of M. -/
structure Spares (N M : Nat) (w w' : World) : Prop where
  os : w'.os = w.os
  tape : w'.tape = w.tape
  output : w'.output = w.output
  size : w.heap.size ≤ w'.heap.size
  block : ∀ k, k < w.heap.size → (k < N ∨ M ≤ k) → w'.heap[k]? = w.heap[k]?
theorem Spares.row {w w' : World} {N M N2 M2 : Nat} {a : Option Addr} {es : List Ent} (h : Spares N M w w') (x : RowIn w a N2 M2 es) (hd : M2 ≤ N ∨ M ≤ N2) : RowIn w' a N2 M2 es := by
  rcases x with x | ⟨g, rfl, h1, h2, hR⟩
  · exact .inl x
  · exact .inr ⟨g, rfl, h1, h2, hR.block (h.block g hR.lt (by omega))⟩
theorem Spares.below {w0 w w' : World} {N M : Nat} (h : Spares N M w w') (hb : Below w0.heap.size w0 w) (hN : w0.heap.size ≤ N) : Below w0.heap.size w0 w' :=
  ⟨h.os.trans hb.os, h.tape.trans hb.tape, h.output.trans hb.output, Nat.le_trans hb.size h.size, fun k hk => (h.block k (Nat.lt_of_lt_of_le hk hb.size) (by omega)).trans (hb.block k hk)⟩
theorem RowIn.below {w w' : World} {N M : Nat} {a : Option Addr} {es : List Ent} (x : RowIn w a N M es) (h : Below w.heap.size w w') : RowIn w' a N M es := by
  rcases x with x | ⟨g, rfl, h1, h2, hR⟩
  · exact .inl x
  · exact .inr ⟨g, rfl, h1, h2, hR.block (h.block g hR.lt)⟩
theorem RowIn.wide {w : World} {N M N2 M2 : Nat} {a : Option Addr} {es : List Ent} (x : RowIn w a N M es) (hN : N2 ≤ N) (hM : M ≤ M2) : RowIn w a N2 M2 es := by
  rcases x with x | ⟨g, rfl, h1, h2, hR⟩
  · exact .inl x
  · exact .inr ⟨g, rfl, by omega, by omega, hR⟩
def marks (q n : Nat) : List Ent := (List.range n).map (markE q)


end Go.Proofs.YtoihhlkidlapmaaGreat

/- A row of entries copied, by the model. -/
namespace Go.Proofs.YtoihhlkidlapmaaGreat
open Go.RowKit Go.Shelf

theorem valsOf_get : ∀ (es : List Ent) (i r : Nat), r < 4 → (valsOf es)[i * 4 + r]? = (es[i]?).bind fun e => e.vals.toList[r]?
  | [], i, r, h => by simp [valsOf]
  | e :: es, 0, r, h => by
    show (e.vals.toList ++ valsOf es)[0 * 4 + r]? = _
    rw [Nat.zero_mul, Nat.zero_add, List.getElem?_append_left (by simp [Ent.vals]; omega)]
    rfl
  | e :: es, i + 1, r, h => by
    show (e.vals.toList ++ valsOf es)[(i + 1) * 4 + r]? = _
    rw [List.getElem?_append_right (by simp [Ent.vals]; omega)]
    have : (i + 1) * 4 + r - e.vals.toList.length = i * 4 + r := by simp [Ent.vals]; omega
    rw [this, valsOf_get es i r h, List.getElem?_cons_succ]
theorem add_plain4 (b o n : Nat) : (⟨b, o, none⟩ : Addr).add n = ⟨b, o + n, none⟩ := by simp [Addr.add]
/-- A row that is owned holds its entries. -/
theorem rowIn_of_owns {W : World} {N : Nat} {v : Value} {es : List Ent} (h : W.ownsRow N 57 4 v es.length (valsOf es)) : ∃ a cap, v = .slice a es.length cap ∧ RowIn W a N W.heap.size es := by
  rcases h.2 with ⟨rfl, h0⟩ | ⟨g, cap, cur, rfl, hN, hg, hc, _, hsz, hcells⟩
  · exact ⟨none, 0, by rw [h0], .inl (List.length_eq_zero_iff.1 h0)⟩
  · refine ⟨_, cap, rfl, .inr ⟨g, rfl, hN, (Array.getElem?_eq_some_iff.1 hg).1, cur, hg, by omega, fun i hi => ?_⟩⟩
    have he : es[i]? = some es[i] := List.getElem?_eq_getElem hi
    rw [entFn_get he]
    have hget : ∀ r, r < 4 → cur[i * 4 + r]? = es[i].vals.toList[r]? := fun r hr => by
      have h1 := valsOf_get es i r hr
      rw [he, ← hcells, List.getElem?_take_of_lt (by omega), Array.getElem?_toList] at h1
      exact h1
    exact ⟨hget 0 (by omega), hget 1 (by omega), hget 2 (by omega), hget 3 (by omega)⟩

end Go.Proofs.YtoihhlkidlapmaaGreat

/- The library's Insert in the midst of a row: of texts, and of what stands at paths. -/
namespace Go.Proofs.YtoihhlkidlapmaaGreat
open Go.RowKit Go.Shelf Go.Lib





end Go.Proofs.YtoihhlkidlapmaaGreat

/- An entry put into a tree, wherever its place is. -/
namespace Go.Proofs.YtoihhlkidlapmaaGreat
open Go.RowKit Go.Shelf

/-- Entries with one more in its place. -/
def insAt (es : List Ent) (e : Ent) : List Ent := es.take (placeE es e.path) ++ [e] ++ es.drop (placeE es e.path)

end Go.Proofs.YtoihhlkidlapmaaGreat

/- An entry put into a tree, if it can be, wherever its place is. -/
namespace Go.Proofs.YtoihhlkidlapmaaGreat
open Go.RowKit Go.Shelf



/-- Entries with one put in. -/
def putT (es : List Ent) (e : Ent) : List Ent := if thereE es e.path then es.set (placeE es e.path) e else insAt es e

/-- Whether an entry can be put. -/
def okPut (es : List Ent) (e : Ent) : Bool := entB e && (dirE es (pathUpS e.path) && (if thereE es e.path then (entFn es (placeE es e.path)).kind == e.kind else decide (es.length ≠ 16)))
def putL (es : List Ent) (e : Ent) : List Ent := if okPut es e then putT es e else es
theorem putL_no {es : List Ent} {e : Ent} (h : okPut es e = false) : putL es e = es := by unfold putL; rw [h]; rfl
theorem putL_ins {es : List Ent} {e : Ent} (h : okPut es e = true) (ht : thereE es e.path = false) : putL es e = insAt es e := by unfold putL putT; rw [h, ht]; rfl
theorem putL_set {es : List Ent} {e : Ent} (h : okPut es e = true) (ht : thereE es e.path = true) : putL es e = es.set (placeE es e.path) e := by unfold putL putT; rw [h, ht]; rfl

end Go.Proofs.YtoihhlkidlapmaaGreat

/- An entry put into a tree, by the model. -/
namespace Go.Proofs.YtoihhlkidlapmaaGreat
open Go.RowKit Go.Shelf

/-- A row of one entry. -/
def OneAt (W : World) (g : Nat) (e : Ent) : Prop := W.heap[g]? = some (.cells e.vals 57 (0, 0))
theorem OneAt.lt {W : World} {g : Nat} {e : Ent} (h : OneAt W g e) : g < W.heap.size := (Array.getElem?_eq_some_iff.1 h).1
theorem OneAt.alloc {W : World} {g : Nat} {e : Ent} (h : OneAt W g e) (o : Obj) : OneAt (W.alloc o) g e := (Below.heap_alloc _ _ _ h.lt).trans h
theorem OneAt.grown {W W' : World} {g : Nat} {e : Ent} {row : Option Nat} (h : OneAt W g e) (hg : W.grownBy W' row) (hr : some g ≠ row) : OneAt W' g e := (hg.block g h.lt hr).trans h
theorem OneAt.cells {W : World} {g : Nat} {e : Ent} (h : OneAt W g e) : ∀ j u, (valsOf [e])[j]? = some u → W.cell? ((⟨g, 0, none⟩ : Addr).add j) = some u := by
  intro j u hj
  rw [add_plain4, Nat.zero_add]
  have hj' : e.vals[j]? = some u := by
    have : (valsOf [e]) = e.vals.toList := by simp [valsOf]
    rw [this, Array.getElem?_toList] at hj; exact hj
  show W.cell? ⟨g, j, none⟩ = some u
  unfold OneAt at h
  simp only [World.cell?, h]
  exact hj'

/-- A slice that is not nil. -/
def SomeV (v : Value) : Prop := ∃ ad n c, v = .slice (some ad) n c
end Go.Proofs.YtoihhlkidlapmaaGreat

/- Entries put into a tree one behind the other: in order, each path once. -/
namespace Go.Proofs.YtoihhlkidlapmaaGreat
open Go.RowKit Go.Shelf

theorem putT_mem {es : List Ent} {e x : Ent} (hx : x ∈ putT es e) : x ∈ es ∨ x = e := by
  unfold putT insAt at hx
  split at hx
  · exact List.mem_or_eq_of_mem_set hx
  · simp only [List.mem_append, List.mem_singleton] at hx
    rcases hx with (h | h) | h
    · exact .inl (List.mem_of_mem_take h)
    · exact .inr h
    · exact .inl (List.mem_of_mem_drop h)
end Go.Proofs.YtoihhlkidlapmaaGreat

/- An entry put into a tree: what the program answers, and its model. -/
namespace Go.Proofs.YtoihhlkidlapmaaGreat
open Go.RowKit Go.Shelf



end Go.Proofs.YtoihhlkidlapmaaGreat

/- The last name of a path; a path in a place; by the program and by its model. -/
namespace Go.Proofs.YtoihhlkidlapmaaGreat
open Go.RowKit Go.Shelf

end Go.Proofs.YtoihhlkidlapmaaGreat

/- A path in a place, and a path that is moved, by the program and by its model. -/
namespace Go.Proofs.YtoihhlkidlapmaaGreat
open Go.RowKit Go.Shelf








end Go.Proofs.YtoihhlkidlapmaaGreat

/- What is left of a tree without a place, by the program. -/
namespace Go.Proofs.YtoihhlkidlapmaaGreat
open Go.RowKit Go.Shelf

attribute [local go_sem] Oper.semAt_some


end Go.Proofs.YtoihhlkidlapmaaGreat

/- What is left of a tree without a place, by the model. -/
namespace Go.Proofs.YtoihhlkidlapmaaGreat
open Go.RowKit Go.Shelf


end Go.Proofs.YtoihhlkidlapmaaGreat

/- What holds of paths as lists of bytes: what a path is in is a path; it is in that; moved, and back. -/
namespace Go.Proofs.YtoihhlkidlapmaaGreat



end Go.Proofs.YtoihhlkidlapmaaGreat

/- What holds of a path in a place, and of one that is moved. -/
namespace Go.Proofs.YtoihhlkidlapmaaGreat




end Go.Proofs.YtoihhlkidlapmaaGreat

/- What is in a place of a tree is there only if the place is. -/
namespace Go.Proofs.YtoihhlkidlapmaaGreat
open Go.RowKit Go.Shelf



end Go.Proofs.YtoihhlkidlapmaaGreat

/- An entry put into a tree: which blocks change, and where its rows lie then. -/
namespace Go.Proofs.YtoihhlkidlapmaaGreat
open Go.RowKit Go.Shelf

/-- A tree at a block, its rows by name. -/
def RowsV (W : World) (N bt : Nat) (vp vn : Value) (es : List Ent) : Prop := W.heap[bt]? = some (.cells #[vp, vn] 117 (0, 0)) ∧ W.ownsRow N 9 1 vp es.length (es.map fun e => .string e.path) ∧ W.ownsRow N 121 1 vn es.length (es.map nodeV)



end Go.Proofs.YtoihhlkidlapmaaGreat

/- Whether two things are one dir, by the program. -/
namespace Go.Proofs.YtoihhlkidlapmaaGreat
open Go.RowKit Go.Shelf



end Go.Proofs.YtoihhlkidlapmaaGreat

/- What a row of entries that is handed over holds. -/
namespace Go.Proofs.YtoihhlkidlapmaaGreat
open Go.ChangeShapes Go.WideShapes Go.ChangeAt Go.RowKit





end Go.Proofs.YtoihhlkidlapmaaGreat

/- For every tree the program's TreeOk answers as its model does (the walk). -/
namespace Go.Proofs.YtoihhlkidlapmaaGreat
open Go.ChangeShapes Go.WideShapes Go.ChangeAt Go.RowKit Go.Shelf



end Go.Proofs.YtoihhlkidlapmaaGreat

/- Two trees in one, by the program. -/
namespace Go.Proofs.YtoihhlkidlapmaaGreat
open Go.RowKit Go.Shelf

attribute [local go_sem] Oper.semAt_some


/-- The boxes of what a join answers. -/
def BxJ (W : World) (N : Nat) : Prop := W.heap[N]? = some (.cells #[.slice none 0 0] 32 (0, 0)) ∧ W.heap[N + 1]? = some (.cells #[.bool false] 4 (0, 0))
theorem BxJ.keep {W W' : World} {N : Nat} (h : BxJ W N) (hk : ∀ k, k < N + 2 → W'.heap[k]? = W.heap[k]?) : BxJ W' N := ⟨(hk _ (by omega)).trans h.1, (hk _ (by omega)).trans h.2⟩
theorem BxJ.grown {W W' : World} {row : Option Nat} {N : Nat} (h : BxJ W N) (hg : W.grownBy W' row) (hr : ∀ r, row = some r → ∃ o : Obj, W.heap[r]? = some o ∧ o.isCells = false) : BxJ W' N := ⟨cells_grown hg hr h.1, cells_grown hg hr h.2⟩
theorem RowsV.below {W W' : World} {N bt : Nat} {vp vn : Value} {es : List Ent} (h : RowsV W N bt vp vn es) (hb : Below W.heap.size W W') : RowsV W' N bt vp vn es :=
  ⟨(hb.block bt (Array.getElem?_eq_some_iff.1 h.1).1).trans h.1, ownsRow_kept h.2.1 (fun g e => hb.block g (h.2.1.lt g e).2), ownsRow_kept h.2.2 (fun g e => hb.block g (h.2.2.lt g e).2)⟩
theorem RowsV.grown {W W' : World} {row : Option Nat} {N bt : Nat} {vp vn : Value} {es : List Ent} (h : RowsV W N bt vp vn es) (hg : W.grownBy W' row) (hr : ∀ r, row = some r → ∃ o : Obj, W.heap[r]? = some o ∧ o.isCells = false) : RowsV W' N bt vp vn es :=
  ⟨cells_grown hg hr h.1, row_grown hg hr h.2.1, row_grown hg hr h.2.2⟩
theorem RowsV.at {W : World} {N bt : Nat} {vp vn : Value} {es : List Ent} (h : RowsV W N bt vp vn es) : TreeAt W N bt es := ⟨vp, vn, h.1, h.2.1, h.2.2⟩

end Go.Proofs.YtoihhlkidlapmaaGreat

/- Whether a place of a tree may be moved, by the program. -/
namespace Go.Proofs.YtoihhlkidlapmaaGreat
open Go.RowKit Go.Shelf


end Go.Proofs.YtoihhlkidlapmaaGreat

/- What is moved in a tree, by the program. -/
namespace Go.Proofs.YtoihhlkidlapmaaGreat
open Go.RowKit Go.Shelf

attribute [local go_sem] Oper.semAt_some

/-- The boxes of a move: from, to, what is answered. -/
def BxM (W : World) (N : Nat) (p q : ByteArray) : Prop := W.heap[N]? = some (.cells #[.string p] 9 (0, 0)) ∧ W.heap[N + 1]? = some (.cells #[.string q] 9 (0, 0)) ∧ W.heap[N + 1 + 1]? = some (.cells #[.slice none 0 0] 32 (0, 0)) ∧ W.heap[N + 1 + 1 + 1]? = some (.cells #[.bool false] 4 (0, 0))
theorem BxM.keep {W W' : World} {N : Nat} {p q : ByteArray} (h : BxM W N p q) (hk : ∀ k, k < N + 4 → W'.heap[k]? = W.heap[k]?) : BxM W' N p q :=
  ⟨(hk _ (by omega)).trans h.1, (hk _ (by omega)).trans h.2.1, (hk _ (by omega)).trans h.2.2.1, (hk _ (by omega)).trans h.2.2.2⟩
theorem BxM.grown {W W' : World} {row : Option Nat} {N : Nat} {p q : ByteArray} (h : BxM W N p q) (hg : W.grownBy W' row) (hr : ∀ r, row = some r → ∃ o : Obj, W.heap[r]? = some o ∧ o.isCells = false) : BxM W' N p q :=
  ⟨cells_grown hg hr h.1, cells_grown hg hr h.2.1, cells_grown hg hr h.2.2.1, cells_grown hg hr h.2.2.2⟩

end Go.Proofs.YtoihhlkidlapmaaGreat

/- Entries put by path, by the model. -/
namespace Go.Proofs.YtoihhlkidlapmaaGreat
open Go.RowKit Go.Shelf


end Go.Proofs.YtoihhlkidlapmaaGreat

/- Two trees in one, by the model. -/
namespace Go.Proofs.YtoihhlkidlapmaaGreat
open Go.RowKit Go.Shelf


end Go.Proofs.YtoihhlkidlapmaaGreat

/- Two trees in one: the model's answer. -/
namespace Go.Proofs.YtoihhlkidlapmaaGreat
open Go.RowKit Go.Shelf


end Go.Proofs.YtoihhlkidlapmaaGreat

/- A tree by what is in it: entries that are ok, each path once, each in a dir. -/
namespace Go.Proofs.YtoihhlkidlapmaaGreat
open Go.RowKit Go.Shelf


end Go.Proofs.YtoihhlkidlapmaaGreat

/- Whether two rows of entries are the same, as the laws ask it. -/
namespace Go.Proofs.YtoihhlkidlapmaaGreat
open Go.RowKit


end Go.Proofs.YtoihhlkidlapmaaGreat

/- Two trees in one: all of both, either way round. -/
namespace Go.Proofs.YtoihhlkidlapmaaGreat
open Go.RowKit Go.Shelf

end Go.Proofs.YtoihhlkidlapmaaGreat

/- A row that grows, each of its items with blocks of its own. -/
namespace Go.Proofs.YtoihhlkidlapmaaGreat
open Go.RowKit

/-- An item: its cells, what they hold, and the blocks that it owns. -/
abbrev It (K : CK) := List Value × K.D × List Nat
def itCells {K : CK} (L : List (It K)) : List Value := L.flatMap (fun t => t.1)
def itD {K : CK} (L : List (It K)) : List K.D := L.map (fun t => t.2.1)
def itF {K : CK} (L : List (It K)) : List Nat := L.flatMap (fun t => t.2.2)
theorem itD_len {K : CK} (A : List (It K)) : (itD A).length = A.length := by simp [itD]
structure Items (K : CK) (W : World) (N : Nat) (L : List (It K)) : Prop where
  each : ∀ t ∈ L, K.own W t.1 t.2.1 t.2.2
  nodup : (itF L).Nodup
  base : ∀ k ∈ itF L, N ≤ k
theorem mem_itF {K : CK} {L : List (It K)} {t : It K} (ht : t ∈ L) {k : Nat} (hk : k ∈ t.2.2) : k ∈ itF L := List.mem_flatMap.2 ⟨t, ht, hk⟩
theorem Items.lt {K : CK} {W : World} {N : Nat} {L : List (It K)} (h : Items K W N L) : ∀ k ∈ itF L, k < W.heap.size := by
  intro k hk
  obtain ⟨t, ht, hk⟩ := List.mem_flatMap.1 hk
  exact K.lt (h.each t ht) k hk
theorem Items.frame {K : CK} {W W' : World} {N : Nat} {L : List (It K)} (h : Items K W N L) (hf : ∀ k ∈ itF L, W'.heap[k]? = W.heap[k]?) : Items K W' N L :=
  ⟨fun t ht => K.frame (h.each t ht) (fun k hk => hf k (mem_itF ht hk)), h.nodup, h.base⟩
theorem Items.nil {K : CK} (W : World) (N : Nat) : Items K W N ([] : List (It K)) := ⟨fun t ht => (by cases ht), List.nodup_nil, fun k hk => (by cases hk)⟩
/-- Where an item lies among the cells. -/
theorem itCells_get {K : CK} : ∀ {L : List (It K)}, (∀ t ∈ L, t.1.length = K.n) → ∀ (i : Nat) (t : It K), L[i]? = some t → ∀ j, j < K.n → (itCells L)[i * K.n + j]? = t.1[j]?
  | [], _, i, t, h, _, _ => by cases h
  | x :: L, hl, 0, t, h, j, hj => by
    simp at h; subst h
    show (x.1 ++ itCells L)[0 * K.n + j]? = _
    rw [Nat.zero_mul, Nat.zero_add, List.getElem?_append_left (by rw [hl x (by simp)]; exact hj)]
  | x :: L, hl, i + 1, t, h, j, hj => by
    have hx := hl x (by simp)
    show (x.1 ++ itCells L)[(i + 1) * K.n + j]? = _
    have e : (i + 1) * K.n = i * K.n + K.n := by rw [Nat.add_mul, Nat.one_mul]
    rw [List.getElem?_append_right (by omega), hx, show (i + 1) * K.n + j - K.n = i * K.n + j by omega]
    exact itCells_get (fun t ht => hl t (List.mem_cons_of_mem _ ht)) i t (by simpa using h) j hj
/-- A row that is owned, in the words of the shapes. -/
structure NRow (K : CK) (ty : Nat) (W : World) (N : Nat) (v : Value) (L : List (It K)) : Prop where
  row : W.ownsRow N ty K.n v L.length (itCells L)
  items : Items K W N L
  apart : ∀ g, v.ownBlock = some g → g ∉ itF L
theorem NRow.own {K : CK} {ty : Nat} {W : World} {N : Nat} {v : Value} {L : List (It K)} (h : NRow K ty W N v L) : ∃ F, rowOwn K ty W v (itD L) F ∧ ∀ k ∈ F, N ≤ k ∧ k < W.heap.size := by
  rcases h.row.2 with ⟨rfl, h0⟩ | ⟨g, cap, cur, hv, hN, hg, hc, _, hsz, hcells⟩
  · have : L = [] := List.length_eq_zero_iff.1 h0
    subst this
    exact ⟨[], .inl ⟨rfl, rfl, none, 0, rfl, fun _ => rfl⟩, fun k hk => by cases hk⟩
  · have hF : (L.map (fun t => t.2.2)).flatten = itF L := by simp [itF, List.flatMap]
    have hap : g ∉ itF L := h.apart g (by rw [hv]; rfl)
    have hgl := (Array.getElem?_eq_some_iff.1 hg).1
    refine ⟨g :: itF L, .inr ⟨g, cap, cur, L.map (fun t => t.2.2), by rw [itD_len]; exact hv, by rw [itD_len]; exact hc, by rw [hF], List.nodup_cons.2 ⟨hap, h.items.nodup⟩, ⟨hg, by rw [itD_len, hsz]; exact Nat.mul_le_mul_right _ hc, by rw [itD_len, List.length_map], fun i d hi => ?_⟩⟩, fun k hk => ?_⟩
    · unfold itD at hi
      rw [List.getElem?_map] at hi
      cases ht : L[i]? with
      | none => rw [ht] at hi; cases hi
      | some t =>
        rw [ht] at hi
        simp at hi
        subst hi
        have hm : t ∈ L := List.mem_of_getElem? ht
        have hown := h.items.each t hm
        refine ⟨t.1, t.2.2, by rw [List.getElem?_map, ht]; rfl, fun j c hj => ?_, hown⟩
        have hjn : j < K.n := by rw [← K.len hown]; exact (List.getElem?_eq_some_iff.1 hj).1
        have h1 := itCells_get (fun t ht => K.len (h.items.each t ht)) i t ht j hjn
        rw [hj, ← hcells] at h1
        have hil : i < L.length := (List.getElem?_eq_some_iff.1 ht).1
        have : (i + 1) * K.n ≤ L.length * K.n := Nat.mul_le_mul_right _ hil
        rw [Nat.add_mul, Nat.one_mul] at this
        rw [List.getElem?_take_of_lt (by omega), Array.getElem?_toList] at h1
        exact h1
    · rcases List.mem_cons.1 hk with rfl | hk
      · exact ⟨hN, hgl⟩
      · exact ⟨h.items.base k hk, h.items.lt k hk⟩
theorem NRow.frame {K : CK} {ty : Nat} {W W' : World} {N : Nat} {v : Value} {L : List (It K)} (h : NRow K ty W N v L) (hf : ∀ k, (v.ownBlock = some k ∨ k ∈ itF L) → W'.heap[k]? = W.heap[k]?) : NRow K ty W' N v L := by
  refine ⟨⟨h.row.1, ?_⟩, h.items.frame (fun k hk => hf k (.inr hk)), h.apart⟩
  rcases h.row.2 with h1 | ⟨g, cap, cur, hv, hN, hg, hr⟩
  · exact .inl h1
  · exact .inr ⟨g, cap, cur, hv, hN, by rw [hf g (.inl (by rw [hv]; rfl))]; exact hg, hr⟩
/-- All that a growing row reaches lies behind N. -/
theorem NRow.base {K : CK} {ty : Nat} {W : World} {N : Nat} {v : Value} {L : List (It K)} (h : NRow K ty W N v L) : ∀ k, (v.ownBlock = some k ∨ k ∈ itF L) → N ≤ k ∧ k < W.heap.size := by
  intro k hk
  rcases hk with hk | hk
  · rcases h.row.2 with ⟨rfl, _⟩ | ⟨g, cap, cur, rfl, hN, hg, _⟩
    · cases hk
    · have : g = k := by simpa [Value.ownBlock] using hk
      subst this
      exact ⟨hN, (Array.getElem?_eq_some_iff.1 hg).1⟩
  · exact ⟨h.items.base k hk, h.items.lt k hk⟩
end Go.Proofs.YtoihhlkidlapmaaGreat

/- Items appended to a row that grows; rows copied, of items that own no block. -/
namespace Go.Proofs.YtoihhlkidlapmaaGreat
open Go.RowKit Go.Shelf

/-- What a row's type says of its items. -/
structure ET (K : CK) (t e : Nat) : Prop where
  ex : ∃ (i : TypeInfo) (z : Value) (bytes : Nat), Tryz.prog.underlying t = some (.slice e) ∧ Tryz.prog.info? e = some i ∧ i.zero = some z ∧ i.size = K.n ∧ i.bytes = bytes ∧ z.cells.size = K.n ∧ 0 < K.n ∧ bytes ≤ 1000

theorem NRow.empty {K : CK} {e : Nat} (w : World) (N : Nat) (hN : N ≤ w.heap.size) : NRow K e (w.alloc (.cells #[] e)) N (.slice (some ⟨w.heap.size, 0, none⟩) 0 0) [] :=
  ⟨⟨by simp [itCells], .inr ⟨w.heap.size, 0, #[], rfl, hN, World.alloc_heap_new _ _, Nat.le_refl _, Nat.zero_le _, by simp, by simp [itCells]⟩⟩, Items.nil _ _, fun g _ hk => by cases hk⟩
theorem NRow.none {K : CK} {e : Nat} (w : World) (N : Nat) : NRow K e w N (.slice .none 0 0) [] :=
  ⟨⟨by simp [itCells], .inl ⟨rfl, rfl⟩⟩, Items.nil _ _, fun g _ hk => by cases hk⟩
end Go.Proofs.YtoihhlkidlapmaaGreat

/- Rows of needs and of entries, copied. -/
namespace Go.Proofs.YtoihhlkidlapmaaGreat
open Go.RowKit Go.Shelf

end Go.Proofs.YtoihhlkidlapmaaGreat

/- A pack copied: by the program, and by the model. -/
namespace Go.Proofs.YtoihhlkidlapmaaGreat
open Go.RowKit Go.Shelf

end Go.Proofs.YtoihhlkidlapmaaGreat

/- Packs copied, by the program. -/
namespace Go.Proofs.YtoihhlkidlapmaaGreat
open Go.RowKit Go.Shelf


end Go.Proofs.YtoihhlkidlapmaaGreat

/- slices.Delete of one pack. -/
namespace Go.Proofs.YtoihhlkidlapmaaGreat
open Go.RowKit Go.Shelf


end Go.Proofs.YtoihhlkidlapmaaGreat

/- slices.Insert of one pack. -/
namespace Go.Proofs.YtoihhlkidlapmaaGreat
open Go.RowKit Go.Shelf Go.Lib



end Go.Proofs.YtoihhlkidlapmaaGreat

/- Whether packs are by name, by the program. -/
namespace Go.Proofs.YtoihhlkidlapmaaGreat
open Go.RowKit Go.Shelf

end Go.Proofs.YtoihhlkidlapmaaGreat

/- Packs without one of a name, by the model: the row is new, its items are those that were there. -/
namespace Go.Proofs.YtoihhlkidlapmaaGreat
open Go.RowKit Go.Shelf


end Go.Proofs.YtoihhlkidlapmaaGreat

/- Packs copied, by the model. -/
namespace Go.Proofs.YtoihhlkidlapmaaGreat
open Go.RowKit Go.Shelf

/-- The boxes of a copy under way. -/
structure CopyW (w wr : World) (g : Nat) (v u : Value) : Prop where
  box : wr.heap[g]? = some (.cells #[v] 51 (0, 0))
  res : wr.heap[g + 1]? = some (.cells #[.slice none 0 0] 51 (0, 0))
  out : wr.heap[g + 1 + 1]? = some (.cells #[u] 51 (0, 0))
  size : g + 1 + 1 < wr.heap.size
  below : Below g w wr
theorem grown_transR {a b c : World} {r : Option Nat} (h : a.grownBy b r) (h2 : b.grownBy c r) : a.grownBy c r := ⟨h2.os.trans h.os, h2.tape.trans h.tape, h2.output.trans h.output, Nat.le_trans h.size h2.size, fun k hk hne => (h2.block k (Nat.lt_of_lt_of_le hk h.size) hne).trans (h.block k hk hne)⟩
theorem below_grown {a b : World} (r : Option Nat) (h : Below a.heap.size a b) : a.grownBy b r := ⟨h.os, h.tape, h.output, h.size, fun k hk _ => h.block k hk⟩
theorem CopyW.grown {w wr W : World} {g : Nat} {v u : Value} {r : Option Nat} (h : CopyW w wr g v u) (hg : wr.grownBy W r) (hr : ∀ k, r = some k → g + 1 + 1 < k) : CopyW w W g v u := by
  have hs := h.size
  have hb : ∀ k, k ≤ g + 1 + 1 → W.heap[k]? = wr.heap[k]? := fun k hk => hg.block k (by omega) (fun e => by have := hr k e.symm; omega)
  exact ⟨(hb _ (by omega)).trans h.box, (hb _ (by omega)).trans h.res, (hb _ (by omega)).trans h.out, Nat.lt_of_lt_of_le hs hg.size, h.below.grown hg (by omega) (fun k e => by have := hr k e; omega)⟩
theorem CopyW.store {w W : World} {g : Nat} {v u : Value} (h : CopyW w W g v u) (u' : Value) : CopyW w (W.setCell ⟨g + 1 + 1, 0, none⟩ u') g v u' :=
  ⟨(Below.heap_setCell _ _ _ _ (by dsimp only; omega)).trans h.box, (Below.heap_setCell _ _ _ _ (by dsimp only; omega)).trans h.res, heap_setCell_same W (g + 1 + 1) 0 _ _ u' h.out, by simpa using h.size, h.below.setCell (by dsimp only; omega) _⟩

end Go.Proofs.YtoihhlkidlapmaaGreat

/- Contracts of the library that are laid at the program. -/
namespace Go.Proofs.YtoihhlkidlapmaaGreat
open Go.Shelf Go.RowKit
end Go.Proofs.YtoihhlkidlapmaaGreat

/- Where a pack is among packs by name, by the program. -/
namespace Go.Proofs.YtoihhlkidlapmaaGreat
open Go.RowKit Go.Shelf




end Go.Proofs.YtoihhlkidlapmaaGreat

/- Whether all that packs need is there, by the program. -/
namespace Go.Proofs.YtoihhlkidlapmaaGreat
open Go.RowKit Go.Shelf





end Go.Proofs.YtoihhlkidlapmaaGreat

/- Two trees in one, by the model: the second may be nil. -/
namespace Go.Proofs.YtoihhlkidlapmaaGreat
open Go.RowKit Go.Shelf

end Go.Proofs.YtoihhlkidlapmaaGreat

/- The trees of packs in one, by the model and by the program. -/
namespace Go.Proofs.YtoihhlkidlapmaaGreat
open Go.RowKit Go.Shelf

def treeOfP (p : packC.D) : List Ent := entsD (PackD.tree p)
theorem tree_in {W : World} {e : packC.D} {na ta : Option Addr} {nc tc : Nat} (h : packC.at_ W [.string (PackD.name e), .string (PackD.version e), .slice na (PackD.needs e).length nc, .slice ta (PackD.tree e).length tc] e) : EntsAt W ta (treeOfP e) ∧ (treeOfP e).length = (PackD.tree e).length ∧ (ta = none → tc = 0) := by
  obtain ⟨v2, v3, e1, h2, h3⟩ := packC_at h
  injection e1 with _ e1
  injection e1 with _ e1
  injection e1 with _ e1
  injection e1 with e2 _
  subst e2
  obtain ⟨a, cap, ev, hn, hc, hr⟩ := entsD_at h3
  injection ev with ea _ ec
  subst ea ec
  exact ⟨hr, entsD_len _, hn⟩


end Go.Proofs.YtoihhlkidlapmaaGreat

/- Root: what the laws' own functions of it do. (Written by mkshape.py.) -/
namespace Go.Proofs.YtoihhlkidlapmaaGreat
open Go.RowKit Go.Shelf







end Go.Proofs.YtoihhlkidlapmaaGreat

/- What is wrong with packs; whether a root is ok, and its tree. -/
namespace Go.Proofs.YtoihhlkidlapmaaGreat
open Go.RowKit Go.Shelf




end Go.Proofs.YtoihhlkidlapmaaGreat

/- A root of other packs, or the one that was, by the model. -/
namespace Go.Proofs.YtoihhlkidlapmaaGreat
open Go.RowKit Go.Shelf

/-- What a region with calls and a store at its end keeps. -/
def OutW (w : World) (g : Nat) (w' : World) : Prop := Below (g + 1) w w' ∧ ∃ z, w'.heap[g + 1]? = some (.cells #[z] 51 (0, 0))
theorem OutW.next {w w1 w2 : World} {g : Nat} (h : OutW w g w1) (hg : g + 1 < w1.heap.size) (hb : Below w1.heap.size w1 w2) : OutW w g w2 := by
  obtain ⟨h1, z, hz⟩ := h
  exact ⟨h1.trans (hb.mono (by omega)), z, (hb.block _ hg).trans hz⟩
theorem OutW.store {w w1 : World} {g : Nat} (h : OutW w g w1) (u : Value) : OutW w g (w1.setCell ⟨g + 1, 0, none⟩ u) := by
  obtain ⟨h1, z, hz⟩ := h
  exact ⟨h1.setCell (by dsimp only; omega) _, u, heap_setCell_same w1 (g + 1) 0 _ _ u hz⟩

end Go.Proofs.YtoihhlkidlapmaaGreat

/- Packs with one more, by the model. -/
namespace Go.Proofs.YtoihhlkidlapmaaGreat
open Go.RowKit Go.Shelf

end Go.Proofs.YtoihhlkidlapmaaGreat

/- Roots copied, and turned, by the program. -/
namespace Go.Proofs.YtoihhlkidlapmaaGreat
open Go.RowKit Go.Shelf


end Go.Proofs.YtoihhlkidlapmaaGreat

/- A row of entries that a call has made, in the words of the shapes. -/
namespace Go.Proofs.YtoihhlkidlapmaaGreat
open Go.RowKit Go.Shelf

end Go.Proofs.YtoihhlkidlapmaaGreat

/- Entry: what is handed over of it; the words of the exact laws. (Written by mkshape.py.) -/
namespace Go.Proofs.YtoihhlkidlapmaaGreat
open Go.ChangeShapes Go.WideShapes Go.ChangeAt Go.RowKit

set_option maxHeartbeats 1000000 in
set_option maxRecDepth 100000 in
theorem opens_Entry : Opens entryC 233 := by
  intro H enc W n cs x h hlt
  obtain ⟨xs, m, _, rfl, hl, hlen, hf⟩ := DataW.trod_struct Tryz.underlying233 h
  have hcn : Tryz.prog.cellsOf 233 = 4 := by kernel_rfl
  rw [hcn] at hl
  match cs, hl, xs, hlen with
  | [c0, c1, c2, c3], _, [y0, y1, y2, y3], _ =>
    obtain ⟨d0, a0, b0⟩ := opens_txt H enc W m [c0] y0 (hf 0 _ rfl) (fun y hy => hlt y (by simp [hy]))
    obtain ⟨d1, a1, b1⟩ := opens_int H enc W m [c1] y1 (hf 1 _ rfl) (fun y hy => hlt y (by simp [hy]))
    obtain ⟨d2, a2, b2⟩ := opens_int H enc W m [c2] y2 (hf 2 _ rfl) (fun y hy => hlt y (by simp [hy]))
    obtain ⟨d3, a3, b3⟩ := opens_txt H enc W m [c3] y3 (hf 3 _ rfl) (fun y hy => hlt y (by simp [hy]))
    exact ⟨⟨d0, d1, d2, d3⟩, ⟨[c0], [c1, c2, c3], rfl, a0, ⟨[c1], [c2, c3], rfl, a1, ⟨[c2], [c3], rfl, a2, a3⟩⟩⟩, ⟨b0, b1, b2, b3⟩⟩
end Go.Proofs.YtoihhlkidlapmaaGreat

/- Need: what is handed over of it; the words of the exact laws. (Written by mkshape.py.) -/
namespace Go.Proofs.YtoihhlkidlapmaaGreat
open Go.ChangeShapes Go.WideShapes Go.ChangeAt Go.RowKit

set_option maxHeartbeats 1000000 in
set_option maxRecDepth 100000 in
theorem opens_Need : Opens needC 231 := by
  intro H enc W n cs x h hlt
  obtain ⟨xs, m, _, rfl, hl, hlen, hf⟩ := DataW.trod_struct Tryz.underlying231 h
  have hcn : Tryz.prog.cellsOf 231 = 3 := by kernel_rfl
  rw [hcn] at hl
  match cs, hl, xs, hlen with
  | [c0, c1, c2], _, [y0, y1, y2], _ =>
    obtain ⟨d0, a0, b0⟩ := opens_txt H enc W m [c0] y0 (hf 0 _ rfl) (fun y hy => hlt y (by simp [hy]))
    obtain ⟨d1, a1, b1⟩ := opens_int H enc W m [c1] y1 (hf 1 _ rfl) (fun y hy => hlt y (by simp [hy]))
    obtain ⟨d2, a2, b2⟩ := opens_txt H enc W m [c2] y2 (hf 2 _ rfl) (fun y hy => hlt y (by simp [hy]))
    exact ⟨⟨d0, d1, d2⟩, ⟨[c0], [c1, c2], rfl, a0, ⟨[c1], [c2], rfl, a1, a2⟩⟩, ⟨b0, b1, b2⟩⟩
end Go.Proofs.YtoihhlkidlapmaaGreat

/- Pack: what is handed over of it; the words of the exact laws. (Written by mkshape.py.) -/
namespace Go.Proofs.YtoihhlkidlapmaaGreat
open Go.ChangeShapes Go.WideShapes Go.ChangeAt Go.RowKit

set_option maxHeartbeats 1000000 in
set_option maxRecDepth 100000 in
theorem opens_Pack : Opens packC 103 := by
  intro H enc W n cs x h hlt
  obtain ⟨xs, m, _, rfl, hl, hlen, hf⟩ := DataW.trod_struct Tryz.underlying103 h
  have hcn : Tryz.prog.cellsOf 103 = 4 := by kernel_rfl
  rw [hcn] at hl
  match cs, hl, xs, hlen with
  | [c0, c1, c2, c3], _, [y0, y1, y2, y3], _ =>
    obtain ⟨d0, a0, b0⟩ := opens_txt H enc W m [c0] y0 (hf 0 _ rfl) (fun y hy => hlt y (by simp [hy]))
    obtain ⟨d1, a1, b1⟩ := opens_txt H enc W m [c1] y1 (hf 1 _ rfl) (fun y hy => hlt y (by simp [hy]))
    obtain ⟨d2, a2, b2⟩ := (opens_row (ty := 36) Tryz.underlying100 (by kernel_rfl) (by decide) opens_Need) H enc W m [c2] y2 (hf 2 _ rfl) (fun y hy => hlt y (by simp [hy]))
    obtain ⟨d3, a3, b3⟩ := (opens_row (ty := 57) Tryz.underlying101 (by kernel_rfl) (by decide) opens_Entry) H enc W m [c3] y3 (hf 3 _ rfl) (fun y hy => hlt y (by simp [hy]))
    exact ⟨⟨d0, d1, d2, d3⟩, ⟨[c0], [c1, c2, c3], rfl, a0, ⟨[c1], [c2, c3], rfl, a1, ⟨[c2], [c3], rfl, a2, a3⟩⟩⟩, ⟨b0, b1, b2, b3⟩⟩
set_option maxRecDepth 100000 in
theorem pack_ofS {H : Type} {enc : TypeId × Value → H} {base : Nat} {W : World} {v : Value} {d0 : DataW H} {p : List MemPlace} (hv : Value.okWide Tryz.prog W .any base 41 v) (h : DataW.Trod enc Tryz.prog W 0 (fun _ => true) true 41 v d0 p) (hlt : ∀ x ∈ p, x.block < W.heap.size) : ∃ ds, rowAt packC W v ds ∧ (ds.length ≤ maxLen ∧ ∀ d ∈ ds, packC.big d) := rowv_of (ty := 34) Tryz.underlying41 (opens_row Tryz.underlying41 (by kernel_rfl) (by decide) opens_Pack) hv h hlt
set_option maxRecDepth 100000 in
theorem vszPackS_v (ds : List packC.D) (V : Value) (left : Int) (w : World) (hb : ds.length ≤ maxLen ∧ ∀ d ∈ ds, packC.big d) (hl : 0 ≤ left) (hl2 : left ≤ 1048576) (h : rowAt packC w V ds) : Calls Tryz.prog 23 #[V, .int .i64 left] w fun x w' => (∃ r : Int, x = .returned (.int .i64 r) ∧ r ≤ left ∧ (r < 0 ∨ r + (ds.length + szR packC ds) = left)) ∧ Below w.heap.size w w' := vszPackS_any ds V left w hb hl hl2 h
set_option maxRecDepth 100000 in
theorem vtoPackS_v (ds : List packC.D) (V : Value) (w : World) (hs : ds.length + szR packC ds ≤ 1048576) (h : rowAt packC w V ds) : Calls Tryz.prog 25 #[V] w fun x w' => ∃ (v : Value) (F : List Nat), x = .returned v ∧ (rowK packC 34).own w' v ds F ∧ (∀ k ∈ F, w.heap.size ≤ k ∧ k < w'.heap.size) ∧ Below w.heap.size w w' := vtoPackS_any ds V w hs h
set_option maxRecDepth 100000 in
theorem veqPackS_v (ds : List packC.D) (v v' : Value) (F F' : List Nat) (w : World) (hb : ds.length ≤ maxLen ∧ ∀ d ∈ ds, packC.big d) (h : (rowK packC 34).own w v ds F) (h' : (rowK packC 34).own w v' ds F') : Calls Tryz.prog 28 #[v, v'] w fun x w' => x = .returned (.bool true) ∧ Below w.heap.size w w' := veqPackS_same ds v v' w hb (rowOwn.toAt h) (rowOwn.toAt h')
set_option maxRecDepth 100000 in
theorem vmarkPackS_v (ds : List packC.D) (v : Value) (F : List Nat) (q : Nat) (c : Int) (hcq : c = (q : Int)) (w : World) (hq : 0 < q) (hq2 : q + cntR packC ds ≤ 20000000) (h : (rowK packC 34).own w v ds F) : Calls Tryz.prog 29 #[v, .int .i64 c] w fun x w' => (∃ r : Int, x = .returned (.int .i64 r) ∧ r ≤ ((q + cntR packC ds : Nat) : Int) ∧ ((q + cntR packC ds : Nat) : Int) ≤ r) ∧ (rowK packC 34).own w' v (markR packC q ds) F ∧ Only F w w' := vmarkPackS_own ds v F q c hcq w hq hq2 h
end Go.Proofs.YtoihhlkidlapmaaGreat

/- Root: what is handed over of it; the words of the exact laws. (Written by mkshape.py.) -/
namespace Go.Proofs.YtoihhlkidlapmaaGreat
open Go.ChangeShapes Go.WideShapes Go.ChangeAt Go.RowKit

end Go.Proofs.YtoihhlkidlapmaaGreat

/- RootOk and RootTree of copies in memory of their own. -/
namespace Go.Proofs.YtoihhlkidlapmaaGreat
open Go.RowKit Go.Shelf




end Go.Proofs.YtoihhlkidlapmaaGreat

/- RootOut, by the model and by the program. -/
namespace Go.Proofs.YtoihhlkidlapmaaGreat
open Go.RowKit Go.Shelf

end Go.Proofs.YtoihhlkidlapmaaGreat

/- A pack put among packs by name, by the program. -/
namespace Go.Proofs.YtoihhlkidlapmaaGreat
open Go.RowKit Go.Shelf


end Go.Proofs.YtoihhlkidlapmaaGreat

/- A pack put into a root, by the model. -/
namespace Go.Proofs.YtoihhlkidlapmaaGreat
open Go.RowKit Go.Shelf

end Go.Proofs.YtoihhlkidlapmaaGreat

/- RootIn, by the model. -/
namespace Go.Proofs.YtoihhlkidlapmaaGreat
open Go.RowKit Go.Shelf

end Go.Proofs.YtoihhlkidlapmaaGreat

/- RootIn, by the program. -/
namespace Go.Proofs.YtoihhlkidlapmaaGreat
open Go.RowKit Go.Shelf

end Go.Proofs.YtoihhlkidlapmaaGreat

/- Whether a pack is elder than another, by the program. -/
namespace Go.Proofs.YtoihhlkidlapmaaGreat
open Go.RowKit Go.Shelf

end Go.Proofs.YtoihhlkidlapmaaGreat

/- A pack in the place of an elder one, by the model. -/
namespace Go.Proofs.YtoihhlkidlapmaaGreat
open Go.RowKit Go.Shelf

end Go.Proofs.YtoihhlkidlapmaaGreat

/- RootSwap, by the model. -/
namespace Go.Proofs.YtoihhlkidlapmaaGreat
open Go.RowKit Go.Shelf

end Go.Proofs.YtoihhlkidlapmaaGreat

/- RootSwap, by the program. -/
namespace Go.Proofs.YtoihhlkidlapmaaGreat
open Go.RowKit Go.Shelf

end Go.Proofs.YtoihhlkidlapmaaGreat

/- The pack that a path is of. -/
namespace Go.Proofs.YtoihhlkidlapmaaGreat
open Go.RowKit Go.Shelf



end Go.Proofs.YtoihhlkidlapmaaGreat

/- Roots as sets of packs, and their trees as sets of entries. -/
namespace Go.Proofs.YtoihhlkidlapmaaGreat
open Go.RowKit Go.Shelf

end Go.Proofs.YtoihhlkidlapmaaGreat

/- Two versions are of one order only if they are one text. -/
namespace Go.Proofs.YtoihhlkidlapmaaGreat
open Go.RowKit



end Go.Proofs.YtoihhlkidlapmaaGreat

/- What the laws of roots say, in numbers and rows. -/
namespace Go.Proofs.YtoihhlkidlapmaaGreat
open Go.RowKit Go.Shelf

end Go.Proofs.YtoihhlkidlapmaaGreat

/- What the laws' draws give: numbers below a bound, texts that are short. -/
namespace Go.Proofs.YtoihhlkidlapmaaGreat
open Go.RowKit

/-- The reader at block b: what it reads of, and where it stands. -/
structure Rd (w : World) (b : Nat) (a : Option Addr) (len cap p : Nat) : Prop where
  c0 : w.cell? ⟨b, 0, none⟩ = some (.slice a len cap)
  c1 : w.cell? ⟨b, 1, none⟩ = some (.int .i64 p)
  f1 : w.frozen? ⟨b, 1, none⟩ = false
  l : len ≤ 2000
  d : len = 0 ∨ ∃ blk off, a = some ⟨blk, off, none⟩ ∧ blk < b ∧ ∀ k, k < len → ∃ c : Nat, c < 256 ∧ w.cell? ⟨blk, off + k, none⟩ = some (.int .u8 c)

theorem Rd.step {w : World} {b : Nat} {a : Option Addr} {len cap p : Nat} (h : Rd w b a len cap p) : Rd (w.setCell ⟨b, 1, none⟩ (.int .i64 ((p : Int) + 1))) b a len cap (p + 1) where
  c0 := by rw [World.cell?_setCell_other (h := by simp)]; exact h.c0
  c1 := by rw [World.cell?_setCell_same' _ _ _ (by rw [h.c1]; rfl)]; simp
  f1 := by rw [World.frozen?_setCell]; exact h.f1
  l := h.l
  d := by
    rcases h.d with h0 | ⟨blk, off, ha, hb, hc⟩
    · exact .inl h0
    · refine .inr ⟨blk, off, ha, hb, fun k hk => ?_⟩
      obtain ⟨c, h1, h2⟩ := hc k hk
      exact ⟨c, h1, (World.cell?_of_block (w := w) (Below.heap_setCell w ⟨b, 1, none⟩ _ blk (by simp; omega))).trans h2⟩
theorem Rd.drewN {w : World} {b : Nat} {a : Option Addr} {len cap p : Nat} (h : Rd w b a len cap p) (m : Nat) : Rd (w.drewN m) b a len cap p := ⟨h.c0, h.c1, h.f1, h.l, h.d⟩

end Go.Proofs.YtoihhlkidlapmaaGreat

/- What the laws' draws of paths give: texts of at most a hundred bytes. -/
namespace Go.Proofs.YtoihhlkidlapmaaGreat
open Go.RowKit

theorem grown_trans {x y z : World} {b : Nat} (h : x.grownBy y (some b)) (g : y.grownBy z (some b)) : x.grownBy z (some b) :=
  ⟨g.os.trans h.os, g.tape.trans h.tape, g.output.trans h.output, Nat.le_trans h.size g.size, fun k hk hne => (g.block k (Nat.lt_of_lt_of_le hk h.size) hne).trans (h.block k hk hne)⟩
theorem Rd.lt {w : World} {b : Nat} {a : Option Addr} {len cap p : Nat} (h : Rd w b a len cap p) : b < w.heap.size := by
  have h0 := h.c0
  unfold World.cell? at h0
  cases hh : w.heap[b]? with
  | none => simp [hh] at h0
  | some o => exact (Array.getElem?_eq_some_iff.1 hh).1
theorem Rd.of_below {w w' : World} {b : Nat} {a : Option Addr} {len cap p : Nat} (h : Rd w b a len cap p) (hB : Below w.heap.size w w') : Rd w' b a len cap p where
  c0 := (hB.cell (p := ⟨b, 0, none⟩) h.lt).trans h.c0
  c1 := (hB.cell (p := ⟨b, 1, none⟩) h.lt).trans h.c1
  f1 := (hB.frozen (p := ⟨b, 1, none⟩) h.lt).trans h.f1
  l := h.l
  d := by
    rcases h.d with h0 | ⟨blk, off, ha, hb, hc⟩
    · exact .inl h0
    · refine .inr ⟨blk, off, ha, hb, fun k hk => ?_⟩
      obtain ⟨c, h1, h2⟩ := hc k hk
      exact ⟨c, h1, (hB.cell (p := ⟨blk, off + k, none⟩) (by have := h.lt; simp; omega)).trans h2⟩
theorem Rd.alloc {w : World} {b : Nat} {a : Option Addr} {len cap p : Nat} (h : Rd w b a len cap p) (o : Obj) : Rd (w.alloc o) b a len cap p :=
  h.of_below ((Below.refl _ w).alloc (Nat.le_refl _) o)


/-- A text of at most a hundred bytes. -/
def short (x : ByteArray) : Prop := x.size ≤ 100



/-- What a law is handed: bytes that can be read below a bound. -/
def Code (w : World) (B : Nat) (a : Option Addr) (len : Nat) : Prop :=
  len = 0 ∨ ∃ blk off, a = some ⟨blk, off, none⟩ ∧ blk < B ∧ ∀ k, k < len → ∃ c : Nat, c < 256 ∧ w.cell? ⟨blk, off + k, none⟩ = some (.int .u8 c)

theorem Code.less {w : World} {B : Nat} {a : Option Addr} {len m : Nat} (h : Code w B a len) (hm : m ≤ len) : Code w B a m := by
  rcases h with h | ⟨blk, off, ha, hb, hc⟩
  · exact .inl (by omega)
  · exact .inr ⟨blk, off, ha, hb, fun k hk => hc k (by omega)⟩




end Go.Proofs.YtoihhlkidlapmaaGreat

/- Draws of paths, numbers and texts. A drawn path begins neither with fr nor with ne. -/
namespace Go.Proofs.YtoihhlkidlapmaaGreat
open Go.RowKit

def niceB (l : List UInt8) : Bool := decide (l.length ≤ 100) && (l.take 2 != [102, 114] && l.take 2 != [110, 101])
def nice (x : ByteArray) : Prop := niceB x.data.toList = true
theorem nice_short {x : ByteArray} (h : nice x) : x.size ≤ 100 := by
  unfold nice niceB at h
  simp only [Bool.and_eq_true, decide_eq_true_eq] at h
  have := h.1
  simpa using this






end Go.Proofs.YtoihhlkidlapmaaGreat

/- What the draw of an entry gives: a path that no law puts anew, a short text. -/
namespace Go.Proofs.YtoihhlkidlapmaaGreat
open Go.RowKit

def niceE (e : Ent) : Prop := nice e.path ∧ short e.text


end Go.Proofs.YtoihhlkidlapmaaGreat

/- What the draw of any entry gives. -/
namespace Go.Proofs.YtoihhlkidlapmaaGreat
open Go.RowKit


end Go.Proofs.YtoihhlkidlapmaaGreat

/- A number in figures, by the model. -/
namespace Go.Proofs.YtoihhlkidlapmaaGreat
open Go.RowKit



end Go.Proofs.YtoihhlkidlapmaaGreat

/- What the draw of a tree gives: at most sixteen entries of drawn paths and short texts, in a row of their own. -/
namespace Go.Proofs.YtoihhlkidlapmaaGreat
open Go.RowKit

/-- A row of entries that is not nil, behind a bound. -/
def TreeV (W : World) (N : Nat) (v : Value) (es : List Ent) : Prop := ∃ g c, v = .slice (some ⟨g, 0, none⟩) es.length c ∧ W.ownsRow N 57 4 v es.length (valsOf es)
theorem treeV_of {W : World} {N : Nat} {v : Value} {es : List Ent} (h : W.ownsRow N 57 4 v es.length (valsOf es)) (hs : SomeV v) : TreeV W N v es := by
  rcases h.2 with ⟨rfl, h0⟩ | ⟨g, cap, cur, rfl, _⟩
  · obtain ⟨ad, n, c, hc⟩ := hs; cases hc
  · exact ⟨g, cap, rfl, h⟩
theorem TreeV.ents {W : World} {N g c : Nat} {es : List Ent} (h : W.ownsRow N 57 4 (.slice (some ⟨g, 0, none⟩) es.length c) es.length (valsOf es)) : (∀ (i : Nat) e, es[i]? = some e → EntAt W g (0 + i * 4) e) ∧ g < W.heap.size ∧ N ≤ g ∧ es.length ≤ c := by
  have hl := h.lt g rfl
  have hc : es.length ≤ c := by
    rcases h.2 with ⟨hv, _⟩ | ⟨g', cap, cur, hv, _, _, hc, _⟩
    · cases hv
    · cases hv; exact hc
  obtain ⟨a, cap, hv, hr⟩ := rowIn_of_owns h
  cases hv
  refine ⟨fun i e hi => ?_, hl.2, hl.1, hc⟩
  rcases hr with rfl | ⟨g', hg, _, _, hR⟩
  · simp at hi
  · cases hg
    have := (hR.cells i (List.getElem?_eq_some_iff.1 hi).1).1
    rw [entFn_get hi] at this
    rwa [Nat.zero_add]
theorem TreeV.kept {W W' : World} {N : Nat} {v : Value} {es : List Ent} (h : TreeV W N v es) (hk : ∀ k, N ≤ k → k < W.heap.size → W'.heap[k]? = W.heap[k]?) : TreeV W' N v es := by
  obtain ⟨g, c, hv, ho⟩ := h
  exact ⟨g, c, hv, ownsRow_kept ho (fun g eg => hk g (ho.lt g eg).1 (ho.lt g eg).2)⟩
theorem TreeV.below {W W' : World} {N : Nat} {v : Value} {es : List Ent} (h : TreeV W N v es) (hb : Below W.heap.size W W') : TreeV W' N v es := h.kept (fun k _ hk => hb.block k hk)
theorem TreeV.grown {W W' : World} {N b : Nat} {v : Value} {es : List Ent} (h : TreeV W N v es) (hb : W.grownBy W' (some b)) (hlt : b < N) : TreeV W' N v es := h.kept (fun k h1 hk => hb.block k hk (fun e => by injection e; omega))
theorem TreeV.base {W : World} {N N' : Nat} {v : Value} {es : List Ent} (h : TreeV W N v es) (hN : N' ≤ N) : TreeV W N' v es := by
  obtain ⟨g, c, hv, ho⟩ := h
  exact ⟨g, c, hv, ownsRow_base ho hN⟩
theorem putL_16 {es : List Ent} {e : Ent} (h : es.length ≤ 16) : (putL es e).length ≤ 16 := by
  cases hk : okPut es e
  · rw [putL_no hk]; exact h
  · cases ht : thereE es e.path
    · rw [putL_ins hk ht]
      unfold okPut at hk
      rw [ht] at hk
      simp only [Bool.and_eq_true] at hk
      have h1 := hk.2.2
      simp at h1
      have h2 := placeE_le es e.path
      unfold insAt
      simp; omega
    · rw [putL_set hk ht]; simpa using h
theorem putL_mem {es : List Ent} {e x : Ent} (hx : x ∈ putL es e) : x ∈ es ∨ x = e := by
  unfold putL at hx
  split at hx
  · exact putT_mem hx
  · exact .inl hx
theorem grown_of_below' {W w1 : World} (h : Below W.heap.size W w1) (r : Option Nat) : W.grownBy w1 r := ⟨h.os, h.tape, h.output, h.size, fun k hk _ => h.block k hk⟩
theorem grown_lift {x y z : World} {b : Nat} (h : x.grownBy y (some b)) (hb : Below y.heap.size y z) : x.grownBy z (some b) := grown_trans h (grown_of_below' hb _)

/-- What holds while a tree is drawn. -/
structure TS (w : World) (b : Nat) (a : Option Addr) (len cap p : Nat) (W : World) (v : Value) (es : List Ent) : Prop where
  v : TreeV W w.heap.size v es
  nice : ∀ e ∈ es, niceE e
  few : es.length ≤ 16
  rd : ∃ p', p' ≤ p ∧ Rd W b a len cap p'
  grown : w.grownBy W (some b)
theorem TS.put {w : World} {b : Nat} {a : Option Addr} {len cap p : Nat} {W W' : World} {v v' : Value} {es : List Ent} {e : Ent} (h : TS w b a len cap p W v es) (he : niceE e) (ho : W'.ownsRow W.heap.size 57 4 v' (putL es e).length (valsOf (putL es e))) (hb : Below W.heap.size W W') (hs : SomeV v') : TS w b a len cap p W' v' (putL es e) := by
  refine ⟨treeV_of (ownsRow_base ho h.grown.size) hs, fun x hx => ?_, putL_16 h.few, ?_, grown_lift h.grown hb⟩
  · rcases putL_mem hx with hx | rfl
    · exact h.nice x hx
    · exact he
  · obtain ⟨p', h1, h2⟩ := h.rd
    exact ⟨p', h1, h2.of_below hb⟩
theorem TS.read {w : World} {b : Nat} {a : Option Addr} {len cap p q : Nat} {W W' : World} {v : Value} {es : List Ent} (h : TS w b a len cap p W v es) (hlt : b < w.heap.size) (hg : W.grownBy W' (some b)) (hr : ∃ p', p' ≤ q ∧ Rd W' b a len cap p') : TS w b a len cap q W' v es :=
  ⟨h.v.grown hg hlt, h.nice, h.few, hr, grown_trans h.grown hg⟩
theorem TS.more {w : World} {b : Nat} {a : Option Addr} {len cap p q : Nat} {W : World} {v : Value} {es : List Ent} (h : TS w b a len cap p W v es) (hq : p ≤ q) : TS w b a len cap q W v es :=
  ⟨h.v, h.nice, h.few, by obtain ⟨p', h1, h2⟩ := h.rd; exact ⟨p', by omega, h2⟩, h.grown⟩
theorem TS.below {w : World} {b : Nat} {a : Option Addr} {len cap p : Nat} {W W' : World} {v : Value} {es : List Ent} (h : TS w b a len cap p W v es) (hb : Below W.heap.size W W') : TS w b a len cap p W' v es :=
  ⟨h.v.below hb, h.nice, h.few, by obtain ⟨p', h1, h2⟩ := h.rd; exact ⟨p', h1, h2.of_below hb⟩, grown_lift h.grown hb⟩
/-- The dirs that are tried. -/
def dirsC : Array Value := #[.string ⟨#[97]⟩, .string ⟨#[108, 105, 98]⟩, .string ⟨#[98, 105, 110]⟩, .string ⟨#[100, 111, 99]⟩, .string ⟨#[97, 47, 98]⟩]
def DirsAt (W : World) (D : Nat) : Prop := W.heap[D]? = some (.cells dirsC 9 (0, 0))
theorem DirsAt.cell {W : World} {D : Nat} (h : DirsAt W D) (k : Nat) (hk : k < 5) : ∃ x, nice x ∧ W.cell? ⟨D, k, none⟩ = some (.string x) := by
  have h1 : W.cell? ⟨D, k, none⟩ = dirsC[k]? := by unfold World.cell?; rw [h]; simp
  rw [h1]
  rcases (by omega : k = 0 ∨ k = 1 ∨ k = 2 ∨ k = 3 ∨ k = 4) with rfl | rfl | rfl | rfl | rfl
  · exact ⟨⟨#[97]⟩, by unfold nice; decide, rfl⟩
  · exact ⟨⟨#[108, 105, 98]⟩, by unfold nice; decide, rfl⟩
  · exact ⟨⟨#[98, 105, 110]⟩, by unfold nice; decide, rfl⟩
  · exact ⟨⟨#[100, 111, 99]⟩, by unfold nice; decide, rfl⟩
  · exact ⟨⟨#[97, 47, 98]⟩, by unfold nice; decide, rfl⟩

end Go.Proofs.YtoihhlkidlapmaaGreat

/- What the draws over trees give: rows of at most seventeen entries, and paths. -/
namespace Go.Proofs.YtoihhlkidlapmaaGreat
open Go.RowKit

/-- What holds behind the draw of any entries. -/
structure TA (w : World) (b : Nat) (a : Option Addr) (len cap p : Nat) (W : World) (v : Value) (es : List Ent) : Prop where
  v : TreeV W w.heap.size v es
  nice : ∀ e ∈ es, niceE e
  few : es.length ≤ 17
  rd : ∃ p', p' ≤ p ∧ Rd W b a len cap p'
  grown : w.grownBy W (some b)
theorem TA.read {w : World} {b : Nat} {a : Option Addr} {len cap p q : Nat} {W W' : World} {v : Value} {es : List Ent} (h : TA w b a len cap p W v es) (hlt : b < w.heap.size) (hg : W.grownBy W' (some b)) (hr : ∃ p', p' ≤ q ∧ Rd W' b a len cap p') : TA w b a len cap q W' v es :=
  ⟨h.v.grown hg hlt, h.nice, h.few, hr, grown_trans h.grown hg⟩
theorem TA.small {w : World} {b : Nat} {a : Option Addr} {len cap p : Nat} {W : World} {v : Value} {es : List Ent} (h : TA w b a len cap p W v es) : smallE es :=
  ⟨by have := h.few; omega, fun e he => ⟨by have := nice_short (h.nice e he).1; omega, by have : e.text.size ≤ 100 := (h.nice e he).2; omega⟩⟩



end Go.Proofs.YtoihhlkidlapmaaGreat

/- Plain mathematics of patterns: the places at which a pattern may stand behind some items, kept all at once, tell whether it takes just these. -/
namespace Go.Proofs.YtoihhlkidlapmaaGreat

/-- A pattern: 'none' takes any run of items, 'some f' one item that f takes. -/
abbrev Pat (α : Type) := List (Option (α → Bool))

def starO {α : Type} (f : List α → Bool) : List α → Bool
  | [] => f []
  | c :: t => f (c :: t) || starO f t
def matchO {α : Type} : Pat α → List α → Bool
  | [], s => s.isEmpty
  | none :: g, s => starO (matchO g) s
  | some f :: g, s => match s with
    | [] => false
    | c :: t => f c && matchO g t

def runAt {α : Type} (xs : Pat α) (i : Nat) : Bool := match xs[i]? with
  | some none => true
  | _ => false
def takeAt {α : Type} (xs : Pat α) (i : Nat) (c : α) : Bool := match xs[i]? with
  | some (some f) => f c
  | _ => false

def skipN {α : Type} (xs : Pat α) (h : Nat → Bool) : Nat → Nat → Bool
  | 0 => h
  | k + 1 => fun j => skipN xs h k j || (j == k + 1 && (skipN xs h k k && runAt xs k))
def passN {α : Type} (xs : Pat α) (h : Nat → Bool) (c : α) : Nat → Nat → Bool
  | 0 => fun _ => false
  | k + 1 => fun j => passN xs h c k j || (h k && ((runAt xs k && j == k) || (takeAt xs k c && j == k + 1)))
def nextP {α : Type} (xs : Pat α) (h : Nat → Bool) (c : α) : Nat → Bool := skipN xs (passN xs h c xs.length) xs.length
def startP {α : Type} (xs : Pat α) : Nat → Bool := skipN xs (fun j => j == 0) xs.length
def placesP {α : Type} (xs : Pat α) (items : List α) : Nat → Bool := items.foldl (nextP xs) (startP xs)
theorem placesP_snoc {α : Type} (xs : Pat α) (items : List α) (c : α) : placesP xs (items ++ [c]) = nextP xs (placesP xs items) c := by simp [placesP]

theorem skipN_iff {α : Type} (xs : Pat α) (h : Nat → Bool) (k j : Nat) : skipN xs h k j = true ↔ ∃ i, i ≤ j ∧ h i = true ∧ (∀ t, i ≤ t → t < j → runAt xs t = true) ∧ (i = j ∨ j ≤ k) := by
  induction k generalizing j with
  | zero =>
    constructor
    · intro e; exact ⟨j, Nat.le_refl _, e, fun t h1 h2 => by omega, .inl rfl⟩
    · rintro ⟨i, h1, h2, _, h4⟩
      have : i = j := by omega
      subst this; exact h2
  | succ k ih =>
    unfold skipN
    rw [Bool.or_eq_true, Bool.and_eq_true, Bool.and_eq_true, ih j, ih k]
    constructor
    · rintro (⟨i, h1, h2, h3, h4⟩ | ⟨hj, ⟨i, h1, h2, h3, _⟩, hr⟩)
      · exact ⟨i, h1, h2, h3, by omega⟩
      · have hj' : j = k + 1 := by simpa using hj
        subst hj'
        refine ⟨i, by omega, h2, fun t a b => ?_, .inr (Nat.le_refl _)⟩
        by_cases e : t = k
        · subst e; exact hr
        · exact h3 t a (by omega)
    · rintro ⟨i, h1, h2, h3, h4⟩
      by_cases e : i = j ∨ j ≤ k
      · exact .inl ⟨i, h1, h2, h3, e⟩
      · have hj : j = k + 1 := by omega
        subst hj
        exact .inr ⟨by simp, ⟨i, by omega, h2, fun t a b => h3 t a (by omega), .inr (Nat.le_refl _)⟩, h3 k (by omega) (by omega)⟩

theorem passN_iff {α : Type} (xs : Pat α) (h : Nat → Bool) (c : α) (k j : Nat) : passN xs h c k j = true ↔ (j < k ∧ h j = true ∧ runAt xs j = true) ∨ ∃ i, i < k ∧ j = i + 1 ∧ h i = true ∧ takeAt xs i c = true := by
  induction k with
  | zero => simp [passN]
  | succ k ih =>
    unfold passN
    rw [Bool.or_eq_true, ih, Bool.and_eq_true, Bool.or_eq_true, Bool.and_eq_true, Bool.and_eq_true]
    simp only [beq_iff_eq]
    constructor
    · rintro ((⟨a, b, d⟩ | ⟨i, a, b, d, e⟩) | ⟨hk, ⟨a, rfl⟩ | ⟨a, rfl⟩⟩)
      · exact .inl ⟨by omega, b, d⟩
      · exact .inr ⟨i, by omega, b, d, e⟩
      · exact .inl ⟨by omega, hk, a⟩
      · exact .inr ⟨k, by omega, rfl, hk, a⟩
    · rintro (⟨a, b, d⟩ | ⟨i, a, b, d, e⟩)
      · by_cases ek : j = k
        · subst ek; exact .inr ⟨b, .inl ⟨d, rfl⟩⟩
        · exact .inl (.inl ⟨by omega, b, d⟩)
      · by_cases ek : i = k
        · subst ek; exact .inr ⟨d, .inr ⟨e, b⟩⟩
        · exact .inl (.inr ⟨i, by omega, b, d, e⟩)

theorem drop_at {α : Type} (xs : Pat α) (i : Nat) (x : Option (α → Bool)) (h : xs[i]? = some x) : xs.drop i = x :: xs.drop (i + 1) := by
  obtain ⟨hi, rfl⟩ := List.getElem?_eq_some_iff.1 h
  exact List.drop_eq_getElem_cons hi
theorem runAt_iff {α : Type} {xs : Pat α} {i : Nat} : runAt xs i = true ↔ xs[i]? = some none := by
  unfold runAt
  split <;> simp_all
theorem starO_of {α : Type} (f : List α → Bool) (s : List α) (h : f s = true) : starO f s = true := by
  cases s with
  | nil => exact h
  | cons c t => simp [starO, h]
theorem match_skip {α : Type} {xs : Pat α} {i : Nat} {r : List α} (hr : runAt xs i = true) (h : matchO (xs.drop (i + 1)) r = true) : matchO (xs.drop i) r = true := by
  rw [drop_at xs i none (runAt_iff.1 hr)]
  exact starO_of _ _ h
theorem match_skips {α : Type} {xs : Pat α} {r : List α} (i d : Nat) (hr : ∀ t, i ≤ t → t < i + d → runAt xs t = true) (h : matchO (xs.drop (i + d)) r = true) : matchO (xs.drop i) r = true := by
  induction d with
  | zero => exact h
  | succ d ih => exact ih (fun t a b => hr t a (by omega)) (match_skip (hr (i + d) (by omega) (by omega)) h)

/-- The places tell all that may come. -/
def OkPl {α : Type} (xs : Pat α) (h : Nat → Bool) (pre : List α) : Prop :=
  (∀ rest, matchO xs (pre ++ rest) = true ↔ ∃ i, i ≤ xs.length ∧ h i = true ∧ matchO (xs.drop i) rest = true) ∧ ∀ i, i < xs.length → h i = true → runAt xs i = true → h (i + 1) = true

theorem okPl_start {α : Type} (xs : Pat α) : OkPl xs (startP xs) [] := by
  refine ⟨fun rest => ⟨fun h => ⟨0, Nat.zero_le _, ?_, h⟩, ?_⟩, fun i hi h hr => ?_⟩
  · exact (skipN_iff _ _ _ _).2 ⟨0, Nat.le_refl _, rfl, fun t _ b => by omega, .inl rfl⟩
  · rintro ⟨i, hi, h1, h2⟩
    obtain ⟨j, hj, hj0, hall, _⟩ := (skipN_iff _ _ _ _).1 h1
    have hj0' : j = 0 := by simpa using hj0
    subst hj0'
    exact match_skips (xs := xs) 0 i (fun t a b => hall t a (by omega)) (by simpa using h2)
  · obtain ⟨j, hj, hj0, hall, _⟩ := (skipN_iff _ _ _ _).1 h
    refine (skipN_iff _ _ _ _).2 ⟨j, by omega, hj0, fun t a b => ?_, .inr (by omega)⟩
    by_cases e : t = i
    · subst e; exact hr
    · exact hall t a (by omega)

theorem okPl_next {α : Type} {xs : Pat α} {h : Nat → Bool} {pre : List α} (c : α) (ok : OkPl xs h pre) : OkPl xs (nextP xs h c) (pre ++ [c]) := by
  obtain ⟨h1, h2⟩ := ok
  have hpass : ∀ i, i ≤ xs.length → passN xs h c xs.length i = true → nextP xs h c i = true := fun i _ hp =>
    (skipN_iff _ _ _ _).2 ⟨i, Nat.le_refl _, hp, fun t a b => by omega, .inl rfl⟩
  refine ⟨fun rest => ?_, fun i hi hn hr => ?_⟩
  · rw [List.append_assoc, List.singleton_append, h1]
    constructor
    · rintro ⟨i, hi, a, b⟩
      obtain ⟨d, hd⟩ : ∃ d, xs.length - i = d := ⟨_, rfl⟩
      induction d generalizing i with
      | zero =>
        rw [List.drop_of_length_le (by omega)] at b
        simp [matchO] at b
      | succ d ih =>
        have hlt : i < xs.length := by omega
        cases hx : xs[i] with
        | none =>
          have hxs : xs[i]? = some none := by rw [List.getElem?_eq_getElem hlt, hx]
          rw [drop_at xs i none hxs] at b
          simp only [matchO, starO, Bool.or_eq_true] at b
          rcases b with b | b
          · exact ih (i + 1) (by omega) (h2 i hlt a (runAt_iff.2 hxs)) b (by omega)
          · refine ⟨i, hi, hpass i hi ((passN_iff _ _ _ _ _).2 (.inl ⟨hlt, a, runAt_iff.2 hxs⟩)), ?_⟩
            rw [drop_at xs i none hxs]; exact b
        | some f =>
          have hxs : xs[i]? = some (some f) := by rw [List.getElem?_eq_getElem hlt, hx]
          rw [drop_at xs i _ hxs] at b
          simp only [matchO, Bool.and_eq_true] at b
          exact ⟨i + 1, by omega, hpass _ (by omega) ((passN_iff _ _ _ _ _).2 (.inr ⟨i, hlt, rfl, a, by unfold takeAt; rw [hxs]; exact b.1⟩)), b.2⟩
    · rintro ⟨j, hj, a, b⟩
      obtain ⟨i, hij, hp, hall, _⟩ := (skipN_iff _ _ _ _).1 a
      have b' : matchO (xs.drop i) rest = true := match_skips (xs := xs) i (j - i) (fun t p q => hall t p (by omega)) (by rw [show i + (j - i) = j by omega]; exact b)
      rcases (passN_iff _ _ _ _ _).1 hp with ⟨hi, hh, hr⟩ | ⟨k, hk, rfl, hh, ht⟩
      · refine ⟨i, by omega, hh, ?_⟩
        rw [drop_at xs i none (runAt_iff.1 hr)] at b' ⊢
        simp only [matchO, starO, Bool.or_eq_true] at b' ⊢
        exact .inr b'
      · refine ⟨k, by omega, hh, ?_⟩
        unfold takeAt at ht
        split at ht
        · rename_i f hxs
          rw [drop_at xs k _ hxs]
          simp only [matchO, Bool.and_eq_true]
          exact ⟨ht, b'⟩
        · cases ht
  · obtain ⟨k, hk, hp, hall, _⟩ := (skipN_iff _ _ _ _).1 hn
    refine (skipN_iff _ _ _ _).2 ⟨k, by omega, hp, fun t a b => ?_, .inr (by omega)⟩
    by_cases e : t = i
    · subst e; exact hr
    · exact hall t a (by omega)

theorem okPl_places {α : Type} (xs : Pat α) (items : List α) : OkPl xs (placesP xs items) items := by
  suffices ∀ (l : List α) (pre : List α), OkPl xs (placesP xs pre) pre → OkPl xs (placesP xs (pre ++ l)) (pre ++ l) by
    simpa using this items [] (okPl_start xs)
  intro l
  induction l with
  | nil => intro pre h; simpa using h
  | cons c l ih =>
    intro pre h
    have := ih (pre ++ [c]) (by rw [placesP_snoc]; exact okPl_next c h)
    simpa using this

theorem match_end {α : Type} {xs : Pat α} {h : Nat → Bool} {pre : List α} (ok : OkPl xs h pre) : h xs.length = matchO xs pre := by
  obtain ⟨h1, h2⟩ := ok
  rw [Bool.eq_iff_iff]
  have h1' := h1 []
  rw [List.append_nil] at h1'
  rw [h1']
  constructor
  · intro hn
    exact ⟨xs.length, Nat.le_refl _, hn, by simp [matchO]⟩
  · rintro ⟨i, hi, a, b⟩
    obtain ⟨d, hd⟩ : ∃ d, xs.length - i = d := ⟨_, rfl⟩
    induction d generalizing i with
    | zero => have : i = xs.length := by omega
              subst this; exact a
    | succ d ih =>
      have hlt : i < xs.length := by omega
      cases hx : xs[i] with
      | none =>
        have hxs : xs[i]? = some none := by rw [List.getElem?_eq_getElem hlt, hx]
        rw [drop_at xs i none hxs] at b
        exact ih (i + 1) (by omega) (h2 i hlt a (runAt_iff.2 hxs)) b (by omega)
      | some f =>
        have hxs : xs[i]? = some (some f) := by rw [List.getElem?_eq_getElem hlt, hx]
        rw [drop_at xs i _ hxs] at b
        simp [matchO] at b
theorem places_match {α : Type} (xs : Pat α) (items : List α) : placesP xs items xs.length = matchO xs items := match_end (okPl_places xs items)
end Go.Proofs.YtoihhlkidlapmaaGreat

/- What is left of a text behind a prefix. -/
namespace Go.Proofs.YtoihhlkidlapmaaGreat
open Go.RowKit Go.Shelf


def hasA (s p : ByteArray) : Bool := Lib.hasPrefix s.data.toList p.data.toList
/-- What is left behind a prefix, or the whole. -/
def cutA (s p : ByteArray) : ByteArray := if hasA s p then s.extract p.size s.size else s


end Go.Proofs.YtoihhlkidlapmaaGreat

/- What the beginning of a pattern's name wants, as the program reads it. -/
namespace Go.Proofs.YtoihhlkidlapmaaGreat
open Go.RowKit Go.Shelf

/-- One place of a name of a pattern. -/
abbrev W8 := Option (Option (UInt8 ⊕ ByteArray × Bool))
abbrev W8.star : W8 := none
abbrev W8.any : W8 := some none
abbrev W8.byte (c : UInt8) : W8 := some (some (.inl c))
abbrev W8.cls (inner : ByteArray) (others : Bool) : W8 := some (some (.inr (inner, others)))

/-- What a want's value is that the program keeps; what it captured lies in blocks of a kind. -/
def WantIs (W : World) (P : Nat → Prop) : W8 → Bool → Value → Prop
  | none, run, fv => run = true ∧ fv = .nilFunc
  | some none, run, fv => run = false ∧ fv = .func (.func 280) #[] #[]
  | some (some (.inl c)), run, fv => run = false ∧ ∃ b, fv = .func (.func 282) #[] #[.pointer (some ⟨b, 0, none⟩)] ∧ P b ∧ b < W.heap.size ∧ W.cell? ⟨b, 0, none⟩ = some (.int .u8 c.toNat)
  | some (some (.inr (inner, others))), run, fv => run = false ∧ ∃ b d, fv = .func (.func 287) #[] #[.pointer (some ⟨b, 0, none⟩), .pointer (some ⟨d, 0, none⟩)] ∧ (P b ∧ b < W.heap.size ∧ W.cell? ⟨b, 0, none⟩ = some (.string inner)) ∧ P d ∧ d < W.heap.size ∧ W.cell? ⟨d, 0, none⟩ = some (.bool others)
def WantR (W : World) (P : Nat → Prop) (r : Option (W8 × Nat)) (run : Bool) (fv : Value) (sz : Int) (ok : Bool) : Prop :=
  match r with
  | none => run = false ∧ fv = .nilFunc ∧ sz = 0 ∧ ok = false
  | some (x, n) => ok = true ∧ sz = n ∧ WantIs W P x run fv
theorem WantIs.kept {W W' : World} {P P' : Nat → Prop} {x : W8} {run : Bool} {fv : Value} (h : WantIs W P x run fv) (hs : W.heap.size ≤ W'.heap.size) (hk : ∀ b, P b → b < W.heap.size → W'.heap[b]? = W.heap[b]?) (hP : ∀ b, P b → b < W.heap.size → P' b) : WantIs W' P' x run fv := by
  rcases x with _ | _ | c | ⟨inner, others⟩
  · exact h
  · exact h
  · obtain ⟨h0, b, h1, h2, h3, h4⟩ := h
    exact ⟨h0, b, h1, hP b h2 h3, Nat.lt_of_lt_of_le h3 hs, (World.cell?_of_block (w := W) (hk b h2 h3)).trans h4⟩
  · obtain ⟨h0, b, d, h1, ⟨h2, h3, h4⟩, h5, h6, h7⟩ := h
    exact ⟨h0, b, d, h1, ⟨hP b h2 h3, Nat.lt_of_lt_of_le h3 hs, (World.cell?_of_block (w := W) (hk b h2 h3)).trans h4⟩, hP d h5 h6, Nat.lt_of_lt_of_le h6 hs, (World.cell?_of_block (w := W) (hk d h5 h6)).trans h7⟩
theorem WantR.kept {W W' : World} {P P' : Nat → Prop} {r : Option (W8 × Nat)} {run : Bool} {fv : Value} {sz : Int} {ok : Bool} (h : WantR W P r run fv sz ok) (hs : W.heap.size ≤ W'.heap.size) (hk : ∀ b, P b → b < W.heap.size → W'.heap[b]? = W.heap[b]?) (hP : ∀ b, P b → b < W.heap.size → P' b) : WantR W' P' r run fv sz ok := by
  cases r with
  | none => exact h
  | some p => obtain ⟨x, n⟩ := p; exact ⟨h.1, h.2.1, h.2.2.kept hs hk hP⟩
theorem WantIs.form {W : World} {P : Nat → Prop} {x : W8} {run : Bool} {fv : Value} (h : WantIs W P x run fv) : fv = .nilFunc ∨ ∃ f ca, fv = .func (.func f) #[] ca := by
  rcases x with _ | _ | c | ⟨inner, others⟩
  · exact .inl h.2
  · exact .inr ⟨_, _, h.2⟩
  · obtain ⟨_, b, g1, _⟩ := h; exact .inr ⟨_, _, g1⟩
  · obtain ⟨_, b, d, g1, _⟩ := h; exact .inr ⟨_, _, g1⟩
/-- What a class is read as. -/
def bang : ByteArray := ⟨#[33]⟩
def clsA (s : ByteArray) (i : Nat) : ByteArray := cutA (s.extract 1 i) bang
def classR (s : ByteArray) : Option (W8 × Nat) :=
  if Lib.indexByte s.data.toList 93 < 0 then none
  else if (clsA s (Lib.indexByte s.data.toList 93).toNat).toList.isEmpty || !((clsA s (Lib.indexByte s.data.toList 93).toNat).data.toList.all fun c => nameB c.toNat) then none
  else some (.cls (clsA s (Lib.indexByte s.data.toList 93).toNat) (hasA (s.extract 1 (Lib.indexByte s.data.toList 93).toNat) bang), (Lib.indexByte s.data.toList 93).toNat + 1)


/-- What the beginning of a text that is not empty is read as. -/
def firstR (s : ByteArray) (c : UInt8) : Option (W8 × Nat) :=
  if c = 42 then some (.star, 1) else if c = 63 then some (.any, 1) else if c = 91 then classR s else if nameB c.toNat then some (.byte c, 1) else none

end Go.Proofs.YtoihhlkidlapmaaGreat

/- What a name of a pattern wants, byte by byte, as the program reads it. -/
namespace Go.Proofs.YtoihhlkidlapmaaGreat
open Go.RowKit Go.Shelf


def wantsF : Nat → ByteArray → Option (List W8)
  | 0, s => if s.size = 0 then some [] else none
  | f + 1, s => if h : 0 < s.size then
      match firstR s s[0] with
      | none => none
      | some (x, n) => (wantsF f (s.extract n s.size)).map (x :: ·)
    else some []
def wants (s : ByteArray) : Option (List W8) := wantsF s.size s

/-- Wants that the program keeps in a row. -/
def Wants (W : World) (base : Nat) (v : Value) (xs : List W8) : Prop :=
  ∃ cells, W.ownsRow base 270 2 v xs.length cells ∧ ∀ i x, xs[i]? = some x → ∃ run fv, cells[2 * i]? = some (.bool run) ∧ cells[2 * i + 1]? = some fv ∧ WantIs W (fun b => base ≤ b ∧ v.ownBlock ≠ some b) x run fv


end Go.Proofs.YtoihhlkidlapmaaGreat

/- What a name of a pattern wants, as the program reads it. -/
namespace Go.Proofs.YtoihhlkidlapmaaGreat
open Go.RowKit Go.Shelf

/-- Wants in a row whose blocks are of a kind. -/
def WantsP (W : World) (P : Nat → Prop) (v : Value) (xs : List W8) : Prop :=
  ∃ base cells, W.ownsRow base 270 2 v xs.length cells ∧ (∀ g, v.ownBlock = some g → P g) ∧ ∀ i x, xs[i]? = some x → ∃ run fv, cells[2 * i]? = some (.bool run) ∧ cells[2 * i + 1]? = some fv ∧ WantIs W P x run fv
theorem Wants.p {W : World} {base : Nat} {v : Value} {xs : List W8} (h : Wants W base v xs) : WantsP W (fun b => base ≤ b) v xs := by
  obtain ⟨cells, h1, h2⟩ := h
  refine ⟨base, cells, h1, fun g e => (h1.lt g e).1, fun i x hi => ?_⟩
  obtain ⟨run, fv, g1, g2, g3⟩ := h2 i x hi
  exact ⟨run, fv, g1, g2, g3.kept (Nat.le_refl _) (fun _ _ _ => rfl) (fun b hb _ => hb.1)⟩
theorem ownsRow_keptG {w w' : World} {base : Nat} {e : TypeId} {size : Nat} {v : Value} {n : Nat} {xs : List Value} (h : w.ownsRow base e size v n xs) (hk : ∀ g, v.ownBlock = some g → w'.heap[g]? = w.heap[g]?) : w'.ownsRow base e size v n xs := by
  refine ⟨h.1, ?_⟩
  rcases h.2 with h1 | ⟨g, cap, cur, rfl, h2, h3, h4⟩
  · exact .inl h1
  · exact .inr ⟨g, cap, cur, rfl, h2, by rw [hk g rfl]; exact h3, h4⟩
theorem WantsP.kept {W W' : World} {P P' : Nat → Prop} {v : Value} {xs : List W8} (h : WantsP W P v xs) (hs : W.heap.size ≤ W'.heap.size) (hk : ∀ b, P b → b < W.heap.size → W'.heap[b]? = W.heap[b]?) (hP : ∀ b, P b → b < W.heap.size → P' b) : WantsP W' P' v xs := by
  obtain ⟨base, cells, h1, h2, h3⟩ := h
  refine ⟨base, cells, ownsRow_keptG h1 (fun g e => hk g (h2 g e) (h1.lt g e).2), fun g e => hP g (h2 g e) (h1.lt g e).2, fun i x hi => ?_⟩
  obtain ⟨run, fv, g1, g2, g3⟩ := h3 i x hi
  exact ⟨run, fv, g1, g2, g3.kept hs hk hP⟩

/-- One place of a pattern. -/
abbrev W9 := Option (List W8)
abbrev W9.name (xs : List W8) : W9 := some xs
/-- What its value is that the program keeps. -/
def NameIs (W : World) (P : Nat → Prop) : W9 → Bool → Value → Prop
  | none, run, fv => run = true ∧ fv = .nilFunc
  | some xs, run, fv => run = false ∧ ∃ b v, fv = .func (.func 227) #[] #[.pointer (some ⟨b, 0, none⟩)] ∧ P b ∧ b < W.heap.size ∧ W.cell? ⟨b, 0, none⟩ = some v ∧ WantsP W P v xs
theorem NameIs.kept {W W' : World} {P P' : Nat → Prop} {x : W9} {run : Bool} {fv : Value} (h : NameIs W P x run fv) (hs : W.heap.size ≤ W'.heap.size) (hk : ∀ b, P b → b < W.heap.size → W'.heap[b]? = W.heap[b]?) (hP : ∀ b, P b → b < W.heap.size → P' b) : NameIs W' P' x run fv := by
  rcases x with _ | xs
  · exact h
  · obtain ⟨h0, b, v, h1, h2, h3, h4, h5⟩ := h
    exact ⟨h0, b, v, h1, hP b h2 h3, Nat.lt_of_lt_of_le h3 hs, (World.cell?_of_block (w := W) (hk b h2 h3)).trans h4, h5.kept hs hk hP⟩

end Go.Proofs.YtoihhlkidlapmaaGreat

/- Which bytes a want takes. -/
namespace Go.Proofs.YtoihhlkidlapmaaGreat
open Go.RowKit Go.Shelf

def takesB : W8 → UInt8 → Bool
  | none, _ => false
  | some none, _ => true
  | some (some (.inl d)), c => c == d
  | some (some (.inr (inner, others))), c => inner.data.toList.contains c != others

set_option maxRecDepth 100000 in
set_option maxHeartbeats 1000000 in
theorem takes_any (c : UInt8) (w : World) : Calls Tryz.prog 280 #[.int .u8 c.toNat] w fun e w' => e = .returned (.bool (takesB .any c)) ∧ w' = w := by
  go_enter Tryz.func280, Tryz.ntmps280
  go_wp2
  go_ret
  exact ⟨rfl, rfl⟩

set_option maxRecDepth 100000 in
set_option maxHeartbeats 1000000 in
theorem takes_byte (c d : UInt8) (b : Nat) (w : World) (hc : w.cell? ⟨b, 0, none⟩ = some (.int .u8 d.toNat)) : Calls Tryz.prog 282 #[.int .u8 c.toNat, .pointer (some ⟨b, 0, none⟩)] w fun e w' => e = .returned (.bool (takesB (.byte d) c)) ∧ w' = w := by
  have E := hid (show takesB (.byte d) c = ((c.toNat : Int) == (d.toNat : Int)) by
    show (c == d) = _
    rw [Bool.eq_iff_iff]
    simp only [beq_iff_eq]
    exact ⟨fun h => by rw [h], fun h => UInt8.toNat_inj.1 (by omega)⟩)
  go_enter Tryz.func282, Tryz.ntmps282
  go_wp2
  go_ret
  exact ⟨by rw [unhid E]; rfl, rfl⟩

theorem index_has (l : List UInt8) (c : UInt8) : decide (0 ≤ Lib.indexByte l c) = l.contains c := by
  induction l with
  | nil => simp [Lib.indexByte]
  | cons d l ih =>
    have hg := Lib.indexByte_ge l c
    unfold Lib.indexByte
    by_cases h : (d == c) = true
    · have hdc : d = c := by simpa using h
      subst hdc
      simp
    · have hne : (c == d) = false := by
        rw [beq_eq_false_iff_ne]; intro e; exact h (by simp [e])
      rw [List.contains_cons, hne, Bool.false_or, ← ih]
      rw [decide_eq_decide]
      simp only [h, Bool.false_eq_true, if_false]
      split <;> (rename_i hn; simp at hn; omega)

set_option maxRecDepth 100000 in
set_option maxHeartbeats 1000000 in
theorem takes_cls (c : UInt8) (inner : ByteArray) (others : Bool) (b d : Nat) (w : World) (hb : w.cell? ⟨b, 0, none⟩ = some (.string inner)) (hd : w.cell? ⟨d, 0, none⟩ = some (.bool others)) :
    Calls Tryz.prog 287 #[.int .u8 c.toNat, .pointer (some ⟨b, 0, none⟩), .pointer (some ⟨d, 0, none⟩)] w fun e w' => e = .returned (.bool (takesB (.cls inner others) c)) ∧ ∃ m, w' = w.drewN m := by
  have E := hid (show takesB (.cls inner others) c = (decide (0 ≤ Lib.indexByte inner.data.toList c) != others) by rw [index_has]; rfl)
  go_enter Tryz.func287, Tryz.ntmps287
  go_wp2_with fail
  go_quiet ((go_at_call 170; exact Calls.quiet_of_same (IndexByteU_any _ _ _)))
  go_wp2
  go_ret
  exact ⟨by rw [unhid E]; rfl, _, rfl⟩
end Go.Proofs.YtoihhlkidlapmaaGreat

/- Rows of Booleans that a call owns, and rows of wants that it reads. -/
namespace Go.Proofs.YtoihhlkidlapmaaGreat
open Go.RowKit Go.Shelf

theorem gb_reflG (w : World) (r : Option Nat) : w.grownBy w r := ⟨rfl, rfl, rfl, Nat.le_refl _, fun _ _ _ => rfl⟩
theorem gb_set (w : World) (g i : Nat) (v : Value) : w.grownBy (w.setCell ⟨g, i, none⟩ v) (some g) := ⟨rfl, rfl, rfl, by simp, fun k _ hk => Below.heap_setCell w _ v k (fun e => hk (by rw [e]))⟩
/-- A block of m Booleans. -/
def Bools (W : World) (g m : Nat) (h : Nat → Bool) : Prop := ∃ cur : Array Value, W.heap[g]? = some (.cells cur 4 (0, 0)) ∧ cur.size = m ∧ ∀ j, j < m → cur[j]? = some (.bool (h j))
theorem Bools.lt {W : World} {g m : Nat} {h : Nat → Bool} (x : Bools W g m h) : g < W.heap.size := by
  obtain ⟨cur, h1, _⟩ := x; exact (Array.getElem?_eq_some_iff.1 h1).1
theorem Bools.cell {W : World} {g m : Nat} {h : Nat → Bool} (x : Bools W g m h) (j : Nat) (hj : j < m) : W.cell? ⟨g, j, none⟩ = some (.bool (h j)) ∧ W.frozen? ⟨g, j, none⟩ = false := by
  obtain ⟨cur, h1, h2, h3⟩ := x
  constructor
  · simp [World.cell?, h1, h3 j hj]
  · simp [World.frozen?, h1]
theorem Bools.block {W W' : World} {g m : Nat} {h : Nat → Bool} (x : Bools W g m h) (e : W'.heap[g]? = W.heap[g]?) : Bools W' g m h := by
  obtain ⟨cur, h1, h2, h3⟩ := x; exact ⟨cur, e.trans h1, h2, h3⟩
theorem Bools.alloc {W : World} {g m : Nat} {h : Nat → Bool} (x : Bools W g m h) (o : Obj) : Bools (W.alloc o) g m h := x.block (Below.heap_alloc _ _ _ x.lt)
theorem Bools.below {W W' : World} {B g m : Nat} {h : Nat → Bool} (x : Bools W g m h) (hb : Below B W W') (hg : g < B) : Bools W' g m h := x.block (hb.block g hg)
theorem Bools.other {W : World} {g m : Nat} {h : Nat → Bool} (x : Bools W g m h) (a : Addr) (v : Value) (hne : g ≠ a.block) : Bools (W.setCell a v) g m h := x.block (Below.heap_setCell W a v g hne)
theorem Bools.congr {W : World} {g m : Nat} {h h' : Nat → Bool} (x : Bools W g m h) (e : ∀ j, j < m → h j = h' j) : Bools W g m h' := by
  obtain ⟨cur, h1, h2, h3⟩ := x; exact ⟨cur, h1, h2, fun j hj => by rw [h3 j hj, e j hj]⟩
theorem Bools.set {W : World} {g m : Nat} {h : Nat → Bool} (x : Bools W g m h) (j : Nat) (hj : j < m) (b : Bool) : Bools (W.setCell ⟨g, j, none⟩ (.bool b)) g m (fun i => if i = j then b else h i) := by
  obtain ⟨cur, h1, h2, h3⟩ := x
  refine ⟨cur.setIfInBounds j (.bool b), ?_, by simpa using h2, fun i hi => ?_⟩
  · exact heap_setCell_same W g j cur 4 (.bool b) h1
  · rw [Array.getElem?_setIfInBounds]
    by_cases e : j = i
    · subst e; simp; omega
    · have e' : ¬ i = j := fun x => e x.symm
      rw [if_neg e, h3 i hi]; simp [e']

theorem type_neG {W : World} {g b : Nat} {cur cur' : Array Value} {e e' : TypeId} {f f' : Nat × Nat} (h : W.heap[g]? = some (.cells cur e f)) (h' : W.heap[b]? = some (.cells cur' e' f')) (hne : e ≠ e') : g ≠ b := by
  rintro rfl; rw [h] at h'; cases h'; exact hne rfl

/-- A row of n pairs of cells: a Boolean and a value each. -/
def Row2 (W : World) (e : TypeId) (v : Value) (n : Nat) (cs : Nat → Bool × Value) : Prop :=
  ∃ a cap, v = .slice a n cap ∧ (n = 0 ∨ ∃ g cur, a = some ⟨g, 0, none⟩ ∧ W.heap[g]? = some (.cells cur e (0, 0)) ∧ n ≤ cap ∧ ∀ i, i < n → cur[i * 2]? = some (.bool (cs i).1) ∧ cur[i * 2 + 1]? = some (cs i).2 ∧ (cs i).2.oneCell' = true)


theorem Row2.kept {W W' : World} {e : TypeId} {v : Value} {n : Nat} {cs : Nat → Bool × Value} (x : Row2 W e v n cs) (hk : ∀ b, b < W.heap.size → W'.heap[b]? = W.heap[b]?) : Row2 W' e v n cs := by
  obtain ⟨a, cap, rfl, h⟩ := x
  refine ⟨a, cap, rfl, h.imp id ?_⟩
  rintro ⟨g, cur, rfl, h1, h2⟩
  exact ⟨g, cur, rfl, (hk g (Array.getElem?_eq_some_iff.1 h1).1).trans h1, h2⟩
theorem below_of_grown {w W W' : World} {g : Nat} (hb : Below w.heap.size w W) (hg : W.grownBy W' (some g)) (hge : w.heap.size ≤ g) : Below w.heap.size w W' :=
  ⟨hg.os.trans hb.os, hg.tape.trans hb.tape, hg.output.trans hb.output, Nat.le_trans hb.size hg.size, fun k hk => (hg.block k (Nat.lt_of_lt_of_le hk hb.size) (by intro e; cases e; omega)).trans (hb.block k hk)⟩
/-- What the program's function values of wants answer, in every world in which what lay below is as it was. -/
def TakesIs {α : Type} (enc : α → Value) (xs : Pat α) (cs : Nat → Bool × Value) (w : World) : Prop :=
  ∀ i, i < xs.length → runAt xs i = false → ∃ f ca, (cs i).2 = .func (.func f) #[] ca ∧ (∀ args w, (callFunc f args).run Tryz.prog w = .ok (.enter f args) w) ∧
    ∀ (c : α) (W : World), Below w.heap.size w W → Calls Tryz.prog f (#[enc c] ++ ca) W fun e W' => e = .returned (.bool (takeAt xs i c)) ∧ Below W.heap.size W W'

theorem infoBool : (Tryz.prog.info? 4).map (fun i => (i.zero, i.size, i.bytes)) = some (some (.bool false), 1, 1) := by kernel_rfl
theorem mkBools (W : World) (n : Nat) (hn : n ≤ 1000) : (Instr.makeSlice 95 (.int .i64 ((n : Int) + 1)) (.int .i64 ((n : Int) + 1))).run Tryz.prog W = .ok (.slice (some ⟨W.heap.size, 0, none⟩) (n + 1) (n + 1)) (W.alloc (.cells (madeCells #[.bool false] (n + 1)) 4)) :=
  run_make_row' 95 4 (.bool false) 1 Tryz.underlying95 infoBool rfl .i64 .i64 (n + 1) (by omega) (by omega) W
theorem Bools.new (W : World) (m : Nat) : Bools (W.alloc (.cells (madeCells #[.bool false] m) 4)) W.heap.size m (fun _ => false) := by
  refine ⟨_, World.alloc_heap_new W _, by simp [madeCells], fun j hj => by simp [madeCells, hj, Nat.mod_one]⟩
end Go.Proofs.YtoihhlkidlapmaaGreat

/- How the program goes through a pattern item by item (string). -/
namespace Go.Proofs.YtoihhlkidlapmaaGreat
open Go.RowKit Go.Shelf


end Go.Proofs.YtoihhlkidlapmaaGreat
