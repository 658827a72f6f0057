/- Texts of this proof, one behind the other; each says at its head what it shows. -/
import Derived.Test.YtoihhlkidlapmaaGreatJoin5
import Derived.Test.YtoihhlkidlapmaaGreatJoin2
import Derived.Maps.OwnSet
import Derived.StringKeys
import Derived.Test.YtoihhlkidlapmaaGreatJoin3
import Derived.Test.YtoihhlkidlapmaaGreatJoin1
import Derived.Test.YtoihhlkidlapmaaGreatJoin4
import Derived.Shelf.Spec.SlicesInsertGrow
import Derived.Deep.RegionHeld
import Derived.Maps.AppendAt
import Derived.Laws.Entries
import Derived.Deep.Slices
import Derived.Lib.SmallJoins
import Derived.Laws.StructEq
import Derived.Laws.OwnMore
import Derived.Laws.Cover3
import Derived.Lib.SliceRun
import Derived.Deep.RegionLaw
import Derived.Shelf.Small.Strs
import Derived.Test.YtoihhlkidlapmaaGreatProg
/- Closure, by the program: packs that are ok, their names, and where each is. -/
namespace Go.Proofs.YtoihhlkidlapmaaGreat
open Go.RowKit Go.Shelf Go.Maps

set_option maxRecDepth 100000 in
set_option maxHeartbeats 4000000 in
theorem listOkPack_any (ps : List packC.D) (v : Value) (w : World) (hs : smallPs ps) (h : rowAt packC w v ps) :
    Calls Tryz.prog 59 #[v, .int .i64 (ps.length : Int), .func (.func 60) #[] #[]] w fun x w' => x = .returned (.bool (allPk ps)) ∧ Below w.heap.size w w' := by
  obtain ⟨a, cap, rfl, -, -, h⟩ := h
  have hlen := hs.1
  have HSM := hid hs
  have H := hid h
  clear h hs
  go_enter Tryz.func59, Tryz.ntmps59
  go_wp2_with fail
  go_loopw [15] (fun i wr => ∃ k : Nat, k ≤ ps.length ∧ i = .int .i64 (k : Int) ∧ Hid (allPk (ps.take k) = true) ∧ Hid (Below w.heap.size w wr)) (fun i _ => ps.length - (intOf i).toNat)
  case atStart => exact ⟨0, Nat.zero_le _, rfl, hid rfl, hid (Below.refl _ _)⟩
  case round =>
    obtain ⟨k, hk, rfl, HA, HB⟩ := hrel
    by_cases hlt : k < ps.length
    · obtain ⟨e, he⟩ : ∃ e, ps[k]? = some e := ⟨ps[k], List.getElem?_eq_getElem hlt⟩
      obtain ⟨b, o, rfl, hbl, hc⟩ := (unhid H).resolve_left (by intro e; subst e; simp at hlt)
      obtain ⟨na, nc, ta, tc, ⟨c0, c1, c2, c3⟩, hat⟩ := pack_cells (unhid HB) hbl hc he
      have HAT := hid hat
      have HS := hid ((unhid HSM).2 e (List.mem_of_getElem? he))
      have HE := hid he
      have HBA := hid (show ∀ x, Below w.heap.size w (wr.alloc x) from fun x => (unhid HB).alloc (unhid HB).size x)
      have HBR := hid (show ∀ x, Below wr.heap.size wr (wr.alloc x) from fun x => (Below.refl _ wr).alloc (Nat.le_refl _) x)
      clear hc he hbl HB hat
      go_wp2_with fail
      refine (packOk_any e _ _ (unhid HS) (packC.below (unhid HAT) (unhid HBR _))).mono ?_
      rintro x w2 ⟨rfl, hb⟩
      have HB2 := hid ((unhid HBA _).trans (hb.mono (unhid HBA _).size))
      clear hb c0 c1 c2 c3 HBA HBR
      cases hq : pkOk e with
      | false =>
        have E := hid (allPk_no (unhid HE) hq)
        go_wp2_with fail
        go_ret
        exact ⟨by rw [unhid E]; rfl, unhid HB2⟩
      | true =>
        have HQ := hid hq
        clear hq
        go_wp2_with fail
        go_roundw
        case rel => exact ⟨k + 1, by omega, by go_num, hid (all_take_next (p := fun q : packC.D => pkOk q) (unhid HE) (unhid HA) (unhid HQ)), HB2⟩
        case measure => simp [intOf]; omega
    · have e : k = ps.length := by omega
      subst e
      have E := hid (show allPk ps = true by have := unhid HA; rw [List.take_of_length_le (Nat.le_refl _)] at this; exact this)
      go_wp2_with fail
      go_ret
      exact ⟨by rw [unhid E]; rfl, unhid HB⟩

set_option maxRecDepth 100000 in
set_option maxHeartbeats 1000000 in
theorem packNames1_any (e : packC.D) (na : Option Addr) (nc : Nat) (ta : Option Addr) (tc : Nat) (w : World) :
    Calls Tryz.prog 119 #[.agg #[.string (PackD.name e), .string (PackD.version e), .slice na (PackD.needs e).length nc, .slice ta (PackD.tree e).length tc]] w fun x w' => x = .returned (.string (PackD.name e)) ∧ Below w.heap.size w w' := by
  have HB := hid (show ∀ x, Below w.heap.size w (w.alloc x) from fun x => (Below.refl _ w).alloc (Nat.le_refl _) x)
  go_enter Tryz.func119, Tryz.ntmps119
  go_wp2_with fail
  go_ret
  exact ⟨rfl, unhid HB _⟩

set_option maxRecDepth 100000 in
set_option maxHeartbeats 4000000 in
theorem packNames_any (ps : List packC.D) (v : Value) (w : World) (hl : ps.length ≤ 1048576) (h : rowAt packC w v ps) :
    Calls Tryz.prog 118 #[v, .func (.func 119) #[] #[]] w fun x w' => ∃ u, x = .returned u ∧ w'.ownsRow w.heap.size 9 1 u (namesP ps).length ((namesP ps).map Value.string) ∧ Below w.heap.size w w' := by
  obtain ⟨a, cap, rfl, -, -, h⟩ := h
  have H := hid h
  clear h
  go_enter Tryz.func118, Tryz.ntmps118
  go_wp2_with fail
  go_loopw [5, 10] (fun s i wr => ∃ (k : Nat) (oa : Option Addr) (oc : Nat), k ≤ ps.length ∧ i = .int .i64 (k : Int) ∧ s = .slice oa k oc ∧ Hid (wr.ownsRow w.heap.size 9 1 (.slice oa k oc) ((namesP ps).take k).length (((namesP ps).take k).map Value.string)) ∧ Hid (Below w.heap.size w wr)) (fun _ i _ => ps.length - (intOf i).toNat)
  case atStart => exact ⟨0, _, _, Nat.zero_le _, rfl, rfl, hid (ownsRow_none _ _), hid (Below.refl _ _)⟩
  case round =>
    obtain ⟨k, oa, oc, hk, rfl, rfl, HO, HB⟩ := hrel
    by_cases hlt : k < ps.length
    · obtain ⟨e, he⟩ : ∃ e, ps[k]? = some e := ⟨ps[k], List.getElem?_eq_getElem hlt⟩
      obtain ⟨b, o, rfl, hbl, hc⟩ := (unhid H).resolve_left (by intro e; subst e; simp at hlt)
      obtain ⟨na, nc, ta, tc, ⟨c0, c1, c2, c3⟩, -⟩ := pack_cells (unhid HB) hbl hc he
      have HX := hid (namesP_get he)
      have HBA := hid (show ∀ x, Below w.heap.size w (wr.alloc x) from fun x => (unhid HB).alloc (unhid HB).size x)
      have HOA := hid (fun x => (unhid HO).alloc x)
      have hlo := hid (show ∀ j, (Value.slice oa k oc).ownBlock = some j → w.heap.size ≤ j from fun j ej => ((unhid HO).lt j ej).1)
      clear hc he hbl HB HO
      go_wp2_with fail
      refine (packNames1_any e na nc ta tc _).mono ?_
      rintro x w2 ⟨rfl, hb⟩
      have HB2a := hid ((unhid HBA _).trans (hb.mono (unhid HBA _).size))
      have HO2 := hid ((ownsRow_belowS (unhid HOA _) hb).alloc (.cells #[.string (PackD.name e)] 9))
      have HB2 := hid ((unhid HB2a).alloc (unhid HB2a).size (.cells #[.string (PackD.name e)] 9))
      have HC2 := hid (cell_newN w2 (.string (PackD.name e)) 9)
      have HKL := hid (show ((namesP ps).take k).length ≤ 1048576 by rw [List.length_take]; omega)
      have HSZ := hid (unhid HB2).size
      clear hb c0 c1 c2 c3 HBA HOA HB2a
      go_wp2_with (at_builtin; refine wp_name rfl _ _ rfl w.heap.size (.slice oa k oc) ((namesP ps).take k) (PackD.name e) w2.heap.size rfl rfl (unhid HO2) (unhid HC2) (by have := unhid HKL; omega) (unhid HSZ) ?_)
      intro v' w4 hown hg
      have ho3 := ownsRow_take (unhid HX) (W := w4) (N := w.heap.size) (v := v') (by simpa using hown)
      have HB3 := hid (grown_belowN (unhid HB2) hg (unhid hlo))
      obtain ⟨oa2, oc2, hv, -⟩ := ownsRow_txts ho3
      have hk1 : ((namesP ps).take (k + 1)).length = k + 1 := by rw [List.length_take, namesP_len]; omega
      rw [hk1] at hv
      subst hv
      have HO3 := hid ho3
      clear hown hg hlo HC2 HB2 HO2 HSZ HKL ho3 hk1
      go_wp2_with fail
      go_roundw
      case rel => exact ⟨k + 1, oa2, oc2, by omega, by go_num, rfl, HO3, HB3⟩
      case measure => simp [intOf]; omega
    · have e : k = ps.length := by omega
      subst e
      go_wp2_with fail
      go_ret
      have := unhid HO
      rw [List.take_of_length_le (by rw [namesP_len]; exact Nat.le_refl _)] at this
      exact ⟨_, rfl, this, unhid HB⟩

/-- A map from names to where each is. -/
structure PlaceMap (W : World) (mb n : Nat) (names : List ByteArray) (D : DataW Unit) : Prop where
  own : W.ownsMap Tryz.prog 9 (plainElem Tryz.prog 3) mb n D
  has : ∀ x : ByteArray, Maps.has D (.string x.data.toList) = memB x names
  at_ : ∀ (x : ByteArray) (i : Nat), names[i]? = some x → D.atKey (.string x.data.toList) (.lit (.int .i64 0)) = .lit (.int .i64 (i : Int))
theorem law9 : Keyed Tryz.prog 9 := string_keyed Tryz.underlying9
theorem zero3 (w : World) : (zeroValue 3).run Tryz.prog w = .ok (.int .i64 0) w := by kernel_rfl
theorem wf_nat {k : Nat} (h : k ≤ 1048576) : (Lit.int .i64 (k : Int)).wf = true := by
  simp [Lit.wf, IntKind.min, IntKind.max, IntKind.signed, IntKind.bits]; omega
theorem bytes_eq {x y : ByteArray} (h : x.data.toList = y.data.toList) : x = y := by
  cases x with | mk a => cases y with | mk b => congr; exact Array.ext' h
theorem isKey_str (l : List UInt8) : WideAt.IsKeyLit (.string l) := by trivial
theorem PlaceMap.frame {W W' : World} {mb n : Nat} {names : List ByteArray} {D : DataW Unit} (h : PlaceMap W mb n names D) {row : Option Nat} (hg : W.grownBy W' row) (hne : some mb ≠ row) : PlaceMap W' mb n names D := ⟨h.own.kept hg hne, h.has, h.at_⟩
theorem PlaceMap.next {W : World} {mb n k : Nat} {names : List ByteArray} {x : ByteArray} {D : DataW Unit} (hn : names.Nodup) (hx : names[k]? = some x) (hD : IsMap D) (hh : ∀ y : ByteArray, Maps.has D (.string y.data.toList) = memB y (names.take k)) (ha : ∀ (y : ByteArray) (i : Nat), (names.take k)[i]? = some y → D.atKey (.string y.data.toList) (.lit (.int .i64 0)) = .lit (.int .i64 (i : Int)))
    (ho : W.ownsMap Tryz.prog 9 (plainElem Tryz.prog 3) mb n (D.put (.string x.data.toList) (.lit (.int .i64 (k : Int))))) : PlaceMap W mb n (names.take (k + 1)) (D.put (.string x.data.toList) (.lit (.int .i64 (k : Int)))) := by
  have e := take_next hx
  refine ⟨ho, fun y => ?_, fun y i hi => ?_⟩
  · by_cases hyx : y = x
    · subst hyx
      rw [has_put_same hD (isKey_str _), memB_yes (by rw [e]; simp)]
    · rw [has_put_other (fun h => hyx (bytes_eq (by injection h))), hh y]
      cases h : memB y (names.take k) with
      | true => rw [memB_yes (by rw [e]; exact List.mem_append_left _ (memB_iff.1 h))]
      | false => rw [memB_no (fun hm => by
          rw [e] at hm
          rcases List.mem_append.1 hm with hm | hm
          · rw [memB_yes hm] at h; cases h
          · exact hyx (List.mem_singleton.1 hm))]
  · have hik : i < k + 1 := by have := (List.getElem?_eq_some_iff.1 hi).1; rw [List.length_take] at this; omega
    have hni : names[i]? = some y := by rwa [List.getElem?_take_of_lt hik] at hi
    by_cases hyx : y = x
    · subst hyx
      have ei := nodup_inj hn hni hx
      subst ei
      rw [atKey_put_same hD (isKey_str _)]
    · rw [atKey_put_other (fun h => hyx (bytes_eq (by injection h)))]
      have hne : i ≠ k := fun e => by subst e; rw [hx] at hni; cases hni; exact hyx rfl
      exact ha y i (by rw [List.getElem?_take_of_lt (by omega)]; exact hni)
/-- A name is looked up. -/
theorem PlaceMap.look {W : World} {mb n : Nat} {names : List ByteArray} {D : DataW Unit} (h : PlaceMap W mb n names D) (x : ByteArray) (hx : x.size ≤ maxLen) : ∃ c : Int, (Instr.lookup 86 (.map (some mb)) (.string x) true).run Tryz.prog W = .ok (.tuple #[.int .i64 c, .bool (memB x names)]) W ∧ ∀ i : Nat, names[i]? = some x → c = (i : Int) := by
  obtain ⟨v, ps, hrun, hv⟩ := h.own.look_ok law9 Tryz.underlying86 (zero3 W) (plainElem_int Tryz.underlying3 (by decide)) (Go.WideMaps.keyOf_string_mk Tryz.underlying9 hx)
  obtain ⟨c, rfl, hc, hwc⟩ := plainElem_int_inv Tryz.underlying3 hv
  refine ⟨c, by rw [hrun, h.has], fun i hi => ?_⟩
  have h1 := congrArg Prod.fst hc
  have h2 := h.at_ x i hi
  rw [h2] at h1
  have h3 : (DataW.lit (.int .i64 (i : Int)) : DataW Unit) = .lit (.int .i64 c) := h1
  exact (Lit.int.inj (DataW.lit.inj h3)).2.symm
end Go.Proofs.YtoihhlkidlapmaaGreat

/- What the program's iterator over a tree tells. -/
namespace Go.Proofs.YtoihhlkidlapmaaGreat
open Go.RowKit Go.Shelf





theorem row_cells {W : World} {N n size : Nat} {v : Value} {e : TypeId} {xs : List Value} {g : Nat} (h : W.ownsRow N e size v n xs) (hg : v.ownBlock = some g) : ∃ cur, W.heap[g]? = some (.cells cur e (0, 0)) := by
  rcases h.2 with ⟨rfl, _⟩ | ⟨g', cap, cur, rfl, _, hh, _⟩
  · cases hg
  · cases hg; exact ⟨cur, hh⟩

end Go.Proofs.YtoihhlkidlapmaaGreat

/- A region inside a round of a range over a function, by what holds of it outside. -/
namespace Go.Proofs.YtoihhlkidlapmaaGreat
open Go.RowKit Go.Shelf



end Go.Proofs.YtoihhlkidlapmaaGreat

/- What a tree has at a path, by the program. -/
namespace Go.Proofs.YtoihhlkidlapmaaGreat
open Go.RowKit Go.Shelf

theorem four_cells {W : World} {bt : Nat} {u v x y : Value} {t : TypeId} (h : W.heap[bt]? = some (.cells #[u, v, x, y] t (0, 0))) : (W.cell? ⟨bt, 0, .none⟩ = some u ∧ W.cell? ⟨bt, 1, .none⟩ = some v ∧ W.cell? ⟨bt, 2, .none⟩ = some x ∧ W.cell? ⟨bt, 3, .none⟩ = some y) ∧ (W.frozen? ⟨bt, 0, .none⟩ = false ∧ W.frozen? ⟨bt, 1, .none⟩ = false ∧ W.frozen? ⟨bt, 2, .none⟩ = false ∧ W.frozen? ⟨bt, 3, .none⟩ = false) := by
  refine ⟨⟨?_, ?_, ?_, ?_⟩, ?_, ?_, ?_, ?_⟩ <;> simp [World.cell?, World.frozen?, h]

end Go.Proofs.YtoihhlkidlapmaaGreat

/- The entries of a tree, in a row of their own. -/
namespace Go.Proofs.YtoihhlkidlapmaaGreat
open Go.RowKit Go.Shelf

attribute [local go_sem] Oper.semAt_some

def valsOf (es : List Ent) : List Value := es.flatMap fun e => e.vals.toList

theorem cells_grown {W W' : World} {row : Option Nat} (hg : W.grownBy W' row) (hr : ∀ r, row = some r → ∃ o : Obj, W.heap[r]? = some o ∧ o.isCells = false) {b : Nat} {cs : Array Value} {t : TypeId} {f : Nat × Nat} (hb : W.heap[b]? = some (.cells cs t f)) : W'.heap[b]? = some (.cells cs t f) :=
  (hg.block b (Array.getElem?_eq_some_iff.1 hb).1 (fun e => by obtain ⟨o, ho, hc⟩ := hr b e.symm; rw [hb] at ho; cases ho; cases hc)).trans hb
theorem row_grown {W W' : World} {row : Option Nat} (hg : W.grownBy W' row) (hr : ∀ r, row = some r → ∃ o : Obj, W.heap[r]? = some o ∧ o.isCells = false) {N n size : Nat} {v : Value} {e : TypeId} {xs : List Value} (h : W.ownsRow N e size v n xs) : W'.ownsRow N e size v n xs :=
  ownsRow_kept h (fun g eg => by obtain ⟨cur, hc⟩ := row_cells h eg; rw [cells_grown hg hr hc, hc])
theorem valsOf_snoc (es : List Ent) (e : Ent) : valsOf (es ++ [e]) = valsOf es ++ e.vals.toList := by simp [valsOf]

theorem infoEntry : (Tryz.prog.info? 57).map (fun i => (i.zero, i.size, i.bytes)) = some (some (.agg #[.string ⟨#[]⟩, .int .i64 0, .int .i64 0, .string ⟨#[]⟩]), 4, 48) := by kernel_rfl
theorem ownsRow_base {W : World} {N N' n size : Nat} {v : Value} {e : TypeId} {xs : List Value} (h : W.ownsRow N e size v n xs) (hN : N' ≤ N) : W.ownsRow N' e size v n xs :=
  ⟨h.1, h.2.imp id (fun ⟨g, cap, cur, a, b, c⟩ => ⟨g, cap, cur, a, Nat.le_trans hN b, c⟩)⟩
theorem lit_cells (w1 : World) (a b c d : Value) (t : TypeId) : ∀ (j : Nat) (u : Value), [a, b, c, d][j]? = some u → (w1.alloc (.cells #[a, b, c, d] t)).cell? ((⟨w1.heap.size, 0, none⟩ : Addr).add j) = some u := by
  intro j u hj
  rw [Addr.add_lit, World.cell?_alloc_at _ _ _ _ rfl, Nat.zero_add]
  simpa using hj

end Go.Proofs.YtoihhlkidlapmaaGreat

/- What the laws write over a row to see whose it is. -/
namespace Go.Proofs.YtoihhlkidlapmaaGreat
open Go.RowKit Go.Shelf

/-- A block whose first cells are n entries. -/
def RowE (W : World) (g n : Nat) (f : Nat → Ent) : Prop := ∃ cur : Array Value, W.heap[g]? = some (.cells cur 57 (0, 0)) ∧ n * 4 ≤ cur.size ∧ ∀ i, i < n → cur[i * 4]? = some (.string (f i).path) ∧ cur[i * 4 + 1]? = some (.int .i64 (f i).kind) ∧ cur[i * 4 + 2]? = some (.int .i64 (f i).mode) ∧ cur[i * 4 + 3]? = some (.string (f i).text)
theorem RowE.lt {W : World} {g n : Nat} {f : Nat → Ent} (x : RowE W g n f) : g < W.heap.size := by
  obtain ⟨cur, h1, _⟩ := x; exact (Array.getElem?_eq_some_iff.1 h1).1
theorem RowE.block {W W' : World} {g n : Nat} {f : Nat → Ent} (x : RowE W g n f) (e : W'.heap[g]? = W.heap[g]?) : RowE W' g n f := by
  obtain ⟨cur, h1, h2, h3⟩ := x; exact ⟨cur, e.trans h1, h2, h3⟩
theorem RowE.below {W W' : World} {B g n : Nat} {f : Nat → Ent} (x : RowE W g n f) (hb : Below B W W') (hg : g < B) : RowE W' g n f := x.block (hb.block g hg)
theorem RowE.congr {W : World} {g n : Nat} {f f' : Nat → Ent} (x : RowE W g n f) (e : ∀ j, j < n → f j = f' j) : RowE W g n f' := by
  obtain ⟨cur, h1, h2, h3⟩ := x; exact ⟨cur, h1, h2, fun j hj => by rw [← e j hj]; exact h3 j hj⟩
theorem RowE.cells {W : World} {g n : Nat} {f : Nat → Ent} (x : RowE W g n f) (k : Nat) (hk : k < n) : EntAt W g (k * 4) (f k) ∧ (W.frozen? ⟨g, k * 4, .none⟩ = false ∧ W.frozen? ⟨g, k * 4 + 1, .none⟩ = false ∧ W.frozen? ⟨g, k * 4 + 2, .none⟩ = false ∧ W.frozen? ⟨g, k * 4 + 3, .none⟩ = false) := by
  obtain ⟨cur, h1, h2, h3⟩ := x
  obtain ⟨a, b, c, d⟩ := h3 k hk
  exact ⟨⟨by simp [World.cell?, h1, a], by simp [World.cell?, h1, b], by simp [World.cell?, h1, c], by simp [World.cell?, h1, d]⟩, by simp [World.frozen?, h1], by simp [World.frozen?, h1], by simp [World.frozen?, h1], by simp [World.frozen?, h1]⟩

/-- The entry that the laws write at a place. -/
def markE (q i : Nat) : Ent := ⟨mtext (q + i * 4), ((q + i * 4 + 1 : Nat) : Int), ((q + i * 4 + 2 : Nat) : Int), mtext (q + i * 4 + 3)⟩

end Go.Proofs.YtoihhlkidlapmaaGreat

/- Rows of entries between two bounds; what is written over them is there, and nothing else changes. -/
namespace Go.Proofs.YtoihhlkidlapmaaGreat
open Go.RowKit Go.Shelf

/-- Entries in a row of their own, whose block is from N on, ahead of M. -/
def RowIn (W : World) (a : Option Addr) (N M : Nat) (es : List Ent) : Prop := es = [] ∨ ∃ g, a = some ⟨g, 0, .none⟩ ∧ N ≤ g ∧ g < M ∧ RowE W g es.length (entFn es)
theorem RowIn.at {W : World} {a : Option Addr} {N M : Nat} {es : List Ent} (h : RowIn W a N M es) : EntsAt W a es := by
  rcases h with h | ⟨g, rfl, _, _, hR⟩
  · exact .inl h
  · refine .inr ⟨g, 0, rfl, hR.lt, fun i e hi => ?_⟩
    have := (hR.cells i (List.getElem?_eq_some_iff.1 hi).1).1
    rw [entFn_get hi] at this
    rwa [Nat.zero_add]
/-- Nothing changes but blocks from N on, ahead of M. -/
structure Spares (N M : Nat) (w w' : World) : Prop where
  os : w'.os = w.os
  tape : w'.tape = w.tape
  output : w'.output = w.output
  size : w.heap.size ≤ w'.heap.size
  block : ∀ k, k < w.heap.size → (k < N ∨ M ≤ k) → w'.heap[k]? = w.heap[k]?
theorem Spares.row {w w' : World} {N M N2 M2 : Nat} {a : Option Addr} {es : List Ent} (h : Spares N M w w') (x : RowIn w a N2 M2 es) (hd : M2 ≤ N ∨ M ≤ N2) : RowIn w' a N2 M2 es := by
  rcases x with x | ⟨g, rfl, h1, h2, hR⟩
  · exact .inl x
  · exact .inr ⟨g, rfl, h1, h2, hR.block (h.block g hR.lt (by omega))⟩
theorem Spares.below {w0 w w' : World} {N M : Nat} (h : Spares N M w w') (hb : Below w0.heap.size w0 w) (hN : w0.heap.size ≤ N) : Below w0.heap.size w0 w' :=
  ⟨h.os.trans hb.os, h.tape.trans hb.tape, h.output.trans hb.output, Nat.le_trans hb.size h.size, fun k hk => (h.block k (Nat.lt_of_lt_of_le hk hb.size) (by omega)).trans (hb.block k hk)⟩
theorem RowIn.below {w w' : World} {N M : Nat} {a : Option Addr} {es : List Ent} (x : RowIn w a N M es) (h : Below w.heap.size w w') : RowIn w' a N M es := by
  rcases x with x | ⟨g, rfl, h1, h2, hR⟩
  · exact .inl x
  · exact .inr ⟨g, rfl, h1, h2, hR.block (h.block g hR.lt)⟩
theorem RowIn.wide {w : World} {N M N2 M2 : Nat} {a : Option Addr} {es : List Ent} (x : RowIn w a N M es) (hN : N2 ≤ N) (hM : M ≤ M2) : RowIn w a N2 M2 es := by
  rcases x with x | ⟨g, rfl, h1, h2, hR⟩
  · exact .inl x
  · exact .inr ⟨g, rfl, by omega, by omega, hR⟩
def marks (q n : Nat) : List Ent := (List.range n).map (markE q)


end Go.Proofs.YtoihhlkidlapmaaGreat

/- A row of entries copied, by the model. -/
namespace Go.Proofs.YtoihhlkidlapmaaGreat
open Go.RowKit Go.Shelf

theorem valsOf_len (es : List Ent) : (valsOf es).length = es.length * 4 := by
  induction es with
  | nil => rfl
  | cons e es ih => simp only [valsOf, List.flatMap_cons, List.length_append, List.length_cons] at *; rw [ih]; simp [Ent.vals]; omega
theorem valsOf_get : ∀ (es : List Ent) (i r : Nat), r < 4 → (valsOf es)[i * 4 + r]? = (es[i]?).bind fun e => e.vals.toList[r]?
  | [], i, r, h => by simp [valsOf]
  | e :: es, 0, r, h => by
    show (e.vals.toList ++ valsOf es)[0 * 4 + r]? = _
    rw [Nat.zero_mul, Nat.zero_add, List.getElem?_append_left (by simp [Ent.vals]; omega)]
    rfl
  | e :: es, i + 1, r, h => by
    show (e.vals.toList ++ valsOf es)[(i + 1) * 4 + r]? = _
    rw [List.getElem?_append_right (by simp [Ent.vals]; omega)]
    have : (i + 1) * 4 + r - e.vals.toList.length = i * 4 + r := by simp [Ent.vals]; omega
    rw [this, valsOf_get es i r h, List.getElem?_cons_succ]
theorem valsOf_one (es : List Ent) : ∀ u ∈ valsOf es, u.oneCell' = true := by
  intro u hu
  simp only [valsOf, List.mem_flatMap] at hu
  obtain ⟨e, _, hu⟩ := hu
  simp [Ent.vals] at hu
  rcases hu with rfl | rfl | rfl | rfl <;> rfl
theorem add_plain4 (b o n : Nat) : (⟨b, o, none⟩ : Addr).add n = ⟨b, o + n, none⟩ := by simp [Addr.add]
theorem ents_cells {W : World} {b o : Nat} {es : List Ent} (h : ∀ (i : Nat) e, es[i]? = some e → EntAt W b (o + i * 4) e) : ∀ j u, (valsOf es)[j]? = some u → W.cell? ((⟨b, o, none⟩ : Addr).add j) = some u := by
  intro j u hj
  have e1 : j = j / 4 * 4 + j % 4 := by omega
  rw [e1, valsOf_get es _ _ (Nat.mod_lt _ (by omega))] at hj
  cases he : es[j / 4]? with
  | none => rw [he] at hj; cases hj
  | some e =>
    rw [he] at hj
    obtain ⟨c0, c1, c2, c3⟩ := h _ e he
    rw [add_plain4]
    have hr : j % 4 < 4 := Nat.mod_lt _ (by omega)
    have e2 : o + j = o + j / 4 * 4 + j % 4 := by omega
    rw [e2]
    have hb : e.vals.toList[j % 4]? = some u := hj
    generalize j % 4 = r at hr hb
    match r, hr with
    | 0, _ => simp [Ent.vals] at hb; rw [← hb]; exact c0
    | 1, _ => simp [Ent.vals] at hb; rw [← hb]; exact c1
    | 2, _ => simp [Ent.vals] at hb; rw [← hb]; exact c2
    | 3, _ => simp [Ent.vals] at hb; rw [← hb]; exact c3
/-- A row that is owned holds its entries. -/
theorem rowIn_of_owns {W : World} {N : Nat} {v : Value} {es : List Ent} (h : W.ownsRow N 57 4 v es.length (valsOf es)) : ∃ a cap, v = .slice a es.length cap ∧ RowIn W a N W.heap.size es := by
  rcases h.2 with ⟨rfl, h0⟩ | ⟨g, cap, cur, rfl, hN, hg, hc, _, hsz, hcells⟩
  · exact ⟨none, 0, by rw [h0], .inl (List.length_eq_zero_iff.1 h0)⟩
  · refine ⟨_, cap, rfl, .inr ⟨g, rfl, hN, (Array.getElem?_eq_some_iff.1 hg).1, cur, hg, by omega, fun i hi => ?_⟩⟩
    have he : es[i]? = some es[i] := List.getElem?_eq_getElem hi
    rw [entFn_get he]
    have hget : ∀ r, r < 4 → cur[i * 4 + r]? = es[i].vals.toList[r]? := fun r hr => by
      have h1 := valsOf_get es i r hr
      rw [he, ← hcells, List.getElem?_take_of_lt (by omega), Array.getElem?_toList] at h1
      exact h1
    exact ⟨hget 0 (by omega), hget 1 (by omega), hget 2 (by omega), hget 3 (by omega)⟩
theorem ents_take {W : World} {b o k : Nat} {es : List Ent} (h : ∀ (i : Nat) e, es[i]? = some e → EntAt W b (o + i * 4) e) : ∀ (i : Nat) e, (es.take k)[i]? = some e → EntAt W b (o + i * 4) e := fun i e hi => h i e (by
  rw [List.getElem?_take] at hi
  split at hi
  · exact hi
  · cases hi)
theorem ents_drop {W : World} {b o k : Nat} {es : List Ent} (h : ∀ (i : Nat) e, es[i]? = some e → EntAt W b (o + i * 4) e) : ∀ (i : Nat) e, (es.drop k)[i]? = some e → EntAt W b (o + k * 4 + i * 4) e := fun i e hi => by
  have := h (k + i) e (by rw [List.getElem?_drop] at hi; exact hi)
  rwa [Nat.add_mul, ← Nat.add_assoc] at this
theorem owns_empty (w : World) (N : Nat) (hN : N ≤ w.heap.size) (T : TypeId) : (w.alloc (.cells #[] T)).ownsRow N T 4 (.slice (some ⟨w.heap.size, 0, none⟩) 0 0) 0 [] :=
  ⟨rfl, .inr ⟨w.heap.size, 0, #[], rfl, hN, World.alloc_heap_new _ _, Nat.le_refl _, Nat.zero_le _, rfl, rfl⟩⟩
theorem entAt_below {W W' : World} {b o : Nat} {es : List Ent} (h : ∀ (i : Nat) e, es[i]? = some e → EntAt W b (o + i * 4) e) (hb : es = [] ∨ b < W.heap.size) (hB : Below W.heap.size W W') : ∀ (i : Nat) e, es[i]? = some e → EntAt W' b (o + i * 4) e := fun i e hi => by
  rcases hb with rfl | hb
  · simp at hi
  · exact (h i e hi).below hB hb

set_option maxRecDepth 100000 in
set_option maxHeartbeats 1000000 in
theorem l2Copy_some (es : List Ent) (b o cap : Nat) (w : World) (hn : es.length ≤ 1048576) (h : ∀ (i : Nat) e, es[i]? = some e → EntAt w b (o + i * 4) e) (hb : es = [] ∨ b < w.heap.size) :
    Calls Tryz.prog 160 #[.slice (some ⟨b, o, none⟩) es.length cap] w fun x w' => ∃ g c, x = .returned (.slice (some ⟨g, 0, none⟩) es.length c) ∧ w'.ownsRow w.heap.size 57 4 (.slice (some ⟨g, 0, none⟩) es.length c) es.length (valsOf es) ∧ Below w.heap.size w w' := by
  obtain ⟨i0, hi0, hz0, hzs, hzb⟩ := info_parts infoEntry
  go_enter Tryz.func160, Tryz.ntmps160
  have hB1 : Below w.heap.size w (w.alloc (.cells #[] 57)) := (Below.refl _ w).alloc (Nat.le_refl _) _
  have hcs := ents_cells (entAt_below h hb hB1)
  have HV := hid (And.intro (valsOf_len es) (And.intro hcs (valsOf_one es)))
  have HB := hid hB1
  clear h hcs hB1
  go_wp2_with (at_builtin; refine wpList_append_own _ rfl _ _ 32 rfl w.heap.size 57 i0 _ 4 48 Tryz.underlying32 hi0 hz0 hzs hzb rfl (by decide) _ 0 [] rfl (owns_empty w _ (Nat.le_refl _) _) ⟨b, o, none⟩ es.length cap (valsOf es) rfl (unhid HV).1 (unhid HV).2.1 (unhid HV).2.2 ?c3 ?c4 ?c5 ?_)
  case c3 => unfold maxLen; omega
  case c4 => omega
  case c5 => simp
  intro v' w2 hown hg hnil
  obtain ⟨g2, cap2, rfl⟩ : ∃ g2 cap2, v' = .slice (some ⟨g2, 0, none⟩) es.length cap2 := by
    rcases hown.2 with ⟨hv, _⟩ | ⟨g, cap, cur, hv, _⟩
    · exact absurd hv hnil
    · exact ⟨g, cap, hv⟩
  have HF := hid (And.intro hown ((unhid HB).grown hg (unhid HB).size (fun k e => by cases e; exact Nat.le_refl _)))
  clear hown hg HV HB
  go_wp2_with fail
  go_ret
  exact ⟨g2, cap2, rfl, unhid HF⟩
end Go.Proofs.YtoihhlkidlapmaaGreat

/- The library's Insert in the midst of a row: of texts, and of what stands at paths. -/
namespace Go.Proofs.YtoihhlkidlapmaaGreat
open Go.RowKit Go.Shelf Go.Lib





end Go.Proofs.YtoihhlkidlapmaaGreat

/- An entry put into a tree, wherever its place is. -/
namespace Go.Proofs.YtoihhlkidlapmaaGreat
open Go.RowKit Go.Shelf

/-- Entries with one more in its place. -/
def insAt (es : List Ent) (e : Ent) : List Ent := es.take (placeE es e.path) ++ [e] ++ es.drop (placeE es e.path)

end Go.Proofs.YtoihhlkidlapmaaGreat

/- An entry put into a tree, if it can be, wherever its place is. -/
namespace Go.Proofs.YtoihhlkidlapmaaGreat
open Go.RowKit Go.Shelf



/-- Entries with one put in. -/
def putT (es : List Ent) (e : Ent) : List Ent := if thereE es e.path then es.set (placeE es e.path) e else insAt es e

/-- Whether an entry can be put. -/
def okPut (es : List Ent) (e : Ent) : Bool := entB e && (dirE es (pathUpS e.path) && (if thereE es e.path then (entFn es (placeE es e.path)).kind == e.kind else decide (es.length ≠ 16)))
def putL (es : List Ent) (e : Ent) : List Ent := if okPut es e then putT es e else es
theorem putL_no {es : List Ent} {e : Ent} (h : okPut es e = false) : putL es e = es := by unfold putL; rw [h]; rfl
theorem putL_ins {es : List Ent} {e : Ent} (h : okPut es e = true) (ht : thereE es e.path = false) : putL es e = insAt es e := by unfold putL putT; rw [h, ht]; rfl
theorem putL_set {es : List Ent} {e : Ent} (h : okPut es e = true) (ht : thereE es e.path = true) : putL es e = es.set (placeE es e.path) e := by unfold putL putT; rw [h, ht]; rfl

end Go.Proofs.YtoihhlkidlapmaaGreat

/- An entry put into a tree, by the model. -/
namespace Go.Proofs.YtoihhlkidlapmaaGreat
open Go.RowKit Go.Shelf

theorem below_set4 {B : Nat} {a w : World} (h : Below B a w) {g : Nat} (hg : B ≤ g) (j : Nat) (e : Ent) : Below B a ((((w.setCell ⟨g, j * 4, none⟩ (.string e.path)).setCell ⟨g, j * 4 + 1, none⟩ (.int .i64 e.kind)).setCell ⟨g, j * 4 + 2, none⟩ (.int .i64 e.mode)).setCell ⟨g, j * 4 + 3, none⟩ (.string e.text)) :=
  (((h.setCell (p := ⟨g, j * 4, none⟩) hg _).setCell (p := ⟨g, j * 4 + 1, none⟩) hg _).setCell (p := ⟨g, j * 4 + 2, none⟩) hg _).setCell (p := ⟨g, j * 4 + 3, none⟩) hg _
/-- An append at a step of a region, and where the new row lies. -/
theorem step_append_at {P : Program} {w : World} {ops : Array Oper} {o : Oper} {a : Act} {K : Act → World → Prop} {Q : Exit → Act → World → Prop} {E : Prop} (hgd : o.guard = none) (s x : Operand) (t : TypeId)
    (ho : o.op = .call { callee := .builtin .append, args := #[s, x], argTypes := #[t, t] })
    (base : Nat) (e : TypeId) (i : TypeInfo) (z : Value) (size bytes : Nat) (ht : P.underlying t = some (.slice e)) (hi : P.info? e = some i) (hz : i.zero = some z)
    (hsize : i.size = size) (hby : i.bytes = bytes) (hzs : z.cells.size = size) (hsz : 0 < size)
    (v : Value) (n : Nat) (xs : List Value) (hs : a.eval s = v) (hown : w.ownsRow base e size v n xs)
    (ad : Addr) (m c : Nat) (news : List Value) (hx : a.eval x = .slice (some ad) m c) (hl : news.length = m * size) (hnews : ∀ j u, news[j]? = some u → w.cell? (ad.add j) = some u) (h1 : ∀ u ∈ news, u.oneCell' = true)
    (h63 : n + m ≤ maxLen) (hbytes : (n + m) * bytes ≤ 140737488355328) (hbase : base ≤ w.heap.size)
    (h : ∀ v' w', w'.ownsRow base e size v' (n + m) (xs ++ news) → w.grownBy w' v.ownBlock → (v'.ownBlock = v.ownBlock ∨ v'.ownBlock = some w.heap.size) → K (a.put o.dst v') w') :
    if Region.wanted o (yielded ops a.tmps) = true then Oper.wp P o a w K Q else E := by
  have hw : Region.wanted o (yielded ops a.tmps) = true := by simp [Region.wanted, hgd]
  rw [if_pos hw]
  obtain ⟨v', w', hr, h2, h3, _, h5⟩ := run_append_own_at (P := P) w base t o.type e i z size bytes ht hi hz hsize hby hzs hsz v n xs hown ad m c news hl hnews h1 h63 hbytes hbase
  unfold Oper.wp execOp
  simp only [ho, resolve, invoke, builtin, Sem.run_bind, Sem.run_pure, Result.andThen_ok, List.map_toArray, List.map_cons, List.map_nil, hs, hx, hr]
  exact h v' w' h2 h3 h5
/-- How far on a row's rest begins: where nothing is left it stays where the row began. -/
def offD (cap k : Nat) : Nat := if cap = k then 0 else k * 4
theorem ents_dropD {W : World} {b o k cap : Nat} {es : List Ent} (h : ∀ (i : Nat) e, es[i]? = some e → EntAt W b (o + i * 4) e) (hc : es.length ≤ cap) : ∀ (i : Nat) e, (es.drop k)[i]? = some e → EntAt W b (o + offD cap k + i * 4) e := fun i e hi => by
  by_cases hck : cap = k
  · have : es.drop k = [] := List.drop_eq_nil_of_le (by omega)
    rw [this] at hi; simp at hi
  · unfold offD; rw [if_neg hck]; exact ents_drop h i e hi
/-- A row of one entry. -/
def OneAt (W : World) (g : Nat) (e : Ent) : Prop := W.heap[g]? = some (.cells e.vals 57 (0, 0))
theorem OneAt.lt {W : World} {g : Nat} {e : Ent} (h : OneAt W g e) : g < W.heap.size := (Array.getElem?_eq_some_iff.1 h).1
theorem OneAt.alloc {W : World} {g : Nat} {e : Ent} (h : OneAt W g e) (o : Obj) : OneAt (W.alloc o) g e := (Below.heap_alloc _ _ _ h.lt).trans h
theorem OneAt.grown {W W' : World} {g : Nat} {e : Ent} {row : Option Nat} (h : OneAt W g e) (hg : W.grownBy W' row) (hr : some g ≠ row) : OneAt W' g e := (hg.block g h.lt hr).trans h
theorem OneAt.cells {W : World} {g : Nat} {e : Ent} (h : OneAt W g e) : ∀ j u, (valsOf [e])[j]? = some u → W.cell? ((⟨g, 0, none⟩ : Addr).add j) = some u := by
  intro j u hj
  rw [add_plain4, Nat.zero_add]
  have hj' : e.vals[j]? = some u := by
    have : (valsOf [e]) = e.vals.toList := by simp [valsOf]
    rw [this, Array.getElem?_toList] at hj; exact hj
  show W.cell? ⟨g, j, none⟩ = some u
  unfold OneAt at h
  simp only [World.cell?, h]
  exact hj'
theorem valsOf_app (xs ys : List Ent) : valsOf (xs ++ ys) = valsOf xs ++ valsOf ys := by simp [valsOf]
theorem valsOf_set (es : List Ent) (j : Nat) (e : Ent) (hj : j < es.length) : valsOf (es.set j e) = ((((valsOf es).set (j * 4) (.string e.path)).set (j * 4 + 1) (.int .i64 e.kind)).set (j * 4 + 2) (.int .i64 e.mode)).set (j * 4 + 3) (.string e.text) := by
  have hl := valsOf_len es
  apply List.ext_getElem?
  intro i
  have e1 : i = i / 4 * 4 + i % 4 := by omega
  have hr : i % 4 < 4 := Nat.mod_lt _ (by omega)
  generalize i / 4 = m at e1
  generalize i % 4 = r at e1 hr
  subst e1
  rw [valsOf_get _ _ _ hr, List.getElem?_set, List.getElem?_set, List.getElem?_set, List.getElem?_set, List.getElem?_set, valsOf_get _ _ _ hr]
  simp only [List.length_set]
  by_cases ej : j = m
  · subst ej
    rw [if_pos rfl, if_pos hj]
    match r, hr with
    | 0, _ => rw [if_neg (by omega), if_neg (by omega), if_neg (by omega), if_pos (by omega), if_pos (by omega)]; rfl
    | 1, _ => rw [if_neg (by omega), if_neg (by omega), if_pos (by omega), if_pos (by omega)]; rfl
    | 2, _ => rw [if_neg (by omega), if_pos (by omega), if_pos (by omega)]; rfl
    | 3, _ => rw [if_pos (by omega), if_pos (by omega)]; rfl
  · rw [if_neg ej, if_neg (by omega), if_neg (by omega), if_neg (by omega), if_neg (by omega)]
theorem ownsRow_set4 {W : World} {N j g : Nat} {v : Value} {es : List Ent} (h : W.ownsRow N 57 4 v es.length (valsOf es)) (hj : j < es.length) (hg : v.ownBlock = some g) (e : Ent) :
    ((((W.setCell ⟨g, j * 4, none⟩ (.string e.path)).setCell ⟨g, j * 4 + 1, none⟩ (.int .i64 e.kind)).setCell ⟨g, j * 4 + 2, none⟩ (.int .i64 e.mode)).setCell ⟨g, j * 4 + 3, none⟩ (.string e.text)).ownsRow N 57 4 v es.length (valsOf (es.set j e)) := by
  refine ⟨by rw [valsOf_len, List.length_set], ?_⟩
  rcases h.2 with ⟨rfl, h0⟩ | ⟨g', cap, cur, rfl, hN, hh, hc, hm, hsz, hcells⟩
  · cases hg
  · cases hg
    refine .inr ⟨g', cap, (((cur.setIfInBounds (j * 4) (.string e.path)).setIfInBounds (j * 4 + 1) (.int .i64 e.kind)).setIfInBounds (j * 4 + 2) (.int .i64 e.mode)).setIfInBounds (j * 4 + 3) (.string e.text), rfl, hN, ?_, hc, hm, by simpa using hsz, ?_⟩
    · exact heap_setCell_same _ g' _ _ _ _ (heap_setCell_same _ g' _ _ _ _ (heap_setCell_same _ g' _ _ _ _ (heap_setCell_same _ g' _ _ _ _ hh)))
    · rw [valsOf_set es j e hj, ← hcells]
      simp only [Array.toList_setIfInBounds, List.take_set]

/-- A slice that is not nil. -/
def SomeV (v : Value) : Prop := ∃ ad n c, v = .slice (some ad) n c
theorem owns_some {W : World} {N n size : Nat} {v : Value} {e : TypeId} {xs : List Value} (h : W.ownsRow N e size v n xs) (hn : 0 < n) : SomeV v := by
  rcases h.2 with ⟨rfl, h0⟩ | ⟨g, cap, cur, rfl, _⟩
  · omega
  · exact ⟨_, _, _, rfl⟩
set_option maxRecDepth 100000 in
set_option maxHeartbeats 4000000 in
theorem l2Put_full (es : List Ent) (e : Ent) (b o cap : Nat) (w : World) (hn : es.length ≤ 16) (hc : es.length ≤ cap) (hp : e.path.size ≤ 1048576) (ht : e.text.size ≤ 1048576) (h : ∀ (i : Nat) e, es[i]? = some e → EntAt w b (o + i * 4) e) (hb : b < w.heap.size) :
    Calls Tryz.prog 222 #[.slice (some ⟨b, o, none⟩) es.length cap, .agg e.vals] w fun x w' => ∃ v, x = .returned (.tuple #[v, .bool (okPut es e)]) ∧ w'.ownsRow w.heap.size 57 4 v (putL es e).length (valsOf (putL es e)) ∧ Below w.heap.size w w' ∧ SomeV v := by
  obtain ⟨w1, hw1⟩ : ∃ w1, w1 = w.alloc (.cells #[.string e.path, .int .i64 e.kind, .int .i64 e.mode, .string e.text] 57) := ⟨_, rfl⟩
  have hB1 : Below w.heap.size w w1 := by rw [hw1]; exact (Below.refl _ w).alloc (Nat.le_refl _) _
  have hbx1 : w1.heap[w.heap.size]? = some (.cells #[.string e.path, .int .i64 e.kind, .int .i64 e.mode, .string e.text] 57 (0, 0)) := by rw [hw1]; exact World.alloc_heap_new _ _
  have hE1 := entAt_below h (.inr hb) hB1
  have hb1 : b < w1.heap.size := Nat.lt_of_lt_of_le hb hB1.size
  have hat1 : EntsAt w1 (some ⟨b, o, none⟩) es := .inr ⟨b, o, rfl, hb1, hE1⟩
  have AT := hid (l2At_any es (some ⟨b, o, none⟩) cap e.path w1 (by omega) hat1)
  have H1 := hid (And.intro hB1 (And.intro hbx1 hE1))
  have HW1 := hid hw1
  obtain ⟨⟨d0, d1, d2, d3⟩, -⟩ := four_cells hbx1
  rw [hw1] at d0
  clear hB1 hbx1 hE1 hat1 hw1 h d1 d2 d3
  go_enter Tryz.func222, Tryz.ntmps222
  unfold Ent.vals
  go_wp2_with fail
  rw [← unhid HW1]
  refine (unhid AT).mono ?_
  rintro x w2 ⟨rfl, n2, e2⟩
  have hB2 : Below w1.heap.size w1 w2 := by rw [e2]; exact drewN_below _ _
  have hl1 : w.heap.size < w1.heap.size := (Array.getElem?_eq_some_iff.1 (unhid H1).2.1).1
  have H2 := hid (show Below w.heap.size w w2 ∧ w2.heap[w.heap.size]? = some (.cells #[.string e.path, .int .i64 e.kind, .int .i64 e.mode, .string e.text] 57 (0, 0)) ∧ ∀ (i : Nat) e, es[i]? = some e → EntAt w2 b (o + i * 4) e from ⟨(unhid H1).1.trans (hB2.mono (unhid H1).1.size), (hB2.block _ hl1).trans (unhid H1).2.1, entAt_below (unhid H1).2.2 (.inr hb1) hB2⟩)
  have hb2 : b < w2.heap.size := Nat.lt_of_lt_of_le hb1 hB2.size
  clear hB2 e2 H1 AT HW1 d0 hl1 hb1 n2
  go_wp2_with fail
  refine (l2Copy_some es b o cap w2 (by omega) (unhid H2).2.2 (.inr hb2)).mono ?_
  rintro x w3 ⟨vg, vc, rfl, hown3, hB3⟩
  obtain ⟨va, hva⟩ : ∃ va, va = some (⟨vg, 0, none⟩ : Addr) := ⟨_, rfl⟩
  rw [← hva] at hown3 ⊢
  have HVA := hid (show SomeV (.slice va es.length vc) from ⟨_, _, _, by rw [hva]⟩)
  clear hva
  have hl2 : w.heap.size < w2.heap.size := (Array.getElem?_eq_some_iff.1 (unhid H2).2.1).1
  have hB3' := (unhid H2).1.trans (hB3.mono (Nat.le_of_lt hl2))
  have hbx3 := (hB3.block _ hl2).trans (unhid H2).2.1
  obtain ⟨⟨d0, d1, d2, d3⟩, -⟩ := four_cells hbx3
  have H3 := hid (And.intro hB3' (And.intro hbx3 (And.intro (entAt_below (unhid H2).2.2 (.inr hb2) hB3) (ownsRow_base hown3 (Nat.le_of_lt hl2)))))
  have HV3 := hid (show ∀ g, (Value.slice va es.length vc).ownBlock = some g → w.heap.size < g from fun g eg => Nat.lt_of_lt_of_le hl2 (hown3.lt g eg).1)
  have hb3 : b < w3.heap.size := Nat.lt_of_lt_of_le hb2 hB3.size
  clear hB3 hB3' hbx3 hown3 H2 hb2 hl2
  go_wp2_with fail
  refine (l2Entry_any e hp ht w3).mono ?_
  rintro x w4 ⟨rfl, hB4⟩
  have hl3 : w.heap.size < w3.heap.size := (Array.getElem?_eq_some_iff.1 (unhid H3).2.1).1
  have H4 := hid (show Below w.heap.size w w4 ∧ w4.heap[w.heap.size]? = some (.cells #[.string e.path, .int .i64 e.kind, .int .i64 e.mode, .string e.text] 57 (0, 0)) ∧ (∀ (i : Nat) e, es[i]? = some e → EntAt w4 b (o + i * 4) e) ∧ w4.ownsRow w.heap.size 57 4 (.slice va es.length vc) es.length (valsOf es) from
    ⟨(unhid H3).1.trans (hB4.mono (Nat.le_of_lt hl3)), (hB4.block _ hl3).trans (unhid H3).2.1, entAt_below (unhid H3).2.2.1 (.inr hb3) hB4, ownsRow_kept (unhid H3).2.2.2 (fun g eg => hB4.block g ((unhid H3).2.2.2.lt g eg).2)⟩)
  have hb4 : b < w4.heap.size := Nat.lt_of_lt_of_le hb3 hB4.size
  clear hB4 H3 hl3 hb3 d0 d1 d2 d3
  cases he : entB e
  · have E := hid (show okPut es e = false by unfold okPut; rw [he]; rfl)
    go_wp2_with fail
    go_ret2
    exact ⟨_, by rw [unhid E]; rfl, by rw [putL_no (unhid E)]; exact (unhid H4).2.2.2, (unhid H4).1, unhid HVA⟩
  · have hbx4 := (unhid H4).2.1
    obtain ⟨⟨d0, d1, d2, d3⟩, -⟩ := four_cells hbx4
    clear hbx4
    go_wp2_with fail
    refine (l1Up_any e.path (by unfold maxLen; omega) w4).mono ?_
    rintro x w5 ⟨rfl, e5⟩
    subst e5
    rw [← ent_path he]
    go_wp2_with fail
    refine (l2Dir_any es _ cap (pathUpS e.path) _ (by omega) (.inr ⟨b, o, rfl, hb4, (unhid H4).2.2.1⟩)).mono ?_
    rintro x w6 ⟨rfl, n6, e6⟩
    have hB6 : Below w5.heap.size w5 w6 := by rw [e6]; exact drewN_below _ _
    have hl5 : w.heap.size < w5.heap.size := (Array.getElem?_eq_some_iff.1 (unhid H4).2.1).1
    have H6 := hid (show Below w.heap.size w w6 ∧ w6.heap[w.heap.size]? = some (.cells #[.string e.path, .int .i64 e.kind, .int .i64 e.mode, .string e.text] 57 (0, 0)) ∧ (∀ (i : Nat) e, es[i]? = some e → EntAt w6 b (o + i * 4) e) ∧ w6.ownsRow w.heap.size 57 4 (.slice va es.length vc) es.length (valsOf es) from
      ⟨(unhid H4).1.trans (hB6.mono (Nat.le_of_lt hl5)), (hB6.block _ hl5).trans (unhid H4).2.1, entAt_below (unhid H4).2.2.1 (.inr hb4) hB6, ownsRow_kept (unhid H4).2.2.2 (fun g eg => hB6.block g ((unhid H4).2.2.2.lt g eg).2)⟩)
    have hb6 : b < w6.heap.size := Nat.lt_of_lt_of_le hb4 hB6.size
    clear hB6 H4 hl5 hb4 d0 d1 d2 d3 e6 n6
    cases hd : dirE es (pathUpS e.path)
    · have E := hid (show okPut es e = false by unfold okPut; rw [hd]; simp)
      go_wp2_with fail
      go_ret2
      exact ⟨_, by rw [unhid E]; rfl, by rw [putL_no (unhid E)]; exact (unhid H6).2.2.2, (unhid H6).1, unhid HVA⟩
    · have hbx6 := (unhid H6).2.1
      obtain ⟨⟨d0, d1, d2, d3⟩, -⟩ := four_cells hbx6
      clear hbx6
      cases hth : thereE es e.path
      · by_cases h16 : es.length = 16
        · have E := hid (show okPut es e = false by unfold okPut; rw [hth, h16]; simp)
          have HH := hid hth
          have h16' : (16 : Int) ≤ (es.length : Int) := by omega
          clear hth h16
          go_wp2_with fail
          go_quiet (fail)
          go_wp2_with fail
          go_ret2
          have hB7 : Below w6.heap.size w6 (w6.drewN nq) := drewN_below _ _
          exact ⟨_, by rw [unhid E]; rfl, by rw [putL_no (unhid E)]; exact ownsRow_kept (unhid H6).2.2.2 (fun g eg => hB7.block g ((unhid H6).2.2.2.lt g eg).2), (unhid H6).1.trans (drewN_below _ _), unhid HVA⟩
        · have E := hid (show okPut es e = true by unfold okPut; rw [he, hd, hth]; simpa using h16)
          have HH := hid hth
          have h16' : ¬ (16 : Int) ≤ (es.length : Int) := by omega
          clear hth h16
          go_wp2_with fail
          go_quiet (fail)
          have hB7 : Below w6.heap.size w6 (w6.drewN nq) := drewN_below _ _
          have H7 := hid (show Below w.heap.size w (w6.drewN nq) ∧ (w6.drewN nq).heap[w.heap.size]? = some (.cells #[.string e.path, .int .i64 e.kind, .int .i64 e.mode, .string e.text] 57 (0, 0)) ∧ (∀ (i : Nat) e, es[i]? = some e → EntAt (w6.drewN nq) b (o + i * 4) e) ∧ (w6.drewN nq).ownsRow w.heap.size 57 4 (.slice va es.length vc) es.length (valsOf es) from
            ⟨(unhid H6).1.trans (drewN_below _ _), (unhid H6).2.1, entAt_below (unhid H6).2.2.1 (.inr hb6) hB7, ownsRow_kept (unhid H6).2.2.2 (fun g eg => hB7.block g ((unhid H6).2.2.2.lt g eg).2)⟩)
          have hb7 : b < (w6.drewN nq).heap.size := hb6
          clear hB7 H6 hb6 d0 d1 d2 d3
          generalize w6.drewN nq = w7 at H7 hb7 ⊢
          obtain ⟨⟨d0, d1, d2, d3⟩, -⟩ := four_cells (unhid H7).2.1
          obtain ⟨i0, hi0, hz0, hzs, hzb⟩ := info_parts infoEntry
          have hkn : placeE es e.path ≤ es.length := placeE_le _ _
          have E2 := hid (show putL es e = es.take (placeE es e.path) ++ [e] ++ es.drop (placeE es e.path) by rw [putL_ins (unhid E) (unhid HH)]; rfl)
          generalize placeE es e.path = k at hkn E2 ⊢
          go_wp2_with fail
          have hi1 : (0 : Int) ≤ (k : Int) := by omega
          have hi2 : (k : Int) ≤ (es.length : Int) := by omega
          have hi3 : (k : Int) ≤ (cap : Int) := by omega
          have hi4 : (es.length : Int) ≤ (cap : Int) := by omega
          refine wp_region_held_drew (S := fun w' => Below w7.heap.size w7 w') (by kernel_rfl) (drew_below _) (fun hS => ?_)
          refine wpAnyH_take (i := 1) (v := .slice (some ⟨b, o, none⟩) es.length cap) rfl (by kernel_rfl) (by kernel_rfl) (by kernel_rfl) (fun _ _ _ h => h) (Or.inl ⟨by rfl, fun w hw => by go_simp⟩) hS ?_
          refine wpAnyH_take (i := 2) (v := .int .i64 (k : Int)) rfl (by kernel_rfl) (by kernel_rfl) (by kernel_rfl) (fun _ _ _ h => h) (Or.inl ⟨by rfl, fun w hw => by go_simp⟩) hS ?_
          refine wpAnyH_take (i := 3) (v := .slice (some ⟨b, o, none⟩) k cap) rfl (by kernel_rfl) (by kernel_rfl) (by kernel_rfl) (fun _ _ _ h => h) (Or.inl ⟨by rfl, fun w hw => by go_simp⟩) hS ?_
          refine wpAnyH_take (i := 5) (v := .agg #[.string e.path, .int .i64 e.kind, .int .i64 e.mode, .string e.text]) rfl (by kernel_rfl) (by kernel_rfl) (by kernel_rfl) (fun _ _ _ h => h) (Or.inl ⟨by rfl, fun w' hw => by
            have hl7 : w.heap.size < w7.heap.size := (Array.getElem?_eq_some_iff.1 (unhid H7).2.1).1
            obtain ⟨⟨k0, k1, k2, k3⟩, -⟩ := four_cells ((Below.block hw _ hl7).trans (unhid H7).2.1)
            go_simp⟩) hS ?_
          refine wpAnyH_take (i := 8) (v := .slice (some ⟨b, o, none⟩) es.length cap) rfl (by kernel_rfl) (by kernel_rfl) (by kernel_rfl) (fun _ _ _ h => h) (Or.inl ⟨by rfl, fun w hw => by go_simp⟩) hS ?_
          refine wpAnyH_take (i := 9) (v := .int .i64 (k : Int)) rfl (by kernel_rfl) (by kernel_rfl) (by kernel_rfl) (fun _ _ _ h => h) (Or.inl ⟨by rfl, fun w hw => by go_simp⟩) hS ?_
          refine wpAnyH_take (i := 10) (v := .slice (some ⟨b, o + offD cap k, none⟩) (es.length - k) (cap - k)) rfl (by kernel_rfl) (by kernel_rfl) (by kernel_rfl) (fun _ _ _ h => h) (Or.inl ⟨by rfl, fun w hw => by
            unfold offD
            by_cases hck : cap = k
            · rw [if_pos hck]; go_simp
            · rw [if_neg hck]; go_simp⟩) hS ?_
          have HI := hid (And.intro hi0 (And.intro hz0 (And.intro hzs hzb)))
          have HC1 := hid (show ∀ W, Below w7.heap.size w7 W → ∀ j u, (valsOf (es.take k))[j]? = some u → W.cell? ((⟨b, o, none⟩ : Addr).add j) = some u from fun W hW => ents_cells (ents_take (entAt_below (unhid H7).2.2.1 (.inr hb7) hW)))
          have HC2 := hid (show ∀ W, Below w7.heap.size w7 W → ∀ j u, (valsOf (es.drop k))[j]? = some u → W.cell? ((⟨b, o + offD cap k, none⟩ : Addr).add j) = some u from fun W hW => ents_cells (ents_dropD (entAt_below (unhid H7).2.2.1 (.inr hb7) hW) hc))
          have ht1 : (es.take k).length = k := by simp; omega
          have ht2 : (es.drop k).length = es.length - k := by simp
          clear hi0 hz0 hzs hzb
          generalize w7.drew = W at hS ⊢
          refine wpAnyH_ready (rs := [0, 6]) (by kernel_rfl) (by simp) ?_
          refine AllReadyH.cons rfl (fun K hK => ?_) (AllReadyH.cons rfl (fun K hK => ?_) AllReadyH.nil)
          · go_simp
            have r0 := owns_empty W w7.heap.size hS.size 57
            have hS1 := hS.alloc hS.size (.cells #[] 57)
            refine hK.out _ _ hS1 (fun _ => ?_)
            clear hK K hS
            generalize W.alloc (.cells #[] 57) = W2 at hS1 r0 ⊢
            generalize W.heap.size = g0 at r0 ⊢
            have hS := hS1
            clear hS1
            refine wpAnyH_ready (rs := [4, 6]) (by kernel_rfl) (by simp) ?_
            refine AllReadyH.cons rfl (fun K hK => ?_) (AllReadyH.cons rfl (fun K hK => ?_) AllReadyH.nil)
            · refine step_append_at (by rfl) _ _ 32 (by rfl) w7.heap.size 57 i0 _ 4 48 Tryz.underlying32 (unhid HI).1 (unhid HI).2.1 (unhid HI).2.2.1 (unhid HI).2.2.2 rfl (by decide) (Value.slice (some ⟨g0, 0, none⟩) 0 0) (0) ([]) (by rfl) r0 ⟨b, o, none⟩ (k) (cap) (valsOf (es.take k)) (by rfl) (by rw [valsOf_len, ht1]) (unhid HC1 _ hS) (valsOf_one _) (by unfold maxLen; omega) (by omega) hS.size ?_
              intro v1 W3 r1 hg1 hat1
              rw [Nat.zero_add, List.nil_append] at r1
              obtain ⟨a1, c1, rfl⟩ := ownsRow_slice r1
              have hS1 := hS.grown hg1 hS.size (fun g eg => (r0.lt g eg).1)
              refine hK.out _ _ hS1 (fun _ => ?_)
              clear hK K hS r0 hg1 hat1
              have hS := hS1
              clear hS1
              refine wpAnyH_ready (rs := [6]) (by kernel_rfl) (by simp) ?_
              refine AllReadyH.cons rfl (fun K hK => ?_) AllReadyH.nil
              go_simp
              have o2 : OneAt (W3.alloc (.cells #[.string e.path, .int .i64 e.kind, .int .i64 e.mode, .string e.text] 57)) W3.heap.size e := World.alloc_heap_new _ _
              have hS1 := hS.alloc hS.size (.cells #[.string e.path, .int .i64 e.kind, .int .i64 e.mode, .string e.text] 57)
              have m2 : (Value.slice a1 k c1).ownBlock ≠ some W3.heap.size := fun eq => Nat.lt_irrefl _ (r1.lt _ eq).2
              have r1' := r1.alloc (.cells #[.string e.path, .int .i64 e.kind, .int .i64 e.mode, .string e.text] 57)
              clear r1
              have r1 := r1'
              clear r1'
              refine hK.out _ _ hS1 (fun _ => ?_)
              clear hK K hS
              generalize W3.alloc (.cells #[.string e.path, .int .i64 e.kind, .int .i64 e.mode, .string e.text] 57) = W4 at hS1 o2 r1 ⊢
              generalize W3.heap.size = g2 at o2 m2 ⊢
              have hS := hS1
              clear hS1
              refine wpAnyH_ready (rs := [7]) (by kernel_rfl) (by simp) ?_
              refine AllReadyH.cons rfl (fun K hK => ?_) AllReadyH.nil
              refine step_append_at (by rfl) _ _ 32 (by rfl) w7.heap.size 57 i0 _ 4 48 Tryz.underlying32 (unhid HI).1 (unhid HI).2.1 (unhid HI).2.2.1 (unhid HI).2.2.2 rfl (by decide) (Value.slice a1 k c1) (k) (valsOf (es.take k)) (by rfl) r1 ⟨g2, 0, none⟩ (1) (1) (valsOf [e]) (by rfl) (by rw [valsOf_len]; rfl) (o2.cells) (valsOf_one _) (by unfold maxLen; omega) (by omega) hS.size ?_
              intro v2 W5 r2 hg1 hat1
              obtain ⟨a2, c2, rfl⟩ := ownsRow_slice r2
              have hS1 := hS.grown hg1 hS.size (fun g eg => (r1.lt g eg).1)
              refine hK.out _ _ hS1 (fun _ => ?_)
              clear hK K hS r1 hg1 hat1 o2 m2
              have hS := hS1
              clear hS1
              refine wpAnyH_ready (rs := [11]) (by kernel_rfl) (by simp) ?_
              refine AllReadyH.cons rfl (fun K hK => ?_) AllReadyH.nil
              refine step_append_at (by rfl) _ _ 32 (by rfl) w7.heap.size 57 i0 _ 4 48 Tryz.underlying32 (unhid HI).1 (unhid HI).2.1 (unhid HI).2.2.1 (unhid HI).2.2.2 rfl (by decide) (Value.slice a2 (k + 1) c2) (k + 1) (valsOf (es.take k) ++ valsOf [e]) (by rfl) r2 ⟨b, o + offD cap k, none⟩ ((es.length - k)) ((cap - k)) (valsOf (es.drop k)) (by rfl) (by rw [valsOf_len, ht2]) (unhid HC2 _ hS) (valsOf_one _) (by unfold maxLen; omega) (by omega) hS.size ?_
              intro v3 W6 r3 hg1 hat1
              obtain ⟨a3, c3, rfl⟩ := ownsRow_slice r3
              have hS1 := hS.grown hg1 hS.size (fun g eg => (r2.lt g eg).1)
              refine hK.out _ _ hS1 (fun _ => ?_)
              clear hK K hS r2 hg1 hat1
              have hS := hS1
              clear hS1
              refine wpAnyH_take (i := 12) (v := .slice a3 (k + 1 + (es.length - k)) c3) rfl (by kernel_rfl) (by kernel_rfl) (by kernel_rfl) (fun _ _ _ h => h) (Or.inl ⟨by rfl, fun w hw => by go_simp⟩) hS ?_
              refine wpAnyH_take (i := 13) (v := .bool true) rfl (by kernel_rfl) (by kernel_rfl) (by kernel_rfl) (fun _ _ _ h => h) (Or.inl ⟨by rfl, fun w hw => by go_simp⟩) hS ?_
              refine wpAnyH_done (by kernel_rfl) ?_ _
              have hlen : (putL es e).length = k + 1 + (es.length - k) := by rw [unhid E2]; simp; omega
              have hval : valsOf (putL es e) = valsOf (es.take k) ++ valsOf [e] ++ valsOf (es.drop k) := by rw [unhid E2, valsOf_app, valsOf_app]
              have hl7 : w.heap.size < w7.heap.size := (Array.getElem?_eq_some_iff.1 (unhid H7).2.1).1
              have HF := hid (And.intro (ownsRow_base r3 (Nat.le_of_lt hl7)) ((unhid H7).1.trans (hS.mono (Nat.le_of_lt hl7))))
              have HL := hid (And.intro hlen hval)
              clear hlen hval r3 hS
              go_wp2_with fail
              go_ret2
              exact ⟨_, by rw [unhid E]; rfl, by rw [(unhid HL).1, (unhid HL).2]; exact (unhid HF).1, (unhid HF).2, owns_some (unhid HF).1 (by omega)⟩
            · go_simp
              have o2 : OneAt (W2.alloc (.cells #[.string e.path, .int .i64 e.kind, .int .i64 e.mode, .string e.text] 57)) W2.heap.size e := World.alloc_heap_new _ _
              have hS1 := hS.alloc hS.size (.cells #[.string e.path, .int .i64 e.kind, .int .i64 e.mode, .string e.text] 57)
              have m2 : (Value.slice (some ⟨g0, 0, none⟩) 0 0).ownBlock ≠ some W2.heap.size := fun eq => Nat.lt_irrefl _ (r0.lt _ eq).2
              have r0' := r0.alloc (.cells #[.string e.path, .int .i64 e.kind, .int .i64 e.mode, .string e.text] 57)
              clear r0
              have r0 := r0'
              clear r0'
              refine hK.out _ _ hS1 (fun _ => ?_)
              clear hK K hS
              generalize W2.alloc (.cells #[.string e.path, .int .i64 e.kind, .int .i64 e.mode, .string e.text] 57) = W3 at hS1 o2 r0 ⊢
              generalize W2.heap.size = g2 at o2 m2 ⊢
              have hS := hS1
              clear hS1
              refine wpAnyH_ready (rs := [4]) (by kernel_rfl) (by simp) ?_
              refine AllReadyH.cons rfl (fun K hK => ?_) AllReadyH.nil
              refine step_append_at (by rfl) _ _ 32 (by rfl) w7.heap.size 57 i0 _ 4 48 Tryz.underlying32 (unhid HI).1 (unhid HI).2.1 (unhid HI).2.2.1 (unhid HI).2.2.2 rfl (by decide) (Value.slice (some ⟨g0, 0, none⟩) 0 0) (0) ([]) (by rfl) r0 ⟨b, o, none⟩ (k) (cap) (valsOf (es.take k)) (by rfl) (by rw [valsOf_len, ht1]) (unhid HC1 _ hS) (valsOf_one _) (by unfold maxLen; omega) (by omega) hS.size ?_
              intro v1 W4 r1 hg1 hat1
              rw [Nat.zero_add, List.nil_append] at r1
              obtain ⟨a1, c1, rfl⟩ := ownsRow_slice r1
              have hS1 := hS.grown hg1 hS.size (fun g eg => (r0.lt g eg).1)
              have o2' := o2.grown hg1 (fun eq => m2 eq.symm)
              have m2' : (Value.slice a1 k c1).ownBlock ≠ some g2 := by
                rcases hat1 with h | h <;> rw [h]
                · exact m2
                · intro eq; injection eq with eq; have := o2.lt; omega
              clear o2 m2
              have o2 := o2'
              clear o2'
              have m2 := m2'
              clear m2'
              refine hK.out _ _ hS1 (fun _ => ?_)
              clear hK K hS r0 hg1 hat1
              have hS := hS1
              clear hS1
              refine wpAnyH_ready (rs := [7]) (by kernel_rfl) (by simp) ?_
              refine AllReadyH.cons rfl (fun K hK => ?_) AllReadyH.nil
              refine step_append_at (by rfl) _ _ 32 (by rfl) w7.heap.size 57 i0 _ 4 48 Tryz.underlying32 (unhid HI).1 (unhid HI).2.1 (unhid HI).2.2.1 (unhid HI).2.2.2 rfl (by decide) (Value.slice a1 k c1) (k) (valsOf (es.take k)) (by rfl) r1 ⟨g2, 0, none⟩ (1) (1) (valsOf [e]) (by rfl) (by rw [valsOf_len]; rfl) (o2.cells) (valsOf_one _) (by unfold maxLen; omega) (by omega) hS.size ?_
              intro v2 W5 r2 hg1 hat1
              obtain ⟨a2, c2, rfl⟩ := ownsRow_slice r2
              have hS1 := hS.grown hg1 hS.size (fun g eg => (r1.lt g eg).1)
              refine hK.out _ _ hS1 (fun _ => ?_)
              clear hK K hS r1 hg1 hat1 o2 m2
              have hS := hS1
              clear hS1
              refine wpAnyH_ready (rs := [11]) (by kernel_rfl) (by simp) ?_
              refine AllReadyH.cons rfl (fun K hK => ?_) AllReadyH.nil
              refine step_append_at (by rfl) _ _ 32 (by rfl) w7.heap.size 57 i0 _ 4 48 Tryz.underlying32 (unhid HI).1 (unhid HI).2.1 (unhid HI).2.2.1 (unhid HI).2.2.2 rfl (by decide) (Value.slice a2 (k + 1) c2) (k + 1) (valsOf (es.take k) ++ valsOf [e]) (by rfl) r2 ⟨b, o + offD cap k, none⟩ ((es.length - k)) ((cap - k)) (valsOf (es.drop k)) (by rfl) (by rw [valsOf_len, ht2]) (unhid HC2 _ hS) (valsOf_one _) (by unfold maxLen; omega) (by omega) hS.size ?_
              intro v3 W6 r3 hg1 hat1
              obtain ⟨a3, c3, rfl⟩ := ownsRow_slice r3
              have hS1 := hS.grown hg1 hS.size (fun g eg => (r2.lt g eg).1)
              refine hK.out _ _ hS1 (fun _ => ?_)
              clear hK K hS r2 hg1 hat1
              have hS := hS1
              clear hS1
              refine wpAnyH_take (i := 12) (v := .slice a3 (k + 1 + (es.length - k)) c3) rfl (by kernel_rfl) (by kernel_rfl) (by kernel_rfl) (fun _ _ _ h => h) (Or.inl ⟨by rfl, fun w hw => by go_simp⟩) hS ?_
              refine wpAnyH_take (i := 13) (v := .bool true) rfl (by kernel_rfl) (by kernel_rfl) (by kernel_rfl) (fun _ _ _ h => h) (Or.inl ⟨by rfl, fun w hw => by go_simp⟩) hS ?_
              refine wpAnyH_done (by kernel_rfl) ?_ _
              have hlen : (putL es e).length = k + 1 + (es.length - k) := by rw [unhid E2]; simp; omega
              have hval : valsOf (putL es e) = valsOf (es.take k) ++ valsOf [e] ++ valsOf (es.drop k) := by rw [unhid E2, valsOf_app, valsOf_app]
              have hl7 : w.heap.size < w7.heap.size := (Array.getElem?_eq_some_iff.1 (unhid H7).2.1).1
              have HF := hid (And.intro (ownsRow_base r3 (Nat.le_of_lt hl7)) ((unhid H7).1.trans (hS.mono (Nat.le_of_lt hl7))))
              have HL := hid (And.intro hlen hval)
              clear hlen hval r3 hS
              go_wp2_with fail
              go_ret2
              exact ⟨_, by rw [unhid E]; rfl, by rw [(unhid HL).1, (unhid HL).2]; exact (unhid HF).1, (unhid HF).2, owns_some (unhid HF).1 (by omega)⟩
          · go_simp
            have o2 : OneAt (W.alloc (.cells #[.string e.path, .int .i64 e.kind, .int .i64 e.mode, .string e.text] 57)) W.heap.size e := World.alloc_heap_new _ _
            have hS1 := hS.alloc hS.size (.cells #[.string e.path, .int .i64 e.kind, .int .i64 e.mode, .string e.text] 57)
            refine hK.out _ _ hS1 (fun _ => ?_)
            clear hK K hS
            generalize W.alloc (.cells #[.string e.path, .int .i64 e.kind, .int .i64 e.mode, .string e.text] 57) = W2 at hS1 o2 ⊢
            generalize W.heap.size = g2 at o2 ⊢
            have hS := hS1
            clear hS1
            refine wpAnyH_ready (rs := [0]) (by kernel_rfl) (by simp) ?_
            refine AllReadyH.cons rfl (fun K hK => ?_) AllReadyH.nil
            go_simp
            have r0 := owns_empty W2 w7.heap.size hS.size 57
            have hS1 := hS.alloc hS.size (.cells #[] 57)
            have o2' := o2.alloc (.cells #[] 57)
            have m2 : (Value.slice (some ⟨W2.heap.size, 0, none⟩) 0 0).ownBlock ≠ some g2 := fun eq => by injection eq with eq; have eq2 : W2.heap.size = g2 := eq; have := o2.lt; omega
            clear o2
            have o2 := o2'
            clear o2'
            refine hK.out _ _ hS1 (fun _ => ?_)
            clear hK K hS
            generalize W2.alloc (.cells #[] 57) = W3 at hS1 r0 o2 ⊢
            generalize W2.heap.size = g0 at r0 m2 ⊢
            have hS := hS1
            clear hS1
            refine wpAnyH_ready (rs := [4]) (by kernel_rfl) (by simp) ?_
            refine AllReadyH.cons rfl (fun K hK => ?_) AllReadyH.nil
            refine step_append_at (by rfl) _ _ 32 (by rfl) w7.heap.size 57 i0 _ 4 48 Tryz.underlying32 (unhid HI).1 (unhid HI).2.1 (unhid HI).2.2.1 (unhid HI).2.2.2 rfl (by decide) (Value.slice (some ⟨g0, 0, none⟩) 0 0) (0) ([]) (by rfl) r0 ⟨b, o, none⟩ (k) (cap) (valsOf (es.take k)) (by rfl) (by rw [valsOf_len, ht1]) (unhid HC1 _ hS) (valsOf_one _) (by unfold maxLen; omega) (by omega) hS.size ?_
            intro v1 W4 r1 hg1 hat1
            rw [Nat.zero_add, List.nil_append] at r1
            obtain ⟨a1, c1, rfl⟩ := ownsRow_slice r1
            have hS1 := hS.grown hg1 hS.size (fun g eg => (r0.lt g eg).1)
            have o2' := o2.grown hg1 (fun eq => m2 eq.symm)
            have m2' : (Value.slice a1 k c1).ownBlock ≠ some g2 := by
              rcases hat1 with h | h <;> rw [h]
              · exact m2
              · intro eq; injection eq with eq; have := o2.lt; omega
            clear o2 m2
            have o2 := o2'
            clear o2'
            have m2 := m2'
            clear m2'
            refine hK.out _ _ hS1 (fun _ => ?_)
            clear hK K hS r0 hg1 hat1
            have hS := hS1
            clear hS1
            refine wpAnyH_ready (rs := [7]) (by kernel_rfl) (by simp) ?_
            refine AllReadyH.cons rfl (fun K hK => ?_) AllReadyH.nil
            refine step_append_at (by rfl) _ _ 32 (by rfl) w7.heap.size 57 i0 _ 4 48 Tryz.underlying32 (unhid HI).1 (unhid HI).2.1 (unhid HI).2.2.1 (unhid HI).2.2.2 rfl (by decide) (Value.slice a1 k c1) (k) (valsOf (es.take k)) (by rfl) r1 ⟨g2, 0, none⟩ (1) (1) (valsOf [e]) (by rfl) (by rw [valsOf_len]; rfl) (o2.cells) (valsOf_one _) (by unfold maxLen; omega) (by omega) hS.size ?_
            intro v2 W5 r2 hg1 hat1
            obtain ⟨a2, c2, rfl⟩ := ownsRow_slice r2
            have hS1 := hS.grown hg1 hS.size (fun g eg => (r1.lt g eg).1)
            refine hK.out _ _ hS1 (fun _ => ?_)
            clear hK K hS r1 hg1 hat1 o2 m2
            have hS := hS1
            clear hS1
            refine wpAnyH_ready (rs := [11]) (by kernel_rfl) (by simp) ?_
            refine AllReadyH.cons rfl (fun K hK => ?_) AllReadyH.nil
            refine step_append_at (by rfl) _ _ 32 (by rfl) w7.heap.size 57 i0 _ 4 48 Tryz.underlying32 (unhid HI).1 (unhid HI).2.1 (unhid HI).2.2.1 (unhid HI).2.2.2 rfl (by decide) (Value.slice a2 (k + 1) c2) (k + 1) (valsOf (es.take k) ++ valsOf [e]) (by rfl) r2 ⟨b, o + offD cap k, none⟩ ((es.length - k)) ((cap - k)) (valsOf (es.drop k)) (by rfl) (by rw [valsOf_len, ht2]) (unhid HC2 _ hS) (valsOf_one _) (by unfold maxLen; omega) (by omega) hS.size ?_
            intro v3 W6 r3 hg1 hat1
            obtain ⟨a3, c3, rfl⟩ := ownsRow_slice r3
            have hS1 := hS.grown hg1 hS.size (fun g eg => (r2.lt g eg).1)
            refine hK.out _ _ hS1 (fun _ => ?_)
            clear hK K hS r2 hg1 hat1
            have hS := hS1
            clear hS1
            refine wpAnyH_take (i := 12) (v := .slice a3 (k + 1 + (es.length - k)) c3) rfl (by kernel_rfl) (by kernel_rfl) (by kernel_rfl) (fun _ _ _ h => h) (Or.inl ⟨by rfl, fun w hw => by go_simp⟩) hS ?_
            refine wpAnyH_take (i := 13) (v := .bool true) rfl (by kernel_rfl) (by kernel_rfl) (by kernel_rfl) (fun _ _ _ h => h) (Or.inl ⟨by rfl, fun w hw => by go_simp⟩) hS ?_
            refine wpAnyH_done (by kernel_rfl) ?_ _
            have hlen : (putL es e).length = k + 1 + (es.length - k) := by rw [unhid E2]; simp; omega
            have hval : valsOf (putL es e) = valsOf (es.take k) ++ valsOf [e] ++ valsOf (es.drop k) := by rw [unhid E2, valsOf_app, valsOf_app]
            have hl7 : w.heap.size < w7.heap.size := (Array.getElem?_eq_some_iff.1 (unhid H7).2.1).1
            have HF := hid (And.intro (ownsRow_base r3 (Nat.le_of_lt hl7)) ((unhid H7).1.trans (hS.mono (Nat.le_of_lt hl7))))
            have HL := hid (And.intro hlen hval)
            clear hlen hval r3 hS
            go_wp2_with fail
            go_ret2
            exact ⟨_, by rw [unhid E]; rfl, by rw [(unhid HL).1, (unhid HL).2]; exact (unhid HF).1, (unhid HF).2, owns_some (unhid HF).1 (by omega)⟩
      · obtain ⟨old, hold, hop⟩ := there_get hth
        have hfo := entFn_get hold
        have hkl : placeE es e.path < es.length := (List.getElem?_eq_some_iff.1 hold).1
        obtain ⟨c0, c1, c2, c3⟩ := (unhid H6).2.2.1 _ old hold
        cases hkk : (old.kind != e.kind)
        · have E := hid (show okPut es e = true by unfold okPut; rw [he, hd, hth, hfo]; simp at hkk; simp [hkk])
          have HH := hid hth
          clear hth hold hop hfo
          go_wp2_with fail
          go_quiet (fail)
          clear c0 c1 c2 c3
          have hB7 : Below w6.heap.size w6 (w6.drewN nq) := drewN_below _ _
          have H7 := hid (show Below w.heap.size w (w6.drewN nq) ∧ (w6.drewN nq).heap[w.heap.size]? = some (.cells #[.string e.path, .int .i64 e.kind, .int .i64 e.mode, .string e.text] 57 (0, 0)) ∧ (∀ (i : Nat) e, es[i]? = some e → EntAt (w6.drewN nq) b (o + i * 4) e) ∧ (w6.drewN nq).ownsRow w.heap.size 57 4 (.slice va es.length vc) es.length (valsOf es) from
            ⟨(unhid H6).1.trans (drewN_below _ _), (unhid H6).2.1, entAt_below (unhid H6).2.2.1 (.inr hb6) hB7, ownsRow_kept (unhid H6).2.2.2 (fun g eg => hB7.block g ((unhid H6).2.2.2.lt g eg).2)⟩)
          have hb7 : b < (w6.drewN nq).heap.size := hb6
          clear hB7 H6 hb6 d0 d1 d2 d3
          generalize w6.drewN nq = w7 at H7 hb7 ⊢
          obtain ⟨⟨d0, d1, d2, d3⟩, -⟩ := four_cells (unhid H7).2.1
          obtain ⟨gv, rfl⟩ : ∃ gv, va = some ⟨gv, 0, none⟩ := by
            rcases (unhid H7).2.2.2.2 with ⟨hv, h0⟩ | ⟨g', _, _, hv, _⟩
            · omega
            · cases hv; exact ⟨_, rfl⟩
          have HX := hid (And.intro (ownsRow_set4 (unhid H7).2.2.2 hkl rfl e) (below_set4 (unhid H7).1 (Nat.le_of_lt (unhid HV3 gv rfl)) (placeE es e.path) e))
          obtain ⟨a1, cap1, ev, hR⟩ := rowIn_of_owns (unhid H7).2.2.2
          cases ev
          obtain ⟨g', ea, -, -, hR⟩ := hR.resolve_left (fun h0 => by rw [h0] at hkl; simp at hkl)
          cases ea
          obtain ⟨⟨k0, k1, k2, k3⟩, f0, f1, f2, f3⟩ := hR.cells _ hkl
          clear hR
          have E2 := hid (putL_set (unhid E) (unhid HH))
          go_wp2_with fail
          go_ret2
          exact ⟨_, by rw [unhid E]; rfl, by rw [unhid E2, List.length_set]; exact (unhid HX).1, (unhid HX).2, unhid HVA⟩
        · have E := hid (show okPut es e = false by unfold okPut; rw [he, hd, hth, hfo]; simp at hkk; simp [hkk])
          clear hth hold hop hfo
          go_wp2_with fail
          go_quiet (fail)
          go_wp2_with fail
          go_ret2
          have hB7 : Below w6.heap.size w6 (w6.drewN nq) := drewN_below _ _
          exact ⟨_, by rw [unhid E]; rfl, by rw [putL_no (unhid E)]; exact ownsRow_kept (unhid H6).2.2.2 (fun g eg => hB7.block g ((unhid H6).2.2.2.lt g eg).2), (unhid H6).1.trans (drewN_below _ _), unhid HVA⟩
end Go.Proofs.YtoihhlkidlapmaaGreat

/- Entries put into a tree one behind the other: in order, each path once. -/
namespace Go.Proofs.YtoihhlkidlapmaaGreat
open Go.RowKit Go.Shelf

theorem putT_mem {es : List Ent} {e x : Ent} (hx : x ∈ putT es e) : x ∈ es ∨ x = e := by
  unfold putT insAt at hx
  split at hx
  · exact List.mem_or_eq_of_mem_set hx
  · simp only [List.mem_append, List.mem_singleton] at hx
    rcases hx with (h | h) | h
    · exact .inl (List.mem_of_mem_take h)
    · exact .inr h
    · exact .inl (List.mem_of_mem_drop h)
end Go.Proofs.YtoihhlkidlapmaaGreat

/- An entry put into a tree: what the program answers, and its model. -/
namespace Go.Proofs.YtoihhlkidlapmaaGreat
open Go.RowKit Go.Shelf



end Go.Proofs.YtoihhlkidlapmaaGreat

/- The last name of a path; a path in a place; by the program and by its model. -/
namespace Go.Proofs.YtoihhlkidlapmaaGreat
open Go.RowKit Go.Shelf

end Go.Proofs.YtoihhlkidlapmaaGreat

/- A path in a place, and a path that is moved, by the program and by its model. -/
namespace Go.Proofs.YtoihhlkidlapmaaGreat
open Go.RowKit Go.Shelf


/-- A text is a place, or begins with it and a slash. -/
def belowB (p s : List UInt8) : Bool := (s == p) || Lib.hasPrefix s (p ++ [47])

theorem belowB_eq (p s : List UInt8) : belowB p s = ((s == p) || (decide (p.length < s.length) && (s.take p.length == p) && (s[p.length]? == some 47))) := by
  unfold belowB Lib.hasPrefix
  congr 1
  rw [Bool.eq_iff_iff]
  simp only [List.isPrefixOf_iff_prefix, Bool.and_eq_true, decide_eq_true_eq, beq_iff_eq]
  constructor
  · rintro ⟨t, rfl⟩
    simp
  · rintro ⟨⟨h1, h2⟩, h3⟩
    refine ⟨s.drop (p.length + 1), ?_⟩
    have h4 : s = s.take p.length ++ s.drop p.length := (List.take_append_drop _ _).symm
    have h5 : s.drop p.length = s[p.length] :: s.drop (p.length + 1) := List.drop_eq_getElem_cons h1
    rw [List.getElem?_eq_getElem h1] at h3
    simp at h3
    rw [h5, h2, h3] at h4
    rw [List.append_assoc]; exact h4.symm

theorem ret_bool {a b : Bool} (h : a = b) : Ending.returned (.bool a) = .returned (.bool b) := by rw [h]
theorem byte_47 (c : UInt8) : (some c == some 47) = ((c.toNat : Int) == 47) := by
  rw [Bool.eq_iff_iff]
  simp only [beq_iff_eq, Option.some.injEq]
  constructor
  · rintro rfl; rfl
  · intro h; exact UInt8.toNat_inj.1 (by simp; omega)

set_option maxRecDepth 100000 in
set_option maxHeartbeats 1000000 in
theorem l1Below_any (p s : ByteArray) (hp : p.size ≤ maxLen) (_hs : s.size ≤ maxLen) (w : World) :
    Calls Tryz.prog 177 #[.string p, .string s] w fun e w' => e = .returned (.bool (belowB p.data.toList s.data.toList)) ∧ w' = w := by
  unfold maxLen at _hs hp
  rw [belowB_eq, ← Lib.size_eq, ← Lib.size_eq]
  go_enter Tryz.func177, Tryz.ntmps177
  go_wp2
  · rename_i h1
    go_ret
    refine ⟨ret_bool ?_, rfl⟩
    rw [Lib.toList_data, Lib.toList_data] at h1
    simp [h1]
  · rename_i h1 h2 h3
    go_ret
    refine ⟨ret_bool ?_, rfl⟩
    rw [Lib.toList_data, Lib.toList_data] at h1 ⊢
    rw [Lib.extract_toList, Lib.toList_data] at h3
    rw [getByte s p.size h2, byte_47]
    simp at h3
    simp [h2, h3]
  · rename_i h1 h2 h3
    go_ret
    refine ⟨ret_bool ?_, rfl⟩
    rw [Lib.toList_data, Lib.toList_data] at h1 ⊢
    rw [Lib.extract_toList, Lib.toList_data] at h3
    simp at h3
    simp [h3]
  · rename_i h1 h2
    go_ret
    refine ⟨ret_bool ?_, rfl⟩
    rw [Lib.toList_data, Lib.toList_data] at h1 ⊢
    simp [h2]



end Go.Proofs.YtoihhlkidlapmaaGreat

/- What is left of a tree without a place, by the program. -/
namespace Go.Proofs.YtoihhlkidlapmaaGreat
open Go.RowKit Go.Shelf

attribute [local go_sem] Oper.semAt_some


end Go.Proofs.YtoihhlkidlapmaaGreat

/- What is left of a tree without a place, by the model. -/
namespace Go.Proofs.YtoihhlkidlapmaaGreat
open Go.RowKit Go.Shelf


end Go.Proofs.YtoihhlkidlapmaaGreat

/- What holds of paths as lists of bytes: what a path is in is a path; it is in that; moved, and back. -/
namespace Go.Proofs.YtoihhlkidlapmaaGreat



end Go.Proofs.YtoihhlkidlapmaaGreat

/- What holds of a path in a place, and of one that is moved. -/
namespace Go.Proofs.YtoihhlkidlapmaaGreat




end Go.Proofs.YtoihhlkidlapmaaGreat

/- What is in a place of a tree is there only if the place is. -/
namespace Go.Proofs.YtoihhlkidlapmaaGreat
open Go.RowKit Go.Shelf



end Go.Proofs.YtoihhlkidlapmaaGreat

/- An entry put into a tree: which blocks change, and where its rows lie then. -/
namespace Go.Proofs.YtoihhlkidlapmaaGreat
open Go.RowKit Go.Shelf

/-- A tree at a block, its rows by name. -/
def RowsV (W : World) (N bt : Nat) (vp vn : Value) (es : List Ent) : Prop := W.heap[bt]? = some (.cells #[vp, vn] 117 (0, 0)) ∧ W.ownsRow N 9 1 vp es.length (es.map fun e => .string e.path) ∧ W.ownsRow N 121 1 vn es.length (es.map nodeV)



end Go.Proofs.YtoihhlkidlapmaaGreat

/- Whether two things are one dir, by the program. -/
namespace Go.Proofs.YtoihhlkidlapmaaGreat
open Go.RowKit Go.Shelf



end Go.Proofs.YtoihhlkidlapmaaGreat

/- What a row of entries that is handed over holds. -/
namespace Go.Proofs.YtoihhlkidlapmaaGreat
open Go.ChangeShapes Go.WideShapes Go.ChangeAt Go.RowKit





end Go.Proofs.YtoihhlkidlapmaaGreat

/- For every tree the program's TreeOk answers as its model does (the walk). -/
namespace Go.Proofs.YtoihhlkidlapmaaGreat
open Go.ChangeShapes Go.WideShapes Go.ChangeAt Go.RowKit Go.Shelf



end Go.Proofs.YtoihhlkidlapmaaGreat

/- Two trees in one, by the program. -/
namespace Go.Proofs.YtoihhlkidlapmaaGreat
open Go.RowKit Go.Shelf

attribute [local go_sem] Oper.semAt_some


/-- The boxes of what a join answers. -/
def BxJ (W : World) (N : Nat) : Prop := W.heap[N]? = some (.cells #[.slice none 0 0] 32 (0, 0)) ∧ W.heap[N + 1]? = some (.cells #[.bool false] 4 (0, 0))
theorem BxJ.keep {W W' : World} {N : Nat} (h : BxJ W N) (hk : ∀ k, k < N + 2 → W'.heap[k]? = W.heap[k]?) : BxJ W' N := ⟨(hk _ (by omega)).trans h.1, (hk _ (by omega)).trans h.2⟩
theorem BxJ.grown {W W' : World} {row : Option Nat} {N : Nat} (h : BxJ W N) (hg : W.grownBy W' row) (hr : ∀ r, row = some r → ∃ o : Obj, W.heap[r]? = some o ∧ o.isCells = false) : BxJ W' N := ⟨cells_grown hg hr h.1, cells_grown hg hr h.2⟩
theorem RowsV.below {W W' : World} {N bt : Nat} {vp vn : Value} {es : List Ent} (h : RowsV W N bt vp vn es) (hb : Below W.heap.size W W') : RowsV W' N bt vp vn es :=
  ⟨(hb.block bt (Array.getElem?_eq_some_iff.1 h.1).1).trans h.1, ownsRow_kept h.2.1 (fun g e => hb.block g (h.2.1.lt g e).2), ownsRow_kept h.2.2 (fun g e => hb.block g (h.2.2.lt g e).2)⟩
theorem RowsV.grown {W W' : World} {row : Option Nat} {N bt : Nat} {vp vn : Value} {es : List Ent} (h : RowsV W N bt vp vn es) (hg : W.grownBy W' row) (hr : ∀ r, row = some r → ∃ o : Obj, W.heap[r]? = some o ∧ o.isCells = false) : RowsV W' N bt vp vn es :=
  ⟨cells_grown hg hr h.1, row_grown hg hr h.2.1, row_grown hg hr h.2.2⟩
theorem RowsV.at {W : World} {N bt : Nat} {vp vn : Value} {es : List Ent} (h : RowsV W N bt vp vn es) : TreeAt W N bt es := ⟨vp, vn, h.1, h.2.1, h.2.2⟩

end Go.Proofs.YtoihhlkidlapmaaGreat

/- Whether a place of a tree may be moved, by the program. -/
namespace Go.Proofs.YtoihhlkidlapmaaGreat
open Go.RowKit Go.Shelf


end Go.Proofs.YtoihhlkidlapmaaGreat

/- What is moved in a tree, by the program. -/
namespace Go.Proofs.YtoihhlkidlapmaaGreat
open Go.RowKit Go.Shelf

attribute [local go_sem] Oper.semAt_some

/-- The boxes of a move: from, to, what is answered. -/
def BxM (W : World) (N : Nat) (p q : ByteArray) : Prop := W.heap[N]? = some (.cells #[.string p] 9 (0, 0)) ∧ W.heap[N + 1]? = some (.cells #[.string q] 9 (0, 0)) ∧ W.heap[N + 1 + 1]? = some (.cells #[.slice none 0 0] 32 (0, 0)) ∧ W.heap[N + 1 + 1 + 1]? = some (.cells #[.bool false] 4 (0, 0))
theorem BxM.keep {W W' : World} {N : Nat} {p q : ByteArray} (h : BxM W N p q) (hk : ∀ k, k < N + 4 → W'.heap[k]? = W.heap[k]?) : BxM W' N p q :=
  ⟨(hk _ (by omega)).trans h.1, (hk _ (by omega)).trans h.2.1, (hk _ (by omega)).trans h.2.2.1, (hk _ (by omega)).trans h.2.2.2⟩
theorem BxM.grown {W W' : World} {row : Option Nat} {N : Nat} {p q : ByteArray} (h : BxM W N p q) (hg : W.grownBy W' row) (hr : ∀ r, row = some r → ∃ o : Obj, W.heap[r]? = some o ∧ o.isCells = false) : BxM W' N p q :=
  ⟨cells_grown hg hr h.1, cells_grown hg hr h.2.1, cells_grown hg hr h.2.2.1, cells_grown hg hr h.2.2.2⟩

end Go.Proofs.YtoihhlkidlapmaaGreat

/- Entries put by path, by the model. -/
namespace Go.Proofs.YtoihhlkidlapmaaGreat
open Go.RowKit Go.Shelf


end Go.Proofs.YtoihhlkidlapmaaGreat

/- Two trees in one, by the model. -/
namespace Go.Proofs.YtoihhlkidlapmaaGreat
open Go.RowKit Go.Shelf


end Go.Proofs.YtoihhlkidlapmaaGreat

/- Two trees in one: the model's answer. -/
namespace Go.Proofs.YtoihhlkidlapmaaGreat
open Go.RowKit Go.Shelf


end Go.Proofs.YtoihhlkidlapmaaGreat

/- A tree by what is in it: entries that are ok, each path once, each in a dir. -/
namespace Go.Proofs.YtoihhlkidlapmaaGreat
open Go.RowKit Go.Shelf


end Go.Proofs.YtoihhlkidlapmaaGreat

/- Whether two rows of entries are the same, as the laws ask it. -/
namespace Go.Proofs.YtoihhlkidlapmaaGreat
open Go.RowKit


end Go.Proofs.YtoihhlkidlapmaaGreat

/- Two trees in one: all of both, either way round. -/
namespace Go.Proofs.YtoihhlkidlapmaaGreat
open Go.RowKit Go.Shelf

end Go.Proofs.YtoihhlkidlapmaaGreat

/- A row that grows, each of its items with blocks of its own. -/
namespace Go.Proofs.YtoihhlkidlapmaaGreat
open Go.RowKit

/-- An item: its cells, what they hold, and the blocks that it owns. -/
abbrev It (K : CK) := List Value × K.D × List Nat
def itCells {K : CK} (L : List (It K)) : List Value := L.flatMap (fun t => t.1)
def itD {K : CK} (L : List (It K)) : List K.D := L.map (fun t => t.2.1)
def itF {K : CK} (L : List (It K)) : List Nat := L.flatMap (fun t => t.2.2)
theorem itCells_app {K : CK} (A B : List (It K)) : itCells (A ++ B) = itCells A ++ itCells B := by simp [itCells]
theorem itD_app {K : CK} (A B : List (It K)) : itD (A ++ B) = itD A ++ itD B := by simp [itD]
theorem itF_app {K : CK} (A B : List (It K)) : itF (A ++ B) = itF A ++ itF B := by simp [itF]
theorem itD_len {K : CK} (A : List (It K)) : (itD A).length = A.length := by simp [itD]
structure Items (K : CK) (W : World) (N : Nat) (L : List (It K)) : Prop where
  each : ∀ t ∈ L, K.own W t.1 t.2.1 t.2.2
  nodup : (itF L).Nodup
  base : ∀ k ∈ itF L, N ≤ k
theorem mem_itF {K : CK} {L : List (It K)} {t : It K} (ht : t ∈ L) {k : Nat} (hk : k ∈ t.2.2) : k ∈ itF L := List.mem_flatMap.2 ⟨t, ht, hk⟩
theorem Items.lt {K : CK} {W : World} {N : Nat} {L : List (It K)} (h : Items K W N L) : ∀ k ∈ itF L, k < W.heap.size := by
  intro k hk
  obtain ⟨t, ht, hk⟩ := List.mem_flatMap.1 hk
  exact K.lt (h.each t ht) k hk
theorem Items.frame {K : CK} {W W' : World} {N : Nat} {L : List (It K)} (h : Items K W N L) (hf : ∀ k ∈ itF L, W'.heap[k]? = W.heap[k]?) : Items K W' N L :=
  ⟨fun t ht => K.frame (h.each t ht) (fun k hk => hf k (mem_itF ht hk)), h.nodup, h.base⟩
theorem Items.nil {K : CK} (W : World) (N : Nat) : Items K W N ([] : List (It K)) := ⟨fun t ht => (by cases ht), List.nodup_nil, fun k hk => (by cases hk)⟩
theorem itCells_len {K : CK} {W : World} {N : Nat} {L : List (It K)} (h : Items K W N L) : (itCells L).length = L.length * K.n := by
  have h1 := h.each
  clear h
  induction L with
  | nil => simp [itCells]
  | cons t L ih =>
    have := ih (fun t ht => h1 t (List.mem_cons_of_mem _ ht))
    have h2 := K.len (h1 t (by simp))
    simp only [itCells, List.flatMap_cons, List.length_append, List.length_cons] at *
    rw [this, h2, Nat.add_mul]; omega
theorem itF_sub {K : CK} {A B : List (It K)} (h : A.Sublist B) : (itF A).Sublist (itF B) := by
  induction h with
  | slnil => exact List.Sublist.refl _
  | cons a _ ih => exact ih.trans (List.sublist_append_right _ _)
  | cons_cons a _ ih => exact List.Sublist.append (List.Sublist.refl _) ih
theorem Items.sub {K : CK} {W : World} {N : Nat} {A B : List (It K)} (h : Items K W N B) (hs : A.Sublist B) : Items K W N A :=
  ⟨fun t ht => h.each t (hs.subset ht), h.nodup.sublist (itF_sub hs), fun k hk => by
    obtain ⟨t, ht, hk⟩ := List.mem_flatMap.1 hk
    exact h.base k (mem_itF (hs.subset ht) hk)⟩
theorem Items.snoc {K : CK} {W : World} {N M : Nat} {L : List (It K)} {cs : List Value} {d : K.D} {F : List Nat} (h : Items K W N L) (hown : K.own W cs d F) (hM : ∀ k ∈ itF L, k < M) (hF : ∀ k ∈ F, M ≤ k) (hNM : N ≤ M) : Items K W N (L ++ [(cs, d, F)]) := by
  refine ⟨fun t ht => ?_, ?_, fun k hk => ?_⟩
  · rcases List.mem_append.1 ht with ht | ht
    · exact h.each t ht
    · rcases List.mem_singleton.1 ht with rfl; exact hown
  · rw [itF_app]
    refine List.nodup_append.2 ⟨h.nodup, ?_, fun x hx y hy e => ?_⟩
    · simpa [itF] using K.nodup hown
    · subst e
      have h1 := hM x hx
      have h2 := hF x (by simpa [itF] using hy)
      omega
  · rw [itF_app] at hk
    rcases List.mem_append.1 hk with hk | hk
    · exact h.base k hk
    · have := hF k (by simpa [itF] using hk); omega
/-- Where an item lies among the cells. -/
theorem itCells_get {K : CK} : ∀ {L : List (It K)}, (∀ t ∈ L, t.1.length = K.n) → ∀ (i : Nat) (t : It K), L[i]? = some t → ∀ j, j < K.n → (itCells L)[i * K.n + j]? = t.1[j]?
  | [], _, i, t, h, _, _ => by cases h
  | x :: L, hl, 0, t, h, j, hj => by
    simp at h; subst h
    show (x.1 ++ itCells L)[0 * K.n + j]? = _
    rw [Nat.zero_mul, Nat.zero_add, List.getElem?_append_left (by rw [hl x (by simp)]; exact hj)]
  | x :: L, hl, i + 1, t, h, j, hj => by
    have hx := hl x (by simp)
    show (x.1 ++ itCells L)[(i + 1) * K.n + j]? = _
    have e : (i + 1) * K.n = i * K.n + K.n := by rw [Nat.add_mul, Nat.one_mul]
    rw [List.getElem?_append_right (by omega), hx, show (i + 1) * K.n + j - K.n = i * K.n + j by omega]
    exact itCells_get (fun t ht => hl t (List.mem_cons_of_mem _ ht)) i t (by simpa using h) j hj
/-- A row that is owned, in the words of the shapes. -/
structure NRow (K : CK) (ty : Nat) (W : World) (N : Nat) (v : Value) (L : List (It K)) : Prop where
  row : W.ownsRow N ty K.n v L.length (itCells L)
  items : Items K W N L
  apart : ∀ g, v.ownBlock = some g → g ∉ itF L
theorem NRow.own {K : CK} {ty : Nat} {W : World} {N : Nat} {v : Value} {L : List (It K)} (h : NRow K ty W N v L) : ∃ F, rowOwn K ty W v (itD L) F ∧ ∀ k ∈ F, N ≤ k ∧ k < W.heap.size := by
  rcases h.row.2 with ⟨rfl, h0⟩ | ⟨g, cap, cur, hv, hN, hg, hc, _, hsz, hcells⟩
  · have : L = [] := List.length_eq_zero_iff.1 h0
    subst this
    exact ⟨[], .inl ⟨rfl, rfl, none, 0, rfl, fun _ => rfl⟩, fun k hk => by cases hk⟩
  · have hF : (L.map (fun t => t.2.2)).flatten = itF L := by simp [itF, List.flatMap]
    have hap : g ∉ itF L := h.apart g (by rw [hv]; rfl)
    have hgl := (Array.getElem?_eq_some_iff.1 hg).1
    refine ⟨g :: itF L, .inr ⟨g, cap, cur, L.map (fun t => t.2.2), by rw [itD_len]; exact hv, by rw [itD_len]; exact hc, by rw [hF], List.nodup_cons.2 ⟨hap, h.items.nodup⟩, ⟨hg, by rw [itD_len, hsz]; exact Nat.mul_le_mul_right _ hc, by rw [itD_len, List.length_map], fun i d hi => ?_⟩⟩, fun k hk => ?_⟩
    · unfold itD at hi
      rw [List.getElem?_map] at hi
      cases ht : L[i]? with
      | none => rw [ht] at hi; cases hi
      | some t =>
        rw [ht] at hi
        simp at hi
        subst hi
        have hm : t ∈ L := List.mem_of_getElem? ht
        have hown := h.items.each t hm
        refine ⟨t.1, t.2.2, by rw [List.getElem?_map, ht]; rfl, fun j c hj => ?_, hown⟩
        have hjn : j < K.n := by rw [← K.len hown]; exact (List.getElem?_eq_some_iff.1 hj).1
        have h1 := itCells_get (fun t ht => K.len (h.items.each t ht)) i t ht j hjn
        rw [hj, ← hcells] at h1
        have hil : i < L.length := (List.getElem?_eq_some_iff.1 ht).1
        have : (i + 1) * K.n ≤ L.length * K.n := Nat.mul_le_mul_right _ hil
        rw [Nat.add_mul, Nat.one_mul] at this
        rw [List.getElem?_take_of_lt (by omega), Array.getElem?_toList] at h1
        exact h1
    · rcases List.mem_cons.1 hk with rfl | hk
      · exact ⟨hN, hgl⟩
      · exact ⟨h.items.base k hk, h.items.lt k hk⟩
theorem NRow.frame {K : CK} {ty : Nat} {W W' : World} {N : Nat} {v : Value} {L : List (It K)} (h : NRow K ty W N v L) (hf : ∀ k, (v.ownBlock = some k ∨ k ∈ itF L) → W'.heap[k]? = W.heap[k]?) : NRow K ty W' N v L := by
  refine ⟨⟨h.row.1, ?_⟩, h.items.frame (fun k hk => hf k (.inr hk)), h.apart⟩
  rcases h.row.2 with h1 | ⟨g, cap, cur, hv, hN, hg, hr⟩
  · exact .inl h1
  · exact .inr ⟨g, cap, cur, hv, hN, by rw [hf g (.inl (by rw [hv]; rfl))]; exact hg, hr⟩
/-- All that a growing row reaches lies behind N. -/
theorem NRow.base {K : CK} {ty : Nat} {W : World} {N : Nat} {v : Value} {L : List (It K)} (h : NRow K ty W N v L) : ∀ k, (v.ownBlock = some k ∨ k ∈ itF L) → N ≤ k ∧ k < W.heap.size := by
  intro k hk
  rcases hk with hk | hk
  · rcases h.row.2 with ⟨rfl, _⟩ | ⟨g, cap, cur, rfl, hN, hg, _⟩
    · cases hk
    · have : g = k := by simpa [Value.ownBlock] using hk
      subst this
      exact ⟨hN, (Array.getElem?_eq_some_iff.1 hg).1⟩
  · exact ⟨h.items.base k hk, h.items.lt k hk⟩
end Go.Proofs.YtoihhlkidlapmaaGreat

/- Items appended to a row that grows; rows copied, of items that own no block. -/
namespace Go.Proofs.YtoihhlkidlapmaaGreat
open Go.RowKit Go.Shelf

/-- What a row's type says of its items. -/
structure ET (K : CK) (t e : Nat) : Prop where
  ex : ∃ (i : TypeInfo) (z : Value) (bytes : Nat), Tryz.prog.underlying t = some (.slice e) ∧ Tryz.prog.info? e = some i ∧ i.zero = some z ∧ i.size = K.n ∧ i.bytes = bytes ∧ z.cells.size = K.n ∧ 0 < K.n ∧ bytes ≤ 1000
theorem etNeed : ET needC 31 36 := by
  obtain ⟨i0, hi, hz0, hz1, hz2⟩ := info_parts vinfoNeed
  exact ⟨⟨i0, _, 40, Tryz.underlying31, hi, hz0, hz1, hz2, rfl, by decide, by decide⟩⟩
theorem etPack : ET packC 23 34 := by
  obtain ⟨i0, hi, hz0, hz1, hz2⟩ := info_parts vinfoPack
  exact ⟨⟨i0, _, 80, Tryz.underlying23, hi, hz0, hz1, hz2, rfl, by decide, by decide⟩⟩
/-- Every cell of an item is one cell. -/
def OneC (K : CK) : Prop := ∀ (W : World) (cs : List Value) (d : K.D) (F : List Nat), K.own W cs d F → ∀ u ∈ cs, u.oneCell' = true
theorem oneNeed : OneC needC := fun W cs d F h u hu => by
  obtain ⟨rfl, _⟩ := needC_own h
  simp at hu
  rcases hu with rfl | rfl | rfl <;> rfl
theorem onePack : OneC packC := fun W cs d F h u hu => by
  obtain ⟨v2, v3, F2, F3, rfl, _, h2, h3, _⟩ := packC_own h
  obtain ⟨a2, c2, rfl⟩ := rowOwn.slice h2
  obtain ⟨a3, c3, rfl⟩ := rowOwn.slice h3
  simp at hu
  rcases hu with rfl | rfl | rfl | rfl <;> rfl
theorem itCells_one {K : CK} (h1 : OneC K) {W : World} {N : Nat} {L : List (It K)} (h : Items K W N L) : ∀ u ∈ itCells L, u.oneCell' = true := fun u hu => by
  obtain ⟨t, ht, hu⟩ := List.mem_flatMap.1 hu
  exact h1 W t.1 t.2.1 t.2.2 (h.each t ht) u hu
theorem add_plainR (b o n : Nat) : (⟨b, o, none⟩ : Addr).add n = ⟨b, o + n, none⟩ := by simp [Addr.add]

/-- Items appended. -/
theorem app_items {K : CK} {t e : Nat} (hET : ET K t e) (h1 : OneC K) (w : World) (ty N : Nat) (v : Value) (L M : List (It K)) (b o c : Nat) (h : NRow K e w N v L) (hM : Items K w N (L ++ M)) (hap : ∀ g, v.ownBlock = some g → g ∉ itF M) (hcell : ∀ j u, (itCells M)[j]? = some u → w.cell? ⟨b, o + j, none⟩ = some u) (hn : L.length + M.length ≤ 4194304) (hN : N ≤ w.heap.size) :
    ∃ v' w', (Builtin.append_ #[t, t] ty #[v, .slice (some ⟨b, o, none⟩) M.length c]).run Tryz.prog w = .ok v' w' ∧ NRow K e w' N v' (L ++ M) ∧ w.grownBy w' v.ownBlock ∧ (v'.ownBlock = v.ownBlock ∨ v'.ownBlock = some w.heap.size) ∧ (v' = .slice none 0 0 ↔ v = .slice none 0 0 ∧ M.length = 0) := by
  obtain ⟨i, z, bytes, ht, hi, hz, hs, hb, hzs, hn0, hbs⟩ := hET.ex
  have hMi : Items K w N M := hM.sub (List.sublist_append_right L M)
  have hbb : (L.length + M.length) * bytes ≤ 140737488355328 := Nat.le_trans (Nat.mul_le_mul hn hbs) (by decide)
  obtain ⟨v', w', hr, q1, q2, q3, q4⟩ := run_append_own_at (P := Tryz.prog) w N t ty e i z K.n bytes ht hi hz hs hb hzs hn0 v L.length (itCells L) h.row ⟨b, o, none⟩ M.length c (itCells M) (itCells_len hMi) (fun j u hj => by rw [add_plainR]; exact hcell j u hj) (itCells_one h1 hMi) (by unfold maxLen; omega) hbb hN
  have hav : ∀ g, v.ownBlock = some g → g ∉ itF (L ++ M) := fun g hg => by
    rw [itF_app]; exact not_app (h.apart g hg) (hap g hg)
  refine ⟨v', w', hr, ⟨by rw [List.length_append, itCells_app]; exact q1, hM.frame (fun k hk => q2.block k (hM.lt k hk) (fun e => hav k e.symm hk)), fun g hg => ?_⟩, q2, q4, q3⟩
  rcases q4 with e | e
  · exact hav g (by rw [← e]; exact hg)
  · intro hk
    rw [e] at hg
    have := hM.lt g hk
    simp at hg
    omega
theorem NRow.empty {K : CK} {e : Nat} (w : World) (N : Nat) (hN : N ≤ w.heap.size) : NRow K e (w.alloc (.cells #[] e)) N (.slice (some ⟨w.heap.size, 0, none⟩) 0 0) [] :=
  ⟨⟨by simp [itCells], .inr ⟨w.heap.size, 0, #[], rfl, hN, World.alloc_heap_new _ _, Nat.le_refl _, Nat.zero_le _, by simp, by simp [itCells]⟩⟩, Items.nil _ _, fun g _ hk => by cases hk⟩
theorem NRow.none {K : CK} {e : Nat} (w : World) (N : Nat) : NRow K e w N (.slice .none 0 0) [] :=
  ⟨⟨by simp [itCells], .inl ⟨rfl, rfl⟩⟩, Items.nil _ _, fun g _ hk => by cases hk⟩
end Go.Proofs.YtoihhlkidlapmaaGreat

/- Rows of needs and of entries, copied. -/
namespace Go.Proofs.YtoihhlkidlapmaaGreat
open Go.RowKit Go.Shelf

end Go.Proofs.YtoihhlkidlapmaaGreat

/- A pack copied: by the program, and by the model. -/
namespace Go.Proofs.YtoihhlkidlapmaaGreat
open Go.RowKit Go.Shelf

end Go.Proofs.YtoihhlkidlapmaaGreat

/- Packs copied, by the program. -/
namespace Go.Proofs.YtoihhlkidlapmaaGreat
open Go.RowKit Go.Shelf

/-- What an append leaves. -/
structure RowGrew (K : CK) (e : Nat) (w : World) (N : Nat) (v : Value) (L : List (It K)) (v' : Value) (w' : World) : Prop where
  row : NRow K e w' N v' L
  by_ : w.grownBy w' v.ownBlock
  block : v'.ownBlock = v.ownBlock ∨ v'.ownBlock = some w.heap.size
  some_ : v' = .slice none 0 0 ↔ v = .slice none 0 0 ∧ L.length = 0
theorem wp_items {K : CK} {t e : Nat} (hET : ET K t e) (h1 : OneC K) {ops : Array Oper} {rest : List Oper} {o : Oper} {a : Act} (w : World) {Q : Exit → Act → World → Prop} (hgd : o.guard = none) (s x : Operand) (ho : o.op = .call { callee := .builtin .append, args := #[s, x], argTypes := #[t, t] })
    (N : Nat) (v : Value) (L M : List (It K)) (b of c : Nat) (h : NRow K e w N v L) (hM : Items K w N (L ++ M)) (hap : ∀ g, v.ownBlock = some g → g ∉ itF M) (hcell : ∀ j u, (itCells M)[j]? = some u → w.cell? ⟨b, of + j, none⟩ = some u) (hn : L.length + M.length ≤ 4194304) (hN : N ≤ w.heap.size) (hs : a.eval s = v) (hx : a.eval x = .slice (some ⟨b, of, none⟩) M.length c)
    (hk : ∀ v' w', RowGrew K e w N v (L ++ M) v' w' → wpList Tryz.prog ops Q rest (a.put o.dst v') w') : wpList Tryz.prog ops Q (o :: rest) a w := by
  refine wpList_plain hgd fun K' hK => ?_
  obtain ⟨v', w', hr, h2, h3, h4, h5⟩ := app_items hET h1 w o.type N v L M b of c h hM hap hcell hn hN
  unfold Oper.wp execOp
  simp only [ho, resolve, invoke, builtin, Sem.run_bind, Sem.run_pure, Result.andThen_ok, List.map_toArray, List.map_cons, List.map_nil, hs, hx, hr]
  refine hK _ _ (hk v' w' ⟨h2, h3, h4, ?_⟩)
  rw [h5, List.length_append]
  constructor
  · rintro ⟨rfl, h0⟩
    refine ⟨rfl, ?_⟩
    rcases h.row.2 with ⟨_, hl⟩ | ⟨g, cap, cur, hv, _⟩
    · omega
    · cases hv
  · rintro ⟨h0, h1⟩
    exact ⟨h0, by omega⟩
theorem nrow_slice {K : CK} {e : Nat} {w : World} {N : Nat} {v : Value} {L : List (It K)} (h : NRow K e w N v L) : ∃ a c, v = .slice a L.length c := by
  rcases h.row.2 with ⟨rfl, h0⟩ | ⟨g, cap, cur, rfl, _⟩
  · exact ⟨none, 0, by rw [h0]⟩
  · exact ⟨_, cap, rfl⟩
theorem grew_slice {K : CK} {e : Nat} {w : World} {N : Nat} {v : Value} {L : List (It K)} {v' : Value} {w' : World} (h : RowGrew K e w N v L v' w') : ∃ a c, v' = .slice a L.length c := nrow_slice h.row

end Go.Proofs.YtoihhlkidlapmaaGreat

/- slices.Delete of one pack. -/
namespace Go.Proofs.YtoihhlkidlapmaaGreat
open Go.RowKit Go.Shelf


end Go.Proofs.YtoihhlkidlapmaaGreat

/- slices.Insert of one pack. -/
namespace Go.Proofs.YtoihhlkidlapmaaGreat
open Go.RowKit Go.Shelf Go.Lib



end Go.Proofs.YtoihhlkidlapmaaGreat

/- Whether packs are by name, by the program. -/
namespace Go.Proofs.YtoihhlkidlapmaaGreat
open Go.RowKit Go.Shelf

end Go.Proofs.YtoihhlkidlapmaaGreat

/- Packs without one of a name, by the model: the row is new, its items are those that were there. -/
namespace Go.Proofs.YtoihhlkidlapmaaGreat
open Go.RowKit Go.Shelf


end Go.Proofs.YtoihhlkidlapmaaGreat

/- Packs copied, by the model. -/
namespace Go.Proofs.YtoihhlkidlapmaaGreat
open Go.RowKit Go.Shelf

/-- Items appended, in a region that draws its order. -/
theorem op_items {K : CK} {t e : Nat} (hET : ET K t e) (h1 : OneC K) {ops : Array Oper} {o : Oper} {a : Act} (w : World) {Q : Exit → Act → World → Prop} {K' : Act → World → Prop} (d : Nat) (s x : Operand) (ho : o.op = .call { callee := .builtin .append, args := #[s, x], argTypes := #[t, t] }) (hw : Region.wanted o (yielded ops a.tmps) = true) (hd : o.dst = some d)
    (N : Nat) (v : Value) (L M : List (It K)) (b of c : Nat) (h : NRow K e w N v L) (hM : Items K w N (L ++ M)) (hap : ∀ g, v.ownBlock = some g → g ∉ itF M) (hcell : ∀ j u, (itCells M)[j]? = some u → w.cell? ⟨b, of + j, none⟩ = some u) (hn : L.length + M.length ≤ 4194304) (hN : N ≤ w.heap.size) (hs : a.eval s = v) (hx : a.eval x = .slice (some ⟨b, of, none⟩) M.length c)
    (hk : ∀ v' w', RowGrew K e w N v (L ++ M) v' w' → K' (a.put (some d) v') w') : if Region.wanted o (yielded ops a.tmps) = true then Oper.wp Tryz.prog o a w K' Q else K' (a.put o.dst undef) w := by
  rw [if_pos hw]
  obtain ⟨v', w', hr, h2, h3, h4, h5⟩ := app_items hET h1 w o.type N v L M b of c h hM hap hcell hn hN
  unfold Oper.wp execOp
  simp only [ho, resolve, invoke, builtin, Sem.run_bind, Sem.run_pure, Result.andThen_ok, List.map_toArray, List.map_cons, List.map_nil, hs, hx, hr]
  show K' (a.put o.dst v') w'
  rw [hd]
  refine hk v' w' ⟨h2, h3, h4, ?_⟩
  rw [h5, List.length_append]
  constructor
  · rintro ⟨rfl, h0⟩
    refine ⟨rfl, ?_⟩
    rcases h.row.2 with ⟨_, hl⟩ | ⟨g, cap, cur, hv, _⟩
    · omega
    · cases hv
  · rintro ⟨h0, h1⟩
    exact ⟨h0, by omega⟩
theorem NRow.lower {K : CK} {e : Nat} {W : World} {N M : Nat} {v : Value} {L : List (It K)} (h : NRow K e W N v L) (hM : M ≤ N) : NRow K e W M v L := by
  refine ⟨⟨h.row.1, ?_⟩, ⟨h.items.each, h.items.nodup, fun k hk => Nat.le_trans hM (h.items.base k hk)⟩, h.apart⟩
  rcases h.row.2 with h1 | ⟨g, cap, cur, hv, hN, hr⟩
  · exact .inl h1
  · exact .inr ⟨g, cap, cur, hv, by omega, hr⟩
/-- The boxes of a copy under way. -/
structure CopyW (w wr : World) (g : Nat) (v u : Value) : Prop where
  box : wr.heap[g]? = some (.cells #[v] 51 (0, 0))
  res : wr.heap[g + 1]? = some (.cells #[.slice none 0 0] 51 (0, 0))
  out : wr.heap[g + 1 + 1]? = some (.cells #[u] 51 (0, 0))
  size : g + 1 + 1 < wr.heap.size
  below : Below g w wr
theorem grown_transR {a b c : World} {r : Option Nat} (h : a.grownBy b r) (h2 : b.grownBy c r) : a.grownBy c r := ⟨h2.os.trans h.os, h2.tape.trans h.tape, h2.output.trans h.output, Nat.le_trans h.size h2.size, fun k hk hne => (h2.block k (Nat.lt_of_lt_of_le hk h.size) hne).trans (h.block k hk hne)⟩
theorem below_grown {a b : World} (r : Option Nat) (h : Below a.heap.size a b) : a.grownBy b r := ⟨h.os, h.tape, h.output, h.size, fun k hk _ => h.block k hk⟩
theorem CopyW.grown {w wr W : World} {g : Nat} {v u : Value} {r : Option Nat} (h : CopyW w wr g v u) (hg : wr.grownBy W r) (hr : ∀ k, r = some k → g + 1 + 1 < k) : CopyW w W g v u := by
  have hs := h.size
  have hb : ∀ k, k ≤ g + 1 + 1 → W.heap[k]? = wr.heap[k]? := fun k hk => hg.block k (by omega) (fun e => by have := hr k e.symm; omega)
  exact ⟨(hb _ (by omega)).trans h.box, (hb _ (by omega)).trans h.res, (hb _ (by omega)).trans h.out, Nat.lt_of_lt_of_le hs hg.size, h.below.grown hg (by omega) (fun k e => by have := hr k e; omega)⟩
theorem CopyW.store {w W : World} {g : Nat} {v u : Value} (h : CopyW w W g v u) (u' : Value) : CopyW w (W.setCell ⟨g + 1 + 1, 0, none⟩ u') g v u' :=
  ⟨(Below.heap_setCell _ _ _ _ (by dsimp only; omega)).trans h.box, (Below.heap_setCell _ _ _ _ (by dsimp only; omega)).trans h.res, heap_setCell_same W (g + 1 + 1) 0 _ _ u' h.out, by simpa using h.size, h.below.setCell (by dsimp only; omega) _⟩

end Go.Proofs.YtoihhlkidlapmaaGreat

/- Contracts of the library that are laid at the program. -/
namespace Go.Proofs.YtoihhlkidlapmaaGreat
open Go.Shelf Go.RowKit
end Go.Proofs.YtoihhlkidlapmaaGreat

/- Where a pack is among packs by name, by the program. -/
namespace Go.Proofs.YtoihhlkidlapmaaGreat
open Go.RowKit Go.Shelf




end Go.Proofs.YtoihhlkidlapmaaGreat

/- Whether all that packs need is there, by the program. -/
namespace Go.Proofs.YtoihhlkidlapmaaGreat
open Go.RowKit Go.Shelf





end Go.Proofs.YtoihhlkidlapmaaGreat

/- Two trees in one, by the model: the second may be nil. -/
namespace Go.Proofs.YtoihhlkidlapmaaGreat
open Go.RowKit Go.Shelf

end Go.Proofs.YtoihhlkidlapmaaGreat

/- The trees of packs in one, by the model and by the program. -/
namespace Go.Proofs.YtoihhlkidlapmaaGreat
open Go.RowKit Go.Shelf

def treeOfP (p : packC.D) : List Ent := entsD (PackD.tree p)
theorem tree_in {W : World} {e : packC.D} {na ta : Option Addr} {nc tc : Nat} (h : packC.at_ W [.string (PackD.name e), .string (PackD.version e), .slice na (PackD.needs e).length nc, .slice ta (PackD.tree e).length tc] e) : EntsAt W ta (treeOfP e) ∧ (treeOfP e).length = (PackD.tree e).length ∧ (ta = none → tc = 0) := by
  obtain ⟨v2, v3, e1, h2, h3⟩ := packC_at h
  injection e1 with _ e1
  injection e1 with _ e1
  injection e1 with _ e1
  injection e1 with e2 _
  subst e2
  obtain ⟨a, cap, ev, hn, hc, hr⟩ := entsD_at h3
  injection ev with ea _ ec
  subst ea ec
  exact ⟨hr, entsD_len _, hn⟩


end Go.Proofs.YtoihhlkidlapmaaGreat

/- Root: what the laws' own functions of it do. (Written by mkshape.py.) -/
namespace Go.Proofs.YtoihhlkidlapmaaGreat
open Go.RowKit Go.Shelf







end Go.Proofs.YtoihhlkidlapmaaGreat

/- What is wrong with packs; whether a root is ok, and its tree. -/
namespace Go.Proofs.YtoihhlkidlapmaaGreat
open Go.RowKit Go.Shelf




end Go.Proofs.YtoihhlkidlapmaaGreat
