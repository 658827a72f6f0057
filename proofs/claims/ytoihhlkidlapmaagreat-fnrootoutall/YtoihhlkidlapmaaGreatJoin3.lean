/- Texts of this proof, one behind the other; each says at its head what it shows. -/
import Derived.Test.YtoihhlkidlapmaaGreatJoin2
import Derived.Test.YtoihhlkidlapmaaGreatJoin1
import Derived.WalkSpells
import Derived.Lib.Strings
import Derived.Deep.OwnRows
import Derived.Maps.OwnIn
import Derived.Deep.RegionWith
import Derived.Laws.Cover1
namespace Go.Proofs.YtoihhlkidlapmaaGreat
open Go.RowKit
def askB (k : Int) (v : List UInt8) : Bool := if k = 0 then v.isEmpty else (decide (1 ≤ k) && decide (k ≤ 3)) && versOk v
def needB (n : List UInt8) (k : Int) (v : List UInt8) : Bool := packB n && askB k v
def AskFn (W : World) (base : Nat) (k : Int) (fv : Value) (v : List UInt8) : Prop :=
  (k = 0 ∧ fv = .func (.func 242) #[] #[]) ∨
  ∃ (id b : Nat) (vv : Value), (k = 1 ∧ id = 243 ∨ k = 2 ∧ id = 245 ∨ k = 3 ∧ id = 247) ∧ fv = .func (.func id) #[] #[.pointer (some ⟨b, 0, none⟩)] ∧ base ≤ b ∧ b < W.heap.size ∧ W.cell? ⟨b, 0, none⟩ = some vv ∧ Vers W base vv (versL v)
theorem askB_1 (v : List UInt8) : askB 1 v = versOk v := by simp [askB]
theorem askB_2 (v : List UInt8) : askB 2 v = versOk v := by simp [askB]
theorem askB_3 (v : List UInt8) : askB 3 v = versOk v := by simp [askB]
theorem ask_mk (w w1 : World) (k : Int) (id : Nat) (vv : Value) (v : List UInt8) (t : TypeId) (hk : k = 1 ∧ id = 243 ∨ k = 2 ∧ id = 245 ∨ k = 3 ∧ id = 247) (hz : w.heap.size + 1 ≤ w1.heap.size) {B : Nat}
    (ho : w1.ownsRow B 3 1 vv (versL v).length ((versL v).map (Value.int .i64))) (hb : w.heap.size ≤ B) : AskFn (w1.alloc (.cells #[vv] t)) w.heap.size k (.func (.func id) #[] #[.pointer (some ⟨w1.heap.size, 0, none⟩)]) v :=
  .inr ⟨id, w1.heap.size, vv, hk, rfl, by omega, by simp, (cell_new_l w1 vv t).1, (vers_of (versL_ne v) (ownsRow_baseV ho hb)).below ((Below.refl _ w1).alloc (Nat.le_refl _) _)⟩
set_option maxRecDepth 100000 in
set_option maxHeartbeats 2000000 in
theorem askOf_any (n v : ByteArray) (k : Int) (hv : v.size ≤ maxLen) (w : World) :
    Calls Tryz.prog 185 #[.agg #[.string n, .int .i64 k, .string v]] w fun e W' => ∃ fv, e = .returned (.tuple #[fv, .bool (askB k v.data.toList)]) ∧ (askB k v.data.toList = true → AskFn W' w.heap.size k fv v.data.toList) ∧ Below w.heap.size w W' := by
  by_cases k0 : k = 0
  · subst k0
    have E := hid (show askB 0 v.data.toList = v.toList.isEmpty by rw [Lib.toList_data]; simp [askB])
    go_enter Tryz.func185, Tryz.ntmps185
    go_wp2
    go_quiet (fail)
    go_wp2
    go_ret2
    refine ⟨.func (.func 242) #[] #[], by rw [unhid E]; rfl, (fun _ => .inl ⟨rfl, rfl⟩), ?_⟩
    exact ⟨rfl, rfl, rfl, by simp, fun j hj => Below.heap_alloc w _ j hj⟩
  · have k0' : (k == 0) = false := by rw [beq_eq_false_iff_ne]; exact k0
    have hB0 : Below w.heap.size w (w.alloc (.cells #[.string n, .int .i64 k, .string v] 36)) := (Below.refl _ w).alloc (Nat.le_refl _) _
    have HB0 := hid hB0
    clear hB0
    have fcell : ∀ w1 : World, Below (w.alloc (.cells #[.string n, .int .i64 k, .string v] 36)).heap.size (w.alloc (.cells #[.string n, .int .i64 k, .string v] 36)) w1 → w1.cell? ⟨w.heap.size, 1, none⟩ = some (.int .i64 k) := fun w1 hb =>
      (hb.cell (p := ⟨w.heap.size, 1, none⟩) (by simp)).trans (by simp [go_sem])
    have Hf := hid fcell
    have hk : k = 1 ∨ k = 2 ∨ k = 3 ∨ (((k == 1) = false ∧ (k == 2) = false ∧ (k == 3) = false) ∧ askB k v.data.toList = false) := by
      by_cases k1 : k = 1
      · exact .inl k1
      · by_cases k2 : k = 2
        · exact .inr (.inl k2)
        · by_cases k3 : k = 3
          · exact .inr (.inr (.inl k3))
          · refine .inr (.inr (.inr ⟨⟨by rw [beq_eq_false_iff_ne]; exact k1, by rw [beq_eq_false_iff_ne]; exact k2, by rw [beq_eq_false_iff_ne]; exact k3⟩, ?_⟩))
            unfold askB
            rw [if_neg k0]
            have : (decide (1 ≤ k) && decide (k ≤ 3)) = false := by simp; omega
            rw [this]; rfl
    clear fcell
    rcases hk with rfl | rfl | rfl | ⟨⟨k1, k2, k3⟩, hask⟩
    all_goals
      go_enter Tryz.func185, Tryz.ntmps185
      go_wp2_with fail
      refine (versionOf_any v hv _).mono ?_
      rintro e w1 ⟨vv, rfl, ho, hno, hb⟩
      have hB1 := (unhid HB0).trans (hb.mono (unhid HB0).size)
      have hsh : ∃ a l c, vv = .slice a l c := by
        cases hok : versOk v.data.toList
        · exact ⟨_, _, _, hno hok⟩
        · obtain ⟨a, c, e⟩ := ownsRow_shapeV (ho hok); exact ⟨_, _, _, e⟩
      have Ho := hid ho
      have HB1 := hid hB1
      have hz1 : w.heap.size + 1 ≤ w1.heap.size := by have := hb.size; simpa using this
      have fc := fun o => cell_alloc_l o (unhid Hf w1 hb)
      obtain ⟨a, l, c, rfl⟩ := hsh
      clear ho hno hb hB1
      go_wp2_with fail
      go_ret2
    · refine ⟨.func (.func 243) #[] #[.pointer (some ⟨w1.heap.size, 0, none⟩)], by rw [askB_1]; rfl, (fun hk => ask_mk w w1 _ _ _ _ _ (.inl ⟨rfl, rfl⟩) hz1 (unhid Ho (by rwa [askB_1] at hk)) (by simp)), (unhid HB1).alloc (unhid HB1).size _⟩
    · refine ⟨.func (.func 245) #[] #[.pointer (some ⟨w1.heap.size, 0, none⟩)], by rw [askB_2]; rfl, (fun hk => ask_mk w w1 _ _ _ _ _ (.inr (.inl ⟨rfl, rfl⟩)) hz1 (unhid Ho (by rwa [askB_2] at hk)) (by simp)), (unhid HB1).alloc (unhid HB1).size _⟩
    · refine ⟨.func (.func 247) #[] #[.pointer (some ⟨w1.heap.size, 0, none⟩)], by rw [askB_3]; rfl, (fun hk => ask_mk w w1 _ _ _ _ _ (.inr (.inr ⟨rfl, rfl⟩)) hz1 (unhid Ho (by rwa [askB_3] at hk)) (by simp)), (unhid HB1).alloc (unhid HB1).size _⟩
    · exact ⟨.nilFunc, by rw [hask]; rfl, (fun hk => by rw [hask] at hk; cases hk), (unhid HB1).alloc (unhid HB1).size _⟩
set_option maxRecDepth 100000 in
set_option maxHeartbeats 2000000 in
theorem NeedOk_any (n v : ByteArray) (k : Int) (hn : n.size ≤ maxLen) (hv : v.size ≤ maxLen) (w : World) :
    Calls Tryz.prog 117 #[.agg #[.string n, .int .i64 k, .string v]] w fun e W' => e = .returned (.bool (needB n.data.toList k v.data.toList)) ∧ Below w.heap.size w W' := by
  have hB0 : Below w.heap.size w (w.alloc (.cells #[.string n, .int .i64 k, .string v] 36)) := (Below.refl _ w).alloc (Nat.le_refl _) _
  have HB0 := hid hB0
  have fcell : ∀ w1 : World, Below (w.alloc (.cells #[.string n, .int .i64 k, .string v] 36)).heap.size (w.alloc (.cells #[.string n, .int .i64 k, .string v] 36)) w1 → w1.cell? ⟨w.heap.size, 0, none⟩ = some (.string n) := fun w1 hb =>
    (hb.cell (p := ⟨w.heap.size, 0, none⟩) (by simp)).trans (by simp [go_sem])
  have Hf := hid fcell
  clear hB0 fcell
  go_enter Tryz.func117, Tryz.ntmps117
  go_wp2_with fail
  refine (askOf_any n v k hv _).mono ?_
  rintro e w1 ⟨fv, rfl, -, hb⟩
  have HB1 := hid ((unhid HB0).trans (hb.mono (unhid HB0).size))
  have fc := unhid Hf w1 hb
  clear hb
  cases ha : askB k v.data.toList
  · have E := hid (show needB n.data.toList k v.data.toList = false by simp [needB, ha])
    go_wp2_with fail
    go_ret
    exact ⟨by rw [unhid E]; rfl, unhid HB1⟩
  · have E := hid (show needB n.data.toList k v.data.toList = packB n.data.toList by simp [needB, ha])
    go_wp2_with fail
    refine (packNameOk_any n hn _).mono ?_
    rintro e w2 ⟨rfl, hb⟩
    rw [← unhid E]
    have HB2 := hid ((unhid HB1).trans (hb.mono (unhid HB1).size))
    clear hb
    go_wp2_with fail
    go_ret
    exact ⟨rfl, unhid HB2⟩
set_option maxRecDepth 100000 in
set_option maxHeartbeats 2000000 in
theorem specNeedOk_any (n v : ByteArray) (k : Int) (hn : n.size ≤ 1048576) (hv : v.size ≤ 1048576) (w : World) :
    Calls Tryz.prog 277 #[.agg #[.string n, .int .i64 k, .string v]] w fun e W' => e = .returned (.bool (needB n.data.toList k v.data.toList)) ∧ Below w.heap.size w W' := by
  have hnm : n.size ≤ maxLen := by unfold maxLen; omega
  have HB0 := hid (show Below w.heap.size w (w.alloc (.cells #[.string n, .int .i64 k, .string v] 36)) from (Below.refl _ w).alloc (Nat.le_refl _) _)
  cases hp : packB n.data.toList
  · have E := hid (show needB n.data.toList k v.data.toList = false by simp [needB, hp])
    go_enter Tryz.func277, Tryz.ntmps277
    go_wp2_with fail
    refine (l3Pack_any n hnm _).mono ?_
    rintro e w1 ⟨rfl, rfl⟩
    rw [hp]
    go_wp2_with fail
    go_ret
    exact ⟨by rw [unhid E]; rfl, unhid HB0⟩
  · by_cases k0 : k = 0
    · subst k0
      cases he : v.toList.isEmpty
      · have E := hid (show needB n.data.toList 0 v.data.toList = false by rw [Lib.toList_data] at he; simp [needB, askB, he])
        have he2 : ¬ v.toList = [] := by intro h; rw [h] at he; cases he
        go_enter Tryz.func277, Tryz.ntmps277
        go_wp2_with fail
        refine (l3Pack_any n hnm _).mono ?_
        rintro e w1 ⟨rfl, rfl⟩
        rw [hp]
        go_wp2_with fail
        refine (l1In_any _ _ _ _).mono ?_
        rintro e w1 ⟨rfl, rfl⟩
        go_wp2_with fail
        go_ret
        exact ⟨by rw [unhid E]; rfl, unhid HB0⟩
      · have E := hid (show needB n.data.toList 0 v.data.toList = true by rw [Lib.toList_data] at he; simp [needB, askB, he, hp])
        have he2 : v.toList = [] := List.isEmpty_iff.1 he
        go_enter Tryz.func277, Tryz.ntmps277
        go_wp2_with fail
        refine (l3Pack_any n hnm _).mono ?_
        rintro e w1 ⟨rfl, rfl⟩
        rw [hp]
        go_wp2_with fail
        go_ret
        exact ⟨by rw [unhid E]; rfl, unhid HB0⟩
    · have k0' : (k == 0) = false := by rw [beq_eq_false_iff_ne]; exact k0
      cases hr : (decide (1 ≤ k) && decide (k ≤ 3))
      · have E := hid (show needB n.data.toList k v.data.toList = false by unfold needB askB; rw [if_neg k0, hr]; simp)
        have Hr := hid hr
        clear hr k0
        go_enter Tryz.func277, Tryz.ntmps277
        go_wp2_with fail
        refine (l3Pack_any n hnm _).mono ?_
        rintro e w1 ⟨rfl, rfl⟩
        rw [hp]
        go_wp2_with fail
        refine (l1In_any _ _ _ _).mono ?_
        rintro e w1 ⟨rfl, rfl⟩
        rw [unhid Hr]
        go_wp2_with fail
        go_ret
        exact ⟨by rw [unhid E]; rfl, unhid HB0⟩
      · have E := hid (show needB n.data.toList k v.data.toList = versOk v.data.toList by unfold needB askB; rw [if_neg k0, hr, hp]; simp)
        have Hr := hid hr
        clear hr k0
        go_enter Tryz.func277, Tryz.ntmps277
        go_wp2_with fail
        refine (l3Pack_any n hnm _).mono ?_
        rintro e w1 ⟨rfl, rfl⟩
        rw [hp]
        go_wp2_with fail
        refine (l1In_any _ _ _ _).mono ?_
        rintro e w1 ⟨rfl, rfl⟩
        rw [unhid Hr]
        go_wp2_with fail
        refine (specVersionOk_any v hv _).mono ?_
        rintro e w2 ⟨rfl, hb⟩
        rw [← unhid E]
        have HB1 := hid ((unhid HB0).trans (hb.mono (unhid HB0).size))
        clear hb
        go_wp2_with fail
        go_ret
        exact ⟨rfl, unhid HB1⟩
end Go.Proofs.YtoihhlkidlapmaaGreat

namespace Go.Proofs.YtoihhlkidlapmaaGreat
open Go.RowKit Go.Shelf
def needOkD (d : needC.D) : Bool := needB (NeedD.name d).data.toList (NeedD.kind d) (NeedD.version d).data.toList
def smallN (ds : List needC.D) : Prop := ds.length ≤ 1048576 ∧ ∀ d ∈ ds, (NeedD.name d).size ≤ 1048576 ∧ (NeedD.version d).size ≤ 1048576
theorem le_maxLen {n : Nat} (h : n ≤ 1048576) : n ≤ maxLen := Nat.le_trans h (by simp [maxLen])
theorem all_take_next {α : Type} {p : α → Bool} {xs : List α} {k : Nat} {x : α} (hx : xs[k]? = some x) (h : (xs.take k).all p = true) (h2 : p x = true) : (xs.take (k + 1)).all p = true := by
  rw [List.take_add_one, hx, List.all_append, h]; simp [h2]
theorem all_no {α : Type} {p : α → Bool} {xs : List α} {k : Nat} {x : α} (hx : xs[k]? = some x) (h2 : p x = false) : xs.all p = false := by
  rw [List.all_eq_false]
  exact ⟨x, List.mem_of_getElem? hx, by simp [h2]⟩
theorem need_cells {W w : World} {b o : Nat} {ds : List needC.D} {k : Nat} {e : needC.D} (hB : Below w.heap.size w W) (hbl : b < w.heap.size) (hc : ∀ (i : Nat) d, ds[i]? = some d → ∃ cs, needC.at_ w cs d ∧ ∀ j c, cs[j]? = some c → w.cell? ⟨b, o + i * needC.n + j, none⟩ = some c) (he : ds[k]? = some e) :
    W.cell? ⟨b, o + k * 3, none⟩ = some (.string (NeedD.name e)) ∧ W.cell? ⟨b, o + k * 3 + 1, none⟩ = some (.int .i64 (NeedD.kind e)) ∧ W.cell? ⟨b, o + k * 3 + 2, none⟩ = some (.string (NeedD.version e)) := by
  obtain ⟨cs, hat, hcell⟩ := hc k e he
  obtain rfl := needC_at hat
  exact ⟨(hB.cell (p := ⟨b, o + k * 3 + 0, none⟩) hbl).trans (hcell 0 _ rfl), (hB.cell (p := ⟨b, o + k * 3 + 1, none⟩) hbl).trans (hcell 1 _ rfl), (hB.cell (p := ⟨b, o + k * 3 + 2, none⟩) hbl).trans (hcell 2 _ rfl)⟩
set_option maxRecDepth 100000 in
set_option maxHeartbeats 4000000 in
theorem l4Needs_any (ds : List needC.D) (v : Value) (w : World) (hs : smallN ds) (h : rowAt needC w v ds) :
    Calls Tryz.prog 250 #[v] w fun x w' => x = .returned (.bool (ds.all needOkD && decide (ds.length ≤ 6))) ∧ Below w.heap.size w w' := by
  obtain ⟨a, cap, rfl, -, -, h⟩ := h
  obtain ⟨hlen, hz⟩ := hs
  have HZ := hid hz
  have H := hid h
  clear hz h
  go_enter Tryz.func250, Tryz.ntmps250
  go_wp2_with fail
  go_loopw [3] (fun i wr => ∃ k : Nat, k ≤ ds.length ∧ i = .int .i64 (k : Int) ∧ Hid ((ds.take k).all needOkD = true) ∧ Hid (Below w.heap.size w wr)) (fun i _ => ds.length - (intOf i).toNat)
  case atStart => exact ⟨0, Nat.zero_le _, rfl, hid (by simp), hid (Below.refl _ _)⟩
  case round =>
    obtain ⟨k, hk, rfl, HA, HB⟩ := hrel
    by_cases hlt : k < ds.length
    · obtain ⟨e, he⟩ : ∃ e, ds[k]? = some e := ⟨ds[k], List.getElem?_eq_getElem hlt⟩
      obtain ⟨b, o, rfl, hbl, hc⟩ := (unhid H).resolve_left (by intro e; subst e; simp at hlt)
      obtain ⟨c0, c1, c2⟩ := need_cells (unhid HB) hbl hc he
      have HS := hid (unhid HZ e (List.mem_of_getElem? he))
      have HE := hid he
      clear hc he hbl
      go_wp2_with fail
      refine (specNeedOk_any (NeedD.name e) (NeedD.version e) (NeedD.kind e) (unhid HS).1 (unhid HS).2 _).mono ?_
      rintro x w2 ⟨rfl, hb⟩
      have HB2 := hid ((unhid HB).trans (hb.mono (unhid HB).size))
      clear hb c0 c1 c2
      cases hq : needB (NeedD.name e).data.toList (NeedD.kind e) (NeedD.version e).data.toList with
      | false =>
        go_wp2_with fail
        go_ret
        exact ⟨by rw [all_no (unhid HE) hq]; rfl, unhid HB2⟩
      | true =>
        have HQ := hid hq
        clear hq
        go_wp2_with fail
        go_roundw
        case rel => exact ⟨k + 1, by omega, by go_num, hid (all_take_next (unhid HE) (unhid HA) (unhid HQ)), HB2⟩
        case measure => simp [intOf]; omega
    · have e : k = ds.length := by omega
      subst e
      go_wp2_with fail
      go_ret
      refine ⟨?_, unhid HB⟩
      have := unhid HA
      rw [List.take_of_length_le (Nat.le_refl _)] at this
      rw [this]
      simp
      omega
set_option maxRecDepth 100000 in
set_option maxHeartbeats 4000000 in
theorem l7Needs_any (n : ByteArray) (ds : List needC.D) (v : Value) (w : World) (hs : smallN ds) (h : rowAt needC w v ds) :
    Calls Tryz.prog 189 #[.string n, v] w fun x w' => x = .returned (.bool ((ds.all needOkD && decide (ds.length ≤ 6)) && !twiceB (n :: namesN ds))) ∧ Below w.heap.size w w' := by
  have HR := hid h
  obtain ⟨a, cap, rfl, -, -, h⟩ := h
  have H := hid h
  have HSM := hid hs
  have hlen := hs.1
  clear h hs
  have HO := hid (show (w.alloc (.cells #[.string n] 9)).ownsRow w.heap.size 9 1 (.slice (some ⟨w.heap.size, 0, none⟩) 1 1) [n].length ([n].map Value.string) from ⟨rfl, .inr ⟨w.heap.size, 1, #[.string n], rfl, Nat.le_refl _, World.alloc_heap_new _ _, Nat.le_refl _, by simp [maxLen], rfl, rfl⟩⟩)
  have HB := hid (show Below w.heap.size w (w.alloc (.cells #[.string n] 9)) from (Below.refl _ w).alloc (Nat.le_refl _) _)
  go_enter Tryz.func189, Tryz.ntmps189
  go_wp2_with fail
  generalize w.alloc (.cells #[.string n] 9) = wa at HO HB ⊢
  go_loopw [5, 6] (fun s i wr => ∃ (k : Nat) (oa : Option Addr) (oc : Nat), k ≤ ds.length ∧ i = .int .i64 (k : Int) ∧ s = .slice oa (k + 1) oc ∧ Hid (wr.ownsRow w.heap.size 9 1 (.slice oa (k + 1) oc) (n :: (namesN ds).take k).length ((n :: (namesN ds).take k).map Value.string)) ∧ Hid (Below w.heap.size w wr)) (fun _ i _ => ds.length - (intOf i).toNat)
  case atStart => exact ⟨0, _, _, Nat.zero_le _, rfl, rfl, HO, HB⟩
  case round =>
    clear HO HB
    obtain ⟨k, oa, oc, hk, rfl, rfl, HO, HB⟩ := hrel
    by_cases hlt : k < ds.length
    · obtain ⟨e, he⟩ : ∃ e, ds[k]? = some e := ⟨ds[k], List.getElem?_eq_getElem hlt⟩
      obtain ⟨b, o, rfl, hbl, hc⟩ := (unhid H).resolve_left (by intro e; subst e; simp at hlt)
      obtain ⟨c0, c1, c2⟩ := need_cells (unhid HB) hbl hc he
      have HX := hid (namesN_get he)
      have HO2 := hid ((unhid HO).alloc (.cells #[.string (NeedD.name e)] 9))
      have HB2 := hid ((unhid HB).alloc (unhid HB).size (.cells #[.string (NeedD.name e)] 9))
      have HC2 := hid (cell_newN wr (.string (NeedD.name e)) 9)
      have hlo := hid (show ∀ j, (Value.slice oa (k + 1) oc).ownBlock = some j → w.heap.size ≤ j from fun j ej => ((unhid HO).lt j ej).1)
      have hkl : (n :: (namesN ds).take k).length ≤ 1048577 := by rw [List.length_cons, List.length_take]; omega
      have HKL := hid hkl
      have HSZ := hid (unhid HB2).size
      clear hc he hbl HO HB hkl c1 c2
      go_wp2_with (at_builtin; refine wp_name rfl _ _ rfl w.heap.size (.slice oa (k + 1) oc) (n :: (namesN ds).take k) (NeedD.name e) wr.heap.size rfl rfl (unhid HO2) (unhid HC2) (by have := unhid HKL; omega) (unhid HSZ) ?_)
      intro v' w4 hown hg
      have ho3 : w4.ownsRow w.heap.size 9 1 v' (n :: (namesN ds).take (k + 1)).length ((n :: (namesN ds).take (k + 1)).map Value.string) := by
        rw [take_next (unhid HX), ← List.cons_append]
        simpa using hown
      have HB3 := hid (grown_belowN (unhid HB2) hg (unhid hlo))
      obtain ⟨oa2, oc2, hv, -⟩ := ownsRow_txts ho3
      have hk1 : (n :: (namesN ds).take (k + 1)).length = k + 1 + 1 := by rw [List.length_cons, List.length_take, namesN_len]; omega
      rw [hk1] at hv
      subst hv
      have HO3 := hid ho3
      clear hown hg hlo HC2 HB2 HO2 HSZ HKL ho3 hk1 c0
      go_wp2_with fail
      go_roundw
      case rel => exact ⟨k + 1, oa2, oc2, by omega, by go_num, rfl, HO3, HB3⟩
      case measure => simp [intOf]; omega
    · have e : k = ds.length := by omega
      subst e
      have ho := unhid HO
      rw [List.take_of_length_le (by rw [namesN_len]; exact Nat.le_refl _)] at ho
      have hl2 : (n :: namesN ds).length = ds.length + 1 := by rw [List.length_cons, namesN_len]
      rw [hl2] at ho
      obtain ⟨a2, c2, e1, hat, -, -⟩ := ownsRow_txts (xs := n :: namesN ds) (by rw [hl2]; exact ho)
      rw [hl2] at e1
      injection e1 with e2 _ e3
      subst e2 e3
      have HAT := hid hat
      have HL2 := hid hl2
      clear ho hat HO hl2
      go_wp2_with fail
      refine (l4Needs_any ds _ _ (unhid HSM) ((unhid HR).below (unhid HB))).mono ?_
      rintro x w2 ⟨rfl, hb⟩
      have HB2 := hid ((unhid HB).trans (hb.mono (unhid HB).size))
      have HT := hid ((l4Twice_any (n :: namesN ds) oa oc w2 (by have := unhid HL2; unfold maxLen; omega) ((unhid HAT).below hb)))
      rw [unhid HL2] at HT
      clear hb HAT
      cases hq : (ds.all needOkD && decide (ds.length ≤ 6)) with
      | false =>
        go_wp2_with fail
        go_ret
        exact ⟨by rw [hq]; rfl, unhid HB2⟩
      | true =>
        go_wp2_with fail
        refine (unhid HT).mono ?_
        rintro x w3 ⟨rfl, hb⟩
        have HB3 := hid ((unhid HB2).trans (hb.mono (unhid HB2).size))
        clear hb HT
        go_wp2_with fail
        go_ret
        exact ⟨by rw [hq]; rfl, unhid HB3⟩
set_option maxRecDepth 100000 in
set_option maxHeartbeats 4000000 in
theorem listOkNeed_any (ds : List needC.D) (v : Value) (w : World) (hs : smallN ds) (h : rowAt needC w v ds) :
    Calls Tryz.prog 116 #[v, .int .i64 6, .func (.func 117) #[] #[]] w fun x w' => x = .returned (.bool (ds.all needOkD && decide (ds.length ≤ 6))) ∧ Below w.heap.size w w' := by
  obtain ⟨a, cap, rfl, -, -, h⟩ := h
  obtain ⟨hlen, hz⟩ := hs
  have HZ := hid hz
  have H := hid h
  clear hz h
  by_cases h6 : ds.length ≤ 6
  · have h6' : decide (ds.length ≤ 6) = true := decide_eq_true h6
    go_enter Tryz.func116, Tryz.ntmps116
    go_wp2_with fail
    go_loopw [15] (fun i wr => ∃ k : Nat, k ≤ ds.length ∧ i = .int .i64 (k : Int) ∧ Hid ((ds.take k).all needOkD = true) ∧ Hid (Below w.heap.size w wr)) (fun i _ => ds.length - (intOf i).toNat)
    case atStart => exact ⟨0, Nat.zero_le _, rfl, hid (by simp), hid (Below.refl _ _)⟩
    case round =>
      obtain ⟨k, hk, rfl, HA, HB⟩ := hrel
      by_cases hlt : k < ds.length
      · obtain ⟨e, he⟩ : ∃ e, ds[k]? = some e := ⟨ds[k], List.getElem?_eq_getElem hlt⟩
        obtain ⟨b, o, rfl, hbl, hc⟩ := (unhid H).resolve_left (by intro e; subst e; simp at hlt)
        obtain ⟨c0, c1, c2⟩ := need_cells (unhid HB) hbl hc he
        have HS := hid (unhid HZ e (List.mem_of_getElem? he))
        have HE := hid he
        have HBA := hid (show ∀ x, Below w.heap.size w (wr.alloc x) from fun x => (unhid HB).alloc (unhid HB).size x)
        clear hc he hbl HB
        go_wp2_with fail
        refine (NeedOk_any (NeedD.name e) (NeedD.version e) (NeedD.kind e) (le_maxLen (unhid HS).1) (le_maxLen (unhid HS).2) _).mono ?_
        rintro x w2 ⟨rfl, hb⟩
        have HB2 := hid ((unhid HBA _).trans (hb.mono (unhid HBA _).size))
        clear hb c0 c1 c2 HBA
        cases hq : needB (NeedD.name e).data.toList (NeedD.kind e) (NeedD.version e).data.toList with
        | false =>
          go_wp2_with fail
          go_ret
          exact ⟨by rw [all_no (unhid HE) hq]; rfl, unhid HB2⟩
        | true =>
          have HQ := hid hq
          clear hq
          go_wp2_with fail
          go_roundw
          case rel => exact ⟨k + 1, by omega, by go_num, hid (all_take_next (unhid HE) (unhid HA) (unhid HQ)), HB2⟩
          case measure => simp [intOf]; omega
      · have e : k = ds.length := by omega
        subst e
        go_wp2_with fail
        go_ret
        refine ⟨?_, unhid HB⟩
        have := unhid HA
        rw [List.take_of_length_le (Nat.le_refl _)] at this
        rw [this, h6']
        rfl
  · have h6' : decide (ds.length ≤ 6) = false := decide_eq_false h6
    go_enter Tryz.func116, Tryz.ntmps116
    go_wp2_with fail
    go_ret
    exact ⟨by rw [h6', Bool.and_false]; rfl, Below.refl _ _⟩
end Go.Proofs.YtoihhlkidlapmaaGreat

namespace Go.Proofs.YtoihhlkidlapmaaGreat
open Go.RowKit Go.Shelf
structure EntryD where
  path : ByteArray
  kind : Int
  mode : Int
  text : ByteArray
def entryC : CK := isoC (pairC txtC (pairC intC (pairC intC txtC))) EntryD (fun d => (d.path, (d.kind, (d.mode, d.text)))) (fun p => ⟨p.1, p.2.1, p.2.2.1, p.2.2.2⟩)
theorem entryC_at {W : World} {cs : List Value} {d : EntryD} (h : entryC.at_ W cs d) : cs = [.string d.path, .int .i64 d.kind, .int .i64 d.mode, .string d.text] := by
  obtain ⟨c0, e0, rfl, rfl, ⟨c1, e1, rfl, rfl, ⟨c2, e2, rfl, rfl, rfl⟩⟩⟩ := h
  exact rfl
def entryC_is (_W : World) (cs : List Value) (d : EntryD) (F : List Nat) : Prop := cs = [.string d.path, .int .i64 d.kind, .int .i64 d.mode, .string d.text] ∧ F = []
theorem entryC_own {W : World} {cs : List Value} {d : EntryD} {F : List Nat} (h : entryC.own W cs d F) : entryC_is W cs d F := by
  obtain ⟨c0, e0, F0, G0, rfl, rfl, ⟨rfl, rfl⟩, ⟨c1, e1, F1, G1, rfl, rfl, ⟨rfl, rfl⟩, ⟨c2, e2, F2, G2, rfl, rfl, ⟨rfl, rfl⟩, ⟨rfl, rfl⟩, a2⟩, a1⟩, a0⟩ := h
  exact ⟨rfl, rfl⟩
theorem entryC_mk {W : World} {cs : List Value} {d : EntryD} {F : List Nat} (h : entryC_is W cs d F) : entryC.own W cs d F := by
  obtain ⟨rfl, rfl⟩ := h
  exact ⟨[_], _, [], [], rfl, by simp, ⟨rfl, rfl⟩, ⟨[_], _, [], [], rfl, by simp, ⟨rfl, rfl⟩, ⟨[_], _, [], [], rfl, by simp, ⟨rfl, rfl⟩, ⟨rfl, rfl⟩, fun k hk => by cases hk⟩, fun k hk => by cases hk⟩, fun k hk => by cases hk⟩
theorem vinfoEntry : (Tryz.prog.info? 57).map (fun i => (i.zero, i.size, i.bytes)) = some (some (.agg #[.string ⟨#[]⟩, .int .i64 0, .int .i64 0, .string ⟨#[]⟩]), 4, 48) := by kernel_rfl
end Go.Proofs.YtoihhlkidlapmaaGreat

namespace Go.Proofs.YtoihhlkidlapmaaGreat
open Go.RowKit Go.Shelf
def nameOkB (l : List UInt8) : Bool := !l.isEmpty && decide (l.length ≤ 10) && !(l == [46]) && !(l == [46, 46]) && l.all fun c => nameB c.toNat
theorem eg239 : ∀ args w, (callFunc 239 args).run Tryz.prog w = .ok (.enter 239 args) w := enters_of Tryz.func239 (by kernel_rfl) rfl
set_option maxRecDepth 100000 in
set_option maxHeartbeats 1000000 in
theorem nameOk_any (s : ByteArray) (hs : s.size ≤ maxLen) (w : World) :
    Calls Tryz.prog 180 #[.string s] w fun e w' => e = .returned (.bool (nameOkB s.data.toList)) ∧ Below w.heap.size w w' := by
  go_enter Tryz.func180, Tryz.ntmps180
  go_wp2_with (go_at_call 182; refine (allBytes_any 239 nameB eg239 isNameByte_any _ hs _).mono ?_; rintro e w' ⟨rfl, hb⟩)
  all_goals
    simp only [Lib.toList_data] at *
    go_ret
    refine ⟨?_, ?_⟩
    · have hl : s.data.toList.length = s.size := (Lib.size_eq s).symm
      have hd : decide (s.data.toList.length ≤ 10) = decide ((s.size : Int) ≤ 10) := by rw [hl]; simp; omega
      unfold nameOkB
      rw [hd]
      clear hd hl
      simp_all <;> (intro h; exfalso; omega)
    · first | exact Below.refl _ _ | assumption
end Go.Proofs.YtoihhlkidlapmaaGreat

namespace Go.Proofs.YtoihhlkidlapmaaGreat
open Go.RowKit Go.Shelf
attribute [local go_sem] Oper.semAt_some
def pathB (l : List UInt8) : Bool := decide ((cutB 47 l).length ≤ 5) && (cutB 47 l).all nameOkB
set_option maxRecDepth 100000 in
set_option maxHeartbeats 4000000 in
theorem PathOk_any (s : ByteArray) (hs : s.size ≤ maxLen) (w : World) :
    Calls Tryz.prog 110 #[.string s] w fun e W' => e = .returned (.bool (pathB s.data.toList)) ∧ Below w.heap.size w W' := by
  refine (callsIn_wide (n := 3)).1 ?_
  refine callsIn_of_wp_marks Tryz.func110 rfl trivial ?_ rfl
  simp only [Tryz.ntmps110, List.size_toArray, List.length_cons, List.length_nil, Nat.reduceAdd, Nat.reduceSub, Array.replicate_succ, Array.replicate_zero, List.push_toArray, List.append_toArray, List.nil_append, List.cons_append]
  gi_wp2_with (refine ⟨trivial, ?_⟩; gi_at_call 102; refine (partsOf_in Fence.wide _ trivial rfl _ _ _).mono ?_; rintro e w' ⟨rfl, rfl⟩)
  have c0 := cell_new_l w (.bool false) 4
  have c1 := cell_new_l (w.alloc (.cells #[.bool false] 4)) (.int .i64 0) 3
  have c2 := cell_new_l ((w.alloc (.cells #[.bool false] 4)).alloc (.cells #[.int .i64 0] 3)) (.string s) 9
  have c3 := cell_new_l (((w.alloc (.cells #[.bool false] 4)).alloc (.cells #[.int .i64 0] 3)).alloc (.cells #[.string s] 9)) (.int .u8 47) 5
  simp only [World.size_alloc] at c1 c2 c3
  have hB0 : Below w.heap.size w ((((w.alloc (.cells #[.bool false] 4)).alloc (.cells #[.int .i64 0] 3)).alloc (.cells #[.string s] 9)).alloc (.cells #[.int .u8 47] 5)) := ((((Below.refl _ w).alloc (Nat.le_refl _) _).alloc (by simp) _).alloc (by simp; omega) _).alloc (by simp; omega) _
  refine wpIn_rangeFunc_ownF rfl (by omega) (gf := 169) (lb := #[.pointer (some ⟨w.heap.size + 1 + 1, 0, none⟩), .pointer (some ⟨w.heap.size + 1 + 1 + 1, 0, none⟩)]) rfl trivial (enters_of Tryz.func169 (by kernel_rfl) rfl)
    (parts_stops Fence.wide _ trivial trivial rfl (by omega) (fun s c w => callsIn_wide.2 (IndexByteU_any s c w)) (w.heap.size + 1 + 1) (w.heap.size + 1 + 1 + 1) s 47 hs _ (by simp) (by simp) (cell_alloc_l _ c2.1) c3.1) Keeps.t (Keeps.b) (Below.refl _ _) (fun _ => rfl)
    (fun pre W => (((vals pre).all nameOkB = true ∧ pre.length ≤ 5) ∧ W.cell? ⟨w.heap.size + 1, 0, none⟩ = some (.int .i64 pre.length) ∧ W.frozen? ⟨w.heap.size + 1, 0, none⟩ = false ∧ W.cell? ⟨w.heap.size, 0, none⟩ = some (.bool false) ∧ W.frozen? ⟨w.heap.size, 0, none⟩ = false) ∧ Below w.heap.size w W)
    (fun c pre W => (c = .ret ∧ (5 < pre.length ∨ ∃ y ∈ vals pre, nameOkB y = false) ∧ W.cell? ⟨w.heap.size, 0, none⟩ = some (.bool false)) ∧ Below w.heap.size w W)
    (OwnFrom.and (Own.from (fun s A B row hs hg hr => ⟨hs.1, cell_kept hs.2.1 hg hr, (frozen_kept hs.2.1 hg hr).trans hs.2.2.1, cell_kept hs.2.2.2.1 hg hr, (frozen_kept hs.2.2.2.1 hg hr).trans hs.2.2.2.2⟩) _) (ownFrom_below (Nat.le_refl _) (by simp; omega)))
    (fun c => OwnFrom.and (Own.from (fun s A B row hs hg hr => ⟨hs.1, hs.2.1, cell_kept hs.2.2 hg hr⟩) _) (ownFrom_below (Nat.le_refl _) (by simp; omega)))
    ⟨⟨by simp, cell_alloc_l _ (cell_alloc_l _ c1.1), frozen_alloc_l _ (cell_alloc_l _ c1.1) (frozen_alloc_l _ c1.1 c1.2), cell_alloc_l _ (cell_alloc_l _ (cell_alloc_l _ c0.1)), frozen_alloc_l _ (cell_alloc_l _ (cell_alloc_l _ c0.1)) (frozen_alloc_l _ (cell_alloc_l _ c0.1) (frozen_alloc_l _ c0.1 c0.2))⟩, hB0⟩
    (fun x => { tmps := #[.string s, undef, .pointer (some ⟨w.heap.size, 0, none⟩), .pointer (some ⟨w.heap.size + 1, 0, none⟩), .string x.1, .string s, .func (.func 169) #[] #[.pointer (some ⟨w.heap.size + 1 + 1, 0, none⟩), .pointer (some ⟨w.heap.size + 1 + 1 + 1, 0, none⟩)], .string x.1, undef, undef, undef, undef, undef, undef, undef, undef, undef], defers := [] }) ?assign ?body ?done ?stop
  case assign =>
    intro l x W K hK
    gi_wp2
    exact hK
  case body =>
    rintro l pre x W ⟨⟨⟨hp, hl5⟩, hcn, hfn, hcr, hfr⟩, hB⟩ _
    have hz : w.heap.size + 1 < W.heap.size := below_lt hcn
    have hB2 : Below w.heap.size w (W.setCell ⟨w.heap.size + 1, 0, none⟩ (.int .i64 (pre.length + 1))) := hB.setCell (p := ⟨w.heap.size + 1, 0, none⟩) (by simp) _
    have hcn2 : (W.setCell ⟨w.heap.size + 1, 0, none⟩ (.int .i64 (pre.length + 1))).cell? ⟨w.heap.size + 1, 0, none⟩ = some (.int .i64 (pre.length + 1)) := set_same hcn
    have hfn2 : (W.setCell ⟨w.heap.size + 1, 0, none⟩ (.int .i64 (pre.length + 1))).frozen? ⟨w.heap.size + 1, 0, none⟩ = false := by rw [World.frozen?_setCell]; exact hfn
    have hcr2 : (W.setCell ⟨w.heap.size + 1, 0, none⟩ (.int .i64 (pre.length + 1))).cell? ⟨w.heap.size, 0, none⟩ = some (.bool false) := (set_far W _ _ _ (by simp)).trans hcr
    have hfr2 : (W.setCell ⟨w.heap.size + 1, 0, none⟩ (.int .i64 (pre.length + 1))).frozen? ⟨w.heap.size, 0, none⟩ = false := by rw [World.frozen?_setCell]; exact hfr
    have hK2 : Keeps [w.heap.size + 1 + 1, w.heap.size + 1 + 1 + 1] W (W.setCell ⟨w.heap.size + 1, 0, none⟩ (.int .i64 (pre.length + 1))) := Keeps.setCell W _ _ (by simp)
    have hO2 : KeepsOthers W (W.setCell ⟨w.heap.size + 1, 0, none⟩ (.int .i64 (pre.length + 1))) := KeepsOthers.setCell _ _ _
    have hz2 : (W.setCell ⟨w.heap.size + 1, 0, none⟩ (.int .i64 (pre.length + 1))).heap.size = W.heap.size := by simp
    by_cases h5 : 5 < (pre.length : Int) + 1
    · gi_wp2
      refine ⟨trivial, ?_⟩
      gi_wp2
      exact ⟨hO2.trans (KeepsOthers.setCell _ _ _), ⟨rfl, .inl (by simp; omega), set_same hcr2⟩, hB2.setCell (p := ⟨w.heap.size, 0, none⟩) (by simp) _⟩
    · have hk1 : ∀ w1 : World, Below (W.setCell ⟨w.heap.size + 1, 0, none⟩ (.int .i64 (pre.length + 1))).heap.size (W.setCell ⟨w.heap.size + 1, 0, none⟩ (.int .i64 (pre.length + 1))) w1 →
          w1.cell? ⟨w.heap.size + 1, 0, none⟩ = some (.int .i64 (pre.length + 1)) ∧ w1.frozen? ⟨w.heap.size + 1, 0, none⟩ = false ∧ w1.cell? ⟨w.heap.size, 0, none⟩ = some (.bool false) ∧ w1.frozen? ⟨w.heap.size, 0, none⟩ = false ∧
          Below w.heap.size w w1 ∧ KeepsOthers W w1 ∧ Keeps [w.heap.size + 1 + 1, w.heap.size + 1 + 1 + 1] W w1 := fun w1 hb => by
        have e1 : w.heap.size + 1 < (W.setCell ⟨w.heap.size + 1, 0, none⟩ (.int .i64 (pre.length + 1))).heap.size := by rw [hz2]; exact hz
        have e0 : w.heap.size < (W.setCell ⟨w.heap.size + 1, 0, none⟩ (.int .i64 (pre.length + 1))).heap.size := by omega
        refine ⟨(hb.cell e1).trans hcn2, (hb.frozen e1).trans hfn2, (hb.cell e0).trans hcr2, (hb.frozen e0).trans hfr2, hB2.trans (hb.mono (by omega)), hO2.trans (KeepsOthers_of_below hb), hK2.t fun b _ v hv => ?_⟩
        exact (hb.cell (p := ⟨b, 0, none⟩) (below_lt hv)).trans hv
      have Hk1 := hid hk1
      have HB2 := hid hcr2
      clear hk1 hB2 hcn2 hfn2 hcr2 hfr2 hK2 hO2 hz2
      cases hx : nameOkB x.1.data.toList
      · gi_wp2
        refine ⟨trivial, (CallsIn.inRound l (callsIn_wide.2 (nameOk_any _ x.2 _))).mono ?_⟩
        rintro e w1 ⟨rfl, hb⟩
        obtain ⟨f1, f2, f3, f4, f5, f6, f7⟩ := unhid Hk1 w1 hb
        clear hb
        gi_wp2
        exact ⟨f6.trans (KeepsOthers.setCell _ _ _), ⟨rfl, .inr ⟨_, by rw [vals_snoc]; simp, hx⟩, set_same f3⟩, f5.setCell (p := ⟨w.heap.size, 0, none⟩) (by simp) _⟩
      · gi_wp2
        refine ⟨trivial, (CallsIn.inRound l (callsIn_wide.2 (nameOk_any _ x.2 _))).mono ?_⟩
        rintro e w1 ⟨rfl, hb⟩
        obtain ⟨f1, f2, f3, f4, f5, f6, f7⟩ := unhid Hk1 w1 hb
        clear hb
        gi_wp2
        exact ⟨f6, f7, ⟨⟨by rw [vals_snoc, List.all_append, hp]; simp [hx], by simp; omega⟩, by rw [f1]; simp, f2, f3, f4⟩, f5⟩
  case done =>
    rintro D ys W hD hys ⟨⟨⟨hp, hl5⟩, _, _, hcr, hfr⟩, hB⟩ hK
    gi_wp2
    have hK' := (KeepsOthers.setCell W ⟨w.heap.size, 0, none⟩ (.bool true)).same D _ hK rfl
    refine ⟨by simp, .inl ⟨_, _, rfl, run_takeDeferred hK', ?_⟩⟩
    have hc5 := cell_kept (World.cell?_setCell_same' W ⟨w.heap.size, 0, none⟩ (.bool true) (by rw [hcr]; rfl)) (grownBy_putObj' _ D (.deferred none)) (fun r e => by cases e; exact ⟨_, hK', rfl⟩)
    refine ⟨.bool true, ?_, ?_, (hB.setCell (p := ⟨w.heap.size, 0, none⟩) (by simp) _).trans (belowK_b (w := w) (Nat.le_refl _) _ D _ _ (by simp at hD; omega) hK' rfl rfl)⟩
    · simp [results, Tryz.f110, go_sem, hc5]
    · rw [pathB, ← hys, hp]; simp [vals]; exact hl5
  case stop =>
    rintro D c pre W hD hpre ⟨⟨rfl, hbad, hcr⟩, hB⟩ hK
    gi_wp2
    refine ⟨by simp, .inl ⟨_, _, rfl, run_takeDeferred hK, ?_⟩⟩
    have hc5 := cell_kept hcr (grownBy_putObj' _ D (.deferred none)) (fun r e => by cases e; exact ⟨_, hK, rfl⟩)
    refine ⟨.bool false, ?_, ?_, hB.trans (belowK_b (w := w) (Nat.le_refl _) W D _ _ (by simp at hD; omega) hK rfl rfl)⟩
    · simp [results, Tryz.f110, go_sem, hc5]
    · have hl := hpre.length_le
      have : pathB s.data.toList = false := by
        unfold pathB
        rcases hbad with h | ⟨y, hy, hn⟩
        · rw [decide_eq_false (by simp [vals] at hl; omega)]; rfl
        · rw [List.all_eq_false.2 ⟨y, hpre.subset hy, by simp [hn]⟩]; simp
      rw [this]
end Go.Proofs.YtoihhlkidlapmaaGreat

namespace Go.Proofs.YtoihhlkidlapmaaGreat
open Go.RowKit Go.Shelf
theorem nameOk_len (s : ByteArray) : nameOkB s.data.toList = ((decide ((1 : Int) ≤ s.size) && decide ((s.size : Int) ≤ 10)) && !(s.data.toList == [46]) && !(s.data.toList == [46, 46]) && s.data.toList.all fun c => nameB c.toNat) := by
  have h : (!s.data.toList.isEmpty && decide (s.data.toList.length ≤ 10)) = (decide ((1 : Int) ≤ s.size) && decide ((s.size : Int) ≤ 10)) := by
    have hl : s.size = s.data.toList.length := Lib.size_eq s
    rw [hl]
    cases s.data.toList with
    | nil => simp
    | cons a l => rw [Bool.eq_iff_iff]; simp; omega
  unfold nameOkB
  rw [h]
set_option maxRecDepth 100000 in
set_option maxHeartbeats 1000000 in
theorem l1Name_any (s : ByteArray) (hs : s.size ≤ maxLen) (w : World) :
    Calls Tryz.prog 237 #[.string s] w fun e w' => e = .returned (.bool (nameOkB s.data.toList)) ∧ w' = w := by
  unfold maxLen at hs
  go_enter Tryz.func237, Tryz.ntmps237
  go_wp2
  go_loop [3] (fun i => ∃ k : Nat, k ≤ s.size ∧ i = .int .i64 k ∧ Hid ((s.data.toList.take k).all (fun c => nameB c.toNat) = true)) (fun i => s.size - (intOf i).toNat)
  case atStart => exact ⟨0, Nat.zero_le _, rfl, hid (by simp)⟩
  case round =>
    obtain ⟨k, hk, rfl, hall⟩ := hrel
    by_cases hlt : k < s.size
    · have hstep := hid (all_take_succ s k hlt (fun c => nameB c.toNat))
      cases hb : nameB ((s[k]).toNat : Int)
      · go_wp2_with (go_at_call 273; refine (l1Small_any _ _).mono ?_; rintro e w' ⟨rfl, rfl⟩)
        go_ret
        refine ⟨?_, rfl⟩
        have : (s.data.toList.all fun c => nameB c.toNat) = false := List.all_eq_false.2 ⟨s[k], by have := getByte s k hlt; exact List.mem_of_getElem? this, by simp [hb]⟩
        unfold nameOkB
        rw [this]; simp
      · go_wp2_with (go_at_call 273; refine (l1Small_any _ _).mono ?_; rintro e w' ⟨rfl, rfl⟩)
        go_round
        case rel => exact ⟨k + 1, by omega, by go_num, hid (by rw [unhid hstep, unhid hall, hb]; rfl)⟩
        case measure => simp [intOf]; omega
    · have hall' := hid (show (s.data.toList.all fun c => nameB c.toNat) = true by
        have := unhid hall; rwa [List.take_of_length_le (by simp; omega)] at this)
      have hl : s.data.toList.length = s.size := (Lib.size_eq s).symm
      have Hl := hid hl
      clear hl
      go_wp2_with (go_at_call 178; refine (l1In_any _ _ _ _).mono ?_; rintro e w' ⟨rfl, rfl⟩)
      all_goals
        try simp only [Lib.toList_data] at *
        go_ret
        refine ⟨?_, rfl⟩
        rw [nameOk_len s, unhid hall']
        simp_all <;> (intros; exfalso; omega)
set_option maxRecDepth 100000 in
set_option maxHeartbeats 1000000 in
theorem l1Path_any (s : ByteArray) (hs : s.size ≤ 1048576) (w : World) :
    Calls Tryz.prog 174 #[.string s] w fun e w' => e = .returned (.bool (pathB s.data.toList)) ∧ Below w.heap.size w w' := by
  go_enter Tryz.func174, Tryz.ntmps174
  go_wp2_with fail
  refine (l1Cut_any s 47 _ hs (by omega) (by omega) _).mono ?_
  rintro e w1 ⟨v, xs, rfl, hxs, hown, hB⟩
  have hne : xs ≠ [] := by
    intro h; subst h; exact cutB_ne _ _ hxs.symm
  obtain ⟨n, hn⟩ : ∃ n, xs.length = n + 1 := ⟨xs.length - 1, by have := List.length_pos_iff.2 hne; omega⟩
  rw [hn] at hown
  obtain ⟨g, cap, rfl⟩ := ownsRow_succ hown
  have hcell : ∀ (k : Nat) x, xs[k]? = some x → w1.cell? ⟨g, k, none⟩ = some (.string x) := fun k x hx => by
    have hk : k < xs.length := (List.getElem?_eq_some_iff.1 hx).1
    rw [hown.cellAt k (by omega), List.getElem?_map, hx]; rfl
  have hlen : ∀ x ∈ xs, x.size ≤ maxLen := fun x hx => by
    have h1 : x.data.toList ∈ cutB 47 s.data.toList := by rw [← hxs]; exact List.mem_map.2 ⟨x, hx, rfl⟩
    have h2 := cutB_le 47 _ _ h1
    rw [← Lib.size_eq, ← Lib.size_eq] at h2
    unfold maxLen; omega
  have Hcell := hid hcell
  have Hlen := hid hlen
  have Hxs := hid hxs
  have Hn := hid hn
  have hns : n ≤ 1048576 := by
    have := cutB_length 47 s.data.toList
    rw [← hxs, ← Lib.size_eq] at this
    simp [datas] at this
    omega
  clear hown hcell hlen hxs hn
  go_wp2_with fail
  go_loop [4] (fun i => ∃ k : Nat, k ≤ n + 1 ∧ i = .int .i64 k ∧ Hid (((datas xs).take k).all nameOkB = true)) (fun i => n + 1 - (intOf i).toNat)
  case atStart => exact ⟨0, Nat.zero_le _, rfl, hid (by simp)⟩
  case round =>
    obtain ⟨k, hk, rfl, hall⟩ := hrel
    by_cases hlt : k < n + 1
    · obtain ⟨x, hx⟩ : ∃ x, xs[k]? = some x := ⟨xs[k]'(by rw [unhid Hn]; exact hlt), List.getElem?_eq_getElem _⟩
      have hck := unhid Hcell k x hx
      have hlk := unhid Hlen x (List.mem_of_getElem? hx)
      have Hx := hid hx
      clear hx
      cases hb : nameOkB x.data.toList
      · go_wp2_with (go_at_call 237; refine (l1Name_any _ hlk _).mono ?_; rintro e w' ⟨rfl, rfl⟩)
        go_ret
        refine ⟨?_, hB⟩
        have hf : pathB s.data.toList = false := by
          unfold pathB
          rw [← unhid Hxs, List.all_eq_false.2 ⟨x.data.toList, List.mem_map.2 ⟨x, List.mem_of_getElem? (unhid Hx), rfl⟩, by simp [hb]⟩]; simp
        rw [hf]; rfl
      · go_wp2_with (go_at_call 237; refine (l1Name_any _ hlk _).mono ?_; rintro e w' ⟨rfl, rfl⟩)
        refine ⟨⟨k + 1, by omega, by go_num, hid ?_⟩, by simp [intOf]; omega⟩
        rw [List.take_add_one, List.getElem?_map, unhid Hx, List.all_append, unhid hall]
        simp [hb]
    · go_wp2
      go_ret
      refine ⟨?_, hB⟩
      have hl : (datas xs).length = n + 1 := by rw [← unhid Hn]; simp [datas]
      have hall' : (datas xs).all nameOkB = true := by have := unhid hall; rwa [List.take_of_length_le (by omega)] at this
      have hf : pathB s.data.toList = decide ((n : Int) + 1 ≤ 5) := by
        unfold pathB
        rw [← unhid Hxs, hall', hl, Bool.and_true]
        simp; omega
      rw [hf]; rfl
end Go.Proofs.YtoihhlkidlapmaaGreat

namespace Go.Proofs.YtoihhlkidlapmaaGreat
open Go.RowKit Go.Shelf
def lastIx (b : UInt8) : List UInt8 → Int
  | [] => -1
  | c :: l => if 0 ≤ lastIx b l then lastIx b l + 1 else if c == b then 0 else -1
theorem lastIx_ge (b : UInt8) : ∀ l, -1 ≤ lastIx b l
  | [] => by simp [lastIx]
  | c :: l => by have := lastIx_ge b l; unfold lastIx; split <;> (try split) <;> omega
theorem lastIx_lt (b : UInt8) : ∀ l, lastIx b l < l.length
  | [] => by simp [lastIx]
  | c :: l => by have := lastIx_lt b l; unfold lastIx; split <;> (try split) <;> simp <;> omega
theorem lastIx_no (b : UInt8) : ∀ l : List UInt8, (∀ j : Nat, l[j]? ≠ some b) → lastIx b l = -1
  | [], _ => rfl
  | c :: l, h => by
    have ih := lastIx_no b l (fun j => by have := h (j + 1); simpa using this)
    have hc : (c == b) = false := by have := h 0; simpa using this
    simp [lastIx, ih, hc]
theorem lastIx_at (b : UInt8) : ∀ (l : List UInt8) (i : Nat), l[i]? = some b → (∀ j : Nat, i < j → l[j]? ≠ some b) → lastIx b l = i
  | [], i, h, _ => by simp at h
  | c :: l, 0, h, hn => by
    have ih := lastIx_no b l (fun j => by have := hn (j + 1) (by omega); simpa using this)
    simp at h
    simp [lastIx, ih, h]
  | c :: l, i + 1, h, hn => by
    have ih := lastIx_at b l i (by simpa using h) (fun j hj => by have := hn (j + 1) (by omega); simpa using this)
    simp [lastIx, ih]
theorem ba_ext {x y : ByteArray} (h : x.data.toList = y.data.toList) : x = y := by
  obtain ⟨⟨l⟩⟩ := x; obtain ⟨⟨m⟩⟩ := y; simp at h; subst h; rfl
def upS (s : ByteArray) : ByteArray := if lastIx 47 s.data.toList < 0 then ⟨#[]⟩ else s.extract 0 (lastIx 47 s.data.toList).toNat
set_option maxRecDepth 100000 in
set_option maxHeartbeats 1000000 in
theorem baLastIndexByte_any (s : ByteArray) (b : UInt8) (hs : s.size ≤ maxLen) (w : World) :
    Calls Tryz.prog 267 #[.string s, .int .u8 b.toNat] w fun e w' => e = .returned (.int .i64 (lastIx b s.data.toList)) ∧ w' = w := by
  unfold maxLen at hs
  go_enter Tryz.func267, Tryz.ntmps267
  go_wp2
  go_loop [5] (fun i => ∃ k : Nat, k ≤ s.size ∧ i = .int .i64 ((k : Int) - 1) ∧ Hid (∀ j : Nat, k ≤ j → s.data.toList[j]? ≠ some b)) (fun i => (intOf i + 1).toNat)
  case atStart => exact ⟨s.size, Nat.le_refl _, rfl, hid (fun j hj => by rw [List.getElem?_eq_none (by simp; omega)]; simp)⟩
  case round =>
    obtain ⟨k, hk, rfl, hno⟩ := hrel
    cases k with
    | zero =>
      go_wp2
      go_ret
      exact ⟨by rw [lastIx_no b _ (fun j => unhid hno j (by omega))]; rfl, rfl⟩
    | succ k =>
      by_cases hb : s[k] = b
      · have hb' : (((s[k]).toNat : Int) == (b.toNat : Int)) = true := by simp [hb]
        go_wp2
        go_ret
        exact ⟨by rw [lastIx_at b _ k (by rw [getByte s k (by omega), hb]) (fun j hj => unhid hno j (by omega))]; rfl, rfl⟩
      · have hb' : (((s[k]).toNat : Int) == (b.toNat : Int)) = false := by
          rw [beq_eq_false_iff_ne]; intro h; exact hb (UInt8.toNat_inj.1 (by omega))
        go_wp2
        refine ⟨⟨k, by omega, rfl, hid (fun j hj => ?_)⟩, by simp [intOf]⟩
        by_cases hj' : j = k
        · subst hj'; rw [getByte s j (by omega)]; simpa using hb
        · exact unhid hno j (by omega)
set_option maxHeartbeats 1000000 in
theorem LastIndexByte_any (s : ByteArray) (b : UInt8) (hs : s.size ≤ maxLen) (w : World) :
    Calls Tryz.prog 233 #[.string s, .int .u8 b.toNat] w fun e w' => e = .returned (.int .i64 (lastIx b s.data.toList)) ∧ w' = w := by
  go_enter Tryz.func233, Tryz.ntmps233
  go_wp2_with (go_at_call 267; refine (baLastIndexByte_any _ _ hs _).mono ?_; rintro e w' ⟨rfl, rfl⟩)
  go_ret
  exact ⟨rfl, rfl⟩
set_option maxRecDepth 100000 in
set_option maxHeartbeats 1000000 in
theorem l1Up_any (s : ByteArray) (hs : s.size ≤ maxLen) (w : World) :
    Calls Tryz.prog 109 #[.string s] w fun e w' => e = .returned (.string (upS s)) ∧ w' = w := by
  unfold maxLen at hs
  go_enter Tryz.func109, Tryz.ntmps109
  go_wp2
  go_loop [3] (fun i => ∃ k : Nat, k ≤ s.size ∧ i = .int .i64 ((k : Int) - 1) ∧ Hid (∀ j : Nat, k ≤ j → s.data.toList[j]? ≠ some 47)) (fun i => (intOf i + 1).toNat)
  case atStart => exact ⟨s.size, Nat.le_refl _, rfl, hid (fun j hj => by rw [List.getElem?_eq_none (by simp; omega)]; simp)⟩
  case round =>
    obtain ⟨k, hk, rfl, hno⟩ := hrel
    cases k with
    | zero =>
      go_wp2
      go_ret
      have e : upS s = ⟨#[]⟩ := by unfold upS; rw [lastIx_no 47 _ (fun j => unhid hno j (by omega))]; rfl
      exact ⟨by rw [e]; rfl, rfl⟩
    | succ k =>
      by_cases hb : s[k] = 47
      · have hb' : (((s[k]).toNat : Int) == 47) = true := by simp [hb]
        go_wp2
        go_ret
        have e : upS s = s.extract 0 k := by unfold upS; rw [lastIx_at 47 _ k (by rw [getByte s k (by omega), hb]) (fun j hj => unhid hno j (by omega)), if_neg (by omega)]; simp
        exact ⟨by rw [e]; rfl, rfl⟩
      · have hb' : (((s[k]).toNat : Int) == 47) = false := by
          rw [beq_eq_false_iff_ne]; intro h; exact hb (UInt8.toNat_inj.1 (by simp; omega))
        go_wp2
        refine ⟨⟨k, by omega, rfl, hid (fun j hj => ?_)⟩, by simp [intOf]⟩
        by_cases hj' : j = k
        · subst hj'; rw [getByte s j (by omega)]; simpa using hb
        · exact unhid hno j (by omega)
def pathUpS (s : ByteArray) : ByteArray := if pathB s.data.toList then upS s else ⟨#[]⟩
set_option maxHeartbeats 1000000 in
theorem PathUp_any (s : ByteArray) (hm : s.size ≤ maxLen) (w : World) :
    Calls Tryz.prog 171 #[.string s] w fun e w' => e = .returned (.string (pathUpS s)) ∧ Below w.heap.size w w' := by
  have hg := lastIx_ge 47 s.data.toList
  have hl := lastIx_lt 47 s.data.toList
  rw [← Lib.size_eq] at hl
  by_cases hi : lastIx 47 s.data.toList < 0
  · have e : pathUpS s = ⟨#[]⟩ := by simp [pathUpS, upS, hi]
    have E := hid e
    clear e
    go_enter Tryz.func171, Tryz.ntmps171
    go_wp2_with fail
    refine (LastIndexByte_any s 47 hm _).mono ?_
    rintro e w' ⟨rfl, rfl⟩
    go_wp2_with fail
    go_ret
    exact ⟨by rw [unhid E]; rfl, Below.refl _ _⟩
  · obtain ⟨i, ei⟩ : ∃ i : Nat, lastIx 47 s.data.toList = i := ⟨(lastIx 47 s.data.toList).toNat, by omega⟩
    have hm' : s.size ≤ 9223372036854775807 := hm
    cases hp : pathB s.data.toList
    · have E := hid (show pathUpS s = ⟨#[]⟩ by simp [pathUpS, hp])
      go_enter Tryz.func171, Tryz.ntmps171
      go_wp2_with fail
      refine (LastIndexByte_any s 47 hm _).mono ?_
      rintro e w' ⟨rfl, rfl⟩
      go_wp2_with (go_at_call 110; refine (PathOk_any _ hm _).mono ?_; rintro e w' ⟨rfl, hb⟩)
      go_ret
      exact ⟨by rw [unhid E]; rfl, hb⟩
    · have E := hid (show pathUpS s = s.extract 0 i by simp [pathUpS, upS, hp, ei]; omega)
      go_enter Tryz.func171, Tryz.ntmps171
      go_wp2_with fail
      refine (LastIndexByte_any s 47 hm _).mono ?_
      rintro e w' ⟨rfl, rfl⟩
      go_wp2_with (go_at_call 110; refine (PathOk_any _ hm _).mono ?_; rintro e w' ⟨rfl, hb⟩)
      go_ret
      exact ⟨by rw [unhid E]; rfl, hb⟩
end Go.Proofs.YtoihhlkidlapmaaGreat

namespace Go.Proofs.YtoihhlkidlapmaaGreat
open Go.RowKit Go.Shelf
structure Ent where
  path : ByteArray
  kind : Int
  mode : Int
  text : ByteArray
def Ent.vals (e : Ent) : Array Value := #[.string e.path, .int .i64 e.kind, .int .i64 e.mode, .string e.text]
def Ent.none : Ent := ⟨⟨#[]⟩, 0, 0, ⟨#[]⟩⟩
structure EntAt (W : World) (b o : Nat) (e : Ent) : Prop where
  c0 : W.cell? ⟨b, o, .none⟩ = some (.string e.path)
  c1 : W.cell? ⟨b, o + 1, .none⟩ = some (.int .i64 e.kind)
  c2 : W.cell? ⟨b, o + 2, .none⟩ = some (.int .i64 e.mode)
  c3 : W.cell? ⟨b, o + 3, .none⟩ = some (.string e.text)
theorem EntAt.below {W W' : World} {B b o : Nat} {e : Ent} (h : EntAt W b o e) (hb : Below B W W') (hl : b < B) : EntAt W' b o e :=
  ⟨(hb.cell (p := ⟨b, o, .none⟩) hl).trans h.c0, (hb.cell (p := ⟨b, o + 1, .none⟩) hl).trans h.c1, (hb.cell (p := ⟨b, o + 2, .none⟩) hl).trans h.c2, (hb.cell (p := ⟨b, o + 3, .none⟩) hl).trans h.c3⟩
def EntsAt (W : World) (a : Option Addr) (es : List Ent) : Prop := es = [] ∨ ∃ b o, a = some ⟨b, o, .none⟩ ∧ b < W.heap.size ∧ ∀ (i : Nat) e, es[i]? = some e → EntAt W b (o + i * 4) e
theorem EntsAt.below {W W' : World} {a : Option Addr} {es : List Ent} (h : EntsAt W a es) (hb : Below W.heap.size W W') : EntsAt W' a es := by
  rcases h with h | ⟨b, o, rfl, hl, hc⟩
  · exact .inl h
  · exact .inr ⟨b, o, rfl, Nat.lt_of_lt_of_le hl hb.size, fun i e hi => (hc i e hi).below hb hl⟩
theorem EntsAt.get {W : World} {a : Option Addr} {es : List Ent} (h : EntsAt W a es) (hne : es ≠ []) : ∃ b o, a = some ⟨b, o, .none⟩ ∧ b < W.heap.size ∧ ∀ (i : Nat) e, es[i]? = some e → EntAt W b (o + i * 4) e := h.resolve_left hne
def entFn (es : List Ent) (i : Nat) : Ent := es.getD i Ent.none
theorem entFn_get {es : List Ent} {i : Nat} {e : Ent} (h : es[i]? = some e) : entFn es i = e := by unfold entFn; rw [List.getD_eq_getElem?_getD, h]; rfl
end Go.Proofs.YtoihhlkidlapmaaGreat

namespace Go.Proofs.YtoihhlkidlapmaaGreat
open Go.RowKit Go.Shelf
theorem drewN_below {B : Nat} (w : World) (m : Nat) : Below B w (w.drewN m) := ⟨rfl, rfl, rfl, Nat.le_refl _, fun _ _ => rfl⟩
theorem drew_below {B : Nat} (w : World) : Below B w w.drew := ⟨rfl, rfl, rfl, Nat.le_refl _, fun _ _ => rfl⟩
end Go.Proofs.YtoihhlkidlapmaaGreat

namespace Go.Proofs.YtoihhlkidlapmaaGreat
open Go.RowKit Go.Shelf
def txtB (c : Int) : Bool := c == 10 || (decide (32 ≤ c) && decide (c ≤ 126))
def textB (l : List UInt8) : Bool := decide (l.length ≤ 80) && l.all fun c => txtB c.toNat
def modeB (m : Int) : Bool := decide (0 ≤ m) && decide (m ≤ 7)
def entB (e : Ent) : Bool := pathB e.path.data.toList && (if e.kind = 1 then modeB e.mode && e.text.data.toList.isEmpty else if e.kind = 2 then modeB e.mode && textB e.text.data.toList else e.kind == 3 && (e.mode == 0 && pathB e.text.data.toList))
set_option maxRecDepth 100000 in
set_option maxHeartbeats 1000000 in
theorem l2Text_any (s : ByteArray) (hs : s.size ≤ maxLen) (w : World) :
    Calls Tryz.prog 179 #[.string s] w fun e w' => e = .returned (.bool (textB s.data.toList)) ∧ w' = w := by
  unfold maxLen at hs
  go_enter Tryz.func179, Tryz.ntmps179
  go_wp2_with fail
  go_loop [3] (fun i => ∃ k : Nat, k ≤ s.size ∧ i = .int .i64 k ∧ Hid ((s.data.toList.take k).all (fun c => txtB c.toNat) = true)) (fun i => s.size - (intOf i).toNat)
  case atStart => exact ⟨0, Nat.zero_le _, rfl, hid (by simp)⟩
  case round =>
    obtain ⟨k, hk, rfl, hall⟩ := hrel
    by_cases hlt : k < s.size
    · have hstep := hid (all_take_succ s k hlt (fun c => txtB c.toNat))
      have h255 : ((s[k]).toNat : Int) ≤ 255 := by have := UInt8.toNat_lt s[k]; omega
      have h000 : (0 : Int) ≤ (s[k]).toNat := by omega
      cases h10 : (((s[k]).toNat : Int) == 10)
      · cases hb : (decide ((32 : Int) ≤ (s[k]).toNat) && decide (((s[k]).toNat : Int) ≤ 126))
        · have ht : txtB ((s[k]).toNat : Int) = false := by unfold txtB; rw [h10, hb]; rfl
          have h10' : (((s[k]).toNat : Int) != 10) = true := by simp [bne, h10]
          go_wp2_with (go_at_call 178; refine (l1In_any _ _ _ _).mono ?_; rintro e w' ⟨rfl, rfl⟩; rw [hb])
          go_ret
          refine ⟨?_, rfl⟩
          have : (s.data.toList.all fun c => txtB c.toNat) = false := List.all_eq_false.2 ⟨s[k], by have := getByte s k hlt; exact List.mem_of_getElem? this, by simp [ht]⟩
          unfold textB
          rw [this]; simp
        · have ht : txtB ((s[k]).toNat : Int) = true := by unfold txtB; rw [h10, hb]; rfl
          have h10' : (((s[k]).toNat : Int) != 10) = true := by simp [bne, h10]
          go_wp2_with (go_at_call 178; refine (l1In_any _ _ _ _).mono ?_; rintro e w' ⟨rfl, rfl⟩; rw [hb])
          go_round
          case rel => exact ⟨k + 1, by omega, by go_num, hid (by rw [unhid hstep, unhid hall, ht]; rfl)⟩
          case measure => simp [intOf]; omega
      · have ht : txtB ((s[k]).toNat : Int) = true := by unfold txtB; rw [h10]; rfl
        have h10' : (((s[k]).toNat : Int) != 10) = false := by simp [bne, h10]
        go_wp2_with (go_at_call 178; refine (l1In_any _ _ _ _).mono ?_; rintro e w' ⟨rfl, rfl⟩)
        go_round
        case rel => exact ⟨k + 1, by omega, by go_num, hid (by rw [unhid hstep, unhid hall, ht]; rfl)⟩
        case measure => simp [intOf]; omega
    · have E := hid (show textB s.data.toList = decide ((s.size : Int) ≤ 80) by
        have h1 : (s.data.toList.all fun c => txtB c.toNat) = true := by have := unhid hall; rwa [List.take_of_length_le (by simp; omega)] at this
        unfold textB
        rw [h1, Bool.and_true, ← Lib.size_eq]
        exact decide_eq_decide.2 (by omega))
      go_wp2_with fail
      go_ret
      exact ⟨by rw [unhid E]; rfl, rfl⟩
set_option maxRecDepth 100000 in
set_option maxHeartbeats 4000000 in
theorem l2Entry_any (e : Ent) (hp : e.path.size ≤ 1048576) (ht : e.text.size ≤ 1048576) (w : World) :
    Calls Tryz.prog 107 #[.agg e.vals] w fun x w' => x = .returned (.bool (entB e)) ∧ Below w.heap.size w w' := by
  obtain ⟨p, k, m, t⟩ := e
  unfold Ent.vals
  dsimp only at hp ht ⊢
  have tm : t.size ≤ maxLen := by unfold maxLen; omega
  have hE : entB ⟨p, k, m, t⟩ = (pathB p.data.toList && (if k = 1 then modeB m && t.data.toList.isEmpty else if k = 2 then modeB m && textB t.data.toList else k == 3 && (m == 0 && pathB t.data.toList))) := rfl
  have E := hid hE
  clear hE
  have hB0 : Below w.heap.size w (w.alloc (.cells #[.string p, .int .i64 k, .int .i64 m, .string t] 57)) := (Below.refl _ w).alloc (Nat.le_refl _) _
  have hbx : ∀ j v, (#[Value.string p, .int .i64 k, .int .i64 m, .string t])[j]? = some v → (w.alloc (.cells #[.string p, .int .i64 k, .int .i64 m, .string t] 57)).cell? ⟨w.heap.size, j, .none⟩ = some v := fun j v h => by
    have := World.alloc_heap_new w (.cells #[.string p, .int .i64 k, .int .i64 m, .string t] 57)
    unfold World.cell?; dsimp only; rw [this]; exact h
  have x1 := hid (hbx 1 _ rfl)
  have x2 := hid (hbx 2 _ rfl)
  have x3 := hid (hbx 3 _ rfl)
  have HB0 := hid hB0
  clear hB0 hbx
  have hz : w.heap.size < (w.alloc (.cells #[.string p, .int .i64 k, .int .i64 m, .string t] 57)).heap.size := by simp
  cases hpp : pathB p.data.toList
  · go_enter Tryz.func107, Tryz.ntmps107
    go_wp2_with fail
    refine (l1Path_any p hp _).mono ?_
    rintro x w1 ⟨rfl, hb⟩
    rw [hpp]
    have HB1 := hid ((unhid HB0).trans (hb.mono (unhid HB0).size))
    clear hb
    go_wp2_with fail
    go_ret
    exact ⟨by rw [unhid E, hpp]; rfl, unhid HB1⟩
  · have tail : ∀ (R : Bool), (if k = 1 then modeB m && t.data.toList.isEmpty else if k = 2 then modeB m && textB t.data.toList else k == 3 && (m == 0 && pathB t.data.toList)) = R → entB ⟨p, k, m, t⟩ = R := fun R h => by rw [unhid E, hpp, h]; rfl
    have TL := hid tail
    clear tail
    by_cases k1 : k = 1
    · subst k1
      cases hm : (decide ((0 : Int) ≤ m) && decide (m ≤ 7))
      · have EE := hid (unhid TL false (by rw [if_pos rfl]; unfold modeB; rw [hm]; rfl))
        go_enter Tryz.func107, Tryz.ntmps107
        go_wp2_with fail
        refine (l1Path_any p hp _).mono ?_
        rintro x w1 ⟨rfl, hb⟩
        rw [hpp]
        have c1 := (hb.cell (p := ⟨w.heap.size, 1, .none⟩) hz).trans (unhid x1)
        have c2 := (hb.cell (p := ⟨w.heap.size, 2, .none⟩) hz).trans (unhid x2)
        have c3 := (hb.cell (p := ⟨w.heap.size, 3, .none⟩) hz).trans (unhid x3)
        have HB1 := hid ((unhid HB0).trans (hb.mono (unhid HB0).size))
        clear hb
        go_wp2_with (go_at_call 178; refine (l1In_any _ _ _ _).mono ?_; rintro e w' ⟨rfl, rfl⟩; rw [hm])
        go_ret
        exact ⟨by rw [unhid EE]; rfl, unhid HB1⟩
      · have EE := hid (unhid TL t.toList.isEmpty (by rw [if_pos rfl]; unfold modeB; rw [hm, Lib.toList_data]; rfl))
        go_enter Tryz.func107, Tryz.ntmps107
        go_wp2_with fail
        refine (l1Path_any p hp _).mono ?_
        rintro x w1 ⟨rfl, hb⟩
        rw [hpp]
        have c1 := (hb.cell (p := ⟨w.heap.size, 1, .none⟩) hz).trans (unhid x1)
        have c2 := (hb.cell (p := ⟨w.heap.size, 2, .none⟩) hz).trans (unhid x2)
        have c3 := (hb.cell (p := ⟨w.heap.size, 3, .none⟩) hz).trans (unhid x3)
        have HB1 := hid ((unhid HB0).trans (hb.mono (unhid HB0).size))
        clear hb
        go_wp2_with (go_at_call 178; refine (l1In_any _ _ _ _).mono ?_; rintro e w' ⟨rfl, rfl⟩; rw [hm])
        go_ret
        exact ⟨by rw [unhid EE]; rfl, unhid HB1⟩
    · have k1' : (k == 1) = false := by simpa using k1
      by_cases k2 : k = 2
      · subst k2
        cases hm : (decide ((0 : Int) ≤ m) && decide (m ≤ 7))
        · have EE := hid (unhid TL false (by rw [if_neg (by omega), if_pos rfl]; unfold modeB; rw [hm]; rfl))
          go_enter Tryz.func107, Tryz.ntmps107
          go_wp2_with fail
          refine (l1Path_any p hp _).mono ?_
          rintro x w1 ⟨rfl, hb⟩
          rw [hpp]
          have c1 := (hb.cell (p := ⟨w.heap.size, 1, .none⟩) hz).trans (unhid x1)
          have c2 := (hb.cell (p := ⟨w.heap.size, 2, .none⟩) hz).trans (unhid x2)
          have c3 := (hb.cell (p := ⟨w.heap.size, 3, .none⟩) hz).trans (unhid x3)
          have HB1 := hid ((unhid HB0).trans (hb.mono (unhid HB0).size))
          clear hb
          go_wp2_with (go_at_call 178; refine (l1In_any _ _ _ _).mono ?_; rintro e w' ⟨rfl, rfl⟩; rw [hm])
          go_ret
          exact ⟨by rw [unhid EE]; rfl, unhid HB1⟩
        · have EE := hid (unhid TL (textB t.data.toList) (by rw [if_neg (by omega), if_pos rfl]; unfold modeB; rw [hm]; rfl))
          go_enter Tryz.func107, Tryz.ntmps107
          go_wp2_with fail
          refine (l1Path_any p hp _).mono ?_
          rintro x w1 ⟨rfl, hb⟩
          rw [hpp]
          have c1 := (hb.cell (p := ⟨w.heap.size, 1, .none⟩) hz).trans (unhid x1)
          have c2 := (hb.cell (p := ⟨w.heap.size, 2, .none⟩) hz).trans (unhid x2)
          have c3 := (hb.cell (p := ⟨w.heap.size, 3, .none⟩) hz).trans (unhid x3)
          have HB1 := hid ((unhid HB0).trans (hb.mono (unhid HB0).size))
          clear hb
          go_wp2_with (first | (go_at_call 178; refine (l1In_any _ _ _ _).mono ?_; rintro e w' ⟨rfl, rfl⟩; rw [hm]) | (go_at_call 179; refine (l2Text_any _ tm _).mono ?_; rintro e w' ⟨rfl, rfl⟩))
          go_ret
          exact ⟨by rw [unhid EE]; rfl, unhid HB1⟩
      · have k2' : (k == 2) = false := by simpa using k2
        cases k3 : (k == 3)
        · have EE := hid (unhid TL false (by rw [if_neg k1, if_neg k2, k3]; rfl))
          go_enter Tryz.func107, Tryz.ntmps107
          go_wp2_with fail
          refine (l1Path_any p hp _).mono ?_
          rintro x w1 ⟨rfl, hb⟩
          rw [hpp]
          have c1 := (hb.cell (p := ⟨w.heap.size, 1, .none⟩) hz).trans (unhid x1)
          have HB1 := hid ((unhid HB0).trans (hb.mono (unhid HB0).size))
          clear hb
          go_wp2_with fail
          go_ret
          exact ⟨by rw [unhid EE]; rfl, unhid HB1⟩
        · cases m0 : (m == 0)
          · have EE := hid (unhid TL false (by rw [if_neg k1, if_neg k2, k3, m0]; rfl))
            go_enter Tryz.func107, Tryz.ntmps107
            go_wp2_with fail
            refine (l1Path_any p hp _).mono ?_
            rintro x w1 ⟨rfl, hb⟩
            rw [hpp]
            have c1 := (hb.cell (p := ⟨w.heap.size, 1, .none⟩) hz).trans (unhid x1)
            have c2 := (hb.cell (p := ⟨w.heap.size, 2, .none⟩) hz).trans (unhid x2)
            have HB1 := hid ((unhid HB0).trans (hb.mono (unhid HB0).size))
            clear hb
            go_wp2_with fail
            go_ret
            exact ⟨by rw [unhid EE]; rfl, unhid HB1⟩
          · have EE := hid (unhid TL (pathB t.data.toList) (by rw [if_neg k1, if_neg k2, k3, m0]; rfl))
            go_enter Tryz.func107, Tryz.ntmps107
            go_wp2_with fail
            refine (l1Path_any p hp _).mono ?_
            rintro x w1 ⟨rfl, hb⟩
            rw [hpp]
            have c1 := (hb.cell (p := ⟨w.heap.size, 1, .none⟩) hz).trans (unhid x1)
            have c2 := (hb.cell (p := ⟨w.heap.size, 2, .none⟩) hz).trans (unhid x2)
            have c3 := (hb.cell (p := ⟨w.heap.size, 3, .none⟩) hz).trans (unhid x3)
            have HB1 := hid ((unhid HB0).trans (hb.mono (unhid HB0).size))
            clear hb
            go_wp2_with fail
            refine (l1Path_any t ht _).mono ?_
            rintro x w2 ⟨rfl, hb⟩
            have HB2 := hid ((unhid HB1).trans (hb.mono (unhid HB1).size))
            clear hb
            go_wp2_with fail
            go_ret
            exact ⟨by rw [unhid EE]; rfl, unhid HB2⟩
end Go.Proofs.YtoihhlkidlapmaaGreat

namespace Go.Proofs.YtoihhlkidlapmaaGreat
open Go.RowKit Go.Shelf
theorem lt_irr : ∀ x : List UInt8, Op.bytesLess x x = false
  | [] => rfl
  | a :: x => by
    have h : ¬ a < a := by rw [UInt8.lt_iff_toNat_lt]; omega
    simp [Op.bytesLess, lt_irr x, h]
theorem lt_tot : ∀ x y : List UInt8, Op.bytesLess x y = false → Op.bytesLess y x = false → x = y
  | [], [], _, _ => rfl
  | [], _ :: _, h, _ => by simp [Op.bytesLess] at h
  | _ :: _, [], _, h => by simp [Op.bytesLess] at h
  | a :: x, b :: y, h, g => by
    simp only [Op.bytesLess, Bool.or_eq_false_iff, decide_eq_false_iff_not, Bool.and_eq_false_iff, beq_eq_false_iff_ne] at h g
    have e : a = b := by
      apply UInt8.toNat_inj.1
      have h1 := h.1
      have g1 := g.1
      rw [UInt8.lt_iff_toNat_lt] at h1 g1
      omega
    subst e
    rw [lt_tot x y (h.2.resolve_left (fun h => h rfl)) (g.2.resolve_left (fun h => h rfl))]
theorem lt_tra : ∀ x y z : List UInt8, Op.bytesLess x y = true → Op.bytesLess y z = true → Op.bytesLess x z = true
  | _, [], _, h, _ => by simp [Op.bytesLess] at h
  | _, _ :: _, [], _, h => by simp [Op.bytesLess] at h
  | [], _ :: _, _ :: _, _, _ => rfl
  | a :: x, b :: y, c :: z, h, g => by
    simp only [Op.bytesLess, Bool.or_eq_true, decide_eq_true_eq, Bool.and_eq_true, beq_iff_eq] at h g ⊢
    rw [UInt8.lt_iff_toNat_lt] at *
    rcases h with h | ⟨rfl, h⟩ <;> rcases g with g | ⟨rfl, g⟩
    · exact .inl (by omega)
    · exact .inl h
    · exact .inl g
    · exact .inr ⟨rfl, lt_tra x y z h g⟩
def ltS (a b : ByteArray) : Bool := Op.bytesLess a.toList b.toList
def eqS (a b : ByteArray) : Bool := a.toList == b.toList
theorem eqS_iff (a b : ByteArray) : eqS a b = true ↔ a = b := by
  unfold eqS
  rw [beq_iff_eq, Lib.toList_data, Lib.toList_data]
  exact ⟨ba_ext, fun h => by rw [h]⟩
def placeE (es : List Ent) (p : ByteArray) : Nat := (es.takeWhile fun e => ltS e.path p).length
def thereE (es : List Ent) (p : ByteArray) : Bool := (es[placeE es p]?).any fun e => eqS e.path p
theorem placeE_le (es : List Ent) (p : ByteArray) : placeE es p ≤ es.length := by
  unfold placeE; exact (List.takeWhile_prefix _).length_le
theorem place_of : ∀ (es : List Ent) (p : ByteArray) (k : Nat), k ≤ es.length → (∀ (i : Nat) e, i < k → es[i]? = some e → ltS e.path p = true) → (∀ e, es[k]? = some e → ltS e.path p = false) → placeE es p = k
  | [], _, k, hk, _, _ => by simp at hk; subst hk; rfl
  | e :: es, p, 0, _, _, h2 => by
    have := h2 e rfl
    unfold placeE; rw [List.takeWhile_cons]; simp [this]
  | e :: es, p, k + 1, hk, h1, h2 => by
    have h0 := h1 0 e (Nat.succ_pos _) rfl
    have ih := place_of es p k (by simpa using hk) (fun i x hi hx => h1 (i + 1) x (by omega) (by simpa using hx)) (fun x hx => h2 x (by simpa using hx))
    unfold placeE at ih ⊢
    rw [List.takeWhile_cons]; simp [h0, ih]
theorem place_lt {es : List Ent} {p : ByteArray} {i : Nat} {e : Ent} (hi : i < placeE es p) (he : es[i]? = some e) : ltS e.path p = true := by
  unfold placeE at hi
  have hp := List.takeWhile_prefix (l := es) (fun e => ltS e.path p)
  obtain ⟨t, ht⟩ := hp
  have : (es.takeWhile fun e => ltS e.path p)[i]? = some e := by
    rw [← ht, List.getElem?_append_left hi] at he; exact he
  have := List.mem_of_getElem? this
  exact List.all_eq_true.1 (List.all_takeWhile (p := fun e : Ent => ltS e.path p) (l := es)) e this
set_option maxRecDepth 100000 in
set_option maxHeartbeats 2000000 in
theorem l2At_any (es : List Ent) (a : Option Addr) (cap : Nat) (p : ByteArray) (w : World) (hlen : es.length ≤ 1048576) (h : EntsAt w a es) :
    Calls Tryz.prog 79 #[.slice a es.length cap, .string p] w fun x w' => x = .returned (.tuple #[.int .i64 (placeE es p), .bool (thereE es p)]) ∧ ∃ n, w' = w.drewN n := by
  go_enter Tryz.func79, Tryz.ntmps79
  go_wp2_with fail
  go_loop [6] (fun i => ∃ k : Nat, k ≤ es.length ∧ i = .int .i64 k ∧ Hid (∀ (i : Nat) e, i < k → es[i]? = some e → ltS e.path p = true)) (fun i => es.length - (intOf i).toNat)
  case atStart => exact ⟨0, Nat.zero_le _, rfl, hid (fun i e hi => by omega)⟩
  case round =>
    obtain ⟨k, hk, rfl, hall⟩ := hrel
    by_cases hlt : k < es.length
    · obtain ⟨e, he⟩ : ∃ e, es[k]? = some e := ⟨es[k], List.getElem?_eq_getElem hlt⟩
      obtain ⟨b, o, rfl, hbl, hc⟩ := h.get (by intro e; subst e; simp at hlt)
      obtain ⟨c0, c1, c2, c3⟩ := hc k e he
      have HE := hid he
      clear hc he h
      cases hq : Op.bytesLess e.path.toList p.toList
      · have hpl : placeE es p = k := place_of es p k hk (unhid hall) (fun x hx => by rw [unhid HE] at hx; cases hx; exact hq)
        have hth : thereE es p = (e.path.toList == p.toList) := by unfold thereE; rw [hpl, unhid HE]; rfl
        have HP := hid (And.intro hpl hth)
        clear hpl hth
        go_wp2_with fail
        go_quiet (fail)
        go_wp2_with fail
        go_ret2
        exact ⟨by rw [(unhid HP).1, (unhid HP).2]; rfl, _, rfl⟩
      · go_wp2_with fail
        go_round
        case rel => exact ⟨k + 1, by omega, by go_num, hid (fun i x hi hx => by
          by_cases ei : i = k
          · subst ei; rw [unhid HE] at hx; cases hx; exact hq
          · exact unhid hall i x (by omega) hx)⟩
        case measure => simp [intOf]; omega
    · have hpl : placeE es p = k := place_of es p k hk (unhid hall) (fun x hx => by have := (List.getElem?_eq_some_iff.1 hx).1; omega)
      have hth : thereE es p = false := by unfold thereE; rw [hpl, List.getElem?_eq_none (by omega)]; rfl
      have HP := hid (And.intro hpl hth)
      have hlt' : ¬ (k : Int) < es.length := by omega
      clear hpl hth h
      go_wp2_with fail
      go_quiet (fail)
      go_wp2_with fail
      go_ret2
      exact ⟨by rw [(unhid HP).1, (unhid HP).2]; rfl, _, rfl⟩
end Go.Proofs.YtoihhlkidlapmaaGreat

namespace Go.Proofs.YtoihhlkidlapmaaGreat
open Go.RowKit Go.Shelf
def dirE (es : List Ent) (q : ByteArray) : Bool := q.toList.isEmpty || (thereE es q && (entFn es (placeE es q)).kind == 1)
def sortAt (es : List Ent) (i : Nat) : Bool := entB (entFn es i) && (i == 0 || ltS (entFn es (i - 1)).path (entFn es i).path)
def treeB (es : List Ent) : Bool := (List.range es.length).all (sortAt es) && (List.range es.length).all (fun i => dirE es (upS (entFn es i).path)) && decide (es.length ≤ 16)
set_option maxRecDepth 100000 in
set_option maxHeartbeats 2000000 in
theorem l2Dir_any (es : List Ent) (a : Option Addr) (cap : Nat) (q : ByteArray) (w : World) (hlen : es.length ≤ 1048576) (h : EntsAt w a es) :
    Calls Tryz.prog 108 #[.slice a es.length cap, .string q] w fun x w' => x = .returned (.bool (dirE es q)) ∧ ∃ n, w' = w.drewN n := by
  have HH := hid h
  cases he : q.toList.isEmpty
  · cases ht : thereE es q
    · have E := hid (show dirE es q = false by unfold dirE; rw [he, ht]; rfl)
      clear h
      go_enter Tryz.func108, Tryz.ntmps108
      go_wp2_with fail
      refine (l2At_any es a cap q _ hlen (unhid HH)).mono ?_
      rintro x w' ⟨rfl, n, rfl⟩
      rw [ht]
      go_wp2_with fail
      go_ret
      exact ⟨by rw [unhid E]; rfl, _, rfl⟩
    · obtain ⟨e, hek, heq⟩ : ∃ e, es[placeE es q]? = some e ∧ eqS e.path q = true := by
        unfold thereE at ht
        cases hx : es[placeE es q]? with
        | none => rw [hx] at ht; cases ht
        | some e => rw [hx] at ht; exact ⟨e, rfl, ht⟩
      have hkl : placeE es q < es.length := (List.getElem?_eq_some_iff.1 hek).1
      obtain ⟨b, o, rfl, hbl, hc⟩ := h.get (by intro e; subst e; simp at hkl)
      obtain ⟨c0, c1, c2, c3⟩ := hc _ e hek
      have E := hid (show dirE es q = (e.kind == 1) by unfold dirE; rw [he, ht, entFn_get hek]; rfl)
      clear hc hek heq h
      go_enter Tryz.func108, Tryz.ntmps108
      go_wp2_with fail
      refine (l2At_any es _ cap q _ hlen (unhid HH)).mono ?_
      rintro x w' ⟨rfl, n, rfl⟩
      rw [ht]
      go_wp2_with fail
      go_ret
      exact ⟨by rw [unhid E]; rfl, _, rfl⟩
  · have E := hid (show dirE es q = true by unfold dirE; rw [he]; rfl)
    clear h
    go_enter Tryz.func108, Tryz.ntmps108
    go_wp2_with fail
    refine (l2At_any es a cap q _ hlen (unhid HH)).mono ?_
    rintro x w' ⟨rfl, n, rfl⟩
    go_wp2_with fail
    go_ret
    exact ⟨by rw [unhid E]; rfl, _, rfl⟩
end Go.Proofs.YtoihhlkidlapmaaGreat

namespace Go.Proofs.YtoihhlkidlapmaaGreat
open Go.RowKit Go.Shelf
def smallE (es : List Ent) : Prop := es.length ≤ 1048576 ∧ ∀ e ∈ es, e.path.size ≤ 1048576 ∧ e.text.size ≤ 1048576
theorem all_range_no {n k : Nat} {f : Nat → Bool} (hk : k < n) (h : f k = false) : (List.range n).all f = false := List.all_eq_false.2 ⟨k, List.mem_range.2 hk, by simp [h]⟩
theorem all_range_snoc {k : Nat} {f : Nat → Bool} (ha : (List.range k).all f = true) (h : f k = true) : (List.range (k + 1)).all f = true := by rw [List.range_succ, List.all_append, ha]; simp [h]
set_option maxRecDepth 100000 in
set_option maxHeartbeats 8000000 in
theorem specTreeOk_any (es : List Ent) (a : Option Addr) (cap : Nat) (w : World) (hs : smallE es) (h : EntsAt w a es) :
    Calls Tryz.prog 53 #[.slice a es.length cap] w fun x w' => x = .returned (.bool (treeB es)) ∧ Below w.heap.size w w' := by
  obtain ⟨hlen, hz⟩ := hs
  have HH := hid h
  have HZ := hid hz
  clear h hz
  go_enter Tryz.func53, Tryz.ntmps53
  go_wp2_with fail
  go_loopw [3] (fun i wr => ∃ k : Nat, k ≤ es.length ∧ i = .int .i64 k ∧ Hid ((List.range k).all (sortAt es) = true) ∧ Below w.heap.size w wr) (fun i _ => es.length - (intOf i).toNat)
  case atStart => exact ⟨0, Nat.zero_le _, rfl, hid rfl, Below.refl _ _⟩
  case round =>
    obtain ⟨k, hk, rfl, hall, hB⟩ := hrel
    by_cases hlt : k < es.length
    · obtain ⟨e, he⟩ : ∃ e, es[k]? = some e := ⟨es[k], List.getElem?_eq_getElem hlt⟩
      obtain ⟨b, o, rfl, hbl, hc⟩ := (unhid HH).get (by intro e; subst e; simp at hlt)
      obtain ⟨c0, c1, c2, c3⟩ := (hc k e he).below hB hbl
      obtain ⟨z1, z2⟩ := unhid HZ e (List.mem_of_getElem? he)
      have hf := entFn_get he
      have HB := hid hB
      have hbw := Nat.lt_of_lt_of_le hbl hB.size
      have g0 := BW.cell (B := wr.heap.size) hbw c0
      have g1 := BW.cell (B := wr.heap.size) hbw c1
      have g2 := BW.cell (B := wr.heap.size) hbw c2
      have g3 := BW.cell (B := wr.heap.size) hbw c3
      cases he1 : entB e
      · have hno : sortAt es k = false := by unfold sortAt; rw [hf, he1]; rfl
        have E := hid (show treeB es = false by unfold treeB; rw [all_range_no hlt hno]; rfl)
        clear hc he hf hno hB c0 c1 c2 c3
        go_wp2_with fail
        have hba := @BW.all wr.heap.size wr
        refine calm_region wr.heap.size (by kernel_rfl) (by kernel_rfl) ?_
        repeat (go_big_quiet_step ((go_at_call 107; refine Calls.bw (v := .bool false) (Nat.le_refl _) ((l2Entry_any e z1 z2 _).mono ?_); rintro r w2 ⟨rfl, hb⟩; exact ⟨by rw [he1], hb⟩)))
        refine wpQuiet_nil ?_
        intro _ hw
        obtain ⟨⟨w2, hB2⟩, hw⟩ := hw
        subst hw
        have HB2 := hid ((unhid HB).trans (hB2.mono (unhid HB).size))
        clear hB2 hba g0 g1 g2 g3
        go_wp2_with fail
        go_ret
        exact ⟨by rw [unhid E]; rfl, unhid HB2⟩
      · rcases k with _ | j
        · have hyes : sortAt es 0 = true := by unfold sortAt; rw [hf, he1]; rfl
          have HY := hid (all_range_snoc (unhid hall) hyes)
          simp only [Nat.zero_mul, Nat.add_zero] at g0 g1 g2 g3
          clear hc he hf hyes hB c0 c1 c2 c3
          go_wp2_with fail
          have hba := @BW.all wr.heap.size wr
          refine calm_region wr.heap.size (by kernel_rfl) (by kernel_rfl) ?_
          repeat (go_big_quiet_step ((go_at_call 107; refine Calls.bw (v := .bool true) (Nat.le_refl _) ((l2Entry_any e z1 z2 _).mono ?_); rintro r w2 ⟨rfl, hb⟩; exact ⟨by rw [he1], hb⟩)))
          refine wpQuiet_nil ?_
          intro _ hw
          obtain ⟨⟨w2, hB2⟩, hw⟩ := hw
          subst hw
          have HB2 := hid ((unhid HB).trans (hB2.mono (unhid HB).size))
          clear hB2 hba g0 g1 g2 g3
          go_wp2_with fail
          go_roundw
          case rel => exact ⟨1, by omega, rfl, HY, unhid HB2⟩
          case measure => simp [intOf]; omega
        · obtain ⟨e0, he0⟩ : ∃ e, es[j]? = some e := ⟨es[j], List.getElem?_eq_getElem (by omega)⟩
          have hf0 := entFn_get he0
          have d0 := ((hc j e0 he0).below hB hbl).c0
          have y0 := BW.cell (B := wr.heap.size) hbw d0
          have hk0' : (0 : Int) < (j : Int) + 1 := by omega
          cases hq : Op.bytesLess e0.path.toList e.path.toList
          · have hno : sortAt es (j + 1) = false := by unfold sortAt ltS; rw [hf, Nat.add_sub_cancel, hf0, he1, hq]; rfl
            have E := hid (show treeB es = false by unfold treeB; rw [all_range_no hlt hno]; rfl)
            clear hc he hf hno hB c0 c1 c2 c3 he0 hf0 d0
            go_wp2_with fail
            have hba := @BW.all wr.heap.size wr
            refine calm_region wr.heap.size (by kernel_rfl) (by kernel_rfl) ?_
            repeat (go_big_quiet_step ((go_at_call 107; refine Calls.bw (v := .bool true) (Nat.le_refl _) ((l2Entry_any e z1 z2 _).mono ?_); rintro r w2 ⟨rfl, hb⟩; exact ⟨by rw [he1], hb⟩)))
            refine wpQuiet_nil ?_
            intro _ hw
            obtain ⟨⟨w2, hB2⟩, hw⟩ := hw
            subst hw
            have HB2 := hid ((unhid HB).trans (hB2.mono (unhid HB).size))
            clear hB2 hba g0 g1 g2 g3
            go_wp2_with fail
            go_ret
            exact ⟨by rw [unhid E]; rfl, unhid HB2⟩
          · have hyes : sortAt es (j + 1) = true := by unfold sortAt ltS; rw [hf, Nat.add_sub_cancel, hf0, he1, hq]; rfl
            have HY := hid (all_range_snoc (unhid hall) hyes)
            clear hc he hf hyes hB c0 c1 c2 c3 he0 hf0 d0
            go_wp2_with fail
            have hba := @BW.all wr.heap.size wr
            refine calm_region wr.heap.size (by kernel_rfl) (by kernel_rfl) ?_
            repeat (go_big_quiet_step ((go_at_call 107; refine Calls.bw (v := .bool true) (Nat.le_refl _) ((l2Entry_any e z1 z2 _).mono ?_); rintro r w2 ⟨rfl, hb⟩; exact ⟨by rw [he1], hb⟩)))
            refine wpQuiet_nil ?_
            intro _ hw
            obtain ⟨⟨w2, hB2⟩, hw⟩ := hw
            subst hw
            have HB2 := hid ((unhid HB).trans (hB2.mono (unhid HB).size))
            clear hB2 hba g0 g1 g2 g3
            go_wp2_with fail
            go_roundw
            case rel => exact ⟨j + 1 + 1, by omega, by go_num, HY, unhid HB2⟩
            case measure => simp [intOf]; omega
    · have hke : k = es.length := by omega
      have HSO := hid (show (List.range es.length).all (sortAt es) = true by rw [← hke]; exact unhid hall)
      have HB := hid hB
      have hlt' : ¬ (k : Int) < es.length := by omega
      clear hall hke hB
      go_wp2_with fail
      go_loopw [4] (fun i wr => ∃ k : Nat, k ≤ es.length ∧ i = .int .i64 k ∧ Hid ((List.range k).all (fun i => dirE es (upS (entFn es i).path)) = true) ∧ Below w.heap.size w wr) (fun i _ => es.length - (intOf i).toNat)
      case atStart => exact ⟨0, Nat.zero_le _, rfl, hid rfl, unhid HB⟩
      case round =>
        obtain ⟨k, hk, rfl, hall, hB⟩ := hrel
        clear HB
        by_cases hlt : k < es.length
        · obtain ⟨e, he⟩ : ∃ e, es[k]? = some e := ⟨es[k], List.getElem?_eq_getElem hlt⟩
          have hAt := (unhid HH).below (W' := wr) ⟨hB.os, hB.tape, hB.output, hB.size, hB.block⟩
          obtain ⟨b, o, rfl, hbl, hc⟩ := (unhid HH).get (by intro e; subst e; simp at hlt)
          obtain ⟨c0, c1, c2, c3⟩ := (hc k e he).below hB hbl
          obtain ⟨z1, z2⟩ := unhid HZ e (List.mem_of_getElem? he)
          have zm : e.path.size ≤ maxLen := by unfold maxLen; omega
          have HF := hid (entFn_get he)
          have HB := hid hB
          have HA := hid hAt
          clear hc he hB hAt
          cases hd : dirE es (upS e.path)
          · have E := hid (show treeB es = false by unfold treeB; rw [all_range_no (f := fun i => dirE es (upS (entFn es i).path)) hlt (by rw [unhid HF]; exact hd)]; simp)
            go_wp2_with (first | (go_at_call 109; refine (l1Up_any _ zm _).mono ?_; rintro r w2 ⟨rfl, rfl⟩) | (go_at_call 108; refine (l2Dir_any es _ cap _ _ hlen (unhid HA)).mono ?_; rintro r w2 ⟨rfl, n, rfl⟩; rw [hd]))
            go_ret
            exact ⟨by rw [unhid E]; rfl, (unhid HB).trans (drewN_below _ _)⟩
          · go_wp2_with (first | (go_at_call 109; refine (l1Up_any _ zm _).mono ?_; rintro r w2 ⟨rfl, rfl⟩) | (go_at_call 108; refine (l2Dir_any es _ cap _ _ hlen (unhid HA)).mono ?_; rintro r w2 ⟨rfl, n, rfl⟩; rw [hd]))
            go_roundw
            case rel => exact ⟨k + 1, by omega, by go_num, hid (all_range_snoc (unhid hall) (by rw [unhid HF]; exact hd)), (unhid HB).trans (drewN_below _ _)⟩
            case measure => simp [intOf]; omega
        · have hke : k = es.length := by omega
          have E := hid (show treeB es = decide ((es.length : Int) ≤ 16) by
            unfold treeB
            rw [unhid HSO, show (List.range es.length).all (fun i => dirE es (upS (entFn es i).path)) = true by rw [← hke]; exact unhid hall]
            exact decide_eq_decide.2 (by omega))
          have hlt' : ¬ (k : Int) < es.length := by omega
          clear hke
          go_wp2_with fail
          go_ret
          exact ⟨by rw [unhid E]; rfl, hB⟩
end Go.Proofs.YtoihhlkidlapmaaGreat

namespace Go.Proofs.YtoihhlkidlapmaaGreat
open Go.RowKit
def entD (d : entryC.D) : Ent := ⟨EntryD.path d, EntryD.kind d, EntryD.mode d, EntryD.text d⟩
def entsD (ds : List entryC.D) : List Ent := List.map (α := entryC.D) entD ds
theorem entsD_len (ds : List entryC.D) : (entsD ds).length = ds.length := by unfold entsD; exact List.length_map _
theorem entsD_at {W : World} {v : Value} {ds : List entryC.D} (h : rowAt entryC W v ds) : ∃ (a : Option Addr) (cap : Nat), v = .slice a (entsD ds).length cap ∧ (a = none → cap = 0) ∧ (entsD ds).length ≤ cap ∧ EntsAt W a (entsD ds) := by
  obtain ⟨a, cap, hv, hn, hc, h⟩ := h
  refine ⟨a, cap, by rw [entsD_len]; exact hv, hn, by rw [entsD_len]; exact hc, ?_⟩
  rcases h with rfl | ⟨b, o, ha, hl, hcell⟩
  · exact .inl rfl
  · refine .inr ⟨b, o, ha, hl, fun i e hi => ?_⟩
    unfold entsD at hi
    rw [List.getElem?_map] at hi
    cases hd : ds[i]? with
    | none => rw [hd] at hi; cases hi
    | some d =>
      rw [hd] at hi
      cases hi
      obtain ⟨cs, hat, hc⟩ := hcell i d hd
      obtain rfl := entryC_at hat
      exact ⟨hc 0 _ rfl, hc 1 _ rfl, hc 2 _ rfl, hc 3 _ rfl⟩
def dEnt (e : Ent) : entryC.D := (⟨e.path, e.kind, e.mode, e.text⟩ : EntryD)
def dEnts (es : List Ent) : List entryC.D := List.map (β := entryC.D) dEnt es
theorem entsD_back (es : List Ent) : entsD (dEnts es) = es := by
  unfold entsD dEnts
  rw [List.map_map]
  exact List.map_id' es
end Go.Proofs.YtoihhlkidlapmaaGreat

namespace Go.Proofs.YtoihhlkidlapmaaGreat
open Go.RowKit Go.Shelf
structure PackD where
  name : ByteArray
  version : ByteArray
  needs : List needC.D
  tree : List entryC.D
def packC : CK := isoC (pairC txtC (pairC txtC (pairC (rowC needC 36) (rowC entryC 57)))) PackD (fun d => (d.name, (d.version, (d.needs, d.tree)))) (fun p => ⟨p.1, p.2.1, p.2.2.1, p.2.2.2⟩)
theorem packC_at {W : World} {cs : List Value} {d : PackD} (h : packC.at_ W cs d) : ∃ v2 v3 : Value, cs = [.string d.name, .string d.version, v2, v3] ∧ rowAt needC W v2 d.needs ∧ rowAt entryC W v3 d.tree := by
  obtain ⟨c0, e0, rfl, rfl, ⟨c1, e1, rfl, rfl, ⟨c2, e2, rfl, ⟨v2, rfl, h2⟩, ⟨v3, rfl, h3⟩⟩⟩⟩ := h
  exact ⟨v2, v3, rfl, h2, h3⟩
def packC_is (W : World) (cs : List Value) (d : PackD) (F : List Nat) : Prop := ∃ (v2 v3 : Value) (F2 F3 : List Nat), cs = [.string d.name, .string d.version, v2, v3] ∧ F = F2 ++ F3 ∧ rowOwn needC 36 W v2 d.needs F2 ∧ rowOwn entryC 57 W v3 d.tree F3 ∧ (∀ k ∈ F2, k ∉ F3)
theorem packC_own {W : World} {cs : List Value} {d : PackD} {F : List Nat} (h : packC.own W cs d F) : packC_is W cs d F := by
  obtain ⟨c0, e0, F0, G0, rfl, rfl, ⟨rfl, rfl⟩, ⟨c1, e1, F1, G1, rfl, rfl, ⟨rfl, rfl⟩, ⟨c2, e2, F2, G2, rfl, rfl, ⟨v2, rfl, h2⟩, ⟨v3, rfl, h3⟩, a2⟩, a1⟩, a0⟩ := h
  exact ⟨v2, v3, F2, _, rfl, by simp, h2, h3, fun k hk e => a2 k hk (by simp [e])⟩
theorem packC_mk {W : World} {cs : List Value} {d : PackD} {F : List Nat} (h : packC_is W cs d F) : packC.own W cs d F := by
  obtain ⟨v2, v3, F2, F3, rfl, rfl, h2, h3, a23⟩ := h
  exact ⟨[_], _, [], F2 ++ F3, rfl, by simp, ⟨rfl, rfl⟩, ⟨[_], _, [], F2 ++ F3, rfl, by simp, ⟨rfl, rfl⟩, ⟨[_], _, F2, F3, rfl, by simp, ⟨v2, rfl, h2⟩, ⟨v3, rfl, h3⟩, fun k hk => a23 k hk⟩, fun k hk => by cases hk⟩, fun k hk => by cases hk⟩
theorem vinfoPack : (Tryz.prog.info? 34).map (fun i => (i.zero, i.size, i.bytes)) = some (some (.agg #[.string ⟨#[]⟩, .string ⟨#[]⟩, .slice none 0 0, .slice none 0 0]), 4, 80) := by kernel_rfl
end Go.Proofs.YtoihhlkidlapmaaGreat

namespace Go.Proofs.YtoihhlkidlapmaaGreat
open Go.RowKit Go.Shelf
theorem isLineByte_any (c : Int) (w : World) :
    Calls Tryz.prog 314 #[.int .u8 c] w fun e w' => e = .returned (.bool (decide (32 ≤ c) && decide (c ≤ 126))) ∧ w' = w := by
  by_cases h1 : 32 ≤ c <;> by_cases h2 : c ≤ 126 <;>
  · go_enter Tryz.func314, Tryz.ntmps314
    go_wp2
    go_ret
    exact ⟨by simp [h1, h2], rfl⟩
theorem isTextByte_any (c : Int) (w : World) :
    Calls Tryz.prog 313 #[.int .u8 c] w fun e w' => e = .returned (.bool (txtB c)) ∧ w' = w := by
  cases h1 : (decide (32 ≤ c) && decide (c ≤ 126)) <;> cases h2 : (c == 10) <;>
  · have E := hid (show txtB c = ((c == 10) || (decide (32 ≤ c) && decide (c ≤ 126))) from rfl)
    go_enter Tryz.func313, Tryz.ntmps313
    go_wp2_with (go_at_call 314; refine (isLineByte_any _ _).mono ?_; rintro e w' ⟨rfl, rfl⟩; rw [h1])
    go_ret
    exact ⟨by rw [unhid E, h1, h2]; rfl, rfl⟩
theorem egText : ∀ args w, (callFunc 313 args).run Tryz.prog w = .ok (.enter 313 args) w := enters_of Tryz.func313 (by kernel_rfl) rfl
set_option maxRecDepth 100000 in
theorem textOk_any (s : ByteArray) (hs : s.size ≤ maxLen) (w : World) :
    Calls Tryz.prog 312 #[.string s] w fun e w' => e = .returned (.bool (textB s.data.toList)) ∧ Below w.heap.size w w' := by
  have hs' : s.size ≤ 9223372036854775807 := hs
  by_cases h : (s.size : Int) ≤ 80
  · have E := hid (show (s.data.toList.all fun c => txtB c.toNat) = textB s.data.toList by unfold textB; rw [← Lib.size_eq, decide_eq_true (by omega)]; rfl)
    go_enter Tryz.func312, Tryz.ntmps312
    go_wp2_with fail
    refine (allBytes_any 313 txtB egText isTextByte_any s hs _).mono ?_
    rintro e w2 ⟨rfl, hb⟩
    rw [unhid E]
    go_wp2_with fail
    go_ret
    exact ⟨rfl, hb⟩
  · have E := hid (show textB s.data.toList = false by unfold textB; rw [← Lib.size_eq, decide_eq_false (by omega)]; rfl)
    have h' : decide ((s.size : Int) ≤ 80) = false := decide_eq_false h
    go_enter Tryz.func312, Tryz.ntmps312
    go_wp2_with fail
    go_ret
    exact ⟨by rw [unhid E]; rfl, Below.refl _ _⟩
theorem modeOk_any (m : Int) (w : World) : Calls Tryz.prog 310 #[.int .i64 m] w fun e w' => e = .returned (.bool (modeB m)) ∧ w' = w := by
  have E := hid (show modeB m = (decide (0 ≤ m) && decide (m ≤ 7)) from rfl)
  by_cases h1 : 0 ≤ m <;> by_cases h2 : m ≤ 7 <;>
  · go_enter Tryz.func310, Tryz.ntmps310
    go_wp2
    go_ret
    exact ⟨by rw [unhid E]; simp [h1, h2], rfl⟩
theorem dirFine_any (m : Int) (w : World) : Calls Tryz.prog 309 #[.agg #[.int .i64 m]] w fun e w' => e = .returned (.bool (modeB m)) ∧ Below w.heap.size w w' := by
  go_enter Tryz.func309, Tryz.ntmps309
  go_wp2_with (go_at_call 310; refine (modeOk_any _ _).mono ?_; rintro e w' ⟨rfl, rfl⟩)
  go_ret
  exact ⟨rfl, (Below.refl _ _).alloc (Nat.le_refl _) _⟩
theorem linkFine_any (t : ByteArray) (ht : t.size ≤ maxLen) (w : World) : Calls Tryz.prog 315 #[.agg #[.string t]] w fun e w' => e = .returned (.bool (pathB t.data.toList)) ∧ Below w.heap.size w w' := by
  go_enter Tryz.func315, Tryz.ntmps315
  go_wp2_with fail
  refine (PathOk_any t ht _).mono ?_
  rintro e w2 ⟨rfl, hb⟩
  go_wp2_with fail
  go_ret
  exact ⟨rfl, ((Below.refl _ _).alloc (Nat.le_refl _) _).trans (hb.mono (by simp))⟩
set_option maxRecDepth 100000 in
theorem fileFine_any (m : Int) (t : ByteArray) (ht : t.size ≤ maxLen) (w : World) : Calls Tryz.prog 311 #[.agg #[.int .i64 m, .string t]] w fun e w' => e = .returned (.bool (modeB m && textB t.data.toList)) ∧ Below w.heap.size w w' := by
  cases hm : modeB m
  · go_enter Tryz.func311, Tryz.ntmps311
    go_wp2_with (go_at_call 310; refine (modeOk_any _ _).mono ?_; rintro e w' ⟨rfl, rfl⟩; rw [hm])
    go_ret
    exact ⟨rfl, (Below.refl _ _).alloc (Nat.le_refl _) _⟩
  · go_enter Tryz.func311, Tryz.ntmps311
    go_wp2_with (go_at_call 310; refine (modeOk_any _ _).mono ?_; rintro e w' ⟨rfl, rfl⟩; rw [hm])
    refine (textOk_any t ht _).mono ?_
    rintro e w2 ⟨rfl, hb⟩
    go_wp2_with fail
    go_ret
    exact ⟨rfl, ((Below.refl _ _).alloc (Nat.le_refl _) _).trans (hb.mono (by simp))⟩
theorem upon_run {P : Program} {o : Oper} {a : Act} {K : Act → World → Prop} {E : Exit → Act → World → Prop} {α : Type} {x y : Result α} {f : α → World → Result Next} (h : x = y) (g : Oper.upon P o a K E (y.andThen f)) : Oper.upon P o a K E (x.andThen f) := h ▸ g
def nodeV (e : Ent) : Value := if e.kind = 1 then .iface 176 (.agg #[.int .i64 e.mode]) else if e.kind = 2 then .iface 178 (.agg #[.int .i64 e.mode, .string e.text]) else .iface 180 (.agg #[.string e.text])
set_option maxRecDepth 100000 in
set_option maxHeartbeats 8000000 in
theorem nodeOf_any (e : Ent) (hp : e.path.size ≤ maxLen) (ht : e.text.size ≤ maxLen) (w : World) :
    Calls Tryz.prog 209 #[.agg e.vals] w fun x w' => (∃ v, x = .returned (.tuple #[v, .bool (entB e)]) ∧ (v = .nilIface ∨ v = nodeV e) ∧ (entB e = true → v = nodeV e)) ∧ Below w.heap.size w w' := by
  obtain ⟨p, k, m, t⟩ := e
  unfold Ent.vals
  dsimp only at hp ht ⊢
  have hB0 : Below w.heap.size w (w.alloc (.cells #[.string p, .int .i64 k, .int .i64 m, .string t] 57)) := (Below.refl _ w).alloc (Nat.le_refl _) _
  have HB0 := hid hB0
  have hz0 : w.heap.size ≤ (w.alloc (.cells #[.string p, .int .i64 k, .int .i64 m, .string t] 57)).heap.size := by simp
  clear hB0
  have hE : entB ⟨p, k, m, t⟩ = (pathB p.data.toList && (if k = 1 then modeB m && t.data.toList.isEmpty else if k = 2 then modeB m && textB t.data.toList else k == 3 && (m == 0 && pathB t.data.toList))) := rfl
  have E := hid hE
  clear hE
  by_cases k1 : k = 1
  · subst k1
    have hnv : nodeV ⟨p, 1, m, t⟩ = .iface 176 (.agg #[.int .i64 m]) := by unfold nodeV; rw [if_pos rfl]
    have HN := hid hnv
    clear hnv
    cases hte : t.toList.isEmpty
    · have hte' : t.data.toList.isEmpty = false := by rw [← Lib.toList_data]; exact hte
      have EE := hid (show entB ⟨p, 1, m, t⟩ = false by rw [unhid E, if_pos rfl, hte']; simp)
      clear hte'
      go_enter Tryz.func209, Tryz.ntmps209
      go_wp2_with fail
      go_ret2
      exact ⟨⟨_, by rw [unhid EE]; rfl, .inl rfl, fun h => by rw [unhid EE] at h; cases h⟩, unhid HB0⟩
    · have hte' : t.data.toList.isEmpty = true := by rw [← Lib.toList_data]; exact hte
      have E1 := hid (show entB ⟨p, 1, m, t⟩ = (pathB p.data.toList && modeB m) by rw [unhid E, if_pos rfl, hte', Bool.and_true])
      clear hte'
      cases hpp : pathB p.data.toList
      · have EE := hid (show entB ⟨p, 1, m, t⟩ = false by rw [unhid E1, hpp]; rfl)
        go_enter Tryz.func209, Tryz.ntmps209
        go_wp2_with fail
        refine (PathOk_any p hp _).mono ?_
        rintro x w2 ⟨rfl, hb⟩
        rw [hpp]
        have HB := hid ((unhid HB0).trans (hb.mono hz0))
        clear hb
        go_wp2_with fail
        go_ret2
        exact ⟨⟨_, by rw [unhid EE]; rfl, .inr (unhid HN).symm, fun h => by rw [unhid EE] at h; cases h⟩, unhid HB⟩
      · have EE := hid (show entB ⟨p, 1, m, t⟩ = (modeB m) by rw [unhid E1, hpp]; rfl)
        go_enter Tryz.func209, Tryz.ntmps209
        go_wp2_with fail
        refine (PathOk_any p hp _).mono ?_
        rintro x w2 ⟨rfl, hb⟩
        rw [hpp]
        have HB := hid ((unhid HB0).trans (hb.mono hz0))
        clear hb
        go_wp2_with fail
        refine upon_run (y := .ok (309, .agg #[.int .i64 m]) w2) (by kernel_rfl) ?_
        go_wp2_with fail
        refine (dirFine_any m w2).mono ?_
        rintro x w3 ⟨rfl, hb⟩
        have HB3 := hid ((unhid HB).trans (hb.mono (unhid HB).size))
        clear hb
        rw [← unhid EE]
        go_wp2_with fail
        go_ret2
        exact ⟨⟨_, rfl, .inr (unhid HN).symm, fun _ => (unhid HN).symm⟩, unhid HB3⟩
  · have k1' : (k == 1) = false := by simpa using k1
    by_cases k2 : k = 2
    · subst k2
      have hnv : nodeV ⟨p, 2, m, t⟩ = .iface 178 (.agg #[.int .i64 m, .string t]) := by unfold nodeV; rw [if_neg (by omega), if_pos rfl]
      have HN := hid hnv
      have E1 := hid (show entB ⟨p, 2, m, t⟩ = (pathB p.data.toList && (modeB m && textB t.data.toList)) by rw [unhid E, if_neg (by omega), if_pos rfl])
      clear hnv
      cases hpp : pathB p.data.toList
      · have EE := hid (show entB ⟨p, 2, m, t⟩ = false by rw [unhid E1, hpp]; rfl)
        go_enter Tryz.func209, Tryz.ntmps209
        go_wp2_with fail
        refine (PathOk_any p hp _).mono ?_
        rintro x w2 ⟨rfl, hb⟩
        rw [hpp]
        have HB := hid ((unhid HB0).trans (hb.mono hz0))
        clear hb
        go_wp2_with fail
        go_ret2
        exact ⟨⟨_, by rw [unhid EE]; rfl, .inr (unhid HN).symm, fun h => by rw [unhid EE] at h; cases h⟩, unhid HB⟩
      · have EE := hid (show entB ⟨p, 2, m, t⟩ = (modeB m && textB t.data.toList) by rw [unhid E1, hpp]; rfl)
        go_enter Tryz.func209, Tryz.ntmps209
        go_wp2_with fail
        refine (PathOk_any p hp _).mono ?_
        rintro x w2 ⟨rfl, hb⟩
        rw [hpp]
        have HB := hid ((unhid HB0).trans (hb.mono hz0))
        clear hb
        go_wp2_with fail
        refine upon_run (y := .ok (311, .agg #[.int .i64 m, .string t]) w2) (by kernel_rfl) ?_
        go_wp2_with fail
        refine (fileFine_any m t ht w2).mono ?_
        rintro x w3 ⟨rfl, hb⟩
        have HB3 := hid ((unhid HB).trans (hb.mono (unhid HB).size))
        clear hb
        rw [← unhid EE]
        go_wp2_with fail
        go_ret2
        exact ⟨⟨_, rfl, .inr (unhid HN).symm, fun _ => (unhid HN).symm⟩, unhid HB3⟩
    · have k2' : (k == 2) = false := by simpa using k2
      have hnv : nodeV ⟨p, k, m, t⟩ = .iface 180 (.agg #[.string t]) := by unfold nodeV; rw [if_neg k1, if_neg k2]
      have HN := hid hnv
      have E2 := hid (show entB ⟨p, k, m, t⟩ = (pathB p.data.toList && (k == 3 && (m == 0 && pathB t.data.toList))) by rw [unhid E, if_neg k1, if_neg k2])
      clear hnv
      cases k3 : (k == 3)
      · have EE := hid (show entB ⟨p, k, m, t⟩ = false by rw [unhid E2, k3]; simp)
        clear k1 k2
        go_enter Tryz.func209, Tryz.ntmps209
        go_wp2_with fail
        go_ret2
        exact ⟨⟨_, by rw [unhid EE]; rfl, .inl rfl, fun h => by rw [unhid EE] at h; cases h⟩, unhid HB0⟩
      · cases m0 : (m == 0)
        · have EE := hid (show entB ⟨p, k, m, t⟩ = false by rw [unhid E2, m0]; simp)
          clear k1 k2
          go_enter Tryz.func209, Tryz.ntmps209
          go_wp2_with fail
          go_ret2
          exact ⟨⟨_, by rw [unhid EE]; rfl, .inl rfl, fun h => by rw [unhid EE] at h; cases h⟩, unhid HB0⟩
        · have E1 := hid (show entB ⟨p, k, m, t⟩ = (pathB p.data.toList && pathB t.data.toList) by rw [unhid E2, k3, m0]; rfl)
          clear k1 k2
          cases hpp : pathB p.data.toList
          · have EE := hid (show entB ⟨p, k, m, t⟩ = false by rw [unhid E1, hpp]; rfl)
            go_enter Tryz.func209, Tryz.ntmps209
            go_wp2_with fail
            refine (PathOk_any p hp _).mono ?_
            rintro x w2 ⟨rfl, hb⟩
            rw [hpp]
            have HB := hid ((unhid HB0).trans (hb.mono hz0))
            clear hb
            go_wp2_with fail
            go_ret2
            exact ⟨⟨_, by rw [unhid EE]; rfl, .inr (unhid HN).symm, fun h => by rw [unhid EE] at h; cases h⟩, unhid HB⟩
          · have EE := hid (show entB ⟨p, k, m, t⟩ = (pathB t.data.toList) by rw [unhid E1, hpp]; rfl)
            go_enter Tryz.func209, Tryz.ntmps209
            go_wp2_with fail
            refine (PathOk_any p hp _).mono ?_
            rintro x w2 ⟨rfl, hb⟩
            rw [hpp]
            have HB := hid ((unhid HB0).trans (hb.mono hz0))
            clear hb
            go_wp2_with fail
            refine upon_run (y := .ok (315, .agg #[.string t]) w2) (by kernel_rfl) ?_
            go_wp2_with fail
            refine (linkFine_any t ht w2).mono ?_
            rintro x w3 ⟨rfl, hb⟩
            have HB3 := hid ((unhid HB).trans (hb.mono (unhid HB).size))
            clear hb
            rw [← unhid EE]
            go_wp2_with fail
            go_ret2
            exact ⟨⟨_, rfl, .inr (unhid HN).symm, fun _ => (unhid HN).symm⟩, unhid HB3⟩
end Go.Proofs.YtoihhlkidlapmaaGreat
