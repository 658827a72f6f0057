/- Texts of this proof, one behind the other; each says at its head what it shows. -/
import Derived.Test.YtoihhlkidlapmaaGreatJoin4
import Derived.Laws.Cover1
import Derived.Test.YtoihhlkidlapmaaGreatJoin1
import Derived.Test.YtoihhlkidlapmaaGreatJoin2
import Derived.Maps.AppendAt
/- What the model calls an entry that is ok, and the place of a path in entries. -/
namespace Go.Proofs.YtoihhlkidlapmaaGreat
open Go.RowKit Go.Shelf

def txtB (c : Int) : Bool := c == 10 || (decide (32 ≤ c) && decide (c ≤ 126))
def textB (l : List UInt8) : Bool := decide (l.length ≤ 80) && l.all fun c => txtB c.toNat
def modeB (m : Int) : Bool := decide (0 ≤ m) && decide (m ≤ 7)
def entB (e : Ent) : Bool := pathB e.path.data.toList && (if e.kind = 1 then modeB e.mode && e.text.data.toList.isEmpty else if e.kind = 2 then modeB e.mode && textB e.text.data.toList else e.kind == 3 && (e.mode == 0 && pathB e.text.data.toList))

set_option maxRecDepth 100000 in
set_option maxHeartbeats 1000000 in
theorem l2Text_any (s : ByteArray) (hs : s.size ≤ maxLen) (w : World) :
    Calls Tryz.prog 179 #[.string s] w fun e w' => e = .returned (.bool (textB s.data.toList)) ∧ w' = w := by
  unfold maxLen at hs
  go_enter Tryz.func179, Tryz.ntmps179
  go_wp2_with fail
  go_loop [3] (fun i => ∃ k : Nat, k ≤ s.size ∧ i = .int .i64 k ∧ Hid ((s.data.toList.take k).all (fun c => txtB c.toNat) = true)) (fun i => s.size - (intOf i).toNat)
  case atStart => exact ⟨0, Nat.zero_le _, rfl, hid (by simp)⟩
  case round =>
    obtain ⟨k, hk, rfl, hall⟩ := hrel
    by_cases hlt : k < s.size
    · have hstep := hid (all_take_succ s k hlt (fun c => txtB c.toNat))
      have h255 : ((s[k]).toNat : Int) ≤ 255 := by have := UInt8.toNat_lt s[k]; omega
      have h000 : (0 : Int) ≤ (s[k]).toNat := by omega
      cases h10 : (((s[k]).toNat : Int) == 10)
      · cases hb : (decide ((32 : Int) ≤ (s[k]).toNat) && decide (((s[k]).toNat : Int) ≤ 126))
        · have ht : txtB ((s[k]).toNat : Int) = false := by unfold txtB; rw [h10, hb]; rfl
          have h10' : (((s[k]).toNat : Int) != 10) = true := by simp [bne, h10]
          go_wp2_with (go_at_call 178; refine (l1In_any _ _ _ _).mono ?_; rintro e w' ⟨rfl, rfl⟩; rw [hb])
          go_ret
          refine ⟨?_, rfl⟩
          have : (s.data.toList.all fun c => txtB c.toNat) = false := List.all_eq_false.2 ⟨s[k], by have := getByte s k hlt; exact List.mem_of_getElem? this, by simp [ht]⟩
          unfold textB
          rw [this]; simp
        · have ht : txtB ((s[k]).toNat : Int) = true := by unfold txtB; rw [h10, hb]; rfl
          have h10' : (((s[k]).toNat : Int) != 10) = true := by simp [bne, h10]
          go_wp2_with (go_at_call 178; refine (l1In_any _ _ _ _).mono ?_; rintro e w' ⟨rfl, rfl⟩; rw [hb])
          go_round
          case rel => exact ⟨k + 1, by omega, by go_num, hid (by rw [unhid hstep, unhid hall, ht]; rfl)⟩
          case measure => simp [intOf]; omega
      · have ht : txtB ((s[k]).toNat : Int) = true := by unfold txtB; rw [h10]; rfl
        have h10' : (((s[k]).toNat : Int) != 10) = false := by simp [bne, h10]
        go_wp2_with (go_at_call 178; refine (l1In_any _ _ _ _).mono ?_; rintro e w' ⟨rfl, rfl⟩)
        go_round
        case rel => exact ⟨k + 1, by omega, by go_num, hid (by rw [unhid hstep, unhid hall, ht]; rfl)⟩
        case measure => simp [intOf]; omega
    · have E := hid (show textB s.data.toList = decide ((s.size : Int) ≤ 80) by
        have h1 : (s.data.toList.all fun c => txtB c.toNat) = true := by have := unhid hall; rwa [List.take_of_length_le (by simp; omega)] at this
        unfold textB
        rw [h1, Bool.and_true, ← Lib.size_eq]
        exact decide_eq_decide.2 (by omega))
      go_wp2_with fail
      go_ret
      exact ⟨by rw [unhid E]; rfl, rfl⟩

set_option maxRecDepth 100000 in
set_option maxHeartbeats 4000000 in
theorem l2Entry_any (e : Ent) (hp : e.path.size ≤ 1048576) (ht : e.text.size ≤ 1048576) (w : World) :
    Calls Tryz.prog 107 #[.agg e.vals] w fun x w' => x = .returned (.bool (entB e)) ∧ Below w.heap.size w w' := by
  obtain ⟨p, k, m, t⟩ := e
  unfold Ent.vals
  dsimp only at hp ht ⊢
  have tm : t.size ≤ maxLen := by unfold maxLen; omega
  have hE : entB ⟨p, k, m, t⟩ = (pathB p.data.toList && (if k = 1 then modeB m && t.data.toList.isEmpty else if k = 2 then modeB m && textB t.data.toList else k == 3 && (m == 0 && pathB t.data.toList))) := rfl
  have E := hid hE
  clear hE
  have hB0 : Below w.heap.size w (w.alloc (.cells #[.string p, .int .i64 k, .int .i64 m, .string t] 57)) := (Below.refl _ w).alloc (Nat.le_refl _) _
  have hbx : ∀ j v, (#[Value.string p, .int .i64 k, .int .i64 m, .string t])[j]? = some v → (w.alloc (.cells #[.string p, .int .i64 k, .int .i64 m, .string t] 57)).cell? ⟨w.heap.size, j, .none⟩ = some v := fun j v h => by
    have := World.alloc_heap_new w (.cells #[.string p, .int .i64 k, .int .i64 m, .string t] 57)
    unfold World.cell?; dsimp only; rw [this]; exact h
  have x1 := hid (hbx 1 _ rfl)
  have x2 := hid (hbx 2 _ rfl)
  have x3 := hid (hbx 3 _ rfl)
  have HB0 := hid hB0
  clear hB0 hbx
  have hz : w.heap.size < (w.alloc (.cells #[.string p, .int .i64 k, .int .i64 m, .string t] 57)).heap.size := by simp
  cases hpp : pathB p.data.toList
  · go_enter Tryz.func107, Tryz.ntmps107
    go_wp2_with fail
    refine (l1Path_any p hp _).mono ?_
    rintro x w1 ⟨rfl, hb⟩
    rw [hpp]
    have HB1 := hid ((unhid HB0).trans (hb.mono (unhid HB0).size))
    clear hb
    go_wp2_with fail
    go_ret
    exact ⟨by rw [unhid E, hpp]; rfl, unhid HB1⟩
  · have tail : ∀ (R : Bool), (if k = 1 then modeB m && t.data.toList.isEmpty else if k = 2 then modeB m && textB t.data.toList else k == 3 && (m == 0 && pathB t.data.toList)) = R → entB ⟨p, k, m, t⟩ = R := fun R h => by rw [unhid E, hpp, h]; rfl
    have TL := hid tail
    clear tail
    by_cases k1 : k = 1
    · subst k1
      cases hm : (decide ((0 : Int) ≤ m) && decide (m ≤ 7))
      · have EE := hid (unhid TL false (by rw [if_pos rfl]; unfold modeB; rw [hm]; rfl))
        go_enter Tryz.func107, Tryz.ntmps107
        go_wp2_with fail
        refine (l1Path_any p hp _).mono ?_
        rintro x w1 ⟨rfl, hb⟩
        rw [hpp]
        have c1 := (hb.cell (p := ⟨w.heap.size, 1, .none⟩) hz).trans (unhid x1)
        have c2 := (hb.cell (p := ⟨w.heap.size, 2, .none⟩) hz).trans (unhid x2)
        have c3 := (hb.cell (p := ⟨w.heap.size, 3, .none⟩) hz).trans (unhid x3)
        have HB1 := hid ((unhid HB0).trans (hb.mono (unhid HB0).size))
        clear hb
        go_wp2_with (go_at_call 178; refine (l1In_any _ _ _ _).mono ?_; rintro e w' ⟨rfl, rfl⟩; rw [hm])
        go_ret
        exact ⟨by rw [unhid EE]; rfl, unhid HB1⟩
      · have EE := hid (unhid TL t.toList.isEmpty (by rw [if_pos rfl]; unfold modeB; rw [hm, Lib.toList_data]; rfl))
        go_enter Tryz.func107, Tryz.ntmps107
        go_wp2_with fail
        refine (l1Path_any p hp _).mono ?_
        rintro x w1 ⟨rfl, hb⟩
        rw [hpp]
        have c1 := (hb.cell (p := ⟨w.heap.size, 1, .none⟩) hz).trans (unhid x1)
        have c2 := (hb.cell (p := ⟨w.heap.size, 2, .none⟩) hz).trans (unhid x2)
        have c3 := (hb.cell (p := ⟨w.heap.size, 3, .none⟩) hz).trans (unhid x3)
        have HB1 := hid ((unhid HB0).trans (hb.mono (unhid HB0).size))
        clear hb
        go_wp2_with (go_at_call 178; refine (l1In_any _ _ _ _).mono ?_; rintro e w' ⟨rfl, rfl⟩; rw [hm])
        go_ret
        exact ⟨by rw [unhid EE]; rfl, unhid HB1⟩
    · have k1' : (k == 1) = false := by simpa using k1
      by_cases k2 : k = 2
      · subst k2
        cases hm : (decide ((0 : Int) ≤ m) && decide (m ≤ 7))
        · have EE := hid (unhid TL false (by rw [if_neg (by omega), if_pos rfl]; unfold modeB; rw [hm]; rfl))
          go_enter Tryz.func107, Tryz.ntmps107
          go_wp2_with fail
          refine (l1Path_any p hp _).mono ?_
          rintro x w1 ⟨rfl, hb⟩
          rw [hpp]
          have c1 := (hb.cell (p := ⟨w.heap.size, 1, .none⟩) hz).trans (unhid x1)
          have c2 := (hb.cell (p := ⟨w.heap.size, 2, .none⟩) hz).trans (unhid x2)
          have c3 := (hb.cell (p := ⟨w.heap.size, 3, .none⟩) hz).trans (unhid x3)
          have HB1 := hid ((unhid HB0).trans (hb.mono (unhid HB0).size))
          clear hb
          go_wp2_with (go_at_call 178; refine (l1In_any _ _ _ _).mono ?_; rintro e w' ⟨rfl, rfl⟩; rw [hm])
          go_ret
          exact ⟨by rw [unhid EE]; rfl, unhid HB1⟩
        · have EE := hid (unhid TL (textB t.data.toList) (by rw [if_neg (by omega), if_pos rfl]; unfold modeB; rw [hm]; rfl))
          go_enter Tryz.func107, Tryz.ntmps107
          go_wp2_with fail
          refine (l1Path_any p hp _).mono ?_
          rintro x w1 ⟨rfl, hb⟩
          rw [hpp]
          have c1 := (hb.cell (p := ⟨w.heap.size, 1, .none⟩) hz).trans (unhid x1)
          have c2 := (hb.cell (p := ⟨w.heap.size, 2, .none⟩) hz).trans (unhid x2)
          have c3 := (hb.cell (p := ⟨w.heap.size, 3, .none⟩) hz).trans (unhid x3)
          have HB1 := hid ((unhid HB0).trans (hb.mono (unhid HB0).size))
          clear hb
          go_wp2_with (first | (go_at_call 178; refine (l1In_any _ _ _ _).mono ?_; rintro e w' ⟨rfl, rfl⟩; rw [hm]) | (go_at_call 179; refine (l2Text_any _ tm _).mono ?_; rintro e w' ⟨rfl, rfl⟩))
          go_ret
          exact ⟨by rw [unhid EE]; rfl, unhid HB1⟩
      · have k2' : (k == 2) = false := by simpa using k2
        cases k3 : (k == 3)
        · have EE := hid (unhid TL false (by rw [if_neg k1, if_neg k2, k3]; rfl))
          go_enter Tryz.func107, Tryz.ntmps107
          go_wp2_with fail
          refine (l1Path_any p hp _).mono ?_
          rintro x w1 ⟨rfl, hb⟩
          rw [hpp]
          have c1 := (hb.cell (p := ⟨w.heap.size, 1, .none⟩) hz).trans (unhid x1)
          have HB1 := hid ((unhid HB0).trans (hb.mono (unhid HB0).size))
          clear hb
          go_wp2_with fail
          go_ret
          exact ⟨by rw [unhid EE]; rfl, unhid HB1⟩
        · cases m0 : (m == 0)
          · have EE := hid (unhid TL false (by rw [if_neg k1, if_neg k2, k3, m0]; rfl))
            go_enter Tryz.func107, Tryz.ntmps107
            go_wp2_with fail
            refine (l1Path_any p hp _).mono ?_
            rintro x w1 ⟨rfl, hb⟩
            rw [hpp]
            have c1 := (hb.cell (p := ⟨w.heap.size, 1, .none⟩) hz).trans (unhid x1)
            have c2 := (hb.cell (p := ⟨w.heap.size, 2, .none⟩) hz).trans (unhid x2)
            have HB1 := hid ((unhid HB0).trans (hb.mono (unhid HB0).size))
            clear hb
            go_wp2_with fail
            go_ret
            exact ⟨by rw [unhid EE]; rfl, unhid HB1⟩
          · have EE := hid (unhid TL (pathB t.data.toList) (by rw [if_neg k1, if_neg k2, k3, m0]; rfl))
            go_enter Tryz.func107, Tryz.ntmps107
            go_wp2_with fail
            refine (l1Path_any p hp _).mono ?_
            rintro x w1 ⟨rfl, hb⟩
            rw [hpp]
            have c1 := (hb.cell (p := ⟨w.heap.size, 1, .none⟩) hz).trans (unhid x1)
            have c2 := (hb.cell (p := ⟨w.heap.size, 2, .none⟩) hz).trans (unhid x2)
            have c3 := (hb.cell (p := ⟨w.heap.size, 3, .none⟩) hz).trans (unhid x3)
            have HB1 := hid ((unhid HB0).trans (hb.mono (unhid HB0).size))
            clear hb
            go_wp2_with fail
            refine (l1Path_any t ht _).mono ?_
            rintro x w2 ⟨rfl, hb⟩
            have HB2 := hid ((unhid HB1).trans (hb.mono (unhid HB1).size))
            clear hb
            go_wp2_with fail
            go_ret
            exact ⟨by rw [unhid EE]; rfl, unhid HB2⟩
end Go.Proofs.YtoihhlkidlapmaaGreat

/- The place of a path in entries, by the model; the order of texts. -/
namespace Go.Proofs.YtoihhlkidlapmaaGreat
open Go.RowKit Go.Shelf

theorem lt_irr : ∀ x : List UInt8, Op.bytesLess x x = false
  | [] => rfl
  | a :: x => by
    have h : ¬ a < a := by rw [UInt8.lt_iff_toNat_lt]; omega
    simp [Op.bytesLess, lt_irr x, h]
theorem lt_tot : ∀ x y : List UInt8, Op.bytesLess x y = false → Op.bytesLess y x = false → x = y
  | [], [], _, _ => rfl
  | [], _ :: _, h, _ => by simp [Op.bytesLess] at h
  | _ :: _, [], _, h => by simp [Op.bytesLess] at h
  | a :: x, b :: y, h, g => by
    simp only [Op.bytesLess, Bool.or_eq_false_iff, decide_eq_false_iff_not, Bool.and_eq_false_iff, beq_eq_false_iff_ne] at h g
    have e : a = b := by
      apply UInt8.toNat_inj.1
      have h1 := h.1
      have g1 := g.1
      rw [UInt8.lt_iff_toNat_lt] at h1 g1
      omega
    subst e
    rw [lt_tot x y (h.2.resolve_left (fun h => h rfl)) (g.2.resolve_left (fun h => h rfl))]
theorem lt_tra : ∀ x y z : List UInt8, Op.bytesLess x y = true → Op.bytesLess y z = true → Op.bytesLess x z = true
  | _, [], _, h, _ => by simp [Op.bytesLess] at h
  | _, _ :: _, [], _, h => by simp [Op.bytesLess] at h
  | [], _ :: _, _ :: _, _, _ => rfl
  | a :: x, b :: y, c :: z, h, g => by
    simp only [Op.bytesLess, Bool.or_eq_true, decide_eq_true_eq, Bool.and_eq_true, beq_iff_eq] at h g ⊢
    rw [UInt8.lt_iff_toNat_lt] at *
    rcases h with h | ⟨rfl, h⟩ <;> rcases g with g | ⟨rfl, g⟩
    · exact .inl (by omega)
    · exact .inl h
    · exact .inl g
    · exact .inr ⟨rfl, lt_tra x y z h g⟩

def ltS (a b : ByteArray) : Bool := Op.bytesLess a.toList b.toList
def eqS (a b : ByteArray) : Bool := a.toList == b.toList
theorem eqS_iff (a b : ByteArray) : eqS a b = true ↔ a = b := by
  unfold eqS
  rw [beq_iff_eq, Lib.toList_data, Lib.toList_data]
  exact ⟨ba_ext, fun h => by rw [h]⟩
/-- Where a path is in entries, or would come; whether it is there. -/
def placeE (es : List Ent) (p : ByteArray) : Nat := (es.takeWhile fun e => ltS e.path p).length
def thereE (es : List Ent) (p : ByteArray) : Bool := (es[placeE es p]?).any fun e => eqS e.path p
theorem placeE_le (es : List Ent) (p : ByteArray) : placeE es p ≤ es.length := by
  unfold placeE; exact (List.takeWhile_prefix _).length_le
theorem place_of : ∀ (es : List Ent) (p : ByteArray) (k : Nat), k ≤ es.length → (∀ (i : Nat) e, i < k → es[i]? = some e → ltS e.path p = true) → (∀ e, es[k]? = some e → ltS e.path p = false) → placeE es p = k
  | [], _, k, hk, _, _ => by simp at hk; subst hk; rfl
  | e :: es, p, 0, _, _, h2 => by
    have := h2 e rfl
    unfold placeE; rw [List.takeWhile_cons]; simp [this]
  | e :: es, p, k + 1, hk, h1, h2 => by
    have h0 := h1 0 e (Nat.succ_pos _) rfl
    have ih := place_of es p k (by simpa using hk) (fun i x hi hx => h1 (i + 1) x (by omega) (by simpa using hx)) (fun x hx => h2 x (by simpa using hx))
    unfold placeE at ih ⊢
    rw [List.takeWhile_cons]; simp [h0, ih]

set_option maxRecDepth 100000 in
set_option maxHeartbeats 2000000 in
theorem l2At_any (es : List Ent) (a : Option Addr) (cap : Nat) (p : ByteArray) (w : World) (hlen : es.length ≤ 1048576) (h : EntsAt w a es) :
    Calls Tryz.prog 79 #[.slice a es.length cap, .string p] w fun x w' => x = .returned (.tuple #[.int .i64 (placeE es p), .bool (thereE es p)]) ∧ ∃ n, w' = w.drewN n := by
  go_enter Tryz.func79, Tryz.ntmps79
  go_wp2_with fail
  go_loop [6] (fun i => ∃ k : Nat, k ≤ es.length ∧ i = .int .i64 k ∧ Hid (∀ (i : Nat) e, i < k → es[i]? = some e → ltS e.path p = true)) (fun i => es.length - (intOf i).toNat)
  case atStart => exact ⟨0, Nat.zero_le _, rfl, hid (fun i e hi => by omega)⟩
  case round =>
    obtain ⟨k, hk, rfl, hall⟩ := hrel
    by_cases hlt : k < es.length
    · obtain ⟨e, he⟩ : ∃ e, es[k]? = some e := ⟨es[k], List.getElem?_eq_getElem hlt⟩
      obtain ⟨b, o, rfl, hbl, hc⟩ := h.get (by intro e; subst e; simp at hlt)
      obtain ⟨c0, c1, c2, c3⟩ := hc k e he
      have HE := hid he
      clear hc he h
      cases hq : Op.bytesLess e.path.toList p.toList
      · have hpl : placeE es p = k := place_of es p k hk (unhid hall) (fun x hx => by rw [unhid HE] at hx; cases hx; exact hq)
        have hth : thereE es p = (e.path.toList == p.toList) := by unfold thereE; rw [hpl, unhid HE]; rfl
        have HP := hid (And.intro hpl hth)
        clear hpl hth
        go_wp2_with fail
        go_quiet (fail)
        go_wp2_with fail
        go_ret2
        exact ⟨by rw [(unhid HP).1, (unhid HP).2]; rfl, _, rfl⟩
      · go_wp2_with fail
        go_round
        case rel => exact ⟨k + 1, by omega, by go_num, hid (fun i x hi hx => by
          by_cases ei : i = k
          · subst ei; rw [unhid HE] at hx; cases hx; exact hq
          · exact unhid hall i x (by omega) hx)⟩
        case measure => simp [intOf]; omega
    · have hpl : placeE es p = k := place_of es p k hk (unhid hall) (fun x hx => by have := (List.getElem?_eq_some_iff.1 hx).1; omega)
      have hth : thereE es p = false := by unfold thereE; rw [hpl, List.getElem?_eq_none (by omega)]; rfl
      have HP := hid (And.intro hpl hth)
      have hlt' : ¬ (k : Int) < es.length := by omega
      clear hpl hth h
      go_wp2_with fail
      go_quiet (fail)
      go_wp2_with fail
      go_ret2
      exact ⟨by rw [(unhid HP).1, (unhid HP).2]; rfl, _, rfl⟩
end Go.Proofs.YtoihhlkidlapmaaGreat

/- Whether a place is a dir of entries, by the model. -/
namespace Go.Proofs.YtoihhlkidlapmaaGreat
open Go.RowKit Go.Shelf

def dirE (es : List Ent) (q : ByteArray) : Bool := q.toList.isEmpty || (thereE es q && (entFn es (placeE es q)).kind == 1)
def sortAt (es : List Ent) (i : Nat) : Bool := entB (entFn es i) && (i == 0 || ltS (entFn es (i - 1)).path (entFn es i).path)
def treeB (es : List Ent) : Bool := (List.range es.length).all (sortAt es) && (List.range es.length).all (fun i => dirE es (upS (entFn es i).path)) && decide (es.length ≤ 16)

theorem EntsAt.drewN {W : World} {a : Option Addr} {es : List Ent} (h : EntsAt W a es) (n : Nat) : EntsAt (W.drewN n) a es := h.below (drewN_below _ _)
set_option maxRecDepth 100000 in
set_option maxHeartbeats 2000000 in
theorem l2Dir_any (es : List Ent) (a : Option Addr) (cap : Nat) (q : ByteArray) (w : World) (hlen : es.length ≤ 1048576) (h : EntsAt w a es) :
    Calls Tryz.prog 108 #[.slice a es.length cap, .string q] w fun x w' => x = .returned (.bool (dirE es q)) ∧ ∃ n, w' = w.drewN n := by
  have HH := hid h
  cases he : q.toList.isEmpty
  · cases ht : thereE es q
    · have E := hid (show dirE es q = false by unfold dirE; rw [he, ht]; rfl)
      clear h
      go_enter Tryz.func108, Tryz.ntmps108
      go_wp2_with fail
      refine (l2At_any es a cap q _ hlen (unhid HH)).mono ?_
      rintro x w' ⟨rfl, n, rfl⟩
      rw [ht]
      go_wp2_with fail
      go_ret
      exact ⟨by rw [unhid E]; rfl, _, rfl⟩
    · obtain ⟨e, hek, heq⟩ : ∃ e, es[placeE es q]? = some e ∧ eqS e.path q = true := by
        unfold thereE at ht
        cases hx : es[placeE es q]? with
        | none => rw [hx] at ht; cases ht
        | some e => rw [hx] at ht; exact ⟨e, rfl, ht⟩
      have hkl : placeE es q < es.length := (List.getElem?_eq_some_iff.1 hek).1
      obtain ⟨b, o, rfl, hbl, hc⟩ := h.get (by intro e; subst e; simp at hkl)
      obtain ⟨c0, c1, c2, c3⟩ := hc _ e hek
      have E := hid (show dirE es q = (e.kind == 1) by unfold dirE; rw [he, ht, entFn_get hek]; rfl)
      clear hc hek heq h
      go_enter Tryz.func108, Tryz.ntmps108
      go_wp2_with fail
      refine (l2At_any es _ cap q _ hlen (unhid HH)).mono ?_
      rintro x w' ⟨rfl, n, rfl⟩
      rw [ht]
      go_wp2_with fail
      go_ret
      exact ⟨by rw [unhid E]; rfl, _, rfl⟩
  · have E := hid (show dirE es q = true by unfold dirE; rw [he]; rfl)
    clear h
    go_enter Tryz.func108, Tryz.ntmps108
    go_wp2_with fail
    refine (l2At_any es a cap q _ hlen (unhid HH)).mono ?_
    rintro x w' ⟨rfl, n, rfl⟩
    go_wp2_with fail
    go_ret
    exact ⟨by rw [unhid E]; rfl, _, rfl⟩

end Go.Proofs.YtoihhlkidlapmaaGreat

/- Whether entries are a tree, by the model. -/
namespace Go.Proofs.YtoihhlkidlapmaaGreat
open Go.RowKit Go.Shelf

def smallE (es : List Ent) : Prop := es.length ≤ 1048576 ∧ ∀ e ∈ es, e.path.size ≤ 1048576 ∧ e.text.size ≤ 1048576
theorem all_range_no {n k : Nat} {f : Nat → Bool} (hk : k < n) (h : f k = false) : (List.range n).all f = false := List.all_eq_false.2 ⟨k, List.mem_range.2 hk, by simp [h]⟩
theorem all_range_snoc {k : Nat} {f : Nat → Bool} (ha : (List.range k).all f = true) (h : f k = true) : (List.range (k + 1)).all f = true := by rw [List.range_succ, List.all_append, ha]; simp [h]

set_option maxRecDepth 100000 in
set_option maxHeartbeats 8000000 in
theorem specTreeOk_any (es : List Ent) (a : Option Addr) (cap : Nat) (w : World) (hs : smallE es) (h : EntsAt w a es) :
    Calls Tryz.prog 53 #[.slice a es.length cap] w fun x w' => x = .returned (.bool (treeB es)) ∧ Below w.heap.size w w' := by
  obtain ⟨hlen, hz⟩ := hs
  have HH := hid h
  have HZ := hid hz
  clear h hz
  go_enter Tryz.func53, Tryz.ntmps53
  go_wp2_with fail
  go_loopw [3] (fun i wr => ∃ k : Nat, k ≤ es.length ∧ i = .int .i64 k ∧ Hid ((List.range k).all (sortAt es) = true) ∧ Below w.heap.size w wr) (fun i _ => es.length - (intOf i).toNat)
  case atStart => exact ⟨0, Nat.zero_le _, rfl, hid rfl, Below.refl _ _⟩
  case round =>
    obtain ⟨k, hk, rfl, hall, hB⟩ := hrel
    by_cases hlt : k < es.length
    · obtain ⟨e, he⟩ : ∃ e, es[k]? = some e := ⟨es[k], List.getElem?_eq_getElem hlt⟩
      obtain ⟨b, o, rfl, hbl, hc⟩ := (unhid HH).get (by intro e; subst e; simp at hlt)
      obtain ⟨c0, c1, c2, c3⟩ := (hc k e he).below hB hbl
      obtain ⟨z1, z2⟩ := unhid HZ e (List.mem_of_getElem? he)
      have hf := entFn_get he
      have HB := hid hB
      have hbw := Nat.lt_of_lt_of_le hbl hB.size
      have g0 := BW.cell (B := wr.heap.size) hbw c0
      have g1 := BW.cell (B := wr.heap.size) hbw c1
      have g2 := BW.cell (B := wr.heap.size) hbw c2
      have g3 := BW.cell (B := wr.heap.size) hbw c3
      cases he1 : entB e
      · have hno : sortAt es k = false := by unfold sortAt; rw [hf, he1]; rfl
        have E := hid (show treeB es = false by unfold treeB; rw [all_range_no hlt hno]; rfl)
        clear hc he hf hno hB c0 c1 c2 c3
        go_wp2_with fail
        have hba := @BW.all wr.heap.size wr
        refine calm_region wr.heap.size (by kernel_rfl) (by kernel_rfl) ?_
        repeat (go_big_quiet_step ((go_at_call 107; refine Calls.bw (v := .bool false) (Nat.le_refl _) ((l2Entry_any e z1 z2 _).mono ?_); rintro r w2 ⟨rfl, hb⟩; exact ⟨by rw [he1], hb⟩)))
        refine wpQuiet_nil ?_
        intro _ hw
        obtain ⟨⟨w2, hB2⟩, hw⟩ := hw
        subst hw
        have HB2 := hid ((unhid HB).trans (hB2.mono (unhid HB).size))
        clear hB2 hba g0 g1 g2 g3
        go_wp2_with fail
        go_ret
        exact ⟨by rw [unhid E]; rfl, unhid HB2⟩
      · rcases k with _ | j
        · have hyes : sortAt es 0 = true := by unfold sortAt; rw [hf, he1]; rfl
          have HY := hid (all_range_snoc (unhid hall) hyes)
          simp only [Nat.zero_mul, Nat.add_zero] at g0 g1 g2 g3
          clear hc he hf hyes hB c0 c1 c2 c3
          go_wp2_with fail
          have hba := @BW.all wr.heap.size wr
          refine calm_region wr.heap.size (by kernel_rfl) (by kernel_rfl) ?_
          repeat (go_big_quiet_step ((go_at_call 107; refine Calls.bw (v := .bool true) (Nat.le_refl _) ((l2Entry_any e z1 z2 _).mono ?_); rintro r w2 ⟨rfl, hb⟩; exact ⟨by rw [he1], hb⟩)))
          refine wpQuiet_nil ?_
          intro _ hw
          obtain ⟨⟨w2, hB2⟩, hw⟩ := hw
          subst hw
          have HB2 := hid ((unhid HB).trans (hB2.mono (unhid HB).size))
          clear hB2 hba g0 g1 g2 g3
          go_wp2_with fail
          go_roundw
          case rel => exact ⟨1, by omega, rfl, HY, unhid HB2⟩
          case measure => simp [intOf]; omega
        · obtain ⟨e0, he0⟩ : ∃ e, es[j]? = some e := ⟨es[j], List.getElem?_eq_getElem (by omega)⟩
          have hf0 := entFn_get he0
          have d0 := ((hc j e0 he0).below hB hbl).c0
          have y0 := BW.cell (B := wr.heap.size) hbw d0
          have hk0' : (0 : Int) < (j : Int) + 1 := by omega
          cases hq : Op.bytesLess e0.path.toList e.path.toList
          · have hno : sortAt es (j + 1) = false := by unfold sortAt ltS; rw [hf, Nat.add_sub_cancel, hf0, he1, hq]; rfl
            have E := hid (show treeB es = false by unfold treeB; rw [all_range_no hlt hno]; rfl)
            clear hc he hf hno hB c0 c1 c2 c3 he0 hf0 d0
            go_wp2_with fail
            have hba := @BW.all wr.heap.size wr
            refine calm_region wr.heap.size (by kernel_rfl) (by kernel_rfl) ?_
            repeat (go_big_quiet_step ((go_at_call 107; refine Calls.bw (v := .bool true) (Nat.le_refl _) ((l2Entry_any e z1 z2 _).mono ?_); rintro r w2 ⟨rfl, hb⟩; exact ⟨by rw [he1], hb⟩)))
            refine wpQuiet_nil ?_
            intro _ hw
            obtain ⟨⟨w2, hB2⟩, hw⟩ := hw
            subst hw
            have HB2 := hid ((unhid HB).trans (hB2.mono (unhid HB).size))
            clear hB2 hba g0 g1 g2 g3
            go_wp2_with fail
            go_ret
            exact ⟨by rw [unhid E]; rfl, unhid HB2⟩
          · have hyes : sortAt es (j + 1) = true := by unfold sortAt ltS; rw [hf, Nat.add_sub_cancel, hf0, he1, hq]; rfl
            have HY := hid (all_range_snoc (unhid hall) hyes)
            clear hc he hf hyes hB c0 c1 c2 c3 he0 hf0 d0
            go_wp2_with fail
            have hba := @BW.all wr.heap.size wr
            refine calm_region wr.heap.size (by kernel_rfl) (by kernel_rfl) ?_
            repeat (go_big_quiet_step ((go_at_call 107; refine Calls.bw (v := .bool true) (Nat.le_refl _) ((l2Entry_any e z1 z2 _).mono ?_); rintro r w2 ⟨rfl, hb⟩; exact ⟨by rw [he1], hb⟩)))
            refine wpQuiet_nil ?_
            intro _ hw
            obtain ⟨⟨w2, hB2⟩, hw⟩ := hw
            subst hw
            have HB2 := hid ((unhid HB).trans (hB2.mono (unhid HB).size))
            clear hB2 hba g0 g1 g2 g3
            go_wp2_with fail
            go_roundw
            case rel => exact ⟨j + 1 + 1, by omega, by go_num, HY, unhid HB2⟩
            case measure => simp [intOf]; omega
    · have hke : k = es.length := by omega
      have HSO := hid (show (List.range es.length).all (sortAt es) = true by rw [← hke]; exact unhid hall)
      have HB := hid hB
      have hlt' : ¬ (k : Int) < es.length := by omega
      clear hall hke hB
      go_wp2_with fail
      go_loopw [4] (fun i wr => ∃ k : Nat, k ≤ es.length ∧ i = .int .i64 k ∧ Hid ((List.range k).all (fun i => dirE es (upS (entFn es i).path)) = true) ∧ Below w.heap.size w wr) (fun i _ => es.length - (intOf i).toNat)
      case atStart => exact ⟨0, Nat.zero_le _, rfl, hid rfl, unhid HB⟩
      case round =>
        obtain ⟨k, hk, rfl, hall, hB⟩ := hrel
        clear HB
        by_cases hlt : k < es.length
        · obtain ⟨e, he⟩ : ∃ e, es[k]? = some e := ⟨es[k], List.getElem?_eq_getElem hlt⟩
          have hAt := (unhid HH).below (W' := wr) ⟨hB.os, hB.tape, hB.output, hB.size, hB.block⟩
          obtain ⟨b, o, rfl, hbl, hc⟩ := (unhid HH).get (by intro e; subst e; simp at hlt)
          obtain ⟨c0, c1, c2, c3⟩ := (hc k e he).below hB hbl
          obtain ⟨z1, z2⟩ := unhid HZ e (List.mem_of_getElem? he)
          have zm : e.path.size ≤ maxLen := by unfold maxLen; omega
          have HF := hid (entFn_get he)
          have HB := hid hB
          have HA := hid hAt
          clear hc he hB hAt
          cases hd : dirE es (upS e.path)
          · have E := hid (show treeB es = false by unfold treeB; rw [all_range_no (f := fun i => dirE es (upS (entFn es i).path)) hlt (by rw [unhid HF]; exact hd)]; simp)
            go_wp2_with (first | (go_at_call 109; refine (l1Up_any _ zm _).mono ?_; rintro r w2 ⟨rfl, rfl⟩) | (go_at_call 108; refine (l2Dir_any es _ cap _ _ hlen (unhid HA)).mono ?_; rintro r w2 ⟨rfl, n, rfl⟩; rw [hd]))
            go_ret
            exact ⟨by rw [unhid E]; rfl, (unhid HB).trans (drewN_below _ _)⟩
          · go_wp2_with (first | (go_at_call 109; refine (l1Up_any _ zm _).mono ?_; rintro r w2 ⟨rfl, rfl⟩) | (go_at_call 108; refine (l2Dir_any es _ cap _ _ hlen (unhid HA)).mono ?_; rintro r w2 ⟨rfl, n, rfl⟩; rw [hd]))
            go_roundw
            case rel => exact ⟨k + 1, by omega, by go_num, hid (all_range_snoc (unhid hall) (by rw [unhid HF]; exact hd)), (unhid HB).trans (drewN_below _ _)⟩
            case measure => simp [intOf]; omega
        · have hke : k = es.length := by omega
          have E := hid (show treeB es = decide ((es.length : Int) ≤ 16) by
            unfold treeB
            rw [unhid HSO, show (List.range es.length).all (fun i => dirE es (upS (entFn es i).path)) = true by rw [← hke]; exact unhid hall]
            exact decide_eq_decide.2 (by omega))
          have hlt' : ¬ (k : Int) < es.length := by omega
          clear hke
          go_wp2_with fail
          go_ret
          exact ⟨by rw [unhid E]; rfl, hB⟩
end Go.Proofs.YtoihhlkidlapmaaGreat

/- Entries, between the two words for them. -/
namespace Go.Proofs.YtoihhlkidlapmaaGreat
open Go.RowKit

def entD (d : entryC.D) : Ent := ⟨EntryD.path d, EntryD.kind d, EntryD.mode d, EntryD.text d⟩
def entsD (ds : List entryC.D) : List Ent := List.map (α := entryC.D) entD ds
theorem entsD_len (ds : List entryC.D) : (entsD ds).length = ds.length := by unfold entsD; exact List.length_map _
theorem entsD_at {W : World} {v : Value} {ds : List entryC.D} (h : rowAt entryC W v ds) : ∃ (a : Option Addr) (cap : Nat), v = .slice a (entsD ds).length cap ∧ (a = none → cap = 0) ∧ (entsD ds).length ≤ cap ∧ EntsAt W a (entsD ds) := by
  obtain ⟨a, cap, hv, hn, hc, h⟩ := h
  refine ⟨a, cap, by rw [entsD_len]; exact hv, hn, by rw [entsD_len]; exact hc, ?_⟩
  rcases h with rfl | ⟨b, o, ha, hl, hcell⟩
  · exact .inl rfl
  · refine .inr ⟨b, o, ha, hl, fun i e hi => ?_⟩
    unfold entsD at hi
    rw [List.getElem?_map] at hi
    cases hd : ds[i]? with
    | none => rw [hd] at hi; cases hi
    | some d =>
      rw [hd] at hi
      cases hi
      obtain ⟨cs, hat, hc⟩ := hcell i d hd
      obtain rfl := entryC_at hat
      exact ⟨hc 0 _ rfl, hc 1 _ rfl, hc 2 _ rfl, hc 3 _ rfl⟩
theorem smallE_of {ds : List entryC.D} (h : ds.length + szR entryC ds ≤ 1048576) : smallE (entsD ds) := by
  refine ⟨by rw [entsD_len]; omega, fun e he => ?_⟩
  unfold entsD at he
  obtain ⟨d, hd, rfl⟩ := List.mem_map.1 he
  have h1 := szR_mem hd
  have h2 : entryC.sz d = (EntryD.path d).size + (0 + (0 + (EntryD.text d).size)) := rfl
  exact ⟨show (EntryD.path d).size ≤ _ by omega, show (EntryD.text d).size ≤ _ by omega⟩
/-- Back. -/
def dEnt (e : Ent) : entryC.D := (⟨e.path, e.kind, e.mode, e.text⟩ : EntryD)
def dEnts (es : List Ent) : List entryC.D := List.map (β := entryC.D) dEnt es
theorem entsD_back (es : List Ent) : entsD (dEnts es) = es := by
  unfold entsD dEnts
  rw [List.map_map]
  exact List.map_id' es
end Go.Proofs.YtoihhlkidlapmaaGreat

/- Pack: what the laws' own functions of it do. (Written by mkshape.py.) -/
namespace Go.Proofs.YtoihhlkidlapmaaGreat
open Go.RowKit Go.Shelf

structure PackD where
  name : ByteArray
  version : ByteArray
  needs : List needC.D
  tree : List entryC.D
def packC : CK := isoC (pairC txtC (pairC txtC (pairC (rowC needC 36) (rowC entryC 57)))) PackD (fun d => (d.name, (d.version, (d.needs, d.tree)))) (fun p => ⟨p.1, p.2.1, p.2.2.1, p.2.2.2⟩)
theorem packC_at {W : World} {cs : List Value} {d : PackD} (h : packC.at_ W cs d) : ∃ v2 v3 : Value, cs = [.string d.name, .string d.version, v2, v3] ∧ rowAt needC W v2 d.needs ∧ rowAt entryC W v3 d.tree := by
  obtain ⟨c0, e0, rfl, rfl, ⟨c1, e1, rfl, rfl, ⟨c2, e2, rfl, ⟨v2, rfl, h2⟩, ⟨v3, rfl, h3⟩⟩⟩⟩ := h
  exact ⟨v2, v3, rfl, h2, h3⟩
def packC_is (W : World) (cs : List Value) (d : PackD) (F : List Nat) : Prop := ∃ (v2 v3 : Value) (F2 F3 : List Nat), cs = [.string d.name, .string d.version, v2, v3] ∧ F = F2 ++ F3 ∧ rowOwn needC 36 W v2 d.needs F2 ∧ rowOwn entryC 57 W v3 d.tree F3 ∧ (∀ k ∈ F2, k ∉ F3)
theorem packC_own {W : World} {cs : List Value} {d : PackD} {F : List Nat} (h : packC.own W cs d F) : packC_is W cs d F := by
  obtain ⟨c0, e0, F0, G0, rfl, rfl, ⟨rfl, rfl⟩, ⟨c1, e1, F1, G1, rfl, rfl, ⟨rfl, rfl⟩, ⟨c2, e2, F2, G2, rfl, rfl, ⟨v2, rfl, h2⟩, ⟨v3, rfl, h3⟩, a2⟩, a1⟩, a0⟩ := h
  exact ⟨v2, v3, F2, _, rfl, by simp, h2, h3, fun k hk e => a2 k hk (by simp [e])⟩
theorem packC_mk {W : World} {cs : List Value} {d : PackD} {F : List Nat} (h : packC_is W cs d F) : packC.own W cs d F := by
  obtain ⟨v2, v3, F2, F3, rfl, rfl, h2, h3, a23⟩ := h
  exact ⟨[_], _, [], F2 ++ F3, rfl, by simp, ⟨rfl, rfl⟩, ⟨[_], _, [], F2 ++ F3, rfl, by simp, ⟨rfl, rfl⟩, ⟨[_], _, F2, F3, rfl, by simp, ⟨v2, rfl, h2⟩, ⟨v3, rfl, h3⟩, fun k hk => a23 k hk⟩, fun k hk => by cases hk⟩, fun k hk => by cases hk⟩
theorem packC_sz (d : PackD) : packC.sz d = d.name.size + d.version.size + (d.needs.length + szR needC d.needs) + (d.tree.length + szR entryC d.tree) := by
  show d.name.size + (d.version.size + ((d.needs.length + szR needC d.needs) + ((d.tree.length + szR entryC d.tree)))) = _
  omega

set_option maxRecDepth 100000 in
set_option maxHeartbeats 4000000 in
theorem vszPack_any (d : PackD) (cs : List Value) (left : Int) (w : World) (hb : packC.big d) (hl : 0 ≤ left) (hl2 : left ≤ 1048576) (h : packC.at_ w cs d) :
    Calls Tryz.prog 71 #[.agg cs.toArray, .int .i64 left] w fun x w' => (∃ r : Int, x = .returned (.int .i64 r) ∧ r ≤ left ∧ (r < 0 ∨ r + packC.sz d = left)) ∧ Below w.heap.size w w' := by
  rw [packC_sz]
  obtain ⟨v2, v3, rfl, h2, h3⟩ := packC_at h
  obtain ⟨name, version, needs, tree⟩ := d
  dsimp only at *
  obtain ⟨b0, b1, b2, b3⟩ := hb
  have b0' : name.size ≤ 9223372036854775807 := b0
  have b1' : version.size ≤ 9223372036854775807 := b1
  have H2 := hid h2
  have B2 := hid b2
  have H3 := hid h3
  have B3 := hid b3
  clear h h2 h3 b0 b1 b2 b3
  have HB := hid (show ∀ o, Below w.heap.size w (w.alloc o) from fun o => (Below.refl _ w).alloc (Nat.le_refl _) o)
  go_enter Tryz.func71, Tryz.ntmps71
  by_cases g0 : left - (name.size : Int) < 0
  · go_wp2_with fail
    go_ret
    exact ⟨⟨-1, rfl, by omega, .inl (by omega)⟩, unhid HB _⟩
  by_cases g1 : (left - (name.size : Int)) - (version.size : Int) < 0
  · go_wp2_with fail
    go_ret
    exact ⟨⟨-1, rfl, by omega, .inl (by omega)⟩, unhid HB _⟩
  go_wp2_with fail
  refine (vszNeedS_any needs v2 ((left - (name.size : Int)) - (version.size : Int)) _ (unhid B2) (by omega) (by omega) ((unhid H2).below (unhid HB _))).mono ?_
  rintro x w2 ⟨⟨r2, rfl, q2a, q2b⟩, hb⟩
  have HBy := hid ((unhid HB _).trans (hb.mono (unhid HB _).size))
  have k3 : w2.cell? ⟨w.heap.size, 3, none⟩ = some v3 := (hb.cell (p := ⟨w.heap.size, 3, none⟩) (by simp)).trans (cell_arrS (World.alloc_heap_new w _) _ _ rfl)
  have hlt : w.heap.size < w2.heap.size := by have := hb.size; simp at this; omega
  clear hb
  have HBx := HBy
  clear HBy
  have Q2 := hid q2b
  clear q2b
  by_cases g2 : r2 < 0
  · go_wp2_with fail
    go_ret
    exact ⟨⟨-1, rfl, by omega, .inl (by omega)⟩, unhid HBx⟩
  go_wp2_with fail
  refine (vszEntryS_any tree v3 r2 _ (unhid B3) (by omega) (by omega) ((unhid H3).below (unhid HBx))).mono ?_
  rintro x w3 ⟨⟨r3, rfl, q3a, q3b⟩, hb⟩
  have HBy := hid ((unhid HBx).trans (hb.mono (unhid HBx).size))
  have hlt : w.heap.size < w3.heap.size := by have := hb.size; omega
  clear hb HBx
  have HBx := HBy
  clear HBy
  have Q3 := hid q3b
  clear q3b
  by_cases g3 : r3 < 0
  · go_wp2_with fail
    go_ret
    exact ⟨⟨-1, rfl, by omega, .inl (by omega)⟩, unhid HBx⟩
  go_wp2_with fail
  go_ret
  exact ⟨⟨r3, rfl, by omega, .inr (by have t2 := (unhid Q2).resolve_left (by omega); have t3 := (unhid Q3).resolve_left (by omega); omega)⟩, unhid HBx⟩

set_option maxRecDepth 100000 in
set_option maxHeartbeats 4000000 in
theorem vszPackS_any (ds : List packC.D) (v : Value) (left : Int) (w : World) (hb : ds.length ≤ maxLen ∧ ∀ d ∈ ds, packC.big d) (hl : 0 ≤ left) (hl2 : left ≤ 1048576) (h : rowAt packC w v ds) :
    Calls Tryz.prog 23 #[v, .int .i64 left] w fun x w' => (∃ r : Int, x = .returned (.int .i64 r) ∧ r ≤ left ∧ (r < 0 ∨ r + (ds.length + szR packC ds) = left)) ∧ Below w.heap.size w w' := by
  obtain ⟨a, cap, rfl, -, -, h⟩ := h
  obtain ⟨hlen0, hz⟩ := hb
  have hlen : ds.length ≤ 9223372036854775807 := hlen0
  clear hlen0
  have HZ := hid hz
  have H := hid h
  clear hz h
  by_cases h0 : left - (ds.length : Int) < 0
  · go_enter Tryz.func23, Tryz.ntmps23
    go_wp2_with fail
    go_ret
    exact ⟨⟨-1, rfl, by omega, .inl (by omega)⟩, Below.refl _ _⟩
  · go_enter Tryz.func23, Tryz.ntmps23
    go_wp2_with fail
    go_loopw [1, 5] (fun l i wr => ∃ (k : Nat) (q : Int), k ≤ ds.length ∧ i = .int .i64 k ∧ l = .int .i64 q ∧ 0 ≤ q ∧ Hid (q + ds.length + szR packC (ds.take k) = left) ∧ q ≤ left ∧ Hid (Below w.heap.size w wr)) (fun _ i _ => ds.length - (intOf i).toNat)
    case atStart => exact ⟨0, _, Nat.zero_le _, rfl, rfl, by omega, hid (by simp [szR]), by omega, hid (Below.refl _ _)⟩
    case round =>
      obtain ⟨k, q, hk, rfl, rfl, hq, hsum, hq2, HB⟩ := hrel
      by_cases hlt : k < ds.length
      · obtain ⟨e, he⟩ : ∃ e, ds[k]? = some e := ⟨ds[k], List.getElem?_eq_getElem hlt⟩
        obtain ⟨b, o, rfl, hbl, hc⟩ := (unhid H).resolve_left (by intro e; subst e; simp at hlt)
        obtain ⟨cs, hat, hcell⟩ := hc k e he
        have HAT := hid (packC.below hat (unhid HB))
        have hcs := packC_at hat
        have HS := hid (szR_take packC ds k e he)
        have HM := hid (List.mem_of_getElem? he)
        obtain ⟨v2, v3, rfl, -, -⟩ := hcs
        have c0 : wr.cell? ⟨b, o + k * 4, none⟩ = some (.string e.name) := ((unhid HB).cell (p := ⟨b, o + k * 4 + 0, none⟩) hbl).trans (hcell 0 _ rfl)
        have c1 : wr.cell? ⟨b, o + k * 4 + 1, none⟩ = some (.string e.version) := ((unhid HB).cell (p := ⟨b, o + k * 4 + 1, none⟩) hbl).trans (hcell 1 _ rfl)
        have c2 : wr.cell? ⟨b, o + k * 4 + 2, none⟩ = some (v2) := ((unhid HB).cell (p := ⟨b, o + k * 4 + 2, none⟩) hbl).trans (hcell 2 _ rfl)
        have c3 : wr.cell? ⟨b, o + k * 4 + 3, none⟩ = some (v3) := ((unhid HB).cell (p := ⟨b, o + k * 4 + 3, none⟩) hbl).trans (hcell 3 _ rfl)
        clear hc he hat hcell hbl
        go_wp2_with fail
        refine (vszPack_any e _ q _ (unhid HZ e (unhid HM)) hq (by omega) (unhid HAT)).mono ?_
        rintro x w2 ⟨⟨r, rfl, hr1, hr2⟩, hb⟩
        have HB2 := hid ((unhid HB).trans (hb.mono (unhid HB).size))
        have HR := hid hr2
        clear hb hr2 c0 c1 c2 c3
        by_cases hr0 : r < 0
        · go_wp2_with fail
          go_ret
          exact ⟨⟨-1, rfl, by omega, .inl (by omega)⟩, unhid HB2⟩
        · go_wp2_with fail
          go_roundw
          case rel => exact ⟨k + 1, r, by omega, by go_num, rfl, by omega, hid (by have h1 := (unhid HR).resolve_left (by omega); have h2 := unhid hsum; rw [unhid HS]; omega), by omega, HB2⟩
          case measure => simp [intOf]; omega
      · have e : k = ds.length := by omega
        subst e
        go_wp2_with fail
        go_ret
        exact ⟨⟨q, rfl, by omega, .inr (by have h2 := unhid hsum; rw [List.take_length] at h2; omega)⟩, unhid HB⟩

set_option maxRecDepth 100000 in
set_option maxHeartbeats 4000000 in
theorem vtoPack_any (d : PackD) (cs : List Value) (w : World) (hs : packC.sz d ≤ 1048576) (h : packC.at_ w cs d) :
    Calls Tryz.prog 72 #[.agg cs.toArray] w fun x w' => ∃ (cs' : List Value) (F : List Nat), x = .returned (.agg cs'.toArray) ∧ packC.own w' cs' d F ∧ (∀ k ∈ F, w.heap.size ≤ k ∧ k < w'.heap.size) ∧ Below w.heap.size w w' := by
  rw [packC_sz] at hs
  obtain ⟨v2, v3, rfl, h2, h3⟩ := packC_at h
  obtain ⟨name, version, needs, tree⟩ := d
  dsimp only at *
  have H2 := hid h2
  have H3 := hid h3
  clear h h2 h3
  go_enter Tryz.func72, Tryz.ntmps72
  go_wp2_with fail
  obtain ⟨hP, hR, hO, hS, hB⟩ := three_boxes w (.cells #[.string name, .string version, v2, v3] 103) (.cells #[.string ⟨#[]⟩, .string ⟨#[]⟩, .slice none 0 0, .slice none 0 0] 34) (.cells #[.string name, .string version, .slice none 0 0, .slice none 0 0] 34)
  generalize ((w.alloc (.cells #[.string name, .string version, v2, v3] 103)).alloc (.cells #[.string ⟨#[]⟩, .string ⟨#[]⟩, .slice none 0 0, .slice none 0 0] 34)).alloc (.cells #[.string name, .string version, .slice none 0 0, .slice none 0 0] 34) = W0 at hP hR hO hS hB ⊢
  have JP := hid hP
  clear hP
  have JR := hid hR
  clear hR
  have JO := hid hO
  clear hO
  have JS := hid hS
  clear hS
  have JB := hid hB
  clear hB
  refine (vtoNeedS_any needs v2 W0 (by omega) ((unhid H2).below (unhid JB))).mono ?_
  rintro x w2 ⟨uu, F2, rfl, hown, hfr, hb⟩
  obtain ⟨ua2, uc2, hu⟩ := rowOwn.slice hown
  subst hu
  have hP := (hb.block _ (by have := unhid JS; omega)).trans (unhid JP)
  have hR := (hb.block _ (by have := unhid JS; omega)).trans (unhid JR)
  have hO := (hb.block _ (by have := unhid JS; omega)).trans (unhid JO)
  have hS := Nat.lt_of_lt_of_le (unhid JS) hb.size
  have hB := (unhid JB).trans (hb.mono (unhid JB).size)
  have X2 := hid hown
  have Y2 := hid (show ∀ k ∈ F2, w.heap.size + 1 + 1 < k ∧ k < w2.heap.size from fun k hk => ⟨Nat.lt_of_lt_of_le (unhid JS) (hfr k hk).1, (hfr k hk).2⟩)
  clear hown hfr hb JP JR JO JS JB
  obtain ⟨o0, p0⟩ := cell_fz hO 0 _ rfl
  obtain ⟨o1, p1⟩ := cell_fz hO 1 _ rfl
  obtain ⟨o2, p2⟩ := cell_fz hO 2 _ rfl
  obtain ⟨o3, p3⟩ := cell_fz hO 3 _ rfl
  have kk : (w2.setCell ⟨w.heap.size + 1 + 1, 2, none⟩ (.slice ua2 needs.length uc2)).cell? ⟨w.heap.size, 3, none⟩ = some v3 := by rw [World.cell?_setCell_other _ _ _ _ (by simp)]; exact cell_arrS hP 3 _ rfl
  skip
  go_wp2_with fail
  have hP := (Below.heap_setCell w2 ⟨w.heap.size + 1 + 1, 2, none⟩ (.slice ua2 needs.length uc2) w.heap.size (by dsimp only; omega)).trans hP
  have hR := (Below.heap_setCell w2 ⟨w.heap.size + 1 + 1, 2, none⟩ (.slice ua2 needs.length uc2) (w.heap.size + 1) (by dsimp only; omega)).trans hR
  have hO : (w2.setCell ⟨w.heap.size + 1 + 1, 2, none⟩ (.slice ua2 needs.length uc2)).heap[w.heap.size + 1 + 1]? = some (.cells #[.string name, .string version, (.slice ua2 needs.length uc2), .slice none 0 0] 34 (0, 0)) := heap_setCell_same w2 (w.heap.size + 1 + 1) 2 _ _ (.slice ua2 needs.length uc2) hO
  have hS : w.heap.size + 1 + 1 < (w2.setCell ⟨w.heap.size + 1 + 1, 2, none⟩ (.slice ua2 needs.length uc2)).heap.size := by simpa using hS
  have hB : Below w.heap.size w (w2.setCell ⟨w.heap.size + 1 + 1, 2, none⟩ (.slice ua2 needs.length uc2)) := hB.setCell (by dsimp only; omega) _
  have X2 := hid (rowOwn.frame (W' := w2.setCell ⟨w.heap.size + 1 + 1, 2, none⟩ (.slice ua2 needs.length uc2)) (unhid X2) (fun k hk => Below.heap_setCell _ _ _ _ (by have := ((unhid Y2) k hk).1; dsimp only; omega)))
  have Y2 := hid (show ∀ k ∈ F2, w.heap.size + 1 + 1 < k ∧ k < (w2.setCell ⟨w.heap.size + 1 + 1, 2, none⟩ (.slice ua2 needs.length uc2)).heap.size from fun k hk => by have := (unhid Y2) k hk; simpa using this)
  clear kk o0 p0 o1 p1 o2 p2 o3 p3
  generalize w2.setCell ⟨w.heap.size + 1 + 1, 2, none⟩ (.slice ua2 needs.length uc2) = W3 at *
  have YY2 := hid (show ∀ k ∈ F2, k < W3.heap.size from fun k hk => ((unhid Y2) k hk).2)
  have JP := hid hP
  clear hP
  have JR := hid hR
  clear hR
  have JO := hid hO
  clear hO
  have JS := hid hS
  clear hS
  have JB := hid hB
  clear hB
  refine (vtoEntryS_any tree v3 W3 (by omega) ((unhid H3).below (unhid JB))).mono ?_
  rintro x w3 ⟨uu, F3, rfl, hown, hfr, hb⟩
  obtain ⟨ua3, uc3, hu⟩ := rowOwn.slice hown
  subst hu
  have hP := (hb.block _ (by have := unhid JS; omega)).trans (unhid JP)
  have hR := (hb.block _ (by have := unhid JS; omega)).trans (unhid JR)
  have hO := (hb.block _ (by have := unhid JS; omega)).trans (unhid JO)
  have hS := Nat.lt_of_lt_of_le (unhid JS) hb.size
  have hB := (unhid JB).trans (hb.mono (unhid JB).size)
  have X2 := hid (rowOwn.frame (unhid X2) (fun k hk => hb.block k ((unhid Y2) k hk).2))
  have Y2 := hid (show ∀ k ∈ F2, w.heap.size + 1 + 1 < k ∧ k < w3.heap.size from fun k hk => ⟨((unhid Y2) k hk).1, Nat.lt_of_lt_of_le ((unhid Y2) k hk).2 hb.size⟩)
  have D23 := hid (show ∀ k ∈ F2, k ∉ F3 from fun k hk e => by have h1 := (hfr k e).1; have h2 := (unhid YY2) k hk; omega)
  have X3 := hid hown
  have Y3 := hid (show ∀ k ∈ F3, w.heap.size + 1 + 1 < k ∧ k < w3.heap.size from fun k hk => ⟨Nat.lt_of_lt_of_le (unhid JS) (hfr k hk).1, (hfr k hk).2⟩)
  clear hown hfr hb JP JR JO JS JB
  obtain ⟨o0, p0⟩ := cell_fz hO 0 _ rfl
  obtain ⟨o1, p1⟩ := cell_fz hO 1 _ rfl
  obtain ⟨o2, p2⟩ := cell_fz hO 2 _ rfl
  obtain ⟨o3, p3⟩ := cell_fz hO 3 _ rfl
  obtain ⟨r0, q0⟩ := cell_fz hR 0 _ rfl
  obtain ⟨r1, q1⟩ := cell_fz hR 1 _ rfl
  obtain ⟨r2, q2⟩ := cell_fz hR 2 _ rfl
  obtain ⟨r3, q3⟩ := cell_fz hR 3 _ rfl
  go_wp2_with fail
  have hsame : ∀ k, k ≠ w.heap.size + 1 + 1 → k ≠ w.heap.size + 1 → (((((w3.setCell ⟨w.heap.size + 1 + 1, 3, none⟩ ((.slice ua3 tree.length uc3))).setCell ⟨w.heap.size + 1, 0, none⟩ (.string name)).setCell ⟨w.heap.size + 1, 1, none⟩ (.string version)).setCell ⟨w.heap.size + 1, 2, none⟩ ((.slice ua2 needs.length uc2))).setCell ⟨w.heap.size + 1, 3, none⟩ ((.slice ua3 tree.length uc3))).heap[k]? = w3.heap[k]? := fun k h1 h2 => by rw [Below.heap_setCell _ _ _ _ (by exact h2), Below.heap_setCell _ _ _ _ (by exact h2), Below.heap_setCell _ _ _ _ (by exact h2), Below.heap_setCell _ _ _ _ (by exact h2), Below.heap_setCell _ _ _ _ (by exact h1)]
  have hfin : Below w.heap.size w (((((w3.setCell ⟨w.heap.size + 1 + 1, 3, none⟩ ((.slice ua3 tree.length uc3))).setCell ⟨w.heap.size + 1, 0, none⟩ (.string name)).setCell ⟨w.heap.size + 1, 1, none⟩ (.string version)).setCell ⟨w.heap.size + 1, 2, none⟩ ((.slice ua2 needs.length uc2))).setCell ⟨w.heap.size + 1, 3, none⟩ ((.slice ua3 tree.length uc3))) := (((((hB.setCell (by dsimp only; omega) _).setCell (by dsimp only; omega) _).setCell (by dsimp only; omega) _).setCell (by dsimp only; omega) _).setCell (by dsimp only; omega) _)
  refine bodyPost_ret (v := .agg #[.string name, .string version, (.slice ua2 needs.length uc2), (.slice ua3 tree.length uc3)]) (by simp [results, Tryz.results72, go_sem, World.cell?_setCell_same', r0, r1, r2, r3]) rfl ⟨[.string name, .string version, (.slice ua2 needs.length uc2), (.slice ua3 tree.length uc3)], F2 ++ F3, rfl, packC_mk ⟨_, _, F2, F3, rfl, rfl, rowOwn.frame (unhid X2) (fun k hk => hsame k (by have := ((unhid Y2) k hk).1; omega) (by have := ((unhid Y2) k hk).1; omega)), rowOwn.frame (unhid X3) (fun k hk => hsame k (by have := ((unhid Y3) k hk).1; omega) (by have := ((unhid Y3) k hk).1; omega)), unhid D23⟩, ?_, hfin⟩
  intro k hk
  have hsz : (((((w3.setCell ⟨w.heap.size + 1 + 1, 3, none⟩ ((.slice ua3 tree.length uc3))).setCell ⟨w.heap.size + 1, 0, none⟩ (.string name)).setCell ⟨w.heap.size + 1, 1, none⟩ (.string version)).setCell ⟨w.heap.size + 1, 2, none⟩ ((.slice ua2 needs.length uc2))).setCell ⟨w.heap.size + 1, 3, none⟩ ((.slice ua3 tree.length uc3))).heap.size = w3.heap.size := by simp
  rw [hsz]
  simp only [List.mem_append] at hk
  rcases hk with hk | hk
  · have := (unhid Y2) k hk
    omega
  · have := (unhid Y3) k hk
    omega

theorem vinfoPack : (Tryz.prog.info? 34).map (fun i => (i.zero, i.size, i.bytes)) = some (some (.agg #[.string ⟨#[]⟩, .string ⟨#[]⟩, .slice none 0 0, .slice none 0 0]), 4, 80) := by kernel_rfl
theorem vmkPackS (W : World) (n : Nat) (hn : n ≤ 1048576) : ∃ M : Array Value, (Instr.makeSlice 23 (.int .i64 (n : Int)) (.int .i64 (n : Int))).run Tryz.prog W = .ok (.slice (some ⟨W.heap.size, 0, .none⟩) n n) (W.alloc (.cells M 34)) ∧ M.size = n * 4 := by
  obtain ⟨i, hi, hz0, hz1, hz2⟩ := info_parts vinfoPack
  refine ⟨madeCells #[.string ⟨#[]⟩, .string ⟨#[]⟩, .slice none 0 0, .slice none 0 0] (n * 4), ?_, by simp [madeCells]⟩
  have := run_make (P := Tryz.prog) W 23 34 i _ Tryz.underlying23 hi hz0 .i64 .i64 n n (by omega) (Int.le_refl _) (by rw [hz2]; omega) (by omega)
  simpa [hz1, Value.cells] using this
set_option maxRecDepth 100000 in
set_option maxHeartbeats 4000000 in
theorem vtoPackS_any (ds : List packC.D) (v : Value) (w : World) (hs : ds.length + szR packC ds ≤ 1048576) (h : rowAt packC w v ds) :
    Calls Tryz.prog 25 #[v] w fun x w' => ∃ (u : Value) (F : List Nat), x = .returned u ∧ rowOwn packC 34 w' u ds F ∧ (∀ k ∈ F, w.heap.size ≤ k ∧ k < w'.heap.size) ∧ Below w.heap.size w w' := by
  obtain ⟨a, cap, rfl, -, -, h⟩ := h
  obtain ⟨M, hmk, hM⟩ := vmkPackS w ds.length (by omega)
  have H := hid h
  have HM := hid hM
  have HS := hid hs
  have hlen : ds.length ≤ 1048576 := by omega
  clear h hM hs
  go_enter Tryz.func25, Tryz.ntmps25
  go_wp2_with fail
  clear hmk
  have hB0 : Below w.heap.size w (w.alloc (.cells M 34)) := (Below.refl _ _).alloc (Nat.le_refl _) _
  have hN0 := World.alloc_heap_new w (.cells M 34)
  generalize w.alloc (.cells M 34) = wq at hB0 hN0 ⊢
  have HR := hid hN0
  clear hN0
  go_loopw [4] (fun i wr => ∃ k : Nat, k ≤ ds.length ∧ i = .int .i64 k ∧ Hid (∃ Fs, RowPart packC 34 wr w.heap.size ds.length k ds Fs ∧ ∀ j ∈ Fs.flatten, w.heap.size < j) ∧ Hid (Below w.heap.size w wr)) (fun i _ => ds.length - (intOf i).toNat)
  case atStart => exact ⟨0, Nat.zero_le _, rfl, hid ⟨[], ⟨⟨M, ⟨unhid HR, by simp, by simp, fun i x hi => by simp at hi⟩, unhid HM⟩, by simp⟩, fun j hj => by simp at hj⟩, hid hB0⟩
  case round =>
    clear HR hB0 HM
    obtain ⟨k, hk, rfl, HD, HB⟩ := hrel
    by_cases hlt : k < ds.length
    · obtain ⟨e, he⟩ : ∃ e, ds[k]? = some e := ⟨ds[k], List.getElem?_eq_getElem hlt⟩
      obtain ⟨b, o, rfl, hbl, hc⟩ := (unhid H).resolve_left (by intro e; subst e; simp at hlt)
      obtain ⟨cs, hat, hcell⟩ := hc k e he
      have HAT := hid (packC.below hat (unhid HB))
      have hcs := packC_at hat
      have hse : packC.sz e ≤ 1048576 := by have h1 := szR_mem (List.mem_of_getElem? he); have h2 := unhid HS; omega
      obtain ⟨v2, v3, rfl, -, -⟩ := hcs
      have c0 : wr.cell? ⟨b, o + k * 4, none⟩ = some (.string e.name) := ((unhid HB).cell (p := ⟨b, o + k * 4 + 0, none⟩) hbl).trans (hcell 0 _ rfl)
      have c1 : wr.cell? ⟨b, o + k * 4 + 1, none⟩ = some (.string e.version) := ((unhid HB).cell (p := ⟨b, o + k * 4 + 1, none⟩) hbl).trans (hcell 1 _ rfl)
      have c2 : wr.cell? ⟨b, o + k * 4 + 2, none⟩ = some (v2) := ((unhid HB).cell (p := ⟨b, o + k * 4 + 2, none⟩) hbl).trans (hcell 2 _ rfl)
      have c3 : wr.cell? ⟨b, o + k * 4 + 3, none⟩ = some (v3) := ((unhid HB).cell (p := ⟨b, o + k * 4 + 3, none⟩) hbl).trans (hcell 3 _ rfl)
      have HE := hid he
      have HSE := hid hse
      clear hc he hat hcell hbl hse
      go_wp2_with fail
      refine (vtoPack_any e _ _ (unhid HSE) (unhid HAT)).mono ?_
      rintro x w2 ⟨cs', Fk, rfl, hown, hfr, hb⟩
      have HOWN := hid hown
      obtain ⟨u2, u3, _, _, rfl, -, x2, x3, -⟩ := packC_own hown
      obtain ⟨ua2, uc2, rfl⟩ := rowOwn.slice x2
      obtain ⟨ua3, uc3, rfl⟩ := rowOwn.slice x3
      obtain ⟨Fs, hp, hfl⟩ := unhid HD
      obtain ⟨⟨y0, d0⟩, f0⟩ := part_cell (n := 4) rfl hp hb hlt 0 (by omega)
      obtain ⟨⟨y1, d1⟩, f1⟩ := part_cell (n := 4) rfl hp hb hlt 1 (by omega)
      obtain ⟨⟨y2, d2⟩, f2⟩ := part_cell (n := 4) rfl hp hb hlt 2 (by omega)
      obtain ⟨⟨y3, d3⟩, f3⟩ := part_cell (n := 4) rfl hp hb hlt 3 (by omega)
      rw [Nat.add_zero] at d0 f0
      have HF := hid (copy_store rfl hp hfl (Nat.le_refl _) (unhid HE) hb (unhid HOWN) (fun j hj => (hfr j hj).1))
      have HB2 := hid ((unhid HB).trans (hb.mono (unhid HB).size))
      have HB3 := hid (setsW_below [.string e.name, .string e.version, (.slice ua2 e.needs.length uc2), (.slice ua3 e.tree.length uc3)] w w2 w.heap.size w.heap.size (k * 4) (unhid HB2) (Nat.le_refl _))
      clear hb hown HOWN HD HB HB2 hp hfl hfr c0 c1 c2 c3 x2 x3
      go_wp2_with fail
      go_roundw
      case rel => exact ⟨k + 1, by omega, by go_num, HF, HB3⟩
      case measure => simp [intOf]; omega
    · have e : k = ds.length := by omega
      subst e
      go_wp2_with fail
      go_ret
      obtain ⟨Fs, ⟨⟨cur, hA, hsz⟩, hnd⟩, hfl⟩ := unhid HD
      rw [List.take_of_length_le (Nat.le_refl _)] at hA
      refine ⟨_, w.heap.size :: Fs.flatten, rfl, .inr ⟨w.heap.size, ds.length, cur, Fs, rfl, Nat.le_refl _, rfl, hnd, hA⟩, fun j hj => ⟨?_, hA.lt j hj⟩, unhid HB⟩
      rcases List.mem_cons.1 hj with rfl | hj
      · exact Nat.le_refl _
      · exact Nat.le_of_lt (hfl j hj)

set_option maxRecDepth 100000 in
set_option maxHeartbeats 4000000 in
theorem veqPack_same (d : PackD) (cs cs' : List Value) (w : World) (hb : packC.big d) (h : packC.at_ w cs d) (h' : packC.at_ w cs' d) :
    Calls Tryz.prog 73 #[.agg cs.toArray, .agg cs'.toArray] w fun r w' => r = .returned (.bool true) ∧ Below w.heap.size w w' := by
  obtain ⟨v2, v3, rfl, h2, h3⟩ := packC_at h
  obtain ⟨u2, u3, rfl, g2, g3⟩ := packC_at h'
  obtain ⟨name, version, needs, tree⟩ := d
  dsimp only at *
  obtain ⟨hb0, hb1, hb2, hb3⟩ := hb
  have H2 := hid h2
  have G2 := hid g2
  have B2 := hid hb2
  have H3 := hid h3
  have G3 := hid g3
  have B3 := hid hb3
  clear h h' hb0 hb1 hb2 hb3 h2 g2 h3 g3
  have HW := hid (alloc2_below w)
  have s0 := txt_selfS name
  have s1 := txt_selfS version
  go_enter Tryz.func73, Tryz.ntmps73
  go_wp2_with fail
  obtain ⟨hP, hR, hS⟩ := two_boxes w (.cells #[.string name, .string version, v2, v3] 34) (.cells #[.string name, .string version, u2, u3] 34)
  have hB := (unhid HW) (.cells #[.string name, .string version, v2, v3] 34) (.cells #[.string name, .string version, u2, u3] 34)
  generalize (w.alloc (.cells #[.string name, .string version, v2, v3] 34)).alloc (.cells #[.string name, .string version, u2, u3] 34) = W0 at hP hR hS hB ⊢
  have JP := hid hP
  clear hP
  have JR := hid hR
  clear hR
  have JS := hid hS
  clear hS
  have JB := hid hB
  clear hB
  refine (veqNeedS_same needs v2 u2 W0 (unhid B2) ((unhid H2).below (unhid JB)) ((unhid G2).below (unhid JB))).mono ?_
  rintro x w2 ⟨rfl, hb⟩
  have hP := (hb.block _ (by have := unhid JS; omega)).trans (unhid JP)
  have hR := (hb.block _ (by have := unhid JS; omega)).trans (unhid JR)
  have hS := Nat.lt_of_lt_of_le (unhid JS) hb.size
  have hB := (unhid JB).trans (hb.mono (unhid JB).size)
  clear hb JP JR JS JB
  have k3 := cell_arrS hP 3 _ rfl
  have l3 := cell_arrS hR 3 _ rfl
  go_wp2_with fail
  clear k3 l3
  have JP := hid hP
  clear hP
  have JR := hid hR
  clear hR
  have JS := hid hS
  clear hS
  have JB := hid hB
  clear hB
  refine (veqEntryS_same tree v3 u3 w2 (unhid B3) ((unhid H3).below (unhid JB)) ((unhid G3).below (unhid JB))).mono ?_
  rintro x w3 ⟨rfl, hb⟩
  have hP := (hb.block _ (by have := unhid JS; omega)).trans (unhid JP)
  have hR := (hb.block _ (by have := unhid JS; omega)).trans (unhid JR)
  have hS := Nat.lt_of_lt_of_le (unhid JS) hb.size
  have hB := (unhid JB).trans (hb.mono (unhid JB).size)
  clear hb JP JR JS JB
  go_wp2_with fail
  go_ret
  exact ⟨rfl, hB⟩

set_option maxRecDepth 100000 in
set_option maxHeartbeats 4000000 in
theorem veqPackS_same (ds : List packC.D) (v v' : Value) (w : World) (hb : ds.length ≤ maxLen ∧ ∀ d ∈ ds, packC.big d) (h : rowAt packC w v ds) (h2 : rowAt packC w v' ds) :
    Calls Tryz.prog 28 #[v, v'] w fun r w' => r = .returned (.bool true) ∧ Below w.heap.size w w' := by
  obtain ⟨a, cap, rfl, -, -, h⟩ := h
  obtain ⟨a2, cap2, rfl, -, -, h2⟩ := h2
  obtain ⟨hlen0, hz⟩ := hb
  have hlen : ds.length ≤ 9223372036854775807 := hlen0
  have hl' : ((ds.length : Int) != (ds.length : Int)) = false := by simp
  have HZ := hid hz
  have H := hid h
  have G := hid h2
  clear hz h h2 hlen0
  go_enter Tryz.func28, Tryz.ntmps28
  go_wp2_with fail
  go_loopw [5] (fun i wr => ∃ k : Nat, k ≤ ds.length ∧ i = .int .i64 k ∧ Hid (Below w.heap.size w wr)) (fun i _ => ds.length - (intOf i).toNat)
  case atStart => exact ⟨0, Nat.zero_le _, rfl, hid (Below.refl _ _)⟩
  case round =>
    obtain ⟨k, hk, rfl, HB⟩ := hrel
    by_cases hlt : k < ds.length
    · obtain ⟨e, he⟩ : ∃ e, ds[k]? = some e := ⟨ds[k], List.getElem?_eq_getElem hlt⟩
      obtain ⟨b, o, rfl, hbl, hc⟩ := (unhid H).resolve_left (by intro e; subst e; simp at hlt)
      obtain ⟨b2, o2, rfl, hbl2, hc2⟩ := (unhid G).resolve_left (by intro e; subst e; simp at hlt)
      obtain ⟨cs, hat, hcell⟩ := hc k e he
      obtain ⟨cs2, hat2, hcell2⟩ := hc2 k e he
      have HAT := hid (packC.below hat (unhid HB))
      have HAT2 := hid (packC.below hat2 (unhid HB))
      have hcs := packC_at hat
      have hcs2 := packC_at hat2
      obtain ⟨v2, v3, rfl, -, -⟩ := hcs
      obtain ⟨u2, u3, rfl, -, -⟩ := hcs2
      have c0 : wr.cell? ⟨b, o + k * 4, none⟩ = some (.string e.name) := ((unhid HB).cell (p := ⟨b, o + k * 4 + 0, none⟩) hbl).trans (hcell 0 _ rfl)
      have g0 : wr.cell? ⟨b2, o2 + k * 4, none⟩ = some (.string e.name) := ((unhid HB).cell (p := ⟨b2, o2 + k * 4 + 0, none⟩) hbl2).trans (hcell2 0 _ rfl)
      have c1 : wr.cell? ⟨b, o + k * 4 + 1, none⟩ = some (.string e.version) := ((unhid HB).cell (p := ⟨b, o + k * 4 + 1, none⟩) hbl).trans (hcell 1 _ rfl)
      have g1 : wr.cell? ⟨b2, o2 + k * 4 + 1, none⟩ = some (.string e.version) := ((unhid HB).cell (p := ⟨b2, o2 + k * 4 + 1, none⟩) hbl2).trans (hcell2 1 _ rfl)
      have c2 : wr.cell? ⟨b, o + k * 4 + 2, none⟩ = some (v2) := ((unhid HB).cell (p := ⟨b, o + k * 4 + 2, none⟩) hbl).trans (hcell 2 _ rfl)
      have g2 : wr.cell? ⟨b2, o2 + k * 4 + 2, none⟩ = some (u2) := ((unhid HB).cell (p := ⟨b2, o2 + k * 4 + 2, none⟩) hbl2).trans (hcell2 2 _ rfl)
      have c3 : wr.cell? ⟨b, o + k * 4 + 3, none⟩ = some (v3) := ((unhid HB).cell (p := ⟨b, o + k * 4 + 3, none⟩) hbl).trans (hcell 3 _ rfl)
      have g3 : wr.cell? ⟨b2, o2 + k * 4 + 3, none⟩ = some (u3) := ((unhid HB).cell (p := ⟨b2, o2 + k * 4 + 3, none⟩) hbl2).trans (hcell2 3 _ rfl)
      have ZL := hid (unhid HZ e (List.mem_of_getElem? he))
      clear hc hc2 he hat hat2 hcell hcell2 hbl hbl2
      go_wp2_with fail
      go_region_with (go_at_call 73; refine (veqPack_same e _ _ _ (unhid ZL) (packC.below (unhid HAT) (drew_belowS _)) (packC.below (unhid HAT2) (drew_belowS _))).mono ?_; rintro r w2 ⟨rfl, hb⟩; have HB2 := hid (((unhid HB).trans (drew_belowS _)).trans (hb.mono (unhid HB).size)); clear hb)
      all_goals
        go_wp2_with fail
        go_roundw
        case rel => exact ⟨k + 1, by omega, by go_num, HB2⟩
        case measure => simp [intOf]; omega
    · have e : k = ds.length := by omega
      subst e
      go_wp2_with fail
      go_ret
      exact ⟨rfl, unhid HB⟩
theorem cntPack_is (d : PackD) : packC.cnt d = 1 + (1 + (cntR needC d.needs + (cntR entryC d.tree))) := rfl
theorem cntPack (d : PackD) : packC.cnt d ≤ 4 + 8 * packC.sz d := by
  rw [cntPack_is d, packC_sz d]
  have h2 := cntNeedS d.needs
  have h3 := cntEntryS d.tree
  omega
theorem cntPackS (ds : List packC.D) : cntR packC ds ≤ 8 * (ds.length + szR packC ds) := cntR_bound (by omega) cntPack ds
theorem lenPackS (ds : List packC.D) : ds.length ≤ cntR packC ds := len_cntR (fun d => by rw [cntPack_is d]; omega) ds
set_option maxRecDepth 100000 in
set_option maxHeartbeats 4000000 in
theorem vmarkPackS_own (ds : List packC.D) (v : Value) (F : List Nat) (q : Nat) (c : Int) (hcq : c = (q : Int)) (w : World) (hq : 0 < q) (hq2 : q + cntR packC ds ≤ 20000000) (h : rowOwn packC 34 w v ds F) :
    Calls Tryz.prog 29 #[v, .int .i64 c] w fun x w' => (∃ r : Int, x = .returned (.int .i64 r) ∧ r ≤ ((q + cntR packC ds : Nat) : Int) ∧ ((q + cntR packC ds : Nat) : Int) ≤ r) ∧ rowOwn packC 34 w' v (markR packC q ds) F ∧ Only F w w' := by
  subst hcq
  have hlen := lenPackS ds
  rcases h with ⟨rfl, rfl, a, c, rfl, hnil⟩ | ⟨g, cap, cur, Fs, rfl, hcap, rfl, hnd, ha⟩
  · go_enter Tryz.func29, Tryz.ntmps29
    go_wp2_with fail
    go_loopw [1, 5] (fun c i wr => i = .int .i64 0 ∧ c = .int .i64 (q : Int) ∧ wr = w) (fun _ i _ => 0)
    case atStart => exact ⟨rfl, rfl, rfl⟩
    case round =>
      obtain ⟨rfl, rfl, rfl⟩ := hrel
      go_wp2_with fail
      go_ret
      exact ⟨⟨_, rfl, by simp [cntR], by simp [cntR]⟩, .inl ⟨rfl, rfl, a, c, rfl, hnil⟩, Only.refl _ _⟩
  · have HA := hid ha
    have HN := hid hnd
    clear ha hnd
    go_enter Tryz.func29, Tryz.ntmps29
    go_wp2_with fail
    go_loopw [1, 5] (fun c i wr => ∃ k : Nat, k ≤ ds.length ∧ i = .int .i64 (k : Int) ∧ c = .int .i64 ((q + cntR packC (ds.take k) : Nat) : Int) ∧ Hid (∃ cur2 : Array Value, RowAll packC 34 wr g (markU packC q ds k) cur2 Fs) ∧ Hid (Only (g :: Fs.flatten) w wr)) (fun _ i _ => ds.length - (intOf i).toNat)
    case atStart => exact ⟨0, Nat.zero_le _, rfl, by simp [cntR], hid ⟨cur, by simpa [markU] using unhid HA⟩, hid (Only.refl _ _)⟩
    case round =>
      obtain ⟨k, hk, rfl, rfl, HC, HO⟩ := hrel
      have hcl := cntR_le packC ds k
      by_cases hlt : k < ds.length
      · obtain ⟨e, he⟩ : ∃ e, ds[k]? = some e := ⟨ds[k], List.getElem?_eq_getElem hlt⟩
        have hct1 := cntR_take packC ds k e he
        have hcl2 := cntR_le packC ds (k + 1)
        rw [hct1, cntPack_is e] at hcl2
        have E := hid hct1
        obtain ⟨cur2, hA⟩ := unhid HC
        obtain ⟨cs, Fk, h1, hgF, hown, hI⟩ := item_open hA (unhid HN) he
        obtain ⟨v2, v3, F2, F3, rfl, rfl, x2, x3, a23⟩ := packC_own hown
        obtain ⟨ua2, uc2, rfl⟩ := rowOwn.slice x2
        obtain ⟨ua3, uc3, rfl⟩ := rowOwn.slice x3
        simp only [List.mem_append, not_or] at hgF
        have HG := hid hgF
        have A23 := hid a23
        have HAA := hid hA
        have HE := hid he
        have H1 := hid h1
        generalize hct : cntR packC (ds.take k) = t at *
        have HCT := hid hct
        have hI : ItemAt wr g 34 (k * 4) cur2 [.string e.name, .string e.version, .slice ua2 e.needs.length uc2, .slice ua3 e.tree.length uc3] := hI
        have X2 := hid x2
        have X3 := hid x3
        have HK := hid (Only.refl (g :: (F2 ++ F3)) wr)
        clear hct hA he h1 hown hct1 HC x2 x3 a23 hgF
        obtain ⟨c0, f0⟩ := hI.cell 0 _ rfl
        rw [Nat.add_zero] at c0 f0
        obtain ⟨c1, f1⟩ := hI.cell 1 _ rfl
        obtain ⟨c2, f2⟩ := hI.cell 2 _ rfl
        obtain ⟨c3, f3⟩ := hI.cell 3 _ rfl
        go_wp2_with fail
        clear c0 f0 c1 f1 c2 f2 c3 f3
        have HI := hid hI
        clear hI
        refine (markText_at _ (q + t) wr (by omega) (by omega) (by omega)).mono ?_
        rintro x wq1 ⟨rfl, hb⟩
        have hI := (unhid HI).below hb
        have HK := hid ((unhid HK).trans (Only.ofBelow hb))
        have X2 := hid ((unhid X2).below hb)
        have X3 := hid ((unhid X3).below hb)
        clear hb HI
        obtain ⟨c0, f0⟩ := hI.cell 0 _ rfl
        rw [Nat.add_zero] at c0 f0
        obtain ⟨c1, f1⟩ := hI.cell 1 _ rfl
        obtain ⟨c2, f2⟩ := hI.cell 2 _ rfl
        obtain ⟨c3, f3⟩ := hI.cell 3 _ rfl
        have hI2 : ItemAt (wq1.setCell ⟨g, k * 4, none⟩ (.string (mtext (q + t)))) g 34 (k * 4) cur2 [.string (mtext (q + t)), .string e.version, .slice ua2 e.needs.length uc2, .slice ua3 e.tree.length uc3] := (hI.set 0 (.string (mtext (q + t))) (by simp))
        have HK2 : Hid (Only (g :: (F2 ++ F3)) wr (wq1.setCell ⟨g, k * 4, none⟩ (.string (mtext (q + t))))) := hid ((unhid HK).setCell (p := ⟨g, k * 4, none⟩) (by simp) (.string (mtext (q + t))))
        have X2b : Hid (rowOwn needC 36 (wq1.setCell ⟨g, k * 4, none⟩ (.string (mtext (q + t)))) (.slice ua2 e.needs.length uc2) e.needs F2) := hid (rowOwn.setS (unhid X2) (unhid HG).1)
        have X3b : Hid (rowOwn entryC 57 (wq1.setCell ⟨g, k * 4, none⟩ (.string (mtext (q + t)))) (.slice ua3 e.tree.length uc3) e.tree F3) := hid (rowOwn.setS (unhid X3) (unhid HG).2)
        have z2 := (hI2.cell 2 _ rfl).1
        have z3 := (hI2.cell 3 _ rfl).1
        go_wp2_with fail
        clear c0 f0 c1 f1 c2 f2 c3 f3
        clear z2 z3
        clear hI HK X2 X3
        generalize (wq1.setCell ⟨g, k * 4, none⟩ (.string (mtext (q + t)))) = wq2 at *
        have hI := hI2
        have HK := HK2
        have X2 := X2b
        have X3 := X3b
        clear hI2 HK2 X2b X3b
        have HI := hid hI
        clear hI
        refine (markText_at _ (q + t + 1) wq2 (by omega) (by omega) (by omega)).mono ?_
        rintro x wq3 ⟨rfl, hb⟩
        have hI := (unhid HI).below hb
        have HK := hid ((unhid HK).trans (Only.ofBelow hb))
        have X2 := hid ((unhid X2).below hb)
        have X3 := hid ((unhid X3).below hb)
        clear hb HI
        obtain ⟨c0, f0⟩ := hI.cell 0 _ rfl
        rw [Nat.add_zero] at c0 f0
        obtain ⟨c1, f1⟩ := hI.cell 1 _ rfl
        obtain ⟨c2, f2⟩ := hI.cell 2 _ rfl
        obtain ⟨c3, f3⟩ := hI.cell 3 _ rfl
        have hI2 : ItemAt (wq3.setCell ⟨g, k * 4 + 1, none⟩ (.string (mtext (q + t + 1)))) g 34 (k * 4) cur2 [.string (mtext (q + t)), .string (mtext (q + t + 1)), .slice ua2 e.needs.length uc2, .slice ua3 e.tree.length uc3] := (hI.set 1 (.string (mtext (q + t + 1))) (by simp))
        have HK2 : Hid (Only (g :: (F2 ++ F3)) wr (wq3.setCell ⟨g, k * 4 + 1, none⟩ (.string (mtext (q + t + 1))))) := hid ((unhid HK).setCell (p := ⟨g, k * 4 + 1, none⟩) (by simp) (.string (mtext (q + t + 1))))
        have X2b : Hid (rowOwn needC 36 (wq3.setCell ⟨g, k * 4 + 1, none⟩ (.string (mtext (q + t + 1)))) (.slice ua2 e.needs.length uc2) e.needs F2) := hid (rowOwn.setS (unhid X2) (unhid HG).1)
        have X3b : Hid (rowOwn entryC 57 (wq3.setCell ⟨g, k * 4 + 1, none⟩ (.string (mtext (q + t + 1)))) (.slice ua3 e.tree.length uc3) e.tree F3) := hid (rowOwn.setS (unhid X3) (unhid HG).2)
        have z2 := (hI2.cell 2 _ rfl).1
        have z3 := (hI2.cell 3 _ rfl).1
        go_wp2_with fail
        clear c0 f0 c1 f1 c2 f2 c3 f3
        clear z2 z3
        clear hI HK X2 X3
        generalize (wq3.setCell ⟨g, k * 4 + 1, none⟩ (.string (mtext (q + t + 1)))) = wq4 at *
        have hI := hI2
        have HK := HK2
        have X2 := X2b
        have X3 := X3b
        clear hI2 HK2 X2b X3b
        have HI := hid hI
        clear hI
        refine (vmarkNeedS_own e.needs (.slice ua2 e.needs.length uc2) F2 (q + t + 1 + 1) _ (by omega) wq4 (by omega) (by omega) (unhid X2)).mono ?_
        rintro x wq5 ⟨⟨r2, rfl, ra2, rb2⟩, hown, ho⟩
        have hI := (unhid HI).only ho (unhid HG).1
        have HK := hid ((unhid HK).trans (ho.mono (fun i hi => List.mem_cons_of_mem _ (by simp [hi]))))
        have X3 := hid ((unhid X3).only ho (fun k hk e => (unhid A23) k e hk))
        have X2 := hid hown
        clear hown ho HI
        obtain ⟨c0, f0⟩ := hI.cell 0 _ rfl
        rw [Nat.add_zero] at c0 f0
        obtain ⟨c1, f1⟩ := hI.cell 1 _ rfl
        obtain ⟨c2, f2⟩ := hI.cell 2 _ rfl
        obtain ⟨c3, f3⟩ := hI.cell 3 _ rfl
        go_wp2_with fail
        clear c0 f0 c1 f1 c2 f2 c3 f3
        have HI := hid hI
        clear hI
        refine (vmarkEntryS_own e.tree (.slice ua3 e.tree.length uc3) F3 (q + t + 1 + 1 + cntR needC e.needs) _ (by omega) wq5 (by omega) (by omega) (unhid X3)).mono ?_
        rintro x wq6 ⟨⟨r3, rfl, ra3, rb3⟩, hown, ho⟩
        have hI := (unhid HI).only ho (unhid HG).2
        have HK := hid ((unhid HK).trans (ho.mono (fun i hi => List.mem_cons_of_mem _ (by simp [hi]))))
        have X2 := hid ((unhid X2).only ho (fun k hk e => (unhid A23) k hk e))
        have X3 := hid hown
        clear hown ho HI
        obtain ⟨c0, f0⟩ := hI.cell 0 _ rfl
        rw [Nat.add_zero] at c0 f0
        obtain ⟨c1, f1⟩ := hI.cell 1 _ rfl
        obtain ⟨c2, f2⟩ := hI.cell 2 _ rfl
        obtain ⟨c3, f3⟩ := hI.cell 3 _ rfl
        have HI := hid hI
        have HKE := hid (unhid HK)
        have HF := hid (show ∃ cur', RowAll packC 34 wq6 g (markU packC q ds (k + 1)) cur' Fs by
          have hi := unhid HI
          refine item_close (unhid HAA) (unhid HN) (unhid HE) (unhid H1) hi ?_ (unhid HKE)
          rw [unhid HCT]
          exact packC_mk ⟨_, _, F2, F3, rfl, rfl, unhid X2, unhid X3, unhid A23⟩)
        have HO2 := hid ((unhid HO).trans ((unhid HKE).mono (fun i hi => by rcases List.mem_cons.1 hi with rfl | hi; exact List.mem_cons_self; exact List.mem_cons_of_mem _ (mem_flatS (unhid H1) hi))))
        clear HI HKE HAA HE H1 HK HO X2 X3 hI
        go_wp2_with fail
        go_roundw
        case rel => exact ⟨k + 1, by omega, by go_num, int_eqS (by rw [unhid E, cntPack_is e]; omega), HF, HO2⟩
        case measure => simp [intOf]; omega
      · have e : k = ds.length := by omega
        subst e
        go_wp2_with fail
        go_ret
        refine ⟨⟨_, rfl, by rw [List.take_of_length_le (Nat.le_refl _)]; exact Int.le_refl _, by rw [List.take_of_length_le (Nat.le_refl _)]; exact Int.le_refl _⟩, ?_, unhid HO⟩
        obtain ⟨cur2, hA⟩ := unhid HC
        rw [markU_all] at hA
        exact .inr ⟨g, cap, cur2, Fs, by rw [markR_len], by rw [markR_len]; exact hcap, rfl, unhid HN, hA⟩
end Go.Proofs.YtoihhlkidlapmaaGreat

/- What an entry is kept as: a value of an interface with a type for each kind. -/
namespace Go.Proofs.YtoihhlkidlapmaaGreat
open Go.RowKit Go.Shelf

theorem isLineByte_any (c : Int) (w : World) :
    Calls Tryz.prog 314 #[.int .u8 c] w fun e w' => e = .returned (.bool (decide (32 ≤ c) && decide (c ≤ 126))) ∧ w' = w := by
  by_cases h1 : 32 ≤ c <;> by_cases h2 : c ≤ 126 <;>
  · go_enter Tryz.func314, Tryz.ntmps314
    go_wp2
    go_ret
    exact ⟨by simp [h1, h2], rfl⟩
theorem isTextByte_any (c : Int) (w : World) :
    Calls Tryz.prog 313 #[.int .u8 c] w fun e w' => e = .returned (.bool (txtB c)) ∧ w' = w := by
  cases h1 : (decide (32 ≤ c) && decide (c ≤ 126)) <;> cases h2 : (c == 10) <;>
  · have E := hid (show txtB c = ((c == 10) || (decide (32 ≤ c) && decide (c ≤ 126))) from rfl)
    go_enter Tryz.func313, Tryz.ntmps313
    go_wp2_with (go_at_call 314; refine (isLineByte_any _ _).mono ?_; rintro e w' ⟨rfl, rfl⟩; rw [h1])
    go_ret
    exact ⟨by rw [unhid E, h1, h2]; rfl, rfl⟩
theorem egText : ∀ args w, (callFunc 313 args).run Tryz.prog w = .ok (.enter 313 args) w := enters_of Tryz.func313 (by kernel_rfl) rfl
set_option maxRecDepth 100000 in
theorem textOk_any (s : ByteArray) (hs : s.size ≤ maxLen) (w : World) :
    Calls Tryz.prog 312 #[.string s] w fun e w' => e = .returned (.bool (textB s.data.toList)) ∧ Below w.heap.size w w' := by
  have hs' : s.size ≤ 9223372036854775807 := hs
  by_cases h : (s.size : Int) ≤ 80
  · have E := hid (show (s.data.toList.all fun c => txtB c.toNat) = textB s.data.toList by unfold textB; rw [← Lib.size_eq, decide_eq_true (by omega)]; rfl)
    go_enter Tryz.func312, Tryz.ntmps312
    go_wp2_with fail
    refine (allBytes_any 313 txtB egText isTextByte_any s hs _).mono ?_
    rintro e w2 ⟨rfl, hb⟩
    rw [unhid E]
    go_wp2_with fail
    go_ret
    exact ⟨rfl, hb⟩
  · have E := hid (show textB s.data.toList = false by unfold textB; rw [← Lib.size_eq, decide_eq_false (by omega)]; rfl)
    have h' : decide ((s.size : Int) ≤ 80) = false := decide_eq_false h
    go_enter Tryz.func312, Tryz.ntmps312
    go_wp2_with fail
    go_ret
    exact ⟨by rw [unhid E]; rfl, Below.refl _ _⟩
theorem modeOk_any (m : Int) (w : World) : Calls Tryz.prog 310 #[.int .i64 m] w fun e w' => e = .returned (.bool (modeB m)) ∧ w' = w := by
  have E := hid (show modeB m = (decide (0 ≤ m) && decide (m ≤ 7)) from rfl)
  by_cases h1 : 0 ≤ m <;> by_cases h2 : m ≤ 7 <;>
  · go_enter Tryz.func310, Tryz.ntmps310
    go_wp2
    go_ret
    exact ⟨by rw [unhid E]; simp [h1, h2], rfl⟩

theorem dirFine_any (m : Int) (w : World) : Calls Tryz.prog 309 #[.agg #[.int .i64 m]] w fun e w' => e = .returned (.bool (modeB m)) ∧ Below w.heap.size w w' := by
  go_enter Tryz.func309, Tryz.ntmps309
  go_wp2_with (go_at_call 310; refine (modeOk_any _ _).mono ?_; rintro e w' ⟨rfl, rfl⟩)
  go_ret
  exact ⟨rfl, (Below.refl _ _).alloc (Nat.le_refl _) _⟩
theorem linkFine_any (t : ByteArray) (ht : t.size ≤ maxLen) (w : World) : Calls Tryz.prog 315 #[.agg #[.string t]] w fun e w' => e = .returned (.bool (pathB t.data.toList)) ∧ Below w.heap.size w w' := by
  go_enter Tryz.func315, Tryz.ntmps315
  go_wp2_with fail
  refine (PathOk_any t ht _).mono ?_
  rintro e w2 ⟨rfl, hb⟩
  go_wp2_with fail
  go_ret
  exact ⟨rfl, ((Below.refl _ _).alloc (Nat.le_refl _) _).trans (hb.mono (by simp))⟩
set_option maxRecDepth 100000 in
theorem fileFine_any (m : Int) (t : ByteArray) (ht : t.size ≤ maxLen) (w : World) : Calls Tryz.prog 311 #[.agg #[.int .i64 m, .string t]] w fun e w' => e = .returned (.bool (modeB m && textB t.data.toList)) ∧ Below w.heap.size w w' := by
  cases hm : modeB m
  · go_enter Tryz.func311, Tryz.ntmps311
    go_wp2_with (go_at_call 310; refine (modeOk_any _ _).mono ?_; rintro e w' ⟨rfl, rfl⟩; rw [hm])
    go_ret
    exact ⟨rfl, (Below.refl _ _).alloc (Nat.le_refl _) _⟩
  · go_enter Tryz.func311, Tryz.ntmps311
    go_wp2_with (go_at_call 310; refine (modeOk_any _ _).mono ?_; rintro e w' ⟨rfl, rfl⟩; rw [hm])
    refine (textOk_any t ht _).mono ?_
    rintro e w2 ⟨rfl, hb⟩
    go_wp2_with fail
    go_ret
    exact ⟨rfl, ((Below.refl _ _).alloc (Nat.le_refl _) _).trans (hb.mono (by simp))⟩

theorem upon_run {P : Program} {o : Oper} {a : Act} {K : Act → World → Prop} {E : Exit → Act → World → Prop} {α : Type} {x y : Result α} {f : α → World → Result Next} (h : x = y) (g : Oper.upon P o a K E (y.andThen f)) : Oper.upon P o a K E (x.andThen f) := h ▸ g

def nodeV (e : Ent) : Value := if e.kind = 1 then .iface 176 (.agg #[.int .i64 e.mode]) else if e.kind = 2 then .iface 178 (.agg #[.int .i64 e.mode, .string e.text]) else .iface 180 (.agg #[.string e.text])

set_option maxRecDepth 100000 in
set_option maxHeartbeats 8000000 in
theorem nodeOf_any (e : Ent) (hp : e.path.size ≤ maxLen) (ht : e.text.size ≤ maxLen) (w : World) :
    Calls Tryz.prog 209 #[.agg e.vals] w fun x w' => (∃ v, x = .returned (.tuple #[v, .bool (entB e)]) ∧ (v = .nilIface ∨ v = nodeV e) ∧ (entB e = true → v = nodeV e)) ∧ Below w.heap.size w w' := by
  obtain ⟨p, k, m, t⟩ := e
  unfold Ent.vals
  dsimp only at hp ht ⊢
  have hB0 : Below w.heap.size w (w.alloc (.cells #[.string p, .int .i64 k, .int .i64 m, .string t] 57)) := (Below.refl _ w).alloc (Nat.le_refl _) _
  have HB0 := hid hB0
  have hz0 : w.heap.size ≤ (w.alloc (.cells #[.string p, .int .i64 k, .int .i64 m, .string t] 57)).heap.size := by simp
  clear hB0
  have hE : entB ⟨p, k, m, t⟩ = (pathB p.data.toList && (if k = 1 then modeB m && t.data.toList.isEmpty else if k = 2 then modeB m && textB t.data.toList else k == 3 && (m == 0 && pathB t.data.toList))) := rfl
  have E := hid hE
  clear hE
  by_cases k1 : k = 1
  · subst k1
    have hnv : nodeV ⟨p, 1, m, t⟩ = .iface 176 (.agg #[.int .i64 m]) := by unfold nodeV; rw [if_pos rfl]
    have HN := hid hnv
    clear hnv
    cases hte : t.toList.isEmpty
    · have hte' : t.data.toList.isEmpty = false := by rw [← Lib.toList_data]; exact hte
      have EE := hid (show entB ⟨p, 1, m, t⟩ = false by rw [unhid E, if_pos rfl, hte']; simp)
      clear hte'
      go_enter Tryz.func209, Tryz.ntmps209
      go_wp2_with fail
      go_ret2
      exact ⟨⟨_, by rw [unhid EE]; rfl, .inl rfl, fun h => by rw [unhid EE] at h; cases h⟩, unhid HB0⟩
    · have hte' : t.data.toList.isEmpty = true := by rw [← Lib.toList_data]; exact hte
      have E1 := hid (show entB ⟨p, 1, m, t⟩ = (pathB p.data.toList && modeB m) by rw [unhid E, if_pos rfl, hte', Bool.and_true])
      clear hte'
      cases hpp : pathB p.data.toList
      · have EE := hid (show entB ⟨p, 1, m, t⟩ = false by rw [unhid E1, hpp]; rfl)
        go_enter Tryz.func209, Tryz.ntmps209
        go_wp2_with fail
        refine (PathOk_any p hp _).mono ?_
        rintro x w2 ⟨rfl, hb⟩
        rw [hpp]
        have HB := hid ((unhid HB0).trans (hb.mono hz0))
        clear hb
        go_wp2_with fail
        go_ret2
        exact ⟨⟨_, by rw [unhid EE]; rfl, .inr (unhid HN).symm, fun h => by rw [unhid EE] at h; cases h⟩, unhid HB⟩
      · have EE := hid (show entB ⟨p, 1, m, t⟩ = (modeB m) by rw [unhid E1, hpp]; rfl)
        go_enter Tryz.func209, Tryz.ntmps209
        go_wp2_with fail
        refine (PathOk_any p hp _).mono ?_
        rintro x w2 ⟨rfl, hb⟩
        rw [hpp]
        have HB := hid ((unhid HB0).trans (hb.mono hz0))
        clear hb
        go_wp2_with fail
        refine upon_run (y := .ok (309, .agg #[.int .i64 m]) w2) (by kernel_rfl) ?_
        go_wp2_with fail
        refine (dirFine_any m w2).mono ?_
        rintro x w3 ⟨rfl, hb⟩
        have HB3 := hid ((unhid HB).trans (hb.mono (unhid HB).size))
        clear hb
        rw [← unhid EE]
        go_wp2_with fail
        go_ret2
        exact ⟨⟨_, rfl, .inr (unhid HN).symm, fun _ => (unhid HN).symm⟩, unhid HB3⟩
  · have k1' : (k == 1) = false := by simpa using k1
    by_cases k2 : k = 2
    · subst k2
      have hnv : nodeV ⟨p, 2, m, t⟩ = .iface 178 (.agg #[.int .i64 m, .string t]) := by unfold nodeV; rw [if_neg (by omega), if_pos rfl]
      have HN := hid hnv
      have E1 := hid (show entB ⟨p, 2, m, t⟩ = (pathB p.data.toList && (modeB m && textB t.data.toList)) by rw [unhid E, if_neg (by omega), if_pos rfl])
      clear hnv
      cases hpp : pathB p.data.toList
      · have EE := hid (show entB ⟨p, 2, m, t⟩ = false by rw [unhid E1, hpp]; rfl)
        go_enter Tryz.func209, Tryz.ntmps209
        go_wp2_with fail
        refine (PathOk_any p hp _).mono ?_
        rintro x w2 ⟨rfl, hb⟩
        rw [hpp]
        have HB := hid ((unhid HB0).trans (hb.mono hz0))
        clear hb
        go_wp2_with fail
        go_ret2
        exact ⟨⟨_, by rw [unhid EE]; rfl, .inr (unhid HN).symm, fun h => by rw [unhid EE] at h; cases h⟩, unhid HB⟩
      · have EE := hid (show entB ⟨p, 2, m, t⟩ = (modeB m && textB t.data.toList) by rw [unhid E1, hpp]; rfl)
        go_enter Tryz.func209, Tryz.ntmps209
        go_wp2_with fail
        refine (PathOk_any p hp _).mono ?_
        rintro x w2 ⟨rfl, hb⟩
        rw [hpp]
        have HB := hid ((unhid HB0).trans (hb.mono hz0))
        clear hb
        go_wp2_with fail
        refine upon_run (y := .ok (311, .agg #[.int .i64 m, .string t]) w2) (by kernel_rfl) ?_
        go_wp2_with fail
        refine (fileFine_any m t ht w2).mono ?_
        rintro x w3 ⟨rfl, hb⟩
        have HB3 := hid ((unhid HB).trans (hb.mono (unhid HB).size))
        clear hb
        rw [← unhid EE]
        go_wp2_with fail
        go_ret2
        exact ⟨⟨_, rfl, .inr (unhid HN).symm, fun _ => (unhid HN).symm⟩, unhid HB3⟩
    · have k2' : (k == 2) = false := by simpa using k2
      have hnv : nodeV ⟨p, k, m, t⟩ = .iface 180 (.agg #[.string t]) := by unfold nodeV; rw [if_neg k1, if_neg k2]
      have HN := hid hnv
      have E2 := hid (show entB ⟨p, k, m, t⟩ = (pathB p.data.toList && (k == 3 && (m == 0 && pathB t.data.toList))) by rw [unhid E, if_neg k1, if_neg k2])
      clear hnv
      cases k3 : (k == 3)
      · have EE := hid (show entB ⟨p, k, m, t⟩ = false by rw [unhid E2, k3]; simp)
        clear k1 k2
        go_enter Tryz.func209, Tryz.ntmps209
        go_wp2_with fail
        go_ret2
        exact ⟨⟨_, by rw [unhid EE]; rfl, .inl rfl, fun h => by rw [unhid EE] at h; cases h⟩, unhid HB0⟩
      · cases m0 : (m == 0)
        · have EE := hid (show entB ⟨p, k, m, t⟩ = false by rw [unhid E2, m0]; simp)
          clear k1 k2
          go_enter Tryz.func209, Tryz.ntmps209
          go_wp2_with fail
          go_ret2
          exact ⟨⟨_, by rw [unhid EE]; rfl, .inl rfl, fun h => by rw [unhid EE] at h; cases h⟩, unhid HB0⟩
        · have E1 := hid (show entB ⟨p, k, m, t⟩ = (pathB p.data.toList && pathB t.data.toList) by rw [unhid E2, k3, m0]; rfl)
          clear k1 k2
          cases hpp : pathB p.data.toList
          · have EE := hid (show entB ⟨p, k, m, t⟩ = false by rw [unhid E1, hpp]; rfl)
            go_enter Tryz.func209, Tryz.ntmps209
            go_wp2_with fail
            refine (PathOk_any p hp _).mono ?_
            rintro x w2 ⟨rfl, hb⟩
            rw [hpp]
            have HB := hid ((unhid HB0).trans (hb.mono hz0))
            clear hb
            go_wp2_with fail
            go_ret2
            exact ⟨⟨_, by rw [unhid EE]; rfl, .inr (unhid HN).symm, fun h => by rw [unhid EE] at h; cases h⟩, unhid HB⟩
          · have EE := hid (show entB ⟨p, k, m, t⟩ = (pathB t.data.toList) by rw [unhid E1, hpp]; rfl)
            go_enter Tryz.func209, Tryz.ntmps209
            go_wp2_with fail
            refine (PathOk_any p hp _).mono ?_
            rintro x w2 ⟨rfl, hb⟩
            rw [hpp]
            have HB := hid ((unhid HB0).trans (hb.mono hz0))
            clear hb
            go_wp2_with fail
            refine upon_run (y := .ok (315, .agg #[.string t]) w2) (by kernel_rfl) ?_
            go_wp2_with fail
            refine (linkFine_any t ht w2).mono ?_
            rintro x w3 ⟨rfl, hb⟩
            have HB3 := hid ((unhid HB).trans (hb.mono (unhid HB).size))
            clear hb
            rw [← unhid EE]
            go_wp2_with fail
            go_ret2
            exact ⟨⟨_, rfl, .inr (unhid HN).symm, fun _ => (unhid HN).symm⟩, unhid HB3⟩
end Go.Proofs.YtoihhlkidlapmaaGreat

/- The library's search in texts that ascend. -/
namespace Go.Proofs.YtoihhlkidlapmaaGreat
open Go.RowKit Go.Shelf

/-- A row of texts that is read. -/
def TextsAt (W : World) (a : Option Addr) (ps : List ByteArray) : Prop := ps = [] ∨ ∃ b o, a = some ⟨b, o, .none⟩ ∧ b < W.heap.size ∧ ∀ (i : Nat) x, ps[i]? = some x → W.cell? ⟨b, o + i, .none⟩ = some (.string x)
theorem TextsAt.get {W : World} {a : Option Addr} {ps : List ByteArray} (h : TextsAt W a ps) (hne : ps ≠ []) : ∃ b o, a = some ⟨b, o, .none⟩ ∧ b < W.heap.size ∧ ∀ (i : Nat) x, ps[i]? = some x → W.cell? ⟨b, o + i, .none⟩ = some (.string x) := h.resolve_left hne
/-- Texts that ascend. -/
def Asc (ps : List ByteArray) : Prop := ∀ (i j : Nat) x y, i < j → ps[i]? = some x → ps[j]? = some y → ltS x y = true
def placeP (ps : List ByteArray) (q : ByteArray) : Nat := (ps.takeWhile fun x => ltS x q).length
def thereP (ps : List ByteArray) (q : ByteArray) : Bool := (ps[placeP ps q]?).any fun x => eqS x q
theorem placeP_of : ∀ (ps : List ByteArray) (q : ByteArray) (k : Nat), k ≤ ps.length → (∀ (i : Nat) x, i < k → ps[i]? = some x → ltS x q = true) → (∀ x, ps[k]? = some x → ltS x q = false) → placeP ps q = k
  | [], _, k, hk, _, _ => by simp at hk; subst hk; rfl
  | e :: es, p, 0, _, _, h2 => by
    have := h2 e rfl
    unfold placeP; rw [List.takeWhile_cons]; simp [this]
  | e :: es, p, k + 1, hk, h1, h2 => by
    have h0 := h1 0 e (Nat.succ_pos _) rfl
    have ih := placeP_of es p k (by simpa using hk) (fun i x hi hx => h1 (i + 1) x (by omega) (by simpa using hx)) (fun x hx => h2 x (by simpa using hx))
    unfold placeP at ih ⊢
    rw [List.takeWhile_cons]; simp [h0, ih]

theorem isNaN1_any (s : ByteArray) (w : World) : Calls Tryz.prog 211 #[.string s] w fun e w' => e = .returned (.bool false) ∧ w' = w := by
  go_enter Tryz.func211, Tryz.ntmps211
  go_wp2
  go_ret
  exact ⟨by simp, rfl⟩
theorem isNaN2_any (s : ByteArray) (w : World) : Calls Tryz.prog 257 #[.string s] w fun e w' => e = .returned (.bool false) ∧ w' = w := by
  go_enter Tryz.func257, Tryz.ntmps257
  go_wp2
  go_ret
  exact ⟨by simp, rfl⟩
theorem Less_any (x y : ByteArray) (w : World) : Calls Tryz.prog 197 #[.string x, .string y] w fun e w' => e = .returned (.bool (ltS x y)) ∧ w' = w := by
  have E := hid (show ltS x y = Op.bytesLess x.toList y.toList from rfl)
  go_enter Tryz.func197, Tryz.ntmps197
  go_wp2_with (go_at_call 257; refine (isNaN2_any _ _).mono ?_; rintro e w' ⟨rfl, rfl⟩)
  go_ret
  exact ⟨by rw [unhid E]; rfl, rfl⟩

set_option maxRecDepth 100000 in
set_option maxHeartbeats 4000000 in
theorem BinarySearch_any (ps : List ByteArray) (a : Option Addr) (cap : Nat) (q : ByteArray) (w : World) (hlen : ps.length ≤ 1048576) (hs : Asc ps) (h : TextsAt w a ps) :
    Calls Tryz.prog 139 #[.slice a ps.length cap, .string q] w fun x w' => x = .returned (.tuple #[.int .i64 (placeP ps q), .bool (thereP ps q)]) ∧ w' = w := by
  have HS := hid hs
  clear hs
  go_enter Tryz.func139, Tryz.ntmps139
  go_wp2_with fail
  go_loop [7, 8, 9] (fun i j _ => ∃ (k m : Nat), k ≤ m ∧ m ≤ ps.length ∧ i = .int .i64 k ∧ j = .int .i64 m ∧ Hid (∀ (t : Nat) x, t < k → ps[t]? = some x → ltS x q = true) ∧ Hid (∀ (t : Nat) x, m ≤ t → ps[t]? = some x → ltS x q = false)) (fun i j _ => (intOf j).toNat - (intOf i).toNat)
  case atStart => exact ⟨0, ps.length, Nat.zero_le _, Nat.le_refl _, rfl, rfl, hid (fun t x ht => by omega), hid (fun t x ht hx => by have := (List.getElem?_eq_some_iff.1 hx).1; omega)⟩
  case round =>
    obtain ⟨k, m, hkm, hm, rfl, rfl, hlo, hhi⟩ := hrel
    by_cases hlt : k < m
    · obtain ⟨x, hx⟩ : ∃ x, ps[(k + m) / 2]? = some x := ⟨ps[(k + m) / 2], List.getElem?_eq_getElem (by omega)⟩
      obtain ⟨b, o, rfl, hbl, hc⟩ := h.get (by intro e; subst e; simp at hm; omega)
      have c0 := hc _ x hx
      have HX := hid hx
      have HC := hid hc
      have hlt' : (k : Int) < m := by omega
      have hsm : (k : Int) + m ≤ 4194304 := by omega
      have hall : ∀ (t : Nat) y, t ≤ (k + m) / 2 → ps[t]? = some y → ltS x q = true → ltS y q = true := fun t y ht hy hq => by
        by_cases e : t = (k + m) / 2
        · subst e; rw [hx] at hy; cases hy; exact hq
        · exact lt_tra _ _ _ (unhid HS t _ y x (by omega) hy hx) hq
      have hnone : ∀ (t : Nat) y, (k + m) / 2 ≤ t → ps[t]? = some y → ltS x q = false → ltS y q = false := fun t y ht hy hq => by
        by_cases e : t = (k + m) / 2
        · subst e; rw [hx] at hy; cases hy; exact hq
        · cases hyq : ltS y q
          · rfl
          · have := lt_tra _ _ _ (unhid HS _ t x y (by omega) hx hy) hyq
            unfold ltS at hq; rw [this] at hq; cases hq
      have HA := hid (And.intro hall hnone)
      clear hc hx h hall hnone
      go_wp2_with fail
      refine (Less_any x q _).mono ?_
      rintro r w' ⟨rfl, rfl⟩
      cases hq : ltS x q
      · go_wp2_with fail
        go_round
        case rel => exact ⟨k, (k + m) / 2, by omega, by omega, rfl, by go_num, hlo, hid (fun t y ht hy => (unhid HA).2 t y ht hy hq)⟩
        case measure => simp [intOf]; omega
      · go_wp2_with fail
        go_round
        case rel => exact ⟨(k + m) / 2 + 1, m, by omega, hm, by go_num, rfl, hid (fun t y ht hy => (unhid HA).1 t y (by omega) hy hq), hhi⟩
        case measure => simp [intOf]; omega
    · have hkm' : k = m := by omega
      subst hkm'
      have hlt' : ¬ (k : Int) < k := by omega
      have hpl : placeP ps q = k := placeP_of ps q k hm (unhid hlo) (fun x hx => unhid hhi k x (Nat.le_refl _) hx)
      by_cases hkl : k < ps.length
      · obtain ⟨x, hx⟩ : ∃ x, ps[k]? = some x := ⟨ps[k], List.getElem?_eq_getElem hkl⟩
        obtain ⟨b, o, rfl, hbl, hc⟩ := h.get (by intro e; subst e; simp at hkl)
        have c0 := hc _ x hx
        have hth : thereP ps q = (x.toList == q.toList) := by unfold thereP; rw [hpl, hx]; rfl
        have HP := hid (And.intro hpl hth)
        have hkl' : (k : Int) < ps.length := by omega
        clear hpl hth hx hc h
        cases he : (x.toList == q.toList)
        all_goals
          go_wp2_with (go_at_call 211; refine (isNaN1_any _ _).mono ?_; rintro e w' ⟨rfl, rfl⟩)
          go_ret2
          exact ⟨by rw [(unhid HP).1, (unhid HP).2, he]; rfl, rfl⟩
      · have hth : thereP ps q = false := by unfold thereP; rw [hpl, List.getElem?_eq_none (by omega)]; rfl
        have HP := hid (And.intro hpl hth)
        have hkl' : ¬ (k : Int) < ps.length := by omega
        clear hpl hth h
        go_wp2_with fail
        go_ret2
        exact ⟨by rw [(unhid HP).1, (unhid HP).2]; rfl, rfl⟩
end Go.Proofs.YtoihhlkidlapmaaGreat

/- The library's Insert at a row's end. -/
namespace Go.Proofs.YtoihhlkidlapmaaGreat
open Go.RowKit Go.Shelf

theorem infoNode : (Tryz.prog.info? 121).map (fun i => (i.zero, i.size, i.bytes)) = some (some .nilIface, 1, 16) := by kernel_rfl
theorem ownsRow_sh {W : World} {base : Nat} {e : TypeId} {size : Nat} {v : Value} {n : Nat} {xs : List Value} (h : W.ownsRow base e size v n xs) : (v = .slice .none 0 0 ∧ n = 0) ∨ ∃ g cap, v = .slice (some ⟨g, 0, .none⟩) n cap ∧ n ≤ cap := by
  rcases h.2 with h | ⟨g, cap, cur, rfl, _, _, hc, _⟩
  · exact .inl h
  · exact .inr ⟨_, _, rfl, hc⟩
theorem nodeV_one (e : Ent) : (nodeV e).oneCell' = true := by
  unfold nodeV; split
  · rfl
  · split <;> rfl

set_option maxRecDepth 100000 in
set_option maxHeartbeats 4000000 in
theorem InsertS_end (N : Nat) (v : Value) (n : Nat) (xs : List Value) (b : Nat) (p : ByteArray) (w : World) (hn : n ≤ 1000) (hN : N ≤ w.heap.size) (h : w.ownsRow N 9 1 v n xs) (hb : w.cell? ⟨b, 0, .none⟩ = some (.string p)) :
    Calls Tryz.prog 234 #[v, .int .i64 n, .slice (some ⟨b, 0, .none⟩) 1 1] w fun x w' => ∃ v', x = .returned v' ∧ w'.ownsRow N 9 1 v' (n + 1) (xs ++ [.string p]) ∧ w.grownBy w' v.ownBlock ∧ (v'.ownBlock = v.ownBlock ∨ v'.ownBlock = some w.heap.size) := by
  obtain ⟨i0, hi, hz0, hz1, hz2⟩ := info_parts info9
  have H := hid h
  have hnew : ∀ (j : Nat) u, [.string p][j]? = some u → w.cell? ((⟨b, 0, .none⟩ : Addr).add j) = some u := fun j u hj => by
    match j with
    | 0 => simp at hj; subst hj; exact hb
    | j + 1 => simp at hj
  have HN := hid hnew
  clear hnew
  rcases ownsRow_sh h with ⟨rfl, rfl⟩ | ⟨g, cap, rfl, hc⟩
  · clear h
    go_enter Tryz.func234, Tryz.ntmps234
    go_wp2_with (at_builtin; refine wpList_append_own_at _ rfl _ _ 24 rfl N 9 i0 (.string ⟨#[]⟩) 1 16 Tryz.underlying24 hi hz0 hz1 hz2 rfl (by decide) _ _ _ rfl (unhid H) ⟨b, 0, .none⟩ 1 1 [.string p] rfl rfl (unhid HN) ?c2 ?c3 ?c4 ?c5 ?_)
    case c2 => intro u hu; simp at hu; subst hu; rfl
    case c3 => unfold maxLen; omega
    case c4 => omega
    case c5 => exact hN
    intro v' w1 hown hgrow _ hat
    have HH := hid (And.intro hown (And.intro hgrow hat))
    clear hown hgrow hat
    go_wp2_with fail
    go_ret
    exact ⟨_, rfl, (unhid HH).1, (unhid HH).2⟩
  · clear h
    by_cases hcn : cap = n
    · subst hcn
      go_enter Tryz.func234, Tryz.ntmps234
      go_wp2_with (at_builtin; refine wpList_append_own_at _ rfl _ _ 24 rfl N 9 i0 (.string ⟨#[]⟩) 1 16 Tryz.underlying24 hi hz0 hz1 hz2 rfl (by decide) _ _ _ rfl (unhid H) ⟨b, 0, .none⟩ 1 1 [.string p] rfl rfl (unhid HN) ?c2 ?c3 ?c4 ?c5 ?_)
      case c2 => intro u hu; simp at hu; subst hu; rfl
      case c3 => unfold maxLen; omega
      case c4 => omega
      case c5 => exact hN
      intro v' w1 hown hgrow _ hat
      have HH := hid (And.intro hown (And.intro hgrow hat))
      clear hown hgrow hat
      go_wp2_with fail
      go_ret
      exact ⟨_, rfl, (unhid HH).1, (unhid HH).2⟩
    · have hcn' : ¬ n = cap := fun e => hcn e.symm
      go_enter Tryz.func234, Tryz.ntmps234
      go_wp2_with (at_builtin; refine wpList_append_own_at _ rfl _ _ 24 rfl N 9 i0 (.string ⟨#[]⟩) 1 16 Tryz.underlying24 hi hz0 hz1 hz2 rfl (by decide) _ _ _ rfl (unhid H) ⟨b, 0, .none⟩ 1 1 [.string p] rfl rfl (unhid HN) ?c2 ?c3 ?c4 ?c5 ?_)
      case c2 => intro u hu; simp at hu; subst hu; rfl
      case c3 => unfold maxLen; omega
      case c4 => omega
      case c5 => exact hN
      intro v' w1 hown hgrow _ hat
      have HH := hid (And.intro hown (And.intro hgrow hat))
      clear hown hgrow hat
      go_wp2_with fail
      go_ret
      exact ⟨_, rfl, (unhid HH).1, (unhid HH).2⟩

set_option maxRecDepth 100000 in
set_option maxHeartbeats 4000000 in
theorem InsertN_end (N : Nat) (v : Value) (n : Nat) (xs : List Value) (b : Nat) (e : Ent) (w : World) (hn : n ≤ 1000) (hN : N ≤ w.heap.size) (h : w.ownsRow N 121 1 v n xs) (hb : w.cell? ⟨b, 0, .none⟩ = some (nodeV e)) :
    Calls Tryz.prog 235 #[v, .int .i64 n, .slice (some ⟨b, 0, .none⟩) 1 1] w fun x w' => ∃ v', x = .returned v' ∧ w'.ownsRow N 121 1 v' (n + 1) (xs ++ [nodeV e]) ∧ w.grownBy w' v.ownBlock ∧ (v'.ownBlock = v.ownBlock ∨ v'.ownBlock = some w.heap.size) := by
  obtain ⟨i0, hi, hz0, hz1, hz2⟩ := info_parts infoNode
  have H := hid h
  have hnew : ∀ (j : Nat) u, [nodeV e][j]? = some u → w.cell? ((⟨b, 0, .none⟩ : Addr).add j) = some u := fun j u hj => by
    match j with
    | 0 => simp at hj; subst hj; exact hb
    | j + 1 => simp at hj
  have HN := hid hnew
  clear hnew
  rcases ownsRow_sh h with ⟨rfl, rfl⟩ | ⟨g, cap, rfl, hc⟩
  · clear h
    go_enter Tryz.func235, Tryz.ntmps235
    go_wp2_with (at_builtin; refine wpList_append_own_at _ rfl _ _ 113 rfl N 121 i0 (.nilIface) 1 16 Tryz.underlying113 hi hz0 hz1 hz2 rfl (by decide) _ _ _ rfl (unhid H) ⟨b, 0, .none⟩ 1 1 [nodeV e] rfl rfl (unhid HN) ?c2 ?c3 ?c4 ?c5 ?_)
    case c2 => intro u hu; simp at hu; subst hu; exact nodeV_one e
    case c3 => unfold maxLen; omega
    case c4 => omega
    case c5 => exact hN
    intro v' w1 hown hgrow _ hat
    have HH := hid (And.intro hown (And.intro hgrow hat))
    clear hown hgrow hat
    go_wp2_with fail
    go_ret
    exact ⟨_, rfl, (unhid HH).1, (unhid HH).2⟩
  · clear h
    by_cases hcn : cap = n
    · subst hcn
      go_enter Tryz.func235, Tryz.ntmps235
      go_wp2_with (at_builtin; refine wpList_append_own_at _ rfl _ _ 113 rfl N 121 i0 (.nilIface) 1 16 Tryz.underlying113 hi hz0 hz1 hz2 rfl (by decide) _ _ _ rfl (unhid H) ⟨b, 0, .none⟩ 1 1 [nodeV e] rfl rfl (unhid HN) ?c2 ?c3 ?c4 ?c5 ?_)
      case c2 => intro u hu; simp at hu; subst hu; exact nodeV_one e
      case c3 => unfold maxLen; omega
      case c4 => omega
      case c5 => exact hN
      intro v' w1 hown hgrow _ hat
      have HH := hid (And.intro hown (And.intro hgrow hat))
      clear hown hgrow hat
      go_wp2_with fail
      go_ret
      exact ⟨_, rfl, (unhid HH).1, (unhid HH).2⟩
    · have hcn' : ¬ n = cap := fun e => hcn e.symm
      go_enter Tryz.func235, Tryz.ntmps235
      go_wp2_with (at_builtin; refine wpList_append_own_at _ rfl _ _ 113 rfl N 121 i0 (.nilIface) 1 16 Tryz.underlying113 hi hz0 hz1 hz2 rfl (by decide) _ _ _ rfl (unhid H) ⟨b, 0, .none⟩ 1 1 [nodeV e] rfl rfl (unhid HN) ?c2 ?c3 ?c4 ?c5 ?_)
      case c2 => intro u hu; simp at hu; subst hu; exact nodeV_one e
      case c3 => unfold maxLen; omega
      case c4 => omega
      case c5 => exact hN
      intro v' w1 hown hgrow _ hat
      have HH := hid (And.intro hown (And.intro hgrow hat))
      clear hown hgrow hat
      go_wp2_with fail
      go_ret
      exact ⟨_, rfl, (unhid HH).1, (unhid HH).2⟩

end Go.Proofs.YtoihhlkidlapmaaGreat
