/- The place of a path in entries, by the model; the order of texts. -/
import Derived.Test.YtlnehebihfeegaaEntSpec
import Derived.Laws.Cover1
namespace Go.Proofs.Ytlnehebihfeegaa
open Go.RowKit Go.Shelf

theorem lt_irr : ∀ x : List UInt8, Op.bytesLess x x = false
  | [] => rfl
  | a :: x => by
    have h : ¬ a < a := by rw [UInt8.lt_iff_toNat_lt]; omega
    simp [Op.bytesLess, lt_irr x, h]
theorem lt_tot : ∀ x y : List UInt8, Op.bytesLess x y = false → Op.bytesLess y x = false → x = y
  | [], [], _, _ => rfl
  | [], _ :: _, h, _ => by simp [Op.bytesLess] at h
  | _ :: _, [], _, h => by simp [Op.bytesLess] at h
  | a :: x, b :: y, h, g => by
    simp only [Op.bytesLess, Bool.or_eq_false_iff, decide_eq_false_iff_not, Bool.and_eq_false_iff, beq_eq_false_iff_ne] at h g
    have e : a = b := by
      apply UInt8.toNat_inj.1
      have h1 := h.1
      have g1 := g.1
      rw [UInt8.lt_iff_toNat_lt] at h1 g1
      omega
    subst e
    rw [lt_tot x y (h.2.resolve_left (fun h => h rfl)) (g.2.resolve_left (fun h => h rfl))]
theorem lt_tra : ∀ x y z : List UInt8, Op.bytesLess x y = true → Op.bytesLess y z = true → Op.bytesLess x z = true
  | _, [], _, h, _ => by simp [Op.bytesLess] at h
  | _, _ :: _, [], _, h => by simp [Op.bytesLess] at h
  | [], _ :: _, _ :: _, _, _ => rfl
  | a :: x, b :: y, c :: z, h, g => by
    simp only [Op.bytesLess, Bool.or_eq_true, decide_eq_true_eq, Bool.and_eq_true, beq_iff_eq] at h g ⊢
    rw [UInt8.lt_iff_toNat_lt] at *
    rcases h with h | ⟨rfl, h⟩ <;> rcases g with g | ⟨rfl, g⟩
    · exact .inl (by omega)
    · exact .inl h
    · exact .inl g
    · exact .inr ⟨rfl, lt_tra x y z h g⟩

def ltS (a b : ByteArray) : Bool := Op.bytesLess a.toList b.toList
def eqS (a b : ByteArray) : Bool := a.toList == b.toList
theorem eqS_iff (a b : ByteArray) : eqS a b = true ↔ a = b := by
  unfold eqS
  rw [beq_iff_eq, Lib.toList_data, Lib.toList_data]
  exact ⟨ba_ext, fun h => by rw [h]⟩
/-- Where a path is in entries, or would come; whether it is there. -/
def placeE (es : List Ent) (p : ByteArray) : Nat := (es.takeWhile fun e => ltS e.path p).length
def thereE (es : List Ent) (p : ByteArray) : Bool := (es[placeE es p]?).any fun e => eqS e.path p
theorem placeE_le (es : List Ent) (p : ByteArray) : placeE es p ≤ es.length := by
  unfold placeE; exact (List.takeWhile_prefix _).length_le
theorem place_of : ∀ (es : List Ent) (p : ByteArray) (k : Nat), k ≤ es.length → (∀ (i : Nat) e, i < k → es[i]? = some e → ltS e.path p = true) → (∀ e, es[k]? = some e → ltS e.path p = false) → placeE es p = k
  | [], _, k, hk, _, _ => by simp at hk; subst hk; rfl
  | e :: es, p, 0, _, _, h2 => by
    have := h2 e rfl
    unfold placeE; rw [List.takeWhile_cons]; simp [this]
  | e :: es, p, k + 1, hk, h1, h2 => by
    have h0 := h1 0 e (Nat.succ_pos _) rfl
    have ih := place_of es p k (by simpa using hk) (fun i x hi hx => h1 (i + 1) x (by omega) (by simpa using hx)) (fun x hx => h2 x (by simpa using hx))
    unfold placeE at ih ⊢
    rw [List.takeWhile_cons]; simp [h0, ih]
theorem place_lt {es : List Ent} {p : ByteArray} {i : Nat} {e : Ent} (hi : i < placeE es p) (he : es[i]? = some e) : ltS e.path p = true := by
  unfold placeE at hi
  have hp := List.takeWhile_prefix (l := es) (fun e => ltS e.path p)
  obtain ⟨t, ht⟩ := hp
  have : (es.takeWhile fun e => ltS e.path p)[i]? = some e := by
    rw [← ht, List.getElem?_append_left hi] at he; exact he
  have := List.mem_of_getElem? this
  exact List.all_eq_true.1 (List.all_takeWhile (p := fun e : Ent => ltS e.path p) (l := es)) e this

set_option maxRecDepth 100000 in
set_option maxHeartbeats 2000000 in
theorem l2At_any (es : List Ent) (a : Option Addr) (cap : Nat) (p : ByteArray) (w : World) (hlen : es.length ≤ 1048576) (h : EntsAt w a es) :
    Calls Try.prog 61 #[.slice a es.length cap, .string p] w fun x w' => x = .returned (.tuple #[.int .i64 (placeE es p), .bool (thereE es p)]) ∧ ∃ n, w' = w.drewN n := by
  go_enter Try.func61, Try.ntmps61
  go_wp2_with fail
  go_loop [6] (fun i => ∃ k : Nat, k ≤ es.length ∧ i = .int .i64 k ∧ Hid (∀ (i : Nat) e, i < k → es[i]? = some e → ltS e.path p = true)) (fun i => es.length - (intOf i).toNat)
  case atStart => exact ⟨0, Nat.zero_le _, rfl, hid (fun i e hi => by omega)⟩
  case round =>
    obtain ⟨k, hk, rfl, hall⟩ := hrel
    by_cases hlt : k < es.length
    · obtain ⟨e, he⟩ : ∃ e, es[k]? = some e := ⟨es[k], List.getElem?_eq_getElem hlt⟩
      obtain ⟨b, o, rfl, hbl, hc⟩ := h.get (by intro e; subst e; simp at hlt)
      obtain ⟨c0, c1, c2, c3⟩ := hc k e he
      have HE := hid he
      clear hc he h
      cases hq : Op.bytesLess e.path.toList p.toList
      · have hpl : placeE es p = k := place_of es p k hk (unhid hall) (fun x hx => by rw [unhid HE] at hx; cases hx; exact hq)
        have hth : thereE es p = (e.path.toList == p.toList) := by unfold thereE; rw [hpl, unhid HE]; rfl
        have HP := hid (And.intro hpl hth)
        clear hpl hth
        go_wp2_with fail
        go_quiet (fail)
        go_wp2_with fail
        go_ret2
        exact ⟨by rw [(unhid HP).1, (unhid HP).2]; rfl, _, rfl⟩
      · go_wp2_with fail
        go_round
        case rel => exact ⟨k + 1, by omega, by go_num, hid (fun i x hi hx => by
          by_cases ei : i = k
          · subst ei; rw [unhid HE] at hx; cases hx; exact hq
          · exact unhid hall i x (by omega) hx)⟩
        case measure => simp [intOf]; omega
    · have hpl : placeE es p = k := place_of es p k hk (unhid hall) (fun x hx => by have := (List.getElem?_eq_some_iff.1 hx).1; omega)
      have hth : thereE es p = false := by unfold thereE; rw [hpl, List.getElem?_eq_none (by omega)]; rfl
      have HP := hid (And.intro hpl hth)
      have hlt' : ¬ (k : Int) < es.length := by omega
      clear hpl hth h
      go_wp2_with fail
      go_quiet (fail)
      go_wp2_with fail
      go_ret2
      exact ⟨by rw [(unhid HP).1, (unhid HP).2]; rfl, _, rfl⟩
end Go.Proofs.Ytlnehebihfeegaa
