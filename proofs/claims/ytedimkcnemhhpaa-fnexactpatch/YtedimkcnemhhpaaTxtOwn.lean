/- Rows of texts in memory of their own; what is written over them. -/
import Derived.Test.YtedimkcnemhhpaaTxtKit
import Derived.Test.YtedimkcnemhhpaaKind
import Derived.Test.YtedimkcnemhhpaaMarkText
namespace Go.Proofs.Ytedimkcnemhhpaa
open Go.RowKit Go.Shelf

def TxtOwn (W : World) (v : Value) (xs : List ByteArray) (F : List Nat) : Prop := (xs = [] ∧ F = [] ∧ ∃ a c, v = .slice a 0 c ∧ (a = none → c = 0)) ∨
  ∃ g cap cur, F = [g] ∧ v = .slice (some ⟨g, 0, none⟩) xs.length cap ∧ W.heap[g]? = some (.cells cur 9 (0, 0)) ∧ xs.length ≤ cap ∧ xs.length ≤ cur.size ∧ ∀ (i : Nat) x, xs[i]? = some x → cur[i]? = some (.string x)
theorem TxtOwn.frame {W W' : World} {v : Value} {xs : List ByteArray} {F : List Nat} (h : TxtOwn W v xs F) (hf : ∀ k ∈ F, W'.heap[k]? = W.heap[k]?) : TxtOwn W' v xs F := by
  rcases h with h | ⟨g, cap, cur, rfl, hv, hh, h1, h2, h3⟩
  · exact .inl h
  · exact .inr ⟨g, cap, cur, rfl, hv, (hf g (by simp)).trans hh, h1, h2, h3⟩
theorem TxtOwn.lt {W : World} {v : Value} {xs : List ByteArray} {F : List Nat} (h : TxtOwn W v xs F) : ∀ k ∈ F, k < W.heap.size := by
  rcases h with ⟨_, rfl, _⟩ | ⟨g, cap, cur, rfl, hv, hh, _⟩
  · intro k hk; cases hk
  · intro k hk; rcases List.mem_singleton.1 hk with rfl; exact (Array.getElem?_eq_some_iff.1 hh).1
theorem TxtOwn.at {W : World} {v : Value} {xs : List ByteArray} {F : List Nat} (h : TxtOwn W v xs F) : ∃ a cap, v = .slice a xs.length cap ∧ TxtsAt W a xs ∧ (a = none → cap = 0) ∧ xs.length ≤ cap ∨ v = .slice a 0 cap ∧ xs = [] ∧ (a = none → cap = 0) := by
  rcases h with ⟨rfl, _, a, c, hv, hn⟩ | ⟨g, cap, cur, rfl, hv, hh, h1, h2, h3⟩
  · exact ⟨a, c, .inr ⟨hv, rfl, hn⟩⟩
  · refine ⟨_, cap, .inl ⟨hv, .inr ⟨g, 0, rfl, (Array.getElem?_eq_some_iff.1 hh).1, fun i x hi => ?_⟩, (fun e => by cases e), h1⟩⟩
    have := h3 i x hi
    simp [World.cell?, hh, this]
theorem TxtOwn.read {W : World} {v : Value} {xs : List ByteArray} {F : List Nat} (h : TxtOwn W v xs F) : ∃ a cap, v = .slice a xs.length cap ∧ TxtsAt W a xs ∧ (a = none → cap = 0) := by
  obtain ⟨a, cap, ⟨h1, h2, h3, _⟩ | ⟨h1, rfl, h3⟩⟩ := h.at
  · exact ⟨a, cap, h1, h2, h3⟩
  · exact ⟨a, cap, h1, .inl rfl, h3⟩
theorem TxtOwn.of_owns {W : World} {N n : Nat} {v : Value} {xs : List ByteArray} (h : W.ownsRow N 9 1 v n (xs.map Value.string)) : TxtOwn W v xs v.ownBlock.toList ∧ ∀ k ∈ v.ownBlock.toList, N ≤ k ∧ k < W.heap.size := by
  have hn : n = xs.length := by have := h.1; simpa using this.symm
  subst hn
  rcases h.2 with ⟨rfl, h0⟩ | ⟨g, cap, cur, rfl, hg, hh, hc, hm, hsz, hcur⟩
  · exact ⟨.inl ⟨List.length_eq_zero_iff.1 h0, rfl, none, 0, rfl, fun _ => rfl⟩, fun k hk => by cases hk⟩
  · refine ⟨.inr ⟨g, cap, cur, rfl, rfl, hh, hc, by omega, fun i x hi => ?_⟩, fun k hk => ?_⟩
    · have hl : i < xs.length := (List.getElem?_eq_some_iff.1 hi).1
      rw [← Array.getElem?_toList, ← List.getElem?_take_of_lt (l := cur.toList) (i := i) (j := xs.length * 1) (by omega), hcur, List.getElem?_map, hi]; rfl
    · rcases List.mem_singleton.1 hk with rfl
      exact ⟨hg, (Array.getElem?_eq_some_iff.1 hh).1⟩
theorem TxtOwn.of_row {W : World} {g n : Nat} {xs : List ByteArray} (h : TxtRow W g 9 n (txtFn xs)) (hn : xs.length = n) : TxtOwn W (.slice (some ⟨g, 0, none⟩) n n) xs [g] := by
  obtain ⟨cur, h1, h2, h3⟩ := h
  subst hn
  refine .inr ⟨g, xs.length, cur, rfl, rfl, h1, Nat.le_refl _, by omega, fun i x hi => ?_⟩
  rw [h3 i (List.getElem?_eq_some_iff.1 hi).1, txtFn_get hi]
def txtK : Kind := ⟨List ByteArray, TxtOwn, TxtOwn.frame, TxtOwn.lt⟩
def mtexts (q n : Nat) : List ByteArray := (List.range n).map fun i => mtext (q + i)
theorem mtexts_len (q n : Nat) : (mtexts q n).length = n := by simp [mtexts]
theorem mtexts_get {q n i : Nat} (h : i < n) : (mtexts q n)[i]? = some (mtext (q + i)) := by simp [mtexts, h]

set_option maxRecDepth 100000 in
set_option maxHeartbeats 2000000 in
theorem markStringS_own (xs : List ByteArray) (v : Value) (F : List Nat) (q : Nat) (w : World) (hn : xs.length ≤ 1048576) (hq : 0 < q) (hq2 : q ≤ 20000000) (h : TxtOwn w v xs F) :
    Calls Try.prog 25 #[v, .int .i64 (q : Int)] w fun x w' => x = .returned (.int .i64 ((q + xs.length : Nat) : Int)) ∧ TxtOwn w' v (mtexts q xs.length) F ∧ Only F w w' := by
  rcases h with ⟨rfl, rfl, a, c, rfl, hnil⟩ | ⟨g, cap, cur, rfl, rfl, hh, h1, h2, h3⟩
  · go_enter Try.func25, Try.ntmps25
    go_wp2_with fail
    go_loopw [1, 5] (fun c i wr => i = .int .i64 0 ∧ c = .int .i64 (q : Int) ∧ wr = w) (fun _ i _ => 0)
    case atStart => exact ⟨rfl, rfl, rfl⟩
    case round =>
      obtain ⟨rfl, rfl, rfl⟩ := hrel
      go_wp2_with fail
      go_ret
      exact ⟨ret_int (by simp), .inl ⟨by simp [mtexts], rfl, a, c, rfl, hnil⟩, Only.refl _ _⟩
  · have HH := hid (And.intro hh (And.intro h2 h3))
    clear hh h2 h3
    go_enter Try.func25, Try.ntmps25
    go_wp2_with fail
    go_loopw [1, 5] (fun c i wr => ∃ k : Nat, k ≤ xs.length ∧ i = .int .i64 (k : Int) ∧ c = .int .i64 ((q + k : Nat) : Int) ∧ Hid (∃ cur2 : Array Value, wr.heap[g]? = some (.cells cur2 9 (0, 0)) ∧ xs.length ≤ cur2.size ∧ ∀ i, i < k → cur2[i]? = some (.string (mtext (q + i)))) ∧ Hid (Only [g] w wr)) (fun _ i _ => xs.length - (intOf i).toNat)
    case atStart => exact ⟨0, Nat.zero_le _, rfl, by go_num, hid ⟨cur, (unhid HH).1, (unhid HH).2.1, fun i hi => absurd hi (Nat.not_lt_zero _)⟩, hid (Only.refl _ _)⟩
    case round =>
      obtain ⟨k, hk, rfl, rfl, HC, HO⟩ := hrel
      by_cases hlt : k < xs.length
      · go_wp2_with fail
        refine (markText_at _ (q + k) wr (by omega) (by omega) (by omega)).mono ?_
        rintro x w2 ⟨rfl, hb⟩
        obtain ⟨cur2, e1, e2, e3⟩ := unhid HC
        have hgl := (Array.getElem?_eq_some_iff.1 e1).1
        have e4 := (hb.block g hgl).trans e1
        obtain ⟨y, hy⟩ : ∃ y, cur2[k]? = some y := ⟨cur2[k], Array.getElem?_eq_getElem (by omega)⟩
        have c0 : w2.cell? ⟨g, k, none⟩ = some y := by simp [World.cell?, e4, hy]
        have f0 : w2.frozen? ⟨g, k, none⟩ = false := by simp [World.frozen?, e4]
        have HN := hid (heap_setCell_same w2 g k cur2 9 (.string (mtext (q + k))) e4)
        have HO2 := hid (((unhid HO).trans (Only.ofBelow hb)).setCell (p := ⟨g, k, none⟩) (by simp) (.string (mtext (q + k))))
        have HE := hid (And.intro e2 e3)
        clear hb e1 e2 e3 e4 hy hgl HC HO
        go_wp2_with fail
        go_roundw
        case rel =>
          refine ⟨k + 1, by omega, by go_num, by go_num, hid ⟨_, unhid HN, by simpa using (unhid HE).1, fun i hi => ?_⟩, HO2⟩
          simp only [Array.getElem?_setIfInBounds]
          have := (unhid HE).1
          by_cases ei : i = k
          · subst ei; rw [if_pos rfl, if_pos (by omega)]
          · rw [if_neg (by omega)]; exact (unhid HE).2 i (by omega)
        case measure => simp [intOf]; omega
      · have e : k = xs.length := by omega
        subst e
        go_wp2_with fail
        go_ret
        refine ⟨ret_int (by go_num), ?_, unhid HO⟩
        obtain ⟨cur2, e1, e2, e3⟩ := unhid HC
        refine .inr ⟨g, cap, cur2, rfl, by rw [mtexts_len], e1, by rw [mtexts_len]; exact h1, by rw [mtexts_len]; exact e2, fun i x hi => ?_⟩
        have hl : i < xs.length := by have := (List.getElem?_eq_some_iff.1 hi).1; rwa [mtexts_len] at this
        rw [mtexts_get hl] at hi
        cases hi
        exact e3 i hl

set_option maxRecDepth 100000 in
set_option maxHeartbeats 2000000 in
theorem heldStringS_at (n : Nat) (a : Option Addr) (cap q : Nat) (w : World) (hn : n ≤ 1048576) (hq : 0 < q) (hq2 : q ≤ 20000000) (h : TxtsAt w a (mtexts q n)) :
    Calls Try.prog 32 #[.slice a n cap, .int .i64 (q : Int)] w fun x w' => x = .returned (.int .i64 ((q + n : Nat) : Int)) ∧ Below w.heap.size w w' := by
  go_enter Try.func32, Try.ntmps32
  go_wp2_with fail
  go_loopw [1, 5] (fun c i wr => ∃ k : Nat, k ≤ n ∧ i = .int .i64 (k : Int) ∧ c = .int .i64 ((q + k : Nat) : Int) ∧ Below w.heap.size w wr) (fun _ i _ => n - (intOf i).toNat)
  case atStart => exact ⟨0, Nat.zero_le _, rfl, by go_num, Below.refl _ _⟩
  case round =>
    obtain ⟨k, hk, rfl, rfl, hB⟩ := hrel
    by_cases hlt : k < n
    · have he := mtexts_get (q := q) hlt
      obtain ⟨b, o, rfl, hbl, hc⟩ := h.get (by intro e; rw [e] at he; cases he)
      have c0 := (hB.cell (p := ⟨b, o + k, none⟩) hbl).trans (hc k _ he)
      have HH := hid (And.intro hc hB)
      have hbw : b < wr.heap.size := Nat.lt_of_lt_of_le hbl hB.size
      obtain ⟨q1, q2⟩ := txt_yes (show mtext (q + k) = mtext (q + k) from rfl)
      have g0 := BW.cell (B := wr.heap.size) hbw c0
      clear hc hB he h c0
      go_wp2_with fail
      have hba := @BW.all wr.heap.size wr
      refine calm_region wr.heap.size (by kernel_rfl) (by kernel_rfl) ?_
      repeat (go_big_quiet_step ((go_at_call 59; exact Calls.bw (v := .string (mtext (q + k))) (Nat.le_refl _) (markText_at _ (q + k) _ (by omega) (by omega) (by omega)))))
      refine wpQuiet_nil ?_
      intro w4 hw
      obtain ⟨x, hx⟩ := hw
      have hB4 : Below wr.heap.size wr w4 := by rw [hx]; exact x.h
      have HB4 := hid ((unhid HH).2.trans (hB4.mono (unhid HH).2.size))
      clear hx x g0 hba hB4 HH
      go_wp2_with fail
      go_roundw
      case rel => exact ⟨k + 1, by omega, by go_num, by go_num, unhid HB4⟩
      case measure => simp [intOf]; omega
    · have e : k = n := by omega
      subst e
      go_wp2_with fail
      go_ret
      exact ⟨ret_int (by go_num), hB⟩
end Go.Proofs.Ytedimkcnemhhpaa
