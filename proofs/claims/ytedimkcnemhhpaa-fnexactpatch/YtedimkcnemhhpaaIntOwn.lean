/- Rows of numbers: what they hold, in memory of their own, what is written over them. -/
import Derived.Test.YtedimkcnemhhpaaTxtOwn
namespace Go.Proofs.Ytedimkcnemhhpaa
open Go.RowKit Go.Shelf

def IntsAt (W : World) (a : Option Addr) (zs : List Int) : Prop := zs = [] ∨ ∃ b o, a = some ⟨b, o, none⟩ ∧ b < W.heap.size ∧ ∀ (i : Nat) z, zs[i]? = some z → W.cell? ⟨b, o + i, none⟩ = some (.int .i64 z)
theorem IntsAt.below {W W' : World} {a : Option Addr} {zs : List Int} (h : IntsAt W a zs) (hb : Below W.heap.size W W') : IntsAt W' a zs := by
  rcases h with h | ⟨b, o, rfl, hl, hc⟩
  · exact .inl h
  · exact .inr ⟨b, o, rfl, Nat.lt_of_lt_of_le hl hb.size, fun i x hi => (hb.cell (p := ⟨b, o + i, none⟩) hl).trans (hc i x hi)⟩
theorem IntsAt.get {W : World} {a : Option Addr} {zs : List Int} (h : IntsAt W a zs) (hne : zs ≠ []) : ∃ b o, a = some ⟨b, o, none⟩ ∧ b < W.heap.size ∧ ∀ (i : Nat) z, zs[i]? = some z → W.cell? ⟨b, o + i, none⟩ = some (.int .i64 z) := h.resolve_left hne
def IntOwn (W : World) (v : Value) (zs : List Int) (F : List Nat) : Prop := (zs = [] ∧ F = [] ∧ ∃ a c, v = .slice a 0 c ∧ (a = none → c = 0)) ∨
  ∃ g cap cur, F = [g] ∧ v = .slice (some ⟨g, 0, none⟩) zs.length cap ∧ W.heap[g]? = some (.cells cur 3 (0, 0)) ∧ zs.length ≤ cap ∧ zs.length ≤ cur.size ∧ ∀ (i : Nat) z, zs[i]? = some z → cur[i]? = some (.int .i64 z)
theorem IntOwn.frame {W W' : World} {v : Value} {zs : List Int} {F : List Nat} (h : IntOwn W v zs F) (hf : ∀ k ∈ F, W'.heap[k]? = W.heap[k]?) : IntOwn W' v zs F := by
  rcases h with h | ⟨g, cap, cur, rfl, hv, hh, h1, h2, h3⟩
  · exact .inl h
  · exact .inr ⟨g, cap, cur, rfl, hv, (hf g (by simp)).trans hh, h1, h2, h3⟩
theorem IntOwn.lt {W : World} {v : Value} {zs : List Int} {F : List Nat} (h : IntOwn W v zs F) : ∀ k ∈ F, k < W.heap.size := by
  rcases h with ⟨_, rfl, _⟩ | ⟨g, cap, cur, rfl, hv, hh, _⟩
  · intro k hk; cases hk
  · intro k hk; rcases List.mem_singleton.1 hk with rfl; exact (Array.getElem?_eq_some_iff.1 hh).1
theorem IntOwn.read {W : World} {v : Value} {zs : List Int} {F : List Nat} (h : IntOwn W v zs F) : ∃ a cap, v = .slice a zs.length cap ∧ IntsAt W a zs := by
  rcases h with ⟨rfl, _, a, c, hv, hn⟩ | ⟨g, cap, cur, rfl, hv, hh, h1, h2, h3⟩
  · exact ⟨a, c, hv, .inl rfl⟩
  · refine ⟨_, cap, hv, .inr ⟨g, 0, rfl, (Array.getElem?_eq_some_iff.1 hh).1, fun i x hi => ?_⟩⟩
    have := h3 i x hi
    simp [World.cell?, hh, this]
theorem IntOwn.of_owns {W : World} {N n : Nat} {v : Value} {zs : List Int} (h : W.ownsRow N 3 1 v n (zs.map (Value.int .i64))) : IntOwn W v zs v.ownBlock.toList ∧ ∀ k ∈ v.ownBlock.toList, N ≤ k ∧ k < W.heap.size := by
  have hn : n = zs.length := by have := h.1; simpa using this.symm
  subst hn
  rcases h.2 with ⟨rfl, h0⟩ | ⟨g, cap, cur, rfl, hg, hh, hc, hm, hsz, hcur⟩
  · exact ⟨.inl ⟨List.length_eq_zero_iff.1 h0, rfl, none, 0, rfl, fun _ => rfl⟩, fun k hk => by cases hk⟩
  · refine ⟨.inr ⟨g, cap, cur, rfl, rfl, hh, hc, by omega, fun i x hi => ?_⟩, fun k hk => ?_⟩
    · have hl : i < zs.length := (List.getElem?_eq_some_iff.1 hi).1
      rw [← Array.getElem?_toList, ← List.getElem?_take_of_lt (l := cur.toList) (i := i) (j := zs.length * 1) (by omega), hcur, List.getElem?_map, hi]; rfl
    · rcases List.mem_singleton.1 hk with rfl
      exact ⟨hg, (Array.getElem?_eq_some_iff.1 hh).1⟩
def intK : Kind := ⟨List Int, IntOwn, IntOwn.frame, IntOwn.lt⟩
def mints (q n : Nat) : List Int := (List.range n).map fun i => ((q + i : Nat) : Int)
theorem mints_len (q n : Nat) : (mints q n).length = n := by simp [mints]
theorem mints_get {q n i : Nat} (h : i < n) : (mints q n)[i]? = some ((q + i : Nat) : Int) := by simp [mints, h]
def intFn (zs : List Int) (i : Nat) : Int := zs.getD i 0
theorem intFn_get {zs : List Int} {i : Nat} {z : Int} (h : zs[i]? = some z) : intFn zs i = z := by unfold intFn; rw [List.getD_eq_getElem?_getD, h]; rfl
theorem intFn_some {zs : List Int} {i : Nat} (h : i < zs.length) : zs[i]? = some (intFn zs i) := by rw [intFn_get (List.getElem?_eq_getElem h)]; exact List.getElem?_eq_getElem h

set_option maxRecDepth 100000 in
set_option maxHeartbeats 2000000 in
theorem markIntS_own (zs : List Int) (v : Value) (F : List Nat) (q : Nat) (w : World) (hn : zs.length ≤ 1048576) (hq2 : q ≤ 20000000) (h : IntOwn w v zs F) :
    Calls Try.prog 31 #[v, .int .i64 (q : Int)] w fun x w' => x = .returned (.int .i64 ((q + zs.length : Nat) : Int)) ∧ IntOwn w' v (mints q zs.length) F ∧ Only F w w' := by
  rcases h with ⟨rfl, rfl, a, c, rfl, hnil⟩ | ⟨g, cap, cur, rfl, rfl, hh, h1, h2, h3⟩
  · go_enter Try.func31, Try.ntmps31
    go_wp2_with fail
    go_loopw [1, 5] (fun c i wr => i = .int .i64 0 ∧ c = .int .i64 (q : Int) ∧ wr = w) (fun _ i _ => 0)
    case atStart => exact ⟨rfl, rfl, rfl⟩
    case round =>
      obtain ⟨rfl, rfl, rfl⟩ := hrel
      go_wp2_with fail
      go_ret
      exact ⟨ret_int (by simp), .inl ⟨by simp [mints], rfl, a, c, rfl, hnil⟩, Only.refl _ _⟩
  · have HH := hid (And.intro hh (And.intro h2 h3))
    clear hh h2 h3
    go_enter Try.func31, Try.ntmps31
    go_wp2_with fail
    go_loopw [1, 5] (fun c i wr => ∃ k : Nat, k ≤ zs.length ∧ i = .int .i64 (k : Int) ∧ c = .int .i64 ((q + k : Nat) : Int) ∧ Hid (∃ cur2 : Array Value, wr.heap[g]? = some (.cells cur2 3 (0, 0)) ∧ zs.length ≤ cur2.size ∧ (∀ i, i < k → cur2[i]? = some (.int .i64 ((q + i : Nat) : Int)))) ∧ Hid (Only [g] w wr)) (fun _ i _ => zs.length - (intOf i).toNat)
    case atStart => exact ⟨0, Nat.zero_le _, rfl, by go_num, hid ⟨cur, (unhid HH).1, (unhid HH).2.1, fun i hi => absurd hi (Nat.not_lt_zero _)⟩, hid (Only.refl _ _)⟩
    case round =>
      obtain ⟨k, hk, rfl, rfl, HC, HO⟩ := hrel
      by_cases hlt : k < zs.length
      · obtain ⟨cur2, e1, e2, e3⟩ := unhid HC
        obtain ⟨y, hy⟩ : ∃ y, cur2[k]? = some y := ⟨cur2[k], Array.getElem?_eq_getElem (by omega)⟩
        have c0 : wr.cell? ⟨g, k, none⟩ = some y := by simp [World.cell?, e1, hy]
        have f0 : wr.frozen? ⟨g, k, none⟩ = false := by simp [World.frozen?, e1]
        have HN := hid (heap_setCell_same wr g k cur2 3 (.int .i64 ((q : Int) + (k : Int))) e1)
        have HO2 := hid ((unhid HO).setCell (p := ⟨g, k, none⟩) (by simp) (.int .i64 ((q : Int) + (k : Int))))
        have HE := hid (And.intro e2 e3)
        clear e1 e2 e3 hy HC HO
        go_wp2_with fail
        go_roundw
        case rel =>
          refine ⟨k + 1, by omega, by go_num, by go_num, hid ⟨_, unhid HN, by simpa using (unhid HE).1, fun i hi => ?_⟩, HO2⟩
          simp only [Array.getElem?_setIfInBounds]
          have := (unhid HE).1
          by_cases ei : i = k
          · subst ei; rw [if_pos rfl, if_pos (by omega)]; rfl
          · rw [if_neg (by omega)]; exact (unhid HE).2 i (by omega)
        case measure => simp [intOf]; omega
      · have e : k = zs.length := by omega
        subst e
        go_wp2_with fail
        go_ret
        refine ⟨ret_int (by go_num), ?_, unhid HO⟩
        obtain ⟨cur2, e1, e2, e3⟩ := unhid HC
        refine .inr ⟨g, cap, cur2, rfl, by rw [mints_len], e1, by rw [mints_len]; exact h1, by rw [mints_len]; exact e2, fun i x hi => ?_⟩
        have hl : i < zs.length := by have := (List.getElem?_eq_some_iff.1 hi).1; rwa [mints_len] at this
        rw [mints_get hl] at hi
        cases hi
        exact e3 i hl

set_option maxRecDepth 100000 in
set_option maxHeartbeats 2000000 in
theorem heldIntS_at (n : Nat) (a : Option Addr) (cap q : Nat) (w : World) (hn : n ≤ 1048576) (hq2 : q ≤ 20000000) (h : IntsAt w a (mints q n)) :
    Calls Try.prog 33 #[.slice a n cap, .int .i64 (q : Int)] w fun x w' => x = .returned (.int .i64 ((q + n : Nat) : Int)) ∧ Below w.heap.size w w' := by
  go_enter Try.func33, Try.ntmps33
  go_wp2_with fail
  go_loop [1, 5] (fun c i => ∃ k : Nat, k ≤ n ∧ i = .int .i64 (k : Int) ∧ c = .int .i64 ((q + k : Nat) : Int)) (fun _ i => n - (intOf i).toNat)
  case atStart => exact ⟨0, Nat.zero_le _, rfl, by go_num⟩
  case round =>
    obtain ⟨k, hk, rfl, rfl⟩ := hrel
    by_cases hlt : k < n
    · have he := mints_get (q := q) hlt
      obtain ⟨b, o, rfl, hbl, hc⟩ := h.get (by intro e; rw [e] at he; cases he)
      have c0 : w.cell? ⟨b, o + k, none⟩ = some (.int .i64 ((q : Int) + (k : Int))) := by rw [hc k _ he]; rfl
      have HH := hid hc
      have hq : (((q : Int) + (k : Int)) != ((q : Int) + (k : Int))) = false := by simp
      clear hc he h
      go_wp2_with fail
      exact ⟨⟨k + 1, by omega, by go_num, by go_num⟩, by simp [intOf]; omega⟩
    · have e : k = n := by omega
      subst e
      go_wp2_with fail
      go_ret
      exact ⟨ret_int (by go_num), Below.refl _ _⟩

set_option maxRecDepth 100000 in
set_option maxHeartbeats 2000000 in
theorem eqIntS_same (zs : List Int) (a b : Option Addr) (cap cap2 : Nat) (w : World) (hx : zs.length ≤ maxLen) (h : IntsAt w a zs) (h2 : IntsAt w b zs) :
    Calls Try.prog 30 #[.slice a zs.length cap, .slice b zs.length cap2] w fun r w' => r = .returned (.bool true) ∧ Below w.heap.size w w' := by
  unfold maxLen at hx
  have hl' : ((zs.length : Int) != (zs.length : Int)) = false := by simp
  go_enter Try.func30, Try.ntmps30
  go_wp2_with fail
  go_loopw [5] (fun i wr => ∃ k : Nat, k ≤ zs.length ∧ i = .int .i64 k ∧ Below w.heap.size w wr) (fun i _ => zs.length - (intOf i).toNat)
  case atStart => exact ⟨0, Nat.zero_le _, rfl, Below.refl _ _⟩
  case round =>
    obtain ⟨k, hk, rfl, hB⟩ := hrel
    by_cases hlt : k < zs.length
    · have he := intFn_some hlt
      generalize intFn zs k = z at he
      obtain ⟨bb, o, rfl, hbl, hc⟩ := h.get (by intro e; subst e; simp at hlt)
      obtain ⟨bb2, o2, rfl, hbl2, hc2⟩ := h2.get (by intro e; subst e; simp at hlt)
      have c0 := (hB.cell (p := ⟨bb, o + k, .none⟩) hbl).trans (hc k z he)
      have d0 := (hB.cell (p := ⟨bb2, o2 + k, .none⟩) hbl2).trans (hc2 k z he)
      have HB := hid hB
      have HH := hid (And.intro h (And.intro h2 (And.intro hc hc2)))
      have hq : (z != z) = false := by simp
      clear hc hc2 hB he h h2
      go_wp2_with fail
      go_quiet (fail)
      go_wp2_with fail
      go_roundw
      case rel => exact ⟨k + 1, by omega, by go_num, ⟨(unhid HB).os, (unhid HB).tape, (unhid HB).output, (unhid HB).size, (unhid HB).block⟩⟩
      case measure => simp [intOf]; omega
    · have e : k = zs.length := by omega
      subst e
      go_wp2_with fail
      go_ret
      exact ⟨rfl, hB⟩
end Go.Proofs.Ytedimkcnemhhpaa
