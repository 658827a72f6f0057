/- Texts of this proof, one behind the other; each says at its head what it shows. -/
import Derived.Test.YtoihhlkidlapmaaGreatJoin1
import Derived.Laws.OwnMore
import Derived.Shelf.Small.Strs
import Derived.Shelf.Strings.Search1
import Derived.Shelf.Sort.Plain
import Derived.Shelf.Slices.In.SortNone
import Derived.Test.YtoihhlkidlapmaaGreatProg
import Derived.Sort.OwnSorted
import Derived.Sort.KeysCollected
import Derived.Lib.Strings
import Derived.Lib.Bytealg
import Derived.Laws.Externs
import Derived.Maps.AppendAt
/- Rows of texts in memory of their own; what is written over them. -/
namespace Go.Proofs.YtoihhlkidlapmaaGreat
open Go.RowKit Go.Shelf

def TxtOwn (W : World) (v : Value) (xs : List ByteArray) (F : List Nat) : Prop := (xs = [] ∧ F = [] ∧ ∃ a c, v = .slice a 0 c ∧ (a = none → c = 0)) ∨
  ∃ g cap cur, F = [g] ∧ v = .slice (some ⟨g, 0, none⟩) xs.length cap ∧ W.heap[g]? = some (.cells cur 9 (0, 0)) ∧ xs.length ≤ cap ∧ xs.length ≤ cur.size ∧ ∀ (i : Nat) x, xs[i]? = some x → cur[i]? = some (.string x)
theorem TxtOwn.frame {W W' : World} {v : Value} {xs : List ByteArray} {F : List Nat} (h : TxtOwn W v xs F) (hf : ∀ k ∈ F, W'.heap[k]? = W.heap[k]?) : TxtOwn W' v xs F := by
  rcases h with h | ⟨g, cap, cur, rfl, hv, hh, h1, h2, h3⟩
  · exact .inl h
  · exact .inr ⟨g, cap, cur, rfl, hv, (hf g (by simp)).trans hh, h1, h2, h3⟩
theorem TxtOwn.lt {W : World} {v : Value} {xs : List ByteArray} {F : List Nat} (h : TxtOwn W v xs F) : ∀ k ∈ F, k < W.heap.size := by
  rcases h with ⟨_, rfl, _⟩ | ⟨g, cap, cur, rfl, hv, hh, _⟩
  · intro k hk; cases hk
  · intro k hk; rcases List.mem_singleton.1 hk with rfl; exact (Array.getElem?_eq_some_iff.1 hh).1
theorem TxtOwn.at {W : World} {v : Value} {xs : List ByteArray} {F : List Nat} (h : TxtOwn W v xs F) : ∃ a cap, v = .slice a xs.length cap ∧ TxtsAt W a xs ∧ (a = none → cap = 0) ∧ xs.length ≤ cap ∨ v = .slice a 0 cap ∧ xs = [] ∧ (a = none → cap = 0) := by
  rcases h with ⟨rfl, _, a, c, hv, hn⟩ | ⟨g, cap, cur, rfl, hv, hh, h1, h2, h3⟩
  · exact ⟨a, c, .inr ⟨hv, rfl, hn⟩⟩
  · refine ⟨_, cap, .inl ⟨hv, .inr ⟨g, 0, rfl, (Array.getElem?_eq_some_iff.1 hh).1, fun i x hi => ?_⟩, (fun e => by cases e), h1⟩⟩
    have := h3 i x hi
    simp [World.cell?, hh, this]
theorem TxtOwn.read {W : World} {v : Value} {xs : List ByteArray} {F : List Nat} (h : TxtOwn W v xs F) : ∃ a cap, v = .slice a xs.length cap ∧ TxtsAt W a xs ∧ (a = none → cap = 0) := by
  obtain ⟨a, cap, ⟨h1, h2, h3, _⟩ | ⟨h1, rfl, h3⟩⟩ := h.at
  · exact ⟨a, cap, h1, h2, h3⟩
  · exact ⟨a, cap, h1, .inl rfl, h3⟩
theorem TxtOwn.of_owns {W : World} {N n : Nat} {v : Value} {xs : List ByteArray} (h : W.ownsRow N 9 1 v n (xs.map Value.string)) : TxtOwn W v xs v.ownBlock.toList ∧ ∀ k ∈ v.ownBlock.toList, N ≤ k ∧ k < W.heap.size := by
  have hn : n = xs.length := by have := h.1; simpa using this.symm
  subst hn
  rcases h.2 with ⟨rfl, h0⟩ | ⟨g, cap, cur, rfl, hg, hh, hc, hm, hsz, hcur⟩
  · exact ⟨.inl ⟨List.length_eq_zero_iff.1 h0, rfl, none, 0, rfl, fun _ => rfl⟩, fun k hk => by cases hk⟩
  · refine ⟨.inr ⟨g, cap, cur, rfl, rfl, hh, hc, by omega, fun i x hi => ?_⟩, fun k hk => ?_⟩
    · have hl : i < xs.length := (List.getElem?_eq_some_iff.1 hi).1
      rw [← Array.getElem?_toList, ← List.getElem?_take_of_lt (l := cur.toList) (i := i) (j := xs.length * 1) (by omega), hcur, List.getElem?_map, hi]; rfl
    · rcases List.mem_singleton.1 hk with rfl
      exact ⟨hg, (Array.getElem?_eq_some_iff.1 hh).1⟩
def mtexts (q n : Nat) : List ByteArray := (List.range n).map fun i => mtext (q + i)
theorem mtexts_len (q n : Nat) : (mtexts q n).length = n := by simp [mtexts]
theorem mtexts_get {q n i : Nat} (h : i < n) : (mtexts q n)[i]? = some (mtext (q + i)) := by simp [mtexts, h]


set_option maxRecDepth 100000 in
set_option maxHeartbeats 2000000 in
theorem heldStringS_big (n : Nat) (a : Option Addr) (cap q : Nat) (w : World) (hn : n ≤ 20000000) (hq : 0 < q) (hq2 : q ≤ 20000000) (h : TxtsAt w a (mtexts q n)) :
    Calls Tryz.prog 31 #[.slice a n cap, .int .i64 (q : Int)] w fun x w' => x = .returned (.int .i64 ((q + n : Nat) : Int)) ∧ Below w.heap.size w w' := by
  go_enter Tryz.func31, Tryz.ntmps31
  go_wp2_with fail
  go_loopw [1, 5] (fun c i wr => ∃ k : Nat, k ≤ n ∧ i = .int .i64 (k : Int) ∧ c = .int .i64 ((q + k : Nat) : Int) ∧ Below w.heap.size w wr) (fun _ i _ => n - (intOf i).toNat)
  case atStart => exact ⟨0, Nat.zero_le _, rfl, by go_num, Below.refl _ _⟩
  case round =>
    obtain ⟨k, hk, rfl, rfl, hB⟩ := hrel
    by_cases hlt : k < n
    · have he := mtexts_get (q := q) hlt
      obtain ⟨b, o, rfl, hbl, hc⟩ := h.get (by intro e; rw [e] at he; cases he)
      have c0 := (hB.cell (p := ⟨b, o + k, none⟩) hbl).trans (hc k _ he)
      have HH := hid (And.intro hc hB)
      have hbw : b < wr.heap.size := Nat.lt_of_lt_of_le hbl hB.size
      obtain ⟨q1, q2⟩ := txt_yes (show mtext (q + k) = mtext (q + k) from rfl)
      have g0 := BW.cell (B := wr.heap.size) hbw c0
      clear hc hB he h c0
      go_wp2_with fail
      have hba := @BW.all wr.heap.size wr
      refine calm_region wr.heap.size (by kernel_rfl) (by kernel_rfl) ?_
      repeat (go_big_quiet_step ((go_at_call 74; exact Calls.bw (v := .string (mtext (q + k))) (Nat.le_refl _) (markText_at _ (q + k) _ (by omega) (by omega) (by omega)))))
      refine wpQuiet_nil ?_
      intro w4 hw
      obtain ⟨x, hx⟩ := hw
      have hB4 : Below wr.heap.size wr w4 := by rw [hx]; exact x.h
      have HB4 := hid ((unhid HH).2.trans (hB4.mono (unhid HH).2.size))
      clear hx x g0 hba hB4 HH
      go_wp2_with fail
      go_roundw
      case rel => exact ⟨k + 1, by omega, by go_num, by go_num, unhid HB4⟩
      case measure => simp [intOf]; omega
    · have e : k = n := by omega
      subst e
      go_wp2_with fail
      go_ret
      exact ⟨ret_int (by go_num), hB⟩

end Go.Proofs.YtoihhlkidlapmaaGreat

/- Rows of texts, in the form of shapes: what the laws' own functions of them do. -/
namespace Go.Proofs.YtoihhlkidlapmaaGreat
open Go.ChangeShapes Go.WideShapes Go.ChangeAt Go.RowKit Go.Shelf

theorem cntR_txt : ∀ xs : List ByteArray, cntR txtC xs = xs.length
  | [] => rfl
  | x :: xs => by
    show 1 + cntR txtC xs = _
    rw [cntR_txt xs, List.length_cons]; omega
theorem markR_txt : ∀ (q : Nat) (xs : List ByteArray), markR txtC q xs = mtexts q xs.length
  | _, [] => rfl
  | q, x :: xs => by
    show mtext q :: markR txtC (q + 1) xs = _
    rw [markR_txt (q + 1) xs, List.length_cons]
    unfold mtexts
    rw [List.range_succ_eq_map, List.map_cons, List.map_map, Nat.add_zero]
    congr 1
    apply List.map_congr_left
    intro i _
    show mtext (q + 1 + i) = mtext (q + (i + 1))
    congr 1; omega
theorem rowAt_txts {W : World} {v : Value} {xs : List ByteArray} (h : rowAt txtC W v xs) : ∃ (a : Option Addr) (cap : Nat), v = .slice a xs.length cap ∧ TxtsAt W a xs ∧ (a = none → cap = 0) ∧ xs.length ≤ cap := by
  obtain ⟨a, cap, rfl, hn, hc, h⟩ := h
  refine ⟨a, cap, rfl, ?_, hn, hc⟩
  rcases h with h | ⟨b, o, rfl, hb, hall⟩
  · exact .inl h
  · refine .inr ⟨b, o, rfl, hb, fun i x hi => ?_⟩
    obtain ⟨cs, hcs, hcell⟩ := hall i x hi
    have e : cs = [.string x] := hcs
    subst e
    have := hcell 0 _ rfl
    rwa [show o + i * txtC.n + 0 = o + i from by show o + i * 1 + 0 = _; omega] at this
theorem rowAt_of_txts {W : World} {a : Option Addr} {cap : Nat} {xs : List ByteArray} (h : TxtsAt W a xs) (hn : a = none → cap = 0) (hc : xs.length ≤ cap) : rowAt txtC W (.slice a xs.length cap) xs := by
  refine ⟨a, cap, rfl, hn, hc, ?_⟩
  rcases h with h | ⟨b, o, rfl, hb, hall⟩
  · exact .inl h
  · refine .inr ⟨b, o, rfl, hb, fun i x hi => ⟨[.string x], rfl, fun j c hj => ?_⟩⟩
    cases j with
    | succ j => cases j <;> cases hj
    | zero =>
      cases hj
      rw [show o + i * txtC.n + 0 = o + i from by show o + i * 1 + 0 = _; omega]
      exact hall i x hi
theorem flat_nils : ∀ Fs : List (List Nat), (∀ F ∈ Fs, F = []) → Fs.flatten = []
  | [], _ => rfl
  | F :: Fs, h => by rw [List.flatten_cons, h F (by simp), flat_nils Fs (fun G hG => h G (List.mem_cons_of_mem _ hG))]; rfl
theorem txt_of_own {W : World} {v : Value} {xs : List ByteArray} {F : List Nat} (h : rowOwn txtC 9 W v xs F) : TxtOwn W v xs F := by
  rcases h with h | ⟨g, cap, cur, Fs, hv, hc, rfl, hnd, hA⟩
  · exact .inl h
  · have hF : Fs.flatten = [] := flat_nils Fs (fun G hG => by
      obtain ⟨i, hi⟩ := List.getElem?_of_mem hG
      have hl : i < xs.length := by have h1 : Fs.length = List.length (α := ByteArray) xs := hA.len; rw [← h1]; exact (List.getElem?_eq_some_iff.1 hi).1
      obtain ⟨cs, Fi, h1, _, h3⟩ := hA.each i xs[i] (List.getElem?_eq_getElem hl)
      rw [hi] at h1
      cases h1
      exact h3.2)
    refine .inr ⟨g, cap, cur, by rw [hF], hv, hA.heap, hc, by have h : List.length (α := ByteArray) xs * 1 ≤ cur.size := hA.size; omega, fun i x hi => ?_⟩
    obtain ⟨cs, Fi, _, h2, h3⟩ := hA.each i x hi
    have e : cs = [.string x] := h3.1
    subst e
    have := h2 0 _ rfl
    rwa [show i * txtC.n + 0 = i from by show i * 1 + 0 = _; omega] at this
theorem own_of_txt {W : World} {v : Value} {xs : List ByteArray} {F : List Nat} (h : TxtOwn W v xs F) : rowOwn txtC 9 W v xs F := by
  rcases h with h | ⟨g, cap, cur, rfl, hv, hh, h1, h2, h3⟩
  · exact .inl h
  · have hF : (List.replicate xs.length ([] : List Nat)).flatten = [] := flat_nils _ (fun G hG => (List.mem_replicate.1 hG).2)
    refine .inr ⟨g, cap, cur, List.replicate xs.length [], hv, h1, by rw [hF], by simp, ⟨hh, show List.length (α := ByteArray) xs * 1 ≤ cur.size by omega, List.length_replicate, fun i x hi => ⟨[.string x], [], ?_, fun j c hj => ?_, rfl, rfl⟩⟩⟩
    · rw [List.getElem?_replicate]; exact if_pos (List.getElem?_eq_some_iff.1 hi).1
    · cases j with
      | succ j => cases j <;> cases hj
      | zero =>
        cases hj
        rw [show i * txtC.n + 0 = i from by show i * 1 + 0 = _; omega]
        exact h3 i x hi
/-- A row that the call owns, as it is read. -/
theorem ownsRow_at {W : World} {N n : Nat} {v : Value} {xs : List ByteArray} (h : W.ownsRow N 9 1 v n (xs.map Value.string)) : rowAt txtC W v xs := by
  obtain ⟨h1, _⟩ := TxtOwn.of_owns h
  exact (own_of_txt h1).toAt
theorem ownsRow_own {W : World} {N n : Nat} {v : Value} {xs : List ByteArray} (h : W.ownsRow N 9 1 v n (xs.map Value.string)) : ∃ F, rowOwn txtC 9 W v xs F ∧ ∀ k ∈ F, N ≤ k ∧ k < W.heap.size := by
  obtain ⟨h1, h2⟩ := TxtOwn.of_owns h
  exact ⟨_, own_of_txt h1, h2⟩
end Go.Proofs.YtoihhlkidlapmaaGreat

/- Rows of texts: one appended to another, in the form of shapes. -/
namespace Go.Proofs.YtoihhlkidlapmaaGreat
open Go.RowKit Go.Shelf

theorem txts_one (xs : List ByteArray) : ∀ u ∈ xs.map Value.string, u.oneCell' = true := fun u hu => by
  obtain ⟨x, _, rfl⟩ := List.mem_map.1 hu; rfl
theorem app_row (w : World) (base ty : Nat) (v : Value) (xs ys : List ByteArray) (V : Value) (hown : w.ownsRow base 9 1 v xs.length (xs.map Value.string)) (h : rowAt txtC w V ys) (hn : xs.length + ys.length ≤ 4294967296) (hb : base ≤ w.heap.size) :
    ∃ v' w', (Builtin.append_ #[24, 24] ty #[v, V]).run Tryz.prog w = .ok v' w' ∧ w'.ownsRow base 9 1 v' (xs ++ ys).length ((xs ++ ys).map Value.string) ∧ w.grownBy w' v.ownBlock := by
  obtain ⟨i0, hi, hz0, hz1, hz2⟩ := info_parts infoStr
  have hle : (xs ++ ys).length = xs.length + ys.length := List.length_append
  obtain ⟨a, c, rfl, h, ha, -⟩ := rowAt_txts h
  cases a with
  | none =>
    have h0 : ys = [] := by rcases h with h | ⟨b, o, hh, _⟩; exact h; cases hh
    subst h0
    obtain rfl := ha rfl
    exact ⟨v, w, run_append_owned_none (P := Tryz.prog) w base 24 ty 9 i0 1 Tryz.underlying24 hi v xs.length _ hown, by simpa using hown, rfl, rfl, rfl, Nat.le_refl _, fun _ _ _ => rfl⟩
  | some ad =>
    obtain ⟨v', w', hr, h2, h3, _, h5⟩ := run_append_own_at (P := Tryz.prog) w base 24 ty 9 i0 (.string ⟨#[]⟩) 1 16 Tryz.underlying24 hi hz0 hz1 hz2 rfl (by decide) v xs.length _ hown ad ys.length c (ys.map Value.string) (by simp) (by
      intro j u hj
      rw [List.getElem?_map] at hj
      cases hy : ys[j]? with
      | none => rw [hy] at hj; cases hj
      | some y =>
        rw [hy] at hj
        cases hj
        obtain ⟨b, o, e, _, hc⟩ := h.get (by intro e; subst e; simp at hy)
        cases e
        rw [add_plainS]
        exact hc j y hy) (txts_one _) (by unfold maxLen; omega) (by omega) hb
    exact ⟨v', w', hr, by rw [hle, List.map_append]; exact h2, h3⟩
theorem ownsRow_made0 (w : World) : (w.alloc (.cells #[] 9)).ownsRow w.heap.size 9 1 (.slice (some ⟨w.heap.size, 0, none⟩) 0 0) ([] : List ByteArray).length (([] : List ByteArray).map Value.string) :=
  ⟨rfl, .inr ⟨w.heap.size, 0, #[], rfl, Nat.le_refl _, World.alloc_heap_new _ _, Nat.le_refl _, by simp [maxLen], rfl, rfl⟩⟩
end Go.Proofs.YtoihhlkidlapmaaGreat

/- Whether a text comes twice: by the model. -/
namespace Go.Proofs.YtoihhlkidlapmaaGreat
open Go.RowKit Go.Shelf

theorem txt_iff (x y : ByteArray) : (x.toList == y.toList) = decide (x = y) := by
  by_cases h : x = y
  · subst h; simp
  · rw [decide_eq_false h]
    rw [beq_eq_false_iff_ne]
    intro e
    apply h
    apply ByteArray.ext
    apply Array.ext'
    rw [← Lib.toList_data, ← Lib.toList_data]; exact e
theorem nodup_snoc {α : Type} {xs : List α} {x : α} (h : xs.Nodup) (hx : x ∉ xs) : (xs ++ [x]).Nodup := by
  rw [List.nodup_append]
  exact ⟨h, by simp, fun a ha b hb e => by rw [List.mem_singleton.1 hb] at e; exact hx (e ▸ ha)⟩
theorem twiceB_true {xs : List ByteArray} {k i : Nat} {x : ByteArray} (hk : xs[k]? = some x) (hi : xs[i]? = some x) (h : k < i) : twiceB xs = true := by
  unfold twiceB
  rw [decide_eq_false]
  · rfl
  · intro hn
    obtain ⟨l1, e1⟩ := List.getElem?_eq_some_iff.1 hk
    obtain ⟨l2, e2⟩ := List.getElem?_eq_some_iff.1 hi
    have := (List.pairwise_iff_getElem.1 hn) k i l1 l2 h
    exact this (e1.trans e2.symm)

set_option maxRecDepth 100000 in
set_option maxHeartbeats 4000000 in
theorem l4Twice_any (xs : List ByteArray) (a : Option Addr) (cap : Nat) (w : World) (hl : xs.length ≤ maxLen) (h : TxtsAt w a xs) :
    Calls Tryz.prog 123 #[.slice a xs.length cap] w fun x w' => x = .returned (.bool (twiceB xs)) ∧ Below w.heap.size w w' := by
  have hlen : xs.length ≤ 9223372036854775807 := hl
  have H := hid h
  clear h hl
  go_enter Tryz.func123, Tryz.ntmps123
  go_wp2_with fail
  go_loopw [3] (fun i wr => ∃ k : Nat, k ≤ xs.length ∧ i = .int .i64 (k : Int) ∧ Hid ((xs.take k).Nodup) ∧ Hid (Below w.heap.size w wr)) (fun i _ => xs.length - (intOf i).toNat)
  case atStart => exact ⟨0, Nat.zero_le _, rfl, hid (by simp), hid (Below.refl _ _)⟩
  case round =>
    obtain ⟨i, hi, rfl, HN, HB⟩ := hrel
    by_cases hlt : i < xs.length
    · obtain ⟨y, hy⟩ : ∃ y, xs[i]? = some y := ⟨xs[i], List.getElem?_eq_getElem hlt⟩
      have HY := hid hy
      clear hy
      go_wp2_with fail
      go_loopw [4] (fun j wq => ∃ k : Nat, k ≤ i ∧ j = .int .i64 (k : Int) ∧ Hid (y ∉ xs.take k) ∧ Hid (Below w.heap.size w wq)) (fun j _ => i - (intOf j).toNat)
      case atStart => exact ⟨0, Nat.zero_le _, rfl, hid (by simp), HB⟩
      case round =>
        clear HB
        obtain ⟨k, hk, rfl, HX, HB⟩ := hrel
        by_cases hlt2 : k < i
        · obtain ⟨x, hx⟩ : ∃ x, xs[k]? = some x := ⟨xs[k], List.getElem?_eq_getElem (by omega)⟩
          obtain ⟨b, o, rfl, hbl, hc⟩ := (unhid H).get (by intro e; subst e; simp at hlt)
          have c0 := ((unhid HB).cell (p := ⟨b, o + k, none⟩) hbl).trans (hc k x hx)
          have c1 := ((unhid HB).cell (p := ⟨b, o + i, none⟩) hbl).trans (hc i y (unhid HY))
          have HX2 := hid hx
          clear hc hx hbl
          have hq := txt_iff x y
          by_cases hxy : x = y
          · rw [decide_eq_true hxy] at hq
            have E := hid (twiceB_true (unhid HX2) (by rw [hxy]; exact unhid HY) hlt2)
            go_wp2_with fail
            go_region
            go_wp2_with fail
            go_ret
            exact ⟨by rw [unhid E]; rfl, (unhid HB).trans ((drew_belowS _).mono (unhid HB).size)⟩
          · rw [decide_eq_false hxy] at hq
            have HNE := hid hxy
            clear hxy
            go_wp2_with fail
            go_region
            go_wp2_with fail
            go_roundw
            case rel =>
              refine ⟨k + 1, by omega, by go_num, hid (fun hm => ?_), hid ((unhid HB).trans ((drew_belowS _).mono (unhid HB).size))⟩
              rw [List.take_add_one, unhid HX2] at hm
              rcases List.mem_append.1 hm with hm | hm
              · exact unhid HX hm
              · simp at hm; exact unhid HNE hm.symm
            case measure => simp [intOf]; omega
        · have e : k = i := by omega
          subst e
          go_wp2_with fail
          go_roundw
          case rel => exact ⟨k + 1, by omega, by go_num, hid (by rw [List.take_add_one, unhid HY]; exact nodup_snoc (unhid HN) (unhid HX)), HB⟩
          case measure => simp [intOf]; omega
    · have e : i = xs.length := by omega
      subst e
      go_wp2_with fail
      go_ret
      refine ⟨?_, unhid HB⟩
      have := unhid HN
      rw [List.take_of_length_le (Nat.le_refl _)] at this
      unfold twiceB
      rw [decide_eq_true this]; rfl
end Go.Proofs.YtoihhlkidlapmaaGreat

/- Need: what the laws' own functions of it do. (Written by mkshape.py.) -/
namespace Go.Proofs.YtoihhlkidlapmaaGreat
open Go.RowKit Go.Shelf

structure NeedD where
  name : ByteArray
  kind : Int
  version : ByteArray
def needC : CK := isoC (pairC txtC (pairC intC txtC)) NeedD (fun d => (d.name, (d.kind, d.version))) (fun p => ⟨p.1, p.2.1, p.2.2⟩)
theorem needC_at {W : World} {cs : List Value} {d : NeedD} (h : needC.at_ W cs d) : cs = [.string d.name, .int .i64 d.kind, .string d.version] := by
  obtain ⟨c0, e0, rfl, rfl, ⟨c1, e1, rfl, rfl, rfl⟩⟩ := h
  exact rfl
def needC_is (_W : World) (cs : List Value) (d : NeedD) (F : List Nat) : Prop := cs = [.string d.name, .int .i64 d.kind, .string d.version] ∧ F = []
theorem needC_own {W : World} {cs : List Value} {d : NeedD} {F : List Nat} (h : needC.own W cs d F) : needC_is W cs d F := by
  obtain ⟨c0, e0, F0, G0, rfl, rfl, ⟨rfl, rfl⟩, ⟨c1, e1, F1, G1, rfl, rfl, ⟨rfl, rfl⟩, ⟨rfl, rfl⟩, a1⟩, a0⟩ := h
  exact ⟨rfl, rfl⟩
theorem needC_mk {W : World} {cs : List Value} {d : NeedD} {F : List Nat} (h : needC_is W cs d F) : needC.own W cs d F := by
  obtain ⟨rfl, rfl⟩ := h
  exact ⟨[_], _, [], [], rfl, by simp, ⟨rfl, rfl⟩, ⟨[_], _, [], [], rfl, by simp, ⟨rfl, rfl⟩, ⟨rfl, rfl⟩, fun k hk => by cases hk⟩, fun k hk => by cases hk⟩
theorem needC_sz (d : NeedD) : needC.sz d = d.name.size + d.version.size := by
  show d.name.size + (0 + (d.version.size)) = _
  omega

set_option maxRecDepth 100000 in
set_option maxHeartbeats 4000000 in
theorem vszNeed_any (d : NeedD) (cs : List Value) (left : Int) (w : World) (hb : needC.big d) (hl : 0 ≤ left) (hl2 : left ≤ 1048576) (h : needC.at_ w cs d) :
    Calls Tryz.prog 202 #[.agg cs.toArray, .int .i64 left] w fun x w' => (∃ r : Int, x = .returned (.int .i64 r) ∧ r ≤ left ∧ (r < 0 ∨ r + needC.sz d = left)) ∧ Below w.heap.size w w' := by
  rw [needC_sz]
  obtain rfl := needC_at h
  obtain ⟨name, kind, version⟩ := d
  dsimp only at *
  obtain ⟨b0, b1, b2⟩ := hb
  have b0' : name.size ≤ 9223372036854775807 := b0
  have b2' : version.size ≤ 9223372036854775807 := b2
  clear h b0 b1 b2
  have HB := hid (show ∀ o, Below w.heap.size w (w.alloc o) from fun o => (Below.refl _ w).alloc (Nat.le_refl _) o)
  go_enter Tryz.func202, Tryz.ntmps202
  by_cases g0 : left - (name.size : Int) < 0
  · go_wp2_with fail
    go_ret
    exact ⟨⟨-1, rfl, by omega, .inl (by omega)⟩, unhid HB _⟩
  by_cases g2 : (left - (name.size : Int)) - (version.size : Int) < 0
  · go_wp2_with fail
    go_ret
    exact ⟨⟨-1, rfl, by omega, .inl (by omega)⟩, unhid HB _⟩
  go_wp2_with fail
  go_ret
  exact ⟨⟨((left - (name.size : Int)) - (version.size : Int)), rfl, by omega, .inr (by omega)⟩, unhid HB _⟩

set_option maxRecDepth 100000 in
set_option maxHeartbeats 4000000 in
theorem vszNeedS_any (ds : List needC.D) (v : Value) (left : Int) (w : World) (hb : ds.length ≤ maxLen ∧ ∀ d ∈ ds, needC.big d) (hl : 0 ≤ left) (hl2 : left ≤ 1048576) (h : rowAt needC w v ds) :
    Calls Tryz.prog 129 #[v, .int .i64 left] w fun x w' => (∃ r : Int, x = .returned (.int .i64 r) ∧ r ≤ left ∧ (r < 0 ∨ r + (ds.length + szR needC ds) = left)) ∧ Below w.heap.size w w' := by
  obtain ⟨a, cap, rfl, -, -, h⟩ := h
  obtain ⟨hlen0, hz⟩ := hb
  have hlen : ds.length ≤ 9223372036854775807 := hlen0
  clear hlen0
  have HZ := hid hz
  have H := hid h
  clear hz h
  by_cases h0 : left - (ds.length : Int) < 0
  · go_enter Tryz.func129, Tryz.ntmps129
    go_wp2_with fail
    go_ret
    exact ⟨⟨-1, rfl, by omega, .inl (by omega)⟩, Below.refl _ _⟩
  · go_enter Tryz.func129, Tryz.ntmps129
    go_wp2_with fail
    go_loopw [1, 5] (fun l i wr => ∃ (k : Nat) (q : Int), k ≤ ds.length ∧ i = .int .i64 k ∧ l = .int .i64 q ∧ 0 ≤ q ∧ Hid (q + ds.length + szR needC (ds.take k) = left) ∧ q ≤ left ∧ Hid (Below w.heap.size w wr)) (fun _ i _ => ds.length - (intOf i).toNat)
    case atStart => exact ⟨0, _, Nat.zero_le _, rfl, rfl, by omega, hid (by simp [szR]), by omega, hid (Below.refl _ _)⟩
    case round =>
      obtain ⟨k, q, hk, rfl, rfl, hq, hsum, hq2, HB⟩ := hrel
      by_cases hlt : k < ds.length
      · obtain ⟨e, he⟩ : ∃ e, ds[k]? = some e := ⟨ds[k], List.getElem?_eq_getElem hlt⟩
        obtain ⟨b, o, rfl, hbl, hc⟩ := (unhid H).resolve_left (by intro e; subst e; simp at hlt)
        obtain ⟨cs, hat, hcell⟩ := hc k e he
        have HAT := hid (needC.below hat (unhid HB))
        have hcs := needC_at hat
        have HS := hid (szR_take needC ds k e he)
        have HM := hid (List.mem_of_getElem? he)
        obtain rfl := hcs
        have c0 : wr.cell? ⟨b, o + k * 3, none⟩ = some (.string e.name) := ((unhid HB).cell (p := ⟨b, o + k * 3 + 0, none⟩) hbl).trans (hcell 0 _ rfl)
        have c1 : wr.cell? ⟨b, o + k * 3 + 1, none⟩ = some (.int .i64 e.kind) := ((unhid HB).cell (p := ⟨b, o + k * 3 + 1, none⟩) hbl).trans (hcell 1 _ rfl)
        have c2 : wr.cell? ⟨b, o + k * 3 + 2, none⟩ = some (.string e.version) := ((unhid HB).cell (p := ⟨b, o + k * 3 + 2, none⟩) hbl).trans (hcell 2 _ rfl)
        clear hc he hat hcell hbl
        go_wp2_with fail
        refine (vszNeed_any e _ q _ (unhid HZ e (unhid HM)) hq (by omega) (unhid HAT)).mono ?_
        rintro x w2 ⟨⟨r, rfl, hr1, hr2⟩, hb⟩
        have HB2 := hid ((unhid HB).trans (hb.mono (unhid HB).size))
        have HR := hid hr2
        clear hb hr2 c0 c1 c2
        by_cases hr0 : r < 0
        · go_wp2_with fail
          go_ret
          exact ⟨⟨-1, rfl, by omega, .inl (by omega)⟩, unhid HB2⟩
        · go_wp2_with fail
          go_roundw
          case rel => exact ⟨k + 1, r, by omega, by go_num, rfl, by omega, hid (by have h1 := (unhid HR).resolve_left (by omega); have h2 := unhid hsum; rw [unhid HS]; omega), by omega, HB2⟩
          case measure => simp [intOf]; omega
      · have e : k = ds.length := by omega
        subst e
        go_wp2_with fail
        go_ret
        exact ⟨⟨q, rfl, by omega, .inr (by have h2 := unhid hsum; rw [List.take_length] at h2; omega)⟩, unhid HB⟩

set_option maxRecDepth 100000 in
set_option maxHeartbeats 4000000 in
theorem vtoNeed_any (d : NeedD) (cs : List Value) (w : World) (hs : needC.sz d ≤ 1048576) (h : needC.at_ w cs d) :
    Calls Tryz.prog 204 #[.agg cs.toArray] w fun x w' => ∃ (cs' : List Value) (F : List Nat), x = .returned (.agg cs'.toArray) ∧ needC.own w' cs' d F ∧ (∀ k ∈ F, w.heap.size ≤ k ∧ k < w'.heap.size) ∧ Below w.heap.size w w' := by
  rw [needC_sz] at hs
  obtain rfl := needC_at h
  obtain ⟨name, kind, version⟩ := d
  dsimp only at *
  clear h
  go_enter Tryz.func204, Tryz.ntmps204
  go_wp2_with fail
  obtain ⟨hP, hR, hO, hS, hB⟩ := three_boxes w (.cells #[.string name, .int .i64 kind, .string version] 231) (.cells #[.string name, .int .i64 kind, .string version] 36) (.cells #[.string name, .int .i64 kind, .string version] 36)
  have c0 := cell_arrS hR 0 _ rfl
  have c1 := cell_arrS hR 1 _ rfl
  have c2 := cell_arrS hR 2 _ rfl
  refine bodyPost_ret (v := .agg #[.string name, .int .i64 kind, .string version]) (by simp [results, Tryz.results204, go_sem, c0, c1, c2]) rfl ⟨[.string name, .int .i64 kind, .string version], [], rfl, needC_mk ⟨rfl, rfl⟩, fun k hk => (by cases hk), hB⟩

theorem vinfoNeed : (Tryz.prog.info? 36).map (fun i => (i.zero, i.size, i.bytes)) = some (some (.agg #[.string ⟨#[]⟩, .int .i64 0, .string ⟨#[]⟩]), 3, 40) := by kernel_rfl
theorem vmkNeedS (W : World) (n : Nat) (hn : n ≤ 1048576) : ∃ M : Array Value, (Instr.makeSlice 31 (.int .i64 (n : Int)) (.int .i64 (n : Int))).run Tryz.prog W = .ok (.slice (some ⟨W.heap.size, 0, .none⟩) n n) (W.alloc (.cells M 36)) ∧ M.size = n * 3 := by
  obtain ⟨i, hi, hz0, hz1, hz2⟩ := info_parts vinfoNeed
  refine ⟨madeCells #[.string ⟨#[]⟩, .int .i64 0, .string ⟨#[]⟩] (n * 3), ?_, by simp [madeCells]⟩
  have := run_make (P := Tryz.prog) W 31 36 i _ Tryz.underlying31 hi hz0 .i64 .i64 n n (by omega) (Int.le_refl _) (by rw [hz2]; omega) (by omega)
  simpa [hz1, Value.cells] using this
set_option maxRecDepth 100000 in
set_option maxHeartbeats 4000000 in
theorem vtoNeedS_any (ds : List needC.D) (v : Value) (w : World) (hs : ds.length + szR needC ds ≤ 1048576) (h : rowAt needC w v ds) :
    Calls Tryz.prog 131 #[v] w fun x w' => ∃ (u : Value) (F : List Nat), x = .returned u ∧ rowOwn needC 36 w' u ds F ∧ (∀ k ∈ F, w.heap.size ≤ k ∧ k < w'.heap.size) ∧ Below w.heap.size w w' := by
  obtain ⟨a, cap, rfl, -, -, h⟩ := h
  obtain ⟨M, hmk, hM⟩ := vmkNeedS w ds.length (by omega)
  have H := hid h
  have HM := hid hM
  have HS := hid hs
  have hlen : ds.length ≤ 1048576 := by omega
  clear h hM hs
  go_enter Tryz.func131, Tryz.ntmps131
  go_wp2_with fail
  clear hmk
  have hB0 : Below w.heap.size w (w.alloc (.cells M 36)) := (Below.refl _ _).alloc (Nat.le_refl _) _
  have hN0 := World.alloc_heap_new w (.cells M 36)
  generalize w.alloc (.cells M 36) = wq at hB0 hN0 ⊢
  have HR := hid hN0
  clear hN0
  go_loopw [4] (fun i wr => ∃ k : Nat, k ≤ ds.length ∧ i = .int .i64 k ∧ Hid (∃ Fs, RowPart needC 36 wr w.heap.size ds.length k ds Fs ∧ ∀ j ∈ Fs.flatten, w.heap.size < j) ∧ Hid (Below w.heap.size w wr)) (fun i _ => ds.length - (intOf i).toNat)
  case atStart => exact ⟨0, Nat.zero_le _, rfl, hid ⟨[], ⟨⟨M, ⟨unhid HR, by simp, by simp, fun i x hi => by simp at hi⟩, unhid HM⟩, by simp⟩, fun j hj => by simp at hj⟩, hid hB0⟩
  case round =>
    clear HR hB0 HM
    obtain ⟨k, hk, rfl, HD, HB⟩ := hrel
    by_cases hlt : k < ds.length
    · obtain ⟨e, he⟩ : ∃ e, ds[k]? = some e := ⟨ds[k], List.getElem?_eq_getElem hlt⟩
      obtain ⟨b, o, rfl, hbl, hc⟩ := (unhid H).resolve_left (by intro e; subst e; simp at hlt)
      obtain ⟨cs, hat, hcell⟩ := hc k e he
      have HAT := hid (needC.below hat (unhid HB))
      have hcs := needC_at hat
      have hse : needC.sz e ≤ 1048576 := by have h1 := szR_mem (List.mem_of_getElem? he); have h2 := unhid HS; omega
      obtain rfl := hcs
      have c0 : wr.cell? ⟨b, o + k * 3, none⟩ = some (.string e.name) := ((unhid HB).cell (p := ⟨b, o + k * 3 + 0, none⟩) hbl).trans (hcell 0 _ rfl)
      have c1 : wr.cell? ⟨b, o + k * 3 + 1, none⟩ = some (.int .i64 e.kind) := ((unhid HB).cell (p := ⟨b, o + k * 3 + 1, none⟩) hbl).trans (hcell 1 _ rfl)
      have c2 : wr.cell? ⟨b, o + k * 3 + 2, none⟩ = some (.string e.version) := ((unhid HB).cell (p := ⟨b, o + k * 3 + 2, none⟩) hbl).trans (hcell 2 _ rfl)
      have HE := hid he
      have HSE := hid hse
      clear hc he hat hcell hbl hse
      go_wp2_with fail
      refine (vtoNeed_any e _ _ (unhid HSE) (unhid HAT)).mono ?_
      rintro x w2 ⟨cs', Fk, rfl, hown, hfr, hb⟩
      have HOWN := hid hown
      obtain ⟨rfl, -⟩ := needC_own hown
      obtain ⟨Fs, hp, hfl⟩ := unhid HD
      obtain ⟨⟨y0, d0⟩, f0⟩ := part_cell (n := 3) rfl hp hb hlt 0 (by omega)
      obtain ⟨⟨y1, d1⟩, f1⟩ := part_cell (n := 3) rfl hp hb hlt 1 (by omega)
      obtain ⟨⟨y2, d2⟩, f2⟩ := part_cell (n := 3) rfl hp hb hlt 2 (by omega)
      rw [Nat.add_zero] at d0 f0
      have HF := hid (copy_store rfl hp hfl (Nat.le_refl _) (unhid HE) hb (unhid HOWN) (fun j hj => (hfr j hj).1))
      have HB2 := hid ((unhid HB).trans (hb.mono (unhid HB).size))
      have HB3 := hid (setsW_below [.string e.name, .int .i64 e.kind, .string e.version] w w2 w.heap.size w.heap.size (k * 3) (unhid HB2) (Nat.le_refl _))
      clear hb hown HOWN HD HB HB2 hp hfl hfr c0 c1 c2
      go_wp2_with fail
      go_roundw
      case rel => exact ⟨k + 1, by omega, by go_num, HF, HB3⟩
      case measure => simp [intOf]; omega
    · have e : k = ds.length := by omega
      subst e
      go_wp2_with fail
      go_ret
      obtain ⟨Fs, ⟨⟨cur, hA, hsz⟩, hnd⟩, hfl⟩ := unhid HD
      rw [List.take_of_length_le (Nat.le_refl _)] at hA
      refine ⟨_, w.heap.size :: Fs.flatten, rfl, .inr ⟨w.heap.size, ds.length, cur, Fs, rfl, Nat.le_refl _, rfl, hnd, hA⟩, fun j hj => ⟨?_, hA.lt j hj⟩, unhid HB⟩
      rcases List.mem_cons.1 hj with rfl | hj
      · exact Nat.le_refl _
      · exact Nat.le_of_lt (hfl j hj)

set_option maxRecDepth 100000 in
set_option maxHeartbeats 4000000 in
theorem veqNeed_same (d : NeedD) (cs cs' : List Value) (w : World) (hb : needC.big d) (h : needC.at_ w cs d) (h' : needC.at_ w cs' d) :
    Calls Tryz.prog 206 #[.agg cs.toArray, .agg cs'.toArray] w fun r w' => r = .returned (.bool true) ∧ Below w.heap.size w w' := by
  obtain rfl := needC_at h
  obtain rfl := needC_at h'
  obtain ⟨name, kind, version⟩ := d
  dsimp only at *
  clear h h' hb
  have HW := hid (alloc2_below w)
  have s0 := txt_selfS name
  have s1 := int_selfS kind
  have s2 := txt_selfS version
  go_enter Tryz.func206, Tryz.ntmps206
  go_wp2_with fail
  go_ret
  exact ⟨rfl, unhid HW _ _⟩

set_option maxRecDepth 100000 in
set_option maxHeartbeats 4000000 in
theorem veqNeedS_same (ds : List needC.D) (v v' : Value) (w : World) (hb : ds.length ≤ maxLen ∧ ∀ d ∈ ds, needC.big d) (h : rowAt needC w v ds) (h2 : rowAt needC w v' ds) :
    Calls Tryz.prog 133 #[v, v'] w fun r w' => r = .returned (.bool true) ∧ Below w.heap.size w w' := by
  obtain ⟨a, cap, rfl, -, -, h⟩ := h
  obtain ⟨a2, cap2, rfl, -, -, h2⟩ := h2
  obtain ⟨hlen0, hz⟩ := hb
  have hlen : ds.length ≤ 9223372036854775807 := hlen0
  have hl' : ((ds.length : Int) != (ds.length : Int)) = false := by simp
  have HZ := hid hz
  have H := hid h
  have G := hid h2
  clear hz h h2 hlen0
  go_enter Tryz.func133, Tryz.ntmps133
  go_wp2_with fail
  go_loopw [5] (fun i wr => ∃ k : Nat, k ≤ ds.length ∧ i = .int .i64 k ∧ Hid (Below w.heap.size w wr)) (fun i _ => ds.length - (intOf i).toNat)
  case atStart => exact ⟨0, Nat.zero_le _, rfl, hid (Below.refl _ _)⟩
  case round =>
    obtain ⟨k, hk, rfl, HB⟩ := hrel
    by_cases hlt : k < ds.length
    · obtain ⟨e, he⟩ : ∃ e, ds[k]? = some e := ⟨ds[k], List.getElem?_eq_getElem hlt⟩
      obtain ⟨b, o, rfl, hbl, hc⟩ := (unhid H).resolve_left (by intro e; subst e; simp at hlt)
      obtain ⟨b2, o2, rfl, hbl2, hc2⟩ := (unhid G).resolve_left (by intro e; subst e; simp at hlt)
      obtain ⟨cs, hat, hcell⟩ := hc k e he
      obtain ⟨cs2, hat2, hcell2⟩ := hc2 k e he
      have HAT := hid (needC.below hat (unhid HB))
      have HAT2 := hid (needC.below hat2 (unhid HB))
      have hcs := needC_at hat
      have hcs2 := needC_at hat2
      obtain rfl := hcs
      obtain rfl := hcs2
      have c0 : wr.cell? ⟨b, o + k * 3, none⟩ = some (.string e.name) := ((unhid HB).cell (p := ⟨b, o + k * 3 + 0, none⟩) hbl).trans (hcell 0 _ rfl)
      have g0 : wr.cell? ⟨b2, o2 + k * 3, none⟩ = some (.string e.name) := ((unhid HB).cell (p := ⟨b2, o2 + k * 3 + 0, none⟩) hbl2).trans (hcell2 0 _ rfl)
      have c1 : wr.cell? ⟨b, o + k * 3 + 1, none⟩ = some (.int .i64 e.kind) := ((unhid HB).cell (p := ⟨b, o + k * 3 + 1, none⟩) hbl).trans (hcell 1 _ rfl)
      have g1 : wr.cell? ⟨b2, o2 + k * 3 + 1, none⟩ = some (.int .i64 e.kind) := ((unhid HB).cell (p := ⟨b2, o2 + k * 3 + 1, none⟩) hbl2).trans (hcell2 1 _ rfl)
      have c2 : wr.cell? ⟨b, o + k * 3 + 2, none⟩ = some (.string e.version) := ((unhid HB).cell (p := ⟨b, o + k * 3 + 2, none⟩) hbl).trans (hcell 2 _ rfl)
      have g2 : wr.cell? ⟨b2, o2 + k * 3 + 2, none⟩ = some (.string e.version) := ((unhid HB).cell (p := ⟨b2, o2 + k * 3 + 2, none⟩) hbl2).trans (hcell2 2 _ rfl)
      have ZL := hid (unhid HZ e (List.mem_of_getElem? he))
      clear hc hc2 he hat hat2 hcell hcell2 hbl hbl2
      go_wp2_with fail
      go_region_with (go_at_call 206; refine (veqNeed_same e _ _ _ (unhid ZL) (needC.below (unhid HAT) (drew_belowS _)) (needC.below (unhid HAT2) (drew_belowS _))).mono ?_; rintro r w2 ⟨rfl, hb⟩; have HB2 := hid (((unhid HB).trans (drew_belowS _)).trans (hb.mono (unhid HB).size)); clear hb)
      all_goals
        go_wp2_with fail
        go_roundw
        case rel => exact ⟨k + 1, by omega, by go_num, HB2⟩
        case measure => simp [intOf]; omega
    · have e : k = ds.length := by omega
      subst e
      go_wp2_with fail
      go_ret
      exact ⟨rfl, unhid HB⟩
theorem cntNeed_is (d : NeedD) : needC.cnt d = 1 + (1 + (1)) := rfl
theorem cntNeed (d : NeedD) : needC.cnt d ≤ 3 + 8 * needC.sz d := by
  rw [cntNeed_is d]
  omega
theorem cntNeedS (ds : List needC.D) : cntR needC ds ≤ 8 * (ds.length + szR needC ds) := cntR_bound (by omega) cntNeed ds
theorem lenNeedS (ds : List needC.D) : ds.length ≤ cntR needC ds := len_cntR (fun d => by rw [cntNeed_is d]; omega) ds
set_option maxRecDepth 100000 in
set_option maxHeartbeats 4000000 in
theorem vmarkNeedS_own (ds : List needC.D) (v : Value) (F : List Nat) (q : Nat) (c : Int) (hcq : c = (q : Int)) (w : World) (hq : 0 < q) (hq2 : q + cntR needC ds ≤ 20000000) (h : rowOwn needC 36 w v ds F) :
    Calls Tryz.prog 75 #[v, .int .i64 c] w fun x w' => (∃ r : Int, x = .returned (.int .i64 r) ∧ r ≤ ((q + cntR needC ds : Nat) : Int) ∧ ((q + cntR needC ds : Nat) : Int) ≤ r) ∧ rowOwn needC 36 w' v (markR needC q ds) F ∧ Only F w w' := by
  subst hcq
  have hlen := lenNeedS ds
  rcases h with ⟨rfl, rfl, a, c, rfl, hnil⟩ | ⟨g, cap, cur, Fs, rfl, hcap, rfl, hnd, ha⟩
  · go_enter Tryz.func75, Tryz.ntmps75
    go_wp2_with fail
    go_loopw [1, 5] (fun c i wr => i = .int .i64 0 ∧ c = .int .i64 (q : Int) ∧ wr = w) (fun _ i _ => 0)
    case atStart => exact ⟨rfl, rfl, rfl⟩
    case round =>
      obtain ⟨rfl, rfl, rfl⟩ := hrel
      go_wp2_with fail
      go_ret
      exact ⟨⟨_, rfl, by simp [cntR], by simp [cntR]⟩, .inl ⟨rfl, rfl, a, c, rfl, hnil⟩, Only.refl _ _⟩
  · have HA := hid ha
    have HN := hid hnd
    clear ha hnd
    go_enter Tryz.func75, Tryz.ntmps75
    go_wp2_with fail
    go_loopw [1, 5] (fun c i wr => ∃ k : Nat, k ≤ ds.length ∧ i = .int .i64 (k : Int) ∧ c = .int .i64 ((q + cntR needC (ds.take k) : Nat) : Int) ∧ Hid (∃ cur2 : Array Value, RowAll needC 36 wr g (markU needC q ds k) cur2 Fs) ∧ Hid (Only (g :: Fs.flatten) w wr)) (fun _ i _ => ds.length - (intOf i).toNat)
    case atStart => exact ⟨0, Nat.zero_le _, rfl, by simp [cntR], hid ⟨cur, by simpa [markU] using unhid HA⟩, hid (Only.refl _ _)⟩
    case round =>
      obtain ⟨k, hk, rfl, rfl, HC, HO⟩ := hrel
      have hcl := cntR_le needC ds k
      by_cases hlt : k < ds.length
      · obtain ⟨e, he⟩ : ∃ e, ds[k]? = some e := ⟨ds[k], List.getElem?_eq_getElem hlt⟩
        have hct1 := cntR_take needC ds k e he
        have hcl2 := cntR_le needC ds (k + 1)
        rw [hct1, cntNeed_is e] at hcl2
        have E := hid hct1
        obtain ⟨cur2, hA⟩ := unhid HC
        obtain ⟨cs, Fk, h1, hgF, hown, hI⟩ := item_open hA (unhid HN) he
        obtain ⟨rfl, rfl⟩ := needC_own hown
        have HAA := hid hA
        have HE := hid he
        have H1 := hid h1
        generalize hct : cntR needC (ds.take k) = t at *
        have HCT := hid hct
        have hI : ItemAt wr g 36 (k * 3) cur2 [.string e.name, .int .i64 e.kind, .string e.version] := hI
        have HK := hid (Only.refl (g :: ([])) wr)
        clear hct hA he h1 hown hct1 HC
        obtain ⟨c0, f0⟩ := hI.cell 0 _ rfl
        rw [Nat.add_zero] at c0 f0
        obtain ⟨c1, f1⟩ := hI.cell 1 _ rfl
        obtain ⟨c2, f2⟩ := hI.cell 2 _ rfl
        go_wp2_with fail
        clear c0 f0 c1 f1 c2 f2
        have HI := hid hI
        clear hI
        refine (markText_at _ (q + t) wr (by omega) (by omega) (by omega)).mono ?_
        rintro x wq1 ⟨rfl, hb⟩
        have hI := (unhid HI).below hb
        have HK := hid ((unhid HK).trans (Only.ofBelow hb))
        clear hb HI
        obtain ⟨c0, f0⟩ := hI.cell 0 _ rfl
        rw [Nat.add_zero] at c0 f0
        obtain ⟨c1, f1⟩ := hI.cell 1 _ rfl
        obtain ⟨c2, f2⟩ := hI.cell 2 _ rfl
        have hI2 : ItemAt ((wq1.setCell ⟨g, k * 3, none⟩ (.string (mtext (q + t)))).setCell ⟨g, k * 3 + 1, none⟩ (.int .i64 ((q : Int) + (t : Int) + 1))) g 36 (k * 3) cur2 [.string (mtext (q + t)), .int .i64 ((q : Int) + (t : Int) + 1), .string e.version] := ((hI.set 0 (.string (mtext (q + t))) (by simp)).set 1 (.int .i64 ((q : Int) + (t : Int) + 1)) (by simp))
        have HK2 : Hid (Only (g :: ([])) wr ((wq1.setCell ⟨g, k * 3, none⟩ (.string (mtext (q + t)))).setCell ⟨g, k * 3 + 1, none⟩ (.int .i64 ((q : Int) + (t : Int) + 1)))) := hid (((unhid HK).setCell (p := ⟨g, k * 3, none⟩) (by simp) (.string (mtext (q + t)))).setCell (p := ⟨g, k * 3 + 1, none⟩) (by simp) (.int .i64 ((q : Int) + (t : Int) + 1)))
        go_wp2_with fail
        clear c0 f0 c1 f1 c2 f2
        clear hI HK
        generalize ((wq1.setCell ⟨g, k * 3, none⟩ (.string (mtext (q + t)))).setCell ⟨g, k * 3 + 1, none⟩ (.int .i64 ((q : Int) + (t : Int) + 1))) = wq2 at *
        have hI := hI2
        have HK := HK2
        clear hI2 HK2
        have HI := hid hI
        clear hI
        refine (markText_at _ (q + t + 1 + 1) wq2 (by omega) (by omega) (by omega)).mono ?_
        rintro x wq3 ⟨rfl, hb⟩
        have hI := (unhid HI).below hb
        have HK := hid ((unhid HK).trans (Only.ofBelow hb))
        clear hb HI
        obtain ⟨c0, f0⟩ := hI.cell 0 _ rfl
        rw [Nat.add_zero] at c0 f0
        obtain ⟨c1, f1⟩ := hI.cell 1 _ rfl
        obtain ⟨c2, f2⟩ := hI.cell 2 _ rfl
        have hI2 : ItemAt (wq3.setCell ⟨g, k * 3 + 2, none⟩ (.string (mtext (q + t + 1 + 1)))) g 36 (k * 3) cur2 [.string (mtext (q + t)), .int .i64 ((q : Int) + (t : Int) + 1), .string (mtext (q + t + 1 + 1))] := (hI.set 2 (.string (mtext (q + t + 1 + 1))) (by simp))
        have HK2 : Hid (Only (g :: ([])) wr (wq3.setCell ⟨g, k * 3 + 2, none⟩ (.string (mtext (q + t + 1 + 1))))) := hid ((unhid HK).setCell (p := ⟨g, k * 3 + 2, none⟩) (by simp) (.string (mtext (q + t + 1 + 1))))
        have HI := hid hI2
        have HKE := hid (unhid HK2)
        have HF := hid (show ∃ cur', RowAll needC 36 (wq3.setCell ⟨g, k * 3 + 2, none⟩ (.string (mtext (q + t + 1 + 1)))) g (markU needC q ds (k + 1)) cur' Fs by
          have hi := unhid HI
          rw [show ((q : Int) + (t : Int) + 1) = ((q + t + 1 : Nat) : Int) by omega] at hi
          refine item_close (unhid HAA) (unhid HN) (unhid HE) (unhid H1) hi ?_ (unhid HKE)
          rw [unhid HCT]
          exact needC_mk ⟨rfl, rfl⟩)
        have HO2 := hid ((unhid HO).trans ((unhid HKE).mono (fun i hi => by rcases List.mem_cons.1 hi with rfl | hi; exact List.mem_cons_self; exact List.mem_cons_of_mem _ (mem_flatS (unhid H1) hi))))
        clear HI HKE HAA HE H1 HK HO HK2 hI2 hI
        go_wp2_with fail
        go_roundw
        case rel => exact ⟨k + 1, by omega, by go_num, int_eqS (by rw [unhid E, cntNeed_is e]; omega), HF, HO2⟩
        case measure => simp [intOf]; omega
      · have e : k = ds.length := by omega
        subst e
        go_wp2_with fail
        go_ret
        refine ⟨⟨_, rfl, by rw [List.take_of_length_le (Nat.le_refl _)]; exact Int.le_refl _, by rw [List.take_of_length_le (Nat.le_refl _)]; exact Int.le_refl _⟩, ?_, unhid HO⟩
        obtain ⟨cur2, hA⟩ := unhid HC
        rw [markU_all] at hA
        exact .inr ⟨g, cap, cur2, Fs, by rw [markR_len], by rw [markR_len]; exact hcap, rfl, unhid HN, hA⟩
end Go.Proofs.YtoihhlkidlapmaaGreat

/- The names of items, in a row of their own; needs, by the model. -/
namespace Go.Proofs.YtoihhlkidlapmaaGreat
open Go.RowKit Go.Shelf

def namesN (ds : List needC.D) : List ByteArray := List.map (α := needC.D) (fun d => NeedD.name d) ds
theorem namesN_len (ds : List needC.D) : (namesN ds).length = ds.length := by simp [namesN]
theorem namesN_get {ds : List needC.D} {k : Nat} {d : needC.D} (h : ds[k]? = some d) : (namesN ds)[k]? = some (NeedD.name d) := by unfold namesN; rw [List.getElem?_map, h]; rfl
theorem take_next {α : Type} {xs : List α} {k : Nat} {x : α} (h : xs[k]? = some x) : xs.take (k + 1) = xs.take k ++ [x] := by rw [List.take_add_one, h]; rfl
theorem ownsRow_take {W : World} {N : Nat} {v : Value} {xs : List ByteArray} {k : Nat} {x : ByteArray} (hx : xs[k]? = some x) (h : W.ownsRow N 9 1 v (xs.take k ++ [x]).length ((xs.take k ++ [x]).map Value.string)) : W.ownsRow N 9 1 v (xs.take (k + 1)).length ((xs.take (k + 1)).map Value.string) := by
  rw [take_next hx]; exact h
/-- What changes in a row of the call's own, or above it, leaves what lay below. -/
theorem grown_belowN {w W W' : World} {row : Option Nat} (hb : Below w.heap.size w W) (h : W.grownBy W' row) (hr : ∀ j, row = some j → w.heap.size ≤ j) : Below w.heap.size w W' :=
  ⟨h.os.trans hb.os, h.tape.trans hb.tape, h.output.trans hb.output, Nat.le_trans hb.size h.size, fun k hk => (h.block k (Nat.lt_of_lt_of_le hk hb.size) (fun e => by have := hr k e.symm; omega)).trans (hb.block k hk)⟩
theorem cell_newN (w : World) (x : Value) (t : Nat) : (w.alloc (.cells #[x] t)).cell? ⟨w.heap.size, 0, none⟩ = some x := cell_arrS (World.alloc_heap_new w _) 0 x rfl

set_option maxRecDepth 100000 in
set_option maxHeartbeats 1000000 in
theorem packName1_any (e : NeedD) (w : World) :
    Calls Tryz.prog 113 #[.agg #[.string e.name, .int .i64 e.kind, .string e.version]] w fun x w' => x = .returned (.string e.name) ∧ w' = w.alloc (.cells #[.string e.name, .int .i64 e.kind, .string e.version] 36) := by
  go_enter Tryz.func113, Tryz.ntmps113
  go_wp2_with fail
  go_ret
  exact ⟨rfl, rfl⟩

set_option maxRecDepth 100000 in
set_option maxHeartbeats 4000000 in
theorem namesOfNeed_any (ds : List needC.D) (v : Value) (w : World) (hl : ds.length ≤ 1048576) (h : rowAt needC w v ds) :
    Calls Tryz.prog 112 #[v, .func (.func 113) #[] #[]] w fun x w' => ∃ u, x = .returned u ∧ w'.ownsRow w.heap.size 9 1 u (namesN ds).length ((namesN ds).map Value.string) ∧ Below w.heap.size w w' := by
  obtain ⟨a, cap, rfl, -, -, h⟩ := h
  have H := hid h
  clear h
  go_enter Tryz.func112, Tryz.ntmps112
  go_wp2_with fail
  go_loopw [5, 10] (fun s i wr => ∃ (k : Nat) (oa : Option Addr) (oc : Nat), k ≤ ds.length ∧ i = .int .i64 (k : Int) ∧ s = .slice oa k oc ∧ Hid (wr.ownsRow w.heap.size 9 1 (.slice oa k oc) ((namesN ds).take k).length (((namesN ds).take k).map Value.string)) ∧ Hid (Below w.heap.size w wr)) (fun _ i _ => ds.length - (intOf i).toNat)
  case atStart => exact ⟨0, _, _, Nat.zero_le _, rfl, rfl, hid (ownsRow_none _ _), hid (Below.refl _ _)⟩
  case round =>
    obtain ⟨k, oa, oc, hk, rfl, rfl, HO, HB⟩ := hrel
    by_cases hlt : k < ds.length
    · obtain ⟨e, he⟩ : ∃ e, ds[k]? = some e := ⟨ds[k], List.getElem?_eq_getElem hlt⟩
      obtain ⟨b, o, rfl, hbl, hc⟩ := (unhid H).resolve_left (by intro e; subst e; simp at hlt)
      obtain ⟨cs, hat, hcell⟩ := hc k e he
      have hcs := needC_at hat
      obtain rfl := hcs
      have c0 : wr.cell? ⟨b, o + k * 3, none⟩ = some (.string e.name) := ((unhid HB).cell (p := ⟨b, o + k * 3 + 0, none⟩) hbl).trans (hcell 0 _ rfl)
      have c1 : wr.cell? ⟨b, o + k * 3 + 1, none⟩ = some (.int .i64 e.kind) := ((unhid HB).cell (p := ⟨b, o + k * 3 + 1, none⟩) hbl).trans (hcell 1 _ rfl)
      have c2 : wr.cell? ⟨b, o + k * 3 + 2, none⟩ = some (.string e.version) := ((unhid HB).cell (p := ⟨b, o + k * 3 + 2, none⟩) hbl).trans (hcell 2 _ rfl)
      have HX := hid (namesN_get he)
      clear hc hat hcell he
      go_wp2_with fail
      refine (packName1_any e _).mono ?_
      rintro x w2 ⟨rfl, hw2⟩
      have hb2 : Below wr.heap.size wr w2 := by rw [hw2]; exact ((Below.refl _ wr).alloc (Nat.le_refl _) _).alloc (by simp) _
      have ho2 : w2.ownsRow w.heap.size 9 1 (.slice oa k oc) ((namesN ds).take k).length (((namesN ds).take k).map Value.string) := by rw [hw2]; exact ((unhid HO).alloc _).alloc _
      have HO2 := hid (ho2.alloc (.cells #[.string e.name] 9))
      have HB2 := hid (((unhid HB).trans (hb2.mono (unhid HB).size)).alloc ((unhid HB).trans (hb2.mono (unhid HB).size)).size (.cells #[.string e.name] 9))
      have HC2 := hid (cell_newN w2 (.string e.name) 9)
      have hlo := hid (show ∀ j, (Value.slice oa k oc).ownBlock = some j → w.heap.size ≤ j from fun j ej => (ho2.lt j ej).1)
      have hkl : ((namesN ds).take k).length ≤ 1048576 := by rw [List.length_take]; omega
      have HKL := hid hkl
      have HSZ := hid (unhid HB2).size
      clear hw2 hb2 ho2 HO HB c0 c1 c2 hkl
      go_wp2_with (at_builtin; refine wp_name rfl _ _ rfl w.heap.size (.slice oa k oc) ((namesN ds).take k) e.name w2.heap.size rfl rfl (unhid HO2) (unhid HC2) (by have := unhid HKL; omega) (unhid HSZ) ?_)
      intro v' w4 hown hg
      have ho3 := ownsRow_take (unhid HX) (W := w4) (N := w.heap.size) (v := v') (by simpa using hown)
      have HB3 := hid (grown_belowN (unhid HB2) hg (unhid hlo))
      obtain ⟨oa2, oc2, hv, -⟩ := ownsRow_txts ho3
      have hk1 : ((namesN ds).take (k + 1)).length = k + 1 := by rw [List.length_take, namesN_len]; omega
      rw [hk1] at hv
      subst hv
      have HO3 := hid ho3
      clear hown hg hlo HC2 HB2 HO2 HSZ HKL ho3 hk1
      go_wp2_with fail
      go_roundw
      case rel => exact ⟨k + 1, oa2, oc2, by omega, by go_num, rfl, HO3, HB3⟩
      case measure => simp [intOf]; omega
    · have e : k = ds.length := by omega
      subst e
      go_wp2_with fail
      go_ret
      refine ⟨_, rfl, ?_, unhid HB⟩
      have := unhid HO
      rwa [List.take_of_length_le (by rw [namesN_len]; exact Nat.le_refl _)] at this
end Go.Proofs.YtoihhlkidlapmaaGreat

/- Contracts of the library that are laid at the program. -/
namespace Go.Proofs.YtoihhlkidlapmaaGreat
open Go.Shelf Go.RowKit Go.Sort
def sh_lays190_ren : Go.Shelf.Ren := ⟨fun | 190 => 68 | 125 => 128 | 258 => 127 | 128 => 200 | 129 => 201 | 302 => 191 | 303 => 192 | 304 => 193 | 305 => 194 | 306 => 195 | 307 => 196 | 308 => 197 | 309 => 198 | 310 => 199 | 333 => 252 | 329 => 253 | 330 => 254 | 334 => 255 | 335 => 256 | 336 => 257 | 344 => 278 | n => n, fun | 31 => 24 | 9 => 9 | 3 => 3 | 46 => 166 | 0 => 0 | 51 => 227 | 53 => 229 | 4 => 4 | 183 => 221 | 182 => 220 | 131 => 111 | 5 => 5 | 218 => 261 | 222 => 265 | 228 => 280 | 229 => 281 | n => n, fun | n => n⟩
theorem sh_lays190 : Go.Proofs.Lays.n190 Tryz.prog sh_lays190_ren := {
  mixed := by kernel_rfl
  f125 := Tryz.func128.trans (congrArg some (by kernel_rfl))
  f128 := Tryz.func200.trans (congrArg some (by kernel_rfl))
  f129 := Tryz.func201.trans (congrArg some (by kernel_rfl))
  f190 := Tryz.func68.trans (congrArg some (by kernel_rfl))
  f258 := Tryz.func127.trans (congrArg some (by kernel_rfl))
  f302 := Tryz.func191.trans (congrArg some (by kernel_rfl))
  f303 := Tryz.func192.trans (congrArg some (by kernel_rfl))
  f304 := Tryz.func193.trans (congrArg some (by kernel_rfl))
  f305 := Tryz.func194.trans (congrArg some (by kernel_rfl))
  f306 := Tryz.func195.trans (congrArg some (by kernel_rfl))
  f307 := Tryz.func196.trans (congrArg some (by kernel_rfl))
  f308 := Tryz.func197.trans (congrArg some (by kernel_rfl))
  f309 := Tryz.func198.trans (congrArg some (by kernel_rfl))
  f310 := Tryz.func199.trans (congrArg some (by kernel_rfl))
  f329 := Tryz.func253.trans (congrArg some (by kernel_rfl))
  f330 := Tryz.func254.trans (congrArg some (by kernel_rfl))
  f333 := Tryz.func252.trans (congrArg some (by kernel_rfl))
  f334 := Tryz.func255.trans (congrArg some (by kernel_rfl))
  f335 := Tryz.func256.trans (congrArg some (by kernel_rfl))
  f336 := Tryz.func257.trans (congrArg some (by kernel_rfl))
  f344 := Tryz.func278.trans (congrArg some (by kernel_rfl))
  t0 := Tryz.underlying0
  a0 := Tryz.isAgg0
  z0 := Tryz.sizeOf0
  v0 := Tryz.zeroValue0
  t3 := Tryz.underlying3
  a3 := Tryz.isAgg3
  z3 := Tryz.sizeOf3
  v3 := Tryz.zeroValue3
  t4 := Tryz.underlying4
  a4 := Tryz.isAgg4
  z4 := Tryz.sizeOf4
  v4 := Tryz.zeroValue4
  t5 := Tryz.underlying5
  a5 := Tryz.isAgg5
  z5 := Tryz.sizeOf5
  v5 := Tryz.zeroValue5
  t9 := Tryz.underlying9
  a9 := Tryz.isAgg9
  z9 := Tryz.sizeOf9
  v9 := Tryz.zeroValue9
  t31 := Tryz.underlying24
  a31 := Tryz.isAgg24
  z31 := Tryz.sizeOf24
  v31 := Tryz.zeroValue24
  t46 := Tryz.underlying166
  a46 := Tryz.isAgg166
  z46 := Tryz.sizeOf166
  v46 := Tryz.zeroValue166
  t51 := Tryz.underlying227
  a51 := Tryz.isAgg227
  z51 := Tryz.sizeOf227
  v51 := Tryz.zeroValue227
  t53 := Tryz.underlying229
  a53 := Tryz.isAgg229
  z53 := Tryz.sizeOf229
  v53 := Tryz.zeroValue229
  t131 := Tryz.underlying111
  a131 := Tryz.isAgg111
  z131 := Tryz.sizeOf111
  v131 := Tryz.zeroValue111
  t182 := Tryz.underlying220
  a182 := Tryz.isAgg220
  z182 := Tryz.sizeOf220
  v182 := Tryz.zeroValue220
  t183 := Tryz.underlying221
  a183 := Tryz.isAgg221
  z183 := Tryz.sizeOf221
  v183 := Tryz.zeroValue221
  t218 := Tryz.underlying261
  a218 := Tryz.isAgg261
  z218 := Tryz.sizeOf261
  v218 := Tryz.zeroValue261
  t222 := Tryz.underlying265
  a222 := Tryz.isAgg265
  z222 := Tryz.sizeOf265
  v222 := Tryz.zeroValue265
  t228 := Tryz.underlying280
  a228 := Tryz.isAgg280
  z228 := Tryz.sizeOf280
  v228 := Tryz.zeroValue280
  t229 := Tryz.underlying281
  a229 := Tryz.isAgg281
  z229 := Tryz.sizeOf281
  v229 := Tryz.zeroValue281 }
theorem sh_slices_Sort_string (blk off cap : Nat) (ss : List (List UInt8)) (w : World) (hH : Holds encStr w blk off ss.toArray) (hblk : blk < w.heap.size) (hsz : ss.length < 4611686018427387904) :
    Calls Tryz.prog 68 #[.slice (some ⟨blk, off, none⟩) ss.length cap] w fun e w' =>
      e = .returned (.tuple #[]) ∧ ∃ n os, w' = grow (putRow encStr (Sort.ahead w n) blk off (ss.mergeSort fun x y => decide (x ≤ y)).toArray) os := Any.slices_Sort_string sh_lays190 blk off cap ss w hH hblk hsz
theorem sh_slices_Sort_string_none (p : Option Addr) (cap : Nat) (w : World) :
    Calls Tryz.prog 68 #[.slice p 0 cap] w fun e w' => e = .returned (.tuple #[]) ∧ w' = w := Any.slices_Sort_string_none sh_lays190 p cap w
end Go.Proofs.YtoihhlkidlapmaaGreat

/- Whether a name comes twice, by the program: it sorts them. -/
namespace Go.Proofs.YtoihhlkidlapmaaGreat
open Go.RowKit Go.Shelf Go.Sort

theorem leB_tr (a b c : List UInt8) (h1 : leB a b = true) (h2 : leB b c = true) : leB a c = true := by
  simp only [leB, decide_eq_true_eq] at *; exact List.le_trans h1 h2
theorem leB_to (a b : List UInt8) : (leB a b || leB b a) = true := by
  simp only [leB, Bool.or_eq_true, decide_eq_true_eq]; exact List.le_total a b
theorem leB_anti {a b : List UInt8} (h1 : leB a b = true) (h2 : leB b a = true) : a = b := by
  simp only [leB, decide_eq_true_eq] at h1 h2
  exact List.le_antisymm h1 h2
/-- The texts sorted. -/
def sortT (xs : List ByteArray) : List ByteArray := ((xs.map fun x => x.data.toList).mergeSort leB).map fun l => ⟨l.toArray⟩
theorem back_txts (xs : List ByteArray) : ((xs.map fun x => x.data.toList).map fun l => (⟨l.toArray⟩ : ByteArray)) = xs := by
  rw [List.map_map]
  conv => rhs; rw [← List.map_id xs]
  exact List.map_congr_left fun x _ => by simp
theorem sortT_perm (xs : List ByteArray) : (sortT xs).Perm xs := by
  have := (List.mergeSort_perm (xs.map fun x => x.data.toList) leB).map (fun l => (⟨l.toArray⟩ : ByteArray))
  rw [back_txts] at this
  exact this
theorem sortT_len (xs : List ByteArray) : (sortT xs).length = xs.length := (sortT_perm xs).length_eq
theorem sortT_sorted (xs : List ByteArray) : (sortT xs).Pairwise fun a b => leB a.data.toList b.data.toList = true := by
  unfold sortT
  rw [List.pairwise_map]
  exact (List.pairwise_mergeSort leB_tr leB_to _).imp fun h => by simpa using h
theorem nodup_sorted {ys : List ByteArray} (hp : ys.Pairwise fun a b => leB a.data.toList b.data.toList = true) (ha : ∀ (j : Nat) x y, ys[j]? = some x → ys[j + 1]? = some y → x ≠ y) : ys.Nodup := by
  unfold List.Nodup
  rw [List.pairwise_iff_getElem] at hp ⊢
  intro i j hi hj hij e
  have h1 : i + 1 < ys.length := by omega
  have h2 := hp i (i + 1) hi h1 (by omega)
  have h3 : leB (ys[i + 1]).data.toList (ys[i]).data.toList = true := by
    rw [e]
    rcases Nat.lt_or_ge (i + 1) j with h | h
    · exact hp (i + 1) j h1 hj h
    · have : i + 1 = j := by omega
      subst this
      have := leB_to (ys[i + 1]).data.toList (ys[i + 1]).data.toList
      rwa [Bool.or_self] at this
  have h4 := leB_anti h2 h3
  exact ha i _ _ (List.getElem?_eq_getElem hi) (List.getElem?_eq_getElem h1) (ByteArray.ext (Array.ext' h4))
theorem twice_sort (xs : List ByteArray) : twiceB (sortT xs) = twiceB xs := by
  unfold twiceB
  rw [show decide (sortT xs).Nodup = decide xs.Nodup from decide_eq_decide.2 (sortT_perm xs).nodup_iff]
theorem encStr_map (xs : List ByteArray) : xs.map Value.string = (xs.map fun x => x.data.toList).map encStr := by
  rw [List.map_map]
  exact List.map_congr_left fun x _ => by simp [encStr]
theorem map_encStr (ls : List (List UInt8)) : ls.map encStr = (ls.map fun l => (⟨l.toArray⟩ : ByteArray)).map Value.string := by
  rw [List.map_map]; rfl

set_option maxRecDepth 100000 in
set_option maxHeartbeats 1000000 in
/-- The library's sort of texts that are owned. -/
theorem sort_own (xs : List ByteArray) (v : Value) (N : Nat) (w : World) (hn : xs.length ≤ 4294967296) (h : w.ownsRow N 9 1 v xs.length (xs.map Value.string)) :
    Calls Tryz.prog 68 #[v] w fun x w' => x = .returned (.tuple #[]) ∧ w'.ownsRow N 9 1 v (sortT xs).length ((sortT xs).map Value.string) ∧ w.grownBy w' v.ownBlock := by
  rcases h.2 with ⟨rfl, h0⟩ | ⟨g, cap, cur, rfl, hg, hh, hc, hm, hsz, hcur⟩
  · have hx : xs = [] := List.length_eq_zero_iff.1 h0
    subst hx
    exact (sh_slices_Sort_string_none none 0 w).mono fun x w' ⟨h1, h2⟩ => ⟨h1, by rw [h2, show sortT [] = [] by simp [sortT]]; exact h, by rw [h2]; exact ⟨rfl, rfl, rfl, Nat.le_refl _, fun _ _ _ => rfl⟩⟩
  · have hl : (xs.map fun x => x.data.toList).length = xs.length := List.length_map _
    have hcur2 : cur.toList.take (xs.map fun x => x.data.toList).length = (xs.map fun x => x.data.toList).map encStr := by
      rw [hl, ← encStr_map, ← hcur, Nat.mul_one]
    have hH : Holds encStr w g 0 (xs.map fun x => x.data.toList).toArray := holds_of_block hh hcur2
    have := sh_slices_Sort_string g 0 cap (xs.map fun x => x.data.toList) w hH (Array.getElem?_eq_some_iff.1 hh).1 (by rw [hl]; omega)
    rw [hl] at this
    refine this.mono fun x w' ⟨h1, n, os, h2⟩ => ⟨h1, ?_, ?_⟩
    · rw [h2]
      have := ownsRow_sorted (n := n) (os := os) (ts := (xs.map fun x => x.data.toList).mergeSort leB) (List.length_mergeSort _) hg hh (by rw [hl]; exact hc) hm hsz
      rw [hl, map_encStr] at this
      rw [sortT_len]
      exact this
    · rw [h2]; exact grownBy_sorted _

theorem grown_drewS {w w' : World} {row : Option Nat} (h : w.grownBy w' row) : w.grownBy w'.drew row := ⟨h.os, h.tape, h.output, h.size, h.block⟩

set_option maxRecDepth 100000 in
set_option maxHeartbeats 4000000 in
theorem anyTwice_any (xs : List ByteArray) (v : Value) (N : Nat) (w : World) (hn : xs.length ≤ 4294967296) (h : w.ownsRow N 9 1 v xs.length (xs.map Value.string)) :
    Calls Tryz.prog 61 #[v] w fun x w' => x = .returned (.bool (twiceB xs)) ∧ w.grownBy w' v.ownBlock := by
  have H := hid h
  obtain ⟨a, cap, rfl, -, -, hblk⟩ := ownsRow_txts h
  clear h
  have HSL := hid (sortT_len xs)
  have HTW := hid (twice_sort xs)
  have HSO := hid (sortT_sorted xs)
  go_enter Tryz.func61, Tryz.ntmps61
  go_wp2_with fail
  refine (sort_own xs _ N w hn (unhid H)).mono ?_
  rintro x w1 ⟨rfl, ho, hg⟩
  obtain ⟨a1, c1, e1, hat, -, -⟩ := ownsRow_txts ho
  have e2 : a1 = a := by injection e1 with e1; exact e1.symm
  subst e2
  generalize hys : sortT xs = ys at *
  have HAT := hid hat
  have HG := hid hg
  have hyl : ys.length = xs.length := unhid HSL
  have HYL := hid hyl
  clear ho hat hg e1 hys hyl HSL H hblk
  go_wp2_with fail
  go_loopw [3] (fun i wr => ∃ k : Nat, k ≤ xs.length ∧ i = .int .i64 ((k : Int) + 1) ∧ Hid (∀ (j : Nat) x y, j < k → ys[j]? = some x → ys[j + 1]? = some y → x ≠ y) ∧ Hid (w.grownBy wr (Value.slice a1 xs.length cap).ownBlock) ∧ Hid (TxtsAt wr a1 ys)) (fun i _ => xs.length + 1 - (intOf i).toNat)
  case atStart => exact ⟨0, Nat.zero_le _, rfl, hid (fun j x y hj => absurd hj (Nat.not_lt_zero _)), HG, HAT⟩
  case round =>
    clear HAT HG
    obtain ⟨k, hk, rfl, HX, HG, HAT⟩ := hrel
    by_cases hlt : k + 1 < xs.length
    · have hl1 : k < ys.length := by have := unhid HYL; omega
      have hl2 : k + 1 < ys.length := by have := unhid HYL; omega
      obtain ⟨x, hx⟩ : ∃ x, ys[k]? = some x := ⟨ys[k], List.getElem?_eq_getElem hl1⟩
      obtain ⟨y, hy⟩ : ∃ y, ys[k + 1]? = some y := ⟨ys[k + 1], List.getElem?_eq_getElem hl2⟩
      obtain ⟨b, o, rfl, hbl, hc⟩ := (unhid HAT).get (by intro e; subst e; simp at hl1)
      have c0 := hc k x hx
      have c1 : wr.cell? ⟨b, o + (k + 1), none⟩ = some (.string y) := hc (k + 1) y hy
      have c2 : wr.cell? ⟨b, o + k + 1, none⟩ = some (.string y) := hc (k + 1) y hy
      have q0 : ((k : Int) + 1 - 1).toNat = k := by omega
      have HXY := hid (And.intro hx hy)
      have hq := txt_iff y x
      clear hc hx hy hbl hl1 hl2
      by_cases hxy : y = x
      · rw [decide_eq_true hxy] at hq
        have E := hid (twiceB_true (unhid HXY).1 (by rw [← hxy]; exact (unhid HXY).2) (Nat.lt_succ_self k))
        go_wp2_with fail
        go_region
        go_wp2_with fail
        go_ret
        exact ⟨by rw [← unhid HTW, unhid E]; rfl, grown_drewS (unhid HG)⟩
      · rw [decide_eq_false hxy] at hq
        have HNE := hid hxy
        clear hxy
        go_wp2_with fail
        go_region
        go_wp2_with fail
        go_roundw
        case rel =>
          refine ⟨k + 1, by omega, by go_num, hid (fun j x' y' hj hx' hy' => ?_), hid (grown_drewS (unhid HG)), hid ((unhid HAT).below (drew_belowS _))⟩
          by_cases ej : j = k
          · subst ej
            rw [(unhid HXY).1] at hx'
            rw [(unhid HXY).2] at hy'
            cases hx'
            cases hy'
            exact fun e => unhid HNE e.symm
          · exact unhid HX j x' y' (by omega) hx' hy'
        case measure => simp [intOf]; omega
    · go_wp2_with fail
      go_ret
      refine ⟨?_, unhid HG⟩
      have : ys.Nodup := nodup_sorted (unhid HSO) (fun j x y hx hy => unhid HX j x y (by have := (List.getElem?_eq_some_iff.1 hy).1; have := unhid HYL; omega) hx hy)
      have h2 : twiceB ys = false := by unfold twiceB; rw [decide_eq_true this]; rfl
      rw [← unhid HTW, h2]; rfl
end Go.Proofs.YtoihhlkidlapmaaGreat

/- What the program's iterator over the parts of a text tells: what stands between marks. -/
namespace Go.Proofs.YtoihhlkidlapmaaGreat
open Go.RowKit Go.Shelf

attribute [local go_sem] Oper.semAt_some

/-- What stands between marks, one part more than marks. -/
def cutB (b : UInt8) : List UInt8 → List (List UInt8)
  | [] => [[]]
  | c :: l => if c == b then [] :: cutB b l else match cutB b l with
    | [] => [[c]]
    | h :: t => (c :: h) :: t

theorem cutB_ne (b : UInt8) (l : List UInt8) : cutB b l ≠ [] := by
  cases l with
  | nil => simp [cutB]
  | cons c l => unfold cutB; split <;> (try split) <;> simp

theorem cutB_none (b : UInt8) (l : List UInt8) (h : Lib.indexByte l b < 0) : cutB b l = [l] := by
  induction l with
  | nil => rfl
  | cons c l ih =>
    unfold Lib.indexByte at h
    have hg := Lib.indexByte_ge l b
    by_cases hc : (c == b) = true
    · simp [hc] at h
    · simp [hc] at h
      have : Lib.indexByte l b < 0 := by split at h <;> omega
      simp [cutB, hc, ih this]

theorem cutB_some (b : UInt8) (l : List UInt8) (i : Nat) (h : Lib.indexByte l b = i) : i < l.length ∧ cutB b l = l.take i :: cutB b (l.drop (i + 1)) := by
  induction l generalizing i with
  | nil => simp [Lib.indexByte] at h
  | cons c l ih =>
    unfold Lib.indexByte at h
    have hg := Lib.indexByte_ge l b
    by_cases hc : (c == b) = true
    · simp [hc] at h
      obtain rfl : i = 0 := by omega
      simp [cutB, hc]
    · simp [hc] at h
      split at h
      · omega
      · obtain ⟨j, rfl⟩ : ∃ j, i = j + 1 := ⟨i - 1, by omega⟩
        obtain ⟨h1, h2⟩ := ih j (by omega)
        refine ⟨by simp; omega, ?_⟩
        simp [cutB, hc, h2]

set_option maxHeartbeats 1000000 in
set_option maxRecDepth 100000 in
theorem slIndexByte_any (s : ByteArray) (c : Int) (w : World) :
    Calls Tryz.prog 232 #[.string s, .int .u8 c] w fun e w' => e = .returned (.int .i64 (Lib.indexByte s.data.toList c.toNat.toUInt8)) ∧ w' = w := by
  go_enter Tryz.func232, Tryz.ntmps232
  go_wp2
  rw [run_callFunc_extern Tryz.func266 (by kernel_rfl) (by kernel_rfl) (by kernel_rfl) (e := Extern.BytealgIndexByte.indexByte) (by kernel_rfl), Lib.run_indexByteString]
  simp only [Result.andThen]
  rw [Oper.upon_value]
  go_wp2
  go_ret
  exact ⟨rfl, rfl⟩

set_option maxHeartbeats 1000000 in
theorem IndexByte_any (s : ByteArray) (c : Int) (w : World) :
    Calls Tryz.prog 170 #[.string s, .int .u8 c] w fun e w' => e = .returned (.int .i64 (Lib.indexByte s.data.toList c.toNat.toUInt8)) ∧ w' = w := by
  go_enter Tryz.func170, Tryz.ntmps170
  go_wp2_with (go_at_call 232; refine (slIndexByte_any _ _ _).mono ?_; rintro e w' ⟨rfl, rfl⟩)
  go_ret
  exact ⟨rfl, rfl⟩

theorem IndexByteU_any (s : ByteArray) (c : UInt8) (w : World) :
    Calls Tryz.prog 170 #[.string s, .int .u8 c.toNat] w fun e w' => e = .returned (.int .i64 (Lib.indexByte s.data.toList c)) ∧ w' = w := by
  have h := IndexByte_any s c.toNat w
  have e : ((c.toNat : Nat) : Int).toNat.toUInt8 = c := by simp
  rwa [e] at h

/-- A text that a string may hold. -/
abbrev Str := { x : ByteArray // x.size ≤ maxLen }
abbrev vals (xs : List Str) : List (List UInt8) := xs.map fun x => x.1.data.toList
theorem vals_snoc (pre : List Str) (x : Str) : vals (pre ++ [x]) = vals pre ++ [x.1.data.toList] := by simp [vals]
def strSize : Value → Nat
  | .string x => x.size
  | _ => 0

set_option maxRecDepth 100000 in
set_option maxHeartbeats 1000000 in
theorem parts1_in (F : Fence) (n : Nat) (hf : F.fn 169) (hf2 : F.fn 170) (hro : F.round = none) (hn : 1 ≤ n) (hw : ∀ (s : ByteArray) (c : UInt8) (w : World), CallsIn F (n - 1) Tryz.prog 170 #[.string s, .int .u8 c.toNat] w fun e w' => e = .returned (.int .i64 (Lib.indexByte s.data.toList c)) ∧ w' = w)
    (l Bs Bm : Nat) (s : ByteArray) (m : UInt8) (hs : s.size ≤ maxLen) (J Jx : List Str → World → Prop)
    (hY : ∀ pre (x : Str) W, J pre W → pre.length < (cutB m s.data.toList).length → YieldAt F (n - 1) Tryz.prog l #[.string x.1] W fun e W' =>
      (e = .returned (.bool true) ∧ J (pre ++ [x]) W' ∧ Keeps [Bs, Bm] W W') ∨ (e = .returned (.bool false) ∧ Jx (pre ++ [x]) W'))
    (W : World) (hc : W.cell? ⟨Bs, 0, none⟩ = some (.string s)) (hm : W.cell? ⟨Bm, 0, none⟩ = some (.int .u8 m.toNat)) (h0 : J [] W) :
    CallsIn F n Tryz.prog 169 #[.func (.yield l) #[] #[], .pointer (some ⟨Bs, 0, none⟩), .pointer (some ⟨Bm, 0, none⟩)] W fun e W' => (∃ v, e = .returned v) ∧
      ((∃ ys, vals ys = cutB m s.data.toList ∧ J ys W') ∨ (∃ pre, vals pre <+: cutB m s.data.toList ∧ Jx pre W')) := by
  unfold maxLen at hs
  refine callsIn_of_wp Tryz.func169 rfl hf ?_ hro
  simp only [Tryz.ntmps169, List.size_toArray, List.length_cons, List.length_nil, Nat.reduceAdd, Nat.reduceSub, Array.replicate_succ, Array.replicate_zero, List.push_toArray, List.append_toArray, List.nil_append, List.cons_append]
  gi_wp2
  gi_loopw [4, 5] (fun p _ wr => ∃ (pre : List Str) (rest : ByteArray), rest.size ≤ s.size ∧ p = .string rest ∧ Hid (cutB m s.data.toList = vals pre ++ cutB m rest.data.toList) ∧ J pre wr ∧ wr.cell? ⟨Bm, 0, none⟩ = some (.int .u8 m.toNat))
    (fun p _ _ => strSize p)
  case atStart =>
    exact ⟨[], s, Nat.le_refl _, rfl, hid (by simp), h0, hm⟩
  case round =>
    obtain ⟨pre, rest, hle, rfl, hcut, hJ, hmr⟩ := hrel
    have hlen : pre.length < (cutB m s.data.toList).length := by
      rw [unhid hcut]; have := List.length_pos_iff.2 (cutB_ne m rest.data.toList); simp; omega
    by_cases hlt : Lib.indexByte rest.data.toList m < 0
    · obtain ⟨fn, tmps, assign, body, hy, hR⟩ := hY _ ⟨rest, by unfold maxLen; omega⟩ wr hJ hlen
      dsimp only at hy hR
      gi_wp2_with (gi_at_call 170; refine (hw _ _ _).mono ?_; rintro e w' ⟨rfl, rfl⟩)
      refine hR.mono ?_
      rintro e W3 (⟨rfl, hJ3, hk3⟩ | ⟨rfl, hJx3⟩)
      · gi_wp2
        refine bodyPost_ret (results_none rfl _ _ _) rfl ?_
        exact ⟨⟨_, rfl⟩, .inl ⟨_, by rw [unhid hcut, cutB_none m _ hlt]; simp, hJ3⟩⟩
      · gi_wp2
        refine bodyPost_ret (results_none rfl _ _ _) rfl ?_
        exact ⟨⟨_, rfl⟩, .inr ⟨_, by rw [unhid hcut, cutB_none m _ hlt]; simp, hJx3⟩⟩
    · obtain ⟨i, hi⟩ : ∃ i : Nat, Lib.indexByte rest.data.toList m = i := ⟨(Lib.indexByte rest.data.toList m).toNat, by omega⟩
      obtain ⟨hil, hcr⟩ := cutB_some m _ i hi
      have hil' : i < rest.size := by rw [Lib.size_eq]; exact hil
      have Hcr := hid hcr
      have hx1 : (rest.extract 0 i).data.toList = rest.data.toList.take i := by rw [Lib.extract_data]; simp
      have hx2 : (rest.extract (i + 1) rest.size).data.toList = rest.data.toList.drop (i + 1) := by rw [Lib.extract_data, List.take_of_length_le (by simp)]
      have Hx1 := hid hx1
      have Hx2 := hid hx2
      clear hcr hil hx1 hx2
      have hx0 : (rest.extract 0 i).size ≤ maxLen := by unfold maxLen; simp; omega
      obtain ⟨fn, tmps, assign, body, hy, hR⟩ := hY _ ⟨rest.extract 0 i, hx0⟩ wr hJ hlen
      dsimp only at hy hR
      gi_wp2_with (gi_at_call 170; refine (hw _ _ _).mono ?_; rintro e w' ⟨rfl, rfl⟩)
      refine hR.mono ?_
      rintro e W3 (⟨rfl, hJ3, hk3⟩ | ⟨rfl, hJx3⟩)
      · have hm3 : W3.cell? ⟨Bm, 0, none⟩ = some (.int .u8 m.toNat) := hk3 Bm (by simp) _ hmr
        gi_wp2
        go_roundw
        case rel => exact ⟨_, rest.extract (i + 1) rest.size, by simp; omega, rfl, hid (by rw [unhid hcut, unhid Hcr, unhid Hx2, vals_snoc]; simp), hJ3, hm3⟩
        case measure => simp [strSize]; omega
      · gi_wp2
        refine bodyPost_ret (results_none rfl _ _ _) rfl ?_
        exact ⟨⟨_, rfl⟩, .inr ⟨_, by rw [unhid hcut, unhid Hcr, vals_snoc]; simp, hJx3⟩⟩

set_option maxHeartbeats 1000000 in
theorem partsOf_in (F : Fence) (n : Nat) (hf : F.fn 102) (hro : F.round = none) (s : ByteArray) (m : Int) (w : World) :
    CallsIn F n Tryz.prog 102 #[.string s, .int .u8 m] w fun e w' => e = .returned (.func (.func 169) #[] #[.pointer (some ⟨w.heap.size, 0, none⟩), .pointer (some ⟨w.heap.size + 1, 0, none⟩)]) ∧ w' = (w.alloc (.cells #[.string s] 9)).alloc (.cells #[.int .u8 m] 5) := by
  refine callsIn_of_wp Tryz.func102 rfl hf ?_ hro
  simp only [Tryz.ntmps102, List.size_toArray, List.length_cons, List.length_nil, Nat.reduceAdd, Nat.reduceSub, Array.replicate_succ, Array.replicate_zero, List.push_toArray, List.append_toArray, List.nil_append, List.cons_append]
  gi_wp2
  go_ret
  exact ⟨rfl, rfl⟩

theorem parts_stops (F : Fence) (n : Nat) (hf : F.fn 169) (hf2 : F.fn 170) (hro : F.round = none) (hn : 1 ≤ n)
    (hw : ∀ (s : ByteArray) (c : UInt8) (w : World), CallsIn F (n - 1) Tryz.prog 170 #[.string s, .int .u8 c.toNat] w fun e w' => e = .returned (.int .i64 (Lib.indexByte s.data.toList c)) ∧ w' = w)
    (Bs Bm : Nat) (s : ByteArray) (m : UInt8) (hs : s.size ≤ maxLen) (w : World) (hBs : Bs < w.heap.size) (hBm : Bm < w.heap.size)
    (hc : w.cell? ⟨Bs, 0, none⟩ = some (.string s)) (hm : w.cell? ⟨Bm, 0, none⟩ = some (.int .u8 m.toNat)) :
    SeqStopsK F n Tryz.prog 169 #[.pointer (some ⟨Bs, 0, none⟩), .pointer (some ⟨Bm, 0, none⟩)] (fun x : Str => #[Value.string x.1]) (Keeps [Bs, Bm]) (fun ys => vals ys = cutB m s.data.toList) (fun pre => vals pre <+: cutB m s.data.toList) (cutB m s.data.toList).length w := fun l J Jx W hW _ _ hY h0 =>
  parts1_in F n hf hf2 hro hn hw l Bs Bm s m hs J Jx hY W ((hW.cell (p := ⟨Bs, 0, none⟩) hBs).trans hc) ((hW.cell (p := ⟨Bm, 0, none⟩) hBm).trans hm) h0
end Go.Proofs.YtoihhlkidlapmaaGreat

/- What the model's cut of a text makes: the parts between marks, and what the model calls a name and a path. -/
namespace Go.Proofs.YtoihhlkidlapmaaGreat
open Go.RowKit Go.Shelf

theorem cutB_at (b : UInt8) : ∀ (l : List UInt8) (j : Nat), l[j]? = some b → (∀ i, i < j → l[i]? ≠ some b) → cutB b l = l.take j :: cutB b (l.drop (j + 1))
  | [], j, h, _ => by simp at h
  | c :: l, 0, h, _ => by simp at h; subst h; simp [cutB]
  | c :: l, j + 1, h, hn => by
    have hc : (c == b) = false := by have := hn 0 (by omega); simpa using this
    have ih := cutB_at b l j (by simpa using h) (fun i hi => by have := hn (i + 1) (by omega); simpa using this)
    simp [cutB, hc, ih]
theorem cutB_no (b : UInt8) : ∀ (l : List UInt8), (∀ i : Nat, l[i]? ≠ some b) → cutB b l = [l]
  | [], _ => rfl
  | c :: l, hn => by
    have hc : (c == b) = false := by have := hn 0; simpa using this
    have ih := cutB_no b l (fun i => by have := hn (i + 1); simpa using this)
    simp [cutB, hc, ih]

theorem getByte (s : ByteArray) (k : Nat) (h : k < s.size) : s.data.toList[k]? = some s[k] := by
  rw [List.getElem?_eq_getElem (by simpa using h)]; rfl
theorem cut_step (s : ByteArray) (b : UInt8) (fr k : Nat) (hfk : fr ≤ k) (hlt : k < s.size) (hb : s[k] = b) (hno : ∀ j, fr ≤ j → j < k → s.data.toList[j]? ≠ some b) :
    cutB b (s.data.toList.drop fr) = (s.extract fr k).data.toList :: cutB b (s.data.toList.drop (k + 1)) := by
  have h := cutB_at b (s.data.toList.drop fr) (k - fr) (by rw [List.getElem?_drop, Nat.add_sub_cancel' hfk, getByte s k hlt, hb])
    (fun i hi => by rw [List.getElem?_drop]; exact hno _ (by omega) (by omega))
  rw [h, List.drop_drop, Lib.extract_data, show fr + (k - fr + 1) = k + 1 from by omega]
theorem cut_last (s : ByteArray) (b : UInt8) (fr k : Nat) (hk : s.size ≤ k) (hno : ∀ j, fr ≤ j → j < k → s.data.toList[j]? ≠ some b) :
    cutB b (s.data.toList.drop fr) = [(s.extract fr s.size).data.toList] := by
  have h := cutB_no b (s.data.toList.drop fr) (fun i => by
    rw [List.getElem?_drop]
    by_cases hi : fr + i < k
    · exact hno _ (by omega) hi
    · rw [List.getElem?_eq_none (by simp; omega)]; simp)
  rw [h, Lib.extract_data, List.take_of_length_le (by simp)]

theorem cutB_le (b : UInt8) : ∀ (l : List UInt8) (p : List UInt8), p ∈ cutB b l → p.length ≤ l.length
  | [], p, h => by simp [cutB] at h; subst h; simp
  | c :: l, p, h => by
    unfold cutB at h
    split at h
    · rcases List.mem_cons.1 h with h | h
      · subst h; simp
      · have := cutB_le b l p h; simp; omega
    · have ih := cutB_le b l
      split at h
      · simp at h; subst h; simp
      · rename_i hd tl e
        rw [e] at ih
        rcases List.mem_cons.1 h with h | h
        · subst h; have := ih hd (by simp); simp; omega
        · have := ih p (by simp [h]); simp; omega
theorem cutB_length (b : UInt8) : ∀ (l : List UInt8), (cutB b l).length ≤ l.length + 1
  | [] => by simp [cutB]
  | c :: l => by
    have ih := cutB_length b l
    unfold cutB
    split
    · simp; omega
    · split
      · simp
      · rename_i hd tl e
        rw [e] at ih
        simp at ih ⊢; omega

theorem all_take_succ (s : ByteArray) (k : Nat) (h : k < s.size) (p : UInt8 → Bool) : (s.data.toList.take (k + 1)).all p = ((s.data.toList.take k).all p && p s[k]) := by
  rw [take_snoc s k h]; simp

theorem info9 : (Tryz.prog.info? 9).map (fun i => (i.zero, i.size, i.bytes)) = some (some (.string ⟨#[]⟩), 1, 16) := by kernel_rfl

abbrev datas (xs : List ByteArray) : List (List UInt8) := xs.map fun x => x.data.toList

set_option maxRecDepth 100000 in
set_option maxHeartbeats 1000000 in
theorem l1Cut_any (s : ByteArray) (b : UInt8) (most : Int) (hs : s.size ≤ 1048576) (hm : (s.size : Int) < most) (hm2 : most < 4294967296) (w : World) :
    Calls Tryz.prog 176 #[.string s, .int .u8 b.toNat, .int .i64 most] w fun e w' => ∃ v xs, e = .returned v ∧ datas xs = cutB b s.data.toList ∧ w'.ownsRow w.heap.size 9 1 v xs.length (xs.map Value.string) ∧ Below w.heap.size w w' := by
  go_enter Tryz.func176, Tryz.ntmps176
  obtain ⟨i0, hi, hz0, hz1, hz2⟩ := info_parts info9
  go_wp2_with fail
  go_loopw [7, 8, 9] (fun o f i wr => ∃ (g cap k fr : Nat) (xs : List ByteArray), o = .slice (some ⟨g, 0, none⟩) xs.length cap ∧ f = .int .i64 fr ∧ i = .int .i64 k ∧ fr ≤ k ∧ k ≤ s.size ∧ xs.length ≤ fr ∧
      Hid (cutB b s.data.toList = datas xs ++ cutB b (s.data.toList.drop fr)) ∧ Hid (∀ j, fr ≤ j → j < k → s.data.toList[j]? ≠ some b) ∧
      wr.ownsRow w.heap.size 9 1 (.slice (some ⟨g, 0, none⟩) xs.length cap) xs.length (xs.map Value.string) ∧ Below w.heap.size w wr)
    (fun _ _ i _ => s.size - (intOf i).toNat)
  case atStart => exact ⟨w.heap.size, 0, 0, 0, [], rfl, rfl, rfl, by omega, by omega, by simp, hid (by simp), hid (fun j _ h => by omega), World.ownsRow_lit w #[] 0 (Nat.le_refl _) (by omega) (by simp), (Below.refl _ _).alloc (Nat.le_refl _) _⟩
  case round =>
    obtain ⟨g, cap, k, fr, xs, rfl, rfl, rfl, hfk, hk, hx, hcut, hno, hown, hB⟩ := hrel
    by_cases hlt : k < s.size
    · by_cases hb : s[k] = b
      · have hb' : (((s[k]).toNat : Int) == (b.toNat : Int)) = true := by simp [hb]
        go_wp2_with (at_builtin; refine wpList_append_own _ rfl _ _ 24 rfl w.heap.size 9 i0 (.string ⟨#[]⟩) 1 16 Tryz.underlying24 hi hz0 hz1 hz2 rfl (by decide) _ _ _ rfl (hown.alloc _) ⟨wr.heap.size, 0, none⟩ 1 1 [.string (s.extract fr k)] rfl rfl ?c1 ?c2 ?c3 ?c4 ?c5 ?_)
        case c1 => exact cell_one_new _ _ _
        case c2 => intro u hu; simp at hu; subst hu; rfl
        case c3 => unfold maxLen; omega
        case c4 => omega
        case c5 => have := hB.size; simp; omega
        intro v' w1 hown' hgrow _
        obtain ⟨g', cap', rfl⟩ := ownsRow_succ hown'
        have hB1 : Below w.heap.size w w1 := (hB.alloc hB.size _).grown hgrow (by have := hB.size; simp; omega) (fun j e => (hown.lt j e).1)
        clear hgrow hown
        go_wp2
        go_roundw
        case rel => exact ⟨g', cap', k + 1, k + 1, xs ++ [s.extract fr k], by simp, by go_num, by go_num, by omega, by omega, by simp; omega, hid (by rw [unhid hcut, cut_step s b fr k hfk hlt hb (unhid hno)]; simp [datas]), hid (fun j h1 h2 => by omega), by simpa using hown', hB1⟩
        case measure => simp [intOf]; omega
      · have hb' : (((s[k]).toNat : Int) == (b.toNat : Int)) = false := by
          rw [beq_eq_false_iff_ne]; intro h; exact hb (UInt8.toNat_inj.1 (by omega))
        go_wp2
        go_roundw
        case rel => exact ⟨g, cap, k + 1, fr, xs, rfl, rfl, by go_num, by omega, by omega, hx, hcut, hid (fun j h1 h2 => by
          by_cases hj : j < k
          · exact unhid hno j h1 hj
          · obtain rfl : j = k := by omega
            rw [getByte s j hlt]; simpa using hb), hown, hB⟩
        case measure => simp [intOf]; omega
    · go_wp2_with (at_builtin; refine wpList_append_own _ rfl _ _ 24 rfl w.heap.size 9 i0 (.string ⟨#[]⟩) 1 16 Tryz.underlying24 hi hz0 hz1 hz2 rfl (by decide) _ _ _ rfl (hown.alloc _) ⟨wr.heap.size, 0, none⟩ 1 1 [.string (s.extract fr s.size)] rfl rfl ?c1 ?c2 ?c3 ?c4 ?c5 ?_)
      case c1 => exact cell_one_new _ _ _
      case c2 => intro u hu; simp at hu; subst hu; rfl
      case c3 => unfold maxLen; omega
      case c4 => omega
      case c5 => have := hB.size; simp; omega
      intro v' w1 hown' hgrow _
      have hB1 : Below w.heap.size w w1 := (hB.alloc hB.size _).grown hgrow (by have := hB.size; simp; omega) (fun j e => (hown.lt j e).1)
      clear hgrow hown
      go_wp2
      go_ret
      exact ⟨v', xs ++ [s.extract fr s.size], rfl, by rw [unhid hcut, cut_last s b fr k (by omega) (unhid hno)]; simp [datas], by simpa using hown', hB1⟩
end Go.Proofs.YtoihhlkidlapmaaGreat
