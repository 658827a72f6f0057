/- Whether a name comes twice, by the program: it sorts them. -/
import Derived.Test.YtlnpjiabdebmgaaTwice
import Derived.Test.YtlnpjiabdebmgaaShelfSort
import Derived.Sort.OwnSorted
import Derived.Sort.KeysCollected
namespace Go.Proofs.Ytlnpjiabdebmgaa
open Go.RowKit Go.Shelf Go.Sort

theorem leB_tr (a b c : List UInt8) (h1 : leB a b = true) (h2 : leB b c = true) : leB a c = true := by
  simp only [leB, decide_eq_true_eq] at *; exact List.le_trans h1 h2
theorem leB_to (a b : List UInt8) : (leB a b || leB b a) = true := by
  simp only [leB, Bool.or_eq_true, decide_eq_true_eq]; exact List.le_total a b
theorem leB_anti {a b : List UInt8} (h1 : leB a b = true) (h2 : leB b a = true) : a = b := by
  simp only [leB, decide_eq_true_eq] at h1 h2
  exact List.le_antisymm h1 h2
/-- The texts sorted. -/
def sortT (xs : List ByteArray) : List ByteArray := ((xs.map fun x => x.data.toList).mergeSort leB).map fun l => ⟨l.toArray⟩
theorem back_txts (xs : List ByteArray) : ((xs.map fun x => x.data.toList).map fun l => (⟨l.toArray⟩ : ByteArray)) = xs := by
  rw [List.map_map]
  conv => rhs; rw [← List.map_id xs]
  exact List.map_congr_left fun x _ => by simp
theorem sortT_perm (xs : List ByteArray) : (sortT xs).Perm xs := by
  have := (List.mergeSort_perm (xs.map fun x => x.data.toList) leB).map (fun l => (⟨l.toArray⟩ : ByteArray))
  rw [back_txts] at this
  exact this
theorem sortT_len (xs : List ByteArray) : (sortT xs).length = xs.length := (sortT_perm xs).length_eq
theorem sortT_sorted (xs : List ByteArray) : (sortT xs).Pairwise fun a b => leB a.data.toList b.data.toList = true := by
  unfold sortT
  rw [List.pairwise_map]
  exact (List.pairwise_mergeSort leB_tr leB_to _).imp fun h => by simpa using h
theorem nodup_sorted {ys : List ByteArray} (hp : ys.Pairwise fun a b => leB a.data.toList b.data.toList = true) (ha : ∀ (j : Nat) x y, ys[j]? = some x → ys[j + 1]? = some y → x ≠ y) : ys.Nodup := by
  unfold List.Nodup
  rw [List.pairwise_iff_getElem] at hp ⊢
  intro i j hi hj hij e
  have h1 : i + 1 < ys.length := by omega
  have h2 := hp i (i + 1) hi h1 (by omega)
  have h3 : leB (ys[i + 1]).data.toList (ys[i]).data.toList = true := by
    rw [e]
    rcases Nat.lt_or_ge (i + 1) j with h | h
    · exact hp (i + 1) j h1 hj h
    · have : i + 1 = j := by omega
      subst this
      have := leB_to (ys[i + 1]).data.toList (ys[i + 1]).data.toList
      rwa [Bool.or_self] at this
  have h4 := leB_anti h2 h3
  exact ha i _ _ (List.getElem?_eq_getElem hi) (List.getElem?_eq_getElem h1) (ByteArray.ext (Array.ext' h4))
theorem twice_sort (xs : List ByteArray) : twiceB (sortT xs) = twiceB xs := by
  unfold twiceB
  rw [show decide (sortT xs).Nodup = decide xs.Nodup from decide_eq_decide.2 (sortT_perm xs).nodup_iff]
theorem encStr_map (xs : List ByteArray) : xs.map Value.string = (xs.map fun x => x.data.toList).map encStr := by
  rw [List.map_map]
  exact List.map_congr_left fun x _ => by simp [encStr]
theorem map_encStr (ls : List (List UInt8)) : ls.map encStr = (ls.map fun l => (⟨l.toArray⟩ : ByteArray)).map Value.string := by
  rw [List.map_map]; rfl

set_option maxRecDepth 100000 in
set_option maxHeartbeats 1000000 in
/-- The library's sort of texts that are owned. -/
theorem sort_own (xs : List ByteArray) (v : Value) (N : Nat) (w : World) (hn : xs.length ≤ 4294967296) (h : w.ownsRow N 9 1 v xs.length (xs.map Value.string)) :
    Calls Try.prog 24 #[v] w fun x w' => x = .returned (.tuple #[]) ∧ w'.ownsRow N 9 1 v (sortT xs).length ((sortT xs).map Value.string) ∧ w.grownBy w' v.ownBlock := by
  rcases h.2 with ⟨rfl, h0⟩ | ⟨g, cap, cur, rfl, hg, hh, hc, hm, hsz, hcur⟩
  · have hx : xs = [] := List.length_eq_zero_iff.1 h0
    subst hx
    exact (sh_slices_Sort_string_none none 0 w).mono fun x w' ⟨h1, h2⟩ => ⟨h1, by rw [h2, show sortT [] = [] by simp [sortT]]; exact h, by rw [h2]; exact ⟨rfl, rfl, rfl, Nat.le_refl _, fun _ _ _ => rfl⟩⟩
  · have hl : (xs.map fun x => x.data.toList).length = xs.length := List.length_map _
    have hcur2 : cur.toList.take (xs.map fun x => x.data.toList).length = (xs.map fun x => x.data.toList).map encStr := by
      rw [hl, ← encStr_map, ← hcur, Nat.mul_one]
    have hH : Holds encStr w g 0 (xs.map fun x => x.data.toList).toArray := holds_of_block hh hcur2
    have := sh_slices_Sort_string g 0 cap (xs.map fun x => x.data.toList) w hH (Array.getElem?_eq_some_iff.1 hh).1 (by rw [hl]; omega)
    rw [hl] at this
    refine this.mono fun x w' ⟨h1, n, os, h2⟩ => ⟨h1, ?_, ?_⟩
    · rw [h2]
      have := ownsRow_sorted (n := n) (os := os) (ts := (xs.map fun x => x.data.toList).mergeSort leB) (List.length_mergeSort _) hg hh (by rw [hl]; exact hc) hm hsz
      rw [hl, map_encStr] at this
      rw [sortT_len]
      exact this
    · rw [h2]; exact grownBy_sorted _

theorem grown_drewS {w w' : World} {row : Option Nat} (h : w.grownBy w' row) : w.grownBy w'.drew row := ⟨h.os, h.tape, h.output, h.size, h.block⟩

set_option maxRecDepth 100000 in
set_option maxHeartbeats 4000000 in
theorem anyTwice_any (xs : List ByteArray) (v : Value) (N : Nat) (w : World) (hn : xs.length ≤ 4294967296) (h : w.ownsRow N 9 1 v xs.length (xs.map Value.string)) :
    Calls Try.prog 16 #[v] w fun x w' => x = .returned (.bool (twiceB xs)) ∧ w.grownBy w' v.ownBlock := by
  have H := hid h
  obtain ⟨a, cap, rfl, -, -, hblk⟩ := ownsRow_txts h
  clear h
  have HSL := hid (sortT_len xs)
  have HTW := hid (twice_sort xs)
  have HSO := hid (sortT_sorted xs)
  go_enter Try.func16, Try.ntmps16
  go_wp2_with fail
  refine (sort_own xs _ N w hn (unhid H)).mono ?_
  rintro x w1 ⟨rfl, ho, hg⟩
  obtain ⟨a1, c1, e1, hat, -, -⟩ := ownsRow_txts ho
  have e2 : a1 = a := by injection e1 with e1; exact e1.symm
  subst e2
  generalize hys : sortT xs = ys at *
  have HAT := hid hat
  have HG := hid hg
  have hyl : ys.length = xs.length := unhid HSL
  have HYL := hid hyl
  clear ho hat hg e1 hys hyl HSL H hblk
  go_wp2_with fail
  go_loopw [3] (fun i wr => ∃ k : Nat, k ≤ xs.length ∧ i = .int .i64 ((k : Int) + 1) ∧ Hid (∀ (j : Nat) x y, j < k → ys[j]? = some x → ys[j + 1]? = some y → x ≠ y) ∧ Hid (w.grownBy wr (Value.slice a1 xs.length cap).ownBlock) ∧ Hid (TxtsAt wr a1 ys)) (fun i _ => xs.length + 1 - (intOf i).toNat)
  case atStart => exact ⟨0, Nat.zero_le _, rfl, hid (fun j x y hj => absurd hj (Nat.not_lt_zero _)), HG, HAT⟩
  case round =>
    clear HAT HG
    obtain ⟨k, hk, rfl, HX, HG, HAT⟩ := hrel
    by_cases hlt : k + 1 < xs.length
    · have hl1 : k < ys.length := by have := unhid HYL; omega
      have hl2 : k + 1 < ys.length := by have := unhid HYL; omega
      obtain ⟨x, hx⟩ : ∃ x, ys[k]? = some x := ⟨ys[k], List.getElem?_eq_getElem hl1⟩
      obtain ⟨y, hy⟩ : ∃ y, ys[k + 1]? = some y := ⟨ys[k + 1], List.getElem?_eq_getElem hl2⟩
      obtain ⟨b, o, rfl, hbl, hc⟩ := (unhid HAT).get (by intro e; subst e; simp at hl1)
      have c0 := hc k x hx
      have c1 : wr.cell? ⟨b, o + (k + 1), none⟩ = some (.string y) := hc (k + 1) y hy
      have c2 : wr.cell? ⟨b, o + k + 1, none⟩ = some (.string y) := hc (k + 1) y hy
      have q0 : ((k : Int) + 1 - 1).toNat = k := by omega
      have HXY := hid (And.intro hx hy)
      have hq := txt_iff y x
      clear hc hx hy hbl hl1 hl2
      by_cases hxy : y = x
      · rw [decide_eq_true hxy] at hq
        have E := hid (twiceB_true (unhid HXY).1 (by rw [← hxy]; exact (unhid HXY).2) (Nat.lt_succ_self k))
        go_wp2_with fail
        go_region
        go_wp2_with fail
        go_ret
        exact ⟨by rw [← unhid HTW, unhid E]; rfl, grown_drewS (unhid HG)⟩
      · rw [decide_eq_false hxy] at hq
        have HNE := hid hxy
        clear hxy
        go_wp2_with fail
        go_region
        go_wp2_with fail
        go_roundw
        case rel =>
          refine ⟨k + 1, by omega, by go_num, hid (fun j x' y' hj hx' hy' => ?_), hid (grown_drewS (unhid HG)), hid ((unhid HAT).below (drew_belowS _))⟩
          by_cases ej : j = k
          · subst ej
            rw [(unhid HXY).1] at hx'
            rw [(unhid HXY).2] at hy'
            cases hx'
            cases hy'
            exact fun e => unhid HNE e.symm
          · exact unhid HX j x' y' (by omega) hx' hy'
        case measure => simp [intOf]; omega
    · go_wp2_with fail
      go_ret
      refine ⟨?_, unhid HG⟩
      have : ys.Nodup := nodup_sorted (unhid HSO) (fun j x y hx hy => unhid HX j x y (by have := (List.getElem?_eq_some_iff.1 hy).1; have := unhid HYL; omega) hx hy)
      have h2 : twiceB ys = false := by unfold twiceB; rw [decide_eq_true this]; rfl
      rw [← unhid HTW, h2]; rfl
end Go.Proofs.Ytlnpjiabdebmgaa
