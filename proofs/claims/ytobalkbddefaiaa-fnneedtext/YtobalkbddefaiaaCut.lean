/- What the model's cut of a text makes: the parts between marks, and what the model calls a name and a path. -/
import Derived.Test.YtobalkbddefaiaaParts
import Derived.Maps.AppendAt
namespace Go.Proofs.Ytobalkbddefaiaa
open Go.RowKit Go.Shelf

theorem cutB_at (b : UInt8) : ∀ (l : List UInt8) (j : Nat), l[j]? = some b → (∀ i, i < j → l[i]? ≠ some b) → cutB b l = l.take j :: cutB b (l.drop (j + 1))
  | [], j, h, _ => by simp at h
  | c :: l, 0, h, _ => by simp at h; subst h; simp [cutB]
  | c :: l, j + 1, h, hn => by
    have hc : (c == b) = false := by have := hn 0 (by omega); simpa using this
    have ih := cutB_at b l j (by simpa using h) (fun i hi => by have := hn (i + 1) (by omega); simpa using this)
    simp [cutB, hc, ih]
theorem cutB_no (b : UInt8) : ∀ (l : List UInt8), (∀ i : Nat, l[i]? ≠ some b) → cutB b l = [l]
  | [], _ => rfl
  | c :: l, hn => by
    have hc : (c == b) = false := by have := hn 0; simpa using this
    have ih := cutB_no b l (fun i => by have := hn (i + 1); simpa using this)
    simp [cutB, hc, ih]

theorem getByte (s : ByteArray) (k : Nat) (h : k < s.size) : s.data.toList[k]? = some s[k] := by
  rw [List.getElem?_eq_getElem (by simpa using h)]; rfl
theorem cut_step (s : ByteArray) (b : UInt8) (fr k : Nat) (hfk : fr ≤ k) (hlt : k < s.size) (hb : s[k] = b) (hno : ∀ j, fr ≤ j → j < k → s.data.toList[j]? ≠ some b) :
    cutB b (s.data.toList.drop fr) = (s.extract fr k).data.toList :: cutB b (s.data.toList.drop (k + 1)) := by
  have h := cutB_at b (s.data.toList.drop fr) (k - fr) (by rw [List.getElem?_drop, Nat.add_sub_cancel' hfk, getByte s k hlt, hb])
    (fun i hi => by rw [List.getElem?_drop]; exact hno _ (by omega) (by omega))
  rw [h, List.drop_drop, Lib.extract_data, show fr + (k - fr + 1) = k + 1 from by omega]
theorem cut_last (s : ByteArray) (b : UInt8) (fr k : Nat) (hk : s.size ≤ k) (hno : ∀ j, fr ≤ j → j < k → s.data.toList[j]? ≠ some b) :
    cutB b (s.data.toList.drop fr) = [(s.extract fr s.size).data.toList] := by
  have h := cutB_no b (s.data.toList.drop fr) (fun i => by
    rw [List.getElem?_drop]
    by_cases hi : fr + i < k
    · exact hno _ (by omega) hi
    · rw [List.getElem?_eq_none (by simp; omega)]; simp)
  rw [h, Lib.extract_data, List.take_of_length_le (by simp)]

theorem cutB_le (b : UInt8) : ∀ (l : List UInt8) (p : List UInt8), p ∈ cutB b l → p.length ≤ l.length
  | [], p, h => by simp [cutB] at h; subst h; simp
  | c :: l, p, h => by
    unfold cutB at h
    split at h
    · rcases List.mem_cons.1 h with h | h
      · subst h; simp
      · have := cutB_le b l p h; simp; omega
    · have ih := cutB_le b l
      split at h
      · simp at h; subst h; simp
      · rename_i hd tl e
        rw [e] at ih
        rcases List.mem_cons.1 h with h | h
        · subst h; have := ih hd (by simp); simp; omega
        · have := ih p (by simp [h]); simp; omega
theorem cutB_length (b : UInt8) : ∀ (l : List UInt8), (cutB b l).length ≤ l.length + 1
  | [] => by simp [cutB]
  | c :: l => by
    have ih := cutB_length b l
    unfold cutB
    split
    · simp; omega
    · split
      · simp
      · rename_i hd tl e
        rw [e] at ih
        simp at ih ⊢; omega

theorem all_take_succ (s : ByteArray) (k : Nat) (h : k < s.size) (p : UInt8 → Bool) : (s.data.toList.take (k + 1)).all p = ((s.data.toList.take k).all p && p s[k]) := by
  rw [take_snoc s k h]; simp

theorem info9 : (Try.prog.info? 9).map (fun i => (i.zero, i.size, i.bytes)) = some (some (.string ⟨#[]⟩), 1, 16) := by kernel_rfl

abbrev datas (xs : List ByteArray) : List (List UInt8) := xs.map fun x => x.data.toList

set_option maxRecDepth 100000 in
set_option maxHeartbeats 1000000 in
theorem l1Cut_any (s : ByteArray) (b : UInt8) (most : Int) (hs : s.size ≤ 1048576) (hm : (s.size : Int) < most) (hm2 : most < 4294967296) (w : World) :
    Calls Try.prog 48 #[.string s, .int .u8 b.toNat, .int .i64 most] w fun e w' => ∃ v xs, e = .returned v ∧ datas xs = cutB b s.data.toList ∧ w'.ownsRow w.heap.size 9 1 v xs.length (xs.map Value.string) ∧ Below w.heap.size w w' := by
  go_enter Try.func48, Try.ntmps48
  obtain ⟨i0, hi, hz0, hz1, hz2⟩ := info_parts info9
  go_wp2_with fail
  go_loopw [7, 8, 9] (fun o f i wr => ∃ (g cap k fr : Nat) (xs : List ByteArray), o = .slice (some ⟨g, 0, none⟩) xs.length cap ∧ f = .int .i64 fr ∧ i = .int .i64 k ∧ fr ≤ k ∧ k ≤ s.size ∧ xs.length ≤ fr ∧
      Hid (cutB b s.data.toList = datas xs ++ cutB b (s.data.toList.drop fr)) ∧ Hid (∀ j, fr ≤ j → j < k → s.data.toList[j]? ≠ some b) ∧
      wr.ownsRow w.heap.size 9 1 (.slice (some ⟨g, 0, none⟩) xs.length cap) xs.length (xs.map Value.string) ∧ Below w.heap.size w wr)
    (fun _ _ i _ => s.size - (intOf i).toNat)
  case atStart => exact ⟨w.heap.size, 0, 0, 0, [], rfl, rfl, rfl, by omega, by omega, by simp, hid (by simp), hid (fun j _ h => by omega), World.ownsRow_lit w #[] 0 (Nat.le_refl _) (by omega) (by simp), (Below.refl _ _).alloc (Nat.le_refl _) _⟩
  case round =>
    obtain ⟨g, cap, k, fr, xs, rfl, rfl, rfl, hfk, hk, hx, hcut, hno, hown, hB⟩ := hrel
    by_cases hlt : k < s.size
    · by_cases hb : s[k] = b
      · have hb' : (((s[k]).toNat : Int) == (b.toNat : Int)) = true := by simp [hb]
        go_wp2_with (at_builtin; refine wpList_append_own _ rfl _ _ 62 rfl w.heap.size 9 i0 (.string ⟨#[]⟩) 1 16 Try.underlying62 hi hz0 hz1 hz2 rfl (by decide) _ _ _ rfl (hown.alloc _) ⟨wr.heap.size, 0, none⟩ 1 1 [.string (s.extract fr k)] rfl rfl ?c1 ?c2 ?c3 ?c4 ?c5 ?_)
        case c1 => exact cell_one_new _ _ _
        case c2 => intro u hu; simp at hu; subst hu; rfl
        case c3 => unfold maxLen; omega
        case c4 => omega
        case c5 => have := hB.size; simp; omega
        intro v' w1 hown' hgrow _
        obtain ⟨g', cap', rfl⟩ := ownsRow_succ hown'
        have hB1 : Below w.heap.size w w1 := (hB.alloc hB.size _).grown hgrow (by have := hB.size; simp; omega) (fun j e => (hown.lt j e).1)
        clear hgrow hown
        go_wp2
        go_roundw
        case rel => exact ⟨g', cap', k + 1, k + 1, xs ++ [s.extract fr k], by simp, by go_num, by go_num, by omega, by omega, by simp; omega, hid (by rw [unhid hcut, cut_step s b fr k hfk hlt hb (unhid hno)]; simp [datas]), hid (fun j h1 h2 => by omega), by simpa using hown', hB1⟩
        case measure => simp [intOf]; omega
      · have hb' : (((s[k]).toNat : Int) == (b.toNat : Int)) = false := by
          rw [beq_eq_false_iff_ne]; intro h; exact hb (UInt8.toNat_inj.1 (by omega))
        go_wp2
        go_roundw
        case rel => exact ⟨g, cap, k + 1, fr, xs, rfl, rfl, by go_num, by omega, by omega, hx, hcut, hid (fun j h1 h2 => by
          by_cases hj : j < k
          · exact unhid hno j h1 hj
          · obtain rfl : j = k := by omega
            rw [getByte s j hlt]; simpa using hb), hown, hB⟩
        case measure => simp [intOf]; omega
    · go_wp2_with (at_builtin; refine wpList_append_own _ rfl _ _ 62 rfl w.heap.size 9 i0 (.string ⟨#[]⟩) 1 16 Try.underlying62 hi hz0 hz1 hz2 rfl (by decide) _ _ _ rfl (hown.alloc _) ⟨wr.heap.size, 0, none⟩ 1 1 [.string (s.extract fr s.size)] rfl rfl ?c1 ?c2 ?c3 ?c4 ?c5 ?_)
      case c1 => exact cell_one_new _ _ _
      case c2 => intro u hu; simp at hu; subst hu; rfl
      case c3 => unfold maxLen; omega
      case c4 => omega
      case c5 => have := hB.size; simp; omega
      intro v' w1 hown' hgrow _
      have hB1 : Below w.heap.size w w1 := (hB.alloc hB.size _).grown hgrow (by have := hB.size; simp; omega) (fun j e => (hown.lt j e).1)
      clear hgrow hown
      go_wp2
      go_ret
      exact ⟨v', xs ++ [s.extract fr s.size], rfl, by rw [unhid hcut, cut_last s b fr k (by omega) (unhid hno)]; simp [datas], by simpa using hown', hB1⟩
end Go.Proofs.Ytobalkbddefaiaa
