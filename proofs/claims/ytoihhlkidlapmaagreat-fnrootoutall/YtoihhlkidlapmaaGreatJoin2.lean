/- Texts of this proof, one behind the other; each says at its head what it shows. -/
import Derived.Test.YtoihhlkidlapmaaGreatJoin1
import Derived.Lib.Strings
import Derived.Lib.Bytealg
import Derived.Laws.Externs
import Derived.Maps.AppendAt
namespace Go.Proofs.YtoihhlkidlapmaaGreat
open Go.RowKit Go.Shelf
attribute [local go_sem] Oper.semAt_some
def cutB (b : UInt8) : List UInt8 → List (List UInt8)
  | [] => [[]]
  | c :: l => if c == b then [] :: cutB b l else match cutB b l with
    | [] => [[c]]
    | h :: t => (c :: h) :: t
theorem cutB_ne (b : UInt8) (l : List UInt8) : cutB b l ≠ [] := by
  cases l with
  | nil => simp [cutB]
  | cons c l => unfold cutB; split <;> (try split) <;> simp
theorem cutB_none (b : UInt8) (l : List UInt8) (h : Lib.indexByte l b < 0) : cutB b l = [l] := by
  induction l with
  | nil => rfl
  | cons c l ih =>
    unfold Lib.indexByte at h
    have hg := Lib.indexByte_ge l b
    by_cases hc : (c == b) = true
    · simp [hc] at h
    · simp [hc] at h
      have : Lib.indexByte l b < 0 := by split at h <;> omega
      simp [cutB, hc, ih this]
theorem cutB_some (b : UInt8) (l : List UInt8) (i : Nat) (h : Lib.indexByte l b = i) : i < l.length ∧ cutB b l = l.take i :: cutB b (l.drop (i + 1)) := by
  induction l generalizing i with
  | nil => simp [Lib.indexByte] at h
  | cons c l ih =>
    unfold Lib.indexByte at h
    have hg := Lib.indexByte_ge l b
    by_cases hc : (c == b) = true
    · simp [hc] at h
      obtain rfl : i = 0 := by omega
      simp [cutB, hc]
    · simp [hc] at h
      split at h
      · omega
      · obtain ⟨j, rfl⟩ : ∃ j, i = j + 1 := ⟨i - 1, by omega⟩
        obtain ⟨h1, h2⟩ := ih j (by omega)
        refine ⟨by simp; omega, ?_⟩
        simp [cutB, hc, h2]
set_option maxHeartbeats 1000000 in
set_option maxRecDepth 100000 in
theorem slIndexByte_any (s : ByteArray) (c : Int) (w : World) :
    Calls Tryz.prog 232 #[.string s, .int .u8 c] w fun e w' => e = .returned (.int .i64 (Lib.indexByte s.data.toList c.toNat.toUInt8)) ∧ w' = w := by
  go_enter Tryz.func232, Tryz.ntmps232
  go_wp2
  rw [run_callFunc_extern Tryz.func266 (by kernel_rfl) (by kernel_rfl) (by kernel_rfl) (e := Extern.BytealgIndexByte.indexByte) (by kernel_rfl), Lib.run_indexByteString]
  simp only [Result.andThen]
  rw [Oper.upon_value]
  go_wp2
  go_ret
  exact ⟨rfl, rfl⟩
set_option maxHeartbeats 1000000 in
theorem IndexByte_any (s : ByteArray) (c : Int) (w : World) :
    Calls Tryz.prog 170 #[.string s, .int .u8 c] w fun e w' => e = .returned (.int .i64 (Lib.indexByte s.data.toList c.toNat.toUInt8)) ∧ w' = w := by
  go_enter Tryz.func170, Tryz.ntmps170
  go_wp2_with (go_at_call 232; refine (slIndexByte_any _ _ _).mono ?_; rintro e w' ⟨rfl, rfl⟩)
  go_ret
  exact ⟨rfl, rfl⟩
theorem IndexByteU_any (s : ByteArray) (c : UInt8) (w : World) :
    Calls Tryz.prog 170 #[.string s, .int .u8 c.toNat] w fun e w' => e = .returned (.int .i64 (Lib.indexByte s.data.toList c)) ∧ w' = w := by
  have h := IndexByte_any s c.toNat w
  have e : ((c.toNat : Nat) : Int).toNat.toUInt8 = c := by simp
  rwa [e] at h
abbrev Str := { x : ByteArray // x.size ≤ maxLen }
abbrev vals (xs : List Str) : List (List UInt8) := xs.map fun x => x.1.data.toList
theorem vals_snoc (pre : List Str) (x : Str) : vals (pre ++ [x]) = vals pre ++ [x.1.data.toList] := by simp [vals]
def strSize : Value → Nat
  | .string x => x.size
  | _ => 0
set_option maxRecDepth 100000 in
set_option maxHeartbeats 1000000 in
theorem parts1_in (F : Fence) (n : Nat) (hf : F.fn 169) (hf2 : F.fn 170) (hro : F.round = none) (hn : 1 ≤ n) (hw : ∀ (s : ByteArray) (c : UInt8) (w : World), CallsIn F (n - 1) Tryz.prog 170 #[.string s, .int .u8 c.toNat] w fun e w' => e = .returned (.int .i64 (Lib.indexByte s.data.toList c)) ∧ w' = w)
    (l Bs Bm : Nat) (s : ByteArray) (m : UInt8) (hs : s.size ≤ maxLen) (J Jx : List Str → World → Prop)
    (hY : ∀ pre (x : Str) W, J pre W → pre.length < (cutB m s.data.toList).length → YieldAt F (n - 1) Tryz.prog l #[.string x.1] W fun e W' =>
      (e = .returned (.bool true) ∧ J (pre ++ [x]) W' ∧ Keeps [Bs, Bm] W W') ∨ (e = .returned (.bool false) ∧ Jx (pre ++ [x]) W'))
    (W : World) (hc : W.cell? ⟨Bs, 0, none⟩ = some (.string s)) (hm : W.cell? ⟨Bm, 0, none⟩ = some (.int .u8 m.toNat)) (h0 : J [] W) :
    CallsIn F n Tryz.prog 169 #[.func (.yield l) #[] #[], .pointer (some ⟨Bs, 0, none⟩), .pointer (some ⟨Bm, 0, none⟩)] W fun e W' => (∃ v, e = .returned v) ∧
      ((∃ ys, vals ys = cutB m s.data.toList ∧ J ys W') ∨ (∃ pre, vals pre <+: cutB m s.data.toList ∧ Jx pre W')) := by
  unfold maxLen at hs
  refine callsIn_of_wp Tryz.func169 rfl hf ?_ hro
  simp only [Tryz.ntmps169, List.size_toArray, List.length_cons, List.length_nil, Nat.reduceAdd, Nat.reduceSub, Array.replicate_succ, Array.replicate_zero, List.push_toArray, List.append_toArray, List.nil_append, List.cons_append]
  gi_wp2
  gi_loopw [4, 5] (fun p _ wr => ∃ (pre : List Str) (rest : ByteArray), rest.size ≤ s.size ∧ p = .string rest ∧ Hid (cutB m s.data.toList = vals pre ++ cutB m rest.data.toList) ∧ J pre wr ∧ wr.cell? ⟨Bm, 0, none⟩ = some (.int .u8 m.toNat))
    (fun p _ _ => strSize p)
  case atStart =>
    exact ⟨[], s, Nat.le_refl _, rfl, hid (by simp), h0, hm⟩
  case round =>
    obtain ⟨pre, rest, hle, rfl, hcut, hJ, hmr⟩ := hrel
    have hlen : pre.length < (cutB m s.data.toList).length := by
      rw [unhid hcut]; have := List.length_pos_iff.2 (cutB_ne m rest.data.toList); simp; omega
    by_cases hlt : Lib.indexByte rest.data.toList m < 0
    · obtain ⟨fn, tmps, assign, body, hy, hR⟩ := hY _ ⟨rest, by unfold maxLen; omega⟩ wr hJ hlen
      dsimp only at hy hR
      gi_wp2_with (gi_at_call 170; refine (hw _ _ _).mono ?_; rintro e w' ⟨rfl, rfl⟩)
      refine hR.mono ?_
      rintro e W3 (⟨rfl, hJ3, hk3⟩ | ⟨rfl, hJx3⟩)
      · gi_wp2
        refine bodyPost_ret (results_none rfl _ _ _) rfl ?_
        exact ⟨⟨_, rfl⟩, .inl ⟨_, by rw [unhid hcut, cutB_none m _ hlt]; simp, hJ3⟩⟩
      · gi_wp2
        refine bodyPost_ret (results_none rfl _ _ _) rfl ?_
        exact ⟨⟨_, rfl⟩, .inr ⟨_, by rw [unhid hcut, cutB_none m _ hlt]; simp, hJx3⟩⟩
    · obtain ⟨i, hi⟩ : ∃ i : Nat, Lib.indexByte rest.data.toList m = i := ⟨(Lib.indexByte rest.data.toList m).toNat, by omega⟩
      obtain ⟨hil, hcr⟩ := cutB_some m _ i hi
      have hil' : i < rest.size := by rw [Lib.size_eq]; exact hil
      have Hcr := hid hcr
      have hx1 : (rest.extract 0 i).data.toList = rest.data.toList.take i := by rw [Lib.extract_data]; simp
      have hx2 : (rest.extract (i + 1) rest.size).data.toList = rest.data.toList.drop (i + 1) := by rw [Lib.extract_data, List.take_of_length_le (by simp)]
      have Hx1 := hid hx1
      have Hx2 := hid hx2
      clear hcr hil hx1 hx2
      have hx0 : (rest.extract 0 i).size ≤ maxLen := by unfold maxLen; simp; omega
      obtain ⟨fn, tmps, assign, body, hy, hR⟩ := hY _ ⟨rest.extract 0 i, hx0⟩ wr hJ hlen
      dsimp only at hy hR
      gi_wp2_with (gi_at_call 170; refine (hw _ _ _).mono ?_; rintro e w' ⟨rfl, rfl⟩)
      refine hR.mono ?_
      rintro e W3 (⟨rfl, hJ3, hk3⟩ | ⟨rfl, hJx3⟩)
      · have hm3 : W3.cell? ⟨Bm, 0, none⟩ = some (.int .u8 m.toNat) := hk3 Bm (by simp) _ hmr
        gi_wp2
        go_roundw
        case rel => exact ⟨_, rest.extract (i + 1) rest.size, by simp; omega, rfl, hid (by rw [unhid hcut, unhid Hcr, unhid Hx2, vals_snoc]; simp), hJ3, hm3⟩
        case measure => simp [strSize]; omega
      · gi_wp2
        refine bodyPost_ret (results_none rfl _ _ _) rfl ?_
        exact ⟨⟨_, rfl⟩, .inr ⟨_, by rw [unhid hcut, unhid Hcr, vals_snoc]; simp, hJx3⟩⟩
set_option maxHeartbeats 1000000 in
theorem partsOf_in (F : Fence) (n : Nat) (hf : F.fn 102) (hro : F.round = none) (s : ByteArray) (m : Int) (w : World) :
    CallsIn F n Tryz.prog 102 #[.string s, .int .u8 m] w fun e w' => e = .returned (.func (.func 169) #[] #[.pointer (some ⟨w.heap.size, 0, none⟩), .pointer (some ⟨w.heap.size + 1, 0, none⟩)]) ∧ w' = (w.alloc (.cells #[.string s] 9)).alloc (.cells #[.int .u8 m] 5) := by
  refine callsIn_of_wp Tryz.func102 rfl hf ?_ hro
  simp only [Tryz.ntmps102, List.size_toArray, List.length_cons, List.length_nil, Nat.reduceAdd, Nat.reduceSub, Array.replicate_succ, Array.replicate_zero, List.push_toArray, List.append_toArray, List.nil_append, List.cons_append]
  gi_wp2
  go_ret
  exact ⟨rfl, rfl⟩
theorem parts_stops (F : Fence) (n : Nat) (hf : F.fn 169) (hf2 : F.fn 170) (hro : F.round = none) (hn : 1 ≤ n)
    (hw : ∀ (s : ByteArray) (c : UInt8) (w : World), CallsIn F (n - 1) Tryz.prog 170 #[.string s, .int .u8 c.toNat] w fun e w' => e = .returned (.int .i64 (Lib.indexByte s.data.toList c)) ∧ w' = w)
    (Bs Bm : Nat) (s : ByteArray) (m : UInt8) (hs : s.size ≤ maxLen) (w : World) (hBs : Bs < w.heap.size) (hBm : Bm < w.heap.size)
    (hc : w.cell? ⟨Bs, 0, none⟩ = some (.string s)) (hm : w.cell? ⟨Bm, 0, none⟩ = some (.int .u8 m.toNat)) :
    SeqStopsK F n Tryz.prog 169 #[.pointer (some ⟨Bs, 0, none⟩), .pointer (some ⟨Bm, 0, none⟩)] (fun x : Str => #[Value.string x.1]) (Keeps [Bs, Bm]) (fun ys => vals ys = cutB m s.data.toList) (fun pre => vals pre <+: cutB m s.data.toList) (cutB m s.data.toList).length w := fun l J Jx W hW _ _ hY h0 =>
  parts1_in F n hf hf2 hro hn hw l Bs Bm s m hs J Jx hY W ((hW.cell (p := ⟨Bs, 0, none⟩) hBs).trans hc) ((hW.cell (p := ⟨Bm, 0, none⟩) hBm).trans hm) h0
end Go.Proofs.YtoihhlkidlapmaaGreat

namespace Go.Proofs.YtoihhlkidlapmaaGreat
open Go.RowKit Go.Shelf
theorem cutB_at (b : UInt8) : ∀ (l : List UInt8) (j : Nat), l[j]? = some b → (∀ i, i < j → l[i]? ≠ some b) → cutB b l = l.take j :: cutB b (l.drop (j + 1))
  | [], j, h, _ => by simp at h
  | c :: l, 0, h, _ => by simp at h; subst h; simp [cutB]
  | c :: l, j + 1, h, hn => by
    have hc : (c == b) = false := by have := hn 0 (by omega); simpa using this
    have ih := cutB_at b l j (by simpa using h) (fun i hi => by have := hn (i + 1) (by omega); simpa using this)
    simp [cutB, hc, ih]
theorem cutB_no (b : UInt8) : ∀ (l : List UInt8), (∀ i : Nat, l[i]? ≠ some b) → cutB b l = [l]
  | [], _ => rfl
  | c :: l, hn => by
    have hc : (c == b) = false := by have := hn 0; simpa using this
    have ih := cutB_no b l (fun i => by have := hn (i + 1); simpa using this)
    simp [cutB, hc, ih]
theorem getByte (s : ByteArray) (k : Nat) (h : k < s.size) : s.data.toList[k]? = some s[k] := by
  rw [List.getElem?_eq_getElem (by simpa using h)]; rfl
theorem cut_step (s : ByteArray) (b : UInt8) (fr k : Nat) (hfk : fr ≤ k) (hlt : k < s.size) (hb : s[k] = b) (hno : ∀ j, fr ≤ j → j < k → s.data.toList[j]? ≠ some b) :
    cutB b (s.data.toList.drop fr) = (s.extract fr k).data.toList :: cutB b (s.data.toList.drop (k + 1)) := by
  have h := cutB_at b (s.data.toList.drop fr) (k - fr) (by rw [List.getElem?_drop, Nat.add_sub_cancel' hfk, getByte s k hlt, hb])
    (fun i hi => by rw [List.getElem?_drop]; exact hno _ (by omega) (by omega))
  rw [h, List.drop_drop, Lib.extract_data, show fr + (k - fr + 1) = k + 1 from by omega]
theorem cut_last (s : ByteArray) (b : UInt8) (fr k : Nat) (hk : s.size ≤ k) (hno : ∀ j, fr ≤ j → j < k → s.data.toList[j]? ≠ some b) :
    cutB b (s.data.toList.drop fr) = [(s.extract fr s.size).data.toList] := by
  have h := cutB_no b (s.data.toList.drop fr) (fun i => by
    rw [List.getElem?_drop]
    by_cases hi : fr + i < k
    · exact hno _ (by omega) hi
    · rw [List.getElem?_eq_none (by simp; omega)]; simp)
  rw [h, Lib.extract_data, List.take_of_length_le (by simp)]
theorem cutB_le (b : UInt8) : ∀ (l : List UInt8) (p : List UInt8), p ∈ cutB b l → p.length ≤ l.length
  | [], p, h => by simp [cutB] at h; subst h; simp
  | c :: l, p, h => by
    unfold cutB at h
    split at h
    · rcases List.mem_cons.1 h with h | h
      · subst h; simp
      · have := cutB_le b l p h; simp; omega
    · have ih := cutB_le b l
      split at h
      · simp at h; subst h; simp
      · rename_i hd tl e
        rw [e] at ih
        rcases List.mem_cons.1 h with h | h
        · subst h; have := ih hd (by simp); simp; omega
        · have := ih p (by simp [h]); simp; omega
theorem cutB_length (b : UInt8) : ∀ (l : List UInt8), (cutB b l).length ≤ l.length + 1
  | [] => by simp [cutB]
  | c :: l => by
    have ih := cutB_length b l
    unfold cutB
    split
    · simp; omega
    · split
      · simp
      · rename_i hd tl e
        rw [e] at ih
        simp at ih ⊢; omega
theorem all_take_succ (s : ByteArray) (k : Nat) (h : k < s.size) (p : UInt8 → Bool) : (s.data.toList.take (k + 1)).all p = ((s.data.toList.take k).all p && p s[k]) := by
  rw [take_snoc s k h]; simp
theorem info9 : (Tryz.prog.info? 9).map (fun i => (i.zero, i.size, i.bytes)) = some (some (.string ⟨#[]⟩), 1, 16) := by kernel_rfl
abbrev datas (xs : List ByteArray) : List (List UInt8) := xs.map fun x => x.data.toList
set_option maxRecDepth 100000 in
set_option maxHeartbeats 1000000 in
theorem l1Cut_any (s : ByteArray) (b : UInt8) (most : Int) (hs : s.size ≤ 1048576) (hm : (s.size : Int) < most) (hm2 : most < 4294967296) (w : World) :
    Calls Tryz.prog 176 #[.string s, .int .u8 b.toNat, .int .i64 most] w fun e w' => ∃ v xs, e = .returned v ∧ datas xs = cutB b s.data.toList ∧ w'.ownsRow w.heap.size 9 1 v xs.length (xs.map Value.string) ∧ Below w.heap.size w w' := by
  go_enter Tryz.func176, Tryz.ntmps176
  obtain ⟨i0, hi, hz0, hz1, hz2⟩ := info_parts info9
  go_wp2_with fail
  go_loopw [7, 8, 9] (fun o f i wr => ∃ (g cap k fr : Nat) (xs : List ByteArray), o = .slice (some ⟨g, 0, none⟩) xs.length cap ∧ f = .int .i64 fr ∧ i = .int .i64 k ∧ fr ≤ k ∧ k ≤ s.size ∧ xs.length ≤ fr ∧
      Hid (cutB b s.data.toList = datas xs ++ cutB b (s.data.toList.drop fr)) ∧ Hid (∀ j, fr ≤ j → j < k → s.data.toList[j]? ≠ some b) ∧
      wr.ownsRow w.heap.size 9 1 (.slice (some ⟨g, 0, none⟩) xs.length cap) xs.length (xs.map Value.string) ∧ Below w.heap.size w wr)
    (fun _ _ i _ => s.size - (intOf i).toNat)
  case atStart => exact ⟨w.heap.size, 0, 0, 0, [], rfl, rfl, rfl, by omega, by omega, by simp, hid (by simp), hid (fun j _ h => by omega), World.ownsRow_lit w #[] 0 (Nat.le_refl _) (by omega) (by simp), (Below.refl _ _).alloc (Nat.le_refl _) _⟩
  case round =>
    obtain ⟨g, cap, k, fr, xs, rfl, rfl, rfl, hfk, hk, hx, hcut, hno, hown, hB⟩ := hrel
    by_cases hlt : k < s.size
    · by_cases hb : s[k] = b
      · have hb' : (((s[k]).toNat : Int) == (b.toNat : Int)) = true := by simp [hb]
        go_wp2_with (at_builtin; refine wpList_append_own _ rfl _ _ 24 rfl w.heap.size 9 i0 (.string ⟨#[]⟩) 1 16 Tryz.underlying24 hi hz0 hz1 hz2 rfl (by decide) _ _ _ rfl (hown.alloc _) ⟨wr.heap.size, 0, none⟩ 1 1 [.string (s.extract fr k)] rfl rfl ?c1 ?c2 ?c3 ?c4 ?c5 ?_)
        case c1 => exact cell_one_new _ _ _
        case c2 => intro u hu; simp at hu; subst hu; rfl
        case c3 => unfold maxLen; omega
        case c4 => omega
        case c5 => have := hB.size; simp; omega
        intro v' w1 hown' hgrow _
        obtain ⟨g', cap', rfl⟩ := ownsRow_succ hown'
        have hB1 : Below w.heap.size w w1 := (hB.alloc hB.size _).grown hgrow (by have := hB.size; simp; omega) (fun j e => (hown.lt j e).1)
        clear hgrow hown
        go_wp2
        go_roundw
        case rel => exact ⟨g', cap', k + 1, k + 1, xs ++ [s.extract fr k], by simp, by go_num, by go_num, by omega, by omega, by simp; omega, hid (by rw [unhid hcut, cut_step s b fr k hfk hlt hb (unhid hno)]; simp [datas]), hid (fun j h1 h2 => by omega), by simpa using hown', hB1⟩
        case measure => simp [intOf]; omega
      · have hb' : (((s[k]).toNat : Int) == (b.toNat : Int)) = false := by
          rw [beq_eq_false_iff_ne]; intro h; exact hb (UInt8.toNat_inj.1 (by omega))
        go_wp2
        go_roundw
        case rel => exact ⟨g, cap, k + 1, fr, xs, rfl, rfl, by go_num, by omega, by omega, hx, hcut, hid (fun j h1 h2 => by
          by_cases hj : j < k
          · exact unhid hno j h1 hj
          · obtain rfl : j = k := by omega
            rw [getByte s j hlt]; simpa using hb), hown, hB⟩
        case measure => simp [intOf]; omega
    · go_wp2_with (at_builtin; refine wpList_append_own _ rfl _ _ 24 rfl w.heap.size 9 i0 (.string ⟨#[]⟩) 1 16 Tryz.underlying24 hi hz0 hz1 hz2 rfl (by decide) _ _ _ rfl (hown.alloc _) ⟨wr.heap.size, 0, none⟩ 1 1 [.string (s.extract fr s.size)] rfl rfl ?c1 ?c2 ?c3 ?c4 ?c5 ?_)
      case c1 => exact cell_one_new _ _ _
      case c2 => intro u hu; simp at hu; subst hu; rfl
      case c3 => unfold maxLen; omega
      case c4 => omega
      case c5 => have := hB.size; simp; omega
      intro v' w1 hown' hgrow _
      have hB1 : Below w.heap.size w w1 := (hB.alloc hB.size _).grown hgrow (by have := hB.size; simp; omega) (fun j e => (hown.lt j e).1)
      clear hgrow hown
      go_wp2
      go_ret
      exact ⟨v', xs ++ [s.extract fr s.size], rfl, by rw [unhid hcut, cut_last s b fr k (by omega) (unhid hno)]; simp [datas], by simpa using hown', hB1⟩
end Go.Proofs.YtoihhlkidlapmaaGreat

namespace Go.Proofs.YtoihhlkidlapmaaGreat
open Go.RowKit Go.Shelf
attribute [local go_sem] Oper.semAt_some
def digI (c : UInt8) : Int := ((c.toNat : Int) - 48) % 256
def valI (l : List UInt8) : Int := l.foldl (fun n c => n * 10 + digI c) 0
def plainNum (l : List UInt8) : Bool := !l.isEmpty && !(decide (1 < l.length) && (l[0]? == some 48)) && l.all fun c => figB c.toNat
def numOk (l : List UInt8) (most : Int) : Bool := plainNum l && decide (valI l ≤ most)
def numVal (l : List UInt8) (most : Int) : Int := if numOk l most then valI l else 0
theorem digI_nn (c : UInt8) : 0 ≤ digI c ∧ digI c ≤ 255 := by unfold digI; omega
theorem valI_snoc (l : List UInt8) (c : UInt8) : valI (l ++ [c]) = valI l * 10 + digI c := by simp [valI]
theorem valI_nn (l : List UInt8) : 0 ≤ valI l := by
  have : ∀ (l : List UInt8) (a : Int), 0 ≤ a → 0 ≤ l.foldl (fun n c => n * 10 + digI c) a := by
    intro l
    induction l with
    | nil => intro a h; exact h
    | cons c l ih => intro a h; simp only [List.foldl_cons]; exact ih _ (by have := digI_nn c; omega)
  exact this l 0 (by omega)
theorem valI_pre {p l : List UInt8} (h : p <+: l) : valI p ≤ valI l := by
  obtain ⟨t, rfl⟩ := h
  have : ∀ (l : List UInt8) (a : Int), 0 ≤ a → a ≤ l.foldl (fun n c => n * 10 + digI c) a := by
    intro l
    induction l with
    | nil => intro a _; exact Int.le_refl _
    | cons c l ih => intro a h; have := digI_nn c; have := ih (a * 10 + digI c) (by omega); simp only [List.foldl_cons]; omega
  unfold valI
  rw [List.foldl_append]
  exact this t _ (valI_nn p)
theorem egFig : ∀ args w, (callFunc 181 args).run Tryz.prog w = .ok (.enter 181 args) w := enters_of Tryz.func181 (by kernel_rfl) rfl
set_option maxRecDepth 100000 in
set_option maxHeartbeats 2000000 in
theorem numberOf_any (s : ByteArray) (hs : s.size ≤ maxLen) (most : Int) (hm0 : 0 ≤ most) (hm : most ≤ 1000000) (w : World) :
    Calls Tryz.prog 241 #[.string s, .int .i64 most] w fun e W' => e = .returned (.tuple #[.int .i64 (numVal s.data.toList most), .bool (numOk s.data.toList most)]) ∧ Below w.heap.size w W' := by
  refine (callsIn_wide (n := 3)).1 ?_
  refine callsIn_of_wp_marks Tryz.func241 rfl trivial ?_ rfl
  simp only [Tryz.ntmps241, List.size_toArray, List.length_cons, List.length_nil, Nat.reduceAdd, Nat.reduceSub, Array.replicate_succ, Array.replicate_zero, List.push_toArray, List.append_toArray, List.nil_append, List.cons_append]
  have hB0 : Below w.heap.size w (((w.alloc (.cells #[.int .i64 most] 3)).alloc (.cells #[.int .i64 0] 3)).alloc (.cells #[.bool false] 4)) := (((Below.refl _ w).alloc (Nat.le_refl _) _).alloc (by simp) _).alloc (by simp; omega) _
  have HB0 := hid hB0
  clear hB0
  by_cases he : s.toList = []
  · have he' : s.toList.isEmpty = true := by simp [he]
    gi_wp2
    refine ⟨trivial, ?_⟩
    gi_wp2
    have hn : numOk s.data.toList most = false := by
      rw [Lib.toList_data] at he
      simp [numOk, plainNum, he]
    refine ⟨.tuple #[.int .i64 0, .bool false], ?_, ?_, unhid HB0⟩
    · simp [results, Tryz.f241, go_sem]
    · rw [numVal, hn]; rfl
  · have he' : s.toList.isEmpty = false := by simp [he]
    have h0 : 0 < s.size := by
      rw [Lib.toList_data] at he
      have := List.length_pos_iff.2 he
      rwa [← Lib.size_eq] at this
    by_cases hz : (1 : Int) < s.size ∧ s[0] = 48
    · obtain ⟨hz1, hz2⟩ := hz
      have hz3 : (((s[0]).toNat : Int) == 48) = true := by simp [hz2]
      gi_wp2
      refine ⟨trivial, ?_⟩
      gi_wp2
      have hn : numOk s.data.toList most = false := by
        have := getByte s 0 h0
        rw [hz2] at this
        have hl : 1 < s.data.toList.length := by rw [← Lib.size_eq]; omega
        have hd : decide (1 < s.data.toList.length) = true := decide_eq_true hl
        unfold numOk plainNum
        rw [this, hd]; simp
      refine ⟨.tuple #[.int .i64 0, .bool false], ?_, ?_, unhid HB0⟩
      · simp [results, Tryz.f241, go_sem]
      · rw [numVal, hn]; rfl
    · have hz' : ((1 : Int) < s.size ∧ (((s[0]).toNat : Int) == 48) = true) → False := fun ⟨a, b⟩ => hz ⟨a, UInt8.toNat_inj.1 (by simp at b ⊢; omega)⟩
      have hq : ((1 : Int) < s.size ∧ (((s[0]).toNat : Int) == 48) = false) ∨ (s.size : Int) ≤ 1 := by
        by_cases h1 : (1 : Int) < s.size
        · refine .inl ⟨h1, ?_⟩
          cases h : (((s[0]).toNat : Int) == 48)
          · rfl
          · exact (hz' ⟨h1, h⟩).elim
        · exact .inr (by omega)
      cases hall : s.data.toList.all fun c => figB c.toNat
      · have hn : numOk s.data.toList most = false := by simp only [numOk, plainNum, hall, Bool.and_false, Bool.false_and]
        have Hn := hid hn
        have Hall := hid hall
        clear hn hall hz' hz
        rcases hq with ⟨h1, h2⟩ | h1
        all_goals
          gi_wp2
          refine ⟨trivial, (callsIn_wide.2 (allBytes_any 181 figB egFig isFigure_any s hs _)).mono ?_⟩
          rintro e w1 ⟨rfl, hb⟩
          rw [unhid Hall]
          have hb' : Below (w.heap.size + 1 + 1 + 1) (((w.alloc (.cells #[.int .i64 most] 3)).alloc (.cells #[.int .i64 0] 3)).alloc (.cells #[.bool false] 4)) w1 := hb.mono (by simp)
          have HB1 := hid ((unhid HB0).trans (hb'.mono (by omega)))
          have c1 : w1.cell? ⟨w.heap.size + 1, 0, none⟩ = some (.int .i64 0) := (hb'.cell (p := ⟨w.heap.size + 1, 0, none⟩) (by simp)).trans (by simp [go_sem])
          have c2 : w1.cell? ⟨w.heap.size + 1 + 1, 0, none⟩ = some (.bool false) := (hb'.cell (p := ⟨w.heap.size + 1 + 1, 0, none⟩) (by simp)).trans (by simp [go_sem])
          have d1 : w1.frozen? ⟨w.heap.size + 1, 0, none⟩ = false := (hb'.frozen (p := ⟨w.heap.size + 1, 0, none⟩) (by simp)).trans (by simp [go_sem])
          have d2 : w1.frozen? ⟨w.heap.size + 1 + 1, 0, none⟩ = false := (hb'.frozen (p := ⟨w.heap.size + 1 + 1, 0, none⟩) (by simp)).trans (by simp [go_sem])
          clear hb hb'
          gi_wp2
          refine ⟨.tuple #[.int .i64 0, .bool false], ?_, ?_, ((unhid HB1).setCell (p := ⟨w.heap.size + 1, 0, none⟩) (by simp) _).setCell (p := ⟨w.heap.size + 1 + 1, 0, none⟩) (by simp; omega) _⟩
          · simp [results, Tryz.f241, go_sem, c1, c2]
          · rw [numVal, unhid Hn]; rfl
      · have hpl : plainNum s.data.toList = true := by
          have hne : s.data.toList ≠ [] := by rw [Lib.toList_data] at he; exact he
          have hz2 : (decide (1 < s.data.toList.length) && (s.data.toList[0]? == some 48)) = false := by
            rw [getByte s 0 h0, ← Lib.size_eq]
            cases h : (decide (1 < s.size) && (some s[0] == some 48))
            · rfl
            · simp at h; exact (hz ⟨by omega, h.2⟩).elim
          unfold plainNum
          rw [hz2, hall]; simp; exact fun h => hne (by simp [h])
        have Hpl := hid hpl
        have Hall := hid hall
        clear hpl hall hz' hz
        rcases hq with ⟨h1, h2⟩ | h1
        · gi_wp2
          refine ⟨trivial, (callsIn_wide.2 (allBytes_any 181 figB egFig isFigure_any s hs _)).mono ?_⟩
          rintro e w1 ⟨rfl, hb⟩
          rw [unhid Hall]
          have hb' : Below (w.heap.size + 1 + 1 + 1) (((w.alloc (.cells #[.int .i64 most] 3)).alloc (.cells #[.int .i64 0] 3)).alloc (.cells #[.bool false] 4)) w1 := hb.mono (by simp)
          have hz3 : w.heap.size + 1 + 1 + 1 ≤ w1.heap.size := by have := hb.size; simpa using this
          have hB1 := (unhid HB0).trans (hb'.mono (by omega))
          have c0 : w1.cell? ⟨w.heap.size, 0, none⟩ = some (.int .i64 most) := (hb'.cell (p := ⟨w.heap.size, 0, none⟩) (by simp; omega)).trans (by simp [go_sem])
          have c1 : w1.cell? ⟨w.heap.size + 1, 0, none⟩ = some (.int .i64 0) := (hb'.cell (p := ⟨w.heap.size + 1, 0, none⟩) (by simp)).trans (by simp [go_sem])
          have c2 : w1.cell? ⟨w.heap.size + 1 + 1, 0, none⟩ = some (.bool false) := (hb'.cell (p := ⟨w.heap.size + 1 + 1, 0, none⟩) (by simp)).trans (by simp [go_sem])
          have d1 : w1.frozen? ⟨w.heap.size + 1, 0, none⟩ = false := (hb'.frozen (p := ⟨w.heap.size + 1, 0, none⟩) (by simp)).trans (by simp [go_sem])
          have d2 : w1.frozen? ⟨w.heap.size + 1 + 1, 0, none⟩ = false := (hb'.frozen (p := ⟨w.heap.size + 1 + 1, 0, none⟩) (by simp)).trans (by simp [go_sem])
          clear hb hb'
          have HC := hid (And.intro hB1 (And.intro c0 (And.intro c1 (And.intro c2 (And.intro d1 d2)))))
          clear hB1 c0 c1 c2 d1 d2
          gi_wp2_with (refine ⟨trivial, ?_⟩; gi_at_call 229; refine (bytesOf_in Fence.wide _ trivial rfl _ _).mono ?_; rintro e w' ⟨rfl, rfl⟩)
          obtain ⟨hB1, c0, c1, c2, d1, d2⟩ := unhid HC
          have n0 := cell_new_l w1 (.int .i64 0) 3
          have n1 := cell_new_l (w1.alloc (.cells #[.int .i64 0] 3)) (.string s) 9
          simp only [World.size_alloc] at n1
          have hB2 : Below w.heap.size w ((w1.alloc (.cells #[.int .i64 0] 3)).alloc (.cells #[.string s] 9)) := (hB1.alloc (by omega) _).alloc (by simp; omega) _
          refine wpIn_rangeFunc_ownF rfl (by omega) (gf := 265) (lb := #[.pointer (some ⟨w1.heap.size + 1, 0, none⟩)]) rfl trivial (enters_of Tryz.func265 (by kernel_rfl) rfl)
            (bytes_stops Fence.wide _ trivial rfl (by omega) (w1.heap.size + 1) s hs _ (by simp) n1.1) Keeps.t (Keeps.b) (Below.refl _ _) (fun _ => rfl)
            (fun pre W => ((valI pre ≤ most ∧ W.cell? ⟨w1.heap.size, 0, none⟩ = some (.int .i64 (valI pre)) ∧ W.frozen? ⟨w1.heap.size, 0, none⟩ = false) ∧ W.cell? ⟨w.heap.size, 0, none⟩ = some (.int .i64 most) ∧ (W.cell? ⟨w.heap.size + 1, 0, none⟩ = some (.int .i64 0) ∧ W.frozen? ⟨w.heap.size + 1, 0, none⟩ = false) ∧ W.cell? ⟨w.heap.size + 1 + 1, 0, none⟩ = some (.bool false) ∧ W.frozen? ⟨w.heap.size + 1 + 1, 0, none⟩ = false) ∧ Below w.heap.size w W)
            (fun c pre W => ((c = .ret ∧ most < valI pre) ∧ W.cell? ⟨w.heap.size + 1, 0, none⟩ = some (.int .i64 0) ∧ W.cell? ⟨w.heap.size + 1 + 1, 0, none⟩ = some (.bool false)) ∧ Below w.heap.size w W)
            (OwnFrom.and (Own.from (fun s A B row hs hg hr => ⟨⟨hs.1.1, cell_kept hs.1.2.1 hg hr, (frozen_kept hs.1.2.1 hg hr).trans hs.1.2.2⟩, cell_kept hs.2.1 hg hr, ⟨cell_kept hs.2.2.1.1 hg hr, (frozen_kept hs.2.2.1.1 hg hr).trans hs.2.2.1.2⟩, cell_kept hs.2.2.2.1 hg hr, (frozen_kept hs.2.2.2.1 hg hr).trans hs.2.2.2.2⟩) _) (ownFrom_below (Nat.le_refl _) (by simp; omega)))
            (fun c => OwnFrom.and (Own.from (fun s A B row hs hg hr => ⟨hs.1, cell_kept hs.2.1 hg hr, cell_kept hs.2.2 hg hr⟩) _) (ownFrom_below (Nat.le_refl _) (by simp; omega)))
            ⟨⟨⟨hm0, cell_alloc_l _ n0.1, frozen_alloc_l _ n0.1 n0.2⟩, cell_alloc_l _ (cell_alloc_l _ c0), ⟨cell_alloc_l _ (cell_alloc_l _ c1), frozen_alloc_l _ (cell_alloc_l _ c1) (frozen_alloc_l _ c1 d1)⟩, cell_alloc_l _ (cell_alloc_l _ c2), frozen_alloc_l _ (cell_alloc_l _ c2) (frozen_alloc_l _ c2 d2)⟩, hB2⟩
            (fun x => { tmps := #[.string s, .int .i64 most, undef, .pointer (some ⟨w.heap.size, 0, none⟩), .pointer (some ⟨w.heap.size + 1, 0, none⟩), .pointer (some ⟨w.heap.size + 1 + 1, 0, none⟩), .pointer (some ⟨w1.heap.size, 0, none⟩), .int .u8 x.toNat, .string s, .bool false, .bool false, .string s, .int .i64 s.size, .bool true, .bool true, .string s, .int .u8 (s[0]).toNat, .bool false, .bool false, .bool false, .bool false, .string s, .bool true, .bool false, .bool false, .string s, .func (.func 265) #[] #[.pointer (some ⟨w1.heap.size + 1, 0, none⟩)], .int .u8 x.toNat, undef, undef, undef, undef, undef, undef, undef, undef, undef, undef], defers := [] }) ?assign ?body ?done ?stop
          case assign =>
            intro l x W K hK
            gi_wp2
            exact hK
          case body =>
            rintro l pre x W ⟨⟨⟨hv, hn, fn⟩, k0, ⟨k1, e1⟩, k2, e2⟩, hB⟩ _
            have hv0 := valI_nn pre
            have hd := digI_nn x
            have ed : ((x.toNat : Int) - 48) % 256 = digI x := rfl
            have Hs := hid (valI_snoc pre x)
            clear c0 c1 c2 d1 d2 n0 n1 hB1 hB2
            by_cases hgt : most < valI pre * 10 + digI x
            · gi_wp2
              refine ⟨((KeepsOthers.setCell _ _ _).trans (KeepsOthers.setCell _ _ _)).trans (KeepsOthers.setCell _ _ _), ⟨⟨rfl, by rw [unhid Hs]; exact hgt⟩, ?_, ?_⟩, ((hB.setCell (p := ⟨w1.heap.size, 0, none⟩) (by simp; omega) _).setCell (p := ⟨w.heap.size + 1, 0, none⟩) (by simp) _).setCell (p := ⟨w.heap.size + 1 + 1, 0, none⟩) (by simp; omega) _⟩
              · exact (set_far _ _ _ _ (by omega)).trans (set_same ((set_far _ _ _ _ (by omega)).trans k1))
              · exact set_same ((set_far _ _ _ _ (by omega)).trans ((set_far _ _ _ _ (by omega)).trans k2))
            · gi_wp2
              refine ⟨KeepsOthers.setCell _ _ _, Keeps.setCell _ _ _ (by simp), ⟨⟨by rw [unhid Hs]; omega, by rw [unhid Hs]; exact set_same hn, by rw [World.frozen?_setCell]; exact fn⟩, (set_far _ _ _ _ (by omega)).trans k0, ⟨(set_far _ _ _ _ (by omega)).trans k1, by rw [World.frozen?_setCell]; exact e1⟩, (set_far _ _ _ _ (by omega)).trans k2, by rw [World.frozen?_setCell]; exact e2⟩, hB.setCell (p := ⟨w1.heap.size, 0, none⟩) (by simp; omega) _⟩
          case done =>
            rintro D ys W hD rfl ⟨⟨⟨hv, hn, fn⟩, k0, ⟨k1, e1⟩, k2, e2⟩, hB⟩ hK
            clear c0 c1 c2 d1 d2 n0 n1 hB1 hB2
            have hok : numOk s.data.toList most = true := by simp [numOk, unhid Hpl, hv]
            have Hok := hid hok
            clear hok
            gi_wp2
            have hK' := ((KeepsOthers.setCell W ⟨w.heap.size + 1, 0, none⟩ (.int .i64 (valI s.data.toList))).trans (KeepsOthers.setCell _ ⟨w.heap.size + 1 + 1, 0, none⟩ (.bool true))).same D _ hK rfl
            refine ⟨by simp, .inl ⟨_, _, rfl, run_takeDeferred hK', ?_⟩⟩
            have r1 : ((W.setCell ⟨w.heap.size + 1, 0, none⟩ (.int .i64 (valI s.data.toList))).setCell ⟨w.heap.size + 1 + 1, 0, none⟩ (.bool true)).cell? ⟨w.heap.size + 1, 0, none⟩ = some (.int .i64 (valI s.data.toList)) := (set_far _ _ _ _ (by omega)).trans (set_same k1)
            have r2 : ((W.setCell ⟨w.heap.size + 1, 0, none⟩ (.int .i64 (valI s.data.toList))).setCell ⟨w.heap.size + 1 + 1, 0, none⟩ (.bool true)).cell? ⟨w.heap.size + 1 + 1, 0, none⟩ = some (.bool true) := set_same ((set_far _ _ _ _ (by omega)).trans k2)
            have s1 := cell_kept r1 (grownBy_putObj' _ D (.deferred none)) (fun r e => by cases e; exact ⟨_, hK', rfl⟩)
            have s2 := cell_kept r2 (grownBy_putObj' _ D (.deferred none)) (fun r e => by cases e; exact ⟨_, hK', rfl⟩)
            refine ⟨.tuple #[.int .i64 (valI s.data.toList), .bool true], ?_, ?_, ((hB.setCell (p := ⟨w.heap.size + 1, 0, none⟩) (by simp) _).setCell (p := ⟨w.heap.size + 1 + 1, 0, none⟩) (by simp; omega) _).trans (belowK_b (w := w) (Nat.le_refl _) _ D _ _ (by simp at hD; omega) hK' rfl rfl)⟩
            · simp [results, Tryz.f241, go_sem, s1, s2]
            · rw [numVal, unhid Hok]; rfl
          case stop =>
            rintro D c pre W hD hpre ⟨⟨⟨rfl, hgt⟩, k1, k2⟩, hB⟩ hK
            clear c0 c1 c2 d1 d2 n0 n1 hB1 hB2
            have hno : numOk s.data.toList most = false := by
              have := valI_pre hpre
              simp [numOk]; intro; omega
            have Hno := hid hno
            clear hno
            gi_wp2
            refine ⟨by simp, .inl ⟨_, _, rfl, run_takeDeferred hK, ?_⟩⟩
            have s1 := cell_kept k1 (grownBy_putObj' _ D (.deferred none)) (fun r e => by cases e; exact ⟨_, hK, rfl⟩)
            have s2 := cell_kept k2 (grownBy_putObj' _ D (.deferred none)) (fun r e => by cases e; exact ⟨_, hK, rfl⟩)
            refine ⟨.tuple #[.int .i64 0, .bool false], ?_, ?_, hB.trans (belowK_b (w := w) (Nat.le_refl _) W D _ _ (by simp at hD; omega) hK rfl rfl)⟩
            · simp [results, Tryz.f241, go_sem, s1, s2]
            · rw [numVal, unhid Hno]; rfl
        · gi_wp2
          refine ⟨trivial, (callsIn_wide.2 (allBytes_any 181 figB egFig isFigure_any s hs _)).mono ?_⟩
          rintro e w1 ⟨rfl, hb⟩
          rw [unhid Hall]
          have hb' : Below (w.heap.size + 1 + 1 + 1) (((w.alloc (.cells #[.int .i64 most] 3)).alloc (.cells #[.int .i64 0] 3)).alloc (.cells #[.bool false] 4)) w1 := hb.mono (by simp)
          have hz3 : w.heap.size + 1 + 1 + 1 ≤ w1.heap.size := by have := hb.size; simpa using this
          have hB1 := (unhid HB0).trans (hb'.mono (by omega))
          have c0 : w1.cell? ⟨w.heap.size, 0, none⟩ = some (.int .i64 most) := (hb'.cell (p := ⟨w.heap.size, 0, none⟩) (by simp; omega)).trans (by simp [go_sem])
          have c1 : w1.cell? ⟨w.heap.size + 1, 0, none⟩ = some (.int .i64 0) := (hb'.cell (p := ⟨w.heap.size + 1, 0, none⟩) (by simp)).trans (by simp [go_sem])
          have c2 : w1.cell? ⟨w.heap.size + 1 + 1, 0, none⟩ = some (.bool false) := (hb'.cell (p := ⟨w.heap.size + 1 + 1, 0, none⟩) (by simp)).trans (by simp [go_sem])
          have d1 : w1.frozen? ⟨w.heap.size + 1, 0, none⟩ = false := (hb'.frozen (p := ⟨w.heap.size + 1, 0, none⟩) (by simp)).trans (by simp [go_sem])
          have d2 : w1.frozen? ⟨w.heap.size + 1 + 1, 0, none⟩ = false := (hb'.frozen (p := ⟨w.heap.size + 1 + 1, 0, none⟩) (by simp)).trans (by simp [go_sem])
          clear hb hb'
          have HC := hid (And.intro hB1 (And.intro c0 (And.intro c1 (And.intro c2 (And.intro d1 d2)))))
          clear hB1 c0 c1 c2 d1 d2
          gi_wp2_with (refine ⟨trivial, ?_⟩; gi_at_call 229; refine (bytesOf_in Fence.wide _ trivial rfl _ _).mono ?_; rintro e w' ⟨rfl, rfl⟩)
          obtain ⟨hB1, c0, c1, c2, d1, d2⟩ := unhid HC
          have n0 := cell_new_l w1 (.int .i64 0) 3
          have n1 := cell_new_l (w1.alloc (.cells #[.int .i64 0] 3)) (.string s) 9
          simp only [World.size_alloc] at n1
          have hB2 : Below w.heap.size w ((w1.alloc (.cells #[.int .i64 0] 3)).alloc (.cells #[.string s] 9)) := (hB1.alloc (by omega) _).alloc (by simp; omega) _
          refine wpIn_rangeFunc_ownF rfl (by omega) (gf := 265) (lb := #[.pointer (some ⟨w1.heap.size + 1, 0, none⟩)]) rfl trivial (enters_of Tryz.func265 (by kernel_rfl) rfl)
            (bytes_stops Fence.wide _ trivial rfl (by omega) (w1.heap.size + 1) s hs _ (by simp) n1.1) Keeps.t (Keeps.b) (Below.refl _ _) (fun _ => rfl)
            (fun pre W => ((valI pre ≤ most ∧ W.cell? ⟨w1.heap.size, 0, none⟩ = some (.int .i64 (valI pre)) ∧ W.frozen? ⟨w1.heap.size, 0, none⟩ = false) ∧ W.cell? ⟨w.heap.size, 0, none⟩ = some (.int .i64 most) ∧ (W.cell? ⟨w.heap.size + 1, 0, none⟩ = some (.int .i64 0) ∧ W.frozen? ⟨w.heap.size + 1, 0, none⟩ = false) ∧ W.cell? ⟨w.heap.size + 1 + 1, 0, none⟩ = some (.bool false) ∧ W.frozen? ⟨w.heap.size + 1 + 1, 0, none⟩ = false) ∧ Below w.heap.size w W)
            (fun c pre W => ((c = .ret ∧ most < valI pre) ∧ W.cell? ⟨w.heap.size + 1, 0, none⟩ = some (.int .i64 0) ∧ W.cell? ⟨w.heap.size + 1 + 1, 0, none⟩ = some (.bool false)) ∧ Below w.heap.size w W)
            (OwnFrom.and (Own.from (fun s A B row hs hg hr => ⟨⟨hs.1.1, cell_kept hs.1.2.1 hg hr, (frozen_kept hs.1.2.1 hg hr).trans hs.1.2.2⟩, cell_kept hs.2.1 hg hr, ⟨cell_kept hs.2.2.1.1 hg hr, (frozen_kept hs.2.2.1.1 hg hr).trans hs.2.2.1.2⟩, cell_kept hs.2.2.2.1 hg hr, (frozen_kept hs.2.2.2.1 hg hr).trans hs.2.2.2.2⟩) _) (ownFrom_below (Nat.le_refl _) (by simp; omega)))
            (fun c => OwnFrom.and (Own.from (fun s A B row hs hg hr => ⟨hs.1, cell_kept hs.2.1 hg hr, cell_kept hs.2.2 hg hr⟩) _) (ownFrom_below (Nat.le_refl _) (by simp; omega)))
            ⟨⟨⟨hm0, cell_alloc_l _ n0.1, frozen_alloc_l _ n0.1 n0.2⟩, cell_alloc_l _ (cell_alloc_l _ c0), ⟨cell_alloc_l _ (cell_alloc_l _ c1), frozen_alloc_l _ (cell_alloc_l _ c1) (frozen_alloc_l _ c1 d1)⟩, cell_alloc_l _ (cell_alloc_l _ c2), frozen_alloc_l _ (cell_alloc_l _ c2) (frozen_alloc_l _ c2 d2)⟩, hB2⟩
            (fun x => { tmps := #[.string s, .int .i64 most, undef, .pointer (some ⟨w.heap.size, 0, none⟩), .pointer (some ⟨w.heap.size + 1, 0, none⟩), .pointer (some ⟨w.heap.size + 1 + 1, 0, none⟩), .pointer (some ⟨w1.heap.size, 0, none⟩), .int .u8 x.toNat, .string s, .bool false, .bool false, .string s, .int .i64 s.size, .bool false, .bool false, undef, undef, undef, .bool false, .bool false, .bool false, .string s, .bool true, .bool false, .bool false, .string s, .func (.func 265) #[] #[.pointer (some ⟨w1.heap.size + 1, 0, none⟩)], .int .u8 x.toNat, undef, undef, undef, undef, undef, undef, undef, undef, undef, undef], defers := [] }) ?assign ?body ?done ?stop
          case assign =>
            intro l x W K hK
            gi_wp2
            exact hK
          case body =>
            rintro l pre x W ⟨⟨⟨hv, hn, fn⟩, k0, ⟨k1, e1⟩, k2, e2⟩, hB⟩ _
            have hv0 := valI_nn pre
            have hd := digI_nn x
            have ed : ((x.toNat : Int) - 48) % 256 = digI x := rfl
            have Hs := hid (valI_snoc pre x)
            clear c0 c1 c2 d1 d2 n0 n1 hB1 hB2
            by_cases hgt : most < valI pre * 10 + digI x
            · gi_wp2
              refine ⟨((KeepsOthers.setCell _ _ _).trans (KeepsOthers.setCell _ _ _)).trans (KeepsOthers.setCell _ _ _), ⟨⟨rfl, by rw [unhid Hs]; exact hgt⟩, ?_, ?_⟩, ((hB.setCell (p := ⟨w1.heap.size, 0, none⟩) (by simp; omega) _).setCell (p := ⟨w.heap.size + 1, 0, none⟩) (by simp) _).setCell (p := ⟨w.heap.size + 1 + 1, 0, none⟩) (by simp; omega) _⟩
              · exact (set_far _ _ _ _ (by omega)).trans (set_same ((set_far _ _ _ _ (by omega)).trans k1))
              · exact set_same ((set_far _ _ _ _ (by omega)).trans ((set_far _ _ _ _ (by omega)).trans k2))
            · gi_wp2
              refine ⟨KeepsOthers.setCell _ _ _, Keeps.setCell _ _ _ (by simp), ⟨⟨by rw [unhid Hs]; omega, by rw [unhid Hs]; exact set_same hn, by rw [World.frozen?_setCell]; exact fn⟩, (set_far _ _ _ _ (by omega)).trans k0, ⟨(set_far _ _ _ _ (by omega)).trans k1, by rw [World.frozen?_setCell]; exact e1⟩, (set_far _ _ _ _ (by omega)).trans k2, by rw [World.frozen?_setCell]; exact e2⟩, hB.setCell (p := ⟨w1.heap.size, 0, none⟩) (by simp; omega) _⟩
          case done =>
            rintro D ys W hD rfl ⟨⟨⟨hv, hn, fn⟩, k0, ⟨k1, e1⟩, k2, e2⟩, hB⟩ hK
            clear c0 c1 c2 d1 d2 n0 n1 hB1 hB2
            have hok : numOk s.data.toList most = true := by simp [numOk, unhid Hpl, hv]
            have Hok := hid hok
            clear hok
            gi_wp2
            have hK' := ((KeepsOthers.setCell W ⟨w.heap.size + 1, 0, none⟩ (.int .i64 (valI s.data.toList))).trans (KeepsOthers.setCell _ ⟨w.heap.size + 1 + 1, 0, none⟩ (.bool true))).same D _ hK rfl
            refine ⟨by simp, .inl ⟨_, _, rfl, run_takeDeferred hK', ?_⟩⟩
            have r1 : ((W.setCell ⟨w.heap.size + 1, 0, none⟩ (.int .i64 (valI s.data.toList))).setCell ⟨w.heap.size + 1 + 1, 0, none⟩ (.bool true)).cell? ⟨w.heap.size + 1, 0, none⟩ = some (.int .i64 (valI s.data.toList)) := (set_far _ _ _ _ (by omega)).trans (set_same k1)
            have r2 : ((W.setCell ⟨w.heap.size + 1, 0, none⟩ (.int .i64 (valI s.data.toList))).setCell ⟨w.heap.size + 1 + 1, 0, none⟩ (.bool true)).cell? ⟨w.heap.size + 1 + 1, 0, none⟩ = some (.bool true) := set_same ((set_far _ _ _ _ (by omega)).trans k2)
            have s1 := cell_kept r1 (grownBy_putObj' _ D (.deferred none)) (fun r e => by cases e; exact ⟨_, hK', rfl⟩)
            have s2 := cell_kept r2 (grownBy_putObj' _ D (.deferred none)) (fun r e => by cases e; exact ⟨_, hK', rfl⟩)
            refine ⟨.tuple #[.int .i64 (valI s.data.toList), .bool true], ?_, ?_, ((hB.setCell (p := ⟨w.heap.size + 1, 0, none⟩) (by simp) _).setCell (p := ⟨w.heap.size + 1 + 1, 0, none⟩) (by simp; omega) _).trans (belowK_b (w := w) (Nat.le_refl _) _ D _ _ (by simp at hD; omega) hK' rfl rfl)⟩
            · simp [results, Tryz.f241, go_sem, s1, s2]
            · rw [numVal, unhid Hok]; rfl
          case stop =>
            rintro D c pre W hD hpre ⟨⟨⟨rfl, hgt⟩, k1, k2⟩, hB⟩ hK
            clear c0 c1 c2 d1 d2 n0 n1 hB1 hB2
            have hno : numOk s.data.toList most = false := by
              have := valI_pre hpre
              simp [numOk]; intro; omega
            have Hno := hid hno
            clear hno
            gi_wp2
            refine ⟨by simp, .inl ⟨_, _, rfl, run_takeDeferred hK, ?_⟩⟩
            have s1 := cell_kept k1 (grownBy_putObj' _ D (.deferred none)) (fun r e => by cases e; exact ⟨_, hK, rfl⟩)
            have s2 := cell_kept k2 (grownBy_putObj' _ D (.deferred none)) (fun r e => by cases e; exact ⟨_, hK, rfl⟩)
            refine ⟨.tuple #[.int .i64 0, .bool false], ?_, ?_, hB.trans (belowK_b (w := w) (Nat.le_refl _) W D _ _ (by simp at hD; omega) hK rfl rfl)⟩
            · simp [results, Tryz.f241, go_sem, s1, s2]
            · rw [numVal, unhid Hno]; rfl
end Go.Proofs.YtoihhlkidlapmaaGreat

namespace Go.Proofs.YtoihhlkidlapmaaGreat
open Go.RowKit Go.Shelf
attribute [local go_sem] Oper.semAt_some
def versOk (l : List UInt8) : Bool := decide ((cutB 46 l).length ≤ 4) && (cutB 46 l).all fun p => numOk p 999
def versL (l : List UInt8) : List Int := (cutB 46 l).map valI
def numsOf (pre : List Str) : List Value := ((vals pre).map valI).map (Value.int .i64)
theorem numsOf_snoc (pre : List Str) (x : Str) : numsOf (pre ++ [x]) = numsOf pre ++ [.int .i64 (valI x.1.data.toList)] := by
  unfold numsOf
  rw [vals_snoc, List.map_append, List.map_append]; rfl
theorem info3 : (Tryz.prog.info? 3).map (fun i => (i.zero, i.size, i.bytes)) = some (some (.int .i64 0), 1, 8) := by kernel_rfl
theorem grown_of_belowV {W w1 : World} (h : Below W.heap.size W w1) (r : Option Nat) : W.grownBy w1 r := ⟨h.os, h.tape, h.output, h.size, fun k hk _ => h.block k hk⟩
theorem Boxed_belowV {W w1 : World} {B : Nat} {t : TypeId} {v : Value} (h : Boxed W B t v) (hb : Below W.heap.size W w1) : Boxed w1 B t v := h.kept (grown_of_belowV hb none) (by simp)
theorem ownsRow_belowV {W w1 : World} {base : Nat} {e : TypeId} {size : Nat} {v : Value} {n : Nat} {xs : List Value} (h : W.ownsRow base e size v n xs) (hb : Below W.heap.size W w1) : w1.ownsRow base e size v n xs :=
  h.kept (grown_of_belowV hb none) (by cases v.ownBlock <;> simp)
theorem ownsRow_shapeV {W : World} {base : Nat} {e : TypeId} {size : Nat} {v : Value} {n : Nat} {xs : List Value} (h : W.ownsRow base e size v n xs) : ∃ a cap, v = .slice a n cap := by
  rcases h.2 with ⟨rfl, rfl⟩ | ⟨g, cap, cur, rfl, _⟩
  · exact ⟨none, 0, rfl⟩
  · exact ⟨_, _, rfl⟩
theorem box_pastV {W w1 : World} {B B' : Nat} {t e : TypeId} {u v : Value} {n₀ size k : Nat} {xs : List Value} {tmp : Obj} (h : Boxed W B t u) (hte : t ≠ e) (hrow : W.ownsRow n₀ e size v k xs) (hgrow : (W.alloc tmp).grownBy w1 v.ownBlock) (hne : B ≠ B') (v' : Value) :
    Boxed (w1.setCell ⟨B', 0, none⟩ v') B t u := ((h.alloc tmp).kept hgrow (h.not_row hte hrow)).other hne v'
theorem keeps_twoV {W W' : World} {b c : Nat} {t u : TypeId} {x y : Value} (h1 : Boxed W b t x) (h2 : Boxed W' b t x) (g1 : Boxed W c u y) (g2 : Boxed W' c u y) : Keeps [b, c] W W' := by
  intro k hk v hv
  simp at hk
  rcases hk with rfl | rfl
  · rw [h1.cell] at hv; rw [h2.cell]; exact hv
  · rw [g1.cell] at hv; rw [g2.cell]; exact hv
set_option maxRecDepth 100000 in
set_option maxHeartbeats 4000000 in
theorem versionOf_any (s : ByteArray) (hs : s.size ≤ maxLen) (w : World) :
    Calls Tryz.prog 184 #[.string s] w fun e W' => ∃ v, e = .returned (.tuple #[v, .bool (versOk s.data.toList)]) ∧ (versOk s.data.toList = true → W'.ownsRow w.heap.size 3 1 v (versL s.data.toList).length ((versL s.data.toList).map (Value.int .i64))) ∧ (versOk s.data.toList = false → v = .slice none 0 0) ∧ Below w.heap.size w W' := by
  obtain ⟨i0, hi, hz0, hz1, hz2⟩ := info_parts info3
  refine (callsIn_wide (n := 4)).1 ?_
  refine callsIn_of_wp_marks Tryz.func184 rfl trivial ?_ rfl
  simp only [Tryz.ntmps184, List.size_toArray, List.length_cons, List.length_nil, Nat.reduceAdd, Nat.reduceSub, Array.replicate_succ, Array.replicate_zero, List.push_toArray, List.append_toArray, List.nil_append, List.cons_append]
  gi_wp2_with (refine ⟨trivial, ?_⟩; gi_at_call 102; refine (partsOf_in Fence.wide _ trivial rfl _ _ _).mono ?_; rintro e w' ⟨rfl, rfl⟩)
  have b0 := Boxed.new w 209 (.slice none 0 0)
  have b1 := Boxed.new (w.alloc (.cells #[.slice none 0 0] 209)) 4 (.bool false)
  have b2 := Boxed.new ((w.alloc (.cells #[.slice none 0 0] 209)).alloc (.cells #[.bool false] 4)) 209 (.slice none 0 0)
  have b3 := Boxed.new (((w.alloc (.cells #[.slice none 0 0] 209)).alloc (.cells #[.bool false] 4)).alloc (.cells #[.slice none 0 0] 209)) 9 (.string s)
  have b4 := Boxed.new ((((w.alloc (.cells #[.slice none 0 0] 209)).alloc (.cells #[.bool false] 4)).alloc (.cells #[.slice none 0 0] 209)).alloc (.cells #[.string s] 9)) 5 (.int .u8 46)
  simp only [World.size_alloc] at b1 b2 b3 b4
  have hB0 : Below w.heap.size w (((((w.alloc (.cells #[.slice none 0 0] 209)).alloc (.cells #[.bool false] 4)).alloc (.cells #[.slice none 0 0] 209)).alloc (.cells #[.string s] 9)).alloc (.cells #[.int .u8 46] 5)) := (((((Below.refl _ w).alloc (Nat.le_refl _) _).alloc (by simp) _).alloc (by simp; omega) _).alloc (by simp; omega) _).alloc (by simp; omega) _
  refine wpIn_rangeFunc_ownF rfl (by omega) (gf := 169) (lb := #[.pointer (some ⟨w.heap.size + 1 + 1 + 1, 0, none⟩), .pointer (some ⟨w.heap.size + 1 + 1 + 1 + 1, 0, none⟩)]) rfl trivial (enters_of Tryz.func169 (by kernel_rfl) rfl)
    (parts_stops Fence.wide _ trivial trivial rfl (by omega) (fun s c w => callsIn_wide.2 (IndexByteU_any s c w)) (w.heap.size + 1 + 1 + 1) (w.heap.size + 1 + 1 + 1 + 1) s 46 hs _ (by simp) (by simp) (b3.alloc _).cell b4.cell) Keeps.t (Keeps.b) (Below.refl _ _) (fun _ => rfl)
    (fun pre W => ((∃ v, Boxed W (w.heap.size + 1 + 1) 209 v ∧ W.ownsRow w.heap.size 3 1 v pre.length (numsOf pre) ∧ (pre.length ≤ 4 ∧ ((vals pre).all fun p => numOk p 999) = true)) ∧ (Boxed W w.heap.size 209 (.slice none 0 0) ∧ Boxed W (w.heap.size + 1) 4 (.bool false) ∧ Boxed W (w.heap.size + 1 + 1 + 1) 9 (.string s) ∧ Boxed W (w.heap.size + 1 + 1 + 1 + 1) 5 (.int .u8 46))) ∧ Below w.heap.size w W)
    (fun c pre W => (c = .ret ∧ (4 < pre.length ∨ ∃ y ∈ vals pre, numOk y 999 = false) ∧ Boxed W w.heap.size 209 (.slice none 0 0) ∧ Boxed W (w.heap.size + 1) 4 (.bool false)) ∧ Below w.heap.size w W)
    (OwnFrom.and (OwnFrom.and (Own.from (holdsRow_own w.heap.size (w.heap.size + 1 + 1) 209 3 1 (fun pre => pre.length) (fun pre => numsOf pre) (fun pre _ => pre.length ≤ 4 ∧ ((vals pre).all fun p => numOk p 999) = true)) _)
      (Own.from (fun s X Y row hs hg hr => ⟨boxed_own _ _ (fun _ => _) s X Y row hs.1 hg hr, boxed_own _ _ (fun _ => _) s X Y row hs.2.1 hg hr, boxed_own _ _ (fun _ => _) s X Y row hs.2.2.1 hg hr, boxed_own _ _ (fun _ => _) s X Y row hs.2.2.2 hg hr⟩) _)) (ownFrom_below (Nat.le_refl _) (by simp; omega)))
    (fun c => OwnFrom.and (Own.from (fun s X Y row hs hg hr => ⟨hs.1, hs.2.1, boxed_own _ _ (fun _ => _) s X Y row hs.2.2.1 hg hr, boxed_own _ _ (fun _ => _) s X Y row hs.2.2.2 hg hr⟩) _) (ownFrom_below (Nat.le_refl _) (by simp; omega)))
    ⟨⟨⟨_, (b2.alloc _).alloc _, World.ownsRow_nil _ _ _ _, by simp, by simp⟩, (((b0.alloc _).alloc _).alloc _).alloc _, ((b1.alloc _).alloc _).alloc _, b3.alloc _, b4⟩, hB0⟩
    (fun x => { tmps := #[.string s, undef, .pointer (some ⟨w.heap.size, 0, none⟩), .pointer (some ⟨w.heap.size + 1, 0, none⟩), .pointer (some ⟨w.heap.size + 1 + 1, 0, none⟩), .string x.1, undef, undef, .string s, .func (.func 169) #[] #[.pointer (some ⟨w.heap.size + 1 + 1 + 1, 0, none⟩), .pointer (some ⟨w.heap.size + 1 + 1 + 1 + 1, 0, none⟩)], .string x.1, undef, undef, undef, undef, undef, undef, undef, undef, undef, undef, undef, undef, undef, undef, undef, undef, undef], defers := [] }) ?assign ?body ?done ?stop
  case assign =>
    intro l x W K hK
    gi_wp2
    exact hK
  case body =>
    clear b0 b1 b2 b3 b4 hB0
    rintro l pre x W ⟨⟨⟨v, hv, hrow, h4, hall⟩, k0, k1, k3, k4⟩, hB⟩ _
    obtain ⟨va, vcap, rfl⟩ := ownsRow_shapeV hrow
    have HI := hid (And.intro hv (And.intro hrow (And.intro k0 (And.intro k1 (And.intro k3 (And.intro k4 hB))))))
    clear hv hrow k0 k1 k3 k4 hB
    gi_wp2
    refine ⟨trivial, (CallsIn.inRound l (callsIn_wide.2 (numberOf_any x.1 x.2 999 (by omega) (by omega) _))).mono ?_⟩
    rintro e w1 ⟨rfl, hb⟩
    obtain ⟨hv0, hrow0, k00, k10, k30, k40, hB0⟩ := unhid HI
    have hv := Boxed_belowV hv0 hb
    have hrow := ownsRow_belowV hrow0 hb
    have k0 := Boxed_belowV k00 hb
    have k1 := Boxed_belowV k10 hb
    have k3 := Boxed_belowV k30 hb
    have k4 := Boxed_belowV k40 hb
    have hB := hB0.trans (hb.mono hB0.size)
    have hO := KeepsOthers_of_below hb
    have hK := keeps_twoV k30 k3 k40 k4
    clear hv0 hrow0 k00 k10 k30 k40 hB0 HI hb
    have hc := hv.cell
    have hf := hv.frozen
    have c0 := k0.cell
    have f0 := k0.frozen
    have c1 := k1.cell
    have f1 := k1.frozen
    cases hx : numOk x.1.data.toList 999
    · have HH := hid (And.intro k0 (And.intro k1 (And.intro hB hO)))
      clear hv hrow k0 k1 k3 k4 hB hO hK
      gi_wp2
      obtain ⟨k0, k1, hB, hO⟩ := unhid HH
      exact ⟨hO.trans ((KeepsOthers.setCell _ _ _).trans (KeepsOthers.setCell _ _ _)), ⟨rfl, .inr ⟨_, by rw [vals_snoc]; simp, hx⟩, (k0.set _).other (by omega) _, (k1.other (by omega) _).set _⟩, (hB.setCell (p := ⟨w.heap.size, 0, none⟩) (Nat.le_refl _) _).setCell (p := ⟨w.heap.size + 1, 0, none⟩) (by simp) _⟩
    · by_cases h44 : pre.length = 4
      · have h44' : ((pre.length : Int) == 4) = true := by simp [h44]
        have HH := hid (And.intro k0 (And.intro k1 (And.intro hB hO)))
        clear hv hrow k0 k1 k3 k4 hB hO hK
        gi_wp2
        obtain ⟨k0, k1, hB, hO⟩ := unhid HH
        exact ⟨hO.trans ((KeepsOthers.setCell _ _ _).trans (KeepsOthers.setCell _ _ _)), ⟨rfl, .inl (by simp; omega), (k0.set _).other (by omega) _, (k1.other (by omega) _).set _⟩, (hB.setCell (p := ⟨w.heap.size, 0, none⟩) (Nat.le_refl _) _).setCell (p := ⟨w.heap.size + 1, 0, none⟩) (by simp) _⟩
      · have h44' : ((pre.length : Int) == 4) = false := by rw [beq_eq_false_iff_ne]; omega
        have hnv : numVal x.1.data.toList 999 = valI x.1.data.toList := by simp [numVal, hx]
        have Hnv := hid hnv
        have HH := hid (And.intro hv (And.intro hrow (And.intro k0 (And.intro k1 (And.intro k3 (And.intro k4 (And.intro hB (And.intro hO hK))))))))
        have hrow' := hid hrow
        have hBs := hB.size
        clear hnv hv hrow k0 k1 k3 k4 hB hO hK c0 f0 c1 f1
        rw [unhid Hnv]
        gi_wp2_with (gi_at_builtin; refine wpListIn_append_own _ rfl _ _ 209 rfl w.heap.size 3 i0 (.int .i64 0) 1 8 Tryz.underlying209 hi hz0 hz1 hz2 rfl (by decide) _ _ _ rfl ((unhid hrow').alloc _) ⟨w1.heap.size, 0, none⟩ 1 1 [.int .i64 (valI x.1.data.toList)] rfl rfl ?c1 ?c2 ?c3 ?c4 ?c5 ?_)
        case c1 => exact cell_one_new _ _ _
        case c2 => intro u hu; simp at hu; subst hu; rfl
        case c3 => unfold maxLen; omega
        case c4 => omega
        case c5 => simp; omega
        intro v' w2 hown' hgrow _
        obtain ⟨g', cap', rfl⟩ := ownsRow_succ hown'
        obtain ⟨hv, hrow, k0, k1, k3, k4, hB, hO, hK⟩ := unhid HH
        obtain ⟨hv1, hv2, hr2, hk2, hb2⟩ := hv.appended (by decide) hrow hB.size (by omega) hown' hgrow
        have q0 := box_pastV k0 (by decide) hrow hgrow (show w.heap.size ≠ w.heap.size + 1 + 1 by omega) (.slice (some ⟨g', 0, none⟩) (pre.length + 1) cap')
        have q1 := box_pastV k1 (by decide) hrow hgrow (show w.heap.size + 1 ≠ w.heap.size + 1 + 1 by omega) (.slice (some ⟨g', 0, none⟩) (pre.length + 1) cap')
        have q3 := box_pastV k3 (by decide) hrow hgrow (show w.heap.size + 1 + 1 + 1 ≠ w.heap.size + 1 + 1 by omega) (.slice (some ⟨g', 0, none⟩) (pre.length + 1) cap')
        have q4 := box_pastV k4 (by decide) hrow hgrow (show w.heap.size + 1 + 1 + 1 + 1 ≠ w.heap.size + 1 + 1 by omega) (.slice (some ⟨g', 0, none⟩) (pre.length + 1) cap')
        have hc1 := hv1.cell
        have hf1 := hv1.frozen
        have HF := hid (show KeepsOthers W (w2.setCell ⟨w.heap.size + 1 + 1, 0, none⟩ (.slice (some ⟨g', 0, none⟩) (pre.length + 1) cap')) ∧ Keeps [w.heap.size + 1 + 1 + 1, w.heap.size + 1 + 1 + 1 + 1] W (w2.setCell ⟨w.heap.size + 1 + 1, 0, none⟩ (.slice (some ⟨g', 0, none⟩) (pre.length + 1) cap')) ∧
          ((∃ v, Boxed (w2.setCell ⟨w.heap.size + 1 + 1, 0, none⟩ (.slice (some ⟨g', 0, none⟩) (pre.length + 1) cap')) (w.heap.size + 1 + 1) 209 v ∧ (w2.setCell ⟨w.heap.size + 1 + 1, 0, none⟩ (.slice (some ⟨g', 0, none⟩) (pre.length + 1) cap')).ownsRow w.heap.size 3 1 v (pre ++ [x]).length (numsOf (pre ++ [x])) ∧ ((pre ++ [x]).length ≤ 4 ∧ ((vals (pre ++ [x])).all fun p => numOk p 999) = true)) ∧ (Boxed (w2.setCell ⟨w.heap.size + 1 + 1, 0, none⟩ (.slice (some ⟨g', 0, none⟩) (pre.length + 1) cap')) w.heap.size 209 (.slice none 0 0) ∧ Boxed (w2.setCell ⟨w.heap.size + 1 + 1, 0, none⟩ (.slice (some ⟨g', 0, none⟩) (pre.length + 1) cap')) (w.heap.size + 1) 4 (.bool false) ∧ Boxed (w2.setCell ⟨w.heap.size + 1 + 1, 0, none⟩ (.slice (some ⟨g', 0, none⟩) (pre.length + 1) cap')) (w.heap.size + 1 + 1 + 1) 9 (.string s) ∧ Boxed (w2.setCell ⟨w.heap.size + 1 + 1, 0, none⟩ (.slice (some ⟨g', 0, none⟩) (pre.length + 1) cap')) (w.heap.size + 1 + 1 + 1 + 1) 5 (.int .u8 46))) ∧ Below w.heap.size w (w2.setCell ⟨w.heap.size + 1 + 1, 0, none⟩ (.slice (some ⟨g', 0, none⟩) (pre.length + 1) cap')) from
          ⟨hO.trans hk2, hK.t (keeps_twoV k3 q3 k4 q4), ⟨⟨_, hv2, by rw [numsOf_snoc, List.length_append]; exact hr2, by simp; omega, by rw [vals_snoc, List.all_append, hall]; simp [hx]⟩, q0, q1, q3, q4⟩, hB.trans hb2⟩)
        clear hv hrow k0 k1 k3 k4 hB hO hK hv1 hv2 hr2 hk2 hb2 q0 q1 q3 q4 hown' hgrow HH hrow'
        gi_wp2
        exact unhid HF
  case done =>
    clear b0 b1 b2 b3 b4 hB0
    rintro D ys W hD hys ⟨⟨⟨v, hv, hrow, h4, hall⟩, k0, k1, k3, k4⟩, hB⟩ hK
    obtain ⟨va, vcap, rfl⟩ := ownsRow_shapeV hrow
    have hlen : (cutB 46 s.data.toList).length = ys.length := by rw [← hys]; simp [vals]
    have hok : versOk s.data.toList = true := by
      unfold versOk
      rw [hlen, ← hys, hall]; simp [h4]
    have hL : (versL s.data.toList).map (Value.int .i64) = numsOf ys := by rw [versL, numsOf, hys]
    have hLl : (versL s.data.toList).length = ys.length := by rw [versL, List.length_map, hlen]
    have hc := hv.cell
    have hf := hv.frozen
    have c0 := k0.cell
    have f0 := k0.frozen
    have c1 := k1.cell
    have f1 := k1.frozen
    have hK' := ((KeepsOthers.setCell W ⟨w.heap.size, 0, none⟩ (.slice va ys.length vcap)).trans (KeepsOthers.setCell _ ⟨w.heap.size + 1, 0, none⟩ (.bool true))).same D _ hK rfl
    have r0 := ((k0.set (.slice va ys.length vcap)).other (show w.heap.size ≠ w.heap.size + 1 by omega) (.bool true))
    have r1 := ((k1.other (show w.heap.size + 1 ≠ w.heap.size by omega) (.slice va ys.length vcap)).set (.bool true))
    have rr := (hrow.kept (grownBy_setCell' W w.heap.size (.slice va ys.length vcap)) (.inr (k0.not_row (by decide) hrow).symm))
    have rr2 := rr.kept (grownBy_setCell' _ (w.heap.size + 1) (.bool true)) (.inr ((k1.other (show w.heap.size + 1 ≠ w.heap.size by omega) (.slice va ys.length vcap)).not_row (by decide) rr).symm)
    have hB2 := (hB.setCell (p := ⟨w.heap.size, 0, none⟩) (Nat.le_refl _) (.slice va ys.length vcap)).setCell (p := ⟨w.heap.size + 1, 0, none⟩) (by simp) (.bool true)
    have s0 := cell_kept r0.cell (grownBy_putObj' _ D (.deferred none)) (fun r e => by cases e; exact ⟨_, hK', rfl⟩)
    have s1 := cell_kept r1.cell (grownBy_putObj' _ D (.deferred none)) (fun r e => by cases e; exact ⟨_, hK', rfl⟩)
    have HA := hid (And.intro s0 (And.intro s1 (And.intro (ownsRow_putObj rr2 (.deferred none) hK' rfl) (And.intro hB2 (And.intro hK' (And.intro hok (And.intro hL hLl)))))))
    clear hv hrow k0 k1 k3 k4 hB hK' r0 r1 rr rr2 hB2 s0 s1 hok hL hLl hlen hys
    gi_wp2
    obtain ⟨s0, s1, ho, hB2, hK', hok, hL, hLl⟩ := unhid HA
    refine ⟨by simp, .inl ⟨_, _, rfl, run_takeDeferred hK', ?_⟩⟩
    refine ⟨.tuple #[.slice va ys.length vcap, .bool true], ?_, .slice va ys.length vcap, by rw [hok], fun _ => ?_, (fun h => by rw [hok] at h; cases h), hB2.trans (belowK_b (w := w) (Nat.le_refl _) _ D _ _ (by simp at hD; omega) hK' rfl rfl)⟩
    · simp [results, Tryz.f184, go_sem, s0, s1]
    · rw [hLl, hL]; exact ho
  case stop =>
    clear b0 b1 b2 b3 b4 hB0
    rintro D c pre W hD hpre ⟨⟨rfl, hbad, k0, k1⟩, hB⟩ hK
    have hno : versOk s.data.toList = false := by
      have hl := hpre.length_le
      unfold versOk
      rcases hbad with h | ⟨y, hy, hn⟩
      · rw [decide_eq_false (by simp [vals] at hl; omega)]; rfl
      · rw [List.all_eq_false.2 ⟨y, hpre.subset hy, by simp [hn]⟩]; simp
    have s0 := cell_kept k0.cell (grownBy_putObj' _ D (.deferred none)) (fun r e => by cases e; exact ⟨_, hK, rfl⟩)
    have s1 := cell_kept k1.cell (grownBy_putObj' _ D (.deferred none)) (fun r e => by cases e; exact ⟨_, hK, rfl⟩)
    have Hno := hid hno
    clear hno
    gi_wp2
    refine ⟨by simp, .inl ⟨_, _, rfl, run_takeDeferred hK, ?_⟩⟩
    refine ⟨.tuple #[.slice none 0 0, .bool false], ?_, .slice none 0 0, by rw [unhid Hno], (fun h => by rw [unhid Hno] at h; cases h), fun _ => rfl, hB.trans (belowK_b (w := w) (Nat.le_refl _) W D _ _ (by simp at hD; omega) hK rfl rfl)⟩
    simp [results, Tryz.f184, go_sem, s0, s1]
end Go.Proofs.YtoihhlkidlapmaaGreat

namespace Go.Proofs.YtoihhlkidlapmaaGreat
open Go.RowKit Go.Shelf
def numI (l : List UInt8) : Int := if plainNum l && decide (l.length ≤ 6) then valI l else -1
theorem foldl_pow (l : List UInt8) : ∀ a : Int, 0 ≤ a → a * 10 ^ l.length ≤ l.foldl (fun n c => n * 10 + digI c) a := by
  induction l with
  | nil => intro a _; simp
  | cons c l ih =>
    intro a ha
    have hd := digI_nn c
    have h := ih (a * 10 + digI c) (by omega)
    simp only [List.foldl_cons, List.length_cons]
    have hp : (0 : Int) ≤ 10 ^ l.length := Int.le_of_lt (Int.pow_pos (by omega))
    have e : a * 10 ^ (l.length + 1) = a * 10 * 10 ^ l.length := by rw [Int.pow_succ, Int.mul_comm (10 ^ l.length) 10, Int.mul_assoc]
    rw [e]
    refine Int.le_trans (Int.mul_le_mul_of_nonneg_right (by omega) hp) h
theorem long_num (l : List UInt8) (h : plainNum l = true) (hl : 6 < l.length) : 999 < valI l := by
  cases l with
  | nil => simp at hl
  | cons c l =>
    simp only [plainNum, Bool.and_eq_true, Bool.not_eq_true', List.all_cons] at h
    have h48 : ¬ c = 48 := by
      intro e
      have h2 := h.1.2
      have h3 : (decide (1 < (c :: l).length) && ((c :: l)[0]? == some 48)) = true := by
        rw [decide_eq_true (by omega), e]; simp
      rw [h3] at h2
      cases h2
    have hf : figB c.toNat = true := h.2.1
    simp only [figB, Bool.and_eq_true, decide_eq_true_eq] at hf
    have hne : (c.toNat : Int) ≠ 48 := fun e => h48 (UInt8.toNat_inj.1 (by simp; omega))
    have hd : 1 ≤ digI c := by unfold digI; omega
    have hp := foldl_pow l (digI c) (by omega)
    have hv : valI (c :: l) = l.foldl (fun n c => n * 10 + digI c) (digI c) := by simp [valI]
    rw [hv]
    have hlen : 6 ≤ l.length := by simp at hl; omega
    obtain ⟨m, hm⟩ : ∃ m, l.length = 6 + m := ⟨l.length - 6, by omega⟩
    have hpow : (1000000 : Int) ≤ 10 ^ l.length := by
      rw [hm, Int.pow_add]
      have : (1 : Int) ≤ 10 ^ m := Int.pow_pos (by omega)
      have h6 : (10 : Int) ^ 6 = 1000000 := by decide
      rw [h6]
      omega
    have : (10 : Int) ^ l.length ≤ digI c * 10 ^ l.length := by
      have h0 : (0 : Int) ≤ 10 ^ l.length := by omega
      have := Int.mul_le_mul_of_nonneg_right hd h0
      simpa using this
    omega
theorem num_in (l : List UInt8) : (decide (0 ≤ numI l) && decide (numI l ≤ 999)) = numOk l 999 := by
  have hn := valI_nn l
  unfold numI numOk
  cases hp : plainNum l
  · simp
  · by_cases hl : l.length ≤ 6
    · simp [hl, hn]
    · have := long_num l hp (by omega)
      simp [hl]; omega
theorem num_val (l : List UInt8) (h : numOk l 999 = true) : numI l = valI l := by
  have h2 := num_in l
  rw [h] at h2
  simp only [Bool.and_eq_true, decide_eq_true_eq] at h2
  unfold numI at h2 ⊢
  split
  · rfl
  · rename_i hc; rw [if_neg hc] at h2; omega
theorem all_take_lt {s : ByteArray} {k : Nat} (h : k < s.size) {p : UInt8 → Bool} (hp : p s[k] = false) : s.data.toList.all p = false :=
  List.all_eq_false.2 ⟨s[k], List.mem_of_getElem? (getByte s k h), by simp [hp]⟩
theorem take_val (s : ByteArray) (k : Nat) (h : k < s.size) : valI (s.data.toList.take (k + 1)) = valI (s.data.toList.take k) * 10 + digI s[k] := by rw [take_snoc s k h, valI_snoc]
theorem pow_six : ∀ n : Nat, n ≤ 6 → (10 : Int) ^ n ≤ 1000000 := by decide
theorem val_small (l : List UInt8) (h : l.all (fun c => figB c.toNat) = true) : valI l < 10 ^ l.length := by
  have : ∀ (l : List UInt8) (a : Int), l.all (fun c => figB c.toNat) = true → 0 ≤ a → l.foldl (fun n c => n * 10 + digI c) a < (a + 1) * 10 ^ l.length := by
    intro l
    induction l with
    | nil => intro a _ _; simp; omega
    | cons c l ih =>
      intro a h ha
      simp only [List.all_cons, Bool.and_eq_true] at h
      have hf := h.1
      simp only [figB, Bool.and_eq_true, decide_eq_true_eq] at hf
      have hd : 0 ≤ digI c ∧ digI c ≤ 9 := by unfold digI; omega
      have h2 := ih (a * 10 + digI c) h.2 (by omega)
      simp only [List.foldl_cons, List.length_cons]
      have hp : (0 : Int) ≤ 10 ^ l.length := Int.le_of_lt (Int.pow_pos (by omega))
      have e : (a + 1) * 10 ^ (l.length + 1) = (a + 1) * 10 * 10 ^ l.length := by rw [Int.pow_succ, Int.mul_comm (10 ^ l.length) 10, Int.mul_assoc]
      rw [e]
      exact Int.lt_of_lt_of_le h2 (Int.mul_le_mul_of_nonneg_right (by omega) hp)
  have h2 := this l 0 h (by omega)
  simpa [valI] using h2
set_option maxRecDepth 100000 in
set_option maxHeartbeats 1000000 in
theorem l1Num_any (s : ByteArray) (hs : s.size ≤ maxLen) (w : World) :
    Calls Tryz.prog 276 #[.string s] w fun e w' => e = .returned (.int .i64 (numI s.data.toList)) ∧ w' = w := by
  unfold maxLen at hs
  go_enter Tryz.func276, Tryz.ntmps276
  go_wp2
  go_loop [3, 4] (fun n i => ∃ k : Nat, k ≤ s.size ∧ k ≤ 6 ∧ i = .int .i64 k ∧ n = .int .i64 (valI (s.data.toList.take k)) ∧ Hid ((s.data.toList.take k).all (fun c => figB c.toNat) = true)) (fun _ i => s.size - (intOf i).toNat)
  case atStart => exact ⟨0, Nat.zero_le _, by omega, rfl, rfl, hid (by simp)⟩
  case round =>
    obtain ⟨k, hk, hk6, rfl, rfl, hall⟩ := hrel
    have v0 := valI_nn (s.data.toList.take k)
    have v1 : valI (s.data.toList.take k) ≤ 1000000 := by
      have h1 := val_small _ (unhid hall)
      have h2 : (s.data.toList.take k).length ≤ 6 := by have := List.length_take_le k s.data.toList; omega
      have h3 := pow_six _ h2
      omega
    by_cases hlt : k < s.size
    · have Hs := hid (take_val s k hlt)
      have Ha := hid (all_take_succ s k hlt (fun c => figB c.toNat))
      have hd := digI_nn s[k]
      have ed : ((s[k].toNat : Int) - 48) % 256 = digI s[k] := rfl
      have bad : figB (s[k].toNat : Int) = false → numI s.data.toList = -1 := fun hf => by
        have := all_take_lt hlt (p := fun c => figB c.toNat) hf
        unfold numI plainNum
        rw [this]; simp
      have Hbad := hid bad
      clear bad
      by_cases f1 : (s[k].toNat : Int) < 48
      · go_wp2
        go_ret
        exact ⟨by rw [unhid Hbad (by simp [figB]; omega)]; rfl, rfl⟩
      · by_cases f2 : (57 : Int) < s[k].toNat
        · go_wp2
          go_ret
          exact ⟨by rw [unhid Hbad (by simp [figB]; omega)]; rfl, rfl⟩
        · by_cases h6 : (6 : Int) ≤ k
          · go_wp2
            go_ret
            have : numI s.data.toList = -1 := by
              unfold numI
              rw [if_neg]; simp; intro _; omega
            exact ⟨by rw [this]; rfl, rfl⟩
          · have hfig : figB (s[k].toNat : Int) = true := by simp [figB]; omega
            have ed2 : digI s[k] = (s[k].toNat : Int) - 48 := by unfold digI; omega
            have Ed2 := hid ed2
            clear ed2
            go_wp2
            refine ⟨⟨k + 1, by omega, by omega, by go_num, ?_, hid ?_⟩, by simp [intOf]; omega⟩
            · rw [unhid Hs, unhid Ed2]
            · rw [unhid Ha, unhid hall, hfig]; rfl
    · have hall' : (s.data.toList.all fun c => figB c.toNat) = true := by
        have := unhid hall; rwa [List.take_of_length_le (by simp; omega)] at this
      have hval : s.data.toList.take k = s.data.toList := List.take_of_length_le (by simp; omega)
      have hlen : s.data.toList.length = s.size := (Lib.size_eq s).symm
      have Hall := hid hall'
      have Hval := hid hval
      have Hlen := hid hlen
      clear hall' hval hlen
      by_cases h0 : s.size = 0
      · have h0' : ((s.size : Int) == 0) = true := by simp [h0]
        go_wp2
        go_ret
        have : numI s.data.toList = -1 := by
          have he : s.data.toList = [] := List.length_eq_zero_iff.1 (by rw [unhid Hlen]; exact h0)
          rw [he]; rfl
        exact ⟨by rw [this]; rfl, rfl⟩
      · have h0' : ((s.size : Int) == 0) = false := by rw [beq_eq_false_iff_ne]; omega
        by_cases h1 : (1 : Int) < s.size
        · by_cases hz : s[0] = 48
          · have hz' : (((s[0]).toNat : Int) == 48) = true := by simp [hz]
            go_wp2
            go_ret
            have : numI s.data.toList = -1 := by
              have hg := getByte s 0 (by omega)
              unfold numI plainNum
              rw [hg, hz, unhid Hlen, decide_eq_true (show 1 < s.size by omega)]; simp
            exact ⟨by rw [this]; rfl, rfl⟩
          · have hz' : (((s[0]).toNat : Int) == 48) = false := by
              rw [beq_eq_false_iff_ne]; intro h; exact hz (UInt8.toNat_inj.1 (by simp; omega))
            go_wp2
            go_ret
            have : numI s.data.toList = valI s.data.toList := by
              have hg := getByte s 0 (by omega)
              have hne : s.data.toList.isEmpty = false := by rw [List.isEmpty_eq_false_iff, ← List.length_pos_iff, unhid Hlen]; omega
              have h48 : (some s[0] == some 48) = false := by simp [hz]
              unfold numI plainNum
              rw [hg, unhid Hall, unhid Hlen, hne, h48, decide_eq_true (show s.size ≤ 6 by omega)]; simp
            exact ⟨by rw [this, unhid Hval]; rfl, rfl⟩
        · go_wp2
          go_ret
          have : numI s.data.toList = valI s.data.toList := by
            have hne : s.data.toList.isEmpty = false := by rw [List.isEmpty_eq_false_iff, ← List.length_pos_iff, unhid Hlen]; omega
            unfold numI plainNum
            rw [unhid Hall, unhid Hlen, hne, decide_eq_true (show s.size ≤ 6 by omega), decide_eq_false (show ¬ 1 < s.size by omega)]; simp
          exact ⟨by rw [this, unhid Hval]; rfl, rfl⟩
theorem ownsRow_baseV {W : World} {base base' : Nat} {e : TypeId} {size : Nat} {v : Value} {n : Nat} {xs : List Value} (h : W.ownsRow base e size v n xs) (hb : base' ≤ base) : W.ownsRow base' e size v n xs := by
  rcases h.2 with h2 | ⟨g, cap, cur, hv, hg, rest⟩
  · exact ⟨h.1, .inl h2⟩
  · exact ⟨h.1, .inr ⟨g, cap, cur, hv, by omega, rest⟩⟩
def numsTake (xs : List ByteArray) (k : Nat) : List Value := (((datas xs).take k).map valI).map (Value.int .i64)
theorem numsTake_succ (xs : List ByteArray) (k : Nat) (x : ByteArray) (h : xs[k]? = some x) : numsTake xs (k + 1) = numsTake xs k ++ [.int .i64 (valI x.data.toList)] := by
  unfold numsTake
  rw [List.take_add_one, List.getElem?_map, h]
  simp
set_option maxRecDepth 100000 in
set_option maxHeartbeats 2000000 in
theorem l3Parts_any (s : ByteArray) (hs : s.size ≤ 1048576) (w : World) :
    Calls Tryz.prog 249 #[.string s] w fun e w' => ∃ v, e = .returned (.tuple #[v, .bool (versOk s.data.toList)]) ∧ (versOk s.data.toList = true → w'.ownsRow w.heap.size 3 1 v (versL s.data.toList).length ((versL s.data.toList).map (Value.int .i64))) ∧ Below w.heap.size w w' := by
  obtain ⟨i0, hi, hz0, hz1, hz2⟩ := info_parts info3
  go_enter Tryz.func249, Tryz.ntmps249
  go_wp2_with fail
  refine (l1Cut_any s 46 _ hs (by omega) (by omega) _).mono ?_
  rintro e w1 ⟨v, xs, rfl, hxs, hown, hB⟩
  have hne : xs ≠ [] := by
    intro h; subst h; exact cutB_ne _ _ hxs.symm
  obtain ⟨n, hn⟩ : ∃ n, xs.length = n + 1 := ⟨xs.length - 1, by have := List.length_pos_iff.2 hne; omega⟩
  rw [hn] at hown
  obtain ⟨g, cap, rfl⟩ := ownsRow_succ hown
  have hg : g < w1.heap.size := (hown.lt g rfl).2
  have hcell : ∀ (k : Nat) x, xs[k]? = some x → w1.cell? ⟨g, k, none⟩ = some (.string x) := fun k x hx => by
    have hk : k < xs.length := (List.getElem?_eq_some_iff.1 hx).1
    rw [hown.cellAt k (by omega), List.getElem?_map, hx]; rfl
  have hlen : ∀ x ∈ xs, x.size ≤ maxLen := fun x hx => by
    have h1 : x.data.toList ∈ cutB 46 s.data.toList := by rw [← hxs]; exact List.mem_map.2 ⟨x, hx, rfl⟩
    have h2 := cutB_le 46 _ _ h1
    rw [← Lib.size_eq, ← Lib.size_eq] at h2
    unfold maxLen; omega
  have hns : n ≤ 1048576 := by
    have := cutB_length 46 s.data.toList
    rw [← hxs, ← Lib.size_eq] at this
    simp [datas] at this
    omega
  have Hcell := hid hcell
  have Hlen := hid hlen
  have Hxs := hid hxs
  have Hn := hid hn
  have HB := hid hB
  clear hown hcell hlen hxs hn hB
  go_wp2_with fail
  go_loopw [5, 6, 7] (fun o i _ wr => ∃ (k g' cap' : Nat), k ≤ n + 1 ∧ o = .slice (some ⟨g', 0, none⟩) k cap' ∧ i = .int .i64 k ∧ Hid (((datas xs).take k).all (fun p => numOk p 999) = true) ∧ wr.ownsRow w1.heap.size 3 1 (.slice (some ⟨g', 0, none⟩) k cap') k (numsTake xs k) ∧ Below w1.heap.size w1 wr)
    (fun _ i _ _ => n + 1 - (intOf i).toNat)
  case atStart => exact ⟨0, w1.heap.size, 0, by omega, rfl, rfl, hid (by simp), World.ownsRow_lit w1 #[] 0 (Nat.le_refl _) (by omega) (by simp), (Below.refl _ _).alloc (Nat.le_refl _) _⟩
  case round =>
    obtain ⟨k, g', cap', hk, rfl, rfl, hall, hown, hB1⟩ := hrel
    have HB1 := hid hB1
    have Hown := hid hown
    have hsz := hB1.size
    clear hB1 hown
    by_cases hlt : k < n + 1
    · obtain ⟨x, hx⟩ : ∃ x, xs[k]? = some x := ⟨xs[k]'(by rw [unhid Hn]; exact hlt), List.getElem?_eq_getElem _⟩
      have hck : wr.cell? ⟨g, k, none⟩ = some (.string x) := ((unhid HB1).cell (p := ⟨g, k, none⟩) hg).trans (unhid Hcell k x hx)
      have hlk := unhid Hlen x (List.mem_of_getElem? hx)
      have Hx := hid hx
      clear hx
      cases hb : numOk x.data.toList 999
      · have hin := num_in x.data.toList
        rw [hb] at hin
        have Hin := hid hin
        clear hin
        go_wp2_with fail
        refine (l1Num_any x hlk _).mono ?_
        rintro e w2 ⟨rfl, rfl⟩
        go_wp2_with fail
        refine (l1In_any _ _ _ _).mono ?_
        rintro e w2 ⟨rfl, rfl⟩
        rw [unhid Hin]
        go_wp2_with fail
        go_ret2
        have hf : versOk s.data.toList = false := by
          unfold versOk
          rw [← unhid Hxs, List.all_eq_false.2 ⟨x.data.toList, List.mem_map.2 ⟨x, List.mem_of_getElem? (unhid Hx), rfl⟩, by simp [hb]⟩]; simp
        exact ⟨.slice (some ⟨g', 0, none⟩) k cap', by rw [hf]; rfl, (fun h => by rw [hf] at h; cases h), (unhid HB).trans ((unhid HB1).mono (unhid HB).size)⟩
      · have hin := num_in x.data.toList
        rw [hb] at hin
        have Hin := hid hin
        have Hv := hid (num_val _ hb)
        clear hin
        go_wp2_with fail
        refine (l1Num_any x hlk _).mono ?_
        rintro e w2 ⟨rfl, rfl⟩
        go_wp2_with fail
        refine (l1In_any _ _ _ _).mono ?_
        rintro e w2 ⟨rfl, rfl⟩
        rw [unhid Hin]
        go_wp2_with (at_builtin; refine wpList_append_own _ rfl _ _ 88 rfl w1.heap.size 3 i0 (.int .i64 0) 1 8 Tryz.underlying88 hi hz0 hz1 hz2 rfl (by decide) _ _ _ rfl ((unhid Hown).alloc _) ⟨_, 0, none⟩ 1 1 [.int .i64 (numI x.data.toList)] rfl rfl ?c1 ?c2 ?c3 ?c4 ?c5 ?_)
        case c1 => exact cell_one_new _ _ _
        case c2 => intro u hu; simp at hu; subst hu; rfl
        case c3 => unfold maxLen; omega
        case c4 => omega
        case c5 => simp; omega
        intro v' w3 hown' hgrow _
        obtain ⟨g2, cap2, rfl⟩ := ownsRow_succ hown'
        have hB3 := ((unhid HB1).alloc (unhid HB1).size (.cells #[.int .i64 (numI x.data.toList)] 3)).grown hgrow (by simp; omega) (fun j e => ((unhid Hown).lt j e).1)
        have HO3 := hid hown'
        have HB3 := hid hB3
        clear hown' hgrow hB3
        go_wp2_with fail
        go_roundw
        case rel => exact ⟨k + 1, g2, cap2, by omega, rfl, by go_num, hid (by rw [List.take_add_one, List.getElem?_map, unhid Hx, List.all_append, unhid hall]; simp [hb]), by rw [numsTake_succ xs k x (unhid Hx), ← unhid Hv]; exact unhid HO3, unhid HB3⟩
        case measure => simp [intOf]; omega
    · go_wp2_with fail
      go_ret2
      obtain rfl : k = n + 1 := by omega
      have hl : (datas xs).length = n + 1 := by rw [← unhid Hn]; simp [datas]
      have hall' : ((datas xs).all fun p => numOk p 999) = true := by have := unhid hall; rwa [List.take_of_length_le (by omega)] at this
      have hf : versOk s.data.toList = decide ((n : Int) + 1 ≤ 4) := by
        unfold versOk
        rw [← unhid Hxs, hall', hl, Bool.and_true]
        simp; omega
      have hL : (versL s.data.toList).length = n + 1 := by rw [versL, List.length_map, ← unhid Hxs, hl]
      refine ⟨.slice (some ⟨g', 0, none⟩) (n + 1) cap', by rw [hf]; rfl, (fun _ => ?_), (unhid HB).trans ((unhid HB1).mono (unhid HB).size)⟩
      have ho := ownsRow_baseV (unhid Hown) (unhid HB).size
      rw [hL]
      have e : (versL s.data.toList).map (Value.int .i64) = numsTake xs (n + 1) := by
        rw [versL, numsTake, ← unhid Hxs, List.take_of_length_le (by omega)]
      rw [e]; exact ho
end Go.Proofs.YtoihhlkidlapmaaGreat

namespace Go.Proofs.YtoihhlkidlapmaaGreat
open Go.RowKit
set_option maxHeartbeats 1000000 in
theorem VersionOk_any (s : ByteArray) (hs : s.size ≤ maxLen) (w : World) :
    Calls Tryz.prog 115 #[.string s] w fun e w' => e = .returned (.bool (versOk s.data.toList)) ∧ Below w.heap.size w w' := by
  go_enter Tryz.func115, Tryz.ntmps115
  go_wp2_with fail
  refine (versionOf_any s hs _).mono ?_
  rintro e w1 ⟨v, rfl, -, -, hb⟩
  go_wp2_with fail
  go_ret
  exact ⟨rfl, hb⟩
set_option maxHeartbeats 1000000 in
theorem specVersionOk_any (s : ByteArray) (hs : s.size ≤ 1048576) (w : World) :
    Calls Tryz.prog 188 #[.string s] w fun e w' => e = .returned (.bool (versOk s.data.toList)) ∧ Below w.heap.size w w' := by
  go_enter Tryz.func188, Tryz.ntmps188
  go_wp2_with fail
  refine (l3Parts_any s hs _).mono ?_
  rintro e w1 ⟨v, rfl, -, hb⟩
  go_wp2_with fail
  go_ret
  exact ⟨rfl, hb⟩
def cmpL : List Int → List Int → Int
  | [], [] => 0
  | [], _ :: _ => -1
  | _ :: _, [] => 1
  | a :: s, b :: t => if a < b then -1 else if b < a then 1 else cmpL s t
theorem cmpL_drop {xs ys : List Int} {k : Nat} {a b : Int} (hx : xs[k]? = some a) (hy : ys[k]? = some b) : cmpL (xs.drop k) (ys.drop k) = if a < b then -1 else if b < a then 1 else cmpL (xs.drop (k + 1)) (ys.drop (k + 1)) := by
  obtain ⟨h1, h2⟩ := List.getElem?_eq_some_iff.1 hx
  obtain ⟨g1, g2⟩ := List.getElem?_eq_some_iff.1 hy
  rw [List.drop_eq_getElem_cons h1, List.drop_eq_getElem_cons g1, h2, g2]; rfl
theorem cmpL_left {xs ys : List Int} {k : Nat} {a : Int} (hx : xs[k]? = some a) (hy : ys.length ≤ k) : cmpL (xs.drop k) (ys.drop k) = 1 := by
  obtain ⟨h1, h2⟩ := List.getElem?_eq_some_iff.1 hx
  rw [List.drop_eq_getElem_cons h1, List.drop_of_length_le hy]; rfl
theorem cmpL_right {xs ys : List Int} {k : Nat} {b : Int} (hx : xs.length ≤ k) (hy : ys[k]? = some b) : cmpL (xs.drop k) (ys.drop k) = -1 := by
  obtain ⟨g1, g2⟩ := List.getElem?_eq_some_iff.1 hy
  rw [List.drop_eq_getElem_cons g1, List.drop_of_length_le hx]; rfl
theorem cmpL_end {xs ys : List Int} {k : Nat} (hx : xs.length ≤ k) (hy : ys.length ≤ k) : cmpL (xs.drop k) (ys.drop k) = 0 := by
  rw [List.drop_of_length_le hy, List.drop_of_length_le hx]; rfl
def cmpI (a b : Int) : Int := if a < b then -1 else if b < a then 1 else 0
set_option maxHeartbeats 1000000 in
theorem isNaN_any (c : Int) (w : World) : Calls Tryz.prog 292 #[.int .i64 c] w fun e w' => e = .returned (.bool false) ∧ w' = w := by
  go_enter Tryz.func292, Tryz.ntmps292
  go_wp2
  go_ret
  exact ⟨rfl, rfl⟩
set_option maxHeartbeats 1000000 in
theorem cmpInt_any (a b : Int) (w : World) :
    Calls Tryz.prog 290 #[.int .i64 a, .int .i64 b] w fun e w' => e = .returned (.int .i64 (cmpI a b)) ∧ w' = w := by
  by_cases h1 : a < b
  · have E := hid (show cmpI a b = -1 by simp [cmpI, h1])
    go_enter Tryz.func290, Tryz.ntmps290
    go_wp2_with (go_at_call 292; refine (isNaN_any _ _).mono ?_; rintro e w' ⟨rfl, rfl⟩)
    go_ret
    exact ⟨by rw [unhid E]; rfl, rfl⟩
  · by_cases h2 : b < a
    · have E := hid (show cmpI a b = 1 by simp [cmpI, h1, h2])
      go_enter Tryz.func290, Tryz.ntmps290
      go_wp2_with (go_at_call 292; refine (isNaN_any _ _).mono ?_; rintro e w' ⟨rfl, rfl⟩)
      go_ret
      exact ⟨by rw [unhid E]; rfl, rfl⟩
    · have E := hid (show cmpI a b = 0 by simp [cmpI, h1, h2])
      go_enter Tryz.func290, Tryz.ntmps290
      go_wp2_with (go_at_call 292; refine (isNaN_any _ _).mono ?_; rintro e w' ⟨rfl, rfl⟩)
      go_ret
      exact ⟨by rw [unhid E]; rfl, rfl⟩
def Nums (w : World) (g : Nat) (xs : List Int) : Prop := ∀ (k : Nat) x, xs[k]? = some x → w.cell? ⟨g, k, none⟩ = some (.int .i64 x)
set_option maxRecDepth 100000 in
set_option maxHeartbeats 2000000 in
theorem compare_any (g h n m c d : Nat) (xs ys : List Int) (hn : xs.length = n) (hm : ys.length = m) (bn : n ≤ 1000000) (bm : m ≤ 1000000) (w : World) (hx : Nums w g xs) (hy : Nums w h ys) :
    Calls Tryz.prog 285 #[.slice (some ⟨g, 0, none⟩) n c, .slice (some ⟨h, 0, none⟩) m d] w fun e w' => e = .returned (.int .i64 (cmpL xs ys)) ∧ w' = w := by
  have HX := hid hx
  have HY := hid hy
  have Hn := hid hn
  have Hm := hid hm
  clear hx hy hn hm
  go_enter Tryz.func285, Tryz.ntmps285
  go_wp2
  go_loop [11] (fun i => ∃ k : Nat, k ≤ n ∧ k ≤ m ∧ i = .int .i64 k ∧ Hid (cmpL xs ys = cmpL (xs.drop k) (ys.drop k))) (fun i => n - (intOf i).toNat)
  case atStart => exact ⟨0, by omega, by omega, rfl, hid (by simp)⟩
  case round =>
    obtain ⟨k, hk, hkm, rfl, hc⟩ := hrel
    by_cases hlt : k < n
    · obtain ⟨x, hx⟩ : ∃ x, xs[k]? = some x := ⟨xs[k]'(by rw [unhid Hn]; exact hlt), List.getElem?_eq_getElem _⟩
      have cx := unhid HX k x hx
      have Hx := hid hx
      clear hx
      by_cases hge : (m : Int) ≤ k
      · go_wp2_with fail
        go_ret
        exact ⟨by rw [unhid hc, cmpL_left (unhid Hx) (by rw [unhid Hm]; omega)]; rfl, rfl⟩
      · obtain ⟨y, hy⟩ : ∃ y, ys[k]? = some y := ⟨ys[k]'(by rw [unhid Hm]; omega), List.getElem?_eq_getElem _⟩
        have cy := unhid HY k y hy
        have Hd := hid (cmpL_drop (unhid Hx) hy)
        clear hy
        by_cases h1 : x < y
        · have E := hid (show cmpI x y = -1 by simp [cmpI, h1])
          have H1 := hid h1
          clear h1
          go_wp2_with fail
          refine (cmpInt_any x y _).mono ?_
          rintro e w1 ⟨rfl, rfl⟩
          rw [unhid E]
          go_wp2_with fail
          go_ret
          exact ⟨by rw [unhid hc, unhid Hd, if_pos (unhid H1)]; rfl, rfl⟩
        · by_cases h2 : y < x
          · have E := hid (show cmpI x y = 1 by simp [cmpI, h1, h2])
            have H1 := hid h1
            have H2 := hid h2
            clear h1 h2
            go_wp2_with fail
            refine (cmpInt_any x y _).mono ?_
            rintro e w1 ⟨rfl, rfl⟩
            rw [unhid E]
            go_wp2_with fail
            go_ret
            exact ⟨by rw [unhid hc, unhid Hd, if_neg (by have := unhid H1; omega), if_pos (unhid H2)]; rfl, rfl⟩
          · have E := hid (show cmpI x y = 0 by simp [cmpI, h1, h2])
            have H1 := hid h1
            have H2 := hid h2
            clear h1 h2
            go_wp2_with fail
            refine (cmpInt_any x y _).mono ?_
            rintro e w1 ⟨rfl, rfl⟩
            rw [unhid E]
            go_wp2_with fail
            refine ⟨⟨k + 1, by omega, by omega, by go_num, hid (by rw [unhid hc, unhid Hd, if_neg (by have := unhid H1; omega), if_neg (by have := unhid H2; omega)])⟩, by simp [intOf]; omega⟩
    · by_cases hlt2 : (n : Int) < m
      · go_wp2_with fail
        go_ret
        have hy : ∃ y, ys[k]? = some y := ⟨ys[k]'(by rw [unhid Hm]; omega), List.getElem?_eq_getElem _⟩
        obtain ⟨y, hy⟩ := hy
        exact ⟨by rw [unhid hc, cmpL_right (by rw [unhid Hn]; omega) hy]; rfl, rfl⟩
      · go_wp2_with fail
        go_ret
        exact ⟨by rw [unhid hc, cmpL_end (by rw [unhid Hn]; omega) (by rw [unhid Hm]; omega)]; rfl, rfl⟩
set_option maxHeartbeats 1000000 in
theorem order_any (g h n m c d : Nat) (xs ys : List Int) (hn : xs.length = n) (hm : ys.length = m) (bn : n ≤ 1000000) (bm : m ≤ 1000000) (w : World) (hx : Nums w g xs) (hy : Nums w h ys) :
    Calls Tryz.prog 275 #[.slice (some ⟨g, 0, none⟩) n c, .slice (some ⟨h, 0, none⟩) m d] w fun e w' => e = .returned (.int .i64 (cmpL xs ys)) ∧ w' = w := by
  have H := hid (compare_any g h n m c d xs ys hn hm bn bm w hx hy)
  clear hx hy hn hm
  go_enter Tryz.func275, Tryz.ntmps275
  go_wp2_with fail
  refine (unhid H).mono ?_
  rintro e w1 ⟨rfl, rfl⟩
  go_wp2_with fail
  go_ret
  exact ⟨rfl, rfl⟩
end Go.Proofs.YtoihhlkidlapmaaGreat

namespace Go.Proofs.YtoihhlkidlapmaaGreat
open Go.RowKit
theorem versL_ne (l : List UInt8) : versL l ≠ [] := by
  unfold versL; intro h; exact cutB_ne 46 l (List.map_eq_nil_iff.1 h)
theorem versL_nn (l : List UInt8) : ∀ x ∈ versL l, 0 ≤ x := by
  intro x hx
  obtain ⟨p, _, rfl⟩ := List.mem_map.1 hx
  exact valI_nn p
theorem versL_len (l : List UInt8) (h : versOk l = true) : (versL l).length ≤ 4 := by
  simp only [versOk, Bool.and_eq_true, decide_eq_true_eq] at h
  simpa [versL] using h.1
def Vers (w : World) (base : Nat) (v : Value) (xs : List Int) : Prop := ∃ g cap, v = .slice (some ⟨g, 0, none⟩) xs.length cap ∧ base ≤ g ∧ g < w.heap.size ∧ Nums w g xs
theorem vers_of {w : World} {base : Nat} {v : Value} {xs : List Int} (hne : xs ≠ []) (h : w.ownsRow base 3 1 v xs.length (xs.map (Value.int .i64))) : Vers w base v xs := by
  obtain ⟨n, hn⟩ : ∃ n, xs.length = n + 1 := ⟨xs.length - 1, by have := List.length_pos_iff.2 hne; omega⟩
  have h' := h
  rw [hn] at h'
  obtain ⟨g, cap, rfl⟩ := ownsRow_succ h'
  have hl := h.lt g rfl
  refine ⟨g, cap, by rw [hn], hl.1, hl.2, fun k x hx => ?_⟩
  have hk : k < xs.length := (List.getElem?_eq_some_iff.1 hx).1
  rw [h'.cellAt k (by omega), List.getElem?_map, hx]; rfl
theorem Vers.below {w w' : World} {base : Nat} {v : Value} {xs : List Int} (h : Vers w base v xs) (hb : Below w.heap.size w w') : Vers w' base v xs := by
  obtain ⟨g, cap, hv, hg, hl, hn⟩ := h
  exact ⟨g, cap, hv, hg, Nat.lt_of_lt_of_le hl hb.size, fun k x hx => (hb.cell (p := ⟨g, k, none⟩) hl).trans (hn k x hx)⟩
def ordI (a b : List UInt8) : Int := if versOk a && versOk b then cmpL (versL a) (versL b) else 0
set_option maxRecDepth 100000 in
set_option maxHeartbeats 4000000 in
theorem l3Order_any (g h n m c d : Nat) (xs ys : List Int) (hn : xs.length = n) (hm : ys.length = m) (bn : n ≤ 1000000) (bm : m ≤ 1000000) (px : ∀ x ∈ xs, 0 ≤ x) (py : ∀ y ∈ ys, 0 ≤ y) (w : World) (hx : Nums w g xs) (hy : Nums w h ys) :
    Calls Tryz.prog 251 #[.slice (some ⟨g, 0, none⟩) n c, .slice (some ⟨h, 0, none⟩) m d] w fun e w' => e = .returned (.int .i64 (cmpL xs ys)) ∧ w' = w := by
  have HX := hid hx
  have HY := hid hy
  have PX := hid px
  have PY := hid py
  have Hn := hid hn
  have Hm := hid hm
  clear hx hy hn hm px py
  go_enter Tryz.func251, Tryz.ntmps251
  go_wp2
  go_loop [5, 6, 7] (fun i _ _ => ∃ k : Nat, k ≤ n + m ∧ i = .int .i64 k ∧ Hid (cmpL xs ys = cmpL (xs.drop k) (ys.drop k))) (fun i _ _ => n + m - (intOf i).toNat)
  case atStart => exact ⟨0, by omega, rfl, hid (by simp)⟩
  case round =>
    obtain ⟨k, hk, rfl, hc⟩ := hrel
    by_cases hlt : (k : Int) < n
    · obtain ⟨x, hx⟩ : ∃ x, xs[k]? = some x := ⟨xs[k]'(by rw [unhid Hn]; omega), List.getElem?_eq_getElem _⟩
      have cx := unhid HX k x hx
      have x0 := unhid PX x (List.mem_of_getElem? hx)
      have Hx := hid hx
      clear hx
      by_cases hlt2 : (k : Int) < m
      · obtain ⟨y, hy⟩ : ∃ y, ys[k]? = some y := ⟨ys[k]'(by rw [unhid Hm]; omega), List.getElem?_eq_getElem _⟩
        have cy := unhid HY k y hy
        have Hd := hid (cmpL_drop (unhid Hx) hy)
        clear hy
        by_cases h1 : x < y
        · go_wp2_with fail
          go_ret
          exact ⟨by rw [unhid hc, unhid Hd, if_pos h1]; rfl, rfl⟩
        · by_cases h2 : y < x
          · go_wp2_with fail
            go_ret
            exact ⟨by rw [unhid hc, unhid Hd, if_neg (by omega), if_pos h2]; rfl, rfl⟩
          · go_wp2_with fail
            refine ⟨⟨k + 1, by omega, by go_num, hid (by rw [unhid hc, unhid Hd, if_neg (by omega), if_neg (by omega)])⟩, by simp [intOf]; omega⟩
      · have h1 : ¬ x < -1 := by omega
        have h2 : (-1 : Int) < x := by omega
        go_wp2_with fail
        go_ret
        exact ⟨by rw [unhid hc, cmpL_left (unhid Hx) (by rw [unhid Hm]; omega)]; rfl, rfl⟩
    · by_cases hlt2 : (k : Int) < m
      · obtain ⟨y, hy⟩ : ∃ y, ys[k]? = some y := ⟨ys[k]'(by rw [unhid Hm]; omega), List.getElem?_eq_getElem _⟩
        have cy := unhid HY k y hy
        have y0 := unhid PY y (List.mem_of_getElem? hy)
        have h1 : (-1 : Int) < y := by omega
        have Hy := hid hy
        clear hy
        go_wp2_with fail
        go_ret
        exact ⟨by rw [unhid hc, cmpL_right (by rw [unhid Hn]; omega) (unhid Hy)]; rfl, rfl⟩
      · go_wp2_with fail
        go_ret
        exact ⟨by rw [unhid hc, cmpL_end (by rw [unhid Hn]; omega) (by rw [unhid Hm]; omega)]; rfl, rfl⟩
set_option maxRecDepth 100000 in
set_option maxHeartbeats 2000000 in
theorem specVersionOrder_any (a b : ByteArray) (ha : a.size ≤ 1048576) (hb : b.size ≤ 1048576) (w : World) :
    Calls Tryz.prog 190 #[.string a, .string b] w fun e w' => e = .returned (.int .i64 (ordI a.data.toList b.data.toList)) ∧ Below w.heap.size w w' := by
  go_enter Tryz.func190, Tryz.ntmps190
  go_wp2_with fail
  refine (l3Parts_any a ha _).mono ?_
  rintro e w1 ⟨va, rfl, oa, b1⟩
  have OA := hid oa
  have B1 := hid b1
  clear oa b1
  go_wp2_with fail
  refine (l3Parts_any b hb _).mono ?_
  rintro e w2 ⟨vb, rfl, ob, b2⟩
  have OB := hid ob
  have B2 := hid b2
  have B12 := hid ((unhid B1).trans (b2.mono (unhid B1).size))
  clear ob b2
  cases ka : versOk a.data.toList
  · have E := hid (show ordI a.data.toList b.data.toList = 0 by simp [ordI, ka])
    go_wp2_with fail
    go_ret
    exact ⟨by rw [unhid E]; rfl, unhid B12⟩
  · cases kb : versOk b.data.toList
    · have E := hid (show ordI a.data.toList b.data.toList = 0 by simp [ordI, kb])
      go_wp2_with fail
      go_ret
      exact ⟨by rw [unhid E]; rfl, unhid B12⟩
    · have E := hid (show ordI a.data.toList b.data.toList = cmpL (versL a.data.toList) (versL b.data.toList) by simp [ordI, ka, kb])
      have la := versL_len _ ka
      have lb := versL_len _ kb
      have pa := versL_nn a.data.toList
      have pb := versL_nn b.data.toList
      obtain ⟨g, c, rfl, _, _, ng⟩ := (vers_of (versL_ne _) (unhid OA ka)).below (unhid B2)
      obtain ⟨h, d, rfl, _, _, nh⟩ := vers_of (versL_ne _) (unhid OB kb)
      have NG := hid ng
      have NH := hid nh
      have PA := hid pa
      have PB := hid pb
      clear ng nh OA OB pa pb
      generalize hx : versL a.data.toList = xs at *
      generalize hy : versL b.data.toList = ys at *
      clear hx hy
      go_wp2_with fail
      refine (l3Order_any g h _ _ c d xs ys rfl rfl (by omega) (by omega) (unhid PA) (unhid PB) _ (unhid NG) (unhid NH)).mono ?_
      rintro e w3 ⟨rfl, rfl⟩
      go_wp2_with fail
      go_ret
      exact ⟨by rw [unhid E]; rfl, unhid B12⟩
end Go.Proofs.YtoihhlkidlapmaaGreat

namespace Go.Proofs.YtoihhlkidlapmaaGreat
open Go.RowKit
def packBy (c : Int) : Bool := letB c || figB c
def packB (l : List UInt8) : Bool := !l.isEmpty && decide (l.length ≤ 10) && !(l.head?.any fun c => figB c.toNat) && l.all fun c => packBy c.toNat
set_option maxHeartbeats 1000000 in
theorem isPackByte_any (c : Int) (w : World) :
    Calls Tryz.prog 183 #[.int .u8 c] w fun e w' => e = .returned (.bool (packBy c)) ∧ w' = w := by
  cases h1 : letB c
  · have E := hid (show packBy c = figB c by simp [packBy, h1])
    go_enter Tryz.func183, Tryz.ntmps183
    go_wp2_with (first | (go_at_call 240; refine (isLetter_any _ _).mono ?_; rintro e w' ⟨rfl, rfl⟩) | (go_at_call 181; refine (isFigure_any _ _).mono ?_; rintro e w' ⟨rfl, rfl⟩))
    go_ret
    exact ⟨by rw [unhid E]; rfl, rfl⟩
  · have E := hid (show packBy c = true by simp [packBy, h1])
    go_enter Tryz.func183, Tryz.ntmps183
    go_wp2_with (go_at_call 240; refine (isLetter_any _ _).mono ?_; rintro e w' ⟨rfl, rfl⟩)
    go_ret
    exact ⟨by rw [unhid E]; rfl, rfl⟩
theorem egPack : ∀ args w, (callFunc 183 args).run Tryz.prog w = .ok (.enter 183 args) w := enters_of Tryz.func183 (by kernel_rfl) rfl
theorem head_get (s : ByteArray) (h : 0 < s.size) : s.data.toList.head? = some s[0] := by rw [List.head?_eq_getElem?, getByte s 0 h]
set_option maxRecDepth 100000 in
set_option maxHeartbeats 1000000 in
theorem packNameOk_any (s : ByteArray) (hs : s.size ≤ maxLen) (w : World) :
    Calls Tryz.prog 114 #[.string s] w fun e w' => e = .returned (.bool (packB s.data.toList)) ∧ Below w.heap.size w w' := by
  have hm : s.size ≤ 9223372036854775807 := hs
  by_cases he : s.toList = []
  · have he' : s.toList.isEmpty = true := by simp [he]
    have E := hid (show packB s.data.toList = false by rw [Lib.toList_data] at he; simp [packB, he])
    go_enter Tryz.func114, Tryz.ntmps114
    go_wp2_with fail
    go_ret
    exact ⟨by rw [unhid E]; rfl, Below.refl _ _⟩
  · have he' : s.toList.isEmpty = false := by simp [he]
    have h0 : 0 < s.size := by
      rw [Lib.toList_data] at he
      have := List.length_pos_iff.2 he
      rwa [← Lib.size_eq] at this
    have hl : s.data.toList.length = s.size := (Lib.size_eq s).symm
    by_cases h10 : (s.size : Int) ≤ 10
    · have hne : s.data.toList.isEmpty = false := by rw [List.isEmpty_eq_false_iff, ← List.length_pos_iff, hl]; exact h0
      cases hf : figB (s[0].toNat : Int)
      · have E := hid (show packB s.data.toList = s.data.toList.all fun c => packBy c.toNat by
          unfold packB
          rw [head_get s h0, hne, hl, decide_eq_true (show s.size ≤ 10 by omega)]; simp [hf])
        clear hl hne
        go_enter Tryz.func114, Tryz.ntmps114
        go_wp2_with fail
        refine (isFigure_any _ _).mono ?_
        rintro e w1 ⟨rfl, rfl⟩
        rw [hf]
        go_wp2_with fail
        refine (allBytes_any 183 packBy egPack isPackByte_any s hs _).mono ?_
        rintro e w2 ⟨rfl, hb⟩
        rw [← unhid E]
        go_wp2_with fail
        go_ret
        exact ⟨rfl, hb⟩
      · have E := hid (show packB s.data.toList = false by
          unfold packB
          rw [head_get s h0]; simp [hf])
        clear hl hne
        go_enter Tryz.func114, Tryz.ntmps114
        go_wp2_with fail
        refine (isFigure_any _ _).mono ?_
        rintro e w1 ⟨rfl, rfl⟩
        rw [hf]
        go_wp2_with fail
        go_ret
        exact ⟨by rw [unhid E]; rfl, Below.refl _ _⟩
    · have E := hid (show packB s.data.toList = false by
        unfold packB
        rw [hl, decide_eq_false (show ¬ s.size ≤ 10 by omega)]; simp)
      clear hl
      go_enter Tryz.func114, Tryz.ntmps114
      go_wp2_with fail
      go_ret
      exact ⟨by rw [unhid E]; rfl, Below.refl _ _⟩
theorem packB_bad (s : ByteArray) (k : Nat) (h : k < s.size) (h1 : letB (s[k].toNat : Int) = false) (h2 : k = 0 ∨ figB (s[k].toNat : Int) = false) : packB s.data.toList = false := by
  cases hf : figB (s[k].toNat : Int)
  · have : (s.data.toList.all fun c => packBy c.toNat) = false := List.all_eq_false.2 ⟨s[k], List.mem_of_getElem? (getByte s k h), by simp [packBy, h1, hf]⟩
    unfold packB
    rw [this]; simp
  · rcases h2 with rfl | h2
    · unfold packB
      rw [head_get s h]; simp [hf]
    · rw [hf] at h2; cases h2
theorem packB_good (s : ByteArray) (h : ∀ k (hk : k < s.size), letB (s[k].toNat : Int) = true ∨ 0 < k ∧ figB (s[k].toNat : Int) = true) : packB s.data.toList = (decide ((1 : Int) ≤ s.size) && decide ((s.size : Int) ≤ 10)) := by
  have hl : s.data.toList.length = s.size := (Lib.size_eq s).symm
  by_cases h0 : 0 < s.size
  · have hne : s.data.toList.isEmpty = false := by rw [List.isEmpty_eq_false_iff, ← List.length_pos_iff, hl]; exact h0
    have hf : figB (s[0].toNat : Int) = false := by
      rcases h 0 h0 with h1 | h1
      · simp only [letB, Bool.and_eq_true, decide_eq_true_eq] at h1
        simp [figB]; omega
      · omega
    have ha : (s.data.toList.all fun c => packBy c.toNat) = true := by
      rw [List.all_eq_true]
      intro c hc
      obtain ⟨k, hk, rfl⟩ := List.getElem_of_mem hc
      have hk' : k < s.size := by omega
      have e : s.data.toList[k] = s[k] := rfl
      rw [e]
      rcases h k hk' with h1 | h1
      · simp [packBy, h1]
      · simp [packBy, h1.2]
    unfold packB
    have hany : (some s[0]).any (fun c => figB (c.toNat : Int)) = false := by simp [hf]
    rw [head_get s h0, hne, hl, ha, hany]
    simp only [Bool.not_false, Bool.true_and, Bool.and_true]
    rw [decide_eq_true (show (1 : Int) ≤ s.size by omega), Bool.true_and]
    exact decide_eq_decide.2 (by omega)
  · have he : s.data.toList = [] := List.length_eq_zero_iff.1 (by omega)
    have hz : s.size = 0 := by omega
    rw [he, hz]; rfl
set_option maxRecDepth 100000 in
set_option maxHeartbeats 2000000 in
theorem l3Pack_any (s : ByteArray) (hs : s.size ≤ maxLen) (w : World) :
    Calls Tryz.prog 187 #[.string s] w fun e w' => e = .returned (.bool (packB s.data.toList)) ∧ w' = w := by
  unfold maxLen at hs
  go_enter Tryz.func187, Tryz.ntmps187
  go_wp2
  go_loop [3, 4] (fun i _ => ∃ k : Nat, k ≤ s.size ∧ i = .int .i64 k ∧ Hid (∀ j (hj : j < s.size), j < k → letB (s[j].toNat : Int) = true ∨ 0 < j ∧ figB (s[j].toNat : Int) = true)) (fun i _ => s.size - (intOf i).toNat)
  case atStart => exact ⟨0, Nat.zero_le _, rfl, hid (fun j _ h => by omega)⟩
  case round =>
    obtain ⟨k, hk, rfl, hall⟩ := hrel
    by_cases hlt : k < s.size
    · have step : (letB (s[k].toNat : Int) = true ∨ 0 < k ∧ figB (s[k].toNat : Int) = true) → ∀ j (hj : j < s.size), j < k + 1 → letB (s[j].toNat : Int) = true ∨ 0 < j ∧ figB (s[j].toNat : Int) = true := fun h j hj hjk => by
        by_cases e : j = k
        · subst e; exact h
        · exact unhid hall j hj (by omega)
      have Hstep := hid step
      have Hbad := hid (packB_bad s k hlt)
      clear step
      by_cases a1 : (97 : Int) ≤ s[k].toNat
      · by_cases a2 : (s[k].toNat : Int) ≤ 122
        · go_wp2_with fail
          refine ⟨⟨k + 1, by omega, by go_num, hid (unhid Hstep (.inl (by simp [letB]; omega)))⟩, by simp [intOf]; omega⟩
        · by_cases k0 : k = 0
          · subst k0
            go_wp2_with fail
            go_ret
            exact ⟨by rw [packB_bad s 0 hlt (by simp [letB]; omega) (.inl rfl)]; rfl, rfl⟩
          · have k0' : ((k : Int) == 0) = false := by rw [beq_eq_false_iff_ne]; omega
            have b1 : ¬ (s[k].toNat : Int) < 48 := by omega
            have b2 : (57 : Int) < s[k].toNat := by omega
            go_wp2_with fail
            go_ret
            exact ⟨by rw [unhid Hbad (by simp [letB]; omega) (.inr (by simp [figB]; omega))]; rfl, rfl⟩
      · by_cases k0 : k = 0
        · subst k0
          go_wp2_with fail
          go_ret
          exact ⟨by rw [packB_bad s 0 hlt (by simp [letB]; omega) (.inl rfl)]; rfl, rfl⟩
        · have k0' : ((k : Int) == 0) = false := by rw [beq_eq_false_iff_ne]; omega
          by_cases b1 : (s[k].toNat : Int) < 48
          · go_wp2_with fail
            go_ret
            exact ⟨by rw [unhid Hbad (by simp [letB]; omega) (.inr (by simp [figB]; omega))]; rfl, rfl⟩
          · by_cases b2 : (57 : Int) < s[k].toNat
            · go_wp2_with fail
              go_ret
              exact ⟨by rw [unhid Hbad (by simp [letB]; omega) (.inr (by simp [figB]; omega))]; rfl, rfl⟩
            · go_wp2_with fail
              refine ⟨⟨k + 1, by omega, by go_num, hid (unhid Hstep (.inr ⟨by omega, by simp [figB]; omega⟩))⟩, by simp [intOf]; omega⟩
    · have E := hid (packB_good s (fun j hj => unhid hall j hj (by omega)))
      go_wp2_with fail
      refine (l1In_any _ _ _ _).mono ?_
      rintro e w1 ⟨rfl, rfl⟩
      rw [← unhid E]
      go_wp2_with fail
      go_ret
      exact ⟨rfl, rfl⟩
end Go.Proofs.YtoihhlkidlapmaaGreat
