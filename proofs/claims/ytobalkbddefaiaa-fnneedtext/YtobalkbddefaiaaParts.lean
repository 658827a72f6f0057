/- What the program's iterator over the parts of a text tells: what stands between marks. -/
import Derived.Test.YtobalkbddefaiaaBytesOf
import Derived.Lib.Strings
import Derived.Lib.Bytealg
import Derived.Laws.Externs
namespace Go.Proofs.Ytobalkbddefaiaa
open Go.RowKit Go.Shelf

attribute [local go_sem] Oper.semAt_some

/-- What stands between marks, one part more than marks. -/
def cutB (b : UInt8) : List UInt8 → List (List UInt8)
  | [] => [[]]
  | c :: l => if c == b then [] :: cutB b l else match cutB b l with
    | [] => [[c]]
    | h :: t => (c :: h) :: t

theorem cutB_ne (b : UInt8) (l : List UInt8) : cutB b l ≠ [] := by
  cases l with
  | nil => simp [cutB]
  | cons c l => unfold cutB; split <;> (try split) <;> simp

theorem cutB_none (b : UInt8) (l : List UInt8) (h : Lib.indexByte l b < 0) : cutB b l = [l] := by
  induction l with
  | nil => rfl
  | cons c l ih =>
    unfold Lib.indexByte at h
    have hg := Lib.indexByte_ge l b
    by_cases hc : (c == b) = true
    · simp [hc] at h
    · simp [hc] at h
      have : Lib.indexByte l b < 0 := by split at h <;> omega
      simp [cutB, hc, ih this]

theorem cutB_some (b : UInt8) (l : List UInt8) (i : Nat) (h : Lib.indexByte l b = i) : i < l.length ∧ cutB b l = l.take i :: cutB b (l.drop (i + 1)) := by
  induction l generalizing i with
  | nil => simp [Lib.indexByte] at h
  | cons c l ih =>
    unfold Lib.indexByte at h
    have hg := Lib.indexByte_ge l b
    by_cases hc : (c == b) = true
    · simp [hc] at h
      obtain rfl : i = 0 := by omega
      simp [cutB, hc]
    · simp [hc] at h
      split at h
      · omega
      · obtain ⟨j, rfl⟩ : ∃ j, i = j + 1 := ⟨i - 1, by omega⟩
        obtain ⟨h1, h2⟩ := ih j (by omega)
        refine ⟨by simp; omega, ?_⟩
        simp [cutB, hc, h2]

set_option maxHeartbeats 1000000 in
set_option maxRecDepth 100000 in
theorem slIndexByte_any (s : ByteArray) (c : Int) (w : World) :
    Calls Try.prog 66 #[.string s, .int .u8 c] w fun e w' => e = .returned (.int .i64 (Lib.indexByte s.data.toList c.toNat.toUInt8)) ∧ w' = w := by
  go_enter Try.func66, Try.ntmps66
  go_wp2
  rw [run_callFunc_extern Try.func69 (by kernel_rfl) (by kernel_rfl) (by kernel_rfl) (e := Extern.BytealgIndexByte.indexByte) (by kernel_rfl), Lib.run_indexByteString]
  simp only [Result.andThen]
  rw [Oper.upon_value]
  go_wp2
  go_ret
  exact ⟨rfl, rfl⟩

set_option maxHeartbeats 1000000 in
theorem IndexByte_any (s : ByteArray) (c : Int) (w : World) :
    Calls Try.prog 62 #[.string s, .int .u8 c] w fun e w' => e = .returned (.int .i64 (Lib.indexByte s.data.toList c.toNat.toUInt8)) ∧ w' = w := by
  go_enter Try.func62, Try.ntmps62
  go_wp2_with (go_at_call 66; refine (slIndexByte_any _ _ _).mono ?_; rintro e w' ⟨rfl, rfl⟩)
  go_ret
  exact ⟨rfl, rfl⟩

theorem IndexByteU_any (s : ByteArray) (c : UInt8) (w : World) :
    Calls Try.prog 62 #[.string s, .int .u8 c.toNat] w fun e w' => e = .returned (.int .i64 (Lib.indexByte s.data.toList c)) ∧ w' = w := by
  have h := IndexByte_any s c.toNat w
  have e : ((c.toNat : Nat) : Int).toNat.toUInt8 = c := by simp
  rwa [e] at h

/-- A text that a string may hold. -/
abbrev Str := { x : ByteArray // x.size ≤ maxLen }
abbrev vals (xs : List Str) : List (List UInt8) := xs.map fun x => x.1.data.toList
theorem vals_snoc (pre : List Str) (x : Str) : vals (pre ++ [x]) = vals pre ++ [x.1.data.toList] := by simp [vals]
def strSize : Value → Nat
  | .string x => x.size
  | _ => 0

set_option maxRecDepth 100000 in
set_option maxHeartbeats 1000000 in
theorem parts1_in (F : Fence) (n : Nat) (hf : F.fn 61) (hf2 : F.fn 62) (hro : F.round = none) (hn : 1 ≤ n) (hw : ∀ (s : ByteArray) (c : UInt8) (w : World), CallsIn F (n - 1) Try.prog 62 #[.string s, .int .u8 c.toNat] w fun e w' => e = .returned (.int .i64 (Lib.indexByte s.data.toList c)) ∧ w' = w)
    (l Bs Bm : Nat) (s : ByteArray) (m : UInt8) (hs : s.size ≤ maxLen) (J Jx : List Str → World → Prop)
    (hY : ∀ pre (x : Str) W, J pre W → pre.length < (cutB m s.data.toList).length → YieldAt F (n - 1) Try.prog l #[.string x.1] W fun e W' =>
      (e = .returned (.bool true) ∧ J (pre ++ [x]) W' ∧ Keeps [Bs, Bm] W W') ∨ (e = .returned (.bool false) ∧ Jx (pre ++ [x]) W'))
    (W : World) (hc : W.cell? ⟨Bs, 0, none⟩ = some (.string s)) (hm : W.cell? ⟨Bm, 0, none⟩ = some (.int .u8 m.toNat)) (h0 : J [] W) :
    CallsIn F n Try.prog 61 #[.func (.yield l) #[] #[], .pointer (some ⟨Bs, 0, none⟩), .pointer (some ⟨Bm, 0, none⟩)] W fun e W' => (∃ v, e = .returned v) ∧
      ((∃ ys, vals ys = cutB m s.data.toList ∧ J ys W') ∨ (∃ pre, vals pre <+: cutB m s.data.toList ∧ Jx pre W')) := by
  unfold maxLen at hs
  refine callsIn_of_wp Try.func61 rfl hf ?_ hro
  simp only [Try.ntmps61, List.size_toArray, List.length_cons, List.length_nil, Nat.reduceAdd, Nat.reduceSub, Array.replicate_succ, Array.replicate_zero, List.push_toArray, List.append_toArray, List.nil_append, List.cons_append]
  gi_wp2
  gi_loopw [4, 5] (fun p _ wr => ∃ (pre : List Str) (rest : ByteArray), rest.size ≤ s.size ∧ p = .string rest ∧ Hid (cutB m s.data.toList = vals pre ++ cutB m rest.data.toList) ∧ J pre wr ∧ wr.cell? ⟨Bm, 0, none⟩ = some (.int .u8 m.toNat))
    (fun p _ _ => strSize p)
  case atStart =>
    exact ⟨[], s, Nat.le_refl _, rfl, hid (by simp), h0, hm⟩
  case round =>
    obtain ⟨pre, rest, hle, rfl, hcut, hJ, hmr⟩ := hrel
    have hlen : pre.length < (cutB m s.data.toList).length := by
      rw [unhid hcut]; have := List.length_pos_iff.2 (cutB_ne m rest.data.toList); simp; omega
    by_cases hlt : Lib.indexByte rest.data.toList m < 0
    · obtain ⟨fn, tmps, assign, body, hy, hR⟩ := hY _ ⟨rest, by unfold maxLen; omega⟩ wr hJ hlen
      dsimp only at hy hR
      gi_wp2_with (gi_at_call 62; refine (hw _ _ _).mono ?_; rintro e w' ⟨rfl, rfl⟩)
      refine hR.mono ?_
      rintro e W3 (⟨rfl, hJ3, hk3⟩ | ⟨rfl, hJx3⟩)
      · gi_wp2
        refine bodyPost_ret (results_none rfl _ _ _) rfl ?_
        exact ⟨⟨_, rfl⟩, .inl ⟨_, by rw [unhid hcut, cutB_none m _ hlt]; simp, hJ3⟩⟩
      · gi_wp2
        refine bodyPost_ret (results_none rfl _ _ _) rfl ?_
        exact ⟨⟨_, rfl⟩, .inr ⟨_, by rw [unhid hcut, cutB_none m _ hlt]; simp, hJx3⟩⟩
    · obtain ⟨i, hi⟩ : ∃ i : Nat, Lib.indexByte rest.data.toList m = i := ⟨(Lib.indexByte rest.data.toList m).toNat, by omega⟩
      obtain ⟨hil, hcr⟩ := cutB_some m _ i hi
      have hil' : i < rest.size := by rw [Lib.size_eq]; exact hil
      have Hcr := hid hcr
      have hx1 : (rest.extract 0 i).data.toList = rest.data.toList.take i := by rw [Lib.extract_data]; simp
      have hx2 : (rest.extract (i + 1) rest.size).data.toList = rest.data.toList.drop (i + 1) := by rw [Lib.extract_data, List.take_of_length_le (by simp)]
      have Hx1 := hid hx1
      have Hx2 := hid hx2
      clear hcr hil hx1 hx2
      have hx0 : (rest.extract 0 i).size ≤ maxLen := by unfold maxLen; simp; omega
      obtain ⟨fn, tmps, assign, body, hy, hR⟩ := hY _ ⟨rest.extract 0 i, hx0⟩ wr hJ hlen
      dsimp only at hy hR
      gi_wp2_with (gi_at_call 62; refine (hw _ _ _).mono ?_; rintro e w' ⟨rfl, rfl⟩)
      refine hR.mono ?_
      rintro e W3 (⟨rfl, hJ3, hk3⟩ | ⟨rfl, hJx3⟩)
      · have hm3 : W3.cell? ⟨Bm, 0, none⟩ = some (.int .u8 m.toNat) := hk3 Bm (by simp) _ hmr
        gi_wp2
        go_roundw
        case rel => exact ⟨_, rest.extract (i + 1) rest.size, by simp; omega, rfl, hid (by rw [unhid hcut, unhid Hcr, unhid Hx2, vals_snoc]; simp), hJ3, hm3⟩
        case measure => simp [strSize]; omega
      · gi_wp2
        refine bodyPost_ret (results_none rfl _ _ _) rfl ?_
        exact ⟨⟨_, rfl⟩, .inr ⟨_, by rw [unhid hcut, unhid Hcr, vals_snoc]; simp, hJx3⟩⟩

set_option maxHeartbeats 1000000 in
theorem partsOf_in (F : Fence) (n : Nat) (hf : F.fn 45) (hro : F.round = none) (s : ByteArray) (m : Int) (w : World) :
    CallsIn F n Try.prog 45 #[.string s, .int .u8 m] w fun e w' => e = .returned (.func (.func 61) #[] #[.pointer (some ⟨w.heap.size, 0, none⟩), .pointer (some ⟨w.heap.size + 1, 0, none⟩)]) ∧ w' = (w.alloc (.cells #[.string s] 9)).alloc (.cells #[.int .u8 m] 5) := by
  refine callsIn_of_wp Try.func45 rfl hf ?_ hro
  simp only [Try.ntmps45, List.size_toArray, List.length_cons, List.length_nil, Nat.reduceAdd, Nat.reduceSub, Array.replicate_succ, Array.replicate_zero, List.push_toArray, List.append_toArray, List.nil_append, List.cons_append]
  gi_wp2
  go_ret
  exact ⟨rfl, rfl⟩

theorem parts_stops (F : Fence) (n : Nat) (hf : F.fn 61) (hf2 : F.fn 62) (hro : F.round = none) (hn : 1 ≤ n)
    (hw : ∀ (s : ByteArray) (c : UInt8) (w : World), CallsIn F (n - 1) Try.prog 62 #[.string s, .int .u8 c.toNat] w fun e w' => e = .returned (.int .i64 (Lib.indexByte s.data.toList c)) ∧ w' = w)
    (Bs Bm : Nat) (s : ByteArray) (m : UInt8) (hs : s.size ≤ maxLen) (w : World) (hBs : Bs < w.heap.size) (hBm : Bm < w.heap.size)
    (hc : w.cell? ⟨Bs, 0, none⟩ = some (.string s)) (hm : w.cell? ⟨Bm, 0, none⟩ = some (.int .u8 m.toNat)) :
    SeqStopsK F n Try.prog 61 #[.pointer (some ⟨Bs, 0, none⟩), .pointer (some ⟨Bm, 0, none⟩)] (fun x : Str => #[Value.string x.1]) (Keeps [Bs, Bm]) (fun ys => vals ys = cutB m s.data.toList) (fun pre => vals pre <+: cutB m s.data.toList) (cutB m s.data.toList).length w := fun l J Jx W hW _ _ hY h0 =>
  parts1_in F n hf hf2 hro hn hw l Bs Bm s m hs J Jx hY W ((hW.cell (p := ⟨Bs, 0, none⟩) hBs).trans hc) ((hW.cell (p := ⟨Bm, 0, none⟩) hBm).trans hm) h0
end Go.Proofs.Ytobalkbddefaiaa
