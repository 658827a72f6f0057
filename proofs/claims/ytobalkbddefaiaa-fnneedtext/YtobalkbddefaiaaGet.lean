/- A need is read: by the program. -/
import Derived.Test.YtobalkbddefaiaaPut
namespace Go.Proofs.Ytobalkbddefaiaa
open Go.RowKit Go.Shelf

set_option maxHeartbeats 1000000 in
theorem slHasPrefix_any (s p : ByteArray) (w : World) :
    Calls Try.prog 65 #[.string s, .string p] w fun e w' => e = .returned (.bool (Lib.hasPrefix s.data.toList p.data.toList)) ∧ w' = w := by
  rw [← Lib.hasPrefix_of_take, ← Lib.size_eq, ← Lib.size_eq]
  go_enter Try.func65, Try.ntmps65
  go_wp2
  · rename_i h
    go_ret
    refine ⟨?_, rfl⟩
    show Ending.returned (Value.bool ((s.extract 0 p.size).toList == p.toList)) = _
    rw [Lib.extract_toList, Lib.toList_data]
    simp [h]
  · rename_i h
    go_ret
    refine ⟨?_, rfl⟩
    show Ending.returned (Value.bool false) = _
    simp [h]

def hasA (s p : ByteArray) : Bool := Lib.hasPrefix s.data.toList p.data.toList
/-- What is left behind a prefix, or the whole. -/
def cutA (s p : ByteArray) : ByteArray := if hasA s p then s.extract p.size s.size else s

set_option maxHeartbeats 1000000 in
theorem slCutPrefix_any (s p : ByteArray) (hs : s.size ≤ maxLen) (w : World) :
    Calls Try.prog 52 #[.string s, .string p] w fun e w' => e = .returned (.tuple #[.string (cutA s p), .bool (hasA s p)]) ∧ w' = w := by
  have hs' : s.size ≤ 9223372036854775807 := hs
  cases hp : hasA s p
  · have E := hid (show cutA s p = s by simp [cutA, hp])
    go_enter Try.func52, Try.ntmps52
    go_wp2_with fail
    refine (slHasPrefix_any _ _ _).mono ?_
    rintro e w' ⟨rfl, rfl⟩
    rw [show Lib.hasPrefix s.data.toList p.data.toList = _ from hp]
    go_wp2_with fail
    go_ret2
    exact ⟨by rw [unhid E]; rfl, rfl⟩
  · have E := hid (show cutA s p = s.extract p.size s.size by simp [cutA, hp])
    have hl : p.size ≤ s.size := by rw [Lib.size_eq, Lib.size_eq]; have h2 := hp; unfold hasA Lib.hasPrefix at h2; exact (List.isPrefixOf_iff_prefix.1 h2).length_le
    go_enter Try.func52, Try.ntmps52
    go_wp2_with fail
    refine (slHasPrefix_any _ _ _).mono ?_
    rintro e w' ⟨rfl, rfl⟩
    rw [show Lib.hasPrefix s.data.toList p.data.toList = _ from hp]
    go_wp2_with fail
    go_ret2
    exact ⟨by rw [unhid E]; rfl, rfl⟩

set_option maxHeartbeats 1000000 in
theorem CutPrefix_any (s p : ByteArray) (hs : s.size ≤ maxLen) (w : World) :
    Calls Try.prog 32 #[.string s, .string p] w fun e w' => e = .returned (.tuple #[.string (cutA s p), .bool (hasA s p)]) ∧ w' = w := by
  go_enter Try.func32, Try.ntmps32
  go_wp2_with fail
  refine (slCutPrefix_any _ _ hs _).mono ?_
  rintro e w' ⟨rfl, rfl⟩
  go_wp2_with fail
  go_ret2
  exact ⟨rfl, rfl⟩

/-- A kind is tried. -/
def restA (s : ByteArray) (e : Nat) : ByteArray := s.extract e s.size
def nameA (s : ByteArray) (e : Nat) : ByteArray := s.extract 0 e
def preB (s : ByteArray) (e : Nat) (k : Int) : Bool := hasA (restA s e) (markA k)
def tryB (s : ByteArray) (e : Nat) (k : Int) : Bool := preB s e k && needB (nameA s e).data.toList k (cutA (restA s e) (markA k)).data.toList
def needV (n : ByteArray) (k : Int) (v : ByteArray) (ok : Bool) : Value := .tuple #[.agg #[.string n, .int .i64 k, .string v], .bool ok]
def getV (s : ByteArray) (e : Nat) : Value :=
  if tryB s e 0 then needV (nameA s e) 0 (cutA (restA s e) (markA 0)) true else
  if tryB s e 1 then needV (nameA s e) 1 (cutA (restA s e) (markA 1)) true else
  if tryB s e 2 then needV (nameA s e) 2 (cutA (restA s e) (markA 2)) true else
  if tryB s e 3 then needV (nameA s e) 3 (cutA (restA s e) (markA 3)) true else needV ⟨#[]⟩ 0 ⟨#[]⟩ false
theorem getV_hit (s : ByteArray) (e j : Nat) (hj : j < 4) (h : ∀ i : Nat, i < j → tryB s e i = false) (ht : tryB s e j = true) : getV s e = needV (nameA s e) j (cutA (restA s e) (markA j)) true := by
  unfold getV
  have h0 := h 0
  have h1 := h 1
  have h2 := h 2
  rcases (by omega : j = 0 ∨ j = 1 ∨ j = 2 ∨ j = 3) with rfl | rfl | rfl | rfl <;> simp_all
theorem getV_none (s : ByteArray) (e : Nat) (h : ∀ i : Nat, i < 4 → tryB s e i = false) : getV s e = needV ⟨#[]⟩ 0 ⟨#[]⟩ false := by
  unfold getV
  have h0 := h 0
  have h1 := h 1
  have h2 := h 2
  have h3 := h 3
  simp_all
/-- A need lies at the head of a block of its own. -/
def NeedAt (W : World) (b : Nat) (n : ByteArray) (k : Int) (v : ByteArray) : Prop :=
  (W.cell? ⟨b, 0, none⟩ = some (.string n) ∧ W.frozen? ⟨b, 0, none⟩ = false) ∧ (W.cell? ⟨b, 1, none⟩ = some (.int .i64 k) ∧ W.frozen? ⟨b, 1, none⟩ = false) ∧ W.cell? ⟨b, 2, none⟩ = some (.string v) ∧ W.frozen? ⟨b, 2, none⟩ = false
theorem needAt_new (W : World) (n : ByteArray) (k : Int) (v : ByteArray) (t : TypeId) : NeedAt (W.alloc (.cells #[.string n, .int .i64 k, .string v] t)) W.heap.size n k v := by
  refine ⟨⟨?_, ?_⟩, ⟨?_, ?_⟩, ?_, ?_⟩ <;> simp [go_sem]
theorem NeedAt.below {W W' : World} {b B : Nat} {n : ByteArray} {k : Int} {v : ByteArray} (h : NeedAt W b n k v) (hb : Below B W W') (hB : b < B) : NeedAt W' b n k v :=
  ⟨⟨(hb.cell (p := ⟨b, 0, none⟩) hB).trans h.1.1, (hb.frozen (p := ⟨b, 0, none⟩) hB).trans h.1.2⟩, ⟨(hb.cell (p := ⟨b, 1, none⟩) hB).trans h.2.1.1, (hb.frozen (p := ⟨b, 1, none⟩) hB).trans h.2.1.2⟩, (hb.cell (p := ⟨b, 2, none⟩) hB).trans h.2.2.1, (hb.frozen (p := ⟨b, 2, none⟩) hB).trans h.2.2.2⟩
/-- Where the bytes of a pack's name end. -/
def PackEnd (s : ByteArray) (e : Nat) : Prop := e ≤ s.size ∧ (∀ j (hj : j < s.size), j < e → packC (s[j].toNat : Int) = true) ∧ ∀ (he : e < s.size), packC (s[e].toNat : Int) = false

set_option maxRecDepth 100000 in
set_option maxHeartbeats 4000000 in
theorem NeedGet_any (s : ByteArray) (hs : s.size ≤ 1048576) (w : World) :
    Calls Try.prog 14 #[.string s] w fun e W' => (∃ k, PackEnd s k ∧ e = .returned (getV s k)) ∧ Below w.heap.size w W' := by
  go_enter Try.func14, Try.ntmps14
  go_wp2_with fail
  go_loop [4] (fun i => ∃ k : Nat, k ≤ s.size ∧ i = .int .i64 k ∧ Hid (∀ j (hj : j < s.size), j < k → packC (s[j].toNat : Int) = true)) (fun i => s.size - (intOf i).toNat)
  case atStart => exact ⟨0, by omega, rfl, hid (fun j hj h => by omega)⟩
  case round =>
    obtain ⟨k, hk, rfl, hc⟩ := hrel
    by_cases hlt : k < s.size
    · go_wp2_with fail
      refine (isPackByte_any _ _).mono ?_
      rintro e w' ⟨rfl, rfl⟩
      cases hx : packC (s[k].toNat : Int)
      case true =>
        go_wp2_with fail
        refine ⟨⟨k + 1, by omega, by go_num, hid (fun j hj h => ?_)⟩, by simp [intOf]; omega⟩
        by_cases hjk : j < k
        · exact unhid hc j hj hjk
        · obtain rfl : j = k := by omega
          exact hx
      have HE := hid (show PackEnd s k from ⟨hk, unhid hc, fun _ => hx⟩)
      clear hc
      go_wp2_with fail
      go_loopw [5, 6, 7, 8] (fun kk _ _ _ wr => ∃ j : Nat, j ≤ 4 ∧ kk = .int .i64 j ∧ Hid (∀ i : Nat, i < j → tryB s k i = false) ∧ Hid (Below (w.heap.size + 1) (w.alloc (.cells #[.string ⟨#[]⟩, .int .i64 0, .string ⟨#[]⟩] 30)) wr)) (fun kk _ _ _ _ => 4 - (intOf kk).toNat)
      case atStart => exact ⟨0, by omega, rfl, hid (fun i h => by omega), hid (Below.refl _ _)⟩
      case round =>
        obtain ⟨j, hj, rfl, hno, HB⟩ := hrel
        by_cases hj4 : j < 4
        · have hk3 : (j : Int) ≤ 3 := by omega
          have rz : (s.extract k s.size).size ≤ maxLen := by rw [ByteArray.size_extract]; unfold maxLen; omega
          go_wp2_with fail
          go_quiet (first | (go_at_call 30; exact Calls.quiet_of_same (needMark_any _ _)) | (go_at_call 32; exact Calls.quiet_of_same (CutPrefix_any _ _ rz _)))
          have HQ := hid (show Below (w.heap.size + 1) (w.alloc (.cells #[.string ⟨#[]⟩, .int .i64 0, .string ⟨#[]⟩] 30)) (wr.drewN nq) from ⟨(unhid HB).os, (unhid HB).tape, (unhid HB).output, (unhid HB).size, (unhid HB).block⟩)
          clear HB
          generalize wr.drewN nq = wq at HQ ⊢
          have ht : tryB s k j = (hasA (s.extract k s.size) (markA j) && needB (s.extract 0 k).data.toList j (cutA (s.extract k s.size) (markA j)).data.toList) := rfl
          have hv : getV s k = getV s k := rfl
          have hg := getV_hit s k j hj4 (unhid hno)
          unfold restA at hg
          have hrz : (cutA (s.extract k s.size) (markA j)).size ≤ maxLen := by
            unfold cutA; split
            · rw [ByteArray.size_extract]; unfold maxLen at rz ⊢; omega
            · exact rz
          have hnz : (s.extract 0 k).size ≤ maxLen := by rw [ByteArray.size_extract]; unfold maxLen; omega
          generalize s.extract k s.size = rest at rz ht hg hrz ⊢
          have HT := hid ht
          have HG := hid hg
          clear ht hg hv
          cases hp : hasA rest (markA j)
          · go_wp2_with fail
            have hfail : tryB s k j = false := by rw [unhid HT, hp]; rfl
            refine ⟨⟨j + 1, by omega, by go_num, hid (fun i hi => ?_), hid ((unhid HQ).alloc (by have := (unhid HQ).size; simpa using this) _)⟩, by simp [intOf]; omega⟩
            by_cases hij : i < j
            · exact unhid hno i hij
            · obtain rfl : i = j := by omega
              exact hfail
          · go_wp2_with fail
            refine (NeedOk_any _ _ _ hnz hrz _).mono ?_
            rintro e w2 ⟨rfl, hb⟩
            have HA := hid ((unhid HQ).alloc (by have := (unhid HQ).size; simpa using this) (.cells #[.string (s.extract 0 k), .int .i64 j, .string (cutA rest (markA j))] 30))
            have H2 := hid ((unhid HA).trans (hb.mono (by have := (unhid HA).size; simpa using this)))
            obtain ⟨⟨d0, g0⟩, ⟨d1, g1⟩, d2, g2⟩ := (needAt_new wq _ _ _ _).below hb (by simp)
            obtain ⟨⟨c0, f0⟩, ⟨c1, f1⟩, c2, f2⟩ := (needAt_new w _ _ _ _).below (unhid H2) (Nat.lt_succ_self _)
            clear hb
            cases hn : needB (s.extract 0 k).data.toList j (cutA rest (markA j)).data.toList
            · go_wp2_with fail
              have hfail : tryB s k j = false := by rw [unhid HT, hn, Bool.and_false]
              refine ⟨⟨j + 1, by omega, by go_num, hid (fun i hi => ?_), H2⟩, by simp [intOf]; omega⟩
              by_cases hij : i < j
              · exact unhid hno i hij
              · obtain rfl : i = j := by omega
                exact hfail
            · have E := hid (unhid HG (by rw [unhid HT, hp, hn]; rfl))
              go_wp2_with fail
              refine bodyPost_ret (v := needV (s.extract 0 k) j (cutA rest (markA j)) true) (by simp [results, Try.results14, go_sem, needV, World.cell?_setCell_same', c0, c1, c2]) rfl ⟨⟨k, unhid HE, by rw [unhid E]; rfl⟩, ?_⟩
              exact ((((Below.refl _ w).alloc (Nat.le_refl _) _).trans ((unhid H2).mono (Nat.le_succ _))).setCell (Nat.le_refl _) _ |>.setCell (Nat.le_refl _) _).setCell (Nat.le_refl _) _
        · obtain rfl : j = 4 := by omega
          have E := hid (getV_none s k (unhid hno))
          obtain ⟨⟨c0, f0⟩, ⟨c1, f1⟩, c2, f2⟩ := (needAt_new w _ _ _ _).below (unhid HB) (Nat.lt_succ_self _)
          go_wp2_with fail
          refine bodyPost_ret (v := needV ⟨#[]⟩ 0 ⟨#[]⟩ false) (by simp [results, Try.results14, go_sem, needV, World.cell?_setCell_same', c0, c1, c2]) rfl ⟨⟨k, unhid HE, by rw [unhid E]⟩, ?_⟩
          exact ((((Below.refl _ w).alloc (Nat.le_refl _) _).trans ((unhid HB).mono (Nat.le_succ _))).setCell (Nat.le_refl _) _ |>.setCell (Nat.le_refl _) _).setCell (Nat.le_refl _) _
    · have HE := hid (show PackEnd s k from ⟨hk, unhid hc, fun h => absurd h hlt⟩)
      clear hc
      go_wp2_with fail
      go_loopw [5, 6, 7, 8] (fun kk _ _ _ wr => ∃ j : Nat, j ≤ 4 ∧ kk = .int .i64 j ∧ Hid (∀ i : Nat, i < j → tryB s k i = false) ∧ Hid (Below (w.heap.size + 1) (w.alloc (.cells #[.string ⟨#[]⟩, .int .i64 0, .string ⟨#[]⟩] 30)) wr)) (fun kk _ _ _ _ => 4 - (intOf kk).toNat)
      case atStart => exact ⟨0, by omega, rfl, hid (fun i h => by omega), hid (Below.refl _ _)⟩
      case round =>
        obtain ⟨j, hj, rfl, hno, HB⟩ := hrel
        by_cases hj4 : j < 4
        · have hk3 : (j : Int) ≤ 3 := by omega
          have rz : (s.extract k s.size).size ≤ maxLen := by rw [ByteArray.size_extract]; unfold maxLen; omega
          go_wp2_with fail
          go_quiet (first | (go_at_call 30; exact Calls.quiet_of_same (needMark_any _ _)) | (go_at_call 32; exact Calls.quiet_of_same (CutPrefix_any _ _ rz _)))
          have HQ := hid (show Below (w.heap.size + 1) (w.alloc (.cells #[.string ⟨#[]⟩, .int .i64 0, .string ⟨#[]⟩] 30)) (wr.drewN nq) from ⟨(unhid HB).os, (unhid HB).tape, (unhid HB).output, (unhid HB).size, (unhid HB).block⟩)
          clear HB
          generalize wr.drewN nq = wq at HQ ⊢
          have ht : tryB s k j = (hasA (s.extract k s.size) (markA j) && needB (s.extract 0 k).data.toList j (cutA (s.extract k s.size) (markA j)).data.toList) := rfl
          have hv : getV s k = getV s k := rfl
          have hg := getV_hit s k j hj4 (unhid hno)
          unfold restA at hg
          have hrz : (cutA (s.extract k s.size) (markA j)).size ≤ maxLen := by
            unfold cutA; split
            · rw [ByteArray.size_extract]; unfold maxLen at rz ⊢; omega
            · exact rz
          have hnz : (s.extract 0 k).size ≤ maxLen := by rw [ByteArray.size_extract]; unfold maxLen; omega
          generalize s.extract k s.size = rest at rz ht hg hrz ⊢
          have HT := hid ht
          have HG := hid hg
          clear ht hg hv
          cases hp : hasA rest (markA j)
          · go_wp2_with fail
            have hfail : tryB s k j = false := by rw [unhid HT, hp]; rfl
            refine ⟨⟨j + 1, by omega, by go_num, hid (fun i hi => ?_), hid ((unhid HQ).alloc (by have := (unhid HQ).size; simpa using this) _)⟩, by simp [intOf]; omega⟩
            by_cases hij : i < j
            · exact unhid hno i hij
            · obtain rfl : i = j := by omega
              exact hfail
          · go_wp2_with fail
            refine (NeedOk_any _ _ _ hnz hrz _).mono ?_
            rintro e w2 ⟨rfl, hb⟩
            have HA := hid ((unhid HQ).alloc (by have := (unhid HQ).size; simpa using this) (.cells #[.string (s.extract 0 k), .int .i64 j, .string (cutA rest (markA j))] 30))
            have H2 := hid ((unhid HA).trans (hb.mono (by have := (unhid HA).size; simpa using this)))
            obtain ⟨⟨d0, g0⟩, ⟨d1, g1⟩, d2, g2⟩ := (needAt_new wq _ _ _ _).below hb (by simp)
            obtain ⟨⟨c0, f0⟩, ⟨c1, f1⟩, c2, f2⟩ := (needAt_new w _ _ _ _).below (unhid H2) (Nat.lt_succ_self _)
            clear hb
            cases hn : needB (s.extract 0 k).data.toList j (cutA rest (markA j)).data.toList
            · go_wp2_with fail
              have hfail : tryB s k j = false := by rw [unhid HT, hn, Bool.and_false]
              refine ⟨⟨j + 1, by omega, by go_num, hid (fun i hi => ?_), H2⟩, by simp [intOf]; omega⟩
              by_cases hij : i < j
              · exact unhid hno i hij
              · obtain rfl : i = j := by omega
                exact hfail
            · have E := hid (unhid HG (by rw [unhid HT, hp, hn]; rfl))
              go_wp2_with fail
              refine bodyPost_ret (v := needV (s.extract 0 k) j (cutA rest (markA j)) true) (by simp [results, Try.results14, go_sem, needV, World.cell?_setCell_same', c0, c1, c2]) rfl ⟨⟨k, unhid HE, by rw [unhid E]; rfl⟩, ?_⟩
              exact ((((Below.refl _ w).alloc (Nat.le_refl _) _).trans ((unhid H2).mono (Nat.le_succ _))).setCell (Nat.le_refl _) _ |>.setCell (Nat.le_refl _) _).setCell (Nat.le_refl _) _
        · obtain rfl : j = 4 := by omega
          have E := hid (getV_none s k (unhid hno))
          obtain ⟨⟨c0, f0⟩, ⟨c1, f1⟩, c2, f2⟩ := (needAt_new w _ _ _ _).below (unhid HB) (Nat.lt_succ_self _)
          go_wp2_with fail
          refine bodyPost_ret (v := needV ⟨#[]⟩ 0 ⟨#[]⟩ false) (by simp [results, Try.results14, go_sem, needV, World.cell?_setCell_same', c0, c1, c2]) rfl ⟨⟨k, unhid HE, by rw [unhid E]⟩, ?_⟩
          exact ((((Below.refl _ w).alloc (Nat.le_refl _) _).trans ((unhid HB).mono (Nat.le_succ _))).setCell (Nat.le_refl _) _ |>.setCell (Nat.le_refl _) _).setCell (Nat.le_refl _) _
end Go.Proofs.Ytobalkbddefaiaa
