/- Texts of this proof, one behind the other; each says at its head what it shows. -/
import Derived.Test.YtfphpggjcljliaaGreatJoin1
import Derived.Laws.EntriesVeiled
import Derived.Maps.AppendAt
import Derived.Deep.QuietTactic
import Derived.BigQuiet
import Derived.Test.YtfphpggjcljliaaGreatJoin6
import Derived.Maps.OwnIn
import Derived.Deep.OwnRows
/- What is left of a text behind a prefix. -/
namespace Go.Proofs.YtfphpggjcljliaaGreat
open Go.RowKit Go.Shelf

set_option maxHeartbeats 1000000 in
theorem slHasPrefixG_any (s p : ByteArray) (w : World) :
    Calls Tryz.prog 109 #[.string s, .string p] w fun e w' => e = .returned (.bool (Lib.hasPrefix s.data.toList p.data.toList)) ∧ w' = w := by
  rw [← Lib.hasPrefix_of_take, ← Lib.size_eq, ← Lib.size_eq]
  go_enter Tryz.func109, Tryz.ntmps109
  go_wp2
  · rename_i h
    go_ret
    refine ⟨?_, rfl⟩
    show Ending.returned (Value.bool ((s.extract 0 p.size).toList == p.toList)) = _
    rw [Lib.extract_toList, Lib.toList_data]
    simp [h]
  · rename_i h
    go_ret
    refine ⟨?_, rfl⟩
    show Ending.returned (Value.bool false) = _
    simp [h]

def hasA (s p : ByteArray) : Bool := Lib.hasPrefix s.data.toList p.data.toList
/-- What is left behind a prefix, or the whole. -/
def cutA (s p : ByteArray) : ByteArray := if hasA s p then s.extract p.size s.size else s

set_option maxHeartbeats 1000000 in
theorem slCutPrefix_any (s p : ByteArray) (hs : s.size ≤ maxLen) (w : World) :
    Calls Tryz.prog 108 #[.string s, .string p] w fun e w' => e = .returned (.tuple #[.string (cutA s p), .bool (hasA s p)]) ∧ w' = w := by
  have hs' : s.size ≤ 9223372036854775807 := hs
  cases hp : hasA s p
  · have E := hid (show cutA s p = s by simp [cutA, hp])
    go_enter Tryz.func108, Tryz.ntmps108
    go_wp2_with fail
    refine (slHasPrefixG_any _ _ _).mono ?_
    rintro e w' ⟨rfl, rfl⟩
    rw [show Lib.hasPrefix s.data.toList p.data.toList = _ from hp]
    go_wp2_with fail
    go_ret2
    exact ⟨by rw [unhid E]; rfl, rfl⟩
  · have E := hid (show cutA s p = s.extract p.size s.size by simp [cutA, hp])
    have hl : p.size ≤ s.size := by rw [Lib.size_eq, Lib.size_eq]; have h2 := hp; unfold hasA Lib.hasPrefix at h2; exact (List.isPrefixOf_iff_prefix.1 h2).length_le
    go_enter Tryz.func108, Tryz.ntmps108
    go_wp2_with fail
    refine (slHasPrefixG_any _ _ _).mono ?_
    rintro e w' ⟨rfl, rfl⟩
    rw [show Lib.hasPrefix s.data.toList p.data.toList = _ from hp]
    go_wp2_with fail
    go_ret2
    exact ⟨by rw [unhid E]; rfl, rfl⟩

set_option maxHeartbeats 1000000 in
theorem CutPrefix_any (s p : ByteArray) (hs : s.size ≤ maxLen) (w : World) :
    Calls Tryz.prog 104 #[.string s, .string p] w fun e w' => e = .returned (.tuple #[.string (cutA s p), .bool (hasA s p)]) ∧ w' = w := by
  go_enter Tryz.func104, Tryz.ntmps104
  go_wp2_with fail
  refine (slCutPrefix_any _ _ hs _).mono ?_
  rintro e w' ⟨rfl, rfl⟩
  go_wp2_with fail
  go_ret2
  exact ⟨rfl, rfl⟩
end Go.Proofs.YtfphpggjcljliaaGreat

/- What the beginning of a pattern's name wants, as the program reads it. -/
namespace Go.Proofs.YtfphpggjcljliaaGreat
open Go.RowKit Go.Shelf

/-- One place of a name of a pattern. -/
abbrev W8 := Option (Option (UInt8 ⊕ ByteArray × Bool))
abbrev W8.star : W8 := none
abbrev W8.any : W8 := some none
abbrev W8.byte (c : UInt8) : W8 := some (some (.inl c))
abbrev W8.cls (inner : ByteArray) (others : Bool) : W8 := some (some (.inr (inner, others)))

/-- What a want's value is that the program keeps; what it captured lies in blocks of a kind. -/
def WantIs (W : World) (P : Nat → Prop) : W8 → Bool → Value → Prop
  | none, run, fv => run = true ∧ fv = .nilFunc
  | some none, run, fv => run = false ∧ fv = .func (.func 99) #[] #[]
  | some (some (.inl c)), run, fv => run = false ∧ ∃ b, fv = .func (.func 101) #[] #[.pointer (some ⟨b, 0, none⟩)] ∧ P b ∧ b < W.heap.size ∧ W.cell? ⟨b, 0, none⟩ = some (.int .u8 c.toNat)
  | some (some (.inr (inner, others))), run, fv => run = false ∧ ∃ b d, fv = .func (.func 105) #[] #[.pointer (some ⟨b, 0, none⟩), .pointer (some ⟨d, 0, none⟩)] ∧ (P b ∧ b < W.heap.size ∧ W.cell? ⟨b, 0, none⟩ = some (.string inner)) ∧ P d ∧ d < W.heap.size ∧ W.cell? ⟨d, 0, none⟩ = some (.bool others)
def WantR (W : World) (P : Nat → Prop) (r : Option (W8 × Nat)) (run : Bool) (fv : Value) (sz : Int) (ok : Bool) : Prop :=
  match r with
  | none => run = false ∧ fv = .nilFunc ∧ sz = 0 ∧ ok = false
  | some (x, n) => ok = true ∧ sz = n ∧ WantIs W P x run fv
theorem WantIs.kept {W W' : World} {P P' : Nat → Prop} {x : W8} {run : Bool} {fv : Value} (h : WantIs W P x run fv) (hs : W.heap.size ≤ W'.heap.size) (hk : ∀ b, P b → b < W.heap.size → W'.heap[b]? = W.heap[b]?) (hP : ∀ b, P b → b < W.heap.size → P' b) : WantIs W' P' x run fv := by
  rcases x with _ | _ | c | ⟨inner, others⟩
  · exact h
  · exact h
  · obtain ⟨h0, b, h1, h2, h3, h4⟩ := h
    exact ⟨h0, b, h1, hP b h2 h3, Nat.lt_of_lt_of_le h3 hs, (World.cell?_of_block (w := W) (hk b h2 h3)).trans h4⟩
  · obtain ⟨h0, b, d, h1, ⟨h2, h3, h4⟩, h5, h6, h7⟩ := h
    exact ⟨h0, b, d, h1, ⟨hP b h2 h3, Nat.lt_of_lt_of_le h3 hs, (World.cell?_of_block (w := W) (hk b h2 h3)).trans h4⟩, hP d h5 h6, Nat.lt_of_lt_of_le h6 hs, (World.cell?_of_block (w := W) (hk d h5 h6)).trans h7⟩
theorem WantR.kept {W W' : World} {P P' : Nat → Prop} {r : Option (W8 × Nat)} {run : Bool} {fv : Value} {sz : Int} {ok : Bool} (h : WantR W P r run fv sz ok) (hs : W.heap.size ≤ W'.heap.size) (hk : ∀ b, P b → b < W.heap.size → W'.heap[b]? = W.heap[b]?) (hP : ∀ b, P b → b < W.heap.size → P' b) : WantR W' P' r run fv sz ok := by
  cases r with
  | none => exact h
  | some p => obtain ⟨x, n⟩ := p; exact ⟨h.1, h.2.1, h.2.2.kept hs hk hP⟩
theorem WantIs.form {W : World} {P : Nat → Prop} {x : W8} {run : Bool} {fv : Value} (h : WantIs W P x run fv) : fv = .nilFunc ∨ ∃ f ca, fv = .func (.func f) #[] ca := by
  rcases x with _ | _ | c | ⟨inner, others⟩
  · exact .inl h.2
  · exact .inr ⟨_, _, h.2⟩
  · obtain ⟨_, b, g1, _⟩ := h; exact .inr ⟨_, _, g1⟩
  · obtain ⟨_, b, d, g1, _⟩ := h; exact .inr ⟨_, _, g1⟩
theorem WantR.oneCell {W : World} {P : Nat → Prop} {r : Option (W8 × Nat)} {run : Bool} {fv : Value} {sz : Int} {ok : Bool} (h : WantR W P r run fv sz ok) : fv.oneCell' = true := by
  have : fv = .nilFunc ∨ ∃ f ca, fv = .func (.func f) #[] ca := by
    cases r with
    | none => exact .inl h.2.1
    | some p => obtain ⟨x, n⟩ := p; exact h.2.2.form
  rcases this with rfl | ⟨f, ca, rfl⟩ <;> rfl
theorem cell_two_l (W : World) (u v : Value) (t : TypeId) : (W.alloc (.cells #[u, v] t)).cell? ⟨W.heap.size, 0, none⟩ = some u ∧ (W.alloc (.cells #[u, v] t)).cell? ⟨W.heap.size, 1, none⟩ = some v ∧ (W.alloc (.cells #[u, v] t)).frozen? ⟨W.heap.size, 0, none⟩ = false ∧ (W.alloc (.cells #[u, v] t)).frozen? ⟨W.heap.size, 1, none⟩ = false := by
  refine ⟨?_, ?_, ?_, ?_⟩ <;> simp [go_sem]
/-- What a class is read as. -/
def bang : ByteArray := ⟨#[33]⟩
def clsA (s : ByteArray) (i : Nat) : ByteArray := cutA (s.extract 1 i) bang
def classR (s : ByteArray) : Option (W8 × Nat) :=
  if Lib.indexByte s.data.toList 93 < 0 then none
  else if (clsA s (Lib.indexByte s.data.toList 93).toNat).toList.isEmpty || !((clsA s (Lib.indexByte s.data.toList 93).toNat).data.toList.all fun c => nameB c.toNat) then none
  else some (.cls (clsA s (Lib.indexByte s.data.toList 93).toNat) (hasA (s.extract 1 (Lib.indexByte s.data.toList 93).toNat) bang), (Lib.indexByte s.data.toList 93).toNat + 1)

set_option maxRecDepth 100000 in
set_option maxHeartbeats 2000000 in
theorem classWant_any (s : ByteArray) (hs : s.size ≤ maxLen) (h0 : s.data.toList[0]? = some 91) (w : World) :
    Calls Tryz.prog 100 #[.string s] w fun e W' => ∃ run fv sz ok, e = .returned (.tuple #[.agg #[.bool run, fv], .int .i64 sz, .bool ok]) ∧ WantR W' (fun b => w.heap.size ≤ b) (classR s) run fv sz ok ∧ Below w.heap.size w W' := by
  have hs' : s.size ≤ 9223372036854775807 := hs
  have hc0 := cell_two_l w (.bool false) .nilFunc 123
  obtain ⟨c0, c1, f0, f1⟩ := hc0
  have HB0 := hid (show Below w.heap.size w (w.alloc (.cells #[.bool false, .nilFunc] 123)) from (Below.refl _ w).alloc (Nat.le_refl _) _)
  by_cases hi : Lib.indexByte s.data.toList 93 < 0
  · have E := hid (show classR s = none by simp [classR, hi])
    go_enter Tryz.func100, Tryz.ntmps100
    go_wp2_with fail
    refine (IndexByte_any s 93 _).mono ?_
    rintro e w1 ⟨rfl, rfl⟩
    have hi' : Lib.indexByte s.data.toList (Int.toNat 93).toUInt8 < 0 := hi
    go_wp2_with fail
    refine bodyPost_ret (v := .tuple #[.agg #[.bool false, .nilFunc], .int .i64 0, .bool false]) (by simp [results, Tryz.results100, go_sem]) rfl ⟨false, .nilFunc, 0, false, rfl, by rw [unhid E]; exact ⟨rfl, rfl, rfl, rfl⟩, ?_⟩
    exact unhid HB0
  · obtain ⟨i, ei⟩ : ∃ i : Nat, Lib.indexByte s.data.toList 93 = i := ⟨(Lib.indexByte s.data.toList 93).toNat, by omega⟩
    have hil : i < s.size := by rw [Lib.size_eq]; exact (cutB_some 93 _ i ei).1
    have hi1 : 1 ≤ i := by
      rcases Nat.eq_zero_or_pos i with rfl | h
      · exfalso
        cases hl : s.data.toList with
        | nil => rw [hl] at h0; cases h0
        | cons c t =>
          rw [hl] at h0 ei
          simp at h0
          subst h0
          have := Lib.indexByte_ge t 93
          simp [Lib.indexByte] at ei
          split at ei <;> omega
      · exact h
    have mz : (s.extract 1 i).size ≤ maxLen := by rw [ByteArray.size_extract]; unfold maxLen; omega
    have cz : (clsA s i).size ≤ maxLen := by
      unfold clsA cutA; split
      · rw [ByteArray.size_extract]; unfold maxLen at mz ⊢; omega
      · exact mz
    have EC : classR s = if (clsA s i).toList.isEmpty || !((clsA s i).data.toList.all fun c => nameB c.toNat) then none else some (.cls (clsA s i) (hasA (s.extract 1 i) bang), i + 1) := by
      unfold classR; rw [if_neg hi, ei]; rfl
    have HC := hid EC
    have Ei := hid (show Lib.indexByte s.data.toList (Int.toNat 93).toUInt8 = i from ei)
    clear EC ei hi
    go_enter Tryz.func100, Tryz.ntmps100
    go_wp2_with fail
    refine (IndexByte_any s 93 _).mono ?_
    rintro e w1 ⟨rfl, rfl⟩
    rw [unhid Ei]
    go_wp2_with fail
    refine (CutPrefix_any (s.extract 1 i) bang mz _).mono ?_
    rintro e w1 ⟨rfl, rfl⟩
    rw [show cutA (s.extract 1 i) bang = clsA s i from rfl]
    generalize hasA (s.extract 1 i) bang = oth at HC ⊢
    generalize clsA s i = inner at HC cz ⊢
    have hW : ∃ W, W = ((w.alloc (.cells #[.bool false, .nilFunc] 123)).alloc (.cells #[.string inner] 9)).alloc (.cells #[.bool oth] 4) := ⟨_, rfl⟩
    obtain ⟨W, hW⟩ := hW
    have hz : W.heap.size = w.heap.size + 3 := by rw [hW]; simp
    have HBW := hid (show Below w.heap.size w W by rw [hW]; exact (((Below.refl _ w).alloc (Nat.le_refl _) _).alloc (by simp) _).alloc (by simp; omega) _)
    have hA : Below (w.heap.size + 1) (w.alloc (.cells #[.bool false, .nilFunc] 123)) W := by rw [hW]; exact ((Below.refl _ _).alloc (by simp) _).alloc (by simp) _
    have a0 := hid ((hA.cell (p := ⟨w.heap.size, 0, none⟩) (Nat.lt_succ_self _)).trans c0)
    have a1 := hid ((hA.cell (p := ⟨w.heap.size, 1, none⟩) (Nat.lt_succ_self _)).trans c1)
    have g0 := hid ((hA.frozen (p := ⟨w.heap.size, 0, none⟩) (Nat.lt_succ_self _)).trans f0)
    have g1 := hid ((hA.frozen (p := ⟨w.heap.size, 1, none⟩) (Nat.lt_succ_self _)).trans f1)
    have b0 := hid (show W.cell? ⟨w.heap.size + 1, 0, none⟩ = some (.string inner) by rw [hW]; simp [go_sem])
    have d0 := hid (show W.cell? ⟨w.heap.size + 1 + 1, 0, none⟩ = some (.bool oth) by rw [hW]; simp [go_sem])
    clear hA c0 c1 f0 f1
    cases he : inner.toList.isEmpty
    · go_wp2_with fail
      rw [← hW]
      clear hW
      refine (allBytes_any 79 nameB eg79 isNameByte_any inner cz _).mono ?_
      rintro e w2 ⟨rfl, hb⟩
      have HB2 := hid ((unhid HBW).trans (hb.mono (unhid HBW).size))
      have c0 := (hb.cell (p := ⟨w.heap.size, 0, none⟩) (by rw [hz]; simp)).trans (unhid a0)
      have c1 := (hb.cell (p := ⟨w.heap.size, 1, none⟩) (by rw [hz]; simp)).trans (unhid a1)
      have f0 := (hb.frozen (p := ⟨w.heap.size, 0, none⟩) (by rw [hz]; simp)).trans (unhid g0)
      have f1 := (hb.frozen (p := ⟨w.heap.size, 1, none⟩) (by rw [hz]; simp)).trans (unhid g1)
      have b1 := hid ((hb.cell (p := ⟨w.heap.size + 1, 0, none⟩) (by rw [hz]; simp)).trans (unhid b0))
      have d1 := hid ((hb.cell (p := ⟨w.heap.size + 1 + 1, 0, none⟩) (by rw [hz]; simp)).trans (unhid d0))
      have hz2 : w.heap.size + 3 ≤ w2.heap.size := by have := hb.size; omega
      clear hb
      cases ha : (inner.data.toList.all fun c => nameB c.toNat)
      · have E := hid (show classR s = none by rw [unhid HC, he, ha]; rfl)
        go_wp2_with fail
        refine bodyPost_ret (v := .tuple #[.agg #[.bool false, .nilFunc], .int .i64 0, .bool false]) (by simp [results, Tryz.results100, go_sem, World.cell?_setCell_same', c0, c1]) rfl ⟨false, .nilFunc, 0, false, rfl, by rw [unhid E]; exact ⟨rfl, rfl, rfl, rfl⟩, ?_⟩
        exact ((unhid HB2).setCell (Nat.le_refl _) _).setCell (Nat.le_refl _) _
      · have E := hid (show classR s = some (.cls inner oth, i + 1) by rw [unhid HC, he, ha]; rfl)
        go_wp2_with fail
        refine bodyPost_ret (v := .tuple #[.agg #[.bool false, .func (.func 105) #[] #[.pointer (some ⟨w.heap.size + 1, 0, none⟩), .pointer (some ⟨w.heap.size + 1 + 1, 0, none⟩)]], .int .i64 ((i : Int) + 1), .bool true]) (by simp [results, Tryz.results100, go_sem, World.cell?_setCell_same', c0, c1]) rfl ⟨false, _, (i : Int) + 1, true, rfl, ?_, ?_⟩
        · rw [unhid E]
          refine ⟨rfl, by simp, rfl, _, _, rfl, ⟨by omega, by simp; omega, ?_⟩, by omega, by simp; omega, ?_⟩
          · rw [World.cell?_setCell_other (h := by simp), World.cell?_setCell_other (h := by simp)]; exact unhid b1
          · rw [World.cell?_setCell_other (h := by simp), World.cell?_setCell_other (h := by simp)]; exact unhid d1
        · exact ((unhid HB2).setCell (Nat.le_refl _) _).setCell (Nat.le_refl _) _
    · have E := hid (show classR s = none by rw [unhid HC, he]; rfl)
      go_wp2_with fail
      refine bodyPost_ret (v := .tuple #[.agg #[.bool false, .nilFunc], .int .i64 0, .bool false]) (by simp [results, Tryz.results100, go_sem]) rfl ⟨false, .nilFunc, 0, false, rfl, by rw [unhid E]; exact ⟨rfl, rfl, rfl, rfl⟩, ?_⟩
      rw [← hW]; exact unhid HBW

/-- What the beginning of a text that is not empty is read as. -/
def firstR (s : ByteArray) (c : UInt8) : Option (W8 × Nat) :=
  if c = 42 then some (.star, 1) else if c = 63 then some (.any, 1) else if c = 91 then classR s else if nameB c.toNat then some (.byte c, 1) else none
theorem eq_no {c b : UInt8} {n : Int} (hn : (b.toNat : Int) = n) (h : c ≠ b) : (((c.toNat : Nat) : Int) == n) = false := by
  rw [beq_eq_false_iff_ne]
  intro e
  exact h (UInt8.toNat_inj.1 (by omega))

set_option maxRecDepth 100000 in
set_option maxHeartbeats 2000000 in
theorem firstWant_any (s : ByteArray) (hs : s.size ≤ maxLen) (h0 : 0 < s.size) (w : World) :
    Calls Tryz.prog 83 #[.string s] w fun e W' => ∃ run fv sz ok, e = .returned (.tuple #[.agg #[.bool run, fv], .int .i64 sz, .bool ok]) ∧ WantR W' (fun b => w.heap.size ≤ b) (firstR s s[0]) run fv sz ok ∧ Below w.heap.size w W' := by
  have hs' : s.size ≤ 9223372036854775807 := hs
  have HBW := hid (show Below w.heap.size w ((w.alloc (.cells #[.bool false, .nilFunc] 123)).alloc (.cells #[.int .u8 (s[0]).toNat] 5)) from ((Below.refl _ w).alloc (Nat.le_refl _) _).alloc (by simp) _)
  have h91 : s[0] = 91 → s.data.toList[0]? = some 91 := fun h => by rw [getByte s 0 h0, h]
  have H91 := hid h91
  clear h91
  have two : ∀ (x y : Obj), Below w.heap.size w ((w.alloc x).alloc y) := fun x y => ((Below.refl _ w).alloc (Nat.le_refl _) _).alloc (by simp) _
  have H2 := hid two
  clear two
  by_cases e1 : s[0] = 42
  · have E := hid (show firstR s s[0] = some (.star, 1) by rw [e1]; rfl)
    have b1 : (((s[0]).toNat : Int) == 42) = true := by rw [e1]; rfl
    clear e1
    go_enter Tryz.func83, Tryz.ntmps83
    go_wp2_with fail
    refine bodyPost_ret (v := .tuple #[.agg #[.bool true, .nilFunc], .int .i64 1, .bool true]) (by simp [results, Tryz.results83, go_sem]) rfl ⟨true, .nilFunc, 1, true, rfl, by rw [unhid E]; exact ⟨rfl, rfl, rfl, rfl⟩, unhid H2 _ _⟩
  have b1 := eq_no (n := 42) rfl e1
  by_cases e2 : s[0] = 63
  · have E := hid (show firstR s s[0] = some (.any, 1) by rw [e2]; rfl)
    have b2 : (((s[0]).toNat : Int) == 63) = true := by rw [e2]; rfl
    clear e1 e2
    go_enter Tryz.func83, Tryz.ntmps83
    go_wp2_with fail
    refine bodyPost_ret (v := .tuple #[.agg #[.bool false, .func (.func 99) #[] #[]], .int .i64 1, .bool true]) (by simp [results, Tryz.results83, go_sem]) rfl ⟨false, _, 1, true, rfl, by rw [unhid E]; exact ⟨rfl, rfl, rfl, rfl⟩, unhid H2 _ _⟩
  have b2 := eq_no (n := 63) rfl e2
  by_cases e3 : s[0] = 91
  · have E := hid (show firstR s s[0] = classR s by unfold firstR; rw [if_neg e1, if_neg e2, if_pos e3])
    have b3 : (((s[0]).toNat : Int) == 91) = true := by rw [e3]; rfl
    have h9 := unhid H91 e3
    have H9 := hid h9
    clear e1 e2 e3 h9
    have c := cell_two_l w (.bool false) .nilFunc 123
    have CL := hid c
    clear c
    go_enter Tryz.func83, Tryz.ntmps83
    go_wp2_with fail
    refine (classWant_any s hs (unhid H9) _).mono ?_
    rintro e w2 ⟨run, fv, sz, ok, rfl, hR, hb⟩
    have hb' : Below (w.heap.size + 1) (w.alloc (.cells #[.bool false, .nilFunc] 123)) w2 := ((Below.refl _ _).alloc (by simp) _).trans (hb.mono (by simp))
    obtain ⟨k0, k1, k2, k3⟩ := unhid CL
    have c0 := (hb'.cell (p := ⟨w.heap.size, 0, none⟩) (Nat.lt_succ_self _)).trans k0
    have c1 := (hb'.cell (p := ⟨w.heap.size, 1, none⟩) (Nat.lt_succ_self _)).trans k1
    have f0 := (hb'.frozen (p := ⟨w.heap.size, 0, none⟩) (Nat.lt_succ_self _)).trans k2
    have f1 := (hb'.frozen (p := ⟨w.heap.size, 1, none⟩) (Nat.lt_succ_self _)).trans k3
    have HB2 := hid ((unhid HBW).trans (hb.mono (unhid HBW).size))
    have HR := hid (hR.kept (P' := fun b => w.heap.size + 2 ≤ b) (Nat.le_refl _) (fun _ _ _ => rfl) (fun b hb _ => by simpa using hb))
    clear hR hb hb' k0 k1 k2 k3
    have hst : ∀ m, (store ⟨w.heap.size, 1, none⟩ fv m).run Tryz.prog (w2.setCell ⟨w.heap.size, 0, none⟩ (.bool run)) = stored Tryz.prog (w2.setCell ⟨w.heap.size, 0, none⟩ (.bool run)) ⟨w.heap.size, 1, none⟩ fv m := fun m => run_store _ _ _ _ _ ((unhid HR).oneCell)
    go_wp2_with fail
    refine bodyPost_ret (v := .tuple #[.agg #[.bool run, fv], .int .i64 sz, .bool ok]) (by simp [results, Tryz.results83, go_sem, World.cell?_setCell_same', c0, c1]) rfl ⟨run, fv, sz, ok, rfl, ?_, ((unhid HB2).setCell (Nat.le_refl _) _).setCell (Nat.le_refl _) _⟩
    rw [unhid E]
    exact (unhid HR).kept (by simp) (fun b hb _ => by
      rw [Below.heap_setCell _ _ _ b (by simp; omega), Below.heap_setCell _ _ _ b (by simp; omega)]) (fun b hb _ => by omega)
  have b3 := eq_no (n := 91) rfl e3
  cases hn : nameB ((s[0]).toNat : Int)
  · have E := hid (show firstR s s[0] = none by unfold firstR; rw [if_neg e1, if_neg e2, if_neg e3, hn]; rfl)
    clear e1 e2 e3
    go_enter Tryz.func83, Tryz.ntmps83
    go_wp2_with fail
    refine (isNameByte_any _ _).mono ?_
    rintro e w' ⟨rfl, rfl⟩
    rw [hn]
    go_wp2_with fail
    refine bodyPost_ret (v := .tuple #[.agg #[.bool false, .nilFunc], .int .i64 0, .bool false]) (by simp [results, Tryz.results83, go_sem]) rfl ⟨false, .nilFunc, 0, false, rfl, by rw [unhid E]; exact ⟨rfl, rfl, rfl, rfl⟩, unhid H2 _ _⟩
  · have E := hid (show firstR s s[0] = some (.byte s[0], 1) by unfold firstR; rw [if_neg e1, if_neg e2, if_neg e3, if_pos hn])
    clear e1 e2 e3
    go_enter Tryz.func83, Tryz.ntmps83
    go_wp2_with fail
    refine (isNameByte_any _ _).mono ?_
    rintro e w' ⟨rfl, rfl⟩
    rw [hn]
    go_wp2_with fail
    refine bodyPost_ret (v := .tuple #[.agg #[.bool false, .func (.func 101) #[] #[.pointer (some ⟨w.heap.size + 1, 0, none⟩)]], .int .i64 1, .bool true]) (by simp [results, Tryz.results83, go_sem]) rfl ⟨false, _, 1, true, rfl, ?_, unhid H2 _ _⟩
    rw [unhid E]
    refine ⟨rfl, rfl, rfl, _, rfl, by omega, by simp, ?_⟩
    simp
end Go.Proofs.YtfphpggjcljliaaGreat

/- What a name of a pattern wants, byte by byte, as the program reads it. -/
namespace Go.Proofs.YtfphpggjcljliaaGreat
open Go.RowKit Go.Shelf

theorem firstR_le {s : ByteArray} {x : W8} {n : Nat} (h0 : 0 < s.size) (h : firstR s s[0] = some (x, n)) : 1 ≤ n ∧ n ≤ s.size := by
  unfold firstR at h
  split at h
  · cases h; omega
  · split at h
    · cases h; omega
    · split at h
      · unfold classR at h
        split at h
        · cases h
        · split at h
          · cases h
          · rename_i hi _
            cases h
            obtain ⟨i, ei⟩ : ∃ i : Nat, Lib.indexByte s.data.toList 93 = i := ⟨(Lib.indexByte s.data.toList 93).toNat, by omega⟩
            have hil : i < s.size := by rw [Lib.size_eq]; exact (cutB_some 93 _ i ei).1
            rw [ei]; simp; omega
      · split at h
        · cases h; omega
        · cases h

def wantsF : Nat → ByteArray → Option (List W8)
  | 0, s => if s.size = 0 then some [] else none
  | f + 1, s => if h : 0 < s.size then
      match firstR s s[0] with
      | none => none
      | some (x, n) => (wantsF f (s.extract n s.size)).map (x :: ·)
    else some []
def wants (s : ByteArray) : Option (List W8) := wantsF s.size s
theorem wantsF_any : ∀ (f g : Nat) (s : ByteArray), s.size ≤ f → s.size ≤ g → wantsF f s = wantsF g s := by
  intro f
  induction f with
  | zero =>
    intro g s hf _
    have h0 : s.size = 0 := by omega
    cases g with
    | zero => rfl
    | succ g => unfold wantsF; rw [if_pos h0, dif_neg (by omega)]
  | succ f ih =>
    intro g s hf hg
    by_cases h0 : 0 < s.size
    · cases g with
      | zero => omega
      | succ g =>
        unfold wantsF
        rw [dif_pos h0, dif_pos h0]
        cases hr : firstR s s[0] with
        | none => rfl
        | some p =>
          obtain ⟨x, n⟩ := p
          have hn := firstR_le h0 hr
          show (wantsF f (s.extract n s.size)).map _ = (wantsF g (s.extract n s.size)).map _
          rw [ih g _ (by rw [ByteArray.size_extract]; omega) (by rw [ByteArray.size_extract]; omega)]
    · cases g with
      | zero => unfold wantsF; rw [dif_neg h0, if_pos (by omega)]
      | succ g => unfold wantsF; rw [dif_neg h0, dif_neg h0]
theorem wants_nil {s : ByteArray} (h : s.size = 0) : wants s = some [] := by
  unfold wants; rw [h]; unfold wantsF; rw [if_pos h]
theorem wants_none {s : ByteArray} (h0 : 0 < s.size) (h : firstR s s[0] = none) : wants s = none := by
  unfold wants
  rw [wantsF_any s.size (s.size + 1) s (Nat.le_refl _) (Nat.le_succ _)]
  unfold wantsF
  rw [dif_pos h0, h]
theorem wants_some {s : ByteArray} {x : W8} {n : Nat} (h0 : 0 < s.size) (h : firstR s s[0] = some (x, n)) : wants s = (wants (s.extract n s.size)).map (x :: ·) := by
  have hn := firstR_le h0 h
  unfold wants
  rw [wantsF_any s.size (s.size + 1) s (Nat.le_refl _) (Nat.le_succ _)]
  show wantsF (s.size + 1) s = _
  rw [wantsF, dif_pos h0, h]
  show (wantsF s.size (s.extract n s.size)).map _ = _
  rw [wantsF_any s.size (s.extract n s.size).size _ (by rw [ByteArray.size_extract]; omega) (Nat.le_refl _)]

/-- Wants that the program keeps in a row. -/
def Wants (W : World) (base : Nat) (v : Value) (xs : List W8) : Prop :=
  ∃ cells, W.ownsRow base 123 2 v xs.length cells ∧ ∀ i x, xs[i]? = some x → ∃ run fv, cells[2 * i]? = some (.bool run) ∧ cells[2 * i + 1]? = some fv ∧ WantIs W (fun b => base ≤ b ∧ v.ownBlock ≠ some b) x run fv
theorem wants_row_nil (W : World) (base : Nat) : Wants W base (.slice none 0 0) [] := ⟨[], World.ownsRow_nil _ _ _ _, fun i x h => by simp at h⟩
def lenOf : Value → Nat
  | .string x => x.size
  | _ => 0
theorem ownsRow_shG {W : World} {base : Nat} {e : TypeId} {size : Nat} {v : Value} {n : Nat} {xs : List Value} (h : W.ownsRow base e size v n xs) : ∃ a cap, v = .slice a n cap := by
  rcases h.2 with ⟨rfl, rfl⟩ | ⟨g, cap, cur, rfl, _⟩
  · exact ⟨none, 0, rfl⟩
  · exact ⟨_, _, rfl⟩
theorem ownsRow_below {w w' : World} {base : Nat} {e : TypeId} {size : Nat} {v : Value} {n : Nat} {xs : List Value} (h : w.ownsRow base e size v n xs) (hb : Below w.heap.size w w') : w'.ownsRow base e size v n xs := by
  refine ⟨h.1, ?_⟩
  rcases h.2 with h1 | ⟨g, cap, cur, h1, h2, h3, h4⟩
  · exact .inl h1
  · refine .inr ⟨g, cap, cur, h1, h2, ?_, h4⟩
    rw [hb.block g (Array.getElem?_eq_some_iff.1 h3).1]; exact h3
theorem cells_two_new (W : World) (u v : Value) (t : TypeId) (B : Nat) (hB : B = W.heap.size) : ∀ (j : Nat) x, [u, v][j]? = some x → (W.alloc (.cells #[u, v] t)).cell? ((⟨B, 0, none⟩ : Addr).add j) = some x := by
  subst hB
  obtain ⟨c0, c1, -, -⟩ := cell_two_l W u v t
  intro j x hj
  match j with
  | 0 => simp at hj; subst hj; exact c0
  | 1 => simp at hj; subst hj; exact c1
  | j + 2 => simp at hj
theorem infoWant : (Tryz.prog.info? 123).map (fun i => (i.zero, i.size, i.bytes)) = some (some (.agg #[.bool false, .nilFunc]), 2, 16) := by kernel_rfl

/-- One want more in the row. -/
theorem below_push {w wr w1 w2 : World} {o o' : Obj} {v : Value} (hB : Below w.heap.size w wr) (hB1 : Below wr.heap.size wr w1) (hgrow : ((w1.alloc o).alloc o').grownBy w2 v.ownBlock) (hv : ∀ g, v.ownBlock = some g → w.heap.size ≤ g) : Below w.heap.size w w2 := by
  have h1 := (((hB.trans (hB1.mono hB.size)).alloc (Nat.le_trans hB.size hB1.size) o).alloc (by have := hB.size; have := hB1.size; simp; omega) o')
  exact h1.grown hgrow h1.size hv
theorem wants_push {wr w1 w2 : World} {o o' : Obj} {base : Nat} {v v' : Value} {xs : List W8} {cells : List Value} {x : W8} {run : Bool} {fv : Value}
    (h : ∀ i x, xs[i]? = some x → ∃ run fv, cells[2 * i]? = some (.bool run) ∧ cells[2 * i + 1]? = some fv ∧ WantIs wr (fun b => base ≤ b ∧ v.ownBlock ≠ some b) x run fv)
    (hl : cells.length = xs.length * 2) (hbase : base ≤ wr.heap.size) (hv : ∀ g, v.ownBlock = some g → g < wr.heap.size) (hB1 : Below wr.heap.size wr w1) (hx : WantIs w1 (fun b => wr.heap.size ≤ b) x run fv)
    (hgrow : ((w1.alloc o).alloc o').grownBy w2 v.ownBlock) (hat : v'.ownBlock = v.ownBlock ∨ ∃ g, v'.ownBlock = some g ∧ w1.heap.size ≤ g) :
    ∀ i y, (xs ++ [x])[i]? = some y → ∃ run' fv', (cells ++ [.bool run, fv])[2 * i]? = some (.bool run') ∧ (cells ++ [.bool run, fv])[2 * i + 1]? = some fv' ∧ WantIs w2 (fun b => base ≤ b ∧ v'.ownBlock ≠ some b) y run' fv' := by
  have hW : Below w1.heap.size w1 ((w1.alloc o).alloc o') := ((Below.refl _ w1).alloc (Nat.le_refl _) _).alloc (by simp) _
  have hs1 := hB1.size
  have hs2 := hW.size
  have hs3 := hgrow.size
  have far : ∀ b, b < w1.heap.size → v.ownBlock ≠ some b → w2.heap[b]? = w1.heap[b]? := fun b hb hne => (hgrow.block b (by omega) (by intro e; first | exact hne e | exact hne e.symm)).trans (hW.block b hb)
  intro i y hi
  by_cases hlt : i < xs.length
  · rw [List.getElem?_append_left hlt] at hi
    obtain ⟨r, f, h1, h2, h3⟩ := h i y hi
    refine ⟨r, f, by rw [List.getElem?_append_left (by omega)]; exact h1, by rw [List.getElem?_append_left (by omega)]; exact h2, ?_⟩
    refine h3.kept (by omega) (fun b hb hlb => (far b (by omega) hb.2).trans (hB1.block b hlb)) (fun b hb hlb => ⟨hb.1, ?_⟩)
    rcases hat with e | ⟨g, e, hg⟩
    · rw [e]; exact hb.2
    · rw [e]; intro e'; cases e'; omega
  · rw [List.getElem?_append_right (by omega)] at hi
    have hi0 : i = xs.length := by
      have := (List.getElem?_eq_some_iff.1 hi).1
      simp at this; omega
    subst hi0
    simp at hi
    subst hi
    refine ⟨run, fv, by rw [List.getElem?_append_right (by omega), show 2 * xs.length - cells.length = 0 by omega]; rfl, by rw [List.getElem?_append_right (by omega), show 2 * xs.length + 1 - cells.length = 1 by omega]; rfl, ?_⟩
    refine hx.kept (by omega) (fun b hb hlb => far b hlb (fun e => by have := hv b e; omega)) (fun b hb hlb => ⟨by omega, ?_⟩)
    rcases hat with e | ⟨g, e, hg⟩
    · rw [e]; intro e'; have := hv b e'; omega
    · rw [e]; intro e'; cases e'; omega

set_option maxRecDepth 100000 in
set_option maxHeartbeats 4000000 in
theorem byteWants_any (s : ByteArray) (hs : s.size ≤ 1048576) (w : World) :
    Calls Tryz.prog 63 #[.string s] w fun e W' => ∃ v, e = .returned (.tuple #[v, .bool ((wants s).any fun l => !l.isEmpty)]) ∧ (∃ a l c, v = .slice a l c) ∧ (∀ xs, wants s = some xs → Wants W' w.heap.size v xs) ∧ Below w.heap.size w W' := by
  go_enter Tryz.func63, Tryz.ntmps63
  obtain ⟨i0, hi, hz0, hz1, hz2⟩ := info_parts infoWant
  go_wp2_with fail
  go_loopw [4, 5, 6, 7, 8] (fun v r _ _ _ wr => ∃ (xs : List W8) (rest : ByteArray) (cells : List Value) (ad : Option Addr) (cap : Nat), v = .slice ad xs.length cap ∧ r = .string rest ∧ rest.size + xs.length ≤ s.size ∧ Hid (wants s = (wants rest).map (xs ++ ·)) ∧
      wr.ownsRow w.heap.size 123 2 (.slice ad xs.length cap) xs.length cells ∧ Hid (∀ i x, xs[i]? = some x → ∃ run fv, cells[2 * i]? = some (.bool run) ∧ cells[2 * i + 1]? = some fv ∧ WantIs wr (fun b => w.heap.size ≤ b ∧ (Value.slice ad xs.length cap).ownBlock ≠ some b) x run fv) ∧ Below w.heap.size w wr)
    (fun _ r _ _ _ _ => lenOf r)
  case atStart => exact ⟨[], s, [], none, 0, rfl, rfl, by simp, hid (by simp), World.ownsRow_nil _ _ _ _, hid (fun i x h => by simp at h), Below.refl _ _⟩
  case round =>
    obtain ⟨xs, rest, cells, ad, cap, rfl, rfl, hlen, hw, hown, hwants, hB⟩ := hrel
    have HO := hid hown
    have HB := hid hB
    clear hown hB
    by_cases h0 : 0 < rest.size
    · have he : rest.toList.isEmpty = false := by
        rw [Lib.toList_data, List.isEmpty_eq_false_iff, ← List.length_pos_iff, ← Lib.size_eq]; exact h0
      have rz : rest.size ≤ maxLen := by unfold maxLen; omega
      go_wp2_with fail
      refine (firstWant_any rest rz h0 _).mono ?_
      rintro e w1 ⟨run, fv, sz, ok, rfl, hR, hb⟩
      have HR := hid hR
      have HB1 := hid hb
      clear hR hb
      cases hr : firstR rest rest[0] with
      | none =>
        have hR := unhid HR
        rw [hr] at hR
        obtain ⟨rfl, rfl, rfl, rfl⟩ := hR
        have E := hid (show wants s = none by rw [unhid hw, wants_none h0 hr]; rfl)
        go_wp2_with fail
        go_ret2
        refine ⟨.slice none 0 0, by rw [unhid E]; rfl, ⟨_, _, _, rfl⟩, (fun ys h => by rw [unhid E] at h; cases h), ?_⟩
        exact ((unhid HB).trans ((unhid HB1).mono (unhid HB).size)).alloc (by have := (unhid HB).size; have := (unhid HB1).size; omega) _
      | some p =>
        obtain ⟨x, n⟩ := p
        have hn := firstR_le h0 hr
        have hR := unhid HR
        rw [hr] at hR
        obtain ⟨rfl, rfl, hW⟩ := hR
        have HW := hid hW
        have HS := hid (wants_some h0 hr)
        clear hW hr HR
        have hn1 : (n : Int) ≤ rest.size := by omega
        have hoc : fv.oneCell' = true := by rcases (unhid HW).form with rfl | ⟨f, ca, rfl⟩ <;> rfl
        have HO1 := hid ((ownsRow_below (unhid HO) (unhid HB1)).alloc (.cells #[.bool run, fv] 123))
        have hbase : w.heap.size ≤ w1.heap.size := Nat.le_trans (unhid HB).size (unhid HB1).size
        rcases (unhid HW).form with rfl | ⟨f, ca, rfl⟩
        all_goals
          go_wp2_with (at_builtin; refine wpList_append_own_at _ rfl _ _ 105 rfl w.heap.size 123 i0 (.agg #[.bool false, .nilFunc]) 2 16 Tryz.underlying105 hi hz0 hz1 hz2 rfl (by decide) _ _ _ rfl ((unhid HO1).alloc _) ⟨w1.heap.size + 1, 0, none⟩ 1 1 [.bool run, _] rfl rfl (cells_two_new _ _ _ _ _ (by simp)) ?c2 ?c3 ?c4 ?c5 ?_)
          case c2 => intro u hu; simp at hu; rcases hu with rfl | rfl <;> rfl
          case c3 => unfold maxLen; omega
          case c4 => omega
          case c5 => simp; omega
          intro v' w2 hown' hgrow _ hat
          obtain ⟨ad', cap', rfl⟩ := ownsRow_shG hown'
          have hP := wants_push (unhid hwants) (unhid HO).1 (unhid HB).size (fun g e => ((unhid HO).lt g e).2) (unhid HB1) (unhid HW) hgrow (hat.imp id fun e => ⟨_, e, by omega⟩)
          have HP := hid hP
          have HO2 := hid hown'
          have HB2 := hid (below_push (unhid HB) (unhid HB1) hgrow (fun g e => ((unhid HO).lt g e).1))
          clear hP hown' hgrow hat
          go_wp2_with fail
          go_roundw
          case rel => exact ⟨xs ++ [x], rest.extract n rest.size, cells ++ [.bool run, _], ad', cap', by simp, rfl, by simp [ByteArray.size_extract]; omega, hid (by rw [unhid hw, unhid HS]; simp [Option.map_map, Function.comp_def]), by simpa using unhid HO2, hid (by simpa using unhid HP), unhid HB2⟩
          case measure => simp [lenOf, ByteArray.size_extract]; omega
    · have he : rest.toList.isEmpty = true := by
        rw [Lib.toList_data, List.isEmpty_iff, ← List.length_eq_zero_iff, ← Lib.size_eq]; omega
      have E := hid (show wants s = some xs by rw [unhid hw, wants_nil (by omega)]; simp)
      have hxs : ((xs.length : Int) > 0) ∨ xs.length = 0 := by omega
      go_wp2_with fail
      go_ret2
      refine ⟨.slice ad xs.length cap, by rw [unhid E]; cases xs <;> rfl, ⟨_, _, _, rfl⟩, (fun ys h => ?_), unhid HB⟩
      rw [unhid E] at h
      cases h
      exact ⟨cells, unhid HO, unhid hwants⟩
end Go.Proofs.YtfphpggjcljliaaGreat

/- What a name of a pattern wants, as the program reads it. -/
namespace Go.Proofs.YtfphpggjcljliaaGreat
open Go.RowKit Go.Shelf

/-- Wants in a row whose blocks are of a kind. -/
def WantsP (W : World) (P : Nat → Prop) (v : Value) (xs : List W8) : Prop :=
  ∃ base cells, W.ownsRow base 123 2 v xs.length cells ∧ (∀ g, v.ownBlock = some g → P g) ∧ ∀ i x, xs[i]? = some x → ∃ run fv, cells[2 * i]? = some (.bool run) ∧ cells[2 * i + 1]? = some fv ∧ WantIs W P x run fv
theorem Wants.p {W : World} {base : Nat} {v : Value} {xs : List W8} (h : Wants W base v xs) : WantsP W (fun b => base ≤ b) v xs := by
  obtain ⟨cells, h1, h2⟩ := h
  refine ⟨base, cells, h1, fun g e => (h1.lt g e).1, fun i x hi => ?_⟩
  obtain ⟨run, fv, g1, g2, g3⟩ := h2 i x hi
  exact ⟨run, fv, g1, g2, g3.kept (Nat.le_refl _) (fun _ _ _ => rfl) (fun b hb _ => hb.1)⟩
theorem ownsRow_keptG {w w' : World} {base : Nat} {e : TypeId} {size : Nat} {v : Value} {n : Nat} {xs : List Value} (h : w.ownsRow base e size v n xs) (hk : ∀ g, v.ownBlock = some g → w'.heap[g]? = w.heap[g]?) : w'.ownsRow base e size v n xs := by
  refine ⟨h.1, ?_⟩
  rcases h.2 with h1 | ⟨g, cap, cur, rfl, h2, h3, h4⟩
  · exact .inl h1
  · exact .inr ⟨g, cap, cur, rfl, h2, by rw [hk g rfl]; exact h3, h4⟩
theorem WantsP.kept {W W' : World} {P P' : Nat → Prop} {v : Value} {xs : List W8} (h : WantsP W P v xs) (hs : W.heap.size ≤ W'.heap.size) (hk : ∀ b, P b → b < W.heap.size → W'.heap[b]? = W.heap[b]?) (hP : ∀ b, P b → b < W.heap.size → P' b) : WantsP W' P' v xs := by
  obtain ⟨base, cells, h1, h2, h3⟩ := h
  refine ⟨base, cells, ownsRow_keptG h1 (fun g e => hk g (h2 g e) (h1.lt g e).2), fun g e => hP g (h2 g e) (h1.lt g e).2, fun i x hi => ?_⟩
  obtain ⟨run, fv, g1, g2, g3⟩ := h3 i x hi
  exact ⟨run, fv, g1, g2, g3.kept hs hk hP⟩

/-- One place of a pattern. -/
abbrev W9 := Option (List W8)
abbrev W9.deep : W9 := none
abbrev W9.name (xs : List W8) : W9 := some xs
def nameW (s : ByteArray) : Option W9 := if (s.toList == [42, 42]) = true then some .deep else match wants s with
  | some (x :: xs) => some (.name (x :: xs))
  | _ => none
/-- What its value is that the program keeps. -/
def NameIs (W : World) (P : Nat → Prop) : W9 → Bool → Value → Prop
  | none, run, fv => run = true ∧ fv = .nilFunc
  | some xs, run, fv => run = false ∧ ∃ b v, fv = .func (.func 64) #[] #[.pointer (some ⟨b, 0, none⟩)] ∧ P b ∧ b < W.heap.size ∧ W.cell? ⟨b, 0, none⟩ = some v ∧ WantsP W P v xs
theorem NameIs.kept {W W' : World} {P P' : Nat → Prop} {x : W9} {run : Bool} {fv : Value} (h : NameIs W P x run fv) (hs : W.heap.size ≤ W'.heap.size) (hk : ∀ b, P b → b < W.heap.size → W'.heap[b]? = W.heap[b]?) (hP : ∀ b, P b → b < W.heap.size → P' b) : NameIs W' P' x run fv := by
  rcases x with _ | xs
  · exact h
  · obtain ⟨h0, b, v, h1, h2, h3, h4, h5⟩ := h
    exact ⟨h0, b, v, h1, hP b h2 h3, Nat.lt_of_lt_of_le h3 hs, (World.cell?_of_block (w := W) (hk b h2 h3)).trans h4, h5.kept hs hk hP⟩

set_option maxRecDepth 100000 in
set_option maxHeartbeats 2000000 in
theorem nameWant_any (s : ByteArray) (hs : s.size ≤ 1048576) (w : World) :
    Calls Tryz.prog 38 #[.string s] w fun e W' => ∃ run fv, e = .returned (.tuple #[.agg #[.bool run, fv], .bool (nameW s).isSome]) ∧ (fv = .nilFunc ∨ ∃ f ca, fv = .func (.func f) #[] ca) ∧ (∀ x, nameW s = some x → NameIs W' (fun b => w.heap.size ≤ b) x run fv) ∧ Below w.heap.size w W' := by
  have hc := cell_two_l w (.bool false) .nilFunc 78
  have CL := hid hc
  clear hc
  cases hd : (s.toList == [42, 42])
  · have hd' : (s.toList == (⟨#[42, 42]⟩ : ByteArray).toList) = false := by rw [Lib.toList_data ⟨#[42, 42]⟩]; exact hd
    go_enter Tryz.func38, Tryz.ntmps38
    go_wp2_with fail
    refine (byteWants_any s hs _).mono ?_
    rintro e w1 ⟨v, rfl, ⟨sa, sl, sc, rfl⟩, hv, hb⟩
    have hok : ((wants s).any fun l => !l.isEmpty) = (nameW s).isSome := by
      unfold nameW; rw [hd]
      cases wants s with
      | none => rfl
      | some l => cases l <;> rfl
    rw [hok]
    have HV := hid hv
    have HB1 := hid hb
    obtain ⟨k0, k1, k2, k3⟩ := unhid CL
    have hA : Below (w.heap.size + 1) (w.alloc (.cells #[.bool false, .nilFunc] 78)) (w1.alloc (.cells #[.slice sa sl sc] 105)) := (hb.mono (by simp)).alloc (by have := hb.size; simpa using this) _
    have c0 := (hA.cell (p := ⟨w.heap.size, 0, none⟩) (Nat.lt_succ_self _)).trans k0
    have c1 := (hA.cell (p := ⟨w.heap.size, 1, none⟩) (Nat.lt_succ_self _)).trans k1
    have f0 := (hA.frozen (p := ⟨w.heap.size, 0, none⟩) (Nat.lt_succ_self _)).trans k2
    have f1 := (hA.frozen (p := ⟨w.heap.size, 1, none⟩) (Nat.lt_succ_self _)).trans k3
    have HA := hid hA
    have hz : w.heap.size + 1 ≤ w1.heap.size := by have := hb.size; simpa using this
    have hne : ¬ w1.heap.size = w.heap.size := by omega
    clear hv hb hok hA k0 k1 k2 k3
    go_wp2_with fail
    refine bodyPost_ret (v := .tuple #[.agg #[.bool false, .func (.func 64) #[] #[.pointer (some ⟨w1.heap.size, 0, none⟩)]], .bool (nameW s).isSome]) (by simp [results, Tryz.results38, go_sem, World.cell?_setCell_same', c0, c1]) rfl ⟨false, _, rfl, .inr ⟨_, _, rfl⟩, fun x hx => ?_, ?_⟩
    · obtain ⟨xs, rfl, hxs⟩ : ∃ xs, x = .name xs ∧ wants s = some xs := by
        unfold nameW at hx; rw [hd] at hx
        cases hw : wants s with
        | none => rw [hw] at hx; cases hx
        | some l =>
          rw [hw] at hx
          cases l with
          | nil => cases hx
          | cons y l => cases hx; exact ⟨_, rfl, rfl⟩
      have hk : ∀ b, w.heap.size + 1 ≤ b → b < w1.heap.size → (((w1.alloc (.cells #[.slice sa sl sc] 105)).setCell ⟨w.heap.size, 0, none⟩ (.bool false)).setCell ⟨w.heap.size, 1, none⟩ (.func (.func 64) #[] #[.pointer (some ⟨w1.heap.size, 0, none⟩)])).heap[b]? = w1.heap[b]? := fun b h1 h2 => by
        rw [Below.heap_setCell _ _ _ b (by simp; omega), Below.heap_setCell _ _ _ b (by simp; omega), Below.heap_alloc _ _ b h2]
      refine ⟨rfl, w1.heap.size, .slice sa sl sc, rfl, by omega, by simp, ?_, ?_⟩
      · rw [World.cell?_setCell_other (h := by simp), World.cell?_setCell_other (h := by simp)]
        exact (cell_new_l w1 (.slice sa sl sc) 105).1
      · exact (unhid HV xs hxs).p.kept (by simp) (fun b h1 h2 => hk b (by simpa using h1) h2) (fun b h1 _ => by simp at h1; omega)
    · exact ((((Below.refl _ w).alloc (Nat.le_refl _) _).trans ((unhid HA).mono (Nat.le_succ _))).setCell (Nat.le_refl _) _).setCell (Nat.le_refl _) _
  · have E := hid (show nameW s = some .deep by unfold nameW; rw [hd]; rfl)
    have hd' : (s.toList == (⟨#[42, 42]⟩ : ByteArray).toList) = true := by rw [Lib.toList_data ⟨#[42, 42]⟩]; exact hd
    go_enter Tryz.func38, Tryz.ntmps38
    go_wp2_with fail
    refine bodyPost_ret (v := .tuple #[.agg #[.bool true, .nilFunc], .bool (nameW s).isSome]) (by simp [results, Tryz.results38, go_sem, unhid E]) rfl ⟨true, .nilFunc, rfl, .inl rfl, fun x hx => ?_, (Below.refl _ w).alloc (Nat.le_refl _) _⟩
    rw [unhid E] at hx
    cases hx
    exact ⟨rfl, rfl⟩
end Go.Proofs.YtfphpggjcljliaaGreat

/- Which bytes a want takes. -/
namespace Go.Proofs.YtfphpggjcljliaaGreat
open Go.RowKit Go.Shelf

def takesB : W8 → UInt8 → Bool
  | none, _ => false
  | some none, _ => true
  | some (some (.inl d)), c => c == d
  | some (some (.inr (inner, others))), c => inner.data.toList.contains c != others

set_option maxRecDepth 100000 in
set_option maxHeartbeats 1000000 in
theorem takes_any (c : UInt8) (w : World) : Calls Tryz.prog 99 #[.int .u8 c.toNat] w fun e w' => e = .returned (.bool (takesB .any c)) ∧ w' = w := by
  go_enter Tryz.func99, Tryz.ntmps99
  go_wp2
  go_ret
  exact ⟨rfl, rfl⟩

set_option maxRecDepth 100000 in
set_option maxHeartbeats 1000000 in
theorem takes_byte (c d : UInt8) (b : Nat) (w : World) (hc : w.cell? ⟨b, 0, none⟩ = some (.int .u8 d.toNat)) : Calls Tryz.prog 101 #[.int .u8 c.toNat, .pointer (some ⟨b, 0, none⟩)] w fun e w' => e = .returned (.bool (takesB (.byte d) c)) ∧ w' = w := by
  have E := hid (show takesB (.byte d) c = ((c.toNat : Int) == (d.toNat : Int)) by
    show (c == d) = _
    rw [Bool.eq_iff_iff]
    simp only [beq_iff_eq]
    exact ⟨fun h => by rw [h], fun h => UInt8.toNat_inj.1 (by omega)⟩)
  go_enter Tryz.func101, Tryz.ntmps101
  go_wp2
  go_ret
  exact ⟨by rw [unhid E]; rfl, rfl⟩

theorem index_has (l : List UInt8) (c : UInt8) : decide (0 ≤ Lib.indexByte l c) = l.contains c := by
  induction l with
  | nil => simp [Lib.indexByte]
  | cons d l ih =>
    have hg := Lib.indexByte_ge l c
    unfold Lib.indexByte
    by_cases h : (d == c) = true
    · have hdc : d = c := by simpa using h
      subst hdc
      simp
    · have hne : (c == d) = false := by
        rw [beq_eq_false_iff_ne]; intro e; exact h (by simp [e])
      rw [List.contains_cons, hne, Bool.false_or, ← ih]
      rw [decide_eq_decide]
      simp only [h, Bool.false_eq_true, if_false]
      split <;> (rename_i hn; simp at hn; omega)

set_option maxRecDepth 100000 in
set_option maxHeartbeats 1000000 in
theorem takes_cls (c : UInt8) (inner : ByteArray) (others : Bool) (b d : Nat) (w : World) (hb : w.cell? ⟨b, 0, none⟩ = some (.string inner)) (hd : w.cell? ⟨d, 0, none⟩ = some (.bool others)) :
    Calls Tryz.prog 105 #[.int .u8 c.toNat, .pointer (some ⟨b, 0, none⟩), .pointer (some ⟨d, 0, none⟩)] w fun e w' => e = .returned (.bool (takesB (.cls inner others) c)) ∧ ∃ m, w' = w.drewN m := by
  have E := hid (show takesB (.cls inner others) c = (decide (0 ≤ Lib.indexByte inner.data.toList c) != others) by rw [index_has]; rfl)
  go_enter Tryz.func105, Tryz.ntmps105
  go_wp2_with fail
  go_quiet ((go_at_call 43; exact Calls.quiet_of_same (IndexByteU_any _ _ _)))
  go_wp2
  go_ret
  exact ⟨by rw [unhid E]; rfl, _, rfl⟩
end Go.Proofs.YtfphpggjcljliaaGreat

/- Rows of Booleans that a call owns, and rows of wants that it reads. -/
namespace Go.Proofs.YtfphpggjcljliaaGreat
open Go.RowKit Go.Shelf

theorem gb_reflG (w : World) (r : Option Nat) : w.grownBy w r := ⟨rfl, rfl, rfl, Nat.le_refl _, fun _ _ _ => rfl⟩
theorem gb_set (w : World) (g i : Nat) (v : Value) : w.grownBy (w.setCell ⟨g, i, none⟩ v) (some g) := ⟨rfl, rfl, rfl, by simp, fun k _ hk => Below.heap_setCell w _ v k (fun e => hk (by rw [e]))⟩
/-- A block of m Booleans. -/
def Bools (W : World) (g m : Nat) (h : Nat → Bool) : Prop := ∃ cur : Array Value, W.heap[g]? = some (.cells cur 4 (0, 0)) ∧ cur.size = m ∧ ∀ j, j < m → cur[j]? = some (.bool (h j))
theorem Bools.lt {W : World} {g m : Nat} {h : Nat → Bool} (x : Bools W g m h) : g < W.heap.size := by
  obtain ⟨cur, h1, _⟩ := x; exact (Array.getElem?_eq_some_iff.1 h1).1
theorem Bools.cell {W : World} {g m : Nat} {h : Nat → Bool} (x : Bools W g m h) (j : Nat) (hj : j < m) : W.cell? ⟨g, j, none⟩ = some (.bool (h j)) ∧ W.frozen? ⟨g, j, none⟩ = false := by
  obtain ⟨cur, h1, h2, h3⟩ := x
  constructor
  · simp [World.cell?, h1, h3 j hj]
  · simp [World.frozen?, h1]
theorem Bools.block {W W' : World} {g m : Nat} {h : Nat → Bool} (x : Bools W g m h) (e : W'.heap[g]? = W.heap[g]?) : Bools W' g m h := by
  obtain ⟨cur, h1, h2, h3⟩ := x; exact ⟨cur, e.trans h1, h2, h3⟩
theorem Bools.alloc {W : World} {g m : Nat} {h : Nat → Bool} (x : Bools W g m h) (o : Obj) : Bools (W.alloc o) g m h := x.block (Below.heap_alloc _ _ _ x.lt)
theorem Bools.below {W W' : World} {B g m : Nat} {h : Nat → Bool} (x : Bools W g m h) (hb : Below B W W') (hg : g < B) : Bools W' g m h := x.block (hb.block g hg)
theorem Bools.other {W : World} {g m : Nat} {h : Nat → Bool} (x : Bools W g m h) (a : Addr) (v : Value) (hne : g ≠ a.block) : Bools (W.setCell a v) g m h := x.block (Below.heap_setCell W a v g hne)
theorem Bools.congr {W : World} {g m : Nat} {h h' : Nat → Bool} (x : Bools W g m h) (e : ∀ j, j < m → h j = h' j) : Bools W g m h' := by
  obtain ⟨cur, h1, h2, h3⟩ := x; exact ⟨cur, h1, h2, fun j hj => by rw [h3 j hj, e j hj]⟩
theorem Bools.set {W : World} {g m : Nat} {h : Nat → Bool} (x : Bools W g m h) (j : Nat) (hj : j < m) (b : Bool) : Bools (W.setCell ⟨g, j, none⟩ (.bool b)) g m (fun i => if i = j then b else h i) := by
  obtain ⟨cur, h1, h2, h3⟩ := x
  refine ⟨cur.setIfInBounds j (.bool b), ?_, by simpa using h2, fun i hi => ?_⟩
  · exact heap_setCell_same W g j cur 4 (.bool b) h1
  · rw [Array.getElem?_setIfInBounds]
    by_cases e : j = i
    · subst e; simp; omega
    · have e' : ¬ i = j := fun x => e x.symm
      rw [if_neg e, h3 i hi]; simp [e']

theorem type_neG {W : World} {g b : Nat} {cur cur' : Array Value} {e e' : TypeId} {f f' : Nat × Nat} (h : W.heap[g]? = some (.cells cur e f)) (h' : W.heap[b]? = some (.cells cur' e' f')) (hne : e ≠ e') : g ≠ b := by
  rintro rfl; rw [h] at h'; cases h'; exact hne rfl

/-- A row of n pairs of cells: a Boolean and a value each. -/
def Row2 (W : World) (e : TypeId) (v : Value) (n : Nat) (cs : Nat → Bool × Value) : Prop :=
  ∃ a cap, v = .slice a n cap ∧ (n = 0 ∨ ∃ g cur, a = some ⟨g, 0, none⟩ ∧ W.heap[g]? = some (.cells cur e (0, 0)) ∧ n ≤ cap ∧ ∀ i, i < n → cur[i * 2]? = some (.bool (cs i).1) ∧ cur[i * 2 + 1]? = some (cs i).2 ∧ (cs i).2.oneCell' = true)


theorem Row2.kept {W W' : World} {e : TypeId} {v : Value} {n : Nat} {cs : Nat → Bool × Value} (x : Row2 W e v n cs) (hk : ∀ b, b < W.heap.size → W'.heap[b]? = W.heap[b]?) : Row2 W' e v n cs := by
  obtain ⟨a, cap, rfl, h⟩ := x
  refine ⟨a, cap, rfl, h.imp id ?_⟩
  rintro ⟨g, cur, rfl, h1, h2⟩
  exact ⟨g, cur, rfl, (hk g (Array.getElem?_eq_some_iff.1 h1).1).trans h1, h2⟩
theorem below_of_grown {w W W' : World} {g : Nat} (hb : Below w.heap.size w W) (hg : W.grownBy W' (some g)) (hge : w.heap.size ≤ g) : Below w.heap.size w W' :=
  ⟨hg.os.trans hb.os, hg.tape.trans hb.tape, hg.output.trans hb.output, Nat.le_trans hb.size hg.size, fun k hk => (hg.block k (Nat.lt_of_lt_of_le hk hb.size) (by intro e; cases e; omega)).trans (hb.block k hk)⟩
/-- What the program's function values of wants answer, in every world in which what lay below is as it was. -/
def TakesIs {α : Type} (enc : α → Value) (xs : Pat α) (cs : Nat → Bool × Value) (w : World) : Prop :=
  ∀ i, i < xs.length → runAt xs i = false → ∃ f ca, (cs i).2 = .func (.func f) #[] ca ∧ (∀ args w, (callFunc f args).run Tryz.prog w = .ok (.enter f args) w) ∧
    ∀ (c : α) (W : World), Below w.heap.size w W → Calls Tryz.prog f (#[enc c] ++ ca) W fun e W' => e = .returned (.bool (takeAt xs i c)) ∧ Below W.heap.size W W'

theorem infoBool : (Tryz.prog.info? 4).map (fun i => (i.zero, i.size, i.bytes)) = some (some (.bool false), 1, 1) := by kernel_rfl
theorem mkBools (W : World) (n : Nat) (hn : n ≤ 1000) : (Instr.makeSlice 112 (.int .i64 ((n : Int) + 1)) (.int .i64 ((n : Int) + 1))).run Tryz.prog W = .ok (.slice (some ⟨W.heap.size, 0, none⟩) (n + 1) (n + 1)) (W.alloc (.cells (madeCells #[.bool false] (n + 1)) 4)) :=
  run_make_row' 112 4 (.bool false) 1 Tryz.underlying112 infoBool rfl .i64 .i64 (n + 1) (by omega) (by omega) W
theorem Bools.new (W : World) (m : Nat) : Bools (W.alloc (.cells (madeCells #[.bool false] m) 4)) W.heap.size m (fun _ => false) := by
  refine ⟨_, World.alloc_heap_new W _, by simp [madeCells], fun j hj => by simp [madeCells, hj, Nat.mod_one]⟩
end Go.Proofs.YtfphpggjcljliaaGreat

/- How the program goes through a pattern item by item (string). -/
namespace Go.Proofs.YtfphpggjcljliaaGreat
open Go.RowKit Go.Shelf

set_option maxRecDepth 100000 in
set_option maxHeartbeats 4000000 in
theorem skipRunsS_any (xs : Pat Str) (v : Value) (cs : Nat → Bool × Value) (h : Nat → Bool) (g cap : Nat) (w : World) (hn : xs.length ≤ 1000) (hv : Row2 w 78 v xs.length cs) (hr : ∀ i, i < xs.length → runAt xs i = (cs i).1) (hh : Bools w g (xs.length + 1) h) :
    Calls Tryz.prog 67 #[v, .slice (some ⟨g, 0, none⟩) (xs.length + 1) cap] w fun e W' => (∃ x, e = .returned x) ∧ Bools W' g (xs.length + 1) (skipN xs h xs.length) ∧ w.grownBy W' (some g) := by
  obtain ⟨a, vc, rfl, hrow⟩ := hv
  go_enter Tryz.func67, Tryz.ntmps67
  go_wp2_with fail
  go_loopw [4, 5, 8] (fun _ _ i wr => ∃ k : Nat, k ≤ xs.length ∧ i = .int .i64 k ∧ Bools wr g (xs.length + 1) (skipN xs h k) ∧ w.grownBy wr (some g)) (fun _ _ i _ => xs.length - (intOf i).toNat)
  case atStart => exact ⟨0, Nat.zero_le _, rfl, hh, gb_reflG _ _⟩
  case round =>
    obtain ⟨k, hk, rfl, hB, hG⟩ := hrel
    by_cases hlt : k < xs.length
    · obtain ⟨c0, f0⟩ := hB.cell k (by omega)
      rcases hrow with h0 | ⟨gv, cur, rfl, hcur, hvc, hcs⟩
      · omega
      have hcw := (hG.block gv (Array.getElem?_eq_some_iff.1 hcur).1 (by intro e; cases e; obtain ⟨cur', q, _⟩ := hh; exact type_neG hcur q (by decide) rfl)).trans hcur
      have w0 : wr.cell? ⟨gv, k * 2, none⟩ = some (.bool (cs k).1) := by simp [World.cell?, hcw, (hcs k hlt).1]
      have w1 : wr.cell? ⟨gv, k * 2 + 1, none⟩ = some (cs k).2 := by simp [World.cell?, hcw, (hcs k hlt).2.1]
      have hgl := hB.lt
      have hgn : ¬ g = wr.heap.size := by omega
      obtain ⟨c1, f1⟩ := hB.cell (k + 1) (by omega)
      have hst : ∀ b m, (store ⟨wr.heap.size, 1, none⟩ (cs k).2 m).run Tryz.prog (wr.alloc (.cells #[.bool b, .nilFunc] 78)) = stored Tryz.prog (wr.alloc (.cells #[.bool b, .nilFunc] 78)) ⟨wr.heap.size, 1, none⟩ (cs k).2 m := fun b m => run_store _ _ _ _ _ (hcs k hlt).2.2
      have hrk := hr k hlt
      have HB := hid hB
      have HG := hid hG
      clear hB hG hcs hr hcur hcw hh
      cases hb1 : skipN xs h k k
      · rw [hb1] at c0
        go_wp2_with fail
        go_roundw
        case rel => exact ⟨k + 1, by omega, by go_num, ((unhid HB).congr (fun j hj => by simp [skipN, hb1])).alloc _, (unhid HG).trans (World.grownBy_alloc _ _ _)⟩
        case measure => simp [intOf]; omega
      · cases hb2 : (cs k).1
        · rw [hb1] at c0
          rw [hb2] at w0 hrk
          go_wp2_with fail
          go_roundw
          case rel => exact ⟨k + 1, by omega, by go_num, ((unhid HB).congr (fun j hj => by simp [skipN, hrk])).alloc _, (unhid HG).trans (World.grownBy_alloc _ _ _)⟩
          case measure => simp [intOf]; omega
        · rw [hb1] at c0
          rw [hb2] at w0 hrk
          go_wp2_with fail
          go_roundw
          case rel => exact ⟨k + 1, by omega, by go_num, (((unhid HB).set (k + 1) (by omega) true).congr (fun j hj => by by_cases e : j = k + 1 <;> simp [skipN, hb1, hrk, e])).alloc _, ((unhid HG).trans (gb_set _ _ _ _)).trans (World.grownBy_alloc _ _ _)⟩
          case measure => simp [intOf]; omega
    · have e : k = xs.length := by omega
      subst e
      go_wp2_with fail
      go_end0
      exact ⟨⟨_, rfl⟩, hB, hG⟩

set_option maxRecDepth 100000 in
set_option maxHeartbeats 4000000 in
theorem passItemS_any (xs : Pat Str) (v : Value) (cs : Nat → Bool × Value) (h : Nat → Bool) (g cap : Nat) (c : Str) (w : World) (hn : xs.length ≤ 1000) (hv : Row2 w 78 v xs.length cs) (hr : ∀ i, i < xs.length → runAt xs i = (cs i).1) (hh : Bools w g (xs.length + 1) h)
    (hT : TakesIs (fun c : Str => .string c.1) xs cs w) :
    Calls Tryz.prog 68 #[v, .slice (some ⟨g, 0, none⟩) (xs.length + 1) cap, .string c.1] w fun e W' => ∃ g', e = .returned (.slice (some ⟨g', 0, none⟩) (xs.length + 1) (xs.length + 1)) ∧ w.heap.size ≤ g' ∧ Bools W' g' (xs.length + 1) (nextP xs h c) ∧ Below w.heap.size w W' := by
  have HV := hid hv
  have hmk := mkBools w xs.length hn
  have b0 := hid (Bools.new w (xs.length + 1))
  obtain ⟨a, vc, rfl, hrow⟩ := hv
  go_enter Tryz.func68, Tryz.ntmps68
  go_wp2_with fail
  clear hmk
  have hB0 : Below w.heap.size w (w.alloc (.cells (madeCells #[.bool false] (xs.length + 1)) 4)) := (Below.refl _ _).alloc (Nat.le_refl _) _
  have hz0 : w.heap.size < (w.alloc (.cells (madeCells #[.bool false] (xs.length + 1)) 4)).heap.size := by simp
  generalize w.alloc (.cells (madeCells #[.bool false] (xs.length + 1)) 4) = wq at b0 hB0 hz0 ⊢
  go_loopw [8, 9, 15] (fun _ _ i wr => ∃ k : Nat, k ≤ xs.length ∧ i = .int .i64 k ∧ Bools wr w.heap.size (xs.length + 1) (passN xs h c k) ∧ Below w.heap.size w wr) (fun _ _ i _ => xs.length - (intOf i).toNat)
  case atStart => exact ⟨0, Nat.zero_le _, rfl, unhid b0, hB0⟩
  case round =>
    clear b0 hB0 hz0
    obtain ⟨k, hk, rfl, hB, hG⟩ := hrel
    by_cases hlt : k < xs.length
    · obtain ⟨c0, f0⟩ := (hh.below hG hh.lt).cell k (by omega)
      obtain ⟨n0, m0⟩ := hB.cell k (by omega)
      obtain ⟨n1, m1⟩ := hB.cell (k + 1) (by omega)
      rcases hrow with h0 | ⟨gv, cur, rfl, hcur, hvc, hcs⟩
      · omega
      have hgv := (Array.getElem?_eq_some_iff.1 hcur).1
      have hcw := (hG.block gv hgv).trans hcur
      have w0 : wr.cell? ⟨gv, k * 2, none⟩ = some (.bool (cs k).1) := by simp [World.cell?, hcw, (hcs k hlt).1]
      have w1 : wr.cell? ⟨gv, k * 2 + 1, none⟩ = some (cs k).2 := by simp [World.cell?, hcw, (hcs k hlt).2.1]
      have hgl : g < wr.heap.size := Nat.lt_of_lt_of_le hh.lt hG.size
      have hgn : ¬ g = wr.heap.size := by omega
      have hnl := hB.lt
      have hnn : ¬ w.heap.size = wr.heap.size := by omega
      have hgg : ¬ g = w.heap.size := by have := hh.lt; omega
      have hvn : ¬ gv = w.heap.size := by omega
      have hst : ∀ b m, (store ⟨wr.heap.size, 1, none⟩ (cs k).2 m).run Tryz.prog (wr.alloc (.cells #[.bool b, .nilFunc] 78)) = stored Tryz.prog (wr.alloc (.cells #[.bool b, .nilFunc] 78)) ⟨wr.heap.size, 1, none⟩ (cs k).2 m := fun b m => run_store _ _ _ _ _ (hcs k hlt).2.2
      have hrk := hr k hlt
      have HB := hid hB
      have HG := hid hG
      have HH := hid hh
      clear hB hG hcs hr hcur hcw hh
      have hTk := hT k hlt
      have HT := hid hTk
      clear hT hTk
      cases hb1 : h k
      · rw [hb1] at c0
        go_wp2_with fail
        go_roundw
        case rel => exact ⟨k + 1, by omega, by go_num, ((unhid HB).congr (fun j hj => by simp [passN, hb1])).alloc _, (unhid HG).alloc (unhid HG).size _⟩
        case measure => simp [intOf]; omega
      · rw [hb1] at c0
        cases hb2 : (cs k).1
        · rw [hb2] at w0 hrk
          obtain ⟨f, ca, hf, hen, hcall⟩ := unhid HT hrk
          rw [hf] at w1 hst
          have HC := hid hcall
          clear hcall HT hf
          go_wp2_with fail
          have hA : Below w.heap.size w (wr.alloc (.cells #[.bool false, .func (.func f) #[] ca] 78)) := (unhid HG).alloc (unhid HG).size _
          refine (unhid HC c _ hA).mono ?_
          rintro e w2 ⟨rfl, hb⟩
          have HB2 := hid (((unhid HB).alloc (.cells #[.bool false, .func (.func f) #[] ca] 78)).below hb (by simp; omega))
          obtain ⟨n1, m1⟩ := (unhid HB2).cell (k + 1) (by omega)
          have HG2 := hid (hA.trans (hb.mono hA.size))
          clear hA hb c0 f0 n0 m0 w0 w1 hst hgl hgn hnl hnn
          cases ht : takeAt xs k c
          · go_wp2_with fail
            go_roundw
            case rel => exact ⟨k + 1, by omega, by go_num, (unhid HB2).congr (fun j hj => by simp [passN, hb1, hrk, ht]), unhid HG2⟩
            case measure => simp [intOf]; omega
          · go_wp2_with fail
            go_roundw
            case rel => exact ⟨k + 1, by omega, by go_num, ((unhid HB2).set (k + 1) (by omega) true).congr (fun j hj => by by_cases e : j = k + 1 <;> simp [passN, hb1, hrk, ht, e]), (unhid HG2).setCell (p := ⟨w.heap.size, k + 1, none⟩) (Nat.le_refl _) _⟩
            case measure => simp [intOf]; omega
        · rw [hb2] at w0 hrk
          go_wp2_with fail
          go_roundw
          case rel => exact ⟨k + 1, by omega, by go_num, (((unhid HB).set k (by omega) true).congr (fun j hj => by by_cases e : j = k <;> simp [passN, hb1, hrk, takeAt, runAt_iff.1 hrk, e])).alloc _, ((unhid HG).setCell (p := ⟨w.heap.size, k, none⟩) (Nat.le_refl _) _).alloc (by simp; exact (unhid HG).size) _⟩
          case measure => simp [intOf]; omega
    · have e : k = xs.length := by omega
      subst e
      have HR := hid hr
      have HB := hid hB
      have HG := hid hG
      clear hT hrow hr hB hG hh
      go_wp2_with fail
      refine (skipRunsS_any xs _ cs _ w.heap.size (xs.length + 1) wr hn ((unhid HV).kept (fun b hb => (unhid HG).block b hb)) (unhid HR) (unhid HB)).mono ?_
      rintro e w2 ⟨⟨x, rfl⟩, hB2, hG2⟩
      go_wp2_with fail
      go_ret
      exact ⟨w.heap.size, rfl, Nat.le_refl _, hB2, below_of_grown (unhid HG) hG2 (Nat.le_refl _)⟩
end Go.Proofs.YtfphpggjcljliaaGreat

/- How the program goes through a pattern item by item (byte). -/
namespace Go.Proofs.YtfphpggjcljliaaGreat
open Go.RowKit Go.Shelf

set_option maxRecDepth 100000 in
set_option maxHeartbeats 4000000 in
theorem skipRunsB_any (xs : Pat UInt8) (v : Value) (cs : Nat → Bool × Value) (h : Nat → Bool) (g cap : Nat) (w : World) (hn : xs.length ≤ 1000) (hv : Row2 w 123 v xs.length cs) (hr : ∀ i, i < xs.length → runAt xs i = (cs i).1) (hh : Bools w g (xs.length + 1) h) :
    Calls Tryz.prog 84 #[v, .slice (some ⟨g, 0, none⟩) (xs.length + 1) cap] w fun e W' => (∃ x, e = .returned x) ∧ Bools W' g (xs.length + 1) (skipN xs h xs.length) ∧ w.grownBy W' (some g) := by
  obtain ⟨a, vc, rfl, hrow⟩ := hv
  go_enter Tryz.func84, Tryz.ntmps84
  go_wp2_with fail
  go_loopw [4, 5, 8] (fun _ _ i wr => ∃ k : Nat, k ≤ xs.length ∧ i = .int .i64 k ∧ Bools wr g (xs.length + 1) (skipN xs h k) ∧ w.grownBy wr (some g)) (fun _ _ i _ => xs.length - (intOf i).toNat)
  case atStart => exact ⟨0, Nat.zero_le _, rfl, hh, gb_reflG _ _⟩
  case round =>
    obtain ⟨k, hk, rfl, hB, hG⟩ := hrel
    by_cases hlt : k < xs.length
    · obtain ⟨c0, f0⟩ := hB.cell k (by omega)
      rcases hrow with h0 | ⟨gv, cur, rfl, hcur, hvc, hcs⟩
      · omega
      have hcw := (hG.block gv (Array.getElem?_eq_some_iff.1 hcur).1 (by intro e; cases e; obtain ⟨cur', q, _⟩ := hh; exact type_neG hcur q (by decide) rfl)).trans hcur
      have w0 : wr.cell? ⟨gv, k * 2, none⟩ = some (.bool (cs k).1) := by simp [World.cell?, hcw, (hcs k hlt).1]
      have w1 : wr.cell? ⟨gv, k * 2 + 1, none⟩ = some (cs k).2 := by simp [World.cell?, hcw, (hcs k hlt).2.1]
      have hgl := hB.lt
      have hgn : ¬ g = wr.heap.size := by omega
      obtain ⟨c1, f1⟩ := hB.cell (k + 1) (by omega)
      have hst : ∀ b m, (store ⟨wr.heap.size, 1, none⟩ (cs k).2 m).run Tryz.prog (wr.alloc (.cells #[.bool b, .nilFunc] 123)) = stored Tryz.prog (wr.alloc (.cells #[.bool b, .nilFunc] 123)) ⟨wr.heap.size, 1, none⟩ (cs k).2 m := fun b m => run_store _ _ _ _ _ (hcs k hlt).2.2
      have hrk := hr k hlt
      have HB := hid hB
      have HG := hid hG
      clear hB hG hcs hr hcur hcw hh
      cases hb1 : skipN xs h k k
      · rw [hb1] at c0
        go_wp2_with fail
        go_roundw
        case rel => exact ⟨k + 1, by omega, by go_num, ((unhid HB).congr (fun j hj => by simp [skipN, hb1])).alloc _, (unhid HG).trans (World.grownBy_alloc _ _ _)⟩
        case measure => simp [intOf]; omega
      · cases hb2 : (cs k).1
        · rw [hb1] at c0
          rw [hb2] at w0 hrk
          go_wp2_with fail
          go_roundw
          case rel => exact ⟨k + 1, by omega, by go_num, ((unhid HB).congr (fun j hj => by simp [skipN, hrk])).alloc _, (unhid HG).trans (World.grownBy_alloc _ _ _)⟩
          case measure => simp [intOf]; omega
        · rw [hb1] at c0
          rw [hb2] at w0 hrk
          go_wp2_with fail
          go_roundw
          case rel => exact ⟨k + 1, by omega, by go_num, (((unhid HB).set (k + 1) (by omega) true).congr (fun j hj => by by_cases e : j = k + 1 <;> simp [skipN, hb1, hrk, e])).alloc _, ((unhid HG).trans (gb_set _ _ _ _)).trans (World.grownBy_alloc _ _ _)⟩
          case measure => simp [intOf]; omega
    · have e : k = xs.length := by omega
      subst e
      go_wp2_with fail
      go_end0
      exact ⟨⟨_, rfl⟩, hB, hG⟩

set_option maxRecDepth 100000 in
set_option maxHeartbeats 4000000 in
theorem passItemB_any (xs : Pat UInt8) (v : Value) (cs : Nat → Bool × Value) (h : Nat → Bool) (g cap : Nat) (c : UInt8) (w : World) (hn : xs.length ≤ 1000) (hv : Row2 w 123 v xs.length cs) (hr : ∀ i, i < xs.length → runAt xs i = (cs i).1) (hh : Bools w g (xs.length + 1) h)
    (hT : TakesIs (fun c : UInt8 => .int .u8 c.toNat) xs cs w) :
    Calls Tryz.prog 85 #[v, .slice (some ⟨g, 0, none⟩) (xs.length + 1) cap, .int .u8 c.toNat] w fun e W' => ∃ g', e = .returned (.slice (some ⟨g', 0, none⟩) (xs.length + 1) (xs.length + 1)) ∧ w.heap.size ≤ g' ∧ Bools W' g' (xs.length + 1) (nextP xs h c) ∧ Below w.heap.size w W' := by
  have HV := hid hv
  have hmk := mkBools w xs.length hn
  have b0 := hid (Bools.new w (xs.length + 1))
  obtain ⟨a, vc, rfl, hrow⟩ := hv
  go_enter Tryz.func85, Tryz.ntmps85
  go_wp2_with fail
  clear hmk
  have hB0 : Below w.heap.size w (w.alloc (.cells (madeCells #[.bool false] (xs.length + 1)) 4)) := (Below.refl _ _).alloc (Nat.le_refl _) _
  have hz0 : w.heap.size < (w.alloc (.cells (madeCells #[.bool false] (xs.length + 1)) 4)).heap.size := by simp
  generalize w.alloc (.cells (madeCells #[.bool false] (xs.length + 1)) 4) = wq at b0 hB0 hz0 ⊢
  go_loopw [8, 9, 15] (fun _ _ i wr => ∃ k : Nat, k ≤ xs.length ∧ i = .int .i64 k ∧ Bools wr w.heap.size (xs.length + 1) (passN xs h c k) ∧ Below w.heap.size w wr) (fun _ _ i _ => xs.length - (intOf i).toNat)
  case atStart => exact ⟨0, Nat.zero_le _, rfl, unhid b0, hB0⟩
  case round =>
    clear b0 hB0 hz0
    obtain ⟨k, hk, rfl, hB, hG⟩ := hrel
    by_cases hlt : k < xs.length
    · obtain ⟨c0, f0⟩ := (hh.below hG hh.lt).cell k (by omega)
      obtain ⟨n0, m0⟩ := hB.cell k (by omega)
      obtain ⟨n1, m1⟩ := hB.cell (k + 1) (by omega)
      rcases hrow with h0 | ⟨gv, cur, rfl, hcur, hvc, hcs⟩
      · omega
      have hgv := (Array.getElem?_eq_some_iff.1 hcur).1
      have hcw := (hG.block gv hgv).trans hcur
      have w0 : wr.cell? ⟨gv, k * 2, none⟩ = some (.bool (cs k).1) := by simp [World.cell?, hcw, (hcs k hlt).1]
      have w1 : wr.cell? ⟨gv, k * 2 + 1, none⟩ = some (cs k).2 := by simp [World.cell?, hcw, (hcs k hlt).2.1]
      have hgl : g < wr.heap.size := Nat.lt_of_lt_of_le hh.lt hG.size
      have hgn : ¬ g = wr.heap.size := by omega
      have hnl := hB.lt
      have hnn : ¬ w.heap.size = wr.heap.size := by omega
      have hgg : ¬ g = w.heap.size := by have := hh.lt; omega
      have hvn : ¬ gv = w.heap.size := by omega
      have hst : ∀ b m, (store ⟨wr.heap.size, 1, none⟩ (cs k).2 m).run Tryz.prog (wr.alloc (.cells #[.bool b, .nilFunc] 123)) = stored Tryz.prog (wr.alloc (.cells #[.bool b, .nilFunc] 123)) ⟨wr.heap.size, 1, none⟩ (cs k).2 m := fun b m => run_store _ _ _ _ _ (hcs k hlt).2.2
      have hrk := hr k hlt
      have HB := hid hB
      have HG := hid hG
      have HH := hid hh
      clear hB hG hcs hr hcur hcw hh
      have hTk := hT k hlt
      have HT := hid hTk
      clear hT hTk
      cases hb1 : h k
      · rw [hb1] at c0
        go_wp2_with fail
        go_roundw
        case rel => exact ⟨k + 1, by omega, by go_num, ((unhid HB).congr (fun j hj => by simp [passN, hb1])).alloc _, (unhid HG).alloc (unhid HG).size _⟩
        case measure => simp [intOf]; omega
      · rw [hb1] at c0
        cases hb2 : (cs k).1
        · rw [hb2] at w0 hrk
          obtain ⟨f, ca, hf, hen, hcall⟩ := unhid HT hrk
          rw [hf] at w1 hst
          have HC := hid hcall
          clear hcall HT hf
          go_wp2_with fail
          have hA : Below w.heap.size w (wr.alloc (.cells #[.bool false, .func (.func f) #[] ca] 123)) := (unhid HG).alloc (unhid HG).size _
          refine (unhid HC c _ hA).mono ?_
          rintro e w2 ⟨rfl, hb⟩
          have HB2 := hid (((unhid HB).alloc (.cells #[.bool false, .func (.func f) #[] ca] 123)).below hb (by simp; omega))
          obtain ⟨n1, m1⟩ := (unhid HB2).cell (k + 1) (by omega)
          have HG2 := hid (hA.trans (hb.mono hA.size))
          clear hA hb c0 f0 n0 m0 w0 w1 hst hgl hgn hnl hnn
          cases ht : takeAt xs k c
          · go_wp2_with fail
            go_roundw
            case rel => exact ⟨k + 1, by omega, by go_num, (unhid HB2).congr (fun j hj => by simp [passN, hb1, hrk, ht]), unhid HG2⟩
            case measure => simp [intOf]; omega
          · go_wp2_with fail
            go_roundw
            case rel => exact ⟨k + 1, by omega, by go_num, ((unhid HB2).set (k + 1) (by omega) true).congr (fun j hj => by by_cases e : j = k + 1 <;> simp [passN, hb1, hrk, ht, e]), (unhid HG2).setCell (p := ⟨w.heap.size, k + 1, none⟩) (Nat.le_refl _) _⟩
            case measure => simp [intOf]; omega
        · rw [hb2] at w0 hrk
          go_wp2_with fail
          go_roundw
          case rel => exact ⟨k + 1, by omega, by go_num, (((unhid HB).set k (by omega) true).congr (fun j hj => by by_cases e : j = k <;> simp [passN, hb1, hrk, takeAt, runAt_iff.1 hrk, e])).alloc _, ((unhid HG).setCell (p := ⟨w.heap.size, k, none⟩) (Nat.le_refl _) _).alloc (by simp; exact (unhid HG).size) _⟩
          case measure => simp [intOf]; omega
    · have e : k = xs.length := by omega
      subst e
      have HR := hid hr
      have HB := hid hB
      have HG := hid hG
      clear hT hrow hr hB hG hh
      go_wp2_with fail
      refine (skipRunsB_any xs _ cs _ w.heap.size (xs.length + 1) wr hn ((unhid HV).kept (fun b hb => (unhid HG).block b hb)) (unhid HR) (unhid HB)).mono ?_
      rintro e w2 ⟨⟨x, rfl⟩, hB2, hG2⟩
      go_wp2_with fail
      go_ret
      exact ⟨w.heap.size, rfl, Nat.le_refl _, hB2, below_of_grown (unhid HG) hG2 (Nat.le_refl _)⟩
end Go.Proofs.YtfphpggjcljliaaGreat

/- A class of a pattern, as the program reads it and as its model does. -/
namespace Go.Proofs.YtfphpggjcljliaaGreat
open Go.RowKit Go.Shelf

theorem index_at {l : List UInt8} {b : UInt8} {i : Nat} (h : Lib.indexByte l b = i) : l[i]? = some b ∧ ∀ j, j < i → l[j]? ≠ some b := by
  induction l generalizing i with
  | nil => simp [Lib.indexByte] at h
  | cons c l ih =>
    unfold Lib.indexByte at h
    have hg := Lib.indexByte_ge l b
    by_cases hc : (c == b) = true
    · simp [hc] at h
      obtain rfl : i = 0 := by omega
      have : c = b := by simpa using hc
      exact ⟨by simp [this], fun j hj => by omega⟩
    · simp [hc] at h
      split at h
      · omega
      · obtain ⟨j, rfl⟩ : ∃ j, i = j + 1 := ⟨i - 1, by omega⟩
        obtain ⟨h1, h2⟩ := ih (i := j) (by omega)
        refine ⟨by simpa using h1, fun k hk => ?_⟩
        cases k with
        | zero => simpa using hc
        | succ k => simpa using h2 k (by omega)
theorem index_of {l : List UInt8} {b : UInt8} {i : Nat} (h1 : l[i]? = some b) (h2 : ∀ j, j < i → l[j]? ≠ some b) : Lib.indexByte l b = i := by
  by_cases hn : Lib.indexByte l b < 0
  · exfalso
    have hc := cutB_none b l hn
    have : ∀ (l : List UInt8) (i : Nat), Lib.indexByte l b < 0 → l[i]? ≠ some b := by
      intro l
      induction l with
      | nil => intro i _; simp
      | cons c l ih =>
        intro i h
        unfold Lib.indexByte at h
        have hg := Lib.indexByte_ge l b
        by_cases hc : (c == b) = true
        · simp [hc] at h
        · simp [hc] at h
          have hl : Lib.indexByte l b < 0 := by split at h <;> omega
          cases i with
          | zero => simpa using hc
          | succ i => simpa using ih i hl
    exact this l i hn h1
  · obtain ⟨k, ek⟩ : ∃ k : Nat, Lib.indexByte l b = k := ⟨(Lib.indexByte l b).toNat, by omega⟩
    obtain ⟨g1, g2⟩ := index_at ek
    rw [ek]
    rcases Nat.lt_trichotomy k i with h | h | h
    · exact absurd g1 (h2 k h)
    · rw [h]
    · exact absurd h1 (g2 i h)

/-- Where the bytes of a class begin. -/
def clsFrom (l : List UInt8) : Nat := if l[1]? = some 33 then 2 else 1
theorem mid_data (s : ByteArray) (i : Nat) : (s.extract 1 i).data.toList = (s.data.toList.take i).drop 1 := by
  rw [Lib.extract_data, ← List.drop_take]
theorem mid_bang {s : ByteArray} {i : Nat} (hi : 1 < i) : hasA (s.extract 1 i) bang = decide (s.data.toList[1]? = some 33) := by
  unfold hasA Lib.hasPrefix
  rw [mid_data]
  have hb : bang.data.toList = [33] := rfl
  rw [hb]
  have h1 : ((s.data.toList.take i).drop 1)[0]? = s.data.toList[1]? := by
    rw [List.getElem?_drop, List.getElem?_take]; simp [hi]
  cases hm : (s.data.toList.take i).drop 1 with
  | nil =>
    rw [hm] at h1
    rw [← h1]; rfl
  | cons c t =>
    rw [hm] at h1
    rw [← h1]
    simp [List.isPrefixOf]
    rw [Bool.eq_iff_iff]
    simp
    exact eq_comm
theorem cls_data {s : ByteArray} {i : Nat} (hi : 1 < i) : (clsA s i).data.toList = (s.data.toList.take i).drop (clsFrom s.data.toList) := by
  unfold clsA cutA clsFrom
  rw [mid_bang hi]
  by_cases h : s.data.toList[1]? = some 33
  · rw [if_pos h, if_pos (decide_eq_true h), Lib.extract_data, mid_data]
    have hb : bang.size = 1 := rfl
    rw [hb, List.drop_drop, List.take_of_length_le]
    have hl : 1 < s.data.toList.length := (List.getElem?_eq_some_iff.1 h).1
    rw [Lib.size_eq, mid_data]; simp at hl ⊢; omega
  · rw [if_neg h, if_neg (by simpa using h), mid_data]

theorem class_some {s : ByteArray} {i : Nat} (h0 : s.data.toList[0]? = some 91) (hk : clsFrom s.data.toList < i) (hi : s.data.toList[i]? = some 93) (hall : ∀ j, clsFrom s.data.toList ≤ j → j < i → ∃ c, s.data.toList[j]? = some c ∧ nameB c.toNat = true) :
    classR s = some (.cls (clsA s i) (hasA (s.extract 1 i) bang), i + 1) := by
  have h1i : 1 < i := by unfold clsFrom at hk; split at hk <;> omega
  have hix : Lib.indexByte s.data.toList 93 = i := by
    refine index_of hi fun j hj => ?_
    by_cases hj0 : j = 0
    · subst hj0; rw [h0]; decide
    · by_cases hjk : clsFrom s.data.toList ≤ j
      · obtain ⟨c, hc, hn⟩ := hall j hjk hj
        rw [hc]
        intro e
        cases e
        revert hn; decide
      · have hj1 : j = 1 ∧ s.data.toList[1]? = some 33 := by
          unfold clsFrom at hjk
          split at hjk
          · exact ⟨by omega, by assumption⟩
          · omega
        rw [hj1.1, hj1.2]; decide
  have hil : i < s.data.toList.length := (List.getElem?_eq_some_iff.1 hi).1
  have he : (clsA s i).toList.isEmpty = false := by
    rw [Lib.toList_data, List.isEmpty_eq_false_iff, ← List.length_pos_iff, cls_data h1i, List.length_drop, List.length_take]; omega
  have ha : ((clsA s i).data.toList.all fun c => nameB c.toNat) = true := by
    rw [List.all_eq_true]
    intro c hc
    rw [cls_data h1i] at hc
    obtain ⟨m, hm⟩ := List.mem_iff_getElem?.1 hc
    rw [List.getElem?_drop, List.getElem?_take] at hm
    split at hm
    · rename_i hlt
      obtain ⟨d, hd, hn⟩ := hall _ (Nat.le_add_right _ m) hlt
      rw [hd] at hm
      cases hm
      exact hn
    · cases hm
  unfold classR
  rw [hix, if_neg (by omega)]
  show (if ((clsA s i).toList.isEmpty || _) = true then none else _) = _
  rw [he]
  simp only [Int.toNat_natCast]
  rw [ha]; rfl
theorem class_of {s : ByteArray} {p : W8 × Nat} (h0 : s.data.toList[0]? = some 91) (h : classR s = some p) : ∃ i, p.2 = i + 1 ∧ clsFrom s.data.toList < i ∧ s.data.toList[i]? = some 93 ∧ ∀ j, clsFrom s.data.toList ≤ j → j < i → ∃ c, s.data.toList[j]? = some c ∧ nameB c.toNat = true := by
  unfold classR at h
  split at h
  · cases h
  · split at h
    · cases h
    · rename_i hi hc
      obtain ⟨i, ei⟩ : ∃ i : Nat, Lib.indexByte s.data.toList 93 = i := ⟨(Lib.indexByte s.data.toList 93).toNat, by omega⟩
      obtain ⟨g1, g2⟩ := index_at ei
      rw [ei] at h hc
      simp only [Int.toNat_natCast] at h hc
      cases h
      simp only [Bool.or_eq_true, Bool.not_eq_true', not_or, Bool.not_eq_true, Bool.not_eq_false] at hc
      obtain ⟨hc1, hc2⟩ := hc
      have hil : i < s.data.toList.length := (List.getElem?_eq_some_iff.1 g1).1
      have h1i : 1 < i := by
        rcases (by omega : i = 0 ∨ i = 1 ∨ 1 < i) with rfl | rfl | h
        · rw [h0] at g1; cases g1
        · exfalso
          rw [Lib.toList_data, List.isEmpty_eq_false_iff, ← List.length_pos_iff] at hc1
          have hz : (clsA s 1).data.toList.length = 0 := by
            unfold clsA cutA
            split
            · rw [Lib.extract_data, mid_data]; simp
            · rw [mid_data]; simp
          omega
        · exact h
      refine ⟨i, rfl, ?_, g1, fun j h1 h2 => ?_⟩
      · rw [Lib.toList_data, List.isEmpty_eq_false_iff, ← List.length_pos_iff, cls_data h1i, List.length_drop, List.length_take] at hc1
        omega
      · obtain ⟨c, hcj⟩ : ∃ c, s.data.toList[j]? = some c := ⟨_, List.getElem?_eq_getElem (by omega)⟩
        refine ⟨c, hcj, ?_⟩
        rw [List.all_eq_true] at hc2
        refine hc2 c ?_
        rw [cls_data h1i, List.mem_iff_getElem?]
        refine ⟨j - clsFrom s.data.toList, ?_⟩
        rw [List.getElem?_drop, List.getElem?_take, show clsFrom s.data.toList + (j - clsFrom s.data.toList) = j by omega, if_pos h2, hcj]
end Go.Proofs.YtfphpggjcljliaaGreat

/- How long a class is, by the model. -/
namespace Go.Proofs.YtfphpggjcljliaaGreat
open Go.RowKit Go.Shelf

def classN (s : ByteArray) : Int := match classR s with
  | some p => p.2
  | none => 0
theorem get_some {s : ByteArray} {j : Nat} (hj : j < s.size) : s.data.toList[j]? = some s[j] := getByte s j hj
theorem name_93 : nameB ((93 : UInt8).toNat : Int) = false := by decide
/-- The scan ended at k: what that tells of the class. -/
theorem class_end {s : ByteArray} {k : Nat} (h0 : s.data.toList[0]? = some 91) (hk : k ≤ s.size) (hk0 : clsFrom s.data.toList ≤ k) (hall : ∀ j (hj : j < s.size), clsFrom s.data.toList ≤ j → j < k → nameB (s[j].toNat : Int) = true)
    (hend : ∀ h : k < s.size, nameB (s[k].toNat : Int) = false) : classN s = if k = clsFrom s.data.toList ∨ s.data.toList[k]? ≠ some 93 then 0 else (k : Int) + 1 := by
  have hl : s.data.toList.length = s.size := (Lib.size_eq s).symm
  split
  · rename_i hc
    unfold classN
    cases hr : classR s with
    | none => rfl
    | some p =>
      exfalso
      obtain ⟨i, _, h1, h2, h3⟩ := class_of h0 hr
      have his : i < s.size := by rw [← hl]; exact (List.getElem?_eq_some_iff.1 h2).1
      rcases Nat.lt_trichotomy i k with h | h | h
      · have := hall i his (Nat.le_of_lt h1) h
        rw [get_some his] at h2
        have e : s[i] = 93 := by simpa using h2
        rw [e] at this
        revert this; decide
      · subst h
        rcases hc with hc | hc
        · omega
        · exact hc h2
      · obtain ⟨c, hcc, hn⟩ := h3 k hk0 h
        have hks : k < s.size := by omega
        rw [get_some hks] at hcc
        cases hcc
        rw [hend hks] at hn
        cases hn
  · rename_i hc
    simp only [not_or, Decidable.not_not] at hc
    unfold classN
    rw [class_some h0 (by omega) hc.2 (fun j h1 h2 => ⟨_, get_some (by omega), hall j (by omega) h1 h2⟩)]
    simp

set_option maxRecDepth 100000 in
set_option maxHeartbeats 4000000 in
theorem l1Class_any (s : ByteArray) (hs : s.size ≤ 1048576) (h0 : s.data.toList[0]? = some 91) (w : World) :
    Calls Tryz.prog 93 #[.string s] w fun e w' => e = .returned (.int .i64 (classN s)) ∧ w' = w := by
  have hl : s.data.toList.length = s.size := (Lib.size_eq s).symm
  have hz : 0 < s.size := by rw [← hl]; exact (List.getElem?_eq_some_iff.1 h0).1
  have hcase : (¬ (1 : Int) < s.size ∧ clsFrom s.data.toList = 1) ∨ ∃ h : 1 < s.size, (((s[1]).toNat : Int) == 33) = true ∧ clsFrom s.data.toList = 2 ∨ (((s[1]).toNat : Int) == 33) = false ∧ clsFrom s.data.toList = 1 := by
    by_cases h : 1 < s.size
    · refine .inr ⟨h, ?_⟩
      by_cases e : s[1] = 33
      · left; exact ⟨by rw [e]; rfl, by unfold clsFrom; rw [get_some h, e]; rfl⟩
      · right; exact ⟨eq_no (n := 33) rfl e, by unfold clsFrom; rw [get_some h, if_neg (by simpa using e)]⟩
    · refine .inl ⟨by omega, ?_⟩
      unfold clsFrom
      rw [List.getElem?_eq_none (by omega)]; rfl
  have HC := hid (fun k => class_end (s := s) (k := k) h0)
  clear h0 hl
  rcases hcase with ⟨g1, g2⟩ | ⟨g1, ⟨g3, g2⟩ | ⟨g3, g2⟩⟩
  · rw [g2] at HC
    clear g2
    go_enter Tryz.func93, Tryz.ntmps93
    go_wp2_with fail
    go_loop [3] (fun i => ∃ k : Nat, k ≤ s.size ∧ 1 ≤ k ∧ i = .int .i64 k ∧ Hid (∀ j (hj : j < s.size), 1 ≤ j → j < k → nameB (s[j].toNat : Int) = true)) (fun i => s.size - (intOf i).toNat)
    case atStart => exact ⟨1, by omega, Nat.le_refl _, rfl, hid (fun j hj h1 h2 => by omega)⟩
    case round =>
      obtain ⟨k, hk, hkF, rfl, hc⟩ := hrel
      by_cases hlt : k < s.size
      · go_wp2_with fail
        refine (l1Small_any _ _).mono ?_
        rintro e w' ⟨rfl, rfl⟩
        cases hx : nameB (s[k].toNat : Int)
        · have E := hid (unhid HC k hk hkF (unhid hc) (fun _ => hx))
          by_cases hF : k = 1
          · subst hF
            go_wp2_with fail
            go_ret
            exact ⟨by rw [unhid E]; rfl, rfl⟩
          · have hF' : ((k : Int) == 1) = false := by rw [beq_eq_false_iff_ne]; omega
            have hS' : ((k : Int) == s.size) = false := by rw [beq_eq_false_iff_ne]; omega
            by_cases h93 : s[k] = 93
            · have b9 : (((s[k]).toNat : Int) != 93) = false := by rw [h93]; rfl
              have E2 := hid (show classN s = (k : Int) + 1 by rw [unhid E, if_neg (by rw [get_some hlt, h93]; simp [hF])])
              clear h93
              go_wp2_with fail
              go_ret
              exact ⟨by rw [unhid E2]; rfl, rfl⟩
            · have b9 : (((s[k]).toNat : Int) != 93) = true := by rw [bne_iff_ne]; intro e; exact h93 (UInt8.toNat_inj.1 (by have : (93 : UInt8).toNat = 93 := rfl; omega))
              have E2 := hid (show classN s = 0 by rw [unhid E, if_pos (.inr (by rw [get_some hlt]; simpa using h93))])
              clear h93
              go_wp2_with fail
              go_ret
              exact ⟨by rw [unhid E2]; rfl, rfl⟩
        · go_wp2_with fail
          refine ⟨⟨k + 1, by omega, by omega, by go_num, hid (fun j hj h1 h2 => ?_)⟩, by simp [intOf]; omega⟩
          by_cases hjk : j < k
          · exact unhid hc j hj h1 hjk
          · obtain rfl : j = k := by omega
            exact hx
      · have E := hid (unhid HC k hk hkF (unhid hc) (fun h => absurd h hlt))
        have E2 := hid (show classN s = 0 by rw [unhid E, if_pos (.inr (by rw [List.getElem?_eq_none (by simp; omega)]; simp))])
        have hS : ((k : Int) == s.size) = true := by rw [beq_iff_eq]; omega
        by_cases hF : k = 1
        · subst hF
          first | (exfalso; omega) | (go_wp2_with fail; go_ret; exact ⟨by rw [unhid E2]; rfl, rfl⟩)
        · have hF' : ((k : Int) == 1) = false := by rw [beq_eq_false_iff_ne]; omega
          go_wp2_with fail
          go_ret
          exact ⟨by rw [unhid E2]; rfl, rfl⟩
  · rw [g2] at HC
    clear g2
    go_enter Tryz.func93, Tryz.ntmps93
    go_wp2_with fail
    go_loop [3] (fun i => ∃ k : Nat, k ≤ s.size ∧ 2 ≤ k ∧ i = .int .i64 k ∧ Hid (∀ j (hj : j < s.size), 2 ≤ j → j < k → nameB (s[j].toNat : Int) = true)) (fun i => s.size - (intOf i).toNat)
    case atStart => exact ⟨2, by omega, Nat.le_refl _, rfl, hid (fun j hj h1 h2 => by omega)⟩
    case round =>
      obtain ⟨k, hk, hkF, rfl, hc⟩ := hrel
      by_cases hlt : k < s.size
      · go_wp2_with fail
        refine (l1Small_any _ _).mono ?_
        rintro e w' ⟨rfl, rfl⟩
        cases hx : nameB (s[k].toNat : Int)
        · have E := hid (unhid HC k hk hkF (unhid hc) (fun _ => hx))
          by_cases hF : k = 2
          · subst hF
            go_wp2_with fail
            go_ret
            exact ⟨by rw [unhid E]; rfl, rfl⟩
          · have hF' : ((k : Int) == 2) = false := by rw [beq_eq_false_iff_ne]; omega
            have hS' : ((k : Int) == s.size) = false := by rw [beq_eq_false_iff_ne]; omega
            by_cases h93 : s[k] = 93
            · have b9 : (((s[k]).toNat : Int) != 93) = false := by rw [h93]; rfl
              have E2 := hid (show classN s = (k : Int) + 1 by rw [unhid E, if_neg (by rw [get_some hlt, h93]; simp [hF])])
              clear h93
              go_wp2_with fail
              go_ret
              exact ⟨by rw [unhid E2]; rfl, rfl⟩
            · have b9 : (((s[k]).toNat : Int) != 93) = true := by rw [bne_iff_ne]; intro e; exact h93 (UInt8.toNat_inj.1 (by have : (93 : UInt8).toNat = 93 := rfl; omega))
              have E2 := hid (show classN s = 0 by rw [unhid E, if_pos (.inr (by rw [get_some hlt]; simpa using h93))])
              clear h93
              go_wp2_with fail
              go_ret
              exact ⟨by rw [unhid E2]; rfl, rfl⟩
        · go_wp2_with fail
          refine ⟨⟨k + 1, by omega, by omega, by go_num, hid (fun j hj h1 h2 => ?_)⟩, by simp [intOf]; omega⟩
          by_cases hjk : j < k
          · exact unhid hc j hj h1 hjk
          · obtain rfl : j = k := by omega
            exact hx
      · have E := hid (unhid HC k hk hkF (unhid hc) (fun h => absurd h hlt))
        have E2 := hid (show classN s = 0 by rw [unhid E, if_pos (.inr (by rw [List.getElem?_eq_none (by simp; omega)]; simp))])
        have hS : ((k : Int) == s.size) = true := by rw [beq_iff_eq]; omega
        by_cases hF : k = 2
        · subst hF
          first | (exfalso; omega) | (go_wp2_with fail; go_ret; exact ⟨by rw [unhid E2]; rfl, rfl⟩)
        · have hF' : ((k : Int) == 2) = false := by rw [beq_eq_false_iff_ne]; omega
          go_wp2_with fail
          go_ret
          exact ⟨by rw [unhid E2]; rfl, rfl⟩
  · rw [g2] at HC
    clear g2
    go_enter Tryz.func93, Tryz.ntmps93
    go_wp2_with fail
    go_loop [3] (fun i => ∃ k : Nat, k ≤ s.size ∧ 1 ≤ k ∧ i = .int .i64 k ∧ Hid (∀ j (hj : j < s.size), 1 ≤ j → j < k → nameB (s[j].toNat : Int) = true)) (fun i => s.size - (intOf i).toNat)
    case atStart => exact ⟨1, by omega, Nat.le_refl _, rfl, hid (fun j hj h1 h2 => by omega)⟩
    case round =>
      obtain ⟨k, hk, hkF, rfl, hc⟩ := hrel
      by_cases hlt : k < s.size
      · go_wp2_with fail
        refine (l1Small_any _ _).mono ?_
        rintro e w' ⟨rfl, rfl⟩
        cases hx : nameB (s[k].toNat : Int)
        · have E := hid (unhid HC k hk hkF (unhid hc) (fun _ => hx))
          by_cases hF : k = 1
          · subst hF
            go_wp2_with fail
            go_ret
            exact ⟨by rw [unhid E]; rfl, rfl⟩
          · have hF' : ((k : Int) == 1) = false := by rw [beq_eq_false_iff_ne]; omega
            have hS' : ((k : Int) == s.size) = false := by rw [beq_eq_false_iff_ne]; omega
            by_cases h93 : s[k] = 93
            · have b9 : (((s[k]).toNat : Int) != 93) = false := by rw [h93]; rfl
              have E2 := hid (show classN s = (k : Int) + 1 by rw [unhid E, if_neg (by rw [get_some hlt, h93]; simp [hF])])
              clear h93
              go_wp2_with fail
              go_ret
              exact ⟨by rw [unhid E2]; rfl, rfl⟩
            · have b9 : (((s[k]).toNat : Int) != 93) = true := by rw [bne_iff_ne]; intro e; exact h93 (UInt8.toNat_inj.1 (by have : (93 : UInt8).toNat = 93 := rfl; omega))
              have E2 := hid (show classN s = 0 by rw [unhid E, if_pos (.inr (by rw [get_some hlt]; simpa using h93))])
              clear h93
              go_wp2_with fail
              go_ret
              exact ⟨by rw [unhid E2]; rfl, rfl⟩
        · go_wp2_with fail
          refine ⟨⟨k + 1, by omega, by omega, by go_num, hid (fun j hj h1 h2 => ?_)⟩, by simp [intOf]; omega⟩
          by_cases hjk : j < k
          · exact unhid hc j hj h1 hjk
          · obtain rfl : j = k := by omega
            exact hx
      · have E := hid (unhid HC k hk hkF (unhid hc) (fun h => absurd h hlt))
        have E2 := hid (show classN s = 0 by rw [unhid E, if_pos (.inr (by rw [List.getElem?_eq_none (by simp; omega)]; simp))])
        have hS : ((k : Int) == s.size) = true := by rw [beq_iff_eq]; omega
        by_cases hF : k = 1
        · subst hF
          first | (exfalso; omega) | (go_wp2_with fail; go_ret; exact ⟨by rw [unhid E2]; rfl, rfl⟩)
        · have hF' : ((k : Int) == 1) = false := by rw [beq_eq_false_iff_ne]; omega
          go_wp2_with fail
          go_ret
          exact ⟨by rw [unhid E2]; rfl, rfl⟩
end Go.Proofs.YtfphpggjcljliaaGreat

/- What a name of a pattern is, by the model. -/
namespace Go.Proofs.YtfphpggjcljliaaGreat
open Go.RowKit Go.Shelf

theorem ba_same {x y : ByteArray} (h : x.data.toList = y.data.toList) : x = y := by
  obtain ⟨⟨l⟩⟩ := x; obtain ⟨⟨m⟩⟩ := y; simp at h; subst h; rfl
theorem tail_data (s : ByteArray) (k : Nat) : (s.extract k s.size).data.toList = s.data.toList.drop k := by
  rw [Lib.extract_data, List.take_of_length_le (by simp)]
theorem tail_tail (s : ByteArray) (k n : Nat) : (s.extract k s.size).extract n (s.extract k s.size).size = s.extract (k + n) s.size :=
  ba_same (by rw [tail_data, tail_data, tail_data, List.drop_drop])
theorem tail_size (s : ByteArray) (k : Nat) : (s.extract k s.size).size = s.size - k := by rw [ByteArray.size_extract]; omega
theorem tail_head {s : ByteArray} {k : Nat} (hk : k < s.size) (h : 0 < (s.extract k s.size).size) : (s.extract k s.size)[0] = s[k] := by
  have h1 : (s.extract k s.size).data.toList[0]? = some (s.extract k s.size)[0] := getByte _ 0 h
  have h2 : s.data.toList[k]? = some s[k] := getByte s k hk
  rw [tail_data, List.getElem?_drop, Nat.add_zero, h2] at h1
  exact (Option.some.inj h1).symm
/-- A name of a pattern, of one byte at least. -/
def globbedB (s : ByteArray) : Bool := (wants s).any fun l => !l.isEmpty
theorem globbed_size {s : ByteArray} (h : 0 < s.size) : globbedB s = (wants s).isSome := by
  unfold globbedB
  cases hr : firstR s s[0] with
  | none => rw [wants_none h hr]; rfl
  | some p =>
    obtain ⟨x, n⟩ := p
    rw [wants_some h hr]
    cases wants (s.extract n s.size) <;> rfl
theorem globbed_nil {s : ByteArray} (h : s.size = 0) : globbedB s = false := by unfold globbedB; rw [wants_nil h]; rfl
theorem tail_none {s : ByteArray} {k : Nat} (hk : k < s.size) (h : firstR (s.extract k s.size) s[k] = none) : (wants (s.extract k s.size)).isSome = false := by
  have hz : 0 < (s.extract k s.size).size := by rw [tail_size]; omega
  rw [wants_none hz (by rw [tail_head hk hz]; exact h)]; rfl
theorem tail_some {s : ByteArray} {k n : Nat} {x : W8} (hk : k < s.size) (h : firstR (s.extract k s.size) s[k] = some (x, n)) : (wants (s.extract k s.size)).isSome = (wants (s.extract (k + n) s.size)).isSome ∧ 1 ≤ n ∧ k + n ≤ s.size := by
  have hz : 0 < (s.extract k s.size).size := by rw [tail_size]; omega
  have hr : firstR (s.extract k s.size) (s.extract k s.size)[0] = some (x, n) := by rw [tail_head hk hz]; exact h
  have hn := firstR_le hz hr
  rw [tail_size] at hn
  rw [wants_some hz hr, tail_tail]
  exact ⟨by cases wants (s.extract (k + n) s.size) <;> rfl, by omega, by omega⟩

set_option maxRecDepth 100000 in
set_option maxHeartbeats 4000000 in
theorem l1Globbed_any (s : ByteArray) (hs : s.size ≤ 1048576) (w : World) :
    Calls Tryz.prog 73 #[.string s] w fun e w' => e = .returned (.bool (globbedB s)) ∧ w' = w := by
  go_enter Tryz.func73, Tryz.ntmps73
  go_wp2_with fail
  go_loop [3, 4] (fun i _ => ∃ k : Nat, k ≤ s.size ∧ i = .int .i64 k ∧ Hid ((wants s).isSome = (wants (s.extract k s.size)).isSome)) (fun i _ => s.size - (intOf i).toNat)
  case atStart => exact ⟨0, by omega, rfl, hid (by rw [show s.extract 0 s.size = s from ba_same (by rw [tail_data, List.drop_zero])])⟩
  case round =>
    obtain ⟨k, hk, rfl, hc⟩ := hrel
    by_cases hlt : k < s.size
    · have hz : 0 < s.size := by omega
      by_cases e1 : s[k] = 91
      · have b1 : (((s[k]).toNat : Int) == 91) = true := by rw [e1]; rfl
        have h0 : (s.extract k s.size).data.toList[0]? = some 91 := by rw [tail_data, List.getElem?_drop, Nat.add_zero, get_some hlt, e1]
        have hF : firstR (s.extract k s.size) s[k] = classR (s.extract k s.size) := by rw [e1]; rfl
        have H0 := hid h0
        have hrz : (s.extract k s.size).size ≤ 1048576 := by rw [tail_size]; omega
        have HF := hid hF
        clear e1 h0 hF
        go_wp2_with fail
        refine (l1Class_any _ hrz (unhid H0) _).mono ?_
        rintro e w' ⟨rfl, rfl⟩
        cases hr : classR (s.extract k s.size) with
        | none =>
          have hN : classN (s.extract k s.size) = 0 := by unfold classN; rw [hr]
          have E := hid (show globbedB s = false by rw [globbed_size hz, unhid hc]; exact tail_none hlt ((unhid HF).trans hr))
          clear hr
          rw [hN]
          go_wp2_with fail
          go_ret
          exact ⟨by rw [unhid E]; rfl, rfl⟩
        | some p =>
          obtain ⟨x, n⟩ := p
          have hN : classN (s.extract k s.size) = n := by unfold classN; rw [hr]
          obtain ⟨g1, g2, g3⟩ := tail_some hlt ((unhid HF).trans hr)
          have hn0 : ((n : Int) == 0) = false := by rw [beq_eq_false_iff_ne]; omega
          have G1 := hid g1
          clear hr g1
          rw [hN]
          go_wp2_with fail
          refine ⟨⟨k + n, by omega, by go_num, hid ((unhid hc).trans (unhid G1))⟩, by simp [intOf]; omega⟩
      · have b1 := eq_no (n := 91) rfl e1
        by_cases e2 : s[k] = 42
        · have b2 : (((s[k]).toNat : Int) == 42) = true := by rw [e2]; rfl
          obtain ⟨g1, g2, g3⟩ := tail_some (x := .star) (n := 1) hlt (by rw [e2]; rfl)
          have G1 := hid g1
          clear e1 e2 g1
          go_wp2_with fail
          refine ⟨⟨k + 1, by omega, by go_num, hid ((unhid hc).trans (unhid G1))⟩, by simp [intOf]; omega⟩
        · have b2 := eq_no (n := 42) rfl e2
          by_cases e3 : s[k] = 63
          · have b3 : (((s[k]).toNat : Int) == 63) = true := by rw [e3]; rfl
            obtain ⟨g1, g2, g3⟩ := tail_some (x := .any) (n := 1) hlt (by rw [e3]; rfl)
            have G1 := hid g1
            clear e1 e2 e3 g1
            go_wp2_with fail
            refine ⟨⟨k + 1, by omega, by go_num, hid ((unhid hc).trans (unhid G1))⟩, by simp [intOf]; omega⟩
          · have b3 := eq_no (n := 63) rfl e3
            cases hn : nameB ((s[k]).toNat : Int)
            · have E := hid (show globbedB s = false by
                rw [globbed_size hz, unhid hc]
                exact tail_none hlt (by unfold firstR; rw [if_neg e2, if_neg e3, if_neg e1, hn]; rfl))
              clear e1 e2 e3
              go_wp2_with fail
              refine (l1Small_any _ _).mono ?_
              rintro e w' ⟨rfl, rfl⟩
              rw [hn]
              go_wp2_with fail
              go_ret
              exact ⟨by rw [unhid E]; rfl, rfl⟩
            · obtain ⟨g1, g2, g3⟩ := tail_some (x := .byte s[k]) (n := 1) hlt (by unfold firstR; rw [if_neg e2, if_neg e3, if_neg e1, if_pos hn])
              have G1 := hid g1
              clear e1 e2 e3 g1
              go_wp2_with fail
              refine (l1Small_any _ _).mono ?_
              rintro e w' ⟨rfl, rfl⟩
              rw [hn]
              go_wp2_with fail
              refine ⟨⟨k + 1, by omega, by go_num, hid ((unhid hc).trans (unhid G1))⟩, by simp [intOf]; omega⟩
    · have hks : k = s.size := by omega
      have hsome : (wants s).isSome = true := by
        rw [unhid hc, wants_nil (by rw [tail_size]; omega)]; rfl
      by_cases hz : 0 < s.size
      · have E := hid (show globbedB s = true by rw [globbed_size hz]; exact hsome)
        have he : s.toList.isEmpty = false := by rw [Lib.toList_data, List.isEmpty_eq_false_iff, ← List.length_pos_iff, ← Lib.size_eq]; exact hz
        clear hks
        go_wp2_with fail
        go_ret
        exact ⟨by rw [unhid E]; rfl, rfl⟩
      · have E := hid (show globbedB s = false from globbed_nil (by omega))
        have he : s.toList.isEmpty = true := by rw [Lib.toList_data, List.isEmpty_iff, ← List.length_eq_zero_iff, ← Lib.size_eq]; omega
        clear hks
        go_wp2_with fail
        go_ret
        exact ⟨by rw [unhid E]; rfl, rfl⟩
end Go.Proofs.YtfphpggjcljliaaGreat

/- What a pattern is, by the model. -/
namespace Go.Proofs.YtfphpggjcljliaaGreat
open Go.RowKit Go.Shelf

def globbedL (l : List UInt8) : Bool := globbedB ⟨l.toArray⟩
theorem globbedL_eq (x : ByteArray) : globbedL x.data.toList = globbedB x := by
  unfold globbedL; exact congrArg globbedB (ba_same (by simp))
def globOkB (l : List UInt8) : Bool := decide ((cutB 47 l).length ≤ 5) && decide (l.length ≤ 40) && (cutB 47 l).all globbedL

set_option maxRecDepth 100000 in
set_option maxHeartbeats 2000000 in
theorem specGlobOk_any (s : ByteArray) (hs : s.size ≤ 1048576) (w : World) :
    Calls Tryz.prog 46 #[.string s] w fun e w' => e = .returned (.bool (globOkB s.data.toList)) ∧ Below w.heap.size w w' := by
  go_enter Tryz.func46, Tryz.ntmps46
  go_wp2_with fail
  refine (l1Cut_any s 47 _ hs (by omega) (by omega) _).mono ?_
  rintro e w1 ⟨v, xs, rfl, hxs, hown, hB⟩
  have hne : xs ≠ [] := by
    intro h; subst h; exact cutB_ne _ _ hxs.symm
  obtain ⟨n, hn⟩ : ∃ n, xs.length = n + 1 := ⟨xs.length - 1, by have := List.length_pos_iff.2 hne; omega⟩
  rw [hn] at hown
  obtain ⟨g, cap, rfl⟩ := ownsRow_succ hown
  have hcell : ∀ (k : Nat) x, xs[k]? = some x → w1.cell? ⟨g, k, none⟩ = some (.string x) := fun k x hx => by
    have hk : k < xs.length := (List.getElem?_eq_some_iff.1 hx).1
    rw [hown.cellAt k (by omega), List.getElem?_map, hx]; rfl
  have hlen : ∀ x ∈ xs, x.size ≤ 1048576 := fun x hx => by
    have h1 : x.data.toList ∈ cutB 47 s.data.toList := by rw [← hxs]; exact List.mem_map.2 ⟨x, hx, rfl⟩
    have h2 := cutB_le 47 _ _ h1
    rw [← Lib.size_eq, ← Lib.size_eq] at h2
    omega
  have Hcell := hid hcell
  have Hlen := hid hlen
  have Hxs := hid hxs
  have Hn := hid hn
  have hns : n ≤ 1048576 := by
    have := cutB_length 47 s.data.toList
    rw [← hxs, ← Lib.size_eq] at this
    simp [datas] at this
    omega
  clear hown hcell hlen hxs hn
  go_wp2_with fail
  go_loop [4] (fun i => ∃ k : Nat, k ≤ n + 1 ∧ i = .int .i64 k ∧ Hid (((datas xs).take k).all globbedL = true)) (fun i => n + 1 - (intOf i).toNat)
  case atStart => exact ⟨0, Nat.zero_le _, rfl, hid (by simp)⟩
  case round =>
    obtain ⟨k, hk, rfl, hall⟩ := hrel
    by_cases hlt : k < n + 1
    · obtain ⟨x, hx⟩ : ∃ x, xs[k]? = some x := ⟨xs[k]'(by rw [unhid Hn]; exact hlt), List.getElem?_eq_getElem _⟩
      have hck := unhid Hcell k x hx
      have hlk := unhid Hlen x (List.mem_of_getElem? hx)
      have Hx := hid hx
      clear hx
      cases hb : globbedL x.data.toList
      · go_wp2_with (go_at_call 73; refine (l1Globbed_any _ hlk _).mono ?_; rintro e w' ⟨rfl, rfl⟩; rw [← globbedL_eq, hb])
        go_ret
        refine ⟨?_, hB⟩
        have hf : globOkB s.data.toList = false := by
          unfold globOkB
          rw [← unhid Hxs, List.all_eq_false.2 ⟨x.data.toList, List.mem_map.2 ⟨x, List.mem_of_getElem? (unhid Hx), rfl⟩, by simp [hb]⟩]; simp
        rw [hf]; rfl
      · go_wp2_with (go_at_call 73; refine (l1Globbed_any _ hlk _).mono ?_; rintro e w' ⟨rfl, rfl⟩; rw [← globbedL_eq, hb])
        refine ⟨⟨k + 1, by omega, by go_num, hid ?_⟩, by simp [intOf]; omega⟩
        rw [List.take_add_one, List.getElem?_map, unhid Hx, List.all_append, unhid hall]
        simp [hb]
    · have hl : (datas xs).length = n + 1 := by rw [← unhid Hn]; simp [datas]
      have hall' : (datas xs).all globbedL = true := by have := unhid hall; rwa [List.take_of_length_le (by omega)] at this
      have hf : globOkB s.data.toList = (decide ((n : Int) + 1 ≤ 5) && decide ((s.size : Int) ≤ 40)) := by
        unfold globOkB
        rw [← unhid Hxs, hall', hl, Bool.and_true, ← Lib.size_eq]
        rw [show decide (n + 1 ≤ 5) = decide ((n : Int) + 1 ≤ 5) from decide_eq_decide.2 (by omega), show decide (s.size ≤ 40) = decide ((s.size : Int) ≤ 40) from decide_eq_decide.2 (by omega)]
      have HF := hid hf
      clear hf hall' hl
      by_cases h5 : (n : Int) + 1 ≤ 5
      · have E := hid (show globOkB s.data.toList = decide ((s.size : Int) ≤ 40) by rw [unhid HF, decide_eq_true h5, Bool.true_and])
        go_wp2
        go_ret
        exact ⟨by rw [unhid E]; rfl, hB⟩
      · have E := hid (show globOkB s.data.toList = false by rw [unhid HF, decide_eq_false h5, Bool.false_and])
        go_wp2
        go_ret
        exact ⟨by rw [unhid E]; rfl, hB⟩
end Go.Proofs.YtfphpggjcljliaaGreat
