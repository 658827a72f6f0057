/- What the beginning of a pattern's name wants, as the program reads it. -/
import Derived.Test.YtiggojpepgbcoaaCutPre
import Derived.Test.YtiggojpepgbcoaaName
import Derived.Laws.EntriesVeiled
namespace Go.Proofs.Ytiggojpepgbcoaa
open Go.RowKit Go.Shelf

/-- One place of a name of a pattern. -/
abbrev W8 := Option (Option (UInt8 ⊕ ByteArray × Bool))
abbrev W8.star : W8 := none
abbrev W8.any : W8 := some none
abbrev W8.byte (c : UInt8) : W8 := some (some (.inl c))
abbrev W8.cls (inner : ByteArray) (others : Bool) : W8 := some (some (.inr (inner, others)))

/-- What a want's value is that the program keeps; what it captured lies in blocks of a kind. -/
def WantIs (W : World) (P : Nat → Prop) : W8 → Bool → Value → Prop
  | none, run, fv => run = true ∧ fv = .nilFunc
  | some none, run, fv => run = false ∧ fv = .func (.func 63) #[] #[]
  | some (some (.inl c)), run, fv => run = false ∧ ∃ b, fv = .func (.func 65) #[] #[.pointer (some ⟨b, 0, none⟩)] ∧ P b ∧ b < W.heap.size ∧ W.cell? ⟨b, 0, none⟩ = some (.int .u8 c.toNat)
  | some (some (.inr (inner, others))), run, fv => run = false ∧ ∃ b d, fv = .func (.func 67) #[] #[.pointer (some ⟨b, 0, none⟩), .pointer (some ⟨d, 0, none⟩)] ∧ (P b ∧ b < W.heap.size ∧ W.cell? ⟨b, 0, none⟩ = some (.string inner)) ∧ P d ∧ d < W.heap.size ∧ W.cell? ⟨d, 0, none⟩ = some (.bool others)
def WantR (W : World) (P : Nat → Prop) (r : Option (W8 × Nat)) (run : Bool) (fv : Value) (sz : Int) (ok : Bool) : Prop :=
  match r with
  | none => run = false ∧ fv = .nilFunc ∧ sz = 0 ∧ ok = false
  | some (x, n) => ok = true ∧ sz = n ∧ WantIs W P x run fv
theorem WantIs.kept {W W' : World} {P P' : Nat → Prop} {x : W8} {run : Bool} {fv : Value} (h : WantIs W P x run fv) (hs : W.heap.size ≤ W'.heap.size) (hk : ∀ b, P b → b < W.heap.size → W'.heap[b]? = W.heap[b]?) (hP : ∀ b, P b → b < W.heap.size → P' b) : WantIs W' P' x run fv := by
  rcases x with _ | _ | c | ⟨inner, others⟩
  · exact h
  · exact h
  · obtain ⟨h0, b, h1, h2, h3, h4⟩ := h
    exact ⟨h0, b, h1, hP b h2 h3, Nat.lt_of_lt_of_le h3 hs, (World.cell?_of_block (w := W) (hk b h2 h3)).trans h4⟩
  · obtain ⟨h0, b, d, h1, ⟨h2, h3, h4⟩, h5, h6, h7⟩ := h
    exact ⟨h0, b, d, h1, ⟨hP b h2 h3, Nat.lt_of_lt_of_le h3 hs, (World.cell?_of_block (w := W) (hk b h2 h3)).trans h4⟩, hP d h5 h6, Nat.lt_of_lt_of_le h6 hs, (World.cell?_of_block (w := W) (hk d h5 h6)).trans h7⟩
theorem WantR.kept {W W' : World} {P P' : Nat → Prop} {r : Option (W8 × Nat)} {run : Bool} {fv : Value} {sz : Int} {ok : Bool} (h : WantR W P r run fv sz ok) (hs : W.heap.size ≤ W'.heap.size) (hk : ∀ b, P b → b < W.heap.size → W'.heap[b]? = W.heap[b]?) (hP : ∀ b, P b → b < W.heap.size → P' b) : WantR W' P' r run fv sz ok := by
  cases r with
  | none => exact h
  | some p => obtain ⟨x, n⟩ := p; exact ⟨h.1, h.2.1, h.2.2.kept hs hk hP⟩
theorem WantIs.form {W : World} {P : Nat → Prop} {x : W8} {run : Bool} {fv : Value} (h : WantIs W P x run fv) : fv = .nilFunc ∨ ∃ f ca, fv = .func (.func f) #[] ca := by
  rcases x with _ | _ | c | ⟨inner, others⟩
  · exact .inl h.2
  · exact .inr ⟨_, _, h.2⟩
  · obtain ⟨_, b, g1, _⟩ := h; exact .inr ⟨_, _, g1⟩
  · obtain ⟨_, b, d, g1, _⟩ := h; exact .inr ⟨_, _, g1⟩
theorem WantR.oneCell {W : World} {P : Nat → Prop} {r : Option (W8 × Nat)} {run : Bool} {fv : Value} {sz : Int} {ok : Bool} (h : WantR W P r run fv sz ok) : fv.oneCell' = true := by
  have : fv = .nilFunc ∨ ∃ f ca, fv = .func (.func f) #[] ca := by
    cases r with
    | none => exact .inl h.2.1
    | some p => obtain ⟨x, n⟩ := p; exact h.2.2.form
  rcases this with rfl | ⟨f, ca, rfl⟩ <;> rfl
theorem cell_two_l (W : World) (u v : Value) (t : TypeId) : (W.alloc (.cells #[u, v] t)).cell? ⟨W.heap.size, 0, none⟩ = some u ∧ (W.alloc (.cells #[u, v] t)).cell? ⟨W.heap.size, 1, none⟩ = some v ∧ (W.alloc (.cells #[u, v] t)).frozen? ⟨W.heap.size, 0, none⟩ = false ∧ (W.alloc (.cells #[u, v] t)).frozen? ⟨W.heap.size, 1, none⟩ = false := by
  refine ⟨?_, ?_, ?_, ?_⟩ <;> simp [go_sem]
/-- What a class is read as. -/
def bang : ByteArray := ⟨#[33]⟩
def clsA (s : ByteArray) (i : Nat) : ByteArray := cutA (s.extract 1 i) bang
def classR (s : ByteArray) : Option (W8 × Nat) :=
  if Lib.indexByte s.data.toList 93 < 0 then none
  else if (clsA s (Lib.indexByte s.data.toList 93).toNat).toList.isEmpty || !((clsA s (Lib.indexByte s.data.toList 93).toNat).data.toList.all fun c => nameB c.toNat) then none
  else some (.cls (clsA s (Lib.indexByte s.data.toList 93).toNat) (hasA (s.extract 1 (Lib.indexByte s.data.toList 93).toNat) bang), (Lib.indexByte s.data.toList 93).toNat + 1)

set_option maxRecDepth 100000 in
set_option maxHeartbeats 2000000 in
theorem classWant_any (s : ByteArray) (hs : s.size ≤ maxLen) (h0 : s.data.toList[0]? = some 91) (w : World) :
    Calls Try.prog 64 #[.string s] w fun e W' => ∃ run fv sz ok, e = .returned (.tuple #[.agg #[.bool run, fv], .int .i64 sz, .bool ok]) ∧ WantR W' (fun b => w.heap.size ≤ b) (classR s) run fv sz ok ∧ Below w.heap.size w W' := by
  have hs' : s.size ≤ 9223372036854775807 := hs
  have hc0 := cell_two_l w (.bool false) .nilFunc 71
  obtain ⟨c0, c1, f0, f1⟩ := hc0
  have HB0 := hid (show Below w.heap.size w (w.alloc (.cells #[.bool false, .nilFunc] 71)) from (Below.refl _ w).alloc (Nat.le_refl _) _)
  by_cases hi : Lib.indexByte s.data.toList 93 < 0
  · have E := hid (show classR s = none by simp [classR, hi])
    go_enter Try.func64, Try.ntmps64
    go_wp2_with fail
    refine (IndexByte_any s 93 _).mono ?_
    rintro e w1 ⟨rfl, rfl⟩
    have hi' : Lib.indexByte s.data.toList (Int.toNat 93).toUInt8 < 0 := hi
    go_wp2_with fail
    refine bodyPost_ret (v := .tuple #[.agg #[.bool false, .nilFunc], .int .i64 0, .bool false]) (by simp [results, Try.results64, go_sem]) rfl ⟨false, .nilFunc, 0, false, rfl, by rw [unhid E]; exact ⟨rfl, rfl, rfl, rfl⟩, ?_⟩
    exact unhid HB0
  · obtain ⟨i, ei⟩ : ∃ i : Nat, Lib.indexByte s.data.toList 93 = i := ⟨(Lib.indexByte s.data.toList 93).toNat, by omega⟩
    have hil : i < s.size := by rw [Lib.size_eq]; exact (cutB_some 93 _ i ei).1
    have hi1 : 1 ≤ i := by
      rcases Nat.eq_zero_or_pos i with rfl | h
      · exfalso
        cases hl : s.data.toList with
        | nil => rw [hl] at h0; cases h0
        | cons c t =>
          rw [hl] at h0 ei
          simp at h0
          subst h0
          have := Lib.indexByte_ge t 93
          simp [Lib.indexByte] at ei
          split at ei <;> omega
      · exact h
    have mz : (s.extract 1 i).size ≤ maxLen := by rw [ByteArray.size_extract]; unfold maxLen; omega
    have cz : (clsA s i).size ≤ maxLen := by
      unfold clsA cutA; split
      · rw [ByteArray.size_extract]; unfold maxLen at mz ⊢; omega
      · exact mz
    have EC : classR s = if (clsA s i).toList.isEmpty || !((clsA s i).data.toList.all fun c => nameB c.toNat) then none else some (.cls (clsA s i) (hasA (s.extract 1 i) bang), i + 1) := by
      unfold classR; rw [if_neg hi, ei]; rfl
    have HC := hid EC
    have Ei := hid (show Lib.indexByte s.data.toList (Int.toNat 93).toUInt8 = i from ei)
    clear EC ei hi
    go_enter Try.func64, Try.ntmps64
    go_wp2_with fail
    refine (IndexByte_any s 93 _).mono ?_
    rintro e w1 ⟨rfl, rfl⟩
    rw [unhid Ei]
    go_wp2_with fail
    refine (CutPrefix_any (s.extract 1 i) bang mz _).mono ?_
    rintro e w1 ⟨rfl, rfl⟩
    rw [show cutA (s.extract 1 i) bang = clsA s i from rfl]
    generalize hasA (s.extract 1 i) bang = oth at HC ⊢
    generalize clsA s i = inner at HC cz ⊢
    have hW : ∃ W, W = ((w.alloc (.cells #[.bool false, .nilFunc] 71)).alloc (.cells #[.string inner] 9)).alloc (.cells #[.bool oth] 4) := ⟨_, rfl⟩
    obtain ⟨W, hW⟩ := hW
    have hz : W.heap.size = w.heap.size + 3 := by rw [hW]; simp
    have HBW := hid (show Below w.heap.size w W by rw [hW]; exact (((Below.refl _ w).alloc (Nat.le_refl _) _).alloc (by simp) _).alloc (by simp; omega) _)
    have hA : Below (w.heap.size + 1) (w.alloc (.cells #[.bool false, .nilFunc] 71)) W := by rw [hW]; exact ((Below.refl _ _).alloc (by simp) _).alloc (by simp) _
    have a0 := hid ((hA.cell (p := ⟨w.heap.size, 0, none⟩) (Nat.lt_succ_self _)).trans c0)
    have a1 := hid ((hA.cell (p := ⟨w.heap.size, 1, none⟩) (Nat.lt_succ_self _)).trans c1)
    have g0 := hid ((hA.frozen (p := ⟨w.heap.size, 0, none⟩) (Nat.lt_succ_self _)).trans f0)
    have g1 := hid ((hA.frozen (p := ⟨w.heap.size, 1, none⟩) (Nat.lt_succ_self _)).trans f1)
    have b0 := hid (show W.cell? ⟨w.heap.size + 1, 0, none⟩ = some (.string inner) by rw [hW]; simp [go_sem])
    have d0 := hid (show W.cell? ⟨w.heap.size + 1 + 1, 0, none⟩ = some (.bool oth) by rw [hW]; simp [go_sem])
    clear hA c0 c1 f0 f1
    cases he : inner.toList.isEmpty
    · go_wp2_with fail
      rw [← hW]
      clear hW
      refine (allBytes_any 45 nameB eg45 isNameByte_any inner cz _).mono ?_
      rintro e w2 ⟨rfl, hb⟩
      have HB2 := hid ((unhid HBW).trans (hb.mono (unhid HBW).size))
      have c0 := (hb.cell (p := ⟨w.heap.size, 0, none⟩) (by rw [hz]; simp)).trans (unhid a0)
      have c1 := (hb.cell (p := ⟨w.heap.size, 1, none⟩) (by rw [hz]; simp)).trans (unhid a1)
      have f0 := (hb.frozen (p := ⟨w.heap.size, 0, none⟩) (by rw [hz]; simp)).trans (unhid g0)
      have f1 := (hb.frozen (p := ⟨w.heap.size, 1, none⟩) (by rw [hz]; simp)).trans (unhid g1)
      have b1 := hid ((hb.cell (p := ⟨w.heap.size + 1, 0, none⟩) (by rw [hz]; simp)).trans (unhid b0))
      have d1 := hid ((hb.cell (p := ⟨w.heap.size + 1 + 1, 0, none⟩) (by rw [hz]; simp)).trans (unhid d0))
      have hz2 : w.heap.size + 3 ≤ w2.heap.size := by have := hb.size; omega
      clear hb
      cases ha : (inner.data.toList.all fun c => nameB c.toNat)
      · have E := hid (show classR s = none by rw [unhid HC, he, ha]; rfl)
        go_wp2_with fail
        refine bodyPost_ret (v := .tuple #[.agg #[.bool false, .nilFunc], .int .i64 0, .bool false]) (by simp [results, Try.results64, go_sem, World.cell?_setCell_same', c0, c1]) rfl ⟨false, .nilFunc, 0, false, rfl, by rw [unhid E]; exact ⟨rfl, rfl, rfl, rfl⟩, ?_⟩
        exact ((unhid HB2).setCell (Nat.le_refl _) _).setCell (Nat.le_refl _) _
      · have E := hid (show classR s = some (.cls inner oth, i + 1) by rw [unhid HC, he, ha]; rfl)
        go_wp2_with fail
        refine bodyPost_ret (v := .tuple #[.agg #[.bool false, .func (.func 67) #[] #[.pointer (some ⟨w.heap.size + 1, 0, none⟩), .pointer (some ⟨w.heap.size + 1 + 1, 0, none⟩)]], .int .i64 ((i : Int) + 1), .bool true]) (by simp [results, Try.results64, go_sem, World.cell?_setCell_same', c0, c1]) rfl ⟨false, _, (i : Int) + 1, true, rfl, ?_, ?_⟩
        · rw [unhid E]
          refine ⟨rfl, by simp, rfl, _, _, rfl, ⟨by omega, by simp; omega, ?_⟩, by omega, by simp; omega, ?_⟩
          · rw [World.cell?_setCell_other (h := by simp), World.cell?_setCell_other (h := by simp)]; exact unhid b1
          · rw [World.cell?_setCell_other (h := by simp), World.cell?_setCell_other (h := by simp)]; exact unhid d1
        · exact ((unhid HB2).setCell (Nat.le_refl _) _).setCell (Nat.le_refl _) _
    · have E := hid (show classR s = none by rw [unhid HC, he]; rfl)
      go_wp2_with fail
      refine bodyPost_ret (v := .tuple #[.agg #[.bool false, .nilFunc], .int .i64 0, .bool false]) (by simp [results, Try.results64, go_sem]) rfl ⟨false, .nilFunc, 0, false, rfl, by rw [unhid E]; exact ⟨rfl, rfl, rfl, rfl⟩, ?_⟩
      rw [← hW]; exact unhid HBW

/-- What the beginning of a text that is not empty is read as. -/
def firstR (s : ByteArray) (c : UInt8) : Option (W8 × Nat) :=
  if c = 42 then some (.star, 1) else if c = 63 then some (.any, 1) else if c = 91 then classR s else if nameB c.toNat then some (.byte c, 1) else none
theorem eq_no {c b : UInt8} {n : Int} (hn : (b.toNat : Int) = n) (h : c ≠ b) : (((c.toNat : Nat) : Int) == n) = false := by
  rw [beq_eq_false_iff_ne]
  intro e
  exact h (UInt8.toNat_inj.1 (by omega))

set_option maxRecDepth 100000 in
set_option maxHeartbeats 2000000 in
theorem firstWant_any (s : ByteArray) (hs : s.size ≤ maxLen) (h0 : 0 < s.size) (w : World) :
    Calls Try.prog 58 #[.string s] w fun e W' => ∃ run fv sz ok, e = .returned (.tuple #[.agg #[.bool run, fv], .int .i64 sz, .bool ok]) ∧ WantR W' (fun b => w.heap.size ≤ b) (firstR s s[0]) run fv sz ok ∧ Below w.heap.size w W' := by
  have hs' : s.size ≤ 9223372036854775807 := hs
  have HBW := hid (show Below w.heap.size w ((w.alloc (.cells #[.bool false, .nilFunc] 71)).alloc (.cells #[.int .u8 (s[0]).toNat] 5)) from ((Below.refl _ w).alloc (Nat.le_refl _) _).alloc (by simp) _)
  have h91 : s[0] = 91 → s.data.toList[0]? = some 91 := fun h => by rw [getByte s 0 h0, h]
  have H91 := hid h91
  clear h91
  have two : ∀ (x y : Obj), Below w.heap.size w ((w.alloc x).alloc y) := fun x y => ((Below.refl _ w).alloc (Nat.le_refl _) _).alloc (by simp) _
  have H2 := hid two
  clear two
  by_cases e1 : s[0] = 42
  · have E := hid (show firstR s s[0] = some (.star, 1) by rw [e1]; rfl)
    have b1 : (((s[0]).toNat : Int) == 42) = true := by rw [e1]; rfl
    clear e1
    go_enter Try.func58, Try.ntmps58
    go_wp2_with fail
    refine bodyPost_ret (v := .tuple #[.agg #[.bool true, .nilFunc], .int .i64 1, .bool true]) (by simp [results, Try.results58, go_sem]) rfl ⟨true, .nilFunc, 1, true, rfl, by rw [unhid E]; exact ⟨rfl, rfl, rfl, rfl⟩, unhid H2 _ _⟩
  have b1 := eq_no (n := 42) rfl e1
  by_cases e2 : s[0] = 63
  · have E := hid (show firstR s s[0] = some (.any, 1) by rw [e2]; rfl)
    have b2 : (((s[0]).toNat : Int) == 63) = true := by rw [e2]; rfl
    clear e1 e2
    go_enter Try.func58, Try.ntmps58
    go_wp2_with fail
    refine bodyPost_ret (v := .tuple #[.agg #[.bool false, .func (.func 63) #[] #[]], .int .i64 1, .bool true]) (by simp [results, Try.results58, go_sem]) rfl ⟨false, _, 1, true, rfl, by rw [unhid E]; exact ⟨rfl, rfl, rfl, rfl⟩, unhid H2 _ _⟩
  have b2 := eq_no (n := 63) rfl e2
  by_cases e3 : s[0] = 91
  · have E := hid (show firstR s s[0] = classR s by unfold firstR; rw [if_neg e1, if_neg e2, if_pos e3])
    have b3 : (((s[0]).toNat : Int) == 91) = true := by rw [e3]; rfl
    have h9 := unhid H91 e3
    have H9 := hid h9
    clear e1 e2 e3 h9
    have c := cell_two_l w (.bool false) .nilFunc 71
    have CL := hid c
    clear c
    go_enter Try.func58, Try.ntmps58
    go_wp2_with fail
    refine (classWant_any s hs (unhid H9) _).mono ?_
    rintro e w2 ⟨run, fv, sz, ok, rfl, hR, hb⟩
    have hb' : Below (w.heap.size + 1) (w.alloc (.cells #[.bool false, .nilFunc] 71)) w2 := ((Below.refl _ _).alloc (by simp) _).trans (hb.mono (by simp))
    obtain ⟨k0, k1, k2, k3⟩ := unhid CL
    have c0 := (hb'.cell (p := ⟨w.heap.size, 0, none⟩) (Nat.lt_succ_self _)).trans k0
    have c1 := (hb'.cell (p := ⟨w.heap.size, 1, none⟩) (Nat.lt_succ_self _)).trans k1
    have f0 := (hb'.frozen (p := ⟨w.heap.size, 0, none⟩) (Nat.lt_succ_self _)).trans k2
    have f1 := (hb'.frozen (p := ⟨w.heap.size, 1, none⟩) (Nat.lt_succ_self _)).trans k3
    have HB2 := hid ((unhid HBW).trans (hb.mono (unhid HBW).size))
    have HR := hid (hR.kept (P' := fun b => w.heap.size + 2 ≤ b) (Nat.le_refl _) (fun _ _ _ => rfl) (fun b hb _ => by simpa using hb))
    clear hR hb hb' k0 k1 k2 k3
    have hst : ∀ m, (store ⟨w.heap.size, 1, none⟩ fv m).run Try.prog (w2.setCell ⟨w.heap.size, 0, none⟩ (.bool run)) = stored Try.prog (w2.setCell ⟨w.heap.size, 0, none⟩ (.bool run)) ⟨w.heap.size, 1, none⟩ fv m := fun m => run_store _ _ _ _ _ ((unhid HR).oneCell)
    go_wp2_with fail
    refine bodyPost_ret (v := .tuple #[.agg #[.bool run, fv], .int .i64 sz, .bool ok]) (by simp [results, Try.results58, go_sem, World.cell?_setCell_same', c0, c1]) rfl ⟨run, fv, sz, ok, rfl, ?_, ((unhid HB2).setCell (Nat.le_refl _) _).setCell (Nat.le_refl _) _⟩
    rw [unhid E]
    exact (unhid HR).kept (by simp) (fun b hb _ => by
      rw [Below.heap_setCell _ _ _ b (by simp; omega), Below.heap_setCell _ _ _ b (by simp; omega)]) (fun b hb _ => by omega)
  have b3 := eq_no (n := 91) rfl e3
  cases hn : nameB ((s[0]).toNat : Int)
  · have E := hid (show firstR s s[0] = none by unfold firstR; rw [if_neg e1, if_neg e2, if_neg e3, hn]; rfl)
    clear e1 e2 e3
    go_enter Try.func58, Try.ntmps58
    go_wp2_with fail
    refine (isNameByte_any _ _).mono ?_
    rintro e w' ⟨rfl, rfl⟩
    rw [hn]
    go_wp2_with fail
    refine bodyPost_ret (v := .tuple #[.agg #[.bool false, .nilFunc], .int .i64 0, .bool false]) (by simp [results, Try.results58, go_sem]) rfl ⟨false, .nilFunc, 0, false, rfl, by rw [unhid E]; exact ⟨rfl, rfl, rfl, rfl⟩, unhid H2 _ _⟩
  · have E := hid (show firstR s s[0] = some (.byte s[0], 1) by unfold firstR; rw [if_neg e1, if_neg e2, if_neg e3, if_pos hn])
    clear e1 e2 e3
    go_enter Try.func58, Try.ntmps58
    go_wp2_with fail
    refine (isNameByte_any _ _).mono ?_
    rintro e w' ⟨rfl, rfl⟩
    rw [hn]
    go_wp2_with fail
    refine bodyPost_ret (v := .tuple #[.agg #[.bool false, .func (.func 65) #[] #[.pointer (some ⟨w.heap.size + 1, 0, none⟩)]], .int .i64 1, .bool true]) (by simp [results, Try.results58, go_sem]) rfl ⟨false, _, 1, true, rfl, ?_, unhid H2 _ _⟩
    rw [unhid E]
    refine ⟨rfl, rfl, rfl, _, rfl, by omega, by simp, ?_⟩
    simp
end Go.Proofs.Ytiggojpepgbcoaa
