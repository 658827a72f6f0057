/- Whether sources are ok. -/
import Derived.Test.YtlnpjiabdebmgaaAnyTwice
import Derived.Test.YtlnpjiabdebmgaaSFile
import Derived.Test.YtlnpjiabdebmgaaTextOk
namespace Go.Proofs.Ytlnpjiabdebmgaa
open Go.RowKit Go.Shelf

def namesF (fs : List fileC.D) : List ByteArray := List.map (α := fileC.D) (fun f => FileD.name f) fs
theorem namesF_len (fs : List fileC.D) : (namesF fs).length = fs.length := by unfold namesF; exact List.length_map _
theorem namesF_get {fs : List fileC.D} {k : Nat} {f : fileC.D} (h : fs[k]? = some f) : (namesF fs)[k]? = some (FileD.name f) := by unfold namesF; rw [List.getElem?_map, h]; rfl
def fileB (f : fileC.D) : Bool := nameOkB (FileD.name f).data.toList && textB (FileD.text f).data.toList
def filesB (fs : List fileC.D) : Bool := (List.all (α := fileC.D) fs fileB && decide (fs.length ≤ 6)) && !twiceB (namesF fs)
def smallF (fs : List fileC.D) : Prop := fs.length ≤ 1048576 ∧ ∀ f ∈ fs, (FileD.name f).size ≤ 1048576 ∧ (FileD.text f).size ≤ 1048576
theorem smallF_of {fs : List fileC.D} (h : fs.length + szR fileC fs ≤ 1048576) : smallF fs := by
  refine ⟨by omega, fun f hf => ?_⟩
  have h1 := szR_mem hf
  have h2 : fileC.sz f = (FileD.name f).size + (FileD.text f).size := rfl
  omega
theorem le_maxF {n : Nat} (h : n ≤ 1048576) : n ≤ maxLen := Nat.le_trans h (by simp [maxLen])
theorem file_cells {W w : World} {b o : Nat} {fs : List fileC.D} {k : Nat} {e : fileC.D} (hB : Below w.heap.size w W) (hbl : b < w.heap.size) (hc : ∀ (i : Nat) d, fs[i]? = some d → ∃ cs, fileC.at_ w cs d ∧ ∀ j c, cs[j]? = some c → w.cell? ⟨b, o + i * fileC.n + j, none⟩ = some c) (he : fs[k]? = some e) :
    W.cell? ⟨b, o + k * 2, none⟩ = some (.string (FileD.name e)) ∧ W.cell? ⟨b, o + k * 2 + 1, none⟩ = some (.string (FileD.text e)) := by
  obtain ⟨cs, hat, hcell⟩ := hc k e he
  obtain rfl := fileC_at hat
  exact ⟨(hB.cell (p := ⟨b, o + k * 2 + 0, none⟩) hbl).trans (hcell 0 _ rfl), (hB.cell (p := ⟨b, o + k * 2 + 1, none⟩) hbl).trans (hcell 1 _ rfl)⟩
theorem all_nextF {α : Type} {p : α → Bool} {xs : List α} {k : Nat} {x : α} (hx : xs[k]? = some x) (h : (xs.take k).all p = true) (h2 : p x = true) : (xs.take (k + 1)).all p = true := by
  rw [List.take_add_one, hx, List.all_append, h]; simp [h2]
theorem all_noF {α : Type} {p : α → Bool} {xs : List α} {k : Nat} {x : α} (hx : xs[k]? = some x) (h2 : p x = false) : xs.all p = false := by
  rw [List.all_eq_false]
  exact ⟨x, List.mem_of_getElem? hx, by simp [h2]⟩
theorem take_nextF {α : Type} {xs : List α} {k : Nat} {x : α} (h : xs[k]? = some x) : xs.take (k + 1) = xs.take k ++ [x] := by rw [List.take_add_one, h]; rfl
theorem ownsRow_takeF {W : World} {N : Nat} {v : Value} {xs : List ByteArray} {k : Nat} {x : ByteArray} (hx : xs[k]? = some x) (h : W.ownsRow N 9 1 v (xs.take k ++ [x]).length ((xs.take k ++ [x]).map Value.string)) : W.ownsRow N 9 1 v (xs.take (k + 1)).length ((xs.take (k + 1)).map Value.string) := by
  rw [take_nextF hx]; exact h
theorem grown_belowF {w W W' : World} {row : Option Nat} (hb : Below w.heap.size w W) (h : W.grownBy W' row) (hr : ∀ j, row = some j → w.heap.size ≤ j) : Below w.heap.size w W' :=
  ⟨h.os.trans hb.os, h.tape.trans hb.tape, h.output.trans hb.output, Nat.le_trans hb.size h.size, fun k hk => (h.block k (Nat.lt_of_lt_of_le hk hb.size) (fun e => by have := hr k e.symm; omega)).trans (hb.block k hk)⟩
theorem cell_newF (w : World) (x : Value) (t : Nat) : (w.alloc (.cells #[x] t)).cell? ⟨w.heap.size, 0, none⟩ = some x := cell_arrS (World.alloc_heap_new w _) 0 x rfl

set_option maxRecDepth 100000 in
set_option maxHeartbeats 4000000 in
theorem l6File_any (fs : List fileC.D) (v : Value) (q : ByteArray) (w : World) (hs : fs.length ≤ 1048576) (h : rowAt fileC w v fs) :
    Calls Try.prog 12 #[v, .string q] w fun x w' => (∃ r : Int, x = .returned (.int .i64 r) ∧ ((r = -1 ∧ q ∉ namesF fs) ∨ ∃ k : Nat, r = (k : Int) ∧ (namesF fs)[k]? = some q ∧ ∀ j, j < k → (namesF fs)[j]? ≠ some q)) ∧ Below w.heap.size w w' := by
  obtain ⟨a, cap, rfl, -, -, h⟩ := h
  have H := hid h
  clear h
  go_enter Try.func12, Try.ntmps12
  go_wp2_with fail
  go_loopw [5] (fun i wr => ∃ k : Nat, k ≤ fs.length ∧ i = .int .i64 (k : Int) ∧ Hid (∀ j, j < k → (namesF fs)[j]? ≠ some q) ∧ Hid (Below w.heap.size w wr)) (fun i _ => fs.length - (intOf i).toNat)
  case atStart => exact ⟨0, Nat.zero_le _, rfl, hid (fun j hj => absurd hj (Nat.not_lt_zero _)), hid (Below.refl _ _)⟩
  case round =>
    obtain ⟨k, hk, rfl, HX, HB⟩ := hrel
    by_cases hlt : k < fs.length
    · obtain ⟨e, he⟩ : ∃ e, fs[k]? = some e := ⟨fs[k], List.getElem?_eq_getElem hlt⟩
      obtain ⟨b, o, rfl, hbl, hc⟩ := (unhid H).resolve_left (by intro e; subst e; simp at hlt)
      obtain ⟨c0, c1⟩ := file_cells (unhid HB) hbl hc he
      have HE := hid (namesF_get he)
      have hq := txt_iff (FileD.name e) q
      clear hc he hbl c1
      by_cases hxy : FileD.name e = q
      · rw [decide_eq_true hxy] at hq
        have HXY := hid hxy
        clear hxy
        go_wp2_with fail
        go_ret
        exact ⟨⟨_, rfl, .inr ⟨k, rfl, by rw [unhid HE, unhid HXY], unhid HX⟩⟩, unhid HB⟩
      · rw [decide_eq_false hxy] at hq
        have HXY := hid hxy
        clear hxy
        go_wp2_with fail
        go_roundw
        case rel =>
          refine ⟨k + 1, by omega, by go_num, hid (fun j hj => ?_), HB⟩
          by_cases ej : j = k
          · subst ej
            rw [unhid HE]
            exact fun e => unhid HXY (Option.some.inj e)
          · exact unhid HX j (by omega)
        case measure => simp [intOf]; omega
    · have e : k = fs.length := by omega
      subst e
      go_wp2_with fail
      go_ret
      refine ⟨⟨_, rfl, .inl ⟨rfl, fun hm => ?_⟩⟩, unhid HB⟩
      obtain ⟨j, hj⟩ := List.getElem?_of_mem hm
      exact unhid HX j (by have := (List.getElem?_eq_some_iff.1 hj).1; rwa [namesF_len] at this) hj

set_option maxRecDepth 100000 in
set_option maxHeartbeats 4000000 in
theorem specFilesOk_any (fs : List fileC.D) (v : Value) (w : World) (hs : smallF fs) (h : rowAt fileC w v fs) :
    Calls Try.prog 5 #[v] w fun x w' => x = .returned (.bool (filesB fs)) ∧ Below w.heap.size w w' := by
  have HR := hid h
  obtain ⟨a, cap, rfl, -, -, h⟩ := h
  obtain ⟨hlen, hz⟩ := hs
  have HZ := hid hz
  have H := hid h
  clear h hz
  go_enter Try.func5, Try.ntmps5
  go_wp2_with fail
  go_loopw [3] (fun i wr => ∃ k : Nat, k ≤ fs.length ∧ i = .int .i64 (k : Int) ∧ Hid ((fs.take k).all fileB = true) ∧ Hid (((namesF fs).take k).Nodup) ∧ Hid (Below w.heap.size w wr)) (fun i _ => fs.length - (intOf i).toNat)
  case atStart => exact ⟨0, Nat.zero_le _, rfl, hid (by simp), hid (by simp), hid (Below.refl _ _)⟩
  case round =>
    obtain ⟨k, hk, rfl, HA, HN, HB⟩ := hrel
    by_cases hlt : k < fs.length
    · obtain ⟨e, he⟩ : ∃ e, fs[k]? = some e := ⟨fs[k], List.getElem?_eq_getElem hlt⟩
      obtain ⟨b, o, rfl, hbl, hc⟩ := (unhid H).resolve_left (by intro e; subst e; simp at hlt)
      obtain ⟨c0, c1⟩ := file_cells (unhid HB) hbl hc he
      have HS := hid (unhid HZ e (List.mem_of_getElem? he))
      have HE := hid he
      have HX := hid (namesF_get he)
      clear hc he hbl
      go_wp2_with fail
      refine (l1Name_any (FileD.name e) (le_maxF (unhid HS).1) wr).mono ?_
      rintro x w1 ⟨rfl, hw⟩
      subst hw
      cases q1 : nameOkB (FileD.name e).data.toList with
      | false =>
        have E := hid (show filesB fs = false by unfold filesB; rw [all_noF (unhid HE) (show fileB e = false by unfold fileB; rw [q1]; rfl)]; rfl)
        go_wp2_with fail
        go_ret
        exact ⟨by rw [unhid E]; rfl, unhid HB⟩
      | true =>
      go_wp2_with fail
      refine (l2Text_any (FileD.text e) (le_maxF (unhid HS).2) w1).mono ?_
      rintro x w2 ⟨rfl, hw⟩
      subst hw
      cases q2 : textB (FileD.text e).data.toList with
      | false =>
        have E := hid (show filesB fs = false by unfold filesB; rw [all_noF (unhid HE) (show fileB e = false by unfold fileB; rw [q1, q2]; rfl)]; rfl)
        go_wp2_with fail
        go_ret
        exact ⟨by rw [unhid E]; rfl, unhid HB⟩
      | true =>
      have HFE := hid (show fileB e = true by unfold fileB; rw [q1, q2]; rfl)
      go_wp2_with fail
      refine (l6File_any fs _ (FileD.name e) w2 hlen ((unhid HR).below (unhid HB))).mono ?_
      rintro x w3 ⟨⟨r, rfl, hr⟩, hb⟩
      have HB2 := hid ((unhid HB).trans (hb.mono (unhid HB).size))
      clear hb c0 c1 q1 q2
      rcases hr with ⟨rfl, hno⟩ | ⟨i, rfl, hi, hmin⟩
      · exact absurd (List.mem_of_getElem? (unhid HX)) hno
      · have hik : i ≤ k := by
          rcases Nat.lt_or_ge k i with h | h
          · exact absurd (unhid HX) (hmin k h)
          · exact h
        by_cases hie : i = k
        · subst hie
          have HM := hid hmin
          clear hmin hi
          have hself : ((i : Int) != (i : Int)) = false := by simp
          go_wp2_with fail
          go_roundw
          case rel =>
            refine ⟨i + 1, by omega, by go_num, hid (all_nextF (unhid HE) (unhid HA) (unhid HFE)), hid ?_, HB2⟩
            rw [take_nextF (unhid HX)]
            refine nodup_snoc (unhid HN) (fun hm => ?_)
            obtain ⟨j, hj⟩ := List.getElem?_of_mem hm
            have hjl : j < i := by have := (List.getElem?_eq_some_iff.1 hj).1; rw [List.length_take] at this; omega
            rw [List.getElem?_take_of_lt hjl] at hj
            exact unhid HM j hjl hj
          case measure => simp [intOf]; omega
        · have E := hid (show filesB fs = false by
            unfold filesB
            rw [twiceB_true hi (unhid HX) (by omega)]
            simp)
          have hne : ((i : Int) != (k : Int)) = true := by simp; omega
          clear hmin hi
          go_wp2_with fail
          go_ret
          exact ⟨by rw [unhid E]; rfl, unhid HB2⟩
    · have e : k = fs.length := by omega
      subst e
      have E := hid (show filesB fs = decide (fs.length ≤ 6) by
        have h1 := unhid HA
        rw [List.take_of_length_le (Nat.le_refl _)] at h1
        have h2 := unhid HN
        rw [List.take_of_length_le (by rw [namesF_len]; exact Nat.le_refl _)] at h2
        unfold filesB twiceB
        rw [decide_eq_true h2, h1]
        simp)
      by_cases h6 : fs.length ≤ 6
      · have h6' : (fs.length : Int) ≤ 6 := by omega
        go_wp2_with fail
        go_ret
        exact ⟨by rw [unhid E, decide_eq_true h6]; simp, unhid HB⟩
      · have h6' : ¬ (fs.length : Int) ≤ 6 := by omega
        go_wp2_with fail
        go_ret
        exact ⟨by rw [unhid E, decide_eq_false h6]; simp, unhid HB⟩

set_option maxRecDepth 100000 in
set_option maxHeartbeats 1000000 in
theorem fileOk_any (e : fileC.D) (w : World) (hs : (FileD.name e).size ≤ 1048576 ∧ (FileD.text e).size ≤ 1048576) :
    Calls Try.prog 15 #[.agg #[.string (FileD.name e), .string (FileD.text e)]] w fun x w' => x = .returned (.bool (fileB e)) ∧ Below w.heap.size w w' := by
  have HS := hid hs
  have HB := hid (show ∀ x, Below w.heap.size w (w.alloc x) from fun x => (Below.refl _ w).alloc (Nat.le_refl _) x)
  have E := hid (show fileB e = (nameOkB (FileD.name e).data.toList && textB (FileD.text e).data.toList) from rfl)
  clear hs
  go_enter Try.func15, Try.ntmps15
  go_wp2_with fail
  have hbx := World.alloc_heap_new w (.cells #[.string (FileD.name e), .string (FileD.text e)] 33)
  have hb0 := unhid HB (.cells #[.string (FileD.name e), .string (FileD.text e)] 33)
  have hlt : w.heap.size < (w.alloc (.cells #[.string (FileD.name e), .string (FileD.text e)] 33)).heap.size := by simp
  generalize w.alloc (.cells #[.string (FileD.name e), .string (FileD.text e)] 33) = W0 at hbx hb0 hlt ⊢
  refine (nameOk_any (FileD.name e) (le_maxF (unhid HS).1) W0).mono ?_
  rintro x w1 ⟨rfl, hb⟩
  have HB1 := hid (hb0.trans (hb.mono hb0.size))
  have c1 := cell_arrS ((hb.block _ hlt).trans hbx) 1 _ rfl
  clear hb hb0 hbx hlt HB
  cases q1 : nameOkB (FileD.name e).data.toList with
  | false =>
    go_wp2_with fail
    go_ret
    exact ⟨by rw [unhid E, q1]; rfl, unhid HB1⟩
  | true =>
    go_wp2_with fail
    refine (textOk_any (FileD.text e) (le_maxF (unhid HS).2) w1).mono ?_
    rintro x w2 ⟨rfl, hb⟩
    have HB2 := hid ((unhid HB1).trans (hb.mono (unhid HB1).size))
    clear hb c1
    go_wp2_with fail
    go_ret
    exact ⟨by rw [unhid E, q1]; rfl, unhid HB2⟩

set_option maxRecDepth 100000 in
set_option maxHeartbeats 4000000 in
theorem listOkFile_any (ds : List fileC.D) (v : Value) (w : World) (hs : smallF ds) (h : rowAt fileC w v ds) :
    Calls Try.prog 14 #[v, .int .i64 6, .func (.func 15) #[] #[]] w fun x w' => x = .returned (.bool (ds.all fileB && decide (ds.length ≤ 6))) ∧ Below w.heap.size w w' := by
  obtain ⟨a, cap, rfl, -, -, h⟩ := h
  obtain ⟨hlen, hz⟩ := hs
  have HZ := hid hz
  have H := hid h
  clear hz h
  by_cases h6 : ds.length ≤ 6
  · have h6' : decide (ds.length ≤ 6) = true := decide_eq_true h6
    go_enter Try.func14, Try.ntmps14
    go_wp2_with fail
    go_loopw [15] (fun i wr => ∃ k : Nat, k ≤ ds.length ∧ i = .int .i64 (k : Int) ∧ Hid ((ds.take k).all fileB = true) ∧ Hid (Below w.heap.size w wr)) (fun i _ => ds.length - (intOf i).toNat)
    case atStart => exact ⟨0, Nat.zero_le _, rfl, hid (by simp), hid (Below.refl _ _)⟩
    case round =>
      obtain ⟨k, hk, rfl, HA, HB⟩ := hrel
      by_cases hlt : k < ds.length
      · obtain ⟨e, he⟩ : ∃ e, ds[k]? = some e := ⟨ds[k], List.getElem?_eq_getElem hlt⟩
        obtain ⟨b, o, rfl, hbl, hc⟩ := (unhid H).resolve_left (by intro e; subst e; simp at hlt)
        obtain ⟨c0, c1⟩ := file_cells (unhid HB) hbl hc he
        have HS := hid (unhid HZ e (List.mem_of_getElem? he))
        have HE := hid he
        have HBA := hid (show ∀ x, Below w.heap.size w (wr.alloc x) from fun x => (unhid HB).alloc (unhid HB).size x)
        clear hc he hbl HB
        go_wp2_with fail
        refine (fileOk_any e _ (unhid HS)).mono ?_
        rintro x w2 ⟨rfl, hb⟩
        have HB2 := hid ((unhid HBA _).trans (hb.mono (unhid HBA _).size))
        clear hb c0 c1 HBA
        cases hq : fileB e with
        | false =>
          go_wp2_with fail
          go_ret
          exact ⟨by rw [all_noF (unhid HE) hq]; rfl, unhid HB2⟩
        | true =>
          have HQ := hid hq
          clear hq
          go_wp2_with fail
          go_roundw
          case rel => exact ⟨k + 1, by omega, by go_num, hid (all_nextF (unhid HE) (unhid HA) (unhid HQ)), HB2⟩
          case measure => simp [intOf]; omega
      · have e : k = ds.length := by omega
        subst e
        go_wp2_with fail
        go_ret
        refine ⟨?_, unhid HB⟩
        have := unhid HA
        rw [List.take_of_length_le (Nat.le_refl _)] at this
        rw [this, h6']
        rfl
  · have h6' : decide (ds.length ≤ 6) = false := decide_eq_false h6
    go_enter Try.func14, Try.ntmps14
    go_wp2_with fail
    go_ret
    exact ⟨by rw [h6', Bool.and_false]; rfl, Below.refl _ _⟩

set_option maxRecDepth 100000 in
set_option maxHeartbeats 1000000 in
theorem fileName1_any (e : fileC.D) (w : World) :
    Calls Try.prog 18 #[.agg #[.string (FileD.name e), .string (FileD.text e)]] w fun x w' => x = .returned (.string (FileD.name e)) ∧ w' = w.alloc (.cells #[.string (FileD.name e), .string (FileD.text e)] 33) := by
  go_enter Try.func18, Try.ntmps18
  go_wp2_with fail
  go_ret
  exact ⟨rfl, rfl⟩

set_option maxRecDepth 100000 in
set_option maxHeartbeats 4000000 in
theorem namesOfFile_any (ds : List fileC.D) (v : Value) (w : World) (hl : ds.length ≤ 1048576) (h : rowAt fileC w v ds) :
    Calls Try.prog 17 #[v, .func (.func 18) #[] #[]] w fun x w' => ∃ u, x = .returned u ∧ w'.ownsRow w.heap.size 9 1 u (namesF ds).length ((namesF ds).map Value.string) ∧ Below w.heap.size w w' := by
  obtain ⟨a, cap, rfl, -, -, h⟩ := h
  have H := hid h
  clear h
  go_enter Try.func17, Try.ntmps17
  go_wp2_with fail
  go_loopw [5, 10] (fun s i wr => ∃ (k : Nat) (oa : Option Addr) (oc : Nat), k ≤ ds.length ∧ i = .int .i64 (k : Int) ∧ s = .slice oa k oc ∧ Hid (wr.ownsRow w.heap.size 9 1 (.slice oa k oc) ((namesF ds).take k).length (((namesF ds).take k).map Value.string)) ∧ Hid (Below w.heap.size w wr)) (fun _ i _ => ds.length - (intOf i).toNat)
  case atStart => exact ⟨0, _, _, Nat.zero_le _, rfl, rfl, hid (ownsRow_none _ _), hid (Below.refl _ _)⟩
  case round =>
    obtain ⟨k, oa, oc, hk, rfl, rfl, HO, HB⟩ := hrel
    by_cases hlt : k < ds.length
    · obtain ⟨e, he⟩ : ∃ e, ds[k]? = some e := ⟨ds[k], List.getElem?_eq_getElem hlt⟩
      obtain ⟨b, o, rfl, hbl, hc⟩ := (unhid H).resolve_left (by intro e; subst e; simp at hlt)
      obtain ⟨c0, c1⟩ := file_cells (unhid HB) hbl hc he
      have HX := hid (namesF_get he)
      clear hc he hbl
      go_wp2_with fail
      refine (fileName1_any e _).mono ?_
      rintro x w2 ⟨rfl, hw2⟩
      have hb2 : Below wr.heap.size wr w2 := by rw [hw2]; exact ((Below.refl _ wr).alloc (Nat.le_refl _) _).alloc (by simp) _
      have ho2 : w2.ownsRow w.heap.size 9 1 (.slice oa k oc) ((namesF ds).take k).length (((namesF ds).take k).map Value.string) := by rw [hw2]; exact ((unhid HO).alloc _).alloc _
      have HO2 := hid (ho2.alloc (.cells #[.string (FileD.name e)] 9))
      have HB2 := hid (((unhid HB).trans (hb2.mono (unhid HB).size)).alloc ((unhid HB).trans (hb2.mono (unhid HB).size)).size (.cells #[.string (FileD.name e)] 9))
      have HC2 := hid (cell_newF w2 (.string (FileD.name e)) 9)
      have hlo := hid (show ∀ j, (Value.slice oa k oc).ownBlock = some j → w.heap.size ≤ j from fun j ej => (ho2.lt j ej).1)
      have hkl : ((namesF ds).take k).length ≤ 1048576 := by rw [List.length_take]; omega
      have HKL := hid hkl
      have HSZ := hid (unhid HB2).size
      clear hw2 hb2 ho2 HO HB c0 c1 hkl
      go_wp2_with (at_builtin; refine wp_name rfl _ _ rfl w.heap.size (.slice oa k oc) ((namesF ds).take k) (FileD.name e) w2.heap.size rfl rfl (unhid HO2) (unhid HC2) (by have := unhid HKL; omega) (unhid HSZ) ?_)
      intro v' w4 hown hg
      have ho3 := ownsRow_takeF (unhid HX) (W := w4) (N := w.heap.size) (v := v') (by simpa using hown)
      have HB3 := hid (grown_belowF (unhid HB2) hg (unhid hlo))
      obtain ⟨oa2, oc2, hv, -⟩ := ownsRow_txts ho3
      have hk1 : ((namesF ds).take (k + 1)).length = k + 1 := by rw [List.length_take, namesF_len]; omega
      rw [hk1] at hv
      subst hv
      have HO3 := hid ho3
      clear hown hg hlo HC2 HB2 HO2 HSZ HKL ho3 hk1
      go_wp2_with fail
      go_roundw
      case rel => exact ⟨k + 1, oa2, oc2, by omega, by go_num, rfl, HO3, HB3⟩
      case measure => simp [intOf]; omega
    · have e : k = ds.length := by omega
      subst e
      go_wp2_with fail
      go_ret
      refine ⟨_, rfl, ?_, unhid HB⟩
      have := unhid HO
      rwa [List.take_of_length_le (by rw [namesF_len]; exact Nat.le_refl _)] at this

set_option maxRecDepth 100000 in
set_option maxHeartbeats 4000000 in
theorem implFilesOk_any (fs : List fileC.D) (v : Value) (w : World) (hs : smallF fs) (h : rowAt fileC w v fs) :
    Calls Try.prog 7 #[v] w fun x w' => x = .returned (.bool (filesB fs)) ∧ Below w.heap.size w w' := by
  have K1 := hid (listOkFile_any fs v w hs h)
  have K2 := hid (fun W (hb : Below w.heap.size w W) => namesOfFile_any fs v W hs.1 (h.below hb))
  obtain ⟨a, c, rfl, -⟩ := rowAt.slice h
  have hlen := hs.1
  have E := hid (show filesB fs = ((List.all (α := fileC.D) fs fileB && decide (fs.length ≤ 6)) && !twiceB (namesF fs)) from rfl)
  clear hs h
  go_enter Try.func7, Try.ntmps7
  go_wp2_with fail
  refine (unhid K1).mono ?_
  rintro x w1 ⟨rfl, hb⟩
  have HB1 := hid hb
  clear hb
  cases q1 : (List.all (α := fileC.D) fs fileB && decide (fs.length ≤ 6)) with
  | false =>
    go_wp2_with fail
    go_ret
    exact ⟨by rw [unhid E, q1]; rfl, unhid HB1⟩
  | true =>
    go_wp2_with fail
    refine (unhid K2 w1 (unhid HB1)).mono ?_
    rintro x w2 ⟨u, rfl, hown, hb⟩
    have HB2 := hid ((unhid HB1).trans (hb.mono (unhid HB1).size))
    have HSZ := hid (unhid HB1).size
    have hnl := namesF_len fs
    have HT := hid (anyTwice_any (namesF fs) u w1.heap.size w2 (by omega) hown)
    have hlo := hid (show ∀ j, u.ownBlock = some j → w1.heap.size ≤ j from fun j ej => (hown.lt j ej).1)
    obtain ⟨ua, uc, hu, -⟩ := ownsRow_txts hown
    subst hu
    clear hb hown hnl
    generalize namesF fs = nm at *
    go_wp2_with fail
    refine (unhid HT).mono ?_
    rintro x w3 ⟨rfl, hg⟩
    have HB3 := hid (grown_belowF (unhid HB2) hg (fun j ej => Nat.le_trans (unhid HSZ) (unhid hlo j ej)))
    clear hg HT hlo
    go_wp2_with fail
    go_ret
    exact ⟨by rw [unhid E, q1]; rfl, unhid HB3⟩

def filesOk_0 (d : List fileC.D) : Bool := filesB d
theorem filesOk_spec (d0 : List fileC.D) (v : Value) (F : List Nat) (W : World) (hs : d0.length + szR fileC d0 ≤ 1048576 ∧ (d0.length ≤ maxLen ∧ ∀ d ∈ d0, fileC.big d)) (h : (rowK fileC 33).own W v d0 F) : Calls Try.prog 5 #[v] W fun r W' => r = .returned (.bool (filesOk_0 d0)) ∧ Below W.heap.size W W' := specFilesOk_any d0 v W (smallF_of hs.1) (rowOwn.toAt h)
theorem filesOk_impl (d0 : List fileC.D) (v : Value) (F : List Nat) (W : World) (hs : d0.length + szR fileC d0 ≤ 1048576 ∧ (d0.length ≤ maxLen ∧ ∀ d ∈ d0, fileC.big d)) (h : (rowK fileC 33).own W v d0 F) : Calls Try.prog 7 #[v] W fun r W' => r = .returned (.bool (filesOk_0 d0)) ∧ Below W.heap.size W W' := implFilesOk_any d0 v W (smallF_of hs.1) (rowOwn.toAt h)
end Go.Proofs.Ytlnpjiabdebmgaa
