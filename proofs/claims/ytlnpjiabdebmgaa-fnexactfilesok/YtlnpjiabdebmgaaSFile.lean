/- File: what the laws' own functions of it do. (Written by mkshape.py.) -/
import Derived.Test.YtlnpjiabdebmgaaShape
import Derived.Test.YtlnpjiabdebmgaaSKit
namespace Go.Proofs.Ytlnpjiabdebmgaa
open Go.RowKit Go.Shelf

structure FileD where
  name : ByteArray
  text : ByteArray
def fileC : CK := isoC (pairC txtC txtC) FileD (fun d => (d.name, d.text)) (fun p => ⟨p.1, p.2⟩)
theorem fileC_at {W : World} {cs : List Value} {d : FileD} (h : fileC.at_ W cs d) : cs = [.string d.name, .string d.text] := by
  obtain ⟨c0, e0, rfl, rfl, rfl⟩ := h
  exact rfl
def fileC_is (_W : World) (cs : List Value) (d : FileD) (F : List Nat) : Prop := cs = [.string d.name, .string d.text] ∧ F = []
theorem fileC_own {W : World} {cs : List Value} {d : FileD} {F : List Nat} (h : fileC.own W cs d F) : fileC_is W cs d F := by
  obtain ⟨c0, e0, F0, G0, rfl, rfl, ⟨rfl, rfl⟩, ⟨rfl, rfl⟩, a0⟩ := h
  exact ⟨rfl, rfl⟩
theorem fileC_mk {W : World} {cs : List Value} {d : FileD} {F : List Nat} (h : fileC_is W cs d F) : fileC.own W cs d F := by
  obtain ⟨rfl, rfl⟩ := h
  exact ⟨[_], _, [], [], rfl, by simp, ⟨rfl, rfl⟩, ⟨rfl, rfl⟩, fun k hk => by cases hk⟩
theorem fileC_sz (d : FileD) : fileC.sz d = d.name.size + d.text.size := by
  show d.name.size + (d.text.size) = _
  omega

set_option maxRecDepth 100000 in
set_option maxHeartbeats 4000000 in
theorem vszFile_any (d : FileD) (cs : List Value) (left : Int) (w : World) (hb : fileC.big d) (hl : 0 ≤ left) (hl2 : left ≤ 1048576) (h : fileC.at_ w cs d) :
    Calls Try.prog 9 #[.agg cs.toArray, .int .i64 left] w fun x w' => (∃ r : Int, x = .returned (.int .i64 r) ∧ r ≤ left ∧ (r < 0 ∨ r + fileC.sz d = left)) ∧ Below w.heap.size w w' := by
  rw [fileC_sz]
  obtain rfl := fileC_at h
  obtain ⟨name, text⟩ := d
  dsimp only at *
  obtain ⟨b0, b1⟩ := hb
  have b0' : name.size ≤ 9223372036854775807 := b0
  have b1' : text.size ≤ 9223372036854775807 := b1
  clear h b0 b1
  have HB := hid (show ∀ o, Below w.heap.size w (w.alloc o) from fun o => (Below.refl _ w).alloc (Nat.le_refl _) o)
  go_enter Try.func9, Try.ntmps9
  by_cases g0 : left - (name.size : Int) < 0
  · go_wp2_with fail
    go_ret
    exact ⟨⟨-1, rfl, by omega, .inl (by omega)⟩, unhid HB _⟩
  by_cases g1 : (left - (name.size : Int)) - (text.size : Int) < 0
  · go_wp2_with fail
    go_ret
    exact ⟨⟨-1, rfl, by omega, .inl (by omega)⟩, unhid HB _⟩
  go_wp2_with fail
  go_ret
  exact ⟨⟨((left - (name.size : Int)) - (text.size : Int)), rfl, by omega, .inr (by omega)⟩, unhid HB _⟩

set_option maxRecDepth 100000 in
set_option maxHeartbeats 4000000 in
theorem vszFileS_any (ds : List fileC.D) (v : Value) (left : Int) (w : World) (hb : ds.length ≤ maxLen ∧ ∀ d ∈ ds, fileC.big d) (hl : 0 ≤ left) (hl2 : left ≤ 1048576) (h : rowAt fileC w v ds) :
    Calls Try.prog 4 #[v, .int .i64 left] w fun x w' => (∃ r : Int, x = .returned (.int .i64 r) ∧ r ≤ left ∧ (r < 0 ∨ r + (ds.length + szR fileC ds) = left)) ∧ Below w.heap.size w w' := by
  obtain ⟨a, cap, rfl, -, -, h⟩ := h
  obtain ⟨hlen0, hz⟩ := hb
  have hlen : ds.length ≤ 9223372036854775807 := hlen0
  clear hlen0
  have HZ := hid hz
  have H := hid h
  clear hz h
  by_cases h0 : left - (ds.length : Int) < 0
  · go_enter Try.func4, Try.ntmps4
    go_wp2_with fail
    go_ret
    exact ⟨⟨-1, rfl, by omega, .inl (by omega)⟩, Below.refl _ _⟩
  · go_enter Try.func4, Try.ntmps4
    go_wp2_with fail
    go_loopw [1, 5] (fun l i wr => ∃ (k : Nat) (q : Int), k ≤ ds.length ∧ i = .int .i64 k ∧ l = .int .i64 q ∧ 0 ≤ q ∧ Hid (q + ds.length + szR fileC (ds.take k) = left) ∧ q ≤ left ∧ Hid (Below w.heap.size w wr)) (fun _ i _ => ds.length - (intOf i).toNat)
    case atStart => exact ⟨0, _, Nat.zero_le _, rfl, rfl, by omega, hid (by simp [szR]), by omega, hid (Below.refl _ _)⟩
    case round =>
      obtain ⟨k, q, hk, rfl, rfl, hq, hsum, hq2, HB⟩ := hrel
      by_cases hlt : k < ds.length
      · obtain ⟨e, he⟩ : ∃ e, ds[k]? = some e := ⟨ds[k], List.getElem?_eq_getElem hlt⟩
        obtain ⟨b, o, rfl, hbl, hc⟩ := (unhid H).resolve_left (by intro e; subst e; simp at hlt)
        obtain ⟨cs, hat, hcell⟩ := hc k e he
        have HAT := hid (fileC.below hat (unhid HB))
        have hcs := fileC_at hat
        have HS := hid (szR_take fileC ds k e he)
        have HM := hid (List.mem_of_getElem? he)
        obtain rfl := hcs
        have c0 : wr.cell? ⟨b, o + k * 2, none⟩ = some (.string e.name) := ((unhid HB).cell (p := ⟨b, o + k * 2 + 0, none⟩) hbl).trans (hcell 0 _ rfl)
        have c1 : wr.cell? ⟨b, o + k * 2 + 1, none⟩ = some (.string e.text) := ((unhid HB).cell (p := ⟨b, o + k * 2 + 1, none⟩) hbl).trans (hcell 1 _ rfl)
        clear hc he hat hcell hbl
        go_wp2_with fail
        refine (vszFile_any e _ q _ (unhid HZ e (unhid HM)) hq (by omega) (unhid HAT)).mono ?_
        rintro x w2 ⟨⟨r, rfl, hr1, hr2⟩, hb⟩
        have HB2 := hid ((unhid HB).trans (hb.mono (unhid HB).size))
        have HR := hid hr2
        clear hb hr2 c0 c1
        by_cases hr0 : r < 0
        · go_wp2_with fail
          go_ret
          exact ⟨⟨-1, rfl, by omega, .inl (by omega)⟩, unhid HB2⟩
        · go_wp2_with fail
          go_roundw
          case rel => exact ⟨k + 1, r, by omega, by go_num, rfl, by omega, hid (by have h1 := (unhid HR).resolve_left (by omega); have h2 := unhid hsum; rw [unhid HS]; omega), by omega, HB2⟩
          case measure => simp [intOf]; omega
      · have e : k = ds.length := by omega
        subst e
        go_wp2_with fail
        go_ret
        exact ⟨⟨q, rfl, by omega, .inr (by have h2 := unhid hsum; rw [List.take_length] at h2; omega)⟩, unhid HB⟩

set_option maxRecDepth 100000 in
set_option maxHeartbeats 4000000 in
theorem vtoFile_any (d : FileD) (cs : List Value) (w : World) (hs : fileC.sz d ≤ 1048576) (h : fileC.at_ w cs d) :
    Calls Try.prog 13 #[.agg cs.toArray] w fun x w' => ∃ (cs' : List Value) (F : List Nat), x = .returned (.agg cs'.toArray) ∧ fileC.own w' cs' d F ∧ (∀ k ∈ F, w.heap.size ≤ k ∧ k < w'.heap.size) ∧ Below w.heap.size w w' := by
  rw [fileC_sz] at hs
  obtain rfl := fileC_at h
  obtain ⟨name, text⟩ := d
  dsimp only at *
  clear h
  go_enter Try.func13, Try.ntmps13
  go_wp2_with fail
  obtain ⟨hP, hR, hO, hS, hB⟩ := three_boxes w (.cells #[.string name, .string text] 31) (.cells #[.string name, .string text] 33) (.cells #[.string name, .string text] 33)
  have c0 := cell_arrS hR 0 _ rfl
  have c1 := cell_arrS hR 1 _ rfl
  refine bodyPost_ret (v := .agg #[.string name, .string text]) (by simp [results, Try.results13, go_sem, c0, c1]) rfl ⟨[.string name, .string text], [], rfl, fileC_mk ⟨rfl, rfl⟩, fun k hk => (by cases hk), hB⟩

theorem vinfoFile : (Try.prog.info? 33).map (fun i => (i.zero, i.size, i.bytes)) = some (some (.agg #[.string ⟨#[]⟩, .string ⟨#[]⟩]), 2, 32) := by kernel_rfl
theorem vmkFileS (W : World) (n : Nat) (hn : n ≤ 1048576) : ∃ M : Array Value, (Instr.makeSlice 25 (.int .i64 (n : Int)) (.int .i64 (n : Int))).run Try.prog W = .ok (.slice (some ⟨W.heap.size, 0, .none⟩) n n) (W.alloc (.cells M 33)) ∧ M.size = n * 2 := by
  obtain ⟨i, hi, hz0, hz1, hz2⟩ := info_parts vinfoFile
  refine ⟨madeCells #[.string ⟨#[]⟩, .string ⟨#[]⟩] (n * 2), ?_, by simp [madeCells]⟩
  have := run_make (P := Try.prog) W 25 33 i _ Try.underlying25 hi hz0 .i64 .i64 n n (by omega) (Int.le_refl _) (by rw [hz2]; omega) (by omega)
  simpa [hz1, Value.cells] using this
set_option maxRecDepth 100000 in
set_option maxHeartbeats 4000000 in
theorem vtoFileS_any (ds : List fileC.D) (v : Value) (w : World) (hs : ds.length + szR fileC ds ≤ 1048576) (h : rowAt fileC w v ds) :
    Calls Try.prog 6 #[v] w fun x w' => ∃ (u : Value) (F : List Nat), x = .returned u ∧ rowOwn fileC 33 w' u ds F ∧ (∀ k ∈ F, w.heap.size ≤ k ∧ k < w'.heap.size) ∧ Below w.heap.size w w' := by
  obtain ⟨a, cap, rfl, -, -, h⟩ := h
  obtain ⟨M, hmk, hM⟩ := vmkFileS w ds.length (by omega)
  have H := hid h
  have HM := hid hM
  have HS := hid hs
  have hlen : ds.length ≤ 1048576 := by omega
  clear h hM hs
  go_enter Try.func6, Try.ntmps6
  go_wp2_with fail
  clear hmk
  have hB0 : Below w.heap.size w (w.alloc (.cells M 33)) := (Below.refl _ _).alloc (Nat.le_refl _) _
  have hN0 := World.alloc_heap_new w (.cells M 33)
  generalize w.alloc (.cells M 33) = wq at hB0 hN0 ⊢
  have HR := hid hN0
  clear hN0
  go_loopw [4] (fun i wr => ∃ k : Nat, k ≤ ds.length ∧ i = .int .i64 k ∧ Hid (∃ Fs, RowPart fileC 33 wr w.heap.size ds.length k ds Fs ∧ ∀ j ∈ Fs.flatten, w.heap.size < j) ∧ Hid (Below w.heap.size w wr)) (fun i _ => ds.length - (intOf i).toNat)
  case atStart => exact ⟨0, Nat.zero_le _, rfl, hid ⟨[], ⟨⟨M, ⟨unhid HR, by simp, by simp, fun i x hi => by simp at hi⟩, unhid HM⟩, by simp⟩, fun j hj => by simp at hj⟩, hid hB0⟩
  case round =>
    clear HR hB0 HM
    obtain ⟨k, hk, rfl, HD, HB⟩ := hrel
    by_cases hlt : k < ds.length
    · obtain ⟨e, he⟩ : ∃ e, ds[k]? = some e := ⟨ds[k], List.getElem?_eq_getElem hlt⟩
      obtain ⟨b, o, rfl, hbl, hc⟩ := (unhid H).resolve_left (by intro e; subst e; simp at hlt)
      obtain ⟨cs, hat, hcell⟩ := hc k e he
      have HAT := hid (fileC.below hat (unhid HB))
      have hcs := fileC_at hat
      have hse : fileC.sz e ≤ 1048576 := by have h1 := szR_mem (List.mem_of_getElem? he); have h2 := unhid HS; omega
      obtain rfl := hcs
      have c0 : wr.cell? ⟨b, o + k * 2, none⟩ = some (.string e.name) := ((unhid HB).cell (p := ⟨b, o + k * 2 + 0, none⟩) hbl).trans (hcell 0 _ rfl)
      have c1 : wr.cell? ⟨b, o + k * 2 + 1, none⟩ = some (.string e.text) := ((unhid HB).cell (p := ⟨b, o + k * 2 + 1, none⟩) hbl).trans (hcell 1 _ rfl)
      have HE := hid he
      have HSE := hid hse
      clear hc he hat hcell hbl hse
      go_wp2_with fail
      refine (vtoFile_any e _ _ (unhid HSE) (unhid HAT)).mono ?_
      rintro x w2 ⟨cs', Fk, rfl, hown, hfr, hb⟩
      have HOWN := hid hown
      obtain ⟨rfl, -⟩ := fileC_own hown
      obtain ⟨Fs, hp, hfl⟩ := unhid HD
      obtain ⟨⟨y0, d0⟩, f0⟩ := part_cell (n := 2) rfl hp hb hlt 0 (by omega)
      obtain ⟨⟨y1, d1⟩, f1⟩ := part_cell (n := 2) rfl hp hb hlt 1 (by omega)
      rw [Nat.add_zero] at d0 f0
      have HF := hid (copy_store rfl hp hfl (Nat.le_refl _) (unhid HE) hb (unhid HOWN) (fun j hj => (hfr j hj).1))
      have HB2 := hid ((unhid HB).trans (hb.mono (unhid HB).size))
      have HB3 := hid (setsW_below [.string e.name, .string e.text] w w2 w.heap.size w.heap.size (k * 2) (unhid HB2) (Nat.le_refl _))
      clear hb hown HOWN HD HB HB2 hp hfl hfr c0 c1
      go_wp2_with fail
      go_roundw
      case rel => exact ⟨k + 1, by omega, by go_num, HF, HB3⟩
      case measure => simp [intOf]; omega
    · have e : k = ds.length := by omega
      subst e
      go_wp2_with fail
      go_ret
      obtain ⟨Fs, ⟨⟨cur, hA, hsz⟩, hnd⟩, hfl⟩ := unhid HD
      rw [List.take_of_length_le (Nat.le_refl _)] at hA
      refine ⟨_, w.heap.size :: Fs.flatten, rfl, .inr ⟨w.heap.size, ds.length, cur, Fs, rfl, Nat.le_refl _, rfl, hnd, hA⟩, fun j hj => ⟨?_, hA.lt j hj⟩, unhid HB⟩
      rcases List.mem_cons.1 hj with rfl | hj
      · exact Nat.le_refl _
      · exact Nat.le_of_lt (hfl j hj)

set_option maxRecDepth 100000 in
set_option maxHeartbeats 4000000 in
theorem veqFile_same (d : FileD) (cs cs' : List Value) (w : World) (hb : fileC.big d) (h : fileC.at_ w cs d) (h' : fileC.at_ w cs' d) :
    Calls Try.prog 19 #[.agg cs.toArray, .agg cs'.toArray] w fun r w' => r = .returned (.bool true) ∧ Below w.heap.size w w' := by
  obtain rfl := fileC_at h
  obtain rfl := fileC_at h'
  obtain ⟨name, text⟩ := d
  dsimp only at *
  clear h h' hb
  have HW := hid (alloc2_below w)
  have s0 := txt_selfS name
  have s1 := txt_selfS text
  go_enter Try.func19, Try.ntmps19
  go_wp2_with fail
  go_ret
  exact ⟨rfl, unhid HW _ _⟩

set_option maxRecDepth 100000 in
set_option maxHeartbeats 4000000 in
theorem veqFileS_same (ds : List fileC.D) (v v' : Value) (w : World) (hb : ds.length ≤ maxLen ∧ ∀ d ∈ ds, fileC.big d) (h : rowAt fileC w v ds) (h2 : rowAt fileC w v' ds) :
    Calls Try.prog 8 #[v, v'] w fun r w' => r = .returned (.bool true) ∧ Below w.heap.size w w' := by
  obtain ⟨a, cap, rfl, -, -, h⟩ := h
  obtain ⟨a2, cap2, rfl, -, -, h2⟩ := h2
  obtain ⟨hlen0, hz⟩ := hb
  have hlen : ds.length ≤ 9223372036854775807 := hlen0
  have hl' : ((ds.length : Int) != (ds.length : Int)) = false := by simp
  have HZ := hid hz
  have H := hid h
  have G := hid h2
  clear hz h h2 hlen0
  go_enter Try.func8, Try.ntmps8
  go_wp2_with fail
  go_loopw [5] (fun i wr => ∃ k : Nat, k ≤ ds.length ∧ i = .int .i64 k ∧ Hid (Below w.heap.size w wr)) (fun i _ => ds.length - (intOf i).toNat)
  case atStart => exact ⟨0, Nat.zero_le _, rfl, hid (Below.refl _ _)⟩
  case round =>
    obtain ⟨k, hk, rfl, HB⟩ := hrel
    by_cases hlt : k < ds.length
    · obtain ⟨e, he⟩ : ∃ e, ds[k]? = some e := ⟨ds[k], List.getElem?_eq_getElem hlt⟩
      obtain ⟨b, o, rfl, hbl, hc⟩ := (unhid H).resolve_left (by intro e; subst e; simp at hlt)
      obtain ⟨b2, o2, rfl, hbl2, hc2⟩ := (unhid G).resolve_left (by intro e; subst e; simp at hlt)
      obtain ⟨cs, hat, hcell⟩ := hc k e he
      obtain ⟨cs2, hat2, hcell2⟩ := hc2 k e he
      have HAT := hid (fileC.below hat (unhid HB))
      have HAT2 := hid (fileC.below hat2 (unhid HB))
      have hcs := fileC_at hat
      have hcs2 := fileC_at hat2
      obtain rfl := hcs
      obtain rfl := hcs2
      have c0 : wr.cell? ⟨b, o + k * 2, none⟩ = some (.string e.name) := ((unhid HB).cell (p := ⟨b, o + k * 2 + 0, none⟩) hbl).trans (hcell 0 _ rfl)
      have g0 : wr.cell? ⟨b2, o2 + k * 2, none⟩ = some (.string e.name) := ((unhid HB).cell (p := ⟨b2, o2 + k * 2 + 0, none⟩) hbl2).trans (hcell2 0 _ rfl)
      have c1 : wr.cell? ⟨b, o + k * 2 + 1, none⟩ = some (.string e.text) := ((unhid HB).cell (p := ⟨b, o + k * 2 + 1, none⟩) hbl).trans (hcell 1 _ rfl)
      have g1 : wr.cell? ⟨b2, o2 + k * 2 + 1, none⟩ = some (.string e.text) := ((unhid HB).cell (p := ⟨b2, o2 + k * 2 + 1, none⟩) hbl2).trans (hcell2 1 _ rfl)
      have ZL := hid (unhid HZ e (List.mem_of_getElem? he))
      clear hc hc2 he hat hat2 hcell hcell2 hbl hbl2
      go_wp2_with fail
      go_region_with (go_at_call 19; refine (veqFile_same e _ _ _ (unhid ZL) (fileC.below (unhid HAT) (drew_belowS _)) (fileC.below (unhid HAT2) (drew_belowS _))).mono ?_; rintro r w2 ⟨rfl, hb⟩; have HB2 := hid (((unhid HB).trans (drew_belowS _)).trans (hb.mono (unhid HB).size)); clear hb)
      all_goals
        go_wp2_with fail
        go_roundw
        case rel => exact ⟨k + 1, by omega, by go_num, HB2⟩
        case measure => simp [intOf]; omega
    · have e : k = ds.length := by omega
      subst e
      go_wp2_with fail
      go_ret
      exact ⟨rfl, unhid HB⟩
theorem cntFile_is (d : FileD) : fileC.cnt d = 1 + (1) := rfl
theorem cntFile (d : FileD) : fileC.cnt d ≤ 2 + 8 * fileC.sz d := by
  rw [cntFile_is d]
  omega
theorem cntFileS (ds : List fileC.D) : cntR fileC ds ≤ 8 * (ds.length + szR fileC ds) := cntR_bound (by omega) cntFile ds
theorem lenFileS (ds : List fileC.D) : ds.length ≤ cntR fileC ds := len_cntR (fun d => by rw [cntFile_is d]; omega) ds
end Go.Proofs.Ytlnpjiabdebmgaa
