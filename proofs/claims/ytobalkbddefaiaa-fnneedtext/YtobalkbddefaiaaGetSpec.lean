/- A need is read: by the model. -/
import Derived.Test.YtobalkbddefaiaaGet
import Derived.Deep.RegionWith
import Derived.Deep.CutBlock
import Derived.Deep.DrawnRows
namespace Go.Proofs.Ytobalkbddefaiaa
open Go.RowKit Go.Shelf
attribute [local go_sem ↓] Go.wp_at_zero Go.wp_at_succ

def markC (c : UInt8) : Bool := c == 61 || c == 62 || c == 60
/-- Where the first mark stands. -/
def MarkEnd (s : ByteArray) (e : Nat) : Prop := e ≤ s.size ∧ (∀ j (hj : j < s.size), j < e → markC s[j] = false) ∧ ∀ (he : e < s.size), markC s[e] = true
/-- Kind and version as the model tries the kinds below j. -/
def spKV (rest : ByteArray) : Nat → Int × ByteArray
  | 0 => (0, ⟨#[]⟩)
  | j + 1 => if (decide (1 ≤ j) && hasA rest (markA j)) = true then (j, rest.extract (markA j).size rest.size) else spKV rest j
def spOk (s nm rest : ByteArray) : Bool := needB nm.data.toList (spKV rest 4).1 (spKV rest 4).2.data.toList && ((putA nm (spKV rest 4).1 (spKV rest 4).2).toList == s.toList)

theorem hasA_eq (s p : ByteArray) : hasA s p = (decide (p.size ≤ s.size) && ((s.extract 0 p.size).toList == p.toList)) := (Lib.hasPrefix_raw s p).symm
theorem spKV_size (rest : ByteArray) (h : rest.size ≤ 1048576) (j : Nat) : (spKV rest j).2.size ≤ 1048576 := by
  induction j with
  | zero => exact Nat.zero_le _
  | succ j ih =>
    unfold spKV
    split
    · show (rest.extract _ _).size ≤ _
      rw [ByteArray.size_extract]; omega
    · exact ih
theorem needAt_set2 {W : World} {b : Nat} {n : ByteArray} {k : Int} {v : ByteArray} (h : NeedAt W b n k v) (k' : Int) (v' : ByteArray) : NeedAt ((W.setCell ⟨b, 1, none⟩ (.int .i64 k')).setCell ⟨b, 2, none⟩ (.string v')) b n k' v' := by
  obtain ⟨⟨c0, f0⟩, ⟨c1, f1⟩, c2, f2⟩ := h
  refine ⟨⟨?_, ?_⟩, ⟨?_, ?_⟩, ?_, ?_⟩ <;> simp [go_sem, World.cell?_setCell_same', c0, c1, c2, f0, f1, f2]
def Held (w : World) (nm : ByteArray) (K : Int) (V : ByteArray) (w' : World) : Prop := w'.cell? ⟨w.heap.size + 1, 0, none⟩ = some (.string nm) ∧ w'.cell? ⟨w.heap.size + 1, 1, none⟩ = some (.int .i64 K) ∧ w'.cell? ⟨w.heap.size + 1, 2, none⟩ = some (.string V) ∧ (w'.cell? ⟨w.heap.size, 0, none⟩ = some (.string ⟨#[]⟩) ∧ w'.cell? ⟨w.heap.size, 1, none⟩ = some (.int .i64 0) ∧ w'.cell? ⟨w.heap.size, 2, none⟩ = some (.string ⟨#[]⟩)) ∧ (w'.frozen? ⟨w.heap.size, 0, none⟩ = false ∧ w'.frozen? ⟨w.heap.size, 1, none⟩ = false ∧ w'.frozen? ⟨w.heap.size, 2, none⟩ = false) ∧ w.heap.size + 2 ≤ w'.heap.size ∧ Hid (Below (w.heap.size + 1) (w.alloc (.cells #[.string ⟨#[]⟩, .int .i64 0, .string ⟨#[]⟩] 30)) w')
theorem held_below {w : World} {nm : ByteArray} {K : Int} {V : ByteArray} {x y : World} (h : Held w nm K V x) (hb : Below x.heap.size x y) : Held w nm K V y := by
  obtain ⟨c0, c1, c2, ⟨d0, d1, d2⟩, ⟨f0, f1, f2⟩, hz, hB⟩ := h
  have l1 : w.heap.size + 1 < x.heap.size := by omega
  have l0 : w.heap.size < x.heap.size := by omega
  exact ⟨(hb.cell (p := ⟨w.heap.size + 1, 0, none⟩) l1).trans c0, (hb.cell (p := ⟨w.heap.size + 1, 1, none⟩) l1).trans c1, (hb.cell (p := ⟨w.heap.size + 1, 2, none⟩) l1).trans c2, ⟨(hb.cell (p := ⟨w.heap.size, 0, none⟩) l0).trans d0, (hb.cell (p := ⟨w.heap.size, 1, none⟩) l0).trans d1, (hb.cell (p := ⟨w.heap.size, 2, none⟩) l0).trans d2⟩, ⟨(hb.frozen (p := ⟨w.heap.size, 0, none⟩) l0).trans f0, (hb.frozen (p := ⟨w.heap.size, 1, none⟩) l0).trans f1, (hb.frozen (p := ⟨w.heap.size, 2, none⟩) l0).trans f2⟩, Nat.le_trans hz hb.size, hid ((unhid hB).trans (hb.mono (by omega)))⟩
theorem held_drew {w : World} {nm : ByteArray} {K : Int} {V : ByteArray} {x : World} (h : Held w nm K V x) : Held w nm K V x.drew := held_below h ((Below.refl _ x).drew)
theorem held_of {w : World} {nm : ByteArray} {K : Int} {V : ByteArray} {x : World} (h : NeedAt x (w.heap.size + 1) nm K V) (hB : Below (w.heap.size + 1) (w.alloc (.cells #[.string ⟨#[]⟩, .int .i64 0, .string ⟨#[]⟩] 30)) x) (hz : w.heap.size + 2 ≤ x.heap.size) : Held w nm K V x := by
  obtain ⟨⟨c0, f0⟩, ⟨c1, f1⟩, c2, f2⟩ := (needAt_new w _ _ _ _).below hB (Nat.lt_succ_self _)
  exact ⟨h.1.1, h.2.1.1, h.2.2.1, ⟨c0, c1, c2⟩, ⟨f0, f1, f2⟩, hz, hid hB⟩
theorem byte_no {c b : UInt8} {n : Int} (hn : (b.toNat : Int) = n) (h : c ≠ b) : (((c.toNat : Nat) : Int) != n) = true := by
  rw [bne_iff_ne]
  intro e
  exact h (UInt8.toNat_inj.1 (by omega))

set_option maxRecDepth 100000 in
set_option maxHeartbeats 8000000 in
theorem l3Get_any (s : ByteArray) (hs : s.size ≤ 1048576) (w : World) :
    Calls Try.prog 40 #[.string s] w fun e W' => (∃ k, MarkEnd s k ∧ e = .returned (needV (nameA s k) (spKV (restA s k) 4).1 (spKV (restA s k) 4).2 (spOk s (nameA s k) (restA s k)))) ∧ Below w.heap.size w W' := by
  go_enter Try.func40, Try.ntmps40
  go_upto_block 0 with fail
  go_cut [4] from 9 (fun i wx => ∃ k : Nat, i = .int .i64 k ∧ k ≤ s.size ∧ Hid (MarkEnd s k) ∧ wx = w.alloc (.cells #[.string ⟨#[]⟩, .int .i64 0, .string ⟨#[]⟩] 30))
  case first =>
   go_wp2_with fail
   go_loop [4] (fun i => ∃ k : Nat, k ≤ s.size ∧ i = .int .i64 k ∧ Hid (∀ j (hj : j < s.size), j < k → markC s[j] = false)) (fun i => s.size - (intOf i).toNat)
   case atStart => exact ⟨0, by omega, rfl, hid (fun j hj h => by omega)⟩
   case round =>
    obtain ⟨k, hk, rfl, hc⟩ := hrel
    by_cases hm : ∃ (hlt : k < s.size), markC s[k] = false
    · obtain ⟨hlt, hx⟩ := hm
      have hx' := hx
      simp only [markC, Bool.or_eq_false_iff, beq_eq_false_iff_ne] at hx'
      have b1 := byte_no (n := 61) rfl hx'.1.1
      have b2 := byte_no (n := 62) rfl hx'.1.2
      have b3 := byte_no (n := 60) rfl hx'.2
      have Hx := hid hx
      clear hx hx'
      go_wp2_with fail
      refine ⟨⟨k + 1, by omega, by go_num, hid (fun j hj h => ?_)⟩, by simp [intOf]; omega⟩
      by_cases hjk : j < k
      · exact unhid hc j hj hjk
      · obtain rfl : j = k := by omega
        exact unhid Hx
    · have HE := hid (show MarkEnd s k from ⟨hk, unhid hc, fun h => by
        cases hy : markC s[k]
        · exact absurd ⟨h, hy⟩ hm
        · rfl⟩)
      clear hc hm
      have hcase : (¬ k < s.size) ∨ ∃ (hlt : k < s.size), ((((s[k]).toNat : Int) != 61) = false) ∨ ((((s[k]).toNat : Int) != 61) = true ∧ (((s[k]).toNat : Int) != 62) = false) ∨ ((((s[k]).toNat : Int) != 61) = true ∧ (((s[k]).toNat : Int) != 62) = true ∧ (((s[k]).toNat : Int) != 60) = false) := by
        by_cases hlt : k < s.size
        · refine .inr ⟨hlt, ?_⟩
          have h := (unhid HE).2.2 hlt
          simp only [markC, Bool.or_eq_true, beq_iff_eq] at h
          rcases h with (h | h) | h <;> rw [h]
          · exact .inl rfl
          · exact .inr (.inl ⟨rfl, rfl⟩)
          · exact .inr (.inr ⟨rfl, rfl, rfl⟩)
        · exact .inl hlt
      rcases hcase with hlt | ⟨hlt, b1 | ⟨b1, b2⟩ | ⟨b1, b2, b3⟩⟩
      all_goals
        go_wp2_with fail
        go_meet
        case rel => exact ⟨k, rfl, hk, HE, rfl⟩
  case rest =>
    obtain ⟨k, rfl, hk, HE, rfl⟩ := hcut
    have rz : (s.extract k s.size).size ≤ 1048576 := by rw [ByteArray.size_extract]; omega
    have nz : (s.extract 0 k).size ≤ 1048576 := by rw [ByteArray.size_extract]; omega
    go_wp2_with fail
    generalize hr : s.extract k s.size = rest at rz ⊢
    generalize hnm : s.extract 0 k = nm at nz ⊢
    have Hr := hid hr
    have Hnm := hid hnm
    clear hr hnm
    go_loopw [7, 8] (fun kk _ wr => ∃ j : Nat, 1 ≤ j ∧ j ≤ 4 ∧ kk = .int .i64 j ∧ Hid (NeedAt wr (w.heap.size + 1) nm (spKV rest j).1 (spKV rest j).2) ∧ Hid (Below (w.heap.size + 1) (w.alloc (.cells #[.string ⟨#[]⟩, .int .i64 0, .string ⟨#[]⟩] 30)) wr) ∧ w.heap.size + 2 ≤ wr.heap.size) (fun kk _ _ => 4 - (intOf kk).toNat)
    case atStart => exact ⟨1, by omega, by omega, rfl, hid (by have := needAt_new (w.alloc (.cells #[.string ⟨#[]⟩, .int .i64 0, .string ⟨#[]⟩] 30)) nm 0 ⟨#[]⟩ 30; simpa [spKV] using this), hid ((Below.refl _ _).alloc (by simp) _), by simp⟩
    case round =>
      obtain ⟨j, hj1, hj, rfl, HN, HB, hz⟩ := hrel
      by_cases hj4 : j < 4
      · have hk3 : (j : Int) ≤ 3 := by omega
        obtain ⟨⟨c0, f0⟩, ⟨c1, f1⟩, c2, f2⟩ := unhid HN
        go_wp2_with fail
        refine (l3Sign_any _ _).mono ?_
        rintro e w' ⟨rfl, rfl⟩
        have mz := markA_size j
        cases hh : hasA rest (markA j)
        · have HS := hid (show spKV rest (j + 1) = spKV rest j by simp [spKV, hh])
          generalize markA j = m at mz hh ⊢
          have hh' : ¬ m.size ≤ rest.size ∨ m.size ≤ rest.size ∧ ((rest.extract 0 m.size).toList == m.toList) = false := by
            rw [hasA_eq] at hh
            by_cases h : m.size ≤ rest.size
            · exact .inr ⟨h, by simpa [h] using hh⟩
            · exact .inl h
          clear hh
          rcases hh' with h1 | ⟨h1, h2⟩
          all_goals
            go_wp2_with fail
            exact ⟨⟨j + 1, by omega, by omega, by go_num, hid (by rw [unhid HS]; exact unhid HN), HB, hz⟩, by simp [intOf]; omega⟩
        · have HS := hid (show spKV rest (j + 1) = ((j : Int), rest.extract (markA j).size rest.size) by simp [spKV, hh, hj1])
          generalize markA j = m at mz hh HS ⊢
          rw [hasA_eq, Bool.and_eq_true, decide_eq_true_eq] at hh
          obtain ⟨h1, h2⟩ := hh
          go_wp2_with fail
          exact ⟨⟨j + 1, by omega, by omega, by go_num, hid (by rw [unhid HS]; exact needAt_set2 (unhid HN) _ _), hid (((unhid HB).setCell (Nat.le_refl _) _).setCell (Nat.le_refl _) _), by simpa using hz⟩, by simp [intOf]; omega⟩
      · obtain rfl : j = 4 := by omega
        have vz := spKV_size rest rz 4
        have HP := hid (show spOk s nm rest = (needB nm.data.toList (spKV rest 4).1 (spKV rest 4).2.data.toList && ((putA nm (spKV rest 4).1 (spKV rest 4).2).toList == s.toList)) from rfl)
        generalize hK : (spKV rest 4).1 = K at HN HP
        generalize hV : (spKV rest 4).2 = V at HN HP vz
        have HK := hid hK
        have HV := hid hV
        clear hK hV
        have HH := held_of (unhid HN) (unhid HB) hz
        clear HN HB hz
        have HHH := hid HH
        obtain ⟨d0, d1, d2, ⟨c0, c1, c2⟩, ⟨f0, f1, f2⟩, hz, -⟩ := HH
        cases hx : needB nm.data.toList K V.data.toList
        · go_wp2_with fail
          first | go_region_with (first | (go_at_call 17; refine (specNeedOk_any nm V K nz vz _).mono ?_; rintro e w1 ⟨rfl, hb⟩; rw [hx]; have HH1 := held_below (held_drew (unhid HHH)) hb; have HHH1 := hid HH1; obtain ⟨d0, d1, d2, ⟨c0, c1, c2⟩, ⟨f0, f1, f2⟩, -, -⟩ := HH1; clear hb)) | fail
          all_goals
            go_wp2_with fail
            refine bodyPost_ret (v := needV nm K V false) (by simp [results, Try.results40, go_sem, needV, World.cell?_setCell_same', c0, c1, c2]) rfl ⟨⟨k, unhid HE, by rw [nameA, restA, unhid Hr, unhid Hnm, unhid HP, unhid HK, unhid HV, hx]; rfl⟩, ?_⟩
            obtain ⟨-, -, -, -, -, -, hB⟩ := unhid HHH1
            exact ((((Below.refl _ w).alloc (Nat.le_refl _) _).trans ((unhid hB).mono (Nat.le_succ _))).setCell (Nat.le_refl _) _ |>.setCell (Nat.le_refl _) _).setCell (Nat.le_refl _) _
        · go_wp2_with fail
          first | go_region_with (first | (go_at_call 17; refine (specNeedOk_any nm V K nz vz _).mono ?_; rintro e w1 ⟨rfl, hb⟩; rw [hx]; have HH1 := held_below (held_drew (unhid HHH)) hb; have HHH1 := hid HH1; obtain ⟨d0, d1, d2, ⟨c0, c1, c2⟩, ⟨f0, f1, f2⟩, -, -⟩ := HH1; clear hb) | (go_at_call 33; refine (l3Put_any nm V K nz vz _).mono ?_; rintro e w2 ⟨rfl, hb⟩; have HH2 := held_below (unhid HHH1) hb; have HHH2 := hid HH2; obtain ⟨d0, d1, d2, ⟨c0, c1, c2⟩, ⟨f0, f1, f2⟩, -, -⟩ := HH2; clear hb)) | fail
          all_goals
            go_wp2_with fail
            refine bodyPost_ret (v := needV nm K V ((putA nm K V).toList == s.toList)) (by simp [results, Try.results40, go_sem, needV, World.cell?_setCell_same', c0, c1, c2]) rfl ⟨⟨k, unhid HE, by rw [nameA, restA, unhid Hr, unhid Hnm, unhid HP, unhid HK, unhid HV, hx]; rfl⟩, ?_⟩
            obtain ⟨-, -, -, -, -, -, hB⟩ := unhid HHH2
            exact ((((Below.refl _ w).alloc (Nat.le_refl _) _).trans ((unhid hB).mono (Nat.le_succ _))).setCell (Nat.le_refl _) _ |>.setCell (Nat.le_refl _) _).setCell (Nat.le_refl _) _
end Go.Proofs.Ytobalkbddefaiaa
