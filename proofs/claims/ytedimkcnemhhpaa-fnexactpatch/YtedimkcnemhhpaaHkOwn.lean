/- Rows of hunks in memory of their own; what is written over them. -/
import Derived.Test.YtedimkcnemhhpaaTxtOwn
import Derived.Test.YtedimkcnemhhpaaHunksTo
namespace Go.Proofs.Ytedimkcnemhhpaa
open Go.RowKit Go.Shelf

/-- A row of hunks at block g, each with the blocks of its lines. -/
structure HkAll (W : World) (g : Nat) (hs : List Hk) (cur : Array Value) (Fs : List (List Nat)) : Prop where
  heap : W.heap[g]? = some (.cells cur 46 (0, 0))
  size : hs.length * 2 ≤ cur.size
  len : Fs.length = hs.length
  each : ∀ (i : Nat) h, hs[i]? = some h → ∃ lv Fi, Fs[i]? = some Fi ∧ cur[i * 2]? = some (.int .i64 h.at_) ∧ cur[i * 2 + 1]? = some lv ∧ TxtOwn W lv h.lines Fi
def HkOwn (W : World) (v : Value) (hs : List Hk) (F : List Nat) : Prop := (hs = [] ∧ F = [] ∧ ∃ a c, v = .slice a 0 c ∧ (a = none → c = 0)) ∨
  ∃ g cap cur Fs, v = .slice (some ⟨g, 0, none⟩) hs.length cap ∧ hs.length ≤ cap ∧ F = g :: Fs.flatten ∧ F.Nodup ∧ HkAll W g hs cur Fs
theorem mem_flat {Fs : List (List Nat)} {i : Nat} {Fi : List Nat} (h : Fs[i]? = some Fi) {k : Nat} (hk : k ∈ Fi) : k ∈ Fs.flatten := List.mem_flatten.2 ⟨Fi, List.mem_of_getElem? h, hk⟩
theorem HkAll.frame {W W' : World} {g : Nat} {hs : List Hk} {cur : Array Value} {Fs : List (List Nat)} (h : HkAll W g hs cur Fs) (hf : ∀ k ∈ g :: Fs.flatten, W'.heap[k]? = W.heap[k]?) : HkAll W' g hs cur Fs :=
  ⟨(hf g (by simp)).trans h.heap, h.size, h.len, fun i x hi => by
    obtain ⟨lv, Fi, h1, h2, h3, h4⟩ := h.each i x hi
    exact ⟨lv, Fi, h1, h2, h3, h4.frame (fun k hk => hf k (List.mem_cons_of_mem _ (mem_flat h1 hk)))⟩⟩
theorem HkOwn.frame {W W' : World} {v : Value} {hs : List Hk} {F : List Nat} (h : HkOwn W v hs F) (hf : ∀ k ∈ F, W'.heap[k]? = W.heap[k]?) : HkOwn W' v hs F := by
  rcases h with h | ⟨g, cap, cur, Fs, hv, hc, rfl, hn, ha⟩
  · exact .inl h
  · exact .inr ⟨g, cap, cur, Fs, hv, hc, rfl, hn, ha.frame hf⟩
theorem HkAll.lt {W : World} {g : Nat} {hs : List Hk} {cur : Array Value} {Fs : List (List Nat)} (h : HkAll W g hs cur Fs) : ∀ k ∈ g :: Fs.flatten, k < W.heap.size := by
  intro k hk
  rcases List.mem_cons.1 hk with rfl | hk
  · exact (Array.getElem?_eq_some_iff.1 h.heap).1
  · obtain ⟨Fi, hF, hk⟩ := List.mem_flatten.1 hk
    obtain ⟨i, hi⟩ := List.getElem?_of_mem hF
    have hl : i < hs.length := by rw [← h.len]; exact (List.getElem?_eq_some_iff.1 hi).1
    obtain ⟨lv, Fi', h1, _, _, h4⟩ := h.each i hs[i] (List.getElem?_eq_getElem hl)
    rw [hi] at h1
    cases h1
    exact h4.lt k hk
theorem HkOwn.lt {W : World} {v : Value} {hs : List Hk} {F : List Nat} (h : HkOwn W v hs F) : ∀ k ∈ F, k < W.heap.size := by
  rcases h with ⟨_, rfl, _⟩ | ⟨g, cap, cur, Fs, hv, hc, rfl, hn, ha⟩
  · intro k hk; cases hk
  · exact ha.lt
theorem cell_arr {W : World} {g T : Nat} {cur : Array Value} {fz : Nat × Nat} (hh : W.heap[g]? = some (.cells cur T fz)) (i : Nat) (v : Value) (hv : cur[i]? = some v) : W.cell? ⟨g, i, none⟩ = some v := by simp [World.cell?, hh, hv]
theorem HkOwn.read {W : World} {v : Value} {hs : List Hk} {F : List Nat} (h : HkOwn W v hs F) : ∃ a cap, v = .slice a hs.length cap ∧ HksAt W a hs := by
  rcases h with ⟨rfl, _, a, c, hv, hn⟩ | ⟨g, cap, cur, Fs, hv, hc, rfl, hn, ha⟩
  · exact ⟨a, c, hv, .inl rfl⟩
  · refine ⟨_, cap, hv, .inr ⟨g, 0, rfl, (Array.getElem?_eq_some_iff.1 ha.heap).1, fun i x hi => ?_⟩⟩
    obtain ⟨lv, Fi, h1, h2, h3, h4⟩ := ha.each i x hi
    obtain ⟨la, lc, rfl, ht, _⟩ := h4.read
    rw [Nat.zero_add]
    exact ⟨la, lc, cell_arr ha.heap _ _ h2, cell_arr ha.heap _ _ h3, ht⟩
def hkK : Kind := ⟨List Hk, HkOwn, HkOwn.frame, HkOwn.lt⟩
/-- What is written over hunks. -/
def markH : Nat → List Hk → List Hk
  | _, [] => []
  | q, h :: hs => ⟨(q : Int), mtexts (q + 1) h.lines.length⟩ :: markH (q + 1 + h.lines.length) hs
def cntH : List Hk → Nat
  | [] => 0
  | h :: hs => 1 + h.lines.length + cntH hs
theorem markH_len : ∀ (q : Nat) (hs : List Hk), (markH q hs).length = hs.length
  | _, [] => rfl
  | q, h :: hs => by simp [markH, markH_len]
theorem cntH_take (hs : List Hk) (k : Nat) (h : Hk) (e : hs[k]? = some h) : cntH (hs.take (k + 1)) = cntH (hs.take k) + 1 + h.lines.length := by
  induction hs generalizing k with
  | nil => cases e
  | cons x hs ih =>
    cases k with
    | zero => simp at e; subst e; simp [cntH]
    | succ k => have := ih k e; simp [cntH, this]; omega
theorem cntH_le : ∀ (hs : List Hk) (k : Nat), cntH (hs.take k) ≤ cntH hs
  | [], _ => by simp
  | h :: hs, 0 => by simp [cntH]
  | h :: hs, k + 1 => by have := cntH_le hs k; simp [cntH]; omega
theorem markH_get (q : Nat) (hs : List Hk) (k : Nat) (h : Hk) (e : hs[k]? = some h) : (markH q hs)[k]? = some ⟨((q + cntH (hs.take k) : Nat) : Int), mtexts (q + cntH (hs.take k) + 1) h.lines.length⟩ := by
  induction hs generalizing k q with
  | nil => cases e
  | cons x hs ih =>
    cases k with
    | zero => simp at e; subst e; simp [markH, cntH]
    | succ k =>
      have := ih (q + 1 + x.lines.length) k e
      simp only [markH, List.getElem?_cons_succ, this, List.take_succ_cons, cntH]
      congr 2 <;> congr 1 <;> omega
theorem totH_cnt : ∀ hs : List Hk, cntH hs ≤ hs.length + totH hs
  | [] => by simp [cntH]
  | h :: hs => by have := totH_cnt hs; simp [cntH, totH] at *; omega
/-- Hunks of which the first k are written over. -/
def markUpto (q : Nat) (hs : List Hk) (k : Nat) : List Hk := (markH q hs).take k ++ hs.drop k
theorem markUpto_get_lt {q : Nat} {hs : List Hk} {k i : Nat} (h : i < k) (hl : k ≤ hs.length) : (markUpto q hs k)[i]? = (markH q hs)[i]? := by
  unfold markUpto
  rw [List.getElem?_append_left (by rw [List.length_take, markH_len]; omega), List.getElem?_take_of_lt h]
theorem markUpto_get_ge {q : Nat} {hs : List Hk} {k i : Nat} (h : k ≤ i) (hl : k ≤ hs.length) : (markUpto q hs k)[i]? = hs[i]? := by
  unfold markUpto
  have e : ((markH q hs).take k).length = k := by rw [List.length_take, markH_len]; omega
  rw [List.getElem?_append_right (by omega), e, List.getElem?_drop, show k + (i - k) = i by omega]
theorem nodup_apart {g : Nat} {Fs : List (List Nat)} (h : (g :: Fs.flatten).Nodup) {i : Nat} {Fi : List Nat} (hi : Fs[i]? = some Fi) : g ∉ Fi ∧ ∀ j Fj, Fs[j]? = some Fj → j ≠ i → ∀ k ∈ Fj, k ∉ Fi := by
  rw [List.nodup_cons] at h
  refine ⟨fun e => h.1 (mem_flat hi e), fun j Fj hj hne k hk hk' => ?_⟩
  have hp := (List.pairwise_flatten.1 h.2).2
  rw [List.pairwise_iff_getElem] at hp
  obtain ⟨li, ei⟩ := List.getElem?_eq_some_iff.1 hi
  obtain ⟨lj, ej⟩ := List.getElem?_eq_some_iff.1 hj
  rcases Nat.lt_or_ge i j with hij | hij
  · have := hp i j li lj hij
    rw [ei, ej] at this
    exact this k hk' k hk rfl
  · have := hp j i lj li (by omega)
    rw [ei, ej] at this
    exact this k hk k hk' rfl

set_option maxRecDepth 100000 in
set_option maxHeartbeats 2000000 in
theorem markHunkS_own (hs : List Hk) (v : Value) (F : List Nat) (q : Nat) (w : World) (hn : hs.length ≤ 1048576) (hc : cntH hs ≤ 2097152) (hl : ∀ h ∈ hs, h.lines.length ≤ 1048576) (hq : 0 < q) (hq2 : q ≤ 10000000) (h : HkOwn w v hs F) :
    Calls Try.prog 26 #[v, .int .i64 (q : Int)] w fun x w' => x = .returned (.int .i64 ((q + cntH hs : Nat) : Int)) ∧ HkOwn w' v (markH q hs) F ∧ Only F w w' := by
  rcases h with ⟨rfl, rfl, a, c, rfl, hnil⟩ | ⟨g, cap, cur, Fs, rfl, hcap, rfl, hnd, ha⟩
  · go_enter Try.func26, Try.ntmps26
    go_wp2_with fail
    go_loopw [1, 5] (fun c i wr => i = .int .i64 0 ∧ c = .int .i64 (q : Int) ∧ wr = w) (fun _ i _ => 0)
    case atStart => exact ⟨rfl, rfl, rfl⟩
    case round =>
      obtain ⟨rfl, rfl, rfl⟩ := hrel
      go_wp2_with fail
      go_ret
      exact ⟨ret_int (by simp [cntH]), .inl ⟨rfl, rfl, a, c, rfl, hnil⟩, Only.refl _ _⟩
  · have HA := hid ha
    have HN := hid hnd
    clear ha hnd
    go_enter Try.func26, Try.ntmps26
    go_wp2_with fail
    go_loopw [1, 5] (fun c i wr => ∃ k : Nat, k ≤ hs.length ∧ i = .int .i64 (k : Int) ∧ c = .int .i64 ((q + cntH (hs.take k) : Nat) : Int) ∧ Hid (∃ cur2 : Array Value, HkAll wr g (markUpto q hs k) cur2 Fs) ∧ Hid (Only (g :: Fs.flatten) w wr)) (fun _ i _ => hs.length - (intOf i).toNat)
    case atStart => exact ⟨0, Nat.zero_le _, rfl, by simp [cntH], hid ⟨cur, by simpa [markUpto] using unhid HA⟩, hid (Only.refl _ _)⟩
    case round =>
      obtain ⟨k, hk, rfl, rfl, HC, HO⟩ := hrel
      have hcl := cntH_le hs k
      by_cases hlt : k < hs.length
      · obtain ⟨e, he⟩ : ∃ e, hs[k]? = some e := ⟨hs[k], List.getElem?_eq_getElem hlt⟩
        have E := hid (cntH_take hs k e he)
        have EM := hid (markH_get q hs k e he)
        have hcl2 := cntH_le hs (k + 1)
        rw [unhid E] at hcl2
        obtain ⟨cur2, hA⟩ := unhid HC
        obtain ⟨lv, Fi, h1, h2, h3, h4⟩ := hA.each k e (by rw [markUpto_get_ge (Nat.le_refl _) hk]; exact he)
        have c0 := cell_arr hA.heap _ _ h2
        have c1 := cell_arr hA.heap _ _ h3
        have f0 : wr.frozen? ⟨g, k * 2, none⟩ = false := by simp [World.frozen?, hA.heap]
        obtain ⟨hgF, hap⟩ := nodup_apart (unhid HN) h1
        obtain ⟨la, lc, rfl, _⟩ := h4.read
        have HT := hid h4
        have HAA := hid hA
        have H13 := hid (And.intro h1 (And.intro hgF (And.intro hap h3)))
        have hle := hl e (List.mem_of_getElem? he)
        have HE := hid he
        generalize hct : cntH (hs.take k) = t at *
        have HCT := hid hct
        clear hct h1 h2 h3 h4 hA hgF hap he HC
        have c2 : (wr.setCell ⟨g, k * 2, none⟩ (.int .i64 ((q : Int) + (t : Int)))).cell? ⟨g, k * 2 + 1, none⟩ = some (.slice la e.lines.length lc) := by rw [World.cell?_setCell_other _ _ _ _ (by simp)]; exact c1
        have hT2 := hid ((unhid HT).frame (W' := wr.setCell ⟨g, k * 2, none⟩ (.int .i64 ((q : Int) + (t : Int)))) (fun j hj => Below.heap_setCell _ _ _ _ (by dsimp only; intro ee; subst ee; exact (unhid H13).2.1 hj)))
        have HH2 := hid (heap_setCell_same wr g (k * 2) cur2 46 (.int .i64 ((q : Int) + (t : Int))) (unhid HAA).heap)
        have HSZ := hid (show (wr.setCell ⟨g, k * 2, none⟩ (.int .i64 ((q : Int) + (t : Int)))).heap.size = wr.heap.size by simp)
        have HO2 := hid ((unhid HO).setCell (p := ⟨g, k * 2, none⟩) (by simp) (.int .i64 ((q : Int) + (t : Int))))
        have hoth := hid (show ∀ j, j ≠ g → (wr.setCell ⟨g, k * 2, none⟩ (.int .i64 ((q : Int) + (t : Int)))).heap[j]? = wr.heap[j]? from fun j hj => Below.heap_setCell _ _ _ _ hj)
        go_wp2_with fail
        generalize wr.setCell ⟨g, k * 2, none⟩ (.int .i64 ((q : Int) + (t : Int))) = wq at *
        have MK := markStringS_own e.lines (.slice la e.lines.length lc) Fi (q + t + 1) wq (by omega) (by omega) (by omega) (unhid hT2)
        rw [show (((q + t + 1 : Nat) : Int)) = (q : Int) + (t : Int) + 1 by omega] at MK
        refine MK.mono ?_
        rintro x w2 ⟨rfl, hown, honly⟩
        have HNX := hid (show HkAll w2 g (markUpto q hs (k + 1)) (cur2.setIfInBounds (k * 2) (.int .i64 ((q : Int) + (t : Int)))) Fs by
          obtain ⟨h1, hgF, hap, h3⟩ := unhid H13
          have hA := unhid HAA
          have hgl := (Array.getElem?_eq_some_iff.1 (unhid HH2)).1
          refine ⟨(honly.block g hgl hgF).trans (unhid HH2), by have := hA.size; simp only [markUpto, List.length_append, List.length_take, List.length_drop, markH_len, Array.size_setIfInBounds] at *; omega, by have := hA.len; simp only [markUpto, List.length_append, List.length_take, List.length_drop, markH_len] at *; omega, fun i x hi => ?_⟩
          have hsz := hA.size
          simp only [markUpto, List.length_append, List.length_take, List.length_drop, markH_len] at hsz
          by_cases eik : i = k
          · subst eik
            rw [markUpto_get_lt (Nat.lt_succ_self _) (by omega), unhid EM] at hi
            cases hi
            refine ⟨.slice la e.lines.length lc, Fi, h1, ?_, ?_, ?_⟩
            · rw [Array.getElem?_setIfInBounds, if_pos rfl, if_pos (by omega)]; rfl
            · rw [Array.getElem?_setIfInBounds, if_neg (by omega)]; exact h3
            · exact hown
          · have hi' : (markUpto q hs k)[i]? = some x := by
              rcases Nat.lt_or_ge i k with hik | hik
              · rw [markUpto_get_lt hik hk]; rwa [markUpto_get_lt (by omega) (by omega)] at hi
              · rw [markUpto_get_ge hik hk]; rwa [markUpto_get_ge (by omega) (by omega)] at hi
            obtain ⟨lv, Fj, g1, g2, g3, g4⟩ := hA.each i x hi'
            have hdis := hap i Fj g1 eik
            have hgj : g ∉ Fj := (nodup_apart (unhid HN) g1).1
            refine ⟨lv, Fj, g1, ?_, ?_, ?_⟩
            · rw [Array.getElem?_setIfInBounds, if_neg (by omega)]; exact g2
            · rw [Array.getElem?_setIfInBounds, if_neg (by omega)]; exact g3
            · refine g4.frame (fun j hj => ?_)
              have hjl : j < wq.heap.size := by rw [unhid HSZ]; exact g4.lt j hj
              exact (honly.block j hjl (hdis j hj)).trans (unhid hoth j (fun e => by subst e; exact hgj hj)))
        have HO3 := hid ((unhid HO2).trans (honly.mono (fun j hj => List.mem_cons_of_mem _ (mem_flat (unhid H13).1 hj))))
        clear MK hown honly c0 c1 c2 f0 hT2 HH2 HO2 hoth HT HAA HO
        go_wp2_with fail
        go_roundw
        case rel => exact ⟨k + 1, by omega, by go_num, by rw [unhid E]; go_num, hid ⟨_, unhid HNX⟩, HO3⟩
        case measure => simp [intOf]; omega
      · have e : k = hs.length := by omega
        subst e
        go_wp2_with fail
        go_ret
        refine ⟨ret_int (by rw [List.take_of_length_le (Nat.le_refl _)]), ?_, unhid HO⟩
        obtain ⟨cur2, hA⟩ := unhid HC
        have em : markUpto q hs hs.length = markH q hs := by unfold markUpto; rw [List.drop_length, List.append_nil, List.take_of_length_le (by rw [markH_len]; exact Nat.le_refl _)]
        rw [em] at hA
        exact .inr ⟨g, cap, cur2, Fs, by rw [markH_len], by rw [markH_len]; exact hcap, rfl, unhid HN, hA⟩

set_option maxRecDepth 100000 in
set_option maxHeartbeats 2000000 in
theorem heldHunkS_at (hs : List Hk) (a : Option Addr) (cap q : Nat) (w : World) (hn : hs.length ≤ 1048576) (hc : cntH hs ≤ 2097152) (hl : ∀ h ∈ hs, h.lines.length ≤ 1048576) (hq : 0 < q) (hq2 : q ≤ 10000000) (h : HksAt w a (markH q hs)) :
    Calls Try.prog 27 #[.slice a hs.length cap, .int .i64 (q : Int)] w fun x w' => x = .returned (.int .i64 ((q + cntH hs : Nat) : Int)) ∧ Below w.heap.size w w' := by
  have HH := hid h
  clear h
  go_enter Try.func27, Try.ntmps27
  go_wp2_with fail
  go_loopw [1, 5] (fun c i wr => ∃ k : Nat, k ≤ hs.length ∧ i = .int .i64 (k : Int) ∧ c = .int .i64 ((q + cntH (hs.take k) : Nat) : Int) ∧ Below w.heap.size w wr) (fun _ i _ => hs.length - (intOf i).toNat)
  case atStart => exact ⟨0, Nat.zero_le _, rfl, by simp [cntH], Below.refl _ _⟩
  case round =>
    obtain ⟨k, hk, rfl, rfl, hB⟩ := hrel
    have hcl := cntH_le hs k
    by_cases hlt : k < hs.length
    · obtain ⟨e, he⟩ : ∃ e, hs[k]? = some e := ⟨hs[k], List.getElem?_eq_getElem hlt⟩
      have E := hid (cntH_take hs k e he)
      have EM := markH_get q hs k e he
      have hcl2 := cntH_le hs (k + 1)
      rw [unhid E] at hcl2
      obtain ⟨b, o, rfl, hbl, hcc⟩ := (unhid HH).get (by intro e; rw [e] at EM; cases EM)
      obtain ⟨la, lc, c0, c1, ht⟩ := (hcc k _ EM).below (hB.mono (Nat.le_refl _)) hbl
      dsimp only at c0 c1 ht
      rw [mtexts_len] at c1
      generalize hct : cntH (hs.take k) = t at *
      have HCT := hid hct
      have c0' : wr.cell? ⟨b, o + k * 2, none⟩ = some (.int .i64 ((q : Int) + (t : Int))) := by rw [c0]; rfl
      have hq0 : (((q : Int) + (t : Int)) != ((q : Int) + (t : Int))) = false := by simp
      have hle := hl e (List.mem_of_getElem? he)
      have HT := hid ht
      have HB := hid hB
      clear hct c0 ht hcc EM he hB
      go_wp2_with fail
      have HD := heldStringS_at e.lines.length la lc (q + t + 1) wr (by omega) (by omega) (by omega) (unhid HT)
      rw [show (((q + t + 1 : Nat) : Int)) = (q : Int) + (t : Int) + 1 by omega] at HD
      refine HD.mono ?_
      rintro x w2 ⟨rfl, hb⟩
      have HB2 := hid ((unhid HB).trans (hb.mono (unhid HB).size))
      clear hb HD c0' c1
      go_wp2_with fail
      go_roundw
      case rel => exact ⟨k + 1, by omega, by go_num, by rw [unhid E]; go_num, unhid HB2⟩
      case measure => simp [intOf]; omega
    · have e : k = hs.length := by omega
      subst e
      go_wp2_with fail
      go_ret
      exact ⟨ret_int (by rw [List.take_of_length_le (Nat.le_refl _)]), hB⟩
end Go.Proofs.Ytedimkcnemhhpaa
