/- The laws' own copies of rows, in memory of their own. -/
import Derived.Test.YtedimkcnemhhpaaHkOwn
import Derived.Test.YtedimkcnemhhpaaIntOwn
namespace Go.Proofs.Ytedimkcnemhhpaa
open Go.RowKit Go.Shelf

theorem toStringS_own (xs : List ByteArray) (a : Option Addr) (cap : Nat) (w : World) (hlen : xs.length ≤ 1048576) (h : TxtsAt w a xs) :
    Calls Try.prog 22 #[.slice a xs.length cap] w fun x w' => ∃ g, x = .returned (.slice (some ⟨g, 0, .none⟩) xs.length xs.length) ∧ txtK.In w' (.slice (some ⟨g, 0, .none⟩) xs.length xs.length) xs w.heap.size w'.heap.size ∧ Below w.heap.size w w' :=
  (toStringS_any xs a cap w hlen h).mono fun _ _ ⟨g, h1, h2, h3, h4⟩ => ⟨g, h1, ⟨[g], TxtOwn.of_row h3 rfl, fun k hk => by rcases List.mem_singleton.1 hk with rfl; exact ⟨h2, h3.lt⟩⟩, h4⟩

set_option maxRecDepth 100000 in
set_option maxHeartbeats 2000000 in
theorem toHunk_row (h : Hk) (la : Option Addr) (cap : Nat) (w : World) (hlen : h.lines.length ≤ 1048576) (ht : TxtsAt w la h.lines) :
    Calls Try.prog 47 #[.agg #[.int .i64 h.at_, .slice la h.lines.length cap]] w fun x w' => ∃ g, x = .returned (.agg #[.int .i64 h.at_, .slice (some ⟨g, 0, .none⟩) h.lines.length h.lines.length]) ∧ w.heap.size ≤ g ∧ TxtRow w' g 9 h.lines.length (txtFn h.lines) ∧ Below w.heap.size w w' := by
  have HT := hid ht
  clear ht
  obtain ⟨at_, lines⟩ := h
  dsimp only at HT hlen ⊢
  have hs1 : ∀ o, (w.alloc o).heap.size = w.heap.size + 1 := fun o => by simp
  have hs2 : ∀ o o', ((w.alloc o).alloc o').heap.size = w.heap.size + 1 + 1 := fun o o' => by simp
  have hs3 : ∀ o o' o'', (((w.alloc o).alloc o').alloc o'').heap.size = w.heap.size + 1 + 1 + 1 := fun o o' o'' => by simp
  have hB : ∀ o o' o'', Below w.heap.size w (((w.alloc o).alloc o').alloc o'') := fun o o' o'' => (((Below.refl _ w).alloc (Nat.le_refl _) o).alloc (by simp) o').alloc (by simp; omega) o''
  have hR : ∀ o o'', TwoAt (((w.alloc o).alloc (.cells #[.int .i64 0, .slice none 0 0] 46)).alloc o'') (w.heap.size + 1) 0 (.slice none 0 0) := fun o o'' => by
    have h1 := twoAt_new (w.alloc o) 0 (.slice none 0 0) 46
    have h2 := h1.below ((Below.refl _ _).alloc (Nat.le_refl _) o'') (by rw [hs1, hs2]; omega)
    rwa [hs1] at h2
  have hO : ∀ o o', TwoAt (((w.alloc o).alloc o').alloc (.cells #[.int .i64 at_, .slice none 0 0] 46)) (w.heap.size + 1 + 1) at_ (.slice none 0 0) := fun o o' => by
    have h1 := twoAt_new ((w.alloc o).alloc o') at_ (.slice none 0 0) 46
    rwa [hs2] at h1
  have HB := hid hB
  have HR := hid hR
  have HO := hid hO
  have HS3 := hid hs3
  clear hB hR hO hs1 hs2 hs3
  go_enter Try.func47, Try.ntmps47
  go_wp2_with fail
  refine (toStringS_any lines la cap _ hlen ((unhid HT).below (unhid HB _ _ _))).mono ?_
  rintro x w1 ⟨g, rfl, hg, hrow, hb⟩
  have B1 := hid ((unhid HB _ _ _).trans (hb.mono (unhid HB _ _ _).size))
  obtain ⟨⟨c0, f0⟩, c1, f1⟩ := (unhid HR _ _).below hb (by rw [unhid HS3]; omega)
  obtain ⟨⟨d0, g0⟩, d1, g1⟩ := (unhid HO _ _).below hb (by rw [unhid HS3]; omega)
  rw [unhid HS3] at hg
  have HRow := hid hrow
  clear hb HB HR HO HS3 hrow
  go_wp2_with fail
  refine bodyPost_ret (v := .agg #[.int .i64 at_, .slice (some ⟨g, 0, .none⟩) lines.length lines.length]) (by simp [results, Try.results47, go_sem, World.cell?_setCell_same', c0, c1]) rfl ⟨g, rfl, by omega, ?_, ?_⟩
  · refine (unhid HRow).block ?_
    rw [Below.heap_setCell _ _ _ _ (by dsimp only; omega), Below.heap_setCell _ _ _ _ (by dsimp only; omega), Below.heap_setCell _ _ _ _ (by dsimp only; omega)]
  · exact (((unhid B1).setCell (by dsimp only; omega) _).setCell (by dsimp only; omega) _).setCell (by dsimp only; omega) _

/-- The first k hunks are copied. -/
structure HkPart (W : World) (g n k : Nat) (hs : List Hk) (Fs : List (List Nat)) : Prop where
  all : ∃ cur : Array Value, HkAll W g (hs.take k) cur Fs ∧ cur.size = n * 2
  nodup : (g :: Fs.flatten).Nodup
theorem take_get {hs : List Hk} {k i : Nat} {h : Hk} (e : (hs.take k)[i]? = some h) : i < k ∧ hs[i]? = some h := by
  rw [List.getElem?_take] at e
  split at e
  · exact ⟨by assumption, e⟩
  · cases e

set_option maxRecDepth 100000 in
set_option maxHeartbeats 2000000 in
theorem toHunkS_own (hs : List Hk) (a : Option Addr) (cap : Nat) (w : World) (hlen : hs.length ≤ 1048576) (hz : ∀ h ∈ hs, h.lines.length ≤ 1048576) (h : HksAt w a hs) :
    Calls Try.prog 17 #[.slice a hs.length cap] w fun x w' => ∃ g, x = .returned (.slice (some ⟨g, 0, .none⟩) hs.length hs.length) ∧ hkK.In w' (.slice (some ⟨g, 0, .none⟩) hs.length hs.length) hs w.heap.size w'.heap.size ∧ Below w.heap.size w w' := by
  obtain ⟨M, hmk, hrow⟩ := mkHunks w hs.length hlen
  have HR := hid hrow
  have HZ := hid hz
  clear hrow hz
  go_enter Try.func17, Try.ntmps17
  go_wp2_with fail
  clear hmk
  have hB0 : Below w.heap.size w (w.alloc (.cells M 46)) := (Below.refl _ _).alloc (Nat.le_refl _) _
  generalize w.alloc (.cells M 46) = wq at HR hB0 ⊢
  go_loopw [4] (fun i wr => ∃ k : Nat, k ≤ hs.length ∧ i = .int .i64 k ∧ Hid (∃ Fs, HkPart wr w.heap.size hs.length k hs Fs ∧ ∀ j ∈ Fs.flatten, w.heap.size < j) ∧ Below w.heap.size w wr) (fun i _ => hs.length - (intOf i).toNat)
  case atStart =>
    obtain ⟨cur, h1, h2, h3⟩ := unhid HR
    exact ⟨0, Nat.zero_le _, rfl, hid ⟨[], ⟨⟨cur, ⟨h1, by simp, by simp, fun i x hi => by simp at hi⟩, h2⟩, by simp⟩, fun j hj => by simp at hj⟩, hB0⟩
  case round =>
    clear HR hB0
    obtain ⟨k, hk, rfl, HD, hB⟩ := hrel
    by_cases hlt : k < hs.length
    · obtain ⟨e, he⟩ : ∃ e, hs[k]? = some e := ⟨hs[k], List.getElem?_eq_getElem hlt⟩
      obtain ⟨b, o, rfl, hbl, hc⟩ := h.get (by intro e; subst e; simp at hlt)
      obtain ⟨la, lc, c0, c1, ht⟩ := (hc k e he).below hB hbl
      have zl := unhid HZ e (List.mem_of_getElem? he)
      have HS := hid he
      have HB := hid hB
      have HH := hid hc
      have HT := hid ht
      have ZL := hid zl
      clear hc hB he h ht zl
      go_wp2_with fail
      refine (toHunk_row e la lc _ (unhid ZL) (unhid HT)).mono ?_
      rintro x w2 ⟨g2, rfl, hg2, hrow2, hb⟩
      obtain ⟨Fs, ⟨⟨cur, hA, hsz⟩, hnd⟩, hFs⟩ := unhid HD
      have hA2 := hA.frame (fun j hj => hb.block j (hA.lt j hj))
      have d0' : ∃ y, cur[k * 2]? = some y := ⟨cur[k * 2]'(by omega), Array.getElem?_eq_getElem (by omega)⟩
      have d1' : ∃ y, cur[k * 2 + 1]? = some y := ⟨cur[k * 2 + 1]'(by omega), Array.getElem?_eq_getElem (by omega)⟩
      obtain ⟨y0, e0⟩ := d0'
      obtain ⟨y1, e1⟩ := d1'
      have d0 := cell_arr hA2.heap _ _ e0
      have d1 := cell_arr hA2.heap _ _ e1
      have f0 : w2.frozen? ⟨w.heap.size, k * 2, none⟩ = false := by simp [World.frozen?, hA2.heap]
      have f1 : w2.frozen? ⟨w.heap.size, k * 2 + 1, none⟩ = false := by simp [World.frozen?, hA2.heap]
      have hgl : w.heap.size < wr.heap.size := (Array.getElem?_eq_some_iff.1 hA.heap).1
      have HF := hid (show ∃ Fs', HkPart ((w2.setCell ⟨w.heap.size, k * 2, none⟩ (.int .i64 e.at_)).setCell ⟨w.heap.size, k * 2 + 1, none⟩ (.slice (some ⟨g2, 0, none⟩) e.lines.length e.lines.length)) w.heap.size hs.length (k + 1) hs Fs' ∧ ∀ j ∈ Fs'.flatten, w.heap.size < j by
        have hoth : ∀ j, j ≠ w.heap.size → ((w2.setCell ⟨w.heap.size, k * 2, none⟩ (.int .i64 e.at_)).setCell ⟨w.heap.size, k * 2 + 1, none⟩ (.slice (some ⟨g2, 0, none⟩) e.lines.length e.lines.length)).heap[j]? = w2.heap[j]? := fun j hj => (Below.heap_setCell _ _ _ _ hj).trans (Below.heap_setCell _ _ _ _ hj)
        have hfl : ∀ j ∈ Fs.flatten, j < wr.heap.size := fun j hj => hA.lt j (List.mem_cons_of_mem _ hj)
        have hl1 : (hs.take (k + 1)).length = k + 1 := by rw [List.length_take]; omega
        have hl0 : (hs.take k).length = k := by rw [List.length_take]; omega
        have hFl : Fs.length = k := by rw [hA.len, hl0]
        refine ⟨Fs ++ [[g2]], ⟨⟨(cur.setIfInBounds (k * 2) (.int .i64 e.at_)).setIfInBounds (k * 2 + 1) (.slice (some ⟨g2, 0, none⟩) e.lines.length e.lines.length), ⟨heap_setCell_same _ _ _ _ _ _ (heap_setCell_same _ _ _ _ _ _ hA2.heap), by rw [hl1, Array.size_setIfInBounds, Array.size_setIfInBounds]; omega, by rw [List.length_append, hFl, hl1]; rfl, fun i x hi => ?_⟩, by rw [Array.size_setIfInBounds, Array.size_setIfInBounds]; exact hsz⟩, ?_⟩, fun j hj => ?_⟩
        · obtain ⟨hik, hix⟩ := take_get hi
          by_cases eik : i = k
          · subst eik
            rw [unhid HS] at hix
            cases hix
            refine ⟨.slice (some ⟨g2, 0, none⟩) e.lines.length e.lines.length, [g2], by rw [List.getElem?_append_right (by omega), hFl, Nat.sub_self]; rfl, ?_, ?_, ?_⟩
            · rw [Array.getElem?_setIfInBounds, if_neg (by omega), Array.getElem?_setIfInBounds, if_pos rfl, if_pos (by omega)]
            · rw [Array.getElem?_setIfInBounds, if_pos rfl, if_pos (by rw [Array.size_setIfInBounds]; omega)]
            · exact (TxtOwn.of_row hrow2 rfl).frame (fun j hj => by rcases List.mem_singleton.1 hj with rfl; exact hoth _ (by omega))
          · obtain ⟨lv, Fj, g1, q2, q3, q4⟩ := hA2.each i x (by rw [List.getElem?_take_of_lt (by omega)]; exact hix)
            refine ⟨lv, Fj, by rw [List.getElem?_append_left (by omega)]; exact g1, ?_, ?_, ?_⟩
            · rw [Array.getElem?_setIfInBounds, if_neg (by omega), Array.getElem?_setIfInBounds, if_neg (by omega)]; exact q2
            · rw [Array.getElem?_setIfInBounds, if_neg (by omega), Array.getElem?_setIfInBounds, if_neg (by omega)]; exact q3
            · exact q4.frame (fun j hj => hoth j (by have := hFs j (mem_flat g1 hj); omega))
        · rw [List.flatten_append, List.nodup_cons] at *
          simp only [List.flatten_cons, List.flatten_nil, List.append_nil]
          rw [List.nodup_append]
          refine ⟨fun hm => ?_, hnd.2, by simp, fun x hx y hy => ?_⟩
          · rcases List.mem_append.1 hm with hm | hm
            · exact hnd.1 hm
            · have := List.mem_singleton.1 hm; omega
          · have := hfl x hx; have := List.mem_singleton.1 hy; omega
        · rw [List.flatten_append] at hj
          rcases List.mem_append.1 hj with hj | hj
          · exact hFs j hj
          · simp at hj; omega)
      have HB2 := hid ((unhid HB).trans (hb.mono (unhid HB).size))
      clear hb c0 c1 hA hA2 hrow2 HD hsz e0 e1 hFs hnd
      go_wp2_with fail
      go_roundw
      case rel => exact ⟨k + 1, by omega, by go_num, HF, ((unhid HB2).setCell (Nat.le_refl _) _).setCell (Nat.le_refl _) _⟩
      case measure => simp [intOf]; omega
    · have e : k = hs.length := by omega
      subst e
      go_wp2_with fail
      go_ret
      obtain ⟨Fs, ⟨⟨cur, hA, hsz⟩, hnd⟩, hFs⟩ := unhid HD
      rw [List.take_of_length_le (Nat.le_refl _)] at hA
      refine ⟨w.heap.size, rfl, ⟨w.heap.size :: Fs.flatten, .inr ⟨w.heap.size, hs.length, cur, Fs, rfl, Nat.le_refl _, rfl, hnd, hA⟩, fun j hj => ⟨?_, hA.lt j hj⟩⟩, hB⟩
      rcases List.mem_cons.1 hj with rfl | hj
      · exact Nat.le_refl _
      · exact Nat.le_of_lt (hFs j hj)
end Go.Proofs.Ytedimkcnemhhpaa
