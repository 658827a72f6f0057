/- Patch of copies in memory of their own. -/
import Derived.Test.YtedimkcnemhhpaaSpecPatch
import Derived.Test.YtedimkcnemhhpaaDiffOwn
namespace Go.Proofs.Ytedimkcnemhhpaa
open Go.RowKit Go.Shelf

theorem HkOwn.readC {W : World} {v : Value} {hs : List Hk} {F : List Nat} (h : HkOwn W v hs F) : ∃ a cap, v = .slice a hs.length cap ∧ HksC W a hs := by
  rcases h with ⟨rfl, _, a, c, hv, hn⟩ | ⟨g, cap, cur, Fs, hv, hc, rfl, hn, ha⟩
  · exact ⟨a, c, hv, .inl rfl⟩
  · refine ⟨_, cap, hv, .inr ⟨g, 0, rfl, (Array.getElem?_eq_some_iff.1 ha.heap).1, fun i x hi => ?_⟩⟩
    obtain ⟨lv, Fi, h1, h2, h3, h4⟩ := ha.each i x hi
    obtain ⟨la, lc, rfl, ht, _, hlc⟩ := h4.cap
    rw [Nat.zero_add]
    exact ⟨la, lc, cell_arr ha.heap _ _ h2, cell_arr ha.heap _ _ h3, ht, hlc⟩
theorem patchOut_own {w W : World} {e : Ending} {ls : List ByteArray} {hs : List Hk} {fz : Int} (h : PatchOut w W e ls hs fz) :
    ∃ g G g1 G1, e = .returned (.tuple #[g, g1, .bool (patch_2 ls hs fz)]) ∧ txtK.own W g (patch_0 ls hs fz) G ∧ (∀ k ∈ G, w.heap.size ≤ k ∧ k < W.heap.size) ∧ intK.own W g1 (patch_1 ls hs fz) G1 ∧ (∀ k ∈ G1, w.heap.size ≤ k ∧ k < W.heap.size) ∧ (∀ k ∈ G, k ∉ G1) ∧ Below w.heap.size w W := by
  obtain ⟨v0, v1, rfl, h0, h1, hne, hb⟩ := h
  obtain ⟨a1, a2⟩ := TxtOwn.of_owns h0
  obtain ⟨b1, b2⟩ := IntOwn.of_owns h1
  refine ⟨v0, _, v1, _, rfl, a1, a2, b1, b2, fun k hk hk1 => ?_, hb⟩
  have e0 : v0.ownBlock = some k := by simpa using hk
  have e1 : v1.ownBlock = some k := by simpa using hk1
  rcases hne with e | e
  · rw [e] at e0; cases e0
  · exact e (e0.trans e1.symm)
theorem patch_small (ls : List ByteArray) (hs : List Hk) (fz : Int) (h1 : smallX ls) (_ : smallK hs) : smallX (patch_0 ls hs fz) ∧ smallZ (patch_1 ls hs fz) := by
  have hnil : smallX [] ∧ smallZ [] := ⟨⟨by simp, fun x hx => by cases hx⟩, by simp [smallZ]⟩
  cases hok : okM ls hs fz with
  | false =>
    obtain ⟨e0, e1, _⟩ := patch_no hok
    rw [e0, e1]; exact hnil
  | true =>
    cases ho : outM ls hs fz with
    | none =>
      obtain ⟨e0, e1, _⟩ := patch_none hok ho
      rw [e0, e1]; exact ⟨h1, hnil.2⟩
    | some x =>
      obtain ⟨e0, e1, _⟩ := patch_some hok ho
      rw [e0, e1]
      unfold okM at hok
      simp only [Bool.and_eq_true, decide_eq_true_eq] at hok
      obtain ⟨_, ths, _, _⟩ := hok
      obtain ⟨hh4, hmem⟩ := hunksB_mem ths
      unfold outM at ho
      obtain ⟨s, hs1, hs2⟩ := Option.bind_eq_some_iff.1 ho
      split at hs2
      · rename_i ht
        cases hs2
        obtain ⟨t1, t2⟩ := textB_parts ht
        have hb := runM_bound hs _ _ 0 (fun x hx => (hkB_parts (hmem x hx).1).2.1) (start_bound ls) hs1
        refine ⟨⟨by show (s.done ++ s.rest).length ≤ _; omega, fun y hy => by have := t2 y hy; omega⟩, ?_⟩
        have := hb.far
        show s.far.length ≤ 1048576
        omega
      · cases hs2
theorem patch_spec (ls : List ByteArray) (hs : List Hk) (fz : Int) (v : Value) (F : List Nat) (v' : Value) (F' : List Nat) (W : World) (hx : smallX ls) (hy : smallK hs) (h : txtK.own W v ls F) (h' : hkK.own W v' hs F') :
    Calls Try.prog 28 #[v, v', .int .i64 fz] W fun r W' => ∃ g G g1 G1, r = .returned (.tuple #[g, g1, .bool (patch_2 ls hs fz)]) ∧ txtK.own W' g (patch_0 ls hs fz) G ∧ (∀ k ∈ G, W.heap.size ≤ k ∧ k < W'.heap.size) ∧ intK.own W' g1 (patch_1 ls hs fz) G1 ∧ (∀ k ∈ G1, W.heap.size ≤ k ∧ k < W'.heap.size) ∧ (∀ k ∈ G, k ∉ G1) ∧ Below W.heap.size W W' := by
  obtain ⟨a, cap, rfl, h1, hn⟩ := TxtOwn.read h
  obtain ⟨a', cap', rfl, h2⟩ := HkOwn.readC h'
  exact (specPatch_any ls hs fz a a' cap cap' W (smallX_len hx) (smallX_big hx) hn (Nat.le_trans hy.1 (by simp [maxLen])) (smallK_big hy) h1 h2).mono (fun r W' h => patchOut_own h)
theorem patch_impl (ls : List ByteArray) (hs : List Hk) (fz : Int) (v : Value) (F : List Nat) (v' : Value) (F' : List Nat) (W : World) (hx : smallX ls) (hy : smallK hs) (h : txtK.own W v ls F) (h' : hkK.own W v' hs F') :
    Calls Try.prog 29 #[v, v', .int .i64 fz] W fun r W' => ∃ g G g1 G1, r = .returned (.tuple #[g, g1, .bool (patch_2 ls hs fz)]) ∧ txtK.own W' g (patch_0 ls hs fz) G ∧ (∀ k ∈ G, W.heap.size ≤ k ∧ k < W'.heap.size) ∧ intK.own W' g1 (patch_1 ls hs fz) G1 ∧ (∀ k ∈ G1, W.heap.size ≤ k ∧ k < W'.heap.size) ∧ (∀ k ∈ G, k ∉ G1) ∧ Below W.heap.size W W' := by
  obtain ⟨a, cap, rfl, h1, hn, hc⟩ := TxtOwn.cap h
  obtain ⟨a', cap', rfl, h2⟩ := HkOwn.readC h'
  exact (Patch_any ls hs fz a a' cap cap' W (smallX_len hx) (smallX_big hx) hc hn (Nat.le_trans hy.1 (by simp [maxLen])) (smallK_big hy) h1 h2).mono (fun r W' h => patchOut_own h)
end Go.Proofs.Ytedimkcnemhhpaa
