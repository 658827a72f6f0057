/- What a pattern is, by the model. -/
import Derived.Test.YtiggojpepgbcoaaGlobSpec2
namespace Go.Proofs.Ytiggojpepgbcoaa
open Go.RowKit Go.Shelf

def globbedL (l : List UInt8) : Bool := globbedB ⟨l.toArray⟩
theorem globbedL_eq (x : ByteArray) : globbedL x.data.toList = globbedB x := by
  unfold globbedL; exact congrArg globbedB (ba_same (by simp))
def globOkB (l : List UInt8) : Bool := decide ((cutB 47 l).length ≤ 5) && decide (l.length ≤ 40) && (cutB 47 l).all globbedL

set_option maxRecDepth 100000 in
set_option maxHeartbeats 2000000 in
theorem specGlobOk_any (s : ByteArray) (hs : s.size ≤ 1048576) (w : World) :
    Calls Try.prog 13 #[.string s] w fun e w' => e = .returned (.bool (globOkB s.data.toList)) ∧ Below w.heap.size w w' := by
  go_enter Try.func13, Try.ntmps13
  go_wp2_with fail
  refine (l1Cut_any s 47 _ hs (by omega) (by omega) _).mono ?_
  rintro e w1 ⟨v, xs, rfl, hxs, hown, hB⟩
  have hne : xs ≠ [] := by
    intro h; subst h; exact cutB_ne _ _ hxs.symm
  obtain ⟨n, hn⟩ : ∃ n, xs.length = n + 1 := ⟨xs.length - 1, by have := List.length_pos_iff.2 hne; omega⟩
  rw [hn] at hown
  obtain ⟨g, cap, rfl⟩ := ownsRow_succ hown
  have hcell : ∀ (k : Nat) x, xs[k]? = some x → w1.cell? ⟨g, k, none⟩ = some (.string x) := fun k x hx => by
    have hk : k < xs.length := (List.getElem?_eq_some_iff.1 hx).1
    rw [hown.cellAt k (by omega), List.getElem?_map, hx]; rfl
  have hlen : ∀ x ∈ xs, x.size ≤ 1048576 := fun x hx => by
    have h1 : x.data.toList ∈ cutB 47 s.data.toList := by rw [← hxs]; exact List.mem_map.2 ⟨x, hx, rfl⟩
    have h2 := cutB_le 47 _ _ h1
    rw [← Lib.size_eq, ← Lib.size_eq] at h2
    omega
  have Hcell := hid hcell
  have Hlen := hid hlen
  have Hxs := hid hxs
  have Hn := hid hn
  have hns : n ≤ 1048576 := by
    have := cutB_length 47 s.data.toList
    rw [← hxs, ← Lib.size_eq] at this
    simp [datas] at this
    omega
  clear hown hcell hlen hxs hn
  go_wp2_with fail
  go_loop [4] (fun i => ∃ k : Nat, k ≤ n + 1 ∧ i = .int .i64 k ∧ Hid (((datas xs).take k).all globbedL = true)) (fun i => n + 1 - (intOf i).toNat)
  case atStart => exact ⟨0, Nat.zero_le _, rfl, hid (by simp)⟩
  case round =>
    obtain ⟨k, hk, rfl, hall⟩ := hrel
    by_cases hlt : k < n + 1
    · obtain ⟨x, hx⟩ : ∃ x, xs[k]? = some x := ⟨xs[k]'(by rw [unhid Hn]; exact hlt), List.getElem?_eq_getElem _⟩
      have hck := unhid Hcell k x hx
      have hlk := unhid Hlen x (List.mem_of_getElem? hx)
      have Hx := hid hx
      clear hx
      cases hb : globbedL x.data.toList
      · go_wp2_with (go_at_call 27; refine (l1Globbed_any _ hlk _).mono ?_; rintro e w' ⟨rfl, rfl⟩; rw [← globbedL_eq, hb])
        go_ret
        refine ⟨?_, hB⟩
        have hf : globOkB s.data.toList = false := by
          unfold globOkB
          rw [← unhid Hxs, List.all_eq_false.2 ⟨x.data.toList, List.mem_map.2 ⟨x, List.mem_of_getElem? (unhid Hx), rfl⟩, by simp [hb]⟩]; simp
        rw [hf]; rfl
      · go_wp2_with (go_at_call 27; refine (l1Globbed_any _ hlk _).mono ?_; rintro e w' ⟨rfl, rfl⟩; rw [← globbedL_eq, hb])
        refine ⟨⟨k + 1, by omega, by go_num, hid ?_⟩, by simp [intOf]; omega⟩
        rw [List.take_add_one, List.getElem?_map, unhid Hx, List.all_append, unhid hall]
        simp [hb]
    · have hl : (datas xs).length = n + 1 := by rw [← unhid Hn]; simp [datas]
      have hall' : (datas xs).all globbedL = true := by have := unhid hall; rwa [List.take_of_length_le (by omega)] at this
      have hf : globOkB s.data.toList = (decide ((n : Int) + 1 ≤ 5) && decide ((s.size : Int) ≤ 40)) := by
        unfold globOkB
        rw [← unhid Hxs, hall', hl, Bool.and_true, ← Lib.size_eq]
        rw [show decide (n + 1 ≤ 5) = decide ((n : Int) + 1 ≤ 5) from decide_eq_decide.2 (by omega), show decide (s.size ≤ 40) = decide ((s.size : Int) ≤ 40) from decide_eq_decide.2 (by omega)]
      have HF := hid hf
      clear hf hall' hl
      by_cases h5 : (n : Int) + 1 ≤ 5
      · have E := hid (show globOkB s.data.toList = decide ((s.size : Int) ≤ 40) by rw [unhid HF, decide_eq_true h5, Bool.true_and])
        go_wp2
        go_ret
        exact ⟨by rw [unhid E]; rfl, hB⟩
      · have E := hid (show globOkB s.data.toList = false by rw [unhid HF, decide_eq_false h5, Bool.false_and])
        go_wp2
        go_ret
        exact ⟨by rw [unhid E]; rfl, hB⟩
end Go.Proofs.Ytiggojpepgbcoaa
