/- GlobHas, by the program and by its model. -/
import Derived.Test.YtiggojpepgbcoaaGlobMatch
namespace Go.Proofs.Ytiggojpepgbcoaa
open Go.RowKit Go.Shelf

def namesW (l : List UInt8) : List W9 := (cutB 47 l).filterMap fun p => nameW ⟨⟨p⟩⟩
def partsB (l : List UInt8) : List ByteArray := (cutB 47 l).map fun p => ⟨⟨p⟩⟩
def hasB (g s : List UInt8) : Bool := globOkB g && (pathB s && mat9 (namesW g) (partsB s))
theorem filter_some {α β : Type} (l : List α) (f : α → Option β) (xs : List β) (h : l.map f = xs.map some) : l.filterMap f = xs := by
  rw [show l.filterMap f = (l.map f).filterMap id by simp [List.filterMap_map], h]
  simp [List.filterMap_map]
theorem namesW_ok {l : List UInt8} (h : globOkB l = true) : (cutB 47 l).map (fun p => nameW ⟨⟨p⟩⟩) = (namesW l).map some := by
  unfold globOkB at h
  rw [Bool.and_eq_true] at h
  have hall := List.all_eq_true.1 h.2
  unfold namesW
  generalize cutB 47 l = ps at hall
  induction ps with
  | nil => rfl
  | cons p ps ih =>
    have hp := hall p (List.mem_cons_self ..)
    have : (nameW ⟨⟨p⟩⟩).isSome = true := by rw [nameW_globbed]; exact hp
    obtain ⟨x, hx⟩ := Option.isSome_iff_exists.1 this
    rw [List.map_cons, List.filterMap_cons, hx, ih (fun q hq => hall q (List.mem_cons_of_mem _ hq))]
    rfl
theorem wantsF_length : ∀ (f : Nat) (s : ByteArray) (xs : List W8), wantsF f s = some xs → xs.length ≤ s.size := by
  intro f
  induction f with
  | zero => intro s xs h; unfold wantsF at h; split at h <;> cases h; simp
  | succ f ih =>
    intro s xs h
    unfold wantsF at h
    split at h
    · rename_i h0
      cases hf : firstR s s[0] with
      | none => rw [hf] at h; cases h
      | some p =>
        obtain ⟨x, n⟩ := p
        rw [hf] at h
        have hn := firstR_le h0 hf
        simp only [Option.map_eq_some_iff] at h
        obtain ⟨ys, hy, rfl⟩ := h
        have := ih _ _ hy
        rw [ByteArray.size_extract] at this
        simp; omega
    · cases h; simp
theorem nameW_small {g : ByteArray} {x : W9} (h : nameW g = some x) (hg : g.size ≤ 1000) : small9 x := by
  rcases x with _ | ys
  · trivial
  · exact Nat.le_trans (wantsF_length _ _ _ (nameW_name h).2) hg
theorem mat_vals : ∀ (xs : List W9) (ys : List Str), matchO (xs.map opt9) ys = mat9 xs (ys.map (·.1)) := by
  intro xs
  induction xs with
  | nil => intro ys; cases ys <;> rfl
  | cons x xs ih =>
    intro ys
    rcases x with _ | zs
    · induction ys with
      | nil => exact ih []
      | cons y ys ih2 =>
        have h1 := ih (y :: ys)
        show (matchO (xs.map opt9) (y :: ys) || matchO ((W9.deep :: xs).map opt9) ys) = (mat9 xs (y.1 :: ys.map (·.1)) || mat9 (.deep :: xs) (ys.map (·.1)))
        rw [h1, ih2]; rfl
    · cases ys with
      | nil => rfl
      | cons y ys =>
        show (matchO (zs.map opt8) y.1.data.toList && matchO (xs.map opt9) ys) = (fitB zs y.1 && mat9 xs (ys.map (·.1)))
        rw [ih]; rfl
theorem parts_vals {l : List UInt8} {ys : List Str} (h : vals ys = cutB 47 l) : ys.map (·.1) = partsB l := by
  unfold partsB
  rw [← h]
  simp [vals, Function.comp_def]
theorem parts_datas {l : List UInt8} {ys : List ByteArray} (h : datas ys = cutB 47 l) : ys = partsB l := by
  unfold partsB
  rw [← h]
  simp [datas, Function.comp_def]

theorem partsOf_any (s : ByteArray) (m : Int) (w : World) : Calls Try.prog 23 #[.string s, .int .u8 m] w fun e w' => e = .returned (.func (.func 38) #[] #[.pointer (some ⟨w.heap.size, 0, none⟩), .pointer (some ⟨w.heap.size + 1, 0, none⟩)]) ∧ w' = (w.alloc (.cells #[.string s] 9)).alloc (.cells #[.int .u8 m] 5) :=
  (callsIn_wide (n := 1)).1 (partsOf_in Fence.wide _ trivial rfl s m w)
theorem eg36 : ∀ args w, (callFunc 36 args).run Try.prog w = .ok (.enter 36 args) w := enters_of Try.func36 (by kernel_rfl) rfl

set_option maxRecDepth 100000 in
set_option maxHeartbeats 4000000 in
theorem GlobHas_any (g s : ByteArray) (hg : g.size ≤ maxLen) (hs : s.size ≤ maxLen) (w : World) :
    Calls Try.prog 10 #[.string g, .string s] w fun e w' => e = .returned (.bool (hasB g.data.toList s.data.toList)) ∧ Below w.heap.size w w' := by
  cases ho : globOkB g.data.toList
  · have E := hid (show hasB g.data.toList s.data.toList = false by unfold hasB; rw [ho]; rfl)
    go_enter Try.func10, Try.ntmps10
    go_wp2_with fail
    refine (globOf_any g hg _).mono ?_
    rintro e w1 ⟨fv, rfl, -, hb⟩
    have HB := hid hb
    clear hb
    rw [ho]
    go_wp2_with fail
    go_ret
    exact ⟨by rw [unhid E]; rfl, unhid HB⟩
  · cases hp : pathB s.data.toList
    · have E := hid (show hasB g.data.toList s.data.toList = false by unfold hasB; rw [ho, hp]; rfl)
      go_enter Try.func10, Try.ntmps10
      go_wp2_with fail
      refine (globOf_any g hg _).mono ?_
      rintro e w1 ⟨fv, rfl, -, hb⟩
      have HB := hid hb
      clear hb
      rw [ho]
      go_wp2_with fail
      refine (PathOk_any s hs _).mono ?_
      rintro e w2 ⟨rfl, hb⟩
      have HB2 := hid ((unhid HB).trans (hb.mono (unhid HB).size))
      clear hb
      rw [hp]
      go_wp2_with fail
      go_ret
      exact ⟨by rw [unhid E]; rfl, unhid HB2⟩
    · have E := hid (show hasB g.data.toList s.data.toList = mat9 (namesW g.data.toList) (partsB s.data.toList) by unfold hasB; rw [ho, hp]; rfl)
      go_enter Try.func10, Try.ntmps10
      go_wp2_with fail
      refine (globOf_any g hg _).mono ?_
      rintro e w1 ⟨fv, rfl, hfv, hb⟩
      obtain ⟨b, v, xs, rfl, hbl, hcb, hN, hxs⟩ := hfv ho
      have hxn : namesW g.data.toList = xs := filter_some _ _ _ hxs
      have hl40 : g.data.toList.length ≤ 40 ∧ (cutB 47 g.data.toList).length ≤ 5 := by
        unfold globOkB at ho; simp only [Bool.and_eq_true, decide_eq_true_eq] at ho; exact ⟨ho.1.2, ho.1.1⟩
      have hxl : xs.length ≤ 1000 := by have := congrArg List.length hxs; simp at this; omega
      have hsm : ∀ x ∈ xs, small9 x := fun x hx => by
        have : some x ∈ (cutB 47 g.data.toList).map (fun p => nameW ⟨⟨p⟩⟩) := by rw [hxs]; exact List.mem_map.2 ⟨x, hx, rfl⟩
        obtain ⟨p, hp, hn⟩ := List.mem_map.1 this
        refine nameW_small hn ?_
        have := cutB_le 47 _ _ hp
        rw [Lib.size_eq]
        show p.length ≤ 1000
        omega
      have HN := hid (And.intro hN (And.intro hsm (And.intro hxl hcb)))
      have HX := hid hxn
      have HB := hid hb
      clear hb hfv hN hxs hl40 hsm hxl hxn hcb
      rw [ho]
      go_wp2_with fail
      refine (PathOk_any s hs _).mono ?_
      rintro e w2 ⟨rfl, hb⟩
      have HB12 := hid hb
      have HB2 := hid ((unhid HB).trans (hb.mono (unhid HB).size))
      clear hb
      rw [hp]
      go_wp2_with fail
      refine (partsOf_any s 47 _).mono ?_
      rintro e w3 ⟨rfl, rfl⟩
      go_wp2_with fail
      obtain ⟨W3, hW3⟩ : ∃ W3, W3 = (w2.alloc (.cells #[.string s] 9)).alloc (.cells #[.int .u8 47] 5) := ⟨_, rfl⟩
      rw [← hW3]
      have h3 : Below w2.heap.size w2 W3 := by rw [hW3]; exact ((Below.refl _ w2).alloc (Nat.le_refl _) _).alloc (by simp) _
      have c0 : W3.cell? ⟨w2.heap.size, 0, none⟩ = some (.string s) := by rw [hW3]; exact cell_alloc_l _ (cell_new_l w2 _ _).1
      have cm : W3.cell? ⟨w2.heap.size + 1, 0, none⟩ = some (.int .u8 47) := by rw [hW3]; have := (cell_new_l (w2.alloc (.cells #[.string s] 9)) (.int .u8 47) 5).1; rwa [World.size_alloc] at this
      have h13 : Below w1.heap.size w1 W3 := (unhid HB12).trans (h3.mono (unhid HB12).size)
      obtain ⟨n1, n2, n3, n4⟩ := unhid HN
      refine (globTakes_any s hs xs b w2.heap.size (w2.heap.size + 1) v (fun b => w.heap.size ≤ b) W3 ((h13.cell (p := ⟨b, 0, none⟩) hbl).trans n4) (n1.kept h13.size (fun k _ hk => h13.block k hk) (fun _ h _ => h)) n2 n3 c0 cm).mono ?_
      rintro e w4 ⟨⟨ys, hys, rfl⟩, hb⟩
      have HB4 := hid ((unhid HB2).trans ((h3.mono (unhid HB2).size).trans (hb.mono (Nat.le_trans (unhid HB2).size h3.size))))
      have EM := hid (show matchO (xs.map opt9) ys = hasB g.data.toList s.data.toList by rw [mat_vals, parts_vals hys, ← unhid HX, unhid E])
      clear hW3 h3 c0 cm h13 n1 n2 n3 n4 hb hys
      rw [unhid EM]
      go_wp2_with fail
      go_ret
      exact ⟨rfl, unhid HB4⟩

theorem strsAt_of {W W' : World} {base : Nat} {v : Value} {xs : List ByteArray} (h : W.ownsRow base 9 1 v xs.length (xs.map Value.string)) (hne : xs ≠ []) (hb : Below W.heap.size W W') : StrsAt W' v xs := by
  rcases h.2 with ⟨rfl, h0⟩ | ⟨g, cap, cur, rfl, _, hg, hc, _, hsz, hcells⟩
  · exact absurd (List.length_eq_zero_iff.1 h0) hne
  · refine ⟨g, 0, cap, rfl, hc, fun i x hi => ?_⟩
    have hil : i < xs.length := (List.getElem?_eq_some_iff.1 hi).1
    have h1 : (cur.toList.take (xs.length * 1))[i]? = some (.string x) := by rw [hcells, List.getElem?_map, hi]; rfl
    rw [List.getElem?_take_of_lt (by omega), Array.getElem?_toList] at h1
    simp only [Nat.zero_add]
    refine (hb.cell (p := ⟨g, i, none⟩) (Array.getElem?_eq_some_iff.1 hg).1).trans ?_
    simp [World.cell?, hg, h1]

set_option maxRecDepth 100000 in
set_option maxHeartbeats 4000000 in
theorem specGlobHas_any (g s : ByteArray) (hg : g.size ≤ 1048576) (hs : s.size ≤ 1048576) (w : World) :
    Calls Try.prog 11 #[.string g, .string s] w fun e w' => e = .returned (.bool (hasB g.data.toList s.data.toList)) ∧ Below w.heap.size w w' := by
  cases ho : globOkB g.data.toList
  · have E := hid (show hasB g.data.toList s.data.toList = false by unfold hasB; rw [ho]; rfl)
    go_enter Try.func11, Try.ntmps11
    go_wp2_with fail
    refine (specGlobOk_any g hg _).mono ?_
    rintro e w1 ⟨rfl, hb⟩
    have HB := hid hb
    clear hb
    rw [ho]
    go_wp2_with fail
    go_ret
    exact ⟨by rw [unhid E]; rfl, unhid HB⟩
  · cases hp : pathB s.data.toList
    · have E := hid (show hasB g.data.toList s.data.toList = false by unfold hasB; rw [ho, hp]; rfl)
      go_enter Try.func11, Try.ntmps11
      go_wp2_with fail
      refine (specGlobOk_any g hg _).mono ?_
      rintro e w1 ⟨rfl, hb⟩
      have HB := hid hb
      clear hb
      rw [ho]
      go_wp2_with fail
      refine (l1Path_any s hs _).mono ?_
      rintro e w2 ⟨rfl, hb⟩
      have HB2 := hid ((unhid HB).trans (hb.mono (unhid HB).size))
      clear hb
      rw [hp]
      go_wp2_with fail
      go_ret
      exact ⟨by rw [unhid E]; rfl, unhid HB2⟩
    · have E := hid (show hasB g.data.toList s.data.toList = mat9 (namesW g.data.toList) (partsB s.data.toList) by unfold hasB; rw [ho, hp]; rfl)
      have HW := hid (namesW_ok ho)
      go_enter Try.func11, Try.ntmps11
      go_wp2_with fail
      refine (specGlobOk_any g hg _).mono ?_
      rintro e w1 ⟨rfl, hb⟩
      have HB := hid hb
      clear hb
      rw [ho]
      go_wp2_with fail
      refine (l1Path_any s hs _).mono ?_
      rintro e w2 ⟨rfl, hb⟩
      have HB2 := hid ((unhid HB).trans (hb.mono (unhid HB).size))
      clear hb
      rw [hp]
      go_wp2_with fail
      refine (l1Cut_any g 47 _ hg (by omega) (by omega) _).mono ?_
      rintro e w3 ⟨v, xs, rfl, hxs, hown, hb⟩
      have HB3 := hid ((unhid HB2).trans (hb.mono (unhid HB2).size))
      have HO := hid (And.intro hxs hown)
      clear hb hxs hown
      go_wp2_with fail
      refine (l1Cut_any s 47 _ hs (by omega) (by omega) _).mono ?_
      rintro e w4 ⟨v2, xs2, rfl, hxs2, hown2, hb⟩
      have HB34 := hid hb
      have HB4 := hid ((unhid HB3).trans (hb.mono (unhid HB3).size))
      have HO2 := hid (And.intro hxs2 hown2)
      clear hb hxs2 hown2
      go_wp2_with fail
      obtain ⟨hxs, hown⟩ := unhid HO
      obtain ⟨hxs2, hown2⟩ := unhid HO2
      have hne : xs ≠ [] := by rintro rfl; exact cutB_ne _ _ hxs.symm
      have hne2 : xs2 ≠ [] := by rintro rfl; exact cutB_ne _ _ hxs2.symm
      have small : ∀ (l : ByteArray) (zs : List ByteArray), l.size ≤ 1048576 → datas zs = cutB 47 l.data.toList → (∀ x ∈ zs, x.size ≤ 1048576) ∧ zs.length ≤ 1048577 := fun l zs hl hz => by
        constructor
        · intro x hx
          have h1 : x.data.toList ∈ cutB 47 l.data.toList := by rw [← hz]; exact List.mem_map.2 ⟨x, hx, rfl⟩
          have h2 := cutB_le 47 _ _ h1
          rw [← Lib.size_eq, ← Lib.size_eq] at h2
          omega
        · have := cutB_length 47 l.data.toList
          rw [← hz, ← Lib.size_eq] at this
          simp [datas] at this
          omega
      obtain ⟨s1, s2⟩ := small g xs hg hxs
      obtain ⟨s3, s4⟩ := small s xs2 hs hxs2
      refine (l1Match_any (xs.length + xs2.length) xs xs2 (namesW g.data.toList) v v2 w4 (Nat.le_refl _) (by omega) s1 s3 ?_ (strsAt_of hown hne (unhid HB34)) (strsAt_of hown2 hne2 (Below.refl _ _))).mono ?_
      · rw [← unhid HW, ← hxs]; simp [datas, Function.comp_def]
      rintro e w5 ⟨rfl, n, rfl⟩
      have EM := hid (show mat9 (namesW g.data.toList) xs2 = hasB g.data.toList s.data.toList by rw [unhid E, parts_datas hxs2])
      clear hxs hown hxs2 hown2 hne hne2 small s1 s2 s3 s4
      rw [unhid EM]
      go_wp2_with fail
      go_ret
      exact ⟨rfl, (unhid HB4).trans (below_drewN _ _)⟩
end Go.Proofs.Ytiggojpepgbcoaa
