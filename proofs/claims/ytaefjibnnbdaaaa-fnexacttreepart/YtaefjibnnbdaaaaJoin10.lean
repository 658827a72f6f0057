/- Texts of this proof, one behind the other; each says at its head what it shows. -/
import Derived.Test.YtaefjibnnbdaaaaJoin9
import Derived.Test.YtaefjibnnbdaaaaJoin7
import Derived.Test.YtaefjibnnbdaaaaJoin5
/- Whether names are those of a pattern's names, by the model. -/
namespace Go.Proofs.Ytaefjibnnbdaaaa
open Go.RowKit Go.Shelf

def opt9B : W9 → Option (ByteArray → Bool)
  | none => none
  | some xs => some (fitB xs)
def mat9 (xs : List W9) (ss : List ByteArray) : Bool := matchO (xs.map opt9B) ss
theorem mat_nil (ss : List ByteArray) : mat9 [] ss = ss.isEmpty := rfl
theorem mat_deep_nil (xs : List W9) : mat9 (.deep :: xs) [] = mat9 xs [] := rfl
theorem mat_deep (xs : List W9) (s : ByteArray) (ss : List ByteArray) : mat9 (.deep :: xs) (s :: ss) = (mat9 xs (s :: ss) || mat9 (.deep :: xs) ss) := rfl
theorem mat_no (ys : List W8) (xs : List W9) : mat9 (.name ys :: xs) [] = false := rfl
theorem mat_one (ys : List W8) (xs : List W9) (s : ByteArray) (ss : List ByteArray) : mat9 (.name ys :: xs) (s :: ss) = (fitB ys s && mat9 xs ss) := rfl

/-- A row of texts that is read. -/
def StrsAt (W : World) (v : Value) (ps : List ByteArray) : Prop := ∃ b o cap, v = .slice (some ⟨b, o, none⟩) ps.length cap ∧ ps.length ≤ cap ∧ ∀ (i : Nat) x, ps[i]? = some x → W.cell? ⟨b, o + i, none⟩ = some (.string x)
theorem StrsAt.drew {W : World} {v : Value} {ps : List ByteArray} (h : StrsAt W v ps) (n : Nat) : StrsAt (W.drewN n) v ps := h
theorem nameW_deep {g : ByteArray} (h : nameW g = some .deep) : (g.toList == [42, 42]) = true := by
  unfold nameW at h
  split at h
  · assumption
  · split at h <;> cases h
theorem nameW_name {g : ByteArray} {ys : List W8} (h : nameW g = some (.name ys)) : (g.toList == [42, 42]) = false ∧ wants g = some ys := by
  unfold nameW at h
  split at h
  · cases h
  · rename_i hn
    refine ⟨by simpa using hn, ?_⟩
    split at h
    · rename_i x xs hw; cases h; exact hw
    · cases h

set_option maxRecDepth 100000 in
set_option maxHeartbeats 4000000 in
theorem l1Match_any (m : Nat) : ∀ (gs ss : List ByteArray) (xs : List W9) (vg vs : Value) (w : World), gs.length + ss.length ≤ m → m ≤ 3000000 → (∀ g ∈ gs, g.size ≤ 1048576) → (∀ s ∈ ss, s.size ≤ 1048576) → gs.map nameW = xs.map some → StrsAt w vg gs → StrsAt w vs ss →
    Calls Try.prog 103 #[vg, vs] w fun e w' => e = .returned (.bool (mat9 xs ss)) ∧ ∃ n, w' = w.drewN n := by
  induction m with
  | zero =>
    intro gs ss xs vg vs w hm hmm hg hs hw hvg hvs
    obtain ⟨b, o, cap, rfl, hc, hcell⟩ := hvg
    obtain ⟨b2, o2, cap2, rfl, hc2, hcell2⟩ := hvs
    have : gs = [] := List.length_eq_zero_iff.1 (by omega)
    subst this
    have : ss = [] := List.length_eq_zero_iff.1 (by omega)
    subst this
    have : xs = [] := by cases xs; rfl; cases hw
    subst this
    have E := hid (mat_nil [])
    go_enter Try.func103, Try.ntmps103
    go_wp2_with fail
    go_ret
    exact ⟨by rw [unhid E]; rfl, 0, rfl⟩
  | succ m ih =>
    intro gs ss xs vg vs w hm hmm hg hs hw hvg hvs
    have IH := hid ih
    clear ih
    have HVG := hid hvg
    have HVS := hid hvs
    obtain ⟨b, o, cap, rfl, hc, hcell⟩ := hvg
    obtain ⟨b2, o2, cap2, rfl, hc2, hcell2⟩ := hvs
    cases gs with
    | nil =>
      have : xs = [] := by cases xs; rfl; cases hw
      subst this
      have E := hid (mat_nil ss)
      have hl : ((ss.length : Int) == 0) = ss.isEmpty := by cases ss <;> simp; omega
      go_enter Try.func103, Try.ntmps103
      go_wp2_with fail
      go_ret
      exact ⟨by rw [unhid E]; rfl, 0, rfl⟩
    | cons g gs =>
      cases xs with
      | nil => cases hw
      | cons x xs =>
        have hw1 : nameW g = some x := by simp at hw; exact hw.1
        have hw2 := hid (show gs.map nameW = xs.map some by simp at hw; simpa using hw.2)
        have hw0 := hid hw
        have c0 := hcell 0 g rfl
        have HG := hid hg
        have HS := hid hs
        have HT := hid (show StrsAt w (.slice (some ⟨b, o + 1, none⟩) gs.length (cap - 1)) gs from ⟨b, o + 1, cap - 1, rfl, by simp at hc; omega, fun i x hi => by rw [show o + 1 + i = o + (i + 1) by omega]; exact hcell (i + 1) x (by simpa using hi)⟩)
        have HT1 := hid (show cap = 1 → StrsAt w (.slice (some ⟨b, o, none⟩) 0 0) gs from fun e => by
          have : gs = [] := List.length_eq_zero_iff.1 (by simp at hc; omega)
          subst this; exact ⟨b, o, 0, rfl, Nat.le_refl _, fun i x hi => by simp at hi⟩)
        simp only [List.length_cons] at hc hm HVG ⊢
        simp only [Nat.add_zero] at c0
        clear hw hcell hg hs
        have hne : ¬ ((gs.length : Int) + 1 = 0) := by omega
        have hne' : ((gs.length : Int) + 1 == 0) = false := by simpa using hne
        have HGG := hid (show ∀ g ∈ gs, g.size ≤ 1048576 from fun a ha => unhid HG a (List.mem_cons_of_mem _ ha))
        rcases x with _ | ys
        · have hd0 := nameW_deep hw1
          clear hw1
          cases h1 : mat9 xs ss
          · cases ss with
            | nil =>
              have E := hid (mat_deep_nil xs)
              simp only [List.length_nil] at hc2 hm HVS ⊢
              by_cases hcap : cap = 1
              · subst hcap
                have HTa := hid (unhid HT1 rfl); clear HT1
                go_enter Try.func103, Try.ntmps103
                go_wp2_with fail
                refine (unhid IH gs [] xs _ _ w (by simp; omega) (by omega) (unhid HGG) (unhid HS) (unhid hw2) (unhid HTa) (unhid HVS)).mono ?_
                rintro e w' ⟨rfl, nq, rfl⟩
                rw [h1]
                go_wp2_with fail
                go_ret
                exact ⟨by rw [unhid E, h1]; rfl, _, rfl⟩
              · go_enter Try.func103, Try.ntmps103
                go_wp2_with fail
                refine (unhid IH gs [] xs _ _ w (by simp; omega) (by omega) (unhid HGG) (unhid HS) (unhid hw2) (unhid HT) (unhid HVS)).mono ?_
                rintro e w' ⟨rfl, nq, rfl⟩
                rw [h1]
                go_wp2_with fail
                go_ret
                exact ⟨by rw [unhid E, h1]; rfl, _, rfl⟩
            | cons s ss =>
              have E := hid (mat_deep xs s ss)
              have HS2 := hid (show ∀ s ∈ ss, s.size ≤ 1048576 from fun a ha => unhid HS a (List.mem_cons_of_mem _ ha))
              have HU := hid (show StrsAt w (.slice (some ⟨b2, o2 + 1, none⟩) ss.length (cap2 - 1)) ss from ⟨b2, o2 + 1, cap2 - 1, rfl, by simp at hc2; omega, fun i x hi => by rw [show o2 + 1 + i = o2 + (i + 1) by omega]; exact hcell2 (i + 1) x (by simpa using hi)⟩)
              have HU1 := hid (show cap2 = 1 → StrsAt w (.slice (some ⟨b2, o2, none⟩) 0 0) ss from fun e => by
                have : ss = [] := List.length_eq_zero_iff.1 (by simp at hc2; omega)
                subst this; exact ⟨b2, o2, 0, rfl, Nat.le_refl _, fun i x hi => by simp at hi⟩)
              simp only [List.length_cons] at hc2 hm HVS ⊢
              clear hcell2
              have hpos : (0 : Int) < (ss.length : Int) + 1 := by omega
              by_cases hcap : cap = 1 <;> by_cases hcap2 : cap2 = 1
              · subst hcap
                have HTa := hid (unhid HT1 rfl); clear HT1
                subst hcap2
                have HUa := hid (unhid HU1 rfl); clear HU1
                go_enter Try.func103, Try.ntmps103
                go_wp2_with fail
                refine (unhid IH gs (s :: ss) xs _ _ w (by simp; omega) (by omega) (unhid HGG) (unhid HS) (unhid hw2) (unhid HTa) (unhid HVS)).mono ?_
                rintro e w' ⟨rfl, nq, rfl⟩
                rw [h1]
                go_wp2_with fail
                refine (unhid IH (g :: gs) ss (.deep :: xs) _ _ (w.drewN nq) (by simp; omega) (by omega) (unhid HG) (unhid HS2) (unhid hw0) (unhid HVG) (unhid HUa)).mono ?_
                rintro e w' ⟨rfl, nq2, rfl⟩
                go_wp2_with fail
                go_ret
                exact ⟨by rw [unhid E, h1]; rfl, _, rfl⟩
              · subst hcap
                have HTa := hid (unhid HT1 rfl); clear HT1
                go_enter Try.func103, Try.ntmps103
                go_wp2_with fail
                refine (unhid IH gs (s :: ss) xs _ _ w (by simp; omega) (by omega) (unhid HGG) (unhid HS) (unhid hw2) (unhid HTa) (unhid HVS)).mono ?_
                rintro e w' ⟨rfl, nq, rfl⟩
                rw [h1]
                go_wp2_with fail
                refine (unhid IH (g :: gs) ss (.deep :: xs) _ _ (w.drewN nq) (by simp; omega) (by omega) (unhid HG) (unhid HS2) (unhid hw0) (unhid HVG) (unhid HU)).mono ?_
                rintro e w' ⟨rfl, nq2, rfl⟩
                go_wp2_with fail
                go_ret
                exact ⟨by rw [unhid E, h1]; rfl, _, rfl⟩
              · subst hcap2
                have HUa := hid (unhid HU1 rfl); clear HU1
                go_enter Try.func103, Try.ntmps103
                go_wp2_with fail
                refine (unhid IH gs (s :: ss) xs _ _ w (by simp; omega) (by omega) (unhid HGG) (unhid HS) (unhid hw2) (unhid HT) (unhid HVS)).mono ?_
                rintro e w' ⟨rfl, nq, rfl⟩
                rw [h1]
                go_wp2_with fail
                refine (unhid IH (g :: gs) ss (.deep :: xs) _ _ (w.drewN nq) (by simp; omega) (by omega) (unhid HG) (unhid HS2) (unhid hw0) (unhid HVG) (unhid HUa)).mono ?_
                rintro e w' ⟨rfl, nq2, rfl⟩
                go_wp2_with fail
                go_ret
                exact ⟨by rw [unhid E, h1]; rfl, _, rfl⟩
              · go_enter Try.func103, Try.ntmps103
                go_wp2_with fail
                refine (unhid IH gs (s :: ss) xs _ _ w (by simp; omega) (by omega) (unhid HGG) (unhid HS) (unhid hw2) (unhid HT) (unhid HVS)).mono ?_
                rintro e w' ⟨rfl, nq, rfl⟩
                rw [h1]
                go_wp2_with fail
                refine (unhid IH (g :: gs) ss (.deep :: xs) _ _ (w.drewN nq) (by simp; omega) (by omega) (unhid HG) (unhid HS2) (unhid hw0) (unhid HVG) (unhid HU)).mono ?_
                rintro e w' ⟨rfl, nq2, rfl⟩
                go_wp2_with fail
                go_ret
                exact ⟨by rw [unhid E, h1]; rfl, _, rfl⟩
          · have E := hid (show mat9 (.deep :: xs) ss = true by
              cases ss with
              | nil => rw [mat_deep_nil, h1]
              | cons s ss => rw [mat_deep, h1]; rfl)
            by_cases hcap : cap = 1
            · subst hcap
              have HTa := hid (unhid HT1 rfl); clear HT1
              go_enter Try.func103, Try.ntmps103
              go_wp2_with fail
              refine (unhid IH gs ss xs _ _ w (by omega) (by omega) (unhid HGG) (unhid HS) (unhid hw2) (unhid HTa) (unhid HVS)).mono ?_
              rintro e w' ⟨rfl, nq, rfl⟩
              rw [h1]
              go_wp2_with fail
              go_ret
              exact ⟨by rw [unhid E]; rfl, _, rfl⟩
            · go_enter Try.func103, Try.ntmps103
              go_wp2_with fail
              refine (unhid IH gs ss xs _ _ w (by omega) (by omega) (unhid HGG) (unhid HS) (unhid hw2) (unhid HT) (unhid HVS)).mono ?_
              rintro e w' ⟨rfl, nq, rfl⟩
              rw [h1]
              go_wp2_with fail
              go_ret
              exact ⟨by rw [unhid E]; rfl, _, rfl⟩
        · obtain ⟨hd0, hwy⟩ := nameW_name hw1
          have HWY := hid hwy
          clear hw1 hwy
          cases ss with
          | nil =>
            have E := hid (mat_no ys xs)
            simp only [List.length_nil] at hc2 hm HVS ⊢
            have hz0 : ¬ (0 : Int) < 0 := by omega
            go_enter Try.func103, Try.ntmps103
            go_wp2_with fail
            go_quiet (fail)
            go_wp2_with fail
            go_ret
            exact ⟨by rw [unhid E]; rfl, _, rfl⟩
          | cons s ss =>
            have E := hid (mat_one ys xs s ss)
            have HS2 := hid (show ∀ s ∈ ss, s.size ≤ 1048576 from fun a ha => unhid HS a (List.mem_cons_of_mem _ ha))
            have HU := hid (show StrsAt w (.slice (some ⟨b2, o2 + 1, none⟩) ss.length (cap2 - 1)) ss from ⟨b2, o2 + 1, cap2 - 1, rfl, by simp at hc2; omega, fun i x hi => by rw [show o2 + 1 + i = o2 + (i + 1) by omega]; exact hcell2 (i + 1) x (by simpa using hi)⟩)
            have HU1 := hid (show cap2 = 1 → StrsAt w (.slice (some ⟨b2, o2, none⟩) 0 0) ss from fun e => by
              have : ss = [] := List.length_eq_zero_iff.1 (by simp at hc2; omega)
              subst this; exact ⟨b2, o2, 0, rfl, Nat.le_refl _, fun i x hi => by simp at hi⟩)
            have d0 := hcell2 0 s rfl
            simp only [Nat.add_zero] at d0
            simp only [List.length_cons] at hc2 hm HVS ⊢
            clear hcell2
            have hpos : (0 : Int) < (ss.length : Int) + 1 := by omega
            have hgz := unhid HG g (List.mem_cons_self ..)
            have hsz := unhid HS s (List.mem_cons_self ..)
            cases h1 : fitB ys s
            · go_enter Try.func103, Try.ntmps103
              go_wp2_with fail
              go_quiet ((go_at_call 122; refine Calls.quiet_of (v := .bool false) ((l1Fits_any _ g s ys _ (Nat.le_refl _) hgz hsz (unhid HWY)).mono ?_); rintro e w' ⟨rfl, nq, rfl⟩; exact ⟨by rw [h1], nq, rfl⟩))
              go_wp2_with fail
              go_ret
              exact ⟨by rw [unhid E, h1]; rfl, _, rfl⟩
            · by_cases hcap : cap = 1 <;> by_cases hcap2 : cap2 = 1
              · subst hcap
                have HTa := hid (unhid HT1 rfl); clear HT1
                subst hcap2
                have HUa := hid (unhid HU1 rfl); clear HU1
                go_enter Try.func103, Try.ntmps103
                go_wp2_with fail
                go_quiet (first | (go_at_call 122; refine Calls.quiet_of (v := .bool true) ((l1Fits_any _ g s ys _ (Nat.le_refl _) hgz hsz (unhid HWY)).mono ?_); rintro e w' ⟨rfl, nq, rfl⟩; exact ⟨by rw [h1], nq, rfl⟩) | (go_at_call 103; exact Calls.quiet_of (unhid IH gs ss xs _ _ _ (by omega) (by omega) (unhid HGG) (unhid HS2) (unhid hw2) (unhid HTa) (unhid HUa))))
                go_wp2_with fail
                go_ret
                exact ⟨by rw [unhid E, h1]; rfl, _, rfl⟩
              · subst hcap
                have HTa := hid (unhid HT1 rfl); clear HT1
                go_enter Try.func103, Try.ntmps103
                go_wp2_with fail
                go_quiet (first | (go_at_call 122; refine Calls.quiet_of (v := .bool true) ((l1Fits_any _ g s ys _ (Nat.le_refl _) hgz hsz (unhid HWY)).mono ?_); rintro e w' ⟨rfl, nq, rfl⟩; exact ⟨by rw [h1], nq, rfl⟩) | (go_at_call 103; exact Calls.quiet_of (unhid IH gs ss xs _ _ _ (by omega) (by omega) (unhid HGG) (unhid HS2) (unhid hw2) (unhid HTa) (unhid HU))))
                go_wp2_with fail
                go_ret
                exact ⟨by rw [unhid E, h1]; rfl, _, rfl⟩
              · subst hcap2
                have HUa := hid (unhid HU1 rfl); clear HU1
                go_enter Try.func103, Try.ntmps103
                go_wp2_with fail
                go_quiet (first | (go_at_call 122; refine Calls.quiet_of (v := .bool true) ((l1Fits_any _ g s ys _ (Nat.le_refl _) hgz hsz (unhid HWY)).mono ?_); rintro e w' ⟨rfl, nq, rfl⟩; exact ⟨by rw [h1], nq, rfl⟩) | (go_at_call 103; exact Calls.quiet_of (unhid IH gs ss xs _ _ _ (by omega) (by omega) (unhid HGG) (unhid HS2) (unhid hw2) (unhid HT) (unhid HUa))))
                go_wp2_with fail
                go_ret
                exact ⟨by rw [unhid E, h1]; rfl, _, rfl⟩
              · go_enter Try.func103, Try.ntmps103
                go_wp2_with fail
                go_quiet (first | (go_at_call 122; refine Calls.quiet_of (v := .bool true) ((l1Fits_any _ g s ys _ (Nat.le_refl _) hgz hsz (unhid HWY)).mono ?_); rintro e w' ⟨rfl, nq, rfl⟩; exact ⟨by rw [h1], nq, rfl⟩) | (go_at_call 103; exact Calls.quiet_of (unhid IH gs ss xs _ _ _ (by omega) (by omega) (unhid HGG) (unhid HS2) (unhid hw2) (unhid HT) (unhid HU))))
                go_wp2_with fail
                go_ret
                exact ⟨by rw [unhid E, h1]; rfl, _, rfl⟩
end Go.Proofs.Ytaefjibnnbdaaaa

/- GlobHas, by the program and by its model. -/
namespace Go.Proofs.Ytaefjibnnbdaaaa
open Go.RowKit Go.Shelf

def namesW (l : List UInt8) : List W9 := (cutB 47 l).filterMap fun p => nameW ⟨⟨p⟩⟩
def partsB (l : List UInt8) : List ByteArray := (cutB 47 l).map fun p => ⟨⟨p⟩⟩
def hasB (g s : List UInt8) : Bool := globOkB g && (pathB s && mat9 (namesW g) (partsB s))
theorem filter_some {α β : Type} (l : List α) (f : α → Option β) (xs : List β) (h : l.map f = xs.map some) : l.filterMap f = xs := by
  rw [show l.filterMap f = (l.map f).filterMap id by simp [List.filterMap_map], h]
  simp [List.filterMap_map]
theorem namesW_ok {l : List UInt8} (h : globOkB l = true) : (cutB 47 l).map (fun p => nameW ⟨⟨p⟩⟩) = (namesW l).map some := by
  unfold globOkB at h
  rw [Bool.and_eq_true] at h
  have hall := List.all_eq_true.1 h.2
  unfold namesW
  generalize cutB 47 l = ps at hall
  induction ps with
  | nil => rfl
  | cons p ps ih =>
    have hp := hall p (List.mem_cons_self ..)
    have : (nameW ⟨⟨p⟩⟩).isSome = true := by rw [nameW_globbed]; exact hp
    obtain ⟨x, hx⟩ := Option.isSome_iff_exists.1 this
    rw [List.map_cons, List.filterMap_cons, hx, ih (fun q hq => hall q (List.mem_cons_of_mem _ hq))]
    rfl
theorem wantsF_length : ∀ (f : Nat) (s : ByteArray) (xs : List W8), wantsF f s = some xs → xs.length ≤ s.size := by
  intro f
  induction f with
  | zero => intro s xs h; unfold wantsF at h; split at h <;> cases h; simp
  | succ f ih =>
    intro s xs h
    unfold wantsF at h
    split at h
    · rename_i h0
      cases hf : firstR s s[0] with
      | none => rw [hf] at h; cases h
      | some p =>
        obtain ⟨x, n⟩ := p
        rw [hf] at h
        have hn := firstR_le h0 hf
        simp only [Option.map_eq_some_iff] at h
        obtain ⟨ys, hy, rfl⟩ := h
        have := ih _ _ hy
        rw [ByteArray.size_extract] at this
        simp; omega
    · cases h; simp
theorem nameW_small {g : ByteArray} {x : W9} (h : nameW g = some x) (hg : g.size ≤ 1000) : small9 x := by
  rcases x with _ | ys
  · trivial
  · exact Nat.le_trans (wantsF_length _ _ _ (nameW_name h).2) hg
theorem mat_vals : ∀ (xs : List W9) (ys : List Str), matchO (xs.map opt9) ys = mat9 xs (ys.map (·.1)) := by
  intro xs
  induction xs with
  | nil => intro ys; cases ys <;> rfl
  | cons x xs ih =>
    intro ys
    rcases x with _ | zs
    · induction ys with
      | nil => exact ih []
      | cons y ys ih2 =>
        have h1 := ih (y :: ys)
        show (matchO (xs.map opt9) (y :: ys) || matchO ((W9.deep :: xs).map opt9) ys) = (mat9 xs (y.1 :: ys.map (·.1)) || mat9 (.deep :: xs) (ys.map (·.1)))
        rw [h1, ih2]; rfl
    · cases ys with
      | nil => rfl
      | cons y ys =>
        show (matchO (zs.map opt8) y.1.data.toList && matchO (xs.map opt9) ys) = (fitB zs y.1 && mat9 xs (ys.map (·.1)))
        rw [ih]; rfl
theorem parts_vals {l : List UInt8} {ys : List Str} (h : vals ys = cutB 47 l) : ys.map (·.1) = partsB l := by
  unfold partsB
  rw [← h]
  simp [vals, Function.comp_def]
theorem parts_datas {l : List UInt8} {ys : List ByteArray} (h : datas ys = cutB 47 l) : ys = partsB l := by
  unfold partsB
  rw [← h]
  simp [datas, Function.comp_def]

theorem partsOf_any (s : ByteArray) (m : Int) (w : World) : Calls Try.prog 79 #[.string s, .int .u8 m] w fun e w' => e = .returned (.func (.func 108) #[] #[.pointer (some ⟨w.heap.size, 0, none⟩), .pointer (some ⟨w.heap.size + 1, 0, none⟩)]) ∧ w' = (w.alloc (.cells #[.string s] 9)).alloc (.cells #[.int .u8 m] 5) :=
  (callsIn_wide (n := 1)).1 (partsOf_in Fence.wide _ trivial rfl s m w)
theorem eg36 : ∀ args w, (callFunc 106 args).run Try.prog w = .ok (.enter 106 args) w := enters_of Try.func106 (by kernel_rfl) rfl

theorem strsAt_of {W W' : World} {base : Nat} {v : Value} {xs : List ByteArray} (h : W.ownsRow base 9 1 v xs.length (xs.map Value.string)) (hne : xs ≠ []) (hb : Below W.heap.size W W') : StrsAt W' v xs := by
  rcases h.2 with ⟨rfl, h0⟩ | ⟨g, cap, cur, rfl, _, hg, hc, _, hsz, hcells⟩
  · exact absurd (List.length_eq_zero_iff.1 h0) hne
  · refine ⟨g, 0, cap, rfl, hc, fun i x hi => ?_⟩
    have hil : i < xs.length := (List.getElem?_eq_some_iff.1 hi).1
    have h1 : (cur.toList.take (xs.length * 1))[i]? = some (.string x) := by rw [hcells, List.getElem?_map, hi]; rfl
    rw [List.getElem?_take_of_lt (by omega), Array.getElem?_toList] at h1
    simp only [Nat.zero_add]
    refine (hb.cell (p := ⟨g, i, none⟩) (Array.getElem?_eq_some_iff.1 hg).1).trans ?_
    simp [World.cell?, hg, h1]

set_option maxRecDepth 100000 in
set_option maxHeartbeats 4000000 in
theorem specGlobHas_any (g s : ByteArray) (hg : g.size ≤ 1048576) (hs : s.size ≤ 1048576) (w : World) :
    Calls Try.prog 75 #[.string g, .string s] w fun e w' => e = .returned (.bool (hasB g.data.toList s.data.toList)) ∧ Below w.heap.size w w' := by
  cases ho : globOkB g.data.toList
  · have E := hid (show hasB g.data.toList s.data.toList = false by unfold hasB; rw [ho]; rfl)
    go_enter Try.func75, Try.ntmps75
    go_wp2_with fail
    refine (specGlobOk_any g hg _).mono ?_
    rintro e w1 ⟨rfl, hb⟩
    have HB := hid hb
    clear hb
    rw [ho]
    go_wp2_with fail
    go_ret
    exact ⟨by rw [unhid E]; rfl, unhid HB⟩
  · cases hp : pathB s.data.toList
    · have E := hid (show hasB g.data.toList s.data.toList = false by unfold hasB; rw [ho, hp]; rfl)
      go_enter Try.func75, Try.ntmps75
      go_wp2_with fail
      refine (specGlobOk_any g hg _).mono ?_
      rintro e w1 ⟨rfl, hb⟩
      have HB := hid hb
      clear hb
      rw [ho]
      go_wp2_with fail
      refine (l1Path_any s hs _).mono ?_
      rintro e w2 ⟨rfl, hb⟩
      have HB2 := hid ((unhid HB).trans (hb.mono (unhid HB).size))
      clear hb
      rw [hp]
      go_wp2_with fail
      go_ret
      exact ⟨by rw [unhid E]; rfl, unhid HB2⟩
    · have E := hid (show hasB g.data.toList s.data.toList = mat9 (namesW g.data.toList) (partsB s.data.toList) by unfold hasB; rw [ho, hp]; rfl)
      have HW := hid (namesW_ok ho)
      go_enter Try.func75, Try.ntmps75
      go_wp2_with fail
      refine (specGlobOk_any g hg _).mono ?_
      rintro e w1 ⟨rfl, hb⟩
      have HB := hid hb
      clear hb
      rw [ho]
      go_wp2_with fail
      refine (l1Path_any s hs _).mono ?_
      rintro e w2 ⟨rfl, hb⟩
      have HB2 := hid ((unhid HB).trans (hb.mono (unhid HB).size))
      clear hb
      rw [hp]
      go_wp2_with fail
      refine (l1Cut_any g 47 _ hg (by omega) (by omega) _).mono ?_
      rintro e w3 ⟨v, xs, rfl, hxs, hown, hb⟩
      have HB3 := hid ((unhid HB2).trans (hb.mono (unhid HB2).size))
      have HO := hid (And.intro hxs hown)
      clear hb hxs hown
      go_wp2_with fail
      refine (l1Cut_any s 47 _ hs (by omega) (by omega) _).mono ?_
      rintro e w4 ⟨v2, xs2, rfl, hxs2, hown2, hb⟩
      have HB34 := hid hb
      have HB4 := hid ((unhid HB3).trans (hb.mono (unhid HB3).size))
      have HO2 := hid (And.intro hxs2 hown2)
      clear hb hxs2 hown2
      go_wp2_with fail
      obtain ⟨hxs, hown⟩ := unhid HO
      obtain ⟨hxs2, hown2⟩ := unhid HO2
      have hne : xs ≠ [] := by rintro rfl; exact cutB_ne _ _ hxs.symm
      have hne2 : xs2 ≠ [] := by rintro rfl; exact cutB_ne _ _ hxs2.symm
      have small : ∀ (l : ByteArray) (zs : List ByteArray), l.size ≤ 1048576 → datas zs = cutB 47 l.data.toList → (∀ x ∈ zs, x.size ≤ 1048576) ∧ zs.length ≤ 1048577 := fun l zs hl hz => by
        constructor
        · intro x hx
          have h1 : x.data.toList ∈ cutB 47 l.data.toList := by rw [← hz]; exact List.mem_map.2 ⟨x, hx, rfl⟩
          have h2 := cutB_le 47 _ _ h1
          rw [← Lib.size_eq, ← Lib.size_eq] at h2
          omega
        · have := cutB_length 47 l.data.toList
          rw [← hz, ← Lib.size_eq] at this
          simp [datas] at this
          omega
      obtain ⟨s1, s2⟩ := small g xs hg hxs
      obtain ⟨s3, s4⟩ := small s xs2 hs hxs2
      refine (l1Match_any (xs.length + xs2.length) xs xs2 (namesW g.data.toList) v v2 w4 (Nat.le_refl _) (by omega) s1 s3 ?_ (strsAt_of hown hne (unhid HB34)) (strsAt_of hown2 hne2 (Below.refl _ _))).mono ?_
      · rw [← unhid HW, ← hxs]; simp [datas, Function.comp_def]
      rintro e w5 ⟨rfl, n, rfl⟩
      have EM := hid (show mat9 (namesW g.data.toList) xs2 = hasB g.data.toList s.data.toList by rw [unhid E, parts_datas hxs2])
      clear hxs hown hxs2 hown2 hne hne2 small s1 s2 s3 s4
      rw [unhid EM]
      go_wp2_with fail
      go_ret
      exact ⟨rfl, (unhid HB4).trans (below_drewN _ _)⟩
end Go.Proofs.Ytaefjibnnbdaaaa

/- Entries that are moved: no two come to one place. -/
namespace Go.Proofs.Ytaefjibnnbdaaaa
open Go.RowKit Go.Shelf

def movedP (p q s : ByteArray) : ByteArray := q ++ s.extract p.size s.size
def mvS (p q : ByteArray) (e : Ent) : Ent := if belowB p.data.toList e.path.data.toList then { e with path := movedP p q e.path } else e
def mvAllS (p q : ByteArray) (es : List Ent) : Bool := es.all fun e => pathB (mvS p q e).path.data.toList
theorem sort_put : ∀ xs : List Ent, (xs.map (·.path)).Nodup → sortL xs = putAll xs := snoc_ind (fun _ => rfl) (fun xs x ih h => by
  rw [List.map_append, List.nodup_append] at h
  rw [sortL_snoc, putAll_snoc, ih h.1]
  have ht : thereE (putAll xs) x.path = false := by
    cases ht : thereE (putAll xs) x.path
    · rfl
    · obtain ⟨e, he, hp⟩ := there_get ht
      have hm := putAll_mem xs e (List.mem_of_getElem? he)
      exact absurd hp (h.2.2 e.path (List.mem_map.2 ⟨e, hm, rfl⟩) x.path (by simp))
  unfold putT; rw [ht]; rfl)
theorem bytes_ext {a b : ByteArray} (h : a.data.toList = b.data.toList) : a = b := by apply ByteArray.ext; exact Array.ext' h
theorem movedP_list (p q s : ByteArray) : (movedP p q s).data.toList = q.data.toList ++ s.data.toList.drop p.data.toList.length := by
  unfold movedP; rw [data_app, drop_size]
theorem below_drop {p s : List UInt8} (h : belowB p s = true) : s = p ++ s.drop p.length ∧ (s.drop p.length = [] ∨ ∃ t, s.drop p.length = 47 :: t) := by
  rcases belowB_cases h with rfl | ⟨t, rfl⟩
  · simp
  · simp
theorem movedP_inj {p q s s' : ByteArray} (h : belowB p.data.toList s.data.toList = true) (h' : belowB p.data.toList s'.data.toList = true) (he : movedP p q s = movedP p q s') : s = s' := by
  apply bytes_ext
  have h1 := congrArg (fun x => x.data.toList) he
  simp only [movedP_list] at h1
  have h2 := List.append_cancel_left h1
  rw [(below_drop h).1, (below_drop h').1, h2]
theorem movedP_below {p q s : ByteArray} (h : belowB p.data.toList s.data.toList = true) : belowB q.data.toList (movedP p q s).data.toList = true := by
  rw [movedP_list]
  rcases (below_drop h).2 with h1 | ⟨t, h1⟩
  · rw [h1, List.append_nil]; exact belowB_refl _
  · rw [h1]; exact belowB_app _ _
theorem moved_nodup {es : List Ent} {p q : ByteArray} (ht : treeB es = true) (hq : pathB q.data.toList = true) (hno : thereE es q = false) : ((es.map (mvS p q)).map (·.path)).Nodup := by
  have hup := asc_up (tree_asc ht)
  have hnot : ∀ e ∈ es, ∀ s : ByteArray, belowB p.data.toList s.data.toList = true → e.path ≠ movedP p q s := fun e he s hs heq => by
    have h1 : inB q.data.toList e.path.data.toList = true := by
      unfold inB; rw [hq, ent_pathB (tree_all ht e he), heq, movedP_below hs]; rfl
    rw [in_there ht _ e he (Nat.le_refl _) h1] at hno; cases hno
  rw [List.map_map, List.Nodup, List.pairwise_map]
  refine List.Pairwise.imp_of_mem (fun {x y} hx hy hxy => ?_) hup
  have hne : x.path ≠ y.path := fun e => by rw [e] at hxy; rw [show ltS y.path y.path = false from lt_irr _] at hxy; cases hxy
  show (mvS p q x).path ≠ (mvS p q y).path
  unfold mvS
  cases h1 : belowB p.data.toList x.path.data.toList <;> cases h2 : belowB p.data.toList y.path.data.toList
  · exact hne
  · exact hnot x hx y.path h2
  · exact fun e => hnot y hy x.path h1 e.symm
  · exact fun e => hne (movedP_inj h1 h2 e)
/-- What the model asks of a move. -/
def mayS (es : List Ent) (p q : ByteArray) : Bool := thereE es p && (!thereE es q && (pathB q.data.toList && (!belowB p.data.toList q.data.toList && dirE es (upS q))))
theorem may_eq {es : List Ent} {p q : ByteArray} (ht : treeB es = true) : mayB es p q = mayS es p q := by
  unfold mayB mayS
  cases h1 : thereE es p
  · rfl
  · obtain ⟨x, hx, hxp⟩ := there_get h1
    have hp : pathB p.data.toList = true := by rw [← hxp]; exact ent_pathB (tree_ent ht hx)
    cases h2 : thereE es q
    · cases h3 : pathB q.data.toList
      · rfl
      · unfold inB pathUpS; rw [hp, h3]; rfl
    · rfl
theorem place_eq {es : List Ent} {p q : ByteArray} (ht : treeB es = true) (hp : pathB p.data.toList = true) (hq : pathB q.data.toList = true) {e : Ent} (he : e ∈ es) : (!(placeM p q e).toList.isEmpty) = pathB (mvS p q e).path.data.toList ∧ (pathB (mvS p q e).path.data.toList = true → mvE p q e = mvS p q e) := by
  have hpe := ent_pathB (tree_all ht e he)
  have hib : inB p.data.toList e.path.data.toList = belowB p.data.toList e.path.data.toList := by unfold inB; rw [hp, hpe]; rfl
  unfold mvE placeM mvS
  rw [hib]
  cases h1 : belowB p.data.toList e.path.data.toList
  · refine ⟨?_, fun _ => rfl⟩
    have := pathB_ne _ hpe
    simp only [Bool.false_eq_true, if_false]
    rw [hpe, Lib.toList_data]
    simpa using this
  · simp only [if_true]
    have hm : moveS e.path p q = if pathB (movedP p q e.path).data.toList then movedP p q e.path else ⟨#[]⟩ := by
      unfold moveS; rw [hib, h1, hq]; rfl
    rw [hm]
    cases h2 : pathB (movedP p q e.path).data.toList
    · refine ⟨by simp [Lib.toList_data], fun h => by cases h⟩
    · refine ⟨?_, fun _ => rfl⟩
      have := pathB_ne _ h2
      simp only [if_true]
      rw [Lib.toList_data]
      simpa using this
theorem move_spec {es : List Ent} {p q : ByteArray} (ht : treeB es = true) : moveOk p q es = (mayS es p q && mvAllS p q es) ∧ moveR p q es = if (mayS es p q && mvAllS p q es) then sortL (es.map (mvS p q)) else es := by
  unfold moveR moveOk
  rw [keptE_yes ht, may_eq ht]
  cases hm : mayS es p q
  · exact ⟨rfl, rfl⟩
  · unfold mayS at hm
    simp only [Bool.and_eq_true, Bool.not_eq_true'] at hm
    obtain ⟨h1, h2, hq, _⟩ := hm
    obtain ⟨x, hx, hxp⟩ := there_get h1
    have hp : pathB p.data.toList = true := by rw [← hxp]; exact ent_pathB (tree_ent ht hx)
    have hall : moveAll p q es = mvAllS p q es := by
      unfold moveAll mvAllS
      rw [Bool.eq_iff_iff, List.all_eq_true, List.all_eq_true]
      exact ⟨fun h e he => by rw [← (place_eq ht hp hq he).1]; exact h e he, fun h e he => by rw [(place_eq ht hp hq he).1]; exact h e he⟩
    rw [hall]
    refine ⟨rfl, ?_⟩
    cases h3 : mvAllS p q es
    · rfl
    · have hmap : es.map (mvE p q) = es.map (mvS p q) := List.map_congr_left (fun e he => (place_eq ht hp hq he).2 (List.all_eq_true.1 h3 e he))
      simp only [Bool.and_self, if_true]
      rw [hmap, sort_put _ (moved_nodup ht hq h2)]
end Go.Proofs.Ytaefjibnnbdaaaa

/- A place of a tree moved, by the model. -/
namespace Go.Proofs.Ytaefjibnnbdaaaa
open Go.RowKit Go.Shelf

def mvTo (p q : ByteArray) (es : List Ent) (k : Nat) : List Ent := (es.take k).map (mvS p q)
def moveL (p q : ByteArray) (es : List Ent) : List Ent := if (mayS es p q && mvAllS p q es) then sortL (es.map (mvS p q)) else es

set_option maxRecDepth 100000 in
set_option maxHeartbeats 8000000 in
theorem l2Move_any (es : List Ent) (p q : ByteArray) (b o cap : Nat) (w : World) (htb : treeB es = true) (hp : p.size ≤ 1048576) (hq : q.size ≤ 1048576) (h : ∀ (i : Nat) e, es[i]? = some e → EntAt w b (o + i * 4) e) (hb : b < w.heap.size) :
    Calls Try.prog 58 #[.slice (some ⟨b, o, none⟩) es.length cap, .string p, .string q] w fun x w' => ∃ v, x = .returned (.tuple #[v, .bool (mayS es p q && mvAllS p q es)]) ∧ w'.ownsRow w.heap.size 27 4 v (moveL p q es).length (valsOf (moveL p q es)) ∧ Below w.heap.size w w' := by
  obtain ⟨i0, hi0, hz0, hzs, hzb⟩ := info_parts infoEntry
  have HI := hid (And.intro hi0 (And.intro hz0 (And.intro hzs hzb)))
  have hl16 := tree_16 htb
  have H := hid h
  clear h hi0 hz0 hzs hzb
  cases h1 : thereE es p
  · have E := hid (show (mayS es p q && mvAllS p q es) = false ∧ moveL p q es = es by unfold moveL; rw [show mayS es p q = false by simp [mayS, h1]]; exact ⟨rfl, rfl⟩)
    go_enter Try.func58, Try.ntmps58
    go_wp2_with fail
    refine (l2At_any es _ _ p w (by omega) (.inr ⟨b, o, rfl, hb, unhid H⟩)).mono ?_
    rintro x w1 ⟨rfl, n1, e1⟩
    rw [h1]
    have hB1 : Below w.heap.size w w1 := by rw [e1]; exact drewN_below _ _
    have H1 := hid (show Below w.heap.size w w1 ∧ ∀ (i : Nat) e, es[i]? = some e → EntAt w1 b (o + i * 4) e from ⟨hB1, entAt_below (unhid H) (.inr hb) hB1⟩)
    have hb1 : b < w1.heap.size := Nat.lt_of_lt_of_le hb hB1.size
    clear hB1 e1 n1
    go_wp2_with fail
    refine (l2At_any es _ _ q w1 (by omega) (.inr ⟨b, o, rfl, hb1, (unhid H1).2⟩)).mono ?_
    rintro x w2 ⟨rfl, n2, e2⟩
    have hB2 : Below w1.heap.size w1 w2 := by rw [e2]; exact drewN_below _ _
    have H2 := hid (show Below w.heap.size w w2 ∧ ∀ (i : Nat) e, es[i]? = some e → EntAt w2 b (o + i * 4) e from ⟨(unhid H1).1.trans (hB2.mono (unhid H1).1.size), entAt_below (unhid H1).2 (.inr hb1) hB2⟩)
    have hb2 : b < w2.heap.size := Nat.lt_of_lt_of_le hb1 hB2.size
    clear hB2 e2 n2 H1 hb1
    go_wp2_with fail
    refine (l2Copy_any es b o cap w2 (by omega) (unhid H2).2 (.inr hb2)).mono ?_
    rintro x w9 ⟨v, rfl, hown, hB⟩
    obtain ⟨va, vc, rfl⟩ := ownsRow_slice hown
    have HF := hid (And.intro (ownsRow_base hown (unhid H2).1.size) ((unhid H2).1.trans (hB.mono (unhid H2).1.size)))
    clear hown hB
    go_wp2_with fail
    go_ret2
    exact ⟨_, by rw [(unhid E).1]; rfl, by rw [(unhid E).2]; exact (unhid HF).1, (unhid HF).2⟩

  · cases h2 : thereE es q
    · cases h3 : pathB q.data.toList
      · have E := hid (show (mayS es p q && mvAllS p q es) = false ∧ moveL p q es = es by unfold moveL; rw [show mayS es p q = false by simp [mayS, h1, h2, h3]]; exact ⟨rfl, rfl⟩)
        go_enter Try.func58, Try.ntmps58
        go_wp2_with fail
        refine (l2At_any es _ _ p w (by omega) (.inr ⟨b, o, rfl, hb, unhid H⟩)).mono ?_
        rintro x w1 ⟨rfl, n1, e1⟩
        rw [h1]
        have hB1 : Below w.heap.size w w1 := by rw [e1]; exact drewN_below _ _
        have H1 := hid (show Below w.heap.size w w1 ∧ ∀ (i : Nat) e, es[i]? = some e → EntAt w1 b (o + i * 4) e from ⟨hB1, entAt_below (unhid H) (.inr hb) hB1⟩)
        have hb1 : b < w1.heap.size := Nat.lt_of_lt_of_le hb hB1.size
        clear hB1 e1 n1
        go_wp2_with fail
        refine (l2At_any es _ _ q w1 (by omega) (.inr ⟨b, o, rfl, hb1, (unhid H1).2⟩)).mono ?_
        rintro x w2 ⟨rfl, n2, e2⟩
        have hB2 : Below w1.heap.size w1 w2 := by rw [e2]; exact drewN_below _ _
        have H2 := hid (show Below w.heap.size w w2 ∧ ∀ (i : Nat) e, es[i]? = some e → EntAt w2 b (o + i * 4) e from ⟨(unhid H1).1.trans (hB2.mono (unhid H1).1.size), entAt_below (unhid H1).2 (.inr hb1) hB2⟩)
        have hb2 : b < w2.heap.size := Nat.lt_of_lt_of_le hb1 hB2.size
        clear hB2 e2 n2 H1 hb1
        rw [h2]
        go_wp2_with fail
        refine (l1Path_any q hq w2).mono ?_
        rintro x w3 ⟨rfl, hB⟩
        rw [h3]
        have H3 := hid (show Below w.heap.size w w3 ∧ ∀ (i : Nat) e, es[i]? = some e → EntAt w3 b (o + i * 4) e from ⟨(unhid H2).1.trans (hB.mono (unhid H2).1.size), entAt_below (unhid H2).2 (.inr hb2) hB⟩)
        have hb3 : b < w3.heap.size := Nat.lt_of_lt_of_le hb2 hB.size
        clear hB H2 hb2
        go_wp2_with fail
        refine (l2Copy_any es b o cap w3 (by omega) (unhid H3).2 (.inr hb3)).mono ?_
        rintro x w9 ⟨v, rfl, hown, hB⟩
        obtain ⟨va, vc, rfl⟩ := ownsRow_slice hown
        have HF := hid (And.intro (ownsRow_base hown (unhid H3).1.size) ((unhid H3).1.trans (hB.mono (unhid H3).1.size)))
        clear hown hB
        go_wp2_with fail
        go_ret2
        exact ⟨_, by rw [(unhid E).1]; rfl, by rw [(unhid E).2]; exact (unhid HF).1, (unhid HF).2⟩

      · have hq54 := pathB_size _ h3
        rw [← Lib.size_eq] at hq54
        cases h4 : belowB p.data.toList q.data.toList
        · cases h5 : dirE es (upS q)
          · have E := hid (show (mayS es p q && mvAllS p q es) = false ∧ moveL p q es = es by unfold moveL; rw [show mayS es p q = false by simp [mayS, h1, h2, h3, h4, h5]]; exact ⟨rfl, rfl⟩)
            go_enter Try.func58, Try.ntmps58
            go_wp2_with fail
            refine (l2At_any es _ _ p w (by omega) (.inr ⟨b, o, rfl, hb, unhid H⟩)).mono ?_
            rintro x w1 ⟨rfl, n1, e1⟩
            rw [h1]
            have hB1 : Below w.heap.size w w1 := by rw [e1]; exact drewN_below _ _
            have H1 := hid (show Below w.heap.size w w1 ∧ ∀ (i : Nat) e, es[i]? = some e → EntAt w1 b (o + i * 4) e from ⟨hB1, entAt_below (unhid H) (.inr hb) hB1⟩)
            have hb1 : b < w1.heap.size := Nat.lt_of_lt_of_le hb hB1.size
            clear hB1 e1 n1
            go_wp2_with fail
            refine (l2At_any es _ _ q w1 (by omega) (.inr ⟨b, o, rfl, hb1, (unhid H1).2⟩)).mono ?_
            rintro x w2 ⟨rfl, n2, e2⟩
            have hB2 : Below w1.heap.size w1 w2 := by rw [e2]; exact drewN_below _ _
            have H2 := hid (show Below w.heap.size w w2 ∧ ∀ (i : Nat) e, es[i]? = some e → EntAt w2 b (o + i * 4) e from ⟨(unhid H1).1.trans (hB2.mono (unhid H1).1.size), entAt_below (unhid H1).2 (.inr hb1) hB2⟩)
            have hb2 : b < w2.heap.size := Nat.lt_of_lt_of_le hb1 hB2.size
            clear hB2 e2 n2 H1 hb1
            rw [h2]
            go_wp2_with fail
            refine (l1Path_any q hq w2).mono ?_
            rintro x w3 ⟨rfl, hB⟩
            rw [h3]
            have H3 := hid (show Below w.heap.size w w3 ∧ ∀ (i : Nat) e, es[i]? = some e → EntAt w3 b (o + i * 4) e from ⟨(unhid H2).1.trans (hB.mono (unhid H2).1.size), entAt_below (unhid H2).2 (.inr hb2) hB⟩)
            have hb3 : b < w3.heap.size := Nat.lt_of_lt_of_le hb2 hB.size
            clear hB H2 hb2
            go_wp2_with fail
            refine (l1Below_any p q (by unfold maxLen; omega) (by unfold maxLen; omega) w3).mono ?_
            rintro x w4 ⟨rfl, e4⟩
            subst e4
            rw [h4]
            go_wp2_with fail
            refine (l1Up_any q (by unfold maxLen; omega) w4).mono ?_
            rintro x w5 ⟨rfl, e5⟩
            subst e5
            go_wp2_with fail
            refine (l2Dir_any es _ cap (upS q) w5 (by omega) (.inr ⟨b, o, rfl, hb3, (unhid H3).2⟩)).mono ?_
            rintro x w6 ⟨rfl, n6, e6⟩
            have hB : Below w5.heap.size w5 w6 := by rw [e6]; exact drewN_below _ _
            rw [h5]
            have H6 := hid (show Below w.heap.size w w6 ∧ ∀ (i : Nat) e, es[i]? = some e → EntAt w6 b (o + i * 4) e from ⟨(unhid H3).1.trans (hB.mono (unhid H3).1.size), entAt_below (unhid H3).2 (.inr hb3) hB⟩)
            have hb6 : b < w6.heap.size := Nat.lt_of_lt_of_le hb3 hB.size
            clear hB H3 hb3 e6 n6
            go_wp2_with fail
            refine (l2Copy_any es b o cap w6 (by omega) (unhid H6).2 (.inr hb6)).mono ?_
            rintro x w9 ⟨v, rfl, hown, hB⟩
            obtain ⟨va, vc, rfl⟩ := ownsRow_slice hown
            have HF := hid (And.intro (ownsRow_base hown (unhid H6).1.size) ((unhid H6).1.trans (hB.mono (unhid H6).1.size)))
            clear hown hB
            go_wp2_with fail
            go_ret2
            exact ⟨_, by rw [(unhid E).1]; rfl, by rw [(unhid E).2]; exact (unhid HF).1, (unhid HF).2⟩

          · have E := hid (show (mayS es p q && mvAllS p q es) = mvAllS p q es ∧ moveL p q es = (if mvAllS p q es then sortL (es.map (mvS p q)) else es) by unfold moveL; rw [show mayS es p q = true by simp [mayS, h1, h2, h3, h4, h5]]; exact ⟨rfl, rfl⟩)
            go_enter Try.func58, Try.ntmps58
            go_wp2_with fail
            refine (l2At_any es _ _ p w (by omega) (.inr ⟨b, o, rfl, hb, unhid H⟩)).mono ?_
            rintro x w1 ⟨rfl, n1, e1⟩
            rw [h1]
            have hB1 : Below w.heap.size w w1 := by rw [e1]; exact drewN_below _ _
            have H1 := hid (show Below w.heap.size w w1 ∧ ∀ (i : Nat) e, es[i]? = some e → EntAt w1 b (o + i * 4) e from ⟨hB1, entAt_below (unhid H) (.inr hb) hB1⟩)
            have hb1 : b < w1.heap.size := Nat.lt_of_lt_of_le hb hB1.size
            clear hB1 e1 n1
            go_wp2_with fail
            refine (l2At_any es _ _ q w1 (by omega) (.inr ⟨b, o, rfl, hb1, (unhid H1).2⟩)).mono ?_
            rintro x w2 ⟨rfl, n2, e2⟩
            have hB2 : Below w1.heap.size w1 w2 := by rw [e2]; exact drewN_below _ _
            have H2 := hid (show Below w.heap.size w w2 ∧ ∀ (i : Nat) e, es[i]? = some e → EntAt w2 b (o + i * 4) e from ⟨(unhid H1).1.trans (hB2.mono (unhid H1).1.size), entAt_below (unhid H1).2 (.inr hb1) hB2⟩)
            have hb2 : b < w2.heap.size := Nat.lt_of_lt_of_le hb1 hB2.size
            clear hB2 e2 n2 H1 hb1
            rw [h2]
            go_wp2_with fail
            refine (l1Path_any q hq w2).mono ?_
            rintro x w3 ⟨rfl, hB⟩
            rw [h3]
            have H3 := hid (show Below w.heap.size w w3 ∧ ∀ (i : Nat) e, es[i]? = some e → EntAt w3 b (o + i * 4) e from ⟨(unhid H2).1.trans (hB.mono (unhid H2).1.size), entAt_below (unhid H2).2 (.inr hb2) hB⟩)
            have hb3 : b < w3.heap.size := Nat.lt_of_lt_of_le hb2 hB.size
            clear hB H2 hb2
            go_wp2_with fail
            refine (l1Below_any p q (by unfold maxLen; omega) (by unfold maxLen; omega) w3).mono ?_
            rintro x w4 ⟨rfl, e4⟩
            subst e4
            rw [h4]
            go_wp2_with fail
            refine (l1Up_any q (by unfold maxLen; omega) w4).mono ?_
            rintro x w5 ⟨rfl, e5⟩
            subst e5
            go_wp2_with fail
            refine (l2Dir_any es _ cap (upS q) w5 (by omega) (.inr ⟨b, o, rfl, hb3, (unhid H3).2⟩)).mono ?_
            rintro x w6 ⟨rfl, n6, e6⟩
            have hB : Below w5.heap.size w5 w6 := by rw [e6]; exact drewN_below _ _
            rw [h5]
            have H6 := hid (show Below w.heap.size w w6 ∧ ∀ (i : Nat) e, es[i]? = some e → EntAt w6 b (o + i * 4) e from ⟨(unhid H3).1.trans (hB.mono (unhid H3).1.size), entAt_below (unhid H3).2 (.inr hb3) hB⟩)
            have hb6 : b < w6.heap.size := Nat.lt_of_lt_of_le hb3 hB.size
            clear hB H3 hb3 e6 n6
            go_wp2_with fail
            have HF0 := hid (owns_empty w6 w6.heap.size (Nat.le_refl _) 27)
            have hw6 : w.heap.size ≤ w6.heap.size := (unhid H6).1.size
            go_loopw [12, 13] (fun v i wr => ∃ k : Nat, k ≤ es.length ∧ i = .int .i64 (k : Int) ∧ (∃ g c, v = .slice (some ⟨g, 0, none⟩) k c) ∧ Hid (wr.ownsRow w6.heap.size 27 4 v k (valsOf (mvTo p q es k))) ∧ Hid (mvAllS p q (es.take k) = true) ∧ Hid (Below w6.heap.size w6 wr)) (fun _ i _ => es.length - (intOf i).toNat)
            case atStart => exact ⟨0, Nat.zero_le _, rfl, ⟨_, 0, rfl⟩, hid (unhid HF0), hid rfl, hid ((Below.refl _ _).alloc (Nat.le_refl _) _)⟩
            case round =>
              obtain ⟨k, hk, rfl, ⟨g, c, rfl⟩, HO, HA, HB6⟩ := hrel
              by_cases hlt : k < es.length
              · obtain ⟨e, he⟩ : ∃ e, es[k]? = some e := ⟨es[k], List.getElem?_eq_getElem hlt⟩
                have hem := List.mem_of_getElem? he
                have hpe := pathB_size _ (ent_pathB (tree_all htb e hem))
                rw [← Lib.size_eq] at hpe
                obtain ⟨c0, c1, c2, c3⟩ := ((unhid H6).2 k e he).below (unhid HB6) hb6
                have hsz : w6.heap.size ≤ wr.heap.size := (unhid HB6).size
                have htk : mvTo p q es (k + 1) = mvTo p q es k ++ [mvS p q e] := by unfold mvTo; rw [List.take_add_one, he, List.map_append]; rfl
                have hal : mvAllS p q (es.take (k + 1)) = (mvAllS p q (es.take k) && pathB (mvS p q e).path.data.toList) := by unfold mvAllS; rw [List.take_add_one, he, List.all_append]; simp
                have HTK := hid htk
                have HAL := hid hal
                have HE := hid he
                obtain ⟨W1, hW1⟩ : ∃ W1, W1 = wr.alloc (.cells #[.string e.path, .int .i64 e.kind, .int .i64 e.mode, .string e.text] 27) := ⟨_, rfl⟩
                have hbx : W1.heap[wr.heap.size]? = some (.cells #[.string e.path, .int .i64 e.kind, .int .i64 e.mode, .string e.text] 27 (0, 0)) := by rw [hW1]; exact World.alloc_heap_new _ _
                have hBW : Below wr.heap.size wr W1 := by rw [hW1]; exact (Below.refl _ wr).alloc (Nat.le_refl _) _
                have hO1 := ownsRow_kept (unhid HO) (fun g eg => hBW.block g ((unhid HO).lt g eg).2)
                have hgne : g ≠ wr.heap.size := fun eg => by have := ((unhid HO).lt g rfl).2; omega
                have HB61 := hid ((unhid HB6).trans (hBW.mono (unhid HB6).size))
                obtain ⟨⟨d0, d1, d2, d3⟩, f0, f1, f2, f3⟩ := four_cells hbx
                have HX1 := hid hbx
                have HO1 := hid hO1
                have hz1 : wr.heap.size < W1.heap.size := (Array.getElem?_eq_some_iff.1 hbx).1
                have HW1 := hid hW1
                rw [hW1] at d0 d1 d2 d3 f0 f1 f2 f3
                clear he hem hBW hO1 HB6 hbx htk hal hW1
                cases hbl : belowB p.data.toList e.path.data.toList
                · have hmv : mvS p q e = e := by unfold mvS; rw [hbl]; rfl
                  have hpb : pathB e.path.data.toList = true := ent_pathB (tree_all htb e (List.mem_of_getElem? (unhid HE)))
                  rw [hmv] at HTK HAL
                  go_wp2_with fail
                  rw [← unhid HW1]
                  refine (l1Below_any p e.path (by unfold maxLen; omega) (by unfold maxLen; omega) W1).mono ?_
                  rintro x W2 ⟨rfl, e2⟩
                  subst e2
                  rw [hbl]
                  obtain ⟨⟨d0, d1, d2, d3⟩, f0, f1, f2, f3⟩ := four_cells (unhid HX1)
                  go_wp2_with fail
                  refine (l1Path_any e.path (by omega) W2).mono ?_
                  rintro x W3 ⟨rfl, hB⟩
                  rw [hpb]
                  have HAN := hid (show mvAllS p q (es.take (k + 1)) = true by rw [unhid HAL, unhid HA, hpb]; rfl)
                  have hO3 := ownsRow_kept (unhid HO1) (fun g eg => hB.block g ((unhid HO1).lt g eg).2)
                  have hX3 := (hB.block _ hz1).trans (unhid HX1)
                  have hB63 := (unhid HB61).trans (hB.mono (unhid HB61).size)
                  obtain ⟨⟨d0, d1, d2, d3⟩, -⟩ := four_cells hX3
                  have hz3 : w6.heap.size ≤ W3.heap.size := hB63.size
                  have HO3 := hid (hO3.alloc (.cells #[.string e.path, .int .i64 e.kind, .int .i64 e.mode, .string e.text] 27))
                  have HB3 := hid (hB63.alloc hB63.size (.cells #[.string e.path, .int .i64 e.kind, .int .i64 e.mode, .string e.text] 27))
                  clear hO3 hX3 hB63 hB HX1 HO1 HB61
                  go_wp2_with (at_builtin; refine wpList_append_own _ rfl _ _ 23 rfl w6.heap.size 27 i0 _ 4 48 Try.underlying23 (unhid HI).1 (unhid HI).2.1 (unhid HI).2.2.1 (unhid HI).2.2.2 rfl (by decide) _ k (valsOf (mvTo p q es k)) rfl (unhid HO3) ⟨W3.heap.size, 0, none⟩ 1 1 [.string e.path, .int .i64 e.kind, .int .i64 e.mode, .string e.text] rfl rfl (lit_cells W3 _ _ _ _ _) ?c2 ?c3 ?c4 ?c5 ?_)
                  case c2 => intro u hu; simp at hu; rcases hu with rfl | rfl | rfl | rfl <;> rfl
                  case c3 => unfold maxLen; omega
                  case c4 => omega
                  case c5 => simp; omega
                  intro v' W4 hown hg _
                  obtain ⟨g4, cap4, hv4⟩ := ownsRow_some hown (by omega)
                  subst hv4
                  have HF := hid (show W4.ownsRow w6.heap.size 27 4 (.slice (some ⟨g4, 0, none⟩) (k + 1) cap4) (k + 1) (valsOf (mvTo p q es (k + 1))) ∧ Below w6.heap.size w6 W4 from
                    ⟨by rw [unhid HTK, valsOf_snoc]; exact hown, (unhid HB3).grown hg (unhid HB3).size (fun k e => ((unhid HO3).lt k e).1)⟩)
                  clear hown hg
                  go_wp2_with fail
                  go_roundw
                  case rel => exact ⟨k + 1, by omega, by go_num, ⟨g4, cap4, rfl⟩, hid (unhid HF).1, HAN, hid (unhid HF).2⟩
                  case measure => simp [intOf]; omega
                · have hmv : mvS p q e = { e with path := movedP p q e.path } := by unfold mvS; rw [hbl]; rfl
                  rw [hmv] at HTK HAL
                  have hps : p.size ≤ e.path.size := by
                    rcases belowB_cases hbl with h0 | ⟨t, h0⟩
                    · rw [Lib.size_eq, Lib.size_eq, h0]; omega
                    · rw [Lib.size_eq, Lib.size_eq, h0]; simp
                  have hmz : (movedP p q e.path).size ≤ 1048576 := by
                    have h0 := movedP_list p q e.path
                    have h1 : (movedP p q e.path).size = q.size + (e.path.size - p.size) := by rw [Lib.size_eq, h0, List.length_append, List.length_drop, ← Lib.size_eq, ← Lib.size_eq, ← Lib.size_eq]
                    omega
                  go_wp2_with fail
                  rw [← unhid HW1]
                  refine (l1Below_any p e.path (by unfold maxLen; omega) (by unfold maxLen; omega) W1).mono ?_
                  rintro x W2 ⟨rfl, e2⟩
                  subst e2
                  rw [hbl]
                  obtain ⟨⟨d0, d1, d2, d3⟩, f0, f1, f2, f3⟩ := four_cells (unhid HX1)
                  have hps2 : (p.size : Int) ≤ (e.path.size : Int) := by omega
                  go_wp2_with fail
                  rw [show q ++ e.path.extract p.size e.path.size = movedP p q e.path from rfl]
                  obtain ⟨W5, hW5⟩ : ∃ W5, W5 = W2.setCell ⟨wr.heap.size, 0, none⟩ (.string (movedP p q e.path)) := ⟨_, rfl⟩
                  rw [← hW5]
                  have hX5 : W5.heap[wr.heap.size]? = some (.cells #[.string (movedP p q e.path), .int .i64 e.kind, .int .i64 e.mode, .string e.text] 27 (0, 0)) := by rw [hW5, heap_setCell_same _ _ 0 _ _ _ (unhid HX1)]; rfl
                  have hO5 : W5.ownsRow w6.heap.size 27 4 (.slice (some ⟨g, 0, none⟩) k c) k (valsOf (mvTo p q es k)) := by rw [hW5]; exact ownsRow_kept (unhid HO1) (fun g' eg => Below.heap_setCell _ _ _ _ (fun eq => by cases eg; exact hgne eq))
                  have hB65 : Below w6.heap.size w6 W5 := by rw [hW5]; exact (unhid HB61).setCell (p := ⟨wr.heap.size, 0, none⟩) hsz _
                  have hz5 : wr.heap.size < W5.heap.size := (Array.getElem?_eq_some_iff.1 hX5).1
                  clear HX1 HO1 HB61 d0 d1 d2 d3 f0 f1 f2 f3 hW5 hz1
                  have HX1 := hid hX5
                  have HO1 := hid hO5
                  have HB61 := hid hB65
                  have hz1 := hz5
                  clear hX5 hO5 hB65 hz5
                  refine (l1Path_any (movedP p q e.path) hmz W5).mono ?_
                  rintro x W3 ⟨rfl, hB⟩
                  cases hpb : pathB (movedP p q e.path).data.toList
                  · have hno : mvAllS p q es = false := List.all_eq_false.2 ⟨e, List.mem_of_getElem? (unhid HE), by rw [hmv]; simp [hpb]⟩
                    have E2 := hid (show (mayS es p q && mvAllS p q es) = false ∧ moveL p q es = es by rw [(unhid E).1, (unhid E).2, hno]; exact ⟨rfl, rfl⟩)
                    have hB63 := (unhid HB61).trans (hB.mono (unhid HB61).size)
                    have H7 := hid (show Below w.heap.size w W3 ∧ ∀ (i : Nat) e, es[i]? = some e → EntAt W3 b (o + i * 4) e from ⟨(unhid H6).1.trans (hB63.mono hw6), entAt_below (unhid H6).2 (.inr hb6) hB63⟩)
                    have hb7 : b < W3.heap.size := Nat.lt_of_lt_of_le hb6 hB63.size
                    clear hB hB63 hno HX1 HO1 HB61
                    go_wp2_with fail
                    refine (l2Copy_any es b o cap W3 (by omega) (unhid H7).2 (.inr hb7)).mono ?_
                    rintro x w9 ⟨v, rfl, hown, hB⟩
                    obtain ⟨va, vc, rfl⟩ := ownsRow_slice hown
                    have HF := hid (And.intro (ownsRow_base hown (unhid H7).1.size) ((unhid H7).1.trans (hB.mono (unhid H7).1.size)))
                    clear hown hB
                    go_wp2_with fail
                    go_ret2
                    exact ⟨_, by rw [(unhid E2).1]; rfl, by rw [(unhid E2).2]; exact (unhid HF).1, (unhid HF).2⟩
                  · have HAN := hid (show mvAllS p q (es.take (k + 1)) = true by rw [unhid HAL, unhid HA]; simpa using hpb)
                    have hO3 := ownsRow_kept (unhid HO1) (fun g eg => hB.block g ((unhid HO1).lt g eg).2)
                    have hX3 := (hB.block _ hz1).trans (unhid HX1)
                    have hB63 := (unhid HB61).trans (hB.mono (unhid HB61).size)
                    obtain ⟨⟨d0, d1, d2, d3⟩, -⟩ := four_cells hX3
                    have hz3 : w6.heap.size ≤ W3.heap.size := hB63.size
                    have HO3 := hid (hO3.alloc (.cells #[.string (movedP p q e.path), .int .i64 e.kind, .int .i64 e.mode, .string e.text] 27))
                    have HB3 := hid (hB63.alloc hB63.size (.cells #[.string (movedP p q e.path), .int .i64 e.kind, .int .i64 e.mode, .string e.text] 27))
                    clear hO3 hX3 hB63 hB HX1 HO1 HB61
                    go_wp2_with (at_builtin; refine wpList_append_own _ rfl _ _ 23 rfl w6.heap.size 27 i0 _ 4 48 Try.underlying23 (unhid HI).1 (unhid HI).2.1 (unhid HI).2.2.1 (unhid HI).2.2.2 rfl (by decide) _ k (valsOf (mvTo p q es k)) rfl (unhid HO3) ⟨W3.heap.size, 0, none⟩ 1 1 [.string (movedP p q e.path), .int .i64 e.kind, .int .i64 e.mode, .string e.text] rfl rfl (lit_cells W3 _ _ _ _ _) ?c2 ?c3 ?c4 ?c5 ?_)
                    case c2 => intro u hu; simp at hu; rcases hu with rfl | rfl | rfl | rfl <;> rfl
                    case c3 => unfold maxLen; omega
                    case c4 => omega
                    case c5 => simp; omega
                    intro v' W4 hown hg _
                    obtain ⟨g4, cap4, hv4⟩ := ownsRow_some hown (by omega)
                    subst hv4
                    have HF := hid (show W4.ownsRow w6.heap.size 27 4 (.slice (some ⟨g4, 0, none⟩) (k + 1) cap4) (k + 1) (valsOf (mvTo p q es (k + 1))) ∧ Below w6.heap.size w6 W4 from
                      ⟨by rw [unhid HTK, valsOf_snoc]; exact hown, (unhid HB3).grown hg (unhid HB3).size (fun k e => ((unhid HO3).lt k e).1)⟩)
                    clear hown hg
                    go_wp2_with fail
                    go_roundw
                    case rel => exact ⟨k + 1, by omega, by go_num, ⟨g4, cap4, rfl⟩, hid (unhid HF).1, HAN, hid (unhid HF).2⟩
                    case measure => simp [intOf]; omega
              · have ek : k = es.length := by omega
                subst ek
                rw [List.take_of_length_le (Nat.le_refl _)] at HA
                have hmt : mvTo p q es es.length = es.map (mvS p q) := by unfold mvTo; rw [List.take_of_length_le (Nat.le_refl _)]
                rw [hmt] at HO
                have hml : (es.map (mvS p q)).length = es.length := List.length_map _
                have E2 := hid (show (mayS es p q && mvAllS p q es) = true ∧ moveL p q es = sortL (es.map (mvS p q)) by rw [(unhid E).1, (unhid E).2, unhid HA]; exact ⟨rfl, rfl⟩)
                have hO := unhid HO
                rw [← hml] at hO
                obtain ⟨a1, cap1, ev, hRI⟩ := rowIn_of_owns hO
                have hgl : g < wr.heap.size := ((unhid HO).lt g rfl).2
                have HGE := hid (show ∀ (i : Nat) x, (es.map (mvS p q))[i]? = some x → EntAt wr g (0 + i * 4) x by

                  injection ev with ev1 ev2 ev3
                  subst ev1
                  rcases hRI.at with h0 | ⟨b', o', eb, _, hcc⟩
                  · intro i x hi; rw [h0] at hi; simp at hi
                  · cases eb; exact hcc)
                have SRT := hid (l2Sorted_any (es.map (mvS p q)) g 0 c wr (by rw [hml]; omega) (unhid HGE) hgl)
                rw [hml] at SRT
                have HB := hid ((unhid H6).1.trans ((unhid HB6).mono hw6))
                clear hO ev hRI hmt hml HGE hgl
                go_wp2_with fail
                refine (unhid SRT).mono ?_
                rintro x w9 ⟨v, rfl, hown, hB⟩
                obtain ⟨va, vc, rfl⟩ := ownsRow_slice hown
                have HF := hid (And.intro (ownsRow_base hown (unhid HB).size) ((unhid HB).trans (hB.mono (unhid HB).size)))
                clear hown hB
                go_wp2_with fail
                go_ret2
                exact ⟨_, by rw [(unhid E2).1]; rfl, by rw [(unhid E2).2]; exact (unhid HF).1, (unhid HF).2⟩

        · have E := hid (show (mayS es p q && mvAllS p q es) = false ∧ moveL p q es = es by unfold moveL; rw [show mayS es p q = false by simp [mayS, h1, h2, h3, h4]]; exact ⟨rfl, rfl⟩)
          go_enter Try.func58, Try.ntmps58
          go_wp2_with fail
          refine (l2At_any es _ _ p w (by omega) (.inr ⟨b, o, rfl, hb, unhid H⟩)).mono ?_
          rintro x w1 ⟨rfl, n1, e1⟩
          rw [h1]
          have hB1 : Below w.heap.size w w1 := by rw [e1]; exact drewN_below _ _
          have H1 := hid (show Below w.heap.size w w1 ∧ ∀ (i : Nat) e, es[i]? = some e → EntAt w1 b (o + i * 4) e from ⟨hB1, entAt_below (unhid H) (.inr hb) hB1⟩)
          have hb1 : b < w1.heap.size := Nat.lt_of_lt_of_le hb hB1.size
          clear hB1 e1 n1
          go_wp2_with fail
          refine (l2At_any es _ _ q w1 (by omega) (.inr ⟨b, o, rfl, hb1, (unhid H1).2⟩)).mono ?_
          rintro x w2 ⟨rfl, n2, e2⟩
          have hB2 : Below w1.heap.size w1 w2 := by rw [e2]; exact drewN_below _ _
          have H2 := hid (show Below w.heap.size w w2 ∧ ∀ (i : Nat) e, es[i]? = some e → EntAt w2 b (o + i * 4) e from ⟨(unhid H1).1.trans (hB2.mono (unhid H1).1.size), entAt_below (unhid H1).2 (.inr hb1) hB2⟩)
          have hb2 : b < w2.heap.size := Nat.lt_of_lt_of_le hb1 hB2.size
          clear hB2 e2 n2 H1 hb1
          rw [h2]
          go_wp2_with fail
          refine (l1Path_any q hq w2).mono ?_
          rintro x w3 ⟨rfl, hB⟩
          rw [h3]
          have H3 := hid (show Below w.heap.size w w3 ∧ ∀ (i : Nat) e, es[i]? = some e → EntAt w3 b (o + i * 4) e from ⟨(unhid H2).1.trans (hB.mono (unhid H2).1.size), entAt_below (unhid H2).2 (.inr hb2) hB⟩)
          have hb3 : b < w3.heap.size := Nat.lt_of_lt_of_le hb2 hB.size
          clear hB H2 hb2
          go_wp2_with fail
          refine (l1Below_any p q (by unfold maxLen; omega) (by unfold maxLen; omega) w3).mono ?_
          rintro x w4 ⟨rfl, e4⟩
          subst e4
          rw [h4]
          go_wp2_with fail
          refine (l2Copy_any es b o cap w4 (by omega) (unhid H3).2 (.inr hb3)).mono ?_
          rintro x w9 ⟨v, rfl, hown, hB⟩
          obtain ⟨va, vc, rfl⟩ := ownsRow_slice hown
          have HF := hid (And.intro (ownsRow_base hown (unhid H3).1.size) ((unhid H3).1.trans (hB.mono (unhid H3).1.size)))
          clear hown hB
          go_wp2_with fail
          go_ret2
          exact ⟨_, by rw [(unhid E).1]; rfl, by rw [(unhid E).2]; exact (unhid HF).1, (unhid HF).2⟩

    · have E := hid (show (mayS es p q && mvAllS p q es) = false ∧ moveL p q es = es by unfold moveL; rw [show mayS es p q = false by simp [mayS, h1, h2]]; exact ⟨rfl, rfl⟩)
      go_enter Try.func58, Try.ntmps58
      go_wp2_with fail
      refine (l2At_any es _ _ p w (by omega) (.inr ⟨b, o, rfl, hb, unhid H⟩)).mono ?_
      rintro x w1 ⟨rfl, n1, e1⟩
      rw [h1]
      have hB1 : Below w.heap.size w w1 := by rw [e1]; exact drewN_below _ _
      have H1 := hid (show Below w.heap.size w w1 ∧ ∀ (i : Nat) e, es[i]? = some e → EntAt w1 b (o + i * 4) e from ⟨hB1, entAt_below (unhid H) (.inr hb) hB1⟩)
      have hb1 : b < w1.heap.size := Nat.lt_of_lt_of_le hb hB1.size
      clear hB1 e1 n1
      go_wp2_with fail
      refine (l2At_any es _ _ q w1 (by omega) (.inr ⟨b, o, rfl, hb1, (unhid H1).2⟩)).mono ?_
      rintro x w2 ⟨rfl, n2, e2⟩
      have hB2 : Below w1.heap.size w1 w2 := by rw [e2]; exact drewN_below _ _
      have H2 := hid (show Below w.heap.size w w2 ∧ ∀ (i : Nat) e, es[i]? = some e → EntAt w2 b (o + i * 4) e from ⟨(unhid H1).1.trans (hB2.mono (unhid H1).1.size), entAt_below (unhid H1).2 (.inr hb1) hB2⟩)
      have hb2 : b < w2.heap.size := Nat.lt_of_lt_of_le hb1 hB2.size
      clear hB2 e2 n2 H1 hb1
      rw [h2]
      go_wp2_with fail
      refine (l2Copy_any es b o cap w2 (by omega) (unhid H2).2 (.inr hb2)).mono ?_
      rintro x w9 ⟨v, rfl, hown, hB⟩
      obtain ⟨va, vc, rfl⟩ := ownsRow_slice hown
      have HF := hid (And.intro (ownsRow_base hown (unhid H2).1.size) ((unhid H2).1.trans (hB.mono (unhid H2).1.size)))
      clear hown hB
      go_wp2_with fail
      go_ret2
      exact ⟨_, by rw [(unhid E).1]; rfl, by rw [(unhid E).2]; exact (unhid HF).1, (unhid HF).2⟩

end Go.Proofs.Ytaefjibnnbdaaaa

/- What is moved in a tree: the model's answer. -/
namespace Go.Proofs.Ytaefjibnnbdaaaa
open Go.RowKit Go.Shelf

theorem moveR_len (p q : ByteArray) (es : List Ent) : (moveR p q es).length ≤ 100 := by
  have := (kept_asc es).2
  unfold moveR
  split
  · have h := putAll_len ((keptE es).map (mvE p q))
    rw [List.length_map] at h
    omega
  · omega

set_option maxRecDepth 100000 in
set_option maxHeartbeats 2000000 in
theorem specTreeMove_any (es : List Ent) (p q : ByteArray) (b o cap : Nat) (w : World) (hs : smallE es) (hp : p.size ≤ 1048576) (hq : q.size ≤ 1048576) (h : ∀ (i : Nat) e, es[i]? = some e → EntAt w b (o + i * 4) e) (hb : b < w.heap.size) :
    Calls Try.prog 20 #[.slice (some ⟨b, o, none⟩) es.length cap, .string p, .string q] w fun x w' => ∃ v, x = .returned (.tuple #[v, .bool (moveOk p q es)]) ∧ w'.ownsRow w.heap.size 27 4 v (moveR p q es).length (valsOf (moveR p q es)) ∧ Below w.heap.size w w' := by
  have hat1 : EntsAt w (some ⟨b, o, none⟩) es := .inr ⟨b, o, rfl, hb, h⟩
  have OK := hid (specTreeOk_any es (some ⟨b, o, none⟩) cap w hs hat1)
  have H1 := hid h
  clear hat1 h hs
  go_enter Try.func20, Try.ntmps20
  go_wp2_with fail
  refine (unhid OK).mono ?_
  rintro x w2 ⟨rfl, hB2⟩
  have H2 := hid (show Below w.heap.size w w2 ∧ ∀ (i : Nat) e, es[i]? = some e → EntAt w2 b (o + i * 4) e from ⟨hB2, entAt_below (unhid H1) (.inr hb) hB2⟩)
  have hb2 : b < w2.heap.size := Nat.lt_of_lt_of_le hb hB2.size
  clear hB2 H1 OK
  cases htb : treeB es
  · have E := hid (show moveR p q es = [] ∧ moveOk p q es = false by unfold moveR moveOk; rw [keptE_no htb]; exact ⟨by simp [mayB, thereE, placeE], by simp [mayB, thereE, placeE]⟩)
    have HF := hid (And.intro (owns_empty w2 w.heap.size (unhid H2).1.size 27) ((unhid H2).1.alloc (unhid H2).1.size (.cells #[] 27)))
    go_wp2_with fail
    go_ret2
    exact ⟨_, by rw [(unhid E).2]; rfl, by rw [(unhid E).1]; exact (unhid HF).1, (unhid HF).2⟩
  · have E := hid (show moveOk p q es = (mayS es p q && mvAllS p q es) ∧ moveR p q es = moveL p q es from move_spec (p := p) (q := q) htb)
    go_wp2_with fail
    refine (l2Move_any es p q b o cap w2 htb hp hq (unhid H2).2 hb2).mono ?_
    rintro x w4 ⟨v, rfl, hown, hB4⟩
    obtain ⟨va, vc, rfl⟩ := ownsRow_slice hown
    have HF := hid (And.intro (ownsRow_base hown (unhid H2).1.size) ((unhid H2).1.trans (hB4.mono (unhid H2).1.size)))
    clear hown hB4
    generalize hmb : (mayS es p q && mvAllS p q es) = mb at *
    clear hmb
    go_wp2_with fail
    go_ret2
    exact ⟨_, by rw [(unhid E).1]; rfl, by rw [(unhid E).2]; exact (unhid HF).1, (unhid HF).2⟩
end Go.Proofs.Ytaefjibnnbdaaaa

/- What was moved is a tree, and moved back it is as it was. -/
namespace Go.Proofs.Ytaefjibnnbdaaaa
open Go.RowKit Go.Shelf

theorem putAll_iff : ∀ xs : List Ent, (xs.map (·.path)).Nodup → (∀ x, x ∈ putAll xs ↔ x ∈ xs) ∧ (putAll xs).length = xs.length := snoc_ind (fun _ => ⟨fun _ => Iff.rfl, rfl⟩) (fun xs x ih h => by
  rw [List.map_append, List.nodup_append] at h
  obtain ⟨i1, i2⟩ := ih h.1
  have hu := putAll_up xs
  have hne : ∀ y ∈ xs, y.path ≠ x.path := fun y hy => h.2.2 y.path (List.mem_map.2 ⟨y, hy, rfl⟩) x.path (by simp)
  rw [putAll_snoc]
  refine ⟨fun y => ?_, ?_⟩
  · rw [putT_iff hu, i1, List.mem_append, List.mem_singleton]
    constructor
    · rintro (h | ⟨h, _⟩)
      · exact .inr h
      · exact .inl h
    · rintro (h | h)
      · exact .inr ⟨h, hne y h⟩
      · exact .inl h
  · have ht : thereE (putAll xs) x.path = false := by
      cases ht : thereE (putAll xs) x.path
      · rfl
      · obtain ⟨y, hy, hp⟩ := (there_iff hu _).1 ht
        exact absurd hp (hne y ((i1 y).1 hy))
    unfold putT
    rw [ht]
    simp only [Bool.false_eq_true, if_false]
    rw [insAt_len, i2]; simp)
theorem lastIx_app (b : UInt8) (c : List UInt8) (hc : 0 ≤ lastIx b c) : ∀ a : List UInt8, lastIx b (a ++ c) = a.length + lastIx b c
  | [] => by simp
  | x :: a => by
    have ih := lastIx_app b c hc a
    rw [List.cons_append]
    rw [show lastIx b (x :: (a ++ c)) = if 0 ≤ lastIx b (a ++ c) then lastIx b (a ++ c) + 1 else if x == b then 0 else -1 from rfl, ih, if_pos (by omega)]
    simp; omega
theorem lastIx_slash (t : List UInt8) : 0 ≤ lastIx 47 (47 :: t) := by
  unfold lastIx
  split
  · omega
  · simp
theorem take_slash (a t : List UInt8) : (a ++ 47 :: t).take (lastIx 47 (a ++ 47 :: t)).toNat = a ++ (47 :: t).take (lastIx 47 (47 :: t)).toNat := by
  have h := lastIx_slash t
  rw [lastIx_app 47 (47 :: t) h a]
  have : ((a.length : Int) + lastIx 47 (47 :: t)).toNat = a.length + (lastIx 47 (47 :: t)).toNat := by omega
  rw [this, List.take_length_add_append]
theorem upS_list {s : ByteArray} (hi : 0 ≤ lastIx 47 s.data.toList) : (upS s).data.toList = s.data.toList.take (lastIx 47 s.data.toList).toNat := by
  unfold upS
  rw [if_neg (by omega), Lib.extract_data]
  simp
theorem upS_moved {p q s : ByteArray} {t : List UInt8} (hs : s.data.toList = p.data.toList ++ 47 :: t) : upS (movedP p q s) = movedP p q (upS s) ∧ (upS s).data.toList = p.data.toList ++ (47 :: t).take (lastIx 47 (47 :: t)).toNat := by
  have h1 : (movedP p q s).data.toList = q.data.toList ++ 47 :: t := by rw [movedP_list, hs, List.drop_left]
  have i0 := lastIx_slash t
  have i1 : 0 ≤ lastIx 47 s.data.toList := by rw [hs, lastIx_app 47 _ i0]; omega
  have i2 : 0 ≤ lastIx 47 (movedP p q s).data.toList := by rw [h1, lastIx_app 47 _ i0]; omega
  have e1 : (upS s).data.toList = p.data.toList ++ (47 :: t).take (lastIx 47 (47 :: t)).toNat := by rw [upS_list i1, hs, take_slash]
  refine ⟨?_, e1⟩
  apply bytes_ext
  rw [upS_list i2, h1, take_slash, movedP_list, e1, List.drop_left]
theorem below_trans {a b c : List UInt8} (h : belowB a b = true) (g : belowB b c = true) : belowB a c = true := by
  rcases belowB_cases h with rfl | ⟨t, rfl⟩
  · exact g
  · rcases belowB_cases g with rfl | ⟨u, rfl⟩
    · exact belowB_app _ _
    · rw [List.append_assoc]
      exact belowB_app _ _
theorem mv_back {p q s : ByteArray} (h : belowB p.data.toList s.data.toList = true) : movedP q p (movedP p q s) = s := by
  apply bytes_ext
  rw [movedP_list, movedP_list, List.drop_left]
  exact (below_drop h).1.symm
theorem below_there {es : List Ent} {q : ByteArray} (h : treeB es = true) (hq : pathB q.data.toList = true) (hno : thereE es q = false) : ∀ e ∈ es, belowB q.data.toList e.path.data.toList = false := fun e he => by
  cases hb : belowB q.data.toList e.path.data.toList
  · rfl
  · rw [in_there h _ e he (Nat.le_refl _) (inB_mk hq (ent_pathB (tree_all h e he)) hb)] at hno; cases hno

structure MoveF (es : List Ent) (p q : ByteArray) (X : List Ent) : Prop where
  mem : ∀ x, x ∈ X ↔ ∃ e ∈ es, x = mvS p q e
  tree : treeB X = true
  len : X.length = es.length
  gone : thereE X p = false
  back : moveOk q p X = true
  same : moveR q p X = es
theorem move_facts {es : List Ent} {p q : ByteArray} (h : treeB es = true) (hm : moveOk p q es = true) : MoveF es p q (moveR p q es) ∧ pathB p.data.toList = true ∧ pathB q.data.toList = true ∧ ∀ e ∈ es, pathB (mvS p q e).path.data.toList = true := by
  obtain ⟨e1, e2⟩ := move_spec (p := p) (q := q) h
  rw [e1] at hm
  rw [hm, if_pos rfl] at e2
  rw [Bool.and_eq_true] at hm
  obtain ⟨hmay, hall⟩ := hm
  unfold mayS at hmay
  simp only [Bool.and_eq_true, Bool.not_eq_true'] at hmay
  obtain ⟨tp, nq, hq, nbelow, dq⟩ := hmay
  have hu := tree_up h
  obtain ⟨x0, hx0, hx0p⟩ := (there_iff hu p).1 tp
  have hp : pathB p.data.toList = true := by rw [← hx0p]; exact ent_pathB (tree_all h x0 hx0)
  have hpb : ∀ e ∈ es, pathB (mvS p q e).path.data.toList = true := fun e he => List.all_eq_true.1 hall e he
  have hnd := moved_nodup (p := p) h hq nq
  obtain ⟨m1, m2⟩ := putAll_iff _ hnd
  have hX : moveR p q es = putAll (es.map (mvS p q)) := by rw [e2, sort_put _ hnd]
  have hmem : ∀ x, x ∈ moveR p q es ↔ ∃ e ∈ es, x = mvS p q e := fun x => by
    rw [hX, m1, List.mem_map]
    constructor
    · rintro ⟨e, he, rfl⟩; exact ⟨e, he, rfl⟩
    · rintro ⟨e, he, rfl⟩; exact ⟨e, he, rfl⟩
  have hlen : (moveR p q es).length = es.length := by rw [hX, m2]; simp
  have huX : Up (moveR p q es) := by rw [hX]; exact putAll_up _
  have nbq : ∀ e ∈ es, belowB q.data.toList e.path.data.toList = false := below_there h hq nq
  have stay : ∀ d ∈ es, belowB p.data.toList d.path.data.toList = false → d ∈ moveR p q es := fun d hd hb => (hmem d).2 ⟨d, hd, by unfold mvS; rw [hb]; rfl⟩
  have went : ∀ d ∈ es, belowB p.data.toList d.path.data.toList = true → { d with path := movedP p q d.path } ∈ moveR p q es := fun d hd hb => (hmem _).2 ⟨d, hd, by unfold mvS; rw [hb]; rfl⟩
  obtain ⟨g1, _, g3, g4⟩ := (tree_iff es).1 h
  have hT : treeB (moveR p q es) = true := by
    refine (tree_iff _).2 ⟨fun x hx => ?_, huX, fun x hx => ?_, by rw [hlen]; exact g4⟩
    · obtain ⟨e, he, rfl⟩ := (hmem x).1 hx
      have h1 := g1 e he
      have h2 := hpb e he
      unfold mvS at h2 ⊢
      split
      · rename_i hb
        rw [if_pos hb] at h2
        unfold entB at h1 ⊢
        rw [Bool.and_eq_true] at h1 ⊢
        exact ⟨h2, h1.2⟩
      · exact h1
    · obtain ⟨e, he, rfl⟩ := (hmem x).1 hx
      have hpe := ent_pathB (g1 e he)
      unfold mvS
      cases hb : belowB p.data.toList e.path.data.toList
      · simp only [Bool.false_eq_true, if_false]
        rcases g3 e he with h0 | ⟨d, hd, hdp, hk⟩
        · exact .inl h0
        · by_cases hem : (upS e.path).toList.isEmpty = true
          · exact .inl hem
          · refine .inr ⟨d, stay d hd ?_, hdp, hk⟩
            cases hbd : belowB p.data.toList d.path.data.toList
            · rfl
            · have := (inB_parts (up_in hpe (by simpa using hem))).2.2
              rw [← hdp] at this
              rw [below_trans hbd this] at hb
              cases hb
      · simp only [if_true]
        rcases belowB_cases hb with heq | ⟨t, ht⟩
        · have hep : e.path = p := bytes_ext heq
          have hmq : movedP p q e.path = q := by
            rw [hep]
            apply bytes_ext
            rw [movedP_list]; simp
          show DirIn (moveR p q es) (upS (movedP p q e.path))
          rw [hmq]
          rcases (dir_iff hu _).1 dq with h0 | ⟨d, hd, hdp, hk⟩
          · exact .inl h0
          · by_cases hem : (upS q).toList.isEmpty = true
            · exact .inl hem
            · refine .inr ⟨d, stay d hd ?_, hdp, hk⟩
              cases hbd : belowB p.data.toList d.path.data.toList
              · rfl
              · have := (inB_parts (up_in hq (by simpa using hem))).2.2
                rw [← hdp] at this
                rw [below_trans hbd this] at nbelow
                cases nbelow
        · obtain ⟨um, ul⟩ := upS_moved (q := q) ht
          show DirIn (moveR p q es) (upS (movedP p q e.path))
          rw [um]
          rcases g3 e he with h0 | ⟨d, hd, hdp, hk⟩
          · exfalso
            rw [Lib.toList_data, ul] at h0
            have := pathB_ne _ hp
            simp at h0
            exact this (by simpa using h0.1)
          · have hbd : belowB p.data.toList d.path.data.toList = true := by
              rw [hdp, ul]
              have i0 := lastIx_slash t
              cases hz : (lastIx 47 (47 :: t)).toNat with
              | zero => simp [belowB_refl]
              | succ n => rw [List.take_succ_cons]; exact belowB_app _ _
            exact .inr ⟨_, went d hd hbd, by show movedP p q d.path = _; rw [hdp], hk⟩
  have hgone : thereE (moveR p q es) p = false := by
    cases ht : thereE (moveR p q es) p
    · rfl
    · exfalso
      obtain ⟨x, hx, hxp⟩ := (there_iff huX p).1 ht
      obtain ⟨e, he, rfl⟩ := (hmem x).1 hx
      unfold mvS at hxp
      cases hb : belowB p.data.toList e.path.data.toList
      · rw [hb] at hxp
        simp only [Bool.false_eq_true, if_false] at hxp
        rw [hxp, belowB_refl] at hb; cases hb
      · rw [hb] at hxp
        simp only [if_true] at hxp
        have h1 := movedP_below (q := q) hb
        rw [hxp] at h1
        rw [← hx0p, nbq x0 hx0] at h1
        cases h1
  have hqX : thereE (moveR p q es) q = true := by
    refine (there_iff huX q).2 ⟨_, went x0 hx0 (by rw [hx0p]; exact belowB_refl _), ?_⟩
    show movedP p q x0.path = q
    rw [hx0p]
    apply bytes_ext
    rw [movedP_list]; simp
  have nqp : belowB q.data.toList p.data.toList = false := by rw [← hx0p]; exact nbq x0 hx0
  have hdp : dirE (moveR p q es) (upS p) = true := by
    refine (dir_iff huX _).2 ?_
    have hx := g3 x0 hx0
    rw [hx0p] at hx
    rcases hx with h0 | ⟨d, hd, hdd, hk⟩
    · exact .inl h0
    · by_cases hem : (upS p).toList.isEmpty = true
      · exact .inl hem
      · refine .inr ⟨d, stay d hd ?_, hdd, hk⟩
        refine belowB_long ?_
        rw [hdd]
        have hin := inB_parts (up_in hp (by simpa using hem))
        have hi : 0 ≤ lastIx 47 p.data.toList := by
          refine Int.not_lt.1 (fun hlt => hem ?_)
          unfold upS; rw [if_pos hlt]; decide +kernel
        have hg := (List.getElem?_eq_some_iff.1 (lastIx_get 47 p.data.toList hi)).1
        rw [upS_list hi, List.length_take]; omega
  have hback : ∀ e ∈ es, mvS q p (mvS p q e) = e := fun e he => by
    unfold mvS
    cases hb : belowB p.data.toList e.path.data.toList
    · simp only [Bool.false_eq_true, if_false]
      rw [nbq e he]; rfl
    · simp only [if_true]
      rw [movedP_below (q := q) hb, if_pos rfl, mv_back hb]
  have hmay2 : mayS (moveR p q es) q p = true := by
    unfold mayS
    rw [hqX, hgone, hp, nqp, hdp]; rfl
  have hall2 : mvAllS q p (moveR p q es) = true := by
    unfold mvAllS
    rw [List.all_eq_true]
    intro x hx
    obtain ⟨e, he, rfl⟩ := (hmem x).1 hx
    rw [hback e he]
    exact ent_pathB (g1 e he)
  obtain ⟨b1, b2⟩ := move_spec (p := q) (q := p) hT
  rw [hmay2, hall2, Bool.and_self] at b1 b2
  rw [if_pos rfl] at b2
  have hnd2 := moved_nodup (p := q) hT hp hgone
  obtain ⟨n1, _⟩ := putAll_iff _ hnd2
  refine ⟨⟨hmem, hT, hlen, hgone, b1, ?_⟩, hp, hq, hpb⟩
  rw [b2, sort_put _ hnd2]
  refine up_ext (putAll_up _) hu (fun x => ?_)
  rw [n1, List.mem_map]
  constructor
  · rintro ⟨y, hy, rfl⟩
    obtain ⟨e, he, rfl⟩ := (hmem y).1 hy
    rw [hback e he]; exact he
  · intro hx
    exact ⟨mvS p q x, (hmem _).2 ⟨x, hx, rfl⟩, hback x hx⟩
end Go.Proofs.Ytaefjibnnbdaaaa

/- A part of a tree: what a pattern takes, and the dirs that it is in. -/
namespace Go.Proofs.Ytaefjibnnbdaaaa
open Go.RowKit Go.Shelf

theorem up_sub : ∀ (K L : List Ent), Up K → Up L → (∀ x ∈ L, x ∈ K) → L.length ≤ K.length
  | [], L, _, _, h => by
    cases L with
    | nil => simp
    | cons l L => exact absurd (h l (by simp)) (by simp)
  | k :: K, [], _, _, _ => by simp
  | k :: K, l :: L, hK, hL, h => by
    have hirr : ∀ a : ByteArray, ltS a a = false := fun a => lt_irr _
    have hK' := List.pairwise_cons.1 hK
    have hL' := List.pairwise_cons.1 hL
    by_cases e : l = k
    · subst e
      have := up_sub K L hK'.2 hL'.2 (fun x hx => by
        rcases List.mem_cons.1 (h x (by simp [hx])) with e | hm
        · subst e; have := hL'.1 x hx; rw [hirr] at this; cases this
        · exact hm)
      simp; omega
    · have hl : l ∈ K := (List.mem_cons.1 (h l (by simp))).resolve_left e
      have hlt := hK'.1 l hl
      have := up_sub K (l :: L) hK'.2 hL (fun x hx => by
        rcases List.mem_cons.1 (h x hx) with e2 | hm
        · subst e2
          rcases List.mem_cons.1 hx with e3 | hm2
          · exact absurd e3.symm e
          · have := lt_trans' hlt (hL'.1 x hm2); rw [hirr] at this; cases this
        · exact hm)
      simp at this ⊢; omega
/-- What is in the way up from a place. -/
theorem below_up {x a : ByteArray} (ha : pathB a.data.toList = true) (hx : pathB x.data.toList = true) : belowB x.data.toList a.data.toList = true ↔ x = a ∨ ((pathUpS a).toList.isEmpty = false ∧ belowB x.data.toList (pathUpS a).data.toList = true) := by
  have hpu : pathUpS a = upS a := by unfold pathUpS; rw [ha]; rfl
  rw [hpu]
  constructor
  · intro h
    by_cases e : a.data.toList = x.data.toList
    · exact .inl (bytes_ext e.symm)
    · have hin := inB_mk hx ha h
      obtain ⟨h1, h2, _⟩ := in_up hin e
      rw [← upS_list h1] at h2
      have h3 := inB_parts h2
      refine .inr ⟨?_, h3.2.2⟩
      rw [Lib.toList_data]
      have := pathB_ne _ h3.2.1
      simpa using this
  · rintro (rfl | ⟨h1, h2⟩)
    · exact belowB_refl _
    · exact below_trans h2 (inB_parts (up_in ha h1)).2.2
def takenB (g : ByteArray) (e : Ent) : Bool := hasB g.data.toList e.path.data.toList
def neededB (g : ByteArray) (ks : List Ent) (d : ByteArray) : Bool := ks.any fun e => belowB d.data.toList e.path.data.toList && takenB g e
/-- The part, as the model tells it. -/
def partL (g : ByteArray) (ks : List Ent) : List Ent := ks.filter fun e => takenB g e || (e.kind == 1 && neededB g ks e.path)
theorem dir_above {ks : List Ent} (h : treeB ks = true) : ∀ (n : Nat) (e x : Ent), e ∈ ks → x ∈ ks → e.path.size ≤ n → belowB x.path.data.toList e.path.data.toList = true → x.path ≠ e.path → x.kind = 1
  | n, e, x, he, hx, hn, hb, hne => by
    have hpe := ent_pathB (tree_all h e he)
    have hpx := ent_pathB (tree_all h x hx)
    rcases (below_up hpe hpx).1 hb with e1 | ⟨h1, h2⟩
    · exact absurd e1 hne
    · have hpu : pathUpS e.path = upS e.path := by unfold pathUpS; rw [hpe]; rfl
      rw [hpu] at h1 h2
      obtain ⟨_, hu, g3, _⟩ := (tree_iff ks).1 h
      rcases g3 e he with h0 | ⟨d, hd, hdp, hk⟩
      · rw [h0] at h1; cases h1
      · by_cases hxd : x.path = d.path
        · rw [path_uniq hu hx hd hxd]; exact hk
        · have hi : 0 ≤ lastIx 47 e.path.data.toList := by
            refine Int.not_lt.1 (fun hlt => ?_)
            unfold upS at h1; rw [if_pos hlt] at h1
            revert h1; decide +kernel
          have hg := (List.getElem?_eq_some_iff.1 (lastIx_get 47 e.path.data.toList hi)).1
          have hsz : d.path.size < e.path.size := by
            rw [hdp, Lib.size_eq, Lib.size_eq, upS_list hi, List.length_take]; omega
          match n with
          | 0 => omega
          | n + 1 => exact dir_above h n d x hd hx (by omega) (by rw [hdp]; exact h2) hxd
theorem partL_iff {g : ByteArray} {ks : List Ent} (h : treeB ks = true) (x : Ent) : x ∈ partL g ks ↔ x ∈ ks ∧ ∃ e ∈ ks, takenB g e = true ∧ belowB x.path.data.toList e.path.data.toList = true := by
  unfold partL
  rw [List.mem_filter]
  constructor
  · rintro ⟨hx, hc⟩
    refine ⟨hx, ?_⟩
    rw [Bool.or_eq_true] at hc
    rcases hc with hc | hc
    · exact ⟨x, hx, hc, belowB_refl _⟩
    · rw [Bool.and_eq_true] at hc
      obtain ⟨e, he, hb⟩ := List.any_eq_true.1 hc.2
      rw [Bool.and_eq_true] at hb
      exact ⟨e, he, hb.2, hb.1⟩
  · rintro ⟨hx, e, he, ht, hb⟩
    refine ⟨hx, ?_⟩
    rw [Bool.or_eq_true]
    by_cases hp : x.path = e.path
    · have := path_uniq (tree_up h) hx he hp
      subst this
      exact .inl ht
    · right
      rw [Bool.and_eq_true]
      refine ⟨by rw [dir_above h _ e x he hx (Nat.le_refl _) hb hp]; rfl, List.any_eq_true.2 ⟨e, he, by rw [hb, ht]; rfl⟩⟩
theorem partL_up {g : ByteArray} {ks : List Ent} (h : Up ks) : Up (partL g ks) := List.Pairwise.filter _ h
theorem partL_len (g : ByteArray) (ks : List Ent) : (partL g ks).length ≤ ks.length := List.length_filter_le _ _
end Go.Proofs.Ytaefjibnnbdaaaa

/- What is put with all dirs that it is in. -/
namespace Go.Proofs.Ytaefjibnnbdaaaa
open Go.RowKit Go.Shelf

theorem getV_mem {ks : List Ent} (h : Up ks) {e : Ent} (he : e ∈ ks) : getV ks e.path = nodeV e := by
  have := there_mem h he
  unfold getV
  rw [this.1, this.2]; rfl
theorem empty_iff (a : ByteArray) : a.toList.isEmpty = true ↔ a = ⟨#[]⟩ := by
  constructor
  · exact empty_of
  · rintro rfl; decide +kernel

def textLen : Value → Nat
  | .string x => x.size
  | _ => 0

set_option maxRecDepth 100000 in
set_option maxHeartbeats 4000000 in
theorem withDirs_any (N N2 bp : Nat) (ps ks : List Ent) (ap an : Option Addr) (cp cn : Nat) (p : ByteArray) (w : World) (hT : treeB ks = true) (hp : ∃ e ∈ ks, e.path = p) (hps : ∀ x ∈ ps, x ∈ ks) (hup : Up ps) (hN : N ≤ bp) (hNw : N ≤ w.heap.size)
    (hrows : RowsAt w N2 (.slice ap ks.length cp) (.slice an ks.length cn) ks) (hl1 : ∀ g, (Value.slice ap ks.length cp).ownBlock = some g → g < N) (hl2 : ∀ g, (Value.slice an ks.length cn).ownBlock = some g → g < N) (hpart : TreeAt w N bp ps) :
    Calls Try.prog 80 #[.pointer (some ⟨bp, 0, none⟩), .agg #[.slice ap ks.length cp, .slice an ks.length cn], .string p] w fun x w' => (∃ v, x = .returned v) ∧ ∃ L, TreeAt w' N bp L ∧ Up L ∧ (∀ x, x ∈ L ↔ x ∈ ps ∨ (x ∈ ks ∧ belowB x.path.data.toList p.data.toList = true)) ∧ Kept N bp w w' := by
  obtain ⟨w0, hw0⟩ : ∃ w0, w0 = w.alloc (.cells #[.slice ap ks.length cp, .slice an ks.length cn] 58) := ⟨_, rfl⟩
  have hB0 : Below w.heap.size w w0 := by rw [hw0]; exact (Below.refl _ w).alloc (Nat.le_refl _) _
  have hbox : w0.heap[w.heap.size]? = some (.cells #[.slice ap ks.length cp, .slice an ks.length cn] 58 (0, 0)) := by rw [hw0]; exact World.alloc_heap_new _ _
  have hu := tree_up hT
  have h16 := tree_16 hT
  have hbpl := hpart.lt
  have HS := hid (show TreeAt w0 N bp ps ∧ RowsAt w0 N2 (.slice ap ks.length cp) (.slice an ks.length cn) ks from ⟨hpart.below hB0, ownsRow_kept hrows.1 (fun g e => hB0.block g (hrows.1.lt g e).2), ownsRow_kept hrows.2 (fun g e => hB0.block g (hrows.2.lt g e).2)⟩)
  have HK0 := hid (Kept.of_below (bt := bp) hB0 hNw)
  have HX := hid (And.intro hbox (And.intro hl1 hl2))
  have HW0 := hid hw0
  have hlt0 : w.heap.size < w0.heap.size := (Array.getElem?_eq_some_iff.1 hbox).1
  have HPS := hid (And.intro hps (And.intro hup (And.intro hT hu)))
  have HP := hid hp
  clear hw0 hB0 hbox hrows hpart hps hup hT hp hl1 hl2
  go_enter Try.func80, Try.ntmps80
  go_wp2_with fail
  rw [← unhid HW0]
  go_loopw [6, 7, 8] (fun at' _ _ wr => ∃ (a : ByteArray) (L : List Ent), at' = .string a ∧ a.size ≤ 54 ∧ Hid ((a = ⟨#[]⟩ ∨ ∃ e ∈ ks, e.path = a) ∧ (a ≠ ⟨#[]⟩ → belowB a.data.toList p.data.toList = true) ∧ TreeAt wr N bp L ∧ Up L ∧ (∀ x, x ∈ L ↔ x ∈ ps ∨ (x ∈ ks ∧ belowB x.path.data.toList p.data.toList = true ∧ (a = ⟨#[]⟩ ∨ belowB x.path.data.toList a.data.toList = false))) ∧ Kept N bp w0 wr)) (fun a _ _ _ => textLen a)
  case atStart =>
    obtain ⟨e0, he0, hp0⟩ := unhid HP
    have hsz := ent_path_len (tree_all (unhid HPS).2.2.1 e0 he0)
    have hpb := ent_pathB (tree_all (unhid HPS).2.2.1 e0 he0)
    rw [hp0] at hsz hpb
    refine ⟨p, ps, rfl, hsz, hid ⟨.inr ⟨e0, he0, hp0⟩, fun _ => belowB_refl _, (unhid HS).1, (unhid HPS).2.1, fun x => ?_, ⟨Below.refl _ _, fun _ _ _ h _ => h⟩⟩⟩
    constructor
    · exact .inl
    · rintro (h | ⟨_, h1, h2 | h2⟩)
      · exact h
      · exfalso; rw [h2] at hpb; revert hpb; decide +kernel
      · rw [h1] at h2; cases h2
  case round =>
    obtain ⟨a, L, rfl, hsz, HI⟩ := hrel
    cases hem : a.toList.isEmpty
    · obtain ⟨e, he, hea⟩ := (unhid HI).1.resolve_left (fun e => by rw [e] at hem; revert hem; decide +kernel)
      subst hea
      have hpb := ent_pathB (tree_all (unhid HPS).2.2.1 e he)
      have hne : e.path ≠ ⟨#[]⟩ := fun e0 => by rw [e0] at hem; revert hem; decide +kernel
      have hlen : L.length ≤ 16 := Nat.le_trans (up_sub ks L (unhid HPS).2.2.2 (unhid HI).2.2.2.1 (fun x hx => by
        rcases ((unhid HI).2.2.2.2.1 x).1 hx with h | h
        · exact (unhid HPS).1 x h
        · exact h.1)) h16
      have hbw : wr.heap[w.heap.size]? = some (.cells #[.slice ap ks.length cp, .slice an ks.length cn] 58 (0, 0)) := (unhid HI).2.2.2.2.2.2 _ _ (by omega) (unhid HX).1 (fun _ _ _ e => by cases e; decide)
      have hrw : RowsAt wr N2 (.slice ap ks.length cp) (.slice an ks.length cn) ks := ⟨ownsRow_kept (unhid HS).2.1 (fun g eg => (unhid HI).2.2.2.2.2.1.block g ((unhid HX).2.1 g eg)), ownsRow_kept (unhid HS).2.2 (fun g eg => (unhid HI).2.2.2.2.2.1.block g ((unhid HX).2.2 g eg))⟩
      have GET := hid (mapGet_any N2 w.heap.size ks e.path wr (by omega) (up_asc (unhid HPS).2.2.2) ⟨_, _, hbw, hrw.1, hrw.2⟩)
      have PUT := hid (mapPut_any N bp L e wr (by omega) (up_asc (unhid HI).2.2.2.1) hN (unhid HI).2.2.1)
      have GM := hid (getV_mem (unhid HPS).2.2.2 he)
      have TM := hid (there_mem (unhid HPS).2.2.2 he).1
      have HE := hid he
      obtain ⟨T0, nv, hnv⟩ := nodeV_shape e
      rw [hnv] at PUT GM
      have hsm : (pathUpS e.path).size < e.path.size := by
        have hpu : pathUpS e.path = upS e.path := by unfold pathUpS; rw [hpb]; rfl
        rw [hpu]
        by_cases hi : 0 ≤ lastIx 47 e.path.data.toList
        · have hg := (List.getElem?_eq_some_iff.1 (lastIx_get 47 e.path.data.toList hi)).1
          rw [Lib.size_eq, Lib.size_eq, upS_list hi, List.length_take]; omega
        · unfold upS; rw [if_pos (by omega)]
          show 0 < e.path.size
          rw [Lib.size_eq]
          have := pathB_ne _ hpb
          exact List.length_pos_iff.2 this
      have NEXT := hid (show (pathUpS e.path = ⟨#[]⟩ ∨ ∃ d ∈ ks, d.path = pathUpS e.path) ∧ (pathUpS e.path ≠ ⟨#[]⟩ → belowB (pathUpS e.path).data.toList p.data.toList = true) ∧ (∀ x, x ∈ putT L e ↔ x ∈ ps ∨ (x ∈ ks ∧ belowB x.path.data.toList p.data.toList = true ∧ (pathUpS e.path = ⟨#[]⟩ ∨ belowB x.path.data.toList (pathUpS e.path).data.toList = false))) by
        obtain ⟨i1, i2, i3, i4, i5, i6⟩ := unhid HI
        have hpu : pathUpS e.path = upS e.path := by unfold pathUpS; rw [hpb]; rfl
        have hT := (unhid HPS).2.2.1
        refine ⟨?_, fun hn => ?_, fun x => ?_⟩
        · rcases ((tree_iff ks).1 hT).2.2.1 e he with h0 | ⟨d, hd, hdp, _⟩
          · left; rw [hpu]; exact (empty_iff _).1 h0
          · right; exact ⟨d, hd, by rw [hpu]; exact hdp⟩
        · have h1 : (upS e.path).toList.isEmpty = false := by
            cases h : (upS e.path).toList.isEmpty
            · rfl
            · exact absurd (by rw [hpu]; exact (empty_iff _).1 h) hn
          rw [hpu]
          exact below_trans (inB_parts (up_in hpb h1)).2.2 (i2 hne)
        · rw [putT_iff i4, i5]
          constructor
          · rintro (rfl | ⟨h1 | ⟨h1, h2, h3⟩, _⟩)
            · refine .inr ⟨he, i2 hne, ?_⟩
              by_cases h0 : pathUpS x.path = ⟨#[]⟩
              · exact .inl h0
              · right
                refine belowB_long ?_
                have := hsm
                rw [Lib.size_eq, Lib.size_eq] at this
                exact this
            · exact .inl h1
            · refine .inr ⟨h1, h2, ?_⟩
              by_cases h0 : pathUpS e.path = ⟨#[]⟩
              · exact .inl h0
              · right
                have h4 : belowB x.path.data.toList e.path.data.toList = false := h3.resolve_left hne
                cases hb : belowB x.path.data.toList (pathUpS e.path).data.toList
                · rfl
                · have := (below_up hpb (ent_pathB (tree_all hT x h1))).2 (.inr ⟨by
                    cases h : (pathUpS e.path).toList.isEmpty
                    · rfl
                    · exact absurd ((empty_iff _).1 h) h0, hb⟩)
                  rw [this] at h4; cases h4
          · intro h
            by_cases hxe : x = e
            · exact .inl hxe
            · refine .inr ⟨?_, fun hp2 => ?_⟩
              · rcases h with h | ⟨h1, h2, h3⟩
                · exact .inl h
                · refine .inr ⟨h1, h2, .inr ?_⟩
                  cases hb : belowB x.path.data.toList e.path.data.toList
                  · rfl
                  · rcases (below_up hpb (ent_pathB (tree_all hT x h1))).1 hb with e1 | ⟨e1, e2⟩
                    · exact absurd (path_uniq (unhid HPS).2.2.2 h1 he e1) hxe
                    · rcases h3 with h3 | h3
                      · rw [h3] at e1; revert e1; decide +kernel
                      · rw [h3] at e2; cases e2
              · have hxk : x ∈ ks := by
                  rcases h with h | h
                  · exact (unhid HPS).1 x h
                  · exact h.1
                exact hxe (path_uniq (unhid HPS).2.2.2 hxk he hp2))
      have HK := hid (And.intro (unhid HI).2.2.2.1 (unhid HI).2.2.2.2.2)
      clear HI hbw hrw he hne hlen hpb
      go_wp2_with fail
      refine (unhid GET).mono ?_
      rintro x w1 ⟨rfl, e1⟩
      subst e1
      rw [unhid GM, unhid TM]
      go_wp2_with fail
      refine (unhid PUT).mono ?_
      rintro x w2 ⟨⟨v, rfl⟩, hT2, hK2⟩
      have HT2 := hid (And.intro hT2 ((unhid HK).2.trans hK2))
      clear hT2 hK2
      go_wp2_with fail
      refine (PathUp_any e.path (by unfold maxLen; omega) w2).mono ?_
      rintro x w3 ⟨rfl, hB3⟩
      have HT3 := hid (And.intro ((unhid HT2).1.below hB3) ((unhid HT2).2.trans (Kept.of_below hB3 (by have := (unhid HT2).2.1.size; have := hNw; omega))))
      clear hB3 HT2
      have hup2 := hid (putT_up (e := e) (unhid HK).1)
      go_wp2_with fail
      go_roundw
      case rel => exact ⟨pathUpS e.path, putT L e, rfl, by omega, hid ⟨(unhid NEXT).1, (unhid NEXT).2.1, (unhid HT3).1, unhid hup2, (unhid NEXT).2.2, (unhid HT3).2⟩⟩
      case measure => exact hsm
    · have ha0 := (empty_iff a).1 hem
      subst ha0
      have HI2 := HI
      go_wp2_with fail
      go_end0
      obtain ⟨-, -, i3, i4, i5, i6⟩ := unhid HI2
      refine ⟨⟨_, rfl⟩, L, i3, i4, fun x => ?_, (unhid HK0).trans i6⟩
      rw [i5]
      constructor
      · rintro (h | ⟨h1, h2, _⟩)
        · exact .inl h
        · exact .inr ⟨h1, h2⟩
      · rintro (h | ⟨h1, h2⟩)
        · exact .inl h
        · exact .inr ⟨h1, h2, .inl (by trivial)⟩
end Go.Proofs.Ytaefjibnnbdaaaa
