/- Texts of this proof, one behind the other; each says at its head what it shows. -/
import Derived.Test.YtfphpggjcljliaaGreatJoin8
import Derived.Test.YtfphpggjcljliaaGreatJoin6
import Derived.Test.YtfphpggjcljliaaGreatJoin5
/- Whether names are those of a pattern's names, by the model. -/
namespace Go.Proofs.YtfphpggjcljliaaGreat
open Go.RowKit Go.Shelf

def opt9B : W9 → Option (ByteArray → Bool)
  | none => none
  | some xs => some (fitB xs)
def mat9 (xs : List W9) (ss : List ByteArray) : Bool := matchO (xs.map opt9B) ss
theorem mat_nil (ss : List ByteArray) : mat9 [] ss = ss.isEmpty := rfl
theorem mat_deep_nil (xs : List W9) : mat9 (.deep :: xs) [] = mat9 xs [] := rfl
theorem mat_deep (xs : List W9) (s : ByteArray) (ss : List ByteArray) : mat9 (.deep :: xs) (s :: ss) = (mat9 xs (s :: ss) || mat9 (.deep :: xs) ss) := rfl
theorem mat_no (ys : List W8) (xs : List W9) : mat9 (.name ys :: xs) [] = false := rfl
theorem mat_one (ys : List W8) (xs : List W9) (s : ByteArray) (ss : List ByteArray) : mat9 (.name ys :: xs) (s :: ss) = (fitB ys s && mat9 xs ss) := rfl

/-- A row of texts that is read. -/
def StrsAt (W : World) (v : Value) (ps : List ByteArray) : Prop := ∃ b o cap, v = .slice (some ⟨b, o, none⟩) ps.length cap ∧ ps.length ≤ cap ∧ ∀ (i : Nat) x, ps[i]? = some x → W.cell? ⟨b, o + i, none⟩ = some (.string x)
theorem StrsAt.drew {W : World} {v : Value} {ps : List ByteArray} (h : StrsAt W v ps) (n : Nat) : StrsAt (W.drewN n) v ps := h
theorem nameW_deep {g : ByteArray} (h : nameW g = some .deep) : (g.toList == [42, 42]) = true := by
  unfold nameW at h
  split at h
  · assumption
  · split at h <;> cases h
theorem nameW_name {g : ByteArray} {ys : List W8} (h : nameW g = some (.name ys)) : (g.toList == [42, 42]) = false ∧ wants g = some ys := by
  unfold nameW at h
  split at h
  · cases h
  · rename_i hn
    refine ⟨by simpa using hn, ?_⟩
    split at h
    · rename_i x xs hw; cases h; exact hw
    · cases h

set_option maxRecDepth 100000 in
set_option maxHeartbeats 4000000 in
theorem l1Match_any (m : Nat) : ∀ (gs ss : List ByteArray) (xs : List W9) (vg vs : Value) (w : World), gs.length + ss.length ≤ m → m ≤ 3000000 → (∀ g ∈ gs, g.size ≤ 1048576) → (∀ s ∈ ss, s.size ≤ 1048576) → gs.map nameW = xs.map some → StrsAt w vg gs → StrsAt w vs ss →
    Calls Tryz.prog 48 #[vg, vs] w fun e w' => e = .returned (.bool (mat9 xs ss)) ∧ ∃ n, w' = w.drewN n := by
  induction m with
  | zero =>
    intro gs ss xs vg vs w hm hmm hg hs hw hvg hvs
    obtain ⟨b, o, cap, rfl, hc, hcell⟩ := hvg
    obtain ⟨b2, o2, cap2, rfl, hc2, hcell2⟩ := hvs
    have : gs = [] := List.length_eq_zero_iff.1 (by omega)
    subst this
    have : ss = [] := List.length_eq_zero_iff.1 (by omega)
    subst this
    have : xs = [] := by cases xs; rfl; cases hw
    subst this
    have E := hid (mat_nil [])
    go_enter Tryz.func48, Tryz.ntmps48
    go_wp2_with fail
    go_ret
    exact ⟨by rw [unhid E]; rfl, 0, rfl⟩
  | succ m ih =>
    intro gs ss xs vg vs w hm hmm hg hs hw hvg hvs
    have IH := hid ih
    clear ih
    have HVG := hid hvg
    have HVS := hid hvs
    obtain ⟨b, o, cap, rfl, hc, hcell⟩ := hvg
    obtain ⟨b2, o2, cap2, rfl, hc2, hcell2⟩ := hvs
    cases gs with
    | nil =>
      have : xs = [] := by cases xs; rfl; cases hw
      subst this
      have E := hid (mat_nil ss)
      have hl : ((ss.length : Int) == 0) = ss.isEmpty := by cases ss <;> simp; omega
      go_enter Tryz.func48, Tryz.ntmps48
      go_wp2_with fail
      go_ret
      exact ⟨by rw [unhid E]; rfl, 0, rfl⟩
    | cons g gs =>
      cases xs with
      | nil => cases hw
      | cons x xs =>
        have hw1 : nameW g = some x := by simp at hw; exact hw.1
        have hw2 := hid (show gs.map nameW = xs.map some by simp at hw; simpa using hw.2)
        have hw0 := hid hw
        have c0 := hcell 0 g rfl
        have HG := hid hg
        have HS := hid hs
        have HT := hid (show StrsAt w (.slice (some ⟨b, o + 1, none⟩) gs.length (cap - 1)) gs from ⟨b, o + 1, cap - 1, rfl, by simp at hc; omega, fun i x hi => by rw [show o + 1 + i = o + (i + 1) by omega]; exact hcell (i + 1) x (by simpa using hi)⟩)
        have HT1 := hid (show cap = 1 → StrsAt w (.slice (some ⟨b, o, none⟩) 0 0) gs from fun e => by
          have : gs = [] := List.length_eq_zero_iff.1 (by simp at hc; omega)
          subst this; exact ⟨b, o, 0, rfl, Nat.le_refl _, fun i x hi => by simp at hi⟩)
        simp only [List.length_cons] at hc hm HVG ⊢
        simp only [Nat.add_zero] at c0
        clear hw hcell hg hs
        have hne : ¬ ((gs.length : Int) + 1 = 0) := by omega
        have hne' : ((gs.length : Int) + 1 == 0) = false := by simpa using hne
        have HGG := hid (show ∀ g ∈ gs, g.size ≤ 1048576 from fun a ha => unhid HG a (List.mem_cons_of_mem _ ha))
        rcases x with _ | ys
        · have hd0 := nameW_deep hw1
          clear hw1
          cases h1 : mat9 xs ss
          · cases ss with
            | nil =>
              have E := hid (mat_deep_nil xs)
              simp only [List.length_nil] at hc2 hm HVS ⊢
              by_cases hcap : cap = 1
              · subst hcap
                have HTa := hid (unhid HT1 rfl); clear HT1
                go_enter Tryz.func48, Tryz.ntmps48
                go_wp2_with fail
                refine (unhid IH gs [] xs _ _ w (by simp; omega) (by omega) (unhid HGG) (unhid HS) (unhid hw2) (unhid HTa) (unhid HVS)).mono ?_
                rintro e w' ⟨rfl, nq, rfl⟩
                rw [h1]
                go_wp2_with fail
                go_ret
                exact ⟨by rw [unhid E, h1]; rfl, _, rfl⟩
              · go_enter Tryz.func48, Tryz.ntmps48
                go_wp2_with fail
                refine (unhid IH gs [] xs _ _ w (by simp; omega) (by omega) (unhid HGG) (unhid HS) (unhid hw2) (unhid HT) (unhid HVS)).mono ?_
                rintro e w' ⟨rfl, nq, rfl⟩
                rw [h1]
                go_wp2_with fail
                go_ret
                exact ⟨by rw [unhid E, h1]; rfl, _, rfl⟩
            | cons s ss =>
              have E := hid (mat_deep xs s ss)
              have HS2 := hid (show ∀ s ∈ ss, s.size ≤ 1048576 from fun a ha => unhid HS a (List.mem_cons_of_mem _ ha))
              have HU := hid (show StrsAt w (.slice (some ⟨b2, o2 + 1, none⟩) ss.length (cap2 - 1)) ss from ⟨b2, o2 + 1, cap2 - 1, rfl, by simp at hc2; omega, fun i x hi => by rw [show o2 + 1 + i = o2 + (i + 1) by omega]; exact hcell2 (i + 1) x (by simpa using hi)⟩)
              have HU1 := hid (show cap2 = 1 → StrsAt w (.slice (some ⟨b2, o2, none⟩) 0 0) ss from fun e => by
                have : ss = [] := List.length_eq_zero_iff.1 (by simp at hc2; omega)
                subst this; exact ⟨b2, o2, 0, rfl, Nat.le_refl _, fun i x hi => by simp at hi⟩)
              simp only [List.length_cons] at hc2 hm HVS ⊢
              clear hcell2
              have hpos : (0 : Int) < (ss.length : Int) + 1 := by omega
              by_cases hcap : cap = 1 <;> by_cases hcap2 : cap2 = 1
              · subst hcap
                have HTa := hid (unhid HT1 rfl); clear HT1
                subst hcap2
                have HUa := hid (unhid HU1 rfl); clear HU1
                go_enter Tryz.func48, Tryz.ntmps48
                go_wp2_with fail
                refine (unhid IH gs (s :: ss) xs _ _ w (by simp; omega) (by omega) (unhid HGG) (unhid HS) (unhid hw2) (unhid HTa) (unhid HVS)).mono ?_
                rintro e w' ⟨rfl, nq, rfl⟩
                rw [h1]
                go_wp2_with fail
                refine (unhid IH (g :: gs) ss (.deep :: xs) _ _ (w.drewN nq) (by simp; omega) (by omega) (unhid HG) (unhid HS2) (unhid hw0) (unhid HVG) (unhid HUa)).mono ?_
                rintro e w' ⟨rfl, nq2, rfl⟩
                go_wp2_with fail
                go_ret
                exact ⟨by rw [unhid E, h1]; rfl, _, rfl⟩
              · subst hcap
                have HTa := hid (unhid HT1 rfl); clear HT1
                go_enter Tryz.func48, Tryz.ntmps48
                go_wp2_with fail
                refine (unhid IH gs (s :: ss) xs _ _ w (by simp; omega) (by omega) (unhid HGG) (unhid HS) (unhid hw2) (unhid HTa) (unhid HVS)).mono ?_
                rintro e w' ⟨rfl, nq, rfl⟩
                rw [h1]
                go_wp2_with fail
                refine (unhid IH (g :: gs) ss (.deep :: xs) _ _ (w.drewN nq) (by simp; omega) (by omega) (unhid HG) (unhid HS2) (unhid hw0) (unhid HVG) (unhid HU)).mono ?_
                rintro e w' ⟨rfl, nq2, rfl⟩
                go_wp2_with fail
                go_ret
                exact ⟨by rw [unhid E, h1]; rfl, _, rfl⟩
              · subst hcap2
                have HUa := hid (unhid HU1 rfl); clear HU1
                go_enter Tryz.func48, Tryz.ntmps48
                go_wp2_with fail
                refine (unhid IH gs (s :: ss) xs _ _ w (by simp; omega) (by omega) (unhid HGG) (unhid HS) (unhid hw2) (unhid HT) (unhid HVS)).mono ?_
                rintro e w' ⟨rfl, nq, rfl⟩
                rw [h1]
                go_wp2_with fail
                refine (unhid IH (g :: gs) ss (.deep :: xs) _ _ (w.drewN nq) (by simp; omega) (by omega) (unhid HG) (unhid HS2) (unhid hw0) (unhid HVG) (unhid HUa)).mono ?_
                rintro e w' ⟨rfl, nq2, rfl⟩
                go_wp2_with fail
                go_ret
                exact ⟨by rw [unhid E, h1]; rfl, _, rfl⟩
              · go_enter Tryz.func48, Tryz.ntmps48
                go_wp2_with fail
                refine (unhid IH gs (s :: ss) xs _ _ w (by simp; omega) (by omega) (unhid HGG) (unhid HS) (unhid hw2) (unhid HT) (unhid HVS)).mono ?_
                rintro e w' ⟨rfl, nq, rfl⟩
                rw [h1]
                go_wp2_with fail
                refine (unhid IH (g :: gs) ss (.deep :: xs) _ _ (w.drewN nq) (by simp; omega) (by omega) (unhid HG) (unhid HS2) (unhid hw0) (unhid HVG) (unhid HU)).mono ?_
                rintro e w' ⟨rfl, nq2, rfl⟩
                go_wp2_with fail
                go_ret
                exact ⟨by rw [unhid E, h1]; rfl, _, rfl⟩
          · have E := hid (show mat9 (.deep :: xs) ss = true by
              cases ss with
              | nil => rw [mat_deep_nil, h1]
              | cons s ss => rw [mat_deep, h1]; rfl)
            by_cases hcap : cap = 1
            · subst hcap
              have HTa := hid (unhid HT1 rfl); clear HT1
              go_enter Tryz.func48, Tryz.ntmps48
              go_wp2_with fail
              refine (unhid IH gs ss xs _ _ w (by omega) (by omega) (unhid HGG) (unhid HS) (unhid hw2) (unhid HTa) (unhid HVS)).mono ?_
              rintro e w' ⟨rfl, nq, rfl⟩
              rw [h1]
              go_wp2_with fail
              go_ret
              exact ⟨by rw [unhid E]; rfl, _, rfl⟩
            · go_enter Tryz.func48, Tryz.ntmps48
              go_wp2_with fail
              refine (unhid IH gs ss xs _ _ w (by omega) (by omega) (unhid HGG) (unhid HS) (unhid hw2) (unhid HT) (unhid HVS)).mono ?_
              rintro e w' ⟨rfl, nq, rfl⟩
              rw [h1]
              go_wp2_with fail
              go_ret
              exact ⟨by rw [unhid E]; rfl, _, rfl⟩
        · obtain ⟨hd0, hwy⟩ := nameW_name hw1
          have HWY := hid hwy
          clear hw1 hwy
          cases ss with
          | nil =>
            have E := hid (mat_no ys xs)
            simp only [List.length_nil] at hc2 hm HVS ⊢
            have hz0 : ¬ (0 : Int) < 0 := by omega
            go_enter Tryz.func48, Tryz.ntmps48
            go_wp2_with fail
            go_quiet (fail)
            go_wp2_with fail
            go_ret
            exact ⟨by rw [unhid E]; rfl, _, rfl⟩
          | cons s ss =>
            have E := hid (mat_one ys xs s ss)
            have HS2 := hid (show ∀ s ∈ ss, s.size ≤ 1048576 from fun a ha => unhid HS a (List.mem_cons_of_mem _ ha))
            have HU := hid (show StrsAt w (.slice (some ⟨b2, o2 + 1, none⟩) ss.length (cap2 - 1)) ss from ⟨b2, o2 + 1, cap2 - 1, rfl, by simp at hc2; omega, fun i x hi => by rw [show o2 + 1 + i = o2 + (i + 1) by omega]; exact hcell2 (i + 1) x (by simpa using hi)⟩)
            have HU1 := hid (show cap2 = 1 → StrsAt w (.slice (some ⟨b2, o2, none⟩) 0 0) ss from fun e => by
              have : ss = [] := List.length_eq_zero_iff.1 (by simp at hc2; omega)
              subst this; exact ⟨b2, o2, 0, rfl, Nat.le_refl _, fun i x hi => by simp at hi⟩)
            have d0 := hcell2 0 s rfl
            simp only [Nat.add_zero] at d0
            simp only [List.length_cons] at hc2 hm HVS ⊢
            clear hcell2
            have hpos : (0 : Int) < (ss.length : Int) + 1 := by omega
            have hgz := unhid HG g (List.mem_cons_self ..)
            have hsz := unhid HS s (List.mem_cons_self ..)
            cases h1 : fitB ys s
            · go_enter Tryz.func48, Tryz.ntmps48
              go_wp2_with fail
              go_quiet ((go_at_call 75; refine Calls.quiet_of (v := .bool false) ((l1Fits_any _ g s ys _ (Nat.le_refl _) hgz hsz (unhid HWY)).mono ?_); rintro e w' ⟨rfl, nq, rfl⟩; exact ⟨by rw [h1], nq, rfl⟩))
              go_wp2_with fail
              go_ret
              exact ⟨by rw [unhid E, h1]; rfl, _, rfl⟩
            · by_cases hcap : cap = 1 <;> by_cases hcap2 : cap2 = 1
              · subst hcap
                have HTa := hid (unhid HT1 rfl); clear HT1
                subst hcap2
                have HUa := hid (unhid HU1 rfl); clear HU1
                go_enter Tryz.func48, Tryz.ntmps48
                go_wp2_with fail
                go_quiet (first | (go_at_call 75; refine Calls.quiet_of (v := .bool true) ((l1Fits_any _ g s ys _ (Nat.le_refl _) hgz hsz (unhid HWY)).mono ?_); rintro e w' ⟨rfl, nq, rfl⟩; exact ⟨by rw [h1], nq, rfl⟩) | (go_at_call 48; exact Calls.quiet_of (unhid IH gs ss xs _ _ _ (by omega) (by omega) (unhid HGG) (unhid HS2) (unhid hw2) (unhid HTa) (unhid HUa))))
                go_wp2_with fail
                go_ret
                exact ⟨by rw [unhid E, h1]; rfl, _, rfl⟩
              · subst hcap
                have HTa := hid (unhid HT1 rfl); clear HT1
                go_enter Tryz.func48, Tryz.ntmps48
                go_wp2_with fail
                go_quiet (first | (go_at_call 75; refine Calls.quiet_of (v := .bool true) ((l1Fits_any _ g s ys _ (Nat.le_refl _) hgz hsz (unhid HWY)).mono ?_); rintro e w' ⟨rfl, nq, rfl⟩; exact ⟨by rw [h1], nq, rfl⟩) | (go_at_call 48; exact Calls.quiet_of (unhid IH gs ss xs _ _ _ (by omega) (by omega) (unhid HGG) (unhid HS2) (unhid hw2) (unhid HTa) (unhid HU))))
                go_wp2_with fail
                go_ret
                exact ⟨by rw [unhid E, h1]; rfl, _, rfl⟩
              · subst hcap2
                have HUa := hid (unhid HU1 rfl); clear HU1
                go_enter Tryz.func48, Tryz.ntmps48
                go_wp2_with fail
                go_quiet (first | (go_at_call 75; refine Calls.quiet_of (v := .bool true) ((l1Fits_any _ g s ys _ (Nat.le_refl _) hgz hsz (unhid HWY)).mono ?_); rintro e w' ⟨rfl, nq, rfl⟩; exact ⟨by rw [h1], nq, rfl⟩) | (go_at_call 48; exact Calls.quiet_of (unhid IH gs ss xs _ _ _ (by omega) (by omega) (unhid HGG) (unhid HS2) (unhid hw2) (unhid HT) (unhid HUa))))
                go_wp2_with fail
                go_ret
                exact ⟨by rw [unhid E, h1]; rfl, _, rfl⟩
              · go_enter Tryz.func48, Tryz.ntmps48
                go_wp2_with fail
                go_quiet (first | (go_at_call 75; refine Calls.quiet_of (v := .bool true) ((l1Fits_any _ g s ys _ (Nat.le_refl _) hgz hsz (unhid HWY)).mono ?_); rintro e w' ⟨rfl, nq, rfl⟩; exact ⟨by rw [h1], nq, rfl⟩) | (go_at_call 48; exact Calls.quiet_of (unhid IH gs ss xs _ _ _ (by omega) (by omega) (unhid HGG) (unhid HS2) (unhid hw2) (unhid HT) (unhid HU))))
                go_wp2_with fail
                go_ret
                exact ⟨by rw [unhid E, h1]; rfl, _, rfl⟩
end Go.Proofs.YtfphpggjcljliaaGreat

/- GlobHas, by the program and by its model. -/
namespace Go.Proofs.YtfphpggjcljliaaGreat
open Go.RowKit Go.Shelf

def namesW (l : List UInt8) : List W9 := (cutB 47 l).filterMap fun p => nameW ⟨⟨p⟩⟩
def partsB (l : List UInt8) : List ByteArray := (cutB 47 l).map fun p => ⟨⟨p⟩⟩
def hasB (g s : List UInt8) : Bool := globOkB g && (pathB s && mat9 (namesW g) (partsB s))
theorem filter_some {α β : Type} (l : List α) (f : α → Option β) (xs : List β) (h : l.map f = xs.map some) : l.filterMap f = xs := by
  rw [show l.filterMap f = (l.map f).filterMap id by simp [List.filterMap_map], h]
  simp [List.filterMap_map]
theorem namesW_ok {l : List UInt8} (h : globOkB l = true) : (cutB 47 l).map (fun p => nameW ⟨⟨p⟩⟩) = (namesW l).map some := by
  unfold globOkB at h
  rw [Bool.and_eq_true] at h
  have hall := List.all_eq_true.1 h.2
  unfold namesW
  generalize cutB 47 l = ps at hall
  induction ps with
  | nil => rfl
  | cons p ps ih =>
    have hp := hall p (List.mem_cons_self ..)
    have : (nameW ⟨⟨p⟩⟩).isSome = true := by rw [nameW_globbed]; exact hp
    obtain ⟨x, hx⟩ := Option.isSome_iff_exists.1 this
    rw [List.map_cons, List.filterMap_cons, hx, ih (fun q hq => hall q (List.mem_cons_of_mem _ hq))]
    rfl
theorem wantsF_length : ∀ (f : Nat) (s : ByteArray) (xs : List W8), wantsF f s = some xs → xs.length ≤ s.size := by
  intro f
  induction f with
  | zero => intro s xs h; unfold wantsF at h; split at h <;> cases h; simp
  | succ f ih =>
    intro s xs h
    unfold wantsF at h
    split at h
    · rename_i h0
      cases hf : firstR s s[0] with
      | none => rw [hf] at h; cases h
      | some p =>
        obtain ⟨x, n⟩ := p
        rw [hf] at h
        have hn := firstR_le h0 hf
        simp only [Option.map_eq_some_iff] at h
        obtain ⟨ys, hy, rfl⟩ := h
        have := ih _ _ hy
        rw [ByteArray.size_extract] at this
        simp; omega
    · cases h; simp
theorem nameW_small {g : ByteArray} {x : W9} (h : nameW g = some x) (hg : g.size ≤ 1000) : small9 x := by
  rcases x with _ | ys
  · trivial
  · exact Nat.le_trans (wantsF_length _ _ _ (nameW_name h).2) hg
theorem mat_vals : ∀ (xs : List W9) (ys : List Str), matchO (xs.map opt9) ys = mat9 xs (ys.map (·.1)) := by
  intro xs
  induction xs with
  | nil => intro ys; cases ys <;> rfl
  | cons x xs ih =>
    intro ys
    rcases x with _ | zs
    · induction ys with
      | nil => exact ih []
      | cons y ys ih2 =>
        have h1 := ih (y :: ys)
        show (matchO (xs.map opt9) (y :: ys) || matchO ((W9.deep :: xs).map opt9) ys) = (mat9 xs (y.1 :: ys.map (·.1)) || mat9 (.deep :: xs) (ys.map (·.1)))
        rw [h1, ih2]; rfl
    · cases ys with
      | nil => rfl
      | cons y ys =>
        show (matchO (zs.map opt8) y.1.data.toList && matchO (xs.map opt9) ys) = (fitB zs y.1 && mat9 xs (ys.map (·.1)))
        rw [ih]; rfl
theorem parts_vals {l : List UInt8} {ys : List Str} (h : vals ys = cutB 47 l) : ys.map (·.1) = partsB l := by
  unfold partsB
  rw [← h]
  simp [vals, Function.comp_def]
theorem parts_datas {l : List UInt8} {ys : List ByteArray} (h : datas ys = cutB 47 l) : ys = partsB l := by
  unfold partsB
  rw [← h]
  simp [datas, Function.comp_def]

theorem partsOf_any (s : ByteArray) (m : Int) (w : World) : Calls Tryz.prog 19 #[.string s, .int .u8 m] w fun e w' => e = .returned (.func (.func 42) #[] #[.pointer (some ⟨w.heap.size, 0, none⟩), .pointer (some ⟨w.heap.size + 1, 0, none⟩)]) ∧ w' = (w.alloc (.cells #[.string s] 9)).alloc (.cells #[.int .u8 m] 5) :=
  (callsIn_wide (n := 1)).1 (partsOf_in Fence.wide _ trivial rfl s m w)
theorem eg36 : ∀ args w, (callFunc 39 args).run Tryz.prog w = .ok (.enter 39 args) w := enters_of Tryz.func39 (by kernel_rfl) rfl

set_option maxRecDepth 100000 in
set_option maxHeartbeats 4000000 in
theorem GlobHas_any (g s : ByteArray) (hg : g.size ≤ maxLen) (hs : s.size ≤ maxLen) (w : World) :
    Calls Tryz.prog 11 #[.string g, .string s] w fun e w' => e = .returned (.bool (hasB g.data.toList s.data.toList)) ∧ Below w.heap.size w w' := by
  cases ho : globOkB g.data.toList
  · have E := hid (show hasB g.data.toList s.data.toList = false by unfold hasB; rw [ho]; rfl)
    go_enter Tryz.func11, Tryz.ntmps11
    go_wp2_with fail
    refine (globOf_any g hg _).mono ?_
    rintro e w1 ⟨fv, rfl, -, hb⟩
    have HB := hid hb
    clear hb
    rw [ho]
    go_wp2_with fail
    go_ret
    exact ⟨by rw [unhid E]; rfl, unhid HB⟩
  · cases hp : pathB s.data.toList
    · have E := hid (show hasB g.data.toList s.data.toList = false by unfold hasB; rw [ho, hp]; rfl)
      go_enter Tryz.func11, Tryz.ntmps11
      go_wp2_with fail
      refine (globOf_any g hg _).mono ?_
      rintro e w1 ⟨fv, rfl, -, hb⟩
      have HB := hid hb
      clear hb
      rw [ho]
      go_wp2_with fail
      refine (PathOk_any s hs _).mono ?_
      rintro e w2 ⟨rfl, hb⟩
      have HB2 := hid ((unhid HB).trans (hb.mono (unhid HB).size))
      clear hb
      rw [hp]
      go_wp2_with fail
      go_ret
      exact ⟨by rw [unhid E]; rfl, unhid HB2⟩
    · have E := hid (show hasB g.data.toList s.data.toList = mat9 (namesW g.data.toList) (partsB s.data.toList) by unfold hasB; rw [ho, hp]; rfl)
      go_enter Tryz.func11, Tryz.ntmps11
      go_wp2_with fail
      refine (globOf_any g hg _).mono ?_
      rintro e w1 ⟨fv, rfl, hfv, hb⟩
      obtain ⟨b, v, xs, rfl, hbl, hcb, hN, hxs⟩ := hfv ho
      have hxn : namesW g.data.toList = xs := filter_some _ _ _ hxs
      have hl40 : g.data.toList.length ≤ 40 ∧ (cutB 47 g.data.toList).length ≤ 5 := by
        unfold globOkB at ho; simp only [Bool.and_eq_true, decide_eq_true_eq] at ho; exact ⟨ho.1.2, ho.1.1⟩
      have hxl : xs.length ≤ 1000 := by have := congrArg List.length hxs; simp at this; omega
      have hsm : ∀ x ∈ xs, small9 x := fun x hx => by
        have : some x ∈ (cutB 47 g.data.toList).map (fun p => nameW ⟨⟨p⟩⟩) := by rw [hxs]; exact List.mem_map.2 ⟨x, hx, rfl⟩
        obtain ⟨p, hp, hn⟩ := List.mem_map.1 this
        refine nameW_small hn ?_
        have := cutB_le 47 _ _ hp
        rw [Lib.size_eq]
        show p.length ≤ 1000
        omega
      have HN := hid (And.intro hN (And.intro hsm (And.intro hxl hcb)))
      have HX := hid hxn
      have HB := hid hb
      clear hb hfv hN hxs hl40 hsm hxl hxn hcb
      rw [ho]
      go_wp2_with fail
      refine (PathOk_any s hs _).mono ?_
      rintro e w2 ⟨rfl, hb⟩
      have HB12 := hid hb
      have HB2 := hid ((unhid HB).trans (hb.mono (unhid HB).size))
      clear hb
      rw [hp]
      go_wp2_with fail
      refine (partsOf_any s 47 _).mono ?_
      rintro e w3 ⟨rfl, rfl⟩
      go_wp2_with fail
      obtain ⟨W3, hW3⟩ : ∃ W3, W3 = (w2.alloc (.cells #[.string s] 9)).alloc (.cells #[.int .u8 47] 5) := ⟨_, rfl⟩
      rw [← hW3]
      have h3 : Below w2.heap.size w2 W3 := by rw [hW3]; exact ((Below.refl _ w2).alloc (Nat.le_refl _) _).alloc (by simp) _
      have c0 : W3.cell? ⟨w2.heap.size, 0, none⟩ = some (.string s) := by rw [hW3]; exact cell_alloc_l _ (cell_new_l w2 _ _).1
      have cm : W3.cell? ⟨w2.heap.size + 1, 0, none⟩ = some (.int .u8 47) := by rw [hW3]; have := (cell_new_l (w2.alloc (.cells #[.string s] 9)) (.int .u8 47) 5).1; rwa [World.size_alloc] at this
      have h13 : Below w1.heap.size w1 W3 := (unhid HB12).trans (h3.mono (unhid HB12).size)
      obtain ⟨n1, n2, n3, n4⟩ := unhid HN
      refine (globTakes_any s hs xs b w2.heap.size (w2.heap.size + 1) v (fun b => w.heap.size ≤ b) W3 ((h13.cell (p := ⟨b, 0, none⟩) hbl).trans n4) (n1.kept h13.size (fun k _ hk => h13.block k hk) (fun _ h _ => h)) n2 n3 c0 cm).mono ?_
      rintro e w4 ⟨⟨ys, hys, rfl⟩, hb⟩
      have HB4 := hid ((unhid HB2).trans ((h3.mono (unhid HB2).size).trans (hb.mono (Nat.le_trans (unhid HB2).size h3.size))))
      have EM := hid (show matchO (xs.map opt9) ys = hasB g.data.toList s.data.toList by rw [mat_vals, parts_vals hys, ← unhid HX, unhid E])
      clear hW3 h3 c0 cm h13 n1 n2 n3 n4 hb hys
      rw [unhid EM]
      go_wp2_with fail
      go_ret
      exact ⟨rfl, unhid HB4⟩

theorem strsAt_of {W W' : World} {base : Nat} {v : Value} {xs : List ByteArray} (h : W.ownsRow base 9 1 v xs.length (xs.map Value.string)) (hne : xs ≠ []) (hb : Below W.heap.size W W') : StrsAt W' v xs := by
  rcases h.2 with ⟨rfl, h0⟩ | ⟨g, cap, cur, rfl, _, hg, hc, _, hsz, hcells⟩
  · exact absurd (List.length_eq_zero_iff.1 h0) hne
  · refine ⟨g, 0, cap, rfl, hc, fun i x hi => ?_⟩
    have hil : i < xs.length := (List.getElem?_eq_some_iff.1 hi).1
    have h1 : (cur.toList.take (xs.length * 1))[i]? = some (.string x) := by rw [hcells, List.getElem?_map, hi]; rfl
    rw [List.getElem?_take_of_lt (by omega), Array.getElem?_toList] at h1
    simp only [Nat.zero_add]
    refine (hb.cell (p := ⟨g, i, none⟩) (Array.getElem?_eq_some_iff.1 hg).1).trans ?_
    simp [World.cell?, hg, h1]

set_option maxRecDepth 100000 in
set_option maxHeartbeats 4000000 in
theorem specGlobHas_any (g s : ByteArray) (hg : g.size ≤ 1048576) (hs : s.size ≤ 1048576) (w : World) :
    Calls Tryz.prog 22 #[.string g, .string s] w fun e w' => e = .returned (.bool (hasB g.data.toList s.data.toList)) ∧ Below w.heap.size w w' := by
  cases ho : globOkB g.data.toList
  · have E := hid (show hasB g.data.toList s.data.toList = false by unfold hasB; rw [ho]; rfl)
    go_enter Tryz.func22, Tryz.ntmps22
    go_wp2_with fail
    refine (specGlobOk_any g hg _).mono ?_
    rintro e w1 ⟨rfl, hb⟩
    have HB := hid hb
    clear hb
    rw [ho]
    go_wp2_with fail
    go_ret
    exact ⟨by rw [unhid E]; rfl, unhid HB⟩
  · cases hp : pathB s.data.toList
    · have E := hid (show hasB g.data.toList s.data.toList = false by unfold hasB; rw [ho, hp]; rfl)
      go_enter Tryz.func22, Tryz.ntmps22
      go_wp2_with fail
      refine (specGlobOk_any g hg _).mono ?_
      rintro e w1 ⟨rfl, hb⟩
      have HB := hid hb
      clear hb
      rw [ho]
      go_wp2_with fail
      refine (l1Path_any s hs _).mono ?_
      rintro e w2 ⟨rfl, hb⟩
      have HB2 := hid ((unhid HB).trans (hb.mono (unhid HB).size))
      clear hb
      rw [hp]
      go_wp2_with fail
      go_ret
      exact ⟨by rw [unhid E]; rfl, unhid HB2⟩
    · have E := hid (show hasB g.data.toList s.data.toList = mat9 (namesW g.data.toList) (partsB s.data.toList) by unfold hasB; rw [ho, hp]; rfl)
      have HW := hid (namesW_ok ho)
      go_enter Tryz.func22, Tryz.ntmps22
      go_wp2_with fail
      refine (specGlobOk_any g hg _).mono ?_
      rintro e w1 ⟨rfl, hb⟩
      have HB := hid hb
      clear hb
      rw [ho]
      go_wp2_with fail
      refine (l1Path_any s hs _).mono ?_
      rintro e w2 ⟨rfl, hb⟩
      have HB2 := hid ((unhid HB).trans (hb.mono (unhid HB).size))
      clear hb
      rw [hp]
      go_wp2_with fail
      refine (l1Cut_any g 47 _ hg (by omega) (by omega) _).mono ?_
      rintro e w3 ⟨v, xs, rfl, hxs, hown, hb⟩
      have HB3 := hid ((unhid HB2).trans (hb.mono (unhid HB2).size))
      have HO := hid (And.intro hxs hown)
      clear hb hxs hown
      go_wp2_with fail
      refine (l1Cut_any s 47 _ hs (by omega) (by omega) _).mono ?_
      rintro e w4 ⟨v2, xs2, rfl, hxs2, hown2, hb⟩
      have HB34 := hid hb
      have HB4 := hid ((unhid HB3).trans (hb.mono (unhid HB3).size))
      have HO2 := hid (And.intro hxs2 hown2)
      clear hb hxs2 hown2
      go_wp2_with fail
      obtain ⟨hxs, hown⟩ := unhid HO
      obtain ⟨hxs2, hown2⟩ := unhid HO2
      have hne : xs ≠ [] := by rintro rfl; exact cutB_ne _ _ hxs.symm
      have hne2 : xs2 ≠ [] := by rintro rfl; exact cutB_ne _ _ hxs2.symm
      have small : ∀ (l : ByteArray) (zs : List ByteArray), l.size ≤ 1048576 → datas zs = cutB 47 l.data.toList → (∀ x ∈ zs, x.size ≤ 1048576) ∧ zs.length ≤ 1048577 := fun l zs hl hz => by
        constructor
        · intro x hx
          have h1 : x.data.toList ∈ cutB 47 l.data.toList := by rw [← hz]; exact List.mem_map.2 ⟨x, hx, rfl⟩
          have h2 := cutB_le 47 _ _ h1
          rw [← Lib.size_eq, ← Lib.size_eq] at h2
          omega
        · have := cutB_length 47 l.data.toList
          rw [← hz, ← Lib.size_eq] at this
          simp [datas] at this
          omega
      obtain ⟨s1, s2⟩ := small g xs hg hxs
      obtain ⟨s3, s4⟩ := small s xs2 hs hxs2
      refine (l1Match_any (xs.length + xs2.length) xs xs2 (namesW g.data.toList) v v2 w4 (Nat.le_refl _) (by omega) s1 s3 ?_ (strsAt_of hown hne (unhid HB34)) (strsAt_of hown2 hne2 (Below.refl _ _))).mono ?_
      · rw [← unhid HW, ← hxs]; simp [datas, Function.comp_def]
      rintro e w5 ⟨rfl, n, rfl⟩
      have EM := hid (show mat9 (namesW g.data.toList) xs2 = hasB g.data.toList s.data.toList by rw [unhid E, parts_datas hxs2])
      clear hxs hown hxs2 hown2 hne hne2 small s1 s2 s3 s4
      rw [unhid EM]
      go_wp2_with fail
      go_ret
      exact ⟨rfl, (unhid HB4).trans (below_drewN _ _)⟩
end Go.Proofs.YtfphpggjcljliaaGreat

/- Entries that are moved: no two come to one place. -/
namespace Go.Proofs.YtfphpggjcljliaaGreat
open Go.RowKit Go.Shelf

def movedP (p q s : ByteArray) : ByteArray := q ++ s.extract p.size s.size
def mvS (p q : ByteArray) (e : Ent) : Ent := if belowB p.data.toList e.path.data.toList then { e with path := movedP p q e.path } else e
def mvAllS (p q : ByteArray) (es : List Ent) : Bool := es.all fun e => pathB (mvS p q e).path.data.toList
theorem sort_put : ∀ xs : List Ent, (xs.map (·.path)).Nodup → sortL xs = putAll xs := snoc_ind (fun _ => rfl) (fun xs x ih h => by
  rw [List.map_append, List.nodup_append] at h
  rw [sortL_snoc, putAll_snoc, ih h.1]
  have ht : thereE (putAll xs) x.path = false := by
    cases ht : thereE (putAll xs) x.path
    · rfl
    · obtain ⟨e, he, hp⟩ := there_get ht
      have hm := putAll_mem xs e (List.mem_of_getElem? he)
      exact absurd hp (h.2.2 e.path (List.mem_map.2 ⟨e, hm, rfl⟩) x.path (by simp))
  unfold putT; rw [ht]; rfl)
theorem bytes_ext {a b : ByteArray} (h : a.data.toList = b.data.toList) : a = b := by apply ByteArray.ext; exact Array.ext' h
theorem movedP_list (p q s : ByteArray) : (movedP p q s).data.toList = q.data.toList ++ s.data.toList.drop p.data.toList.length := by
  unfold movedP; rw [data_app, drop_size]
theorem below_drop {p s : List UInt8} (h : belowB p s = true) : s = p ++ s.drop p.length ∧ (s.drop p.length = [] ∨ ∃ t, s.drop p.length = 47 :: t) := by
  rcases belowB_cases h with rfl | ⟨t, rfl⟩
  · simp
  · simp
theorem movedP_inj {p q s s' : ByteArray} (h : belowB p.data.toList s.data.toList = true) (h' : belowB p.data.toList s'.data.toList = true) (he : movedP p q s = movedP p q s') : s = s' := by
  apply bytes_ext
  have h1 := congrArg (fun x => x.data.toList) he
  simp only [movedP_list] at h1
  have h2 := List.append_cancel_left h1
  rw [(below_drop h).1, (below_drop h').1, h2]
theorem movedP_below {p q s : ByteArray} (h : belowB p.data.toList s.data.toList = true) : belowB q.data.toList (movedP p q s).data.toList = true := by
  rw [movedP_list]
  rcases (below_drop h).2 with h1 | ⟨t, h1⟩
  · rw [h1, List.append_nil]; exact belowB_refl _
  · rw [h1]; exact belowB_app _ _
theorem moved_nodup {es : List Ent} {p q : ByteArray} (ht : treeB es = true) (hq : pathB q.data.toList = true) (hno : thereE es q = false) : ((es.map (mvS p q)).map (·.path)).Nodup := by
  have hup := asc_up (tree_asc ht)
  have hnot : ∀ e ∈ es, ∀ s : ByteArray, belowB p.data.toList s.data.toList = true → e.path ≠ movedP p q s := fun e he s hs heq => by
    have h1 : inB q.data.toList e.path.data.toList = true := by
      unfold inB; rw [hq, ent_pathB (tree_all ht e he), heq, movedP_below hs]; rfl
    rw [in_there ht _ e he (Nat.le_refl _) h1] at hno; cases hno
  rw [List.map_map, List.Nodup, List.pairwise_map]
  refine List.Pairwise.imp_of_mem (fun {x y} hx hy hxy => ?_) hup
  have hne : x.path ≠ y.path := fun e => by rw [e] at hxy; rw [show ltS y.path y.path = false from lt_irr _] at hxy; cases hxy
  show (mvS p q x).path ≠ (mvS p q y).path
  unfold mvS
  cases h1 : belowB p.data.toList x.path.data.toList <;> cases h2 : belowB p.data.toList y.path.data.toList
  · exact hne
  · exact hnot x hx y.path h2
  · exact fun e => hnot y hy x.path h1 e.symm
  · exact fun e => hne (movedP_inj h1 h2 e)
/-- What the model asks of a move. -/
def mayS (es : List Ent) (p q : ByteArray) : Bool := thereE es p && (!thereE es q && (pathB q.data.toList && (!belowB p.data.toList q.data.toList && dirE es (upS q))))
theorem may_eq {es : List Ent} {p q : ByteArray} (ht : treeB es = true) : mayB es p q = mayS es p q := by
  unfold mayB mayS
  cases h1 : thereE es p
  · rfl
  · obtain ⟨x, hx, hxp⟩ := there_get h1
    have hp : pathB p.data.toList = true := by rw [← hxp]; exact ent_pathB (tree_ent ht hx)
    cases h2 : thereE es q
    · cases h3 : pathB q.data.toList
      · rfl
      · unfold inB pathUpS; rw [hp, h3]; rfl
    · rfl
theorem place_eq {es : List Ent} {p q : ByteArray} (ht : treeB es = true) (hp : pathB p.data.toList = true) (hq : pathB q.data.toList = true) {e : Ent} (he : e ∈ es) : (!(placeM p q e).toList.isEmpty) = pathB (mvS p q e).path.data.toList ∧ (pathB (mvS p q e).path.data.toList = true → mvE p q e = mvS p q e) := by
  have hpe := ent_pathB (tree_all ht e he)
  have hib : inB p.data.toList e.path.data.toList = belowB p.data.toList e.path.data.toList := by unfold inB; rw [hp, hpe]; rfl
  unfold mvE placeM mvS
  rw [hib]
  cases h1 : belowB p.data.toList e.path.data.toList
  · refine ⟨?_, fun _ => rfl⟩
    have := pathB_ne _ hpe
    simp only [Bool.false_eq_true, if_false]
    rw [hpe, Lib.toList_data]
    simpa using this
  · simp only [if_true]
    have hm : moveS e.path p q = if pathB (movedP p q e.path).data.toList then movedP p q e.path else ⟨#[]⟩ := by
      unfold moveS; rw [hib, h1, hq]; rfl
    rw [hm]
    cases h2 : pathB (movedP p q e.path).data.toList
    · refine ⟨by simp [Lib.toList_data], fun h => by cases h⟩
    · refine ⟨?_, fun _ => rfl⟩
      have := pathB_ne _ h2
      simp only [if_true]
      rw [Lib.toList_data]
      simpa using this
theorem move_spec {es : List Ent} {p q : ByteArray} (ht : treeB es = true) : moveOk p q es = (mayS es p q && mvAllS p q es) ∧ moveR p q es = if (mayS es p q && mvAllS p q es) then sortL (es.map (mvS p q)) else es := by
  unfold moveR moveOk
  rw [keptE_yes ht, may_eq ht]
  cases hm : mayS es p q
  · exact ⟨rfl, rfl⟩
  · unfold mayS at hm
    simp only [Bool.and_eq_true, Bool.not_eq_true'] at hm
    obtain ⟨h1, h2, hq, _⟩ := hm
    obtain ⟨x, hx, hxp⟩ := there_get h1
    have hp : pathB p.data.toList = true := by rw [← hxp]; exact ent_pathB (tree_ent ht hx)
    have hall : moveAll p q es = mvAllS p q es := by
      unfold moveAll mvAllS
      rw [Bool.eq_iff_iff, List.all_eq_true, List.all_eq_true]
      exact ⟨fun h e he => by rw [← (place_eq ht hp hq he).1]; exact h e he, fun h e he => by rw [(place_eq ht hp hq he).1]; exact h e he⟩
    rw [hall]
    refine ⟨rfl, ?_⟩
    cases h3 : mvAllS p q es
    · rfl
    · have hmap : es.map (mvE p q) = es.map (mvS p q) := List.map_congr_left (fun e he => (place_eq ht hp hq he).2 (List.all_eq_true.1 h3 e he))
      simp only [Bool.and_self, if_true]
      rw [hmap, sort_put _ (moved_nodup ht hq h2)]
end Go.Proofs.YtfphpggjcljliaaGreat

/- A place of a tree moved, by the model. -/
namespace Go.Proofs.YtfphpggjcljliaaGreat
open Go.RowKit Go.Shelf

def mvTo (p q : ByteArray) (es : List Ent) (k : Nat) : List Ent := (es.take k).map (mvS p q)
def moveL (p q : ByteArray) (es : List Ent) : List Ent := if (mayS es p q && mvAllS p q es) then sortL (es.map (mvS p q)) else es

end Go.Proofs.YtfphpggjcljliaaGreat

/- What is moved in a tree: the model's answer. -/
namespace Go.Proofs.YtfphpggjcljliaaGreat
open Go.RowKit Go.Shelf

theorem moveR_len (p q : ByteArray) (es : List Ent) : (moveR p q es).length ≤ 100 := by
  have := (kept_asc es).2
  unfold moveR
  split
  · have h := putAll_len ((keptE es).map (mvE p q))
    rw [List.length_map] at h
    omega
  · omega

end Go.Proofs.YtfphpggjcljliaaGreat

/- What was moved is a tree, and moved back it is as it was. -/
namespace Go.Proofs.YtfphpggjcljliaaGreat
open Go.RowKit Go.Shelf

theorem putAll_iff : ∀ xs : List Ent, (xs.map (·.path)).Nodup → (∀ x, x ∈ putAll xs ↔ x ∈ xs) ∧ (putAll xs).length = xs.length := snoc_ind (fun _ => ⟨fun _ => Iff.rfl, rfl⟩) (fun xs x ih h => by
  rw [List.map_append, List.nodup_append] at h
  obtain ⟨i1, i2⟩ := ih h.1
  have hu := putAll_up xs
  have hne : ∀ y ∈ xs, y.path ≠ x.path := fun y hy => h.2.2 y.path (List.mem_map.2 ⟨y, hy, rfl⟩) x.path (by simp)
  rw [putAll_snoc]
  refine ⟨fun y => ?_, ?_⟩
  · rw [putT_iff hu, i1, List.mem_append, List.mem_singleton]
    constructor
    · rintro (h | ⟨h, _⟩)
      · exact .inr h
      · exact .inl h
    · rintro (h | h)
      · exact .inr ⟨h, hne y h⟩
      · exact .inl h
  · have ht : thereE (putAll xs) x.path = false := by
      cases ht : thereE (putAll xs) x.path
      · rfl
      · obtain ⟨y, hy, hp⟩ := (there_iff hu _).1 ht
        exact absurd hp (hne y ((i1 y).1 hy))
    unfold putT
    rw [ht]
    simp only [Bool.false_eq_true, if_false]
    rw [insAt_len, i2]; simp)
theorem lastIx_app (b : UInt8) (c : List UInt8) (hc : 0 ≤ lastIx b c) : ∀ a : List UInt8, lastIx b (a ++ c) = a.length + lastIx b c
  | [] => by simp
  | x :: a => by
    have ih := lastIx_app b c hc a
    rw [List.cons_append]
    rw [show lastIx b (x :: (a ++ c)) = if 0 ≤ lastIx b (a ++ c) then lastIx b (a ++ c) + 1 else if x == b then 0 else -1 from rfl, ih, if_pos (by omega)]
    simp; omega
theorem lastIx_slash (t : List UInt8) : 0 ≤ lastIx 47 (47 :: t) := by
  unfold lastIx
  split
  · omega
  · simp
theorem take_slash (a t : List UInt8) : (a ++ 47 :: t).take (lastIx 47 (a ++ 47 :: t)).toNat = a ++ (47 :: t).take (lastIx 47 (47 :: t)).toNat := by
  have h := lastIx_slash t
  rw [lastIx_app 47 (47 :: t) h a]
  have : ((a.length : Int) + lastIx 47 (47 :: t)).toNat = a.length + (lastIx 47 (47 :: t)).toNat := by omega
  rw [this, List.take_length_add_append]
theorem upS_list {s : ByteArray} (hi : 0 ≤ lastIx 47 s.data.toList) : (upS s).data.toList = s.data.toList.take (lastIx 47 s.data.toList).toNat := by
  unfold upS
  rw [if_neg (by omega), Lib.extract_data]
  simp
theorem upS_moved {p q s : ByteArray} {t : List UInt8} (hs : s.data.toList = p.data.toList ++ 47 :: t) : upS (movedP p q s) = movedP p q (upS s) ∧ (upS s).data.toList = p.data.toList ++ (47 :: t).take (lastIx 47 (47 :: t)).toNat := by
  have h1 : (movedP p q s).data.toList = q.data.toList ++ 47 :: t := by rw [movedP_list, hs, List.drop_left]
  have i0 := lastIx_slash t
  have i1 : 0 ≤ lastIx 47 s.data.toList := by rw [hs, lastIx_app 47 _ i0]; omega
  have i2 : 0 ≤ lastIx 47 (movedP p q s).data.toList := by rw [h1, lastIx_app 47 _ i0]; omega
  have e1 : (upS s).data.toList = p.data.toList ++ (47 :: t).take (lastIx 47 (47 :: t)).toNat := by rw [upS_list i1, hs, take_slash]
  refine ⟨?_, e1⟩
  apply bytes_ext
  rw [upS_list i2, h1, take_slash, movedP_list, e1, List.drop_left]
theorem below_trans {a b c : List UInt8} (h : belowB a b = true) (g : belowB b c = true) : belowB a c = true := by
  rcases belowB_cases h with rfl | ⟨t, rfl⟩
  · exact g
  · rcases belowB_cases g with rfl | ⟨u, rfl⟩
    · exact belowB_app _ _
    · rw [List.append_assoc]
      exact belowB_app _ _
theorem mv_back {p q s : ByteArray} (h : belowB p.data.toList s.data.toList = true) : movedP q p (movedP p q s) = s := by
  apply bytes_ext
  rw [movedP_list, movedP_list, List.drop_left]
  exact (below_drop h).1.symm
theorem below_there {es : List Ent} {q : ByteArray} (h : treeB es = true) (hq : pathB q.data.toList = true) (hno : thereE es q = false) : ∀ e ∈ es, belowB q.data.toList e.path.data.toList = false := fun e he => by
  cases hb : belowB q.data.toList e.path.data.toList
  · rfl
  · rw [in_there h _ e he (Nat.le_refl _) (inB_mk hq (ent_pathB (tree_all h e he)) hb)] at hno; cases hno

structure MoveF (es : List Ent) (p q : ByteArray) (X : List Ent) : Prop where
  mem : ∀ x, x ∈ X ↔ ∃ e ∈ es, x = mvS p q e
  tree : treeB X = true
  len : X.length = es.length
  gone : thereE X p = false
  back : moveOk q p X = true
  same : moveR q p X = es
theorem move_facts {es : List Ent} {p q : ByteArray} (h : treeB es = true) (hm : moveOk p q es = true) : MoveF es p q (moveR p q es) ∧ pathB p.data.toList = true ∧ pathB q.data.toList = true ∧ ∀ e ∈ es, pathB (mvS p q e).path.data.toList = true := by
  obtain ⟨e1, e2⟩ := move_spec (p := p) (q := q) h
  rw [e1] at hm
  rw [hm, if_pos rfl] at e2
  rw [Bool.and_eq_true] at hm
  obtain ⟨hmay, hall⟩ := hm
  unfold mayS at hmay
  simp only [Bool.and_eq_true, Bool.not_eq_true'] at hmay
  obtain ⟨tp, nq, hq, nbelow, dq⟩ := hmay
  have hu := tree_up h
  obtain ⟨x0, hx0, hx0p⟩ := (there_iff hu p).1 tp
  have hp : pathB p.data.toList = true := by rw [← hx0p]; exact ent_pathB (tree_all h x0 hx0)
  have hpb : ∀ e ∈ es, pathB (mvS p q e).path.data.toList = true := fun e he => List.all_eq_true.1 hall e he
  have hnd := moved_nodup (p := p) h hq nq
  obtain ⟨m1, m2⟩ := putAll_iff _ hnd
  have hX : moveR p q es = putAll (es.map (mvS p q)) := by rw [e2, sort_put _ hnd]
  have hmem : ∀ x, x ∈ moveR p q es ↔ ∃ e ∈ es, x = mvS p q e := fun x => by
    rw [hX, m1, List.mem_map]
    constructor
    · rintro ⟨e, he, rfl⟩; exact ⟨e, he, rfl⟩
    · rintro ⟨e, he, rfl⟩; exact ⟨e, he, rfl⟩
  have hlen : (moveR p q es).length = es.length := by rw [hX, m2]; simp
  have huX : Up (moveR p q es) := by rw [hX]; exact putAll_up _
  have nbq : ∀ e ∈ es, belowB q.data.toList e.path.data.toList = false := below_there h hq nq
  have stay : ∀ d ∈ es, belowB p.data.toList d.path.data.toList = false → d ∈ moveR p q es := fun d hd hb => (hmem d).2 ⟨d, hd, by unfold mvS; rw [hb]; rfl⟩
  have went : ∀ d ∈ es, belowB p.data.toList d.path.data.toList = true → { d with path := movedP p q d.path } ∈ moveR p q es := fun d hd hb => (hmem _).2 ⟨d, hd, by unfold mvS; rw [hb]; rfl⟩
  obtain ⟨g1, _, g3, g4⟩ := (tree_iff es).1 h
  have hT : treeB (moveR p q es) = true := by
    refine (tree_iff _).2 ⟨fun x hx => ?_, huX, fun x hx => ?_, by rw [hlen]; exact g4⟩
    · obtain ⟨e, he, rfl⟩ := (hmem x).1 hx
      have h1 := g1 e he
      have h2 := hpb e he
      unfold mvS at h2 ⊢
      split
      · rename_i hb
        rw [if_pos hb] at h2
        unfold entB at h1 ⊢
        rw [Bool.and_eq_true] at h1 ⊢
        exact ⟨h2, h1.2⟩
      · exact h1
    · obtain ⟨e, he, rfl⟩ := (hmem x).1 hx
      have hpe := ent_pathB (g1 e he)
      unfold mvS
      cases hb : belowB p.data.toList e.path.data.toList
      · simp only [Bool.false_eq_true, if_false]
        rcases g3 e he with h0 | ⟨d, hd, hdp, hk⟩
        · exact .inl h0
        · by_cases hem : (upS e.path).toList.isEmpty = true
          · exact .inl hem
          · refine .inr ⟨d, stay d hd ?_, hdp, hk⟩
            cases hbd : belowB p.data.toList d.path.data.toList
            · rfl
            · have := (inB_parts (up_in hpe (by simpa using hem))).2.2
              rw [← hdp] at this
              rw [below_trans hbd this] at hb
              cases hb
      · simp only [if_true]
        rcases belowB_cases hb with heq | ⟨t, ht⟩
        · have hep : e.path = p := bytes_ext heq
          have hmq : movedP p q e.path = q := by
            rw [hep]
            apply bytes_ext
            rw [movedP_list]; simp
          show DirIn (moveR p q es) (upS (movedP p q e.path))
          rw [hmq]
          rcases (dir_iff hu _).1 dq with h0 | ⟨d, hd, hdp, hk⟩
          · exact .inl h0
          · by_cases hem : (upS q).toList.isEmpty = true
            · exact .inl hem
            · refine .inr ⟨d, stay d hd ?_, hdp, hk⟩
              cases hbd : belowB p.data.toList d.path.data.toList
              · rfl
              · have := (inB_parts (up_in hq (by simpa using hem))).2.2
                rw [← hdp] at this
                rw [below_trans hbd this] at nbelow
                cases nbelow
        · obtain ⟨um, ul⟩ := upS_moved (q := q) ht
          show DirIn (moveR p q es) (upS (movedP p q e.path))
          rw [um]
          rcases g3 e he with h0 | ⟨d, hd, hdp, hk⟩
          · exfalso
            rw [Lib.toList_data, ul] at h0
            have := pathB_ne _ hp
            simp at h0
            exact this (by simpa using h0.1)
          · have hbd : belowB p.data.toList d.path.data.toList = true := by
              rw [hdp, ul]
              have i0 := lastIx_slash t
              cases hz : (lastIx 47 (47 :: t)).toNat with
              | zero => simp [belowB_refl]
              | succ n => rw [List.take_succ_cons]; exact belowB_app _ _
            exact .inr ⟨_, went d hd hbd, by show movedP p q d.path = _; rw [hdp], hk⟩
  have hgone : thereE (moveR p q es) p = false := by
    cases ht : thereE (moveR p q es) p
    · rfl
    · exfalso
      obtain ⟨x, hx, hxp⟩ := (there_iff huX p).1 ht
      obtain ⟨e, he, rfl⟩ := (hmem x).1 hx
      unfold mvS at hxp
      cases hb : belowB p.data.toList e.path.data.toList
      · rw [hb] at hxp
        simp only [Bool.false_eq_true, if_false] at hxp
        rw [hxp, belowB_refl] at hb; cases hb
      · rw [hb] at hxp
        simp only [if_true] at hxp
        have h1 := movedP_below (q := q) hb
        rw [hxp] at h1
        rw [← hx0p, nbq x0 hx0] at h1
        cases h1
  have hqX : thereE (moveR p q es) q = true := by
    refine (there_iff huX q).2 ⟨_, went x0 hx0 (by rw [hx0p]; exact belowB_refl _), ?_⟩
    show movedP p q x0.path = q
    rw [hx0p]
    apply bytes_ext
    rw [movedP_list]; simp
  have nqp : belowB q.data.toList p.data.toList = false := by rw [← hx0p]; exact nbq x0 hx0
  have hdp : dirE (moveR p q es) (upS p) = true := by
    refine (dir_iff huX _).2 ?_
    have hx := g3 x0 hx0
    rw [hx0p] at hx
    rcases hx with h0 | ⟨d, hd, hdd, hk⟩
    · exact .inl h0
    · by_cases hem : (upS p).toList.isEmpty = true
      · exact .inl hem
      · refine .inr ⟨d, stay d hd ?_, hdd, hk⟩
        refine belowB_long ?_
        rw [hdd]
        have hin := inB_parts (up_in hp (by simpa using hem))
        have hi : 0 ≤ lastIx 47 p.data.toList := by
          refine Int.not_lt.1 (fun hlt => hem ?_)
          unfold upS; rw [if_pos hlt]; decide +kernel
        have hg := (List.getElem?_eq_some_iff.1 (lastIx_get 47 p.data.toList hi)).1
        rw [upS_list hi, List.length_take]; omega
  have hback : ∀ e ∈ es, mvS q p (mvS p q e) = e := fun e he => by
    unfold mvS
    cases hb : belowB p.data.toList e.path.data.toList
    · simp only [Bool.false_eq_true, if_false]
      rw [nbq e he]; rfl
    · simp only [if_true]
      rw [movedP_below (q := q) hb, if_pos rfl, mv_back hb]
  have hmay2 : mayS (moveR p q es) q p = true := by
    unfold mayS
    rw [hqX, hgone, hp, nqp, hdp]; rfl
  have hall2 : mvAllS q p (moveR p q es) = true := by
    unfold mvAllS
    rw [List.all_eq_true]
    intro x hx
    obtain ⟨e, he, rfl⟩ := (hmem x).1 hx
    rw [hback e he]
    exact ent_pathB (g1 e he)
  obtain ⟨b1, b2⟩ := move_spec (p := q) (q := p) hT
  rw [hmay2, hall2, Bool.and_self] at b1 b2
  rw [if_pos rfl] at b2
  have hnd2 := moved_nodup (p := q) hT hp hgone
  obtain ⟨n1, _⟩ := putAll_iff _ hnd2
  refine ⟨⟨hmem, hT, hlen, hgone, b1, ?_⟩, hp, hq, hpb⟩
  rw [b2, sort_put _ hnd2]
  refine up_ext (putAll_up _) hu (fun x => ?_)
  rw [n1, List.mem_map]
  constructor
  · rintro ⟨y, hy, rfl⟩
    obtain ⟨e, he, rfl⟩ := (hmem y).1 hy
    rw [hback e he]; exact he
  · intro hx
    exact ⟨mvS p q x, (hmem _).2 ⟨x, hx, rfl⟩, hback x hx⟩
end Go.Proofs.YtfphpggjcljliaaGreat

/- A part of a tree: what a pattern takes, and the dirs that it is in. -/
namespace Go.Proofs.YtfphpggjcljliaaGreat
open Go.RowKit Go.Shelf

theorem up_sub : ∀ (K L : List Ent), Up K → Up L → (∀ x ∈ L, x ∈ K) → L.length ≤ K.length
  | [], L, _, _, h => by
    cases L with
    | nil => simp
    | cons l L => exact absurd (h l (by simp)) (by simp)
  | k :: K, [], _, _, _ => by simp
  | k :: K, l :: L, hK, hL, h => by
    have hirr : ∀ a : ByteArray, ltS a a = false := fun a => lt_irr _
    have hK' := List.pairwise_cons.1 hK
    have hL' := List.pairwise_cons.1 hL
    by_cases e : l = k
    · subst e
      have := up_sub K L hK'.2 hL'.2 (fun x hx => by
        rcases List.mem_cons.1 (h x (by simp [hx])) with e | hm
        · subst e; have := hL'.1 x hx; rw [hirr] at this; cases this
        · exact hm)
      simp; omega
    · have hl : l ∈ K := (List.mem_cons.1 (h l (by simp))).resolve_left e
      have hlt := hK'.1 l hl
      have := up_sub K (l :: L) hK'.2 hL (fun x hx => by
        rcases List.mem_cons.1 (h x hx) with e2 | hm
        · subst e2
          rcases List.mem_cons.1 hx with e3 | hm2
          · exact absurd e3.symm e
          · have := lt_trans' hlt (hL'.1 x hm2); rw [hirr] at this; cases this
        · exact hm)
      simp at this ⊢; omega
/-- What is in the way up from a place. -/
theorem below_up {x a : ByteArray} (ha : pathB a.data.toList = true) (hx : pathB x.data.toList = true) : belowB x.data.toList a.data.toList = true ↔ x = a ∨ ((pathUpS a).toList.isEmpty = false ∧ belowB x.data.toList (pathUpS a).data.toList = true) := by
  have hpu : pathUpS a = upS a := by unfold pathUpS; rw [ha]; rfl
  rw [hpu]
  constructor
  · intro h
    by_cases e : a.data.toList = x.data.toList
    · exact .inl (bytes_ext e.symm)
    · have hin := inB_mk hx ha h
      obtain ⟨h1, h2, _⟩ := in_up hin e
      rw [← upS_list h1] at h2
      have h3 := inB_parts h2
      refine .inr ⟨?_, h3.2.2⟩
      rw [Lib.toList_data]
      have := pathB_ne _ h3.2.1
      simpa using this
  · rintro (rfl | ⟨h1, h2⟩)
    · exact belowB_refl _
    · exact below_trans h2 (inB_parts (up_in ha h1)).2.2
def takenB (g : ByteArray) (e : Ent) : Bool := hasB g.data.toList e.path.data.toList
def neededB (g : ByteArray) (ks : List Ent) (d : ByteArray) : Bool := ks.any fun e => belowB d.data.toList e.path.data.toList && takenB g e
/-- The part, as the model tells it. -/
def partL (g : ByteArray) (ks : List Ent) : List Ent := ks.filter fun e => takenB g e || (e.kind == 1 && neededB g ks e.path)
theorem dir_above {ks : List Ent} (h : treeB ks = true) : ∀ (n : Nat) (e x : Ent), e ∈ ks → x ∈ ks → e.path.size ≤ n → belowB x.path.data.toList e.path.data.toList = true → x.path ≠ e.path → x.kind = 1
  | n, e, x, he, hx, hn, hb, hne => by
    have hpe := ent_pathB (tree_all h e he)
    have hpx := ent_pathB (tree_all h x hx)
    rcases (below_up hpe hpx).1 hb with e1 | ⟨h1, h2⟩
    · exact absurd e1 hne
    · have hpu : pathUpS e.path = upS e.path := by unfold pathUpS; rw [hpe]; rfl
      rw [hpu] at h1 h2
      obtain ⟨_, hu, g3, _⟩ := (tree_iff ks).1 h
      rcases g3 e he with h0 | ⟨d, hd, hdp, hk⟩
      · rw [h0] at h1; cases h1
      · by_cases hxd : x.path = d.path
        · rw [path_uniq hu hx hd hxd]; exact hk
        · have hi : 0 ≤ lastIx 47 e.path.data.toList := by
            refine Int.not_lt.1 (fun hlt => ?_)
            unfold upS at h1; rw [if_pos hlt] at h1
            revert h1; decide +kernel
          have hg := (List.getElem?_eq_some_iff.1 (lastIx_get 47 e.path.data.toList hi)).1
          have hsz : d.path.size < e.path.size := by
            rw [hdp, Lib.size_eq, Lib.size_eq, upS_list hi, List.length_take]; omega
          match n with
          | 0 => omega
          | n + 1 => exact dir_above h n d x hd hx (by omega) (by rw [hdp]; exact h2) hxd
theorem partL_iff {g : ByteArray} {ks : List Ent} (h : treeB ks = true) (x : Ent) : x ∈ partL g ks ↔ x ∈ ks ∧ ∃ e ∈ ks, takenB g e = true ∧ belowB x.path.data.toList e.path.data.toList = true := by
  unfold partL
  rw [List.mem_filter]
  constructor
  · rintro ⟨hx, hc⟩
    refine ⟨hx, ?_⟩
    rw [Bool.or_eq_true] at hc
    rcases hc with hc | hc
    · exact ⟨x, hx, hc, belowB_refl _⟩
    · rw [Bool.and_eq_true] at hc
      obtain ⟨e, he, hb⟩ := List.any_eq_true.1 hc.2
      rw [Bool.and_eq_true] at hb
      exact ⟨e, he, hb.2, hb.1⟩
  · rintro ⟨hx, e, he, ht, hb⟩
    refine ⟨hx, ?_⟩
    rw [Bool.or_eq_true]
    by_cases hp : x.path = e.path
    · have := path_uniq (tree_up h) hx he hp
      subst this
      exact .inl ht
    · right
      rw [Bool.and_eq_true]
      refine ⟨by rw [dir_above h _ e x he hx (Nat.le_refl _) hb hp]; rfl, List.any_eq_true.2 ⟨e, he, by rw [hb, ht]; rfl⟩⟩
theorem partL_up {g : ByteArray} {ks : List Ent} (h : Up ks) : Up (partL g ks) := List.Pairwise.filter _ h
theorem partL_len (g : ByteArray) (ks : List Ent) : (partL g ks).length ≤ ks.length := List.length_filter_le _ _
end Go.Proofs.YtfphpggjcljliaaGreat

/- What is put with all dirs that it is in. -/
namespace Go.Proofs.YtfphpggjcljliaaGreat
open Go.RowKit Go.Shelf

theorem getV_mem {ks : List Ent} (h : Up ks) {e : Ent} (he : e ∈ ks) : getV ks e.path = nodeV e := by
  have := there_mem h he
  unfold getV
  rw [this.1, this.2]; rfl
theorem empty_iff (a : ByteArray) : a.toList.isEmpty = true ↔ a = ⟨#[]⟩ := by
  constructor
  · exact empty_of
  · rintro rfl; decide +kernel

def textLen : Value → Nat
  | .string x => x.size
  | _ => 0

set_option maxRecDepth 100000 in
set_option maxHeartbeats 4000000 in
theorem withDirs_any (N N2 bp : Nat) (ps ks : List Ent) (ap an : Option Addr) (cp cn : Nat) (p : ByteArray) (w : World) (hT : treeB ks = true) (hp : ∃ e ∈ ks, e.path = p) (hps : ∀ x ∈ ps, x ∈ ks) (hup : Up ps) (hN : N ≤ bp) (hNw : N ≤ w.heap.size)
    (hrows : RowsAt w N2 (.slice ap ks.length cp) (.slice an ks.length cn) ks) (hl1 : ∀ g, (Value.slice ap ks.length cp).ownBlock = some g → g < N) (hl2 : ∀ g, (Value.slice an ks.length cn).ownBlock = some g → g < N) (hpart : TreeAt w N bp ps) :
    Calls Tryz.prog 20 #[.pointer (some ⟨bp, 0, none⟩), .agg #[.slice ap ks.length cp, .slice an ks.length cn], .string p] w fun x w' => (∃ v, x = .returned v) ∧ ∃ L, TreeAt w' N bp L ∧ Up L ∧ (∀ x, x ∈ L ↔ x ∈ ps ∨ (x ∈ ks ∧ belowB x.path.data.toList p.data.toList = true)) ∧ Kept N bp w w' := by
  obtain ⟨w0, hw0⟩ : ∃ w0, w0 = w.alloc (.cells #[.slice ap ks.length cp, .slice an ks.length cn] 44) := ⟨_, rfl⟩
  have hB0 : Below w.heap.size w w0 := by rw [hw0]; exact (Below.refl _ w).alloc (Nat.le_refl _) _
  have hbox : w0.heap[w.heap.size]? = some (.cells #[.slice ap ks.length cp, .slice an ks.length cn] 44 (0, 0)) := by rw [hw0]; exact World.alloc_heap_new _ _
  have hu := tree_up hT
  have h16 := tree_16 hT
  have hbpl := hpart.lt
  have HS := hid (show TreeAt w0 N bp ps ∧ RowsAt w0 N2 (.slice ap ks.length cp) (.slice an ks.length cn) ks from ⟨hpart.below hB0, ownsRow_kept hrows.1 (fun g e => hB0.block g (hrows.1.lt g e).2), ownsRow_kept hrows.2 (fun g e => hB0.block g (hrows.2.lt g e).2)⟩)
  have HK0 := hid (Kept.of_below (bt := bp) hB0 hNw)
  have HX := hid (And.intro hbox (And.intro hl1 hl2))
  have HW0 := hid hw0
  have hlt0 : w.heap.size < w0.heap.size := (Array.getElem?_eq_some_iff.1 hbox).1
  have HPS := hid (And.intro hps (And.intro hup (And.intro hT hu)))
  have HP := hid hp
  clear hw0 hB0 hbox hrows hpart hps hup hT hp hl1 hl2
  go_enter Tryz.func20, Tryz.ntmps20
  go_wp2_with fail
  rw [← unhid HW0]
  go_loopw [6, 7, 8] (fun at' _ _ wr => ∃ (a : ByteArray) (L : List Ent), at' = .string a ∧ a.size ≤ 54 ∧ Hid ((a = ⟨#[]⟩ ∨ ∃ e ∈ ks, e.path = a) ∧ (a ≠ ⟨#[]⟩ → belowB a.data.toList p.data.toList = true) ∧ TreeAt wr N bp L ∧ Up L ∧ (∀ x, x ∈ L ↔ x ∈ ps ∨ (x ∈ ks ∧ belowB x.path.data.toList p.data.toList = true ∧ (a = ⟨#[]⟩ ∨ belowB x.path.data.toList a.data.toList = false))) ∧ Kept N bp w0 wr)) (fun a _ _ _ => textLen a)
  case atStart =>
    obtain ⟨e0, he0, hp0⟩ := unhid HP
    have hsz := ent_path_len (tree_all (unhid HPS).2.2.1 e0 he0)
    have hpb := ent_pathB (tree_all (unhid HPS).2.2.1 e0 he0)
    rw [hp0] at hsz hpb
    refine ⟨p, ps, rfl, hsz, hid ⟨.inr ⟨e0, he0, hp0⟩, fun _ => belowB_refl _, (unhid HS).1, (unhid HPS).2.1, fun x => ?_, ⟨Below.refl _ _, fun _ _ _ h _ => h⟩⟩⟩
    constructor
    · exact .inl
    · rintro (h | ⟨_, h1, h2 | h2⟩)
      · exact h
      · exfalso; rw [h2] at hpb; revert hpb; decide +kernel
      · rw [h1] at h2; cases h2
  case round =>
    obtain ⟨a, L, rfl, hsz, HI⟩ := hrel
    cases hem : a.toList.isEmpty
    · obtain ⟨e, he, hea⟩ := (unhid HI).1.resolve_left (fun e => by rw [e] at hem; revert hem; decide +kernel)
      subst hea
      have hpb := ent_pathB (tree_all (unhid HPS).2.2.1 e he)
      have hne : e.path ≠ ⟨#[]⟩ := fun e0 => by rw [e0] at hem; revert hem; decide +kernel
      have hlen : L.length ≤ 16 := Nat.le_trans (up_sub ks L (unhid HPS).2.2.2 (unhid HI).2.2.2.1 (fun x hx => by
        rcases ((unhid HI).2.2.2.2.1 x).1 hx with h | h
        · exact (unhid HPS).1 x h
        · exact h.1)) h16
      have hbw : wr.heap[w.heap.size]? = some (.cells #[.slice ap ks.length cp, .slice an ks.length cn] 44 (0, 0)) := (unhid HI).2.2.2.2.2.2 _ _ (by omega) (unhid HX).1 (fun _ _ _ e => by cases e; decide)
      have hrw : RowsAt wr N2 (.slice ap ks.length cp) (.slice an ks.length cn) ks := ⟨ownsRow_kept (unhid HS).2.1 (fun g eg => (unhid HI).2.2.2.2.2.1.block g ((unhid HX).2.1 g eg)), ownsRow_kept (unhid HS).2.2 (fun g eg => (unhid HI).2.2.2.2.2.1.block g ((unhid HX).2.2 g eg))⟩
      have GET := hid (mapGet_any N2 w.heap.size ks e.path wr (by omega) (up_asc (unhid HPS).2.2.2) ⟨_, _, hbw, hrw.1, hrw.2⟩)
      have PUT := hid (mapPut_any N bp L e wr (by omega) (up_asc (unhid HI).2.2.2.1) hN (unhid HI).2.2.1)
      have GM := hid (getV_mem (unhid HPS).2.2.2 he)
      have TM := hid (there_mem (unhid HPS).2.2.2 he).1
      have HE := hid he
      obtain ⟨T0, nv, hnv⟩ := nodeV_shape e
      rw [hnv] at PUT GM
      have hsm : (pathUpS e.path).size < e.path.size := by
        have hpu : pathUpS e.path = upS e.path := by unfold pathUpS; rw [hpb]; rfl
        rw [hpu]
        by_cases hi : 0 ≤ lastIx 47 e.path.data.toList
        · have hg := (List.getElem?_eq_some_iff.1 (lastIx_get 47 e.path.data.toList hi)).1
          rw [Lib.size_eq, Lib.size_eq, upS_list hi, List.length_take]; omega
        · unfold upS; rw [if_pos (by omega)]
          show 0 < e.path.size
          rw [Lib.size_eq]
          have := pathB_ne _ hpb
          exact List.length_pos_iff.2 this
      have NEXT := hid (show (pathUpS e.path = ⟨#[]⟩ ∨ ∃ d ∈ ks, d.path = pathUpS e.path) ∧ (pathUpS e.path ≠ ⟨#[]⟩ → belowB (pathUpS e.path).data.toList p.data.toList = true) ∧ (∀ x, x ∈ putT L e ↔ x ∈ ps ∨ (x ∈ ks ∧ belowB x.path.data.toList p.data.toList = true ∧ (pathUpS e.path = ⟨#[]⟩ ∨ belowB x.path.data.toList (pathUpS e.path).data.toList = false))) by
        obtain ⟨i1, i2, i3, i4, i5, i6⟩ := unhid HI
        have hpu : pathUpS e.path = upS e.path := by unfold pathUpS; rw [hpb]; rfl
        have hT := (unhid HPS).2.2.1
        refine ⟨?_, fun hn => ?_, fun x => ?_⟩
        · rcases ((tree_iff ks).1 hT).2.2.1 e he with h0 | ⟨d, hd, hdp, _⟩
          · left; rw [hpu]; exact (empty_iff _).1 h0
          · right; exact ⟨d, hd, by rw [hpu]; exact hdp⟩
        · have h1 : (upS e.path).toList.isEmpty = false := by
            cases h : (upS e.path).toList.isEmpty
            · rfl
            · exact absurd (by rw [hpu]; exact (empty_iff _).1 h) hn
          rw [hpu]
          exact below_trans (inB_parts (up_in hpb h1)).2.2 (i2 hne)
        · rw [putT_iff i4, i5]
          constructor
          · rintro (rfl | ⟨h1 | ⟨h1, h2, h3⟩, _⟩)
            · refine .inr ⟨he, i2 hne, ?_⟩
              by_cases h0 : pathUpS x.path = ⟨#[]⟩
              · exact .inl h0
              · right
                refine belowB_long ?_
                have := hsm
                rw [Lib.size_eq, Lib.size_eq] at this
                exact this
            · exact .inl h1
            · refine .inr ⟨h1, h2, ?_⟩
              by_cases h0 : pathUpS e.path = ⟨#[]⟩
              · exact .inl h0
              · right
                have h4 : belowB x.path.data.toList e.path.data.toList = false := h3.resolve_left hne
                cases hb : belowB x.path.data.toList (pathUpS e.path).data.toList
                · rfl
                · have := (below_up hpb (ent_pathB (tree_all hT x h1))).2 (.inr ⟨by
                    cases h : (pathUpS e.path).toList.isEmpty
                    · rfl
                    · exact absurd ((empty_iff _).1 h) h0, hb⟩)
                  rw [this] at h4; cases h4
          · intro h
            by_cases hxe : x = e
            · exact .inl hxe
            · refine .inr ⟨?_, fun hp2 => ?_⟩
              · rcases h with h | ⟨h1, h2, h3⟩
                · exact .inl h
                · refine .inr ⟨h1, h2, .inr ?_⟩
                  cases hb : belowB x.path.data.toList e.path.data.toList
                  · rfl
                  · rcases (below_up hpb (ent_pathB (tree_all hT x h1))).1 hb with e1 | ⟨e1, e2⟩
                    · exact absurd (path_uniq (unhid HPS).2.2.2 h1 he e1) hxe
                    · rcases h3 with h3 | h3
                      · rw [h3] at e1; revert e1; decide +kernel
                      · rw [h3] at e2; cases e2
              · have hxk : x ∈ ks := by
                  rcases h with h | h
                  · exact (unhid HPS).1 x h
                  · exact h.1
                exact hxe (path_uniq (unhid HPS).2.2.2 hxk he hp2))
      have HK := hid (And.intro (unhid HI).2.2.2.1 (unhid HI).2.2.2.2.2)
      clear HI hbw hrw he hne hlen hpb
      go_wp2_with fail
      refine (unhid GET).mono ?_
      rintro x w1 ⟨rfl, e1⟩
      subst e1
      rw [unhid GM, unhid TM]
      go_wp2_with fail
      refine (unhid PUT).mono ?_
      rintro x w2 ⟨⟨v, rfl⟩, hT2, hK2⟩
      have HT2 := hid (And.intro hT2 ((unhid HK).2.trans hK2))
      clear hT2 hK2
      go_wp2_with fail
      refine (PathUp_any e.path (by unfold maxLen; omega) w2).mono ?_
      rintro x w3 ⟨rfl, hB3⟩
      have HT3 := hid (And.intro ((unhid HT2).1.below hB3) ((unhid HT2).2.trans (Kept.of_below hB3 (by have := (unhid HT2).2.1.size; have := hNw; omega))))
      clear hB3 HT2
      have hup2 := hid (putT_up (e := e) (unhid HK).1)
      go_wp2_with fail
      go_roundw
      case rel => exact ⟨pathUpS e.path, putT L e, rfl, by omega, hid ⟨(unhid NEXT).1, (unhid NEXT).2.1, (unhid HT3).1, unhid hup2, (unhid NEXT).2.2, (unhid HT3).2⟩⟩
      case measure => exact hsm
    · have ha0 := (empty_iff a).1 hem
      subst ha0
      have HI2 := HI
      go_wp2_with fail
      go_end0
      obtain ⟨-, -, i3, i4, i5, i6⟩ := unhid HI2
      refine ⟨⟨_, rfl⟩, L, i3, i4, fun x => ?_, (unhid HK0).trans i6⟩
      rw [i5]
      constructor
      · rintro (h | ⟨h1, h2, _⟩)
        · exact .inl h
        · exact .inr ⟨h1, h2⟩
      · rintro (h | ⟨h1, h2⟩)
        · exact .inl h
        · exact .inr ⟨h1, h2, .inl (by trivial)⟩
end Go.Proofs.YtfphpggjcljliaaGreat

/- A part of a tree, by the program. -/
namespace Go.Proofs.YtfphpggjcljliaaGreat
open Go.RowKit Go.Shelf

attribute [local go_sem] Oper.semAt_some

def partR (g : ByteArray) (es : List Ent) : List Ent := partL g (keptE es)

set_option maxRecDepth 100000 in
set_option maxHeartbeats 4000000 in
theorem treePart_any (es : List Ent) (a : Option Addr) (cap : Nat) (g : ByteArray) (w : World) (hs : smallE es) (hg : g.size ≤ 1048576) (h : EntsAt w a es) :
    Calls Tryz.prog 6 #[.slice a es.length cap, .string g] w fun x w' => ∃ v, x = .returned v ∧ w'.ownsRow w.heap.size 30 4 v (partR g es).length (valsOf (partR g es)) ∧ Below w.heap.size w w' := by
  have H := hid (treeOf_any es a cap w hs h)
  clear hs h
  refine (callsIn_wide (n := 3)).1 ?_
  refine callsIn_of_wp_marks Tryz.func6 rfl trivial ?_ rfl
  simp only [Tryz.ntmps6, List.size_toArray, List.length_cons, List.length_nil, Nat.reduceAdd, Nat.reduceSub, Array.replicate_succ, Array.replicate_zero, List.push_toArray, List.append_toArray, List.nil_append, List.cons_append]
  gi_wp2
  refine ⟨trivial, (callsIn_wide.2 (unhid H)).mono ?_⟩
  rintro x w1 ⟨vp, vn, rfl, ⟨t2, t3⟩, hB⟩
  obtain ⟨ap, cp, rfl⟩ := ownsRow_slice t2
  obtain ⟨an, cn, rfl⟩ := ownsRow_slice t3
  obtain ⟨wt, hwt⟩ : ∃ wt, wt = w1.alloc (.cells #[.slice ap (keptE es).length cp, .slice an (keptE es).length cn] 44) := ⟨_, rfl⟩
  have hBt : Below w1.heap.size w1 wt := by rw [hwt]; exact (Below.refl _ w1).alloc (Nat.le_refl _) _
  have hBT : Below w.heap.size w wt := hB.trans (hBt.mono hB.size)
  have hRT : wt.heap[w1.heap.size]? = some (.cells #[.slice ap (keptE es).length cp, .slice an (keptE es).length cn] 44 (0, 0)) ∧ RowsAt wt w.heap.size (.slice ap (keptE es).length cp) (.slice an (keptE es).length cn) (keptE es) := ⟨by rw [hwt]; exact World.alloc_heap_new _ _, ownsRow_kept t2 (fun g e => hBt.block g (t2.lt g e).2), ownsRow_kept t3 (fun g e => hBt.block g (t3.lt g e).2)⟩
  have hlow := And.intro (fun g (e : (Value.slice ap (keptE es).length cp).ownBlock = some g) => (t2.lt g e).2) (fun g (e : (Value.slice an (keptE es).length cn).ownBlock = some g) => (t3.lt g e).2)
  have HT := hid (And.intro hBT (And.intro hRT hlow))
  have HWT := hid hwt
  have hw1 := hB.size
  clear hRT hBT hBt hB t2 t3 hwt H hlow
  gi_wp2
  rw [← unhid HWT]
  refine ⟨trivial, (callsIn_wide.2 (globOf_full g (by unfold maxLen; omega) wt)).mono ?_⟩
  rintro x w2 ⟨fv, rfl, hfv, hfn, hb2⟩
  obtain ⟨w3, hw3⟩ : ∃ w3, w3 = w2.alloc (.cells #[fv] 48) := ⟨_, rfl⟩
  have hB3 : Below w2.heap.size w2 w3 := by rw [hw3]; exact (Below.refl _ w2).alloc (Nat.le_refl _) _
  have hbt3 : w3.heap[w2.heap.size]? = some (.cells #[fv] 48 (0, 0)) := by rw [hw3]; exact World.alloc_heap_new _ _
  have HW3 := hid hw3
  clear hw3
  cases ho : globOkB g.data.toList
  · have hf0 := hfn ho
    subst hf0
    have HB := hid ((unhid HT).1.trans ((hb2.mono (unhid HT).1.size).trans (hB3.mono (Nat.le_trans (unhid HT).1.size hb2.size))))
    have E := hid (show partR g es = [] by
      unfold partR partL
      rw [List.filter_eq_nil_iff]
      intro x _
      have h1 : ∀ y, takenB g y = false := fun y => by unfold takenB hasB; rw [ho]; rfl
      have h2 : neededB g (keptE es) x.path = false := by unfold neededB; simp [h1]
      rw [h1, h2]; simp)
    clear hfv hfn hb2 hB3 hbt3
    gi_wp2
    rw [← unhid HW3]
    refine ⟨.slice none 0 0, ?_, _, rfl, by rw [unhid E]; exact World.ownsRow_nil _ _ _ _, unhid HB⟩
    simp [results, Tryz.f6, go_sem]
  · obtain ⟨b, v, xs, rfl, hbl, hcb, hN, hxs⟩ := hfv ho
    clear hfv hfn
    have hxn : namesW g.data.toList = xs := filter_some _ _ _ hxs
    have hl40 : g.data.toList.length ≤ 40 ∧ (cutB 47 g.data.toList).length ≤ 5 := by
      unfold globOkB at ho; simp only [Bool.and_eq_true, decide_eq_true_eq] at ho; exact ⟨ho.1.2, ho.1.1⟩
    have hxl : xs.length ≤ 1000 := by have := congrArg List.length hxs; simp at this; omega
    have hsm : ∀ x ∈ xs, small9 x := fun x hx => by
      have : some x ∈ (cutB 47 g.data.toList).map (fun p => nameW ⟨⟨p⟩⟩) := by rw [hxs]; exact List.mem_map.2 ⟨x, hx, rfl⟩
      obtain ⟨p, hp, hn⟩ := List.mem_map.1 this
      refine nameW_small hn ?_
      have := cutB_le 47 _ _ hp
      rw [Lib.size_eq]
      show p.length ≤ 1000
      omega
    have hz3 : w3.heap.size = w2.heap.size + 1 := by rw [unhid HW3]; simp
    obtain ⟨w4, hw4⟩ : ∃ w4, w4 = w3.alloc (.cells #[.slice none 0 0, .slice none 0 0] 44) := ⟨_, rfl⟩
    obtain ⟨w5, hw5⟩ : ∃ w5, w5 = w4.alloc (.cells #[.pointer (some ⟨w1.heap.size, 0, none⟩)] 82) := ⟨_, rfl⟩
    have hz4 : w4.heap.size = w2.heap.size + 1 + 1 := by rw [hw4]; simp [hz3]
    have hz5 : w5.heap.size = w2.heap.size + 1 + 1 + 1 := by rw [hw5]; simp [hz4]
    have hB34 : Below w3.heap.size w3 w4 := by rw [hw4]; exact (Below.refl _ w3).alloc (Nat.le_refl _) _
    have hB45 : Below w4.heap.size w4 w5 := by rw [hw5]; exact (Below.refl _ w4).alloc (Nat.le_refl _) _
    have hB25 : Below w2.heap.size w2 w5 := hB3.trans ((hB34.mono hB3.size).trans (hB45.mono (by omega)))
    have hBt5 : Below wt.heap.size wt w5 := hb2.trans (hB25.mono hb2.size)
    obtain ⟨hBT, ⟨hbt, hrp, hrn⟩, hlp, hln⟩ := unhid HT
    have hbtl : w1.heap.size < wt.heap.size := (Array.getElem?_eq_some_iff.1 hbt).1
    have hBw : Below w.heap.size w w5 := hBT.trans (hBt5.mono hBT.size)
    have hbox5 : w5.heap[w2.heap.size]? = some (.cells #[.func (.func 39) #[] #[.pointer (some ⟨b, 0, none⟩)]] 48 (0, 0)) := (hB45.block _ (by omega)).trans ((hB34.block _ (by omega)).trans hbt3)
    have hbn5 : w5.heap[w2.heap.size + 1 + 1]? = some (.cells #[.pointer (some ⟨w1.heap.size, 0, none⟩)] 82 (0, 0)) := by have := World.alloc_heap_new w4 (.cells #[.pointer (some ⟨w1.heap.size, 0, none⟩)] 82); rw [hz4] at this; rw [hw5]; exact this
    have hrows5 : RowsAt w5 w.heap.size (.slice ap (keptE es).length cp) (.slice an (keptE es).length cn) (keptE es) := ⟨ownsRow_kept hrp (fun g e => hBt5.block g (hrp.lt g e).2), ownsRow_kept hrn (fun g e => hBt5.block g (hrn.lt g e).2)⟩
    have hbt5 := (hBt5.block _ hbtl).trans hbt
    have hTI : TreeIn (w2.heap.size + 1 + 1) w1.heap.size w.heap.size (.slice ap (keptE es).length cp) (.slice an (keptE es).length cn) (keptE es) w5 := ⟨(cell_of_box_l hbn5).1, hbt5, hrows5⟩
    have hLT : TreeAt w5 (w2.heap.size + 1) (w2.heap.size + 1) [] := ⟨.slice none 0 0, .slice none 0 0, (hB45.block _ (by omega)).trans (by have := World.alloc_heap_new w3 (.cells #[.slice none 0 0, .slice none 0 0] 44); rw [hz3] at this; rw [hw4]; exact this), World.ownsRow_nil _ _ _ _, World.ownsRow_nil _ _ _ _⟩
    have HN := hid (And.intro hN (And.intro hsm (And.intro hxl (And.intro hcb (And.intro hxn (And.intro hbox5 (And.intro hB25 (And.intro hrows5 hbt5))))))))
    have HAL := hid (all_in Fence.wide 2 trivial rfl w1.heap.size w4)
    rw [hz4, ← hw5] at HAL
    have HW4 := hid hw4
    have hlp' : ∀ g, (Value.slice ap (keptE es).length cp).ownBlock = some g → g < w2.heap.size + 1 := fun g e => by have := hlp g e; have := hb2.size; omega
    have hln' : ∀ g, (Value.slice an (keptE es).length cn).ownBlock = some g → g < w2.heap.size + 1 := fun g e => by have := hln g e; have := hb2.size; omega
    have HLO := hid (And.intro hlp' hln')
    have hw2t := hb2.size
    clear hw4 hw5 hB34 hB45 hB25 hBt5 hrp hrn hlp hln hbt hbt3 hxs hl40 hxl hsm hxn hN hcb hB3 hb2 hlp' hln' hBT
    gi_wp2
    rw [← unhid HW3, ← unhid HW4]
    refine ⟨trivial, (unhid HAL).mono ?_⟩
    rintro x w6 ⟨rfl, e6⟩
    subst e6
    have hkl := (kept_asc es).2
    have hka := (kept_asc es).1
    have hkt : ∀ e ∈ keptE es, treeB (keptE es) = true := fun x hx => by
      cases htb : treeB es
      · rw [keptE_no htb] at hx; simp at hx
      · rw [keptE_yes htb]; exact htb
    have HPR := hid (show partR g es = partL g (keptE es) from rfl)
    generalize hks : keptE es = ks at *
    clear hks HT HWT HW3 HW4 HAL
    have hBr : Below (w2.heap.size + 1) w6 w6 := Below.refl _ _
    gi_wp2
    refine wpIn_rangeFunc_ownF rfl (by omega) (gf := 41) (lb := #[.pointer (some ⟨w2.heap.size + 1 + 1, 0, none⟩)]) rfl trivial (enters_of Tryz.func41 (by kernel_rfl) rfl)
      (all_stops Fence.wide _ trivial rfl (by omega) (w2.heap.size + 1 + 1) w1.heap.size w.heap.size (.slice ap ks.length cp) (.slice an ks.length cn) ks (by omega) (fun e => e ∈ ks) (fun _ h => h) _ hTI) (fun h g x => g (h x)) (fun W l o o' _ hl hc _ h => treeIn_grown h (grownBy_putObj' _ l o') (fun r e => by cases e; exact ⟨_, hl, hc⟩)) (Below.refl _ _) (fun _ => rfl)
      (fun pre W => ((∃ ps, TreeAt W (w2.heap.size + 1) (w2.heap.size + 1) ps ∧ Up ps ∧ (∀ x, x ∈ ps ↔ x ∈ ks ∧ ∃ e ∈ pre.map (·.1), takenB g e = true ∧ belowB x.path.data.toList e.path.data.toList = true)) ∧ TreeIn (w2.heap.size + 1 + 1) w1.heap.size w.heap.size (.slice ap ks.length cp) (.slice an ks.length cn) ks W ∧ W.heap[w2.heap.size + 1 + 1]? = some (.cells #[.pointer (some ⟨w1.heap.size, 0, none⟩)] 82 (0, 0))) ∧ Below (w2.heap.size + 1) w6 W)
      (fun _ _ _ => False)
      (OwnFrom.and (Own.from (fun s A B row hs hg hr => ⟨by obtain ⟨ps, h1, h2⟩ := hs.1; exact ⟨ps, treeAt_grown h1 hg hr, h2⟩, treeIn_grown hs.2.1 hg hr, cells_grown hg hr hs.2.2⟩) _) (ownFrom_below (by omega) (by omega)))
      (fun c => fun _ _ _ _ h _ _ => h)
      ⟨⟨⟨[], hLT, List.Pairwise.nil, fun x => ⟨(fun h => by cases h), (fun h => by obtain ⟨_, e, he, _⟩ := h; cases he)⟩⟩, hTI, hbn5⟩, hBr⟩
      (fun x => { tmps := #[.slice a es.length cap, .string g, undef, undef, .slice none 0 0, .pointer (some ⟨w1.heap.size, 0, none⟩), .bool (treeB es), .pointer (some ⟨w2.heap.size, 0, none⟩), .bool true, .pointer (some ⟨w2.heap.size + 1, 0, none⟩), .string x.1.path,
        .tuple #[.agg #[.slice ap ks.length cp, .slice an ks.length cn], .bool (treeB es)], .slice a es.length cap, .tuple #[.agg #[.slice ap ks.length cp, .slice an ks.length cn], .bool (treeB es)], .agg #[.slice ap ks.length cp, .slice an ks.length cn], .bool (treeB es), .tuple #[.func (.func 39) #[] #[.pointer (some ⟨b, 0, none⟩)], .bool true], .string g, .tuple #[.func (.func 39) #[] #[.pointer (some ⟨b, 0, none⟩)], .bool true], .func (.func 39) #[] #[.pointer (some ⟨b, 0, none⟩)], .bool true, .bool true, .bool false, .agg #[.slice none 0 0, .slice none 0 0],
        .pointer (some ⟨w1.heap.size, 0, none⟩), .func (.func 41) #[] #[.pointer (some ⟨w2.heap.size + 1 + 1, 0, none⟩)], .string x.1.path, nodeV x.1, undef, undef, undef, undef, undef, undef, undef, undef], defers := [] }) ?assign ?body ?done ?stop
    case assign =>
      intro l x W K hK
      gi_wp2
      exact hK
    case stop => intro D c pre W _ _ h _; exact h.elim
    case body =>
      rintro l pre ⟨e, hx⟩ W ⟨⟨⟨ps, hL, hup, hmem⟩, hTI2, hbn⟩, hB⟩ hpl
      dsimp only
      have hT := hkt e hx
      have heb := tree_all hT e hx
      have hpx : e.path.size ≤ maxLen := by have := ent_path_len heb; unfold maxLen; omega
      have hpb := ent_pathB heb
      obtain ⟨T0, nv, hnv⟩ := nodeV_shape e
      rw [hnv]
      obtain ⟨n1, n2, n3, n4, n5, n6, n7, n8, n9⟩ := unhid HN
      have hb6 : W.heap[w2.heap.size]? = some (.cells #[.func (.func 39) #[] #[.pointer (some ⟨b, 0, none⟩)]] 48 (0, 0)) := (hB.block _ (by omega)).trans n6
      have hB2W : Below w2.heap.size w2 W := n7.trans (hB.mono (by omega))
      have htl : w2.heap.size < W.heap.size := (Array.getElem?_eq_some_iff.1 hb6).1
      have henter := eg36
      refine wpIn_block ?_
      refine wpIn_seq ?_
      refine region_in (by kernel_rfl) (by kernel_rfl) (by rintro ⟨_, _, h⟩; exact h) ?_
      refine wpAny_of_held (S := fun w' => Below W.heap.size W w') _ _ _ _ ?_
      have hS : Below W.heap.size W W.drew := drew_below _
      refine wpAnyH_take (i := 0) (v := .func (.func 39) #[] #[.pointer (some ⟨b, 0, none⟩)]) rfl (by kernel_rfl) (by kernel_rfl) (by kernel_rfl) (fun _ _ _ h => h) (Or.inl ⟨by rfl, fun w' hw => by have k0 := (cell_of_box_l ((Below.block hw _ htl).trans hb6)).1; go_simp⟩) hS ?_
      refine wpAnyH_take (i := 1) (v := .string e.path) rfl (by kernel_rfl) (by kernel_rfl) (by kernel_rfl) (fun _ _ _ h => h) (Or.inl ⟨by rfl, fun w' hw => by go_simp⟩) hS ?_
      generalize W.drew = W0 at hS ⊢
      refine wpAnyH_ready (rs := [2]) (by kernel_rfl) (by simp) ?_
      refine AllReadyH.cons rfl (fun K hK => ?_) AllReadyH.nil
      go_simp
      refine (partsOf_any e.path 47 W0).mono ?_
      rintro x W1 ⟨rfl, hW1⟩
      have h01 : Below W0.heap.size W0 W1 := by rw [hW1]; exact ((Below.refl _ W0).alloc (Nat.le_refl _) _).alloc (by simp) _
      have q0 : W1.cell? ⟨W0.heap.size, 0, none⟩ = some (.string e.path) := by rw [hW1]; exact cell_alloc_l _ (cell_new_l W0 _ _).1
      have q1 : W1.cell? ⟨W0.heap.size + 1, 0, none⟩ = some (.int .u8 47) := by rw [hW1]; have := (cell_new_l (W0.alloc (.cells #[.string e.path] 9)) (.int .u8 47) 5).1; rwa [World.size_alloc] at this
      have hS1 := hS.trans (h01.mono hS.size)
      refine hK.out _ _ hS1 (fun _ => ?_)
      clear hK K hW1 h01
      have h21 : Below w2.heap.size w2 W1 := hB2W.trans (hS1.mono (Nat.le_of_lt htl))
      have TK := hid (globTakes_any e.path hpx xs b W0.heap.size (W0.heap.size + 1) v (fun b => wt.heap.size ≤ b) W1 ((h21.cell (p := ⟨b, 0, none⟩) hbl).trans n4) (n1.kept h21.size (fun k _ hk => h21.block k hk) (fun _ h _ => h)) n2 n3 q0 q1)
      clear q0 q1
      refine wpAnyH_ready (rs := [3]) (by kernel_rfl) (by simp) ?_
      refine AllReadyH.cons rfl (fun K hK => ?_) AllReadyH.nil
      go_simp
      refine (unhid TK).mono ?_
      rintro x W2 ⟨⟨ys, hys, rfl⟩, hb12⟩
      have EM : matchO (xs.map opt9) ys = takenB g e := by rw [mat_vals, parts_vals hys, ← n5]; unfold takenB hasB; rw [ho, hpb]; rfl
      rw [EM]
      have hS2 := hS1.trans (hb12.mono hS1.size)
      refine hK.out _ _ hS2 (fun _ => ?_)
      clear hK K hb12 hys EM TK hS1 hS h21
      refine wpAnyH_done (by kernel_rfl) ?_ _
      have hO := KeepsOthers_of_below hS2
      have hL2 := hL.below hS2
      have hT2 := treeIn_below hTI2 hS2
      have hbn2 := (hS2.block _ (Array.getElem?_eq_some_iff.1 hbn).1).trans hbn
      have hbl2 : w2.heap.size + 1 ≤ W.heap.size := htl
      have hB2 : Below (w2.heap.size + 1) w6 W2 := hB.trans (hS2.mono hbl2)
      have hms : (pre ++ [(⟨e, hx⟩ : { e : Ent // e ∈ ks })]).map (·.1) = pre.map (·.1) ++ [e] := by simp
      clear n1 n2 n3 n4 n5 n6 hb6 hB2W henter hS2
      cases htk : takenB g e
      · have HF := hid (show KeepsOthers W W2 ∧ (TreeIn (w2.heap.size + 1 + 1) w1.heap.size w.heap.size (.slice ap ks.length cp) (.slice an ks.length cn) ks W → TreeIn (w2.heap.size + 1 + 1) w1.heap.size w.heap.size (.slice ap ks.length cp) (.slice an ks.length cn) ks W2) ∧ (((∃ ps, TreeAt W2 (w2.heap.size + 1) (w2.heap.size + 1) ps ∧ Up ps ∧ (∀ x, x ∈ ps ↔ x ∈ ks ∧ ∃ y ∈ (pre ++ [(⟨e, hx⟩ : { e : Ent // e ∈ ks })]).map (·.1), takenB g y = true ∧ belowB x.path.data.toList y.path.data.toList = true)) ∧ TreeIn (w2.heap.size + 1 + 1) w1.heap.size w.heap.size (.slice ap ks.length cp) (.slice an ks.length cn) ks W2 ∧ W2.heap[w2.heap.size + 1 + 1]? = some (.cells #[.pointer (some ⟨w1.heap.size, 0, none⟩)] 82 (0, 0))) ∧ Below (w2.heap.size + 1) w6 W2) from
          ⟨hO, fun _ => hT2, ⟨⟨ps, hL2, hup, fun x => by
            rw [hmem, hms]
            constructor
            · rintro ⟨h1, y, hy, h2⟩; exact ⟨h1, y, List.mem_append_left _ hy, h2⟩
            · rintro ⟨h1, y, hy, h2, h3⟩
              rcases List.mem_append.1 hy with hy | hy
              · exact ⟨h1, y, hy, h2, h3⟩
              · rw [List.mem_singleton.1 hy, htk] at h2; cases h2⟩, hT2, hbn2⟩, hB2⟩)
        clear hO hL2 hT2 hbn2 hB2 hms
        gi_wp2
        exact unhid HF
      · have hbt2 : W2.heap[w1.heap.size]? = some (.cells #[.slice ap ks.length cp, .slice an ks.length cn] 44 (0, 0)) := (hB2.block _ (by omega)).trans n9
        have hrw2 : RowsAt W2 w.heap.size (.slice ap ks.length cp) (.slice an ks.length cn) ks := ⟨ownsRow_kept n8.1 (fun g eg => hB2.block g ((unhid HLO).1 g eg)), ownsRow_kept n8.2 (fun g eg => hB2.block g ((unhid HLO).2 g eg))⟩
        have WD := hid (withDirs_any (w2.heap.size + 1) w.heap.size (w2.heap.size + 1) ps ks ap an cp cn e.path W2 hT ⟨e, hx, rfl⟩ (fun x hx => ((hmem x).1 hx).1) hup (Nat.le_refl _) (by have := hB2.size; have := hL2.lt; omega) hrw2 (unhid HLO).1 (unhid HLO).2 hL2)
        obtain ⟨d0, d1, -, -⟩ := two_cells hbt2
        have HI := hid (And.intro hO (And.intro hL2 (And.intro hT2 (And.intro hbn2 (And.intro hB2 (And.intro hms hmem))))))
        clear hO hL2 hT2 hbn2 hB2 hms hbt2 hrw2
        gi_wp2
        refine ⟨trivial, (CallsIn.inRound l (callsIn_wide.2 (unhid WD))).mono ?_⟩
        rintro x W3 ⟨⟨v, rfl⟩, L, hT3, hU3, hM3, hB3, hO3⟩
        obtain ⟨hO, hL2, hT2, hbn2, hB2, hms, hmem⟩ := unhid HI
        have hap2 : Apart (.cells #[.pointer (some ⟨w1.heap.size, 0, none⟩)] 82 (0, 0)) := apart_of (by decide)
        have HF := hid (show KeepsOthers W W3 ∧ (TreeIn (w2.heap.size + 1 + 1) w1.heap.size w.heap.size (.slice ap ks.length cp) (.slice an ks.length cn) ks W → TreeIn (w2.heap.size + 1 + 1) w1.heap.size w.heap.size (.slice ap ks.length cp) (.slice an ks.length cn) ks W3) ∧ (((∃ ps, TreeAt W3 (w2.heap.size + 1) (w2.heap.size + 1) ps ∧ Up ps ∧ (∀ x, x ∈ ps ↔ x ∈ ks ∧ ∃ y ∈ (pre ++ [(⟨e, hx⟩ : { e : Ent // e ∈ ks })]).map (·.1), takenB g y = true ∧ belowB x.path.data.toList y.path.data.toList = true)) ∧ TreeIn (w2.heap.size + 1 + 1) w1.heap.size w.heap.size (.slice ap ks.length cp) (.slice an ks.length cn) ks W3 ∧ W3.heap[w2.heap.size + 1 + 1]? = some (.cells #[.pointer (some ⟨w1.heap.size, 0, none⟩)] 82 (0, 0))) ∧ Below (w2.heap.size + 1) w6 W3) by
          have hTF : TreeIn (w2.heap.size + 1 + 1) w1.heap.size w.heap.size (.slice ap ks.length cp) (.slice an ks.length cn) ks W3 := treeIn_kept2 hT2 (fun k hk => hB3.block k hk) (by omega) (unhid HLO).1 (unhid HLO).2 (fun o ho hap => hO3 _ o (by omega) ho hap) ⟨_, _, _, hbn2, by decide⟩
          refine ⟨hO.trans ⟨hB3.size, fun k o hk hc => by
            by_cases hkb : k = w2.heap.size + 1
            · subst hkb; obtain ⟨_, _, q1, _⟩ := hL2; rw [hk] at q1; cases q1; cases hc
            · exact hO3 k o hkb hk (fun cs t f e => by subst e; cases hc)⟩, fun _ => hTF, ⟨⟨L, hT3, hU3, fun x => ?_⟩, hTF, hO3 _ _ (by omega) hbn2 hap2⟩, hB2.trans hB3⟩
          rw [hM3, hmem, hms]
          constructor
          · rintro (⟨h1, y, hy, h2⟩ | ⟨h1, h2⟩)
            · exact ⟨h1, y, List.mem_append_left _ hy, h2⟩
            · exact ⟨h1, e, by simp, htk, h2⟩
          · rintro ⟨h1, y, hy, h2, h3⟩
            rcases List.mem_append.1 hy with hy | hy
            · exact .inl ⟨h1, y, hy, h2, h3⟩
            · rw [List.mem_singleton.1 hy] at h3; exact .inr ⟨h1, h3⟩)
        clear hT3 hU3 hM3 hB3 hO3 hO hL2 hT2 hbn2 hB2 hms hap2
        gi_wp2
        exact unhid HF
    case done =>
      rintro D ys W hD hys ⟨⟨⟨ps, hL, hup, hmem⟩, hTI2, hbn⟩, hB⟩ hK
      have hps : ps = partL g ks := by
        refine up_ext hup (partL_up (asc_up hka)) (fun x => ?_)
        rw [hmem, hys]
        constructor
        · rintro ⟨h1, h2⟩; exact (partL_iff (hkt x h1) x).2 ⟨h1, h2⟩
        · intro h
          have h1 : x ∈ ks := (List.mem_filter.1 h).1
          exact (partL_iff (hkt x h1) x).1 h
      subst hps
      have hlen : (partL g ks).length ≤ 1000 := by have := partL_len g ks; omega
      have ENT := hid (entries_any (w2.heap.size + 1) (w2.heap.size + 1) (partL g ks) W hlen (fun e he => tree_all (hkt e (List.mem_filter.1 he).1) e (List.mem_filter.1 he).1) hL)
      have hBW : Below w.heap.size w W := hBw.trans (hB.mono (by omega))
      have HI := hid (And.intro hBW hK)
      have hDl := (Array.getElem?_eq_some_iff.1 hK).1
      clear hL hTI2 hbn hB hK hlen hmem hup hBW
      gi_wp2
      refine ⟨trivial, (callsIn_wide.2 (unhid ENT)).mono ?_⟩
      rintro x W3 ⟨v, rfl, hown, hb3⟩
      obtain ⟨va, vc, rfl⟩ := ownsRow_slice hown
      obtain ⟨hB, hK⟩ := unhid HI
      have hK3 := (hb3.block _ hDl).trans hK
      have hB3 := hB.trans (hb3.mono hB.size)
      have HF := hid (And.intro hown (And.intro hB3 (And.intro hK3 hB.size)))
      clear hown hb3 hB hK hK3 hB3
      gi_wp2
      refine ⟨by simp, .inl ⟨_, _, rfl, run_takeDeferred (unhid HF).2.2.1, ?_⟩⟩
      obtain ⟨hown, hB3, hK3, hszW⟩ := unhid HF
      have hg := grownBy_putObj' W3 D (.deferred none)
      have hr : ∀ r, some D = some r → ∃ o : Obj, W3.heap[r]? = some o ∧ o.isCells = false := fun r e => by cases e; exact ⟨_, hK3, rfl⟩
      refine ⟨.slice va (partL g ks).length vc, ?_, _, rfl, by rw [unhid HPR]; exact ownsRow_base (row_grown hg hr hown) hszW, hB3.trans (belowK_b (w := w) (Nat.le_refl _) _ D _ _ (by omega) hK3 rfl rfl)⟩
      simp [results, Tryz.f6, go_sem]
end Go.Proofs.YtfphpggjcljliaaGreat
