/- What a name of a pattern takes, by the program's function value for it. -/
import Derived.Test.YtiggojpepgbcoaaGlobAllS
import Derived.Deep.RegionWith
namespace Go.Proofs.Ytiggojpepgbcoaa
open Go.RowKit Go.Shelf

def opt8 : W8 → Option (UInt8 → Bool)
  | none => none
  | some x => some (takesB (some x))
def runOf (cells : List Value) (i : Nat) : Bool × Value := ((match cells[2 * i]? with
  | some (.bool r) => r
  | _ => false), cells[2 * i + 1]?.getD undef)
theorem runOf_eq {cells : List Value} {i : Nat} {r : Bool} {fv : Value} (h1 : cells[2 * i]? = some (.bool r)) (h2 : cells[2 * i + 1]? = some fv) : runOf cells i = (r, fv) := by
  unfold runOf; rw [h1, h2]; rfl
theorem row2_of {W : World} {base : Nat} {e : TypeId} {v : Value} {n : Nat} {cells : List Value} (h : W.ownsRow base e 2 v n cells) (hc : ∀ i, i < n → ∃ r fv, cells[2 * i]? = some (.bool r) ∧ cells[2 * i + 1]? = some fv ∧ fv.oneCell' = true) : Row2 W e v n (runOf cells) := by
  rcases h.2 with ⟨rfl, rfl⟩ | ⟨g, cap, cur, rfl, hb, hg, hcap, _, hsz, hcells⟩
  · exact ⟨none, 0, rfl, .inl rfl⟩
  · refine ⟨_, cap, rfl, .inr ⟨g, cur, rfl, hg, hcap, fun i hi => ?_⟩⟩
    obtain ⟨r, fv, h1, h2, h3⟩ := hc i hi
    rw [runOf_eq h1 h2]
    rw [← hcells] at h1 h2
    rw [List.getElem?_take_of_lt (by omega)] at h1 h2
    refine ⟨?_, ?_, h3⟩
    · rw [show i * 2 = 2 * i by omega, ← Array.getElem?_toList]; exact h1
    · rw [show i * 2 + 1 = 2 * i + 1 by omega, ← Array.getElem?_toList]; exact h2
theorem opt8_run (xs : List W8) (i : Nat) (x : W8) (h : xs[i]? = some x) : (xs.map opt8)[i]? = some (opt8 x) := by simp [h]
theorem eg63 : ∀ args w, (callFunc 63 args).run Try.prog w = .ok (.enter 63 args) w := enters_of Try.func63 (by kernel_rfl) rfl
theorem eg65 : ∀ args w, (callFunc 65 args).run Try.prog w = .ok (.enter 65 args) w := enters_of Try.func65 (by kernel_rfl) rfl
theorem eg67 : ∀ args w, (callFunc 67 args).run Try.prog w = .ok (.enter 67 args) w := enters_of Try.func67 (by kernel_rfl) rfl
theorem eg48 : ∀ args w, (callFunc 48 args).run Try.prog w = .ok (.enter 48 args) w := enters_of Try.func48 (by kernel_rfl) rfl
theorem below_drewN {B : Nat} (w : World) (m : Nat) : Below B w (w.drewN m) := ⟨rfl, rfl, rfl, Nat.le_refl _, fun _ _ => rfl⟩

theorem WantsP.row {W : World} {P : Nat → Prop} {v : Value} {xs : List W8} (h : WantsP W P v xs) : ∃ cs, Row2 W 71 v (xs.map opt8).length cs ∧ (∀ i, i < (xs.map opt8).length → runAt (xs.map opt8) i = (cs i).1) ∧ TakesIs (fun c : UInt8 => .int .u8 c.toNat) (xs.map opt8) cs W := by
  obtain ⟨base, cells, h1, _, h3⟩ := h
  have hx : ∀ i, i < (xs.map opt8).length → ∃ x, xs[i]? = some x := fun i hi => ⟨_, List.getElem?_eq_getElem (by simpa using hi)⟩
  refine ⟨runOf cells, row2_of (by simpa using h1) (fun i hi => ?_), fun i hi => ?_, fun i hi hr => ?_⟩
  · obtain ⟨x, hxi⟩ := hx i hi
    obtain ⟨r, fv, a, b, c⟩ := h3 i x hxi
    exact ⟨r, fv, a, b, by rcases c.form with rfl | ⟨f, ca, rfl⟩ <;> rfl⟩
  · obtain ⟨x, hxi⟩ := hx i hi
    obtain ⟨r, fv, a, b, c⟩ := h3 i x hxi
    rw [runOf_eq a b]
    unfold runAt
    rw [opt8_run xs i x hxi]
    rcases x with _ | _ | d | ⟨inner, others⟩
    · exact c.1.symm
    · exact c.1.symm
    · exact c.1.symm
    · exact c.1.symm
  · obtain ⟨x, hxi⟩ := hx i hi
    obtain ⟨r, fv, a, b, c⟩ := h3 i x hxi
    have ht : ∀ c, x ≠ .star → takeAt (xs.map opt8) i c = takesB x c := fun c hne => by
      unfold takeAt
      rw [opt8_run xs i x hxi]
      cases x <;> first | exact absurd rfl hne | rfl
    rw [runOf_eq a b]
    rcases x with _ | _ | d | ⟨inner, others⟩
    · unfold runAt at hr; rw [opt8_run xs i _ hxi] at hr; cases hr
    · refine ⟨_, _, c.2, eg63, fun ch W' hb => ?_⟩
      rw [ht ch (by simp)]
      exact (takes_any ch W').mono (by rintro e w' ⟨rfl, rfl⟩; exact ⟨rfl, Below.refl _ _⟩)
    · obtain ⟨_, bb, e1, _, e3, e4⟩ := c
      refine ⟨_, _, e1, eg65, fun ch W' hb => ?_⟩
      rw [ht ch (by simp)]
      exact (takes_byte ch d bb W' ((hb.cell (p := ⟨bb, 0, none⟩) e3).trans e4)).mono (by rintro e w' ⟨rfl, rfl⟩; exact ⟨rfl, Below.refl _ _⟩)
    · obtain ⟨_, bb, dd, e1, ⟨_, e3, e4⟩, _, e6, e7⟩ := c
      refine ⟨_, _, e1, eg67, fun ch W' hb => ?_⟩
      rw [ht ch (by simp)]
      exact (takes_cls ch inner others bb dd W' ((hb.cell (p := ⟨bb, 0, none⟩) e3).trans e4) ((hb.cell (p := ⟨dd, 0, none⟩) e6).trans e7)).mono (by rintro e w' ⟨rfl, m, rfl⟩; exact ⟨rfl, below_drewN _ _⟩)

theorem bytesOf_any (s : ByteArray) (w : World) : Calls Try.prog 50 #[.string s] w fun e w' => e = .returned (.func (.func 61) #[] #[.pointer (some ⟨w.heap.size, 0, none⟩)]) ∧ w' = w.alloc (.cells #[.string s] 9) :=
  (callsIn_wide (n := 1)).1 (bytesOf_in Fence.wide _ trivial rfl s w)

set_option maxRecDepth 100000 in
set_option maxHeartbeats 4000000 in
theorem nameTakes_any (s : Str) (xs : List W8) (b : Nat) (v : Value) (P : Nat → Prop) (w : World) (hc : w.cell? ⟨b, 0, none⟩ = some v) (hW : WantsP w P v xs) (hn : xs.length ≤ 1000) :
    Calls Try.prog 48 #[.string s.1, .pointer (some ⟨b, 0, none⟩)] w fun e W' => e = .returned (.bool (matchO (xs.map opt8) s.1.data.toList)) ∧ Below w.heap.size w W' := by
  obtain ⟨cs, h1, h2, h3⟩ := hW.row
  have hbl := below_lt hc
  have H1 := hid h1
  have H2 := hid h2
  have H3 := hid h3
  clear h1 h2 h3 hW
  go_enter Try.func48, Try.ntmps48
  go_wp2_with fail
  have hal : Below w.heap.size w (w.alloc (.cells #[.string s.1] 9)).drew := ((Below.refl _ w).alloc (Nat.le_refl _) _).drew
  have HA := hid hal
  have HN := hid (show (w.alloc (.cells #[.string s.1] 9)).drew.cell? ⟨w.heap.size, 0, none⟩ = some (.string s.1) ∧ w.heap.size < (w.alloc (.cells #[.string s.1] 9)).drew.heap.size from ⟨(cell_new_l w _ _).1, by show _ < (w.alloc _).heap.size; simp⟩)
  clear hal
  go_region_with (first | (go_at_call 50; refine (bytesOf_any _ _).mono ?_; rintro e w' ⟨rfl, rfl⟩) | (go_at_call 49; refine (takesAllB_any (xs.map opt8) _ cs s.1 w.heap.size _ (by simpa using hn) s.2 ((unhid H1).kept (fun b hb => (unhid HA).block b hb)) (unhid H2) ((unhid H3).below (unhid HA)) (unhid HN).2 (unhid HN).1).mono ?_; rintro e w2 ⟨rfl, hb⟩; have HB2 := hid ((unhid HA).trans (hb.mono (unhid HA).size)); clear hb))
  all_goals
    go_wp2_with fail
    go_ret
    exact ⟨rfl, unhid HB2⟩

def opt9 : W9 → Option (Str → Bool)
  | none => none
  | some xs => some fun s => matchO (xs.map opt8) s.1.data.toList
/-- Wants of names in a row whose blocks are of a kind. -/
def NamesP (W : World) (P : Nat → Prop) (v : Value) (xs : List W9) : Prop :=
  ∃ base cells, W.ownsRow base 51 2 v xs.length cells ∧ (∀ g, v.ownBlock = some g → P g) ∧ ∀ i x, xs[i]? = some x → ∃ run fv, cells[2 * i]? = some (.bool run) ∧ cells[2 * i + 1]? = some fv ∧ NameIs W P x run fv
theorem NamesP.kept {W W' : World} {P P' : Nat → Prop} {v : Value} {xs : List W9} (h : NamesP W P v xs) (hs : W.heap.size ≤ W'.heap.size) (hk : ∀ b, P b → b < W.heap.size → W'.heap[b]? = W.heap[b]?) (hP : ∀ b, P b → b < W.heap.size → P' b) : NamesP W' P' v xs := by
  obtain ⟨base, cells, h1, h2, h3⟩ := h
  refine ⟨base, cells, ownsRow_kept h1 (fun g e => hk g (h2 g e) (h1.lt g e).2), fun g e => hP g (h2 g e) (h1.lt g e).2, fun i x hi => ?_⟩
  obtain ⟨run, fv, g1, g2, g3⟩ := h3 i x hi
  exact ⟨run, fv, g1, g2, g3.kept hs hk hP⟩
theorem NameIs.form {W : World} {P : Nat → Prop} {x : W9} {run : Bool} {fv : Value} (h : NameIs W P x run fv) : fv = .nilFunc ∨ ∃ f ca, fv = .func (.func f) #[] ca := by
  rcases x with _ | xs
  · exact .inl h.2
  · obtain ⟨_, b, v, h1, _⟩ := h; exact .inr ⟨_, _, h1⟩
def small9 : W9 → Prop
  | none => True
  | some xs => xs.length ≤ 1000
theorem NamesP.row {W : World} {P : Nat → Prop} {v : Value} {xs : List W9} (h : NamesP W P v xs) (hm : ∀ x ∈ xs, small9 x) : ∃ cs, Row2 W 51 v (xs.map opt9).length cs ∧ (∀ i, i < (xs.map opt9).length → runAt (xs.map opt9) i = (cs i).1) ∧ TakesIs (fun c : Str => .string c.1) (xs.map opt9) cs W := by
  obtain ⟨base, cells, h1, _, h3⟩ := h
  have hx : ∀ i, i < (xs.map opt9).length → ∃ x, xs[i]? = some x := fun i hi => ⟨_, List.getElem?_eq_getElem (by simpa using hi)⟩
  have ho : ∀ (i : Nat) (x : W9), xs[i]? = some x → (xs.map opt9)[i]? = some (opt9 x) := fun i x h => by simp [h]
  refine ⟨runOf cells, row2_of (by simpa using h1) (fun i hi => ?_), fun i hi => ?_, fun i hi hr => ?_⟩
  · obtain ⟨x, hxi⟩ := hx i hi
    obtain ⟨r, fv, a, b, c⟩ := h3 i x hxi
    exact ⟨r, fv, a, b, by rcases c.form with rfl | ⟨f, ca, rfl⟩ <;> rfl⟩
  · obtain ⟨x, hxi⟩ := hx i hi
    obtain ⟨r, fv, a, b, c⟩ := h3 i x hxi
    rw [runOf_eq a b]
    unfold runAt
    rw [ho i x hxi]
    rcases x with _ | ys
    · exact c.1.symm
    · exact c.1.symm
  · obtain ⟨x, hxi⟩ := hx i hi
    obtain ⟨r, fv, a, b, c⟩ := h3 i x hxi
    rw [runOf_eq a b]
    rcases x with _ | ys
    · unfold runAt at hr; rw [ho i _ hxi] at hr; cases hr
    · obtain ⟨_, bb, vv, e1, _, e3, e4, e5⟩ := c
      refine ⟨_, _, e1, eg48, fun ch W' hb => ?_⟩
      have ht : takeAt (xs.map opt9) i ch = matchO (ys.map opt8) ch.1.data.toList := by unfold takeAt; rw [ho i _ hxi]; rfl
      rw [ht]
      exact nameTakes_any ch ys bb vv P W' ((hb.cell (p := ⟨bb, 0, none⟩) e3).trans e4) (e5.kept hb.size (fun b _ hl => hb.block b hl) (fun _ h _ => h)) (hm _ (List.mem_of_getElem? hxi))

set_option maxRecDepth 100000 in
set_option maxHeartbeats 4000000 in
theorem globTakes_any (s : ByteArray) (hs : s.size ≤ maxLen) (xs : List W9) (b Bn Bm : Nat) (v : Value) (P : Nat → Prop) (w : World) (hc : w.cell? ⟨b, 0, none⟩ = some v) (hW : NamesP w P v xs) (hm : ∀ x ∈ xs, small9 x) (hn : xs.length ≤ 1000)
    (hc0 : w.cell? ⟨Bn, 0, none⟩ = some (.string s)) (hcm : w.cell? ⟨Bm, 0, none⟩ = some (.int .u8 47)) :
    Calls Try.prog 36 #[.func (.func 38) #[] #[.pointer (some ⟨Bn, 0, none⟩), .pointer (some ⟨Bm, 0, none⟩)], .pointer (some ⟨b, 0, none⟩)] w fun e W' => (∃ ys : List Str, vals ys = cutB 47 s.data.toList ∧ e = .returned (.bool (matchO (xs.map opt9) ys))) ∧ Below w.heap.size w W' := by
  obtain ⟨cs, h1, h2, h3⟩ := hW.row hm
  have H1 := hid h1
  have H2 := hid h2
  have H3 := hid h3
  clear h1 h2 h3 hW
  go_enter Try.func36, Try.ntmps36
  go_wp2_with fail
  refine (takesAllS_any (xs.map opt9) _ cs s Bn Bm _ (by simpa using hn) hs (unhid H1) (unhid H2) (unhid H3) (below_lt hc0) (below_lt hcm) hc0 hcm).mono ?_
  rintro e w2 ⟨⟨ys, hys, rfl⟩, hb⟩
  go_wp2_with fail
  go_ret
  exact ⟨⟨ys, hys, rfl⟩, hb⟩
end Go.Proofs.Ytiggojpepgbcoaa
