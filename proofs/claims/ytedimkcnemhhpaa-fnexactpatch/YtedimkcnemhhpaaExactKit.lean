/- Rows of texts, of numbers and of hunks, each in memory of its own, in one form: copied, held against each other, written over, and held against what was written. -/
import Derived.Test.YtedimkcnemhhpaaToOwn
namespace Go.Proofs.Ytedimkcnemhhpaa
open Go.RowKit Go.Shelf

theorem fresh_frame {K : Kind} {W W' : World} {v : Value} {d : K.D} {F : List Nat} (h : K.own W v d F) (hb : Below W.heap.size W W') : K.own W' v d F := K.frame h (fun k hk => hb.block k (K.lt h k hk))
theorem only_frame {K : Kind} {W W' : World} {v : Value} {d : K.D} {F G : List Nat} (h : K.own W v d F) (ho : Only G W W') (hd : ∀ k ∈ F, k ∉ G) : K.own W' v d F := K.frame h (fun k hk => ho.block k (K.lt h k hk) (hd k hk))
def smallX (xs : List ByteArray) : Prop := xs.length ≤ 1048576 ∧ ∀ x ∈ xs, x.size ≤ 1048576
theorem smallX_of {xs : List ByteArray} (h : xs.length + totX xs ≤ 1048576) : smallX xs := ⟨by omega, fun x hx => by have := totX_mem hx; omega⟩
theorem smallX_big {xs : List ByteArray} (h : smallX xs) : bigX xs := fun x hx => Nat.le_trans (h.2 x hx) (by simp [maxLen])
theorem smallX_len {xs : List ByteArray} (h : smallX xs) : xs.length ≤ maxLen := Nat.le_trans h.1 (by simp [maxLen])
def cnt_x (xs : List ByteArray) : Nat := xs.length
def mk_x (q : Nat) (xs : List ByteArray) : List ByteArray := mtexts q xs.length
theorem to_x (xs : List ByteArray) (a : Option Addr) (cap : Nat) (W : World) (hs : smallX xs) (h : TxtsAt W a xs) :
    Calls Try.prog 22 #[.slice a xs.length cap] W fun r W' => ∃ v F, r = .returned v ∧ txtK.own W' v xs F ∧ (∀ k ∈ F, W.heap.size ≤ k ∧ k < W'.heap.size) ∧ Below W.heap.size W W' :=
  (toStringS_own xs a cap W hs.1 h).mono fun _ _ ⟨_, h1, ⟨F, h2, h3⟩, h4⟩ => ⟨_, F, h1, h2, h3, h4⟩
theorem eq_x (xs : List ByteArray) (v v' : Value) (F F' : List Nat) (W : World) (hs : smallX xs) (h : txtK.own W v xs F) (h' : txtK.own W v' xs F') :
    Calls Try.prog 24 #[v, v'] W fun r W' => r = .returned (.bool true) ∧ Below W.heap.size W W' := by
  obtain ⟨a, cap, rfl, h1, _⟩ := TxtOwn.read h
  obtain ⟨a', cap', rfl, h2, _⟩ := TxtOwn.read h'
  exact eqStringS_same xs a a' cap cap' W (smallX_len hs) h1 h2
theorem mark_x (xs : List ByteArray) (v : Value) (F : List Nat) (q : Nat) (c : Int) (hcq : c = (q : Int)) (W : World) (hs : smallX xs) (hq : 0 < q) (hq2 : q ≤ 10000000) (h : txtK.own W v xs F) :
    Calls Try.prog 25 #[v, .int .i64 c] W fun r W' => r = .returned (.int .i64 ((q + cnt_x xs : Nat) : Int)) ∧ txtK.own W' v (mk_x q xs) F ∧ Only F W W' := by
  subst hcq
  exact markStringS_own xs v F q W hs.1 hq (by omega) h
theorem held_x (xs : List ByteArray) (v : Value) (F : List Nat) (q : Nat) (c : Int) (hcq : c = (q : Int)) (W : World) (hs : smallX xs) (hq : 0 < q) (hq2 : q ≤ 10000000) (h : txtK.own W v (mk_x q xs) F) :
    Calls Try.prog 32 #[v, .int .i64 c] W fun r W' => r = .returned (.int .i64 ((q + cnt_x xs : Nat) : Int)) ∧ Below W.heap.size W W' := by
  subst hcq
  obtain ⟨a, cap, rfl, h1, _⟩ := TxtOwn.read h
  have := heldStringS_at xs.length a cap q W hs.1 hq (by omega) h1
  have e : (mk_x q xs).length = xs.length := mtexts_len _ _
  rw [e]; exact this

def smallZ (zs : List Int) : Prop := zs.length ≤ 1048576
def cnt_z (zs : List Int) : Nat := zs.length
def mk_z (q : Nat) (zs : List Int) : List Int := mints q zs.length
theorem eq_z (zs : List Int) (v v' : Value) (F F' : List Nat) (W : World) (hs : smallZ zs) (h : intK.own W v zs F) (h' : intK.own W v' zs F') :
    Calls Try.prog 30 #[v, v'] W fun r W' => r = .returned (.bool true) ∧ Below W.heap.size W W' := by
  obtain ⟨a, cap, rfl, h1⟩ := IntOwn.read h
  obtain ⟨a', cap', rfl, h2⟩ := IntOwn.read h'
  exact eqIntS_same zs a a' cap cap' W (Nat.le_trans hs (by simp [maxLen])) h1 h2
theorem mark_z (zs : List Int) (v : Value) (F : List Nat) (q : Nat) (c : Int) (hcq : c = (q : Int)) (W : World) (hs : smallZ zs) (_hq : 0 < q) (hq2 : q ≤ 10000000) (h : intK.own W v zs F) :
    Calls Try.prog 31 #[v, .int .i64 c] W fun r W' => r = .returned (.int .i64 ((q + cnt_z zs : Nat) : Int)) ∧ intK.own W' v (mk_z q zs) F ∧ Only F W W' := by
  subst hcq
  exact markIntS_own zs v F q W hs (by omega) h
theorem held_z (zs : List Int) (v : Value) (F : List Nat) (q : Nat) (c : Int) (hcq : c = (q : Int)) (W : World) (hs : smallZ zs) (_hq : 0 < q) (hq2 : q ≤ 10000000) (h : intK.own W v (mk_z q zs) F) :
    Calls Try.prog 33 #[v, .int .i64 c] W fun r W' => r = .returned (.int .i64 ((q + cnt_z zs : Nat) : Int)) ∧ Below W.heap.size W W' := by
  subst hcq
  obtain ⟨a, cap, rfl, h1⟩ := IntOwn.read h
  have := heldIntS_at zs.length a cap q W hs (by omega) h1
  have e : (mk_z q zs).length = zs.length := mints_len _ _
  rw [e]; exact this

def smallK (hs : List Hk) : Prop := hs.length ≤ 1048576 ∧ cntH hs ≤ 2097152 ∧ ∀ h ∈ hs, smallX h.lines
theorem smallK_of {hs : List Hk} (h : hs.length + totH hs ≤ 1048576) : smallK hs := by
  have := totH_cnt hs
  refine ⟨by omega, by omega, fun x hx => smallX_of (by have := totH_mem hx; omega)⟩
theorem smallK_lines {hs : List Hk} (h : smallK hs) : ∀ x ∈ hs, x.lines.length ≤ 1048576 := fun x hx => (h.2.2 x hx).1
theorem smallK_big {hs : List Hk} (h : smallK hs) : bigH hs := fun x hx => ⟨smallX_big (h.2.2 x hx), smallX_len (h.2.2 x hx)⟩
def cnt_h (hs : List Hk) : Nat := cntH hs
def mk_h (q : Nat) (hs : List Hk) : List Hk := markH q hs
theorem to_h (hs : List Hk) (a : Option Addr) (cap : Nat) (W : World) (hsm : smallK hs) (h : HksAt W a hs) :
    Calls Try.prog 17 #[.slice a hs.length cap] W fun r W' => ∃ v F, r = .returned v ∧ hkK.own W' v hs F ∧ (∀ k ∈ F, W.heap.size ≤ k ∧ k < W'.heap.size) ∧ Below W.heap.size W W' :=
  (toHunkS_own hs a cap W hsm.1 (smallK_lines hsm) h).mono fun _ _ ⟨_, h1, ⟨F, h2, h3⟩, h4⟩ => ⟨_, F, h1, h2, h3, h4⟩
theorem eq_h (hs : List Hk) (v v' : Value) (F F' : List Nat) (W : World) (hsm : smallK hs) (h : hkK.own W v hs F) (h' : hkK.own W v' hs F') :
    Calls Try.prog 19 #[v, v'] W fun r W' => r = .returned (.bool true) ∧ Below W.heap.size W W' := by
  obtain ⟨a, cap, rfl, h1⟩ := HkOwn.read h
  obtain ⟨a', cap', rfl, h2⟩ := HkOwn.read h'
  exact eqHunkS_same hs a a' cap cap' W (Nat.le_trans hsm.1 (by simp [maxLen])) (fun x hx => smallX_len (hsm.2.2 x hx)) h1 h2
theorem mark_h (hs : List Hk) (v : Value) (F : List Nat) (q : Nat) (c : Int) (hcq : c = (q : Int)) (W : World) (hsm : smallK hs) (hq : 0 < q) (hq2 : q ≤ 10000000) (h : hkK.own W v hs F) :
    Calls Try.prog 26 #[v, .int .i64 c] W fun r W' => r = .returned (.int .i64 ((q + cnt_h hs : Nat) : Int)) ∧ hkK.own W' v (mk_h q hs) F ∧ Only F W W' := by
  subst hcq
  exact markHunkS_own hs v F q W hsm.1 hsm.2.1 (smallK_lines hsm) hq hq2 h
theorem held_h (hs : List Hk) (v : Value) (F : List Nat) (q : Nat) (c : Int) (hcq : c = (q : Int)) (W : World) (hsm : smallK hs) (hq : 0 < q) (hq2 : q ≤ 10000000) (h : hkK.own W v (mk_h q hs) F) :
    Calls Try.prog 27 #[v, .int .i64 c] W fun r W' => r = .returned (.int .i64 ((q + cnt_h hs : Nat) : Int)) ∧ Below W.heap.size W W' := by
  subst hcq
  obtain ⟨a, cap, rfl, h1⟩ := HkOwn.read h
  have := heldHunkS_at hs a cap q W hsm.1 hsm.2.1 (smallK_lines hsm) hq hq2 h1
  have e : (mk_h q hs).length = hs.length := markH_len _ _
  rw [e]; exact this
end Go.Proofs.Ytedimkcnemhhpaa
