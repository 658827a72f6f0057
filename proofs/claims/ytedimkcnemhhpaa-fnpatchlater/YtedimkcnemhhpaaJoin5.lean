/- Texts of this proof, one behind the other; each says at its head what it shows. -/
import Derived.Test.YtedimkcnemhhpaaJoin2
import Derived.Test.YtedimkcnemhhpaaJoin4
import Derived.Test.YtedimkcnemhhpaaJoin1
import Derived.Test.YtedimkcnemhhpaaJoin3
/- Rows of texts in memory of their own; what is written over them. -/
namespace Go.Proofs.Ytedimkcnemhhpaa
open Go.RowKit Go.Shelf

def TxtOwn (W : World) (v : Value) (xs : List ByteArray) (F : List Nat) : Prop := (xs = [] ∧ F = [] ∧ ∃ a c, v = .slice a 0 c ∧ (a = none → c = 0)) ∨
  ∃ g cap cur, F = [g] ∧ v = .slice (some ⟨g, 0, none⟩) xs.length cap ∧ W.heap[g]? = some (.cells cur 9 (0, 0)) ∧ xs.length ≤ cap ∧ xs.length ≤ cur.size ∧ ∀ (i : Nat) x, xs[i]? = some x → cur[i]? = some (.string x)
theorem TxtOwn.frame {W W' : World} {v : Value} {xs : List ByteArray} {F : List Nat} (h : TxtOwn W v xs F) (hf : ∀ k ∈ F, W'.heap[k]? = W.heap[k]?) : TxtOwn W' v xs F := by
  rcases h with h | ⟨g, cap, cur, rfl, hv, hh, h1, h2, h3⟩
  · exact .inl h
  · exact .inr ⟨g, cap, cur, rfl, hv, (hf g (by simp)).trans hh, h1, h2, h3⟩
theorem TxtOwn.lt {W : World} {v : Value} {xs : List ByteArray} {F : List Nat} (h : TxtOwn W v xs F) : ∀ k ∈ F, k < W.heap.size := by
  rcases h with ⟨_, rfl, _⟩ | ⟨g, cap, cur, rfl, hv, hh, _⟩
  · intro k hk; cases hk
  · intro k hk; rcases List.mem_singleton.1 hk with rfl; exact (Array.getElem?_eq_some_iff.1 hh).1
theorem TxtOwn.at {W : World} {v : Value} {xs : List ByteArray} {F : List Nat} (h : TxtOwn W v xs F) : ∃ a cap, v = .slice a xs.length cap ∧ TxtsAt W a xs ∧ (a = none → cap = 0) ∧ xs.length ≤ cap ∨ v = .slice a 0 cap ∧ xs = [] ∧ (a = none → cap = 0) := by
  rcases h with ⟨rfl, _, a, c, hv, hn⟩ | ⟨g, cap, cur, rfl, hv, hh, h1, h2, h3⟩
  · exact ⟨a, c, .inr ⟨hv, rfl, hn⟩⟩
  · refine ⟨_, cap, .inl ⟨hv, .inr ⟨g, 0, rfl, (Array.getElem?_eq_some_iff.1 hh).1, fun i x hi => ?_⟩, (fun e => by cases e), h1⟩⟩
    have := h3 i x hi
    simp [World.cell?, hh, this]
theorem TxtOwn.read {W : World} {v : Value} {xs : List ByteArray} {F : List Nat} (h : TxtOwn W v xs F) : ∃ a cap, v = .slice a xs.length cap ∧ TxtsAt W a xs ∧ (a = none → cap = 0) := by
  obtain ⟨a, cap, ⟨h1, h2, h3, _⟩ | ⟨h1, rfl, h3⟩⟩ := h.at
  · exact ⟨a, cap, h1, h2, h3⟩
  · exact ⟨a, cap, h1, .inl rfl, h3⟩
theorem TxtOwn.of_owns {W : World} {N n : Nat} {v : Value} {xs : List ByteArray} (h : W.ownsRow N 9 1 v n (xs.map Value.string)) : TxtOwn W v xs v.ownBlock.toList ∧ ∀ k ∈ v.ownBlock.toList, N ≤ k ∧ k < W.heap.size := by
  have hn : n = xs.length := by have := h.1; simpa using this.symm
  subst hn
  rcases h.2 with ⟨rfl, h0⟩ | ⟨g, cap, cur, rfl, hg, hh, hc, hm, hsz, hcur⟩
  · exact ⟨.inl ⟨List.length_eq_zero_iff.1 h0, rfl, none, 0, rfl, fun _ => rfl⟩, fun k hk => by cases hk⟩
  · refine ⟨.inr ⟨g, cap, cur, rfl, rfl, hh, hc, by omega, fun i x hi => ?_⟩, fun k hk => ?_⟩
    · have hl : i < xs.length := (List.getElem?_eq_some_iff.1 hi).1
      rw [← Array.getElem?_toList, ← List.getElem?_take_of_lt (l := cur.toList) (i := i) (j := xs.length * 1) (by omega), hcur, List.getElem?_map, hi]; rfl
    · rcases List.mem_singleton.1 hk with rfl
      exact ⟨hg, (Array.getElem?_eq_some_iff.1 hh).1⟩
theorem TxtOwn.of_row {W : World} {g n : Nat} {xs : List ByteArray} (h : TxtRow W g 9 n (txtFn xs)) (hn : xs.length = n) : TxtOwn W (.slice (some ⟨g, 0, none⟩) n n) xs [g] := by
  obtain ⟨cur, h1, h2, h3⟩ := h
  subst hn
  refine .inr ⟨g, xs.length, cur, rfl, rfl, h1, Nat.le_refl _, by omega, fun i x hi => ?_⟩
  rw [h3 i (List.getElem?_eq_some_iff.1 hi).1, txtFn_get hi]
def txtK : Kind := ⟨List ByteArray, TxtOwn, TxtOwn.frame, TxtOwn.lt⟩
def mtexts (q n : Nat) : List ByteArray := (List.range n).map fun i => mtext (q + i)
theorem mtexts_len (q n : Nat) : (mtexts q n).length = n := by simp [mtexts]
theorem mtexts_get {q n i : Nat} (h : i < n) : (mtexts q n)[i]? = some (mtext (q + i)) := by simp [mtexts, h]

set_option maxRecDepth 100000 in
set_option maxHeartbeats 2000000 in
theorem markStringS_own (xs : List ByteArray) (v : Value) (F : List Nat) (q : Nat) (w : World) (hn : xs.length ≤ 1048576) (hq : 0 < q) (hq2 : q ≤ 20000000) (h : TxtOwn w v xs F) :
    Calls Try.prog 25 #[v, .int .i64 (q : Int)] w fun x w' => x = .returned (.int .i64 ((q + xs.length : Nat) : Int)) ∧ TxtOwn w' v (mtexts q xs.length) F ∧ Only F w w' := by
  rcases h with ⟨rfl, rfl, a, c, rfl, hnil⟩ | ⟨g, cap, cur, rfl, rfl, hh, h1, h2, h3⟩
  · go_enter Try.func25, Try.ntmps25
    go_wp2_with fail
    go_loopw [1, 5] (fun c i wr => i = .int .i64 0 ∧ c = .int .i64 (q : Int) ∧ wr = w) (fun _ i _ => 0)
    case atStart => exact ⟨rfl, rfl, rfl⟩
    case round =>
      obtain ⟨rfl, rfl, rfl⟩ := hrel
      go_wp2_with fail
      go_ret
      exact ⟨ret_int (by simp), .inl ⟨by simp [mtexts], rfl, a, c, rfl, hnil⟩, Only.refl _ _⟩
  · have HH := hid (And.intro hh (And.intro h2 h3))
    clear hh h2 h3
    go_enter Try.func25, Try.ntmps25
    go_wp2_with fail
    go_loopw [1, 5] (fun c i wr => ∃ k : Nat, k ≤ xs.length ∧ i = .int .i64 (k : Int) ∧ c = .int .i64 ((q + k : Nat) : Int) ∧ Hid (∃ cur2 : Array Value, wr.heap[g]? = some (.cells cur2 9 (0, 0)) ∧ xs.length ≤ cur2.size ∧ ∀ i, i < k → cur2[i]? = some (.string (mtext (q + i)))) ∧ Hid (Only [g] w wr)) (fun _ i _ => xs.length - (intOf i).toNat)
    case atStart => exact ⟨0, Nat.zero_le _, rfl, by go_num, hid ⟨cur, (unhid HH).1, (unhid HH).2.1, fun i hi => absurd hi (Nat.not_lt_zero _)⟩, hid (Only.refl _ _)⟩
    case round =>
      obtain ⟨k, hk, rfl, rfl, HC, HO⟩ := hrel
      by_cases hlt : k < xs.length
      · go_wp2_with fail
        refine (markText_at _ (q + k) wr (by omega) (by omega) (by omega)).mono ?_
        rintro x w2 ⟨rfl, hb⟩
        obtain ⟨cur2, e1, e2, e3⟩ := unhid HC
        have hgl := (Array.getElem?_eq_some_iff.1 e1).1
        have e4 := (hb.block g hgl).trans e1
        obtain ⟨y, hy⟩ : ∃ y, cur2[k]? = some y := ⟨cur2[k], Array.getElem?_eq_getElem (by omega)⟩
        have c0 : w2.cell? ⟨g, k, none⟩ = some y := by simp [World.cell?, e4, hy]
        have f0 : w2.frozen? ⟨g, k, none⟩ = false := by simp [World.frozen?, e4]
        have HN := hid (heap_setCell_same w2 g k cur2 9 (.string (mtext (q + k))) e4)
        have HO2 := hid (((unhid HO).trans (Only.ofBelow hb)).setCell (p := ⟨g, k, none⟩) (by simp) (.string (mtext (q + k))))
        have HE := hid (And.intro e2 e3)
        clear hb e1 e2 e3 e4 hy hgl HC HO
        go_wp2_with fail
        go_roundw
        case rel =>
          refine ⟨k + 1, by omega, by go_num, by go_num, hid ⟨_, unhid HN, by simpa using (unhid HE).1, fun i hi => ?_⟩, HO2⟩
          simp only [Array.getElem?_setIfInBounds]
          have := (unhid HE).1
          by_cases ei : i = k
          · subst ei; rw [if_pos rfl, if_pos (by omega)]
          · rw [if_neg (by omega)]; exact (unhid HE).2 i (by omega)
        case measure => simp [intOf]; omega
      · have e : k = xs.length := by omega
        subst e
        go_wp2_with fail
        go_ret
        refine ⟨ret_int (by go_num), ?_, unhid HO⟩
        obtain ⟨cur2, e1, e2, e3⟩ := unhid HC
        refine .inr ⟨g, cap, cur2, rfl, by rw [mtexts_len], e1, by rw [mtexts_len]; exact h1, by rw [mtexts_len]; exact e2, fun i x hi => ?_⟩
        have hl : i < xs.length := by have := (List.getElem?_eq_some_iff.1 hi).1; rwa [mtexts_len] at this
        rw [mtexts_get hl] at hi
        cases hi
        exact e3 i hl

set_option maxRecDepth 100000 in
set_option maxHeartbeats 2000000 in
theorem heldStringS_at (n : Nat) (a : Option Addr) (cap q : Nat) (w : World) (hn : n ≤ 1048576) (hq : 0 < q) (hq2 : q ≤ 20000000) (h : TxtsAt w a (mtexts q n)) :
    Calls Try.prog 32 #[.slice a n cap, .int .i64 (q : Int)] w fun x w' => x = .returned (.int .i64 ((q + n : Nat) : Int)) ∧ Below w.heap.size w w' := by
  go_enter Try.func32, Try.ntmps32
  go_wp2_with fail
  go_loopw [1, 5] (fun c i wr => ∃ k : Nat, k ≤ n ∧ i = .int .i64 (k : Int) ∧ c = .int .i64 ((q + k : Nat) : Int) ∧ Below w.heap.size w wr) (fun _ i _ => n - (intOf i).toNat)
  case atStart => exact ⟨0, Nat.zero_le _, rfl, by go_num, Below.refl _ _⟩
  case round =>
    obtain ⟨k, hk, rfl, rfl, hB⟩ := hrel
    by_cases hlt : k < n
    · have he := mtexts_get (q := q) hlt
      obtain ⟨b, o, rfl, hbl, hc⟩ := h.get (by intro e; rw [e] at he; cases he)
      have c0 := (hB.cell (p := ⟨b, o + k, none⟩) hbl).trans (hc k _ he)
      have HH := hid (And.intro hc hB)
      have hbw : b < wr.heap.size := Nat.lt_of_lt_of_le hbl hB.size
      obtain ⟨q1, q2⟩ := txt_yes (show mtext (q + k) = mtext (q + k) from rfl)
      have g0 := BW.cell (B := wr.heap.size) hbw c0
      clear hc hB he h c0
      go_wp2_with fail
      have hba := @BW.all wr.heap.size wr
      refine calm_region wr.heap.size (by kernel_rfl) (by kernel_rfl) ?_
      repeat (go_big_quiet_step ((go_at_call 59; exact Calls.bw (v := .string (mtext (q + k))) (Nat.le_refl _) (markText_at _ (q + k) _ (by omega) (by omega) (by omega)))))
      refine wpQuiet_nil ?_
      intro w4 hw
      obtain ⟨x, hx⟩ := hw
      have hB4 : Below wr.heap.size wr w4 := by rw [hx]; exact x.h
      have HB4 := hid ((unhid HH).2.trans (hB4.mono (unhid HH).2.size))
      clear hx x g0 hba hB4 HH
      go_wp2_with fail
      go_roundw
      case rel => exact ⟨k + 1, by omega, by go_num, by go_num, unhid HB4⟩
      case measure => simp [intOf]; omega
    · have e : k = n := by omega
      subst e
      go_wp2_with fail
      go_ret
      exact ⟨ret_int (by go_num), hB⟩
end Go.Proofs.Ytedimkcnemhhpaa

/- A hunk done to lines, with the least fuzz that makes it fit, by the program. -/
namespace Go.Proofs.Ytedimkcnemhhpaa
open Go.RowKit Go.Shelf

set_option maxRecDepth 100000 in
set_option maxHeartbeats 1000000 in
theorem laterLines_any (h : Hk) (la : Option Addr) (cap : Nat) (w : World) (hlen : h.lines.length ≤ 1048576) (hz : ∀ x ∈ h.lines, 0 < x.size ∧ x.size ≤ maxLen) (ht : TxtsAt w la h.lines) :
    Calls Try.prog 107 #[.agg #[.int .i64 h.at_, .slice la h.lines.length cap]] w fun e w' => ∃ v, e = .returned v ∧ w'.ownsRow w.heap.size 9 1 v (withX 43 h.lines).length ((withX 43 h.lines).map Value.string) ∧ Below w.heap.size w w' := by
  have HT := hid ht
  have HZ := hid hz
  clear ht hz
  have hA : ∀ o, Below w.heap.size w (w.alloc o) := fun o => (Below.refl _ w).alloc (Nat.le_refl _) o
  have HA := hid hA
  clear hA
  go_enter Try.func107, Try.ntmps107
  go_wp2_with fail
  refine (linesWith_any h 43 la cap _ hlen (unhid HZ) ((unhid HT).below (unhid HA _))).mono ?_
  rintro e w1 ⟨v, rfl, ho, hb⟩
  have HO := hid (ownsRow_baseX ho (unhid HA _).size)
  have HB := hid ((unhid HA _).trans (hb.mono (unhid HA _).size))
  clear ho hb
  go_wp2_with fail
  go_ret
  exact ⟨_, rfl, unhid HO, unhid HB⟩

theorem infoInt : (Try.prog.info? 3).map (fun i => (i.zero, i.size, i.bytes)) = some (some (.int .i64 0), 1, 8) := by kernel_rfl
/-- How far a hunk was, noted. -/
theorem Wk.far {w W W' : World} {g : Nat} {s : PSt} {ra : Option Addr} {rc : Nat} {dv fv fv' : Value} {z : Int} (h : Wk w W g s ra rc dv fv) (hown : W'.ownsRow w.heap.size 3 1 fv' (s.far.length + 1) (s.far.map (Value.int .i64) ++ [.int .i64 z])) (hg : W.grownBy W' fv.ownBlock) (hat : fv'.ownBlock = fv.ownBlock ∨ fv'.ownBlock = some W.heap.size) :
    FourAt W' g (.slice ra s.rest.length rc) dv fv (.int .i64 s.later) ∧ Below w.heap.size w W' ∧ Wk w (W'.setCell ⟨g, 2, none⟩ fv') g ⟨s.done, s.rest, s.far ++ [z], s.later⟩ ra rc dv fv' := by
  have h4 : FourAt W' g (.slice ra s.rest.length rc) dv fv (.int .i64 s.later) := h.four.block (hg.block g h.lt (fun e => h.fg e.symm))
  have hne : fv'.ownBlock ≠ some g := by
    rcases hat with e | e <;> rw [e]
    · exact h.fg
    · intro e; cases e; exact Nat.lt_irrefl _ h.lt
  have hB : Below w.heap.size w W' := h.below.grown hg h.below.size (fun k e => (h.fown.lt k e).1)
  refine ⟨h4, hB, h.lo, by have := hg.size; have := h.lt; simp; omega, h4.set2 fv', owns_set (owns_grown h.down hg h.df) h.dg _, ?_, h.dg, hne, ?_, h.rest, h.rnil, h.rcap, hB.setCell (p := ⟨g, 2, none⟩) h.lo _⟩
  · have := owns_set hown (p := ⟨g, 2, none⟩) hne fv'
    simpa using this
  · cases hdv : dv.ownBlock with
    | none => exact .inl rfl
    | some b =>
      refine .inr (fun e => ?_)
      rcases hat with e2 | e2
      · rcases h.df with e3 | e3
        · rw [e3] at hdv; cases hdv
        · exact e3 (by rw [hdv, e, e2])
      · rw [e2] at e
        cases e
        exact Nat.lt_irrefl _ (h.down.lt _ hdv).2
theorem Wk.setLater {w W : World} {g : Nat} {s : PSt} {ra : Option Addr} {rc : Nat} {dv fv : Value} (h : Wk w W g s ra rc dv fv) (z : Int) :
    Wk w (W.setCell ⟨g, 3, none⟩ (.int .i64 z)) g ⟨s.done, s.rest, s.far, z⟩ ra rc dv fv :=
  ⟨h.lo, by simpa using h.lt, h.four.set3 _, owns_set h.down h.dg _, owns_set h.fown h.fg _, h.dg, h.fg, h.df, h.rest, h.rnil, h.rcap, h.below.setCell (p := ⟨g, 3, none⟩) h.lo _⟩

set_option maxRecDepth 100000 in
set_option maxHeartbeats 8000000 in
theorem do_any (w W : World) (g : Nat) (s : PSt) (ra : Option Addr) (rc : Nat) (dv fv : Value) (h : Hk) (far : Int) (la : Option Addr) (cap : Nat) (hw : Wk w W g s ra rc dv fv) (hat : -10000 ≤ h.at_ ∧ h.at_ ≤ 10000) (hl : -10000 ≤ s.later ∧ s.later ≤ 10000) (hd : s.done.length ≤ 10000) (hr : s.rest.length ≤ 10000) (hfl : s.far.length ≤ 10000) (hfa : -10 ≤ far ∧ far ≤ 10) (hlen : h.lines.length ≤ 10000) (hz : ∀ x ∈ h.lines, 0 < x.size ∧ x.size ≤ maxLen) (ht : TxtsAt W la h.lines) (hfit : 0 ≤ onM s h + far ∧ onM s h + far + ((oldL h).length : Int) ≤ (s.rest.length : Int)) :
    Calls Try.prog 93 #[.pointer (some ⟨g, 0, none⟩), .agg #[.int .i64 h.at_, .slice la h.lines.length cap], .int .i64 far] W fun e W' => ∃ u, e = .returned u ∧ ∃ ra' rc' dv' fv', Wk w W' g (doM s h far) ra' rc' dv' fv' := by
  have hol : (oldL h).length ≤ h.lines.length := withX_len _ _
  have hnl : (newL h).length ≤ h.lines.length := withX_len _ _
  obtain ⟨k, hk⟩ : ∃ k : Nat, onM s h + far = (k : Int) := ⟨(onM s h + far).toNat, by omega⟩
  have hkr : k + (oldL h).length ≤ s.rest.length := by omega
  have HDM := hid (show doM s h far = ⟨s.done ++ s.rest.take k ++ newL h, s.rest.drop (k + (oldL h).length), s.far ++ [far], s.later + (far + ((newL h).length : Int) - ((oldL h).length : Int))⟩ by unfold doM; rw [hk]; rfl)
  have HKE := hid hk
  have HW := hid hw
  have HT := hid ht
  have HZ := hid hz
  have HAT := hid hat
  have HLT := hid hl
  obtain ⟨hl1, hl2⟩ := hl
  obtain ⟨fa1, fa2⟩ := hfa
  have hon : -40000 ≤ onM s h ∧ onM s h ≤ 40000 := by obtain ⟨a1, a2⟩ := hat; unfold onM; omega
  obtain ⟨on1, on2⟩ := hon
  have TN := hid (twoAt_new W h.at_ (.slice la h.lines.length cap) 46)
  have HN := hid (show Below W.heap.size W (W.alloc (.cells #[.int .i64 h.at_, .slice la h.lines.length cap] 46)) from (Below.refl _ _).alloc (Nat.le_refl _) _)
  have hlt : W.heap.size < (W.alloc (.cells #[.int .i64 h.at_, .slice la h.lines.length cap] 46)).heap.size := by simp
  clear hw ht hz hat hk hfit
  go_enter Try.func93, Try.ntmps93
  go_wp2_with fail
  have HB0 := HN
  generalize W.alloc (.cells #[.int .i64 h.at_, .slice la h.lines.length cap] 46) = W0 at *
  generalize hgb : W.heap.size = gb at *
  have HGB := hid hgb
  clear hgb
  have HW0 := hid ((unhid HW).step (by rw [unhid HGB]; exact unhid HB0))
  have HT0 := hid ((unhid HT).below (by rw [unhid HGB]; exact unhid HB0))
  clear HN HW HT HB0
  -- the two rows
  have g0 : ∀ y : CW (fun w' => Below W0.heap.size W0 w'), y.w.cell? ⟨gb, 0, none⟩ = some (.int .i64 h.at_) := fun y => ((unhid TN).below y.h hlt).1.1
  have g1 : ∀ y : CW (fun w' => Below W0.heap.size W0 w'), y.w.cell? ⟨gb, 1, none⟩ = some (.slice la h.lines.length cap) := fun y => ((unhid TN).below y.h hlt).2.1
  have hba : ∀ {q : Prop}, (CW (fun w' => Below W0.heap.size W0 w') → q) ↔ q := CW.all (Below.refl _ W0)
  refine held_begin (fun w' => Below W0.heap.size W0 w') (by kernel_rfl) (drew_belowX _) ?_
  refine held_here [true, false, true] (by kernel_rfl) (by kernel_rfl) (fun _ _ _ _ _ h => h) (drew_belowX _) ?_
  dsimp only [pick]
  repeat (go_big_quiet_step (fail))
  refine wpQuiet_nil ?_
  refine held_call 1 49 9 (enters_of Try.func49 (by kernel_rfl) rfl) #[.agg #[.int .i64 h.at_, .slice la h.lines.length cap]] (by kernel_rfl) (by kernel_rfl) rfl rfl rfl rfl rfl ?_
  refine (elderLines_any h la cap _ (by omega) (unhid HZ) ((unhid HT0).below (drew_belowX _))).mono ?_
  rintro r W1 ⟨ov, rfl, ho, hb⟩
  have hW1 : Below W0.heap.size W0 W1 := (drew_belowX W0).trans hb
  refine ⟨_, rfl, hW1, ?_⟩
  obtain ⟨oa, oc, hov⟩ := ownsRow_sliceX ho
  subst hov
  clear hb ho
  simp only [Act.put, List.setIfInBounds_toArray, List.set_cons_zero, List.set_cons_succ]
  refine held_call 3 107 11 (enters_of Try.func107 (by kernel_rfl) rfl) #[.agg #[.int .i64 h.at_, .slice la h.lines.length cap]] (by kernel_rfl) (by kernel_rfl) rfl rfl rfl rfl rfl ?_
  refine (laterLines_any h la cap _ (by omega) (unhid HZ) ((unhid HT0).below hW1)).mono ?_
  rintro r W2 ⟨nv, rfl, hno, hb⟩
  have hW2 : Below W0.heap.size W0 W2 := hW1.trans (hb.mono hW1.size)
  refine ⟨_, rfl, hW2, ?_⟩
  have HNO := hid (TxtOwn.of_owns hno)
  obtain ⟨na, nc, hnv⟩ := ownsRow_sliceX hno
  subst hnv
  have HNR := hid (TxtOwn.read (unhid HNO).1)
  have HNB := hid (show ∀ b o, na = some ⟨b, o, none⟩ → W0.heap.size ≤ b from fun b o e => by subst e; exact Nat.le_trans hW1.size ((unhid HNO).2 b (by simp [Value.ownBlock])).1)
  clear hb hno
  simp only [Act.put, List.setIfInBounds_toArray, List.set_cons_zero, List.set_cons_succ]
  refine held_here [false, false, false, false, true, true] (by kernel_rfl) (by kernel_rfl) (fun _ _ _ _ _ h => h) hW2 ?_
  dsimp only [pick]
  repeat (go_big_quiet_step (fail))
  refine wpQuiet_nil ?_
  refine held_done (by kernel_rfl) ?_
  have HW2 := hid ((unhid HW0).step hW2)
  have HTN := hid ((unhid TN).below hW2 hlt)
  have HNT := hid (show TxtsAt W2 na (newL h) ∧ (na = none → nc = 0) by
    obtain ⟨a', c', hv, ht2, hnil⟩ := unhid HNR
    injection hv with e1 e2 e3
    subst e1 e3
    exact ⟨ht2, hnil⟩)
  have hg2 : gb < W2.heap.size := Nat.lt_of_lt_of_le hlt hW2.size
  have HOL := hid (show (withX 45 h.lines).length = (oldL h).length ∧ (withX 43 h.lines).length = (newL h).length from ⟨rfl, rfl⟩)
  rw [(unhid HOL).1, (unhid HOL).2]
  clear g0 g1 hba hW1 hW2 HNO HNR HOL HT0 TN
  obtain ⟨⟨b0, _⟩, b1, _⟩ := unhid HTN
  go_wp2_with fail
  refine (lookedFor_any w W2 g s ra rc dv fv h (.slice la h.lines.length cap) (unhid HW2) (by have := unhid HAT; omega) (by omega) (by omega)).mono ?_
  rintro r W3 ⟨rfl, hb⟩
  have HW3 := hid ((unhid HW2).step hb)
  have HNT3 := hid (And.intro ((unhid HNT).1.below hb) (unhid HNT).2)
  have hs3 := hb.size
  clear hb HW2 HNT b0 b1 HTN
  go_wp2_with fail
  rw [unhid HKE]
  refine (keep_any w W3 g k s ra rc dv fv (unhid HW3) (by omega) (by omega) (by omega)).mono ?_
  rintro r W4 ⟨u4, rfl, dv4, hwk, hon⟩
  have HW4 := hid hwk
  have HNT4 := hid (show TxtsAt W4 na (newL h) ∧ (na = none → nc = 0) from ⟨by
    rcases (unhid HNT3).1 with h0 | ⟨b, o, e, hlb, hc⟩
    · exact .inl h0
    · refine .inr ⟨b, o, e, Nat.lt_of_lt_of_le hlb hon.size, fun i x hi => (World.cell?_of_block (w := W3) (hon.block b hlb (fun hm => ?_))).trans (hc i x hi)⟩
      have hb0 := unhid HNB b o e
      have hg0 := (unhid HW0).lt
      rcases List.mem_cons.1 hm with rfl | hm
      · omega
      · have hdb : dv.ownBlock = some b := by cases hd0 : dv.ownBlock with | none => rw [hd0] at hm; cases hm | some x => rw [hd0] at hm; rw [List.mem_singleton.1 hm]
        have := ((unhid HW0).down.lt b hdb).2
        omega, (unhid HNT3).2⟩)
  clear hwk hon HW3 HNT3
  go_wp2_with fail
  refine (take_any w W4 g (oldL h).length _ _ _ dv4 fv (unhid HW4) (by simp only [List.length_drop]; omega)).mono ?_
  rintro r W5 ⟨rfl, hW5⟩
  have HW5 := hid ((unhid HW4).took (k := (oldL h).length) (by simp only [List.length_drop]; omega))
  rw [← hW5] at HW5
  have HNT5 := hid (show TxtsAt W5 na (newL h) ∧ (na = none → nc = 0) from ⟨by
    rw [hW5]
    refine (unhid HNT4).1.block g (fun b o e => by have := unhid HNB b o e; have := (unhid HW0).lt; omega) (by simp) (fun b _ hne => Below.heap_setCell _ _ _ _ hne), (unhid HNT4).2⟩)
  clear hW5 HW4 HNT4
  dsimp only at HW5
  rw [List.drop_drop] at HW5
  obtain ⟨d5, c5, hdv5⟩ := ownsRow_sliceX (unhid HW5).down
  subst hdv5
  have hdl : (s.done ++ s.rest.take k).length ≤ 30000 := by simp only [List.length_append, List.length_take]; omega
  generalize hD5 : s.done ++ s.rest.take k = D5 at *
  generalize hR5 : s.rest.drop (k + (oldL h).length) = R5 at *
  generalize subA (subA ra rc k) (rc - k) (oldL h).length = ra5 at *
  generalize rc - k - (oldL h).length = rc5 at *
  dsimp only at HW5 ⊢
  have c1 := (unhid HW5).four.c1
  have hwl5 := (unhid HW5).below.size
  go_wp2_with (at_builtin; refine wp_app rfl _ _ rfl w.heap.size _ D5 (newL h) na nc rfl rfl (unhid HW5).down (unhid HNT5).1 (unhid HNT5).2 ?c1 hwl5 ?_)
  case c1 => omega
  intro v' W6 hown hg hatb
  have hown2 : W6.ownsRow w.heap.size 9 1 v' (D5 ++ newL h).length ((D5 ++ newL h).map Value.string) := by rw [List.length_append, List.map_append]; exact hown
  clear hown
  have hown := hown2
  clear hown2
  obtain ⟨t4, hB6, HW6'⟩ := (unhid HW5).app hown hg hatb
  obtain ⟨va, vc, hv⟩ := ownsRow_sliceX hown
  subst hv
  have f1 := t4.f1
  have c1' := t4.c1
  have HW6 := hid HW6'
  clear c1 hown hg hatb HW6' t4 HW5 HNT5 hB6
  dsimp only at HW6
  obtain ⟨fa, fc, hfv⟩ := ownsRow_sliceX (unhid HW6).fown
  subst hfv
  dsimp only at HW6
  obtain ⟨i0, hi, hz0, hz1, hz2⟩ := info_parts infoInt
  rw [List.length_append] at *
  have HW6b := hid (show Wk w (W6.setCell ⟨g, 1, none⟩ (.slice va (D5.length + (newL h).length) vc)) g ⟨D5 ++ newL h, R5, s.far, s.later⟩ ra5 rc5 (.slice va (D5.length + (newL h).length) vc) (.slice fa s.far.length fc) from unhid HW6)
  have c2 := (unhid HW6b).four.c2
  have hfo := hid (unhid HW6b).fown
  have hbl := (unhid HW6b).below.size
  have hNW := hid (show ∀ X : World, Below X.heap.size X (X.alloc (.cells #[.int .i64 far] 3)) from fun X => (Below.refl _ _).alloc (Nat.le_refl _) _)
  clear HW6
  go_wp2_with (at_builtin; refine wpList_append_own_at _ rfl _ _ 35 rfl w.heap.size 3 i0 (.int .i64 0) 1 8 Try.underlying35 hi hz0 hz1 hz2 rfl (by decide) _ s.far.length (s.far.map (Value.int .i64)) rfl ((unhid hfo).alloc _) ⟨_, 0, none⟩ 1 1 [.int .i64 far] rfl rfl ?c1 ?c2 ?c3 ?c4 ?c5 ?_)
  case c2 => first | (intro u hu; simp at hu; subst hu; rfl) | rfl | simp
  case c3 => unfold maxLen; omega
  case c4 => omega
  case c5 => have := hbl; simp at this ⊢; omega
  intro v' W7 hown hg _ hatb
  have HWA := hid ((unhid HW6b).step (unhid hNW _))
  obtain ⟨t5, hB7, HW7'⟩ := (unhid HWA).far hown hg (by simpa using hatb)
  obtain ⟨ga, gc, hgv⟩ := ownsRow_sliceX hown
  subst hgv
  have f2 := t5.f2
  have c2' := t5.c2
  have HW7 := hid HW7'
  clear c2 hown hg hatb HW7' t5 HWA HW6b hfo hB7 hbl
  have c3 := (unhid HW7).four.c3
  have f3 := (unhid HW7).four.f3
  dsimp only at c3
  have HW8 := hid ((unhid HW7).setLater (s.later + (far + ((newL h).length : Int) - ((oldL h).length : Int))))
  go_wp2_with fail
  have HW9 := hid (show ∃ ra' rc' dv' fv', Wk w _ g (doM s h far) ra' rc' dv' fv' from ⟨ra5, rc5, _, _, by rw [unhid HDM]; exact unhid HW8⟩)
  refine bodyPost_end (results_none rfl _ _ _) rfl ?_
  first | exact ⟨_, rfl, unhid HW9⟩ | exact ⟨⟨_, rfl⟩, unhid HW9⟩

set_option maxRecDepth 100000 in
set_option maxHeartbeats 8000000 in
theorem pass_any (w W : World) (g : Nat) (s : PSt) (ra : Option Addr) (rc : Nat) (dv fv : Value) (h : Hk) (fuzz : Nat) (la : Option Addr) (cap : Nat) (hw : Wk w W g s ra rc dv fv) (hat : -5000 ≤ h.at_ ∧ h.at_ ≤ 5000) (hl : -5000 ≤ s.later ∧ s.later ≤ 5000) (hd : s.done.length ≤ 5000) (hr : s.rest.length ≤ 5000) (hfl : s.far.length ≤ 5000) (hfz : fuzz ≤ 2) (hlen : h.lines.length ≤ 30) (hcap : h.lines.length ≤ cap) (hz : ∀ x ∈ h.lines, 0 < x.size ∧ x.size ≤ maxLen) (ht : TxtsAt W la h.lines) :
    Calls Try.prog 63 #[.pointer (some ⟨g, 0, none⟩), .agg #[.int .i64 h.at_, .slice la h.lines.length cap], .int .i64 (fuzz : Int)] W fun e W' => e = .returned (.bool (passM s h fuzz).isSome) ∧ Hid (∃ ra' rc' dv' fv', Wk w W' g ((passM s h fuzz).getD s) ra' rc' dv' fv') := by
  have HAT := hid hat
  have HLT := hid hl
  have HZ := hid hz
  have TN := hid (twoAt_new W h.at_ (.slice la h.lines.length cap) 46)
  have HN := hid (show Below W.heap.size W (W.alloc (.cells #[.int .i64 h.at_, .slice la h.lines.length cap] 46)) from (Below.refl _ _).alloc (Nat.le_refl _) _)
  have hlt : W.heap.size < (W.alloc (.cells #[.int .i64 h.at_, .slice la h.lines.length cap] 46)).heap.size := by simp
  have HW := hid (hw.step (unhid HN))
  have HT := hid (ht.below (unhid HN))
  have HPM := hid (show passM s h fuzz = passFrom s h (fuzz + 1 - 0) 0 from rfl)
  clear hw ht hz hat hl HN
  go_enter Try.func63, Try.ntmps63
  go_wp2_with fail
  generalize W.alloc (.cells #[.int .i64 h.at_, .slice la h.lines.length cap] 46) = W0 at *
  generalize W.heap.size = gb at *
  go_loopw [13] (fun i wr => ∃ k : Nat, k ≤ fuzz + 1 ∧ i = .int .i64 (k : Int) ∧ Hid (passM s h fuzz = passFrom s h (fuzz + 1 - k) k) ∧ Hid (Below W0.heap.size W0 wr)) (fun i _ => fuzz + 1 - (intOf i).toNat)
  case atStart => exact ⟨0, by omega, rfl, HPM, hid (Below.refl _ _)⟩
  case round =>
    obtain ⟨k, hk, rfl, HK, HB⟩ := hrel
    by_cases hlt2 : k < fuzz + 1
    · obtain ⟨⟨b0, _⟩, b1, _⟩ := (unhid TN).below (unhid HB) hlt
      have HST := hid (show passM s h fuzz = match tryM s (trimH h k) with | some far => some (doM s (trimH h k) far) | none => passFrom s h (fuzz + 1 - (k + 1)) (k + 1) by
        rw [unhid HK, show fuzz + 1 - k = (fuzz + 1 - (k + 1)) + 1 by omega]; rfl)
      obtain ⟨l1, l2⟩ := trimA_le h.lines k
      have hat3 : -5000 ≤ (trimH h k).at_ ∧ (trimH h k).at_ ≤ 5030 := by have := unhid HAT; show -5000 ≤ h.at_ + (trimA h.lines k : Int) ∧ h.at_ + (trimA h.lines k : Int) ≤ 5030; omega
      have hln3 : (trimH h k).lines.length ≤ 30 := by show (trimL h.lines k).length ≤ 30; rw [trimL_len]; omega
      have HZ3 := hid (show ∀ x ∈ (trimH h k).lines, 0 < x.size ∧ x.size ≤ maxLen from fun x hx => unhid HZ x (trimL_mem hx))
      have HTP := hid (show ∀ X : World, Below W0.heap.size W0 X → TxtsAt X (subA la cap (trimA h.lines k)) (trimH h k).lines from fun X hX => ((unhid HT).part hcap (trimA h.lines k) (h.lines.length - trimZ h.lines k - trimA h.lines k)).below hX)
      go_wp2_with fail
      refine (withoutEnds_any h k la cap wr (by omega) (by have := unhid HAT; omega) hlen hcap (unhid HZ) ((unhid HT).below (unhid HB))).mono ?_
      rintro e W1 ⟨rfl, hb⟩
      have HB1 := hid ((unhid HB).trans (hb.mono (unhid HB).size))
      clear hb b0 b1 HB
      generalize trimH h k = p at *
      generalize subA la cap (trimA h.lines k) = pa at *
      generalize cap - trimA h.lines k = pc at *
      have hNB : Below W1.heap.size W1 (W1.alloc (.cells #[.int .i64 p.at_, .slice pa p.lines.length pc] 46)) := (Below.refl _ _).alloc (Nat.le_refl _) _
      have TP := hid (twoAt_new W1 p.at_ (.slice pa p.lines.length pc) 46)
      have hlt3 : W1.heap.size < (W1.alloc (.cells #[.int .i64 p.at_, .slice pa p.lines.length pc] 46)).heap.size := by simp
      have HB2 := hid ((unhid HB1).trans (hNB.mono (unhid HB1).size))
      have HW2 := hid ((unhid HW).step (unhid HB2))
      have HT2 := hid (unhid HTP _ (unhid HB2))
      have hs2 := hNB.size
      obtain ⟨⟨q0, _⟩, q1, _⟩ := unhid TP
      clear hNB HB1
      go_wp2_with fail
      generalize W1.alloc (.cells #[.int .i64 p.at_, .slice pa p.lines.length pc] 46) = W2 at *
      generalize W1.heap.size = gp at *
      refine (find_any w W2 g s ra rc dv fv p pa pc (unhid HW2) (by omega) (by have := unhid HLT; omega) (by omega) (by omega) (by omega) (unhid HZ3) (unhid HT2)).mono ?_
      rintro e W3 ⟨rfl, hb⟩
      have HB3 := hid ((unhid HB2).trans (hb.mono (unhid HB2).size))
      have HW3 := hid ((unhid HW2).step hb)
      have HT3 := hid ((unhid HT2).below hb)
      have TP3 := hid ((unhid TP).below hb hlt3)
      have HFS := hid (fun far (e : tryM s p = some far) => findM_some e)
      clear hb q0 q1 HB2 HW2 HT2 TP hlt3
      obtain ⟨⟨q0, _⟩, q1, _⟩ := unhid TP3
      cases htr : tryM s p with
      | none =>
        have HST2 := hid (show passM s h fuzz = passFrom s h (fuzz + 1 - (k + 1)) (k + 1) by rw [unhid HST, htr])
        clear htr HST
        go_wp2_with fail
        go_roundw
        case rel => exact ⟨k + 1, by omega, by go_num, HST2, HB3⟩
        case measure => simp [intOf]; omega
      | some far =>
        have HST2 := hid (show passM s h fuzz = some (doM s p far) by rw [unhid HST, htr])
        obtain ⟨hst, f1, f2⟩ := unhid HFS far htr
        obtain ⟨p1, p2, _⟩ := standB_parts hst
        clear htr HST hst
        go_wp2_with fail
        refine (do_any w W3 g s ra rc dv fv p far pa pc (unhid HW3) (by omega) (by have := unhid HLT; omega) (by omega) (by omega) (by omega) (by omega) (by omega) (unhid HZ3) (unhid HT3) ⟨p1, p2⟩).mono ?_
        rintro e W4 ⟨u4, rfl, hwk⟩
        have HW4 := hid hwk
        clear hwk q0 q1
        go_wp2_with fail
        go_ret
        exact ⟨by rw [unhid HST2]; rfl, hid (by rw [unhid HST2]; exact unhid HW4)⟩
    · have e : k = fuzz + 1 := by omega
      have E := hid (show passM s h fuzz = none by rw [unhid HK, e, Nat.sub_self]; rfl)
      have HW2 := hid ((unhid HW).step (unhid HB))
      have hlt3 : decide ((k : Int) < (fuzz : Int) + 1) = false := by rw [decide_eq_false_iff_not]; omega
      clear e
      go_wp2_with fail
      go_ret
      exact ⟨by rw [unhid E]; rfl, hid (by rw [unhid E]; exact ⟨_, _, _, _, unhid HW2⟩)⟩
end Go.Proofs.Ytedimkcnemhhpaa

/- Rows of hunks in memory of their own; what is written over them. -/
namespace Go.Proofs.Ytedimkcnemhhpaa
open Go.RowKit Go.Shelf

/-- A row of hunks at block g, each with the blocks of its lines. -/
structure HkAll (W : World) (g : Nat) (hs : List Hk) (cur : Array Value) (Fs : List (List Nat)) : Prop where
  heap : W.heap[g]? = some (.cells cur 46 (0, 0))
  size : hs.length * 2 ≤ cur.size
  len : Fs.length = hs.length
  each : ∀ (i : Nat) h, hs[i]? = some h → ∃ lv Fi, Fs[i]? = some Fi ∧ cur[i * 2]? = some (.int .i64 h.at_) ∧ cur[i * 2 + 1]? = some lv ∧ TxtOwn W lv h.lines Fi
def HkOwn (W : World) (v : Value) (hs : List Hk) (F : List Nat) : Prop := (hs = [] ∧ F = [] ∧ ∃ a c, v = .slice a 0 c ∧ (a = none → c = 0)) ∨
  ∃ g cap cur Fs, v = .slice (some ⟨g, 0, none⟩) hs.length cap ∧ hs.length ≤ cap ∧ F = g :: Fs.flatten ∧ F.Nodup ∧ HkAll W g hs cur Fs
theorem mem_flat {Fs : List (List Nat)} {i : Nat} {Fi : List Nat} (h : Fs[i]? = some Fi) {k : Nat} (hk : k ∈ Fi) : k ∈ Fs.flatten := List.mem_flatten.2 ⟨Fi, List.mem_of_getElem? h, hk⟩
theorem HkAll.frame {W W' : World} {g : Nat} {hs : List Hk} {cur : Array Value} {Fs : List (List Nat)} (h : HkAll W g hs cur Fs) (hf : ∀ k ∈ g :: Fs.flatten, W'.heap[k]? = W.heap[k]?) : HkAll W' g hs cur Fs :=
  ⟨(hf g (by simp)).trans h.heap, h.size, h.len, fun i x hi => by
    obtain ⟨lv, Fi, h1, h2, h3, h4⟩ := h.each i x hi
    exact ⟨lv, Fi, h1, h2, h3, h4.frame (fun k hk => hf k (List.mem_cons_of_mem _ (mem_flat h1 hk)))⟩⟩
theorem HkOwn.frame {W W' : World} {v : Value} {hs : List Hk} {F : List Nat} (h : HkOwn W v hs F) (hf : ∀ k ∈ F, W'.heap[k]? = W.heap[k]?) : HkOwn W' v hs F := by
  rcases h with h | ⟨g, cap, cur, Fs, hv, hc, rfl, hn, ha⟩
  · exact .inl h
  · exact .inr ⟨g, cap, cur, Fs, hv, hc, rfl, hn, ha.frame hf⟩
theorem HkAll.lt {W : World} {g : Nat} {hs : List Hk} {cur : Array Value} {Fs : List (List Nat)} (h : HkAll W g hs cur Fs) : ∀ k ∈ g :: Fs.flatten, k < W.heap.size := by
  intro k hk
  rcases List.mem_cons.1 hk with rfl | hk
  · exact (Array.getElem?_eq_some_iff.1 h.heap).1
  · obtain ⟨Fi, hF, hk⟩ := List.mem_flatten.1 hk
    obtain ⟨i, hi⟩ := List.getElem?_of_mem hF
    have hl : i < hs.length := by rw [← h.len]; exact (List.getElem?_eq_some_iff.1 hi).1
    obtain ⟨lv, Fi', h1, _, _, h4⟩ := h.each i hs[i] (List.getElem?_eq_getElem hl)
    rw [hi] at h1
    cases h1
    exact h4.lt k hk
theorem HkOwn.lt {W : World} {v : Value} {hs : List Hk} {F : List Nat} (h : HkOwn W v hs F) : ∀ k ∈ F, k < W.heap.size := by
  rcases h with ⟨_, rfl, _⟩ | ⟨g, cap, cur, Fs, hv, hc, rfl, hn, ha⟩
  · intro k hk; cases hk
  · exact ha.lt
theorem cell_arr {W : World} {g T : Nat} {cur : Array Value} {fz : Nat × Nat} (hh : W.heap[g]? = some (.cells cur T fz)) (i : Nat) (v : Value) (hv : cur[i]? = some v) : W.cell? ⟨g, i, none⟩ = some v := by simp [World.cell?, hh, hv]
theorem HkOwn.read {W : World} {v : Value} {hs : List Hk} {F : List Nat} (h : HkOwn W v hs F) : ∃ a cap, v = .slice a hs.length cap ∧ HksAt W a hs := by
  rcases h with ⟨rfl, _, a, c, hv, hn⟩ | ⟨g, cap, cur, Fs, hv, hc, rfl, hn, ha⟩
  · exact ⟨a, c, hv, .inl rfl⟩
  · refine ⟨_, cap, hv, .inr ⟨g, 0, rfl, (Array.getElem?_eq_some_iff.1 ha.heap).1, fun i x hi => ?_⟩⟩
    obtain ⟨lv, Fi, h1, h2, h3, h4⟩ := ha.each i x hi
    obtain ⟨la, lc, rfl, ht, _⟩ := h4.read
    rw [Nat.zero_add]
    exact ⟨la, lc, cell_arr ha.heap _ _ h2, cell_arr ha.heap _ _ h3, ht⟩
def hkK : Kind := ⟨List Hk, HkOwn, HkOwn.frame, HkOwn.lt⟩
/-- What is written over hunks. -/
def markH : Nat → List Hk → List Hk
  | _, [] => []
  | q, h :: hs => ⟨(q : Int), mtexts (q + 1) h.lines.length⟩ :: markH (q + 1 + h.lines.length) hs
def cntH : List Hk → Nat
  | [] => 0
  | h :: hs => 1 + h.lines.length + cntH hs
theorem markH_len : ∀ (q : Nat) (hs : List Hk), (markH q hs).length = hs.length
  | _, [] => rfl
  | q, h :: hs => by simp [markH, markH_len]
theorem cntH_take (hs : List Hk) (k : Nat) (h : Hk) (e : hs[k]? = some h) : cntH (hs.take (k + 1)) = cntH (hs.take k) + 1 + h.lines.length := by
  induction hs generalizing k with
  | nil => cases e
  | cons x hs ih =>
    cases k with
    | zero => simp at e; subst e; simp [cntH]
    | succ k => have := ih k e; simp [cntH, this]; omega
theorem cntH_le : ∀ (hs : List Hk) (k : Nat), cntH (hs.take k) ≤ cntH hs
  | [], _ => by simp
  | h :: hs, 0 => by simp [cntH]
  | h :: hs, k + 1 => by have := cntH_le hs k; simp [cntH]; omega
theorem markH_get (q : Nat) (hs : List Hk) (k : Nat) (h : Hk) (e : hs[k]? = some h) : (markH q hs)[k]? = some ⟨((q + cntH (hs.take k) : Nat) : Int), mtexts (q + cntH (hs.take k) + 1) h.lines.length⟩ := by
  induction hs generalizing k q with
  | nil => cases e
  | cons x hs ih =>
    cases k with
    | zero => simp at e; subst e; simp [markH, cntH]
    | succ k =>
      have := ih (q + 1 + x.lines.length) k e
      simp only [markH, List.getElem?_cons_succ, this, List.take_succ_cons, cntH]
      congr 2 <;> congr 1 <;> omega
theorem totH_cnt : ∀ hs : List Hk, cntH hs ≤ hs.length + totH hs
  | [] => by simp [cntH]
  | h :: hs => by have := totH_cnt hs; simp [cntH, totH] at *; omega
/-- Hunks of which the first k are written over. -/
def markUpto (q : Nat) (hs : List Hk) (k : Nat) : List Hk := (markH q hs).take k ++ hs.drop k
theorem markUpto_get_lt {q : Nat} {hs : List Hk} {k i : Nat} (h : i < k) (hl : k ≤ hs.length) : (markUpto q hs k)[i]? = (markH q hs)[i]? := by
  unfold markUpto
  rw [List.getElem?_append_left (by rw [List.length_take, markH_len]; omega), List.getElem?_take_of_lt h]
theorem markUpto_get_ge {q : Nat} {hs : List Hk} {k i : Nat} (h : k ≤ i) (hl : k ≤ hs.length) : (markUpto q hs k)[i]? = hs[i]? := by
  unfold markUpto
  have e : ((markH q hs).take k).length = k := by rw [List.length_take, markH_len]; omega
  rw [List.getElem?_append_right (by omega), e, List.getElem?_drop, show k + (i - k) = i by omega]
theorem nodup_apart {g : Nat} {Fs : List (List Nat)} (h : (g :: Fs.flatten).Nodup) {i : Nat} {Fi : List Nat} (hi : Fs[i]? = some Fi) : g ∉ Fi ∧ ∀ j Fj, Fs[j]? = some Fj → j ≠ i → ∀ k ∈ Fj, k ∉ Fi := by
  rw [List.nodup_cons] at h
  refine ⟨fun e => h.1 (mem_flat hi e), fun j Fj hj hne k hk hk' => ?_⟩
  have hp := (List.pairwise_flatten.1 h.2).2
  rw [List.pairwise_iff_getElem] at hp
  obtain ⟨li, ei⟩ := List.getElem?_eq_some_iff.1 hi
  obtain ⟨lj, ej⟩ := List.getElem?_eq_some_iff.1 hj
  rcases Nat.lt_or_ge i j with hij | hij
  · have := hp i j li lj hij
    rw [ei, ej] at this
    exact this k hk' k hk rfl
  · have := hp j i lj li (by omega)
    rw [ei, ej] at this
    exact this k hk k hk' rfl

set_option maxRecDepth 100000 in
set_option maxHeartbeats 2000000 in
theorem markHunkS_own (hs : List Hk) (v : Value) (F : List Nat) (q : Nat) (w : World) (hn : hs.length ≤ 1048576) (hc : cntH hs ≤ 2097152) (hl : ∀ h ∈ hs, h.lines.length ≤ 1048576) (hq : 0 < q) (hq2 : q ≤ 10000000) (h : HkOwn w v hs F) :
    Calls Try.prog 26 #[v, .int .i64 (q : Int)] w fun x w' => x = .returned (.int .i64 ((q + cntH hs : Nat) : Int)) ∧ HkOwn w' v (markH q hs) F ∧ Only F w w' := by
  rcases h with ⟨rfl, rfl, a, c, rfl, hnil⟩ | ⟨g, cap, cur, Fs, rfl, hcap, rfl, hnd, ha⟩
  · go_enter Try.func26, Try.ntmps26
    go_wp2_with fail
    go_loopw [1, 5] (fun c i wr => i = .int .i64 0 ∧ c = .int .i64 (q : Int) ∧ wr = w) (fun _ i _ => 0)
    case atStart => exact ⟨rfl, rfl, rfl⟩
    case round =>
      obtain ⟨rfl, rfl, rfl⟩ := hrel
      go_wp2_with fail
      go_ret
      exact ⟨ret_int (by simp [cntH]), .inl ⟨rfl, rfl, a, c, rfl, hnil⟩, Only.refl _ _⟩
  · have HA := hid ha
    have HN := hid hnd
    clear ha hnd
    go_enter Try.func26, Try.ntmps26
    go_wp2_with fail
    go_loopw [1, 5] (fun c i wr => ∃ k : Nat, k ≤ hs.length ∧ i = .int .i64 (k : Int) ∧ c = .int .i64 ((q + cntH (hs.take k) : Nat) : Int) ∧ Hid (∃ cur2 : Array Value, HkAll wr g (markUpto q hs k) cur2 Fs) ∧ Hid (Only (g :: Fs.flatten) w wr)) (fun _ i _ => hs.length - (intOf i).toNat)
    case atStart => exact ⟨0, Nat.zero_le _, rfl, by simp [cntH], hid ⟨cur, by simpa [markUpto] using unhid HA⟩, hid (Only.refl _ _)⟩
    case round =>
      obtain ⟨k, hk, rfl, rfl, HC, HO⟩ := hrel
      have hcl := cntH_le hs k
      by_cases hlt : k < hs.length
      · obtain ⟨e, he⟩ : ∃ e, hs[k]? = some e := ⟨hs[k], List.getElem?_eq_getElem hlt⟩
        have E := hid (cntH_take hs k e he)
        have EM := hid (markH_get q hs k e he)
        have hcl2 := cntH_le hs (k + 1)
        rw [unhid E] at hcl2
        obtain ⟨cur2, hA⟩ := unhid HC
        obtain ⟨lv, Fi, h1, h2, h3, h4⟩ := hA.each k e (by rw [markUpto_get_ge (Nat.le_refl _) hk]; exact he)
        have c0 := cell_arr hA.heap _ _ h2
        have c1 := cell_arr hA.heap _ _ h3
        have f0 : wr.frozen? ⟨g, k * 2, none⟩ = false := by simp [World.frozen?, hA.heap]
        obtain ⟨hgF, hap⟩ := nodup_apart (unhid HN) h1
        obtain ⟨la, lc, rfl, _⟩ := h4.read
        have HT := hid h4
        have HAA := hid hA
        have H13 := hid (And.intro h1 (And.intro hgF (And.intro hap h3)))
        have hle := hl e (List.mem_of_getElem? he)
        have HE := hid he
        generalize hct : cntH (hs.take k) = t at *
        have HCT := hid hct
        clear hct h1 h2 h3 h4 hA hgF hap he HC
        have c2 : (wr.setCell ⟨g, k * 2, none⟩ (.int .i64 ((q : Int) + (t : Int)))).cell? ⟨g, k * 2 + 1, none⟩ = some (.slice la e.lines.length lc) := by rw [World.cell?_setCell_other _ _ _ _ (by simp)]; exact c1
        have hT2 := hid ((unhid HT).frame (W' := wr.setCell ⟨g, k * 2, none⟩ (.int .i64 ((q : Int) + (t : Int)))) (fun j hj => Below.heap_setCell _ _ _ _ (by dsimp only; intro ee; subst ee; exact (unhid H13).2.1 hj)))
        have HH2 := hid (heap_setCell_same wr g (k * 2) cur2 46 (.int .i64 ((q : Int) + (t : Int))) (unhid HAA).heap)
        have HSZ := hid (show (wr.setCell ⟨g, k * 2, none⟩ (.int .i64 ((q : Int) + (t : Int)))).heap.size = wr.heap.size by simp)
        have HO2 := hid ((unhid HO).setCell (p := ⟨g, k * 2, none⟩) (by simp) (.int .i64 ((q : Int) + (t : Int))))
        have hoth := hid (show ∀ j, j ≠ g → (wr.setCell ⟨g, k * 2, none⟩ (.int .i64 ((q : Int) + (t : Int)))).heap[j]? = wr.heap[j]? from fun j hj => Below.heap_setCell _ _ _ _ hj)
        go_wp2_with fail
        generalize wr.setCell ⟨g, k * 2, none⟩ (.int .i64 ((q : Int) + (t : Int))) = wq at *
        have MK := markStringS_own e.lines (.slice la e.lines.length lc) Fi (q + t + 1) wq (by omega) (by omega) (by omega) (unhid hT2)
        rw [show (((q + t + 1 : Nat) : Int)) = (q : Int) + (t : Int) + 1 by omega] at MK
        refine MK.mono ?_
        rintro x w2 ⟨rfl, hown, honly⟩
        have HNX := hid (show HkAll w2 g (markUpto q hs (k + 1)) (cur2.setIfInBounds (k * 2) (.int .i64 ((q : Int) + (t : Int)))) Fs by
          obtain ⟨h1, hgF, hap, h3⟩ := unhid H13
          have hA := unhid HAA
          have hgl := (Array.getElem?_eq_some_iff.1 (unhid HH2)).1
          refine ⟨(honly.block g hgl hgF).trans (unhid HH2), by have := hA.size; simp only [markUpto, List.length_append, List.length_take, List.length_drop, markH_len, Array.size_setIfInBounds] at *; omega, by have := hA.len; simp only [markUpto, List.length_append, List.length_take, List.length_drop, markH_len] at *; omega, fun i x hi => ?_⟩
          have hsz := hA.size
          simp only [markUpto, List.length_append, List.length_take, List.length_drop, markH_len] at hsz
          by_cases eik : i = k
          · subst eik
            rw [markUpto_get_lt (Nat.lt_succ_self _) (by omega), unhid EM] at hi
            cases hi
            refine ⟨.slice la e.lines.length lc, Fi, h1, ?_, ?_, ?_⟩
            · rw [Array.getElem?_setIfInBounds, if_pos rfl, if_pos (by omega)]; rfl
            · rw [Array.getElem?_setIfInBounds, if_neg (by omega)]; exact h3
            · exact hown
          · have hi' : (markUpto q hs k)[i]? = some x := by
              rcases Nat.lt_or_ge i k with hik | hik
              · rw [markUpto_get_lt hik hk]; rwa [markUpto_get_lt (by omega) (by omega)] at hi
              · rw [markUpto_get_ge hik hk]; rwa [markUpto_get_ge (by omega) (by omega)] at hi
            obtain ⟨lv, Fj, g1, g2, g3, g4⟩ := hA.each i x hi'
            have hdis := hap i Fj g1 eik
            have hgj : g ∉ Fj := (nodup_apart (unhid HN) g1).1
            refine ⟨lv, Fj, g1, ?_, ?_, ?_⟩
            · rw [Array.getElem?_setIfInBounds, if_neg (by omega)]; exact g2
            · rw [Array.getElem?_setIfInBounds, if_neg (by omega)]; exact g3
            · refine g4.frame (fun j hj => ?_)
              have hjl : j < wq.heap.size := by rw [unhid HSZ]; exact g4.lt j hj
              exact (honly.block j hjl (hdis j hj)).trans (unhid hoth j (fun e => by subst e; exact hgj hj)))
        have HO3 := hid ((unhid HO2).trans (honly.mono (fun j hj => List.mem_cons_of_mem _ (mem_flat (unhid H13).1 hj))))
        clear MK hown honly c0 c1 c2 f0 hT2 HH2 HO2 hoth HT HAA HO
        go_wp2_with fail
        go_roundw
        case rel => exact ⟨k + 1, by omega, by go_num, by rw [unhid E]; go_num, hid ⟨_, unhid HNX⟩, HO3⟩
        case measure => simp [intOf]; omega
      · have e : k = hs.length := by omega
        subst e
        go_wp2_with fail
        go_ret
        refine ⟨ret_int (by rw [List.take_of_length_le (Nat.le_refl _)]), ?_, unhid HO⟩
        obtain ⟨cur2, hA⟩ := unhid HC
        have em : markUpto q hs hs.length = markH q hs := by unfold markUpto; rw [List.drop_length, List.append_nil, List.take_of_length_le (by rw [markH_len]; exact Nat.le_refl _)]
        rw [em] at hA
        exact .inr ⟨g, cap, cur2, Fs, by rw [markH_len], by rw [markH_len]; exact hcap, rfl, unhid HN, hA⟩

set_option maxRecDepth 100000 in
set_option maxHeartbeats 2000000 in
theorem heldHunkS_at (hs : List Hk) (a : Option Addr) (cap q : Nat) (w : World) (hn : hs.length ≤ 1048576) (hc : cntH hs ≤ 2097152) (hl : ∀ h ∈ hs, h.lines.length ≤ 1048576) (hq : 0 < q) (hq2 : q ≤ 10000000) (h : HksAt w a (markH q hs)) :
    Calls Try.prog 27 #[.slice a hs.length cap, .int .i64 (q : Int)] w fun x w' => x = .returned (.int .i64 ((q + cntH hs : Nat) : Int)) ∧ Below w.heap.size w w' := by
  have HH := hid h
  clear h
  go_enter Try.func27, Try.ntmps27
  go_wp2_with fail
  go_loopw [1, 5] (fun c i wr => ∃ k : Nat, k ≤ hs.length ∧ i = .int .i64 (k : Int) ∧ c = .int .i64 ((q + cntH (hs.take k) : Nat) : Int) ∧ Below w.heap.size w wr) (fun _ i _ => hs.length - (intOf i).toNat)
  case atStart => exact ⟨0, Nat.zero_le _, rfl, by simp [cntH], Below.refl _ _⟩
  case round =>
    obtain ⟨k, hk, rfl, rfl, hB⟩ := hrel
    have hcl := cntH_le hs k
    by_cases hlt : k < hs.length
    · obtain ⟨e, he⟩ : ∃ e, hs[k]? = some e := ⟨hs[k], List.getElem?_eq_getElem hlt⟩
      have E := hid (cntH_take hs k e he)
      have EM := markH_get q hs k e he
      have hcl2 := cntH_le hs (k + 1)
      rw [unhid E] at hcl2
      obtain ⟨b, o, rfl, hbl, hcc⟩ := (unhid HH).get (by intro e; rw [e] at EM; cases EM)
      obtain ⟨la, lc, c0, c1, ht⟩ := (hcc k _ EM).below (hB.mono (Nat.le_refl _)) hbl
      dsimp only at c0 c1 ht
      rw [mtexts_len] at c1
      generalize hct : cntH (hs.take k) = t at *
      have HCT := hid hct
      have c0' : wr.cell? ⟨b, o + k * 2, none⟩ = some (.int .i64 ((q : Int) + (t : Int))) := by rw [c0]; rfl
      have hq0 : (((q : Int) + (t : Int)) != ((q : Int) + (t : Int))) = false := by simp
      have hle := hl e (List.mem_of_getElem? he)
      have HT := hid ht
      have HB := hid hB
      clear hct c0 ht hcc EM he hB
      go_wp2_with fail
      have HD := heldStringS_at e.lines.length la lc (q + t + 1) wr (by omega) (by omega) (by omega) (unhid HT)
      rw [show (((q + t + 1 : Nat) : Int)) = (q : Int) + (t : Int) + 1 by omega] at HD
      refine HD.mono ?_
      rintro x w2 ⟨rfl, hb⟩
      have HB2 := hid ((unhid HB).trans (hb.mono (unhid HB).size))
      clear hb HD c0' c1
      go_wp2_with fail
      go_roundw
      case rel => exact ⟨k + 1, by omega, by go_num, by rw [unhid E]; go_num, unhid HB2⟩
      case measure => simp [intOf]; omega
    · have e : k = hs.length := by omega
      subst e
      go_wp2_with fail
      go_ret
      exact ⟨ret_int (by rw [List.take_of_length_le (Nat.le_refl _)]), hB⟩
end Go.Proofs.Ytedimkcnemhhpaa

/- Hunks done to lines, by the program. -/
namespace Go.Proofs.Ytedimkcnemhhpaa
open Go.RowKit Go.Shelf

/-- A row of hunks that is read, none with more lines than its row has room for. -/
def HksC (W : World) (a : Option Addr) (hs : List Hk) : Prop := hs = [] ∨ ∃ b o, a = some ⟨b, o, .none⟩ ∧ b < W.heap.size ∧ ∀ (i : Nat) h, hs[i]? = some h → ∃ la cap, W.cell? ⟨b, o + i * 2, none⟩ = some (.int .i64 h.at_) ∧ W.cell? ⟨b, o + i * 2 + 1, none⟩ = some (.slice la h.lines.length cap) ∧ TxtsAt W la h.lines ∧ h.lines.length ≤ cap
theorem HksC.at {W : World} {a : Option Addr} {hs : List Hk} (h : HksC W a hs) : HksAt W a hs := by
  rcases h with h | ⟨b, o, e, hl, hc⟩
  · exact .inl h
  · exact .inr ⟨b, o, e, hl, fun i x hi => by obtain ⟨la, cap, h1, h2, h3, _⟩ := hc i x hi; exact ⟨la, cap, h1, h2, h3⟩⟩
theorem HksC.get {W : World} {a : Option Addr} {hs : List Hk} (h : HksC W a hs) (hne : hs ≠ []) : ∃ b o, a = some ⟨b, o, .none⟩ ∧ b < W.heap.size ∧ ∀ (i : Nat) h, hs[i]? = some h → ∃ la cap, W.cell? ⟨b, o + i * 2, none⟩ = some (.int .i64 h.at_) ∧ W.cell? ⟨b, o + i * 2 + 1, none⟩ = some (.slice la h.lines.length cap) ∧ TxtsAt W la h.lines ∧ h.lines.length ≤ cap := h.resolve_left hne
/-- What Patch answers. -/
def PatchOut (w W : World) (e : Ending) (ls : List ByteArray) (hs : List Hk) (fz : Int) : Prop :=
  ∃ v0 v1, e = .returned (.tuple #[v0, v1, .bool (patch_2 ls hs fz)]) ∧ W.ownsRow w.heap.size 9 1 v0 (patch_0 ls hs fz).length ((patch_0 ls hs fz).map Value.string) ∧ W.ownsRow w.heap.size 3 1 v1 (patch_1 ls hs fz).length ((patch_1 ls hs fz).map (Value.int .i64)) ∧ (v0.ownBlock = none ∨ v0.ownBlock ≠ v1.ownBlock) ∧ Below w.heap.size w W
theorem patch_no {ls : List ByteArray} {hs : List Hk} {fz : Int} (h : okM ls hs fz = false) : patch_0 ls hs fz = [] ∧ patch_1 ls hs fz = [] ∧ patch_2 ls hs fz = false := by
  unfold patch_0 patch_1 patch_2; rw [h]; exact ⟨rfl, rfl, rfl⟩
theorem patch_none {ls : List ByteArray} {hs : List Hk} {fz : Int} (h : okM ls hs fz = true) (hn : outM ls hs fz = none) : patch_0 ls hs fz = ls ∧ patch_1 ls hs fz = [] ∧ patch_2 ls hs fz = false := by
  unfold patch_0 patch_1 patch_2; rw [h, hn]; exact ⟨rfl, rfl, rfl⟩
theorem patch_some {ls : List ByteArray} {hs : List Hk} {fz : Int} {x : List ByteArray × List Int} (h : okM ls hs fz = true) (hn : outM ls hs fz = some x) : patch_0 ls hs fz = x.1 ∧ patch_1 ls hs fz = x.2 ∧ patch_2 ls hs fz = true := by
  unfold patch_0 patch_1 patch_2; rw [h, hn]; exact ⟨rfl, rfl, rfl⟩

theorem cutX_big {c : UInt8} {x y : ByteArray} (h : cutX c x = some y) (hx : x.size ≤ maxLen) : y.size ≤ maxLen := by
  unfold cutX at h
  split at h
  · cases h
  · split at h
    · cases h; rw [ByteArray.size_extract]; omega
    · cases h
theorem withX_big {c : UInt8} {xs : List ByteArray} (h : bigX xs) : bigX (withX c xs) := fun y hy => by
  obtain ⟨x, hx, e⟩ := List.mem_filterMap.1 hy
  exact cutX_big e (h x hx)
theorem passFrom_big {s s' : PSt} {h : Hk} (hs : bigX s.done ∧ bigX s.rest) (hh : bigX h.lines) : ∀ (f k : Nat), passFrom s h f k = some s' → bigX s'.done ∧ bigX s'.rest
  | 0, _, e => by cases e
  | f + 1, k, e => by
    unfold passFrom at e
    split at e
    · cases e
      refine ⟨fun x hx => ?_, fun x hx => hs.2 x (List.mem_of_mem_drop hx)⟩
      simp only [doM, List.mem_append] at hx
      rcases hx with (hx | hx) | hx
      · exact hs.1 x hx
      · exact hs.2 x (List.mem_of_mem_take hx)
      · exact withX_big (fun y hy => hh y (trimL_mem hy)) x hx
    · exact passFrom_big hs hh f (k + 1) e
theorem runM_big2 {fuzz : Nat} : ∀ (hs : List Hk) (s s' : PSt), (∀ h ∈ hs, bigX h.lines) → bigX s.done ∧ bigX s.rest → runM fuzz s hs = some s' → bigX s'.done ∧ bigX s'.rest
  | [], s, s', _, hb, e => by cases e; exact hb
  | h :: hs, s, s', hl, hb, e => by
    simp only [runM] at e
    cases hp : passM s h fuzz with
    | none => rw [hp] at e; cases e
    | some s1 =>
      rw [hp] at e
      exact runM_big2 hs s1 s' (fun x hx => hl x (by simp [hx])) (passFrom_big hb (hl h (by simp)) _ _ hp) e
theorem runM_big {fuzz : Nat} {ls : List ByteArray} {hs : List Hk} {s : PSt} (h1 : bigX ls) (h2 : ∀ h ∈ hs, bigX h.lines) (e : runM fuzz (startM ls) hs = some s) : bigX (s.done ++ s.rest) := fun x hx => by
  obtain ⟨a, b⟩ := runM_big2 hs (startM ls) s h2 ⟨(fun y hy => by cases hy), h1⟩ e
  rcases List.mem_append.1 hx with hx | hx
  · exact a x hx
  · exact b x hx

set_option maxRecDepth 100000 in
set_option maxHeartbeats 8000000 in
theorem Patch_any (ls : List ByteArray) (hs : List Hk) (fz : Int) (a la : Option Addr) (cap lcap : Nat) (w : World) (hx : ls.length ≤ maxLen) (hz : bigX ls) (hcap : ls.length ≤ cap) (hnil : a = none → cap = 0) (hhl : hs.length ≤ maxLen) (hbig : bigH hs) (h : TxtsAt w a ls) (hh : HksC w la hs) :
    Calls Try.prog 29 #[.slice a ls.length cap, .slice la hs.length lcap, .int .i64 fz] w fun e W => PatchOut w W e ls hs fz := by
  have HA := hid h
  have HH := hid hh
  have HX := hid hx
  have HZ := hid hz
  have HBG := hid hbig
  have HHL := hid hhl
  have HNIL := hid hnil
  have TA := hid (textLinesOk_any ls a cap w hz hx h)
  clear h hh hz hbig hx hnil hhl
  go_enter Try.func29, Try.ntmps29
  go_upto_region 1 with fail
  go_cut [27] from 12 (fun s wx => s = .bool (!okM ls hs fz) ∧ Hid (Below w.heap.size w wx))
  case first =>
    have HOK := hid (show okM ls hs fz = (textB ls && (hunksB hs && (decide (0 ≤ fz) && decide (fz ≤ 2)))) from rfl)
    go_wp2_with fail
    refine (unhid TA).mono ?_
    rintro r w1 ⟨rfl, hb⟩
    have HB1 := hid hb
    clear hb TA
    cases ta : textB ls
    · have E := hid (show okM ls hs fz = false by rw [unhid HOK, ta]; rfl)
      clear ta
      go_wp2_with fail
      go_meet
      case rel => exact ⟨by rw [unhid E]; rfl, HB1⟩
    have T1 := hid ta
    clear ta
    go_wp2_with fail
    refine (HunksOk_any hs la lcap w1 (unhid HHL) (unhid HBG) ((unhid HH).at.below (unhid HB1))).mono ?_
    rintro r w2 ⟨rfl, hb⟩
    have HB2 := hid ((unhid HB1).trans (hb.mono (unhid HB1).size))
    clear hb HB1
    cases tb : hunksB hs
    · have E := hid (show okM ls hs fz = false by rw [unhid HOK, unhid T1, tb]; rfl)
      clear tb
      go_wp2_with fail
      go_meet
      case rel => exact ⟨by rw [unhid E]; rfl, HB2⟩
    have T2 := hid tb
    clear tb
    have HO2 := hid (show okM ls hs fz = (decide (0 ≤ fz) && decide (fz ≤ 2)) by rw [unhid HOK, unhid T1, unhid T2]; rfl)
    by_cases h0 : fz < 0
    · have E := hid (show okM ls hs fz = false by rw [unhid HO2, decide_eq_false (by omega)]; rfl)
      go_wp2_with fail
      go_meet
      case rel => exact ⟨by rw [unhid E]; rfl, HB2⟩
    by_cases h1 : 2 < fz
    · have E := hid (show okM ls hs fz = false by rw [unhid HO2, decide_eq_false (show ¬ fz ≤ 2 by omega), Bool.and_false])
      go_wp2_with fail
      go_meet
      case rel => exact ⟨by rw [unhid E]; rfl, HB2⟩
    · have E := hid (show okM ls hs fz = true by rw [unhid HO2, decide_eq_true (show fz ≤ 2 by omega), decide_eq_true (show 0 ≤ fz by omega)]; rfl)
      go_wp2_with fail
      go_meet
      case rel => exact ⟨by rw [unhid E]; simp [h0, h1], HB2⟩
  case rest =>
    obtain ⟨rfl, HBC⟩ := hcut
    clear TA
    cases hok : okM ls hs fz
    · have E := hid (patch_no hok)
      clear hok
      go_wp2_with fail
      refine bodyPost_ret (v := .tuple #[.slice none 0 0, .slice none 0 0, .bool false]) (by simp [results, Try.results29]) rfl ?_
      obtain ⟨e0, e1, e2⟩ := unhid E
      exact ⟨_, _, by rw [e2], by rw [e0]; exact World.ownsRow_nil _ _ _ _, by rw [e1]; exact World.ownsRow_nil _ _ _ _, .inl rfl, unhid HBC⟩
    have HOK := hid hok
    simp only [Bool.not_true]
    have hparts := hok
    unfold okM at hparts
    simp only [Bool.and_eq_true, decide_eq_true_eq] at hparts
    obtain ⟨tls, ths, hf1, hf2⟩ := hparts
    have hl30 := (textB_parts tls).1
    obtain ⟨hh4, hmem⟩ := hunksB_mem ths
    have HM := hid hmem
    obtain ⟨fz, rfl⟩ : ∃ f : Nat, fz = (f : Int) := ⟨fz.toNat, by omega⟩
    have HOUT := hid (show outM ls hs (fz : Int) = (runM fz (startM ls) hs).bind fun s => if textB (s.done ++ s.rest) then some (s.done ++ s.rest, s.far) else none from rfl)
    clear hok tls ths hmem
    have HNW := hid (show Wk w (wc.alloc (.cells #[.slice a ls.length cap, .slice none 0 0, .slice none 0 0, .int .i64 0] 75)) wc.heap.size (startM ls) a cap (.slice none 0 0) (.slice none 0 0) from
      ⟨(unhid HBC).size, by simp, fourAt_new _ _ _ _ _ _, World.ownsRow_nil _ _ _ _, World.ownsRow_nil _ _ _ _, (fun e => by cases e), (fun e => by cases e), .inl rfl, unhid HA, unhid HNIL, hcap, (unhid HBC).alloc (unhid HBC).size _⟩)
    go_wp2_with fail
    generalize wc.alloc (.cells #[.slice a ls.length cap, .slice none 0 0, .slice none 0 0, .int .i64 0] 75) = W0 at HNW ⊢
    generalize wc.heap.size = g at HNW ⊢
    clear HBC
    go_loopw [33] (fun i wr => ∃ (k : Nat) (s : PSt), k ≤ hs.length ∧ i = .int .i64 (k : Int) ∧ Hid (runM fz (startM ls) (hs.take k) = some s) ∧ Hid (∃ ra rc dv fv, Wk w wr g s ra rc dv fv) ∧ Hid (PBound s ls.length k)) (fun i _ => hs.length - (intOf i).toNat)
    case atStart => exact ⟨0, startM ls, Nat.zero_le _, rfl, hid (by simp [runM]), hid ⟨_, _, _, _, unhid HNW⟩, hid (start_bound ls)⟩
    case round =>
      clear HNW
      obtain ⟨k, s, hk, rfl, HR, HW, HP⟩ := hrel
      obtain ⟨ra, rc, dv, fv, hwk⟩ := unhid HW
      have HWK := hid hwk
      obtain ⟨q1, q2, q3', q4, q5⟩ := unhid HP
      have q3 : s.far.length ≤ 5000 := by omega
      clear hwk HW q3'
      by_cases hlt : k < hs.length
      · obtain ⟨e, he⟩ : ∃ e, hs[k]? = some e := ⟨hs[k], List.getElem?_eq_getElem hlt⟩
        obtain ⟨b, o, rfl, hbl, hc⟩ := (unhid HH).get (by intro e; subst e; simp at hlt)
        obtain ⟨ea, ec, c0, c1, ht, hec⟩ := hc k e he
        obtain ⟨hk1, hk2⟩ := unhid HM e (List.mem_of_getElem? he)
        obtain ⟨p1, p2, p3⟩ := hkB_parts hk1
        have HZE := hid (show ∀ x ∈ e.lines, 0 < x.size ∧ x.size ≤ maxLen from fun x hx => ⟨linesB_pos p3 x hx, (unhid HBG e (List.mem_of_getElem? he)).1 x hx⟩)
        have c0' := ((unhid HWK).below.cell (p := ⟨b, o + k * 2, none⟩) hbl).trans c0
        have c1' := ((unhid HWK).below.cell (p := ⟨b, o + k * 2 + 1, none⟩) hbl).trans c1
        have HTE := hid ht
        have HSN := hid (show runM fz (startM ls) (hs.take (k + 1)) = passM s e fz by rw [List.take_add_one, he]; show runM fz _ (_ ++ [e]) = _; rw [runM_app, unhid HR]; rfl)
        have HNB := hid (show Below wr.heap.size wr (wr.alloc (.cells #[.int .i64 e.at_, .slice ea e.lines.length ec] 46)) from (Below.refl _ _).alloc (Nat.le_refl _) _)
        have TN := twoAt_new wr e.at_ (.slice ea e.lines.length ec) 46
        obtain ⟨⟨t0, _⟩, t1, _⟩ := TN
        clear hc he c0 c1 ht hk1 p3
        go_wp2_with fail
        refine (pass_any w _ g s ra rc dv fv e fz ea ec ((unhid HWK).step (unhid HNB)) (by omega) (by omega) (by omega) (by omega) (by omega) (by omega) p2 hec (unhid HZE) ((unhid HTE).below ((unhid HWK).below.trans ((unhid HNB).mono (unhid HWK).below.size)))).mono ?_
        rintro r W2 ⟨rfl, HW2⟩
        clear t0 t1 c0' c1' HNB
        cases hpm : passM s e fz with
        | none =>
          rw [hpm] at HW2
          have E := hid (patch_none (unhid HOK) (show outM ls hs (fz : Int) = none by rw [unhid HOUT, runM_none (k := k + 1) (by rw [unhid HSN, hpm])]; rfl))
          obtain ⟨ra2, rc2, dv2, fv2, hwk2⟩ := unhid HW2
          have HB2 := hid hwk2.below
          clear hwk2 hpm HW2
          go_wp2_with fail
          refine (slicesClone_any ls a cap W2 (by omega) ((unhid HA).below (unhid HB2)) (unhid HNIL)).mono ?_
          rintro r W3 ⟨cv, rfl, ho, hb⟩
          have HO3 := hid (ownsRow_baseX ho (unhid HB2).size)
          have HB3 := hid ((unhid HB2).trans (hb.mono (unhid HB2).size))
          clear ho hb
          go_wp2_with fail
          refine bodyPost_ret (v := .tuple #[cv, .slice none 0 0, .bool false]) (by simp [results, Try.results29]) rfl ?_
          obtain ⟨e0, e1, e2⟩ := unhid E
          exact ⟨_, _, by rw [e2], by rw [e0]; exact unhid HO3, by rw [e1]; exact World.ownsRow_nil _ _ _ _, (by cases hcv : cv.ownBlock with | none => exact .inl rfl | some x => exact .inr (fun e => by cases e)), unhid HB3⟩
        | some s2 =>
          rw [hpm] at HW2
          have HP2 := hid (passM_bound (unhid HP) p2 hpm)
          have HR2 := hid (show runM fz (startM ls) (hs.take (k + 1)) = some s2 by rw [unhid HSN, hpm])
          clear hpm
          go_wp2_with fail
          go_roundw
          case rel => exact ⟨k + 1, s2, by omega, by go_num, HR2, HW2, HP2⟩
          case measure => simp [intOf]; omega
      · have e : k = hs.length := by omega
        subst e
        rw [List.take_of_length_le (Nat.le_refl _)] at HR
        have HO2 := hid (show outM ls hs (fz : Int) = if textB (s.done ++ s.rest) then some (s.done ++ s.rest, s.far) else none by rw [unhid HOUT, unhid HR]; rfl)
        have c0 := (unhid HWK).four.c0
        go_wp2_with fail
        refine (left_any g ra s.rest.length rc wr c0).mono ?_
        rintro r w4 ⟨rfl, hw4⟩
        subst hw4
        go_wp2_with fail
        refine (keep_any w w4 g s.rest.length s ra rc dv fv (unhid HWK) (Nat.le_refl _) (by omega) (by omega)).mono ?_
        rintro r W5 ⟨u5, rfl, dv5, hwk5, _⟩
        rw [List.take_of_length_le (Nat.le_refl _)] at hwk5
        have HW5 := hid hwk5
        obtain ⟨d5, cc5, hdv5⟩ := ownsRow_sliceX hwk5.down
        subst hdv5
        have c1 := hwk5.four.c1
        have c2 := hwk5.four.c2
        have HTX := hid (show TxtsAt W5 d5 (s.done ++ s.rest) by
          obtain ⟨_, a', c', hv, ht2, _⟩ := txts_owns hwk5.down
          injection hv with e1 e2 e3
          subst e1
          exact ht2)
        dsimp only at c1 c2
        have hln : (s.done ++ s.rest).length ≤ 1000 := by rw [List.length_append]; omega
        have HBX := hid (show bigX (s.done ++ s.rest) from runM_big (unhid HZ) (fun h hh => (unhid HBG h hh).1) (unhid HR))
        have HTL := hid (textLinesOk_any (s.done ++ s.rest) d5 cc5 W5 (unhid HBX) (by unfold maxLen; omega) (unhid HTX))
        clear hwk5 c0 HBX HTX
        generalize hD : s.done ++ s.rest = D at *
        go_wp2_with fail
        refine (unhid HTL).mono ?_
        rintro r W6 ⟨rfl, hb⟩
        have HW6 := hid ((unhid HW5).step hb)
        clear hb c1 c2 HTL HW5
        cases htb : textB D
        · have E := hid (patch_none (unhid HOK) (show outM ls hs (fz : Int) = none by rw [unhid HO2, htb]; rfl))
          have HB6 := hid (unhid HW6).below
          clear htb HW6
          go_wp2_with fail
          refine (slicesClone_any ls a cap W6 (by omega) ((unhid HA).below (unhid HB6)) (unhid HNIL)).mono ?_
          rintro r W3 ⟨cv, rfl, ho, hb⟩
          have HO3 := hid (ownsRow_baseX ho (unhid HB6).size)
          have HB3 := hid ((unhid HB6).trans (hb.mono (unhid HB6).size))
          clear ho hb
          go_wp2_with fail
          refine bodyPost_ret (v := .tuple #[cv, .slice none 0 0, .bool false]) (by simp [results, Try.results29]) rfl ?_
          obtain ⟨e0, e1, e2⟩ := unhid E
          exact ⟨_, _, by rw [e2], by rw [e0]; exact unhid HO3, by rw [e1]; exact World.ownsRow_nil _ _ _ _, (by cases hcv : cv.ownBlock with | none => exact .inl rfl | some x => exact .inr (fun e => by cases e)), unhid HB3⟩
        · have E := hid (patch_some (unhid HOK) (show outM ls hs (fz : Int) = some (D, s.far) by rw [unhid HO2, htb]; rfl))
          have c1 := (unhid HW6).four.c1
          have c2 := (unhid HW6).four.c2
          obtain ⟨f6, fc6, hfv6⟩ := ownsRow_sliceX (unhid HW6).fown
          subst hfv6
          dsimp only at c1 c2
          clear htb
          go_wp2_with fail
          go_quiet (fail)
          have HF := hid (show ∃ X, X = W6.drewN nq ∧ Wk w X g ⟨D, s.rest.drop s.rest.length, s.far, s.later⟩ _ _ _ _ from ⟨_, rfl, (unhid HW6).step ⟨rfl, rfl, rfl, Nat.le_refl _, fun _ _ => rfl⟩⟩)
          obtain ⟨X, hX, hwkX⟩ := unhid HF
          rw [← hX]
          have HWX := hid hwkX
          clear hX hwkX HF c1 c2
          go_wp2_with fail
          refine bodyPost_ret (v := .tuple #[.slice d5 D.length cc5, .slice f6 s.far.length fc6, .bool true]) (by simp [results, Try.results29]) rfl ?_
          obtain ⟨e0, e1, e2⟩ := unhid E
          exact ⟨_, _, by rw [e2], by rw [e0]; exact (unhid HWX).down, by rw [e1]; exact (unhid HWX).fown, (unhid HWX).df, (unhid HWX).below⟩
end Go.Proofs.Ytedimkcnemhhpaa

/- Hunks done to lines, by the model. -/
namespace Go.Proofs.Ytedimkcnemhhpaa
open Go.RowKit Go.Shelf

theorem withX_blank {c : UInt8} {xs : List ByteArray} (h : ∀ x ∈ xs, blankB x = true) : (withX c xs).length = xs.length := by
  induction xs with
  | nil => rfl
  | cons x xs ih =>
    have hx := h x (by simp)
    have : cutX c x = some (x.extract 1 x.size) := by
      unfold blankB at hx
      unfold cutX
      split at hx
      · cases hx
      · rename_i d t hd; rw [hd]; simp only [hx, Bool.true_or, if_true]
    unfold withX at *
    rw [List.filterMap_cons, this]
    simp only [List.length_cons]
    rw [ih (fun y hy => h y (by simp [hy]))]
theorem withX_app (c : UInt8) (a b : List ByteArray) : withX c (a ++ b) = withX c a ++ withX c b := List.filterMap_append
theorem trim_len (c : UInt8) (xs : List ByteArray) (f : Nat) : (withX c xs).length = trimA xs f + (withX c (trimL xs f)).length + trimZ xs f := by
  obtain ⟨l1, l2⟩ := trimA_le xs f
  obtain ⟨l3, l4⟩ := trimZ_le xs f
  have e : xs = xs.take (trimA xs f) ++ (trimL xs f ++ xs.drop (xs.length - trimZ xs f)) := by
    have e1 : xs.drop (trimA xs f) = trimL xs f ++ xs.drop (xs.length - trimZ xs f) := by
      unfold trimL
      have := (List.take_append_drop (xs.length - trimZ xs f - trimA xs f) (xs.drop (trimA xs f))).symm
      rw [List.drop_drop, show trimA xs f + (xs.length - trimZ xs f - trimA xs f) = xs.length - trimZ xs f by omega] at this
      exact this
    rw [← e1, List.take_append_drop]
  have b1 : ∀ x ∈ xs.take (trimA xs f), blankB x = true := fun x hx => by
    obtain ⟨i, hi⟩ := List.getElem?_of_mem hx
    rw [List.getElem?_take] at hi
    split at hi
    · rename_i hlt
      have := runP_all (p := fun i => blankB (txtFn xs i)) (min f xs.length) 0 i hlt
      rw [Nat.zero_add] at this
      rwa [txtFn_get hi] at this
    · cases hi
  have b2 : ∀ x ∈ xs.drop (xs.length - trimZ xs f), blankB x = true := fun x hx => by
    obtain ⟨i, hi⟩ := List.getElem?_of_mem hx
    have hl := (List.getElem?_eq_some_iff.1 hi).1
    rw [List.length_drop] at hl
    rw [List.getElem?_drop] at hi
    have := runP_all (p := fun i => blankB (txtFn xs (xs.length - 1 - i))) (min (xs.length - trimA xs f) f) 0 (trimZ xs f - 1 - i) (by show _ < trimZ xs f; omega)
    rw [Nat.zero_add] at this
    rw [show xs.length - 1 - (trimZ xs f - 1 - i) = xs.length - trimZ xs f + i by omega, txtFn_get hi] at this
    exact this
  conv => lhs; rw [e]
  rw [withX_app, withX_app, List.length_append, List.length_append, withX_blank b1, withX_blank b2, List.length_take, List.length_drop]
  omega
theorem pass_later {s s' : PSt} {h : Hk} {fuzz : Nat} {off : Int} (e : passM s h fuzz = some s') (ho : s'.far = s.far ++ [off]) : s'.later = s.later + off + ((newL h).length : Int) - ((oldL h).length : Int) := by
  obtain ⟨j, far, _, rfl⟩ := passFrom_some _ _ e
  have hf : far = off := by
    have : s.far ++ [far] = s.far ++ [off] := ho
    simpa using this
  subst hf
  have h1 := trim_len 43 h.lines j
  have h2 := trim_len 45 h.lines j
  show s.later + (far + ((newL (trimH h j)).length : Int) - ((oldL (trimH h j)).length : Int)) = _
  have e1 : (newL h).length = trimA h.lines j + (newL (trimH h j)).length + trimZ h.lines j := h1
  have e2 : (oldL h).length = trimA h.lines j + (oldL (trimH h j)).length + trimZ h.lines j := h2
  omega
theorem owns_cap {W : World} {N n : Nat} {v : Value} {xs : List ByteArray} (h : W.ownsRow N 9 1 v n (xs.map Value.string)) : ∃ a cap, v = .slice a xs.length cap ∧ TxtsAt W a xs ∧ (a = none → cap = 0) ∧ xs.length ≤ cap := by
  obtain ⟨_, a, cap, hv, ht, hc, _⟩ := txts_owns h
  refine ⟨a, cap, hv, ht, fun e => ?_, hc⟩
  rcases h.2 with ⟨hv2, h0⟩ | ⟨g, c2, cur, hv2, _⟩
  · rw [hv2] at hv; injection hv with e1 e2 e3; exact e3.symm
  · rw [hv2, e] at hv; cases hv
theorem emptyRow (W : World) (N e : Nat) (hN : N ≤ W.heap.size) : (W.alloc (.cells #[] e)).ownsRow N e 1 (.slice (some ⟨W.heap.size, 0, none⟩) 0 0) 0 [] := World.ownsRow_lit (base := N) (e := e) (size := 1) W #[] 0 hN (by simp [maxLen]) rfl

/-- Where the hunks ahead of the k-th are done. -/
structure PRun (w W : World) (ls : List ByteArray) (hs : List Hk) (fz k : Nat) (s : PSt) (ov fv : Value) : Prop where
  run : runM fz (startM ls) (hs.take k) = some s
  out : W.ownsRow w.heap.size 9 1 ov (s.done ++ s.rest).length ((s.done ++ s.rest).map Value.string)
  far : W.ownsRow w.heap.size 3 1 fv s.far.length (s.far.map (Value.int .i64))
  ne : ov.ownBlock = none ∨ ov.ownBlock ≠ fv.ownBlock
  bound : PBound s ls.length k
  below : Below w.heap.size w W
theorem own_apart {X Y : World} {N n m : Nat} {v f : Value} {xs ys : List Value} {e e2 : Nat} (h : Y.ownsRow X.heap.size e 1 v n xs) (hf : X.ownsRow N e2 1 f m ys) : v.ownBlock = none ∨ v.ownBlock ≠ f.ownBlock := by
  cases hb : v.ownBlock with
  | none => exact .inl rfl
  | some x => exact .inr (fun e => by have h1 := (h.lt x hb).1; have h2 := (hf.lt x e.symm).2; omega)

theorem own_apart2 {W : World} {N n e cap : Nat} {v : Value} {xs : List Value} (h : W.ownsRow N e 1 v n xs) : v.ownBlock = none ∨ v.ownBlock ≠ (Value.slice (some ⟨W.heap.size, 0, none⟩) 0 cap).ownBlock := by
  cases hb : v.ownBlock with
  | none => exact .inl rfl
  | some x => exact .inr (fun e => by have := (h.lt x hb).2; cases e; exact Nat.lt_irrefl _ this)

set_option maxRecDepth 100000 in
set_option maxHeartbeats 16000000 in
theorem specPatch_any (ls : List ByteArray) (hs : List Hk) (fz : Int) (a la : Option Addr) (cap lcap : Nat) (w : World) (hx : ls.length ≤ maxLen) (hz : bigX ls) (hnil : a = none → cap = 0) (hhl : hs.length ≤ maxLen) (hbig : bigH hs) (h : TxtsAt w a ls) (hh : HksC w la hs) :
    Calls Try.prog 28 #[.slice a ls.length cap, .slice la hs.length lcap, .int .i64 fz] w fun e W => PatchOut w W e ls hs fz := by
  have HA := hid h
  have HH := hid hh
  have HX := hid hx
  have HZ := hid hz
  have HBG := hid hbig
  have HHL := hid hhl
  have HNIL := hid hnil
  have TA := hid (l5Lines_any ls a cap w hz hx h)
  clear h hh hz hbig hx hnil hhl
  go_enter Try.func28, Try.ntmps28
  go_upto_region 1 with fail
  go_cut [30] from 18 (fun s wx => s = .bool (!okM ls hs fz) ∧ Hid (Below w.heap.size w wx))
  case first =>
    have HOK := hid (show okM ls hs fz = (textB ls && (hunksB hs && (decide (0 ≤ fz) && decide (fz ≤ 2)))) from rfl)
    go_wp2_with fail
    refine (unhid TA).mono ?_
    rintro r w1 ⟨rfl, hw1⟩
    subst hw1
    clear TA
    cases ta : textB ls
    · have E := hid (show okM ls hs fz = false by rw [unhid HOK, ta]; rfl)
      clear ta
      go_wp2_with fail
      go_meet
      case rel => exact ⟨by rw [unhid E]; rfl, hid (Below.refl _ _)⟩
    have T1 := hid ta
    clear ta
    go_wp2_with fail
    refine (specHunksOk_any hs la lcap w1 (unhid HHL) (unhid HBG) (unhid HH).at).mono ?_
    rintro r w2 ⟨rfl, hb⟩
    have HB2 := hid hb
    clear hb
    cases tb : hunksB hs
    · have E := hid (show okM ls hs fz = false by rw [unhid HOK, unhid T1, tb]; rfl)
      clear tb
      go_wp2_with fail
      go_meet
      case rel => exact ⟨by rw [unhid E]; rfl, HB2⟩
    have T2 := hid tb
    clear tb
    have HO2 := hid (show okM ls hs fz = (decide (0 ≤ fz) && decide (fz ≤ 2)) by rw [unhid HOK, unhid T1, unhid T2]; rfl)
    go_wp2_with fail
    refine (l1In_any _ _ _ _).mono ?_
    rintro e w3 ⟨rfl, rfl⟩
    rw [← unhid HO2]
    cases hok : okM ls hs fz
    all_goals
      have E := hid hok
      clear hok
      go_wp2_with fail
      go_meet
      case rel => exact ⟨by rw [unhid E]; rfl, HB2⟩
  case rest =>
    obtain ⟨rfl, HBC⟩ := hcut
    clear TA
    have hbc := (unhid HBC).size
    cases hok : okM ls hs fz
    · have E := hid (patch_no hok)
      have r0 := emptyRow wc w.heap.size 9 hbc
      have hb1 : Below wc.heap.size wc (wc.alloc (.cells #[] 9)) := (Below.refl _ _).alloc (Nat.le_refl _) _
      have r1 := emptyRow (wc.alloc (.cells #[] 9)) w.heap.size 3 (by have := hb1.size; omega)
      have hb2 : Below (wc.alloc (.cells #[] 9)).heap.size (wc.alloc (.cells #[] 9)) ((wc.alloc (.cells #[] 9)).alloc (.cells #[] 3)) := (Below.refl _ _).alloc (Nat.le_refl _) _
      have hsz : (wc.alloc (.cells #[] 9)).heap.size = wc.heap.size + 1 := by simp
      have HF := hid (And.intro (owns_belowX r0 hb2) (And.intro r1 ((unhid HBC).trans ((hb1.trans (hb2.mono hb1.size)).mono hbc))))
      rw [hsz] at HF
      clear hok r0 r1 hb1 hb2 hsz
      simp only [Bool.not_false]
      go_wp2_with fail
      refine bodyPost_ret (v := .tuple #[.slice (some ⟨wc.heap.size, 0, none⟩) 0 0, .slice (some ⟨wc.heap.size + 1, 0, none⟩) 0 0, .bool false]) (by simp [results, Try.results28]) rfl ?_
      obtain ⟨e0, e1, e2⟩ := unhid E
      exact ⟨_, _, by rw [e2], by rw [e0]; exact (unhid HF).1, by rw [e1]; exact (unhid HF).2.1, .inr (fun e => by injection e with e; have e' : wc.heap.size = wc.heap.size + 1 := e; omega), (unhid HF).2.2⟩
    have HOK := hid hok
    simp only [Bool.not_true]
    have hparts := hok
    unfold okM at hparts
    simp only [Bool.and_eq_true, decide_eq_true_eq] at hparts
    obtain ⟨tls, ths, hf1, hf2⟩ := hparts
    have hl30 := (textB_parts tls).1
    obtain ⟨hh4, hmem⟩ := hunksB_mem ths
    have HM := hid hmem
    obtain ⟨fz, rfl⟩ : ∃ f : Nat, fz = (f : Int) := ⟨fz.toNat, by omega⟩
    have HOUT := hid (show outM ls hs (fz : Int) = (runM fz (startM ls) hs).bind fun s => if textB (s.done ++ s.rest) then some (s.done ++ s.rest, s.far) else none from rfl)
    clear hok tls ths hmem
    -- a copy of the lines
    have r0 := hid (emptyRow wc w.heap.size 9 hbc)
    have hb1 := hid (show Below w.heap.size w (wc.alloc (.cells #[] 9)) from (unhid HBC).alloc hbc _)
    go_wp2_with (at_builtin; refine wp_app rfl _ _ rfl w.heap.size _ [] ls a cap rfl rfl (unhid r0) ((unhid HA).below (unhid hb1)) (unhid HNIL) ?c1 (unhid hb1).size ?_)
    case c1 => simp only [List.length_nil]; omega
    intro v1 W1 hown hg hat
    have hB1 : Below w.heap.size w W1 := (unhid hb1).grown hg (unhid hb1).size (fun j e => ((unhid r0).lt j e).1)
    obtain ⟨oa, oc, hov, hjunk⟩ := owns_cap hown
    clear hjunk
    subst hov
    have HO1 := hid hown
    have HB1 := hid hB1
    have hbs := hB1.size
    have r2 := hid (emptyRow W1 w.heap.size 3 hbs)
    clear hown hg hat hB1 r0 hb1
    have HST := hid (show W1.heap.size < (W1.alloc (.cells #[] 3)).heap.size from by simp)
    have HB2 := hid ((unhid HB1).alloc hbs (.cells #[] 3))
    have HO2 := hid (owns_belowX (unhid HO1) (show Below W1.heap.size W1 (W1.alloc (.cells #[] 3)) from (Below.refl _ _).alloc (Nat.le_refl _) _))
    have HNE := hid (show (Value.slice oa ls.length oc).ownBlock = none ∨ (Value.slice oa ls.length oc).ownBlock ≠ (Value.slice (some ⟨W1.heap.size, 0, none⟩) 0 0).ownBlock from by
      cases hb : (Value.slice oa ls.length oc).ownBlock with
      | none => exact .inl rfl
      | some x => exact .inr (fun e => by have := ((unhid HO1).lt x hb).2; cases e; exact Nat.lt_irrefl _ this))
    go_wp2_with fail
    have HRUN := hid (show PRun w (W1.alloc (.cells #[] 3)) ls hs fz 0 (startM ls) (.slice oa ls.length oc) (.slice (some ⟨W1.heap.size, 0, none⟩) 0 0) from
      ⟨by simp [runM], unhid HO2, unhid r2, unhid HNE, start_bound ls, unhid HB2⟩)
    generalize W1.alloc (.cells #[] 3) = W2 at HRUN ⊢
    generalize W1.heap.size = g1 at HRUN ⊢
    clear HO2 r2 HNE HB2 HST HO1 HB1 hbs
    go_loopw [9, 10, 11, 12, 13] (fun o f l t i wr => ∃ (k : Nat) (s : PSt) (oa fa : Option Addr) (oc fc : Nat), k ≤ hs.length ∧ o = .slice oa (s.done ++ s.rest).length oc ∧ f = .slice fa s.far.length fc ∧ l = .int .i64 (s.done.length : Int) ∧ t = .int .i64 s.later ∧ i = .int .i64 (k : Int) ∧ Hid (PRun w wr ls hs fz k s (.slice oa (s.done ++ s.rest).length oc) (.slice fa s.far.length fc))) (fun _ _ _ _ i _ => hs.length - (intOf i).toNat)
    case atStart => exact ⟨0, startM ls, _, _, _, _, Nat.zero_le _, rfl, rfl, rfl, rfl, rfl, HRUN⟩
    case round =>
      clear HRUN
      obtain ⟨k, s, oa, fa, oc, fc, hk, rfl, rfl, rfl, rfl, rfl, HR⟩ := hrel
      obtain ⟨q1, q2, q3', q4, q5⟩ := (unhid HR).bound
      have q3 : s.far.length ≤ 5000 := by omega
      clear q3'
      obtain ⟨oa', oc', hov, hot, hon, hocap⟩ := owns_cap (unhid HR).out
      injection hov with e1 e2 e3
      subst e1
      subst e3
      have HOT := hid hot
      have HON := hid hon
      clear hot hon e2
      have hLl : (s.done ++ s.rest).length ≤ 5000 := by rw [List.length_append]; omega
      have hdl : s.done.length ≤ 5000 := by omega
      have HSL := hid (l5One_any s)
      have HQ1 := hid q1
      clear q1
      generalize hLS : s.done ++ s.rest = LS at *
      have HLS := hid hLS
      clear hLS
      by_cases hlt : k < hs.length
      · obtain ⟨e, he⟩ : ∃ e, hs[k]? = some e := ⟨hs[k], List.getElem?_eq_getElem hlt⟩
        obtain ⟨b, o, rfl, hbl, hc⟩ := (unhid HH).get (by intro e; subst e; simp at hlt)
        obtain ⟨ea, ec, c0, c1, ht, hec⟩ := hc k e he
        obtain ⟨hk1, hk2⟩ := unhid HM e (List.mem_of_getElem? he)
        obtain ⟨p1, p2, p3⟩ := hkB_parts hk1
        have HLB := hid p3
        have HZB := hid (unhid HBG e (List.mem_of_getElem? he)).1
        have HZE := hid (show ∀ x ∈ e.lines, 0 < x.size ∧ x.size ≤ maxLen from fun x hx => ⟨linesB_pos p3 x hx, (unhid HBG e (List.mem_of_getElem? he)).1 x hx⟩)
        have HCW := hid (show ∀ X : World, Below w.heap.size w X → X.cell? ⟨b, o + k * 2, none⟩ = some (.int .i64 e.at_) ∧ X.cell? ⟨b, o + k * 2 + 1, none⟩ = some (.slice ea e.lines.length ec) from fun X hX => ⟨(hX.cell (p := ⟨b, o + k * 2, none⟩) hbl).trans c0, (hX.cell (p := ⟨b, o + k * 2 + 1, none⟩) hbl).trans c1⟩)
        have HTE := hid ht
        have HSN := hid (show runM fz (startM ls) (hs.take (k + 1)) = passM s e fz by rw [List.take_add_one, he]; show runM fz _ (_ ++ [e]) = _; rw [runM_app, (unhid HR).run]; rfl)
        obtain ⟨c0', c1'⟩ := unhid HCW wr (unhid HR).below
        clear hc he c0 c1 ht hk1 p3
        go_wp2_with fail
        refine (unhid HSL e fz oa ea oc ec wr (by omega) (by omega) hLl hocap (unhid HON) (by omega) p2 hec (unhid HLB) (unhid HZB) (unhid HOT) ((unhid HTE).below (unhid HR).below)).mono ?_
        rintro r W3 ⟨xv, en, off, rfl, HOUT1, hb⟩
        have HB3 := hid ((unhid HR).below.trans (hb.mono (unhid HR).below.size))
        have HBR := hid hb
        clear hb c0' c1'
        cases hpm : passM s e fz with
        | none =>
          have E := hid (patch_none (unhid HOK) (show outM ls hs (fz : Int) = none by rw [unhid HOUT, runM_none (k := k + 1) (by rw [unhid HSN, hpm])]; rfl))
          clear hpm HOUT1
          simp only [Option.isSome_none]
          have hbg := (unhid HB3).size
          have r0 := hid (emptyRow W3 w.heap.size 9 hbg)
          have hb1 := hid (show Below w.heap.size w (W3.alloc (.cells #[] 9)) from (unhid HB3).alloc hbg _)
          go_wp2_with (at_builtin; refine wp_app rfl _ _ rfl w.heap.size _ [] ls a cap rfl rfl (unhid r0) ((unhid HA).below (unhid hb1)) (unhid HNIL) ?c1 (unhid hb1).size ?_)
          case c1 => simp only [List.length_nil]; omega
          intro v1 W4 hown hg hat
          have hB1 : Below w.heap.size w W4 := (unhid hb1).grown hg (unhid hb1).size (fun j e => ((unhid r0).lt j e).1)
          have hbs := hB1.size
          have r2 := emptyRow W4 w.heap.size 3 hbs
          have hb2 : Below W4.heap.size W4 (W4.alloc (.cells #[] 3)) := (Below.refl _ _).alloc (Nat.le_refl _) _
          obtain ⟨ca, cc, hcv⟩ := ownsRow_sliceX hown
          subst hcv
          have HF := hid (And.intro (owns_belowX hown hb2) (And.intro r2 (And.intro (own_apart2 (cap := 0) hown) (hB1.trans (hb2.mono hbs)))))
          clear hown hg hat hB1 hbs r2 hb2 r0 hb1
          go_wp2_with fail
          refine bodyPost_ret (v := .tuple #[.slice ca ls.length cc, .slice (some ⟨W4.heap.size, 0, none⟩) 0 0, .bool false]) (by simp [results, Try.results28]) rfl ?_
          obtain ⟨e0, e1, e2⟩ := unhid E
          exact ⟨_, _, by rw [e2], by rw [e0]; exact (unhid HF).1, by rw [e1]; exact (unhid HF).2.1, (unhid HF).2.2.1, (unhid HF).2.2.2⟩
        | some s2 =>
          obtain ⟨o1, o2, o3⟩ := unhid HOUT1 s2 hpm
          have HP2 := hid (passM_bound (unhid HR).bound p2 hpm)
          have HLT := hid (pass_later hpm o2)
          have HR2 := hid (show runM fz (startM ls) (hs.take (k + 1)) = some s2 by rw [unhid HSN, hpm])
          have HO3 := hid (ownsRow_baseX (N' := w.heap.size) o3 (unhid HR).below.size)
          have HNE := hid (own_apart o3 (unhid HR).far)
          have HEN := hid o1
          have HOF := hid o2
          obtain ⟨xa, xc, hxv⟩ := ownsRow_sliceX o3
          subst hxv
          simp only [Option.isSome_some]
          have hoff : -9 < off ∧ off < 9 := by
            obtain ⟨j, far, ht, e2⟩ := passFrom_some _ _ hpm
            have : s.far ++ [far] = s.far ++ [off] := by rw [← o2, e2]; rfl
            have hfo : far = off := by simpa using this
            rw [← hfo]; exact (findM_some ht).2
          obtain ⟨hof1, hof2⟩ := hoff
          have hS2 : (s2.done ++ s2.rest).length ≤ 5000 := by have := (unhid HP2).done; rw [List.length_append]; omega
          have henb : 0 ≤ en ∧ en ≤ 5000 := by rw [List.length_append] at hS2; omega
          obtain ⟨hen1, hen2⟩ := henb
          clear hpm HOUT1 o1 o2 o3
          generalize hLS2 : s2.done ++ s2.rest = LS2 at *
          have HLS2 := hid hLS2
          clear hLS2
          have HOL := hid (show oldX 43 e.lines = oldL e from old_with (fun x hx => List.all_eq_true.1 (unhid HLB) x hx))
          have HNL := hid (show oldX 45 e.lines = newL e from new_with (fun x hx => List.all_eq_true.1 (unhid HLB) x hx))
          have hol : (oldL e).length ≤ e.lines.length := withX_len _ _
          have hnl : (newL e).length ≤ e.lines.length := withX_len _ _
          have hbw := Nat.lt_of_lt_of_le hbl (unhid HB3).size
          obtain ⟨c0, c1⟩ := unhid HCW W3 (unhid HB3)
          have g0 : ∀ x : CW (fun w' => Below W3.heap.size W3 w'), x.w.cell? ⟨b, o + k * 2, none⟩ = some (.int .i64 e.at_) := fun x => (x.h.cell (p := ⟨b, o + k * 2, .none⟩) hbw).trans c0
          have g1 : ∀ x : CW (fun w' => Below W3.heap.size W3 w'), x.w.cell? ⟨b, o + k * 2 + 1, none⟩ = some (.slice ea e.lines.length ec) := fun x => (x.h.cell (p := ⟨b, o + k * 2 + 1, .none⟩) hbw).trans c1
          clear c0 c1 hbw
          go_wp2_with fail
          have hba : ∀ {q : Prop}, (CW (fun w' => Below W3.heap.size W3 w') → q) ↔ q := CW.all (Below.refl _ W3)
          refine held_begin (fun w' => Below W3.heap.size W3 w') (by kernel_rfl) (drew_belowX _) ?_
          refine held_take [true, true, true, true, true, true, true, false, false, false, true, true, true, true] (by kernel_rfl) (by kernel_rfl) (fun _ _ _ _ _ h => h) (drew_belowX _) ?_
          dsimp only [pick]
          repeat (go_big_quiet_step (fail))
          refine wpQuiet_nil ?_
          intro x1
          refine held_call 7 62 72 (enters_of Try.func62 (by kernel_rfl) rfl) #[.agg #[.int .i64 e.at_, .slice ea e.lines.length ec]] (by kernel_rfl) (by kernel_rfl) rfl rfl rfl rfl rfl ?_
          refine (l5New_any e ea ec _ (by omega) (unhid HZE) ((unhid HTE).below ((unhid HB3).trans (x1.h.mono (unhid HB3).size)))).mono ?_
          rintro r w2 ⟨v, rfl, ho, hb⟩
          obtain ⟨va, vc, rfl⟩ := ownsRow_sliceX ho
          rw [unhid HNL]
          refine ⟨_, rfl, x1.h.trans (hb.mono x1.h.size), ?_⟩
          simp only [Act.put, List.setIfInBounds_toArray, List.set_cons_zero, List.set_cons_succ]
          have hB2 := x1.h.trans (hb.mono x1.h.size)
          clear hb ho
          refine held_take [false, false, false, false, false, false, false, false, true, true] (by kernel_rfl) (by kernel_rfl) (fun _ _ _ _ _ h => h) hB2 ?_
          dsimp only [pick]
          repeat (go_big_quiet_step (fail))
          refine wpQuiet_nil ?_
          intro x2
          refine held_call 14 46 79 (enters_of Try.func46 (by kernel_rfl) rfl) #[.agg #[.int .i64 e.at_, .slice ea e.lines.length ec]] (by kernel_rfl) (by kernel_rfl) rfl rfl rfl rfl rfl ?_
          refine (l5Old_any e ea ec _ (by omega) (unhid HZE) ((unhid HTE).below ((unhid HB3).trans (x2.h.mono (unhid HB3).size)))).mono ?_
          rintro r w3 ⟨v, rfl, ho, hb⟩
          obtain ⟨va2, vc2, rfl⟩ := ownsRow_sliceX ho
          rw [unhid HOL]
          refine ⟨_, rfl, x2.h.trans (hb.mono x2.h.size), ?_⟩
          simp only [Act.put, List.setIfInBounds_toArray, List.set_cons_zero, List.set_cons_succ]
          have hB3 := x2.h.trans (hb.mono x2.h.size)
          clear hb ho
          refine held_take [false, false, false, false, false, false, false, false, false, false, false, false, false, false, false, true, true, true] (by kernel_rfl) (by kernel_rfl) (fun _ _ _ _ _ h => h) hB3 ?_
          dsimp only [pick]
          repeat (go_big_quiet_step (fail))
          refine wpQuiet_nil ?_
          intro x3
          refine held_done (by kernel_rfl) ?_
          have HB9 := hid x3.h
          generalize x3.w = W9 at HB9 ⊢
          clear hba g0 g1
          have HBW := hid ((unhid HB3).trans ((unhid HB9).mono (unhid HB3).size))
          have HOW := hid (owns_belowX (unhid HO3) (unhid HB9))
          have HFW := hid (owns_belowX (unhid HR).far ((unhid HBR).trans ((unhid HB9).mono (unhid HBR).size)))
          obtain ⟨i0, hi, hz0, hz1, hz2⟩ := info_parts infoInt
          have hbl9 := (unhid HBW).size
          have HNB := hid (show Below W9.heap.size W9 (W9.alloc (.cells #[.int .i64 off] 3)) from (Below.refl _ _).alloc (Nat.le_refl _) _)
          have hsz := (unhid HNB).size
          clear x1 x2 x3 hB2 hB3 HO3 HB9 HB3
          go_wp2_with (at_builtin; refine wpList_append_own_at _ rfl _ _ 35 rfl w.heap.size 3 i0 (.int .i64 0) 1 8 Try.underlying35 hi hz0 hz1 hz2 rfl (by decide) _ s.far.length (s.far.map (Value.int .i64)) rfl ((unhid HFW).alloc _) ⟨_, 0, none⟩ 1 1 [.int .i64 off] rfl rfl ?c1 ?c2 ?c3 ?c4 ?c5 ?_)
          case c1 =>
            intro j u hj
            cases j with
            | zero =>
              have hu : u = .int .i64 off := by simpa using hj.symm
              rw [hu, Addr.add_lit, World.cell?_alloc_at _ _ _ _ rfl]
              rfl
            | succ j => simp at hj
          case c2 => first | (intro u hu; simp at hu; subst hu; rfl) | rfl | simp
          case c3 => unfold maxLen; omega
          case c4 => omega
          case c5 => have := hbl9; simp at this ⊢; omega
          intro v' W10 hown hg _ hatb
          have hB10 : Below w.heap.size w W10 := ((unhid HBW).trans ((unhid HNB).mono hbl9)).grown hg (Nat.le_trans hbl9 hsz) (fun j e => ((unhid HFW).lt j e).1)
          have hown2 : W10.ownsRow w.heap.size 3 1 v' s2.far.length (s2.far.map (Value.int .i64)) := by rw [unhid HOF, List.length_append, List.map_append]; exact hown
          have hout2 : W10.ownsRow w.heap.size 9 1 (.slice xa LS2.length xc) LS2.length (LS2.map Value.string) := owns_grown ((unhid HOW).alloc _) hg (unhid HNE)
          have hne2 : (Value.slice xa LS2.length xc).ownBlock = none ∨ (Value.slice xa LS2.length xc).ownBlock ≠ v'.ownBlock := by
            cases hdv : (Value.slice xa LS2.length xc).ownBlock with
            | none => exact .inl rfl
            | some b2 =>
              refine .inr (fun e => ?_)
              rcases hatb with e2 | e2
              · rcases unhid HNE with e3 | e3
                · rw [e3] at hdv; cases hdv
                · exact e3 (by rw [hdv, e, e2])
              · rw [e2] at e
                have h1 := ((unhid HOW).lt _ hdv).2
                injection e with e
                omega
          obtain ⟨ga, gc, hgv⟩ := ownsRow_sliceX hown2
          subst hgv
          have HR9 := hid (show PRun w W10 ls hs fz (k + 1) s2 (.slice xa LS2.length xc) (.slice ga s2.far.length gc) from ⟨unhid HR2, by rw [unhid HLS2]; exact hout2, hown2, hne2, unhid HP2, hB10⟩)
          clear hown hown2 hout2 hne2 hB10 hg hatb
          rw [← unhid HLT, unhid HEN]
          go_wp2_with fail
          go_roundw
          case rel => exact ⟨k + 1, s2, xa, ga, xc, gc, by omega, by rw [unhid HLS2], rfl, rfl, rfl, by go_num, by rw [unhid HLS2]; exact HR9⟩
          case measure => simp [intOf]; omega
      · have e : k = hs.length := by omega
        subst e
        have HRN := hid (show runM fz (startM ls) hs = some s by have := (unhid HR).run; rwa [List.take_length] at this)
        have HBIG := hid (show bigX LS by rw [← unhid HLS]; exact runM_big (unhid HZ) (fun x hx => (unhid HBG x hx).1) (unhid HRN))
        have HBR := hid (unhid HR).below
        go_wp2_with fail
        refine (l5Lines_any LS oa oc wr (unhid HBIG) (by unfold maxLen; omega) (unhid HOT)).mono ?_
        rintro r W3 ⟨rfl, hw3⟩
        subst hw3
        cases tb : textB LS
        · have E := hid (patch_none (unhid HOK) (show outM ls hs (fz : Int) = none by rw [unhid HOUT, unhid HRN]; show (if textB (s.done ++ s.rest) = true then _ else _) = _; rw [unhid HLS, tb]; rfl))
          clear tb
          have hbg := (unhid HBR).size
          have r0 := hid (emptyRow W3 w.heap.size 9 hbg)
          have hb1 := hid (show Below w.heap.size w (W3.alloc (.cells #[] 9)) from (unhid HBR).alloc hbg _)
          go_wp2_with (at_builtin; refine wp_app rfl _ _ rfl w.heap.size _ [] ls a cap rfl rfl (unhid r0) ((unhid HA).below (unhid hb1)) (unhid HNIL) ?c1 (unhid hb1).size ?_)
          case c1 => simp only [List.length_nil]; omega
          intro v1 W4 hown hg hat
          have hB1 : Below w.heap.size w W4 := (unhid hb1).grown hg (unhid hb1).size (fun j e => ((unhid r0).lt j e).1)
          have hbs := hB1.size
          have r2 := emptyRow W4 w.heap.size 3 hbs
          have hb2 : Below W4.heap.size W4 (W4.alloc (.cells #[] 3)) := (Below.refl _ _).alloc (Nat.le_refl _) _
          obtain ⟨ca, cc, hcv⟩ := ownsRow_sliceX hown
          subst hcv
          have HF := hid (And.intro (owns_belowX hown hb2) (And.intro r2 (And.intro (own_apart2 (cap := 0) hown) (hB1.trans (hb2.mono hbs)))))
          clear hown hg hat hB1 hbs r2 hb2 r0 hb1
          go_wp2_with fail
          refine bodyPost_ret (v := .tuple #[.slice ca ls.length cc, .slice (some ⟨W4.heap.size, 0, none⟩) 0 0, .bool false]) (by simp [results, Try.results28]) rfl ?_
          obtain ⟨e0, e1, e2⟩ := unhid E
          exact ⟨_, _, by rw [e2], by rw [e0]; exact (unhid HF).1, by rw [e1]; exact (unhid HF).2.1, (unhid HF).2.2.1, (unhid HF).2.2.2⟩
        · have E := hid (patch_some (unhid HOK) (show outM ls hs (fz : Int) = some (s.done ++ s.rest, s.far) by rw [unhid HOUT, unhid HRN]; show (if textB (s.done ++ s.rest) = true then _ else _) = _; rw [unhid HLS, tb]; rfl))
          clear tb
          go_wp2_with fail
          refine bodyPost_ret (v := .tuple #[.slice oa LS.length oc, .slice fa s.far.length fc, .bool true]) (by simp [results, Try.results28]) rfl ?_
          obtain ⟨e0, e1, e2⟩ := unhid E
          exact ⟨_, _, by rw [e2], by rw [e0]; exact (unhid HR).out, by rw [e1]; exact (unhid HR).far, (unhid HR).ne, unhid HBR⟩
end Go.Proofs.Ytedimkcnemhhpaa

/- What the laws' draws of lines give: rows of short texts. -/
namespace Go.Proofs.Ytedimkcnemhhpaa
open Go.RowKit Go.Shelf

def shortX (xs : List ByteArray) : Prop := ∀ x ∈ xs, short x
/-- A row of short texts, made behind B, apart from the reader at b. -/
structure DrawX (W : World) (B b : Nat) (v : Value) (xs : List ByteArray) : Prop where
  own : W.ownsRow B 9 1 v xs.length (xs.map Value.string)
  short : shortX xs
  ne : v.ownBlock ≠ some b

theorem grown_own {x y z : World} {b : Nat} {row : Option Nat} (h : x.grownBy y (some b)) (g : y.grownBy z row) (hr : ∀ j, row = some j → x.heap.size ≤ j) : x.grownBy z (some b) :=
  ⟨g.os.trans h.os, g.tape.trans h.tape, g.output.trans h.output, Nat.le_trans h.size g.size, fun k hk hne => (g.block k (Nat.lt_of_lt_of_le hk h.size) (fun e => by have := hr k e.symm; omega)).trans (h.block k hk hne)⟩
theorem Rd.grown {w w' : World} {b : Nat} {a : Option Addr} {len cap p : Nat} {row : Option Nat} (h : Rd w b a len cap p) (g : w.grownBy w' row) (hr : ∀ j, row = some j → b < j) : Rd w' b a len cap p where
  c0 := (World.cell?_of_block (w := w) (g.block b h.lt (fun e => by have := hr b e.symm; omega))).trans h.c0
  c1 := (World.cell?_of_block (w := w) (g.block b h.lt (fun e => by have := hr b e.symm; omega))).trans h.c1
  f1 := by
    have := g.block b h.lt (fun e => by have := hr b e.symm; omega)
    have h1 := h.f1
    unfold World.frozen? at h1 ⊢
    dsimp only at h1 ⊢
    rw [this]; exact h1
  l := h.l
  d := by
    rcases h.d with h0 | ⟨blk, off, ha, hb, hc⟩
    · exact .inl h0
    · refine .inr ⟨blk, off, ha, hb, fun k hk => ?_⟩
      obtain ⟨c, h1, h2⟩ := hc k hk
      exact ⟨c, h1, (World.cell?_of_block (w := w) (g.block blk (by have := h.lt; omega) (fun e => by have := hr blk e.symm; omega))).trans h2⟩

set_option maxRecDepth 100000 in
set_option maxHeartbeats 4000000 in
theorem l11Lines_any (w : World) (b : Nat) (a : Option Addr) (len cap p : Nat) (h : Rd w b a len cap p) (hp : p ≤ 100000) :
    Calls Try.prog 68 #[.pointer (some ⟨b, 0, none⟩)] w fun e w' => ∃ v, e = .returned v ∧ ∃ xs, xs.length ≤ 8 ∧ DrawX w' w.heap.size b v xs ∧ (∃ q, q ≤ p + 9 ∧ Rd w' b a len cap q) ∧ w.grownBy w' (some b) := by
  have H := hid h
  have hbl := h.lt
  clear h
  go_enter Try.func68, Try.ntmps68
  go_wp2_with fail
  have HR0 := hid ((unhid H).alloc (.cells #[] 9))
  have HO0 := hid (emptyRow w w.heap.size 9 (Nat.le_refl _))
  have HG0 := hid (World.grownBy_alloc w (.cells #[] 9) (some b))
  clear H
  generalize w.alloc (.cells #[] 9) = W0 at HR0 HO0 HG0 ⊢
  refine (pick_any W0 b a len cap p (unhid HR0) (by omega) 9 (by omega) (by omega)).mono ?_
  rintro e W1 ⟨r, hr, rfl, hR, hG⟩
  have HR1 := hid hR
  have HG1 := hid (grown_trans (unhid HG0) hG)
  have HO1 := hid (owns_grown (unhid HO0) hG (.inr (fun e => by have := ((unhid HO0).lt b e).1; omega)))
  clear hR hG HR0 HO0 HG0
  go_wp2_with fail
  go_loopw [3, 4] (fun o n wr => ∃ (m q : Nat) (xs : List ByteArray) (oa : Option Addr) (oc : Nat), n = .int .i64 (m : Int) ∧ xs.length + m ≤ 8 ∧ q ≤ p + 1 + xs.length ∧ o = .slice oa xs.length oc ∧ Hid (wr.ownsRow w.heap.size 9 1 (.slice oa xs.length oc) xs.length (xs.map Value.string)) ∧ Hid (shortX xs) ∧ Hid (Rd wr b a len cap q) ∧ Hid (w.grownBy wr (some b))) (fun _ n _ => (intOf n).toNat)
  case atStart => exact ⟨r, p + 1, [], _, _, rfl, by simp; omega, by simp, rfl, HO1, hid (fun x hx => by cases hx), HR1, HG1⟩
  case round =>
    clear HO1 HR1 HG1
    obtain ⟨m, q, xs, oa, oc, rfl, hm, hq, rfl, HO, HX, HR, HG⟩ := hrel
    by_cases hpos : 0 < m
    · have hwr := (unhid HG).size
      go_wp2_with fail
      refine (of_any short _ b a len cap q ?h1 (by omega) wr.heap.size 7 7 ?h2 (by omega) (by omega) ?h5).mono ?_
      case h1 => exact (unhid HR).alloc _
      case h2 => omega
      case h5 => exact fun k hk => row_short wr _ _ (by kernel_rfl) k hk
      rintro e W2 ⟨x, hx, rfl, hR, hG⟩
      have hsz := hG.size
      have HR2 := hid hR
      have HO2 := hid (owns_grown ((unhid HO).alloc _) hG (.inr (fun e => by have := ((unhid HO).lt b e).1; omega)))
      have HG2 := hid (grown_trans (unhid HG) (grown_trans (World.grownBy_alloc wr _ (some b)) hG))
      have hw2 := (unhid HG2).size
      have HSX := hid hx
      clear hR hG HR HO HG hx
      have TN := hid (one_new W2 x)
      have HO3 := hid ((unhid HO2).alloc (.cells #[.string x] 9))
      have hw3 : w.heap.size ≤ (W2.alloc (.cells #[.string x] 9)).heap.size := by simp; omega
      have HG3 := hid (grown_trans (unhid HG2) (World.grownBy_alloc W2 (.cells #[.string x] 9) (some b)))
      have HR3 := hid ((unhid HR2).alloc (.cells #[.string x] 9))
      go_wp2_with (at_builtin; refine wp_app rfl _ _ rfl w.heap.size _ xs [x] (some ⟨_, 0, none⟩) 1 rfl rfl (unhid HO3) (unhid TN) (fun e => by cases e) ?c1 hw3 ?_)
      case c1 => simp only [List.length_cons, List.length_nil]; omega
      intro v' W4 hown hg hat
      have hlo : ∀ j, (Value.slice oa xs.length oc).ownBlock = some j → w.heap.size ≤ j := fun j e => ((unhid HO3).lt j e).1
      have HG4 := hid (grown_own (unhid HG3) hg hlo)
      have HR4 := hid ((unhid HR3).grown hg (fun j e => Nat.lt_of_lt_of_le hbl (hlo j e)))
      obtain ⟨oa2, oc2, hv⟩ := ownsRow_sliceX hown
      subst hv
      have HO4 := hid hown
      have HX4 := hid (show shortX (xs ++ [x]) from fun y hy => by
        rcases List.mem_append.1 hy with hy | hy
        · exact unhid HX y hy
        · rw [List.mem_singleton.1 hy]; exact unhid HSX)
      clear hown hg hat hlo
      go_wp2_with fail
      go_roundw
      case rel => exact ⟨m - 1, q + 1, xs ++ [x], oa2, oc2, by go_num, by simp only [List.length_append, List.length_cons, List.length_nil]; omega, by simp only [List.length_append, List.length_cons, List.length_nil]; omega, by simp only [List.length_append, List.length_cons, List.length_nil], hid (by have := unhid HO4; simpa using this), HX4, HR4, HG4⟩
      case measure => simp [intOf]; omega
    · have e : m = 0 := by omega
      subst e
      go_wp2_with fail
      go_ret
      exact ⟨_, rfl, xs, by omega, ⟨unhid HO, unhid HX, fun e => by have := ((unhid HO).lt b e).1; omega⟩, ⟨q, by omega, unhid HR⟩, unhid HG⟩
end Go.Proofs.Ytedimkcnemhhpaa
