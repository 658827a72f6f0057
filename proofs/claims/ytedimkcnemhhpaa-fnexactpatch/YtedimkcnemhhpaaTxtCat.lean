/- Rows of texts one behind the other, in one. -/
import Derived.Test.YtedimkcnemhhpaaTxtSame
import Derived.Test.YtedimkcnemhhpaaHunksOk
import Derived.Lib.AppendZeros
namespace Go.Proofs.Ytedimkcnemhhpaa
open Go.RowKit Go.Shelf

theorem wp_append_run {P : Program} {ops : Array Oper} {rest : List Oper} {o : Oper} {a : Act} {w : World} {Q : Exit → Act → World → Prop} (hgd : o.guard = none) (s x : Operand) (t1 t2 : TypeId) (ho : o.op = .call { callee := .builtin .append, args := #[s, x], argTypes := #[t1, t2] })
    (v u v' : Value) (w' : World) (hs : a.eval s = v) (hx : a.eval x = u) (hr : (Builtin.append_ #[t1, t2] o.type #[v, u]).run P w = .ok v' w') (hk : wpList P ops Q rest (a.put o.dst v') w') : wpList P ops Q (o :: rest) a w := by
  refine wpList_plain hgd fun K hK => ?_
  unfold Oper.wp execOp
  simp only [ho, resolve, invoke, builtin, Sem.run_bind, Sem.run_pure, Result.andThen_ok, List.map_toArray, List.map_cons, List.map_nil, hs, hx, hr]
  exact hK _ _ hk
theorem zeroCells_size (z : Value) (n : Nat) : (Builtin.zeroCells #[z] n).size = n := by simp [Builtin.zeroCells]
theorem drew_alloc_below (w : World) (o : Obj) : Below w.heap.size w (w.drew.alloc o) := (drew_belowX w).alloc (Nat.le_refl _) o

set_option maxRecDepth 100000 in
set_option maxHeartbeats 1000000 in
theorem slicesGrow_nil (n : Nat) (w : World) (hn : n ≤ 1048576) :
    Calls Try.prog 88 #[.slice none 0 0, .int .i64 (n : Int)] w fun r w' => ∃ v, r = .returned v ∧ w'.ownsRow w.heap.size 9 1 v 0 [] ∧ Below w.heap.size w w' := by
  by_cases h0 : n = 0
  · subst h0
    go_enter Try.func88, Try.ntmps88
    go_wp2_with fail
    go_ret
    exact ⟨_, rfl, World.ownsRow_nil _ _ _ _, Below.refl _ _⟩
  · obtain ⟨i0, hi, hz0, hz1, hz2⟩ := info_parts infoTxt
    have hp : (0 : Int) < (n : Int) := by omega
    have hr := fun ty => Lib.run_append_nil_zeros (P := Try.prog) w 29 3 ty 9 i0 (.string ⟨#[]⟩) .i64 .i64 Try.underlying29 Try.underlying3 hi hz0 n (by omega) (by rw [hz1]; decide) (by omega) (by rw [hz2]; omega)
    have hge := grownCap_ge w n 0 9
    have hle := grownCap_le_maxLen w n 0 9 (by unfold maxLen; omega)
    have h1 := fun w => sub_h none 0 0 0 (Nat.le_refl _) w
    have HO : Hid (∀ W : World, ∀ cs : Array Value, cs.size = grownCap w n 0 9 → w.heap.size ≤ W.heap.size → (W.alloc (.cells cs 9)).ownsRow w.heap.size 9 1 (.slice (some ⟨W.heap.size, 0, none⟩) 0 (grownCap w n 0 9)) 0 []) := hid (fun W cs hs hw => ⟨rfl, .inr ⟨W.heap.size, _, cs, rfl, hw, World.alloc_heap_new _ _, Nat.zero_le _, hle, by rw [hs, Nat.mul_one], by simp⟩⟩)
    have HZ := hid (show (Builtin.zeroCells (Value.string ⟨#[]⟩).cells n ++ Builtin.zeroCells (Value.string ⟨#[]⟩).cells (grownCap w n 0 9 - n)).size = grownCap w n 0 9 by
      rw [Array.size_append]; show (Builtin.zeroCells #[_] n).size + (Builtin.zeroCells #[_] _).size = _; rw [zeroCells_size, zeroCells_size]; omega)
    have HB := hid (drew_alloc_below w (.cells (Builtin.zeroCells (Value.string ⟨#[]⟩).cells n ++ Builtin.zeroCells (Value.string ⟨#[]⟩).cells (grownCap w n 0 9 - n)) 9))
    have HF := hid (And.intro (unhid HO w.drew _ (unhid HZ) (Nat.le_refl _)) (unhid HB))
    clear HO HZ HB
    generalize w.drew.alloc (.cells (Builtin.zeroCells (Value.string ⟨#[]⟩).cells n ++ Builtin.zeroCells (Value.string ⟨#[]⟩).cells (grownCap w n 0 9 - n)) 9) = W2 at *
    have hdz : w.drew.heap.size = w.heap.size := rfl
    rw [hdz] at HF
    generalize grownCap w n 0 9 = c at *
    have HR := hid hr
    clear hr
    have h2 := fun w' => sub_h (some ⟨w.heap.size, 0, none⟩) n c 0 (Nat.zero_le _) w'
    go_enter Try.func88, Try.ntmps88
    go_wp2_with (at_builtin; refine wp_append_run rfl _ _ _ _ rfl _ _ _ _ rfl rfl (unhid HR _) ?_)
    go_wp2_with fail
    go_ret
    exact ⟨_, rfl, (unhid HF).1, (unhid HF).2⟩

/-- A row of rows of texts. -/
structure Slc where
  a : Option Addr
  cap : Nat
  xs : List ByteArray
def Slc.val (s : Slc) : Value := .slice s.a s.xs.length s.cap
def Slc.Ok (W : World) (s : Slc) : Prop := TxtsAt W s.a s.xs ∧ (s.a = none → s.cap = 0)
theorem Slc.Ok.below {W W' : World} {s : Slc} (h : s.Ok W) (hb : Below W.heap.size W W') : s.Ok W' := ⟨h.1.below hb, h.2⟩
def SlcsAt (W : World) (b : Nat) (L : List Slc) : Prop := b < W.heap.size ∧ ∀ (i : Nat) s, L[i]? = some s → W.cell? ⟨b, i, none⟩ = some s.val ∧ s.Ok W
theorem SlcsAt.below {W W' : World} {b : Nat} {L : List Slc} (h : SlcsAt W b L) (hb : Below W.heap.size W W') : SlcsAt W' b L :=
  ⟨Nat.lt_of_lt_of_le h.1 hb.size, fun i s hi => ⟨(hb.cell (p := ⟨b, i, none⟩) h.1).trans (h.2 i s hi).1, (h.2 i s hi).2.below hb⟩⟩
def allX (L : List Slc) : List ByteArray := L.flatMap Slc.xs
theorem allX_take (L : List Slc) (k : Nat) (s : Slc) (h : L[k]? = some s) : allX (L.take (k + 1)) = allX (L.take k) ++ s.xs := by
  unfold allX; rw [List.take_add_one, h, List.flatMap_append]; simp
theorem allX_le (L : List Slc) (k : Nat) : (allX (L.take k)).length ≤ (allX L).length := by
  have : L = L.take k ++ L.drop k := (List.take_append_drop k L).symm
  conv => rhs; rw [this]
  unfold allX; rw [List.flatMap_append, List.length_append]; omega

set_option maxRecDepth 100000 in
set_option maxHeartbeats 2000000 in
theorem slicesConcat_any (L : List Slc) (b cap : Nat) (w : World) (hl : L.length ≤ 1048576) (ht : (allX L).length ≤ 1048576) (h : SlcsAt w b L) :
    Calls Try.prog 57 #[.slice (some ⟨b, 0, none⟩) L.length cap] w fun r w' => ∃ v, r = .returned v ∧ w'.ownsRow w.heap.size 9 1 v (allX L).length ((allX L).map Value.string) ∧ Below w.heap.size w w' := by
  have H := hid h
  clear h
  go_enter Try.func57, Try.ntmps57
  go_wp2_with fail
  go_loop [3, 11] (fun t i => ∃ k : Nat, k ≤ L.length ∧ i = .int .i64 k ∧ t = .int .i64 ((allX (L.take k)).length : Nat)) (fun _ i => L.length - (intOf i).toNat)
  case atStart => exact ⟨0, Nat.zero_le _, rfl, rfl⟩
  case round =>
    obtain ⟨k, hk, rfl, rfl⟩ := hrel
    have hle := allX_le L k
    by_cases hlt : k < L.length
    · obtain ⟨s, hs⟩ : ∃ s, L[k]? = some s := ⟨L[k], List.getElem?_eq_getElem hlt⟩
      obtain ⟨c0, hok⟩ := (unhid H).2 k s hs
      have E := hid (allX_take L k s hs)
      have hle2 := allX_le L (k + 1)
      rw [unhid E, List.length_append] at hle2
      unfold Slc.val at c0
      clear hok hs
      generalize hgt : (allX (L.take k)).length = t at *
      have HT := hid hgt
      clear hgt
      have hnn : ¬ ((t : Int) + (s.xs.length : Int) < 0) := by omega
      go_wp2_with fail
      exact ⟨⟨k + 1, by omega, by go_num, by rw [unhid E, List.length_append, unhid HT]; go_num⟩, by simp [intOf]; omega⟩
    · have e : k = L.length := by omega
      subst e
      rw [List.take_of_length_le (Nat.le_refl _)]
      go_wp2_with fail
      refine (slicesGrow_nil _ w ht).mono ?_
      rintro r w1 ⟨v, rfl, hown, hb⟩
      have HB1 := hid hb
      have H1 := hid ((unhid H).below hb)
      have HO1 := hid hown
      clear hb hown hle
      obtain ⟨va, vc, rfl⟩ : ∃ a c, v = .slice a 0 c := by
        rcases (unhid HO1).2 with ⟨rfl, _⟩ | ⟨g, cap, cur, rfl, _⟩
        · exact ⟨_, _, rfl⟩
        · exact ⟨_, _, rfl⟩
      go_wp2_with fail
      go_loopw [6, 27] (fun o i wr => ∃ (k : Nat) (ad : Option Addr) (cp : Nat), k ≤ L.length ∧ i = .int .i64 k ∧ o = .slice ad (allX (L.take k)).length cp ∧ Hid (wr.ownsRow w.heap.size 9 1 (.slice ad (allX (L.take k)).length cp) (allX (L.take k)).length ((allX (L.take k)).map Value.string)) ∧ Hid (Below w.heap.size w wr) ∧ Hid (SlcsAt wr b L)) (fun _ i _ => L.length - (intOf i).toNat)
      case atStart => exact ⟨0, va, vc, Nat.zero_le _, rfl, rfl, HO1, HB1, H1⟩
      case round =>
        clear H1 HB1 HO1
        obtain ⟨k, ad, cp, hk, rfl, rfl, HO, HB, HS⟩ := hrel
        by_cases hlt : k < L.length
        · obtain ⟨s, hs⟩ : ∃ s, L[k]? = some s := ⟨L[k], List.getElem?_eq_getElem hlt⟩
          obtain ⟨c0, hok⟩ := (unhid HS).2 k s hs
          have E := hid (allX_take L k s hs)
          have hle2 := allX_le L (k + 1)
          rw [unhid E, List.length_append] at hle2
          unfold Slc.val at c0
          have HOK := hid hok
          have hwl := (unhid HB).size
          clear hok hs
          generalize allX (L.take k) = ys at *
          go_wp2_with (at_builtin; refine wp_app rfl _ _ rfl w.heap.size _ ys s.xs s.a s.cap rfl rfl (unhid HO) (unhid HOK).1 (unhid HOK).2 ?c1 hwl ?_)
          case c1 => omega
          intro v' w2 hown hg hat
          obtain ⟨va2, vc2, hv2⟩ := ownsRow_sliceX hown
          subst hv2
          have hbl := (unhid HS).1
          have hbw : b < w.heap.size := (unhid H).1
          have HB2 := hid ((unhid HB).grown hg hwl (fun j e => ((unhid HO).lt j e).1))
          have HS2 := hid ((unhid H).below (unhid HB2))
          have HO2 := hid hown
          clear hown hg hat hbl
          go_wp2_with fail
          go_roundw
          case rel => exact ⟨k + 1, va2, vc2, by omega, by go_num, by rw [unhid E, List.length_append], by rw [unhid E, List.length_append, List.map_append]; exact HO2, HB2, HS2⟩
          case measure => simp [intOf]; omega
        · have e : k = L.length := by omega
          subst e
          rw [List.take_of_length_le (Nat.le_refl _)] at HO ⊢
          go_wp2_with fail
          go_ret
          exact ⟨_, rfl, unhid HO, unhid HB⟩
end Go.Proofs.Ytedimkcnemhhpaa
