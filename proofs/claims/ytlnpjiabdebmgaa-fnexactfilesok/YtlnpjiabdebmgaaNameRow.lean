/- A row of texts that one more is appended to; rows of names. -/
import Derived.Test.YtlnpjiabdebmgaaTxts
import Derived.Test.YtlnpjiabdebmgaaSKit
import Derived.Test.YtlnpjiabdebmgaaHeld
import Derived.Maps.AppendAt
import Derived.Laws.OwnMore
import Derived.Laws.Cover3
namespace Go.Proofs.Ytlnpjiabdebmgaa
open Go.RowKit Go.Shelf

theorem infoStr : (Try.prog.info? 9).map (fun i => (i.zero, i.size, i.bytes)) = some (some (.string ⟨#[]⟩), 1, 16) := by kernel_rfl
theorem str_oneN (x : ByteArray) : ∀ u ∈ [Value.string x], u.oneCell' = true := fun u hu => by rw [List.mem_singleton.1 hu]; rfl
/-- A text appended to a row that is owned. -/
theorem app_name (w : World) (base ty : Nat) (v : Value) (xs : List ByteArray) (x : ByteArray) (g : Nat) (hown : w.ownsRow base 9 1 v xs.length (xs.map Value.string)) (h : w.cell? ⟨g, 0, none⟩ = some (.string x)) (hn : xs.length ≤ 4294967296) (hb : base ≤ w.heap.size) :
    ∃ v' w', (Builtin.append_ #[39, 39] ty #[v, .slice (some ⟨g, 0, none⟩) 1 1]).run Try.prog w = .ok v' w' ∧ w'.ownsRow base 9 1 v' (xs ++ [x]).length ((xs ++ [x]).map Value.string) ∧ w.grownBy w' v.ownBlock := by
  obtain ⟨i0, hi, hz0, hz1, hz2⟩ := info_parts infoStr
  obtain ⟨v', w', hr, h2, h3, _, h5⟩ := run_append_own_at (P := Try.prog) w base 39 ty 9 i0 (.string ⟨#[]⟩) 1 16 Try.underlying39 hi hz0 hz1 hz2 rfl (by decide) v xs.length _ hown ⟨g, 0, none⟩ 1 1 [.string x] (by simp) (by
    intro j u hj
    have : j = 0 := by
      have := (List.getElem?_eq_some_iff.1 hj).1
      simpa using this
    subst this
    simp at hj
    subst hj
    exact h) (str_oneN x) (by unfold maxLen; omega) (by omega) hb
  refine ⟨v', w', hr, ?_, h3⟩
  rw [List.map_append, List.length_append]
  exact h2
theorem wp_name {ops : Array Oper} {rest : List Oper} {o : Oper} {a : Act} {w : World} {Q : Exit → Act → World → Prop} (hgd : o.guard = none) (s y : Operand) (ho : o.op = .call { callee := .builtin .append, args := #[s, y], argTypes := #[39, 39] })
    (base : Nat) (v : Value) (xs : List ByteArray) (x : ByteArray) (g : Nat) (hs : a.eval s = v) (hx : a.eval y = .slice (some ⟨g, 0, none⟩) 1 1) (hown : w.ownsRow base 9 1 v xs.length (xs.map Value.string)) (h : w.cell? ⟨g, 0, none⟩ = some (.string x)) (hn : xs.length ≤ 4294967296) (hb : base ≤ w.heap.size)
    (hk : ∀ v' w', w'.ownsRow base 9 1 v' (xs ++ [x]).length ((xs ++ [x]).map Value.string) → w.grownBy w' v.ownBlock → wpList Try.prog ops Q rest (a.put o.dst v') w') : wpList Try.prog ops Q (o :: rest) a w := by
  refine wpList_plain hgd fun K hK => ?_
  obtain ⟨v', w', hr, h2, h3⟩ := app_name w base o.type v xs x g hown h hn hb
  unfold Oper.wp execOp
  simp only [ho, resolve, invoke, builtin, Sem.run_bind, Sem.run_pure, Result.andThen_ok, List.map_toArray, List.map_cons, List.map_nil, hs, hx, hr]
  exact hK _ _ (hk v' w' h2 h3)
theorem held_name {md : Region.Mode} {ops : Array Oper} {Q : Exit → Act → World → Prop} {C : World → Prop} {F : Nat} {listed : Array Bool} {a : Act} {w : World} {o : Oper} {s y : Operand} (k d : Nat) (base : Nat) (v : Value) (xs : List ByteArray) (x : ByteArray) (g : Nat) (hr : Region.ready md ops listed = [k]) (hF : decide (0 < F) = true) (ho : ops[k]? = some o)
    (hop : o.op = .call { callee := .builtin .append, args := #[s, y], argTypes := #[39, 39] }) (hw : Region.wanted o (yielded ops a.tmps) = true) (hd : o.dst = some d) (hs : a.eval s = v) (hx : a.eval y = .slice (some ⟨g, 0, none⟩) 1 1)
    (hown : w.ownsRow base 9 1 v xs.length (xs.map Value.string)) (h : w.cell? ⟨g, 0, none⟩ = some (.string x)) (hn : xs.length ≤ 4294967296) (hb : base ≤ w.heap.size)
    (hk : ∀ v' w', w'.ownsRow base 9 1 v' (xs ++ [x]).length ((xs ++ [x]).map Value.string) → w.grownBy w' v.ownBlock → C w' ∧ wpAnyH Try.prog md ops Q (fun w' => ∃ x : CW C, w' = x.w) (F - 1) (listed.setIfInBounds k true) (a.put (some d) v') w') :
    wpAnyH Try.prog md ops Q (fun w' => ∃ x : CW C, w' = x.w) F listed a w := by
  refine held_op k hr hF ho (fun K hK => ?_)
  rw [if_pos hw]
  obtain ⟨v', w', hr, h2, h3⟩ := app_name w base o.type v xs x g hown h hn hb
  unfold Oper.wp execOp
  simp only [hop, resolve, invoke, builtin, Sem.run_bind, Sem.run_pure, Result.andThen_ok, List.map_toArray, List.map_cons, List.map_nil, hs, hx, hr]
  obtain ⟨hc, hn⟩ := hk v' w' h2 h3
  show K (a.put o.dst v') w'
  rw [hd]
  exact hK.out _ _ hc hn
/-- A row of its own, read. -/
theorem ownsRow_txts {W : World} {N : Nat} {v : Value} {xs : List ByteArray} (h : W.ownsRow N 9 1 v xs.length (xs.map Value.string)) : ∃ a cap, v = .slice a xs.length cap ∧ TxtsAt W a xs ∧ (a = none → cap = 0) ∧ ∀ b o, a = some ⟨b, o, none⟩ → o = 0 ∧ N ≤ b ∧ b < W.heap.size := by
  rcases h.2 with ⟨rfl, h0⟩ | ⟨g, cap, cur, rfl, hg, hh, hc, hm, hsz, hcur⟩
  · exact ⟨none, 0, by rw [h0], .inl (List.length_eq_zero_iff.1 h0), fun _ => rfl, fun b o e => by cases e⟩
  · refine ⟨_, cap, rfl, .inr ⟨g, 0, rfl, (Array.getElem?_eq_some_iff.1 hh).1, fun i x hi => ?_⟩, (fun e => by cases e), fun b o e => by cases e; exact ⟨rfl, hg, (Array.getElem?_eq_some_iff.1 hh).1⟩⟩
    have hl : i < xs.length := (List.getElem?_eq_some_iff.1 hi).1
    have hx : cur[i]? = some (.string x) := by
      rw [← Array.getElem?_toList, ← List.getElem?_take_of_lt (l := cur.toList) (i := i) (j := xs.length * 1) (by omega), hcur, List.getElem?_map, hi]; rfl
    rw [Nat.zero_add]
    exact cell_arrS hh _ _ hx
theorem ownsRow_none (W : World) (N : Nat) : W.ownsRow N 9 1 (.slice none 0 0) ([] : List ByteArray).length (([] : List ByteArray).map Value.string) := ⟨rfl, .inl ⟨rfl, rfl⟩⟩
theorem ownsRow_lowerS {W : World} {N M e n size : Nat} {v : Value} {xs : List Value} (h : W.ownsRow M e size v n xs) (hN : N ≤ M) : W.ownsRow N e size v n xs := by
  refine ⟨h.1, ?_⟩
  rcases h.2 with h0 | ⟨g, cap, cur, hv, hg, h2⟩
  · exact .inl h0
  · exact .inr ⟨g, cap, cur, hv, Nat.le_trans hN hg, h2⟩
theorem ownsRow_belowS {W W' : World} {N e n size : Nat} {v : Value} {xs : List Value} (h : W.ownsRow N e size v n xs) (hb : Below W.heap.size W W') : W'.ownsRow N e size v n xs := by
  refine ⟨h.1, ?_⟩
  rcases h.2 with h0 | ⟨g, cap, cur, hv, hg, hh, h2⟩
  · exact .inl h0
  · exact .inr ⟨g, cap, cur, hv, hg, (hb.block g (Array.getElem?_eq_some_iff.1 hh).1).trans hh, h2⟩
def twiceB (xs : List ByteArray) : Bool := !decide xs.Nodup
end Go.Proofs.Ytlnpjiabdebmgaa
