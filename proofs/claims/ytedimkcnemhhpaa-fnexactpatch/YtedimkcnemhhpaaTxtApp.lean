/- Rows of texts: appended to, sliced, copied, with a sign ahead. -/
import Derived.Test.YtedimkcnemhhpaaTxtKit
import Derived.Test.YtedimkcnemhhpaaHunkLines
import Derived.Laws.OwnMore
import Derived.Laws.Cover3
namespace Go.Proofs.Ytedimkcnemhhpaa
open Go.RowKit Go.Shelf

theorem strs_one (xs : List ByteArray) : ∀ u ∈ xs.map Value.string, u.oneCell' = true := fun u hu => by
  obtain ⟨x, _, rfl⟩ := List.mem_map.1 hu; rfl
theorem add_plainT (b o n : Nat) : (⟨b, o, none⟩ : Addr).add n = ⟨b, o + n, none⟩ := by simp [Addr.add]
theorem grown_self (w : World) (row : Option Nat) : w.grownBy w row := ⟨rfl, rfl, rfl, Nat.le_refl _, fun _ _ _ => rfl⟩

/-- Texts appended to a row that is owned. -/
theorem app_txts (w : World) (base ty : Nat) (v : Value) (xs ys : List ByteArray) (a : Option Addr) (c : Nat) (hown : w.ownsRow base 9 1 v xs.length (xs.map Value.string)) (h : TxtsAt w a ys) (ha : a = none → c = 0) (hn : xs.length + ys.length ≤ 4294967296) (hb : base ≤ w.heap.size) :
    ∃ v' w', (Builtin.append_ #[29, 29] ty #[v, .slice a ys.length c]).run Try.prog w = .ok v' w' ∧ w'.ownsRow base 9 1 v' (xs ++ ys).length ((xs ++ ys).map Value.string) ∧ w.grownBy w' v.ownBlock ∧ (v'.ownBlock = v.ownBlock ∨ v'.ownBlock = some w.heap.size) := by
  obtain ⟨i0, hi, hz0, hz1, hz2⟩ := info_parts infoTxt
  have hle : (xs ++ ys).length = xs.length + ys.length := List.length_append
  cases a with
  | none =>
    have h0 : ys = [] := by rcases h with h | ⟨b, o, hh, _⟩; exact h; cases hh
    subst h0
    obtain rfl := ha rfl
    refine ⟨v, w, run_append_owned_none (P := Try.prog) w base 29 ty 9 i0 1 Try.underlying29 hi v xs.length _ hown, by simpa using hown, grown_self _ _, .inl rfl⟩
  | some ad =>
    obtain ⟨v', w', hr, h2, h3, _, h5⟩ := run_append_own_at (P := Try.prog) w base 29 ty 9 i0 (.string ⟨#[]⟩) 1 16 Try.underlying29 hi hz0 hz1 hz2 rfl (by decide) v xs.length _ hown ad ys.length c (ys.map Value.string) (by simp) (by
      intro j u hj
      rw [List.getElem?_map] at hj
      cases hy : ys[j]? with
      | none => rw [hy] at hj; cases hj
      | some y =>
        rw [hy] at hj
        cases hj
        obtain ⟨b, o, e, _, hc⟩ := h.get (by intro e; subst e; simp at hy)
        cases e
        rw [add_plainT]
        exact hc j y hy) (strs_one _) (by unfold maxLen; omega) (by omega) hb
    exact ⟨v', w', hr, by rw [hle, List.map_append]; exact h2, h3, h5⟩

theorem wp_app {ops : Array Oper} {rest : List Oper} {o : Oper} {a : Act} {w : World} {Q : Exit → Act → World → Prop} (hgd : o.guard = none) (s x : Operand) (ho : o.op = .call { callee := .builtin .append, args := #[s, x], argTypes := #[29, 29] })
    (base : Nat) (v : Value) (xs ys : List ByteArray) (ad : Option Addr) (c : Nat) (hs : a.eval s = v) (hx : a.eval x = .slice ad ys.length c) (hown : w.ownsRow base 9 1 v xs.length (xs.map Value.string)) (h : TxtsAt w ad ys) (ha : ad = none → c = 0) (hn : xs.length + ys.length ≤ 4294967296) (hb : base ≤ w.heap.size)
    (hk : ∀ v' w', w'.ownsRow base 9 1 v' (xs ++ ys).length ((xs ++ ys).map Value.string) → w.grownBy w' v.ownBlock → (v'.ownBlock = v.ownBlock ∨ v'.ownBlock = some w.heap.size) → wpList Try.prog ops Q rest (a.put o.dst v') w') : wpList Try.prog ops Q (o :: rest) a w := by
  refine wpList_plain hgd fun K hK => ?_
  obtain ⟨v', w', hr, h2, h3, h5⟩ := app_txts w base o.type v xs ys ad c hown h ha hn hb
  unfold Oper.wp execOp
  simp only [ho, resolve, invoke, builtin, Sem.run_bind, Sem.run_pure, Result.andThen_ok, List.map_toArray, List.map_cons, List.map_nil, hs, hx, hr]
  exact hK _ _ (hk v' w' h2 h3 h5)

theorem held_app {md : Region.Mode} {ops : Array Oper} {Q : Exit → Act → World → Prop} {C : World → Prop} {F : Nat} {listed : Array Bool} {a : Act} {w : World} {o : Oper} {s x : Operand} (k d : Nat) (base : Nat) (v : Value) (xs ys : List ByteArray) (ad : Option Addr) (c : Nat) (hr : Region.ready md ops listed = [k]) (hF : decide (0 < F) = true) (ho : ops[k]? = some o)
    (hop : o.op = .call { callee := .builtin .append, args := #[s, x], argTypes := #[29, 29] }) (hw : Region.wanted o (yielded ops a.tmps) = true) (hd : o.dst = some d) (hs : a.eval s = v) (hx : a.eval x = .slice ad ys.length c)
    (hown : w.ownsRow base 9 1 v xs.length (xs.map Value.string)) (h : TxtsAt w ad ys) (ha : ad = none → c = 0) (hn : xs.length + ys.length ≤ 4294967296) (hb : base ≤ w.heap.size)
    (hk : ∀ v' w', w'.ownsRow base 9 1 v' (xs ++ ys).length ((xs ++ ys).map Value.string) → w.grownBy w' v.ownBlock → (v'.ownBlock = v.ownBlock ∨ v'.ownBlock = some w.heap.size) → C w' ∧ wpAnyH Try.prog md ops Q (fun w' => ∃ x : CW C, w' = x.w) (F - 1) (listed.setIfInBounds k true) (a.put (some d) v') w') :
    wpAnyH Try.prog md ops Q (fun w' => ∃ x : CW C, w' = x.w) F listed a w := by
  refine held_op k hr hF ho (fun K hK => ?_)
  rw [if_pos hw]
  obtain ⟨v', w', hr, h2, h3, h5⟩ := app_txts w base o.type v xs ys ad c hown h ha hn hb
  unfold Oper.wp execOp
  simp only [hop, resolve, invoke, builtin, Sem.run_bind, Sem.run_pure, Result.andThen_ok, List.map_toArray, List.map_cons, List.map_nil, hs, hx, hr]
  obtain ⟨hc, hn⟩ := hk v' w' h2 h3 h5
  show K (a.put o.dst v') w'
  rw [hd]
  exact hK.out _ _ hc hn

/-- Where a part of a row lies. -/
def subA (a : Option Addr) (cap l : Nat) : Option Addr := if cap = l then a else a.map (·.add l)
theorem size9 (w : World) : (sizeOf 9).run Try.prog w = .ok 1 w := by kernel_rfl
theorem elem29 : Try.prog.elem 29 = 9 := by kernel_rfl
theorem slice29 : Try.prog.underlying 29 = some (.slice (Try.prog.elem 29)) := by rw [elem29]; exact Try.underlying29
theorem sub_lh (a : Option Addr) (len cap l h : Nat) (h1 : l ≤ h) (h2 : h ≤ cap) (w : World) : (Instr.sliceAt 29 (.slice a len cap) (some (.int .i64 (l : Int))) (some (.int .i64 (h : Int))) none).run Try.prog w = .ok (.slice (subA a cap l) (h - l) (cap - l)) w := by
  rw [run_sliceAt_slice _ _ _ _ _ _ slice29, run_slice_lh _ _ _ _ _ slice29 _ _ _ _ (by omega) (by omega) (by omega), elem29, size9]
  simp [sliced, subA]
theorem sub_l (a : Option Addr) (len cap l : Nat) (h1 : l ≤ len) (w : World) : (Instr.sliceAt 29 (.slice a len cap) (some (.int .i64 (l : Int))) none none).run Try.prog w = .ok (.slice (subA a cap l) (len - l) (cap - l)) w := by
  rw [run_sliceAt_slice _ _ _ _ _ _ slice29, run_slice_l _ _ _ _ _ slice29 _ _ (by omega) (by omega), elem29, size9]
  simp [sliced, subA]
theorem sub_h (a : Option Addr) (len cap h : Nat) (h2 : h ≤ cap) (w : World) : (Instr.sliceAt 29 (.slice a len cap) none (some (.int .i64 (h : Int))) none).run Try.prog w = .ok (.slice a h cap) w := by
  rw [run_sliceAt_slice _ _ _ _ _ _ slice29, run_slice_h _ _ _ _ _ slice29 _ _ (by omega) (by omega), elem29, size9]
  simp only [Result.andThen_ok, sliced, Nat.zero_mul, Nat.sub_zero, Int.toNat_natCast]
  congr 2
  split
  · rfl
  · cases a with
    | none => rfl
    | some a => simp [Addr.add]
theorem TxtsAt.part {W : World} {a : Option Addr} {xs : List ByteArray} {cap : Nat} (h : TxtsAt W a xs) (hc : xs.length ≤ cap) (l m : Nat) : TxtsAt W (subA a cap l) ((xs.drop l).take m) := by
  by_cases h0 : (xs.drop l).take m = []
  · exact .inl h0
  have hl : l < xs.length := by
    rcases Nat.lt_or_ge l xs.length with h | h
    · exact h
    · exact absurd (by rw [List.drop_eq_nil_of_le h, List.take_nil]) h0
  obtain ⟨b, o, rfl, hb, hcell⟩ := h.get (by intro e; subst e; simp at hl)
  refine .inr ⟨b, o + l, by unfold subA; rw [if_neg (by omega)]; simp [Addr.add], hb, fun i x hi => ?_⟩
  have : xs[l + i]? = some x := by
    rw [List.getElem?_take] at hi
    split at hi
    · rw [List.getElem?_drop] at hi; exact hi
    · cases hi
  have := hcell _ _ this
  rwa [← Nat.add_assoc] at this
theorem TxtsAt.rest {W : World} {a : Option Addr} {xs : List ByteArray} {cap : Nat} (h : TxtsAt W a xs) (hc : xs.length ≤ cap) (l : Nat) : TxtsAt W (subA a cap l) (xs.drop l) := by
  have := h.part hc l xs.length
  rwa [List.take_of_length_le (by simp)] at this
theorem TxtsAt.head {W : World} {a : Option Addr} {xs : List ByteArray} (h : TxtsAt W a xs) (m : Nat) : TxtsAt W a (xs.take m) := by
  rcases h with rfl | ⟨b, o, rfl, hb, hcell⟩
  · exact .inl (by simp)
  · refine .inr ⟨b, o, rfl, hb, fun i x hi => hcell i x ?_⟩
    rw [List.getElem?_take] at hi
    split at hi
    · exact hi
    · cases hi
theorem subA_none {a : Option Addr} {cap l : Nat} (hl : l ≤ cap) (h : a = none → cap = 0) : subA a cap l = none → cap - l = 0 := fun e => by
  unfold subA at e
  split at e
  · omega
  · cases a with
    | none => have := h rfl; omega
    | some _ => cases e

set_option maxRecDepth 100000 in
set_option maxHeartbeats 1000000 in
theorem eq_nil29 (a : Option Addr) (l c : Nat) (w : World) : (binOp .eql 29 (.slice a l c) (.slice none 0 0)).run Try.prog w = .ok (.bool a.isNone) w := by
  simp only [binOp]
  simp [run_equal_slice_nil _ _ _ _ _ _ Try.underlying29]
set_option maxRecDepth 100000 in
set_option maxHeartbeats 1000000 in
theorem slicesClone_any (xs : List ByteArray) (a : Option Addr) (cap : Nat) (w : World) (hx : xs.length ≤ 1048576) (h : TxtsAt w a xs) (ha : a = none → cap = 0) :
    Calls Try.prog 64 #[.slice a xs.length cap] w fun r w' => ∃ v, r = .returned v ∧ w'.ownsRow w.heap.size 9 1 v xs.length (xs.map Value.string) ∧ Below w.heap.size w w' := by
  cases a with
  | none =>
    have h0 : xs = [] := by rcases h with h | ⟨b, o, hh, _⟩; exact h; cases hh
    subst h0
    obtain rfl := ha rfl
    have hq := fun w => eq_nil29 none 0 0 w
    go_enter Try.func64, Try.ntmps64
    go_wp2_with fail
    go_ret
    exact ⟨_, rfl, World.ownsRow_nil _ _ _ _, Below.refl _ _⟩
  | some ad =>
    have hB1 : Below w.heap.size w (w.alloc (.cells #[] 9)) := (Below.refl _ w).alloc (Nat.le_refl _) _
    have HT := hid (h.below hB1)
    have HO := hid (World.ownsRow_lit (base := w.heap.size) (e := 9) (size := 1) w #[] 0 (Nat.le_refl _) (by simp [maxLen]) rfl)
    have HB := hid hB1
    have hle : w.heap.size ≤ (w.alloc (.cells #[] 9)).heap.size := hB1.size
    have HLE := hid hle
    clear h hB1 ha hle
    have hq := fun w => eq_nil29 (some ad) xs.length cap w
    go_enter Try.func64, Try.ntmps64
    go_wp2_with (at_builtin; refine wp_app rfl _ _ rfl w.heap.size _ [] xs (some ad) cap rfl rfl (unhid HO) (unhid HT) (fun e => by cases e) ?c1 (unhid HLE) ?_)
    case c1 => first | omega | (simp only [List.length_nil]; omega)
    intro v' w1 hown hg _
    have HF := hid (And.intro hown ((unhid HB).grown hg (unhid HB).size (fun k e => by cases e; exact Nat.le_refl _)))
    clear hown hg
    go_wp2_with fail
    go_ret
    exact ⟨_, rfl, unhid HF⟩

def signX (c : UInt8) (xs : List ByteArray) : List ByteArray := xs.map fun x => (⟨#[c]⟩ : ByteArray) ++ x
theorem signX_len (c : UInt8) (xs : List ByteArray) : (signX c xs).length = xs.length := List.length_map _
set_option maxRecDepth 100000 in
set_option maxHeartbeats 2000000 in
theorem signed_any (c : UInt8) (xs : List ByteArray) (a : Option Addr) (cap : Nat) (w : World) (hx : xs.length ≤ 1048576) (hz : ∀ x ∈ xs, x.size ≤ 1048576) (h : TxtsAt w a xs) :
    Calls Try.prog 58 #[.string ⟨#[c]⟩, .slice a xs.length cap] w fun r w' => ∃ v, r = .returned v ∧ w'.ownsRow w.heap.size 9 1 v (signX c xs).length ((signX c xs).map Value.string) ∧ Below w.heap.size w w' := by
  have HT := hid h
  have HZ := hid hz
  clear h hz
  obtain ⟨i0, hi, hz0, hz1, hz2⟩ := info_parts infoTxt
  go_enter Try.func58, Try.ntmps58
  go_wp2_with fail
  go_loopw [5, 10] (fun o i wr => ∃ (k : Nat) (ad : Option Addr) (cp : Nat), k ≤ xs.length ∧ i = .int .i64 k ∧ o = .slice ad k cp ∧ wr.ownsRow w.heap.size 9 1 (.slice ad k cp) k ((signX c (xs.take k)).map Value.string) ∧ Below w.heap.size w wr) (fun _ i _ => xs.length - (intOf i).toNat)
  case atStart => exact ⟨0, none, 0, Nat.zero_le _, rfl, rfl, World.ownsRow_nil _ _ _ _, Below.refl _ _⟩
  case round =>
    obtain ⟨k, ad, cp, hk, rfl, rfl, hown, hB⟩ := hrel
    by_cases hlt : k < xs.length
    · have he := txtFn_some hlt
      generalize txtFn xs k = x at he
      obtain ⟨b, o, rfl, hbl, hc⟩ := (unhid HT).get (by intro e; subst e; simp at hlt)
      have c0 := (hB.cell (p := ⟨b, o + k, .none⟩) hbl).trans (hc k x he)
      have z1 := unhid HZ x (List.mem_of_getElem? he)
      have E := hid (show signX c (xs.take (k + 1)) = signX c (xs.take k) ++ [(⟨#[c]⟩ : ByteArray) ++ x] by unfold signX; rw [List.take_add_one, he, List.map_append]; rfl)
      clear hc he
      go_wp2_with (at_builtin; refine wpList_append_own _ rfl _ _ 29 rfl w.heap.size 9 i0 (.string ⟨#[]⟩) 1 16 Try.underlying29 hi hz0 hz1 hz2 rfl (by decide) _ _ _ rfl (hown.alloc _) ⟨wr.heap.size, 0, none⟩ 1 1 [.string ((⟨#[c]⟩ : ByteArray) ++ x)] rfl rfl ?c1 ?c2 ?c3 ?c4 ?c5 ?_)
      case c1 => exact cell_one_new _ _ _
      case c2 => intro u hu; simp at hu; subst hu; rfl
      case c3 => unfold maxLen; omega
      case c4 => omega
      case c5 => have := hB.size; simp; omega
      intro v' w1 hown' hgrow _
      obtain ⟨g', cap', rfl⟩ := ownsRow_succ hown'
      have hB1 : Below w.heap.size w w1 := (hB.alloc hB.size _).grown hgrow (by have := hB.size; simp; omega) (fun j e => (hown.lt j e).1)
      clear hgrow hown
      go_wp2
      go_roundw
      case rel => exact ⟨k + 1, some ⟨g', 0, none⟩, cap', by omega, by go_num, by simp, by rw [unhid E]; simpa using hown', hB1⟩
      case measure => simp [intOf]; omega
    · have e : k = xs.length := by omega
      subst e
      rw [List.take_of_length_le (Nat.le_refl _)] at hown
      go_wp2_with fail
      go_ret
      exact ⟨_, rfl, by rw [signX_len]; exact hown, hB⟩
end Go.Proofs.Ytedimkcnemhhpaa
