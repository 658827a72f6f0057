/- Texts of this proof, one behind the other; each says at its head what it shows. -/
import Derived.Test.YtoihhlkidlapmaaGreatJoin1
import Derived.Maps.AppendAt
import Derived.Laws.OwnMore
import Derived.Laws.Cover3
import Derived.Test.YtoihhlkidlapmaaGreatRows
import Derived.WalkKit
import Derived.ProofKit
import Derived.OpenShut
import Derived.Deep.Slices
import Derived.Lib.SmallJoins
import Derived.WalkSpells
import Derived.Shelf.Small.Strs
import Derived.Shelf.Strings.Search1
import Derived.Shelf.Sort.Plain
import Derived.Shelf.Slices.In.SortNone
import Derived.Test.YtoihhlkidlapmaaGreatProg
import Derived.Sort.OwnSorted
import Derived.Sort.KeysCollected
/- A row of texts that one more is appended to; rows of names. -/
namespace Go.Proofs.YtoihhlkidlapmaaGreat
open Go.RowKit Go.Shelf

theorem infoStr : (Tryz.prog.info? 9).map (fun i => (i.zero, i.size, i.bytes)) = some (some (.string ⟨#[]⟩), 1, 16) := by kernel_rfl
theorem str_oneN (x : ByteArray) : ∀ u ∈ [Value.string x], u.oneCell' = true := fun u hu => by rw [List.mem_singleton.1 hu]; rfl
/-- A text appended to a row that is owned. -/
theorem app_name (w : World) (base ty : Nat) (v : Value) (xs : List ByteArray) (x : ByteArray) (g : Nat) (hown : w.ownsRow base 9 1 v xs.length (xs.map Value.string)) (h : w.cell? ⟨g, 0, none⟩ = some (.string x)) (hn : xs.length ≤ 4294967296) (hb : base ≤ w.heap.size) :
    ∃ v' w', (Builtin.append_ #[24, 24] ty #[v, .slice (some ⟨g, 0, none⟩) 1 1]).run Tryz.prog w = .ok v' w' ∧ w'.ownsRow base 9 1 v' (xs ++ [x]).length ((xs ++ [x]).map Value.string) ∧ w.grownBy w' v.ownBlock := by
  obtain ⟨i0, hi, hz0, hz1, hz2⟩ := info_parts infoStr
  obtain ⟨v', w', hr, h2, h3, _, h5⟩ := run_append_own_at (P := Tryz.prog) w base 24 ty 9 i0 (.string ⟨#[]⟩) 1 16 Tryz.underlying24 hi hz0 hz1 hz2 rfl (by decide) v xs.length _ hown ⟨g, 0, none⟩ 1 1 [.string x] (by simp) (by
    intro j u hj
    have : j = 0 := by
      have := (List.getElem?_eq_some_iff.1 hj).1
      simpa using this
    subst this
    simp at hj
    subst hj
    exact h) (str_oneN x) (by unfold maxLen; omega) (by omega) hb
  refine ⟨v', w', hr, ?_, h3⟩
  rw [List.map_append, List.length_append]
  exact h2
theorem wp_name {ops : Array Oper} {rest : List Oper} {o : Oper} {a : Act} {w : World} {Q : Exit → Act → World → Prop} (hgd : o.guard = none) (s y : Operand) (ho : o.op = .call { callee := .builtin .append, args := #[s, y], argTypes := #[24, 24] })
    (base : Nat) (v : Value) (xs : List ByteArray) (x : ByteArray) (g : Nat) (hs : a.eval s = v) (hx : a.eval y = .slice (some ⟨g, 0, none⟩) 1 1) (hown : w.ownsRow base 9 1 v xs.length (xs.map Value.string)) (h : w.cell? ⟨g, 0, none⟩ = some (.string x)) (hn : xs.length ≤ 4294967296) (hb : base ≤ w.heap.size)
    (hk : ∀ v' w', w'.ownsRow base 9 1 v' (xs ++ [x]).length ((xs ++ [x]).map Value.string) → w.grownBy w' v.ownBlock → wpList Tryz.prog ops Q rest (a.put o.dst v') w') : wpList Tryz.prog ops Q (o :: rest) a w := by
  refine wpList_plain hgd fun K hK => ?_
  obtain ⟨v', w', hr, h2, h3⟩ := app_name w base o.type v xs x g hown h hn hb
  unfold Oper.wp execOp
  simp only [ho, resolve, invoke, builtin, Sem.run_bind, Sem.run_pure, Result.andThen_ok, List.map_toArray, List.map_cons, List.map_nil, hs, hx, hr]
  exact hK _ _ (hk v' w' h2 h3)
theorem held_name {md : Region.Mode} {ops : Array Oper} {Q : Exit → Act → World → Prop} {C : World → Prop} {F : Nat} {listed : Array Bool} {a : Act} {w : World} {o : Oper} {s y : Operand} (k d : Nat) (base : Nat) (v : Value) (xs : List ByteArray) (x : ByteArray) (g : Nat) (hr : Region.ready md ops listed = [k]) (hF : decide (0 < F) = true) (ho : ops[k]? = some o)
    (hop : o.op = .call { callee := .builtin .append, args := #[s, y], argTypes := #[24, 24] }) (hw : Region.wanted o (yielded ops a.tmps) = true) (hd : o.dst = some d) (hs : a.eval s = v) (hx : a.eval y = .slice (some ⟨g, 0, none⟩) 1 1)
    (hown : w.ownsRow base 9 1 v xs.length (xs.map Value.string)) (h : w.cell? ⟨g, 0, none⟩ = some (.string x)) (hn : xs.length ≤ 4294967296) (hb : base ≤ w.heap.size)
    (hk : ∀ v' w', w'.ownsRow base 9 1 v' (xs ++ [x]).length ((xs ++ [x]).map Value.string) → w.grownBy w' v.ownBlock → C w' ∧ wpAnyH Tryz.prog md ops Q (fun w' => ∃ x : CW C, w' = x.w) (F - 1) (listed.setIfInBounds k true) (a.put (some d) v') w') :
    wpAnyH Tryz.prog md ops Q (fun w' => ∃ x : CW C, w' = x.w) F listed a w := by
  refine held_op k hr hF ho (fun K hK => ?_)
  rw [if_pos hw]
  obtain ⟨v', w', hr, h2, h3⟩ := app_name w base o.type v xs x g hown h hn hb
  unfold Oper.wp execOp
  simp only [hop, resolve, invoke, builtin, Sem.run_bind, Sem.run_pure, Result.andThen_ok, List.map_toArray, List.map_cons, List.map_nil, hs, hx, hr]
  obtain ⟨hc, hn⟩ := hk v' w' h2 h3
  show K (a.put o.dst v') w'
  rw [hd]
  exact hK.out _ _ hc hn
/-- A row of its own, read. -/
theorem ownsRow_txts {W : World} {N : Nat} {v : Value} {xs : List ByteArray} (h : W.ownsRow N 9 1 v xs.length (xs.map Value.string)) : ∃ a cap, v = .slice a xs.length cap ∧ TxtsAt W a xs ∧ (a = none → cap = 0) ∧ ∀ b o, a = some ⟨b, o, none⟩ → o = 0 ∧ N ≤ b ∧ b < W.heap.size := by
  rcases h.2 with ⟨rfl, h0⟩ | ⟨g, cap, cur, rfl, hg, hh, hc, hm, hsz, hcur⟩
  · exact ⟨none, 0, by rw [h0], .inl (List.length_eq_zero_iff.1 h0), fun _ => rfl, fun b o e => by cases e⟩
  · refine ⟨_, cap, rfl, .inr ⟨g, 0, rfl, (Array.getElem?_eq_some_iff.1 hh).1, fun i x hi => ?_⟩, (fun e => by cases e), fun b o e => by cases e; exact ⟨rfl, hg, (Array.getElem?_eq_some_iff.1 hh).1⟩⟩
    have hl : i < xs.length := (List.getElem?_eq_some_iff.1 hi).1
    have hx : cur[i]? = some (.string x) := by
      rw [← Array.getElem?_toList, ← List.getElem?_take_of_lt (l := cur.toList) (i := i) (j := xs.length * 1) (by omega), hcur, List.getElem?_map, hi]; rfl
    rw [Nat.zero_add]
    exact cell_arrS hh _ _ hx
theorem ownsRow_none (W : World) (N : Nat) : W.ownsRow N 9 1 (.slice none 0 0) ([] : List ByteArray).length (([] : List ByteArray).map Value.string) := ⟨rfl, .inl ⟨rfl, rfl⟩⟩
theorem ownsRow_lowerS {W : World} {N M e n size : Nat} {v : Value} {xs : List Value} (h : W.ownsRow M e size v n xs) (hN : N ≤ M) : W.ownsRow N e size v n xs := by
  refine ⟨h.1, ?_⟩
  rcases h.2 with h0 | ⟨g, cap, cur, hv, hg, h2⟩
  · exact .inl h0
  · exact .inr ⟨g, cap, cur, hv, Nat.le_trans hN hg, h2⟩
theorem ownsRow_belowS {W W' : World} {N e n size : Nat} {v : Value} {xs : List Value} (h : W.ownsRow N e size v n xs) (hb : Below W.heap.size W W') : W'.ownsRow N e size v n xs := by
  refine ⟨h.1, ?_⟩
  rcases h.2 with h0 | ⟨g, cap, cur, hv, hg, hh, h2⟩
  · exact .inl h0
  · exact .inr ⟨g, cap, cur, hv, hg, (hb.block g (Array.getElem?_eq_some_iff.1 hh).1).trans hh, h2⟩
def twiceB (xs : List ByteArray) : Bool := !decide xs.Nodup
end Go.Proofs.YtoihhlkidlapmaaGreat

/- The way from a walk to a row: what lay below is as it was. -/
namespace Go.Proofs.YtoihhlkidlapmaaGreat
open Go.ChangeShapes Go.WideShapes Go.ChangeAt Go.RowKit

theorem own : ownKnob Tryz.prog.godebug = none := by kernel_rfl
theorem laidOut : laidOutB Tryz.prog = true := by kernel_rfl

theorem post_below {H : Type} {enc : TypeId × Value → H} {P : Program} {f : Func} {s : ChangeSpec} {apart fresh handsOn : Bool} {W W' : World} {args : Array Value} {v : Value} {ds gs : List (DataW H)} {before pa pv : List MemPlace}
    (hW : DataW.Whole enc P f.params.toList s.vars apart W args.toList ds gs before)
    (hres : ∀ (b : Nat) (sp : Nat → Bool) (hd : Bool), DataW.TrodAll enc P W' b sp hd f.resultTypes.toList (v.resultList f.resultTypes.size) (s.fn H (ds ++ gs)).results [])
    (hargs : DataW.TrodAll enc P W' 0 (fun b => decide (b < W.heap.size)) true f.params.toList args.toList (s.fn H (ds ++ gs)).args pa)
    (hvars : DataW.TrodVars enc P W' (fun b => decide (b < W.heap.size)) s.vars (s.fn H (ds ++ gs)).vars pv)
    (hps : before = pa ++ pv) (hB : Below W.heap.size W W') :
    s.post enc P f apart fresh handsOn false W args v W' := by
  refine ⟨ds, gs, before, [], pa, pv, hW, hres _ _ _, hargs, hvars, World.keptBut_mono (fun p hp => ⟨hp, ?_⟩) (hB.frame (· ∈ before)), fun h => by cases h⟩
  rw [hps, List.mem_append] at hp
  exact Or.inr hp
end Go.Proofs.YtoihhlkidlapmaaGreat

/- What data that is handed over holds, by its shape. -/
namespace Go.Proofs.YtoihhlkidlapmaaGreat
open Go.ChangeShapes Go.WideShapes Go.ChangeAt Go.RowKit

def Opens (K : CK) (ty : Nat) : Prop := ∀ (H : Type) (enc : TypeId × Value → H) (W : World) (n : Nat) (cs : List Value) (x : DataW H × List MemPlace), DataW.trod enc Tryz.prog W 0 (fun _ => true) true n ty cs = some x → (∀ y ∈ x.2, y.block < W.heap.size) → ∃ d, K.at_ W cs d ∧ K.big d
theorem opens_txt : Opens txtC 9 := fun H enc W n cs x h _ => by
  obtain ⟨s, e, _, z⟩ := DataW.trod_string (by kernel_rfl) h
  exact ⟨s, e, z⟩
theorem opens_int : Opens intC 3 := fun H enc W n cs x h _ => by
  obtain ⟨k, e, _, hk⟩ := DataW.trod_int (k := .i64) (by kernel_rfl) h
  exact ⟨k, e, show -9223372036854775808 ≤ k ∧ k ≤ 9223372036854775807 by simpa [Lit.wf, IntKind.min, IntKind.max, IntKind.signed, IntKind.bits] using hk⟩
theorem list_ofS {α : Type} {p : Nat → α → Prop} : ∀ n, (∀ i, i < n → ∃ e, p i e) → ∃ es : List α, es.length = n ∧ ∀ (i : Nat) e, es[i]? = some e → p i e
  | 0, _ => ⟨[], rfl, fun i e h => by simp at h⟩
  | n + 1, h => by
    obtain ⟨es, hl, hp⟩ := list_ofS n (fun i hi => h i (by omega))
    obtain ⟨e, he⟩ := h n (by omega)
    refine ⟨es ++ [e], by simp [hl], fun i x hx => ?_⟩
    rcases Nat.lt_or_ge i es.length with hi | hi
    · rw [List.getElem?_append_left hi] at hx; exact hp i x hx
    · rw [List.getElem?_append_right hi] at hx
      have : i - es.length = 0 := by
        rcases Nat.eq_zero_or_pos (i - es.length) with h0 | h0
        · exact h0
        · rw [List.getElem?_eq_none (by simp; omega)] at hx; cases hx
      rw [this] at hx
      simp at hx
      subst hx
      have : i = n := by omega
      rw [this]; exact he
theorem add_plainS (b o n : Nat) : (⟨b, o, none⟩ : Addr).add n = ⟨b, o + n, none⟩ := by simp [Addr.add]
theorem opens_row {K : CK} {ety sty ty : Nat} (hs : Tryz.prog.underlying sty = some (.slice ety)) (hc : Tryz.prog.cellsOf ety = K.n) (hpos : 0 < K.n) (ho : Opens K ety) : Opens (rowC K ty) sty := by
  intro H enc W n cs x h hlt
  rcases Deep.open_slice hs h with ⟨rfl, rfl⟩ | ⟨a, len, cap, m, n', D, Pl, rfl, _, hl, hm, hmm, rfl, hcell⟩
  · exact ⟨[], ⟨_, rfl, none, 0, rfl, fun _ => rfl, Nat.le_refl _, .inl rfl⟩, Nat.zero_le _, fun d hd => by cases hd⟩
  · rw [hc] at hcell hlt
    simp only [if_true] at hmm
    by_cases hl0 : len = 0
    · subst hl0
      exact ⟨[], ⟨_, rfl, some a, cap, rfl, (fun e => by cases e), Nat.zero_le _, .inl rfl⟩, Nat.zero_le _, fun d hd => by cases hd⟩
    · obtain ⟨b, off, spot⟩ := a
      have hspot : spot = none := by
        obtain ⟨cs, h1, _⟩ := hcell 0 (by omega)
        obtain ⟨_, hlen, hc'⟩ := World.cells?_some h1
        have := hc' 0 (by omega)
        rw [List.getElem?_eq_getElem (by omega)] at this
        simpa [Addr.add] using World.cell?_spot this
      subst hspot
      have hbW : b < W.heap.size := hlt (.cell b off) (List.mem_append_left _ (MemPlace.mem_row.2 ⟨0, Nat.mul_pos (by omega) hpos, by simp⟩))
      obtain ⟨es, hes, hall⟩ := list_ofS (p := fun i (e : K.D) => (∃ cs, K.at_ W cs e ∧ ∀ j c, cs[j]? = some c → W.cell? ⟨b, off + i * K.n + j, none⟩ = some c) ∧ K.big e) len (fun i hi => by
        obtain ⟨cs', h1, h2⟩ := hcell i (by omega)
        rw [add_plainS] at h1
        obtain ⟨d, hd1, hd2⟩ := ho H enc W _ cs' _ h2 (fun y hy => hlt y (List.mem_append_right _ (List.mem_flatMap.2 ⟨i, List.mem_range.2 (by omega), hy⟩)))
        obtain ⟨_, hlen, hc'⟩ := World.cells?_some h1
        refine ⟨d, ⟨cs', hd1, fun j c hj => ?_⟩, hd2⟩
        have := hc' j (by have := (List.getElem?_eq_some_iff.1 hj).1; omega)
        rw [hj, add_plainS] at this
        exact this)
      subst hes
      refine ⟨es, ⟨_, rfl, _, cap, rfl, (fun e => by cases e), hl, .inr ⟨b, off, rfl, hbW, fun i e hi => (hall i e hi).1⟩⟩, by omega, fun d hd => ?_⟩
      obtain ⟨i, hi⟩ := List.getElem?_of_mem hd
      exact (hall i d hi).2
set_option maxRecDepth 100000 in
theorem rowv_of {H : Type} {enc : TypeId × Value → H} {K : CK} {ety sty base ty : Nat} {W : World} {v : Value} {d0 : DataW H} {p : List MemPlace} (hs : Tryz.prog.underlying sty = some (.slice ety)) (ho : Opens (rowC K ty) sty) (hv : Value.okWide Tryz.prog W .any base sty v) (h : DataW.Trod enc Tryz.prog W 0 (fun _ => true) true sty v d0 p) (hlt : ∀ x ∈ p, x.block < W.heap.size) :
    ∃ ds, rowAt K W v ds ∧ (ds.length ≤ maxLen ∧ ∀ d ∈ ds, K.big d) := by
  obtain ⟨a0, len, cap, rfl⟩ := okWide_slice hs hv
  obtain ⟨fuel, hf⟩ := h
  obtain ⟨ds, ⟨v', e, h1⟩, h2⟩ := ho H enc W fuel _ _ hf hlt
  have : v' = .slice a0 len cap := by simpa [Value.cells] using e.symm
  subst this
  exact ⟨ds, h1, h2⟩
theorem aggAt.below {K : CK} {W W' : World} {v : Value} {d : K.D} (h : aggAt K W v d) (hb : Below W.heap.size W W') : aggAt K W' v d := by
  obtain ⟨cs, h1, h2⟩ := h
  exact ⟨cs, h1, K.below h2 hb⟩
theorem vfresh {K : Kind} {W W' : World} {v : Value} {d : K.D} {F : List Nat} (h : K.own W v d F) (hb : Below W.heap.size W W') : K.own W' v d F := K.frame h (fun k hk => hb.block k (K.lt h k hk))
theorem vonly {K : Kind} {W W' : World} {v : Value} {d : K.D} {F G : List Nat} (h : K.own W v d F) (ho : Only G W W') (hd : ∀ k ∈ F, k ∉ G) : K.own W' v d F := K.frame h (fun k hk => ho.block k (K.lt h k hk) (hd k hk))
end Go.Proofs.YtoihhlkidlapmaaGreat

/- Rows of hunks: what they hold, the laws' own copies of them, their sizes; two rows of the same hunks are the same. -/
namespace Go.Proofs.YtoihhlkidlapmaaGreat
open Go.RowKit Go.Shelf

structure Hk where
  at_ : Int
  lines : List ByteArray
/-- The two cells of a hunk. -/
def HkAt (W : World) (b o : Nat) (h : Hk) : Prop := ∃ la cap, W.cell? ⟨b, o, .none⟩ = some (.int .i64 h.at_) ∧ W.cell? ⟨b, o + 1, .none⟩ = some (.slice la h.lines.length cap) ∧ TxtsAt W la h.lines
theorem HkAt.below {W W' : World} {b o : Nat} {h : Hk} (x : HkAt W b o h) (hb : Below W.heap.size W W') (hl : b < W.heap.size) : HkAt W' b o h := by
  obtain ⟨la, cap, c0, c1, ht⟩ := x
  exact ⟨la, cap, (hb.cell (p := ⟨b, o, .none⟩) hl).trans c0, (hb.cell (p := ⟨b, o + 1, .none⟩) hl).trans c1, ht.below hb⟩
/-- A row of hunks that is read. -/
def HksAt (W : World) (a : Option Addr) (hs : List Hk) : Prop := hs = [] ∨ ∃ b o, a = some ⟨b, o, .none⟩ ∧ b < W.heap.size ∧ ∀ (i : Nat) h, hs[i]? = some h → HkAt W b (o + i * 2) h
theorem HksAt.below {W W' : World} {a : Option Addr} {hs : List Hk} (h : HksAt W a hs) (hb : Below W.heap.size W W') : HksAt W' a hs := by
  rcases h with h | ⟨b, o, rfl, hl, hc⟩
  · exact .inl h
  · exact .inr ⟨b, o, rfl, Nat.lt_of_lt_of_le hl hb.size, fun i e hi => (hc i e hi).below hb hl⟩
theorem HksAt.get {W : World} {a : Option Addr} {hs : List Hk} (h : HksAt W a hs) (hne : hs ≠ []) : ∃ b o, a = some ⟨b, o, .none⟩ ∧ b < W.heap.size ∧ ∀ (i : Nat) h, hs[i]? = some h → HkAt W b (o + i * 2) h := h.resolve_left hne

/-- Two cells at the head of a block. -/
def TwoAt (W : World) (b : Nat) (x : Int) (v : Value) : Prop := (W.cell? ⟨b, 0, .none⟩ = some (.int .i64 x) ∧ W.frozen? ⟨b, 0, .none⟩ = false) ∧ W.cell? ⟨b, 1, .none⟩ = some v ∧ W.frozen? ⟨b, 1, .none⟩ = false
theorem TwoAt.below {W W' : World} {b B : Nat} {x : Int} {v : Value} (h : TwoAt W b x v) (hb : Below B W W') (hB : b < B) : TwoAt W' b x v :=
  ⟨⟨(hb.cell (p := ⟨b, 0, .none⟩) hB).trans h.1.1, (hb.frozen (p := ⟨b, 0, .none⟩) hB).trans h.1.2⟩, (hb.cell (p := ⟨b, 1, .none⟩) hB).trans h.2.1, (hb.frozen (p := ⟨b, 1, .none⟩) hB).trans h.2.2⟩
theorem TwoAt.far {W : World} {b : Nat} {x : Int} {v : Value} (h : TwoAt W b x v) {q : Addr} (hq : b ≠ q.block) (y : Value) : TwoAt (W.setCell q y) b x v := by
  have hb := Below.heap_setCell W q y b hq
  exact ⟨⟨(World.cell?_of_block (w := W) hb).trans h.1.1, (World.frozen?_of_block (w := W) hb).trans h.1.2⟩, (World.cell?_of_block (w := W) hb).trans h.2.1, (World.frozen?_of_block (w := W) hb).trans h.2.2⟩
end Go.Proofs.YtoihhlkidlapmaaGreat

/- The laws' own copies of hunks; two rows of the same hunks are the same. -/
namespace Go.Proofs.YtoihhlkidlapmaaGreat
open Go.RowKit Go.Shelf

/-- A block that is a row of n hunks. -/
def HkRow (W : World) (g T n : Nat) (f : Nat → Int × Value) : Prop := ∃ cur : Array Value, W.heap[g]? = some (.cells cur T (0, 0)) ∧ cur.size = n * 2 ∧ ∀ i, i < n → cur[i * 2]? = some (.int .i64 (f i).1) ∧ cur[i * 2 + 1]? = some (f i).2
theorem HkRow.lt {W : World} {g T n : Nat} {f : Nat → Int × Value} (x : HkRow W g T n f) : g < W.heap.size := by
  obtain ⟨cur, h1, _⟩ := x; exact (Array.getElem?_eq_some_iff.1 h1).1
theorem HkRow.block {W W' : World} {g T n : Nat} {f : Nat → Int × Value} (x : HkRow W g T n f) (e : W'.heap[g]? = W.heap[g]?) : HkRow W' g T n f := by
  obtain ⟨cur, h1, h2, h3⟩ := x; exact ⟨cur, e.trans h1, h2, h3⟩
theorem HkRow.below {W W' : World} {B g T n : Nat} {f : Nat → Int × Value} (x : HkRow W g T n f) (hb : Below B W W') (hg : g < B) : HkRow W' g T n f := x.block (hb.block g hg)
theorem HkRow.cells {W : World} {g T n : Nat} {f : Nat → Int × Value} (x : HkRow W g T n f) (k : Nat) (hk : k < n) : (W.cell? ⟨g, k * 2, .none⟩ = some (.int .i64 (f k).1) ∧ W.frozen? ⟨g, k * 2, .none⟩ = false) ∧ W.cell? ⟨g, k * 2 + 1, .none⟩ = some (f k).2 ∧ W.frozen? ⟨g, k * 2 + 1, .none⟩ = false := by
  obtain ⟨cur, h1, h2, h3⟩ := x
  obtain ⟨a, b⟩ := h3 k hk
  exact ⟨⟨by simp [World.cell?, h1, a], by simp [World.frozen?, h1]⟩, by simp [World.cell?, h1, b], by simp [World.frozen?, h1]⟩
def updH (f : Nat → Int × Value) (k : Nat) (e : Int × Value) : Nat → Int × Value := fun j => if j = k then e else f j
theorem HkRow.set {W : World} {g T n : Nat} {f : Nat → Int × Value} (x : HkRow W g T n f) (k : Nat) (hk : k < n) (e : Int × Value) :
    HkRow ((W.setCell ⟨g, k * 2, .none⟩ (.int .i64 e.1)).setCell ⟨g, k * 2 + 1, .none⟩ e.2) g T n (updH f k e) := by
  obtain ⟨cur, h1, h2, h3⟩ := x
  refine ⟨(cur.setIfInBounds (k * 2) (.int .i64 e.1)).setIfInBounds (k * 2 + 1) e.2, ?_, by simpa using h2, fun i hi => ?_⟩
  · exact heap_setCell_same _ g _ _ T _ (heap_setCell_same _ g _ _ T _ h1)
  · unfold updH
    simp only [Array.getElem?_setIfInBounds, Array.size_setIfInBounds]
    by_cases e1 : i = k
    · subst e1
      have eu : (if i = i then e else f i) = e := if_pos rfl
      rw [eu]
      refine ⟨?_, ?_⟩
      · rw [if_neg (by omega), if_pos rfl, if_pos (by omega)]
      · rw [if_pos rfl, if_pos (by omega)]
    · rw [if_neg e1]
      obtain ⟨a, b⟩ := h3 i hi
      refine ⟨?_, ?_⟩
      · rw [if_neg (by omega), if_neg (by omega)]; exact a
      · rw [if_neg (by omega), if_neg (by omega)]; exact b
/-- What a copy of the first k hunks is. -/
def HkDone (W : World) (g k : Nat) (hs : List Hk) (f : Nat → Int × Value) : Prop := ∀ (i : Nat) h, i < k → hs[i]? = some h → ∃ la, f i = (h.at_, .slice (some ⟨la, 0, .none⟩) h.lines.length h.lines.length) ∧ g < la ∧ TxtsAt W (some ⟨la, 0, .none⟩) h.lines
theorem HkDone.below {W W' : World} {g k : Nat} {hs : List Hk} {f : Nat → Int × Value} (x : HkDone W g k hs f) (hb : Below W.heap.size W W') : HkDone W' g k hs f := fun i h hi he => by
  obtain ⟨la, h1, h2, h3⟩ := x i h hi he
  exact ⟨la, h1, h2, h3.below hb⟩
theorem HkDone.set {W : World} {g k : Nat} {hs : List Hk} {f : Nat → Int × Value} (x : HkDone W g k hs f) (o : Nat) (v : Value) : HkDone (W.setCell ⟨g, o, .none⟩ v) g k hs f := fun i h hi he => by
  obtain ⟨la, h1, h2, h3⟩ := x i h hi he
  exact ⟨la, h1, h2, h3.block g (fun b o e => by cases e; omega) (by simp) (fun b _ hne => Below.heap_setCell W ⟨g, _, .none⟩ v b (by dsimp only; exact hne))⟩

end Go.Proofs.YtoihhlkidlapmaaGreat

/- Lines of texts and of hunks, by the program and by its model. -/
namespace Go.Proofs.YtoihhlkidlapmaaGreat
open Go.RowKit Go.Shelf



end Go.Proofs.YtoihhlkidlapmaaGreat

/- Rows of texts: whether two are the same, what they begin and end with alike, with signs ahead. -/
namespace Go.Proofs.YtoihhlkidlapmaaGreat
open Go.RowKit Go.Shelf

theorem txt_same (a b : ByteArray) : (a.toList == b.toList) = decide (a = b) := by
  rw [Bool.eq_iff_iff, beq_iff_eq, decide_eq_true_eq]
  refine ⟨fun h => ?_, fun h => by rw [h]⟩
  rw [Lib.toList_data, Lib.toList_data] at h
  exact ByteArray.ext (Array.ext' h)
theorem txt_diff (a b : ByteArray) : (a.toList != b.toList) = !decide (a = b) := by rw [bne, txt_same]
theorem txt_yes {a b : ByteArray} (h : a = b) : (a.toList == b.toList) = true ∧ (a.toList != b.toList) = false := by rw [txt_diff, txt_same, decide_eq_true h]; exact ⟨rfl, rfl⟩


end Go.Proofs.YtoihhlkidlapmaaGreat

/- Rows of texts in memory of their own; what is written over them. -/
namespace Go.Proofs.YtoihhlkidlapmaaGreat
open Go.RowKit Go.Shelf

def TxtOwn (W : World) (v : Value) (xs : List ByteArray) (F : List Nat) : Prop := (xs = [] ∧ F = [] ∧ ∃ a c, v = .slice a 0 c ∧ (a = none → c = 0)) ∨
  ∃ g cap cur, F = [g] ∧ v = .slice (some ⟨g, 0, none⟩) xs.length cap ∧ W.heap[g]? = some (.cells cur 9 (0, 0)) ∧ xs.length ≤ cap ∧ xs.length ≤ cur.size ∧ ∀ (i : Nat) x, xs[i]? = some x → cur[i]? = some (.string x)
theorem TxtOwn.frame {W W' : World} {v : Value} {xs : List ByteArray} {F : List Nat} (h : TxtOwn W v xs F) (hf : ∀ k ∈ F, W'.heap[k]? = W.heap[k]?) : TxtOwn W' v xs F := by
  rcases h with h | ⟨g, cap, cur, rfl, hv, hh, h1, h2, h3⟩
  · exact .inl h
  · exact .inr ⟨g, cap, cur, rfl, hv, (hf g (by simp)).trans hh, h1, h2, h3⟩
theorem TxtOwn.lt {W : World} {v : Value} {xs : List ByteArray} {F : List Nat} (h : TxtOwn W v xs F) : ∀ k ∈ F, k < W.heap.size := by
  rcases h with ⟨_, rfl, _⟩ | ⟨g, cap, cur, rfl, hv, hh, _⟩
  · intro k hk; cases hk
  · intro k hk; rcases List.mem_singleton.1 hk with rfl; exact (Array.getElem?_eq_some_iff.1 hh).1
theorem TxtOwn.at {W : World} {v : Value} {xs : List ByteArray} {F : List Nat} (h : TxtOwn W v xs F) : ∃ a cap, v = .slice a xs.length cap ∧ TxtsAt W a xs ∧ (a = none → cap = 0) ∧ xs.length ≤ cap ∨ v = .slice a 0 cap ∧ xs = [] ∧ (a = none → cap = 0) := by
  rcases h with ⟨rfl, _, a, c, hv, hn⟩ | ⟨g, cap, cur, rfl, hv, hh, h1, h2, h3⟩
  · exact ⟨a, c, .inr ⟨hv, rfl, hn⟩⟩
  · refine ⟨_, cap, .inl ⟨hv, .inr ⟨g, 0, rfl, (Array.getElem?_eq_some_iff.1 hh).1, fun i x hi => ?_⟩, (fun e => by cases e), h1⟩⟩
    have := h3 i x hi
    simp [World.cell?, hh, this]
theorem TxtOwn.read {W : World} {v : Value} {xs : List ByteArray} {F : List Nat} (h : TxtOwn W v xs F) : ∃ a cap, v = .slice a xs.length cap ∧ TxtsAt W a xs ∧ (a = none → cap = 0) := by
  obtain ⟨a, cap, ⟨h1, h2, h3, _⟩ | ⟨h1, rfl, h3⟩⟩ := h.at
  · exact ⟨a, cap, h1, h2, h3⟩
  · exact ⟨a, cap, h1, .inl rfl, h3⟩
theorem TxtOwn.of_owns {W : World} {N n : Nat} {v : Value} {xs : List ByteArray} (h : W.ownsRow N 9 1 v n (xs.map Value.string)) : TxtOwn W v xs v.ownBlock.toList ∧ ∀ k ∈ v.ownBlock.toList, N ≤ k ∧ k < W.heap.size := by
  have hn : n = xs.length := by have := h.1; simpa using this.symm
  subst hn
  rcases h.2 with ⟨rfl, h0⟩ | ⟨g, cap, cur, rfl, hg, hh, hc, hm, hsz, hcur⟩
  · exact ⟨.inl ⟨List.length_eq_zero_iff.1 h0, rfl, none, 0, rfl, fun _ => rfl⟩, fun k hk => by cases hk⟩
  · refine ⟨.inr ⟨g, cap, cur, rfl, rfl, hh, hc, by omega, fun i x hi => ?_⟩, fun k hk => ?_⟩
    · have hl : i < xs.length := (List.getElem?_eq_some_iff.1 hi).1
      rw [← Array.getElem?_toList, ← List.getElem?_take_of_lt (l := cur.toList) (i := i) (j := xs.length * 1) (by omega), hcur, List.getElem?_map, hi]; rfl
    · rcases List.mem_singleton.1 hk with rfl
      exact ⟨hg, (Array.getElem?_eq_some_iff.1 hh).1⟩
theorem TxtOwn.of_row {W : World} {g n : Nat} {xs : List ByteArray} (h : TxtRow W g 9 n (txtFn xs)) (hn : xs.length = n) : TxtOwn W (.slice (some ⟨g, 0, none⟩) n n) xs [g] := by
  obtain ⟨cur, h1, h2, h3⟩ := h
  subst hn
  refine .inr ⟨g, xs.length, cur, rfl, rfl, h1, Nat.le_refl _, by omega, fun i x hi => ?_⟩
  rw [h3 i (List.getElem?_eq_some_iff.1 hi).1, txtFn_get hi]
def mtexts (q n : Nat) : List ByteArray := (List.range n).map fun i => mtext (q + i)
theorem mtexts_len (q n : Nat) : (mtexts q n).length = n := by simp [mtexts]
theorem mtexts_get {q n i : Nat} (h : i < n) : (mtexts q n)[i]? = some (mtext (q + i)) := by simp [mtexts, h]

set_option maxRecDepth 100000 in
set_option maxHeartbeats 2000000 in
theorem markStringS_big (xs : List ByteArray) (v : Value) (F : List Nat) (q : Nat) (w : World) (hn : xs.length ≤ 20000000) (hq : 0 < q) (hq2 : q ≤ 20000000) (h : TxtOwn w v xs F) :
    Calls Tryz.prog 30 #[v, .int .i64 (q : Int)] w fun x w' => x = .returned (.int .i64 ((q + xs.length : Nat) : Int)) ∧ TxtOwn w' v (mtexts q xs.length) F ∧ Only F w w' := by
  rcases h with ⟨rfl, rfl, a, c, rfl, hnil⟩ | ⟨g, cap, cur, rfl, rfl, hh, h1, h2, h3⟩
  · go_enter Tryz.func30, Tryz.ntmps30
    go_wp2_with fail
    go_loopw [1, 5] (fun c i wr => i = .int .i64 0 ∧ c = .int .i64 (q : Int) ∧ wr = w) (fun _ i _ => 0)
    case atStart => exact ⟨rfl, rfl, rfl⟩
    case round =>
      obtain ⟨rfl, rfl, rfl⟩ := hrel
      go_wp2_with fail
      go_ret
      exact ⟨ret_int (by simp), .inl ⟨by simp [mtexts], rfl, a, c, rfl, hnil⟩, Only.refl _ _⟩
  · have HH := hid (And.intro hh (And.intro h2 h3))
    clear hh h2 h3
    go_enter Tryz.func30, Tryz.ntmps30
    go_wp2_with fail
    go_loopw [1, 5] (fun c i wr => ∃ k : Nat, k ≤ xs.length ∧ i = .int .i64 (k : Int) ∧ c = .int .i64 ((q + k : Nat) : Int) ∧ Hid (∃ cur2 : Array Value, wr.heap[g]? = some (.cells cur2 9 (0, 0)) ∧ xs.length ≤ cur2.size ∧ ∀ i, i < k → cur2[i]? = some (.string (mtext (q + i)))) ∧ Hid (Only [g] w wr)) (fun _ i _ => xs.length - (intOf i).toNat)
    case atStart => exact ⟨0, Nat.zero_le _, rfl, by go_num, hid ⟨cur, (unhid HH).1, (unhid HH).2.1, fun i hi => absurd hi (Nat.not_lt_zero _)⟩, hid (Only.refl _ _)⟩
    case round =>
      obtain ⟨k, hk, rfl, rfl, HC, HO⟩ := hrel
      by_cases hlt : k < xs.length
      · go_wp2_with fail
        refine (markText_at _ (q + k) wr (by omega) (by omega) (by omega)).mono ?_
        rintro x w2 ⟨rfl, hb⟩
        obtain ⟨cur2, e1, e2, e3⟩ := unhid HC
        have hgl := (Array.getElem?_eq_some_iff.1 e1).1
        have e4 := (hb.block g hgl).trans e1
        obtain ⟨y, hy⟩ : ∃ y, cur2[k]? = some y := ⟨cur2[k], Array.getElem?_eq_getElem (by omega)⟩
        have c0 : w2.cell? ⟨g, k, none⟩ = some y := by simp [World.cell?, e4, hy]
        have f0 : w2.frozen? ⟨g, k, none⟩ = false := by simp [World.frozen?, e4]
        have HN := hid (heap_setCell_same w2 g k cur2 9 (.string (mtext (q + k))) e4)
        have HO2 := hid (((unhid HO).trans (Only.ofBelow hb)).setCell (p := ⟨g, k, none⟩) (by simp) (.string (mtext (q + k))))
        have HE := hid (And.intro e2 e3)
        clear hb e1 e2 e3 e4 hy hgl HC HO
        go_wp2_with fail
        go_roundw
        case rel =>
          refine ⟨k + 1, by omega, by go_num, by go_num, hid ⟨_, unhid HN, by simpa using (unhid HE).1, fun i hi => ?_⟩, HO2⟩
          simp only [Array.getElem?_setIfInBounds]
          have := (unhid HE).1
          by_cases ei : i = k
          · subst ei; rw [if_pos rfl, if_pos (by omega)]
          · rw [if_neg (by omega)]; exact (unhid HE).2 i (by omega)
        case measure => simp [intOf]; omega
      · have e : k = xs.length := by omega
        subst e
        go_wp2_with fail
        go_ret
        refine ⟨ret_int (by go_num), ?_, unhid HO⟩
        obtain ⟨cur2, e1, e2, e3⟩ := unhid HC
        refine .inr ⟨g, cap, cur2, rfl, by rw [mtexts_len], e1, by rw [mtexts_len]; exact h1, by rw [mtexts_len]; exact e2, fun i x hi => ?_⟩
        have hl : i < xs.length := by have := (List.getElem?_eq_some_iff.1 hi).1; rwa [mtexts_len] at this
        rw [mtexts_get hl] at hi
        cases hi
        exact e3 i hl

set_option maxRecDepth 100000 in
set_option maxHeartbeats 2000000 in
theorem heldStringS_big (n : Nat) (a : Option Addr) (cap q : Nat) (w : World) (hn : n ≤ 20000000) (hq : 0 < q) (hq2 : q ≤ 20000000) (h : TxtsAt w a (mtexts q n)) :
    Calls Tryz.prog 31 #[.slice a n cap, .int .i64 (q : Int)] w fun x w' => x = .returned (.int .i64 ((q + n : Nat) : Int)) ∧ Below w.heap.size w w' := by
  go_enter Tryz.func31, Tryz.ntmps31
  go_wp2_with fail
  go_loopw [1, 5] (fun c i wr => ∃ k : Nat, k ≤ n ∧ i = .int .i64 (k : Int) ∧ c = .int .i64 ((q + k : Nat) : Int) ∧ Below w.heap.size w wr) (fun _ i _ => n - (intOf i).toNat)
  case atStart => exact ⟨0, Nat.zero_le _, rfl, by go_num, Below.refl _ _⟩
  case round =>
    obtain ⟨k, hk, rfl, rfl, hB⟩ := hrel
    by_cases hlt : k < n
    · have he := mtexts_get (q := q) hlt
      obtain ⟨b, o, rfl, hbl, hc⟩ := h.get (by intro e; rw [e] at he; cases he)
      have c0 := (hB.cell (p := ⟨b, o + k, none⟩) hbl).trans (hc k _ he)
      have HH := hid (And.intro hc hB)
      have hbw : b < wr.heap.size := Nat.lt_of_lt_of_le hbl hB.size
      obtain ⟨q1, q2⟩ := txt_yes (show mtext (q + k) = mtext (q + k) from rfl)
      have g0 := BW.cell (B := wr.heap.size) hbw c0
      clear hc hB he h c0
      go_wp2_with fail
      have hba := @BW.all wr.heap.size wr
      refine calm_region wr.heap.size (by kernel_rfl) (by kernel_rfl) ?_
      repeat (go_big_quiet_step ((go_at_call 74; exact Calls.bw (v := .string (mtext (q + k))) (Nat.le_refl _) (markText_at _ (q + k) _ (by omega) (by omega) (by omega)))))
      refine wpQuiet_nil ?_
      intro w4 hw
      obtain ⟨x, hx⟩ := hw
      have hB4 : Below wr.heap.size wr w4 := by rw [hx]; exact x.h
      have HB4 := hid ((unhid HH).2.trans (hB4.mono (unhid HH).2.size))
      clear hx x g0 hba hB4 HH
      go_wp2_with fail
      go_roundw
      case rel => exact ⟨k + 1, by omega, by go_num, by go_num, unhid HB4⟩
      case measure => simp [intOf]; omega
    · have e : k = n := by omega
      subst e
      go_wp2_with fail
      go_ret
      exact ⟨ret_int (by go_num), hB⟩

end Go.Proofs.YtoihhlkidlapmaaGreat

/- Rows of texts, in the form of shapes: what the laws' own functions of them do. -/
namespace Go.Proofs.YtoihhlkidlapmaaGreat
open Go.ChangeShapes Go.WideShapes Go.ChangeAt Go.RowKit Go.Shelf

theorem szR_txt : ∀ xs : List ByteArray, szR txtC xs = totX xs
  | [] => rfl
  | x :: xs => by
    show x.size + szR txtC xs = _
    rw [szR_txt xs]
    unfold totX
    rw [List.map_cons, List.sum_cons]
theorem cntR_txt : ∀ xs : List ByteArray, cntR txtC xs = xs.length
  | [] => rfl
  | x :: xs => by
    show 1 + cntR txtC xs = _
    rw [cntR_txt xs, List.length_cons]; omega
theorem markR_txt : ∀ (q : Nat) (xs : List ByteArray), markR txtC q xs = mtexts q xs.length
  | _, [] => rfl
  | q, x :: xs => by
    show mtext q :: markR txtC (q + 1) xs = _
    rw [markR_txt (q + 1) xs, List.length_cons]
    unfold mtexts
    rw [List.range_succ_eq_map, List.map_cons, List.map_map, Nat.add_zero]
    congr 1
    apply List.map_congr_left
    intro i _
    show mtext (q + 1 + i) = mtext (q + (i + 1))
    congr 1; omega
theorem sz_int (xs : List ByteArray) : ((szR txtC xs : Nat) : Int) = ((totX xs : Nat) : Int) := congrArg (fun n : Nat => (n : Int)) (szR_txt xs)
theorem rowAt_txts {W : World} {v : Value} {xs : List ByteArray} (h : rowAt txtC W v xs) : ∃ (a : Option Addr) (cap : Nat), v = .slice a xs.length cap ∧ TxtsAt W a xs ∧ (a = none → cap = 0) ∧ xs.length ≤ cap := by
  obtain ⟨a, cap, rfl, hn, hc, h⟩ := h
  refine ⟨a, cap, rfl, ?_, hn, hc⟩
  rcases h with h | ⟨b, o, rfl, hb, hall⟩
  · exact .inl h
  · refine .inr ⟨b, o, rfl, hb, fun i x hi => ?_⟩
    obtain ⟨cs, hcs, hcell⟩ := hall i x hi
    have e : cs = [.string x] := hcs
    subst e
    have := hcell 0 _ rfl
    rwa [show o + i * txtC.n + 0 = o + i from by show o + i * 1 + 0 = _; omega] at this
theorem flat_nils : ∀ Fs : List (List Nat), (∀ F ∈ Fs, F = []) → Fs.flatten = []
  | [], _ => rfl
  | F :: Fs, h => by rw [List.flatten_cons, h F (by simp), flat_nils Fs (fun G hG => h G (List.mem_cons_of_mem _ hG))]; rfl
theorem txt_of_own {W : World} {v : Value} {xs : List ByteArray} {F : List Nat} (h : rowOwn txtC 9 W v xs F) : TxtOwn W v xs F := by
  rcases h with h | ⟨g, cap, cur, Fs, hv, hc, rfl, hnd, hA⟩
  · exact .inl h
  · have hF : Fs.flatten = [] := flat_nils Fs (fun G hG => by
      obtain ⟨i, hi⟩ := List.getElem?_of_mem hG
      have hl : i < xs.length := by have h1 : Fs.length = List.length (α := ByteArray) xs := hA.len; rw [← h1]; exact (List.getElem?_eq_some_iff.1 hi).1
      obtain ⟨cs, Fi, h1, _, h3⟩ := hA.each i xs[i] (List.getElem?_eq_getElem hl)
      rw [hi] at h1
      cases h1
      exact h3.2)
    refine .inr ⟨g, cap, cur, by rw [hF], hv, hA.heap, hc, by have h : List.length (α := ByteArray) xs * 1 ≤ cur.size := hA.size; omega, fun i x hi => ?_⟩
    obtain ⟨cs, Fi, _, h2, h3⟩ := hA.each i x hi
    have e : cs = [.string x] := h3.1
    subst e
    have := h2 0 _ rfl
    rwa [show i * txtC.n + 0 = i from by show i * 1 + 0 = _; omega] at this
theorem own_of_txt {W : World} {v : Value} {xs : List ByteArray} {F : List Nat} (h : TxtOwn W v xs F) : rowOwn txtC 9 W v xs F := by
  rcases h with h | ⟨g, cap, cur, rfl, hv, hh, h1, h2, h3⟩
  · exact .inl h
  · have hF : (List.replicate xs.length ([] : List Nat)).flatten = [] := flat_nils _ (fun G hG => (List.mem_replicate.1 hG).2)
    refine .inr ⟨g, cap, cur, List.replicate xs.length [], hv, h1, by rw [hF], by simp, ⟨hh, show List.length (α := ByteArray) xs * 1 ≤ cur.size by omega, List.length_replicate, fun i x hi => ⟨[.string x], [], ?_, fun j c hj => ?_, rfl, rfl⟩⟩⟩
    · rw [List.getElem?_replicate]; exact if_pos (List.getElem?_eq_some_iff.1 hi).1
    · cases j with
      | succ j => cases j <;> cases hj
      | zero =>
        cases hj
        rw [show i * txtC.n + 0 = i from by show i * 1 + 0 = _; omega]
        exact h3 i x hi
theorem own_mark {W : World} {v : Value} {q : Nat} {xs : List ByteArray} {F : List Nat} (h : TxtOwn W v (mtexts q xs.length) F) : rowOwn txtC 9 W v (markR txtC q xs) F := by
  have e := markR_txt q xs
  have h2 := own_of_txt h
  rw [← e] at h2
  exact h2
theorem mark_own {W : World} {v : Value} {q : Nat} {xs : List ByteArray} {F : List Nat} (h : rowOwn txtC 9 W v (markR txtC q xs) F) : TxtOwn W v (mtexts q xs.length) F := by
  have h2 := txt_of_own h
  have e := markR_txt q xs
  rw [e] at h2
  exact h2
/-- A row that the call owns, as it is read. -/
theorem ownsRow_at {W : World} {N n : Nat} {v : Value} {xs : List ByteArray} (h : W.ownsRow N 9 1 v n (xs.map Value.string)) : rowAt txtC W v xs := by
  obtain ⟨h1, _⟩ := TxtOwn.of_owns h
  exact (own_of_txt h1).toAt
theorem ownsRow_own {W : World} {N n : Nat} {v : Value} {xs : List ByteArray} (h : W.ownsRow N 9 1 v n (xs.map Value.string)) : ∃ F, rowOwn txtC 9 W v xs F ∧ ∀ k ∈ F, N ≤ k ∧ k < W.heap.size := by
  obtain ⟨h1, h2⟩ := TxtOwn.of_owns h
  exact ⟨_, own_of_txt h1, h2⟩
theorem cnt_strings (xs : List ByteArray) : cntR txtC xs ≤ 8 * (xs.length + szR txtC xs) := by rw [cntR_txt]; omega
theorem cntStringS (ds : List txtC.D) : cntR txtC ds ≤ 8 * (ds.length + szR txtC ds) := cnt_strings ds
set_option maxRecDepth 100000 in
theorem vszStringS_v (ds : List txtC.D) (V : Value) (left : Int) (w : World) (hb : ds.length ≤ maxLen ∧ ∀ d ∈ ds, txtC.big d) (hl : 0 ≤ left) (hl2 : left ≤ 1048576) (h : rowAt txtC w V ds) : Calls Tryz.prog 24 #[V, .int .i64 left] w fun x w' => (∃ r : Int, x = .returned (.int .i64 r) ∧ r ≤ left ∧ (r < 0 ∨ r + (ds.length + szR txtC ds) = left)) ∧ Below w.heap.size w w' := by
  obtain ⟨a, cap, rfl, ht, -, -⟩ := rowAt_txts h
  refine (szStringS_any ds a cap left w hb.2 hb.1 hl hl2 ht).mono ?_
  rintro x w' ⟨⟨r, rfl, h1, h2⟩, rfl⟩
  have e := sz_int ds
  refine ⟨⟨r, rfl, h1, h2.imp id (fun h2 => ?_)⟩, Below.refl _ _⟩
  have h3 : r + (List.length (α := ByteArray) ds : Int) + ((totX ds : Nat) : Int) = left := h2
  show r + ((List.length (α := ByteArray) ds : Int) + ((szR txtC ds : Nat) : Int)) = left
  omega
set_option maxRecDepth 100000 in
theorem vtoStringS_v (ds : List txtC.D) (V : Value) (w : World) (hs : ds.length + szR txtC ds ≤ 1048576) (h : rowAt txtC w V ds) : Calls Tryz.prog 26 #[V] w fun x w' => ∃ (v : Value) (F : List Nat), x = .returned v ∧ (rowK txtC 9).own w' v ds F ∧ (∀ k ∈ F, w.heap.size ≤ k ∧ k < w'.heap.size) ∧ Below w.heap.size w w' := by
  obtain ⟨a, cap, rfl, ht, -, -⟩ := rowAt_txts h
  refine (toStringS_any ds a cap w (by have e : List.length (α := ByteArray) ds + szR txtC ds ≤ 1048576 := hs; omega) ht).mono ?_
  rintro x w' ⟨g, h1, h2, h3, h4⟩
  exact ⟨_, [g], h1, own_of_txt (TxtOwn.of_row h3 rfl), fun k hk => (by rcases List.mem_singleton.1 hk with rfl; exact ⟨h2, h3.lt⟩), h4⟩
set_option maxRecDepth 100000 in
theorem veqStringS_v (ds : List txtC.D) (v v' : Value) (F F' : List Nat) (w : World) (hb : ds.length ≤ maxLen ∧ ∀ d ∈ ds, txtC.big d) (h : (rowK txtC 9).own w v ds F) (h' : (rowK txtC 9).own w v' ds F') : Calls Tryz.prog 27 #[v, v'] w fun x w' => x = .returned (.bool true) ∧ Below w.heap.size w w' := by
  obtain ⟨a, cap, rfl, h1, _⟩ := TxtOwn.read (txt_of_own h)
  obtain ⟨a', cap', rfl, h2, _⟩ := TxtOwn.read (txt_of_own h')
  exact eqStringS_same ds a a' cap cap' w hb.1 h1 h2
set_option maxRecDepth 100000 in
theorem vmarkStringS_v (ds : List txtC.D) (v : Value) (F : List Nat) (q : Nat) (c : Int) (hcq : c = (q : Int)) (w : World) (hq : 0 < q) (hq2 : q + cntR txtC ds ≤ 20000000) (h : (rowK txtC 9).own w v ds F) : Calls Tryz.prog 30 #[v, .int .i64 c] w fun x w' => (∃ r : Int, x = .returned (.int .i64 r) ∧ r ≤ ((q + cntR txtC ds : Nat) : Int) ∧ ((q + cntR txtC ds : Nat) : Int) ≤ r) ∧ (rowK txtC 9).own w' v (markR txtC q ds) F ∧ Only F w w' := by
  subst hcq
  have e := cntR_txt ds
  refine (markStringS_big ds v F q w (by omega) hq (by omega) (txt_of_own h)).mono ?_
  rintro x w' ⟨rfl, h1, h2⟩
  exact ⟨⟨_, rfl, by rw [e]; exact Int.le_refl _, by rw [e]; exact Int.le_refl _⟩, own_mark h1, h2⟩
set_option maxRecDepth 100000 in
theorem vheldStringS_v (ds : List txtC.D) (v : Value) (F : List Nat) (q : Nat) (c : Int) (hcq : c = (q : Int)) (w : World) (hq : 0 < q) (hq2 : q + cntR txtC ds ≤ 20000000) (h : (rowK txtC 9).own w v (markR txtC q ds) F) : Calls Tryz.prog 31 #[v, .int .i64 c] w fun x w' => (∃ r : Int, x = .returned (.int .i64 r) ∧ r ≤ ((q + cntR txtC ds : Nat) : Int) ∧ ((q + cntR txtC ds : Nat) : Int) ≤ r) ∧ Below w.heap.size w w' := by
  subst hcq
  have e := cntR_txt ds
  obtain ⟨a, cap, hv, h1, _⟩ := TxtOwn.read (mark_own h)
  rw [mtexts_len] at hv
  subst hv
  refine (heldStringS_big _ a cap q w (by omega) hq (by omega) h1).mono ?_
  rintro x w' ⟨rfl, h2⟩
  exact ⟨⟨_, rfl, by rw [e]; exact Int.le_refl _, by rw [e]; exact Int.le_refl _⟩, h2⟩
set_option maxRecDepth 100000 in
theorem string_ofS {H : Type} {enc : TypeId × Value → H} {base : Nat} {W : World} {v : Value} {d0 : DataW H} {p : List MemPlace} (hv : Value.okWide Tryz.prog W .any base 24 v) (h : DataW.Trod enc Tryz.prog W 0 (fun _ => true) true 24 v d0 p) (hlt : ∀ x ∈ p, x.block < W.heap.size) : ∃ ds, rowAt txtC W v ds ∧ (ds.length ≤ maxLen ∧ ∀ d ∈ ds, txtC.big d) := rowv_of (ty := 9) Tryz.underlying24 (opens_row Tryz.underlying24 (by kernel_rfl) (by decide) opens_txt) hv h hlt
end Go.Proofs.YtoihhlkidlapmaaGreat

/- Rows of texts: one appended to another, in the form of shapes. -/
namespace Go.Proofs.YtoihhlkidlapmaaGreat
open Go.RowKit Go.Shelf

theorem txts_one (xs : List ByteArray) : ∀ u ∈ xs.map Value.string, u.oneCell' = true := fun u hu => by
  obtain ⟨x, _, rfl⟩ := List.mem_map.1 hu; rfl
theorem app_row (w : World) (base ty : Nat) (v : Value) (xs ys : List ByteArray) (V : Value) (hown : w.ownsRow base 9 1 v xs.length (xs.map Value.string)) (h : rowAt txtC w V ys) (hn : xs.length + ys.length ≤ 4294967296) (hb : base ≤ w.heap.size) :
    ∃ v' w', (Builtin.append_ #[24, 24] ty #[v, V]).run Tryz.prog w = .ok v' w' ∧ w'.ownsRow base 9 1 v' (xs ++ ys).length ((xs ++ ys).map Value.string) ∧ w.grownBy w' v.ownBlock := by
  obtain ⟨i0, hi, hz0, hz1, hz2⟩ := info_parts infoStr
  have hle : (xs ++ ys).length = xs.length + ys.length := List.length_append
  obtain ⟨a, c, rfl, h, ha, -⟩ := rowAt_txts h
  cases a with
  | none =>
    have h0 : ys = [] := by rcases h with h | ⟨b, o, hh, _⟩; exact h; cases hh
    subst h0
    obtain rfl := ha rfl
    exact ⟨v, w, run_append_owned_none (P := Tryz.prog) w base 24 ty 9 i0 1 Tryz.underlying24 hi v xs.length _ hown, by simpa using hown, rfl, rfl, rfl, Nat.le_refl _, fun _ _ _ => rfl⟩
  | some ad =>
    obtain ⟨v', w', hr, h2, h3, _, h5⟩ := run_append_own_at (P := Tryz.prog) w base 24 ty 9 i0 (.string ⟨#[]⟩) 1 16 Tryz.underlying24 hi hz0 hz1 hz2 rfl (by decide) v xs.length _ hown ad ys.length c (ys.map Value.string) (by simp) (by
      intro j u hj
      rw [List.getElem?_map] at hj
      cases hy : ys[j]? with
      | none => rw [hy] at hj; cases hj
      | some y =>
        rw [hy] at hj
        cases hj
        obtain ⟨b, o, e, _, hc⟩ := h.get (by intro e; subst e; simp at hy)
        cases e
        rw [add_plainS]
        exact hc j y hy) (txts_one _) (by unfold maxLen; omega) (by omega) hb
    exact ⟨v', w', hr, by rw [hle, List.map_append]; exact h2, h3⟩
theorem wp_row {ops : Array Oper} {rest : List Oper} {o : Oper} {a : Act} {w : World} {Q : Exit → Act → World → Prop} (hgd : o.guard = none) (s x : Operand) (ho : o.op = .call { callee := .builtin .append, args := #[s, x], argTypes := #[24, 24] })
    (base : Nat) (v : Value) (xs ys : List ByteArray) (V : Value) (hs : a.eval s = v) (hx : a.eval x = V) (hown : w.ownsRow base 9 1 v xs.length (xs.map Value.string)) (h : rowAt txtC w V ys) (hn : xs.length + ys.length ≤ 4294967296) (hb : base ≤ w.heap.size)
    (hk : ∀ v' w', w'.ownsRow base 9 1 v' (xs ++ ys).length ((xs ++ ys).map Value.string) → w.grownBy w' v.ownBlock → wpList Tryz.prog ops Q rest (a.put o.dst v') w') : wpList Tryz.prog ops Q (o :: rest) a w := by
  refine wpList_plain hgd fun K hK => ?_
  obtain ⟨v', w', hr, h2, h3⟩ := app_row w base o.type v xs ys V hown h hn hb
  unfold Oper.wp execOp
  simp only [ho, resolve, invoke, builtin, Sem.run_bind, Sem.run_pure, Result.andThen_ok, List.map_toArray, List.map_cons, List.map_nil, hs, hx, hr]
  exact hK _ _ (hk v' w' h2 h3)
theorem ownsRow_made0 (w : World) : (w.alloc (.cells #[] 9)).ownsRow w.heap.size 9 1 (.slice (some ⟨w.heap.size, 0, none⟩) 0 0) ([] : List ByteArray).length (([] : List ByteArray).map Value.string) :=
  ⟨rfl, .inr ⟨w.heap.size, 0, #[], rfl, Nat.le_refl _, World.alloc_heap_new _ _, Nat.le_refl _, by simp [maxLen], rfl, rfl⟩⟩
end Go.Proofs.YtoihhlkidlapmaaGreat

/- Whether a text comes twice: by the model. -/
namespace Go.Proofs.YtoihhlkidlapmaaGreat
open Go.RowKit Go.Shelf

theorem txt_iff (x y : ByteArray) : (x.toList == y.toList) = decide (x = y) := by
  by_cases h : x = y
  · subst h; simp
  · rw [decide_eq_false h]
    rw [beq_eq_false_iff_ne]
    intro e
    apply h
    apply ByteArray.ext
    apply Array.ext'
    rw [← Lib.toList_data, ← Lib.toList_data]; exact e
theorem nodup_snoc {α : Type} {xs : List α} {x : α} (h : xs.Nodup) (hx : x ∉ xs) : (xs ++ [x]).Nodup := by
  rw [List.nodup_append]
  exact ⟨h, by simp, fun a ha b hb e => by rw [List.mem_singleton.1 hb] at e; exact hx (e ▸ ha)⟩
theorem twiceB_true {xs : List ByteArray} {k i : Nat} {x : ByteArray} (hk : xs[k]? = some x) (hi : xs[i]? = some x) (h : k < i) : twiceB xs = true := by
  unfold twiceB
  rw [decide_eq_false]
  · rfl
  · intro hn
    obtain ⟨l1, e1⟩ := List.getElem?_eq_some_iff.1 hk
    obtain ⟨l2, e2⟩ := List.getElem?_eq_some_iff.1 hi
    have := (List.pairwise_iff_getElem.1 hn) k i l1 l2 h
    exact this (e1.trans e2.symm)

set_option maxRecDepth 100000 in
set_option maxHeartbeats 4000000 in
theorem l4Twice_any (xs : List ByteArray) (a : Option Addr) (cap : Nat) (w : World) (hl : xs.length ≤ maxLen) (h : TxtsAt w a xs) :
    Calls Tryz.prog 123 #[.slice a xs.length cap] w fun x w' => x = .returned (.bool (twiceB xs)) ∧ Below w.heap.size w w' := by
  have hlen : xs.length ≤ 9223372036854775807 := hl
  have H := hid h
  clear h hl
  go_enter Tryz.func123, Tryz.ntmps123
  go_wp2_with fail
  go_loopw [3] (fun i wr => ∃ k : Nat, k ≤ xs.length ∧ i = .int .i64 (k : Int) ∧ Hid ((xs.take k).Nodup) ∧ Hid (Below w.heap.size w wr)) (fun i _ => xs.length - (intOf i).toNat)
  case atStart => exact ⟨0, Nat.zero_le _, rfl, hid (by simp), hid (Below.refl _ _)⟩
  case round =>
    obtain ⟨i, hi, rfl, HN, HB⟩ := hrel
    by_cases hlt : i < xs.length
    · obtain ⟨y, hy⟩ : ∃ y, xs[i]? = some y := ⟨xs[i], List.getElem?_eq_getElem hlt⟩
      have HY := hid hy
      clear hy
      go_wp2_with fail
      go_loopw [4] (fun j wq => ∃ k : Nat, k ≤ i ∧ j = .int .i64 (k : Int) ∧ Hid (y ∉ xs.take k) ∧ Hid (Below w.heap.size w wq)) (fun j _ => i - (intOf j).toNat)
      case atStart => exact ⟨0, Nat.zero_le _, rfl, hid (by simp), HB⟩
      case round =>
        clear HB
        obtain ⟨k, hk, rfl, HX, HB⟩ := hrel
        by_cases hlt2 : k < i
        · obtain ⟨x, hx⟩ : ∃ x, xs[k]? = some x := ⟨xs[k], List.getElem?_eq_getElem (by omega)⟩
          obtain ⟨b, o, rfl, hbl, hc⟩ := (unhid H).get (by intro e; subst e; simp at hlt)
          have c0 := ((unhid HB).cell (p := ⟨b, o + k, none⟩) hbl).trans (hc k x hx)
          have c1 := ((unhid HB).cell (p := ⟨b, o + i, none⟩) hbl).trans (hc i y (unhid HY))
          have HX2 := hid hx
          clear hc hx hbl
          have hq := txt_iff x y
          by_cases hxy : x = y
          · rw [decide_eq_true hxy] at hq
            have E := hid (twiceB_true (unhid HX2) (by rw [hxy]; exact unhid HY) hlt2)
            go_wp2_with fail
            go_region
            go_wp2_with fail
            go_ret
            exact ⟨by rw [unhid E]; rfl, (unhid HB).trans ((drew_belowS _).mono (unhid HB).size)⟩
          · rw [decide_eq_false hxy] at hq
            have HNE := hid hxy
            clear hxy
            go_wp2_with fail
            go_region
            go_wp2_with fail
            go_roundw
            case rel =>
              refine ⟨k + 1, by omega, by go_num, hid (fun hm => ?_), hid ((unhid HB).trans ((drew_belowS _).mono (unhid HB).size))⟩
              rw [List.take_add_one, unhid HX2] at hm
              rcases List.mem_append.1 hm with hm | hm
              · exact unhid HX hm
              · simp at hm; exact unhid HNE hm.symm
            case measure => simp [intOf]; omega
        · have e : k = i := by omega
          subst e
          go_wp2_with fail
          go_roundw
          case rel => exact ⟨k + 1, by omega, by go_num, hid (by rw [List.take_add_one, unhid HY]; exact nodup_snoc (unhid HN) (unhid HX)), HB⟩
          case measure => simp [intOf]; omega
    · have e : i = xs.length := by omega
      subst e
      go_wp2_with fail
      go_ret
      refine ⟨?_, unhid HB⟩
      have := unhid HN
      rw [List.take_of_length_le (Nat.le_refl _)] at this
      unfold twiceB
      rw [decide_eq_true this]; rfl
end Go.Proofs.YtoihhlkidlapmaaGreat

/- Need: what the laws' own functions of it do. (Written by mkshape.py.) -/
namespace Go.Proofs.YtoihhlkidlapmaaGreat
open Go.RowKit Go.Shelf

structure NeedD where
  name : ByteArray
  kind : Int
  version : ByteArray
def needC : CK := isoC (pairC txtC (pairC intC txtC)) NeedD (fun d => (d.name, (d.kind, d.version))) (fun p => ⟨p.1, p.2.1, p.2.2⟩)
theorem needC_at {W : World} {cs : List Value} {d : NeedD} (h : needC.at_ W cs d) : cs = [.string d.name, .int .i64 d.kind, .string d.version] := by
  obtain ⟨c0, e0, rfl, rfl, ⟨c1, e1, rfl, rfl, rfl⟩⟩ := h
  exact rfl
def needC_is (_W : World) (cs : List Value) (d : NeedD) (F : List Nat) : Prop := cs = [.string d.name, .int .i64 d.kind, .string d.version] ∧ F = []
theorem needC_own {W : World} {cs : List Value} {d : NeedD} {F : List Nat} (h : needC.own W cs d F) : needC_is W cs d F := by
  obtain ⟨c0, e0, F0, G0, rfl, rfl, ⟨rfl, rfl⟩, ⟨c1, e1, F1, G1, rfl, rfl, ⟨rfl, rfl⟩, ⟨rfl, rfl⟩, a1⟩, a0⟩ := h
  exact ⟨rfl, rfl⟩
theorem needC_mk {W : World} {cs : List Value} {d : NeedD} {F : List Nat} (h : needC_is W cs d F) : needC.own W cs d F := by
  obtain ⟨rfl, rfl⟩ := h
  exact ⟨[_], _, [], [], rfl, by simp, ⟨rfl, rfl⟩, ⟨[_], _, [], [], rfl, by simp, ⟨rfl, rfl⟩, ⟨rfl, rfl⟩, fun k hk => by cases hk⟩, fun k hk => by cases hk⟩
theorem needC_sz (d : NeedD) : needC.sz d = d.name.size + d.version.size := by
  show d.name.size + (0 + (d.version.size)) = _
  omega

set_option maxRecDepth 100000 in
set_option maxHeartbeats 4000000 in
theorem vszNeed_any (d : NeedD) (cs : List Value) (left : Int) (w : World) (hb : needC.big d) (hl : 0 ≤ left) (hl2 : left ≤ 1048576) (h : needC.at_ w cs d) :
    Calls Tryz.prog 202 #[.agg cs.toArray, .int .i64 left] w fun x w' => (∃ r : Int, x = .returned (.int .i64 r) ∧ r ≤ left ∧ (r < 0 ∨ r + needC.sz d = left)) ∧ Below w.heap.size w w' := by
  rw [needC_sz]
  obtain rfl := needC_at h
  obtain ⟨name, kind, version⟩ := d
  dsimp only at *
  obtain ⟨b0, b1, b2⟩ := hb
  have b0' : name.size ≤ 9223372036854775807 := b0
  have b2' : version.size ≤ 9223372036854775807 := b2
  clear h b0 b1 b2
  have HB := hid (show ∀ o, Below w.heap.size w (w.alloc o) from fun o => (Below.refl _ w).alloc (Nat.le_refl _) o)
  go_enter Tryz.func202, Tryz.ntmps202
  by_cases g0 : left - (name.size : Int) < 0
  · go_wp2_with fail
    go_ret
    exact ⟨⟨-1, rfl, by omega, .inl (by omega)⟩, unhid HB _⟩
  by_cases g2 : (left - (name.size : Int)) - (version.size : Int) < 0
  · go_wp2_with fail
    go_ret
    exact ⟨⟨-1, rfl, by omega, .inl (by omega)⟩, unhid HB _⟩
  go_wp2_with fail
  go_ret
  exact ⟨⟨((left - (name.size : Int)) - (version.size : Int)), rfl, by omega, .inr (by omega)⟩, unhid HB _⟩

set_option maxRecDepth 100000 in
set_option maxHeartbeats 4000000 in
theorem vszNeedS_any (ds : List needC.D) (v : Value) (left : Int) (w : World) (hb : ds.length ≤ maxLen ∧ ∀ d ∈ ds, needC.big d) (hl : 0 ≤ left) (hl2 : left ≤ 1048576) (h : rowAt needC w v ds) :
    Calls Tryz.prog 129 #[v, .int .i64 left] w fun x w' => (∃ r : Int, x = .returned (.int .i64 r) ∧ r ≤ left ∧ (r < 0 ∨ r + (ds.length + szR needC ds) = left)) ∧ Below w.heap.size w w' := by
  obtain ⟨a, cap, rfl, -, -, h⟩ := h
  obtain ⟨hlen0, hz⟩ := hb
  have hlen : ds.length ≤ 9223372036854775807 := hlen0
  clear hlen0
  have HZ := hid hz
  have H := hid h
  clear hz h
  by_cases h0 : left - (ds.length : Int) < 0
  · go_enter Tryz.func129, Tryz.ntmps129
    go_wp2_with fail
    go_ret
    exact ⟨⟨-1, rfl, by omega, .inl (by omega)⟩, Below.refl _ _⟩
  · go_enter Tryz.func129, Tryz.ntmps129
    go_wp2_with fail
    go_loopw [1, 5] (fun l i wr => ∃ (k : Nat) (q : Int), k ≤ ds.length ∧ i = .int .i64 k ∧ l = .int .i64 q ∧ 0 ≤ q ∧ Hid (q + ds.length + szR needC (ds.take k) = left) ∧ q ≤ left ∧ Hid (Below w.heap.size w wr)) (fun _ i _ => ds.length - (intOf i).toNat)
    case atStart => exact ⟨0, _, Nat.zero_le _, rfl, rfl, by omega, hid (by simp [szR]), by omega, hid (Below.refl _ _)⟩
    case round =>
      obtain ⟨k, q, hk, rfl, rfl, hq, hsum, hq2, HB⟩ := hrel
      by_cases hlt : k < ds.length
      · obtain ⟨e, he⟩ : ∃ e, ds[k]? = some e := ⟨ds[k], List.getElem?_eq_getElem hlt⟩
        obtain ⟨b, o, rfl, hbl, hc⟩ := (unhid H).resolve_left (by intro e; subst e; simp at hlt)
        obtain ⟨cs, hat, hcell⟩ := hc k e he
        have HAT := hid (needC.below hat (unhid HB))
        have hcs := needC_at hat
        have HS := hid (szR_take needC ds k e he)
        have HM := hid (List.mem_of_getElem? he)
        obtain rfl := hcs
        have c0 : wr.cell? ⟨b, o + k * 3, none⟩ = some (.string e.name) := ((unhid HB).cell (p := ⟨b, o + k * 3 + 0, none⟩) hbl).trans (hcell 0 _ rfl)
        have c1 : wr.cell? ⟨b, o + k * 3 + 1, none⟩ = some (.int .i64 e.kind) := ((unhid HB).cell (p := ⟨b, o + k * 3 + 1, none⟩) hbl).trans (hcell 1 _ rfl)
        have c2 : wr.cell? ⟨b, o + k * 3 + 2, none⟩ = some (.string e.version) := ((unhid HB).cell (p := ⟨b, o + k * 3 + 2, none⟩) hbl).trans (hcell 2 _ rfl)
        clear hc he hat hcell hbl
        go_wp2_with fail
        refine (vszNeed_any e _ q _ (unhid HZ e (unhid HM)) hq (by omega) (unhid HAT)).mono ?_
        rintro x w2 ⟨⟨r, rfl, hr1, hr2⟩, hb⟩
        have HB2 := hid ((unhid HB).trans (hb.mono (unhid HB).size))
        have HR := hid hr2
        clear hb hr2 c0 c1 c2
        by_cases hr0 : r < 0
        · go_wp2_with fail
          go_ret
          exact ⟨⟨-1, rfl, by omega, .inl (by omega)⟩, unhid HB2⟩
        · go_wp2_with fail
          go_roundw
          case rel => exact ⟨k + 1, r, by omega, by go_num, rfl, by omega, hid (by have h1 := (unhid HR).resolve_left (by omega); have h2 := unhid hsum; rw [unhid HS]; omega), by omega, HB2⟩
          case measure => simp [intOf]; omega
      · have e : k = ds.length := by omega
        subst e
        go_wp2_with fail
        go_ret
        exact ⟨⟨q, rfl, by omega, .inr (by have h2 := unhid hsum; rw [List.take_length] at h2; omega)⟩, unhid HB⟩

set_option maxRecDepth 100000 in
set_option maxHeartbeats 4000000 in
theorem vtoNeed_any (d : NeedD) (cs : List Value) (w : World) (hs : needC.sz d ≤ 1048576) (h : needC.at_ w cs d) :
    Calls Tryz.prog 204 #[.agg cs.toArray] w fun x w' => ∃ (cs' : List Value) (F : List Nat), x = .returned (.agg cs'.toArray) ∧ needC.own w' cs' d F ∧ (∀ k ∈ F, w.heap.size ≤ k ∧ k < w'.heap.size) ∧ Below w.heap.size w w' := by
  rw [needC_sz] at hs
  obtain rfl := needC_at h
  obtain ⟨name, kind, version⟩ := d
  dsimp only at *
  clear h
  go_enter Tryz.func204, Tryz.ntmps204
  go_wp2_with fail
  obtain ⟨hP, hR, hO, hS, hB⟩ := three_boxes w (.cells #[.string name, .int .i64 kind, .string version] 231) (.cells #[.string name, .int .i64 kind, .string version] 36) (.cells #[.string name, .int .i64 kind, .string version] 36)
  have c0 := cell_arrS hR 0 _ rfl
  have c1 := cell_arrS hR 1 _ rfl
  have c2 := cell_arrS hR 2 _ rfl
  refine bodyPost_ret (v := .agg #[.string name, .int .i64 kind, .string version]) (by simp [results, Tryz.results204, go_sem, c0, c1, c2]) rfl ⟨[.string name, .int .i64 kind, .string version], [], rfl, needC_mk ⟨rfl, rfl⟩, fun k hk => (by cases hk), hB⟩

theorem vinfoNeed : (Tryz.prog.info? 36).map (fun i => (i.zero, i.size, i.bytes)) = some (some (.agg #[.string ⟨#[]⟩, .int .i64 0, .string ⟨#[]⟩]), 3, 40) := by kernel_rfl
theorem vmkNeedS (W : World) (n : Nat) (hn : n ≤ 1048576) : ∃ M : Array Value, (Instr.makeSlice 31 (.int .i64 (n : Int)) (.int .i64 (n : Int))).run Tryz.prog W = .ok (.slice (some ⟨W.heap.size, 0, .none⟩) n n) (W.alloc (.cells M 36)) ∧ M.size = n * 3 := by
  obtain ⟨i, hi, hz0, hz1, hz2⟩ := info_parts vinfoNeed
  refine ⟨madeCells #[.string ⟨#[]⟩, .int .i64 0, .string ⟨#[]⟩] (n * 3), ?_, by simp [madeCells]⟩
  have := run_make (P := Tryz.prog) W 31 36 i _ Tryz.underlying31 hi hz0 .i64 .i64 n n (by omega) (Int.le_refl _) (by rw [hz2]; omega) (by omega)
  simpa [hz1, Value.cells] using this
set_option maxRecDepth 100000 in
set_option maxHeartbeats 4000000 in
theorem vtoNeedS_any (ds : List needC.D) (v : Value) (w : World) (hs : ds.length + szR needC ds ≤ 1048576) (h : rowAt needC w v ds) :
    Calls Tryz.prog 131 #[v] w fun x w' => ∃ (u : Value) (F : List Nat), x = .returned u ∧ rowOwn needC 36 w' u ds F ∧ (∀ k ∈ F, w.heap.size ≤ k ∧ k < w'.heap.size) ∧ Below w.heap.size w w' := by
  obtain ⟨a, cap, rfl, -, -, h⟩ := h
  obtain ⟨M, hmk, hM⟩ := vmkNeedS w ds.length (by omega)
  have H := hid h
  have HM := hid hM
  have HS := hid hs
  have hlen : ds.length ≤ 1048576 := by omega
  clear h hM hs
  go_enter Tryz.func131, Tryz.ntmps131
  go_wp2_with fail
  clear hmk
  have hB0 : Below w.heap.size w (w.alloc (.cells M 36)) := (Below.refl _ _).alloc (Nat.le_refl _) _
  have hN0 := World.alloc_heap_new w (.cells M 36)
  generalize w.alloc (.cells M 36) = wq at hB0 hN0 ⊢
  have HR := hid hN0
  clear hN0
  go_loopw [4] (fun i wr => ∃ k : Nat, k ≤ ds.length ∧ i = .int .i64 k ∧ Hid (∃ Fs, RowPart needC 36 wr w.heap.size ds.length k ds Fs ∧ ∀ j ∈ Fs.flatten, w.heap.size < j) ∧ Hid (Below w.heap.size w wr)) (fun i _ => ds.length - (intOf i).toNat)
  case atStart => exact ⟨0, Nat.zero_le _, rfl, hid ⟨[], ⟨⟨M, ⟨unhid HR, by simp, by simp, fun i x hi => by simp at hi⟩, unhid HM⟩, by simp⟩, fun j hj => by simp at hj⟩, hid hB0⟩
  case round =>
    clear HR hB0 HM
    obtain ⟨k, hk, rfl, HD, HB⟩ := hrel
    by_cases hlt : k < ds.length
    · obtain ⟨e, he⟩ : ∃ e, ds[k]? = some e := ⟨ds[k], List.getElem?_eq_getElem hlt⟩
      obtain ⟨b, o, rfl, hbl, hc⟩ := (unhid H).resolve_left (by intro e; subst e; simp at hlt)
      obtain ⟨cs, hat, hcell⟩ := hc k e he
      have HAT := hid (needC.below hat (unhid HB))
      have hcs := needC_at hat
      have hse : needC.sz e ≤ 1048576 := by have h1 := szR_mem (List.mem_of_getElem? he); have h2 := unhid HS; omega
      obtain rfl := hcs
      have c0 : wr.cell? ⟨b, o + k * 3, none⟩ = some (.string e.name) := ((unhid HB).cell (p := ⟨b, o + k * 3 + 0, none⟩) hbl).trans (hcell 0 _ rfl)
      have c1 : wr.cell? ⟨b, o + k * 3 + 1, none⟩ = some (.int .i64 e.kind) := ((unhid HB).cell (p := ⟨b, o + k * 3 + 1, none⟩) hbl).trans (hcell 1 _ rfl)
      have c2 : wr.cell? ⟨b, o + k * 3 + 2, none⟩ = some (.string e.version) := ((unhid HB).cell (p := ⟨b, o + k * 3 + 2, none⟩) hbl).trans (hcell 2 _ rfl)
      have HE := hid he
      have HSE := hid hse
      clear hc he hat hcell hbl hse
      go_wp2_with fail
      refine (vtoNeed_any e _ _ (unhid HSE) (unhid HAT)).mono ?_
      rintro x w2 ⟨cs', Fk, rfl, hown, hfr, hb⟩
      have HOWN := hid hown
      obtain ⟨rfl, -⟩ := needC_own hown
      obtain ⟨Fs, hp, hfl⟩ := unhid HD
      obtain ⟨⟨y0, d0⟩, f0⟩ := part_cell (n := 3) rfl hp hb hlt 0 (by omega)
      obtain ⟨⟨y1, d1⟩, f1⟩ := part_cell (n := 3) rfl hp hb hlt 1 (by omega)
      obtain ⟨⟨y2, d2⟩, f2⟩ := part_cell (n := 3) rfl hp hb hlt 2 (by omega)
      rw [Nat.add_zero] at d0 f0
      have HF := hid (copy_store rfl hp hfl (Nat.le_refl _) (unhid HE) hb (unhid HOWN) (fun j hj => (hfr j hj).1))
      have HB2 := hid ((unhid HB).trans (hb.mono (unhid HB).size))
      have HB3 := hid (setsW_below [.string e.name, .int .i64 e.kind, .string e.version] w w2 w.heap.size w.heap.size (k * 3) (unhid HB2) (Nat.le_refl _))
      clear hb hown HOWN HD HB HB2 hp hfl hfr c0 c1 c2
      go_wp2_with fail
      go_roundw
      case rel => exact ⟨k + 1, by omega, by go_num, HF, HB3⟩
      case measure => simp [intOf]; omega
    · have e : k = ds.length := by omega
      subst e
      go_wp2_with fail
      go_ret
      obtain ⟨Fs, ⟨⟨cur, hA, hsz⟩, hnd⟩, hfl⟩ := unhid HD
      rw [List.take_of_length_le (Nat.le_refl _)] at hA
      refine ⟨_, w.heap.size :: Fs.flatten, rfl, .inr ⟨w.heap.size, ds.length, cur, Fs, rfl, Nat.le_refl _, rfl, hnd, hA⟩, fun j hj => ⟨?_, hA.lt j hj⟩, unhid HB⟩
      rcases List.mem_cons.1 hj with rfl | hj
      · exact Nat.le_refl _
      · exact Nat.le_of_lt (hfl j hj)

set_option maxRecDepth 100000 in
set_option maxHeartbeats 4000000 in
theorem veqNeed_same (d : NeedD) (cs cs' : List Value) (w : World) (hb : needC.big d) (h : needC.at_ w cs d) (h' : needC.at_ w cs' d) :
    Calls Tryz.prog 206 #[.agg cs.toArray, .agg cs'.toArray] w fun r w' => r = .returned (.bool true) ∧ Below w.heap.size w w' := by
  obtain rfl := needC_at h
  obtain rfl := needC_at h'
  obtain ⟨name, kind, version⟩ := d
  dsimp only at *
  clear h h' hb
  have HW := hid (alloc2_below w)
  have s0 := txt_selfS name
  have s1 := int_selfS kind
  have s2 := txt_selfS version
  go_enter Tryz.func206, Tryz.ntmps206
  go_wp2_with fail
  go_ret
  exact ⟨rfl, unhid HW _ _⟩

set_option maxRecDepth 100000 in
set_option maxHeartbeats 4000000 in
theorem veqNeedS_same (ds : List needC.D) (v v' : Value) (w : World) (hb : ds.length ≤ maxLen ∧ ∀ d ∈ ds, needC.big d) (h : rowAt needC w v ds) (h2 : rowAt needC w v' ds) :
    Calls Tryz.prog 133 #[v, v'] w fun r w' => r = .returned (.bool true) ∧ Below w.heap.size w w' := by
  obtain ⟨a, cap, rfl, -, -, h⟩ := h
  obtain ⟨a2, cap2, rfl, -, -, h2⟩ := h2
  obtain ⟨hlen0, hz⟩ := hb
  have hlen : ds.length ≤ 9223372036854775807 := hlen0
  have hl' : ((ds.length : Int) != (ds.length : Int)) = false := by simp
  have HZ := hid hz
  have H := hid h
  have G := hid h2
  clear hz h h2 hlen0
  go_enter Tryz.func133, Tryz.ntmps133
  go_wp2_with fail
  go_loopw [5] (fun i wr => ∃ k : Nat, k ≤ ds.length ∧ i = .int .i64 k ∧ Hid (Below w.heap.size w wr)) (fun i _ => ds.length - (intOf i).toNat)
  case atStart => exact ⟨0, Nat.zero_le _, rfl, hid (Below.refl _ _)⟩
  case round =>
    obtain ⟨k, hk, rfl, HB⟩ := hrel
    by_cases hlt : k < ds.length
    · obtain ⟨e, he⟩ : ∃ e, ds[k]? = some e := ⟨ds[k], List.getElem?_eq_getElem hlt⟩
      obtain ⟨b, o, rfl, hbl, hc⟩ := (unhid H).resolve_left (by intro e; subst e; simp at hlt)
      obtain ⟨b2, o2, rfl, hbl2, hc2⟩ := (unhid G).resolve_left (by intro e; subst e; simp at hlt)
      obtain ⟨cs, hat, hcell⟩ := hc k e he
      obtain ⟨cs2, hat2, hcell2⟩ := hc2 k e he
      have HAT := hid (needC.below hat (unhid HB))
      have HAT2 := hid (needC.below hat2 (unhid HB))
      have hcs := needC_at hat
      have hcs2 := needC_at hat2
      obtain rfl := hcs
      obtain rfl := hcs2
      have c0 : wr.cell? ⟨b, o + k * 3, none⟩ = some (.string e.name) := ((unhid HB).cell (p := ⟨b, o + k * 3 + 0, none⟩) hbl).trans (hcell 0 _ rfl)
      have g0 : wr.cell? ⟨b2, o2 + k * 3, none⟩ = some (.string e.name) := ((unhid HB).cell (p := ⟨b2, o2 + k * 3 + 0, none⟩) hbl2).trans (hcell2 0 _ rfl)
      have c1 : wr.cell? ⟨b, o + k * 3 + 1, none⟩ = some (.int .i64 e.kind) := ((unhid HB).cell (p := ⟨b, o + k * 3 + 1, none⟩) hbl).trans (hcell 1 _ rfl)
      have g1 : wr.cell? ⟨b2, o2 + k * 3 + 1, none⟩ = some (.int .i64 e.kind) := ((unhid HB).cell (p := ⟨b2, o2 + k * 3 + 1, none⟩) hbl2).trans (hcell2 1 _ rfl)
      have c2 : wr.cell? ⟨b, o + k * 3 + 2, none⟩ = some (.string e.version) := ((unhid HB).cell (p := ⟨b, o + k * 3 + 2, none⟩) hbl).trans (hcell 2 _ rfl)
      have g2 : wr.cell? ⟨b2, o2 + k * 3 + 2, none⟩ = some (.string e.version) := ((unhid HB).cell (p := ⟨b2, o2 + k * 3 + 2, none⟩) hbl2).trans (hcell2 2 _ rfl)
      have ZL := hid (unhid HZ e (List.mem_of_getElem? he))
      clear hc hc2 he hat hat2 hcell hcell2 hbl hbl2
      go_wp2_with fail
      go_region_with (go_at_call 206; refine (veqNeed_same e _ _ _ (unhid ZL) (needC.below (unhid HAT) (drew_belowS _)) (needC.below (unhid HAT2) (drew_belowS _))).mono ?_; rintro r w2 ⟨rfl, hb⟩; have HB2 := hid (((unhid HB).trans (drew_belowS _)).trans (hb.mono (unhid HB).size)); clear hb)
      all_goals
        go_wp2_with fail
        go_roundw
        case rel => exact ⟨k + 1, by omega, by go_num, HB2⟩
        case measure => simp [intOf]; omega
    · have e : k = ds.length := by omega
      subst e
      go_wp2_with fail
      go_ret
      exact ⟨rfl, unhid HB⟩
theorem cntNeed_is (d : NeedD) : needC.cnt d = 1 + (1 + (1)) := rfl
theorem cntNeed (d : NeedD) : needC.cnt d ≤ 3 + 8 * needC.sz d := by
  rw [cntNeed_is d]
  omega
theorem cntNeedS (ds : List needC.D) : cntR needC ds ≤ 8 * (ds.length + szR needC ds) := cntR_bound (by omega) cntNeed ds
theorem lenNeedS (ds : List needC.D) : ds.length ≤ cntR needC ds := len_cntR (fun d => by rw [cntNeed_is d]; omega) ds
set_option maxRecDepth 100000 in
set_option maxHeartbeats 4000000 in
theorem vmarkNeedS_own (ds : List needC.D) (v : Value) (F : List Nat) (q : Nat) (c : Int) (hcq : c = (q : Int)) (w : World) (hq : 0 < q) (hq2 : q + cntR needC ds ≤ 20000000) (h : rowOwn needC 36 w v ds F) :
    Calls Tryz.prog 75 #[v, .int .i64 c] w fun x w' => (∃ r : Int, x = .returned (.int .i64 r) ∧ r ≤ ((q + cntR needC ds : Nat) : Int) ∧ ((q + cntR needC ds : Nat) : Int) ≤ r) ∧ rowOwn needC 36 w' v (markR needC q ds) F ∧ Only F w w' := by
  subst hcq
  have hlen := lenNeedS ds
  rcases h with ⟨rfl, rfl, a, c, rfl, hnil⟩ | ⟨g, cap, cur, Fs, rfl, hcap, rfl, hnd, ha⟩
  · go_enter Tryz.func75, Tryz.ntmps75
    go_wp2_with fail
    go_loopw [1, 5] (fun c i wr => i = .int .i64 0 ∧ c = .int .i64 (q : Int) ∧ wr = w) (fun _ i _ => 0)
    case atStart => exact ⟨rfl, rfl, rfl⟩
    case round =>
      obtain ⟨rfl, rfl, rfl⟩ := hrel
      go_wp2_with fail
      go_ret
      exact ⟨⟨_, rfl, by simp [cntR], by simp [cntR]⟩, .inl ⟨rfl, rfl, a, c, rfl, hnil⟩, Only.refl _ _⟩
  · have HA := hid ha
    have HN := hid hnd
    clear ha hnd
    go_enter Tryz.func75, Tryz.ntmps75
    go_wp2_with fail
    go_loopw [1, 5] (fun c i wr => ∃ k : Nat, k ≤ ds.length ∧ i = .int .i64 (k : Int) ∧ c = .int .i64 ((q + cntR needC (ds.take k) : Nat) : Int) ∧ Hid (∃ cur2 : Array Value, RowAll needC 36 wr g (markU needC q ds k) cur2 Fs) ∧ Hid (Only (g :: Fs.flatten) w wr)) (fun _ i _ => ds.length - (intOf i).toNat)
    case atStart => exact ⟨0, Nat.zero_le _, rfl, by simp [cntR], hid ⟨cur, by simpa [markU] using unhid HA⟩, hid (Only.refl _ _)⟩
    case round =>
      obtain ⟨k, hk, rfl, rfl, HC, HO⟩ := hrel
      have hcl := cntR_le needC ds k
      by_cases hlt : k < ds.length
      · obtain ⟨e, he⟩ : ∃ e, ds[k]? = some e := ⟨ds[k], List.getElem?_eq_getElem hlt⟩
        have hct1 := cntR_take needC ds k e he
        have hcl2 := cntR_le needC ds (k + 1)
        rw [hct1, cntNeed_is e] at hcl2
        have E := hid hct1
        obtain ⟨cur2, hA⟩ := unhid HC
        obtain ⟨cs, Fk, h1, hgF, hown, hI⟩ := item_open hA (unhid HN) he
        obtain ⟨rfl, rfl⟩ := needC_own hown
        have HAA := hid hA
        have HE := hid he
        have H1 := hid h1
        generalize hct : cntR needC (ds.take k) = t at *
        have HCT := hid hct
        have hI : ItemAt wr g 36 (k * 3) cur2 [.string e.name, .int .i64 e.kind, .string e.version] := hI
        have HK := hid (Only.refl (g :: ([])) wr)
        clear hct hA he h1 hown hct1 HC
        obtain ⟨c0, f0⟩ := hI.cell 0 _ rfl
        rw [Nat.add_zero] at c0 f0
        obtain ⟨c1, f1⟩ := hI.cell 1 _ rfl
        obtain ⟨c2, f2⟩ := hI.cell 2 _ rfl
        go_wp2_with fail
        clear c0 f0 c1 f1 c2 f2
        have HI := hid hI
        clear hI
        refine (markText_at _ (q + t) wr (by omega) (by omega) (by omega)).mono ?_
        rintro x wq1 ⟨rfl, hb⟩
        have hI := (unhid HI).below hb
        have HK := hid ((unhid HK).trans (Only.ofBelow hb))
        clear hb HI
        obtain ⟨c0, f0⟩ := hI.cell 0 _ rfl
        rw [Nat.add_zero] at c0 f0
        obtain ⟨c1, f1⟩ := hI.cell 1 _ rfl
        obtain ⟨c2, f2⟩ := hI.cell 2 _ rfl
        have hI2 : ItemAt ((wq1.setCell ⟨g, k * 3, none⟩ (.string (mtext (q + t)))).setCell ⟨g, k * 3 + 1, none⟩ (.int .i64 ((q : Int) + (t : Int) + 1))) g 36 (k * 3) cur2 [.string (mtext (q + t)), .int .i64 ((q : Int) + (t : Int) + 1), .string e.version] := ((hI.set 0 (.string (mtext (q + t))) (by simp)).set 1 (.int .i64 ((q : Int) + (t : Int) + 1)) (by simp))
        have HK2 : Hid (Only (g :: ([])) wr ((wq1.setCell ⟨g, k * 3, none⟩ (.string (mtext (q + t)))).setCell ⟨g, k * 3 + 1, none⟩ (.int .i64 ((q : Int) + (t : Int) + 1)))) := hid (((unhid HK).setCell (p := ⟨g, k * 3, none⟩) (by simp) (.string (mtext (q + t)))).setCell (p := ⟨g, k * 3 + 1, none⟩) (by simp) (.int .i64 ((q : Int) + (t : Int) + 1)))
        go_wp2_with fail
        clear c0 f0 c1 f1 c2 f2
        clear hI HK
        generalize ((wq1.setCell ⟨g, k * 3, none⟩ (.string (mtext (q + t)))).setCell ⟨g, k * 3 + 1, none⟩ (.int .i64 ((q : Int) + (t : Int) + 1))) = wq2 at *
        have hI := hI2
        have HK := HK2
        clear hI2 HK2
        have HI := hid hI
        clear hI
        refine (markText_at _ (q + t + 1 + 1) wq2 (by omega) (by omega) (by omega)).mono ?_
        rintro x wq3 ⟨rfl, hb⟩
        have hI := (unhid HI).below hb
        have HK := hid ((unhid HK).trans (Only.ofBelow hb))
        clear hb HI
        obtain ⟨c0, f0⟩ := hI.cell 0 _ rfl
        rw [Nat.add_zero] at c0 f0
        obtain ⟨c1, f1⟩ := hI.cell 1 _ rfl
        obtain ⟨c2, f2⟩ := hI.cell 2 _ rfl
        have hI2 : ItemAt (wq3.setCell ⟨g, k * 3 + 2, none⟩ (.string (mtext (q + t + 1 + 1)))) g 36 (k * 3) cur2 [.string (mtext (q + t)), .int .i64 ((q : Int) + (t : Int) + 1), .string (mtext (q + t + 1 + 1))] := (hI.set 2 (.string (mtext (q + t + 1 + 1))) (by simp))
        have HK2 : Hid (Only (g :: ([])) wr (wq3.setCell ⟨g, k * 3 + 2, none⟩ (.string (mtext (q + t + 1 + 1))))) := hid ((unhid HK).setCell (p := ⟨g, k * 3 + 2, none⟩) (by simp) (.string (mtext (q + t + 1 + 1))))
        have HI := hid hI2
        have HKE := hid (unhid HK2)
        have HF := hid (show ∃ cur', RowAll needC 36 (wq3.setCell ⟨g, k * 3 + 2, none⟩ (.string (mtext (q + t + 1 + 1)))) g (markU needC q ds (k + 1)) cur' Fs by
          have hi := unhid HI
          rw [show ((q : Int) + (t : Int) + 1) = ((q + t + 1 : Nat) : Int) by omega] at hi
          refine item_close (unhid HAA) (unhid HN) (unhid HE) (unhid H1) hi ?_ (unhid HKE)
          rw [unhid HCT]
          exact needC_mk ⟨rfl, rfl⟩)
        have HO2 := hid ((unhid HO).trans ((unhid HKE).mono (fun i hi => by rcases List.mem_cons.1 hi with rfl | hi; exact List.mem_cons_self; exact List.mem_cons_of_mem _ (mem_flatS (unhid H1) hi))))
        clear HI HKE HAA HE H1 HK HO HK2 hI2 hI
        go_wp2_with fail
        go_roundw
        case rel => exact ⟨k + 1, by omega, by go_num, int_eqS (by rw [unhid E, cntNeed_is e]; omega), HF, HO2⟩
        case measure => simp [intOf]; omega
      · have e : k = ds.length := by omega
        subst e
        go_wp2_with fail
        go_ret
        refine ⟨⟨_, rfl, by rw [List.take_of_length_le (Nat.le_refl _)]; exact Int.le_refl _, by rw [List.take_of_length_le (Nat.le_refl _)]; exact Int.le_refl _⟩, ?_, unhid HO⟩
        obtain ⟨cur2, hA⟩ := unhid HC
        rw [markU_all] at hA
        exact .inr ⟨g, cap, cur2, Fs, by rw [markR_len], by rw [markR_len]; exact hcap, rfl, unhid HN, hA⟩
end Go.Proofs.YtoihhlkidlapmaaGreat

/- The names of items, in a row of their own; needs, by the model. -/
namespace Go.Proofs.YtoihhlkidlapmaaGreat
open Go.RowKit Go.Shelf

def namesN (ds : List needC.D) : List ByteArray := List.map (α := needC.D) (fun d => NeedD.name d) ds
theorem namesN_len (ds : List needC.D) : (namesN ds).length = ds.length := by simp [namesN]
theorem namesN_get {ds : List needC.D} {k : Nat} {d : needC.D} (h : ds[k]? = some d) : (namesN ds)[k]? = some (NeedD.name d) := by unfold namesN; rw [List.getElem?_map, h]; rfl
theorem take_next {α : Type} {xs : List α} {k : Nat} {x : α} (h : xs[k]? = some x) : xs.take (k + 1) = xs.take k ++ [x] := by rw [List.take_add_one, h]; rfl
theorem ownsRow_take {W : World} {N : Nat} {v : Value} {xs : List ByteArray} {k : Nat} {x : ByteArray} (hx : xs[k]? = some x) (h : W.ownsRow N 9 1 v (xs.take k ++ [x]).length ((xs.take k ++ [x]).map Value.string)) : W.ownsRow N 9 1 v (xs.take (k + 1)).length ((xs.take (k + 1)).map Value.string) := by
  rw [take_next hx]; exact h
/-- What changes in a row of the call's own, or above it, leaves what lay below. -/
theorem grown_belowN {w W W' : World} {row : Option Nat} (hb : Below w.heap.size w W) (h : W.grownBy W' row) (hr : ∀ j, row = some j → w.heap.size ≤ j) : Below w.heap.size w W' :=
  ⟨h.os.trans hb.os, h.tape.trans hb.tape, h.output.trans hb.output, Nat.le_trans hb.size h.size, fun k hk => (h.block k (Nat.lt_of_lt_of_le hk hb.size) (fun e => by have := hr k e.symm; omega)).trans (hb.block k hk)⟩
theorem cell_newN (w : World) (x : Value) (t : Nat) : (w.alloc (.cells #[x] t)).cell? ⟨w.heap.size, 0, none⟩ = some x := cell_arrS (World.alloc_heap_new w _) 0 x rfl

set_option maxRecDepth 100000 in
set_option maxHeartbeats 1000000 in
theorem packName1_any (e : NeedD) (w : World) :
    Calls Tryz.prog 113 #[.agg #[.string e.name, .int .i64 e.kind, .string e.version]] w fun x w' => x = .returned (.string e.name) ∧ w' = w.alloc (.cells #[.string e.name, .int .i64 e.kind, .string e.version] 36) := by
  go_enter Tryz.func113, Tryz.ntmps113
  go_wp2_with fail
  go_ret
  exact ⟨rfl, rfl⟩

set_option maxRecDepth 100000 in
set_option maxHeartbeats 4000000 in
theorem namesOfNeed_any (ds : List needC.D) (v : Value) (w : World) (hl : ds.length ≤ 1048576) (h : rowAt needC w v ds) :
    Calls Tryz.prog 112 #[v, .func (.func 113) #[] #[]] w fun x w' => ∃ u, x = .returned u ∧ w'.ownsRow w.heap.size 9 1 u (namesN ds).length ((namesN ds).map Value.string) ∧ Below w.heap.size w w' := by
  obtain ⟨a, cap, rfl, -, -, h⟩ := h
  have H := hid h
  clear h
  go_enter Tryz.func112, Tryz.ntmps112
  go_wp2_with fail
  go_loopw [5, 10] (fun s i wr => ∃ (k : Nat) (oa : Option Addr) (oc : Nat), k ≤ ds.length ∧ i = .int .i64 (k : Int) ∧ s = .slice oa k oc ∧ Hid (wr.ownsRow w.heap.size 9 1 (.slice oa k oc) ((namesN ds).take k).length (((namesN ds).take k).map Value.string)) ∧ Hid (Below w.heap.size w wr)) (fun _ i _ => ds.length - (intOf i).toNat)
  case atStart => exact ⟨0, _, _, Nat.zero_le _, rfl, rfl, hid (ownsRow_none _ _), hid (Below.refl _ _)⟩
  case round =>
    obtain ⟨k, oa, oc, hk, rfl, rfl, HO, HB⟩ := hrel
    by_cases hlt : k < ds.length
    · obtain ⟨e, he⟩ : ∃ e, ds[k]? = some e := ⟨ds[k], List.getElem?_eq_getElem hlt⟩
      obtain ⟨b, o, rfl, hbl, hc⟩ := (unhid H).resolve_left (by intro e; subst e; simp at hlt)
      obtain ⟨cs, hat, hcell⟩ := hc k e he
      have hcs := needC_at hat
      obtain rfl := hcs
      have c0 : wr.cell? ⟨b, o + k * 3, none⟩ = some (.string e.name) := ((unhid HB).cell (p := ⟨b, o + k * 3 + 0, none⟩) hbl).trans (hcell 0 _ rfl)
      have c1 : wr.cell? ⟨b, o + k * 3 + 1, none⟩ = some (.int .i64 e.kind) := ((unhid HB).cell (p := ⟨b, o + k * 3 + 1, none⟩) hbl).trans (hcell 1 _ rfl)
      have c2 : wr.cell? ⟨b, o + k * 3 + 2, none⟩ = some (.string e.version) := ((unhid HB).cell (p := ⟨b, o + k * 3 + 2, none⟩) hbl).trans (hcell 2 _ rfl)
      have HX := hid (namesN_get he)
      clear hc hat hcell he
      go_wp2_with fail
      refine (packName1_any e _).mono ?_
      rintro x w2 ⟨rfl, hw2⟩
      have hb2 : Below wr.heap.size wr w2 := by rw [hw2]; exact ((Below.refl _ wr).alloc (Nat.le_refl _) _).alloc (by simp) _
      have ho2 : w2.ownsRow w.heap.size 9 1 (.slice oa k oc) ((namesN ds).take k).length (((namesN ds).take k).map Value.string) := by rw [hw2]; exact ((unhid HO).alloc _).alloc _
      have HO2 := hid (ho2.alloc (.cells #[.string e.name] 9))
      have HB2 := hid (((unhid HB).trans (hb2.mono (unhid HB).size)).alloc ((unhid HB).trans (hb2.mono (unhid HB).size)).size (.cells #[.string e.name] 9))
      have HC2 := hid (cell_newN w2 (.string e.name) 9)
      have hlo := hid (show ∀ j, (Value.slice oa k oc).ownBlock = some j → w.heap.size ≤ j from fun j ej => (ho2.lt j ej).1)
      have hkl : ((namesN ds).take k).length ≤ 1048576 := by rw [List.length_take]; omega
      have HKL := hid hkl
      have HSZ := hid (unhid HB2).size
      clear hw2 hb2 ho2 HO HB c0 c1 c2 hkl
      go_wp2_with (at_builtin; refine wp_name rfl _ _ rfl w.heap.size (.slice oa k oc) ((namesN ds).take k) e.name w2.heap.size rfl rfl (unhid HO2) (unhid HC2) (by have := unhid HKL; omega) (unhid HSZ) ?_)
      intro v' w4 hown hg
      have ho3 := ownsRow_take (unhid HX) (W := w4) (N := w.heap.size) (v := v') (by simpa using hown)
      have HB3 := hid (grown_belowN (unhid HB2) hg (unhid hlo))
      obtain ⟨oa2, oc2, hv, -⟩ := ownsRow_txts ho3
      have hk1 : ((namesN ds).take (k + 1)).length = k + 1 := by rw [List.length_take, namesN_len]; omega
      rw [hk1] at hv
      subst hv
      have HO3 := hid ho3
      clear hown hg hlo HC2 HB2 HO2 HSZ HKL ho3 hk1
      go_wp2_with fail
      go_roundw
      case rel => exact ⟨k + 1, oa2, oc2, by omega, by go_num, rfl, HO3, HB3⟩
      case measure => simp [intOf]; omega
    · have e : k = ds.length := by omega
      subst e
      go_wp2_with fail
      go_ret
      refine ⟨_, rfl, ?_, unhid HB⟩
      have := unhid HO
      rwa [List.take_of_length_le (by rw [namesN_len]; exact Nat.le_refl _)] at this
end Go.Proofs.YtoihhlkidlapmaaGreat

/- Contracts of the library that are laid at the program. -/
namespace Go.Proofs.YtoihhlkidlapmaaGreat
open Go.Shelf Go.RowKit Go.Sort
def sh_lays190_ren : Go.Shelf.Ren := ⟨fun | 190 => 68 | 125 => 128 | 258 => 127 | 128 => 200 | 129 => 201 | 302 => 191 | 303 => 192 | 304 => 193 | 305 => 194 | 306 => 195 | 307 => 196 | 308 => 197 | 309 => 198 | 310 => 199 | 333 => 252 | 329 => 253 | 330 => 254 | 334 => 255 | 335 => 256 | 336 => 257 | 344 => 278 | n => n, fun | 31 => 24 | 9 => 9 | 3 => 3 | 46 => 166 | 0 => 0 | 51 => 227 | 53 => 229 | 4 => 4 | 183 => 221 | 182 => 220 | 131 => 111 | 5 => 5 | 218 => 261 | 222 => 265 | 228 => 280 | 229 => 281 | n => n, fun | n => n⟩
theorem sh_lays190 : Go.Proofs.Lays.n190 Tryz.prog sh_lays190_ren := {
  mixed := by kernel_rfl
  f125 := Tryz.func128.trans (congrArg some (by kernel_rfl))
  f128 := Tryz.func200.trans (congrArg some (by kernel_rfl))
  f129 := Tryz.func201.trans (congrArg some (by kernel_rfl))
  f190 := Tryz.func68.trans (congrArg some (by kernel_rfl))
  f258 := Tryz.func127.trans (congrArg some (by kernel_rfl))
  f302 := Tryz.func191.trans (congrArg some (by kernel_rfl))
  f303 := Tryz.func192.trans (congrArg some (by kernel_rfl))
  f304 := Tryz.func193.trans (congrArg some (by kernel_rfl))
  f305 := Tryz.func194.trans (congrArg some (by kernel_rfl))
  f306 := Tryz.func195.trans (congrArg some (by kernel_rfl))
  f307 := Tryz.func196.trans (congrArg some (by kernel_rfl))
  f308 := Tryz.func197.trans (congrArg some (by kernel_rfl))
  f309 := Tryz.func198.trans (congrArg some (by kernel_rfl))
  f310 := Tryz.func199.trans (congrArg some (by kernel_rfl))
  f329 := Tryz.func253.trans (congrArg some (by kernel_rfl))
  f330 := Tryz.func254.trans (congrArg some (by kernel_rfl))
  f333 := Tryz.func252.trans (congrArg some (by kernel_rfl))
  f334 := Tryz.func255.trans (congrArg some (by kernel_rfl))
  f335 := Tryz.func256.trans (congrArg some (by kernel_rfl))
  f336 := Tryz.func257.trans (congrArg some (by kernel_rfl))
  f344 := Tryz.func278.trans (congrArg some (by kernel_rfl))
  t0 := Tryz.underlying0
  a0 := Tryz.isAgg0
  z0 := Tryz.sizeOf0
  v0 := Tryz.zeroValue0
  t3 := Tryz.underlying3
  a3 := Tryz.isAgg3
  z3 := Tryz.sizeOf3
  v3 := Tryz.zeroValue3
  t4 := Tryz.underlying4
  a4 := Tryz.isAgg4
  z4 := Tryz.sizeOf4
  v4 := Tryz.zeroValue4
  t5 := Tryz.underlying5
  a5 := Tryz.isAgg5
  z5 := Tryz.sizeOf5
  v5 := Tryz.zeroValue5
  t9 := Tryz.underlying9
  a9 := Tryz.isAgg9
  z9 := Tryz.sizeOf9
  v9 := Tryz.zeroValue9
  t31 := Tryz.underlying24
  a31 := Tryz.isAgg24
  z31 := Tryz.sizeOf24
  v31 := Tryz.zeroValue24
  t46 := Tryz.underlying166
  a46 := Tryz.isAgg166
  z46 := Tryz.sizeOf166
  v46 := Tryz.zeroValue166
  t51 := Tryz.underlying227
  a51 := Tryz.isAgg227
  z51 := Tryz.sizeOf227
  v51 := Tryz.zeroValue227
  t53 := Tryz.underlying229
  a53 := Tryz.isAgg229
  z53 := Tryz.sizeOf229
  v53 := Tryz.zeroValue229
  t131 := Tryz.underlying111
  a131 := Tryz.isAgg111
  z131 := Tryz.sizeOf111
  v131 := Tryz.zeroValue111
  t182 := Tryz.underlying220
  a182 := Tryz.isAgg220
  z182 := Tryz.sizeOf220
  v182 := Tryz.zeroValue220
  t183 := Tryz.underlying221
  a183 := Tryz.isAgg221
  z183 := Tryz.sizeOf221
  v183 := Tryz.zeroValue221
  t218 := Tryz.underlying261
  a218 := Tryz.isAgg261
  z218 := Tryz.sizeOf261
  v218 := Tryz.zeroValue261
  t222 := Tryz.underlying265
  a222 := Tryz.isAgg265
  z222 := Tryz.sizeOf265
  v222 := Tryz.zeroValue265
  t228 := Tryz.underlying280
  a228 := Tryz.isAgg280
  z228 := Tryz.sizeOf280
  v228 := Tryz.zeroValue280
  t229 := Tryz.underlying281
  a229 := Tryz.isAgg281
  z229 := Tryz.sizeOf281
  v229 := Tryz.zeroValue281 }
theorem sh_slices_Sort_string (blk off cap : Nat) (ss : List (List UInt8)) (w : World) (hH : Holds encStr w blk off ss.toArray) (hblk : blk < w.heap.size) (hsz : ss.length < 4611686018427387904) :
    Calls Tryz.prog 68 #[.slice (some ⟨blk, off, none⟩) ss.length cap] w fun e w' =>
      e = .returned (.tuple #[]) ∧ ∃ n os, w' = grow (putRow encStr (Sort.ahead w n) blk off (ss.mergeSort fun x y => decide (x ≤ y)).toArray) os := Any.slices_Sort_string sh_lays190 blk off cap ss w hH hblk hsz
theorem sh_slices_Sort_string_none (p : Option Addr) (cap : Nat) (w : World) :
    Calls Tryz.prog 68 #[.slice p 0 cap] w fun e w' => e = .returned (.tuple #[]) ∧ w' = w := Any.slices_Sort_string_none sh_lays190 p cap w
end Go.Proofs.YtoihhlkidlapmaaGreat

/- Whether a name comes twice, by the program: it sorts them. -/
namespace Go.Proofs.YtoihhlkidlapmaaGreat
open Go.RowKit Go.Shelf Go.Sort

theorem leB_tr (a b c : List UInt8) (h1 : leB a b = true) (h2 : leB b c = true) : leB a c = true := by
  simp only [leB, decide_eq_true_eq] at *; exact List.le_trans h1 h2
theorem leB_to (a b : List UInt8) : (leB a b || leB b a) = true := by
  simp only [leB, Bool.or_eq_true, decide_eq_true_eq]; exact List.le_total a b
theorem leB_anti {a b : List UInt8} (h1 : leB a b = true) (h2 : leB b a = true) : a = b := by
  simp only [leB, decide_eq_true_eq] at h1 h2
  exact List.le_antisymm h1 h2
/-- The texts sorted. -/
def sortT (xs : List ByteArray) : List ByteArray := ((xs.map fun x => x.data.toList).mergeSort leB).map fun l => ⟨l.toArray⟩
theorem back_txts (xs : List ByteArray) : ((xs.map fun x => x.data.toList).map fun l => (⟨l.toArray⟩ : ByteArray)) = xs := by
  rw [List.map_map]
  conv => rhs; rw [← List.map_id xs]
  exact List.map_congr_left fun x _ => by simp
theorem sortT_perm (xs : List ByteArray) : (sortT xs).Perm xs := by
  have := (List.mergeSort_perm (xs.map fun x => x.data.toList) leB).map (fun l => (⟨l.toArray⟩ : ByteArray))
  rw [back_txts] at this
  exact this
theorem sortT_len (xs : List ByteArray) : (sortT xs).length = xs.length := (sortT_perm xs).length_eq
theorem sortT_sorted (xs : List ByteArray) : (sortT xs).Pairwise fun a b => leB a.data.toList b.data.toList = true := by
  unfold sortT
  rw [List.pairwise_map]
  exact (List.pairwise_mergeSort leB_tr leB_to _).imp fun h => by simpa using h
theorem nodup_sorted {ys : List ByteArray} (hp : ys.Pairwise fun a b => leB a.data.toList b.data.toList = true) (ha : ∀ (j : Nat) x y, ys[j]? = some x → ys[j + 1]? = some y → x ≠ y) : ys.Nodup := by
  unfold List.Nodup
  rw [List.pairwise_iff_getElem] at hp ⊢
  intro i j hi hj hij e
  have h1 : i + 1 < ys.length := by omega
  have h2 := hp i (i + 1) hi h1 (by omega)
  have h3 : leB (ys[i + 1]).data.toList (ys[i]).data.toList = true := by
    rw [e]
    rcases Nat.lt_or_ge (i + 1) j with h | h
    · exact hp (i + 1) j h1 hj h
    · have : i + 1 = j := by omega
      subst this
      have := leB_to (ys[i + 1]).data.toList (ys[i + 1]).data.toList
      rwa [Bool.or_self] at this
  have h4 := leB_anti h2 h3
  exact ha i _ _ (List.getElem?_eq_getElem hi) (List.getElem?_eq_getElem h1) (ByteArray.ext (Array.ext' h4))
theorem twice_sort (xs : List ByteArray) : twiceB (sortT xs) = twiceB xs := by
  unfold twiceB
  rw [show decide (sortT xs).Nodup = decide xs.Nodup from decide_eq_decide.2 (sortT_perm xs).nodup_iff]
theorem encStr_map (xs : List ByteArray) : xs.map Value.string = (xs.map fun x => x.data.toList).map encStr := by
  rw [List.map_map]
  exact List.map_congr_left fun x _ => by simp [encStr]
theorem map_encStr (ls : List (List UInt8)) : ls.map encStr = (ls.map fun l => (⟨l.toArray⟩ : ByteArray)).map Value.string := by
  rw [List.map_map]; rfl

set_option maxRecDepth 100000 in
set_option maxHeartbeats 1000000 in
/-- The library's sort of texts that are owned. -/
theorem sort_own (xs : List ByteArray) (v : Value) (N : Nat) (w : World) (hn : xs.length ≤ 4294967296) (h : w.ownsRow N 9 1 v xs.length (xs.map Value.string)) :
    Calls Tryz.prog 68 #[v] w fun x w' => x = .returned (.tuple #[]) ∧ w'.ownsRow N 9 1 v (sortT xs).length ((sortT xs).map Value.string) ∧ w.grownBy w' v.ownBlock := by
  rcases h.2 with ⟨rfl, h0⟩ | ⟨g, cap, cur, rfl, hg, hh, hc, hm, hsz, hcur⟩
  · have hx : xs = [] := List.length_eq_zero_iff.1 h0
    subst hx
    exact (sh_slices_Sort_string_none none 0 w).mono fun x w' ⟨h1, h2⟩ => ⟨h1, by rw [h2, show sortT [] = [] by simp [sortT]]; exact h, by rw [h2]; exact ⟨rfl, rfl, rfl, Nat.le_refl _, fun _ _ _ => rfl⟩⟩
  · have hl : (xs.map fun x => x.data.toList).length = xs.length := List.length_map _
    have hcur2 : cur.toList.take (xs.map fun x => x.data.toList).length = (xs.map fun x => x.data.toList).map encStr := by
      rw [hl, ← encStr_map, ← hcur, Nat.mul_one]
    have hH : Holds encStr w g 0 (xs.map fun x => x.data.toList).toArray := holds_of_block hh hcur2
    have := sh_slices_Sort_string g 0 cap (xs.map fun x => x.data.toList) w hH (Array.getElem?_eq_some_iff.1 hh).1 (by rw [hl]; omega)
    rw [hl] at this
    refine this.mono fun x w' ⟨h1, n, os, h2⟩ => ⟨h1, ?_, ?_⟩
    · rw [h2]
      have := ownsRow_sorted (n := n) (os := os) (ts := (xs.map fun x => x.data.toList).mergeSort leB) (List.length_mergeSort _) hg hh (by rw [hl]; exact hc) hm hsz
      rw [hl, map_encStr] at this
      rw [sortT_len]
      exact this
    · rw [h2]; exact grownBy_sorted _

theorem grown_drewS {w w' : World} {row : Option Nat} (h : w.grownBy w' row) : w.grownBy w'.drew row := ⟨h.os, h.tape, h.output, h.size, h.block⟩

set_option maxRecDepth 100000 in
set_option maxHeartbeats 4000000 in
theorem anyTwice_any (xs : List ByteArray) (v : Value) (N : Nat) (w : World) (hn : xs.length ≤ 4294967296) (h : w.ownsRow N 9 1 v xs.length (xs.map Value.string)) :
    Calls Tryz.prog 61 #[v] w fun x w' => x = .returned (.bool (twiceB xs)) ∧ w.grownBy w' v.ownBlock := by
  have H := hid h
  obtain ⟨a, cap, rfl, -, -, hblk⟩ := ownsRow_txts h
  clear h
  have HSL := hid (sortT_len xs)
  have HTW := hid (twice_sort xs)
  have HSO := hid (sortT_sorted xs)
  go_enter Tryz.func61, Tryz.ntmps61
  go_wp2_with fail
  refine (sort_own xs _ N w hn (unhid H)).mono ?_
  rintro x w1 ⟨rfl, ho, hg⟩
  obtain ⟨a1, c1, e1, hat, -, -⟩ := ownsRow_txts ho
  have e2 : a1 = a := by injection e1 with e1; exact e1.symm
  subst e2
  generalize hys : sortT xs = ys at *
  have HAT := hid hat
  have HG := hid hg
  have hyl : ys.length = xs.length := unhid HSL
  have HYL := hid hyl
  clear ho hat hg e1 hys hyl HSL H hblk
  go_wp2_with fail
  go_loopw [3] (fun i wr => ∃ k : Nat, k ≤ xs.length ∧ i = .int .i64 ((k : Int) + 1) ∧ Hid (∀ (j : Nat) x y, j < k → ys[j]? = some x → ys[j + 1]? = some y → x ≠ y) ∧ Hid (w.grownBy wr (Value.slice a1 xs.length cap).ownBlock) ∧ Hid (TxtsAt wr a1 ys)) (fun i _ => xs.length + 1 - (intOf i).toNat)
  case atStart => exact ⟨0, Nat.zero_le _, rfl, hid (fun j x y hj => absurd hj (Nat.not_lt_zero _)), HG, HAT⟩
  case round =>
    clear HAT HG
    obtain ⟨k, hk, rfl, HX, HG, HAT⟩ := hrel
    by_cases hlt : k + 1 < xs.length
    · have hl1 : k < ys.length := by have := unhid HYL; omega
      have hl2 : k + 1 < ys.length := by have := unhid HYL; omega
      obtain ⟨x, hx⟩ : ∃ x, ys[k]? = some x := ⟨ys[k], List.getElem?_eq_getElem hl1⟩
      obtain ⟨y, hy⟩ : ∃ y, ys[k + 1]? = some y := ⟨ys[k + 1], List.getElem?_eq_getElem hl2⟩
      obtain ⟨b, o, rfl, hbl, hc⟩ := (unhid HAT).get (by intro e; subst e; simp at hl1)
      have c0 := hc k x hx
      have c1 : wr.cell? ⟨b, o + (k + 1), none⟩ = some (.string y) := hc (k + 1) y hy
      have c2 : wr.cell? ⟨b, o + k + 1, none⟩ = some (.string y) := hc (k + 1) y hy
      have q0 : ((k : Int) + 1 - 1).toNat = k := by omega
      have HXY := hid (And.intro hx hy)
      have hq := txt_iff y x
      clear hc hx hy hbl hl1 hl2
      by_cases hxy : y = x
      · rw [decide_eq_true hxy] at hq
        have E := hid (twiceB_true (unhid HXY).1 (by rw [← hxy]; exact (unhid HXY).2) (Nat.lt_succ_self k))
        go_wp2_with fail
        go_region
        go_wp2_with fail
        go_ret
        exact ⟨by rw [← unhid HTW, unhid E]; rfl, grown_drewS (unhid HG)⟩
      · rw [decide_eq_false hxy] at hq
        have HNE := hid hxy
        clear hxy
        go_wp2_with fail
        go_region
        go_wp2_with fail
        go_roundw
        case rel =>
          refine ⟨k + 1, by omega, by go_num, hid (fun j x' y' hj hx' hy' => ?_), hid (grown_drewS (unhid HG)), hid ((unhid HAT).below (drew_belowS _))⟩
          by_cases ej : j = k
          · subst ej
            rw [(unhid HXY).1] at hx'
            rw [(unhid HXY).2] at hy'
            cases hx'
            cases hy'
            exact fun e => unhid HNE e.symm
          · exact unhid HX j x' y' (by omega) hx' hy'
        case measure => simp [intOf]; omega
    · go_wp2_with fail
      go_ret
      refine ⟨?_, unhid HG⟩
      have : ys.Nodup := nodup_sorted (unhid HSO) (fun j x y hx hy => unhid HX j x y (by have := (List.getElem?_eq_some_iff.1 hy).1; have := unhid HYL; omega) hx hy)
      have h2 : twiceB ys = false := by unfold twiceB; rw [decide_eq_true this]; rfl
      rw [← unhid HTW, h2]; rfl
end Go.Proofs.YtoihhlkidlapmaaGreat
