/- What the program's iterator over a tree tells. -/
import Derived.Test.YtlnehebihfeegaaTreeOf
namespace Go.Proofs.Ytlnehebihfeegaa
open Go.RowKit Go.Shelf

/-- A tree that an iterator goes over: the box with where it is, its two rows. -/
def TreeIn (Bn bt N : Nat) (vp vn : Value) (es : List Ent) (W : World) : Prop := W.cell? ⟨Bn, 0, none⟩ = some (.pointer (some ⟨bt, 0, none⟩)) ∧ W.heap[bt]? = some (.cells #[vp, vn] 59 (0, 0)) ∧ RowsAt W N vp vn es

theorem path_of {W : World} {N : Nat} {v : Value} {es : List Ent} {i : Nat} {e : Ent} (h : W.ownsRow N 9 1 v es.length (es.map fun e => .string e.path)) (he : es[i]? = some e) : ∃ g cap, v = .slice (some ⟨g, 0, .none⟩) es.length cap ∧ W.cell? ⟨g, i, .none⟩ = some (.string e.path) ∧ es.length ≤ cap := by
  have hil : i < es.length := (List.getElem?_eq_some_iff.1 he).1
  rcases h.2 with ⟨rfl, h0⟩ | ⟨g, cap, cur, rfl, _, hg, hc, _, hsz, hcells⟩
  · omega
  · refine ⟨g, cap, rfl, ?_, hc⟩
    have h1 : (cur.toList.take (es.length * 1))[i]? = some (.string e.path) := by rw [hcells, List.getElem?_map, he]; rfl
    rw [List.getElem?_take_of_lt (by omega), Array.getElem?_toList] at h1
    simp [World.cell?, hg, h1]

set_option maxRecDepth 100000 in
set_option maxHeartbeats 2000000 in
theorem all1_in (F : Fence) (n : Nat) (hf : F.fn 82) (hro : F.round = none) (hn : 1 ≤ n) (l Bn bt N : Nat) (vp vn : Value) (es : List Ent) (hes : es.length ≤ 1000) (P : Ent → Prop) (hP : ∀ e ∈ es, P e) (J Jx : List { e : Ent // P e } → World → Prop)
    (hY : ∀ pre (x : { e : Ent // P e }) W, J pre W → pre.length < es.length → YieldAt F (n - 1) Try.prog l #[.string x.1.path, nodeV x.1] W fun e W' =>
      (e = .returned (.bool true) ∧ J (pre ++ [x]) W' ∧ (TreeIn Bn bt N vp vn es W → TreeIn Bn bt N vp vn es W')) ∨ (e = .returned (.bool false) ∧ Jx (pre ++ [x]) W'))
    (W : World) (hc : TreeIn Bn bt N vp vn es W) (h0 : J [] W) :
    CallsIn F n Try.prog 82 #[.func (.yield l) #[] #[], .pointer (some ⟨Bn, 0, none⟩)] W fun e W' => (∃ v, e = .returned v) ∧
      ((∃ ys : List { e : Ent // P e }, ys.map (·.1) = es ∧ J ys W') ∨ (∃ pre : List { e : Ent // P e }, pre.map (·.1) <+: es ∧ Jx pre W')) := by
  obtain ⟨ap, cp, rfl⟩ := ownsRow_slice hc.2.2.1
  refine callsIn_of_wp Try.func82 rfl hf ?_ hro
  simp only [Try.ntmps82, List.size_toArray, List.length_cons, List.length_nil, Nat.reduceAdd, Nat.reduceSub, Array.replicate_succ, Array.replicate_zero, List.push_toArray, List.append_toArray, List.nil_append, List.cons_append]
  have c0 := hc.1
  obtain ⟨c1, c2, -, -⟩ := two_cells hc.2.1
  have HC := hid hc
  clear hc
  gi_wp2
  clear c0 c1 c2
  gi_loopw [10] (fun p wr => ∃ (k : Nat) (ys : List { e : Ent // P e }), k ≤ es.length ∧ p = .int .i64 k ∧ Hid (ys.map (·.1) = es.take k) ∧ J ys wr ∧ Hid (TreeIn Bn bt N (.slice ap es.length cp) vn es wr))
    (fun p _ => es.length - (intOf p).toNat)
  case atStart =>
    exact ⟨0, [], Nat.zero_le _, rfl, hid rfl, h0, HC⟩
  case round =>
    obtain ⟨k, ys, hk, rfl, hys, hJ, HT⟩ := hrel
    have hyl : ys.length = k := by have := congrArg List.length (unhid hys); rw [List.length_map, List.length_take] at this; omega
    by_cases hlt : k < es.length
    · obtain ⟨e, he⟩ : ∃ e, es[k]? = some e := ⟨es[k], List.getElem?_eq_getElem hlt⟩
      have hPe : P e := hP e (List.mem_of_getElem? he)
      obtain ⟨g, cap, hv, hc1, hle⟩ := path_of (unhid HT).2.2.1 he
      cases hv
      obtain ⟨g2, cap2, rfl, hc2, hle2⟩ := node_of (unhid HT).2.2.2 he
      have c0 := (unhid HT).1
      obtain ⟨c1, c2, -, -⟩ := two_cells (unhid HT).2.1
      have hY1 := hY ys ⟨e, hPe⟩ wr hJ (by omega)
      obtain ⟨T0, nv, hnv⟩ := nodeV_shape e
      dsimp only at hY1
      rw [hnv] at hc2 hY1
      obtain ⟨fn, tmps, assign, body, hy, hR⟩ := hY1
      have HY := hid hY
      clear hY
      gi_wp2
      refine hR.mono ?_
      rintro x W3 (⟨rfl, hJ3, hk3⟩ | ⟨rfl, hJx3⟩)
      · have HT3 := hid (hk3 (unhid HT))
        have HYS := hid (show (ys ++ [(⟨e, hPe⟩ : { e : Ent // P e })]).map (fun x => x.1) = es.take (k + 1) by rw [List.map_append, unhid hys, List.take_add_one, he]; rfl)
        clear hk3 HT hys
        gi_wp2
        go_roundw
        case rel => exact ⟨k + 1, _, by omega, by go_num, HYS, hJ3, HT3⟩
        case measure => simp [intOf]; omega
      · gi_wp2
        refine bodyPost_ret (results_none rfl _ _ _) rfl ?_
        exact ⟨⟨_, rfl⟩, .inr ⟨_, by rw [List.map_append, unhid hys]; rw [show [(⟨e, hPe⟩ : { e : Ent // P e })].map (·.1) = [e] from rfl, show es.take k ++ [e] = es.take (k + 1) by rw [List.take_add_one, he]; rfl]; exact List.take_prefix _ _, hJx3⟩⟩
    · gi_wp2
      go_end0
      exact ⟨⟨_, rfl⟩, .inl ⟨_, by rw [unhid hys, List.take_of_length_le (by omega)], hJ⟩⟩

set_option maxHeartbeats 1000000 in
theorem all_in (F : Fence) (n : Nat) (hf : F.fn 53) (hro : F.round = none) (bt : Nat) (w : World) :
    CallsIn F n Try.prog 53 #[.pointer (some ⟨bt, 0, none⟩)] w fun e w' => e = .returned (.func (.func 82) #[] #[.pointer (some ⟨w.heap.size, 0, none⟩)]) ∧ w' = w.alloc (.cells #[.pointer (some ⟨bt, 0, none⟩)] 99) := by
  refine callsIn_of_wp Try.func53 rfl hf ?_ hro
  simp only [Try.ntmps53, List.size_toArray, List.length_cons, List.length_nil, Nat.reduceAdd, Nat.reduceSub, Array.replicate_succ, Array.replicate_zero, List.push_toArray, List.append_toArray, List.nil_append, List.cons_append]
  gi_wp2
  go_ret
  exact ⟨rfl, rfl⟩

theorem treeIn_below {Bn bt N : Nat} {vp vn : Value} {es : List Ent} {W W' : World} (h : TreeIn Bn bt N vp vn es W) (hb : Below W.heap.size W W') : TreeIn Bn bt N vp vn es W' := by
  have hl : Bn < W.heap.size := below_lt h.1
  exact ⟨(hb.cell (p := ⟨Bn, 0, none⟩) hl).trans h.1, (hb.block bt (Array.getElem?_eq_some_iff.1 h.2.1).1).trans h.2.1, ownsRow_kept h.2.2.1 (fun g e => hb.block g (h.2.2.1.lt g e).2), ownsRow_kept h.2.2.2 (fun g e => hb.block g (h.2.2.2.lt g e).2)⟩
theorem row_cells {W : World} {N n size : Nat} {v : Value} {e : TypeId} {xs : List Value} {g : Nat} (h : W.ownsRow N e size v n xs) (hg : v.ownBlock = some g) : ∃ cur, W.heap[g]? = some (.cells cur e (0, 0)) := by
  rcases h.2 with ⟨rfl, _⟩ | ⟨g', cap, cur, rfl, _, hh, _⟩
  · cases hg
  · cases hg; exact ⟨cur, hh⟩
theorem treeIn_grown {Bn bt N : Nat} {vp vn : Value} {es : List Ent} {W W' : World} {row : Option Nat} (h : TreeIn Bn bt N vp vn es W) (hg : W.grownBy W' row) (hr : ∀ r, row = some r → ∃ o : Obj, W.heap[r]? = some o ∧ o.isCells = false) : TreeIn Bn bt N vp vn es W' := by
  have hk : ∀ (b : Nat) (cs : Array Value) (t : TypeId) (f : Nat × Nat), W.heap[b]? = some (.cells cs t f) → W'.heap[b]? = W.heap[b]? := fun b cs t f hb => hg.block b (Array.getElem?_eq_some_iff.1 hb).1 (fun e => by
    obtain ⟨o, ho, hc⟩ := hr b e.symm
    rw [hb] at ho; cases ho; cases hc)
  refine ⟨cell_kept h.1 hg hr, (hk _ _ _ _ h.2.1).trans h.2.1, ownsRow_kept h.2.2.1 (fun g e => ?_), ownsRow_kept h.2.2.2 (fun g e => ?_)⟩
  · obtain ⟨cur, hc⟩ := row_cells h.2.2.1 e; exact hk _ _ _ _ hc
  · obtain ⟨cur, hc⟩ := row_cells h.2.2.2 e; exact hk _ _ _ _ hc

theorem all_stops (F : Fence) (n : Nat) (hf : F.fn 82) (hro : F.round = none) (hn : 1 ≤ n) (Bn bt N : Nat) (vp vn : Value) (es : List Ent) (hes : es.length ≤ 1000) (P : Ent → Prop) (hP : ∀ e ∈ es, P e) (w : World) (hc : TreeIn Bn bt N vp vn es w) :
    SeqStopsK F n Try.prog 82 #[.pointer (some ⟨Bn, 0, none⟩)] (fun x : { e : Ent // P e } => #[Value.string x.1.path, nodeV x.1]) (fun W W' => TreeIn Bn bt N vp vn es W → TreeIn Bn bt N vp vn es W') (fun ys => ys.map (·.1) = es) (fun pre => pre.map (·.1) <+: es) es.length w := fun l J Jx W hW _ _ hY h0 =>
  all1_in F n hf hro hn l Bn bt N vp vn es hes P hP J Jx hY W (treeIn_below hc hW) h0
end Go.Proofs.Ytlnehebihfeegaa
