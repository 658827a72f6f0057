/- Texts of this proof, one behind the other; each says at its head what it shows. -/
import Derived.Test.YtoihhlkidlapmaaGreatJoin5
import Derived.StillTailTactics
import Derived.Test.YtoihhlkidlapmaaGreatJoin4
import Derived.Test.YtoihhlkidlapmaaGreatJoin1
import Derived.Test.YtoihhlkidlapmaaGreatJoin3
import Derived.Test.YtoihhlkidlapmaaGreatJoin2
/- Entries that are a tree, told one by one: each can be put behind those ahead of it. -/
namespace Go.Proofs.YtoihhlkidlapmaaGreat
open Go.RowKit Go.Shelf

def okI (es : List Ent) (i : Nat) : Bool := (i == 0 || ltS (entFn es (i - 1)).path (entFn es i).path) && putB (es.take i) (entFn es i)
theorem lt_take : ∀ (l : List UInt8) (i : Nat), i < l.length → Op.bytesLess (l.take i) l = true
  | [], _, h => by simp at h
  | _ :: _, 0, _ => rfl
  | a :: l, i + 1, h => by
    simp only [List.take_succ_cons, Op.bytesLess, Bool.or_eq_true, Bool.and_eq_true, beq_iff_eq]
    exact .inr ⟨trivial, lt_take l i (by simpa using h)⟩
theorem up_less {p : ByteArray} (h : (upS p).toList.isEmpty = false) : ltS (upS p) p = true := by
  unfold upS at h ⊢
  have hl := lastIx_lt 47 p.data.toList
  split
  · rename_i hi; rw [if_pos hi] at h; rw [Lib.toList_data] at h; cases h
  · unfold ltS
    rw [Lib.toList_data, Lib.toList_data, Lib.extract_data]
    simp only [Nat.sub_zero, List.drop_zero]
    exact lt_take _ _ (by omega)
theorem ent_get {es : List Ent} {i : Nat} (hi : i < es.length) : es[i]? = some (entFn es i) := by
  have := List.getElem?_eq_getElem hi
  rw [this, ← entFn_get this]
theorem asc_of {es : List Ent} {n : Nat} (_ : n ≤ es.length) (h : ∀ i, i < n → i = 0 ∨ ltS (entFn es (i - 1)).path (entFn es i).path = true) : ∀ i j, i < j → j < n → ltS (entFn es i).path (entFn es j).path = true := by
  intro i j hij hj
  induction j with
  | zero => omega
  | succ j ih =>
    have hs := (h (j + 1) hj).resolve_left (by omega)
    rw [Nat.add_sub_cancel] at hs
    by_cases e : i = j
    · subst e; exact hs
    · exact lt_tra _ _ _ (ih (by omega) (by omega)) hs
theorem place_at {es : List Ent} {j m : Nat} {q : ByteArray} (hj : j < m) (hm : m ≤ es.length) (hq : (entFn es j).path = q) (hasc : ∀ i, i < j → ltS (entFn es i).path q = true) : placeE (es.take m) q = j := by
  have hl : (es.take m).length = m := by rw [List.length_take]; omega
  have hg : ∀ i, i < m → (es.take m)[i]? = some (entFn es i) := fun i hi => by rw [List.getElem?_take_of_lt hi]; exact ent_get (by omega)
  refine place_of _ q j (by omega) (fun i e hi he => ?_) (fun e he => ?_)
  · rw [hg i (by omega)] at he; cases he; exact hasc i hi
  · rw [hg j hj] at he; cases he; rw [hq]; exact lt_irr _
theorem there_at {es : List Ent} {j m : Nat} {q : ByteArray} (hj : j < m) (hm : m ≤ es.length) (hq : (entFn es j).path = q) (hasc : ∀ i, i < j → ltS (entFn es i).path q = true) : thereE (es.take m) q = true ∧ entFn (es.take m) (placeE (es.take m) q) = entFn es j := by
  have hp := place_at hj hm hq hasc
  have hg : (es.take m)[j]? = some (entFn es j) := by rw [List.getElem?_take_of_lt hj]; exact ent_get (by omega)
  refine ⟨?_, by rw [hp]; exact entFn_get hg⟩
  unfold thereE
  rw [hp, hg]
  show eqS _ _ = true
  rw [hq]; exact (eqS_iff _ _).2 rfl
theorem dir_take {es : List Ent} {i : Nat} {q : ByteArray} (hi : i < es.length) (hs : ∀ a b, a < b → b < es.length → ltS (entFn es a).path (entFn es b).path = true) (hq : q.toList.isEmpty = false → ltS q (entFn es i).path = true) : dirE es q = dirE (es.take i) q := by
  unfold dirE
  cases he : q.toList.isEmpty
  · simp only [Bool.false_or]
    have hql := hq he
    rw [Bool.eq_iff_iff]
    constructor
    · intro h
      rw [Bool.and_eq_true] at h
      obtain ⟨e, hj, hpe⟩ := there_get h.1
      have hjl : placeE es q < es.length := (List.getElem?_eq_some_iff.1 hj).1
      have hfe : (entFn es (placeE es q)).path = q := by rw [entFn_get hj]; exact hpe
      have hji : placeE es q < i := by
        rcases Nat.lt_trichotomy (placeE es q) i with h1 | h1 | h1
        · exact h1
        · rw [h1] at hfe; rw [← hfe] at hql; have := lt_irr (entFn es i).path.toList; unfold ltS at hql; rw [this] at hql; cases hql
        · have h2 := hs i (placeE es q) h1 hjl
          rw [hfe] at h2
          have h3 := lt_tra _ _ _ h2 hql
          rw [lt_irr] at h3; cases h3
      obtain ⟨t1, t2⟩ := there_at (m := i) hji (by omega) hfe (fun a ha => by rw [← hfe]; exact hs a _ ha hjl)
      rw [t1, t2]; exact h.2
    · intro h
      rw [Bool.and_eq_true] at h
      obtain ⟨e, hj, hpe⟩ := there_get h.1
      have hjl : placeE (es.take i) q < (es.take i).length := (List.getElem?_eq_some_iff.1 hj).1
      rw [List.length_take] at hjl
      have hji : placeE (es.take i) q < i := by omega
      have hj' : es[placeE (es.take i) q]? = some e := by rw [List.getElem?_take_of_lt hji] at hj; exact hj
      have hfe : (entFn es (placeE (es.take i) q)).path = q := by rw [entFn_get hj']; exact hpe
      have hall : ∀ a, a < placeE (es.take i) q → ltS (entFn es a).path q = true := fun a ha => by rw [← hfe]; exact hs a _ ha (by omega)
      obtain ⟨t1, t2⟩ := there_at (m := es.length) (j := placeE (es.take i) q) (by omega) (Nat.le_refl _) hfe hall
      rw [List.take_of_length_le (Nat.le_refl _)] at t1 t2
      rw [t1, t2]
      have h2 := h.2
      rw [entFn_get hj] at h2
      rw [entFn_get hj']; exact h2
  · simp
theorem ent_path {e : Ent} (h : entB e = true) : pathUpS e.path = upS e.path := by
  unfold entB at h
  rw [Bool.and_eq_true] at h
  unfold pathUpS; rw [if_pos h.1]
theorem treeB_eq (es : List Ent) : treeB es = (List.range es.length).all (okI es) := by
  rw [Bool.eq_iff_iff]
  unfold treeB
  simp only [Bool.and_eq_true, List.all_eq_true, List.mem_range, decide_eq_true_eq]
  constructor
  · rintro ⟨⟨h1, h2⟩, h3⟩ i hi
    have hs : ∀ i, i < es.length → i = 0 ∨ ltS (entFn es (i - 1)).path (entFn es i).path = true := fun i hi => by
      have := h1 i hi; unfold sortAt at this; simp only [Bool.and_eq_true, Bool.or_eq_true, beq_iff_eq] at this; exact this.2
    have he : entB (entFn es i) = true := by have := h1 i hi; unfold sortAt at this; simp only [Bool.and_eq_true] at this; exact this.1
    have hd := h2 i hi
    rw [dir_take hi (asc_of (Nat.le_refl _) hs) (fun hq => up_less hq), ← ent_path he] at hd
    unfold okI putB
    rw [he, hd]
    have hl : (es.take i).length = i := by rw [List.length_take]; omega
    rw [hl]
    simp only [Bool.and_eq_true, Bool.or_eq_true, beq_iff_eq, decide_eq_true_eq, Bool.true_and]
    exact ⟨hs i hi, by omega⟩
  · intro h
    have hs : ∀ i, i < es.length → i = 0 ∨ ltS (entFn es (i - 1)).path (entFn es i).path = true := fun i hi => by
      have := h i hi; unfold okI at this; simp only [Bool.and_eq_true, Bool.or_eq_true, beq_iff_eq] at this; exact this.1
    have hp : ∀ i, i < es.length → entB (entFn es i) = true ∧ dirE (es.take i) (pathUpS (entFn es i).path) = true ∧ i ≠ 16 := fun i hi => by
      have := h i hi
      unfold okI putB at this
      have hl : (es.take i).length = i := by rw [List.length_take]; omega
      rw [hl] at this
      simp only [Bool.and_eq_true, decide_eq_true_eq] at this
      exact ⟨this.2.1, this.2.2.1, this.2.2.2⟩
    refine ⟨⟨fun i hi => ?_, fun i hi => ?_⟩, ?_⟩
    · unfold sortAt
      simp only [Bool.and_eq_true, Bool.or_eq_true, beq_iff_eq]
      exact ⟨(hp i hi).1, hs i hi⟩
    · have hd := (hp i hi).2.1
      rw [ent_path (hp i hi).1] at hd
      rw [dir_take hi (asc_of (Nat.le_refl _) hs) (fun hq => up_less hq)]
      exact hd
    · rcases Nat.lt_or_ge 16 es.length with h16 | h16
      · exact absurd rfl (hp 16 h16).2.2
      · exact h16
theorem asc_take {es : List Ent} {k : Nat} (hk : k ≤ es.length) (h : (List.range k).all (okI es) = true) : Asc (pathsOf (es.take k)) := by
  rw [List.all_eq_true] at h
  have hs : ∀ i, i < k → i = 0 ∨ ltS (entFn es (i - 1)).path (entFn es i).path = true := fun i hi => by
    have := h i (List.mem_range.2 hi); unfold okI at this; simp only [Bool.and_eq_true, Bool.or_eq_true, beq_iff_eq] at this; exact this.1
  have ha := asc_of hk hs
  intro i j x y hij hx hy
  unfold pathsOf at hx hy
  rw [List.getElem?_map] at hx hy
  have hl : (es.take k).length = k := by rw [List.length_take]; omega
  have hj : j < k := by
    rcases Nat.lt_or_ge j k with h | h
    · exact h
    · rw [List.getElem?_eq_none (by omega)] at hy; cases hy
  rw [List.getElem?_take_of_lt (by omega), ent_get (by omega)] at hx
  rw [List.getElem?_take_of_lt hj, ent_get (by omega)] at hy
  cases hx; cases hy
  exact ha i j hij hj
theorem place_end {es : List Ent} {k : Nat} (hk : k < es.length) (h : (List.range k).all (okI es) = true) (hl : k = 0 ∨ ltS (entFn es (k - 1)).path (entFn es k).path = true) : placeE (es.take k) (entFn es k).path = (es.take k).length := by
  rw [List.all_eq_true] at h
  have hs : ∀ i, i < k + 1 → i = 0 ∨ ltS (entFn es (i - 1)).path (entFn es i).path = true := fun i hi => by
    by_cases e : i = k
    · subst e; exact hl
    · have := h i (List.mem_range.2 (by omega)); unfold okI at this; simp only [Bool.and_eq_true, Bool.or_eq_true, beq_iff_eq] at this; exact this.1
  have ha := asc_of (n := k + 1) (by omega) hs
  have hlen : (es.take k).length = k := by rw [List.length_take]; omega
  rw [hlen]
  refine place_of _ _ k (by omega) (fun i e hi he => ?_) (fun e he => ?_)
  · rw [List.getElem?_take_of_lt hi, ent_get (by omega)] at he; cases he; exact ha i k hi (by omega)
  · rw [List.getElem?_eq_none (by omega)] at he; cases he
end Go.Proofs.YtoihhlkidlapmaaGreat

/- The entry of what stands at a path. -/
namespace Go.Proofs.YtoihhlkidlapmaaGreat
open Go.RowKit Go.Shelf

set_option maxRecDepth 100000 in
set_option maxHeartbeats 4000000 in
theorem entryOf_dir (p : ByteArray) (m : Int) (w : World) :
    Calls Tryz.prog 83 #[.string p, .iface 176 (.agg #[.int .i64 m])] w fun x w' => x = .returned (.agg #[.string p, .int .i64 1, .int .i64 m, .string ⟨#[]⟩]) ∧ Below w.heap.size w w' := by
  have hta4 : ∀ w, (Instr.typeAssert (.iface 176 (.agg #[.int .i64 m])) 121 176 true).run Tryz.prog w = .ok (.tuple #[.agg #[.int .i64 m], .bool true]) w := fun _ => by kernel_rfl
  have hb : ∀ o1 o2 o3, Below w.heap.size w ((((w.alloc o1).alloc o2).alloc o3).drew) := fun o1 o2 o3 => ((((Below.refl _ w).alloc (Nat.le_refl _) _).alloc (by simp) _).alloc (by simp; omega) _).drew
  have HB := hid hb
  clear hb
  go_enter Tryz.func83, Tryz.ntmps83
  go_wp2_with fail
  go_region
  all_goals
    go_wp2_with fail
    refine bodyPost_ret (v := .agg #[.string p, .int .i64 1, .int .i64 m, .string ⟨#[]⟩]) (by simp [results, Tryz.results83, go_sem]) rfl ⟨rfl, ?_⟩
    exact unhid HB _ _ _

set_option maxRecDepth 100000 in
set_option maxHeartbeats 4000000 in
theorem entryOf_file (p : ByteArray) (m : Int) (t : ByteArray) (w : World) :
    Calls Tryz.prog 83 #[.string p, .iface 178 (.agg #[.int .i64 m, .string t])] w fun x w' => x = .returned (.agg #[.string p, .int .i64 2, .int .i64 m, .string t]) ∧ Below w.heap.size w w' := by
  have hta4 : ∀ w, (Instr.typeAssert (.iface 178 (.agg #[.int .i64 m, .string t])) 121 176 true).run Tryz.prog w = .ok (.tuple #[.agg #[.int .i64 0], .bool false]) w := fun _ => by kernel_rfl
  have hta5 : ∀ w, (Instr.typeAssert (.iface 178 (.agg #[.int .i64 m, .string t])) 121 178 true).run Tryz.prog w = .ok (.tuple #[.agg #[.int .i64 m, .string t], .bool true]) w := fun _ => by kernel_rfl
  have hb : ∀ o1 o2 o3, Below w.heap.size w ((((w.alloc o1).alloc o2).alloc o3).drew) := fun o1 o2 o3 => ((((Below.refl _ w).alloc (Nat.le_refl _) _).alloc (by simp) _).alloc (by simp; omega) _).drew
  have HB := hid hb
  clear hb
  go_enter Tryz.func83, Tryz.ntmps83
  go_wp2_with fail
  go_region
  all_goals
    go_wp2_with fail
    refine bodyPost_ret (v := .agg #[.string p, .int .i64 2, .int .i64 m, .string t]) (by simp [results, Tryz.results83, go_sem]) rfl ⟨rfl, ?_⟩
    exact unhid HB _ _ _

set_option maxRecDepth 100000 in
set_option maxHeartbeats 4000000 in
theorem entryOf_link (p : ByteArray) (t : ByteArray) (w : World) :
    Calls Tryz.prog 83 #[.string p, .iface 180 (.agg #[.string t])] w fun x w' => x = .returned (.agg #[.string p, .int .i64 3, .int .i64 0, .string t]) ∧ Below w.heap.size w w' := by
  have hta4 : ∀ w, (Instr.typeAssert (.iface 180 (.agg #[.string t])) 121 176 true).run Tryz.prog w = .ok (.tuple #[.agg #[.int .i64 0], .bool false]) w := fun _ => by kernel_rfl
  have hta5 : ∀ w, (Instr.typeAssert (.iface 180 (.agg #[.string t])) 121 178 true).run Tryz.prog w = .ok (.tuple #[.agg #[.int .i64 0, .string ⟨#[]⟩], .bool false]) w := fun _ => by kernel_rfl
  have hta6 : ∀ w, (Instr.typeAssert (.iface 180 (.agg #[.string t])) 121 180 true).run Tryz.prog w = .ok (.tuple #[.agg #[.string t], .bool true]) w := fun _ => by kernel_rfl
  have hb : ∀ o1 o2 o3, Below w.heap.size w ((((w.alloc o1).alloc o2).alloc o3).drew) := fun o1 o2 o3 => ((((Below.refl _ w).alloc (Nat.le_refl _) _).alloc (by simp) _).alloc (by simp; omega) _).drew
  have HB := hid hb
  clear hb
  go_enter Tryz.func83, Tryz.ntmps83
  go_wp2_with fail
  go_region
  all_goals
    go_wp2_with fail
    refine bodyPost_ret (v := .agg #[.string p, .int .i64 3, .int .i64 0, .string t]) (by simp [results, Tryz.results83, go_sem]) rfl ⟨rfl, ?_⟩
    exact unhid HB _ _ _

theorem entryOf_any (e : Ent) (he : entB e = true) (w : World) : Calls Tryz.prog 83 #[.string e.path, nodeV e] w fun x w' => x = .returned (.agg e.vals) ∧ Below w.heap.size w w' := by
  obtain ⟨p, k, m, t⟩ := e
  unfold entB at he
  dsimp only at he ⊢
  rw [Bool.and_eq_true] at he
  have he2 := he.2
  unfold nodeV Ent.vals
  dsimp only
  by_cases k1 : k = 1
  · rw [if_pos k1] at he2 ⊢
    rw [Bool.and_eq_true] at he2
    have ht : t = ⟨#[]⟩ := ba_ext (List.isEmpty_iff.1 he2.2)
    subst k1; subst ht
    exact entryOf_dir p m w
  · rw [if_neg k1] at he2 ⊢
    by_cases k2 : k = 2
    · rw [if_pos k2]; subst k2; exact entryOf_file p m t w
    · rw [if_neg k2] at he2 ⊢
      simp only [Bool.and_eq_true, beq_iff_eq] at he2
      rw [he2.1, he2.2.1]; exact entryOf_link p t w
end Go.Proofs.YtoihhlkidlapmaaGreat

/- An entry that is there already, put once more: nothing turns. -/
namespace Go.Proofs.YtoihhlkidlapmaaGreat
open Go.RowKit Go.Shelf

theorem set_nothing {w : World} {g j : Nat} {v : Value} {cur : Array Value} {t : TypeId} (h : w.heap[g]? = some (.cells cur t (0, 0))) (hc : cur[j]? = some v) : Below (w.heap.size + 1) w (w.setCell ⟨g, j, .none⟩ v) := by
  refine ⟨rfl, rfl, rfl, by simp, fun k _ => ?_⟩
  by_cases e : k = g
  · subst e
    rw [heap_setCell_same w k j cur t v h, h]
    have : cur.setIfInBounds j v = cur := by
      apply Array.ext_getElem?
      intro i
      rw [Array.getElem?_setIfInBounds]
      by_cases ei : j = i
      · subst ei
        rw [if_pos rfl, if_pos (Array.getElem?_eq_some_iff.1 hc).1, hc]
      · rw [if_neg ei]
    rw [this]
  · exact Below.heap_setCell w _ v k e

set_option maxRecDepth 100000 in
set_option maxHeartbeats 4000000 in
theorem mapPut_again (N bt : Nat) (es : List Ent) (e : Ent) (w : World) (hn : es.length ≤ 900) (ha : Asc (pathsOf es)) (hj : es[placeE es e.path]? = some e) (h : TreeAt w N bt es) :
    Calls Tryz.prog 172 #[.pointer (some ⟨bt, 0, .none⟩), .string e.path, nodeV e] w fun x w' => (∃ v, x = .returned v) ∧ Below w.heap.size w w' := by
  have hbl := h.lt
  obtain ⟨vp, vn, h1, h2, h3⟩ := h
  obtain ⟨a, cap, hva, hT⟩ := texts_of h2
  have hpn : (pathsOf es).length = es.length := by simp [pathsOf]
  have hl : (pathsOf es).length ≤ 1048576 := by omega
  have ht : thereP (pathsOf es) e.path = true := by rw [thereP_E]; unfold thereE; rw [hj]; exact (eqS_iff _ _).2 rfl
  have hjl : placeE es e.path < es.length := (List.getElem?_eq_some_iff.1 hj).1
  have hS := BinarySearch_any (pathsOf es) a cap e.path w hl ha hT
  rw [placeP_E, ht, hpn] at hS
  rw [hpn] at hva
  subst hva
  obtain ⟨T, nv, hV⟩ := nodeV_shape e
  obtain ⟨g, cap2, cur, rfl, hg, hcj⟩ : ∃ g cap2 cur, vn = .slice (some ⟨g, 0, .none⟩) es.length cap2 ∧ w.heap[g]? = some (.cells cur 121 (0, 0)) ∧ cur[placeE es e.path]? = some (nodeV e) := by
    rcases h3.2 with ⟨rfl, h0⟩ | ⟨g, cap, cur, rfl, _, hg, hc, _, hsz, hcells⟩
    · omega
    · refine ⟨g, cap, cur, rfl, hg, ?_⟩
      have hq : (cur.toList.take (es.length * 1))[placeE es e.path]? = some (nodeV e) := by rw [hcells, List.getElem?_map, hj]; rfl
      rwa [List.getElem?_take_of_lt (by omega), Array.getElem?_toList] at hq
  rw [hV] at hcj ⊢
  have n0 : w.cell? ⟨g, placeE es e.path, .none⟩ = some (.iface T nv) := by simp [World.cell?, hg, hcj]
  have m0 : w.frozen? ⟨g, placeE es e.path, .none⟩ = false := by simp [World.frozen?, hg]
  have HS := hid hS
  have HN := hid (set_nothing hg hcj)
  obtain ⟨c0, c1, f0, f1⟩ := two_cells h1
  clear hT ha hl ht h1 h2 h3 hpn hj hS hV hg hcj
  generalize placeE es e.path = j at HS HN hjl n0 m0
  go_enter Tryz.func172, Tryz.ntmps172
  go_wp2_with fail
  refine (unhid HS).mono ?_
  rintro x w1 ⟨rfl, hw1⟩
  rw [hw1]
  clear hw1
  go_wp2_with fail
  first | go_end0 | refine bodyPost_ret (results_none rfl _ _ _) rfl ?_
  exact ⟨⟨_, rfl⟩, (unhid HN).mono (Nat.le_succ _)⟩

set_option maxRecDepth 100000 in
set_option maxHeartbeats 8000000 in
theorem putEntry_again (N bt : Nat) (es : List Ent) (e : Ent) (w : World) (hp : e.path.size ≤ maxLen) (htx : e.text.size ≤ maxLen) (hn : es.length ≤ 20) (ha : Asc (pathsOf es)) (he : entB e = true) (hd : dirE es (pathUpS e.path) = true) (hj : es[placeE es e.path]? = some e) (h : TreeAt w N bt es) :
    Calls Tryz.prog 138 #[.pointer (some ⟨bt, 0, .none⟩), .agg e.vals] w fun x w' => x = .returned (.bool true) ∧ Below w.heap.size w w' := by
  have hbl := h.lt
  have hth : thereE es e.path = true := by unfold thereE; rw [hj]; exact (eqS_iff _ _).2 rfl
  have hgv : getV es e.path = nodeV e := by unfold getV; rw [hth, entFn_get hj]; rfl
  have HT := hid (And.intro hth (And.intro hgv (And.intro ha hj)))
  have h0 : TreeAt (w.alloc (.cells #[.string e.path, .int .i64 e.kind, .int .i64 e.mode, .string e.text] 57)) N bt es := h.below ((Below.refl _ w).alloc (Nat.le_refl _) _)
  have hk0 : Below w.heap.size w (w.alloc (.cells #[.string e.path, .int .i64 e.kind, .int .i64 e.mode, .string e.text] 57)) := (Below.refl _ w).alloc (Nat.le_refl _) _
  have hnw := World.alloc_heap_new w (.cells #[.string e.path, .int .i64 e.kind, .int .i64 e.mode, .string e.text] 57)
  have hs0 : w.heap.size < (w.alloc (.cells #[.string e.path, .int .i64 e.kind, .int .i64 e.mode, .string e.text] 57)).heap.size := by simp
  have H0 := hid (And.intro h0 hk0)
  have X0 := hid (show (w.alloc (.cells #[.string e.path, .int .i64 e.kind, .int .i64 e.mode, .string e.text] 57)).cell? ⟨w.heap.size, 0, .none⟩ = some (.string e.path) by unfold World.cell?; dsimp only; rw [hnw]; rfl)
  have X1 := hid (show (w.alloc (.cells #[.string e.path, .int .i64 e.kind, .int .i64 e.mode, .string e.text] 57)).cell? ⟨w.heap.size, 1, .none⟩ = some (.int .i64 e.kind) by unfold World.cell?; dsimp only; rw [hnw]; rfl)
  have hN0 := hid (nodeOf_any e hp htx (w.alloc (.cells #[.string e.path, .int .i64 e.kind, .int .i64 e.mode, .string e.text] 57)))
  clear hth hgv ha hj h h0 hk0 hnw
  have HE := hid he
  have HD := hid hd
  go_enter Tryz.func138, Tryz.ntmps138
  unfold Ent.vals
  go_wp2_with fail
  refine (unhid hN0).mono ?_
  rintro x w1 ⟨⟨v, rfl, -, hv⟩, hb⟩
  obtain rfl := hv (unhid HE)
  rw [unhid HE]
  have HK := hid (And.intro ((unhid H0).1.below hb) ((unhid H0).2.trans (hb.mono (Nat.le_of_lt hs0))))
  have c0 := (hb.cell (p := ⟨w.heap.size, 0, .none⟩) hs0).trans (unhid X0)
  have c1 := (hb.cell (p := ⟨w.heap.size, 1, .none⟩) hs0).trans (unhid X1)
  have hs1 := Nat.lt_of_lt_of_le hs0 hb.size
  clear hb hv
  go_wp2_with fail
  refine (hasPlace_any N bt es e.path w1 hp (by omega) (unhid HT).2.2.1 (unhid HK).1).mono ?_
  rintro x w2 ⟨rfl, hb⟩
  rw [unhid HD]
  have HK2 := hid (And.intro ((unhid HK).1.below hb) ((unhid HK).2.trans (hb.mono (Nat.le_of_lt hs1))))
  have d0 := (hb.cell (p := ⟨w.heap.size, 0, .none⟩) hs1).trans c0
  have d1 := (hb.cell (p := ⟨w.heap.size, 1, .none⟩) hs1).trans c1
  have hs2 := Nat.lt_of_lt_of_le hs1 hb.size
  clear hb c0 c1
  go_wp2_with fail
  go_quiet ((go_at_call 82; refine Calls.quiet_of_same (v := .tuple #[nodeV e, .bool true]) ((mapGet_any N bt es e.path _ (by omega) (unhid HT).2.2.1 ((unhid HK2).1.below (drewN_below _ _))).mono ?_); rintro x w3 ⟨rfl, rfl⟩; exact ⟨by rw [(unhid HT).2.1, (unhid HT).1], rfl⟩))
  have HK3 := hid (And.intro ((unhid HK2).1.below (drewN_below w2 nq)) ((unhid HK2).2.trans (drewN_below w2 nq)))
  have d30 : (w2.drewN nq).cell? ⟨w.heap.size, 0, .none⟩ = some (.string e.path) := d0
  have d31 : (w2.drewN nq).cell? ⟨w.heap.size, 1, .none⟩ = some (.int .i64 e.kind) := d1
  have hs3 : w.heap.size < (w2.drewN nq).heap.size := hs2
  clear d0 d1
  generalize w2.drewN nq = w3 at HK3 d30 d31 hs3 ⊢
  have g0 := BW.cell (B := w3.heap.size) hs3 d30
  have g1 := BW.cell (B := w3.heap.size) hs3 d31
  go_wp2_with fail
  have hfd : ∀ w, (Instr.field 57 (.agg #[.string e.path, .int .i64 e.kind, .int .i64 e.mode, .string e.text]) 1).run Tryz.prog w = .ok (.int .i64 e.kind) w := fun _ => by kernel_rfl
  have hba := @BW.all w3.heap.size w3
  refine calm_region w3.heap.size (by kernel_rfl) (by kernel_rfl) ?_
  repeat (go_big_quiet_step ((go_at_call 83; exact Calls.bw (v := .agg #[.string e.path, .int .i64 e.kind, .int .i64 e.mode, .string e.text]) (Nat.le_refl _) (entryOf_any e (unhid HE) _))))
  refine wpQuiet_nil ?_
  intro w4 hw
  obtain ⟨x, hx⟩ := hw
  have hB4 : Below w3.heap.size w3 w4 := by rw [hx]; exact x.h
  clear hx x
  have HK4 := hid (And.intro ((unhid HK3).1.below hB4) ((unhid HK3).2.trans (hB4.mono (Nat.le_of_lt hs3))))
  have d4 := (hB4.cell (p := ⟨w.heap.size, 0, .none⟩) hs3).trans d30
  have hs4 := Nat.lt_of_lt_of_le hs3 hB4.size
  clear hB4 hba g0 g1 d30 d31 hfd
  go_wp2_with fail
  have HP := hid (mapPut_again N bt es e w4.drew (by omega) (unhid HT).2.2.1 (unhid HT).2.2.2 ((unhid HK4).1.below (drew_below _)))
  go_region_with (go_at_call 172; refine (unhid HP).mono ?_; rintro x w5 ⟨⟨y, rfl⟩, hB5⟩; have HK5 := hid (((unhid HK4).2.trans (drew_below w4)).trans (hB5.mono (Nat.le_of_lt hs4))); clear hB5)
  all_goals
    go_wp2_with fail
    go_ret
    exact ⟨rfl, unhid HK5⟩
end Go.Proofs.YtoihhlkidlapmaaGreat

/- The tree that entries are, by the program. -/
namespace Go.Proofs.YtoihhlkidlapmaaGreat
open Go.RowKit Go.Shelf

/-- What a tree's two rows hold. -/
def RowsAt (W : World) (N : Nat) (vp vn : Value) (es : List Ent) : Prop := W.ownsRow N 9 1 vp es.length (es.map fun e => .string e.path) ∧ W.ownsRow N 121 1 vn es.length (es.map nodeV)
def keptE (es : List Ent) : List Ent := if treeB es then es else []
theorem keptE_no {es : List Ent} (h : treeB es = false) : keptE es = [] := by unfold keptE; rw [h]; rfl
theorem keptE_yes {es : List Ent} (h : treeB es = true) : keptE es = es := by unfold keptE; rw [h]; rfl
theorem rowsAt_nil (W : World) (N : Nat) : RowsAt W N (.slice .none 0 0) (.slice .none 0 0) [] := ⟨World.ownsRow_nil _ _ _ _, World.ownsRow_nil _ _ _ _⟩
theorem okI_16 {es : List Ent} {k : Nat} (hk : k ≤ es.length) (h : (List.range k).all (okI es) = true) : k ≤ 16 := by
  rw [List.all_eq_true] at h
  rcases Nat.lt_or_ge 16 k with hlt | hge
  · have := h 16 (List.mem_range.2 hlt)
    unfold okI putB at this
    have hl : (es.take 16).length = 16 := by rw [List.length_take]; omega
    rw [hl] at this
    simp at this
  · exact hge
theorem apart_of {cs : Array Value} {t : TypeId} {f : Nat × Nat} (h : t ≠ 9 ∧ t ≠ 121) : Apart (.cells cs t f) := fun _ _ _ e => by cases e; exact h

/-- The worlds in the midst of one entry's test: the tree is as it was, or with the entry. -/
def InTest (w : World) (es : List Ent) (k B : Nat) (e : Ent) (w' : World) : Prop :=
  (Below w.heap.size w w' ∧ w'.heap[w.heap.size]? = some (.cells #[.slice .none 0 0, .slice .none 0 0] 117 (0, 0)) ∧ w'.heap[B]? = some (.cells #[.string e.path, .int .i64 e.kind, .int .i64 e.mode, .string e.text] 57 (0, 0))) ∧
    (TreeAt w' w.heap.size (w.heap.size + 1) (es.take k) ∨ (okI es k = true ∧ TreeAt w' w.heap.size (w.heap.size + 1) (es.take (k + 1))))
theorem inTest_put {w : World} {es : List Ent} {k B : Nat} {e : Ent} (hB : w.heap.size + 1 < B) (hlt : k < es.length) (he : es[k]? = some e) (hall : (List.range k).all (okI es) = true) (zp : e.path.size ≤ maxLen) (zt : e.text.size ≤ maxLen) (hor : k = 0 ∨ ltS (entFn es (k - 1)).path e.path = true) (W : World) (h : InTest w es k B e W) :
    Calls Tryz.prog 138 #[.pointer (some ⟨w.heap.size + 1, 0, .none⟩), .agg #[.string e.path, .int .i64 e.kind, .int .i64 e.mode, .string e.text]] W fun x w' => x = .returned (.bool (okI es k)) ∧ InTest w es k B e w' := by
  have hf := entFn_get he
  have hk16 := okI_16 (Nat.le_of_lt hlt) hall
  have hlk : (es.take k).length = k := by rw [List.length_take]; omega
  have hok : okI es k = putB (es.take k) e := by
    unfold okI; rw [hf]
    rcases hor with h0 | h0
    · rw [h0]; rfl
    · rw [h0]; simp
  have hor' : k = 0 ∨ ltS (entFn es (k - 1)).path (entFn es k).path = true := by rw [hf]; exact hor
  obtain ⟨⟨b1, b2, b3⟩, hT⟩ := h
  rcases hT with hT | ⟨hyes, hT⟩
  · have hpe := place_end hlt hall hor'
    rw [hf] at hpe
    refine (putEntry_end w.heap.size (w.heap.size + 1) (es.take k) e W zp zt (by omega) (asc_take (Nat.le_of_lt hlt) hall) (by omega) hpe hT).mono ?_
    rintro x w2 ⟨rfl, hT2, hK2⟩
    refine ⟨by rw [hok], ⟨b1.trans hK2.1, hK2.2 _ _ (by omega) b2 (apart_of (by decide)), hK2.2 _ _ (by omega) b3 (apart_of (by decide))⟩, ?_⟩
    cases hp : putB (es.take k) e
    · rw [nextE_no hp] at hT2; exact .inl hT2
    · rw [nextE_yes hp] at hT2
      exact .inr ⟨by rw [hok, hp], by rw [List.take_add_one, he]; exact hT2⟩
  · have hall1 : (List.range (k + 1)).all (okI es) = true := all_range_snoc hall hyes
    have hput : putB (es.take k) e = true := by rw [← hok]; exact hyes
    unfold putB at hput
    simp only [Bool.and_eq_true] at hput
    have hl1 : (es.take (k + 1)).length = k + 1 := by rw [List.length_take]; omega
    have ha := asc_take (k := k + 1) (by omega) hall1
    rw [List.all_eq_true] at hall1
    have hs : ∀ i, i < k + 1 → i = 0 ∨ ltS (entFn es (i - 1)).path (entFn es i).path = true := fun i hi => by
      have := hall1 i (List.mem_range.2 hi); unfold okI at this; simp only [Bool.and_eq_true, Bool.or_eq_true, beq_iff_eq] at this; exact this.1
    have hasc := asc_of (es := es) (n := k + 1) (by omega) hs
    have hfn : ∀ i, i < k + 1 → entFn (es.take (k + 1)) i = entFn es i := fun i hi => entFn_get (by rw [List.getElem?_take_of_lt hi]; exact ent_get (by omega))
    have hd : dirE (es.take (k + 1)) (pathUpS e.path) = true := by
      rw [dir_take (es := es.take (k + 1)) (i := k) (by omega) (fun a b hab hb => by rw [hfn a (by omega), hfn b (by omega)]; exact hasc a b hab (by omega)) (fun hq => by rw [hfn k (by omega), hf, ent_path hput.1] at *; exact up_less hq)]
      rw [List.take_take, Nat.min_eq_left (Nat.le_succ k)]
      exact hput.2.1
    have hpl : placeE (es.take (k + 1)) e.path = k := place_at (by omega) (by omega) (by rw [hf]) (fun i hi => by rw [← hf]; exact hasc i k hi (by omega))
    refine (putEntry_again w.heap.size (w.heap.size + 1) (es.take (k + 1)) e W zp zt (by omega) ha hput.1 hd (by rw [hpl, List.getElem?_take_of_lt (by omega)]; exact he) hT).mono ?_
    rintro x w2 ⟨rfl, hB2⟩
    have hlt2 := hT.lt
    have hBl : B < W.heap.size := (Array.getElem?_eq_some_iff.1 b3).1
    exact ⟨by rw [hyes], ⟨b1.trans (hB2.mono (by omega)), (hB2.block _ (by omega)).trans b2, (hB2.block _ hBl).trans b3⟩, .inr ⟨hyes, hT.below hB2⟩⟩

theorem le_not_less (x y : List UInt8) : (Op.bytesLess x y || x == y) = !Op.bytesLess y x := by
  cases h1 : Op.bytesLess x y
  · cases h2 : Op.bytesLess y x
    · rw [lt_tot x y h1 h2]; simp
    · have : x ≠ y := fun e => by subst e; rw [lt_irr] at h2; cases h2
      simp [this]
  · cases h2 : Op.bytesLess y x
    · simp
    · have := lt_tra x y x h1 h2
      rw [lt_irr] at this; cases this
theorem ownsRow_slice {W : World} {N n size : Nat} {v : Value} {e : TypeId} {xs : List Value} (h : W.ownsRow N e size v n xs) : ∃ a cap, v = .slice a n cap := by
  rcases h.2 with ⟨rfl, rfl⟩ | ⟨g, cap, cur, rfl, _⟩
  · exact ⟨_, _, rfl⟩
  · exact ⟨_, _, rfl⟩
/-- What a round keeps. -/
def InRow (w : World) (w' : World) (xs : List Ent) : Prop := Below w.heap.size w w' ∧ w'.heap[w.heap.size]? = some (.cells #[.slice .none 0 0, .slice .none 0 0] 117 (0, 0)) ∧ TreeAt w' w.heap.size (w.heap.size + 1) xs
def nextK (es : List Ent) (k : Nat) : Nat := if okI es k then k + 1 else k
theorem nextK_yes {es : List Ent} {k : Nat} (h : okI es k = true) : nextK es k = k + 1 := by unfold nextK; rw [h]; rfl
theorem inRow_put {w : World} {es : List Ent} {k : Nat} {e : Ent} (hlt : k < es.length) (he : es[k]? = some e) (hall : (List.range k).all (okI es) = true) (zp : e.path.size ≤ maxLen) (zt : e.text.size ≤ maxLen) (hor : k = 0 ∨ ltS (entFn es (k - 1)).path e.path = true) (W : World) (h : InRow w W (es.take k)) :
    Calls Tryz.prog 138 #[.pointer (some ⟨w.heap.size + 1, 0, .none⟩), .agg #[.string e.path, .int .i64 e.kind, .int .i64 e.mode, .string e.text]] W fun x w' => x = .returned (.bool (okI es k)) ∧ Hid (InRow w w' (es.take (nextK es k))) := by
  have hf := entFn_get he
  have hk16 := okI_16 (Nat.le_of_lt hlt) hall
  have hlk : (es.take k).length = k := by rw [List.length_take]; omega
  have hok : okI es k = putB (es.take k) e := by
    unfold okI; rw [hf]
    rcases hor with h0 | h0
    · rw [h0]; rfl
    · rw [h0]; simp
  have hor' : k = 0 ∨ ltS (entFn es (k - 1)).path (entFn es k).path = true := by rw [hf]; exact hor
  obtain ⟨b1, b2, hT⟩ := h
  have hpe := place_end hlt hall hor'
  rw [hf] at hpe
  refine (putEntry_end w.heap.size (w.heap.size + 1) (es.take k) e W zp zt (by omega) (asc_take (Nat.le_of_lt hlt) hall) (by omega) hpe hT).mono ?_
  rintro x w2 ⟨rfl, hT2, hK2⟩
  refine ⟨by rw [hok], hid ⟨b1.trans hK2.1, hK2.2 _ _ (by omega) b2 (apart_of (by decide)), ?_⟩⟩
  unfold nextK
  rw [hok]
  cases hp : putB (es.take k) e
  · rw [nextE_no hp] at hT2; exact hT2
  · rw [nextE_yes hp] at hT2
    show TreeAt w2 w.heap.size (w.heap.size + 1) (es.take (k + 1))
    rw [List.take_add_one, he]; exact hT2

theorem still_of_quiet {P : Program} {o : Oper} {a : Act} {wq : World} {K : Act → Prop} (h : o.quiet P a (fun w' => ∃ x : CW (fun w' => w' = wq), w' = x.w) K) : o.still P a wq K := by
  obtain ⟨v, h1, h2⟩ := h
  have h3 := h1 wq ⟨⟨wq, rfl⟩, rfl⟩
  unfold Oper.quietAt at h3
  unfold Oper.still
  generalize (execOp a.eval o).run P wq = r at h3
  unfold Oper.quietUpon at h3
  unfold Oper.stillUpon
  split at h3
  · exact ⟨h3.1, by rw [h3.2]; exact h2⟩
  · exact ⟨h3.1, by rw [← h3.2]; exact h2⟩
  · refine ⟨h3.1, v, h3.2.mono ?_, h2⟩
    rintro e w2 ⟨he, x, hx⟩
    exact ⟨he, hx.trans x.h⟩
  · exact absurd h3 (by simp)
theorem stills_of_quiet {P : Program} {ops : Array Oper} {wq : World} {Q : Act → Prop} : ∀ (l : List Oper) (a : Act), wpQuiet P ops (fun w' => ∃ x : CW (fun w' => w' = wq), w' = x.w) Q l a → wpStill P ops wq Q l a
  | [], _, h => h
  | o :: rest, a, h => by
    unfold wpQuiet at h
    unfold wpStill
    split at h
    · rename_i hw
      rw [if_pos hw]
      exact Oper.still_mono (fun a' h' => stills_of_quiet rest a' h') (still_of_quiet h)
    · rename_i hw
      rw [if_neg hw]
      exact stills_of_quiet rest _ h
theorem still_tail_at {P : Program} {id : Nat} {Q : Exit → Act → World → Prop} {a : Act} {w : World} {l : List Oper} (n : Nat) (wq : World) (hq : wq = w.drew) (hm : P.follows .mixedOrders = true) (hB : Region.lexTailB .any l.toArray n = true)
    (h : wpQuiet P l.toArray (fun w' => ∃ x : CW (fun w' => w' = wq), w' = x.w) (fun a' => wpList P l.toArray Q (l.drop n) a' wq) (l.take n) a) : (Code.region id l.toArray true).wp P Q a w := by
  subst hq; exact wp_region_still_tail n hm hB (stills_of_quiet _ _ h)

set_option maxRecDepth 100000 in
set_option maxHeartbeats 8000000 in
theorem treeOf_any (es : List Ent) (a : Option Addr) (cap : Nat) (w : World) (hs : smallE es) (h : EntsAt w a es) :
    Calls Tryz.prog 81 #[.slice a es.length cap] w fun x w' => ∃ vp vn, x = .returned (.tuple #[.agg #[vp, vn], .bool (treeB es)]) ∧ RowsAt w' w.heap.size vp vn (keptE es) ∧ Below w.heap.size w w' := by
  obtain ⟨hlen, hz⟩ := hs
  have HH := hid h
  have HZ := hid hz
  have ET := hid (treeB_eq es)
  clear h hz
  have hst : ∃ W0, W0 = (w.alloc (.cells #[.slice .none 0 0, .slice .none 0 0] 117)).alloc (.cells #[.slice .none 0 0, .slice .none 0 0] 117) := ⟨_, rfl⟩
  obtain ⟨W0, hW0⟩ := hst
  have hb0 : Below w.heap.size w W0 := by rw [hW0]; exact ((Below.refl _ w).alloc (Nat.le_refl _) _).alloc (by simp) _
  have hr0 : W0.heap[w.heap.size]? = some (.cells #[.slice .none 0 0, .slice .none 0 0] 117 (0, 0)) := by rw [hW0, Below.heap_alloc _ _ _ (by simp)]; exact World.alloc_heap_new _ _
  have ht0 : TreeAt W0 w.heap.size (w.heap.size + 1) [] := ⟨.slice .none 0 0, .slice .none 0 0, by rw [hW0]; have := World.alloc_heap_new (w.alloc (.cells #[.slice .none 0 0, .slice .none 0 0] 117)) (.cells #[.slice .none 0 0, .slice .none 0 0] 117); rwa [World.size_alloc] at this, World.ownsRow_nil _ _ _ _, World.ownsRow_nil _ _ _ _⟩
  have H00 := hid (And.intro hb0 (And.intro hr0 ht0))
  have HW0 := hid hW0
  clear hb0 hr0 ht0 hW0
  go_enter Tryz.func81, Tryz.ntmps81
  go_wp2_with fail
  rw [← unhid HW0]
  go_loopw [5, 6, 10] (fun _ _ i wr => ∃ k : Nat, k ≤ es.length ∧ i = .int .i64 k ∧ Hid ((List.range k).all (okI es) = true) ∧ Hid (Below w.heap.size w wr ∧ wr.heap[w.heap.size]? = some (.cells #[.slice .none 0 0, .slice .none 0 0] 117 (0, 0)) ∧ TreeAt wr w.heap.size (w.heap.size + 1) (es.take k))) (fun _ _ i _ => es.length - (intOf i).toNat)
  case atStart => exact ⟨0, Nat.zero_le _, rfl, hid rfl, H00⟩
  case round =>
    clear H00 HW0
    obtain ⟨k, hk, rfl, hall, HST⟩ := hrel
    by_cases hlt : k < es.length
    · obtain ⟨e, he⟩ : ∃ e, es[k]? = some e := ⟨es[k], List.getElem?_eq_getElem hlt⟩
      obtain ⟨b, o, rfl, hbl, hc⟩ := (unhid HH).get (by intro e; subst e; simp at hlt)
      obtain ⟨hB, hr, hT⟩ := unhid HST
      obtain ⟨c0, c1, c2, c3⟩ := (hc k e he).below hB hbl
      obtain ⟨z1, z2⟩ := unhid HZ e (List.mem_of_getElem? he)
      have hf := entFn_get he
      have zp : e.path.size ≤ maxLen := by unfold maxLen; omega
      have zt : e.text.size ≤ maxLen := by unfold maxLen; omega
      have hk16 := okI_16 hk (unhid hall)
      have hlk : (es.take k).length = k := by rw [List.length_take]; omega
      have hNl : w.heap.size + 1 < wr.heap.size := hT.lt
      have hC0 : InTest w es k wr.heap.size e (wr.alloc (.cells #[.string e.path, .int .i64 e.kind, .int .i64 e.mode, .string e.text] 57)).drew := by
        refine ⟨⟨(hB.alloc hB.size _).drew, ?_, ?_⟩, .inl (hT.below (((Below.refl _ _).alloc (Nat.le_refl _) _).drew))⟩
        · show (wr.alloc _).heap[_]? = _
          rw [Below.heap_alloc _ _ _ (by omega)]; exact hr
        · exact World.alloc_heap_new wr _
      have HC0 := hid hC0
      have he' := he
      obtain ⟨wq, hq⟩ : ∃ wq, wq = (wr.alloc (.cells #[.string e.path, .int .i64 e.kind, .int .i64 e.mode, .string e.text] 57)).drew := ⟨_, rfl⟩
      have HQ : Hid (InRow w wq (es.take k)) := by
        have hC1 := hC0
        rw [← hq] at hC1
        refine hid ⟨hC1.1.1, hC1.1.2.1, ?_⟩
        rw [hq]; exact hT.below (((Below.refl _ _).alloc (Nat.le_refl _) _).drew)
      have hwb : wq.heap[wr.heap.size]? = some (.cells #[.string e.path, .int .i64 e.kind, .int .i64 e.mode, .string e.text] 57 (0, 0)) := by rw [hq]; exact World.alloc_heap_new wr _
      have p0 : wq.cell? ⟨wr.heap.size, 0, .none⟩ = some (.string e.path) := by simp [World.cell?, hwb]
      have p1 : wq.cell? ⟨wr.heap.size, 1, .none⟩ = some (.int .i64 e.kind) := by simp [World.cell?, hwb]
      have p2 : wq.cell? ⟨wr.heap.size, 2, .none⟩ = some (.int .i64 e.mode) := by simp [World.cell?, hwb]
      have p3 : wq.cell? ⟨wr.heap.size, 3, .none⟩ = some (.string e.text) := by simp [World.cell?, hwb]
      have HP := hid (And.intro p0 (And.intro p1 (And.intro p2 p3)))
      have HQE := hid hq
      clear hwb p0 p1 p2 p3 hq
      have hno : okI es k = false → treeB es = false := fun h => by rw [unhid ET]; exact all_range_no hlt h
      have HNO := hid hno
      have tt : ∀ w5, okI es k = true → InTest w es k wr.heap.size e w5 → w5.heap.size = w5.heap.size := fun _ _ _ => rfl
      clear tt
      have hbox : ∀ (x : CW (InTest w es k wr.heap.size e)), x.w.cell? ⟨wr.heap.size, 0, .none⟩ = some (.string e.path) ∧ x.w.cell? ⟨wr.heap.size, 1, .none⟩ = some (.int .i64 e.kind) ∧ x.w.cell? ⟨wr.heap.size, 2, .none⟩ = some (.int .i64 e.mode) ∧ x.w.cell? ⟨wr.heap.size, 3, .none⟩ = some (.string e.text) := fun x => by
        have := x.h.1.2.2
        refine ⟨?_, ?_, ?_, ?_⟩ <;> simp [World.cell?, this]
      have q0 := fun x => (hbox x).1
      have q1 := fun x => (hbox x).2.1
      have q2 := fun x => (hbox x).2.2.1
      have q3 := fun x => (hbox x).2.2.2
      have hNl' : w.heap.size + 1 < wr.heap.size := hNl
      clear hbox
      rcases k with _ | j
      · have PUT := hid (inTest_put hNl hlt he (unhid hall) zp zt (.inl rfl))
        simp only [Nat.zero_mul, Nat.add_zero] at c0 c1 c2 c3
        clear hc he hf HST hT hB hr hC0
        cases hok : okI es 0
        · have E := hid (unhid HNO hok)
          go_wp2_with fail
          have HCx := @CW.all (InTest w es 0 wr.heap.size e) _ (unhid HC0)
          refine class_region (InTest w es 0 wr.heap.size e) (unhid HC0) (by kernel_rfl) (by kernel_rfl) ?_
          repeat (go_big_quiet_step ((go_at_call 138; refine Calls.cw (v := .bool false) ((unhid PUT _ (CW.h _)).mono ?_); rintro r w2 ⟨rfl, hC⟩; exact ⟨by rw [hok], hC⟩)))
          refine wpQuiet_nil ?_
          intro w5 hw
          obtain ⟨x, hx⟩ := hw
          have hC5 : InTest w es 0 wr.heap.size e w5 := by rw [hx]; exact x.h
          clear hx x HCx q0 q1 q2 q3
          obtain ⟨⟨hB5, hr5, -⟩, -⟩ := hC5
          obtain ⟨d0, d1, e0, e1⟩ := two_cells hr5
          have HR6 := hid hB5
          clear hB5 hr5
          go_wp2_with fail
          refine bodyPost_ret (v := .tuple #[.agg #[.slice .none 0 0, .slice .none 0 0], .bool false]) (by simp [results, Tryz.results81, go_sem, World.cell?_setCell_same', d0, d1]) rfl ⟨_, _, by rw [unhid E], by rw [keptE_no (unhid E)]; exact rowsAt_nil _ _, ((unhid HR6).setCell (Nat.le_refl _) _).setCell (Nat.le_refl _) _⟩
        · have PUT2 := hid (inRow_put (w := w) hlt he' (unhid hall) zp zt (.inl rfl) wq (unhid HQ))
          rw [hok, nextK_yes hok] at PUT2
          have HY := hid hok
          clear PUT q0 q1 q2 q3 HC0 hno HNO he'
          go_wp2_with fail
          refine still_tail_at 15 wq (unhid HQE) (by kernel_rfl) (by kernel_rfl) ?_
          clear HQE
          have HCx := @CW.all (fun w' => w' = wq) wq rfl
          have q0 : ∀ x : CW (fun w' => w' = wq), x.w.cell? ⟨wr.heap.size, 0, .none⟩ = some (.string e.path) := fun x => by rw [x.h]; exact (unhid HP).1
          have q1 : ∀ x : CW (fun w' => w' = wq), x.w.cell? ⟨wr.heap.size, 1, .none⟩ = some (.int .i64 e.kind) := fun x => by rw [x.h]; exact (unhid HP).2.1
          have q2 : ∀ x : CW (fun w' => w' = wq), x.w.cell? ⟨wr.heap.size, 2, .none⟩ = some (.int .i64 e.mode) := fun x => by rw [x.h]; exact (unhid HP).2.2.1
          have q3 : ∀ x : CW (fun w' => w' = wq), x.w.cell? ⟨wr.heap.size, 3, .none⟩ = some (.string e.text) := fun x => by rw [x.h]; exact (unhid HP).2.2.2
          simp only [List.take_succ_cons, List.take_zero, List.drop_succ_cons, List.drop_zero]
          repeat (go_big_quiet_step (fail))
          refine wpQuiet_nil ?_
          clear HCx q0 q1 q2 q3 HP HQ c0 c1 c2 c3 hok
          go_wp2_with (go_at_call 138; refine (unhid PUT2).mono ?_; rintro r w2 ⟨rfl, HR2⟩)
          refine ⟨⟨1, by omega, rfl, hid (all_range_snoc (unhid hall) (unhid HY)), HR2⟩, ?_⟩
          show es.length - 1 < es.length - 0
          omega
      · obtain ⟨pv, hpv⟩ : ∃ pv, es[j]? = some pv := ⟨es[j], List.getElem?_eq_getElem (by omega)⟩
        obtain ⟨g0, -, -, -⟩ := (hc j pv hpv).below hB hbl
        have hpf := entFn_get hpv
        have HG : Hid (wq.cell? ⟨b, o + j * 4, .none⟩ = some (.string pv.path)) := by
          have hbw : b < wr.heap.size := Nat.lt_of_lt_of_le hbl hB.size
          refine hid ?_
          rw [unhid HQE]
          exact (((Below.refl wr.heap.size wr).alloc (Nat.le_refl _) _).drew.cell (p := ⟨b, o + j * 4, .none⟩) hbw).trans g0
        have hj1 : (0 : Int) < ((j + 1 : Nat) : Int) := by omega
        cases hls : ltS pv.path e.path
        · have E : Hid (treeB es = false) := hid (unhid HNO (by unfold okI; rw [hf, show (j + 1 - 1) = j from rfl, hpf, hls]; simp))
          have hbl2 : (Op.bytesLess e.path.toList pv.path.toList || e.path.toList == pv.path.toList) = true := by rw [le_not_less, show Op.bytesLess pv.path.toList e.path.toList = false from hls]; rfl
          clear q0 q1 q2 q3 HC0 hc he hf HST hT hB hr hC0 he' g0 hpf hpv hls hno HNO
          go_wp2_with fail
          refine still_tail_at 15 wq (unhid HQE) (by kernel_rfl) (by kernel_rfl) ?_
          clear HQE
          have HCx := @CW.all (fun w' => w' = wq) wq rfl
          have q0 : ∀ x : CW (fun w' => w' = wq), x.w.cell? ⟨wr.heap.size, 0, .none⟩ = some (.string e.path) := fun x => by rw [x.h]; exact (unhid HP).1
          have q1 : ∀ x : CW (fun w' => w' = wq), x.w.cell? ⟨wr.heap.size, 1, .none⟩ = some (.int .i64 e.kind) := fun x => by rw [x.h]; exact (unhid HP).2.1
          have q2 : ∀ x : CW (fun w' => w' = wq), x.w.cell? ⟨wr.heap.size, 2, .none⟩ = some (.int .i64 e.mode) := fun x => by rw [x.h]; exact (unhid HP).2.2.1
          have q3 : ∀ x : CW (fun w' => w' = wq), x.w.cell? ⟨wr.heap.size, 3, .none⟩ = some (.string e.text) := fun x => by rw [x.h]; exact (unhid HP).2.2.2
          have q4 : ∀ x : CW (fun w' => w' = wq), x.w.cell? ⟨b, o + j * 4, .none⟩ = some (.string pv.path) := fun x => by rw [x.h]; exact unhid HG
          simp only [List.take_succ_cons, List.take_zero, List.drop_succ_cons, List.drop_zero]
          repeat (go_big_quiet_step (fail))
          refine wpQuiet_nil ?_
          clear HCx q0 q1 q2 q3 q4 HP HG c0 c1 c2 c3
          obtain ⟨hB5, hr5, -⟩ := unhid HQ
          obtain ⟨d0, d1, e0, e1⟩ := two_cells hr5
          have HR6 := hid hB5
          clear HQ hB5 hr5
          go_wp2_with fail
          refine bodyPost_ret (v := .tuple #[.agg #[.slice .none 0 0, .slice .none 0 0], .bool false]) (by simp [results, Tryz.results81, go_sem, World.cell?_setCell_same', d0, d1]) rfl ⟨_, _, by rw [unhid E], by rw [keptE_no (unhid E)]; exact rowsAt_nil _ _, ((unhid HR6).setCell (Nat.le_refl _) _).setCell (Nat.le_refl _) _⟩
        · have PUT2 := hid (inRow_put (w := w) hlt he' (unhid hall) zp zt (.inr (by show ltS (entFn es j).path e.path = true; rw [hpf]; exact hls)) wq (unhid HQ))
          have hbl2 : (Op.bytesLess e.path.toList pv.path.toList || e.path.toList == pv.path.toList) = false := by rw [le_not_less, show Op.bytesLess pv.path.toList e.path.toList = true from hls]; rfl
          clear q0 q1 q2 q3 HC0 hc he hf HST hT hB hr hC0 he' g0 hpf hpv hls
          cases hok : okI es (j + 1)
          · rw [hok] at PUT2
            have E := hid (unhid HNO hok)
            clear hno HNO hok
            go_wp2_with fail
            refine still_tail_at 15 wq (unhid HQE) (by kernel_rfl) (by kernel_rfl) ?_
            clear HQE
            have HCx := @CW.all (fun w' => w' = wq) wq rfl
            have q0 : ∀ x : CW (fun w' => w' = wq), x.w.cell? ⟨wr.heap.size, 0, .none⟩ = some (.string e.path) := fun x => by rw [x.h]; exact (unhid HP).1
            have q1 : ∀ x : CW (fun w' => w' = wq), x.w.cell? ⟨wr.heap.size, 1, .none⟩ = some (.int .i64 e.kind) := fun x => by rw [x.h]; exact (unhid HP).2.1
            have q2 : ∀ x : CW (fun w' => w' = wq), x.w.cell? ⟨wr.heap.size, 2, .none⟩ = some (.int .i64 e.mode) := fun x => by rw [x.h]; exact (unhid HP).2.2.1
            have q3 : ∀ x : CW (fun w' => w' = wq), x.w.cell? ⟨wr.heap.size, 3, .none⟩ = some (.string e.text) := fun x => by rw [x.h]; exact (unhid HP).2.2.2
            have q4 : ∀ x : CW (fun w' => w' = wq), x.w.cell? ⟨b, o + j * 4, .none⟩ = some (.string pv.path) := fun x => by rw [x.h]; exact unhid HG
            simp only [List.take_succ_cons, List.take_zero, List.drop_succ_cons, List.drop_zero]
            repeat (go_big_quiet_step (fail))
            refine wpQuiet_nil ?_
            clear HCx q0 q1 q2 q3 q4 HP HQ HG c0 c1 c2 c3
            go_wp2_with (go_at_call 138; refine (unhid PUT2).mono ?_; rintro r w2 ⟨rfl, HR2⟩; obtain ⟨hB5, hr5, -⟩ := unhid HR2; obtain ⟨d0, d1, e0, e1⟩ := two_cells hr5; have HR6 := hid hB5; clear HR2 hB5 hr5)
            refine bodyPost_ret (v := .tuple #[.agg #[.slice .none 0 0, .slice .none 0 0], .bool false]) (by simp [results, Tryz.results81, go_sem, World.cell?_setCell_same', d0, d1]) rfl ⟨_, _, by rw [unhid E], by rw [keptE_no (unhid E)]; exact rowsAt_nil _ _, ((unhid HR6).setCell (Nat.le_refl _) _).setCell (Nat.le_refl _) _⟩
          · rw [hok, nextK_yes hok] at PUT2
            have HY := hid hok
            clear hno HNO hok
            go_wp2_with fail
            refine still_tail_at 15 wq (unhid HQE) (by kernel_rfl) (by kernel_rfl) ?_
            clear HQE
            have HCx := @CW.all (fun w' => w' = wq) wq rfl
            have q0 : ∀ x : CW (fun w' => w' = wq), x.w.cell? ⟨wr.heap.size, 0, .none⟩ = some (.string e.path) := fun x => by rw [x.h]; exact (unhid HP).1
            have q1 : ∀ x : CW (fun w' => w' = wq), x.w.cell? ⟨wr.heap.size, 1, .none⟩ = some (.int .i64 e.kind) := fun x => by rw [x.h]; exact (unhid HP).2.1
            have q2 : ∀ x : CW (fun w' => w' = wq), x.w.cell? ⟨wr.heap.size, 2, .none⟩ = some (.int .i64 e.mode) := fun x => by rw [x.h]; exact (unhid HP).2.2.1
            have q3 : ∀ x : CW (fun w' => w' = wq), x.w.cell? ⟨wr.heap.size, 3, .none⟩ = some (.string e.text) := fun x => by rw [x.h]; exact (unhid HP).2.2.2
            have q4 : ∀ x : CW (fun w' => w' = wq), x.w.cell? ⟨b, o + j * 4, .none⟩ = some (.string pv.path) := fun x => by rw [x.h]; exact unhid HG
            simp only [List.take_succ_cons, List.take_zero, List.drop_succ_cons, List.drop_zero]
            repeat (go_big_quiet_step (fail))
            refine wpQuiet_nil ?_
            clear HCx q0 q1 q2 q3 q4 HP HQ HG c0 c1 c2 c3
            go_wp2_with (go_at_call 138; refine (unhid PUT2).mono ?_; rintro r w2 ⟨rfl, HR2⟩)
            refine ⟨⟨j + 2, by omega, by rw [show ((j + 2 : Nat) : Int) = (j : Int) + 1 + 1 by omega], hid (all_range_snoc (unhid hall) (unhid HY)), HR2⟩, ?_⟩
            show es.length - ((j : Int) + 1 + 1).toNat < es.length - (((j + 1 : Nat) : Int)).toNat
            omega
    · have hke : k = es.length := by omega
      obtain ⟨hB, hr, vp, vn, t1, t2, t3⟩ := unhid HST
      rw [hke, List.take_of_length_le (Nat.le_refl _)] at t2 t3
      have hok : treeB es = true := by rw [unhid ET, ← hke]; exact unhid hall
      obtain ⟨c0, c1, f0, f1⟩ := two_cells t1
      obtain ⟨d0, d1, e0, e1⟩ := two_cells hr
      have r1 := hid (row_ne t2 hr (by decide))
      have r2 := hid (row_ne t3 hr (by decide))
      obtain ⟨ap, cp, rfl⟩ := ownsRow_slice t2
      obtain ⟨an, cn, rfl⟩ := ownsRow_slice t3
      have HE := hid hB
      have HROWS := hid (And.intro t2 t3)
      have HOK := hid hok
      clear hB t1 t2 t3 hr hok HST
      go_wp2_with fail
      refine bodyPost_ret (v := .tuple #[.agg #[.slice ap es.length cp, .slice an es.length cn], .bool true]) (by simp [results, Tryz.results81, go_sem, World.cell?_setCell_same', d0, d1]) rfl ⟨_, _, by rw [unhid HOK], ?_, ((unhid HE).setCell (Nat.le_refl _) _).setCell (Nat.le_refl _) _⟩
      rw [keptE_yes (unhid HOK)]
      refine ⟨ownsRow_kept (unhid HROWS).1 (fun g hg => ?_), ownsRow_kept (unhid HROWS).2 (fun g hg => ?_)⟩
      · have hne : g ≠ w.heap.size := fun eq => unhid r1 (by rw [hg, eq])
        rw [Below.heap_setCell _ _ _ _ hne, Below.heap_setCell _ _ _ _ hne]
      · have hne : g ≠ w.heap.size := fun eq => unhid r2 (by rw [hg, eq])
        rw [Below.heap_setCell _ _ _ _ hne, Below.heap_setCell _ _ _ _ hne]
end Go.Proofs.YtoihhlkidlapmaaGreat

/- For every row the program's TreeOk says whether it is a tree. -/
namespace Go.Proofs.YtoihhlkidlapmaaGreat
open Go.RowKit Go.Shelf

set_option maxRecDepth 100000 in
set_option maxHeartbeats 2000000 in
theorem treeOkP_any (es : List Ent) (a : Option Addr) (cap : Nat) (w : World) (hs : smallE es) (h : EntsAt w a es) :
    Calls Tryz.prog 46 #[.slice a es.length cap] w fun x w' => x = .returned (.bool (treeB es)) ∧ Below w.heap.size w w' := by
  have H := hid (treeOf_any es a cap w hs h)
  clear hs h
  go_enter Tryz.func46, Tryz.ntmps46
  go_wp2_with (go_at_call 81; refine (unhid H).mono ?_; rintro x w1 ⟨vp, vn, rfl, ⟨t2, t3⟩, hB⟩; obtain ⟨ap, cp, rfl⟩ := ownsRow_slice t2; obtain ⟨an, cn, rfl⟩ := ownsRow_slice t3; clear t2 t3)
  go_ret
  exact ⟨rfl, hB.alloc hB.size _⟩
end Go.Proofs.YtoihhlkidlapmaaGreat

/- A region that draws its order, over a class of worlds that need not hold behind its last operation (a store). -/
namespace Go.Proofs.YtoihhlkidlapmaaGreat
open Go.RowKit

/-- Whatever order is picked from here on, and S holds behind every operation but number kl. -/
def wpAnyE (kl : Nat) (P : Program) (md : Region.Mode) (ops : Array Oper) (Q : Exit → Act → World → Prop) (S : World → Prop) : Nat → Array Bool → Act → World → Prop
  | 0, listed, a, w => Region.ready md ops listed = [] ∧ Q .normal a w
  | fuel + 1, listed, a, w =>
    (Region.ready md ops listed = [] → Q .normal a w) ∧
    ∀ i ∈ Region.ready md ops listed, wpOp P ops Q i (fun a' w' => (i ≠ kl → S w') ∧ wpAnyE kl P md ops Q S fuel (listed.setIfInBounds i true) a' w') a w
/-- Whether number kl waits for number i. -/
def waitsB (md : Region.Mode) (ops : Array Oper) (kl i : Nat) : Bool := ((ops[kl]?).map fun o => o.after.toList.any fun e => Region.binds md e && (e.on == i)).getD false
theorem waits_not {md : Region.Mode} {ops : Array Oper} {kl i : Nat} {listed : Array Bool} (h : waitsB md ops kl i = true) (hi : i ∈ Region.ready md ops listed) : kl ∉ Region.ready md ops listed := by
  intro hk
  obtain ⟨_, o, ho, hall⟩ := mem_ready.1 hk
  unfold waitsB at h
  rw [ho] at h
  simp only [Option.map_some, Option.getD_some, List.any_eq_true, Bool.and_eq_true, beq_iff_eq] at h
  obtain ⟨e, he, hb, rfl⟩ := h
  have h1 := hall e (by simpa using he) hb
  have h0 := (mem_ready.1 hi).1
  rcases Nat.lt_or_ge e.on listed.size with h' | h'
  · simp [h'] at h0 h1; rw [h0] at h1; cases h1
  · simp [Array.getElem?_eq_none h'] at h1
theorem wpAny_of_heldE {kl : Nat} {P : Program} {ops : Array Oper} {Q : Exit → Act → World → Prop} {md : Region.Mode} {S : World → Prop} : ∀ (fuel : Nat) (listed : Array Bool) (a : Act) (w : World), wpAnyE kl P md ops Q S fuel listed a w → wpAny P md ops Q fuel listed a w
  | 0, _, _, _, h => h
  | fuel + 1, _, _, _, h => ⟨h.1, fun i hi => wpOp_mono (fun a' w' h' => wpAny_of_heldE fuel _ a' w' h'.2) (h.2 i hi)⟩
theorem wpAnyE_first {kl : Nat} {P : Program} {ops : Array Oper} {Q : Exit → Act → World → Prop} {md : Region.Mode} {S : World → Prop} {i : Nat} {oi : Oper} {v : Value} (hi : ops[i]? = some oi) (hsel : ∀ (j : Nat) (o : Oper) cs b, ops[j]? = some o → o.op ≠ .select cs b)
    (hQ : ∀ c a w, Q (.panic c) (a.put oi.dst v) w → Q (.panic c) a w) (hkl : waitsB md ops kl i = true) :
    ∀ (fuel : Nat) (listed : Array Bool) (a : Act) (w : World),
      (∀ j oj, ops[j]? = some oj → j ≠ i → listed.getD j true = false → (∀ e ∈ oj.after, Region.binds md e = true → e.on ≠ i) → oi.apart ops oj = true) →
      i ∈ Region.ready md ops listed → YieldsIf P ops S oi v a → S w →
      wpAnyE kl P md ops Q S fuel (listed.setIfInBounds i true) (a.put oi.dst v) w → wpAnyE kl P md ops Q S (fuel + 1) listed a w := by
  intro fuel
  induction fuel with
  | zero =>
    intro listed a w _ hr hy hS H
    refine ⟨fun h => (by rw [h] at hr; cases hr), fun j hj => ?_⟩
    by_cases hji : j = i
    · subst hji; exact hy.wpOp hi hS ⟨fun _ => hS, H⟩
    · have := ready_mono hj hji
      rw [H.1] at this
      cases this
  | succ fuel ih =>
    intro listed a w hfree hr hy hS H
    refine ⟨fun h => (by rw [h] at hr; cases hr), fun j hj => ?_⟩
    by_cases hji : j = i
    · subst hji; exact hy.wpOp hi hS ⟨fun _ => hS, H⟩
    · have hjk : j ≠ kl := fun e => waits_not hkl hr (e ▸ hj)
      have h1 := H.2 j (ready_mono hj hji)
      obtain ⟨hjun, oj, hoj, hall⟩ := mem_ready.1 hj
      have hnot : ∀ e ∈ oj.after, Region.binds md e = true → e.on ≠ i := fun e he hb heq => by
        have h1 := hall e he hb
        have h0 := (mem_ready.1 hr).1
        rw [heq] at h1
        rcases Nat.lt_or_ge i listed.size with h' | h'
        · simp [h'] at h0 h1; rw [h0] at h1; cases h1
        · simp [Array.getElem?_eq_none h'] at h1
      have h2 := wpOp_putIf hoj (hfree j oj hoj hji hjun hnot) (fun cs b => hsel i oi cs b hi) (fun cs b => hsel j oj cs b hoj) hQ hy h1
      have hfree' : ∀ k ok, ops[k]? = some ok → k ≠ i → (listed.setIfInBounds j true).getD k true = false →
          (∀ e ∈ ok.after, Region.binds md e = true → e.on ≠ i) → oi.apart ops ok = true := fun k ok hk hki hun hno => by
        refine hfree k ok hk hki ?_ hno
        by_cases hjk : j = k
        · subst hjk; exact hjun
        · rw [getD_set_ne true hjk] at hun; exact hun
      refine wpOp_mono (fun a' w' h3 => ⟨fun _ => h3.2.1 hjk, ih (listed.setIfInBounds j true) a' w' hfree' (ready_mono hr (Ne.symm hji)) h3.1 (h3.2.1 hjk) ?_⟩) h2
      rw [Array.setIfInBounds_comm _ _ hji]
      exact h3.2.2
theorem wpAnyE_take {kl : Nat} {P : Program} {ops : Array Oper} {Q : Exit → Act → World → Prop} {md : Region.Mode} {S : World → Prop} {i : Nat} {oi : Oper} {v : Value} {fuel : Nat} {listed : Array Bool} {a : Act} {w : World} (hi : ops[i]? = some oi)
    (hs : Region.noSelect ops = true) (hf : Region.free md ops listed i = true) (hr : (Region.ready md ops listed).contains i = true) (hkl : waitsB md ops kl i = true)
    (hQ : ∀ c a w, Q (.panic c) (a.put oi.dst v) w → Q (.panic c) a w) (hy : YieldsIf P ops S oi v a) (hS : S w)
    (h : wpAnyE kl P md ops Q S fuel (listed.setIfInBounds i true) (a.put oi.dst v) w) : wpAnyE kl P md ops Q S (fuel + 1) listed a w :=
  wpAnyE_first hi (Region.noSelect_spec hs) hQ hkl fuel listed a w (Region.free_spec hi hf) (by simpa using hr) hy hS h
/-- Whether the operations of a list may be taken first, one behind the other. -/
def heldEB (kl : Nat) (md : Region.Mode) (ops : Array Oper) : List Nat → Array Bool → Bool
  | [], _ => true
  | i :: is, listed => (Region.ready md ops listed).contains i && Region.free md ops listed i && ((ops[i]?).map plainOp).getD false && waitsB md ops kl i && heldEB kl md ops is (listed.setIfInBounds i true)
theorem heldE_same {kl : Nat} {P : Program} {md : Region.Mode} {ops : Array Oper} {Q : Exit → Act → World → Prop} {S : World → Prop} (hs : Region.noSelect ops = true) (hQ : ∀ c a t v w, Q (.panic c) (Act.put a (some t) v) w → Q (.panic c) a w) (fuel : Nat) : ∀ (is : List Nat) (l : List Oper) (listed : Array Bool) (a : Act) (w : World), is.map (fun i => ops[i]?) = l.map some → heldEB kl md ops is listed = true → S w →
    wpQuiet P ops S (fun a' => wpAnyE kl P md ops Q S fuel (markAll is listed) a' w) l a → wpAnyE kl P md ops Q S (is.length + fuel) listed a w
  | [], [], listed, a, w, _, _, _, h => by rw [List.length_nil, Nat.zero_add]; exact h
  | [], _ :: _, _, _, _, e, _, _, _ => by cases e
  | _ :: _, [], _, _, _, e, _, _, _ => by cases e
  | i :: is, o :: l, listed, a, w, e, hB, hS, h => by
    simp only [List.map_cons, List.cons.injEq] at e
    simp only [heldEB, Bool.and_eq_true] at hB
    obtain ⟨⟨⟨⟨h1, h2⟩, h3⟩, h5⟩, h4⟩ := hB
    rw [e.1] at h3
    obtain ⟨v, hy, hK⟩ := yieldsIf_quiet (by simpa using h3) h
    rw [show (i :: is).length + fuel = (is.length + fuel) + 1 by simp; omega]
    exact wpAnyE_take e.1 hs h2 h1 h5 (fun c a w hq => by cases hd : o.dst with | none => rw [hd] at hq; exact hq | some t => rw [hd] at hq; exact hQ _ _ _ _ _ hq) hy hS (heldE_same hs hQ fuel is l _ _ w e.2 h4 hS hK)
/-- The beginning. -/
theorem heldE_begin {P : Program} {id : Nat} {Q : Exit → Act → World → Prop} {a : Act} {w : World} {l : List Oper} (kl : Nat) (C : World → Prop) (hm : P.follows .mixedOrders = true)
    (h : wpAnyE kl P .any l.toArray Q (fun w' => ∃ x : CW C, w' = x.w) l.length (Array.replicate l.length false) a w.drew) : (Code.region id l.toArray true).wp P Q a w :=
  wp_region_any hm (wpAny_of_heldE _ _ _ _ (by simpa using h))
theorem heldE_here {kl : Nat} {P : Program} {md : Region.Mode} {Q : Exit → Act → World → Prop} {C : World → Prop} {F : Nat} {listed : Array Bool} {a : Act} {w : World} {l : List Oper} (m : List Bool) (hs : Region.noSelect l.toArray = true) (hB : (decide (m.length ≤ l.length) && decide ((maskIx 0 m).length ≤ F) && heldEB kl md l.toArray (maskIx 0 m) listed) = true) (hQ : ∀ c a t v w, Q (.panic c) (Act.put a (some t) v) w → Q (.panic c) a w) (hC : C w)
    (h : wpQuiet P l.toArray (fun w' => ∃ x : CW C, w' = x.w) (fun a' => wpAnyE kl P md l.toArray Q (fun w' => ∃ x : CW C, w' = x.w) (F - (maskIx 0 m).length) (markAll (maskIx 0 m) listed) a' w) (pick l m) a) :
    wpAnyE kl P md l.toArray Q (fun w' => ∃ x : CW C, w' = x.w) F listed a w := by
  simp only [Bool.and_eq_true, decide_eq_true_eq] at hB
  obtain ⟨⟨h1, h2⟩, h3⟩ := hB
  have := heldE_same (P := P) (md := md) (Q := Q) (S := fun w' => ∃ x : CW C, w' = x.w) hs hQ (F - (maskIx 0 m).length) (maskIx 0 m) (pick l m) listed a w (pick_ix l l m 0 h1 (by simp)) h3 ⟨⟨w, hC⟩, rfl⟩ h
  rwa [show (maskIx 0 m).length + (F - (maskIx 0 m).length) = F by omega] at this
def AllReadyE (kl : Nat) (P : Program) (md : Region.Mode) (ops : Array Oper) (Q : Exit → Act → World → Prop) (C : World → Prop) (F : Nat) (listed : Array Bool) (a : Act) (w : World) (rs : List Nat) : Prop :=
  ∀ i ∈ rs, wpOp P ops Q i (fun a' w' => (i ≠ kl → ∃ x : CW C, w' = x.w) ∧ wpAnyE kl P md ops Q (fun w' => ∃ x : CW C, w' = x.w) F (listed.setIfInBounds i true) a' w') a w
theorem AllReadyE.cons {kl : Nat} {P : Program} {md : Region.Mode} {ops : Array Oper} {Q : Exit → Act → World → Prop} {C : World → Prop} {F : Nat} {listed : Array Bool} {a : Act} {w : World} {o : Oper} {k : Nat} {rs : List Nat} (ho : ops[k]? = some o)
    (h : ∀ K' : Act → World → Prop, Shut (∀ a w, (k ≠ kl → C w) → wpAnyE kl P md ops Q (fun w' => ∃ x : CW C, w' = x.w) F (listed.setIfInBounds k true) a w → K' a w) → if Region.wanted o (yielded ops a.tmps) = true then Oper.wp P o a w K' Q else K' (a.put o.dst undef) w)
    (hs : AllReadyE kl P md ops Q C F listed a w rs) : AllReadyE kl P md ops Q C F listed a w (k :: rs) := fun j hj => by
  rcases List.mem_cons.1 hj with rfl | hj
  · exact wpOp_step ho (fun K' hK => h K' (fun a w hS hW => hK a w ⟨fun hne => ⟨⟨w, hS hne⟩, rfl⟩, hW⟩))
  · exact hs j hj
theorem heldE_ready {kl : Nat} {P : Program} {md : Region.Mode} {ops : Array Oper} {Q : Exit → Act → World → Prop} {C : World → Prop} {F : Nat} {listed : Array Bool} {a : Act} {w : World} (rs : List Nat) (hr : Region.ready md ops listed = rs) (hne : rs ≠ []) (hF : decide (0 < F) = true)
    (h : AllReadyE kl P md ops Q C (F - 1) listed a w rs) : wpAnyE kl P md ops Q (fun w' => ∃ x : CW C, w' = x.w) F listed a w := by
  have hF' : F = (F - 1) + 1 := by simp only [decide_eq_true_eq] at hF; omega
  rw [hF']
  exact ⟨fun h0 => absurd (hr ▸ h0) hne, fun i hi => h i (hr ▸ hi)⟩
/-- One operation comes up. -/
theorem heldE_op {kl : Nat} {P : Program} {md : Region.Mode} {ops : Array Oper} {Q : Exit → Act → World → Prop} {C : World → Prop} {F : Nat} {listed : Array Bool} {a : Act} {w : World} {o : Oper} (k : Nat) (hr : Region.ready md ops listed = [k]) (hF : decide (0 < F) = true) (ho : ops[k]? = some o)
    (h : ∀ K' : Act → World → Prop, Shut (∀ a w, C w → wpAnyE kl P md ops Q (fun w' => ∃ x : CW C, w' = x.w) (F - 1) (listed.setIfInBounds k true) a w → K' a w) → if Region.wanted o (yielded ops a.tmps) = true then Oper.wp P o a w K' Q else K' (a.put o.dst undef) w) :
    wpAnyE kl P md ops Q (fun w' => ∃ x : CW C, w' = x.w) F listed a w :=
  heldE_ready [k] hr (by simp) hF (AllReadyE.cons ho (fun K' hK => h K' (fun a w hc hw => hK.out a w (fun _ => hc) hw)) (fun j hj => by cases hj))
/-- The last one. -/
theorem heldE_last {kl : Nat} {P : Program} {md : Region.Mode} {ops : Array Oper} {Q : Exit → Act → World → Prop} {C : World → Prop} {F : Nat} {listed : Array Bool} {a : Act} {w : World} {o : Oper} (hr : Region.ready md ops listed = [kl]) (hF : decide (0 < F) = true) (ho : ops[kl]? = some o)
    (h : ∀ K' : Act → World → Prop, Shut (∀ a w, wpAnyE kl P md ops Q (fun w' => ∃ x : CW C, w' = x.w) (F - 1) (listed.setIfInBounds kl true) a w → K' a w) → if Region.wanted o (yielded ops a.tmps) = true then Oper.wp P o a w K' Q else K' (a.put o.dst undef) w) :
    wpAnyE kl P md ops Q (fun w' => ∃ x : CW C, w' = x.w) F listed a w :=
  heldE_ready [kl] hr (by simp) hF (AllReadyE.cons ho (fun K' hK => h K' (fun a w hw => hK.out a w (fun hne => absurd rfl hne) hw)) (fun j hj => by cases hj))
theorem heldE_op2 {kl : Nat} {P : Program} {md : Region.Mode} {ops : Array Oper} {Q : Exit → Act → World → Prop} {C : World → Prop} {F : Nat} {listed : Array Bool} {a : Act} {w : World} {o o2 : Oper} (k k2 : Nat) (hr : Region.ready md ops listed = [k, k2]) (hF : decide (0 < F) = true) (ho : ops[k]? = some o) (ho2 : ops[k2]? = some o2)
    (h : ∀ K' : Act → World → Prop, Shut (∀ a w, C w → wpAnyE kl P md ops Q (fun w' => ∃ x : CW C, w' = x.w) (F - 1) (listed.setIfInBounds k true) a w → K' a w) → if Region.wanted o (yielded ops a.tmps) = true then Oper.wp P o a w K' Q else K' (a.put o.dst undef) w)
    (h2 : ∀ K' : Act → World → Prop, Shut (∀ a w, C w → wpAnyE kl P md ops Q (fun w' => ∃ x : CW C, w' = x.w) (F - 1) (listed.setIfInBounds k2 true) a w → K' a w) → if Region.wanted o2 (yielded ops a.tmps) = true then Oper.wp P o2 a w K' Q else K' (a.put o2.dst undef) w) :
    wpAnyE kl P md ops Q (fun w' => ∃ x : CW C, w' = x.w) F listed a w :=
  heldE_ready [k, k2] hr (by simp) hF (AllReadyE.cons ho (fun K' hK => h K' (fun a w hc hw => hK.out a w (fun _ => hc) hw)) (AllReadyE.cons ho2 (fun K' hK => h2 K' (fun a w hc hw => hK.out a w (fun _ => hc) hw)) (fun j hj => by cases hj)))
/-- A function is called (in either theory). -/
theorem call_op {P : Program} {ops : Array Oper} {Q : Exit → Act → World → Prop} {K : Act → World → Prop} {a : Act} {w : World} {o : Oper} {args : Array Operand} {ty : Array TypeId} (f d : Nat) (he : ∀ args w, (callFunc f args).run P w = .ok (.enter f args) w) (av : Array Value)
    (hop : o.op = .call ⟨.value (.func f), args, ty⟩) (hw : Region.wanted o (yielded ops a.tmps) = true) (hd : o.dst = some d) (hav : args.toList.map a.eval = av.toList)
    (h : Calls P f av w fun e w' => ∃ v, e = .returned v ∧ K (a.put (some d) v) w') : if Region.wanted o (yielded ops a.tmps) = true then Oper.wp P o a w K Q else K (a.put o.dst undef) w := by
  rw [if_pos hw]
  have hav : args.map a.eval = av := by apply Array.ext'; rw [Array.toList_map]; exact hav
  have hx : (execOp a.eval o).run P w = .ok (.enter f av) w := by
    unfold execOp
    rw [hop]
    simp [resolve, Deferred.ofValue, invoke, he, hav, Act.eval]
  unfold Oper.wp
  rw [hx]
  refine Calls.mono h ?_
  rintro e w' ⟨v, rfl, hn⟩
  show K (a.put o.dst v) w'
  rw [hd]
  exact hn
theorem heldE_done {kl : Nat} {P : Program} {md : Region.Mode} {ops : Array Oper} {Q : Exit → Act → World → Prop} {S : World → Prop} {F : Nat} {listed : Array Bool} {a : Act} {w : World} (hr : Region.ready md ops listed = []) (h : Q .normal a w) : wpAnyE kl P md ops Q S F listed a w := by
  cases F with
  | zero => exact ⟨hr, h⟩
  | succ F => exact ⟨fun _ => h, by rw [hr]; simp⟩
end Go.Proofs.YtoihhlkidlapmaaGreat

/- Whether a pack is ok. -/
namespace Go.Proofs.YtoihhlkidlapmaaGreat
open Go.RowKit Go.Shelf

def pkOk (p : PackD) : Bool := packB p.name.data.toList && versOk p.version.data.toList && ((p.needs.all needOkD && decide (p.needs.length ≤ 6)) && !twiceB (p.name :: namesN p.needs)) && treeB (entsD p.tree)
structure smallP (p : PackD) : Prop where
  name : p.name.size ≤ 1048576
  version : p.version.size ≤ 1048576
  needs : smallN p.needs
  tree : smallE (entsD p.tree)
theorem smallP_of {p : PackD} (h : packC.sz p ≤ 1048576) : smallP p := by
  rw [packC_sz] at h
  exact ⟨by omega, by omega, smallN_of (by omega), smallE_of (by omega)⟩
theorem twice_swap (n : ByteArray) (xs : List ByteArray) : twiceB (xs ++ [n]) = twiceB (n :: xs) := by
  unfold twiceB
  rw [show decide (xs ++ [n]).Nodup = decide (n :: xs).Nodup from decide_eq_decide.2 (List.perm_append_comm (l₁ := xs) (l₂ := [n])).nodup_iff]

set_option maxRecDepth 100000 in
set_option maxHeartbeats 4000000 in
theorem specPackOk_any (p : PackD) (cs : List Value) (w : World) (hs : smallP p) (h : packC.at_ w cs p) :
    Calls Tryz.prog 122 #[.agg cs.toArray] w fun x w' => x = .returned (.bool (pkOk p)) ∧ Below w.heap.size w w' := by
  obtain ⟨v2, v3, rfl, h2, h3⟩ := packC_at h
  obtain ⟨name, version, needs, tree⟩ := p
  obtain ⟨hsn, hsv, hsd, hst⟩ := hs
  dsimp only at *
  have H2 := hid h2
  obtain ⟨ta, tc, rfl, htn, htc, hte⟩ := entsD_at h3
  have H3 := hid hte
  have SN := hid hsn
  have SV := hid hsv
  have SD := hid hsd
  have ST := hid hst
  have EQ := hid (show pkOk ⟨name, version, needs, tree⟩ = (packB name.data.toList && versOk version.data.toList && ((needs.all needOkD && decide (needs.length ≤ 6)) && !twiceB (name :: namesN needs)) && treeB (entsD tree)) from rfl)
  clear h h2 h3 hsn hsv hsd hst htn htc hte
  go_enter Tryz.func122, Tryz.ntmps122
  go_wp2_with fail
  have hP := World.alloc_heap_new w (.cells #[.string name, .string version, v2, .slice ta (entsD tree).length tc] 34)
  have hB : Below w.heap.size w (w.alloc (.cells #[.string name, .string version, v2, .slice ta (entsD tree).length tc] 34)) := (Below.refl _ w).alloc (Nat.le_refl _) _
  have hS : w.heap.size < (w.alloc (.cells #[.string name, .string version, v2, .slice ta (entsD tree).length tc] 34)).heap.size := by simp
  generalize w.alloc (.cells #[.string name, .string version, v2, .slice ta (entsD tree).length tc] 34) = W0 at hP hB hS ⊢
  have HB := hid hB
  have JP := hid hP
  have JS := hid hS
  clear hB hP hS
  refine (l3Pack_any name (le_maxLen (unhid SN)) W0).mono ?_
  rintro x w1 ⟨rfl, hw⟩
  subst hw
  obtain c1 := cell_arrS (unhid JP) 1 _ rfl
  cases q1 : packB name.data.toList with
  | false =>
    go_wp2_with fail
    go_ret
    exact ⟨by rw [unhid EQ, q1]; rfl, unhid HB⟩
  | true =>
  go_wp2_with fail
  clear c1
  refine (specVersionOk_any version (unhid SV) _).mono ?_
  rintro x w2 ⟨rfl, hb⟩
  have HB2 := hid ((unhid HB).trans (hb.mono (unhid HB).size))
  have JP2 := hid ((hb.block _ (unhid JS)).trans (unhid JP))
  have JS2 := hid (Nat.lt_of_lt_of_le (unhid JS) hb.size)
  clear hb HB JP JS
  obtain c0 := cell_arrS (unhid JP2) 0 _ rfl
  obtain c2 := cell_arrS (unhid JP2) 2 _ rfl
  cases q2 : versOk version.data.toList with
  | false =>
    go_wp2_with fail
    go_ret
    exact ⟨by rw [unhid EQ, q1, q2]; rfl, unhid HB2⟩
  | true =>
  go_wp2_with fail
  clear c0 c2
  refine (l7Needs_any name needs v2 _ (unhid SD) ((unhid H2).below (unhid HB2))).mono ?_
  rintro x w3 ⟨rfl, hb⟩
  have HB3 := hid ((unhid HB2).trans (hb.mono (unhid HB2).size))
  have JP3 := hid ((hb.block _ (unhid JS2)).trans (unhid JP2))
  clear hb HB2 JP2 JS2
  obtain c3 := cell_arrS (unhid JP3) 3 _ rfl
  cases q3 : ((needs.all needOkD && decide (needs.length ≤ 6)) && !twiceB (name :: namesN needs)) with
  | false =>
    go_wp2_with fail
    go_ret
    exact ⟨by rw [unhid EQ, q1, q2, q3]; rfl, unhid HB3⟩
  | true =>
  go_wp2_with fail
  clear c3
  refine (specTreeOk_any (entsD tree) ta tc _ (unhid ST) ((unhid H3).below (unhid HB3))).mono ?_
  rintro x w4 ⟨rfl, hb⟩
  have HB4 := hid ((unhid HB3).trans (hb.mono (unhid HB3).size))
  clear hb HB3
  go_wp2_with fail
  go_ret
  exact ⟨by rw [unhid EQ, q1, q2, q3]; rfl, unhid HB4⟩

set_option maxRecDepth 100000 in
set_option maxHeartbeats 4000000 in
theorem packOk_any (p : PackD) (cs : List Value) (w : World) (hs : smallP p) (h : packC.at_ w cs p) :
    Calls Tryz.prog 60 #[.agg cs.toArray] w fun x w' => x = .returned (.bool (pkOk p)) ∧ Below w.heap.size w w' := by
  obtain ⟨v2, v3, rfl, h2, h3⟩ := packC_at h
  obtain ⟨name, version, needs, tree⟩ := p
  obtain ⟨hsn, hsv, hsd, hst⟩ := hs
  dsimp only at *
  have H2 := hid h2
  obtain ⟨ta, tc, rfl, htn, htc, hte⟩ := entsD_at h3
  obtain ⟨na, nc, rfl, -, -, -⟩ := h2
  have H3 := hid hte
  have SN := hid hsn
  have SV := hid hsv
  have SD := hid hsd
  have ST := hid hst
  have EQ := hid (show pkOk ⟨name, version, needs, tree⟩ = (packB name.data.toList && versOk version.data.toList && ((needs.all needOkD && decide (needs.length ≤ 6)) && !twiceB (name :: namesN needs)) && treeB (entsD tree)) from rfl)
  clear h h3 hsn hsv hsd hst htn htc hte
  go_enter Tryz.func60, Tryz.ntmps60
  go_wp2_with fail
  have hP := World.alloc_heap_new w (.cells #[.string name, .string version, .slice na needs.length nc, .slice ta (entsD tree).length tc] 34)
  have hB : Below w.heap.size w (w.alloc (.cells #[.string name, .string version, .slice na needs.length nc, .slice ta (entsD tree).length tc] 34)) := (Below.refl _ w).alloc (Nat.le_refl _) _
  have hS : w.heap.size < (w.alloc (.cells #[.string name, .string version, .slice na needs.length nc, .slice ta (entsD tree).length tc] 34)).heap.size := by simp
  generalize w.alloc (.cells #[.string name, .string version, .slice na needs.length nc, .slice ta (entsD tree).length tc] 34) = W0 at hP hB hS ⊢
  have HB := hid hB
  have JP := hid hP
  have JS := hid hS
  clear hB hP hS
  have g0 : ∀ x : CW (fun w' => Below W0.heap.size W0 w'), x.w.cell? ⟨w.heap.size, 0, none⟩ = some (.string name) := fun x => cell_arrS ((x.h.block _ (unhid JS)).trans (unhid JP)) 0 _ rfl
  have g2 : ∀ x : CW (fun w' => Below W0.heap.size W0 w'), x.w.cell? ⟨w.heap.size, 2, none⟩ = some (.slice na needs.length nc) := fun x => cell_arrS ((x.h.block _ (unhid JS)).trans (unhid JP)) 2 _ rfl
  have hba : ∀ {q : Prop}, (CW (fun w' => Below W0.heap.size W0 w') → q) ↔ q := CW.all (Below.refl _ W0)
  refine held_begin (fun w' => Below W0.heap.size W0 w') (by kernel_rfl) (drew_belowS _) ?_
  refine held_here [true, true, false, true, true] (by kernel_rfl) (by kernel_rfl) (fun _ _ _ _ _ h => h) (drew_belowS _) ?_
  dsimp only [pick]
  repeat (go_big_quiet_step (fail))
  refine wpQuiet_nil ?_
  clear hba g0 g2
  have hD := drew_belowS (B := W0.heap.size) W0
  generalize W0.drew = W1 at hD ⊢
  have HD := hid hD
  clear hD
  have HLT := hid (show w.heap.size < W0.heap.size from unhid JS)
  refine held_op2 2 5 (by kernel_rfl) (by kernel_rfl) rfl rfl (fun K hK => ?_) (fun K hK => ?_)
  · refine call_op 112 6 (enters_of Tryz.func112 (by kernel_rfl) rfl) #[.slice na needs.length nc, .func (.func 113) #[] #[]] rfl rfl rfl rfl ?_
    have H2b := hid (((unhid H2).below (unhid HB)).below ((unhid HD).mono (Nat.le_refl _)))
    refine (namesOfNeed_any needs _ W1 (unhid SD).1 (unhid H2b)).mono ?_
    rintro e W2 ⟨u, rfl, hown, hb⟩
    have hD2 : Below W0.heap.size W0 W2 := (unhid HD).trans (hb.mono (unhid HD).size)
    obtain ⟨ua, uc, hu, -, -, -⟩ := ownsRow_txts hown
    subst hu
    refine ⟨_, rfl, hK.out _ _ hD2 ?_⟩
    clear hK K
    simp only [Act.put, List.setIfInBounds_toArray, List.set_cons_zero, List.set_cons_succ]
    have ho2 := ownsRow_lowerS hown (unhid HD).size
    clear hown hb HD
    refine held_op 5 (by kernel_rfl) (by kernel_rfl) rfl (fun K hK => ?_)
    go_simp
    have HD2 := hid (hD2.alloc hD2.size (.cells #[.string name] 9))
    refine hK.out _ _ (unhid HD2) ?_
    clear hK K
    have HO := hid (ho2.alloc (.cells #[.string name] 9))
    have HC := hid (cell_newN W2 (.string name) 9)
    clear ho2 hD2
    generalize W2.alloc (.cells #[.string name] 9) = W3 at HD2 HO HC ⊢
    generalize W2.heap.size = gx at HC ⊢
    -- the names are one row
    refine held_name 6 10 W0.heap.size (.slice ua (namesN needs).length uc) (namesN needs) name gx (by kernel_rfl) (by kernel_rfl) rfl rfl rfl rfl rfl rfl (unhid HO) (unhid HC) (by have := (unhid SD).1; rw [namesN_len]; omega) (unhid HD2).size ?_
    intro v' W5 hown hg
    have hD5 : Below W0.heap.size W0 W5 := grown_belowN (unhid HD2) hg (fun j ej => ((unhid HO).lt j ej).1)
    refine ⟨hD5, ?_⟩
    simp only [Act.put, List.setIfInBounds_toArray, List.set_cons_zero, List.set_cons_succ]
    have HO5 := hid hown
    have HD5 := hid hD5
    clear hown hg HO HC HD2 hD5
    have hba : ∀ {q : Prop}, (CW (fun w' => Below W0.heap.size W0 w') → q) ↔ q := CW.all (Below.refl _ W0)
    refine held_here [false, false, false, false, false, false, false, true] (by kernel_rfl) (by kernel_rfl) (fun _ _ _ _ _ h => h) (unhid HD5) ?_
    dsimp only [pick]
    repeat (go_big_quiet_step (fail))
    refine wpQuiet_nil ?_
    refine held_done (by kernel_rfl) ?_
    clear hba
    obtain ⟨va, vc, hv, -, -, -⟩ := ownsRow_txts (unhid HO5)
    subst hv
    have HNM := hid (twice_swap name (namesN needs))
    have HNL := hid (show (namesN needs ++ [name]).length = needs.length + 1 by rw [List.length_append, namesN_len]; rfl)
    generalize namesN needs ++ [name] = nm at *
    have HB5 := hid ((unhid HB).trans ((unhid HD5).mono (unhid HB).size))
    have JP5 := hid (((unhid HD5).block _ (unhid JS)).trans (unhid JP))
    have JS5 := hid (Nat.lt_of_lt_of_le (unhid JS) (unhid HD5).size)
    have HN5 := hid (unhid HB).size
    clear HD5 HB JP JS H2b
    have c0 := cell_arrS (unhid JP5) 0 _ rfl
    go_wp2_with fail
    clear c0
    refine (packNameOk_any name (le_maxLen (unhid SN)) _).mono ?_
    rintro x w1 ⟨rfl, hb⟩
    have HB6 := hid ((unhid HB5).trans (hb.mono (unhid HB5).size))
    have JP6 := hid ((hb.block _ (unhid JS5)).trans (unhid JP5))
    have JS6 := hid (Nat.lt_of_lt_of_le (unhid JS5) hb.size)
    have HO6 := hid (ownsRow_belowS (unhid HO5) hb)
    clear hb HB5 JP5 JS5 HO5
    have c1 := cell_arrS (unhid JP6) 1 _ rfl
    cases q1 : packB name.data.toList with
    | false =>
      go_wp2_with fail
      go_ret
      exact ⟨by rw [unhid EQ, q1]; rfl, unhid HB6⟩
    | true =>
    go_wp2_with fail
    clear c1
    refine (VersionOk_any version (le_maxLen (unhid SV)) _).mono ?_
    rintro x w2 ⟨rfl, hb⟩
    have HB7 := hid ((unhid HB6).trans (hb.mono (unhid HB6).size))
    have JP7 := hid ((hb.block _ (unhid JS6)).trans (unhid JP6))
    have JS7 := hid (Nat.lt_of_lt_of_le (unhid JS6) hb.size)
    have HO7 := hid (ownsRow_belowS (unhid HO6) hb)
    clear hb HB6 JP6 JS6 HO6
    have c2 := cell_arrS (unhid JP7) 2 _ rfl
    cases q2 : versOk version.data.toList with
    | false =>
      go_wp2_with fail
      go_ret
      exact ⟨by rw [unhid EQ, q1, q2]; rfl, unhid HB7⟩
    | true =>
    go_wp2_with fail
    clear c2
    refine (listOkNeed_any needs _ _ (unhid SD) ((unhid H2).below (unhid HB7))).mono ?_
    rintro x w3 ⟨rfl, hb⟩
    have HB8 := hid ((unhid HB7).trans (hb.mono (unhid HB7).size))
    have JP8 := hid ((hb.block _ (unhid JS7)).trans (unhid JP7))
    have JS8 := hid (Nat.lt_of_lt_of_le (unhid JS7) hb.size)
    have HO8 := hid (ownsRow_belowS (unhid HO7) hb)
    clear hb HB7 JP7 JS7 HO7
    cases q3 : (needs.all needOkD && decide (needs.length ≤ 6)) with
    | false =>
      go_wp2_with fail
      go_ret
      exact ⟨by rw [unhid EQ, q1, q2, q3]; rfl, unhid HB8⟩
    | true =>
    have hnl : needs.length ≤ 6 := by
      rw [Bool.and_eq_true] at q3
      exact of_decide_eq_true q3.2
    have hnn : nm.length ≤ 4294967296 := by rw [unhid HNL]; omega
    have HT := hid (anyTwice_any nm _ W0.heap.size w3 hnn (unhid HO8))
    have hlo := hid (show ∀ j, (Value.slice va nm.length vc).ownBlock = some j → W0.heap.size ≤ j from fun j ej => ((unhid HO8).lt j ej).1)
    clear hnl hnn HO8
    go_wp2_with fail
    refine (unhid HT).mono ?_
    rintro x w4 ⟨rfl, hg⟩
    have HB9 := hid (grown_belowN (unhid HB8) hg (fun j ej => Nat.le_trans (unhid HN5) (unhid hlo j ej)))
    have JP9 := hid ((hg.block _ (unhid JS8) (fun e => by have h1 := unhid hlo _ e.symm; have h2 := unhid HLT; omega)).trans (unhid JP8))
    clear hg HT hlo HB8 JP8 JS8 HN5
    rw [unhid HNM]
    have c3 := cell_arrS (unhid JP9) 3 _ rfl
    cases q4 : twiceB (name :: namesN needs) with
    | true =>
      go_wp2_with fail
      go_ret
      exact ⟨by rw [unhid EQ, q1, q2, q3, q4]; rfl, unhid HB9⟩
    | false =>
    go_wp2_with fail
    clear c3
    refine (treeOkP_any (entsD tree) ta tc _ (unhid ST) ((unhid H3).below (unhid HB9))).mono ?_
    rintro x w5 ⟨rfl, hb⟩
    have HBa := hid ((unhid HB9).trans (hb.mono (unhid HB9).size))
    clear hb HB9
    go_wp2_with fail
    go_ret
    exact ⟨by rw [unhid EQ, q1, q2, q3, q4]; rfl, unhid HBa⟩
  · go_simp
    have HDb := hid ((unhid HD).alloc (unhid HD).size (.cells #[.string name] 9))
    refine hK.out _ _ (unhid HDb) ?_
    clear hK K
    have hC0 := cell_newN W1 (.string name) 9
    have hlt0 : W1.heap.size < (W1.alloc (.cells #[.string name] 9)).heap.size := by simp
    clear HD
    generalize W1.alloc (.cells #[.string name] 9) = W2 at HDb hC0 hlt0 ⊢
    generalize W1.heap.size = gx at hC0 hlt0 ⊢
    have HC0 := hid hC0
    have HLT0 := hid hlt0
    clear hC0 hlt0
    refine held_op 2 (by kernel_rfl) (by kernel_rfl) rfl (fun K hK => ?_)
    refine call_op 112 6 (enters_of Tryz.func112 (by kernel_rfl) rfl) #[.slice na needs.length nc, .func (.func 113) #[] #[]] rfl rfl rfl rfl ?_
    have H2b := hid (((unhid H2).below (unhid HB)).below ((unhid HDb).mono (Nat.le_refl _)))
    refine (namesOfNeed_any needs _ W2 (unhid SD).1 (unhid H2b)).mono ?_
    rintro e W3 ⟨u, rfl, hown, hb⟩
    have HD2 := hid ((unhid HDb).trans (hb.mono (unhid HDb).size))
    obtain ⟨ua, uc, hu, -, -, -⟩ := ownsRow_txts hown
    subst hu
    refine ⟨_, rfl, hK.out _ _ (unhid HD2) ?_⟩
    clear hK K
    simp only [Act.put, List.setIfInBounds_toArray, List.set_cons_zero, List.set_cons_succ]
    have HO := hid (ownsRow_lowerS hown (unhid HDb).size)
    have HC := hid ((hb.cell (p := ⟨gx, 0, none⟩) (unhid HLT0)).trans (unhid HC0))
    clear hown hb HDb HC0 HLT0
    -- the names are one row
    refine held_name 6 10 W0.heap.size (.slice ua (namesN needs).length uc) (namesN needs) name gx (by kernel_rfl) (by kernel_rfl) rfl rfl rfl rfl rfl rfl (unhid HO) (unhid HC) (by have := (unhid SD).1; rw [namesN_len]; omega) (unhid HD2).size ?_
    intro v' W5 hown hg
    have hD5 : Below W0.heap.size W0 W5 := grown_belowN (unhid HD2) hg (fun j ej => ((unhid HO).lt j ej).1)
    refine ⟨hD5, ?_⟩
    simp only [Act.put, List.setIfInBounds_toArray, List.set_cons_zero, List.set_cons_succ]
    have HO5 := hid hown
    have HD5 := hid hD5
    clear hown hg HO HC HD2 hD5
    have hba : ∀ {q : Prop}, (CW (fun w' => Below W0.heap.size W0 w') → q) ↔ q := CW.all (Below.refl _ W0)
    refine held_here [false, false, false, false, false, false, false, true] (by kernel_rfl) (by kernel_rfl) (fun _ _ _ _ _ h => h) (unhid HD5) ?_
    dsimp only [pick]
    repeat (go_big_quiet_step (fail))
    refine wpQuiet_nil ?_
    refine held_done (by kernel_rfl) ?_
    clear hba
    obtain ⟨va, vc, hv, -, -, -⟩ := ownsRow_txts (unhid HO5)
    subst hv
    have HNM := hid (twice_swap name (namesN needs))
    have HNL := hid (show (namesN needs ++ [name]).length = needs.length + 1 by rw [List.length_append, namesN_len]; rfl)
    generalize namesN needs ++ [name] = nm at *
    have HB5 := hid ((unhid HB).trans ((unhid HD5).mono (unhid HB).size))
    have JP5 := hid (((unhid HD5).block _ (unhid JS)).trans (unhid JP))
    have JS5 := hid (Nat.lt_of_lt_of_le (unhid JS) (unhid HD5).size)
    have HN5 := hid (unhid HB).size
    clear HD5 HB JP JS H2b
    have c0 := cell_arrS (unhid JP5) 0 _ rfl
    go_wp2_with fail
    clear c0
    refine (packNameOk_any name (le_maxLen (unhid SN)) _).mono ?_
    rintro x w1 ⟨rfl, hb⟩
    have HB6 := hid ((unhid HB5).trans (hb.mono (unhid HB5).size))
    have JP6 := hid ((hb.block _ (unhid JS5)).trans (unhid JP5))
    have JS6 := hid (Nat.lt_of_lt_of_le (unhid JS5) hb.size)
    have HO6 := hid (ownsRow_belowS (unhid HO5) hb)
    clear hb HB5 JP5 JS5 HO5
    have c1 := cell_arrS (unhid JP6) 1 _ rfl
    cases q1 : packB name.data.toList with
    | false =>
      go_wp2_with fail
      go_ret
      exact ⟨by rw [unhid EQ, q1]; rfl, unhid HB6⟩
    | true =>
    go_wp2_with fail
    clear c1
    refine (VersionOk_any version (le_maxLen (unhid SV)) _).mono ?_
    rintro x w2 ⟨rfl, hb⟩
    have HB7 := hid ((unhid HB6).trans (hb.mono (unhid HB6).size))
    have JP7 := hid ((hb.block _ (unhid JS6)).trans (unhid JP6))
    have JS7 := hid (Nat.lt_of_lt_of_le (unhid JS6) hb.size)
    have HO7 := hid (ownsRow_belowS (unhid HO6) hb)
    clear hb HB6 JP6 JS6 HO6
    have c2 := cell_arrS (unhid JP7) 2 _ rfl
    cases q2 : versOk version.data.toList with
    | false =>
      go_wp2_with fail
      go_ret
      exact ⟨by rw [unhid EQ, q1, q2]; rfl, unhid HB7⟩
    | true =>
    go_wp2_with fail
    clear c2
    refine (listOkNeed_any needs _ _ (unhid SD) ((unhid H2).below (unhid HB7))).mono ?_
    rintro x w3 ⟨rfl, hb⟩
    have HB8 := hid ((unhid HB7).trans (hb.mono (unhid HB7).size))
    have JP8 := hid ((hb.block _ (unhid JS7)).trans (unhid JP7))
    have JS8 := hid (Nat.lt_of_lt_of_le (unhid JS7) hb.size)
    have HO8 := hid (ownsRow_belowS (unhid HO7) hb)
    clear hb HB7 JP7 JS7 HO7
    cases q3 : (needs.all needOkD && decide (needs.length ≤ 6)) with
    | false =>
      go_wp2_with fail
      go_ret
      exact ⟨by rw [unhid EQ, q1, q2, q3]; rfl, unhid HB8⟩
    | true =>
    have hnl : needs.length ≤ 6 := by
      rw [Bool.and_eq_true] at q3
      exact of_decide_eq_true q3.2
    have hnn : nm.length ≤ 4294967296 := by rw [unhid HNL]; omega
    have HT := hid (anyTwice_any nm _ W0.heap.size w3 hnn (unhid HO8))
    have hlo := hid (show ∀ j, (Value.slice va nm.length vc).ownBlock = some j → W0.heap.size ≤ j from fun j ej => ((unhid HO8).lt j ej).1)
    clear hnl hnn HO8
    go_wp2_with fail
    refine (unhid HT).mono ?_
    rintro x w4 ⟨rfl, hg⟩
    have HB9 := hid (grown_belowN (unhid HB8) hg (fun j ej => Nat.le_trans (unhid HN5) (unhid hlo j ej)))
    have JP9 := hid ((hg.block _ (unhid JS8) (fun e => by have h1 := unhid hlo _ e.symm; have h2 := unhid HLT; omega)).trans (unhid JP8))
    clear hg HT hlo HB8 JP8 JS8 HN5
    rw [unhid HNM]
    have c3 := cell_arrS (unhid JP9) 3 _ rfl
    cases q4 : twiceB (name :: namesN needs) with
    | true =>
      go_wp2_with fail
      go_ret
      exact ⟨by rw [unhid EQ, q1, q2, q3, q4]; rfl, unhid HB9⟩
    | false =>
    go_wp2_with fail
    clear c3
    refine (treeOkP_any (entsD tree) ta tc _ (unhid ST) ((unhid H3).below (unhid HB9))).mono ?_
    rintro x w5 ⟨rfl, hb⟩
    have HBa := hid ((unhid HB9).trans (hb.mono (unhid HB9).size))
    clear hb HB9
    go_wp2_with fail
    go_ret
    exact ⟨by rw [unhid EQ, q1, q2, q3, q4]; rfl, unhid HBa⟩
end Go.Proofs.YtoihhlkidlapmaaGreat

/- Packs in a row: read; whether they are by name; where one is. -/
namespace Go.Proofs.YtoihhlkidlapmaaGreat
open Go.RowKit Go.Shelf

/-- An operation whose guard says no. -/
theorem held_skip {P : Program} {md : Region.Mode} {ops : Array Oper} {Q : Exit → Act → World → Prop} {C : World → Prop} {F : Nat} {listed : Array Bool} {a : Act} {w : World} {o : Oper} (k d : Nat) (hr : Region.ready md ops listed = [k]) (hF : decide (0 < F) = true) (ho : ops[k]? = some o) (hw : Region.wanted o (yielded ops a.tmps) = false) (hd : o.dst = some d) (hC : C w)
    (h : wpAnyH P md ops Q (fun w' => ∃ x : CW C, w' = x.w) (F - 1) (listed.setIfInBounds k true) (a.put (some d) undef) w) : wpAnyH P md ops Q (fun w' => ∃ x : CW C, w' = x.w) F listed a w := by
  refine held_op k hr hF ho (fun K hK => ?_)
  rw [if_neg (by rw [hw]; exact Bool.false_ne_true)]
  refine hK.out _ _ hC ?_
  rw [hd]
  exact h
def smallPs (ps : List packC.D) : Prop := ps.length ≤ 1048576 ∧ ∀ p ∈ ps, smallP p
theorem smallPs_of {ps : List packC.D} (h : ps.length + szR packC ps ≤ 1048576) : smallPs ps :=
  ⟨by omega, fun p hp => smallP_of (by have := szR_mem hp; omega)⟩
def namesP (ps : List packC.D) : List ByteArray := List.map (α := packC.D) (fun p => PackD.name p) ps
theorem namesP_len (ps : List packC.D) : (namesP ps).length = ps.length := by unfold namesP; exact List.length_map _
theorem namesP_get {ps : List packC.D} {k : Nat} {p : packC.D} (h : ps[k]? = some p) : (namesP ps)[k]? = some (PackD.name p) := by unfold namesP; rw [List.getElem?_map, h]; rfl
theorem namesP_some {ps : List packC.D} {k : Nat} {x : ByteArray} (h : (namesP ps)[k]? = some x) : ∃ p : packC.D, ps[k]? = some p ∧ PackD.name p = x := by
  unfold namesP at h
  rw [List.getElem?_map] at h
  cases hd : ps[k]? with
  | none => rw [hd] at h; cases h
  | some p => rw [hd] at h; exact ⟨p, rfl, by simpa using h⟩
/-- The cells of one of the packs, and what its slices are. -/
theorem pack_cells {W w : World} {b o : Nat} {ps : List packC.D} {k : Nat} {e : packC.D} (hB : Below w.heap.size w W) (hbl : b < w.heap.size) (hc : ∀ (i : Nat) d, ps[i]? = some d → ∃ cs, packC.at_ w cs d ∧ ∀ j c, cs[j]? = some c → w.cell? ⟨b, o + i * packC.n + j, none⟩ = some c) (he : ps[k]? = some e) :
    ∃ (na : Option Addr) (nc : Nat) (ta : Option Addr) (tc : Nat), (W.cell? ⟨b, o + k * 4, none⟩ = some (.string (PackD.name e)) ∧ W.cell? ⟨b, o + k * 4 + 1, none⟩ = some (.string (PackD.version e)) ∧ W.cell? ⟨b, o + k * 4 + 2, none⟩ = some (.slice na (PackD.needs e).length nc) ∧ W.cell? ⟨b, o + k * 4 + 3, none⟩ = some (.slice ta (PackD.tree e).length tc)) ∧
      packC.at_ W [.string (PackD.name e), .string (PackD.version e), .slice na (PackD.needs e).length nc, .slice ta (PackD.tree e).length tc] e := by
  obtain ⟨cs, hat, hcell⟩ := hc k e he
  have hat2 := packC.below hat hB
  obtain ⟨v2, v3, rfl, h2, h3⟩ := packC_at hat
  obtain ⟨na, nc, rfl, -⟩ := rowAt.slice h2
  obtain ⟨ta, tc, rfl, -⟩ := rowAt.slice h3
  exact ⟨na, nc, ta, tc, ⟨(hB.cell (p := ⟨b, o + k * 4 + 0, none⟩) hbl).trans (hcell 0 _ rfl), (hB.cell (p := ⟨b, o + k * 4 + 1, none⟩) hbl).trans (hcell 1 _ rfl), (hB.cell (p := ⟨b, o + k * 4 + 2, none⟩) hbl).trans (hcell 2 _ rfl), (hB.cell (p := ⟨b, o + k * 4 + 3, none⟩) hbl).trans (hcell 3 _ rfl)⟩, hat2⟩


end Go.Proofs.YtoihhlkidlapmaaGreat

/- What the laws hand over of a need. -/
namespace Go.Proofs.YtoihhlkidlapmaaGreat
open Go.RowKit


end Go.Proofs.YtoihhlkidlapmaaGreat

/- Whether a pack is what is needed: by the program and by its model. -/
namespace Go.Proofs.YtoihhlkidlapmaaGreat
open Go.RowKit

/-- What a kind asks of the order of two versions. -/
def kindB (k o : Int) : Bool := if k = 1 then o == 0 else if k = 2 then decide (0 ≤ o) else if k = 3 then decide (o < 0) else true









end Go.Proofs.YtoihhlkidlapmaaGreat

/- Whether all that packs need is there, by the model. -/
namespace Go.Proofs.YtoihhlkidlapmaaGreat
open Go.RowKit Go.Shelf

def fitOne (n : needC.D) (q : packC.D) : Bool := decide (PackD.name q = NeedD.name n) && kindB (NeedD.kind n) (ordI (PackD.version q).data.toList (NeedD.version n).data.toList)
def hasNeed (ps : List packC.D) (n : needC.D) : Bool := List.any (α := packC.D) ps (fitOne n)
def needsOf (p : packC.D) : List needC.D := PackD.needs p
theorem need_in {W : World} {e : packC.D} {na ta : Option Addr} {nc tc : Nat} (h : packC.at_ W [.string (PackD.name e), .string (PackD.version e), .slice na (PackD.needs e).length nc, .slice ta (PackD.tree e).length tc] e) {j : Nat} {n : needC.D} (hn : (needsOf e)[j]? = some n) :
    ∃ b o, na = some ⟨b, o, none⟩ ∧ b < W.heap.size ∧ (W.cell? ⟨b, o + j * 3, none⟩ = some (.string (NeedD.name n)) ∧ W.cell? ⟨b, o + j * 3 + 1, none⟩ = some (.int .i64 (NeedD.kind n)) ∧ W.cell? ⟨b, o + j * 3 + 2, none⟩ = some (.string (NeedD.version n))) := by
  obtain ⟨v2, v3, e1, h2, h3⟩ := packC_at h
  injection e1 with _ e1
  injection e1 with _ e1
  injection e1 with e2 _
  subst e2
  obtain ⟨a, cap, ev, -, -, hr⟩ := h2
  injection ev with ea _ _
  subst ea
  rcases hr with hr | ⟨b, o, ha, hl, hc⟩
  · have : needsOf e = [] := hr
    rw [this] at hn; cases hn
  · exact ⟨b, o, ha, hl, need_cells (Below.refl _ W) hl hc hn⟩

end Go.Proofs.YtoihhlkidlapmaaGreat

/- Packs and what they need, as names; the model of Closure. -/
namespace Go.Proofs.YtoihhlkidlapmaaGreat
open Go.RowKit Go.Shelf

def memB (q : ByteArray) (xs : List ByteArray) : Bool := xs.any fun x => decide (x = q)
theorem memB_iff {q : ByteArray} {xs : List ByteArray} : memB q xs = true ↔ q ∈ xs := by
  unfold memB
  rw [List.any_eq_true]
  constructor
  · rintro ⟨x, hx, e⟩
    rw [decide_eq_true_eq] at e
    exact e ▸ hx
  · exact fun h => ⟨q, h, decide_eq_true rfl⟩
theorem memB_yes {q : ByteArray} {xs : List ByteArray} (h : q ∈ xs) : memB q xs = true := memB_iff.2 h
theorem memB_no {q : ByteArray} {xs : List ByteArray} (h : q ∉ xs) : memB q xs = false := by
  cases e : memB q xs with
  | false => rfl
  | true => exact absurd (memB_iff.1 e) h
theorem nodup_inj {xs : List ByteArray} (h : xs.Nodup) {i j : Nat} {x : ByteArray} (hi : xs[i]? = some x) (hj : xs[j]? = some x) : i = j := by
  rw [List.nodup_iff_pairwise_ne, List.pairwise_iff_getElem] at h
  obtain ⟨hil, ei⟩ := List.getElem?_eq_some_iff.1 hi
  obtain ⟨hjl, ej⟩ := List.getElem?_eq_some_iff.1 hj
  rcases Nat.lt_trichotomy i j with h1 | h1 | h1
  · exact absurd (ei.trans ej.symm) (h i j hil hjl h1)
  · exact h1
  · exact absurd (ej.trans ei.symm) (h j i hjl hil h1)
/-- What a pack needs, by name, and whether it is there as it must be. -/
def asksOf (ps : List packC.D) (p : packC.D) : List (ByteArray × Bool) := (needsOf p).map fun n => (NeedD.name n, hasNeed ps n)



def allPk (ps : List packC.D) : Bool := List.all (α := packC.D) ps pkOk
theorem allPk_no {ps : List packC.D} {k : Nat} {p : packC.D} (h : ps[k]? = some p) (hq : pkOk p = false) : allPk ps = false := all_no (p := fun q : packC.D => pkOk q) h hq
def packsCode (ps : List packC.D) : Int := if allPk ps then (if twiceB (namesP ps) then 2 else 0) else 1
set_option maxRecDepth 100000 in
set_option maxHeartbeats 4000000 in
theorem l8Packs_any (ps : List packC.D) (v : Value) (w : World) (hs : smallPs ps) (h : rowAt packC w v ps) :
    Calls Tryz.prog 65 #[v] w fun x w' => x = .returned (.int .i64 (packsCode ps)) ∧ Below w.heap.size w w' := by
  obtain ⟨a, cap, rfl, -, -, h⟩ := h
  have hlen := hs.1
  have HSM := hid hs
  have H := hid h
  clear h hs
  have HO := hid (ownsRow_made0 w)
  have HB := hid (show Below w.heap.size w (w.alloc (.cells #[] 9)) from (Below.refl _ w).alloc (Nat.le_refl _) _)
  go_enter Tryz.func65, Tryz.ntmps65
  go_wp2_with fail
  generalize w.alloc (.cells #[] 9) = wa at HO HB ⊢
  go_loopw [3, 4] (fun s i wr => ∃ (k : Nat) (oa : Option Addr) (oc : Nat), k ≤ ps.length ∧ i = .int .i64 (k : Int) ∧ s = .slice oa k oc ∧ Hid (allPk (ps.take k) = true) ∧ Hid (wr.ownsRow w.heap.size 9 1 (.slice oa k oc) ((namesP ps).take k).length (((namesP ps).take k).map Value.string)) ∧ Hid (Below w.heap.size w wr)) (fun _ i _ => ps.length - (intOf i).toNat)
  case atStart => exact ⟨0, _, _, Nat.zero_le _, rfl, rfl, hid rfl, HO, HB⟩
  case round =>
    clear HO HB
    obtain ⟨k, oa, oc, hk, rfl, rfl, HA, HO, HB⟩ := hrel
    by_cases hlt : k < ps.length
    · obtain ⟨e, he⟩ : ∃ e, ps[k]? = some e := ⟨ps[k], List.getElem?_eq_getElem hlt⟩
      obtain ⟨b, o, rfl, hbl, hc⟩ := (unhid H).resolve_left (by intro e; subst e; simp at hlt)
      obtain ⟨na, nc, ta, tc, ⟨c0, c1, c2, c3⟩, hat⟩ := pack_cells (unhid HB) hbl hc he
      have HAT := hid hat
      have HE := hid he
      have HX := hid (namesP_get he)
      have HC := hid hc
      have HBL := hid hbl
      have SP := hid ((unhid HSM).2 e (List.mem_of_getElem? he))
      clear hc he hbl hat
      go_wp2_with fail
      refine (specPackOk_any e _ wr (unhid SP) (unhid HAT)).mono ?_
      rintro x w2 ⟨rfl, hb⟩
      have HB2 := hid ((unhid HB).trans (hb.mono (unhid HB).size))
      have HO2 := hid (ownsRow_belowS (unhid HO) hb)
      clear hb c0 c1 c2 c3 HB HO HAT
      cases hq : pkOk e with
      | false =>
        have E := hid (show packsCode ps = 1 by unfold packsCode; rw [allPk_no (unhid HE) hq]; rfl)
        go_wp2_with fail
        go_ret
        exact ⟨by rw [unhid E]; rfl, unhid HB2⟩
      | true =>
        have HQ := hid hq
        obtain ⟨na, nc, ta, tc, ⟨c0, c1, c2, c3⟩, -⟩ := pack_cells (unhid HB2) (unhid HBL) (unhid HC) (unhid HE)
        have c0 := fun x => Go.Lib.cell?_alloc_some x c0
        clear hq c1 c2 c3
        have HO3 := hid ((unhid HO2).alloc (.cells #[.string (PackD.name e)] 9))
        have HB3 := hid ((unhid HB2).alloc (unhid HB2).size (.cells #[.string (PackD.name e)] 9))
        have HC3 := hid (cell_newN w2 (.string (PackD.name e)) 9)
        have hlo := hid (show ∀ j, (Value.slice oa k oc).ownBlock = some j → w.heap.size ≤ j from fun j ej => ((unhid HO2).lt j ej).1)
        have HKL := hid (show ((namesP ps).take k).length ≤ 1048576 by rw [List.length_take]; omega)
        have HSZ := hid (unhid HB3).size
        clear HO2 HB2
        obtain ⟨na, nc, ta, tc, ⟨c0, c1, c2, c3⟩, -⟩ := pack_cells (unhid HB3) (unhid HBL) (unhid HC) (unhid HE)
        clear c1 c2 c3
        go_wp2_with (at_builtin; refine wp_name rfl _ _ rfl w.heap.size (.slice oa k oc) ((namesP ps).take k) (PackD.name e) w2.heap.size rfl rfl (unhid HO3) (unhid HC3) (by have := unhid HKL; omega) (unhid HSZ) ?_)
        intro v' w4 hown hg
        have ho3 := ownsRow_take (unhid HX) (W := w4) (N := w.heap.size) (v := v') (by simpa using hown)
        have HB4 := hid (grown_belowN (unhid HB3) hg (unhid hlo))
        obtain ⟨oa2, oc2, hv, -⟩ := ownsRow_txts ho3
        have hk1 : ((namesP ps).take (k + 1)).length = k + 1 := by rw [List.length_take, namesP_len]; omega
        rw [hk1] at hv
        subst hv
        have HO4 := hid ho3
        clear hown hg hlo HC3 HB3 HO3 HSZ HKL ho3 hk1 c0
        go_wp2_with fail
        go_roundw
        case rel => exact ⟨k + 1, oa2, oc2, by omega, by go_num, rfl, hid (all_take_next (p := fun q : packC.D => pkOk q) (unhid HE) (unhid HA) (unhid HQ)), HO4, HB4⟩
        case measure => simp [intOf]; omega
    · have e : k = ps.length := by omega
      subst e
      have hnl : (namesP ps).length = ps.length := namesP_len ps
      have ho := unhid HO
      rw [List.take_of_length_le (by rw [hnl]; exact Nat.le_refl _)] at ho
      obtain ⟨a2, c2, e1, hat, -, -⟩ := ownsRow_txts ho
      rw [hnl] at e1
      injection e1 with e2 _ e3
      subst e2 e3
      have HT := hid (l4Twice_any (namesP ps) oa oc wr (by unfold maxLen; omega) hat)
      rw [hnl] at HT
      have EA := hid (show allPk ps = true by have := unhid HA; rw [List.take_of_length_le (Nat.le_refl _)] at this; exact this)
      clear ho hat hnl HO
      go_wp2_with fail
      refine (unhid HT).mono ?_
      rintro x w3 ⟨rfl, hb⟩
      have HB3 := hid ((unhid HB).trans (hb.mono (unhid HB).size))
      clear hb HT
      cases hq : twiceB (namesP ps) with
      | false =>
        have E := hid (show packsCode ps = 0 by unfold packsCode; rw [unhid EA, hq]; rfl)
        go_wp2_with fail
        go_ret
        exact ⟨by rw [unhid E]; rfl, unhid HB3⟩
      | true =>
        have E := hid (show packsCode ps = 2 by unfold packsCode; rw [unhid EA, hq]; rfl)
        go_wp2_with fail
        go_ret
        exact ⟨by rw [unhid E]; rfl, unhid HB3⟩
end Go.Proofs.YtoihhlkidlapmaaGreat

/- Closure, by the model. -/
namespace Go.Proofs.YtoihhlkidlapmaaGreat
open Go.RowKit Go.Shelf



theorem packs_code {ps : List packC.D} (h1 : allPk ps = true) (h2 : (namesP ps).Nodup) : packsCode ps = 0 := by
  unfold packsCode twiceB
  rw [if_pos h1, if_neg (by simp [h2])]

end Go.Proofs.YtoihhlkidlapmaaGreat
