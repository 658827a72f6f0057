/- Small laws for what mkshape.py writes. -/
import Derived.Test.YtlnpjiabdebmgaaShape
import Derived.Test.YtlnpjiabdebmgaaCalm
import Derived.Deep.RegionWith
namespace Go.Proofs.Ytlnpjiabdebmgaa
open Go.RowKit

theorem not_app {k : Nat} {F G : List Nat} (h : k ∉ F) (h2 : k ∉ G) : k ∉ F ++ G := fun e => by
  rcases List.mem_append.1 e with e | e
  · exact h e
  · exact h2 e
theorem three_boxes (w : World) (p r o : Obj) : (((w.alloc p).alloc r).alloc o).heap[w.heap.size]? = some p ∧ (((w.alloc p).alloc r).alloc o).heap[w.heap.size + 1]? = some r ∧ (((w.alloc p).alloc r).alloc o).heap[w.heap.size + 1 + 1]? = some o ∧ w.heap.size + 1 + 1 < (((w.alloc p).alloc r).alloc o).heap.size ∧ Below w.heap.size w (((w.alloc p).alloc r).alloc o) := by
  have s1 : (w.alloc p).heap.size = w.heap.size + 1 := by simp
  have s2 : ((w.alloc p).alloc r).heap.size = w.heap.size + 1 + 1 := by simp
  have b1 := (Below.refl (w.alloc p).heap.size (w.alloc p)).alloc (Nat.le_refl _) r
  have b2 := (Below.refl ((w.alloc p).alloc r).heap.size ((w.alloc p).alloc r)).alloc (Nat.le_refl _) o
  have n0 := World.alloc_heap_new w p
  have n1 := World.alloc_heap_new (w.alloc p) r
  have n2 := World.alloc_heap_new ((w.alloc p).alloc r) o
  rw [s1] at n1
  rw [s2] at n2
  refine ⟨?_, ?_, n2, by simp, (((Below.refl _ w).alloc (Nat.le_refl _) p).alloc (by simp) r).alloc (by simp; omega) o⟩
  · rw [b2.block _ (by omega), b1.block _ (by omega)]; exact n0
  · rw [b2.block _ (by omega)]; exact n1
theorem cell_fz {W : World} {g T : Nat} {cur : Array Value} (hh : W.heap[g]? = some (.cells cur T (0, 0))) (i : Nat) (v : Value) (hv : cur[i]? = some v) : W.cell? ⟨g, i, none⟩ = some v ∧ W.frozen? ⟨g, i, none⟩ = false := ⟨cell_arrS hh i v hv, by simp [World.frozen?, hh]⟩
theorem rowOwn.slice {K : CK} {ty : Nat} {W : World} {v : Value} {ds : List K.D} {F : List Nat} (h : rowOwn K ty W v ds F) : ∃ a c, v = .slice a ds.length c := by
  rcases h with ⟨rfl, _, a, c, hv, _⟩ | ⟨g, cap, cur, Fs, hv, _⟩
  · exact ⟨a, c, hv⟩
  · exact ⟨_, cap, hv⟩
/-- Cells of a row, one behind the other, set. -/
def setsA : Array Value → Nat → List Value → Array Value
  | cur, _, [] => cur
  | cur, o, v :: l => setsA (cur.setIfInBounds o v) (o + 1) l
def setsW : World → Nat → Nat → List Value → World
  | w, _, _, [] => w
  | w, g, o, v :: l => setsW (w.setCell ⟨g, o, none⟩ v) g (o + 1) l
theorem setsA_size : ∀ (l : List Value) (cur : Array Value) (o : Nat), (setsA cur o l).size = cur.size
  | [], _, _ => rfl
  | v :: l, cur, o => by rw [setsA, setsA_size l, Array.size_setIfInBounds]
theorem setsA_off : ∀ (l : List Value) (cur : Array Value) (o j : Nat), (j < o ∨ o + l.length ≤ j) → (setsA cur o l)[j]? = cur[j]?
  | [], _, _, _, _ => rfl
  | v :: l, cur, o, j, h => by
    simp only [List.length_cons] at h
    rw [setsA, setsA_off l _ _ _ (by omega), Array.getElem?_setIfInBounds, if_neg (by omega)]
theorem setsA_at : ∀ (l : List Value) (cur : Array Value) (o : Nat) (_ : o + l.length ≤ cur.size) (j : Nat) (c : Value), l[j]? = some c → (setsA cur o l)[o + j]? = some c
  | [], _, _, _, _, _, e => by cases e
  | v :: l, cur, o, h, 0, c, e => by
    simp only [List.length_cons] at h
    simp at e; subst e
    rw [setsA, setsA_off l _ _ _ (by omega), Array.getElem?_setIfInBounds, if_pos (by omega), if_pos (by omega)]
  | v :: l, cur, o, h, j + 1, c, e => by
    simp only [List.length_cons] at h
    have := setsA_at l (cur.setIfInBounds o v) (o + 1) (by rw [Array.size_setIfInBounds]; omega) j c (by simpa using e)
    rw [setsA, show o + (j + 1) = o + 1 + j by omega]
    exact this
theorem setsW_heap : ∀ (l : List Value) (w : World) (g o : Nat) (cur : Array Value) (ty : Nat), w.heap[g]? = some (.cells cur ty (0, 0)) → (setsW w g o l).heap[g]? = some (.cells (setsA cur o l) ty (0, 0))
  | [], _, _, _, _, _, h => h
  | v :: l, w, g, o, cur, ty, h => setsW_heap l _ g (o + 1) _ ty (heap_setCell_same w g o cur ty v h)
theorem setsW_off : ∀ (l : List Value) (w : World) (g o j : Nat), j ≠ g → (setsW w g o l).heap[j]? = w.heap[j]?
  | [], _, _, _, _, _ => rfl
  | _ :: l, _, g, o, j, h => (setsW_off l _ g (o + 1) j h).trans (Below.heap_setCell _ _ _ _ h)
theorem setsW_size : ∀ (l : List Value) (w : World) (g o : Nat), (setsW w g o l).heap.size = w.heap.size
  | [], _, _, _ => rfl
  | v :: l, w, g, o => by rw [setsW, setsW_size l]; simp
theorem setsW_below : ∀ (l : List Value) (a w : World) (N g o : Nat), Below N a w → N ≤ g → Below N a (setsW w g o l)
  | [], _, _, _, _, _, h, _ => h
  | v :: l, a, _, N, g, o, h, hg => setsW_below l a _ N g (o + 1) (h.setCell hg v) hg
/-- A copied item is stored. -/
theorem copy_store {K : CK} {ty : Nat} {W w2 : World} {g k n N : Nat} {ds : List K.D} {Fs : List (List Nat)} {Fk : List Nat} {d : K.D} {cs : List Value} (hn : K.n = n) (hp : RowPart K ty W g ds.length k ds Fs) (hfl : ∀ j ∈ Fs.flatten, N < j) (hNg : N ≤ g) (hk : ds[k]? = some d) (hb : Below W.heap.size W w2)
    (hown : K.own w2 cs d Fk) (hfr : ∀ j ∈ Fk, W.heap.size ≤ j) : ∃ Fs', RowPart K ty (setsW w2 g (k * n) cs) g ds.length (k + 1) ds Fs' ∧ ∀ j ∈ Fs'.flatten, N < j := by
  subst hn
  obtain ⟨⟨cur, hA, hsz⟩, hnd⟩ := hp
  have hA2 := hA.frame (fun j hj => hb.block j (hA.lt j hj))
  have hkl := (List.getElem?_eq_some_iff.1 hk).1
  have hgl : g < W.heap.size := hA.lt g (by simp)
  have hmul : (k + 1) * K.n ≤ ds.length * K.n := Nat.mul_le_mul_right _ (by omega)
  rw [Nat.add_mul, Nat.one_mul] at hmul
  have hcl := K.len hown
  refine ⟨Fs ++ [Fk], copy_step (N := W.heap.size) cur hA2 hsz hnd hk (setsW_heap cs w2 g (k * K.n) cur ty hA2.heap) (setsA_size _ _ _) (fun j hj => setsA_off _ _ _ _ (.inl hj)) (fun j c hj => setsA_at _ _ _ (by rw [hcl, hsz]; exact hmul) _ _ hj) (K.frame hown (fun j hj => setsW_off _ _ _ _ _ (by have := hfr j hj; omega))) hfr hA.lt (fun j _ hj => setsW_off _ _ _ _ _ hj), fun j hj => ?_⟩
  rw [List.flatten_append] at hj
  rcases List.mem_append.1 hj with hj | hj
  · exact hfl j hj
  · have := hfr j (by simpa using hj); omega
/-- Before an item is copied: its cells are there. -/
theorem part_cell {K : CK} {ty : Nat} {W w2 : World} {g k n : Nat} {ds : List K.D} {Fs : List (List Nat)} (hn : K.n = n) (hp : RowPart K ty W g ds.length k ds Fs) (hb : Below W.heap.size W w2) (hk : k < ds.length) (j : Nat) (hj : j < n) :
    (∃ y, w2.cell? ⟨g, k * n + j, none⟩ = some y) ∧ w2.frozen? ⟨g, k * n + j, none⟩ = false := by
  subst hn
  obtain ⟨⟨cur, hA, hsz⟩, hnd⟩ := hp
  have hA2 := hA.frame (fun j hj => hb.block j (hA.lt j hj))
  have hmul : (k + 1) * K.n ≤ ds.length * K.n := Nat.mul_le_mul_right _ (by omega)
  rw [Nat.add_mul, Nat.one_mul] at hmul
  exact ⟨⟨cur[k * K.n + j]'(by omega), cell_arrS hA2.heap _ _ (Array.getElem?_eq_getElem (by omega))⟩, by simp [World.frozen?, hA2.heap]⟩
theorem drew_belowS {B : Nat} (w : World) : Below B w w.drew := ⟨rfl, rfl, rfl, Nat.le_refl _, fun _ _ => rfl⟩
theorem txt_selfS (x : ByteArray) : (x.toList != x.toList) = false := by simp
theorem int_selfS (x : Int) : (x != x) = false := by simp
theorem alloc2_below (w : World) (o o' : Obj) : Below w.heap.size w ((w.alloc o).alloc o') := ((Below.refl _ w).alloc (Nat.le_refl _) o).alloc (by simp) o'
theorem two_boxes (w : World) (p r : Obj) : ((w.alloc p).alloc r).heap[w.heap.size]? = some p ∧ ((w.alloc p).alloc r).heap[w.heap.size + 1]? = some r ∧ w.heap.size + 1 < ((w.alloc p).alloc r).heap.size := by
  have s1 : (w.alloc p).heap.size = w.heap.size + 1 := by simp
  have b1 := (Below.refl (w.alloc p).heap.size (w.alloc p)).alloc (Nat.le_refl _) r
  have n0 := World.alloc_heap_new w p
  have n1 := World.alloc_heap_new (w.alloc p) r
  rw [s1] at n1
  refine ⟨?_, n1, by simp⟩
  rw [b1.block _ (by omega)]; exact n0
/-- The cells of an item of a row, while they are set. -/
def ItemAt (W : World) (g ty o : Nat) (cur0 : Array Value) (cs : List Value) : Prop := ∃ cur : Array Value, W.heap[g]? = some (.cells cur ty (0, 0)) ∧ cur.size = cur0.size ∧ o + cs.length ≤ cur.size ∧ (∀ j, j < o ∨ o + cs.length ≤ j → cur[j]? = cur0[j]?) ∧ ∀ (j : Nat) c, cs[j]? = some c → cur[o + j]? = some c
theorem ItemAt.frame {W W' : World} {g ty o : Nat} {cur0 : Array Value} {cs : List Value} (h : ItemAt W g ty o cur0 cs) (e : W'.heap[g]? = W.heap[g]?) : ItemAt W' g ty o cur0 cs := by
  obtain ⟨cur, h1, h2⟩ := h; exact ⟨cur, e.trans h1, h2⟩
theorem ItemAt.lt {W : World} {g ty o : Nat} {cur0 : Array Value} {cs : List Value} (h : ItemAt W g ty o cur0 cs) : g < W.heap.size := by
  obtain ⟨cur, h1, h2⟩ := h; exact (Array.getElem?_eq_some_iff.1 h1).1
theorem ItemAt.cell {W : World} {g ty o : Nat} {cur0 : Array Value} {cs : List Value} (h : ItemAt W g ty o cur0 cs) (j : Nat) (c : Value) (e : cs[j]? = some c) : W.cell? ⟨g, o + j, none⟩ = some c ∧ W.frozen? ⟨g, o + j, none⟩ = false := by
  obtain ⟨cur, h1, h2, h3, h4, h5⟩ := h
  exact ⟨cell_arrS h1 _ _ (h5 j c e), by simp [World.frozen?, h1]⟩
theorem ItemAt.set {W : World} {g ty o : Nat} {cur0 : Array Value} {cs : List Value} (h : ItemAt W g ty o cur0 cs) (j : Nat) (v : Value) (hj : j < cs.length) : ItemAt (W.setCell ⟨g, o + j, none⟩ v) g ty o cur0 (cs.set j v) := by
  obtain ⟨cur, h1, h2, h3, h4, h5⟩ := h
  refine ⟨cur.setIfInBounds (o + j) v, heap_setCell_same W g (o + j) cur ty v h1, by rw [Array.size_setIfInBounds]; exact h2, by rw [Array.size_setIfInBounds, List.length_set]; exact h3, fun i hi => ?_, fun i c hi => ?_⟩
  · rw [List.length_set] at hi
    rw [Array.getElem?_setIfInBounds, if_neg (by omega)]; exact h4 i hi
  · rw [Array.getElem?_setIfInBounds]
    by_cases e : j = i
    · subst e
      rw [if_pos rfl, if_pos (by omega)]
      rw [List.getElem?_set_self hj] at hi
      exact hi
    · rw [if_neg (by omega)]
      rw [List.getElem?_set_ne e] at hi
      exact h5 i c hi
/-- An item of a row that is written over: its cells, and what holds of the others. -/
theorem item_open {K : CK} {ty : Nat} {W : World} {g q k : Nat} {ds : List K.D} {cur : Array Value} {Fs : List (List Nat)} {d : K.D} (h : RowAll K ty W g (markU K q ds k) cur Fs) (hnd : (g :: Fs.flatten).Nodup) (hk : ds[k]? = some d) :
    ∃ cs Fk, Fs[k]? = some Fk ∧ g ∉ Fk ∧ K.own W cs d Fk ∧ ItemAt W g ty (k * K.n) cur cs := by
  have hkl := (List.getElem?_eq_some_iff.1 hk).1
  obtain ⟨cs, Fk, h1, h2, h3⟩ := h.each k d (by rw [markU_ge (Nat.le_refl _) (by omega)]; exact hk)
  have hsz := h.size
  rw [markU_len (by omega)] at hsz
  have hmul : (k + 1) * K.n ≤ ds.length * K.n := Nat.mul_le_mul_right _ (by omega)
  rw [Nat.add_mul, Nat.one_mul] at hmul
  exact ⟨cs, Fk, h1, (apartS hnd h1).1, h3, cur, h.heap, rfl, by rw [K.len h3]; omega, fun _ _ => rfl, h2⟩
theorem item_close {K : CK} {ty : Nat} {W W' : World} {g q k : Nat} {ds : List K.D} {cur : Array Value} {Fs : List (List Nat)} {Fk : List Nat} {d : K.D} {cs : List Value} (h : RowAll K ty W g (markU K q ds k) cur Fs) (hnd : (g :: Fs.flatten).Nodup) (hk : ds[k]? = some d) (hF : Fs[k]? = some Fk)
    (hi : ItemAt W' g ty (k * K.n) cur cs) (hown : K.own W' cs (K.mark (q + cntR K (ds.take k)) d) Fk) (ho : Only (g :: Fk) W W') : ∃ cur', RowAll K ty W' g (markU K q ds (k + 1)) cur' Fs := by
  obtain ⟨cur', h1, h2, h3, h4, h5⟩ := hi
  exact ⟨cur', mark_step h hnd hk hF h1 h2 (fun j hj => h4 j (by rw [K.len hown]; exact hj)) h5 hown (fun j hj hg hf => ho.block j hj (fun e => (List.mem_cons.1 e).elim hg hf))⟩
theorem only_of_setS {F : List Nat} {W : World} {g o : Nat} {v : Value} (h : g ∈ F) : Only F W (W.setCell ⟨g, o, none⟩ v) := (Only.refl F W).setCell (p := ⟨g, o, none⟩) h v
theorem int_eqS {a b : Int} (h : a = b) : Value.int .i64 a = .int .i64 b := by rw [h]
theorem rowOwn.below {K : CK} {ty : Nat} {W W' : World} {v : Value} {ds : List K.D} {F : List Nat} (h : rowOwn K ty W v ds F) (hb : Below W.heap.size W W') : rowOwn K ty W' v ds F := h.frame (fun k hk => hb.block k (h.lt k hk))
theorem rowOwn.only {K : CK} {ty : Nat} {W W' : World} {v : Value} {ds : List K.D} {F G : List Nat} (h : rowOwn K ty W v ds F) (ho : Only G W W') (hd : ∀ k ∈ F, k ∉ G) : rowOwn K ty W' v ds F := h.frame (fun k hk => ho.block k (h.lt k hk) (hd k hk))
theorem rowOwn.setS {K : CK} {ty : Nat} {W : World} {v u : Value} {ds : List K.D} {F : List Nat} {g o : Nat} (h : rowOwn K ty W v ds F) (hg : g ∉ F) : rowOwn K ty (W.setCell ⟨g, o, none⟩ u) v ds F := h.frame (fun k hk => Below.heap_setCell _ _ _ _ (fun e => hg (by have e2 : k = g := e; rw [← e2]; exact hk)))
theorem ItemAt.below {W W' : World} {g ty o : Nat} {cur0 : Array Value} {cs : List Value} (h : ItemAt W g ty o cur0 cs) (hb : Below W.heap.size W W') : ItemAt W' g ty o cur0 cs := h.frame (hb.block g h.lt)
theorem ItemAt.only {W W' : World} {g ty o : Nat} {cur0 : Array Value} {cs : List Value} {G : List Nat} (h : ItemAt W g ty o cur0 cs) (ho : Only G W W') (hg : g ∉ G) : ItemAt W' g ty o cur0 cs := h.frame (ho.block g h.lt hg)
theorem cntR_bound {K : CK} {n : Nat} (hn : n ≤ 8) (h : ∀ d, K.cnt d ≤ n + 8 * K.sz d) : ∀ ds : List K.D, cntR K ds ≤ 8 * (ds.length + szR K ds)
  | [] => by simp [cntR]
  | d :: ds => by
    have h1 := h d; have h2 := cntR_bound hn h ds
    simp only [cntR, szR, List.length_cons]; omega
theorem len_cntR {K : CK} (h : ∀ d, 1 ≤ K.cnt d) : ∀ ds : List K.D, ds.length ≤ cntR K ds
  | [] => by simp [cntR]
  | d :: ds => by
    have h1 := h d; have h2 := len_cntR h ds
    simp only [cntR, List.length_cons]; omega
theorem rowAt.slice {K : CK} {W : World} {v : Value} {ds : List K.D} (h : rowAt K W v ds) : ∃ a c, v = .slice a ds.length c ∧ (a = none → c = 0) := by
  obtain ⟨a, c, hv, hn, _⟩ := h
  exact ⟨a, c, hv, hn⟩
end Go.Proofs.Ytlnpjiabdebmgaa
