/- Texts of this proof, one behind the other; each says at its head what it shows. -/
import Derived.Test.YtoihhlkidlapmaaGreatJoin5
import Derived.Maps.AppendAt
import Derived.Laws.OwnMore
import Derived.Laws.Cover3
import Derived.Test.YtoihhlkidlapmaaGreatJoin1
import Derived.Deep.OwnRows
import Derived.Maps.OwnIn
import Derived.Deep.RegionWith
import Derived.Lib.Strings
import Derived.Deep.RegionHeld
import Derived.Shelf.Small.Strs
import Derived.Shelf.Strings.Search1
import Derived.Shelf.Sort.Plain
import Derived.Shelf.Slices.In.SortNone
import Derived.Test.YtoihhlkidlapmaaGreatProg
import Derived.Sort.OwnSorted
import Derived.Sort.KeysCollected
/- A row that grows, each of its items with blocks of its own. -/
namespace Go.Proofs.YtoihhlkidlapmaaGreat
open Go.RowKit

/-- An item: its cells, what they hold, and the blocks that it owns. -/
abbrev It (K : CK) := List Value × K.D × List Nat
def itCells {K : CK} (L : List (It K)) : List Value := L.flatMap (fun t => t.1)
def itD {K : CK} (L : List (It K)) : List K.D := L.map (fun t => t.2.1)
def itF {K : CK} (L : List (It K)) : List Nat := L.flatMap (fun t => t.2.2)
theorem itCells_app {K : CK} (A B : List (It K)) : itCells (A ++ B) = itCells A ++ itCells B := by simp [itCells]
theorem itD_app {K : CK} (A B : List (It K)) : itD (A ++ B) = itD A ++ itD B := by simp [itD]
theorem itF_app {K : CK} (A B : List (It K)) : itF (A ++ B) = itF A ++ itF B := by simp [itF]
theorem itD_len {K : CK} (A : List (It K)) : (itD A).length = A.length := by simp [itD]
theorem itD_take {K : CK} (A : List (It K)) (k : Nat) : itD (A.take k) = (itD A).take k := by simp [itD]
theorem itD_drop {K : CK} (A : List (It K)) (k : Nat) : itD (A.drop k) = (itD A).drop k := by simp [itD]
structure Items (K : CK) (W : World) (N : Nat) (L : List (It K)) : Prop where
  each : ∀ t ∈ L, K.own W t.1 t.2.1 t.2.2
  nodup : (itF L).Nodup
  base : ∀ k ∈ itF L, N ≤ k
theorem mem_itF {K : CK} {L : List (It K)} {t : It K} (ht : t ∈ L) {k : Nat} (hk : k ∈ t.2.2) : k ∈ itF L := List.mem_flatMap.2 ⟨t, ht, hk⟩
theorem Items.lt {K : CK} {W : World} {N : Nat} {L : List (It K)} (h : Items K W N L) : ∀ k ∈ itF L, k < W.heap.size := by
  intro k hk
  obtain ⟨t, ht, hk⟩ := List.mem_flatMap.1 hk
  exact K.lt (h.each t ht) k hk
theorem Items.frame {K : CK} {W W' : World} {N : Nat} {L : List (It K)} (h : Items K W N L) (hf : ∀ k ∈ itF L, W'.heap[k]? = W.heap[k]?) : Items K W' N L :=
  ⟨fun t ht => K.frame (h.each t ht) (fun k hk => hf k (mem_itF ht hk)), h.nodup, h.base⟩
theorem Items.nil {K : CK} (W : World) (N : Nat) : Items K W N ([] : List (It K)) := ⟨fun t ht => (by cases ht), List.nodup_nil, fun k hk => (by cases hk)⟩
theorem itCells_len {K : CK} {W : World} {N : Nat} {L : List (It K)} (h : Items K W N L) : (itCells L).length = L.length * K.n := by
  have h1 := h.each
  clear h
  induction L with
  | nil => simp [itCells]
  | cons t L ih =>
    have := ih (fun t ht => h1 t (List.mem_cons_of_mem _ ht))
    have h2 := K.len (h1 t (by simp))
    simp only [itCells, List.flatMap_cons, List.length_append, List.length_cons] at *
    rw [this, h2, Nat.add_mul]; omega
theorem itF_sub {K : CK} {A B : List (It K)} (h : A.Sublist B) : (itF A).Sublist (itF B) := by
  induction h with
  | slnil => exact List.Sublist.refl _
  | cons a _ ih => exact ih.trans (List.sublist_append_right _ _)
  | cons_cons a _ ih => exact List.Sublist.append (List.Sublist.refl _) ih
theorem Items.sub {K : CK} {W : World} {N : Nat} {A B : List (It K)} (h : Items K W N B) (hs : A.Sublist B) : Items K W N A :=
  ⟨fun t ht => h.each t (hs.subset ht), h.nodup.sublist (itF_sub hs), fun k hk => by
    obtain ⟨t, ht, hk⟩ := List.mem_flatMap.1 hk
    exact h.base k (mem_itF (hs.subset ht) hk)⟩
theorem Items.snoc {K : CK} {W : World} {N M : Nat} {L : List (It K)} {cs : List Value} {d : K.D} {F : List Nat} (h : Items K W N L) (hown : K.own W cs d F) (hM : ∀ k ∈ itF L, k < M) (hF : ∀ k ∈ F, M ≤ k) (hNM : N ≤ M) : Items K W N (L ++ [(cs, d, F)]) := by
  refine ⟨fun t ht => ?_, ?_, fun k hk => ?_⟩
  · rcases List.mem_append.1 ht with ht | ht
    · exact h.each t ht
    · rcases List.mem_singleton.1 ht with rfl; exact hown
  · rw [itF_app]
    refine List.nodup_append.2 ⟨h.nodup, ?_, fun x hx y hy e => ?_⟩
    · simpa [itF] using K.nodup hown
    · subst e
      have h1 := hM x hx
      have h2 := hF x (by simpa [itF] using hy)
      omega
  · rw [itF_app] at hk
    rcases List.mem_append.1 hk with hk | hk
    · exact h.base k hk
    · have := hF k (by simpa [itF] using hk); omega
/-- Where an item lies among the cells. -/
theorem itCells_get {K : CK} : ∀ {L : List (It K)}, (∀ t ∈ L, t.1.length = K.n) → ∀ (i : Nat) (t : It K), L[i]? = some t → ∀ j, j < K.n → (itCells L)[i * K.n + j]? = t.1[j]?
  | [], _, i, t, h, _, _ => by cases h
  | x :: L, hl, 0, t, h, j, hj => by
    simp at h; subst h
    show (x.1 ++ itCells L)[0 * K.n + j]? = _
    rw [Nat.zero_mul, Nat.zero_add, List.getElem?_append_left (by rw [hl x (by simp)]; exact hj)]
  | x :: L, hl, i + 1, t, h, j, hj => by
    have hx := hl x (by simp)
    show (x.1 ++ itCells L)[(i + 1) * K.n + j]? = _
    have e : (i + 1) * K.n = i * K.n + K.n := by rw [Nat.add_mul, Nat.one_mul]
    rw [List.getElem?_append_right (by omega), hx, show (i + 1) * K.n + j - K.n = i * K.n + j by omega]
    exact itCells_get (fun t ht => hl t (List.mem_cons_of_mem _ ht)) i t (by simpa using h) j hj
/-- A row that is owned, in the words of the shapes. -/
structure NRow (K : CK) (ty : Nat) (W : World) (N : Nat) (v : Value) (L : List (It K)) : Prop where
  row : W.ownsRow N ty K.n v L.length (itCells L)
  items : Items K W N L
  apart : ∀ g, v.ownBlock = some g → g ∉ itF L
theorem NRow.own {K : CK} {ty : Nat} {W : World} {N : Nat} {v : Value} {L : List (It K)} (h : NRow K ty W N v L) : ∃ F, rowOwn K ty W v (itD L) F ∧ ∀ k ∈ F, N ≤ k ∧ k < W.heap.size := by
  rcases h.row.2 with ⟨rfl, h0⟩ | ⟨g, cap, cur, hv, hN, hg, hc, _, hsz, hcells⟩
  · have : L = [] := List.length_eq_zero_iff.1 h0
    subst this
    exact ⟨[], .inl ⟨rfl, rfl, none, 0, rfl, fun _ => rfl⟩, fun k hk => by cases hk⟩
  · have hF : (L.map (fun t => t.2.2)).flatten = itF L := by simp [itF, List.flatMap]
    have hap : g ∉ itF L := h.apart g (by rw [hv]; rfl)
    have hgl := (Array.getElem?_eq_some_iff.1 hg).1
    refine ⟨g :: itF L, .inr ⟨g, cap, cur, L.map (fun t => t.2.2), by rw [itD_len]; exact hv, by rw [itD_len]; exact hc, by rw [hF], List.nodup_cons.2 ⟨hap, h.items.nodup⟩, ⟨hg, by rw [itD_len, hsz]; exact Nat.mul_le_mul_right _ hc, by rw [itD_len, List.length_map], fun i d hi => ?_⟩⟩, fun k hk => ?_⟩
    · unfold itD at hi
      rw [List.getElem?_map] at hi
      cases ht : L[i]? with
      | none => rw [ht] at hi; cases hi
      | some t =>
        rw [ht] at hi
        simp at hi
        subst hi
        have hm : t ∈ L := List.mem_of_getElem? ht
        have hown := h.items.each t hm
        refine ⟨t.1, t.2.2, by rw [List.getElem?_map, ht]; rfl, fun j c hj => ?_, hown⟩
        have hjn : j < K.n := by rw [← K.len hown]; exact (List.getElem?_eq_some_iff.1 hj).1
        have h1 := itCells_get (fun t ht => K.len (h.items.each t ht)) i t ht j hjn
        rw [hj, ← hcells] at h1
        have hil : i < L.length := (List.getElem?_eq_some_iff.1 ht).1
        have : (i + 1) * K.n ≤ L.length * K.n := Nat.mul_le_mul_right _ hil
        rw [Nat.add_mul, Nat.one_mul] at this
        rw [List.getElem?_take_of_lt (by omega), Array.getElem?_toList] at h1
        exact h1
    · rcases List.mem_cons.1 hk with rfl | hk
      · exact ⟨hN, hgl⟩
      · exact ⟨h.items.base k hk, h.items.lt k hk⟩
theorem NRow.frame {K : CK} {ty : Nat} {W W' : World} {N : Nat} {v : Value} {L : List (It K)} (h : NRow K ty W N v L) (hf : ∀ k, (v.ownBlock = some k ∨ k ∈ itF L) → W'.heap[k]? = W.heap[k]?) : NRow K ty W' N v L := by
  refine ⟨⟨h.row.1, ?_⟩, h.items.frame (fun k hk => hf k (.inr hk)), h.apart⟩
  rcases h.row.2 with h1 | ⟨g, cap, cur, hv, hN, hg, hr⟩
  · exact .inl h1
  · exact .inr ⟨g, cap, cur, hv, hN, by rw [hf g (.inl (by rw [hv]; rfl))]; exact hg, hr⟩
/-- All that a growing row reaches lies behind N. -/
theorem NRow.base {K : CK} {ty : Nat} {W : World} {N : Nat} {v : Value} {L : List (It K)} (h : NRow K ty W N v L) : ∀ k, (v.ownBlock = some k ∨ k ∈ itF L) → N ≤ k ∧ k < W.heap.size := by
  intro k hk
  rcases hk with hk | hk
  · rcases h.row.2 with ⟨rfl, _⟩ | ⟨g, cap, cur, rfl, hN, hg, _⟩
    · cases hk
    · have : g = k := by simpa [Value.ownBlock] using hk
      subst this
      exact ⟨hN, (Array.getElem?_eq_some_iff.1 hg).1⟩
  · exact ⟨h.items.base k hk, h.items.lt k hk⟩
/-- Items that are read become items that are owned, where they own no block. -/
theorem leaf_items {K : CK} (hleaf : ∀ {W W' : World} {cs : List Value} {d : K.D}, K.at_ W cs d → K.own W' cs d []) {W : World} {v : Value} {ds : List K.D} (h : rowAt K W v ds) : ∃ (a : Option Addr) (cap : Nat) (L : List (It K)), v = .slice a ds.length cap ∧ (a = none → cap = 0) ∧ itD L = ds ∧ L.length = ds.length ∧ itF L = [] ∧ (∀ W' N, Items K W' N L) ∧ (ds = [] ∨ ∃ b o, a = some ⟨b, o, none⟩ ∧ b < W.heap.size ∧ ∀ j u, (itCells L)[j]? = some u → W.cell? ⟨b, o + j, none⟩ = some u) := by
  obtain ⟨a, cap, hv, hn, hc, h⟩ := h
  rcases h with rfl | ⟨b, o, ha, hb, h⟩
  · exact ⟨a, cap, [], hv, hn, rfl, rfl, rfl, fun W' N => Items.nil W' N, .inl rfl⟩
  · have key : ∀ (es : List K.D) (s : Nat), (∀ (i : Nat) d, es[i]? = some d → ∃ cs, K.at_ W cs d ∧ ∀ j c, cs[j]? = some c → W.cell? ⟨b, s + i * K.n + j, none⟩ = some c) → ∃ L : List (It K), itD L = es ∧ L.length = es.length ∧ itF L = [] ∧ (∀ W' N, Items K W' N L) ∧ ∀ j u, (itCells L)[j]? = some u → W.cell? ⟨b, s + j, none⟩ = some u := by
      intro es
      induction es with
      | nil => intro s _; exact ⟨[], rfl, rfl, rfl, fun W' N => Items.nil W' N, fun j u hj => by cases hj⟩
      | cons e es ih =>
        intro s hs
        obtain ⟨cs, h1, h2⟩ := hs 0 e rfl
        obtain ⟨L, g1, g2, g3, g4, g5⟩ := ih (s + K.n) (fun i d hi => by
          obtain ⟨cs, q1, q2⟩ := hs (i + 1) d (by simpa using hi)
          refine ⟨cs, q1, fun j c hj => ?_⟩
          have := q2 j c hj
          rw [Nat.add_mul, Nat.one_mul] at this
          rw [← this]; congr 2; omega)
        have hl := K.alen h1
        refine ⟨(cs, e, []) :: L, by show e :: itD L = _; rw [g1], by simp [g2], by show [] ++ itF L = []; rw [g3]; rfl, fun W' N => ⟨fun t ht => ?_, by show ([] ++ itF L).Nodup; rw [g3]; exact List.nodup_nil, fun k hk => by rw [show itF ((cs, e, []) :: L) = [] ++ itF L from rfl, g3] at hk; cases hk⟩, fun j u hj => ?_⟩
        · rcases List.mem_cons.1 ht with rfl | ht
          · exact hleaf h1
          · exact (g4 W' N).each t ht
        · rw [show itCells ((cs, e, []) :: L) = cs ++ itCells L from rfl] at hj
          rcases Nat.lt_or_ge j cs.length with hjl | hjl
          · rw [List.getElem?_append_left hjl] at hj
            have := h2 j u hj
            rwa [Nat.zero_mul, Nat.add_zero] at this
          · rw [List.getElem?_append_right hjl] at hj
            have := g5 _ _ hj
            rw [hl] at this hjl
            rw [← this]; congr 2; omega
    obtain ⟨L, g1, g2, g3, g4, g5⟩ := key ds o h
    exact ⟨a, cap, L, hv, hn, g1, g2, g3, g4, .inr ⟨b, o, ha, hb, g5⟩⟩
end Go.Proofs.YtoihhlkidlapmaaGreat

/- Entry: what the laws' own functions of it do. (Written by mkshape.py.) -/
namespace Go.Proofs.YtoihhlkidlapmaaGreat
open Go.RowKit Go.Shelf

structure EntryD where
  path : ByteArray
  kind : Int
  mode : Int
  text : ByteArray
def entryC : CK := isoC (pairC txtC (pairC intC (pairC intC txtC))) EntryD (fun d => (d.path, (d.kind, (d.mode, d.text)))) (fun p => ⟨p.1, p.2.1, p.2.2.1, p.2.2.2⟩)
theorem entryC_at {W : World} {cs : List Value} {d : EntryD} (h : entryC.at_ W cs d) : cs = [.string d.path, .int .i64 d.kind, .int .i64 d.mode, .string d.text] := by
  obtain ⟨c0, e0, rfl, rfl, ⟨c1, e1, rfl, rfl, ⟨c2, e2, rfl, rfl, rfl⟩⟩⟩ := h
  exact rfl
def entryC_is (_W : World) (cs : List Value) (d : EntryD) (F : List Nat) : Prop := cs = [.string d.path, .int .i64 d.kind, .int .i64 d.mode, .string d.text] ∧ F = []
theorem entryC_own {W : World} {cs : List Value} {d : EntryD} {F : List Nat} (h : entryC.own W cs d F) : entryC_is W cs d F := by
  obtain ⟨c0, e0, F0, G0, rfl, rfl, ⟨rfl, rfl⟩, ⟨c1, e1, F1, G1, rfl, rfl, ⟨rfl, rfl⟩, ⟨c2, e2, F2, G2, rfl, rfl, ⟨rfl, rfl⟩, ⟨rfl, rfl⟩, a2⟩, a1⟩, a0⟩ := h
  exact ⟨rfl, rfl⟩
theorem entryC_mk {W : World} {cs : List Value} {d : EntryD} {F : List Nat} (h : entryC_is W cs d F) : entryC.own W cs d F := by
  obtain ⟨rfl, rfl⟩ := h
  exact ⟨[_], _, [], [], rfl, by simp, ⟨rfl, rfl⟩, ⟨[_], _, [], [], rfl, by simp, ⟨rfl, rfl⟩, ⟨[_], _, [], [], rfl, by simp, ⟨rfl, rfl⟩, ⟨rfl, rfl⟩, fun k hk => by cases hk⟩, fun k hk => by cases hk⟩, fun k hk => by cases hk⟩




theorem vinfoEntry : (Tryz.prog.info? 57).map (fun i => (i.zero, i.size, i.bytes)) = some (some (.agg #[.string ⟨#[]⟩, .int .i64 0, .int .i64 0, .string ⟨#[]⟩]), 4, 48) := by kernel_rfl


end Go.Proofs.YtoihhlkidlapmaaGreat

/- Need: what the laws' own functions of it do. (Written by mkshape.py.) -/
namespace Go.Proofs.YtoihhlkidlapmaaGreat
open Go.RowKit Go.Shelf

structure NeedD where
  name : ByteArray
  kind : Int
  version : ByteArray
def needC : CK := isoC (pairC txtC (pairC intC txtC)) NeedD (fun d => (d.name, (d.kind, d.version))) (fun p => ⟨p.1, p.2.1, p.2.2⟩)
theorem needC_at {W : World} {cs : List Value} {d : NeedD} (h : needC.at_ W cs d) : cs = [.string d.name, .int .i64 d.kind, .string d.version] := by
  obtain ⟨c0, e0, rfl, rfl, ⟨c1, e1, rfl, rfl, rfl⟩⟩ := h
  exact rfl
def needC_is (_W : World) (cs : List Value) (d : NeedD) (F : List Nat) : Prop := cs = [.string d.name, .int .i64 d.kind, .string d.version] ∧ F = []
theorem needC_own {W : World} {cs : List Value} {d : NeedD} {F : List Nat} (h : needC.own W cs d F) : needC_is W cs d F := by
  obtain ⟨c0, e0, F0, G0, rfl, rfl, ⟨rfl, rfl⟩, ⟨c1, e1, F1, G1, rfl, rfl, ⟨rfl, rfl⟩, ⟨rfl, rfl⟩, a1⟩, a0⟩ := h
  exact ⟨rfl, rfl⟩
theorem needC_mk {W : World} {cs : List Value} {d : NeedD} {F : List Nat} (h : needC_is W cs d F) : needC.own W cs d F := by
  obtain ⟨rfl, rfl⟩ := h
  exact ⟨[_], _, [], [], rfl, by simp, ⟨rfl, rfl⟩, ⟨[_], _, [], [], rfl, by simp, ⟨rfl, rfl⟩, ⟨rfl, rfl⟩, fun k hk => by cases hk⟩, fun k hk => by cases hk⟩




theorem vinfoNeed : (Tryz.prog.info? 36).map (fun i => (i.zero, i.size, i.bytes)) = some (some (.agg #[.string ⟨#[]⟩, .int .i64 0, .string ⟨#[]⟩]), 3, 40) := by kernel_rfl


end Go.Proofs.YtoihhlkidlapmaaGreat

/- Pack: what the laws' own functions of it do. (Written by mkshape.py.) -/
namespace Go.Proofs.YtoihhlkidlapmaaGreat
open Go.RowKit Go.Shelf

structure PackD where
  name : ByteArray
  version : ByteArray
  needs : List needC.D
  tree : List entryC.D
def packC : CK := isoC (pairC txtC (pairC txtC (pairC (rowC needC 36) (rowC entryC 57)))) PackD (fun d => (d.name, (d.version, (d.needs, d.tree)))) (fun p => ⟨p.1, p.2.1, p.2.2.1, p.2.2.2⟩)
theorem packC_at {W : World} {cs : List Value} {d : PackD} (h : packC.at_ W cs d) : ∃ v2 v3 : Value, cs = [.string d.name, .string d.version, v2, v3] ∧ rowAt needC W v2 d.needs ∧ rowAt entryC W v3 d.tree := by
  obtain ⟨c0, e0, rfl, rfl, ⟨c1, e1, rfl, rfl, ⟨c2, e2, rfl, ⟨v2, rfl, h2⟩, ⟨v3, rfl, h3⟩⟩⟩⟩ := h
  exact ⟨v2, v3, rfl, h2, h3⟩
def packC_is (W : World) (cs : List Value) (d : PackD) (F : List Nat) : Prop := ∃ (v2 v3 : Value) (F2 F3 : List Nat), cs = [.string d.name, .string d.version, v2, v3] ∧ F = F2 ++ F3 ∧ rowOwn needC 36 W v2 d.needs F2 ∧ rowOwn entryC 57 W v3 d.tree F3 ∧ (∀ k ∈ F2, k ∉ F3)
theorem packC_own {W : World} {cs : List Value} {d : PackD} {F : List Nat} (h : packC.own W cs d F) : packC_is W cs d F := by
  obtain ⟨c0, e0, F0, G0, rfl, rfl, ⟨rfl, rfl⟩, ⟨c1, e1, F1, G1, rfl, rfl, ⟨rfl, rfl⟩, ⟨c2, e2, F2, G2, rfl, rfl, ⟨v2, rfl, h2⟩, ⟨v3, rfl, h3⟩, a2⟩, a1⟩, a0⟩ := h
  exact ⟨v2, v3, F2, _, rfl, by simp, h2, h3, fun k hk e => a2 k hk (by simp [e])⟩
theorem packC_mk {W : World} {cs : List Value} {d : PackD} {F : List Nat} (h : packC_is W cs d F) : packC.own W cs d F := by
  obtain ⟨v2, v3, F2, F3, rfl, rfl, h2, h3, a23⟩ := h
  exact ⟨[_], _, [], F2 ++ F3, rfl, by simp, ⟨rfl, rfl⟩, ⟨[_], _, [], F2 ++ F3, rfl, by simp, ⟨rfl, rfl⟩, ⟨[_], _, F2, F3, rfl, by simp, ⟨v2, rfl, h2⟩, ⟨v3, rfl, h3⟩, fun k hk => a23 k hk⟩, fun k hk => by cases hk⟩, fun k hk => by cases hk⟩




theorem vinfoPack : (Tryz.prog.info? 34).map (fun i => (i.zero, i.size, i.bytes)) = some (some (.agg #[.string ⟨#[]⟩, .string ⟨#[]⟩, .slice none 0 0, .slice none 0 0]), 4, 80) := by kernel_rfl


end Go.Proofs.YtoihhlkidlapmaaGreat

/- Items appended to a row that grows; rows copied, of items that own no block. -/
namespace Go.Proofs.YtoihhlkidlapmaaGreat
open Go.RowKit Go.Shelf

/-- What a row's type says of its items. -/
structure ET (K : CK) (t e : Nat) : Prop where
  ex : ∃ (i : TypeInfo) (z : Value) (bytes : Nat), Tryz.prog.underlying t = some (.slice e) ∧ Tryz.prog.info? e = some i ∧ i.zero = some z ∧ i.size = K.n ∧ i.bytes = bytes ∧ z.cells.size = K.n ∧ 0 < K.n ∧ bytes ≤ 1000
theorem etNeed : ET needC 31 36 := by
  obtain ⟨i0, hi, hz0, hz1, hz2⟩ := info_parts vinfoNeed
  exact ⟨⟨i0, _, 40, Tryz.underlying31, hi, hz0, hz1, hz2, rfl, by decide, by decide⟩⟩
theorem etEntry : ET entryC 32 57 := by
  obtain ⟨i0, hi, hz0, hz1, hz2⟩ := info_parts vinfoEntry
  exact ⟨⟨i0, _, 48, Tryz.underlying32, hi, hz0, hz1, hz2, rfl, by decide, by decide⟩⟩
theorem etPack : ET packC 23 34 := by
  obtain ⟨i0, hi, hz0, hz1, hz2⟩ := info_parts vinfoPack
  exact ⟨⟨i0, _, 80, Tryz.underlying23, hi, hz0, hz1, hz2, rfl, by decide, by decide⟩⟩
theorem needLeaf {W W' : World} {cs : List Value} {d : needC.D} (h : needC.at_ W cs d) : needC.own W' cs d [] := needC_mk ⟨needC_at h, rfl⟩
theorem entryLeaf {W W' : World} {cs : List Value} {d : entryC.D} (h : entryC.at_ W cs d) : entryC.own W' cs d [] := entryC_mk ⟨entryC_at h, rfl⟩
/-- Every cell of an item is one cell. -/
def OneC (K : CK) : Prop := ∀ (W : World) (cs : List Value) (d : K.D) (F : List Nat), K.own W cs d F → ∀ u ∈ cs, u.oneCell' = true
theorem oneNeed : OneC needC := fun W cs d F h u hu => by
  obtain ⟨rfl, _⟩ := needC_own h
  simp at hu
  rcases hu with rfl | rfl | rfl <;> rfl
theorem oneEntry : OneC entryC := fun W cs d F h u hu => by
  obtain ⟨rfl, _⟩ := entryC_own h
  simp at hu
  rcases hu with rfl | rfl | rfl | rfl <;> rfl
theorem onePack : OneC packC := fun W cs d F h u hu => by
  obtain ⟨v2, v3, F2, F3, rfl, _, h2, h3, _⟩ := packC_own h
  obtain ⟨a2, c2, rfl⟩ := rowOwn.slice h2
  obtain ⟨a3, c3, rfl⟩ := rowOwn.slice h3
  simp at hu
  rcases hu with rfl | rfl | rfl | rfl <;> rfl
theorem itCells_one {K : CK} (h1 : OneC K) {W : World} {N : Nat} {L : List (It K)} (h : Items K W N L) : ∀ u ∈ itCells L, u.oneCell' = true := fun u hu => by
  obtain ⟨t, ht, hu⟩ := List.mem_flatMap.1 hu
  exact h1 W t.1 t.2.1 t.2.2 (h.each t ht) u hu
theorem add_plainR (b o n : Nat) : (⟨b, o, none⟩ : Addr).add n = ⟨b, o + n, none⟩ := by simp [Addr.add]

/-- Items appended. -/
theorem app_items {K : CK} {t e : Nat} (hET : ET K t e) (h1 : OneC K) (w : World) (ty N : Nat) (v : Value) (L M : List (It K)) (b o c : Nat) (h : NRow K e w N v L) (hM : Items K w N (L ++ M)) (hap : ∀ g, v.ownBlock = some g → g ∉ itF M) (hcell : ∀ j u, (itCells M)[j]? = some u → w.cell? ⟨b, o + j, none⟩ = some u) (hn : L.length + M.length ≤ 4194304) (hN : N ≤ w.heap.size) :
    ∃ v' w', (Builtin.append_ #[t, t] ty #[v, .slice (some ⟨b, o, none⟩) M.length c]).run Tryz.prog w = .ok v' w' ∧ NRow K e w' N v' (L ++ M) ∧ w.grownBy w' v.ownBlock ∧ (v'.ownBlock = v.ownBlock ∨ v'.ownBlock = some w.heap.size) ∧ (v' = .slice none 0 0 ↔ v = .slice none 0 0 ∧ M.length = 0) := by
  obtain ⟨i, z, bytes, ht, hi, hz, hs, hb, hzs, hn0, hbs⟩ := hET.ex
  have hMi : Items K w N M := hM.sub (List.sublist_append_right L M)
  have hbb : (L.length + M.length) * bytes ≤ 140737488355328 := Nat.le_trans (Nat.mul_le_mul hn hbs) (by decide)
  obtain ⟨v', w', hr, q1, q2, q3, q4⟩ := run_append_own_at (P := Tryz.prog) w N t ty e i z K.n bytes ht hi hz hs hb hzs hn0 v L.length (itCells L) h.row ⟨b, o, none⟩ M.length c (itCells M) (itCells_len hMi) (fun j u hj => by rw [add_plainR]; exact hcell j u hj) (itCells_one h1 hMi) (by unfold maxLen; omega) hbb hN
  have hav : ∀ g, v.ownBlock = some g → g ∉ itF (L ++ M) := fun g hg => by
    rw [itF_app]; exact not_app (h.apart g hg) (hap g hg)
  refine ⟨v', w', hr, ⟨by rw [List.length_append, itCells_app]; exact q1, hM.frame (fun k hk => q2.block k (hM.lt k hk) (fun e => hav k e.symm hk)), fun g hg => ?_⟩, q2, q4, q3⟩
  rcases q4 with e | e
  · exact hav g (by rw [← e]; exact hg)
  · intro hk
    rw [e] at hg
    have := hM.lt g hk
    simp at hg
    omega
theorem NRow.empty {K : CK} {e : Nat} (w : World) (N : Nat) (hN : N ≤ w.heap.size) : NRow K e (w.alloc (.cells #[] e)) N (.slice (some ⟨w.heap.size, 0, none⟩) 0 0) [] :=
  ⟨⟨by simp [itCells], .inr ⟨w.heap.size, 0, #[], rfl, hN, World.alloc_heap_new _ _, Nat.le_refl _, Nat.zero_le _, by simp, by simp [itCells]⟩⟩, Items.nil _ _, fun g _ hk => by cases hk⟩
theorem NRow.none {K : CK} {e : Nat} (w : World) (N : Nat) : NRow K e w N (.slice .none 0 0) [] :=
  ⟨⟨by simp [itCells], .inl ⟨rfl, rfl⟩⟩, Items.nil _ _, fun g _ hk => by cases hk⟩
/-- A row that was made: its memory is new, and what was there is as it was. -/
def RowMade (K : CK) (e : Nat) (w : World) (ds : List K.D) (v : Value) (w' : World) : Prop := (∃ F, rowOwn K e w' v ds F ∧ ∀ k ∈ F, w.heap.size ≤ k ∧ k < w'.heap.size) ∧ Below w.heap.size w w'
/-- A row read, appended to an empty one. -/
theorem app_leaf {K : CK} {t e : Nat} (hET : ET K t e) (h1 : OneC K) (hleaf : ∀ {W W' : World} {cs : List Value} {d : K.D}, K.at_ W cs d → K.own W' cs d []) (w : World) (ty : Nat) (v : Value) (ds : List K.D) (h : rowAt K w v ds) (hn : ds.length ≤ 4194304) :
    ∃ v' w', (Builtin.append_ #[t, t] ty #[.slice (some ⟨w.heap.size, 0, none⟩) 0 0, v]).run Tryz.prog (w.alloc (.cells #[] e)) = .ok v' w' ∧ (∃ F, rowOwn K e w' v' ds F ∧ ∀ k ∈ F, w.heap.size ≤ k ∧ k < w'.heap.size) ∧ Below w.heap.size w w' := by
  have hB1 : Below w.heap.size w (w.alloc (.cells #[] e)) := (Below.refl _ w).alloc (Nat.le_refl _) _
  have hE := NRow.empty (K := K) (e := e) w w.heap.size (Nat.le_refl _)
  obtain ⟨a, cap, L, rfl, hcn, rfl, hl, hF, hI, hcell⟩ := leaf_items hleaf h
  cases a with
  | none =>
    have h0 : itD L = [] := by
      rcases hcell with h | ⟨b, o, e, _⟩
      · exact h
      · cases e
    obtain rfl := hcn rfl
    obtain ⟨i, z, bytes, ht, hi, hz, hs, hb, hzs, hn0, hbs⟩ := hET.ex
    rw [h0]
    refine ⟨.slice (some ⟨w.heap.size, 0, none⟩) 0 0, _, run_append_owned_none (P := Tryz.prog) (w.alloc (.cells #[] e)) w.heap.size t ty e i K.n ht hi _ _ _ hE.row, hE.own, hB1⟩
  | some ad =>
    rcases hcell with h0 | ⟨b, o, e1, hb, hcell⟩
    · have hL0 : L = [] := by
        rw [← List.length_eq_zero_iff, hl, h0]; rfl
      subst hL0
      obtain ⟨i, z, bytes, ht, hi, hz, hs, hbb, hzs, hn0, hbs⟩ := hET.ex
      obtain ⟨v', w', hr, q1, q2, q3, q4⟩ := run_append_own_at (P := Tryz.prog) (w.alloc (.cells #[] e)) w.heap.size t ty e i z K.n bytes ht hi hz hs hbb hzs hn0 _ 0 (itCells (K := K) []) hE.row ad 0 cap [] (by simp) (fun j u hj => by simp at hj) (fun u hu => by simp at hu) (by unfold maxLen; omega) (by omega) hB1.size
      refine ⟨v', w', hr, NRow.own (L := []) ⟨by simpa [itCells] using q1, Items.nil _ _, fun g _ hk => by cases hk⟩, hB1.grown q2 hB1.size (fun k hk => by simp [Value.ownBlock] at hk; omega)⟩
    · cases e1
      obtain ⟨v', w', hr, q1, q2, q3, q4⟩ := app_items hET h1 (w.alloc (.cells #[] e)) ty w.heap.size _ [] L b o cap hE (by rw [List.nil_append]; exact hI _ _) (fun g _ hk => by rw [hF] at hk; cases hk) (fun j u hj => (hB1.cell (p := ⟨b, o + j, none⟩) hb).trans (hcell j u hj)) (by simp; omega) hB1.size
      rw [hl] at hr
      exact ⟨v', w', hr, q1.own, hB1.grown q2 hB1.size (fun k hk => by simp [Value.ownBlock] at hk; omega)⟩
/-- The same, as an operation. -/
theorem wp_leaf {K : CK} {t e : Nat} (hET : ET K t e) (h1 : OneC K) (hleaf : ∀ {W W' : World} {cs : List Value} {d : K.D}, K.at_ W cs d → K.own W' cs d []) {ops : Array Oper} {rest : List Oper} {o : Oper} {a : Act} (w : World) {Q : Exit → Act → World → Prop} (hgd : o.guard = none) (s x : Operand) (ho : o.op = .call { callee := .builtin .append, args := #[s, x], argTypes := #[t, t] })
    (v : Value) (ds : List K.D) (h : rowAt K w v ds) (hn : ds.length ≤ 4194304) (hs : a.eval s = .slice (some ⟨w.heap.size, 0, none⟩) 0 0) (hx : a.eval x = v)
    (hk : ∀ v' w', RowMade K e w ds v' w' → wpList Tryz.prog ops Q rest (a.put o.dst v') w') : wpList Tryz.prog ops Q (o :: rest) a (w.alloc (.cells #[] e)) := by
  refine wpList_plain hgd fun K' hK => ?_
  obtain ⟨v', w', hr, h2, h3⟩ := app_leaf hET h1 hleaf w o.type v ds h hn
  unfold Oper.wp execOp
  simp only [ho, resolve, invoke, builtin, Sem.run_bind, Sem.run_pure, Result.andThen_ok, List.map_toArray, List.map_cons, List.map_nil, hs, hx, hr]
  exact hK _ _ (hk v' w' ⟨h2, h3⟩)
end Go.Proofs.YtoihhlkidlapmaaGreat

/- Rows of needs and of entries, copied. -/
namespace Go.Proofs.YtoihhlkidlapmaaGreat
open Go.RowKit Go.Shelf

/-- What a copy is. -/
def Copied (K : CK) (e : Nat) (w : World) (ds : List K.D) (x : Ending) (w' : World) : Prop := ∃ v, x = .returned v ∧ RowMade K e w ds v w'
theorem rowAt_slice {K : CK} {W : World} {v : Value} {ds : List K.D} (h : rowAt K W v ds) : ∃ a c, v = .slice a ds.length c ∧ (a = none → c = 0) ∧ (a = none → ds = []) := by
  obtain ⟨a, c, hv, hn, _, h⟩ := h
  refine ⟨a, c, hv, hn, fun e => ?_⟩
  rcases h with h | ⟨b, o, e2, _⟩
  · exact h
  · rw [e] at e2; cases e2
set_option maxRecDepth 100000 in
set_option maxHeartbeats 1000000 in
theorem l2CopyR_any (ds : List entryC.D) (v : Value) (w : World) (hn : ds.length ≤ 4194304) (h : rowAt entryC w v ds) : Calls Tryz.prog 160 #[v] w (Copied entryC 57 w ds) := by
  obtain ⟨i0, hi0, hz0, hzs, hzb⟩ := info_parts vinfoEntry
  obtain ⟨a, c, rfl, _, _⟩ := rowAt_slice h
  have H := hid h
  clear h
  go_enter Tryz.func160, Tryz.ntmps160
  go_wp2_with (at_builtin; refine wp_leaf etEntry oneEntry entryLeaf w rfl _ _ rfl _ ds (unhid H) hn rfl rfl ?_)
  intro v' w1 HF
  go_wp2_with fail
  go_ret
  exact ⟨_, rfl, HF⟩
end Go.Proofs.YtoihhlkidlapmaaGreat

/- A pack copied: by the program, and by the model. -/
namespace Go.Proofs.YtoihhlkidlapmaaGreat
open Go.RowKit Go.Shelf

def PackMade (w : World) (d : packC.D) (x : Ending) (w' : World) : Prop := ∃ (cs' : List Value) (F : List Nat), x = .returned (.agg cs'.toArray) ∧ packC.own w' cs' d F ∧ (∀ k ∈ F, w.heap.size ≤ k ∧ k < w'.heap.size) ∧ Below w.heap.size w w'
theorem two_boxesP (w : World) (p r : Obj) : ((w.alloc p).alloc r).heap[w.heap.size]? = some p ∧ ((w.alloc p).alloc r).heap[w.heap.size + 1]? = some r ∧ w.heap.size + 1 < ((w.alloc p).alloc r).heap.size ∧ Below w.heap.size w ((w.alloc p).alloc r) := by
  have s1 : (w.alloc p).heap.size = w.heap.size + 1 := by simp
  have b1 := (Below.refl (w.alloc p).heap.size (w.alloc p)).alloc (Nat.le_refl _) r
  have n0 := World.alloc_heap_new w p
  have n1 := World.alloc_heap_new (w.alloc p) r
  rw [s1] at n1
  exact ⟨by rw [b1.block _ (by omega)]; exact n0, n1, by simp, ((Below.refl _ w).alloc (Nat.le_refl _) p).alloc (by simp) r⟩
set_option maxRecDepth 100000 in
set_option maxHeartbeats 4000000 in
theorem l9Pack_any (d : packC.D) (cs : List Value) (w : World) (hs : (PackD.needs d).length ≤ 4194304 ∧ (PackD.tree d).length ≤ 4194304) (h : packC.at_ w cs d) : Calls Tryz.prog 147 #[.agg cs.toArray] w (PackMade w d) := by
  obtain ⟨v2, v3, rfl, h2, h3⟩ := packC_at h
  obtain ⟨name, version, needs, tree⟩ := d
  obtain ⟨hs2, hs3⟩ := hs
  dsimp only at *
  have H2 := hid h2
  have H3 := hid h3
  clear h h2 h3
  obtain ⟨hP, hR, hS, hB⟩ := two_boxesP w (.cells #[.string name, .string version, v2, v3] 34) (.cells #[.string ⟨#[]⟩, .string ⟨#[]⟩, .slice none 0 0, .slice none 0 0] 34)
  have HE := hid ((unhid H2).below hB)
  have JP := hid hP
  have JR := hid hR
  have JS := hid hS
  have JB := hid hB
  clear hP hR hS hB
  go_enter Tryz.func147, Tryz.ntmps147
  go_wp2_with (at_builtin; refine wp_leaf etNeed oneNeed needLeaf ((w.alloc (.cells #[.string name, .string version, v2, v3] 34)).alloc (.cells #[.string ⟨#[]⟩, .string ⟨#[]⟩, .slice none 0 0, .slice none 0 0] 34)) rfl _ _ rfl v2 needs (unhid HE) hs2 (by simp [Act.eval]) rfl ?_)
  intro uu w2 hmade
  generalize (w.alloc (.cells #[.string name, .string version, v2, v3] 34)).alloc (.cells #[.string ⟨#[]⟩, .string ⟨#[]⟩, .slice none 0 0, .slice none 0 0] 34) = W0 at *
  obtain ⟨⟨F2, hown, hfr⟩, hb⟩ := hmade
  obtain ⟨ua2, uc2, hu⟩ := rowOwn.slice hown
  subst hu
  have hP := (hb.block _ (by have := unhid JS; omega)).trans (unhid JP)
  have hR := (hb.block _ (by have := unhid JS; omega)).trans (unhid JR)
  have hS := Nat.lt_of_lt_of_le (unhid JS) hb.size
  have hB := (unhid JB).trans (hb.mono (unhid JB).size)
  have X2 := hid hown
  have Y2 := hid (show ∀ k ∈ F2, w.heap.size + 1 < k ∧ k < w2.heap.size from fun k hk => ⟨Nat.lt_of_lt_of_le (unhid JS) (hfr k hk).1, (hfr k hk).2⟩)
  clear hown hfr hb JP JR JS JB
  obtain ⟨o0, p0⟩ := cell_fz hP 0 _ rfl
  obtain ⟨o1, p1⟩ := cell_fz hP 1 _ rfl
  obtain ⟨o2, p2⟩ := cell_fz hP 2 _ rfl
  obtain ⟨o3, p3⟩ := cell_fz hP 3 _ rfl
  have kk : (w2.setCell ⟨w.heap.size, 2, none⟩ (.slice ua2 needs.length uc2)).cell? ⟨w.heap.size, 3, none⟩ = some v3 := by rw [World.cell?_setCell_other _ _ _ _ (by simp)]; exact o3
  go_wp2_with fail
  have hP : (w2.setCell ⟨w.heap.size, 2, none⟩ (.slice ua2 needs.length uc2)).heap[w.heap.size]? = some (.cells #[.string name, .string version, (.slice ua2 needs.length uc2), v3] 34 (0, 0)) := heap_setCell_same w2 (w.heap.size) 2 _ _ (.slice ua2 needs.length uc2) hP
  have hR := (Below.heap_setCell w2 ⟨w.heap.size, 2, none⟩ (.slice ua2 needs.length uc2) (w.heap.size + 1) (by dsimp only; omega)).trans hR
  have hS : w.heap.size + 1 < (w2.setCell ⟨w.heap.size, 2, none⟩ (.slice ua2 needs.length uc2)).heap.size := by simpa using hS
  have hB : Below w.heap.size w (w2.setCell ⟨w.heap.size, 2, none⟩ (.slice ua2 needs.length uc2)) := hB.setCell (by dsimp only; omega) _
  have X2 := hid (rowOwn.frame (W' := w2.setCell ⟨w.heap.size, 2, none⟩ (.slice ua2 needs.length uc2)) (unhid X2) (fun k hk => Below.heap_setCell _ _ _ _ (by have := ((unhid Y2) k hk).1; dsimp only; omega)))
  have Y2 := hid (show ∀ k ∈ F2, w.heap.size + 1 < k ∧ k < (w2.setCell ⟨w.heap.size, 2, none⟩ (.slice ua2 needs.length uc2)).heap.size from fun k hk => by have := (unhid Y2) k hk; simpa using this)
  clear kk o0 p0 o1 p1 o2 p2 o3 p3
  generalize w2.setCell ⟨w.heap.size, 2, none⟩ (.slice ua2 needs.length uc2) = W3 at *
  have YY2 := hid (show ∀ k ∈ F2, k < W3.heap.size from fun k hk => ((unhid Y2) k hk).2)
  have JP := hid hP
  have JR := hid hR
  have JS := hid hS
  have JB := hid hB
  clear hP hR hS hB
  refine (l2CopyR_any tree v3 W3 hs3 ((unhid H3).below (unhid JB))).mono ?_
  rintro x w3 ⟨uu, rfl, ⟨F3, hown, hfr⟩, hb⟩
  obtain ⟨ua3, uc3, hu⟩ := rowOwn.slice hown
  subst hu
  have hP := (hb.block _ (by have := unhid JS; omega)).trans (unhid JP)
  have hR := (hb.block _ (by have := unhid JS; omega)).trans (unhid JR)
  have hS := Nat.lt_of_lt_of_le (unhid JS) hb.size
  have hB := (unhid JB).trans (hb.mono (unhid JB).size)
  have X2 := hid (rowOwn.frame (unhid X2) (fun k hk => hb.block k ((unhid Y2) k hk).2))
  have Y2 := hid (show ∀ k ∈ F2, w.heap.size + 1 < k ∧ k < w3.heap.size from fun k hk => ⟨((unhid Y2) k hk).1, Nat.lt_of_lt_of_le ((unhid Y2) k hk).2 hb.size⟩)
  have D23 := hid (show ∀ k ∈ F2, k ∉ F3 from fun k hk e => by have h1 := (hfr k e).1; have h2 := (unhid YY2) k hk; omega)
  have X3 := hid hown
  have Y3 := hid (show ∀ k ∈ F3, w.heap.size + 1 < k ∧ k < w3.heap.size from fun k hk => ⟨Nat.lt_of_lt_of_le (unhid JS) (hfr k hk).1, (hfr k hk).2⟩)
  clear hown hfr hb JP JR JS JB
  obtain ⟨o0, p0⟩ := cell_fz hP 0 _ rfl
  obtain ⟨o1, p1⟩ := cell_fz hP 1 _ rfl
  obtain ⟨o2, p2⟩ := cell_fz hP 2 _ rfl
  obtain ⟨o3, p3⟩ := cell_fz hP 3 _ rfl
  obtain ⟨r0, q0⟩ := cell_fz hR 0 _ rfl
  obtain ⟨r1, q1⟩ := cell_fz hR 1 _ rfl
  obtain ⟨r2, q2⟩ := cell_fz hR 2 _ rfl
  obtain ⟨r3, q3⟩ := cell_fz hR 3 _ rfl
  have k0 : (w3.setCell ⟨w.heap.size, 3, none⟩ (.slice ua3 tree.length uc3)).cell? ⟨w.heap.size, 0, none⟩ = some (.string name) := by rw [World.cell?_setCell_other _ _ _ _ (by simp)]; exact o0
  have k1 : (w3.setCell ⟨w.heap.size, 3, none⟩ (.slice ua3 tree.length uc3)).cell? ⟨w.heap.size, 1, none⟩ = some (.string version) := by rw [World.cell?_setCell_other _ _ _ _ (by simp)]; exact o1
  have k2 : (w3.setCell ⟨w.heap.size, 3, none⟩ (.slice ua3 tree.length uc3)).cell? ⟨w.heap.size, 2, none⟩ = some (.slice ua2 needs.length uc2) := by rw [World.cell?_setCell_other _ _ _ _ (by simp)]; exact o2
  go_wp2_with fail
  have hsame : ∀ k, k ≠ w.heap.size → k ≠ w.heap.size + 1 → (((((w3.setCell ⟨w.heap.size, 3, none⟩ (.slice ua3 tree.length uc3)).setCell ⟨w.heap.size + 1, 0, none⟩ (.string name)).setCell ⟨w.heap.size + 1, 1, none⟩ (.string version)).setCell ⟨w.heap.size + 1, 2, none⟩ (.slice ua2 needs.length uc2)).setCell ⟨w.heap.size + 1, 3, none⟩ (.slice ua3 tree.length uc3)).heap[k]? = w3.heap[k]? := fun k h1 h2 => by rw [Below.heap_setCell _ _ _ _ (by exact h2), Below.heap_setCell _ _ _ _ (by exact h2), Below.heap_setCell _ _ _ _ (by exact h2), Below.heap_setCell _ _ _ _ (by exact h2), Below.heap_setCell _ _ _ _ (by exact h1)]
  have hfin : Below w.heap.size w (((((w3.setCell ⟨w.heap.size, 3, none⟩ (.slice ua3 tree.length uc3)).setCell ⟨w.heap.size + 1, 0, none⟩ (.string name)).setCell ⟨w.heap.size + 1, 1, none⟩ (.string version)).setCell ⟨w.heap.size + 1, 2, none⟩ (.slice ua2 needs.length uc2)).setCell ⟨w.heap.size + 1, 3, none⟩ (.slice ua3 tree.length uc3)) := (((((hB.setCell (by dsimp only; omega) _).setCell (by dsimp only; omega) _).setCell (by dsimp only; omega) _).setCell (by dsimp only; omega) _).setCell (by dsimp only; omega) _)
  refine bodyPost_ret (v := .agg #[.string name, .string version, (.slice ua2 needs.length uc2), (.slice ua3 tree.length uc3)]) (by simp [results, Tryz.results147, go_sem, World.cell?_setCell_same', r0, r1, r2, r3]) rfl ⟨[.string name, .string version, (.slice ua2 needs.length uc2), (.slice ua3 tree.length uc3)], F2 ++ F3, rfl, packC_mk ⟨_, _, F2, F3, rfl, rfl, rowOwn.frame (unhid X2) (fun k hk => hsame k (by have := ((unhid Y2) k hk).1; omega) (by have := ((unhid Y2) k hk).1; omega)), rowOwn.frame (unhid X3) (fun k hk => hsame k (by have := ((unhid Y3) k hk).1; omega) (by have := ((unhid Y3) k hk).1; omega)), unhid D23⟩, ?_, hfin⟩
  intro k hk
  have hsz : (((((w3.setCell ⟨w.heap.size, 3, none⟩ (.slice ua3 tree.length uc3)).setCell ⟨w.heap.size + 1, 0, none⟩ (.string name)).setCell ⟨w.heap.size + 1, 1, none⟩ (.string version)).setCell ⟨w.heap.size + 1, 2, none⟩ (.slice ua2 needs.length uc2)).setCell ⟨w.heap.size + 1, 3, none⟩ (.slice ua3 tree.length uc3)).heap.size = w3.heap.size := by simp
  rw [hsz]
  simp only [List.mem_append] at hk
  rcases hk with hk | hk
  · have := (unhid Y2) k hk
    omega
  · have := (unhid Y3) k hk
    omega
end Go.Proofs.YtoihhlkidlapmaaGreat

/- Rows of texts: what they hold, the laws' own copies of them, their sizes; two rows of the same texts are the same. -/
namespace Go.Proofs.YtoihhlkidlapmaaGreat
open Go.RowKit Go.Shelf

/-- A row of texts that is read. -/
def TxtsAt (W : World) (a : Option Addr) (xs : List ByteArray) : Prop := xs = [] ∨ ∃ b o, a = some ⟨b, o, .none⟩ ∧ b < W.heap.size ∧ ∀ (i : Nat) x, xs[i]? = some x → W.cell? ⟨b, o + i, .none⟩ = some (.string x)
theorem TxtsAt.below {W W' : World} {a : Option Addr} {xs : List ByteArray} (h : TxtsAt W a xs) (hb : Below W.heap.size W W') : TxtsAt W' a xs := by
  rcases h with h | ⟨b, o, rfl, hl, hc⟩
  · exact .inl h
  · exact .inr ⟨b, o, rfl, Nat.lt_of_lt_of_le hl hb.size, fun i x hi => (hb.cell (p := ⟨b, o + i, .none⟩) hl).trans (hc i x hi)⟩
theorem TxtsAt.get {W : World} {a : Option Addr} {xs : List ByteArray} (h : TxtsAt W a xs) (hne : xs ≠ []) : ∃ b o, a = some ⟨b, o, .none⟩ ∧ b < W.heap.size ∧ ∀ (i : Nat) x, xs[i]? = some x → W.cell? ⟨b, o + i, .none⟩ = some (.string x) := h.resolve_left hne
theorem TxtsAt.block {W W' : World} {a : Option Addr} {xs : List ByteArray} (h : TxtsAt W a xs) (g : Nat) (hne : ∀ b o, a = some ⟨b, o, .none⟩ → b ≠ g) (hz : W.heap.size ≤ W'.heap.size) (hb : ∀ b, b < W.heap.size → b ≠ g → W'.heap[b]? = W.heap[b]?) : TxtsAt W' a xs := by
  rcases h with h | ⟨b, o, rfl, hl, hc⟩
  · exact .inl h
  · exact .inr ⟨b, o, rfl, Nat.lt_of_lt_of_le hl hz, fun i x hi => (World.cell?_of_block (w := W) (hb b hl (hne b o rfl))).trans (hc i x hi)⟩


/-- A block that is a row of n texts. -/
def TxtRow (W : World) (g T n : Nat) (f : Nat → ByteArray) : Prop := ∃ cur : Array Value, W.heap[g]? = some (.cells cur T (0, 0)) ∧ cur.size = n ∧ ∀ i, i < n → cur[i]? = some (.string (f i))
theorem TxtRow.lt {W : World} {g T n : Nat} {f : Nat → ByteArray} (x : TxtRow W g T n f) : g < W.heap.size := by
  obtain ⟨cur, h1, _⟩ := x; exact (Array.getElem?_eq_some_iff.1 h1).1
theorem TxtRow.block {W W' : World} {g T n : Nat} {f : Nat → ByteArray} (x : TxtRow W g T n f) (e : W'.heap[g]? = W.heap[g]?) : TxtRow W' g T n f := by
  obtain ⟨cur, h1, h2, h3⟩ := x; exact ⟨cur, e.trans h1, h2, h3⟩
theorem TxtRow.below {W W' : World} {B g T n : Nat} {f : Nat → ByteArray} (x : TxtRow W g T n f) (hb : Below B W W') (hg : g < B) : TxtRow W' g T n f := x.block (hb.block g hg)
theorem TxtRow.congr {W : World} {g T n : Nat} {f f' : Nat → ByteArray} (x : TxtRow W g T n f) (e : ∀ j, j < n → f j = f' j) : TxtRow W g T n f' := by
  obtain ⟨cur, h1, h2, h3⟩ := x; exact ⟨cur, h1, h2, fun j hj => by rw [← e j hj]; exact h3 j hj⟩
theorem TxtRow.cells {W : World} {g T n : Nat} {f : Nat → ByteArray} (x : TxtRow W g T n f) (k : Nat) (hk : k < n) : W.cell? ⟨g, k, .none⟩ = some (.string (f k)) ∧ W.frozen? ⟨g, k, .none⟩ = false := by
  obtain ⟨cur, h1, h2, h3⟩ := x
  exact ⟨by simp [World.cell?, h1, h3 k hk], by simp [World.frozen?, h1]⟩
def updX (f : Nat → ByteArray) (k : Nat) (e : ByteArray) : Nat → ByteArray := fun j => if j = k then e else f j
theorem TxtRow.set {W : World} {g T n : Nat} {f : Nat → ByteArray} (x : TxtRow W g T n f) (k : Nat) (hk : k < n) (e : ByteArray) : TxtRow (W.setCell ⟨g, k, .none⟩ (.string e)) g T n (updX f k e) := by
  obtain ⟨cur, h1, h2, h3⟩ := x
  refine ⟨cur.setIfInBounds k (.string e), heap_setCell_same _ g _ _ T _ h1, by simpa using h2, fun i hi => ?_⟩
  unfold updX
  simp only [Array.getElem?_setIfInBounds]
  by_cases e1 : i = k
  · subst e1
    rw [if_pos rfl, if_pos (by omega), if_pos rfl]
  · rw [if_neg (by omega), if_neg e1]
    exact h3 i hi
def txtFn (xs : List ByteArray) (i : Nat) : ByteArray := xs.getD i ⟨#[]⟩
theorem txtFn_get {xs : List ByteArray} {i : Nat} {x : ByteArray} (h : xs[i]? = some x) : txtFn xs i = x := by unfold txtFn; rw [List.getD_eq_getElem?_getD, h]; rfl
theorem TxtRow.at {W : World} {g T n : Nat} {xs : List ByteArray} (x : TxtRow W g T n (txtFn xs)) (hn : xs.length ≤ n) : TxtsAt W (some ⟨g, 0, .none⟩) xs :=
  .inr ⟨g, 0, rfl, x.lt, fun i e hi => by
    have hl : i < xs.length := (List.getElem?_eq_some_iff.1 hi).1
    have := (x.cells i (by omega)).1
    rw [txtFn_get hi] at this
    rwa [Nat.zero_add]⟩


end Go.Proofs.YtoihhlkidlapmaaGreat

/- A region that draws its order: what only reads is taken first, a list of operations at a time; what calls or makes comes up in its turn. -/
namespace Go.Proofs.YtoihhlkidlapmaaGreat
open Go.RowKit

/-- An operation that can yield nothing but a value. -/
def plainOp (o : Oper) : Bool := match o.op with
  | .move _ | .assign _ | .load .. | .binOp .. | .unOp .. | .convert .. | .fieldAddr .. | .field .. | .indexAddr .. | .index .. | .slice .. | .extract .. | .build .. | .makeInterface .. | .typeAssert .. | .pick .. | .nilCheck .. => true
  | .call c => match c.callee with
    | .builtin .len => true
    | .builtin .min => true
    | .builtin .max => true
    | _ => false
  | _ => false
theorem val_only {P : Program} {s : Sem Value} {w w' : World} {n : Next} (h : (do let x ← s; pure (Next.value x) : Sem Next).run P w = .ok n w') : ∃ u, n = .value u := by
  rw [Sem.run_bind] at h
  generalize s.run P w = r at h
  cases r with
  | ok a w1 => simp only [Result.andThen_ok, Sem.run_pure] at h; cases h; exact ⟨_, rfl⟩
  | halt x w1 => simp at h
theorem plain_value {P : Program} {o : Oper} {ρ : Operand → Value} {w w' : World} {n : Next} (hp : plainOp o = true) (h : (execOp ρ o).run P w = .ok n w') : ∃ u, n = .value u := by
  unfold plainOp at hp
  unfold execOp at h
  cases ho : o.op <;> rw [ho] at hp h <;> first | (cases hp; done) | skip
  case move x => simp only [Sem.run_pure] at h; cases h; exact ⟨_, rfl⟩
  case assign x => simp only [Sem.run_pure] at h; cases h; exact ⟨_, rfl⟩
  case pick c x y =>
    simp only [Sem.run_bind] at h
    generalize Sem.run P _ w = r at h
    cases r with
    | ok a w1 => simp only [Result.andThen_ok, Sem.run_pure] at h; cases h; exact ⟨_, rfl⟩
    | halt x w1 => simp at h
  case nilCheck x =>
    dsimp only at h
    split at h
    · simp [runtimePanic] at h
    · simp [runtimePanic] at h
    · simp [runtimePanic] at h
    · split at h
      · simp [runtimePanic] at h
      · simp only [Sem.run_bind] at h
        generalize Sem.run P program w = r at h
        cases r with
        | halt x w1 => simp at h
        | ok a w1 =>
          simp only [Result.andThen_ok] at h
          generalize Sem.run P (nilAhead _ _ _ _) w1 = r at h
          cases r with
          | halt x w1 => simp at h
          | ok a w1 =>
            simp only [Result.andThen_ok] at h
            split at h
            · simp [unsupported] at h
            · simp only [Sem.run_pure] at h; cases h; exact ⟨_, rfl⟩
      · simp only [Sem.run_pure] at h; cases h; exact ⟨_, rfl⟩
    · simp only [Sem.run_pure] at h; cases h; exact ⟨_, rfl⟩
  case call c =>
    obtain ⟨ce, ar, ty⟩ := c
    cases ce with
    | value f => cases hp
    | invoke r m => cases hp
    | builtin b =>
      cases b <;> first | (cases hp; done) | skip
      all_goals
        simp only [resolve, Sem.run_bind, Sem.run_pure, Result.andThen_ok, invoke, builtin] at h
        generalize Sem.run P _ w = r at h
        cases r with
        | ok a w1 => simp only [Result.andThen_ok] at h; cases h; exact ⟨_, rfl⟩
        | halt x w1 => simp at h
  all_goals exact val_only h


def pick : List Oper → List Bool → List Oper
  | o :: l, true :: bs => o :: pick l bs
  | _ :: l, false :: bs => pick l bs
  | _, _ => []
def maskIx : Nat → List Bool → List Nat
  | k, true :: bs => k :: maskIx (k + 1) bs
  | k, false :: bs => maskIx (k + 1) bs
  | _, [] => []
def markAll : List Nat → Array Bool → Array Bool
  | [], l => l
  | i :: is, l => markAll is (l.setIfInBounds i true)
/-- Whether the operations of a list may be taken first, one behind the other. -/
def heldB (md : Region.Mode) (ops : Array Oper) : List Nat → Array Bool → Bool
  | [], _ => true
  | i :: is, listed => (Region.ready md ops listed).contains i && Region.free md ops listed i && ((ops[i]?).map plainOp).getD false && heldB md ops is (listed.setIfInBounds i true)

theorem pick_ix (l : List Oper) : ∀ (l' : List Oper) (m : List Bool) (k : Nat), m.length ≤ l'.length → (∀ j, l'[j]? = l[k + j]?) → (maskIx k m).map (fun i => l.toArray[i]?) = (pick l' m).map some
  | _, [], _, _, _ => by cases ‹List Oper› <;> rfl
  | [], b :: m, _, h, _ => by simp at h
  | o :: l', true :: m, k, h, hl => by
    have h0 : l[k]? = some o := by simpa using (hl 0).symm
    simp only [maskIx, pick, List.map_cons]
    rw [pick_ix l l' m (k + 1) (by simpa using h) (fun j => by have := hl (j + 1); simpa [Nat.add_assoc, Nat.add_comm 1 j] using this)]
    simp [h0]
  | o :: l', false :: m, k, h, hl => by
    simp only [maskIx, pick]
    exact pick_ix l l' m (k + 1) (by simpa using h) (fun j => by have := hl (j + 1); simpa [Nat.add_assoc, Nat.add_comm 1 j] using this)

theorem yieldsIf_quiet {P : Program} {ops : Array Oper} {S : World → Prop} {o : Oper} {a : Act} {K : Act → Prop} (hp : plainOp o = true) (h : if Region.wanted o (yielded ops a.tmps) then o.quiet P a S K else K (a.put o.dst undef)) : ∃ v, YieldsIf P ops S o v a ∧ K (a.put o.dst v) := by
  split at h
  · rename_i hw
    obtain ⟨v, h1, h2⟩ := h
    refine ⟨v, .inl ⟨hw, fun w hS => ?_⟩, h2⟩
    have h3 := h1 w hS
    unfold Oper.quietAt at h3
    generalize hr : (execOp a.eval o).run P w = r at h3
    cases r with
    | ok n w' =>
      obtain ⟨u, rfl⟩ := plain_value hp hr
      simp only [Oper.quietUpon] at h3
      obtain ⟨rfl, rfl⟩ := h3
      rfl
    | halt x w' => simp only [Oper.quietUpon] at h3
  · rename_i hw
    exact ⟨undef, .inr ⟨by simpa using hw, rfl⟩, h⟩


theorem held_same {P : Program} {md : Region.Mode} {ops : Array Oper} {Q : Exit → Act → World → Prop} {S : World → Prop} (hs : Region.noSelect ops = true) (hQ : ∀ c a t v w, Q (.panic c) (Act.put a (some t) v) w → Q (.panic c) a w) (fuel : Nat) : ∀ (is : List Nat) (l : List Oper) (listed : Array Bool) (a : Act) (w : World), is.map (fun i => ops[i]?) = l.map some → heldB md ops is listed = true → S w →
    wpQuiet P ops S (fun a' => wpAnyH P md ops Q S fuel (markAll is listed) a' w) l a → wpAnyH P md ops Q S (is.length + fuel) listed a w
  | [], [], listed, a, w, _, _, _, h => by rw [List.length_nil, Nat.zero_add]; exact h
  | [], _ :: _, _, _, _, e, _, _, _ => by cases e
  | _ :: _, [], _, _, _, e, _, _, _ => by cases e
  | i :: is, o :: l, listed, a, w, e, hB, hS, h => by
    simp only [List.map_cons, List.cons.injEq] at e
    simp only [heldB, Bool.and_eq_true] at hB
    obtain ⟨⟨⟨h1, h2⟩, h3⟩, h4⟩ := hB
    rw [e.1] at h3
    obtain ⟨v, hy, hK⟩ := yieldsIf_quiet (by simpa using h3) h
    rw [show (i :: is).length + fuel = (is.length + fuel) + 1 by simp; omega]
    exact wpAnyH_take e.1 hs h2 h1 (fun c a w hq => by cases hd : o.dst with | none => rw [hd] at hq; exact hq | some t => rw [hd] at hq; exact hQ _ _ _ _ _ hq) hy hS (held_same hs hQ fuel is l _ _ w e.2 h4 hS hK)

/-- A world that meets S. -/
theorem held_begin {P : Program} {id : Nat} {Q : Exit → Act → World → Prop} {a : Act} {w : World} {l : List Oper} (C : World → Prop) (hm : P.follows .mixedOrders = true) (hC : C w.drew)
    (h : wpAnyH P .any l.toArray Q (fun w' => ∃ x : CW C, w' = x.w) l.length (Array.replicate l.length false) a w.drew) : (Code.region id l.toArray true).wp P Q a w :=
  wp_region_held_drew (S := fun w' => ∃ x : CW C, w' = x.w) hm ⟨⟨_, hC⟩, rfl⟩ (fun _ => by simpa using h)
/-- The same, in the very world. -/
theorem held_here {P : Program} {md : Region.Mode} {Q : Exit → Act → World → Prop} {C : World → Prop} {F : Nat} {listed : Array Bool} {a : Act} {w : World} {l : List Oper} (m : List Bool) (hs : Region.noSelect l.toArray = true) (hB : (decide (m.length ≤ l.length) && decide ((maskIx 0 m).length ≤ F) && heldB md l.toArray (maskIx 0 m) listed) = true) (hQ : ∀ c a t v w, Q (.panic c) (Act.put a (some t) v) w → Q (.panic c) a w) (hC : C w)
    (h : wpQuiet P l.toArray (fun w' => ∃ x : CW C, w' = x.w) (fun a' => wpAnyH P md l.toArray Q (fun w' => ∃ x : CW C, w' = x.w) (F - (maskIx 0 m).length) (markAll (maskIx 0 m) listed) a' w) (pick l m) a) :
    wpAnyH P md l.toArray Q (fun w' => ∃ x : CW C, w' = x.w) F listed a w := by
  simp only [Bool.and_eq_true, decide_eq_true_eq] at hB
  obtain ⟨⟨h1, h2⟩, h3⟩ := hB
  have := held_same (P := P) (md := md) (Q := Q) (S := fun w' => ∃ x : CW C, w' = x.w) hs hQ (F - (maskIx 0 m).length) (maskIx 0 m) (pick l m) listed a w (pick_ix l l m 0 h1 (by simp)) h3 ⟨⟨w, hC⟩, rfl⟩ h
  rwa [show (maskIx 0 m).length + (F - (maskIx 0 m).length) = F by omega] at this
/-- One operation comes up: behind it a world of the class. -/
theorem held_op {P : Program} {md : Region.Mode} {ops : Array Oper} {Q : Exit → Act → World → Prop} {C : World → Prop} {F : Nat} {listed : Array Bool} {a : Act} {w : World} {o : Oper} (k : Nat) (hr : Region.ready md ops listed = [k]) (hF : decide (0 < F) = true) (ho : ops[k]? = some o)
    (h : ∀ K' : Act → World → Prop, Shut (∀ a w, C w → wpAnyH P md ops Q (fun w' => ∃ x : CW C, w' = x.w) (F - 1) (listed.setIfInBounds k true) a w → K' a w) → if Region.wanted o (yielded ops a.tmps) = true then Oper.wp P o a w K' Q else K' (a.put o.dst undef) w) :
    wpAnyH P md ops Q (fun w' => ∃ x : CW C, w' = x.w) F listed a w := by
  have hF' : F = (F - 1) + 1 := by simp only [decide_eq_true_eq] at hF; omega
  rw [hF']
  refine wpAnyH_ready hr (by simp) (AllReadyH.cons ho (fun K' hK => h K' (fun a w hc hw => hK.out a w ⟨⟨w, hc⟩, rfl⟩ (fun _ => hw))) AllReadyH.nil)
/-- A function is called: behind it a world of the class. -/
theorem held_call {P : Program} {md : Region.Mode} {ops : Array Oper} {Q : Exit → Act → World → Prop} {C : World → Prop} {F : Nat} {listed : Array Bool} {a : Act} {w : World} {o : Oper} {args : Array Operand} {ty : Array TypeId} (k f d : Nat) (he : ∀ args w, (callFunc f args).run P w = .ok (.enter f args) w) (av : Array Value) (hr : Region.ready md ops listed = [k]) (hF : decide (0 < F) = true) (ho : ops[k]? = some o)
    (hop : o.op = .call ⟨.value (.func f), args, ty⟩) (hw : Region.wanted o (yielded ops a.tmps) = true) (hd : o.dst = some d) (hav : args.toList.map a.eval = av.toList)
    (h : Calls P f av w fun e w' => ∃ v, e = .returned v ∧ C w' ∧ wpAnyH P md ops Q (fun w' => ∃ x : CW C, w' = x.w) (F - 1) (listed.setIfInBounds k true) (a.put (some d) v) w') :
    wpAnyH P md ops Q (fun w' => ∃ x : CW C, w' = x.w) F listed a w := by
  refine held_op k hr hF ho (fun K hK => ?_)
  rw [if_pos hw]
  have hav : args.map a.eval = av := by apply Array.ext'; rw [Array.toList_map]; exact hav
  have hx : (execOp a.eval o).run P w = .ok (.enter f av) w := by
    unfold execOp
    rw [hop]
    simp [resolve, Deferred.ofValue, invoke, he, hav, Act.eval]
  unfold Oper.wp
  rw [hx]
  refine Calls.mono h ?_
  rintro e w' ⟨v, rfl, hc, hn⟩
  exact hK.out _ _ hc (by rw [hd]; exact hn)
/-- One of two operations comes up. -/
theorem held_op2 {P : Program} {md : Region.Mode} {ops : Array Oper} {Q : Exit → Act → World → Prop} {C : World → Prop} {F : Nat} {listed : Array Bool} {a : Act} {w : World} {o o2 : Oper} (k k2 : Nat) (hr : Region.ready md ops listed = [k, k2]) (hF : decide (0 < F) = true) (ho : ops[k]? = some o) (ho2 : ops[k2]? = some o2)
    (h : ∀ K' : Act → World → Prop, Shut (∀ a w, C w → wpAnyH P md ops Q (fun w' => ∃ x : CW C, w' = x.w) (F - 1) (listed.setIfInBounds k true) a w → K' a w) → if Region.wanted o (yielded ops a.tmps) = true then Oper.wp P o a w K' Q else K' (a.put o.dst undef) w)
    (h2 : ∀ K' : Act → World → Prop, Shut (∀ a w, C w → wpAnyH P md ops Q (fun w' => ∃ x : CW C, w' = x.w) (F - 1) (listed.setIfInBounds k2 true) a w → K' a w) → if Region.wanted o2 (yielded ops a.tmps) = true then Oper.wp P o2 a w K' Q else K' (a.put o2.dst undef) w) :
    wpAnyH P md ops Q (fun w' => ∃ x : CW C, w' = x.w) F listed a w := by
  have hF' : F = (F - 1) + 1 := by simp only [decide_eq_true_eq] at hF; omega
  rw [hF']
  exact wpAnyH_ready hr (by simp) (AllReadyH.cons ho (fun K' hK => h K' (fun a w hc hw => hK.out a w ⟨⟨w, hc⟩, rfl⟩ (fun _ => hw))) (AllReadyH.cons ho2 (fun K' hK => h2 K' (fun a w hc hw => hK.out a w ⟨⟨w, hc⟩, rfl⟩ (fun _ => hw))) AllReadyH.nil))
theorem held_done {P : Program} {md : Region.Mode} {ops : Array Oper} {Q : Exit → Act → World → Prop} {S : World → Prop} {F : Nat} {listed : Array Bool} {a : Act} {w : World} (hr : Region.ready md ops listed = []) (h : Q .normal a w) : wpAnyH P md ops Q S F listed a w := wpAnyH_done hr h F
end Go.Proofs.YtoihhlkidlapmaaGreat

/- A row of texts that one more is appended to; rows of names. -/
namespace Go.Proofs.YtoihhlkidlapmaaGreat
open Go.RowKit Go.Shelf

theorem infoStr : (Tryz.prog.info? 9).map (fun i => (i.zero, i.size, i.bytes)) = some (some (.string ⟨#[]⟩), 1, 16) := by kernel_rfl
theorem str_oneN (x : ByteArray) : ∀ u ∈ [Value.string x], u.oneCell' = true := fun u hu => by rw [List.mem_singleton.1 hu]; rfl
/-- A text appended to a row that is owned. -/
theorem app_name (w : World) (base ty : Nat) (v : Value) (xs : List ByteArray) (x : ByteArray) (g : Nat) (hown : w.ownsRow base 9 1 v xs.length (xs.map Value.string)) (h : w.cell? ⟨g, 0, none⟩ = some (.string x)) (hn : xs.length ≤ 4294967296) (hb : base ≤ w.heap.size) :
    ∃ v' w', (Builtin.append_ #[24, 24] ty #[v, .slice (some ⟨g, 0, none⟩) 1 1]).run Tryz.prog w = .ok v' w' ∧ w'.ownsRow base 9 1 v' (xs ++ [x]).length ((xs ++ [x]).map Value.string) ∧ w.grownBy w' v.ownBlock := by
  obtain ⟨i0, hi, hz0, hz1, hz2⟩ := info_parts infoStr
  obtain ⟨v', w', hr, h2, h3, _, h5⟩ := run_append_own_at (P := Tryz.prog) w base 24 ty 9 i0 (.string ⟨#[]⟩) 1 16 Tryz.underlying24 hi hz0 hz1 hz2 rfl (by decide) v xs.length _ hown ⟨g, 0, none⟩ 1 1 [.string x] (by simp) (by
    intro j u hj
    have : j = 0 := by
      have := (List.getElem?_eq_some_iff.1 hj).1
      simpa using this
    subst this
    simp at hj
    subst hj
    exact h) (str_oneN x) (by unfold maxLen; omega) (by omega) hb
  refine ⟨v', w', hr, ?_, h3⟩
  rw [List.map_append, List.length_append]
  exact h2
theorem wp_name {ops : Array Oper} {rest : List Oper} {o : Oper} {a : Act} {w : World} {Q : Exit → Act → World → Prop} (hgd : o.guard = none) (s y : Operand) (ho : o.op = .call { callee := .builtin .append, args := #[s, y], argTypes := #[24, 24] })
    (base : Nat) (v : Value) (xs : List ByteArray) (x : ByteArray) (g : Nat) (hs : a.eval s = v) (hx : a.eval y = .slice (some ⟨g, 0, none⟩) 1 1) (hown : w.ownsRow base 9 1 v xs.length (xs.map Value.string)) (h : w.cell? ⟨g, 0, none⟩ = some (.string x)) (hn : xs.length ≤ 4294967296) (hb : base ≤ w.heap.size)
    (hk : ∀ v' w', w'.ownsRow base 9 1 v' (xs ++ [x]).length ((xs ++ [x]).map Value.string) → w.grownBy w' v.ownBlock → wpList Tryz.prog ops Q rest (a.put o.dst v') w') : wpList Tryz.prog ops Q (o :: rest) a w := by
  refine wpList_plain hgd fun K hK => ?_
  obtain ⟨v', w', hr, h2, h3⟩ := app_name w base o.type v xs x g hown h hn hb
  unfold Oper.wp execOp
  simp only [ho, resolve, invoke, builtin, Sem.run_bind, Sem.run_pure, Result.andThen_ok, List.map_toArray, List.map_cons, List.map_nil, hs, hx, hr]
  exact hK _ _ (hk v' w' h2 h3)
theorem held_name {md : Region.Mode} {ops : Array Oper} {Q : Exit → Act → World → Prop} {C : World → Prop} {F : Nat} {listed : Array Bool} {a : Act} {w : World} {o : Oper} {s y : Operand} (k d : Nat) (base : Nat) (v : Value) (xs : List ByteArray) (x : ByteArray) (g : Nat) (hr : Region.ready md ops listed = [k]) (hF : decide (0 < F) = true) (ho : ops[k]? = some o)
    (hop : o.op = .call { callee := .builtin .append, args := #[s, y], argTypes := #[24, 24] }) (hw : Region.wanted o (yielded ops a.tmps) = true) (hd : o.dst = some d) (hs : a.eval s = v) (hx : a.eval y = .slice (some ⟨g, 0, none⟩) 1 1)
    (hown : w.ownsRow base 9 1 v xs.length (xs.map Value.string)) (h : w.cell? ⟨g, 0, none⟩ = some (.string x)) (hn : xs.length ≤ 4294967296) (hb : base ≤ w.heap.size)
    (hk : ∀ v' w', w'.ownsRow base 9 1 v' (xs ++ [x]).length ((xs ++ [x]).map Value.string) → w.grownBy w' v.ownBlock → C w' ∧ wpAnyH Tryz.prog md ops Q (fun w' => ∃ x : CW C, w' = x.w) (F - 1) (listed.setIfInBounds k true) (a.put (some d) v') w') :
    wpAnyH Tryz.prog md ops Q (fun w' => ∃ x : CW C, w' = x.w) F listed a w := by
  refine held_op k hr hF ho (fun K hK => ?_)
  rw [if_pos hw]
  obtain ⟨v', w', hr, h2, h3⟩ := app_name w base o.type v xs x g hown h hn hb
  unfold Oper.wp execOp
  simp only [hop, resolve, invoke, builtin, Sem.run_bind, Sem.run_pure, Result.andThen_ok, List.map_toArray, List.map_cons, List.map_nil, hs, hx, hr]
  obtain ⟨hc, hn⟩ := hk v' w' h2 h3
  show K (a.put o.dst v') w'
  rw [hd]
  exact hK.out _ _ hc hn
/-- A row of its own, read. -/
theorem ownsRow_txts {W : World} {N : Nat} {v : Value} {xs : List ByteArray} (h : W.ownsRow N 9 1 v xs.length (xs.map Value.string)) : ∃ a cap, v = .slice a xs.length cap ∧ TxtsAt W a xs ∧ (a = none → cap = 0) ∧ ∀ b o, a = some ⟨b, o, none⟩ → o = 0 ∧ N ≤ b ∧ b < W.heap.size := by
  rcases h.2 with ⟨rfl, h0⟩ | ⟨g, cap, cur, rfl, hg, hh, hc, hm, hsz, hcur⟩
  · exact ⟨none, 0, by rw [h0], .inl (List.length_eq_zero_iff.1 h0), fun _ => rfl, fun b o e => by cases e⟩
  · refine ⟨_, cap, rfl, .inr ⟨g, 0, rfl, (Array.getElem?_eq_some_iff.1 hh).1, fun i x hi => ?_⟩, (fun e => by cases e), fun b o e => by cases e; exact ⟨rfl, hg, (Array.getElem?_eq_some_iff.1 hh).1⟩⟩
    have hl : i < xs.length := (List.getElem?_eq_some_iff.1 hi).1
    have hx : cur[i]? = some (.string x) := by
      rw [← Array.getElem?_toList, ← List.getElem?_take_of_lt (l := cur.toList) (i := i) (j := xs.length * 1) (by omega), hcur, List.getElem?_map, hi]; rfl
    rw [Nat.zero_add]
    exact cell_arrS hh _ _ hx
theorem ownsRow_none (W : World) (N : Nat) : W.ownsRow N 9 1 (.slice none 0 0) ([] : List ByteArray).length (([] : List ByteArray).map Value.string) := ⟨rfl, .inl ⟨rfl, rfl⟩⟩
theorem ownsRow_lowerS {W : World} {N M e n size : Nat} {v : Value} {xs : List Value} (h : W.ownsRow M e size v n xs) (hN : N ≤ M) : W.ownsRow N e size v n xs := by
  refine ⟨h.1, ?_⟩
  rcases h.2 with h0 | ⟨g, cap, cur, hv, hg, h2⟩
  · exact .inl h0
  · exact .inr ⟨g, cap, cur, hv, Nat.le_trans hN hg, h2⟩
theorem ownsRow_belowS {W W' : World} {N e n size : Nat} {v : Value} {xs : List Value} (h : W.ownsRow N e size v n xs) (hb : Below W.heap.size W W') : W'.ownsRow N e size v n xs := by
  refine ⟨h.1, ?_⟩
  rcases h.2 with h0 | ⟨g, cap, cur, hv, hg, hh, h2⟩
  · exact .inl h0
  · exact .inr ⟨g, cap, cur, hv, hg, (hb.block g (Array.getElem?_eq_some_iff.1 hh).1).trans hh, h2⟩
def twiceB (xs : List ByteArray) : Bool := !decide xs.Nodup
end Go.Proofs.YtoihhlkidlapmaaGreat

/- Whether a text comes twice: by the model. -/
namespace Go.Proofs.YtoihhlkidlapmaaGreat
open Go.RowKit Go.Shelf

theorem txt_iff (x y : ByteArray) : (x.toList == y.toList) = decide (x = y) := by
  by_cases h : x = y
  · subst h; simp
  · rw [decide_eq_false h]
    rw [beq_eq_false_iff_ne]
    intro e
    apply h
    apply ByteArray.ext
    apply Array.ext'
    rw [← Lib.toList_data, ← Lib.toList_data]; exact e
theorem nodup_snoc {α : Type} {xs : List α} {x : α} (h : xs.Nodup) (hx : x ∉ xs) : (xs ++ [x]).Nodup := by
  rw [List.nodup_append]
  exact ⟨h, by simp, fun a ha b hb e => by rw [List.mem_singleton.1 hb] at e; exact hx (e ▸ ha)⟩
theorem twiceB_true {xs : List ByteArray} {k i : Nat} {x : ByteArray} (hk : xs[k]? = some x) (hi : xs[i]? = some x) (h : k < i) : twiceB xs = true := by
  unfold twiceB
  rw [decide_eq_false]
  · rfl
  · intro hn
    obtain ⟨l1, e1⟩ := List.getElem?_eq_some_iff.1 hk
    obtain ⟨l2, e2⟩ := List.getElem?_eq_some_iff.1 hi
    have := (List.pairwise_iff_getElem.1 hn) k i l1 l2 h
    exact this (e1.trans e2.symm)

set_option maxRecDepth 100000 in
set_option maxHeartbeats 4000000 in
theorem l4Twice_any (xs : List ByteArray) (a : Option Addr) (cap : Nat) (w : World) (hl : xs.length ≤ maxLen) (h : TxtsAt w a xs) :
    Calls Tryz.prog 123 #[.slice a xs.length cap] w fun x w' => x = .returned (.bool (twiceB xs)) ∧ Below w.heap.size w w' := by
  have hlen : xs.length ≤ 9223372036854775807 := hl
  have H := hid h
  clear h hl
  go_enter Tryz.func123, Tryz.ntmps123
  go_wp2_with fail
  go_loopw [3] (fun i wr => ∃ k : Nat, k ≤ xs.length ∧ i = .int .i64 (k : Int) ∧ Hid ((xs.take k).Nodup) ∧ Hid (Below w.heap.size w wr)) (fun i _ => xs.length - (intOf i).toNat)
  case atStart => exact ⟨0, Nat.zero_le _, rfl, hid (by simp), hid (Below.refl _ _)⟩
  case round =>
    obtain ⟨i, hi, rfl, HN, HB⟩ := hrel
    by_cases hlt : i < xs.length
    · obtain ⟨y, hy⟩ : ∃ y, xs[i]? = some y := ⟨xs[i], List.getElem?_eq_getElem hlt⟩
      have HY := hid hy
      clear hy
      go_wp2_with fail
      go_loopw [4] (fun j wq => ∃ k : Nat, k ≤ i ∧ j = .int .i64 (k : Int) ∧ Hid (y ∉ xs.take k) ∧ Hid (Below w.heap.size w wq)) (fun j _ => i - (intOf j).toNat)
      case atStart => exact ⟨0, Nat.zero_le _, rfl, hid (by simp), HB⟩
      case round =>
        clear HB
        obtain ⟨k, hk, rfl, HX, HB⟩ := hrel
        by_cases hlt2 : k < i
        · obtain ⟨x, hx⟩ : ∃ x, xs[k]? = some x := ⟨xs[k], List.getElem?_eq_getElem (by omega)⟩
          obtain ⟨b, o, rfl, hbl, hc⟩ := (unhid H).get (by intro e; subst e; simp at hlt)
          have c0 := ((unhid HB).cell (p := ⟨b, o + k, none⟩) hbl).trans (hc k x hx)
          have c1 := ((unhid HB).cell (p := ⟨b, o + i, none⟩) hbl).trans (hc i y (unhid HY))
          have HX2 := hid hx
          clear hc hx hbl
          have hq := txt_iff x y
          by_cases hxy : x = y
          · rw [decide_eq_true hxy] at hq
            have E := hid (twiceB_true (unhid HX2) (by rw [hxy]; exact unhid HY) hlt2)
            go_wp2_with fail
            go_region
            go_wp2_with fail
            go_ret
            exact ⟨by rw [unhid E]; rfl, (unhid HB).trans ((drew_belowS _).mono (unhid HB).size)⟩
          · rw [decide_eq_false hxy] at hq
            have HNE := hid hxy
            clear hxy
            go_wp2_with fail
            go_region
            go_wp2_with fail
            go_roundw
            case rel =>
              refine ⟨k + 1, by omega, by go_num, hid (fun hm => ?_), hid ((unhid HB).trans ((drew_belowS _).mono (unhid HB).size))⟩
              rw [List.take_add_one, unhid HX2] at hm
              rcases List.mem_append.1 hm with hm | hm
              · exact unhid HX hm
              · simp at hm; exact unhid HNE hm.symm
            case measure => simp [intOf]; omega
        · have e : k = i := by omega
          subst e
          go_wp2_with fail
          go_roundw
          case rel => exact ⟨k + 1, by omega, by go_num, hid (by rw [List.take_add_one, unhid HY]; exact nodup_snoc (unhid HN) (unhid HX)), HB⟩
          case measure => simp [intOf]; omega
    · have e : i = xs.length := by omega
      subst e
      go_wp2_with fail
      go_ret
      refine ⟨?_, unhid HB⟩
      have := unhid HN
      rw [List.take_of_length_le (Nat.le_refl _)] at this
      unfold twiceB
      rw [decide_eq_true this]; rfl
end Go.Proofs.YtoihhlkidlapmaaGreat

/- The names of items, in a row of their own; needs, by the model. -/
namespace Go.Proofs.YtoihhlkidlapmaaGreat
open Go.RowKit Go.Shelf

def namesN (ds : List needC.D) : List ByteArray := List.map (α := needC.D) (fun d => NeedD.name d) ds
theorem namesN_len (ds : List needC.D) : (namesN ds).length = ds.length := by simp [namesN]
theorem namesN_get {ds : List needC.D} {k : Nat} {d : needC.D} (h : ds[k]? = some d) : (namesN ds)[k]? = some (NeedD.name d) := by unfold namesN; rw [List.getElem?_map, h]; rfl
theorem take_next {α : Type} {xs : List α} {k : Nat} {x : α} (h : xs[k]? = some x) : xs.take (k + 1) = xs.take k ++ [x] := by rw [List.take_add_one, h]; rfl
theorem ownsRow_take {W : World} {N : Nat} {v : Value} {xs : List ByteArray} {k : Nat} {x : ByteArray} (hx : xs[k]? = some x) (h : W.ownsRow N 9 1 v (xs.take k ++ [x]).length ((xs.take k ++ [x]).map Value.string)) : W.ownsRow N 9 1 v (xs.take (k + 1)).length ((xs.take (k + 1)).map Value.string) := by
  rw [take_next hx]; exact h
/-- What changes in a row of the call's own, or above it, leaves what lay below. -/
theorem grown_belowN {w W W' : World} {row : Option Nat} (hb : Below w.heap.size w W) (h : W.grownBy W' row) (hr : ∀ j, row = some j → w.heap.size ≤ j) : Below w.heap.size w W' :=
  ⟨h.os.trans hb.os, h.tape.trans hb.tape, h.output.trans hb.output, Nat.le_trans hb.size h.size, fun k hk => (h.block k (Nat.lt_of_lt_of_le hk hb.size) (fun e => by have := hr k e.symm; omega)).trans (hb.block k hk)⟩
theorem cell_newN (w : World) (x : Value) (t : Nat) : (w.alloc (.cells #[x] t)).cell? ⟨w.heap.size, 0, none⟩ = some x := cell_arrS (World.alloc_heap_new w _) 0 x rfl

set_option maxRecDepth 100000 in
set_option maxHeartbeats 1000000 in
theorem packName1_any (e : NeedD) (w : World) :
    Calls Tryz.prog 113 #[.agg #[.string e.name, .int .i64 e.kind, .string e.version]] w fun x w' => x = .returned (.string e.name) ∧ w' = w.alloc (.cells #[.string e.name, .int .i64 e.kind, .string e.version] 36) := by
  go_enter Tryz.func113, Tryz.ntmps113
  go_wp2_with fail
  go_ret
  exact ⟨rfl, rfl⟩

set_option maxRecDepth 100000 in
set_option maxHeartbeats 4000000 in
theorem namesOfNeed_any (ds : List needC.D) (v : Value) (w : World) (hl : ds.length ≤ 1048576) (h : rowAt needC w v ds) :
    Calls Tryz.prog 112 #[v, .func (.func 113) #[] #[]] w fun x w' => ∃ u, x = .returned u ∧ w'.ownsRow w.heap.size 9 1 u (namesN ds).length ((namesN ds).map Value.string) ∧ Below w.heap.size w w' := by
  obtain ⟨a, cap, rfl, -, -, h⟩ := h
  have H := hid h
  clear h
  go_enter Tryz.func112, Tryz.ntmps112
  go_wp2_with fail
  go_loopw [5, 10] (fun s i wr => ∃ (k : Nat) (oa : Option Addr) (oc : Nat), k ≤ ds.length ∧ i = .int .i64 (k : Int) ∧ s = .slice oa k oc ∧ Hid (wr.ownsRow w.heap.size 9 1 (.slice oa k oc) ((namesN ds).take k).length (((namesN ds).take k).map Value.string)) ∧ Hid (Below w.heap.size w wr)) (fun _ i _ => ds.length - (intOf i).toNat)
  case atStart => exact ⟨0, _, _, Nat.zero_le _, rfl, rfl, hid (ownsRow_none _ _), hid (Below.refl _ _)⟩
  case round =>
    obtain ⟨k, oa, oc, hk, rfl, rfl, HO, HB⟩ := hrel
    by_cases hlt : k < ds.length
    · obtain ⟨e, he⟩ : ∃ e, ds[k]? = some e := ⟨ds[k], List.getElem?_eq_getElem hlt⟩
      obtain ⟨b, o, rfl, hbl, hc⟩ := (unhid H).resolve_left (by intro e; subst e; simp at hlt)
      obtain ⟨cs, hat, hcell⟩ := hc k e he
      have hcs := needC_at hat
      obtain rfl := hcs
      have c0 : wr.cell? ⟨b, o + k * 3, none⟩ = some (.string e.name) := ((unhid HB).cell (p := ⟨b, o + k * 3 + 0, none⟩) hbl).trans (hcell 0 _ rfl)
      have c1 : wr.cell? ⟨b, o + k * 3 + 1, none⟩ = some (.int .i64 e.kind) := ((unhid HB).cell (p := ⟨b, o + k * 3 + 1, none⟩) hbl).trans (hcell 1 _ rfl)
      have c2 : wr.cell? ⟨b, o + k * 3 + 2, none⟩ = some (.string e.version) := ((unhid HB).cell (p := ⟨b, o + k * 3 + 2, none⟩) hbl).trans (hcell 2 _ rfl)
      have HX := hid (namesN_get he)
      clear hc hat hcell he
      go_wp2_with fail
      refine (packName1_any e _).mono ?_
      rintro x w2 ⟨rfl, hw2⟩
      have hb2 : Below wr.heap.size wr w2 := by rw [hw2]; exact ((Below.refl _ wr).alloc (Nat.le_refl _) _).alloc (by simp) _
      have ho2 : w2.ownsRow w.heap.size 9 1 (.slice oa k oc) ((namesN ds).take k).length (((namesN ds).take k).map Value.string) := by rw [hw2]; exact ((unhid HO).alloc _).alloc _
      have HO2 := hid (ho2.alloc (.cells #[.string e.name] 9))
      have HB2 := hid (((unhid HB).trans (hb2.mono (unhid HB).size)).alloc ((unhid HB).trans (hb2.mono (unhid HB).size)).size (.cells #[.string e.name] 9))
      have HC2 := hid (cell_newN w2 (.string e.name) 9)
      have hlo := hid (show ∀ j, (Value.slice oa k oc).ownBlock = some j → w.heap.size ≤ j from fun j ej => (ho2.lt j ej).1)
      have hkl : ((namesN ds).take k).length ≤ 1048576 := by rw [List.length_take]; omega
      have HKL := hid hkl
      have HSZ := hid (unhid HB2).size
      clear hw2 hb2 ho2 HO HB c0 c1 c2 hkl
      go_wp2_with (at_builtin; refine wp_name rfl _ _ rfl w.heap.size (.slice oa k oc) ((namesN ds).take k) e.name w2.heap.size rfl rfl (unhid HO2) (unhid HC2) (by have := unhid HKL; omega) (unhid HSZ) ?_)
      intro v' w4 hown hg
      have ho3 := ownsRow_take (unhid HX) (W := w4) (N := w.heap.size) (v := v') (by simpa using hown)
      have HB3 := hid (grown_belowN (unhid HB2) hg (unhid hlo))
      obtain ⟨oa2, oc2, hv, -⟩ := ownsRow_txts ho3
      have hk1 : ((namesN ds).take (k + 1)).length = k + 1 := by rw [List.length_take, namesN_len]; omega
      rw [hk1] at hv
      subst hv
      have HO3 := hid ho3
      clear hown hg hlo HC2 HB2 HO2 HSZ HKL ho3 hk1
      go_wp2_with fail
      go_roundw
      case rel => exact ⟨k + 1, oa2, oc2, by omega, by go_num, rfl, HO3, HB3⟩
      case measure => simp [intOf]; omega
    · have e : k = ds.length := by omega
      subst e
      go_wp2_with fail
      go_ret
      refine ⟨_, rfl, ?_, unhid HB⟩
      have := unhid HO
      rwa [List.take_of_length_le (by rw [namesN_len]; exact Nat.le_refl _)] at this
end Go.Proofs.YtoihhlkidlapmaaGreat

/- Contracts of the library that are laid at the program. -/
namespace Go.Proofs.YtoihhlkidlapmaaGreat
open Go.Shelf Go.RowKit Go.Sort
def sh_lays190_ren : Go.Shelf.Ren := ⟨fun | 190 => 68 | 125 => 128 | 258 => 127 | 128 => 200 | 129 => 201 | 302 => 191 | 303 => 192 | 304 => 193 | 305 => 194 | 306 => 195 | 307 => 196 | 308 => 197 | 309 => 198 | 310 => 199 | 333 => 252 | 329 => 253 | 330 => 254 | 334 => 255 | 335 => 256 | 336 => 257 | 344 => 278 | n => n, fun | 31 => 24 | 9 => 9 | 3 => 3 | 46 => 166 | 0 => 0 | 51 => 227 | 53 => 229 | 4 => 4 | 183 => 221 | 182 => 220 | 131 => 111 | 5 => 5 | 218 => 261 | 222 => 265 | 228 => 280 | 229 => 281 | n => n, fun | n => n⟩
theorem sh_lays190 : Go.Proofs.Lays.n190 Tryz.prog sh_lays190_ren := {
  mixed := by kernel_rfl
  f125 := Tryz.func128.trans (congrArg some (by kernel_rfl))
  f128 := Tryz.func200.trans (congrArg some (by kernel_rfl))
  f129 := Tryz.func201.trans (congrArg some (by kernel_rfl))
  f190 := Tryz.func68.trans (congrArg some (by kernel_rfl))
  f258 := Tryz.func127.trans (congrArg some (by kernel_rfl))
  f302 := Tryz.func191.trans (congrArg some (by kernel_rfl))
  f303 := Tryz.func192.trans (congrArg some (by kernel_rfl))
  f304 := Tryz.func193.trans (congrArg some (by kernel_rfl))
  f305 := Tryz.func194.trans (congrArg some (by kernel_rfl))
  f306 := Tryz.func195.trans (congrArg some (by kernel_rfl))
  f307 := Tryz.func196.trans (congrArg some (by kernel_rfl))
  f308 := Tryz.func197.trans (congrArg some (by kernel_rfl))
  f309 := Tryz.func198.trans (congrArg some (by kernel_rfl))
  f310 := Tryz.func199.trans (congrArg some (by kernel_rfl))
  f329 := Tryz.func253.trans (congrArg some (by kernel_rfl))
  f330 := Tryz.func254.trans (congrArg some (by kernel_rfl))
  f333 := Tryz.func252.trans (congrArg some (by kernel_rfl))
  f334 := Tryz.func255.trans (congrArg some (by kernel_rfl))
  f335 := Tryz.func256.trans (congrArg some (by kernel_rfl))
  f336 := Tryz.func257.trans (congrArg some (by kernel_rfl))
  f344 := Tryz.func278.trans (congrArg some (by kernel_rfl))
  t0 := Tryz.underlying0
  a0 := Tryz.isAgg0
  z0 := Tryz.sizeOf0
  v0 := Tryz.zeroValue0
  t3 := Tryz.underlying3
  a3 := Tryz.isAgg3
  z3 := Tryz.sizeOf3
  v3 := Tryz.zeroValue3
  t4 := Tryz.underlying4
  a4 := Tryz.isAgg4
  z4 := Tryz.sizeOf4
  v4 := Tryz.zeroValue4
  t5 := Tryz.underlying5
  a5 := Tryz.isAgg5
  z5 := Tryz.sizeOf5
  v5 := Tryz.zeroValue5
  t9 := Tryz.underlying9
  a9 := Tryz.isAgg9
  z9 := Tryz.sizeOf9
  v9 := Tryz.zeroValue9
  t31 := Tryz.underlying24
  a31 := Tryz.isAgg24
  z31 := Tryz.sizeOf24
  v31 := Tryz.zeroValue24
  t46 := Tryz.underlying166
  a46 := Tryz.isAgg166
  z46 := Tryz.sizeOf166
  v46 := Tryz.zeroValue166
  t51 := Tryz.underlying227
  a51 := Tryz.isAgg227
  z51 := Tryz.sizeOf227
  v51 := Tryz.zeroValue227
  t53 := Tryz.underlying229
  a53 := Tryz.isAgg229
  z53 := Tryz.sizeOf229
  v53 := Tryz.zeroValue229
  t131 := Tryz.underlying111
  a131 := Tryz.isAgg111
  z131 := Tryz.sizeOf111
  v131 := Tryz.zeroValue111
  t182 := Tryz.underlying220
  a182 := Tryz.isAgg220
  z182 := Tryz.sizeOf220
  v182 := Tryz.zeroValue220
  t183 := Tryz.underlying221
  a183 := Tryz.isAgg221
  z183 := Tryz.sizeOf221
  v183 := Tryz.zeroValue221
  t218 := Tryz.underlying261
  a218 := Tryz.isAgg261
  z218 := Tryz.sizeOf261
  v218 := Tryz.zeroValue261
  t222 := Tryz.underlying265
  a222 := Tryz.isAgg265
  z222 := Tryz.sizeOf265
  v222 := Tryz.zeroValue265
  t228 := Tryz.underlying280
  a228 := Tryz.isAgg280
  z228 := Tryz.sizeOf280
  v228 := Tryz.zeroValue280
  t229 := Tryz.underlying281
  a229 := Tryz.isAgg281
  z229 := Tryz.sizeOf281
  v229 := Tryz.zeroValue281 }
theorem sh_slices_Sort_string (blk off cap : Nat) (ss : List (List UInt8)) (w : World) (hH : Holds encStr w blk off ss.toArray) (hblk : blk < w.heap.size) (hsz : ss.length < 4611686018427387904) :
    Calls Tryz.prog 68 #[.slice (some ⟨blk, off, none⟩) ss.length cap] w fun e w' =>
      e = .returned (.tuple #[]) ∧ ∃ n os, w' = grow (putRow encStr (Sort.ahead w n) blk off (ss.mergeSort fun x y => decide (x ≤ y)).toArray) os := Any.slices_Sort_string sh_lays190 blk off cap ss w hH hblk hsz
theorem sh_slices_Sort_string_none (p : Option Addr) (cap : Nat) (w : World) :
    Calls Tryz.prog 68 #[.slice p 0 cap] w fun e w' => e = .returned (.tuple #[]) ∧ w' = w := Any.slices_Sort_string_none sh_lays190 p cap w
end Go.Proofs.YtoihhlkidlapmaaGreat

/- Whether a name comes twice, by the program: it sorts them. -/
namespace Go.Proofs.YtoihhlkidlapmaaGreat
open Go.RowKit Go.Shelf Go.Sort

theorem leB_tr (a b c : List UInt8) (h1 : leB a b = true) (h2 : leB b c = true) : leB a c = true := by
  simp only [leB, decide_eq_true_eq] at *; exact List.le_trans h1 h2
theorem leB_to (a b : List UInt8) : (leB a b || leB b a) = true := by
  simp only [leB, Bool.or_eq_true, decide_eq_true_eq]; exact List.le_total a b
theorem leB_anti {a b : List UInt8} (h1 : leB a b = true) (h2 : leB b a = true) : a = b := by
  simp only [leB, decide_eq_true_eq] at h1 h2
  exact List.le_antisymm h1 h2
/-- The texts sorted. -/
def sortT (xs : List ByteArray) : List ByteArray := ((xs.map fun x => x.data.toList).mergeSort leB).map fun l => ⟨l.toArray⟩
theorem back_txts (xs : List ByteArray) : ((xs.map fun x => x.data.toList).map fun l => (⟨l.toArray⟩ : ByteArray)) = xs := by
  rw [List.map_map]
  conv => rhs; rw [← List.map_id xs]
  exact List.map_congr_left fun x _ => by simp
theorem sortT_perm (xs : List ByteArray) : (sortT xs).Perm xs := by
  have := (List.mergeSort_perm (xs.map fun x => x.data.toList) leB).map (fun l => (⟨l.toArray⟩ : ByteArray))
  rw [back_txts] at this
  exact this
theorem sortT_len (xs : List ByteArray) : (sortT xs).length = xs.length := (sortT_perm xs).length_eq
theorem sortT_sorted (xs : List ByteArray) : (sortT xs).Pairwise fun a b => leB a.data.toList b.data.toList = true := by
  unfold sortT
  rw [List.pairwise_map]
  exact (List.pairwise_mergeSort leB_tr leB_to _).imp fun h => by simpa using h
theorem nodup_sorted {ys : List ByteArray} (hp : ys.Pairwise fun a b => leB a.data.toList b.data.toList = true) (ha : ∀ (j : Nat) x y, ys[j]? = some x → ys[j + 1]? = some y → x ≠ y) : ys.Nodup := by
  unfold List.Nodup
  rw [List.pairwise_iff_getElem] at hp ⊢
  intro i j hi hj hij e
  have h1 : i + 1 < ys.length := by omega
  have h2 := hp i (i + 1) hi h1 (by omega)
  have h3 : leB (ys[i + 1]).data.toList (ys[i]).data.toList = true := by
    rw [e]
    rcases Nat.lt_or_ge (i + 1) j with h | h
    · exact hp (i + 1) j h1 hj h
    · have : i + 1 = j := by omega
      subst this
      have := leB_to (ys[i + 1]).data.toList (ys[i + 1]).data.toList
      rwa [Bool.or_self] at this
  have h4 := leB_anti h2 h3
  exact ha i _ _ (List.getElem?_eq_getElem hi) (List.getElem?_eq_getElem h1) (ByteArray.ext (Array.ext' h4))
theorem twice_sort (xs : List ByteArray) : twiceB (sortT xs) = twiceB xs := by
  unfold twiceB
  rw [show decide (sortT xs).Nodup = decide xs.Nodup from decide_eq_decide.2 (sortT_perm xs).nodup_iff]
theorem encStr_map (xs : List ByteArray) : xs.map Value.string = (xs.map fun x => x.data.toList).map encStr := by
  rw [List.map_map]
  exact List.map_congr_left fun x _ => by simp [encStr]
theorem map_encStr (ls : List (List UInt8)) : ls.map encStr = (ls.map fun l => (⟨l.toArray⟩ : ByteArray)).map Value.string := by
  rw [List.map_map]; rfl

set_option maxRecDepth 100000 in
set_option maxHeartbeats 1000000 in
/-- The library's sort of texts that are owned. -/
theorem sort_own (xs : List ByteArray) (v : Value) (N : Nat) (w : World) (hn : xs.length ≤ 4294967296) (h : w.ownsRow N 9 1 v xs.length (xs.map Value.string)) :
    Calls Tryz.prog 68 #[v] w fun x w' => x = .returned (.tuple #[]) ∧ w'.ownsRow N 9 1 v (sortT xs).length ((sortT xs).map Value.string) ∧ w.grownBy w' v.ownBlock := by
  rcases h.2 with ⟨rfl, h0⟩ | ⟨g, cap, cur, rfl, hg, hh, hc, hm, hsz, hcur⟩
  · have hx : xs = [] := List.length_eq_zero_iff.1 h0
    subst hx
    exact (sh_slices_Sort_string_none none 0 w).mono fun x w' ⟨h1, h2⟩ => ⟨h1, by rw [h2, show sortT [] = [] by simp [sortT]]; exact h, by rw [h2]; exact ⟨rfl, rfl, rfl, Nat.le_refl _, fun _ _ _ => rfl⟩⟩
  · have hl : (xs.map fun x => x.data.toList).length = xs.length := List.length_map _
    have hcur2 : cur.toList.take (xs.map fun x => x.data.toList).length = (xs.map fun x => x.data.toList).map encStr := by
      rw [hl, ← encStr_map, ← hcur, Nat.mul_one]
    have hH : Holds encStr w g 0 (xs.map fun x => x.data.toList).toArray := holds_of_block hh hcur2
    have := sh_slices_Sort_string g 0 cap (xs.map fun x => x.data.toList) w hH (Array.getElem?_eq_some_iff.1 hh).1 (by rw [hl]; omega)
    rw [hl] at this
    refine this.mono fun x w' ⟨h1, n, os, h2⟩ => ⟨h1, ?_, ?_⟩
    · rw [h2]
      have := ownsRow_sorted (n := n) (os := os) (ts := (xs.map fun x => x.data.toList).mergeSort leB) (List.length_mergeSort _) hg hh (by rw [hl]; exact hc) hm hsz
      rw [hl, map_encStr] at this
      rw [sortT_len]
      exact this
    · rw [h2]; exact grownBy_sorted _

theorem grown_drewS {w w' : World} {row : Option Nat} (h : w.grownBy w' row) : w.grownBy w'.drew row := ⟨h.os, h.tape, h.output, h.size, h.block⟩

set_option maxRecDepth 100000 in
set_option maxHeartbeats 4000000 in
theorem anyTwice_any (xs : List ByteArray) (v : Value) (N : Nat) (w : World) (hn : xs.length ≤ 4294967296) (h : w.ownsRow N 9 1 v xs.length (xs.map Value.string)) :
    Calls Tryz.prog 61 #[v] w fun x w' => x = .returned (.bool (twiceB xs)) ∧ w.grownBy w' v.ownBlock := by
  have H := hid h
  obtain ⟨a, cap, rfl, -, -, hblk⟩ := ownsRow_txts h
  clear h
  have HSL := hid (sortT_len xs)
  have HTW := hid (twice_sort xs)
  have HSO := hid (sortT_sorted xs)
  go_enter Tryz.func61, Tryz.ntmps61
  go_wp2_with fail
  refine (sort_own xs _ N w hn (unhid H)).mono ?_
  rintro x w1 ⟨rfl, ho, hg⟩
  obtain ⟨a1, c1, e1, hat, -, -⟩ := ownsRow_txts ho
  have e2 : a1 = a := by injection e1 with e1; exact e1.symm
  subst e2
  generalize hys : sortT xs = ys at *
  have HAT := hid hat
  have HG := hid hg
  have hyl : ys.length = xs.length := unhid HSL
  have HYL := hid hyl
  clear ho hat hg e1 hys hyl HSL H hblk
  go_wp2_with fail
  go_loopw [3] (fun i wr => ∃ k : Nat, k ≤ xs.length ∧ i = .int .i64 ((k : Int) + 1) ∧ Hid (∀ (j : Nat) x y, j < k → ys[j]? = some x → ys[j + 1]? = some y → x ≠ y) ∧ Hid (w.grownBy wr (Value.slice a1 xs.length cap).ownBlock) ∧ Hid (TxtsAt wr a1 ys)) (fun i _ => xs.length + 1 - (intOf i).toNat)
  case atStart => exact ⟨0, Nat.zero_le _, rfl, hid (fun j x y hj => absurd hj (Nat.not_lt_zero _)), HG, HAT⟩
  case round =>
    clear HAT HG
    obtain ⟨k, hk, rfl, HX, HG, HAT⟩ := hrel
    by_cases hlt : k + 1 < xs.length
    · have hl1 : k < ys.length := by have := unhid HYL; omega
      have hl2 : k + 1 < ys.length := by have := unhid HYL; omega
      obtain ⟨x, hx⟩ : ∃ x, ys[k]? = some x := ⟨ys[k], List.getElem?_eq_getElem hl1⟩
      obtain ⟨y, hy⟩ : ∃ y, ys[k + 1]? = some y := ⟨ys[k + 1], List.getElem?_eq_getElem hl2⟩
      obtain ⟨b, o, rfl, hbl, hc⟩ := (unhid HAT).get (by intro e; subst e; simp at hl1)
      have c0 := hc k x hx
      have c1 : wr.cell? ⟨b, o + (k + 1), none⟩ = some (.string y) := hc (k + 1) y hy
      have c2 : wr.cell? ⟨b, o + k + 1, none⟩ = some (.string y) := hc (k + 1) y hy
      have q0 : ((k : Int) + 1 - 1).toNat = k := by omega
      have HXY := hid (And.intro hx hy)
      have hq := txt_iff y x
      clear hc hx hy hbl hl1 hl2
      by_cases hxy : y = x
      · rw [decide_eq_true hxy] at hq
        have E := hid (twiceB_true (unhid HXY).1 (by rw [← hxy]; exact (unhid HXY).2) (Nat.lt_succ_self k))
        go_wp2_with fail
        go_region
        go_wp2_with fail
        go_ret
        exact ⟨by rw [← unhid HTW, unhid E]; rfl, grown_drewS (unhid HG)⟩
      · rw [decide_eq_false hxy] at hq
        have HNE := hid hxy
        clear hxy
        go_wp2_with fail
        go_region
        go_wp2_with fail
        go_roundw
        case rel =>
          refine ⟨k + 1, by omega, by go_num, hid (fun j x' y' hj hx' hy' => ?_), hid (grown_drewS (unhid HG)), hid ((unhid HAT).below (drew_belowS _))⟩
          by_cases ej : j = k
          · subst ej
            rw [(unhid HXY).1] at hx'
            rw [(unhid HXY).2] at hy'
            cases hx'
            cases hy'
            exact fun e => unhid HNE e.symm
          · exact unhid HX j x' y' (by omega) hx' hy'
        case measure => simp [intOf]; omega
    · go_wp2_with fail
      go_ret
      refine ⟨?_, unhid HG⟩
      have : ys.Nodup := nodup_sorted (unhid HSO) (fun j x y hx hy => unhid HX j x y (by have := (List.getElem?_eq_some_iff.1 hy).1; have := unhid HYL; omega) hx hy)
      have h2 : twiceB ys = false := by unfold twiceB; rw [decide_eq_true this]; rfl
      rw [← unhid HTW, h2]; rfl
end Go.Proofs.YtoihhlkidlapmaaGreat
