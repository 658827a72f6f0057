/- Data by its shape: texts, numbers, structs and rows of these, read, in memory of its own, and written over. -/
import Derived.Test.YtlnpjiabdebmgaaKind
import Derived.Test.YtlnpjiabdebmgaaMarkText
namespace Go.Proofs.Ytlnpjiabdebmgaa
open Go.RowKit

/-- What lies in n cells, one behind the other. -/
structure CK where
  D : Type
  n : Nat
  own : World → List Value → D → List Nat → Prop
  at_ : World → List Value → D → Prop
  mark : Nat → D → D
  cnt : D → Nat
  sz : D → Nat
  big : D → Prop
  len : ∀ {W : World} {cs : List Value} {d : D} {F : List Nat}, own W cs d F → cs.length = n
  alen : ∀ {W : World} {cs : List Value} {d : D}, at_ W cs d → cs.length = n
  frame : ∀ {W W' : World} {cs : List Value} {d : D} {F : List Nat}, own W cs d F → (∀ k ∈ F, W'.heap[k]? = W.heap[k]?) → own W' cs d F
  lt : ∀ {W : World} {cs : List Value} {d : D} {F : List Nat}, own W cs d F → ∀ k ∈ F, k < W.heap.size
  nodup : ∀ {W : World} {cs : List Value} {d : D} {F : List Nat}, own W cs d F → F.Nodup
  below : ∀ {W W' : World} {cs : List Value} {d : D}, at_ W cs d → Below W.heap.size W W' → at_ W' cs d
  toAt : ∀ {W : World} {cs : List Value} {d : D} {F : List Nat}, own W cs d F → at_ W cs d

def txtC : CK where
  D := ByteArray
  n := 1
  own := fun _ cs x F => cs = [.string x] ∧ F = []
  at_ := fun _ cs x => cs = [.string x]
  mark := fun q _ => mtext q
  cnt := fun _ => 1
  sz := fun x => x.size
  big := fun x => x.size ≤ maxLen
  len := fun h => by rw [h.1]; rfl
  alen := fun h => by rw [h]; rfl
  frame := fun h _ => h
  lt := fun h k hk => by rw [h.2] at hk; cases hk
  nodup := fun h => by rw [h.2]; exact List.nodup_nil
  below := fun h _ => h
  toAt := fun h => h.1
def intC : CK where
  D := Int
  n := 1
  own := fun _ cs x F => cs = [.int .i64 x] ∧ F = []
  at_ := fun _ cs x => cs = [.int .i64 x]
  mark := fun q _ => (q : Int)
  cnt := fun _ => 1
  sz := fun _ => 0
  big := fun x => -9223372036854775808 ≤ x ∧ x ≤ 9223372036854775807
  len := fun h => by rw [h.1]; rfl
  alen := fun h => by rw [h]; rfl
  frame := fun h _ => h
  lt := fun h k hk => by rw [h.2] at hk; cases hk
  nodup := fun h => by rw [h.2]; exact List.nodup_nil
  below := fun h _ => h
  toAt := fun h => h.1
def pairC (a b : CK) : CK where
  D := a.D × b.D
  n := a.n + b.n
  own := fun W cs d F => ∃ c1 c2 F1 F2, cs = c1 ++ c2 ∧ F = F1 ++ F2 ∧ a.own W c1 d.1 F1 ∧ b.own W c2 d.2 F2 ∧ ∀ k ∈ F1, k ∉ F2
  at_ := fun W cs d => ∃ c1 c2, cs = c1 ++ c2 ∧ a.at_ W c1 d.1 ∧ b.at_ W c2 d.2
  mark := fun q d => (a.mark q d.1, b.mark (q + a.cnt d.1) d.2)
  cnt := fun d => a.cnt d.1 + b.cnt d.2
  sz := fun d => a.sz d.1 + b.sz d.2
  big := fun d => a.big d.1 ∧ b.big d.2
  len := fun h => by obtain ⟨c1, c2, F1, F2, rfl, rfl, h1, h2, _⟩ := h; rw [List.length_append, a.len h1, b.len h2]
  alen := fun h => by obtain ⟨c1, c2, rfl, h1, h2⟩ := h; rw [List.length_append, a.alen h1, b.alen h2]
  frame := fun h hf => by
    obtain ⟨c1, c2, F1, F2, rfl, rfl, h1, h2, hd⟩ := h
    exact ⟨c1, c2, F1, F2, rfl, rfl, a.frame h1 (fun k hk => hf k (List.mem_append.2 (.inl hk))), b.frame h2 (fun k hk => hf k (List.mem_append.2 (.inr hk))), hd⟩
  lt := fun h k hk => by
    obtain ⟨c1, c2, F1, F2, rfl, rfl, h1, h2, hd⟩ := h
    rcases List.mem_append.1 hk with hk | hk
    · exact a.lt h1 k hk
    · exact b.lt h2 k hk
  nodup := fun h => by
    obtain ⟨c1, c2, F1, F2, rfl, rfl, h1, h2, hd⟩ := h
    exact List.nodup_append.2 ⟨a.nodup h1, b.nodup h2, fun x hx y hy e => hd x hx (e ▸ hy)⟩
  below := fun h hb => by obtain ⟨c1, c2, e, h1, h2⟩ := h; exact ⟨c1, c2, e, a.below h1 hb, b.below h2 hb⟩
  toAt := fun h => by obtain ⟨c1, c2, F1, F2, e, _, h1, h2, _⟩ := h; exact ⟨c1, c2, e, a.toAt h1, b.toAt h2⟩
/-- The same by another name. -/
def isoC (K : CK) (T : Type) (f : T → K.D) (g : K.D → T) : CK where
  D := T
  n := K.n
  own := fun W cs t F => K.own W cs (f t) F
  at_ := fun W cs t => K.at_ W cs (f t)
  mark := fun q t => g (K.mark q (f t))
  cnt := fun t => K.cnt (f t)
  sz := fun t => K.sz (f t)
  big := fun t => K.big (f t)
  len := K.len
  alen := K.alen
  frame := K.frame
  lt := K.lt
  nodup := K.nodup
  below := K.below
  toAt := K.toAt

/-- A row that is read. -/
def rowAt (K : CK) (W : World) (v : Value) (ds : List K.D) : Prop := ∃ (a : Option Addr) (cap : Nat), v = .slice a ds.length cap ∧ (a = none → cap = 0) ∧ ds.length ≤ cap ∧
  (ds = [] ∨ ∃ b o, a = some ⟨b, o, none⟩ ∧ b < W.heap.size ∧ ∀ (i : Nat) d, ds[i]? = some d → ∃ cs, K.at_ W cs d ∧ ∀ j c, cs[j]? = some c → W.cell? ⟨b, o + i * K.n + j, none⟩ = some c)
theorem rowAt.below {K : CK} {W W' : World} {v : Value} {ds : List K.D} (h : rowAt K W v ds) (hb : Below W.heap.size W W') : rowAt K W' v ds := by
  obtain ⟨a, cap, hv, hn, hc, h⟩ := h
  refine ⟨a, cap, hv, hn, hc, ?_⟩
  rcases h with h | ⟨b, o, ha, hl, he⟩
  · exact .inl h
  · refine .inr ⟨b, o, ha, Nat.lt_of_lt_of_le hl hb.size, fun i d hi => ?_⟩
    obtain ⟨cs, h1, h2⟩ := he i d hi
    exact ⟨cs, K.below h1 hb, fun j c hj => (hb.cell (p := ⟨b, o + i * K.n + j, none⟩) hl).trans (h2 j c hj)⟩
/-- A row at block g, each of its items with its own blocks. -/
structure RowAll (K : CK) (ty : Nat) (W : World) (g : Nat) (ds : List K.D) (cur : Array Value) (Fs : List (List Nat)) : Prop where
  heap : W.heap[g]? = some (.cells cur ty (0, 0))
  size : ds.length * K.n ≤ cur.size
  len : Fs.length = ds.length
  each : ∀ (i : Nat) d, ds[i]? = some d → ∃ cs Fi, Fs[i]? = some Fi ∧ (∀ (j : Nat) c, cs[j]? = some c → cur[i * K.n + j]? = some c) ∧ K.own W cs d Fi
def rowOwn (K : CK) (ty : Nat) (W : World) (v : Value) (ds : List K.D) (F : List Nat) : Prop := (ds = [] ∧ F = [] ∧ ∃ a c, v = .slice a 0 c ∧ (a = none → c = 0)) ∨
  ∃ g cap cur Fs, v = .slice (some ⟨g, 0, none⟩) ds.length cap ∧ ds.length ≤ cap ∧ F = g :: Fs.flatten ∧ F.Nodup ∧ RowAll K ty W g ds cur Fs
theorem mem_flatS {Fs : List (List Nat)} {i : Nat} {Fi : List Nat} (h : Fs[i]? = some Fi) {k : Nat} (hk : k ∈ Fi) : k ∈ Fs.flatten := List.mem_flatten.2 ⟨Fi, List.mem_of_getElem? h, hk⟩
theorem RowAll.frame {K : CK} {ty : Nat} {W W' : World} {g : Nat} {ds : List K.D} {cur : Array Value} {Fs : List (List Nat)} (h : RowAll K ty W g ds cur Fs) (hf : ∀ k ∈ g :: Fs.flatten, W'.heap[k]? = W.heap[k]?) : RowAll K ty W' g ds cur Fs :=
  ⟨(hf g (by simp)).trans h.heap, h.size, h.len, fun i x hi => by
    obtain ⟨cs, Fi, h1, h2, h3⟩ := h.each i x hi
    exact ⟨cs, Fi, h1, h2, K.frame h3 (fun k hk => hf k (List.mem_cons_of_mem _ (mem_flatS h1 hk)))⟩⟩
theorem RowAll.lt {K : CK} {ty : Nat} {W : World} {g : Nat} {ds : List K.D} {cur : Array Value} {Fs : List (List Nat)} (h : RowAll K ty W g ds cur Fs) : ∀ k ∈ g :: Fs.flatten, k < W.heap.size := by
  intro k hk
  rcases List.mem_cons.1 hk with rfl | hk
  · exact (Array.getElem?_eq_some_iff.1 h.heap).1
  · obtain ⟨Fi, hF, hk⟩ := List.mem_flatten.1 hk
    obtain ⟨i, hi⟩ := List.getElem?_of_mem hF
    have hl : i < ds.length := by rw [← h.len]; exact (List.getElem?_eq_some_iff.1 hi).1
    obtain ⟨cs, Fi', h1, _, h3⟩ := h.each i ds[i] (List.getElem?_eq_getElem hl)
    rw [hi] at h1
    cases h1
    exact K.lt h3 k hk
theorem rowOwn.frame {K : CK} {ty : Nat} {W W' : World} {v : Value} {ds : List K.D} {F : List Nat} (h : rowOwn K ty W v ds F) (hf : ∀ k ∈ F, W'.heap[k]? = W.heap[k]?) : rowOwn K ty W' v ds F := by
  rcases h with h | ⟨g, cap, cur, Fs, hv, hc, rfl, hn, ha⟩
  · exact .inl h
  · exact .inr ⟨g, cap, cur, Fs, hv, hc, rfl, hn, ha.frame hf⟩
theorem rowOwn.lt {K : CK} {ty : Nat} {W : World} {v : Value} {ds : List K.D} {F : List Nat} (h : rowOwn K ty W v ds F) : ∀ k ∈ F, k < W.heap.size := by
  rcases h with ⟨_, rfl, _⟩ | ⟨g, cap, cur, Fs, hv, hc, rfl, hn, ha⟩
  · intro k hk; cases hk
  · exact ha.lt
theorem cell_arrS {W : World} {g T : Nat} {cur : Array Value} {fz : Nat × Nat} (hh : W.heap[g]? = some (.cells cur T fz)) (i : Nat) (v : Value) (hv : cur[i]? = some v) : W.cell? ⟨g, i, none⟩ = some v := by simp [World.cell?, hh, hv]
theorem rowOwn.toAt {K : CK} {ty : Nat} {W : World} {v : Value} {ds : List K.D} {F : List Nat} (h : rowOwn K ty W v ds F) : rowAt K W v ds := by
  rcases h with ⟨rfl, _, a, c, hv, hn⟩ | ⟨g, cap, cur, Fs, hv, hc, rfl, hn, ha⟩
  · exact ⟨a, c, hv, hn, Nat.zero_le _, .inl rfl⟩
  · refine ⟨_, cap, hv, fun e => (by cases e), hc, .inr ⟨g, 0, rfl, (Array.getElem?_eq_some_iff.1 ha.heap).1, fun i x hi => ?_⟩⟩
    obtain ⟨cs, Fi, h1, h2, h3⟩ := ha.each i x hi
    exact ⟨cs, K.toAt h3, fun j c hj => by rw [Nat.zero_add]; exact cell_arrS ha.heap _ _ (h2 j c hj)⟩
theorem rowOwn.nodup {K : CK} {ty : Nat} {W : World} {v : Value} {ds : List K.D} {F : List Nat} (h : rowOwn K ty W v ds F) : F.Nodup := by
  rcases h with ⟨_, rfl, _⟩ | ⟨g, cap, cur, Fs, hv, hc, rfl, hn, ha⟩
  · exact List.nodup_nil
  · exact hn
def markR (K : CK) : Nat → List K.D → List K.D
  | _, [] => []
  | q, d :: ds => K.mark q d :: markR K (q + K.cnt d) ds
def cntR (K : CK) : List K.D → Nat
  | [] => 0
  | d :: ds => K.cnt d + cntR K ds
def szR (K : CK) : List K.D → Nat
  | [] => 0
  | d :: ds => K.sz d + szR K ds
def rowC (K : CK) (ty : Nat) : CK where
  D := List K.D
  n := 1
  own := fun W cs ds F => ∃ v, cs = [v] ∧ rowOwn K ty W v ds F
  at_ := fun W cs ds => ∃ v, cs = [v] ∧ rowAt K W v ds
  mark := markR K
  cnt := cntR K
  sz := fun ds => ds.length + szR K ds
  big := fun ds => ds.length ≤ maxLen ∧ ∀ d ∈ ds, K.big d
  len := fun ⟨_, h, _⟩ => by rw [h]; rfl
  alen := fun ⟨_, h, _⟩ => by rw [h]; rfl
  frame := fun ⟨v, h, h2⟩ hf => ⟨v, h, h2.frame hf⟩
  lt := fun ⟨_, _, h2⟩ => h2.lt
  nodup := fun ⟨_, _, h2⟩ => h2.nodup
  below := fun ⟨v, h, h2⟩ hb => ⟨v, h, h2.below hb⟩
  toAt := fun ⟨v, h, h2⟩ => ⟨v, h, h2.toAt⟩
def rowK (K : CK) (ty : Nat) : Kind := ⟨List K.D, rowOwn K ty, rowOwn.frame, rowOwn.lt⟩
def aggK (K : CK) : Kind where
  D := K.D
  own := fun W v d F => ∃ cs : List Value, v = .agg cs.toArray ∧ K.own W cs d F
  frame := fun h hf => by obtain ⟨cs, h1, h2⟩ := h; exact ⟨cs, h1, K.frame h2 hf⟩
  lt := fun h => by obtain ⟨cs, h1, h2⟩ := h; exact K.lt h2
def aggAt (K : CK) (W : World) (v : Value) (d : K.D) : Prop := ∃ cs : List Value, v = .agg cs.toArray ∧ K.at_ W cs d

theorem markR_len (K : CK) : ∀ (q : Nat) (ds : List K.D), (markR K q ds).length = ds.length
  | _, [] => rfl
  | q, d :: ds => by simp [markR, markR_len K]
theorem cntR_take (K : CK) (ds : List K.D) (k : Nat) (d : K.D) (e : ds[k]? = some d) : cntR K (ds.take (k + 1)) = cntR K (ds.take k) + K.cnt d := by
  induction ds generalizing k with
  | nil => cases e
  | cons x ds ih =>
    cases k with
    | zero => simp at e; subst e; simp [cntR]
    | succ k => have := ih k e; simp [cntR, this]; omega
theorem cntR_le (K : CK) : ∀ (ds : List K.D) (k : Nat), cntR K (ds.take k) ≤ cntR K ds
  | [], _ => by simp
  | d :: ds, 0 => by simp [cntR]
  | d :: ds, k + 1 => by have := cntR_le K ds k; simp [cntR]; omega
theorem markR_get (K : CK) (q : Nat) (ds : List K.D) (k : Nat) (d : K.D) (e : ds[k]? = some d) : (markR K q ds)[k]? = some (K.mark (q + cntR K (ds.take k)) d) := by
  induction ds generalizing k q with
  | nil => cases e
  | cons x ds ih =>
    cases k with
    | zero => simp at e; subst e; simp [markR, cntR]
    | succ k =>
      have := ih (q + K.cnt x) k e
      simp only [markR, List.getElem?_cons_succ, this, List.take_succ_cons, cntR]
      congr 2; omega
theorem szR_take (K : CK) (ds : List K.D) (k : Nat) (d : K.D) (e : ds[k]? = some d) : szR K (ds.take (k + 1)) = szR K (ds.take k) + K.sz d := by
  induction ds generalizing k with
  | nil => cases e
  | cons x ds ih =>
    cases k with
    | zero => simp at e; subst e; simp [szR]
    | succ k => have := ih k e; simp [szR, this]; omega
theorem szR_mem {K : CK} {ds : List K.D} {d : K.D} (h : d ∈ ds) : K.sz d ≤ szR K ds := by
  induction ds with
  | nil => cases h
  | cons x ds ih =>
    rcases List.mem_cons.1 h with rfl | h
    · simp [szR]
    · have := ih h; simp [szR]; omega
/-- Items of which the first k are written over. -/
def markU (K : CK) (q : Nat) (ds : List K.D) (k : Nat) : List K.D := (markR K q ds).take k ++ ds.drop k
theorem markU_lt {K : CK} {q : Nat} {ds : List K.D} {k i : Nat} (h : i < k) (hl : k ≤ ds.length) : (markU K q ds k)[i]? = (markR K q ds)[i]? := by
  unfold markU
  rw [List.getElem?_append_left (by rw [List.length_take, markR_len]; omega), List.getElem?_take_of_lt h]
theorem markU_ge {K : CK} {q : Nat} {ds : List K.D} {k i : Nat} (h : k ≤ i) (hl : k ≤ ds.length) : (markU K q ds k)[i]? = ds[i]? := by
  unfold markU
  have e : ((markR K q ds).take k).length = k := by rw [List.length_take, markR_len]; omega
  rw [List.getElem?_append_right (by omega), e, List.getElem?_drop, show k + (i - k) = i by omega]
theorem markU_len {K : CK} {q : Nat} {ds : List K.D} {k : Nat} (hl : k ≤ ds.length) : (markU K q ds k).length = ds.length := by
  unfold markU
  rw [List.length_append, List.length_take, markR_len, List.length_drop]; omega
theorem markU_all {K : CK} {q : Nat} {ds : List K.D} : markU K q ds ds.length = markR K q ds := by
  unfold markU; rw [List.drop_length, List.append_nil, List.take_of_length_le (by rw [markR_len]; exact Nat.le_refl _)]
theorem apartS {g : Nat} {Fs : List (List Nat)} (h : (g :: Fs.flatten).Nodup) {i : Nat} {Fi : List Nat} (hi : Fs[i]? = some Fi) : g ∉ Fi ∧ ∀ j Fj, Fs[j]? = some Fj → j ≠ i → ∀ k ∈ Fj, k ∉ Fi := by
  rw [List.nodup_cons] at h
  refine ⟨fun e => h.1 (mem_flatS hi e), fun j Fj hj hne k hk hk' => ?_⟩
  have hp := (List.pairwise_flatten.1 h.2).2
  rw [List.pairwise_iff_getElem] at hp
  obtain ⟨li, ei⟩ := List.getElem?_eq_some_iff.1 hi
  obtain ⟨lj, ej⟩ := List.getElem?_eq_some_iff.1 hj
  rcases Nat.lt_or_ge i j with hij | hij
  · have := hp i j li lj hij
    rw [ei, ej] at this
    exact this k hk' k hk rfl
  · have := hp j i lj li (by omega)
    rw [ei, ej] at this
    exact this k hk k hk' rfl
/-- One item more is written over. -/
theorem mark_step {K : CK} {ty : Nat} {W W' : World} {g q k : Nat} {ds : List K.D} {cur cur' : Array Value} {Fs : List (List Nat)} {Fk : List Nat} {d : K.D} {cs : List Value} (h : RowAll K ty W g (markU K q ds k) cur Fs) (hnd : (g :: Fs.flatten).Nodup) (hk : ds[k]? = some d) (hF : Fs[k]? = some Fk)
    (hg : W'.heap[g]? = some (.cells cur' ty (0, 0))) (hsz : cur'.size = cur.size) (ho : ∀ j, j < k * K.n ∨ k * K.n + K.n ≤ j → cur'[j]? = cur[j]?) (hc : ∀ (j : Nat) c, cs[j]? = some c → cur'[k * K.n + j]? = some c) (hown : K.own W' cs (K.mark (q + cntR K (ds.take k)) d) Fk)
    (honly : ∀ j, j < W.heap.size → j ≠ g → j ∉ Fk → W'.heap[j]? = W.heap[j]?) : RowAll K ty W' g (markU K q ds (k + 1)) cur' Fs := by
  have hkl := (List.getElem?_eq_some_iff.1 hk).1
  have hlen := h.len
  rw [markU_len (by omega)] at hlen
  have hsz2 := h.size
  rw [markU_len (by omega)] at hsz2
  refine ⟨hg, by rw [markU_len (by omega), hsz]; exact hsz2, by rw [markU_len (by omega)]; exact hlen, fun i x hi => ?_⟩
  by_cases eik : i = k
  · subst eik
    rw [markU_lt (Nat.lt_succ_self _) (by omega), markR_get K q ds i d hk] at hi
    cases hi
    exact ⟨cs, Fk, hF, hc, hown⟩
  · have hi' : (markU K q ds k)[i]? = some x := by
      rcases Nat.lt_or_ge i k with hik | hik
      · rw [markU_lt hik (by omega)]; rwa [markU_lt (by omega) (by omega)] at hi
      · rw [markU_ge hik (by omega)]; rwa [markU_ge (by omega) (by omega)] at hi
    obtain ⟨cs', Fj, g1, g2, g3⟩ := h.each i x hi'
    have hdis := (apartS hnd hF).2 i Fj g1 eik
    have hgj : g ∉ Fj := (apartS hnd g1).1
    refine ⟨cs', Fj, g1, fun j c hj => ?_, K.frame g3 (fun j hj => honly j (K.lt g3 j hj) (fun e => by subst e; exact hgj hj) (hdis j hj))⟩
    have hjn : j < K.n := by rw [← K.len g3]; exact (List.getElem?_eq_some_iff.1 hj).1
    rw [ho _ ?_]
    · exact g2 j c hj
    · rcases Nat.lt_or_ge i k with hik | hik
      · left
        have : (i + 1) * K.n ≤ k * K.n := Nat.mul_le_mul_right _ (by omega)
        rw [Nat.add_mul, Nat.one_mul] at this
        omega
      · right
        have : (k + 1) * K.n ≤ i * K.n := Nat.mul_le_mul_right _ (by omega)
        rw [Nat.add_mul, Nat.one_mul] at this
        omega
/-- The first k items are copied into a row of n. -/
structure RowPart (K : CK) (ty : Nat) (W : World) (g n k : Nat) (ds : List K.D) (Fs : List (List Nat)) : Prop where
  all : ∃ cur : Array Value, RowAll K ty W g (ds.take k) cur Fs ∧ cur.size = n * K.n
  nodup : (g :: Fs.flatten).Nodup
/-- One item more is copied. -/
theorem copy_step {K : CK} {ty : Nat} {W W' : World} {g k N : Nat} {ds : List K.D} {cur' : Array Value} {Fs : List (List Nat)} {Fk : List Nat} {d : K.D} {cs : List Value} (cur : Array Value) (h : RowAll K ty W g (ds.take k) cur Fs) (hs0 : cur.size = ds.length * K.n) (hnd : (g :: Fs.flatten).Nodup) (hk : ds[k]? = some d)
    (hg : W'.heap[g]? = some (.cells cur' ty (0, 0))) (hsz : cur'.size = cur.size) (ho : ∀ j, j < k * K.n → cur'[j]? = cur[j]?) (hc : ∀ (j : Nat) c, cs[j]? = some c → cur'[k * K.n + j]? = some c) (hown : K.own W' cs d Fk) (hfr : ∀ j ∈ Fk, N ≤ j) (hN : ∀ j ∈ g :: Fs.flatten, j < N)
    (honly : ∀ j, j < N → j ≠ g → W'.heap[j]? = W.heap[j]?) : RowPart K ty W' g ds.length (k + 1) ds (Fs ++ [Fk]) := by
  have hkl := (List.getElem?_eq_some_iff.1 hk).1
  have hl0 : (ds.take k).length = k := by rw [List.length_take]; omega
  have hl1 : (ds.take (k + 1)).length = k + 1 := by rw [List.length_take]; omega
  have hFl : Fs.length = k := by rw [h.len, hl0]
  have hmul : (k + 1) * K.n ≤ ds.length * K.n := Nat.mul_le_mul_right _ (by omega)
  refine ⟨⟨cur', ⟨hg, by rw [hl1, hsz, hs0]; exact hmul, by rw [List.length_append, hFl, hl1]; rfl, fun i x hi => ?_⟩, by rw [hsz, hs0]⟩, ?_⟩
  · have hik : i < k + 1 := by have := (List.getElem?_eq_some_iff.1 hi).1; omega
    have hix : ds[i]? = some x := by rwa [List.getElem?_take_of_lt hik] at hi
    by_cases eik : i = k
    · subst eik
      rw [hk] at hix
      cases hix
      exact ⟨cs, Fk, by rw [List.getElem?_append_right (by omega), hFl, Nat.sub_self]; rfl, hc, hown⟩
    · obtain ⟨cs', Fj, g1, g2, g3⟩ := h.each i x (by rw [List.getElem?_take_of_lt (by omega)]; exact hix)
      refine ⟨cs', Fj, by rw [List.getElem?_append_left (by omega)]; exact g1, fun j c hj => ?_, K.frame g3 (fun j hj => honly j (hN j (List.mem_cons_of_mem _ (mem_flatS g1 hj))) (fun e => by subst e; exact (apartS hnd g1).1 hj))⟩
      have hjn : j < K.n := by rw [← K.len g3]; exact (List.getElem?_eq_some_iff.1 hj).1
      rw [ho _ ?_]
      · exact g2 j c hj
      · have : (i + 1) * K.n ≤ k * K.n := Nat.mul_le_mul_right _ (by omega)
        rw [Nat.add_mul, Nat.one_mul] at this
        omega
  · rw [List.flatten_append, List.nodup_cons] at *
    simp only [List.flatten_cons, List.flatten_nil, List.append_nil]
    rw [List.nodup_append]
    refine ⟨fun hm => ?_, hnd.2, K.nodup hown, fun x hx y hy e => ?_⟩
    · rcases List.mem_append.1 hm with hm | hm
      · exact hnd.1 hm
      · have := hfr g hm; have := hN g (by simp); omega
    · subst e
      have := hfr x hy; have := hN x (List.mem_cons_of_mem _ hx); omega
end Go.Proofs.Ytlnpjiabdebmgaa
