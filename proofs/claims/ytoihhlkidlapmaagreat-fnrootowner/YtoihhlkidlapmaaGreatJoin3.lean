/- Texts of this proof, one behind the other; each says at its head what it shows. -/
import Derived.Test.YtoihhlkidlapmaaGreatJoin2
import Derived.StillTailTactics
import Derived.Test.YtoihhlkidlapmaaGreatJoin1
import Derived.Laws.IdiomStrings
/- The tree that entries are, by the program. -/
namespace Go.Proofs.YtoihhlkidlapmaaGreat
open Go.RowKit Go.Shelf

/-- What a tree's two rows hold. -/
def RowsAt (W : World) (N : Nat) (vp vn : Value) (es : List Ent) : Prop := W.ownsRow N 9 1 vp es.length (es.map fun e => .string e.path) ∧ W.ownsRow N 121 1 vn es.length (es.map nodeV)
def keptE (es : List Ent) : List Ent := if treeB es then es else []
theorem keptE_no {es : List Ent} (h : treeB es = false) : keptE es = [] := by unfold keptE; rw [h]; rfl
theorem keptE_yes {es : List Ent} (h : treeB es = true) : keptE es = es := by unfold keptE; rw [h]; rfl
theorem rowsAt_nil (W : World) (N : Nat) : RowsAt W N (.slice .none 0 0) (.slice .none 0 0) [] := ⟨World.ownsRow_nil _ _ _ _, World.ownsRow_nil _ _ _ _⟩
theorem okI_16 {es : List Ent} {k : Nat} (hk : k ≤ es.length) (h : (List.range k).all (okI es) = true) : k ≤ 16 := by
  rw [List.all_eq_true] at h
  rcases Nat.lt_or_ge 16 k with hlt | hge
  · have := h 16 (List.mem_range.2 hlt)
    unfold okI putB at this
    have hl : (es.take 16).length = 16 := by rw [List.length_take]; omega
    rw [hl] at this
    simp at this
  · exact hge
theorem apart_of {cs : Array Value} {t : TypeId} {f : Nat × Nat} (h : t ≠ 9 ∧ t ≠ 121) : Apart (.cells cs t f) := fun _ _ _ e => by cases e; exact h

/-- The worlds in the midst of one entry's test: the tree is as it was, or with the entry. -/
def InTest (w : World) (es : List Ent) (k B : Nat) (e : Ent) (w' : World) : Prop :=
  (Below w.heap.size w w' ∧ w'.heap[w.heap.size]? = some (.cells #[.slice .none 0 0, .slice .none 0 0] 117 (0, 0)) ∧ w'.heap[B]? = some (.cells #[.string e.path, .int .i64 e.kind, .int .i64 e.mode, .string e.text] 57 (0, 0))) ∧
    (TreeAt w' w.heap.size (w.heap.size + 1) (es.take k) ∨ (okI es k = true ∧ TreeAt w' w.heap.size (w.heap.size + 1) (es.take (k + 1))))
theorem inTest_put {w : World} {es : List Ent} {k B : Nat} {e : Ent} (hB : w.heap.size + 1 < B) (hlt : k < es.length) (he : es[k]? = some e) (hall : (List.range k).all (okI es) = true) (zp : e.path.size ≤ maxLen) (zt : e.text.size ≤ maxLen) (hor : k = 0 ∨ ltS (entFn es (k - 1)).path e.path = true) (W : World) (h : InTest w es k B e W) :
    Calls Tryz.prog 138 #[.pointer (some ⟨w.heap.size + 1, 0, .none⟩), .agg #[.string e.path, .int .i64 e.kind, .int .i64 e.mode, .string e.text]] W fun x w' => x = .returned (.bool (okI es k)) ∧ InTest w es k B e w' := by
  have hf := entFn_get he
  have hk16 := okI_16 (Nat.le_of_lt hlt) hall
  have hlk : (es.take k).length = k := by rw [List.length_take]; omega
  have hok : okI es k = putB (es.take k) e := by
    unfold okI; rw [hf]
    rcases hor with h0 | h0
    · rw [h0]; rfl
    · rw [h0]; simp
  have hor' : k = 0 ∨ ltS (entFn es (k - 1)).path (entFn es k).path = true := by rw [hf]; exact hor
  obtain ⟨⟨b1, b2, b3⟩, hT⟩ := h
  rcases hT with hT | ⟨hyes, hT⟩
  · have hpe := place_end hlt hall hor'
    rw [hf] at hpe
    refine (putEntry_end w.heap.size (w.heap.size + 1) (es.take k) e W zp zt (by omega) (asc_take (Nat.le_of_lt hlt) hall) (by omega) hpe hT).mono ?_
    rintro x w2 ⟨rfl, hT2, hK2⟩
    refine ⟨by rw [hok], ⟨b1.trans hK2.1, hK2.2 _ _ (by omega) b2 (apart_of (by decide)), hK2.2 _ _ (by omega) b3 (apart_of (by decide))⟩, ?_⟩
    cases hp : putB (es.take k) e
    · rw [nextE_no hp] at hT2; exact .inl hT2
    · rw [nextE_yes hp] at hT2
      exact .inr ⟨by rw [hok, hp], by rw [List.take_add_one, he]; exact hT2⟩
  · have hall1 : (List.range (k + 1)).all (okI es) = true := all_range_snoc hall hyes
    have hput : putB (es.take k) e = true := by rw [← hok]; exact hyes
    unfold putB at hput
    simp only [Bool.and_eq_true] at hput
    have hl1 : (es.take (k + 1)).length = k + 1 := by rw [List.length_take]; omega
    have ha := asc_take (k := k + 1) (by omega) hall1
    rw [List.all_eq_true] at hall1
    have hs : ∀ i, i < k + 1 → i = 0 ∨ ltS (entFn es (i - 1)).path (entFn es i).path = true := fun i hi => by
      have := hall1 i (List.mem_range.2 hi); unfold okI at this; simp only [Bool.and_eq_true, Bool.or_eq_true, beq_iff_eq] at this; exact this.1
    have hasc := asc_of (es := es) (n := k + 1) (by omega) hs
    have hfn : ∀ i, i < k + 1 → entFn (es.take (k + 1)) i = entFn es i := fun i hi => entFn_get (by rw [List.getElem?_take_of_lt hi]; exact ent_get (by omega))
    have hd : dirE (es.take (k + 1)) (pathUpS e.path) = true := by
      rw [dir_take (es := es.take (k + 1)) (i := k) (by omega) (fun a b hab hb => by rw [hfn a (by omega), hfn b (by omega)]; exact hasc a b hab (by omega)) (fun hq => by rw [hfn k (by omega), hf, ent_path hput.1] at *; exact up_less hq)]
      rw [List.take_take, Nat.min_eq_left (Nat.le_succ k)]
      exact hput.2.1
    have hpl : placeE (es.take (k + 1)) e.path = k := place_at (by omega) (by omega) (by rw [hf]) (fun i hi => by rw [← hf]; exact hasc i k hi (by omega))
    refine (putEntry_again w.heap.size (w.heap.size + 1) (es.take (k + 1)) e W zp zt (by omega) ha hput.1 hd (by rw [hpl, List.getElem?_take_of_lt (by omega)]; exact he) hT).mono ?_
    rintro x w2 ⟨rfl, hB2⟩
    have hlt2 := hT.lt
    have hBl : B < W.heap.size := (Array.getElem?_eq_some_iff.1 b3).1
    exact ⟨by rw [hyes], ⟨b1.trans (hB2.mono (by omega)), (hB2.block _ (by omega)).trans b2, (hB2.block _ hBl).trans b3⟩, .inr ⟨hyes, hT.below hB2⟩⟩

theorem le_not_less (x y : List UInt8) : (Op.bytesLess x y || x == y) = !Op.bytesLess y x := by
  cases h1 : Op.bytesLess x y
  · cases h2 : Op.bytesLess y x
    · rw [lt_tot x y h1 h2]; simp
    · have : x ≠ y := fun e => by subst e; rw [lt_irr] at h2; cases h2
      simp [this]
  · cases h2 : Op.bytesLess y x
    · simp
    · have := lt_tra x y x h1 h2
      rw [lt_irr] at this; cases this
theorem ownsRow_slice {W : World} {N n size : Nat} {v : Value} {e : TypeId} {xs : List Value} (h : W.ownsRow N e size v n xs) : ∃ a cap, v = .slice a n cap := by
  rcases h.2 with ⟨rfl, rfl⟩ | ⟨g, cap, cur, rfl, _⟩
  · exact ⟨_, _, rfl⟩
  · exact ⟨_, _, rfl⟩
/-- What a round keeps. -/
def InRow (w : World) (w' : World) (xs : List Ent) : Prop := Below w.heap.size w w' ∧ w'.heap[w.heap.size]? = some (.cells #[.slice .none 0 0, .slice .none 0 0] 117 (0, 0)) ∧ TreeAt w' w.heap.size (w.heap.size + 1) xs
def nextK (es : List Ent) (k : Nat) : Nat := if okI es k then k + 1 else k
theorem nextK_yes {es : List Ent} {k : Nat} (h : okI es k = true) : nextK es k = k + 1 := by unfold nextK; rw [h]; rfl
theorem inRow_put {w : World} {es : List Ent} {k : Nat} {e : Ent} (hlt : k < es.length) (he : es[k]? = some e) (hall : (List.range k).all (okI es) = true) (zp : e.path.size ≤ maxLen) (zt : e.text.size ≤ maxLen) (hor : k = 0 ∨ ltS (entFn es (k - 1)).path e.path = true) (W : World) (h : InRow w W (es.take k)) :
    Calls Tryz.prog 138 #[.pointer (some ⟨w.heap.size + 1, 0, .none⟩), .agg #[.string e.path, .int .i64 e.kind, .int .i64 e.mode, .string e.text]] W fun x w' => x = .returned (.bool (okI es k)) ∧ Hid (InRow w w' (es.take (nextK es k))) := by
  have hf := entFn_get he
  have hk16 := okI_16 (Nat.le_of_lt hlt) hall
  have hlk : (es.take k).length = k := by rw [List.length_take]; omega
  have hok : okI es k = putB (es.take k) e := by
    unfold okI; rw [hf]
    rcases hor with h0 | h0
    · rw [h0]; rfl
    · rw [h0]; simp
  have hor' : k = 0 ∨ ltS (entFn es (k - 1)).path (entFn es k).path = true := by rw [hf]; exact hor
  obtain ⟨b1, b2, hT⟩ := h
  have hpe := place_end hlt hall hor'
  rw [hf] at hpe
  refine (putEntry_end w.heap.size (w.heap.size + 1) (es.take k) e W zp zt (by omega) (asc_take (Nat.le_of_lt hlt) hall) (by omega) hpe hT).mono ?_
  rintro x w2 ⟨rfl, hT2, hK2⟩
  refine ⟨by rw [hok], hid ⟨b1.trans hK2.1, hK2.2 _ _ (by omega) b2 (apart_of (by decide)), ?_⟩⟩
  unfold nextK
  rw [hok]
  cases hp : putB (es.take k) e
  · rw [nextE_no hp] at hT2; exact hT2
  · rw [nextE_yes hp] at hT2
    show TreeAt w2 w.heap.size (w.heap.size + 1) (es.take (k + 1))
    rw [List.take_add_one, he]; exact hT2

theorem still_of_quiet {P : Program} {o : Oper} {a : Act} {wq : World} {K : Act → Prop} (h : o.quiet P a (fun w' => ∃ x : CW (fun w' => w' = wq), w' = x.w) K) : o.still P a wq K := by
  obtain ⟨v, h1, h2⟩ := h
  have h3 := h1 wq ⟨⟨wq, rfl⟩, rfl⟩
  unfold Oper.quietAt at h3
  unfold Oper.still
  generalize (execOp a.eval o).run P wq = r at h3
  unfold Oper.quietUpon at h3
  unfold Oper.stillUpon
  split at h3
  · exact ⟨h3.1, by rw [h3.2]; exact h2⟩
  · exact ⟨h3.1, by rw [← h3.2]; exact h2⟩
  · refine ⟨h3.1, v, h3.2.mono ?_, h2⟩
    rintro e w2 ⟨he, x, hx⟩
    exact ⟨he, hx.trans x.h⟩
  · exact absurd h3 (by simp)
theorem stills_of_quiet {P : Program} {ops : Array Oper} {wq : World} {Q : Act → Prop} : ∀ (l : List Oper) (a : Act), wpQuiet P ops (fun w' => ∃ x : CW (fun w' => w' = wq), w' = x.w) Q l a → wpStill P ops wq Q l a
  | [], _, h => h
  | o :: rest, a, h => by
    unfold wpQuiet at h
    unfold wpStill
    split at h
    · rename_i hw
      rw [if_pos hw]
      exact Oper.still_mono (fun a' h' => stills_of_quiet rest a' h') (still_of_quiet h)
    · rename_i hw
      rw [if_neg hw]
      exact stills_of_quiet rest _ h
theorem still_tail_at {P : Program} {id : Nat} {Q : Exit → Act → World → Prop} {a : Act} {w : World} {l : List Oper} (n : Nat) (wq : World) (hq : wq = w.drew) (hm : P.follows .mixedOrders = true) (hB : Region.lexTailB .any l.toArray n = true)
    (h : wpQuiet P l.toArray (fun w' => ∃ x : CW (fun w' => w' = wq), w' = x.w) (fun a' => wpList P l.toArray Q (l.drop n) a' wq) (l.take n) a) : (Code.region id l.toArray true).wp P Q a w := by
  subst hq; exact wp_region_still_tail n hm hB (stills_of_quiet _ _ h)

set_option maxRecDepth 100000 in
set_option maxHeartbeats 8000000 in
theorem treeOf_any (es : List Ent) (a : Option Addr) (cap : Nat) (w : World) (hs : smallE es) (h : EntsAt w a es) :
    Calls Tryz.prog 81 #[.slice a es.length cap] w fun x w' => ∃ vp vn, x = .returned (.tuple #[.agg #[vp, vn], .bool (treeB es)]) ∧ RowsAt w' w.heap.size vp vn (keptE es) ∧ Below w.heap.size w w' := by
  obtain ⟨hlen, hz⟩ := hs
  have HH := hid h
  have HZ := hid hz
  have ET := hid (treeB_eq es)
  clear h hz
  have hst : ∃ W0, W0 = (w.alloc (.cells #[.slice .none 0 0, .slice .none 0 0] 117)).alloc (.cells #[.slice .none 0 0, .slice .none 0 0] 117) := ⟨_, rfl⟩
  obtain ⟨W0, hW0⟩ := hst
  have hb0 : Below w.heap.size w W0 := by rw [hW0]; exact ((Below.refl _ w).alloc (Nat.le_refl _) _).alloc (by simp) _
  have hr0 : W0.heap[w.heap.size]? = some (.cells #[.slice .none 0 0, .slice .none 0 0] 117 (0, 0)) := by rw [hW0, Below.heap_alloc _ _ _ (by simp)]; exact World.alloc_heap_new _ _
  have ht0 : TreeAt W0 w.heap.size (w.heap.size + 1) [] := ⟨.slice .none 0 0, .slice .none 0 0, by rw [hW0]; have := World.alloc_heap_new (w.alloc (.cells #[.slice .none 0 0, .slice .none 0 0] 117)) (.cells #[.slice .none 0 0, .slice .none 0 0] 117); rwa [World.size_alloc] at this, World.ownsRow_nil _ _ _ _, World.ownsRow_nil _ _ _ _⟩
  have H00 := hid (And.intro hb0 (And.intro hr0 ht0))
  have HW0 := hid hW0
  clear hb0 hr0 ht0 hW0
  go_enter Tryz.func81, Tryz.ntmps81
  go_wp2_with fail
  rw [← unhid HW0]
  go_loopw [5, 6, 10] (fun _ _ i wr => ∃ k : Nat, k ≤ es.length ∧ i = .int .i64 k ∧ Hid ((List.range k).all (okI es) = true) ∧ Hid (Below w.heap.size w wr ∧ wr.heap[w.heap.size]? = some (.cells #[.slice .none 0 0, .slice .none 0 0] 117 (0, 0)) ∧ TreeAt wr w.heap.size (w.heap.size + 1) (es.take k))) (fun _ _ i _ => es.length - (intOf i).toNat)
  case atStart => exact ⟨0, Nat.zero_le _, rfl, hid rfl, H00⟩
  case round =>
    clear H00 HW0
    obtain ⟨k, hk, rfl, hall, HST⟩ := hrel
    by_cases hlt : k < es.length
    · obtain ⟨e, he⟩ : ∃ e, es[k]? = some e := ⟨es[k], List.getElem?_eq_getElem hlt⟩
      obtain ⟨b, o, rfl, hbl, hc⟩ := (unhid HH).get (by intro e; subst e; simp at hlt)
      obtain ⟨hB, hr, hT⟩ := unhid HST
      obtain ⟨c0, c1, c2, c3⟩ := (hc k e he).below hB hbl
      obtain ⟨z1, z2⟩ := unhid HZ e (List.mem_of_getElem? he)
      have hf := entFn_get he
      have zp : e.path.size ≤ maxLen := by unfold maxLen; omega
      have zt : e.text.size ≤ maxLen := by unfold maxLen; omega
      have hk16 := okI_16 hk (unhid hall)
      have hlk : (es.take k).length = k := by rw [List.length_take]; omega
      have hNl : w.heap.size + 1 < wr.heap.size := hT.lt
      have hC0 : InTest w es k wr.heap.size e (wr.alloc (.cells #[.string e.path, .int .i64 e.kind, .int .i64 e.mode, .string e.text] 57)).drew := by
        refine ⟨⟨(hB.alloc hB.size _).drew, ?_, ?_⟩, .inl (hT.below (((Below.refl _ _).alloc (Nat.le_refl _) _).drew))⟩
        · show (wr.alloc _).heap[_]? = _
          rw [Below.heap_alloc _ _ _ (by omega)]; exact hr
        · exact World.alloc_heap_new wr _
      have HC0 := hid hC0
      have he' := he
      obtain ⟨wq, hq⟩ : ∃ wq, wq = (wr.alloc (.cells #[.string e.path, .int .i64 e.kind, .int .i64 e.mode, .string e.text] 57)).drew := ⟨_, rfl⟩
      have HQ : Hid (InRow w wq (es.take k)) := by
        have hC1 := hC0
        rw [← hq] at hC1
        refine hid ⟨hC1.1.1, hC1.1.2.1, ?_⟩
        rw [hq]; exact hT.below (((Below.refl _ _).alloc (Nat.le_refl _) _).drew)
      have hwb : wq.heap[wr.heap.size]? = some (.cells #[.string e.path, .int .i64 e.kind, .int .i64 e.mode, .string e.text] 57 (0, 0)) := by rw [hq]; exact World.alloc_heap_new wr _
      have p0 : wq.cell? ⟨wr.heap.size, 0, .none⟩ = some (.string e.path) := by simp [World.cell?, hwb]
      have p1 : wq.cell? ⟨wr.heap.size, 1, .none⟩ = some (.int .i64 e.kind) := by simp [World.cell?, hwb]
      have p2 : wq.cell? ⟨wr.heap.size, 2, .none⟩ = some (.int .i64 e.mode) := by simp [World.cell?, hwb]
      have p3 : wq.cell? ⟨wr.heap.size, 3, .none⟩ = some (.string e.text) := by simp [World.cell?, hwb]
      have HP := hid (And.intro p0 (And.intro p1 (And.intro p2 p3)))
      have HQE := hid hq
      clear hwb p0 p1 p2 p3 hq
      have hno : okI es k = false → treeB es = false := fun h => by rw [unhid ET]; exact all_range_no hlt h
      have HNO := hid hno
      have tt : ∀ w5, okI es k = true → InTest w es k wr.heap.size e w5 → w5.heap.size = w5.heap.size := fun _ _ _ => rfl
      clear tt
      have hbox : ∀ (x : CW (InTest w es k wr.heap.size e)), x.w.cell? ⟨wr.heap.size, 0, .none⟩ = some (.string e.path) ∧ x.w.cell? ⟨wr.heap.size, 1, .none⟩ = some (.int .i64 e.kind) ∧ x.w.cell? ⟨wr.heap.size, 2, .none⟩ = some (.int .i64 e.mode) ∧ x.w.cell? ⟨wr.heap.size, 3, .none⟩ = some (.string e.text) := fun x => by
        have := x.h.1.2.2
        refine ⟨?_, ?_, ?_, ?_⟩ <;> simp [World.cell?, this]
      have q0 := fun x => (hbox x).1
      have q1 := fun x => (hbox x).2.1
      have q2 := fun x => (hbox x).2.2.1
      have q3 := fun x => (hbox x).2.2.2
      have hNl' : w.heap.size + 1 < wr.heap.size := hNl
      clear hbox
      rcases k with _ | j
      · have PUT := hid (inTest_put hNl hlt he (unhid hall) zp zt (.inl rfl))
        simp only [Nat.zero_mul, Nat.add_zero] at c0 c1 c2 c3
        clear hc he hf HST hT hB hr hC0
        cases hok : okI es 0
        · have E := hid (unhid HNO hok)
          go_wp2_with fail
          have HCx := @CW.all (InTest w es 0 wr.heap.size e) _ (unhid HC0)
          refine class_region (InTest w es 0 wr.heap.size e) (unhid HC0) (by kernel_rfl) (by kernel_rfl) ?_
          repeat (go_big_quiet_step ((go_at_call 138; refine Calls.cw (v := .bool false) ((unhid PUT _ (CW.h _)).mono ?_); rintro r w2 ⟨rfl, hC⟩; exact ⟨by rw [hok], hC⟩)))
          refine wpQuiet_nil ?_
          intro w5 hw
          obtain ⟨x, hx⟩ := hw
          have hC5 : InTest w es 0 wr.heap.size e w5 := by rw [hx]; exact x.h
          clear hx x HCx q0 q1 q2 q3
          obtain ⟨⟨hB5, hr5, -⟩, -⟩ := hC5
          obtain ⟨d0, d1, e0, e1⟩ := two_cells hr5
          have HR6 := hid hB5
          clear hB5 hr5
          go_wp2_with fail
          refine bodyPost_ret (v := .tuple #[.agg #[.slice .none 0 0, .slice .none 0 0], .bool false]) (by simp [results, Tryz.results81, go_sem, World.cell?_setCell_same', d0, d1]) rfl ⟨_, _, by rw [unhid E], by rw [keptE_no (unhid E)]; exact rowsAt_nil _ _, ((unhid HR6).setCell (Nat.le_refl _) _).setCell (Nat.le_refl _) _⟩
        · have PUT2 := hid (inRow_put (w := w) hlt he' (unhid hall) zp zt (.inl rfl) wq (unhid HQ))
          rw [hok, nextK_yes hok] at PUT2
          have HY := hid hok
          clear PUT q0 q1 q2 q3 HC0 hno HNO he'
          go_wp2_with fail
          refine still_tail_at 15 wq (unhid HQE) (by kernel_rfl) (by kernel_rfl) ?_
          clear HQE
          have HCx := @CW.all (fun w' => w' = wq) wq rfl
          have q0 : ∀ x : CW (fun w' => w' = wq), x.w.cell? ⟨wr.heap.size, 0, .none⟩ = some (.string e.path) := fun x => by rw [x.h]; exact (unhid HP).1
          have q1 : ∀ x : CW (fun w' => w' = wq), x.w.cell? ⟨wr.heap.size, 1, .none⟩ = some (.int .i64 e.kind) := fun x => by rw [x.h]; exact (unhid HP).2.1
          have q2 : ∀ x : CW (fun w' => w' = wq), x.w.cell? ⟨wr.heap.size, 2, .none⟩ = some (.int .i64 e.mode) := fun x => by rw [x.h]; exact (unhid HP).2.2.1
          have q3 : ∀ x : CW (fun w' => w' = wq), x.w.cell? ⟨wr.heap.size, 3, .none⟩ = some (.string e.text) := fun x => by rw [x.h]; exact (unhid HP).2.2.2
          simp only [List.take_succ_cons, List.take_zero, List.drop_succ_cons, List.drop_zero]
          repeat (go_big_quiet_step (fail))
          refine wpQuiet_nil ?_
          clear HCx q0 q1 q2 q3 HP HQ c0 c1 c2 c3 hok
          go_wp2_with (go_at_call 138; refine (unhid PUT2).mono ?_; rintro r w2 ⟨rfl, HR2⟩)
          refine ⟨⟨1, by omega, rfl, hid (all_range_snoc (unhid hall) (unhid HY)), HR2⟩, ?_⟩
          show es.length - 1 < es.length - 0
          omega
      · obtain ⟨pv, hpv⟩ : ∃ pv, es[j]? = some pv := ⟨es[j], List.getElem?_eq_getElem (by omega)⟩
        obtain ⟨g0, -, -, -⟩ := (hc j pv hpv).below hB hbl
        have hpf := entFn_get hpv
        have HG : Hid (wq.cell? ⟨b, o + j * 4, .none⟩ = some (.string pv.path)) := by
          have hbw : b < wr.heap.size := Nat.lt_of_lt_of_le hbl hB.size
          refine hid ?_
          rw [unhid HQE]
          exact (((Below.refl wr.heap.size wr).alloc (Nat.le_refl _) _).drew.cell (p := ⟨b, o + j * 4, .none⟩) hbw).trans g0
        have hj1 : (0 : Int) < ((j + 1 : Nat) : Int) := by omega
        cases hls : ltS pv.path e.path
        · have E : Hid (treeB es = false) := hid (unhid HNO (by unfold okI; rw [hf, show (j + 1 - 1) = j from rfl, hpf, hls]; simp))
          have hbl2 : (Op.bytesLess e.path.toList pv.path.toList || e.path.toList == pv.path.toList) = true := by rw [le_not_less, show Op.bytesLess pv.path.toList e.path.toList = false from hls]; rfl
          clear q0 q1 q2 q3 HC0 hc he hf HST hT hB hr hC0 he' g0 hpf hpv hls hno HNO
          go_wp2_with fail
          refine still_tail_at 15 wq (unhid HQE) (by kernel_rfl) (by kernel_rfl) ?_
          clear HQE
          have HCx := @CW.all (fun w' => w' = wq) wq rfl
          have q0 : ∀ x : CW (fun w' => w' = wq), x.w.cell? ⟨wr.heap.size, 0, .none⟩ = some (.string e.path) := fun x => by rw [x.h]; exact (unhid HP).1
          have q1 : ∀ x : CW (fun w' => w' = wq), x.w.cell? ⟨wr.heap.size, 1, .none⟩ = some (.int .i64 e.kind) := fun x => by rw [x.h]; exact (unhid HP).2.1
          have q2 : ∀ x : CW (fun w' => w' = wq), x.w.cell? ⟨wr.heap.size, 2, .none⟩ = some (.int .i64 e.mode) := fun x => by rw [x.h]; exact (unhid HP).2.2.1
          have q3 : ∀ x : CW (fun w' => w' = wq), x.w.cell? ⟨wr.heap.size, 3, .none⟩ = some (.string e.text) := fun x => by rw [x.h]; exact (unhid HP).2.2.2
          have q4 : ∀ x : CW (fun w' => w' = wq), x.w.cell? ⟨b, o + j * 4, .none⟩ = some (.string pv.path) := fun x => by rw [x.h]; exact unhid HG
          simp only [List.take_succ_cons, List.take_zero, List.drop_succ_cons, List.drop_zero]
          repeat (go_big_quiet_step (fail))
          refine wpQuiet_nil ?_
          clear HCx q0 q1 q2 q3 q4 HP HG c0 c1 c2 c3
          obtain ⟨hB5, hr5, -⟩ := unhid HQ
          obtain ⟨d0, d1, e0, e1⟩ := two_cells hr5
          have HR6 := hid hB5
          clear HQ hB5 hr5
          go_wp2_with fail
          refine bodyPost_ret (v := .tuple #[.agg #[.slice .none 0 0, .slice .none 0 0], .bool false]) (by simp [results, Tryz.results81, go_sem, World.cell?_setCell_same', d0, d1]) rfl ⟨_, _, by rw [unhid E], by rw [keptE_no (unhid E)]; exact rowsAt_nil _ _, ((unhid HR6).setCell (Nat.le_refl _) _).setCell (Nat.le_refl _) _⟩
        · have PUT2 := hid (inRow_put (w := w) hlt he' (unhid hall) zp zt (.inr (by show ltS (entFn es j).path e.path = true; rw [hpf]; exact hls)) wq (unhid HQ))
          have hbl2 : (Op.bytesLess e.path.toList pv.path.toList || e.path.toList == pv.path.toList) = false := by rw [le_not_less, show Op.bytesLess pv.path.toList e.path.toList = true from hls]; rfl
          clear q0 q1 q2 q3 HC0 hc he hf HST hT hB hr hC0 he' g0 hpf hpv hls
          cases hok : okI es (j + 1)
          · rw [hok] at PUT2
            have E := hid (unhid HNO hok)
            clear hno HNO hok
            go_wp2_with fail
            refine still_tail_at 15 wq (unhid HQE) (by kernel_rfl) (by kernel_rfl) ?_
            clear HQE
            have HCx := @CW.all (fun w' => w' = wq) wq rfl
            have q0 : ∀ x : CW (fun w' => w' = wq), x.w.cell? ⟨wr.heap.size, 0, .none⟩ = some (.string e.path) := fun x => by rw [x.h]; exact (unhid HP).1
            have q1 : ∀ x : CW (fun w' => w' = wq), x.w.cell? ⟨wr.heap.size, 1, .none⟩ = some (.int .i64 e.kind) := fun x => by rw [x.h]; exact (unhid HP).2.1
            have q2 : ∀ x : CW (fun w' => w' = wq), x.w.cell? ⟨wr.heap.size, 2, .none⟩ = some (.int .i64 e.mode) := fun x => by rw [x.h]; exact (unhid HP).2.2.1
            have q3 : ∀ x : CW (fun w' => w' = wq), x.w.cell? ⟨wr.heap.size, 3, .none⟩ = some (.string e.text) := fun x => by rw [x.h]; exact (unhid HP).2.2.2
            have q4 : ∀ x : CW (fun w' => w' = wq), x.w.cell? ⟨b, o + j * 4, .none⟩ = some (.string pv.path) := fun x => by rw [x.h]; exact unhid HG
            simp only [List.take_succ_cons, List.take_zero, List.drop_succ_cons, List.drop_zero]
            repeat (go_big_quiet_step (fail))
            refine wpQuiet_nil ?_
            clear HCx q0 q1 q2 q3 q4 HP HQ HG c0 c1 c2 c3
            go_wp2_with (go_at_call 138; refine (unhid PUT2).mono ?_; rintro r w2 ⟨rfl, HR2⟩; obtain ⟨hB5, hr5, -⟩ := unhid HR2; obtain ⟨d0, d1, e0, e1⟩ := two_cells hr5; have HR6 := hid hB5; clear HR2 hB5 hr5)
            refine bodyPost_ret (v := .tuple #[.agg #[.slice .none 0 0, .slice .none 0 0], .bool false]) (by simp [results, Tryz.results81, go_sem, World.cell?_setCell_same', d0, d1]) rfl ⟨_, _, by rw [unhid E], by rw [keptE_no (unhid E)]; exact rowsAt_nil _ _, ((unhid HR6).setCell (Nat.le_refl _) _).setCell (Nat.le_refl _) _⟩
          · rw [hok, nextK_yes hok] at PUT2
            have HY := hid hok
            clear hno HNO hok
            go_wp2_with fail
            refine still_tail_at 15 wq (unhid HQE) (by kernel_rfl) (by kernel_rfl) ?_
            clear HQE
            have HCx := @CW.all (fun w' => w' = wq) wq rfl
            have q0 : ∀ x : CW (fun w' => w' = wq), x.w.cell? ⟨wr.heap.size, 0, .none⟩ = some (.string e.path) := fun x => by rw [x.h]; exact (unhid HP).1
            have q1 : ∀ x : CW (fun w' => w' = wq), x.w.cell? ⟨wr.heap.size, 1, .none⟩ = some (.int .i64 e.kind) := fun x => by rw [x.h]; exact (unhid HP).2.1
            have q2 : ∀ x : CW (fun w' => w' = wq), x.w.cell? ⟨wr.heap.size, 2, .none⟩ = some (.int .i64 e.mode) := fun x => by rw [x.h]; exact (unhid HP).2.2.1
            have q3 : ∀ x : CW (fun w' => w' = wq), x.w.cell? ⟨wr.heap.size, 3, .none⟩ = some (.string e.text) := fun x => by rw [x.h]; exact (unhid HP).2.2.2
            have q4 : ∀ x : CW (fun w' => w' = wq), x.w.cell? ⟨b, o + j * 4, .none⟩ = some (.string pv.path) := fun x => by rw [x.h]; exact unhid HG
            simp only [List.take_succ_cons, List.take_zero, List.drop_succ_cons, List.drop_zero]
            repeat (go_big_quiet_step (fail))
            refine wpQuiet_nil ?_
            clear HCx q0 q1 q2 q3 q4 HP HQ HG c0 c1 c2 c3
            go_wp2_with (go_at_call 138; refine (unhid PUT2).mono ?_; rintro r w2 ⟨rfl, HR2⟩)
            refine ⟨⟨j + 2, by omega, by rw [show ((j + 2 : Nat) : Int) = (j : Int) + 1 + 1 by omega], hid (all_range_snoc (unhid hall) (unhid HY)), HR2⟩, ?_⟩
            show es.length - ((j : Int) + 1 + 1).toNat < es.length - (((j + 1 : Nat) : Int)).toNat
            omega
    · have hke : k = es.length := by omega
      obtain ⟨hB, hr, vp, vn, t1, t2, t3⟩ := unhid HST
      rw [hke, List.take_of_length_le (Nat.le_refl _)] at t2 t3
      have hok : treeB es = true := by rw [unhid ET, ← hke]; exact unhid hall
      obtain ⟨c0, c1, f0, f1⟩ := two_cells t1
      obtain ⟨d0, d1, e0, e1⟩ := two_cells hr
      have r1 := hid (row_ne t2 hr (by decide))
      have r2 := hid (row_ne t3 hr (by decide))
      obtain ⟨ap, cp, rfl⟩ := ownsRow_slice t2
      obtain ⟨an, cn, rfl⟩ := ownsRow_slice t3
      have HE := hid hB
      have HROWS := hid (And.intro t2 t3)
      have HOK := hid hok
      clear hB t1 t2 t3 hr hok HST
      go_wp2_with fail
      refine bodyPost_ret (v := .tuple #[.agg #[.slice ap es.length cp, .slice an es.length cn], .bool true]) (by simp [results, Tryz.results81, go_sem, World.cell?_setCell_same', d0, d1]) rfl ⟨_, _, by rw [unhid HOK], ?_, ((unhid HE).setCell (Nat.le_refl _) _).setCell (Nat.le_refl _) _⟩
      rw [keptE_yes (unhid HOK)]
      refine ⟨ownsRow_kept (unhid HROWS).1 (fun g hg => ?_), ownsRow_kept (unhid HROWS).2 (fun g hg => ?_)⟩
      · have hne : g ≠ w.heap.size := fun eq => unhid r1 (by rw [hg, eq])
        rw [Below.heap_setCell _ _ _ _ hne, Below.heap_setCell _ _ _ _ hne]
      · have hne : g ≠ w.heap.size := fun eq => unhid r2 (by rw [hg, eq])
        rw [Below.heap_setCell _ _ _ _ hne, Below.heap_setCell _ _ _ _ hne]
end Go.Proofs.YtoihhlkidlapmaaGreat

/- What the program's iterator over a tree tells. -/
namespace Go.Proofs.YtoihhlkidlapmaaGreat
open Go.RowKit Go.Shelf

/-- A tree that an iterator goes over: the box with where it is, its two rows. -/
def TreeIn (Bn bt N : Nat) (vp vn : Value) (es : List Ent) (W : World) : Prop := W.cell? ⟨Bn, 0, none⟩ = some (.pointer (some ⟨bt, 0, none⟩)) ∧ W.heap[bt]? = some (.cells #[vp, vn] 117 (0, 0)) ∧ RowsAt W N vp vn es

theorem path_of {W : World} {N : Nat} {v : Value} {es : List Ent} {i : Nat} {e : Ent} (h : W.ownsRow N 9 1 v es.length (es.map fun e => .string e.path)) (he : es[i]? = some e) : ∃ g cap, v = .slice (some ⟨g, 0, .none⟩) es.length cap ∧ W.cell? ⟨g, i, .none⟩ = some (.string e.path) ∧ es.length ≤ cap := by
  have hil : i < es.length := (List.getElem?_eq_some_iff.1 he).1
  rcases h.2 with ⟨rfl, h0⟩ | ⟨g, cap, cur, rfl, _, hg, hc, _, hsz, hcells⟩
  · omega
  · refine ⟨g, cap, rfl, ?_, hc⟩
    have h1 : (cur.toList.take (es.length * 1))[i]? = some (.string e.path) := by rw [hcells, List.getElem?_map, he]; rfl
    rw [List.getElem?_take_of_lt (by omega), Array.getElem?_toList] at h1
    simp [World.cell?, hg, h1]

set_option maxRecDepth 100000 in
set_option maxHeartbeats 2000000 in
theorem all1_in (F : Fence) (n : Nat) (hf : F.fn 168) (hro : F.round = none) (hn : 1 ≤ n) (l Bn bt N : Nat) (vp vn : Value) (es : List Ent) (hes : es.length ≤ 1000) (P : Ent → Prop) (hP : ∀ e ∈ es, P e) (J Jx : List { e : Ent // P e } → World → Prop)
    (hY : ∀ pre (x : { e : Ent // P e }) W, J pre W → pre.length < es.length → YieldAt F (n - 1) Tryz.prog l #[.string x.1.path, nodeV x.1] W fun e W' =>
      (e = .returned (.bool true) ∧ J (pre ++ [x]) W' ∧ (TreeIn Bn bt N vp vn es W → TreeIn Bn bt N vp vn es W')) ∨ (e = .returned (.bool false) ∧ Jx (pre ++ [x]) W'))
    (W : World) (hc : TreeIn Bn bt N vp vn es W) (h0 : J [] W) :
    CallsIn F n Tryz.prog 168 #[.func (.yield l) #[] #[], .pointer (some ⟨Bn, 0, none⟩)] W fun e W' => (∃ v, e = .returned v) ∧
      ((∃ ys : List { e : Ent // P e }, ys.map (·.1) = es ∧ J ys W') ∨ (∃ pre : List { e : Ent // P e }, pre.map (·.1) <+: es ∧ Jx pre W')) := by
  obtain ⟨ap, cp, rfl⟩ := ownsRow_slice hc.2.2.1
  refine callsIn_of_wp Tryz.func168 rfl hf ?_ hro
  simp only [Tryz.ntmps168, List.size_toArray, List.length_cons, List.length_nil, Nat.reduceAdd, Nat.reduceSub, Array.replicate_succ, Array.replicate_zero, List.push_toArray, List.append_toArray, List.nil_append, List.cons_append]
  have c0 := hc.1
  obtain ⟨c1, c2, -, -⟩ := two_cells hc.2.1
  have HC := hid hc
  clear hc
  gi_wp2
  clear c0 c1 c2
  gi_loopw [10] (fun p wr => ∃ (k : Nat) (ys : List { e : Ent // P e }), k ≤ es.length ∧ p = .int .i64 k ∧ Hid (ys.map (·.1) = es.take k) ∧ J ys wr ∧ Hid (TreeIn Bn bt N (.slice ap es.length cp) vn es wr))
    (fun p _ => es.length - (intOf p).toNat)
  case atStart =>
    exact ⟨0, [], Nat.zero_le _, rfl, hid rfl, h0, HC⟩
  case round =>
    obtain ⟨k, ys, hk, rfl, hys, hJ, HT⟩ := hrel
    have hyl : ys.length = k := by have := congrArg List.length (unhid hys); rw [List.length_map, List.length_take] at this; omega
    by_cases hlt : k < es.length
    · obtain ⟨e, he⟩ : ∃ e, es[k]? = some e := ⟨es[k], List.getElem?_eq_getElem hlt⟩
      have hPe : P e := hP e (List.mem_of_getElem? he)
      obtain ⟨g, cap, hv, hc1, hle⟩ := path_of (unhid HT).2.2.1 he
      cases hv
      obtain ⟨g2, cap2, rfl, hc2, hle2⟩ := node_of (unhid HT).2.2.2 he
      have c0 := (unhid HT).1
      obtain ⟨c1, c2, -, -⟩ := two_cells (unhid HT).2.1
      have hY1 := hY ys ⟨e, hPe⟩ wr hJ (by omega)
      obtain ⟨T0, nv, hnv⟩ := nodeV_shape e
      dsimp only at hY1
      rw [hnv] at hc2 hY1
      obtain ⟨fn, tmps, assign, body, hy, hR⟩ := hY1
      have HY := hid hY
      clear hY
      gi_wp2
      refine hR.mono ?_
      rintro x W3 (⟨rfl, hJ3, hk3⟩ | ⟨rfl, hJx3⟩)
      · have HT3 := hid (hk3 (unhid HT))
        have HYS := hid (show (ys ++ [(⟨e, hPe⟩ : { e : Ent // P e })]).map (fun x => x.1) = es.take (k + 1) by rw [List.map_append, unhid hys, List.take_add_one, he]; rfl)
        clear hk3 HT hys
        gi_wp2
        go_roundw
        case rel => exact ⟨k + 1, _, by omega, by go_num, HYS, hJ3, HT3⟩
        case measure => simp [intOf]; omega
      · gi_wp2
        refine bodyPost_ret (results_none rfl _ _ _) rfl ?_
        exact ⟨⟨_, rfl⟩, .inr ⟨_, by rw [List.map_append, unhid hys]; rw [show [(⟨e, hPe⟩ : { e : Ent // P e })].map (·.1) = [e] from rfl, show es.take k ++ [e] = es.take (k + 1) by rw [List.take_add_one, he]; rfl]; exact List.take_prefix _ _, hJx3⟩⟩
    · gi_wp2
      go_end0
      exact ⟨⟨_, rfl⟩, .inl ⟨_, by rw [unhid hys, List.take_of_length_le (by omega)], hJ⟩⟩

set_option maxHeartbeats 1000000 in
theorem all_in (F : Fence) (n : Nat) (hf : F.fn 101) (hro : F.round = none) (bt : Nat) (w : World) :
    CallsIn F n Tryz.prog 101 #[.pointer (some ⟨bt, 0, none⟩)] w fun e w' => e = .returned (.func (.func 168) #[] #[.pointer (some ⟨w.heap.size, 0, none⟩)]) ∧ w' = w.alloc (.cells #[.pointer (some ⟨bt, 0, none⟩)] 173) := by
  refine callsIn_of_wp Tryz.func101 rfl hf ?_ hro
  simp only [Tryz.ntmps101, List.size_toArray, List.length_cons, List.length_nil, Nat.reduceAdd, Nat.reduceSub, Array.replicate_succ, Array.replicate_zero, List.push_toArray, List.append_toArray, List.nil_append, List.cons_append]
  gi_wp2
  go_ret
  exact ⟨rfl, rfl⟩

theorem treeIn_below {Bn bt N : Nat} {vp vn : Value} {es : List Ent} {W W' : World} (h : TreeIn Bn bt N vp vn es W) (hb : Below W.heap.size W W') : TreeIn Bn bt N vp vn es W' := by
  have hl : Bn < W.heap.size := below_lt h.1
  exact ⟨(hb.cell (p := ⟨Bn, 0, none⟩) hl).trans h.1, (hb.block bt (Array.getElem?_eq_some_iff.1 h.2.1).1).trans h.2.1, ownsRow_kept h.2.2.1 (fun g e => hb.block g (h.2.2.1.lt g e).2), ownsRow_kept h.2.2.2 (fun g e => hb.block g (h.2.2.2.lt g e).2)⟩
theorem row_cells {W : World} {N n size : Nat} {v : Value} {e : TypeId} {xs : List Value} {g : Nat} (h : W.ownsRow N e size v n xs) (hg : v.ownBlock = some g) : ∃ cur, W.heap[g]? = some (.cells cur e (0, 0)) := by
  rcases h.2 with ⟨rfl, _⟩ | ⟨g', cap, cur, rfl, _, hh, _⟩
  · cases hg
  · cases hg; exact ⟨cur, hh⟩
theorem treeIn_grown {Bn bt N : Nat} {vp vn : Value} {es : List Ent} {W W' : World} {row : Option Nat} (h : TreeIn Bn bt N vp vn es W) (hg : W.grownBy W' row) (hr : ∀ r, row = some r → ∃ o : Obj, W.heap[r]? = some o ∧ o.isCells = false) : TreeIn Bn bt N vp vn es W' := by
  have hk : ∀ (b : Nat) (cs : Array Value) (t : TypeId) (f : Nat × Nat), W.heap[b]? = some (.cells cs t f) → W'.heap[b]? = W.heap[b]? := fun b cs t f hb => hg.block b (Array.getElem?_eq_some_iff.1 hb).1 (fun e => by
    obtain ⟨o, ho, hc⟩ := hr b e.symm
    rw [hb] at ho; cases ho; cases hc)
  refine ⟨cell_kept h.1 hg hr, (hk _ _ _ _ h.2.1).trans h.2.1, ownsRow_kept h.2.2.1 (fun g e => ?_), ownsRow_kept h.2.2.2 (fun g e => ?_)⟩
  · obtain ⟨cur, hc⟩ := row_cells h.2.2.1 e; exact hk _ _ _ _ hc
  · obtain ⟨cur, hc⟩ := row_cells h.2.2.2 e; exact hk _ _ _ _ hc

theorem all_stops (F : Fence) (n : Nat) (hf : F.fn 168) (hro : F.round = none) (hn : 1 ≤ n) (Bn bt N : Nat) (vp vn : Value) (es : List Ent) (hes : es.length ≤ 1000) (P : Ent → Prop) (hP : ∀ e ∈ es, P e) (w : World) (hc : TreeIn Bn bt N vp vn es w) :
    SeqStopsK F n Tryz.prog 168 #[.pointer (some ⟨Bn, 0, none⟩)] (fun x : { e : Ent // P e } => #[Value.string x.1.path, nodeV x.1]) (fun W W' => TreeIn Bn bt N vp vn es W → TreeIn Bn bt N vp vn es W') (fun ys => ys.map (·.1) = es) (fun pre => pre.map (·.1) <+: es) es.length w := fun l J Jx W hW _ _ hY h0 =>
  all1_in F n hf hro hn l Bn bt N vp vn es hes P hP J Jx hY W (treeIn_below hc hW) h0
end Go.Proofs.YtoihhlkidlapmaaGreat

/- A region inside a round of a range over a function, by what holds of it outside. -/
namespace Go.Proofs.YtoihhlkidlapmaaGreat
open Go.RowKit Go.Shelf

def noDefer (o : Oper) : Bool := match o.op with | .defer _ => false | _ => true
theorem noDefer_ne {o : Oper} (h : noDefer o = true) : ∀ c, o.op ≠ .defer c := fun c e => by unfold noDefer at h; rw [e] at h; cases h

theorem opIn_of_op {P : Program} {o : Oper} {a : Act} {w : World} {K K' : Act → World → Prop} {Q : Exit → Act → World → Prop} {l n : Nat} (hd : noDefer o = true) (hK : ∀ a w, K a w → K' a w) (h : o.wp P a w K Q) : o.wpIn (Fence.wide.inRound l) n P a w K' Q := by
  refine ⟨fun _ _ => trivial, ?_⟩
  rw [Oper.semAt_plain _ _ _ (noDefer_ne hd)]
  unfold Oper.wp at h
  generalize (execOp a.eval o).run P w = r at h
  cases r with
  | ok x w' =>
    cases x with
    | value v => exact hK _ _ h
    | skip => exact hK _ _ h
    | defer d => exact hK _ _ h
    | enter f args =>
      refine ⟨(fun e => by cases e), CallsIn.inRound l (callsIn_wide.2 (Calls.mono (show Calls P f args w' _ from h) ?_))⟩
      intro e w'' he
      cases e with
      | returned v => exact hK _ _ he
      | panicked c => exact he
      | outgrown => exact he
    | row r args => exact ⟨(fun e => by cases e), fun c cs _ => let ⟨v, w', r, s⟩ := (show Rows P _ _ _ _ from h) c cs; ⟨v, w', hK _ _ r, stepsIn_wide.2 s⟩⟩
    | _ => exact h.elim
  | halt x w' => cases x <;> simp only [Oper.upon] at h <;> simp only [Oper.uponIn] <;> exact h

theorem anyIn_of_any {P : Program} {md : Region.Mode} {ops : Array Oper} {Q : Exit → Act → World → Prop} {l n : Nat} (hd : ops.all noDefer = true) (hnl : ¬ LetsOut Q) : ∀ (fuel : Nat) (listed : Array Bool) (a : Act) (w : World), wpAny P md ops Q fuel listed a w → wpAnyIn (Fence.wide.inRound l) n P md ops Q fuel listed a w
  | 0, _, _, _, h => h
  | fuel + 1, listed, a, w, h => by
    refine ⟨h.1, fun i hi => ?_⟩
    have h2 := h.2 i hi
    unfold wpOp at h2
    unfold wpOpIn
    cases ho : ops[i]? with
    | none => rw [ho] at h2; exact anyIn_of_any hd hnl fuel _ _ _ h2
    | some o =>
      rw [ho] at h2
      dsimp only at h2 ⊢
      have hdo : noDefer o = true := by
        rw [Array.all_eq_true] at hd
        obtain ⟨hil, he⟩ := Array.getElem?_eq_some_iff.1 ho
        rw [← he]; exact hd i hil
      split
      · rename_i hw
        rw [if_pos hw] at h2
        exact opIn_of_op hdo (fun a w h => anyIn_of_any hd hnl fuel _ a w h) (h2.resolve_right (fun e => hnl e.2))
      · rename_i hw
        rw [if_neg hw] at h2
        exact ⟨fun _ _ => trivial, anyIn_of_any hd hnl fuel _ _ _ h2⟩
theorem region_in {P : Program} {id l n : Nat} {ops : Array Oper} {Q : Exit → Act → World → Prop} {a : Act} {w : World} (hm : P.follows .mixedOrders = true) (hd : ops.all noDefer = true) (hnl : ¬ LetsOut Q)
    (h : wpAny P .any ops Q ops.size (Array.replicate ops.size false) a w.drew) : (Code.region id ops true).wpIn (Fence.wide.inRound l) n P Q a w :=
  wpIn_region_any hm (anyIn_of_any hd hnl _ _ _ _ h)
end Go.Proofs.YtoihhlkidlapmaaGreat

/- What a tree has at a path, by the program. -/
namespace Go.Proofs.YtoihhlkidlapmaaGreat
open Go.RowKit Go.Shelf

theorem kept_asc (es : List Ent) : Asc (pathsOf (keptE es)) ∧ (keptE es).length ≤ 16 := by
  cases h : treeB es
  · rw [keptE_no h]; exact ⟨by simp [pathsOf, Asc], by simp⟩
  · rw [keptE_yes h]
    rw [treeB_eq] at h
    have h1 := asc_take (Nat.le_refl _) h
    rw [List.take_of_length_le (Nat.le_refl _)] at h1
    exact ⟨h1, okI_16 (Nat.le_refl _) h⟩
theorem kept_there (es : List Ent) (p : ByteArray) : thereE (keptE es) p = (treeB es && thereE es p) := by
  cases h : treeB es
  · rw [keptE_no h]; simp [thereE, placeE]
  · rw [keptE_yes h]; simp
theorem tree_ent {es : List Ent} {i : Nat} {e : Ent} (h : treeB es = true) (he : es[i]? = some e) : entB e = true := by
  rw [treeB_eq, List.all_eq_true] at h
  have := h i (List.mem_range.2 (List.getElem?_eq_some_iff.1 he).1)
  unfold okI putB at this
  rw [entFn_get he] at this
  simp only [Bool.and_eq_true] at this
  exact this.2.1
theorem four_cells {W : World} {bt : Nat} {u v x y : Value} {t : TypeId} (h : W.heap[bt]? = some (.cells #[u, v, x, y] t (0, 0))) : (W.cell? ⟨bt, 0, .none⟩ = some u ∧ W.cell? ⟨bt, 1, .none⟩ = some v ∧ W.cell? ⟨bt, 2, .none⟩ = some x ∧ W.cell? ⟨bt, 3, .none⟩ = some y) ∧ (W.frozen? ⟨bt, 0, .none⟩ = false ∧ W.frozen? ⟨bt, 1, .none⟩ = false ∧ W.frozen? ⟨bt, 2, .none⟩ = false ∧ W.frozen? ⟨bt, 3, .none⟩ = false) := by
  refine ⟨⟨?_, ?_, ?_, ?_⟩, ?_, ?_, ?_, ?_⟩ <;> simp [World.cell?, World.frozen?, h]
def noneE : Ent := ⟨⟨#[]⟩, 0, 0, ⟨#[]⟩⟩
def gotE (es : List Ent) (p : ByteArray) : Ent := if treeB es && thereE es p then entFn es (placeE es p) else noneE

set_option maxRecDepth 100000 in
set_option maxHeartbeats 2000000 in
theorem treeGet_any (es : List Ent) (a : Option Addr) (cap : Nat) (p : ByteArray) (w : World) (hs : smallE es) (h : EntsAt w a es) :
    Calls Tryz.prog 36 #[.slice a es.length cap, .string p] w fun x w' => x = .returned (.tuple #[.agg (gotE es p).vals, .bool (treeB es && thereE es p)]) ∧ Below w.heap.size w w' := by
  obtain ⟨wA, hwA⟩ : ∃ wA, wA = w.alloc (.cells #[.string ⟨#[]⟩, .int .i64 0, .int .i64 0, .string ⟨#[]⟩] 57) := ⟨_, rfl⟩
  have hsz : wA.heap.size = w.heap.size + 1 := by rw [hwA]; simp
  have hBA : Below w.heap.size w wA := by rw [hwA]; exact (Below.refl _ w).alloc (Nat.le_refl _) _
  have hbox : wA.heap[w.heap.size]? = some (.cells #[.string ⟨#[]⟩, .int .i64 0, .int .i64 0, .string ⟨#[]⟩] 57 (0, 0)) := by rw [hwA]; exact World.alloc_heap_new _ _
  have H := hid (treeOf_any es a cap wA hs (h.below (by rw [hwA]; exact (Below.refl _ w).alloc (Nat.le_refl _) _)))
  have HA := hid (And.intro hsz (And.intro hBA hbox))
  have HWA := hid hwA
  clear hs h hwA hsz hBA hbox
  go_enter Tryz.func36, Tryz.ntmps36
  go_wp2_with fail
  rw [← unhid HWA]
  refine (unhid H).mono ?_
  rintro x w1 ⟨vp, vn, rfl, ⟨t2, t3⟩, hB⟩
  obtain ⟨ap, cp, rfl⟩ := ownsRow_slice t2
  obtain ⟨an, cn, rfl⟩ := ownsRow_slice t3
  obtain ⟨hsz, hBA, hbox⟩ := unhid HA
  obtain ⟨wt, hwt⟩ : ∃ wt, wt = w1.alloc (.cells #[.slice ap (keptE es).length cp, .slice an (keptE es).length cn] 117) := ⟨_, rfl⟩
  have hB1 : Below w.heap.size w w1 := hBA.trans (hB.mono (by omega))
  have hBt : Below w1.heap.size w1 wt := by rw [hwt]; exact (Below.refl _ w1).alloc (Nat.le_refl _) _
  have hBT : Below w.heap.size w wt := hB1.trans (hBt.mono hB1.size)
  have hT : TreeAt wt wA.heap.size w1.heap.size (keptE es) := ⟨_, _, by rw [hwt]; exact World.alloc_heap_new _ _, ownsRow_kept t2 (fun g e => hBt.block g (t2.lt g e).2), ownsRow_kept t3 (fun g e => hBt.block g (t3.lt g e).2)⟩
  have hw1 : wA.heap.size ≤ w1.heap.size := hB.size
  have hbt : wt.heap[w.heap.size]? = some (.cells #[.string ⟨#[]⟩, .int .i64 0, .int .i64 0, .string ⟨#[]⟩] 57 (0, 0)) := (hBt.block _ (by omega)).trans ((hB.block _ (by omega)).trans hbox)
  have hk := kept_asc es
  have GET := hid (mapGet_any _ _ (keptE es) p wt (by omega) hk.1 hT)
  have HT := hid (And.intro hBT hbt)
  have HWT := hid hwt
  clear hT hbt hBT hBt hB1 hwt hB t2 t3 hbox hBA hk HA HWA H
  have KT := hid (kept_there es p)
  go_wp2_with fail
  rw [← unhid HWT]
  refine (unhid GET).mono ?_
  cases hth : thereE (keptE es) p
  · rw [show getV (keptE es) p = .nilIface by unfold getV; rw [hth]; rfl]
    rintro x w2 ⟨rfl, e2⟩
    subst e2
    have G1 : (treeB es && thereE es p) = false := (unhid KT).symm.trans hth
    have E := hid (show (gotE es p).vals = #[.string ⟨#[]⟩, .int .i64 0, .int .i64 0, .string ⟨#[]⟩] by unfold gotE; rw [G1]; rfl)
    have E2 := hid G1
    obtain ⟨hBT, hbt⟩ := unhid HT
    obtain ⟨⟨d0, d1, d2, d3⟩, f0, f1, f2, f3⟩ := four_cells hbt
    have HB := hid hBT
    clear hBT hbt G1 hth KT HT GET HWT
    go_wp2_with fail
    refine bodyPost_ret (v := .tuple #[.agg #[.string ⟨#[]⟩, .int .i64 0, .int .i64 0, .string ⟨#[]⟩], .bool false]) (by simp [results, Tryz.results36, go_sem, World.cell?_setCell_same', d0, d1, d2, d3]) rfl ⟨by rw [unhid E, unhid E2], ((((unhid HB).setCell (Nat.le_refl _) _).setCell (Nat.le_refl _) _).setCell (Nat.le_refl _) _).setCell (Nat.le_refl _) _⟩
  · have G1 : (treeB es && thereE es p) = true := (unhid KT).symm.trans hth
    have hb : treeB es = true := by simp only [Bool.and_eq_true] at G1; exact G1.1
    have hthe : thereE es p = true := by simp only [Bool.and_eq_true] at G1; exact G1.2
    obtain ⟨e, he, hep⟩ := there_get hthe
    have hfe := entFn_get he
    rw [show getV (keptE es) p = nodeV e by unfold getV; rw [hth, keptE_yes hb, hfe]; rfl]
    have hg : gotE es p = e := by unfold gotE; rw [G1, hfe]; rfl
    have ENT := hid (entryOf_any e (tree_ent hb he) wt)
    rintro x w2 ⟨rfl, e2⟩
    subst e2
    rw [hep] at ENT
    have E := hid (show (gotE es p).vals = e.vals by rw [hg])
    have E2 := hid G1
    obtain ⟨hBT, hbt⟩ := unhid HT
    obtain ⟨T0, nv, hnv⟩ := nodeV_shape e
    rw [hnv] at ENT
    rw [hnv]
    have HBX := hid hbt
    have HB := hid hBT
    clear hBT hbt G1 hth KT HT GET HWT hb hthe he hep hfe hg
    go_wp2_with fail
    refine (unhid ENT).mono ?_
    rintro x w3 ⟨rfl, hB3⟩
    have hw2 : w.heap.size < w2.heap.size := (Array.getElem?_eq_some_iff.1 (unhid HBX)).1
    obtain ⟨⟨d0, d1, d2, d3⟩, f0, f1, f2, f3⟩ := four_cells ((hB3.block _ hw2).trans (unhid HBX))
    have HB3 := hid ((unhid HB).trans (hB3.mono (Nat.le_of_lt hw2)))
    clear hB3 HB HBX ENT hw2
    unfold Ent.vals
    unfold Ent.vals at E
    go_wp2_with fail
    refine bodyPost_ret (v := .tuple #[.agg #[.string e.path, .int .i64 e.kind, .int .i64 e.mode, .string e.text], .bool true]) (by simp [results, Tryz.results36, go_sem, World.cell?_setCell_same', d0, d1, d2, d3]) rfl ⟨by rw [unhid E2, show (gotE es p).vals = #[.string e.path, .int .i64 e.kind, .int .i64 e.mode, .string e.text] from unhid E], ((((unhid HB3).setCell (Nat.le_refl _) _).setCell (Nat.le_refl _) _).setCell (Nat.le_refl _) _).setCell (Nat.le_refl _) _⟩
end Go.Proofs.YtoihhlkidlapmaaGreat

/- The entries of a tree, in a row of their own. -/
namespace Go.Proofs.YtoihhlkidlapmaaGreat
open Go.RowKit Go.Shelf

attribute [local go_sem] Oper.semAt_some

def valsOf (es : List Ent) : List Value := es.flatMap fun e => e.vals.toList

theorem cells_grown {W W' : World} {row : Option Nat} (hg : W.grownBy W' row) (hr : ∀ r, row = some r → ∃ o : Obj, W.heap[r]? = some o ∧ o.isCells = false) {b : Nat} {cs : Array Value} {t : TypeId} {f : Nat × Nat} (hb : W.heap[b]? = some (.cells cs t f)) : W'.heap[b]? = some (.cells cs t f) :=
  (hg.block b (Array.getElem?_eq_some_iff.1 hb).1 (fun e => by obtain ⟨o, ho, hc⟩ := hr b e.symm; rw [hb] at ho; cases ho; cases hc)).trans hb
theorem row_grown {W W' : World} {row : Option Nat} (hg : W.grownBy W' row) (hr : ∀ r, row = some r → ∃ o : Obj, W.heap[r]? = some o ∧ o.isCells = false) {N n size : Nat} {v : Value} {e : TypeId} {xs : List Value} (h : W.ownsRow N e size v n xs) : W'.ownsRow N e size v n xs :=
  ownsRow_kept h (fun g eg => by obtain ⟨cur, hc⟩ := row_cells h eg; rw [cells_grown hg hr hc, hc])
theorem valsOf_snoc (es : List Ent) (e : Ent) : valsOf (es ++ [e]) = valsOf es ++ e.vals.toList := by simp [valsOf]
theorem keepsOthers_of_grown {W W' : World} {row : Option Nat} (h : W.grownBy W' row) (hr : ∀ r, row = some r → ∃ cs t f, W.heap[r]? = some (.cells cs t f)) : KeepsOthers W W' :=
  ⟨h.size, fun k o hk hc => (h.block k (Array.getElem?_eq_some_iff.1 hk).1 (fun e => by obtain ⟨cs, t, f, hh⟩ := hr k e.symm; rw [hk] at hh; cases hh; cases hc)).trans hk⟩

theorem treeIn_kept {Bn bt N : Nat} {vp vn : Value} {es : List Ent} {W W' : World} (h : TreeIn Bn bt N vp vn es W) (hk : ∀ k, (k = Bn ∨ k = bt ∨ vp.ownBlock = some k ∨ vn.ownBlock = some k) → W'.heap[k]? = W.heap[k]?) : TreeIn Bn bt N vp vn es W' :=
  ⟨(World.cell?_of_block (a := ⟨Bn, 0, none⟩) (hk Bn (.inl rfl))).trans h.1, (hk bt (.inr (.inl rfl))).trans h.2.1, ownsRow_kept h.2.2.1 (fun g e => hk g (.inr (.inr (.inl e)))), ownsRow_kept h.2.2.2 (fun g e => hk g (.inr (.inr (.inr e))))⟩
theorem infoEntry : (Tryz.prog.info? 57).map (fun i => (i.zero, i.size, i.bytes)) = some (some (.agg #[.string ⟨#[]⟩, .int .i64 0, .int .i64 0, .string ⟨#[]⟩]), 4, 48) := by kernel_rfl
theorem ownsRow_base {W : World} {N N' n size : Nat} {v : Value} {e : TypeId} {xs : List Value} (h : W.ownsRow N e size v n xs) (hN : N' ≤ N) : W.ownsRow N' e size v n xs :=
  ⟨h.1, h.2.imp id (fun ⟨g, cap, cur, a, b, c⟩ => ⟨g, cap, cur, a, Nat.le_trans hN b, c⟩)⟩
theorem lit_cells (w1 : World) (a b c d : Value) (t : TypeId) : ∀ (j : Nat) (u : Value), [a, b, c, d][j]? = some u → (w1.alloc (.cells #[a, b, c, d] t)).cell? ((⟨w1.heap.size, 0, none⟩ : Addr).add j) = some u := by
  intro j u hj
  rw [Addr.add_lit, World.cell?_alloc_at _ _ _ _ rfl, Nat.zero_add]
  simpa using hj
/-- Behind one append to the list of a walk. -/
theorem inEnts_step {w W W3 w2 : World} {bt N : Nat} {vp vn v v' : Value} {es : List Ent} {pre : List { e : Ent // entB e = true }} {x : { e : Ent // entB e = true }} (hbt : bt < w.heap.size) (hrp : ∀ g, vp.ownBlock = some g → g < w.heap.size) (hrn : ∀ g, vn.ownBlock = some g → g < w.heap.size)
    (hv1 : W.heap[w.heap.size]? = some (.cells #[v] 32 (0, 0))) (hv2 : W.ownsRow (w.heap.size + 2) 57 4 v pre.length (valsOf (pre.map (·.1)))) (hT : TreeIn (w.heap.size + 1) bt N vp vn es W) (hB : Below w.heap.size w W)
    (hb3 : Below W.heap.size W W3) (hown : w2.ownsRow (w.heap.size + 2) 57 4 v' (pre.length + 1) (valsOf (pre.map (·.1)) ++ x.1.vals.toList)) (hg : W3.grownBy w2 v.ownBlock) :
    KeepsOthers W (w2.setCell ⟨w.heap.size, 0, none⟩ v') ∧ (TreeIn (w.heap.size + 1) bt N vp vn es W → TreeIn (w.heap.size + 1) bt N vp vn es (w2.setCell ⟨w.heap.size, 0, none⟩ v')) ∧ ((∃ v, (w2.setCell ⟨w.heap.size, 0, none⟩ v').heap[w.heap.size]? = some (.cells #[v] 32 (0, 0)) ∧ (w2.setCell ⟨w.heap.size, 0, none⟩ v').ownsRow (w.heap.size + 2) 57 4 v (pre ++ [x]).length (valsOf ((pre ++ [x]).map (·.1)))) ∧ TreeIn (w.heap.size + 1) bt N vp vn es (w2.setCell ⟨w.heap.size, 0, none⟩ v')) ∧ Below w.heap.size w (w2.setCell ⟨w.heap.size, 0, none⟩ v') := by
  have hBn := below_lt hT.1
  have hgo : ∀ g, v.ownBlock = some g → w.heap.size + 2 ≤ g := fun g e => (hv2.lt g e).1
  have hk2 : ∀ k, k < w.heap.size + 2 → w2.heap[k]? = W.heap[k]? := fun k hk => (hg.block k (Nat.lt_of_lt_of_le (by omega) hb3.size) (fun e => by have := hgo k e.symm; omega)).trans (hb3.block k (by omega))
  have hbox2 : w2.heap[w.heap.size]? = some (.cells #[v] 32 (0, 0)) := (hk2 _ (by omega)).trans hv1
  have hT2 : TreeIn (w.heap.size + 1) bt N vp vn es (w2.setCell ⟨w.heap.size, 0, none⟩ v') := treeIn_kept hT (fun k hk => by
    have hkl : k < w.heap.size + 2 ∧ k ≠ w.heap.size := by
      rcases hk with rfl | rfl | h | h
      · omega
      · omega
      · have := hrp k h; omega
      · have := hrn k h; omega
    exact (Below.heap_setCell _ _ _ _ hkl.2).trans (hk2 k hkl.1))
  refine ⟨((KeepsOthers_of_below hb3).trans (keepsOthers_of_grown hg (fun r e => ?_))).trans (KeepsOthers.setCell _ _ _), fun _ => hT2, ⟨⟨v', by rw [heap_setCell_same _ _ 0 _ _ _ hbox2]; rfl, ?_⟩, hT2⟩, ?_⟩
  · obtain ⟨cur, hc⟩ := row_cells hv2 e
    exact ⟨_, _, _, (hb3.block r (hv2.lt r e).2).trans hc⟩
  · rw [List.length_append, List.map_append, List.map_singleton, valsOf_snoc]
    exact ownsRow_kept hown (fun g e => Below.heap_setCell _ _ _ _ (fun eq => by have := (hown.lt g e).1; have eq' : g = w.heap.size := eq; omega))
  · exact (((hB.trans (hb3.mono hB.size)).grown hg (Nat.le_trans hB.size hb3.size) (fun k e => by have := hgo k e; omega))).setCell (Nat.le_refl _) _
/-- What the rounds of a tree's walk keep: the box of the list, the list, the tree. -/
def InEnts (w : World) (bt N : Nat) (vp vn : Value) (es : List Ent) (pre : List { e : Ent // entB e = true }) (W : World) : Prop :=
  (∃ v, W.heap[w.heap.size]? = some (.cells #[v] 32 (0, 0)) ∧ W.ownsRow (w.heap.size + 2) 57 4 v pre.length (valsOf (pre.map (·.1)))) ∧ TreeIn (w.heap.size + 1) bt N vp vn es W

set_option maxRecDepth 100000 in
set_option maxHeartbeats 4000000 in
theorem entries_any (N bt : Nat) (es : List Ent) (w : World) (hn : es.length ≤ 1000) (he : ∀ e ∈ es, entB e = true) (h : TreeAt w N bt es) :
    Calls Tryz.prog 104 #[.pointer (some ⟨bt, 0, .none⟩)] w fun x w' => ∃ v, x = .returned v ∧ w'.ownsRow w.heap.size 57 4 v es.length (valsOf es) ∧ Below w.heap.size w w' := by
  obtain ⟨vp, vn, h1, h2, h3⟩ := h
  refine (callsIn_wide (n := 3)).1 ?_
  refine callsIn_of_wp_marks Tryz.func104 rfl trivial ?_ rfl
  simp only [Tryz.ntmps104, List.size_toArray, List.length_cons, List.length_nil, Nat.reduceAdd, Nat.reduceSub, Array.replicate_succ, Array.replicate_zero, List.push_toArray, List.append_toArray, List.nil_append, List.cons_append]
  gi_wp2_with (refine ⟨trivial, ?_⟩; gi_at_call 101; refine (all_in Fence.wide _ trivial rfl _ _).mono ?_; rintro e w' ⟨rfl, rfl⟩)
  have hBw : Below w.heap.size w ((w.alloc (.cells #[.slice none 0 0] 32)).alloc (.cells #[.pointer (some ⟨bt, 0, none⟩)] 173)) := ((Below.refl _ w).alloc (Nat.le_refl _) _).alloc (by simp) _
  have hTI : TreeIn (w.heap.size + 1) bt N vp vn es ((w.alloc (.cells #[.slice none 0 0] 32)).alloc (.cells #[.pointer (some ⟨bt, 0, none⟩)] 173)) :=
    ⟨by have := (cell_new_l (w.alloc (.cells #[.slice none 0 0] 32)) (.pointer (some ⟨bt, 0, none⟩)) 173).1; rwa [World.size_alloc] at this,
     (hBw.block bt (Array.getElem?_eq_some_iff.1 h1).1).trans h1, ownsRow_kept h2 (fun g e => hBw.block g (h2.lt g e).2), ownsRow_kept h3 (fun g e => hBw.block g (h3.lt g e).2)⟩
  refine wpIn_rangeFunc_ownF rfl (by omega) (gf := 168) (lb := #[.pointer (some ⟨w.heap.size + 1, 0, none⟩)]) rfl trivial (enters_of Tryz.func168 (by kernel_rfl) rfl)
    (all_stops Fence.wide _ trivial rfl (by omega) (w.heap.size + 1) bt N vp vn es hn (fun e => entB e = true) he _ hTI) (fun h g x => g (h x)) (fun W l o o' _ hl hc _ h => treeIn_grown h (grownBy_putObj' _ l o') (fun r e => by cases e; exact ⟨_, hl, hc⟩)) (Below.refl _ _) (fun _ => rfl)
    (fun pre W => InEnts w bt N vp vn es pre W ∧ Below w.heap.size w W)
    (fun _ _ _ => False)
    (OwnFrom.and (Own.from (fun s A B row hs hg hr => ⟨by obtain ⟨v, hv1, hv2⟩ := hs.1; exact ⟨v, cells_grown hg hr hv1, row_grown hg hr hv2⟩, treeIn_grown hs.2 hg hr⟩) _) (ownFrom_below (Nat.le_refl _) (by simp; omega)))
    (fun c => fun _ _ _ _ h _ _ => h)
    ⟨⟨⟨.slice none 0 0, (Below.heap_alloc _ _ _ (by simp)).trans (World.alloc_heap_new w _), World.ownsRow_nil _ _ _ _⟩, hTI⟩, hBw⟩
    (fun x => { tmps := #[.pointer (some ⟨bt, 0, none⟩), undef, .slice none 0 0, .pointer (some ⟨w.heap.size, 0, none⟩), .string x.1.path, nodeV x.1, .pointer (some ⟨bt, 0, none⟩), .pointer (some ⟨bt, 0, none⟩), .pointer (some ⟨bt, 0, none⟩), .func (.func 168) #[] #[.pointer (some ⟨w.heap.size + 1, 0, none⟩)], .string x.1.path, nodeV x.1, undef, undef, undef, undef, undef, undef, undef], defers := [] }) ?assign ?body ?done ?stop
  case assign =>
    intro l x W K hK
    gi_wp2
    exact hK
  case stop => intro D c pre W _ _ h _; exact h.elim
  case body =>
    rintro l pre ⟨e, hx⟩ W ⟨⟨⟨v, hv1, hv2⟩, hTI2⟩, hB⟩ hpl
    dsimp only
    obtain ⟨av, capv, rfl⟩ := ownsRow_slice hv2
    have ENT := hid (fun W => entryOf_any e hx W)
    obtain ⟨T0, nv, hnv⟩ := nodeV_shape e
    rw [hnv] at ENT ⊢
    obtain ⟨i0, hi0, hz0, hzs, hzb⟩ := info_parts infoEntry
    refine wpIn_block ?_
    refine region_in (by kernel_rfl) (by kernel_rfl) (by rintro ⟨_, _, h⟩; exact h) ?_
    refine wpAny_take (i := 1) (v := .string e.path) rfl (by kernel_rfl) (by kernel_rfl) (by kernel_rfl) (fun _ _ _ h => h) (Or.inl ⟨by rfl, fun w => by go_simp⟩) ?_
    refine wpAny_take (i := 2) (v := .iface T0 nv) rfl (by kernel_rfl) (by kernel_rfl) (by kernel_rfl) (fun _ _ _ h => h) (Or.inl ⟨by rfl, fun w => by go_simp⟩) ?_
    refine wpAny_ready (rs := [0, 3]) (by kernel_rfl) (by simp) ?_
    refine AllReady.cons rfl (fun K hK => ?_) (AllReady.cons rfl (fun K hK => ?_) AllReady.nil)
    · have c0 := (cell_of_box_l hv1).1
      go_simp
      refine hK _ _ ?_
      clear hK K
      refine wpAny_ready (rs := [3]) (by kernel_rfl) (by simp) ?_
      refine AllReady.cons rfl (fun K hK => ?_) AllReady.nil
      go_simp
      refine (unhid ENT _).mono ?_
      rintro r w1 ⟨rfl, hB1⟩
      refine hK _ _ ?_
      clear hK K
      have hb1 : Below W.heap.size W w1 := ((Below.refl _ W).drew).trans hB1
      have hlw := (Array.getElem?_eq_some_iff.1 hv1).1
      have c1 : w1.cell? ⟨w.heap.size, 0, none⟩ = some (.slice av pre.length capv) := (cell_of_box_l ((hb1.block _ hlw).trans hv1)).1
      unfold Ent.vals
      refine wpAny_ready (rs := [4]) (by kernel_rfl) (by simp) ?_
      refine AllReady.cons rfl (fun K hK => ?_) AllReady.nil
      go_simp
      refine hK _ _ ?_
      clear hK K
      have hb3 : Below W.heap.size W (w1.alloc (.cells #[.string e.path, .int .i64 e.kind, .int .i64 e.mode, .string e.text] 57)) := hb1.trans ((Below.refl _ w1).alloc hb1.size _)
      have hv3 := ownsRow_kept hv2 (fun g e => hb3.block g (hv2.lt g e).2)
      have hbx3 := (hb3.block _ hlw).trans hv1
      refine wpAny_ready (rs := [5]) (by kernel_rfl) (by simp) ?_
      refine AllReady.cons rfl (fun K hK => ?_) AllReady.nil
      rw [if_pos (by kernel_rfl)]
      refine wp_append_own _ _ _ 32 rfl (w.heap.size + 2) 57 i0 _ 4 48 Tryz.underlying32 hi0 hz0 hzs hzb rfl (by decide) _ pre.length _ rfl hv3 ⟨w1.heap.size, 0, none⟩ 1 1 [.string e.path, .int .i64 e.kind, .int .i64 e.mode, .string e.text] rfl rfl ?_ ?_ ?_ ?_ ?_ ?_
      · exact lit_cells w1 _ _ _ _ _
      · intro u hu; simp at hu; rcases hu with rfl | rfl | rfl | rfl <;> rfl
      · unfold maxLen; omega
      · omega
      · have := below_lt hTI2.1; have := hb3.size; omega
      · intro v' w2 hown hg _
        obtain ⟨a2, cap2, rfl⟩ := ownsRow_slice hown
        refine hK _ _ ?_
        clear hK K
        have FIN := inEnts_step (x := ⟨e, hx⟩) (Array.getElem?_eq_some_iff.1 h1).1 (fun g eg => (h2.lt g eg).2) (fun g eg => (h3.lt g eg).2) hv1 hv2 hTI2 hB hb3 hown hg
        have hbx2 : w2.heap[w.heap.size]? = some (.cells #[.slice av pre.length capv] 32 (0, 0)) := (hg.block _ (by simp; have := hb1.size; omega) (fun eg => by have := (hv2.lt _ eg.symm).1; omega)).trans hbx3
        obtain ⟨k0, k1⟩ := cell_of_box_l hbx2
        have HF := hid FIN
        clear FIN hown hg
        refine wpAny_ready (rs := [6]) (by kernel_rfl) (by simp) ?_
        refine AllReady.cons rfl (fun K hK => ?_) AllReady.nil
        go_simp
        refine hK _ _ ?_
        clear hK K
        refine wpAny_done (by kernel_rfl) ?_ _
        have HFF := unhid HF
        exact HFF
    · go_simp
      refine (unhid ENT _).mono ?_
      rintro r w1 ⟨rfl, hB1⟩
      refine hK _ _ ?_
      clear hK K
      have hb1 : Below W.heap.size W w1 := ((Below.refl _ W).drew).trans hB1
      have hlw := (Array.getElem?_eq_some_iff.1 hv1).1
      have c1 : w1.cell? ⟨w.heap.size, 0, none⟩ = some (.slice av pre.length capv) := (cell_of_box_l ((hb1.block _ hlw).trans hv1)).1
      unfold Ent.vals
      refine wpAny_ready (rs := [0, 4]) (by kernel_rfl) (by simp) ?_
      refine AllReady.cons rfl (fun K hK => ?_) (AllReady.cons rfl (fun K hK => ?_) AllReady.nil)
      · go_simp
        refine hK _ _ ?_
        clear hK K
        refine wpAny_ready (rs := [4]) (by kernel_rfl) (by simp) ?_
        refine AllReady.cons rfl (fun K hK => ?_) AllReady.nil
        go_simp
        refine hK _ _ ?_
        clear hK K
        have hb3 : Below W.heap.size W (w1.alloc (.cells #[.string e.path, .int .i64 e.kind, .int .i64 e.mode, .string e.text] 57)) := hb1.trans ((Below.refl _ w1).alloc hb1.size _)
        have hv3 := ownsRow_kept hv2 (fun g e => hb3.block g (hv2.lt g e).2)
        have hbx3 := (hb3.block _ hlw).trans hv1
        refine wpAny_ready (rs := [5]) (by kernel_rfl) (by simp) ?_
        refine AllReady.cons rfl (fun K hK => ?_) AllReady.nil
        rw [if_pos (by kernel_rfl)]
        refine wp_append_own _ _ _ 32 rfl (w.heap.size + 2) 57 i0 _ 4 48 Tryz.underlying32 hi0 hz0 hzs hzb rfl (by decide) _ pre.length _ rfl hv3 ⟨w1.heap.size, 0, none⟩ 1 1 [.string e.path, .int .i64 e.kind, .int .i64 e.mode, .string e.text] rfl rfl ?_ ?_ ?_ ?_ ?_ ?_
        · exact lit_cells w1 _ _ _ _ _
        · intro u hu; simp at hu; rcases hu with rfl | rfl | rfl | rfl <;> rfl
        · unfold maxLen; omega
        · omega
        · have := below_lt hTI2.1; have := hb3.size; omega
        · intro v' w2 hown hg _
          obtain ⟨a2, cap2, rfl⟩ := ownsRow_slice hown
          refine hK _ _ ?_
          clear hK K
          have FIN := inEnts_step (x := ⟨e, hx⟩) (Array.getElem?_eq_some_iff.1 h1).1 (fun g eg => (h2.lt g eg).2) (fun g eg => (h3.lt g eg).2) hv1 hv2 hTI2 hB hb3 hown hg
          have hbx2 : w2.heap[w.heap.size]? = some (.cells #[.slice av pre.length capv] 32 (0, 0)) := (hg.block _ (by simp; have := hb1.size; omega) (fun eg => by have := (hv2.lt _ eg.symm).1; omega)).trans hbx3
          obtain ⟨k0, k1⟩ := cell_of_box_l hbx2
          have HF := hid FIN
          clear FIN hown hg
          refine wpAny_ready (rs := [6]) (by kernel_rfl) (by simp) ?_
          refine AllReady.cons rfl (fun K hK => ?_) AllReady.nil
          go_simp
          refine hK _ _ ?_
          clear hK K
          refine wpAny_done (by kernel_rfl) ?_ _
          have HFF := unhid HF
          exact HFF
      · go_simp
        refine hK _ _ ?_
        clear hK K
        have c3 : (w1.alloc (.cells #[.string e.path, .int .i64 e.kind, .int .i64 e.mode, .string e.text] 57)).cell? ⟨w.heap.size, 0, none⟩ = some (.slice av pre.length capv) := cell_alloc_l _ c1
        refine wpAny_ready (rs := [0]) (by kernel_rfl) (by simp) ?_
        refine AllReady.cons rfl (fun K hK => ?_) AllReady.nil
        go_simp
        refine hK _ _ ?_
        clear hK K
        have hb3 : Below W.heap.size W (w1.alloc (.cells #[.string e.path, .int .i64 e.kind, .int .i64 e.mode, .string e.text] 57)) := hb1.trans ((Below.refl _ w1).alloc hb1.size _)
        have hv3 := ownsRow_kept hv2 (fun g e => hb3.block g (hv2.lt g e).2)
        have hbx3 := (hb3.block _ hlw).trans hv1
        refine wpAny_ready (rs := [5]) (by kernel_rfl) (by simp) ?_
        refine AllReady.cons rfl (fun K hK => ?_) AllReady.nil
        rw [if_pos (by kernel_rfl)]
        refine wp_append_own _ _ _ 32 rfl (w.heap.size + 2) 57 i0 _ 4 48 Tryz.underlying32 hi0 hz0 hzs hzb rfl (by decide) _ pre.length _ rfl hv3 ⟨w1.heap.size, 0, none⟩ 1 1 [.string e.path, .int .i64 e.kind, .int .i64 e.mode, .string e.text] rfl rfl ?_ ?_ ?_ ?_ ?_ ?_
        · exact lit_cells w1 _ _ _ _ _
        · intro u hu; simp at hu; rcases hu with rfl | rfl | rfl | rfl <;> rfl
        · unfold maxLen; omega
        · omega
        · have := below_lt hTI2.1; have := hb3.size; omega
        · intro v' w2 hown hg _
          obtain ⟨a2, cap2, rfl⟩ := ownsRow_slice hown
          refine hK _ _ ?_
          clear hK K
          have FIN := inEnts_step (x := ⟨e, hx⟩) (Array.getElem?_eq_some_iff.1 h1).1 (fun g eg => (h2.lt g eg).2) (fun g eg => (h3.lt g eg).2) hv1 hv2 hTI2 hB hb3 hown hg
          have hbx2 : w2.heap[w.heap.size]? = some (.cells #[.slice av pre.length capv] 32 (0, 0)) := (hg.block _ (by simp; have := hb1.size; omega) (fun eg => by have := (hv2.lt _ eg.symm).1; omega)).trans hbx3
          obtain ⟨k0, k1⟩ := cell_of_box_l hbx2
          have HF := hid FIN
          clear FIN hown hg
          refine wpAny_ready (rs := [6]) (by kernel_rfl) (by simp) ?_
          refine AllReady.cons rfl (fun K hK => ?_) AllReady.nil
          go_simp
          refine hK _ _ ?_
          clear hK K
          refine wpAny_done (by kernel_rfl) ?_ _
          have HFF := unhid HF
          exact HFF
  case done =>
    rintro D ys W hD hys ⟨⟨⟨v, hv1, hv2⟩, hTI2⟩, hB⟩ hK
    have c0 := (cell_of_box_l hv1).1
    gi_wp2
    refine ⟨by simp, .inl ⟨_, _, rfl, run_takeDeferred hK, ?_⟩⟩
    have hg := grownBy_putObj' W D (.deferred none)
    have hr : ∀ r, some D = some r → ∃ o : Obj, W.heap[r]? = some o ∧ o.isCells = false := fun r e => by cases e; exact ⟨_, hK, rfl⟩
    have hyl : ys.length = es.length := by rw [← hys, List.length_map]
    rw [hys, hyl] at hv2
    refine ⟨v, ?_, v, rfl, ownsRow_base (row_grown hg hr hv2) (by omega), hB.trans (belowK_b (w := w) (Nat.le_refl _) _ D _ _ (by simp at hD; omega) hK rfl rfl)⟩
    simp [results, Tryz.f104, go_sem]
end Go.Proofs.YtoihhlkidlapmaaGreat

/- What the laws write over a text to see whose it is. -/
namespace Go.Proofs.YtoihhlkidlapmaaGreat
open Go.RowKit Go.Shelf

/-- The figures of a number, ahead of others. -/
def mdig : Nat → Nat → List UInt8 → List UInt8
  | 0, _, acc => acc
  | f + 1, k, acc => if k = 0 then acc else mdig f (k / 10) (UInt8.ofNat (48 + k % 10) :: acc)
def mtext (k : Nat) : ByteArray := ⟨(109 :: mdig 20 k []).toArray⟩



end Go.Proofs.YtoihhlkidlapmaaGreat

/- What the laws write over a row to see whose it is. -/
namespace Go.Proofs.YtoihhlkidlapmaaGreat
open Go.RowKit Go.Shelf

/-- A block whose first cells are n entries. -/
def RowE (W : World) (g n : Nat) (f : Nat → Ent) : Prop := ∃ cur : Array Value, W.heap[g]? = some (.cells cur 57 (0, 0)) ∧ n * 4 ≤ cur.size ∧ ∀ i, i < n → cur[i * 4]? = some (.string (f i).path) ∧ cur[i * 4 + 1]? = some (.int .i64 (f i).kind) ∧ cur[i * 4 + 2]? = some (.int .i64 (f i).mode) ∧ cur[i * 4 + 3]? = some (.string (f i).text)
theorem RowE.lt {W : World} {g n : Nat} {f : Nat → Ent} (x : RowE W g n f) : g < W.heap.size := by
  obtain ⟨cur, h1, _⟩ := x; exact (Array.getElem?_eq_some_iff.1 h1).1
theorem RowE.block {W W' : World} {g n : Nat} {f : Nat → Ent} (x : RowE W g n f) (e : W'.heap[g]? = W.heap[g]?) : RowE W' g n f := by
  obtain ⟨cur, h1, h2, h3⟩ := x; exact ⟨cur, e.trans h1, h2, h3⟩
theorem RowE.below {W W' : World} {B g n : Nat} {f : Nat → Ent} (x : RowE W g n f) (hb : Below B W W') (hg : g < B) : RowE W' g n f := x.block (hb.block g hg)
theorem RowE.congr {W : World} {g n : Nat} {f f' : Nat → Ent} (x : RowE W g n f) (e : ∀ j, j < n → f j = f' j) : RowE W g n f' := by
  obtain ⟨cur, h1, h2, h3⟩ := x; exact ⟨cur, h1, h2, fun j hj => by rw [← e j hj]; exact h3 j hj⟩
theorem RowE.cells {W : World} {g n : Nat} {f : Nat → Ent} (x : RowE W g n f) (k : Nat) (hk : k < n) : EntAt W g (k * 4) (f k) ∧ (W.frozen? ⟨g, k * 4, .none⟩ = false ∧ W.frozen? ⟨g, k * 4 + 1, .none⟩ = false ∧ W.frozen? ⟨g, k * 4 + 2, .none⟩ = false ∧ W.frozen? ⟨g, k * 4 + 3, .none⟩ = false) := by
  obtain ⟨cur, h1, h2, h3⟩ := x
  obtain ⟨a, b, c, d⟩ := h3 k hk
  exact ⟨⟨by simp [World.cell?, h1, a], by simp [World.cell?, h1, b], by simp [World.cell?, h1, c], by simp [World.cell?, h1, d]⟩, by simp [World.frozen?, h1], by simp [World.frozen?, h1], by simp [World.frozen?, h1], by simp [World.frozen?, h1]⟩

/-- The entry that the laws write at a place. -/
def markE (q i : Nat) : Ent := ⟨mtext (q + i * 4), ((q + i * 4 + 1 : Nat) : Int), ((q + i * 4 + 2 : Nat) : Int), mtext (q + i * 4 + 3)⟩

end Go.Proofs.YtoihhlkidlapmaaGreat

/- Rows of entries between two bounds; what is written over them is there, and nothing else changes. -/
namespace Go.Proofs.YtoihhlkidlapmaaGreat
open Go.RowKit Go.Shelf

/-- Entries in a row of their own, whose block is from N on, ahead of M. -/
def RowIn (W : World) (a : Option Addr) (N M : Nat) (es : List Ent) : Prop := es = [] ∨ ∃ g, a = some ⟨g, 0, .none⟩ ∧ N ≤ g ∧ g < M ∧ RowE W g es.length (entFn es)
theorem RowIn.at {W : World} {a : Option Addr} {N M : Nat} {es : List Ent} (h : RowIn W a N M es) : EntsAt W a es := by
  rcases h with h | ⟨g, rfl, _, _, hR⟩
  · exact .inl h
  · refine .inr ⟨g, 0, rfl, hR.lt, fun i e hi => ?_⟩
    have := (hR.cells i (List.getElem?_eq_some_iff.1 hi).1).1
    rw [entFn_get hi] at this
    rwa [Nat.zero_add]
/-- Nothing changes but blocks from N on, ahead of M. -/
structure Spares (N M : Nat) (w w' : World) : Prop where
  os : w'.os = w.os
  tape : w'.tape = w.tape
  output : w'.output = w.output
  size : w.heap.size ≤ w'.heap.size
  block : ∀ k, k < w.heap.size → (k < N ∨ M ≤ k) → w'.heap[k]? = w.heap[k]?
theorem Spares.row {w w' : World} {N M N2 M2 : Nat} {a : Option Addr} {es : List Ent} (h : Spares N M w w') (x : RowIn w a N2 M2 es) (hd : M2 ≤ N ∨ M ≤ N2) : RowIn w' a N2 M2 es := by
  rcases x with x | ⟨g, rfl, h1, h2, hR⟩
  · exact .inl x
  · exact .inr ⟨g, rfl, h1, h2, hR.block (h.block g hR.lt (by omega))⟩
theorem Spares.below {w0 w w' : World} {N M : Nat} (h : Spares N M w w') (hb : Below w0.heap.size w0 w) (hN : w0.heap.size ≤ N) : Below w0.heap.size w0 w' :=
  ⟨h.os.trans hb.os, h.tape.trans hb.tape, h.output.trans hb.output, Nat.le_trans hb.size h.size, fun k hk => (h.block k (Nat.lt_of_lt_of_le hk hb.size) (by omega)).trans (hb.block k hk)⟩
theorem RowIn.below {w w' : World} {N M : Nat} {a : Option Addr} {es : List Ent} (x : RowIn w a N M es) (h : Below w.heap.size w w') : RowIn w' a N M es := by
  rcases x with x | ⟨g, rfl, h1, h2, hR⟩
  · exact .inl x
  · exact .inr ⟨g, rfl, h1, h2, hR.block (h.block g hR.lt)⟩
theorem RowIn.wide {w : World} {N M N2 M2 : Nat} {a : Option Addr} {es : List Ent} (x : RowIn w a N M es) (hN : N2 ≤ N) (hM : M ≤ M2) : RowIn w a N2 M2 es := by
  rcases x with x | ⟨g, rfl, h1, h2, hR⟩
  · exact .inl x
  · exact .inr ⟨g, rfl, by omega, by omega, hR⟩
def marks (q n : Nat) : List Ent := (List.range n).map (markE q)


end Go.Proofs.YtoihhlkidlapmaaGreat

/- A row of entries copied, by the model. -/
namespace Go.Proofs.YtoihhlkidlapmaaGreat
open Go.RowKit Go.Shelf

theorem valsOf_len (es : List Ent) : (valsOf es).length = es.length * 4 := by
  induction es with
  | nil => rfl
  | cons e es ih => simp only [valsOf, List.flatMap_cons, List.length_append, List.length_cons] at *; rw [ih]; simp [Ent.vals]; omega
theorem valsOf_get : ∀ (es : List Ent) (i r : Nat), r < 4 → (valsOf es)[i * 4 + r]? = (es[i]?).bind fun e => e.vals.toList[r]?
  | [], i, r, h => by simp [valsOf]
  | e :: es, 0, r, h => by
    show (e.vals.toList ++ valsOf es)[0 * 4 + r]? = _
    rw [Nat.zero_mul, Nat.zero_add, List.getElem?_append_left (by simp [Ent.vals]; omega)]
    rfl
  | e :: es, i + 1, r, h => by
    show (e.vals.toList ++ valsOf es)[(i + 1) * 4 + r]? = _
    rw [List.getElem?_append_right (by simp [Ent.vals]; omega)]
    have : (i + 1) * 4 + r - e.vals.toList.length = i * 4 + r := by simp [Ent.vals]; omega
    rw [this, valsOf_get es i r h, List.getElem?_cons_succ]
theorem valsOf_one (es : List Ent) : ∀ u ∈ valsOf es, u.oneCell' = true := by
  intro u hu
  simp only [valsOf, List.mem_flatMap] at hu
  obtain ⟨e, _, hu⟩ := hu
  simp [Ent.vals] at hu
  rcases hu with rfl | rfl | rfl | rfl <;> rfl
theorem add_plain4 (b o n : Nat) : (⟨b, o, none⟩ : Addr).add n = ⟨b, o + n, none⟩ := by simp [Addr.add]
theorem ents_cells {W : World} {b o : Nat} {es : List Ent} (h : ∀ (i : Nat) e, es[i]? = some e → EntAt W b (o + i * 4) e) : ∀ j u, (valsOf es)[j]? = some u → W.cell? ((⟨b, o, none⟩ : Addr).add j) = some u := by
  intro j u hj
  have e1 : j = j / 4 * 4 + j % 4 := by omega
  rw [e1, valsOf_get es _ _ (Nat.mod_lt _ (by omega))] at hj
  cases he : es[j / 4]? with
  | none => rw [he] at hj; cases hj
  | some e =>
    rw [he] at hj
    obtain ⟨c0, c1, c2, c3⟩ := h _ e he
    rw [add_plain4]
    have hr : j % 4 < 4 := Nat.mod_lt _ (by omega)
    have e2 : o + j = o + j / 4 * 4 + j % 4 := by omega
    rw [e2]
    have hb : e.vals.toList[j % 4]? = some u := hj
    generalize j % 4 = r at hr hb
    match r, hr with
    | 0, _ => simp [Ent.vals] at hb; rw [← hb]; exact c0
    | 1, _ => simp [Ent.vals] at hb; rw [← hb]; exact c1
    | 2, _ => simp [Ent.vals] at hb; rw [← hb]; exact c2
    | 3, _ => simp [Ent.vals] at hb; rw [← hb]; exact c3
/-- A row that is owned holds its entries. -/
theorem rowIn_of_owns {W : World} {N : Nat} {v : Value} {es : List Ent} (h : W.ownsRow N 57 4 v es.length (valsOf es)) : ∃ a cap, v = .slice a es.length cap ∧ RowIn W a N W.heap.size es := by
  rcases h.2 with ⟨rfl, h0⟩ | ⟨g, cap, cur, rfl, hN, hg, hc, _, hsz, hcells⟩
  · exact ⟨none, 0, by rw [h0], .inl (List.length_eq_zero_iff.1 h0)⟩
  · refine ⟨_, cap, rfl, .inr ⟨g, rfl, hN, (Array.getElem?_eq_some_iff.1 hg).1, cur, hg, by omega, fun i hi => ?_⟩⟩
    have he : es[i]? = some es[i] := List.getElem?_eq_getElem hi
    rw [entFn_get he]
    have hget : ∀ r, r < 4 → cur[i * 4 + r]? = es[i].vals.toList[r]? := fun r hr => by
      have h1 := valsOf_get es i r hr
      rw [he, ← hcells, List.getElem?_take_of_lt (by omega), Array.getElem?_toList] at h1
      exact h1
    exact ⟨hget 0 (by omega), hget 1 (by omega), hget 2 (by omega), hget 3 (by omega)⟩
theorem ents_take {W : World} {b o k : Nat} {es : List Ent} (h : ∀ (i : Nat) e, es[i]? = some e → EntAt W b (o + i * 4) e) : ∀ (i : Nat) e, (es.take k)[i]? = some e → EntAt W b (o + i * 4) e := fun i e hi => h i e (by
  rw [List.getElem?_take] at hi
  split at hi
  · exact hi
  · cases hi)
theorem ents_drop {W : World} {b o k : Nat} {es : List Ent} (h : ∀ (i : Nat) e, es[i]? = some e → EntAt W b (o + i * 4) e) : ∀ (i : Nat) e, (es.drop k)[i]? = some e → EntAt W b (o + k * 4 + i * 4) e := fun i e hi => by
  have := h (k + i) e (by rw [List.getElem?_drop] at hi; exact hi)
  rwa [Nat.add_mul, ← Nat.add_assoc] at this
theorem owns_empty (w : World) (N : Nat) (hN : N ≤ w.heap.size) (T : TypeId) : (w.alloc (.cells #[] T)).ownsRow N T 4 (.slice (some ⟨w.heap.size, 0, none⟩) 0 0) 0 [] :=
  ⟨rfl, .inr ⟨w.heap.size, 0, #[], rfl, hN, World.alloc_heap_new _ _, Nat.le_refl _, Nat.zero_le _, rfl, rfl⟩⟩
theorem entAt_below {W W' : World} {b o : Nat} {es : List Ent} (h : ∀ (i : Nat) e, es[i]? = some e → EntAt W b (o + i * 4) e) (hb : es = [] ∨ b < W.heap.size) (hB : Below W.heap.size W W') : ∀ (i : Nat) e, es[i]? = some e → EntAt W' b (o + i * 4) e := fun i e hi => by
  rcases hb with rfl | hb
  · simp at hi
  · exact (h i e hi).below hB hb

set_option maxRecDepth 100000 in
set_option maxHeartbeats 1000000 in
theorem l2Copy_some (es : List Ent) (b o cap : Nat) (w : World) (hn : es.length ≤ 1048576) (h : ∀ (i : Nat) e, es[i]? = some e → EntAt w b (o + i * 4) e) (hb : es = [] ∨ b < w.heap.size) :
    Calls Tryz.prog 160 #[.slice (some ⟨b, o, none⟩) es.length cap] w fun x w' => ∃ g c, x = .returned (.slice (some ⟨g, 0, none⟩) es.length c) ∧ w'.ownsRow w.heap.size 57 4 (.slice (some ⟨g, 0, none⟩) es.length c) es.length (valsOf es) ∧ Below w.heap.size w w' := by
  obtain ⟨i0, hi0, hz0, hzs, hzb⟩ := info_parts infoEntry
  go_enter Tryz.func160, Tryz.ntmps160
  have hB1 : Below w.heap.size w (w.alloc (.cells #[] 57)) := (Below.refl _ w).alloc (Nat.le_refl _) _
  have hcs := ents_cells (entAt_below h hb hB1)
  have HV := hid (And.intro (valsOf_len es) (And.intro hcs (valsOf_one es)))
  have HB := hid hB1
  clear h hcs hB1
  go_wp2_with (at_builtin; refine wpList_append_own _ rfl _ _ 32 rfl w.heap.size 57 i0 _ 4 48 Tryz.underlying32 hi0 hz0 hzs hzb rfl (by decide) _ 0 [] rfl (owns_empty w _ (Nat.le_refl _) _) ⟨b, o, none⟩ es.length cap (valsOf es) rfl (unhid HV).1 (unhid HV).2.1 (unhid HV).2.2 ?c3 ?c4 ?c5 ?_)
  case c3 => unfold maxLen; omega
  case c4 => omega
  case c5 => simp
  intro v' w2 hown hg hnil
  obtain ⟨g2, cap2, rfl⟩ : ∃ g2 cap2, v' = .slice (some ⟨g2, 0, none⟩) es.length cap2 := by
    rcases hown.2 with ⟨hv, _⟩ | ⟨g, cap, cur, hv, _⟩
    · exact absurd hv hnil
    · exact ⟨g, cap, hv⟩
  have HF := hid (And.intro hown ((unhid HB).grown hg (unhid HB).size (fun k e => by cases e; exact Nat.le_refl _)))
  clear hown hg HV HB
  go_wp2_with fail
  go_ret
  exact ⟨g2, cap2, rfl, unhid HF⟩
end Go.Proofs.YtoihhlkidlapmaaGreat
