/- The tree that entries are, by the program. -/
import Derived.Test.YtlnehebihfeegaaTreeAgain
import Derived.StillTailTactics
namespace Go.Proofs.Ytlnehebihfeegaa
open Go.RowKit Go.Shelf

/-- What a tree's two rows hold. -/
def RowsAt (W : World) (N : Nat) (vp vn : Value) (es : List Ent) : Prop := W.ownsRow N 9 1 vp es.length (es.map fun e => .string e.path) ∧ W.ownsRow N 63 1 vn es.length (es.map nodeV)
def keptE (es : List Ent) : List Ent := if treeB es then es else []
theorem keptE_no {es : List Ent} (h : treeB es = false) : keptE es = [] := by unfold keptE; rw [h]; rfl
theorem keptE_yes {es : List Ent} (h : treeB es = true) : keptE es = es := by unfold keptE; rw [h]; rfl
theorem rowsAt_nil (W : World) (N : Nat) : RowsAt W N (.slice .none 0 0) (.slice .none 0 0) [] := ⟨World.ownsRow_nil _ _ _ _, World.ownsRow_nil _ _ _ _⟩
theorem okI_16 {es : List Ent} {k : Nat} (hk : k ≤ es.length) (h : (List.range k).all (okI es) = true) : k ≤ 16 := by
  rw [List.all_eq_true] at h
  rcases Nat.lt_or_ge 16 k with hlt | hge
  · have := h 16 (List.mem_range.2 hlt)
    unfold okI putB at this
    have hl : (es.take 16).length = 16 := by rw [List.length_take]; omega
    rw [hl] at this
    simp at this
  · exact hge
theorem apart_of {cs : Array Value} {t : TypeId} {f : Nat × Nat} (h : t ≠ 9 ∧ t ≠ 63) : Apart (.cells cs t f) := fun _ _ _ e => by cases e; exact h

/-- The worlds in the midst of one entry's test: the tree is as it was, or with the entry. -/
def InTest (w : World) (es : List Ent) (k B : Nat) (e : Ent) (w' : World) : Prop :=
  (Below w.heap.size w w' ∧ w'.heap[w.heap.size]? = some (.cells #[.slice .none 0 0, .slice .none 0 0] 59 (0, 0)) ∧ w'.heap[B]? = some (.cells #[.string e.path, .int .i64 e.kind, .int .i64 e.mode, .string e.text] 27 (0, 0))) ∧
    (TreeAt w' w.heap.size (w.heap.size + 1) (es.take k) ∨ (okI es k = true ∧ TreeAt w' w.heap.size (w.heap.size + 1) (es.take (k + 1))))
theorem inTest_put {w : World} {es : List Ent} {k B : Nat} {e : Ent} (hB : w.heap.size + 1 < B) (hlt : k < es.length) (he : es[k]? = some e) (hall : (List.range k).all (okI es) = true) (zp : e.path.size ≤ maxLen) (zt : e.text.size ≤ maxLen) (hor : k = 0 ∨ ltS (entFn es (k - 1)).path e.path = true) (W : World) (h : InTest w es k B e W) :
    Calls Try.prog 46 #[.pointer (some ⟨w.heap.size + 1, 0, .none⟩), .agg #[.string e.path, .int .i64 e.kind, .int .i64 e.mode, .string e.text]] W fun x w' => x = .returned (.bool (okI es k)) ∧ InTest w es k B e w' := by
  have hf := entFn_get he
  have hk16 := okI_16 (Nat.le_of_lt hlt) hall
  have hlk : (es.take k).length = k := by rw [List.length_take]; omega
  have hok : okI es k = putB (es.take k) e := by
    unfold okI; rw [hf]
    rcases hor with h0 | h0
    · rw [h0]; rfl
    · rw [h0]; simp
  have hor' : k = 0 ∨ ltS (entFn es (k - 1)).path (entFn es k).path = true := by rw [hf]; exact hor
  obtain ⟨⟨b1, b2, b3⟩, hT⟩ := h
  rcases hT with hT | ⟨hyes, hT⟩
  · have hpe := place_end hlt hall hor'
    rw [hf] at hpe
    refine (putEntry_end w.heap.size (w.heap.size + 1) (es.take k) e W zp zt (by omega) (asc_take (Nat.le_of_lt hlt) hall) (by omega) hpe hT).mono ?_
    rintro x w2 ⟨rfl, hT2, hK2⟩
    refine ⟨by rw [hok], ⟨b1.trans hK2.1, hK2.2 _ _ (by omega) b2 (apart_of (by decide)), hK2.2 _ _ (by omega) b3 (apart_of (by decide))⟩, ?_⟩
    cases hp : putB (es.take k) e
    · rw [nextE_no hp] at hT2; exact .inl hT2
    · rw [nextE_yes hp] at hT2
      exact .inr ⟨by rw [hok, hp], by rw [List.take_add_one, he]; exact hT2⟩
  · have hall1 : (List.range (k + 1)).all (okI es) = true := all_range_snoc hall hyes
    have hput : putB (es.take k) e = true := by rw [← hok]; exact hyes
    unfold putB at hput
    simp only [Bool.and_eq_true] at hput
    have hl1 : (es.take (k + 1)).length = k + 1 := by rw [List.length_take]; omega
    have ha := asc_take (k := k + 1) (by omega) hall1
    rw [List.all_eq_true] at hall1
    have hs : ∀ i, i < k + 1 → i = 0 ∨ ltS (entFn es (i - 1)).path (entFn es i).path = true := fun i hi => by
      have := hall1 i (List.mem_range.2 hi); unfold okI at this; simp only [Bool.and_eq_true, Bool.or_eq_true, beq_iff_eq] at this; exact this.1
    have hasc := asc_of (es := es) (n := k + 1) (by omega) hs
    have hfn : ∀ i, i < k + 1 → entFn (es.take (k + 1)) i = entFn es i := fun i hi => entFn_get (by rw [List.getElem?_take_of_lt hi]; exact ent_get (by omega))
    have hd : dirE (es.take (k + 1)) (pathUpS e.path) = true := by
      rw [dir_take (es := es.take (k + 1)) (i := k) (by omega) (fun a b hab hb => by rw [hfn a (by omega), hfn b (by omega)]; exact hasc a b hab (by omega)) (fun hq => by rw [hfn k (by omega), hf, ent_path hput.1] at *; exact up_less hq)]
      rw [List.take_take, Nat.min_eq_left (Nat.le_succ k)]
      exact hput.2.1
    have hpl : placeE (es.take (k + 1)) e.path = k := place_at (by omega) (by omega) (by rw [hf]) (fun i hi => by rw [← hf]; exact hasc i k hi (by omega))
    refine (putEntry_again w.heap.size (w.heap.size + 1) (es.take (k + 1)) e W zp zt (by omega) ha hput.1 hd (by rw [hpl, List.getElem?_take_of_lt (by omega)]; exact he) hT).mono ?_
    rintro x w2 ⟨rfl, hB2⟩
    have hlt2 := hT.lt
    have hBl : B < W.heap.size := (Array.getElem?_eq_some_iff.1 b3).1
    exact ⟨by rw [hyes], ⟨b1.trans (hB2.mono (by omega)), (hB2.block _ (by omega)).trans b2, (hB2.block _ hBl).trans b3⟩, .inr ⟨hyes, hT.below hB2⟩⟩

theorem le_not_less (x y : List UInt8) : (Op.bytesLess x y || x == y) = !Op.bytesLess y x := by
  cases h1 : Op.bytesLess x y
  · cases h2 : Op.bytesLess y x
    · rw [lt_tot x y h1 h2]; simp
    · have : x ≠ y := fun e => by subst e; rw [lt_irr] at h2; cases h2
      simp [this]
  · cases h2 : Op.bytesLess y x
    · simp
    · have := lt_tra x y x h1 h2
      rw [lt_irr] at this; cases this
theorem ownsRow_slice {W : World} {N n size : Nat} {v : Value} {e : TypeId} {xs : List Value} (h : W.ownsRow N e size v n xs) : ∃ a cap, v = .slice a n cap := by
  rcases h.2 with ⟨rfl, rfl⟩ | ⟨g, cap, cur, rfl, _⟩
  · exact ⟨_, _, rfl⟩
  · exact ⟨_, _, rfl⟩
/-- What a round keeps. -/
def InRow (w : World) (w' : World) (xs : List Ent) : Prop := Below w.heap.size w w' ∧ w'.heap[w.heap.size]? = some (.cells #[.slice .none 0 0, .slice .none 0 0] 59 (0, 0)) ∧ TreeAt w' w.heap.size (w.heap.size + 1) xs
def nextK (es : List Ent) (k : Nat) : Nat := if okI es k then k + 1 else k
theorem nextK_yes {es : List Ent} {k : Nat} (h : okI es k = true) : nextK es k = k + 1 := by unfold nextK; rw [h]; rfl
theorem inRow_put {w : World} {es : List Ent} {k : Nat} {e : Ent} (hlt : k < es.length) (he : es[k]? = some e) (hall : (List.range k).all (okI es) = true) (zp : e.path.size ≤ maxLen) (zt : e.text.size ≤ maxLen) (hor : k = 0 ∨ ltS (entFn es (k - 1)).path e.path = true) (W : World) (h : InRow w W (es.take k)) :
    Calls Try.prog 46 #[.pointer (some ⟨w.heap.size + 1, 0, .none⟩), .agg #[.string e.path, .int .i64 e.kind, .int .i64 e.mode, .string e.text]] W fun x w' => x = .returned (.bool (okI es k)) ∧ Hid (InRow w w' (es.take (nextK es k))) := by
  have hf := entFn_get he
  have hk16 := okI_16 (Nat.le_of_lt hlt) hall
  have hlk : (es.take k).length = k := by rw [List.length_take]; omega
  have hok : okI es k = putB (es.take k) e := by
    unfold okI; rw [hf]
    rcases hor with h0 | h0
    · rw [h0]; rfl
    · rw [h0]; simp
  have hor' : k = 0 ∨ ltS (entFn es (k - 1)).path (entFn es k).path = true := by rw [hf]; exact hor
  obtain ⟨b1, b2, hT⟩ := h
  have hpe := place_end hlt hall hor'
  rw [hf] at hpe
  refine (putEntry_end w.heap.size (w.heap.size + 1) (es.take k) e W zp zt (by omega) (asc_take (Nat.le_of_lt hlt) hall) (by omega) hpe hT).mono ?_
  rintro x w2 ⟨rfl, hT2, hK2⟩
  refine ⟨by rw [hok], hid ⟨b1.trans hK2.1, hK2.2 _ _ (by omega) b2 (apart_of (by decide)), ?_⟩⟩
  unfold nextK
  rw [hok]
  cases hp : putB (es.take k) e
  · rw [nextE_no hp] at hT2; exact hT2
  · rw [nextE_yes hp] at hT2
    show TreeAt w2 w.heap.size (w.heap.size + 1) (es.take (k + 1))
    rw [List.take_add_one, he]; exact hT2

theorem still_of_quiet {P : Program} {o : Oper} {a : Act} {wq : World} {K : Act → Prop} (h : o.quiet P a (fun w' => ∃ x : CW (fun w' => w' = wq), w' = x.w) K) : o.still P a wq K := by
  obtain ⟨v, h1, h2⟩ := h
  have h3 := h1 wq ⟨⟨wq, rfl⟩, rfl⟩
  unfold Oper.quietAt at h3
  unfold Oper.still
  generalize (execOp a.eval o).run P wq = r at h3
  unfold Oper.quietUpon at h3
  unfold Oper.stillUpon
  split at h3
  · exact ⟨h3.1, by rw [h3.2]; exact h2⟩
  · exact ⟨h3.1, by rw [← h3.2]; exact h2⟩
  · refine ⟨h3.1, v, h3.2.mono ?_, h2⟩
    rintro e w2 ⟨he, x, hx⟩
    exact ⟨he, hx.trans x.h⟩
  · exact absurd h3 (by simp)
theorem stills_of_quiet {P : Program} {ops : Array Oper} {wq : World} {Q : Act → Prop} : ∀ (l : List Oper) (a : Act), wpQuiet P ops (fun w' => ∃ x : CW (fun w' => w' = wq), w' = x.w) Q l a → wpStill P ops wq Q l a
  | [], _, h => h
  | o :: rest, a, h => by
    unfold wpQuiet at h
    unfold wpStill
    split at h
    · rename_i hw
      rw [if_pos hw]
      exact Oper.still_mono (fun a' h' => stills_of_quiet rest a' h') (still_of_quiet h)
    · rename_i hw
      rw [if_neg hw]
      exact stills_of_quiet rest _ h
theorem still_tail_at {P : Program} {id : Nat} {Q : Exit → Act → World → Prop} {a : Act} {w : World} {l : List Oper} (n : Nat) (wq : World) (hq : wq = w.drew) (hm : P.follows .mixedOrders = true) (hB : Region.lexTailB .any l.toArray n = true)
    (h : wpQuiet P l.toArray (fun w' => ∃ x : CW (fun w' => w' = wq), w' = x.w) (fun a' => wpList P l.toArray Q (l.drop n) a' wq) (l.take n) a) : (Code.region id l.toArray true).wp P Q a w := by
  subst hq; exact wp_region_still_tail n hm hB (stills_of_quiet _ _ h)

set_option maxRecDepth 100000 in
set_option maxHeartbeats 8000000 in
theorem treeOf_any (es : List Ent) (a : Option Addr) (cap : Nat) (w : World) (hs : smallE es) (h : EntsAt w a es) :
    Calls Try.prog 41 #[.slice a es.length cap] w fun x w' => ∃ vp vn, x = .returned (.tuple #[.agg #[vp, vn], .bool (treeB es)]) ∧ RowsAt w' w.heap.size vp vn (keptE es) ∧ Below w.heap.size w w' := by
  obtain ⟨hlen, hz⟩ := hs
  have HH := hid h
  have HZ := hid hz
  have ET := hid (treeB_eq es)
  clear h hz
  have hst : ∃ W0, W0 = (w.alloc (.cells #[.slice .none 0 0, .slice .none 0 0] 59)).alloc (.cells #[.slice .none 0 0, .slice .none 0 0] 59) := ⟨_, rfl⟩
  obtain ⟨W0, hW0⟩ := hst
  have hb0 : Below w.heap.size w W0 := by rw [hW0]; exact ((Below.refl _ w).alloc (Nat.le_refl _) _).alloc (by simp) _
  have hr0 : W0.heap[w.heap.size]? = some (.cells #[.slice .none 0 0, .slice .none 0 0] 59 (0, 0)) := by rw [hW0, Below.heap_alloc _ _ _ (by simp)]; exact World.alloc_heap_new _ _
  have ht0 : TreeAt W0 w.heap.size (w.heap.size + 1) [] := ⟨.slice .none 0 0, .slice .none 0 0, by rw [hW0]; have := World.alloc_heap_new (w.alloc (.cells #[.slice .none 0 0, .slice .none 0 0] 59)) (.cells #[.slice .none 0 0, .slice .none 0 0] 59); rwa [World.size_alloc] at this, World.ownsRow_nil _ _ _ _, World.ownsRow_nil _ _ _ _⟩
  have H00 := hid (And.intro hb0 (And.intro hr0 ht0))
  have HW0 := hid hW0
  clear hb0 hr0 ht0 hW0
  go_enter Try.func41, Try.ntmps41
  go_wp2_with fail
  rw [← unhid HW0]
  go_loopw [5, 6, 10] (fun _ _ i wr => ∃ k : Nat, k ≤ es.length ∧ i = .int .i64 k ∧ Hid ((List.range k).all (okI es) = true) ∧ Hid (Below w.heap.size w wr ∧ wr.heap[w.heap.size]? = some (.cells #[.slice .none 0 0, .slice .none 0 0] 59 (0, 0)) ∧ TreeAt wr w.heap.size (w.heap.size + 1) (es.take k))) (fun _ _ i _ => es.length - (intOf i).toNat)
  case atStart => exact ⟨0, Nat.zero_le _, rfl, hid rfl, H00⟩
  case round =>
    clear H00 HW0
    obtain ⟨k, hk, rfl, hall, HST⟩ := hrel
    by_cases hlt : k < es.length
    · obtain ⟨e, he⟩ : ∃ e, es[k]? = some e := ⟨es[k], List.getElem?_eq_getElem hlt⟩
      obtain ⟨b, o, rfl, hbl, hc⟩ := (unhid HH).get (by intro e; subst e; simp at hlt)
      obtain ⟨hB, hr, hT⟩ := unhid HST
      obtain ⟨c0, c1, c2, c3⟩ := (hc k e he).below hB hbl
      obtain ⟨z1, z2⟩ := unhid HZ e (List.mem_of_getElem? he)
      have hf := entFn_get he
      have zp : e.path.size ≤ maxLen := by unfold maxLen; omega
      have zt : e.text.size ≤ maxLen := by unfold maxLen; omega
      have hk16 := okI_16 hk (unhid hall)
      have hlk : (es.take k).length = k := by rw [List.length_take]; omega
      have hNl : w.heap.size + 1 < wr.heap.size := hT.lt
      have hC0 : InTest w es k wr.heap.size e (wr.alloc (.cells #[.string e.path, .int .i64 e.kind, .int .i64 e.mode, .string e.text] 27)).drew := by
        refine ⟨⟨(hB.alloc hB.size _).drew, ?_, ?_⟩, .inl (hT.below (((Below.refl _ _).alloc (Nat.le_refl _) _).drew))⟩
        · show (wr.alloc _).heap[_]? = _
          rw [Below.heap_alloc _ _ _ (by omega)]; exact hr
        · exact World.alloc_heap_new wr _
      have HC0 := hid hC0
      have he' := he
      obtain ⟨wq, hq⟩ : ∃ wq, wq = (wr.alloc (.cells #[.string e.path, .int .i64 e.kind, .int .i64 e.mode, .string e.text] 27)).drew := ⟨_, rfl⟩
      have HQ : Hid (InRow w wq (es.take k)) := by
        have hC1 := hC0
        rw [← hq] at hC1
        refine hid ⟨hC1.1.1, hC1.1.2.1, ?_⟩
        rw [hq]; exact hT.below (((Below.refl _ _).alloc (Nat.le_refl _) _).drew)
      have hwb : wq.heap[wr.heap.size]? = some (.cells #[.string e.path, .int .i64 e.kind, .int .i64 e.mode, .string e.text] 27 (0, 0)) := by rw [hq]; exact World.alloc_heap_new wr _
      have p0 : wq.cell? ⟨wr.heap.size, 0, .none⟩ = some (.string e.path) := by simp [World.cell?, hwb]
      have p1 : wq.cell? ⟨wr.heap.size, 1, .none⟩ = some (.int .i64 e.kind) := by simp [World.cell?, hwb]
      have p2 : wq.cell? ⟨wr.heap.size, 2, .none⟩ = some (.int .i64 e.mode) := by simp [World.cell?, hwb]
      have p3 : wq.cell? ⟨wr.heap.size, 3, .none⟩ = some (.string e.text) := by simp [World.cell?, hwb]
      have HP := hid (And.intro p0 (And.intro p1 (And.intro p2 p3)))
      have HQE := hid hq
      clear hwb p0 p1 p2 p3 hq
      have hno : okI es k = false → treeB es = false := fun h => by rw [unhid ET]; exact all_range_no hlt h
      have HNO := hid hno
      have tt : ∀ w5, okI es k = true → InTest w es k wr.heap.size e w5 → w5.heap.size = w5.heap.size := fun _ _ _ => rfl
      clear tt
      have hbox : ∀ (x : CW (InTest w es k wr.heap.size e)), x.w.cell? ⟨wr.heap.size, 0, .none⟩ = some (.string e.path) ∧ x.w.cell? ⟨wr.heap.size, 1, .none⟩ = some (.int .i64 e.kind) ∧ x.w.cell? ⟨wr.heap.size, 2, .none⟩ = some (.int .i64 e.mode) ∧ x.w.cell? ⟨wr.heap.size, 3, .none⟩ = some (.string e.text) := fun x => by
        have := x.h.1.2.2
        refine ⟨?_, ?_, ?_, ?_⟩ <;> simp [World.cell?, this]
      have q0 := fun x => (hbox x).1
      have q1 := fun x => (hbox x).2.1
      have q2 := fun x => (hbox x).2.2.1
      have q3 := fun x => (hbox x).2.2.2
      have hNl' : w.heap.size + 1 < wr.heap.size := hNl
      clear hbox
      rcases k with _ | j
      · have PUT := hid (inTest_put hNl hlt he (unhid hall) zp zt (.inl rfl))
        simp only [Nat.zero_mul, Nat.add_zero] at c0 c1 c2 c3
        clear hc he hf HST hT hB hr hC0
        cases hok : okI es 0
        · have E := hid (unhid HNO hok)
          go_wp2_with fail
          have HCx := @CW.all (InTest w es 0 wr.heap.size e) _ (unhid HC0)
          refine class_region (InTest w es 0 wr.heap.size e) (unhid HC0) (by kernel_rfl) (by kernel_rfl) ?_
          repeat (go_big_quiet_step ((go_at_call 46; refine Calls.cw (v := .bool false) ((unhid PUT _ (CW.h _)).mono ?_); rintro r w2 ⟨rfl, hC⟩; exact ⟨by rw [hok], hC⟩)))
          refine wpQuiet_nil ?_
          intro w5 hw
          obtain ⟨x, hx⟩ := hw
          have hC5 : InTest w es 0 wr.heap.size e w5 := by rw [hx]; exact x.h
          clear hx x HCx q0 q1 q2 q3
          obtain ⟨⟨hB5, hr5, -⟩, -⟩ := hC5
          obtain ⟨d0, d1, e0, e1⟩ := two_cells hr5
          have HR6 := hid hB5
          clear hB5 hr5
          go_wp2_with fail
          refine bodyPost_ret (v := .tuple #[.agg #[.slice .none 0 0, .slice .none 0 0], .bool false]) (by simp [results, Try.results41, go_sem, World.cell?_setCell_same', d0, d1]) rfl ⟨_, _, by rw [unhid E], by rw [keptE_no (unhid E)]; exact rowsAt_nil _ _, ((unhid HR6).setCell (Nat.le_refl _) _).setCell (Nat.le_refl _) _⟩
        · have PUT2 := hid (inRow_put (w := w) hlt he' (unhid hall) zp zt (.inl rfl) wq (unhid HQ))
          rw [hok, nextK_yes hok] at PUT2
          have HY := hid hok
          clear PUT q0 q1 q2 q3 HC0 hno HNO he'
          go_wp2_with fail
          refine still_tail_at 15 wq (unhid HQE) (by kernel_rfl) (by kernel_rfl) ?_
          clear HQE
          have HCx := @CW.all (fun w' => w' = wq) wq rfl
          have q0 : ∀ x : CW (fun w' => w' = wq), x.w.cell? ⟨wr.heap.size, 0, .none⟩ = some (.string e.path) := fun x => by rw [x.h]; exact (unhid HP).1
          have q1 : ∀ x : CW (fun w' => w' = wq), x.w.cell? ⟨wr.heap.size, 1, .none⟩ = some (.int .i64 e.kind) := fun x => by rw [x.h]; exact (unhid HP).2.1
          have q2 : ∀ x : CW (fun w' => w' = wq), x.w.cell? ⟨wr.heap.size, 2, .none⟩ = some (.int .i64 e.mode) := fun x => by rw [x.h]; exact (unhid HP).2.2.1
          have q3 : ∀ x : CW (fun w' => w' = wq), x.w.cell? ⟨wr.heap.size, 3, .none⟩ = some (.string e.text) := fun x => by rw [x.h]; exact (unhid HP).2.2.2
          simp only [List.take_succ_cons, List.take_zero, List.drop_succ_cons, List.drop_zero]
          repeat (go_big_quiet_step (fail))
          refine wpQuiet_nil ?_
          clear HCx q0 q1 q2 q3 HP HQ c0 c1 c2 c3 hok
          go_wp2_with (go_at_call 46; refine (unhid PUT2).mono ?_; rintro r w2 ⟨rfl, HR2⟩)
          refine ⟨⟨1, by omega, rfl, hid (all_range_snoc (unhid hall) (unhid HY)), HR2⟩, ?_⟩
          show es.length - 1 < es.length - 0
          omega
      · obtain ⟨pv, hpv⟩ : ∃ pv, es[j]? = some pv := ⟨es[j], List.getElem?_eq_getElem (by omega)⟩
        obtain ⟨g0, -, -, -⟩ := (hc j pv hpv).below hB hbl
        have hpf := entFn_get hpv
        have HG : Hid (wq.cell? ⟨b, o + j * 4, .none⟩ = some (.string pv.path)) := by
          have hbw : b < wr.heap.size := Nat.lt_of_lt_of_le hbl hB.size
          refine hid ?_
          rw [unhid HQE]
          exact (((Below.refl wr.heap.size wr).alloc (Nat.le_refl _) _).drew.cell (p := ⟨b, o + j * 4, .none⟩) hbw).trans g0
        have hj1 : (0 : Int) < ((j + 1 : Nat) : Int) := by omega
        cases hls : ltS pv.path e.path
        · have E : Hid (treeB es = false) := hid (unhid HNO (by unfold okI; rw [hf, show (j + 1 - 1) = j from rfl, hpf, hls]; simp))
          have hbl2 : (Op.bytesLess e.path.toList pv.path.toList || e.path.toList == pv.path.toList) = true := by rw [le_not_less, show Op.bytesLess pv.path.toList e.path.toList = false from hls]; rfl
          clear q0 q1 q2 q3 HC0 hc he hf HST hT hB hr hC0 he' g0 hpf hpv hls hno HNO
          go_wp2_with fail
          refine still_tail_at 15 wq (unhid HQE) (by kernel_rfl) (by kernel_rfl) ?_
          clear HQE
          have HCx := @CW.all (fun w' => w' = wq) wq rfl
          have q0 : ∀ x : CW (fun w' => w' = wq), x.w.cell? ⟨wr.heap.size, 0, .none⟩ = some (.string e.path) := fun x => by rw [x.h]; exact (unhid HP).1
          have q1 : ∀ x : CW (fun w' => w' = wq), x.w.cell? ⟨wr.heap.size, 1, .none⟩ = some (.int .i64 e.kind) := fun x => by rw [x.h]; exact (unhid HP).2.1
          have q2 : ∀ x : CW (fun w' => w' = wq), x.w.cell? ⟨wr.heap.size, 2, .none⟩ = some (.int .i64 e.mode) := fun x => by rw [x.h]; exact (unhid HP).2.2.1
          have q3 : ∀ x : CW (fun w' => w' = wq), x.w.cell? ⟨wr.heap.size, 3, .none⟩ = some (.string e.text) := fun x => by rw [x.h]; exact (unhid HP).2.2.2
          have q4 : ∀ x : CW (fun w' => w' = wq), x.w.cell? ⟨b, o + j * 4, .none⟩ = some (.string pv.path) := fun x => by rw [x.h]; exact unhid HG
          simp only [List.take_succ_cons, List.take_zero, List.drop_succ_cons, List.drop_zero]
          repeat (go_big_quiet_step (fail))
          refine wpQuiet_nil ?_
          clear HCx q0 q1 q2 q3 q4 HP HG c0 c1 c2 c3
          obtain ⟨hB5, hr5, -⟩ := unhid HQ
          obtain ⟨d0, d1, e0, e1⟩ := two_cells hr5
          have HR6 := hid hB5
          clear HQ hB5 hr5
          go_wp2_with fail
          refine bodyPost_ret (v := .tuple #[.agg #[.slice .none 0 0, .slice .none 0 0], .bool false]) (by simp [results, Try.results41, go_sem, World.cell?_setCell_same', d0, d1]) rfl ⟨_, _, by rw [unhid E], by rw [keptE_no (unhid E)]; exact rowsAt_nil _ _, ((unhid HR6).setCell (Nat.le_refl _) _).setCell (Nat.le_refl _) _⟩
        · have PUT2 := hid (inRow_put (w := w) hlt he' (unhid hall) zp zt (.inr (by show ltS (entFn es j).path e.path = true; rw [hpf]; exact hls)) wq (unhid HQ))
          have hbl2 : (Op.bytesLess e.path.toList pv.path.toList || e.path.toList == pv.path.toList) = false := by rw [le_not_less, show Op.bytesLess pv.path.toList e.path.toList = true from hls]; rfl
          clear q0 q1 q2 q3 HC0 hc he hf HST hT hB hr hC0 he' g0 hpf hpv hls
          cases hok : okI es (j + 1)
          · rw [hok] at PUT2
            have E := hid (unhid HNO hok)
            clear hno HNO hok
            go_wp2_with fail
            refine still_tail_at 15 wq (unhid HQE) (by kernel_rfl) (by kernel_rfl) ?_
            clear HQE
            have HCx := @CW.all (fun w' => w' = wq) wq rfl
            have q0 : ∀ x : CW (fun w' => w' = wq), x.w.cell? ⟨wr.heap.size, 0, .none⟩ = some (.string e.path) := fun x => by rw [x.h]; exact (unhid HP).1
            have q1 : ∀ x : CW (fun w' => w' = wq), x.w.cell? ⟨wr.heap.size, 1, .none⟩ = some (.int .i64 e.kind) := fun x => by rw [x.h]; exact (unhid HP).2.1
            have q2 : ∀ x : CW (fun w' => w' = wq), x.w.cell? ⟨wr.heap.size, 2, .none⟩ = some (.int .i64 e.mode) := fun x => by rw [x.h]; exact (unhid HP).2.2.1
            have q3 : ∀ x : CW (fun w' => w' = wq), x.w.cell? ⟨wr.heap.size, 3, .none⟩ = some (.string e.text) := fun x => by rw [x.h]; exact (unhid HP).2.2.2
            have q4 : ∀ x : CW (fun w' => w' = wq), x.w.cell? ⟨b, o + j * 4, .none⟩ = some (.string pv.path) := fun x => by rw [x.h]; exact unhid HG
            simp only [List.take_succ_cons, List.take_zero, List.drop_succ_cons, List.drop_zero]
            repeat (go_big_quiet_step (fail))
            refine wpQuiet_nil ?_
            clear HCx q0 q1 q2 q3 q4 HP HQ HG c0 c1 c2 c3
            go_wp2_with (go_at_call 46; refine (unhid PUT2).mono ?_; rintro r w2 ⟨rfl, HR2⟩; obtain ⟨hB5, hr5, -⟩ := unhid HR2; obtain ⟨d0, d1, e0, e1⟩ := two_cells hr5; have HR6 := hid hB5; clear HR2 hB5 hr5)
            refine bodyPost_ret (v := .tuple #[.agg #[.slice .none 0 0, .slice .none 0 0], .bool false]) (by simp [results, Try.results41, go_sem, World.cell?_setCell_same', d0, d1]) rfl ⟨_, _, by rw [unhid E], by rw [keptE_no (unhid E)]; exact rowsAt_nil _ _, ((unhid HR6).setCell (Nat.le_refl _) _).setCell (Nat.le_refl _) _⟩
          · rw [hok, nextK_yes hok] at PUT2
            have HY := hid hok
            clear hno HNO hok
            go_wp2_with fail
            refine still_tail_at 15 wq (unhid HQE) (by kernel_rfl) (by kernel_rfl) ?_
            clear HQE
            have HCx := @CW.all (fun w' => w' = wq) wq rfl
            have q0 : ∀ x : CW (fun w' => w' = wq), x.w.cell? ⟨wr.heap.size, 0, .none⟩ = some (.string e.path) := fun x => by rw [x.h]; exact (unhid HP).1
            have q1 : ∀ x : CW (fun w' => w' = wq), x.w.cell? ⟨wr.heap.size, 1, .none⟩ = some (.int .i64 e.kind) := fun x => by rw [x.h]; exact (unhid HP).2.1
            have q2 : ∀ x : CW (fun w' => w' = wq), x.w.cell? ⟨wr.heap.size, 2, .none⟩ = some (.int .i64 e.mode) := fun x => by rw [x.h]; exact (unhid HP).2.2.1
            have q3 : ∀ x : CW (fun w' => w' = wq), x.w.cell? ⟨wr.heap.size, 3, .none⟩ = some (.string e.text) := fun x => by rw [x.h]; exact (unhid HP).2.2.2
            have q4 : ∀ x : CW (fun w' => w' = wq), x.w.cell? ⟨b, o + j * 4, .none⟩ = some (.string pv.path) := fun x => by rw [x.h]; exact unhid HG
            simp only [List.take_succ_cons, List.take_zero, List.drop_succ_cons, List.drop_zero]
            repeat (go_big_quiet_step (fail))
            refine wpQuiet_nil ?_
            clear HCx q0 q1 q2 q3 q4 HP HQ HG c0 c1 c2 c3
            go_wp2_with (go_at_call 46; refine (unhid PUT2).mono ?_; rintro r w2 ⟨rfl, HR2⟩)
            refine ⟨⟨j + 2, by omega, by rw [show ((j + 2 : Nat) : Int) = (j : Int) + 1 + 1 by omega], hid (all_range_snoc (unhid hall) (unhid HY)), HR2⟩, ?_⟩
            show es.length - ((j : Int) + 1 + 1).toNat < es.length - (((j + 1 : Nat) : Int)).toNat
            omega
    · have hke : k = es.length := by omega
      obtain ⟨hB, hr, vp, vn, t1, t2, t3⟩ := unhid HST
      rw [hke, List.take_of_length_le (Nat.le_refl _)] at t2 t3
      have hok : treeB es = true := by rw [unhid ET, ← hke]; exact unhid hall
      obtain ⟨c0, c1, f0, f1⟩ := two_cells t1
      obtain ⟨d0, d1, e0, e1⟩ := two_cells hr
      have r1 := hid (row_ne t2 hr (by decide))
      have r2 := hid (row_ne t3 hr (by decide))
      obtain ⟨ap, cp, rfl⟩ := ownsRow_slice t2
      obtain ⟨an, cn, rfl⟩ := ownsRow_slice t3
      have HE := hid hB
      have HROWS := hid (And.intro t2 t3)
      have HOK := hid hok
      clear hB t1 t2 t3 hr hok HST
      go_wp2_with fail
      refine bodyPost_ret (v := .tuple #[.agg #[.slice ap es.length cp, .slice an es.length cn], .bool true]) (by simp [results, Try.results41, go_sem, World.cell?_setCell_same', d0, d1]) rfl ⟨_, _, by rw [unhid HOK], ?_, ((unhid HE).setCell (Nat.le_refl _) _).setCell (Nat.le_refl _) _⟩
      rw [keptE_yes (unhid HOK)]
      refine ⟨ownsRow_kept (unhid HROWS).1 (fun g hg => ?_), ownsRow_kept (unhid HROWS).2 (fun g hg => ?_)⟩
      · have hne : g ≠ w.heap.size := fun eq => unhid r1 (by rw [hg, eq])
        rw [Below.heap_setCell _ _ _ _ hne, Below.heap_setCell _ _ _ _ hne]
      · have hne : g ≠ w.heap.size := fun eq => unhid r2 (by rw [hg, eq])
        rw [Below.heap_setCell _ _ _ _ hne, Below.heap_setCell _ _ _ _ hne]
end Go.Proofs.Ytlnehebihfeegaa
