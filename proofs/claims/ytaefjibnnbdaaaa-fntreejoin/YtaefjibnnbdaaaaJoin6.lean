/- Texts of this proof, one behind the other; each says at its head what it shows. -/
import Derived.Test.YtaefjibnnbdaaaaJoin5
import Derived.Test.YtaefjibnnbdaaaaJoin1
/- What the draw of a tree gives: at most sixteen entries of drawn paths and short texts, in a row of their own. -/
namespace Go.Proofs.Ytaefjibnnbdaaaa
open Go.RowKit

/-- A row of entries that is not nil, behind a bound. -/
def TreeV (W : World) (N : Nat) (v : Value) (es : List Ent) : Prop := ∃ g c, v = .slice (some ⟨g, 0, none⟩) es.length c ∧ W.ownsRow N 27 4 v es.length (valsOf es)
theorem treeV_of {W : World} {N : Nat} {v : Value} {es : List Ent} (h : W.ownsRow N 27 4 v es.length (valsOf es)) (hs : SomeV v) : TreeV W N v es := by
  rcases h.2 with ⟨rfl, h0⟩ | ⟨g, cap, cur, rfl, _⟩
  · obtain ⟨ad, n, c, hc⟩ := hs; cases hc
  · exact ⟨g, cap, rfl, h⟩
theorem TreeV.ents {W : World} {N g c : Nat} {es : List Ent} (h : W.ownsRow N 27 4 (.slice (some ⟨g, 0, none⟩) es.length c) es.length (valsOf es)) : (∀ (i : Nat) e, es[i]? = some e → EntAt W g (0 + i * 4) e) ∧ g < W.heap.size ∧ N ≤ g ∧ es.length ≤ c := by
  have hl := h.lt g rfl
  have hc : es.length ≤ c := by
    rcases h.2 with ⟨hv, _⟩ | ⟨g', cap, cur, hv, _, _, hc, _⟩
    · cases hv
    · cases hv; exact hc
  obtain ⟨a, cap, hv, hr⟩ := rowIn_of_owns h
  cases hv
  refine ⟨fun i e hi => ?_, hl.2, hl.1, hc⟩
  rcases hr with rfl | ⟨g', hg, _, _, hR⟩
  · simp at hi
  · cases hg
    have := (hR.cells i (List.getElem?_eq_some_iff.1 hi).1).1
    rw [entFn_get hi] at this
    rwa [Nat.zero_add]
theorem TreeV.kept {W W' : World} {N : Nat} {v : Value} {es : List Ent} (h : TreeV W N v es) (hk : ∀ k, N ≤ k → k < W.heap.size → W'.heap[k]? = W.heap[k]?) : TreeV W' N v es := by
  obtain ⟨g, c, hv, ho⟩ := h
  exact ⟨g, c, hv, ownsRow_kept ho (fun g eg => hk g (ho.lt g eg).1 (ho.lt g eg).2)⟩
theorem TreeV.below {W W' : World} {N : Nat} {v : Value} {es : List Ent} (h : TreeV W N v es) (hb : Below W.heap.size W W') : TreeV W' N v es := h.kept (fun k _ hk => hb.block k hk)
theorem TreeV.grown {W W' : World} {N b : Nat} {v : Value} {es : List Ent} (h : TreeV W N v es) (hb : W.grownBy W' (some b)) (hlt : b < N) : TreeV W' N v es := h.kept (fun k h1 hk => hb.block k hk (fun e => by injection e; omega))
theorem TreeV.base {W : World} {N N' : Nat} {v : Value} {es : List Ent} (h : TreeV W N v es) (hN : N' ≤ N) : TreeV W N' v es := by
  obtain ⟨g, c, hv, ho⟩ := h
  exact ⟨g, c, hv, ownsRow_base ho hN⟩
theorem putL_16 {es : List Ent} {e : Ent} (h : es.length ≤ 16) : (putL es e).length ≤ 16 := by
  cases hk : okPut es e
  · rw [putL_no hk]; exact h
  · cases ht : thereE es e.path
    · rw [putL_ins hk ht]
      unfold okPut at hk
      rw [ht] at hk
      simp only [Bool.and_eq_true] at hk
      have h1 := hk.2.2
      simp at h1
      have h2 := placeE_le es e.path
      unfold insAt
      simp; omega
    · rw [putL_set hk ht]; simpa using h
theorem putL_mem {es : List Ent} {e x : Ent} (hx : x ∈ putL es e) : x ∈ es ∨ x = e := by
  unfold putL at hx
  split at hx
  · exact putT_mem hx
  · exact .inl hx
theorem grown_of_below' {W w1 : World} (h : Below W.heap.size W w1) (r : Option Nat) : W.grownBy w1 r := ⟨h.os, h.tape, h.output, h.size, fun k hk _ => h.block k hk⟩
theorem grown_lift {x y z : World} {b : Nat} (h : x.grownBy y (some b)) (hb : Below y.heap.size y z) : x.grownBy z (some b) := grown_trans h (grown_of_below' hb _)

/-- What holds while a tree is drawn. -/
structure TS (w : World) (b : Nat) (a : Option Addr) (len cap p : Nat) (W : World) (v : Value) (es : List Ent) : Prop where
  v : TreeV W w.heap.size v es
  nice : ∀ e ∈ es, niceE e
  few : es.length ≤ 16
  rd : ∃ p', p' ≤ p ∧ Rd W b a len cap p'
  grown : w.grownBy W (some b)
theorem TS.put {w : World} {b : Nat} {a : Option Addr} {len cap p : Nat} {W W' : World} {v v' : Value} {es : List Ent} {e : Ent} (h : TS w b a len cap p W v es) (he : niceE e) (ho : W'.ownsRow W.heap.size 27 4 v' (putL es e).length (valsOf (putL es e))) (hb : Below W.heap.size W W') (hs : SomeV v') : TS w b a len cap p W' v' (putL es e) := by
  refine ⟨treeV_of (ownsRow_base ho h.grown.size) hs, fun x hx => ?_, putL_16 h.few, ?_, grown_lift h.grown hb⟩
  · rcases putL_mem hx with hx | rfl
    · exact h.nice x hx
    · exact he
  · obtain ⟨p', h1, h2⟩ := h.rd
    exact ⟨p', h1, h2.of_below hb⟩
theorem TS.read {w : World} {b : Nat} {a : Option Addr} {len cap p q : Nat} {W W' : World} {v : Value} {es : List Ent} (h : TS w b a len cap p W v es) (hlt : b < w.heap.size) (hg : W.grownBy W' (some b)) (hr : ∃ p', p' ≤ q ∧ Rd W' b a len cap p') : TS w b a len cap q W' v es :=
  ⟨h.v.grown hg hlt, h.nice, h.few, hr, grown_trans h.grown hg⟩
theorem TS.more {w : World} {b : Nat} {a : Option Addr} {len cap p q : Nat} {W : World} {v : Value} {es : List Ent} (h : TS w b a len cap p W v es) (hq : p ≤ q) : TS w b a len cap q W v es :=
  ⟨h.v, h.nice, h.few, by obtain ⟨p', h1, h2⟩ := h.rd; exact ⟨p', by omega, h2⟩, h.grown⟩
theorem TS.below {w : World} {b : Nat} {a : Option Addr} {len cap p : Nat} {W W' : World} {v : Value} {es : List Ent} (h : TS w b a len cap p W v es) (hb : Below W.heap.size W W') : TS w b a len cap p W' v es :=
  ⟨h.v.below hb, h.nice, h.few, by obtain ⟨p', h1, h2⟩ := h.rd; exact ⟨p', h1, h2.of_below hb⟩, grown_lift h.grown hb⟩
/-- The dirs that are tried. -/
def dirsC : Array Value := #[.string ⟨#[97]⟩, .string ⟨#[108, 105, 98]⟩, .string ⟨#[98, 105, 110]⟩, .string ⟨#[100, 111, 99]⟩, .string ⟨#[97, 47, 98]⟩]
def DirsAt (W : World) (D : Nat) : Prop := W.heap[D]? = some (.cells dirsC 9 (0, 0))
theorem DirsAt.cell {W : World} {D : Nat} (h : DirsAt W D) (k : Nat) (hk : k < 5) : ∃ x, nice x ∧ W.cell? ⟨D, k, none⟩ = some (.string x) := by
  have h1 : W.cell? ⟨D, k, none⟩ = dirsC[k]? := by unfold World.cell?; rw [h]; simp
  rw [h1]
  rcases (by omega : k = 0 ∨ k = 1 ∨ k = 2 ∨ k = 3 ∨ k = 4) with rfl | rfl | rfl | rfl | rfl
  · exact ⟨⟨#[97]⟩, by unfold nice; decide, rfl⟩
  · exact ⟨⟨#[108, 105, 98]⟩, by unfold nice; decide, rfl⟩
  · exact ⟨⟨#[98, 105, 110]⟩, by unfold nice; decide, rfl⟩
  · exact ⟨⟨#[100, 111, 99]⟩, by unfold nice; decide, rfl⟩
  · exact ⟨⟨#[97, 47, 98]⟩, by unfold nice; decide, rfl⟩
theorem fdec_nice {n : Nat} (h : n < 1000) : nice (⟨#[102]⟩ ++ decA n) := by
  have hd : (⟨#[102]⟩ ++ decA n : ByteArray).data.toList = 102 :: decL n := by rw [ByteArray.data_append]; simp [decA]
  have hl := decL_len 3 n (by omega)
  have hh : ∀ c, (decL n).head? = some c → c ≠ 114 := by
    clear hd hl
    intro c hc
    have : ∀ m, m < 1000 → ∀ c, (decL m).head? = some c → c.toNat ≤ 57 := by
      intro m
      induction m using Nat.strongRecOn with
      | ind m ih =>
        intro hm c hc
        by_cases h10 : m < 10
        · rw [decL_small h10] at hc
          simp at hc
          subst hc
          unfold fig
          simp
          omega
        · rw [decL_more h10] at hc
          have hne : decL (m / 10) ≠ [] := by
            intro e
            by_cases h2 : m / 10 < 10
            · rw [decL_small h2] at e; cases e
            · rw [decL_more h2] at e; simp at e
          obtain ⟨y, ys, hy⟩ := List.exists_cons_of_ne_nil hne
          rw [hy] at hc
          exact ih (m / 10) (by omega) (by omega) c (by rw [hy]; simpa using hc)
    intro e
    have := this n h c hc
    rw [e] at this
    revert this
    decide
  unfold nice niceB
  rw [hd]
  have h3 : ((102 :: decL n).take 2 != [102, 114]) = true := by
    rw [bne_iff_ne]
    intro e
    cases hx : decL n with
    | nil => rw [hx] at e; simp at e
    | cons y ys => rw [hx] at e; simp at e; exact hh y (by rw [hx]; rfl) e
  have h4 : ((102 :: decL n).take 2 != [110, 101]) = true := by
    rw [bne_iff_ne]
    intro e
    cases hx : decL n with
    | nil => rw [hx] at e; simp at e
    | cons y ys => rw [hx] at e; simp at e
  rw [h3, h4]
  simp; omega

set_option maxRecDepth 100000 in
set_option maxHeartbeats 8000000 in
theorem l11Tree_any (w : World) (b : Nat) (a : Option Addr) (len cap p : Nat) (h : Rd w b a len cap p) (hp : p ≤ 800000) :
    Calls Try.prog 70 #[.pointer (some ⟨b, 0, none⟩)] w fun x w' => ∃ v, x = .returned v ∧ ∃ es, TS w b a len cap (p + 50) w' v es := by
  have hbl := h.lt
  have T0 : TS w b a len cap p (w.alloc (.cells #[] 27)) (.slice (some ⟨w.heap.size, 0, none⟩) 0 0) [] :=
    ⟨⟨w.heap.size, 0, rfl, owns_empty w _ (Nat.le_refl _) _⟩, (fun e he => by cases he), (by simp), ⟨p, Nat.le_refl _, h.alloc _⟩, World.grownBy_alloc w _ _⟩
  have T1 := T0.below ((Below.refl _ _).alloc (Nat.le_refl _) (.cells dirsC 9))
  have D1 : DirsAt ((w.alloc (.cells #[] 27)).alloc (.cells dirsC 9)) (w.heap.size + 1) := by
    have := World.alloc_heap_new (w.alloc (.cells #[] 27)) (.cells dirsC 9)
    rw [World.size_alloc] at this
    exact this
  have hT := hid (And.intro T1 D1)
  clear T0 T1 D1 h
  unfold dirsC at hT
  go_enter Try.func70, Try.ntmps70
  go_wp2_with fail
  go_loopw [3, 5] (fun v' i wr => ∃ (k : Nat) (es : List Ent) (v : Value), v = v' ∧ k ≤ 5 ∧ i = .int .i64 k ∧ Hid (TS w b a len cap (p + k) wr v es ∧ DirsAt wr (w.heap.size + 1) ∧ w.heap.size + 1 < wr.heap.size)) (fun _ i _ => 5 - (intOf i).toNat)
  case atStart => exact ⟨0, [], _, rfl, by omega, rfl, hid ⟨(unhid hT).1, (unhid hT).2, by simp⟩⟩
  case round =>
    obtain ⟨k, es, v, rfl, hk, rfl, HT⟩ := hrel
    clear hT
    by_cases hlt : (k : Int) < 5
    · go_wp2_with fail
      obtain ⟨q, hq, hR⟩ := (unhid HT).1.rd
      refine (pick_any wr b a len cap q hR (by omega) 2 (by omega) (by omega)).mono ?_
      rintro e w1 ⟨r, hr, rfl, hR1, hG1⟩
      have D1 := (hG1.block (w.heap.size + 1) (unhid HT).2.2 (by intro e; injection e; omega)).trans (unhid HT).2.1
      have HT1 := hid (show TS w b a len cap (p + (k + 1)) w1 v es ∧ DirsAt w1 (w.heap.size + 1) ∧ w.heap.size + 1 < w1.heap.size from ⟨(unhid HT).1.read hbl hG1 ⟨q + 1, by omega, hR1⟩, D1, Nat.lt_of_lt_of_le (unhid HT).2.2 hG1.size⟩)
      clear hR hR1 hG1 HT D1 hq
      by_cases h0 : r = 0
      · subst h0
        obtain ⟨x, hx, hcx⟩ := (unhid HT1).2.1.cell k (by omega)
        obtain ⟨g, c, rfl, ho⟩ := (unhid HT1).1.v
        obtain ⟨e1, e2, e3, e4⟩ := TreeV.ents ho
        have PUT := hid (l2Put_full es ⟨x, 1, 7, ⟨#[]⟩⟩ g 0 c w1 (unhid HT1).1.few e4 (by have := nice_short hx; dsimp only; omega) (by show (0 : Nat) ≤ 1048576; omega) e1 e2)
        clear ho e1 e2 e3 e4
        go_wp2_with fail
        refine (unhid PUT).mono ?_
        rintro x2 w2 ⟨v2, rfl, ho2, hb2, hs2⟩
        have HT2 := hid (show TS w b a len cap (p + (k + 1)) w2 v2 (putL es ⟨x, 1, 7, ⟨#[]⟩⟩) ∧ DirsAt w2 (w.heap.size + 1) ∧ w.heap.size + 1 < w2.heap.size from ⟨(unhid HT1).1.put ⟨hx, (by unfold short; decide : short ⟨#[]⟩)⟩ ho2 hb2 hs2, (hb2.block _ (unhid HT1).2.2).trans (unhid HT1).2.1, Nat.lt_of_lt_of_le (unhid HT1).2.2 hb2.size⟩)
        clear PUT ho2 hb2 hs2 HT1
        go_wp2_with fail
        go_roundw
        case rel => exact ⟨k + 1, _, _, rfl, by omega, by go_num, HT2⟩
        case measure => simp [intOf]; omega
      · have h0' : ((r : Int) == 0) = false := by rw [beq_eq_false_iff_ne]; omega
        go_wp2_with fail
        go_roundw
        case rel => exact ⟨k + 1, _, _, rfl, by omega, by go_num, HT1⟩
        case measure => simp [intOf]; omega
    · have k5 : k = 5 := by omega
      subst k5
      have HT0 := hid (unhid HT).1
      clear HT
      go_wp2_with fail
      obtain ⟨q, hq, hR⟩ := (unhid HT0).rd
      refine (pick_any wr b a len cap q hR (by omega) 7 (by omega) (by omega)).mono ?_
      rintro e w1 ⟨r, hr, rfl, hR1, hG1⟩
      have HT1 := hid (show TS w b a len cap (p + 6 + 4 * (7 - r)) w1 v es from (unhid HT0).read hbl hG1 ⟨q + 1, by omega, hR1⟩)
      clear hR hR1 hG1 HT0 hq q
      go_wp2_with fail
      go_loopw [3, 6] (fun v' i wr => ∃ (k : Nat) (es : List Ent) (v : Value), v = v' ∧ k ≤ 7 ∧ i = .int .i64 k ∧ Hid (TS w b a len cap (p + 6 + 4 * (7 - k)) wr v es)) (fun _ i _ => (intOf i).toNat)
      case atStart => exact ⟨r, es, _, rfl, by omega, rfl, HT1⟩
      case round =>
        obtain ⟨k, es, v, rfl, hk, rfl, HT⟩ := hrel
        clear HT1
        by_cases hlt : (0 : Int) < (k : Int)
        · go_wp2_with fail
          obtain ⟨q, hq, hR⟩ := (unhid HT).rd
          refine (l11Entry_any wr b a len cap q hR (by omega)).mono ?_
          rintro e w1 ⟨en, hen, rfl, ⟨q2, hq2, hR1⟩, hG1⟩
          have HT1 := hid ((unhid HT).read (q := p + 6 + 4 * (7 - (k - 1))) hbl hG1 ⟨q2, by omega, hR1⟩)
          clear hR hR1 hG1 HT hq hq2 q q2
          obtain ⟨g, c, rfl, ho⟩ := (unhid HT1).v
          obtain ⟨e1, e2, e3, e4⟩ := TreeV.ents ho
          have PUT := hid (l2Put_full es en g 0 c w1 (unhid HT1).few e4 (by have := nice_short hen.1; omega) (by have : en.text.size ≤ 100 := hen.2; omega) e1 e2)
          clear ho e1 e2 e3 e4
          unfold Ent.vals at PUT ⊢
          go_wp2_with fail
          refine (unhid PUT).mono ?_
          rintro x2 w2 ⟨v2, rfl, ho2, hb2, hs2⟩
          have HT2 := hid ((unhid HT1).put hen ho2 hb2 hs2)
          clear PUT ho2 hb2 hs2 HT1
          go_wp2_with fail
          go_roundw
          case rel => exact ⟨k - 1, _, _, rfl, by omega, by go_num, HT2⟩
          case measure => simp [intOf]; omega
        · have k0 : k = 0 := by omega
          subst k0
          have HT0 := HT
          clear HT
          go_wp2_with fail
          obtain ⟨q, hq, hR⟩ := (unhid HT0).rd
          refine (pick_any wr b a len cap q hR (by omega) 30 (by omega) (by omega)).mono ?_
          rintro e w1 ⟨r, hr, rfl, hR1, hG1⟩
          have HT1 := hid (show TS w b a len cap (p + 50) w1 v es from (unhid HT0).read hbl hG1 ⟨q + 1, by omega, hR1⟩)
          clear hR hR1 hG1 HT0 hq q
          by_cases h0 : r = 0
          · subst h0
            go_wp2_with fail
            go_loopw [3, 7] (fun v' i wr => ∃ (k : Nat) (es : List Ent) (v : Value), v = v' ∧ k ≤ 16 ∧ i = .int .i64 k ∧ Hid (TS w b a len cap (p + 50) wr v es)) (fun _ i _ => 16 - (intOf i).toNat)
            case atStart => exact ⟨0, es, _, rfl, by omega, rfl, HT1⟩
            case round =>
              obtain ⟨k, es, v, rfl, hk, rfl, HT⟩ := hrel
              clear HT1
              by_cases hlt : (k : Int) < 16
              · go_wp2_with fail
                refine (l1Dec_any 2 k wr (by omega) (by omega)).mono ?_
                rintro e w1 ⟨rfl, hb1⟩
                have HT1 := hid ((unhid HT).below hb1)
                clear hb1 HT
                have hnc : nice (⟨#[102]⟩ ++ decA k) := fdec_nice (by omega)
                have hsz := decA_size (n := k) (by omega)
                have hz2 := nice_short hnc
                obtain ⟨g, c, rfl, ho⟩ := (unhid HT1).v
                obtain ⟨e1, e2, e3, e4⟩ := TreeV.ents ho
                have PUT := hid (l2Put_full es ⟨⟨#[102]⟩ ++ decA k, 2, 0, ⟨#[]⟩⟩ g 0 c w1 (unhid HT1).few e4 (by dsimp only; omega) (by show (0 : Nat) ≤ 1048576; omega) e1 e2)
                clear ho e1 e2 e3 e4
                generalize decA k = y at *
                go_wp2_with fail
                refine (unhid PUT).mono ?_
                rintro x2 w2 ⟨v2, rfl, ho2, hb2, hs2⟩
                have HT2 := hid ((unhid HT1).put ⟨hnc, (by unfold short; decide : short ⟨#[]⟩)⟩ ho2 hb2 hs2)
                clear PUT ho2 hb2 hs2 HT1
                go_wp2_with fail
                go_roundw
                case rel => exact ⟨k + 1, _, _, rfl, by omega, by go_num, HT2⟩
                case measure => simp [intOf]; omega
              · go_wp2_with fail
                go_ret
                exact ⟨_, rfl, _, unhid HT⟩
          · have h0' : ((r : Int) == 0) = false := by rw [beq_eq_false_iff_ne]; omega
            go_wp2_with fail
            go_ret
            exact ⟨_, rfl, _, unhid HT1⟩
end Go.Proofs.Ytaefjibnnbdaaaa

/- An entry put into a tree: what the program answers, and its model. -/
namespace Go.Proofs.Ytaefjibnnbdaaaa
open Go.RowKit Go.Shelf

def putR (es : List Ent) (e : Ent) : List Ent := if treeB es then putL es e else []
def putOk (es : List Ent) (e : Ent) : Bool := treeB es && okPut es e
theorem tree_16 {es : List Ent} (h : treeB es = true) : es.length ≤ 16 := by
  have := (kept_asc es).2; rwa [keptE_yes h] at this
theorem tree_asc {es : List Ent} (h : treeB es = true) : Asc (pathsOf es) := by
  have := (kept_asc es).1; rwa [keptE_yes h] at this
theorem tree_all {es : List Ent} (h : treeB es = true) : ∀ x ∈ es, entB x = true := fun x hx => by
  obtain ⟨i, hi⟩ := List.getElem?_of_mem hx
  exact tree_ent h hi

theorem putL_len (es : List Ent) (e : Ent) : (putL es e).length ≤ es.length + 1 := by
  unfold putL
  split
  · exact putT_len es e
  · omega
theorem putL_all {es : List Ent} {e : Ent} (h : ∀ x ∈ es, entB x = true) : ∀ x ∈ putL es e, entB x = true := fun x hx => by
  unfold putL at hx
  cases hk : okPut es e
  · rw [hk] at hx; exact h x hx
  · rw [hk] at hx
    rcases putT_mem hx with h1 | h1
    · exact h x h1
    · subst h1; unfold okPut at hk; simp only [Bool.and_eq_true] at hk; exact hk.1

set_option maxRecDepth 100000 in
set_option maxHeartbeats 2000000 in
theorem specTreePut_any (es : List Ent) (e : Ent) (b o cap : Nat) (w : World) (hs : smallE es) (hc : es.length ≤ cap) (hp : e.path.size ≤ 1048576) (ht : e.text.size ≤ 1048576) (h : ∀ (i : Nat) e, es[i]? = some e → EntAt w b (o + i * 4) e) (hb : b < w.heap.size) :
    Calls Try.prog 24 #[.slice (some ⟨b, o, none⟩) es.length cap, .agg e.vals] w fun x w' => ∃ v, x = .returned (.tuple #[v, .bool (putOk es e)]) ∧ w'.ownsRow w.heap.size 27 4 v (putR es e).length (valsOf (putR es e)) ∧ Below w.heap.size w w' := by
  obtain ⟨w1, hw1⟩ : ∃ w1, w1 = w.alloc (.cells #[.string e.path, .int .i64 e.kind, .int .i64 e.mode, .string e.text] 27) := ⟨_, rfl⟩
  have hB1 : Below w.heap.size w w1 := by rw [hw1]; exact (Below.refl _ w).alloc (Nat.le_refl _) _
  have hbx1 : w1.heap[w.heap.size]? = some (.cells #[.string e.path, .int .i64 e.kind, .int .i64 e.mode, .string e.text] 27 (0, 0)) := by rw [hw1]; exact World.alloc_heap_new _ _
  have hE1 := entAt_below h (.inr hb) hB1
  have hb1 : b < w1.heap.size := Nat.lt_of_lt_of_le hb hB1.size
  have hat1 : EntsAt w1 (some ⟨b, o, none⟩) es := .inr ⟨b, o, rfl, hb1, hE1⟩
  have OK := hid (specTreeOk_any es (some ⟨b, o, none⟩) cap w1 hs hat1)
  have H1 := hid (And.intro hB1 (And.intro hbx1 hE1))
  have HW1 := hid hw1
  have HS := hid hs
  clear hB1 hbx1 hE1 hat1 hw1 h hs
  go_enter Try.func24, Try.ntmps24
  unfold Ent.vals
  go_wp2_with fail
  rw [← unhid HW1]
  refine (unhid OK).mono ?_
  rintro x w2 ⟨rfl, hB2⟩
  have hl1 : w.heap.size < w1.heap.size := (Array.getElem?_eq_some_iff.1 (unhid H1).2.1).1
  have H2 := hid (show Below w.heap.size w w2 ∧ w2.heap[w.heap.size]? = some (.cells #[.string e.path, .int .i64 e.kind, .int .i64 e.mode, .string e.text] 27 (0, 0)) ∧ ∀ (i : Nat) e, es[i]? = some e → EntAt w2 b (o + i * 4) e from ⟨(unhid H1).1.trans (hB2.mono (unhid H1).1.size), (hB2.block _ hl1).trans (unhid H1).2.1, entAt_below (unhid H1).2.2 (.inr hb1) hB2⟩)
  have hb2 : b < w2.heap.size := Nat.lt_of_lt_of_le hb1 hB2.size
  clear hB2 H1 OK HW1 hl1 hb1
  cases htb : treeB es
  · have E := hid (show putR es e = [] ∧ putOk es e = false by unfold putR putOk; rw [htb]; exact ⟨rfl, rfl⟩)
    have HF := hid (And.intro (owns_empty w2 w.heap.size (unhid H2).1.size 27) ((unhid H2).1.alloc (unhid H2).1.size (.cells #[] 27)))
    go_wp2_with fail
    go_ret2
    exact ⟨_, by rw [(unhid E).2]; rfl, by rw [(unhid E).1]; exact (unhid HF).1, (unhid HF).2⟩
  · have E := hid (show putR es e = putL es e ∧ putOk es e = okPut es e by unfold putR putOk; rw [htb]; exact ⟨rfl, rfl⟩)
    obtain ⟨⟨d0, d1, d2, d3⟩, -⟩ := four_cells (unhid H2).2.1
    go_wp2_with fail
    refine (l2Put_any es e b o cap w2 (tree_16 htb) hc hp ht (unhid H2).2.2 hb2).mono ?_
    rintro x w3 ⟨v, rfl, hown, hB3⟩
    obtain ⟨va, vc, rfl⟩ := ownsRow_slice hown
    have HF := hid (And.intro (ownsRow_base hown (unhid H2).1.size) ((unhid H2).1.trans (hB3.mono (unhid H2).1.size)))
    clear hown hB3
    go_wp2_with fail
    go_ret2
    exact ⟨_, by rw [(unhid E).2]; rfl, by rw [(unhid E).1]; exact (unhid HF).1, (unhid HF).2⟩

set_option maxRecDepth 100000 in
set_option maxHeartbeats 2000000 in
theorem treePut_any (es : List Ent) (e : Ent) (a : Option Addr) (cap : Nat) (w : World) (hs : smallE es) (hp : e.path.size ≤ 1048576) (ht : e.text.size ≤ 1048576) (h : EntsAt w a es) :
    Calls Try.prog 17 #[.slice a es.length cap, .agg e.vals] w fun x w' => ∃ v, x = .returned (.tuple #[v, .bool (putOk es e)]) ∧ w'.ownsRow w.heap.size 27 4 v (putR es e).length (valsOf (putR es e)) ∧ Below w.heap.size w w' := by
  obtain ⟨wA, hwA⟩ : ∃ wA, wA = w.alloc (.cells #[.string e.path, .int .i64 e.kind, .int .i64 e.mode, .string e.text] 27) := ⟨_, rfl⟩
  have hsz : wA.heap.size = w.heap.size + 1 := by rw [hwA]; simp
  have hBA : Below w.heap.size w wA := by rw [hwA]; exact (Below.refl _ w).alloc (Nat.le_refl _) _
  have hbox : wA.heap[w.heap.size]? = some (.cells #[.string e.path, .int .i64 e.kind, .int .i64 e.mode, .string e.text] 27 (0, 0)) := by rw [hwA]; exact World.alloc_heap_new _ _
  have H := hid (treeOf_any es a cap wA hs (h.below (by rw [hwA]; exact (Below.refl _ w).alloc (Nat.le_refl _) _)))
  have HA := hid (And.intro hsz (And.intro hBA hbox))
  have HWA := hid hwA
  clear hs h hwA hsz hBA hbox
  go_enter Try.func17, Try.ntmps17
  unfold Ent.vals
  go_wp2_with fail
  rw [← unhid HWA]
  refine (unhid H).mono ?_
  rintro x w1 ⟨vp, vn, rfl, ⟨t2, t3⟩, hB⟩
  obtain ⟨ap, cp, rfl⟩ := ownsRow_slice t2
  obtain ⟨an, cn, rfl⟩ := ownsRow_slice t3
  obtain ⟨hsz, hBA, hbox⟩ := unhid HA
  obtain ⟨wt, hwt⟩ : ∃ wt, wt = w1.alloc (.cells #[.slice ap (keptE es).length cp, .slice an (keptE es).length cn] 58) := ⟨_, rfl⟩
  have hB1 : Below w.heap.size w w1 := hBA.trans (hB.mono (by omega))
  have hBt : Below w1.heap.size w1 wt := by rw [hwt]; exact (Below.refl _ w1).alloc (Nat.le_refl _) _
  have hBT : Below w.heap.size w wt := hB1.trans (hBt.mono hB1.size)
  have hT : TreeAt wt wA.heap.size w1.heap.size (keptE es) := ⟨_, _, by rw [hwt]; exact World.alloc_heap_new _ _, ownsRow_kept t2 (fun g e => hBt.block g (t2.lt g e).2), ownsRow_kept t3 (fun g e => hBt.block g (t3.lt g e).2)⟩
  have hw1 : wA.heap.size ≤ w1.heap.size := hB.size
  have hbt : wt.heap[w.heap.size]? = some (.cells #[.string e.path, .int .i64 e.kind, .int .i64 e.mode, .string e.text] 27 (0, 0)) := (hBt.block _ (by omega)).trans ((hB.block _ (by omega)).trans hbox)
  have HT := hid (And.intro hBT (And.intro hbt hT))
  have HWT := hid hwt
  clear hT hBT hBt hB1 hB t2 t3 hbox hBA HA HWA H
  cases htb : treeB es
  · have E := hid (show putR es e = [] ∧ putOk es e = false by unfold putR putOk; rw [htb]; exact ⟨rfl, rfl⟩)
    have HK := hid (keptE_no htb)
    clear hbt hwt
    go_wp2_with fail
    rw [← unhid HWT]
    refine (entries_any wA.heap.size w1.heap.size (keptE es) wt (by rw [unhid HK]; simp) (by rw [unhid HK]; simp) (unhid HT).2.2).mono ?_
    rintro x w2 ⟨v, rfl, hown, hB2⟩
    obtain ⟨va, vc, rfl⟩ := ownsRow_slice hown
    have HF := hid (And.intro (ownsRow_base hown (unhid HT).1.size) ((unhid HT).1.trans (hB2.mono (unhid HT).1.size)))
    clear hown hB2
    go_wp2_with fail
    go_ret2
    exact ⟨_, by rw [(unhid E).2]; rfl, by rw [(unhid E).1, ← unhid HK]; exact (unhid HF).1, (unhid HF).2⟩
  · have E := hid (show putR es e = putL es e ∧ putOk es e = okPut es e by unfold putR putOk; rw [htb]; exact ⟨rfl, rfl⟩)
    rw [keptE_yes htb] at HT HWT ⊢
    have hl16 := tree_16 htb
    have PUT := hid (putEntry_any wA.heap.size w1.heap.size es e wt (by unfold maxLen; omega) (by unfold maxLen; omega) hl16 (tree_asc htb) (tree_all htb) hw1 (unhid HT).2.2)
    obtain ⟨⟨d0, d1, d2, d3⟩, -⟩ := four_cells (unhid HT).2.1
    rw [unhid HWT] at d0 d1 d2 d3
    clear hbt hwt
    go_wp2_with fail
    rw [← unhid HWT]
    refine (unhid PUT).mono ?_
    rintro x w2 ⟨rfl, hT2, hK2⟩
    have hB2 : Below w.heap.size w w2 := (unhid HT).1.trans (hK2.1.mono (by omega))
    have ENT := hid (entries_any wA.heap.size w1.heap.size (putL es e) w2 (by have := putL_len es e; omega) (putL_all (tree_all htb)) hT2)
    have HB2 := hid hB2
    clear hT2 hK2 hB2 PUT HT d0 d1 d2 d3
    go_wp2_with fail
    refine (unhid ENT).mono ?_
    rintro x w3 ⟨v, rfl, hown, hB3⟩
    obtain ⟨va, vc, rfl⟩ := ownsRow_slice hown
    have HF := hid (And.intro (ownsRow_base hown (unhid HB2).size) ((unhid HB2).trans (hB3.mono (unhid HB2).size)))
    clear hown hB3
    go_wp2_with fail
    go_ret2
    exact ⟨_, by rw [(unhid E).2]; rfl, by rw [(unhid E).1]; exact (unhid HF).1, (unhid HF).2⟩
end Go.Proofs.Ytaefjibnnbdaaaa

/- The last name of a path; a path in a place; by the program and by its model. -/
namespace Go.Proofs.Ytaefjibnnbdaaaa
open Go.RowKit Go.Shelf

set_option maxHeartbeats 1000000 in
theorem slHasPrefix_any (s p : ByteArray) (w : World) :
    Calls Try.prog 99 #[.string s, .string p] w fun e w' => e = .returned (.bool (Lib.hasPrefix s.data.toList p.data.toList)) ∧ w' = w := by
  rw [← Lib.hasPrefix_of_take, ← Lib.size_eq, ← Lib.size_eq]
  go_enter Try.func99, Try.ntmps99
  go_wp2
  · rename_i h
    go_ret
    refine ⟨?_, rfl⟩
    show Ending.returned (Value.bool ((s.extract 0 p.size).toList == p.toList)) = _
    rw [Lib.extract_toList, Lib.toList_data]
    simp [h]
  · rename_i h
    go_ret
    refine ⟨?_, rfl⟩
    show Ending.returned (Value.bool false) = _
    simp [h]

set_option maxHeartbeats 1000000 in
theorem HasPrefix_any (s p : ByteArray) (w : World) :
    Calls Try.prog 68 #[.string s, .string p] w fun e w' => e = .returned (.bool (Lib.hasPrefix s.data.toList p.data.toList)) ∧ w' = w := by
  go_enter Try.func68, Try.ntmps68
  go_wp2_with (go_at_call 99; refine (slHasPrefix_any _ _ _).mono ?_; rintro e w' ⟨rfl, rfl⟩)
  go_ret
  exact ⟨rfl, rfl⟩
end Go.Proofs.Ytaefjibnnbdaaaa

/- A path in a place, and a path that is moved, by the program and by its model. -/
namespace Go.Proofs.Ytaefjibnnbdaaaa
open Go.RowKit Go.Shelf

theorem cutB_sum (b : UInt8) : ∀ l : List UInt8, ((cutB b l).map fun p => p.length + 1).sum = l.length + 1
  | [] => by simp [cutB]
  | c :: l => by
    have ih := cutB_sum b l
    unfold cutB
    split
    · simp [ih]; omega
    · split
      · rename_i e; exact absurd e (cutB_ne b l)
      · rename_i h t e
        rw [e] at ih
        simp at ih ⊢; omega
theorem sum_le (l : List (List UInt8)) (h : ∀ p ∈ l, p.length ≤ 10) : (l.map fun p => p.length + 1).sum ≤ 11 * l.length := by
  induction l with
  | nil => simp
  | cons a l ih =>
    have h1 := h a (by simp)
    have h2 := ih (fun p hp => h p (by simp [hp]))
    simp; omega
theorem pathB_size (l : List UInt8) (h : pathB l = true) : l.length ≤ 54 := by
  simp only [pathB, Bool.and_eq_true, decide_eq_true_eq, List.all_eq_true] at h
  have h1 := cutB_sum 47 l
  have h2 := sum_le (cutB 47 l) (fun p hp => by
    have := h.2 p hp
    simp only [nameOkB, Bool.and_eq_true, decide_eq_true_eq] at this
    exact this.1.1.1.2)
  omega

/-- A text is a place, or begins with it and a slash. -/
def belowB (p s : List UInt8) : Bool := (s == p) || Lib.hasPrefix s (p ++ [47])
def inB (p s : List UInt8) : Bool := pathB p && pathB s && belowB p s

theorem belowB_eq (p s : List UInt8) : belowB p s = ((s == p) || (decide (p.length < s.length) && (s.take p.length == p) && (s[p.length]? == some 47))) := by
  unfold belowB Lib.hasPrefix
  congr 1
  rw [Bool.eq_iff_iff]
  simp only [List.isPrefixOf_iff_prefix, Bool.and_eq_true, decide_eq_true_eq, beq_iff_eq]
  constructor
  · rintro ⟨t, rfl⟩
    simp
  · rintro ⟨⟨h1, h2⟩, h3⟩
    refine ⟨s.drop (p.length + 1), ?_⟩
    have h4 : s = s.take p.length ++ s.drop p.length := (List.take_append_drop _ _).symm
    have h5 : s.drop p.length = s[p.length] :: s.drop (p.length + 1) := List.drop_eq_getElem_cons h1
    rw [List.getElem?_eq_getElem h1] at h3
    simp at h3
    rw [h5, h2, h3] at h4
    rw [List.append_assoc]; exact h4.symm

theorem ret_bool {a b : Bool} (h : a = b) : Ending.returned (.bool a) = .returned (.bool b) := by rw [h]
theorem byte_47 (c : UInt8) : (some c == some 47) = ((c.toNat : Int) == 47) := by
  rw [Bool.eq_iff_iff]
  simp only [beq_iff_eq, Option.some.injEq]
  constructor
  · rintro rfl; rfl
  · intro h; exact UInt8.toNat_inj.1 (by simp; omega)

set_option maxRecDepth 100000 in
set_option maxHeartbeats 1000000 in
theorem l1Below_any (p s : ByteArray) (hp : p.size ≤ maxLen) (_hs : s.size ≤ maxLen) (w : World) :
    Calls Try.prog 91 #[.string p, .string s] w fun e w' => e = .returned (.bool (belowB p.data.toList s.data.toList)) ∧ w' = w := by
  unfold maxLen at _hs hp
  rw [belowB_eq, ← Lib.size_eq, ← Lib.size_eq]
  go_enter Try.func91, Try.ntmps91
  go_wp2
  · rename_i h1
    go_ret
    refine ⟨ret_bool ?_, rfl⟩
    rw [Lib.toList_data, Lib.toList_data] at h1
    simp [h1]
  · rename_i h1 h2 h3
    go_ret
    refine ⟨ret_bool ?_, rfl⟩
    rw [Lib.toList_data, Lib.toList_data] at h1 ⊢
    rw [Lib.extract_toList, Lib.toList_data] at h3
    rw [getByte s p.size h2, byte_47]
    simp at h3
    simp [h2, h3]
  · rename_i h1 h2 h3
    go_ret
    refine ⟨ret_bool ?_, rfl⟩
    rw [Lib.toList_data, Lib.toList_data] at h1 ⊢
    rw [Lib.extract_toList, Lib.toList_data] at h3
    simp at h3
    simp [h3]
  · rename_i h1 h2
    go_ret
    refine ⟨ret_bool ?_, rfl⟩
    rw [Lib.toList_data, Lib.toList_data] at h1 ⊢
    simp [h2]

set_option maxRecDepth 100000 in
set_option maxHeartbeats 1000000 in
theorem PathIn_any (p s : ByteArray) (hp : p.size ≤ maxLen) (hs : s.size ≤ maxLen) (w : World) :
    Calls Try.prog 30 #[.string p, .string s] w fun e w' => e = .returned (.bool (inB p.data.toList s.data.toList)) ∧ Below w.heap.size w w' := by
  cases h1 : pathB p.data.toList
  · have E := hid (show inB p.data.toList s.data.toList = false by simp [inB, h1])
    go_enter Try.func30, Try.ntmps30
    go_wp2_with fail
    refine (PathOk_any p hp _).mono ?_
    rintro e w1 ⟨rfl, hb1⟩
    rw [h1]
    go_wp2_with fail
    go_ret
    exact ⟨by rw [unhid E]; rfl, hb1⟩
  · cases h2 : pathB s.data.toList
    · have E := hid (show inB p.data.toList s.data.toList = false by simp [inB, h2])
      go_enter Try.func30, Try.ntmps30
      go_wp2_with fail
      refine (PathOk_any p hp _).mono ?_
      rintro e w1 ⟨rfl, hb1⟩
      rw [h1]
      go_wp2_with fail
      refine (PathOk_any s hs _).mono ?_
      rintro e w2 ⟨rfl, hb2⟩
      rw [h2]
      go_wp2_with fail
      go_ret
      exact ⟨by rw [unhid E]; rfl, hb1.trans (hb2.mono hb1.size)⟩
    · have E := hid (show inB p.data.toList s.data.toList = belowB p.data.toList s.data.toList by simp [inB, h1, h2])
      have hz := pathB_size _ h1
      rw [← Lib.size_eq] at hz
      go_enter Try.func30, Try.ntmps30
      go_wp2_with fail
      refine (PathOk_any p hp _).mono ?_
      rintro e w1 ⟨rfl, hb1⟩
      rw [h1]
      go_wp2_with fail
      refine (PathOk_any s hs _).mono ?_
      rintro e w2 ⟨rfl, hb2⟩
      rw [h2]
      go_wp2_with fail
      · rename_i h3
        rw [Lib.toList_data, Lib.toList_data] at h3
        go_ret
        refine ⟨ret_bool ?_, hb1.trans (hb2.mono hb1.size)⟩
        rw [unhid E, belowB]
        simp [h3]
      · have h3 : ¬ s.toList = p.toList := by assumption
        rw [Lib.toList_data, Lib.toList_data] at h3
        refine (HasPrefix_any s _ _).mono ?_
        rintro e w3 ⟨rfl, rfl⟩
        go_wp2_with fail
        go_ret
        refine ⟨ret_bool ?_, hb1.trans (hb2.mono hb1.size)⟩
        rw [unhid E, belowB, Lib.toList_data, Lib.toList_data]

/-- What the model's PathMove answers. -/
def moveS (s f t : ByteArray) : ByteArray := if inB f.data.toList s.data.toList && pathB t.data.toList && pathB (t ++ s.extract f.size s.size).data.toList then t ++ s.extract f.size s.size else ⟨#[]⟩

theorem inB_size {p s : ByteArray} (h : inB p.data.toList s.data.toList = true) : p.size ≤ s.size ∧ s.size ≤ 54 := by
  simp only [inB, Bool.and_eq_true] at h
  have h1 := pathB_size _ h.1.2
  have h2 := h.2
  rw [belowB_eq] at h2
  simp only [Bool.or_eq_true, Bool.and_eq_true, decide_eq_true_eq, beq_iff_eq] at h2
  rw [← Lib.size_eq] at h1
  rcases h2 with h2 | h2
  · have := congrArg List.length h2
    rw [← Lib.size_eq, ← Lib.size_eq] at this
    omega
  · have := h2.1.1
    rw [← Lib.size_eq, ← Lib.size_eq] at this
    omega

set_option maxRecDepth 100000 in
set_option maxHeartbeats 1000000 in
theorem PathMove_any (s f t : ByteArray) (hs : s.size ≤ maxLen) (hf : f.size ≤ maxLen) (ht : t.size ≤ maxLen) (w : World) :
    Calls Try.prog 31 #[.string s, .string f, .string t] w fun e w' => e = .returned (.string (moveS s f t)) ∧ Below w.heap.size w w' := by
  cases h1 : inB f.data.toList s.data.toList
  · have E := hid (show moveS s f t = ⟨#[]⟩ by simp [moveS, h1])
    go_enter Try.func31, Try.ntmps31
    go_wp2_with fail
    refine (PathIn_any f s hf hs _).mono ?_
    rintro e w1 ⟨rfl, hb1⟩
    rw [h1]
    go_wp2_with fail
    go_ret
    exact ⟨by rw [unhid E]; rfl, hb1⟩
  · obtain ⟨z1, z2⟩ := inB_size h1
    cases h2 : pathB t.data.toList
    · have E := hid (show moveS s f t = ⟨#[]⟩ by simp [moveS, h2])
      go_enter Try.func31, Try.ntmps31
      go_wp2_with fail
      refine (PathIn_any f s hf hs _).mono ?_
      rintro e w1 ⟨rfl, hb1⟩
      rw [h1]
      go_wp2_with fail
      refine (PathOk_any t ht _).mono ?_
      rintro e w2 ⟨rfl, hb2⟩
      rw [h2]
      go_wp2_with fail
      go_ret
      exact ⟨by rw [unhid E]; rfl, hb1.trans (hb2.mono hb1.size)⟩
    · have z3 := pathB_size _ h2
      rw [← Lib.size_eq] at z3
      have zz : (t ++ s.extract f.size s.size).size ≤ maxLen := by unfold maxLen; simp; omega
      have Zz := hid zz
      cases h3 : pathB (t ++ s.extract f.size s.size).data.toList
      · have E := hid (show moveS s f t = ⟨#[]⟩ by rw [moveS, h3]; simp)
        have H3 := hid h3
        clear zz h3
        go_enter Try.func31, Try.ntmps31
        go_wp2_with fail
        refine (PathIn_any f s hf hs _).mono ?_
        rintro e w1 ⟨rfl, hb1⟩
        rw [h1]
        go_wp2_with fail
        refine (PathOk_any t ht _).mono ?_
        rintro e w2 ⟨rfl, hb2⟩
        rw [h2]
        go_wp2_with fail
        refine (PathOk_any _ (unhid Zz) _).mono ?_
        rintro e w3 ⟨rfl, hb3⟩
        rw [unhid H3]
        go_wp2_with fail
        go_ret
        exact ⟨by rw [unhid E]; rfl, hb1.trans ((hb2.trans (hb3.mono hb2.size)).mono hb1.size)⟩
      · have E := hid (show moveS s f t = t ++ s.extract f.size s.size by rw [moveS, h1, h2, h3]; simp)
        have H3 := hid h3
        clear zz h3
        go_enter Try.func31, Try.ntmps31
        go_wp2_with fail
        refine (PathIn_any f s hf hs _).mono ?_
        rintro e w1 ⟨rfl, hb1⟩
        rw [h1]
        go_wp2_with fail
        refine (PathOk_any t ht _).mono ?_
        rintro e w2 ⟨rfl, hb2⟩
        rw [h2]
        go_wp2_with fail
        refine (PathOk_any _ (unhid Zz) _).mono ?_
        rintro e w3 ⟨rfl, hb3⟩
        rw [unhid H3]
        go_wp2_with fail
        go_ret
        exact ⟨by rw [unhid E]; rfl, hb1.trans ((hb2.trans (hb3.mono hb2.size)).mono hb1.size)⟩

end Go.Proofs.Ytaefjibnnbdaaaa

/- What is left of a tree without a place, by the program. -/
namespace Go.Proofs.Ytaefjibnnbdaaaa
open Go.RowKit Go.Shelf

attribute [local go_sem] Oper.semAt_some

def leftE (p : ByteArray) (es : List Ent) : List Ent := es.filter fun e => !inB p.data.toList e.path.data.toList

theorem ent_path_len {e : Ent} (h : entB e = true) : e.path.size ≤ 54 := by
  unfold entB at h
  simp only [Bool.and_eq_true] at h
  have := pathB_size _ h.1
  rwa [Lib.size_eq]
/-- A tree that is gone over stays, where only what is behind a bound changes, and its own box does not. -/
theorem treeIn_kept2 {Bl bt N : Nat} {vp vn : Value} {es : List Ent} {W W' : World} (h : TreeIn (Bl + 1) bt N vp vn es W) (hk : ∀ k, k < Bl → W'.heap[k]? = W.heap[k]?) (hbt : bt < Bl) (hp : ∀ g, vp.ownBlock = some g → g < Bl) (hn : ∀ g, vn.ownBlock = some g → g < Bl)
    (ho : ∀ o, W.heap[Bl + 1]? = some o → Apart o → W'.heap[Bl + 1]? = some o) (hbx : ∃ cs t f, W.heap[Bl + 1]? = some (.cells cs t f) ∧ t ≠ 9 ∧ t ≠ 62) : TreeIn (Bl + 1) bt N vp vn es W' :=
  treeIn_kept h (fun k hkk => by
    rcases hkk with rfl | rfl | h1 | h1
    · obtain ⟨cs, t, f, hw, ht⟩ := hbx
      exact (ho _ hw (fun _ _ _ e => by cases e; exact ht)).trans hw.symm
    · exact hk _ hbt
    · exact hk _ (hp k h1)
    · exact hk _ (hn k h1))
theorem treeAt_grown {W W' : World} {row : Option Nat} {N bt : Nat} {es : List Ent} (h : TreeAt W N bt es) (hg : W.grownBy W' row) (hr : ∀ r, row = some r → ∃ o : Obj, W.heap[r]? = some o ∧ o.isCells = false) : TreeAt W' N bt es := by
  obtain ⟨vp, vn, h1, h2, h3⟩ := h
  exact ⟨vp, vn, cells_grown hg hr h1, row_grown hg hr h2, row_grown hg hr h3⟩
set_option maxRecDepth 100000 in
set_option maxHeartbeats 4000000 in
theorem treeDrop_any (es : List Ent) (a : Option Addr) (cap : Nat) (p : ByteArray) (w : World) (hs : smallE es) (hp : p.size ≤ 1048576) (h : EntsAt w a es) :
    Calls Try.prog 28 #[.slice a es.length cap, .string p] w fun x w' => ∃ v, x = .returned (.tuple #[v, .bool (treeB es && thereE es p)]) ∧ w'.ownsRow w.heap.size 27 4 v (leftE p (keptE es)).length (valsOf (leftE p (keptE es))) ∧ Below w.heap.size w w' := by
  obtain ⟨wA, hwA⟩ : ∃ wA, wA = w.alloc (.cells #[.string p] 9) := ⟨_, rfl⟩
  have hsz : wA.heap.size = w.heap.size + 1 := by rw [hwA]; simp
  have hBA : Below w.heap.size w wA := by rw [hwA]; exact (Below.refl _ w).alloc (Nat.le_refl _) _
  have hbox : wA.heap[w.heap.size]? = some (.cells #[.string p] 9 (0, 0)) := by rw [hwA]; exact World.alloc_heap_new _ _
  have H := hid (treeOf_any es a cap wA hs (h.below (by rw [hwA]; exact (Below.refl _ w).alloc (Nat.le_refl _) _)))
  have HA := hid (And.intro hsz (And.intro hBA hbox))
  have HWA := hid hwA
  clear hs h hwA hsz hBA hbox
  refine (callsIn_wide (n := 3)).1 ?_
  refine callsIn_of_wp_marks Try.func28 rfl trivial ?_ rfl
  simp only [Try.ntmps28, List.size_toArray, List.length_cons, List.length_nil, Nat.reduceAdd, Nat.reduceSub, Array.replicate_succ, Array.replicate_zero, List.push_toArray, List.append_toArray, List.nil_append, List.cons_append]
  gi_wp2
  rw [← unhid HWA]
  refine ⟨trivial, (callsIn_wide.2 (unhid H)).mono ?_⟩
  rintro x w1 ⟨vp, vn, rfl, ⟨t2, t3⟩, hB⟩
  obtain ⟨ap, cp, rfl⟩ := ownsRow_slice t2
  obtain ⟨an, cn, rfl⟩ := ownsRow_slice t3
  obtain ⟨hsz, hBA, hbox⟩ := unhid HA
  obtain ⟨wt, hwt⟩ : ∃ wt, wt = w1.alloc (.cells #[.slice ap (keptE es).length cp, .slice an (keptE es).length cn] 58) := ⟨_, rfl⟩
  have hB1 : Below w.heap.size w w1 := hBA.trans (hB.mono (by omega))
  have hBt : Below w1.heap.size w1 wt := by rw [hwt]; exact (Below.refl _ w1).alloc (Nat.le_refl _) _
  have hBT : Below w.heap.size w wt := hB1.trans (hBt.mono hB1.size)
  have hT : TreeAt wt wA.heap.size w1.heap.size (keptE es) := ⟨_, _, by rw [hwt]; exact World.alloc_heap_new _ _, ownsRow_kept t2 (fun g e => hBt.block g (t2.lt g e).2), ownsRow_kept t3 (fun g e => hBt.block g (t3.lt g e).2)⟩
  have hw1 : wA.heap.size ≤ w1.heap.size := hB.size
  have hbt : wt.heap[w.heap.size]? = some (.cells #[.string p] 9 (0, 0)) := (hBt.block _ (by omega)).trans ((hB.block _ (by omega)).trans hbox)
  have hk := kept_asc es
  have GET := hid (mapGet_any _ _ (keptE es) p wt (by omega) hk.1 hT)
  have d0 := (cell_of_box_l hbt).1
  rw [hwt] at d0
  have HT := hid (And.intro hBT (And.intro hbt hT))
  have HWT := hid hwt
  have KT := hid (kept_there es p)
  clear hT hBT hBt hB1 hB t2 t3 hbox hBA HA HWA H hbt hk hwt
  gi_wp2
  rw [← unhid HWT]
  refine ⟨trivial, (callsIn_wide.2 (unhid GET)).mono ?_⟩
  rintro x w2 ⟨rfl, e2⟩
  subst e2
  rw [unhid KT]
  have hgv : ∃ gv, getV (keptE es) p = gv := ⟨_, rfl⟩
  obtain ⟨gv, hgv⟩ := hgv
  rw [hgv]
  clear hgv d0
  gi_wp2
  have hkl := (kept_asc es).2
  have hka := (kept_asc es).1
  have hkb : ∀ e ∈ keptE es, entB e = true := fun x hx => by
    cases htb : treeB es
    · rw [keptE_no htb] at hx; simp at hx
    · rw [keptE_yes htb] at hx; exact tree_all htb x hx
  generalize hks : keptE es = ks at *
  have HKS := hid hks
  clear hks GET KT
  generalize hth : (treeB es && thereE es p) = th
  have HTH := hid hth
  clear hth
  obtain ⟨w3, hw3⟩ : ∃ w3, w3 = w2.alloc (.cells #[.slice none 0 0, .slice none 0 0] 58) := ⟨_, rfl⟩
  obtain ⟨w4, hw4⟩ : ∃ w4, w4 = w3.alloc (.cells #[.pointer (some ⟨w1.heap.size, 0, none⟩)] 104) := ⟨_, rfl⟩
  have hz3 : w3.heap.size = w2.heap.size + 1 := by rw [hw3]; simp
  have hz4 : w4.heap.size = w2.heap.size + 1 + 1 := by rw [hw4]; simp [hz3]
  have hB3 : Below w2.heap.size w2 w3 := by rw [hw3]; exact (Below.refl _ w2).alloc (Nat.le_refl _) _
  have hB34 : Below w3.heap.size w3 w4 := by rw [hw4]; exact (Below.refl _ w3).alloc (Nat.le_refl _) _
  have hB4 : Below w2.heap.size w2 w4 := hB3.trans (hB34.mono hB3.size)
  obtain ⟨hBT, hbx, vp, vn, t1, t2, t3⟩ := unhid HT
  have hl2 : w.heap.size < w2.heap.size := (Array.getElem?_eq_some_iff.1 hbx).1
  have hbl : w1.heap.size < w2.heap.size := (Array.getElem?_eq_some_iff.1 t1).1
  have hBw : Below w.heap.size w w4 := hBT.trans (hB4.mono (Nat.le_of_lt hl2))
  have hbx4 : w4.heap[w.heap.size]? = some (.cells #[.string p] 9 (0, 0)) := (hB4.block _ hl2).trans hbx
  have hTI : TreeIn (w2.heap.size + 1) w1.heap.size wA.heap.size vp vn ks w4 :=
    ⟨by have := (cell_new_l w3 (.pointer (some ⟨w1.heap.size, 0, none⟩)) 104).1; rw [hz3] at this; rw [hw4]; exact this,
     (hB4.block _ hbl).trans t1, ownsRow_kept t2 (fun g e => hB4.block g (t2.lt g e).2), ownsRow_kept t3 (fun g e => hB4.block g (t3.lt g e).2)⟩
  have hLT : TreeAt w4 w2.heap.size w2.heap.size (putAll (leftE p [])) := ⟨.slice none 0 0, .slice none 0 0, (hB34.block _ (by omega)).trans (by rw [hw3]; exact World.alloc_heap_new _ _), World.ownsRow_nil _ _ _ _, World.ownsRow_nil _ _ _ _⟩
  have hbn4 : w4.heap[w2.heap.size + 1]? = some (.cells #[.pointer (some ⟨w1.heap.size, 0, none⟩)] 104 (0, 0)) := by have := World.alloc_heap_new w3 (.cells #[.pointer (some ⟨w1.heap.size, 0, none⟩)] 104); rw [hz3] at this; rw [hw4]; exact this
  have HAL := hid (all_in Fence.wide 2 trivial rfl w1.heap.size w3)
  rw [hz3, ← hw4] at HAL
  have HRW := hid (And.intro (fun g (eg : vp.ownBlock = some g) => (t2.lt g eg).2) (fun g (eg : vn.ownBlock = some g) => (t3.lt g eg).2))
  rw [← hw3]
  clear hw3 hw4 t1 t2 t3 hB34 hB3 hbx hBT HWT
  refine ⟨trivial, (unhid HAL).mono ?_⟩
  rintro x w5 ⟨rfl, e5⟩
  subst e5
  gi_wp2
  refine wpIn_rangeFunc_ownF rfl (by omega) (gf := 87) (lb := #[.pointer (some ⟨w2.heap.size + 1, 0, none⟩)]) rfl trivial (enters_of Try.func87 (by kernel_rfl) rfl)
    (all_stops Fence.wide _ trivial rfl (by omega) (w2.heap.size + 1) w1.heap.size wA.heap.size vp vn ks (by omega) (fun e => entB e = true) hkb _ hTI) (fun h g x => g (h x)) (fun W l o o' _ hl hc _ h => treeIn_grown h (grownBy_putObj' _ l o') (fun r e => by cases e; exact ⟨_, hl, hc⟩)) (Below.refl _ _) (fun _ => rfl)
    (fun pre W => (TreeAt W w2.heap.size w2.heap.size (putAll (leftE p (pre.map (·.1)))) ∧ TreeIn (w2.heap.size + 1) w1.heap.size wA.heap.size vp vn ks W ∧ W.heap[w.heap.size]? = some (.cells #[.string p] 9 (0, 0)) ∧ W.heap[w2.heap.size + 1]? = some (.cells #[.pointer (some ⟨w1.heap.size, 0, none⟩)] 104 (0, 0))) ∧ Below w.heap.size w W)
    (fun _ _ _ => False)
    (OwnFrom.and (Own.from (fun s A B row hs hg hr => ⟨treeAt_grown hs.1 hg hr, treeIn_grown hs.2.1 hg hr, cells_grown hg hr hs.2.2.1, cells_grown hg hr hs.2.2.2⟩) _) (ownFrom_below (Nat.le_refl _) (by omega)))
    (fun c => fun _ _ _ _ h _ _ => h)
    ⟨⟨hLT, hTI, hbx4, hbn4⟩, hBw⟩
    (fun x => { tmps := #[.slice a es.length cap, .string p, undef, .pointer (some ⟨w.heap.size, 0, none⟩), .slice none 0 0, .bool false, .pointer (some ⟨w1.heap.size, 0, none⟩), .bool (treeB es), gv, .bool th, .pointer (some ⟨w2.heap.size, 0, none⟩), .string x.1.path, nodeV x.1,
      .tuple #[.agg #[.slice ap ks.length cp, .slice an ks.length cn], .bool (treeB es)], .slice a es.length cap, .tuple #[.agg #[.slice ap ks.length cp, .slice an ks.length cn], .bool (treeB es)], .agg #[.slice ap ks.length cp, .slice an ks.length cn], .bool (treeB es), .tuple #[gv, .bool th],
      .pointer (some ⟨w1.heap.size, 0, none⟩), .string p, .tuple #[gv, .bool th], gv, .bool th, .agg #[.slice none 0 0, .slice none 0 0], .pointer (some ⟨w1.heap.size, 0, none⟩), .func (.func 87) #[] #[.pointer (some ⟨w2.heap.size + 1, 0, none⟩)], .string x.1.path, nodeV x.1, undef, undef, undef, undef, undef, undef, undef, undef, undef, undef], defers := [] }) ?assign ?body ?done ?stop
  case assign =>
    intro l x W K hK
    gi_wp2
    exact hK
  case stop => intro D c pre W _ _ h _; exact h.elim
  case body =>
    rintro l pre ⟨e, hx⟩ W ⟨⟨hL, hTI2, hbW, hbn⟩, hB⟩ hpl
    dsimp only
    have hpx : e.path.size ≤ maxLen := by have := ent_path_len hx; unfold maxLen; omega
    have d0 := (cell_of_box_l hbW).1
    obtain ⟨T0, nv, hnv⟩ := nodeV_shape e
    have hpre : (pre.map (·.1)).length = pre.length := List.length_map _
    have hwl : w.heap.size < W.heap.size := (Array.getElem?_eq_some_iff.1 hbW).1
    gi_wp2
    refine ⟨trivial, (CallsIn.inRound l (callsIn_wide.2 (PathIn_any p e.path (by unfold maxLen; omega) hpx _))).mono ?_⟩
    rintro x W2 ⟨rfl, hb⟩
    have hO := KeepsOthers_of_below hb
    have hL2 := hL.below hb
    have HL0 := hid hL2
    have hT2 := treeIn_below hTI2 hb
    have hb2 := (hb.block _ hwl).trans hbW
    have hbn2 := (hb.block _ (Array.getElem?_eq_some_iff.1 hbn).1).trans hbn
    have hB2 := hB.trans (hb.mono hB.size)
    clear hb d0
    cases hin : inB p.data.toList e.path.data.toList
    · have hle : leftE p ((pre ++ [(⟨e, hx⟩ : { e : Ent // entB e = true })]).map (·.1)) = leftE p (pre.map (·.1)) ++ [e] := by unfold leftE; rw [List.map_append, List.filter_append]; simp [hin]
      have hlen : (putAll (leftE p (pre.map (·.1)))).length ≤ 900 := by
        have h1 := putAll_len (leftE p (pre.map (·.1)))
        have h2 : (leftE p (pre.map (·.1))).length ≤ (pre.map (·.1)).length := List.length_filter_le _ _
        omega
      have hput := mapPut_any w2.heap.size w2.heap.size (putAll (leftE p (pre.map (·.1)))) e W2 hlen (up_asc (putAll_up _)) (Nat.le_refl _) hL2
      rw [← putAll_snoc, ← hle] at hput
      rw [hnv] at hput ⊢
      have HP := hid hput
      have HI := hid (And.intro hO (And.intro hT2 (And.intro hb2 (And.intro hbn2 hB2))))
      clear hput hO hL2 hT2 hb2 hB2 hle hlen hL hTI2 hbW hB hbn hbn2
      gi_wp2
      refine ⟨trivial, (CallsIn.inRound l (callsIn_wide.2 (unhid HP))).mono ?_⟩
      rintro x W3 ⟨⟨v, rfl⟩, hT3, hB3, hO3⟩
      obtain ⟨hO, hT2, hb2, hbn2, hB2⟩ := unhid HI
      have hap2 : Apart (.cells #[.pointer (some ⟨w1.heap.size, 0, none⟩)] 104 (0, 0)) := apart_of (by decide)
      have HF := hid (show KeepsOthers W W3 ∧ (TreeIn (w2.heap.size + 1) w1.heap.size wA.heap.size vp vn ks W → TreeIn (w2.heap.size + 1) w1.heap.size wA.heap.size vp vn ks W3) ∧ (TreeAt W3 w2.heap.size w2.heap.size (putAll (leftE p ((pre ++ [(⟨e, hx⟩ : { e : Ent // entB e = true })]).map (·.1)))) ∧ TreeIn (w2.heap.size + 1) w1.heap.size wA.heap.size vp vn ks W3 ∧ W3.heap[w.heap.size]? = some (.cells #[.string p] 9 (0, 0)) ∧ W3.heap[w2.heap.size + 1]? = some (.cells #[.pointer (some ⟨w1.heap.size, 0, none⟩)] 104 (0, 0))) ∧ Below w.heap.size w W3 by
        have hTF : TreeIn (w2.heap.size + 1) w1.heap.size wA.heap.size vp vn ks W3 := treeIn_kept2 hT2 (fun k hk => hB3.block k hk) hbl (unhid HRW).1 (unhid HRW).2 (fun o ho hap => hO3 _ o (by omega) ho hap) ⟨_, _, _, hbn2, by decide⟩
        exact ⟨hO.trans ⟨hB3.size, fun k o hk hc => by
            by_cases hkb : k = w2.heap.size
            · subst hkb; obtain ⟨_, _, q1, _⟩ := (unhid HL0); rw [hk] at q1; cases q1; cases hc
            · exact hO3 k o hkb hk (fun cs t f e => by subst e; cases hc)⟩, fun _ => hTF, ⟨hT3, hTF, (hB3.block _ hl2).trans hb2, hO3 _ _ (by omega) hbn2 hap2⟩, hB2.trans (hB3.mono (Nat.le_of_lt hl2))⟩)
      clear hT3 hB3 hO3 hO hT2 hb2 hB2 hbn2 hap2
      gi_wp2
      exact unhid HF
    · have hle : leftE p ((pre ++ [(⟨e, hx⟩ : { e : Ent // entB e = true })]).map (·.1)) = leftE p (pre.map (·.1)) := by unfold leftE; rw [List.map_append, List.filter_append]; simp [hin]
      have HF := hid (And.intro hO (And.intro hT2 (And.intro hL2 (And.intro hb2 (And.intro hbn2 hB2)))))
      have HE := hid hle
      clear hO hT2 hL2 hb2 hB2 hle hbn2
      gi_wp2
      obtain ⟨hO, hT2, hL2, hb2, hbn2, hB2⟩ := unhid HF
      exact ⟨hO, fun _ => hT2, ⟨by rw [unhid HE]; exact hL2, hT2, hb2, hbn2⟩, hB2⟩
  case done =>
    rintro D ys W hD hys ⟨⟨hL, hTI2, hbW, hbn⟩, hB⟩ hK
    rw [hys, putAll_self (leftE p ks) (List.Pairwise.filter _ (asc_up hka))] at hL
    have hlen : (leftE p ks).length ≤ 1000 := by have : (leftE p ks).length ≤ ks.length := List.length_filter_le _ _; omega
    have ENT := hid (entries_any w2.heap.size w2.heap.size (leftE p ks) W hlen (fun e he => hkb e (List.mem_filter.1 he).1) hL)
    have HI := hid (And.intro hB hK)
    have hDl := (Array.getElem?_eq_some_iff.1 hK).1
    clear hL hTI2 hbW hbn hB hK hlen
    gi_wp2
    refine ⟨trivial, (callsIn_wide.2 (unhid ENT)).mono ?_⟩
    rintro x W3 ⟨v, rfl, hown, hb3⟩
    obtain ⟨va, vc, rfl⟩ := ownsRow_slice hown
    obtain ⟨hB, hK⟩ := unhid HI
    have hK3 := (hb3.block _ hDl).trans hK
    have hB3 := hB.trans (hb3.mono hB.size)
    have HF := hid (And.intro hown (And.intro hB3 (And.intro hK3 hB.size)))
    clear hown hb3 hB hK hK3 hB3
    gi_wp2
    refine ⟨by simp, .inl ⟨_, _, rfl, run_takeDeferred (unhid HF).2.2.1, ?_⟩⟩
    obtain ⟨hown, hB3, hK3, hszW⟩ := unhid HF
    have hg := grownBy_putObj' W3 D (.deferred none)
    have hr : ∀ r, some D = some r → ∃ o : Obj, W3.heap[r]? = some o ∧ o.isCells = false := fun r e => by cases e; exact ⟨_, hK3, rfl⟩
    refine ⟨.tuple #[.slice va (leftE p ks).length vc, .bool th], ?_, _, by rw [unhid HTH], by rw [unhid HKS]; exact ownsRow_base (row_grown hg hr hown) hszW, hB3.trans (belowK_b (w := w) (Nat.le_refl _) _ D _ _ (by omega) hK3 rfl rfl)⟩
    simp [results, Try.f28, go_sem]
end Go.Proofs.Ytaefjibnnbdaaaa

/- What is left of a tree without a place, by the model. -/
namespace Go.Proofs.Ytaefjibnnbdaaaa
open Go.RowKit Go.Shelf

def dropB (p : ByteArray) (es : List Ent) : List Ent := es.filter fun e => !belowB p.data.toList e.path.data.toList
theorem dropB_snoc_yes {p : ByteArray} {es : List Ent} {k : Nat} {e : Ent} (he : es[k]? = some e) (h : belowB p.data.toList e.path.data.toList = false) : dropB p (es.take (k + 1)) = dropB p (es.take k) ++ [e] := by
  unfold dropB; rw [List.take_add_one, he, List.filter_append]; simp [h]
theorem dropB_snoc_no {p : ByteArray} {es : List Ent} {k : Nat} {e : Ent} (he : es[k]? = some e) (h : belowB p.data.toList e.path.data.toList = true) : dropB p (es.take (k + 1)) = dropB p (es.take k) := by
  unfold dropB; rw [List.take_add_one, he, List.filter_append]; simp [h]

set_option maxRecDepth 100000 in
set_option maxHeartbeats 4000000 in
theorem l2Drop_any (es : List Ent) (p : ByteArray) (b o cap : Nat) (w : World) (hs : smallE es) (hp : p.size ≤ 1048576) (h : ∀ (i : Nat) e, es[i]? = some e → EntAt w b (o + i * 4) e) (hb : b < w.heap.size) :
    Calls Try.prog 66 #[.slice (some ⟨b, o, none⟩) es.length cap, .string p] w fun x w' => ∃ v, x = .returned v ∧ w'.ownsRow w.heap.size 27 4 v (dropB p es).length (valsOf (dropB p es)) ∧ Below w.heap.size w w' := by
  obtain ⟨i0, hi0, hz0, hzs, hzb⟩ := info_parts infoEntry
  have HI := hid (And.intro hi0 (And.intro hz0 (And.intro hzs hzb)))
  have hn := hs.1
  have HS := hid hs
  have HH := hid h
  have HF0 := hid (And.intro (owns_empty w w.heap.size (Nat.le_refl _) 27) ((Below.refl w.heap.size w).alloc (Nat.le_refl _) (.cells #[] 27)))
  clear hi0 hz0 hzs hzb hs h
  go_enter Try.func66, Try.ntmps66
  go_wp2_with fail
  go_loopw [5, 6] (fun v i wr => ∃ k : Nat, k ≤ es.length ∧ i = .int .i64 (k : Int) ∧ Hid (wr.ownsRow w.heap.size 27 4 v (dropB p (es.take k)).length (valsOf (dropB p (es.take k)))) ∧ Hid (Below w.heap.size w wr)) (fun _ i _ => es.length - (intOf i).toNat)
  case atStart => exact ⟨0, Nat.zero_le _, rfl, hid (by simp [dropB, valsOf]; exact (unhid HF0).1), hid (unhid HF0).2⟩
  case round =>
    obtain ⟨k, hk, rfl, HO, HB⟩ := hrel
    obtain ⟨va, vc, rfl⟩ := ownsRow_slice (unhid HO)
    by_cases hlt : k < es.length
    · obtain ⟨e, he⟩ : ∃ e, es[k]? = some e := ⟨es[k], List.getElem?_eq_getElem hlt⟩
      obtain ⟨c0, c1, c2, c3⟩ := ((unhid HH) k e he).below (unhid HB) hb
      have hpe := ((unhid HS).2 e (List.mem_of_getElem? he)).1
      have hdl : (dropB p (es.take k)).length ≤ es.length := Nat.le_trans (List.length_filter_le _ _) (by simp; omega)
      cases hbl : belowB p.data.toList e.path.data.toList
      · have HE := hid (dropB_snoc_yes he hbl)
        clear he
        go_wp2_with fail
        refine (l1Below_any p e.path (by unfold maxLen; omega) (by unfold maxLen; omega) _).mono ?_
        rintro x w2 ⟨rfl, e2⟩
        subst e2
        rw [hbl]
        have hsz := (unhid HB).size
        have HO2 := hid ((unhid HO).alloc (.cells #[.string e.path, .int .i64 e.kind, .int .i64 e.mode, .string e.text] 27))
        have HB2 := hid ((unhid HB).alloc hsz (.cells #[.string e.path, .int .i64 e.kind, .int .i64 e.mode, .string e.text] 27))
        go_wp2_with (at_builtin; refine wpList_append_own _ rfl _ _ 23 rfl w.heap.size 27 i0 _ 4 48 Try.underlying23 (unhid HI).1 (unhid HI).2.1 (unhid HI).2.2.1 (unhid HI).2.2.2 rfl (by decide) _ (dropB p (es.take k)).length (valsOf (dropB p (es.take k))) rfl (unhid HO2) ⟨w2.heap.size, 0, none⟩ 1 1 [.string e.path, .int .i64 e.kind, .int .i64 e.mode, .string e.text] rfl rfl (lit_cells w2 _ _ _ _ _) ?c2 ?c3 ?c4 ?c5 ?_)
        case c2 => intro u hu; simp at hu; rcases hu with rfl | rfl | rfl | rfl <;> rfl
        case c3 => unfold maxLen; omega
        case c4 => omega
        case c5 => simp; omega
        intro v' w3 hown hg _
        obtain ⟨a2, cap2, rfl⟩ := ownsRow_slice hown
        have HF := hid (show w3.ownsRow w.heap.size 27 4 (.slice a2 ((dropB p (es.take k)).length + 1) cap2) (dropB p (es.take (k + 1))).length (valsOf (dropB p (es.take (k + 1)))) ∧ Below w.heap.size w w3 from
          ⟨by rw [unhid HE, List.length_append, valsOf_snoc]; exact hown, (unhid HB2).grown hg (unhid HB2).size (fun k e => ((unhid HO2).lt k e).1)⟩)
        clear hown hg
        go_wp2_with fail
        go_roundw
        case rel => exact ⟨k + 1, by omega, by go_num, hid (unhid HF).1, hid (unhid HF).2⟩
        case measure => simp [intOf]; omega
      · have HE := hid (dropB_snoc_no he hbl)
        clear he
        go_wp2_with fail
        refine (l1Below_any p e.path (by unfold maxLen; omega) (by unfold maxLen; omega) _).mono ?_
        rintro x w2 ⟨rfl, e2⟩
        subst e2
        rw [hbl]
        go_wp2_with fail
        go_roundw
        case rel => exact ⟨k + 1, by omega, by go_num, hid (by rw [unhid HE]; exact unhid HO), HB⟩
        case measure => simp [intOf]; omega
    · have e : k = es.length := by omega
      subst e
      rw [List.take_of_length_le (Nat.le_refl _)] at HO ⊢
      go_wp2_with fail
      go_ret
      exact ⟨_, rfl, unhid HO, unhid HB⟩
end Go.Proofs.Ytaefjibnnbdaaaa

/- What the draws over trees give: rows of at most seventeen entries, and paths. -/
namespace Go.Proofs.Ytaefjibnnbdaaaa
open Go.RowKit

/-- What holds behind the draw of any entries. -/
structure TA (w : World) (b : Nat) (a : Option Addr) (len cap p : Nat) (W : World) (v : Value) (es : List Ent) : Prop where
  v : TreeV W w.heap.size v es
  nice : ∀ e ∈ es, niceE e
  few : es.length ≤ 17
  rd : ∃ p', p' ≤ p ∧ Rd W b a len cap p'
  grown : w.grownBy W (some b)
theorem TA.read {w : World} {b : Nat} {a : Option Addr} {len cap p q : Nat} {W W' : World} {v : Value} {es : List Ent} (h : TA w b a len cap p W v es) (hlt : b < w.heap.size) (hg : W.grownBy W' (some b)) (hr : ∃ p', p' ≤ q ∧ Rd W' b a len cap p') : TA w b a len cap q W' v es :=
  ⟨h.v.grown hg hlt, h.nice, h.few, hr, grown_trans h.grown hg⟩
theorem TA.small {w : World} {b : Nat} {a : Option Addr} {len cap p : Nat} {W : World} {v : Value} {es : List Ent} (h : TA w b a len cap p W v es) : smallE es :=
  ⟨by have := h.few; omega, fun e he => ⟨by have := nice_short (h.nice e he).1; omega, by have : e.text.size ≤ 100 := (h.nice e he).2; omega⟩⟩

theorem Rd.low {w w' : World} {b B : Nat} {a : Option Addr} {len cap p : Nat} (h : Rd w b a len cap p) (hB : Below B w w') (hb : b < B) : Rd w' b a len cap p where
  c0 := (hB.cell (p := ⟨b, 0, none⟩) hb).trans h.c0
  c1 := (hB.cell (p := ⟨b, 1, none⟩) hb).trans h.c1
  f1 := (hB.frozen (p := ⟨b, 1, none⟩) hb).trans h.f1
  l := h.l
  d := by
    rcases h.d with h0 | ⟨blk, off, ha, hbk, hc⟩
    · exact .inl h0
    · refine .inr ⟨blk, off, ha, hbk, fun k hk => ?_⟩
      obtain ⟨c, h1, h2⟩ := hc k hk
      exact ⟨c, h1, (hB.cell (p := ⟨blk, off + k, none⟩) (Nat.lt_trans hbk hb)).trans h2⟩
theorem grown_low {w X Y : World} {b : Nat} (h : w.grownBy X (some b)) (hB : Below w.heap.size X Y) : w.grownBy Y (some b) :=
  ⟨hB.os.trans h.os, hB.tape.trans h.tape, hB.output.trans h.output, Nat.le_trans h.size hB.size, fun k hk hne => (hB.block k hk).trans (h.block k hk hne)⟩

set_option maxRecDepth 100000 in
set_option maxHeartbeats 8000000 in
theorem l11AnyTree_any (w : World) (b : Nat) (a : Option Addr) (len cap p : Nat) (h : Rd w b a len cap p) (hp : p ≤ 700000) :
    Calls Try.prog 52 #[.pointer (some ⟨b, 0, none⟩)] w fun x w' => ∃ v, x = .returned v ∧ ∃ es, TA w b a len cap (p + 70) w' v es := by
  obtain ⟨i0, hi0, hz0, hzs, hzb⟩ := info_parts infoEntry
  have HI := hid (And.intro hi0 (And.intro hz0 (And.intro hzs hzb)))
  clear hi0 hz0 hzs hzb
  have hbl := h.lt
  have H := hid h
  clear h
  go_enter Try.func52, Try.ntmps52
  go_wp2_with fail
  refine (l11Tree_any w b a len cap p (unhid H) (by omega)).mono ?_
  rintro x w1 ⟨v, rfl, es, hT⟩
  have HT := hid hT
  obtain ⟨g, c, rfl, ho⟩ := hT.v
  obtain ⟨e1, e2, e3, e4⟩ := TreeV.ents ho
  have CP := hid (l2Copy_some es g 0 c w1 (by have := hT.few; omega) e1 (.inr e2))
  clear ho e1 e2 e3 e4 hT H
  go_wp2_with fail
  refine (unhid CP).mono ?_
  rintro x w2 ⟨g2, c2, rfl, ho2, hB2⟩
  have hg1 := (unhid HT).grown
  have T2 : TA w b a len cap (p + 50) w2 (.slice (some ⟨g2, 0, none⟩) es.length c2) es := ⟨⟨g2, c2, rfl, ownsRow_base ho2 hg1.size⟩, (unhid HT).nice, by have := (unhid HT).few; omega, by obtain ⟨p', h1, h2⟩ := (unhid HT).rd; exact ⟨p', h1, h2.of_below hB2⟩, grown_lift hg1 hB2⟩
  have HT2 := hid (And.intro T2 (unhid HT).few)
  clear T2 hg1 ho2 hB2 HT CP
  go_wp2_with fail
  obtain ⟨q, hq, hR⟩ := (unhid HT2).1.rd
  refine (pick_any w2 b a len cap q hR (by omega) 14 (by omega) (by omega)).mono ?_
  rintro e w3 ⟨r, hr, rfl, hR3, hG3⟩
  have HT3 := hid (And.intro ((unhid HT2).1.read hbl hG3 ⟨q + 1, Nat.le_refl _, hR3⟩) (unhid HT2).2)
  clear hR hR3 hG3 HT2
  have hr5 : r = 0 ∨ r = 1 ∨ 2 ≤ r := by omega
  rcases hr5 with rfl | rfl | hr2
  · go_wp2_with fail
    obtain ⟨q2, hq2, hR⟩ := (unhid HT3).1.rd
    refine (l11AnyEntry_any w3 b a len cap q2 hR (by omega)).mono ?_
    rintro x w4 ⟨⟨x, k, m, t⟩, he, rfl, ⟨q3, hq3, hR4⟩, hG4⟩
    have HT4 := hid (And.intro ((unhid HT3).1.read hbl hG4 ⟨q3, Nat.le_refl _, hR4⟩) (unhid HT3).2)
    clear hR hR4 hG4 HT3
    unfold Ent.vals
    dsimp only
    have T5 : TA w b a len cap q3 (w4.alloc (.cells #[.string x, .int .i64 k, .int .i64 m, .string t] 27)) (.slice (some ⟨g2, 0, none⟩) es.length c2) es :=
      (unhid HT4).1.read hbl (World.grownBy_alloc w4 _ _) (by obtain ⟨p', h1, h2⟩ := (unhid HT4).1.rd; exact ⟨p', h1, h2.alloc _⟩)
    obtain ⟨_, _, hv, ho⟩ := T5.v
    cases hv
    have HO := hid ho
    have HT5 := hid (And.intro T5 (unhid HT4).2)
    have hsz : w.heap.size ≤ w4.heap.size := (unhid HT4).1.grown.size
    have hfew := (unhid HT4).2
    clear T5 ho HT4
    go_wp2_with (at_builtin; refine wpList_append_own _ rfl _ _ 23 rfl w.heap.size 27 i0 _ 4 48 Try.underlying23 (unhid HI).1 (unhid HI).2.1 (unhid HI).2.2.1 (unhid HI).2.2.2 rfl (by decide) _ es.length (valsOf es) rfl (unhid HO) ⟨w4.heap.size, 0, none⟩ 1 1 [.string x, .int .i64 k, .int .i64 m, .string t] rfl rfl (lit_cells w4 _ _ _ _ _) ?c2 ?c3 ?c4 ?c5 ?_)
    case c2 => intro u hu; simp at hu; rcases hu with rfl | rfl | rfl | rfl <;> rfl
    case c3 => unfold maxLen; omega
    case c4 => omega
    case c5 => simp; omega
    intro v' w5 hown hg hnil
    have hown2 : w5.ownsRow w.heap.size 27 4 v' (es ++ [(⟨x, k, m, t⟩ : Ent)]).length (valsOf (es ++ [(⟨x, k, m, t⟩ : Ent)])) := by
      rw [List.length_append, valsOf_snoc]; exact hown
    have hlow := (Below.refl w.heap.size (w4.alloc (.cells #[.string x, .int .i64 k, .int .i64 m, .string t] 27))).grown hg (by simp; omega) (fun k e => ((unhid HO).lt k e).1)
    have HF := hid (show TA w b a len cap (p + 70) w5 v' (es ++ [⟨x, k, m, t⟩]) from ⟨treeV_of hown2 (owns_some hown2 (by simp)), fun y hy => by
      rcases List.mem_append.1 hy with hy | hy
      · exact (unhid HT5).1.nice y hy
      · rw [List.mem_singleton.1 hy]; exact he, by simp; omega, by obtain ⟨p', h1, h2⟩ := (unhid HT5).1.rd; exact ⟨p', by omega, h2.low hlow hbl⟩, grown_low (unhid HT5).1.grown hlow⟩)
    clear hown hg hown2 hlow
    go_wp2_with fail
    go_ret
    exact ⟨_, rfl, _, unhid HF⟩
  · by_cases h0 : es = []
    · subst h0
      go_wp2_with fail
      go_ret
      exact ⟨_, rfl, [], (unhid HT3).1.v, (unhid HT3).1.nice, (unhid HT3).1.few, by obtain ⟨p', h1, h2⟩ := (unhid HT3).1.rd; exact ⟨p', by omega, h2⟩, (unhid HT3).1.grown⟩
    · have hl0 : (0 : Int) < (es.length : Int) := by have := List.length_pos_iff.2 h0; omega
      have hfew := (unhid HT3).2
      go_wp2_with fail
      obtain ⟨q2, hq2, hR⟩ := (unhid HT3).1.rd
      refine (pick_any w3 b a len cap q2 hR (by omega) es.length (by omega) (by omega)).mono ?_
      rintro e w4 ⟨j, hj, rfl, hR4, hG4⟩
      have HT4 := hid (And.intro ((unhid HT3).1.read hbl hG4 ⟨q2 + 1, Nat.le_refl _, hR4⟩) (unhid HT3).2)
      clear hR hR4 hG4 HT3
      go_wp2_with fail
      obtain ⟨q3, hq3, hR⟩ := (unhid HT4).1.rd
      refine (l11AnyEntry_any w4 b a len cap q3 hR (by omega)).mono ?_
      rintro x w5 ⟨⟨x, k, m, t⟩, he, rfl, ⟨q4, hq4, hR4⟩, hG4⟩
      have HT5 := hid (And.intro ((unhid HT4).1.read hbl hG4 ⟨q4, Nat.le_refl _, hR4⟩) (unhid HT4).2)
      clear hR hR4 hG4 HT4
      unfold Ent.vals
      dsimp only
      obtain ⟨_, _, hv, ho⟩ := (unhid HT5).1.v
      cases hv
      have hjl : j < es.length := by omega
      have hjl' : (j : Int) < (es.length : Int) := hj
      have HO := hid (ownsRow_set4 ho hjl rfl ⟨x, k, m, t⟩)
      have hlow := below_set4 (Below.refl w.heap.size w5) (ho.lt _ rfl).1 j ⟨x, k, m, t⟩
      have HL := hid hlow
      obtain ⟨a1, cap1, ev, hRr⟩ := rowIn_of_owns ho
      cases ev
      rcases hRr with hnil | ⟨g', hg', _, _, hRr⟩
      · rw [hnil] at hjl; simp at hjl
      cases hg'
      obtain ⟨⟨cc0, cc1, cc2, cc3⟩, f0, f1, f2, f3⟩ := hRr.cells j hjl
      clear hlow hRr ho h0
      go_wp2_with fail
      go_ret
      refine ⟨_, rfl, es.set j ⟨x, k, m, t⟩, ⟨g2, c2, by rw [List.length_set]; rfl, by rw [List.length_set]; exact unhid HO⟩, fun y hy => ?_, by rw [List.length_set]; omega, ?_, grown_low (unhid HT5).1.grown (unhid HL)⟩
      · rcases List.mem_or_eq_of_mem_set hy with hy | rfl
        · exact (unhid HT5).1.nice y hy
        · exact he
      · obtain ⟨p', h1, h2⟩ := (unhid HT5).1.rd
        exact ⟨p', by omega, h2.low (unhid HL) hbl⟩
  · have b0 : ((r : Int) == 0) = false := by rw [beq_eq_false_iff_ne]; omega
    have b1 : ((r : Int) == 1) = false := by rw [beq_eq_false_iff_ne]; omega
    go_wp2_with fail
    go_ret
    exact ⟨_, rfl, es, (unhid HT3).1.v, (unhid HT3).1.nice, (unhid HT3).1.few, by obtain ⟨p', h1, h2⟩ := (unhid HT3).1.rd; exact ⟨p', by omega, h2⟩, (unhid HT3).1.grown⟩

set_option maxRecDepth 100000 in
set_option maxHeartbeats 2000000 in
theorem l11At_any (w : World) (b : Nat) (a : Option Addr) (len cap p : Nat) (es : List Ent) (g c : Nat) (h : Rd w b a len cap p) (hp : p ≤ 800000) (hg : b < g) (hn : es.length ≤ 17) (hni : ∀ e ∈ es, niceE e) (hE : (∀ (i : Nat) e, es[i]? = some e → EntAt w g (0 + i * 4) e) ∧ g < w.heap.size) :
    Calls Try.prog 53 #[.pointer (some ⟨b, 0, none⟩), .slice (some ⟨g, 0, none⟩) es.length c] w fun x w' => ∃ y, x = .returned (.string y) ∧ nice y ∧ (∃ p', p' ≤ p + 3 ∧ Rd w' b a len cap p') ∧ w.grownBy w' (some b) := by
  have H := hid (And.intro h (And.intro hni hE))
  clear h hni hE
  by_cases h0 : es = []
  · subst h0
    go_enter Try.func53, Try.ntmps53
    go_wp2_with fail
    refine (l11AnyPath_nice w b a len cap p (unhid H).1 (by omega)).mono ?_
    rintro e w1 ⟨y, hy, rfl, hR, hG⟩
    have HF := hid (And.intro hR hG)
    clear hR hG
    go_wp2_with fail
    go_ret
    exact ⟨y, rfl, hy, ⟨_, by omega, (unhid HF).1⟩, (unhid HF).2⟩
  · have hl0 : (0 : Int) < (es.length : Int) := by have := List.length_pos_iff.2 h0; omega
    clear h0
    go_enter Try.func53, Try.ntmps53
    go_wp2_with fail
    refine (pick_any w b a len cap p (unhid H).1 (by omega) 4 (by omega) (by omega)).mono ?_
    rintro e w1 ⟨r, hr, rfl, hR, hG⟩
    have H1 := hid (And.intro hR (And.intro hG (fun i e hi => (EntAt.mk ((World.cell?_of_block (w := w) (hG.block g (unhid H).2.2.2 (by intro e; injection e; omega))).trans ((unhid H).2.2.1 i e hi).c0) ((World.cell?_of_block (w := w) (hG.block g (unhid H).2.2.2 (by intro e; injection e; omega))).trans ((unhid H).2.2.1 i e hi).c1) ((World.cell?_of_block (w := w) (hG.block g (unhid H).2.2.2 (by intro e; injection e; omega))).trans ((unhid H).2.2.1 i e hi).c2) ((World.cell?_of_block (w := w) (hG.block g (unhid H).2.2.2 (by intro e; injection e; omega))).trans ((unhid H).2.2.1 i e hi).c3) : EntAt w1 g (0 + i * 4) e))))
    have hz1 : g < w1.heap.size := Nat.lt_of_lt_of_le (unhid H).2.2.2 hG.size
    clear hR hG
    by_cases hr0 : r = 0
    · subst hr0
      go_wp2_with fail
      refine (l11AnyPath_nice w1 b a len cap (p + 1) (unhid H1).1 (by omega)).mono ?_
      rintro e w2 ⟨y, hy, rfl, hR, hG⟩
      have HF := hid (And.intro hR (grown_trans (unhid H1).2.1 hG))
      clear hR hG
      go_wp2_with fail
      go_ret
      exact ⟨y, rfl, hy, ⟨_, by omega, (unhid HF).1⟩, (unhid HF).2⟩
    · have hr1 : (0 : Int) < (r : Int) := by omega
      go_wp2_with fail
      refine (pick_any w1 b a len cap (p + 1) (unhid H1).1 (by omega) es.length (by omega) (by omega)).mono ?_
      rintro e w2 ⟨j, hj, rfl, hR, hG⟩
      have hjl : j < es.length := by omega
      have c0 := (World.cell?_of_block (w := w1) (hG.block g hz1 (by intro e; injection e; omega))).trans ((unhid H1).2.2 j es[j] (List.getElem?_eq_getElem hjl)).c0
      rw [Nat.zero_add] at c0
      have hy := ((unhid H).2.1 es[j] (List.getElem_mem hjl)).1
      have HF := hid (And.intro hR (grown_trans (unhid H1).2.1 hG))
      generalize es[j].path = y at c0 hy
      clear hR hG
      go_wp2_with fail
      go_ret
      exact ⟨y, rfl, hy, ⟨_, by omega, (unhid HF).1⟩, (unhid HF).2⟩
end Go.Proofs.Ytaefjibnnbdaaaa

/- What the laws over trees draw. -/
namespace Go.Proofs.Ytaefjibnnbdaaaa
open Go.RowKit

/-- Drawn entries, in a row of their own. -/
structure Drawn (w W : World) (v : Value) (es : List Ent) : Prop where
  v : TreeV W w.heap.size v es
  nice : ∀ e ∈ es, niceE e
  few : es.length ≤ 17
  below : Below w.heap.size w W
theorem Drawn.small {w W : World} {v : Value} {es : List Ent} (h : Drawn w W v es) : smallE es :=
  ⟨by have := h.few; omega, fun e he => ⟨by have := nice_short (h.nice e he).1; omega, by have : e.text.size ≤ 100 := (h.nice e he).2; omega⟩⟩
theorem Drawn.later {w W W' : World} {v : Value} {es : List Ent} (h : Drawn w W v es) (hb : Below W.heap.size W W') : Drawn w W' v es :=
  ⟨h.v.below hb, h.nice, h.few, h.below.trans (hb.mono h.below.size)⟩
theorem drawn_of {w w1 W : World} {b : Nat} {a : Option Addr} {len cap p : Nat} {v : Value} {es : List Ent} (h : TA w1 b a len cap p W v es) (h1 : Below w.heap.size w w1) (hb : w.heap.size ≤ b) : Drawn w W v es :=
  ⟨h.v.base h1.size, h.nice, h.few, h1.trans (grown_below h.grown hb h1.size)⟩
set_option maxRecDepth 100000 in
set_option maxHeartbeats 2000000 in
theorem DrawTreeGet_any (w : World) (a : Option Addr) (len cap : Nat) (h : Code w w.heap.size a len) (hl : len ≤ 1048576) (hc : len ≤ cap) :
    Calls Try.prog 43 #[.slice a len cap] w fun x w' => ∃ v y, x = .returned (.tuple #[v, .string y]) ∧ nice y ∧ ∃ es, Drawn w w' v es := by
  have H := hid h
  clear h
  go_enter Try.func43, Try.ntmps43
  go_wp2_with fail
  refine (l1Open_any w a len cap (unhid H) hl hc).mono ?_
  rintro e w1 ⟨rfl, ⟨l', c', hR⟩, hB⟩
  have HR := hid hR
  have HB := hid hB
  clear hR hB H
  go_wp2_with fail
  refine (l11AnyTree_any w1 _ a l' c' 0 (unhid HR) (by omega)).mono ?_
  rintro e w2 ⟨v, rfl, es, hT⟩
  have HT := hid hT
  have hlt := (unhid HR).lt
  obtain ⟨g, c, rfl, ho⟩ := hT.v
  have HE := hid (TreeV.ents ho)
  clear hT ho HR
  go_wp2_with fail
  obtain ⟨q, hq, hR⟩ := (unhid HT).rd
  refine (l11At_any w2 _ a l' c' q es g c hR (by omega) (by have := (unhid HE).2.2.1; omega) (unhid HT).few (unhid HT).nice ⟨(unhid HE).1, (unhid HE).2.1⟩).mono ?_
  rintro e w3 ⟨y, rfl, hy, hr, hG⟩
  have HF := hid (drawn_of (w := w) ((unhid HT).read hlt hG (q := q + 3) hr) (unhid HB) (Nat.le_refl _))
  clear hr hG hR HT
  go_wp2_with fail
  go_ret2
  exact ⟨_, _, rfl, hy, es, unhid HF⟩
set_option maxRecDepth 100000 in
set_option maxHeartbeats 2000000 in
theorem DrawTreeMove_any (w : World) (a : Option Addr) (len cap : Nat) (h : Code w w.heap.size a len) (hl : len ≤ 1048576) (hc : len ≤ cap) :
    Calls Try.prog 18 #[.slice a len cap] w fun x w' => ∃ v y z, x = .returned (.tuple #[v, .string y, .string z]) ∧ nice y ∧ nice z ∧ ∃ es, Drawn w w' v es := by
  have H := hid h
  clear h
  go_enter Try.func18, Try.ntmps18
  go_wp2_with fail
  refine (l1Open_any w a len cap (unhid H) hl hc).mono ?_
  rintro e w1 ⟨rfl, ⟨l', c', hR⟩, hB⟩
  have HR := hid hR
  have HB := hid hB
  clear hR hB H
  go_wp2_with fail
  refine (l11AnyTree_any w1 _ a l' c' 0 (unhid HR) (by omega)).mono ?_
  rintro e w2 ⟨v, rfl, es, hT⟩
  have HT := hid hT
  have hlt := (unhid HR).lt
  obtain ⟨g, c, rfl, ho⟩ := hT.v
  have HE := hid (TreeV.ents ho)
  clear hT ho HR
  go_wp2_with fail
  obtain ⟨q, hq, hR⟩ := (unhid HT).rd
  refine (l11At_any w2 _ a l' c' q es g c hR (by omega) (by have := (unhid HE).2.2.1; omega) (unhid HT).few (unhid HT).nice ⟨(unhid HE).1, (unhid HE).2.1⟩).mono ?_
  rintro e w3 ⟨y, rfl, hy, hr, hG⟩
  have HT3 := hid ((unhid HT).read hlt hG (q := q + 3) hr)
  clear hr hG hR HT
  go_wp2_with fail
  obtain ⟨q3, hq3, hR⟩ := (unhid HT3).rd
  refine (l11AnyPath_nice w3 _ a l' c' q3 hR (by omega)).mono ?_
  rintro e w4 ⟨z, hz, rfl, hr, hG⟩
  have HF := hid (drawn_of (w := w) ((unhid HT3).read hlt hG (q := q3 + 2) ⟨_, Nat.le_refl _, hr⟩) (unhid HB) (Nat.le_refl _))
  clear hr hG hR HT3
  go_wp2_with fail
  refine bodyPost_ret (v := .tuple #[.slice (some ⟨g, 0, none⟩) es.length c, .string y, .string z]) (by simp [results, Try.results18, go_sem]) rfl ⟨_, _, _, rfl, hy, hz, es, unhid HF⟩
set_option maxRecDepth 100000 in
set_option maxHeartbeats 2000000 in
theorem DrawTreeText_any (w : World) (a : Option Addr) (len cap : Nat) (h : Code w w.heap.size a len) (hl : len ≤ 1048576) (hc : len ≤ cap) :
    Calls Try.prog 35 #[.slice a len cap] w fun x w' => ∃ v, x = .returned v ∧ ∃ es, Drawn w w' v es := by
  have H := hid h
  clear h
  go_enter Try.func35, Try.ntmps35
  go_wp2_with fail
  refine (l1Open_any w a len cap (unhid H) hl hc).mono ?_
  rintro e w1 ⟨rfl, ⟨l', c', hR⟩, hB⟩
  have HR := hid hR
  have HB := hid hB
  clear hR hB H
  go_wp2_with fail
  refine (l11AnyTree_any w1 _ a l' c' 0 (unhid HR) (by omega)).mono ?_
  rintro e w2 ⟨v, rfl, es, hT⟩
  have HF := hid (drawn_of (w := w) hT (unhid HB) (Nat.le_refl _))
  clear hT
  go_wp2_with fail
  go_ret
  exact ⟨_, rfl, es, unhid HF⟩
set_option maxRecDepth 100000 in
set_option maxHeartbeats 2000000 in
theorem DrawTreePut_any (w : World) (a : Option Addr) (len cap : Nat) (h : Code w w.heap.size a len) (hl : len ≤ 1048576) (hc : len ≤ cap) :
    Calls Try.prog 23 #[.slice a len cap] w fun x w' => ∃ v e, x = .returned (.tuple #[v, .agg e.vals]) ∧ niceE e ∧ ∃ es, Drawn w w' v es := by
  have hcode : Code (w.alloc (.cells #[.string ⟨#[]⟩, .int .i64 0, .int .i64 0, .string ⟨#[]⟩] 27)) (w.alloc (.cells #[.string ⟨#[]⟩, .int .i64 0, .int .i64 0, .string ⟨#[]⟩] 27)).heap.size a len := by
    rcases h with h | ⟨blk, off, ha, hb, hcc⟩
    · exact .inl h
    · refine .inr ⟨blk, off, ha, by simp; omega, fun k hk => ?_⟩
      obtain ⟨c, h1, h2⟩ := hcc k hk
      exact ⟨c, h1, (((Below.refl w.heap.size w).alloc (Nat.le_refl _) _).cell (p := ⟨blk, off + k, none⟩) hb).trans h2⟩
  have H := hid hcode
  clear h hcode
  go_enter Try.func23, Try.ntmps23
  go_wp2_with fail
  refine (l1Open_any _ a len cap (unhid H) hl hc).mono ?_
  rintro e w1 ⟨rfl, ⟨l', c', hR⟩, hB⟩
  have hsz : (w.alloc (.cells #[.string ⟨#[]⟩, .int .i64 0, .int .i64 0, .string ⟨#[]⟩] 27)).heap.size = w.heap.size + 1 := by simp
  rw [hsz] at hR hB ⊢
  have HR := hid hR
  have O1 : OneAt w1 w.heap.size Ent.none := (hB.block _ (by omega)).trans (World.alloc_heap_new w _)
  have HB := hid (And.intro (((Below.refl _ w).alloc (Nat.le_refl _) _).trans (hB.mono (by omega))) O1)
  clear hR hB H O1 hsz
  have hlt := (unhid HR).lt
  go_wp2_with fail
  refine (l11AnyTree_any w1 _ a l' c' 0 (unhid HR) (by omega)).mono ?_
  rintro e w2 ⟨v, rfl, es, hT⟩
  have HT := hid hT
  clear hT HR
  go_wp2_with fail
  obtain ⟨q, hq, hR⟩ := (unhid HT).rd
  refine (l11AnyEntry_any w2 _ a l' c' q hR (by omega)).mono ?_
  rintro e w3 ⟨⟨x, k, m, t⟩, he, rfl, hr, hG⟩
  have HT3 := hid ((unhid HT).read hlt hG (q := q + 8) hr)
  have O3 : OneAt w3 w.heap.size Ent.none := (hG.block _ (by have := (unhid HT).grown.size; omega) (by intro e; injection e; omega)).trans (((unhid HT).grown.block _ (by omega) (by intro e; injection e; omega)).trans (unhid HB).2)
  have HF := hid (drawn_of (w := w) (unhid HT3) (unhid HB).1 (by omega))
  clear hr hG hR HT
  obtain ⟨⟨c0, c1, c2, c3⟩, f0, f1, f2, f3⟩ := four_cells O3
  unfold Ent.vals
  dsimp only
  go_wp2_with fail
  refine bodyPost_ret (v := .tuple #[v, .agg #[.string x, .int .i64 k, .int .i64 m, .string t]]) (by simp [results, Try.results23, go_sem, World.cell?_setCell_same', c0, c1, c2, c3]) rfl ⟨v, ⟨x, k, m, t⟩, rfl, he, es, ?_⟩
  have hb4 := below_set4 (Below.refl w.heap.size w3) (Nat.le_refl _) 0 ⟨x, k, m, t⟩
  have hd := unhid HF
  refine ⟨((unhid HT3).v.kept (fun j h1 _ => ?_)).base (by omega), hd.nice, hd.few, hd.below.trans hb4⟩
  rw [Below.heap_setCell _ _ _ _ (by dsimp only; omega), Below.heap_setCell _ _ _ _ (by dsimp only; omega), Below.heap_setCell _ _ _ _ (by dsimp only; omega), Below.heap_setCell _ _ _ _ (by dsimp only; omega)]
set_option maxRecDepth 100000 in
set_option maxHeartbeats 2000000 in
theorem DrawTreeDrop_any (w : World) (a : Option Addr) (len cap : Nat) (h : Code w w.heap.size a len) (hl : len ≤ 1048576) (hc : len ≤ cap) :
    Calls Try.prog 27 #[.slice a len cap] w fun x w' => ∃ v y, x = .returned (.tuple #[v, .string y]) ∧ nice y ∧ ∃ es, Drawn w w' v es := by
  have H := hid (DrawTreeGet_any w a len cap h hl hc)
  clear h
  go_enter Try.func27, Try.ntmps27
  go_wp2_with fail
  refine (unhid H).mono ?_
  rintro e w1 ⟨v, y, rfl, hy, es, hD⟩
  have HF := hid hD
  clear hD
  go_wp2_with fail
  go_ret2
  exact ⟨_, _, rfl, hy, es, unhid HF⟩
set_option maxRecDepth 100000 in
set_option maxHeartbeats 2000000 in
theorem DrawTreeFollow_any (w : World) (a : Option Addr) (len cap : Nat) (h : Code w w.heap.size a len) (hl : len ≤ 1048576) (hc : len ≤ cap) :
    Calls Try.prog 14 #[.slice a len cap] w fun x w' => ∃ v y, x = .returned (.tuple #[v, .string y]) ∧ nice y ∧ ∃ es, Drawn w w' v es := by
  have H := hid (DrawTreeGet_any w a len cap h hl hc)
  clear h
  go_enter Try.func14, Try.ntmps14
  go_wp2_with fail
  refine (unhid H).mono ?_
  rintro e w1 ⟨v, y, rfl, hy, es, hD⟩
  have HF := hid hD
  clear hD
  go_wp2_with fail
  go_ret2
  exact ⟨_, _, rfl, hy, es, unhid HF⟩
end Go.Proofs.Ytaefjibnnbdaaaa

/- An entry put into a tree: which blocks change, and where its rows lie then. -/
namespace Go.Proofs.Ytaefjibnnbdaaaa
open Go.RowKit Go.Shelf

/-- A tree at a block, its rows by name. -/
def RowsV (W : World) (N bt : Nat) (vp vn : Value) (es : List Ent) : Prop := W.heap[bt]? = some (.cells #[vp, vn] 58 (0, 0)) ∧ W.ownsRow N 9 1 vp es.length (es.map fun e => .string e.path) ∧ W.ownsRow N 62 1 vn es.length (es.map nodeV)
/-- A row is where it was, or new. -/
def FreshV (w : World) (v v' : Value) : Prop := ∀ k, v'.ownBlock = some k → v.ownBlock = some k ∨ w.heap.size ≤ k
/-- Behind a put: the tree, its rows where they were or new; nothing else has changed. -/
def PutV (w w' : World) (N bt : Nat) (vp vn : Value) (es : List Ent) : Prop := (∃ vp' vn', RowsV w' N bt vp' vn' es ∧ FreshV w vp vp' ∧ FreshV w vn vn') ∧ Below N w w' ∧ (∀ k o, k ≠ bt → w.heap[k]? = some o → Apart o → w'.heap[k]? = some o) ∧ ∀ k, k < w.heap.size → k ≠ bt → vp.ownBlock ≠ some k → vn.ownBlock ≠ some k → w'.heap[k]? = w.heap[k]?

set_option maxRecDepth 100000 in
set_option maxHeartbeats 4000000 in
theorem mapPut_insV (N bt : Nat) (vp vn : Value) (es : List Ent) (e : Ent) (w : World) (hn : es.length ≤ 900) (ha : Asc (pathsOf es)) (hN : N ≤ bt) (ht0 : thereE es e.path = false) (h : RowsV w N bt vp vn es) :
    Calls Try.prog 57 #[.pointer (some ⟨bt, 0, .none⟩), .string e.path, nodeV e] w fun x w' => (∃ v, x = .returned v) ∧ PutV w w' N bt vp vn (insAt es e) := by
  obtain ⟨h1, h2, h3⟩ := h
  have hbl : bt < w.heap.size := (Array.getElem?_eq_some_iff.1 h1).1
  obtain ⟨a, cap, hva, hT⟩ := texts_of h2
  have hpn : (pathsOf es).length = es.length := by simp [pathsOf]
  have hl : (pathsOf es).length ≤ 1048576 := by omega
  have ht : thereP (pathsOf es) e.path = false := by rw [thereP_E, ht0]
  have hpp : placeP (pathsOf es) e.path = placeE es e.path := placeP_E _ _
  have hkl : placeE es e.path ≤ es.length := placeE_le es e.path
  have hins : insAt es e = es.take (placeE es e.path) ++ [e] ++ es.drop (placeE es e.path) := rfl
  have hT1 : ∀ v ∈ es.map (fun e => Value.string e.path), v.oneCell' = true := fun v hv => by obtain ⟨x, -, rfl⟩ := List.mem_map.1 hv; rfl
  have hN1 : ∀ v ∈ es.map nodeV, v.oneCell' = true := fun v hv => by obtain ⟨x, -, rfl⟩ := List.mem_map.1 hv; exact nodeV_one x
  obtain ⟨k, hk⟩ : ∃ k, placeE es e.path = k := ⟨_, rfl⟩
  rw [hk] at hpp hkl hins
  rw [hins]
  have hS := BinarySearch_any (pathsOf es) a cap e.path w hl ha hT
  rw [hpp, ht, hpn] at hS
  rw [hpn] at hva
  subst hva
  obtain ⟨T, nv, hV⟩ := nodeV_shape e
  have hIN := fun n i b v xs w => InsertN_any N n i b v xs e w
  simp only [hV] at hIN
  rw [hV]
  have HV := hid hV
  have HIN := hid hIN
  clear hV hIN
  have HS := hid hS
  obtain ⟨c0, c1, f0, f1⟩ := two_cells h1
  have H2 := hid h2
  have H3 := hid h3
  have H1 := hid h1
  have HT1 := hid hT1
  have HN1 := hid hN1
  clear hT ha hl ht hpp h1 h2 h3 hpn hS hins hk ht0 hT1 hN1
  go_enter Try.func57, Try.ntmps57
  go_wp2_with fail
  refine (unhid HS).mono ?_
  rintro x w1 ⟨rfl, hw1⟩
  rw [hw1]
  clear hw1
  go_wp2_with fail
  refine (InsertS_any N es.length k w.heap.size _ _ e.path (w.alloc (.cells #[.string e.path] 9)) hkl (by omega) (by simp; omega) ((unhid H2).alloc _) (fun eq => by have := ((unhid H2).lt _ eq).2; omega) (World.alloc_heap_new w _) (unhid HT1)).mono ?_
  rintro x w2 ⟨v2, rfl, hown2, hgrow2, hat2⟩
  obtain ⟨g2, cap2, rfl⟩ := ownsRow_succ hown2
  have h1a : (w.alloc (.cells #[.string e.path] 9)).heap[bt]? = some (.cells #[.slice a es.length cap, vn] 58 (0, 0)) := (Below.heap_alloc _ _ _ hbl).trans (unhid H1)
  have h12 : w2.heap[bt]? = some (.cells #[.slice a es.length cap, vn] 58 (0, 0)) := (hgrow2.block bt (by simp; omega) (row_ne ((unhid H2).alloc (.cells #[.string e.path] 9)) h1a (by decide))).trans h1a
  obtain ⟨c0, c1, f0, f1⟩ := two_cells h12
  have h32 : w2.ownsRow N 62 1 vn es.length (es.map nodeV) := by
    refine ownsRow_kept ((unhid H3).alloc (.cells #[.string e.path] 9)) (fun g hg => hgrow2.block g (((unhid H3).alloc (.cells #[.string e.path] 9)).lt g hg).2 ?_)
    rcases ((unhid H3).alloc (.cells #[.string e.path] 9)).2 with ⟨rfl, _⟩ | ⟨g', cap', cur', rfl, _, hgc, _⟩
    · cases hg
    · cases hg; exact row_ne ((unhid H2).alloc (.cells #[.string e.path] 9)) hgc (by decide)
  have hg2w : g2 ≠ bt := fun eq => by
    rcases hown2.2 with ⟨h, _⟩ | ⟨g', cap', cur', hv, _, hgc, _⟩
    · cases h
    · cases hv; exact type_ne hgc h12 (by decide) eq
  have HB2 := hid (And.intro hown2 (And.intro hgrow2 (And.intro h12 h32)))
  have HAT2 := hid hat2
  have hsz2 : w.heap.size + 1 ≤ w2.heap.size := by have := hgrow2.size; simpa using this
  clear hown2 hgrow2 h12 h32 h1a hat2
  go_wp2_with fail
  obtain ⟨W3, hW3⟩ : ∃ W3, W3 = (w2.setCell ⟨bt, 0, .none⟩ (.slice (some ⟨g2, 0, .none⟩) (es.length + 1) cap2)).alloc (.cells #[.iface T nv] 62) := ⟨_, rfl⟩
  rw [← hW3]
  obtain ⟨hown2, hgrow2, h12, h32⟩ := unhid HB2
  have hbl2 : bt < w2.heap.size := by omega
  have h13 : W3.heap[bt]? = some (.cells #[.slice (some ⟨g2, 0, .none⟩) (es.length + 1) cap2, vn] 58 (0, 0)) := by
    rw [hW3, Below.heap_alloc _ _ _ (by simp; omega), heap_setCell_same _ bt 0 _ _ _ h12]; rfl
  have hk3 : ∀ g, g < w2.heap.size → g ≠ bt → W3.heap[g]? = w2.heap[g]? := fun g hg hne => by
    rw [hW3, Below.heap_alloc _ _ _ (by simpa using hg), Below.heap_setCell _ _ _ _ hne]
  have h33 : W3.ownsRow N 62 1 vn es.length (es.map nodeV) := ownsRow_kept h32 (fun g hg => hk3 g (h32.lt g hg).2 (fun eq => (row_ne h32 h12 (by decide)) (by rw [hg, eq])))
  have hown3 : W3.ownsRow N 9 1 (.slice (some ⟨g2, 0, .none⟩) (es.length + 1) cap2) (es.length + 1) ((es.map fun e => .string e.path).take k ++ [.string e.path] ++ (es.map fun e => .string e.path).drop k) := ownsRow_kept hown2 (fun g hg => hk3 g (hown2.lt g hg).2 (fun eq => by cases hg; exact hg2w eq))
  have hs3 : W3.heap.size = w2.heap.size + 1 := by rw [hW3]; simp
  have hc3 : W3.heap[w2.heap.size]? = some (.cells #[.iface T nv] 62 (0, 0)) := by
    rw [hW3]; have := World.alloc_heap_new (w2.setCell ⟨bt, 0, .none⟩ (.slice (some ⟨g2, 0, .none⟩) (es.length + 1) cap2)) (.cells #[.iface T nv] 62); simpa using this
  refine (unhid HIN es.length k w2.heap.size vn _ W3 hkl (by omega) (by omega) h33 (fun eq => by have := (h32.lt _ eq).2; omega) hc3 (unhid HN1)).mono ?_
  rintro x w4 ⟨v4, rfl, hown4, hgrow4, hat4⟩
  obtain ⟨g4, cap4, rfl⟩ := ownsRow_succ hown4
  have h14 : w4.heap[bt]? = some (.cells #[.slice (some ⟨g2, 0, .none⟩) (es.length + 1) cap2, vn] 58 (0, 0)) := (hgrow4.block bt (by omega) (row_ne h33 h13 (by decide))).trans h13
  have hrow4 : w4.ownsRow N 9 1 (.slice (some ⟨g2, 0, .none⟩) (es.length + 1) cap2) (es.length + 1) ((es.map fun e => .string e.path).take k ++ [.string e.path] ++ (es.map fun e => .string e.path).drop k) := ownsRow_kept hown3 (fun g hg => hgrow4.block g (hown3.lt g hg).2 (by
    rcases hown3.2 with ⟨h, _⟩ | ⟨g', cap', cur', hv, _, hgc, _⟩
    · cases h
    · cases hv; cases hg; exact row_ne h33 hgc (by decide)))
  obtain ⟨c0, c1, f0, f1⟩ := two_cells h14
  have hg4w : g4 ≠ bt := fun eq => by
    rcases hown4.2 with ⟨h, _⟩ | ⟨g', cap', cur', hv, _, hgc, _⟩
    · cases h
    · cases hv; exact type_ne hgc h14 (by decide) eq
  have hF : RowsV (w4.setCell ⟨bt, 1, .none⟩ (.slice (some ⟨g4, 0, .none⟩) (es.length + 1) cap4)) N bt (.slice (some ⟨g2, 0, .none⟩) (es.length + 1) cap2) (.slice (some ⟨g4, 0, .none⟩) (es.length + 1) cap4) (es.take k ++ [e] ++ es.drop k) := by
    refine ⟨?_, ?_, ?_⟩
    · rw [heap_setCell_same _ bt 1 _ _ _ h14]; rfl
    · rw [show (es.take k ++ [e] ++ es.drop k).length = es.length + 1 by simp; omega, List.map_append, List.map_append, List.map_take, List.map_drop]
      exact ownsRow_kept hrow4 (fun g hg => Below.heap_setCell _ _ _ _ (fun eq => by cases hg; exact hg2w eq))
    · rw [show (es.take k ++ [e] ++ es.drop k).length = es.length + 1 by simp; omega, List.map_append, List.map_append, List.map_take, List.map_drop]
      rw [← unhid HV] at hown4
      exact ownsRow_kept hown4 (fun g hg => Below.heap_setCell _ _ _ _ (fun eq => by cases hg; exact hg4w eq))
  have hB : Below N w (w4.setCell ⟨bt, 1, .none⟩ (.slice (some ⟨g4, 0, .none⟩) (es.length + 1) cap4)) := by
    have b1 : Below N w (w.alloc (.cells #[.string e.path] 9)) := (Below.refl _ _).alloc (by omega) _
    have b2 : Below N w w2 := b1.grown hgrow2 (by simp; omega) (fun g hg => (((unhid H2).alloc (.cells #[.string e.path] 9)).lt g hg).1)
    have b3 : Below N w W3 := by rw [hW3]; exact (b2.setCell hN _).alloc (by simp; omega) _
    have b4 : Below N w w4 := b3.grown hgrow4 (by omega) (fun g hg => (h33.lt g hg).1)
    exact b4.setCell hN _
  have hO : ∀ k o, k ≠ bt → w.heap[k]? = some o → Apart o → (w4.setCell ⟨bt, 1, .none⟩ (.slice (some ⟨g4, 0, .none⟩) (es.length + 1) cap4)).heap[k]? = some o := by
    intro k o hk ho hap
    have hkl : k < w.heap.size := (Array.getElem?_eq_some_iff.1 ho).1
    have a1 : (w.alloc (.cells #[.string e.path] 9)).heap[k]? = some o := (Below.heap_alloc _ _ _ hkl).trans ho
    have a2 : w2.heap[k]? = some o := (hgrow2.block k (by simp; omega) (fun eq => by
      rcases ((unhid H2).alloc (.cells #[.string e.path] 9)).2 with ⟨h, _⟩ | ⟨g', cap', cur', hv, _, hgc, _⟩
      · rw [h] at eq; cases eq
      · rw [hv] at eq; cases eq; rw [a1] at hgc; cases hgc; exact (hap _ _ _ rfl).1 rfl)).trans a1
    have a3 : W3.heap[k]? = some o := (hk3 k (by omega) hk).trans a2
    have a4 : w4.heap[k]? = some o := (hgrow4.block k (by omega) (fun eq => by
      rcases h33.2 with ⟨h, _⟩ | ⟨g', cap', cur', hv, _, hgc, _⟩
      · rw [h] at eq; cases eq
      · rw [hv] at eq; cases eq; rw [a3] at hgc; cases hgc; exact (hap _ _ _ rfl).2 rfl)).trans a3
    exact (Below.heap_setCell _ _ _ _ hk).trans a4
  have hS : ∀ k, k < w.heap.size → k ≠ bt → (Value.slice a es.length cap).ownBlock ≠ some k → vn.ownBlock ≠ some k → (w4.setCell ⟨bt, 1, .none⟩ (.slice (some ⟨g4, 0, .none⟩) (es.length + 1) cap4)).heap[k]? = w.heap[k]? := by
    intro k hk hkb hkp hkn
    have a1 : (w.alloc (.cells #[.string e.path] 9)).heap[k]? = w.heap[k]? := Below.heap_alloc _ _ _ hk
    have a2 : w2.heap[k]? = w.heap[k]? := (hgrow2.block k (by simp; omega) (fun eq => hkp eq.symm)).trans a1
    have a3 : W3.heap[k]? = w.heap[k]? := (hk3 k (by omega) hkb).trans a2
    have a4 : w4.heap[k]? = w.heap[k]? := (hgrow4.block k (by omega) (fun eq => hkn eq.symm)).trans a3
    exact (Below.heap_setCell _ _ _ _ hkb).trans a4
  have hf2 : FreshV w (.slice a es.length cap) (.slice (some ⟨g2, 0, .none⟩) (es.length + 1) cap2) := fun k hk => by
    rcases unhid HAT2 with h | h
    · exact .inl (h ▸ hk)
    · rw [h] at hk; injection hk with hk; right; rw [World.size_alloc] at hk; omega
  have hf4 : FreshV w vn (.slice (some ⟨g4, 0, .none⟩) (es.length + 1) cap4) := fun k hk => by
    rcases hat4 with h | h
    · exact .inl (h ▸ hk)
    · rw [h] at hk; injection hk with hk; right; omega
  have HF := hid (show PutV w (w4.setCell ⟨bt, 1, .none⟩ (.slice (some ⟨g4, 0, .none⟩) (es.length + 1) cap4)) N bt (.slice a es.length cap) vn (es.take k ++ [e] ++ es.drop k) from ⟨⟨_, _, hF, hf2, hf4⟩, hB, hO, hS⟩)
  clear hF hB hO hS hf2 hf4 hat4 HAT2 hown4 hgrow4 h14 hrow4 h13 hk3 h33 hown3 hc3 hW3 hown2 hgrow2 h12 h32 HB2
  go_wp2_with fail
  go_end0
  exact ⟨⟨_, rfl⟩, unhid HF⟩

set_option maxRecDepth 100000 in
set_option maxHeartbeats 4000000 in
theorem mapPut_overV (N bt : Nat) (vp vn : Value) (es : List Ent) (e : Ent) (w : World) (hn : es.length ≤ 900) (ha : Asc (pathsOf es)) (ht0 : thereE es e.path = true) (h : RowsV w N bt vp vn es) :
    Calls Try.prog 57 #[.pointer (some ⟨bt, 0, .none⟩), .string e.path, nodeV e] w fun x w' => (∃ v, x = .returned v) ∧ PutV w w' N bt vp vn (es.set (placeE es e.path) e) := by
  obtain ⟨h1, h2, h3⟩ := h
  have hbl : bt < w.heap.size := (Array.getElem?_eq_some_iff.1 h1).1
  obtain ⟨a, cap, hva, hT⟩ := texts_of h2
  have hpn : (pathsOf es).length = es.length := by simp [pathsOf]
  have hl : (pathsOf es).length ≤ 1048576 := by omega
  have ht : thereP (pathsOf es) e.path = true := by rw [thereP_E, ht0]
  obtain ⟨old, hj, hpo⟩ := there_get ht0
  have hjl : placeE es e.path < es.length := (List.getElem?_eq_some_iff.1 hj).1
  have hS := BinarySearch_any (pathsOf es) a cap e.path w hl ha hT
  rw [placeP_E, ht, hpn] at hS
  rw [hpn] at hva
  subst hva
  obtain ⟨T, nv, hV⟩ := nodeV_shape e
  have hse : (es.set (placeE es e.path) e).map nodeV = (es.map nodeV).set (placeE es e.path) (nodeV e) := by rw [List.map_set]
  have hsp : (es.set (placeE es e.path) e).map (fun e => Value.string e.path) = es.map (fun e => .string e.path) := by
    rw [List.map_set]
    apply List.ext_getElem?
    intro i
    rw [List.getElem?_set]
    split
    · rename_i hi
      subst hi
      rw [if_pos (by simpa using hjl), List.getElem?_map, hj, Option.map_some, hpo]
    · rfl
  obtain ⟨g, cap2, cur, rfl, hgN, hg, hszc⟩ : ∃ g cap2 cur, vn = .slice (some ⟨g, 0, .none⟩) es.length cap2 ∧ N ≤ g ∧ w.heap[g]? = some (.cells cur 62 (0, 0)) ∧ placeE es e.path < cur.size ∧ es.length ≤ cap2 := by
    rcases h3.2 with ⟨rfl, h0⟩ | ⟨g, cap, cur, rfl, hN', hg, hc, _, hsz, hcells⟩
    · omega
    · exact ⟨g, cap, cur, rfl, hN', hg, by omega, hc⟩
  have hFT : RowsV (w.setCell ⟨g, placeE es e.path, .none⟩ (nodeV e)) N bt (.slice a es.length cap) (.slice (some ⟨g, 0, .none⟩) es.length cap2) (es.set (placeE es e.path) e) := by
    refine ⟨?_, ?_, ?_⟩
    · rw [Below.heap_setCell _ _ _ _ (type_ne hg h1 (by decide)).symm]; exact h1
    · rw [List.length_set, hsp]
      refine ownsRow_kept h2 (fun g' eg => Below.heap_setCell _ _ _ _ (fun eq => ?_))
      obtain ⟨cur', hc'⟩ := (show ∃ cur', w.heap[g']? = some (.cells cur' 9 (0, 0)) by
        rcases h2.2 with ⟨hh, _⟩ | ⟨g'', cap'', cur'', hv, _, hh, _⟩
        · rw [hh] at eg; cases eg
        · rw [hv] at eg; cases eg; exact ⟨_, hh⟩)
      exact type_ne hg hc' (by decide) eq.symm
    · rw [List.length_set, hse]
      exact ownsRow_set h3 hjl rfl
  have hFB : Below N w (w.setCell ⟨g, placeE es e.path, .none⟩ (nodeV e)) := (Below.refl _ _).setCell hgN _
  have hFO : ∀ k o, k ≠ bt → w.heap[k]? = some o → Apart o → (w.setCell ⟨g, placeE es e.path, .none⟩ (nodeV e)).heap[k]? = some o := fun k o _ ho hap =>
    (Below.heap_setCell _ _ _ _ (fun eq => by
      have eq' : k = g := eq
      subst eq'
      rw [ho] at hg; cases hg; exact (hap _ _ _ rfl).2 rfl)).trans ho
  have HF := hid (show PutV w (w.setCell ⟨g, placeE es e.path, .none⟩ (nodeV e)) N bt (.slice a es.length cap) (.slice (some ⟨g, 0, .none⟩) es.length cap2) (es.set (placeE es e.path) e) from ⟨⟨_, _, hFT, fun k hk => .inl hk, fun k hk => .inl hk⟩, hFB, hFO, fun k _ _ _ hkn => Below.heap_setCell _ _ _ _ (fun eq => hkn (by have eq' : k = g := eq; rw [eq']; rfl))⟩)
  clear hFT hFB hFO hse hsp
  rw [hV] at HF ⊢
  obtain ⟨hsz1, hle⟩ := hszc
  have n0 : ∃ u, w.cell? ⟨g, placeE es e.path, .none⟩ = some u := ⟨cur[placeE es e.path], by simp [World.cell?, hg, hsz1]⟩
  obtain ⟨u, n0⟩ := n0
  have m0 : w.frozen? ⟨g, placeE es e.path, .none⟩ = false := by simp [World.frozen?, hg]
  have HS := hid hS
  obtain ⟨c0, c1, f0, f1⟩ := two_cells h1
  clear hT ha hl ht h1 h2 h3 hpn hj hS hV hg ht0 hpo hsz1
  generalize placeE es e.path = j at HS HF hjl n0 m0 ⊢
  go_enter Try.func57, Try.ntmps57
  go_wp2_with fail
  refine (unhid HS).mono ?_
  rintro x w1 ⟨rfl, hw1⟩
  rw [hw1]
  clear hw1
  go_wp2_with fail
  first | go_end0 | refine bodyPost_ret (results_none rfl _ _ _) rfl ?_
  exact ⟨⟨_, rfl⟩, unhid HF⟩

theorem mapPut_V (N bt : Nat) (vp vn : Value) (es : List Ent) (e : Ent) (w : World) (hn : es.length ≤ 900) (ha : Asc (pathsOf es)) (hN : N ≤ bt) (h : RowsV w N bt vp vn es) :
    Calls Try.prog 57 #[.pointer (some ⟨bt, 0, .none⟩), .string e.path, nodeV e] w fun x w' => (∃ v, x = .returned v) ∧ PutV w w' N bt vp vn (putT es e) := by
  cases ht : thereE es e.path
  · have : putT es e = insAt es e := by unfold putT; rw [ht]; rfl
    rw [this]
    exact mapPut_insV N bt vp vn es e w hn ha hN ht h
  · have : putT es e = es.set (placeE es e.path) e := by unfold putT; rw [ht]; rfl
    rw [this]
    exact mapPut_overV N bt vp vn es e w hn ha ht h
end Go.Proofs.Ytaefjibnnbdaaaa
