/- Texts of this proof, one behind the other; each says at its head what it shows. -/
import Derived.Test.YtoihhlkidlapmaaGreatJoin11
import Derived.Test.YtoihhlkidlapmaaGreatJoin7
import Derived.Test.YtoihhlkidlapmaaGreatProg
import Derived.Test.YtoihhlkidlapmaaGreatJoin2
import Derived.Test.YtoihhlkidlapmaaGreatJoin3
import Derived.Laws.EntriesVeiled
import Derived.Maps.AppendAt
import Derived.Deep.QuietTactic
import Derived.BigQuiet
import Derived.Maps.OwnIn
import Derived.Deep.OwnRows
import Derived.RangeFuncFrom
import Derived.RangeFuncBox
import Derived.Deep.RegionWith
namespace Go.Proofs.YtoihhlkidlapmaaGreat
open Go.RowKit
def TreeV (W : World) (N : Nat) (v : Value) (es : List Ent) : Prop := ∃ g c, v = .slice (some ⟨g, 0, none⟩) es.length c ∧ W.ownsRow N 57 4 v es.length (valsOf es)
theorem treeV_of {W : World} {N : Nat} {v : Value} {es : List Ent} (h : W.ownsRow N 57 4 v es.length (valsOf es)) (hs : SomeV v) : TreeV W N v es := by
  rcases h.2 with ⟨rfl, h0⟩ | ⟨g, cap, cur, rfl, _⟩
  · obtain ⟨ad, n, c, hc⟩ := hs; cases hc
  · exact ⟨g, cap, rfl, h⟩
theorem TreeV.ents {W : World} {N g c : Nat} {es : List Ent} (h : W.ownsRow N 57 4 (.slice (some ⟨g, 0, none⟩) es.length c) es.length (valsOf es)) : (∀ (i : Nat) e, es[i]? = some e → EntAt W g (0 + i * 4) e) ∧ g < W.heap.size ∧ N ≤ g ∧ es.length ≤ c := by
  have hl := h.lt g rfl
  have hc : es.length ≤ c := by
    rcases h.2 with ⟨hv, _⟩ | ⟨g', cap, cur, hv, _, _, hc, _⟩
    · cases hv
    · cases hv; exact hc
  obtain ⟨a, cap, hv, hr⟩ := rowIn_of_owns h
  cases hv
  refine ⟨fun i e hi => ?_, hl.2, hl.1, hc⟩
  rcases hr with rfl | ⟨g', hg, _, _, hR⟩
  · simp at hi
  · cases hg
    have := (hR.cells i (List.getElem?_eq_some_iff.1 hi).1).1
    rw [entFn_get hi] at this
    rwa [Nat.zero_add]
theorem TreeV.kept {W W' : World} {N : Nat} {v : Value} {es : List Ent} (h : TreeV W N v es) (hk : ∀ k, N ≤ k → k < W.heap.size → W'.heap[k]? = W.heap[k]?) : TreeV W' N v es := by
  obtain ⟨g, c, hv, ho⟩ := h
  exact ⟨g, c, hv, ownsRow_kept ho (fun g eg => hk g (ho.lt g eg).1 (ho.lt g eg).2)⟩
theorem TreeV.below {W W' : World} {N : Nat} {v : Value} {es : List Ent} (h : TreeV W N v es) (hb : Below W.heap.size W W') : TreeV W' N v es := h.kept (fun k _ hk => hb.block k hk)
theorem TreeV.grown {W W' : World} {N b : Nat} {v : Value} {es : List Ent} (h : TreeV W N v es) (hb : W.grownBy W' (some b)) (hlt : b < N) : TreeV W' N v es := h.kept (fun k h1 hk => hb.block k hk (fun e => by injection e; omega))
theorem putL_16 {es : List Ent} {e : Ent} (h : es.length ≤ 16) : (putL es e).length ≤ 16 := by
  cases hk : okPut es e
  · rw [putL_no hk]; exact h
  · cases ht : thereE es e.path
    · rw [putL_ins hk ht]
      unfold okPut at hk
      rw [ht] at hk
      simp only [Bool.and_eq_true] at hk
      have h1 := hk.2.2
      simp at h1
      have h2 := placeE_le es e.path
      unfold insAt
      simp; omega
    · rw [putL_set hk ht]; simpa using h
theorem putL_mem {es : List Ent} {e x : Ent} (hx : x ∈ putL es e) : x ∈ es ∨ x = e := by
  unfold putL at hx
  split at hx
  · exact putT_mem hx
  · exact .inl hx
theorem grown_of_below' {W w1 : World} (h : Below W.heap.size W w1) (r : Option Nat) : W.grownBy w1 r := ⟨h.os, h.tape, h.output, h.size, fun k hk _ => h.block k hk⟩
theorem grown_lift {x y z : World} {b : Nat} (h : x.grownBy y (some b)) (hb : Below y.heap.size y z) : x.grownBy z (some b) := grown_trans h (grown_of_below' hb _)
structure TS (w : World) (b : Nat) (a : Option Addr) (len cap p : Nat) (W : World) (v : Value) (es : List Ent) : Prop where
  v : TreeV W w.heap.size v es
  nice : ∀ e ∈ es, niceE e
  few : es.length ≤ 16
  rd : ∃ p', p' ≤ p ∧ Rd W b a len cap p'
  grown : w.grownBy W (some b)
theorem TS.put {w : World} {b : Nat} {a : Option Addr} {len cap p : Nat} {W W' : World} {v v' : Value} {es : List Ent} {e : Ent} (h : TS w b a len cap p W v es) (he : niceE e) (ho : W'.ownsRow W.heap.size 57 4 v' (putL es e).length (valsOf (putL es e))) (hb : Below W.heap.size W W') (hs : SomeV v') : TS w b a len cap p W' v' (putL es e) := by
  refine ⟨treeV_of (ownsRow_base ho h.grown.size) hs, fun x hx => ?_, putL_16 h.few, ?_, grown_lift h.grown hb⟩
  · rcases putL_mem hx with hx | rfl
    · exact h.nice x hx
    · exact he
  · obtain ⟨p', h1, h2⟩ := h.rd
    exact ⟨p', h1, h2.of_below hb⟩
theorem TS.read {w : World} {b : Nat} {a : Option Addr} {len cap p q : Nat} {W W' : World} {v : Value} {es : List Ent} (h : TS w b a len cap p W v es) (hlt : b < w.heap.size) (hg : W.grownBy W' (some b)) (hr : ∃ p', p' ≤ q ∧ Rd W' b a len cap p') : TS w b a len cap q W' v es :=
  ⟨h.v.grown hg hlt, h.nice, h.few, hr, grown_trans h.grown hg⟩
theorem TS.below {w : World} {b : Nat} {a : Option Addr} {len cap p : Nat} {W W' : World} {v : Value} {es : List Ent} (h : TS w b a len cap p W v es) (hb : Below W.heap.size W W') : TS w b a len cap p W' v es :=
  ⟨h.v.below hb, h.nice, h.few, by obtain ⟨p', h1, h2⟩ := h.rd; exact ⟨p', h1, h2.of_below hb⟩, grown_lift h.grown hb⟩
def dirsC : Array Value := #[.string ⟨#[97]⟩, .string ⟨#[108, 105, 98]⟩, .string ⟨#[98, 105, 110]⟩, .string ⟨#[100, 111, 99]⟩, .string ⟨#[97, 47, 98]⟩]
def DirsAt (W : World) (D : Nat) : Prop := W.heap[D]? = some (.cells dirsC 9 (0, 0))
theorem DirsAt.cell {W : World} {D : Nat} (h : DirsAt W D) (k : Nat) (hk : k < 5) : ∃ x, nice x ∧ W.cell? ⟨D, k, none⟩ = some (.string x) := by
  have h1 : W.cell? ⟨D, k, none⟩ = dirsC[k]? := by unfold World.cell?; rw [h]; simp
  rw [h1]
  rcases (by omega : k = 0 ∨ k = 1 ∨ k = 2 ∨ k = 3 ∨ k = 4) with rfl | rfl | rfl | rfl | rfl
  · exact ⟨⟨#[97]⟩, by unfold nice; decide, rfl⟩
  · exact ⟨⟨#[108, 105, 98]⟩, by unfold nice; decide, rfl⟩
  · exact ⟨⟨#[98, 105, 110]⟩, by unfold nice; decide, rfl⟩
  · exact ⟨⟨#[100, 111, 99]⟩, by unfold nice; decide, rfl⟩
  · exact ⟨⟨#[97, 47, 98]⟩, by unfold nice; decide, rfl⟩
theorem fdec_nice {n : Nat} (h : n < 1000) : nice (⟨#[102]⟩ ++ decA n) := by
  have hd : (⟨#[102]⟩ ++ decA n : ByteArray).data.toList = 102 :: decL n := by rw [ByteArray.data_append]; simp [decA]
  have hl := decL_len 3 n (by omega)
  have hh : ∀ c, (decL n).head? = some c → c ≠ 114 := by
    clear hd hl
    intro c hc
    have : ∀ m, m < 1000 → ∀ c, (decL m).head? = some c → c.toNat ≤ 57 := by
      intro m
      induction m using Nat.strongRecOn with
      | ind m ih =>
        intro hm c hc
        by_cases h10 : m < 10
        · rw [decL_small h10] at hc
          simp at hc
          subst hc
          unfold fig
          simp
          omega
        · rw [decL_more h10] at hc
          have hne : decL (m / 10) ≠ [] := by
            intro e
            by_cases h2 : m / 10 < 10
            · rw [decL_small h2] at e; cases e
            · rw [decL_more h2] at e; simp at e
          obtain ⟨y, ys, hy⟩ := List.exists_cons_of_ne_nil hne
          rw [hy] at hc
          exact ih (m / 10) (by omega) (by omega) c (by rw [hy]; simpa using hc)
    intro e
    have := this n h c hc
    rw [e] at this
    revert this
    decide
  unfold nice niceB
  rw [hd]
  have h3 : ((102 :: decL n).take 2 != [102, 114]) = true := by
    rw [bne_iff_ne]
    intro e
    cases hx : decL n with
    | nil => rw [hx] at e; simp at e
    | cons y ys => rw [hx] at e; simp at e; exact hh y (by rw [hx]; rfl) e
  have h4 : ((102 :: decL n).take 2 != [110, 101]) = true := by
    rw [bne_iff_ne]
    intro e
    cases hx : decL n with
    | nil => rw [hx] at e; simp at e
    | cons y ys => rw [hx] at e; simp at e
  rw [h3, h4]
  simp; omega
set_option maxRecDepth 100000 in
set_option maxHeartbeats 8000000 in
theorem l11Tree_any (w : World) (b : Nat) (a : Option Addr) (len cap p : Nat) (h : Rd w b a len cap p) (hp : p ≤ 800000) :
    Calls Tryz.prog 161 #[.pointer (some ⟨b, 0, none⟩)] w fun x w' => ∃ v, x = .returned v ∧ ∃ es, TS w b a len cap (p + 50) w' v es := by
  have hbl := h.lt
  have T0 : TS w b a len cap p (w.alloc (.cells #[] 57)) (.slice (some ⟨w.heap.size, 0, none⟩) 0 0) [] :=
    ⟨⟨w.heap.size, 0, rfl, owns_empty w _ (Nat.le_refl _) _⟩, (fun e he => by cases he), (by simp), ⟨p, Nat.le_refl _, h.alloc _⟩, World.grownBy_alloc w _ _⟩
  have T1 := T0.below ((Below.refl _ _).alloc (Nat.le_refl _) (.cells dirsC 9))
  have D1 : DirsAt ((w.alloc (.cells #[] 57)).alloc (.cells dirsC 9)) (w.heap.size + 1) := by
    have := World.alloc_heap_new (w.alloc (.cells #[] 57)) (.cells dirsC 9)
    rw [World.size_alloc] at this
    exact this
  have hT := hid (And.intro T1 D1)
  clear T0 T1 D1 h
  unfold dirsC at hT
  go_enter Tryz.func161, Tryz.ntmps161
  go_wp2_with fail
  go_loopw [3, 5] (fun v' i wr => ∃ (k : Nat) (es : List Ent) (v : Value), v = v' ∧ k ≤ 5 ∧ i = .int .i64 k ∧ Hid (TS w b a len cap (p + k) wr v es ∧ DirsAt wr (w.heap.size + 1) ∧ w.heap.size + 1 < wr.heap.size)) (fun _ i _ => 5 - (intOf i).toNat)
  case atStart => exact ⟨0, [], _, rfl, by omega, rfl, hid ⟨(unhid hT).1, (unhid hT).2, by simp⟩⟩
  case round =>
    obtain ⟨k, es, v, rfl, hk, rfl, HT⟩ := hrel
    clear hT
    by_cases hlt : (k : Int) < 5
    · go_wp2_with fail
      obtain ⟨q, hq, hR⟩ := (unhid HT).1.rd
      refine (pick_any wr b a len cap q hR (by omega) 2 (by omega) (by omega)).mono ?_
      rintro e w1 ⟨r, hr, rfl, hR1, hG1⟩
      have D1 := (hG1.block (w.heap.size + 1) (unhid HT).2.2 (by intro e; injection e; omega)).trans (unhid HT).2.1
      have HT1 := hid (show TS w b a len cap (p + (k + 1)) w1 v es ∧ DirsAt w1 (w.heap.size + 1) ∧ w.heap.size + 1 < w1.heap.size from ⟨(unhid HT).1.read hbl hG1 ⟨q + 1, by omega, hR1⟩, D1, Nat.lt_of_lt_of_le (unhid HT).2.2 hG1.size⟩)
      clear hR hR1 hG1 HT D1 hq
      by_cases h0 : r = 0
      · subst h0
        obtain ⟨x, hx, hcx⟩ := (unhid HT1).2.1.cell k (by omega)
        obtain ⟨g, c, rfl, ho⟩ := (unhid HT1).1.v
        obtain ⟨e1, e2, e3, e4⟩ := TreeV.ents ho
        have PUT := hid (l2Put_full es ⟨x, 1, 7, ⟨#[]⟩⟩ g 0 c w1 (unhid HT1).1.few e4 (by have := nice_short hx; dsimp only; omega) (by show (0 : Nat) ≤ 1048576; omega) e1 e2)
        clear ho e1 e2 e3 e4
        go_wp2_with fail
        refine (unhid PUT).mono ?_
        rintro x2 w2 ⟨v2, rfl, ho2, hb2, hs2⟩
        have HT2 := hid (show TS w b a len cap (p + (k + 1)) w2 v2 (putL es ⟨x, 1, 7, ⟨#[]⟩⟩) ∧ DirsAt w2 (w.heap.size + 1) ∧ w.heap.size + 1 < w2.heap.size from ⟨(unhid HT1).1.put ⟨hx, (by unfold short; decide : short ⟨#[]⟩)⟩ ho2 hb2 hs2, (hb2.block _ (unhid HT1).2.2).trans (unhid HT1).2.1, Nat.lt_of_lt_of_le (unhid HT1).2.2 hb2.size⟩)
        clear PUT ho2 hb2 hs2 HT1
        go_wp2_with fail
        go_roundw
        case rel => exact ⟨k + 1, _, _, rfl, by omega, by go_num, HT2⟩
        case measure => simp [intOf]; omega
      · have h0' : ((r : Int) == 0) = false := by rw [beq_eq_false_iff_ne]; omega
        go_wp2_with fail
        go_roundw
        case rel => exact ⟨k + 1, _, _, rfl, by omega, by go_num, HT1⟩
        case measure => simp [intOf]; omega
    · have k5 : k = 5 := by omega
      subst k5
      have HT0 := hid (unhid HT).1
      clear HT
      go_wp2_with fail
      obtain ⟨q, hq, hR⟩ := (unhid HT0).rd
      refine (pick_any wr b a len cap q hR (by omega) 7 (by omega) (by omega)).mono ?_
      rintro e w1 ⟨r, hr, rfl, hR1, hG1⟩
      have HT1 := hid (show TS w b a len cap (p + 6 + 4 * (7 - r)) w1 v es from (unhid HT0).read hbl hG1 ⟨q + 1, by omega, hR1⟩)
      clear hR hR1 hG1 HT0 hq q
      go_wp2_with fail
      go_loopw [3, 6] (fun v' i wr => ∃ (k : Nat) (es : List Ent) (v : Value), v = v' ∧ k ≤ 7 ∧ i = .int .i64 k ∧ Hid (TS w b a len cap (p + 6 + 4 * (7 - k)) wr v es)) (fun _ i _ => (intOf i).toNat)
      case atStart => exact ⟨r, es, _, rfl, by omega, rfl, HT1⟩
      case round =>
        obtain ⟨k, es, v, rfl, hk, rfl, HT⟩ := hrel
        clear HT1
        by_cases hlt : (0 : Int) < (k : Int)
        · go_wp2_with fail
          obtain ⟨q, hq, hR⟩ := (unhid HT).rd
          refine (l11Entry_any wr b a len cap q hR (by omega)).mono ?_
          rintro e w1 ⟨en, hen, rfl, ⟨q2, hq2, hR1⟩, hG1⟩
          have HT1 := hid ((unhid HT).read (q := p + 6 + 4 * (7 - (k - 1))) hbl hG1 ⟨q2, by omega, hR1⟩)
          clear hR hR1 hG1 HT hq hq2 q q2
          obtain ⟨g, c, rfl, ho⟩ := (unhid HT1).v
          obtain ⟨e1, e2, e3, e4⟩ := TreeV.ents ho
          have PUT := hid (l2Put_full es en g 0 c w1 (unhid HT1).few e4 (by have := nice_short hen.1; omega) (by have : en.text.size ≤ 100 := hen.2; omega) e1 e2)
          clear ho e1 e2 e3 e4
          unfold Ent.vals at PUT ⊢
          go_wp2_with fail
          refine (unhid PUT).mono ?_
          rintro x2 w2 ⟨v2, rfl, ho2, hb2, hs2⟩
          have HT2 := hid ((unhid HT1).put hen ho2 hb2 hs2)
          clear PUT ho2 hb2 hs2 HT1
          go_wp2_with fail
          go_roundw
          case rel => exact ⟨k - 1, _, _, rfl, by omega, by go_num, HT2⟩
          case measure => simp [intOf]; omega
        · have k0 : k = 0 := by omega
          subst k0
          have HT0 := HT
          clear HT
          go_wp2_with fail
          obtain ⟨q, hq, hR⟩ := (unhid HT0).rd
          refine (pick_any wr b a len cap q hR (by omega) 30 (by omega) (by omega)).mono ?_
          rintro e w1 ⟨r, hr, rfl, hR1, hG1⟩
          have HT1 := hid (show TS w b a len cap (p + 50) w1 v es from (unhid HT0).read hbl hG1 ⟨q + 1, by omega, hR1⟩)
          clear hR hR1 hG1 HT0 hq q
          by_cases h0 : r = 0
          · subst h0
            go_wp2_with fail
            go_loopw [3, 7] (fun v' i wr => ∃ (k : Nat) (es : List Ent) (v : Value), v = v' ∧ k ≤ 16 ∧ i = .int .i64 k ∧ Hid (TS w b a len cap (p + 50) wr v es)) (fun _ i _ => 16 - (intOf i).toNat)
            case atStart => exact ⟨0, es, _, rfl, by omega, rfl, HT1⟩
            case round =>
              obtain ⟨k, es, v, rfl, hk, rfl, HT⟩ := hrel
              clear HT1
              by_cases hlt : (k : Int) < 16
              · go_wp2_with fail
                refine (l1Dec_any 2 k wr (by omega) (by omega)).mono ?_
                rintro e w1 ⟨rfl, hb1⟩
                have HT1 := hid ((unhid HT).below hb1)
                clear hb1 HT
                have hnc : nice (⟨#[102]⟩ ++ decA k) := fdec_nice (by omega)
                have hsz := decA_size (n := k) (by omega)
                have hz2 := nice_short hnc
                obtain ⟨g, c, rfl, ho⟩ := (unhid HT1).v
                obtain ⟨e1, e2, e3, e4⟩ := TreeV.ents ho
                have PUT := hid (l2Put_full es ⟨⟨#[102]⟩ ++ decA k, 2, 0, ⟨#[]⟩⟩ g 0 c w1 (unhid HT1).few e4 (by dsimp only; omega) (by show (0 : Nat) ≤ 1048576; omega) e1 e2)
                clear ho e1 e2 e3 e4
                generalize decA k = y at *
                go_wp2_with fail
                refine (unhid PUT).mono ?_
                rintro x2 w2 ⟨v2, rfl, ho2, hb2, hs2⟩
                have HT2 := hid ((unhid HT1).put ⟨hnc, (by unfold short; decide : short ⟨#[]⟩)⟩ ho2 hb2 hs2)
                clear PUT ho2 hb2 hs2 HT1
                go_wp2_with fail
                go_roundw
                case rel => exact ⟨k + 1, _, _, rfl, by omega, by go_num, HT2⟩
                case measure => simp [intOf]; omega
              · go_wp2_with fail
                go_ret
                exact ⟨_, rfl, _, unhid HT⟩
          · have h0' : ((r : Int) == 0) = false := by rw [beq_eq_false_iff_ne]; omega
            go_wp2_with fail
            go_ret
            exact ⟨_, rfl, _, unhid HT1⟩
end Go.Proofs.YtoihhlkidlapmaaGreat

namespace Go.Proofs.YtoihhlkidlapmaaGreat
open Go.RowKit
structure TA (w : World) (b : Nat) (a : Option Addr) (len cap p : Nat) (W : World) (v : Value) (es : List Ent) : Prop where
  v : TreeV W w.heap.size v es
  nice : ∀ e ∈ es, niceE e
  few : es.length ≤ 17
  rd : ∃ p', p' ≤ p ∧ Rd W b a len cap p'
  grown : w.grownBy W (some b)
theorem TA.read {w : World} {b : Nat} {a : Option Addr} {len cap p q : Nat} {W W' : World} {v : Value} {es : List Ent} (h : TA w b a len cap p W v es) (hlt : b < w.heap.size) (hg : W.grownBy W' (some b)) (hr : ∃ p', p' ≤ q ∧ Rd W' b a len cap p') : TA w b a len cap q W' v es :=
  ⟨h.v.grown hg hlt, h.nice, h.few, hr, grown_trans h.grown hg⟩
theorem Rd.low {w w' : World} {b B : Nat} {a : Option Addr} {len cap p : Nat} (h : Rd w b a len cap p) (hB : Below B w w') (hb : b < B) : Rd w' b a len cap p where
  c0 := (hB.cell (p := ⟨b, 0, none⟩) hb).trans h.c0
  c1 := (hB.cell (p := ⟨b, 1, none⟩) hb).trans h.c1
  f1 := (hB.frozen (p := ⟨b, 1, none⟩) hb).trans h.f1
  l := h.l
  d := by
    rcases h.d with h0 | ⟨blk, off, ha, hbk, hc⟩
    · exact .inl h0
    · refine .inr ⟨blk, off, ha, hbk, fun k hk => ?_⟩
      obtain ⟨c, h1, h2⟩ := hc k hk
      exact ⟨c, h1, (hB.cell (p := ⟨blk, off + k, none⟩) (Nat.lt_trans hbk hb)).trans h2⟩
theorem grown_low {w X Y : World} {b : Nat} (h : w.grownBy X (some b)) (hB : Below w.heap.size X Y) : w.grownBy Y (some b) :=
  ⟨hB.os.trans h.os, hB.tape.trans h.tape, hB.output.trans h.output, Nat.le_trans h.size hB.size, fun k hk hne => (hB.block k hk).trans (h.block k hk hne)⟩
set_option maxRecDepth 100000 in
set_option maxHeartbeats 8000000 in
theorem l11AnyTree_any (w : World) (b : Nat) (a : Option Addr) (len cap p : Nat) (h : Rd w b a len cap p) (hp : p ≤ 700000) :
    Calls Tryz.prog 98 #[.pointer (some ⟨b, 0, none⟩)] w fun x w' => ∃ v, x = .returned v ∧ ∃ es, TA w b a len cap (p + 70) w' v es := by
  obtain ⟨i0, hi0, hz0, hzs, hzb⟩ := info_parts infoEntry
  have HI := hid (And.intro hi0 (And.intro hz0 (And.intro hzs hzb)))
  clear hi0 hz0 hzs hzb
  have hbl := h.lt
  have H := hid h
  clear h
  go_enter Tryz.func98, Tryz.ntmps98
  go_wp2_with fail
  refine (l11Tree_any w b a len cap p (unhid H) (by omega)).mono ?_
  rintro x w1 ⟨v, rfl, es, hT⟩
  have HT := hid hT
  obtain ⟨g, c, rfl, ho⟩ := hT.v
  obtain ⟨e1, e2, e3, e4⟩ := TreeV.ents ho
  have CP := hid (l2Copy_some es g 0 c w1 (by have := hT.few; omega) e1 (.inr e2))
  clear ho e1 e2 e3 e4 hT H
  go_wp2_with fail
  refine (unhid CP).mono ?_
  rintro x w2 ⟨g2, c2, rfl, ho2, hB2⟩
  have hg1 := (unhid HT).grown
  have T2 : TA w b a len cap (p + 50) w2 (.slice (some ⟨g2, 0, none⟩) es.length c2) es := ⟨⟨g2, c2, rfl, ownsRow_base ho2 hg1.size⟩, (unhid HT).nice, by have := (unhid HT).few; omega, by obtain ⟨p', h1, h2⟩ := (unhid HT).rd; exact ⟨p', h1, h2.of_below hB2⟩, grown_lift hg1 hB2⟩
  have HT2 := hid (And.intro T2 (unhid HT).few)
  clear T2 hg1 ho2 hB2 HT CP
  go_wp2_with fail
  obtain ⟨q, hq, hR⟩ := (unhid HT2).1.rd
  refine (pick_any w2 b a len cap q hR (by omega) 14 (by omega) (by omega)).mono ?_
  rintro e w3 ⟨r, hr, rfl, hR3, hG3⟩
  have HT3 := hid (And.intro ((unhid HT2).1.read hbl hG3 ⟨q + 1, Nat.le_refl _, hR3⟩) (unhid HT2).2)
  clear hR hR3 hG3 HT2
  have hr5 : r = 0 ∨ r = 1 ∨ 2 ≤ r := by omega
  rcases hr5 with rfl | rfl | hr2
  · go_wp2_with fail
    obtain ⟨q2, hq2, hR⟩ := (unhid HT3).1.rd
    refine (l11AnyEntry_any w3 b a len cap q2 hR (by omega)).mono ?_
    rintro x w4 ⟨⟨x, k, m, t⟩, he, rfl, ⟨q3, hq3, hR4⟩, hG4⟩
    have HT4 := hid (And.intro ((unhid HT3).1.read hbl hG4 ⟨q3, Nat.le_refl _, hR4⟩) (unhid HT3).2)
    clear hR hR4 hG4 HT3
    unfold Ent.vals
    dsimp only
    have T5 : TA w b a len cap q3 (w4.alloc (.cells #[.string x, .int .i64 k, .int .i64 m, .string t] 57)) (.slice (some ⟨g2, 0, none⟩) es.length c2) es :=
      (unhid HT4).1.read hbl (World.grownBy_alloc w4 _ _) (by obtain ⟨p', h1, h2⟩ := (unhid HT4).1.rd; exact ⟨p', h1, h2.alloc _⟩)
    obtain ⟨_, _, hv, ho⟩ := T5.v
    cases hv
    have HO := hid ho
    have HT5 := hid (And.intro T5 (unhid HT4).2)
    have hsz : w.heap.size ≤ w4.heap.size := (unhid HT4).1.grown.size
    have hfew := (unhid HT4).2
    clear T5 ho HT4
    go_wp2_with (at_builtin; refine wpList_append_own _ rfl _ _ 32 rfl w.heap.size 57 i0 _ 4 48 Tryz.underlying32 (unhid HI).1 (unhid HI).2.1 (unhid HI).2.2.1 (unhid HI).2.2.2 rfl (by decide) _ es.length (valsOf es) rfl (unhid HO) ⟨w4.heap.size, 0, none⟩ 1 1 [.string x, .int .i64 k, .int .i64 m, .string t] rfl rfl (lit_cells w4 _ _ _ _ _) ?c2 ?c3 ?c4 ?c5 ?_)
    case c2 => intro u hu; simp at hu; rcases hu with rfl | rfl | rfl | rfl <;> rfl
    case c3 => unfold maxLen; omega
    case c4 => omega
    case c5 => simp; omega
    intro v' w5 hown hg hnil
    have hown2 : w5.ownsRow w.heap.size 57 4 v' (es ++ [(⟨x, k, m, t⟩ : Ent)]).length (valsOf (es ++ [(⟨x, k, m, t⟩ : Ent)])) := by
      rw [List.length_append, valsOf_snoc]; exact hown
    have hlow := (Below.refl w.heap.size (w4.alloc (.cells #[.string x, .int .i64 k, .int .i64 m, .string t] 57))).grown hg (by simp; omega) (fun k e => ((unhid HO).lt k e).1)
    have HF := hid (show TA w b a len cap (p + 70) w5 v' (es ++ [⟨x, k, m, t⟩]) from ⟨treeV_of hown2 (owns_some hown2 (by simp)), fun y hy => by
      rcases List.mem_append.1 hy with hy | hy
      · exact (unhid HT5).1.nice y hy
      · rw [List.mem_singleton.1 hy]; exact he, by simp; omega, by obtain ⟨p', h1, h2⟩ := (unhid HT5).1.rd; exact ⟨p', by omega, h2.low hlow hbl⟩, grown_low (unhid HT5).1.grown hlow⟩)
    clear hown hg hown2 hlow
    go_wp2_with fail
    go_ret
    exact ⟨_, rfl, _, unhid HF⟩
  · by_cases h0 : es = []
    · subst h0
      go_wp2_with fail
      go_ret
      exact ⟨_, rfl, [], (unhid HT3).1.v, (unhid HT3).1.nice, (unhid HT3).1.few, by obtain ⟨p', h1, h2⟩ := (unhid HT3).1.rd; exact ⟨p', by omega, h2⟩, (unhid HT3).1.grown⟩
    · have hl0 : (0 : Int) < (es.length : Int) := by have := List.length_pos_iff.2 h0; omega
      have hfew := (unhid HT3).2
      go_wp2_with fail
      obtain ⟨q2, hq2, hR⟩ := (unhid HT3).1.rd
      refine (pick_any w3 b a len cap q2 hR (by omega) es.length (by omega) (by omega)).mono ?_
      rintro e w4 ⟨j, hj, rfl, hR4, hG4⟩
      have HT4 := hid (And.intro ((unhid HT3).1.read hbl hG4 ⟨q2 + 1, Nat.le_refl _, hR4⟩) (unhid HT3).2)
      clear hR hR4 hG4 HT3
      go_wp2_with fail
      obtain ⟨q3, hq3, hR⟩ := (unhid HT4).1.rd
      refine (l11AnyEntry_any w4 b a len cap q3 hR (by omega)).mono ?_
      rintro x w5 ⟨⟨x, k, m, t⟩, he, rfl, ⟨q4, hq4, hR4⟩, hG4⟩
      have HT5 := hid (And.intro ((unhid HT4).1.read hbl hG4 ⟨q4, Nat.le_refl _, hR4⟩) (unhid HT4).2)
      clear hR hR4 hG4 HT4
      unfold Ent.vals
      dsimp only
      obtain ⟨_, _, hv, ho⟩ := (unhid HT5).1.v
      cases hv
      have hjl : j < es.length := by omega
      have hjl' : (j : Int) < (es.length : Int) := hj
      have HO := hid (ownsRow_set4 ho hjl rfl ⟨x, k, m, t⟩)
      have hlow := below_set4 (Below.refl w.heap.size w5) (ho.lt _ rfl).1 j ⟨x, k, m, t⟩
      have HL := hid hlow
      obtain ⟨a1, cap1, ev, hRr⟩ := rowIn_of_owns ho
      cases ev
      rcases hRr with hnil | ⟨g', hg', _, _, hRr⟩
      · rw [hnil] at hjl; simp at hjl
      cases hg'
      obtain ⟨⟨cc0, cc1, cc2, cc3⟩, f0, f1, f2, f3⟩ := hRr.cells j hjl
      clear hlow hRr ho h0
      go_wp2_with fail
      go_ret
      refine ⟨_, rfl, es.set j ⟨x, k, m, t⟩, ⟨g2, c2, by rw [List.length_set]; rfl, by rw [List.length_set]; exact unhid HO⟩, fun y hy => ?_, by rw [List.length_set]; omega, ?_, grown_low (unhid HT5).1.grown (unhid HL)⟩
      · rcases List.mem_or_eq_of_mem_set hy with hy | rfl
        · exact (unhid HT5).1.nice y hy
        · exact he
      · obtain ⟨p', h1, h2⟩ := (unhid HT5).1.rd
        exact ⟨p', by omega, h2.low (unhid HL) hbl⟩
  · have b0 : ((r : Int) == 0) = false := by rw [beq_eq_false_iff_ne]; omega
    have b1 : ((r : Int) == 1) = false := by rw [beq_eq_false_iff_ne]; omega
    go_wp2_with fail
    go_ret
    exact ⟨_, rfl, es, (unhid HT3).1.v, (unhid HT3).1.nice, (unhid HT3).1.few, by obtain ⟨p', h1, h2⟩ := (unhid HT3).1.rd; exact ⟨p', by omega, h2⟩, (unhid HT3).1.grown⟩
end Go.Proofs.YtoihhlkidlapmaaGreat

namespace Go.Proofs.YtoihhlkidlapmaaGreat
abbrev Pat (α : Type) := List (Option (α → Bool))
def starO {α : Type} (f : List α → Bool) : List α → Bool
  | [] => f []
  | c :: t => f (c :: t) || starO f t
def matchO {α : Type} : Pat α → List α → Bool
  | [], s => s.isEmpty
  | none :: g, s => starO (matchO g) s
  | some f :: g, s => match s with
    | [] => false
    | c :: t => f c && matchO g t
end Go.Proofs.YtoihhlkidlapmaaGreat

namespace Go.Proofs.YtoihhlkidlapmaaGreat
open Go.RowKit Go.Shelf
def hasA (s p : ByteArray) : Bool := Lib.hasPrefix s.data.toList p.data.toList
def cutA (s p : ByteArray) : ByteArray := if hasA s p then s.extract p.size s.size else s
end Go.Proofs.YtoihhlkidlapmaaGreat

namespace Go.Proofs.YtoihhlkidlapmaaGreat
open Go.RowKit Go.Shelf
abbrev W8 := Option (Option (UInt8 ⊕ ByteArray × Bool))
abbrev W8.star : W8 := none
abbrev W8.any : W8 := some none
abbrev W8.byte (c : UInt8) : W8 := some (some (.inl c))
abbrev W8.cls (inner : ByteArray) (others : Bool) : W8 := some (some (.inr (inner, others)))
def bang : ByteArray := ⟨#[33]⟩
def clsA (s : ByteArray) (i : Nat) : ByteArray := cutA (s.extract 1 i) bang
def classR (s : ByteArray) : Option (W8 × Nat) :=
  if Lib.indexByte s.data.toList 93 < 0 then none
  else if (clsA s (Lib.indexByte s.data.toList 93).toNat).toList.isEmpty || !((clsA s (Lib.indexByte s.data.toList 93).toNat).data.toList.all fun c => nameB c.toNat) then none
  else some (.cls (clsA s (Lib.indexByte s.data.toList 93).toNat) (hasA (s.extract 1 (Lib.indexByte s.data.toList 93).toNat) bang), (Lib.indexByte s.data.toList 93).toNat + 1)
def firstR (s : ByteArray) (c : UInt8) : Option (W8 × Nat) :=
  if c = 42 then some (.star, 1) else if c = 63 then some (.any, 1) else if c = 91 then classR s else if nameB c.toNat then some (.byte c, 1) else none
theorem eq_no {c b : UInt8} {n : Int} (hn : (b.toNat : Int) = n) (h : c ≠ b) : (((c.toNat : Nat) : Int) == n) = false := by
  rw [beq_eq_false_iff_ne]
  intro e
  exact h (UInt8.toNat_inj.1 (by omega))
end Go.Proofs.YtoihhlkidlapmaaGreat

namespace Go.Proofs.YtoihhlkidlapmaaGreat
open Go.RowKit Go.Shelf
theorem firstR_le {s : ByteArray} {x : W8} {n : Nat} (h0 : 0 < s.size) (h : firstR s s[0] = some (x, n)) : 1 ≤ n ∧ n ≤ s.size := by
  unfold firstR at h
  split at h
  · cases h; omega
  · split at h
    · cases h; omega
    · split at h
      · unfold classR at h
        split at h
        · cases h
        · split at h
          · cases h
          · rename_i hi _
            cases h
            obtain ⟨i, ei⟩ : ∃ i : Nat, Lib.indexByte s.data.toList 93 = i := ⟨(Lib.indexByte s.data.toList 93).toNat, by omega⟩
            have hil : i < s.size := by rw [Lib.size_eq]; exact (cutB_some 93 _ i ei).1
            rw [ei]; simp; omega
      · split at h
        · cases h; omega
        · cases h
def wantsF : Nat → ByteArray → Option (List W8)
  | 0, s => if s.size = 0 then some [] else none
  | f + 1, s => if h : 0 < s.size then
      match firstR s s[0] with
      | none => none
      | some (x, n) => (wantsF f (s.extract n s.size)).map (x :: ·)
    else some []
def wants (s : ByteArray) : Option (List W8) := wantsF s.size s
theorem wantsF_any : ∀ (f g : Nat) (s : ByteArray), s.size ≤ f → s.size ≤ g → wantsF f s = wantsF g s := by
  intro f
  induction f with
  | zero =>
    intro g s hf _
    have h0 : s.size = 0 := by omega
    cases g with
    | zero => rfl
    | succ g => unfold wantsF; rw [if_pos h0, dif_neg (by omega)]
  | succ f ih =>
    intro g s hf hg
    by_cases h0 : 0 < s.size
    · cases g with
      | zero => omega
      | succ g =>
        unfold wantsF
        rw [dif_pos h0, dif_pos h0]
        cases hr : firstR s s[0] with
        | none => rfl
        | some p =>
          obtain ⟨x, n⟩ := p
          have hn := firstR_le h0 hr
          show (wantsF f (s.extract n s.size)).map _ = (wantsF g (s.extract n s.size)).map _
          rw [ih g _ (by rw [ByteArray.size_extract]; omega) (by rw [ByteArray.size_extract]; omega)]
    · cases g with
      | zero => unfold wantsF; rw [dif_neg h0, if_pos (by omega)]
      | succ g => unfold wantsF; rw [dif_neg h0, dif_neg h0]
theorem wants_nil {s : ByteArray} (h : s.size = 0) : wants s = some [] := by
  unfold wants; rw [h]; unfold wantsF; rw [if_pos h]
theorem wants_none {s : ByteArray} (h0 : 0 < s.size) (h : firstR s s[0] = none) : wants s = none := by
  unfold wants
  rw [wantsF_any s.size (s.size + 1) s (Nat.le_refl _) (Nat.le_succ _)]
  unfold wantsF
  rw [dif_pos h0, h]
theorem wants_some {s : ByteArray} {x : W8} {n : Nat} (h0 : 0 < s.size) (h : firstR s s[0] = some (x, n)) : wants s = (wants (s.extract n s.size)).map (x :: ·) := by
  have hn := firstR_le h0 h
  unfold wants
  rw [wantsF_any s.size (s.size + 1) s (Nat.le_refl _) (Nat.le_succ _)]
  show wantsF (s.size + 1) s = _
  rw [wantsF, dif_pos h0, h]
  show (wantsF s.size (s.extract n s.size)).map _ = _
  rw [wantsF_any s.size (s.extract n s.size).size _ (by rw [ByteArray.size_extract]; omega) (Nat.le_refl _)]
end Go.Proofs.YtoihhlkidlapmaaGreat

namespace Go.Proofs.YtoihhlkidlapmaaGreat
open Go.RowKit Go.Shelf
abbrev W9 := Option (List W8)
abbrev W9.deep : W9 := none
abbrev W9.name (xs : List W8) : W9 := some xs
def nameW (s : ByteArray) : Option W9 := if (s.toList == [42, 42]) = true then some .deep else match wants s with
  | some (x :: xs) => some (.name (x :: xs))
  | _ => none
end Go.Proofs.YtoihhlkidlapmaaGreat

namespace Go.Proofs.YtoihhlkidlapmaaGreat
open Go.RowKit Go.Shelf
def takesB : W8 → UInt8 → Bool
  | none, _ => false
  | some none, _ => true
  | some (some (.inl d)), c => c == d
  | some (some (.inr (inner, others))), c => inner.data.toList.contains c != others
end Go.Proofs.YtoihhlkidlapmaaGreat

namespace Go.Proofs.YtoihhlkidlapmaaGreat
open Go.RowKit Go.Shelf
end Go.Proofs.YtoihhlkidlapmaaGreat

namespace Go.Proofs.YtoihhlkidlapmaaGreat
open Go.RowKit Go.Shelf
end Go.Proofs.YtoihhlkidlapmaaGreat

namespace Go.Proofs.YtoihhlkidlapmaaGreat
open Go.RowKit Go.Shelf
end Go.Proofs.YtoihhlkidlapmaaGreat

namespace Go.Proofs.YtoihhlkidlapmaaGreat
open Go.RowKit Go.Shelf
theorem index_at {l : List UInt8} {b : UInt8} {i : Nat} (h : Lib.indexByte l b = i) : l[i]? = some b ∧ ∀ j, j < i → l[j]? ≠ some b := by
  induction l generalizing i with
  | nil => simp [Lib.indexByte] at h
  | cons c l ih =>
    unfold Lib.indexByte at h
    have hg := Lib.indexByte_ge l b
    by_cases hc : (c == b) = true
    · simp [hc] at h
      obtain rfl : i = 0 := by omega
      have : c = b := by simpa using hc
      exact ⟨by simp [this], fun j hj => by omega⟩
    · simp [hc] at h
      split at h
      · omega
      · obtain ⟨j, rfl⟩ : ∃ j, i = j + 1 := ⟨i - 1, by omega⟩
        obtain ⟨h1, h2⟩ := ih (i := j) (by omega)
        refine ⟨by simpa using h1, fun k hk => ?_⟩
        cases k with
        | zero => simpa using hc
        | succ k => simpa using h2 k (by omega)
theorem index_of {l : List UInt8} {b : UInt8} {i : Nat} (h1 : l[i]? = some b) (h2 : ∀ j, j < i → l[j]? ≠ some b) : Lib.indexByte l b = i := by
  by_cases hn : Lib.indexByte l b < 0
  · exfalso
    have hc := cutB_none b l hn
    have : ∀ (l : List UInt8) (i : Nat), Lib.indexByte l b < 0 → l[i]? ≠ some b := by
      intro l
      induction l with
      | nil => intro i _; simp
      | cons c l ih =>
        intro i h
        unfold Lib.indexByte at h
        have hg := Lib.indexByte_ge l b
        by_cases hc : (c == b) = true
        · simp [hc] at h
        · simp [hc] at h
          have hl : Lib.indexByte l b < 0 := by split at h <;> omega
          cases i with
          | zero => simpa using hc
          | succ i => simpa using ih i hl
    exact this l i hn h1
  · obtain ⟨k, ek⟩ : ∃ k : Nat, Lib.indexByte l b = k := ⟨(Lib.indexByte l b).toNat, by omega⟩
    obtain ⟨g1, g2⟩ := index_at ek
    rw [ek]
    rcases Nat.lt_trichotomy k i with h | h | h
    · exact absurd g1 (h2 k h)
    · rw [h]
    · exact absurd h1 (g2 i h)
def clsFrom (l : List UInt8) : Nat := if l[1]? = some 33 then 2 else 1
theorem mid_data (s : ByteArray) (i : Nat) : (s.extract 1 i).data.toList = (s.data.toList.take i).drop 1 := by
  rw [Lib.extract_data, ← List.drop_take]
theorem mid_bang {s : ByteArray} {i : Nat} (hi : 1 < i) : hasA (s.extract 1 i) bang = decide (s.data.toList[1]? = some 33) := by
  unfold hasA Lib.hasPrefix
  rw [mid_data]
  have hb : bang.data.toList = [33] := rfl
  rw [hb]
  have h1 : ((s.data.toList.take i).drop 1)[0]? = s.data.toList[1]? := by
    rw [List.getElem?_drop, List.getElem?_take]; simp [hi]
  cases hm : (s.data.toList.take i).drop 1 with
  | nil =>
    rw [hm] at h1
    rw [← h1]; rfl
  | cons c t =>
    rw [hm] at h1
    rw [← h1]
    simp [List.isPrefixOf]
    rw [Bool.eq_iff_iff]
    simp
    exact eq_comm
theorem cls_data {s : ByteArray} {i : Nat} (hi : 1 < i) : (clsA s i).data.toList = (s.data.toList.take i).drop (clsFrom s.data.toList) := by
  unfold clsA cutA clsFrom
  rw [mid_bang hi]
  by_cases h : s.data.toList[1]? = some 33
  · rw [if_pos h, if_pos (decide_eq_true h), Lib.extract_data, mid_data]
    have hb : bang.size = 1 := rfl
    rw [hb, List.drop_drop, List.take_of_length_le]
    have hl : 1 < s.data.toList.length := (List.getElem?_eq_some_iff.1 h).1
    rw [Lib.size_eq, mid_data]; simp at hl ⊢; omega
  · rw [if_neg h, if_neg (by simpa using h), mid_data]
theorem class_some {s : ByteArray} {i : Nat} (h0 : s.data.toList[0]? = some 91) (hk : clsFrom s.data.toList < i) (hi : s.data.toList[i]? = some 93) (hall : ∀ j, clsFrom s.data.toList ≤ j → j < i → ∃ c, s.data.toList[j]? = some c ∧ nameB c.toNat = true) :
    classR s = some (.cls (clsA s i) (hasA (s.extract 1 i) bang), i + 1) := by
  have h1i : 1 < i := by unfold clsFrom at hk; split at hk <;> omega
  have hix : Lib.indexByte s.data.toList 93 = i := by
    refine index_of hi fun j hj => ?_
    by_cases hj0 : j = 0
    · subst hj0; rw [h0]; decide
    · by_cases hjk : clsFrom s.data.toList ≤ j
      · obtain ⟨c, hc, hn⟩ := hall j hjk hj
        rw [hc]
        intro e
        cases e
        revert hn; decide
      · have hj1 : j = 1 ∧ s.data.toList[1]? = some 33 := by
          unfold clsFrom at hjk
          split at hjk
          · exact ⟨by omega, by assumption⟩
          · omega
        rw [hj1.1, hj1.2]; decide
  have hil : i < s.data.toList.length := (List.getElem?_eq_some_iff.1 hi).1
  have he : (clsA s i).toList.isEmpty = false := by
    rw [Lib.toList_data, List.isEmpty_eq_false_iff, ← List.length_pos_iff, cls_data h1i, List.length_drop, List.length_take]; omega
  have ha : ((clsA s i).data.toList.all fun c => nameB c.toNat) = true := by
    rw [List.all_eq_true]
    intro c hc
    rw [cls_data h1i] at hc
    obtain ⟨m, hm⟩ := List.mem_iff_getElem?.1 hc
    rw [List.getElem?_drop, List.getElem?_take] at hm
    split at hm
    · rename_i hlt
      obtain ⟨d, hd, hn⟩ := hall _ (Nat.le_add_right _ m) hlt
      rw [hd] at hm
      cases hm
      exact hn
    · cases hm
  unfold classR
  rw [hix, if_neg (by omega)]
  show (if ((clsA s i).toList.isEmpty || _) = true then none else _) = _
  rw [he]
  simp only [Int.toNat_natCast]
  rw [ha]; rfl
theorem class_of {s : ByteArray} {p : W8 × Nat} (h0 : s.data.toList[0]? = some 91) (h : classR s = some p) : ∃ i, p.2 = i + 1 ∧ clsFrom s.data.toList < i ∧ s.data.toList[i]? = some 93 ∧ ∀ j, clsFrom s.data.toList ≤ j → j < i → ∃ c, s.data.toList[j]? = some c ∧ nameB c.toNat = true := by
  unfold classR at h
  split at h
  · cases h
  · split at h
    · cases h
    · rename_i hi hc
      obtain ⟨i, ei⟩ : ∃ i : Nat, Lib.indexByte s.data.toList 93 = i := ⟨(Lib.indexByte s.data.toList 93).toNat, by omega⟩
      obtain ⟨g1, g2⟩ := index_at ei
      rw [ei] at h hc
      simp only [Int.toNat_natCast] at h hc
      cases h
      simp only [Bool.or_eq_true, Bool.not_eq_true', not_or, Bool.not_eq_true, Bool.not_eq_false] at hc
      obtain ⟨hc1, hc2⟩ := hc
      have hil : i < s.data.toList.length := (List.getElem?_eq_some_iff.1 g1).1
      have h1i : 1 < i := by
        rcases (by omega : i = 0 ∨ i = 1 ∨ 1 < i) with rfl | rfl | h
        · rw [h0] at g1; cases g1
        · exfalso
          rw [Lib.toList_data, List.isEmpty_eq_false_iff, ← List.length_pos_iff] at hc1
          have hz : (clsA s 1).data.toList.length = 0 := by
            unfold clsA cutA
            split
            · rw [Lib.extract_data, mid_data]; simp
            · rw [mid_data]; simp
          omega
        · exact h
      refine ⟨i, rfl, ?_, g1, fun j h1 h2 => ?_⟩
      · rw [Lib.toList_data, List.isEmpty_eq_false_iff, ← List.length_pos_iff, cls_data h1i, List.length_drop, List.length_take] at hc1
        omega
      · obtain ⟨c, hcj⟩ : ∃ c, s.data.toList[j]? = some c := ⟨_, List.getElem?_eq_getElem (by omega)⟩
        refine ⟨c, hcj, ?_⟩
        rw [List.all_eq_true] at hc2
        refine hc2 c ?_
        rw [cls_data h1i, List.mem_iff_getElem?]
        refine ⟨j - clsFrom s.data.toList, ?_⟩
        rw [List.getElem?_drop, List.getElem?_take, show clsFrom s.data.toList + (j - clsFrom s.data.toList) = j by omega, if_pos h2, hcj]
end Go.Proofs.YtoihhlkidlapmaaGreat

namespace Go.Proofs.YtoihhlkidlapmaaGreat
open Go.RowKit Go.Shelf
def classN (s : ByteArray) : Int := match classR s with
  | some p => p.2
  | none => 0
theorem get_some {s : ByteArray} {j : Nat} (hj : j < s.size) : s.data.toList[j]? = some s[j] := getByte s j hj
theorem class_end {s : ByteArray} {k : Nat} (h0 : s.data.toList[0]? = some 91) (hk : k ≤ s.size) (hk0 : clsFrom s.data.toList ≤ k) (hall : ∀ j (hj : j < s.size), clsFrom s.data.toList ≤ j → j < k → nameB (s[j].toNat : Int) = true)
    (hend : ∀ h : k < s.size, nameB (s[k].toNat : Int) = false) : classN s = if k = clsFrom s.data.toList ∨ s.data.toList[k]? ≠ some 93 then 0 else (k : Int) + 1 := by
  have hl : s.data.toList.length = s.size := (Lib.size_eq s).symm
  split
  · rename_i hc
    unfold classN
    cases hr : classR s with
    | none => rfl
    | some p =>
      exfalso
      obtain ⟨i, _, h1, h2, h3⟩ := class_of h0 hr
      have his : i < s.size := by rw [← hl]; exact (List.getElem?_eq_some_iff.1 h2).1
      rcases Nat.lt_trichotomy i k with h | h | h
      · have := hall i his (Nat.le_of_lt h1) h
        rw [get_some his] at h2
        have e : s[i] = 93 := by simpa using h2
        rw [e] at this
        revert this; decide
      · subst h
        rcases hc with hc | hc
        · omega
        · exact hc h2
      · obtain ⟨c, hcc, hn⟩ := h3 k hk0 h
        have hks : k < s.size := by omega
        rw [get_some hks] at hcc
        cases hcc
        rw [hend hks] at hn
        cases hn
  · rename_i hc
    simp only [not_or, Decidable.not_not] at hc
    unfold classN
    rw [class_some h0 (by omega) hc.2 (fun j h1 h2 => ⟨_, get_some (by omega), hall j (by omega) h1 h2⟩)]
    simp
set_option maxRecDepth 100000 in
set_option maxHeartbeats 4000000 in
theorem l1Class_any (s : ByteArray) (hs : s.size ≤ 1048576) (h0 : s.data.toList[0]? = some 91) (w : World) :
    Calls Tryz.prog 272 #[.string s] w fun e w' => e = .returned (.int .i64 (classN s)) ∧ w' = w := by
  have hl : s.data.toList.length = s.size := (Lib.size_eq s).symm
  have hz : 0 < s.size := by rw [← hl]; exact (List.getElem?_eq_some_iff.1 h0).1
  have hcase : (¬ (1 : Int) < s.size ∧ clsFrom s.data.toList = 1) ∨ ∃ h : 1 < s.size, (((s[1]).toNat : Int) == 33) = true ∧ clsFrom s.data.toList = 2 ∨ (((s[1]).toNat : Int) == 33) = false ∧ clsFrom s.data.toList = 1 := by
    by_cases h : 1 < s.size
    · refine .inr ⟨h, ?_⟩
      by_cases e : s[1] = 33
      · left; exact ⟨by rw [e]; rfl, by unfold clsFrom; rw [get_some h, e]; rfl⟩
      · right; exact ⟨eq_no (n := 33) rfl e, by unfold clsFrom; rw [get_some h, if_neg (by simpa using e)]⟩
    · refine .inl ⟨by omega, ?_⟩
      unfold clsFrom
      rw [List.getElem?_eq_none (by omega)]; rfl
  have HC := hid (fun k => class_end (s := s) (k := k) h0)
  clear h0 hl
  rcases hcase with ⟨g1, g2⟩ | ⟨g1, ⟨g3, g2⟩ | ⟨g3, g2⟩⟩
  · rw [g2] at HC
    clear g2
    go_enter Tryz.func272, Tryz.ntmps272
    go_wp2_with fail
    go_loop [3] (fun i => ∃ k : Nat, k ≤ s.size ∧ 1 ≤ k ∧ i = .int .i64 k ∧ Hid (∀ j (hj : j < s.size), 1 ≤ j → j < k → nameB (s[j].toNat : Int) = true)) (fun i => s.size - (intOf i).toNat)
    case atStart => exact ⟨1, by omega, Nat.le_refl _, rfl, hid (fun j hj h1 h2 => by omega)⟩
    case round =>
      obtain ⟨k, hk, hkF, rfl, hc⟩ := hrel
      by_cases hlt : k < s.size
      · go_wp2_with fail
        refine (l1Small_any _ _).mono ?_
        rintro e w' ⟨rfl, rfl⟩
        cases hx : nameB (s[k].toNat : Int)
        · have E := hid (unhid HC k hk hkF (unhid hc) (fun _ => hx))
          by_cases hF : k = 1
          · subst hF
            go_wp2_with fail
            go_ret
            exact ⟨by rw [unhid E]; rfl, rfl⟩
          · have hF' : ((k : Int) == 1) = false := by rw [beq_eq_false_iff_ne]; omega
            have hS' : ((k : Int) == s.size) = false := by rw [beq_eq_false_iff_ne]; omega
            by_cases h93 : s[k] = 93
            · have b9 : (((s[k]).toNat : Int) != 93) = false := by rw [h93]; rfl
              have E2 := hid (show classN s = (k : Int) + 1 by rw [unhid E, if_neg (by rw [get_some hlt, h93]; simp [hF])])
              clear h93
              go_wp2_with fail
              go_ret
              exact ⟨by rw [unhid E2]; rfl, rfl⟩
            · have b9 : (((s[k]).toNat : Int) != 93) = true := by rw [bne_iff_ne]; intro e; exact h93 (UInt8.toNat_inj.1 (by have : (93 : UInt8).toNat = 93 := rfl; omega))
              have E2 := hid (show classN s = 0 by rw [unhid E, if_pos (.inr (by rw [get_some hlt]; simpa using h93))])
              clear h93
              go_wp2_with fail
              go_ret
              exact ⟨by rw [unhid E2]; rfl, rfl⟩
        · go_wp2_with fail
          refine ⟨⟨k + 1, by omega, by omega, by go_num, hid (fun j hj h1 h2 => ?_)⟩, by simp [intOf]; omega⟩
          by_cases hjk : j < k
          · exact unhid hc j hj h1 hjk
          · obtain rfl : j = k := by omega
            exact hx
      · have E := hid (unhid HC k hk hkF (unhid hc) (fun h => absurd h hlt))
        have E2 := hid (show classN s = 0 by rw [unhid E, if_pos (.inr (by rw [List.getElem?_eq_none (by simp; omega)]; simp))])
        have hS : ((k : Int) == s.size) = true := by rw [beq_iff_eq]; omega
        by_cases hF : k = 1
        · subst hF
          first | (exfalso; omega) | (go_wp2_with fail; go_ret; exact ⟨by rw [unhid E2]; rfl, rfl⟩)
        · have hF' : ((k : Int) == 1) = false := by rw [beq_eq_false_iff_ne]; omega
          go_wp2_with fail
          go_ret
          exact ⟨by rw [unhid E2]; rfl, rfl⟩
  · rw [g2] at HC
    clear g2
    go_enter Tryz.func272, Tryz.ntmps272
    go_wp2_with fail
    go_loop [3] (fun i => ∃ k : Nat, k ≤ s.size ∧ 2 ≤ k ∧ i = .int .i64 k ∧ Hid (∀ j (hj : j < s.size), 2 ≤ j → j < k → nameB (s[j].toNat : Int) = true)) (fun i => s.size - (intOf i).toNat)
    case atStart => exact ⟨2, by omega, Nat.le_refl _, rfl, hid (fun j hj h1 h2 => by omega)⟩
    case round =>
      obtain ⟨k, hk, hkF, rfl, hc⟩ := hrel
      by_cases hlt : k < s.size
      · go_wp2_with fail
        refine (l1Small_any _ _).mono ?_
        rintro e w' ⟨rfl, rfl⟩
        cases hx : nameB (s[k].toNat : Int)
        · have E := hid (unhid HC k hk hkF (unhid hc) (fun _ => hx))
          by_cases hF : k = 2
          · subst hF
            go_wp2_with fail
            go_ret
            exact ⟨by rw [unhid E]; rfl, rfl⟩
          · have hF' : ((k : Int) == 2) = false := by rw [beq_eq_false_iff_ne]; omega
            have hS' : ((k : Int) == s.size) = false := by rw [beq_eq_false_iff_ne]; omega
            by_cases h93 : s[k] = 93
            · have b9 : (((s[k]).toNat : Int) != 93) = false := by rw [h93]; rfl
              have E2 := hid (show classN s = (k : Int) + 1 by rw [unhid E, if_neg (by rw [get_some hlt, h93]; simp [hF])])
              clear h93
              go_wp2_with fail
              go_ret
              exact ⟨by rw [unhid E2]; rfl, rfl⟩
            · have b9 : (((s[k]).toNat : Int) != 93) = true := by rw [bne_iff_ne]; intro e; exact h93 (UInt8.toNat_inj.1 (by have : (93 : UInt8).toNat = 93 := rfl; omega))
              have E2 := hid (show classN s = 0 by rw [unhid E, if_pos (.inr (by rw [get_some hlt]; simpa using h93))])
              clear h93
              go_wp2_with fail
              go_ret
              exact ⟨by rw [unhid E2]; rfl, rfl⟩
        · go_wp2_with fail
          refine ⟨⟨k + 1, by omega, by omega, by go_num, hid (fun j hj h1 h2 => ?_)⟩, by simp [intOf]; omega⟩
          by_cases hjk : j < k
          · exact unhid hc j hj h1 hjk
          · obtain rfl : j = k := by omega
            exact hx
      · have E := hid (unhid HC k hk hkF (unhid hc) (fun h => absurd h hlt))
        have E2 := hid (show classN s = 0 by rw [unhid E, if_pos (.inr (by rw [List.getElem?_eq_none (by simp; omega)]; simp))])
        have hS : ((k : Int) == s.size) = true := by rw [beq_iff_eq]; omega
        by_cases hF : k = 2
        · subst hF
          first | (exfalso; omega) | (go_wp2_with fail; go_ret; exact ⟨by rw [unhid E2]; rfl, rfl⟩)
        · have hF' : ((k : Int) == 2) = false := by rw [beq_eq_false_iff_ne]; omega
          go_wp2_with fail
          go_ret
          exact ⟨by rw [unhid E2]; rfl, rfl⟩
  · rw [g2] at HC
    clear g2
    go_enter Tryz.func272, Tryz.ntmps272
    go_wp2_with fail
    go_loop [3] (fun i => ∃ k : Nat, k ≤ s.size ∧ 1 ≤ k ∧ i = .int .i64 k ∧ Hid (∀ j (hj : j < s.size), 1 ≤ j → j < k → nameB (s[j].toNat : Int) = true)) (fun i => s.size - (intOf i).toNat)
    case atStart => exact ⟨1, by omega, Nat.le_refl _, rfl, hid (fun j hj h1 h2 => by omega)⟩
    case round =>
      obtain ⟨k, hk, hkF, rfl, hc⟩ := hrel
      by_cases hlt : k < s.size
      · go_wp2_with fail
        refine (l1Small_any _ _).mono ?_
        rintro e w' ⟨rfl, rfl⟩
        cases hx : nameB (s[k].toNat : Int)
        · have E := hid (unhid HC k hk hkF (unhid hc) (fun _ => hx))
          by_cases hF : k = 1
          · subst hF
            go_wp2_with fail
            go_ret
            exact ⟨by rw [unhid E]; rfl, rfl⟩
          · have hF' : ((k : Int) == 1) = false := by rw [beq_eq_false_iff_ne]; omega
            have hS' : ((k : Int) == s.size) = false := by rw [beq_eq_false_iff_ne]; omega
            by_cases h93 : s[k] = 93
            · have b9 : (((s[k]).toNat : Int) != 93) = false := by rw [h93]; rfl
              have E2 := hid (show classN s = (k : Int) + 1 by rw [unhid E, if_neg (by rw [get_some hlt, h93]; simp [hF])])
              clear h93
              go_wp2_with fail
              go_ret
              exact ⟨by rw [unhid E2]; rfl, rfl⟩
            · have b9 : (((s[k]).toNat : Int) != 93) = true := by rw [bne_iff_ne]; intro e; exact h93 (UInt8.toNat_inj.1 (by have : (93 : UInt8).toNat = 93 := rfl; omega))
              have E2 := hid (show classN s = 0 by rw [unhid E, if_pos (.inr (by rw [get_some hlt]; simpa using h93))])
              clear h93
              go_wp2_with fail
              go_ret
              exact ⟨by rw [unhid E2]; rfl, rfl⟩
        · go_wp2_with fail
          refine ⟨⟨k + 1, by omega, by omega, by go_num, hid (fun j hj h1 h2 => ?_)⟩, by simp [intOf]; omega⟩
          by_cases hjk : j < k
          · exact unhid hc j hj h1 hjk
          · obtain rfl : j = k := by omega
            exact hx
      · have E := hid (unhid HC k hk hkF (unhid hc) (fun h => absurd h hlt))
        have E2 := hid (show classN s = 0 by rw [unhid E, if_pos (.inr (by rw [List.getElem?_eq_none (by simp; omega)]; simp))])
        have hS : ((k : Int) == s.size) = true := by rw [beq_iff_eq]; omega
        by_cases hF : k = 1
        · subst hF
          first | (exfalso; omega) | (go_wp2_with fail; go_ret; exact ⟨by rw [unhid E2]; rfl, rfl⟩)
        · have hF' : ((k : Int) == 1) = false := by rw [beq_eq_false_iff_ne]; omega
          go_wp2_with fail
          go_ret
          exact ⟨by rw [unhid E2]; rfl, rfl⟩
end Go.Proofs.YtoihhlkidlapmaaGreat

namespace Go.Proofs.YtoihhlkidlapmaaGreat
open Go.RowKit Go.Shelf
theorem ba_same {x y : ByteArray} (h : x.data.toList = y.data.toList) : x = y := by
  obtain ⟨⟨l⟩⟩ := x; obtain ⟨⟨m⟩⟩ := y; simp at h; subst h; rfl
theorem tail_data (s : ByteArray) (k : Nat) : (s.extract k s.size).data.toList = s.data.toList.drop k := by
  rw [Lib.extract_data, List.take_of_length_le (by simp)]
theorem tail_tail (s : ByteArray) (k n : Nat) : (s.extract k s.size).extract n (s.extract k s.size).size = s.extract (k + n) s.size :=
  ba_same (by rw [tail_data, tail_data, tail_data, List.drop_drop])
theorem tail_size (s : ByteArray) (k : Nat) : (s.extract k s.size).size = s.size - k := by rw [ByteArray.size_extract]; omega
theorem tail_head {s : ByteArray} {k : Nat} (hk : k < s.size) (h : 0 < (s.extract k s.size).size) : (s.extract k s.size)[0] = s[k] := by
  have h1 : (s.extract k s.size).data.toList[0]? = some (s.extract k s.size)[0] := getByte _ 0 h
  have h2 : s.data.toList[k]? = some s[k] := getByte s k hk
  rw [tail_data, List.getElem?_drop, Nat.add_zero, h2] at h1
  exact (Option.some.inj h1).symm
def globbedB (s : ByteArray) : Bool := (wants s).any fun l => !l.isEmpty
theorem globbed_size {s : ByteArray} (h : 0 < s.size) : globbedB s = (wants s).isSome := by
  unfold globbedB
  cases hr : firstR s s[0] with
  | none => rw [wants_none h hr]; rfl
  | some p =>
    obtain ⟨x, n⟩ := p
    rw [wants_some h hr]
    cases wants (s.extract n s.size) <;> rfl
theorem globbed_nil {s : ByteArray} (h : s.size = 0) : globbedB s = false := by unfold globbedB; rw [wants_nil h]; rfl
theorem tail_none {s : ByteArray} {k : Nat} (hk : k < s.size) (h : firstR (s.extract k s.size) s[k] = none) : (wants (s.extract k s.size)).isSome = false := by
  have hz : 0 < (s.extract k s.size).size := by rw [tail_size]; omega
  rw [wants_none hz (by rw [tail_head hk hz]; exact h)]; rfl
theorem tail_some {s : ByteArray} {k n : Nat} {x : W8} (hk : k < s.size) (h : firstR (s.extract k s.size) s[k] = some (x, n)) : (wants (s.extract k s.size)).isSome = (wants (s.extract (k + n) s.size)).isSome ∧ 1 ≤ n ∧ k + n ≤ s.size := by
  have hz : 0 < (s.extract k s.size).size := by rw [tail_size]; omega
  have hr : firstR (s.extract k s.size) (s.extract k s.size)[0] = some (x, n) := by rw [tail_head hk hz]; exact h
  have hn := firstR_le hz hr
  rw [tail_size] at hn
  rw [wants_some hz hr, tail_tail]
  exact ⟨by cases wants (s.extract (k + n) s.size) <;> rfl, by omega, by omega⟩
set_option maxRecDepth 100000 in
set_option maxHeartbeats 4000000 in
theorem l1Globbed_any (s : ByteArray) (hs : s.size ≤ 1048576) (w : World) :
    Calls Tryz.prog 236 #[.string s] w fun e w' => e = .returned (.bool (globbedB s)) ∧ w' = w := by
  go_enter Tryz.func236, Tryz.ntmps236
  go_wp2_with fail
  go_loop [3, 4] (fun i _ => ∃ k : Nat, k ≤ s.size ∧ i = .int .i64 k ∧ Hid ((wants s).isSome = (wants (s.extract k s.size)).isSome)) (fun i _ => s.size - (intOf i).toNat)
  case atStart => exact ⟨0, by omega, rfl, hid (by rw [show s.extract 0 s.size = s from ba_same (by rw [tail_data, List.drop_zero])])⟩
  case round =>
    obtain ⟨k, hk, rfl, hc⟩ := hrel
    by_cases hlt : k < s.size
    · have hz : 0 < s.size := by omega
      by_cases e1 : s[k] = 91
      · have b1 : (((s[k]).toNat : Int) == 91) = true := by rw [e1]; rfl
        have h0 : (s.extract k s.size).data.toList[0]? = some 91 := by rw [tail_data, List.getElem?_drop, Nat.add_zero, get_some hlt, e1]
        have hF : firstR (s.extract k s.size) s[k] = classR (s.extract k s.size) := by rw [e1]; rfl
        have H0 := hid h0
        have hrz : (s.extract k s.size).size ≤ 1048576 := by rw [tail_size]; omega
        have HF := hid hF
        clear e1 h0 hF
        go_wp2_with fail
        refine (l1Class_any _ hrz (unhid H0) _).mono ?_
        rintro e w' ⟨rfl, rfl⟩
        cases hr : classR (s.extract k s.size) with
        | none =>
          have hN : classN (s.extract k s.size) = 0 := by unfold classN; rw [hr]
          have E := hid (show globbedB s = false by rw [globbed_size hz, unhid hc]; exact tail_none hlt ((unhid HF).trans hr))
          clear hr
          rw [hN]
          go_wp2_with fail
          go_ret
          exact ⟨by rw [unhid E]; rfl, rfl⟩
        | some p =>
          obtain ⟨x, n⟩ := p
          have hN : classN (s.extract k s.size) = n := by unfold classN; rw [hr]
          obtain ⟨g1, g2, g3⟩ := tail_some hlt ((unhid HF).trans hr)
          have hn0 : ((n : Int) == 0) = false := by rw [beq_eq_false_iff_ne]; omega
          have G1 := hid g1
          clear hr g1
          rw [hN]
          go_wp2_with fail
          refine ⟨⟨k + n, by omega, by go_num, hid ((unhid hc).trans (unhid G1))⟩, by simp [intOf]; omega⟩
      · have b1 := eq_no (n := 91) rfl e1
        by_cases e2 : s[k] = 42
        · have b2 : (((s[k]).toNat : Int) == 42) = true := by rw [e2]; rfl
          obtain ⟨g1, g2, g3⟩ := tail_some (x := .star) (n := 1) hlt (by rw [e2]; rfl)
          have G1 := hid g1
          clear e1 e2 g1
          go_wp2_with fail
          refine ⟨⟨k + 1, by omega, by go_num, hid ((unhid hc).trans (unhid G1))⟩, by simp [intOf]; omega⟩
        · have b2 := eq_no (n := 42) rfl e2
          by_cases e3 : s[k] = 63
          · have b3 : (((s[k]).toNat : Int) == 63) = true := by rw [e3]; rfl
            obtain ⟨g1, g2, g3⟩ := tail_some (x := .any) (n := 1) hlt (by rw [e3]; rfl)
            have G1 := hid g1
            clear e1 e2 e3 g1
            go_wp2_with fail
            refine ⟨⟨k + 1, by omega, by go_num, hid ((unhid hc).trans (unhid G1))⟩, by simp [intOf]; omega⟩
          · have b3 := eq_no (n := 63) rfl e3
            cases hn : nameB ((s[k]).toNat : Int)
            · have E := hid (show globbedB s = false by
                rw [globbed_size hz, unhid hc]
                exact tail_none hlt (by unfold firstR; rw [if_neg e2, if_neg e3, if_neg e1, hn]; rfl))
              clear e1 e2 e3
              go_wp2_with fail
              refine (l1Small_any _ _).mono ?_
              rintro e w' ⟨rfl, rfl⟩
              rw [hn]
              go_wp2_with fail
              go_ret
              exact ⟨by rw [unhid E]; rfl, rfl⟩
            · obtain ⟨g1, g2, g3⟩ := tail_some (x := .byte s[k]) (n := 1) hlt (by unfold firstR; rw [if_neg e2, if_neg e3, if_neg e1, if_pos hn])
              have G1 := hid g1
              clear e1 e2 e3 g1
              go_wp2_with fail
              refine (l1Small_any _ _).mono ?_
              rintro e w' ⟨rfl, rfl⟩
              rw [hn]
              go_wp2_with fail
              refine ⟨⟨k + 1, by omega, by go_num, hid ((unhid hc).trans (unhid G1))⟩, by simp [intOf]; omega⟩
    · have hks : k = s.size := by omega
      have hsome : (wants s).isSome = true := by
        rw [unhid hc, wants_nil (by rw [tail_size]; omega)]; rfl
      by_cases hz : 0 < s.size
      · have E := hid (show globbedB s = true by rw [globbed_size hz]; exact hsome)
        have he : s.toList.isEmpty = false := by rw [Lib.toList_data, List.isEmpty_eq_false_iff, ← List.length_pos_iff, ← Lib.size_eq]; exact hz
        clear hks
        go_wp2_with fail
        go_ret
        exact ⟨by rw [unhid E]; rfl, rfl⟩
      · have E := hid (show globbedB s = false from globbed_nil (by omega))
        have he : s.toList.isEmpty = true := by rw [Lib.toList_data, List.isEmpty_iff, ← List.length_eq_zero_iff, ← Lib.size_eq]; omega
        clear hks
        go_wp2_with fail
        go_ret
        exact ⟨by rw [unhid E]; rfl, rfl⟩
end Go.Proofs.YtoihhlkidlapmaaGreat

namespace Go.Proofs.YtoihhlkidlapmaaGreat
open Go.RowKit Go.Shelf
def globbedL (l : List UInt8) : Bool := globbedB ⟨l.toArray⟩
theorem globbedL_eq (x : ByteArray) : globbedL x.data.toList = globbedB x := by
  unfold globbedL; exact congrArg globbedB (ba_same (by simp))
def globOkB (l : List UInt8) : Bool := decide ((cutB 47 l).length ≤ 5) && decide (l.length ≤ 40) && (cutB 47 l).all globbedL
set_option maxRecDepth 100000 in
set_option maxHeartbeats 2000000 in
theorem specGlobOk_any (s : ByteArray) (hs : s.size ≤ 1048576) (w : World) :
    Calls Tryz.prog 173 #[.string s] w fun e w' => e = .returned (.bool (globOkB s.data.toList)) ∧ Below w.heap.size w w' := by
  go_enter Tryz.func173, Tryz.ntmps173
  go_wp2_with fail
  refine (l1Cut_any s 47 _ hs (by omega) (by omega) _).mono ?_
  rintro e w1 ⟨v, xs, rfl, hxs, hown, hB⟩
  have hne : xs ≠ [] := by
    intro h; subst h; exact cutB_ne _ _ hxs.symm
  obtain ⟨n, hn⟩ : ∃ n, xs.length = n + 1 := ⟨xs.length - 1, by have := List.length_pos_iff.2 hne; omega⟩
  rw [hn] at hown
  obtain ⟨g, cap, rfl⟩ := ownsRow_succ hown
  have hcell : ∀ (k : Nat) x, xs[k]? = some x → w1.cell? ⟨g, k, none⟩ = some (.string x) := fun k x hx => by
    have hk : k < xs.length := (List.getElem?_eq_some_iff.1 hx).1
    rw [hown.cellAt k (by omega), List.getElem?_map, hx]; rfl
  have hlen : ∀ x ∈ xs, x.size ≤ 1048576 := fun x hx => by
    have h1 : x.data.toList ∈ cutB 47 s.data.toList := by rw [← hxs]; exact List.mem_map.2 ⟨x, hx, rfl⟩
    have h2 := cutB_le 47 _ _ h1
    rw [← Lib.size_eq, ← Lib.size_eq] at h2
    omega
  have Hcell := hid hcell
  have Hlen := hid hlen
  have Hxs := hid hxs
  have Hn := hid hn
  have hns : n ≤ 1048576 := by
    have := cutB_length 47 s.data.toList
    rw [← hxs, ← Lib.size_eq] at this
    simp [datas] at this
    omega
  clear hown hcell hlen hxs hn
  go_wp2_with fail
  go_loop [4] (fun i => ∃ k : Nat, k ≤ n + 1 ∧ i = .int .i64 k ∧ Hid (((datas xs).take k).all globbedL = true)) (fun i => n + 1 - (intOf i).toNat)
  case atStart => exact ⟨0, Nat.zero_le _, rfl, hid (by simp)⟩
  case round =>
    obtain ⟨k, hk, rfl, hall⟩ := hrel
    by_cases hlt : k < n + 1
    · obtain ⟨x, hx⟩ : ∃ x, xs[k]? = some x := ⟨xs[k]'(by rw [unhid Hn]; exact hlt), List.getElem?_eq_getElem _⟩
      have hck := unhid Hcell k x hx
      have hlk := unhid Hlen x (List.mem_of_getElem? hx)
      have Hx := hid hx
      clear hx
      cases hb : globbedL x.data.toList
      · go_wp2_with (go_at_call 236; refine (l1Globbed_any _ hlk _).mono ?_; rintro e w' ⟨rfl, rfl⟩; rw [← globbedL_eq, hb])
        go_ret
        refine ⟨?_, hB⟩
        have hf : globOkB s.data.toList = false := by
          unfold globOkB
          rw [← unhid Hxs, List.all_eq_false.2 ⟨x.data.toList, List.mem_map.2 ⟨x, List.mem_of_getElem? (unhid Hx), rfl⟩, by simp [hb]⟩]; simp
        rw [hf]; rfl
      · go_wp2_with (go_at_call 236; refine (l1Globbed_any _ hlk _).mono ?_; rintro e w' ⟨rfl, rfl⟩; rw [← globbedL_eq, hb])
        refine ⟨⟨k + 1, by omega, by go_num, hid ?_⟩, by simp [intOf]; omega⟩
        rw [List.take_add_one, List.getElem?_map, unhid Hx, List.all_append, unhid hall]
        simp [hb]
    · have hl : (datas xs).length = n + 1 := by rw [← unhid Hn]; simp [datas]
      have hall' : (datas xs).all globbedL = true := by have := unhid hall; rwa [List.take_of_length_le (by omega)] at this
      have hf : globOkB s.data.toList = (decide ((n : Int) + 1 ≤ 5) && decide ((s.size : Int) ≤ 40)) := by
        unfold globOkB
        rw [← unhid Hxs, hall', hl, Bool.and_true, ← Lib.size_eq]
        rw [show decide (n + 1 ≤ 5) = decide ((n : Int) + 1 ≤ 5) from decide_eq_decide.2 (by omega), show decide (s.size ≤ 40) = decide ((s.size : Int) ≤ 40) from decide_eq_decide.2 (by omega)]
      have HF := hid hf
      clear hf hall' hl
      by_cases h5 : (n : Int) + 1 ≤ 5
      · have E := hid (show globOkB s.data.toList = decide ((s.size : Int) ≤ 40) by rw [unhid HF, decide_eq_true h5, Bool.true_and])
        go_wp2
        go_ret
        exact ⟨by rw [unhid E]; rfl, hB⟩
      · have E := hid (show globOkB s.data.toList = false by rw [unhid HF, decide_eq_false h5, Bool.false_and])
        go_wp2
        go_ret
        exact ⟨by rw [unhid E]; rfl, hB⟩
end Go.Proofs.YtoihhlkidlapmaaGreat

namespace Go.Proofs.YtoihhlkidlapmaaGreat
open Go.RowKit Go.Shelf
attribute [local go_sem] Oper.semAt_some
end Go.Proofs.YtoihhlkidlapmaaGreat

namespace Go.Proofs.YtoihhlkidlapmaaGreat
open Go.RowKit Go.Shelf
attribute [local go_sem] Oper.semAt_some
theorem nameW_globbed (x : ByteArray) : (nameW x).isSome = globbedL x.data.toList := by
  rw [globbedL_eq]
  unfold nameW globbedB
  split
  · rename_i h
    have hd : x.data.toList = [42, 42] := by rw [← Lib.toList_data]; simpa using h
    have hx : x = ⟨#[42, 42]⟩ := ba_same hd
    subst hx; decide
  · cases wants x with
    | none => rfl
    | some l => cases l <;> rfl
end Go.Proofs.YtoihhlkidlapmaaGreat

namespace Go.Proofs.YtoihhlkidlapmaaGreat
open Go.RowKit Go.Shelf
attribute [local go_sem] Oper.semAt_some
end Go.Proofs.YtoihhlkidlapmaaGreat

namespace Go.Proofs.YtoihhlkidlapmaaGreat
open Go.RowKit Go.Shelf
attribute [local go_sem] Oper.semAt_some
end Go.Proofs.YtoihhlkidlapmaaGreat

namespace Go.Proofs.YtoihhlkidlapmaaGreat
open Go.RowKit Go.Shelf
def opt8 : W8 → Option (UInt8 → Bool)
  | none => none
  | some x => some (takesB (some x))
theorem below_drewN {B : Nat} (w : World) (m : Nat) : Below B w (w.drewN m) := ⟨rfl, rfl, rfl, Nat.le_refl _, fun _ _ => rfl⟩
end Go.Proofs.YtoihhlkidlapmaaGreat

namespace Go.Proofs.YtoihhlkidlapmaaGreat
open Go.RowKit Go.Shelf
attribute [local go_sem] Oper.semAt_some
def CellsAt (W : World) (b : Nat) : Prop := ∃ o : Obj, W.heap[b]? = some o ∧ o.isCells = true
def PB (N : Nat) (v : Value) (W : World) (b : Nat) : Prop := (N ≤ b ∧ v.ownBlock ≠ some b) ∧ CellsAt W b
end Go.Proofs.YtoihhlkidlapmaaGreat

namespace Go.Proofs.YtoihhlkidlapmaaGreat
open Go.RowKit Go.Shelf
def isNot (s : ByteArray) : Bool := decide (s.data.toList[1]? = some 33)
def inC (s : ByteArray) (c : UInt8) : Bool := ((s.data.toList.take (s.size - 1)).drop (clsFrom s.data.toList)).contains c
theorem inC_yes {s : ByteArray} {c : UInt8} (k : Nat) (h1 : clsFrom s.data.toList ≤ k) (h2 : k < s.size - 1) (h3 : s.data.toList[k]? = some c) : inC s c = true := by
  unfold inC
  rw [List.contains_iff_mem, List.mem_iff_getElem?]
  exact ⟨k - clsFrom s.data.toList, by rw [List.getElem?_drop, List.getElem?_take, show clsFrom s.data.toList + (k - clsFrom s.data.toList) = k by omega, if_pos h2, h3]⟩
theorem inC_no {s : ByteArray} {c : UInt8} (h : ∀ k, clsFrom s.data.toList ≤ k → k < s.size - 1 → s.data.toList[k]? ≠ some c) : inC s c = false := by
  unfold inC
  rw [Bool.eq_false_iff]
  intro e
  rw [List.contains_iff_mem, List.mem_iff_getElem?] at e
  obtain ⟨m, hm⟩ := e
  rw [List.getElem?_drop, List.getElem?_take] at hm
  split at hm
  · rename_i hlt; exact h _ (Nat.le_add_right _ m) hlt hm
  · cases hm
set_option maxRecDepth 100000 in
set_option maxHeartbeats 2000000 in
theorem l1Of_any (s : ByteArray) (c : UInt8) (hs : s.size ≤ 1048576) (h3 : 3 ≤ s.size) (w : World) :
    Calls Tryz.prog 274 #[.string s, .int .u8 c.toNat] w fun e w' => e = .returned (.bool (inC s c != isNot s)) ∧ w' = w := by
  have g1 : s.data.toList[1]? = some s[1] := get_some (by omega)
  by_cases e1 : s[1] = 33
  · have b1 : (((s[1]).toNat : Int) == 33) = true := by rw [e1]; rfl
    have hd := hid (show isNot s = true by unfold isNot; rw [g1, e1]; rfl)
    have hf := hid (show clsFrom s.data.toList = 2 by unfold clsFrom; rw [g1, e1]; rfl)
    clear g1 e1
    go_enter Tryz.func274, Tryz.ntmps274
    go_wp2_with fail
    go_loop [6] (fun i => ∃ k : Nat, 1 ≤ k ∧ k ≤ s.size - 1 ∧ i = .int .i64 k ∧ Hid (∀ j, clsFrom s.data.toList ≤ j → j < k → s.data.toList[j]? ≠ some c)) (fun i => s.size - (intOf i).toNat)
    case atStart => exact ⟨1, by omega, by omega, rfl, hid (fun j a b => by rw [unhid hf] at a; omega)⟩
    case round =>
      obtain ⟨k, hk1, hk, rfl, hno⟩ := hrel
      by_cases hlt : k < s.size - 1
      · have hlt' : (k : Int) < (s.size : Int) - 1 := by omega
        have hks : k < s.size := by omega
        by_cases e2 : s[k] = c
        · have b2 : (((s[k]).toNat : Int) == (c.toNat : Int)) = true := by rw [e2]; simp
          by_cases hk2 : 1 < k
          · have E := hid (show inC s c = true from inC_yes k (by rw [unhid hf]; omega) hlt (by rw [get_some hks, e2]))
            clear e2
            go_wp2_with fail
            go_ret
            exact ⟨by rw [unhid E, unhid hd]; rfl, rfl⟩
          · have hk0 : k = 1 := by omega
            subst hk0
            clear e2
            go_wp2_with fail
            go_round
            case rel => exact ⟨2, by omega, by omega, rfl, hid (fun j a b => by rw [unhid hf] at a; omega)⟩
            case measure => simp [intOf]; omega
        · have b2 : (((s[k]).toNat : Int) == (c.toNat : Int)) = false := eq_no rfl e2
          have hno2 := hid (show ∀ j, clsFrom s.data.toList ≤ j → j < k + 1 → s.data.toList[j]? ≠ some c from fun j a b => by
            by_cases e : j = k
            · subst e; rw [get_some hks]; simpa using e2
            · exact unhid hno j a (by omega))
          clear e2
          go_wp2_with fail
          go_round
          case rel => exact ⟨k + 1, by omega, by omega, by go_num, hno2⟩
          case measure => simp [intOf]; omega
      · have E := hid (show inC s c = false from inC_no (fun j a b => unhid hno j a (by omega)))
        have hlt' : ¬ (k : Int) < (s.size : Int) - 1 := by omega
        go_wp2_with fail
        go_ret
        exact ⟨by rw [unhid E, unhid hd]; rfl, rfl⟩
  · have b1 := eq_no (n := 33) rfl e1
    have hd := hid (show isNot s = false by unfold isNot; rw [g1]; simpa using e1)
    have hf := hid (show clsFrom s.data.toList = 1 by unfold clsFrom; rw [g1, if_neg (by simpa using e1)])
    clear g1 e1
    go_enter Tryz.func274, Tryz.ntmps274
    go_wp2_with fail
    go_loop [6] (fun i => ∃ k : Nat, 1 ≤ k ∧ k ≤ s.size - 1 ∧ i = .int .i64 k ∧ Hid (∀ j, clsFrom s.data.toList ≤ j → j < k → s.data.toList[j]? ≠ some c)) (fun i => s.size - (intOf i).toNat)
    case atStart => exact ⟨1, by omega, by omega, rfl, hid (fun j a b => by rw [unhid hf] at a; omega)⟩
    case round =>
      obtain ⟨k, hk1, hk, rfl, hno⟩ := hrel
      by_cases hlt : k < s.size - 1
      · have hlt' : (k : Int) < (s.size : Int) - 1 := by omega
        have hks : k < s.size := by omega
        by_cases e2 : s[k] = c
        · have b2 : (((s[k]).toNat : Int) == (c.toNat : Int)) = true := by rw [e2]; simp
          have E := hid (show inC s c = true from inC_yes k (by rw [unhid hf]; omega) hlt (by rw [get_some hks, e2]))
          clear e2
          by_cases hk2 : (1 : Int) < k
          all_goals
            go_wp2_with fail
            go_ret
            exact ⟨by rw [unhid E, unhid hd]; rfl, rfl⟩
        · have b2 : (((s[k]).toNat : Int) == (c.toNat : Int)) = false := eq_no rfl e2
          have hno2 := hid (show ∀ j, clsFrom s.data.toList ≤ j → j < k + 1 → s.data.toList[j]? ≠ some c from fun j a b => by
            by_cases e : j = k
            · subst e; rw [get_some hks]; simpa using e2
            · exact unhid hno j a (by omega))
          clear e2
          go_wp2_with fail
          go_round
          case rel => exact ⟨k + 1, by omega, by omega, by go_num, hno2⟩
          case measure => simp [intOf]; omega
      · have E := hid (show inC s c = false from inC_no (fun j a b => unhid hno j a (by omega)))
        have hlt' : ¬ (k : Int) < (s.size : Int) - 1 := by omega
        go_wp2_with fail
        go_ret
        exact ⟨by rw [unhid E, unhid hd]; rfl, rfl⟩
theorem class_takes {g : ByteArray} {x : W8} {n : Nat} (h0 : g.data.toList[0]? = some 91) (h : classR g = some (x, n)) (c : UInt8) : (inC (g.extract 0 n) c != isNot (g.extract 0 n)) = takesB x c ∧ 3 ≤ (g.extract 0 n).size ∧ n ≤ g.size := by
  obtain ⟨i, hi, hf, h93, hall⟩ := class_of h0 h
  have hs := class_some h0 hf h93 hall
  rw [hs] at h
  cases h
  have hil : i < g.data.toList.length := (List.getElem?_eq_some_iff.1 h93).1
  have h1i : 1 < i := by unfold clsFrom at hf; split at hf <;> omega
  have hz : (g.extract 0 (i + 1)).size = i + 1 := by rw [ByteArray.size_extract, Lib.size_eq]; omega
  have hd : (g.extract 0 (i + 1)).data.toList = g.data.toList.take (i + 1) := by rw [Lib.extract_data]; simp
  have h1 : (g.extract 0 (i + 1)).data.toList[1]? = g.data.toList[1]? := by rw [hd, List.getElem?_take, if_pos (by omega)]
  have hn : isNot (g.extract 0 (i + 1)) = hasA (g.extract 1 i) bang := by rw [mid_bang h1i]; unfold isNot; rw [h1]
  have hc : clsFrom (g.extract 0 (i + 1)).data.toList = clsFrom g.data.toList := by unfold clsFrom; rw [h1]
  refine ⟨?_, by rw [hz]; omega, by rw [Lib.size_eq]; omega⟩
  rw [hn]
  show _ = ((clsA g i).data.toList.contains c != hasA (g.extract 1 i) bang)
  rw [cls_data h1i]
  unfold inC
  rw [hc, hz, hd, List.take_take]
  simp
theorem wants_cons {g : ByteArray} {xs : List W8} (h0 : 0 < g.size) (h : wants g = some xs) : ∃ x n ys, firstR g g[0] = some (x, n) ∧ wants (g.extract n g.size) = some ys ∧ xs = x :: ys := by
  cases hf : firstR g g[0] with
  | none => rw [wants_none h0 hf] at h; cases h
  | some p =>
    obtain ⟨x, n⟩ := p
    rw [wants_some h0 hf] at h
    cases hw : wants (g.extract n g.size) with
    | none => rw [hw] at h; cases h
    | some ys => rw [hw] at h; cases h; exact ⟨x, n, ys, rfl, hw, rfl⟩
theorem empty_false {s : ByteArray} (h : 0 < s.size) : s.toList.isEmpty = false := by
  rw [Lib.toList_data, List.isEmpty_eq_false_iff, ← List.length_pos_iff, ← Lib.size_eq]; exact h
theorem empty_true {s : ByteArray} (h : s.size = 0) : s.toList.isEmpty = true := by
  rw [Lib.toList_data, List.isEmpty_iff, ← List.length_eq_zero_iff, ← Lib.size_eq]; exact h
theorem head_tail {s : ByteArray} (h : 0 < s.size) : s.data.toList = s[0] :: (s.extract 1 s.size).data.toList := by
  rw [tail_data]
  have := get_some h
  cases hl : s.data.toList with
  | nil => rw [hl] at this; cases this
  | cons c t => rw [hl] at this; simp at this; subst this; rfl
def fitB (xs : List W8) (s : ByteArray) : Bool := matchO (xs.map opt8) s.data.toList
theorem fit_nil (s : ByteArray) : fitB [] s = s.toList.isEmpty := by rw [Lib.toList_data]; rfl
theorem fit_star_nil {xs : List W8} {s : ByteArray} (h : s.size = 0) : fitB (.star :: xs) s = fitB xs s := by
  have : s.data.toList = [] := by rw [← List.length_eq_zero_iff, ← Lib.size_eq]; exact h
  unfold fitB; rw [this]; rfl
theorem fit_star {xs : List W8} {s : ByteArray} (h : 0 < s.size) : fitB (.star :: xs) s = (fitB xs s || fitB (.star :: xs) (s.extract 1 s.size)) := by
  unfold fitB; rw [head_tail h]; rfl
theorem fit_no {x : W8} {xs : List W8} {s : ByteArray} (hx : x ≠ .star) (h : s.size = 0) : fitB (x :: xs) s = false := by
  have : s.data.toList = [] := by rw [← List.length_eq_zero_iff, ← Lib.size_eq]; exact h
  unfold fitB; rw [this]
  cases x <;> first | exact absurd rfl hx | rfl
theorem fit_one {x : W8} {xs : List W8} {s : ByteArray} (hx : x ≠ .star) (h : 0 < s.size) : fitB (x :: xs) s = (takesB x s[0] && fitB xs (s.extract 1 s.size)) := by
  unfold fitB; rw [head_tail h]
  cases x <;> first | exact absurd rfl hx | rfl
set_option maxRecDepth 100000 in
set_option maxHeartbeats 4000000 in
theorem l1Fits_any (m : Nat) : ∀ (g s : ByteArray) (xs : List W8) (w : World), g.size + s.size ≤ m → g.size ≤ 1048576 → s.size ≤ 1048576 → wants g = some xs →
    Calls Tryz.prog 238 #[.string g, .string s] w fun e w' => e = .returned (.bool (fitB xs s)) ∧ ∃ n, w' = w.drewN n := by
  induction m with
  | zero =>
    intro g s xs w hm hg hs hw
    have hg0 : g.size = 0 := by omega
    rw [wants_nil hg0] at hw
    cases hw
    have he := empty_true hg0
    have E := hid (fit_nil s)
    go_enter Tryz.func238, Tryz.ntmps238
    go_wp2_with fail
    go_ret
    exact ⟨by rw [unhid E]; rfl, 0, rfl⟩
  | succ m ih =>
    intro g s xs w hm hg hs hw
    have IH := hid ih
    clear ih
    by_cases hg0 : g.size = 0
    · rw [wants_nil hg0] at hw
      cases hw
      have he := empty_true hg0
      have E := hid (fit_nil s)
      go_enter Tryz.func238, Tryz.ntmps238
      go_wp2_with fail
      go_ret
      exact ⟨by rw [unhid E]; rfl, 0, rfl⟩
    have hgp : 0 < g.size := by omega
    have he := empty_false hgp
    obtain ⟨x, n, ys, hf, hy, rfl⟩ := wants_cons hgp hw
    have hn := firstR_le hgp hf
    have hnd := hid hf
    have HY := hid hy
    have hz : (g.extract n g.size).size = g.size - n := tail_size g n
    clear hf hy hw
    by_cases e1 : g[0] = 42
    · have b1 : (((g[0]).toNat : Int) == 42) = true := by rw [e1]; rfl
      have hx : x = .star ∧ n = 1 := by have := unhid hnd; rw [e1] at this; cases this; exact ⟨rfl, rfl⟩
      obtain ⟨rfl, rfl⟩ := hx
      clear e1
      have hg1 : (1 : Int) ≤ g.size := by omega
      cases h1 : fitB ys s
      · by_cases hs0 : s.size = 0
        · have hes := empty_true hs0
          have E := hid (fit_star_nil (xs := ys) hs0)
          go_enter Tryz.func238, Tryz.ntmps238
          go_wp2_with (go_at_call 238; refine (unhid IH _ _ _ _ (by rw [hz]; omega) (by rw [hz]; omega) hs (unhid HY)).mono ?_; rintro e w' ⟨rfl, nq, rfl⟩; rw [h1])
          go_ret
          exact ⟨by rw [unhid E, h1]; rfl, _, rfl⟩
        · have hsp : 0 < s.size := by omega
          have hes := empty_false hsp
          have hs1 : (1 : Int) ≤ s.size := by omega
          have hzs : (s.extract 1 s.size).size = s.size - 1 := tail_size s 1
          have E := hid (fit_star (xs := ys) hsp)
          have Hw := hid (show wants g = some (.star :: ys) by rw [wants_some hgp (unhid hnd), unhid HY]; rfl)
          go_enter Tryz.func238, Tryz.ntmps238
          go_wp2_with fail
          refine (unhid IH _ _ _ _ (by rw [hz]; omega) (by rw [hz]; omega) hs (unhid HY)).mono ?_
          rintro e w' ⟨rfl, nq, rfl⟩
          rw [h1]
          go_wp2_with fail
          refine (unhid IH _ _ _ _ (by rw [hzs]; omega) hg (by rw [hzs]; omega) (unhid Hw)).mono ?_
          rintro e w' ⟨rfl, nq2, rfl⟩
          go_wp2_with fail
          go_ret
          exact ⟨by rw [unhid E, h1]; rfl, nq + nq2, rfl⟩
      · have E := hid (show fitB (.star :: ys) s = true by
          by_cases hs0 : s.size = 0
          · rw [fit_star_nil hs0, h1]
          · rw [fit_star (by omega), h1]; rfl)
        go_enter Tryz.func238, Tryz.ntmps238
        go_wp2_with (go_at_call 238; refine (unhid IH _ _ _ _ (by rw [hz]; omega) (by rw [hz]; omega) hs (unhid HY)).mono ?_; rintro e w' ⟨rfl, nq, rfl⟩; rw [h1])
        go_ret
        exact ⟨by rw [unhid E]; rfl, _, rfl⟩
    have b1 := eq_no (n := 42) rfl e1
    have hx : x ≠ .star := by
      intro e
      have := unhid hnd
      subst e
      unfold firstR at this
      rw [if_neg e1] at this
      split at this
      · cases this
      · split at this
        · obtain ⟨i, _, hf, h93, hall⟩ := class_of (by rw [get_some hgp]; simp_all) this
          rw [class_some (by rw [get_some hgp]; simp_all) hf h93 hall] at this
          cases this
        · split at this <;> cases this
    by_cases hs0 : s.size = 0
    · have hes := empty_true hs0
      have E := hid (fit_no (xs := ys) hx hs0)
      clear e1 hx
      go_enter Tryz.func238, Tryz.ntmps238
      go_wp2_with fail
      go_ret
      exact ⟨by rw [unhid E]; rfl, 0, rfl⟩
    have hsp : 0 < s.size := by omega
    have hes := empty_false hsp
    have hs1 : (1 : Int) ≤ s.size := by omega
    have hg1 : (1 : Int) ≤ g.size := by omega
    have hzs : (s.extract 1 s.size).size = s.size - 1 := tail_size s 1
    have E := hid (fit_one (xs := ys) hx hsp)
    clear hx
    by_cases e2 : g[0] = 63
    · have b2 : (((g[0]).toNat : Int) == 63) = true := by rw [e2]; rfl
      have hx : x = .any ∧ n = 1 := by have := unhid hnd; rw [e2] at this; cases this; exact ⟨rfl, rfl⟩
      obtain ⟨rfl, rfl⟩ := hx
      clear e1 e2
      go_enter Tryz.func238, Tryz.ntmps238
      go_wp2_with fail
      go_quiet ((go_at_call 238; exact Calls.quiet_of (unhid IH _ _ _ _ (by rw [hz, hzs]; omega) (by rw [hz]; omega) (by rw [hzs]; omega) (unhid HY))))
      go_wp2_with fail
      go_ret
      exact ⟨by rw [unhid E]; rfl, _, rfl⟩
    have b2 := eq_no (n := 63) rfl e2
    by_cases e3 : g[0] = 91
    · have b3 : (((g[0]).toNat : Int) == 91) = true := by rw [e3]; rfl
      have h91 : g.data.toList[0]? = some 91 := by rw [get_some hgp, e3]
      have hcl : classR g = some (x, n) := by have := unhid hnd; unfold firstR at this; rw [if_neg e1, if_neg e2, if_pos e3] at this; exact this
      obtain ⟨t1, t2, t3⟩ := class_takes h91 hcl s[0]
      have T1 := hid t1
      have hcn : classN g = n := by unfold classN; rw [hcl]
      have HCN := hid hcn
      have hni : (n : Int) ≤ g.size := by omega
      have hn0 : (0 : Int) ≤ n := by omega
      clear e1 e2 e3 t1 hcl hcn
      cases ht : takesB x s[0]
      · go_enter Tryz.func238, Tryz.ntmps238
        go_wp2_with fail
        refine (l1Class_any g hg h91 _).mono ?_
        rintro e w' ⟨rfl, rfl⟩
        rw [unhid HCN]
        go_wp2_with fail
        go_quiet ((go_at_call 274; refine Calls.quiet_of_same (v := .bool false) ((l1Of_any _ _ (by rw [ByteArray.size_extract]; omega) t2 _).mono ?_); rintro e w' ⟨rfl, rfl⟩; exact ⟨by rw [unhid T1, ht], rfl⟩))
        go_wp2_with fail
        go_ret
        exact ⟨by rw [unhid E, ht]; rfl, _, rfl⟩
      · go_enter Tryz.func238, Tryz.ntmps238
        go_wp2_with fail
        refine (l1Class_any g hg h91 _).mono ?_
        rintro e w' ⟨rfl, rfl⟩
        rw [unhid HCN]
        go_wp2_with fail
        go_quiet (first | (go_at_call 274; refine Calls.quiet_of_same (v := .bool true) ((l1Of_any _ _ (by rw [ByteArray.size_extract]; omega) t2 _).mono ?_); rintro e w' ⟨rfl, rfl⟩; exact ⟨by rw [unhid T1, ht], rfl⟩) | (go_at_call 238; exact Calls.quiet_of (unhid IH _ _ _ _ (by rw [hz, hzs]; omega) (by rw [hz]; omega) (by rw [hzs]; omega) (unhid HY))))
        go_wp2_with fail
        go_ret
        exact ⟨by rw [unhid E, ht]; rfl, _, rfl⟩
    have b3 := eq_no (n := 91) rfl e3
    have hx : x = .byte g[0] ∧ n = 1 := by
      have := unhid hnd
      unfold firstR at this
      rw [if_neg e1, if_neg e2, if_neg e3] at this
      split at this
      · cases this; exact ⟨rfl, rfl⟩
      · cases this
    obtain ⟨rfl, rfl⟩ := hx
    by_cases e4 : s[0] = g[0]
    · have b4 : (((g[0]).toNat : Int) == ((s[0]).toNat : Int)) = true := by rw [e4]; simp
      have ht := hid (show takesB (.byte g[0]) s[0] = true by rw [e4]; simp [takesB])
      clear e1 e2 e3 e4
      go_enter Tryz.func238, Tryz.ntmps238
      go_wp2_with fail
      go_quiet ((go_at_call 238; exact Calls.quiet_of (unhid IH _ _ _ _ (by rw [hz, hzs]; omega) (by rw [hz]; omega) (by rw [hzs]; omega) (unhid HY))))
      go_wp2_with fail
      go_ret
      exact ⟨by rw [unhid E, unhid ht]; rfl, _, rfl⟩
    · have b4 : (((g[0]).toNat : Int) == ((s[0]).toNat : Int)) = false := eq_no rfl (fun e => e4 e.symm)
      have ht := hid (show takesB (.byte g[0]) s[0] = false by simpa [takesB] using e4)
      clear e1 e2 e3 e4
      go_enter Tryz.func238, Tryz.ntmps238
      go_wp2_with fail
      go_quiet (fail)
      go_wp2_with fail
      go_ret
      exact ⟨by rw [unhid E, unhid ht]; rfl, _, rfl⟩
end Go.Proofs.YtoihhlkidlapmaaGreat

namespace Go.Proofs.YtoihhlkidlapmaaGreat
open Go.RowKit Go.Shelf
def opt9B : W9 → Option (ByteArray → Bool)
  | none => none
  | some xs => some (fitB xs)
def mat9 (xs : List W9) (ss : List ByteArray) : Bool := matchO (xs.map opt9B) ss
theorem mat_nil (ss : List ByteArray) : mat9 [] ss = ss.isEmpty := rfl
theorem mat_deep_nil (xs : List W9) : mat9 (.deep :: xs) [] = mat9 xs [] := rfl
theorem mat_deep (xs : List W9) (s : ByteArray) (ss : List ByteArray) : mat9 (.deep :: xs) (s :: ss) = (mat9 xs (s :: ss) || mat9 (.deep :: xs) ss) := rfl
theorem mat_no (ys : List W8) (xs : List W9) : mat9 (.name ys :: xs) [] = false := rfl
theorem mat_one (ys : List W8) (xs : List W9) (s : ByteArray) (ss : List ByteArray) : mat9 (.name ys :: xs) (s :: ss) = (fitB ys s && mat9 xs ss) := rfl
def StrsAt (W : World) (v : Value) (ps : List ByteArray) : Prop := ∃ b o cap, v = .slice (some ⟨b, o, none⟩) ps.length cap ∧ ps.length ≤ cap ∧ ∀ (i : Nat) x, ps[i]? = some x → W.cell? ⟨b, o + i, none⟩ = some (.string x)
theorem nameW_deep {g : ByteArray} (h : nameW g = some .deep) : (g.toList == [42, 42]) = true := by
  unfold nameW at h
  split at h
  · assumption
  · split at h <;> cases h
theorem nameW_name {g : ByteArray} {ys : List W8} (h : nameW g = some (.name ys)) : (g.toList == [42, 42]) = false ∧ wants g = some ys := by
  unfold nameW at h
  split at h
  · cases h
  · rename_i hn
    refine ⟨by simpa using hn, ?_⟩
    split at h
    · rename_i x xs hw; cases h; exact hw
    · cases h
set_option maxRecDepth 100000 in
set_option maxHeartbeats 4000000 in
theorem l1Match_any (m : Nat) : ∀ (gs ss : List ByteArray) (xs : List W9) (vg vs : Value) (w : World), gs.length + ss.length ≤ m → m ≤ 3000000 → (∀ g ∈ gs, g.size ≤ 1048576) → (∀ s ∈ ss, s.size ≤ 1048576) → gs.map nameW = xs.map some → StrsAt w vg gs → StrsAt w vs ss →
    Calls Tryz.prog 175 #[vg, vs] w fun e w' => e = .returned (.bool (mat9 xs ss)) ∧ ∃ n, w' = w.drewN n := by
  induction m with
  | zero =>
    intro gs ss xs vg vs w hm hmm hg hs hw hvg hvs
    obtain ⟨b, o, cap, rfl, hc, hcell⟩ := hvg
    obtain ⟨b2, o2, cap2, rfl, hc2, hcell2⟩ := hvs
    have : gs = [] := List.length_eq_zero_iff.1 (by omega)
    subst this
    have : ss = [] := List.length_eq_zero_iff.1 (by omega)
    subst this
    have : xs = [] := by cases xs; rfl; cases hw
    subst this
    have E := hid (mat_nil [])
    go_enter Tryz.func175, Tryz.ntmps175
    go_wp2_with fail
    go_ret
    exact ⟨by rw [unhid E]; rfl, 0, rfl⟩
  | succ m ih =>
    intro gs ss xs vg vs w hm hmm hg hs hw hvg hvs
    have IH := hid ih
    clear ih
    have HVG := hid hvg
    have HVS := hid hvs
    obtain ⟨b, o, cap, rfl, hc, hcell⟩ := hvg
    obtain ⟨b2, o2, cap2, rfl, hc2, hcell2⟩ := hvs
    cases gs with
    | nil =>
      have : xs = [] := by cases xs; rfl; cases hw
      subst this
      have E := hid (mat_nil ss)
      have hl : ((ss.length : Int) == 0) = ss.isEmpty := by cases ss <;> simp; omega
      go_enter Tryz.func175, Tryz.ntmps175
      go_wp2_with fail
      go_ret
      exact ⟨by rw [unhid E]; rfl, 0, rfl⟩
    | cons g gs =>
      cases xs with
      | nil => cases hw
      | cons x xs =>
        have hw1 : nameW g = some x := by simp at hw; exact hw.1
        have hw2 := hid (show gs.map nameW = xs.map some by simp at hw; simpa using hw.2)
        have hw0 := hid hw
        have c0 := hcell 0 g rfl
        have HG := hid hg
        have HS := hid hs
        have HT := hid (show StrsAt w (.slice (some ⟨b, o + 1, none⟩) gs.length (cap - 1)) gs from ⟨b, o + 1, cap - 1, rfl, by simp at hc; omega, fun i x hi => by rw [show o + 1 + i = o + (i + 1) by omega]; exact hcell (i + 1) x (by simpa using hi)⟩)
        have HT1 := hid (show cap = 1 → StrsAt w (.slice (some ⟨b, o, none⟩) 0 0) gs from fun e => by
          have : gs = [] := List.length_eq_zero_iff.1 (by simp at hc; omega)
          subst this; exact ⟨b, o, 0, rfl, Nat.le_refl _, fun i x hi => by simp at hi⟩)
        simp only [List.length_cons] at hc hm HVG ⊢
        simp only [Nat.add_zero] at c0
        clear hw hcell hg hs
        have hne : ¬ ((gs.length : Int) + 1 = 0) := by omega
        have hne' : ((gs.length : Int) + 1 == 0) = false := by simpa using hne
        have HGG := hid (show ∀ g ∈ gs, g.size ≤ 1048576 from fun a ha => unhid HG a (List.mem_cons_of_mem _ ha))
        rcases x with _ | ys
        · have hd0 := nameW_deep hw1
          clear hw1
          cases h1 : mat9 xs ss
          · cases ss with
            | nil =>
              have E := hid (mat_deep_nil xs)
              simp only [List.length_nil] at hc2 hm HVS ⊢
              by_cases hcap : cap = 1
              · subst hcap
                have HTa := hid (unhid HT1 rfl); clear HT1
                go_enter Tryz.func175, Tryz.ntmps175
                go_wp2_with fail
                refine (unhid IH gs [] xs _ _ w (by simp; omega) (by omega) (unhid HGG) (unhid HS) (unhid hw2) (unhid HTa) (unhid HVS)).mono ?_
                rintro e w' ⟨rfl, nq, rfl⟩
                rw [h1]
                go_wp2_with fail
                go_ret
                exact ⟨by rw [unhid E, h1]; rfl, _, rfl⟩
              · go_enter Tryz.func175, Tryz.ntmps175
                go_wp2_with fail
                refine (unhid IH gs [] xs _ _ w (by simp; omega) (by omega) (unhid HGG) (unhid HS) (unhid hw2) (unhid HT) (unhid HVS)).mono ?_
                rintro e w' ⟨rfl, nq, rfl⟩
                rw [h1]
                go_wp2_with fail
                go_ret
                exact ⟨by rw [unhid E, h1]; rfl, _, rfl⟩
            | cons s ss =>
              have E := hid (mat_deep xs s ss)
              have HS2 := hid (show ∀ s ∈ ss, s.size ≤ 1048576 from fun a ha => unhid HS a (List.mem_cons_of_mem _ ha))
              have HU := hid (show StrsAt w (.slice (some ⟨b2, o2 + 1, none⟩) ss.length (cap2 - 1)) ss from ⟨b2, o2 + 1, cap2 - 1, rfl, by simp at hc2; omega, fun i x hi => by rw [show o2 + 1 + i = o2 + (i + 1) by omega]; exact hcell2 (i + 1) x (by simpa using hi)⟩)
              have HU1 := hid (show cap2 = 1 → StrsAt w (.slice (some ⟨b2, o2, none⟩) 0 0) ss from fun e => by
                have : ss = [] := List.length_eq_zero_iff.1 (by simp at hc2; omega)
                subst this; exact ⟨b2, o2, 0, rfl, Nat.le_refl _, fun i x hi => by simp at hi⟩)
              simp only [List.length_cons] at hc2 hm HVS ⊢
              clear hcell2
              have hpos : (0 : Int) < (ss.length : Int) + 1 := by omega
              by_cases hcap : cap = 1 <;> by_cases hcap2 : cap2 = 1
              · subst hcap
                have HTa := hid (unhid HT1 rfl); clear HT1
                subst hcap2
                have HUa := hid (unhid HU1 rfl); clear HU1
                go_enter Tryz.func175, Tryz.ntmps175
                go_wp2_with fail
                refine (unhid IH gs (s :: ss) xs _ _ w (by simp; omega) (by omega) (unhid HGG) (unhid HS) (unhid hw2) (unhid HTa) (unhid HVS)).mono ?_
                rintro e w' ⟨rfl, nq, rfl⟩
                rw [h1]
                go_wp2_with fail
                refine (unhid IH (g :: gs) ss (.deep :: xs) _ _ (w.drewN nq) (by simp; omega) (by omega) (unhid HG) (unhid HS2) (unhid hw0) (unhid HVG) (unhid HUa)).mono ?_
                rintro e w' ⟨rfl, nq2, rfl⟩
                go_wp2_with fail
                go_ret
                exact ⟨by rw [unhid E, h1]; rfl, _, rfl⟩
              · subst hcap
                have HTa := hid (unhid HT1 rfl); clear HT1
                go_enter Tryz.func175, Tryz.ntmps175
                go_wp2_with fail
                refine (unhid IH gs (s :: ss) xs _ _ w (by simp; omega) (by omega) (unhid HGG) (unhid HS) (unhid hw2) (unhid HTa) (unhid HVS)).mono ?_
                rintro e w' ⟨rfl, nq, rfl⟩
                rw [h1]
                go_wp2_with fail
                refine (unhid IH (g :: gs) ss (.deep :: xs) _ _ (w.drewN nq) (by simp; omega) (by omega) (unhid HG) (unhid HS2) (unhid hw0) (unhid HVG) (unhid HU)).mono ?_
                rintro e w' ⟨rfl, nq2, rfl⟩
                go_wp2_with fail
                go_ret
                exact ⟨by rw [unhid E, h1]; rfl, _, rfl⟩
              · subst hcap2
                have HUa := hid (unhid HU1 rfl); clear HU1
                go_enter Tryz.func175, Tryz.ntmps175
                go_wp2_with fail
                refine (unhid IH gs (s :: ss) xs _ _ w (by simp; omega) (by omega) (unhid HGG) (unhid HS) (unhid hw2) (unhid HT) (unhid HVS)).mono ?_
                rintro e w' ⟨rfl, nq, rfl⟩
                rw [h1]
                go_wp2_with fail
                refine (unhid IH (g :: gs) ss (.deep :: xs) _ _ (w.drewN nq) (by simp; omega) (by omega) (unhid HG) (unhid HS2) (unhid hw0) (unhid HVG) (unhid HUa)).mono ?_
                rintro e w' ⟨rfl, nq2, rfl⟩
                go_wp2_with fail
                go_ret
                exact ⟨by rw [unhid E, h1]; rfl, _, rfl⟩
              · go_enter Tryz.func175, Tryz.ntmps175
                go_wp2_with fail
                refine (unhid IH gs (s :: ss) xs _ _ w (by simp; omega) (by omega) (unhid HGG) (unhid HS) (unhid hw2) (unhid HT) (unhid HVS)).mono ?_
                rintro e w' ⟨rfl, nq, rfl⟩
                rw [h1]
                go_wp2_with fail
                refine (unhid IH (g :: gs) ss (.deep :: xs) _ _ (w.drewN nq) (by simp; omega) (by omega) (unhid HG) (unhid HS2) (unhid hw0) (unhid HVG) (unhid HU)).mono ?_
                rintro e w' ⟨rfl, nq2, rfl⟩
                go_wp2_with fail
                go_ret
                exact ⟨by rw [unhid E, h1]; rfl, _, rfl⟩
          · have E := hid (show mat9 (.deep :: xs) ss = true by
              cases ss with
              | nil => rw [mat_deep_nil, h1]
              | cons s ss => rw [mat_deep, h1]; rfl)
            by_cases hcap : cap = 1
            · subst hcap
              have HTa := hid (unhid HT1 rfl); clear HT1
              go_enter Tryz.func175, Tryz.ntmps175
              go_wp2_with fail
              refine (unhid IH gs ss xs _ _ w (by omega) (by omega) (unhid HGG) (unhid HS) (unhid hw2) (unhid HTa) (unhid HVS)).mono ?_
              rintro e w' ⟨rfl, nq, rfl⟩
              rw [h1]
              go_wp2_with fail
              go_ret
              exact ⟨by rw [unhid E]; rfl, _, rfl⟩
            · go_enter Tryz.func175, Tryz.ntmps175
              go_wp2_with fail
              refine (unhid IH gs ss xs _ _ w (by omega) (by omega) (unhid HGG) (unhid HS) (unhid hw2) (unhid HT) (unhid HVS)).mono ?_
              rintro e w' ⟨rfl, nq, rfl⟩
              rw [h1]
              go_wp2_with fail
              go_ret
              exact ⟨by rw [unhid E]; rfl, _, rfl⟩
        · obtain ⟨hd0, hwy⟩ := nameW_name hw1
          have HWY := hid hwy
          clear hw1 hwy
          cases ss with
          | nil =>
            have E := hid (mat_no ys xs)
            simp only [List.length_nil] at hc2 hm HVS ⊢
            have hz0 : ¬ (0 : Int) < 0 := by omega
            go_enter Tryz.func175, Tryz.ntmps175
            go_wp2_with fail
            go_quiet (fail)
            go_wp2_with fail
            go_ret
            exact ⟨by rw [unhid E]; rfl, _, rfl⟩
          | cons s ss =>
            have E := hid (mat_one ys xs s ss)
            have HS2 := hid (show ∀ s ∈ ss, s.size ≤ 1048576 from fun a ha => unhid HS a (List.mem_cons_of_mem _ ha))
            have HU := hid (show StrsAt w (.slice (some ⟨b2, o2 + 1, none⟩) ss.length (cap2 - 1)) ss from ⟨b2, o2 + 1, cap2 - 1, rfl, by simp at hc2; omega, fun i x hi => by rw [show o2 + 1 + i = o2 + (i + 1) by omega]; exact hcell2 (i + 1) x (by simpa using hi)⟩)
            have HU1 := hid (show cap2 = 1 → StrsAt w (.slice (some ⟨b2, o2, none⟩) 0 0) ss from fun e => by
              have : ss = [] := List.length_eq_zero_iff.1 (by simp at hc2; omega)
              subst this; exact ⟨b2, o2, 0, rfl, Nat.le_refl _, fun i x hi => by simp at hi⟩)
            have d0 := hcell2 0 s rfl
            simp only [Nat.add_zero] at d0
            simp only [List.length_cons] at hc2 hm HVS ⊢
            clear hcell2
            have hpos : (0 : Int) < (ss.length : Int) + 1 := by omega
            have hgz := unhid HG g (List.mem_cons_self ..)
            have hsz := unhid HS s (List.mem_cons_self ..)
            cases h1 : fitB ys s
            · go_enter Tryz.func175, Tryz.ntmps175
              go_wp2_with fail
              go_quiet ((go_at_call 238; refine Calls.quiet_of (v := .bool false) ((l1Fits_any _ g s ys _ (Nat.le_refl _) hgz hsz (unhid HWY)).mono ?_); rintro e w' ⟨rfl, nq, rfl⟩; exact ⟨by rw [h1], nq, rfl⟩))
              go_wp2_with fail
              go_ret
              exact ⟨by rw [unhid E, h1]; rfl, _, rfl⟩
            · by_cases hcap : cap = 1 <;> by_cases hcap2 : cap2 = 1
              · subst hcap
                have HTa := hid (unhid HT1 rfl); clear HT1
                subst hcap2
                have HUa := hid (unhid HU1 rfl); clear HU1
                go_enter Tryz.func175, Tryz.ntmps175
                go_wp2_with fail
                go_quiet (first | (go_at_call 238; refine Calls.quiet_of (v := .bool true) ((l1Fits_any _ g s ys _ (Nat.le_refl _) hgz hsz (unhid HWY)).mono ?_); rintro e w' ⟨rfl, nq, rfl⟩; exact ⟨by rw [h1], nq, rfl⟩) | (go_at_call 175; exact Calls.quiet_of (unhid IH gs ss xs _ _ _ (by omega) (by omega) (unhid HGG) (unhid HS2) (unhid hw2) (unhid HTa) (unhid HUa))))
                go_wp2_with fail
                go_ret
                exact ⟨by rw [unhid E, h1]; rfl, _, rfl⟩
              · subst hcap
                have HTa := hid (unhid HT1 rfl); clear HT1
                go_enter Tryz.func175, Tryz.ntmps175
                go_wp2_with fail
                go_quiet (first | (go_at_call 238; refine Calls.quiet_of (v := .bool true) ((l1Fits_any _ g s ys _ (Nat.le_refl _) hgz hsz (unhid HWY)).mono ?_); rintro e w' ⟨rfl, nq, rfl⟩; exact ⟨by rw [h1], nq, rfl⟩) | (go_at_call 175; exact Calls.quiet_of (unhid IH gs ss xs _ _ _ (by omega) (by omega) (unhid HGG) (unhid HS2) (unhid hw2) (unhid HTa) (unhid HU))))
                go_wp2_with fail
                go_ret
                exact ⟨by rw [unhid E, h1]; rfl, _, rfl⟩
              · subst hcap2
                have HUa := hid (unhid HU1 rfl); clear HU1
                go_enter Tryz.func175, Tryz.ntmps175
                go_wp2_with fail
                go_quiet (first | (go_at_call 238; refine Calls.quiet_of (v := .bool true) ((l1Fits_any _ g s ys _ (Nat.le_refl _) hgz hsz (unhid HWY)).mono ?_); rintro e w' ⟨rfl, nq, rfl⟩; exact ⟨by rw [h1], nq, rfl⟩) | (go_at_call 175; exact Calls.quiet_of (unhid IH gs ss xs _ _ _ (by omega) (by omega) (unhid HGG) (unhid HS2) (unhid hw2) (unhid HT) (unhid HUa))))
                go_wp2_with fail
                go_ret
                exact ⟨by rw [unhid E, h1]; rfl, _, rfl⟩
              · go_enter Tryz.func175, Tryz.ntmps175
                go_wp2_with fail
                go_quiet (first | (go_at_call 238; refine Calls.quiet_of (v := .bool true) ((l1Fits_any _ g s ys _ (Nat.le_refl _) hgz hsz (unhid HWY)).mono ?_); rintro e w' ⟨rfl, nq, rfl⟩; exact ⟨by rw [h1], nq, rfl⟩) | (go_at_call 175; exact Calls.quiet_of (unhid IH gs ss xs _ _ _ (by omega) (by omega) (unhid HGG) (unhid HS2) (unhid hw2) (unhid HT) (unhid HU))))
                go_wp2_with fail
                go_ret
                exact ⟨by rw [unhid E, h1]; rfl, _, rfl⟩
end Go.Proofs.YtoihhlkidlapmaaGreat
