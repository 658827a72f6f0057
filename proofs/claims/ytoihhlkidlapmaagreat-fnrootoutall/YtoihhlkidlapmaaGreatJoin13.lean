/- Texts of this proof, one behind the other; each says at its head what it shows. -/
import Derived.Test.YtoihhlkidlapmaaGreatJoin12
import Derived.Test.YtoihhlkidlapmaaGreatJoin8
import Derived.Test.YtoihhlkidlapmaaGreatJoin7
import Derived.Test.YtoihhlkidlapmaaGreatJoin5
import Derived.Deep.QuietTactic
import Derived.BigQuiet
import Derived.Test.YtoihhlkidlapmaaGreatJoin11
import Derived.Deep.RegionWith
import Derived.Test.YtoihhlkidlapmaaGreatJoin10
namespace Go.Proofs.YtoihhlkidlapmaaGreat
open Go.RowKit Go.Shelf
def namesW (l : List UInt8) : List W9 := (cutB 47 l).filterMap fun p => nameW ⟨⟨p⟩⟩
def partsB (l : List UInt8) : List ByteArray := (cutB 47 l).map fun p => ⟨⟨p⟩⟩
def hasB (g s : List UInt8) : Bool := globOkB g && (pathB s && mat9 (namesW g) (partsB s))
theorem namesW_ok {l : List UInt8} (h : globOkB l = true) : (cutB 47 l).map (fun p => nameW ⟨⟨p⟩⟩) = (namesW l).map some := by
  unfold globOkB at h
  rw [Bool.and_eq_true] at h
  have hall := List.all_eq_true.1 h.2
  unfold namesW
  generalize cutB 47 l = ps at hall
  induction ps with
  | nil => rfl
  | cons p ps ih =>
    have hp := hall p (List.mem_cons_self ..)
    have : (nameW ⟨⟨p⟩⟩).isSome = true := by rw [nameW_globbed]; exact hp
    obtain ⟨x, hx⟩ := Option.isSome_iff_exists.1 this
    rw [List.map_cons, List.filterMap_cons, hx, ih (fun q hq => hall q (List.mem_cons_of_mem _ hq))]
    rfl
theorem parts_datas {l : List UInt8} {ys : List ByteArray} (h : datas ys = cutB 47 l) : ys = partsB l := by
  unfold partsB
  rw [← h]
  simp [datas, Function.comp_def]
theorem strsAt_of {W W' : World} {base : Nat} {v : Value} {xs : List ByteArray} (h : W.ownsRow base 9 1 v xs.length (xs.map Value.string)) (hne : xs ≠ []) (hb : Below W.heap.size W W') : StrsAt W' v xs := by
  rcases h.2 with ⟨rfl, h0⟩ | ⟨g, cap, cur, rfl, _, hg, hc, _, hsz, hcells⟩
  · exact absurd (List.length_eq_zero_iff.1 h0) hne
  · refine ⟨g, 0, cap, rfl, hc, fun i x hi => ?_⟩
    have hil : i < xs.length := (List.getElem?_eq_some_iff.1 hi).1
    have h1 : (cur.toList.take (xs.length * 1))[i]? = some (.string x) := by rw [hcells, List.getElem?_map, hi]; rfl
    rw [List.getElem?_take_of_lt (by omega), Array.getElem?_toList] at h1
    simp only [Nat.zero_add]
    refine (hb.cell (p := ⟨g, i, none⟩) (Array.getElem?_eq_some_iff.1 hg).1).trans ?_
    simp [World.cell?, hg, h1]
set_option maxRecDepth 100000 in
set_option maxHeartbeats 4000000 in
theorem specGlobHas_any (g s : ByteArray) (hg : g.size ≤ 1048576) (hs : s.size ≤ 1048576) (w : World) :
    Calls Tryz.prog 105 #[.string g, .string s] w fun e w' => e = .returned (.bool (hasB g.data.toList s.data.toList)) ∧ Below w.heap.size w w' := by
  cases ho : globOkB g.data.toList
  · have E := hid (show hasB g.data.toList s.data.toList = false by unfold hasB; rw [ho]; rfl)
    go_enter Tryz.func105, Tryz.ntmps105
    go_wp2_with fail
    refine (specGlobOk_any g hg _).mono ?_
    rintro e w1 ⟨rfl, hb⟩
    have HB := hid hb
    clear hb
    rw [ho]
    go_wp2_with fail
    go_ret
    exact ⟨by rw [unhid E]; rfl, unhid HB⟩
  · cases hp : pathB s.data.toList
    · have E := hid (show hasB g.data.toList s.data.toList = false by unfold hasB; rw [ho, hp]; rfl)
      go_enter Tryz.func105, Tryz.ntmps105
      go_wp2_with fail
      refine (specGlobOk_any g hg _).mono ?_
      rintro e w1 ⟨rfl, hb⟩
      have HB := hid hb
      clear hb
      rw [ho]
      go_wp2_with fail
      refine (l1Path_any s hs _).mono ?_
      rintro e w2 ⟨rfl, hb⟩
      have HB2 := hid ((unhid HB).trans (hb.mono (unhid HB).size))
      clear hb
      rw [hp]
      go_wp2_with fail
      go_ret
      exact ⟨by rw [unhid E]; rfl, unhid HB2⟩
    · have E := hid (show hasB g.data.toList s.data.toList = mat9 (namesW g.data.toList) (partsB s.data.toList) by unfold hasB; rw [ho, hp]; rfl)
      have HW := hid (namesW_ok ho)
      go_enter Tryz.func105, Tryz.ntmps105
      go_wp2_with fail
      refine (specGlobOk_any g hg _).mono ?_
      rintro e w1 ⟨rfl, hb⟩
      have HB := hid hb
      clear hb
      rw [ho]
      go_wp2_with fail
      refine (l1Path_any s hs _).mono ?_
      rintro e w2 ⟨rfl, hb⟩
      have HB2 := hid ((unhid HB).trans (hb.mono (unhid HB).size))
      clear hb
      rw [hp]
      go_wp2_with fail
      refine (l1Cut_any g 47 _ hg (by omega) (by omega) _).mono ?_
      rintro e w3 ⟨v, xs, rfl, hxs, hown, hb⟩
      have HB3 := hid ((unhid HB2).trans (hb.mono (unhid HB2).size))
      have HO := hid (And.intro hxs hown)
      clear hb hxs hown
      go_wp2_with fail
      refine (l1Cut_any s 47 _ hs (by omega) (by omega) _).mono ?_
      rintro e w4 ⟨v2, xs2, rfl, hxs2, hown2, hb⟩
      have HB34 := hid hb
      have HB4 := hid ((unhid HB3).trans (hb.mono (unhid HB3).size))
      have HO2 := hid (And.intro hxs2 hown2)
      clear hb hxs2 hown2
      go_wp2_with fail
      obtain ⟨hxs, hown⟩ := unhid HO
      obtain ⟨hxs2, hown2⟩ := unhid HO2
      have hne : xs ≠ [] := by rintro rfl; exact cutB_ne _ _ hxs.symm
      have hne2 : xs2 ≠ [] := by rintro rfl; exact cutB_ne _ _ hxs2.symm
      have small : ∀ (l : ByteArray) (zs : List ByteArray), l.size ≤ 1048576 → datas zs = cutB 47 l.data.toList → (∀ x ∈ zs, x.size ≤ 1048576) ∧ zs.length ≤ 1048577 := fun l zs hl hz => by
        constructor
        · intro x hx
          have h1 : x.data.toList ∈ cutB 47 l.data.toList := by rw [← hz]; exact List.mem_map.2 ⟨x, hx, rfl⟩
          have h2 := cutB_le 47 _ _ h1
          rw [← Lib.size_eq, ← Lib.size_eq] at h2
          omega
        · have := cutB_length 47 l.data.toList
          rw [← hz, ← Lib.size_eq] at this
          simp [datas] at this
          omega
      obtain ⟨s1, s2⟩ := small g xs hg hxs
      obtain ⟨s3, s4⟩ := small s xs2 hs hxs2
      refine (l1Match_any (xs.length + xs2.length) xs xs2 (namesW g.data.toList) v v2 w4 (Nat.le_refl _) (by omega) s1 s3 ?_ (strsAt_of hown hne (unhid HB34)) (strsAt_of hown2 hne2 (Below.refl _ _))).mono ?_
      · rw [← unhid HW, ← hxs]; simp [datas, Function.comp_def]
      rintro e w5 ⟨rfl, n, rfl⟩
      have EM := hid (show mat9 (namesW g.data.toList) xs2 = hasB g.data.toList s.data.toList by rw [unhid E, parts_datas hxs2])
      clear hxs hown hxs2 hown2 hne hne2 small s1 s2 s3 s4
      rw [unhid EM]
      go_wp2_with fail
      go_ret
      exact ⟨rfl, (unhid HB4).trans (below_drewN _ _)⟩
end Go.Proofs.YtoihhlkidlapmaaGreat

namespace Go.Proofs.YtoihhlkidlapmaaGreat
open Go.RowKit Go.Shelf
end Go.Proofs.YtoihhlkidlapmaaGreat

namespace Go.Proofs.YtoihhlkidlapmaaGreat
open Go.RowKit Go.Shelf
end Go.Proofs.YtoihhlkidlapmaaGreat

namespace Go.Proofs.YtoihhlkidlapmaaGreat
open Go.RowKit Go.Shelf
end Go.Proofs.YtoihhlkidlapmaaGreat

namespace Go.Proofs.YtoihhlkidlapmaaGreat
open Go.RowKit Go.Shelf
end Go.Proofs.YtoihhlkidlapmaaGreat

namespace Go.Proofs.YtoihhlkidlapmaaGreat
open Go.RowKit Go.Shelf
def takenB (g : ByteArray) (e : Ent) : Bool := hasB g.data.toList e.path.data.toList
def neededB (g : ByteArray) (ks : List Ent) (d : ByteArray) : Bool := ks.any fun e => belowB d.data.toList e.path.data.toList && takenB g e
def partL (g : ByteArray) (ks : List Ent) : List Ent := ks.filter fun e => takenB g e || (e.kind == 1 && neededB g ks e.path)
end Go.Proofs.YtoihhlkidlapmaaGreat

namespace Go.Proofs.YtoihhlkidlapmaaGreat
open Go.RowKit Go.Shelf
end Go.Proofs.YtoihhlkidlapmaaGreat

namespace Go.Proofs.YtoihhlkidlapmaaGreat
open Go.RowKit Go.Shelf
attribute [local go_sem] Oper.semAt_some
def partR (g : ByteArray) (es : List Ent) : List Ent := partL g (keptE es)
end Go.Proofs.YtoihhlkidlapmaaGreat

namespace Go.Proofs.YtoihhlkidlapmaaGreat
open Go.RowKit Go.Shelf
set_option maxRecDepth 100000 in
set_option maxHeartbeats 4000000 in
theorem l2Needed_any (es : List Ent) (g d : ByteArray) (a : Option Addr) (cap : Nat) (w : World) (hs : smallE es) (hg : g.size ≤ 1048576) (hd : d.size ≤ 1048576) (h : EntsAt w a es) :
    Calls Tryz.prog 106 #[.slice a es.length cap, .string g, .string d] w fun x w' => x = .returned (.bool (neededB g es d)) ∧ Below w.heap.size w w' := by
  have hn := hs.1
  have HS := hid hs
  have HH := hid h
  clear hs h
  go_enter Tryz.func106, Tryz.ntmps106
  go_wp2_with fail
  go_loopw [7] (fun i wr => ∃ k : Nat, k ≤ es.length ∧ i = .int .i64 (k : Int) ∧ Hid (neededB g (es.take k) d = false) ∧ Hid (Below w.heap.size w wr)) (fun i _ => es.length - (intOf i).toNat)
  case atStart => exact ⟨0, Nat.zero_le _, rfl, hid rfl, hid (Below.refl _ _)⟩
  case round =>
    obtain ⟨k, hk, rfl, HNO, HB⟩ := hrel
    by_cases hlt : k < es.length
    · obtain ⟨e, he⟩ : ∃ e, es[k]? = some e := ⟨es[k], List.getElem?_eq_getElem hlt⟩
      obtain ⟨bb, o, rfl, hbl, hc⟩ := (unhid HH).get (by intro e0; subst e0; simp at hlt)
      have c0 := ((hc k e he).below (unhid HB) hbl).c0
      have hpe := ((unhid HS).2 e (List.mem_of_getElem? he)).1
      have HST := hid (show neededB g (es.take (k + 1)) d = (neededB g (es.take k) d || (belowB d.data.toList e.path.data.toList && takenB g e)) by unfold neededB; rw [List.take_add_one, he, List.any_append]; simp)
      have HY := hid (show (belowB d.data.toList e.path.data.toList && takenB g e) = true → neededB g es d = true from fun h => List.any_eq_true.2 ⟨e, List.mem_of_getElem? he, h⟩)
      clear he hc
      cases hb : belowB d.data.toList e.path.data.toList
      · rw [hb] at HST
        go_wp2_with fail
        refine (l1Below_any d e.path (by unfold maxLen; omega) (by unfold maxLen; omega) _).mono ?_
        rintro x w2 ⟨rfl, e2⟩
        subst e2
        rw [hb]
        go_wp2_with fail
        go_roundw
        case rel => exact ⟨k + 1, by omega, by go_num, hid (by rw [unhid HST, unhid HNO]; rfl), HB⟩
        case measure => simp [intOf]; omega
      · rw [hb] at HST HY
        go_wp2_with fail
        refine (l1Below_any d e.path (by unfold maxLen; omega) (by unfold maxLen; omega) _).mono ?_
        rintro x w2 ⟨rfl, e2⟩
        subst e2
        rw [hb]
        go_wp2_with fail
        refine (specGlobHas_any g e.path hg hpe _).mono ?_
        rintro x w3 ⟨rfl, hb3⟩
        have HB3 := hid ((unhid HB).trans (hb3.mono (unhid HB).size))
        clear hb3 HB
        rw [show hasB g.data.toList e.path.data.toList = takenB g e from rfl]
        cases ht : takenB g e
        · rw [ht] at HST
          go_wp2_with fail
          go_roundw
          case rel => exact ⟨k + 1, by omega, by go_num, hid (by rw [unhid HST, unhid HNO]; rfl), HB3⟩
          case measure => simp [intOf]; omega
        · have E := hid (unhid HY (by rw [ht]; rfl))
          go_wp2_with fail
          go_ret
          exact ⟨by rw [unhid E]; rfl, unhid HB3⟩
    · have e : k = es.length := by omega
      subst e
      rw [List.take_of_length_le (Nat.le_refl _)] at HNO
      go_wp2_with fail
      go_ret
      exact ⟨by rw [unhid HNO]; rfl, unhid HB⟩
def keepB (g : ByteArray) (ks : List Ent) (e : Ent) : Bool := takenB g e || (e.kind == 1 && neededB g ks e.path)
def keptP (g : ByteArray) (ks : List Ent) (xs : List Ent) : List Ent := xs.filter (keepB g ks)
theorem keptP_yes {g : ByteArray} {ks es : List Ent} {k : Nat} {e : Ent} (he : es[k]? = some e) (h : keepB g ks e = true) : keptP g ks (es.take (k + 1)) = keptP g ks (es.take k) ++ [e] := by
  unfold keptP; rw [List.take_add_one, he, List.filter_append]; simp [h]
theorem keptP_no {g : ByteArray} {ks es : List Ent} {k : Nat} {e : Ent} (he : es[k]? = some e) (h : keepB g ks e = false) : keptP g ks (es.take (k + 1)) = keptP g ks (es.take k) := by
  unfold keptP; rw [List.take_add_one, he, List.filter_append]; simp [h]
set_option maxRecDepth 100000 in
set_option maxHeartbeats 4000000 in
theorem specTreePart_full (es : List Ent) (g : ByteArray) (b o cap : Nat) (w : World) (hs : smallE es) (hg : g.size ≤ 1048576) (h : ∀ (i : Nat) e, es[i]? = some e → EntAt w b (o + i * 4) e) (hb : b < w.heap.size) :
    Calls Tryz.prog 52 #[.slice (some ⟨b, o, none⟩) es.length cap, .string g] w fun x w' => ∃ v, x = .returned v ∧ w'.ownsRow w.heap.size 57 4 v (partR g es).length (valsOf (partR g es)) ∧ Below w.heap.size w w' ∧ SomeV v := by
  obtain ⟨i0, hi0, hz0, hzs, hzb⟩ := info_parts infoEntry
  have HI := hid (And.intro hi0 (And.intro hz0 (And.intro hzs hzb)))
  have hn := hs.1
  have HS := hid hs
  have HH := hid h
  have HF0 := hid (And.intro (owns_empty w w.heap.size (Nat.le_refl _) 57) ((Below.refl w.heap.size w).alloc (Nat.le_refl _) (.cells #[] 57)))
  clear hi0 hz0 hzs hzb hs h
  have atW : ∀ W, Below w.heap.size w W → EntsAt W (some ⟨b, o, none⟩) es := fun W hW => .inr ⟨b, o, rfl, Nat.lt_of_lt_of_le hb hW.size, entAt_below (unhid HH) (.inr hb) hW⟩
  have ATW := hid atW
  clear atW
  cases hT : treeB es
  · have E := hid (show partR g es = [] by unfold partR; rw [keptE_no hT]; rfl)
    by_cases h0 : es = []
    · subst h0
      go_enter Tryz.func52, Tryz.ntmps52
      go_wp2_with fail
      go_loopw [5, 6] (fun v i wr => i = .int .i64 0 ∧ v = .slice (some ⟨w.heap.size, 0, none⟩) 0 0 ∧ wr = w.alloc (.cells #[] 57)) (fun _ _ _ => 0)
      case atStart => exact ⟨rfl, rfl, rfl⟩
      case round =>
        obtain ⟨rfl, rfl, rfl⟩ := hrel
        go_wp2_with fail
        go_ret
        exact ⟨_, rfl, by rw [unhid E]; exact (unhid HF0).1, (unhid HF0).2, ⟨_, _, _, rfl⟩⟩
    · have hl0 : (0 : Int) < (es.length : Int) := by have := List.length_pos_iff.2 h0; omega
      clear h0
      go_enter Tryz.func52, Tryz.ntmps52
      go_wp2_with fail
      go_loopw [5, 6] (fun v i wr => i = .int .i64 0 ∧ v = .slice (some ⟨w.heap.size, 0, none⟩) 0 0 ∧ wr = w.alloc (.cells #[] 57)) (fun _ _ _ => 0)
      case atStart => exact ⟨rfl, rfl, rfl⟩
      case round =>
        obtain ⟨rfl, rfl, rfl⟩ := hrel
        go_wp2_with fail
        refine (specTreeOk_any es _ cap _ (unhid HS) (unhid ATW _ (unhid HF0).2)).mono ?_
        rintro x w2 ⟨rfl, hb2⟩
        rw [hT]
        have HF := hid (And.intro (ownsRow_kept (unhid HF0).1 (fun g e => hb2.block g ((unhid HF0).1.lt g e).2)) ((unhid HF0).2.trans (hb2.mono (unhid HF0).2.size)))
        clear hb2
        go_wp2_with fail
        go_ret
        exact ⟨_, rfl, by rw [unhid E]; exact (unhid HF).1, (unhid HF).2, ⟨_, _, _, rfl⟩⟩
  · have E := hid (show partR g es = keptP g es es by unfold partR; rw [keptE_yes hT]; rfl)
    have HT := hid hT
    clear hT
    go_enter Tryz.func52, Tryz.ntmps52
    go_wp2_with fail
    go_loopw [5, 6] (fun v i wr => ∃ k : Nat, k ≤ es.length ∧ i = .int .i64 (k : Int) ∧ Hid (wr.ownsRow w.heap.size 57 4 v (keptP g es (es.take k)).length (valsOf (keptP g es (es.take k)))) ∧ Hid (Below w.heap.size w wr) ∧ SomeV v) (fun _ i _ => es.length - (intOf i).toNat)
    case atStart => exact ⟨0, Nat.zero_le _, rfl, hid (by simp [keptP, valsOf]; exact (unhid HF0).1), hid (unhid HF0).2, ⟨_, _, _, rfl⟩⟩
    case round =>
      obtain ⟨k, hk, rfl, HO, HB, hsv⟩ := hrel
      obtain ⟨va, vc, rfl⟩ := ownsRow_slice (unhid HO)
      have HSV := hid hsv
      clear hsv
      by_cases hlt : k < es.length
      · obtain ⟨e, he⟩ : ∃ e, es[k]? = some e := ⟨es[k], List.getElem?_eq_getElem hlt⟩
        have hpe := ((unhid HS).2 e (List.mem_of_getElem? he)).1
        have hdl : (keptP g es (es.take k)).length ≤ es.length := Nat.le_trans (List.length_filter_le _ _) (by simp; omega)
        have HE := hid he
        have HY := hid (fun h => keptP_yes (g := g) (ks := es) he h)
        have HNO := hid (fun h => keptP_no (g := g) (ks := es) he h)
        clear he
        go_wp2_with fail
        refine (specTreeOk_any es _ cap _ (unhid HS) (unhid ATW _ (unhid HB))).mono ?_
        rintro x w2 ⟨rfl, hb2⟩
        rw [unhid HT]
        have HO2 := hid (ownsRow_kept (unhid HO) (fun g e => hb2.block g ((unhid HO).lt g e).2))
        have HB2 := hid ((unhid HB).trans (hb2.mono (unhid HB).size))
        clear hb2 HO HB
        obtain ⟨c0, c1, c2, c3⟩ := ((unhid HH) k e (unhid HE)).below (unhid HB2) hb
        go_wp2_with fail
        refine (specGlobHas_any g e.path hg hpe _).mono ?_
        rintro x w3 ⟨rfl, hb3⟩
        have HO3 := hid (ownsRow_kept (unhid HO2) (fun g e => hb3.block g ((unhid HO2).lt g e).2))
        have HB3 := hid ((unhid HB2).trans (hb3.mono (unhid HB2).size))
        clear hb3 HO2 HB2 c0 c1 c2 c3
        rw [show hasB g.data.toList e.path.data.toList = takenB g e from rfl]
        cases htk : takenB g e
        · cases hkb : (e.kind == 1)
          case true =>
            obtain ⟨c0, c1, c2, c3⟩ := ((unhid HH) k e (unhid HE)).below (unhid HB3) hb
            go_wp2_with fail
            refine (l2Needed_any es g e.path _ cap _ (unhid HS) hg hpe (unhid ATW _ (unhid HB3))).mono ?_
            rintro x w4 ⟨rfl, hb4⟩
            have HO4 := hid (ownsRow_kept (unhid HO3) (fun g e => hb4.block g ((unhid HO3).lt g e).2))
            have HB4 := hid ((unhid HB3).trans (hb4.mono (unhid HB3).size))
            clear hb4 HO3 HB3 c0 c1 c2 c3
            cases hnd : neededB g es e.path
            · have HYE := hid (unhid HNO (by unfold keepB; rw [htk, hkb, hnd]; rfl))
              obtain ⟨c0, c1, c2, c3⟩ := ((unhid HH) k e (unhid HE)).below (unhid HB4) hb
              go_wp2_with fail
              go_roundw
              case rel => exact ⟨k + 1, by omega, by go_num, hid (by rw [unhid HYE]; exact unhid HO4), HB4, unhid HSV⟩
              case measure => simp [intOf]; omega
            · have HYE := hid (unhid HY (by unfold keepB; rw [htk, hkb, hnd]; rfl))
              obtain ⟨c0, c1, c2, c3⟩ := ((unhid HH) k e (unhid HE)).below (unhid HB4) hb
              have hsz := (unhid HB4).size
              have HOa := hid ((unhid HO4).alloc (.cells #[.string e.path, .int .i64 e.kind, .int .i64 e.mode, .string e.text] 57))
              have HBa := hid ((unhid HB4).alloc hsz (.cells #[.string e.path, .int .i64 e.kind, .int .i64 e.mode, .string e.text] 57))
              go_wp2_with (at_builtin; refine wpList_append_own _ rfl _ _ 32 rfl w.heap.size 57 i0 _ 4 48 Tryz.underlying32 (unhid HI).1 (unhid HI).2.1 (unhid HI).2.2.1 (unhid HI).2.2.2 rfl (by decide) _ (keptP g es (es.take k)).length (valsOf (keptP g es (es.take k))) rfl (unhid HOa) ⟨w4.heap.size, 0, none⟩ 1 1 [.string e.path, .int .i64 e.kind, .int .i64 e.mode, .string e.text] rfl rfl (lit_cells w4 _ _ _ _ _) ?c2 ?c3 ?c4 ?c5 ?_)
              case c2 => intro u hu; simp at hu; rcases hu with rfl | rfl | rfl | rfl <;> rfl
              case c3 => unfold maxLen; omega
              case c4 => omega
              case c5 => simp; omega
              intro v' w9 hown hgr _
              obtain ⟨a2, cap2, rfl⟩ := ownsRow_slice hown
              have HF := hid (show w9.ownsRow w.heap.size 57 4 (.slice a2 ((keptP g es (es.take k)).length + 1) cap2) (keptP g es (es.take (k + 1))).length (valsOf (keptP g es (es.take (k + 1)))) ∧ Below w.heap.size w w9 from
                ⟨by rw [unhid HYE, List.length_append, valsOf_snoc]; exact hown, (unhid HBa).grown hgr (unhid HBa).size (fun k e => ((unhid HOa).lt k e).1)⟩)
              clear hown hgr
              go_wp2_with fail
              go_roundw
              case rel => exact ⟨k + 1, by omega, by go_num, hid (unhid HF).1, hid (unhid HF).2, owns_some (unhid HF).1 (by rw [unhid HYE]; simp)⟩
              case measure => simp [intOf]; omega
          case false =>
            have HYE := hid (unhid HNO (by unfold keepB; rw [htk, hkb]; rfl))
            obtain ⟨c0, c1, c2, c3⟩ := ((unhid HH) k e (unhid HE)).below (unhid HB3) hb
            go_wp2_with fail
            go_roundw
            case rel => exact ⟨k + 1, by omega, by go_num, hid (by rw [unhid HYE]; exact unhid HO3), HB3, unhid HSV⟩
            case measure => simp [intOf]; omega
        · have HYE := hid (unhid HY (by unfold keepB; rw [htk]; rfl))
          obtain ⟨c0, c1, c2, c3⟩ := ((unhid HH) k e (unhid HE)).below (unhid HB3) hb
          have hsz := (unhid HB3).size
          have HOa := hid ((unhid HO3).alloc (.cells #[.string e.path, .int .i64 e.kind, .int .i64 e.mode, .string e.text] 57))
          have HBa := hid ((unhid HB3).alloc hsz (.cells #[.string e.path, .int .i64 e.kind, .int .i64 e.mode, .string e.text] 57))
          go_wp2_with (at_builtin; refine wpList_append_own _ rfl _ _ 32 rfl w.heap.size 57 i0 _ 4 48 Tryz.underlying32 (unhid HI).1 (unhid HI).2.1 (unhid HI).2.2.1 (unhid HI).2.2.2 rfl (by decide) _ (keptP g es (es.take k)).length (valsOf (keptP g es (es.take k))) rfl (unhid HOa) ⟨w3.heap.size, 0, none⟩ 1 1 [.string e.path, .int .i64 e.kind, .int .i64 e.mode, .string e.text] rfl rfl (lit_cells w3 _ _ _ _ _) ?c2 ?c3 ?c4 ?c5 ?_)
          case c2 => intro u hu; simp at hu; rcases hu with rfl | rfl | rfl | rfl <;> rfl
          case c3 => unfold maxLen; omega
          case c4 => omega
          case c5 => simp; omega
          intro v' w9 hown hgr _
          obtain ⟨a2, cap2, rfl⟩ := ownsRow_slice hown
          have HF := hid (show w9.ownsRow w.heap.size 57 4 (.slice a2 ((keptP g es (es.take k)).length + 1) cap2) (keptP g es (es.take (k + 1))).length (valsOf (keptP g es (es.take (k + 1)))) ∧ Below w.heap.size w w9 from
            ⟨by rw [unhid HYE, List.length_append, valsOf_snoc]; exact hown, (unhid HBa).grown hgr (unhid HBa).size (fun k e => ((unhid HOa).lt k e).1)⟩)
          clear hown hgr
          go_wp2_with fail
          go_roundw
          case rel => exact ⟨k + 1, by omega, by go_num, hid (unhid HF).1, hid (unhid HF).2, owns_some (unhid HF).1 (by rw [unhid HYE]; simp)⟩
          case measure => simp [intOf]; omega
      · have e : k = es.length := by omega
        subst e
        rw [List.take_of_length_le (Nat.le_refl _)] at HO HSV ⊢
        go_wp2_with fail
        go_ret
        exact ⟨_, rfl, by rw [unhid E]; exact unhid HO, unhid HB, unhid HSV⟩
theorem specTreePart_any (es : List Ent) (g : ByteArray) (b o cap : Nat) (w : World) (hs : smallE es) (hg : g.size ≤ 1048576) (h : ∀ (i : Nat) e, es[i]? = some e → EntAt w b (o + i * 4) e) (hb : b < w.heap.size) :
    Calls Tryz.prog 52 #[.slice (some ⟨b, o, none⟩) es.length cap, .string g] w fun x w' => ∃ v, x = .returned v ∧ w'.ownsRow w.heap.size 57 4 v (partR g es).length (valsOf (partR g es)) ∧ Below w.heap.size w w' :=
  (specTreePart_full es g b o cap w hs hg h hb).mono (fun _ _ ⟨v, h1, h2, h3, _⟩ => ⟨v, h1, h2, h3⟩)
end Go.Proofs.YtoihhlkidlapmaaGreat

namespace Go.Proofs.YtoihhlkidlapmaaGreat
theorem part_sub {g : ByteArray} {es : List Ent} {e : Ent} (h : e ∈ partR g es) : e ∈ es := by
  unfold partR partL keptE at h
  have := (List.mem_filter.1 h).1
  split at this
  · exact this
  · cases this
theorem part_le (g : ByteArray) (es : List Ent) : (partR g es).length ≤ es.length := by
  unfold partR partL keptE
  refine Nat.le_trans (List.length_filter_le _ _) ?_
  split
  · exact Nat.le_refl _
  · exact Nat.zero_le _
end Go.Proofs.YtoihhlkidlapmaaGreat

namespace Go.Proofs.YtoihhlkidlapmaaGreat
open Go.RowKit
end Go.Proofs.YtoihhlkidlapmaaGreat

namespace Go.Proofs.YtoihhlkidlapmaaGreat
open Go.RowKit Go.Shelf
def NeedAt (W : World) (b : Nat) (n : ByteArray) (k : Int) (v : ByteArray) : Prop :=
  (W.cell? ⟨b, 0, none⟩ = some (.string n) ∧ W.frozen? ⟨b, 0, none⟩ = false) ∧ (W.cell? ⟨b, 1, none⟩ = some (.int .i64 k) ∧ W.frozen? ⟨b, 1, none⟩ = false) ∧ W.cell? ⟨b, 2, none⟩ = some (.string v) ∧ W.frozen? ⟨b, 2, none⟩ = false
theorem needAt_new (W : World) (n : ByteArray) (k : Int) (v : ByteArray) (t : TypeId) : NeedAt (W.alloc (.cells #[.string n, .int .i64 k, .string v] t)) W.heap.size n k v := by
  refine ⟨⟨?_, ?_⟩, ⟨?_, ?_⟩, ?_, ?_⟩ <;> simp [go_sem]
end Go.Proofs.YtoihhlkidlapmaaGreat

namespace Go.Proofs.YtoihhlkidlapmaaGreat
open Go.RowKit
theorem grown_set {x y : World} {b : Nat} (h : x.grownBy y (some b)) {p : Addr} (hp : x.heap.size ≤ p.block) (v : Value) : x.grownBy (y.setCell p v) (some b) :=
  ⟨h.os, h.tape, h.output, by simpa using h.size, fun k hk hne => (Below.heap_setCell y p v k (by omega)).trans (h.block k hk hne)⟩
theorem Rd.set {w : World} {b : Nat} {a : Option Addr} {len cap p : Nat} (h : Rd w b a len cap p) {q : Addr} (hq : b < q.block) (v : Value) : Rd (w.setCell q v) b a len cap p where
  c0 := (World.cell?_of_block (w := w) (Below.heap_setCell w q v b (by omega))).trans h.c0
  c1 := (World.cell?_of_block (w := w) (Below.heap_setCell w q v b (by omega))).trans h.c1
  f1 := (World.frozen?_of_block (w := w) (Below.heap_setCell w q v b (by omega))).trans h.f1
  l := h.l
  d := by
    rcases h.d with h0 | ⟨blk, off, ha, hb, hc⟩
    · exact .inl h0
    · refine .inr ⟨blk, off, ha, hb, fun k hk => ?_⟩
      obtain ⟨c, h1, h2⟩ := hc k hk
      exact ⟨c, h1, (World.cell?_of_block (w := w) (Below.heap_setCell w q v blk (by omega))).trans h2⟩
theorem row_short_at (w : World) (cs : Array Value) (t : TypeId) (B : Nat) (hB : B = w.heap.size) (h : cs.toList.all shortV = true) (k : Nat) (hk : k < cs.size) : ∃ x, short x ∧ (w.alloc (.cells cs t)).cell? ⟨B, k, none⟩ = some (.string x) := by
  subst hB; exact row_short w cs t h k hk
theorem NeedAt.grown {W W' : World} {b c : Nat} {n : ByteArray} {k : Int} {v : ByteArray} (h : NeedAt W c n k v) (hg : W.grownBy W' (some b)) (hc : c < W.heap.size) (hne : c ≠ b) : NeedAt W' c n k v := by
  have hb : W'.heap[c]? = W.heap[c]? := hg.block c hc (fun e => hne (by cases e; rfl))
  exact ⟨⟨(World.cell?_of_block (w := W) hb).trans h.1.1, (World.frozen?_of_block (w := W) hb).trans h.1.2⟩, ⟨(World.cell?_of_block (w := W) hb).trans h.2.1.1, (World.frozen?_of_block (w := W) hb).trans h.2.1.2⟩, (World.cell?_of_block (w := W) hb).trans h.2.2.1, (World.frozen?_of_block (w := W) hb).trans h.2.2.2⟩
set_option maxRecDepth 100000 in
set_option maxHeartbeats 1000000 in
theorem l11Version_any (w : World) (b : Nat) (a : Option Addr) (len cap p : Nat) (h : Rd w b a len cap p) (hp : p ≤ 1048576) :
    Calls Tryz.prog 111 #[.pointer (some ⟨b, 0, none⟩)] w fun e w' => ∃ x, short x ∧ e = .returned (.string x) ∧ Rd w' b a len cap (p + 1) ∧ w.grownBy w' (some b) := by
  have H := hid h
  clear h
  go_enter Tryz.func111, Tryz.ntmps111
  go_wp2_with fail
  have hb := (unhid H).lt
  refine (of_any short _ b a len cap p ?h1 hp w.heap.size 8 8 ?h2 (by omega) (by omega) ?h5).mono ?_
  case h1 => exact (unhid H).alloc _
  case h2 => omega
  case h5 => exact fun k hk => row_short w _ _ (by kernel_rfl) k hk
  rintro e w1 ⟨x, hx, rfl, hR, hG⟩
  have hG' := grown_trans (World.grownBy_alloc w _ (some b)) hG
  have HR := hid hR
  have HG := hid hG'
  clear hR hG hG'
  go_wp2_with fail
  go_ret
  exact ⟨x, hx, rfl, unhid HR, unhid HG⟩
set_option maxRecDepth 100000 in
set_option maxHeartbeats 1000000 in
theorem l11AnyVersion_any (w : World) (b : Nat) (a : Option Addr) (len cap p : Nat) (h : Rd w b a len cap p) (hp : p ≤ 1000000) :
    Calls Tryz.prog 155 #[.pointer (some ⟨b, 0, none⟩)] w fun e w' => ∃ x, short x ∧ e = .returned (.string x) ∧ Rd w' b a len cap (p + 1 + 1) ∧ w.grownBy w' (some b) := by
  have H := hid h
  clear h
  go_enter Tryz.func155, Tryz.ntmps155
  go_wp2_with fail
  refine (pick_any w b a len cap p (unhid H) (by omega) 6 (by omega) (by omega)).mono ?_
  rintro e w1 ⟨r, hr, rfl, hR, hG⟩
  have HR := hid hR
  have HG := hid hG
  clear hR hG
  by_cases h0 : r = 0
  · have h0' : ((r : Int) == 0) = true := by simp [h0]
    go_wp2_with fail
    have hb := (unhid HR).lt
    refine (of_any short _ b a len cap (p + 1) ?h1 (by omega) w1.heap.size 8 8 ?h2 (by omega) (by omega) ?h5).mono ?_
    case h1 => exact (unhid HR).alloc _
    case h2 => omega
    case h5 => exact fun k hk => row_short w1 _ _ (by kernel_rfl) k hk
    rintro e w2 ⟨x, hx, rfl, hR, hG⟩
    have hG' := grown_trans (unhid HG) (grown_trans (World.grownBy_alloc w1 _ (some b)) hG)
    have HR2 := hid hR
    have HG2 := hid hG'
    clear hR hG hG'
    go_wp2_with fail
    go_ret
    exact ⟨x, hx, rfl, unhid HR2, unhid HG2⟩
  · have h0' : ((r : Int) == 0) = false := by rw [beq_eq_false_iff_ne]; omega
    go_wp2_with fail
    refine (l11Version_any w1 b a len cap (p + 1) (unhid HR) (by omega)).mono ?_
    rintro e w2 ⟨x, hx, rfl, hR, hG⟩
    have hG' := grown_trans (unhid HG) hG
    have HR2 := hid hR
    have HG2 := hid hG'
    clear hR hG hG'
    go_wp2_with fail
    go_ret
    exact ⟨x, hx, rfl, unhid HR2, unhid HG2⟩
theorem short_nil : short ⟨#[]⟩ := by unfold short; decide
set_option maxRecDepth 100000 in
set_option maxHeartbeats 2000000 in
theorem l11Need_any (w : World) (b : Nat) (a : Option Addr) (len cap p : Nat) (h : Rd w b a len cap p) (hp : p ≤ 1000000) :
    Calls Tryz.prog 157 #[.pointer (some ⟨b, 0, none⟩)] w fun e w' => ∃ (x v : ByteArray) (k : Int), short x ∧ short v ∧ e = .returned (.agg #[.string x, .int .i64 k, .string v]) ∧ (∃ p', p' ≤ p + 3 ∧ Rd w' b a len cap p') ∧ w.grownBy w' (some b) := by
  have H := hid (h.alloc (.cells #[.string ⟨#[]⟩, .int .i64 0, .string ⟨#[]⟩] 36))
  have hbl := h.lt
  clear h
  go_enter Tryz.func157, Tryz.ntmps157
  go_wp2_with fail
  refine (of_any short _ b a len cap p ?h1 (by omega) (w.heap.size + 1) 4 4 ?h2 (by omega) (by omega) ?h5).mono ?_
  case h1 => exact (unhid H).alloc _
  case h2 => omega
  case h5 => exact fun k hk => row_short_at _ _ _ _ (by simp) (by kernel_rfl) k hk
  rintro e w1 ⟨x, hx, rfl, hR, hG⟩
  have HG := hid (grown_trans (World.grownBy_alloc w (.cells #[.string ⟨#[]⟩, .int .i64 0, .string ⟨#[]⟩] 36) (some b)) (grown_trans (World.grownBy_alloc _ _ (some b)) hG))
  have hz1 : w.heap.size + 2 ≤ w1.heap.size := by have := hG.size; simpa using this
  have HN := hid (((needAt_new w ⟨#[]⟩ 0 ⟨#[]⟩ 36).grown (World.grownBy_alloc _ _ (some b)) (by simp) (by omega)).grown hG (by simp; omega) (by omega))
  have HR := hid hR
  clear hR hG H
  go_wp2_with fail
  refine (pick_any w1 b a len cap (p + 1) (unhid HR) (by omega) 4 (by omega) (by omega)).mono ?_
  rintro e w2 ⟨r, hr, rfl, hR, hG⟩
  have HN2 := hid ((unhid HN).grown hG (by omega) (by omega))
  have HG2 := hid (grown_trans (unhid HG) hG)
  have hz2 : w.heap.size + 2 ≤ w2.heap.size := Nat.le_trans hz1 hG.size
  have HR2 := hid hR
  clear hR hG HN HG HR
  by_cases h0 : r = 0
  · subst h0
    obtain ⟨⟨c0, f0⟩, ⟨c1, f1⟩, c2, f2⟩ := (unhid HN2).grown (World.grownBy_alloc w2 (.cells #[.string x, .int .i64 0, .string ⟨#[]⟩] 36) (some b)) (by omega) (by omega)
    have G := hid (grown_trans (unhid HG2) (World.grownBy_alloc w2 (.cells #[.string x, .int .i64 0, .string ⟨#[]⟩] 36) (some b)))
    have R := hid ((unhid HR2).alloc (.cells #[.string x, .int .i64 0, .string ⟨#[]⟩] 36))
    go_wp2_with fail
    refine bodyPost_ret (v := .agg #[.string x, .int .i64 0, .string ⟨#[]⟩]) (by simp [results, Tryz.results157, go_sem, World.cell?_setCell_same', c0, c1, c2]) rfl ⟨x, ⟨#[]⟩, 0, hx, short_nil, rfl, ⟨_, ?_, (((unhid R).set ?_ _).set ?_ _).set ?_ _⟩, grown_set (grown_set (grown_set (unhid G) (Nat.le_refl _) _) (Nat.le_refl _) _) (Nat.le_refl _) _⟩
    all_goals (try dsimp only); omega
  · have h0' : ((r : Int) != 0) = true := by rw [bne_iff_ne]; omega
    have NN := hid (needAt_new w2 x r ⟨#[]⟩ 36)
    have N0 := hid ((unhid HN2).grown (World.grownBy_alloc w2 (.cells #[.string x, .int .i64 r, .string ⟨#[]⟩] 36) (some b)) (by omega) (by omega))
    have G := hid (grown_trans (unhid HG2) (World.grownBy_alloc w2 (.cells #[.string x, .int .i64 r, .string ⟨#[]⟩] 36) (some b)))
    have R := hid ((unhid HR2).alloc (.cells #[.string x, .int .i64 r, .string ⟨#[]⟩] 36))
    clear HN2 HG2 HR2
    go_wp2_with fail
    refine (l11Version_any _ b a len cap _ (unhid R) (by omega)).mono ?_
    rintro e w3 ⟨v, hv, rfl, hR, hG⟩
    obtain ⟨⟨d0, g0⟩, ⟨d1, g1⟩, d2, g2⟩ := (unhid NN).grown hG (by simp) (by omega)
    have hN3 := (unhid N0).grown hG (by simp; omega) (by omega)
    obtain ⟨⟨c0, f0⟩, ⟨c1, f1⟩, c2, f2⟩ := hN3
    have G3 := hid (grown_trans (unhid G) hG)
    have R3 := hid hR
    have hz3 : w.heap.size + 3 ≤ w3.heap.size := by have := hG.size; simp at this; omega
    clear hG hR NN N0 G R
    have hne : ∀ i j, (⟨w2.heap.size, i, none⟩ : Addr) ≠ ⟨w.heap.size, j, none⟩ := fun i j e => by have := congrArg Addr.block e; simp at this; omega
    have hne' : ¬ w2.heap.size = w.heap.size := by omega
    have hne2 : ¬ w.heap.size = w2.heap.size := by omega
    go_wp2_with fail
    refine bodyPost_ret (v := .agg #[.string x, .int .i64 r, .string v]) (by simp [results, Tryz.results157, go_sem, World.cell?_setCell_same', c0, c1, c2]) rfl ⟨x, v, r, hx, hv, rfl, ⟨_, ?_, ((((unhid R3).set ?_ _).set ?_ _).set ?_ _).set ?_ _⟩, grown_set (grown_set (grown_set (grown_set (unhid G3) ?_ _) (Nat.le_refl _) _) (Nat.le_refl _) _) (Nat.le_refl _) _⟩
    all_goals (try dsimp only); omega
set_option maxRecDepth 100000 in
set_option maxHeartbeats 4000000 in
theorem l11AnyNeed_any (w : World) (b : Nat) (a : Option Addr) (len cap p : Nat) (h : Rd w b a len cap p) (hp : p ≤ 900000) :
    Calls Tryz.prog 156 #[.pointer (some ⟨b, 0, none⟩)] w fun e w' => ∃ (x v : ByteArray) (k : Int), short x ∧ short v ∧ e = .returned (.agg #[.string x, .int .i64 k, .string v]) ∧ (∃ p', p' ≤ p + 6 ∧ Rd w' b a len cap p') ∧ w.grownBy w' (some b) := by
  have H := hid (h.alloc (.cells #[.string ⟨#[]⟩, .int .i64 0, .string ⟨#[]⟩] 36))
  have hbl := h.lt
  clear h
  go_enter Tryz.func156, Tryz.ntmps156
  go_wp2_with fail
  refine (l11Need_any _ b a len cap p (unhid H) (by omega)).mono ?_
  rintro e w1 ⟨x, v, k, hx, hv, rfl, ⟨p1, hp1, hR⟩, hG⟩
  have hz1 : w.heap.size + 1 ≤ w1.heap.size := by have := hG.size; simpa using this
  have N0 := hid (((needAt_new w ⟨#[]⟩ 0 ⟨#[]⟩ 36).grown hG (by simp) (by omega)).grown (World.grownBy_alloc w1 (.cells #[.string x, .int .i64 k, .string v] 36) (some b)) (by omega) (by omega))
  have NN := hid (needAt_new w1 x k v 36)
  have G := hid (grown_trans (grown_trans (World.grownBy_alloc w _ (some b)) hG) (World.grownBy_alloc w1 (.cells #[.string x, .int .i64 k, .string v] 36) (some b)))
  have R := hid (hR.alloc (.cells #[.string x, .int .i64 k, .string v] 36))
  clear hR hG H
  go_wp2_with fail
  refine (pick_any _ b a len cap p1 (unhid R) (by omega) 14 (by omega) (by omega)).mono ?_
  rintro e w2 ⟨r, hr, rfl, hR, hG⟩
  have N0' := hid ((unhid N0).grown hG (by simp; omega) (by omega))
  have NN' := hid ((unhid NN).grown hG (by simp) (by omega))
  have G2 := hid (grown_trans (unhid G) hG)
  have R2 := hid hR
  have hz2 : w1.heap.size + 1 ≤ w2.heap.size := by have := hG.size; simpa using this
  clear hG hR N0 NN G R
  have hne' : ¬ w1.heap.size = w.heap.size := by omega
  have hne2 : ¬ w.heap.size = w1.heap.size := by omega
  by_cases h0 : r = 0
  · subst h0
    go_wp2_with fail
    refine (of_any short _ b a len cap (p1 + 1) ?h1 (by omega) w2.heap.size 4 4 ?h2 (by omega) (by omega) ?h5).mono ?_
    case h1 => exact (unhid R2).alloc _
    case h2 => omega
    case h5 => exact fun k hk => row_short_at _ _ _ _ (by simp) (by kernel_rfl) k hk
    rintro e w3 ⟨y, hy, rfl, hR, hG0⟩
    have hG := grown_trans (World.grownBy_alloc w2 _ (some b)) hG0
    obtain ⟨⟨d0, g0⟩, ⟨d1, g1⟩, d2, g2⟩ := (unhid NN').grown hG (by omega) (by omega)
    obtain ⟨⟨c0, f0⟩, ⟨c1, f1⟩, c2, f2⟩ := (unhid N0').grown hG (by omega) (by omega)
    have G3 := hid (grown_trans (unhid G2) hG)
    have R3 := hid hR
    clear hG hG0 hR NN' N0' G2 R2
    go_wp2_with fail
    refine bodyPost_ret (v := .agg #[.string y, .int .i64 k, .string v]) (by simp [results, Tryz.results156, go_sem, World.cell?_setCell_same', c0, c1, c2]) rfl ⟨y, v, k, hy, hv, rfl, ⟨_, ?_, ((((unhid R3).set ?_ _).set ?_ _).set ?_ _).set ?_ _⟩, grown_set (grown_set (grown_set (grown_set (unhid G3) ?_ _) (Nat.le_refl _) _) (Nat.le_refl _) _) (Nat.le_refl _) _⟩
    all_goals (try dsimp only); omega
  · by_cases h1 : r = 1
    · subst h1
      go_wp2_with fail
      refine (pick_any _ b a len cap _ (unhid R2) (by omega) 6 (by omega) (by omega)).mono ?_
      rintro e w3 ⟨q, hq, rfl, hR, hG⟩
      obtain ⟨⟨d0, g0⟩, ⟨d1, g1⟩, d2, g2⟩ := (unhid NN').grown hG (by omega) (by omega)
      obtain ⟨⟨c0, f0⟩, ⟨c1, f1⟩, c2, f2⟩ := (unhid N0').grown hG (by omega) (by omega)
      have G3 := hid (grown_trans (unhid G2) hG)
      have R3 := hid hR
      clear hG hR NN' N0' G2 R2
      go_wp2_with fail
      refine bodyPost_ret (v := .agg #[.string x, .int .i64 ((q : Int) - 1), .string v]) (by simp [results, Tryz.results156, go_sem, World.cell?_setCell_same', c0, c1, c2]) rfl ⟨x, v, (q : Int) - 1, hx, hv, rfl, ⟨_, ?_, ((((unhid R3).set ?_ _).set ?_ _).set ?_ _).set ?_ _⟩, grown_set (grown_set (grown_set (grown_set (unhid G3) ?_ _) (Nat.le_refl _) _) (Nat.le_refl _) _) (Nat.le_refl _) _⟩
      all_goals (try dsimp only); omega
    · by_cases h2 : r = 2
      · subst h2
        go_wp2_with fail
        refine (l11AnyVersion_any _ b a len cap _ (unhid R2) (by omega)).mono ?_
        rintro e w3 ⟨y, hy, rfl, hR, hG⟩
        obtain ⟨⟨d0, g0⟩, ⟨d1, g1⟩, d2, g2⟩ := (unhid NN').grown hG (by omega) (by omega)
        obtain ⟨⟨c0, f0⟩, ⟨c1, f1⟩, c2, f2⟩ := (unhid N0').grown hG (by omega) (by omega)
        have G3 := hid (grown_trans (unhid G2) hG)
        have R3 := hid hR
        clear hG hR NN' N0' G2 R2
        go_wp2_with fail
        refine bodyPost_ret (v := .agg #[.string x, .int .i64 k, .string y]) (by simp [results, Tryz.results156, go_sem, World.cell?_setCell_same', c0, c1, c2]) rfl ⟨x, y, k, hx, hy, rfl, ⟨_, ?_, ((((unhid R3).set ?_ _).set ?_ _).set ?_ _).set ?_ _⟩, grown_set (grown_set (grown_set (grown_set (unhid G3) ?_ _) (Nat.le_refl _) _) (Nat.le_refl _) _) (Nat.le_refl _) _⟩
        all_goals (try dsimp only); omega
      · have b0 : ((r : Int) == 0) = false := by rw [beq_eq_false_iff_ne]; omega
        have b1 : ((r : Int) == 1) = false := by rw [beq_eq_false_iff_ne]; omega
        have b2 : ((r : Int) == 2) = false := by rw [beq_eq_false_iff_ne]; omega
        obtain ⟨⟨d0, g0⟩, ⟨d1, g1⟩, d2, g2⟩ := unhid NN'
        obtain ⟨⟨c0, f0⟩, ⟨c1, f1⟩, c2, f2⟩ := unhid N0'
        go_wp2_with fail
        refine bodyPost_ret (v := .agg #[.string x, .int .i64 k, .string v]) (by simp [results, Tryz.results156, go_sem, World.cell?_setCell_same', c0, c1, c2]) rfl ⟨x, v, k, hx, hv, rfl, ⟨_, ?_, (((unhid R2).set ?_ _).set ?_ _).set ?_ _⟩, grown_set (grown_set (grown_set (unhid G2) (Nat.le_refl _) _) (Nat.le_refl _) _) (Nat.le_refl _) _⟩
        all_goals (try dsimp only); omega
end Go.Proofs.YtoihhlkidlapmaaGreat

namespace Go.Proofs.YtoihhlkidlapmaaGreat
open Go.RowKit Go.Shelf
def drawnB (l : List UInt8) : Bool := [[111, 110, 101], [116, 119, 111], [116, 104, 114, 101, 101], [122, 105, 112], [], [79, 110, 101]].contains l
def drawnV : Value → Bool
  | .string x => drawnB x.data.toList
  | _ => false
def drawn (x : ByteArray) : Prop := drawnB x.data.toList = true
theorem row_drawn (w : World) (cs : Array Value) (t : TypeId) (B : Nat) (hB : B = w.heap.size) (h : cs.toList.all drawnV = true) (k : Nat) (hk : k < cs.size) : ∃ x, drawn x ∧ (w.alloc (.cells cs t)).cell? ⟨B, k, none⟩ = some (.string x) := by
  subst hB
  have hv := List.all_eq_true.1 h cs[k] (by simp)
  have hc := cell_arrS (World.alloc_heap_new w (.cells cs t)) k cs[k] (Array.getElem?_eq_getElem hk)
  revert hv hc
  generalize cs[k] = v
  intro hv hc
  cases v <;> first | (cases hv; done) | skip
  exact ⟨_, hv, hc⟩
theorem drawn_short {x : ByteArray} (h : drawn x) : x.size ≤ 100 := by
  unfold drawn drawnB at h
  have : x.size = x.data.toList.length := by rw [Array.length_toList]; rfl
  rw [this]
  simp only [List.contains_eq_mem, List.mem_cons, List.not_mem_nil, or_false, decide_eq_true_eq] at h
  rcases h with h | h | h | h | h | h <;> rw [h] <;> decide
theorem nrow_own2 {K : CK} {ty : Nat} {W : World} {N : Nat} {v : Value} {L : List (It K)} (h : NRow K ty W N v L) : ∃ F, rowOwn K ty W v (itD L) F ∧ ∀ k ∈ F, v.ownBlock = some k ∨ k ∈ itF L := by
  rcases h.row.2 with ⟨rfl, h0⟩ | ⟨g, cap, cur, hv, hN, hg, hc, _, hsz, hcells⟩
  · have : L = [] := List.length_eq_zero_iff.1 h0
    subst this
    exact ⟨[], .inl ⟨rfl, rfl, none, 0, rfl, fun _ => rfl⟩, fun k hk => by cases hk⟩
  · have hF : (L.map (fun t => t.2.2)).flatten = itF L := by simp [itF, List.flatMap]
    have hap : g ∉ itF L := h.apart g (by rw [hv]; rfl)
    refine ⟨g :: itF L, .inr ⟨g, cap, cur, L.map (fun t => t.2.2), by rw [itD_len]; exact hv, by rw [itD_len]; exact hc, by rw [hF], List.nodup_cons.2 ⟨hap, h.items.nodup⟩, ⟨hg, by rw [itD_len, hsz]; exact Nat.mul_le_mul_right _ hc, by rw [itD_len, List.length_map], fun i d hi => ?_⟩⟩, fun k hk => ?_⟩
    · unfold itD at hi
      rw [List.getElem?_map] at hi
      cases ht : L[i]? with
      | none => rw [ht] at hi; cases hi
      | some t =>
        rw [ht] at hi
        simp at hi
        subst hi
        have hm : t ∈ L := List.mem_of_getElem? ht
        have hown := h.items.each t hm
        refine ⟨t.1, t.2.2, by rw [List.getElem?_map, ht]; rfl, fun j c hj => ?_, hown⟩
        have hjn : j < K.n := by rw [← K.len hown]; exact (List.getElem?_eq_some_iff.1 hj).1
        have h1 := itCells_get (fun t ht => K.len (h.items.each t ht)) i t ht j hjn
        rw [hj, ← hcells] at h1
        have hil : i < L.length := (List.getElem?_eq_some_iff.1 ht).1
        have : (i + 1) * K.n ≤ L.length * K.n := Nat.mul_le_mul_right _ hil
        rw [Nat.add_mul, Nat.one_mul] at this
        rw [List.getElem?_take_of_lt (by omega), Array.getElem?_toList] at h1
        exact h1
    · rcases List.mem_cons.1 hk with rfl | hk
      · exact .inl (by rw [hv]; rfl)
      · exact .inr hk
def entIt (e : Ent) : It entryC := ([.string e.path, .int .i64 e.kind, .int .i64 e.mode, .string e.text], dEnt e, [])
def entIts (es : List Ent) : List (It entryC) := es.map entIt
theorem entIts_len (es : List Ent) : (entIts es).length = es.length := List.length_map _
theorem entIts_D (es : List Ent) : itD (entIts es) = dEnts es := by
  unfold itD entIts dEnts
  rw [List.map_map]; rfl
theorem entIts_F : ∀ es : List Ent, itF (entIts es) = []
  | [] => rfl
  | e :: es => by
    have := entIts_F es
    show [] ++ itF (entIts es) = []
    rw [this]; rfl
theorem entIts_cells : ∀ es : List Ent, itCells (entIts es) = valsOf es
  | [] => rfl
  | e :: es => by
    have := entIts_cells es
    show [.string e.path, .int .i64 e.kind, .int .i64 e.mode, .string e.text] ++ itCells (entIts es) = _
    rw [this]
    simp [valsOf, Ent.vals]
theorem ents_nrow {W : World} {N : Nat} {v : Value} {es : List Ent} (h : W.ownsRow N 57 4 v es.length (valsOf es)) : NRow entryC 57 W N v (entIts es) :=
  ⟨by rw [entIts_len, entIts_cells]; exact h, ⟨fun t ht => by
    unfold entIts at ht
    obtain ⟨e, _, rfl⟩ := List.mem_map.1 ht
    exact entryC_mk ⟨rfl, rfl⟩, by rw [entIts_F]; exact List.nodup_nil, by rw [entIts_F]; exact fun k hk => by cases hk⟩, by rw [entIts_F]; exact fun g _ hk => by cases hk⟩
structure DK (W : World) (N : Nat) (nv : Value) (nL : List (It needC)) (tv : Value) (es : List Ent) : Prop where
  needs : NRow needC 36 W N nv nL
  tree : NRow entryC 57 W N tv (entIts es)
  leaf : itF nL = []
  apart : ∀ g, nv.ownBlock = some g → tv.ownBlock = some g → False
theorem DK.frame {W W' : World} {N : Nat} {nv tv : Value} {nL : List (It needC)} {es : List Ent} (h : DK W N nv nL tv es) (hk : ∀ k, N ≤ k → k < W.heap.size → W'.heap[k]? = W.heap[k]?) : DK W' N nv nL tv es :=
  ⟨h.needs.frame (fun k hm => hk k (h.needs.base k hm).1 (h.needs.base k hm).2), h.tree.frame (fun k hm => hk k (h.tree.base k hm).1 (h.tree.base k hm).2), h.leaf, h.apart⟩
theorem DK.own {W : World} {N : Nat} {nv tv : Value} {nL : List (It needC)} {es : List Ent} (h : DK W N nv nL tv es) (name ver : ByteArray) : ∃ F, packC.own W [.string name, .string ver, nv, tv] (⟨name, ver, itD nL, dEnts es⟩ : PackD) F ∧ ∀ k ∈ F, N ≤ k ∧ k < W.heap.size := by
  obtain ⟨F2, o2, f2⟩ := nrow_own2 h.needs
  obtain ⟨F3, o3, f3⟩ := nrow_own2 h.tree
  rw [entIts_D] at o3
  refine ⟨F2 ++ F3, packC_mk ⟨nv, tv, F2, F3, rfl, rfl, o2, o3, fun k h2 h3 => ?_⟩, fun k hk => ?_⟩
  · have a2 := f2 k h2
    have a3 := f3 k h3
    rw [h.leaf] at a2
    rw [entIts_F] at a3
    rcases a2 with a2 | a2
    · rcases a3 with a3 | a3
      · exact h.apart k a2 a3
      · cases a3
    · cases a2
  · rcases List.mem_append.1 hk with hk | hk
    · exact h.needs.base k (f2 k hk)
    · exact h.tree.base k (f3 k hk)
structure DQ (w : World) (b : Nat) (a : Option Addr) (len cap q : Nat) (W : World) (ver : ByteArray) (nv : Value) (nL : List (It needC)) (tv : Value) (es : List Ent) : Prop where
  ver : short ver
  k : DK W (w.heap.size + 1) nv nL tv es
  nice : ∀ e ∈ es, niceE e
  few : es.length ≤ 17
  sn : ∀ n ∈ itD nL, (NeedD.name n).size ≤ 100 ∧ (NeedD.version n).size ≤ 100
  ln : nL.length ≤ 5
  rd : ∃ p', p' ≤ q ∧ Rd W b a len cap p'
  grown : w.grownBy W (some b)
theorem slice_of_owns {W : World} {N : Nat} {v : Value} {es : List Ent} (h : W.ownsRow N 57 4 v es.length (valsOf es)) : ∃ a c, v = .slice a es.length c := by
  rcases h.2 with ⟨rfl, h0⟩ | ⟨g, cap, cur, rfl, _⟩
  · exact ⟨none, 0, by rw [h0]⟩
  · exact ⟨_, cap, rfl⟩
theorem sets4_off (w : World) (g : Nat) (v0 v1 v2 v3 : Value) (k : Nat) (h : k ≠ g) : ((((w.setCell ⟨g, 0, none⟩ v0).setCell ⟨g, 1, none⟩ v1).setCell ⟨g, 2, none⟩ v2).setCell ⟨g, 3, none⟩ v3).heap[k]? = w.heap[k]? := setsW_off [v0, v1, v2, v3] w g 0 k h
theorem dq_end {w : World} {b : Nat} {a : Option Addr} {len cap q p' : Nat} {W : World} {ver : ByteArray} {nv tv : Value} {nL : List (It needC)} {es : List Ent} (v0 v1 v2 v3 : Value) (hbl : b < w.heap.size) (hv : short ver) (hk : DK W (w.heap.size + 1) nv nL tv es) (hn : ∀ e ∈ es, niceE e) (hf : es.length ≤ 17)
    (hs : ∀ n ∈ itD nL, (NeedD.name n).size ≤ 100 ∧ (NeedD.version n).size ≤ 100) (hl : nL.length ≤ 5) (hR : Rd W b a len cap p') (hp : p' ≤ q) (hg : w.grownBy W (some b)) :
    DQ w b a len cap q (((((W.setCell ⟨w.heap.size, 0, none⟩ v0).setCell ⟨w.heap.size, 1, none⟩ v1).setCell ⟨w.heap.size, 2, none⟩ v2).setCell ⟨w.heap.size, 3, none⟩ v3)) ver nv nL tv es := by
  have hB : Below w.heap.size W (((((W.setCell ⟨w.heap.size, 0, none⟩ v0).setCell ⟨w.heap.size, 1, none⟩ v1).setCell ⟨w.heap.size, 2, none⟩ v2).setCell ⟨w.heap.size, 3, none⟩ v3)) := setsW_below [v0, v1, v2, v3] W W w.heap.size w.heap.size 0 (Below.refl _ _) (Nat.le_refl _)
  exact ⟨hv, hk.frame (fun k h1 _ => sets4_off W _ v0 v1 v2 v3 k (by omega)), hn, hf, hs, hl, ⟨p', hp, Rd.low hR hB hbl⟩, grown_low hg hB⟩
theorem need_items (W : World) (N : Nat) (x v : ByteArray) (k : Int) : Items needC W N [(([.string x, .int .i64 k, .string v], (⟨x, k, v⟩ : NeedD), []) : It needC)] :=
  ⟨fun t ht => by rcases List.mem_singleton.1 ht with rfl; exact needC_mk ⟨rfl, rfl⟩, by simp [itF], fun k hk => by simp [itF] at hk⟩
set_option maxRecDepth 100000 in
set_option maxHeartbeats 8000000 in
theorem l11Pack_any (w : World) (b : Nat) (a : Option Addr) (len cap p : Nat) (name : ByteArray) (h : Rd w b a len cap p) (hp : p ≤ 500000) :
    Calls Tryz.prog 154 #[.pointer (some ⟨b, 0, none⟩), .string name] w fun x w' => ∃ ver nv nL tv es, x = .returned (.agg #[.string name, .string ver, nv, tv]) ∧ DQ w b a len cap (p + 60) w' ver nv nL tv es ∧ nL.length ≤ 1 := by
  have hbl := h.lt
  have H := hid (h.alloc (.cells #[.string ⟨#[]⟩, .string ⟨#[]⟩, .slice none 0 0, .slice none 0 0] 34))
  have hR0 := World.alloc_heap_new w (.cells #[.string ⟨#[]⟩, .string ⟨#[]⟩, .slice none 0 0, .slice none 0 0] 34)
  have hG0 : w.grownBy (w.alloc (.cells #[.string ⟨#[]⟩, .string ⟨#[]⟩, .slice none 0 0, .slice none 0 0] 34)) (some b) := World.grownBy_alloc w _ (some b)
  have hS0 : w.heap.size + 1 ≤ (w.alloc (.cells #[.string ⟨#[]⟩, .string ⟨#[]⟩, .slice none 0 0, .slice none 0 0] 34)).heap.size := by simp
  clear h
  go_enter Tryz.func154, Tryz.ntmps154
  go_wp2_with fail
  generalize w.alloc (.cells #[.string ⟨#[]⟩, .string ⟨#[]⟩, .slice none 0 0, .slice none 0 0] 34) = w0 at H hR0 hG0 hS0 ⊢
  refine (l11Version_any w0 b a len cap p (unhid H) (by omega)).mono ?_
  rintro e w1 ⟨ver, hver, rfl, hR, hG⟩
  have hR1 := (hG.block _ (by omega) (by intro e; injection e; omega)).trans hR0
  have hS1 := Nat.le_trans hS0 hG.size
  have hG1 := grown_trans hG0 hG
  clear hR0 hG0 hS0 hG
  go_wp2_with fail
  refine (l11Tree_any w1 b a len cap (p + 1) hR (by omega)).mono ?_
  rintro x w2 ⟨v, rfl, es, hT⟩
  have hTn := hT.nice
  have hTf := hT.few
  obtain ⟨p2, hp2, hR2⟩ := hT.rd
  have HTV := hid hT.v
  obtain ⟨g, c, rfl, ho⟩ := hT.v
  have hRb2 := (hT.grown.block _ (by omega) (by intro e; injection e; omega)).trans hR1
  have hS2 := Nat.le_trans hS1 hT.grown.size
  have hG2 := grown_trans hG1 hT.grown
  have hbw1 := hR.lt
  have hw12 := hT.grown.size
  clear hR hT hG1 hR1 ho
  go_wp2_with fail
  refine (of_any short _ b a len cap p2 (hR2.alloc _) (by omega) w2.heap.size 5 5 (by have := hR2.lt; omega) (by omega) (by omega) ?h5).mono ?_
  case h5 => exact fun k hk => row_short_at _ _ _ _ rfl (by kernel_rfl) k hk
  rintro e w3 ⟨pat, hpat, rfl, hR3, hG⟩
  have hG23 := grown_trans (World.grownBy_alloc w2 _ (some b)) hG
  have hRb3 := (hG23.block _ (by omega) (by intro e; injection e; omega)).trans hRb2
  have hS3 := Nat.le_trans hS2 hG23.size
  have hG3 := grown_trans hG2 hG23
  have hTV3 := (unhid HTV).grown hG23 hbw1
  obtain ⟨g', c', hv, ho⟩ := hTV3
  cases hv
  obtain ⟨e1, e2, e3, e4⟩ := TreeV.ents ho
  have JN := hid (specTreePart_any es pat g 0 c w3 ⟨by omega, fun e he => ⟨by have := nice_short (hTn e he).1; omega, by have : e.text.size ≤ 100 := (hTn e he).2; omega⟩⟩ (by have : pat.size ≤ 100 := hpat; omega) e1 e2)
  clear hG hG23 hG2 hRb2 hS2 HTV ho e1 e2 e3 e4
  go_wp2_with fail
  refine (unhid JN).mono ?_
  rintro x w4 ⟨tv, rfl, ho4, hB4⟩
  obtain ⟨ta, tc, rfl⟩ := slice_of_owns ho4
  have hT4 : NRow entryC 57 w4 (w.heap.size + 1) (.slice ta (partR pat es).length tc) (entIts (partR pat es)) := NRow.lower (ents_nrow ho4) hS3
  have hR4 := hR3.of_below hB4
  have hRb4 := (hB4.block _ (by omega)).trans hRb3
  have hS4 := Nat.le_trans hS3 hB4.size
  have hG4 := grown_low hG3 (hB4.mono hG3.size)
  have HT4 := hid hT4
  have HTW := hid (fun k (e : (Value.slice ta (partR pat es).length tc).ownBlock = some k) => (hT4.base k (.inl e)).2)
  have HP := hid (And.intro (fun e (he : e ∈ partR pat es) => hTn e (part_sub he)) (Nat.le_trans (part_le pat es) hTf))
  clear JN hB4 hRb3 hS3 hG3 hR3 ho4 hT4 hTn hTf
  generalize partR pat es = ts at *
  go_wp2_with fail
  have hP4 := World.alloc_heap_new w4 (.cells #[.string name, .string ver, .slice none 0 0, .slice ta ts.length tc] 34)
  have hG5 : w4.grownBy (w4.alloc (.cells #[.string name, .string ver, .slice none 0 0, .slice ta ts.length tc] 34)) (some b) := World.grownBy_alloc w4 _ (some b)
  have hR5 := hR4.alloc (.cells #[.string name, .string ver, .slice none 0 0, .slice ta ts.length tc] 34)
  have hz5 : w4.heap.size + 1 ≤ (w4.alloc (.cells #[.string name, .string ver, .slice none 0 0, .slice ta ts.length tc] 34)).heap.size := by simp
  generalize w4.alloc (.cells #[.string name, .string ver, .slice none 0 0, .slice ta ts.length tc] 34) = w5 at hP4 hG5 hR5 hz5 ⊢
  refine (pick_any w5 b a len cap (p2 + 1) hR5 (by omega) 3 (by omega) (by omega)).mono ?_
  rintro e w6 ⟨m, hm, rfl, hR6, hG6⟩
  have hG46 := grown_trans hG5 hG6
  have hP6 := (hG6.block w4.heap.size (by omega) (by intro e; injection e; omega)).trans hP4
  have hRb6 := (hG46.block _ (by omega) (by intro e; injection e; omega)).trans hRb4
  have hz6 : w4.heap.size + 1 ≤ w6.heap.size := Nat.le_trans hz5 hG6.size
  have hG := grown_trans hG4 hG46
  have hT6 : NRow entryC 57 w6 (w.heap.size + 1) (.slice ta ts.length tc) (entIts ts) := (unhid HT4).frame (fun k hk => by
    have hb1 := (unhid HT4).base k hk
    exact hG46.block k hb1.2 (by intro e; injection e; omega))
  have HT6 := hid hT6
  clear hP4 hG5 hR5 hz5 hG6 hG46 hG4 hRb4 hR4 HT4 hT6
  obtain ⟨o0, r0⟩ := cell_fz hRb6 0 _ rfl
  obtain ⟨o1, r1⟩ := cell_fz hRb6 1 _ rfl
  obtain ⟨o2, r2⟩ := cell_fz hRb6 2 _ rfl
  obtain ⟨o3, r3⟩ := cell_fz hRb6 3 _ rfl
  have hne : ¬ w4.heap.size = w.heap.size := by omega
  have hne2 : ¬ w.heap.size = w4.heap.size := by omega
  by_cases h0 : m = 0
  · subst h0
    have hC0 : (fun w' => w6.grownBy w' (some b)) w6.drew := ⟨rfl, rfl, rfl, Nat.le_refl _, fun _ _ _ => rfl⟩
    have gp2 : ∀ x : CW (fun w' => w6.grownBy w' (some b)), x.w.cell? ⟨w4.heap.size, 2, none⟩ = some (.slice none 0 0) := fun x => cell_arrS ((x.h.block w4.heap.size (by omega) (by intro e; injection e; omega)).trans hP6) 2 _ rfl
    have hba : ∀ {q : Prop}, (CW (fun w' => w6.grownBy w' (some b)) → q) ↔ q := CW.all hC0
    go_wp2_with fail
    refine heldE_begin 7 (fun w' => w6.grownBy w' (some b)) (by kernel_rfl) ?_
    refine heldE_here [true, true, true] (by kernel_rfl) (by kernel_rfl) (fun _ _ _ _ _ h => h) hC0 ?_
    dsimp only [pick]
    repeat (go_big_quiet_step (fail))
    refine wpQuiet_nil ?_
    have hR7 := hR6.of_below (drew_belowS (B := w6.heap.size) w6)
    clear hba gp2 o0 r0 o1 r1 o2 r2 o3 r3 hR6
    generalize w6.drew = w7 at hC0 hR7 ⊢
    refine heldE_op 3 (by kernel_rfl) (by kernel_rfl) rfl (fun K hK => ?_)
    refine call_op 157 22 (enters_of Tryz.func157 (by kernel_rfl) rfl) #[.pointer (some ⟨b, 0, none⟩)] rfl rfl rfl rfl ?_
    refine (l11Need_any w7 b a len cap _ hR7 (by omega)).mono ?_
    rintro e w8 ⟨nx, nv, nk, hnx, hnv, rfl, ⟨p8, hp8, hR8⟩, hG8⟩
    have hC8 : w6.grownBy w8 (some b) := grown_trans hC0 hG8
    refine ⟨_, rfl, hK.out _ _ hC8 ?_⟩
    simp only [Act.put, List.setIfInBounds_toArray, List.set_cons_zero, List.set_cons_succ]
    clear hK K hC0 hR7 hG8
    have hz8 := hC8.size
    refine heldE_op 4 (by kernel_rfl) (by kernel_rfl) rfl (fun K hK => ?_)
    go_simp
    have hN9 := World.alloc_heap_new w8 (.cells #[.string nx, .int .i64 nk, .string nv] 36)
    have hG9 : w8.grownBy (w8.alloc (.cells #[.string nx, .int .i64 nk, .string nv] 36)) (some b) := World.grownBy_alloc w8 _ (some b)
    have hR9 := hR8.alloc (.cells #[.string nx, .int .i64 nk, .string nv] 36)
    have hz9 : w8.heap.size + 1 ≤ (w8.alloc (.cells #[.string nx, .int .i64 nk, .string nv] 36)).heap.size := by simp
    refine hK.out _ _ (grown_trans hC8 hG9) ?_
    clear hK K
    generalize w8.alloc (.cells #[.string nx, .int .i64 nk, .string nv] 36) = w9 at hN9 hG9 hR9 hz9 ⊢
    have hC9 := grown_trans hC8 hG9
    refine heldE_op 5 (by kernel_rfl) (by kernel_rfl) rfl (fun K hK => ?_)
    refine op_items etNeed oneNeed w9 24 _ _ rfl rfl rfl w6.heap.size (.slice none 0 0) [] [(([.string nx, .int .i64 nk, .string nv], (⟨nx, nk, nv⟩ : NeedD), []) : It needC)] w8.heap.size 0 1 (NRow.none w9 _) (need_items w9 _ nx nv nk) (fun g e => by cases e) (fun j u hj => by rw [Nat.zero_add]; exact cell_arrS hN9 _ _ (by simpa [itCells] using hj)) (by simp) (by omega) rfl (by simp [Act.eval]) ?_
    intro nw wA hgr
    have hgA : w9.grownBy wA none := hgr.by_
    have hCA : w6.grownBy wA (some b) := grown_trans hC9 ⟨hgA.os, hgA.tape, hgA.output, hgA.size, fun k hk _ => hgA.block k hk (by intro e; cases e)⟩
    have hRA := hR9.of_below ⟨hgA.os, hgA.tape, hgA.output, hgA.size, fun k hk => hgA.block k hk (by intro e; cases e)⟩
    refine hK.out _ _ hCA ?_
    simp only [Act.put, List.setIfInBounds_toArray, List.set_cons_zero, List.set_cons_succ]
    clear hK K
    have hba : ∀ {q : Prop}, (CW (fun w' => w6.grownBy w' (some b)) → q) ↔ q := CW.all hCA
    refine heldE_here [false, false, false, false, false, false, true] (by kernel_rfl) (by kernel_rfl) (fun _ _ _ _ _ h => h) hCA ?_
    dsimp only [pick]
    repeat (go_big_quiet_step (fail))
    refine wpQuiet_nil ?_
    clear hba
    have hPA := (hCA.block w4.heap.size (by omega) (by intro e; injection e; omega)).trans hP6
    have hRbA := (hCA.block w.heap.size (by omega) (by intro e; injection e; omega)).trans hRb6
    obtain ⟨na, nn, nc, rfl⟩ : ∃ a n c, nw = .slice a n c := by obtain ⟨a, c, e⟩ := grew_slice hgr; exact ⟨_, _, _, e⟩
    obtain ⟨c2, f2⟩ := cell_fz hPA 2 _ rfl
    have hNr := hgr.row
    have hnb : ∀ g, (Value.slice na nn nc).ownBlock = some g → w6.heap.size ≤ g ∧ g < wA.heap.size := fun g e => hNr.base g (.inl e)
    have hTA : NRow entryC 57 wA (w.heap.size + 1) (.slice ta ts.length tc) (entIts ts) := (unhid HT6).frame (fun k hk => by
      have hb1 := (unhid HT6).base k hk
      exact hCA.block k hb1.2 (by intro e; injection e; omega))
    have HT7 := hid (fun g (e : (Value.slice ta ts.length tc).ownBlock = some g) => ((unhid HT6).base g (.inl e)).2)
    have HTA := hid hTA
    have HNR := hid hNr
    have HNB := hid hnb
    have HGR := hid (grown_trans hG hCA)
    have HRA := hid hRA
    have hzA : w4.heap.size + 1 ≤ wA.heap.size := Nat.le_trans hz6 hCA.size
    refine heldE_last (by kernel_rfl) (by kernel_rfl) rfl (fun K hK => ?_)
    go_simp
    refine hK.out _ _ ?_
    clear hK K c2 f2
    refine heldE_done (by kernel_rfl) ?_
    have hPB := heap_setCell_same wA w4.heap.size 2 _ _ (.slice na nn nc) hPA
    have hRbB := (Below.heap_setCell wA ⟨w4.heap.size, 2, none⟩ (.slice na nn nc) w.heap.size (by dsimp only; omega)).trans hRbA
    have hoff : ∀ k, k ≠ w4.heap.size → (wA.setCell ⟨w4.heap.size, 2, none⟩ (.slice na nn nc)).heap[k]? = wA.heap[k]? := fun k hk => Below.heap_setCell _ _ _ _ hk
    have hBw4 : Below w4.heap.size wA (wA.setCell ⟨w4.heap.size, 2, none⟩ (.slice na nn nc)) := (Below.refl _ wA).setCell (p := ⟨w4.heap.size, 2, none⟩) (Nat.le_refl _) _
    have hRB := Rd.low (unhid HRA) hBw4 (by omega)
    have hGB := grown_low (unhid HGR) (hBw4.mono (by omega))
    have hKB : DK (wA.setCell ⟨w4.heap.size, 2, none⟩ (.slice na nn nc)) (w.heap.size + 1) (.slice na nn nc) [(([.string nx, .int .i64 nk, .string nv], (⟨nx, nk, nv⟩ : NeedD), []) : It needC)] (.slice ta ts.length tc) ts := ⟨NRow.lower ((unhid HNR).frame (fun k hk => hoff k (by have := ((unhid HNR).base k hk).1; omega))) (by omega), (unhid HTA).frame (fun k hk => hoff k (by
        rcases hk with hk | hk
        · intro e
          have h1 := unhid HTW k hk
          omega
        · rw [entIts_F] at hk; cases hk)), by simp [itF], fun g e1 e2 => by have h1 := ((unhid HNB) g e1).1; have h2 := (unhid HT7) g e2; omega⟩
    have HF := hid (dq_end (q := p + 60) (.string name) (.string ver) (.slice na nn nc) (.slice ta ts.length tc) hbl hver hKB (unhid HP).1 (by have := (unhid HP).2; omega) (fun n hn => by
      have hn' := List.mem_singleton.1 (show n ∈ [(⟨nx, nk, nv⟩ : NeedD)] from hn)
      rw [hn']
      exact ⟨hnx, hnv⟩) (by simp) hRB (by omega) hGB)
    generalize wA.setCell ⟨w4.heap.size, 2, none⟩ (.slice na nn nc) = wB at *
    obtain ⟨c0, f0⟩ := cell_fz hPB 0 _ rfl
    obtain ⟨c1, f1⟩ := cell_fz hPB 1 _ rfl
    obtain ⟨c2, f2⟩ := cell_fz hPB 2 _ rfl
    obtain ⟨c3, f3⟩ := cell_fz hPB 3 _ rfl
    obtain ⟨o0, r0⟩ := cell_fz hRbB 0 _ rfl
    obtain ⟨o1, r1⟩ := cell_fz hRbB 1 _ rfl
    obtain ⟨o2, r2⟩ := cell_fz hRbB 2 _ rfl
    obtain ⟨o3, r3⟩ := cell_fz hRbB 3 _ rfl
    clear hPB hRbB hPA hRbA hCA hC9 hC8 hgA hgr hNr hnb hTA hKB hRB hGB hRA hR9 hG9 hN9 hR8 hBw4 hoff hP6 hRb6 hG
    go_wp2_with fail
    exact bodyPost_ret (v := .agg #[.string name, .string ver, .slice na nn nc, .slice ta ts.length tc]) (by simp [results, Tryz.results154, go_sem, World.cell?_setCell_same', o0, o1, o2, o3]) rfl ⟨ver, _, _, _, ts, rfl, unhid HF, Nat.le_refl _⟩
  · have h0' : ((m : Int) == 0) = false := by rw [beq_eq_false_iff_ne]; omega
    have h0i : ¬ ((m : Int) = 0) := by omega
    obtain ⟨c0, f0⟩ := cell_fz hP6 0 _ rfl
    obtain ⟨c1, f1⟩ := cell_fz hP6 1 _ rfl
    obtain ⟨c2, f2⟩ := cell_fz hP6 2 _ rfl
    obtain ⟨c3, f3⟩ := cell_fz hP6 3 _ rfl
    have HF := hid (dq_end (q := p + 60) (nv := .slice none 0 0) (nL := []) (.string name) (.string ver) (.slice none 0 0) (.slice ta ts.length tc) hbl hver ⟨NRow.none w6 _, unhid HT6, rfl, fun g e => by cases e⟩ (unhid HP).1 (by have := (unhid HP).2; omega) (fun n hn => by cases hn) (Nat.zero_le _) hR6 (by omega) hG)
    clear hP6 hRb6 hR6 hG
    go_wp2_with fail
    exact bodyPost_ret (v := .agg #[.string name, .string ver, .slice none 0 0, .slice ta ts.length tc]) (by simp [results, Tryz.results154, go_sem, World.cell?_setCell_same', o0, o1, o2, o3]) rfl ⟨ver, _, [], _, ts, rfl, unhid HF, Nat.zero_le _⟩
end Go.Proofs.YtoihhlkidlapmaaGreat

namespace Go.Proofs.YtoihhlkidlapmaaGreat
open Go.RowKit Go.Shelf
theorem DK.lower {W : World} {N M : Nat} {nv tv : Value} {nL : List (It needC)} {es : List Ent} (h : DK W M nv nL tv es) (hN : N ≤ M) : DK W N nv nL tv es := ⟨NRow.lower h.needs hN, NRow.lower h.tree hN, h.leaf, h.apart⟩
theorem DK.grown {W W' : World} {N b : Nat} {nv tv : Value} {nL : List (It needC)} {es : List Ent} (h : DK W N nv nL tv es) (hg : W.grownBy W' (some b)) (hb : b < N) : DK W' N nv nL tv es := h.frame (fun k h1 h2 => hg.block k h2 (by intro e; injection e; omega))
theorem slice_of_needs {W : World} {N : Nat} {v : Value} {L : List (It needC)} (h : NRow needC 36 W N v L) : ∃ a n c, v = .slice a n c := by obtain ⟨a, c, e⟩ := nrow_slice h; exact ⟨_, _, _, e⟩
theorem slice_of_tree {W : World} {N : Nat} {v : Value} {es : List Ent} (h : NRow entryC 57 W N v (entIts es)) : ∃ a c, v = .slice a es.length c := by
  obtain ⟨a, c, e⟩ := nrow_slice h
  rw [entIts_len] at e
  exact ⟨a, c, e⟩
theorem DK.set {W : World} {N g j : Nat} {u nv tv : Value} {nL : List (It needC)} {es : List Ent} (h : DK W N nv nL tv es) (hg : ∀ k, (nv.ownBlock = some k ∨ tv.ownBlock = some k) → k ≠ g) : DK (W.setCell ⟨g, j, none⟩ u) N nv nL tv es :=
  ⟨h.needs.frame (fun k hk => Below.heap_setCell _ _ _ _ (by rcases hk with hk | hk; exact hg k (.inl hk); rw [h.leaf] at hk; cases hk)), h.tree.frame (fun k hk => Below.heap_setCell _ _ _ _ (by rcases hk with hk | hk; exact hg k (.inr hk); rw [entIts_F] at hk; cases hk)), h.leaf, h.apart⟩
theorem leaf_app {W : World} {N : Nat} {A B : List (It needC)} (ha : Items needC W N A) (hb : Items needC W N B) (h1 : itF A = []) (h2 : itF B = []) : Items needC W N (A ++ B) :=
  ⟨fun t ht => by
    rcases List.mem_append.1 ht with ht | ht
    · exact ha.each t ht
    · exact hb.each t ht, by rw [itF_app, h1, h2]; exact List.nodup_nil, fun k hk => by rw [itF_app, h1, h2] at hk; cases hk⟩
set_option maxRecDepth 100000 in
set_option maxHeartbeats 16000000 in
theorem l11AnyPack_any (w : World) (b : Nat) (a : Option Addr) (len cap p : Nat) (h : Rd w b a len cap p) (hp : p ≤ 400000) :
    Calls Tryz.prog 95 #[.pointer (some ⟨b, 0, none⟩)] w fun x w' => ∃ name ver nv nL tv es, x = .returned (.agg #[.string name, .string ver, nv, tv]) ∧ drawn name ∧ DQ w b a len cap (p + 200) w' ver nv nL tv es := by
  have hbl := h.lt
  have H := hid (h.alloc (.cells #[.string ⟨#[]⟩, .string ⟨#[]⟩, .slice none 0 0, .slice none 0 0] 34))
  have hR0 := World.alloc_heap_new w (.cells #[.string ⟨#[]⟩, .string ⟨#[]⟩, .slice none 0 0, .slice none 0 0] 34)
  have hG0 : w.grownBy (w.alloc (.cells #[.string ⟨#[]⟩, .string ⟨#[]⟩, .slice none 0 0, .slice none 0 0] 34)) (some b) := World.grownBy_alloc w _ (some b)
  have hS0 : (w.alloc (.cells #[.string ⟨#[]⟩, .string ⟨#[]⟩, .slice none 0 0, .slice none 0 0] 34)).heap.size = w.heap.size + 1 := by simp
  clear h
  go_enter Tryz.func95, Tryz.ntmps95
  go_wp2_with fail
  generalize w.alloc (.cells #[.string ⟨#[]⟩, .string ⟨#[]⟩, .slice none 0 0, .slice none 0 0] 34) = w0 at H hR0 hG0 hS0 ⊢
  refine (of_any drawn _ b a len cap p ((unhid H).alloc _) (by omega) (w.heap.size + 1) 4 4 (by omega) (by omega) (by omega) ?h5).mono ?_
  case h5 => exact fun k hk => row_drawn _ _ _ _ hS0.symm (by kernel_rfl) k hk
  rintro e w1 ⟨name, hname, rfl, hR1, hG⟩
  have hG01 := grown_trans (World.grownBy_alloc w0 _ (some b)) hG
  have hRb1 := (hG01.block _ (by omega) (by intro e; injection e; omega)).trans hR0
  have hS1 : w.heap.size + 1 ≤ w1.heap.size := by have := hG01.size; omega
  have hG1 := grown_trans hG0 hG01
  clear hR0 hG0 hS0 hG hG01 H
  go_wp2_with fail
  refine (l11Pack_any w1 b a len cap (p + 1) name hR1 (by omega)).mono ?_
  rintro x w2 ⟨ver, nv, nL, tv, ts, rfl, hQ, hL1⟩
  obtain ⟨na, nn, nc, rfl⟩ := slice_of_needs hQ.k.needs
  obtain ⟨ta, tc, rfl⟩ := slice_of_tree hQ.k.tree
  obtain ⟨p2, hp2, hR2⟩ := hQ.rd
  have hRb2 := (hQ.grown.block _ (by omega) (by intro e; injection e; omega)).trans hRb1
  have hS2 := Nat.le_trans hS1 hQ.grown.size
  have hG2 := grown_trans hG1 hQ.grown
  have hK2 : DK w2 (w.heap.size + 1) (.slice na nn nc) nL (.slice ta ts.length tc) ts := hQ.k.lower (by omega)
  have HQ := hid (And.intro hQ.ver (And.intro hQ.nice (And.intro hQ.few (And.intro hQ.sn hQ.ln))))
  clear hQ hRb1 hS1 hG1 hR1
  have hP2 := World.alloc_heap_new w2 (.cells #[.string name, .string ver, .slice na nn nc, .slice ta ts.length tc] 34)
  have hG3 : w2.grownBy (w2.alloc (.cells #[.string name, .string ver, .slice na nn nc, .slice ta ts.length tc] 34)) (some b) := World.grownBy_alloc w2 _ (some b)
  have hR3 := hR2.alloc (.cells #[.string name, .string ver, .slice na nn nc, .slice ta ts.length tc] 34)
  have hz3 : w2.heap.size + 1 ≤ (w2.alloc (.cells #[.string name, .string ver, .slice na nn nc, .slice ta ts.length tc] 34)).heap.size := by simp
  have hKB := hid (fun g (e : (Value.slice na nn nc).ownBlock = some g ∨ (Value.slice ta ts.length tc).ownBlock = some g) => (show w.heap.size + 1 ≤ g ∧ g < w2.heap.size from by rcases e with e | e; exact hK2.needs.base g (.inl e); exact hK2.tree.base g (.inl e)))
  go_wp2_with fail
  generalize w2.alloc (.cells #[.string name, .string ver, .slice na nn nc, .slice ta ts.length tc] 34) = w3 at hP2 hG3 hR3 hz3 ⊢
  refine (pick_any w3 b a len cap p2 hR3 (by omega) 14 (by omega) (by omega)).mono ?_
  rintro e w4 ⟨m, hm, rfl, hR4, hG4⟩
  have hG24 := grown_trans hG3 hG4
  have hP4 := (hG4.block w2.heap.size (by omega) (by intro e; injection e; omega)).trans hP2
  have hRb4 := (hG24.block _ (by omega) (by intro e; injection e; omega)).trans hRb2
  have hz4 : w2.heap.size + 1 ≤ w4.heap.size := Nat.le_trans hz3 hG4.size
  have hG := grown_trans hG2 hG24
  have hK4 := hK2.grown hG24 (by omega)
  clear hP2 hG3 hR3 hz3 hG4 hG24 hG2 hRb2 hR2 hK2
  have hne : ¬ w2.heap.size = w.heap.size := by omega
  have hne2 : ¬ w.heap.size = w2.heap.size := by omega
  have HN := hid hname
  by_cases h0 : m = 0
  · subst h0
    go_wp2_with fail
    refine (of_any drawn _ b a len cap (p2 + 1) (hR4.alloc _) (by omega) w4.heap.size 2 2 (by have := hR4.lt; omega) (by omega) (by omega) ?h6).mono ?_
    case h6 => exact fun k hk => row_drawn _ _ _ _ rfl (by kernel_rfl) k hk
    rintro e w5 ⟨name2, hn2, rfl, hR5, hG5⟩
    have hG45 := grown_trans (World.grownBy_alloc w4 _ (some b)) hG5
    have HN := hid hn2
    have hP5 := (hG45.block w2.heap.size (by omega) (by intro e; injection e; omega)).trans hP4
    have hRb5 := (hG45.block w.heap.size (by omega) (by intro e; injection e; omega)).trans hRb4
    have hK5 := hK4.grown hG45 (by omega)
    have hGw5 := grown_trans hG hG45
    have hz5 := Nat.le_trans hz4 hG45.size
    have hPB := heap_setCell_same w5 w2.heap.size 0 _ _ (.string name2) hP5
    have hRbB := (Below.heap_setCell w5 ⟨w2.heap.size, 0, none⟩ (.string name2) w.heap.size (by dsimp only; omega)).trans hRb5
    have hBw : Below w2.heap.size w5 (w5.setCell ⟨w2.heap.size, 0, none⟩ (.string name2)) := (Below.refl _ w5).setCell (p := ⟨w2.heap.size, 0, none⟩) (Nat.le_refl _) _
    have HF := hid (dq_end (q := p + 200) (.string name2) (.string ver) (.slice na nn nc) (.slice ta ts.length tc) hbl (unhid HQ).1 (hK5.set (fun k hk => by have := (unhid hKB k hk).2; omega)) (unhid HQ).2.1 (unhid HQ).2.2.1 (unhid HQ).2.2.2.1 (unhid HQ).2.2.2.2 (Rd.low hR5 hBw (by omega)) (by omega) (grown_low hGw5 (hBw.mono (by omega))))
    obtain ⟨d0, g0⟩ := cell_fz hP5 0 _ rfl
    obtain ⟨c0, f0⟩ := cell_fz hPB 0 _ rfl
    obtain ⟨o0, r0⟩ := cell_fz hRbB 0 _ rfl
    obtain ⟨c1, f1⟩ := cell_fz hPB 1 _ rfl
    obtain ⟨o1, r1⟩ := cell_fz hRbB 1 _ rfl
    obtain ⟨c2, f2⟩ := cell_fz hPB 2 _ rfl
    obtain ⟨o2, r2⟩ := cell_fz hRbB 2 _ rfl
    obtain ⟨c3, f3⟩ := cell_fz hPB 3 _ rfl
    obtain ⟨o3, r3⟩ := cell_fz hRbB 3 _ rfl
    clear hPB hRbB hP5 hRb5 hK5 hGw5 hBw hP4 hRb4 hK4 hG hG45 hR4 hR5
    go_wp2_with fail
    exact bodyPost_ret (v := .agg #[.string name2, .string ver, .slice na nn nc, .slice ta ts.length tc]) (by simp [results, Tryz.results95, go_sem, World.cell?_setCell_same', o0, o1, o2, o3]) rfl ⟨name2, ver, _, _, _, ts, rfl, unhid HN, unhid HF⟩
  · have e0 : ((m : Int) == 0) = false := by rw [beq_eq_false_iff_ne]; omega
    have e0i : ¬ ((m : Int) = 0) := by omega
    by_cases h1 : m = 1
    · subst h1
      go_wp2_with fail
      refine (l11AnyVersion_any w4 b a len cap (p2 + 1) hR4 (by omega)).mono ?_
      rintro e w5 ⟨ver2, hv2, rfl, hR5, hG45⟩
      have hP5 := (hG45.block w2.heap.size (by omega) (by intro e; injection e; omega)).trans hP4
      have hRb5 := (hG45.block w.heap.size (by omega) (by intro e; injection e; omega)).trans hRb4
      have hK5 := hK4.grown hG45 (by omega)
      have hGw5 := grown_trans hG hG45
      have hz5 := Nat.le_trans hz4 hG45.size
      have hPB := heap_setCell_same w5 w2.heap.size 1 _ _ (.string ver2) hP5
      have hRbB := (Below.heap_setCell w5 ⟨w2.heap.size, 1, none⟩ (.string ver2) w.heap.size (by dsimp only; omega)).trans hRb5
      have hBw : Below w2.heap.size w5 (w5.setCell ⟨w2.heap.size, 1, none⟩ (.string ver2)) := (Below.refl _ w5).setCell (p := ⟨w2.heap.size, 1, none⟩) (Nat.le_refl _) _
      have HF := hid (dq_end (q := p + 200) (.string name) (.string ver2) (.slice na nn nc) (.slice ta ts.length tc) hbl hv2 (hK5.set (fun k hk => by have := (unhid hKB k hk).2; omega)) (unhid HQ).2.1 (unhid HQ).2.2.1 (unhid HQ).2.2.2.1 (unhid HQ).2.2.2.2 (Rd.low hR5 hBw (by omega)) (by omega) (grown_low hGw5 (hBw.mono (by omega))))
      obtain ⟨d0, g0⟩ := cell_fz hP5 1 _ rfl
      obtain ⟨c0, f0⟩ := cell_fz hPB 0 _ rfl
      obtain ⟨o0, r0⟩ := cell_fz hRbB 0 _ rfl
      obtain ⟨c1, f1⟩ := cell_fz hPB 1 _ rfl
      obtain ⟨o1, r1⟩ := cell_fz hRbB 1 _ rfl
      obtain ⟨c2, f2⟩ := cell_fz hPB 2 _ rfl
      obtain ⟨o2, r2⟩ := cell_fz hRbB 2 _ rfl
      obtain ⟨c3, f3⟩ := cell_fz hPB 3 _ rfl
      obtain ⟨o3, r3⟩ := cell_fz hRbB 3 _ rfl
      clear hPB hRbB hP5 hRb5 hK5 hGw5 hBw hP4 hRb4 hK4 hG hG45 hR4 hR5
      go_wp2_with fail
      exact bodyPost_ret (v := .agg #[.string name, .string ver2, .slice na nn nc, .slice ta ts.length tc]) (by simp [results, Tryz.results95, go_sem, World.cell?_setCell_same', o0, o1, o2, o3]) rfl ⟨name, ver2, _, _, _, ts, rfl, unhid HN, unhid HF⟩
    · have e1 : ((m : Int) == 1) = false := by rw [beq_eq_false_iff_ne]; omega
      have e1i : ¬ ((m : Int) = 1) := by omega
      by_cases h2 : m = 2
      · subst h2
        have hC0 : (fun w' : World => w'.heap[w2.heap.size]? = some (.cells #[.string name, .string ver, .slice na nn nc, .slice ta ts.length tc] 34 (0, 0))) w4.drew := hP4
        have gp2 : ∀ x : CW (fun w' : World => w'.heap[w2.heap.size]? = some (.cells #[.string name, .string ver, .slice na nn nc, .slice ta ts.length tc] 34 (0, 0))), x.w.cell? ⟨w2.heap.size, 2, none⟩ = some (.slice na nn nc) := fun x => cell_arrS x.h 2 _ rfl
        have hba : ∀ {q : Prop}, (CW (fun w' : World => w'.heap[w2.heap.size]? = some (.cells #[.string name, .string ver, .slice na nn nc, .slice ta ts.length tc] 34 (0, 0))) → q) ↔ q := CW.all hC0
        go_wp2_with fail
        refine heldE_begin 9 (fun w' : World => w'.heap[w2.heap.size]? = some (.cells #[.string name, .string ver, .slice na nn nc, .slice ta ts.length tc] 34 (0, 0))) (by kernel_rfl) ?_
        refine heldE_here [true, true, true, false, true] (by kernel_rfl) (by kernel_rfl) (fun _ _ _ _ _ h => h) hC0 ?_
        dsimp only [pick]
        repeat (go_big_quiet_step (fail))
        refine wpQuiet_nil ?_
        have hR5 := hR4.of_below (drew_belowS (B := w4.heap.size) w4)
        have hK5 : DK w4.drew (w.heap.size + 1) (.slice na nn nc) nL (.slice ta ts.length tc) ts := hK4.frame (fun k _ _ => rfl)
        have hG5 : w.grownBy w4.drew (some b) := grown_low hG (drew_belowS _)
        have hRb5 : w4.drew.heap[w.heap.size]? = some (.cells #[.string ⟨#[]⟩, .string ⟨#[]⟩, .slice none 0 0, .slice none 0 0] 34 (0, 0)) := hRb4
        have hz5 : w2.heap.size + 1 ≤ w4.drew.heap.size := hz4
        clear hba gp2 hR4 hK4 hG hRb4 hz4 hP4
        generalize w4.drew = w5 at *
        refine heldE_op 3 (by kernel_rfl) (by kernel_rfl) rfl (fun K hK => ?_)
        refine call_op 156 27 (enters_of Tryz.func156 (by kernel_rfl) rfl) #[.pointer (some ⟨b, 0, none⟩)] rfl rfl rfl rfl ?_
        refine (l11AnyNeed_any w5 b a len cap _ hR5 (by omega)).mono ?_
        rintro e w6 ⟨nx, nv1, nk, hnx, hnv, rfl, ⟨p6, hp6, hR6⟩, hG56⟩
        have hP6 := (hG56.block w2.heap.size (by omega) (by intro e; injection e; omega)).trans hC0
        have hRb6 := (hG56.block w.heap.size (by omega) (by intro e; injection e; omega)).trans hRb5
        have hK6 := hK5.grown hG56 (by omega)
        have hG6 := grown_trans hG5 hG56
        have hz6 := Nat.le_trans hz5 hG56.size
        refine ⟨_, rfl, hK.out _ _ hP6 ?_⟩
        simp only [Act.put, List.setIfInBounds_toArray, List.set_cons_zero, List.set_cons_succ]
        clear hK K hC0 hR5 hK5 hG5 hRb5 hz5 hG56
        refine heldE_op 5 (by kernel_rfl) (by kernel_rfl) rfl (fun K hK => ?_)
        refine call_op 157 29 (enters_of Tryz.func157 (by kernel_rfl) rfl) #[.pointer (some ⟨b, 0, none⟩)] rfl rfl rfl rfl ?_
        refine (l11Need_any w6 b a len cap _ hR6 (by omega)).mono ?_
        rintro e w7 ⟨mx, mv1, mk, hmx, hmv, rfl, ⟨p7, hp7, hR7⟩, hG67⟩
        have hP7 := (hG67.block w2.heap.size (by omega) (by intro e; injection e; omega)).trans hP6
        have hRb7 := (hG67.block w.heap.size (by omega) (by intro e; injection e; omega)).trans hRb6
        have hK7 := hK6.grown hG67 (by omega)
        have hG7 := grown_trans hG6 hG67
        have hz7 := Nat.le_trans hz6 hG67.size
        refine ⟨_, rfl, hK.out _ _ hP7 ?_⟩
        simp only [Act.put, List.setIfInBounds_toArray, List.set_cons_zero, List.set_cons_succ]
        clear hK K hP6 hR6 hK6 hG6 hRb6 hz6 hG67
        refine heldE_op 6 (by kernel_rfl) (by kernel_rfl) rfl (fun K hK => ?_)
        go_simp
        have hN8 := World.alloc_heap_new w7 (.cells #[.string nx, .int .i64 nk, .string nv1, .string mx, .int .i64 mk, .string mv1] 36)
        have hG78 : w7.grownBy (w7.alloc (.cells #[.string nx, .int .i64 nk, .string nv1, .string mx, .int .i64 mk, .string mv1] 36)) (some b) := World.grownBy_alloc w7 _ (some b)
        have hR8 := hR7.alloc (.cells #[.string nx, .int .i64 nk, .string nv1, .string mx, .int .i64 mk, .string mv1] 36)
        have hz8' : w7.heap.size + 1 ≤ (w7.alloc (.cells #[.string nx, .int .i64 nk, .string nv1, .string mx, .int .i64 mk, .string mv1] 36)).heap.size := by simp
        have hP8 := (hG78.block w2.heap.size (by omega) (by intro e; injection e; omega)).trans hP7
        refine hK.out _ _ hP8 ?_
        clear hK K
        generalize w7.alloc (.cells #[.string nx, .int .i64 nk, .string nv1, .string mx, .int .i64 mk, .string mv1] 36) = w8 at hN8 hG78 hR8 hz8' hP8 ⊢
        have hRb8 := (hG78.block w.heap.size (by omega) (by intro e; injection e; omega)).trans hRb7
        have hK8 := hK7.grown hG78 (by omega)
        have hG8 := grown_trans hG7 hG78
        have hz8 := Nat.le_trans hz7 hG78.size
        have hI2 : Items needC w8 (w.heap.size + 1) [(([.string nx, .int .i64 nk, .string nv1], (⟨nx, nk, nv1⟩ : NeedD), []) : It needC), (([.string mx, .int .i64 mk, .string mv1], (⟨mx, mk, mv1⟩ : NeedD), []) : It needC)] := leaf_app (A := [_]) (B := [_]) (need_items w8 _ nx nv1 nk) (need_items w8 _ mx mv1 mk) (by simp [itF]) (by simp [itF])
        have hI3 := leaf_app hK8.needs.items hI2 hK8.leaf (by simp [itF])
        have hln := hL1
        refine heldE_op 7 (by kernel_rfl) (by kernel_rfl) rfl (fun K hK => ?_)
        refine op_items etNeed oneNeed w8 31 _ _ rfl rfl rfl (w.heap.size + 1) (.slice na nn nc) nL [(([.string nx, .int .i64 nk, .string nv1], (⟨nx, nk, nv1⟩ : NeedD), []) : It needC), (([.string mx, .int .i64 mk, .string mv1], (⟨mx, mk, mv1⟩ : NeedD), []) : It needC)] w7.heap.size 0 2 hK8.needs hI3 (fun g _ hk => by simp [itF] at hk) (fun j u hj => by rw [Nat.zero_add]; exact cell_arrS hN8 _ _ (by simpa [itCells] using hj)) (by simp; omega) (by omega) rfl (by simp [Act.eval]) ?_
        intro nw wA hgr
        have hgA : w8.grownBy wA (Value.slice na nn nc).ownBlock := hgr.by_
        have hBA : Below (w.heap.size + 1) w8 wA := ⟨hgA.os, hgA.tape, hgA.output, hgA.size, fun k hk => hgA.block k (by omega) (fun e => by have := (hK8.needs.base k (.inl e.symm)).1; omega)⟩
        have hPA := (hgA.block w2.heap.size (by omega) (fun e => by have := (unhid hKB _ (.inl e.symm)).2; omega)).trans hP8
        have hRbA := (hBA.block w.heap.size (by omega)).trans hRb8
        refine hK.out _ _ hPA ?_
        simp only [Act.put, List.setIfInBounds_toArray, List.set_cons_zero, List.set_cons_succ]
        clear hK K
        have hba : ∀ {q : Prop}, (CW (fun w' : World => w'.heap[w2.heap.size]? = some (.cells #[.string name, .string ver, .slice na nn nc, .slice ta ts.length tc] 34 (0, 0))) → q) ↔ q := CW.all hPA
        refine heldE_here [false, false, false, false, false, false, false, false, true] (by kernel_rfl) (by kernel_rfl) (fun _ _ _ _ _ h => h) hPA ?_
        dsimp only [pick]
        repeat (go_big_quiet_step (fail))
        refine wpQuiet_nil ?_
        clear hba
        obtain ⟨na2, nn2, nc2, rfl⟩ : ∃ a n c, nw = .slice a n c := by obtain ⟨a, c, e⟩ := grew_slice hgr; exact ⟨_, _, _, e⟩
        have hTA : NRow entryC 57 wA (w.heap.size + 1) (.slice ta ts.length tc) (entIts ts) := hK8.tree.frame (fun k hk => hgA.block k (hK8.tree.base k hk).2 (fun e => by
          rcases hk with hk | hk
          · exact hK8.apart k e.symm hk
          · rw [entIts_F] at hk; cases hk))
        have hblk : ∀ g, (Value.slice na2 nn2 nc2).ownBlock = some g → (Value.slice na nn nc).ownBlock = some g ∨ g = w8.heap.size := fun g e => by
          rcases hgr.block with h | h
          · exact .inl (by rw [← h]; exact e)
          · rw [h] at e; injection e with e; exact .inr e.symm
        have hKA : DK wA (w.heap.size + 1) (.slice na2 nn2 nc2) (nL ++ [(([.string nx, .int .i64 nk, .string nv1], (⟨nx, nk, nv1⟩ : NeedD), []) : It needC), (([.string mx, .int .i64 mk, .string mv1], (⟨mx, mk, mv1⟩ : NeedD), []) : It needC)]) (.slice ta ts.length tc) ts := ⟨hgr.row, hTA, by rw [itF_app, hK8.leaf]; simp [itF], fun g e1 e2 => by
          rcases hblk g e1 with h | h
          · exact hK8.apart g h e2
          · have := (unhid hKB g (.inr e2)).2; omega⟩
        have hRA := Rd.low hR8 hBA (by omega)
        have hGA := grown_low hG8 (hBA.mono (by omega))
        have hzA := hgA.size
        obtain ⟨c2, f2⟩ := cell_fz hPA 2 _ rfl
        have hBw : Below w2.heap.size wA (wA.setCell ⟨w2.heap.size, 2, none⟩ (.slice na2 nn2 nc2)) := (Below.refl _ wA).setCell (p := ⟨w2.heap.size, 2, none⟩) (Nat.le_refl _) _
        have HF := hid (dq_end (q := p + 200) (.string name) (.string ver) (.slice na2 nn2 nc2) (.slice ta ts.length tc) hbl (unhid HQ).1 (hKA.set (g := w2.heap.size) (j := 2) (u := .slice na2 nn2 nc2) (fun k hk => by
          rcases hk with hk | hk
          · rcases hblk k hk with h | h
            · have := (unhid hKB k (.inl h)).2; omega
            · omega
          · have := (unhid hKB k (.inr hk)).2; omega)) (unhid HQ).2.1 (unhid HQ).2.2.1 (fun n hn => by
            rw [itD_app] at hn
            rcases List.mem_append.1 hn with hn | hn
            · exact (unhid HQ).2.2.2.1 n hn
            · rcases List.mem_cons.1 (show n ∈ [(⟨nx, nk, nv1⟩ : NeedD), (⟨mx, mk, mv1⟩ : NeedD)] from hn) with hn | hn
              · rw [hn]; exact ⟨hnx, hnv⟩
              · rw [List.mem_singleton.1 hn]; exact ⟨hmx, hmv⟩) (by simp; omega) (Rd.low hRA hBw (by omega)) (by omega) (grown_low hGA (hBw.mono (by omega))))
        have hPB := hid (heap_setCell_same wA w2.heap.size 2 _ _ (.slice na2 nn2 nc2) hPA)
        have hRbB := hid ((Below.heap_setCell wA ⟨w2.heap.size, 2, none⟩ (.slice na2 nn2 nc2) w.heap.size (by dsimp only; omega)).trans hRbA)
        refine heldE_last (by kernel_rfl) (by kernel_rfl) rfl (fun K hK => ?_)
        go_simp
        refine hK.out _ _ ?_
        clear hK K c2 f2
        refine heldE_done (by kernel_rfl) ?_
        generalize wA.setCell ⟨w2.heap.size, 2, none⟩ (.slice na2 nn2 nc2) = wB at *
        obtain ⟨c0, f0⟩ := cell_fz (unhid hPB) 0 _ rfl
        obtain ⟨c1, f1⟩ := cell_fz (unhid hPB) 1 _ rfl
        obtain ⟨c2, f2⟩ := cell_fz (unhid hPB) 2 _ rfl
        obtain ⟨c3, f3⟩ := cell_fz (unhid hPB) 3 _ rfl
        obtain ⟨o0, r0⟩ := cell_fz (unhid hRbB) 0 _ rfl
        obtain ⟨o1, r1⟩ := cell_fz (unhid hRbB) 1 _ rfl
        obtain ⟨o2, r2⟩ := cell_fz (unhid hRbB) 2 _ rfl
        obtain ⟨o3, r3⟩ := cell_fz (unhid hRbB) 3 _ rfl
        clear hPB hRbB hPA hRbA hKA hTA hblk hBA hgA hgr hRA hGA hBw hP8 hRb8 hK8 hG8 hI2 hI3 hN8 hG78 hR8 hP7 hRb7 hK7 hG7 hR7
        go_wp2_with fail
        exact bodyPost_ret (v := .agg #[.string name, .string ver, .slice na2 nn2 nc2, .slice ta ts.length tc]) (by simp [results, Tryz.results95, go_sem, World.cell?_setCell_same', o0, o1, o2, o3]) rfl ⟨name, ver, _, _, _, ts, rfl, unhid HN, unhid HF⟩
      · have e2 : ((m : Int) == 2) = false := by rw [beq_eq_false_iff_ne]; omega
        have e2i : ¬ ((m : Int) = 2) := by omega
        by_cases h3 : m = 3
        · subst h3
          go_wp2_with fail
          refine (l11AnyTree_any w4 b a len cap (p2 + 1) hR4 (by omega)).mono ?_
          rintro x w5 ⟨tv2, rfl, es2, hT⟩
          have hG45 := hT.grown
          obtain ⟨p5, hp5, hR5⟩ := hT.rd
          obtain ⟨g2, k2, rfl, ho2⟩ := hT.v
          have hT2 : NRow entryC 57 w5 w4.heap.size (.slice (some ⟨g2, 0, none⟩) es2.length k2) (entIts es2) := ents_nrow ho2
          have hTB := fun g (e : (Value.slice (some ⟨g2, 0, none⟩) es2.length k2).ownBlock = some g) => (hT2.base g (.inl e)).1
          have HT3 := hid (And.intro hT.nice hT.few)
          clear hT ho2
          have hP5 := (hG45.block w2.heap.size (by omega) (by intro e; injection e; omega)).trans hP4
          have hRb5 := (hG45.block w.heap.size (by omega) (by intro e; injection e; omega)).trans hRb4
          have hK5 := hK4.grown hG45 (by omega)
          have hGw5 := grown_trans hG hG45
          have hz5 := Nat.le_trans hz4 hG45.size
          have hPB := heap_setCell_same w5 w2.heap.size 3 _ _ (.slice (some ⟨g2, 0, none⟩) es2.length k2) hP5
          have hRbB := (Below.heap_setCell w5 ⟨w2.heap.size, 3, none⟩ (.slice (some ⟨g2, 0, none⟩) es2.length k2) w.heap.size (by dsimp only; omega)).trans hRb5
          have hBw : Below w2.heap.size w5 (w5.setCell ⟨w2.heap.size, 3, none⟩ (.slice (some ⟨g2, 0, none⟩) es2.length k2)) := (Below.refl _ w5).setCell (p := ⟨w2.heap.size, 3, none⟩) (Nat.le_refl _) _
          have HF := hid (dq_end (q := p + 200) (.string name) (.string ver) (.slice na nn nc) (.slice (some ⟨g2, 0, none⟩) es2.length k2) hbl (unhid HQ).1 ((⟨hK5.needs, NRow.lower hT2 (by omega), hK5.leaf, fun g e1 e2 => by have h1 := (unhid hKB g (.inl e1)).2; have h2 := hTB g e2; omega⟩ : DK w5 (w.heap.size + 1) (.slice na nn nc) nL (.slice (some ⟨g2, 0, none⟩) es2.length k2) es2).set (fun k hk => by rcases hk with hk | hk; have := (unhid hKB k (.inl hk)).2; omega; have := hTB k hk; omega)) (unhid HT3).1 (unhid HT3).2 (unhid HQ).2.2.2.1 (unhid HQ).2.2.2.2 (Rd.low hR5 hBw (by omega)) (by omega) (grown_low hGw5 (hBw.mono (by omega))))
          obtain ⟨d0, g0⟩ := cell_fz hP5 3 _ rfl
          obtain ⟨c0, f0⟩ := cell_fz hPB 0 _ rfl
          obtain ⟨o0, r0⟩ := cell_fz hRbB 0 _ rfl
          obtain ⟨c1, f1⟩ := cell_fz hPB 1 _ rfl
          obtain ⟨o1, r1⟩ := cell_fz hRbB 1 _ rfl
          obtain ⟨c2, f2⟩ := cell_fz hPB 2 _ rfl
          obtain ⟨o2, r2⟩ := cell_fz hRbB 2 _ rfl
          obtain ⟨c3, f3⟩ := cell_fz hPB 3 _ rfl
          obtain ⟨o3, r3⟩ := cell_fz hRbB 3 _ rfl
          clear hT2 hTB hPB hRbB hP5 hRb5 hK5 hGw5 hBw hP4 hRb4 hK4 hG hG45 hR4 hR5
          go_wp2_with fail
          exact bodyPost_ret (v := .agg #[.string name, .string ver, .slice na nn nc, .slice (some ⟨g2, 0, none⟩) es2.length k2]) (by simp [results, Tryz.results95, go_sem, World.cell?_setCell_same', o0, o1, o2, o3]) rfl ⟨name, ver, _, _, _, es2, rfl, unhid HN, unhid HF⟩
        · have e3 : ((m : Int) == 3) = false := by rw [beq_eq_false_iff_ne]; omega
          have e3i : ¬ ((m : Int) = 3) := by omega
          have hPB := hP4
          have hRbB := hRb4
          have HF := hid (dq_end (q := p + 200) (.string name) (.string ver) (.slice na nn nc) (.slice ta ts.length tc) hbl (unhid HQ).1 hK4 (unhid HQ).2.1 (unhid HQ).2.2.1 (unhid HQ).2.2.2.1 (unhid HQ).2.2.2.2 hR4 (by omega) hG)
          obtain ⟨c0, f0⟩ := cell_fz hPB 0 _ rfl
          obtain ⟨c1, f1⟩ := cell_fz hPB 1 _ rfl
          obtain ⟨c2, f2⟩ := cell_fz hPB 2 _ rfl
          obtain ⟨c3, f3⟩ := cell_fz hPB 3 _ rfl
          obtain ⟨o0, r0⟩ := cell_fz hRbB 0 _ rfl
          obtain ⟨o1, r1⟩ := cell_fz hRbB 1 _ rfl
          obtain ⟨o2, r2⟩ := cell_fz hRbB 2 _ rfl
          obtain ⟨o3, r3⟩ := cell_fz hRbB 3 _ rfl
          clear hPB hRbB hP4 hRb4 hR4 hG hK4
          go_wp2_with fail
          exact bodyPost_ret (v := .agg #[.string name, .string ver, .slice na nn nc, .slice ta ts.length tc]) (by simp [results, Tryz.results95, go_sem, World.cell?_setCell_same', o0, o1, o2, o3]) rfl ⟨name, ver, _, nL, _, ts, rfl, unhid HN, unhid HF⟩
end Go.Proofs.YtoihhlkidlapmaaGreat
