/- Texts of this proof, one behind the other; each says at its head what it shows. -/
import Derived.Test.YtfphpggjcljliaaGreatJoin9
import Derived.Test.YtfphpggjcljliaaGreatJoin5
import Derived.Test.YtfphpggjcljliaaGreatJoin6
/- A part of a tree, by the model. -/
namespace Go.Proofs.YtfphpggjcljliaaGreat
open Go.RowKit Go.Shelf

set_option maxRecDepth 100000 in
set_option maxHeartbeats 4000000 in
theorem l2Needed_any (es : List Ent) (g d : ByteArray) (a : Option Addr) (cap : Nat) (w : World) (hs : smallE es) (hg : g.size ≤ 1048576) (hd : d.size ≤ 1048576) (h : EntsAt w a es) :
    Calls Tryz.prog 23 #[.slice a es.length cap, .string g, .string d] w fun x w' => x = .returned (.bool (neededB g es d)) ∧ Below w.heap.size w w' := by
  have hn := hs.1
  have HS := hid hs
  have HH := hid h
  clear hs h
  go_enter Tryz.func23, Tryz.ntmps23
  go_wp2_with fail
  go_loopw [7] (fun i wr => ∃ k : Nat, k ≤ es.length ∧ i = .int .i64 (k : Int) ∧ Hid (neededB g (es.take k) d = false) ∧ Hid (Below w.heap.size w wr)) (fun i _ => es.length - (intOf i).toNat)
  case atStart => exact ⟨0, Nat.zero_le _, rfl, hid rfl, hid (Below.refl _ _)⟩
  case round =>
    obtain ⟨k, hk, rfl, HNO, HB⟩ := hrel
    by_cases hlt : k < es.length
    · obtain ⟨e, he⟩ : ∃ e, es[k]? = some e := ⟨es[k], List.getElem?_eq_getElem hlt⟩
      obtain ⟨bb, o, rfl, hbl, hc⟩ := (unhid HH).get (by intro e0; subst e0; simp at hlt)
      have c0 := ((hc k e he).below (unhid HB) hbl).c0
      have hpe := ((unhid HS).2 e (List.mem_of_getElem? he)).1
      have HST := hid (show neededB g (es.take (k + 1)) d = (neededB g (es.take k) d || (belowB d.data.toList e.path.data.toList && takenB g e)) by unfold neededB; rw [List.take_add_one, he, List.any_append]; simp)
      have HY := hid (show (belowB d.data.toList e.path.data.toList && takenB g e) = true → neededB g es d = true from fun h => List.any_eq_true.2 ⟨e, List.mem_of_getElem? he, h⟩)
      clear he hc
      cases hb : belowB d.data.toList e.path.data.toList
      · rw [hb] at HST
        go_wp2_with fail
        refine (l1Below_any d e.path (by unfold maxLen; omega) (by unfold maxLen; omega) _).mono ?_
        rintro x w2 ⟨rfl, e2⟩
        subst e2
        rw [hb]
        go_wp2_with fail
        go_roundw
        case rel => exact ⟨k + 1, by omega, by go_num, hid (by rw [unhid HST, unhid HNO]; rfl), HB⟩
        case measure => simp [intOf]; omega
      · rw [hb] at HST HY
        go_wp2_with fail
        refine (l1Below_any d e.path (by unfold maxLen; omega) (by unfold maxLen; omega) _).mono ?_
        rintro x w2 ⟨rfl, e2⟩
        subst e2
        rw [hb]
        go_wp2_with fail
        refine (specGlobHas_any g e.path hg hpe _).mono ?_
        rintro x w3 ⟨rfl, hb3⟩
        have HB3 := hid ((unhid HB).trans (hb3.mono (unhid HB).size))
        clear hb3 HB
        rw [show hasB g.data.toList e.path.data.toList = takenB g e from rfl]
        cases ht : takenB g e
        · rw [ht] at HST
          go_wp2_with fail
          go_roundw
          case rel => exact ⟨k + 1, by omega, by go_num, hid (by rw [unhid HST, unhid HNO]; rfl), HB3⟩
          case measure => simp [intOf]; omega
        · have E := hid (unhid HY (by rw [ht]; rfl))
          go_wp2_with fail
          go_ret
          exact ⟨by rw [unhid E]; rfl, unhid HB3⟩
    · have e : k = es.length := by omega
      subst e
      rw [List.take_of_length_le (Nat.le_refl _)] at HNO
      go_wp2_with fail
      go_ret
      exact ⟨by rw [unhid HNO]; rfl, unhid HB⟩

def keepB (g : ByteArray) (ks : List Ent) (e : Ent) : Bool := takenB g e || (e.kind == 1 && neededB g ks e.path)
def keptP (g : ByteArray) (ks : List Ent) (xs : List Ent) : List Ent := xs.filter (keepB g ks)
theorem keptP_yes {g : ByteArray} {ks es : List Ent} {k : Nat} {e : Ent} (he : es[k]? = some e) (h : keepB g ks e = true) : keptP g ks (es.take (k + 1)) = keptP g ks (es.take k) ++ [e] := by
  unfold keptP; rw [List.take_add_one, he, List.filter_append]; simp [h]
theorem keptP_no {g : ByteArray} {ks es : List Ent} {k : Nat} {e : Ent} (he : es[k]? = some e) (h : keepB g ks e = false) : keptP g ks (es.take (k + 1)) = keptP g ks (es.take k) := by
  unfold keptP; rw [List.take_add_one, he, List.filter_append]; simp [h]

set_option maxRecDepth 100000 in
set_option maxHeartbeats 4000000 in
theorem specTreePart_full (es : List Ent) (g : ByteArray) (b o cap : Nat) (w : World) (hs : smallE es) (hg : g.size ≤ 1048576) (h : ∀ (i : Nat) e, es[i]? = some e → EntAt w b (o + i * 4) e) (hb : b < w.heap.size) :
    Calls Tryz.prog 8 #[.slice (some ⟨b, o, none⟩) es.length cap, .string g] w fun x w' => ∃ v, x = .returned v ∧ w'.ownsRow w.heap.size 30 4 v (partR g es).length (valsOf (partR g es)) ∧ Below w.heap.size w w' ∧ SomeV v := by
  obtain ⟨i0, hi0, hz0, hzs, hzb⟩ := info_parts infoEntry
  have HI := hid (And.intro hi0 (And.intro hz0 (And.intro hzs hzb)))
  have hn := hs.1
  have HS := hid hs
  have HH := hid h
  have HF0 := hid (And.intro (owns_empty w w.heap.size (Nat.le_refl _) 30) ((Below.refl w.heap.size w).alloc (Nat.le_refl _) (.cells #[] 30)))
  clear hi0 hz0 hzs hzb hs h
  have atW : ∀ W, Below w.heap.size w W → EntsAt W (some ⟨b, o, none⟩) es := fun W hW => .inr ⟨b, o, rfl, Nat.lt_of_lt_of_le hb hW.size, entAt_below (unhid HH) (.inr hb) hW⟩
  have ATW := hid atW
  clear atW
  cases hT : treeB es
  · have E := hid (show partR g es = [] by unfold partR; rw [keptE_no hT]; rfl)
    by_cases h0 : es = []
    · subst h0
      go_enter Tryz.func8, Tryz.ntmps8
      go_wp2_with fail
      go_loopw [5, 6] (fun v i wr => i = .int .i64 0 ∧ v = .slice (some ⟨w.heap.size, 0, none⟩) 0 0 ∧ wr = w.alloc (.cells #[] 30)) (fun _ _ _ => 0)
      case atStart => exact ⟨rfl, rfl, rfl⟩
      case round =>
        obtain ⟨rfl, rfl, rfl⟩ := hrel
        go_wp2_with fail
        go_ret
        exact ⟨_, rfl, by rw [unhid E]; exact (unhid HF0).1, (unhid HF0).2, ⟨_, _, _, rfl⟩⟩
    · have hl0 : (0 : Int) < (es.length : Int) := by have := List.length_pos_iff.2 h0; omega
      clear h0
      go_enter Tryz.func8, Tryz.ntmps8
      go_wp2_with fail
      go_loopw [5, 6] (fun v i wr => i = .int .i64 0 ∧ v = .slice (some ⟨w.heap.size, 0, none⟩) 0 0 ∧ wr = w.alloc (.cells #[] 30)) (fun _ _ _ => 0)
      case atStart => exact ⟨rfl, rfl, rfl⟩
      case round =>
        obtain ⟨rfl, rfl, rfl⟩ := hrel
        go_wp2_with fail
        refine (specTreeOk_any es _ cap _ (unhid HS) (unhid ATW _ (unhid HF0).2)).mono ?_
        rintro x w2 ⟨rfl, hb2⟩
        rw [hT]
        have HF := hid (And.intro (ownsRow_kept (unhid HF0).1 (fun g e => hb2.block g ((unhid HF0).1.lt g e).2)) ((unhid HF0).2.trans (hb2.mono (unhid HF0).2.size)))
        clear hb2
        go_wp2_with fail
        go_ret
        exact ⟨_, rfl, by rw [unhid E]; exact (unhid HF).1, (unhid HF).2, ⟨_, _, _, rfl⟩⟩
  · have E := hid (show partR g es = keptP g es es by unfold partR; rw [keptE_yes hT]; rfl)
    have HT := hid hT
    clear hT
    go_enter Tryz.func8, Tryz.ntmps8
    go_wp2_with fail
    go_loopw [5, 6] (fun v i wr => ∃ k : Nat, k ≤ es.length ∧ i = .int .i64 (k : Int) ∧ Hid (wr.ownsRow w.heap.size 30 4 v (keptP g es (es.take k)).length (valsOf (keptP g es (es.take k)))) ∧ Hid (Below w.heap.size w wr) ∧ SomeV v) (fun _ i _ => es.length - (intOf i).toNat)
    case atStart => exact ⟨0, Nat.zero_le _, rfl, hid (by simp [keptP, valsOf]; exact (unhid HF0).1), hid (unhid HF0).2, ⟨_, _, _, rfl⟩⟩
    case round =>
      obtain ⟨k, hk, rfl, HO, HB, hsv⟩ := hrel
      obtain ⟨va, vc, rfl⟩ := ownsRow_slice (unhid HO)
      have HSV := hid hsv
      clear hsv
      by_cases hlt : k < es.length
      · obtain ⟨e, he⟩ : ∃ e, es[k]? = some e := ⟨es[k], List.getElem?_eq_getElem hlt⟩
        have hpe := ((unhid HS).2 e (List.mem_of_getElem? he)).1
        have hdl : (keptP g es (es.take k)).length ≤ es.length := Nat.le_trans (List.length_filter_le _ _) (by simp; omega)
        have HE := hid he
        have HY := hid (fun h => keptP_yes (g := g) (ks := es) he h)
        have HNO := hid (fun h => keptP_no (g := g) (ks := es) he h)
        clear he
        go_wp2_with fail
        refine (specTreeOk_any es _ cap _ (unhid HS) (unhid ATW _ (unhid HB))).mono ?_
        rintro x w2 ⟨rfl, hb2⟩
        rw [unhid HT]
        have HO2 := hid (ownsRow_kept (unhid HO) (fun g e => hb2.block g ((unhid HO).lt g e).2))
        have HB2 := hid ((unhid HB).trans (hb2.mono (unhid HB).size))
        clear hb2 HO HB
        obtain ⟨c0, c1, c2, c3⟩ := ((unhid HH) k e (unhid HE)).below (unhid HB2) hb
        go_wp2_with fail
        refine (specGlobHas_any g e.path hg hpe _).mono ?_
        rintro x w3 ⟨rfl, hb3⟩
        have HO3 := hid (ownsRow_kept (unhid HO2) (fun g e => hb3.block g ((unhid HO2).lt g e).2))
        have HB3 := hid ((unhid HB2).trans (hb3.mono (unhid HB2).size))
        clear hb3 HO2 HB2 c0 c1 c2 c3
        rw [show hasB g.data.toList e.path.data.toList = takenB g e from rfl]
        cases htk : takenB g e
        · cases hkb : (e.kind == 1)
          case true =>
            obtain ⟨c0, c1, c2, c3⟩ := ((unhid HH) k e (unhid HE)).below (unhid HB3) hb
            go_wp2_with fail
            refine (l2Needed_any es g e.path _ cap _ (unhid HS) hg hpe (unhid ATW _ (unhid HB3))).mono ?_
            rintro x w4 ⟨rfl, hb4⟩
            have HO4 := hid (ownsRow_kept (unhid HO3) (fun g e => hb4.block g ((unhid HO3).lt g e).2))
            have HB4 := hid ((unhid HB3).trans (hb4.mono (unhid HB3).size))
            clear hb4 HO3 HB3 c0 c1 c2 c3
            cases hnd : neededB g es e.path
            · have HYE := hid (unhid HNO (by unfold keepB; rw [htk, hkb, hnd]; rfl))
              obtain ⟨c0, c1, c2, c3⟩ := ((unhid HH) k e (unhid HE)).below (unhid HB4) hb
              go_wp2_with fail
              go_roundw
              case rel => exact ⟨k + 1, by omega, by go_num, hid (by rw [unhid HYE]; exact unhid HO4), HB4, unhid HSV⟩
              case measure => simp [intOf]; omega
            · have HYE := hid (unhid HY (by unfold keepB; rw [htk, hkb, hnd]; rfl))
              obtain ⟨c0, c1, c2, c3⟩ := ((unhid HH) k e (unhid HE)).below (unhid HB4) hb
              have hsz := (unhid HB4).size
              have HOa := hid ((unhid HO4).alloc (.cells #[.string e.path, .int .i64 e.kind, .int .i64 e.mode, .string e.text] 30))
              have HBa := hid ((unhid HB4).alloc hsz (.cells #[.string e.path, .int .i64 e.kind, .int .i64 e.mode, .string e.text] 30))
              go_wp2_with (at_builtin; refine wpList_append_own _ rfl _ _ 23 rfl w.heap.size 30 i0 _ 4 48 Tryz.underlying23 (unhid HI).1 (unhid HI).2.1 (unhid HI).2.2.1 (unhid HI).2.2.2 rfl (by decide) _ (keptP g es (es.take k)).length (valsOf (keptP g es (es.take k))) rfl (unhid HOa) ⟨w4.heap.size, 0, none⟩ 1 1 [.string e.path, .int .i64 e.kind, .int .i64 e.mode, .string e.text] rfl rfl (lit_cells w4 _ _ _ _ _) ?c2 ?c3 ?c4 ?c5 ?_)
              case c2 => intro u hu; simp at hu; rcases hu with rfl | rfl | rfl | rfl <;> rfl
              case c3 => unfold maxLen; omega
              case c4 => omega
              case c5 => simp; omega
              intro v' w9 hown hgr _
              obtain ⟨a2, cap2, rfl⟩ := ownsRow_slice hown
              have HF := hid (show w9.ownsRow w.heap.size 30 4 (.slice a2 ((keptP g es (es.take k)).length + 1) cap2) (keptP g es (es.take (k + 1))).length (valsOf (keptP g es (es.take (k + 1)))) ∧ Below w.heap.size w w9 from
                ⟨by rw [unhid HYE, List.length_append, valsOf_snoc]; exact hown, (unhid HBa).grown hgr (unhid HBa).size (fun k e => ((unhid HOa).lt k e).1)⟩)
              clear hown hgr
              go_wp2_with fail
              go_roundw
              case rel => exact ⟨k + 1, by omega, by go_num, hid (unhid HF).1, hid (unhid HF).2, owns_some (unhid HF).1 (by rw [unhid HYE]; simp)⟩
              case measure => simp [intOf]; omega
          case false =>
            have HYE := hid (unhid HNO (by unfold keepB; rw [htk, hkb]; rfl))
            obtain ⟨c0, c1, c2, c3⟩ := ((unhid HH) k e (unhid HE)).below (unhid HB3) hb
            go_wp2_with fail
            go_roundw
            case rel => exact ⟨k + 1, by omega, by go_num, hid (by rw [unhid HYE]; exact unhid HO3), HB3, unhid HSV⟩
            case measure => simp [intOf]; omega
        · have HYE := hid (unhid HY (by unfold keepB; rw [htk]; rfl))
          obtain ⟨c0, c1, c2, c3⟩ := ((unhid HH) k e (unhid HE)).below (unhid HB3) hb
          have hsz := (unhid HB3).size
          have HOa := hid ((unhid HO3).alloc (.cells #[.string e.path, .int .i64 e.kind, .int .i64 e.mode, .string e.text] 30))
          have HBa := hid ((unhid HB3).alloc hsz (.cells #[.string e.path, .int .i64 e.kind, .int .i64 e.mode, .string e.text] 30))
          go_wp2_with (at_builtin; refine wpList_append_own _ rfl _ _ 23 rfl w.heap.size 30 i0 _ 4 48 Tryz.underlying23 (unhid HI).1 (unhid HI).2.1 (unhid HI).2.2.1 (unhid HI).2.2.2 rfl (by decide) _ (keptP g es (es.take k)).length (valsOf (keptP g es (es.take k))) rfl (unhid HOa) ⟨w3.heap.size, 0, none⟩ 1 1 [.string e.path, .int .i64 e.kind, .int .i64 e.mode, .string e.text] rfl rfl (lit_cells w3 _ _ _ _ _) ?c2 ?c3 ?c4 ?c5 ?_)
          case c2 => intro u hu; simp at hu; rcases hu with rfl | rfl | rfl | rfl <;> rfl
          case c3 => unfold maxLen; omega
          case c4 => omega
          case c5 => simp; omega
          intro v' w9 hown hgr _
          obtain ⟨a2, cap2, rfl⟩ := ownsRow_slice hown
          have HF := hid (show w9.ownsRow w.heap.size 30 4 (.slice a2 ((keptP g es (es.take k)).length + 1) cap2) (keptP g es (es.take (k + 1))).length (valsOf (keptP g es (es.take (k + 1)))) ∧ Below w.heap.size w w9 from
            ⟨by rw [unhid HYE, List.length_append, valsOf_snoc]; exact hown, (unhid HBa).grown hgr (unhid HBa).size (fun k e => ((unhid HOa).lt k e).1)⟩)
          clear hown hgr
          go_wp2_with fail
          go_roundw
          case rel => exact ⟨k + 1, by omega, by go_num, hid (unhid HF).1, hid (unhid HF).2, owns_some (unhid HF).1 (by rw [unhid HYE]; simp)⟩
          case measure => simp [intOf]; omega
      · have e : k = es.length := by omega
        subst e
        rw [List.take_of_length_le (Nat.le_refl _)] at HO HSV ⊢
        go_wp2_with fail
        go_ret
        exact ⟨_, rfl, by rw [unhid E]; exact unhid HO, unhid HB, unhid HSV⟩
theorem specTreePart_any (es : List Ent) (g : ByteArray) (b o cap : Nat) (w : World) (hs : smallE es) (hg : g.size ≤ 1048576) (h : ∀ (i : Nat) e, es[i]? = some e → EntAt w b (o + i * 4) e) (hb : b < w.heap.size) :
    Calls Tryz.prog 8 #[.slice (some ⟨b, o, none⟩) es.length cap, .string g] w fun x w' => ∃ v, x = .returned v ∧ w'.ownsRow w.heap.size 30 4 v (partR g es).length (valsOf (partR g es)) ∧ Below w.heap.size w w' :=
  (specTreePart_full es g b o cap w hs hg h hb).mono (fun _ _ ⟨v, h1, h2, h3, _⟩ => ⟨v, h1, h2, h3⟩)
end Go.Proofs.YtfphpggjcljliaaGreat

/- How long a part of a tree is. -/
namespace Go.Proofs.YtfphpggjcljliaaGreat
open Go.RowKit

theorem partR_len (g : ByteArray) (es : List Ent) : (partR g es).length ≤ 100 := by
  have h1 := partL_len g (keptE es)
  have h2 := (kept_asc es).2
  unfold partR
  omega
end Go.Proofs.YtfphpggjcljliaaGreat

/- A part of a tree is a tree, of what a pattern takes, and dirs; and what the draw of a tree and a pattern gives. -/
namespace Go.Proofs.YtfphpggjcljliaaGreat
open Go.RowKit

theorem part_tree {g : ByteArray} {es : List Ent} (h : treeB es = true) : treeB (partL g es) = true := by
  obtain ⟨g1, g2, g3, g4⟩ := (tree_iff es).1 h
  refine (tree_iff _).2 ⟨fun x hx => g1 x ((partL_iff h x).1 hx).1, partL_up g2, fun x hx => ?_, Nat.le_trans (partL_len g es) g4⟩
  obtain ⟨hx1, e, he, ht, hb⟩ := (partL_iff h x).1 hx
  rcases g3 x hx1 with h0 | ⟨d, hd, hdp, hk⟩
  · exact .inl h0
  · by_cases hem : (upS x.path).toList.isEmpty = true
    · exact .inl hem
    · refine .inr ⟨d, (partL_iff h d).2 ⟨hd, e, he, ht, ?_⟩, hdp, hk⟩
      have := (inB_parts (up_in (ent_pathB (g1 x hx1)) (by simpa using hem))).2.2
      rw [← hdp] at this
      exact below_trans this hb
theorem part_there {g : ByteArray} {es : List Ent} (h : treeB es = true) {e : Ent} (he : e ∈ es) : thereE (partL g es) e.path = keepB g es e := by
  rw [Bool.eq_iff_iff, there_iff (partL_up (tree_up h))]
  constructor
  · rintro ⟨x, hx, hp⟩
    have h1 := List.mem_filter.1 hx
    have := path_uniq (tree_up h) h1.1 he hp
    subst this
    exact h1.2
  · intro hk
    exact ⟨e, List.mem_filter.2 ⟨he, hk⟩, rfl⟩
theorem deep_all : ∀ ss : List ByteArray, mat9 [.deep] ss = true
  | [] => rfl
  | s :: ss => by rw [mat_deep, deep_all ss, Bool.or_true]
theorem deep_names : namesW [42, 42] = [.deep] := by kernel_rfl
theorem deep_taken {e : Ent} (h : entB e = true) : takenB ⟨#[42, 42]⟩ e = true := by
  unfold takenB hasB
  rw [ent_pathB h]
  show (globOkB [42, 42] && (true && mat9 (namesW [42, 42]) _)) = true
  rw [deep_names, deep_all]
  decide +kernel
structure PartF (g : ByteArray) (es : List Ent) (X : List Ent) : Prop where
  tree : treeB X = true
  there : ∀ e ∈ es, thereE X e.path = keepB g es e
  all : partR ⟨#[42, 42]⟩ es = es
  again : partR g X = X
  len : X.length ≤ es.length
  count : X = keptP g es es
theorem part_facts {g : ByteArray} {es : List Ent} (h : treeB es = true) : PartF g es (partR g es) := by
  have hX : partR g es = partL g es := by unfold partR; rw [keptE_yes h]
  have hT := part_tree (g := g) h
  rw [hX]
  refine ⟨hT, fun e he => part_there h he, ?_, ?_, partL_len g es, rfl⟩
  · unfold partR
    rw [keptE_yes h]
    unfold partL
    rw [List.filter_eq_self]
    intro e he
    rw [deep_taken (tree_all h e he)]; rfl
  · unfold partR
    rw [keptE_yes hT]
    refine up_ext (partL_up (tree_up hT)) (tree_up hT) (fun x => ?_)
    rw [partL_iff hT]
    constructor
    · exact fun hx => hx.1
    · intro hx
      obtain ⟨_, e, he, ht, hb⟩ := (partL_iff h x).1 hx
      exact ⟨hx, e, (partL_iff h e).2 ⟨he, e, he, ht, belowB_refl _⟩, ht, hb⟩
theorem keep_taken {g : ByteArray} {es : List Ent} {e : Ent} (h : takenB g e = true) : keepB g es e = true := by unfold keepB; rw [h]; rfl
theorem keep_kind {g : ByteArray} {es : List Ent} {e : Ent} (h : keepB g es e = true) (ht : takenB g e = false) : e.kind = 1 := by
  unfold keepB at h
  rw [ht, Bool.false_or, Bool.and_eq_true] at h
  simpa using h.1

theorem globs_short (x y : ByteArray) (hx : x.size ≤ 100) (hy : y.size ≤ 100) : (#[Value.string ⟨#[]⟩, .string ⟨#[47]⟩, .string ⟨#[97, 47, 47, 98]⟩, .string ⟨#[91]⟩, .string ⟨#[91, 93]⟩, .string ⟨#[91, 33, 93]⟩, .string ⟨#[91, 97]⟩, .string ⟨#[65]⟩, .string ⟨#[97, 47, 98, 47, 99, 47, 100, 47, 101, 47, 102]⟩, .string x, .string y] : Array Value).toList.all shortV = true := by
  have h1 : decide (x.size ≤ 100) = true := decide_eq_true hx
  have h2 : decide (y.size ≤ 100) = true := decide_eq_true hy
  simp only [List.all_cons, List.all_nil, Bool.and_true, shortV, h1, h2]
  decide
set_option maxRecDepth 100000 in
set_option maxHeartbeats 1000000 in
theorem l11Glob_any (w : World) (b : Nat) (a : Option Addr) (len cap p : Nat) (h : Rd w b a len cap p) (hp : p ≤ 1048576) :
    Calls Tryz.prog 36 #[.pointer (some ⟨b, 0, none⟩)] w fun e w' => ∃ x, short x ∧ e = .returned (.string x) ∧ Rd w' b a len cap (p + 1) ∧ w.grownBy w' (some b) := by
  have H := hid h
  clear h
  go_enter Tryz.func36, Tryz.ntmps36
  go_wp2_with fail
  have hb := (unhid H).lt
  refine (of_any short _ b a len cap p ?h1 hp w.heap.size 16 16 ?h2 (by omega) (by omega) ?h5).mono ?_
  case h1 => exact (unhid H).alloc _
  case h2 => omega
  case h5 => exact fun k hk => row_short w _ _ (by kernel_rfl) k hk
  rintro e w1 ⟨x, hx, rfl, hR, hG⟩
  have hG' := grown_trans (World.grownBy_alloc w _ (some b)) hG
  have HR := hid hR
  have HG := hid hG'
  clear hR hG hG'
  go_wp2_with fail
  go_ret
  exact ⟨x, hx, rfl, unhid HR, unhid HG⟩
set_option maxRecDepth 100000 in
set_option maxHeartbeats 1000000 in
theorem l11AnyGlob_any (w : World) (b : Nat) (a : Option Addr) (len cap p : Nat) (h : Rd w b a len cap p) (hp : p ≤ 1000000) :
    Calls Tryz.prog 15 #[.pointer (some ⟨b, 0, none⟩)] w fun e w' => ∃ x, short x ∧ e = .returned (.string x) ∧ Rd w' b a len cap (p + 1 + 1) ∧ w.grownBy w' (some b) := by
  have H := hid h
  clear h
  go_enter Tryz.func15, Tryz.ntmps15
  go_wp2_with fail
  refine (pick_any w b a len cap p (unhid H) (by omega) 6 (by omega) (by omega)).mono ?_
  rintro e w1 ⟨r, hr, rfl, hR, hG⟩
  have HR := hid hR
  have HG := hid hG
  clear hR hG
  by_cases h0 : r = 0
  · subst h0
    have hz1 : (rep ⟨#[42]⟩ 41).size ≤ 100 := by rw [rep_size]; decide
    have hz2 : (rep ⟨#[42]⟩ 40).size ≤ 100 := by rw [rep_size]; decide
    go_wp2_with fail
    refine (many_rep ⟨#[42]⟩ 41 (by decide) (by omega) w1).mono ?_
    rintro e w1' ⟨rfl, e1⟩
    rw [e1]
    clear e1 w1'
    generalize rep ⟨#[42]⟩ 41 = x1 at hz1
    go_wp2_with fail
    refine (many_rep ⟨#[42]⟩ 40 (by decide) (by omega) w1).mono ?_
    rintro e w1' ⟨rfl, e1⟩
    rw [e1]
    clear e1 w1'
    generalize rep ⟨#[42]⟩ 40 = x2 at hz2
    go_wp2_with fail
    have hb := (unhid HR).lt
    refine (of_any short _ b a len cap (p + 1) ?h1 (by omega) w1.heap.size 11 11 ?h2 (by omega) (by omega) ?h5).mono ?_
    case h1 => exact (unhid HR).alloc _
    case h2 => omega
    case h5 => exact fun k hk => row_short w1 _ _ (globs_short x1 x2 hz1 hz2) k hk
    rintro e w2 ⟨x, hx, rfl, hR, hG⟩
    have hG' := grown_trans (unhid HG) (grown_trans (World.grownBy_alloc w1 _ (some b)) hG)
    have HR2 := hid hR
    have HG2 := hid hG'
    clear hR hG hG'
    go_wp2_with fail
    go_ret
    exact ⟨x, hx, rfl, unhid HR2, unhid HG2⟩
  · have h0' : ((r : Int) == 0) = false := by rw [beq_eq_false_iff_ne]; omega
    go_wp2_with fail
    refine (l11Glob_any w1 b a len cap (p + 1) (unhid HR) (by omega)).mono ?_
    rintro e w2 ⟨x, hx, rfl, hR, hG⟩
    have hG' := grown_trans (unhid HG) hG
    have HR2 := hid hR
    have HG2 := hid hG'
    clear hR hG hG'
    go_wp2_with fail
    go_ret
    exact ⟨x, hx, rfl, unhid HR2, unhid HG2⟩
set_option maxRecDepth 100000 in
set_option maxHeartbeats 2000000 in
theorem DrawTreePart_any (w : World) (a : Option Addr) (len cap : Nat) (h : Code w w.heap.size a len) (hl : len ≤ 1048576) (hc : len ≤ cap) :
    Calls Tryz.prog 5 #[.slice a len cap] w fun x w' => ∃ v y, x = .returned (.tuple #[v, .string y]) ∧ short y ∧ ∃ es, Drawn w w' v es := by
  have H := hid h
  clear h
  go_enter Tryz.func5, Tryz.ntmps5
  go_wp2_with fail
  refine (l1Open_any w a len cap (unhid H) hl hc).mono ?_
  rintro e w1 ⟨rfl, ⟨l', c', hR⟩, hB⟩
  have HR := hid hR
  have HB := hid hB
  clear hR hB H
  go_wp2_with fail
  refine (l11AnyTree_any w1 _ a l' c' 0 (unhid HR) (by omega)).mono ?_
  rintro e w2 ⟨v, rfl, es, hT⟩
  have HT := hid hT
  have hlt := (unhid HR).lt
  clear hT HR
  go_wp2_with fail
  obtain ⟨q, hq, hR⟩ := (unhid HT).rd
  refine (l11AnyGlob_any w2 _ a l' c' q hR (by omega)).mono ?_
  rintro e w3 ⟨y, hy, rfl, hr, hG⟩
  have HF := hid (drawn_of (w := w) ((unhid HT).read hlt hG (q := q + 2) ⟨_, Nat.le_refl _, hr⟩) (unhid HB) (Nat.le_refl _))
  clear hr hG hR HT
  go_wp2_with fail
  go_ret2
  exact ⟨_, _, rfl, hy, es, unhid HF⟩
end Go.Proofs.YtfphpggjcljliaaGreat
