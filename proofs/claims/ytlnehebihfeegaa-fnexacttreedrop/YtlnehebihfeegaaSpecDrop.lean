/- What is left of a tree without a place, by the model. -/
import Derived.Test.YtlnehebihfeegaaTreeDrop
namespace Go.Proofs.Ytlnehebihfeegaa
open Go.RowKit Go.Shelf

def dropB (p : ByteArray) (es : List Ent) : List Ent := es.filter fun e => !belowB p.data.toList e.path.data.toList
theorem dropB_snoc_yes {p : ByteArray} {es : List Ent} {k : Nat} {e : Ent} (he : es[k]? = some e) (h : belowB p.data.toList e.path.data.toList = false) : dropB p (es.take (k + 1)) = dropB p (es.take k) ++ [e] := by
  unfold dropB; rw [List.take_add_one, he, List.filter_append]; simp [h]
theorem dropB_snoc_no {p : ByteArray} {es : List Ent} {k : Nat} {e : Ent} (he : es[k]? = some e) (h : belowB p.data.toList e.path.data.toList = true) : dropB p (es.take (k + 1)) = dropB p (es.take k) := by
  unfold dropB; rw [List.take_add_one, he, List.filter_append]; simp [h]

set_option maxRecDepth 100000 in
set_option maxHeartbeats 4000000 in
theorem l2Drop_any (es : List Ent) (p : ByteArray) (b o cap : Nat) (w : World) (hs : smallE es) (hp : p.size ≤ 1048576) (h : ∀ (i : Nat) e, es[i]? = some e → EntAt w b (o + i * 4) e) (hb : b < w.heap.size) :
    Calls Try.prog 65 #[.slice (some ⟨b, o, none⟩) es.length cap, .string p] w fun x w' => ∃ v, x = .returned v ∧ w'.ownsRow w.heap.size 27 4 v (dropB p es).length (valsOf (dropB p es)) ∧ Below w.heap.size w w' := by
  obtain ⟨i0, hi0, hz0, hzs, hzb⟩ := info_parts infoEntry
  have HI := hid (And.intro hi0 (And.intro hz0 (And.intro hzs hzb)))
  have hn := hs.1
  have HS := hid hs
  have HH := hid h
  have HF0 := hid (And.intro (owns_empty w w.heap.size (Nat.le_refl _) 27) ((Below.refl w.heap.size w).alloc (Nat.le_refl _) (.cells #[] 27)))
  clear hi0 hz0 hzs hzb hs h
  go_enter Try.func65, Try.ntmps65
  go_wp2_with fail
  go_loopw [5, 6] (fun v i wr => ∃ k : Nat, k ≤ es.length ∧ i = .int .i64 (k : Int) ∧ Hid (wr.ownsRow w.heap.size 27 4 v (dropB p (es.take k)).length (valsOf (dropB p (es.take k)))) ∧ Hid (Below w.heap.size w wr)) (fun _ i _ => es.length - (intOf i).toNat)
  case atStart => exact ⟨0, Nat.zero_le _, rfl, hid (by simp [dropB, valsOf]; exact (unhid HF0).1), hid (unhid HF0).2⟩
  case round =>
    obtain ⟨k, hk, rfl, HO, HB⟩ := hrel
    obtain ⟨va, vc, rfl⟩ := ownsRow_slice (unhid HO)
    by_cases hlt : k < es.length
    · obtain ⟨e, he⟩ : ∃ e, es[k]? = some e := ⟨es[k], List.getElem?_eq_getElem hlt⟩
      obtain ⟨c0, c1, c2, c3⟩ := ((unhid HH) k e he).below (unhid HB) hb
      have hpe := ((unhid HS).2 e (List.mem_of_getElem? he)).1
      have hdl : (dropB p (es.take k)).length ≤ es.length := Nat.le_trans (List.length_filter_le _ _) (by simp; omega)
      cases hbl : belowB p.data.toList e.path.data.toList
      · have HE := hid (dropB_snoc_yes he hbl)
        clear he
        go_wp2_with fail
        refine (l1Below_any p e.path (by unfold maxLen; omega) (by unfold maxLen; omega) _).mono ?_
        rintro x w2 ⟨rfl, e2⟩
        subst e2
        rw [hbl]
        have hsz := (unhid HB).size
        have HO2 := hid ((unhid HO).alloc (.cells #[.string e.path, .int .i64 e.kind, .int .i64 e.mode, .string e.text] 27))
        have HB2 := hid ((unhid HB).alloc hsz (.cells #[.string e.path, .int .i64 e.kind, .int .i64 e.mode, .string e.text] 27))
        go_wp2_with (at_builtin; refine wpList_append_own _ rfl _ _ 23 rfl w.heap.size 27 i0 _ 4 48 Try.underlying23 (unhid HI).1 (unhid HI).2.1 (unhid HI).2.2.1 (unhid HI).2.2.2 rfl (by decide) _ (dropB p (es.take k)).length (valsOf (dropB p (es.take k))) rfl (unhid HO2) ⟨w2.heap.size, 0, none⟩ 1 1 [.string e.path, .int .i64 e.kind, .int .i64 e.mode, .string e.text] rfl rfl (lit_cells w2 _ _ _ _ _) ?c2 ?c3 ?c4 ?c5 ?_)
        case c2 => intro u hu; simp at hu; rcases hu with rfl | rfl | rfl | rfl <;> rfl
        case c3 => unfold maxLen; omega
        case c4 => omega
        case c5 => simp; omega
        intro v' w3 hown hg _
        obtain ⟨a2, cap2, rfl⟩ := ownsRow_slice hown
        have HF := hid (show w3.ownsRow w.heap.size 27 4 (.slice a2 ((dropB p (es.take k)).length + 1) cap2) (dropB p (es.take (k + 1))).length (valsOf (dropB p (es.take (k + 1)))) ∧ Below w.heap.size w w3 from
          ⟨by rw [unhid HE, List.length_append, valsOf_snoc]; exact hown, (unhid HB2).grown hg (unhid HB2).size (fun k e => ((unhid HO2).lt k e).1)⟩)
        clear hown hg
        go_wp2_with fail
        go_roundw
        case rel => exact ⟨k + 1, by omega, by go_num, hid (unhid HF).1, hid (unhid HF).2⟩
        case measure => simp [intOf]; omega
      · have HE := hid (dropB_snoc_no he hbl)
        clear he
        go_wp2_with fail
        refine (l1Below_any p e.path (by unfold maxLen; omega) (by unfold maxLen; omega) _).mono ?_
        rintro x w2 ⟨rfl, e2⟩
        subst e2
        rw [hbl]
        go_wp2_with fail
        go_roundw
        case rel => exact ⟨k + 1, by omega, by go_num, hid (by rw [unhid HE]; exact unhid HO), HB⟩
        case measure => simp [intOf]; omega
    · have e : k = es.length := by omega
      subst e
      rw [List.take_of_length_le (Nat.le_refl _)] at HO ⊢
      go_wp2_with fail
      go_ret
      exact ⟨_, rfl, unhid HO, unhid HB⟩
end Go.Proofs.Ytlnehebihfeegaa
