/- What the model's NeedGet answers; what is put is got, and what is got is put (the laws' FnNeedText). -/
import Derived.Test.YtobalkbddefaiaaGetMath
namespace Go.Proofs.Ytobalkbddefaiaa
open Go.RowKit

theorem getV_form (s : ByteArray) (e : Nat) : ∃ n k v b, getV s e = needV n k v b := by
  unfold getV
  repeat' split
  all_goals exact ⟨_, _, _, _, rfl⟩

set_option maxRecDepth 100000 in
set_option maxHeartbeats 2000000 in
theorem specNeedGet_any (s : ByteArray) (hs : s.size ≤ 1048576) (w : World) :
    Calls Try.prog 19 #[.string s] w fun e W' => (∃ k, MarkEnd s k ∧ e = .returned (specV s k)) ∧ Below w.heap.size w W' := by
  go_enter Try.func19, Try.ntmps19
  go_wp2_with fail
  refine (l3Get_any s hs _).mono ?_
  rintro e w1 ⟨⟨k, hM, rfl⟩, hb⟩
  have HM := hid hM
  have HB := hid hb
  clear hM hb
  have HB1 := hid ((unhid HB).alloc (unhid HB).size (.cells #[.string (nameA s k), .int .i64 (spKV (restA s k) 4).1, .string (spKV (restA s k) 4).2] 30))
  obtain ⟨⟨c0, f0⟩, ⟨c1, f1⟩, c2, f2⟩ := (needAt_new w ⟨#[]⟩ 0 ⟨#[]⟩ 30).below (unhid HB1) (by simp)
  clear HB
  unfold needV
  cases hx : spOk s (nameA s k) (restA s k)
  · have E := hid (show specV s k = needV ⟨#[]⟩ 0 ⟨#[]⟩ false by simp [specV, hx])
    generalize hn : nameA s k = nm at *
    generalize (spKV (restA s k) 4).1 = K at *
    generalize (spKV (restA s k) 4).2 = V at *
    go_wp2_with fail
    refine bodyPost_ret (v := needV ⟨#[]⟩ 0 ⟨#[]⟩ false) (by simp [results, Try.results19, go_sem, needV, World.cell?_setCell_same', c0, c1, c2]) rfl ⟨⟨k, unhid HM, by rw [unhid E]⟩, ?_⟩
    exact ((((Below.refl _ w).alloc (Nat.le_refl _) _).trans ((unhid HB1).mono (by simp))).setCell (Nat.le_refl _) _ |>.setCell (Nat.le_refl _) _).setCell (Nat.le_refl _) _
  · have E := hid (show specV s k = needV (nameA s k) (spKV (restA s k) 4).1 (spKV (restA s k) 4).2 true by simp [specV, hx])
    generalize hn : nameA s k = nm at *
    generalize (spKV (restA s k) 4).1 = K at *
    generalize (spKV (restA s k) 4).2 = V at *
    go_wp2_with fail
    refine bodyPost_ret (v := needV nm K V true) (by simp [results, Try.results19, go_sem, needV, World.cell?_setCell_same', c0, c1, c2]) rfl ⟨⟨k, unhid HM, by rw [unhid E]⟩, ?_⟩
    exact ((((Below.refl _ w).alloc (Nat.le_refl _) _).trans ((unhid HB1).mono (by simp))).setCell (Nat.le_refl _) _ |>.setCell (Nat.le_refl _) _).setCell (Nat.le_refl _) _


theorem put_data (n : ByteArray) (k : Int) (v : ByteArray) : (putA n k v).data.toList = n.data.toList ++ ((markA k).data.toList ++ v.data.toList) := by
  unfold putA
  rw [ByteArray.data_append, ByteArray.data_append, Array.toList_append, Array.toList_append, List.append_assoc]
theorem needB_cases {n v : List UInt8} {k : Int} (h : needB n k v = true) : packB n = true ∧ ((k = 0 ∧ v = []) ∨ k = 1 ∨ k = 2 ∨ k = 3) := by
  unfold needB at h
  rw [Bool.and_eq_true] at h
  refine ⟨h.1, ?_⟩
  have h2 := h.2
  unfold askB at h2
  by_cases hk : k = 0
  · rw [if_pos hk] at h2
    exact .inl ⟨hk, by simpa using h2⟩
  · rw [if_neg hk] at h2
    simp only [Bool.and_eq_true, decide_eq_true_eq] at h2
    omega
theorem head_mark {k : Int} (hk : k = 1 ∨ k = 2 ∨ k = 3) : ∃ c t, (markA k).data.toList = c :: t ∧ packC (c.toNat : Int) = false ∧ (k = 1 ∧ c = 61 ∨ k = 2 ∧ c = 62 ∨ k = 3 ∧ c = 60) := by
  rcases hk with rfl | rfl | rfl
  · exact ⟨61, [], rfl, by decide, .inl ⟨rfl, rfl⟩⟩
  · exact ⟨62, [61], rfl, by decide, .inr (.inl ⟨rfl, rfl⟩)⟩
  · exact ⟨60, [], rfl, by decide, .inr (.inr ⟨rfl, rfl⟩)⟩
theorem at_data (s : ByteArray) (j : Nat) (hj : j < s.size) : s.data.toList[j]? = some s[j] := by
  rw [List.getElem?_eq_getElem (by simpa using hj)]; rfl
theorem end_put {n v : ByteArray} {k : Int} {e : Nat} (h : needB n.data.toList k v.data.toList = true) (hP : PackEnd (putA n k v) e) : e = n.data.toList.length := by
  obtain ⟨hp, hk⟩ := needB_cases h
  obtain ⟨he, p1, p2⟩ := hP
  have hs := put_data n k v
  have hz : (putA n k v).size = (putA n k v).data.toList.length := by simp
  have hall : ∀ c ∈ n.data.toList, packC (c.toNat : Int) = true := by
    unfold packB at hp
    simp only [Bool.and_eq_true, List.all_eq_true] at hp
    exact hp.2
  rcases Nat.lt_trichotomy e n.data.toList.length with hlt | heq | hgt
  · have hes : e < (putA n k v).size := by rw [hz, hs, List.length_append]; omega
    have h1 := at_data _ e hes
    rw [hs, List.getElem?_append_left hlt, List.getElem?_eq_getElem hlt] at h1
    have h2 := p2 hes
    rw [← Option.some.inj h1, hall _ (List.getElem_mem hlt)] at h2
    cases h2
  · exact heq
  · rcases hk with ⟨rfl, hv⟩ | hk
    · rw [hz, hs, hv] at he
      have z : (markA 0).data.toList = [] := rfl
      rw [z] at he
      simp only [List.append_nil] at he
      omega
    · obtain ⟨c, t, hm, hc, -⟩ := head_mark hk
      have hes : n.data.toList.length < (putA n k v).size := by rw [hz, hs, hm, List.length_append]; simp
      have h1 := at_data _ _ hes
      rw [hs, List.getElem?_append_right (Nat.le_refl _), Nat.sub_self, hm] at h1
      have h2 := p1 _ hes hgt
      have h3 : c = (putA n k v)[n.data.toList.length] := Option.some.inj h1
      rw [← h3, hc] at h2
      cases h2
theorem cut_data {r m : ByteArray} {t : List UInt8} (h : r.data.toList = m.data.toList ++ t) : (cutA r m).data.toList = t := by
  have e1 : m.size = m.data.toList.length := Lib.size_eq _
  have e2 : r.size = r.data.toList.length := Lib.size_eq _
  unfold cutA
  rw [if_pos (has_mk h), Lib.extract_data, e2, h, e1, List.drop_left, List.take_of_length_le (by simp)]
theorem get_put {n v : ByteArray} {k : Int} {e : Nat} (h : needB n.data.toList k v.data.toList = true) (hP : PackEnd (putA n k v) e) : getV (putA n k v) e = needV n k v true := by
  obtain rfl := end_put h hP
  obtain ⟨hp, hk⟩ := needB_cases h
  have hs := put_data n k v
  have hn : nameA (putA n k v) n.data.toList.length = n := byteArray_ext (by rw [name_data, hs, List.take_left])
  have hr : (restA (putA n k v) n.data.toList.length).data.toList = (markA k).data.toList ++ v.data.toList := by rw [rest_data, hs, List.drop_left]
  have hcut : cutA (restA (putA n k v) n.data.toList.length) (markA k) = v := byteArray_ext (cut_data hr)
  have ht : tryB (putA n k v) n.data.toList.length k = true := by
    unfold tryB preB
    rw [has_mk hr, hn, hcut, h]; rfl
  generalize hS : putA n k v = s at *
  generalize n.data.toList.length = e at *
  rcases hk with ⟨rfl, hv⟩ | hk
  · have := getV_hit s e 0 (by omega) (fun i hi => by omega) ht
    rw [this]
    show needV (nameA s e) 0 (cutA (restA s e) (markA 0)) true = _
    rw [hn, hcut]
  · obtain ⟨c, t, hm, hc, hkc⟩ := head_mark hk
    have hr2 : (restA s e).data.toList = c :: (t ++ v.data.toList) := by rw [hr, hm]; rfl
    obtain ⟨j, rfl, hj⟩ : ∃ j : Nat, k = (j : Int) ∧ (j = 1 ∨ j = 2 ∨ j = 3) := ⟨k.toNat, by omega, by omega⟩
    have := getV_hit s e j (by omega) (fun i hi => by
      by_cases hi0 : i = 0
      · subst hi0
        show tryB s e 0 = false
        unfold tryB
        rw [needB_0 (by rw [cut0_data, hr2]; simp), Bool.and_false]
      · unfold tryB preB
        rw [has_no hr2 i ?_]
        · rfl
        · rcases hkc with ⟨h1, rfl⟩ | ⟨h1, rfl⟩ | ⟨h1, rfl⟩
          · omega
          · exact .inl ⟨by omega, by decide⟩
          · rcases (by omega : i = 1 ∨ i = 2) with rfl | rfl
            · exact .inl ⟨rfl, by decide⟩
            · exact .inr (.inl ⟨rfl, by decide⟩)) ht
    rw [this, hn, hcut]
theorem get_nil {e : Nat} : getV ⟨#[]⟩ e = needV ⟨#[]⟩ 0 ⟨#[]⟩ false := by
  refine getV_none _ _ fun i _ => ?_
  unfold tryB
  have : packB (nameA ⟨#[]⟩ e).data.toList = false := by
    rw [name_data]
    show packB (List.take e []) = false
    rw [List.take_nil]; rfl
  rw [needB_p this, Bool.and_false]
theorem put_none {n v : ByteArray} {k : Int} (h : needB n.data.toList k v.data.toList = false) : needPutA n k v = ⟨#[]⟩ := by simp [needPutA, h]
theorem put_some {n v : ByteArray} {k : Int} (h : needB n.data.toList k v.data.toList = true) : needPutA n k v = putA n k v := by simp [needPutA, h]
theorem put_ne {n v : ByteArray} {k : Int} (h : needB n.data.toList k v.data.toList = true) : (putA n k v).data.toList ≠ [] := by
  have hp := (needB_cases h).1
  rw [put_data]
  intro h0
  have h1 : n.data.toList = [] := (List.append_eq_nil_iff.1 h0).1
  rw [h1] at hp
  cases hp
theorem get_back_at {s : ByteArray} {e j : Nat} (ht : tryB s e j = true) : needPutA (nameA s e) j (cutA (restA s e) (markA j)) = s := by
  unfold tryB preB at ht
  rw [Bool.and_eq_true] at ht
  rw [put_some ht.2]
  have h1 := put_back ht.1
  have hc : cutA (restA s e) (markA j) = (restA s e).extract (markA j).size (restA s e).size := by unfold cutA; rw [if_pos ht.1]
  rw [hc]
  refine byteArray_ext ?_
  rw [beq_iff_eq, Lib.toList_data, Lib.toList_data] at h1
  exact h1
theorem needV_inj {n n' v v' : ByteArray} {k k' : Int} {b b' : Bool} (h : needV n k v b = needV n' k' v' b') : n = n' ∧ k = k' ∧ v = v' ∧ b = b' := by
  unfold needV at h
  simp only [Value.tuple.injEq, Array.mk.injEq, List.cons.injEq, Value.agg.injEq, Value.string.injEq, Value.int.injEq, Value.bool.injEq, true_and, and_true] at h
  exact ⟨h.1.1, h.1.2.1, h.1.2.2, h.2⟩
theorem get_back {s n v : ByteArray} {e : Nat} {k : Int} (h : getV s e = needV n k v true) : needPutA n k v = s := by
  unfold getV at h
  split at h
  · rename_i ht
    obtain ⟨rfl, rfl, rfl, -⟩ := needV_inj h
    exact get_back_at (j := 0) ht
  split at h
  · rename_i ht
    obtain ⟨rfl, rfl, rfl, -⟩ := needV_inj h
    exact get_back_at (j := 1) ht
  split at h
  · rename_i ht
    obtain ⟨rfl, rfl, rfl, -⟩ := needV_inj h
    exact get_back_at (j := 2) ht
  split at h
  · rename_i ht
    obtain ⟨rfl, rfl, rfl, -⟩ := needV_inj h
    exact get_back_at (j := 3) ht
  · exact absurd (needV_inj h).2.2.2 (by decide)
end Go.Proofs.Ytobalkbddefaiaa
